/-
  Package ratchet's sealText.
-/
import Derived.Test.YtgjdogkciklgkaaDoorBx
import Derived.Test.YtgjdogkciklgkaaDoorKeys
namespace Go.Proofs.YtgjdogkciklgkaaDoor
open Go.RowKit

theorem keys1 (k : List UInt8) : keysB [k] = decide (k.length = 32) := by simp [keysB]

set_option maxRecDepth 100000 in
set_option maxHeartbeats 1000000 in
theorem sealTextP (k ad t : List UInt8) (hd : ad.length ≤ 68) (ht : t.length ≤ 64) (hk : k.length = 32) (w : World) (hT : Tab w) :
    Calls Tryd.prog 31 #[.string (str k), .string (str ad), .string (str t)] w fun e w' => e = .returned (.string (str (sealL k ad t))) ∧ Bel w.heap.size w w' := by
  have HT := hide hT
  have HS : Hid (sealL k ad t = boxL (k1 k) t ++ tagL (k2 k) ad (boxL (k1 k) t)) := rfl
  clear hT
  go_enter Tryd.func31, Tryd.ntmps31
  go_wp2_with fail
  refine (sealKeysP k hk _ HT.out).mono ?_
  rintro e w3 ⟨rfl, hb3⟩
  have HB3 := hide hb3
  clear hb3
  have l1 := k1_length k
  have l2 := k2_length k
  generalize k1 k = x1 at *
  generalize k2 k = x2 at *
  go_wp2_with fail
  refine (hiddenP x1 t (by omega) (by omega) _ (HT.out.below HB3.out)).mono ?_
  rintro e w4 ⟨rfl, hb4⟩
  have HB4 := hide (HB3.out.trans (hb4.mono HB3.out.size))
  clear hb4 HB3
  have lb := boxL_length x1 t
  generalize boxL x1 t = b at *
  go_wp2_with fail
  refine (tagP x2 ad b (by omega) (by omega) (by omega) _ (HT.out.below HB4.out)).mono ?_
  rintro e w5 ⟨rfl, hb5⟩
  have HB5 := hide (HB4.out.trans (hb5.mono HB4.out.size))
  clear hb5 HB4
  have lt := tagL_length x2 ad b
  have ha := addS b (tagL x2 ad b) (by omega)
  generalize tagL x2 ad b = g at *
  go_wp2
  go_ret
  refine ⟨?_, HB5.out⟩
  rw [HS.out]
  rfl
end Go.Proofs.YtgjdogkciklgkaaDoor
namespace Go.Proofs.YtgjdogkciklgkaaDoor
open Go.RowKit

set_option maxRecDepth 100000 in
set_option maxHeartbeats 1000000 in
theorem rOpenLong (k ad t : List UInt8) (hl : 68 < ad.length ∨ 80 < t.length) (hd : ad.length ≤ maxLen) (ht : t.length ≤ maxLen) (a : Addr) (w : World) (hE : w.cell? ⟨0, 0, none⟩ = some (.iface 161 (.pointer (some a)))) :
    Calls Tryd.prog 18 #[.string (str k), .string (str ad), .string (str t)] w fun e w' => e = .returned (.tuple #[.string ⟨#[]⟩, .iface 161 (.pointer (some a))]) ∧ Bel w.heap.size w w' := by
  have hzd := str_size ad
  have hzt := str_size t
  have hd' : ad.length ≤ 9223372036854775807 := by unfold maxLen at hd; omega
  have ht' : t.length ≤ 9223372036854775807 := by unfold maxLen at ht; omega
  clear hd ht
  by_cases h1 : 68 < ad.length
  · clear hl
    go_enter Tryd.func18, Tryd.ntmps18
    go_wp2_with fail
    go_quiet (fail)
    go_wp2
    go_ret2
    exact ⟨rfl, belowN (Bel.refl _ _) _⟩
  · have h2 : 80 < t.length := by omega
    clear hl
    go_enter Tryd.func18, Tryd.ntmps18
    go_wp2_with fail
    go_quiet (fail)
    go_wp2
    go_ret2
    exact ⟨rfl, belowN (Bel.refl _ _) _⟩

set_option maxRecDepth 100000 in
set_option maxHeartbeats 1000000 in
theorem rOpenKey (k ad t : List UInt8) (hd : ad.length ≤ 68) (ht : t.length ≤ 80) (hk : k.length ≠ 32) (hm : k.length ≤ maxLen) (a : Addr) (w : World) (hE : w.cell? ⟨1, 0, none⟩ = some (.iface 161 (.pointer (some a)))) :
    Calls Tryd.prog 18 #[.string (str k), .string (str ad), .string (str t)] w fun e w' => e = .returned (.tuple #[.string ⟨#[]⟩, .iface 161 (.pointer (some a))]) ∧ Bel w.heap.size w w' := by
  have hzd := str_size ad
  have hzt := str_size t
  have HM := hide hm
  have HK : Hid (keysB [k] = false) := by show keysB [k] = false; rw [keys1, decide_eq_false hk]
  have hlt := cell_lt hE
  clear hk hm
  go_enter Tryd.func18, Tryd.ntmps18
  go_wp2_with fail
  refine (areKeysP w.heap.size [k] (by simp) _ (strs1 w k) (by intro s hs; simp at hs; subst hs; exact HM.out)).mono ?_
  rintro e w1 ⟨rfl, rfl⟩
  rw [HK.out]
  have HB : Hid (Bel w.heap.size w (w.alloc (.cells #[.string (str k)] 9))) := (Bel.refl _ _).alloc (Nat.le_refl _) _
  have hE2 : (w.alloc (.cells #[.string (str k)] 9)).cell? ⟨1, 0, none⟩ = some (.iface 161 (.pointer (some a))) := (HB.out.cell (p := ⟨1, 0, none⟩) hlt).trans hE
  clear hE
  generalize w.alloc (.cells #[.string (str k)] 9) = w2 at *
  go_wp2_with fail
  go_quiet (fail)
  go_wp2
  go_ret2
  exact ⟨rfl, belowN HB.out _⟩

set_option maxRecDepth 100000 in
set_option maxHeartbeats 1000000 in
theorem rOpenShort (k ad t : List UInt8) (hd : ad.length ≤ 68) (ht : t.length < 16) (hk : k.length = 32) (a : Addr) (w : World) (hE : w.cell? ⟨3, 0, none⟩ = some (.iface 161 (.pointer (some a)))) :
    Calls Tryd.prog 18 #[.string (str k), .string (str ad), .string (str t)] w fun e w' => e = .returned (.tuple #[.string ⟨#[]⟩, .iface 161 (.pointer (some a))]) ∧ Bel w.heap.size w w' := by
  have hzd := str_size ad
  have hzt := str_size t
  have HK : Hid (keysB [k] = true) := by show keysB [k] = true; rw [keys1, decide_eq_true hk]
  have hlt := cell_lt hE
  go_enter Tryd.func18, Tryd.ntmps18
  go_wp2_with fail
  refine (areKeysP w.heap.size [k] (by simp) _ (strs1 w k) (by intro s hs; simp at hs; subst hs; unfold maxLen; omega)).mono ?_
  rintro e w1 ⟨rfl, rfl⟩
  rw [HK.out]
  have HB : Hid (Bel w.heap.size w (w.alloc (.cells #[.string (str k)] 9))) := (Bel.refl _ _).alloc (Nat.le_refl _) _
  have hE2 : (w.alloc (.cells #[.string (str k)] 9)).cell? ⟨3, 0, none⟩ = some (.iface 161 (.pointer (some a))) := (HB.out.cell (p := ⟨3, 0, none⟩) hlt).trans hE
  clear hE
  generalize w.alloc (.cells #[.string (str k)] 9) = w2 at *
  go_wp2_with fail
  go_quiet (fail)
  go_wp2
  go_ret2
  exact ⟨rfl, belowN HB.out _⟩

/-- Is the tag that of the box? -/
def goodTag (k ad s : List UInt8) : Prop := s.drop (s.length - 16) = tagL (k2 k) ad (s.take (s.length - 16))
instance (k ad s : List UInt8) : Decidable (goodTag k ad s) := inferInstanceAs (Decidable (_ = _))

set_option maxRecDepth 100000 in
set_option maxHeartbeats 1000000 in
theorem rOpenBad (k ad t : List UInt8) (hd : ad.length ≤ 68) (ht : 16 ≤ t.length) (ht2 : t.length ≤ 80) (hk : k.length = 32) (hg : ¬ goodTag k ad t) (a : Addr) (w : World) (hT : Tab w) (hE : w.cell? ⟨3, 0, none⟩ = some (.iface 161 (.pointer (some a)))) :
    Calls Tryd.prog 18 #[.string (str k), .string (str ad), .string (str t)] w fun e w' => e = .returned (.tuple #[.string ⟨#[]⟩, .iface 161 (.pointer (some a))]) ∧ Bel w.heap.size w w' := by
  have hzd := str_size ad
  have hzt := str_size t
  have HK : Hid (keysB [k] = true) := by show keysB [k] = true; rw [keys1, decide_eq_true hk]
  have hlt := cell_lt hE
  have HT := hide hT
  have HG : Hid (decide (t.drop (t.length - 16) = tagL (k2 k) ad (t.take (t.length - 16))) = false) := decide_eq_false hg
  have HE := hide hE
  clear hT hg hE
  go_enter Tryd.func18, Tryd.ntmps18
  go_wp2_with fail
  refine (areKeysP w.heap.size [k] (by simp) _ (strs1 w k) (by intro s hs; simp at hs; subst hs; unfold maxLen; omega)).mono ?_
  rintro e w1 ⟨rfl, rfl⟩
  rw [HK.out]
  have HB : Hid (Bel w.heap.size w (w.alloc (.cells #[.string (str k)] 9))) := (Bel.refl _ _).alloc (Nat.le_refl _) _
  generalize w.alloc (.cells #[.string (str k)] 9) = w2 at *
  go_wp2_with fail
  refine (sealKeysP k hk _ (HT.out.below HB.out)).mono ?_
  rintro e w3 ⟨rfl, hb3⟩
  have HB3 := hide (HB.out.trans (hb3.mono HB.out.size))
  clear hb3 HB
  have l1 := k1_length k
  have l2 := k2_length k
  generalize k1 k = x1 at *
  generalize k2 k = x2 at *
  have hx := sliceHi t ((t.length : Int) - 16) (t.length - 16) (by omega) (by omega)
  have hy := sliceLo t ((t.length : Int) - 16) (t.length - 16) (by omega) (by omega)
  have lt1 : (t.take (t.length - 16)).length ≤ 64 := by rw [List.length_take]; omega
  have lt2 : (t.drop (t.length - 16)).length = 16 := by rw [List.length_drop]; omega
  generalize t.take (t.length - 16) = b at *
  generalize t.drop (t.length - 16) = given at *
  go_wp2_with fail
  go_quiet (fail)
  go_wp2_with fail
  refine (tagP x2 ad b (by omega) (by omega) (by omega) _ (HT.out.below (belowN HB3.out _))).mono ?_
  rintro e w5 ⟨rfl, hb5⟩
  have HB5 := hide ((belowN HB3.out _).trans (hb5.mono HB3.out.size))
  clear hb5 HB3
  have lt := tagL_length x2 ad b
  go_wp2_with fail
  refine (sameTagP given (tagL x2 ad b) lt2 lt _).mono ?_
  rintro e w6 ⟨rfl, hb6⟩
  have HB6 := hide (HB5.out.trans (hb6.mono HB5.out.size))
  rw [HG.out]
  clear hb6 HB5 hx hy
  have hE6 : w6.cell? ⟨3, 0, none⟩ = some (.iface 161 (.pointer (some a))) := (HB6.out.cell (p := ⟨3, 0, none⟩) hlt).trans HE.out
  go_wp2_with fail
  go_quiet (fail)
  go_wp2
  go_ret2
  exact ⟨rfl, belowN HB6.out _⟩

set_option maxRecDepth 100000 in
set_option maxHeartbeats 1000000 in
theorem rOpenOk (k ad t : List UInt8) (hd : ad.length ≤ 68) (ht : 16 ≤ t.length) (ht2 : t.length ≤ 80) (hk : k.length = 32) (hg : goodTag k ad t) (w : World) (hT : Tab w) :
    Calls Tryd.prog 18 #[.string (str k), .string (str ad), .string (str t)] w fun e w' => e = .returned (.tuple #[.string (str (boxL (k1 k) (t.take (t.length - 16)))), .nilIface]) ∧ Bel w.heap.size w w' := by
  have hzd := str_size ad
  have hzt := str_size t
  have HK : Hid (keysB [k] = true) := by show keysB [k] = true; rw [keys1, decide_eq_true hk]
  have HT := hide hT
  have HG : Hid (decide (t.drop (t.length - 16) = tagL (k2 k) ad (t.take (t.length - 16))) = true) := decide_eq_true hg
  clear hT hg
  obtain ⟨res, hres⟩ : ∃ r, r = boxL (k1 k) (t.take (t.length - 16)) := ⟨_, rfl⟩
  rw [← hres]
  have HRES := hide hres
  clear hres
  go_enter Tryd.func18, Tryd.ntmps18
  go_wp2_with fail
  refine (areKeysP w.heap.size [k] (by simp) _ (strs1 w k) (by intro s hs; simp at hs; subst hs; unfold maxLen; omega)).mono ?_
  rintro e w1 ⟨rfl, rfl⟩
  rw [HK.out]
  have HB : Hid (Bel w.heap.size w (w.alloc (.cells #[.string (str k)] 9))) := (Bel.refl _ _).alloc (Nat.le_refl _) _
  generalize w.alloc (.cells #[.string (str k)] 9) = w2 at *
  go_wp2_with fail
  refine (sealKeysP k hk _ (HT.out.below HB.out)).mono ?_
  rintro e w3 ⟨rfl, hb3⟩
  have HB3 := hide (HB.out.trans (hb3.mono HB.out.size))
  clear hb3 HB
  have l1 := k1_length k
  have l2 := k2_length k
  generalize k1 k = x1 at *
  generalize k2 k = x2 at *
  have hx := sliceHi t ((t.length : Int) - 16) (t.length - 16) (by omega) (by omega)
  have hy := sliceLo t ((t.length : Int) - 16) (t.length - 16) (by omega) (by omega)
  have lt1 : (t.take (t.length - 16)).length ≤ 64 := by rw [List.length_take]; omega
  have lt2 : (t.drop (t.length - 16)).length = 16 := by rw [List.length_drop]; omega
  generalize t.take (t.length - 16) = b at *
  generalize t.drop (t.length - 16) = given at *
  go_wp2_with fail
  go_quiet (fail)
  go_wp2_with fail
  refine (tagP x2 ad b (by omega) (by omega) (by omega) _ (HT.out.below (belowN HB3.out _))).mono ?_
  rintro e w5 ⟨rfl, hb5⟩
  have HB5 := hide ((belowN HB3.out _).trans (hb5.mono HB3.out.size))
  clear hb5 HB3
  have lt := tagL_length x2 ad b
  go_wp2_with fail
  refine (sameTagP given (tagL x2 ad b) lt2 lt _).mono ?_
  rintro e w6 ⟨rfl, hb6⟩
  have HB6 := hide (HB5.out.trans (hb6.mono HB5.out.size))
  rw [HG.out]
  clear hb6 HB5 hx hy
  go_wp2_with fail
  refine (hiddenP x1 b (by omega) (by omega) _ (HT.out.below HB6.out)).mono ?_
  rintro e w7 ⟨rfl, hb7⟩
  have HB7 := hide (HB6.out.trans (hb7.mono HB6.out.size))
  clear hb7 HB6
  go_wp2
  go_ret2
  refine ⟨?_, HB7.out⟩
  rw [HRES.out]
  rfl
end Go.Proofs.YtgjdogkciklgkaaDoor
