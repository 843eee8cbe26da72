/-
  Package ratchet's Seal and Open.
-/
import Derived.Test.YtlchpbnpmgfaoaaDoorBoxP
import Derived.Test.YtlchpbnpmgfaoaaDoorKeys
namespace Go.Proofs.YtlchpbnpmgfaoaaDoor
open Go.RowKit

theorem keys1 (k : List UInt8) : keysB [k] = decide (k.length = 32) := by simp [keysB]

set_option maxRecDepth 100000 in
set_option maxHeartbeats 1000000 in
theorem rSealLong (k ad t : List UInt8) (hl : 68 < ad.length ∨ 64 < t.length) (hd : ad.length ≤ maxLen) (ht : t.length ≤ maxLen) (a : Addr) (w : World) (hE : w.cell? ⟨0, 0, none⟩ = some (.iface 160 (.pointer (some a)))) :
    Calls Tryd.prog 17 #[.string (str k), .string (str ad), .string (str t)] w fun e w' => e = .returned (.tuple #[.string ⟨#[]⟩, .iface 160 (.pointer (some a))]) ∧ Bel w.heap.size w w' := by
  have hzd := str_size ad
  have hzt := str_size t
  have hd' : ad.length ≤ 9223372036854775807 := by unfold maxLen at hd; omega
  have ht' : t.length ≤ 9223372036854775807 := by unfold maxLen at ht; omega
  clear hd ht
  by_cases h1 : 68 < ad.length
  · clear hl
    go_enter Tryd.func17, Tryd.ntmps17
    go_wp2_with fail
    go_quiet (fail)
    go_wp2
    go_ret2
    exact ⟨rfl, belowN (Bel.refl _ _) _⟩
  · have h2 : 64 < t.length := by omega
    clear hl
    go_enter Tryd.func17, Tryd.ntmps17
    go_wp2_with fail
    go_quiet (fail)
    go_wp2
    go_ret2
    exact ⟨rfl, belowN (Bel.refl _ _) _⟩

set_option maxRecDepth 100000 in
set_option maxHeartbeats 1000000 in
theorem rSealKey (k ad t : List UInt8) (hd : ad.length ≤ 68) (ht : t.length ≤ 64) (hk : k.length ≠ 32) (hm : k.length ≤ maxLen) (a : Addr) (w : World) (hE : w.cell? ⟨1, 0, none⟩ = some (.iface 160 (.pointer (some a)))) :
    Calls Tryd.prog 17 #[.string (str k), .string (str ad), .string (str t)] w fun e w' => e = .returned (.tuple #[.string ⟨#[]⟩, .iface 160 (.pointer (some a))]) ∧ Bel w.heap.size w w' := by
  have hzd := str_size ad
  have hzt := str_size t
  have HM := hide hm
  have HK : Hid (keysB [k] = false) := by show keysB [k] = false; rw [keys1, decide_eq_false hk]
  have hlt := cell_lt hE
  clear hk hm
  go_enter Tryd.func17, Tryd.ntmps17
  go_wp2_with fail
  refine (areKeysP w.heap.size [k] (by simp) _ (strs1 w k) (by intro s hs; simp at hs; subst hs; exact HM.out)).mono ?_
  rintro e w1 ⟨rfl, rfl⟩
  rw [HK.out]
  have HB : Hid (Bel w.heap.size w (w.alloc (.cells #[.string (str k)] 9))) := (Bel.refl _ _).alloc (Nat.le_refl _) _
  have hE2 : (w.alloc (.cells #[.string (str k)] 9)).cell? ⟨1, 0, none⟩ = some (.iface 160 (.pointer (some a))) := (HB.out.cell (p := ⟨1, 0, none⟩) hlt).trans hE
  clear hE
  generalize w.alloc (.cells #[.string (str k)] 9) = w2 at *
  go_wp2_with fail
  go_quiet (fail)
  go_wp2
  go_ret2
  exact ⟨rfl, belowN HB.out _⟩

set_option maxRecDepth 100000 in
set_option maxHeartbeats 1000000 in
theorem sealTextP (k ad t : List UInt8) (hd : ad.length ≤ 68) (ht : t.length ≤ 64) (hk : k.length = 32) (w : World) (hT : Tab w) :
    Calls Tryd.prog 31 #[.string (str k), .string (str ad), .string (str t)] w fun e w' => e = .returned (.string (str (sealL k ad t))) ∧ Bel w.heap.size w w' := by
  have HT := hide hT
  have HS : Hid (sealL k ad t = boxL (k1 k) t ++ tagL (k2 k) ad (boxL (k1 k) t)) := rfl
  clear hT
  go_enter Tryd.func31, Tryd.ntmps31
  go_wp2_with fail
  refine (sealKeysP k hk _ HT.out).mono ?_
  rintro e w3 ⟨rfl, hb3⟩
  have HB3 := hide hb3
  clear hb3
  have l1 := k1_length k
  have l2 := k2_length k
  generalize k1 k = x1 at *
  generalize k2 k = x2 at *
  go_wp2_with fail
  refine (hiddenP x1 t (by omega) (by omega) _ (HT.out.below HB3.out)).mono ?_
  rintro e w4 ⟨rfl, hb4⟩
  have HB4 := hide (HB3.out.trans (hb4.mono HB3.out.size))
  clear hb4 HB3
  have lb := boxL_length x1 t
  generalize boxL x1 t = b at *
  go_wp2_with fail
  refine (tagP x2 ad b (by omega) (by omega) (by omega) _ (HT.out.below HB4.out)).mono ?_
  rintro e w5 ⟨rfl, hb5⟩
  have HB5 := hide (HB4.out.trans (hb5.mono HB4.out.size))
  clear hb5 HB4
  have lt := tagL_length x2 ad b
  have ha := addS b (tagL x2 ad b) (by omega)
  generalize tagL x2 ad b = g at *
  go_wp2
  go_ret
  refine ⟨?_, HB5.out⟩
  rw [HS.out]
  rfl

set_option maxRecDepth 100000 in
set_option maxHeartbeats 1000000 in
theorem rSealOk (k ad t : List UInt8) (hd : ad.length ≤ 68) (ht : t.length ≤ 64) (hk : k.length = 32) (w : World) (hT : Tab w) :
    Calls Tryd.prog 17 #[.string (str k), .string (str ad), .string (str t)] w fun e w' => e = .returned (.tuple #[.string (str (sealL k ad t)), .nilIface]) ∧ Bel w.heap.size w w' := by
  have hzd := str_size ad
  have hzt := str_size t
  have HK : Hid (keysB [k] = true) := by show keysB [k] = true; rw [keys1, decide_eq_true hk]
  have HT := hide hT
  clear hT
  go_enter Tryd.func17, Tryd.ntmps17
  go_wp2_with fail
  refine (areKeysP w.heap.size [k] (by simp) _ (strs1 w k) (by intro s hs; simp at hs; subst hs; unfold maxLen; omega)).mono ?_
  rintro e w1 ⟨rfl, rfl⟩
  rw [HK.out]
  have HB : Hid (Bel w.heap.size w (w.alloc (.cells #[.string (str k)] 9))) := (Bel.refl _ _).alloc (Nat.le_refl _) _
  generalize w.alloc (.cells #[.string (str k)] 9) = w2 at *
  go_wp2_with fail
  refine (sealTextP k ad t hd ht hk _ (HT.out.below HB.out)).mono ?_
  rintro e w3 ⟨rfl, hb3⟩
  have HB3 := hide (HB.out.trans (hb3.mono HB.out.size))
  clear hb3 HB
  generalize hy : sealL k ad t = y at *
  have HY := hide hy
  clear hy
  go_wp2
  go_ret2
  exact ⟨by rw [HY.out]; rfl, HB3.out⟩
end Go.Proofs.YtlchpbnpmgfaoaaDoor
