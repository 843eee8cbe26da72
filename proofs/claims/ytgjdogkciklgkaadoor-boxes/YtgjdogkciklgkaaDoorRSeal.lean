/-
  Package ratchet's Seal and Open.
-/
import Derived.Test.YtgjdogkciklgkaaDoorSo
namespace Go.Proofs.YtgjdogkciklgkaaDoor
open Go.RowKit

set_option maxRecDepth 100000 in
set_option maxHeartbeats 1000000 in
theorem rSealLong (k ad t : List UInt8) (hl : 68 < ad.length ∨ 64 < t.length) (hd : ad.length ≤ maxLen) (ht : t.length ≤ maxLen) (a : Addr) (w : World) (hE : w.cell? ⟨0, 0, none⟩ = some (.iface 161 (.pointer (some a)))) :
    Calls Tryd.prog 17 #[.string (str k), .string (str ad), .string (str t)] w fun e w' => e = .returned (.tuple #[.string ⟨#[]⟩, .iface 161 (.pointer (some a))]) ∧ Bel w.heap.size w w' := by
  have hzd := str_size ad
  have hzt := str_size t
  have hd' : ad.length ≤ 9223372036854775807 := by unfold maxLen at hd; omega
  have ht' : t.length ≤ 9223372036854775807 := by unfold maxLen at ht; omega
  clear hd ht
  by_cases h1 : 68 < ad.length
  · clear hl
    go_enter Tryd.func17, Tryd.ntmps17
    go_wp2_with fail
    go_quiet (fail)
    go_wp2
    go_ret2
    exact ⟨rfl, belowN (Bel.refl _ _) _⟩
  · have h2 : 64 < t.length := by omega
    clear hl
    go_enter Tryd.func17, Tryd.ntmps17
    go_wp2_with fail
    go_quiet (fail)
    go_wp2
    go_ret2
    exact ⟨rfl, belowN (Bel.refl _ _) _⟩

set_option maxRecDepth 100000 in
set_option maxHeartbeats 1000000 in
theorem rSealKey (k ad t : List UInt8) (hd : ad.length ≤ 68) (ht : t.length ≤ 64) (hk : k.length ≠ 32) (hm : k.length ≤ maxLen) (a : Addr) (w : World) (hE : w.cell? ⟨1, 0, none⟩ = some (.iface 161 (.pointer (some a)))) :
    Calls Tryd.prog 17 #[.string (str k), .string (str ad), .string (str t)] w fun e w' => e = .returned (.tuple #[.string ⟨#[]⟩, .iface 161 (.pointer (some a))]) ∧ Bel w.heap.size w w' := by
  have hzd := str_size ad
  have hzt := str_size t
  have HM := hide hm
  have HK : Hid (keysB [k] = false) := by show keysB [k] = false; rw [keys1, decide_eq_false hk]
  have hlt := cell_lt hE
  clear hk hm
  go_enter Tryd.func17, Tryd.ntmps17
  go_wp2_with fail
  refine (areKeysP w.heap.size [k] (by simp) _ (strs1 w k) (by intro s hs; simp at hs; subst hs; exact HM.out)).mono ?_
  rintro e w1 ⟨rfl, rfl⟩
  rw [HK.out]
  have HB : Hid (Bel w.heap.size w (w.alloc (.cells #[.string (str k)] 9))) := (Bel.refl _ _).alloc (Nat.le_refl _) _
  have hE2 : (w.alloc (.cells #[.string (str k)] 9)).cell? ⟨1, 0, none⟩ = some (.iface 161 (.pointer (some a))) := (HB.out.cell (p := ⟨1, 0, none⟩) hlt).trans hE
  clear hE
  generalize w.alloc (.cells #[.string (str k)] 9) = w2 at *
  go_wp2_with fail
  go_quiet (fail)
  go_wp2
  go_ret2
  exact ⟨rfl, belowN HB.out _⟩

set_option maxRecDepth 100000 in
set_option maxHeartbeats 1000000 in
theorem rSealOk (k ad t : List UInt8) (hd : ad.length ≤ 68) (ht : t.length ≤ 64) (hk : k.length = 32) (w : World) (hT : Tab w) :
    Calls Tryd.prog 17 #[.string (str k), .string (str ad), .string (str t)] w fun e w' => e = .returned (.tuple #[.string (str (sealL k ad t)), .nilIface]) ∧ Bel w.heap.size w w' := by
  have hzd := str_size ad
  have hzt := str_size t
  have HK : Hid (keysB [k] = true) := by show keysB [k] = true; rw [keys1, decide_eq_true hk]
  have HT := hide hT
  clear hT
  go_enter Tryd.func17, Tryd.ntmps17
  go_wp2_with fail
  refine (areKeysP w.heap.size [k] (by simp) _ (strs1 w k) (by intro s hs; simp at hs; subst hs; unfold maxLen; omega)).mono ?_
  rintro e w1 ⟨rfl, rfl⟩
  rw [HK.out]
  have HB : Hid (Bel w.heap.size w (w.alloc (.cells #[.string (str k)] 9))) := (Bel.refl _ _).alloc (Nat.le_refl _) _
  generalize w.alloc (.cells #[.string (str k)] 9) = w2 at *
  go_wp2_with fail
  refine (sealTextP k ad t hd ht hk _ (HT.out.below HB.out)).mono ?_
  rintro e w3 ⟨rfl, hb3⟩
  have HB3 := hide (HB.out.trans (hb3.mono HB.out.size))
  clear hb3 HB
  generalize hy : sealL k ad t = y at *
  have HY := hide hy
  clear hy
  go_wp2
  go_ret2
  exact ⟨by rw [HY.out]; rfl, HB3.out⟩
end Go.Proofs.YtgjdogkciklgkaaDoor
