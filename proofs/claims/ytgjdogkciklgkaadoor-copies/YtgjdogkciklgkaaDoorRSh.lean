/-
  Package ratchet's Shared and Public.
-/
import Derived.Test.YtgjdogkciklgkaaDoorSumSh
import Derived.Test.YtgjdogkciklgkaaDoorRefPub
import Derived.Test.YtgjdogkciklgkaaDoorKeys
namespace Go.Proofs.YtgjdogkciklgkaaDoor
open Go.RowKit

set_option maxRecDepth 100000 in
set_option maxHeartbeats 1000000 in
theorem rSharedGood (s q : List UInt8) (hs : s.length = 32) (hq : q.length = 32) (w : World) :
    Calls Tryd.prog 16 #[.string (str s), .string (str q)] w fun e w' => e = .returned (.tuple #[.string (str (x25519 s q)), .nilIface]) ∧ Bel w.heap.size w w' := by
  have HK : Hid (keysB [s, q] = true) := by show keysB [s, q] = true; simp [keysB]; omega
  go_enter Tryd.func16, Tryd.ntmps16
  go_wp2_with fail
  refine (areKeysP w.heap.size [s, q] (by simp) _ (strs2 w s q) (by intro x hx; simp at hx; rcases hx with rfl | rfl <;> (unfold maxLen; omega))).mono ?_
  rintro e w1 ⟨rfl, rfl⟩
  rw [HK.out]
  have HB : Hid (Bel w.heap.size w (w.alloc (.cells #[.string (str s), .string (str q)] 9))) := (Bel.refl _ _).alloc (Nat.le_refl _) _
  generalize w.alloc (.cells #[.string (str s), .string (str q)] 9) = w2 at *
  go_wp2_with fail
  refine (sharedP s q hs hq _).mono ?_
  rintro e w3 ⟨rfl, hb3⟩
  have HB3 := hide (HB.out.trans (hb3.mono HB.out.size))
  clear hb3
  generalize hy : x25519 s q = y at *
  have HY := hide hy
  clear hy
  go_wp2
  go_ret2
  exact ⟨by rw [HY.out]; rfl, HB3.out⟩

set_option maxRecDepth 100000 in
set_option maxHeartbeats 1000000 in
theorem rSharedBad (s q : List UInt8) (hb : s.length ≠ 32 ∨ q.length ≠ 32) (ms : s.length ≤ maxLen) (mq : q.length ≤ maxLen) (a : Addr) (w : World) (hE : w.cell? ⟨1, 0, none⟩ = some (.iface 161 (.pointer (some a)))) :
    Calls Tryd.prog 16 #[.string (str s), .string (str q)] w fun e w' => e = .returned (.tuple #[.string ⟨#[]⟩, .iface 161 (.pointer (some a))]) ∧ Bel w.heap.size w w' := by
  have HK : Hid (keysB [s, q] = false) := by
    show keysB [s, q] = false
    simp only [keysB, List.all_cons, List.all_nil, Bool.and_true, Bool.and_eq_false_iff, decide_eq_false_iff_not]
    exact hb
  have MS := hide ms
  have MQ := hide mq
  clear ms mq hb
  have hlt := cell_lt hE
  go_enter Tryd.func16, Tryd.ntmps16
  go_wp2_with fail
  refine (areKeysP w.heap.size [s, q] (by simp) _ (strs2 w s q) (by intro x hx; simp at hx; rcases hx with rfl | rfl; exact MS.out; exact MQ.out)).mono ?_
  rintro e w1 ⟨rfl, rfl⟩
  rw [HK.out]
  have HB : Hid (Bel w.heap.size w (w.alloc (.cells #[.string (str s), .string (str q)] 9))) := (Bel.refl _ _).alloc (Nat.le_refl _) _
  have hE2 : (w.alloc (.cells #[.string (str s), .string (str q)] 9)).cell? ⟨1, 0, none⟩ = some (.iface 161 (.pointer (some a))) := (HB.out.cell (p := ⟨1, 0, none⟩) hlt).trans hE
  clear hE
  generalize w.alloc (.cells #[.string (str s), .string (str q)] 9) = w2 at *
  go_wp2_with fail
  go_quiet (fail)
  go_wp2
  go_ret2
  exact ⟨rfl, belowN HB.out _⟩

theorem strNine : str nine = ⟨#[9, 0, 0, 0, 0, 0, 0, 0, 0, 0, 0, 0, 0, 0, 0, 0, 0, 0, 0, 0, 0, 0, 0, 0, 0, 0, 0, 0, 0, 0, 0, 0]⟩ := rfl

set_option maxRecDepth 100000 in
set_option maxHeartbeats 1000000 in
theorem rPublicGood (s : List UInt8) (hs : s.length = 32) (w : World) :
    Calls Tryd.prog 15 #[.string (str s)] w fun e w' => e = .returned (.tuple #[.string (str (x25519 s nine)), .nilIface]) ∧ Bel w.heap.size w w' := by
  go_enter Tryd.func15, Tryd.ntmps15
  go_wp2_with fail
  rw [← strNine]
  refine (rSharedGood s nine hs nine_length _).mono ?_
  rintro e w3 ⟨rfl, hb3⟩
  have HB3 := hide hb3
  clear hb3
  generalize hy : x25519 s nine = y at *
  have HY := hide hy
  clear hy
  go_wp2
  go_ret2
  exact ⟨by rw [HY.out]; rfl, HB3.out⟩

set_option maxRecDepth 100000 in
set_option maxHeartbeats 1000000 in
theorem rPublicBad (s : List UInt8) (hs : s.length ≠ 32) (ms : s.length ≤ maxLen) (a : Addr) (w : World) (hE : w.cell? ⟨1, 0, none⟩ = some (.iface 161 (.pointer (some a)))) :
    Calls Tryd.prog 15 #[.string (str s)] w fun e w' => e = .returned (.tuple #[.string ⟨#[]⟩, .iface 161 (.pointer (some a))]) ∧ Bel w.heap.size w w' := by
  have HE := hide hE
  have MS := hide ms
  clear hE ms
  go_enter Tryd.func15, Tryd.ntmps15
  go_wp2_with fail
  rw [← strNine]
  refine (rSharedBad s nine (.inl hs) MS.out (by rw [nine_length]; decide) a _ HE.out).mono ?_
  rintro e w3 ⟨rfl, hb3⟩
  have HB3 := hide hb3
  clear hb3
  go_wp2
  go_ret2
  exact ⟨rfl, HB3.out⟩
end Go.Proofs.YtgjdogkciklgkaaDoor
