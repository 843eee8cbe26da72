/-
  The document's 'big'.
-/
import Derived.Test.YtlchpbnpmgfaoaaDoorStr
namespace Go.Proofs.YtlchpbnpmgfaoaaDoor
open Go.RowKit

theorem byte_eq (n m : Nat) : UInt8.ofNat ((n : Int) / 2 ^ (8 * m) % 256).toNat = UInt8.ofNat (n / 256 ^ m) := by
  have e : (n : Int) / 2 ^ (8 * m) % 256 = ((n / 256 ^ m % 256 : Nat) : Int) := by
    have h : (256 : Nat) ^ m = 2 ^ (8 * m) := by rw [show (256 : Nat) = 2 ^ 8 from rfl, ← Nat.pow_mul]
    rw [h, Int.natCast_emod, Int.natCast_ediv, Int.natCast_pow]
    rfl
  rw [e, Int.toNat_natCast, ofNat_mod]

set_option maxRecDepth 100000 in
set_option maxHeartbeats 1000000 in
theorem refBig (n size : Nat) (hs : size ≤ 8) (w : World) :
    Calls Tryd.prog 77 #[.int .i64 n, .int .i64 size] w fun e w' => e = .returned (.string (str (bigB n size))) ∧ Bel w.heap.size w w' := by
  go_enter Tryd.func77, Tryd.ntmps77
  go_wp2
  go_loopw [5, 6] (fun v t wr => ∃ (m : Nat) (l : List UInt8), m ≤ size ∧ t = .int .i64 ((m : Int) - 1) ∧ v = .string (str l) ∧ l ++ bigB n m = bigB n size ∧ Bel w.heap.size w wr) (fun _ t _ => (intOf t + 1).toNat)
  case atStart => exact ⟨size, [], Nat.le_refl _, rfl, rfl, rfl, Bel.refl _ _⟩
  case round =>
    obtain ⟨m, l, hm, rfl, rfl, hl, hB⟩ := hrel
    have HL := hide hl
    have HB := hide hB
    clear hl hB
    cases m with
    | zero =>
      go_wp2
      go_ret
      refine ⟨?_, HB.out⟩
      have h := HL.out
      rw [bigB, List.append_nil] at h
      rw [← h]
      rfl
    | succ m =>
      rw [show ((m + 1 : Nat) : Int) - 1 = (m : Int) by omega]
      have hlen : l.length + (m + 1) = size := by
        have := congrArg List.length HL.out
        rw [List.length_append, bigB_length, bigB_length] at this
        exact this
      have hc := conv1 ((n : Int) / 2 ^ (8 * m) % 256) wr
      have ha := fun w => addS l [UInt8.ofNat ((n : Int) / 2 ^ (8 * m) % 256).toNat] (by simp; omega) w
      have HE : Hid (UInt8.ofNat ((n : Int) / 2 ^ (8 * m) % 256).toNat = UInt8.ofNat (n / 256 ^ m)) := byte_eq n m
      generalize UInt8.ofNat ((n : Int) / 2 ^ (8 * m) % 256).toNat = u at *
      go_wp2
      refine ⟨⟨m, l ++ [u], by omega, rfl, rfl, ?_, HB.out.alloc HB.out.size _⟩, by simp [intOf]⟩
      rw [HE.out, List.append_assoc]
      exact HL.out
theorem refBigI (n size : Int) (hn0 : 0 ≤ n) (hs0 : 0 ≤ size) (hs : size ≤ 8) (w : World) :
    Calls Tryd.prog 77 #[.int .i64 n, .int .i64 size] w fun e w' => e = .returned (.string (str (bigB n.toNat size.toNat))) ∧ Bel w.heap.size w w' := by
  obtain ⟨a, rfl⟩ := Int.eq_ofNat_of_zero_le hn0
  obtain ⟨b, rfl⟩ := Int.eq_ofNat_of_zero_le hs0
  exact refBig a b (by omega) w
end Go.Proofs.YtlchpbnpmgfaoaaDoor
