/-
  The document's Public.
-/
import Derived.Test.YtgjdogkciklgkaaDoorRs
namespace Go.Proofs.YtgjdogkciklgkaaDoor
open Go.RowKit

def nine : List UInt8 := 9 :: List.replicate 31 0
theorem nine_length : nine.length = 32 := rfl

set_option maxRecDepth 100000 in
set_option maxHeartbeats 1000000 in
theorem publicR (s : List UInt8) (hs : s.length = 32) (w : World) :
    Calls Tryd.prog 79 #[.string (str s)] w fun e w' => e = .returned (.string (str (x25519 s nine))) ∧ Bel w.heap.size w w' := by
  have HN : Hid ((9 : UInt8) :: List.replicate 31 0 = nine) := rfl
  go_enter Tryd.func79, Tryd.ntmps79
  go_wp2
  go_loopw [3] (fun v wr => ∃ k : Nat, k ≤ 31 ∧ v = .string (str (9 :: List.replicate k 0)) ∧ wr = w) (fun v _ => 32 - strLen v)
  case atStart => exact ⟨0, Nat.zero_le _, rfl, rfl⟩
  case round =>
    obtain ⟨k, hk, rfl, rfl⟩ := hrel
    have hz : (str (9 :: List.replicate k 0)).size = k + 1 := by rw [str_size]; simp
    by_cases hk2 : k < 31
    · have ha := addS (9 :: List.replicate k 0) [0] (by simp; omega)
      have e : (9 :: List.replicate k 0) ++ [(0 : UInt8)] = 9 :: List.replicate (k + 1) 0 := by rw [List.replicate_succ', List.cons_append]
      rw [e] at ha
      have ha : ∀ w : World, (Op.stringOp .add (str (9 :: List.replicate k 0)) ⟨#[0]⟩).run Tryd.prog w = .ok (.string (str (9 :: List.replicate (k + 1) 0))) w := ha
      have hz2 : (str (9 :: List.replicate (k + 1) 0)).size = k + 2 := by rw [str_size]; simp
      have HZ := hide hz
      have HZ2 := hide hz2
      clear e hz2
      generalize ha1 : str (9 :: List.replicate (k + 1) 0) = s2 at *
      have HA1 := hide ha1
      clear ha1
      generalize str (9 :: List.replicate k 0) = s1 at *
      go_wp2
      go_roundw
      case rel => exact ⟨k + 1, by omega, by rw [HA1.out], trivial⟩
      case measure =>
        simp only [strLen]
        rw [HZ.out, HZ2.out]
        omega
    · have h31 : k = 31 := by omega
      subst h31
      rw [HN.out] at hz ⊢
      go_wp2_with fail
      refine (sharedR s nine hs nine_length _).mono ?_
      rintro e w2 ⟨rfl, hb2⟩
      have HB := hide hb2
      clear hb2
      go_wp2
      go_ret
      exact ⟨rfl, HB.out⟩
end Go.Proofs.YtgjdogkciklgkaaDoor
