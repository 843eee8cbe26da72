/-
  The words of a state as bytes.
-/
import Derived.Test.YtgjdogkciklgkaaDoorLow
namespace Go.Proofs.YtgjdogkciklgkaaDoor

/-- The words of a state as bytes, its first j words. -/
def outTo (s : St) (j : Nat) : List UInt8 := ((s.toList.take j).map fun x => bigB x 4).flatten
theorem outTo_succ (s : St) (j : Nat) (hj : j < 8) : outTo s j ++ bigB (s.toList.getD j 0) 4 = outTo s (j + 1) := by
  unfold outTo
  rw [List.take_succ_eq_append_getElem (show j < s.toList.length from hj), List.map_append, List.flatten_append, getD_in _ _ (show j < s.toList.length from hj)]
  simp
theorem outTo_length (s : St) (j : Nat) (hj : j ≤ 8) : (outTo s j).length = 4 * j := by
  unfold outTo
  simp only [List.length_flatten, List.map_map]
  have : (List.map (List.length ∘ fun x => bigB x 4) (s.toList.take j)) = List.replicate j 4 := by
    apply List.ext_getElem
    · simp [St.toList]; omega
    · intro n h1 h2
      simp [bigB_length]
  rw [this]
  simp
  omega
theorem outTo_all (s : St) : outTo s 8 = (s.toList.map fun x => bigB x 4).flatten := rfl
theorem St.getD_lt {s : St} (h : s.ok) (j : Nat) : s.toList.getD j 0 < 4294967296 := by
  obtain ⟨a0, a1, a2, a3, a4, a5, a6, a7⟩ := h
  apply _root_.Go.Proofs.YtgjdogkciklgkaaDoor.getD_lt
  intro x hx
  simp only [St.toList, List.mem_cons, List.not_mem_nil, or_false] at hx
  rcases hx with rfl | rfl | rfl | rfl | rfl | rfl | rfl | rfl <;> assumption
end Go.Proofs.YtgjdogkciklgkaaDoor
