/-
  The program's numbers: five limbs of 51 bits: plain.
-/
import Derived.Test.YtlchpbnpmgfaoaaDoorRefPlus
namespace Go.Proofs.YtlchpbnpmgfaoaaDoor
open Go.RowKit

def V51 (g : Nat → Nat) : Nat := sumB 2251799813685248 g 5
def Ok51 (g : Nat → Nat) : Prop := g 0 < 2251799813685504 ∧ ∀ i, 0 < i → i < 5 → g i < 2251799813685248
def Is51 (g : Nat → Nat) (m : Nat) : Prop := Ok51 g ∧ V51 g % PR = m
/-- One round of carrying. -/
def cr51 (g : Nat → Nat) (i : Nat) : Nat := crry 2251799813685248 0 g i
def lo51 (g : Nat → Nat) (i : Nat) : Nat := (cr51 g i + g i) % 2251799813685248
def set51 (g : Nat → Nat) (i : Nat) : Nat := if i = 0 then lo51 g 0 + 19 * cr51 g 5 else lo51 g i
theorem lo51_lt (g : Nat → Nat) (i : Nat) : lo51 g i < 2251799813685248 := Nat.mod_lt _ (by decide)
theorem set51_val (g : Nat → Nat) : V51 (set51 g) + cr51 g 5 * PR = V51 g := by
  have h1 := sumB_crry 2251799813685248 0 g 5
  have h2 := sumB_set 2251799813685248 (lo51 g) 0 (lo51 g 0 + 19 * cr51 g 5) 5 (by decide)
  have h3 : V51 (set51 g) = sumB 2251799813685248 (fun i => if i = 0 then lo51 g 0 + 19 * cr51 g 5 else lo51 g i) 5 := rfl
  have h4 : sumB 2251799813685248 (fun i => (crry 2251799813685248 0 g i + g i) % 2251799813685248) 5 = sumB 2251799813685248 (lo51 g) 5 := rfl
  have h5 : crry 2251799813685248 0 g 5 = cr51 g 5 := rfl
  rw [h4, h5, ← PR_eq', Nat.mul_add] at h1
  rw [← h3] at h2
  rw [Nat.pow_zero] at h2
  unfold V51 at *
  omega
theorem set51_mod (g : Nat → Nat) : V51 (set51 g) % PR = V51 g % PR := by
  rw [← set51_val g, Nat.add_mul_mod_self_right]
/-- What may be settled. -/
def Pre51 (g : Nat → Nat) : Prop := g 0 < 576460752303423488 ∧ ∀ i, 0 < i → i < 5 → g i < 18014398509481984
theorem cr51_lt (g : Nat → Nat) (h : Pre51 g) : ∀ i, i ≤ 5 → cr51 g i ≤ 256
  | 0, _ => Nat.zero_le _
  | 1, _ => by
    show (0 + g 0) / 2251799813685248 ≤ 256
    have := h.1
    omega
  | i + 2, hi => by
    have h1 := cr51_lt g h (i + 1) (by omega)
    have h2 := h.2 (i + 1) (by omega) (by omega)
    show (cr51 g (i + 1) + g (i + 1)) / 2251799813685248 ≤ 256
    omega
theorem cr51_five (g : Nat → Nat) (h : Pre51 g) : cr51 g 5 ≤ 8 := by
  have h1 := cr51_lt g h 4 (by decide)
  have h2 := h.2 4 (by decide) (by decide)
  show (cr51 g 4 + g 4) / 2251799813685248 ≤ 8
  omega
theorem set51_ok (g : Nat → Nat) (h : Pre51 g) : Ok51 (set51 g) := by
  refine ⟨?_, fun i h0 _ => ?_⟩
  · have h1 := cr51_five g h
    have h2 := lo51_lt g 0
    show lo51 g 0 + 19 * cr51 g 5 < _
    omega
  · unfold set51
    rw [if_neg (by omega)]
    exact lo51_lt g i
theorem V51_lt {g : Nat → Nat} (h : Ok51 g) : V51 g < PR + 19 + 256 := by
  have hset := sumB_set 2251799813685248 g 0 2251799813685247 5 (by decide)
  have hlt := sumB_lt 2251799813685248 (by decide) (fun i => if i = 0 then 2251799813685247 else g i) 5 (fun i hi => by
    show (if i = 0 then 2251799813685247 else g i) < 2251799813685248
    by_cases e : i = 0
    · rw [if_pos e]; decide
    · rw [if_neg e]; exact h.2 i (by omega) hi)
  rw [Nat.pow_zero] at hset
  rw [← PR_eq'] at hlt
  have h0 := h.1
  unfold V51
  omega
def pl51 (a b : Nat → Nat) (i : Nat) : Nat := a i + b i
theorem pl51_pre {a b : Nat → Nat} (ha : Ok51 a) (hb : Ok51 b) : Pre51 (pl51 a b) := by
  refine ⟨?_, fun i h0 hi => ?_⟩
  · have h1 := ha.1
    have h2 := hb.1
    show a 0 + b 0 < _
    omega
  · have h1 := ha.2 i h0 hi
    have h2 := hb.2 i h0 hi
    show a i + b i < _
    omega
theorem pl51_is {a b : Nat → Nat} {x y : Nat} (ha : Is51 a x) (hb : Is51 b y) : Is51 (set51 (pl51 a b)) (addM x y) := by
  refine ⟨set51_ok _ (pl51_pre ha.1 hb.1), ?_⟩
  rw [set51_mod, ← ha.2, ← hb.2]
  unfold addM
  rw [← Nat.add_mod]
  show sumB 2251799813685248 (fun i => a i + b i) 5 % PR = _
  rw [sumB_add]
  rfl
/-- Twice the prime is added ahead of a difference. -/
def tw (i : Nat) : Nat := if i = 0 then 4503599627370458 else 4503599627370494
theorem tw_val : sumB 2251799813685248 tw 5 = 2 * PR := by decide +kernel
def mi51 (a b : Nat → Nat) (i : Nat) : Nat := a i + tw i - b i
theorem mi51_pre {a b : Nat → Nat} (ha : Ok51 a) : Pre51 (mi51 a b) := by
  refine ⟨?_, fun i h0 hi => ?_⟩
  · have h1 := ha.1
    show a 0 + 4503599627370458 - b 0 < _
    omega
  · have h1 := ha.2 i h0 hi
    have h2 : tw i = 4503599627370494 := if_neg (by omega)
    show a i + tw i - b i < _
    omega
theorem mi51_val {a b : Nat → Nat} (hb : Ok51 b) : V51 (mi51 a b) + V51 b = V51 a + 2 * PR := by
  have h1 : sumB 2251799813685248 (fun i => mi51 a b i + b i) 5 = sumB 2251799813685248 (fun i => a i + tw i) 5 := sumB_congr _ 5 (fun i hi => by
    show a i + tw i - b i + b i = a i + tw i
    have : b i ≤ tw i := by
      by_cases e : i = 0
      · subst e
        have := hb.1
        show b 0 ≤ 4503599627370458
        omega
      · have h3 := hb.2 i (by omega) hi
        have h2 : tw i = 4503599627370494 := if_neg e
        omega
    omega)
  rw [sumB_add, sumB_add, tw_val] at h1
  exact h1
theorem mi51_is {a b : Nat → Nat} {x y : Nat} (ha : Is51 a x) (hb : Is51 b y) : Is51 (set51 (mi51 a b)) (subM x y) := by
  refine ⟨set51_ok _ (mi51_pre ha.1), ?_⟩
  rw [set51_mod, ← ha.2, ← hb.2]
  have h := mi51_val (a := a) hb.1
  have h2 : (V51 (mi51 a b) + 2 * PR) + V51 b = V51 a + 4 * PR := by omega
  have h3 := subM_of h2
  rw [← h3, Nat.add_mul_mod_self_right]
end Go.Proofs.YtlchpbnpmgfaoaaDoor
