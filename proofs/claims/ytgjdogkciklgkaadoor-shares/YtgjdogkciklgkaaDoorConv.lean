/-
  The product of two numbers of five limbs: plain.
-/
import Derived.Test.YtgjdogkciklgkaaDoorProd
import Derived.Test.YtgjdogkciklgkaaDoorRefUnp
namespace Go.Proofs.YtgjdogkciklgkaaDoor
open Go.RowKit

def sP (a b : Nat → Nat) (i : Nat) : Nat → Nat
  | 0 => 0
  | k + 1 => sP a b i k + a k * fo51 b i k
def cv51 (a b : Nat → Nat) (i : Nat) : Nat := sP a b i 5
theorem Ok51.lt {a : Nat → Nat} (h : Ok51 a) (i : Nat) (hi : i < 5) : a i < 2251799813685504 := by
  by_cases e : i = 0
  · subst e; exact h.1
  · have := h.2 i (by omega) hi; omega
theorem fo51_lt {b : Nat → Nat} (hb : Ok51 b) (i k : Nat) (hi : i < 5) (hk : k < 5) : fo51 b i k < 42784196460024576 := by
  unfold fo51
  split
  · have := hb.lt (i + 5 - k) (by omega); omega
  · have := hb.lt (i - k) (by omega); omega
theorem fo51_four {b : Nat → Nat} (hb : Ok51 b) (k : Nat) (hk : k < 5) : fo51 b 4 k < 2251799813685504 := by
  unfold fo51
  rw [if_neg (by omega)]
  exact hb.lt (4 - k) (by omega)
theorem pr_le {x y : Nat} (hx : x < 2251799813685504) (hy : y < 42784196460024576) : x * y ≤ 96341445617367340022336974946304 := Nat.le_trans (Nat.mul_le_mul (Nat.le_of_lt hx) (Nat.le_of_lt hy)) (by decide)
theorem pr_le4 {x y : Nat} (hx : x < 2251799813685504) (hy : y < 2251799813685504) : x * y ≤ 5070602400914070527491419734016 := Nat.le_trans (Nat.mul_le_mul (Nat.le_of_lt hx) (Nat.le_of_lt hy)) (by decide)
theorem sP_le {a b : Nat → Nat} (ha : Ok51 a) (hb : Ok51 b) (i : Nat) (hi : i < 5) : ∀ k, k ≤ 5 → sP a b i k ≤ k * 96341445617367340022336974946304
  | 0, _ => Nat.zero_le _
  | k + 1, hk => by
    have ih := sP_le ha hb i hi k (by omega)
    have h := pr_le (ha.lt k (by omega)) (fo51_lt hb i k hi (by omega))
    show sP a b i k + a k * fo51 b i k ≤ _
    rw [Nat.add_mul, Nat.one_mul]
    exact Nat.add_le_add ih h

def BD : Nat := 481707228086836700111684874731520
theorem sP_lt {a b : Nat → Nat} (ha : Ok51 a) (hb : Ok51 b) (i k : Nat) (hi : i < 5) (hk : k ≤ 5) : sP a b i k ≤ BD := Nat.le_trans (sP_le ha hb i hi k hk) (Nat.le_trans (Nat.mul_le_mul_right _ hk) (by decide))
theorem cv_cr {a b : Nat → Nat} (ha : Ok51 a) (hb : Ok51 b) : ∀ i, i ≤ 5 → cr51 (cv51 a b) i ≤ 1152921504606846976
  | 0, _ => Nat.zero_le _
  | i + 1, hi => by
    have ih := cv_cr ha hb i (by omega)
    have h : cv51 a b i ≤ BD := sP_lt ha hb i 5 (by omega) (by decide)
    show (cr51 (cv51 a b) i + cv51 a b i) / 2251799813685248 ≤ _
    unfold BD at h
    omega
theorem sP4_le {a b : Nat → Nat} (ha : Ok51 a) (hb : Ok51 b) : ∀ k, k ≤ 5 → sP a b 4 k ≤ k * 5070602400914070527491419734016
  | 0, _ => Nat.zero_le _
  | k + 1, hk => by
    have ih := sP4_le ha hb k (by omega)
    have h := pr_le4 (ha.lt k (by omega)) (fo51_four hb k (by omega))
    show sP a b 4 k + a k * fo51 b 4 k ≤ _
    rw [Nat.add_mul, Nat.one_mul]
    exact Nat.add_le_add ih h
theorem cv_five {a b : Nat → Nat} (ha : Ok51 a) (hb : Ok51 b) : cr51 (cv51 a b) 5 ≤ 18014398509481984 := by
  have h1 := cv_cr ha hb 4 (by decide)
  have h2 := sP4_le ha hb 5 (by decide)
  show (cr51 (cv51 a b) 4 + sP a b 4 5) / 2251799813685248 ≤ _
  omega
theorem cv_pre {a b : Nat → Nat} (ha : Ok51 a) (hb : Ok51 b) : Pre51 (set51 (cv51 a b)) := by
  refine ⟨?_, fun i h0 hi => ?_⟩
  · have h1 := cv_five ha hb
    have h2 := lo51_lt (cv51 a b) 0
    show lo51 (cv51 a b) 0 + 19 * cr51 (cv51 a b) 5 < _
    omega
  · unfold set51
    rw [if_neg (by omega)]
    have := lo51_lt (cv51 a b) i
    omega
theorem ring5 (a0 a1 a2 a3 a4 b0 b1 b2 b3 b4 B P : Nat) (h : B ^ 5 = P + 19) :
    (a0 + a1 * B + a2 * B ^ 2 + a3 * B ^ 3 + a4 * B ^ 4) * (b0 + b1 * B + b2 * B ^ 2 + b3 * B ^ 3 + b4 * B ^ 4) =
    (a0 * b0 + a1 * (19 * b4) + a2 * (19 * b3) + a3 * (19 * b2) + a4 * (19 * b1)) + (a0 * b1 + a1 * b0 + a2 * (19 * b4) + a3 * (19 * b3) + a4 * (19 * b2)) * B + (a0 * b2 + a1 * b1 + a2 * b0 + a3 * (19 * b4) + a4 * (19 * b3)) * B ^ 2 + (a0 * b3 + a1 * b2 + a2 * b1 + a3 * b0 + a4 * (19 * b4)) * B ^ 3 + (a0 * b4 + a1 * b3 + a2 * b2 + a3 * b1 + a4 * b0) * B ^ 4
      + P * ((a1 * b4 + a2 * b3 + a3 * b2 + a4 * b1) + (a2 * b4 + a3 * b3 + a4 * b2) * B + (a3 * b4 + a4 * b3) * B ^ 2 + a4 * b4 * B ^ 3) := by grind
theorem V51_eq (g : Nat → Nat) : V51 g = g 0 + g 1 * 2251799813685248 + g 2 * 2251799813685248 ^ 2 + g 3 * 2251799813685248 ^ 3 + g 4 * 2251799813685248 ^ 4 := by
  show 0 + g 0 * 2251799813685248 ^ 0 + g 1 * 2251799813685248 ^ 1 + g 2 * 2251799813685248 ^ 2 + g 3 * 2251799813685248 ^ 3 + g 4 * 2251799813685248 ^ 4 = _
  rw [Nat.pow_zero, Nat.pow_one, Nat.mul_one, Nat.zero_add]
theorem cv_mod (a b : Nat → Nat) : V51 (cv51 a b) % PR = mulM (V51 a % PR) (V51 b % PR) := by
  unfold mulM
  rw [← Nat.mul_mod, V51_eq a, V51_eq b, ring5 (h := PR_eq'.symm), Nat.add_mul_mod_self_left, V51_eq (cv51 a b)]
  have e0 : cv51 a b 0 = a 0 * b 0 + a 1 * (19 * b 4) + a 2 * (19 * b 3) + a 3 * (19 * b 2) + a 4 * (19 * b 1) := by
    show 0 + a 0 * b 0 + a 1 * (19 * b 4) + a 2 * (19 * b 3) + a 3 * (19 * b 2) + a 4 * (19 * b 1) = _
    rw [Nat.zero_add]
  have e1 : cv51 a b 1 = a 0 * b 1 + a 1 * b 0 + a 2 * (19 * b 4) + a 3 * (19 * b 3) + a 4 * (19 * b 2) := by
    show 0 + a 0 * b 1 + a 1 * b 0 + a 2 * (19 * b 4) + a 3 * (19 * b 3) + a 4 * (19 * b 2) = _
    rw [Nat.zero_add]
  have e2 : cv51 a b 2 = a 0 * b 2 + a 1 * b 1 + a 2 * b 0 + a 3 * (19 * b 4) + a 4 * (19 * b 3) := by
    show 0 + a 0 * b 2 + a 1 * b 1 + a 2 * b 0 + a 3 * (19 * b 4) + a 4 * (19 * b 3) = _
    rw [Nat.zero_add]
  have e3 : cv51 a b 3 = a 0 * b 3 + a 1 * b 2 + a 2 * b 1 + a 3 * b 0 + a 4 * (19 * b 4) := by
    show 0 + a 0 * b 3 + a 1 * b 2 + a 2 * b 1 + a 3 * b 0 + a 4 * (19 * b 4) = _
    rw [Nat.zero_add]
  have e4 : cv51 a b 4 = a 0 * b 4 + a 1 * b 3 + a 2 * b 2 + a 3 * b 1 + a 4 * b 0 := by
    show 0 + a 0 * b 4 + a 1 * b 3 + a 2 * b 2 + a 3 * b 1 + a 4 * b 0 = _
    rw [Nat.zero_add]
  rw [e0, e1, e2, e3, e4]
/-- The product, settled. -/
def ti51 (a b : Nat → Nat) : Nat → Nat := set51 (set51 (cv51 a b))
theorem ti51_is {a b : Nat → Nat} {x y : Nat} (ha : Is51 a x) (hb : Is51 b y) : Is51 (ti51 a b) (mulM x y) := by
  refine ⟨set51_ok _ (cv_pre ha.1 hb.1), ?_⟩
  unfold ti51
  rw [set51_mod, set51_mod, cv_mod, ha.2, hb.2]
/-- The carry out of a place, of its two halves. -/
theorem carry_eq (A : Nat) (hA : A < 41538374868278621028243970633760768) : bits .or .u64 (IntKind.u64.wrap (((A / 18446744073709551616 : Nat) : Int) * 8192)) (((A % 18446744073709551616 : Nat) : Int) / 2251799813685248) = ((A / 2251799813685248 : Nat) : Int) := by
  have h1 : A / 18446744073709551616 < 2251799813685248 := by omega
  have e1 : IntKind.u64.wrap (((A / 18446744073709551616 : Nat) : Int) * 8192) = ((A / 18446744073709551616 * 8192 : Nat) : Int) := by rw [IntKind.wrap_u64]; omega
  have e2 : ((A % 18446744073709551616 : Nat) : Int) / 2251799813685248 = ((A % 18446744073709551616 / 2251799813685248 : Nat) : Int) := by omega
  rw [e1, e2, u64_or_nat _ _ (by omega) (by omega), Nat.or_comm]
  have h3 : A % 18446744073709551616 / 2251799813685248 < 2 ^ 13 := by omega
  have h4 := or_add (d := A % 18446744073709551616 / 2251799813685248) (m := 13) (b := A / 18446744073709551616) h3
  rw [show (8192 : Nat) = 2 ^ 13 from rfl, h4]
  omega
end Go.Proofs.YtgjdogkciklgkaaDoor
