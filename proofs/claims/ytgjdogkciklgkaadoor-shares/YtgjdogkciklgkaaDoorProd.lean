/-
  The program's folded, addProduct.
-/
import Derived.Test.YtgjdogkciklgkaaDoorFs
import Derived.Lib.Mul64
import Derived.Laws.Externs
namespace Go.Proofs.YtgjdogkciklgkaaDoor
open Go.RowKit

/-- The limb of b at a place that may be below 0. -/
def fo51 (b : Nat → Nat) (i k : Nat) : Nat := if i < k then 19 * b (i + 5 - k) else b (i - k)

set_option maxRecDepth 100000 in
set_option maxHeartbeats 1000000 in
theorem foldedP (b : Nat → Nat) (hb : Ok51 b) (i k : Nat) (hi : i < 5) (hk : k < 5) (at' : Int) (ha : at' = (i : Int) - (k : Int)) (w : World) :
    Calls Tryd.prog 86 #[.agg (rowK .u64 (tab 5 b)), .int .i64 at'] w fun e w' => e = .returned (.int .u64 (fo51 b i k : Nat)) ∧ Bel w.heap.size w w' := by
  have hbb : ∀ j, j < 5 → b j < 2251799813685504 := fun j hj => by
    by_cases e : j = 0
    · subst e; exact hb.1
    · have := hb.2 j (by omega) hj; omega
  by_cases h : i < k
  · have hat : at' < 0 := by omega
    obtain ⟨m, hm⟩ : ∃ m : Nat, i + 5 - k = m := ⟨_, rfl⟩
    have hm5 : m < 5 := by omega
    have e5 : at' + 5 = (m : Int) := by omega
    have HF : Hid (fo51 b i k = 19 * b m) := by show fo51 b i k = _; unfold fo51; rw [if_pos h, hm]
    have cc := (Blk.new w 88 .u64 (tab 5 b)).cell m (by rw [tab_length]; exact hm5)
    rw [tab_getD _ _ _ hm5] at cc
    have b1 := hbb m hm5
    have wm : IntKind.i64.wrap (m : Int) = (m : Int) := wrap_i64_nat _ (by omega)
    clear ha hm
    generalize b m = x at *
    go_enter Tryd.func86, Tryd.ntmps86
    go_wp2
    go_ret
    refine ⟨?_, (Bel.refl _ _).alloc (Nat.le_refl _) _⟩
    rw [HF.out]
    apply congrArg Ending.returned
    show Value.int .u64 (19 * (x : Int)) = _
    apply congrArg (Value.int .u64)
    omega
  · obtain ⟨m, hm⟩ : ∃ m : Nat, i - k = m := ⟨_, rfl⟩
    have hm5 : m < 5 := by omega
    have e5 : at' = (m : Int) := by omega
    subst e5
    have HF : Hid (fo51 b i k = b m) := by show fo51 b i k = _; unfold fo51; rw [if_neg h, hm]
    have cc := (Blk.new w 88 .u64 (tab 5 b)).cell m (by rw [tab_length]; exact hm5)
    rw [tab_getD _ _ _ hm5] at cc
    have hn0 : ¬ (m : Int) < 0 := by omega
    clear ha hm hbb
    generalize b m = x at *
    go_enter Tryd.func86, Tryd.ntmps86
    go_wp2
    go_ret
    refine ⟨?_, (Bel.refl _ _).alloc (Nat.le_refl _) _⟩
    rw [HF.out]
    rfl

theorem maskN (a : Nat) (ha : a < 18446744073709551616) : bits .and .u64 (a : Int) 4294967295 = ((a % 4294967296 : Nat) : Int) := by
  have := u64_and_nat a 4294967295 ha (by decide)
  rw [show ((4294967295 : Nat) : Int) = 4294967295 from rfl] at this
  rw [this, Nat.and_two_pow_sub_one_eq_mod a 32]
theorem divN (a : Nat) : (a : Int) / 4294967296 = ((a / 4294967296 : Nat) : Int) := by omega
theorem mulN (a b : Nat) : (a : Int) * (b : Int) = ((a * b : Nat) : Int) := (Int.natCast_mul a b).symm
theorem addN (a b : Nat) : (a : Int) + (b : Int) = ((a + b : Nat) : Int) := (Int.natCast_add a b).symm
theorem wrapN (a : Nat) (ha : a < 18446744073709551616) : IntKind.u64.wrap (a : Int) = (a : Int) := by rw [IntKind.wrap_u64]; omega
theorem wrapM (a : Nat) : IntKind.u64.wrap (a : Int) = ((a % 18446744073709551616 : Nat) : Int) := by rw [IntKind.wrap_u64]; omega

set_option maxRecDepth 100000 in
set_option maxHeartbeats 1000000 in
theorem mul64P (x y : Nat) (hx : x < 18446744073709551616) (hy : y < 18446744073709551616) (w : World) :
    Calls Tryd.prog 116 #[.int .u64 x, .int .u64 y] w fun e w' => e = .returned (.tuple #[.int .u64 ((x * y / 18446744073709551616 : Nat) : Int), .int .u64 ((x * y % 18446744073709551616 : Nat) : Int)]) ∧ w' = w := by
  obtain ⟨bd, bt, bw, hhi⟩ := Lib.mul64_hi x y hx hy
  have ba := Lib.half_mul_le (a := x / 4294967296) (b := y / 4294967296) (by omega) (by omega)
  have bb := Lib.half_mul_le (a := x / 4294967296) (b := y % 4294967296) (by omega) (by omega)
  have bc := Lib.half_mul_le (a := x % 4294967296) (b := y / 4294967296) (by omega) (by omega)
  have ba' : x / 4294967296 * (y / 4294967296) < 18446744073709551616 := by omega
  have bb' : x / 4294967296 * (y % 4294967296) < 18446744073709551616 := by omega
  have bc' : x % 4294967296 * (y / 4294967296) < 18446744073709551616 := by omega
  have bh1 : x / 4294967296 * (y / 4294967296) + (x / 4294967296 * (y % 4294967296) + x % 4294967296 * (y % 4294967296) / 4294967296) / 4294967296 < 18446744073709551616 := by omega
  have bh : x / 4294967296 * (y / 4294967296) + (x / 4294967296 * (y % 4294967296) + x % 4294967296 * (y % 4294967296) / 4294967296) / 4294967296 + ((x / 4294967296 * (y % 4294967296) + x % 4294967296 * (y % 4294967296) / 4294967296) % 4294967296 + x % 4294967296 * (y / 4294967296)) / 4294967296 < 18446744073709551616 := by omega
  go_enter Tryd.func116, Tryd.ntmps116
  go_wp2
  simp only [maskN x hx, maskN y hy, divN, mulN, addN, wrapN _ bd, wrapN _ bb', wrapN _ bt, maskN _ bt, wrapN _ bc', wrapN _ bw, wrapN _ ba', wrapN _ bh1, wrapN _ bh, wrapM (x * y)]
  rw [hhi]
  go_ret2
  exact ⟨rfl, rfl⟩

theorem add64R (x y c : Nat) (hc : c ≤ 1) (w : World) :
    (callFunc 117 #[.int .u64 x, .int .u64 y, .int .u64 c]).run Tryd.prog w = .ok (.value (.tuple #[.int .u64 ((x + y + c) % 18446744073709551616 : Nat), .int .u64 ((x + y + c) / 18446744073709551616 : Nat)])) w := by
  rw [run_callFunc_extern Tryd.func117 (by kernel_rfl) (by kernel_rfl) (by kernel_rfl) (e := add64Entry) (by kernel_rfl), run_add64 x y c (by omega) (by omega) (by omega) (by omega)]
  simp [Result.andThen]

set_option maxRecDepth 100000 in
set_option maxHeartbeats 1000000 in
theorem addProductP (A x y : Nat) (hA : A + x * y < 340282366920938463463374607431768211456) (hx : x < 18446744073709551616) (hy : y < 18446744073709551616) (w : World) :
    Calls Tryd.prog 85 #[.int .u64 (A / 18446744073709551616 : Nat), .int .u64 (A % 18446744073709551616 : Nat), .int .u64 x, .int .u64 y] w fun e w' => e = .returned (.tuple #[.int .u64 ((A + x * y) / 18446744073709551616 : Nat), .int .u64 ((A + x * y) % 18446744073709551616 : Nat)]) ∧ w' = w := by
  go_enter Tryd.func85, Tryd.ntmps85
  go_wp2_with fail
  refine (mul64P x y hx hy _).mono ?_
  rintro e w1 ⟨rfl, rfl⟩
  clear hx hy
  obtain ⟨z, hzz⟩ : ∃ v, v = x * y := ⟨_, rfl⟩
  rw [← hzz] at hA ⊢
  obtain ⟨a1, ha1⟩ : ∃ v, v = A / 18446744073709551616 := ⟨_, rfl⟩
  obtain ⟨a0, ha0⟩ : ∃ v, v = A % 18446744073709551616 := ⟨_, rfl⟩
  obtain ⟨z1, hz1⟩ : ∃ v, v = z / 18446744073709551616 := ⟨_, rfl⟩
  obtain ⟨z0, hz0⟩ : ∃ v, v = z % 18446744073709551616 := ⟨_, rfl⟩
  obtain ⟨s0, hs0⟩ : ∃ v, v = (a0 + z0) % 18446744073709551616 := ⟨_, rfl⟩
  obtain ⟨c1, hc1⟩ : ∃ v, v = (a0 + z0) / 18446744073709551616 := ⟨_, rfl⟩
  obtain ⟨s1, hs1⟩ : ∃ v, v = (a1 + z1 + c1) % 18446744073709551616 := ⟨_, rfl⟩
  obtain ⟨c2, hc2⟩ : ∃ v, v = (a1 + z1 + c1) / 18446744073709551616 := ⟨_, rfl⟩
  rw [← ha1, ← ha0, ← hz1, ← hz0]
  have r1 := add64R a0 z0 0 (by omega)
  rw [Nat.add_zero, ← hs0, ← hc1] at r1
  have r2 := add64R a1 z1 c1 (by omega)
  rw [← hs1, ← hc2] at r2
  have HE1 : Hid ((A + x * y) / 18446744073709551616 = s1) := by show (A + x * y) / 18446744073709551616 = s1; rw [← hzz]; omega
  have HE0 : Hid ((A + x * y) % 18446744073709551616 = s0) := by show (A + x * y) % 18446744073709551616 = s0; rw [← hzz]; omega
  rw [show ((0 : Nat) : Int) = 0 from rfl] at r1
  clear ha1 ha0 hz1 hz0 hs0 hc1 hs1 hc2 hA hzz
  go_wp2_with fail
  go_ret2
  refine ⟨?_, rfl⟩
  rw [HE1.out, HE0.out]
  rfl
end Go.Proofs.YtgjdogkciklgkaaDoor
