/-
  The small functions: turns, choice, majority.
-/
import Derived.Test.YtlchpbnpmgfaoaaDoorBase
import Derived.Test.YtlchpbnpmgfaoaaDoorSha
import Derived.Laws.BitsAllLaws
import Derived.BigQuiet
import Derived.Deep.QuietTactic
namespace Go.Proofs.YtlchpbnpmgfaoaaDoor
open Go.RowKit

theorem right_eq (n x : Nat) (h0 : 0 < n) (h : n < 32) (hx : x < 4294967296) :
    bits .or .u32 ((x : Int) * 2 ^ (32 - n) % 4294967296) ((x : Int) / 2 ^ (32 - (32 - n))) = ((rotr n x : Nat) : Int) := by
  have e1 : (x : Int) * 2 ^ (32 - n) % 4294967296 = ((x * 2 ^ (32 - n) % 4294967296 : Nat) : Int) := by rw [Int.natCast_emod, Int.natCast_mul, Int.natCast_pow]; rfl
  have e2 : 32 - (32 - n) = n := by omega
  have e3 : (x : Int) / 2 ^ n = ((x / 2 ^ n : Nat) : Int) := by push_cast; rfl
  rw [e1, e2, e3, u32_or_nat _ _ (Nat.mod_lt _ (by decide)) (Nat.lt_of_le_of_lt (Nat.div_le_self _ _) hx), Nat.or_comm]
  rfl

set_option maxRecDepth 100000 in
theorem right_any (x : Nat) (n : Nat) (hx : x < 4294967296) (hn0 : 0 < n) (hn : n < 32) (w : World) :
    Calls Tryd.prog 123 #[.int .u32 x, .int .i64 n] w fun e w' => e = .returned (.int .u32 (rotr n x : Nat)) ∧ w' = w := by
  have hk := neg_and31 n hn0 hn
  go_enter Tryd.func123, Tryd.ntmps123
  go_wp2
  go_ret
  exact ⟨ret_int (right_eq n x hn0 hn hx), rfl⟩

theorem turned_eq {x n1 n2 n3 : Nat} (hx : x < 4294967296) :
    bits .xor .u32 (bits .xor .u32 ((rotr n1 x : Nat) : Int) ((rotr n2 x : Nat) : Int)) ((rotr n3 x : Nat) : Int) = ((rotr n1 x ^^^ rotr n2 x ^^^ rotr n3 x : Nat) : Int) := by
  rw [u32_xor_nat _ _ (rotr_lt _ _ hx) (rotr_lt _ _ hx), u32_xor_nat _ _ (xor32 (rotr_lt _ _ hx) (rotr_lt _ _ hx)) (rotr_lt _ _ hx)]

set_option maxRecDepth 100000 in
theorem turned_any (x n1 n2 n3 : Nat) (hx : x < 4294967296) (h1 : 0 < n1 ∧ n1 < 32) (h2 : 0 < n2 ∧ n2 < 32) (h3 : 0 < n3 ∧ n3 < 32) (w : World) :
    Calls Tryd.prog 119 #[.int .u32 x, .int .i64 n1, .int .i64 n2, .int .i64 n3] w fun e w' => e = .returned (.int .u32 (rotr n1 x ^^^ rotr n2 x ^^^ rotr n3 x : Nat)) ∧ w' = w := by
  have H1 := hide h1
  have H2 := hide h2
  have H3 := hide h3
  clear h1 h2 h3
  go_enter Tryd.func119, Tryd.ntmps119
  go_wp2_with fail
  refine (right_any x n1 hx H1.out.1 H1.out.2 _).mono ?_
  rintro e w' ⟨rfl, rfl⟩
  go_wp2_with fail
  refine (right_any x n2 hx H2.out.1 H2.out.2 _).mono ?_
  rintro e w' ⟨rfl, rfl⟩
  go_wp2_with fail
  refine (right_any x n3 hx H3.out.1 H3.out.2 _).mono ?_
  rintro e w' ⟨rfl, rfl⟩
  go_wp2_with fail
  go_ret
  exact ⟨ret_int (turned_eq hx), rfl⟩

set_option maxRecDepth 100000 in
theorem turn_any (x : Nat) (n : Nat) (hx : x < 4294967296) (hn0 : 0 < n) (hn : n < 32) (w : World) :
    Calls Tryd.prog 104 #[.int .i64 x, .int .i64 n] w fun e w' => e = .returned (.int .i64 (rotr n x : Nat)) ∧ ∃ q, w' = w.drewN q := by
  go_enter Tryd.func104, Tryd.ntmps104
  go_wp2
  go_quiet (fail)
  go_wp2
  go_ret
  exact ⟨ret_int (turn_eq n x hn0 hn hx), _, rfl⟩

/-- .. the number of places as an integer, as it stands at a call. -/
theorem turn_int (x : Nat) (n : Int) (hx : x < 4294967296) (hn0 : 0 < n) (hn : n < 32) (w : World) :
    Calls Tryd.prog 104 #[.int .i64 x, .int .i64 n] w fun e w' => e = .returned (.int .i64 (rotr n.toNat x : Nat)) ∧ ∃ q, w' = w.drewN q := by
  obtain ⟨k, rfl⟩ := Int.eq_ofNat_of_zero_le (Int.le_of_lt hn0)
  exact turn_any x k hx (by omega) (by omega) w
theorem right_int (x : Nat) (n : Int) (hx : x < 4294967296) (hn0 : 0 < n) (hn : n < 32) (w : World) :
    Calls Tryd.prog 123 #[.int .u32 x, .int .i64 n] w fun e w' => e = .returned (.int .u32 (rotr n.toNat x : Nat)) ∧ w' = w := by
  obtain ⟨k, rfl⟩ := Int.eq_ofNat_of_zero_le (Int.le_of_lt hn0)
  exact right_any x k hx (by omega) (by omega) w
theorem turned_int (x : Nat) (n1 n2 n3 : Int) (hx : x < 4294967296) (h1 : 0 < n1 ∧ n1 < 32) (h2 : 0 < n2 ∧ n2 < 32) (h3 : 0 < n3 ∧ n3 < 32) (w : World) :
    Calls Tryd.prog 119 #[.int .u32 x, .int .i64 n1, .int .i64 n2, .int .i64 n3] w fun e w' => e = .returned (.int .u32 (rotr n1.toNat x ^^^ rotr n2.toNat x ^^^ rotr n3.toNat x : Nat)) ∧ w' = w := by
  obtain ⟨k1, rfl⟩ := Int.eq_ofNat_of_zero_le (Int.le_of_lt h1.1)
  obtain ⟨k2, rfl⟩ := Int.eq_ofNat_of_zero_le (Int.le_of_lt h2.1)
  obtain ⟨k3, rfl⟩ := Int.eq_ofNat_of_zero_le (Int.le_of_lt h3.1)
  exact turned_any x k1 k2 k3 hx (by omega) (by omega) (by omega) w

theorem ch_eq {x y z : Nat} (hx : x < 4294967296) (hy : y < 4294967296) (hz : z < 4294967296) :
    bits .xor .i64 (bits .and .i64 (x : Int) (y : Int)) (bits .and .i64 (bits .xor .i64 (x : Int) 4294967295) (z : Int)) = (chf x y z : Nat) := by
  have e1 := i64_xor_nat x 4294967295 (by omega) (by decide)
  rw [show ((4294967295 : Nat) : Int) = 4294967295 from rfl] at e1
  have h1 : x ^^^ 4294967295 < 4294967296 := xor32 hx (by decide)
  have h2 : x &&& y < 4294967296 := and32 hy
  have h3 : (x ^^^ 4294967295) &&& z < 4294967296 := and32 hz
  rw [e1, i64_and_nat x y (by omega) (by omega), i64_and_nat _ z (by omega) (by omega), i64_xor_nat _ _ (by omega) (by omega)]
  rfl
theorem maj_eq {x y z : Nat} (hx : x < 4294967296) (hy : y < 4294967296) (hz : z < 4294967296) :
    bits .xor .i64 (bits .xor .i64 (bits .and .i64 (x : Int) (y : Int)) (bits .and .i64 (x : Int) (z : Int))) (bits .and .i64 (y : Int) (z : Int)) = (majf x y z : Nat) := by
  have h2 : x &&& y < 4294967296 := and32 hy
  have h3 : x &&& z < 4294967296 := and32 hz
  have h4 : y &&& z < 4294967296 := and32 hz
  have h5 := xor32 h2 h3
  rw [i64_and_nat x y (by omega) (by omega), i64_and_nat x z (by omega) (by omega), i64_and_nat y z (by omega) (by omega), i64_xor_nat _ _ (by omega) (by omega), i64_xor_nat _ _ (by omega) (by omega)]
  rfl

set_option maxRecDepth 100000 in
theorem ch_any (x y z : Nat) (hx : x < 4294967296) (hy : y < 4294967296) (hz : z < 4294967296)  (w : World) :
    Calls Tryd.prog 105 #[.int .i64 x, .int .i64 y, .int .i64 z] w fun e w' => e = .returned (.int .i64 (chf x y z : Nat)) ∧ w' = w := by
  go_enter Tryd.func105, Tryd.ntmps105
  go_wp2
  go_ret
  exact ⟨ret_int (ch_eq hx hy hz), rfl⟩
set_option maxRecDepth 100000 in
theorem maj_any (x y z : Nat) (hx : x < 4294967296) (hy : y < 4294967296) (hz : z < 4294967296)  (w : World) :
    Calls Tryd.prog 106 #[.int .i64 x, .int .i64 y, .int .i64 z] w fun e w' => e = .returned (.int .i64 (majf x y z : Nat)) ∧ w' = w := by
  go_enter Tryd.func106, Tryd.ntmps106
  go_wp2
  go_ret
  exact ⟨ret_int (maj_eq hx hy hz), rfl⟩
end Go.Proofs.YtlchpbnpmgfaoaaDoor
