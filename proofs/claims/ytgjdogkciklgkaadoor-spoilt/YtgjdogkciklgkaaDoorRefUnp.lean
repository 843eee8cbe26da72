/-
  Bits in groups; the document's number, unpacked.
-/
import Derived.Test.YtgjdogkciklgkaaDoorRefTimes
namespace Go.Proofs.YtgjdogkciklgkaaDoor
open Go.RowKit

/-- The bits up to k, in groups of c. -/
def grp (c : Nat) (vb : Nat → Nat) (k j : Nat) : Nat := sumB 2 (fun t => vb (c * j + t)) (min c (k - c * j))
theorem grp_cur (c : Nat) (vb : Nat → Nat) (k : Nat) (hc : 0 < c) : grp c vb k (k / c) = sumB 2 (fun t => vb (c * (k / c) + t)) (k % c) := by
  unfold grp
  have h1 := Nat.div_add_mod k c
  have h2 := Nat.mod_lt k hc
  rw [show min c (k - c * (k / c)) = k % c by omega]
theorem grp_lt (c : Nat) (vb : Nat → Nat) (hv : ∀ i, vb i < 2) (k : Nat) (hc : 0 < c) : grp c vb k (k / c) < 2 ^ (k % c) := by
  rw [grp_cur c vb k hc]
  exact sumB_lt 2 (by decide) _ _ (fun i _ => hv _)
theorem grp_step (c : Nat) (vb : Nat → Nat) (k j : Nat) (hc : 0 < c) : grp c vb (k + 1) j = if j = k / c then grp c vb k (k / c) + vb k * 2 ^ (k % c) else grp c vb k j := by
  have h1 := Nat.div_add_mod k c
  have h2 := Nat.mod_lt k hc
  by_cases e : j = k / c
  · subst e
    rw [if_pos rfl, grp_cur c vb k hc]
    unfold grp
    rw [show min c (k + 1 - c * (k / c)) = k % c + 1 by omega]
    simp only [sumB]
    rw [h1]
  · rw [if_neg e]
    unfold grp
    have h3 : min c (k + 1 - c * j) = min c (k - c * j) := by
      rcases Nat.lt_or_gt_of_ne e with h | h
      · have : c * (j + 1) ≤ c * (k / c) := Nat.mul_le_mul_left c h
        rw [Nat.mul_add, Nat.mul_one] at this
        omega
      · have : c * (k / c + 1) ≤ c * j := Nat.mul_le_mul_left c h
        rw [Nat.mul_add, Nat.mul_one] at this
        omega
    rw [h3]
theorem grp_next (n c : Nat) (vb : Nat → Nat) (k : Nat) (hc : 0 < c) : (tab n (grp c vb k)).set (k / c) (grp c vb k (k / c) + vb k * 2 ^ (k % c)) = tab n (grp c vb (k + 1)) := by
  rw [tab_set]
  apply tab_congr
  intro i _
  rw [grp_step c vb k i hc]
theorem grp_zero (c : Nat) (vb : Nat → Nat) (j : Nat) : grp c vb 0 j = 0 := by
  unfold grp
  rw [show min c (0 - c * j) = 0 by omega]
  rfl
theorem or_add {d m b : Nat} (hd : d < 2 ^ m) : d ||| b * 2 ^ m = d + b * 2 ^ m := by
  rw [Nat.or_comm, Nat.mul_comm, ← Nat.two_pow_add_eq_or_of_lt hd, Nat.add_comm]
/-- The value of the groups. -/
theorem sumB_group (B c : Nat) (g : Nat → Nat) : ∀ n, sumB (B ^ c) (fun j => sumB B (fun t => g (c * j + t)) c) n = sumB B g (c * n)
  | 0 => by rw [Nat.mul_zero]; rfl
  | n + 1 => by
    rw [Nat.mul_add, Nat.mul_one, sumB_split B g (c * n) c, ← sumB_group B c g n]
    simp only [sumB]
    rw [← Nat.pow_mul, Nat.mul_comm (B ^ (c * n))]
    rw [sumB_congr B (g := fun t => g (c * n + t)) (h := fun i => g (i + c * n)) c (fun i _ => by rw [Nat.add_comm])]
/-- Bit i of 32 bytes. -/
def sbit (s : List UInt8) (i : Nat) : Nat := byteAt s (i / 8) / 2 ^ (i % 8) % 2
theorem sbit_lt (s : List UInt8) (i : Nat) : sbit s i < 2 := Nat.mod_lt _ (by decide)
def UV (s : List UInt8) : Nat := sumB 2 (sbit s) 255
def unp15 (s : List UInt8) : Nat → Nat := grp 15 (sbit s) 255
theorem grp_full (c : Nat) (vb : Nat → Nat) (n j : Nat) (hj : j < n) : grp c vb (c * n) j = sumB 2 (fun t => vb (c * j + t)) c := by
  unfold grp
  have : c * (j + 1) ≤ c * n := Nat.mul_le_mul_left c hj
  rw [Nat.mul_add, Nat.mul_one] at this
  rw [show min c (c * n - c * j) = c by omega]
theorem unp15_val (s : List UInt8) : V15 (unp15 s) = UV s := by
  have h := sumB_group 2 15 (sbit s) 17
  rw [show (2 : Nat) ^ 15 = 32768 from rfl, show 15 * 17 = 255 from rfl] at h
  unfold V15 UV
  rw [← h]
  apply sumB_congr
  intro i hi
  exact grp_full 15 (sbit s) 17 i hi
theorem unp15_ok (s : List UInt8) : Ok15 (unp15 s) := by
  intro i hi
  rw [show unp15 s i = sumB 2 (fun t => sbit s (15 * i + t)) 15 from grp_full 15 (sbit s) 17 i hi]
  exact sumB_lt 2 (by decide) _ 15 (fun j _ => sbit_lt s _)

/-- A number of at most 30 bits. -/
def num15 (n i : Nat) : Nat := if i = 1 then n / 32768 else if i = 0 then n % 32768 else 0
theorem num15_ok {n : Nat} (h : n < 1073741824) : Ok15 (num15 n) := by
  intro i _
  unfold num15
  split
  · omega
  · split <;> omega
theorem num15_val (n : Nat) : V15 (num15 n) = n := by
  have h := sumB_split 32768 (num15 n) 2 15
  rw [sumB_congr 32768 (g := fun i => num15 n (i + 2)) (h := fun _ => 0) 15 (fun i _ => by show (if i + 2 = 1 then _ else if i + 2 = 0 then _ else 0) = 0; rw [if_neg (by omega), if_neg (by omega)]), sumB_zero, Nat.mul_zero, Nat.add_zero] at h
  have h2 : sumB 32768 (num15 n) 2 = 0 + n % 32768 * 32768 ^ 0 + n / 32768 * 32768 ^ 1 := rfl
  rw [h2, Nat.pow_zero, Nat.pow_one] at h
  show sumB 32768 (num15 n) (2 + 15) = n
  rw [h]
  omega

theorem numRow (n : Nat) : rowK .i64 (tab 17 (num15 n)) = #[.int .i64 ((n : Int) % 32768), .int .i64 ((n : Int) / 32768), .int .i64 0, .int .i64 0, .int .i64 0, .int .i64 0, .int .i64 0, .int .i64 0, .int .i64 0, .int .i64 0, .int .i64 0, .int .i64 0, .int .i64 0, .int .i64 0, .int .i64 0, .int .i64 0, .int .i64 0] := rfl

set_option maxRecDepth 100000 in
set_option maxHeartbeats 1000000 in
theorem numberR (n : Nat) (hn : n < 1073741824) (w : World) :
    Calls Tryd.prog 108 #[.int .i64 n] w fun e w' => e = .returned (.agg (rowK .i64 (tab 17 (num15 n)))) ∧ Bel w.heap.size w w' := by
  have ea := and15 n (by omega)
  go_enter Tryd.func108, Tryd.ntmps108
  go_wp2
  rw [← numRow n]
  refine bodyPost_ret (v := .agg (rowK .i64 (tab 17 (num15 n)))) (retN Tryd.results108 _ _ w.heap.size _ rfl (Blk.new2old w _ _ _ _)) rfl ⟨rfl, ((Bel.refl _ _).alloc (Nat.le_refl _) _).alloc (by simp) _⟩

theorem pow_le_50 {m : Nat} (h : m ≤ 50) : 2 ^ m ≤ 1125899906842624 := Nat.le_trans (Nat.pow_le_pow_right (by decide) h) (by decide)
theorem and1 (x : Nat) (h : x < 9223372036854775808) : bits .and .i64 (x : Int) 1 = ((x % 2 : Nat) : Int) := by
  have := i64_and_nat x 1 h (by decide)
  rw [show ((1 : Nat) : Int) = 1 from rfl] at this
  rw [this, Nat.and_one_is_mod]
theorem shr_cast (x a : Nat) : (x : Int) / 2 ^ a = ((x / 2 ^ a : Nat) : Int) := by rw [Int.natCast_ediv, Int.natCast_pow]; rfl
theorem shl_cast {b m : Nat} (hb : b < 2) (hm : m ≤ 50) : wrap64 ((b : Int) * 2 ^ m) = ((b * 2 ^ m : Nat) : Int) := by
  have h1 : (b : Int) * 2 ^ m = ((b * 2 ^ m : Nat) : Int) := by rw [Int.natCast_mul, Int.natCast_pow]; rfl
  have h2 : b * 2 ^ m ≤ 1 * 1125899906842624 := Nat.mul_le_mul (by omega) (pow_le_50 hm)
  rw [h1]
  generalize b * 2 ^ m = z at *
  unfold wrap64
  omega
theorem orbit {d b m : Nat} (hd : d < 2 ^ m) (hb : b < 2) (hm : m ≤ 50) : bits .or .i64 (d : Int) ((b * 2 ^ m : Nat) : Int) = ((d + b * 2 ^ m : Nat) : Int) := by
  have h2 : b * 2 ^ m ≤ 1 * 1125899906842624 := Nat.mul_le_mul (by omega) (pow_le_50 hm)
  have h3 := pow_le_50 hm
  rw [i64_or_nat _ _ (by omega) (by omega), or_add hd]
theorem unp_eq {d x a m : Nat} (hd : d < 2 ^ m) (hx : x < 256) (hm : m ≤ 50) :
    bits .or .i64 (d : Int) (wrap64 (bits .and .i64 ((x : Int) / 2 ^ a) 1 * 2 ^ m)) = ((d + x / 2 ^ a % 2 * 2 ^ m : Nat) : Int) := by
  have h1 : x / 2 ^ a < 9223372036854775808 := Nat.lt_of_le_of_lt (Nat.div_le_self _ _) (by omega)
  have h2 : x / 2 ^ a % 2 < 2 := Nat.mod_lt _ (by decide)
  rw [shr_cast, and1 _ h1, shl_cast h2 hm, orbit hd h2 hm]

set_option maxRecDepth 100000 in
set_option maxHeartbeats 1000000 in
theorem unpackedR (s : List UInt8) (hs : s.length = 32) (w : World) :
    Calls Tryd.prog 107 #[.string (str s)] w fun e w' => e = .returned (.agg (rowK .i64 (tab 17 (unp15 s)))) ∧ Bel w.heap.size w w' := by
  go_enter Tryd.func107, Tryd.ntmps107
  go_wp2
  rw [← z17]
  have HB : Hid (Bel w.heap.size w ((w.alloc (.cells (rowK .i64 (tab 17 zer17)) 143)).alloc (.cells (rowK .i64 (tab 17 zer17)) 143))) := (((Bel.refl _ _).alloc (by simp) _).alloc (by simp) _)
  have HR : Hid (Blk ((w.alloc (.cells (rowK .i64 (tab 17 zer17)) 143)).alloc (.cells (rowK .i64 (tab 17 zer17)) 143)) (w.heap.size) 143 .i64 (tab 17 zer17)) := ((blkAt w (w.heap.size) 143 .i64 (tab 17 zer17) (by simp)).alloc _)
  have HC : Hid (Blk ((w.alloc (.cells (rowK .i64 (tab 17 zer17)) 143)).alloc (.cells (rowK .i64 (tab 17 zer17)) 143)) (w.heap.size + 1) 143 .i64 (tab 17 zer17)) := (blkAt (w.alloc (.cells (rowK .i64 (tab 17 zer17)) 143)) (w.heap.size + 1) 143 .i64 (tab 17 zer17) (by simp))
  generalize ((w.alloc (.cells (rowK .i64 (tab 17 zer17)) 143)).alloc (.cells (rowK .i64 (tab 17 zer17)) 143)) = w1 at *
  go_loopw [4] (fun t wr => ∃ k : Nat, k ≤ 255 ∧ t = .int .i64 k ∧ Bel w.heap.size w wr ∧ Blk wr w.heap.size 143 .i64 (tab 17 zer17) ∧ Blk wr (w.heap.size + 1) 143 .i64 (tab 17 (grp 15 (sbit s) k))) (fun t _ => 255 - (intOf t).toNat)
  case atStart => exact ⟨0, Nat.zero_le _, rfl, HB.out, HR.out, by rw [tab_congr 17 (h := zer17) (fun i _ => grp_zero 15 (sbit s) i)]; exact HC.out⟩
  case round =>
    clear HB HR HC
    obtain ⟨k, hk, rfl, hB, hR, hC⟩ := hrel
    have HB := hide hB
    have HR := hide hR
    have HC := hide hC
    clear hB hR
    by_cases hk2 : k < 255
    · have cc := hC.cell (k / 15) (by rw [tab_length]; omega)
      rw [tab_getD _ _ _ (by omega)] at cc
      have hf := hC.frozen (k / 15)
      clear hC
      have hix := idxL s ((k : Int) / 8) (k / 8) (by omega) (by omega)
      have lx := byteAt_lt s (k / 8)
      have HS := hide (grp_next 17 15 (sbit s) k (by decide))
      have hd := grp_lt 15 (sbit s) (sbit_lt s) k (by decide)
      have HSB : Hid (sbit s k = byteAt s (k / 8) / 2 ^ (k % 8) % 2) := rfl
      generalize byteAt s (k / 8) = x at *
      generalize grp 15 (sbit s) k (k / 15) = d at *
      go_wp2
      go_region
      rw [unp_eq hd lx (by omega), ← HSB.out]
      have HC2 := hide (HC.out.set (k / 15) (d + sbit s k * 2 ^ (k % 15)))
      rw [HS.out] at HC2
      generalize d + sbit s k * 2 ^ (k % 15) = z at *
      go_wp2
      go_roundw
      case rel => exact ⟨k + 1, by omega, by go_num, (HB.out.setCell (p := ⟨w.heap.size + 1, k / 15, none⟩) (by show w.heap.size ≤ w.heap.size + 1; omega) _).drew, HR.out.setOther _ _ (by show w.heap.size ≠ w.heap.size + 1; omega), HC2.out⟩
      case measure => simp [intOf]; omega
    · have h255 : k = 255 := by omega
      subst h255
      have HC : Hid (Blk wr (w.heap.size + 1) 143 .i64 (tab 17 (unp15 s))) := hC
      clear hC
      go_wp2_with (first | (refine wpList_ldB HC.out Tryd.underlying143 rfl (infoN _) rfl _ rfl rfl ?_) | (refine wpList_stB HR.out (infoN (unp15 s)) (lenN _ _) rfl _ _ rfl rfl rfl rfl ?_; intro w5 hb5 ho5 hk5))
      refine bodyPost_ret (v := .agg (rowK .i64 (tab 17 (unp15 s)))) (retN Tryd.results107 _ _ _ _ rfl hk5) rfl ⟨rfl, HB.out.trans (hb5.mono (by omega))⟩
end Go.Proofs.YtgjdogkciklgkaaDoor
