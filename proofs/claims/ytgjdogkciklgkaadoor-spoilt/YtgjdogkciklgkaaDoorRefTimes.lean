/-
  The document's numbers: times.
-/
import Derived.Test.YtgjdogkciklgkaaDoorRefPlus
import Derived.Test.YtgjdogkciklgkaaDoorHash
namespace Go.Proofs.YtgjdogkciklgkaaDoor
open Go.RowKit

theorem sumB_split (B : Nat) (g : Nat → Nat) (m : Nat) : ∀ n, sumB B g (m + n) = sumB B g m + B ^ m * sumB B (fun i => g (i + m)) n
  | 0 => by simp [sumB]
  | n + 1 => by
    rw [← Nat.add_assoc]
    simp only [sumB]
    rw [sumB_split B g m n, Nat.mul_add, Nat.add_comm n m, Nat.pow_add]
    have : B ^ m * (g (m + n) * B ^ n) = g (m + n) * (B ^ m * B ^ n) := by rw [Nat.mul_left_comm]
    omega
def cv15 (q : Nat → Nat) (i : Nat) : Nat := q i + 19 * q (i + 17)
theorem cv15_mod (q : Nat → Nat) : V15 (cv15 q) % PR = sumB 32768 q 34 % PR := by
  have h1 : V15 (cv15 q) = sumB 32768 q 17 + 19 * sumB 32768 (fun i => q (i + 17)) 17 := by
    show sumB 32768 (fun i => q i + 19 * q (i + 17)) 17 = _
    rw [sumB_add 32768 q (fun i => 19 * q (i + 17)), sumB_mul 32768 19 (fun i => q (i + 17))]
  have h2 := sumB_split 32768 q 17 17
  rw [← PR_eq, Nat.add_mul] at h2
  have h3 : sumB 32768 q 34 = V15 (cv15 q) + PR * sumB 32768 (fun i => q (i + 17)) 17 := by
    rw [h1]
    have h4 : sumB 32768 q 34 = sumB 32768 q (17 + 17) := rfl
    omega
  rw [h3, Nat.add_mul_mod_self_left]
def addAt (q : Nat → Nat) (m x : Nat) (i : Nat) : Nat := if i = m then q m + x else q i
theorem addAt_val (B : Nat) (q : Nat → Nat) (m x n : Nat) (h : m < n) : sumB B (addAt q m x) n = sumB B q n + x * B ^ m := by
  have h1 := sumB_set B q m (q m + x) n h
  rw [Nat.add_mul] at h1
  have h2 : sumB B (addAt q m x) n = sumB B (fun i => if i = m then q m + x else q i) n := rfl
  omega
theorem step_val (S A X Y p r : Nat) : S * A + X * p * (r + Y) = S * A + X * p * r + X * p * Y := by rw [Nat.mul_add]; omega
theorem prod_pow (x y i j : Nat) : x * 32768 ^ i * (y * 32768 ^ j) = x * y * 32768 ^ (i + j) := by rw [Nat.mul_mul_mul_comm, Nat.pow_add]
theorem prod_le {x y : Nat} (hx : x < 32768) (hy : y < 32768) : x * y ≤ 1073741824 := Nat.le_trans (Nat.mul_le_mul (Nat.le_of_lt hx) (Nat.le_of_lt hy)) (by decide)
/-- The most that so many steps add up to. -/
def bd (n : Nat) : Nat := n * 1073741824
theorem bd_succ (n : Nat) : bd (n + 1) = bd n + 1073741824 := by unfold bd; omega
theorem bd_le {n m : Nat} (h : n ≤ m) : bd n ≤ bd m := Nat.mul_le_mul_right _ h
theorem bd_289 : bd 289 = 310311387136 := rfl
theorem addAt_le {q : Nat → Nat} {m0 x m n n' : Nat} (h1 : q m ≤ bd n) (h0 : q m0 ≤ bd n) (hx : x ≤ 1073741824) (hn : n' = n + 1) : addAt q m0 x m ≤ bd n' := by
  rw [hn, bd_succ]
  unfold addAt
  split <;> omega
def zer34 : Nat → Nat := fun _ => 0
theorem z34 : rowK .i64 (tab 34 zer34) = #[.int .i64 0, .int .i64 0, .int .i64 0, .int .i64 0, .int .i64 0, .int .i64 0, .int .i64 0, .int .i64 0, .int .i64 0, .int .i64 0, .int .i64 0, .int .i64 0, .int .i64 0, .int .i64 0, .int .i64 0, .int .i64 0, .int .i64 0, .int .i64 0, .int .i64 0, .int .i64 0, .int .i64 0, .int .i64 0, .int .i64 0, .int .i64 0, .int .i64 0, .int .i64 0, .int .i64 0, .int .i64 0, .int .i64 0, .int .i64 0, .int .i64 0, .int .i64 0, .int .i64 0, .int .i64 0] := rfl

set_option maxRecDepth 100000 in
set_option maxHeartbeats 2000000 in
theorem timesR (a b : Nat → Nat) (ha : Ok15 a) (hb : Ok15 b) (w : World) :
    Calls Tryd.prog 113 #[.agg (rowK .i64 (tab 17 a)), .agg (rowK .i64 (tab 17 b))] w fun e w' => ∃ h, e = .returned (.agg (rowK .i64 (tab 17 h))) ∧ Ok15 h ∧ V15 h % PR = mulM (V15 a % PR) (V15 b % PR) ∧ Bel w.heap.size w w' := by
  have OA := hide ha
  have OB := hide hb
  clear ha hb
  go_enter Tryd.func113, Tryd.ntmps113
  go_wp2
  rw [← z17, ← z34]
  have HB : Hid (Bel w.heap.size w ((((w.alloc (.cells (rowK .i64 (tab 17 a)) 143)).alloc (.cells (rowK .i64 (tab 17 b)) 143)).alloc (.cells (rowK .i64 (tab 17 zer17)) 143)).alloc (.cells (rowK .i64 (tab 34 zer34)) 158))) := (((((Bel.refl _ _).alloc (by simp) _).alloc (by simp) _).alloc (by simp <;> omega) _).alloc (by simp <;> omega) _)
  have HA : Hid (Blk ((((w.alloc (.cells (rowK .i64 (tab 17 a)) 143)).alloc (.cells (rowK .i64 (tab 17 b)) 143)).alloc (.cells (rowK .i64 (tab 17 zer17)) 143)).alloc (.cells (rowK .i64 (tab 34 zer34)) 158)) (w.heap.size) 143 .i64 (tab 17 a)) := ((((blkAt w (w.heap.size) 143 .i64 (tab 17 a) (by simp)).alloc _).alloc _).alloc _)
  have HD : Hid (Blk ((((w.alloc (.cells (rowK .i64 (tab 17 a)) 143)).alloc (.cells (rowK .i64 (tab 17 b)) 143)).alloc (.cells (rowK .i64 (tab 17 zer17)) 143)).alloc (.cells (rowK .i64 (tab 34 zer34)) 158)) (w.heap.size + 1) 143 .i64 (tab 17 b)) := (((blkAt (w.alloc (.cells (rowK .i64 (tab 17 a)) 143)) (w.heap.size + 1) 143 .i64 (tab 17 b) (by simp)).alloc _).alloc _)
  have HR : Hid (Blk ((((w.alloc (.cells (rowK .i64 (tab 17 a)) 143)).alloc (.cells (rowK .i64 (tab 17 b)) 143)).alloc (.cells (rowK .i64 (tab 17 zer17)) 143)).alloc (.cells (rowK .i64 (tab 34 zer34)) 158)) (w.heap.size + 2) 143 .i64 (tab 17 zer17)) := ((blkAt ((w.alloc (.cells (rowK .i64 (tab 17 a)) 143)).alloc (.cells (rowK .i64 (tab 17 b)) 143)) (w.heap.size + 2) 143 .i64 (tab 17 zer17) (by simp)).alloc _)
  have HP : Hid (Blk ((((w.alloc (.cells (rowK .i64 (tab 17 a)) 143)).alloc (.cells (rowK .i64 (tab 17 b)) 143)).alloc (.cells (rowK .i64 (tab 17 zer17)) 143)).alloc (.cells (rowK .i64 (tab 34 zer34)) 158)) (w.heap.size + 3) 158 .i64 (tab 34 zer34)) := (blkAt (((w.alloc (.cells (rowK .i64 (tab 17 a)) 143)).alloc (.cells (rowK .i64 (tab 17 b)) 143)).alloc (.cells (rowK .i64 (tab 17 zer17)) 143)) (w.heap.size + 3) 158 .i64 (tab 34 zer34) (by simp))
  generalize ((((w.alloc (.cells (rowK .i64 (tab 17 a)) 143)).alloc (.cells (rowK .i64 (tab 17 b)) 143)).alloc (.cells (rowK .i64 (tab 17 zer17)) 143)).alloc (.cells (rowK .i64 (tab 34 zer34)) 158)) = w1 at *
  go_loopw [6] (fun t wr => ∃ (i : Nat) (q : Nat → Nat), i ≤ 17 ∧ t = .int .i64 i ∧ Bel w.heap.size w wr ∧ Blk wr w.heap.size 143 .i64 (tab 17 a) ∧ Blk wr (w.heap.size + 1) 143 .i64 (tab 17 b) ∧ Blk wr (w.heap.size + 2) 143 .i64 (tab 17 zer17) ∧ Blk wr (w.heap.size + 3) 158 .i64 (tab 34 q) ∧ sumB 32768 q 34 = sumB 32768 a i * V15 b ∧ ∀ m, m < 34 → q m ≤ bd (17 * i)) (fun t _ => 17 - (intOf t).toNat)
  case atStart => exact ⟨0, zer34, Nat.zero_le _, rfl, HB.out, HA.out, HD.out, HR.out, HP.out, by rw [show sumB 32768 zer34 34 = 0 from sumB_zero _ _]; simp [sumB], fun m _ => by show 0 ≤ _; exact Nat.zero_le _⟩
  case round =>
    clear HB HA HD HR HP
    obtain ⟨i, q, hi, rfl, hB, hA, hD, hR, hP, hv, hq⟩ := hrel
    have HB := hide hB
    have HA := hide hA
    have HD := hide hD
    have HR := hide hR
    have HP := hide hP
    have HV := hide hv
    have HQ := hide hq
    clear hB hA hD hR hP hv hq
    by_cases hi17 : i < 17
    · have i0 : (0 : Int) ≤ (i : Int) := by omega
      have i1 : (i : Int) < 17 := by omega
      go_wp2
      go_loopw [7] (fun t wr => ∃ (j : Nat) (q : Nat → Nat), j ≤ 17 ∧ t = .int .i64 j ∧ Bel w.heap.size w wr ∧ Blk wr w.heap.size 143 .i64 (tab 17 a) ∧ Blk wr (w.heap.size + 1) 143 .i64 (tab 17 b) ∧ Blk wr (w.heap.size + 2) 143 .i64 (tab 17 zer17) ∧ Blk wr (w.heap.size + 3) 158 .i64 (tab 34 q) ∧ sumB 32768 q 34 = sumB 32768 a i * V15 b + a i * 32768 ^ i * sumB 32768 b j ∧ ∀ m, m < 34 → q m ≤ bd (17 * i + j)) (fun t _ => 17 - (intOf t).toNat)
      case atStart => exact ⟨0, q, Nat.zero_le _, rfl, HB.out, HA.out, HD.out, HR.out, HP.out, by rw [HV.out, show sumB 32768 b 0 = 0 from rfl, Nat.mul_zero, Nat.add_zero], by rw [Nat.add_zero]; exact HQ.out⟩
      case round =>
        clear HB HA HD HR HP HV HQ
        clear q
        obtain ⟨j, q, hj, rfl, hB, hA, hD, hR, hP, hv, hq⟩ := hrel
        have HB := hide hB
        have HA := hide hA
        have HD := hide hD
        have HR := hide hR
        have HP := hide hP
        have HV := hide hv
        have HQ := hide hq
        clear hB hR hv hq
        by_cases hj17 : j < 17
        · have ca := hA.cell i (by rw [tab_length]; exact hi17)
          rw [tab_getD _ _ _ hi17] at ca
          have cb := hD.cell j (by rw [tab_length]; exact hj17)
          rw [tab_getD _ _ _ hj17] at cb
          have cp := hP.cell (i + j) (by rw [tab_length]; omega)
          rw [tab_getD _ _ _ (by omega)] at cp
          have hf := hP.frozen (i + j)
          clear hA hD hP
          have b1 := OA.out i hi17
          have b2 := OB.out j hj17
          have b3 := HQ.out (i + j) (by omega)
          have HP2 := hide (HP.out.set (i + j) (q (i + j) + a i * b j))
          rw [tab_set] at HP2
          have HV2 := hide (addAt_val 32768 q (i + j) (a i * b j) 34 (by omega))
          rw [HV.out] at HV2
          have HT : Hid (sumB 32768 a i * V15 b + a i * 32768 ^ i * sumB 32768 b j + a i * b j * 32768 ^ (i + j) = sumB 32768 a i * V15 b + a i * 32768 ^ i * sumB 32768 b (j + 1)) := by
            show _ = sumB 32768 a i * V15 b + a i * 32768 ^ i * (sumB 32768 b j + b j * 32768 ^ j)
            rw [Nat.mul_add, prod_pow, Nat.add_assoc]
          rw [HT.out] at HV2
          clear HT
          have HQ2 : Hid (∀ m, m < 34 → addAt q (i + j) (a i * b j) m ≤ bd (17 * i + (j + 1))) := fun m hm => addAt_le (HQ.out m hm) b3 (prod_le b1 b2) (by omega)
          have b4 : q (i + j) ≤ 310311387136 := Nat.le_trans b3 (Nat.le_trans (bd_le (show 17 * i + j ≤ 289 by omega)) (Nat.le_of_eq bd_289))
          clear b3
          have HF : Hid (addAt q (i + j) (a i * b j) = fun m => if m = i + j then q (i + j) + a i * b j else q m) := rfl
          rw [← HF.out] at HP2
          clear HF
          generalize addAt q (i + j) (a i * b j) = q' at *
          have bz := prod_le b1 b2
          have ez : ((a i : Nat) : Int) * ((b j : Nat) : Int) = ((a i * b j : Nat) : Int) := (Int.natCast_mul _ _).symm
          generalize a i * b j = z at *
          obtain ⟨ax, hax⟩ : ∃ v, v = a i := ⟨_, rfl⟩
          have HX : Hid (ax = a i) := hax
          rw [← hax] at ca b1 ez HV2
          clear hax
          generalize b j = y at *
          generalize hpv : q (i + j) = pv at *
          clear hpv HQ HV HP
          have eij : (i : Int) + (j : Int) = ((i + j : Nat) : Int) := (Int.natCast_add _ _).symm
          have hij : i + j < 34 := by omega
          generalize i + j = m at *
          rw [Int.natCast_add] at HP2
          go_wp2
          have ca : wr.drew.cell? ⟨w.heap.size, i, none⟩ = _ := ca
          have cb : wr.drew.cell? ⟨w.heap.size + 1, j, none⟩ = _ := cb
          have cp : wr.drew.cell? ⟨w.heap.size + 3, m, none⟩ = _ := cp
          have hf : wr.drew.frozen? ⟨w.heap.size + 3, m, none⟩ = _ := hf
          have HB := hide HB.out.drew
          have HA : Hid (Blk wr.drew w.heap.size 143 .i64 (tab 17 a)) := HA.out
          have HD : Hid (Blk wr.drew (w.heap.size + 1) 143 .i64 (tab 17 b)) := HD.out
          have HR : Hid (Blk wr.drew (w.heap.size + 2) 143 .i64 (tab 17 zer17)) := HR.out
          have HP2 : Hid (Blk (wr.drew.setCell ⟨w.heap.size + 3, m, none⟩ (.int .i64 ((pv : Int) + (z : Int)))) (w.heap.size + 3) 158 .i64 (tab 34 q')) := HP2.out
          have wm : IntKind.i64.wrap (m : Int) = (m : Int) := wrap_i64_nat _ (by omega)
          have wz : IntKind.i64.wrap (z : Int) = (z : Int) := wrap_i64_nat _ (by omega)
          have wpz : IntKind.i64.wrap ((pv : Int) + (z : Int)) = (pv : Int) + (z : Int) := by have := wrap_i64_nat (pv + z) (by omega); rw [Int.natCast_add] at this; exact this
          have j0 : (0 : Int) ≤ (j : Int) := by omega
          have j1 : (j : Int) < 17 := by omega
          have m0 : (0 : Int) ≤ (m : Int) := by omega
          have m1 : (m : Int) < 34 := by omega
          refine still_tail 16 (by kernel_rfl) (by kernel_rfl) ?_
          generalize wr.drew = w3 at *
          simp only [List.take_succ_cons, List.take_zero, List.drop_succ_cons, List.drop_zero]
          repeat still_step
          refine wpStill_nil ?_
          go_wp2
          go_roundw
          case rel =>
            refine ⟨j + 1, q', by omega, by go_num, HB.out.setCell (p := ⟨w.heap.size + 3, m, none⟩) (by show w.heap.size ≤ w.heap.size + 3; omega) _, HA.out.setOther _ _ (by show w.heap.size ≠ w.heap.size + 3; omega), HD.out.setOther _ _ (by show w.heap.size + 1 ≠ w.heap.size + 3; omega), HR.out.setOther _ _ (by show w.heap.size + 2 ≠ w.heap.size + 3; omega), HP2.out, ?_, HQ2.out⟩
            rw [HV2.out, HX.out]
          case measure => simp [intOf]; omega
        · have h17 : j = 17 := by omega
          subst h17
          have HV2 : Hid (sumB 32768 q 34 = sumB 32768 a (i + 1) * V15 b) := by
            show _ = (sumB 32768 a i + a i * 32768 ^ i) * V15 b
            rw [HV.out, Nat.add_mul]
            rfl
          have HQ2 : Hid (∀ m, m < 34 → q m ≤ bd (17 * (i + 1))) := fun m hm => by
            rw [show 17 * (i + 1) = 17 * i + 17 by omega]
            exact HQ.out m hm
          clear hA hD hP HV HQ
          go_wp2
          go_roundw
          case rel => exact ⟨i + 1, q, by omega, by go_num, HB.out, HA.out, HD.out, HR.out, HP.out, HV2.out, HQ2.out⟩
          case measure => simp [intOf]; omega
    · have h17 : i = 17 := by omega
      subst h17
      have HQ2 : Hid (∀ m, m < 34 → q m ≤ 310311387136) := fun m hm => Nat.le_trans (HQ.out m hm) (Nat.le_of_eq bd_289)
      clear HQ
      have HV2 : Hid (V15 (cv15 q) % PR = mulM (V15 a % PR) (V15 b % PR)) := by
        show V15 (cv15 q) % PR = (V15 a % PR * (V15 b % PR)) % PR
        rw [cv15_mod, HV.out, ← Nat.mul_mod]
        rfl
      clear HV
      have HBd : Hid (∀ i, i < 17 → cv15 q i < 72057594037927936) := fun i hi => by
        have h1 := HQ2.out i (by omega)
        have h2 := HQ2.out (i + 17) (by omega)
        unfold cv15
        omega
      go_wp2
      rw [← z17]
      have hrl := HR.out.lt
      have hpl := HP.out.lt
      have HC : Hid (Blk (wr.alloc (.cells (rowK .i64 (tab 17 zer17)) 143)) wr.heap.size 143 .i64 (tab 17 zer17)) := Blk.new _ _ _ _
      have HB := hide (HB.out.alloc HB.out.size (.cells (rowK .i64 (tab 17 zer17)) 143))
      have HR := hide (HR.out.alloc (.cells (rowK .i64 (tab 17 zer17)) 143))
      have HP := hide (HP.out.alloc (.cells (rowK .i64 (tab 17 zer17)) 143))
      clear HA HD
      generalize wr.alloc (.cells (rowK .i64 (tab 17 zer17)) 143) = w2 at *
      generalize wr.heap.size = C at *
      go_loopw [9] (fun t wr => ∃ k : Nat, k ≤ 17 ∧ t = .int .i64 k ∧ Bel w.heap.size w wr ∧ Blk wr (w.heap.size + 2) 143 .i64 (tab 17 zer17) ∧ Blk wr (w.heap.size + 3) 158 .i64 (tab 34 q) ∧ Blk wr C 143 .i64 (partTo (cv15 q) zer17 17 k)) (fun t _ => 17 - (intOf t).toNat)
      case atStart => exact ⟨0, Nat.zero_le _, rfl, HB.out, HR.out, HP.out, by rw [partTo_none]; exact HC.out⟩
      case round =>
        clear HB HR HP HC
        obtain ⟨k, hk, rfl, hB, hR, hP, hC⟩ := hrel
        have HB := hide hB
        have HR := hide hR
        have HP := hide hP
        have HC := hide hC
        clear hB hR
        by_cases hk17 : k < 17
        · have ca := hP.cell k (by rw [tab_length]; omega)
          rw [tab_getD _ _ _ (by omega)] at ca
          have cb := hP.cell (k + 17) (by rw [tab_length]; omega)
          rw [tab_getD _ _ _ (by omega)] at cb
          have cc := hC.cell k (by rw [partTo_length]; exact hk17)
          have hf := hC.frozen k
          clear hP hC
          have b1 := HQ2.out k (by omega)
          have b2 := HQ2.out (k + 17) (by omega)
          have HS := hide (partTo_set (cv15 q) zer17 17 k)
          have HL : Hid (cv15 q k = q k + 19 * q (k + 17)) := rfl
          generalize q k = x at *
          generalize q (k + 17) = y at *
          generalize (partTo (cv15 q) zer17 17 k).getD k 0 = z at *
          go_wp2
          go_region
          all_goals go_wp2
          all_goals go_roundw
          case rel =>
            refine ⟨k + 1, by omega, by go_num, (HB.out.setCell (p := ⟨C, k, none⟩) (by show w.heap.size ≤ C; omega) _).drew, HR.out.setOther _ _ (by show w.heap.size + 2 ≠ C; omega), HP.out.setOther _ _ (by show w.heap.size + 3 ≠ C; omega), ?_⟩
            rw [← HS.out, HL.out]
            have h1 := HC.out.set k (x + 19 * y)
            rw [show ((x + 19 * y : Nat) : Int) = (x : Int) + 19 * (y : Int) by omega] at h1
            exact h1
          case measure => simp [intOf]; omega
        · have h17 : k = 17 := by omega
          subst h17
          rw [partTo_full] at hC
          have HC := hide hC
          clear hP hC
          go_wp2_with (first | (refine wpList_ldB HC.out Tryd.underlying143 rfl (infoN _) rfl _ rfl rfl ?_))
          refine (carriedR (cv15 q) HBd.out _).mono ?_
          rintro e w3 ⟨rfl, hb3⟩
          have HR3 := hide (HR.out.below hb3 HR.out.lt)
          have HB3 := hide (HB.out.trans (hb3.mono HB.out.size))
          clear hb3 HB HR HC HP
          go_wp2_with (first | (refine wpList_stB HR3.out (infoN (car15 (cv15 q))) (lenN _ _) rfl _ _ rfl rfl rfl rfl ?_; intro w5 hb5 ho5 hk5))
          refine bodyPost_ret (v := .agg (rowK .i64 (tab 17 (car15 (cv15 q))))) (retN Tryd.results113 _ _ _ _ rfl hk5) rfl ⟨car15 (cv15 q), rfl, car15_ok _ HBd.out, by rw [car15_mod]; exact HV2.out, HB3.out.trans (hb5.mono (by omega))⟩
end Go.Proofs.YtgjdogkciklgkaaDoor
