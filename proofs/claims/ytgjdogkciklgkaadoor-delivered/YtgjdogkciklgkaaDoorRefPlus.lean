/-
  The document's numbers: plus, less.
-/
import Derived.Test.YtgjdogkciklgkaaDoorFld
namespace Go.Proofs.YtgjdogkciklgkaaDoor
open Go.RowKit

def pl15 (a b : Nat → Nat) (i : Nat) : Nat := a i + b i
theorem pl15_bound {a b : Nat → Nat} (ha : Ok15 a) (hb : Ok15 b) (i : Nat) (hi : i < 17) : pl15 a b i < 72057594037927936 := by
  have h1 := ha i hi
  have h2 := hb i hi
  unfold pl15
  omega
def plN (a b : Nat → Nat) : Nat → Nat := car15 (pl15 a b)
theorem plN_ok {a b : Nat → Nat} (ha : Ok15 a) (hb : Ok15 b) : Ok15 (plN a b) := car15_ok _ (pl15_bound ha hb)
theorem plN_mod (a b : Nat → Nat) : V15 (plN a b) % PR = addM (V15 a % PR) (V15 b % PR) := by
  unfold plN addM
  rw [car15_mod, ← Nat.add_mod]
  show sumB 32768 (fun i => a i + b i) 17 % PR = _
  rw [sumB_add]
  rfl

set_option maxRecDepth 100000 in
set_option maxHeartbeats 1000000 in
theorem plusR (a b : Nat → Nat) (ha : Ok15 a) (hb : Ok15 b) (w : World) :
    Calls Tryd.prog 121 #[.agg (rowK .i64 (tab 17 a)), .agg (rowK .i64 (tab 17 b))] w fun e w' => e = .returned (.agg (rowK .i64 (tab 17 (plN a b)))) ∧ Bel w.heap.size w w' := by
  have OA := hide ha
  have OB := hide hb
  clear ha hb
  go_enter Tryd.func121, Tryd.ntmps121
  go_wp2
  rw [← z17]
  have HB : Hid (Bel w.heap.size w ((((w.alloc (.cells (rowK .i64 (tab 17 a)) 143)).alloc (.cells (rowK .i64 (tab 17 b)) 143)).alloc (.cells (rowK .i64 (tab 17 zer17)) 143)).alloc (.cells (rowK .i64 (tab 17 zer17)) 143))) := (((((Bel.refl _ _).alloc (by simp) _).alloc (by simp) _).alloc (by simp <;> omega) _).alloc (by simp <;> omega) _)
  have HA : Hid (Blk ((((w.alloc (.cells (rowK .i64 (tab 17 a)) 143)).alloc (.cells (rowK .i64 (tab 17 b)) 143)).alloc (.cells (rowK .i64 (tab 17 zer17)) 143)).alloc (.cells (rowK .i64 (tab 17 zer17)) 143)) (w.heap.size) 143 .i64 (tab 17 a)) := ((((blkAt w (w.heap.size) 143 .i64 (tab 17 a) (by simp)).alloc _).alloc _).alloc _)
  have HD : Hid (Blk ((((w.alloc (.cells (rowK .i64 (tab 17 a)) 143)).alloc (.cells (rowK .i64 (tab 17 b)) 143)).alloc (.cells (rowK .i64 (tab 17 zer17)) 143)).alloc (.cells (rowK .i64 (tab 17 zer17)) 143)) (w.heap.size + 1) 143 .i64 (tab 17 b)) := (((blkAt (w.alloc (.cells (rowK .i64 (tab 17 a)) 143)) (w.heap.size + 1) 143 .i64 (tab 17 b) (by simp)).alloc _).alloc _)
  have HR : Hid (Blk ((((w.alloc (.cells (rowK .i64 (tab 17 a)) 143)).alloc (.cells (rowK .i64 (tab 17 b)) 143)).alloc (.cells (rowK .i64 (tab 17 zer17)) 143)).alloc (.cells (rowK .i64 (tab 17 zer17)) 143)) (w.heap.size + 2) 143 .i64 (tab 17 zer17)) := ((blkAt ((w.alloc (.cells (rowK .i64 (tab 17 a)) 143)).alloc (.cells (rowK .i64 (tab 17 b)) 143)) (w.heap.size + 2) 143 .i64 (tab 17 zer17) (by simp)).alloc _)
  have HC : Hid (Blk ((((w.alloc (.cells (rowK .i64 (tab 17 a)) 143)).alloc (.cells (rowK .i64 (tab 17 b)) 143)).alloc (.cells (rowK .i64 (tab 17 zer17)) 143)).alloc (.cells (rowK .i64 (tab 17 zer17)) 143)) (w.heap.size + 3) 143 .i64 (tab 17 zer17)) := (blkAt (((w.alloc (.cells (rowK .i64 (tab 17 a)) 143)).alloc (.cells (rowK .i64 (tab 17 b)) 143)).alloc (.cells (rowK .i64 (tab 17 zer17)) 143)) (w.heap.size + 3) 143 .i64 (tab 17 zer17) (by simp))
  generalize ((((w.alloc (.cells (rowK .i64 (tab 17 a)) 143)).alloc (.cells (rowK .i64 (tab 17 b)) 143)).alloc (.cells (rowK .i64 (tab 17 zer17)) 143)).alloc (.cells (rowK .i64 (tab 17 zer17)) 143)) = w1 at *
  go_loopw [6] (fun t wr => ∃ k : Nat, k ≤ 17 ∧ t = .int .i64 k ∧ Bel w.heap.size w wr ∧ Blk wr w.heap.size 143 .i64 (tab 17 a) ∧ Blk wr (w.heap.size + 1) 143 .i64 (tab 17 b) ∧ Blk wr (w.heap.size + 2) 143 .i64 (tab 17 zer17) ∧ Blk wr (w.heap.size + 3) 143 .i64 (partTo (pl15 a b) zer17 17 k)) (fun t _ => 17 - (intOf t).toNat)
  case atStart => exact ⟨0, Nat.zero_le _, rfl, HB.out, HA.out, HD.out, HR.out, by rw [partTo_none]; exact HC.out⟩
  case round =>
    clear HB HA HD HR HC
    obtain ⟨k, hk, rfl, hB, hA, hD, hR, hC⟩ := hrel
    have HB := hide hB
    have HA := hide hA
    have HD := hide hD
    have HR := hide hR
    have HC := hide hC
    clear hB hR
    by_cases hk17 : k < 17
    · have ca := hA.cell k (by rw [tab_length]; exact hk17)
      rw [tab_getD _ _ _ hk17] at ca
      have cb := hD.cell k (by rw [tab_length]; exact hk17)
      rw [tab_getD _ _ _ hk17] at cb
      have cc := hC.cell k (by rw [partTo_length]; exact hk17)
      have hf := hC.frozen k
      clear hA hD hC
      have b1 := OA.out k hk17
      have b2 := OB.out k hk17
      have HS := hide (partTo_set (pl15 a b) zer17 17 k)
      have HL : Hid (pl15 a b k = a k + b k) := rfl
      generalize a k = x at *
      generalize b k = y at *
      generalize (partTo (pl15 a b) zer17 17 k).getD k 0 = z at *
      go_wp2
      try go_region
      try go_wp2
      go_roundw
      case rel =>
        refine ⟨k + 1, by omega, by go_num, ?_, HA.out.setOther _ _ (by show w.heap.size ≠ w.heap.size + 3; omega), HD.out.setOther _ _ (by show w.heap.size + 1 ≠ w.heap.size + 3; omega), HR.out.setOther _ _ (by show w.heap.size + 2 ≠ w.heap.size + 3; omega), ?_⟩
        · first | exact (HB.out.setCell (by show w.heap.size ≤ w.heap.size + 3; omega) _).drew | exact HB.out.setCell (by show w.heap.size ≤ w.heap.size + 3; omega) _
        · rw [← HS.out, HL.out]
          have h1 := HC.out.set k (x + y)
          rw [Int.natCast_add] at h1
          exact h1
      case measure => simp [intOf]; omega
    · have h17 : k = 17 := by omega
      subst h17
      rw [partTo_full] at hC
      have HC := hide hC
      clear hA hD hC
      go_wp2_with (first | (refine wpList_ldB HC.out Tryd.underlying143 rfl (infoN _) rfl _ rfl rfl ?_))
      refine (carriedR (pl15 a b) (pl15_bound OA.out OB.out) _).mono ?_
      rintro e w3 ⟨rfl, hb3⟩
      have HR3 := hide (HR.out.below hb3 HR.out.lt)
      have HB3 := hide (HB.out.trans (hb3.mono HB.out.size))
      clear hb3 HB HA HD HR HC
      go_wp2_with (first | (refine wpList_stB HR3.out (infoN (car15 (pl15 a b))) (lenN _ _) rfl _ _ rfl rfl rfl rfl ?_; intro w5 hb5 ho5 hk5))
      refine bodyPost_ret (v := .agg (rowK .i64 (tab 17 (car15 (pl15 a b))))) (retN Tryd.results121 _ _ _ _ rfl hk5) rfl ⟨rfl, HB3.out.trans (hb5.mono (by omega))⟩

/-- What 'less' lays down ahead of the carries, but at place 0. -/
def ls0 (a b : Nat → Nat) (i : Nat) : Nat := a i + 131068 - b i
def ls15 (a b : Nat → Nat) (i : Nat) : Nat := if i = 0 then ls0 a b 0 - 72 else ls0 a b i
theorem ls15_bound {a b : Nat → Nat} (ha : Ok15 a) (i : Nat) (hi : i < 17) : ls15 a b i < 72057594037927936 := by
  have h1 := ha i hi
  unfold ls15 ls0
  split
  · subst i; omega
  · omega
def lsN (a b : Nat → Nat) : Nat → Nat := car15 (ls15 a b)
theorem lsN_ok {a b : Nat → Nat} (ha : Ok15 a) : Ok15 (lsN a b) := car15_ok _ (ls15_bound ha)
theorem four_low : sumB 32768 (fun _ => 131068) 17 = 4 * PR + 72 := by decide +kernel
theorem ls15_val {a b : Nat → Nat} (hb : Ok15 b) : V15 (ls15 a b) + V15 b = V15 a + 4 * PR := by
  have h1 : sumB 32768 (fun i => ls0 a b i + b i) 17 = sumB 32768 (fun i => a i + 131068) 17 := sumB_congr _ 17 (fun i hi => by
    have := hb i hi
    show a i + 131068 - b i + b i = a i + 131068
    omega)
  rw [sumB_add, sumB_add 32768 a (fun _ => 131068), four_low] at h1
  have h2 := sumB_set 32768 (ls0 a b) 0 (ls0 a b 0 - 72) 17 (by decide)
  rw [Nat.pow_zero] at h2
  have h3 := hb 0 (by decide)
  have h4 : ls0 a b 0 = a 0 + 131068 - b 0 := rfl
  have h5 : V15 (ls15 a b) = sumB 32768 (fun i => if i = 0 then ls0 a b 0 - 72 else ls0 a b i) 17 := rfl
  rw [← h5] at h2
  unfold V15 at *
  omega
theorem subM_of {x y z : Nat} (h : z + y = x + 4 * PR) : z % PR = subM (x % PR) (y % PR) := by
  unfold subM
  rw [Nat.mod_mod]
  have hp := PR_pos
  have hy := Nat.mod_lt y hp
  have e : (z + y % PR) % PR = x % PR := by
    rw [Nat.add_mod, Nat.mod_mod, ← Nat.add_mod, h, Nat.add_mul_mod_self_right]
  have e2 : (z + y % PR + (PR - y % PR)) % PR = z % PR := by
    rw [Nat.add_assoc, show y % PR + (PR - y % PR) = PR by omega, Nat.add_mod_right]
  rw [← e2, Nat.add_mod, e]
  exact Nat.add_mod_mod _ _ _
theorem lsN_mod {a b : Nat → Nat} (hb : Ok15 b) : V15 (lsN a b) % PR = subM (V15 a % PR) (V15 b % PR) := by
  unfold lsN
  rw [car15_mod]
  exact subM_of (ls15_val hb)

set_option maxRecDepth 100000 in
set_option maxHeartbeats 1000000 in
theorem lessR (a b : Nat → Nat) (ha : Ok15 a) (hb : Ok15 b) (w : World) :
    Calls Tryd.prog 122 #[.agg (rowK .i64 (tab 17 a)), .agg (rowK .i64 (tab 17 b))] w fun e w' => e = .returned (.agg (rowK .i64 (tab 17 (lsN a b)))) ∧ Bel w.heap.size w w' := by
  have OA := hide ha
  have OB := hide hb
  clear ha hb
  go_enter Tryd.func122, Tryd.ntmps122
  go_wp2
  rw [← z17]
  have HB : Hid (Bel w.heap.size w ((((w.alloc (.cells (rowK .i64 (tab 17 a)) 143)).alloc (.cells (rowK .i64 (tab 17 b)) 143)).alloc (.cells (rowK .i64 (tab 17 zer17)) 143)).alloc (.cells (rowK .i64 (tab 17 zer17)) 143))) := (((((Bel.refl _ _).alloc (by simp) _).alloc (by simp) _).alloc (by simp <;> omega) _).alloc (by simp <;> omega) _)
  have HA : Hid (Blk ((((w.alloc (.cells (rowK .i64 (tab 17 a)) 143)).alloc (.cells (rowK .i64 (tab 17 b)) 143)).alloc (.cells (rowK .i64 (tab 17 zer17)) 143)).alloc (.cells (rowK .i64 (tab 17 zer17)) 143)) (w.heap.size) 143 .i64 (tab 17 a)) := ((((blkAt w (w.heap.size) 143 .i64 (tab 17 a) (by simp)).alloc _).alloc _).alloc _)
  have HD : Hid (Blk ((((w.alloc (.cells (rowK .i64 (tab 17 a)) 143)).alloc (.cells (rowK .i64 (tab 17 b)) 143)).alloc (.cells (rowK .i64 (tab 17 zer17)) 143)).alloc (.cells (rowK .i64 (tab 17 zer17)) 143)) (w.heap.size + 1) 143 .i64 (tab 17 b)) := (((blkAt (w.alloc (.cells (rowK .i64 (tab 17 a)) 143)) (w.heap.size + 1) 143 .i64 (tab 17 b) (by simp)).alloc _).alloc _)
  have HR : Hid (Blk ((((w.alloc (.cells (rowK .i64 (tab 17 a)) 143)).alloc (.cells (rowK .i64 (tab 17 b)) 143)).alloc (.cells (rowK .i64 (tab 17 zer17)) 143)).alloc (.cells (rowK .i64 (tab 17 zer17)) 143)) (w.heap.size + 2) 143 .i64 (tab 17 zer17)) := ((blkAt ((w.alloc (.cells (rowK .i64 (tab 17 a)) 143)).alloc (.cells (rowK .i64 (tab 17 b)) 143)) (w.heap.size + 2) 143 .i64 (tab 17 zer17) (by simp)).alloc _)
  have HC : Hid (Blk ((((w.alloc (.cells (rowK .i64 (tab 17 a)) 143)).alloc (.cells (rowK .i64 (tab 17 b)) 143)).alloc (.cells (rowK .i64 (tab 17 zer17)) 143)).alloc (.cells (rowK .i64 (tab 17 zer17)) 143)) (w.heap.size + 3) 143 .i64 (tab 17 zer17)) := (blkAt (((w.alloc (.cells (rowK .i64 (tab 17 a)) 143)).alloc (.cells (rowK .i64 (tab 17 b)) 143)).alloc (.cells (rowK .i64 (tab 17 zer17)) 143)) (w.heap.size + 3) 143 .i64 (tab 17 zer17) (by simp))
  generalize ((((w.alloc (.cells (rowK .i64 (tab 17 a)) 143)).alloc (.cells (rowK .i64 (tab 17 b)) 143)).alloc (.cells (rowK .i64 (tab 17 zer17)) 143)).alloc (.cells (rowK .i64 (tab 17 zer17)) 143)) = w1 at *
  go_loopw [6] (fun t wr => ∃ k : Nat, k ≤ 17 ∧ t = .int .i64 k ∧ Bel w.heap.size w wr ∧ Blk wr w.heap.size 143 .i64 (tab 17 a) ∧ Blk wr (w.heap.size + 1) 143 .i64 (tab 17 b) ∧ Blk wr (w.heap.size + 2) 143 .i64 (tab 17 zer17) ∧ Blk wr (w.heap.size + 3) 143 .i64 (partTo (ls0 a b) zer17 17 k)) (fun t _ => 17 - (intOf t).toNat)
  case atStart => exact ⟨0, Nat.zero_le _, rfl, HB.out, HA.out, HD.out, HR.out, by rw [partTo_none]; exact HC.out⟩
  case round =>
    clear HB HA HD HR HC
    obtain ⟨k, hk, rfl, hB, hA, hD, hR, hC⟩ := hrel
    have HB := hide hB
    have HA := hide hA
    have HD := hide hD
    have HR := hide hR
    have HC := hide hC
    clear hB hR
    by_cases hk17 : k < 17
    · have ca := hA.cell k (by rw [tab_length]; exact hk17)
      rw [tab_getD _ _ _ hk17] at ca
      have cb := hD.cell k (by rw [tab_length]; exact hk17)
      rw [tab_getD _ _ _ hk17] at cb
      have cc := hC.cell k (by rw [partTo_length]; exact hk17)
      have hf := hC.frozen k
      clear hA hD hC
      have b1 := OA.out k hk17
      have b2 := OB.out k hk17
      have HS := hide (partTo_set (ls0 a b) zer17 17 k)
      have HL : Hid (ls0 a b k = a k + 131068 - b k) := rfl
      generalize a k = x at *
      generalize b k = y at *
      generalize (partTo (ls0 a b) zer17 17 k).getD k 0 = z at *
      go_wp2
      try go_region
      try go_wp2
      go_roundw
      case rel =>
        refine ⟨k + 1, by omega, by go_num, ?_, HA.out.setOther _ _ (by show w.heap.size ≠ w.heap.size + 3; omega), HD.out.setOther _ _ (by show w.heap.size + 1 ≠ w.heap.size + 3; omega), HR.out.setOther _ _ (by show w.heap.size + 2 ≠ w.heap.size + 3; omega), ?_⟩
        · first | exact (HB.out.setCell (by show w.heap.size ≤ w.heap.size + 3; omega) _).drew | exact HB.out.setCell (by show w.heap.size ≤ w.heap.size + 3; omega) _
        · rw [← HS.out, HL.out]
          have h1 := HC.out.set k (x + 131068 - y)
          rw [show ((x + 131068 - y : Nat) : Int) = (x : Int) - (y : Int) + 131068 by omega] at h1
          exact h1
      case measure => simp [intOf]; omega
    · have h17 : k = 17 := by omega
      subst h17
      rw [partTo_full] at hC
      have cc := hC.cell 0 (by rw [tab_length]; decide)
      rw [tab_getD _ _ _ (by decide)] at cc
      have hf := hC.frozen 0
      have b1 := OA.out 0 (by decide)
      have b2 := OB.out 0 (by decide)
      have HS := hide (tab_set 17 (ls0 a b) 0 (ls0 a b 0 - 72))
      have HL : Hid (ls15 a b = fun i => if i = 0 then ls0 a b 0 - 72 else ls0 a b i) := rfl
      have l0 : ls0 a b 0 = a 0 + 131068 - b 0 := rfl
      have l1 : ls0 a b 0 ≤ 163835 := by omega
      have l2 : 72 ≤ ls0 a b 0 := by omega
      have HC2 := hide (hC.set 0 (ls0 a b 0 - 72))
      clear hA hD hC l0
      rw [HS.out, ← HL.out] at HC2
      generalize ls0 a b 0 = x at *
      rw [show ((x - 72 : Nat) : Int) = (x : Int) - 72 by omega] at HC2
      have HB2 := hide (HB.out.setCell (p := ⟨w.heap.size + 3, 0, none⟩) (by show w.heap.size ≤ w.heap.size + 3; omega) (.int .i64 ((x : Int) - 72)))
      have HR2 := hide (HR.out.setOther ⟨w.heap.size + 3, 0, none⟩ (.int .i64 ((x : Int) - 72)) (by show w.heap.size + 2 ≠ w.heap.size + 3; omega))
      clear HB HR HA HD HC
      go_wp2_with (first | (refine wpList_ldB HC2.out Tryd.underlying143 rfl (infoN _) rfl _ rfl rfl ?_))
      refine (carriedR (ls15 a b) (ls15_bound OA.out) _).mono ?_
      rintro e w3 ⟨rfl, hb3⟩
      have HR3 := hide (HR2.out.below hb3 HR2.out.lt)
      have HB3 := hide (HB2.out.trans (hb3.mono HB2.out.size))
      clear hb3 HB2 HR2 HC2
      go_wp2_with (first | (refine wpList_stB HR3.out (infoN (car15 (ls15 a b))) (lenN _ _) rfl _ _ rfl rfl rfl rfl ?_; intro w5 hb5 ho5 hk5))
      refine bodyPost_ret (v := .agg (rowK .i64 (tab 17 (car15 (ls15 a b))))) (retN Tryd.results122 _ _ _ _ rfl hk5) rfl ⟨rfl, HB3.out.trans (hb5.mono (by omega))⟩

end Go.Proofs.YtgjdogkciklgkaaDoor
