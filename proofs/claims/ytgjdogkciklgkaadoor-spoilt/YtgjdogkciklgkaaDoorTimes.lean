/-
  The program's times.
-/
import Derived.Test.YtgjdogkciklgkaaDoorConv
import Derived.Deep.RegionHeld3
namespace Go.Proofs.YtgjdogkciklgkaaDoor
open Go.RowKit

/-- What the inner round's region reads stays. -/
theorem keep6 {W w' : World} {H k n : Nat} {v v0 v1 v2 v3 v4 : Value} (bel : Bel W.heap.size W w')
    (h : n ≤ W.heap.size ∧ H + 1 < W.heap.size ∧ W.cell? ⟨H, k, none⟩ = some v ∧ W.cell? ⟨H + 1, 0, none⟩ = some v0 ∧ W.cell? ⟨H + 1, 1, none⟩ = some v1 ∧ W.cell? ⟨H + 1, 2, none⟩ = some v2 ∧ W.cell? ⟨H + 1, 3, none⟩ = some v3 ∧ W.cell? ⟨H + 1, 4, none⟩ = some v4) :
    n ≤ w'.heap.size ∧ H + 1 < w'.heap.size ∧ w'.cell? ⟨H, k, none⟩ = some v ∧ w'.cell? ⟨H + 1, 0, none⟩ = some v0 ∧ w'.cell? ⟨H + 1, 1, none⟩ = some v1 ∧ w'.cell? ⟨H + 1, 2, none⟩ = some v2 ∧ w'.cell? ⟨H + 1, 3, none⟩ = some v3 ∧ w'.cell? ⟨H + 1, 4, none⟩ = some v4 := by
  obtain ⟨h0, h1, c, c0, c1, c2, c3, c4⟩ := h
  have g : ∀ (b j : Nat), b < W.heap.size → w'.cell? ⟨b, j, none⟩ = W.cell? ⟨b, j, none⟩ := fun b j hb => bel.cell (p := ⟨b, j, none⟩) hb
  exact ⟨Nat.le_trans h0 bel.size, Nat.lt_of_lt_of_le h1 bel.size, by rw [g H k (by omega)]; exact c, by rw [g _ _ h1]; exact c0, by rw [g _ _ h1]; exact c1, by rw [g _ _ h1]; exact c2, by rw [g _ _ h1]; exact c3, by rw [g _ _ h1]; exact c4⟩

set_option maxRecDepth 100000 in
set_option maxHeartbeats 4000000 in
theorem timesP (a b : Nat → Nat) (ha : Ok51 a) (hb : Ok51 b) (w : World) :
    Calls Tryd.prog 60 #[.agg (rowK .u64 (tab 5 a)), .agg (rowK .u64 (tab 5 b))] w fun e w' => e = .returned (.agg (rowK .u64 (tab 5 (ti51 a b)))) ∧ Bel w.heap.size w w' := by
  have OA := hide ha
  have OB := hide hb
  have HCR := hide (cv_cr ha hb)
  have HC5 := hide (cv_five ha hb)
  have HPR := hide (cv_pre ha hb)
  have HSP := hide (fun i k hi hk => sP_lt ha hb i k hi hk)
  clear ha hb
  go_enter Tryd.func60, Tryd.ntmps60
  go_wp2
  rw [← z5]
  have HB : Hid (Bel w.heap.size w ((((w.alloc (.cells (rowK .u64 (tab 5 a)) 88)).alloc (.cells (rowK .u64 (tab 5 b)) 88)).alloc (.cells (rowK .u64 (tab 5 zer17)) 88)).alloc (.cells (rowK .u64 (tab 5 zer17)) 88))) := (((((Bel.refl _ _).alloc (by simp) _).alloc (by simp) _).alloc (by simp <;> omega) _).alloc (by simp <;> omega) _)
  have HA : Hid (Blk ((((w.alloc (.cells (rowK .u64 (tab 5 a)) 88)).alloc (.cells (rowK .u64 (tab 5 b)) 88)).alloc (.cells (rowK .u64 (tab 5 zer17)) 88)).alloc (.cells (rowK .u64 (tab 5 zer17)) 88)) (w.heap.size) 88 .u64 (tab 5 a)) := ((((blkAt w (w.heap.size) 88 .u64 (tab 5 a) (by simp)).alloc _).alloc _).alloc _)
  have HD : Hid (Blk ((((w.alloc (.cells (rowK .u64 (tab 5 a)) 88)).alloc (.cells (rowK .u64 (tab 5 b)) 88)).alloc (.cells (rowK .u64 (tab 5 zer17)) 88)).alloc (.cells (rowK .u64 (tab 5 zer17)) 88)) (w.heap.size + 1) 88 .u64 (tab 5 b)) := (((blkAt (w.alloc (.cells (rowK .u64 (tab 5 a)) 88)) (w.heap.size + 1) 88 .u64 (tab 5 b) (by simp)).alloc _).alloc _)
  have HR : Hid (Blk ((((w.alloc (.cells (rowK .u64 (tab 5 a)) 88)).alloc (.cells (rowK .u64 (tab 5 b)) 88)).alloc (.cells (rowK .u64 (tab 5 zer17)) 88)).alloc (.cells (rowK .u64 (tab 5 zer17)) 88)) (w.heap.size + 2) 88 .u64 (tab 5 zer17)) := ((blkAt ((w.alloc (.cells (rowK .u64 (tab 5 a)) 88)).alloc (.cells (rowK .u64 (tab 5 b)) 88)) (w.heap.size + 2) 88 .u64 (tab 5 zer17) (by simp)).alloc _)
  have HP : Hid (Blk ((((w.alloc (.cells (rowK .u64 (tab 5 a)) 88)).alloc (.cells (rowK .u64 (tab 5 b)) 88)).alloc (.cells (rowK .u64 (tab 5 zer17)) 88)).alloc (.cells (rowK .u64 (tab 5 zer17)) 88)) (w.heap.size + 3) 88 .u64 (tab 5 zer17)) := (blkAt (((w.alloc (.cells (rowK .u64 (tab 5 a)) 88)).alloc (.cells (rowK .u64 (tab 5 b)) 88)).alloc (.cells (rowK .u64 (tab 5 zer17)) 88)) (w.heap.size + 3) 88 .u64 (tab 5 zer17) (by simp))
  generalize ((((w.alloc (.cells (rowK .u64 (tab 5 a)) 88)).alloc (.cells (rowK .u64 (tab 5 b)) 88)).alloc (.cells (rowK .u64 (tab 5 zer17)) 88)).alloc (.cells (rowK .u64 (tab 5 zer17)) 88)) = w1 at *
  go_loopw [6, 11] (fun c t wr => ∃ i : Nat, i ≤ 5 ∧ c = .int .u64 (cr51 (cv51 a b) i : Nat) ∧ t = .int .i64 i ∧ Bel w.heap.size w wr ∧ Blk wr w.heap.size 88 .u64 (tab 5 a) ∧ Blk wr (w.heap.size + 1) 88 .u64 (tab 5 b) ∧ Blk wr (w.heap.size + 2) 88 .u64 (tab 5 zer17) ∧ Blk wr (w.heap.size + 3) 88 .u64 (partTo (lo51 (cv51 a b)) zer17 5 i)) (fun _ t _ => 5 - (intOf t).toNat)
  case atStart => exact ⟨0, Nat.zero_le _, rfl, rfl, HB.out, HA.out, HD.out, HR.out, by rw [partTo_none]; exact HP.out⟩
  case round =>
    clear HB HA HD HR HP
    obtain ⟨i, hi, rfl, rfl, hB, hA, hD, hR, hP⟩ := hrel
    have HB := hide hB
    have HA := hide hA
    have HD := hide hD
    have HR := hide hR
    have HP := hide hP
    clear hB hA hD hR hP
    by_cases hi5 : i < 5
    · have i1 : (i : Int) < 5 := by omega
      have bc := HCR.out i hi
      have HL : Hid (lo51 (cv51 a b) i = (cr51 (cv51 a b) i + sP a b i 5) % 2251799813685248) := rfl
      have HC : Hid (cr51 (cv51 a b) (i + 1) = (cr51 (cv51 a b) i + sP a b i 5) / 2251799813685248) := rfl
      generalize cr51 (cv51 a b) i = c at *
      go_wp2
      go_loopw [8, 9, 15] (fun vh vl t wr => ∃ k : Nat, k ≤ 5 ∧ vh = .int .u64 ((c + sP a b i k) / 18446744073709551616 : Nat) ∧ vl = .int .u64 ((c + sP a b i k) % 18446744073709551616 : Nat) ∧ t = .int .i64 k ∧ Bel w.heap.size w wr ∧ Blk wr w.heap.size 88 .u64 (tab 5 a) ∧ Blk wr (w.heap.size + 1) 88 .u64 (tab 5 b) ∧ Blk wr (w.heap.size + 2) 88 .u64 (tab 5 zer17) ∧ Blk wr (w.heap.size + 3) 88 .u64 (partTo (lo51 (cv51 a b)) zer17 5 i)) (fun _ _ t _ => 5 - (intOf t).toNat)
      case atStart =>
        refine ⟨0, Nat.zero_le _, ?_, ?_, rfl, HB.out, HA.out, HD.out, HR.out, HP.out⟩
        · apply congrArg (Value.int .u64)
          show (0 : Int) = (((c + 0) / 18446744073709551616 : Nat) : Int)
          omega
        · apply congrArg (Value.int .u64)
          show (c : Int) = (((c + 0) % 18446744073709551616 : Nat) : Int)
          omega
      case round =>
        clear HB HA HD HR HP
        obtain ⟨k, hk, rfl, rfl, rfl, hB, hA, hD, hR, hP⟩ := hrel
        have HB := hide hB
        have HA := hide hA
        have HD := hide hD
        have HR := hide hR
        have HP := hide hP
        clear hB hR hP
        by_cases hk5 : k < 5
        · have ca := hA.cell k (by rw [tab_length]; exact hk5)
          rw [tab_getD _ _ _ hk5] at ca
          have cb0 := hD.cell 0 (by rw [tab_length]; decide)
          have cb1 := hD.cell 1 (by rw [tab_length]; decide)
          have cb2 := hD.cell 2 (by rw [tab_length]; decide)
          have cb3 := hD.cell 3 (by rw [tab_length]; decide)
          have cb4 := hD.cell 4 (by rw [tab_length]; decide)
          rw [tab_getD _ _ _ (by decide)] at cb0 cb1 cb2 cb3 cb4
          have hsz : w.heap.size + 4 ≤ wr.heap.size := HP.out.lt
          have hsz1 : w.heap.size + 1 < wr.heap.size := by omega
          clear hA hD
          have k0 : (0 : Int) ≤ (k : Int) := by omega
          have k1 : (k : Int) < 5 := by omega
          have hsub : IntKind.i64.wrap ((i : Int) - (k : Int)) = (i : Int) - (k : Int) := by rw [IntKind.wrap_i64]; omega
          have HS : Hid (sP a b i (k + 1) = sP a b i k + a k * fo51 b i k) := rfl
          have bs : sP a b i (k + 1) ≤ BD := HSP.out i (k + 1) hi5 (by omega)
          have bx := OA.out.lt k hk5
          have by' := fo51_lt OB.out i k hi5 hk5
          have hAD : c + sP a b i k + a k * fo51 b i k < 340282366920938463463374607431768211456 := by
            rw [HS.out] at bs
            unfold BD at bs
            omega
          have HAD := hide hAD
          have HBX := hide bx
          have HBY := hide by'
          clear bs bx by' hAD
          generalize hAA : c + sP a b i k = A at *
          have HAA := hide hAA
          clear hAA
          go_wp2
          go_region_held3 (fun w' => w.heap.size + 4 ≤ w'.heap.size ∧ w.heap.size + 1 < w'.heap.size ∧ w'.cell? ⟨w.heap.size, k, none⟩ = some (.int .u64 (a k : Nat)) ∧ w'.cell? ⟨w.heap.size + 1, 0, none⟩ = some (.int .u64 (b 0 : Nat)) ∧ w'.cell? ⟨w.heap.size + 1, 1, none⟩ = some (.int .u64 (b 1 : Nat)) ∧ w'.cell? ⟨w.heap.size + 1, 2, none⟩ = some (.int .u64 (b 2 : Nat)) ∧ w'.cell? ⟨w.heap.size + 1, 3, none⟩ = some (.int .u64 (b 3 : Nat)) ∧ w'.cell? ⟨w.heap.size + 1, 4, none⟩ = some (.int .u64 (b 4 : Nat)))
            (first | exact ⟨hsz, hsz1, ca, cb0, cb1, cb2, cb3, cb4⟩ | exact keep6 (by assumption) (by assumption) | assumption)
            (first
              | (go_at_call 86; refine (foldedP b OB.out i k hi5 hk5 _ rfl _).mono ?_; rintro e w' ⟨rfl, bel⟩)
              | (go_at_call 85; refine (addProductP A (a k) (fo51 b i k) HAD.out (by have := HBX.out; omega) (by have := HBY.out; omega) _).mono ?_; rintro e w'' ⟨rfl, rfl⟩))
          have belr : Bel wr.heap.size wr w'' := (Bel.refl _ _).drew.trans bel
          clear bel
          have HEH : Hid ((((c + sP a b i (k + 1)) / 18446744073709551616 : Nat) : Int) = ((A : Int) + ((a k : Nat) : Int) * ((fo51 b i k : Nat) : Int)) / 18446744073709551616) := by
            show (((c + sP a b i (k + 1)) / 18446744073709551616 : Nat) : Int) = _
            rw [HS.out, ← Nat.add_assoc, HAA.out, Int.natCast_ediv, Int.natCast_add, Int.natCast_mul]
            rfl
          have HEL : Hid ((((c + sP a b i (k + 1)) % 18446744073709551616 : Nat) : Int) = ((A : Int) + ((a k : Nat) : Int) * ((fo51 b i k : Nat) : Int)) % 18446744073709551616) := by
            show (((c + sP a b i (k + 1)) % 18446744073709551616 : Nat) : Int) = _
            rw [HS.out, ← Nat.add_assoc, HAA.out, Int.natCast_emod, Int.natCast_add, Int.natCast_mul]
            rfl
          replace HB := hide (HB.out.trans (belr.mono HB.out.size))
          replace HA := hide (HA.out.below belr HA.out.lt)
          replace HD := hide (HD.out.below belr HD.out.lt)
          replace HR := hide (HR.out.below belr HR.out.lt)
          replace HP := hide (HP.out.below belr HP.out.lt)
          clear belr
          go_wp2
          go_roundw
          case rel => exact ⟨k + 1, by omega, by rw [HEH.out], by rw [HEL.out], by go_num, HB.out, HA.out, HD.out, HR.out, HP.out⟩
          case measure => simp [intOf]; omega
        · have h5 : k = 5 := by omega
          subst h5
          clear hA hD
          have cp := HP.out.cell i (by rw [partTo_length]; exact hi5)
          have hf := HP.out.frozen i
          have bs : sP a b i 5 ≤ BD := HSP.out i 5 hi5 (by decide)
          have bA : c + sP a b i 5 < 41538374868278621028243970633760768 := by unfold BD at bs; omega
          have HP2 := hide (HP.out.set i (lo51 (cv51 a b) i))
          rw [partTo_set, HL.out] at HP2
          have ec := carry_eq (c + sP a b i 5) bA
          have ea := and51 ((c + sP a b i 5) % 18446744073709551616) (Nat.mod_lt _ (by decide))
          rw [show (c + sP a b i 5) % 18446744073709551616 % 2251799813685248 = (c + sP a b i 5) % 2251799813685248 by omega] at ea
          clear bs bA
          generalize (partTo (lo51 (cv51 a b)) zer17 5 i).getD i 0 = old at *
          generalize c + sP a b i 5 = A at *
          obtain ⟨ah, hah⟩ : ∃ v, v = A / 18446744073709551616 := ⟨_, rfl⟩
          obtain ⟨al, hal⟩ : ∃ v, v = A % 18446744073709551616 := ⟨_, rfl⟩
          obtain ⟨r, hr⟩ : ∃ v, v = A % 2251799813685248 := ⟨_, rfl⟩
          obtain ⟨q, hq⟩ : ∃ v, v = A / 2251799813685248 := ⟨_, rfl⟩
          rw [← hah, ← hal, ← hq] at ec
          rw [← hal, ← hr] at ea
          rw [← hr] at HP2
          rw [← hah, ← hal]
          have HQ : Hid (cr51 (cv51 a b) (i + 1) = q) := by show cr51 (cv51 a b) (i + 1) = q; rw [HC.out, hq]
          clear hah hal hr hq
          go_wp2
          refine ⟨⟨i + 1, by omega, by rw [HQ.out], by go_num, HB.out.setCell (p := ⟨w.heap.size + 3, i, none⟩) (by show w.heap.size ≤ w.heap.size + 3; omega) _, HA.out.setOther _ _ (by show w.heap.size ≠ w.heap.size + 3; omega), HD.out.setOther _ _ (by show w.heap.size + 1 ≠ w.heap.size + 3; omega), HR.out.setOther _ _ (by show w.heap.size + 2 ≠ w.heap.size + 3; omega), HP2.out⟩, by simp [intOf]; omega⟩
    · have h5 : i = 5 := by omega
      subst h5
      have hP := HP.out
      rw [partTo_full] at hP
      have cc := hP.cell 0 (by rw [tab_length]; decide)
      rw [tab_getD _ _ _ (by decide)] at cc
      have hf := hP.frozen 0
      have b1 := HC5.out
      have b2 := lo51_lt (cv51 a b) 0
      have HP2 := hide (hP.set 0 (lo51 (cv51 a b) 0 + 19 * cr51 (cv51 a b) 5))
      rw [tab_set] at HP2
      have HN : Hid (set51 (cv51 a b) = fun i => if i = 0 then lo51 (cv51 a b) 0 + 19 * cr51 (cv51 a b) 5 else lo51 (cv51 a b) i) := rfl
      rw [← HN.out] at HP2
      have HB2 := hide (HB.out.setCell (p := ⟨w.heap.size + 3, 0, none⟩) (by show w.heap.size ≤ w.heap.size + 3; omega) (.int .u64 ((lo51 (cv51 a b) 0 + 19 * cr51 (cv51 a b) 5 : Nat) : Int)))
      have HR2 := hide (HR.out.setOther ⟨w.heap.size + 3, 0, none⟩ (.int .u64 ((lo51 (cv51 a b) 0 + 19 * cr51 (cv51 a b) 5 : Nat) : Int)) (by show w.heap.size + 2 ≠ w.heap.size + 3; omega))
      clear hP HB HA HD HR HP
      have HTI : Hid (ti51 a b = set51 (set51 (cv51 a b))) := rfl
      generalize cr51 (cv51 a b) 5 = c at *
      generalize lo51 (cv51 a b) 0 = x at *
      rw [show ((x + 19 * c : Nat) : Int) = (x : Int) + 19 * (c : Int) by omega] at HP2 HB2 HR2
      go_wp2_with (first | (refine wpList_ldB HP2.out Tryd.underlying88 rfl (info5 _) rfl _ rfl rfl ?_))
      refine (settledP (set51 (cv51 a b)) HPR.out _).mono ?_
      rintro e w3 ⟨rfl, hb3⟩
      have HR3 := hide (HR2.out.below hb3 HR2.out.lt)
      have HB3 := hide (HB2.out.trans (hb3.mono HB2.out.size))
      clear hb3 HB2 HR2 HP2
      rw [← HTI.out]
      go_wp2_with (first | (refine wpList_stB HR3.out (info5 (ti51 a b)) (len5 _ _) rfl _ _ rfl rfl rfl rfl ?_; intro w5 hb5 ho5 hk5))
      refine bodyPost_ret (v := .agg (rowK .u64 (tab 5 (ti51 a b)))) (ret5 Tryd.results60 _ _ _ _ rfl hk5) rfl ⟨rfl, HB3.out.trans (hb5.mono (by omega))⟩
end Go.Proofs.YtgjdogkciklgkaaDoor
