/-
  The program's doubled.
-/
import Derived.Test.YtgjdogkciklgkaaDoorRp
namespace Go.Proofs.YtgjdogkciklgkaaDoor
open Go.RowKit

set_option maxRecDepth 100000 in
set_option maxHeartbeats 4000000 in
theorem doubledP {p : Nat → Nat} {x z : Nat} (hx : Is51 p x) (hz : Is51 (sec5 p) z) (w : World) :
    Calls Tryd.prog 58 #[.agg (rowK .u64 (tab 10 p))] w fun e w' => ∃ v, e = .returned v ∧ V10 v (rX2 x z) (rZ2 x z) ∧ Bel w.heap.size w w' := by
  have HX := hide hx
  have HZ := hide hz
  clear hx hz
  go_enter Tryd.func58, Tryd.ntmps58
  go_wp2
  rw [← z10]
  have HB : Hid (Bel w.heap.size w ((w.alloc (.cells (rowK .u64 (tab 10 p)) 92)).alloc (.cells (rowK .u64 (tab 10 zer17)) 92))) := (((Bel.refl _ _).alloc (by simp) _).alloc (by simp) _)
  have HA : Hid (Blk ((w.alloc (.cells (rowK .u64 (tab 10 p)) 92)).alloc (.cells (rowK .u64 (tab 10 zer17)) 92)) (w.heap.size) 92 .u64 (tab 10 p)) := ((blkAt w (w.heap.size) 92 .u64 (tab 10 p) (by simp)).alloc _)
  have HR : Hid (Blk ((w.alloc (.cells (rowK .u64 (tab 10 p)) 92)).alloc (.cells (rowK .u64 (tab 10 zer17)) 92)) (w.heap.size + 1) 92 .u64 (tab 10 zer17)) := (blkAt (w.alloc (.cells (rowK .u64 (tab 10 p)) 92)) (w.heap.size + 1) 92 .u64 (tab 10 zer17) (by simp))
  generalize ((w.alloc (.cells (rowK .u64 (tab 10 p)) 92)).alloc (.cells (rowK .u64 (tab 10 zer17)) 92)) = w1 at *
  have HP0 := hide (HA.out.range 0 _ (f100 p))
  have HP1 := hide (HA.out.range 5 _ (f101 p))
  have HL1 := hide HR.out.lt
  clear HA
  refine wp_region_phaseB 12 (PL [.ptr w.heap.size 0, .val x, .ptr w.heap.size 5, .val z, .val (addM x z), .ptr w.heap.size 0, .val x, .ptr w.heap.size 5, .val z, .val (subM x z), .new (w1.heap.size), .new (w1.heap.size)]) (frL [.ptr w.heap.size 0, .val x, .ptr w.heap.size 5, .val z, .val (addM x z), .ptr w.heap.size 0, .val x, .ptr w.heap.size 5, .val z, .val (subM x z), .new (w1.heap.size), .new (w1.heap.size)]) (by kernel_rfl) (by kernel_rfl) (PL_stable _) (PL_fr _) ?op1 ?tail1
  case op1 =>
    intro i o d hi ho hd a wv hbel hkeep hdep
    have RP0 : Rng wv w.heap.size 0 .u64 (tab 5 p) := HP0.out.drew.below hbel
    have RP1 : Rng wv w.heap.size 5 .u64 (tab 5 (sec5 p)) := HP1.out.drew.below hbel
    match i, hi with
    | 0, _ =>
      obtain rfl := Option.some.inj ho
      obtain rfl := Option.some.inj hd
      exact opB Bool.false_ne_true (op_field rfl rfl (hkeep 1 (ndB_spec (by kernel_rfl))) (field0 w.heap.size wv) rfl)
    | 1, _ =>
      obtain rfl := Option.some.inj ho
      obtain rfl := Option.some.inj hd
      exact opB Bool.false_ne_true (op_load rfl _ rfl w.heap.size 0 (hdep 0 _ 6 (by decide) rfl rfl (by kernel_rfl)) RP0 Tryd.underlying88 rfl (info5 _) ⟨_, rfl, HX.out⟩)
    | 2, _ =>
      obtain rfl := Option.some.inj ho
      obtain rfl := Option.some.inj hd
      exact opB Bool.false_ne_true (op_field rfl rfl (hkeep 1 (ndB_spec (by kernel_rfl))) (field1 w.heap.size wv) rfl)
    | 3, _ =>
      obtain rfl := Option.some.inj ho
      obtain rfl := Option.some.inj hd
      exact opB Bool.false_ne_true (op_load rfl _ rfl w.heap.size 5 (hdep 2 _ 8 (by decide) rfl rfl (by kernel_rfl)) RP1 Tryd.underlying88 rfl (info5 _) ⟨_, rfl, HZ.out⟩)
    | 4, _ =>
      obtain rfl := Option.some.inj ho
      obtain rfl := Option.some.inj hd
      exact opB Bool.false_ne_true (op_call2 (R := fun v _ => V5 v (addM x z)) rfl rfl rfl enterPlus5 rfl rfl rfl (plusV5 (hdep 1 _ 7 (by decide) rfl rfl (by kernel_rfl)) (hdep 3 _ 9 (by decide) rfl rfl (by kernel_rfl)) wv))
    | 5, _ =>
      obtain rfl := Option.some.inj ho
      obtain rfl := Option.some.inj hd
      exact opB Bool.false_ne_true (op_field rfl rfl (hkeep 1 (ndB_spec (by kernel_rfl))) (field0 w.heap.size wv) rfl)
    | 6, _ =>
      obtain rfl := Option.some.inj ho
      obtain rfl := Option.some.inj hd
      exact opB Bool.false_ne_true (op_load rfl _ rfl w.heap.size 0 (hdep 5 _ 11 (by decide) rfl rfl (by kernel_rfl)) RP0 Tryd.underlying88 rfl (info5 _) ⟨_, rfl, HX.out⟩)
    | 7, _ =>
      obtain rfl := Option.some.inj ho
      obtain rfl := Option.some.inj hd
      exact opB Bool.false_ne_true (op_field rfl rfl (hkeep 1 (ndB_spec (by kernel_rfl))) (field1 w.heap.size wv) rfl)
    | 8, _ =>
      obtain rfl := Option.some.inj ho
      obtain rfl := Option.some.inj hd
      exact opB Bool.false_ne_true (op_load rfl _ rfl w.heap.size 5 (hdep 7 _ 13 (by decide) rfl rfl (by kernel_rfl)) RP1 Tryd.underlying88 rfl (info5 _) ⟨_, rfl, HZ.out⟩)
    | 9, _ =>
      obtain rfl := Option.some.inj ho
      obtain rfl := Option.some.inj hd
      exact opB Bool.false_ne_true (op_call2 (R := fun v _ => V5 v (subM x z)) rfl rfl rfl enterMinus5 rfl rfl rfl (minusV5 (hdep 6 _ 12 (by decide) rfl rfl (by kernel_rfl)) (hdep 8 _ 14 (by decide) rfl rfl (by kernel_rfl)) wv))
    | 10, _ =>
      obtain rfl := Option.some.inj ho
      obtain rfl := Option.some.inj hd
      exact opB_alloc rfl rfl (alloc5 wv) ⟨wv.heap.size, rfl, hbel.size, Blk.new _ _ _ _⟩
    | 11, _ =>
      obtain rfl := Option.some.inj ho
      obtain rfl := Option.some.inj hd
      exact opB_alloc rfl rfl (alloc5 wv) ⟨wv.heap.size, rfl, hbel.size, Blk.new _ _ _ _⟩
  case tail1 =>
    intro a wv hj hap
    have hact := hj.act [6, 7, 8, 9, 10, 11, 12, 13, 14, 15, 3, 4] (by kernel_rfl)
    have e6 : a.tmps.getD 6 undef = .pointer (some ⟨w.heap.size, 0, none⟩) := hj.post 0 _ 6 (by decide) rfl rfl rfl
    obtain ⟨g7, e7, i7⟩ := hj.post 1 _ 7 (by decide) rfl rfl rfl
    have e8 : a.tmps.getD 8 undef = .pointer (some ⟨w.heap.size, 5, none⟩) := hj.post 2 _ 8 (by decide) rfl rfl rfl
    obtain ⟨g9, e9, i9⟩ := hj.post 3 _ 9 (by decide) rfl rfl rfl
    obtain ⟨g10, e10, i10⟩ := hj.post 4 _ 10 (by decide) rfl rfl rfl
    have e11 : a.tmps.getD 11 undef = .pointer (some ⟨w.heap.size, 0, none⟩) := hj.post 5 _ 11 (by decide) rfl rfl rfl
    obtain ⟨g12, e12, i12⟩ := hj.post 6 _ 12 (by decide) rfl rfl rfl
    have e13 : a.tmps.getD 13 undef = .pointer (some ⟨w.heap.size, 5, none⟩) := hj.post 7 _ 13 (by decide) rfl rfl rfl
    obtain ⟨g14, e14, i14⟩ := hj.post 8 _ 14 (by decide) rfl rfl rfl
    obtain ⟨g15, e15, i15⟩ := hj.post 9 _ 15 (by decide) rfl rfl rfl
    obtain ⟨b3, e3, l3, k3⟩ := hj.post 10 _ 3 (by decide) rfl rfl rfl
    obtain ⟨b4, e4, l4, k4⟩ := hj.post 11 _ 4 (by decide) rfl rfl rfl
    have ne : b3 ≠ b4 := by
      have h := hap 10 11 _ _ 3 4 (by decide) (by decide) (by decide) rfl rfl rfl rfl rfl rfl rfl rfl
      rw [e3, e4] at h
      exact fun e => h (by rw [e])
    simp only [List.map_cons, List.map_nil, e6, e7, e8, e9, e10, e11, e12, e13, e14, e15, e3, e4] at hact
    have hjb : Bel w1.heap.size w1 wv := (Bel.refl _ _).drew.trans hj.bel
    clear hj hap e6 e7 e8 e9 e10 e11 e12 e13 e14 e15 e3 e4
    subst hact
    simp only [putL, Act.put, List.setIfInBounds_toArray, List.set_cons_zero, List.set_cons_succ, List.drop_succ_cons, List.drop_zero]
    have I3 := hide i10
    have I4 := hide i15
    have K3 := hide k3
    have K4 := hide k4
    clear k3 k4 i7 i9 i10 i12 i14 i15 HP0 HP1
    replace HR := hide (HR.out.below hjb HR.out.lt)
    replace HB := hide (HB.out.trans (hjb.mono HB.out.size))
    go_wp2_with (first | (refine wpList_stB K3.out (info5 g10) (len5 _ _) rfl _ _ rfl rfl rfl rfl ?_; intro w2 hb2 ho2 hk2) | (refine wpList_stB (K4.out.stays ho2 (Ne.symm ne)) (info5 g15) (len5 _ _) rfl _ _ rfl rfl rfl rfl ?_; intro w3 hb3 ho3 hk3))
    have L := hide (show w.heap.size + 1 < b3 ∧ w.heap.size + 1 < b4 from ⟨Nat.lt_of_lt_of_le HL1.out l3, Nat.lt_of_lt_of_le HL1.out l4⟩)
    replace HR := hide ((HR.out.stays ho2 (Nat.ne_of_lt L.out.1)).stays ho3 (Nat.ne_of_lt L.out.2))
    replace HB := hide ((HB.out.trans (hb2.mono (by have := L.out.1; omega))).trans (hb3.mono (by have := L.out.2; omega)))
    replace K3 := hide (hk2.stays ho3 ne)
    replace K4 := hide hk3
    have H3 := hide K3.out.rng
    have H4 := hide K4.out.rng
    have NE := hide ne
    clear hb2 ho2 hk2 hb3 ho3 hk3 hjb l3 l4 ne HL1
    refine wp_region_phaseB 6 (PL [.val (addM x z), .val (addM x z), .val (mulM (addM x z) (addM x z)), .val (subM x z), .val (subM x z), .val (mulM (subM x z) (subM x z))]) (frL [.val (addM x z), .val (addM x z), .val (mulM (addM x z) (addM x z)), .val (subM x z), .val (subM x z), .val (mulM (subM x z) (subM x z))]) (by kernel_rfl) (by kernel_rfl) (PL_stable _) (PL_fr _) ?op2 ?tail2
    case op2 =>
      intro i o d hi ho hd a wv hbel hkeep hdep
      have R3 : Rng wv b3 0 .u64 (tab 5 g10) := H3.out.drew.below hbel
      have R4 : Rng wv b4 0 .u64 (tab 5 g15) := H4.out.drew.below hbel
      match i, hi with
      | 0, _ =>
        obtain rfl := Option.some.inj ho
        obtain rfl := Option.some.inj hd
        exact opB Bool.false_ne_true (op_load rfl _ rfl b3 0 (hkeep 3 (ndB_spec (by kernel_rfl))) R3 Tryd.underlying88 rfl (info5 _) ⟨_, rfl, I3.out⟩)
      | 1, _ =>
        obtain rfl := Option.some.inj ho
        obtain rfl := Option.some.inj hd
        exact opB Bool.false_ne_true (op_load rfl _ rfl b3 0 (hkeep 3 (ndB_spec (by kernel_rfl))) R3 Tryd.underlying88 rfl (info5 _) ⟨_, rfl, I3.out⟩)
      | 2, _ =>
        obtain rfl := Option.some.inj ho
        obtain rfl := Option.some.inj hd
        exact opB Bool.false_ne_true (op_call2 (R := fun v _ => V5 v (mulM (addM x z) (addM x z))) rfl rfl rfl enterTimes5 rfl rfl rfl (timesV5 (hdep 0 _ 16 (by decide) rfl rfl (by kernel_rfl)) (hdep 1 _ 17 (by decide) rfl rfl (by kernel_rfl)) wv))
      | 3, _ =>
        obtain rfl := Option.some.inj ho
        obtain rfl := Option.some.inj hd
        exact opB Bool.false_ne_true (op_load rfl _ rfl b4 0 (hkeep 4 (ndB_spec (by kernel_rfl))) R4 Tryd.underlying88 rfl (info5 _) ⟨_, rfl, I4.out⟩)
      | 4, _ =>
        obtain rfl := Option.some.inj ho
        obtain rfl := Option.some.inj hd
        exact opB Bool.false_ne_true (op_load rfl _ rfl b4 0 (hkeep 4 (ndB_spec (by kernel_rfl))) R4 Tryd.underlying88 rfl (info5 _) ⟨_, rfl, I4.out⟩)
      | 5, _ =>
        obtain rfl := Option.some.inj ho
        obtain rfl := Option.some.inj hd
        exact opB Bool.false_ne_true (op_call2 (R := fun v _ => V5 v (mulM (subM x z) (subM x z))) rfl rfl rfl enterTimes5 rfl rfl rfl (timesV5 (hdep 3 _ 19 (by decide) rfl rfl (by kernel_rfl)) (hdep 4 _ 20 (by decide) rfl rfl (by kernel_rfl)) wv))
    case tail2 =>
      intro a wv hj hap
      have hact := hj.act [16, 17, 18, 19, 20, 21] (by kernel_rfl)
      obtain ⟨g16, e16, i16⟩ := hj.post 0 _ 16 (by decide) rfl rfl rfl
      obtain ⟨g17, e17, i17⟩ := hj.post 1 _ 17 (by decide) rfl rfl rfl
      obtain ⟨g18, e18, i18⟩ := hj.post 2 _ 18 (by decide) rfl rfl rfl
      obtain ⟨g19, e19, i19⟩ := hj.post 3 _ 19 (by decide) rfl rfl rfl
      obtain ⟨g20, e20, i20⟩ := hj.post 4 _ 20 (by decide) rfl rfl rfl
      obtain ⟨g21, e21, i21⟩ := hj.post 5 _ 21 (by decide) rfl rfl rfl
      simp only [List.map_cons, List.map_nil, e16, e17, e18, e19, e20, e21] at hact
      have hjb : Bel w3.heap.size w3 wv := (Bel.refl _ _).drew.trans hj.bel
      clear hj hap e16 e17 e18 e19 e20 e21
      subst hact
      simp only [putL, Act.put, List.setIfInBounds_toArray, List.set_cons_zero, List.set_cons_succ, List.drop_succ_cons, List.drop_zero]
      replace HR := hide (HR.out.below hjb HR.out.lt)
      replace HB := hide (HB.out.trans (hjb.mono HB.out.size))
      replace K3 := hide (K3.out.below hjb K3.out.lt)
      replace K4 := hide (K4.out.below hjb K4.out.lt)
      replace I3 := hide i18
      replace I4 := hide i21
      clear H3 H4 hjb i16 i17 i18 i19 i20 i21
      go_wp2_with (first | (refine wpList_stB K3.out (info5 g18) (len5 _ _) rfl _ _ rfl rfl rfl rfl ?_; intro w4 hb2 ho2 hk2) | (refine wpList_stB (K4.out.stays ho2 (Ne.symm NE.out)) (info5 g21) (len5 _ _) rfl _ _ rfl rfl rfl rfl ?_; intro w5 hb3 ho3 hk3) | (refine wpList_ldQ rfl _ rfl _ _ rfl (by first | with_reducible exact (hk2.stays ho3 NE.out).rng | with_reducible exact hk3.rng) Tryd.underlying88 rfl (info5 _) ?_))
      replace HR := hide ((HR.out.stays ho2 (Nat.ne_of_lt L.out.1)).stays ho3 (Nat.ne_of_lt L.out.2))
      replace HB := hide ((HB.out.trans (hb2.mono (by have := L.out.1; omega))).trans (hb3.mono (by have := L.out.2; omega)))
      have H3 := hide (hk2.stays ho3 NE.out).rng
      have H4 := hide hk3.rng
      clear hb2 ho2 hk2 hb3 ho3 hk3 K3 K4
      refine (minusI5 I3.out I4.out _).mono ?_
      rintro e w6 ⟨f5, rfl, i5, bel⟩
      have I5 := hide i5
      replace H3 := hide (H3.out.below bel)
      replace H4 := hide (H4.out.below bel)
      replace HR := hide (HR.out.below bel HR.out.lt)
      replace HB := hide (HB.out.trans (bel.mono HB.out.size))
      clear bel i5
      go_wp2_with (first | (refine wpList_stNew rfl _ _ rfl rfl rfl rfl rfl (info5 f5) (z5n _) ?_; intro w7 bel hb5))
      replace H3 := hide (H3.out.below bel)
      replace H4 := hide (H4.out.below bel)
      replace HR := hide (HR.out.below bel HR.out.lt)
      replace HB := hide (HB.out.trans (bel.mono HB.out.size))
      have H5 := hide hb5.rng
      clear bel hb5
      generalize w6.heap.size = b5 at *
      refine wp_region_phaseB 10 (PL [.val (mulM (addM x z) (addM x z)), .val (mulM (subM x z) (subM x z)), .val (rX2 x z), .val (rE x z), .val (mulM (addM x z) (addM x z)), .val (rE x z), .val 121665, .val (mulM (rE x z) 121665), .val (addM (mulM (addM x z) (addM x z)) (mulM (rE x z) 121665)), .val (mulM (rE x z) (addM (mulM (addM x z) (addM x z)) (mulM (rE x z) 121665)))]) (frL [.val (mulM (addM x z) (addM x z)), .val (mulM (subM x z) (subM x z)), .val (rX2 x z), .val (rE x z), .val (mulM (addM x z) (addM x z)), .val (rE x z), .val 121665, .val (mulM (rE x z) 121665), .val (addM (mulM (addM x z) (addM x z)) (mulM (rE x z) 121665)), .val (mulM (rE x z) (addM (mulM (addM x z) (addM x z)) (mulM (rE x z) 121665)))]) (by kernel_rfl) (by kernel_rfl) (PL_stable _) (PL_fr _) ?op4 ?tail4
      case op4 =>
        intro i o d hi ho hd a wv hbel hkeep hdep
        have R3 : Rng wv b3 0 .u64 (tab 5 g18) := H3.out.drew.below hbel
        have R4 : Rng wv b4 0 .u64 (tab 5 g21) := H4.out.drew.below hbel
        have R5 : Rng wv b5 0 .u64 (tab 5 f5) := H5.out.drew.below hbel
        match i, hi with
        | 0, _ =>
          obtain rfl := Option.some.inj ho
          obtain rfl := Option.some.inj hd
          exact opB Bool.false_ne_true (op_load rfl _ rfl b3 0 (hkeep 3 (ndB_spec (by kernel_rfl))) R3 Tryd.underlying88 rfl (info5 _) ⟨_, rfl, I3.out⟩)
        | 1, _ =>
          obtain rfl := Option.some.inj ho
          obtain rfl := Option.some.inj hd
          exact opB Bool.false_ne_true (op_load rfl _ rfl b4 0 (hkeep 4 (ndB_spec (by kernel_rfl))) R4 Tryd.underlying88 rfl (info5 _) ⟨_, rfl, I4.out⟩)
        | 2, _ =>
          obtain rfl := Option.some.inj ho
          obtain rfl := Option.some.inj hd
          exact opB Bool.false_ne_true (op_call2 (R := fun v _ => V5 v (rX2 x z)) rfl rfl rfl enterTimes5 rfl rfl rfl (timesV5 (hdep 0 _ 25 (by decide) rfl rfl (by kernel_rfl)) (hdep 1 _ 26 (by decide) rfl rfl (by kernel_rfl)) wv))
        | 3, _ =>
          obtain rfl := Option.some.inj ho
          obtain rfl := Option.some.inj hd
          exact opB Bool.false_ne_true (op_load rfl _ rfl b5 0 (hkeep 5 (ndB_spec (by kernel_rfl))) R5 Tryd.underlying88 rfl (info5 _) ⟨_, rfl, I5.out⟩)
        | 4, _ =>
          obtain rfl := Option.some.inj ho
          obtain rfl := Option.some.inj hd
          exact opB Bool.false_ne_true (op_load rfl _ rfl b3 0 (hkeep 3 (ndB_spec (by kernel_rfl))) R3 Tryd.underlying88 rfl (info5 _) ⟨_, rfl, I3.out⟩)
        | 5, _ =>
          obtain rfl := Option.some.inj ho
          obtain rfl := Option.some.inj hd
          exact opB Bool.false_ne_true (op_load rfl _ rfl b5 0 (hkeep 5 (ndB_spec (by kernel_rfl))) R5 Tryd.underlying88 rfl (info5 _) ⟨_, rfl, I5.out⟩)
        | 6, _ =>
          obtain rfl := Option.some.inj ho
          obtain rfl := Option.some.inj hd
          exact opB Bool.false_ne_true (op_value rfl (by simp [execOp, Act.eval, build5]) ⟨_, rfl, one5_is (by decide) (by decide)⟩)
        | 7, _ =>
          obtain rfl := Option.some.inj ho
          obtain rfl := Option.some.inj hd
          exact opB Bool.false_ne_true (op_call2 (R := fun v _ => V5 v (mulM (rE x z) 121665)) rfl rfl rfl enterTimes5 rfl rfl rfl (timesV5 (hdep 5 _ 30 (by decide) rfl rfl (by kernel_rfl)) (hdep 6 _ 31 (by decide) rfl rfl (by kernel_rfl)) wv))
        | 8, _ =>
          obtain rfl := Option.some.inj ho
          obtain rfl := Option.some.inj hd
          exact opB Bool.false_ne_true (op_call2 (R := fun v _ => V5 v (addM (mulM (addM x z) (addM x z)) (mulM (rE x z) 121665))) rfl rfl rfl enterPlus5 rfl rfl rfl (plusV5 (hdep 4 _ 29 (by decide) rfl rfl (by kernel_rfl)) (hdep 7 _ 32 (by decide) rfl rfl (by kernel_rfl)) wv))
        | 9, _ =>
          obtain rfl := Option.some.inj ho
          obtain rfl := Option.some.inj hd
          exact opB Bool.false_ne_true (op_call2 (R := fun v _ => V5 v (mulM (rE x z) (addM (mulM (addM x z) (addM x z)) (mulM (rE x z) 121665)))) rfl rfl rfl enterTimes5 rfl rfl rfl (timesV5 (hdep 3 _ 28 (by decide) rfl rfl (by kernel_rfl)) (hdep 8 _ 33 (by decide) rfl rfl (by kernel_rfl)) wv))
      case tail4 =>
        intro a wv hj hap
        have hact := hj.act [25, 26, 27, 28, 29, 30, 31, 32, 33, 34] (by kernel_rfl)
        obtain ⟨g25, e25, i25⟩ := hj.post 0 _ 25 (by decide) rfl rfl rfl
        obtain ⟨g26, e26, i26⟩ := hj.post 1 _ 26 (by decide) rfl rfl rfl
        obtain ⟨g27, e27, i27⟩ := hj.post 2 _ 27 (by decide) rfl rfl rfl
        obtain ⟨g28, e28, i28⟩ := hj.post 3 _ 28 (by decide) rfl rfl rfl
        obtain ⟨g29, e29, i29⟩ := hj.post 4 _ 29 (by decide) rfl rfl rfl
        obtain ⟨g30, e30, i30⟩ := hj.post 5 _ 30 (by decide) rfl rfl rfl
        obtain ⟨g31, e31, i31⟩ := hj.post 6 _ 31 (by decide) rfl rfl rfl
        obtain ⟨g32, e32, i32⟩ := hj.post 7 _ 32 (by decide) rfl rfl rfl
        obtain ⟨g33, e33, i33⟩ := hj.post 8 _ 33 (by decide) rfl rfl rfl
        obtain ⟨g34, e34, i34⟩ := hj.post 9 _ 34 (by decide) rfl rfl rfl
        simp only [List.map_cons, List.map_nil, e25, e26, e27, e28, e29, e30, e31, e32, e33, e34] at hact
        have hjb : Bel w7.heap.size w7 wv := (Bel.refl _ _).drew.trans hj.bel
        clear hj hap e25 e26 e27 e28 e29 e30 e31 e32 e33 e34
        subst hact
        simp only [putL, Act.put, List.setIfInBounds_toArray, List.set_cons_zero, List.set_cons_succ, List.drop_succ_cons, List.drop_zero]
        replace HR := hide (HR.out.below hjb HR.out.lt)
        replace HB := hide (HB.out.trans (hjb.mono HB.out.size))
        go_wp2_with (first | (refine wpList_build10 rfl rfl g27 g34 rfl rfl ?_) | (refine wpList_stB HR.out (info10 (pt10 g27 g34)) (len10 _ _) rfl _ _ rfl rfl rfl rfl ?_; intro wy hby hoy hky))
        refine bodyPost_ret (v := .agg (rowK .u64 (tab 10 (pt10 g27 g34)))) (ret10 Tryd.results58 _ _ _ _ rfl hky) rfl ⟨_, rfl, ⟨_, rfl, pt10_fst i27, ?_⟩, HB.out.trans (hby.mono (by omega))⟩
        have e : rZ2 x z = mulM (rE x z) (addM (mulM (addM x z) (addM x z)) (mulM (rE x z) 121665)) := by unfold rZ2; rw [mulM_comm 121665]
        rw [e]
        exact pt10_snd i34
end Go.Proofs.YtgjdogkciklgkaaDoor
namespace Go.Proofs.YtgjdogkciklgkaaDoor
open Go.RowKit

set_option maxRecDepth 100000 in
set_option maxHeartbeats 4000000 in
theorem addedP {p q f : Nat → Nat} {x2 z2 x3 z3 x : Nat} (h1 : Is51 p x2) (h2 : Is51 (sec5 p) z2) (h3 : Is51 q x3) (h4 : Is51 (sec5 q) z3) (h5 : Is51 f x) (w : World) :
    Calls Tryd.prog 59 #[.agg (rowK .u64 (tab 10 p)), .agg (rowK .u64 (tab 10 q)), .agg (rowK .u64 (tab 5 f))] w fun e w' => ∃ v, e = .returned v ∧ V10 v (rX3 x2 z2 x3 z3) (rZ3 x2 z2 x3 z3 x) ∧ Bel w.heap.size w w' := by
  have HX2 := hide h1
  have HZ2 := hide h2
  have HX3 := hide h3
  have HZ3 := hide h4
  have HIx := hide h5
  clear h1 h2 h3 h4 h5
  go_enter Tryd.func59, Tryd.ntmps59
  go_wp2
  rw [← z10]
  have HB : Hid (Bel w.heap.size w ((((w.alloc (.cells (rowK .u64 (tab 10 p)) 92)).alloc (.cells (rowK .u64 (tab 10 q)) 92)).alloc (.cells (rowK .u64 (tab 5 f)) 88)).alloc (.cells (rowK .u64 (tab 10 zer17)) 92))) := (((((Bel.refl _ _).alloc (by simp) _).alloc (by simp) _).alloc (by simp <;> omega) _).alloc (by simp <;> omega) _)
  have HA : Hid (Blk ((((w.alloc (.cells (rowK .u64 (tab 10 p)) 92)).alloc (.cells (rowK .u64 (tab 10 q)) 92)).alloc (.cells (rowK .u64 (tab 5 f)) 88)).alloc (.cells (rowK .u64 (tab 10 zer17)) 92)) (w.heap.size) 92 .u64 (tab 10 p)) := ((((blkAt w (w.heap.size) 92 .u64 (tab 10 p) (by simp)).alloc _).alloc _).alloc _)
  have HD : Hid (Blk ((((w.alloc (.cells (rowK .u64 (tab 10 p)) 92)).alloc (.cells (rowK .u64 (tab 10 q)) 92)).alloc (.cells (rowK .u64 (tab 5 f)) 88)).alloc (.cells (rowK .u64 (tab 10 zer17)) 92)) (w.heap.size + 1) 92 .u64 (tab 10 q)) := (((blkAt (w.alloc (.cells (rowK .u64 (tab 10 p)) 92)) (w.heap.size + 1) 92 .u64 (tab 10 q) (by simp)).alloc _).alloc _)
  have HX : Hid (Blk ((((w.alloc (.cells (rowK .u64 (tab 10 p)) 92)).alloc (.cells (rowK .u64 (tab 10 q)) 92)).alloc (.cells (rowK .u64 (tab 5 f)) 88)).alloc (.cells (rowK .u64 (tab 10 zer17)) 92)) (w.heap.size + 2) 88 .u64 (tab 5 f)) := ((blkAt ((w.alloc (.cells (rowK .u64 (tab 10 p)) 92)).alloc (.cells (rowK .u64 (tab 10 q)) 92)) (w.heap.size + 2) 88 .u64 (tab 5 f) (by simp)).alloc _)
  have HR : Hid (Blk ((((w.alloc (.cells (rowK .u64 (tab 10 p)) 92)).alloc (.cells (rowK .u64 (tab 10 q)) 92)).alloc (.cells (rowK .u64 (tab 5 f)) 88)).alloc (.cells (rowK .u64 (tab 10 zer17)) 92)) (w.heap.size + 3) 92 .u64 (tab 10 zer17)) := (blkAt (((w.alloc (.cells (rowK .u64 (tab 10 p)) 92)).alloc (.cells (rowK .u64 (tab 10 q)) 92)).alloc (.cells (rowK .u64 (tab 5 f)) 88)) (w.heap.size + 3) 92 .u64 (tab 10 zer17) (by simp))
  generalize ((((w.alloc (.cells (rowK .u64 (tab 10 p)) 92)).alloc (.cells (rowK .u64 (tab 10 q)) 92)).alloc (.cells (rowK .u64 (tab 5 f)) 88)).alloc (.cells (rowK .u64 (tab 10 zer17)) 92)) = w1 at *
  have HP0 := hide (HA.out.range 0 _ (f100 p))
  have HP1 := hide (HA.out.range 5 _ (f101 p))
  have HQ0 := hide (HD.out.range 0 _ (f100 q))
  have HQ1 := hide (HD.out.range 5 _ (f101 q))
  replace HX := hide HX.out.rng
  have HL := hide HR.out.lt
  clear HA HD
  refine wp_region_phaseB 12 (PL [.ptr (w.heap.size + 1) 0, .val x3, .ptr (w.heap.size + 1) 5, .val z3, .val (subM x3 z3), .ptr w.heap.size 0, .val x2, .ptr w.heap.size 5, .val z2, .val (addM x2 z2), .val (rDA x2 z2 x3 z3), .new (w1.heap.size)]) (frL [.ptr (w.heap.size + 1) 0, .val x3, .ptr (w.heap.size + 1) 5, .val z3, .val (subM x3 z3), .ptr w.heap.size 0, .val x2, .ptr w.heap.size 5, .val z2, .val (addM x2 z2), .val (rDA x2 z2 x3 z3), .new (w1.heap.size)]) (by kernel_rfl) (by kernel_rfl) (PL_stable _) (PL_fr _) ?op1 ?tail1
  case op1 =>
    intro i o d hi ho hd a wv hbel hkeep hdep
    have RA0 : Rng wv w.heap.size 0 .u64 (tab 5 p) := HP0.out.drew.below hbel
    have RA1 : Rng wv w.heap.size 5 .u64 (tab 5 (sec5 p)) := HP1.out.drew.below hbel
    have RB0 : Rng wv (w.heap.size + 1) 0 .u64 (tab 5 q) := HQ0.out.drew.below hbel
    have RB1 : Rng wv (w.heap.size + 1) 5 .u64 (tab 5 (sec5 q)) := HQ1.out.drew.below hbel
    match i, hi with
    | 0, _ =>
      obtain rfl := Option.some.inj ho
      obtain rfl := Option.some.inj hd
      exact opB Bool.false_ne_true (op_field rfl rfl (hkeep 4 (ndB_spec (by kernel_rfl))) (field0 (w.heap.size + 1) wv) rfl)
    | 1, _ =>
      obtain rfl := Option.some.inj ho
      obtain rfl := Option.some.inj hd
      exact opB Bool.false_ne_true (op_load rfl _ rfl (w.heap.size + 1) 0 (hdep 0 _ 11 (by decide) rfl rfl (by kernel_rfl)) RB0 Tryd.underlying88 rfl (info5 _) ⟨_, rfl, HX3.out⟩)
    | 2, _ =>
      obtain rfl := Option.some.inj ho
      obtain rfl := Option.some.inj hd
      exact opB Bool.false_ne_true (op_field rfl rfl (hkeep 4 (ndB_spec (by kernel_rfl))) (field1 (w.heap.size + 1) wv) rfl)
    | 3, _ =>
      obtain rfl := Option.some.inj ho
      obtain rfl := Option.some.inj hd
      exact opB Bool.false_ne_true (op_load rfl _ rfl (w.heap.size + 1) 5 (hdep 2 _ 13 (by decide) rfl rfl (by kernel_rfl)) RB1 Tryd.underlying88 rfl (info5 _) ⟨_, rfl, HZ3.out⟩)
    | 4, _ =>
      obtain rfl := Option.some.inj ho
      obtain rfl := Option.some.inj hd
      exact opB Bool.false_ne_true (op_call2 (R := fun v _ => V5 v (subM x3 z3)) rfl rfl rfl enterMinus5 rfl rfl rfl (minusV5 (hdep 1 _ 12 (by decide) rfl rfl (by kernel_rfl)) (hdep 3 _ 14 (by decide) rfl rfl (by kernel_rfl)) wv))
    | 5, _ =>
      obtain rfl := Option.some.inj ho
      obtain rfl := Option.some.inj hd
      exact opB Bool.false_ne_true (op_field rfl rfl (hkeep 3 (ndB_spec (by kernel_rfl))) (field0 w.heap.size wv) rfl)
    | 6, _ =>
      obtain rfl := Option.some.inj ho
      obtain rfl := Option.some.inj hd
      exact opB Bool.false_ne_true (op_load rfl _ rfl w.heap.size 0 (hdep 5 _ 16 (by decide) rfl rfl (by kernel_rfl)) RA0 Tryd.underlying88 rfl (info5 _) ⟨_, rfl, HX2.out⟩)
    | 7, _ =>
      obtain rfl := Option.some.inj ho
      obtain rfl := Option.some.inj hd
      exact opB Bool.false_ne_true (op_field rfl rfl (hkeep 3 (ndB_spec (by kernel_rfl))) (field1 w.heap.size wv) rfl)
    | 8, _ =>
      obtain rfl := Option.some.inj ho
      obtain rfl := Option.some.inj hd
      exact opB Bool.false_ne_true (op_load rfl _ rfl w.heap.size 5 (hdep 7 _ 18 (by decide) rfl rfl (by kernel_rfl)) RA1 Tryd.underlying88 rfl (info5 _) ⟨_, rfl, HZ2.out⟩)
    | 9, _ =>
      obtain rfl := Option.some.inj ho
      obtain rfl := Option.some.inj hd
      exact opB Bool.false_ne_true (op_call2 (R := fun v _ => V5 v (addM x2 z2)) rfl rfl rfl enterPlus5 rfl rfl rfl (plusV5 (hdep 6 _ 17 (by decide) rfl rfl (by kernel_rfl)) (hdep 8 _ 19 (by decide) rfl rfl (by kernel_rfl)) wv))
    | 10, _ =>
      obtain rfl := Option.some.inj ho
      obtain rfl := Option.some.inj hd
      exact opB Bool.false_ne_true (op_call2 (R := fun v _ => V5 v (rDA x2 z2 x3 z3)) rfl rfl rfl enterTimes5 rfl rfl rfl (timesV5 (hdep 4 _ 15 (by decide) rfl rfl (by kernel_rfl)) (hdep 9 _ 20 (by decide) rfl rfl (by kernel_rfl)) wv))
    | 11, _ =>
      obtain rfl := Option.some.inj ho
      obtain rfl := Option.some.inj hd
      exact opB_alloc rfl rfl (alloc5 wv) ⟨wv.heap.size, rfl, hbel.size, Blk.new _ _ _ _⟩
  case tail1 =>
    intro a wv hj hap
    have hact := hj.act [11, 12, 13, 14, 15, 16, 17, 18, 19, 20, 21, 7] (by kernel_rfl)
    have e11 : a.tmps.getD 11 undef = .pointer (some ⟨(w.heap.size + 1), 0, none⟩) := hj.post 0 _ 11 (by decide) rfl rfl rfl
    obtain ⟨g12, e12, i12⟩ := hj.post 1 _ 12 (by decide) rfl rfl rfl
    have e13 : a.tmps.getD 13 undef = .pointer (some ⟨(w.heap.size + 1), 5, none⟩) := hj.post 2 _ 13 (by decide) rfl rfl rfl
    obtain ⟨g14, e14, i14⟩ := hj.post 3 _ 14 (by decide) rfl rfl rfl
    obtain ⟨g15, e15, i15⟩ := hj.post 4 _ 15 (by decide) rfl rfl rfl
    have e16 : a.tmps.getD 16 undef = .pointer (some ⟨w.heap.size, 0, none⟩) := hj.post 5 _ 16 (by decide) rfl rfl rfl
    obtain ⟨g17, e17, i17⟩ := hj.post 6 _ 17 (by decide) rfl rfl rfl
    have e18 : a.tmps.getD 18 undef = .pointer (some ⟨w.heap.size, 5, none⟩) := hj.post 7 _ 18 (by decide) rfl rfl rfl
    obtain ⟨g19, e19, i19⟩ := hj.post 8 _ 19 (by decide) rfl rfl rfl
    obtain ⟨g20, e20, i20⟩ := hj.post 9 _ 20 (by decide) rfl rfl rfl
    obtain ⟨g21, e21, i21⟩ := hj.post 10 _ 21 (by decide) rfl rfl rfl
    obtain ⟨b7, e7, l7, k7⟩ := hj.post 11 _ 7 (by decide) rfl rfl rfl
    simp only [List.map_cons, List.map_nil, e11, e12, e13, e14, e15, e16, e17, e18, e19, e20, e21, e7] at hact
    have hjb : Bel w1.heap.size w1 wv := (Bel.refl _ _).drew.trans hj.bel
    clear hj hap e11 e12 e13 e14 e15 e16 e17 e18 e19 e20 e21 e7
    subst hact
    simp only [putL, Act.put, List.setIfInBounds_toArray, List.set_cons_zero, List.set_cons_succ, List.drop_succ_cons, List.drop_zero]
    have I7 := hide i21
    have K7 := hide k7
    clear k7 i12 i14 i15 i17 i19 i20 i21
    go_wp2_with (first | (refine wpList_stB K7.out (info5 g21) (len5 _ _) rfl _ _ rfl rfl rfl rfl ?_; intro w2 hb2 ho2 hk2))
    have bel : Bel w1.heap.size w1 w2 := hjb.trans (hb2.mono l7)
    replace HP0 := hide (HP0.out.below bel)
    replace HP1 := hide (HP1.out.below bel)
    replace HQ0 := hide (HQ0.out.below bel)
    replace HQ1 := hide (HQ1.out.below bel)
    replace HX := hide (HX.out.below bel)
    replace HR := hide (HR.out.below bel HR.out.lt)
    replace HL := hide (Nat.lt_of_lt_of_le HL.out bel.size)
    replace HB := hide (HB.out.trans (bel.mono HB.out.size))
    have H7 := hide hk2.rng
    clear bel hb2 ho2 hk2 hjb l7 K7
    refine wp_region_phaseB 12 (PL [.ptr (w.heap.size + 1) 0, .val x3, .ptr (w.heap.size + 1) 5, .val z3, .val (addM x3 z3), .ptr w.heap.size 0, .val x2, .ptr w.heap.size 5, .val z2, .val (subM x2 z2), .val (rCB x2 z2 x3 z3), .new (w2.heap.size)]) (frL [.ptr (w.heap.size + 1) 0, .val x3, .ptr (w.heap.size + 1) 5, .val z3, .val (addM x3 z3), .ptr w.heap.size 0, .val x2, .ptr w.heap.size 5, .val z2, .val (subM x2 z2), .val (rCB x2 z2 x3 z3), .new (w2.heap.size)]) (by kernel_rfl) (by kernel_rfl) (PL_stable _) (PL_fr _) ?op2 ?tail2
    case op2 =>
      intro i o d hi ho hd a wv hbel hkeep hdep
      have RA0 : Rng wv w.heap.size 0 .u64 (tab 5 p) := HP0.out.drew.below hbel
      have RA1 : Rng wv w.heap.size 5 .u64 (tab 5 (sec5 p)) := HP1.out.drew.below hbel
      have RB0 : Rng wv (w.heap.size + 1) 0 .u64 (tab 5 q) := HQ0.out.drew.below hbel
      have RB1 : Rng wv (w.heap.size + 1) 5 .u64 (tab 5 (sec5 q)) := HQ1.out.drew.below hbel
      match i, hi with
      | 0, _ =>
        obtain rfl := Option.some.inj ho
        obtain rfl := Option.some.inj hd
        exact opB Bool.false_ne_true (op_field rfl rfl (hkeep 4 (ndB_spec (by kernel_rfl))) (field0 (w.heap.size + 1) wv) rfl)
      | 1, _ =>
        obtain rfl := Option.some.inj ho
        obtain rfl := Option.some.inj hd
        exact opB Bool.false_ne_true (op_load rfl _ rfl (w.heap.size + 1) 0 (hdep 0 _ 22 (by decide) rfl rfl (by kernel_rfl)) RB0 Tryd.underlying88 rfl (info5 _) ⟨_, rfl, HX3.out⟩)
      | 2, _ =>
        obtain rfl := Option.some.inj ho
        obtain rfl := Option.some.inj hd
        exact opB Bool.false_ne_true (op_field rfl rfl (hkeep 4 (ndB_spec (by kernel_rfl))) (field1 (w.heap.size + 1) wv) rfl)
      | 3, _ =>
        obtain rfl := Option.some.inj ho
        obtain rfl := Option.some.inj hd
        exact opB Bool.false_ne_true (op_load rfl _ rfl (w.heap.size + 1) 5 (hdep 2 _ 24 (by decide) rfl rfl (by kernel_rfl)) RB1 Tryd.underlying88 rfl (info5 _) ⟨_, rfl, HZ3.out⟩)
      | 4, _ =>
        obtain rfl := Option.some.inj ho
        obtain rfl := Option.some.inj hd
        exact opB Bool.false_ne_true (op_call2 (R := fun v _ => V5 v (addM x3 z3)) rfl rfl rfl enterPlus5 rfl rfl rfl (plusV5 (hdep 1 _ 23 (by decide) rfl rfl (by kernel_rfl)) (hdep 3 _ 25 (by decide) rfl rfl (by kernel_rfl)) wv))
      | 5, _ =>
        obtain rfl := Option.some.inj ho
        obtain rfl := Option.some.inj hd
        exact opB Bool.false_ne_true (op_field rfl rfl (hkeep 3 (ndB_spec (by kernel_rfl))) (field0 w.heap.size wv) rfl)
      | 6, _ =>
        obtain rfl := Option.some.inj ho
        obtain rfl := Option.some.inj hd
        exact opB Bool.false_ne_true (op_load rfl _ rfl w.heap.size 0 (hdep 5 _ 27 (by decide) rfl rfl (by kernel_rfl)) RA0 Tryd.underlying88 rfl (info5 _) ⟨_, rfl, HX2.out⟩)
      | 7, _ =>
        obtain rfl := Option.some.inj ho
        obtain rfl := Option.some.inj hd
        exact opB Bool.false_ne_true (op_field rfl rfl (hkeep 3 (ndB_spec (by kernel_rfl))) (field1 w.heap.size wv) rfl)
      | 8, _ =>
        obtain rfl := Option.some.inj ho
        obtain rfl := Option.some.inj hd
        exact opB Bool.false_ne_true (op_load rfl _ rfl w.heap.size 5 (hdep 7 _ 29 (by decide) rfl rfl (by kernel_rfl)) RA1 Tryd.underlying88 rfl (info5 _) ⟨_, rfl, HZ2.out⟩)
      | 9, _ =>
        obtain rfl := Option.some.inj ho
        obtain rfl := Option.some.inj hd
        exact opB Bool.false_ne_true (op_call2 (R := fun v _ => V5 v (subM x2 z2)) rfl rfl rfl enterMinus5 rfl rfl rfl (minusV5 (hdep 6 _ 28 (by decide) rfl rfl (by kernel_rfl)) (hdep 8 _ 30 (by decide) rfl rfl (by kernel_rfl)) wv))
      | 10, _ =>
        obtain rfl := Option.some.inj ho
        obtain rfl := Option.some.inj hd
        exact opB Bool.false_ne_true (op_call2 (R := fun v _ => V5 v (rCB x2 z2 x3 z3)) rfl rfl rfl enterTimes5 rfl rfl rfl (timesV5 (hdep 4 _ 26 (by decide) rfl rfl (by kernel_rfl)) (hdep 9 _ 31 (by decide) rfl rfl (by kernel_rfl)) wv))
      | 11, _ =>
        obtain rfl := Option.some.inj ho
        obtain rfl := Option.some.inj hd
        exact opB_alloc rfl rfl (alloc5 wv) ⟨wv.heap.size, rfl, hbel.size, Blk.new _ _ _ _⟩
    case tail2 =>
      intro a wv hj hap
      have hact := hj.act [22, 23, 24, 25, 26, 27, 28, 29, 30, 31, 32, 8] (by kernel_rfl)
      have e22 : a.tmps.getD 22 undef = .pointer (some ⟨(w.heap.size + 1), 0, none⟩) := hj.post 0 _ 22 (by decide) rfl rfl rfl
      obtain ⟨g23, e23, i23⟩ := hj.post 1 _ 23 (by decide) rfl rfl rfl
      have e24 : a.tmps.getD 24 undef = .pointer (some ⟨(w.heap.size + 1), 5, none⟩) := hj.post 2 _ 24 (by decide) rfl rfl rfl
      obtain ⟨g25, e25, i25⟩ := hj.post 3 _ 25 (by decide) rfl rfl rfl
      obtain ⟨g26, e26, i26⟩ := hj.post 4 _ 26 (by decide) rfl rfl rfl
      have e27 : a.tmps.getD 27 undef = .pointer (some ⟨w.heap.size, 0, none⟩) := hj.post 5 _ 27 (by decide) rfl rfl rfl
      obtain ⟨g28, e28, i28⟩ := hj.post 6 _ 28 (by decide) rfl rfl rfl
      have e29 : a.tmps.getD 29 undef = .pointer (some ⟨w.heap.size, 5, none⟩) := hj.post 7 _ 29 (by decide) rfl rfl rfl
      obtain ⟨g30, e30, i30⟩ := hj.post 8 _ 30 (by decide) rfl rfl rfl
      obtain ⟨g31, e31, i31⟩ := hj.post 9 _ 31 (by decide) rfl rfl rfl
      obtain ⟨g32, e32, i32⟩ := hj.post 10 _ 32 (by decide) rfl rfl rfl
      obtain ⟨b8, e8, l8, k8⟩ := hj.post 11 _ 8 (by decide) rfl rfl rfl
      simp only [List.map_cons, List.map_nil, e22, e23, e24, e25, e26, e27, e28, e29, e30, e31, e32, e8] at hact
      have hjb : Bel w2.heap.size w2 wv := (Bel.refl _ _).drew.trans hj.bel
      clear hj hap e22 e23 e24 e25 e26 e27 e28 e29 e30 e31 e32 e8
      subst hact
      simp only [putL, Act.put, List.setIfInBounds_toArray, List.set_cons_zero, List.set_cons_succ, List.drop_succ_cons, List.drop_zero]
      have I8 := hide i32
      have K8 := hide k8
      clear k8 i23 i25 i26 i28 i30 i31 i32 HP0 HP1 HQ0 HQ1
      go_wp2_with (first | (refine wpList_stB K8.out (info5 g32) (len5 _ _) rfl _ _ rfl rfl rfl rfl ?_; intro w3 hb2 ho2 hk2))
      have bel : Bel w2.heap.size w2 w3 := hjb.trans (hb2.mono l8)
      replace H7 := hide (H7.out.below bel)
      replace HX := hide (HX.out.below bel)
      replace HR := hide (HR.out.below bel HR.out.lt)
      replace HL := hide (Nat.lt_of_lt_of_le HL.out bel.size)
      replace HB := hide (HB.out.trans (bel.mono HB.out.size))
      have H8 := hide hk2.rng
      clear bel hb2 ho2 hk2 hjb l8 K8
      refine wp_region_phaseB 8 (PL [.val (rDA x2 z2 x3 z3), .val (rCB x2 z2 x3 z3), .val (addM (rDA x2 z2 x3 z3) (rCB x2 z2 x3 z3)), .val (rDA x2 z2 x3 z3), .val (rCB x2 z2 x3 z3), .val (subM (rDA x2 z2 x3 z3) (rCB x2 z2 x3 z3)), .new (w3.heap.size), .new (w3.heap.size)]) (frL [.val (rDA x2 z2 x3 z3), .val (rCB x2 z2 x3 z3), .val (addM (rDA x2 z2 x3 z3) (rCB x2 z2 x3 z3)), .val (rDA x2 z2 x3 z3), .val (rCB x2 z2 x3 z3), .val (subM (rDA x2 z2 x3 z3) (rCB x2 z2 x3 z3)), .new (w3.heap.size), .new (w3.heap.size)]) (by kernel_rfl) (by kernel_rfl) (PL_stable _) (PL_fr _) ?op3 ?tail3
      case op3 =>
        intro i o d hi ho hd a wv hbel hkeep hdep
        have R7 : Rng wv b7 0 .u64 (tab 5 g21) := H7.out.drew.below hbel
        have R8 : Rng wv b8 0 .u64 (tab 5 g32) := H8.out.drew.below hbel
        match i, hi with
        | 0, _ =>
          obtain rfl := Option.some.inj ho
          obtain rfl := Option.some.inj hd
          exact opB Bool.false_ne_true (op_load rfl _ rfl b7 0 (hkeep 7 (ndB_spec (by kernel_rfl))) R7 Tryd.underlying88 rfl (info5 _) ⟨_, rfl, I7.out⟩)
        | 1, _ =>
          obtain rfl := Option.some.inj ho
          obtain rfl := Option.some.inj hd
          exact opB Bool.false_ne_true (op_load rfl _ rfl b8 0 (hkeep 8 (ndB_spec (by kernel_rfl))) R8 Tryd.underlying88 rfl (info5 _) ⟨_, rfl, I8.out⟩)
        | 2, _ =>
          obtain rfl := Option.some.inj ho
          obtain rfl := Option.some.inj hd
          exact opB Bool.false_ne_true (op_call2 (R := fun v _ => V5 v (addM (rDA x2 z2 x3 z3) (rCB x2 z2 x3 z3))) rfl rfl rfl enterPlus5 rfl rfl rfl (plusV5 (hdep 0 _ 33 (by decide) rfl rfl (by kernel_rfl)) (hdep 1 _ 34 (by decide) rfl rfl (by kernel_rfl)) wv))
        | 3, _ =>
          obtain rfl := Option.some.inj ho
          obtain rfl := Option.some.inj hd
          exact opB Bool.false_ne_true (op_load rfl _ rfl b7 0 (hkeep 7 (ndB_spec (by kernel_rfl))) R7 Tryd.underlying88 rfl (info5 _) ⟨_, rfl, I7.out⟩)
        | 4, _ =>
          obtain rfl := Option.some.inj ho
          obtain rfl := Option.some.inj hd
          exact opB Bool.false_ne_true (op_load rfl _ rfl b8 0 (hkeep 8 (ndB_spec (by kernel_rfl))) R8 Tryd.underlying88 rfl (info5 _) ⟨_, rfl, I8.out⟩)
        | 5, _ =>
          obtain rfl := Option.some.inj ho
          obtain rfl := Option.some.inj hd
          exact opB Bool.false_ne_true (op_call2 (R := fun v _ => V5 v (subM (rDA x2 z2 x3 z3) (rCB x2 z2 x3 z3))) rfl rfl rfl enterMinus5 rfl rfl rfl (minusV5 (hdep 3 _ 36 (by decide) rfl rfl (by kernel_rfl)) (hdep 4 _ 37 (by decide) rfl rfl (by kernel_rfl)) wv))
        | 6, _ =>
          obtain rfl := Option.some.inj ho
          obtain rfl := Option.some.inj hd
          exact opB_alloc rfl rfl (alloc5 wv) ⟨wv.heap.size, rfl, hbel.size, Blk.new _ _ _ _⟩
        | 7, _ =>
          obtain rfl := Option.some.inj ho
          obtain rfl := Option.some.inj hd
          exact opB_alloc rfl rfl (alloc5 wv) ⟨wv.heap.size, rfl, hbel.size, Blk.new _ _ _ _⟩
      case tail3 =>
        intro a wv hj hap
        have hact := hj.act [33, 34, 35, 36, 37, 38, 9, 10] (by kernel_rfl)
        obtain ⟨g33, e33, i33⟩ := hj.post 0 _ 33 (by decide) rfl rfl rfl
        obtain ⟨g34, e34, i34⟩ := hj.post 1 _ 34 (by decide) rfl rfl rfl
        obtain ⟨g35, e35, i35⟩ := hj.post 2 _ 35 (by decide) rfl rfl rfl
        obtain ⟨g36, e36, i36⟩ := hj.post 3 _ 36 (by decide) rfl rfl rfl
        obtain ⟨g37, e37, i37⟩ := hj.post 4 _ 37 (by decide) rfl rfl rfl
        obtain ⟨g38, e38, i38⟩ := hj.post 5 _ 38 (by decide) rfl rfl rfl
        obtain ⟨b9, e9, l9, k9⟩ := hj.post 6 _ 9 (by decide) rfl rfl rfl
        obtain ⟨b10, e10, l10, k10⟩ := hj.post 7 _ 10 (by decide) rfl rfl rfl
        have ne : b9 ≠ b10 := by
          have h := hap 6 7 _ _ 9 10 (by decide) (by decide) (by decide) rfl rfl rfl rfl rfl rfl rfl rfl
          rw [e9, e10] at h
          exact fun e => h (by rw [e])
        simp only [List.map_cons, List.map_nil, e33, e34, e35, e36, e37, e38, e9, e10] at hact
        have hjb : Bel w3.heap.size w3 wv := (Bel.refl _ _).drew.trans hj.bel
        clear hj hap e33 e34 e35 e36 e37 e38 e9 e10
        subst hact
        simp only [putL, Act.put, List.setIfInBounds_toArray, List.set_cons_zero, List.set_cons_succ, List.drop_succ_cons, List.drop_zero]
        have I9 := hide i35
        have I10 := hide i38
        have K9 := hide k9
        have K10 := hide k10
        clear k9 k10 i33 i34 i35 i36 i37 i38 H7 H8 I7 I8
        go_wp2_with (first | (refine wpList_stB K9.out (info5 g35) (len5 _ _) rfl _ _ rfl rfl rfl rfl ?_; intro w4 hb2 ho2 hk2) | (refine wpList_stB (K10.out.stays ho2 (Ne.symm ne)) (info5 g38) (len5 _ _) rfl _ _ rfl rfl rfl rfl ?_; intro w5 hb3 ho3 hk3))
        have bel : Bel w3.heap.size w3 w5 := (hjb.trans (hb2.mono l9)).trans (hb3.mono l10)
        replace HX := hide (HX.out.below bel)
        replace HR := hide (HR.out.below bel HR.out.lt)
        replace HL := hide (Nat.lt_of_lt_of_le HL.out bel.size)
        replace HB := hide (HB.out.trans (bel.mono HB.out.size))
        have H9 := hide (hk2.stays ho3 ne).rng
        have H10 := hide hk3.rng
        clear bel hb2 ho2 hk2 hb3 ho3 hk3 hjb l9 l10 K9 K10
        refine wp_region_phaseB 8 (PL [.val (addM (rDA x2 z2 x3 z3) (rCB x2 z2 x3 z3)), .val (addM (rDA x2 z2 x3 z3) (rCB x2 z2 x3 z3)), .val (rX3 x2 z2 x3 z3), .val x, .val (subM (rDA x2 z2 x3 z3) (rCB x2 z2 x3 z3)), .val (subM (rDA x2 z2 x3 z3) (rCB x2 z2 x3 z3)), .val (mulM (subM (rDA x2 z2 x3 z3) (rCB x2 z2 x3 z3)) (subM (rDA x2 z2 x3 z3) (rCB x2 z2 x3 z3))), .val (rZ3 x2 z2 x3 z3 x)]) (frL [.val (addM (rDA x2 z2 x3 z3) (rCB x2 z2 x3 z3)), .val (addM (rDA x2 z2 x3 z3) (rCB x2 z2 x3 z3)), .val (rX3 x2 z2 x3 z3), .val x, .val (subM (rDA x2 z2 x3 z3) (rCB x2 z2 x3 z3)), .val (subM (rDA x2 z2 x3 z3) (rCB x2 z2 x3 z3)), .val (mulM (subM (rDA x2 z2 x3 z3) (rCB x2 z2 x3 z3)) (subM (rDA x2 z2 x3 z3) (rCB x2 z2 x3 z3))), .val (rZ3 x2 z2 x3 z3 x)]) (by kernel_rfl) (by kernel_rfl) (PL_stable _) (PL_fr _) ?op4 ?tail4
        case op4 =>
          intro i o d hi ho hd a wv hbel hkeep hdep
          have R9 : Rng wv b9 0 .u64 (tab 5 g35) := H9.out.drew.below hbel
          have R10 : Rng wv b10 0 .u64 (tab 5 g38) := H10.out.drew.below hbel
          have RX : Rng wv (w.heap.size + 2) 0 .u64 (tab 5 f) := HX.out.drew.below hbel
          match i, hi with
          | 0, _ =>
            obtain rfl := Option.some.inj ho
            obtain rfl := Option.some.inj hd
            exact opB Bool.false_ne_true (op_load rfl _ rfl b9 0 (hkeep 9 (ndB_spec (by kernel_rfl))) R9 Tryd.underlying88 rfl (info5 _) ⟨_, rfl, I9.out⟩)
          | 1, _ =>
            obtain rfl := Option.some.inj ho
            obtain rfl := Option.some.inj hd
            exact opB Bool.false_ne_true (op_load rfl _ rfl b9 0 (hkeep 9 (ndB_spec (by kernel_rfl))) R9 Tryd.underlying88 rfl (info5 _) ⟨_, rfl, I9.out⟩)
          | 2, _ =>
            obtain rfl := Option.some.inj ho
            obtain rfl := Option.some.inj hd
            exact opB Bool.false_ne_true (op_call2 (R := fun v _ => V5 v (rX3 x2 z2 x3 z3)) rfl rfl rfl enterTimes5 rfl rfl rfl (timesV5 (hdep 0 _ 39 (by decide) rfl rfl (by kernel_rfl)) (hdep 1 _ 40 (by decide) rfl rfl (by kernel_rfl)) wv))
          | 3, _ =>
            obtain rfl := Option.some.inj ho
            obtain rfl := Option.some.inj hd
            exact opB Bool.false_ne_true (op_load rfl _ rfl (w.heap.size + 2) 0 (hkeep 5 (ndB_spec (by kernel_rfl))) RX Tryd.underlying88 rfl (info5 _) ⟨_, rfl, HIx.out⟩)
          | 4, _ =>
            obtain rfl := Option.some.inj ho
            obtain rfl := Option.some.inj hd
            exact opB Bool.false_ne_true (op_load rfl _ rfl b10 0 (hkeep 10 (ndB_spec (by kernel_rfl))) R10 Tryd.underlying88 rfl (info5 _) ⟨_, rfl, I10.out⟩)
          | 5, _ =>
            obtain rfl := Option.some.inj ho
            obtain rfl := Option.some.inj hd
            exact opB Bool.false_ne_true (op_load rfl _ rfl b10 0 (hkeep 10 (ndB_spec (by kernel_rfl))) R10 Tryd.underlying88 rfl (info5 _) ⟨_, rfl, I10.out⟩)
          | 6, _ =>
            obtain rfl := Option.some.inj ho
            obtain rfl := Option.some.inj hd
            exact opB Bool.false_ne_true (op_call2 (R := fun v _ => V5 v (mulM (subM (rDA x2 z2 x3 z3) (rCB x2 z2 x3 z3)) (subM (rDA x2 z2 x3 z3) (rCB x2 z2 x3 z3)))) rfl rfl rfl enterTimes5 rfl rfl rfl (timesV5 (hdep 4 _ 43 (by decide) rfl rfl (by kernel_rfl)) (hdep 5 _ 44 (by decide) rfl rfl (by kernel_rfl)) wv))
          | 7, _ =>
            obtain rfl := Option.some.inj ho
            obtain rfl := Option.some.inj hd
            exact opB Bool.false_ne_true (op_call2 (R := fun v _ => V5 v (rZ3 x2 z2 x3 z3 x)) rfl rfl rfl enterTimes5 rfl rfl rfl (timesV5 (hdep 3 _ 42 (by decide) rfl rfl (by kernel_rfl)) (hdep 6 _ 45 (by decide) rfl rfl (by kernel_rfl)) wv))
        case tail4 =>
          intro a wv hj hap
          have hact := hj.act [39, 40, 41, 42, 43, 44, 45, 46] (by kernel_rfl)
          obtain ⟨g39, e39, i39⟩ := hj.post 0 _ 39 (by decide) rfl rfl rfl
          obtain ⟨g40, e40, i40⟩ := hj.post 1 _ 40 (by decide) rfl rfl rfl
          obtain ⟨g41, e41, i41⟩ := hj.post 2 _ 41 (by decide) rfl rfl rfl
          obtain ⟨g42, e42, i42⟩ := hj.post 3 _ 42 (by decide) rfl rfl rfl
          obtain ⟨g43, e43, i43⟩ := hj.post 4 _ 43 (by decide) rfl rfl rfl
          obtain ⟨g44, e44, i44⟩ := hj.post 5 _ 44 (by decide) rfl rfl rfl
          obtain ⟨g45, e45, i45⟩ := hj.post 6 _ 45 (by decide) rfl rfl rfl
          obtain ⟨g46, e46, i46⟩ := hj.post 7 _ 46 (by decide) rfl rfl rfl
          simp only [List.map_cons, List.map_nil, e39, e40, e41, e42, e43, e44, e45, e46] at hact
          have hjb : Bel w5.heap.size w5 wv := (Bel.refl _ _).drew.trans hj.bel
          clear hj hap e39 e40 e41 e42 e43 e44 e45 e46
          subst hact
          simp only [putL, Act.put, List.setIfInBounds_toArray, List.set_cons_zero, List.set_cons_succ, List.drop_succ_cons, List.drop_zero]
          replace HR := hide (HR.out.below hjb HR.out.lt)
          replace HL := hide (Nat.lt_of_lt_of_le HL.out hjb.size)
          replace HB := hide (HB.out.trans (hjb.mono HB.out.size))
          go_wp2_with (first | (refine wpList_build10 rfl rfl g41 g46 rfl rfl ?_) | (refine wpList_stB HR.out (info10 (pt10 g41 g46)) (len10 _ _) rfl _ _ rfl rfl rfl rfl ?_; intro wy hby hoy hky))
          exact bodyPost_ret (v := .agg (rowK .u64 (tab 10 (pt10 g41 g46)))) (ret10 Tryd.results59 _ _ _ _ rfl hky) rfl ⟨_, rfl, ⟨_, rfl, pt10_fst i41, pt10_snd i46⟩, HB.out.trans (hby.mono (by omega))⟩
end Go.Proofs.YtgjdogkciklgkaaDoor
