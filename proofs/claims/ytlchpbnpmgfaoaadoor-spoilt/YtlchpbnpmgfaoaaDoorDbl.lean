/-
  The program's doubled.
-/
import Derived.Test.YtlchpbnpmgfaoaaDoorPts
namespace Go.Proofs.YtlchpbnpmgfaoaaDoor
open Go.RowKit

set_option maxRecDepth 100000 in
set_option maxHeartbeats 4000000 in
theorem doubledP {p : Nat → Nat} {x z : Nat} (hx : Is51 p x) (hz : Is51 (sec5 p) z) (w : World) :
    Calls Tryd.prog 59 #[.agg (rowK .u64 (tab 10 p))] w fun e w' => ∃ v, e = .returned v ∧ V10 v (rX2 x z) (rZ2 x z) ∧ Bel w.heap.size w w' := by
  have HX := hide hx
  have HZ := hide hz
  clear hx hz
  go_enter Tryd.func59, Tryd.ntmps59
  go_wp2
  rw [← z10]
  have HB : Hid (Bel w.heap.size w ((w.alloc (.cells (rowK .u64 (tab 10 p)) 94)).alloc (.cells (rowK .u64 (tab 10 zer17)) 94))) := (((Bel.refl _ _).alloc (by simp) _).alloc (by simp) _)
  have HA : Hid (Blk ((w.alloc (.cells (rowK .u64 (tab 10 p)) 94)).alloc (.cells (rowK .u64 (tab 10 zer17)) 94)) (w.heap.size) 94 .u64 (tab 10 p)) := ((blkAt w (w.heap.size) 94 .u64 (tab 10 p) (by simp)).alloc _)
  have HR : Hid (Blk ((w.alloc (.cells (rowK .u64 (tab 10 p)) 94)).alloc (.cells (rowK .u64 (tab 10 zer17)) 94)) (w.heap.size + 1) 94 .u64 (tab 10 zer17)) := (blkAt (w.alloc (.cells (rowK .u64 (tab 10 p)) 94)) (w.heap.size + 1) 94 .u64 (tab 10 zer17) (by simp))
  generalize ((w.alloc (.cells (rowK .u64 (tab 10 p)) 94)).alloc (.cells (rowK .u64 (tab 10 zer17)) 94)) = w1 at *
  have HP0 := hide (HA.out.range 0 _ (f100 p))
  have HP1 := hide (HA.out.range 5 _ (f101 p))
  have HL1 := hide HR.out.lt
  clear HA
  refine wp_region_phaseB 12 (PL [.ptr w.heap.size 0, .val x, .ptr w.heap.size 5, .val z, .val (addM x z), .ptr w.heap.size 0, .val x, .ptr w.heap.size 5, .val z, .val (subM x z), .new (w1.heap.size), .new (w1.heap.size)]) (frL [.ptr w.heap.size 0, .val x, .ptr w.heap.size 5, .val z, .val (addM x z), .ptr w.heap.size 0, .val x, .ptr w.heap.size 5, .val z, .val (subM x z), .new (w1.heap.size), .new (w1.heap.size)]) (by kernel_rfl) (by kernel_rfl) (PL_stable _) (PL_fr _) ?op1 ?tail1
  case op1 =>
    intro i o d hi ho hd a wv hbel hkeep hdep
    have RP0 : Rng wv w.heap.size 0 .u64 (tab 5 p) := HP0.out.drew.below hbel
    have RP1 : Rng wv w.heap.size 5 .u64 (tab 5 (sec5 p)) := HP1.out.drew.below hbel
    match i, hi with
    | 0, _ =>
      obtain rfl := Option.some.inj ho
      obtain rfl := Option.some.inj hd
      exact opB Bool.false_ne_true (op_field rfl rfl (hkeep 1 (ndB_spec (by kernel_rfl))) (field0 w.heap.size wv) rfl)
    | 1, _ =>
      obtain rfl := Option.some.inj ho
      obtain rfl := Option.some.inj hd
      exact opB Bool.false_ne_true (op_load rfl _ rfl w.heap.size 0 (hdep 0 _ 6 (by decide) rfl rfl (by kernel_rfl)) RP0 Tryd.underlying90 rfl (info5 _) ⟨_, rfl, HX.out⟩)
    | 2, _ =>
      obtain rfl := Option.some.inj ho
      obtain rfl := Option.some.inj hd
      exact opB Bool.false_ne_true (op_field rfl rfl (hkeep 1 (ndB_spec (by kernel_rfl))) (field1 w.heap.size wv) rfl)
    | 3, _ =>
      obtain rfl := Option.some.inj ho
      obtain rfl := Option.some.inj hd
      exact opB Bool.false_ne_true (op_load rfl _ rfl w.heap.size 5 (hdep 2 _ 8 (by decide) rfl rfl (by kernel_rfl)) RP1 Tryd.underlying90 rfl (info5 _) ⟨_, rfl, HZ.out⟩)
    | 4, _ =>
      obtain rfl := Option.some.inj ho
      obtain rfl := Option.some.inj hd
      exact opB Bool.false_ne_true (op_call2 (R := fun v _ => V5 v (addM x z)) rfl rfl rfl enterPlus5 rfl rfl rfl (plusV5 (hdep 1 _ 7 (by decide) rfl rfl (by kernel_rfl)) (hdep 3 _ 9 (by decide) rfl rfl (by kernel_rfl)) wv))
    | 5, _ =>
      obtain rfl := Option.some.inj ho
      obtain rfl := Option.some.inj hd
      exact opB Bool.false_ne_true (op_field rfl rfl (hkeep 1 (ndB_spec (by kernel_rfl))) (field0 w.heap.size wv) rfl)
    | 6, _ =>
      obtain rfl := Option.some.inj ho
      obtain rfl := Option.some.inj hd
      exact opB Bool.false_ne_true (op_load rfl _ rfl w.heap.size 0 (hdep 5 _ 11 (by decide) rfl rfl (by kernel_rfl)) RP0 Tryd.underlying90 rfl (info5 _) ⟨_, rfl, HX.out⟩)
    | 7, _ =>
      obtain rfl := Option.some.inj ho
      obtain rfl := Option.some.inj hd
      exact opB Bool.false_ne_true (op_field rfl rfl (hkeep 1 (ndB_spec (by kernel_rfl))) (field1 w.heap.size wv) rfl)
    | 8, _ =>
      obtain rfl := Option.some.inj ho
      obtain rfl := Option.some.inj hd
      exact opB Bool.false_ne_true (op_load rfl _ rfl w.heap.size 5 (hdep 7 _ 13 (by decide) rfl rfl (by kernel_rfl)) RP1 Tryd.underlying90 rfl (info5 _) ⟨_, rfl, HZ.out⟩)
    | 9, _ =>
      obtain rfl := Option.some.inj ho
      obtain rfl := Option.some.inj hd
      exact opB Bool.false_ne_true (op_call2 (R := fun v _ => V5 v (subM x z)) rfl rfl rfl enterMinus5 rfl rfl rfl (minusV5 (hdep 6 _ 12 (by decide) rfl rfl (by kernel_rfl)) (hdep 8 _ 14 (by decide) rfl rfl (by kernel_rfl)) wv))
    | 10, _ =>
      obtain rfl := Option.some.inj ho
      obtain rfl := Option.some.inj hd
      exact opB_alloc rfl rfl (alloc5 wv) ⟨wv.heap.size, rfl, hbel.size, Blk.new _ _ _ _⟩
    | 11, _ =>
      obtain rfl := Option.some.inj ho
      obtain rfl := Option.some.inj hd
      exact opB_alloc rfl rfl (alloc5 wv) ⟨wv.heap.size, rfl, hbel.size, Blk.new _ _ _ _⟩
  case tail1 =>
    intro a wv hj hap
    have hact := hj.act [6, 7, 8, 9, 10, 11, 12, 13, 14, 15, 3, 4] (by kernel_rfl)
    have e6 : a.tmps.getD 6 undef = .pointer (some ⟨w.heap.size, 0, none⟩) := hj.post 0 _ 6 (by decide) rfl rfl rfl
    obtain ⟨g7, e7, i7⟩ := hj.post 1 _ 7 (by decide) rfl rfl rfl
    have e8 : a.tmps.getD 8 undef = .pointer (some ⟨w.heap.size, 5, none⟩) := hj.post 2 _ 8 (by decide) rfl rfl rfl
    obtain ⟨g9, e9, i9⟩ := hj.post 3 _ 9 (by decide) rfl rfl rfl
    obtain ⟨g10, e10, i10⟩ := hj.post 4 _ 10 (by decide) rfl rfl rfl
    have e11 : a.tmps.getD 11 undef = .pointer (some ⟨w.heap.size, 0, none⟩) := hj.post 5 _ 11 (by decide) rfl rfl rfl
    obtain ⟨g12, e12, i12⟩ := hj.post 6 _ 12 (by decide) rfl rfl rfl
    have e13 : a.tmps.getD 13 undef = .pointer (some ⟨w.heap.size, 5, none⟩) := hj.post 7 _ 13 (by decide) rfl rfl rfl
    obtain ⟨g14, e14, i14⟩ := hj.post 8 _ 14 (by decide) rfl rfl rfl
    obtain ⟨g15, e15, i15⟩ := hj.post 9 _ 15 (by decide) rfl rfl rfl
    obtain ⟨b3, e3, l3, k3⟩ := hj.post 10 _ 3 (by decide) rfl rfl rfl
    obtain ⟨b4, e4, l4, k4⟩ := hj.post 11 _ 4 (by decide) rfl rfl rfl
    have ne : b3 ≠ b4 := by
      have h := hap 10 11 _ _ 3 4 (by decide) (by decide) (by decide) rfl rfl rfl rfl rfl rfl rfl rfl
      rw [e3, e4] at h
      exact fun e => h (by rw [e])
    simp only [List.map_cons, List.map_nil, e6, e7, e8, e9, e10, e11, e12, e13, e14, e15, e3, e4] at hact
    have hjb : Bel w1.heap.size w1 wv := (Bel.refl _ _).drew.trans hj.bel
    clear hj hap e6 e7 e8 e9 e10 e11 e12 e13 e14 e15 e3 e4
    subst hact
    simp only [putL, Act.put, List.setIfInBounds_toArray, List.set_cons_zero, List.set_cons_succ, List.drop_succ_cons, List.drop_zero]
    have I3 := hide i10
    have I4 := hide i15
    have K3 := hide k3
    have K4 := hide k4
    clear k3 k4 i7 i9 i10 i12 i14 i15 HP0 HP1
    replace HR := hide (HR.out.below hjb HR.out.lt)
    replace HB := hide (HB.out.trans (hjb.mono HB.out.size))
    go_wp2_with (first | (refine wpList_stB K3.out (info5 g10) (len5 _ _) rfl _ _ rfl rfl rfl rfl ?_; intro w2 hb2 ho2 hk2) | (refine wpList_stB (K4.out.stays ho2 (Ne.symm ne)) (info5 g15) (len5 _ _) rfl _ _ rfl rfl rfl rfl ?_; intro w3 hb3 ho3 hk3))
    have L := hide (show w.heap.size + 1 < b3 ∧ w.heap.size + 1 < b4 from ⟨Nat.lt_of_lt_of_le HL1.out l3, Nat.lt_of_lt_of_le HL1.out l4⟩)
    replace HR := hide ((HR.out.stays ho2 (Nat.ne_of_lt L.out.1)).stays ho3 (Nat.ne_of_lt L.out.2))
    replace HB := hide ((HB.out.trans (hb2.mono (by have := L.out.1; omega))).trans (hb3.mono (by have := L.out.2; omega)))
    replace K3 := hide (hk2.stays ho3 ne)
    replace K4 := hide hk3
    have H3 := hide K3.out.rng
    have H4 := hide K4.out.rng
    have NE := hide ne
    clear hb2 ho2 hk2 hb3 ho3 hk3 hjb l3 l4 ne HL1
    refine wp_region_phaseB 6 (PL [.val (addM x z), .val (addM x z), .val (mulM (addM x z) (addM x z)), .val (subM x z), .val (subM x z), .val (mulM (subM x z) (subM x z))]) (frL [.val (addM x z), .val (addM x z), .val (mulM (addM x z) (addM x z)), .val (subM x z), .val (subM x z), .val (mulM (subM x z) (subM x z))]) (by kernel_rfl) (by kernel_rfl) (PL_stable _) (PL_fr _) ?op2 ?tail2
    case op2 =>
      intro i o d hi ho hd a wv hbel hkeep hdep
      have R3 : Rng wv b3 0 .u64 (tab 5 g10) := H3.out.drew.below hbel
      have R4 : Rng wv b4 0 .u64 (tab 5 g15) := H4.out.drew.below hbel
      match i, hi with
      | 0, _ =>
        obtain rfl := Option.some.inj ho
        obtain rfl := Option.some.inj hd
        exact opB Bool.false_ne_true (op_load rfl _ rfl b3 0 (hkeep 3 (ndB_spec (by kernel_rfl))) R3 Tryd.underlying90 rfl (info5 _) ⟨_, rfl, I3.out⟩)
      | 1, _ =>
        obtain rfl := Option.some.inj ho
        obtain rfl := Option.some.inj hd
        exact opB Bool.false_ne_true (op_load rfl _ rfl b3 0 (hkeep 3 (ndB_spec (by kernel_rfl))) R3 Tryd.underlying90 rfl (info5 _) ⟨_, rfl, I3.out⟩)
      | 2, _ =>
        obtain rfl := Option.some.inj ho
        obtain rfl := Option.some.inj hd
        exact opB Bool.false_ne_true (op_call2 (R := fun v _ => V5 v (mulM (addM x z) (addM x z))) rfl rfl rfl enterTimes5 rfl rfl rfl (timesV5 (hdep 0 _ 16 (by decide) rfl rfl (by kernel_rfl)) (hdep 1 _ 17 (by decide) rfl rfl (by kernel_rfl)) wv))
      | 3, _ =>
        obtain rfl := Option.some.inj ho
        obtain rfl := Option.some.inj hd
        exact opB Bool.false_ne_true (op_load rfl _ rfl b4 0 (hkeep 4 (ndB_spec (by kernel_rfl))) R4 Tryd.underlying90 rfl (info5 _) ⟨_, rfl, I4.out⟩)
      | 4, _ =>
        obtain rfl := Option.some.inj ho
        obtain rfl := Option.some.inj hd
        exact opB Bool.false_ne_true (op_load rfl _ rfl b4 0 (hkeep 4 (ndB_spec (by kernel_rfl))) R4 Tryd.underlying90 rfl (info5 _) ⟨_, rfl, I4.out⟩)
      | 5, _ =>
        obtain rfl := Option.some.inj ho
        obtain rfl := Option.some.inj hd
        exact opB Bool.false_ne_true (op_call2 (R := fun v _ => V5 v (mulM (subM x z) (subM x z))) rfl rfl rfl enterTimes5 rfl rfl rfl (timesV5 (hdep 3 _ 19 (by decide) rfl rfl (by kernel_rfl)) (hdep 4 _ 20 (by decide) rfl rfl (by kernel_rfl)) wv))
    case tail2 =>
      intro a wv hj hap
      have hact := hj.act [16, 17, 18, 19, 20, 21] (by kernel_rfl)
      obtain ⟨g16, e16, i16⟩ := hj.post 0 _ 16 (by decide) rfl rfl rfl
      obtain ⟨g17, e17, i17⟩ := hj.post 1 _ 17 (by decide) rfl rfl rfl
      obtain ⟨g18, e18, i18⟩ := hj.post 2 _ 18 (by decide) rfl rfl rfl
      obtain ⟨g19, e19, i19⟩ := hj.post 3 _ 19 (by decide) rfl rfl rfl
      obtain ⟨g20, e20, i20⟩ := hj.post 4 _ 20 (by decide) rfl rfl rfl
      obtain ⟨g21, e21, i21⟩ := hj.post 5 _ 21 (by decide) rfl rfl rfl
      simp only [List.map_cons, List.map_nil, e16, e17, e18, e19, e20, e21] at hact
      have hjb : Bel w3.heap.size w3 wv := (Bel.refl _ _).drew.trans hj.bel
      clear hj hap e16 e17 e18 e19 e20 e21
      subst hact
      simp only [putL, Act.put, List.setIfInBounds_toArray, List.set_cons_zero, List.set_cons_succ, List.drop_succ_cons, List.drop_zero]
      replace HR := hide (HR.out.below hjb HR.out.lt)
      replace HB := hide (HB.out.trans (hjb.mono HB.out.size))
      replace K3 := hide (K3.out.below hjb K3.out.lt)
      replace K4 := hide (K4.out.below hjb K4.out.lt)
      replace I3 := hide i18
      replace I4 := hide i21
      clear H3 H4 hjb i16 i17 i18 i19 i20 i21
      go_wp2_with (first | (refine wpList_stB K3.out (info5 g18) (len5 _ _) rfl _ _ rfl rfl rfl rfl ?_; intro w4 hb2 ho2 hk2) | (refine wpList_stB (K4.out.stays ho2 (Ne.symm NE.out)) (info5 g21) (len5 _ _) rfl _ _ rfl rfl rfl rfl ?_; intro w5 hb3 ho3 hk3) | (refine wpList_ldQ rfl _ rfl _ _ rfl (by first | with_reducible exact (hk2.stays ho3 NE.out).rng | with_reducible exact hk3.rng) Tryd.underlying90 rfl (info5 _) ?_))
      replace HR := hide ((HR.out.stays ho2 (Nat.ne_of_lt L.out.1)).stays ho3 (Nat.ne_of_lt L.out.2))
      replace HB := hide ((HB.out.trans (hb2.mono (by have := L.out.1; omega))).trans (hb3.mono (by have := L.out.2; omega)))
      have H3 := hide (hk2.stays ho3 NE.out).rng
      have H4 := hide hk3.rng
      clear hb2 ho2 hk2 hb3 ho3 hk3 K3 K4
      refine (minusI5 I3.out I4.out _).mono ?_
      rintro e w6 ⟨f5, rfl, i5, bel⟩
      have I5 := hide i5
      replace H3 := hide (H3.out.below bel)
      replace H4 := hide (H4.out.below bel)
      replace HR := hide (HR.out.below bel HR.out.lt)
      replace HB := hide (HB.out.trans (bel.mono HB.out.size))
      clear bel i5
      go_wp2_with (first | (refine wpList_stNew rfl _ _ rfl rfl rfl rfl rfl (info5 f5) (z5n _) ?_; intro w7 bel hb5))
      replace H3 := hide (H3.out.below bel)
      replace H4 := hide (H4.out.below bel)
      replace HR := hide (HR.out.below bel HR.out.lt)
      replace HB := hide (HB.out.trans (bel.mono HB.out.size))
      have H5 := hide hb5.rng
      clear bel hb5
      generalize w6.heap.size = b5 at *
      refine wp_region_phaseB 10 (PL [.val (mulM (addM x z) (addM x z)), .val (mulM (subM x z) (subM x z)), .val (rX2 x z), .val (rE x z), .val (mulM (addM x z) (addM x z)), .val (rE x z), .val 121665, .val (mulM (rE x z) 121665), .val (addM (mulM (addM x z) (addM x z)) (mulM (rE x z) 121665)), .val (mulM (rE x z) (addM (mulM (addM x z) (addM x z)) (mulM (rE x z) 121665)))]) (frL [.val (mulM (addM x z) (addM x z)), .val (mulM (subM x z) (subM x z)), .val (rX2 x z), .val (rE x z), .val (mulM (addM x z) (addM x z)), .val (rE x z), .val 121665, .val (mulM (rE x z) 121665), .val (addM (mulM (addM x z) (addM x z)) (mulM (rE x z) 121665)), .val (mulM (rE x z) (addM (mulM (addM x z) (addM x z)) (mulM (rE x z) 121665)))]) (by kernel_rfl) (by kernel_rfl) (PL_stable _) (PL_fr _) ?op4 ?tail4
      case op4 =>
        intro i o d hi ho hd a wv hbel hkeep hdep
        have R3 : Rng wv b3 0 .u64 (tab 5 g18) := H3.out.drew.below hbel
        have R4 : Rng wv b4 0 .u64 (tab 5 g21) := H4.out.drew.below hbel
        have R5 : Rng wv b5 0 .u64 (tab 5 f5) := H5.out.drew.below hbel
        match i, hi with
        | 0, _ =>
          obtain rfl := Option.some.inj ho
          obtain rfl := Option.some.inj hd
          exact opB Bool.false_ne_true (op_load rfl _ rfl b3 0 (hkeep 3 (ndB_spec (by kernel_rfl))) R3 Tryd.underlying90 rfl (info5 _) ⟨_, rfl, I3.out⟩)
        | 1, _ =>
          obtain rfl := Option.some.inj ho
          obtain rfl := Option.some.inj hd
          exact opB Bool.false_ne_true (op_load rfl _ rfl b4 0 (hkeep 4 (ndB_spec (by kernel_rfl))) R4 Tryd.underlying90 rfl (info5 _) ⟨_, rfl, I4.out⟩)
        | 2, _ =>
          obtain rfl := Option.some.inj ho
          obtain rfl := Option.some.inj hd
          exact opB Bool.false_ne_true (op_call2 (R := fun v _ => V5 v (rX2 x z)) rfl rfl rfl enterTimes5 rfl rfl rfl (timesV5 (hdep 0 _ 25 (by decide) rfl rfl (by kernel_rfl)) (hdep 1 _ 26 (by decide) rfl rfl (by kernel_rfl)) wv))
        | 3, _ =>
          obtain rfl := Option.some.inj ho
          obtain rfl := Option.some.inj hd
          exact opB Bool.false_ne_true (op_load rfl _ rfl b5 0 (hkeep 5 (ndB_spec (by kernel_rfl))) R5 Tryd.underlying90 rfl (info5 _) ⟨_, rfl, I5.out⟩)
        | 4, _ =>
          obtain rfl := Option.some.inj ho
          obtain rfl := Option.some.inj hd
          exact opB Bool.false_ne_true (op_load rfl _ rfl b3 0 (hkeep 3 (ndB_spec (by kernel_rfl))) R3 Tryd.underlying90 rfl (info5 _) ⟨_, rfl, I3.out⟩)
        | 5, _ =>
          obtain rfl := Option.some.inj ho
          obtain rfl := Option.some.inj hd
          exact opB Bool.false_ne_true (op_load rfl _ rfl b5 0 (hkeep 5 (ndB_spec (by kernel_rfl))) R5 Tryd.underlying90 rfl (info5 _) ⟨_, rfl, I5.out⟩)
        | 6, _ =>
          obtain rfl := Option.some.inj ho
          obtain rfl := Option.some.inj hd
          exact opB Bool.false_ne_true (op_value rfl (by simp [execOp, Act.eval, build5]) ⟨_, rfl, one5_is (by decide) (by decide)⟩)
        | 7, _ =>
          obtain rfl := Option.some.inj ho
          obtain rfl := Option.some.inj hd
          exact opB Bool.false_ne_true (op_call2 (R := fun v _ => V5 v (mulM (rE x z) 121665)) rfl rfl rfl enterTimes5 rfl rfl rfl (timesV5 (hdep 5 _ 30 (by decide) rfl rfl (by kernel_rfl)) (hdep 6 _ 31 (by decide) rfl rfl (by kernel_rfl)) wv))
        | 8, _ =>
          obtain rfl := Option.some.inj ho
          obtain rfl := Option.some.inj hd
          exact opB Bool.false_ne_true (op_call2 (R := fun v _ => V5 v (addM (mulM (addM x z) (addM x z)) (mulM (rE x z) 121665))) rfl rfl rfl enterPlus5 rfl rfl rfl (plusV5 (hdep 4 _ 29 (by decide) rfl rfl (by kernel_rfl)) (hdep 7 _ 32 (by decide) rfl rfl (by kernel_rfl)) wv))
        | 9, _ =>
          obtain rfl := Option.some.inj ho
          obtain rfl := Option.some.inj hd
          exact opB Bool.false_ne_true (op_call2 (R := fun v _ => V5 v (mulM (rE x z) (addM (mulM (addM x z) (addM x z)) (mulM (rE x z) 121665)))) rfl rfl rfl enterTimes5 rfl rfl rfl (timesV5 (hdep 3 _ 28 (by decide) rfl rfl (by kernel_rfl)) (hdep 8 _ 33 (by decide) rfl rfl (by kernel_rfl)) wv))
      case tail4 =>
        intro a wv hj hap
        have hact := hj.act [25, 26, 27, 28, 29, 30, 31, 32, 33, 34] (by kernel_rfl)
        obtain ⟨g25, e25, i25⟩ := hj.post 0 _ 25 (by decide) rfl rfl rfl
        obtain ⟨g26, e26, i26⟩ := hj.post 1 _ 26 (by decide) rfl rfl rfl
        obtain ⟨g27, e27, i27⟩ := hj.post 2 _ 27 (by decide) rfl rfl rfl
        obtain ⟨g28, e28, i28⟩ := hj.post 3 _ 28 (by decide) rfl rfl rfl
        obtain ⟨g29, e29, i29⟩ := hj.post 4 _ 29 (by decide) rfl rfl rfl
        obtain ⟨g30, e30, i30⟩ := hj.post 5 _ 30 (by decide) rfl rfl rfl
        obtain ⟨g31, e31, i31⟩ := hj.post 6 _ 31 (by decide) rfl rfl rfl
        obtain ⟨g32, e32, i32⟩ := hj.post 7 _ 32 (by decide) rfl rfl rfl
        obtain ⟨g33, e33, i33⟩ := hj.post 8 _ 33 (by decide) rfl rfl rfl
        obtain ⟨g34, e34, i34⟩ := hj.post 9 _ 34 (by decide) rfl rfl rfl
        simp only [List.map_cons, List.map_nil, e25, e26, e27, e28, e29, e30, e31, e32, e33, e34] at hact
        have hjb : Bel w7.heap.size w7 wv := (Bel.refl _ _).drew.trans hj.bel
        clear hj hap e25 e26 e27 e28 e29 e30 e31 e32 e33 e34
        subst hact
        simp only [putL, Act.put, List.setIfInBounds_toArray, List.set_cons_zero, List.set_cons_succ, List.drop_succ_cons, List.drop_zero]
        replace HR := hide (HR.out.below hjb HR.out.lt)
        replace HB := hide (HB.out.trans (hjb.mono HB.out.size))
        go_wp2_with (first | (refine wpList_build10 rfl rfl g27 g34 rfl rfl ?_) | (refine wpList_stB HR.out (info10 (pt10 g27 g34)) (len10 _ _) rfl _ _ rfl rfl rfl rfl ?_; intro wy hby hoy hky))
        refine bodyPost_ret (v := .agg (rowK .u64 (tab 10 (pt10 g27 g34)))) (ret10 Tryd.results59 _ _ _ _ rfl hky) rfl ⟨_, rfl, ⟨_, rfl, pt10_fst i27, ?_⟩, HB.out.trans (hby.mono (by omega))⟩
        have e : rZ2 x z = mulM (rE x z) (addM (mulM (addM x z) (addM x z)) (mulM (rE x z) 121665)) := by unfold rZ2; rw [mulM_comm 121665]
        rw [e]
        exact pt10_snd i34
end Go.Proofs.YtlchpbnpmgfaoaaDoor
