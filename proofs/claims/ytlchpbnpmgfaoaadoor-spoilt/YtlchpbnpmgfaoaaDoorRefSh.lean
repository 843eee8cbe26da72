/-
  The document's clamped, Shared.
-/
import Derived.Test.YtlchpbnpmgfaoaaDoorRefRung
import Derived.Test.YtlchpbnpmgfaoaaDoorRefPack
namespace Go.Proofs.YtlchpbnpmgfaoaaDoor
open Go.RowKit

/-- Bit i of a secret. -/
def cbit (s : List UInt8) (i : Nat) : Nat := if i < 3 then 0 else if i = 254 then 1 else sbit s i
theorem cbit_lt (s : List UInt8) (i : Nat) : cbit s i < 2 := by
  unfold cbit
  split
  · decide
  · split
    · decide
    · exact sbit_lt s i

set_option maxRecDepth 100000 in
set_option maxHeartbeats 1000000 in
theorem clampedR (s : List UInt8) (hs : s.length = 32) (i : Nat) (hi : i < 255) (w : World) :
    Calls Tryd.prog 109 #[.string (str s), .int .i64 i] w fun e w' => e = .returned (.int .i64 (cbit s i : Nat)) ∧ Bel w.heap.size w w' := by
  by_cases h3 : i < 3
  · have HC : Hid (cbit s i = 0) := if_pos h3
    go_enter Tryd.func109, Tryd.ntmps109
    go_wp2
    go_ret
    refine ⟨?_, Bel.refl _ _⟩
    rw [HC.out]
    rfl
  · by_cases h4 : i = 254
    · subst h4
      have HC : Hid (cbit s 254 = 1) := rfl
      go_enter Tryd.func109, Tryd.ntmps109
      go_wp2
      go_ret
      refine ⟨?_, Bel.refl _ _⟩
      rw [HC.out]
      rfl
    · have HC : Hid (cbit s i = byteAt s (i / 8) / 2 ^ (i % 8) % 2) := by
        show cbit s i = _
        unfold cbit
        rw [if_neg h3, if_neg h4]
        rfl
      have hix := idxL s ((i : Int) / 8) (i / 8) (by omega) (by omega)
      have lx := byteAt_lt s (i / 8)
      generalize byteAt s (i / 8) = x at *
      have ea : bits .and .i64 ((x : Int) / 2 ^ (i % 8)) 1 = ((x / 2 ^ (i % 8) % 2 : Nat) : Int) := by
        rw [shr_cast, and1 _ (Nat.lt_of_le_of_lt (Nat.div_le_self _ _) (by omega))]
      have n255 : ¬ (i : Int) = 255 := by omega
      have n254 : ¬ (i : Int) = 254 := by omega
      have n3 : ¬ (i : Int) < 3 := by omega
      have b255 : ((i : Int) == 255) = false := by rw [beq_eq_false_iff_ne]; omega
      have b254 : ((i : Int) == 254) = false := by rw [beq_eq_false_iff_ne]; omega
      go_enter Tryd.func109, Tryd.ntmps109
      go_wp2
      go_ret
      refine ⟨?_, Bel.refl _ _⟩
      rw [HC.out]
      rfl

theorem clampedI (s : List UInt8) (hs : s.length = 32) (i : Int) (n : Nat) (hi : i = n) (hn : n < 255) (w : World) :
    Calls Tryd.prog 109 #[.string (str s), .int .i64 i] w fun e w' => e = .returned (.int .i64 (cbit s n : Nat)) ∧ Bel w.heap.size w w' := by
  subst hi
  exact clampedR s hs n hn w

/-- The ladder, modulo the prime. -/
def stepL (b x : Nat) (p : Nat × Nat × Nat × Nat) : Nat × Nat × Nat × Nat :=
  if b = 1 then (rX3 p.2.2.1 p.2.2.2 p.1 p.2.1, rZ3 p.2.2.1 p.2.2.2 p.1 p.2.1 x, rX2 p.2.2.1 p.2.2.2, rZ2 p.2.2.1 p.2.2.2)
  else (rX2 p.1 p.2.1, rZ2 p.1 p.2.1, rX3 p.1 p.2.1 p.2.2.1 p.2.2.2, rZ3 p.1 p.2.1 p.2.2.1 p.2.2.2 x)
def ladTo (bit : Nat → Nat) (x : Nat) : Nat → Nat × Nat × Nat × Nat
  | 0 => (1, 0, x, 1)
  | k + 1 => stepL (bit (254 - k)) x (ladTo bit x k)
/-- X25519 of a secret and a point. -/
def x25519 (s q : List UInt8) : List UInt8 := outB (mulM (ladTo (cbit s) (UV q % PR) 255).1 (ivTo (ladTo (cbit s) (UV q % PR) 255).2.1 255))
theorem x25519_length (s q : List UInt8) : (x25519 s q).length = 32 := outB_length _
theorem unp15_is (q : List UInt8) : Is15 (unp15 q) (UV q % PR) := ⟨unp15_ok q, by rw [unp15_val]⟩

theorem allocP (w : World) : (Instr.alloc 146 true (.tuple #[])).run Tryd.prog w = .ok (.pointer (some ⟨w.heap.size, 0, none⟩)) (w.alloc (.cells (rowK .i64 (tab 68 zer17)) 146)) := by kernel_rfl
theorem op_buildP {o : Oper} {a : Act} {w : World} {Q : Exit → Act → World → Prop} {d : Nat} {R : Value → World → Prop} {x y z u : Operand} (hd : o.dst = some d) (ho : o.op = .build 146 #[(0, x), (1, y), (2, z), (3, u)]) (f1 f2 f3 f4 : Nat → Nat)
    (hx : a.eval x = .agg (rowK .i64 (tab 17 f1))) (hy : a.eval y = .agg (rowK .i64 (tab 17 f2))) (hz : a.eval z = .agg (rowK .i64 (tab 17 f3))) (hu : a.eval u = .agg (rowK .i64 (tab 17 f4)))
    (h : R (.agg (rowK .i64 (four4 f1 f2 f3 f4))) w) : o.wp Tryd.prog a w (fun a' w' => ∃ v, a' = a.put (some d) v ∧ R v w' ∧ Bel w.heap.size w w') Q :=
  op_value hd (by simp [execOp, ho, hx, hy, hz, hu, buildP]) h
def Q68 (v : Value) (x2 z2 x3 z3 : Nat) : Prop := ∃ a b c d, v = .agg (rowK .i64 (four4 a b c d)) ∧ Is15 a x2 ∧ Is15 b z2 ∧ Is15 c x3 ∧ Is15 d z3
def PS (B0 x : Nat) : Nat → Value → World → Prop
  | 0, v, _ => V17 v 1
  | 1, v, _ => V17 v 0
  | 2, v, _ => V17 v x
  | 3, v, _ => V17 v 1
  | 4, v, _ => Q68 v 1 0 x 1
  | 5, v, w => ∃ b, v = .pointer (some ⟨b, 0, none⟩) ∧ B0 ≤ b ∧ Blk w b 146 .i64 (tab 68 zer17)
  | _, _, _ => True
theorem PS_stable (B0 x : Nat) (i : Nat) (v : Value) (w w' : World) (h : PS B0 x i v w) (hb : Bel w.heap.size w w') : PS B0 x i v w' := by
  match i, h with
  | 0, h => exact h
  | 1, h => exact h
  | 2, h => exact h
  | 3, h => exact h
  | 4, h => exact h
  | 5, ⟨b, h1, h2, h3⟩ => exact ⟨b, h1, h2, h3.below hb h3.lt⟩
  | _ + 6, _ => exact trivial
theorem lenP4 (a b c d a' b' c' d' : Nat → Nat) : (four4 a b c d).length = (four4 a' b' c' d').length := by rw [← lenP, ← lenP]
theorem Rng.belowB {w w' : World} {g off B : Nat} {k : IntKind} {l : List Nat} (h : Rng w g off k l) (hb : Bel B w w') (hB : g < B) : Rng w' g off k l :=
  ⟨Nat.lt_of_lt_of_le h.1 hb.size, fun j v hv => (hb.cell (p := ⟨g, off + j, none⟩) hB).trans (h.2 j v hv)⟩

set_option maxRecDepth 100000 in
set_option maxHeartbeats 4000000 in
theorem sharedR (s q : List UInt8) (hs : s.length = 32) (hq : q.length = 32) (w : World) :
    Calls Tryd.prog 81 #[.string (str s), .string (str q)] w fun e w' => e = .returned (.string (str (x25519 s q))) ∧ Bel w.heap.size w w' := by
  have HRES : Hid (x25519 s q = outB (mulM (ladTo (cbit s) (UV q % PR) 255).1 (ivTo (ladTo (cbit s) (UV q % PR) 255).2.1 255))) := rfl
  have Ix := hide (unp15_is q)
  go_enter Tryd.func81, Tryd.ntmps81
  go_wp2_with fail
  refine (unpackedR q hq _).mono ?_
  rintro e w2 ⟨rfl, hb2⟩
  generalize UV q % PR = xm at *
  generalize unp15 q = fx at *
  go_wp2_with (first | (refine wpList_stNew rfl _ _ rfl rfl rfl rfl rfl (infoN fx) (z17n _) ?_; intro w3 bel hx))
  have HB := hide (hb2.trans (bel.mono hb2.size))
  have Hx := hide hx.rng
  clear hb2 bel hx
  generalize w2.heap.size = bx at *
  refine wp_region_phase 6 (PS w3.heap.size xm) (by kernel_rfl) (by kernel_rfl) (PS_stable _ _) ?opS ?tailS
  case opS =>
    intro i o d hi ho hd a wv hbel hkeep hdep
    have Rx : Rng wv bx 0 .i64 (tab 17 fx) := Hx.out.drew.below hbel
    match i, hi with
    | 0, _ =>
      obtain rfl := Option.some.inj ho
      obtain rfl := Option.some.inj hd
      exact op_call1 (R := fun v _ => V17 v 1) rfl rfl rfl enterNumber rfl rfl (numberI (n := 1) (by decide) wv)
    | 1, _ =>
      obtain rfl := Option.some.inj ho
      obtain rfl := Option.some.inj hd
      exact op_call1 (R := fun v _ => V17 v 0) rfl rfl rfl enterNumber rfl rfl (numberI (n := 0) (by decide) wv)
    | 2, _ =>
      obtain rfl := Option.some.inj ho
      obtain rfl := Option.some.inj hd
      exact op_load rfl _ rfl bx 0 (hkeep 5 (ndB_spec (by kernel_rfl))) Rx Tryd.underlying142 rfl (infoN _) ⟨fx, rfl, Ix.out⟩
    | 3, _ =>
      obtain rfl := Option.some.inj ho
      obtain rfl := Option.some.inj hd
      exact op_call1 (R := fun v _ => V17 v 1) rfl rfl rfl enterNumber rfl rfl (numberI (n := 1) (by decide) wv)
    | 4, _ =>
      obtain rfl := Option.some.inj ho
      obtain rfl := Option.some.inj hd
      obtain ⟨f1, e1, i1⟩ : V17 (a.tmps.getD 11 undef) 1 := hdep 0 _ 11 (by decide) rfl rfl (by kernel_rfl)
      obtain ⟨f2, e2, i2⟩ : V17 (a.tmps.getD 12 undef) 0 := hdep 1 _ 12 (by decide) rfl rfl (by kernel_rfl)
      obtain ⟨f3, e3, i3⟩ : V17 (a.tmps.getD 13 undef) xm := hdep 2 _ 13 (by decide) rfl rfl (by kernel_rfl)
      obtain ⟨f4, e4, i4⟩ : V17 (a.tmps.getD 14 undef) 1 := hdep 3 _ 14 (by decide) rfl rfl (by kernel_rfl)
      exact op_buildP (R := fun v _ => Q68 v 1 0 xm 1) rfl rfl f1 f2 f3 f4 e1 e2 e3 e4 ⟨f1, f2, f3, f4, rfl, i1, i2, i3, i4⟩
    | 5, _ =>
      obtain rfl := Option.some.inj ho
      obtain rfl := Option.some.inj hd
      exact op_alloc rfl rfl (allocP wv) ⟨wv.heap.size, rfl, hbel.size, Blk.new _ _ _ _⟩
  case tailS =>
    intro a wv hj
    have hact := hj.act [11, 12, 13, 14, 15, 6] (by kernel_rfl)
    obtain ⟨f11, e11, _⟩ := hj.post 0 _ 11 (by decide) rfl rfl rfl
    obtain ⟨f12, e12, _⟩ := hj.post 1 _ 12 (by decide) rfl rfl rfl
    obtain ⟨f13, e13, _⟩ := hj.post 2 _ 13 (by decide) rfl rfl rfl
    obtain ⟨f14, e14, _⟩ := hj.post 3 _ 14 (by decide) rfl rfl rfl
    obtain ⟨fa, fb, fc, fd, e15, ia, ib, ic, id⟩ := hj.post 4 _ 15 (by decide) rfl rfl rfl
    obtain ⟨bp, e6, hbp, hP⟩ := hj.post 5 _ 6 (by decide) rfl rfl rfl
    simp only [List.map_cons, List.map_nil, e11, e12, e13, e14, e15, e6] at hact
    have hjb : Bel w3.heap.size w3 wv := (Bel.refl _ _).drew.trans hj.bel
    clear hj e11 e12 e13 e14 e15 e6
    subst hact
    have I0 : Hid (Is15 fa 1 ∧ Is15 fb 0 ∧ Is15 fc xm ∧ Is15 fd 1) := ⟨ia, ib, ic, id⟩
    have HPZ := hide hP
    clear ia ib ic id hP
    simp only [putL, Act.put, List.setIfInBounds_toArray, List.set_cons_zero, List.set_cons_succ, List.drop_succ_cons, List.drop_zero]
    go_wp2_with (first | (refine wpList_stB HPZ.out (infoP fa fb fc fd) (lenP _ _ _ _) rfl _ _ rfl rfl rfl rfl ?_; intro wz hbz hoz hkz))
    have bel : Bel w3.heap.size w3 wz := hjb.trans (hbz.mono hbp)
    have HB0 := HB.out.size
    replace HB := hide (HB.out.trans (bel.mono HB.out.size))
    have hxl := Hx.out.1
    replace Hx := hide (Hx.out.below bel)
    have HP := hide hkz
    have hbxp : bx < bp := by omega
    have hwb : w.heap.size ≤ bp := Nat.le_trans HB0 hbp
    clear bel hbz hoz hkz hjb HPZ HB0
    go_loopw [7] (fun t wr => ∃ (k : Nat) (a b c d : Nat → Nat), k ≤ 255 ∧ t = .int .i64 (254 - (k : Int)) ∧ Bel w.heap.size w wr ∧ Rng wr bx 0 .i64 (tab 17 fx) ∧ Blk wr bp 146 .i64 (four4 a b c d) ∧ Is15 a (ladTo (cbit s) xm k).1 ∧ Is15 b (ladTo (cbit s) xm k).2.1 ∧ Is15 c (ladTo (cbit s) xm k).2.2.1 ∧ Is15 d (ladTo (cbit s) xm k).2.2.2) (fun t _ => (intOf t + 1).toNat)
    case atStart => exact ⟨0, fa, fb, fc, fd, Nat.zero_le _, rfl, HB.out, Hx.out, HP.out, I0.out.1, I0.out.2.1, I0.out.2.2.1, I0.out.2.2.2⟩
    case round =>
      clear HB Hx HP I0
      obtain ⟨k, ga, gb, gc, gd, hk, rfl, hB, hX, hP, ia, ib, ic, id⟩ := hrel
      have HB := hide hB
      have HX := hide hX
      have HP := hide hP
      have Ia := hide ia
      have Ib := hide ib
      have Ic := hide ic
      have Id := hide id
      clear hB hX hP ia ib ic id
      by_cases hk2 : k < 255
      · have h0 : (0 : Int) ≤ 254 - (k : Int) := by omega
        have HL : Hid (ladTo (cbit s) xm (k + 1) = stepL (cbit s (254 - k)) xm (ladTo (cbit s) xm k)) := rfl
        generalize ladTo (cbit s) xm k = L at *
        go_wp2_with fail
        refine (clampedI s hs (254 - (k : Int)) (254 - k) (by omega) (by omega) _).mono ?_
        rintro e w4 ⟨rfl, hb4⟩
        replace HB := hide (HB.out.trans (hb4.mono HB.out.size))
        replace HX := hide (HX.out.below hb4)
        replace HP := hide (HP.out.below hb4 HP.out.lt)
        clear hb4
        have hcb := cbit_lt s (254 - k)
        generalize cbit s (254 - k) = cb at *
        have h01 : cb = 0 ∨ cb = 1 := by omega
        clear hcb
        rcases h01 with rfl | rfl
        · have HS : Hid (stepL 0 xm L = (rX2 L.1 L.2.1, rZ2 L.1 L.2.1, rX3 L.1 L.2.1 L.2.2.1 L.2.2.2, rZ3 L.1 L.2.1 L.2.2.1 L.2.2.2 xm)) := if_neg (by decide)
          go_wp2_with (first | (refine wpList_ldQ rfl _ rfl _ _ rfl (by first | with_reducible exact HX.out) Tryd.underlying142 rfl (infoN _) ?_) | (refine wpList_ldB HP.out Tryd.underlying146 rfl (infoP _ _ _ _) rfl _ rfl rfl ?_))
          refine (rungR ga gb gc gd fx _ _ _ _ xm Ia.out Ib.out Ic.out Id.out Ix.out _).mono ?_
          rintro e w5 ⟨na, nb, nc, nd, rfl, ja, jb, jc, jd, hb5⟩
          replace HB := hide (HB.out.trans (hb5.mono HB.out.size))
          replace HX := hide (HX.out.below hb5)
          replace HP := hide (HP.out.below hb5 HP.out.lt)
          clear hb5
          have JJ : Hid (Is15 na _ ∧ Is15 nb _ ∧ Is15 nc _ ∧ Is15 nd _) := ⟨ja, jb, jc, jd⟩
          clear ja jb jc jd
          go_wp2_with (first | (refine wpList_stB HP.out (infoP na nb nc nd) (lenP4 _ _ _ _ _ _ _ _) rfl _ _ rfl rfl rfl rfl ?_; intro w6 hb6 ho6 hk6))
          go_roundw
          case rel => exact ⟨k + 1, na, nb, nc, nd, by omega, by apply congrArg (Value.int .i64); omega, HB.out.trans (hb6.mono hwb), HX.out.belowB hb6 hbxp, hk6, by rw [HL.out, HS.out]; exact JJ.out.1, by rw [HL.out, HS.out]; exact JJ.out.2.1, by rw [HL.out, HS.out]; exact JJ.out.2.2.1, by rw [HL.out, HS.out]; exact JJ.out.2.2.2⟩
          case measure => simp [intOf]; omega
        · have HS : Hid (stepL 1 xm L = (rX3 L.2.2.1 L.2.2.2 L.1 L.2.1, rZ3 L.2.2.1 L.2.2.2 L.1 L.2.1 xm, rX2 L.2.2.1 L.2.2.2, rZ2 L.2.2.1 L.2.2.2)) := if_pos rfl
          have R0 := hide (HP.out.range 0 _ (f40 _ _ _ _))
          have R1 := hide (HP.out.range 17 _ (f41 _ _ _ _))
          have R2 := hide (HP.out.range 34 _ (f42 _ _ _ _))
          have R3 := hide (HP.out.range 51 _ (f43 _ _ _ _))
          go_wp2_with (first | (refine wpList_ldQ rfl _ rfl _ _ rfl (by first | with_reducible exact R2.out | with_reducible exact R3.out | with_reducible exact R0.out | with_reducible exact R1.out | with_reducible exact HX.out) Tryd.underlying142 rfl (infoN _) ?_) | (refine wpList_buildP rfl rfl gc gd ga gb rfl rfl rfl rfl ?_))
          refine (rungR gc gd ga gb fx _ _ _ _ xm Ic.out Id.out Ia.out Ib.out Ix.out _).mono ?_
          rintro e w5 ⟨na, nb, nc, nd, rfl, ja, jb, jc, jd, hb5⟩
          replace HB := hide (HB.out.trans (hb5.mono HB.out.size))
          replace HX := hide (HX.out.below hb5)
          replace HP := hide (HP.out.below hb5 HP.out.lt)
          clear hb5 R0 R1 R2 R3
          have JJ : Hid (Is15 na _ ∧ Is15 nb _ ∧ Is15 nc _ ∧ Is15 nd _) := ⟨ja, jb, jc, jd⟩
          clear ja jb jc jd
          go_wp2_with (first | (refine wpList_stB hk6 (infoP nc nd na nb) (lenP4 _ _ _ _ _ _ _ _) rfl _ _ rfl rfl rfl rfl ?_; intro w7 hb7 ho7 hk7) | (refine wpList_stB HP.out (infoP na nb nc nd) (lenP4 _ _ _ _ _ _ _ _) rfl _ _ rfl rfl rfl rfl ?_; intro w6 hb6 ho6 hk6) | (refine wpList_ldQ rfl _ rfl _ _ rfl (by first | with_reducible exact hk6.range 34 _ (f42 _ _ _ _) | with_reducible exact hk6.range 51 _ (f43 _ _ _ _) | with_reducible exact hk6.range 0 _ (f40 _ _ _ _) | with_reducible exact hk6.range 17 _ (f41 _ _ _ _)) Tryd.underlying142 rfl (infoN _) ?_) | (refine wpList_buildP rfl rfl nc nd na nb rfl rfl rfl rfl ?_))
          go_roundw
          case rel => exact ⟨k + 1, nc, nd, na, nb, by omega, by apply congrArg (Value.int .i64); omega, (HB.out.trans (hb6.mono hwb)).trans (hb7.mono hwb), (HX.out.belowB hb6 hbxp).belowB hb7 hbxp, hk7, by rw [HL.out, HS.out]; exact JJ.out.2.2.1, by rw [HL.out, HS.out]; exact JJ.out.2.2.2, by rw [HL.out, HS.out]; exact JJ.out.1, by rw [HL.out, HS.out]; exact JJ.out.2.1⟩
          case measure => simp [intOf]; omega
      · have h255 : k = 255 := by omega
        subst h255
        generalize ladTo (cbit s) xm 255 = L at *
        have R0 := hide (HP.out.range 0 _ (f40 _ _ _ _))
        have R1 := hide (HP.out.range 17 _ (f41 _ _ _ _))
        go_wp2_with (first | (refine wpList_ldQ rfl _ rfl _ _ rfl (by first | with_reducible exact R1.out) Tryd.underlying142 rfl (infoN _) ?_))
        refine (inverseR gb _ Ib.out _).mono ?_
        rintro e w5 ⟨fz, rfl, iz, hb5⟩
        replace HB := hide (HB.out.trans (hb5.mono HB.out.size))
        replace R0 := hide (R0.out.below hb5)
        have Iz := hide iz
        clear hb5 R1 iz HP HX
        go_wp2_with (first | (refine wpList_stNew rfl _ _ rfl rfl rfl rfl rfl (infoN fz) (z17n _) ?_; intro w6 bel hz) | (refine wpList_ldQ rfl _ rfl _ _ rfl (by first | with_reducible exact hz.rng | with_reducible exact R0.out.below bel) Tryd.underlying142 rfl (infoN _) ?_))
        replace HB := hide (HB.out.trans (bel.mono HB.out.size))
        clear bel hz R0
        refine (timesI Ia.out Iz.out _).mono ?_
        rintro e w7 ⟨ft, rfl, it, hb7⟩
        replace HB := hide (HB.out.trans (hb7.mono HB.out.size))
        have It := hide it
        clear hb7 it
        go_wp2_with fail
        refine (packedR ft It.out.1 _).mono ?_
        rintro e w8 ⟨rfl, hb8⟩
        replace HB := hide (HB.out.trans (hb8.mono HB.out.size))
        clear hb8
        rw [It.out.2, ← HRES.out]
        go_wp2
        go_ret
        exact ⟨rfl, HB.out⟩
end Go.Proofs.YtlchpbnpmgfaoaaDoor
