/-
  The document's rung.
-/
import Derived.Test.YtgjdogkciklgkaaDoorPi
import Derived.Test.YtgjdogkciklgkaaDoorFs
import Derived.Test.YtgjdogkciklgkaaDoorRd
namespace Go.Proofs.YtgjdogkciklgkaaDoor
open Go.RowKit

def four4 (a b c d : Nat → Nat) : List Nat := tab 17 a ++ (tab 17 b ++ (tab 17 c ++ tab 17 d))
theorem f40 (a b c d : Nat → Nat) : ((four4 a b c d).drop 0).take (tab 17 a).length = tab 17 a := by unfold four4; rw [List.drop_zero, List.take_left]
theorem f41 (a b c d : Nat → Nat) : ((four4 a b c d).drop 17).take (tab 17 b).length = tab 17 b := by unfold four4; rw [List.drop_left' (tab_length 17 a), List.take_left]
theorem f42 (a b c d : Nat → Nat) : ((four4 a b c d).drop 34).take (tab 17 c).length = tab 17 c := by
  unfold four4
  rw [← List.append_assoc, List.drop_left' (by rw [List.length_append, tab_length, tab_length]), List.take_left]
theorem f43 (a b c d : Nat → Nat) : ((four4 a b c d).drop 51).take (tab 17 d).length = tab 17 d := by
  unfold four4
  rw [← List.append_assoc, ← List.append_assoc, List.drop_left' (by rw [List.length_append, List.length_append, tab_length, tab_length, tab_length]), List.take_of_length_le (Nat.le_refl _)]
theorem z17n (h : Nat → Nat) : (#[Value.int .i64 0, .int .i64 0, .int .i64 0, .int .i64 0, .int .i64 0, .int .i64 0, .int .i64 0, .int .i64 0, .int .i64 0, .int .i64 0, .int .i64 0, .int .i64 0, .int .i64 0, .int .i64 0, .int .i64 0, .int .i64 0, .int .i64 0] : Array Value).size = (tab 17 h).length := by rw [tab_length]; rfl
theorem zP : Tryd.zeroCells147 = rowK .i64 (tab 68 zer17) := by kernel_rfl

theorem enterPlus (xs : Array Value) (w : World) : (callFunc 121 xs).run Tryd.prog w = .ok (.enter 121 xs) w := by kernel_rfl
theorem enterTimes (xs : Array Value) (w : World) : (callFunc 113 xs).run Tryd.prog w = .ok (.enter 113 xs) w := by kernel_rfl
theorem enterNumber (xs : Array Value) (w : World) : (callFunc 108 xs).run Tryd.prog w = .ok (.enter 108 xs) w := by kernel_rfl
theorem allocN (w : World) : (Instr.alloc 143 true (.tuple #[])).run Tryd.prog w = .ok (.pointer (some ⟨w.heap.size, 0, none⟩)) (w.alloc (.cells (rowK .i64 (tab 17 zer17)) 143)) := by kernel_rfl
def V17 (v : Value) (m : Nat) : Prop := ∃ f, v = .agg (rowK .i64 (tab 17 f)) ∧ Is15 f m
theorem numberI {n : Nat} (hn : n < 1073741824) (w : World) : Calls Tryd.prog 108 #[.int .i64 n] w fun e w' => ∃ v, e = .returned v ∧ V17 v n ∧ Bel w.heap.size w w' :=
  (numberR n hn w).mono fun _ _ ⟨he, hb⟩ => ⟨_, he, ⟨_, rfl, num15_is hn⟩, hb⟩
theorem timesV {a b : Value} {x y : Nat} (ha : V17 a x) (hb : V17 b y) (w : World) : Calls Tryd.prog 113 #[a, b] w fun e w' => ∃ v, e = .returned v ∧ V17 v (mulM x y) ∧ Bel w.heap.size w w' := by
  obtain ⟨f, rfl, hf⟩ := ha
  obtain ⟨g, rfl, hg⟩ := hb
  exact (timesI hf hg w).mono fun _ _ ⟨h, he, hi, hb⟩ => ⟨_, he, ⟨h, rfl, hi⟩, hb⟩
theorem plusV {a b : Value} {x y : Nat} (ha : V17 a x) (hb : V17 b y) (w : World) : Calls Tryd.prog 121 #[a, b] w fun e w' => ∃ v, e = .returned v ∧ V17 v (addM x y) ∧ Bel w.heap.size w w' := by
  obtain ⟨f, rfl, hf⟩ := ha
  obtain ⟨g, rfl, hg⟩ := hb
  exact (plusI hf hg w).mono fun _ _ ⟨h, he, hi, hb⟩ => ⟨_, he, ⟨h, rfl, hi⟩, hb⟩
/-- The head of 'k := plus(aa, times(number(121665), e))'. -/
def P13 (B0 m0 m1 m2 m3 m4 : Nat) : Nat → Value → World → Prop
  | 0, v, _ => V17 v m0
  | 1, v, _ => V17 v m1
  | 2, v, _ => V17 v m2
  | 3, v, _ => V17 v m3
  | 4, v, _ => V17 v m4
  | 5, v, w => ∃ b, v = .pointer (some ⟨b, 0, none⟩) ∧ B0 ≤ b ∧ Blk w b 143 .i64 (tab 17 zer17)
  | _, _, _ => True
theorem P13_stable (B0 m0 m1 m2 m3 m4 : Nat) (i : Nat) (v : Value) (w w' : World) (h : P13 B0 m0 m1 m2 m3 m4 i v w) (hb : Bel w.heap.size w w') : P13 B0 m0 m1 m2 m3 m4 i v w' := by
  match i, h with
  | 0, h => exact h
  | 1, h => exact h
  | 2, h => exact h
  | 3, h => exact h
  | 4, h => exact h
  | 5, ⟨b, h1, h2, h3⟩ => exact ⟨b, h1, h2, h3.below hb h3.lt⟩
  | _ + 6, _ => exact trivial
def P14 (m0 m1 m2 m3 m4 m5 m6 m7 m8 m9 m10 m11 : Nat) : Nat → Value → World → Prop
  | 0, v, _ => V17 v m0
  | 1, v, _ => V17 v m1
  | 2, v, _ => V17 v m2
  | 3, v, _ => V17 v m3
  | 4, v, _ => V17 v m4
  | 5, v, _ => V17 v m5
  | 6, v, _ => V17 v m6
  | 7, v, _ => V17 v m7
  | 8, v, _ => V17 v m8
  | 9, v, _ => V17 v m9
  | 10, v, _ => V17 v m10
  | 11, v, _ => V17 v m11
  | _, _, _ => True
theorem P14_stable (m0 m1 m2 m3 m4 m5 m6 m7 m8 m9 m10 m11 : Nat) (i : Nat) (v : Value) (w w' : World) (h : P14 m0 m1 m2 m3 m4 m5 m6 m7 m8 m9 m10 m11 i v w) (_ : Bel w.heap.size w w') : P14 m0 m1 m2 m3 m4 m5 m6 m7 m8 m9 m10 m11 i v w' := by
  match i, h with
  | 0, h => exact h
  | 1, h => exact h
  | 2, h => exact h
  | 3, h => exact h
  | 4, h => exact h
  | 5, h => exact h
  | 6, h => exact h
  | 7, h => exact h
  | 8, h => exact h
  | 9, h => exact h
  | 10, h => exact h
  | 11, h => exact h
  | _ + 12, _ => exact trivial
theorem buildP (a b c d : Nat → Nat) (w : World) : (Instr.build 147 #[(0, .agg (rowK .i64 (tab 17 a))), (1, .agg (rowK .i64 (tab 17 b))), (2, .agg (rowK .i64 (tab 17 c))), (3, .agg (rowK .i64 (tab 17 d)))]).run Tryd.prog w = .ok (.agg (rowK .i64 (four4 a b c d))) w :=
  run_build w _ _ _ (by kernel_rfl)
theorem wpList_buildP {w : World} {ops : Array Oper} {rest : List Oper} {o : Oper} {a : Act} {Q : Exit → Act → World → Prop} {x y z u : Operand} (hgd : o.guard = none) (ho : o.op = .build 147 #[(0, x), (1, y), (2, z), (3, u)]) (f1 f2 f3 f4 : Nat → Nat)
    (hx : a.eval x = .agg (rowK .i64 (tab 17 f1))) (hy : a.eval y = .agg (rowK .i64 (tab 17 f2))) (hz : a.eval z = .agg (rowK .i64 (tab 17 f3))) (hu : a.eval u = .agg (rowK .i64 (tab 17 f4)))
    (h : wpList Tryd.prog ops Q rest (a.put o.dst (.agg (rowK .i64 (four4 f1 f2 f3 f4)))) w) : wpList Tryd.prog ops Q (o :: rest) a w := by
  refine wpList_plain hgd fun K hK => ?_
  have e : (execOp a.eval o).run Tryd.prog w = .ok (.value (.agg (rowK .i64 (four4 f1 f2 f3 f4)))) w := by
    simp [execOp, ho, hx, hy, hz, hu, buildP]
  unfold Oper.wp
  rw [e]
  exact hK _ _ h
theorem infoP (a b c d : Nat → Nat) : (Tryd.prog.info? 147).map (·.size) = some (four4 a b c d).length := by
  have h1 : (four4 a b c d).length = 68 := by unfold four4; simp only [List.length_append, tab_length]
  have h2 : (Tryd.prog.info? 147).map (·.size) = some 68 := by kernel_rfl
  rw [h1]; exact h2
theorem lenP (a b c d : Nat → Nat) : (tab 68 zer17).length = (four4 a b c d).length := by
  have : (four4 a b c d).length = 68 := by unfold four4; simp only [List.length_append, tab_length]
  rw [this, tab_length]
theorem retP {fn : Func} {p : Tmp} (h : fn.results = #[.cell p 147]) (tmps : Array Value) (w : World) (b : Nat) (x y z u : Nat → Nat) (hp : tmps.getD p undef = .pointer (some ⟨b, 0, none⟩)) (hB : Blk w b 147 .i64 (four4 x y z u)) :
    (results fn tmps).run Tryd.prog w = .ok (.agg (rowK .i64 (four4 x y z u))) w :=
  results_cell_row (P := Tryd.prog) h tmps w b 147 (rowK .i64 (four4 x y z u)) (0, 0) _ hp hB Tryd.underlying147 rfl (by rw [rowK_size]; exact infoP x y z u)
/-- A rung: what comes out, modulo the prime. -/
def rX2 (x2 z2 : Nat) : Nat := mulM (mulM (addM x2 z2) (addM x2 z2)) (mulM (subM x2 z2) (subM x2 z2))
def rE (x2 z2 : Nat) : Nat := subM (mulM (addM x2 z2) (addM x2 z2)) (mulM (subM x2 z2) (subM x2 z2))
def rZ2 (x2 z2 : Nat) : Nat := mulM (rE x2 z2) (addM (mulM (addM x2 z2) (addM x2 z2)) (mulM 121665 (rE x2 z2)))
def rDA (x2 z2 x3 z3 : Nat) : Nat := mulM (subM x3 z3) (addM x2 z2)
def rCB (x2 z2 x3 z3 : Nat) : Nat := mulM (addM x3 z3) (subM x2 z2)
def rX3 (x2 z2 x3 z3 : Nat) : Nat := mulM (addM (rDA x2 z2 x3 z3) (rCB x2 z2 x3 z3)) (addM (rDA x2 z2 x3 z3) (rCB x2 z2 x3 z3))
def rZ3 (x2 z2 x3 z3 x : Nat) : Nat := mulM x (mulM (subM (rDA x2 z2 x3 z3) (rCB x2 z2 x3 z3)) (subM (rDA x2 z2 x3 z3) (rCB x2 z2 x3 z3)))

set_option maxRecDepth 100000 in
set_option maxHeartbeats 4000000 in
theorem rungR (fX2 fZ2 fX3 fZ3 fx : Nat → Nat) (x2 z2 x3 z3 x : Nat) (h1 : Is15 fX2 x2) (h2 : Is15 fZ2 z2) (h3 : Is15 fX3 x3) (h4 : Is15 fZ3 z3) (h5 : Is15 fx x) (w : World) :
    Calls Tryd.prog 110 #[.agg (rowK .i64 (four4 fX2 fZ2 fX3 fZ3)), .agg (rowK .i64 (tab 17 fx))] w fun e w' => ∃ a b c d, e = .returned (.agg (rowK .i64 (four4 a b c d))) ∧ Is15 a (rX2 x2 z2) ∧ Is15 b (rZ2 x2 z2) ∧ Is15 c (rX3 x2 z2 x3 z3) ∧ Is15 d (rZ3 x2 z2 x3 z3 x) ∧ Bel w.heap.size w w' := by
  have IX2 := hide h1
  have IZ2 := hide h2
  have IX3 := hide h3
  have IZ3 := hide h4
  have Ix := hide h5
  clear h1 h2 h3 h4 h5
  have HP : Hid (Blk (((w.alloc (.cells (rowK .i64 (four4 fX2 fZ2 fX3 fZ3)) 147)).alloc (.cells (rowK .i64 (tab 17 fx)) 143)).alloc (.cells Tryd.zeroCells147 147)) w.heap.size 147 .i64 (four4 fX2 fZ2 fX3 fZ3)) := ((Blk.new w _ _ _).alloc _).alloc _
  have HP0 := hide (HP.out.range 0 _ (f40 _ _ _ _))
  have HP1 := hide (HP.out.range 17 _ (f41 _ _ _ _))
  have HP2 := hide (HP.out.range 34 _ (f42 _ _ _ _))
  have HP3 := hide (HP.out.range 51 _ (f43 _ _ _ _))
  have Hx : Hid (Rng (((w.alloc (.cells (rowK .i64 (four4 fX2 fZ2 fX3 fZ3)) 147)).alloc (.cells (rowK .i64 (tab 17 fx)) 143)).alloc (.cells Tryd.zeroCells147 147)) (w.heap.size + 1) 0 .i64 (tab 17 fx)) := ((Blk.new2 w _ _ _ _).alloc _).rng
  have HB : Hid (Bel w.heap.size w (((w.alloc (.cells (rowK .i64 (four4 fX2 fZ2 fX3 fZ3)) 147)).alloc (.cells (rowK .i64 (tab 17 fx)) 143)).alloc (.cells Tryd.zeroCells147 147))) := (((Bel.refl _ _).alloc (Nat.le_refl _) _).alloc (by simp) _).alloc (by simp <;> omega) _
  have HR : Hid (Blk (((w.alloc (.cells (rowK .i64 (four4 fX2 fZ2 fX3 fZ3)) 147)).alloc (.cells (rowK .i64 (tab 17 fx)) 143)).alloc (.cells Tryd.zeroCells147 147)) (w.heap.size + 2) 147 .i64 (tab 68 zer17)) := by rw [zP]; exact blkAt _ _ _ _ _ (by simp)
  clear HP
  go_enter Tryd.func110, Tryd.ntmps110
  go_wp2_with (first | (refine wpList_ldQ rfl _ rfl _ _ rfl (by first | with_reducible exact HP0.out | with_reducible exact HP1.out) Tryd.underlying143 rfl (infoN _) ?_))
  generalize (((w.alloc (.cells (rowK .i64 (four4 fX2 fZ2 fX3 fZ3)) 147)).alloc (.cells (rowK .i64 (tab 17 fx)) 143)).alloc (.cells Tryd.zeroCells147 147)) = w1 at *
  refine (plusI IX2.out IZ2.out _).mono ?_
  rintro e w2 ⟨fa, rfl, ia, bel⟩
  have Ia := hide ia
  replace HP0 := hide (HP0.out.below bel)
  replace HP1 := hide (HP1.out.below bel)
  replace HP2 := hide (HP2.out.below bel)
  replace HP3 := hide (HP3.out.below bel)
  replace Hx := hide (Hx.out.below bel)
  replace HR := hide (HR.out.below bel HR.out.lt)
  replace HB := hide (HB.out.trans (bel.mono HB.out.size))
  clear bel ia
  go_wp2_with (first | (refine wpList_stNew rfl _ _ rfl rfl rfl rfl rfl (infoN fa) (z17n _) ?_; intro w3 bel ha) | (refine wpList_ldQ rfl _ rfl _ _ rfl (by first | with_reducible exact HP0.out.below bel | with_reducible exact HP1.out.below bel) Tryd.underlying143 rfl (infoN _) ?_))
  replace HP0 := hide (HP0.out.below bel)
  replace HP1 := hide (HP1.out.below bel)
  replace HP2 := hide (HP2.out.below bel)
  replace HP3 := hide (HP3.out.below bel)
  replace Hx := hide (Hx.out.below bel)
  replace HR := hide (HR.out.below bel HR.out.lt)
  replace HB := hide (HB.out.trans (bel.mono HB.out.size))
  have Ha := hide ha.rng
  clear bel ha
  generalize w2.heap.size = ba at *
  refine (lessI IX2.out IZ2.out _).mono ?_
  rintro e w4 ⟨fb, rfl, ib, bel⟩
  have Ib := hide ib
  replace HP0 := hide (HP0.out.below bel)
  replace HP1 := hide (HP1.out.below bel)
  replace HP2 := hide (HP2.out.below bel)
  replace HP3 := hide (HP3.out.below bel)
  replace Hx := hide (Hx.out.below bel)
  replace HR := hide (HR.out.below bel HR.out.lt)
  replace Ha := hide (Ha.out.below bel)
  replace HB := hide (HB.out.trans (bel.mono HB.out.size))
  clear bel ib
  clear HP0
  clear HP1
  go_wp2_with (first | (refine wpList_stNew rfl _ _ rfl rfl rfl rfl rfl (infoN fb) (z17n _) ?_; intro w5 bel hb) | (refine wpList_ldQ rfl _ rfl _ _ rfl (by first | with_reducible exact Ha.out.below bel) Tryd.underlying143 rfl (infoN _) ?_))
  replace HP2 := hide (HP2.out.below bel)
  replace HP3 := hide (HP3.out.below bel)
  replace Hx := hide (Hx.out.below bel)
  replace HR := hide (HR.out.below bel HR.out.lt)
  replace Ha := hide (Ha.out.below bel)
  replace HB := hide (HB.out.trans (bel.mono HB.out.size))
  have Hb := hide hb.rng
  clear bel hb
  generalize w4.heap.size = bb at *
  refine (timesI Ia.out Ia.out _).mono ?_
  rintro e w6 ⟨faa, rfl, iaa, bel⟩
  have Iaa := hide iaa
  replace HP2 := hide (HP2.out.below bel)
  replace HP3 := hide (HP3.out.below bel)
  replace Hx := hide (Hx.out.below bel)
  replace HR := hide (HR.out.below bel HR.out.lt)
  replace Ha := hide (Ha.out.below bel)
  replace Hb := hide (Hb.out.below bel)
  replace HB := hide (HB.out.trans (bel.mono HB.out.size))
  clear bel iaa
  go_wp2_with (first | (refine wpList_stNew rfl _ _ rfl rfl rfl rfl rfl (infoN faa) (z17n _) ?_; intro w7 bel haa) | (refine wpList_ldQ rfl _ rfl _ _ rfl (by first | with_reducible exact Hb.out.below bel) Tryd.underlying143 rfl (infoN _) ?_))
  replace HP2 := hide (HP2.out.below bel)
  replace HP3 := hide (HP3.out.below bel)
  replace Hx := hide (Hx.out.below bel)
  replace HR := hide (HR.out.below bel HR.out.lt)
  replace Ha := hide (Ha.out.below bel)
  replace Hb := hide (Hb.out.below bel)
  replace HB := hide (HB.out.trans (bel.mono HB.out.size))
  have Haa := hide haa.rng
  clear bel haa
  generalize w6.heap.size = baa at *
  refine (timesI Ib.out Ib.out _).mono ?_
  rintro e w8 ⟨fbb, rfl, ibb, bel⟩
  have Ibb := hide ibb
  replace HP2 := hide (HP2.out.below bel)
  replace HP3 := hide (HP3.out.below bel)
  replace Hx := hide (Hx.out.below bel)
  replace HR := hide (HR.out.below bel HR.out.lt)
  replace Ha := hide (Ha.out.below bel)
  replace Hb := hide (Hb.out.below bel)
  replace Haa := hide (Haa.out.below bel)
  replace HB := hide (HB.out.trans (bel.mono HB.out.size))
  clear bel ibb
  go_wp2_with (first | (refine wpList_stNew rfl _ _ rfl rfl rfl rfl rfl (infoN fbb) (z17n _) ?_; intro w9 bel hbb) | (refine wpList_ldQ rfl _ rfl _ _ rfl (by first | with_reducible exact Haa.out.below bel | with_reducible exact hbb.rng) Tryd.underlying143 rfl (infoN _) ?_))
  replace HP2 := hide (HP2.out.below bel)
  replace HP3 := hide (HP3.out.below bel)
  replace Hx := hide (Hx.out.below bel)
  replace HR := hide (HR.out.below bel HR.out.lt)
  replace Ha := hide (Ha.out.below bel)
  replace Hb := hide (Hb.out.below bel)
  replace Haa := hide (Haa.out.below bel)
  replace HB := hide (HB.out.trans (bel.mono HB.out.size))
  have Hbb := hide hbb.rng
  clear bel hbb
  generalize w8.heap.size = bbb at *
  refine (lessI Iaa.out Ibb.out _).mono ?_
  rintro e w10 ⟨fe, rfl, ie, bel⟩
  have Ie := hide ie
  replace HP2 := hide (HP2.out.below bel)
  replace HP3 := hide (HP3.out.below bel)
  replace Hx := hide (Hx.out.below bel)
  replace HR := hide (HR.out.below bel HR.out.lt)
  replace Ha := hide (Ha.out.below bel)
  replace Hb := hide (Hb.out.below bel)
  replace Haa := hide (Haa.out.below bel)
  replace Hbb := hide (Hbb.out.below bel)
  replace HB := hide (HB.out.trans (bel.mono HB.out.size))
  clear bel ie
  go_wp2_with (first | (refine wpList_stNew rfl _ _ rfl rfl rfl rfl rfl (infoN fe) (z17n _) ?_; intro w11 bel he) | (refine wpList_ldQ rfl _ rfl _ _ rfl (by first | with_reducible exact HP2.out.below bel | with_reducible exact HP3.out.below bel) Tryd.underlying143 rfl (infoN _) ?_))
  replace HP2 := hide (HP2.out.below bel)
  replace HP3 := hide (HP3.out.below bel)
  replace Hx := hide (Hx.out.below bel)
  replace HR := hide (HR.out.below bel HR.out.lt)
  replace Ha := hide (Ha.out.below bel)
  replace Hb := hide (Hb.out.below bel)
  replace Haa := hide (Haa.out.below bel)
  replace Hbb := hide (Hbb.out.below bel)
  replace HB := hide (HB.out.trans (bel.mono HB.out.size))
  have He := hide he.rng
  clear bel he
  generalize w10.heap.size = be at *
  refine (plusI IX3.out IZ3.out _).mono ?_
  rintro e w12 ⟨fc, rfl, ic, bel⟩
  have Ic := hide ic
  replace HP2 := hide (HP2.out.below bel)
  replace HP3 := hide (HP3.out.below bel)
  replace Hx := hide (Hx.out.below bel)
  replace HR := hide (HR.out.below bel HR.out.lt)
  replace Ha := hide (Ha.out.below bel)
  replace Hb := hide (Hb.out.below bel)
  replace Haa := hide (Haa.out.below bel)
  replace Hbb := hide (Hbb.out.below bel)
  replace He := hide (He.out.below bel)
  replace HB := hide (HB.out.trans (bel.mono HB.out.size))
  clear bel ic
  go_wp2_with (first | (refine wpList_stNew rfl _ _ rfl rfl rfl rfl rfl (infoN fc) (z17n _) ?_; intro w13 bel hc) | (refine wpList_ldQ rfl _ rfl _ _ rfl (by first | with_reducible exact HP2.out.below bel | with_reducible exact HP3.out.below bel) Tryd.underlying143 rfl (infoN _) ?_))
  replace HP2 := hide (HP2.out.below bel)
  replace HP3 := hide (HP3.out.below bel)
  replace Hx := hide (Hx.out.below bel)
  replace HR := hide (HR.out.below bel HR.out.lt)
  replace Ha := hide (Ha.out.below bel)
  replace Hb := hide (Hb.out.below bel)
  replace Haa := hide (Haa.out.below bel)
  replace Hbb := hide (Hbb.out.below bel)
  replace He := hide (He.out.below bel)
  replace HB := hide (HB.out.trans (bel.mono HB.out.size))
  have Hc := hide hc.rng
  clear bel hc
  generalize w12.heap.size = bc at *
  refine (lessI IX3.out IZ3.out _).mono ?_
  rintro e w14 ⟨fd, rfl, id, bel⟩
  have Id := hide id
  replace HP2 := hide (HP2.out.below bel)
  replace HP3 := hide (HP3.out.below bel)
  replace Hx := hide (Hx.out.below bel)
  replace HR := hide (HR.out.below bel HR.out.lt)
  replace Ha := hide (Ha.out.below bel)
  replace Hb := hide (Hb.out.below bel)
  replace Haa := hide (Haa.out.below bel)
  replace Hbb := hide (Hbb.out.below bel)
  replace He := hide (He.out.below bel)
  replace Hc := hide (Hc.out.below bel)
  replace HB := hide (HB.out.trans (bel.mono HB.out.size))
  clear bel id
  clear HP2
  clear HP3
  go_wp2_with (first | (refine wpList_stNew rfl _ _ rfl rfl rfl rfl rfl (infoN fd) (z17n _) ?_; intro w15 bel hd) | (refine wpList_ldQ rfl _ rfl _ _ rfl (by first | with_reducible exact hd.rng | with_reducible exact Ha.out.below bel) Tryd.underlying143 rfl (infoN _) ?_))
  replace Hx := hide (Hx.out.below bel)
  replace HR := hide (HR.out.below bel HR.out.lt)
  replace Ha := hide (Ha.out.below bel)
  replace Hb := hide (Hb.out.below bel)
  replace Haa := hide (Haa.out.below bel)
  replace Hbb := hide (Hbb.out.below bel)
  replace He := hide (He.out.below bel)
  replace Hc := hide (Hc.out.below bel)
  replace HB := hide (HB.out.trans (bel.mono HB.out.size))
  have Hd := hide hd.rng
  clear bel hd
  generalize w14.heap.size = bd at *
  refine (timesI Id.out Ia.out _).mono ?_
  rintro e w16 ⟨fda, rfl, ida, bel⟩
  have Ida := hide ida
  replace Hx := hide (Hx.out.below bel)
  replace HR := hide (HR.out.below bel HR.out.lt)
  replace Ha := hide (Ha.out.below bel)
  replace Hb := hide (Hb.out.below bel)
  replace Haa := hide (Haa.out.below bel)
  replace Hbb := hide (Hbb.out.below bel)
  replace He := hide (He.out.below bel)
  replace Hc := hide (Hc.out.below bel)
  replace Hd := hide (Hd.out.below bel)
  replace HB := hide (HB.out.trans (bel.mono HB.out.size))
  clear bel ida
  clear Ha
  clear Hd
  go_wp2_with (first | (refine wpList_stNew rfl _ _ rfl rfl rfl rfl rfl (infoN fda) (z17n _) ?_; intro w17 bel hda) | (refine wpList_ldQ rfl _ rfl _ _ rfl (by first | with_reducible exact Hc.out.below bel | with_reducible exact Hb.out.below bel) Tryd.underlying143 rfl (infoN _) ?_))
  replace Hx := hide (Hx.out.below bel)
  replace HR := hide (HR.out.below bel HR.out.lt)
  replace Hb := hide (Hb.out.below bel)
  replace Haa := hide (Haa.out.below bel)
  replace Hbb := hide (Hbb.out.below bel)
  replace He := hide (He.out.below bel)
  replace Hc := hide (Hc.out.below bel)
  replace HB := hide (HB.out.trans (bel.mono HB.out.size))
  have Hda := hide hda.rng
  clear bel hda
  generalize w16.heap.size = bda at *
  refine (timesI Ic.out Ib.out _).mono ?_
  rintro e w18 ⟨fcb, rfl, icb, bel⟩
  have Icb := hide icb
  replace Hx := hide (Hx.out.below bel)
  replace HR := hide (HR.out.below bel HR.out.lt)
  replace Hb := hide (Hb.out.below bel)
  replace Haa := hide (Haa.out.below bel)
  replace Hbb := hide (Hbb.out.below bel)
  replace He := hide (He.out.below bel)
  replace Hc := hide (Hc.out.below bel)
  replace Hda := hide (Hda.out.below bel)
  replace HB := hide (HB.out.trans (bel.mono HB.out.size))
  clear bel icb
  clear Hb
  clear Hc
  go_wp2_with (first | (refine wpList_stNew rfl _ _ rfl rfl rfl rfl rfl (infoN fcb) (z17n _) ?_; intro w19 bel hcb) | (refine wpList_ldQ rfl _ rfl _ _ rfl (by first | with_reducible exact Hda.out.below bel | with_reducible exact hcb.rng) Tryd.underlying143 rfl (infoN _) ?_))
  replace Hx := hide (Hx.out.below bel)
  replace HR := hide (HR.out.below bel HR.out.lt)
  replace Haa := hide (Haa.out.below bel)
  replace Hbb := hide (Hbb.out.below bel)
  replace He := hide (He.out.below bel)
  replace Hda := hide (Hda.out.below bel)
  replace HB := hide (HB.out.trans (bel.mono HB.out.size))
  have Hcb := hide hcb.rng
  clear bel hcb
  generalize w18.heap.size = bcb at *
  refine (plusI Ida.out Icb.out _).mono ?_
  rintro e w20 ⟨fs, rfl, is, bel⟩
  have Is := hide is
  replace Hx := hide (Hx.out.below bel)
  replace HR := hide (HR.out.below bel HR.out.lt)
  replace Haa := hide (Haa.out.below bel)
  replace Hbb := hide (Hbb.out.below bel)
  replace He := hide (He.out.below bel)
  replace Hda := hide (Hda.out.below bel)
  replace Hcb := hide (Hcb.out.below bel)
  replace HB := hide (HB.out.trans (bel.mono HB.out.size))
  clear bel is
  go_wp2_with (first | (refine wpList_stNew rfl _ _ rfl rfl rfl rfl rfl (infoN fs) (z17n _) ?_; intro w21 bel hs) | (refine wpList_ldQ rfl _ rfl _ _ rfl (by first | with_reducible exact Hda.out.below bel | with_reducible exact Hcb.out.below bel) Tryd.underlying143 rfl (infoN _) ?_))
  replace Hx := hide (Hx.out.below bel)
  replace HR := hide (HR.out.below bel HR.out.lt)
  replace Haa := hide (Haa.out.below bel)
  replace Hbb := hide (Hbb.out.below bel)
  replace He := hide (He.out.below bel)
  replace Hda := hide (Hda.out.below bel)
  replace Hcb := hide (Hcb.out.below bel)
  replace HB := hide (HB.out.trans (bel.mono HB.out.size))
  have Hs := hide hs.rng
  clear bel hs
  generalize w20.heap.size = bs at *
  refine (lessI Ida.out Icb.out _).mono ?_
  rintro e w22 ⟨ft, rfl, it, bel⟩
  have It := hide it
  replace Hx := hide (Hx.out.below bel)
  replace HR := hide (HR.out.below bel HR.out.lt)
  replace Haa := hide (Haa.out.below bel)
  replace Hbb := hide (Hbb.out.below bel)
  replace He := hide (He.out.below bel)
  replace Hda := hide (Hda.out.below bel)
  replace Hcb := hide (Hcb.out.below bel)
  replace Hs := hide (Hs.out.below bel)
  replace HB := hide (HB.out.trans (bel.mono HB.out.size))
  clear bel it
  clear Hda
  clear Hcb
  go_wp2_with (first | (refine wpList_stNew rfl _ _ rfl rfl rfl rfl rfl (infoN ft) (z17n _) ?_; intro w23 bel ht) | (refine wpList_ldQ rfl _ rfl _ _ rfl (by first | with_reducible exact ht.rng) Tryd.underlying143 rfl (infoN _) ?_))
  replace Hx := hide (Hx.out.below bel)
  replace HR := hide (HR.out.below bel HR.out.lt)
  replace Haa := hide (Haa.out.below bel)
  replace Hbb := hide (Hbb.out.below bel)
  replace He := hide (He.out.below bel)
  replace Hs := hide (Hs.out.below bel)
  replace HB := hide (HB.out.trans (bel.mono HB.out.size))
  have Ht := hide ht.rng
  clear bel ht
  generalize w22.heap.size = bt at *
  refine (timesI It.out It.out _).mono ?_
  rintro e w24 ⟨fu, rfl, iu, bel⟩
  have Iu := hide iu
  replace Hx := hide (Hx.out.below bel)
  replace HR := hide (HR.out.below bel HR.out.lt)
  replace Haa := hide (Haa.out.below bel)
  replace Hbb := hide (Hbb.out.below bel)
  replace He := hide (He.out.below bel)
  replace Hs := hide (Hs.out.below bel)
  replace Ht := hide (Ht.out.below bel)
  replace HB := hide (HB.out.trans (bel.mono HB.out.size))
  clear bel iu
  clear Ht
  go_wp2_with (first | (refine wpList_stNew rfl _ _ rfl rfl rfl rfl rfl (infoN fu) (z17n _) ?_; intro w25 bel hu))
  replace Hx := hide (Hx.out.below bel)
  replace HR := hide (HR.out.below bel HR.out.lt)
  replace Haa := hide (Haa.out.below bel)
  replace Hbb := hide (Hbb.out.below bel)
  replace He := hide (He.out.below bel)
  replace Hs := hide (Hs.out.below bel)
  replace HB := hide (HB.out.trans (bel.mono HB.out.size))
  have Hu := hide hu.rng
  clear bel hu
  generalize w24.heap.size = bu at *
  refine wp_region_phase 6 (P13 w25.heap.size (mulM (addM x2 z2) (addM x2 z2)) 121665 (rE x2 z2) (mulM 121665 (rE x2 z2)) (addM (mulM (addM x2 z2) (addM x2 z2)) (mulM 121665 (rE x2 z2)))) (by kernel_rfl) (by kernel_rfl) (P13_stable _ _ _ _ _ _) ?op13 ?tail13
  case op13 =>
    intro i o d hi ho hd a wv hbel hkeep hdep
    have Raa : Rng wv baa 0 .i64 (tab 17 faa) := Haa.out.drew.below hbel
    have Re : Rng wv be 0 .i64 (tab 17 fe) := He.out.drew.below hbel
    match i, hi with
    | 0, _ =>
      obtain rfl := Option.some.inj ho
      obtain rfl := Option.some.inj hd
      exact op_load rfl _ rfl baa 0 (hkeep 7 (ndB_spec (by kernel_rfl))) Raa Tryd.underlying143 rfl (infoN _) ⟨faa, rfl, Iaa.out⟩
    | 1, _ =>
      obtain rfl := Option.some.inj ho
      obtain rfl := Option.some.inj hd
      exact op_call1 (R := fun v _ => V17 v 121665) rfl rfl rfl enterNumber rfl rfl (numberI (n := 121665) (by decide) wv)
    | 2, _ =>
      obtain rfl := Option.some.inj ho
      obtain rfl := Option.some.inj hd
      exact op_load rfl _ rfl be 0 (hkeep 9 (ndB_spec (by kernel_rfl))) Re Tryd.underlying143 rfl (infoN _) ⟨fe, rfl, Ie.out⟩
    | 3, _ =>
      obtain rfl := Option.some.inj ho
      obtain rfl := Option.some.inj hd
      exact op_call2 (R := fun v _ => V17 v (mulM 121665 (rE x2 z2))) rfl rfl rfl enterTimes rfl rfl rfl (timesV (hdep 1 _ 63 (by decide) rfl rfl (by kernel_rfl)) (hdep 2 _ 64 (by decide) rfl rfl (by kernel_rfl)) wv)
    | 4, _ =>
      obtain rfl := Option.some.inj ho
      obtain rfl := Option.some.inj hd
      exact op_call2 (R := fun v _ => V17 v (addM (mulM (addM x2 z2) (addM x2 z2)) (mulM 121665 (rE x2 z2)))) rfl rfl rfl enterPlus rfl rfl rfl (plusV (hdep 0 _ 62 (by decide) rfl rfl (by kernel_rfl)) (hdep 3 _ 65 (by decide) rfl rfl (by kernel_rfl)) wv)
    | 5, _ =>
      obtain rfl := Option.some.inj ho
      obtain rfl := Option.some.inj hd
      exact op_alloc rfl rfl (allocN wv) ⟨wv.heap.size, rfl, hbel.size, Blk.new _ _ _ _⟩
  case tail13 =>
    intro a wv hj
    have hact := hj.act [62, 63, 64, 65, 66, 17] (by kernel_rfl)
    obtain ⟨f62, e62, _⟩ := hj.post 0 _ 62 (by decide) rfl rfl rfl
    obtain ⟨f63, e63, _⟩ := hj.post 1 _ 63 (by decide) rfl rfl rfl
    obtain ⟨f64, e64, _⟩ := hj.post 2 _ 64 (by decide) rfl rfl rfl
    obtain ⟨f65, e65, _⟩ := hj.post 3 _ 65 (by decide) rfl rfl rfl
    obtain ⟨fk, e66, i66⟩ := hj.post 4 _ 66 (by decide) rfl rfl rfl
    obtain ⟨bk, e17, hbk, hK⟩ := hj.post 5 _ 17 (by decide) rfl rfl rfl
    simp only [List.map_cons, List.map_nil, e62, e63, e64, e65, e66, e17] at hact
    have hjb : Bel w25.heap.size w25 wv := (Bel.refl _ _).drew.trans hj.bel
    clear hj e62 e63 e64 e65 e66 e17
    subst hact
    have Ik := hide i66
    have HKZ := hide hK
    clear i66 hK
    simp only [putL, Act.put, List.setIfInBounds_toArray, List.set_cons_zero, List.set_cons_succ, List.drop_succ_cons, List.drop_zero]
    go_wp2_with (first | (refine wpList_stB HKZ.out (infoN fk) (lenN _ _) rfl _ _ rfl rfl rfl rfl ?_; intro wz hbz hoz hkz))
    have bel : Bel w25.heap.size w25 wz := hjb.trans (hbz.mono hbk)
    replace HR := hide (HR.out.below bel HR.out.lt)
    replace HB := hide (HB.out.trans (bel.mono HB.out.size))
    replace Haa := hide (Haa.out.below bel)
    replace Hbb := hide (Hbb.out.below bel)
    replace He := hide (He.out.below bel)
    replace Hs := hide (Hs.out.below bel)
    replace Hx := hide (Hx.out.below bel)
    replace Hu := hide (Hu.out.below bel)
    have Hk := hide hkz.rng
    clear bel hbz hoz hkz hjb HKZ
    refine wp_region_phase 12 (P14 (mulM (addM x2 z2) (addM x2 z2)) (mulM (subM x2 z2) (subM x2 z2)) (rX2 x2 z2) (rE x2 z2) (addM (mulM (addM x2 z2) (addM x2 z2)) (mulM 121665 (rE x2 z2))) (rZ2 x2 z2) (addM (rDA x2 z2 x3 z3) (rCB x2 z2 x3 z3)) (addM (rDA x2 z2 x3 z3) (rCB x2 z2 x3 z3)) (rX3 x2 z2 x3 z3) x (mulM (subM (rDA x2 z2 x3 z3) (rCB x2 z2 x3 z3)) (subM (rDA x2 z2 x3 z3) (rCB x2 z2 x3 z3))) (rZ3 x2 z2 x3 z3 x)) (by kernel_rfl) (by kernel_rfl) (P14_stable _ _ _ _ _ _ _ _ _ _ _ _) ?op14 ?tail14
    case op14 =>
      intro i o d hi ho hd a wv hbel hkeep hdep
      have Raa : Rng wv baa 0 .i64 (tab 17 faa) := Haa.out.drew.below hbel
      have Rbb : Rng wv bbb 0 .i64 (tab 17 fbb) := Hbb.out.drew.below hbel
      have Re : Rng wv be 0 .i64 (tab 17 fe) := He.out.drew.below hbel
      have Rk : Rng wv bk 0 .i64 (tab 17 fk) := Hk.out.drew.below hbel
      have Rs : Rng wv bs 0 .i64 (tab 17 fs) := Hs.out.drew.below hbel
      have Rx : Rng wv (w.heap.size + 1) 0 .i64 (tab 17 fx) := Hx.out.drew.below hbel
      have Ru : Rng wv bu 0 .i64 (tab 17 fu) := Hu.out.drew.below hbel
      match i, hi with
      | 0, _ =>
        obtain rfl := Option.some.inj ho
        obtain rfl := Option.some.inj hd
        exact op_load rfl _ rfl baa 0 (hkeep 7 (ndB_spec (by kernel_rfl))) Raa Tryd.underlying143 rfl (infoN _) ⟨faa, rfl, Iaa.out⟩
      | 1, _ =>
        obtain rfl := Option.some.inj ho
        obtain rfl := Option.some.inj hd
        exact op_load rfl _ rfl bbb 0 (hkeep 8 (ndB_spec (by kernel_rfl))) Rbb Tryd.underlying143 rfl (infoN _) ⟨fbb, rfl, Ibb.out⟩
      | 2, _ =>
        obtain rfl := Option.some.inj ho
        obtain rfl := Option.some.inj hd
        exact op_call2 (R := fun v _ => V17 v (rX2 x2 z2)) rfl rfl rfl enterTimes rfl rfl rfl (timesV (hdep 0 _ 67 (by decide) rfl rfl (by kernel_rfl)) (hdep 1 _ 68 (by decide) rfl rfl (by kernel_rfl)) wv)
      | 3, _ =>
        obtain rfl := Option.some.inj ho
        obtain rfl := Option.some.inj hd
        exact op_load rfl _ rfl be 0 (hkeep 9 (ndB_spec (by kernel_rfl))) Re Tryd.underlying143 rfl (infoN _) ⟨fe, rfl, Ie.out⟩
      | 4, _ =>
        obtain rfl := Option.some.inj ho
        obtain rfl := Option.some.inj hd
        exact op_load rfl _ rfl bk 0 (hkeep 17 (ndB_spec (by kernel_rfl))) Rk Tryd.underlying143 rfl (infoN _) ⟨fk, rfl, Ik.out⟩
      | 5, _ =>
        obtain rfl := Option.some.inj ho
        obtain rfl := Option.some.inj hd
        exact op_call2 (R := fun v _ => V17 v (rZ2 x2 z2)) rfl rfl rfl enterTimes rfl rfl rfl (timesV (hdep 3 _ 70 (by decide) rfl rfl (by kernel_rfl)) (hdep 4 _ 71 (by decide) rfl rfl (by kernel_rfl)) wv)
      | 6, _ =>
        obtain rfl := Option.some.inj ho
        obtain rfl := Option.some.inj hd
        exact op_load rfl _ rfl bs 0 (hkeep 14 (ndB_spec (by kernel_rfl))) Rs Tryd.underlying143 rfl (infoN _) ⟨fs, rfl, Is.out⟩
      | 7, _ =>
        obtain rfl := Option.some.inj ho
        obtain rfl := Option.some.inj hd
        exact op_load rfl _ rfl bs 0 (hkeep 14 (ndB_spec (by kernel_rfl))) Rs Tryd.underlying143 rfl (infoN _) ⟨fs, rfl, Is.out⟩
      | 8, _ =>
        obtain rfl := Option.some.inj ho
        obtain rfl := Option.some.inj hd
        exact op_call2 (R := fun v _ => V17 v (rX3 x2 z2 x3 z3)) rfl rfl rfl enterTimes rfl rfl rfl (timesV (hdep 6 _ 73 (by decide) rfl rfl (by kernel_rfl)) (hdep 7 _ 74 (by decide) rfl rfl (by kernel_rfl)) wv)
      | 9, _ =>
        obtain rfl := Option.some.inj ho
        obtain rfl := Option.some.inj hd
        exact op_load rfl _ rfl (w.heap.size + 1) 0 (hkeep 3 (ndB_spec (by kernel_rfl))) Rx Tryd.underlying143 rfl (infoN _) ⟨fx, rfl, Ix.out⟩
      | 10, _ =>
        obtain rfl := Option.some.inj ho
        obtain rfl := Option.some.inj hd
        exact op_load rfl _ rfl bu 0 (hkeep 16 (ndB_spec (by kernel_rfl))) Ru Tryd.underlying143 rfl (infoN _) ⟨fu, rfl, Iu.out⟩
      | 11, _ =>
        obtain rfl := Option.some.inj ho
        obtain rfl := Option.some.inj hd
        exact op_call2 (R := fun v _ => V17 v (rZ3 x2 z2 x3 z3 x)) rfl rfl rfl enterTimes rfl rfl rfl (timesV (hdep 9 _ 76 (by decide) rfl rfl (by kernel_rfl)) (hdep 10 _ 77 (by decide) rfl rfl (by kernel_rfl)) wv)
    case tail14 =>
      intro a wv hj
      have hact := hj.act [67, 68, 69, 70, 71, 72, 73, 74, 75, 76, 77, 78] (by kernel_rfl)
      obtain ⟨g67, e67, i67⟩ := hj.post 0 _ 67 (by decide) rfl rfl rfl
      obtain ⟨g68, e68, i68⟩ := hj.post 1 _ 68 (by decide) rfl rfl rfl
      obtain ⟨g69, e69, i69⟩ := hj.post 2 _ 69 (by decide) rfl rfl rfl
      obtain ⟨g70, e70, i70⟩ := hj.post 3 _ 70 (by decide) rfl rfl rfl
      obtain ⟨g71, e71, i71⟩ := hj.post 4 _ 71 (by decide) rfl rfl rfl
      obtain ⟨g72, e72, i72⟩ := hj.post 5 _ 72 (by decide) rfl rfl rfl
      obtain ⟨g73, e73, i73⟩ := hj.post 6 _ 73 (by decide) rfl rfl rfl
      obtain ⟨g74, e74, i74⟩ := hj.post 7 _ 74 (by decide) rfl rfl rfl
      obtain ⟨g75, e75, i75⟩ := hj.post 8 _ 75 (by decide) rfl rfl rfl
      obtain ⟨g76, e76, i76⟩ := hj.post 9 _ 76 (by decide) rfl rfl rfl
      obtain ⟨g77, e77, i77⟩ := hj.post 10 _ 77 (by decide) rfl rfl rfl
      obtain ⟨g78, e78, i78⟩ := hj.post 11 _ 78 (by decide) rfl rfl rfl
      simp only [List.map_cons, List.map_nil, e67, e68, e69, e70, e71, e72, e73, e74, e75, e76, e77, e78] at hact
      have hjb : Bel wz.heap.size wz wv := (Bel.refl _ _).drew.trans hj.bel
      clear hj e67 e68 e69 e70 e71 e72 e73 e74 e75 e76 e77 e78
      subst hact
      replace HR := hide (HR.out.below hjb HR.out.lt)
      replace HB := hide (HB.out.trans (hjb.mono HB.out.size))
      simp only [putL, Act.put, List.setIfInBounds_toArray, List.set_cons_zero, List.set_cons_succ, List.drop_succ_cons, List.drop_zero]
      go_wp2_with (first | (refine wpList_buildP rfl rfl g69 g72 g75 g78 rfl rfl rfl rfl ?_) | (refine wpList_stB HR.out (infoP g69 g72 g75 g78) (lenP _ _ _ _) rfl _ _ rfl rfl rfl rfl ?_; intro wy hby hoy hky))
      refine bodyPost_ret (v := .agg (rowK .i64 (four4 g69 g72 g75 g78))) (retP Tryd.results110 _ _ _ _ _ _ _ rfl hky) rfl ⟨g69, g72, g75, g78, rfl, i69, i72, i75, i78, HB.out.trans (hby.mono (by omega))⟩
end Go.Proofs.YtgjdogkciklgkaaDoor
namespace Go.Proofs.YtgjdogkciklgkaaDoor
open Go.RowKit

/-- Bit i of a secret. -/
def cbit (s : List UInt8) (i : Nat) : Nat := if i < 3 then 0 else if i = 254 then 1 else sbit s i
theorem cbit_lt (s : List UInt8) (i : Nat) : cbit s i < 2 := by
  unfold cbit
  split
  · decide
  · split
    · decide
    · exact sbit_lt s i

set_option maxRecDepth 100000 in
set_option maxHeartbeats 1000000 in
theorem clampedR (s : List UInt8) (hs : s.length = 32) (i : Nat) (hi : i < 255) (w : World) :
    Calls Tryd.prog 109 #[.string (str s), .int .i64 i] w fun e w' => e = .returned (.int .i64 (cbit s i : Nat)) ∧ Bel w.heap.size w w' := by
  by_cases h3 : i < 3
  · have HC : Hid (cbit s i = 0) := if_pos h3
    go_enter Tryd.func109, Tryd.ntmps109
    go_wp2
    go_ret
    refine ⟨?_, Bel.refl _ _⟩
    rw [HC.out]
    rfl
  · by_cases h4 : i = 254
    · subst h4
      have HC : Hid (cbit s 254 = 1) := rfl
      go_enter Tryd.func109, Tryd.ntmps109
      go_wp2
      go_ret
      refine ⟨?_, Bel.refl _ _⟩
      rw [HC.out]
      rfl
    · have HC : Hid (cbit s i = byteAt s (i / 8) / 2 ^ (i % 8) % 2) := by
        show cbit s i = _
        unfold cbit
        rw [if_neg h3, if_neg h4]
        rfl
      have hix := idxL s ((i : Int) / 8) (i / 8) (by omega) (by omega)
      have lx := byteAt_lt s (i / 8)
      generalize byteAt s (i / 8) = x at *
      have ea : bits .and .i64 ((x : Int) / 2 ^ (i % 8)) 1 = ((x / 2 ^ (i % 8) % 2 : Nat) : Int) := by
        rw [shr_cast, and1 _ (Nat.lt_of_le_of_lt (Nat.div_le_self _ _) (by omega))]
      have n255 : ¬ (i : Int) = 255 := by omega
      have n254 : ¬ (i : Int) = 254 := by omega
      have n3 : ¬ (i : Int) < 3 := by omega
      have b255 : ((i : Int) == 255) = false := by rw [beq_eq_false_iff_ne]; omega
      have b254 : ((i : Int) == 254) = false := by rw [beq_eq_false_iff_ne]; omega
      go_enter Tryd.func109, Tryd.ntmps109
      go_wp2
      go_ret
      refine ⟨?_, Bel.refl _ _⟩
      rw [HC.out]
      rfl

theorem clampedI (s : List UInt8) (hs : s.length = 32) (i : Int) (n : Nat) (hi : i = n) (hn : n < 255) (w : World) :
    Calls Tryd.prog 109 #[.string (str s), .int .i64 i] w fun e w' => e = .returned (.int .i64 (cbit s n : Nat)) ∧ Bel w.heap.size w w' := by
  subst hi
  exact clampedR s hs n hn w

/-- The ladder, modulo the prime. -/
def stepL (b x : Nat) (p : Nat × Nat × Nat × Nat) : Nat × Nat × Nat × Nat :=
  if b = 1 then (rX3 p.2.2.1 p.2.2.2 p.1 p.2.1, rZ3 p.2.2.1 p.2.2.2 p.1 p.2.1 x, rX2 p.2.2.1 p.2.2.2, rZ2 p.2.2.1 p.2.2.2)
  else (rX2 p.1 p.2.1, rZ2 p.1 p.2.1, rX3 p.1 p.2.1 p.2.2.1 p.2.2.2, rZ3 p.1 p.2.1 p.2.2.1 p.2.2.2 x)
def ladTo (bit : Nat → Nat) (x : Nat) : Nat → Nat × Nat × Nat × Nat
  | 0 => (1, 0, x, 1)
  | k + 1 => stepL (bit (254 - k)) x (ladTo bit x k)
/-- X25519 of a secret and a point. -/
def x25519 (s q : List UInt8) : List UInt8 := outB (mulM (ladTo (cbit s) (UV q % PR) 255).1 (ivTo (ladTo (cbit s) (UV q % PR) 255).2.1 255))
theorem x25519_length (s q : List UInt8) : (x25519 s q).length = 32 := outB_length _
theorem unp15_is (q : List UInt8) : Is15 (unp15 q) (UV q % PR) := ⟨unp15_ok q, by rw [unp15_val]⟩

theorem allocP (w : World) : (Instr.alloc 147 true (.tuple #[])).run Tryd.prog w = .ok (.pointer (some ⟨w.heap.size, 0, none⟩)) (w.alloc (.cells (rowK .i64 (tab 68 zer17)) 147)) := by kernel_rfl
theorem op_buildP {o : Oper} {a : Act} {w : World} {Q : Exit → Act → World → Prop} {d : Nat} {R : Value → World → Prop} {x y z u : Operand} (hd : o.dst = some d) (ho : o.op = .build 147 #[(0, x), (1, y), (2, z), (3, u)]) (f1 f2 f3 f4 : Nat → Nat)
    (hx : a.eval x = .agg (rowK .i64 (tab 17 f1))) (hy : a.eval y = .agg (rowK .i64 (tab 17 f2))) (hz : a.eval z = .agg (rowK .i64 (tab 17 f3))) (hu : a.eval u = .agg (rowK .i64 (tab 17 f4)))
    (h : R (.agg (rowK .i64 (four4 f1 f2 f3 f4))) w) : o.wp Tryd.prog a w (fun a' w' => ∃ v, a' = a.put (some d) v ∧ R v w' ∧ Bel w.heap.size w w') Q :=
  op_value hd (by simp [execOp, ho, hx, hy, hz, hu, buildP]) h
def Q68 (v : Value) (x2 z2 x3 z3 : Nat) : Prop := ∃ a b c d, v = .agg (rowK .i64 (four4 a b c d)) ∧ Is15 a x2 ∧ Is15 b z2 ∧ Is15 c x3 ∧ Is15 d z3
def PS (B0 x : Nat) : Nat → Value → World → Prop
  | 0, v, _ => V17 v 1
  | 1, v, _ => V17 v 0
  | 2, v, _ => V17 v x
  | 3, v, _ => V17 v 1
  | 4, v, _ => Q68 v 1 0 x 1
  | 5, v, w => ∃ b, v = .pointer (some ⟨b, 0, none⟩) ∧ B0 ≤ b ∧ Blk w b 147 .i64 (tab 68 zer17)
  | _, _, _ => True
theorem PS_stable (B0 x : Nat) (i : Nat) (v : Value) (w w' : World) (h : PS B0 x i v w) (hb : Bel w.heap.size w w') : PS B0 x i v w' := by
  match i, h with
  | 0, h => exact h
  | 1, h => exact h
  | 2, h => exact h
  | 3, h => exact h
  | 4, h => exact h
  | 5, ⟨b, h1, h2, h3⟩ => exact ⟨b, h1, h2, h3.below hb h3.lt⟩
  | _ + 6, _ => exact trivial
theorem lenP4 (a b c d a' b' c' d' : Nat → Nat) : (four4 a b c d).length = (four4 a' b' c' d').length := by rw [← lenP, ← lenP]
theorem Rng.belowB {w w' : World} {g off B : Nat} {k : IntKind} {l : List Nat} (h : Rng w g off k l) (hb : Bel B w w') (hB : g < B) : Rng w' g off k l :=
  ⟨Nat.lt_of_lt_of_le h.1 hb.size, fun j v hv => (hb.cell (p := ⟨g, off + j, none⟩) hB).trans (h.2 j v hv)⟩

set_option maxRecDepth 100000 in
set_option maxHeartbeats 4000000 in
theorem sharedR (s q : List UInt8) (hs : s.length = 32) (hq : q.length = 32) (w : World) :
    Calls Tryd.prog 80 #[.string (str s), .string (str q)] w fun e w' => e = .returned (.string (str (x25519 s q))) ∧ Bel w.heap.size w w' := by
  have HRES : Hid (x25519 s q = outB (mulM (ladTo (cbit s) (UV q % PR) 255).1 (ivTo (ladTo (cbit s) (UV q % PR) 255).2.1 255))) := rfl
  have Ix := hide (unp15_is q)
  go_enter Tryd.func80, Tryd.ntmps80
  go_wp2_with fail
  refine (unpackedR q hq _).mono ?_
  rintro e w2 ⟨rfl, hb2⟩
  generalize UV q % PR = xm at *
  generalize unp15 q = fx at *
  go_wp2_with (first | (refine wpList_stNew rfl _ _ rfl rfl rfl rfl rfl (infoN fx) (z17n _) ?_; intro w3 bel hx))
  have HB := hide (hb2.trans (bel.mono hb2.size))
  have Hx := hide hx.rng
  clear hb2 bel hx
  generalize w2.heap.size = bx at *
  refine wp_region_phase 6 (PS w3.heap.size xm) (by kernel_rfl) (by kernel_rfl) (PS_stable _ _) ?opS ?tailS
  case opS =>
    intro i o d hi ho hd a wv hbel hkeep hdep
    have Rx : Rng wv bx 0 .i64 (tab 17 fx) := Hx.out.drew.below hbel
    match i, hi with
    | 0, _ =>
      obtain rfl := Option.some.inj ho
      obtain rfl := Option.some.inj hd
      exact op_call1 (R := fun v _ => V17 v 1) rfl rfl rfl enterNumber rfl rfl (numberI (n := 1) (by decide) wv)
    | 1, _ =>
      obtain rfl := Option.some.inj ho
      obtain rfl := Option.some.inj hd
      exact op_call1 (R := fun v _ => V17 v 0) rfl rfl rfl enterNumber rfl rfl (numberI (n := 0) (by decide) wv)
    | 2, _ =>
      obtain rfl := Option.some.inj ho
      obtain rfl := Option.some.inj hd
      exact op_load rfl _ rfl bx 0 (hkeep 5 (ndB_spec (by kernel_rfl))) Rx Tryd.underlying143 rfl (infoN _) ⟨fx, rfl, Ix.out⟩
    | 3, _ =>
      obtain rfl := Option.some.inj ho
      obtain rfl := Option.some.inj hd
      exact op_call1 (R := fun v _ => V17 v 1) rfl rfl rfl enterNumber rfl rfl (numberI (n := 1) (by decide) wv)
    | 4, _ =>
      obtain rfl := Option.some.inj ho
      obtain rfl := Option.some.inj hd
      obtain ⟨f1, e1, i1⟩ : V17 (a.tmps.getD 11 undef) 1 := hdep 0 _ 11 (by decide) rfl rfl (by kernel_rfl)
      obtain ⟨f2, e2, i2⟩ : V17 (a.tmps.getD 12 undef) 0 := hdep 1 _ 12 (by decide) rfl rfl (by kernel_rfl)
      obtain ⟨f3, e3, i3⟩ : V17 (a.tmps.getD 13 undef) xm := hdep 2 _ 13 (by decide) rfl rfl (by kernel_rfl)
      obtain ⟨f4, e4, i4⟩ : V17 (a.tmps.getD 14 undef) 1 := hdep 3 _ 14 (by decide) rfl rfl (by kernel_rfl)
      exact op_buildP (R := fun v _ => Q68 v 1 0 xm 1) rfl rfl f1 f2 f3 f4 e1 e2 e3 e4 ⟨f1, f2, f3, f4, rfl, i1, i2, i3, i4⟩
    | 5, _ =>
      obtain rfl := Option.some.inj ho
      obtain rfl := Option.some.inj hd
      exact op_alloc rfl rfl (allocP wv) ⟨wv.heap.size, rfl, hbel.size, Blk.new _ _ _ _⟩
  case tailS =>
    intro a wv hj
    have hact := hj.act [11, 12, 13, 14, 15, 6] (by kernel_rfl)
    obtain ⟨f11, e11, _⟩ := hj.post 0 _ 11 (by decide) rfl rfl rfl
    obtain ⟨f12, e12, _⟩ := hj.post 1 _ 12 (by decide) rfl rfl rfl
    obtain ⟨f13, e13, _⟩ := hj.post 2 _ 13 (by decide) rfl rfl rfl
    obtain ⟨f14, e14, _⟩ := hj.post 3 _ 14 (by decide) rfl rfl rfl
    obtain ⟨fa, fb, fc, fd, e15, ia, ib, ic, id⟩ := hj.post 4 _ 15 (by decide) rfl rfl rfl
    obtain ⟨bp, e6, hbp, hP⟩ := hj.post 5 _ 6 (by decide) rfl rfl rfl
    simp only [List.map_cons, List.map_nil, e11, e12, e13, e14, e15, e6] at hact
    have hjb : Bel w3.heap.size w3 wv := (Bel.refl _ _).drew.trans hj.bel
    clear hj e11 e12 e13 e14 e15 e6
    subst hact
    have I0 : Hid (Is15 fa 1 ∧ Is15 fb 0 ∧ Is15 fc xm ∧ Is15 fd 1) := ⟨ia, ib, ic, id⟩
    have HPZ := hide hP
    clear ia ib ic id hP
    simp only [putL, Act.put, List.setIfInBounds_toArray, List.set_cons_zero, List.set_cons_succ, List.drop_succ_cons, List.drop_zero]
    go_wp2_with (first | (refine wpList_stB HPZ.out (infoP fa fb fc fd) (lenP _ _ _ _) rfl _ _ rfl rfl rfl rfl ?_; intro wz hbz hoz hkz))
    have bel : Bel w3.heap.size w3 wz := hjb.trans (hbz.mono hbp)
    have HB0 := HB.out.size
    replace HB := hide (HB.out.trans (bel.mono HB.out.size))
    have hxl := Hx.out.1
    replace Hx := hide (Hx.out.below bel)
    have HP := hide hkz
    have hbxp : bx < bp := by omega
    have hwb : w.heap.size ≤ bp := Nat.le_trans HB0 hbp
    clear bel hbz hoz hkz hjb HPZ HB0
    go_loopw [7] (fun t wr => ∃ (k : Nat) (a b c d : Nat → Nat), k ≤ 255 ∧ t = .int .i64 (254 - (k : Int)) ∧ Bel w.heap.size w wr ∧ Rng wr bx 0 .i64 (tab 17 fx) ∧ Blk wr bp 147 .i64 (four4 a b c d) ∧ Is15 a (ladTo (cbit s) xm k).1 ∧ Is15 b (ladTo (cbit s) xm k).2.1 ∧ Is15 c (ladTo (cbit s) xm k).2.2.1 ∧ Is15 d (ladTo (cbit s) xm k).2.2.2) (fun t _ => (intOf t + 1).toNat)
    case atStart => exact ⟨0, fa, fb, fc, fd, Nat.zero_le _, rfl, HB.out, Hx.out, HP.out, I0.out.1, I0.out.2.1, I0.out.2.2.1, I0.out.2.2.2⟩
    case round =>
      clear HB Hx HP I0
      obtain ⟨k, ga, gb, gc, gd, hk, rfl, hB, hX, hP, ia, ib, ic, id⟩ := hrel
      have HB := hide hB
      have HX := hide hX
      have HP := hide hP
      have Ia := hide ia
      have Ib := hide ib
      have Ic := hide ic
      have Id := hide id
      clear hB hX hP ia ib ic id
      by_cases hk2 : k < 255
      · have h0 : (0 : Int) ≤ 254 - (k : Int) := by omega
        have HL : Hid (ladTo (cbit s) xm (k + 1) = stepL (cbit s (254 - k)) xm (ladTo (cbit s) xm k)) := rfl
        generalize ladTo (cbit s) xm k = L at *
        go_wp2_with fail
        refine (clampedI s hs (254 - (k : Int)) (254 - k) (by omega) (by omega) _).mono ?_
        rintro e w4 ⟨rfl, hb4⟩
        replace HB := hide (HB.out.trans (hb4.mono HB.out.size))
        replace HX := hide (HX.out.below hb4)
        replace HP := hide (HP.out.below hb4 HP.out.lt)
        clear hb4
        have hcb := cbit_lt s (254 - k)
        generalize cbit s (254 - k) = cb at *
        have h01 : cb = 0 ∨ cb = 1 := by omega
        clear hcb
        rcases h01 with rfl | rfl
        · have HS : Hid (stepL 0 xm L = (rX2 L.1 L.2.1, rZ2 L.1 L.2.1, rX3 L.1 L.2.1 L.2.2.1 L.2.2.2, rZ3 L.1 L.2.1 L.2.2.1 L.2.2.2 xm)) := if_neg (by decide)
          go_wp2_with (first | (refine wpList_ldQ rfl _ rfl _ _ rfl (by first | with_reducible exact HX.out) Tryd.underlying143 rfl (infoN _) ?_) | (refine wpList_ldB HP.out Tryd.underlying147 rfl (infoP _ _ _ _) rfl _ rfl rfl ?_))
          refine (rungR ga gb gc gd fx _ _ _ _ xm Ia.out Ib.out Ic.out Id.out Ix.out _).mono ?_
          rintro e w5 ⟨na, nb, nc, nd, rfl, ja, jb, jc, jd, hb5⟩
          replace HB := hide (HB.out.trans (hb5.mono HB.out.size))
          replace HX := hide (HX.out.below hb5)
          replace HP := hide (HP.out.below hb5 HP.out.lt)
          clear hb5
          have JJ : Hid (Is15 na _ ∧ Is15 nb _ ∧ Is15 nc _ ∧ Is15 nd _) := ⟨ja, jb, jc, jd⟩
          clear ja jb jc jd
          go_wp2_with (first | (refine wpList_stB HP.out (infoP na nb nc nd) (lenP4 _ _ _ _ _ _ _ _) rfl _ _ rfl rfl rfl rfl ?_; intro w6 hb6 ho6 hk6))
          go_roundw
          case rel => exact ⟨k + 1, na, nb, nc, nd, by omega, by apply congrArg (Value.int .i64); omega, HB.out.trans (hb6.mono hwb), HX.out.belowB hb6 hbxp, hk6, by rw [HL.out, HS.out]; exact JJ.out.1, by rw [HL.out, HS.out]; exact JJ.out.2.1, by rw [HL.out, HS.out]; exact JJ.out.2.2.1, by rw [HL.out, HS.out]; exact JJ.out.2.2.2⟩
          case measure => simp [intOf]; omega
        · have HS : Hid (stepL 1 xm L = (rX3 L.2.2.1 L.2.2.2 L.1 L.2.1, rZ3 L.2.2.1 L.2.2.2 L.1 L.2.1 xm, rX2 L.2.2.1 L.2.2.2, rZ2 L.2.2.1 L.2.2.2)) := if_pos rfl
          have R0 := hide (HP.out.range 0 _ (f40 _ _ _ _))
          have R1 := hide (HP.out.range 17 _ (f41 _ _ _ _))
          have R2 := hide (HP.out.range 34 _ (f42 _ _ _ _))
          have R3 := hide (HP.out.range 51 _ (f43 _ _ _ _))
          go_wp2_with (first | (refine wpList_ldQ rfl _ rfl _ _ rfl (by first | with_reducible exact R2.out | with_reducible exact R3.out | with_reducible exact R0.out | with_reducible exact R1.out | with_reducible exact HX.out) Tryd.underlying143 rfl (infoN _) ?_) | (refine wpList_buildP rfl rfl gc gd ga gb rfl rfl rfl rfl ?_))
          refine (rungR gc gd ga gb fx _ _ _ _ xm Ic.out Id.out Ia.out Ib.out Ix.out _).mono ?_
          rintro e w5 ⟨na, nb, nc, nd, rfl, ja, jb, jc, jd, hb5⟩
          replace HB := hide (HB.out.trans (hb5.mono HB.out.size))
          replace HX := hide (HX.out.below hb5)
          replace HP := hide (HP.out.below hb5 HP.out.lt)
          clear hb5 R0 R1 R2 R3
          have JJ : Hid (Is15 na _ ∧ Is15 nb _ ∧ Is15 nc _ ∧ Is15 nd _) := ⟨ja, jb, jc, jd⟩
          clear ja jb jc jd
          go_wp2_with (first | (refine wpList_stB hk6 (infoP nc nd na nb) (lenP4 _ _ _ _ _ _ _ _) rfl _ _ rfl rfl rfl rfl ?_; intro w7 hb7 ho7 hk7) | (refine wpList_stB HP.out (infoP na nb nc nd) (lenP4 _ _ _ _ _ _ _ _) rfl _ _ rfl rfl rfl rfl ?_; intro w6 hb6 ho6 hk6) | (refine wpList_ldQ rfl _ rfl _ _ rfl (by first | with_reducible exact hk6.range 34 _ (f42 _ _ _ _) | with_reducible exact hk6.range 51 _ (f43 _ _ _ _) | with_reducible exact hk6.range 0 _ (f40 _ _ _ _) | with_reducible exact hk6.range 17 _ (f41 _ _ _ _)) Tryd.underlying143 rfl (infoN _) ?_) | (refine wpList_buildP rfl rfl nc nd na nb rfl rfl rfl rfl ?_))
          go_roundw
          case rel => exact ⟨k + 1, nc, nd, na, nb, by omega, by apply congrArg (Value.int .i64); omega, (HB.out.trans (hb6.mono hwb)).trans (hb7.mono hwb), (HX.out.belowB hb6 hbxp).belowB hb7 hbxp, hk7, by rw [HL.out, HS.out]; exact JJ.out.2.2.1, by rw [HL.out, HS.out]; exact JJ.out.2.2.2, by rw [HL.out, HS.out]; exact JJ.out.1, by rw [HL.out, HS.out]; exact JJ.out.2.1⟩
          case measure => simp [intOf]; omega
      · have h255 : k = 255 := by omega
        subst h255
        generalize ladTo (cbit s) xm 255 = L at *
        have R0 := hide (HP.out.range 0 _ (f40 _ _ _ _))
        have R1 := hide (HP.out.range 17 _ (f41 _ _ _ _))
        go_wp2_with (first | (refine wpList_ldQ rfl _ rfl _ _ rfl (by first | with_reducible exact R1.out) Tryd.underlying143 rfl (infoN _) ?_))
        refine (inverseR gb _ Ib.out _).mono ?_
        rintro e w5 ⟨fz, rfl, iz, hb5⟩
        replace HB := hide (HB.out.trans (hb5.mono HB.out.size))
        replace R0 := hide (R0.out.below hb5)
        have Iz := hide iz
        clear hb5 R1 iz HP HX
        go_wp2_with (first | (refine wpList_stNew rfl _ _ rfl rfl rfl rfl rfl (infoN fz) (z17n _) ?_; intro w6 bel hz) | (refine wpList_ldQ rfl _ rfl _ _ rfl (by first | with_reducible exact hz.rng | with_reducible exact R0.out.below bel) Tryd.underlying143 rfl (infoN _) ?_))
        replace HB := hide (HB.out.trans (bel.mono HB.out.size))
        clear bel hz R0
        refine (timesI Ia.out Iz.out _).mono ?_
        rintro e w7 ⟨ft, rfl, it, hb7⟩
        replace HB := hide (HB.out.trans (hb7.mono HB.out.size))
        have It := hide it
        clear hb7 it
        go_wp2_with fail
        refine (packedR ft It.out.1 _).mono ?_
        rintro e w8 ⟨rfl, hb8⟩
        replace HB := hide (HB.out.trans (hb8.mono HB.out.size))
        clear hb8
        rw [It.out.2, ← HRES.out]
        go_wp2
        go_ret
        exact ⟨rfl, HB.out⟩
end Go.Proofs.YtgjdogkciklgkaaDoor
