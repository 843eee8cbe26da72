/-
  Package ratchet's plans: keptAt, planKept, planNext.
-/
import Derived.Test.YtgjdogkciklgkaaDoorPd
import Derived.Test.YtgjdogkciklgkaaDoorPc
namespace Go.Proofs.YtgjdogkciklgkaaDoor
open Go.RowKit

theorem results_ct {P : Program} {fn : Func} {p q : Tmp} {ty : TypeId} (h : fn.results = #[.cell p ty, .tmp q]) (tmps : Array Value) (w : World) (g : Nat) (t : TypeId) (cs : Array Value) (fr : Nat × Nat) (d : TypeDesc) (x : Value)
    (hp : tmps.getD p undef = .pointer (some ⟨g, 0, none⟩)) (hq : tmps.getD q undef = x) (hg : w.heap[g]? = some (.cells cs t fr))
    (hu : P.underlying ty = some d) (hd : (match d with | .struct _ | .array _ _ => true | _ => false) = true) (hi : (P.info? ty).map (·.size) = some cs.size) :
    (results fn tmps).run P w = .ok (.tuple #[.agg cs, x]) w := by
  have hp' : tmps[p]?.getD undef = .pointer (some ⟨g, 0, none⟩) := by simpa using hp
  have hq' : tmps[q]?.getD undef = x := by simpa using hq
  simp [results, h, hp', hq', asAddr, run_loadVar_row w g t ty cs fr d hg hu hd hi]
theorem Tryd.sizePlan : (Tryd.prog.info? 71).map (·.size) = some 2 := by kernel_rfl
theorem rowTwo {w : World} {b : Nat} {x y : Value} {T : TypeId} (h : w.heap[b]? = some (.cells #[x, y] T (0, 0))) : w.cell? ⟨b, 0, none⟩ = some x ∧ w.cell? ⟨b, 1, none⟩ = some y ∧ w.frozen? ⟨b, 0, none⟩ = false ∧ w.frozen? ⟨b, 1, none⟩ = false :=
  ⟨cell_of_row w b 0 _ _ (0, 0) h, cell_of_row w b 1 _ _ (0, 0) h, frozen_of_row w b 0 _ _ h, frozen_of_row w b 1 _ _ h⟩
theorem rowTwoSet {w : World} {b : Nat} {x y x' y' : Value} {T : TypeId} (h : w.heap[b]? = some (.cells #[x, y] T (0, 0))) : ((w.setCell ⟨b, 0, none⟩ x').setCell ⟨b, 1, none⟩ y').heap[b]? = some (.cells #[x', y'] T (0, 0)) :=
  heap_setCell_same _ b 1 _ _ _ (heap_setCell_same _ b 0 _ _ _ h)

set_option maxRecDepth 100000 in
set_option maxHeartbeats 1000000 in
theorem keptAtP (base b bf n : Nat) (st : PSt) (th : List UInt8) (hk : st.kept.length ≤ 1000) (w : World) (hp : PAt w base b st) :
    Calls Tryd.prog 70 #[.pointer (some ⟨b, 0, none⟩), .agg #[.string (str th), .int .i64 (bf : Int), .int .i64 (n : Int)]] w fun e w' => e = .returned (.int .i64 (idxI (findK st.kept th n))) ∧ Bel w.heap.size w w' := by
  obtain ⟨v, hP, hO⟩ := hp
  have c8 := hP.all.2.2.2.2.2.2.2.2
  have hlt := hP.lt
  have HB0 : Hid (Bel w.heap.size w (w.alloc (.cells #[.string (str th), .int .i64 (bf : Int), .int .i64 (n : Int)] 69))) := (Bel.refl _ _).alloc (Nat.le_refl _) _
  have HN0 : Hid ((w.alloc (.cells #[.string (str th), .int .i64 (bf : Int), .int .i64 (n : Int)] 69)).heap[w.heap.size]? = some (.cells #[.string (str th), .int .i64 (bf : Int), .int .i64 (n : Int)] 69 (0, 0))) := heap_alloc_new w _
  have HO0 := hide (hO.below HB0.out)
  have d8 := (HB0.out.cell (p := ⟨b, 8, none⟩) hlt).trans c8
  clear hP hO c8
  go_enter Tryd.func70, Tryd.ntmps70
  go_wp2_with fail
  generalize w.alloc (.cells #[.string (str th), .int .i64 (bf : Int), .int .i64 (n : Int)] 69) = W at *
  refine (kIdxP base w.heap.size n v st.kept th hk _ HO0.out (rowThree HN0.out).1 (rowThree HN0.out).2.2.1).mono ?_
  rintro e w1 ⟨rfl, hb1⟩
  have HB1 := hide (HB0.out.trans (hb1.mono HB0.out.size))
  clear hb1 d8
  generalize hr : idxI (findK st.kept th n) = r at *
  have HR := hide hr
  clear hr
  go_wp2
  go_ret
  exact ⟨by rw [HR.out]; rfl, HB1.out⟩

theorem PAt.setT {w : World} {base b g o : Nat} {st : PSt} {cs : Array Value} {T : TypeId} (h : PAt w base b st) (hg : w.heap[g]? = some (.cells cs T (0, 0))) (hT : T ≠ 77) (hne : b ≠ g) (x : Value) : PAt (w.setCell ⟨g, o, none⟩ x) base b st := by
  obtain ⟨v, hP, hO⟩ := h
  exact ⟨v, (heap_setCell_other w ⟨g, o, none⟩ b x hne).trans hP, hO.chg ((Chg.of_bel (Bel.refl _ _)).setCell o x) hg hT⟩
theorem planEnd {w U : World} {H b' base' : Nat} {st' : PSt} {x y : Value} (hb : Bel w.heap.size w U) (hH : w.heap.size ≤ H) (hN : U.heap[H]? = some (.cells #[x, y] 71 (0, 0))) (hp : PAt U base' b' st') (hne : b' ≠ H) (key : List UInt8) :
    ((U.setCell ⟨H, 0, none⟩ (.string (str key))).setCell ⟨H, 1, none⟩ (.pointer (some ⟨b', 0, none⟩))).heap[H]? = some (.cells #[.string (str key), .pointer (some ⟨b', 0, none⟩)] 71 (0, 0)) ∧
    PAt ((U.setCell ⟨H, 0, none⟩ (.string (str key))).setCell ⟨H, 1, none⟩ (.pointer (some ⟨b', 0, none⟩))) base' b' st' ∧
    Bel w.heap.size w ((U.setCell ⟨H, 0, none⟩ (.string (str key))).setCell ⟨H, 1, none⟩ (.pointer (some ⟨b', 0, none⟩))) :=
  ⟨rowTwoSet hN, (hp.setT hN (by decide) hne _).setT (heap_setCell_same U H 0 _ _ _ hN) (by decide) hne _, (hb.setCell (p := ⟨H, 0, none⟩) hH _).setCell (p := ⟨H, 1, none⟩) hH _⟩

/-- A plan that was made: its key, and the party that goes on. -/
def Planned (w : World) (key : List UInt8) (st' : PSt) (v : Value) (w' : World) : Prop := ∃ b', v = .agg #[.string (str key), .pointer (some ⟨b', 0, none⟩)] ∧ w.heap.size ≤ b' ∧ PAt w' w.heap.size b' st' ∧ Bel w.heap.size w w'

set_option maxRecDepth 100000 in
set_option maxHeartbeats 1000000 in
theorem planKeptP (base b i : Nat) (st : PSt) (hk : st.kept.length ≤ 1000) (hi : i < st.kept.length) (w : World) (hp : PAt w base b st) :
    Calls Tryd.prog 71 #[.pointer (some ⟨b, 0, none⟩), .int .i64 (i : Int)] w fun e w' => ∃ v, e = .returned v ∧ Planned w (st.kept.getD i default).key { st with kept := st.kept.eraseIdx i } v w' := by
  obtain ⟨v, hP, hO⟩ := hp
  have hlt := hP.lt
  obtain ⟨g, c, rfl⟩ := hO.formP (by omega)
  have c8 := hP.all.2.2.2.2.2.2.2.2
  have hgl : g < w.heap.size := by obtain ⟨_, cs, hc⟩ := hO.row g rfl; exact (Array.getElem?_eq_some_iff.1 hc).1
  have hki := hO.cells _ _ (kCells_get st.kept i hi).2.2
  have HB0 : Hid (Bel w.heap.size w (w.alloc (.cells #[.string ⟨#[]⟩, .pointer none] 71))) := (Bel.refl _ _).alloc (Nat.le_refl _) _
  have HN0 : Hid ((w.alloc (.cells #[.string ⟨#[]⟩, .pointer none] 71)).heap[w.heap.size]? = some (.cells #[.string ⟨#[]⟩, .pointer none] 71 (0, 0))) := heap_alloc_new w _
  have HS0 : Hid ((w.alloc (.cells #[.string ⟨#[]⟩, .pointer none] 71)).heap.size = w.heap.size + 1) := by show _ = _; simp
  have HP0 : Hid (PAt (w.alloc (.cells #[.string ⟨#[]⟩, .pointer none] 71)) base b st) := PAt.below ⟨_, hP, hO⟩ HB0.out
  have HE : Hid (st.kept.take i ++ st.kept.drop (i + 1) = st.kept.eraseIdx i) := (List.eraseIdx_eq_take_drop_succ _ _).symm
  clear hP hO
  go_enter Tryd.func71, Tryd.ntmps71
  go_wp2_with fail
  generalize w.alloc (.cells #[.string ⟨#[]⟩, .pointer none] 71) = W at *
  refine (copyP base b st hk _ HP0.out).mono ?_
  rintro e w1 ⟨rfl, hp1, hb1⟩
  have hWs := HS0.out
  rw [hWs] at hp1 ⊢
  have HB1 := hide (HB0.out.trans (hb1.mono HB0.out.size))
  have HN1 := hide ((hb1.block _ (by omega)).trans HN0.out)
  obtain ⟨v1, hP1, hO1⟩ := hp1
  obtain ⟨g1, c1, rfl⟩ := hO1.formP (by omega)
  have HP1 := hide hP1
  have HO1 := hide hO1
  have d8 := hP1.all.2.2.2.2.2.2.2.2
  clear hb1 hP1 hO1
  go_wp2_with fail
  rw [show (i : Int) + 1 = ((i + 1 : Nat) : Int) by omega]
  refine (kDelP (w.heap.size + 1) g1 c1 i (i + 1) st.kept.length st.kept rfl (by omega) (by omega) _ HO1.out).mono ?_
  rintro e w2 ⟨rfl, ho2, hc2⟩
  rw [HE.out] at ho2
  have hbg := (HO1.out.row g1 rfl).1
  have HP2 := hide (HP1.out.chgO HO1.out rfl hc2)
  have HB2 := hide (HB1.out.trans (hc2.bel (show w.heap.size ≤ g1 by omega) HB1.out.size))
  have HN2 : Hid (w2.heap[w.heap.size]? = some (.cells #[.string ⟨#[]⟩, .pointer none] 71 (0, 0))) := (hc2.block _ (Array.getElem?_eq_some_iff.1 HN1.out).1 (by omega)).trans HN1.out
  have d8 := HP2.out.all.2.2.2.2.2.2.2.2
  have f8 := HP2.out.frozen 8
  have c8' := (HB2.out.cell (p := ⟨b, 8, none⟩) hlt).trans c8
  have hki' := (HB2.out.cell (p := ⟨g, i * 3 + 2, none⟩) hgl).trans hki
  obtain ⟨r0, r1, s0, s1⟩ := rowTwo HN2.out
  have HF := hide (pAt_set HP2.out ho2)
  have hne : b ≠ w.heap.size + 1 := by omega
  have hne2 : g ≠ w.heap.size + 1 := by omega
  have hlz : (i : Int) < (st.kept.length : Int) := by omega
  clear ho2 hc2 c8 hki
  generalize hky : (st.kept.getD i default).key = key at *
  have HKY := hide hky
  clear hky
  have HN3 : Hid ((w2.setCell ⟨w.heap.size + 1, 8, none⟩ (.slice (some ⟨g1, 0, none⟩) (i + (st.kept.length - (i + 1))) c1)).heap[w.heap.size]? = some (.cells #[.string ⟨#[]⟩, .pointer none] 71 (0, 0))) := (heap_setCell_other w2 _ _ _ (show w.heap.size ≠ w.heap.size + 1 by omega)).trans HN2.out
  have HB3 := hide (HB2.out.setCell (p := ⟨w.heap.size + 1, 8, none⟩) (show w.heap.size ≤ w.heap.size + 1 by omega) (.slice (some ⟨g1, 0, none⟩) (i + (st.kept.length - (i + 1))) c1))
  have HX := planEnd HB3.out (Nat.le_refl _) HN3.out (HF.out.base (show w.heap.size ≤ w.heap.size + 1 by omega)) (by omega) key
  have HX := hide HX
  go_wp2
  exact bodyPost_ret (v := .agg #[.string (str key), .pointer (some ⟨w.heap.size + 1, 0, none⟩)]) (results_cell_row (P := Tryd.prog) Tryd.results71 _ _ w.heap.size 71 _ (0, 0) _ rfl HX.out.1 Tryd.underlying71 rfl Tryd.sizePlan) rfl ⟨_, rfl, _, by rw [HKY.out], by omega, HX.out.2.1, HX.out.2.2⟩

/-- What planNext and planTurn begin with: the head at H, a plan at H + 1. -/
structure PF (W : World) (w : World) (base b : Nat) (st : PSt) (th : List UInt8) (bf n : Nat) : Prop where
  bel : Bel w.heap.size w W
  size : w.heap.size + 2 ≤ W.heap.size
  hd : W.heap[w.heap.size]? = some (.cells #[.string (str th), .int .i64 (bf : Int), .int .i64 (n : Int)] 69 (0, 0))
  pl : W.heap[w.heap.size + 1]? = some (.cells #[.string ⟨#[]⟩, .pointer none] 71 (0, 0))
  p : PAt W base b st
theorem PF.start {w : World} {base b : Nat} {st : PSt} (th : List UInt8) (bf n : Nat) (hp : PAt w base b st) : PF ((w.alloc (.cells #[.string (str th), .int .i64 (bf : Int), .int .i64 (n : Int)] 69)).alloc (.cells #[.string ⟨#[]⟩, .pointer none] 71)) w base b st th bf n := by
  have h : Bel w.heap.size w ((w.alloc (.cells #[.string (str th), .int .i64 (bf : Int), .int .i64 (n : Int)] 69)).alloc (.cells #[.string ⟨#[]⟩, .pointer none] 71)) := ((Bel.refl _ _).alloc (Nat.le_refl _) _).alloc (by simp) _
  exact ⟨h, by simp, heap_alloc2_old w _ _, heap_alloc2_new w _ _, hp.below h⟩
theorem PF.below {W W' w : World} {base b bf n : Nat} {st : PSt} {th : List UInt8} (h : PF W w base b st th bf n) (hb : Bel W.heap.size W W') : PF W' w base b st th bf n :=
  ⟨h.bel.trans (hb.mono h.bel.size), Nat.le_trans h.size hb.size, (hb.block _ (Array.getElem?_eq_some_iff.1 h.hd).1).trans h.hd, (hb.block _ (Array.getElem?_eq_some_iff.1 h.pl).1).trans h.pl, h.p.below hb⟩
theorem PF.drew {W w : World} {base b bf n : Nat} {st : PSt} {th : List UInt8} (h : PF W w base b st th bf n) : PF W.drew w base b st th bf n := ⟨h.bel.drew, h.size, h.hd, h.pl, h.p⟩
theorem PF.bel2 {W W' w : World} {base b bf n B : Nat} {st : PSt} {th : List UInt8} (h : PF W w base b st th bf n) (hb : Bel B W W') (hB : w.heap.size + 2 ≤ B) : Bel w.heap.size w W' ∧ W'.heap[w.heap.size]? = some (.cells #[.string (str th), .int .i64 (bf : Int), .int .i64 (n : Int)] 69 (0, 0)) ∧ W'.heap[w.heap.size + 1]? = some (.cells #[.string ⟨#[]⟩, .pointer none] 71 (0, 0)) :=
  ⟨h.bel.trans (hb.mono (by omega)), (hb.block _ (by omega)).trans h.hd, (hb.block _ (by omega)).trans h.pl⟩
end Go.Proofs.YtgjdogkciklgkaaDoor
namespace Go.Proofs.YtgjdogkciklgkaaDoor
open Go.RowKit

def nilPlan : Value := .agg #[.string ⟨#[]⟩, .pointer none]
theorem notEmpty (l : List UInt8) (h : l ≠ []) : (!l.isEmpty) = true := by cases l with
  | nil => exact absurd rfl h
  | cons _ _ => rfl

set_option maxRecDepth 100000 in
set_option maxHeartbeats 1000000 in
theorem planNextOld0 (base b bf n : Nat) (st : PSt) (th : List UInt8) (hr : st.rk = []) (a : Nat → Addr) (w : World) (hE : Errs w a) (hp : PAt w base b st) :
    Calls Tryd.prog 72 #[.pointer (some ⟨b, 0, none⟩), .agg #[.string (str th), .int .i64 (bf : Int), .int .i64 (n : Int)]] w fun e w' => e = .returned (.tuple #[nilPlan, errV a 3]) ∧ Bel w.heap.size w w' := by
  have hlt := hp.lt
  have HF := hide (PF.start th bf n hp)
  have HE := hide (hE.below HF.out.bel)
  have hgl : 3 ≠ w.heap.size + 1 := by have h : 3 < w.heap.size := cell_lt hE.at.2.2.2.1; omega
  clear hp hE
  go_enter Tryd.func72, Tryd.ntmps72
  go_wp2_with fail
  generalize (w.alloc (.cells #[.string (str th), .int .i64 (bf : Int), .int .i64 (n : Int)] 69)).alloc (.cells #[.string ⟨#[]⟩, .pointer none] 71) = W at *
  have c6 := HF.out.p.choose_spec.1.all.2.2.2.2.2.2.1
  have c7 := HF.out.p.choose_spec.1.all.2.2.2.2.2.2.2.1
  obtain ⟨h0, h1, h2, _⟩ := rowThree HF.out.hd
  obtain ⟨r0, r1, s0, s1⟩ := rowTwo HF.out.pl
  have gE := HE.out.at.2.2.2.1
  rw [hr] at c6
  go_quiet (first | (go_at_call 38; refine Calls.quiet_of_same (begunP b 6 [] (W.drewN _) c6)))
  go_wp2
  go_region
  all_goals go_wp2
  all_goals exact bodyPost_ret (v := .tuple #[nilPlan, errV a 3]) (results_ct (P := Tryd.prog) Tryd.results72 _ _ (w.heap.size + 1) 71 _ (0, 0) _ _ rfl rfl (rowTwoSet (w := W.drewN _) HF.out.pl) Tryd.underlying71 rfl Tryd.sizePlan) rfl ⟨rfl, ((belowN HF.out.bel _).setCell (p := ⟨w.heap.size + 1, 0, none⟩) (show w.heap.size ≤ w.heap.size + 1 by omega) _).setCell (p := ⟨w.heap.size + 1, 1, none⟩) (show w.heap.size ≤ w.heap.size + 1 by omega) _⟩

set_option maxRecDepth 100000 in
set_option maxHeartbeats 1000000 in
theorem planNextOld1 (base b bf n : Nat) (st : PSt) (th : List UInt8) (hr : st.rk ≠ []) (hn : n < st.rn) (a : Nat → Addr) (w : World) (hE : Errs w a) (hp : PAt w base b st) :
    Calls Tryd.prog 72 #[.pointer (some ⟨b, 0, none⟩), .agg #[.string (str th), .int .i64 (bf : Int), .int .i64 (n : Int)]] w fun e w' => e = .returned (.tuple #[nilPlan, errV a 3]) ∧ Bel w.heap.size w w' := by
  have hlt := hp.lt
  have HF := hide (PF.start th bf n hp)
  have HE := hide (hE.below HF.out.bel)
  have hgl : 3 ≠ w.heap.size + 1 := by have h : 3 < w.heap.size := cell_lt hE.at.2.2.2.1; omega
  clear hp hE
  go_enter Tryd.func72, Tryd.ntmps72
  go_wp2_with fail
  generalize (w.alloc (.cells #[.string (str th), .int .i64 (bf : Int), .int .i64 (n : Int)] 69)).alloc (.cells #[.string ⟨#[]⟩, .pointer none] 71) = W at *
  have c6 := HF.out.p.choose_spec.1.all.2.2.2.2.2.2.1
  have c7 := HF.out.p.choose_spec.1.all.2.2.2.2.2.2.2.1
  obtain ⟨h0, h1, h2, _⟩ := rowThree HF.out.hd
  obtain ⟨r0, r1, s0, s1⟩ := rowTwo HF.out.pl
  have gE := HE.out.at.2.2.2.1
  have hb1 := notEmpty _ hr
  have hz : (n : Int) < (st.rn : Int) := by omega
  go_quiet (first | (go_at_call 38; refine Calls.quiet_of_same (begunP b 6 st.rk (W.drewN _) c6)))
  go_wp2
  go_region
  all_goals go_wp2
  all_goals exact bodyPost_ret (v := .tuple #[nilPlan, errV a 3]) (results_ct (P := Tryd.prog) Tryd.results72 _ _ (w.heap.size + 1) 71 _ (0, 0) _ _ rfl rfl (rowTwoSet (w := W.drewN _) HF.out.pl) Tryd.underlying71 rfl Tryd.sizePlan) rfl ⟨rfl, ((belowN HF.out.bel _).setCell (p := ⟨w.heap.size + 1, 0, none⟩) (show w.heap.size ≤ w.heap.size + 1 by omega) _).setCell (p := ⟨w.heap.size + 1, 1, none⟩) (show w.heap.size ≤ w.heap.size + 1 by omega) _⟩

set_option maxRecDepth 100000 in
set_option maxHeartbeats 1000000 in
theorem planNextFar (base b bf n : Nat) (st : PSt) (th : List UInt8) (hr : st.rk ≠ []) (hn : st.rn + 10 < n) (hb : st.rn ≤ 70000) (a : Nat → Addr) (w : World) (hE : Errs w a) (hp : PAt w base b st) :
    Calls Tryd.prog 72 #[.pointer (some ⟨b, 0, none⟩), .agg #[.string (str th), .int .i64 (bf : Int), .int .i64 (n : Int)]] w fun e w' => e = .returned (.tuple #[nilPlan, errV a 4]) ∧ Bel w.heap.size w w' := by
  have hlt := hp.lt
  have HF := hide (PF.start th bf n hp)
  have HE := hide (hE.below HF.out.bel)
  have hgl : 4 ≠ w.heap.size + 1 := by have h : 4 < w.heap.size := cell_lt hE.at.2.2.2.2.1; omega
  clear hp hE
  go_enter Tryd.func72, Tryd.ntmps72
  go_wp2_with fail
  generalize (w.alloc (.cells #[.string (str th), .int .i64 (bf : Int), .int .i64 (n : Int)] 69)).alloc (.cells #[.string ⟨#[]⟩, .pointer none] 71) = W at *
  have c6 := HF.out.p.choose_spec.1.all.2.2.2.2.2.2.1
  have c7 := HF.out.p.choose_spec.1.all.2.2.2.2.2.2.2.1
  obtain ⟨h0, h1, h2, _⟩ := rowThree HF.out.hd
  obtain ⟨r0, r1, s0, s1⟩ := rowTwo HF.out.pl
  have gE := HE.out.at.2.2.2.2.1
  have hb1 := notEmpty _ hr
  have hz : decide ((n : Int) < (st.rn : Int)) = false := by rw [decide_eq_false_iff_not]; omega
  have hz2 : (st.rn : Int) + 10 < (n : Int) := by omega
  go_quiet (first | (go_at_call 38; refine Calls.quiet_of_same (begunP b 6 st.rk (W.drewN _) c6)))
  go_wp2_with fail
  go_quiet (fail)
  go_wp2
  go_region
  all_goals go_wp2
  all_goals exact bodyPost_ret (v := .tuple #[nilPlan, errV a 4]) (results_ct (P := Tryd.prog) Tryd.results72 _ _ (w.heap.size + 1) 71 _ (0, 0) _ _ rfl rfl (rowTwoSet (w := W.drewN _) HF.out.pl) Tryd.underlying71 rfl Tryd.sizePlan) rfl ⟨rfl, ((belowN HF.out.bel _).setCell (p := ⟨w.heap.size + 1, 0, none⟩) (show w.heap.size ≤ w.heap.size + 1 by omega) _).setCell (p := ⟨w.heap.size + 1, 1, none⟩) (show w.heap.size ≤ w.heap.size + 1 by omega) _⟩

theorem copyAt (base b q : Nat) (st : PSt) (hk : st.kept.length ≤ 1000) (W : World) (hp : PAt W base b st) (B : Nat) (hB : B = W.heap.size) :
    Calls Tryd.prog 26 #[.pointer (some ⟨b, 0, none⟩)] (W.drewN q) fun e w' => e = .returned (.pointer (some ⟨B, 0, none⟩)) ∧ PAt w' B B st ∧ Bel B W w' := by
  rw [hB]
  exact (copyP base b st hk (W.drewN q) hp).mono fun e w' ⟨h1, h2, h3⟩ => ⟨h1, h2, Bel.ofDrewN h3⟩

set_option maxRecDepth 100000 in
set_option maxHeartbeats 1000000 in
theorem planNextOk (base b bf n : Nat) (st : PSt) (th : List UInt8) (hW : st.Wf) (hr : st.rk ≠ []) (hn : st.rn ≤ n) (hn2 : n ≤ st.rn + 10) (hn3 : n < 65536) (w : World) (hT : Tab w) (hp : PAt w base b st) :
    Calls Tryd.prog 72 #[.pointer (some ⟨b, 0, none⟩), .agg #[.string (str th), .int .i64 (bf : Int), .int .i64 (n : Int)]] w fun e w' => ∃ v, e = .returned (.tuple #[v, .nilIface]) ∧ Planned w (reachK st n) (reachS st n) v w' := by
  have hlt := hp.lt
  have HF := hide (PF.start th bf n hp)
  have HT := hide hT
  have hrn := hW.rn
  have hkl := hW.kept
  have HW := hide hW
  clear hp hT hW
  go_enter Tryd.func72, Tryd.ntmps72
  go_wp2_with fail
  generalize (w.alloc (.cells #[.string (str th), .int .i64 (bf : Int), .int .i64 (n : Int)] 69)).alloc (.cells #[.string ⟨#[]⟩, .pointer none] 71) = W at *
  have c6 := HF.out.p.choose_spec.1.all.2.2.2.2.2.2.1
  have c7 := HF.out.p.choose_spec.1.all.2.2.2.2.2.2.2.1
  obtain ⟨h0, h1, h2, _⟩ := rowThree HF.out.hd
  have hb1 := notEmpty _ hr
  have hz : ¬ (n : Int) < (st.rn : Int) := by omega
  have hz2 : ¬ (st.rn : Int) + 10 < (n : Int) := by omega
  have hz3 : decide ((st.rn : Int) + 10 < (n : Int)) = false := by rw [decide_eq_false_iff_not]; omega
  have hz4 : decide ((n : Int) < (st.rn : Int)) = false := by rw [decide_eq_false_iff_not]; omega
  obtain ⟨B, hB⟩ : ∃ B, B = W.heap.size := ⟨_, rfl⟩
  have hBs : w.heap.size + 2 ≤ B := by rw [hB]; exact HF.out.size
  have HCP : Hid (∀ q, Calls Tryd.prog 26 #[.pointer (some ⟨b, 0, none⟩)] (W.drewN q) fun e w' => e = .returned (.pointer (some ⟨B, 0, none⟩)) ∧ PAt w' B B st ∧ Bel B W w') := fun q => copyAt base b q st (by omega) W HF.out.p B hB
  clear hB
  go_quiet (first | (go_at_call 38; refine Calls.quiet_of_same (begunP b 6 st.rk (W.drewN _) c6)))
  go_wp2_with fail
  go_quiet (fail)
  go_wp2_with fail
  refine (HCP.out _).mono ?_
  rintro e w1 ⟨rfl, hp1, hb1'⟩
  obtain ⟨q1, q2, q3⟩ := HF.out.bel2 hb1' hBs
  have HP1 := hide hp1
  have HB1 := hide q1
  have HH1 := hide q2
  have HL1 := hide q3
  obtain ⟨h0', h1', h2', _⟩ := rowThree HH1.out
  clear hp1 hb1' q1 q2 q3 c6 c7 h0 h1 h2 hb1
  have HG : Hid (7 < B) := by have h := HT.out.lt; show _ < _; omega
  go_wp2_with fail
  refine (reachP B B n st HW.out hr (by omega) _ (HT.out.below HB1.out) HG.out HP1.out (Nat.le_refl _)).mono ?_
  rintro e w2 ⟨rfl, hp2, hb2⟩
  have HL2 : Hid (w2.heap[w.heap.size + 1]? = some (.cells #[.string ⟨#[]⟩, .pointer none] 71 (0, 0))) := (hb2.block _ (by omega)).trans HL1.out
  obtain ⟨r0, r1, s0, s1⟩ := rowTwo HL2.out
  generalize hky : reachK st n = key at *
  have HKY := hide hky
  have HX := hide (planEnd (HB1.out.trans (hb2.mono (by omega))) (show w.heap.size ≤ w.heap.size + 1 by omega) HL2.out (hp2.base (show w.heap.size ≤ B by omega)) (show B ≠ w.heap.size + 1 by omega) key)
  clear hky hp2 hb2 h0' h1' h2'
  go_wp2
  exact bodyPost_ret (v := .tuple #[.agg #[.string (str key), .pointer (some ⟨B, 0, none⟩)], .nilIface]) (results_ct (P := Tryd.prog) Tryd.results72 _ _ (w.heap.size + 1) 71 _ (0, 0) _ _ rfl rfl HX.out.1 Tryd.underlying71 rfl Tryd.sizePlan) rfl ⟨_, rfl, B, by rw [HKY.out], by omega, HX.out.2.1, HX.out.2.2⟩
end Go.Proofs.YtgjdogkciklgkaaDoor
