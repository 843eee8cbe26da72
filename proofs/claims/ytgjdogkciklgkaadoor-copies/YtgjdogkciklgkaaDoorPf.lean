/-
  Package ratchet's planTurn.
-/
import Derived.Test.YtgjdogkciklgkaaDoorPe
import Derived.Test.YtgjdogkciklgkaaDoorPTurn
namespace Go.Proofs.YtgjdogkciklgkaaDoor
open Go.RowKit

theorem begunNil (b o : Nat) (w : World) (c0 : w.cell? ⟨b, o, none⟩ = some (.string (str []))) :
    Calls Tryd.prog 38 #[.pointer (some ⟨b, o, none⟩)] w fun e w' => e = .returned (.bool false) ∧ w' = w := begunP b o [] w c0

set_option maxRecDepth 100000 in
set_option maxHeartbeats 1000000 in
theorem planTurnS1 (base b bf n : Nat) (st : PSt) (th draw : List UInt8) (hr : st.rk ≠ []) (hn : st.rn + 10 < bf) (hb : st.rn ≤ 70000) (a : Nat → Addr) (w : World) (hE : Errs w a) (hp : PAt w base b st) :
    Calls Tryd.prog 73 #[.pointer (some ⟨b, 0, none⟩), .agg #[.string (str th), .int .i64 (bf : Int), .int .i64 (n : Int)], .string (str draw)] w fun e w' => e = .returned (.tuple #[nilPlan, errV a 4]) ∧ Bel w.heap.size w w' := by
  have hlt := hp.lt
  have HF := hide (PF.start th bf n hp)
  have HE := hide (hE.below HF.out.bel)
  have hgl : 4 ≠ w.heap.size + 1 := by have h : 4 < w.heap.size := cell_lt hE.at.2.2.2.2.1; omega
  clear hp hE
  go_enter Tryd.func73, Tryd.ntmps73
  go_wp2_with fail
  generalize (w.alloc (.cells #[.string (str th), .int .i64 (bf : Int), .int .i64 (n : Int)] 69)).alloc (.cells #[.string ⟨#[]⟩, .pointer none] 71) = W at *
  have c6 := HF.out.p.choose_spec.1.all.2.2.2.2.2.2.1
  have c7 := HF.out.p.choose_spec.1.all.2.2.2.2.2.2.2.1
  obtain ⟨h0, h1, h2, _⟩ := rowThree HF.out.hd
  obtain ⟨r0, r1, s0, s1⟩ := rowTwo HF.out.pl
  have gE := HE.out.at.2.2.2.2.1
  have hb1 := notEmpty _ hr
  have hz : decide (IntKind.i64.wrap ((st.rn : Int) + 10) < (bf : Int)) = true := by rw [decide_eq_true_iff, show (st.rn : Int) + 10 = ((st.rn + 10 : Nat) : Int) by omega, wrap_i64_nat _ (by omega)]; omega
  go_quiet (first | (go_at_call 38; refine Calls.quiet_of_same (begunP b 6 st.rk (W.drewN _) c6)))
  go_wp2
  go_region
  all_goals go_wp2
  all_goals exact bodyPost_ret (v := .tuple #[nilPlan, errV a 4]) (results_ct (P := Tryd.prog) Tryd.results73 _ _ (w.heap.size + 1) 71 _ (0, 0) _ _ rfl rfl (rowTwoSet (w := W.drewN _) HF.out.pl) Tryd.underlying71 rfl Tryd.sizePlan) rfl ⟨rfl, ((belowN HF.out.bel _).setCell (p := ⟨w.heap.size + 1, 0, none⟩) (show w.heap.size ≤ w.heap.size + 1 by omega) _).setCell (p := ⟨w.heap.size + 1, 1, none⟩) (show w.heap.size ≤ w.heap.size + 1 by omega) _⟩

set_option maxRecDepth 100000 in
set_option maxHeartbeats 1000000 in
theorem planTurnS2 (base b bf n : Nat) (st : PSt) (th draw : List UInt8) (hr : st.rk ≠ []) (hn : ¬ st.rn + 10 < bf) (hn2 : 10 < n) (hb : st.rn ≤ 70000) (a : Nat → Addr) (w : World) (hE : Errs w a) (hp : PAt w base b st) :
    Calls Tryd.prog 73 #[.pointer (some ⟨b, 0, none⟩), .agg #[.string (str th), .int .i64 (bf : Int), .int .i64 (n : Int)], .string (str draw)] w fun e w' => e = .returned (.tuple #[nilPlan, errV a 4]) ∧ Bel w.heap.size w w' := by
  have hlt := hp.lt
  have HF := hide (PF.start th bf n hp)
  have HE := hide (hE.below HF.out.bel)
  have hgl : 4 ≠ w.heap.size + 1 := by have h : 4 < w.heap.size := cell_lt hE.at.2.2.2.2.1; omega
  clear hp hE
  go_enter Tryd.func73, Tryd.ntmps73
  go_wp2_with fail
  generalize (w.alloc (.cells #[.string (str th), .int .i64 (bf : Int), .int .i64 (n : Int)] 69)).alloc (.cells #[.string ⟨#[]⟩, .pointer none] 71) = W at *
  have c6 := HF.out.p.choose_spec.1.all.2.2.2.2.2.2.1
  have c7 := HF.out.p.choose_spec.1.all.2.2.2.2.2.2.2.1
  obtain ⟨h0, h1, h2, _⟩ := rowThree HF.out.hd
  obtain ⟨r0, r1, s0, s1⟩ := rowTwo HF.out.pl
  have gE := HE.out.at.2.2.2.2.1
  have hb1 := notEmpty _ hr
  have hz : decide (IntKind.i64.wrap ((st.rn : Int) + 10) < (bf : Int)) = false := by rw [decide_eq_false_iff_not, show (st.rn : Int) + 10 = ((st.rn + 10 : Nat) : Int) by omega, wrap_i64_nat _ (by omega)]; omega
  have hz2 : (10 : Int) < (n : Int) := by omega
  go_quiet (first | (go_at_call 38; refine Calls.quiet_of_same (begunP b 6 st.rk (W.drewN _) c6)))
  go_wp2
  go_region
  all_goals go_wp2
  all_goals exact bodyPost_ret (v := .tuple #[nilPlan, errV a 4]) (results_ct (P := Tryd.prog) Tryd.results73 _ _ (w.heap.size + 1) 71 _ (0, 0) _ _ rfl rfl (rowTwoSet (w := W.drewN _) HF.out.pl) Tryd.underlying71 rfl Tryd.sizePlan) rfl ⟨rfl, ((belowN HF.out.bel _).setCell (p := ⟨w.heap.size + 1, 0, none⟩) (show w.heap.size ≤ w.heap.size + 1 by omega) _).setCell (p := ⟨w.heap.size + 1, 1, none⟩) (show w.heap.size ≤ w.heap.size + 1 by omega) _⟩

set_option maxRecDepth 100000 in
set_option maxHeartbeats 1000000 in
theorem planTurnS3 (base b bf n : Nat) (st : PSt) (th draw : List UInt8) (hr : st.rk = []) (hn2 : 10 < n) (a : Nat → Addr) (w : World) (hE : Errs w a) (hp : PAt w base b st) :
    Calls Tryd.prog 73 #[.pointer (some ⟨b, 0, none⟩), .agg #[.string (str th), .int .i64 (bf : Int), .int .i64 (n : Int)], .string (str draw)] w fun e w' => e = .returned (.tuple #[nilPlan, errV a 4]) ∧ Bel w.heap.size w w' := by
  have hlt := hp.lt
  have HF := hide (PF.start th bf n hp)
  have HE := hide (hE.below HF.out.bel)
  have hgl : 4 ≠ w.heap.size + 1 := by have h : 4 < w.heap.size := cell_lt hE.at.2.2.2.2.1; omega
  clear hp hE
  go_enter Tryd.func73, Tryd.ntmps73
  go_wp2_with fail
  generalize (w.alloc (.cells #[.string (str th), .int .i64 (bf : Int), .int .i64 (n : Int)] 69)).alloc (.cells #[.string ⟨#[]⟩, .pointer none] 71) = W at *
  have c6 := HF.out.p.choose_spec.1.all.2.2.2.2.2.2.1
  have c7 := HF.out.p.choose_spec.1.all.2.2.2.2.2.2.2.1
  obtain ⟨h0, h1, h2, _⟩ := rowThree HF.out.hd
  obtain ⟨r0, r1, s0, s1⟩ := rowTwo HF.out.pl
  have gE := HE.out.at.2.2.2.2.1
  rw [hr] at c6
  have hz2 : (10 : Int) < (n : Int) := by omega
  go_quiet (first | (go_at_call 38; refine Calls.quiet_of_same (begunNil b 6 (W.drewN _) c6)))
  go_wp2
  go_region
  all_goals go_wp2
  all_goals exact bodyPost_ret (v := .tuple #[nilPlan, errV a 4]) (results_ct (P := Tryd.prog) Tryd.results73 _ _ (w.heap.size + 1) 71 _ (0, 0) _ _ rfl rfl (rowTwoSet (w := W.drewN _) HF.out.pl) Tryd.underlying71 rfl Tryd.sizePlan) rfl ⟨rfl, ((belowN HF.out.bel _).setCell (p := ⟨w.heap.size + 1, 0, none⟩) (show w.heap.size ≤ w.heap.size + 1 by omega) _).setCell (p := ⟨w.heap.size + 1, 1, none⟩) (show w.heap.size ≤ w.heap.size + 1 by omega) _⟩

theorem PSt.Wf.setTheirs {st : PSt} (h : st.Wf) (th : List UInt8) (ht : th.length = 32) : ({ st with theirs := th } : PSt).Wf :=
  ⟨h.root, h.secret, .inr ht, h.sk, h.sn, h.before, h.rk, h.rn, fun _ => ht, h.kept, h.keys⟩
theorem PSt.Wf.setDraw {st : PSt} (h : st.Wf) (draw : List UInt8) (hd : draw.length = 32) : ({ st with secret := draw, before := st.sn } : PSt).Wf :=
  ⟨h.root, hd, h.theirs, h.sk, h.sn, h.sn, h.rk, h.rn, h.rt, h.kept, h.keys⟩
theorem Own.setP {w : World} {base b o : Nat} {v u : Value} {l : List KK} {st : PSt} (h : Own w base v l) (hp : PBlk w b st u) (x : Value) : Own (w.setCell ⟨b, o, none⟩ x) base v l := h.set hp o x
end Go.Proofs.YtgjdogkciklgkaaDoor
namespace Go.Proofs.YtgjdogkciklgkaaDoor
open Go.RowKit

set_option maxRecDepth 100000 in
set_option maxHeartbeats 2000000 in
theorem planTurnO1 (base b bf n : Nat) (st : PSt) (th draw : List UInt8) (ht : th.length = 32) (hd : draw.length = 32) (hW : st.Wf) (hr : st.rk ≠ []) (hl : bf ≤ st.rn + 10) (hn2 : n ≤ 10) (hbf : bf < 65536) (w : World) (hT : Tab w) (hp : PAt w base b st) :
    Calls Tryd.prog 73 #[.pointer (some ⟨b, 0, none⟩), .agg #[.string (str th), .int .i64 (bf : Int), .int .i64 (n : Int)], .string (str draw)] w fun e w' => ∃ v, e = .returned (.tuple #[v, .nilIface]) ∧ Planned w (reachK (turnIn (elderS st bf) th) n) (turnOut (reachS (turnIn (elderS st bf) th) n) draw) v w' := by
  have hlt := hp.lt
  have HF := hide (PF.start th bf n hp)
  have HT := hide hT
  have hrn := hW.rn
  have hkl := hW.kept
  have HW := hide hW
  have HWE : Hid (PSt.Wf (elderS st bf)) := hW.elderS bf hbf hr
  have hrl : st.rk.length = 32 := hW.rk.resolve_left hr
  clear hp hT
  go_enter Tryd.func73, Tryd.ntmps73
  go_wp2_with fail
  generalize (w.alloc (.cells #[.string (str th), .int .i64 (bf : Int), .int .i64 (n : Int)] 69)).alloc (.cells #[.string ⟨#[]⟩, .pointer none] 71) = W at *
  have c6 := HF.out.p.choose_spec.1.all.2.2.2.2.2.2.1
  have c7 := HF.out.p.choose_spec.1.all.2.2.2.2.2.2.2.1
  obtain ⟨h0, h1, h2, _⟩ := rowThree HF.out.hd
  obtain ⟨r0, r1, s0, s1⟩ := rowTwo HF.out.pl
  have hb1 := notEmpty _ hr
  have hz : decide (IntKind.i64.wrap ((st.rn : Int) + 10) < (bf : Int)) = false := by rw [decide_eq_false_iff_not, show (st.rn : Int) + 10 = ((st.rn + 10 : Nat) : Int) by omega, wrap_i64_nat _ (by omega)]; omega
  have hz2 : decide ((10 : Int) < (n : Int)) = false := by rw [decide_eq_false_iff_not]; omega
  obtain ⟨B, hB⟩ : ∃ B, B = W.heap.size := ⟨_, rfl⟩
  have hBs : w.heap.size + 2 ≤ B := by rw [hB]; exact HF.out.size
  have HCP : Hid (∀ q, Calls Tryd.prog 26 #[.pointer (some ⟨b, 0, none⟩)] (W.drewN q) fun e w' => e = .returned (.pointer (some ⟨B, 0, none⟩)) ∧ PAt w' B B st ∧ Bel B W w') := fun q => copyAt base b q st (by omega) W HF.out.p B hB
  have hbB : b < B := by rw [hB]; exact HF.out.p.lt
  clear hB hW
  go_quiet (first | (go_at_call 38; refine Calls.quiet_of_same (begunP b 6 st.rk (W.drewN _) c6)))
  go_wp2_with fail
  refine (HCP.out _).mono ?_
  rintro e w1 ⟨rfl, hp1, hb1'⟩
  obtain ⟨q1, q2, q3⟩ := HF.out.bel2 hb1' hBs
  have HP1 := hide hp1
  have HB1 := hide q1
  have HH1 := hide q2
  have HL1 := hide q3
  have d6 := (hb1'.cell (p := ⟨b, 6, none⟩) hbB).trans c6
  have d2 := (hb1'.cell (p := ⟨b, 2, none⟩) hbB).trans HF.out.p.choose_spec.1.all.2.2.1
  have HG : Hid (7 < B) := by have h := HT.out.lt; show _ < _; omega
  clear hp1 hb1' q1 q2 q3 c6 c7 h0 h1 h2
  go_wp2_with fail
  refine (begunP b 6 st.rk _ d6).mono ?_
  rintro e w1' ⟨rfl, hw1⟩
  subst w1'
  rw [hb1]
  go_wp2_with fail
  obtain ⟨vb, hPb, hOb⟩ := HP1.out
  have HPb := hide hPb
  have HOb := hide hOb
  have e1 := (rowThree HH1.out).2.1
  have HT1 := hide (HT.out.below HB1.out)
  clear hPb hOb d6
  go_region_held3 (fun w' => w'.cell? ⟨b, 2, none⟩ = some (.string (str st.theirs)) ∧ w'.cell? ⟨w.heap.size, 1, none⟩ = some (.int .i64 (bf : Int))) (refine ⟨?_, ?_⟩ <;> assumption) (first | (go_at_call 98; refine (skipB B 6 st.rn bf st.theirs st.rk (pCells st vb) 67 (by decide) (partySize st vb) (by omega) (by omega) (by omega) HG.out _ HT1.out.drew HPb.out.ch6).mono ?_; rintro e x2 ⟨sv, rfl, ho2, hP2, hC2⟩; obtain ⟨HPx, HOx, HBx⟩ := skipS HPb.out HOb.out (Nat.le_refl _) ho2 hP2 (Chg.ofDrew hC2); have d2' := (HBx.cell (p := ⟨b, 2, none⟩) hbB).trans d2; have e1' := (HBx.cell (p := ⟨w.heap.size, 1, none⟩) (show w.heap.size < B by omega)).trans e1; clear ho2 hP2 hC2) | (go_at_call 97; refine (keepP B B _ _ _ (by show st.kept.length ≤ 1000; omega) (by rw [skipL_length]; omega) _ HPx HOx (Nat.le_refl _)).mono ?_; rintro e x3 ⟨rfl, hp3, hb3⟩; have d2'' := (hb3.cell (p := ⟨b, 2, none⟩) hbB).trans d2'; have e1'' := (hb3.cell (p := ⟨w.heap.size, 1, none⟩) (show w.heap.size < B by omega)).trans e1'))
  have hbx := HBx.trans hb3
  have HQ1 : Hid (PAt x3 B B (elderS st bf)) := hp3
  have HC1 := hide (HB1.out.trans (hbx.mono (show w.heap.size ≤ B by omega)))
  have HI1 := hide ((hbx.block _ (show w.heap.size < B by omega)).trans HH1.out)
  have HM1 := hide ((hbx.block _ (show w.heap.size + 1 < B by omega)).trans HL1.out)
  clear hp3 hb3 hbx HPx HOx HBx d2 d2' d2'' e1 e1' e1'' HP1 HH1 HL1 HT1 HPb HOb
  obtain ⟨v1, hP1, hO1⟩ := HQ1.out
  have c2 := hP1.all.2.2.1
  have f2 := hP1.frozen 2
  have HP2 : Hid (PAt (x3.setCell ⟨B, 2, none⟩ (.string (str th))) B B { (elderS st bf) with theirs := th }) := ⟨v1, hP1.set 2 _ _ _ rfl, hO1.set hP1 2 _⟩
  have HB2 := hide (HC1.out.setCell (p := ⟨B, 2, none⟩) (show w.heap.size ≤ B by omega) (.string (str th)))
  have HH2 : Hid ((x3.setCell ⟨B, 2, none⟩ (.string (str th))).heap[w.heap.size]? = _) := (heap_setCell_other x3 ⟨B, 2, none⟩ _ (.string (str th)) (show w.heap.size ≠ B by omega)).trans HI1.out
  have HL2 : Hid ((x3.setCell ⟨B, 2, none⟩ (.string (str th))).heap[w.heap.size + 1]? = _) := (heap_setCell_other x3 ⟨B, 2, none⟩ _ (.string (str th)) (show w.heap.size + 1 ≠ B by omega)).trans HM1.out
  obtain ⟨g0, _⟩ := rowThree HI1.out
  clear hP1 hO1
  go_wp2_with fail
  generalize x3.setCell ⟨B, 2, none⟩ (.string (str th)) = u1 at *
  clear c2 f2 g0
  have HT2 := hide (HT.out.below HB2.out)
  refine (turnP B B _ (HWE.out.setTheirs th ht) ht _ HT2.out HP2.out (Nat.le_refl _)).mono ?_
  rintro e w2 ⟨rfl, hp3, hb3⟩
  have HB3 := hide (HB2.out.trans (hb3.mono (show w.heap.size ≤ B by omega)))
  have HH3 := hide ((hb3.block _ (show w.heap.size < B by omega)).trans HH2.out)
  have HL3 := hide ((hb3.block _ (show w.heap.size + 1 < B by omega)).trans HL2.out)
  obtain ⟨v3, hP3, hO3⟩ := hp3
  obtain ⟨_, _, _, _, _, _, c6, c7, _⟩ := hP3.all
  have f6 := hP3.frozen 6
  have f7 := hP3.frozen 7
  have HP4 : Hid (PAt ((w2.setCell ⟨B, 6, none⟩ (.string (str (turnC (elderS st bf).root (elderS st bf).secret th)))).setCell ⟨B, 7, none⟩ (.int .i64 0)) B B (turnIn (elderS st bf) th)) := by
    have p1 := hP3.set 6 (.string (str (turnC (elderS st bf).root (elderS st bf).secret th))) { (elderS st bf) with theirs := th, root := turnR (elderS st bf).root (elderS st bf).secret th, rk := turnC (elderS st bf).root (elderS st bf).secret th } v3 rfl
    exact ⟨v3, p1.set 7 _ _ _ rfl, (hO3.set hP3 6 _).set p1 7 _⟩
  have HB4 := hide ((HB3.out.setCell (p := ⟨B, 6, none⟩) (show w.heap.size ≤ B by omega) (.string (str (turnC (elderS st bf).root (elderS st bf).secret th)))).setCell (p := ⟨B, 7, none⟩) (show w.heap.size ≤ B by omega) (.int .i64 0))
  have HH4 : Hid (((w2.setCell ⟨B, 6, none⟩ (.string (str (turnC (elderS st bf).root (elderS st bf).secret th)))).setCell ⟨B, 7, none⟩ (.int .i64 0)).heap[w.heap.size]? = _) := (heap_setCell_other _ ⟨B, 7, none⟩ _ _ (show w.heap.size ≠ B by omega)).trans ((heap_setCell_other w2 ⟨B, 6, none⟩ _ _ (show w.heap.size ≠ B by omega)).trans HH3.out)
  have HL4 : Hid (((w2.setCell ⟨B, 6, none⟩ (.string (str (turnC (elderS st bf).root (elderS st bf).secret th)))).setCell ⟨B, 7, none⟩ (.int .i64 0)).heap[w.heap.size + 1]? = _) := (heap_setCell_other _ ⟨B, 7, none⟩ _ _ (show w.heap.size + 1 ≠ B by omega)).trans ((heap_setCell_other w2 ⟨B, 6, none⟩ _ _ (show w.heap.size + 1 ≠ B by omega)).trans HL3.out)
  obtain ⟨g0, g1, g2, _⟩ := rowThree HH3.out
  have hneB : w.heap.size ≠ B := by omega
  clear hP3 hO3 hb3
  go_wp2_with fail
  generalize (w2.setCell ⟨B, 6, none⟩ (.string (str (turnC (elderS st bf).root (elderS st bf).secret th)))).setCell ⟨B, 7, none⟩ (.int .i64 0) = u2 at *
  clear c6 c7 f6 f7 g0 g1 g2
  have HT4 := hide (HT.out.below HB4.out)
  refine (reachP B B n _ (HWE.out.turnIn th ht) (turnIn_rk _ _) (by omega) _ HT4.out HG.out HP4.out (Nat.le_refl _)).mono ?_
  rintro e w3 ⟨rfl, hp5, hb5⟩
  have HB5 := hide (HB4.out.trans (hb5.mono (show w.heap.size ≤ B by omega)))
  have HL5 := hide ((hb5.block _ (show w.heap.size + 1 < B by omega)).trans HL4.out)
  have HW5 := hide ((HWE.out.turnIn th ht).reach n (by omega) (Nat.zero_le _) (turnIn_rk _ _))
  have HTH : Hid ((reachS (turnIn (elderS st bf) th) n).theirs = th) := rfl
  generalize hky : reachK (turnIn (elderS st bf) th) n = key at *
  have HKY := hide hky
  clear hky
  generalize hs4 : reachS (turnIn (elderS st bf) th) n = s4 at *
  have HS4 := hide hs4
  clear hs4
  obtain ⟨v5, hP5, hO5⟩ := hp5
  obtain ⟨_, c1, _, _, c4, c5, _, _, _⟩ := hP5.all
  have f1 := hP5.frozen 1
  have f5 := hP5.frozen 5
  have HP6 : Hid (PAt ((w3.setCell ⟨B, 1, none⟩ (.string (str draw))).setCell ⟨B, 5, none⟩ (.int .i64 (s4.sn : Int))) B B { s4 with secret := draw, before := s4.sn }) := by
    have p1 := hP5.set 1 (.string (str draw)) { s4 with secret := draw } v5 rfl
    exact ⟨v5, p1.set 5 _ _ _ rfl, (hO5.set hP5 1 _).set p1 5 _⟩
  have HB6 := hide ((HB5.out.setCell (p := ⟨B, 1, none⟩) (show w.heap.size ≤ B by omega) (.string (str draw))).setCell (p := ⟨B, 5, none⟩) (show w.heap.size ≤ B by omega) (.int .i64 (s4.sn : Int)))
  have HL6 : Hid (((w3.setCell ⟨B, 1, none⟩ (.string (str draw))).setCell ⟨B, 5, none⟩ (.int .i64 (s4.sn : Int))).heap[w.heap.size + 1]? = _) := (heap_setCell_other _ ⟨B, 5, none⟩ _ _ (show w.heap.size + 1 ≠ B by omega)).trans ((heap_setCell_other w3 ⟨B, 1, none⟩ _ _ (show w.heap.size + 1 ≠ B by omega)).trans HL5.out)
  clear hP5 hO5 hb5
  go_wp2_with fail
  generalize (w3.setCell ⟨B, 1, none⟩ (.string (str draw))).setCell ⟨B, 5, none⟩ (.int .i64 (s4.sn : Int)) = u3 at *
  clear c1 c4 c5 f1 f5
  have HT6 := hide (HT.out.below HB6.out)
  refine (turnP B B _ (HW5.out.setDraw draw hd) (by show s4.theirs.length = 32; rw [HTH.out]; exact ht) _ HT6.out HP6.out (Nat.le_refl _)).mono ?_
  rintro e w4 ⟨rfl, hp7, hb7⟩
  have HB7 := hide (HB6.out.trans (hb7.mono (show w.heap.size ≤ B by omega)))
  have HL7 := hide ((hb7.block _ (show w.heap.size + 1 < B by omega)).trans HL6.out)
  obtain ⟨v7, hP7, hO7⟩ := hp7
  obtain ⟨_, _, _, c3, c4, _, _, _, _⟩ := hP7.all
  have f3 := hP7.frozen 3
  have f4 := hP7.frozen 4
  have HP8 : Hid (PAt ((w4.setCell ⟨B, 3, none⟩ (.string (str (turnC s4.root draw s4.theirs)))).setCell ⟨B, 4, none⟩ (.int .i64 0)) B B (turnOut s4 draw)) := by
    have p1 := hP7.set 3 (.string (str (turnC s4.root draw s4.theirs))) { s4 with secret := draw, before := s4.sn, root := turnR s4.root draw s4.theirs, sk := turnC s4.root draw s4.theirs } v7 rfl
    exact ⟨v7, p1.set 4 _ _ _ rfl, (hO7.set hP7 3 _).set p1 4 _⟩
  have HB8 := hide ((HB7.out.setCell (p := ⟨B, 3, none⟩) (show w.heap.size ≤ B by omega) (.string (str (turnC s4.root draw s4.theirs)))).setCell (p := ⟨B, 4, none⟩) (show w.heap.size ≤ B by omega) (.int .i64 0))
  have HL8 : Hid (((w4.setCell ⟨B, 3, none⟩ (.string (str (turnC s4.root draw s4.theirs)))).setCell ⟨B, 4, none⟩ (.int .i64 0)).heap[w.heap.size + 1]? = _) := (heap_setCell_other _ ⟨B, 4, none⟩ _ _ (show w.heap.size + 1 ≠ B by omega)).trans ((heap_setCell_other w4 ⟨B, 3, none⟩ _ _ (show w.heap.size + 1 ≠ B by omega)).trans HL7.out)
  obtain ⟨r0, r1, s0, s1⟩ := rowTwo HL7.out
  have hneB1 : w.heap.size + 1 ≠ B := by omega
  have HX := hide (planEnd HB8.out (show w.heap.size ≤ w.heap.size + 1 by omega) HL8.out (HP8.out.base (show w.heap.size ≤ B by omega)) (show B ≠ w.heap.size + 1 by omega) key)
  clear hP7 hO7 hb7
  go_wp2
  exact bodyPost_ret (v := .tuple #[.agg #[.string (str key), .pointer (some ⟨B, 0, none⟩)], .nilIface]) (results_ct (P := Tryd.prog) Tryd.results73 _ _ (w.heap.size + 1) 71 _ (0, 0) _ _ rfl rfl HX.out.1 Tryd.underlying71 rfl Tryd.sizePlan) rfl ⟨_, rfl, B, by rw [HKY.out], by omega, by rw [HS4.out]; exact HX.out.2.1, HX.out.2.2⟩

end Go.Proofs.YtgjdogkciklgkaaDoor
namespace Go.Proofs.YtgjdogkciklgkaaDoor
open Go.RowKit

set_option maxRecDepth 100000 in
set_option maxHeartbeats 2000000 in
theorem planTurnO2 (base b bf n : Nat) (st : PSt) (th draw : List UInt8) (ht : th.length = 32) (hd : draw.length = 32) (hW : st.Wf) (hr : st.rk = []) (hn2 : n ≤ 10) (w : World) (hT : Tab w) (hp : PAt w base b st) :
    Calls Tryd.prog 73 #[.pointer (some ⟨b, 0, none⟩), .agg #[.string (str th), .int .i64 (bf : Int), .int .i64 (n : Int)], .string (str draw)] w fun e w' => ∃ v, e = .returned (.tuple #[v, .nilIface]) ∧ Planned w (reachK (turnIn (st) th) n) (turnOut (reachS (turnIn (st) th) n) draw) v w' := by
  have hlt := hp.lt
  have HF := hide (PF.start th bf n hp)
  have HT := hide hT
  have hrn := hW.rn
  have hkl := hW.kept
  have HW := hide hW
  have HWE : Hid (PSt.Wf (st)) := hW
  clear hp hT
  go_enter Tryd.func73, Tryd.ntmps73
  go_wp2_with fail
  generalize (w.alloc (.cells #[.string (str th), .int .i64 (bf : Int), .int .i64 (n : Int)] 69)).alloc (.cells #[.string ⟨#[]⟩, .pointer none] 71) = W at *
  have c6 := HF.out.p.choose_spec.1.all.2.2.2.2.2.2.1
  have c7 := HF.out.p.choose_spec.1.all.2.2.2.2.2.2.2.1
  obtain ⟨h0, h1, h2, _⟩ := rowThree HF.out.hd
  obtain ⟨r0, r1, s0, s1⟩ := rowTwo HF.out.pl
  rw [hr] at c6
  have hz2 : decide ((10 : Int) < (n : Int)) = false := by rw [decide_eq_false_iff_not]; omega
  obtain ⟨B, hB⟩ : ∃ B, B = W.heap.size := ⟨_, rfl⟩
  have hBs : w.heap.size + 2 ≤ B := by rw [hB]; exact HF.out.size
  have HCP : Hid (∀ q, Calls Tryd.prog 26 #[.pointer (some ⟨b, 0, none⟩)] (W.drewN q) fun e w' => e = .returned (.pointer (some ⟨B, 0, none⟩)) ∧ PAt w' B B st ∧ Bel B W w') := fun q => copyAt base b q st (by omega) W HF.out.p B hB
  have hbB : b < B := by rw [hB]; exact HF.out.p.lt
  clear hB hW
  go_quiet (first | (go_at_call 38; refine Calls.quiet_of_same (begunNil b 6 (W.drewN _) c6)))
  go_wp2_with fail
  refine (HCP.out _).mono ?_
  rintro e w1 ⟨rfl, hp1, hb1'⟩
  obtain ⟨q1, q2, q3⟩ := HF.out.bel2 hb1' hBs
  have HP1 := hide hp1
  have HB1 := hide q1
  have HH1 := hide q2
  have HL1 := hide q3
  have d6 := (hb1'.cell (p := ⟨b, 6, none⟩) hbB).trans c6
  have d2 := (hb1'.cell (p := ⟨b, 2, none⟩) hbB).trans HF.out.p.choose_spec.1.all.2.2.1
  have HG : Hid (7 < B) := by have h := HT.out.lt; show _ < _; omega
  clear hp1 hb1' q1 q2 q3 c6 c7 h0 h1 h2
  go_wp2_with fail
  refine (begunNil b 6 _ d6).mono ?_
  rintro e w1' ⟨rfl, hw1⟩
  subst w1'
  clear d6 d2
  obtain ⟨v1, hP1, hO1⟩ := HP1.out
  have c2 := hP1.all.2.2.1
  have f2 := hP1.frozen 2
  have HP2 : Hid (PAt (w1.setCell ⟨B, 2, none⟩ (.string (str th))) B B { (st) with theirs := th }) := ⟨v1, hP1.set 2 _ _ _ rfl, hO1.set hP1 2 _⟩
  have HB2 := hide (HB1.out.setCell (p := ⟨B, 2, none⟩) (show w.heap.size ≤ B by omega) (.string (str th)))
  have HH2 : Hid ((w1.setCell ⟨B, 2, none⟩ (.string (str th))).heap[w.heap.size]? = _) := (heap_setCell_other w1 ⟨B, 2, none⟩ _ (.string (str th)) (show w.heap.size ≠ B by omega)).trans HH1.out
  have HL2 : Hid ((w1.setCell ⟨B, 2, none⟩ (.string (str th))).heap[w.heap.size + 1]? = _) := (heap_setCell_other w1 ⟨B, 2, none⟩ _ (.string (str th)) (show w.heap.size + 1 ≠ B by omega)).trans HL1.out
  obtain ⟨g0, _⟩ := rowThree HH1.out
  clear hP1 hO1
  go_wp2_with fail
  generalize w1.setCell ⟨B, 2, none⟩ (.string (str th)) = u1 at *
  clear c2 f2 g0
  have HT2 := hide (HT.out.below HB2.out)
  refine (turnP B B _ (HWE.out.setTheirs th ht) ht _ HT2.out HP2.out (Nat.le_refl _)).mono ?_
  rintro e w2 ⟨rfl, hp3, hb3⟩
  have HB3 := hide (HB2.out.trans (hb3.mono (show w.heap.size ≤ B by omega)))
  have HH3 := hide ((hb3.block _ (show w.heap.size < B by omega)).trans HH2.out)
  have HL3 := hide ((hb3.block _ (show w.heap.size + 1 < B by omega)).trans HL2.out)
  obtain ⟨v3, hP3, hO3⟩ := hp3
  obtain ⟨_, _, _, _, _, _, c6, c7, _⟩ := hP3.all
  have f6 := hP3.frozen 6
  have f7 := hP3.frozen 7
  have HP4 : Hid (PAt ((w2.setCell ⟨B, 6, none⟩ (.string (str (turnC (st).root (st).secret th)))).setCell ⟨B, 7, none⟩ (.int .i64 0)) B B (turnIn (st) th)) := by
    have p1 := hP3.set 6 (.string (str (turnC (st).root (st).secret th))) { (st) with theirs := th, root := turnR (st).root (st).secret th, rk := turnC (st).root (st).secret th } v3 rfl
    exact ⟨v3, p1.set 7 _ _ _ rfl, (hO3.set hP3 6 _).set p1 7 _⟩
  have HB4 := hide ((HB3.out.setCell (p := ⟨B, 6, none⟩) (show w.heap.size ≤ B by omega) (.string (str (turnC (st).root (st).secret th)))).setCell (p := ⟨B, 7, none⟩) (show w.heap.size ≤ B by omega) (.int .i64 0))
  have HH4 : Hid (((w2.setCell ⟨B, 6, none⟩ (.string (str (turnC (st).root (st).secret th)))).setCell ⟨B, 7, none⟩ (.int .i64 0)).heap[w.heap.size]? = _) := (heap_setCell_other _ ⟨B, 7, none⟩ _ _ (show w.heap.size ≠ B by omega)).trans ((heap_setCell_other w2 ⟨B, 6, none⟩ _ _ (show w.heap.size ≠ B by omega)).trans HH3.out)
  have HL4 : Hid (((w2.setCell ⟨B, 6, none⟩ (.string (str (turnC (st).root (st).secret th)))).setCell ⟨B, 7, none⟩ (.int .i64 0)).heap[w.heap.size + 1]? = _) := (heap_setCell_other _ ⟨B, 7, none⟩ _ _ (show w.heap.size + 1 ≠ B by omega)).trans ((heap_setCell_other w2 ⟨B, 6, none⟩ _ _ (show w.heap.size + 1 ≠ B by omega)).trans HL3.out)
  obtain ⟨g0, g1, g2, _⟩ := rowThree HH3.out
  have hneB : w.heap.size ≠ B := by omega
  clear hP3 hO3 hb3
  go_wp2_with fail
  generalize (w2.setCell ⟨B, 6, none⟩ (.string (str (turnC (st).root (st).secret th)))).setCell ⟨B, 7, none⟩ (.int .i64 0) = u2 at *
  clear c6 c7 f6 f7 g0 g1 g2
  have HT4 := hide (HT.out.below HB4.out)
  refine (reachP B B n _ (HWE.out.turnIn th ht) (turnIn_rk _ _) (by omega) _ HT4.out HG.out HP4.out (Nat.le_refl _)).mono ?_
  rintro e w3 ⟨rfl, hp5, hb5⟩
  have HB5 := hide (HB4.out.trans (hb5.mono (show w.heap.size ≤ B by omega)))
  have HL5 := hide ((hb5.block _ (show w.heap.size + 1 < B by omega)).trans HL4.out)
  have HW5 := hide ((HWE.out.turnIn th ht).reach n (by omega) (Nat.zero_le _) (turnIn_rk _ _))
  have HTH : Hid ((reachS (turnIn (st) th) n).theirs = th) := rfl
  generalize hky : reachK (turnIn (st) th) n = key at *
  have HKY := hide hky
  clear hky
  generalize hs4 : reachS (turnIn (st) th) n = s4 at *
  have HS4 := hide hs4
  clear hs4
  obtain ⟨v5, hP5, hO5⟩ := hp5
  obtain ⟨_, c1, _, _, c4, c5, _, _, _⟩ := hP5.all
  have f1 := hP5.frozen 1
  have f5 := hP5.frozen 5
  have HP6 : Hid (PAt ((w3.setCell ⟨B, 1, none⟩ (.string (str draw))).setCell ⟨B, 5, none⟩ (.int .i64 (s4.sn : Int))) B B { s4 with secret := draw, before := s4.sn }) := by
    have p1 := hP5.set 1 (.string (str draw)) { s4 with secret := draw } v5 rfl
    exact ⟨v5, p1.set 5 _ _ _ rfl, (hO5.set hP5 1 _).set p1 5 _⟩
  have HB6 := hide ((HB5.out.setCell (p := ⟨B, 1, none⟩) (show w.heap.size ≤ B by omega) (.string (str draw))).setCell (p := ⟨B, 5, none⟩) (show w.heap.size ≤ B by omega) (.int .i64 (s4.sn : Int)))
  have HL6 : Hid (((w3.setCell ⟨B, 1, none⟩ (.string (str draw))).setCell ⟨B, 5, none⟩ (.int .i64 (s4.sn : Int))).heap[w.heap.size + 1]? = _) := (heap_setCell_other _ ⟨B, 5, none⟩ _ _ (show w.heap.size + 1 ≠ B by omega)).trans ((heap_setCell_other w3 ⟨B, 1, none⟩ _ _ (show w.heap.size + 1 ≠ B by omega)).trans HL5.out)
  clear hP5 hO5 hb5
  go_wp2_with fail
  generalize (w3.setCell ⟨B, 1, none⟩ (.string (str draw))).setCell ⟨B, 5, none⟩ (.int .i64 (s4.sn : Int)) = u3 at *
  clear c1 c4 c5 f1 f5
  have HT6 := hide (HT.out.below HB6.out)
  refine (turnP B B _ (HW5.out.setDraw draw hd) (by show s4.theirs.length = 32; rw [HTH.out]; exact ht) _ HT6.out HP6.out (Nat.le_refl _)).mono ?_
  rintro e w4 ⟨rfl, hp7, hb7⟩
  have HB7 := hide (HB6.out.trans (hb7.mono (show w.heap.size ≤ B by omega)))
  have HL7 := hide ((hb7.block _ (show w.heap.size + 1 < B by omega)).trans HL6.out)
  obtain ⟨v7, hP7, hO7⟩ := hp7
  obtain ⟨_, _, _, c3, c4, _, _, _, _⟩ := hP7.all
  have f3 := hP7.frozen 3
  have f4 := hP7.frozen 4
  have HP8 : Hid (PAt ((w4.setCell ⟨B, 3, none⟩ (.string (str (turnC s4.root draw s4.theirs)))).setCell ⟨B, 4, none⟩ (.int .i64 0)) B B (turnOut s4 draw)) := by
    have p1 := hP7.set 3 (.string (str (turnC s4.root draw s4.theirs))) { s4 with secret := draw, before := s4.sn, root := turnR s4.root draw s4.theirs, sk := turnC s4.root draw s4.theirs } v7 rfl
    exact ⟨v7, p1.set 4 _ _ _ rfl, (hO7.set hP7 3 _).set p1 4 _⟩
  have HB8 := hide ((HB7.out.setCell (p := ⟨B, 3, none⟩) (show w.heap.size ≤ B by omega) (.string (str (turnC s4.root draw s4.theirs)))).setCell (p := ⟨B, 4, none⟩) (show w.heap.size ≤ B by omega) (.int .i64 0))
  have HL8 : Hid (((w4.setCell ⟨B, 3, none⟩ (.string (str (turnC s4.root draw s4.theirs)))).setCell ⟨B, 4, none⟩ (.int .i64 0)).heap[w.heap.size + 1]? = _) := (heap_setCell_other _ ⟨B, 4, none⟩ _ _ (show w.heap.size + 1 ≠ B by omega)).trans ((heap_setCell_other w4 ⟨B, 3, none⟩ _ _ (show w.heap.size + 1 ≠ B by omega)).trans HL7.out)
  obtain ⟨r0, r1, s0, s1⟩ := rowTwo HL7.out
  have hneB1 : w.heap.size + 1 ≠ B := by omega
  have HX := hide (planEnd HB8.out (show w.heap.size ≤ w.heap.size + 1 by omega) HL8.out (HP8.out.base (show w.heap.size ≤ B by omega)) (show B ≠ w.heap.size + 1 by omega) key)
  clear hP7 hO7 hb7
  go_wp2
  exact bodyPost_ret (v := .tuple #[.agg #[.string (str key), .pointer (some ⟨B, 0, none⟩)], .nilIface]) (results_ct (P := Tryd.prog) Tryd.results73 _ _ (w.heap.size + 1) 71 _ (0, 0) _ _ rfl rfl HX.out.1 Tryd.underlying71 rfl Tryd.sizePlan) rfl ⟨_, rfl, B, by rw [HKY.out], by omega, by rw [HS4.out]; exact HX.out.2.1, HX.out.2.2⟩

end Go.Proofs.YtgjdogkciklgkaaDoor
