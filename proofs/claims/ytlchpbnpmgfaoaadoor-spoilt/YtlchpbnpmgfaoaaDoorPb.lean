/-
  Package ratchet's turn.
-/
import Derived.Test.YtlchpbnpmgfaoaaDoorPa
import Derived.Test.YtlchpbnpmgfaoaaDoorAg
namespace Go.Proofs.YtlchpbnpmgfaoaaDoor
open Go.RowKit

/-- Party b, and two chains that are not begun at H and H + 1. -/
structure TF (W : World) (b H : Nat) (st : PSt) (v : Value) : Prop where
  p : PBlk W b st v
  t2 : W.heap[H]? = some (.cells #[.string ⟨#[]⟩, .int .i64 0] 64 (0, 0))
  t3 : W.heap[H + 1]? = some (.cells #[.string ⟨#[]⟩, .int .i64 0] 64 (0, 0))
theorem TF.below {W W' : World} {b H : Nat} {st : PSt} {v : Value} (h : TF W b H st v) (hb : Bel W.heap.size W W') : TF W' b H st v :=
  ⟨h.p.below hb, (hb.block H (Array.getElem?_eq_some_iff.1 h.t2).1).trans h.t2, (hb.block (H + 1) (Array.getElem?_eq_some_iff.1 h.t3).1).trans h.t3⟩
theorem TF.cells {W : World} {b H : Nat} {st : PSt} {v : Value} (h : TF W b H st v) : (W.cell? ⟨b, 1, none⟩ = some (.string (str st.secret)) ∧ W.cell? ⟨b, 2, none⟩ = some (.string (str st.theirs))) ∧ W.cell? ⟨b, 0, none⟩ = some (.string (str st.root)) ∧ W.frozen? ⟨b, 0, none⟩ = false ∧
    W.cell? ⟨H, 0, none⟩ = some (.string ⟨#[]⟩) ∧ W.cell? ⟨H, 1, none⟩ = some (.int .i64 0) ∧ W.frozen? ⟨H, 0, none⟩ = false ∧ W.frozen? ⟨H, 1, none⟩ = false ∧ W.cell? ⟨H + 1, 0, none⟩ = some (.string ⟨#[]⟩) ∧ W.cell? ⟨H + 1, 1, none⟩ = some (.int .i64 0) ∧ W.frozen? ⟨H + 1, 0, none⟩ = false :=
  ⟨⟨h.p.cell 1, h.p.cell 2⟩, h.p.cell 0, h.p.frozen 0, cell_of_row W H 0 _ _ (0, 0) h.t2, cell_of_row W H 1 _ _ (0, 0) h.t2, frozen_of_row W H 0 _ _ h.t2, frozen_of_row W H 1 _ _ h.t2, cell_of_row W (H + 1) 0 _ _ (0, 0) h.t3, cell_of_row W (H + 1) 1 _ _ (0, 0) h.t3, frozen_of_row W (H + 1) 0 _ _ h.t3⟩
theorem TF.drew {W : World} {b H : Nat} {st : PSt} {v : Value} (h : TF W b H st v) : TF W.drew b H st v := ⟨h.p, h.t2, h.t3⟩

theorem Tryd.sizeChain : (Tryd.prog.info? 64).map (·.size) = some 2 := by kernel_rfl
theorem chgSet (b o : Nat) (w : World) (x : Value) : Chg b w (w.setCell ⟨b, o, none⟩ x) := (Chg.of_bel (Bel.refl _ _)).setCell o x
theorem turnEnd {w w3 : World} {base b H : Nat} {st : PSt} {v : Value} (tf : TF w3 b H st v) (ho : Own w3 base v st.kept) (hw : Bel H w w3) (hlt : b < H) (hB : base ≤ b) (R C : List UInt8) :
    ((((w3.setCell ⟨b, 0, none⟩ (.string (str R))).setCell ⟨H + 1, 0, none⟩ (.string (str C))).setCell ⟨H, 0, none⟩ (.string (str C))).setCell ⟨H, 1, none⟩ (.int .i64 0)).heap[H]? = some (.cells #[.string (str C), .int .i64 0] 64 (0, 0)) ∧
    PAt ((((w3.setCell ⟨b, 0, none⟩ (.string (str R))).setCell ⟨H + 1, 0, none⟩ (.string (str C))).setCell ⟨H, 0, none⟩ (.string (str C))).setCell ⟨H, 1, none⟩ (.int .i64 0)) base b { st with root := R } ∧
    Bel base w ((((w3.setCell ⟨b, 0, none⟩ (.string (str R))).setCell ⟨H + 1, 0, none⟩ (.string (str C))).setCell ⟨H, 0, none⟩ (.string (str C))).setCell ⟨H, 1, none⟩ (.int .i64 0)) := by
  have p1 : PBlk (w3.setCell ⟨b, 0, none⟩ (.string (str R))) b { st with root := R } v := tf.p.set 0 _ _ _ rfl
  have o1 := ho.chg (chgSet b 0 w3 (.string (str R))) tf.p (by decide)
  have t21 := (heap_setCell_other w3 ⟨b, 0, none⟩ H (.string (str R)) (show H ≠ b by omega)).trans tf.t2
  have t31 := (heap_setCell_other w3 ⟨b, 0, none⟩ (H + 1) (.string (str R)) (show H + 1 ≠ b by omega)).trans tf.t3
  have b1 := (hw.mono (show base ≤ H by omega)).setCell (p := ⟨b, 0, none⟩) hB (.string (str R))
  generalize w3.setCell ⟨b, 0, none⟩ (.string (str R)) = u1 at *
  have p2 : PBlk (u1.setCell ⟨H + 1, 0, none⟩ (.string (str C))) b { st with root := R } v := (heap_setCell_other u1 ⟨H + 1, 0, none⟩ b _ (show b ≠ H + 1 by omega)).trans p1
  have o2 := o1.chg (chgSet (H + 1) 0 u1 (.string (str C))) t31 (by decide)
  have t22 := (heap_setCell_other u1 ⟨H + 1, 0, none⟩ H (.string (str C)) (show H ≠ H + 1 by omega)).trans t21
  have b2 := b1.setCell (p := ⟨H + 1, 0, none⟩) (show base ≤ H + 1 by omega) (.string (str C))
  generalize u1.setCell ⟨H + 1, 0, none⟩ (.string (str C)) = u2 at *
  have p3 : PBlk (u2.setCell ⟨H, 0, none⟩ (.string (str C))) b { st with root := R } v := (heap_setCell_other u2 ⟨H, 0, none⟩ b _ (show b ≠ H by omega)).trans p2
  have o3 := o2.chg (chgSet H 0 u2 (.string (str C))) t22 (by decide)
  have t23 := heap_setCell_same u2 H 0 _ _ (.string (str C)) t22
  have b3 := b2.setCell (p := ⟨H, 0, none⟩) (show base ≤ H by omega) (.string (str C))
  generalize u2.setCell ⟨H, 0, none⟩ (.string (str C)) = u3 at *
  have p4 : PBlk (u3.setCell ⟨H, 1, none⟩ (.int .i64 0)) b { st with root := R } v := (heap_setCell_other u3 ⟨H, 1, none⟩ b _ (show b ≠ H by omega)).trans p3
  exact ⟨heap_setCell_same u3 H 1 _ _ (.int .i64 0) t23, ⟨v, p4, o3.chg (chgSet H 1 u3 (.int .i64 0)) t23 (by decide)⟩, b3.setCell (p := ⟨H, 1, none⟩) (show base ≤ H by omega) (.int .i64 0)⟩

set_option maxRecDepth 100000 in
set_option maxHeartbeats 4000000 in
theorem turnP (base b : Nat) (st : PSt) (hW : st.Wf) (ht : st.theirs.length = 32) (w : World) (hT : Tab w) (hp : PAt w base b st) (hB : base ≤ b) :
    Calls Tryd.prog 67 #[.pointer (some ⟨b, 0, none⟩)] w fun e w' => e = .returned (.agg #[.string (str (turnC st.root st.secret st.theirs)), .int .i64 0]) ∧ PAt w' base b { st with root := turnR st.root st.secret st.theirs } ∧ Bel base w w' := by
  obtain ⟨v, hP, hO⟩ := hp
  have hlt := hP.lt
  have hne0 : b ≠ w.heap.size := by omega
  have hne1 : b ≠ w.heap.size + 1 := by omega
  have hrl := hW.root
  have hsl := hW.secret
  have HW0 : Hid (Bel w.heap.size w ((w.alloc (.cells #[.string ⟨#[]⟩, .int .i64 0] 64)).alloc (.cells #[.string ⟨#[]⟩, .int .i64 0] 64))) := ((Bel.refl _ _).alloc (Nat.le_refl _) _).alloc (by simp) _
  have TF0 : Hid (TF ((w.alloc (.cells #[.string ⟨#[]⟩, .int .i64 0] 64)).alloc (.cells #[.string ⟨#[]⟩, .int .i64 0] 64)) b w.heap.size st v) := ⟨hP.below HW0.out, heap_alloc2_old w _ _, heap_alloc2_new w _ _⟩
  have HO0 := hide (hO.below HW0.out)
  have HT := hide hT
  clear hP hO hT hW
  have HD : Hid (turnD st.root st.secret st.theirs = hkdf st.root (x25519 st.secret st.theirs) ratchetI 64) := rfl
  have HR : Hid (turnR st.root st.secret st.theirs = (turnD st.root st.secret st.theirs).take 32) := rfl
  have HC : Hid (turnC st.root st.secret st.theirs = (turnD st.root st.secret st.theirs).drop 32) := rfl
  have lD := turnD_length st.root st.secret st.theirs
  have lX := x25519_length st.secret st.theirs
  go_enter Tryd.func67, Tryd.ntmps67
  go_wp2_with fail
  generalize (w.alloc (.cells #[.string ⟨#[]⟩, .int .i64 0] 64)).alloc (.cells #[.string ⟨#[]⟩, .int .i64 0] 64) = W at *
  obtain ⟨⟨c1, c2⟩, c0, _⟩ := TF0.out.cells
  rw [show (⟨#[114, 97, 116, 99, 104, 101, 116]⟩ : ByteArray) = str ratchetI from rfl]
  generalize hx : x25519 st.secret st.theirs = sx at *
  generalize hd : turnD st.root st.secret st.theirs = dx at *
  have HX := hide hx
  clear hx hd
  go_region_with (first | (go_at_call 30; refine (sharedP st.secret st.theirs hsl ht _).mono ?_; rintro e w1 ⟨rfl, hb1⟩; rw [HX.out]; have TF1 := hide (TF0.out.below (Bel.ofDrew hb1)); have HW1 := hide (HW0.out.trans ((Bel.ofDrew hb1).mono HW0.out.size)); have HO1 := hide (HO0.out.below (Bel.ofDrew hb1)); have d0 := TF1.out.cells.2.1; clear hb1 c0 c1 c2) | (go_at_call 64; refine (deriveP st.root sx ratchetI 64 (by omega) (by omega) (by decide) (by decide) _ (HT.out.below HW1.out)).mono ?_; rintro e w2 ⟨rfl, hb2⟩; rw [← HD.out]; have TF2 := hide (TF1.out.below hb2); have HW2 := hide (HW1.out.trans (hb2.mono HW1.out.size)); have HO2 := hide (HO1.out.below hb2); clear hb2 d0) | (go_at_call 91; refine (halvesP dx lD _).mono ?_; rintro e w3 ⟨rfl, hb3⟩; have TF3 := hide (TF2.out.below hb3); have HW3 := hide (HW2.out.trans (hb3.mono HW2.out.size)); have HO3 := hide (HO2.out.below hb3); obtain ⟨⟨_, _⟩, c0, f0, _, _, _, _, x0, _, y0⟩ := TF3.out.cells; clear hb3))
  all_goals (clear c0 f0 x0 y0; obtain ⟨⟨_, _⟩, c0, f0, a0, a1, b0, b1, x0, x1, y0⟩ := TF3.out.cells)
  all_goals go_wp2
  all_goals (rw [HR.out, HC.out]; obtain ⟨q1, q2, q3⟩ := turnEnd TF3.out HO3.out HW3.out hlt hB (List.take 32 dx) (List.drop 32 dx); exact bodyPost_ret (v := .agg #[.string (str (List.drop 32 dx)), .int .i64 0]) (results_cell_row (P := Tryd.prog) Tryd.results67 _ _ w.heap.size 64 _ (0, 0) _ rfl q1 Tryd.underlying64 rfl Tryd.sizeChain) rfl ⟨rfl, q2, q3⟩)
end Go.Proofs.YtlchpbnpmgfaoaaDoor
namespace Go.Proofs.YtlchpbnpmgfaoaaDoor
open Go.RowKit

theorem begunNil (b o : Nat) (w : World) (c0 : w.cell? ⟨b, o, none⟩ = some (.string (str []))) :
    Calls Tryd.prog 38 #[.pointer (some ⟨b, o, none⟩)] w fun e w' => e = .returned (.bool false) ∧ w' = w := begunP b o [] w c0

set_option maxRecDepth 100000 in
set_option maxHeartbeats 1000000 in
theorem planTurnS1 (base b bf n : Nat) (st : PSt) (th draw : List UInt8) (hr : st.rk ≠ []) (hn : st.rn + 10 < bf) (hb : st.rn ≤ 70000) (a : Nat → Addr) (w : World) (hE : Errs w a) (hp : PAt w base b st) :
    Calls Tryd.prog 72 #[.pointer (some ⟨b, 0, none⟩), .agg #[.string (str th), .int .i64 (bf : Int), .int .i64 (n : Int)], .string (str draw)] w fun e w' => e = .returned (.tuple #[nilPlan, errV a 4]) ∧ Bel w.heap.size w w' := by
  have hlt := hp.lt
  have HF := hide (PF.start th bf n hp)
  have HE := hide (hE.below HF.out.bel)
  have hgl : 4 ≠ w.heap.size + 1 := by have h : 4 < w.heap.size := cell_lt hE.at.2.2.2.2.1; omega
  clear hp hE
  go_enter Tryd.func72, Tryd.ntmps72
  go_wp2_with fail
  generalize (w.alloc (.cells #[.string (str th), .int .i64 (bf : Int), .int .i64 (n : Int)] 69)).alloc (.cells #[.string ⟨#[]⟩, .pointer none] 72) = W at *
  have c6 := HF.out.p.choose_spec.1.all.2.2.2.2.2.2.1
  have c7 := HF.out.p.choose_spec.1.all.2.2.2.2.2.2.2.1
  obtain ⟨h0, h1, h2, _⟩ := rowThree HF.out.hd
  obtain ⟨r0, r1, s0, s1⟩ := rowTwo HF.out.pl
  have gE := HE.out.at.2.2.2.2.1
  have hb1 := notEmpty _ hr
  have hz : decide (IntKind.i64.wrap ((st.rn : Int) + 10) < (bf : Int)) = true := by rw [decide_eq_true_iff, show (st.rn : Int) + 10 = ((st.rn + 10 : Nat) : Int) by omega, wrap_i64_nat _ (by omega)]; omega
  go_quiet (first | (go_at_call 38; refine Calls.quiet_of_same (begunP b 6 st.rk (W.drewN _) c6)))
  go_wp2
  go_region
  all_goals go_wp2
  all_goals exact bodyPost_ret (v := .tuple #[nilPlan, errV a 4]) (results_ct (P := Tryd.prog) Tryd.results72 _ _ (w.heap.size + 1) 72 _ (0, 0) _ _ rfl rfl (rowTwoSet (w := W.drewN _) HF.out.pl) Tryd.underlying72 rfl Tryd.sizePlan) rfl ⟨rfl, ((belowN HF.out.bel _).setCell (p := ⟨w.heap.size + 1, 0, none⟩) (show w.heap.size ≤ w.heap.size + 1 by omega) _).setCell (p := ⟨w.heap.size + 1, 1, none⟩) (show w.heap.size ≤ w.heap.size + 1 by omega) _⟩

set_option maxRecDepth 100000 in
set_option maxHeartbeats 1000000 in
theorem planTurnS2 (base b bf n : Nat) (st : PSt) (th draw : List UInt8) (hr : st.rk ≠ []) (hn : ¬ st.rn + 10 < bf) (hn2 : 10 < n) (hb : st.rn ≤ 70000) (a : Nat → Addr) (w : World) (hE : Errs w a) (hp : PAt w base b st) :
    Calls Tryd.prog 72 #[.pointer (some ⟨b, 0, none⟩), .agg #[.string (str th), .int .i64 (bf : Int), .int .i64 (n : Int)], .string (str draw)] w fun e w' => e = .returned (.tuple #[nilPlan, errV a 4]) ∧ Bel w.heap.size w w' := by
  have hlt := hp.lt
  have HF := hide (PF.start th bf n hp)
  have HE := hide (hE.below HF.out.bel)
  have hgl : 4 ≠ w.heap.size + 1 := by have h : 4 < w.heap.size := cell_lt hE.at.2.2.2.2.1; omega
  clear hp hE
  go_enter Tryd.func72, Tryd.ntmps72
  go_wp2_with fail
  generalize (w.alloc (.cells #[.string (str th), .int .i64 (bf : Int), .int .i64 (n : Int)] 69)).alloc (.cells #[.string ⟨#[]⟩, .pointer none] 72) = W at *
  have c6 := HF.out.p.choose_spec.1.all.2.2.2.2.2.2.1
  have c7 := HF.out.p.choose_spec.1.all.2.2.2.2.2.2.2.1
  obtain ⟨h0, h1, h2, _⟩ := rowThree HF.out.hd
  obtain ⟨r0, r1, s0, s1⟩ := rowTwo HF.out.pl
  have gE := HE.out.at.2.2.2.2.1
  have hb1 := notEmpty _ hr
  have hz : decide (IntKind.i64.wrap ((st.rn : Int) + 10) < (bf : Int)) = false := by rw [decide_eq_false_iff_not, show (st.rn : Int) + 10 = ((st.rn + 10 : Nat) : Int) by omega, wrap_i64_nat _ (by omega)]; omega
  have hz2 : (10 : Int) < (n : Int) := by omega
  go_quiet (first | (go_at_call 38; refine Calls.quiet_of_same (begunP b 6 st.rk (W.drewN _) c6)))
  go_wp2
  go_region
  all_goals go_wp2
  all_goals exact bodyPost_ret (v := .tuple #[nilPlan, errV a 4]) (results_ct (P := Tryd.prog) Tryd.results72 _ _ (w.heap.size + 1) 72 _ (0, 0) _ _ rfl rfl (rowTwoSet (w := W.drewN _) HF.out.pl) Tryd.underlying72 rfl Tryd.sizePlan) rfl ⟨rfl, ((belowN HF.out.bel _).setCell (p := ⟨w.heap.size + 1, 0, none⟩) (show w.heap.size ≤ w.heap.size + 1 by omega) _).setCell (p := ⟨w.heap.size + 1, 1, none⟩) (show w.heap.size ≤ w.heap.size + 1 by omega) _⟩

set_option maxRecDepth 100000 in
set_option maxHeartbeats 1000000 in
theorem planTurnS3 (base b bf n : Nat) (st : PSt) (th draw : List UInt8) (hr : st.rk = []) (hn2 : 10 < n) (a : Nat → Addr) (w : World) (hE : Errs w a) (hp : PAt w base b st) :
    Calls Tryd.prog 72 #[.pointer (some ⟨b, 0, none⟩), .agg #[.string (str th), .int .i64 (bf : Int), .int .i64 (n : Int)], .string (str draw)] w fun e w' => e = .returned (.tuple #[nilPlan, errV a 4]) ∧ Bel w.heap.size w w' := by
  have hlt := hp.lt
  have HF := hide (PF.start th bf n hp)
  have HE := hide (hE.below HF.out.bel)
  have hgl : 4 ≠ w.heap.size + 1 := by have h : 4 < w.heap.size := cell_lt hE.at.2.2.2.2.1; omega
  clear hp hE
  go_enter Tryd.func72, Tryd.ntmps72
  go_wp2_with fail
  generalize (w.alloc (.cells #[.string (str th), .int .i64 (bf : Int), .int .i64 (n : Int)] 69)).alloc (.cells #[.string ⟨#[]⟩, .pointer none] 72) = W at *
  have c6 := HF.out.p.choose_spec.1.all.2.2.2.2.2.2.1
  have c7 := HF.out.p.choose_spec.1.all.2.2.2.2.2.2.2.1
  obtain ⟨h0, h1, h2, _⟩ := rowThree HF.out.hd
  obtain ⟨r0, r1, s0, s1⟩ := rowTwo HF.out.pl
  have gE := HE.out.at.2.2.2.2.1
  rw [hr] at c6
  have hz2 : (10 : Int) < (n : Int) := by omega
  go_quiet (first | (go_at_call 38; refine Calls.quiet_of_same (begunNil b 6 (W.drewN _) c6)))
  go_wp2
  go_region
  all_goals go_wp2
  all_goals exact bodyPost_ret (v := .tuple #[nilPlan, errV a 4]) (results_ct (P := Tryd.prog) Tryd.results72 _ _ (w.heap.size + 1) 72 _ (0, 0) _ _ rfl rfl (rowTwoSet (w := W.drewN _) HF.out.pl) Tryd.underlying72 rfl Tryd.sizePlan) rfl ⟨rfl, ((belowN HF.out.bel _).setCell (p := ⟨w.heap.size + 1, 0, none⟩) (show w.heap.size ≤ w.heap.size + 1 by omega) _).setCell (p := ⟨w.heap.size + 1, 1, none⟩) (show w.heap.size ≤ w.heap.size + 1 by omega) _⟩

theorem PSt.Wf.setTheirs {st : PSt} (h : st.Wf) (th : List UInt8) (ht : th.length = 32) : ({ st with theirs := th } : PSt).Wf :=
  ⟨h.root, h.secret, .inr ht, h.sk, h.sn, h.before, h.rk, h.rn, fun _ => ht, h.kept, h.keys⟩
theorem PSt.Wf.setDraw {st : PSt} (h : st.Wf) (draw : List UInt8) (hd : draw.length = 32) : ({ st with secret := draw, before := st.sn } : PSt).Wf :=
  ⟨h.root, hd, h.theirs, h.sk, h.sn, h.sn, h.rk, h.rn, h.rt, h.kept, h.keys⟩
theorem Own.setP {w : World} {base b o : Nat} {v u : Value} {l : List KK} {st : PSt} (h : Own w base v l) (hp : PBlk w b st u) (x : Value) : Own (w.setCell ⟨b, o, none⟩ x) base v l := h.set hp o x
end Go.Proofs.YtlchpbnpmgfaoaaDoor
namespace Go.Proofs.YtlchpbnpmgfaoaaDoor
open Go.RowKit

set_option maxRecDepth 100000 in
set_option maxHeartbeats 2000000 in
theorem planTurnO1 (base b bf n : Nat) (st : PSt) (th draw : List UInt8) (ht : th.length = 32) (hd : draw.length = 32) (hW : st.Wf) (hr : st.rk ≠ []) (hl : bf ≤ st.rn + 10) (hn2 : n ≤ 10) (hbf : bf < 65536) (w : World) (hT : Tab w) (hp : PAt w base b st) :
    Calls Tryd.prog 72 #[.pointer (some ⟨b, 0, none⟩), .agg #[.string (str th), .int .i64 (bf : Int), .int .i64 (n : Int)], .string (str draw)] w fun e w' => ∃ v, e = .returned (.tuple #[v, .nilIface]) ∧ Planned w (reachK (turnIn (elderS st bf) th) n) (turnOut (reachS (turnIn (elderS st bf) th) n) draw) v w' := by
  have hlt := hp.lt
  have HF := hide (PF.start th bf n hp)
  have HT := hide hT
  have hrn := hW.rn
  have hkl := hW.kept
  have HW := hide hW
  have HWE : Hid (PSt.Wf (elderS st bf)) := hW.elderS bf hbf hr
  have hrl : st.rk.length = 32 := hW.rk.resolve_left hr
  clear hp hT
  go_enter Tryd.func72, Tryd.ntmps72
  go_wp2_with fail
  generalize (w.alloc (.cells #[.string (str th), .int .i64 (bf : Int), .int .i64 (n : Int)] 69)).alloc (.cells #[.string ⟨#[]⟩, .pointer none] 72) = W at *
  have c6 := HF.out.p.choose_spec.1.all.2.2.2.2.2.2.1
  have c7 := HF.out.p.choose_spec.1.all.2.2.2.2.2.2.2.1
  obtain ⟨h0, h1, h2, _⟩ := rowThree HF.out.hd
  obtain ⟨r0, r1, s0, s1⟩ := rowTwo HF.out.pl
  have hb1 := notEmpty _ hr
  have hz : decide (IntKind.i64.wrap ((st.rn : Int) + 10) < (bf : Int)) = false := by rw [decide_eq_false_iff_not, show (st.rn : Int) + 10 = ((st.rn + 10 : Nat) : Int) by omega, wrap_i64_nat _ (by omega)]; omega
  have hz2 : decide ((10 : Int) < (n : Int)) = false := by rw [decide_eq_false_iff_not]; omega
  obtain ⟨B, hB⟩ : ∃ B, B = W.heap.size := ⟨_, rfl⟩
  have hBs : w.heap.size + 2 ≤ B := by rw [hB]; exact HF.out.size
  have HCP : Hid (∀ q, Calls Tryd.prog 26 #[.pointer (some ⟨b, 0, none⟩)] (W.drewN q) fun e w' => e = .returned (.pointer (some ⟨B, 0, none⟩)) ∧ PAt w' B B st ∧ Bel B W w') := fun q => copyAt base b q st (by omega) W HF.out.p B hB
  have hbB : b < B := by rw [hB]; exact HF.out.p.lt
  clear hB hW
  go_quiet (first | (go_at_call 38; refine Calls.quiet_of_same (begunP b 6 st.rk (W.drewN _) c6)))
  go_wp2_with fail
  refine (HCP.out _).mono ?_
  rintro e w1 ⟨rfl, hp1, hb1'⟩
  obtain ⟨q1, q2, q3⟩ := HF.out.bel2 hb1' hBs
  have HP1 := hide hp1
  have HB1 := hide q1
  have HH1 := hide q2
  have HL1 := hide q3
  have d6 := (hb1'.cell (p := ⟨b, 6, none⟩) hbB).trans c6
  have d2 := (hb1'.cell (p := ⟨b, 2, none⟩) hbB).trans HF.out.p.choose_spec.1.all.2.2.1
  have HG : Hid (7 < B) := by have h := HT.out.lt; show _ < _; omega
  clear hp1 hb1' q1 q2 q3 c6 c7 h0 h1 h2
  go_wp2_with fail
  refine (begunP b 6 st.rk _ d6).mono ?_
  rintro e w1' ⟨rfl, hw1⟩
  subst w1'
  rw [hb1]
  go_wp2_with fail
  obtain ⟨vb, hPb, hOb⟩ := HP1.out
  have HPb := hide hPb
  have HOb := hide hOb
  have e1 := (rowThree HH1.out).2.1
  have HT1 := hide (HT.out.below HB1.out)
  clear hPb hOb d6
  go_region_held3 (fun w' => w'.cell? ⟨b, 2, none⟩ = some (.string (str st.theirs)) ∧ w'.cell? ⟨w.heap.size, 1, none⟩ = some (.int .i64 (bf : Int))) (refine ⟨?_, ?_⟩ <;> assumption) (first | (go_at_call 97; refine (skipB B 6 st.rn bf st.theirs st.rk (pCells st vb) 67 (by decide) (partySize st vb) (by omega) (by omega) (by omega) HG.out _ HT1.out.drew HPb.out.ch6).mono ?_; rintro e x2 ⟨sv, rfl, ho2, hP2, hC2⟩; obtain ⟨HPx, HOx, HBx⟩ := skipS HPb.out HOb.out (Nat.le_refl _) ho2 hP2 (Chg.ofDrew hC2); have d2' := (HBx.cell (p := ⟨b, 2, none⟩) hbB).trans d2; have e1' := (HBx.cell (p := ⟨w.heap.size, 1, none⟩) (show w.heap.size < B by omega)).trans e1; clear ho2 hP2 hC2) | (go_at_call 96; refine (keepP B B _ _ _ (by show st.kept.length ≤ 1000; omega) (by rw [skipL_length]; omega) _ HPx HOx (Nat.le_refl _)).mono ?_; rintro e x3 ⟨rfl, hp3, hb3⟩; have d2'' := (hb3.cell (p := ⟨b, 2, none⟩) hbB).trans d2'; have e1'' := (hb3.cell (p := ⟨w.heap.size, 1, none⟩) (show w.heap.size < B by omega)).trans e1'))
  have hbx := HBx.trans hb3
  have HQ1 : Hid (PAt x3 B B (elderS st bf)) := hp3
  have HC1 := hide (HB1.out.trans (hbx.mono (show w.heap.size ≤ B by omega)))
  have HI1 := hide ((hbx.block _ (show w.heap.size < B by omega)).trans HH1.out)
  have HM1 := hide ((hbx.block _ (show w.heap.size + 1 < B by omega)).trans HL1.out)
  clear hp3 hb3 hbx HPx HOx HBx d2 d2' d2'' e1 e1' e1'' HP1 HH1 HL1 HT1 HPb HOb
  obtain ⟨v1, hP1, hO1⟩ := HQ1.out
  have c2 := hP1.all.2.2.1
  have f2 := hP1.frozen 2
  have HP2 : Hid (PAt (x3.setCell ⟨B, 2, none⟩ (.string (str th))) B B { (elderS st bf) with theirs := th }) := ⟨v1, hP1.set 2 _ _ _ rfl, hO1.set hP1 2 _⟩
  have HB2 := hide (HC1.out.setCell (p := ⟨B, 2, none⟩) (show w.heap.size ≤ B by omega) (.string (str th)))
  have HH2 : Hid ((x3.setCell ⟨B, 2, none⟩ (.string (str th))).heap[w.heap.size]? = _) := (heap_setCell_other x3 ⟨B, 2, none⟩ _ (.string (str th)) (show w.heap.size ≠ B by omega)).trans HI1.out
  have HL2 : Hid ((x3.setCell ⟨B, 2, none⟩ (.string (str th))).heap[w.heap.size + 1]? = _) := (heap_setCell_other x3 ⟨B, 2, none⟩ _ (.string (str th)) (show w.heap.size + 1 ≠ B by omega)).trans HM1.out
  obtain ⟨g0, _⟩ := rowThree HI1.out
  clear hP1 hO1
  go_wp2_with fail
  generalize x3.setCell ⟨B, 2, none⟩ (.string (str th)) = u1 at *
  clear c2 f2 g0
  have HT2 := hide (HT.out.below HB2.out)
  refine (turnP B B _ (HWE.out.setTheirs th ht) ht _ HT2.out HP2.out (Nat.le_refl _)).mono ?_
  rintro e w2 ⟨rfl, hp3, hb3⟩
  have HB3 := hide (HB2.out.trans (hb3.mono (show w.heap.size ≤ B by omega)))
  have HH3 := hide ((hb3.block _ (show w.heap.size < B by omega)).trans HH2.out)
  have HL3 := hide ((hb3.block _ (show w.heap.size + 1 < B by omega)).trans HL2.out)
  obtain ⟨v3, hP3, hO3⟩ := hp3
  obtain ⟨_, _, _, _, _, _, c6, c7, _⟩ := hP3.all
  have f6 := hP3.frozen 6
  have f7 := hP3.frozen 7
  have HP4 : Hid (PAt ((w2.setCell ⟨B, 6, none⟩ (.string (str (turnC (elderS st bf).root (elderS st bf).secret th)))).setCell ⟨B, 7, none⟩ (.int .i64 0)) B B (turnIn (elderS st bf) th)) := by
    have p1 := hP3.set 6 (.string (str (turnC (elderS st bf).root (elderS st bf).secret th))) { (elderS st bf) with theirs := th, root := turnR (elderS st bf).root (elderS st bf).secret th, rk := turnC (elderS st bf).root (elderS st bf).secret th } v3 rfl
    exact ⟨v3, p1.set 7 _ _ _ rfl, (hO3.set hP3 6 _).set p1 7 _⟩
  have HB4 := hide ((HB3.out.setCell (p := ⟨B, 6, none⟩) (show w.heap.size ≤ B by omega) (.string (str (turnC (elderS st bf).root (elderS st bf).secret th)))).setCell (p := ⟨B, 7, none⟩) (show w.heap.size ≤ B by omega) (.int .i64 0))
  have HH4 : Hid (((w2.setCell ⟨B, 6, none⟩ (.string (str (turnC (elderS st bf).root (elderS st bf).secret th)))).setCell ⟨B, 7, none⟩ (.int .i64 0)).heap[w.heap.size]? = _) := (heap_setCell_other _ ⟨B, 7, none⟩ _ _ (show w.heap.size ≠ B by omega)).trans ((heap_setCell_other w2 ⟨B, 6, none⟩ _ _ (show w.heap.size ≠ B by omega)).trans HH3.out)
  have HL4 : Hid (((w2.setCell ⟨B, 6, none⟩ (.string (str (turnC (elderS st bf).root (elderS st bf).secret th)))).setCell ⟨B, 7, none⟩ (.int .i64 0)).heap[w.heap.size + 1]? = _) := (heap_setCell_other _ ⟨B, 7, none⟩ _ _ (show w.heap.size + 1 ≠ B by omega)).trans ((heap_setCell_other w2 ⟨B, 6, none⟩ _ _ (show w.heap.size + 1 ≠ B by omega)).trans HL3.out)
  obtain ⟨g0, g1, g2, _⟩ := rowThree HH3.out
  have hneB : w.heap.size ≠ B := by omega
  clear hP3 hO3 hb3
  go_wp2_with fail
  generalize (w2.setCell ⟨B, 6, none⟩ (.string (str (turnC (elderS st bf).root (elderS st bf).secret th)))).setCell ⟨B, 7, none⟩ (.int .i64 0) = u2 at *
  clear c6 c7 f6 f7 g0 g1 g2
  have HT4 := hide (HT.out.below HB4.out)
  refine (reachP B B n _ (HWE.out.turnIn th ht) (turnIn_rk _ _) (by omega) _ HT4.out HG.out HP4.out (Nat.le_refl _)).mono ?_
  rintro e w3 ⟨rfl, hp5, hb5⟩
  have HB5 := hide (HB4.out.trans (hb5.mono (show w.heap.size ≤ B by omega)))
  have HL5 := hide ((hb5.block _ (show w.heap.size + 1 < B by omega)).trans HL4.out)
  have HW5 := hide ((HWE.out.turnIn th ht).reach n (by omega) (Nat.zero_le _) (turnIn_rk _ _))
  have HTH : Hid ((reachS (turnIn (elderS st bf) th) n).theirs = th) := rfl
  generalize hky : reachK (turnIn (elderS st bf) th) n = key at *
  have HKY := hide hky
  clear hky
  generalize hs4 : reachS (turnIn (elderS st bf) th) n = s4 at *
  have HS4 := hide hs4
  clear hs4
  obtain ⟨v5, hP5, hO5⟩ := hp5
  obtain ⟨_, c1, _, _, c4, c5, _, _, _⟩ := hP5.all
  have f1 := hP5.frozen 1
  have f5 := hP5.frozen 5
  have HP6 : Hid (PAt ((w3.setCell ⟨B, 1, none⟩ (.string (str draw))).setCell ⟨B, 5, none⟩ (.int .i64 (s4.sn : Int))) B B { s4 with secret := draw, before := s4.sn }) := by
    have p1 := hP5.set 1 (.string (str draw)) { s4 with secret := draw } v5 rfl
    exact ⟨v5, p1.set 5 _ _ _ rfl, (hO5.set hP5 1 _).set p1 5 _⟩
  have HB6 := hide ((HB5.out.setCell (p := ⟨B, 1, none⟩) (show w.heap.size ≤ B by omega) (.string (str draw))).setCell (p := ⟨B, 5, none⟩) (show w.heap.size ≤ B by omega) (.int .i64 (s4.sn : Int)))
  have HL6 : Hid (((w3.setCell ⟨B, 1, none⟩ (.string (str draw))).setCell ⟨B, 5, none⟩ (.int .i64 (s4.sn : Int))).heap[w.heap.size + 1]? = _) := (heap_setCell_other _ ⟨B, 5, none⟩ _ _ (show w.heap.size + 1 ≠ B by omega)).trans ((heap_setCell_other w3 ⟨B, 1, none⟩ _ _ (show w.heap.size + 1 ≠ B by omega)).trans HL5.out)
  clear hP5 hO5 hb5
  go_wp2_with fail
  generalize (w3.setCell ⟨B, 1, none⟩ (.string (str draw))).setCell ⟨B, 5, none⟩ (.int .i64 (s4.sn : Int)) = u3 at *
  clear c1 c4 c5 f1 f5
  have HT6 := hide (HT.out.below HB6.out)
  refine (turnP B B _ (HW5.out.setDraw draw hd) (by show s4.theirs.length = 32; rw [HTH.out]; exact ht) _ HT6.out HP6.out (Nat.le_refl _)).mono ?_
  rintro e w4 ⟨rfl, hp7, hb7⟩
  have HB7 := hide (HB6.out.trans (hb7.mono (show w.heap.size ≤ B by omega)))
  have HL7 := hide ((hb7.block _ (show w.heap.size + 1 < B by omega)).trans HL6.out)
  obtain ⟨v7, hP7, hO7⟩ := hp7
  obtain ⟨_, _, _, c3, c4, _, _, _, _⟩ := hP7.all
  have f3 := hP7.frozen 3
  have f4 := hP7.frozen 4
  have HP8 : Hid (PAt ((w4.setCell ⟨B, 3, none⟩ (.string (str (turnC s4.root draw s4.theirs)))).setCell ⟨B, 4, none⟩ (.int .i64 0)) B B (turnOut s4 draw)) := by
    have p1 := hP7.set 3 (.string (str (turnC s4.root draw s4.theirs))) { s4 with secret := draw, before := s4.sn, root := turnR s4.root draw s4.theirs, sk := turnC s4.root draw s4.theirs } v7 rfl
    exact ⟨v7, p1.set 4 _ _ _ rfl, (hO7.set hP7 3 _).set p1 4 _⟩
  have HB8 := hide ((HB7.out.setCell (p := ⟨B, 3, none⟩) (show w.heap.size ≤ B by omega) (.string (str (turnC s4.root draw s4.theirs)))).setCell (p := ⟨B, 4, none⟩) (show w.heap.size ≤ B by omega) (.int .i64 0))
  have HL8 : Hid (((w4.setCell ⟨B, 3, none⟩ (.string (str (turnC s4.root draw s4.theirs)))).setCell ⟨B, 4, none⟩ (.int .i64 0)).heap[w.heap.size + 1]? = _) := (heap_setCell_other _ ⟨B, 4, none⟩ _ _ (show w.heap.size + 1 ≠ B by omega)).trans ((heap_setCell_other w4 ⟨B, 3, none⟩ _ _ (show w.heap.size + 1 ≠ B by omega)).trans HL7.out)
  obtain ⟨r0, r1, s0, s1⟩ := rowTwo HL7.out
  have hneB1 : w.heap.size + 1 ≠ B := by omega
  have HX := hide (planEnd HB8.out (show w.heap.size ≤ w.heap.size + 1 by omega) HL8.out (HP8.out.base (show w.heap.size ≤ B by omega)) (show B ≠ w.heap.size + 1 by omega) key)
  clear hP7 hO7 hb7
  go_wp2
  exact bodyPost_ret (v := .tuple #[.agg #[.string (str key), .pointer (some ⟨B, 0, none⟩)], .nilIface]) (results_ct (P := Tryd.prog) Tryd.results72 _ _ (w.heap.size + 1) 72 _ (0, 0) _ _ rfl rfl HX.out.1 Tryd.underlying72 rfl Tryd.sizePlan) rfl ⟨_, rfl, B, by rw [HKY.out], by omega, by rw [HS4.out]; exact HX.out.2.1, HX.out.2.2⟩

end Go.Proofs.YtlchpbnpmgfaoaaDoor
namespace Go.Proofs.YtlchpbnpmgfaoaaDoor
open Go.RowKit

set_option maxRecDepth 100000 in
set_option maxHeartbeats 2000000 in
theorem planTurnO2 (base b bf n : Nat) (st : PSt) (th draw : List UInt8) (ht : th.length = 32) (hd : draw.length = 32) (hW : st.Wf) (hr : st.rk = []) (hn2 : n ≤ 10) (w : World) (hT : Tab w) (hp : PAt w base b st) :
    Calls Tryd.prog 72 #[.pointer (some ⟨b, 0, none⟩), .agg #[.string (str th), .int .i64 (bf : Int), .int .i64 (n : Int)], .string (str draw)] w fun e w' => ∃ v, e = .returned (.tuple #[v, .nilIface]) ∧ Planned w (reachK (turnIn (st) th) n) (turnOut (reachS (turnIn (st) th) n) draw) v w' := by
  have hlt := hp.lt
  have HF := hide (PF.start th bf n hp)
  have HT := hide hT
  have hrn := hW.rn
  have hkl := hW.kept
  have HW := hide hW
  have HWE : Hid (PSt.Wf (st)) := hW
  clear hp hT
  go_enter Tryd.func72, Tryd.ntmps72
  go_wp2_with fail
  generalize (w.alloc (.cells #[.string (str th), .int .i64 (bf : Int), .int .i64 (n : Int)] 69)).alloc (.cells #[.string ⟨#[]⟩, .pointer none] 72) = W at *
  have c6 := HF.out.p.choose_spec.1.all.2.2.2.2.2.2.1
  have c7 := HF.out.p.choose_spec.1.all.2.2.2.2.2.2.2.1
  obtain ⟨h0, h1, h2, _⟩ := rowThree HF.out.hd
  obtain ⟨r0, r1, s0, s1⟩ := rowTwo HF.out.pl
  rw [hr] at c6
  have hz2 : decide ((10 : Int) < (n : Int)) = false := by rw [decide_eq_false_iff_not]; omega
  obtain ⟨B, hB⟩ : ∃ B, B = W.heap.size := ⟨_, rfl⟩
  have hBs : w.heap.size + 2 ≤ B := by rw [hB]; exact HF.out.size
  have HCP : Hid (∀ q, Calls Tryd.prog 26 #[.pointer (some ⟨b, 0, none⟩)] (W.drewN q) fun e w' => e = .returned (.pointer (some ⟨B, 0, none⟩)) ∧ PAt w' B B st ∧ Bel B W w') := fun q => copyAt base b q st (by omega) W HF.out.p B hB
  have hbB : b < B := by rw [hB]; exact HF.out.p.lt
  clear hB hW
  go_quiet (first | (go_at_call 38; refine Calls.quiet_of_same (begunNil b 6 (W.drewN _) c6)))
  go_wp2_with fail
  refine (HCP.out _).mono ?_
  rintro e w1 ⟨rfl, hp1, hb1'⟩
  obtain ⟨q1, q2, q3⟩ := HF.out.bel2 hb1' hBs
  have HP1 := hide hp1
  have HB1 := hide q1
  have HH1 := hide q2
  have HL1 := hide q3
  have d6 := (hb1'.cell (p := ⟨b, 6, none⟩) hbB).trans c6
  have d2 := (hb1'.cell (p := ⟨b, 2, none⟩) hbB).trans HF.out.p.choose_spec.1.all.2.2.1
  have HG : Hid (7 < B) := by have h := HT.out.lt; show _ < _; omega
  clear hp1 hb1' q1 q2 q3 c6 c7 h0 h1 h2
  go_wp2_with fail
  refine (begunNil b 6 _ d6).mono ?_
  rintro e w1' ⟨rfl, hw1⟩
  subst w1'
  clear d6 d2
  obtain ⟨v1, hP1, hO1⟩ := HP1.out
  have c2 := hP1.all.2.2.1
  have f2 := hP1.frozen 2
  have HP2 : Hid (PAt (w1.setCell ⟨B, 2, none⟩ (.string (str th))) B B { (st) with theirs := th }) := ⟨v1, hP1.set 2 _ _ _ rfl, hO1.set hP1 2 _⟩
  have HB2 := hide (HB1.out.setCell (p := ⟨B, 2, none⟩) (show w.heap.size ≤ B by omega) (.string (str th)))
  have HH2 : Hid ((w1.setCell ⟨B, 2, none⟩ (.string (str th))).heap[w.heap.size]? = _) := (heap_setCell_other w1 ⟨B, 2, none⟩ _ (.string (str th)) (show w.heap.size ≠ B by omega)).trans HH1.out
  have HL2 : Hid ((w1.setCell ⟨B, 2, none⟩ (.string (str th))).heap[w.heap.size + 1]? = _) := (heap_setCell_other w1 ⟨B, 2, none⟩ _ (.string (str th)) (show w.heap.size + 1 ≠ B by omega)).trans HL1.out
  obtain ⟨g0, _⟩ := rowThree HH1.out
  clear hP1 hO1
  go_wp2_with fail
  generalize w1.setCell ⟨B, 2, none⟩ (.string (str th)) = u1 at *
  clear c2 f2 g0
  have HT2 := hide (HT.out.below HB2.out)
  refine (turnP B B _ (HWE.out.setTheirs th ht) ht _ HT2.out HP2.out (Nat.le_refl _)).mono ?_
  rintro e w2 ⟨rfl, hp3, hb3⟩
  have HB3 := hide (HB2.out.trans (hb3.mono (show w.heap.size ≤ B by omega)))
  have HH3 := hide ((hb3.block _ (show w.heap.size < B by omega)).trans HH2.out)
  have HL3 := hide ((hb3.block _ (show w.heap.size + 1 < B by omega)).trans HL2.out)
  obtain ⟨v3, hP3, hO3⟩ := hp3
  obtain ⟨_, _, _, _, _, _, c6, c7, _⟩ := hP3.all
  have f6 := hP3.frozen 6
  have f7 := hP3.frozen 7
  have HP4 : Hid (PAt ((w2.setCell ⟨B, 6, none⟩ (.string (str (turnC (st).root (st).secret th)))).setCell ⟨B, 7, none⟩ (.int .i64 0)) B B (turnIn (st) th)) := by
    have p1 := hP3.set 6 (.string (str (turnC (st).root (st).secret th))) { (st) with theirs := th, root := turnR (st).root (st).secret th, rk := turnC (st).root (st).secret th } v3 rfl
    exact ⟨v3, p1.set 7 _ _ _ rfl, (hO3.set hP3 6 _).set p1 7 _⟩
  have HB4 := hide ((HB3.out.setCell (p := ⟨B, 6, none⟩) (show w.heap.size ≤ B by omega) (.string (str (turnC (st).root (st).secret th)))).setCell (p := ⟨B, 7, none⟩) (show w.heap.size ≤ B by omega) (.int .i64 0))
  have HH4 : Hid (((w2.setCell ⟨B, 6, none⟩ (.string (str (turnC (st).root (st).secret th)))).setCell ⟨B, 7, none⟩ (.int .i64 0)).heap[w.heap.size]? = _) := (heap_setCell_other _ ⟨B, 7, none⟩ _ _ (show w.heap.size ≠ B by omega)).trans ((heap_setCell_other w2 ⟨B, 6, none⟩ _ _ (show w.heap.size ≠ B by omega)).trans HH3.out)
  have HL4 : Hid (((w2.setCell ⟨B, 6, none⟩ (.string (str (turnC (st).root (st).secret th)))).setCell ⟨B, 7, none⟩ (.int .i64 0)).heap[w.heap.size + 1]? = _) := (heap_setCell_other _ ⟨B, 7, none⟩ _ _ (show w.heap.size + 1 ≠ B by omega)).trans ((heap_setCell_other w2 ⟨B, 6, none⟩ _ _ (show w.heap.size + 1 ≠ B by omega)).trans HL3.out)
  obtain ⟨g0, g1, g2, _⟩ := rowThree HH3.out
  have hneB : w.heap.size ≠ B := by omega
  clear hP3 hO3 hb3
  go_wp2_with fail
  generalize (w2.setCell ⟨B, 6, none⟩ (.string (str (turnC (st).root (st).secret th)))).setCell ⟨B, 7, none⟩ (.int .i64 0) = u2 at *
  clear c6 c7 f6 f7 g0 g1 g2
  have HT4 := hide (HT.out.below HB4.out)
  refine (reachP B B n _ (HWE.out.turnIn th ht) (turnIn_rk _ _) (by omega) _ HT4.out HG.out HP4.out (Nat.le_refl _)).mono ?_
  rintro e w3 ⟨rfl, hp5, hb5⟩
  have HB5 := hide (HB4.out.trans (hb5.mono (show w.heap.size ≤ B by omega)))
  have HL5 := hide ((hb5.block _ (show w.heap.size + 1 < B by omega)).trans HL4.out)
  have HW5 := hide ((HWE.out.turnIn th ht).reach n (by omega) (Nat.zero_le _) (turnIn_rk _ _))
  have HTH : Hid ((reachS (turnIn (st) th) n).theirs = th) := rfl
  generalize hky : reachK (turnIn (st) th) n = key at *
  have HKY := hide hky
  clear hky
  generalize hs4 : reachS (turnIn (st) th) n = s4 at *
  have HS4 := hide hs4
  clear hs4
  obtain ⟨v5, hP5, hO5⟩ := hp5
  obtain ⟨_, c1, _, _, c4, c5, _, _, _⟩ := hP5.all
  have f1 := hP5.frozen 1
  have f5 := hP5.frozen 5
  have HP6 : Hid (PAt ((w3.setCell ⟨B, 1, none⟩ (.string (str draw))).setCell ⟨B, 5, none⟩ (.int .i64 (s4.sn : Int))) B B { s4 with secret := draw, before := s4.sn }) := by
    have p1 := hP5.set 1 (.string (str draw)) { s4 with secret := draw } v5 rfl
    exact ⟨v5, p1.set 5 _ _ _ rfl, (hO5.set hP5 1 _).set p1 5 _⟩
  have HB6 := hide ((HB5.out.setCell (p := ⟨B, 1, none⟩) (show w.heap.size ≤ B by omega) (.string (str draw))).setCell (p := ⟨B, 5, none⟩) (show w.heap.size ≤ B by omega) (.int .i64 (s4.sn : Int)))
  have HL6 : Hid (((w3.setCell ⟨B, 1, none⟩ (.string (str draw))).setCell ⟨B, 5, none⟩ (.int .i64 (s4.sn : Int))).heap[w.heap.size + 1]? = _) := (heap_setCell_other _ ⟨B, 5, none⟩ _ _ (show w.heap.size + 1 ≠ B by omega)).trans ((heap_setCell_other w3 ⟨B, 1, none⟩ _ _ (show w.heap.size + 1 ≠ B by omega)).trans HL5.out)
  clear hP5 hO5 hb5
  go_wp2_with fail
  generalize (w3.setCell ⟨B, 1, none⟩ (.string (str draw))).setCell ⟨B, 5, none⟩ (.int .i64 (s4.sn : Int)) = u3 at *
  clear c1 c4 c5 f1 f5
  have HT6 := hide (HT.out.below HB6.out)
  refine (turnP B B _ (HW5.out.setDraw draw hd) (by show s4.theirs.length = 32; rw [HTH.out]; exact ht) _ HT6.out HP6.out (Nat.le_refl _)).mono ?_
  rintro e w4 ⟨rfl, hp7, hb7⟩
  have HB7 := hide (HB6.out.trans (hb7.mono (show w.heap.size ≤ B by omega)))
  have HL7 := hide ((hb7.block _ (show w.heap.size + 1 < B by omega)).trans HL6.out)
  obtain ⟨v7, hP7, hO7⟩ := hp7
  obtain ⟨_, _, _, c3, c4, _, _, _, _⟩ := hP7.all
  have f3 := hP7.frozen 3
  have f4 := hP7.frozen 4
  have HP8 : Hid (PAt ((w4.setCell ⟨B, 3, none⟩ (.string (str (turnC s4.root draw s4.theirs)))).setCell ⟨B, 4, none⟩ (.int .i64 0)) B B (turnOut s4 draw)) := by
    have p1 := hP7.set 3 (.string (str (turnC s4.root draw s4.theirs))) { s4 with secret := draw, before := s4.sn, root := turnR s4.root draw s4.theirs, sk := turnC s4.root draw s4.theirs } v7 rfl
    exact ⟨v7, p1.set 4 _ _ _ rfl, (hO7.set hP7 3 _).set p1 4 _⟩
  have HB8 := hide ((HB7.out.setCell (p := ⟨B, 3, none⟩) (show w.heap.size ≤ B by omega) (.string (str (turnC s4.root draw s4.theirs)))).setCell (p := ⟨B, 4, none⟩) (show w.heap.size ≤ B by omega) (.int .i64 0))
  have HL8 : Hid (((w4.setCell ⟨B, 3, none⟩ (.string (str (turnC s4.root draw s4.theirs)))).setCell ⟨B, 4, none⟩ (.int .i64 0)).heap[w.heap.size + 1]? = _) := (heap_setCell_other _ ⟨B, 4, none⟩ _ _ (show w.heap.size + 1 ≠ B by omega)).trans ((heap_setCell_other w4 ⟨B, 3, none⟩ _ _ (show w.heap.size + 1 ≠ B by omega)).trans HL7.out)
  obtain ⟨r0, r1, s0, s1⟩ := rowTwo HL7.out
  have hneB1 : w.heap.size + 1 ≠ B := by omega
  have HX := hide (planEnd HB8.out (show w.heap.size ≤ w.heap.size + 1 by omega) HL8.out (HP8.out.base (show w.heap.size ≤ B by omega)) (show B ≠ w.heap.size + 1 by omega) key)
  clear hP7 hO7 hb7
  go_wp2
  exact bodyPost_ret (v := .tuple #[.agg #[.string (str key), .pointer (some ⟨B, 0, none⟩)], .nilIface]) (results_ct (P := Tryd.prog) Tryd.results72 _ _ (w.heap.size + 1) 72 _ (0, 0) _ _ rfl rfl HX.out.1 Tryd.underlying72 rfl Tryd.sizePlan) rfl ⟨_, rfl, B, by rw [HKY.out], by omega, by rw [HS4.out]; exact HX.out.2.1, HX.out.2.2⟩

end Go.Proofs.YtlchpbnpmgfaoaaDoor
namespace Go.Proofs.YtlchpbnpmgfaoaaDoor
open Go.RowKit

theorem Errs.drewN {w : World} {a : Nat → Addr} (h : Errs w a) (q : Nat) : Errs (w.drewN q) a := h.below (belowN (Bel.refl _ _) q)
theorem Tab.drewN {w : World} (h : Tab w) (q : Nat) : Tab (w.drewN q) := ⟨h.lt, h.tab⟩
theorem PF.drewN {W w : World} {base b bf n : Nat} {st : PSt} {th : List UInt8} (h : PF W w base b st th bf n) (q : Nat) : PF (W.drewN q) w base b st th bf n := ⟨belowN h.bel q, h.size, h.hd, h.pl, h.p⟩

set_option maxRecDepth 100000 in
set_option maxHeartbeats 1000000 in
theorem plannedKept (base b bf n : Nat) (st : PSt) (th draw : List UInt8) (hW : st.Wf) (i : Nat) (hf : findK st.kept th n = some i) (a : Nat → Addr) (w : World) (hE : Errs w a) (hT : Tab w) (hp : PAt w base b st) :
    Calls Tryd.prog 42 #[.pointer (some ⟨b, 0, none⟩), .agg #[.string (str th), .int .i64 (bf : Int), .int .i64 (n : Int)], .string (str draw)] w fun e w' => ∃ v, e = .returned (.tuple #[v, .nilIface]) ∧ Planned w (st.kept.getD i default).key { st with kept := st.kept.eraseIdx i } v w' := by
  have hi : i < st.kept.length := (List.findIdx?_eq_some_iff_getElem.1 hf).1
  have hlt := hp.lt
  have HF := hide (PF.start th bf n hp)
  have HE := hide (hE.below HF.out.bel)
  have HT := hide (hT.below HF.out.bel)
  have hkl := hW.kept
  have hsl := hW.secret
  have hse : st.secret.isEmpty = false := by cases h : st.secret with
    | nil => rw [h] at hsl; cases hsl
    | cons _ _ => rfl
  have hsn : st.secret ≠ [] := by intro h; rw [h] at hsl; cases hsl
  have es := str_toList st.secret
  have c1 := HF.out.p.choose_spec.1.all.2.1
  obtain ⟨h0, h1, h2, _⟩ := rowThree HF.out.hd
  clear hp hE hT
  go_enter Tryd.func42, Tryd.ntmps42
  go_wp2_with fail
  generalize (w.alloc (.cells #[.string (str th), .int .i64 (bf : Int), .int .i64 (n : Int)] 69)).alloc (.cells #[.string ⟨#[]⟩, .pointer none] 72) = W at *
  refine (keptAtP base b bf n st th (by omega) _ HF.out.p).mono ?_
  rintro e w1 ⟨rfl, hb1⟩
  have HF1 := hide (HF.out.below hb1)
  have HE1 := hide (HE.out.below hb1)
  have HT1 := hide (HT.out.below hb1)
  clear hb1 c1 h0 h1 h2
  rw [hf, show idxI (some i) = (i : Int) from rfl]
  have hz : (0 : Int) ≤ (i : Int) := by omega
  go_wp2_with fail
  refine (planKeptP base b i st (by omega) hi _ HF1.out.p).mono ?_
  rintro e w2 ⟨v, rfl, hv⟩
  generalize hky : (st.kept.getD i default).key = key at *
  have HKY := hide hky
  clear hky
  obtain ⟨bx, rfl, hbx, hpx, hbl⟩ := hv
  have hsz := HF1.out.size
  obtain ⟨q1, q2, q3⟩ := HF1.out.bel2 hbl hsz
  obtain ⟨r0, r1, s0, s1⟩ := rowTwo q3
  have HX := hide (planEnd q1 (show w.heap.size ≤ w.heap.size + 1 by omega) q3 (hpx.base HF1.out.bel.size) (show bx ≠ w.heap.size + 1 by omega) key)
  have hle : w.heap.size ≤ bx := Nat.le_trans HF1.out.bel.size hbx
  clear hpx hbl q1 q2 q3 hbx
  go_wp2
  exact bodyPost_ret (v := .tuple #[.agg #[.string (str key), .pointer (some ⟨bx, 0, none⟩)], .nilIface]) (results_ct (P := Tryd.prog) Tryd.results42 _ _ (w.heap.size + 1) 72 _ (0, 0) _ _ rfl rfl HX.out.1 Tryd.underlying72 rfl Tryd.sizePlan) rfl ⟨_, rfl, bx, by rw [HKY.out], hle, HX.out.2.1, HX.out.2.2⟩

set_option maxRecDepth 100000 in
set_option maxHeartbeats 1000000 in
theorem plannedNextOk (base b bf n : Nat) (st : PSt) (th draw : List UInt8) (hW : st.Wf) (h0 : findK st.kept th n = none) (heq : th = st.theirs) (key : List UInt8) (st' : PSt) (a : Nat → Addr) (HI : ∀ W, PAt W base b st → Errs W a → Tab W → Calls Tryd.prog 71 #[.pointer (some ⟨b, 0, none⟩), .agg #[.string (str th), .int .i64 (bf : Int), .int .i64 (n : Int)]] W fun e w' => ∃ v, e = .returned (.tuple #[v, .nilIface]) ∧ Planned W key st' v w') (w : World) (hE : Errs w a) (hT : Tab w) (hp : PAt w base b st) :
    Calls Tryd.prog 42 #[.pointer (some ⟨b, 0, none⟩), .agg #[.string (str th), .int .i64 (bf : Int), .int .i64 (n : Int)], .string (str draw)] w fun e w' => ∃ v, e = .returned (.tuple #[v, .nilIface]) ∧ Planned w key st' v w' := by
  have HI' := hide HI
  clear HI
  have hbq : (th == st.theirs) = true := by rw [heq]; exact beq_self_eq_true _
  clear heq
  have hlt := hp.lt
  have HF := hide (PF.start th bf n hp)
  have HE := hide (hE.below HF.out.bel)
  have HT := hide (hT.below HF.out.bel)
  have hkl := hW.kept
  have hsl := hW.secret
  have hse : st.secret.isEmpty = false := by cases h : st.secret with
    | nil => rw [h] at hsl; cases hsl
    | cons _ _ => rfl
  have hsn : st.secret ≠ [] := by intro h; rw [h] at hsl; cases hsl
  have es := str_toList st.secret
  have c1 := HF.out.p.choose_spec.1.all.2.1
  obtain ⟨h0, h1, h2, _⟩ := rowThree HF.out.hd
  clear hp hE hT
  go_enter Tryd.func42, Tryd.ntmps42
  go_wp2_with fail
  generalize (w.alloc (.cells #[.string (str th), .int .i64 (bf : Int), .int .i64 (n : Int)] 69)).alloc (.cells #[.string ⟨#[]⟩, .pointer none] 72) = W at *
  refine (keptAtP base b bf n st th (by omega) _ HF.out.p).mono ?_
  rintro e w1 ⟨rfl, hb1⟩
  have HF1 := hide (HF.out.below hb1)
  have HE1 := hide (HE.out.below hb1)
  have HT1 := hide (HT.out.below hb1)
  clear hb1 c1 h0 h1 h2
  rw [h0, show idxI none = (-1 : Int) from rfl]
  have c2 := HF1.out.p.choose_spec.1.all.2.2.1
  obtain ⟨g0, g1, g2, _⟩ := rowThree HF1.out.hd
  have et := str_toList th
  have et2 := str_toList st.theirs
  go_wp2_with fail
  go_quiet (fail)
  go_wp2_with fail
  refine (HI'.out _ (HF1.out.drewN _).p (HE1.out.drewN _) (HT1.out.drewN _)).mono ?_
  rintro e w2 ⟨v, rfl, bx, rfl, hbx, hpx, hbl⟩
  have hbl' := Bel.ofDrewN hbl
  have hv : Planned w1 key st' (.agg #[.string (str key), .pointer (some ⟨bx, 0, none⟩)]) w2 := ⟨bx, rfl, hbx, hpx, hbl'⟩
  clear hbx hpx hbl hbl' c2 g0 g1 g2
  obtain ⟨bx', hbe, hbx, hpx, hbl⟩ := hv
  injection hbe with hbe
  obtain rfl : bx = bx' := by simpa using hbe
  clear hbe
  have hsz := HF1.out.size
  obtain ⟨q1, q2, q3⟩ := HF1.out.bel2 hbl hsz
  obtain ⟨r0, r1, s0, s1⟩ := rowTwo q3
  have HX := hide (planEnd q1 (show w.heap.size ≤ w.heap.size + 1 by omega) q3 (hpx.base HF1.out.bel.size) (show bx ≠ w.heap.size + 1 by omega) key)
  have hle : w.heap.size ≤ bx := Nat.le_trans HF1.out.bel.size hbx
  clear hpx hbl q1 q2 q3 hbx
  go_wp2
  exact bodyPost_ret (v := .tuple #[.agg #[.string (str key), .pointer (some ⟨bx, 0, none⟩)], .nilIface]) (results_ct (P := Tryd.prog) Tryd.results42 _ _ (w.heap.size + 1) 72 _ (0, 0) _ _ rfl rfl HX.out.1 Tryd.underlying72 rfl Tryd.sizePlan) rfl ⟨_, rfl, bx, rfl, hle, HX.out.2.1, HX.out.2.2⟩

set_option maxRecDepth 100000 in
set_option maxHeartbeats 1000000 in
theorem plannedNextEr (base b bf n : Nat) (st : PSt) (th draw : List UInt8) (hW : st.Wf) (h0 : findK st.kept th n = none) (heq : th = st.theirs) (i : Nat) (a : Nat → Addr) (HI : ∀ W, PAt W base b st → Errs W a → Tab W → Calls Tryd.prog 71 #[.pointer (some ⟨b, 0, none⟩), .agg #[.string (str th), .int .i64 (bf : Int), .int .i64 (n : Int)]] W fun e w' => e = .returned (.tuple #[nilPlan, errV a i]) ∧ Bel W.heap.size W w') (w : World) (hE : Errs w a) (hT : Tab w) (hp : PAt w base b st) :
    Calls Tryd.prog 42 #[.pointer (some ⟨b, 0, none⟩), .agg #[.string (str th), .int .i64 (bf : Int), .int .i64 (n : Int)], .string (str draw)] w fun e w' => e = .returned (.tuple #[nilPlan, errV a i]) ∧ Bel w.heap.size w w' := by
  have HI' := hide HI
  clear HI
  have hbq : (th == st.theirs) = true := by rw [heq]; exact beq_self_eq_true _
  clear heq
  have hlt := hp.lt
  have HF := hide (PF.start th bf n hp)
  have HE := hide (hE.below HF.out.bel)
  have HT := hide (hT.below HF.out.bel)
  have hkl := hW.kept
  have hsl := hW.secret
  have hse : st.secret.isEmpty = false := by cases h : st.secret with
    | nil => rw [h] at hsl; cases hsl
    | cons _ _ => rfl
  have hsn : st.secret ≠ [] := by intro h; rw [h] at hsl; cases hsl
  have es := str_toList st.secret
  have c1 := HF.out.p.choose_spec.1.all.2.1
  obtain ⟨h0, h1, h2, _⟩ := rowThree HF.out.hd
  clear hp hE hT
  go_enter Tryd.func42, Tryd.ntmps42
  go_wp2_with fail
  generalize (w.alloc (.cells #[.string (str th), .int .i64 (bf : Int), .int .i64 (n : Int)] 69)).alloc (.cells #[.string ⟨#[]⟩, .pointer none] 72) = W at *
  refine (keptAtP base b bf n st th (by omega) _ HF.out.p).mono ?_
  rintro e w1 ⟨rfl, hb1⟩
  have HF1 := hide (HF.out.below hb1)
  have HE1 := hide (HE.out.below hb1)
  have HT1 := hide (HT.out.below hb1)
  clear hb1 c1 h0 h1 h2
  rw [h0, show idxI none = (-1 : Int) from rfl]
  have c2 := HF1.out.p.choose_spec.1.all.2.2.1
  obtain ⟨g0, g1, g2, _⟩ := rowThree HF1.out.hd
  have et := str_toList th
  have et2 := str_toList st.theirs
  go_wp2_with fail
  go_quiet (fail)
  go_wp2_with fail
  refine (HI'.out _ (HF1.out.drewN _).p (HE1.out.drewN _) (HT1.out.drewN _)).mono ?_
  rintro e w2 ⟨rfl, hb2⟩
  replace hb2 := Bel.ofDrewN hb2
  clear c2 g0 g1 g2
  have hsz := HF1.out.size
  obtain ⟨q1, q2, q3⟩ := HF1.out.bel2 hb2 hsz
  obtain ⟨r0, r1, s0, s1⟩ := rowTwo q3
  have HQ1 := hide q1
  have HQ3 := hide q3
  clear hb2 q1 q2 q3
  unfold nilPlan
  go_wp2
  exact bodyPost_ret (v := .tuple #[.agg #[.string ⟨#[]⟩, .pointer none], errV a i]) (results_ct (P := Tryd.prog) Tryd.results42 _ _ (w.heap.size + 1) 72 _ (0, 0) _ _ rfl rfl (rowTwoSet HQ3.out) Tryd.underlying72 rfl Tryd.sizePlan) rfl ⟨rfl, (HQ1.out.setCell (p := ⟨w.heap.size + 1, 0, none⟩) (show w.heap.size ≤ w.heap.size + 1 by omega) _).setCell (p := ⟨w.heap.size + 1, 1, none⟩) (show w.heap.size ≤ w.heap.size + 1 by omega) _⟩

set_option maxRecDepth 100000 in
set_option maxHeartbeats 1000000 in
theorem plannedTurnOk (base b bf n : Nat) (st : PSt) (th draw : List UInt8) (hW : st.Wf) (h0 : findK st.kept th n = none) (heq : th ≠ st.theirs) (key : List UInt8) (st' : PSt) (a : Nat → Addr) (HI : ∀ W, PAt W base b st → Errs W a → Tab W → Calls Tryd.prog 72 #[.pointer (some ⟨b, 0, none⟩), .agg #[.string (str th), .int .i64 (bf : Int), .int .i64 (n : Int)], .string (str draw)] W fun e w' => ∃ v, e = .returned (.tuple #[v, .nilIface]) ∧ Planned W key st' v w') (w : World) (hE : Errs w a) (hT : Tab w) (hp : PAt w base b st) :
    Calls Tryd.prog 42 #[.pointer (some ⟨b, 0, none⟩), .agg #[.string (str th), .int .i64 (bf : Int), .int .i64 (n : Int)], .string (str draw)] w fun e w' => ∃ v, e = .returned (.tuple #[v, .nilIface]) ∧ Planned w key st' v w' := by
  have HI' := hide HI
  clear HI
  have hlt := hp.lt
  have HF := hide (PF.start th bf n hp)
  have HE := hide (hE.below HF.out.bel)
  have HT := hide (hT.below HF.out.bel)
  have hkl := hW.kept
  have hsl := hW.secret
  have hse : st.secret.isEmpty = false := by cases h : st.secret with
    | nil => rw [h] at hsl; cases hsl
    | cons _ _ => rfl
  have hsn : st.secret ≠ [] := by intro h; rw [h] at hsl; cases hsl
  have es := str_toList st.secret
  have c1 := HF.out.p.choose_spec.1.all.2.1
  obtain ⟨h0, h1, h2, _⟩ := rowThree HF.out.hd
  clear hp hE hT
  go_enter Tryd.func42, Tryd.ntmps42
  go_wp2_with fail
  generalize (w.alloc (.cells #[.string (str th), .int .i64 (bf : Int), .int .i64 (n : Int)] 69)).alloc (.cells #[.string ⟨#[]⟩, .pointer none] 72) = W at *
  refine (keptAtP base b bf n st th (by omega) _ HF.out.p).mono ?_
  rintro e w1 ⟨rfl, hb1⟩
  have HF1 := hide (HF.out.below hb1)
  have HE1 := hide (HE.out.below hb1)
  have HT1 := hide (HT.out.below hb1)
  clear hb1 c1 h0 h1 h2
  rw [h0, show idxI none = (-1 : Int) from rfl]
  have c2 := HF1.out.p.choose_spec.1.all.2.2.1
  obtain ⟨g0, g1, g2, _⟩ := rowThree HF1.out.hd
  have et := str_toList th
  have et2 := str_toList st.theirs
  have hbq : (th == st.theirs) = false := by rw [beq_eq_false_iff_ne]; exact heq
  go_wp2_with fail
  go_quiet (fail)
  go_wp2_with fail
  refine (HI'.out _ (HF1.out.drewN _).p (HE1.out.drewN _) (HT1.out.drewN _)).mono ?_
  rintro e w2 ⟨v, rfl, bx, rfl, hbx, hpx, hbl⟩
  have hbl' := Bel.ofDrewN hbl
  have hv : Planned w1 key st' (.agg #[.string (str key), .pointer (some ⟨bx, 0, none⟩)]) w2 := ⟨bx, rfl, hbx, hpx, hbl'⟩
  clear hbx hpx hbl hbl' c2 g0 g1 g2
  obtain ⟨bx', hbe, hbx, hpx, hbl⟩ := hv
  injection hbe with hbe
  obtain rfl : bx = bx' := by simpa using hbe
  clear hbe
  have hsz := HF1.out.size
  obtain ⟨q1, q2, q3⟩ := HF1.out.bel2 hbl hsz
  obtain ⟨r0, r1, s0, s1⟩ := rowTwo q3
  have HX := hide (planEnd q1 (show w.heap.size ≤ w.heap.size + 1 by omega) q3 (hpx.base HF1.out.bel.size) (show bx ≠ w.heap.size + 1 by omega) key)
  have hle : w.heap.size ≤ bx := Nat.le_trans HF1.out.bel.size hbx
  clear hpx hbl q1 q2 q3 hbx
  go_wp2
  exact bodyPost_ret (v := .tuple #[.agg #[.string (str key), .pointer (some ⟨bx, 0, none⟩)], .nilIface]) (results_ct (P := Tryd.prog) Tryd.results42 _ _ (w.heap.size + 1) 72 _ (0, 0) _ _ rfl rfl HX.out.1 Tryd.underlying72 rfl Tryd.sizePlan) rfl ⟨_, rfl, bx, rfl, hle, HX.out.2.1, HX.out.2.2⟩

set_option maxRecDepth 100000 in
set_option maxHeartbeats 1000000 in
theorem plannedTurnEr (base b bf n : Nat) (st : PSt) (th draw : List UInt8) (hW : st.Wf) (h0 : findK st.kept th n = none) (heq : th ≠ st.theirs) (i : Nat) (a : Nat → Addr) (HI : ∀ W, PAt W base b st → Errs W a → Tab W → Calls Tryd.prog 72 #[.pointer (some ⟨b, 0, none⟩), .agg #[.string (str th), .int .i64 (bf : Int), .int .i64 (n : Int)], .string (str draw)] W fun e w' => e = .returned (.tuple #[nilPlan, errV a i]) ∧ Bel W.heap.size W w') (w : World) (hE : Errs w a) (hT : Tab w) (hp : PAt w base b st) :
    Calls Tryd.prog 42 #[.pointer (some ⟨b, 0, none⟩), .agg #[.string (str th), .int .i64 (bf : Int), .int .i64 (n : Int)], .string (str draw)] w fun e w' => e = .returned (.tuple #[nilPlan, errV a i]) ∧ Bel w.heap.size w w' := by
  have HI' := hide HI
  clear HI
  have hlt := hp.lt
  have HF := hide (PF.start th bf n hp)
  have HE := hide (hE.below HF.out.bel)
  have HT := hide (hT.below HF.out.bel)
  have hkl := hW.kept
  have hsl := hW.secret
  have hse : st.secret.isEmpty = false := by cases h : st.secret with
    | nil => rw [h] at hsl; cases hsl
    | cons _ _ => rfl
  have hsn : st.secret ≠ [] := by intro h; rw [h] at hsl; cases hsl
  have es := str_toList st.secret
  have c1 := HF.out.p.choose_spec.1.all.2.1
  obtain ⟨h0, h1, h2, _⟩ := rowThree HF.out.hd
  clear hp hE hT
  go_enter Tryd.func42, Tryd.ntmps42
  go_wp2_with fail
  generalize (w.alloc (.cells #[.string (str th), .int .i64 (bf : Int), .int .i64 (n : Int)] 69)).alloc (.cells #[.string ⟨#[]⟩, .pointer none] 72) = W at *
  refine (keptAtP base b bf n st th (by omega) _ HF.out.p).mono ?_
  rintro e w1 ⟨rfl, hb1⟩
  have HF1 := hide (HF.out.below hb1)
  have HE1 := hide (HE.out.below hb1)
  have HT1 := hide (HT.out.below hb1)
  clear hb1 c1 h0 h1 h2
  rw [h0, show idxI none = (-1 : Int) from rfl]
  have c2 := HF1.out.p.choose_spec.1.all.2.2.1
  obtain ⟨g0, g1, g2, _⟩ := rowThree HF1.out.hd
  have et := str_toList th
  have et2 := str_toList st.theirs
  have hbq : (th == st.theirs) = false := by rw [beq_eq_false_iff_ne]; exact heq
  go_wp2_with fail
  go_quiet (fail)
  go_wp2_with fail
  refine (HI'.out _ (HF1.out.drewN _).p (HE1.out.drewN _) (HT1.out.drewN _)).mono ?_
  rintro e w2 ⟨rfl, hb2⟩
  replace hb2 := Bel.ofDrewN hb2
  clear c2 g0 g1 g2
  have hsz := HF1.out.size
  obtain ⟨q1, q2, q3⟩ := HF1.out.bel2 hb2 hsz
  obtain ⟨r0, r1, s0, s1⟩ := rowTwo q3
  have HQ1 := hide q1
  have HQ3 := hide q3
  clear hb2 q1 q2 q3
  unfold nilPlan
  go_wp2
  exact bodyPost_ret (v := .tuple #[.agg #[.string ⟨#[]⟩, .pointer none], errV a i]) (results_ct (P := Tryd.prog) Tryd.results42 _ _ (w.heap.size + 1) 72 _ (0, 0) _ _ rfl rfl (rowTwoSet HQ3.out) Tryd.underlying72 rfl Tryd.sizePlan) rfl ⟨rfl, (HQ1.out.setCell (p := ⟨w.heap.size + 1, 0, none⟩) (show w.heap.size ≤ w.heap.size + 1 by omega) _).setCell (p := ⟨w.heap.size + 1, 1, none⟩) (show w.heap.size ≤ w.heap.size + 1 by omega) _⟩

end Go.Proofs.YtlchpbnpmgfaoaaDoor
namespace Go.Proofs.YtlchpbnpmgfaoaaDoor
open Go.RowKit

def PlanPost (w : World) (a : Nat → Addr) (e : Ending) (w' : World) : Except Nat (List UInt8 × PSt) → Prop
  | .error i => e = .returned (.tuple #[nilPlan, errV a i]) ∧ Bel w.heap.size w w'
  | .ok (key, st') => ∃ v, e = .returned (.tuple #[v, .nilIface]) ∧ Planned w key st' v w'

theorem plannedP (base b bf n : Nat) (st : PSt) (th draw : List UInt8) (hW : st.Wf) (ht : th.length = 32) (hd : draw.length = 32) (hbf : bf < 65536) (hn : n < 65536) (a : Nat → Addr) (w : World) (hE : Errs w a) (hT : Tab w) (hp : PAt w base b st) :
    Calls Tryd.prog 42 #[.pointer (some ⟨b, 0, none⟩), .agg #[.string (str th), .int .i64 (bf : Int), .int .i64 (n : Int)], .string (str draw)] w fun e w' => PlanPost w a e w' (planL st th bf n draw) := by
  cases hf : findK st.kept th n with
  | some i =>
    rw [planL_kept st th bf n draw i hf]
    exact plannedKept base b bf n st th draw hW i hf a w hE hT hp
  | none =>
    have hrn := hW.rn
    by_cases h1 : th = st.theirs
    · by_cases h2 : st.rk = [] ∨ n < st.rn
      · rw [planL_old st th bf n draw hf h1 h2]
        refine plannedNextEr base b bf n st th draw hW hf h1 3 a (fun W hp hE hT => ?_) w hE hT hp
        by_cases h3 : st.rk = []
        · exact planNextOld0 base b bf n st th h3 a W hE hp
        · exact planNextOld1 base b bf n st th h3 (h2.resolve_left h3) a W hE hp
      · have h3 : st.rk ≠ [] := fun e => h2 (.inl e)
        have h4 : st.rn ≤ n := Nat.le_of_not_lt fun e => h2 (.inr e)
        by_cases h5 : st.rn + 10 < n
        · rw [planL_far st th bf n draw hf h1 h2 h5]
          exact plannedNextEr base b bf n st th draw hW hf h1 4 a (fun W hp hE hT => planNextFar base b bf n st th h3 h5 (by omega) a W hE hp) w hE hT hp
        · rw [planL_same st th bf n draw hf h1 h2 h5]
          exact plannedNextOk base b bf n st th draw hW hf h1 _ _ a (fun W hp hE hT => planNextOk base b bf n st th hW h3 h4 (by omega) hn W hT hp) w hE hT hp
    · by_cases h2 : (st.rk ≠ [] ∧ st.rn + 10 < bf) ∨ 10 < n
      · rw [planL_skip st th bf n draw hf h1 h2]
        refine plannedTurnEr base b bf n st th draw hW hf h1 4 a (fun W hp hE hT => ?_) w hE hT hp
        by_cases h3 : st.rk = []
        · exact planTurnS3 base b bf n st th draw h3 (h2.resolve_left fun h => h.1 h3) a W hE hp
        · by_cases h4 : st.rn + 10 < bf
          · exact planTurnS1 base b bf n st th draw h3 h4 (by omega) a W hE hp
          · exact planTurnS2 base b bf n st th draw h3 h4 (h2.resolve_left fun h => h4 h.2) (by omega) a W hE hp
      · rw [planL_turn st th bf n draw hf h1 h2]
        have h5 : n ≤ 10 := Nat.le_of_not_lt fun h => h2 (.inr h)
        refine plannedTurnOk base b bf n st th draw hW hf h1 _ _ a (fun W hp hE hT => ?_) w hE hT hp
        by_cases h3 : st.rk = []
        · have e : elder st bf = st := by unfold elder; rw [if_pos h3]
          rw [e]
          exact planTurnO2 base b bf n st th draw ht hd hW h3 h5 W hT hp
        · have e : elder st bf = elderS st bf := by unfold elder; rw [if_neg h3]
          rw [e]
          exact planTurnO1 base b bf n st th draw ht hd hW h3 (Nat.le_of_not_lt fun h => h2 (.inl ⟨h3, h⟩)) h5 hbf W hT hp

set_option maxRecDepth 100000 in
set_option maxHeartbeats 1000000 in
theorem recvMis (b i : Nat) (ad f draw : List UInt8) (ma : ad.length ≤ maxLen) (mf : f.length ≤ maxLen) (md : draw.length ≤ maxLen) (hm : misL ad f draw = some i) (a : Nat → Addr) (w : World) (hE : Errs w a) :
    Calls Tryd.prog 22 #[.pointer (some ⟨b, 0, none⟩), .string (str ad), .string (str f), .string (str draw)] w fun e w' => e = .returned (.tuple #[.string ⟨#[]⟩, errV a i]) ∧ Bel w.heap.size w w' := by
  have HC := hide (misfitP ad f draw ma mf md a w hE)
  rw [hm] at HC
  unfold errV at HC ⊢
  go_enter Tryd.func22, Tryd.ntmps22
  go_wp2_with fail
  refine HC.out.mono ?_
  rintro e w1 ⟨rfl, hb1⟩
  have HB1 := hide hb1
  clear hb1
  go_wp2
  go_ret2
  exact ⟨rfl, HB1.out⟩

set_option maxRecDepth 100000 in
set_option maxHeartbeats 1000000 in
theorem recvPlanEr (b i : Nat) (st : PSt) (ad f draw : List UInt8) (hW : st.Wf) (hm : misL ad f draw = none) (hpl : planL st (f.take 32) (two f 32) (two f 34) draw = .error i) (a : Nat → Addr) (w : World) (hE : Errs w a) (hT : Tab w) (hp : PAt w 0 b st) :
    Calls Tryd.prog 22 #[.pointer (some ⟨b, 0, none⟩), .string (str ad), .string (str f), .string (str draw)] w fun e w' => e = .returned (.tuple #[.string ⟨#[]⟩, errV a i]) ∧ Bel w.heap.size w w' := by
  have za := str_size ad
  have zf := str_size f
  have HM : Hid (misL ad f draw = none) := hm
  have hml := hm
  unfold misL at hml
  have hla : ad.length ≤ 32 := by
    by_cases h : 32 < ad.length ∨ 116 < f.length
    · rw [if_pos h] at hml; cases hml
    · omega
  have hlf : f.length ≤ 116 := by
    by_cases h : 32 < ad.length ∨ 116 < f.length
    · rw [if_pos h] at hml; cases hml
    · omega
  rw [if_neg (by omega)] at hml
  have hld : draw.length = 32 := by
    by_cases h : draw.length ≠ 32
    · rw [if_pos h] at hml; cases hml
    · omega
  rw [if_neg (by omega)] at hml
  have hl5 : 52 ≤ f.length := by
    by_cases h : f.length < 52
    · rw [if_pos h] at hml; cases hml
    · omega
  clear hml hm
  have HC := hide (misfitP ad f draw (by unfold maxLen; omega) (by unfold maxLen; omega) (by unfold maxLen; omega) a w hE)
  rw [HM.out] at HC
  have HE := hide hE
  have HT := hide hT
  have HP := hide hp
  have HW := hide hW
  clear hE hT hp hW
  have l1 : (f.take 32).length = 32 := by rw [List.length_take]; omega
  have HPL : Hid (∀ w1, PAt w1 0 b st → Errs w1 a → Tab w1 → Calls Tryd.prog 42 #[.pointer (some ⟨b, 0, none⟩), .agg #[.string (str (f.take 32)), .int .i64 (two f 32 : Nat), .int .i64 (two f 34 : Nat)], .string (str draw)] w1 fun e w' => PlanPost w1 a e w' (planL st (f.take 32) (two f 32) (two f 34) draw)) := fun w1 h1 h2 h3 => plannedP 0 b _ _ st _ draw HW.out l1 hld (two_lt f 32) (two_lt f 34) a w1 h2 h3 h1
  have HRH : Hid (∀ w1, Calls Tryd.prog 43 #[.string (str f)] w1 fun e w' => e = .returned (.agg #[.string (str (f.take 32)), .int .i64 (two f 32 : Nat), .int .i64 (two f 34 : Nat)]) ∧ Bel w1.heap.size w1 w') := fun w1 => readHeadP f hl5 hlf w1
  rw [hpl] at HPL
  generalize f.take 32 = th at *
  generalize two f 32 = bf at *
  generalize two f 34 = n at *
  go_enter Tryd.func22, Tryd.ntmps22
  go_wp2_with fail
  refine HC.out.mono ?_
  rintro e w1 ⟨rfl, hb1⟩
  have HB1 := hide hb1
  clear hb1
  go_wp2_with fail
  refine (HRH.out _).mono ?_
  rintro e w2 ⟨rfl, hb2⟩
  have HB2 := hide (HB1.out.trans (hb2.mono HB1.out.size))
  clear hb2 HB1
  go_wp2_with fail
  refine (HPL.out _ (HP.out.below HB2.out) (HE.out.below HB2.out) (HT.out.below HB2.out)).mono ?_
  rintro e w3 ⟨rfl, hb3⟩
  have HB3 := hide (HB2.out.trans (hb3.mono HB2.out.size))
  clear hb3 HB2
  unfold nilPlan errV
  go_wp2
  go_ret2
  exact ⟨rfl, HB3.out.alloc HB3.out.size _⟩
end Go.Proofs.YtlchpbnpmgfaoaaDoor
namespace Go.Proofs.YtlchpbnpmgfaoaaDoor
open Go.RowKit

set_option maxRecDepth 100000 in
set_option maxHeartbeats 2000000 in
theorem recvBad (b : Nat) (st st' : PSt) (key ad f draw : List UInt8) (hW : st.Wf) (hm : misL ad f draw = none) (hpl : planL st (f.take 32) (two f 32) (two f 34) draw = .ok (key, st')) (hg : ¬ goodTag key (ad ++ f.take 36) (f.drop 36)) (a : Nat → Addr) (w : World) (hE : Errs w a) (hT : Tab w) (hp : PAt w 0 b st) :
    Calls Tryd.prog 22 #[.pointer (some ⟨b, 0, none⟩), .string (str ad), .string (str f), .string (str draw)] w fun e w' => e = .returned (.tuple #[.string ⟨#[]⟩, errV a 3]) ∧ Bel w.heap.size w w' := by
  have za := str_size ad
  have zf := str_size f
  have HM : Hid (misL ad f draw = none) := hm
  have hml := hm
  unfold misL at hml
  have hla : ad.length ≤ 32 := by
    by_cases h : 32 < ad.length ∨ 116 < f.length
    · rw [if_pos h] at hml; cases hml
    · omega
  have hlf : f.length ≤ 116 := by
    by_cases h : 32 < ad.length ∨ 116 < f.length
    · rw [if_pos h] at hml; cases hml
    · omega
  rw [if_neg (by omega)] at hml
  have hld : draw.length = 32 := by
    by_cases h : draw.length ≠ 32
    · rw [if_pos h] at hml; cases hml
    · omega
  rw [if_neg (by omega)] at hml
  have hl5 : 52 ≤ f.length := by
    by_cases h : f.length < 52
    · rw [if_pos h] at hml; cases hml
    · omega
  clear hml hm
  have HC := hide (misfitP ad f draw (by unfold maxLen; omega) (by unfold maxLen; omega) (by unfold maxLen; omega) a w hE)
  rw [HM.out] at HC
  have HE := hide hE
  have HT := hide hT
  have HP := hide hp
  have HW := hide hW
  clear hE hT hp hW
  have l1 : (f.take 32).length = 32 := by rw [List.length_take]; omega
  have HPL : Hid (∀ w1, PAt w1 0 b st → Errs w1 a → Tab w1 → Calls Tryd.prog 42 #[.pointer (some ⟨b, 0, none⟩), .agg #[.string (str (f.take 32)), .int .i64 (two f 32 : Nat), .int .i64 (two f 34 : Nat)], .string (str draw)] w1 fun e w' => PlanPost w1 a e w' (planL st (f.take 32) (two f 32) (two f 34) draw)) := fun w1 h1 h2 h3 => plannedP 0 b _ _ st _ draw HW.out l1 hld (two_lt f 32) (two_lt f 34) a w1 h2 h3 h1
  have HRH : Hid (∀ w1, Calls Tryd.prog 43 #[.string (str f)] w1 fun e w' => e = .returned (.agg #[.string (str (f.take 32)), .int .i64 (two f 32 : Nat), .int .i64 (two f 34 : Nat)]) ∧ Bel w1.heap.size w1 w') := fun w1 => readHeadP f hl5 hlf w1
  have lk : key.length = 32 := (HW.out.plan _ _ _ _ l1 (two_lt f 32) (two_lt f 34) hld hpl).2
  have hx := sliceHi f 36 36 (by omega) (by omega)
  have hy := sliceLo f 36 36 (by omega) (by omega)
  have l36 : (f.take 36).length = 36 := by rw [List.length_take]; omega
  have lr : (f.drop 36).length = f.length - 36 := by rw [List.length_drop]
  have ha := addS ad (f.take 36) (by omega)
  have lA : (ad ++ f.take 36).length ≤ 68 := by rw [List.length_append]; omega
  rw [hpl] at HPL
  have HG := hide hg
  clear hg hpl
  generalize f.drop 36 = rest at *
  generalize f.take 36 = hd at *
  generalize f.take 32 = th at *
  generalize two f 32 = bf at *
  generalize two f 34 = n at *
  go_enter Tryd.func22, Tryd.ntmps22
  go_wp2_with fail
  refine HC.out.mono ?_
  rintro e w1 ⟨rfl, hb1⟩
  have HB1 := hide hb1
  clear hb1
  go_wp2_with fail
  refine (HRH.out _).mono ?_
  rintro e w2 ⟨rfl, hb2⟩
  have HB2 := hide (HB1.out.trans (hb2.mono HB1.out.size))
  clear hb2 HB1
  go_wp2_with fail
  refine (HPL.out _ (HP.out.below HB2.out) (HE.out.below HB2.out) (HT.out.below HB2.out)).mono ?_
  rintro e w3 ⟨v, rfl, bx, rfl, hbx, hpx, hbl⟩
  have HB3 := hide (HB2.out.trans (hbl.mono HB2.out.size))
  have HPx := hide hpx
  have hbw : w.heap.size ≤ bx := Nat.le_trans HB2.out.size hbx
  clear hbl hpx hbx
  have hsz3 := HB3.out.size
  have hbx3 := HPx.out.lt
  have hlt := HP.out.lt
  go_wp2_with fail
  have HB4 : Hid (Bel w.heap.size w (w3.alloc (.cells #[.string (str key), .pointer (some ⟨bx, 0, none⟩)] 72))) := HB3.out.alloc HB3.out.size _
  have HN4 : Hid ((w3.alloc (.cells #[.string (str key), .pointer (some ⟨bx, 0, none⟩)] 72)).heap[w3.heap.size]? = some (.cells #[.string (str key), .pointer (some ⟨bx, 0, none⟩)] 72 (0, 0))) := heap_alloc_new w3 _
  have HX4 : Hid (PAt (w3.alloc (.cells #[.string (str key), .pointer (some ⟨bx, 0, none⟩)] 72)) w2.heap.size bx st') := HPx.out.below ((Bel.refl _ _).alloc (Nat.le_refl _) _)
  generalize w3.alloc (.cells #[.string (str key), .pointer (some ⟨bx, 0, none⟩)] 72) = w4 at *
  generalize w3.heap.size = H at *
  have k0 := (rowTwo HN4.out).1
  go_region_held3 (fun w' => w'.cell? ⟨H, 0, none⟩ = some (.string (str key))) (assumption) (first | (go_at_call 18; refine (rOpenBad key (ad ++ hd) rest lA (by omega) (by omega) lk HG.out (a 3) _ (HT.out.below HB4.out.drew) (HE.out.below HB4.out.drew).g3).mono ?_; rintro e w5 ⟨rfl, hb5⟩; have HB5 := hide (HB4.out.trans ((Bel.ofDrew hb5).mono HB4.out.size)); have k1 := ((Bel.ofDrew hb5).cell (p := ⟨H, 0, none⟩) (Array.getElem?_eq_some_iff.1 HN4.out).1).trans k0; clear hb5))
  all_goals go_wp2
  all_goals go_ret2
  all_goals exact ⟨rfl, HB5.out⟩

theorem PBlk.copy {w : World} {b : Nat} {st : PSt} {v : Value} (h : PBlk w b st v) (st' : PSt) (v' : Value) :
    PBlk (((((((((w.setCell ⟨b, 0, none⟩ (.string (str st'.root))).setCell ⟨b, 1, none⟩ (.string (str st'.secret))).setCell ⟨b, 2, none⟩ (.string (str st'.theirs))).setCell ⟨b, 3, none⟩ (.string (str st'.sk))).setCell ⟨b, 4, none⟩ (.int .i64 (st'.sn : Int))).setCell ⟨b, 5, none⟩ (.int .i64 (st'.before : Int))).setCell ⟨b, 6, none⟩ (.string (str st'.rk))).setCell ⟨b, 7, none⟩ (.int .i64 (st'.rn : Int))).setCell ⟨b, 8, none⟩ v') b st' v' := by
  have h0 := h.set 0 (.string (str st'.root)) { st with root := st'.root } v rfl
  have h1 := h0.set 1 (.string (str st'.secret)) { st with root := st'.root, secret := st'.secret } v rfl
  have h2 := h1.set 2 (.string (str st'.theirs)) { st with root := st'.root, secret := st'.secret, theirs := st'.theirs } v rfl
  have h3 := h2.set 3 (.string (str st'.sk)) { st with root := st'.root, secret := st'.secret, theirs := st'.theirs, sk := st'.sk } v rfl
  have h4 := h3.set 4 (.int .i64 (st'.sn : Int)) { st with root := st'.root, secret := st'.secret, theirs := st'.theirs, sk := st'.sk, sn := st'.sn } v rfl
  have h5 := h4.set 5 (.int .i64 (st'.before : Int)) { st with root := st'.root, secret := st'.secret, theirs := st'.theirs, sk := st'.sk, sn := st'.sn, before := st'.before } v rfl
  have h6 := h5.set 6 (.string (str st'.rk)) { st with root := st'.root, secret := st'.secret, theirs := st'.theirs, sk := st'.sk, sn := st'.sn, before := st'.before, rk := st'.rk } v rfl
  have h7 := h6.set 7 (.int .i64 (st'.rn : Int)) { st with root := st'.root, secret := st'.secret, theirs := st'.theirs, sk := st'.sk, sn := st'.sn, before := st'.before, rk := st'.rk, rn := st'.rn } v rfl
  exact h7.set 8 v' st' v' rfl
theorem Chg.copy {u w : World} {b : Nat} (h : Chg b u w) (st' : PSt) (v' : Value) :
    Chg b u (((((((((w.setCell ⟨b, 0, none⟩ (.string (str st'.root))).setCell ⟨b, 1, none⟩ (.string (str st'.secret))).setCell ⟨b, 2, none⟩ (.string (str st'.theirs))).setCell ⟨b, 3, none⟩ (.string (str st'.sk))).setCell ⟨b, 4, none⟩ (.int .i64 (st'.sn : Int))).setCell ⟨b, 5, none⟩ (.int .i64 (st'.before : Int))).setCell ⟨b, 6, none⟩ (.string (str st'.rk))).setCell ⟨b, 7, none⟩ (.int .i64 (st'.rn : Int))).setCell ⟨b, 8, none⟩ v') :=
  ((((((((h.setCell 0 _).setCell 1 _).setCell 2 _).setCell 3 _).setCell 4 _).setCell 5 _).setCell 6 _).setCell 7 _).setCell 8 _
theorem PBlk.frz {w : World} {b : Nat} {st : PSt} {v : Value} (h : PBlk w b st v) : w.frozen? ⟨b, 0, none⟩ = false ∧ w.frozen? ⟨b, 1, none⟩ = false ∧ w.frozen? ⟨b, 2, none⟩ = false ∧ w.frozen? ⟨b, 3, none⟩ = false ∧ w.frozen? ⟨b, 4, none⟩ = false ∧ w.frozen? ⟨b, 5, none⟩ = false ∧ w.frozen? ⟨b, 6, none⟩ = false ∧ w.frozen? ⟨b, 7, none⟩ = false ∧ w.frozen? ⟨b, 8, none⟩ = false :=
  ⟨h.frozen 0, h.frozen 1, h.frozen 2, h.frozen 3, h.frozen 4, h.frozen 5, h.frozen 6, h.frozen 7, h.frozen 8⟩

set_option maxRecDepth 100000 in
set_option maxHeartbeats 2000000 in
theorem recvOk (b : Nat) (st st' : PSt) (key ad f draw : List UInt8) (hW : st.Wf) (hm : misL ad f draw = none) (hpl : planL st (f.take 32) (two f 32) (two f 34) draw = .ok (key, st')) (hg : goodTag key (ad ++ f.take 36) (f.drop 36)) (a : Nat → Addr) (w : World) (hE : Errs w a) (hT : Tab w) (hp : PAt w 0 b st) :
    Calls Tryd.prog 22 #[.pointer (some ⟨b, 0, none⟩), .string (str ad), .string (str f), .string (str draw)] w fun e w' => e = .returned (.tuple #[.string (str (boxL (k1 key) ((f.drop 36).take ((f.drop 36).length - 16)))), .nilIface]) ∧ PAt w' 0 b st' ∧ Chg b w w' := by
  have za := str_size ad
  have zf := str_size f
  have HM : Hid (misL ad f draw = none) := hm
  have hml := hm
  unfold misL at hml
  have hla : ad.length ≤ 32 := by
    by_cases h : 32 < ad.length ∨ 116 < f.length
    · rw [if_pos h] at hml; cases hml
    · omega
  have hlf : f.length ≤ 116 := by
    by_cases h : 32 < ad.length ∨ 116 < f.length
    · rw [if_pos h] at hml; cases hml
    · omega
  rw [if_neg (by omega)] at hml
  have hld : draw.length = 32 := by
    by_cases h : draw.length ≠ 32
    · rw [if_pos h] at hml; cases hml
    · omega
  rw [if_neg (by omega)] at hml
  have hl5 : 52 ≤ f.length := by
    by_cases h : f.length < 52
    · rw [if_pos h] at hml; cases hml
    · omega
  clear hml hm
  have HC := hide (misfitP ad f draw (by unfold maxLen; omega) (by unfold maxLen; omega) (by unfold maxLen; omega) a w hE)
  rw [HM.out] at HC
  have HE := hide hE
  have HT := hide hT
  have HP := hide hp
  have HW := hide hW
  clear hE hT hp hW
  have l1 : (f.take 32).length = 32 := by rw [List.length_take]; omega
  have HPL : Hid (∀ w1, PAt w1 0 b st → Errs w1 a → Tab w1 → Calls Tryd.prog 42 #[.pointer (some ⟨b, 0, none⟩), .agg #[.string (str (f.take 32)), .int .i64 (two f 32 : Nat), .int .i64 (two f 34 : Nat)], .string (str draw)] w1 fun e w' => PlanPost w1 a e w' (planL st (f.take 32) (two f 32) (two f 34) draw)) := fun w1 h1 h2 h3 => plannedP 0 b _ _ st _ draw HW.out l1 hld (two_lt f 32) (two_lt f 34) a w1 h2 h3 h1
  have HRH : Hid (∀ w1, Calls Tryd.prog 43 #[.string (str f)] w1 fun e w' => e = .returned (.agg #[.string (str (f.take 32)), .int .i64 (two f 32 : Nat), .int .i64 (two f 34 : Nat)]) ∧ Bel w1.heap.size w1 w') := fun w1 => readHeadP f hl5 hlf w1
  have lk : key.length = 32 := (HW.out.plan _ _ _ _ l1 (two_lt f 32) (two_lt f 34) hld hpl).2
  have hx := sliceHi f 36 36 (by omega) (by omega)
  have hy := sliceLo f 36 36 (by omega) (by omega)
  have l36 : (f.take 36).length = 36 := by rw [List.length_take]; omega
  have lr : (f.drop 36).length = f.length - 36 := by rw [List.length_drop]
  have ha := addS ad (f.take 36) (by omega)
  have lA : (ad ++ f.take 36).length ≤ 68 := by rw [List.length_append]; omega
  rw [hpl] at HPL
  have HG := hide hg
  clear hg hpl
  generalize hrest : f.drop 36 = rest at *
  generalize f.take 36 = hd at *
  clear hrest
  generalize f.take 32 = th at *
  generalize two f 32 = bf at *
  generalize two f 34 = n at *
  go_enter Tryd.func22, Tryd.ntmps22
  go_wp2_with fail
  refine HC.out.mono ?_
  rintro e w1 ⟨rfl, hb1⟩
  have HB1 := hide hb1
  clear hb1
  go_wp2_with fail
  refine (HRH.out _).mono ?_
  rintro e w2 ⟨rfl, hb2⟩
  have HB2 := hide (HB1.out.trans (hb2.mono HB1.out.size))
  clear hb2 HB1
  go_wp2_with fail
  refine (HPL.out _ (HP.out.below HB2.out) (HE.out.below HB2.out) (HT.out.below HB2.out)).mono ?_
  rintro e w3 ⟨v, rfl, bx, rfl, hbx, hpx, hbl⟩
  have HB3 := hide (HB2.out.trans (hbl.mono HB2.out.size))
  have HPx := hide hpx
  have hbw : w.heap.size ≤ bx := Nat.le_trans HB2.out.size hbx
  clear hbl hpx hbx
  have hsz3 := HB3.out.size
  have hbx3 := HPx.out.lt
  have hlt := HP.out.lt
  go_wp2_with fail
  have HB4 : Hid (Bel w.heap.size w (w3.alloc (.cells #[.string (str key), .pointer (some ⟨bx, 0, none⟩)] 72))) := HB3.out.alloc HB3.out.size _
  have HN4 : Hid ((w3.alloc (.cells #[.string (str key), .pointer (some ⟨bx, 0, none⟩)] 72)).heap[w3.heap.size]? = some (.cells #[.string (str key), .pointer (some ⟨bx, 0, none⟩)] 72 (0, 0))) := heap_alloc_new w3 _
  have HX4 : Hid (PAt (w3.alloc (.cells #[.string (str key), .pointer (some ⟨bx, 0, none⟩)] 72)) w2.heap.size bx st') := HPx.out.below ((Bel.refl _ _).alloc (Nat.le_refl _) _)
  generalize w3.alloc (.cells #[.string (str key), .pointer (some ⟨bx, 0, none⟩)] 72) = w4 at *
  generalize w3.heap.size = H at *
  have k0 := (rowTwo HN4.out).1
  have m1 := (rowTwo HN4.out).2.1
  have hHl : H < w4.heap.size := (Array.getElem?_eq_some_iff.1 HN4.out).1
  obtain ⟨vx, hPx, hOx⟩ := HX4.out
  obtain ⟨ao, c, rfl⟩ := hOx.form
  have HPx4 := hide hPx
  have HOx4 := hide hOx
  have HP4 := hide (HP.out.below HB4.out)
  clear hPx hOx
  go_region_held3 (fun w' => w'.cell? ⟨H, 0, none⟩ = some (.string (str key))) (assumption) (first | (go_at_call 18; refine (rOpenOk key (ad ++ hd) rest lA (by omega) (by omega) lk HG.out _ (HT.out.below HB4.out.drew)).mono ?_; rintro e w5 ⟨rfl, hb5⟩; have hb5' := Bel.ofDrew hb5; have HB5 := hide (HB4.out.trans (hb5'.mono HB4.out.size)); have k0' := (hb5'.cell (p := ⟨H, 0, none⟩) hHl).trans k0; have m1' := (hb5'.cell (p := ⟨H, 1, none⟩) hHl).trans m1; have HPx5 := hide (HPx4.out.below hb5'); have HOx5 := hide (HOx4.out.below hb5'); have HP5 := hide (HP4.out.below hb5'); clear hb5 hb5'))
  obtain ⟨vp, hPp, _⟩ := HP5.out
  obtain ⟨p0, p1, p2, p3, p4, p5, p6, p7, p8⟩ := hPp.all
  obtain ⟨f0, f1, f2, f3, f4, f5, f6, f7, f8⟩ := hPp.frz
  obtain ⟨x0, x1, x2, x3, x4, x5, x6, x7, x8⟩ := HPx5.out.all
  have HPp := hide hPp
  clear hPp
  have hne : b ≠ bx := by omega
  go_wp2
  go_ret2
  refine ⟨by rw [lr]; rfl, ⟨_, HPp.out.copy st' _, ?_⟩, (Chg.of_bel HB5.out).copy st' _⟩
  exact (HOx5.out.base (Nat.zero_le _)).chg ((Chg.of_bel (Bel.refl _ _)).copy st' _) HPp.out (by decide)

/-- Receive, whatever the party and the frame are. -/
theorem recvP (b : Nat) (st : PSt) (ad f draw : List UInt8) (ma : ad.length ≤ maxLen) (mf : f.length ≤ maxLen) (md : draw.length ≤ maxLen) (hW : st.Wf) (a : Nat → Addr) (w : World) (hE : Errs w a) (hT : Tab w) (hp : PAt w 0 b st) :
    Calls Tryd.prog 22 #[.pointer (some ⟨b, 0, none⟩), .string (str ad), .string (str f), .string (str draw)] w fun e w' => e = .returned (resV a (recvL st ad f draw)) ∧ PAt w' 0 b (resS st (recvL st ad f draw)) ∧ Chg b w w' := by
  cases hm : misL ad f draw with
  | some i =>
    have e : recvL st ad f draw = .error i := by
      unfold misL at hm
      unfold recvL
      by_cases h1 : 32 < ad.length ∨ 116 < f.length
      · rw [if_pos h1] at hm ⊢; injection hm with hm; rw [hm]
      · rw [if_neg h1] at hm ⊢
        by_cases h2 : draw.length ≠ 32
        · rw [if_pos h2] at hm ⊢; injection hm with hm; rw [hm]
        · rw [if_neg h2] at hm ⊢
          by_cases h3 : f.length < 52
          · rw [if_pos h3] at hm ⊢; injection hm with hm; rw [hm]
          · rw [if_neg h3] at hm; cases hm
    rw [e]
    exact (recvMis b i ad f draw ma mf md hm a w hE).mono fun e w' ⟨he, hb⟩ => ⟨he, hp.below hb, Chg.of_bel hb⟩
  | none =>
    have e : recvL st ad f draw = match planL st (f.take 32) (two f 32) (two f 34) draw with
        | .error e => .error e
        | .ok (key, st') => if goodTag key (ad ++ f.take 36) (f.drop 36) then .ok (boxL (k1 key) ((f.drop 36).take ((f.drop 36).length - 16)), st') else .error 3 := by
      unfold misL at hm
      unfold recvL
      by_cases h1 : 32 < ad.length ∨ 116 < f.length
      · rw [if_pos h1] at hm; cases hm
      · rw [if_neg h1] at hm ⊢
        by_cases h2 : draw.length ≠ 32
        · rw [if_pos h2] at hm; cases hm
        · rw [if_neg h2] at hm ⊢
          by_cases h3 : f.length < 52
          · rw [if_pos h3] at hm; cases hm
          · rw [if_neg h3]
            all_goals (generalize planL st (f.take 32) (two f 32) (two f 34) draw = x; rcases x with e | ⟨key, st'⟩ <;> rfl)
    rw [e]
    cases hpl : planL st (f.take 32) (two f 32) (two f 34) draw with
    | error i => exact (recvPlanEr b i st ad f draw hW hm hpl a w hE hT hp).mono fun e w' ⟨he, hb⟩ => ⟨he, hp.below hb, Chg.of_bel hb⟩
    | ok x =>
      obtain ⟨key, st'⟩ := x
      by_cases hg : goodTag key (ad ++ f.take 36) (f.drop 36)
      · simp only [if_pos hg]
        exact recvOk b st st' key ad f draw hW hm hpl hg a w hE hT hp
      · simp only [if_neg hg]
        exact (recvBad b st st' key ad f draw hW hm hpl hg a w hE hT hp).mono fun e w' ⟨he, hb⟩ => ⟨he, hp.below hb, Chg.of_bel hb⟩
end Go.Proofs.YtlchpbnpmgfaoaaDoor
namespace Go.Proofs.YtlchpbnpmgfaoaaDoor
open Go.RowKit

set_option maxRecDepth 100000 in
set_option maxHeartbeats 1000000 in
theorem firstBad (r t d : List UInt8) (hb : keysB [r, t, d] = false) (mr : r.length ≤ maxLen) (mt : t.length ≤ maxLen) (md : d.length ≤ maxLen) (a : Nat → Addr) (w : World) (hE : Errs w a) :
    Calls Tryd.prog 36 #[.string (str r), .string (str t), .string (str d)] w fun e w' => e = .returned (.tuple #[.pointer none, errV a 1]) ∧ Bel w.heap.size w w' := by
  have HK := hide hb
  have MR := hide mr
  have MT := hide mt
  have MD := hide md
  have g1 := hE.at.2.1
  have l1 := cell_lt g1
  clear hb mr mt md hE
  have HB : Hid (Bel w.heap.size w (w.alloc (.cells #[.string (str r), .string (str t), .string (str d)] 9))) := (Bel.refl _ _).alloc (Nat.le_refl _) _
  have d1 := (HB.out.cell (p := ⟨1, 0, none⟩) l1).trans g1
  go_enter Tryd.func36, Tryd.ntmps36
  go_wp2_with fail
  refine (areKeysP w.heap.size [r, t, d] (by simp) _ (strs3 w r t d) (by intro x hx; simp at hx; rcases hx with rfl | rfl | rfl; exact MR.out; exact MT.out; exact MD.out)).mono ?_
  rintro e w1 ⟨rfl, rfl⟩
  rw [HK.out]
  generalize w.alloc (.cells #[.string (str r), .string (str t), .string (str d)] 9) = w2 at *
  go_wp2_with fail
  go_quiet (fail)
  go_wp2
  go_ret2
  exact ⟨rfl, belowN HB.out _⟩

set_option maxRecDepth 100000 in
set_option maxHeartbeats 1000000 in
theorem secondBad (r o : List UInt8) (hb : keysB [r, o] = false) (mr : r.length ≤ maxLen) (mo : o.length ≤ maxLen) (a : Nat → Addr) (w : World) (hE : Errs w a) :
    Calls Tryd.prog 37 #[.string (str r), .string (str o)] w fun e w' => e = .returned (.tuple #[.pointer none, errV a 1]) ∧ Bel w.heap.size w w' := by
  have HK := hide hb
  have MR := hide mr
  have MO := hide mo
  have g1 := hE.at.2.1
  have l1 := cell_lt g1
  clear hb mr mo hE
  have HB : Hid (Bel w.heap.size w (w.alloc (.cells #[.string (str r), .string (str o)] 9))) := (Bel.refl _ _).alloc (Nat.le_refl _) _
  have d1 := (HB.out.cell (p := ⟨1, 0, none⟩) l1).trans g1
  go_enter Tryd.func37, Tryd.ntmps37
  go_wp2_with fail
  refine (areKeysP w.heap.size [r, o] (by simp) _ (strs2 w r o) (by intro x hx; simp at hx; rcases hx with rfl | rfl; exact MR.out; exact MO.out)).mono ?_
  rintro e w1 ⟨rfl, rfl⟩
  rw [HK.out]
  generalize w.alloc (.cells #[.string (str r), .string (str o)] 9) = w2 at *
  go_wp2_with fail
  go_quiet (fail)
  go_wp2
  go_ret2
  exact ⟨rfl, belowN HB.out _⟩

set_option maxRecDepth 100000 in
set_option maxHeartbeats 1000000 in
theorem secondOk (r o : List UInt8) (hr : r.length = 32) (ho : o.length = 32) (w : World) :
    Calls Tryd.prog 37 #[.string (str r), .string (str o)] w fun e w' => ∃ b, e = .returned (.tuple #[.pointer (some ⟨b, 0, none⟩), .nilIface]) ∧ w.heap.size ≤ b ∧ PAt w' w.heap.size b (secondS r o) ∧ Bel w.heap.size w w' := by
  have HK : Hid (keysB [r, o] = true) := by show keysB [r, o] = true; simp [keysB]; omega
  have HB : Hid (Bel w.heap.size w (w.alloc (.cells #[.string (str r), .string (str o)] 9))) := (Bel.refl _ _).alloc (Nat.le_refl _) _
  go_enter Tryd.func37, Tryd.ntmps37
  go_wp2_with fail
  refine (areKeysP w.heap.size [r, o] (by simp) _ (strs2 w r o) (by intro x hx; simp at hx; rcases hx with rfl | rfl <;> (unfold maxLen; omega))).mono ?_
  rintro e w1 ⟨rfl, rfl⟩
  rw [HK.out]
  generalize w.alloc (.cells #[.string (str r), .string (str o)] 9) = w2 at *
  have HS := HB.out.size
  go_wp2
  go_ret2
  exact ⟨w2.heap.size, rfl, HS, ⟨.slice none 0 0, heap_alloc_new w2 _, World.ownsRow_nil _ _ _ _⟩, HB.out.alloc HS _⟩

set_option maxRecDepth 100000 in
set_option maxHeartbeats 1000000 in
theorem firstOk (r t d : List UInt8) (hr : r.length = 32) (ht : t.length = 32) (hd : d.length = 32) (w : World) (hT : Tab w) :
    Calls Tryd.prog 36 #[.string (str r), .string (str t), .string (str d)] w fun e w' => ∃ b, e = .returned (.tuple #[.pointer (some ⟨b, 0, none⟩), .nilIface]) ∧ w.heap.size ≤ b ∧ PAt w' w.heap.size b (firstS r t d) ∧ Bel w.heap.size w w' := by
  have HK : Hid (keysB [r, t, d] = true) := by show keysB [r, t, d] = true; simp [keysB]; omega
  have HB : Hid (Bel w.heap.size w (w.alloc (.cells #[.string (str r), .string (str t), .string (str d)] 9))) := (Bel.refl _ _).alloc (Nat.le_refl _) _
  have HT := hide hT
  clear hT
  go_enter Tryd.func36, Tryd.ntmps36
  go_wp2_with fail
  refine (areKeysP w.heap.size [r, t, d] (by simp) _ (strs3 w r t d) (by intro x hx; simp at hx; rcases hx with rfl | rfl | rfl <;> (unfold maxLen; omega))).mono ?_
  rintro e w1 ⟨rfl, rfl⟩
  rw [HK.out]
  generalize w.alloc (.cells #[.string (str r), .string (str t), .string (str d)] 9) = w2 at *
  have HS := HB.out.size
  go_wp2_with fail
  have HP3 : Hid (PAt (w2.alloc (.cells (pCells ⟨r, d, t, [], 0, 0, [], 0, []⟩ (.slice none 0 0)) 67)) w.heap.size w2.heap.size ⟨r, d, t, [], 0, 0, [], 0, []⟩) := ⟨.slice none 0 0, heap_alloc_new w2 _, World.ownsRow_nil _ _ _ _⟩
  have HB3 : Hid (Bel w.heap.size w (w2.alloc (.cells (pCells ⟨r, d, t, [], 0, 0, [], 0, []⟩ (.slice none 0 0)) 67))) := HB.out.alloc HS _
  have HW : Hid (PSt.Wf ⟨r, d, t, [], 0, 0, [], 0, []⟩) := ⟨hr, hd, .inr ht, .inl rfl, Nat.zero_le _, Nat.zero_le _, .inl rfl, Nat.zero_le _, fun h => absurd rfl h, Nat.zero_le _, fun k hk => by cases hk⟩
  refine (turnP w.heap.size w2.heap.size ⟨r, d, t, [], 0, 0, [], 0, []⟩ HW.out ht _ (HT.out.below HB3.out) HP3.out HS).mono ?_
  rintro e w4 ⟨rfl, hp4, hb4⟩
  obtain ⟨v4, hP4, hO4⟩ := hp4
  have HB4 := hide (HB3.out.trans hb4)
  obtain ⟨_, _, _, c3, c4, _, _, _, _⟩ := hP4.all
  have f3 := hP4.frozen 3
  have f4 := hP4.frozen 4
  generalize w2.heap.size = b at *
  have HP5 : Hid (PAt ((w4.setCell ⟨b, 3, none⟩ (.string (str (turnC r d t)))).setCell ⟨b, 4, none⟩ (.int .i64 0)) w.heap.size b (firstS r t d)) := by
    have p1 := hP4.set 3 (.string (str (turnC r d t))) ⟨turnR r d t, d, t, turnC r d t, 0, 0, [], 0, []⟩ v4 rfl
    exact ⟨v4, p1.set 4 _ _ _ rfl, (hO4.set hP4 3 _).set p1 4 _⟩
  have HB5 := hide ((HB4.out.setCell (p := ⟨b, 3, none⟩) HS (.string (str (turnC r d t)))).setCell (p := ⟨b, 4, none⟩) HS (.int .i64 0))
  clear hP4 hO4 hb4
  go_wp2
  go_ret2
  exact ⟨b, rfl, HS, HP5.out, HB5.out⟩
end Go.Proofs.YtlchpbnpmgfaoaaDoor
namespace Go.Proofs.YtlchpbnpmgfaoaaDoor
open Go.RowKit

theorem secondAny (r o : List UInt8) (mr : r.length ≤ maxLen) (mo : o.length ≤ maxLen) (a : Nat → Addr) (w : World) (hE : Errs w a) :
    Calls Tryd.prog 37 #[.string (str r), .string (str o)] w fun e w' => ∃ q ev, e = .returned (.tuple #[.pointer q, ev]) ∧ Bel w.heap.size w w' := by
  cases hk : keysB [r, o] with
  | false => exact (secondBad r o hk mr mo a w hE).mono fun e w' ⟨he, hb⟩ => ⟨_, _, he, hb⟩
  | true =>
    have h : r.length = 32 ∧ o.length = 32 := by simpa [keysB] using hk
    exact (secondOk r o h.1 h.2 w).mono fun e w' ⟨b, he, _, _, hb⟩ => ⟨_, _, he, hb⟩

set_option maxRecDepth 100000 in
set_option maxHeartbeats 1000000 in
theorem pairBad1 (r o d p : List UInt8) (ev : Value) (mr : r.length ≤ maxLen) (mo : o.length ≤ maxLen) (md : d.length ≤ maxLen) (mp : p.length ≤ maxLen) (hk : keysB [r, p, d] = false) (h1 : r.length ≠ 32)
    (a : Nat → Addr) (HPub : ∀ w, Errs w a → Calls Tryd.prog 15 #[.string (str o)] w fun e w' => e = .returned (.tuple #[.string (str p), ev]) ∧ Bel w.heap.size w w') (w : World) (hE : Errs w a) :
    Calls Tryd.prog 20 #[.string (str r), .string (str o), .string (str d)] w fun e w' => e = .returned (.tuple #[.pointer none, .pointer none, .bool true]) ∧ Bel w.heap.size w w' := by
  have zr := str_size r
  have zo := str_size o
  have zd := str_size d
  have mr' : r.length ≤ 9223372036854775807 := by unfold maxLen at mr; omega
  have mo' : o.length ≤ 9223372036854775807 := by unfold maxLen at mo; omega
  have md' : d.length ≤ 9223372036854775807 := by unfold maxLen at md; omega
  have HP := hide HPub
  have HE := hide hE
  have HF := hide (fun w hE => firstBad r p d hk mr mp md a w hE)
  have HS := hide (fun w hE => secondAny r o mr mo a w hE)
  clear HPub hE mr mo md mp hk
  have br : ((r.length : Int) == 32) = false := by rw [beq_eq_false_iff_ne]; omega
  go_enter Tryd.func20, Tryd.ntmps20
  go_wp2_with fail
  refine (HP.out _ HE.out).mono ?_
  rintro e w1 ⟨rfl, hb1⟩
  have HB1 := hide hb1
  clear hb1
  go_wp2_with fail
  refine (HF.out _ (HE.out.below HB1.out)).mono ?_
  rintro e w2 ⟨rfl, hb2⟩
  have HB2 := hide (HB1.out.trans (hb2.mono HB1.out.size))
  clear hb2 HB1
  unfold errV
  go_wp2_with fail
  refine (HS.out _ (HE.out.below HB2.out)).mono ?_
  rintro e w3 ⟨q, ev3, rfl, hb3⟩
  have HB3 := hide (HB2.out.trans (hb3.mono HB2.out.size))
  clear hb3 HB2
  go_wp2_with fail
  go_quiet (fail)
  go_wp2
  go_ret3
  exact ⟨rfl, belowN HB3.out _⟩

set_option maxRecDepth 100000 in
set_option maxHeartbeats 1000000 in
theorem pairBad2 (r o d p : List UInt8) (ev : Value) (mr : r.length ≤ maxLen) (mo : o.length ≤ maxLen) (md : d.length ≤ maxLen) (mp : p.length ≤ maxLen) (hk : keysB [r, p, d] = false) (h1 : r.length = 32) (h2 : o.length ≠ 32)
    (a : Nat → Addr) (HPub : ∀ w, Errs w a → Calls Tryd.prog 15 #[.string (str o)] w fun e w' => e = .returned (.tuple #[.string (str p), ev]) ∧ Bel w.heap.size w w') (w : World) (hE : Errs w a) :
    Calls Tryd.prog 20 #[.string (str r), .string (str o), .string (str d)] w fun e w' => e = .returned (.tuple #[.pointer none, .pointer none, .bool true]) ∧ Bel w.heap.size w w' := by
  have zr := str_size r
  have zo := str_size o
  have zd := str_size d
  have mr' : r.length ≤ 9223372036854775807 := by unfold maxLen at mr; omega
  have mo' : o.length ≤ 9223372036854775807 := by unfold maxLen at mo; omega
  have md' : d.length ≤ 9223372036854775807 := by unfold maxLen at md; omega
  have HP := hide HPub
  have HE := hide hE
  have HF := hide (fun w hE => firstBad r p d hk mr mp md a w hE)
  have HS := hide (fun w hE => secondAny r o mr mo a w hE)
  clear HPub hE mr mo md mp hk
  have bo : ((o.length : Int) == 32) = false := by rw [beq_eq_false_iff_ne]; omega
  go_enter Tryd.func20, Tryd.ntmps20
  go_wp2_with fail
  refine (HP.out _ HE.out).mono ?_
  rintro e w1 ⟨rfl, hb1⟩
  have HB1 := hide hb1
  clear hb1
  go_wp2_with fail
  refine (HF.out _ (HE.out.below HB1.out)).mono ?_
  rintro e w2 ⟨rfl, hb2⟩
  have HB2 := hide (HB1.out.trans (hb2.mono HB1.out.size))
  clear hb2 HB1
  unfold errV
  go_wp2_with fail
  refine (HS.out _ (HE.out.below HB2.out)).mono ?_
  rintro e w3 ⟨q, ev3, rfl, hb3⟩
  have HB3 := hide (HB2.out.trans (hb3.mono HB2.out.size))
  clear hb3 HB2
  go_wp2_with fail
  go_quiet (fail)
  go_wp2
  go_ret3
  exact ⟨rfl, belowN HB3.out _⟩

set_option maxRecDepth 100000 in
set_option maxHeartbeats 1000000 in
theorem pairBad3 (r o d p : List UInt8) (ev : Value) (mr : r.length ≤ maxLen) (mo : o.length ≤ maxLen) (md : d.length ≤ maxLen) (mp : p.length ≤ maxLen) (hk : keysB [r, p, d] = false) (h1 : r.length = 32) (h2 : o.length = 32) (h3 : d.length ≠ 32)
    (a : Nat → Addr) (HPub : ∀ w, Errs w a → Calls Tryd.prog 15 #[.string (str o)] w fun e w' => e = .returned (.tuple #[.string (str p), ev]) ∧ Bel w.heap.size w w') (w : World) (hE : Errs w a) :
    Calls Tryd.prog 20 #[.string (str r), .string (str o), .string (str d)] w fun e w' => e = .returned (.tuple #[.pointer none, .pointer none, .bool true]) ∧ Bel w.heap.size w w' := by
  have zr := str_size r
  have zo := str_size o
  have zd := str_size d
  have mr' : r.length ≤ 9223372036854775807 := by unfold maxLen at mr; omega
  have mo' : o.length ≤ 9223372036854775807 := by unfold maxLen at mo; omega
  have md' : d.length ≤ 9223372036854775807 := by unfold maxLen at md; omega
  have HP := hide HPub
  have HE := hide hE
  have HF := hide (fun w hE => firstBad r p d hk mr mp md a w hE)
  have HS := hide (fun w hE => secondAny r o mr mo a w hE)
  clear HPub hE mr mo md mp hk
  have bd : ((d.length : Int) == 32) = false := by rw [beq_eq_false_iff_ne]; omega
  go_enter Tryd.func20, Tryd.ntmps20
  go_wp2_with fail
  refine (HP.out _ HE.out).mono ?_
  rintro e w1 ⟨rfl, hb1⟩
  have HB1 := hide hb1
  clear hb1
  go_wp2_with fail
  refine (HF.out _ (HE.out.below HB1.out)).mono ?_
  rintro e w2 ⟨rfl, hb2⟩
  have HB2 := hide (HB1.out.trans (hb2.mono HB1.out.size))
  clear hb2 HB1
  unfold errV
  go_wp2_with fail
  refine (HS.out _ (HE.out.below HB2.out)).mono ?_
  rintro e w3 ⟨q, ev3, rfl, hb3⟩
  have HB3 := hide (HB2.out.trans (hb3.mono HB2.out.size))
  clear hb3 HB2
  go_wp2_with fail
  go_quiet (fail)
  go_wp2
  go_ret3
  exact ⟨rfl, belowN HB3.out _⟩

theorem pairBad (r o d : List UInt8) (mr : r.length ≤ maxLen) (mo : o.length ≤ maxLen) (md : d.length ≤ maxLen) (h : ¬ (r.length = 32 ∧ o.length = 32 ∧ d.length = 32)) (a : Nat → Addr) (w : World) (hE : Errs w a) :
    Calls Tryd.prog 20 #[.string (str r), .string (str o), .string (str d)] w fun e w' => e = .returned (.tuple #[.pointer none, .pointer none, .bool true]) ∧ Bel w.heap.size w w' := by
  by_cases ho : o.length = 32
  · have lx := x25519_length o nine
    have hp := fun w (_ : Errs w a) => rPublicGood o ho w
    have mp : (x25519 o nine).length ≤ maxLen := by rw [lx]; decide
    generalize x25519 o nine = p at *
    have hk : keysB [r, p, d] = false := by
      simp only [keysB, List.all_cons, List.all_nil, Bool.and_true, Bool.and_eq_false_iff, decide_eq_false_iff_not]
      omega
    by_cases hr : r.length = 32
    · exact pairBad3 r o d p _ mr mo md mp hk hr ho (fun hd => h ⟨hr, ho, hd⟩) a hp w hE
    · exact pairBad1 r o d p _ mr mo md mp hk hr a hp w hE
  · have hp := fun w (hE : Errs w a) => rPublicBad o ho mo (a 1) w hE.g1
    have hk : keysB [r, [], d] = false := by
      simp only [keysB, List.all_cons, List.all_nil, Bool.and_true, Bool.and_eq_false_iff, decide_eq_false_iff_not]
      exact .inr (.inl (by decide))
    by_cases hr : r.length = 32
    · exact pairBad2 r o d [] _ mr mo md (by decide) hk hr ho a hp w hE
    · exact pairBad1 r o d [] _ mr mo md (by decide) hk hr a hp w hE

set_option maxRecDepth 100000 in
set_option maxHeartbeats 1000000 in
theorem pairOk (r o d : List UInt8) (hr : r.length = 32) (ho : o.length = 32) (hd : d.length = 32) (w : World) (hT : Tab w) :
    Calls Tryd.prog 20 #[.string (str r), .string (str o), .string (str d)] w fun e w' => ∃ p q, e = .returned (.tuple #[.pointer (some ⟨p, 0, none⟩), .pointer (some ⟨q, 0, none⟩), .bool true]) ∧ w.heap.size ≤ p ∧ p < q ∧ PAt w' 0 p (firstS r (x25519 o nine) d) ∧ PAt w' 0 q (secondS r o) ∧ Bel w.heap.size w w' := by
  have zr := str_size r
  have zo := str_size o
  have zd := str_size d
  have lx := x25519_length o nine
  have HT := hide hT
  clear hT
  go_enter Tryd.func20, Tryd.ntmps20
  go_wp2_with fail
  refine (rPublicGood o ho _).mono ?_
  rintro e w1 ⟨rfl, hb1⟩
  have HB1 := hide hb1
  clear hb1
  generalize hx : x25519 o nine = x at *
  have HX := hide hx
  clear hx
  have zx := str_size x
  have nx := ba_ne (str x) (by omega)
  have mx := ba_em (str x) (by omega)
  go_wp2_with fail
  refine (firstOk r x d hr lx hd _ (HT.out.below HB1.out)).mono ?_
  rintro e w2 ⟨p, rfl, hp, hP, hb2⟩
  have HB2 := hide (HB1.out.trans (hb2.mono HB1.out.size))
  have HP2 := hide (hP.base (Nat.zero_le _))
  have hpw : w.heap.size ≤ p := Nat.le_trans HB1.out.size hp
  clear hb2 hP hp
  go_wp2_with fail
  refine (secondOk r o hr ho _).mono ?_
  rintro e w3 ⟨q, rfl, hq, hQ, hb3⟩
  have HB3 := hide (HB2.out.trans (hb3.mono HB2.out.size))
  have HP3 := hide (HP2.out.below hb3)
  have HQ3 := hide (hQ.base (Nat.zero_le _))
  have hpq : p < q := Nat.lt_of_lt_of_le HP2.out.lt hq
  clear hb3 hQ hq
  go_wp2
  go_ret3
  exact ⟨p, q, rfl, hpw, hpq, by rw [HX.out]; exact HP3.out, HQ3.out, HB3.out⟩
end Go.Proofs.YtlchpbnpmgfaoaaDoor
