/-
  Package ratchet's turn.
-/
import Derived.Test.YtgjdogkciklgkaaDoorPc
namespace Go.Proofs.YtgjdogkciklgkaaDoor
open Go.RowKit

/-- Party b, and two chains that are not begun at H and H + 1. -/
structure TF (W : World) (b H : Nat) (st : PSt) (v : Value) : Prop where
  p : PBlk W b st v
  t2 : W.heap[H]? = some (.cells #[.string ⟨#[]⟩, .int .i64 0] 64 (0, 0))
  t3 : W.heap[H + 1]? = some (.cells #[.string ⟨#[]⟩, .int .i64 0] 64 (0, 0))
theorem TF.below {W W' : World} {b H : Nat} {st : PSt} {v : Value} (h : TF W b H st v) (hb : Bel W.heap.size W W') : TF W' b H st v :=
  ⟨h.p.below hb, (hb.block H (Array.getElem?_eq_some_iff.1 h.t2).1).trans h.t2, (hb.block (H + 1) (Array.getElem?_eq_some_iff.1 h.t3).1).trans h.t3⟩
theorem TF.cells {W : World} {b H : Nat} {st : PSt} {v : Value} (h : TF W b H st v) : (W.cell? ⟨b, 1, none⟩ = some (.string (str st.secret)) ∧ W.cell? ⟨b, 2, none⟩ = some (.string (str st.theirs))) ∧ W.cell? ⟨b, 0, none⟩ = some (.string (str st.root)) ∧ W.frozen? ⟨b, 0, none⟩ = false ∧
    W.cell? ⟨H, 0, none⟩ = some (.string ⟨#[]⟩) ∧ W.cell? ⟨H, 1, none⟩ = some (.int .i64 0) ∧ W.frozen? ⟨H, 0, none⟩ = false ∧ W.frozen? ⟨H, 1, none⟩ = false ∧ W.cell? ⟨H + 1, 0, none⟩ = some (.string ⟨#[]⟩) ∧ W.cell? ⟨H + 1, 1, none⟩ = some (.int .i64 0) ∧ W.frozen? ⟨H + 1, 0, none⟩ = false :=
  ⟨⟨h.p.cell 1, h.p.cell 2⟩, h.p.cell 0, h.p.frozen 0, cell_of_row W H 0 _ _ (0, 0) h.t2, cell_of_row W H 1 _ _ (0, 0) h.t2, frozen_of_row W H 0 _ _ h.t2, frozen_of_row W H 1 _ _ h.t2, cell_of_row W (H + 1) 0 _ _ (0, 0) h.t3, cell_of_row W (H + 1) 1 _ _ (0, 0) h.t3, frozen_of_row W (H + 1) 0 _ _ h.t3⟩
theorem TF.drew {W : World} {b H : Nat} {st : PSt} {v : Value} (h : TF W b H st v) : TF W.drew b H st v := ⟨h.p, h.t2, h.t3⟩

theorem Tryd.sizeChain : (Tryd.prog.info? 64).map (·.size) = some 2 := by kernel_rfl
theorem chgSet (b o : Nat) (w : World) (x : Value) : Chg b w (w.setCell ⟨b, o, none⟩ x) := (Chg.of_bel (Bel.refl _ _)).setCell o x
theorem turnEnd {w w3 : World} {base b H : Nat} {st : PSt} {v : Value} (tf : TF w3 b H st v) (ho : Own w3 base v st.kept) (hw : Bel H w w3) (hlt : b < H) (hB : base ≤ b) (R C : List UInt8) :
    ((((w3.setCell ⟨b, 0, none⟩ (.string (str R))).setCell ⟨H + 1, 0, none⟩ (.string (str C))).setCell ⟨H, 0, none⟩ (.string (str C))).setCell ⟨H, 1, none⟩ (.int .i64 0)).heap[H]? = some (.cells #[.string (str C), .int .i64 0] 64 (0, 0)) ∧
    PAt ((((w3.setCell ⟨b, 0, none⟩ (.string (str R))).setCell ⟨H + 1, 0, none⟩ (.string (str C))).setCell ⟨H, 0, none⟩ (.string (str C))).setCell ⟨H, 1, none⟩ (.int .i64 0)) base b { st with root := R } ∧
    Bel base w ((((w3.setCell ⟨b, 0, none⟩ (.string (str R))).setCell ⟨H + 1, 0, none⟩ (.string (str C))).setCell ⟨H, 0, none⟩ (.string (str C))).setCell ⟨H, 1, none⟩ (.int .i64 0)) := by
  have p1 : PBlk (w3.setCell ⟨b, 0, none⟩ (.string (str R))) b { st with root := R } v := tf.p.set 0 _ _ _ rfl
  have o1 := ho.chg (chgSet b 0 w3 (.string (str R))) tf.p (by decide)
  have t21 := (heap_setCell_other w3 ⟨b, 0, none⟩ H (.string (str R)) (show H ≠ b by omega)).trans tf.t2
  have t31 := (heap_setCell_other w3 ⟨b, 0, none⟩ (H + 1) (.string (str R)) (show H + 1 ≠ b by omega)).trans tf.t3
  have b1 := (hw.mono (show base ≤ H by omega)).setCell (p := ⟨b, 0, none⟩) hB (.string (str R))
  generalize w3.setCell ⟨b, 0, none⟩ (.string (str R)) = u1 at *
  have p2 : PBlk (u1.setCell ⟨H + 1, 0, none⟩ (.string (str C))) b { st with root := R } v := (heap_setCell_other u1 ⟨H + 1, 0, none⟩ b _ (show b ≠ H + 1 by omega)).trans p1
  have o2 := o1.chg (chgSet (H + 1) 0 u1 (.string (str C))) t31 (by decide)
  have t22 := (heap_setCell_other u1 ⟨H + 1, 0, none⟩ H (.string (str C)) (show H ≠ H + 1 by omega)).trans t21
  have b2 := b1.setCell (p := ⟨H + 1, 0, none⟩) (show base ≤ H + 1 by omega) (.string (str C))
  generalize u1.setCell ⟨H + 1, 0, none⟩ (.string (str C)) = u2 at *
  have p3 : PBlk (u2.setCell ⟨H, 0, none⟩ (.string (str C))) b { st with root := R } v := (heap_setCell_other u2 ⟨H, 0, none⟩ b _ (show b ≠ H by omega)).trans p2
  have o3 := o2.chg (chgSet H 0 u2 (.string (str C))) t22 (by decide)
  have t23 := heap_setCell_same u2 H 0 _ _ (.string (str C)) t22
  have b3 := b2.setCell (p := ⟨H, 0, none⟩) (show base ≤ H by omega) (.string (str C))
  generalize u2.setCell ⟨H, 0, none⟩ (.string (str C)) = u3 at *
  have p4 : PBlk (u3.setCell ⟨H, 1, none⟩ (.int .i64 0)) b { st with root := R } v := (heap_setCell_other u3 ⟨H, 1, none⟩ b _ (show b ≠ H by omega)).trans p3
  exact ⟨heap_setCell_same u3 H 1 _ _ (.int .i64 0) t23, ⟨v, p4, o3.chg (chgSet H 1 u3 (.int .i64 0)) t23 (by decide)⟩, b3.setCell (p := ⟨H, 1, none⟩) (show base ≤ H by omega) (.int .i64 0)⟩

set_option maxRecDepth 100000 in
set_option maxHeartbeats 4000000 in
theorem turnP (base b : Nat) (st : PSt) (hW : st.Wf) (ht : st.theirs.length = 32) (w : World) (hT : Tab w) (hp : PAt w base b st) (hB : base ≤ b) :
    Calls Tryd.prog 66 #[.pointer (some ⟨b, 0, none⟩)] w fun e w' => e = .returned (.agg #[.string (str (turnC st.root st.secret st.theirs)), .int .i64 0]) ∧ PAt w' base b { st with root := turnR st.root st.secret st.theirs } ∧ Bel base w w' := by
  obtain ⟨v, hP, hO⟩ := hp
  have hlt := hP.lt
  have hne0 : b ≠ w.heap.size := by omega
  have hne1 : b ≠ w.heap.size + 1 := by omega
  have hrl := hW.root
  have hsl := hW.secret
  have HW0 : Hid (Bel w.heap.size w ((w.alloc (.cells #[.string ⟨#[]⟩, .int .i64 0] 64)).alloc (.cells #[.string ⟨#[]⟩, .int .i64 0] 64))) := ((Bel.refl _ _).alloc (Nat.le_refl _) _).alloc (by simp) _
  have TF0 : Hid (TF ((w.alloc (.cells #[.string ⟨#[]⟩, .int .i64 0] 64)).alloc (.cells #[.string ⟨#[]⟩, .int .i64 0] 64)) b w.heap.size st v) := ⟨hP.below HW0.out, heap_alloc2_old w _ _, heap_alloc2_new w _ _⟩
  have HO0 := hide (hO.below HW0.out)
  have HT := hide hT
  clear hP hO hT hW
  have HD : Hid (turnD st.root st.secret st.theirs = hkdf st.root (x25519 st.secret st.theirs) ratchetI 64) := rfl
  have HR : Hid (turnR st.root st.secret st.theirs = (turnD st.root st.secret st.theirs).take 32) := rfl
  have HC : Hid (turnC st.root st.secret st.theirs = (turnD st.root st.secret st.theirs).drop 32) := rfl
  have lD := turnD_length st.root st.secret st.theirs
  have lX := x25519_length st.secret st.theirs
  go_enter Tryd.func66, Tryd.ntmps66
  go_wp2_with fail
  generalize (w.alloc (.cells #[.string ⟨#[]⟩, .int .i64 0] 64)).alloc (.cells #[.string ⟨#[]⟩, .int .i64 0] 64) = W at *
  obtain ⟨⟨c1, c2⟩, c0, _⟩ := TF0.out.cells
  rw [show (⟨#[114, 97, 116, 99, 104, 101, 116]⟩ : ByteArray) = str ratchetI from rfl]
  generalize hx : x25519 st.secret st.theirs = sx at *
  generalize hd : turnD st.root st.secret st.theirs = dx at *
  have HX := hide hx
  clear hx hd
  go_region_with (first | (go_at_call 30; refine (sharedP st.secret st.theirs hsl ht _).mono ?_; rintro e w1 ⟨rfl, hb1⟩; rw [HX.out]; have TF1 := hide (TF0.out.below (Bel.ofDrew hb1)); have HW1 := hide (HW0.out.trans ((Bel.ofDrew hb1).mono HW0.out.size)); have HO1 := hide (HO0.out.below (Bel.ofDrew hb1)); have d0 := TF1.out.cells.2.1; clear hb1 c0 c1 c2) | (go_at_call 63; refine (deriveP st.root sx ratchetI 64 (by omega) (by omega) (by decide) (by decide) _ (HT.out.below HW1.out)).mono ?_; rintro e w2 ⟨rfl, hb2⟩; rw [← HD.out]; have TF2 := hide (TF1.out.below hb2); have HW2 := hide (HW1.out.trans (hb2.mono HW1.out.size)); have HO2 := hide (HO1.out.below hb2); clear hb2 d0) | (go_at_call 90; refine (halvesP dx lD _).mono ?_; rintro e w3 ⟨rfl, hb3⟩; have TF3 := hide (TF2.out.below hb3); have HW3 := hide (HW2.out.trans (hb3.mono HW2.out.size)); have HO3 := hide (HO2.out.below hb3); obtain ⟨⟨_, _⟩, c0, f0, _, _, _, _, x0, _, y0⟩ := TF3.out.cells; clear hb3))
  all_goals (clear c0 f0 x0 y0; obtain ⟨⟨_, _⟩, c0, f0, a0, a1, b0, b1, x0, x1, y0⟩ := TF3.out.cells)
  all_goals go_wp2
  all_goals (rw [HR.out, HC.out]; obtain ⟨q1, q2, q3⟩ := turnEnd TF3.out HO3.out HW3.out hlt hB (List.take 32 dx) (List.drop 32 dx); exact bodyPost_ret (v := .agg #[.string (str (List.drop 32 dx)), .int .i64 0]) (results_cell_row (P := Tryd.prog) Tryd.results66 _ _ w.heap.size 64 _ (0, 0) _ rfl q1 Tryd.underlying64 rfl Tryd.sizeChain) rfl ⟨rfl, q2, q3⟩)
end Go.Proofs.YtgjdogkciklgkaaDoor
