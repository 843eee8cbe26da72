/-
  A region that draws its order and makes several variables: they are not the same. No program in sight.
-/
import Derived.Test.YtlchpbnpmgfaoaaDoorSwap
namespace Go.Proofs.YtlchpbnpmgfaoaaDoor
open Go.RowKit

/-- The variables that were made differ. -/
def Apart (ops : Array Oper) (n : Nat) (fr : Nat → Bool) (listed : Array Bool) (a : Act) : Prop :=
  ∀ i j oi oj di dj, i < n → j < n → i ≠ j → ops[i]? = some oi → ops[j]? = some oj → oi.dst = some di → oj.dst = some dj → fr i = true → fr j = true → listed.getD i false = true → listed.getD j false = true → a.tmps.getD di undef ≠ a.tmps.getD dj undef

theorem wpAny_headB {P : Program} {ops : Array Oper} {Q : Exit → Act → World → Prop} {n : Nat} {p : Nat → Value → World → Prop} {fr : Nat → Bool} {a0 : Act} {w0 : World} (hn : n < ops.size)
    (hs : Region.sinkB .any ops n = true) (hc : Region.chainB .any ops n = true) (hb : backB ops n = true) (hd : dstB ops n a0.tmps.size = true)
    (hst : ∀ i v w w', p i v w → Bel w.heap.size w w' → p i v w')
    (hfr : ∀ i v w, fr i = true → p i v w → ∃ b, v = .pointer (some ⟨b, 0, none⟩) ∧ b < w.heap.size)
    (hop : ∀ i o d, i < n → ops[i]? = some o → o.dst = some d → ∀ a w, Bel w0.heap.size w0 w → (∀ t, (∀ j oj, j < n → ops[j]? = some oj → oj.dst ≠ some t) → a.tmps.getD t undef = a0.tmps.getD t undef) →
      (∀ j oj dj, j < n → ops[j]? = some oj → oj.dst = some dj → Region.waitsFor .any ops i j = true → p j (a.tmps.getD dj undef) w) →
      o.wp P a w (fun a' w' => ∃ v, a' = a.put (some d) v ∧ p i v w' ∧ Bel w.heap.size w w' ∧ (fr i = true → v = .pointer (some ⟨w.heap.size, 0, none⟩))) Q)
    (hend : ∀ listed a w, HeadInv .any ops n listed → (∀ i, i < n → listed.getD i false = true) → Jinv ops n p a0 w0 listed a w → Apart ops n fr listed a → wpAny P .any ops Q (ops.size - n) listed a w) :
    ∀ (m : Nat) (listed : Array Bool) (a : Act) (w : World), cntTo listed n = m → HeadInv .any ops n listed → Jinv ops n p a0 w0 listed a w → Apart ops n fr listed a → wpAny P .any ops Q (m + (ops.size - n)) listed a w
  | 0, listed, a, w, hm, hi, hj, hap => by
    rw [Nat.zero_add]
    exact hend listed a w hi (cntTo_zero n hm) hj hap
  | m + 1, listed, a, w, hm, hi, hj, hap => by
    obtain ⟨i0, hi0, hu0, hbef⟩ := cntTo_first n (by omega : 0 < cntTo listed n)
    have hsz := hi.size
    have hu0' : listed.getD i0 true = false := Go.getD_in (by rw [hsz]; omega) hu0
    rw [show m + 1 + (ops.size - n) = (m + (ops.size - n)) + 1 by omega]
    refine ⟨fun h0 => ?_, fun i hr => ?_⟩
    · exfalso
      have hmem : i0 ∈ Region.ready .any ops listed := by
        obtain ⟨o, d, ho, _⟩ := dstB_spec hd hi0
        refine mem_ready.2 ⟨hu0', o, ho, fun e he hbd => ?_⟩
        have h1 := List.all_eq_true.1 hb i0 (List.mem_range.2 hi0)
        rw [ho] at h1
        have h2 := (Array.all_eq_true_iff_forall_mem.1 h1) e he
        simp only [hbd, Bool.not_true, Bool.false_or, decide_eq_true_eq] at h2
        exact hbef e.on h2
      rw [h0] at hmem
      cases hmem
    · have hin : i < n := by
        rcases Nat.lt_or_ge i n with h | h
        · exact h
        · exact absurd hr (tail_waits hs hc hn hi _ i0 rfl hi0 hu0' i h)
      obtain ⟨hun, o', ho', hall⟩ := mem_ready.1 hr
      obtain ⟨o, d, ho, hod, hds, hgd, hdis⟩ := dstB_spec hd hin
      obtain rfl : o' = o := Option.some.inj (ho'.symm.trans ho)
      have huf := getD_both hun
      have his : i < listed.size := by rw [hsz]; omega
      unfold wpOp
      rw [ho]
      show if Region.wanted o' (yielded ops a.tmps) = true then _ else _
      have hw : Region.wanted o' (yielded ops a.tmps) = true := by unfold Region.wanted; rw [hgd]
      rw [if_pos hw]
      left
      refine Oper.wp_mono ?_ (hop i o' d hin ho hod a w hj.bel hj.keep (fun j oj dj hjn hoj hdj hwt => ?_))
      · rintro a' w' ⟨v, rfl, hp, hbl, hnew⟩
        have hcnt := cntTo_set his huf n
        rw [if_pos hin] at hcnt
        have hne : ∀ j oj dj, j < n → ops[j]? = some oj → oj.dst = some dj → j ≠ i → d ≠ dj := fun j oj dj hjn hoj hdj e e2 => hdis j oj hjn hoj e (by rw [hdj, e2])
        have hold : ∀ j oj dj, j < n → ops[j]? = some oj → oj.dst = some dj → j ≠ i → fr j = true → listed.getD j false = true → ∃ b, a.tmps.getD dj undef = .pointer (some ⟨b, 0, none⟩) ∧ b < w.heap.size := fun j oj dj hjn hoj hdj _ hf hl => hfr j _ w hf (hj.post j oj dj hjn hoj hl hdj)
        refine wpAny_headB hn hs hc hb hd hst hfr hop hend m _ _ _ (by omega) (hi.set hr hin) ⟨hj.bel.trans (hbl.mono hj.bel.size), by rw [← hj.defers]; rfl, by rw [← hj.size]; simp [Act.put], fun t ht => ?_, fun j oj dj hjn hoj hl hdj => ?_⟩ ?_
        · rw [tmps_put_ne (fun e => ht i o' hin ho (by rw [hod, e]))]
          exact hj.keep t ht
        · by_cases e : j = i
          · subst e
            obtain rfl : oj = o' := Option.some.inj (hoj.symm.trans ho)
            obtain rfl : dj = d := Option.some.inj (hdj.symm.trans hod)
            rw [tmps_put_eq (by rw [hj.size]; exact hds)]
            exact hp
          · rw [tmps_put_ne (hne j oj dj hjn hoj hdj e)]
            rw [getDs_ne false (Ne.symm e)] at hl
            exact hst _ _ _ _ (hj.post j oj dj hjn hoj hl hdj) hbl
        · intro x y ox oy dx dy hx hy hxy hox hoy hdx hdy fx fy lx ly
          by_cases ex : x = i
          · subst ex
            obtain rfl : ox = o' := Option.some.inj (hox.symm.trans ho)
            obtain rfl : dx = d := Option.some.inj (hdx.symm.trans hod)
            rw [getDs_ne false hxy] at ly
            obtain ⟨b, hb1, hb2⟩ := hold y oy dy hy hoy hdy (Ne.symm hxy) fy ly
            rw [tmps_put_eq (by rw [hj.size]; exact hds), tmps_put_ne (hne y oy dy hy hoy hdy (Ne.symm hxy)), hb1, hnew fx]
            intro e
            injection e with e
            injection e with e
            injection e with e
            omega
          · rw [getDs_ne false (Ne.symm ex)] at lx
            by_cases ey : y = i
            · subst ey
              obtain rfl : oy = o' := Option.some.inj (hoy.symm.trans ho)
              obtain rfl : dy = d := Option.some.inj (hdy.symm.trans hod)
              obtain ⟨b, hb1, hb2⟩ := hold x ox dx hx hox hdx ex fx lx
              rw [tmps_put_eq (by rw [hj.size]; exact hds), tmps_put_ne (hne x ox dx hx hox hdx ex), hb1, hnew fy]
              intro e
              injection e with e
              injection e with e
              injection e with e
              omega
            · rw [getDs_ne false (Ne.symm ey)] at ly
              rw [tmps_put_ne (hne x ox dx hx hox hdx ex), tmps_put_ne (hne y oy dy hy hoy hdy ey)]
              exact hap x y ox oy dx dy hx hy hxy hox hoy hdx hdy fx fy lx ly
      · obtain ⟨oi, hoi, e, he, hbd, hon⟩ := Region.waitsFor_spec hwt
        obtain rfl : oi = o' := Option.some.inj (hoi.symm.trans ho)
        have hl := hall e he hbd
        rw [hon] at hl
        exact hj.post j oj dj hjn hoj hl hdj

theorem wp_region_phaseB {P : Program} {id : Nat} {Q : Exit → Act → World → Prop} {a0 : Act} {w0 : World} {l : List Oper} (n : Nat) (p : Nat → Value → World → Prop) (fr : Nat → Bool) (hm : P.follows .mixedOrders = true)
    (hB : (decide (n < l.toArray.size) && Region.sinkB .any l.toArray n && Region.chainB .any l.toArray n && backB l.toArray n && dstB l.toArray n a0.tmps.size && Region.seqB .any l.toArray (l.toArray.size - n) n (headL n l.toArray.size)) = true)
    (hst : ∀ i v w w', p i v w → Bel w.heap.size w w' → p i v w')
    (hfr : ∀ i v w, fr i = true → p i v w → ∃ b, v = .pointer (some ⟨b, 0, none⟩) ∧ b < w.heap.size)
    (hop : ∀ i o d, i < n → l.toArray[i]? = some o → o.dst = some d → ∀ a w, Bel w0.drew.heap.size w0.drew w → (∀ t, (∀ j oj, j < n → l.toArray[j]? = some oj → oj.dst ≠ some t) → a.tmps.getD t undef = a0.tmps.getD t undef) →
      (∀ j oj dj, j < n → l.toArray[j]? = some oj → oj.dst = some dj → Region.waitsFor .any l.toArray i j = true → p j (a.tmps.getD dj undef) w) →
      o.wp P a w (fun a' w' => ∃ v, a' = a.put (some d) v ∧ p i v w' ∧ Bel w.heap.size w w' ∧ (fr i = true → v = .pointer (some ⟨w.heap.size, 0, none⟩))) Q)
    (htail : ∀ a w, Jinv l.toArray n p a0 w0.drew (headL n l.toArray.size) a w → Apart l.toArray n fr (headL n l.toArray.size) a → wpList P l.toArray Q (l.drop n) a w) : (Code.region id l.toArray true).wp P Q a0 w0 := by
  simp only [Bool.and_eq_true, decide_eq_true_eq] at hB
  obtain ⟨⟨⟨⟨⟨hn, hs⟩, hc⟩, hb⟩, hd⟩, hseq⟩ := hB
  have inv0 : HeadInv .any l.toArray n (Array.replicate l.toArray.size false) :=
    ⟨by simp, fun j oj _ hl => (by rw [getD_replicate_false] at hl; cases hl), fun t _ ht => Go.getD_in (by simpa using ht) (getD_replicate_false _ _)⟩
  have j0 : Jinv l.toArray n p a0 w0.drew (Array.replicate l.toArray.size false) a0 w0.drew :=
    ⟨Bel.refl _ _, rfl, rfl, fun _ _ => rfl, fun i o d _ _ hl _ => by rw [getD_replicate_false] at hl; cases hl⟩
  have ap0 : Apart l.toArray n fr (Array.replicate l.toArray.size false) a0 := fun i j oi oj di dj _ _ _ _ _ _ _ _ _ hl _ => by rw [getD_replicate_false] at hl; cases hl
  have H := wpAny_headB hn hs hc hb hd hst hfr hop (fun listed a w hi hall hj hap => by
    have e := headL_of hi.size (Nat.le_of_lt hn) hall hi.tail
    subst e
    have hdl : (l.drop n).length = l.toArray.size - n := by simp
    have := wpAny_of_seq (md := .any) (Q' := Q) (l.drop n) n (headL n l.toArray.size) a w (fun j => by simp [List.getElem?_drop]) (by rw [hdl]; exact hseq) (htail a w hj hap)
    rwa [hdl] at this) n (Array.replicate l.toArray.size false) a0 w0.drew (cntTo_replicate _ _) inv0 j0 ap0
  refine wp_region_any hm ?_
  rw [show n + (l.toArray.size - n) = l.toArray.size by omega] at H
  exact H

/-- What a plain operation of the head says, said so. -/
theorem opB {P : Program} {o : Oper} {a : Act} {w : World} {Q : Exit → Act → World → Prop} {d : Nat} {R : Value → World → Prop} {c : Prop} (hc : ¬ c) (h : o.wp P a w (fun a' w' => ∃ v, a' = a.put (some d) v ∧ R v w' ∧ Bel w.heap.size w w') Q) :
    o.wp P a w (fun a' w' => ∃ v, a' = a.put (some d) v ∧ R v w' ∧ Bel w.heap.size w w' ∧ (c → v = .pointer (some ⟨w.heap.size, 0, none⟩))) Q :=
  Oper.wp_mono (fun _ _ ⟨v, h1, h2, h3⟩ => ⟨v, h1, h2, h3, fun h => absurd h hc⟩) h
theorem opB_alloc {P : Program} {o : Oper} {a : Act} {w : World} {Q : Exit → Act → World → Prop} {d : Nat} {R : Value → World → Prop} {t : TypeId} {zs : Array Value} {c : Prop}
    (hd : o.dst = some d) (ho : o.op = .alloc t) (ha : (Instr.alloc t true (.tuple #[])).run P w = .ok (.pointer (some ⟨w.heap.size, 0, none⟩)) (w.alloc (.cells zs t)))
    (hR : R (.pointer (some ⟨w.heap.size, 0, none⟩)) (w.alloc (.cells zs t))) : o.wp P a w (fun a' w' => ∃ v, a' = a.put (some d) v ∧ R v w' ∧ Bel w.heap.size w w' ∧ (c → v = .pointer (some ⟨w.heap.size, 0, none⟩))) Q := by
  unfold Oper.wp
  have e : (execOp a.eval o).run P w = .ok (.value (.pointer (some ⟨w.heap.size, 0, none⟩))) (w.alloc (.cells zs t)) := by
    simp [execOp, ho, ha]
  rw [e]
  exact ⟨_, by rw [hd], hR, (Bel.refl _ _).alloc (Nat.le_refl _) _, fun _ => rfl⟩
/-- A field's place. -/
theorem op_field {P : Program} {o : Oper} {a : Act} {w : World} {Q : Exit → Act → World → Prop} {d : Nat} {R : Value → World → Prop} {t : TypeId} {x : Operand} {f g off : Nat}
    (hd : o.dst = some d) (ho : o.op = .fieldAddr t x f) (hx : a.eval x = .pointer (some ⟨g, 0, none⟩)) (hf : (Instr.fieldAt t (.pointer (some ⟨g, 0, none⟩)) f).run P w = .ok (.pointer (some ⟨g, off, none⟩)) w)
    (hR : R (.pointer (some ⟨g, off, none⟩)) w) : o.wp P a w (fun a' w' => ∃ v, a' = a.put (some d) v ∧ R v w' ∧ Bel w.heap.size w w') Q := by
  refine op_value hd ?_ hR
  simp [execOp, ho, hx, hf]
end Go.Proofs.YtlchpbnpmgfaoaaDoor
