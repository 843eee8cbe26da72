/-
  A region that draws its order: calls, loads and new variables come in whatever order; the stores behind them in theirs. No program in sight.
-/
import Derived.Test.YtlchpbnpmgfaoaaDoorRng
import Derived.StillTail
namespace Go.Proofs.YtlchpbnpmgfaoaaDoor
open Go.RowKit

/-- How many of the first k are not yet listed. -/
def cntTo (listed : Array Bool) : Nat → Nat
  | 0 => 0
  | k + 1 => cntTo listed k + if listed.getD k false = true then 0 else 1
theorem getDs_ne {listed : Array Bool} {i j : Nat} (d : Bool) (h : i ≠ j) : (listed.setIfInBounds i true).getD j d = listed.getD j d := by
  simp [Array.getElem?_setIfInBounds_ne h]
theorem getDs_eq {listed : Array Bool} {i : Nat} (d : Bool) (h : i < listed.size) : (listed.setIfInBounds i true).getD i d = true := by
  simp [h]
theorem cntTo_set {listed : Array Bool} {i : Nat} (hi : i < listed.size) (hf : listed.getD i false = false) : ∀ k, cntTo (listed.setIfInBounds i true) k + (if i < k then 1 else 0) = cntTo listed k
  | 0 => by simp [cntTo]
  | k + 1 => by
    simp only [cntTo]
    have ih := cntTo_set hi hf k
    by_cases e : i = k
    · subst e
      rw [getDs_eq false hi, hf]
      simp only [Nat.lt_irrefl, if_false, if_true, Nat.lt_succ_self] at ih ⊢
      simp at ih ⊢
      omega
    · rw [getDs_ne false e]
      have e1 : (if i < k + 1 then 1 else 0) = (if i < k then 1 else (0 : Nat)) := by
        by_cases h : i < k
        · rw [if_pos h, if_pos (by omega)]
        · rw [if_neg h, if_neg (by omega)]
      rw [e1]
      omega
theorem cntTo_zero {listed : Array Bool} : ∀ k, cntTo listed k = 0 → ∀ i, i < k → listed.getD i false = true
  | 0, _, i, hi => by omega
  | k + 1, h, i, hi => by
    simp only [cntTo] at h
    by_cases e : i = k
    · subst e
      by_cases hl : listed.getD i false = true
      · exact hl
      · rw [if_neg hl] at h; omega
    · exact cntTo_zero k (by omega) i (by omega)
theorem cntTo_first {listed : Array Bool} : ∀ k, 0 < cntTo listed k → ∃ i, i < k ∧ listed.getD i false = false ∧ ∀ j, j < i → listed.getD j false = true
  | 0, h => by simp [cntTo] at h
  | k + 1, h => by
    by_cases hk : 0 < cntTo listed k
    · obtain ⟨i, hi, h1, h2⟩ := cntTo_first k hk
      exact ⟨i, by omega, h1, h2⟩
    · refine ⟨k, by omega, ?_, cntTo_zero k (by omega)⟩
      simp only [cntTo] at h
      cases hl : listed.getD k false with
      | false => rfl
      | true => rw [hl] at h; simp at h; omega
theorem cntTo_replicate (m : Nat) : ∀ k, cntTo (Array.replicate m false) k = k
  | 0 => rfl
  | k + 1 => by
    simp only [cntTo]
    rw [cntTo_replicate m k, getD_replicate_false]
    rfl

/-- The edges of the first n go back. -/
def backB (ops : Array Oper) (n : Nat) : Bool := (List.range n).all fun i => match ops[i]? with
  | some o => o.after.all fun e => !Region.binds .any e || decide (e.on < i)
  | none => false
/-- The first n set slots of their own, below s, and bear no guard. -/
def dstB (ops : Array Oper) (n s : Nat) : Bool := (List.range n).all fun i => match ops[i]? with
  | some o => match o.dst with
    | some d => decide (d < s) && o.guard.isNone && (List.range n).all fun j => decide (j = i) || (match ops[j]? with
      | some oj => oj.dst != some d
      | none => false)
    | none => false
  | none => false
theorem dstB_spec {ops : Array Oper} {n s i : Nat} (h : dstB ops n s = true) (hi : i < n) : ∃ o d, ops[i]? = some o ∧ o.dst = some d ∧ d < s ∧ o.guard = none ∧ ∀ j oj, j < n → ops[j]? = some oj → j ≠ i → oj.dst ≠ some d := by
  have h1 := List.all_eq_true.1 h i (List.mem_range.2 hi)
  cases ho : ops[i]? with
  | none => rw [ho] at h1; simp at h1
  | some o =>
    rw [ho] at h1
    cases hd : o.dst with
    | none => simp [hd] at h1
    | some d =>
      simp only [hd, Bool.and_eq_true, decide_eq_true_eq, Option.isNone_iff_eq_none] at h1
      refine ⟨o, d, rfl, hd, h1.1.1, h1.1.2, fun j oj hj hoj hne => ?_⟩
      have h2 := List.all_eq_true.1 h1.2 j (List.mem_range.2 hj)
      rw [hoj] at h2
      simpa [hne] using h2
/-- The first n listed, no other. -/
def headL (n m : Nat) : Array Bool := Array.replicate n true ++ Array.replicate (m - n) false

/-- What holds while the head is under way. -/
structure Jinv (ops : Array Oper) (n : Nat) (p : Nat → Value → World → Prop) (a0 : Act) (w0 : World) (listed : Array Bool) (a : Act) (w : World) : Prop where
  bel : Bel w0.heap.size w0 w
  defers : a.defers = a0.defers
  size : a.tmps.size = a0.tmps.size
  keep : ∀ t, (∀ i o, i < n → ops[i]? = some o → o.dst ≠ some t) → a.tmps.getD t undef = a0.tmps.getD t undef
  post : ∀ i o d, i < n → ops[i]? = some o → listed.getD i false = true → o.dst = some d → p i (a.tmps.getD d undef) w

theorem tmps_put_ne {a : Act} {d t : Nat} {v : Value} (h : d ≠ t) : (a.put (some d) v).tmps.getD t undef = a.tmps.getD t undef := by
  simp [Act.put, Array.getElem?_setIfInBounds_ne h]
theorem tmps_put_eq {a : Act} {d : Nat} {v : Value} (h : d < a.tmps.size) : (a.put (some d) v).tmps.getD d undef = v := by
  simp [Act.put, h]

theorem wpAny_head {P : Program} {ops : Array Oper} {Q : Exit → Act → World → Prop} {n : Nat} {p : Nat → Value → World → Prop} {a0 : Act} {w0 : World} (hn : n < ops.size)
    (hs : Region.sinkB .any ops n = true) (hc : Region.chainB .any ops n = true) (hb : backB ops n = true) (hd : dstB ops n a0.tmps.size = true)
    (hst : ∀ i v w w', p i v w → Bel w.heap.size w w' → p i v w')
    (hop : ∀ i o d, i < n → ops[i]? = some o → o.dst = some d → ∀ a w, Bel w0.heap.size w0 w → (∀ t, (∀ j oj, j < n → ops[j]? = some oj → oj.dst ≠ some t) → a.tmps.getD t undef = a0.tmps.getD t undef) →
      (∀ j oj dj, j < n → ops[j]? = some oj → oj.dst = some dj → Region.waitsFor .any ops i j = true → p j (a.tmps.getD dj undef) w) →
      o.wp P a w (fun a' w' => ∃ v, a' = a.put (some d) v ∧ p i v w' ∧ Bel w.heap.size w w') Q)
    (hend : ∀ listed a w, HeadInv .any ops n listed → (∀ i, i < n → listed.getD i false = true) → Jinv ops n p a0 w0 listed a w → wpAny P .any ops Q (ops.size - n) listed a w) :
    ∀ (m : Nat) (listed : Array Bool) (a : Act) (w : World), cntTo listed n = m → HeadInv .any ops n listed → Jinv ops n p a0 w0 listed a w → wpAny P .any ops Q (m + (ops.size - n)) listed a w
  | 0, listed, a, w, hm, hi, hj => by
    rw [Nat.zero_add]
    exact hend listed a w hi (cntTo_zero n hm) hj
  | m + 1, listed, a, w, hm, hi, hj => by
    obtain ⟨i0, hi0, hu0, hbef⟩ := cntTo_first n (by omega : 0 < cntTo listed n)
    have hsz := hi.size
    have hu0' : listed.getD i0 true = false := Go.getD_in (by rw [hsz]; omega) hu0
    rw [show m + 1 + (ops.size - n) = (m + (ops.size - n)) + 1 by omega]
    refine ⟨fun h0 => ?_, fun i hr => ?_⟩
    · exfalso
      have hmem : i0 ∈ Region.ready .any ops listed := by
        obtain ⟨o, d, ho, _⟩ := dstB_spec hd hi0
        refine mem_ready.2 ⟨hu0', o, ho, fun e he hbd => ?_⟩
        have h1 := List.all_eq_true.1 hb i0 (List.mem_range.2 hi0)
        rw [ho] at h1
        have h2 := (Array.all_eq_true_iff_forall_mem.1 h1) e he
        simp only [hbd, Bool.not_true, Bool.false_or, decide_eq_true_eq] at h2
        exact hbef e.on h2
      rw [h0] at hmem
      cases hmem
    · have hin : i < n := by
        rcases Nat.lt_or_ge i n with h | h
        · exact h
        · exact absurd hr (tail_waits hs hc hn hi _ i0 rfl hi0 hu0' i h)
      obtain ⟨hun, o', ho', hall⟩ := mem_ready.1 hr
      obtain ⟨o, d, ho, hod, hds, hgd, hdis⟩ := dstB_spec hd hin
      obtain rfl : o' = o := Option.some.inj (ho'.symm.trans ho)
      have huf := getD_both hun
      have his : i < listed.size := by rw [hsz]; omega
      unfold wpOp
      rw [ho]
      show if Region.wanted o' (yielded ops a.tmps) = true then _ else _
      have hw : Region.wanted o' (yielded ops a.tmps) = true := by unfold Region.wanted; rw [hgd]
      rw [if_pos hw]
      left
      refine Oper.wp_mono ?_ (hop i o' d hin ho hod a w hj.bel hj.keep (fun j oj dj hjn hoj hdj hwt => ?_))
      · rintro a' w' ⟨v, rfl, hp, hbl⟩
        have hcnt := cntTo_set his huf n
        rw [if_pos hin] at hcnt
        refine wpAny_head hn hs hc hb hd hst hop hend m _ _ _ (by omega) (hi.set hr hin) ⟨hj.bel.trans (hbl.mono hj.bel.size), by rw [← hj.defers]; rfl, by rw [← hj.size]; simp [Act.put], fun t ht => ?_, fun j oj dj hjn hoj hl hdj => ?_⟩
        · rw [tmps_put_ne (fun e => ht i o' hin ho (by rw [hod, e]))]
          exact hj.keep t ht
        · by_cases e : j = i
          · subst e
            obtain rfl : oj = o' := Option.some.inj (hoj.symm.trans ho)
            obtain rfl : dj = d := Option.some.inj (hdj.symm.trans hod)
            rw [tmps_put_eq (by rw [hj.size]; exact hds)]
            exact hp
          · have hne : d ≠ dj := fun e2 => hdis j oj hjn hoj e (by rw [hdj, e2])
            rw [tmps_put_ne hne]
            rw [getDs_ne false (Ne.symm e)] at hl
            exact hst _ _ _ _ (hj.post j oj dj hjn hoj hl hdj) hbl
      · obtain ⟨oi, hoi, e, he, hbd, hon⟩ := Region.waitsFor_spec hwt
        obtain rfl : oi = o' := Option.some.inj (hoi.symm.trans ho)
        have hl := hall e he hbd
        rw [hon] at hl
        exact hj.post j oj dj hjn hoj hl hdj

theorem headL_of {listed : Array Bool} {n m : Nat} (hs : listed.size = m) (hn : n ≤ m) (h1 : ∀ i, i < n → listed.getD i false = true) (h2 : ∀ t, n ≤ t → t < m → listed.getD t true = false) : listed = headL n m := by
  apply Array.ext
  · simp [headL]; omega
  · intro i hi1 hi2
    by_cases hi : i < n
    · have := h1 i hi
      simp [hi1] at this
      simp [headL, hi, this]
    · have := h2 i (by omega) (by omega)
      simp [hi1] at this
      simp [headL, Array.getElem_append, hi, this]

theorem wp_region_phase {P : Program} {id : Nat} {Q : Exit → Act → World → Prop} {a0 : Act} {w0 : World} {l : List Oper} (n : Nat) (p : Nat → Value → World → Prop) (hm : P.follows .mixedOrders = true)
    (hB : (decide (n < l.toArray.size) && Region.sinkB .any l.toArray n && Region.chainB .any l.toArray n && backB l.toArray n && dstB l.toArray n a0.tmps.size && Region.seqB .any l.toArray (l.toArray.size - n) n (headL n l.toArray.size)) = true)
    (hst : ∀ i v w w', p i v w → Bel w.heap.size w w' → p i v w')
    (hop : ∀ i o d, i < n → l.toArray[i]? = some o → o.dst = some d → ∀ a w, Bel w0.drew.heap.size w0.drew w → (∀ t, (∀ j oj, j < n → l.toArray[j]? = some oj → oj.dst ≠ some t) → a.tmps.getD t undef = a0.tmps.getD t undef) →
      (∀ j oj dj, j < n → l.toArray[j]? = some oj → oj.dst = some dj → Region.waitsFor .any l.toArray i j = true → p j (a.tmps.getD dj undef) w) →
      o.wp P a w (fun a' w' => ∃ v, a' = a.put (some d) v ∧ p i v w' ∧ Bel w.heap.size w w') Q)
    (htail : ∀ a w, Jinv l.toArray n p a0 w0.drew (headL n l.toArray.size) a w → wpList P l.toArray Q (l.drop n) a w) : (Code.region id l.toArray true).wp P Q a0 w0 := by
  simp only [Bool.and_eq_true, decide_eq_true_eq] at hB
  obtain ⟨⟨⟨⟨⟨hn, hs⟩, hc⟩, hb⟩, hd⟩, hseq⟩ := hB
  have inv0 : HeadInv .any l.toArray n (Array.replicate l.toArray.size false) :=
    ⟨by simp, fun j oj _ hl => (by rw [getD_replicate_false] at hl; cases hl), fun t _ ht => Go.getD_in (by simpa using ht) (getD_replicate_false _ _)⟩
  have j0 : Jinv l.toArray n p a0 w0.drew (Array.replicate l.toArray.size false) a0 w0.drew :=
    ⟨Bel.refl _ _, rfl, rfl, fun _ _ => rfl, fun i o d _ _ hl _ => by rw [getD_replicate_false] at hl; cases hl⟩
  have H := wpAny_head hn hs hc hb hd hst hop (fun listed a w hi hall hj => by
    have e := headL_of hi.size (Nat.le_of_lt hn) hall hi.tail
    subst e
    have hdl : (l.drop n).length = l.toArray.size - n := by simp
    have := wpAny_of_seq (md := .any) (Q' := Q) (l.drop n) n (headL n l.toArray.size) a w (fun j => by simp [List.getElem?_drop]) (by rw [hdl]; exact hseq) (htail a w hj)
    rwa [hdl] at this) n (Array.replicate l.toArray.size false) a0 w0.drew (cntTo_replicate _ _) inv0 j0
  refine wp_region_any hm ?_
  rw [show n + (l.toArray.size - n) = l.toArray.size by omega] at H
  exact H

/-! ### One operation of the head. -/
theorem op_load {P : Program} {o : Oper} {a : Act} {w : World} {Q : Exit → Act → World → Prop} {d : Nat} {R : Value → World → Prop} {t : TypeId} {k : IntKind} {l : List Nat} {ds : TypeDesc}
    (hd : o.dst = some d) (x : Operand) (ho : o.op = .load t x) (g off : Nat) (hx : a.eval x = .pointer (some ⟨g, off, none⟩)) (hr : Rng w g off k l) (hu : P.underlying t = some ds) (hw : ds.isRow = true) (hi : (P.info? t).map (·.size) = some l.length)
    (h : R (.agg (rowK k l)) w) : o.wp P a w (fun a' w' => ∃ v, a' = a.put (some d) v ∧ R v w' ∧ Bel w.heap.size w w') Q :=
  wp_load_mid t x ho g off hx (l.map fun x : Nat => Value.int k (x : Int)) ds hr.2 hu hw (by rw [List.length_map]; exact hi) ⟨.agg (rowK k l), by rw [hd]; rfl, h, Bel.refl _ _⟩
theorem op_call {P : Program} {o : Oper} {a : Act} {w : World} {Q : Exit → Act → World → Prop} {d : Nat} {R : Value → World → Prop} {F : FuncId} {c : Call}
    (hd : o.dst = some d) (ho : o.op = .call c) (hc : c.callee = .value (.func F)) (hcf : ∀ xs w, (callFunc F xs).run P w = .ok (.enter F xs) w) (args : Array Value) (ha : c.args.map a.eval = args)
    (h : Calls P F args w fun e w' => ∃ v, e = .returned v ∧ R v w' ∧ Bel w.heap.size w w') : o.wp P a w (fun a' w' => ∃ v, a' = a.put (some d) v ∧ R v w' ∧ Bel w.heap.size w w') Q := by
  unfold Oper.wp
  have e : (execOp a.eval o).run P w = .ok (.enter F args) w := by
    simp [execOp, ho, resolve, hc, ha, Act.eval, Deferred.ofValue, invoke, hcf]
  rw [e]
  show Calls P F args w _
  refine h.mono ?_
  rintro e w' ⟨v, rfl, h1, h2⟩
  exact ⟨v, by rw [hd], h1, h2⟩
theorem op_call1 {P : Program} {o : Oper} {a : Act} {w : World} {Q : Exit → Act → World → Prop} {d : Nat} {R : Value → World → Prop} {F : FuncId} {c : Call} {x : Operand} {va : Value}
    (hd : o.dst = some d) (ho : o.op = .call c) (hc : c.callee = .value (.func F)) (hcf : ∀ xs w, (callFunc F xs).run P w = .ok (.enter F xs) w) (hargs : c.args = #[x]) (hx : a.eval x = va)
    (h : Calls P F #[va] w fun e w' => ∃ v, e = .returned v ∧ R v w' ∧ Bel w.heap.size w w') : o.wp P a w (fun a' w' => ∃ v, a' = a.put (some d) v ∧ R v w' ∧ Bel w.heap.size w w') Q :=
  op_call hd ho hc hcf #[va] (by rw [hargs]; simp [hx]) h
theorem op_call2 {P : Program} {o : Oper} {a : Act} {w : World} {Q : Exit → Act → World → Prop} {d : Nat} {R : Value → World → Prop} {F : FuncId} {c : Call} {x y : Operand} {va vb : Value}
    (hd : o.dst = some d) (ho : o.op = .call c) (hc : c.callee = .value (.func F)) (hcf : ∀ xs w, (callFunc F xs).run P w = .ok (.enter F xs) w) (hargs : c.args = #[x, y]) (hx : a.eval x = va) (hy : a.eval y = vb)
    (h : Calls P F #[va, vb] w fun e w' => ∃ v, e = .returned v ∧ R v w' ∧ Bel w.heap.size w w') : o.wp P a w (fun a' w' => ∃ v, a' = a.put (some d) v ∧ R v w' ∧ Bel w.heap.size w w') Q :=
  op_call hd ho hc hcf #[va, vb] (by rw [hargs]; simp [hx, hy]) h
theorem op_value {P : Program} {o : Oper} {a : Act} {w : World} {Q : Exit → Act → World → Prop} {d : Nat} {R : Value → World → Prop} {v : Value}
    (hd : o.dst = some d) (h : (execOp a.eval o).run P w = .ok (.value v) w) (hR : R v w) : o.wp P a w (fun a' w' => ∃ v, a' = a.put (some d) v ∧ R v w' ∧ Bel w.heap.size w w') Q := by
  unfold Oper.wp
  rw [h]
  exact ⟨v, by rw [hd], hR, Bel.refl _ _⟩
theorem op_alloc {P : Program} {o : Oper} {a : Act} {w : World} {Q : Exit → Act → World → Prop} {d : Nat} {R : Value → World → Prop} {t : TypeId} {zs : Array Value}
    (hd : o.dst = some d) (ho : o.op = .alloc t) (ha : (Instr.alloc t true (.tuple #[])).run P w = .ok (.pointer (some ⟨w.heap.size, 0, none⟩)) (w.alloc (.cells zs t)))
    (hR : R (.pointer (some ⟨w.heap.size, 0, none⟩)) (w.alloc (.cells zs t))) : o.wp P a w (fun a' w' => ∃ v, a' = a.put (some d) v ∧ R v w' ∧ Bel w.heap.size w w') Q := by
  unfold Oper.wp
  have e : (execOp a.eval o).run P w = .ok (.value (.pointer (some ⟨w.heap.size, 0, none⟩))) (w.alloc (.cells zs t)) := by
    simp [execOp, ho, ha]
  rw [e]
  exact ⟨_, by rw [hd], hR, (Bel.refl _ _).alloc (Nat.le_refl _) _⟩
/-- No operation of the head sets slot t. -/
def ndB (ops : Array Oper) (n t : Nat) : Bool := (List.range n).all fun j => match ops[j]? with
  | some o => o.dst != some t
  | none => true
theorem ndB_spec {ops : Array Oper} {n t : Nat} (h : ndB ops n t = true) : ∀ j oj, j < n → ops[j]? = some oj → oj.dst ≠ some t := fun j oj hj ho => by
  have h1 := List.all_eq_true.1 h j (List.mem_range.2 hj)
  rw [ho] at h1
  simpa using h1

/-! ### The frame behind the head. -/
theorem getD_at {x : Array Value} {i : Nat} (h : i < x.size) : x.getD i undef = x[i] := by simp [h]
def putL (a : Act) : List (Nat × Value) → Act
  | [] => a
  | x :: r => putL (a.put (some x.1) x.2) r
theorem putL_defers : ∀ (r : List (Nat × Value)) (a : Act), (putL a r).defers = a.defers
  | [], _ => rfl
  | _ :: r, _ => putL_defers r _
theorem putL_size : ∀ (r : List (Nat × Value)) (a : Act), (putL a r).tmps.size = a.tmps.size
  | [], _ => rfl
  | x :: r, a => by
    show (putL (a.put (some x.1) x.2) r).tmps.size = _
    rw [putL_size r]
    simp [Act.put]
theorem putL_out : ∀ (r : List (Nat × Value)) (a : Act) (t : Nat), (∀ x ∈ r, x.1 ≠ t) → (putL a r).tmps.getD t undef = a.tmps.getD t undef
  | [], _, _, _ => rfl
  | x :: r, a, t, h => by
    show (putL (a.put (some x.1) x.2) r).tmps.getD t undef = _
    rw [putL_out r _ t (fun y hy => h y (List.mem_cons_of_mem _ hy)), tmps_put_ne (h x List.mem_cons_self)]
theorem putL_in (f : Nat → Value) : ∀ (ds : List Nat) (a : Act) (t : Nat), t ∈ ds → t < a.tmps.size → (putL a (ds.map fun d => (d, f d))).tmps.getD t undef = f t
  | [], _, _, h, _ => by cases h
  | d :: ds, a, t, h, hs => by
    show (putL (a.put (some d) (f d)) (ds.map fun d => (d, f d))).tmps.getD t undef = f t
    by_cases ht : t ∈ ds
    · exact putL_in f ds _ t ht (by simpa [Act.put] using hs)
    · have e : t = d := by rcases List.mem_cons.1 h with h | h; exact h; exact absurd h ht
      subst e
      rw [putL_out _ _ t (fun x hx => by
        obtain ⟨y, hy, rfl⟩ := List.mem_map.1 hx
        intro e; exact ht (e ▸ hy)), tmps_put_eq hs]
def dstsB (ops : Array Oper) (n : Nat) (ds : List Nat) (s : Nat) : Bool := (ds.all fun d => decide (d < s)) && (List.range n).all fun j => match ops[j]? with
  | some o => match o.dst with
    | some d => ds.contains d
    | none => true
  | none => true
theorem Jinv.act {ops : Array Oper} {n : Nat} {p : Nat → Value → World → Prop} {a0 a : Act} {w0 w : World} {listed : Array Bool} (h : Jinv ops n p a0 w0 listed a w) (ds : List Nat) (hB : dstsB ops n ds a0.tmps.size = true) :
    a = putL a0 (ds.map fun d => (d, a.tmps.getD d undef)) := by
  unfold dstsB at hB
  rw [Bool.and_eq_true] at hB
  obtain ⟨hsz, hcov⟩ := hB
  have key : a.tmps = (putL a0 (ds.map fun d => (d, a.tmps.getD d undef))).tmps := by
    have hpt : ∀ t, a.tmps.getD t undef = (putL a0 (ds.map fun d => (d, a.tmps.getD d undef))).tmps.getD t undef := fun t => by
      by_cases ht : t ∈ ds
      · rw [putL_in (fun d => a.tmps.getD d undef) ds a0 t ht (by simpa using List.all_eq_true.1 hsz t ht)]
      · rw [putL_out _ _ t (fun x hx => by
          obtain ⟨y, hy, rfl⟩ := List.mem_map.1 hx
          intro e; exact ht (e ▸ hy))]
        refine h.keep t (fun i o hi ho hd => ht ?_)
        have h1 := List.all_eq_true.1 hcov i (List.mem_range.2 hi)
        rw [ho] at h1
        simp only [hd, List.contains_iff_mem] at h1
        exact h1
    apply Array.ext
    · rw [putL_size, h.size]
    · intro i h1 h2
      rw [← getD_at h1, ← getD_at h2]
      exact hpt i
  have hdf := h.defers
  generalize hb : putL a0 (ds.map fun d => (d, a.tmps.getD d undef)) = b at key ⊢
  have hbd : b.defers = a0.defers := by rw [← hb, putL_defers]
  cases a
  cases b
  simp only at key hdf hbd ⊢
  rw [key, hdf, hbd]
end Go.Proofs.YtlchpbnpmgfaoaaDoor
