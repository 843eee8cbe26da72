/-
  The program's numbers: five limbs of 51 bits: plain.
-/
import Derived.Test.YtgjdogkciklgkaaDoorRefPlus
import Derived.Test.YtgjdogkciklgkaaDoorFld
import Derived.Deep.MidRow
import Derived.StillTail
namespace Go.Proofs.YtgjdogkciklgkaaDoor
open Go.RowKit

def V51 (g : Nat → Nat) : Nat := sumB 2251799813685248 g 5
def Ok51 (g : Nat → Nat) : Prop := g 0 < 2251799813685504 ∧ ∀ i, 0 < i → i < 5 → g i < 2251799813685248
def Is51 (g : Nat → Nat) (m : Nat) : Prop := Ok51 g ∧ V51 g % PR = m
/-- One round of carrying. -/
def cr51 (g : Nat → Nat) (i : Nat) : Nat := crry 2251799813685248 0 g i
def lo51 (g : Nat → Nat) (i : Nat) : Nat := (cr51 g i + g i) % 2251799813685248
def set51 (g : Nat → Nat) (i : Nat) : Nat := if i = 0 then lo51 g 0 + 19 * cr51 g 5 else lo51 g i
theorem lo51_lt (g : Nat → Nat) (i : Nat) : lo51 g i < 2251799813685248 := Nat.mod_lt _ (by decide)
theorem set51_val (g : Nat → Nat) : V51 (set51 g) + cr51 g 5 * PR = V51 g := by
  have h1 := sumB_crry 2251799813685248 0 g 5
  have h2 := sumB_set 2251799813685248 (lo51 g) 0 (lo51 g 0 + 19 * cr51 g 5) 5 (by decide)
  have h3 : V51 (set51 g) = sumB 2251799813685248 (fun i => if i = 0 then lo51 g 0 + 19 * cr51 g 5 else lo51 g i) 5 := rfl
  have h4 : sumB 2251799813685248 (fun i => (crry 2251799813685248 0 g i + g i) % 2251799813685248) 5 = sumB 2251799813685248 (lo51 g) 5 := rfl
  have h5 : crry 2251799813685248 0 g 5 = cr51 g 5 := rfl
  rw [h4, h5, ← PR_eq', Nat.mul_add] at h1
  rw [← h3] at h2
  rw [Nat.pow_zero] at h2
  unfold V51 at *
  omega
theorem set51_mod (g : Nat → Nat) : V51 (set51 g) % PR = V51 g % PR := by
  rw [← set51_val g, Nat.add_mul_mod_self_right]
/-- What may be settled. -/
def Pre51 (g : Nat → Nat) : Prop := g 0 < 576460752303423488 ∧ ∀ i, 0 < i → i < 5 → g i < 18014398509481984
theorem cr51_lt (g : Nat → Nat) (h : Pre51 g) : ∀ i, i ≤ 5 → cr51 g i ≤ 256
  | 0, _ => Nat.zero_le _
  | 1, _ => by
    show (0 + g 0) / 2251799813685248 ≤ 256
    have := h.1
    omega
  | i + 2, hi => by
    have h1 := cr51_lt g h (i + 1) (by omega)
    have h2 := h.2 (i + 1) (by omega) (by omega)
    show (cr51 g (i + 1) + g (i + 1)) / 2251799813685248 ≤ 256
    omega
theorem cr51_five (g : Nat → Nat) (h : Pre51 g) : cr51 g 5 ≤ 8 := by
  have h1 := cr51_lt g h 4 (by decide)
  have h2 := h.2 4 (by decide) (by decide)
  show (cr51 g 4 + g 4) / 2251799813685248 ≤ 8
  omega
theorem set51_ok (g : Nat → Nat) (h : Pre51 g) : Ok51 (set51 g) := by
  refine ⟨?_, fun i h0 _ => ?_⟩
  · have h1 := cr51_five g h
    have h2 := lo51_lt g 0
    show lo51 g 0 + 19 * cr51 g 5 < _
    omega
  · unfold set51
    rw [if_neg (by omega)]
    exact lo51_lt g i
theorem V51_lt {g : Nat → Nat} (h : Ok51 g) : V51 g < PR + 19 + 256 := by
  have hset := sumB_set 2251799813685248 g 0 2251799813685247 5 (by decide)
  have hlt := sumB_lt 2251799813685248 (by decide) (fun i => if i = 0 then 2251799813685247 else g i) 5 (fun i hi => by
    show (if i = 0 then 2251799813685247 else g i) < 2251799813685248
    by_cases e : i = 0
    · rw [if_pos e]; decide
    · rw [if_neg e]; exact h.2 i (by omega) hi)
  rw [Nat.pow_zero] at hset
  rw [← PR_eq'] at hlt
  have h0 := h.1
  unfold V51
  omega
def pl51 (a b : Nat → Nat) (i : Nat) : Nat := a i + b i
theorem pl51_pre {a b : Nat → Nat} (ha : Ok51 a) (hb : Ok51 b) : Pre51 (pl51 a b) := by
  refine ⟨?_, fun i h0 hi => ?_⟩
  · have h1 := ha.1
    have h2 := hb.1
    show a 0 + b 0 < _
    omega
  · have h1 := ha.2 i h0 hi
    have h2 := hb.2 i h0 hi
    show a i + b i < _
    omega
theorem pl51_is {a b : Nat → Nat} {x y : Nat} (ha : Is51 a x) (hb : Is51 b y) : Is51 (set51 (pl51 a b)) (addM x y) := by
  refine ⟨set51_ok _ (pl51_pre ha.1 hb.1), ?_⟩
  rw [set51_mod, ← ha.2, ← hb.2]
  unfold addM
  rw [← Nat.add_mod]
  show sumB 2251799813685248 (fun i => a i + b i) 5 % PR = _
  rw [sumB_add]
  rfl
/-- Twice the prime is added ahead of a difference. -/
def tw (i : Nat) : Nat := if i = 0 then 4503599627370458 else 4503599627370494
theorem tw_val : sumB 2251799813685248 tw 5 = 2 * PR := by decide +kernel
def mi51 (a b : Nat → Nat) (i : Nat) : Nat := a i + tw i - b i
theorem mi51_pre {a b : Nat → Nat} (ha : Ok51 a) : Pre51 (mi51 a b) := by
  refine ⟨?_, fun i h0 hi => ?_⟩
  · have h1 := ha.1
    show a 0 + 4503599627370458 - b 0 < _
    omega
  · have h1 := ha.2 i h0 hi
    have h2 : tw i = 4503599627370494 := if_neg (by omega)
    show a i + tw i - b i < _
    omega
theorem mi51_val {a b : Nat → Nat} (hb : Ok51 b) : V51 (mi51 a b) + V51 b = V51 a + 2 * PR := by
  have h1 : sumB 2251799813685248 (fun i => mi51 a b i + b i) 5 = sumB 2251799813685248 (fun i => a i + tw i) 5 := sumB_congr _ 5 (fun i hi => by
    show a i + tw i - b i + b i = a i + tw i
    have : b i ≤ tw i := by
      by_cases e : i = 0
      · subst e
        have := hb.1
        show b 0 ≤ 4503599627370458
        omega
      · have h3 := hb.2 i (by omega) hi
        have h2 : tw i = 4503599627370494 := if_neg e
        omega
    omega)
  rw [sumB_add, sumB_add, tw_val] at h1
  exact h1
theorem mi51_is {a b : Nat → Nat} {x y : Nat} (ha : Is51 a x) (hb : Is51 b y) : Is51 (set51 (mi51 a b)) (subM x y) := by
  refine ⟨set51_ok _ (mi51_pre ha.1), ?_⟩
  rw [set51_mod, ← ha.2, ← hb.2]
  have h := mi51_val (a := a) hb.1
  have h2 : (V51 (mi51 a b) + 2 * PR) + V51 b = V51 a + 4 * PR := by omega
  have h3 := subM_of h2
  rw [← h3, Nat.add_mul_mod_self_right]
end Go.Proofs.YtgjdogkciklgkaaDoor
namespace Go.Proofs.YtgjdogkciklgkaaDoor
open Go.RowKit

/-- Such numbers lie there. -/
def Rng (w : World) (g off : Nat) (k : IntKind) (l : List Nat) : Prop := g < w.heap.size ∧ w.rangeAt g off (l.map fun x : Nat => Value.int k (x : Int))
theorem Blk.range {w : World} {g : Nat} {t : TypeId} {k : IntKind} {L : List Nat} (h : Blk w g t k L) (off : Nat) (l : List Nat) (hs : (L.drop off).take l.length = l) : Rng w g off k l := by
  refine ⟨h.lt, ?_⟩
  intro j v hv
  have hj : j < l.length := by
    rcases Nat.lt_or_ge j l.length with h' | h'
    · exact h'
    · rw [List.getElem?_eq_none (by simpa using h')] at hv; cases hv
  have hl : off + j < L.length := by
    have := congrArg List.length hs
    rw [List.length_take, List.length_drop] at this
    omega
  rw [h.cell (off + j) hl]
  have e : L.getD (off + j) 0 = l.getD j 0 := by
    have h2 : l.getD j 0 = ((L.drop off).take l.length).getD j 0 := by rw [hs]
    rw [h2]
    simp [List.getD_eq_getElem?_getD, hj]
  rw [e, getD_in _ _ hj]
  simpa [hj] using hv
theorem Blk.rng {w : World} {g : Nat} {t : TypeId} {k : IntKind} {l : List Nat} (h : Blk w g t k l) : Rng w g 0 k l := h.range 0 l (by rw [List.drop_zero, List.take_of_length_le (Nat.le_refl _)])
theorem Rng.below {w w' : World} {g off : Nat} {k : IntKind} {l : List Nat} (h : Rng w g off k l) (hb : Bel w.heap.size w w') : Rng w' g off k l :=
  ⟨Nat.lt_of_lt_of_le h.1 hb.size, fun j v hv => (hb.cell (p := ⟨g, off + j, none⟩) h.1).trans (h.2 j v hv)⟩
theorem Rng.drew {w : World} {g off : Nat} {k : IntKind} {l : List Nat} (h : Rng w g off k l) : Rng w.drew g off k l := h
/-- An array, loaded. -/
theorem wpList_ldQ {P : Program} {w : World} {ops : Array Oper} {rest : List Oper} {o : Oper} {a : Act} {Q : Exit → Act → World → Prop} {t : TypeId} {k : IntKind} {l : List Nat} {d : TypeDesc}
    (hgd : o.guard = none) (x : Operand) (ho : o.op = .load t x) (g off : Nat) (hx : a.eval x = .pointer (some ⟨g, off, none⟩))
    (hr : Rng w g off k l) (hu : P.underlying t = some d) (hd : d.isRow = true) (hi : (P.info? t).map (·.size) = some l.length)
    (h : wpList P ops Q rest (a.put o.dst (.agg (rowK k l))) w) : wpList P ops Q (o :: rest) a w :=
  wpList_load_mid hgd t x ho g off hx (l.map fun x : Nat => Value.int k (x : Int)) d hr.2 hu hd (by rw [List.length_map]; exact hi) h
/-- A variable just made, and set. -/
theorem wpList_stNew {P : Program} {w W : World} {ops : Array Oper} {rest : List Oper} {o : Oper} {a : Act} {Q : Exit → Act → World → Prop} {zs : Array Value} {t : TypeId} {k : IntKind} {l : List Nat}
    (hgd : o.guard = none) (x y : Operand) (ho : o.op = .store t x y) (hW : W = w.alloc (.cells zs t)) (hd : o.dst = none) (hx : a.eval x = .pointer (some ⟨w.heap.size, 0, none⟩)) (hy : a.eval y = .agg (rowK k l))
    (hi : (P.info? t).map (·.size) = some l.length) (hz : zs.size = l.length)
    (h : ∀ w', Bel w.heap.size w w' → Blk w' w.heap.size t k l → wpList P ops Q rest a w') : wpList P ops Q (o :: rest) a W := by
  subst hW
  exact wpList_storeB hgd t x y ho hd w.heap.size (rowK k l) hx hy t zs (heap_alloc_new w _) (by rw [rowK_size]; exact hi) (by rw [rowK_size]; exact hz) (rowK_one _ _)
    (fun w' hb _ hk => h w' (((Bel.refl _ _).alloc (Nat.le_refl _) _).trans hb) hk)
end Go.Proofs.YtgjdogkciklgkaaDoor
namespace Go.Proofs.YtgjdogkciklgkaaDoor
open Go.RowKit

/-- How many of the first k are not yet listed. -/
def cntTo (listed : Array Bool) : Nat → Nat
  | 0 => 0
  | k + 1 => cntTo listed k + if listed.getD k false = true then 0 else 1
theorem getDs_ne {listed : Array Bool} {i j : Nat} (d : Bool) (h : i ≠ j) : (listed.setIfInBounds i true).getD j d = listed.getD j d := by
  simp [Array.getElem?_setIfInBounds_ne h]
theorem getDs_eq {listed : Array Bool} {i : Nat} (d : Bool) (h : i < listed.size) : (listed.setIfInBounds i true).getD i d = true := by
  simp [h]
theorem cntTo_set {listed : Array Bool} {i : Nat} (hi : i < listed.size) (hf : listed.getD i false = false) : ∀ k, cntTo (listed.setIfInBounds i true) k + (if i < k then 1 else 0) = cntTo listed k
  | 0 => by simp [cntTo]
  | k + 1 => by
    simp only [cntTo]
    have ih := cntTo_set hi hf k
    by_cases e : i = k
    · subst e
      rw [getDs_eq false hi, hf]
      simp only [Nat.lt_irrefl, if_false, if_true, Nat.lt_succ_self] at ih ⊢
      simp at ih ⊢
      omega
    · rw [getDs_ne false e]
      have e1 : (if i < k + 1 then 1 else 0) = (if i < k then 1 else (0 : Nat)) := by
        by_cases h : i < k
        · rw [if_pos h, if_pos (by omega)]
        · rw [if_neg h, if_neg (by omega)]
      rw [e1]
      omega
theorem cntTo_zero {listed : Array Bool} : ∀ k, cntTo listed k = 0 → ∀ i, i < k → listed.getD i false = true
  | 0, _, i, hi => by omega
  | k + 1, h, i, hi => by
    simp only [cntTo] at h
    by_cases e : i = k
    · subst e
      by_cases hl : listed.getD i false = true
      · exact hl
      · rw [if_neg hl] at h; omega
    · exact cntTo_zero k (by omega) i (by omega)
theorem cntTo_first {listed : Array Bool} : ∀ k, 0 < cntTo listed k → ∃ i, i < k ∧ listed.getD i false = false ∧ ∀ j, j < i → listed.getD j false = true
  | 0, h => by simp [cntTo] at h
  | k + 1, h => by
    by_cases hk : 0 < cntTo listed k
    · obtain ⟨i, hi, h1, h2⟩ := cntTo_first k hk
      exact ⟨i, by omega, h1, h2⟩
    · refine ⟨k, by omega, ?_, cntTo_zero k (by omega)⟩
      simp only [cntTo] at h
      cases hl : listed.getD k false with
      | false => rfl
      | true => rw [hl] at h; simp at h; omega
theorem cntTo_replicate (m : Nat) : ∀ k, cntTo (Array.replicate m false) k = k
  | 0 => rfl
  | k + 1 => by
    simp only [cntTo]
    rw [cntTo_replicate m k, getD_replicate_false]
    rfl

/-- The edges of the first n go back. -/
def backB (ops : Array Oper) (n : Nat) : Bool := (List.range n).all fun i => match ops[i]? with
  | some o => o.after.all fun e => !Region.binds .any e || decide (e.on < i)
  | none => false
/-- The first n set slots of their own, below s, and bear no guard. -/
def dstB (ops : Array Oper) (n s : Nat) : Bool := (List.range n).all fun i => match ops[i]? with
  | some o => match o.dst with
    | some d => decide (d < s) && o.guard.isNone && (List.range n).all fun j => decide (j = i) || (match ops[j]? with
      | some oj => oj.dst != some d
      | none => false)
    | none => false
  | none => false
theorem dstB_spec {ops : Array Oper} {n s i : Nat} (h : dstB ops n s = true) (hi : i < n) : ∃ o d, ops[i]? = some o ∧ o.dst = some d ∧ d < s ∧ o.guard = none ∧ ∀ j oj, j < n → ops[j]? = some oj → j ≠ i → oj.dst ≠ some d := by
  have h1 := List.all_eq_true.1 h i (List.mem_range.2 hi)
  cases ho : ops[i]? with
  | none => rw [ho] at h1; simp at h1
  | some o =>
    rw [ho] at h1
    cases hd : o.dst with
    | none => simp [hd] at h1
    | some d =>
      simp only [hd, Bool.and_eq_true, decide_eq_true_eq, Option.isNone_iff_eq_none] at h1
      refine ⟨o, d, rfl, hd, h1.1.1, h1.1.2, fun j oj hj hoj hne => ?_⟩
      have h2 := List.all_eq_true.1 h1.2 j (List.mem_range.2 hj)
      rw [hoj] at h2
      simpa [hne] using h2
/-- The first n listed, no other. -/
def headL (n m : Nat) : Array Bool := Array.replicate n true ++ Array.replicate (m - n) false

/-- What holds while the head is under way. -/
structure Jinv (ops : Array Oper) (n : Nat) (p : Nat → Value → World → Prop) (a0 : Act) (w0 : World) (listed : Array Bool) (a : Act) (w : World) : Prop where
  bel : Bel w0.heap.size w0 w
  defers : a.defers = a0.defers
  size : a.tmps.size = a0.tmps.size
  keep : ∀ t, (∀ i o, i < n → ops[i]? = some o → o.dst ≠ some t) → a.tmps.getD t undef = a0.tmps.getD t undef
  post : ∀ i o d, i < n → ops[i]? = some o → listed.getD i false = true → o.dst = some d → p i (a.tmps.getD d undef) w

theorem tmps_put_ne {a : Act} {d t : Nat} {v : Value} (h : d ≠ t) : (a.put (some d) v).tmps.getD t undef = a.tmps.getD t undef := by
  simp [Act.put, Array.getElem?_setIfInBounds_ne h]
theorem tmps_put_eq {a : Act} {d : Nat} {v : Value} (h : d < a.tmps.size) : (a.put (some d) v).tmps.getD d undef = v := by
  simp [Act.put, h]

theorem wpAny_head {P : Program} {ops : Array Oper} {Q : Exit → Act → World → Prop} {n : Nat} {p : Nat → Value → World → Prop} {a0 : Act} {w0 : World} (hn : n < ops.size)
    (hs : Region.sinkB .any ops n = true) (hc : Region.chainB .any ops n = true) (hb : backB ops n = true) (hd : dstB ops n a0.tmps.size = true)
    (hst : ∀ i v w w', p i v w → Bel w.heap.size w w' → p i v w')
    (hop : ∀ i o d, i < n → ops[i]? = some o → o.dst = some d → ∀ a w, Bel w0.heap.size w0 w → (∀ t, (∀ j oj, j < n → ops[j]? = some oj → oj.dst ≠ some t) → a.tmps.getD t undef = a0.tmps.getD t undef) →
      (∀ j oj dj, j < n → ops[j]? = some oj → oj.dst = some dj → Region.waitsFor .any ops i j = true → p j (a.tmps.getD dj undef) w) →
      o.wp P a w (fun a' w' => ∃ v, a' = a.put (some d) v ∧ p i v w' ∧ Bel w.heap.size w w') Q)
    (hend : ∀ listed a w, HeadInv .any ops n listed → (∀ i, i < n → listed.getD i false = true) → Jinv ops n p a0 w0 listed a w → wpAny P .any ops Q (ops.size - n) listed a w) :
    ∀ (m : Nat) (listed : Array Bool) (a : Act) (w : World), cntTo listed n = m → HeadInv .any ops n listed → Jinv ops n p a0 w0 listed a w → wpAny P .any ops Q (m + (ops.size - n)) listed a w
  | 0, listed, a, w, hm, hi, hj => by
    rw [Nat.zero_add]
    exact hend listed a w hi (cntTo_zero n hm) hj
  | m + 1, listed, a, w, hm, hi, hj => by
    obtain ⟨i0, hi0, hu0, hbef⟩ := cntTo_first n (by omega : 0 < cntTo listed n)
    have hsz := hi.size
    have hu0' : listed.getD i0 true = false := Go.getD_in (by rw [hsz]; omega) hu0
    rw [show m + 1 + (ops.size - n) = (m + (ops.size - n)) + 1 by omega]
    refine ⟨fun h0 => ?_, fun i hr => ?_⟩
    · exfalso
      have hmem : i0 ∈ Region.ready .any ops listed := by
        obtain ⟨o, d, ho, _⟩ := dstB_spec hd hi0
        refine mem_ready.2 ⟨hu0', o, ho, fun e he hbd => ?_⟩
        have h1 := List.all_eq_true.1 hb i0 (List.mem_range.2 hi0)
        rw [ho] at h1
        have h2 := (Array.all_eq_true_iff_forall_mem.1 h1) e he
        simp only [hbd, Bool.not_true, Bool.false_or, decide_eq_true_eq] at h2
        exact hbef e.on h2
      rw [h0] at hmem
      cases hmem
    · have hin : i < n := by
        rcases Nat.lt_or_ge i n with h | h
        · exact h
        · exact absurd hr (tail_waits hs hc hn hi _ i0 rfl hi0 hu0' i h)
      obtain ⟨hun, o', ho', hall⟩ := mem_ready.1 hr
      obtain ⟨o, d, ho, hod, hds, hgd, hdis⟩ := dstB_spec hd hin
      obtain rfl : o' = o := Option.some.inj (ho'.symm.trans ho)
      have huf := getD_both hun
      have his : i < listed.size := by rw [hsz]; omega
      unfold wpOp
      rw [ho]
      show if Region.wanted o' (yielded ops a.tmps) = true then _ else _
      have hw : Region.wanted o' (yielded ops a.tmps) = true := by unfold Region.wanted; rw [hgd]
      rw [if_pos hw]
      left
      refine Oper.wp_mono ?_ (hop i o' d hin ho hod a w hj.bel hj.keep (fun j oj dj hjn hoj hdj hwt => ?_))
      · rintro a' w' ⟨v, rfl, hp, hbl⟩
        have hcnt := cntTo_set his huf n
        rw [if_pos hin] at hcnt
        refine wpAny_head hn hs hc hb hd hst hop hend m _ _ _ (by omega) (hi.set hr hin) ⟨hj.bel.trans (hbl.mono hj.bel.size), by rw [← hj.defers]; rfl, by rw [← hj.size]; simp [Act.put], fun t ht => ?_, fun j oj dj hjn hoj hl hdj => ?_⟩
        · rw [tmps_put_ne (fun e => ht i o' hin ho (by rw [hod, e]))]
          exact hj.keep t ht
        · by_cases e : j = i
          · subst e
            obtain rfl : oj = o' := Option.some.inj (hoj.symm.trans ho)
            obtain rfl : dj = d := Option.some.inj (hdj.symm.trans hod)
            rw [tmps_put_eq (by rw [hj.size]; exact hds)]
            exact hp
          · have hne : d ≠ dj := fun e2 => hdis j oj hjn hoj e (by rw [hdj, e2])
            rw [tmps_put_ne hne]
            rw [getDs_ne false (Ne.symm e)] at hl
            exact hst _ _ _ _ (hj.post j oj dj hjn hoj hl hdj) hbl
      · obtain ⟨oi, hoi, e, he, hbd, hon⟩ := Region.waitsFor_spec hwt
        obtain rfl : oi = o' := Option.some.inj (hoi.symm.trans ho)
        have hl := hall e he hbd
        rw [hon] at hl
        exact hj.post j oj dj hjn hoj hl hdj

theorem headL_of {listed : Array Bool} {n m : Nat} (hs : listed.size = m) (hn : n ≤ m) (h1 : ∀ i, i < n → listed.getD i false = true) (h2 : ∀ t, n ≤ t → t < m → listed.getD t true = false) : listed = headL n m := by
  apply Array.ext
  · simp [headL]; omega
  · intro i hi1 hi2
    by_cases hi : i < n
    · have := h1 i hi
      simp [hi1] at this
      simp [headL, hi, this]
    · have := h2 i (by omega) (by omega)
      simp [hi1] at this
      simp [headL, Array.getElem_append, hi, this]

theorem wp_region_phase {P : Program} {id : Nat} {Q : Exit → Act → World → Prop} {a0 : Act} {w0 : World} {l : List Oper} (n : Nat) (p : Nat → Value → World → Prop) (hm : P.follows .mixedOrders = true)
    (hB : (decide (n < l.toArray.size) && Region.sinkB .any l.toArray n && Region.chainB .any l.toArray n && backB l.toArray n && dstB l.toArray n a0.tmps.size && Region.seqB .any l.toArray (l.toArray.size - n) n (headL n l.toArray.size)) = true)
    (hst : ∀ i v w w', p i v w → Bel w.heap.size w w' → p i v w')
    (hop : ∀ i o d, i < n → l.toArray[i]? = some o → o.dst = some d → ∀ a w, Bel w0.drew.heap.size w0.drew w → (∀ t, (∀ j oj, j < n → l.toArray[j]? = some oj → oj.dst ≠ some t) → a.tmps.getD t undef = a0.tmps.getD t undef) →
      (∀ j oj dj, j < n → l.toArray[j]? = some oj → oj.dst = some dj → Region.waitsFor .any l.toArray i j = true → p j (a.tmps.getD dj undef) w) →
      o.wp P a w (fun a' w' => ∃ v, a' = a.put (some d) v ∧ p i v w' ∧ Bel w.heap.size w w') Q)
    (htail : ∀ a w, Jinv l.toArray n p a0 w0.drew (headL n l.toArray.size) a w → wpList P l.toArray Q (l.drop n) a w) : (Code.region id l.toArray true).wp P Q a0 w0 := by
  simp only [Bool.and_eq_true, decide_eq_true_eq] at hB
  obtain ⟨⟨⟨⟨⟨hn, hs⟩, hc⟩, hb⟩, hd⟩, hseq⟩ := hB
  have inv0 : HeadInv .any l.toArray n (Array.replicate l.toArray.size false) :=
    ⟨by simp, fun j oj _ hl => (by rw [getD_replicate_false] at hl; cases hl), fun t _ ht => Go.getD_in (by simpa using ht) (getD_replicate_false _ _)⟩
  have j0 : Jinv l.toArray n p a0 w0.drew (Array.replicate l.toArray.size false) a0 w0.drew :=
    ⟨Bel.refl _ _, rfl, rfl, fun _ _ => rfl, fun i o d _ _ hl _ => by rw [getD_replicate_false] at hl; cases hl⟩
  have H := wpAny_head hn hs hc hb hd hst hop (fun listed a w hi hall hj => by
    have e := headL_of hi.size (Nat.le_of_lt hn) hall hi.tail
    subst e
    have hdl : (l.drop n).length = l.toArray.size - n := by simp
    have := wpAny_of_seq (md := .any) (Q' := Q) (l.drop n) n (headL n l.toArray.size) a w (fun j => by simp [List.getElem?_drop]) (by rw [hdl]; exact hseq) (htail a w hj)
    rwa [hdl] at this) n (Array.replicate l.toArray.size false) a0 w0.drew (cntTo_replicate _ _) inv0 j0
  refine wp_region_any hm ?_
  rw [show n + (l.toArray.size - n) = l.toArray.size by omega] at H
  exact H

/-! ### One operation of the head. -/
theorem op_load {P : Program} {o : Oper} {a : Act} {w : World} {Q : Exit → Act → World → Prop} {d : Nat} {R : Value → World → Prop} {t : TypeId} {k : IntKind} {l : List Nat} {ds : TypeDesc}
    (hd : o.dst = some d) (x : Operand) (ho : o.op = .load t x) (g off : Nat) (hx : a.eval x = .pointer (some ⟨g, off, none⟩)) (hr : Rng w g off k l) (hu : P.underlying t = some ds) (hw : ds.isRow = true) (hi : (P.info? t).map (·.size) = some l.length)
    (h : R (.agg (rowK k l)) w) : o.wp P a w (fun a' w' => ∃ v, a' = a.put (some d) v ∧ R v w' ∧ Bel w.heap.size w w') Q :=
  wp_load_mid t x ho g off hx (l.map fun x : Nat => Value.int k (x : Int)) ds hr.2 hu hw (by rw [List.length_map]; exact hi) ⟨.agg (rowK k l), by rw [hd]; rfl, h, Bel.refl _ _⟩
theorem op_call {P : Program} {o : Oper} {a : Act} {w : World} {Q : Exit → Act → World → Prop} {d : Nat} {R : Value → World → Prop} {F : FuncId} {c : Call}
    (hd : o.dst = some d) (ho : o.op = .call c) (hc : c.callee = .value (.func F)) (hcf : ∀ xs w, (callFunc F xs).run P w = .ok (.enter F xs) w) (args : Array Value) (ha : c.args.map a.eval = args)
    (h : Calls P F args w fun e w' => ∃ v, e = .returned v ∧ R v w' ∧ Bel w.heap.size w w') : o.wp P a w (fun a' w' => ∃ v, a' = a.put (some d) v ∧ R v w' ∧ Bel w.heap.size w w') Q := by
  unfold Oper.wp
  have e : (execOp a.eval o).run P w = .ok (.enter F args) w := by
    simp [execOp, ho, resolve, hc, ha, Act.eval, Deferred.ofValue, invoke, hcf]
  rw [e]
  show Calls P F args w _
  refine h.mono ?_
  rintro e w' ⟨v, rfl, h1, h2⟩
  exact ⟨v, by rw [hd], h1, h2⟩
theorem op_call1 {P : Program} {o : Oper} {a : Act} {w : World} {Q : Exit → Act → World → Prop} {d : Nat} {R : Value → World → Prop} {F : FuncId} {c : Call} {x : Operand} {va : Value}
    (hd : o.dst = some d) (ho : o.op = .call c) (hc : c.callee = .value (.func F)) (hcf : ∀ xs w, (callFunc F xs).run P w = .ok (.enter F xs) w) (hargs : c.args = #[x]) (hx : a.eval x = va)
    (h : Calls P F #[va] w fun e w' => ∃ v, e = .returned v ∧ R v w' ∧ Bel w.heap.size w w') : o.wp P a w (fun a' w' => ∃ v, a' = a.put (some d) v ∧ R v w' ∧ Bel w.heap.size w w') Q :=
  op_call hd ho hc hcf #[va] (by rw [hargs]; simp [hx]) h
theorem op_call2 {P : Program} {o : Oper} {a : Act} {w : World} {Q : Exit → Act → World → Prop} {d : Nat} {R : Value → World → Prop} {F : FuncId} {c : Call} {x y : Operand} {va vb : Value}
    (hd : o.dst = some d) (ho : o.op = .call c) (hc : c.callee = .value (.func F)) (hcf : ∀ xs w, (callFunc F xs).run P w = .ok (.enter F xs) w) (hargs : c.args = #[x, y]) (hx : a.eval x = va) (hy : a.eval y = vb)
    (h : Calls P F #[va, vb] w fun e w' => ∃ v, e = .returned v ∧ R v w' ∧ Bel w.heap.size w w') : o.wp P a w (fun a' w' => ∃ v, a' = a.put (some d) v ∧ R v w' ∧ Bel w.heap.size w w') Q :=
  op_call hd ho hc hcf #[va, vb] (by rw [hargs]; simp [hx, hy]) h
theorem op_value {P : Program} {o : Oper} {a : Act} {w : World} {Q : Exit → Act → World → Prop} {d : Nat} {R : Value → World → Prop} {v : Value}
    (hd : o.dst = some d) (h : (execOp a.eval o).run P w = .ok (.value v) w) (hR : R v w) : o.wp P a w (fun a' w' => ∃ v, a' = a.put (some d) v ∧ R v w' ∧ Bel w.heap.size w w') Q := by
  unfold Oper.wp
  rw [h]
  exact ⟨v, by rw [hd], hR, Bel.refl _ _⟩
theorem op_alloc {P : Program} {o : Oper} {a : Act} {w : World} {Q : Exit → Act → World → Prop} {d : Nat} {R : Value → World → Prop} {t : TypeId} {zs : Array Value}
    (hd : o.dst = some d) (ho : o.op = .alloc t) (ha : (Instr.alloc t true (.tuple #[])).run P w = .ok (.pointer (some ⟨w.heap.size, 0, none⟩)) (w.alloc (.cells zs t)))
    (hR : R (.pointer (some ⟨w.heap.size, 0, none⟩)) (w.alloc (.cells zs t))) : o.wp P a w (fun a' w' => ∃ v, a' = a.put (some d) v ∧ R v w' ∧ Bel w.heap.size w w') Q := by
  unfold Oper.wp
  have e : (execOp a.eval o).run P w = .ok (.value (.pointer (some ⟨w.heap.size, 0, none⟩))) (w.alloc (.cells zs t)) := by
    simp [execOp, ho, ha]
  rw [e]
  exact ⟨_, by rw [hd], hR, (Bel.refl _ _).alloc (Nat.le_refl _) _⟩
/-- No operation of the head sets slot t. -/
def ndB (ops : Array Oper) (n t : Nat) : Bool := (List.range n).all fun j => match ops[j]? with
  | some o => o.dst != some t
  | none => true
theorem ndB_spec {ops : Array Oper} {n t : Nat} (h : ndB ops n t = true) : ∀ j oj, j < n → ops[j]? = some oj → oj.dst ≠ some t := fun j oj hj ho => by
  have h1 := List.all_eq_true.1 h j (List.mem_range.2 hj)
  rw [ho] at h1
  simpa using h1

/-! ### The frame behind the head. -/
theorem getD_at {x : Array Value} {i : Nat} (h : i < x.size) : x.getD i undef = x[i] := by simp [h]
def putL (a : Act) : List (Nat × Value) → Act
  | [] => a
  | x :: r => putL (a.put (some x.1) x.2) r
theorem putL_defers : ∀ (r : List (Nat × Value)) (a : Act), (putL a r).defers = a.defers
  | [], _ => rfl
  | _ :: r, _ => putL_defers r _
theorem putL_size : ∀ (r : List (Nat × Value)) (a : Act), (putL a r).tmps.size = a.tmps.size
  | [], _ => rfl
  | x :: r, a => by
    show (putL (a.put (some x.1) x.2) r).tmps.size = _
    rw [putL_size r]
    simp [Act.put]
theorem putL_out : ∀ (r : List (Nat × Value)) (a : Act) (t : Nat), (∀ x ∈ r, x.1 ≠ t) → (putL a r).tmps.getD t undef = a.tmps.getD t undef
  | [], _, _, _ => rfl
  | x :: r, a, t, h => by
    show (putL (a.put (some x.1) x.2) r).tmps.getD t undef = _
    rw [putL_out r _ t (fun y hy => h y (List.mem_cons_of_mem _ hy)), tmps_put_ne (h x List.mem_cons_self)]
theorem putL_in (f : Nat → Value) : ∀ (ds : List Nat) (a : Act) (t : Nat), t ∈ ds → t < a.tmps.size → (putL a (ds.map fun d => (d, f d))).tmps.getD t undef = f t
  | [], _, _, h, _ => by cases h
  | d :: ds, a, t, h, hs => by
    show (putL (a.put (some d) (f d)) (ds.map fun d => (d, f d))).tmps.getD t undef = f t
    by_cases ht : t ∈ ds
    · exact putL_in f ds _ t ht (by simpa [Act.put] using hs)
    · have e : t = d := by rcases List.mem_cons.1 h with h | h; exact h; exact absurd h ht
      subst e
      rw [putL_out _ _ t (fun x hx => by
        obtain ⟨y, hy, rfl⟩ := List.mem_map.1 hx
        intro e; exact ht (e ▸ hy)), tmps_put_eq hs]
def dstsB (ops : Array Oper) (n : Nat) (ds : List Nat) (s : Nat) : Bool := (ds.all fun d => decide (d < s)) && (List.range n).all fun j => match ops[j]? with
  | some o => match o.dst with
    | some d => ds.contains d
    | none => true
  | none => true
theorem Jinv.act {ops : Array Oper} {n : Nat} {p : Nat → Value → World → Prop} {a0 a : Act} {w0 w : World} {listed : Array Bool} (h : Jinv ops n p a0 w0 listed a w) (ds : List Nat) (hB : dstsB ops n ds a0.tmps.size = true) :
    a = putL a0 (ds.map fun d => (d, a.tmps.getD d undef)) := by
  unfold dstsB at hB
  rw [Bool.and_eq_true] at hB
  obtain ⟨hsz, hcov⟩ := hB
  have key : a.tmps = (putL a0 (ds.map fun d => (d, a.tmps.getD d undef))).tmps := by
    have hpt : ∀ t, a.tmps.getD t undef = (putL a0 (ds.map fun d => (d, a.tmps.getD d undef))).tmps.getD t undef := fun t => by
      by_cases ht : t ∈ ds
      · rw [putL_in (fun d => a.tmps.getD d undef) ds a0 t ht (by simpa using List.all_eq_true.1 hsz t ht)]
      · rw [putL_out _ _ t (fun x hx => by
          obtain ⟨y, hy, rfl⟩ := List.mem_map.1 hx
          intro e; exact ht (e ▸ hy))]
        refine h.keep t (fun i o hi ho hd => ht ?_)
        have h1 := List.all_eq_true.1 hcov i (List.mem_range.2 hi)
        rw [ho] at h1
        simp only [hd, List.contains_iff_mem] at h1
        exact h1
    apply Array.ext
    · rw [putL_size, h.size]
    · intro i h1 h2
      rw [← getD_at h1, ← getD_at h2]
      exact hpt i
  have hdf := h.defers
  generalize hb : putL a0 (ds.map fun d => (d, a.tmps.getD d undef)) = b at key ⊢
  have hbd : b.defers = a0.defers := by rw [← hb, putL_defers]
  cases a
  cases b
  simp only at key hdf hbd ⊢
  rw [key, hdf, hbd]
end Go.Proofs.YtgjdogkciklgkaaDoor
namespace Go.Proofs.YtgjdogkciklgkaaDoor
open Go.RowKit

theorem info5 (g : Nat → Nat) : (Tryd.prog.info? 88).map (·.size) = some (tab 5 g).length := by rw [tab_length]; kernel_rfl
theorem len5 (g h : Nat → Nat) : (tab 5 g).length = (tab 5 h).length := by rw [tab_length, tab_length]
theorem z5 : rowK .u64 (tab 5 zer17) = #[.int .u64 0, .int .u64 0, .int .u64 0, .int .u64 0, .int .u64 0] := rfl
theorem ret5 {fn : Func} {p : Tmp} (h : fn.results = #[.cell p 88]) (tmps : Array Value) (w : World) (b : Nat) (g : Nat → Nat) (hp : tmps.getD p undef = .pointer (some ⟨b, 0, none⟩)) (hB : Blk w b 88 .u64 (tab 5 g)) :
    (results fn tmps).run Tryd.prog w = .ok (.agg (rowK .u64 (tab 5 g))) w :=
  results_cell_row (P := Tryd.prog) h tmps w b 88 (rowK .u64 (tab 5 g)) (0, 0) _ hp hB Tryd.underlying88 rfl (by rw [rowK_size]; exact info5 g)
theorem and51 (x : Nat) (h : x < 18446744073709551616) : bits .and .u64 (x : Int) 2251799813685247 = ((x % 2251799813685248 : Nat) : Int) := by
  have := u64_and_nat x 2251799813685247 h (by decide)
  rw [show ((2251799813685247 : Nat) : Int) = 2251799813685247 from rfl] at this
  rw [this, Nat.and_two_pow_sub_one_eq_mod x 51]

set_option maxRecDepth 100000 in
set_option maxHeartbeats 1000000 in
theorem settledP (g : Nat → Nat) (hg : Pre51 g) (w : World) :
    Calls Tryd.prog 87 #[.agg (rowK .u64 (tab 5 g))] w fun e w' => e = .returned (.agg (rowK .u64 (tab 5 (set51 g)))) ∧ Bel w.heap.size w w' := by
  have HG := hide hg
  have HCB := hide (cr51_lt g hg)
  clear hg
  go_enter Tryd.func87, Tryd.ntmps87
  go_wp2
  rw [← z5]
  have HB : Hid (Bel w.heap.size w ((w.alloc (.cells (rowK .u64 (tab 5 g)) 88)).alloc (.cells (rowK .u64 (tab 5 zer17)) 88))) := (((Bel.refl _ _).alloc (by simp) _).alloc (by simp) _)
  have HA : Hid (Blk ((w.alloc (.cells (rowK .u64 (tab 5 g)) 88)).alloc (.cells (rowK .u64 (tab 5 zer17)) 88)) (w.heap.size) 88 .u64 (tab 5 g)) := ((blkAt w (w.heap.size) 88 .u64 (tab 5 g) (by simp)).alloc _)
  have HR : Hid (Blk ((w.alloc (.cells (rowK .u64 (tab 5 g)) 88)).alloc (.cells (rowK .u64 (tab 5 zer17)) 88)) (w.heap.size + 1) 88 .u64 (tab 5 zer17)) := (blkAt (w.alloc (.cells (rowK .u64 (tab 5 g)) 88)) (w.heap.size + 1) 88 .u64 (tab 5 zer17) (by simp))
  generalize ((w.alloc (.cells (rowK .u64 (tab 5 g)) 88)).alloc (.cells (rowK .u64 (tab 5 zer17)) 88)) = w1 at *
  go_loopw [3, 5] (fun c t wr => ∃ j : Nat, j ≤ 5 ∧ c = .int .u64 (cr51 g j : Nat) ∧ t = .int .i64 j ∧ Bel w.heap.size w wr ∧ Blk wr w.heap.size 88 .u64 (partTo (lo51 g) g 5 j) ∧ Blk wr (w.heap.size + 1) 88 .u64 (tab 5 zer17)) (fun _ t _ => 5 - (intOf t).toNat)
  case atStart => exact ⟨0, Nat.zero_le _, rfl, rfl, HB.out, by rw [partTo_none]; exact HA.out, HR.out⟩
  case round =>
    clear HB HA HR
    obtain ⟨j, hj, rfl, rfl, hB, hA, hR⟩ := hrel
    have HB := hide hB
    have HA := hide hA
    have HR := hide hR
    by_cases hj5 : j < 5
    · have cc := hA.cell j (by rw [partTo_length]; exact hj5)
      rw [partTo_getD _ _ _ _ _ hj5, if_neg (by omega)] at cc
      have hf := hA.frozen j
      clear hB hA hR
      have b1 := HCB.out j hj
      have b2 : g j < 576460752303423488 := by
        by_cases e : j = 0
        · subst e; exact HG.out.1
        · have := HG.out.2 j (by omega) hj5; omega
      have HS := hide (partTo_set (lo51 g) g 5 j)
      have HL : Hid (lo51 g j = (cr51 g j + g j) % 2251799813685248) := rfl
      have HC : Hid (cr51 g (j + 1) = (cr51 g j + g j) / 2251799813685248) := rfl
      generalize cr51 g j = c at *
      generalize g j = x at *
      have ea := and51 (x + c) (by omega)
      rw [Int.natCast_add] at ea
      go_wp2
      go_roundw
      case rel =>
        refine ⟨j + 1, by omega, by rw [HC.out]; apply congrArg (Value.int .u64); omega, by go_num, (HB.out.setCell (p := ⟨w.heap.size, j, none⟩) (Nat.le_refl _) _).setCell (p := ⟨w.heap.size, j, none⟩) (Nat.le_refl _) _, ?_, (HR.out.setOther ⟨w.heap.size, j, none⟩ _ (by show w.heap.size + 1 ≠ w.heap.size; omega)).setOther _ _ (by show w.heap.size + 1 ≠ w.heap.size; omega)⟩
        rw [← HS.out, HL.out, Nat.add_comm c x]
        have h1 := (HA.out.set j (x + c)).set j ((x + c) % 2251799813685248)
        rw [List.set_set, Int.natCast_add] at h1
        exact h1
      case measure => simp [intOf]; omega
    · have h5 : j = 5 := by omega
      subst h5
      rw [partTo_full] at hA
      have cc := hA.cell 0 (by rw [tab_length]; decide)
      rw [tab_getD _ _ _ (by decide)] at cc
      have hf := hA.frozen 0
      have b1 := HCB.out 5 (by decide)
      have b2 := lo51_lt g 0
      have HA2 := hide (hA.set 0 (lo51 g 0 + 19 * cr51 g 5))
      rw [tab_set] at HA2
      have HN : Hid (set51 g = fun i => if i = 0 then lo51 g 0 + 19 * cr51 g 5 else lo51 g i) := rfl
      rw [← HN.out] at HA2
      have HB2 := hide (hB.setCell (p := ⟨w.heap.size, 0, none⟩) (Nat.le_refl _) (.int .u64 ((lo51 g 0 + 19 * cr51 g 5 : Nat) : Int)))
      have HR2 := hide (hR.setOther ⟨w.heap.size, 0, none⟩ (.int .u64 ((lo51 g 0 + 19 * cr51 g 5 : Nat) : Int)) (by show w.heap.size + 1 ≠ w.heap.size; omega))
      clear hB hA hR HB HA HR
      generalize cr51 g 5 = c at *
      generalize lo51 g 0 = x at *
      rw [show ((x + 19 * c : Nat) : Int) = (x : Int) + 19 * (c : Int) by omega] at HA2 HB2 HR2
      go_wp2_with (first | (refine wpList_ldB HA2.out Tryd.underlying88 rfl (info5 _) rfl _ rfl rfl ?_) | (refine wpList_stB HR2.out (info5 (set51 g)) (len5 _ _) rfl _ _ rfl rfl rfl rfl ?_; intro w5 hb5 ho5 hk5))
      refine bodyPost_ret (v := .agg (rowK .u64 (tab 5 (set51 g)))) (ret5 Tryd.results87 _ _ _ _ rfl hk5) rfl ⟨rfl, HB2.out.trans (hb5.mono (by omega))⟩

set_option maxRecDepth 100000 in
set_option maxHeartbeats 1000000 in
theorem plusP (a b : Nat → Nat) (ha : Ok51 a) (hb : Ok51 b) (w : World) :
    Calls Tryd.prog 83 #[.agg (rowK .u64 (tab 5 a)), .agg (rowK .u64 (tab 5 b))] w fun e w' => e = .returned (.agg (rowK .u64 (tab 5 (set51 (pl51 a b))))) ∧ Bel w.heap.size w w' := by
  have HPR := hide (pl51_pre ha hb)
  have OA := hide ha
  have OB := hide hb
  clear ha hb
  go_enter Tryd.func83, Tryd.ntmps83
  go_wp2
  rw [← z5]
  have HB : Hid (Bel w.heap.size w (((w.alloc (.cells (rowK .u64 (tab 5 a)) 88)).alloc (.cells (rowK .u64 (tab 5 b)) 88)).alloc (.cells (rowK .u64 (tab 5 zer17)) 88))) := ((((Bel.refl _ _).alloc (by simp) _).alloc (by simp) _).alloc (by simp <;> omega) _)
  have HA : Hid (Blk (((w.alloc (.cells (rowK .u64 (tab 5 a)) 88)).alloc (.cells (rowK .u64 (tab 5 b)) 88)).alloc (.cells (rowK .u64 (tab 5 zer17)) 88)) (w.heap.size) 88 .u64 (tab 5 a)) := (((blkAt w (w.heap.size) 88 .u64 (tab 5 a) (by simp)).alloc _).alloc _)
  have HD : Hid (Blk (((w.alloc (.cells (rowK .u64 (tab 5 a)) 88)).alloc (.cells (rowK .u64 (tab 5 b)) 88)).alloc (.cells (rowK .u64 (tab 5 zer17)) 88)) (w.heap.size + 1) 88 .u64 (tab 5 b)) := ((blkAt (w.alloc (.cells (rowK .u64 (tab 5 a)) 88)) (w.heap.size + 1) 88 .u64 (tab 5 b) (by simp)).alloc _)
  have HR : Hid (Blk (((w.alloc (.cells (rowK .u64 (tab 5 a)) 88)).alloc (.cells (rowK .u64 (tab 5 b)) 88)).alloc (.cells (rowK .u64 (tab 5 zer17)) 88)) (w.heap.size + 2) 88 .u64 (tab 5 zer17)) := (blkAt ((w.alloc (.cells (rowK .u64 (tab 5 a)) 88)).alloc (.cells (rowK .u64 (tab 5 b)) 88)) (w.heap.size + 2) 88 .u64 (tab 5 zer17) (by simp))
  generalize (((w.alloc (.cells (rowK .u64 (tab 5 a)) 88)).alloc (.cells (rowK .u64 (tab 5 b)) 88)).alloc (.cells (rowK .u64 (tab 5 zer17)) 88)) = w1 at *
  go_loopw [6] (fun t wr => ∃ j : Nat, j ≤ 5 ∧ t = .int .i64 j ∧ Bel w.heap.size w wr ∧ Blk wr w.heap.size 88 .u64 (partTo (pl51 a b) a 5 j) ∧ Blk wr (w.heap.size + 1) 88 .u64 (tab 5 b) ∧ Blk wr (w.heap.size + 2) 88 .u64 (tab 5 zer17)) (fun t _ => 5 - (intOf t).toNat)
  case atStart => exact ⟨0, Nat.zero_le _, rfl, HB.out, by rw [partTo_none]; exact HA.out, HD.out, HR.out⟩
  case round =>
    clear HB HA HD HR
    obtain ⟨j, hj, rfl, hB, hA, hD, hR⟩ := hrel
    have HB := hide hB
    have HD := hide hD
    have HR := hide hR
    by_cases hj5 : j < 5
    · have cc := hA.cell j (by rw [partTo_length]; exact hj5)
      rw [partTo_getD _ _ _ _ _ hj5, if_neg (by omega)] at cc
      have cd := hD.cell j (by rw [tab_length]; exact hj5)
      rw [tab_getD _ _ _ hj5] at cd
      have hf := hA.frozen j
      have HA2 := hide (hA.set j (pl51 a b j))
      rw [partTo_set] at HA2
      have HL : Hid (pl51 a b j = a j + b j) := rfl
      rw [HL.out] at HA2
      clear hB hA hD hR
      have b1 : a j < 2251799813685504 := by
        by_cases e : j = 0
        · subst e; exact OA.out.1
        · have := OA.out.2 j (by omega) hj5; omega
      have b2 : b j < 2251799813685504 := by
        by_cases e : j = 0
        · subst e; exact OB.out.1
        · have := OB.out.2 j (by omega) hj5; omega
      generalize a j = x at *
      generalize b j = y at *
      rw [Int.natCast_add] at HA2
      go_wp2
      try go_region
      try go_wp2
      go_roundw
      case rel =>
        refine ⟨j + 1, by omega, by go_num, ?_, HA2.out, HD.out.setOther _ _ (by show w.heap.size + 1 ≠ w.heap.size; omega), HR.out.setOther _ _ (by show w.heap.size + 2 ≠ w.heap.size; omega)⟩
        first | exact (HB.out.setCell (p := ⟨w.heap.size, j, none⟩) (Nat.le_refl _) _).drew | exact HB.out.setCell (p := ⟨w.heap.size, j, none⟩) (Nat.le_refl _) _
      case measure => simp [intOf]; omega
    · have h5 : j = 5 := by omega
      subst h5
      rw [partTo_full] at hA
      have HA := hide hA
      clear hB hA hD hR HD
      go_wp2_with (first | (refine wpList_ldB HA.out Tryd.underlying88 rfl (info5 _) rfl _ rfl rfl ?_))
      refine (settledP (pl51 a b) HPR.out _).mono ?_
      rintro e w3 ⟨rfl, hb3⟩
      have HR3 := hide (HR.out.below hb3 HR.out.lt)
      have HB3 := hide (HB.out.trans (hb3.mono HB.out.size))
      clear hb3 HB HR HA
      go_wp2_with (first | (refine wpList_stB HR3.out (info5 (set51 (pl51 a b))) (len5 _ _) rfl _ _ rfl rfl rfl rfl ?_; intro w5 hb5 ho5 hk5))
      refine bodyPost_ret (v := .agg (rowK .u64 (tab 5 (set51 (pl51 a b))))) (ret5 Tryd.results83 _ _ _ _ rfl hk5) rfl ⟨rfl, HB3.out.trans (hb5.mono (by omega))⟩

def at51 (a : Nat → Nat) (i : Nat) : Nat := a i + tw i
set_option maxRecDepth 100000 in
set_option maxHeartbeats 1000000 in
theorem minusP (a b : Nat → Nat) (ha : Ok51 a) (hb : Ok51 b) (w : World) :
    Calls Tryd.prog 84 #[.agg (rowK .u64 (tab 5 a)), .agg (rowK .u64 (tab 5 b))] w fun e w' => e = .returned (.agg (rowK .u64 (tab 5 (set51 (mi51 a b))))) ∧ Bel w.heap.size w w' := by
  have HPR := hide (mi51_pre (b := b) ha)
  have OA := hide ha
  have OB := hide hb
  clear ha hb
  go_enter Tryd.func84, Tryd.ntmps84
  have c0 : ∀ o1 o2, (((w.alloc (.cells (rowK .u64 (tab 5 a)) 88)).alloc o1).alloc o2).cell? ⟨w.heap.size, 0, none⟩ = some (.int .u64 (a 0 : Nat)) := fun o1 o2 => by
    have h := (((Blk.new w 88 .u64 (tab 5 a)).alloc o1).alloc o2).cell 0 (by rw [tab_length]; decide)
    rw [tab_getD _ _ _ (by decide)] at h
    exact h
  have b0 := OA.out.1
  have HP1 : Hid ((rowK .u64 (tab 5 a)).setIfInBounds 0 (.int .u64 (((a 0 : Nat) : Int) + 4503599627370458)) = rowK .u64 (partTo (at51 a) a 5 1)) := by
    show _ = _
    rw [show ((a 0 : Nat) : Int) + 4503599627370458 = ((a 0 + 4503599627370458 : Nat) : Int) by omega, rowK_set]
    have h := partTo_set (at51 a) a 5 0
    rw [partTo_none] at h
    rw [← h]
    rfl
  go_wp2
  rw [HP1.out, ← z5]
  clear c0 HP1
  have HB : Hid (Bel w.heap.size w (((w.alloc (.cells (rowK .u64 (partTo (at51 a) a 5 1)) 88)).alloc (.cells (rowK .u64 (tab 5 b)) 88)).alloc (.cells (rowK .u64 (tab 5 zer17)) 88))) := ((((Bel.refl _ _).alloc (by simp) _).alloc (by simp) _).alloc (by simp <;> omega) _)
  have HA : Hid (Blk (((w.alloc (.cells (rowK .u64 (partTo (at51 a) a 5 1)) 88)).alloc (.cells (rowK .u64 (tab 5 b)) 88)).alloc (.cells (rowK .u64 (tab 5 zer17)) 88)) (w.heap.size) 88 .u64 (partTo (at51 a) a 5 1)) := (((blkAt w (w.heap.size) 88 .u64 (partTo (at51 a) a 5 1) (by simp)).alloc _).alloc _)
  have HD : Hid (Blk (((w.alloc (.cells (rowK .u64 (partTo (at51 a) a 5 1)) 88)).alloc (.cells (rowK .u64 (tab 5 b)) 88)).alloc (.cells (rowK .u64 (tab 5 zer17)) 88)) (w.heap.size + 1) 88 .u64 (tab 5 b)) := ((blkAt (w.alloc (.cells (rowK .u64 (partTo (at51 a) a 5 1)) 88)) (w.heap.size + 1) 88 .u64 (tab 5 b) (by simp)).alloc _)
  have HR : Hid (Blk (((w.alloc (.cells (rowK .u64 (partTo (at51 a) a 5 1)) 88)).alloc (.cells (rowK .u64 (tab 5 b)) 88)).alloc (.cells (rowK .u64 (tab 5 zer17)) 88)) (w.heap.size + 2) 88 .u64 (tab 5 zer17)) := (blkAt ((w.alloc (.cells (rowK .u64 (partTo (at51 a) a 5 1)) 88)).alloc (.cells (rowK .u64 (tab 5 b)) 88)) (w.heap.size + 2) 88 .u64 (tab 5 zer17) (by simp))
  generalize (((w.alloc (.cells (rowK .u64 (partTo (at51 a) a 5 1)) 88)).alloc (.cells (rowK .u64 (tab 5 b)) 88)).alloc (.cells (rowK .u64 (tab 5 zer17)) 88)) = w1 at *
  go_loopw [5] (fun t wr => ∃ j : Nat, 1 ≤ j ∧ j ≤ 5 ∧ t = .int .i64 j ∧ Bel w.heap.size w wr ∧ Blk wr w.heap.size 88 .u64 (partTo (at51 a) a 5 j) ∧ Blk wr (w.heap.size + 1) 88 .u64 (tab 5 b) ∧ Blk wr (w.heap.size + 2) 88 .u64 (tab 5 zer17)) (fun t _ => 5 - (intOf t).toNat)
  case atStart => exact ⟨1, by decide, by decide, rfl, HB.out, HA.out, HD.out, HR.out⟩
  case round =>
    clear HB HA HD HR
    obtain ⟨j, hj1, hj, rfl, hB, hA, hD, hR⟩ := hrel
    have HB := hide hB
    have HD := hide hD
    have HR := hide hR
    by_cases hj5 : j < 5
    · have cc := hA.cell j (by rw [partTo_length]; exact hj5)
      rw [partTo_getD _ _ _ _ _ hj5, if_neg (by omega)] at cc
      have hf := hA.frozen j
      have HA2 := hide (hA.set j (at51 a j))
      rw [partTo_set] at HA2
      have HL : Hid (at51 a j = a j + 4503599627370494) := by
        show a j + tw j = _
        rw [show tw j = 4503599627370494 from if_neg (by omega)]
      rw [HL.out] at HA2
      clear hB hA hD hR
      have b1 := OA.out.2 j (by omega) hj5
      generalize a j = x at *
      rw [show ((x + 4503599627370494 : Nat) : Int) = (x : Int) + 4503599627370494 by omega] at HA2
      go_wp2
      go_roundw
      case rel => exact ⟨j + 1, by omega, by omega, by go_num, HB.out.setCell (p := ⟨w.heap.size, j, none⟩) (Nat.le_refl _) _, HA2.out, HD.out.setOther _ _ (by show w.heap.size + 1 ≠ w.heap.size; omega), HR.out.setOther _ _ (by show w.heap.size + 2 ≠ w.heap.size; omega)⟩
      case measure => simp [intOf]; omega
    · have h5 : j = 5 := by omega
      subst h5
      rw [partTo_full] at hA
      have HA := hide hA
      clear hB hA hD hR
      go_wp2
      rw [show ((5 : Nat) : Int) = 5 from rfl]
      go_loopw [20] (fun t wr => ∃ j : Nat, j ≤ 5 ∧ t = .int .i64 j ∧ Bel w.heap.size w wr ∧ Blk wr w.heap.size 88 .u64 (partTo (mi51 a b) (at51 a) 5 j) ∧ Blk wr (w.heap.size + 1) 88 .u64 (tab 5 b) ∧ Blk wr (w.heap.size + 2) 88 .u64 (tab 5 zer17)) (fun t _ => 5 - (intOf t).toNat)
      case atStart => exact ⟨0, Nat.zero_le _, rfl, HB.out, by rw [partTo_none]; exact HA.out, HD.out, HR.out⟩
      case round =>
        clear HB HA HD HR
        obtain ⟨j, hj, rfl, hB, hA, hD, hR⟩ := hrel
        have HB := hide hB
        have HD := hide hD
        have HR := hide hR
        by_cases hj5 : j < 5
        · have cc := hA.cell j (by rw [partTo_length]; exact hj5)
          rw [partTo_getD _ _ _ _ _ hj5, if_neg (by omega)] at cc
          have cd := hD.cell j (by rw [tab_length]; exact hj5)
          rw [tab_getD _ _ _ hj5] at cd
          have hf := hA.frozen j
          have HA2 := hide (hA.set j (mi51 a b j))
          rw [partTo_set] at HA2
          have HL : Hid (mi51 a b j = at51 a j - b j) := rfl
          rw [HL.out] at HA2
          clear hB hA hD hR
          have b12 : at51 a j < 9007199254740992 ∧ b j ≤ at51 a j := by
            by_cases e : j = 0
            · subst e
              have h1 := OA.out.1
              have h2 := OB.out.1
              have h3 : at51 a 0 = a 0 + 4503599627370458 := rfl
              omega
            · have h1 := OA.out.2 j (by omega) hj5
              have h2 := OB.out.2 j (by omega) hj5
              have h3 : at51 a j = a j + 4503599627370494 := by
                show a j + tw j = _
                rw [show tw j = 4503599627370494 from if_neg e]
              omega
          obtain ⟨b1, b2⟩ := b12
          generalize at51 a j = x at *
          generalize b j = y at *
          rw [show ((x - y : Nat) : Int) = (x : Int) - (y : Int) by omega] at HA2
          go_wp2
          try go_region
          try go_wp2
          go_roundw
          case rel =>
            refine ⟨j + 1, by omega, by go_num, ?_, HA2.out, HD.out.setOther _ _ (by show w.heap.size + 1 ≠ w.heap.size; omega), HR.out.setOther _ _ (by show w.heap.size + 2 ≠ w.heap.size; omega)⟩
            first | exact (HB.out.setCell (p := ⟨w.heap.size, j, none⟩) (Nat.le_refl _) _).drew | exact HB.out.setCell (p := ⟨w.heap.size, j, none⟩) (Nat.le_refl _) _
          case measure => simp [intOf]; omega
        · have h5 : j = 5 := by omega
          subst h5
          rw [partTo_full] at hA
          have HA := hide hA
          clear hB hA hD hR HD
          go_wp2_with (first | (refine wpList_ldB HA.out Tryd.underlying88 rfl (info5 _) rfl _ rfl rfl ?_))
          refine (settledP (mi51 a b) HPR.out _).mono ?_
          rintro e w3 ⟨rfl, hb3⟩
          have HR3 := hide (HR.out.below hb3 HR.out.lt)
          have HB3 := hide (HB.out.trans (hb3.mono HB.out.size))
          clear hb3 HB HR HA
          go_wp2_with (first | (refine wpList_stB HR3.out (info5 (set51 (mi51 a b))) (len5 _ _) rfl _ _ rfl rfl rfl rfl ?_; intro w5 hb5 ho5 hk5))
          refine bodyPost_ret (v := .agg (rowK .u64 (tab 5 (set51 (mi51 a b))))) (ret5 Tryd.results84 _ _ _ _ rfl hk5) rfl ⟨rfl, HB3.out.trans (hb5.mono (by omega))⟩
end Go.Proofs.YtgjdogkciklgkaaDoor
