/-
  Points of the program: what its operations leave in regions that draw.
-/
import Derived.Test.YtlchpbnpmgfaoaaDoorRegB
import Derived.Test.YtlchpbnpmgfaoaaDoorRefRung
namespace Go.Proofs.YtlchpbnpmgfaoaaDoor
open Go.RowKit

def V5 (v : Value) (m : Nat) : Prop := ∃ f, v = .agg (rowK .u64 (tab 5 f)) ∧ Is51 f m
def sec5 (p : Nat → Nat) : Nat → Nat := fun i => p (5 + i)
def V10 (v : Value) (x z : Nat) : Prop := ∃ p, v = .agg (rowK .u64 (tab 10 p)) ∧ Is51 p x ∧ Is51 (sec5 p) z
theorem timesV5 {a b : Value} {x y : Nat} (ha : V5 a x) (hb : V5 b y) (w : World) : Calls Tryd.prog 61 #[a, b] w fun e w' => ∃ v, e = .returned v ∧ V5 v (mulM x y) ∧ Bel w.heap.size w w' := by
  obtain ⟨f, rfl, hf⟩ := ha
  obtain ⟨g, rfl, hg⟩ := hb
  exact (timesI5 hf hg w).mono fun _ _ ⟨h, he, hi, hb⟩ => ⟨_, he, ⟨h, rfl, hi⟩, hb⟩
theorem plusV5 {a b : Value} {x y : Nat} (ha : V5 a x) (hb : V5 b y) (w : World) : Calls Tryd.prog 84 #[a, b] w fun e w' => ∃ v, e = .returned v ∧ V5 v (addM x y) ∧ Bel w.heap.size w w' := by
  obtain ⟨f, rfl, hf⟩ := ha
  obtain ⟨g, rfl, hg⟩ := hb
  exact (plusI5 hf hg w).mono fun _ _ ⟨h, he, hi, hb⟩ => ⟨_, he, ⟨h, rfl, hi⟩, hb⟩
theorem minusV5 {a b : Value} {x y : Nat} (ha : V5 a x) (hb : V5 b y) (w : World) : Calls Tryd.prog 85 #[a, b] w fun e w' => ∃ v, e = .returned v ∧ V5 v (subM x y) ∧ Bel w.heap.size w w' := by
  obtain ⟨f, rfl, hf⟩ := ha
  obtain ⟨g, rfl, hg⟩ := hb
  exact (minusI5 hf hg w).mono fun _ _ ⟨h, he, hi, hb⟩ => ⟨_, he, ⟨h, rfl, hi⟩, hb⟩
theorem inverseV5 {a : Value} {x : Nat} (ha : V5 a x) (w : World) : Calls Tryd.prog 62 #[a] w fun e w' => ∃ v, e = .returned v ∧ V5 v (ivTo x 255) ∧ Bel w.heap.size w w' := by
  obtain ⟨f, rfl, hf⟩ := ha
  exact (inverseP f x hf w).mono fun _ _ ⟨h, he, hi, hb⟩ => ⟨_, he, ⟨h, rfl, hi⟩, hb⟩
theorem enterTimes5 (xs : Array Value) (w : World) : (callFunc 61 xs).run Tryd.prog w = .ok (.enter 61 xs) w := by kernel_rfl
theorem enterPlus5 (xs : Array Value) (w : World) : (callFunc 84 xs).run Tryd.prog w = .ok (.enter 84 xs) w := by kernel_rfl
theorem enterMinus5 (xs : Array Value) (w : World) : (callFunc 85 xs).run Tryd.prog w = .ok (.enter 85 xs) w := by kernel_rfl
theorem enterInverse5 (xs : Array Value) (w : World) : (callFunc 62 xs).run Tryd.prog w = .ok (.enter 62 xs) w := by kernel_rfl
theorem alloc5 (w : World) : (Instr.alloc 90 true (.tuple #[])).run Tryd.prog w = .ok (.pointer (some ⟨w.heap.size, 0, none⟩)) (w.alloc (.cells (rowK .u64 (tab 5 zer17)) 90)) := by kernel_rfl
theorem alloc10 (w : World) : (Instr.alloc 94 true (.tuple #[])).run Tryd.prog w = .ok (.pointer (some ⟨w.heap.size, 0, none⟩)) (w.alloc (.cells (rowK .u64 (tab 10 zer17)) 94)) := by kernel_rfl
theorem field0 (g : Nat) (w : World) : (Instr.fieldAt 94 (.pointer (some ⟨g, 0, none⟩)) 0).run Tryd.prog w = .ok (.pointer (some ⟨g, 0, none⟩)) w := by kernel_rfl
theorem field1 (g : Nat) (w : World) : (Instr.fieldAt 94 (.pointer (some ⟨g, 0, none⟩)) 1).run Tryd.prog w = .ok (.pointer (some ⟨g, 5, none⟩)) w := by kernel_rfl
def one5 (c : Nat) : Nat → Nat := fun i => if i = 0 then c else 0
theorem one5_is {c : Nat} (h : c < 2251799813685248) (hp : c < PR) : Is51 (one5 c) c := by
  refine ⟨⟨?_, fun i hi _ => ?_⟩, ?_⟩
  · show c < _
    omega
  · unfold one5
    rw [if_neg (by omega)]
    decide
  · have e : V51 (one5 c) = c := by simp [V51, sumB, one5]
    rw [e]
    exact Nat.mod_eq_of_lt hp
theorem build5 (w : World) : (Instr.build 90 #[(0, .int .u64 121665)]).run Tryd.prog w = .ok (.agg (rowK .u64 (tab 5 (one5 121665)))) w := run_build w _ _ _ (by kernel_rfl)
def pt10 (a b : Nat → Nat) : Nat → Nat := fun i => if i < 5 then a i else b (i - 5)
theorem Is51.congr {f g : Nat → Nat} {m : Nat} (h : Is51 f m) (e : ∀ i, i < 5 → g i = f i) : Is51 g m := by
  refine ⟨⟨by rw [e 0 (by decide)]; exact h.1.1, fun i h0 hi => by rw [e i hi]; exact h.1.2 i h0 hi⟩, ?_⟩
  rw [← h.2]
  simp [V51, sumB, e]
theorem pt10_fst {a b : Nat → Nat} {m : Nat} (h : Is51 a m) : Is51 (pt10 a b) m := h.congr fun _ hi => if_pos hi
theorem pt10_snd {a b : Nat → Nat} {m : Nat} (h : Is51 b m) : Is51 (sec5 (pt10 a b)) m := h.congr fun i hi => by
  show (if 5 + i < 5 then a (5 + i) else b (5 + i - 5)) = b i
  rw [if_neg (by omega), Nat.add_sub_cancel_left]
theorem build10 (a b : Nat → Nat) (w : World) : (Instr.build 94 #[(0, .agg (rowK .u64 (tab 5 a))), (1, .agg (rowK .u64 (tab 5 b)))]).run Tryd.prog w = .ok (.agg (rowK .u64 (tab 10 (pt10 a b)))) w :=
  run_build w _ _ _ (by kernel_rfl)
theorem wpList_build10 {w : World} {ops : Array Oper} {rest : List Oper} {o : Oper} {a : Act} {Q : Exit → Act → World → Prop} {x y : Operand} (hgd : o.guard = none) (ho : o.op = .build 94 #[(0, x), (1, y)]) (f1 f2 : Nat → Nat)
    (hx : a.eval x = .agg (rowK .u64 (tab 5 f1))) (hy : a.eval y = .agg (rowK .u64 (tab 5 f2)))
    (h : wpList Tryd.prog ops Q rest (a.put o.dst (.agg (rowK .u64 (tab 10 (pt10 f1 f2))))) w) : wpList Tryd.prog ops Q (o :: rest) a w := by
  refine wpList_plain hgd fun K hK => ?_
  have e : (execOp a.eval o).run Tryd.prog w = .ok (.value (.agg (rowK .u64 (tab 10 (pt10 f1 f2))))) w := by
    simp [execOp, ho, hx, hy, build10]
  unfold Oper.wp
  rw [e]
  exact hK _ _ h
theorem f100 (p : Nat → Nat) : ((tab 10 p).drop 0).take (tab 5 p).length = tab 5 p := by rw [tab_length]; rfl
theorem f101 (p : Nat → Nat) : ((tab 10 p).drop 5).take (tab 5 (sec5 p)).length = tab 5 (sec5 p) := by rw [tab_length]; rfl
theorem ret10 {fn : Func} {p : Tmp} (h : fn.results = #[.cell p 94]) (tmps : Array Value) (w : World) (b : Nat) (g : Nat → Nat) (hp : tmps.getD p undef = .pointer (some ⟨b, 0, none⟩)) (hB : Blk w b 94 .u64 (tab 10 g)) :
    (results fn tmps).run Tryd.prog w = .ok (.agg (rowK .u64 (tab 10 g))) w :=
  results_cell_row (P := Tryd.prog) h tmps w b 94 (rowK .u64 (tab 10 g)) (0, 0) _ hp hB Tryd.underlying94 rfl (by rw [rowK_size]; exact info10 g)

/-- What an operation leaves. -/
inductive Ex where
  | ptr (g off : Nat)
  | val (m : Nat)
  | pnt (x z : Nat)
  | new (B0 : Nat)
  | eq (u : Value)
  | any
def Ex.holds : Ex → Value → World → Prop
  | .ptr g off, v, _ => v = .pointer (some ⟨g, off, none⟩)
  | .val m, v, _ => V5 v m
  | .pnt x z, v, _ => V10 v x z
  | .new B0, v, w => ∃ b, v = .pointer (some ⟨b, 0, none⟩) ∧ B0 ≤ b ∧ Blk w b 90 .u64 (tab 5 zer17)
  | .eq u, v, _ => v = u
  | .any, _, _ => True
def Ex.isNew : Ex → Bool
  | .new _ => true
  | _ => false
def PL (l : List Ex) (i : Nat) (v : Value) (w : World) : Prop := (l.getD i .any).holds v w
def frL (l : List Ex) (i : Nat) : Bool := (l.getD i .any).isNew
theorem PL_stable (l : List Ex) (i : Nat) (v : Value) (w w' : World) (h : PL l i v w) (hb : Bel w.heap.size w w') : PL l i v w' := by
  unfold PL at h ⊢
  cases hx : l.getD i .any with
  | ptr g off => rw [hx] at h; exact h
  | val m => rw [hx] at h; exact h
  | pnt x z => rw [hx] at h; exact h
  | eq u => rw [hx] at h; exact h
  | new B0 =>
    rw [hx] at h
    obtain ⟨b, h1, h2, h3⟩ := h
    exact ⟨b, h1, h2, h3.below hb h3.lt⟩
  | any => exact trivial
theorem PL_fr (l : List Ex) (i : Nat) (v : Value) (w : World) (hf : frL l i = true) (h : PL l i v w) : ∃ b, v = .pointer (some ⟨b, 0, none⟩) ∧ b < w.heap.size := by
  unfold PL at h
  unfold frL at hf
  cases hx : l.getD i .any with
  | new B0 =>
    rw [hx] at h
    obtain ⟨b, h1, _, h3⟩ := h
    exact ⟨b, h1, h3.lt⟩
  | ptr g off => rw [hx] at hf; cases hf
  | val m => rw [hx] at hf; cases hf
  | pnt x z => rw [hx] at hf; cases hf
  | eq u => rw [hx] at hf; cases hf
  | any => rw [hx] at hf; cases hf
end Go.Proofs.YtlchpbnpmgfaoaaDoor
