/-
  Arrays that lie in greater ones: ranges.
-/
import Derived.Test.YtlchpbnpmgfaoaaDoorFld
import Derived.Deep.MidRow
namespace Go.Proofs.YtlchpbnpmgfaoaaDoor
open Go.RowKit

/-- Such numbers lie there. -/
def Rng (w : World) (g off : Nat) (k : IntKind) (l : List Nat) : Prop := g < w.heap.size ∧ w.rangeAt g off (l.map fun x : Nat => Value.int k (x : Int))
theorem Blk.range {w : World} {g : Nat} {t : TypeId} {k : IntKind} {L : List Nat} (h : Blk w g t k L) (off : Nat) (l : List Nat) (hs : (L.drop off).take l.length = l) : Rng w g off k l := by
  refine ⟨h.lt, ?_⟩
  intro j v hv
  have hj : j < l.length := by
    rcases Nat.lt_or_ge j l.length with h' | h'
    · exact h'
    · rw [List.getElem?_eq_none (by simpa using h')] at hv; cases hv
  have hl : off + j < L.length := by
    have := congrArg List.length hs
    rw [List.length_take, List.length_drop] at this
    omega
  rw [h.cell (off + j) hl]
  have e : L.getD (off + j) 0 = l.getD j 0 := by
    have h2 : l.getD j 0 = ((L.drop off).take l.length).getD j 0 := by rw [hs]
    rw [h2]
    simp [List.getD_eq_getElem?_getD, hj]
  rw [e, getD_in _ _ hj]
  simpa [hj] using hv
theorem Blk.rng {w : World} {g : Nat} {t : TypeId} {k : IntKind} {l : List Nat} (h : Blk w g t k l) : Rng w g 0 k l := h.range 0 l (by rw [List.drop_zero, List.take_of_length_le (Nat.le_refl _)])
theorem Rng.below {w w' : World} {g off : Nat} {k : IntKind} {l : List Nat} (h : Rng w g off k l) (hb : Bel w.heap.size w w') : Rng w' g off k l :=
  ⟨Nat.lt_of_lt_of_le h.1 hb.size, fun j v hv => (hb.cell (p := ⟨g, off + j, none⟩) h.1).trans (h.2 j v hv)⟩
theorem Rng.drew {w : World} {g off : Nat} {k : IntKind} {l : List Nat} (h : Rng w g off k l) : Rng w.drew g off k l := h
/-- An array, loaded. -/
theorem wpList_ldQ {P : Program} {w : World} {ops : Array Oper} {rest : List Oper} {o : Oper} {a : Act} {Q : Exit → Act → World → Prop} {t : TypeId} {k : IntKind} {l : List Nat} {d : TypeDesc}
    (hgd : o.guard = none) (x : Operand) (ho : o.op = .load t x) (g off : Nat) (hx : a.eval x = .pointer (some ⟨g, off, none⟩))
    (hr : Rng w g off k l) (hu : P.underlying t = some d) (hd : d.isRow = true) (hi : (P.info? t).map (·.size) = some l.length)
    (h : wpList P ops Q rest (a.put o.dst (.agg (rowK k l))) w) : wpList P ops Q (o :: rest) a w :=
  wpList_load_mid hgd t x ho g off hx (l.map fun x : Nat => Value.int k (x : Int)) d hr.2 hu hd (by rw [List.length_map]; exact hi) h
/-- A variable just made, and set. -/
theorem wpList_stNew {P : Program} {w W : World} {ops : Array Oper} {rest : List Oper} {o : Oper} {a : Act} {Q : Exit → Act → World → Prop} {zs : Array Value} {t : TypeId} {k : IntKind} {l : List Nat}
    (hgd : o.guard = none) (x y : Operand) (ho : o.op = .store t x y) (hW : W = w.alloc (.cells zs t)) (hd : o.dst = none) (hx : a.eval x = .pointer (some ⟨w.heap.size, 0, none⟩)) (hy : a.eval y = .agg (rowK k l))
    (hi : (P.info? t).map (·.size) = some l.length) (hz : zs.size = l.length)
    (h : ∀ w', Bel w.heap.size w w' → Blk w' w.heap.size t k l → wpList P ops Q rest a w') : wpList P ops Q (o :: rest) a W := by
  subst hW
  exact wpList_storeB hgd t x y ho hd w.heap.size (rowK k l) hx hy t zs (heap_alloc_new w _) (by rw [rowK_size]; exact hi) (by rw [rowK_size]; exact hz) (rowK_one _ _)
    (fun w' hb _ hk => h w' (((Bel.refl _ _).alloc (Nat.le_refl _) _).trans hb) hk)
end Go.Proofs.YtlchpbnpmgfaoaaDoor
