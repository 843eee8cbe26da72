/-
  Rows of numbers in memory: a block that holds a list.
-/
import Derived.Test.YtlchpbnpmgfaoaaDoorBase
import Derived.Test.YtlchpbnpmgfaoaaDoorSha
import Derived.Laws.Rows
import Derived.Deep.Draws
namespace Go.Proofs.YtlchpbnpmgfaoaaDoor
open Go.RowKit

theorem belowN {B : Nat} {a w : World} (h : Bel B a w) (n : Nat) : Bel B a (w.drewN n) := ⟨h.os, h.output, h.size, h.block⟩

theorem belowRow {B g : Nat} {a w : World} (h : Bel B a w) (hg : B ≤ g) (cs : Array Value) : Bel B a (w.setRow g cs) :=
  ⟨h.os, h.output, by rw [setRow_size]; exact h.size, fun k hk => by rw [setRow_other w g k cs (by omega)]; exact h.block k hk⟩

def rowK (k : IntKind) (l : List Nat) : Array Value := (l.map fun x : Nat => Value.int k (x : Int)).toArray
def fillTo (l : List Nat) (n : Nat) : List Nat := l ++ List.replicate (n - l.length) 0

/-- Block b of the world is a row of such numbers. -/
def Blk (w : World) (b : Nat) (t : TypeId) (k : IntKind) (l : List Nat) : Prop := w.heap[b]? = some (.cells (rowK k l) t (0, 0))

theorem rowK_size (k : IntKind) (l : List Nat) : (rowK k l).size = l.length := by simp [rowK]
theorem rowK_get (k : IntKind) (l : List Nat) (j : Nat) (h : j < l.length) : (rowK k l)[j]? = some (.int k (l.getD j 0 : Nat)) := by
  simp [rowK, h]
theorem rowK_set (k : IntKind) (l : List Nat) (j v : Nat) : (rowK k l).setIfInBounds j (.int k (v : Int)) = rowK k (l.set j v) := by
  apply Array.ext'
  simp [rowK, List.map_set]
theorem rowK_one (k : IntKind) (l : List Nat) : (rowK k l).all (·.oneCell') = true := by
  rw [Array.all_eq_true_iff_forall_mem]
  intro v hv
  simp only [rowK, List.mem_toArray, List.mem_map] at hv
  obtain ⟨x, _, rfl⟩ := hv
  rfl
theorem fillTo_length (l : List Nat) (n : Nat) (h : l.length ≤ n) : (fillTo l n).length = n := by simp [fillTo]; omega
theorem fillTo_getD (l : List Nat) (n j : Nat) : (fillTo l n).getD j 0 = l.getD j 0 := by
  unfold fillTo
  by_cases h : j < l.length
  · simp [List.getElem?_append_left h]
  · have h' : l.length ≤ j := by omega
    simp only [List.getD_eq_getElem?_getD, List.getElem?_append_right h', List.getElem?_eq_none h']
    cases hq : (List.replicate (n - l.length) 0)[j - l.length]? with
    | none => rfl
    | some v =>
      have := List.mem_of_getElem? hq
      rw [List.mem_replicate] at this
      simp [this.2]
theorem fillTo_set (l : List Nat) (n v : Nat) (h : l.length < n) : (fillTo l n).set l.length v = fillTo (l ++ [v]) n := by
  unfold fillTo
  rw [List.set_append_right _ _ (Nat.le_refl _), Nat.sub_self]
  obtain ⟨m, hm⟩ : ∃ m, n - l.length = m + 1 := ⟨n - l.length - 1, by omega⟩
  have e : n - (l ++ [v]).length = m := by simp; omega
  rw [hm, e, List.replicate_succ, List.set_cons_zero]
  simp
theorem fillTo_full (l : List Nat) (n : Nat) (h : l.length = n) : fillTo l n = l := by simp [fillTo, h]

theorem Blk.cell {w : World} {b : Nat} {t : TypeId} {k : IntKind} {l : List Nat} (h : Blk w b t k l) (j : Nat) (hj : j < l.length) : w.cell? ⟨b, j, none⟩ = some (.int k (l.getD j 0 : Nat)) := by
  rw [cell_of_row w b j _ t (0, 0) h]; exact rowK_get k l j hj
theorem Blk.frozen {w : World} {b : Nat} {t : TypeId} {k : IntKind} {l : List Nat} (h : Blk w b t k l) (j : Nat) : w.frozen? ⟨b, j, none⟩ = false := frozen_of_row w b j _ t h
theorem Blk.lt {w : World} {b : Nat} {t : TypeId} {k : IntKind} {l : List Nat} (h : Blk w b t k l) : b < w.heap.size := by
  rcases Nat.lt_or_ge b w.heap.size with h' | h'
  · exact h'
  · unfold Blk at h; simp [Array.getElem?_eq_none h'] at h
theorem Blk.below {w w' : World} {B b : Nat} {t : TypeId} {k : IntKind} {l : List Nat} (h : Blk w b t k l) (hb : Bel B w w') (hB : b < B) : Blk w' b t k l := by
  unfold Blk; rw [hb.block b hB]; exact h
theorem Blk.drewN {w : World} {b : Nat} {t : TypeId} {k : IntKind} {l : List Nat} (h : Blk w b t k l) (q : Nat) : Blk (w.drewN q) b t k l := h
theorem Blk.set {w : World} {b : Nat} {t : TypeId} {k : IntKind} {l : List Nat} (h : Blk w b t k l) (j v : Nat) : Blk (w.setCell ⟨b, j, none⟩ (.int k (v : Int))) b t k (l.set j v) := by
  unfold Blk; rw [heap_setCell_same w b j _ t _ h, rowK_set]
theorem Blk.setOther {w : World} {b : Nat} {t : TypeId} {k : IntKind} {l : List Nat} (h : Blk w b t k l) (a : Addr) (v : Value) (hne : b ≠ a.block) : Blk (w.setCell a v) b t k l := by
  unfold Blk; rw [heap_setCell_other w a b v hne]; exact h
theorem Blk.alloc {w : World} {b : Nat} {t : TypeId} {k : IntKind} {l : List Nat} (h : Blk w b t k l) (o : Obj) : Blk (w.alloc o) b t k l := heapOld h
theorem Blk.new (w : World) (t : TypeId) (k : IntKind) (l : List Nat) : Blk (w.alloc (.cells (rowK k l) t)) w.heap.size t k l := heap_alloc_new w _
theorem Blk.new2 (w : World) (o : Obj) (t : TypeId) (k : IntKind) (l : List Nat) : Blk ((w.alloc o).alloc (.cells (rowK k l) t)) (w.heap.size + 1) t k l := heap_alloc2_new w o _
theorem Blk.new2old (w : World) (o : Obj) (t : TypeId) (k : IntKind) (l : List Nat) : Blk ((w.alloc (.cells (rowK k l) t)).alloc o) w.heap.size t k l := heap_alloc2_old w _ o
/-- A whole row stored into a block: the world behind it is a letter. -/
theorem wpList_storeB {P : Program} {w : World} {ops : Array Oper} {rest : List Oper} {o : Oper} {a : Act} {Q : Exit → Act → World → Prop} (hgd : o.guard = none) (ty : TypeId) (x y : Operand) (ho : o.op = .store ty x y) (hd : o.dst = none)
    (g : Nat) (cells : Array Value) (hx : a.eval x = .pointer (some ⟨g, 0, none⟩)) (hy : a.eval y = .agg cells)
    (t : TypeId) (old : Array Value) (hg : w.heap[g]? = some (.cells old t (0, 0))) (hi : (P.info? ty).map (·.size) = some cells.size)
    (hold : old.size = cells.size) (h1 : cells.all (·.oneCell') = true)
    (h : ∀ w', Bel g w w' → (∀ k, k ≠ g → w'.heap[k]? = w.heap[k]?) → w'.heap[g]? = some (.cells cells t (0, 0)) → wpList P ops Q rest a w') : wpList P ops Q (o :: rest) a w := by
  refine wpList_store_row hgd ty x y ho g cells hx hy t old hg hi hold h1 ?_
  have := h (w.setRow g cells) (belowRow (Bel.refl _ _) (Nat.le_refl _) _) (fun k hk => setRow_other w g k cells hk) (setRow_heap w g old cells t _ hg)
  rw [hd]
  exact this
end Go.Proofs.YtlchpbnpmgfaoaaDoor
