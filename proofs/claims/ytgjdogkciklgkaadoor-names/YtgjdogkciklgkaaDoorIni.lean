/-
  What every walk of the laws begins with: the errors and the table; strings laid in a row.
-/
import Derived.Test.YtgjdogkciklgkaaDoorEr
import Derived.Test.YtgjdogkciklgkaaDoorDr
namespace Go.Proofs.YtgjdogkciklgkaaDoor
open Go.RowKit

theorem strs1 (w : World) (x : List UInt8) (i : Nat) (hi : i < [x].length) : (w.alloc (.cells #[.string (str x)] 9)).cell? ⟨w.heap.size, i, none⟩ = some (.string (str ([x].getD i []))) := by
  have : i = 0 := by simp at hi; omega
  subst this
  rw [World.cell?_alloc_new]; rfl

theorem strs2 (w : World) (x y : List UInt8) (i : Nat) (hi : i < [x, y].length) : (w.alloc (.cells #[.string (str x), .string (str y)] 9)).cell? ⟨w.heap.size, i, none⟩ = some (.string (str ([x, y].getD i []))) := by
  have : i = 0 ∨ i = 1 := by simp at hi; omega
  rcases this with rfl | rfl <;> (rw [World.cell?_alloc_new]; rfl)
theorem strs3 (w : World) (x y z : List UInt8) (i : Nat) (hi : i < [x, y, z].length) : (w.alloc (.cells #[.string (str x), .string (str y), .string (str z)] 9)).cell? ⟨w.heap.size, i, none⟩ = some (.string (str ([x, y, z].getD i []))) := by
  have : i = 0 ∨ i = 1 ∨ i = 2 := by simp at hi; omega
  rcases this with rfl | rfl | rfl <;> (rw [World.cell?_alloc_new]; rfl)

/-- What the package's variables hold. -/
structure Env (w : World) (a : Nat → Addr) : Prop where
  errs : Errs w a
  lt : 7 < w.heap.size
  tab : ∀ t, t < 64 → w.cell? ⟨7, t, none⟩ = some (.int .u32 (kTab.getD t 0 : Nat))
theorem Env.below {w w' : World} {a : Nat → Addr} (h : Env w a) (hb : Bel w.heap.size w w') : Env w' a :=
  ⟨h.errs.below hb, Nat.lt_of_lt_of_le h.lt hb.size, fun t ht => (hb.cell (p := ⟨7, t, none⟩) h.lt).trans (h.tab t ht)⟩

theorem Env.toTab {w : World} {a : Nat → Addr} (h : Env w a) : Tab w := ⟨h.lt, h.tab⟩
end Go.Proofs.YtgjdogkciklgkaaDoor
