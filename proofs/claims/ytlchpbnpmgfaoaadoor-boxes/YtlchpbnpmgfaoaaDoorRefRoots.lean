/-
  The document's table of the rounds' constants.
-/
import Derived.Test.YtlchpbnpmgfaoaaDoorRow
namespace Go.Proofs.YtlchpbnpmgfaoaaDoor
open Go.RowKit

set_option maxRecDepth 100000 in
set_option maxHeartbeats 1000000 in
theorem refRoots (w : World) :
    Calls Tryd.prog 103 #[] w fun e w' => e = .returned (.slice (some ⟨w.heap.size, 0, none⟩) 64 64) ∧ Bel w.heap.size w w' ∧ Blk w' w.heap.size 3 .i64 kTab := by
  go_enter Tryd.func103, Tryd.ntmps103
  go_wp2
  go_ret
  exact ⟨rfl, (Bel.refl _ _).alloc (Nat.le_refl _) _, Blk.new w 3 .i64 kTab⟩
end Go.Proofs.YtlchpbnpmgfaoaaDoor
