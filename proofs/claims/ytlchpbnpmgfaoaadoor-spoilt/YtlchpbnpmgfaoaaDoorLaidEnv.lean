/-
  What the rows' list of variables gives: the errors and the table.
-/
import Derived.Test.YtlchpbnpmgfaoaaDoorLaidErrs
import Derived.Test.YtlchpbnpmgfaoaaDoorPureHash
import Derived.Lib.LaidTab
namespace Go.Proofs.YtlchpbnpmgfaoaaDoor
open Go.RowKit
set_option maxRecDepth 100000

def kInts : List Int := kTab.map fun x : Nat => (x : Int)
theorem tabLaid : Rows.hashesRow.laid = ("ratchet/sums.roundWords", Lib.tabData .u32 kInts) :: errTexts.map fun x => (x.1, sentD x.2) := by kernel_rfl
theorem gTab : Tryd.prog.globalNamed "ratchet/sums.roundWords" = some 7 := by kernel_rfl
theorem gTabType : (Tryd.prog.globals[7]?).map (·.type) = some 155 := by kernel_rfl
theorem cellsTab : Tryd.prog.cellsOf 155 = 64 := by kernel_rfl
theorem cellsU32 : Tryd.prog.cellsOf 132 = 1 := by kernel_rfl

theorem env_of_laid {W : World} (h : laidMet Tryd.prog (("ratchet/sums.roundWords", Lib.tabData .u32 kInts) :: errTexts.map fun x => (x.1, sentD x.2)) W) : ∃ a : Nat → Addr, Env W a := by
  obtain ⟨a, hE⟩ := errs_of_laid h.tail
  have hT := Lib.tabIs_of_head gTab gTabType Tryd.underlying155 Tryd.underlying132 cellsU32 cellsTab h
  have hc : ∀ t, t < 64 → W.cell? ⟨7, t, none⟩ = some (.int .u32 (kTab.getD t 0 : Nat)) := fun t ht => by
    have h1 := World.var?_cell gTab hT t
    rw [h1]
    simp [kInts, show t < kTab.length from ht]
  exact ⟨a, hE, cell_lt (hc 0 (by decide)), hc⟩
end Go.Proofs.YtlchpbnpmgfaoaaDoor
