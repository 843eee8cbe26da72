/-
  What the rows' list of variables gives: the errors and the table.
-/
import Derived.Test.YthiafkifdfibgaaDoorLaidErrs
import Derived.Test.YthiafkifdfibgaaDoorPureHash
import Derived.Lib.LaidTab
namespace Go.Proofs.YthiafkifdfibgaaDoor
open Go.RowKit
set_option maxRecDepth 100000

def kInts : List Int := kTab.map fun x : Nat => (x : Int)
theorem tabLaid : Rows.hashesRow.laid = ("ratchet/sums.roundWords", Lib.tabData .u32 kInts) :: errTexts.map fun x => (x.1, sentD x.2) := by kernel_rfl
theorem gTab : Tryd.prog.globalNamed "ratchet/sums.roundWords" = some 7 := by kernel_rfl
theorem gTabType : (Tryd.prog.globals[7]?).map (·.type) = some 113 := by kernel_rfl
theorem cellsTab : Tryd.prog.cellsOf 113 = 64 := by kernel_rfl
theorem cellsU32 : Tryd.prog.cellsOf 91 = 1 := by kernel_rfl

theorem env_of_laid {W : World} (h : laidMet Tryd.prog (("ratchet/sums.roundWords", Lib.tabData .u32 kInts) :: errTexts.map fun x => (x.1, sentD x.2)) W) : ∃ a : Nat → Addr, Env W a := by
  obtain ⟨a, hE⟩ := errs_of_laid h.tail
  have hT := Lib.tabIs_of_head gTab gTabType Tryd.underlying113 Tryd.underlying91 cellsU32 cellsTab h
  have hc : ∀ t, t < 64 → W.cell? ⟨7, t, none⟩ = some (.int .u32 (kTab.getD t 0 : Nat)) := fun t ht => by
    have h1 := World.var?_cell gTab hT t
    rw [h1]
    simp [kInts, show t < kTab.length from ht]
  exact ⟨a, hE, cell_lt (hc 0 (by decide)), hc⟩
end Go.Proofs.YthiafkifdfibgaaDoor
