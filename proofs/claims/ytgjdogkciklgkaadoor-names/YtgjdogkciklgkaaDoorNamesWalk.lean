/-
  The walk over Names.
-/
import Derived.Test.YtgjdogkciklgkaaDoorEr
namespace Go.Proofs.YtgjdogkciklgkaaDoor
open Go.RowKit Go.Extern.Stop Go.Stop Go.Extern

theorem nilAheadError (v : Addr) (w : World) : (nilAhead 296 161 (.pointer (some v)) "Error").run Tryd.prog w = .ok (some false) w := by kernel_rfl
theorem methodError (v : Value) (w : World) : (Go.method 296 161 v "Error").run Tryd.prog w = .ok (153, v) w := by kernel_rfl

set_option maxRecDepth 100000 in
set_option maxHeartbeats 1000000 in
theorem names_any (a : Nat → Addr) (w : World) (h : Errs w a) :
    Calls Tryd.prog 3 #[] w fun e w' => e = .returned (.bool true) ∧ Bel w.heap.size w w' := by
  have H := hide h
  obtain ⟨g0, g1, g2, g3, g4, g5, g6, _, _, _⟩ := h
  go_enter Tryd.func3, Tryd.ntmps3
  go_wp2
  have hb : Bel w.heap.size w (w.alloc (.cells (errList a) 23)) := (Bel.refl _ _).alloc (Nat.le_refl _) _
  have hcell : ∀ k, k < 7 → (w.alloc (.cells (errList a) 23)).cell? ⟨w.heap.size, k, none⟩ = some (.iface 161 (.pointer (some (a k)))) := fun k hk => errList_cell w a k hk
  have hE : Errs (w.alloc (.cells (errList a) 23)) a := H.out.below hb
  have hsz : w.heap.size < (w.alloc (.cells (errList a) 23)).heap.size := by simp
  clear H g0 g1 g2 g3 g4 g5 g6
  simp only [errList, sentV] at hcell hE hb hsz
  generalize (w.alloc (.cells #[.iface 161 (.pointer (some (a 0))), .iface 161 (.pointer (some (a 1))), .iface 161 (.pointer (some (a 2))), .iface 161 (.pointer (some (a 3))), .iface 161 (.pointer (some (a 4))), .iface 161 (.pointer (some (a 5))), .iface 161 (.pointer (some (a 6)))] 23)) = w1 at *
  have HC := hide hcell
  have HE := hide hE
  have HB := hide hb
  clear hcell hE hb
  go_loopw [2] (fun t wr => ∃ k : Nat, k ≤ 7 ∧ t = .int .i64 k ∧ Bel w1.heap.size w1 wr) (fun t _ => 7 - (intOf t).toNat)
  case atStart => exact ⟨0, Nat.zero_le _, rfl, Bel.refl _ _⟩
  case round =>
    obtain ⟨k, hk, rfl, hbr⟩ := hrel
    by_cases hk7 : k < 7
    · have hck := HC.out k hk7
      have HBR := hide hbr
      have hck' : wr.cell? ⟨w.heap.size, k, none⟩ = some (.iface 161 (.pointer (some (a k)))) := by rw [hbr.cell (p := ⟨w.heap.size, k, none⟩) hsz]; exact hck
      have hEr := hide (HE.out.below HBR.out)
      have hszr : w.heap.size < wr.heap.size := Nat.lt_of_lt_of_le hsz hbr.size
      obtain ⟨s, hs, hse⟩ := hEr.out.txt k hk7
      have hs2 : (wr.alloc (.cells (errList a) 23)).cell? (a k) = some (.string s) := by rw [World.cell?_alloc_lt _ _ _ (cell_lt hs)]; exact hs
      have hck2 : (wr.alloc (.cells (errList a) 23)).cell? ⟨w.heap.size, k, none⟩ = some (.iface 161 (.pointer (some (a k)))) := by rw [World.cell?_alloc_lt _ _ _ hszr]; exact hck'
      have hnA := nilAheadError
      have hmE := methodError
      clear hbr hck hs
      go_wp2_with (first | (go_at_call 13; refine (code_at k hk7 a _ hEr.out).mono ?_; rintro e w' ⟨rfl, rfl⟩) | go_in)
      exact ⟨⟨k + 1, by omega, by go_num, HBR.out.alloc HBR.out.size _⟩, by simp [intOf]; omega⟩
    · have h7 : k = 7 := by omega
      subst h7
      go_wp2
      go_ret
      exact ⟨rfl, HB.out.trans (hbr.mono (Nat.le_of_lt hsz))⟩
end Go.Proofs.YtgjdogkciklgkaaDoor
