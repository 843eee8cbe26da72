/-
  errors.Is by its contracts, where both errors are of errors.New's make: the walk over Go's own text of errors.Is and errors.is (after the guide's section 10.9).
-/
import Derived.Test.YtgjdogkciklgkaaDoorChecked
import Derived.WalkKit
import Derived.LaidEql
import Derived.Stop.Asserts
import Derived.RowKitTokens
import Derived.Test.YtgjdogkciklgkaaDoorLow
namespace Go.Proofs.YtgjdogkciklgkaaDoor
open Go.RowKit Go.Extern.Stop Go.Stop Go.Extern

theorem Tryd.isTypeOf (v : Value) (w : World) : Sem.run Tryd.prog (callFunc 45 #[.iface 161 v]) w = .ok (Next.value (.iface 109 (.agg #[.pointer (some ⟨8, 161, none⟩)]))) w := by kernel_rfl
theorem Tryd.isComparable (w : World) : Sem.run Tryd.prog (callFunc 144 #[.agg #[.pointer (some ⟨8, 161, none⟩)]]) w = .ok (Next.value (.bool true)) w := by kernel_rfl
theorem Tryd.isMethodComparable (v : Value) (w : World) : (Go.method 296 109 v "Comparable").run Tryd.prog w = .ok (144, v) w := by kernel_rfl
theorem Tryd.isComp : (Tryd.prog.info? 161).map (·.comparable) = some true := by kernel_rfl
theorem Tryd.isSize : (Tryd.prog.info? 184).map (·.size) = some 1 := by kernel_rfl

theorem Tryd.noIsE (v : Value) (xT : TypeId) (w : World) : (Instr.typeAssert (.iface 161 v) xT 111 true).run Tryd.prog w = .ok (.tuple #[.nilIface, .bool false]) w := run_typeAssert_lacksB Tryd.underlying111 (by kernel_rfl) (by kernel_rfl) v xT w
theorem Tryd.noUnwrapE (v : Value) (xT : TypeId) (w : World) : (Instr.typeAssert (.iface 161 v) xT 114 true).run Tryd.prog w = .ok (.tuple #[.nilIface, .bool false]) w := run_typeAssert_lacksB Tryd.underlying114 (by kernel_rfl) (by kernel_rfl) v xT w
theorem Tryd.noUnwrapsE (v : Value) (xT : TypeId) (w : World) : (Instr.typeAssert (.iface 161 v) xT 116 true).run Tryd.prog w = .ok (.tuple #[.nilIface, .bool false]) w := run_typeAssert_lacksB Tryd.underlying116 (by kernel_rfl) (by kernel_rfl) v xT w

set_option maxRecDepth 100000 in
/-- errors.Is(x, x), x a pointer to an errors.errorString. -/
theorem is_same (a : Addr) (w : World) :
    Calls Tryd.prog 27 #[.iface 161 (.pointer (some a)), .iface 161 (.pointer (some a))] w fun e w' => e = .returned (.bool true) ∧ w' = w := by
  obtain ⟨i, hi, hcmp⟩ := Option.map_eq_some_iff.1 Tryd.isComp
  obtain ⟨j, hj, hjs⟩ := Option.map_eq_some_iff.1 Tryd.isSize
  have tT := Tryd.isTypeOf
  have cT := Tryd.isComparable
  have mR := Tryd.isMethodComparable
  have heq := run_eql_iface_ptr_same (P := Tryd.prog) w a Tryd.underlying23 Tryd.underlying161 hi hcmp hj
  go_enter Tryd.func27, Tryd.ntmps27
  go_wp2
  refine wp_loop_rounds 1 ?_
  rw [rounds_succ]
  go_wp2
  go_ret
  exact ⟨rfl, rfl⟩

set_option maxRecDepth 100000 in
/-- errors.Is(x, y), two different pointers to errors.errorString: neither has Is nor Unwrap: false. -/
theorem is_other (a b : Addr) (ca cb : Array Value) (ta tb : TypeId) (w : World) (hne : a ≠ b) (ha : w.heap[a.block]? = some (.cells ca ta (0, 0))) (hb : w.heap[b.block]? = some (.cells cb tb (0, 0))) :
    Calls Tryd.prog 27 #[.iface 161 (.pointer (some a)), .iface 161 (.pointer (some b))] w fun e w' => e = .returned (.bool false) ∧ w' = w := by
  obtain ⟨i, hi, hcmp⟩ := Option.map_eq_some_iff.1 Tryd.isComp
  obtain ⟨j, hj, hjs⟩ := Option.map_eq_some_iff.1 Tryd.isSize
  have tT := Tryd.isTypeOf
  have cT := Tryd.isComparable
  have mR := Tryd.isMethodComparable
  have nE := Tryd.noIsE
  have uE := Tryd.noUnwrapE
  have vE := Tryd.noUnwrapsE
  have heq := run_eql_iface_ptr_other (P := Tryd.prog) w Tryd.underlying23 Tryd.underlying161 hi hcmp hj (by rw [hjs]; decide) hne ha hb
  go_enter Tryd.func27, Tryd.ntmps27
  go_wp2
  refine wp_loop_rounds 1 ?_
  rw [rounds_succ]
  go_wp2
  go_ret
  exact ⟨rfl, rfl⟩

end Go.Proofs.YtgjdogkciklgkaaDoor
namespace Go.Proofs.YtgjdogkciklgkaaDoor
open Go.RowKit Go.Extern.Stop Go.Stop Go.Extern

/-- The value of an error of errors.New's make. -/
def sentV (a : Addr) : Value := .iface 161 (.pointer (some a))

/-- The seven variables hold seven different pointers. -/
structure Errs (w : World) (a : Nat → Addr) : Prop where
  g0 : w.cell? ⟨0, 0, none⟩ = some (.iface 161 (.pointer (some (a 0))))
  g1 : w.cell? ⟨1, 0, none⟩ = some (.iface 161 (.pointer (some (a 1))))
  g2 : w.cell? ⟨2, 0, none⟩ = some (.iface 161 (.pointer (some (a 2))))
  g3 : w.cell? ⟨3, 0, none⟩ = some (.iface 161 (.pointer (some (a 3))))
  g4 : w.cell? ⟨4, 0, none⟩ = some (.iface 161 (.pointer (some (a 4))))
  g5 : w.cell? ⟨5, 0, none⟩ = some (.iface 161 (.pointer (some (a 5))))
  g6 : w.cell? ⟨6, 0, none⟩ = some (.iface 161 (.pointer (some (a 6))))
  row : ∀ i, i < 7 → ∃ c t, w.heap[(a i).block]? = some (.cells c t (0, 0))
  ne : ∀ i j, i < 7 → j < 7 → i ≠ j → a i ≠ a j
  txt : ∀ i, i < 7 → ∃ s : ByteArray, w.cell? (a i) = some (.string s) ∧ s.toList.isEmpty = false

theorem Errs.below {w w' : World} {a : Nat → Addr} (h : Errs w a) (hb : Bel w.heap.size w w') : Errs w' a where
  g0 := by rw [hb.cell (cell_lt h.g0)]; exact h.g0
  g1 := by rw [hb.cell (cell_lt h.g1)]; exact h.g1
  g2 := by rw [hb.cell (cell_lt h.g2)]; exact h.g2
  g3 := by rw [hb.cell (cell_lt h.g3)]; exact h.g3
  g4 := by rw [hb.cell (cell_lt h.g4)]; exact h.g4
  g5 := by rw [hb.cell (cell_lt h.g5)]; exact h.g5
  g6 := by rw [hb.cell (cell_lt h.g6)]; exact h.g6
  row := fun i hi => by
    obtain ⟨s, hs, _⟩ := h.txt i hi
    rw [hb.block _ (cell_lt hs)]; exact h.row i hi
  ne := h.ne
  txt := fun i hi => by
    obtain ⟨s, hs, he⟩ := h.txt i hi
    exact ⟨s, by rw [hb.cell (cell_lt hs)]; exact hs, he⟩

/-- The list of all seven. -/
def errList (a : Nat → Addr) : Array Value := #[sentV (a 0), sentV (a 1), sentV (a 2), sentV (a 3), sentV (a 4), sentV (a 5), sentV (a 6)]

theorem errList_cell (w : World) (a : Nat → Addr) (k : Nat) (hk : k < 7) :
    (w.alloc (.cells (errList a) 23)).cell? ⟨w.heap.size, k, none⟩ = some (.iface 161 (.pointer (some (a k)))) := by
  have : k = 0 ∨ k = 1 ∨ k = 2 ∨ k = 3 ∨ k = 4 ∨ k = 5 ∨ k = 6 := by omega
  rcases this with rfl | rfl | rfl | rfl | rfl | rfl | rfl <;> (rw [World.cell?_alloc_new]; rfl)

set_option maxRecDepth 100000 in
set_option maxHeartbeats 1000000 in
theorem code_at (i : Nat) (hi : i < 7) (a : Nat → Addr) (w : World) (h : Errs w a) :
    Calls Tryd.prog 13 #[.iface 161 (.pointer (some (a i)))] w fun e w' => e = .returned (.int .i64 ((i : Int) + 1)) ∧ w' = w.alloc (.cells (errList a) 23) := by
  obtain ⟨g0, g1, g2, g3, g4, g5, g6, hrow, hne, _⟩ := h
  have HR := hide hrow
  have HN := hide hne
  clear hrow hne
  go_enter Tryd.func13, Tryd.ntmps13
  go_wp2
  have hcell : ∀ k, k < 7 → (w.alloc (.cells (errList a) 23)).cell? ⟨w.heap.size, k, none⟩ = some (.iface 161 (.pointer (some (a k)))) := fun k hk => errList_cell w a k hk
  have hrow1 : ∀ i, i < 7 → ∃ c t, (w.alloc (.cells (errList a) 23)).heap[(a i).block]? = some (.cells c t (0, 0)) := fun i hi => by
    obtain ⟨c, t, h⟩ := HR.out i hi
    exact ⟨c, t, heapOld h⟩
  clear HR g0 g1 g2 g3 g4 g5 g6
  simp only [errList, sentV] at hcell hrow1
  generalize hw1 : (w.alloc (.cells #[.iface 161 (.pointer (some (a 0))), .iface 161 (.pointer (some (a 1))), .iface 161 (.pointer (some (a 2))), .iface 161 (.pointer (some (a 3))), .iface 161 (.pointer (some (a 4))), .iface 161 (.pointer (some (a 5))), .iface 161 (.pointer (some (a 6)))] 23)) = w1 at *
  have HW := hide hw1
  clear hw1
  have HC := hide hcell
  have HR := hide hrow1
  clear hcell hrow1
  go_loop [4] (fun t => ∃ k : Nat, k ≤ i ∧ t = .int .i64 k) (fun t => 7 - (intOf t).toNat)
  case atStart => exact ⟨0, Nat.zero_le _, rfl⟩
  case round =>
    obtain ⟨k, hk, rfl⟩ := hrel
    have hck := HC.out k (by omega)
    by_cases hki : k = i
    · subst hki
      go_wp2_with (go_at_call 27; refine (is_same _ _).mono ?_; rintro e w' ⟨rfl, rfl⟩)
      go_ret
      exact ⟨rfl, HW.out.symm⟩
    · obtain ⟨c1, t1, hr1⟩ := HR.out k (by omega)
      obtain ⟨c2, t2, hr2⟩ := HR.out i (by omega)
      have hn := HN.out i k hi (by omega) (by omega)
      go_wp2_with (go_at_call 27; refine (is_other _ _ _ _ _ _ _ hn hr2 hr1).mono ?_; rintro e w' ⟨rfl, rfl⟩)
      go_round
      case rel => exact ⟨k + 1, by omega, by go_num⟩
      case measure => simp [intOf]; omega
end Go.Proofs.YtgjdogkciklgkaaDoor
