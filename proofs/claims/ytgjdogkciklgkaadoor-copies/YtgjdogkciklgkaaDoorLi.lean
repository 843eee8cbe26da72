/-
  What a list of sentinels in the row's cell 'laid' gives: each variable's pointer, its text, its block; the pointers differ.
-/
import Derived.Stop.LaidErr
import Derived.Test.YtgjdogkciklgkaaDoorEr
import Derived.Test.YtgjdogkciklgkaaDoorRows
import Derived.Test.YtgjdogkciklgkaaDoorIni
import Derived.Lib.LaidTab
namespace Go.Proofs.YtgjdogkciklgkaaDoor
open Go.RowKit Go.ChangeShapes
set_option maxRecDepth 100000

def sentD (text : List UInt8) : DataW Unit := .iface "*errors.errorString" (.ptr (.agg [.lit (.string text)]))

theorem Tryd.star : "*errors.errorString" = "*" ++ "errors.errorString" := by decide +kernel
theorem Tryd.rowES (u : TypeId) (h : Tryd.prog.typeName? 3 u = some "*errors.errorString") : u = 161 :=
  typeName_ptr_named (nm := "errors.errorString") (by rw [← Tryd.star]; kernel_rfl) (by kernel_rfl) (by decide) u (by rw [← Tryd.star]; exact h)
theorem Tryd.cellsES : Tryd.prog.cellsOf 184 = 1 := by kernel_rfl
theorem Tryd.cellsS : Tryd.prog.cellsOf 9 = 1 := by kernel_rfl

theorem sentinels_of_vars {W : World} (all : List MemPlace)
    (hrows : ∀ b off, MemPlace.cell b off ∈ all → (∃ c t, W.heap[b]? = some (.cells c t (0, 0))) ∧ ∀ u v, W.cell? ⟨b, off, none⟩ = some (.iface u v) → Value.okWide Tryd.prog W .any 0 u v) :
    ∀ (l : List (String × List UInt8)) (ps : List MemPlace), DataW.LaidVars Tryd.prog W (l.map fun x => (x.1, sentD x.2)) ps → (∀ x ∈ l, ∃ g, Tryd.prog.globalNamed x.1 = some g ∧ (Tryd.prog.globals[g]?).map (·.type) = some 23) → (∀ x ∈ ps, x ∈ all) →
      ∃ bs : List Addr, bs.length = l.length ∧ (bs.map fun a => MemPlace.cell a.block a.off).Sublist ps ∧
        ∀ (i : Nat) (n : String) (t : List UInt8), l[i]? = some (n, t) → ∃ a s, bs[i]? = some a ∧ W.var? Tryd.prog n = some #[.iface 161 (.pointer (some a))] ∧ W.cell? a = some (.string s) ∧ s.data.toList = t ∧ ∃ c ty, W.heap[a.block]? = some (.cells c ty (0, 0))
  | [], ps, h, _, _ => ⟨[], rfl, by simp, fun i n t hi => by simp at hi⟩
  | (n, t) :: l, ps, h, hg, hall => by
    obtain ⟨g, ty, cs, fuel, p, q, hgn, hgt, hv, hd, hq, e⟩ := h
    obtain ⟨g', hg1, hg2⟩ := hg (n, t) (by simp)
    obtain rfl := Option.some.inj (hg1.symm.trans hgn)
    obtain rfl := Option.some.inj (hg2.symm.trans hgt)
    subst e
    obtain ⟨l0⟩ := cs
    have ok0 : ∀ u v, l0 = [.iface u v] → Value.okWide Tryd.prog W .any 0 u v := fun u v e => by
      subst e
      exact (hrows g' 0 (hall _ (by simp [MemPlace.row]))).2 u v (by simpa using World.var?_cell hgn hv 0)
    obtain ⟨a0, s0, e0, hc0, hs0, hz0, ep⟩ := errorString_of_trod Tryd.underlying23 Tryd.rowES Tryd.underlying161 Tryd.underlying184 rfl rfl Tryd.underlying9 Tryd.cellsES Tryd.cellsS hd ok0
    have e0' : l0 = [.iface 161 (.pointer (some a0))] := e0
    subst e0'
    subst ep
    obtain ⟨bs, hlen, hsub, hrest⟩ := sentinels_of_vars all hrows l q hq (fun x hx => hg x (by simp [hx])) (fun x hx => hall x (by simp [hx]))
    refine ⟨a0 :: bs, by simp [hlen], ?_, ?_⟩
    · have e1 : MemPlace.row a0 1 = [MemPlace.cell a0.block a0.off] := by simp [MemPlace.row]
      rw [e1, List.map_cons, List.append_assoc]
      exact (List.Sublist.cons_cons _ hsub).trans (List.sublist_append_right _ _)
    · intro i n' t' hi
      cases i with
      | zero =>
        simp only [List.getElem?_cons_zero, Option.some.injEq, Prod.mk.injEq] at hi
        obtain ⟨rfl, rfl⟩ := hi
        exact ⟨a0, s0, rfl, hv, hc0, hs0, (hrows a0.block a0.off (hall _ (by simp [MemPlace.row]))).1⟩
      | succ i =>
        obtain ⟨a, s, h1, h2⟩ := hrest i n' t' (by simpa using hi)
        exact ⟨a, s, by simpa using h1, h2⟩

def textOf : DataW Unit → List UInt8
  | .iface _ (.ptr (.agg [.lit (.string t)])) => t
  | _ => []

/-- The seven, as the rows list them. -/
def errTexts : List (String × List UInt8) :=
  [("ratchet/ratchet.ErrLong", textOf Rows.laid_ratchet_ratchet_ErrLong), ("ratchet/ratchet.ErrKey", textOf Rows.laid_ratchet_ratchet_ErrKey), ("ratchet/ratchet.ErrForm", textOf Rows.laid_ratchet_ratchet_ErrForm), ("ratchet/ratchet.ErrAuth", textOf Rows.laid_ratchet_ratchet_ErrAuth), ("ratchet/ratchet.ErrSkip", textOf Rows.laid_ratchet_ratchet_ErrSkip), ("ratchet/ratchet.ErrNone", textOf Rows.laid_ratchet_ratchet_ErrNone), ("ratchet/ratchet.ErrFull", textOf Rows.laid_ratchet_ratchet_ErrFull)]

theorem gn0 : Tryd.prog.globalNamed "ratchet/ratchet.ErrLong" = some 0 := by kernel_rfl
theorem gn1 : Tryd.prog.globalNamed "ratchet/ratchet.ErrKey" = some 1 := by kernel_rfl
theorem gn2 : Tryd.prog.globalNamed "ratchet/ratchet.ErrForm" = some 2 := by kernel_rfl
theorem gn3 : Tryd.prog.globalNamed "ratchet/ratchet.ErrAuth" = some 3 := by kernel_rfl
theorem gn4 : Tryd.prog.globalNamed "ratchet/ratchet.ErrSkip" = some 4 := by kernel_rfl
theorem gn5 : Tryd.prog.globalNamed "ratchet/ratchet.ErrNone" = some 5 := by kernel_rfl
theorem gn6 : Tryd.prog.globalNamed "ratchet/ratchet.ErrFull" = some 6 := by kernel_rfl
theorem gt0 : (Tryd.prog.globals[0]?).map (·.type) = some 23 := by kernel_rfl
theorem gt1 : (Tryd.prog.globals[1]?).map (·.type) = some 23 := by kernel_rfl
theorem gt2 : (Tryd.prog.globals[2]?).map (·.type) = some 23 := by kernel_rfl
theorem gt3 : (Tryd.prog.globals[3]?).map (·.type) = some 23 := by kernel_rfl
theorem gt4 : (Tryd.prog.globals[4]?).map (·.type) = some 23 := by kernel_rfl
theorem gt5 : (Tryd.prog.globals[5]?).map (·.type) = some 23 := by kernel_rfl
theorem gt6 : (Tryd.prog.globals[6]?).map (·.type) = some 23 := by kernel_rfl

theorem errTexts_glob : ∀ x ∈ errTexts, ∃ g, Tryd.prog.globalNamed x.1 = some g ∧ (Tryd.prog.globals[g]?).map (·.type) = some 23 := by
  intro x hx
  simp only [errTexts, List.mem_cons, List.not_mem_nil, or_false] at hx
  rcases hx with rfl | rfl | rfl | rfl | rfl | rfl | rfl
  · exact ⟨_, gn0, gt0⟩
  · exact ⟨_, gn1, gt1⟩
  · exact ⟨_, gn2, gt2⟩
  · exact ⟨_, gn3, gt3⟩
  · exact ⟨_, gn4, gt4⟩
  · exact ⟨_, gn5, gt5⟩
  · exact ⟨_, gn6, gt6⟩

theorem errTexts_some (i : Nat) (hi : i < 7) : ∃ n t, errTexts[i]? = some (n, t) ∧ t.isEmpty = false := by
  have : i = 0 ∨ i = 1 ∨ i = 2 ∨ i = 3 ∨ i = 4 ∨ i = 5 ∨ i = 6 := by omega
  rcases this with rfl | rfl | rfl | rfl | rfl | rfl | rfl <;> exact ⟨_, _, rfl, rfl⟩

def nth (bs : List Addr) (i : Nat) : Addr := bs[i]?.getD ⟨0, 0, none⟩

theorem errs_of_laid {W : World} (h : laidMet Tryd.prog (errTexts.map fun x => (x.1, sentD x.2)) W) : ∃ a : Nat → Addr, Errs W a := by
  obtain ⟨ps, hv, hnd, hrows⟩ := h
  obtain ⟨bs, hlen, hsub, hall⟩ := sentinels_of_vars ps hrows errTexts ps hv errTexts_glob (fun _ hx => hx)
  have hlen' : bs.length = 7 := hlen
  have hat : ∀ i n t, errTexts[i]? = some (n, t) → ∃ s, W.var? Tryd.prog n = some #[.iface 161 (.pointer (some (nth bs i)))] ∧ W.cell? (nth bs i) = some (.string s) ∧ s.data.toList = t ∧ ∃ c ty, W.heap[(nth bs i).block]? = some (.cells c ty (0, 0)) := fun i n t hi => by
    obtain ⟨a, s, h1, h2⟩ := hall i n t hi
    have e : nth bs i = a := by simp [nth, h1]
    rw [e]
    exact ⟨s, h2⟩
  have cellOf : ∀ i n t g, errTexts[i]? = some (n, t) → Tryd.prog.globalNamed n = some g → W.cell? ⟨g, 0, none⟩ = some (.iface 161 (.pointer (some (nth bs i)))) := fun i n t g hi hg => by
    obtain ⟨s, h1, _⟩ := hat i n t hi
    simpa using World.var?_cell hg h1 0
  refine ⟨fun i => nth bs i, cellOf 0 _ _ _ rfl gn0, cellOf 1 _ _ _ rfl gn1, cellOf 2 _ _ _ rfl gn2, cellOf 3 _ _ _ rfl gn3, cellOf 4 _ _ _ rfl gn4, cellOf 5 _ _ _ rfl gn5, cellOf 6 _ _ _ rfl gn6, ?_, ?_, ?_⟩
  · intro i hi
    obtain ⟨n, t, h1, _⟩ := errTexts_some i hi
    obtain ⟨s, _, _, _, h2⟩ := hat i n t h1
    exact h2
  · intro i j hi hj hij e
    have hn := List.Nodup.sublist hsub hnd
    have e' : nth bs i = nth bs j := e
    have hp := List.pairwise_iff_getElem.1 hn
    have gi : bs[i]'(by omega) = nth bs i := by simp [nth, List.getElem?_eq_getElem (show i < bs.length by omega)]
    have gj : bs[j]'(by omega) = nth bs j := by simp [nth, List.getElem?_eq_getElem (show j < bs.length by omega)]
    rcases Nat.lt_or_gt_of_ne hij with hlt | hlt
    · exact hp i j (by simp; omega) (by simp; omega) hlt (by simp only [List.getElem_map, gi, gj, e'])
    · exact hp j i (by simp; omega) (by simp; omega) hlt (by simp only [List.getElem_map, gi, gj, e'])
  · intro i hi
    obtain ⟨n, t, h1, h0⟩ := errTexts_some i hi
    obtain ⟨s, _, h2, h3, _⟩ := hat i n t h1
    refine ⟨s, h2, ?_⟩
    rw [← h0, ← h3, ByteArray.toList_eq]
end Go.Proofs.YtgjdogkciklgkaaDoor
namespace Go.Proofs.YtgjdogkciklgkaaDoor
open Go.RowKit
set_option maxRecDepth 100000

def kInts : List Int := kTab.map fun x : Nat => (x : Int)
theorem gTab : Tryd.prog.globalNamed "ratchet/sums.roundWords" = some 7 := by kernel_rfl
theorem gTabType : (Tryd.prog.globals[7]?).map (·.type) = some 155 := by kernel_rfl
theorem cellsTab : Tryd.prog.cellsOf 155 = 64 := by kernel_rfl
theorem cellsU32 : Tryd.prog.cellsOf 133 = 1 := by kernel_rfl

theorem env_of_laid {W : World} (h : laidMet Tryd.prog (("ratchet/sums.roundWords", Lib.tabData .u32 kInts) :: errTexts.map fun x => (x.1, sentD x.2)) W) : ∃ a : Nat → Addr, Env W a := by
  obtain ⟨a, hE⟩ := errs_of_laid h.tail
  have hT := Lib.tabIs_of_head gTab gTabType Tryd.underlying155 Tryd.underlying133 cellsU32 cellsTab h
  have hc : ∀ t, t < 64 → W.cell? ⟨7, t, none⟩ = some (.int .u32 (kTab.getD t 0 : Nat)) := fun t ht => by
    have h1 := World.var?_cell gTab hT t
    rw [h1]
    simp [kInts, show t < kTab.length from ht]
  exact ⟨a, hE, cell_lt (hc 0 (by decide)), hc⟩
end Go.Proofs.YtgjdogkciklgkaaDoor
