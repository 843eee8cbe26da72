/-
  The program's swapped.
-/
import Derived.Test.YtgjdogkciklgkaaDoorPSh
import Derived.Test.YtgjdogkciklgkaaDoorRs
namespace Go.Proofs.YtgjdogkciklgkaaDoor
open Go.RowKit

def swp (bit : Nat) (p q : Nat → Nat) (i : Nat) : Nat := if bit = 1 then q i else p i
/-- The first k limbs of x and of z are done. -/
def mix (bit k : Nat) (p q : Nat → Nat) (i : Nat) : Nat := if i % 5 < k then swp bit p q i else p i
theorem mix_zero (bit : Nat) (p q : Nat → Nat) : tab 10 (mix bit 0 p q) = tab 10 p := tab_congr 10 (fun _ _ => if_neg (Nat.not_lt_zero _))
theorem mix_five (bit : Nat) (p q : Nat → Nat) : tab 10 (mix bit 5 p q) = tab 10 (swp bit p q) := tab_congr 10 (fun i _ => if_pos (Nat.mod_lt i (by decide)))
theorem mix_at (bit k : Nat) (p q : Nat → Nat) (i : Nat) (h : i % 5 = k) : mix bit k p q i = p i := if_neg (by omega)
theorem mix_next (bit k : Nat) (hk : k < 5) (p q : Nat → Nat) : ((tab 10 (mix bit k p q)).set k (swp bit p q k)).set (5 + k) (swp bit p q (5 + k)) = tab 10 (mix bit (k + 1) p q) := by
  rw [tab_set, tab_set]
  apply tab_congr
  intro i hi
  unfold mix
  by_cases e1 : i = 5 + k
  · subst e1
    rw [if_pos rfl, if_pos (by omega)]
  · rw [if_neg e1]
    by_cases e2 : i = k
    · subst e2
      rw [if_pos rfl, if_pos (by omega)]
    · rw [if_neg e2]
      by_cases h : i % 5 < k
      · rw [if_pos h, if_pos (by omega)]
      · rw [if_neg h, if_neg (by omega)]
theorem info10 (g : Nat → Nat) : (Tryd.prog.info? 92).map (·.size) = some (tab 10 g).length := by rw [tab_length]; kernel_rfl
theorem len10 (g h : Nat → Nat) : (tab 10 g).length = (tab 10 h).length := by rw [tab_length, tab_length]
theorem z10 : rowK .u64 (tab 10 zer17) = #[.int .u64 0, .int .u64 0, .int .u64 0, .int .u64 0, .int .u64 0, .int .u64 0, .int .u64 0, .int .u64 0, .int .u64 0, .int .u64 0] := rfl
/-- The mask, and what it makes of two limbs. -/
theorem swp_bits (bit : Nat) (hb : bit < 2) (x y : Nat) (hx : x < 18446744073709551616) (hy : y < 18446744073709551616) :
    ∃ m d : Nat, m < 18446744073709551616 ∧ bits .xor .u64 (x : Int) (y : Int) = (d : Int) ∧ bits .and .u64 (IntKind.u64.wrap (-(bit : Int))) (d : Int) = (m : Int) ∧ bits .xor .u64 (x : Int) (m : Int) = ((if bit = 1 then y else x : Nat) : Int) ∧ bits .xor .u64 (y : Int) (m : Int) = ((if bit = 1 then x else y : Nat) : Int) := by
  have hd : x ^^^ y < 18446744073709551616 := Nat.xor_lt_two_pow (n := 64) hx hy
  have h01 : bit = 0 ∨ bit = 1 := by omega
  rcases h01 with rfl | rfl
  · refine ⟨0, x ^^^ y, by decide, u64_xor_nat _ _ hx hy, ?_, ?_, ?_⟩
    · have e : IntKind.u64.wrap (-((0 : Nat) : Int)) = ((0 : Nat) : Int) := by rw [IntKind.wrap_u64]; rfl
      rw [e, u64_and_nat _ _ (by decide) hd, Nat.zero_and]
    · rw [u64_xor_nat _ _ hx (by decide), Nat.xor_zero, if_neg (by decide)]
    · rw [u64_xor_nat _ _ hy (by decide), Nat.xor_zero, if_neg (by decide)]
  · refine ⟨x ^^^ y, x ^^^ y, hd, u64_xor_nat _ _ hx hy, ?_, ?_, ?_⟩
    · have e : IntKind.u64.wrap (-((1 : Nat) : Int)) = ((18446744073709551615 : Nat) : Int) := by rw [IntKind.wrap_u64]; rfl
      rw [e, u64_and_nat _ _ (by decide) hd, Nat.and_comm, Nat.and_two_pow_sub_one_eq_mod (x ^^^ y) 64, Nat.mod_eq_of_lt hd]
    · rw [u64_xor_nat _ _ hx hd, ← Nat.xor_assoc, Nat.xor_self, Nat.zero_xor, if_pos rfl]
    · rw [u64_xor_nat _ _ hy hd, Nat.xor_comm x y, ← Nat.xor_assoc, Nat.xor_self, Nat.zero_xor, if_pos rfl]

/-- A region that draws, by what holds of the operations that are done: for stores that do not wait for all. -/
theorem wpAny_inv {P : Program} {ops : Array Oper} {Q : Exit → Act → World → Prop} (J : (Nat → Bool) → Act → World → Prop) (hb : backB ops ops.size = true) (hg : (ops.all fun o => o.guard.isNone) = true)
    (hstep : ∀ (f : Nat → Bool) (a : Act) (w : World) (i : Nat) (o : Oper), J f a w → ops[i]? = some o → f i = false → (∀ e ∈ o.after, Region.binds .any e = true → f e.on = true) → o.wp P a w (fun a' w' => J (fun j => if j = i then true else f j) a' w') Q)
    (hend : ∀ (f : Nat → Bool) (a : Act) (w : World), J f a w → (∀ i, i < ops.size → f i = true) → Q .normal a w) :
    ∀ (m : Nat) (listed : Array Bool) (a : Act) (w : World), cntTo listed ops.size = m → listed.size = ops.size → J (fun j => listed.getD j false) a w → wpAny P .any ops Q m listed a w
  | 0, listed, a, w, hm, hs, hj => by
    have hall := cntTo_zero ops.size hm
    refine ⟨?_, hend _ a w hj hall⟩
    rw [List.eq_nil_iff_forall_not_mem]
    intro i hi
    obtain ⟨hu, o, ho, _⟩ := mem_ready.1 hi
    have hlt : i < ops.size := by
      rcases Nat.lt_or_ge i ops.size with h | h
      · exact h
      · rw [Array.getElem?_eq_none h] at ho; cases ho
    have := hall i hlt
    rw [getD_both hu] at this
    cases this
  | m + 1, listed, a, w, hm, hs, hj => by
    obtain ⟨i0, hi0, hu0, hbef⟩ := cntTo_first ops.size (by omega : 0 < cntTo listed ops.size)
    refine ⟨fun h0 => ?_, fun i hr => ?_⟩
    · exfalso
      have hmem : i0 ∈ Region.ready .any ops listed := by
        have ho : ops[i0]? = some ops[i0] := Array.getElem?_eq_getElem hi0
        refine mem_ready.2 ⟨Go.getD_in (by rw [hs]; exact hi0) hu0, ops[i0], ho, fun e he hbd => ?_⟩
        have h1 := List.all_eq_true.1 hb i0 (List.mem_range.2 hi0)
        rw [ho] at h1
        have h2 := (Array.all_eq_true_iff_forall_mem.1 h1) e he
        simp only [hbd, Bool.not_true, Bool.false_or, decide_eq_true_eq] at h2
        exact hbef e.on h2
      rw [h0] at hmem
      cases hmem
    · obtain ⟨hun, o, ho, hall⟩ := mem_ready.1 hr
      have hlt : i < ops.size := by
        rcases Nat.lt_or_ge i ops.size with h | h
        · exact h
        · rw [Array.getElem?_eq_none h] at ho; cases ho
      have huf := getD_both hun
      unfold wpOp
      rw [ho]
      show if Region.wanted o (yielded ops a.tmps) = true then _ else _
      have hgd : o.guard = none := by
        have := (Array.all_eq_true_iff_forall_mem.1 hg) o (Array.mem_of_getElem? ho)
        simpa using this
      have hw : Region.wanted o (yielded ops a.tmps) = true := by unfold Region.wanted; rw [hgd]
      rw [if_pos hw]
      left
      refine Oper.wp_mono ?_ (hstep _ a w i o hj ho huf hall)
      intro a' w' hj'
      have hcnt := cntTo_set (by rw [hs]; exact hlt) huf ops.size
      rw [if_pos hlt] at hcnt
      refine wpAny_inv J hb hg hstep hend m _ a' w' (by omega) (by simp [hs]) ?_
      have e : (fun j => (listed.setIfInBounds i true).getD j false) = (fun j => if j = i then true else listed.getD j false) := by
        funext j
        by_cases h : j = i
        · subst h; rw [getDs_eq false (by rw [hs]; exact hlt), if_pos rfl]
        · rw [getDs_ne false (Ne.symm h), if_neg h]
      rw [e]
      exact hj'
theorem wp_region_inv {P : Program} {id : Nat} {Q : Exit → Act → World → Prop} {a0 : Act} {w0 : World} {l : List Oper} (J : (Nat → Bool) → Act → World → Prop) (hm : P.follows .mixedOrders = true)
    (hB : (backB l.toArray l.toArray.size && l.toArray.all fun o => o.guard.isNone) = true)
    (h0 : J (fun _ => false) a0 w0.drew)
    (hstep : ∀ (f : Nat → Bool) (a : Act) (w : World) (i : Nat) (o : Oper), J f a w → l.toArray[i]? = some o → f i = false → (∀ e ∈ o.after, Region.binds .any e = true → f e.on = true) → o.wp P a w (fun a' w' => J (fun j => if j = i then true else f j) a' w') Q)
    (hend : ∀ (f : Nat → Bool) (a : Act) (w : World), J f a w → (∀ i, i < l.length → f i = true) → Q .normal a w) : (Code.region id l.toArray true).wp P Q a0 w0 := by
  rw [Bool.and_eq_true] at hB
  refine wp_region_any hm ?_
  refine wpAny_inv J hB.1 hB.2 hstep (fun f a w h1 h2 => hend f a w h1 (by simpa using h2)) _ _ _ _ (cntTo_replicate _ _) (by simp) ?_
  have e : (fun j => (Array.replicate l.toArray.size false).getD j false) = (fun _ => false) := by funext j; exact getD_replicate_false _ _
  rw [e]
  exact h0
theorem results_two {P : Program} {fn : Func} {p1 p2 : Tmp} {ty : TypeId} (h : fn.results = #[.cell p1 ty, .cell p2 ty]) (tmps : Array Value) (w : World) (g1 g2 : Nat) (t1 t2 : TypeId) (c1 c2 : Array Value) (f1 f2 : Nat × Nat) (d : TypeDesc)
    (hp1 : tmps.getD p1 undef = .pointer (some ⟨g1, 0, none⟩)) (hp2 : tmps.getD p2 undef = .pointer (some ⟨g2, 0, none⟩)) (hg1 : w.heap[g1]? = some (.cells c1 t1 f1)) (hg2 : w.heap[g2]? = some (.cells c2 t2 f2))
    (hu : P.underlying ty = some d) (hd : (match d with | .struct _ | .array _ _ => true | _ => false) = true) (hi1 : (P.info? ty).map (·.size) = some c1.size) (hi2 : (P.info? ty).map (·.size) = some c2.size) :
    (results fn tmps).run P w = .ok (.tuple #[.agg c1, .agg c2]) w := by
  have hp1' : tmps[p1]?.getD undef = .pointer (some ⟨g1, 0, none⟩) := by simpa using hp1
  have hp2' : tmps[p2]?.getD undef = .pointer (some ⟨g2, 0, none⟩) := by simpa using hp2
  simp [results, h, hp1', hp2', asAddr, run_loadVar_row w g1 t1 ty c1 f1 d hg1 hu hd hi1, run_loadVar_row w g2 t2 ty c2 f2 d hg2 hu hd hi2]
theorem getD_put_ne {a : Act} {d t : Nat} {v : Value} (h : t ≠ d) : (a.put (some d) v).tmps.getD t undef = a.tmps.getD t undef := tmps_put_ne (Ne.symm h)

set_option maxRecDepth 100000 in
set_option maxHeartbeats 4000000 in
theorem swappedP (bit : Nat) (hb : bit < 2) (p q : Nat → Nat) (hp : ∀ i, i < 10 → p i < 18446744073709551616) (hq : ∀ i, i < 10 → q i < 18446744073709551616) (w : World) :
    Calls Tryd.prog 57 #[.int .u64 bit, .agg (rowK .u64 (tab 10 p)), .agg (rowK .u64 (tab 10 q))] w fun e w' => e = .returned (.tuple #[.agg (rowK .u64 (tab 10 (swp bit p q))), .agg (rowK .u64 (tab 10 (swp bit q p)))]) ∧ Bel w.heap.size w w' := by
  have HBit := hide hb
  have HPL := hide hp
  have HQL := hide hq
  clear hb hp hq
  go_enter Tryd.func57, Tryd.ntmps57
  go_wp2
  rw [← z10]
  have HB : Hid (Bel w.heap.size w ((((w.alloc (.cells (rowK .u64 (tab 10 p)) 92)).alloc (.cells (rowK .u64 (tab 10 q)) 92)).alloc (.cells (rowK .u64 (tab 10 zer17)) 92)).alloc (.cells (rowK .u64 (tab 10 zer17)) 92))) := (((((Bel.refl _ _).alloc (by simp) _).alloc (by simp) _).alloc (by simp <;> omega) _).alloc (by simp <;> omega) _)
  have HA : Hid (Blk ((((w.alloc (.cells (rowK .u64 (tab 10 p)) 92)).alloc (.cells (rowK .u64 (tab 10 q)) 92)).alloc (.cells (rowK .u64 (tab 10 zer17)) 92)).alloc (.cells (rowK .u64 (tab 10 zer17)) 92)) (w.heap.size) 92 .u64 (tab 10 p)) := ((((blkAt w (w.heap.size) 92 .u64 (tab 10 p) (by simp)).alloc _).alloc _).alloc _)
  have HD : Hid (Blk ((((w.alloc (.cells (rowK .u64 (tab 10 p)) 92)).alloc (.cells (rowK .u64 (tab 10 q)) 92)).alloc (.cells (rowK .u64 (tab 10 zer17)) 92)).alloc (.cells (rowK .u64 (tab 10 zer17)) 92)) (w.heap.size + 1) 92 .u64 (tab 10 q)) := (((blkAt (w.alloc (.cells (rowK .u64 (tab 10 p)) 92)) (w.heap.size + 1) 92 .u64 (tab 10 q) (by simp)).alloc _).alloc _)
  have HR : Hid (Blk ((((w.alloc (.cells (rowK .u64 (tab 10 p)) 92)).alloc (.cells (rowK .u64 (tab 10 q)) 92)).alloc (.cells (rowK .u64 (tab 10 zer17)) 92)).alloc (.cells (rowK .u64 (tab 10 zer17)) 92)) (w.heap.size + 2) 92 .u64 (tab 10 zer17)) := ((blkAt ((w.alloc (.cells (rowK .u64 (tab 10 p)) 92)).alloc (.cells (rowK .u64 (tab 10 q)) 92)) (w.heap.size + 2) 92 .u64 (tab 10 zer17) (by simp)).alloc _)
  have HS : Hid (Blk ((((w.alloc (.cells (rowK .u64 (tab 10 p)) 92)).alloc (.cells (rowK .u64 (tab 10 q)) 92)).alloc (.cells (rowK .u64 (tab 10 zer17)) 92)).alloc (.cells (rowK .u64 (tab 10 zer17)) 92)) (w.heap.size + 3) 92 .u64 (tab 10 zer17)) := (blkAt (((w.alloc (.cells (rowK .u64 (tab 10 p)) 92)).alloc (.cells (rowK .u64 (tab 10 q)) 92)).alloc (.cells (rowK .u64 (tab 10 zer17)) 92)) (w.heap.size + 3) 92 .u64 (tab 10 zer17) (by simp))
  generalize ((((w.alloc (.cells (rowK .u64 (tab 10 p)) 92)).alloc (.cells (rowK .u64 (tab 10 q)) 92)).alloc (.cells (rowK .u64 (tab 10 zer17)) 92)).alloc (.cells (rowK .u64 (tab 10 zer17)) 92)) = w1 at *
  go_loopw [14] (fun t wr => ∃ k : Nat, k ≤ 5 ∧ t = .int .i64 k ∧ Bel w.heap.size w wr ∧ Blk wr w.heap.size 92 .u64 (tab 10 (mix bit k p q)) ∧ Blk wr (w.heap.size + 1) 92 .u64 (tab 10 (mix bit k q p)) ∧ Blk wr (w.heap.size + 2) 92 .u64 (tab 10 zer17) ∧ Blk wr (w.heap.size + 3) 92 .u64 (tab 10 zer17)) (fun t _ => 5 - (intOf t).toNat)
  case atStart => exact ⟨0, Nat.zero_le _, rfl, HB.out, by rw [mix_zero]; exact HA.out, by rw [mix_zero]; exact HD.out, HR.out, HS.out⟩
  case round =>
    clear HB HA HD HR HS
    obtain ⟨k, hk, rfl, hB, hA, hD, hR, hS⟩ := hrel
    have HB := hide hB
    have HA := hide hA
    have HD := hide hD
    have HR := hide hR
    have HS := hide hS
    clear hB hR hS
    by_cases hk5 : k < 5
    · have ca := hA.cell k (by rw [tab_length]; omega)
      rw [tab_getD _ _ _ (by omega), mix_at _ _ _ _ _ (by omega)] at ca
      have cb := hD.cell k (by rw [tab_length]; omega)
      rw [tab_getD _ _ _ (by omega), mix_at _ _ _ _ _ (by omega)] at cb
      have ca5 := hA.cell (5 + k) (by rw [tab_length]; omega)
      rw [tab_getD _ _ _ (by omega), mix_at _ _ _ _ _ (by omega)] at ca5
      have cb5 := hD.cell (5 + k) (by rw [tab_length]; omega)
      rw [tab_getD _ _ _ (by omega), mix_at _ _ _ _ _ (by omega)] at cb5
      have fa := hA.frozen k
      have fb := hD.frozen k
      have fa5 := hA.frozen (5 + k)
      have fb5 := hD.frozen (5 + k)
      clear hA hD
      obtain ⟨m, d, _, x1, x2, x3, x4⟩ := swp_bits bit HBit.out (p k) (q k) (HPL.out k (by omega)) (HQL.out k (by omega))
      obtain ⟨m5, d5, _, y1, y2, y3, y4⟩ := swp_bits bit HBit.out (p (5 + k)) (q (5 + k)) (HPL.out (5 + k) (by omega)) (HQL.out (5 + k) (by omega))
      have NA := hide (mix_next bit k hk5 p q)
      have NB := hide (mix_next bit k hk5 q p)
      have SA : Hid (swp bit p q k = if bit = 1 then q k else p k) := rfl
      have SB : Hid (swp bit q p k = if bit = 1 then p k else q k) := rfl
      have SA5 : Hid (swp bit p q (5 + k) = if bit = 1 then q (5 + k) else p (5 + k)) := rfl
      have SB5 : Hid (swp bit q p (5 + k) = if bit = 1 then p (5 + k) else q (5 + k)) := rfl
      rw [← SA.out] at x3
      rw [← SB.out] at x4
      rw [← SA5.out] at y3
      rw [← SB5.out] at y4
      clear SA SB SA5 SB5
      generalize swp bit p q k = sx at *
      generalize swp bit q p k = sy at *
      generalize swp bit p q (5 + k) = sx5 at *
      generalize swp bit q p (5 + k) = sy5 at *
      generalize p k = x at *
      generalize q k = y at *
      generalize p (5 + k) = x5 at *
      generalize q (5 + k) = y5 at *
      have k0 : (0 : Int) ≤ (k : Int) := by omega
      have k1 : (k : Int) < 5 := by omega
      go_wp2
      go_quiet (fail)
      have ca : (wr.drewN nq).cell? ⟨w.heap.size, k, none⟩ = _ := ca
      have cb : (wr.drewN nq).cell? ⟨w.heap.size + 1, k, none⟩ = _ := cb
      have ca5 : (wr.drewN nq).cell? ⟨w.heap.size, 5 + k, none⟩ = _ := ca5
      have cb5 : (wr.drewN nq).cell? ⟨w.heap.size + 1, 5 + k, none⟩ = _ := cb5
      have fa : (wr.drewN nq).frozen? ⟨w.heap.size, k, none⟩ = false := fa
      have fb : (wr.drewN nq).frozen? ⟨w.heap.size + 1, k, none⟩ = false := fb
      have fa5 : (wr.drewN nq).frozen? ⟨w.heap.size, 5 + k, none⟩ = false := fa5
      have fb5 : (wr.drewN nq).frozen? ⟨w.heap.size + 1, 5 + k, none⟩ = false := fb5
      have HB := hide (belowN HB.out nq)
      have HA := hide (HA.out.drewN nq)
      have HD := hide (HD.out.drewN nq)
      have HR := hide (HR.out.drewN nq)
      have HS := hide (HS.out.drewN nq)
      generalize wr.drewN nq = w2 at *
      go_wp2
      go_quiet (fail)
      have ca : (w2.drewN nq).cell? ⟨w.heap.size, k, none⟩ = _ := ca
      have cb : (w2.drewN nq).cell? ⟨w.heap.size + 1, k, none⟩ = _ := cb
      have ca5 : (w2.drewN nq).cell? ⟨w.heap.size, 5 + k, none⟩ = _ := ca5
      have cb5 : (w2.drewN nq).cell? ⟨w.heap.size + 1, 5 + k, none⟩ = _ := cb5
      have fa : (w2.drewN nq).frozen? ⟨w.heap.size, k, none⟩ = false := fa
      have fb : (w2.drewN nq).frozen? ⟨w.heap.size + 1, k, none⟩ = false := fb
      have fa5 : (w2.drewN nq).frozen? ⟨w.heap.size, 5 + k, none⟩ = false := fa5
      have fb5 : (w2.drewN nq).frozen? ⟨w.heap.size + 1, 5 + k, none⟩ = false := fb5
      have HB := hide (belowN HB.out nq)
      have HA := hide (HA.out.drewN nq)
      have HD := hide (HD.out.drewN nq)
      have HR := hide (HR.out.drewN nq)
      have HS := hide (HS.out.drewN nq)
      generalize w2.drewN nq = w3 at *
      go_wp2
      go_big_region
      have ne1 : w.heap.size ≠ w.heap.size + 1 := by omega
      have HB := hide (((HB.out.setCell (p := ⟨w.heap.size, k, none⟩) (Nat.le_refl _) (.int .u64 sx)).setCell (p := ⟨w.heap.size + 1, k, none⟩) (Nat.le_succ _) (.int .u64 sy)))
      have HB : Hid (Bel w.heap.size w (((w3.setCell ⟨w.heap.size, k, none⟩ (.int .u64 sx)).setCell ⟨w.heap.size + 1, k, none⟩ (.int .u64 sy)).drew)) := hide (belowN HB.out 1)
      have HA : Hid (Blk (((w3.setCell ⟨w.heap.size, k, none⟩ (.int .u64 sx)).setCell ⟨w.heap.size + 1, k, none⟩ (.int .u64 sy)).drew) w.heap.size 92 .u64 _) := hide ((HA.out.set k sx).setOther ⟨w.heap.size + 1, k, none⟩ (.int .u64 sy) ne1)
      have HD : Hid (Blk (((w3.setCell ⟨w.heap.size, k, none⟩ (.int .u64 sx)).setCell ⟨w.heap.size + 1, k, none⟩ (.int .u64 sy)).drew) (w.heap.size + 1) 92 .u64 _) := hide ((HD.out.setOther ⟨w.heap.size, k, none⟩ (.int .u64 sx) ne1.symm).set k sy)
      have HR : Hid (Blk (((w3.setCell ⟨w.heap.size, k, none⟩ (.int .u64 sx)).setCell ⟨w.heap.size + 1, k, none⟩ (.int .u64 sy)).drew) (w.heap.size + 2) 92 .u64 _) := hide ((HR.out.setOther ⟨w.heap.size, k, none⟩ (.int .u64 sx) (by show w.heap.size + 2 ≠ w.heap.size; omega)).setOther ⟨w.heap.size + 1, k, none⟩ (.int .u64 sy) (by show w.heap.size + 2 ≠ w.heap.size + 1; omega))
      have HS : Hid (Blk (((w3.setCell ⟨w.heap.size, k, none⟩ (.int .u64 sx)).setCell ⟨w.heap.size + 1, k, none⟩ (.int .u64 sy)).drew) (w.heap.size + 3) 92 .u64 _) := hide ((HS.out.setOther ⟨w.heap.size, k, none⟩ (.int .u64 sx) (by show w.heap.size + 3 ≠ w.heap.size; omega)).setOther ⟨w.heap.size + 1, k, none⟩ (.int .u64 sy) (by show w.heap.size + 3 ≠ w.heap.size + 1; omega))
      have ca5 : (((w3.setCell ⟨w.heap.size, k, none⟩ (.int .u64 sx)).setCell ⟨w.heap.size + 1, k, none⟩ (.int .u64 sy)).drew).cell? ⟨w.heap.size, 5 + k, none⟩ = _ := ((World.cell?_setCell_far _ _ _ _ (by show w.heap.size + 1 ≠ w.heap.size; omega)).trans (World.cell?_setCell_other _ _ _ _ (by intro e; injection e with _ e2; omega))).trans ca5
      have cb5 : (((w3.setCell ⟨w.heap.size, k, none⟩ (.int .u64 sx)).setCell ⟨w.heap.size + 1, k, none⟩ (.int .u64 sy)).drew).cell? ⟨w.heap.size + 1, 5 + k, none⟩ = _ := ((World.cell?_setCell_other _ _ _ _ (by intro e; injection e with _ e2; omega)).trans (World.cell?_setCell_far _ _ _ _ (by show w.heap.size ≠ w.heap.size + 1; omega))).trans cb5
      have fa5 := HA.out.frozen (5 + k)
      have fb5 := HD.out.frozen (5 + k)
      clear ca cb fa fb
      generalize ((w3.setCell ⟨w.heap.size, k, none⟩ (.int .u64 sx)).setCell ⟨w.heap.size + 1, k, none⟩ (.int .u64 sy)).drew = w4 at *
      go_wp2
      go_big_region
      have HB := hide (((HB.out.setCell (p := ⟨w.heap.size, 5 + k, none⟩) (Nat.le_refl _) (.int .u64 sx5)).setCell (p := ⟨w.heap.size + 1, 5 + k, none⟩) (Nat.le_succ _) (.int .u64 sy5)))
      have HB : Hid (Bel w.heap.size w (((w4.setCell ⟨w.heap.size, 5 + k, none⟩ (.int .u64 sx5)).setCell ⟨w.heap.size + 1, 5 + k, none⟩ (.int .u64 sy5)).drew)) := hide (belowN HB.out 1)
      have HA : Hid (Blk (((w4.setCell ⟨w.heap.size, 5 + k, none⟩ (.int .u64 sx5)).setCell ⟨w.heap.size + 1, 5 + k, none⟩ (.int .u64 sy5)).drew) w.heap.size 92 .u64 _) := hide ((HA.out.set (5 + k) sx5).setOther ⟨w.heap.size + 1, 5 + k, none⟩ (.int .u64 sy5) ne1)
      have HD : Hid (Blk (((w4.setCell ⟨w.heap.size, 5 + k, none⟩ (.int .u64 sx5)).setCell ⟨w.heap.size + 1, 5 + k, none⟩ (.int .u64 sy5)).drew) (w.heap.size + 1) 92 .u64 _) := hide ((HD.out.setOther ⟨w.heap.size, 5 + k, none⟩ (.int .u64 sx5) ne1.symm).set (5 + k) sy5)
      have HR : Hid (Blk (((w4.setCell ⟨w.heap.size, 5 + k, none⟩ (.int .u64 sx5)).setCell ⟨w.heap.size + 1, 5 + k, none⟩ (.int .u64 sy5)).drew) (w.heap.size + 2) 92 .u64 _) := hide ((HR.out.setOther ⟨w.heap.size, 5 + k, none⟩ (.int .u64 sx5) (by show w.heap.size + 2 ≠ w.heap.size; omega)).setOther ⟨w.heap.size + 1, 5 + k, none⟩ (.int .u64 sy5) (by show w.heap.size + 2 ≠ w.heap.size + 1; omega))
      have HS : Hid (Blk (((w4.setCell ⟨w.heap.size, 5 + k, none⟩ (.int .u64 sx5)).setCell ⟨w.heap.size + 1, 5 + k, none⟩ (.int .u64 sy5)).drew) (w.heap.size + 3) 92 .u64 _) := hide ((HS.out.setOther ⟨w.heap.size, 5 + k, none⟩ (.int .u64 sx5) (by show w.heap.size + 3 ≠ w.heap.size; omega)).setOther ⟨w.heap.size + 1, 5 + k, none⟩ (.int .u64 sy5) (by show w.heap.size + 3 ≠ w.heap.size + 1; omega))
      rw [NA.out] at HA
      rw [NB.out] at HD
      clear ca5 cb5 fa5 fb5
      generalize ((w4.setCell ⟨w.heap.size, 5 + k, none⟩ (.int .u64 sx5)).setCell ⟨w.heap.size + 1, 5 + k, none⟩ (.int .u64 sy5)).drew = w5 at *
      go_wp2
      go_roundw
      case rel => exact ⟨k + 1, by omega, by go_num, HB.out, HA.out, HD.out, HR.out, HS.out⟩
      case measure => simp [intOf]; omega
    · obtain rfl : k = 5 := by omega
      clear hA hD
      rw [mix_five] at HA HD
      go_wp2
      refine wp_region_inv (fun f a wx => Bel w.heap.size w wx ∧ Blk wx w.heap.size 92 .u64 (tab 10 (swp bit p q)) ∧ Blk wx (w.heap.size + 1) 92 .u64 (tab 10 (swp bit q p)) ∧ (∃ l, l.length = 10 ∧ Blk wx (w.heap.size + 2) 92 .u64 l ∧ (f 2 = true → l = tab 10 (swp bit p q))) ∧ (∃ l, l.length = 10 ∧ Blk wx (w.heap.size + 3) 92 .u64 l ∧ (f 3 = true → l = tab 10 (swp bit q p))) ∧ (f 0 = true → a.tmps.getD 76 undef = .agg (rowK .u64 (tab 10 (swp bit p q)))) ∧ (f 1 = true → a.tmps.getD 77 undef = .agg (rowK .u64 (tab 10 (swp bit q p)))) ∧ a.tmps.getD 4 undef = .pointer (some ⟨w.heap.size, 0, none⟩) ∧ a.tmps.getD 5 undef = .pointer (some ⟨w.heap.size + 1, 0, none⟩) ∧ a.tmps.getD 6 undef = .pointer (some ⟨w.heap.size + 2, 0, none⟩) ∧ a.tmps.getD 7 undef = .pointer (some ⟨w.heap.size + 3, 0, none⟩) ∧ a.tmps.size = 78 ∧ a.defers = []) rfl (by kernel_rfl) ⟨belowN HB.out 1, HA.out, HD.out, ⟨_, tab_length _ _, HR.out, fun h => by cases h⟩, ⟨_, tab_length _ _, HS.out, fun h => by cases h⟩, (fun h => by cases h), (fun h => by cases h), rfl, rfl, rfl, rfl, rfl, rfl⟩ ?_ ?_
      · intro f a wx i o hJ ho hf hw
        obtain ⟨hB, hA, hD, hR, hS, h0, h1, t4, t5, t6, t7, hz, hdf⟩ := hJ
        match i, ho with
        | 0, ho =>
          obtain rfl := Option.some.inj ho
          refine wp_load_row 92 (.tmp 4) rfl w.heap.size t4 92 (rowK .u64 (tab 10 (swp bit p q))) (0, 0) _ hA Tryd.underlying92 rfl (by rw [rowK_size]; exact info10 _) ?_
          refine ⟨hB, hA, hD, hR, hS, fun _ => ?_, fun h => ?_, ?_, ?_, ?_, ?_, ?_, hdf⟩
          · exact tmps_put_eq (by rw [hz]; decide)
          · exact (getD_put_ne (by decide)).trans (h1 h)
          · exact (getD_put_ne (by decide)).trans t4
          · exact (getD_put_ne (by decide)).trans t5
          · exact (getD_put_ne (by decide)).trans t6
          · exact (getD_put_ne (by decide)).trans t7
          · rw [← hz]; simp [Act.put]
        | 1, ho =>
          obtain rfl := Option.some.inj ho
          refine wp_load_row 92 (.tmp 5) rfl (w.heap.size + 1) t5 92 (rowK .u64 (tab 10 (swp bit q p))) (0, 0) _ hD Tryd.underlying92 rfl (by rw [rowK_size]; exact info10 _) ?_
          refine ⟨hB, hA, hD, hR, hS, fun h => ?_, fun _ => ?_, ?_, ?_, ?_, ?_, ?_, hdf⟩
          · exact (getD_put_ne (by decide)).trans (h0 h)
          · exact tmps_put_eq (by rw [hz]; decide)
          · exact (getD_put_ne (by decide)).trans t4
          · exact (getD_put_ne (by decide)).trans t5
          · exact (getD_put_ne (by decide)).trans t6
          · exact (getD_put_ne (by decide)).trans t7
          · rw [← hz]; simp [Act.put]
        | 2, ho =>
          obtain rfl := Option.some.inj ho
          obtain ⟨l2, hl2, hb2, _⟩ := hR
          obtain ⟨l3, hl3, hb3, h3⟩ := hS
          have v76 := h0 (hw ⟨0, .data⟩ (by simp) rfl)
          refine wp_store_row 92 (.tmp 6) (.tmp 76) rfl (w.heap.size + 2) (rowK .u64 (tab 10 (swp bit p q))) t6 v76 92 (rowK .u64 l2) hb2 (by rw [rowK_size]; exact info10 _) (by rw [rowK_size, rowK_size, hl2, tab_length]) (rowK_one _ _) ?_
          refine ⟨belowRow hB (by omega) _, hA.stays (fun j hj => setRow_other wx _ j _ hj) (by omega), hD.stays (fun j hj => setRow_other wx _ j _ hj) (by omega), ⟨_, tab_length _ _, setRow_heap wx _ _ _ _ _ hb2, fun _ => rfl⟩, ⟨l3, hl3, hb3.stays (fun j hj => setRow_other wx _ j _ hj) (by omega), h3⟩, h0, h1, t4, t5, t6, t7, hz, hdf⟩
        | 3, ho =>
          obtain rfl := Option.some.inj ho
          obtain ⟨l2, hl2, hb2, h2⟩ := hR
          obtain ⟨l3, hl3, hb3, _⟩ := hS
          have v77 := h1 (hw ⟨1, .data⟩ (by simp) rfl)
          refine wp_store_row 92 (.tmp 7) (.tmp 77) rfl (w.heap.size + 3) (rowK .u64 (tab 10 (swp bit q p))) t7 v77 92 (rowK .u64 l3) hb3 (by rw [rowK_size]; exact info10 _) (by rw [rowK_size, rowK_size, hl3, tab_length]) (rowK_one _ _) ?_
          refine ⟨belowRow hB (by omega) _, hA.stays (fun j hj => setRow_other wx _ j _ hj) (by omega), hD.stays (fun j hj => setRow_other wx _ j _ hj) (by omega), ⟨l2, hl2, hb2.stays (fun j hj => setRow_other wx _ j _ hj) (by omega), h2⟩, ⟨_, tab_length _ _, setRow_heap wx _ _ _ _ _ hb3, fun _ => rfl⟩, h0, h1, t4, t5, t6, t7, hz, hdf⟩
        | i + 4, ho => simp at ho
      · intro f a wx hJ hall
        obtain ⟨hB, _, _, ⟨l2, _, hb2, h2⟩, ⟨l3, _, hb3, h3⟩, _, _, _, _, t6, t7, _, hdf⟩ := hJ
        obtain rfl := h2 (hall 2 (by decide))
        obtain rfl := h3 (hall 3 (by decide))
        go_wp2
        exact bodyPost_ret (v := .tuple #[.agg (rowK .u64 (tab 10 (swp bit p q))), .agg (rowK .u64 (tab 10 (swp bit q p)))]) (results_two Tryd.results57 _ _ _ _ _ _ _ _ _ _ _ t6 t7 hb2 hb3 Tryd.underlying92 rfl (by rw [rowK_size]; exact info10 _) (by rw [rowK_size]; exact info10 _)) hdf ⟨rfl, hB⟩
end Go.Proofs.YtgjdogkciklgkaaDoor
namespace Go.Proofs.YtgjdogkciklgkaaDoor
open Go.RowKit

/-- The variables that were made differ. -/
def Apart (ops : Array Oper) (n : Nat) (fr : Nat → Bool) (listed : Array Bool) (a : Act) : Prop :=
  ∀ i j oi oj di dj, i < n → j < n → i ≠ j → ops[i]? = some oi → ops[j]? = some oj → oi.dst = some di → oj.dst = some dj → fr i = true → fr j = true → listed.getD i false = true → listed.getD j false = true → a.tmps.getD di undef ≠ a.tmps.getD dj undef

theorem wpAny_headB {P : Program} {ops : Array Oper} {Q : Exit → Act → World → Prop} {n : Nat} {p : Nat → Value → World → Prop} {fr : Nat → Bool} {a0 : Act} {w0 : World} (hn : n < ops.size)
    (hs : Region.sinkB .any ops n = true) (hc : Region.chainB .any ops n = true) (hb : backB ops n = true) (hd : dstB ops n a0.tmps.size = true)
    (hst : ∀ i v w w', p i v w → Bel w.heap.size w w' → p i v w')
    (hfr : ∀ i v w, fr i = true → p i v w → ∃ b, v = .pointer (some ⟨b, 0, none⟩) ∧ b < w.heap.size)
    (hop : ∀ i o d, i < n → ops[i]? = some o → o.dst = some d → ∀ a w, Bel w0.heap.size w0 w → (∀ t, (∀ j oj, j < n → ops[j]? = some oj → oj.dst ≠ some t) → a.tmps.getD t undef = a0.tmps.getD t undef) →
      (∀ j oj dj, j < n → ops[j]? = some oj → oj.dst = some dj → Region.waitsFor .any ops i j = true → p j (a.tmps.getD dj undef) w) →
      o.wp P a w (fun a' w' => ∃ v, a' = a.put (some d) v ∧ p i v w' ∧ Bel w.heap.size w w' ∧ (fr i = true → v = .pointer (some ⟨w.heap.size, 0, none⟩))) Q)
    (hend : ∀ listed a w, HeadInv .any ops n listed → (∀ i, i < n → listed.getD i false = true) → Jinv ops n p a0 w0 listed a w → Apart ops n fr listed a → wpAny P .any ops Q (ops.size - n) listed a w) :
    ∀ (m : Nat) (listed : Array Bool) (a : Act) (w : World), cntTo listed n = m → HeadInv .any ops n listed → Jinv ops n p a0 w0 listed a w → Apart ops n fr listed a → wpAny P .any ops Q (m + (ops.size - n)) listed a w
  | 0, listed, a, w, hm, hi, hj, hap => by
    rw [Nat.zero_add]
    exact hend listed a w hi (cntTo_zero n hm) hj hap
  | m + 1, listed, a, w, hm, hi, hj, hap => by
    obtain ⟨i0, hi0, hu0, hbef⟩ := cntTo_first n (by omega : 0 < cntTo listed n)
    have hsz := hi.size
    have hu0' : listed.getD i0 true = false := Go.getD_in (by rw [hsz]; omega) hu0
    rw [show m + 1 + (ops.size - n) = (m + (ops.size - n)) + 1 by omega]
    refine ⟨fun h0 => ?_, fun i hr => ?_⟩
    · exfalso
      have hmem : i0 ∈ Region.ready .any ops listed := by
        obtain ⟨o, d, ho, _⟩ := dstB_spec hd hi0
        refine mem_ready.2 ⟨hu0', o, ho, fun e he hbd => ?_⟩
        have h1 := List.all_eq_true.1 hb i0 (List.mem_range.2 hi0)
        rw [ho] at h1
        have h2 := (Array.all_eq_true_iff_forall_mem.1 h1) e he
        simp only [hbd, Bool.not_true, Bool.false_or, decide_eq_true_eq] at h2
        exact hbef e.on h2
      rw [h0] at hmem
      cases hmem
    · have hin : i < n := by
        rcases Nat.lt_or_ge i n with h | h
        · exact h
        · exact absurd hr (tail_waits hs hc hn hi _ i0 rfl hi0 hu0' i h)
      obtain ⟨hun, o', ho', hall⟩ := mem_ready.1 hr
      obtain ⟨o, d, ho, hod, hds, hgd, hdis⟩ := dstB_spec hd hin
      obtain rfl : o' = o := Option.some.inj (ho'.symm.trans ho)
      have huf := getD_both hun
      have his : i < listed.size := by rw [hsz]; omega
      unfold wpOp
      rw [ho]
      show if Region.wanted o' (yielded ops a.tmps) = true then _ else _
      have hw : Region.wanted o' (yielded ops a.tmps) = true := by unfold Region.wanted; rw [hgd]
      rw [if_pos hw]
      left
      refine Oper.wp_mono ?_ (hop i o' d hin ho hod a w hj.bel hj.keep (fun j oj dj hjn hoj hdj hwt => ?_))
      · rintro a' w' ⟨v, rfl, hp, hbl, hnew⟩
        have hcnt := cntTo_set his huf n
        rw [if_pos hin] at hcnt
        have hne : ∀ j oj dj, j < n → ops[j]? = some oj → oj.dst = some dj → j ≠ i → d ≠ dj := fun j oj dj hjn hoj hdj e e2 => hdis j oj hjn hoj e (by rw [hdj, e2])
        have hold : ∀ j oj dj, j < n → ops[j]? = some oj → oj.dst = some dj → j ≠ i → fr j = true → listed.getD j false = true → ∃ b, a.tmps.getD dj undef = .pointer (some ⟨b, 0, none⟩) ∧ b < w.heap.size := fun j oj dj hjn hoj hdj _ hf hl => hfr j _ w hf (hj.post j oj dj hjn hoj hl hdj)
        refine wpAny_headB hn hs hc hb hd hst hfr hop hend m _ _ _ (by omega) (hi.set hr hin) ⟨hj.bel.trans (hbl.mono hj.bel.size), by rw [← hj.defers]; rfl, by rw [← hj.size]; simp [Act.put], fun t ht => ?_, fun j oj dj hjn hoj hl hdj => ?_⟩ ?_
        · rw [tmps_put_ne (fun e => ht i o' hin ho (by rw [hod, e]))]
          exact hj.keep t ht
        · by_cases e : j = i
          · subst e
            obtain rfl : oj = o' := Option.some.inj (hoj.symm.trans ho)
            obtain rfl : dj = d := Option.some.inj (hdj.symm.trans hod)
            rw [tmps_put_eq (by rw [hj.size]; exact hds)]
            exact hp
          · rw [tmps_put_ne (hne j oj dj hjn hoj hdj e)]
            rw [getDs_ne false (Ne.symm e)] at hl
            exact hst _ _ _ _ (hj.post j oj dj hjn hoj hl hdj) hbl
        · intro x y ox oy dx dy hx hy hxy hox hoy hdx hdy fx fy lx ly
          by_cases ex : x = i
          · subst ex
            obtain rfl : ox = o' := Option.some.inj (hox.symm.trans ho)
            obtain rfl : dx = d := Option.some.inj (hdx.symm.trans hod)
            rw [getDs_ne false hxy] at ly
            obtain ⟨b, hb1, hb2⟩ := hold y oy dy hy hoy hdy (Ne.symm hxy) fy ly
            rw [tmps_put_eq (by rw [hj.size]; exact hds), tmps_put_ne (hne y oy dy hy hoy hdy (Ne.symm hxy)), hb1, hnew fx]
            intro e
            injection e with e
            injection e with e
            injection e with e
            omega
          · rw [getDs_ne false (Ne.symm ex)] at lx
            by_cases ey : y = i
            · subst ey
              obtain rfl : oy = o' := Option.some.inj (hoy.symm.trans ho)
              obtain rfl : dy = d := Option.some.inj (hdy.symm.trans hod)
              obtain ⟨b, hb1, hb2⟩ := hold x ox dx hx hox hdx ex fx lx
              rw [tmps_put_eq (by rw [hj.size]; exact hds), tmps_put_ne (hne x ox dx hx hox hdx ex), hb1, hnew fy]
              intro e
              injection e with e
              injection e with e
              injection e with e
              omega
            · rw [getDs_ne false (Ne.symm ey)] at ly
              rw [tmps_put_ne (hne x ox dx hx hox hdx ex), tmps_put_ne (hne y oy dy hy hoy hdy ey)]
              exact hap x y ox oy dx dy hx hy hxy hox hoy hdx hdy fx fy lx ly
      · obtain ⟨oi, hoi, e, he, hbd, hon⟩ := Region.waitsFor_spec hwt
        obtain rfl : oi = o' := Option.some.inj (hoi.symm.trans ho)
        have hl := hall e he hbd
        rw [hon] at hl
        exact hj.post j oj dj hjn hoj hl hdj

theorem wp_region_phaseB {P : Program} {id : Nat} {Q : Exit → Act → World → Prop} {a0 : Act} {w0 : World} {l : List Oper} (n : Nat) (p : Nat → Value → World → Prop) (fr : Nat → Bool) (hm : P.follows .mixedOrders = true)
    (hB : (decide (n < l.toArray.size) && Region.sinkB .any l.toArray n && Region.chainB .any l.toArray n && backB l.toArray n && dstB l.toArray n a0.tmps.size && Region.seqB .any l.toArray (l.toArray.size - n) n (headL n l.toArray.size)) = true)
    (hst : ∀ i v w w', p i v w → Bel w.heap.size w w' → p i v w')
    (hfr : ∀ i v w, fr i = true → p i v w → ∃ b, v = .pointer (some ⟨b, 0, none⟩) ∧ b < w.heap.size)
    (hop : ∀ i o d, i < n → l.toArray[i]? = some o → o.dst = some d → ∀ a w, Bel w0.drew.heap.size w0.drew w → (∀ t, (∀ j oj, j < n → l.toArray[j]? = some oj → oj.dst ≠ some t) → a.tmps.getD t undef = a0.tmps.getD t undef) →
      (∀ j oj dj, j < n → l.toArray[j]? = some oj → oj.dst = some dj → Region.waitsFor .any l.toArray i j = true → p j (a.tmps.getD dj undef) w) →
      o.wp P a w (fun a' w' => ∃ v, a' = a.put (some d) v ∧ p i v w' ∧ Bel w.heap.size w w' ∧ (fr i = true → v = .pointer (some ⟨w.heap.size, 0, none⟩))) Q)
    (htail : ∀ a w, Jinv l.toArray n p a0 w0.drew (headL n l.toArray.size) a w → Apart l.toArray n fr (headL n l.toArray.size) a → wpList P l.toArray Q (l.drop n) a w) : (Code.region id l.toArray true).wp P Q a0 w0 := by
  simp only [Bool.and_eq_true, decide_eq_true_eq] at hB
  obtain ⟨⟨⟨⟨⟨hn, hs⟩, hc⟩, hb⟩, hd⟩, hseq⟩ := hB
  have inv0 : HeadInv .any l.toArray n (Array.replicate l.toArray.size false) :=
    ⟨by simp, fun j oj _ hl => (by rw [getD_replicate_false] at hl; cases hl), fun t _ ht => Go.getD_in (by simpa using ht) (getD_replicate_false _ _)⟩
  have j0 : Jinv l.toArray n p a0 w0.drew (Array.replicate l.toArray.size false) a0 w0.drew :=
    ⟨Bel.refl _ _, rfl, rfl, fun _ _ => rfl, fun i o d _ _ hl _ => by rw [getD_replicate_false] at hl; cases hl⟩
  have ap0 : Apart l.toArray n fr (Array.replicate l.toArray.size false) a0 := fun i j oi oj di dj _ _ _ _ _ _ _ _ _ hl _ => by rw [getD_replicate_false] at hl; cases hl
  have H := wpAny_headB hn hs hc hb hd hst hfr hop (fun listed a w hi hall hj hap => by
    have e := headL_of hi.size (Nat.le_of_lt hn) hall hi.tail
    subst e
    have hdl : (l.drop n).length = l.toArray.size - n := by simp
    have := wpAny_of_seq (md := .any) (Q' := Q) (l.drop n) n (headL n l.toArray.size) a w (fun j => by simp [List.getElem?_drop]) (by rw [hdl]; exact hseq) (htail a w hj hap)
    rwa [hdl] at this) n (Array.replicate l.toArray.size false) a0 w0.drew (cntTo_replicate _ _) inv0 j0 ap0
  refine wp_region_any hm ?_
  rw [show n + (l.toArray.size - n) = l.toArray.size by omega] at H
  exact H

/-- What a plain operation of the head says, said so. -/
theorem opB {P : Program} {o : Oper} {a : Act} {w : World} {Q : Exit → Act → World → Prop} {d : Nat} {R : Value → World → Prop} {c : Prop} (hc : ¬ c) (h : o.wp P a w (fun a' w' => ∃ v, a' = a.put (some d) v ∧ R v w' ∧ Bel w.heap.size w w') Q) :
    o.wp P a w (fun a' w' => ∃ v, a' = a.put (some d) v ∧ R v w' ∧ Bel w.heap.size w w' ∧ (c → v = .pointer (some ⟨w.heap.size, 0, none⟩))) Q :=
  Oper.wp_mono (fun _ _ ⟨v, h1, h2, h3⟩ => ⟨v, h1, h2, h3, fun h => absurd h hc⟩) h
theorem opB_alloc {P : Program} {o : Oper} {a : Act} {w : World} {Q : Exit → Act → World → Prop} {d : Nat} {R : Value → World → Prop} {t : TypeId} {zs : Array Value} {c : Prop}
    (hd : o.dst = some d) (ho : o.op = .alloc t) (ha : (Instr.alloc t true (.tuple #[])).run P w = .ok (.pointer (some ⟨w.heap.size, 0, none⟩)) (w.alloc (.cells zs t)))
    (hR : R (.pointer (some ⟨w.heap.size, 0, none⟩)) (w.alloc (.cells zs t))) : o.wp P a w (fun a' w' => ∃ v, a' = a.put (some d) v ∧ R v w' ∧ Bel w.heap.size w w' ∧ (c → v = .pointer (some ⟨w.heap.size, 0, none⟩))) Q := by
  unfold Oper.wp
  have e : (execOp a.eval o).run P w = .ok (.value (.pointer (some ⟨w.heap.size, 0, none⟩))) (w.alloc (.cells zs t)) := by
    simp [execOp, ho, ha]
  rw [e]
  exact ⟨_, by rw [hd], hR, (Bel.refl _ _).alloc (Nat.le_refl _) _, fun _ => rfl⟩
/-- A field's place. -/
theorem op_field {P : Program} {o : Oper} {a : Act} {w : World} {Q : Exit → Act → World → Prop} {d : Nat} {R : Value → World → Prop} {t : TypeId} {x : Operand} {f g off : Nat}
    (hd : o.dst = some d) (ho : o.op = .fieldAddr t x f) (hx : a.eval x = .pointer (some ⟨g, 0, none⟩)) (hf : (Instr.fieldAt t (.pointer (some ⟨g, 0, none⟩)) f).run P w = .ok (.pointer (some ⟨g, off, none⟩)) w)
    (hR : R (.pointer (some ⟨g, off, none⟩)) w) : o.wp P a w (fun a' w' => ∃ v, a' = a.put (some d) v ∧ R v w' ∧ Bel w.heap.size w w') Q := by
  refine op_value hd ?_ hR
  simp [execOp, ho, hx, hf]
end Go.Proofs.YtgjdogkciklgkaaDoor
namespace Go.Proofs.YtgjdogkciklgkaaDoor
open Go.RowKit

def V5 (v : Value) (m : Nat) : Prop := ∃ f, v = .agg (rowK .u64 (tab 5 f)) ∧ Is51 f m
def sec5 (p : Nat → Nat) : Nat → Nat := fun i => p (5 + i)
def V10 (v : Value) (x z : Nat) : Prop := ∃ p, v = .agg (rowK .u64 (tab 10 p)) ∧ Is51 p x ∧ Is51 (sec5 p) z
theorem timesV5 {a b : Value} {x y : Nat} (ha : V5 a x) (hb : V5 b y) (w : World) : Calls Tryd.prog 60 #[a, b] w fun e w' => ∃ v, e = .returned v ∧ V5 v (mulM x y) ∧ Bel w.heap.size w w' := by
  obtain ⟨f, rfl, hf⟩ := ha
  obtain ⟨g, rfl, hg⟩ := hb
  exact (timesI5 hf hg w).mono fun _ _ ⟨h, he, hi, hb⟩ => ⟨_, he, ⟨h, rfl, hi⟩, hb⟩
theorem plusV5 {a b : Value} {x y : Nat} (ha : V5 a x) (hb : V5 b y) (w : World) : Calls Tryd.prog 83 #[a, b] w fun e w' => ∃ v, e = .returned v ∧ V5 v (addM x y) ∧ Bel w.heap.size w w' := by
  obtain ⟨f, rfl, hf⟩ := ha
  obtain ⟨g, rfl, hg⟩ := hb
  exact (plusI5 hf hg w).mono fun _ _ ⟨h, he, hi, hb⟩ => ⟨_, he, ⟨h, rfl, hi⟩, hb⟩
theorem minusV5 {a b : Value} {x y : Nat} (ha : V5 a x) (hb : V5 b y) (w : World) : Calls Tryd.prog 84 #[a, b] w fun e w' => ∃ v, e = .returned v ∧ V5 v (subM x y) ∧ Bel w.heap.size w w' := by
  obtain ⟨f, rfl, hf⟩ := ha
  obtain ⟨g, rfl, hg⟩ := hb
  exact (minusI5 hf hg w).mono fun _ _ ⟨h, he, hi, hb⟩ => ⟨_, he, ⟨h, rfl, hi⟩, hb⟩
theorem inverseV5 {a : Value} {x : Nat} (ha : V5 a x) (w : World) : Calls Tryd.prog 61 #[a] w fun e w' => ∃ v, e = .returned v ∧ V5 v (ivTo x 255) ∧ Bel w.heap.size w w' := by
  obtain ⟨f, rfl, hf⟩ := ha
  exact (inverseP f x hf w).mono fun _ _ ⟨h, he, hi, hb⟩ => ⟨_, he, ⟨h, rfl, hi⟩, hb⟩
theorem enterTimes5 (xs : Array Value) (w : World) : (callFunc 60 xs).run Tryd.prog w = .ok (.enter 60 xs) w := by kernel_rfl
theorem enterPlus5 (xs : Array Value) (w : World) : (callFunc 83 xs).run Tryd.prog w = .ok (.enter 83 xs) w := by kernel_rfl
theorem enterMinus5 (xs : Array Value) (w : World) : (callFunc 84 xs).run Tryd.prog w = .ok (.enter 84 xs) w := by kernel_rfl
theorem enterInverse5 (xs : Array Value) (w : World) : (callFunc 61 xs).run Tryd.prog w = .ok (.enter 61 xs) w := by kernel_rfl
theorem alloc5 (w : World) : (Instr.alloc 88 true (.tuple #[])).run Tryd.prog w = .ok (.pointer (some ⟨w.heap.size, 0, none⟩)) (w.alloc (.cells (rowK .u64 (tab 5 zer17)) 88)) := by kernel_rfl
theorem alloc10 (w : World) : (Instr.alloc 92 true (.tuple #[])).run Tryd.prog w = .ok (.pointer (some ⟨w.heap.size, 0, none⟩)) (w.alloc (.cells (rowK .u64 (tab 10 zer17)) 92)) := by kernel_rfl
theorem field0 (g : Nat) (w : World) : (Instr.fieldAt 92 (.pointer (some ⟨g, 0, none⟩)) 0).run Tryd.prog w = .ok (.pointer (some ⟨g, 0, none⟩)) w := by kernel_rfl
theorem field1 (g : Nat) (w : World) : (Instr.fieldAt 92 (.pointer (some ⟨g, 0, none⟩)) 1).run Tryd.prog w = .ok (.pointer (some ⟨g, 5, none⟩)) w := by kernel_rfl
def one5 (c : Nat) : Nat → Nat := fun i => if i = 0 then c else 0
theorem one5_is {c : Nat} (h : c < 2251799813685248) (hp : c < PR) : Is51 (one5 c) c := by
  refine ⟨⟨?_, fun i hi _ => ?_⟩, ?_⟩
  · show c < _
    omega
  · unfold one5
    rw [if_neg (by omega)]
    decide
  · have e : V51 (one5 c) = c := by simp [V51, sumB, one5]
    rw [e]
    exact Nat.mod_eq_of_lt hp
theorem build5 (w : World) : (Instr.build 88 #[(0, .int .u64 121665)]).run Tryd.prog w = .ok (.agg (rowK .u64 (tab 5 (one5 121665)))) w := run_build w _ _ _ (by kernel_rfl)
def pt10 (a b : Nat → Nat) : Nat → Nat := fun i => if i < 5 then a i else b (i - 5)
theorem Is51.congr {f g : Nat → Nat} {m : Nat} (h : Is51 f m) (e : ∀ i, i < 5 → g i = f i) : Is51 g m := by
  refine ⟨⟨by rw [e 0 (by decide)]; exact h.1.1, fun i h0 hi => by rw [e i hi]; exact h.1.2 i h0 hi⟩, ?_⟩
  rw [← h.2]
  simp [V51, sumB, e]
theorem pt10_fst {a b : Nat → Nat} {m : Nat} (h : Is51 a m) : Is51 (pt10 a b) m := h.congr fun _ hi => if_pos hi
theorem pt10_snd {a b : Nat → Nat} {m : Nat} (h : Is51 b m) : Is51 (sec5 (pt10 a b)) m := h.congr fun i hi => by
  show (if 5 + i < 5 then a (5 + i) else b (5 + i - 5)) = b i
  rw [if_neg (by omega), Nat.add_sub_cancel_left]
theorem build10 (a b : Nat → Nat) (w : World) : (Instr.build 92 #[(0, .agg (rowK .u64 (tab 5 a))), (1, .agg (rowK .u64 (tab 5 b)))]).run Tryd.prog w = .ok (.agg (rowK .u64 (tab 10 (pt10 a b)))) w :=
  run_build w _ _ _ (by kernel_rfl)
theorem wpList_build10 {w : World} {ops : Array Oper} {rest : List Oper} {o : Oper} {a : Act} {Q : Exit → Act → World → Prop} {x y : Operand} (hgd : o.guard = none) (ho : o.op = .build 92 #[(0, x), (1, y)]) (f1 f2 : Nat → Nat)
    (hx : a.eval x = .agg (rowK .u64 (tab 5 f1))) (hy : a.eval y = .agg (rowK .u64 (tab 5 f2)))
    (h : wpList Tryd.prog ops Q rest (a.put o.dst (.agg (rowK .u64 (tab 10 (pt10 f1 f2))))) w) : wpList Tryd.prog ops Q (o :: rest) a w := by
  refine wpList_plain hgd fun K hK => ?_
  have e : (execOp a.eval o).run Tryd.prog w = .ok (.value (.agg (rowK .u64 (tab 10 (pt10 f1 f2))))) w := by
    simp [execOp, ho, hx, hy, build10]
  unfold Oper.wp
  rw [e]
  exact hK _ _ h
theorem f100 (p : Nat → Nat) : ((tab 10 p).drop 0).take (tab 5 p).length = tab 5 p := by rw [tab_length]; rfl
theorem f101 (p : Nat → Nat) : ((tab 10 p).drop 5).take (tab 5 (sec5 p)).length = tab 5 (sec5 p) := by rw [tab_length]; rfl
theorem ret10 {fn : Func} {p : Tmp} (h : fn.results = #[.cell p 92]) (tmps : Array Value) (w : World) (b : Nat) (g : Nat → Nat) (hp : tmps.getD p undef = .pointer (some ⟨b, 0, none⟩)) (hB : Blk w b 92 .u64 (tab 10 g)) :
    (results fn tmps).run Tryd.prog w = .ok (.agg (rowK .u64 (tab 10 g))) w :=
  results_cell_row (P := Tryd.prog) h tmps w b 92 (rowK .u64 (tab 10 g)) (0, 0) _ hp hB Tryd.underlying92 rfl (by rw [rowK_size]; exact info10 g)

/-- What an operation leaves. -/
inductive Ex where
  | ptr (g off : Nat)
  | val (m : Nat)
  | pnt (x z : Nat)
  | new (B0 : Nat)
  | eq (u : Value)
  | any
def Ex.holds : Ex → Value → World → Prop
  | .ptr g off, v, _ => v = .pointer (some ⟨g, off, none⟩)
  | .val m, v, _ => V5 v m
  | .pnt x z, v, _ => V10 v x z
  | .new B0, v, w => ∃ b, v = .pointer (some ⟨b, 0, none⟩) ∧ B0 ≤ b ∧ Blk w b 88 .u64 (tab 5 zer17)
  | .eq u, v, _ => v = u
  | .any, _, _ => True
def Ex.isNew : Ex → Bool
  | .new _ => true
  | _ => false
def PL (l : List Ex) (i : Nat) (v : Value) (w : World) : Prop := (l.getD i .any).holds v w
def frL (l : List Ex) (i : Nat) : Bool := (l.getD i .any).isNew
theorem PL_stable (l : List Ex) (i : Nat) (v : Value) (w w' : World) (h : PL l i v w) (hb : Bel w.heap.size w w') : PL l i v w' := by
  unfold PL at h ⊢
  cases hx : l.getD i .any with
  | ptr g off => rw [hx] at h; exact h
  | val m => rw [hx] at h; exact h
  | pnt x z => rw [hx] at h; exact h
  | eq u => rw [hx] at h; exact h
  | new B0 =>
    rw [hx] at h
    obtain ⟨b, h1, h2, h3⟩ := h
    exact ⟨b, h1, h2, h3.below hb h3.lt⟩
  | any => exact trivial
theorem PL_fr (l : List Ex) (i : Nat) (v : Value) (w : World) (hf : frL l i = true) (h : PL l i v w) : ∃ b, v = .pointer (some ⟨b, 0, none⟩) ∧ b < w.heap.size := by
  unfold PL at h
  unfold frL at hf
  cases hx : l.getD i .any with
  | new B0 =>
    rw [hx] at h
    obtain ⟨b, h1, _, h3⟩ := h
    exact ⟨b, h1, h3.lt⟩
  | ptr g off => rw [hx] at hf; cases hf
  | val m => rw [hx] at hf; cases hf
  | pnt x z => rw [hx] at hf; cases hf
  | eq u => rw [hx] at hf; cases hf
  | any => rw [hx] at hf; cases hf
end Go.Proofs.YtgjdogkciklgkaaDoor
