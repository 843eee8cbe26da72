/-
  The program's Shared, in package sums.
-/
import Derived.Test.YtgjdogkciklgkaaDoorDa
namespace Go.Proofs.YtgjdogkciklgkaaDoor
open Go.RowKit

theorem act_eq {a0 a : Act} (ds : List Nat) (hsz : ∀ d, d ∈ ds → d < a0.tmps.size) (hk : ∀ t, t ∉ ds → a.tmps.getD t undef = a0.tmps.getD t undef) (hs : a.tmps.size = a0.tmps.size) (hdf : a.defers = a0.defers) : a = putL a0 (ds.map fun d => (d, a.tmps.getD d undef)) := by
  have key : a.tmps = (putL a0 (ds.map fun d => (d, a.tmps.getD d undef))).tmps := by
    have hpt : ∀ t, a.tmps.getD t undef = (putL a0 (ds.map fun d => (d, a.tmps.getD d undef))).tmps.getD t undef := fun t => by
      by_cases ht : t ∈ ds
      · rw [putL_in (fun d => a.tmps.getD d undef) ds a0 t ht (hsz t ht)]
      · rw [putL_out _ _ t (fun x hx => by
          obtain ⟨y, hy, rfl⟩ := List.mem_map.1 hx
          intro e; exact ht (e ▸ hy))]
        exact hk t ht
    apply Array.ext
    · rw [putL_size, hs]
    · intro i h1 h2
      rw [← getD_at h1, ← getD_at h2]
      exact hpt i
  generalize hb : putL a0 (ds.map fun d => (d, a.tmps.getD d undef)) = b at key ⊢
  have hbd : b.defers = a0.defers := by rw [← hb, putL_defers]
  cases a
  cases b
  simp only at key hdf hbd ⊢
  rw [key, hdf, hbd]
theorem op_call3 {P : Program} {o : Oper} {a : Act} {w : World} {Q : Exit → Act → World → Prop} {d : Nat} {R : Value → World → Prop} {F : FuncId} {c : Call} {x y z : Operand} {va vb vc : Value}
    (hd : o.dst = some d) (ho : o.op = .call c) (hc : c.callee = .value (.func F)) (hcf : ∀ xs w, (callFunc F xs).run P w = .ok (.enter F xs) w) (hargs : c.args = #[x, y, z]) (hx : a.eval x = va) (hy : a.eval y = vb) (hz : a.eval z = vc)
    (h : Calls P F #[va, vb, vc] w fun e w' => ∃ v, e = .returned v ∧ R v w' ∧ Bel w.heap.size w w') : o.wp P a w (fun a' w' => ∃ v, a' = a.put (some d) v ∧ R v w' ∧ Bel w.heap.size w w') Q :=
  op_call hd ho hc hcf #[va, vb, vc] (by rw [hargs]; simp [hx, hy, hz]) h
theorem doubledV {a : Value} {x z : Nat} (ha : V10 a x z) (w : World) : Calls Tryd.prog 58 #[a] w fun e w' => ∃ v, e = .returned v ∧ V10 v (rX2 x z) (rZ2 x z) ∧ Bel w.heap.size w w' := by
  obtain ⟨p, rfl, h1, h2⟩ := ha
  exact doubledP h1 h2 w
theorem addedV {a b c : Value} {x2 z2 x3 z3 x : Nat} (ha : V10 a x2 z2) (hb : V10 b x3 z3) (hc : V5 c x) (w : World) : Calls Tryd.prog 59 #[a, b, c] w fun e w' => ∃ v, e = .returned v ∧ V10 v (rX3 x2 z2 x3 z3) (rZ3 x2 z2 x3 z3 x) ∧ Bel w.heap.size w w' := by
  obtain ⟨p, rfl, h1, h2⟩ := ha
  obtain ⟨q, rfl, h3, h4⟩ := hb
  obtain ⟨f, rfl, h5⟩ := hc
  exact addedP h1 h2 h3 h4 h5 w
theorem bytesV {a : Value} {m : Nat} (ha : V5 a m) (w : World) : Calls Tryd.prog 62 #[a] w fun e w' => ∃ v, e = .returned v ∧ v = .string (str (outB m)) ∧ Bel w.heap.size w w' := by
  obtain ⟨f, rfl, h⟩ := ha
  obtain ⟨h1, rfl⟩ := h
  exact (bytesP f h1 w).mono fun _ _ ⟨he, hb⟩ => ⟨_, he, rfl, hb⟩
theorem enterDoubled (xs : Array Value) (w : World) : (callFunc 58 xs).run Tryd.prog w = .ok (.enter 58 xs) w := by kernel_rfl
theorem enterAdded (xs : Array Value) (w : World) : (callFunc 59 xs).run Tryd.prog w = .ok (.enter 59 xs) w := by kernel_rfl
theorem enterBytes (xs : Array Value) (w : World) : (callFunc 62 xs).run Tryd.prog w = .ok (.enter 62 xs) w := by kernel_rfl
theorem build5one (w : World) : (Instr.build 88 #[(0, .int .u64 1)]).run Tryd.prog w = .ok (.agg (rowK .u64 (tab 5 (one5 1)))) w := run_build w _ _ _ (by kernel_rfl)
theorem build5zero (w : World) : (Instr.build 88 #[]).run Tryd.prog w = .ok (.agg (rowK .u64 (tab 5 (one5 0)))) w := run_build w _ _ _ (by kernel_rfl)
theorem ok64 {f : Nat → Nat} {m : Nat} (h : Is51 f m) (i : Nat) (hi : i < 5) : f i < 18446744073709551616 := by
  by_cases e : i = 0
  · subst e; have := h.1.1; omega
  · have := h.1.2 i (by omega) hi; omega
theorem ok64_10 {p : Nat → Nat} {x z : Nat} (h1 : Is51 p x) (h2 : Is51 (sec5 p) z) (i : Nat) (hi : i < 10) : p i < 18446744073709551616 := by
  by_cases e : i < 5
  · exact ok64 h1 i e
  · have := ok64 h2 (i - 5) (by omega)
    unfold sec5 at this
    rwa [show 5 + (i - 5) = i by omega] at this
theorem wp_val {P : Program} {o : Oper} {a : Act} {w : World} {K : Act → World → Prop} {Q : Exit → Act → World → Prop} {v : Value} (h : (execOp a.eval o).run P w = .ok (.value v) w) (hK : K (a.put o.dst v) w) : o.wp P a w K Q := by
  unfold Oper.wp
  rw [h]
  exact hK
theorem wp_build10 {o : Oper} {a : Act} {w : World} {K : Act → World → Prop} {Q : Exit → Act → World → Prop} {x y : Operand} (ho : o.op = .build 92 #[(0, x), (1, y)]) (f1 f2 : Nat → Nat)
    (hx : a.eval x = .agg (rowK .u64 (tab 5 f1))) (hy : a.eval y = .agg (rowK .u64 (tab 5 f2))) (hK : K (a.put o.dst (.agg (rowK .u64 (tab 10 (pt10 f1 f2))))) w) : o.wp Tryd.prog a w K Q :=
  wp_val (by simp [execOp, ho, hx, hy, build10]) hK
theorem wp_allocT {P : Program} {o : Oper} {a : Act} {w : World} {K : Act → World → Prop} {Q : Exit → Act → World → Prop} {t : TypeId} {zs : Array Value}
    (ho : o.op = .alloc t) (ha : (Instr.alloc t true (.tuple #[])).run P w = .ok (.pointer (some ⟨w.heap.size, 0, none⟩)) (w.alloc (.cells zs t)))
    (hK : K (a.put o.dst (.pointer (some ⟨w.heap.size, 0, none⟩))) (w.alloc (.cells zs t))) : o.wp P a w K Q := by
  unfold Oper.wp
  have e : (execOp a.eval o).run P w = .ok (.value (.pointer (some ⟨w.heap.size, 0, none⟩))) (w.alloc (.cells zs t)) := by
    simp [execOp, ho, ha]
  rw [e]
  exact hK
theorem wp_region_inv0 {P : Program} {id : Nat} {Q : Exit → Act → World → Prop} {a0 : Act} {w0 : World} {l : List Oper} (J : Act → (Nat → Bool) → Act → World → Prop) (hm : P.follows .mixedOrders = true)
    (hB : (backB l.toArray l.toArray.size && l.toArray.all fun o => o.guard.isNone) = true)
    (h0 : J a0 (fun _ => false) a0 w0.drew)
    (hstep : ∀ (f : Nat → Bool) (a : Act) (w : World) (i : Nat) (o : Oper), J a0 f a w → l.toArray[i]? = some o → f i = false → (∀ e ∈ o.after, Region.binds .any e = true → f e.on = true) → o.wp P a w (fun a' w' => J a0 (fun j => if j = i then true else f j) a' w') Q)
    (hend : ∀ (f : Nat → Bool) (a : Act) (w : World), J a0 f a w → (∀ i, i < l.length → f i = true) → Q .normal a w) : (Code.region id l.toArray true).wp P Q a0 w0 :=
  wp_region_inv (J a0) hm hB h0 hstep hend
theorem ptr_ne {b c : Nat} (h : (Value.pointer (some ⟨b, 0, none⟩)) ≠ .pointer (some ⟨c, 0, none⟩)) : b ≠ c := fun e => h (by rw [e])
theorem ne_ptr {b c : Nat} (h : b ≠ c) : (Value.pointer (some ⟨b, 0, none⟩)) ≠ .pointer (some ⟨c, 0, none⟩) := by
  intro e
  injection e with e
  injection e with e
  injection e with e
  exact h e
theorem ne_put {a : Act} {d x y : Nat} {v : Value} (hx : x ≠ d) (hy : y ≠ d) (h : a.tmps.getD x undef ≠ a.tmps.getD y undef) : (a.put (some d) v).tmps.getD x undef ≠ (a.put (some d) v).tmps.getD y undef := by
  rw [getD_put_ne hx, getD_put_ne hy]; exact h
theorem ne_put_l {a : Act} {d y : Nat} {v u : Value} (hd : d < a.tmps.size) (hy : y ≠ d) (e : a.tmps.getD y undef = u) (h : v ≠ u) : (a.put (some d) v).tmps.getD d undef ≠ (a.put (some d) v).tmps.getD y undef := by
  rw [tmps_put_eq hd, getD_put_ne hy, e]; exact h
theorem ne_put_r {a : Act} {d y : Nat} {v u : Value} (hd : d < a.tmps.size) (hy : y ≠ d) (e : a.tmps.getD y undef = u) (h : u ≠ v) : (a.put (some d) v).tmps.getD y undef ≠ (a.put (some d) v).tmps.getD d undef := by
  rw [tmps_put_eq hd, getD_put_ne hy, e]; exact h
/-- The lower and the upper point, turned round where c is 1. -/
def lowX (c : Nat) (l : Nat × Nat × Nat × Nat) : Nat := if c = 1 then l.2.2.1 else l.1
def lowZ (c : Nat) (l : Nat × Nat × Nat × Nat) : Nat := if c = 1 then l.2.2.2 else l.2.1
def higX (c : Nat) (l : Nat × Nat × Nat × Nat) : Nat := if c = 1 then l.1 else l.2.2.1
def higZ (c : Nat) (l : Nat × Nat × Nat × Nat) : Nat := if c = 1 then l.2.1 else l.2.2.2
def crs (bit : Nat → Nat) (k : Nat) : Nat := if k = 0 then 0 else bit (255 - k)
theorem swp_is {p q : Nat → Nat} {x y d : Nat} (hp : Is51 p x) (hq : Is51 q y) : Is51 (swp d p q) (if d = 1 then y else x) := by
  by_cases e : d = 1
  · rw [if_pos e]; exact hq.congr fun i _ => if_pos e
  · rw [if_neg e]; exact hp.congr fun i _ => if_neg e
theorem xor2 {c b : Nat} (hc : c < 2) (hb : b < 2) : c ^^^ b < 2 := by
  have h1 : c = 0 ∨ c = 1 := by omega
  have h2 : b = 0 ∨ b = 1 := by omega
  rcases h1 with rfl | rfl <;> rcases h2 with rfl | rfl <;> decide
theorem turn_low {c b : Nat} (hc : c < 2) (hb : b < 2) (u v : Nat) : (if c ^^^ b = 1 then (if c = 1 then u else v) else (if c = 1 then v else u)) = if b = 1 then v else u := by
  have h1 : c = 0 ∨ c = 1 := by omega
  have h2 : b = 0 ∨ b = 1 := by omega
  rcases h1 with rfl | rfl <;> rcases h2 with rfl | rfl <;> rfl
theorem step_lowX (b x : Nat) (l : Nat × Nat × Nat × Nat) : lowX b (stepL b x l) = rX2 (lowX b l) (lowZ b l) := by
  unfold lowX lowZ stepL; by_cases h : b = 1 <;> simp [h]
theorem step_lowZ (b x : Nat) (l : Nat × Nat × Nat × Nat) : lowZ b (stepL b x l) = rZ2 (lowX b l) (lowZ b l) := by
  unfold lowX lowZ stepL; by_cases h : b = 1 <;> simp [h]
theorem step_higX (b x : Nat) (l : Nat × Nat × Nat × Nat) : higX b (stepL b x l) = rX3 (lowX b l) (lowZ b l) (higX b l) (higZ b l) := by
  unfold lowX lowZ higX higZ stepL; by_cases h : b = 1 <;> simp [h]
theorem step_higZ (b x : Nat) (l : Nat × Nat × Nat × Nat) : higZ b (stepL b x l) = rZ3 (lowX b l) (lowZ b l) (higX b l) (higZ b l) x := by
  unfold lowX lowZ higX higZ stepL; by_cases h : b = 1 <;> simp [h]
theorem crs_lt (s : List UInt8) (k : Nat) : crs (cbit s) k < 2 := by
  unfold crs
  split
  · decide
  · exact cbit_lt s _
theorem turn0 {c : Nat} (hc : c < 2) (u v : Nat) : (if c = 1 then (if c = 1 then u else v) else (if c = 1 then v else u)) = u := by
  have h1 : c = 0 ∨ c = 1 := by omega
  rcases h1 with rfl | rfl <;> rfl
theorem swp_low {c b : Nat} (hc : c < 2) (hb : b < 2) {p r : Nat → Nat} {L : Nat × Nat × Nat × Nat} (h1 : Is51 p (lowX c L)) (h2 : Is51 (sec5 p) (lowZ c L)) (h3 : Is51 r (higX c L)) (h4 : Is51 (sec5 r) (higZ c L)) :
    Is51 (swp (c ^^^ b) p r) (lowX b L) ∧ Is51 (sec5 (swp (c ^^^ b) p r)) (lowZ b L) ∧ Is51 (swp (c ^^^ b) r p) (higX b L) ∧ Is51 (sec5 (swp (c ^^^ b) r p)) (higZ b L) := by
  have a1 := swp_is (d := c ^^^ b) h1 h3
  have a2 : Is51 (sec5 (swp (c ^^^ b) p r)) _ := swp_is (d := c ^^^ b) h2 h4
  have a3 := swp_is (d := c ^^^ b) h3 h1
  have a4 : Is51 (sec5 (swp (c ^^^ b) r p)) _ := swp_is (d := c ^^^ b) h4 h2
  unfold lowX higX at a1
  unfold lowZ higZ at a2
  unfold lowX higX at a3
  unfold lowZ higZ at a4
  rw [turn_low hc hb] at a1 a2 a3 a4
  exact ⟨a1, a2, a3, a4⟩
theorem swp_end {c : Nat} (hc : c < 2) {p r : Nat → Nat} {L : Nat × Nat × Nat × Nat} (h1 : Is51 p (lowX c L)) (h2 : Is51 (sec5 p) (lowZ c L)) (h3 : Is51 r (higX c L)) (h4 : Is51 (sec5 r) (higZ c L)) :
    Is51 (swp c p r) L.1 ∧ Is51 (sec5 (swp c p r)) L.2.1 := by
  have a1 := swp_is (d := c) h1 h3
  have a2 : Is51 (sec5 (swp c p r)) _ := swp_is (d := c) h2 h4
  unfold lowX higX at a1
  unfold lowZ higZ at a2
  rw [turn0 hc] at a1 a2
  exact ⟨a1, a2⟩
theorem start0 (s : List UInt8) (x : Nat) : crs (cbit s) 0 = 0 ∧ lowX (crs (cbit s) 0) (ladTo (cbit s) x 0) = 1 ∧ lowZ (crs (cbit s) 0) (ladTo (cbit s) x 0) = 0 ∧ higX (crs (cbit s) 0) (ladTo (cbit s) x 0) = x ∧ higZ (crs (cbit s) 0) (ladTo (cbit s) x 0) = 1 := by
  have e : crs (cbit s) 0 = 0 := if_pos rfl
  rw [e]
  exact ⟨rfl, rfl, rfl, rfl, rfl⟩
theorem one5_1 : Is51 (one5 1) 1 := one5_is (by decide) (by decide)
theorem one5_0 : Is51 (one5 0) 0 := one5_is (by decide) (by decide)

set_option maxRecDepth 100000 in
set_option maxHeartbeats 4000000 in
theorem sharedP (s q : List UInt8) (hs : s.length = 32) (hq : q.length = 32) (w : World) :
    Calls Tryd.prog 30 #[.string (str s), .string (str q)] w fun e w' => e = .returned (.string (str (x25519 s q))) ∧ Bel w.heap.size w w' := by
  have HRES : Hid (x25519 s q = outB (mulM (ladTo (cbit s) (UV q % PR) 255).1 (ivTo (ladTo (cbit s) (UV q % PR) 255).2.1 255))) := rfl
  have Ix := hide (unp51_is q)
  have HF : Hid (Blk (w.alloc (.cells (rowK .u8 (tab 32 zer17)) 85)) w.heap.size 85 .u8 (tab 32 zer17)) := Blk.new w _ _ _
  have HB : Hid (Bel w.heap.size w (w.alloc (.cells (rowK .u8 (tab 32 zer17)) 85))) := (Bel.refl _ _).alloc (Nat.le_refl _) _
  have hnq := nums_length q
  rw [z32] at HF HB
  go_enter Tryd.func30, Tryd.ntmps30
  go_wp2_with (first | (refine wpList_copy32 rfl _ _ rfl _ _ q _ rfl rfl hq (tab_length 32 zer17) HF.out ?_; intro w1 bel ho hk; clear HF) | (refine wpList_ldB hk Tryd.underlying85 rfl (info32 _ (by rw [hnq, hq])) rfl _ rfl rfl ?_))
  replace HB := hide (HB.out.trans bel)
  clear bel ho hk
  refine (readP q hq _).mono ?_
  rintro e w2 ⟨rfl, bel⟩
  replace HB := hide (HB.out.trans (bel.mono HB.out.size))
  clear bel
  generalize UV q % PR = xm at *
  generalize unp51 q = fx at *
  go_wp2_with (first | fail | (refine wpList_stNew rfl _ _ rfl rfl rfl rfl rfl (info5 fx) (z5n _) ?_; intro w3 bel hx))
  replace HB := hide (HB.out.trans (bel.mono HB.out.size))
  have Hx := hide hx
  clear bel hx
  generalize w2.heap.size = bx at *
  refine (clampedP s hs _).mono ?_
  rintro e w4 ⟨rfl, bel⟩
  replace HB := hide (HB.out.trans (bel.mono HB.out.size))
  replace Hx := hide (Hx.out.below bel Hx.out.lt)
  clear bel
  have hfl : (facL s).length = 32 := by rw [facL_length, hs]
  go_wp2_with (first | fail | (refine wpList_stNew rfl _ _ rfl rfl rfl rfl rfl (info32 (facL s) hfl) (by rw [hfl]; rfl) ?_; intro w5 bel hf))
  replace HB := hide (HB.out.trans (bel.mono HB.out.size))
  replace Hx := hide (Hx.out.below bel Hx.out.lt)
  have HF := hide hf
  clear bel hf
  generalize w4.heap.size = bf at *
  refine wp_region_inv0 (fun a0 f a wx => Bel w5.heap.size w5 wx ∧ (f 0 = true → a.tmps.getD 20 undef = .agg (rowK .u64 (tab 5 (one5 1)))) ∧ (f 1 = true → a.tmps.getD 21 undef = .agg (rowK .u64 (tab 5 (one5 0)))) ∧ (f 2 = true → a.tmps.getD 22 undef = .agg (rowK .u64 (tab 10 (pt10 (one5 1) (one5 0))))) ∧ (f 3 = true → a.tmps.getD 23 undef = .agg (rowK .u64 (tab 5 fx))) ∧ (f 4 = true → a.tmps.getD 24 undef = .agg (rowK .u64 (tab 5 (one5 1)))) ∧ (f 5 = true → a.tmps.getD 25 undef = .agg (rowK .u64 (tab 10 (pt10 fx (one5 1))))) ∧ (f 6 = true → ∃ b l, a.tmps.getD 8 undef = .pointer (some ⟨b, 0, none⟩) ∧ w5.heap.size ≤ b ∧ l.length = 10 ∧ Blk wx b 92 .u64 l ∧ (f 8 = true → l = tab 10 (pt10 (one5 1) (one5 0)))) ∧ (f 7 = true → ∃ b l, a.tmps.getD 9 undef = .pointer (some ⟨b, 0, none⟩) ∧ w5.heap.size ≤ b ∧ l.length = 10 ∧ Blk wx b 92 .u64 l ∧ (f 9 = true → l = tab 10 (pt10 fx (one5 1)))) ∧ (f 6 = true → f 7 = true → a.tmps.getD 8 undef ≠ a.tmps.getD 9 undef) ∧ (f 8 = true → f 6 = true) ∧ (f 9 = true → f 7 = true) ∧ (∀ t, t ∉ ([20, 21, 22, 23, 24, 25, 8, 9] : List Nat) → a.tmps.getD t undef = a0.tmps.getD t undef) ∧ a.tmps.size = 69 ∧ a.defers = []) rfl (by kernel_rfl) ⟨(Bel.refl _ _).drew, (fun h => by cases h), (fun h => by cases h), (fun h => by cases h), (fun h => by cases h), (fun h => by cases h), (fun h => by cases h), (fun h => by cases h), (fun h => by cases h), (fun h => by cases h), (fun h => by cases h), (fun h => by cases h), fun _ _ => rfl, rfl, rfl⟩ ?opR ?endR
  case opR =>
    intro f a wx i o hJ ho hf hw
    obtain ⟨hB, h0, h1, h2, h3, h4, h5, h6, h7, hn, m8, m9, hk, hz, hdf⟩ := hJ
    match i, ho with
    | 0, ho =>
      obtain rfl := Option.some.inj ho
      refine wp_val (v := .agg (rowK .u64 (tab 5 (one5 1)))) (by simp [execOp, Act.eval, build5one]) ?_
      exact ⟨hB, fun _ => tmps_put_eq (by rw [hz]; decide), fun h => (getD_put_ne (by decide)).trans (h1 h), fun h => (getD_put_ne (by decide)).trans (h2 h), fun h => (getD_put_ne (by decide)).trans (h3 h), fun h => (getD_put_ne (by decide)).trans (h4 h), fun h => (getD_put_ne (by decide)).trans (h5 h), (fun h => by obtain ⟨b, l, e1, e2, e3, e4, e5⟩ := h6 h; exact ⟨b, l, (getD_put_ne (by decide)).trans e1, e2, e3, e4, e5⟩), (fun h => by obtain ⟨b, l, e1, e2, e3, e4, e5⟩ := h7 h; exact ⟨b, l, (getD_put_ne (by decide)).trans e1, e2, e3, e4, e5⟩), (fun x y => ne_put (by decide) (by decide) (hn x y)), m8, m9, fun t ht => (getD_put_ne (fun e => ht (by rw [e]; decide))).trans (hk t ht), by rw [← hz]; simp [Act.put], hdf⟩
    | 1, ho =>
      obtain rfl := Option.some.inj ho
      refine wp_val (v := .agg (rowK .u64 (tab 5 (one5 0)))) (by simp [execOp, build5zero]) ?_
      exact ⟨hB, fun h => (getD_put_ne (by decide)).trans (h0 h), fun _ => tmps_put_eq (by rw [hz]; decide), fun h => (getD_put_ne (by decide)).trans (h2 h), fun h => (getD_put_ne (by decide)).trans (h3 h), fun h => (getD_put_ne (by decide)).trans (h4 h), fun h => (getD_put_ne (by decide)).trans (h5 h), (fun h => by obtain ⟨b, l, e1, e2, e3, e4, e5⟩ := h6 h; exact ⟨b, l, (getD_put_ne (by decide)).trans e1, e2, e3, e4, e5⟩), (fun h => by obtain ⟨b, l, e1, e2, e3, e4, e5⟩ := h7 h; exact ⟨b, l, (getD_put_ne (by decide)).trans e1, e2, e3, e4, e5⟩), (fun x y => ne_put (by decide) (by decide) (hn x y)), m8, m9, fun t ht => (getD_put_ne (fun e => ht (by rw [e]; decide))).trans (hk t ht), by rw [← hz]; simp [Act.put], hdf⟩
    | 2, ho =>
      obtain rfl := Option.some.inj ho
      refine wp_build10 rfl (one5 1) (one5 0) (h0 (hw ⟨0, .data⟩ (by simp) rfl)) (h1 (hw ⟨1, .data⟩ (by simp) rfl)) ?_
      exact ⟨hB, fun h => (getD_put_ne (by decide)).trans (h0 h), fun h => (getD_put_ne (by decide)).trans (h1 h), fun _ => tmps_put_eq (by rw [hz]; decide), fun h => (getD_put_ne (by decide)).trans (h3 h), fun h => (getD_put_ne (by decide)).trans (h4 h), fun h => (getD_put_ne (by decide)).trans (h5 h), (fun h => by obtain ⟨b, l, e1, e2, e3, e4, e5⟩ := h6 h; exact ⟨b, l, (getD_put_ne (by decide)).trans e1, e2, e3, e4, e5⟩), (fun h => by obtain ⟨b, l, e1, e2, e3, e4, e5⟩ := h7 h; exact ⟨b, l, (getD_put_ne (by decide)).trans e1, e2, e3, e4, e5⟩), (fun x y => ne_put (by decide) (by decide) (hn x y)), m8, m9, fun t ht => (getD_put_ne (fun e => ht (by rw [e]; decide))).trans (hk t ht), by rw [← hz]; simp [Act.put], hdf⟩
    | 3, ho =>
      obtain rfl := Option.some.inj ho
      refine wp_load_mid 88 (.tmp 6) rfl bx 0 (hk 6 (by decide)) ((tab 5 fx).map fun x : Nat => Value.int .u64 (x : Int)) _ (Hx.out.below hB Hx.out.lt).rng.2 Tryd.underlying88 rfl (by rw [List.length_map]; exact info5 _) ?_
      exact ⟨hB, fun h => (getD_put_ne (by decide)).trans (h0 h), fun h => (getD_put_ne (by decide)).trans (h1 h), fun h => (getD_put_ne (by decide)).trans (h2 h), fun _ => tmps_put_eq (by rw [hz]; decide), fun h => (getD_put_ne (by decide)).trans (h4 h), fun h => (getD_put_ne (by decide)).trans (h5 h), (fun h => by obtain ⟨b, l, e1, e2, e3, e4, e5⟩ := h6 h; exact ⟨b, l, (getD_put_ne (by decide)).trans e1, e2, e3, e4, e5⟩), (fun h => by obtain ⟨b, l, e1, e2, e3, e4, e5⟩ := h7 h; exact ⟨b, l, (getD_put_ne (by decide)).trans e1, e2, e3, e4, e5⟩), (fun x y => ne_put (by decide) (by decide) (hn x y)), m8, m9, fun t ht => (getD_put_ne (fun e => ht (by rw [e]; decide))).trans (hk t ht), by rw [← hz]; simp [Act.put], hdf⟩
    | 4, ho =>
      obtain rfl := Option.some.inj ho
      refine wp_val (v := .agg (rowK .u64 (tab 5 (one5 1)))) (by simp [execOp, Act.eval, build5one]) ?_
      exact ⟨hB, fun h => (getD_put_ne (by decide)).trans (h0 h), fun h => (getD_put_ne (by decide)).trans (h1 h), fun h => (getD_put_ne (by decide)).trans (h2 h), fun h => (getD_put_ne (by decide)).trans (h3 h), fun _ => tmps_put_eq (by rw [hz]; decide), fun h => (getD_put_ne (by decide)).trans (h5 h), (fun h => by obtain ⟨b, l, e1, e2, e3, e4, e5⟩ := h6 h; exact ⟨b, l, (getD_put_ne (by decide)).trans e1, e2, e3, e4, e5⟩), (fun h => by obtain ⟨b, l, e1, e2, e3, e4, e5⟩ := h7 h; exact ⟨b, l, (getD_put_ne (by decide)).trans e1, e2, e3, e4, e5⟩), (fun x y => ne_put (by decide) (by decide) (hn x y)), m8, m9, fun t ht => (getD_put_ne (fun e => ht (by rw [e]; decide))).trans (hk t ht), by rw [← hz]; simp [Act.put], hdf⟩
    | 5, ho =>
      obtain rfl := Option.some.inj ho
      refine wp_build10 rfl fx (one5 1) (h3 (hw ⟨3, .data⟩ (by simp) rfl)) (h4 (hw ⟨4, .data⟩ (by simp) rfl)) ?_
      exact ⟨hB, fun h => (getD_put_ne (by decide)).trans (h0 h), fun h => (getD_put_ne (by decide)).trans (h1 h), fun h => (getD_put_ne (by decide)).trans (h2 h), fun h => (getD_put_ne (by decide)).trans (h3 h), fun h => (getD_put_ne (by decide)).trans (h4 h), fun _ => tmps_put_eq (by rw [hz]; decide), (fun h => by obtain ⟨b, l, e1, e2, e3, e4, e5⟩ := h6 h; exact ⟨b, l, (getD_put_ne (by decide)).trans e1, e2, e3, e4, e5⟩), (fun h => by obtain ⟨b, l, e1, e2, e3, e4, e5⟩ := h7 h; exact ⟨b, l, (getD_put_ne (by decide)).trans e1, e2, e3, e4, e5⟩), (fun x y => ne_put (by decide) (by decide) (hn x y)), m8, m9, fun t ht => (getD_put_ne (fun e => ht (by rw [e]; decide))).trans (hk t ht), by rw [← hz]; simp [Act.put], hdf⟩
    | 6, ho =>
      obtain rfl := Option.some.inj ho
      refine wp_allocT rfl (alloc10 wx) ?_
      exact ⟨hB.alloc hB.size _, fun h => (getD_put_ne (by decide)).trans (h0 h), fun h => (getD_put_ne (by decide)).trans (h1 h), fun h => (getD_put_ne (by decide)).trans (h2 h), fun h => (getD_put_ne (by decide)).trans (h3 h), fun h => (getD_put_ne (by decide)).trans (h4 h), fun h => (getD_put_ne (by decide)).trans (h5 h), (fun _ => ⟨wx.heap.size, _, tmps_put_eq (by rw [hz]; decide), hB.size, tab_length 10 _, Blk.new _ _ _ _, fun h => by have := m8 h; rw [hf] at this; cases this⟩), (fun h => by obtain ⟨b, l, e1, e2, e3, e4, e5⟩ := h7 h; exact ⟨b, l, (getD_put_ne (by decide)).trans e1, e2, e3, e4.alloc _, e5⟩), (fun _ y => by obtain ⟨b, l, e1, _, _, e4, _⟩ := h7 y; exact ne_put_l (by rw [hz]; decide) (by decide) e1 (ne_ptr (Nat.ne_of_gt e4.lt))), fun _ => rfl, m9, fun t ht => (getD_put_ne (fun e => ht (by rw [e]; decide))).trans (hk t ht), by rw [← hz]; simp [Act.put], hdf⟩
    | 7, ho =>
      obtain rfl := Option.some.inj ho
      refine wp_allocT rfl (alloc10 wx) ?_
      exact ⟨hB.alloc hB.size _, fun h => (getD_put_ne (by decide)).trans (h0 h), fun h => (getD_put_ne (by decide)).trans (h1 h), fun h => (getD_put_ne (by decide)).trans (h2 h), fun h => (getD_put_ne (by decide)).trans (h3 h), fun h => (getD_put_ne (by decide)).trans (h4 h), fun h => (getD_put_ne (by decide)).trans (h5 h), (fun h => by obtain ⟨b, l, e1, e2, e3, e4, e5⟩ := h6 h; exact ⟨b, l, (getD_put_ne (by decide)).trans e1, e2, e3, e4.alloc _, e5⟩), (fun _ => ⟨wx.heap.size, _, tmps_put_eq (by rw [hz]; decide), hB.size, tab_length 10 _, Blk.new _ _ _ _, fun h => by have := m9 h; rw [hf] at this; cases this⟩), (fun x _ => by obtain ⟨b, l, e1, _, _, e4, _⟩ := h6 x; exact ne_put_r (by rw [hz]; decide) (by decide) e1 (ne_ptr (Nat.ne_of_lt e4.lt))), m8, fun _ => rfl, fun t ht => (getD_put_ne (fun e => ht (by rw [e]; decide))).trans (hk t ht), by rw [← hz]; simp [Act.put], hdf⟩
    | 8, ho =>
      obtain rfl := Option.some.inj ho
      have fm := hw ⟨6, .data⟩ (by simp) rfl
      obtain ⟨b, l, e1, e2, e3, e4, e5⟩ := h6 fm
      have v := h2 (hw ⟨2, .data⟩ (by simp) rfl)
      refine wp_store_row 92 (.tmp 8) (.tmp 22) rfl b (rowK .u64 (tab 10 (pt10 (one5 1) (one5 0)))) e1 v 92 (rowK .u64 l) e4 (by rw [rowK_size]; exact info10 _) (by rw [rowK_size, rowK_size, e3, tab_length]) (rowK_one _ _) ?_
      exact ⟨belowRow hB e2 _, h0, h1, h2, h3, h4, h5, (fun _ => ⟨b, _, e1, e2, tab_length 10 _, setRow_heap wx _ _ _ _ _ e4, fun _ => rfl⟩), (fun y => by obtain ⟨b2, l2, d1, d2, d3, d4, d5⟩ := h7 y; have hne := hn fm y; rw [e1, d1] at hne; exact ⟨b2, l2, d1, d2, d3, d4.stays (fun j hj => setRow_other wx _ j _ hj) (Ne.symm (ptr_ne hne)), d5⟩), hn, fun _ => fm, m9, hk, hz, hdf⟩
    | 9, ho =>
      obtain rfl := Option.some.inj ho
      have fm := hw ⟨7, .data⟩ (by simp) rfl
      obtain ⟨b, l, e1, e2, e3, e4, e5⟩ := h7 fm
      have v := h5 (hw ⟨5, .data⟩ (by simp) rfl)
      refine wp_store_row 92 (.tmp 9) (.tmp 25) rfl b (rowK .u64 (tab 10 (pt10 fx (one5 1)))) e1 v 92 (rowK .u64 l) e4 (by rw [rowK_size]; exact info10 _) (by rw [rowK_size, rowK_size, e3, tab_length]) (rowK_one _ _) ?_
      exact ⟨belowRow hB e2 _, h0, h1, h2, h3, h4, h5, (fun y => by obtain ⟨b2, l2, d1, d2, d3, d4, d5⟩ := h6 y; have hne := hn y fm; rw [d1, e1] at hne; exact ⟨b2, l2, d1, d2, d3, d4.stays (fun j hj => setRow_other wx _ j _ hj) (ptr_ne hne), d5⟩), (fun _ => ⟨b, _, e1, e2, tab_length 10 _, setRow_heap wx _ _ _ _ _ e4, fun _ => rfl⟩), hn, m8, fun _ => fm, hk, hz, hdf⟩
    | i + 10, ho => simp at ho
  case endR =>
    intro f a w6 hJ hall
    obtain ⟨hB, h0, h1, h2, h3, h4, h5, h6, h7, hn, _, _, hk, hz, hdf⟩ := hJ
    have hact := act_eq [20, 21, 22, 23, 24, 25, 8, 9] (by simp) hk hz hdf
    have e20 := h0 (hall 0 (by decide))
    have e21 := h1 (hall 1 (by decide))
    have e22 := h2 (hall 2 (by decide))
    have e23 := h3 (hall 3 (by decide))
    have e24 := h4 (hall 4 (by decide))
    have e25 := h5 (hall 5 (by decide))
    obtain ⟨b8, l8, e8, c8, _, k8, q8⟩ := h6 (hall 6 (by decide))
    obtain ⟨b9, l9, e9, c9, _, k9, q9⟩ := h7 (hall 7 (by decide))
    have ne := hn (hall 6 (by decide)) (hall 7 (by decide))
    rw [e8, e9] at ne
    have NE := hide (ptr_ne ne)
    obtain rfl := q8 (hall 8 (by decide))
    obtain rfl := q9 (hall 9 (by decide))
    simp only [List.map_cons, List.map_nil, e20, e21, e22, e23, e24, e25, e8, e9] at hact
    clear h0 h1 h2 h3 h4 h5 h6 h7 hn hk hz hdf hall e20 e21 e22 e23 e24 e25 e8 e9 ne
    subst hact
    simp only [putL, Act.put, List.setIfInBounds_toArray, List.set_cons_zero, List.set_cons_succ]
    have HL := hide k8
    have HH := hide k9
    have HB5 := HB
    replace HB := hide (HB.out.trans (hB.mono HB.out.size))
    have DD := hide (show bx ≠ b8 ∧ bx ≠ b9 ∧ bf ≠ b8 ∧ bf ≠ b9 ∧ w.heap.size ≤ b8 ∧ w.heap.size ≤ b9 from ⟨Nat.ne_of_lt (Nat.lt_of_lt_of_le Hx.out.lt c8), Nat.ne_of_lt (Nat.lt_of_lt_of_le Hx.out.lt c9), Nat.ne_of_lt (Nat.lt_of_lt_of_le HF.out.lt c8), Nat.ne_of_lt (Nat.lt_of_lt_of_le HF.out.lt c9), Nat.le_trans HB5.out.size c8, Nat.le_trans HB5.out.size c9⟩)
    replace Hx := hide (Hx.out.below hB Hx.out.lt)
    replace HF := hide (HF.out.below hB HF.out.lt)
    clear k8 k9 hB HB5 c8 c9 q8 q9
    go_wp2
    go_loopw [10, 11] (fun cv tv wr => ∃ (k : Nat) (i : Int) (p r : Nat → Nat), k ≤ 255 ∧ i = 254 - (k : Int) ∧ tv = .int .i64 i ∧ cv = .int .u64 ((crs (cbit s) k) : Nat) ∧ Bel w.heap.size w wr ∧ Blk wr bx 88 .u64 (tab 5 fx) ∧ Blk wr bf 85 .u8 (facL s) ∧ Blk wr b8 92 .u64 (tab 10 p) ∧ Blk wr b9 92 .u64 (tab 10 r) ∧ Is51 p (lowX (crs (cbit s) k) (ladTo (cbit s) xm k)) ∧ Is51 (sec5 p) (lowZ (crs (cbit s) k) (ladTo (cbit s) xm k)) ∧ Is51 r (higX (crs (cbit s) k) (ladTo (cbit s) xm k)) ∧ Is51 (sec5 r) (higZ (crs (cbit s) k) (ladTo (cbit s) xm k))) (fun _ t _ => (intOf t + 1).toNat)
    case atStart =>
      obtain ⟨g1, g2, g3, g4, g5⟩ := start0 s xm
      exact ⟨0, 254, _, _, Nat.zero_le _, by omega, rfl, by rw [g1]; rfl, HB.out, Hx.out, HF.out, HL.out, HH.out, by rw [g2]; exact pt10_fst one5_1, by rw [g3]; exact pt10_snd one5_0, by rw [g4]; exact pt10_fst Ix.out, by rw [g5]; exact pt10_snd one5_1⟩
    case round =>
      clear HB Hx HF HL HH
      obtain ⟨k, i, p, r, hk, hi, rfl, rfl, hB, hX, hF, hL, hH, i1, i2, i3, i4⟩ := hrel
      have HB := hide hB
      have Hx := hide hX
      have HF := hide hF
      have HL := hide hL
      have HH := hide hH
      have I1 := hide i1
      have I2 := hide i2
      have I3 := hide i3
      have I4 := hide i4
      have CL := hide (crs_lt s k)
      clear hB hX hL hH i1 i2 i3 i4
      by_cases hk2 : k < 255
      · obtain ⟨n, hn⟩ : ∃ n : Nat, 254 - k = n := ⟨_, rfl⟩
        obtain rfl : i = (n : Int) := by omega
        have hn2 : n < 255 := by omega
        have HI := hide hi
        have HN := hide hn
        have cf := hF.cell (n / 8) (by rw [hfl]; omega)
        have ff := hF.frozen (n / 8)
        clear hF
        have lx := facL_lt s hs (n / 8) (by omega)
        have eb : bits .and .u64 (IntKind.u64.wrap ((((facL s).getD (n / 8) 0 : Nat) : Int) / 2 ^ (n % 8))) 1 = ((cbit s n : Nat) : Int) := by
          have h1 : (facL s).getD (n / 8) 0 / 2 ^ (n % 8) < 18446744073709551616 := Nat.lt_of_le_of_lt (Nat.div_le_self _ _) (by omega)
          rw [shr_cast, wrapN _ h1, and1u _ h1, facL_bit s hs n hn2]
        generalize (facL s).getD (n / 8) 0 = xv at *
        have HLAD : Hid (ladTo (cbit s) xm (k + 1) = stepL (cbit s n) xm (ladTo (cbit s) xm k)) := by
          show stepL (cbit s (254 - k)) xm _ = _
          rw [hn]
        have HCR : Hid (crs (cbit s) (k + 1) = cbit s n) := by
          show crs (cbit s) (k + 1) = cbit s n
          unfold crs
          rw [if_neg (by omega), ← hn]
          congr 1
          omega
        have BL := hide (cbit_lt s n)
        generalize cbit s n = b at *
        generalize crs (cbit s) k = c at *
        generalize ladTo (cbit s) xm k = L at *
        have ex : bits .xor .u64 (c : Int) (b : Int) = ((c ^^^ b : Nat) : Int) := u64_xor_nat c b (Nat.lt_trans CL.out (by decide)) (Nat.lt_trans BL.out (by decide))
        clear hi hn
        have n0 : (0 : Int) ≤ (n : Int) := by omega
        have n1 : (n : Int) < 255 := by omega
        go_wp2_with (first | (refine wpList_ldQ rfl _ rfl _ _ rfl (by first | with_reducible exact HL.out.rng | with_reducible exact HH.out.rng) Tryd.underlying92 rfl (info10 _) ?_))
        refine (swappedP (c ^^^ b) (xor2 CL.out BL.out) p r (ok64_10 I1.out I2.out) (ok64_10 I3.out I4.out) _).mono ?_
        rintro e w7 ⟨rfl, bel⟩
        replace HB := hide (HB.out.trans (bel.mono HB.out.size))
        replace Hx := hide (Hx.out.below bel Hx.out.lt)
        replace HF := hide (HF.out.below bel HF.out.lt)
        replace HL := hide (HL.out.below bel HL.out.lt)
        replace HH := hide (HH.out.below bel HH.out.lt)
        clear bel cf ff eb ex
        obtain ⟨i1, i2, i3, i4⟩ := swp_low CL.out BL.out I1.out I2.out I3.out I4.out
        replace I1 := hide i1
        replace I2 := hide i2
        replace I3 := hide i3
        replace I4 := hide i4
        clear i1 i2 i3 i4
        generalize swp (c ^^^ b) p r = p2 at *
        generalize swp (c ^^^ b) r p = r2 at *
        go_wp2_with (first | (refine wpList_stB HL.out (info10 p2) (len10 _ _) rfl _ _ rfl rfl rfl rfl ?_; intro w8 hb2 ho2 hk2') | (refine wpList_stB (HH.out.stays ho2 (Ne.symm NE.out)) (info10 r2) (len10 _ _) rfl _ _ rfl rfl rfl rfl ?_; intro w9 hb3 ho3 hk3))
        replace HB := hide ((HB.out.trans (hb2.mono DD.out.2.2.2.2.1)).trans (hb3.mono DD.out.2.2.2.2.2))
        replace Hx := hide ((Hx.out.stays ho2 DD.out.1).stays ho3 DD.out.2.1)
        replace HF := hide ((HF.out.stays ho2 DD.out.2.2.1).stays ho3 DD.out.2.2.2.1)
        replace HL := hide (hk2'.stays ho3 NE.out)
        replace HH := hide hk3
        have RL := hide HL.out.rng
        have RH := hide HH.out.rng
        have RXx := hide Hx.out.rng
        clear hb2 ho2 hk2' hb3 ho3 hk3
        refine wp_region_phaseB 6 (PL [.pnt (lowX b L) (lowZ b L), .pnt (rX2 (lowX b L) (lowZ b L)) (rZ2 (lowX b L) (lowZ b L)), .pnt (lowX b L) (lowZ b L), .pnt (higX b L) (higZ b L), .val xm, .pnt (rX3 (lowX b L) (lowZ b L) (higX b L) (higZ b L)) (rZ3 (lowX b L) (lowZ b L) (higX b L) (higZ b L) xm)]) (frL [.pnt (lowX b L) (lowZ b L), .pnt (rX2 (lowX b L) (lowZ b L)) (rZ2 (lowX b L) (lowZ b L)), .pnt (lowX b L) (lowZ b L), .pnt (higX b L) (higZ b L), .val xm, .pnt (rX3 (lowX b L) (lowZ b L) (higX b L) (higZ b L)) (rZ3 (lowX b L) (lowZ b L) (higX b L) (higZ b L) xm)]) (by kernel_rfl) (by kernel_rfl) (PL_stable _) (PL_fr _) ?op12 ?tail12
        case op12 =>
          intro i o d hi ho hd a wv hbel hkeep hdep
          have R8 : Rng wv b8 0 .u64 (tab 10 p2) := RL.out.drew.below hbel
          have R9 : Rng wv b9 0 .u64 (tab 10 r2) := RH.out.drew.below hbel
          have RX : Rng wv bx 0 .u64 (tab 5 fx) := RXx.out.drew.below hbel
          match i, hi with
          | 0, _ =>
            obtain rfl := Option.some.inj ho
            obtain rfl := Option.some.inj hd
            exact opB Bool.false_ne_true (op_load rfl _ rfl b8 0 (hkeep 8 (ndB_spec (by kernel_rfl))) R8 Tryd.underlying92 rfl (info10 _) ⟨_, rfl, I1.out, I2.out⟩)
          | 1, _ =>
            obtain rfl := Option.some.inj ho
            obtain rfl := Option.some.inj hd
            exact opB Bool.false_ne_true (op_call1 (R := fun v _ => V10 v (rX2 (lowX b L) (lowZ b L)) (rZ2 (lowX b L) (lowZ b L))) rfl rfl rfl enterDoubled rfl rfl (doubledV (hdep 0 _ 48 (by decide) rfl rfl (by kernel_rfl)) wv))
          | 2, _ =>
            obtain rfl := Option.some.inj ho
            obtain rfl := Option.some.inj hd
            exact opB Bool.false_ne_true (op_load rfl _ rfl b8 0 (hkeep 8 (ndB_spec (by kernel_rfl))) R8 Tryd.underlying92 rfl (info10 _) ⟨_, rfl, I1.out, I2.out⟩)
          | 3, _ =>
            obtain rfl := Option.some.inj ho
            obtain rfl := Option.some.inj hd
            exact opB Bool.false_ne_true (op_load rfl _ rfl b9 0 (hkeep 9 (ndB_spec (by kernel_rfl))) R9 Tryd.underlying92 rfl (info10 _) ⟨_, rfl, I3.out, I4.out⟩)
          | 4, _ =>
            obtain rfl := Option.some.inj ho
            obtain rfl := Option.some.inj hd
            exact opB Bool.false_ne_true (op_load rfl _ rfl bx 0 (hkeep 6 (ndB_spec (by kernel_rfl))) RX Tryd.underlying88 rfl (info5 _) ⟨_, rfl, Ix.out⟩)
          | 5, _ =>
            obtain rfl := Option.some.inj ho
            obtain rfl := Option.some.inj hd
            exact opB Bool.false_ne_true (op_call3 (R := fun v _ => V10 v (rX3 (lowX b L) (lowZ b L) (higX b L) (higZ b L)) (rZ3 (lowX b L) (lowZ b L) (higX b L) (higZ b L) xm)) rfl rfl rfl enterAdded rfl rfl rfl rfl (addedV (hdep 2 _ 50 (by decide) rfl rfl (by kernel_rfl)) (hdep 3 _ 51 (by decide) rfl rfl (by kernel_rfl)) (hdep 4 _ 52 (by decide) rfl rfl (by kernel_rfl)) wv))
        case tail12 =>
          intro a wv hj hap
          have hact := hj.act [48, 49, 50, 51, 52, 53] (by kernel_rfl)
          obtain ⟨g48, e48, i48, j48⟩ := hj.post 0 _ 48 (by decide) rfl rfl rfl
          obtain ⟨g49, e49, i49, j49⟩ := hj.post 1 _ 49 (by decide) rfl rfl rfl
          obtain ⟨g50, e50, i50, j50⟩ := hj.post 2 _ 50 (by decide) rfl rfl rfl
          obtain ⟨g51, e51, i51, j51⟩ := hj.post 3 _ 51 (by decide) rfl rfl rfl
          obtain ⟨g52, e52, i52⟩ := hj.post 4 _ 52 (by decide) rfl rfl rfl
          obtain ⟨g53, e53, i53, j53⟩ := hj.post 5 _ 53 (by decide) rfl rfl rfl
          simp only [List.map_cons, List.map_nil, e48, e49, e50, e51, e52, e53] at hact
          have hjb : Bel w9.heap.size w9 wv := (Bel.refl _ _).drew.trans hj.bel
          clear hj hap e48 e49 e50 e51 e52 e53
          subst hact
          simp only [putL, Act.put, List.setIfInBounds_toArray, List.set_cons_zero, List.set_cons_succ, List.drop_succ_cons, List.drop_zero]
          replace HB := hide (HB.out.trans (hjb.mono HB.out.size))
          replace Hx := hide (Hx.out.below hjb Hx.out.lt)
          replace HF := hide (HF.out.below hjb HF.out.lt)
          replace HL := hide (HL.out.below hjb HL.out.lt)
          replace HH := hide (HH.out.below hjb HH.out.lt)
          have E1 := hide i49
          have E2 := hide j49
          have E3 := hide i53
          have E4 := hide j53
          clear hjb i48 j48 i49 j49 i50 j50 i51 j51 i52 i53 j53 RL RH RXx
          go_wp2_with (first | (refine wpList_stB HL.out (info10 g49) (len10 _ _) rfl _ _ rfl rfl rfl rfl ?_; intro w10 hb2 ho2 hk2') | (refine wpList_stB (HH.out.stays ho2 (Ne.symm NE.out)) (info10 g53) (len10 _ _) rfl _ _ rfl rfl rfl rfl ?_; intro w11 hb3 ho3 hk3))
          replace HB := hide ((HB.out.trans (hb2.mono DD.out.2.2.2.2.1)).trans (hb3.mono DD.out.2.2.2.2.2))
          replace Hx := hide ((Hx.out.stays ho2 DD.out.1).stays ho3 DD.out.2.1)
          replace HF := hide ((HF.out.stays ho2 DD.out.2.2.1).stays ho3 DD.out.2.2.2.1)
          replace HL := hide (hk2'.stays ho3 NE.out)
          replace HH := hide hk3
          clear hb2 ho2 hk2' hb3 ho3 hk3
          go_roundw
          case rel => exact ⟨k + 1, (n : Int) - 1, g49, g53, by omega, by have := HI.out; omega, by go_num, by rw [HCR.out], HB.out, Hx.out, HF.out, HL.out, HH.out, by rw [HCR.out, HLAD.out, step_lowX]; exact E1.out, by rw [HCR.out, HLAD.out, step_lowZ]; exact E2.out, by rw [HCR.out, HLAD.out, step_higX]; exact E3.out, by rw [HCR.out, HLAD.out, step_higZ]; exact E4.out⟩
          case measure => simp [intOf]
      · obtain rfl : k = 255 := by omega
        obtain rfl : i = -1 := by omega
        clear hF
        clear hi
        generalize crs (cbit s) 255 = c at *
        generalize ladTo (cbit s) xm 255 = L at *
        go_wp2_with (first | (refine wpList_ldQ rfl _ rfl _ _ rfl (by first | with_reducible exact HL.out.rng | with_reducible exact HH.out.rng) Tryd.underlying92 rfl (info10 _) ?_))
        refine (swappedP c CL.out p r (ok64_10 I1.out I2.out) (ok64_10 I3.out I4.out) _).mono ?_
        rintro e w7 ⟨rfl, bel⟩
        replace HB := hide (HB.out.trans (bel.mono HB.out.size))
        replace HL := hide (HL.out.below bel HL.out.lt)
        clear bel
        obtain ⟨i1, i2⟩ := swp_end CL.out I1.out I2.out I3.out I4.out
        replace I1 := hide i1
        replace I2 := hide i2
        clear i1 i2
        generalize swp c p r = p2 at *
        go_wp2_with (first | (refine wpList_stB HL.out (info10 p2) (len10 _ _) rfl _ _ rfl rfl rfl rfl ?_; intro w8 hb2 ho2 hk2'))
        replace HB := hide (HB.out.trans (hb2.mono DD.out.2.2.2.2.1))
        have RP0 := hide (hk2'.range 0 _ (f100 p2))
        have RP1 := hide (hk2'.range 5 _ (f101 p2))
        clear hb2 ho2 hk2'
        refine wp_region_phaseB 7 (PL [.ptr b8 0, .val L.1, .ptr b8 5, .val L.2.1, .val (ivTo L.2.1 255), .val (mulM L.1 (ivTo L.2.1 255)), .eq (.string (str (outB (mulM L.1 (ivTo L.2.1 255)))))]) (frL [.ptr b8 0, .val L.1, .ptr b8 5, .val L.2.1, .val (ivTo L.2.1 255), .val (mulM L.1 (ivTo L.2.1 255)), .eq (.string (str (outB (mulM L.1 (ivTo L.2.1 255)))))]) (by kernel_rfl) (by kernel_rfl) (PL_stable _) (PL_fr _) ?op15 ?tail15
        case op15 =>
          intro i o d hi ho hd a wv hbel hkeep hdep
          have R0 : Rng wv b8 0 .u64 (tab 5 p2) := RP0.out.drew.below hbel
          have R1 : Rng wv b8 5 .u64 (tab 5 (sec5 p2)) := RP1.out.drew.below hbel
          match i, hi with
          | 0, _ =>
            obtain rfl := Option.some.inj ho
            obtain rfl := Option.some.inj hd
            exact opB Bool.false_ne_true (op_field rfl rfl (hkeep 8 (ndB_spec (by kernel_rfl))) (field0 b8 wv) rfl)
          | 1, _ =>
            obtain rfl := Option.some.inj ho
            obtain rfl := Option.some.inj hd
            exact opB Bool.false_ne_true (op_load rfl _ rfl b8 0 (hdep 0 _ 62 (by decide) rfl rfl (by kernel_rfl)) R0 Tryd.underlying88 rfl (info5 _) ⟨_, rfl, I1.out⟩)
          | 2, _ =>
            obtain rfl := Option.some.inj ho
            obtain rfl := Option.some.inj hd
            exact opB Bool.false_ne_true (op_field rfl rfl (hkeep 8 (ndB_spec (by kernel_rfl))) (field1 b8 wv) rfl)
          | 3, _ =>
            obtain rfl := Option.some.inj ho
            obtain rfl := Option.some.inj hd
            exact opB Bool.false_ne_true (op_load rfl _ rfl b8 5 (hdep 2 _ 64 (by decide) rfl rfl (by kernel_rfl)) R1 Tryd.underlying88 rfl (info5 _) ⟨_, rfl, I2.out⟩)
          | 4, _ =>
            obtain rfl := Option.some.inj ho
            obtain rfl := Option.some.inj hd
            exact opB Bool.false_ne_true (op_call1 (R := fun v _ => V5 v (ivTo L.2.1 255)) rfl rfl rfl enterInverse5 rfl rfl (inverseV5 (hdep 3 _ 65 (by decide) rfl rfl (by kernel_rfl)) wv))
          | 5, _ =>
            obtain rfl := Option.some.inj ho
            obtain rfl := Option.some.inj hd
            exact opB Bool.false_ne_true (op_call2 (R := fun v _ => V5 v (mulM L.1 (ivTo L.2.1 255))) rfl rfl rfl enterTimes5 rfl rfl rfl (timesV5 (hdep 1 _ 63 (by decide) rfl rfl (by kernel_rfl)) (hdep 4 _ 66 (by decide) rfl rfl (by kernel_rfl)) wv))
          | 6, _ =>
            obtain rfl := Option.some.inj ho
            obtain rfl := Option.some.inj hd
            exact opB Bool.false_ne_true (op_call1 (R := fun v _ => v = .string (str (outB (mulM L.1 (ivTo L.2.1 255))))) rfl rfl rfl enterBytes rfl rfl (bytesV (hdep 5 _ 67 (by decide) rfl rfl (by kernel_rfl)) wv))
        case tail15 =>
          intro a wv hj hap
          have hact := hj.act [62, 63, 64, 65, 66, 67, 68] (by kernel_rfl)
          have e62 : a.tmps.getD 62 undef = .pointer (some ⟨b8, 0, none⟩) := hj.post 0 _ 62 (by decide) rfl rfl rfl
          obtain ⟨g63, e63, i63⟩ := hj.post 1 _ 63 (by decide) rfl rfl rfl
          have e64 : a.tmps.getD 64 undef = .pointer (some ⟨b8, 5, none⟩) := hj.post 2 _ 64 (by decide) rfl rfl rfl
          obtain ⟨g65, e65, i65⟩ := hj.post 3 _ 65 (by decide) rfl rfl rfl
          obtain ⟨g66, e66, i66⟩ := hj.post 4 _ 66 (by decide) rfl rfl rfl
          obtain ⟨g67, e67, i67⟩ := hj.post 5 _ 67 (by decide) rfl rfl rfl
          have e68 : a.tmps.getD 68 undef = .string (str (outB (mulM L.1 (ivTo L.2.1 255)))) := hj.post 6 _ 68 (by decide) rfl rfl rfl
          simp only [List.map_cons, List.map_nil, e62, e63, e64, e65, e66, e67, e68] at hact
          have hjb : Bel w8.heap.size w8 wv := (Bel.refl _ _).drew.trans hj.bel
          clear hj hap e62 e63 e64 e65 e66 e67 e68
          subst hact
          simp only [putL, Act.put, List.setIfInBounds_toArray, List.set_cons_zero, List.set_cons_succ, List.drop_succ_cons, List.drop_zero]
          replace HB := hide (HB.out.trans (hjb.mono HB.out.size))
          clear hjb
          go_wp2
          go_ret
          exact ⟨by rw [HRES.out]; rfl, HB.out⟩
end Go.Proofs.YtgjdogkciklgkaaDoor
