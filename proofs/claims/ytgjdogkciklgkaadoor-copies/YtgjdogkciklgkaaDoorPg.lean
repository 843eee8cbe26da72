/-
  Package ratchet's planned (written by gen/mkpld.py).
-/
import Derived.Test.YtgjdogkciklgkaaDoorPf
import Derived.Test.YtgjdogkciklgkaaDoorPd
import Derived.Test.YtgjdogkciklgkaaDoorPSend
namespace Go.Proofs.YtgjdogkciklgkaaDoor
open Go.RowKit

theorem Errs.drewN {w : World} {a : Nat → Addr} (h : Errs w a) (q : Nat) : Errs (w.drewN q) a := h.below (belowN (Bel.refl _ _) q)
theorem Tab.drewN {w : World} (h : Tab w) (q : Nat) : Tab (w.drewN q) := ⟨h.lt, h.tab⟩

/-- Within planned: the plan at R, the head at H. -/
structure PG (W w : World) (R H base b : Nat) (st : PSt) (th : List UInt8) (bf n : Nat) : Prop where
  bel : Bel w.heap.size w W
  lo : w.heap.size ≤ R
  ne : R < H
  size : H < W.heap.size
  hd : W.heap[H]? = some (.cells #[.string (str th), .int .i64 (bf : Int), .int .i64 (n : Int)] 69 (0, 0))
  pl : W.heap[R]? = some (.cells #[.string ⟨#[]⟩, .pointer none] 71 (0, 0))
  p : PAt W base b st
theorem PG.below {W W' w : World} {R H base b bf n : Nat} {st : PSt} {th : List UInt8} (h : PG W w R H base b st th bf n) (hb : Bel W.heap.size W W') : PG W' w R H base b st th bf n :=
  ⟨h.bel.trans (hb.mono h.bel.size), h.lo, h.ne, Nat.lt_of_lt_of_le h.size hb.size, (hb.block _ h.size).trans h.hd, (hb.block _ (Nat.lt_trans h.ne h.size)).trans h.pl, h.p.below hb⟩
theorem PG.drewN {W w : World} {R H base b bf n : Nat} {st : PSt} {th : List UInt8} (h : PG W w R H base b st th bf n) (q : Nat) : PG (W.drewN q) w R H base b st th bf n := ⟨belowN h.bel q, h.lo, h.ne, h.size, h.hd, h.pl, h.p⟩
theorem PG.bel2 {W W' w : World} {R H base b bf n B : Nat} {st : PSt} {th : List UInt8} (h : PG W w R H base b st th bf n) (hb : Bel B W W') (hB : W.heap.size ≤ B) : Bel w.heap.size w W' ∧ W'.heap[R]? = some (.cells #[.string ⟨#[]⟩, .pointer none] 71 (0, 0)) :=
  ⟨h.bel.trans (hb.mono (Nat.le_trans h.bel.size hB)), (hb.block _ (Nat.lt_of_lt_of_le (Nat.lt_trans h.ne h.size) hB)).trans h.pl⟩
theorem PG.start {w w2 : World} {R base b : Nat} {st : PSt} (th : List UInt8) (bf n : Nat) (hp : PAt w base b st) (hb : Bel w.heap.size w w2) (hlo : w.heap.size ≤ R) (hN : w2.heap[R]? = some (.cells #[.string ⟨#[]⟩, .pointer none] 71 (0, 0))) : PG (w2.alloc (.cells #[.string (str th), .int .i64 (bf : Int), .int .i64 (n : Int)] 69)) w R w2.heap.size base b st th bf n := by
  have h : Bel w2.heap.size w2 (w2.alloc (.cells #[.string (str th), .int .i64 (bf : Int), .int .i64 (n : Int)] 69)) := (Bel.refl _ _).alloc (Nat.le_refl _) _
  have hR := (Array.getElem?_eq_some_iff.1 hN).1
  have h' : Bel w.heap.size w (w2.alloc (.cells #[.string (str th), .int .i64 (bf : Int), .int .i64 (n : Int)] 69)) := hb.trans (h.mono hb.size)
  exact ⟨h', hlo, hR, by simp, heap_alloc_new w2 _, (h.block _ hR).trans hN, hp.below h'⟩

set_option maxRecDepth 100000 in
set_option maxHeartbeats 1000000 in
theorem plannedMis (b i : Nat) (ad f draw : List UInt8) (ma : ad.length ≤ maxLen) (mf : f.length ≤ maxLen) (md : draw.length ≤ maxLen) (hm : misL ad f draw = some i) (a : Nat → Addr) (w : World) (hE : Errs w a) :
    Calls Tryd.prog 41 #[.pointer (some ⟨b, 0, none⟩), .string (str ad), .string (str f), .string (str draw)] w fun e w' => e = .returned (.tuple #[nilPlan, errV a i]) ∧ Bel w.heap.size w w' := by
  have HM' : Hid (∀ w1, Errs w1 a → Calls Tryd.prog 68 #[.string (str ad), .string (str f), .string (str draw)] w1 fun e w' => e = .returned (errV a i) ∧ Bel w1.heap.size w1 w') := by
    intro w1 h1
    have h := misfitP ad f draw ma mf md a w1 h1
    rw [hm] at h
    exact h
  clear hm ma mf md
  have HB0 : Hid (Bel w.heap.size w (w.alloc (.cells #[.string ⟨#[]⟩, .pointer none] 71))) := (Bel.refl _ _).alloc (Nat.le_refl _) _
  have HN0 : Hid ((w.alloc (.cells #[.string ⟨#[]⟩, .pointer none] 71)).heap[w.heap.size]? = some (.cells #[.string ⟨#[]⟩, .pointer none] 71 (0, 0))) := heap_alloc_new w _
  have HE := hide hE
  clear hE
  unfold nilPlan
  unfold errV at HM' ⊢
  go_enter Tryd.func41, Tryd.ntmps41
  go_wp2_with fail
  generalize w.alloc (.cells #[.string ⟨#[]⟩, .pointer none] 71) = W0 at *
  refine (HM'.out _ (HE.out.below HB0.out)).mono ?_
  rintro e w1 ⟨rfl, hb1⟩
  have HB1 := hide (HB0.out.trans (hb1.mono HB0.out.size))
  have HN1 := hide ((hb1.block _ (Array.getElem?_eq_some_iff.1 HN0.out).1).trans HN0.out)
  obtain ⟨r0, r1, s0, s1⟩ := rowTwo HN1.out
  clear hb1 HB0 HN0
  go_wp2
  exact bodyPost_ret (v := .tuple #[.agg #[.string ⟨#[]⟩, .pointer none], errV a i]) (results_ct (P := Tryd.prog) Tryd.results41 _ _ w.heap.size 71 _ (0, 0) _ _ rfl rfl (rowTwoSet HN1.out) Tryd.underlying71 rfl Tryd.sizePlan) rfl ⟨rfl, (HB1.out.setCell (p := ⟨w.heap.size, 0, none⟩) (Nat.le_refl _) _).setCell (p := ⟨w.heap.size, 1, none⟩) (Nat.le_refl _) _⟩

set_option maxRecDepth 100000 in
set_option maxHeartbeats 1000000 in
theorem plannedKept (base b bf n : Nat) (st : PSt) (ad f th draw : List UInt8) (hW : st.Wf) (i : Nat) (hf : findK st.kept th n = some i) (a : Nat → Addr) (HM : ∀ w1, Errs w1 a → Calls Tryd.prog 68 #[.string (str ad), .string (str f), .string (str draw)] w1 fun e w' => e = .returned .nilIface ∧ Bel w1.heap.size w1 w') (HRH : ∀ w1, Calls Tryd.prog 69 #[.string (str f)] w1 fun e w' => e = .returned (.agg #[.string (str th), .int .i64 (bf : Int), .int .i64 (n : Int)]) ∧ Bel w1.heap.size w1 w') (w : World) (hE : Errs w a) (hT : Tab w) (hp : PAt w base b st) :
    Calls Tryd.prog 41 #[.pointer (some ⟨b, 0, none⟩), .string (str ad), .string (str f), .string (str draw)] w fun e w' => ∃ v, e = .returned (.tuple #[v, .nilIface]) ∧ Planned w (st.kept.getD i default).key { st with kept := st.kept.eraseIdx i } v w' := by
  have hi : i < st.kept.length := (List.findIdx?_eq_some_iff_getElem.1 hf).1
  have HM' := hide HM
  have HRH' := hide HRH
  clear HM HRH
  have hlt := hp.lt
  have hkl := hW.kept
  have hsl := hW.secret
  have hse : st.secret.isEmpty = false := by cases h : st.secret with
    | nil => rw [h] at hsl; cases hsl
    | cons _ _ => rfl
  have hsn : st.secret ≠ [] := by intro h; rw [h] at hsl; cases hsl
  have es := str_toList st.secret
  have HB0 : Hid (Bel w.heap.size w (w.alloc (.cells #[.string ⟨#[]⟩, .pointer none] 71))) := (Bel.refl _ _).alloc (Nat.le_refl _) _
  have HN0 : Hid ((w.alloc (.cells #[.string ⟨#[]⟩, .pointer none] 71)).heap[w.heap.size]? = some (.cells #[.string ⟨#[]⟩, .pointer none] 71 (0, 0))) := heap_alloc_new w _
  have HE0 := hide hE
  have HT0 := hide hT
  have HP0 := hide hp
  clear hp hE hT
  go_enter Tryd.func41, Tryd.ntmps41
  go_wp2_with fail
  generalize w.alloc (.cells #[.string ⟨#[]⟩, .pointer none] 71) = W0 at *
  refine (HM'.out _ (HE0.out.below HB0.out)).mono ?_
  rintro e w1 ⟨rfl, hb1⟩
  have HB1 := hide (HB0.out.trans (hb1.mono HB0.out.size))
  have HN1 := hide ((hb1.block _ (Array.getElem?_eq_some_iff.1 HN0.out).1).trans HN0.out)
  have c1 := (HP0.out.below HB1.out).choose_spec.1.all.2.1
  clear hb1 HB0 HN0
  go_wp2_with fail
  refine (HRH'.out _).mono ?_
  rintro e w2 ⟨rfl, hb2⟩
  have HB2 := hide (HB1.out.trans (hb2.mono HB1.out.size))
  have HN2 := hide ((hb2.block _ (Array.getElem?_eq_some_iff.1 HN1.out).1).trans HN1.out)
  clear hb2 HB1 HN1 c1
  have HF := hide (PG.start th bf n HP0.out HB2.out (Nat.le_refl _) HN2.out)
  have HE := hide (HE0.out.below HF.out.bel)
  have HT := hide (HT0.out.below HF.out.bel)
  clear HE0 HT0 HP0 HB2 HN2
  obtain ⟨h0', h1', h2', _⟩ := rowThree HF.out.hd
  go_wp2_with fail
  generalize w2.alloc (.cells #[.string (str th), .int .i64 (bf : Int), .int .i64 (n : Int)] 69) = W at *
  generalize w2.heap.size = H at *
  refine (keptAtP base b bf n st th (by omega) _ HF.out.p).mono ?_
  rintro e w3 ⟨rfl, hb1⟩
  have HF1 := hide (HF.out.below hb1)
  have HE1 := hide (HE.out.below hb1)
  have HT1 := hide (HT.out.below hb1)
  clear hb1 h0' h1' h2'
  rw [hf, show idxI (some i) = (i : Int) from rfl]
  have hz : (0 : Int) ≤ (i : Int) := by omega
  go_wp2_with fail
  refine (planKeptP base b i st (by omega) hi _ HF1.out.p).mono ?_
  rintro e w4 ⟨v, rfl, hv⟩
  generalize hky : (st.kept.getD i default).key = key at *
  have HKY := hide hky
  clear hky
  obtain ⟨bx, rfl, hbx, hpx, hbl⟩ := hv
  have hsz := HF1.out.bel.size
  obtain ⟨q1, q3⟩ := HF1.out.bel2 hbl (Nat.le_refl _)
  obtain ⟨r0, r1, s0, s1⟩ := rowTwo q3
  have hne : bx ≠ w.heap.size := by
    have h1 := HF1.out.ne
    have h2 := HF1.out.size
    omega
  have HX := hide (planEnd q1 (Nat.le_refl _) q3 (hpx.base hsz) hne key)
  have hle : w.heap.size ≤ bx := Nat.le_trans hsz hbx
  clear hpx hbl q1 q3 hbx
  go_wp2
  exact bodyPost_ret (v := .tuple #[.agg #[.string (str key), .pointer (some ⟨bx, 0, none⟩)], .nilIface]) (results_ct (P := Tryd.prog) Tryd.results41 _ _ w.heap.size 71 _ (0, 0) _ _ rfl rfl HX.out.1 Tryd.underlying71 rfl Tryd.sizePlan) rfl ⟨_, rfl, bx, by rw [HKY.out], hle, HX.out.2.1, HX.out.2.2⟩

set_option maxRecDepth 100000 in
set_option maxHeartbeats 1000000 in
theorem plannedNextOk (base b bf n : Nat) (st : PSt) (ad f th draw : List UInt8) (hW : st.Wf) (h0 : findK st.kept th n = none) (heq : th = st.theirs) (key : List UInt8) (st' : PSt) (a : Nat → Addr) (HM : ∀ w1, Errs w1 a → Calls Tryd.prog 68 #[.string (str ad), .string (str f), .string (str draw)] w1 fun e w' => e = .returned .nilIface ∧ Bel w1.heap.size w1 w') (HRH : ∀ w1, Calls Tryd.prog 69 #[.string (str f)] w1 fun e w' => e = .returned (.agg #[.string (str th), .int .i64 (bf : Int), .int .i64 (n : Int)]) ∧ Bel w1.heap.size w1 w') (HI : ∀ W, PAt W base b st → Errs W a → Tab W → Calls Tryd.prog 72 #[.pointer (some ⟨b, 0, none⟩), .agg #[.string (str th), .int .i64 (bf : Int), .int .i64 (n : Int)]] W fun e w' => ∃ v, e = .returned (.tuple #[v, .nilIface]) ∧ Planned W key st' v w') (w : World) (hE : Errs w a) (hT : Tab w) (hp : PAt w base b st) :
    Calls Tryd.prog 41 #[.pointer (some ⟨b, 0, none⟩), .string (str ad), .string (str f), .string (str draw)] w fun e w' => ∃ v, e = .returned (.tuple #[v, .nilIface]) ∧ Planned w key st' v w' := by
  have HI' := hide HI
  clear HI
  have hbq : (th == st.theirs) = true := by rw [heq]; exact beq_self_eq_true _
  clear heq
  have HM' := hide HM
  have HRH' := hide HRH
  clear HM HRH
  have hlt := hp.lt
  have hkl := hW.kept
  have hsl := hW.secret
  have hse : st.secret.isEmpty = false := by cases h : st.secret with
    | nil => rw [h] at hsl; cases hsl
    | cons _ _ => rfl
  have hsn : st.secret ≠ [] := by intro h; rw [h] at hsl; cases hsl
  have es := str_toList st.secret
  have HB0 : Hid (Bel w.heap.size w (w.alloc (.cells #[.string ⟨#[]⟩, .pointer none] 71))) := (Bel.refl _ _).alloc (Nat.le_refl _) _
  have HN0 : Hid ((w.alloc (.cells #[.string ⟨#[]⟩, .pointer none] 71)).heap[w.heap.size]? = some (.cells #[.string ⟨#[]⟩, .pointer none] 71 (0, 0))) := heap_alloc_new w _
  have HE0 := hide hE
  have HT0 := hide hT
  have HP0 := hide hp
  clear hp hE hT
  go_enter Tryd.func41, Tryd.ntmps41
  go_wp2_with fail
  generalize w.alloc (.cells #[.string ⟨#[]⟩, .pointer none] 71) = W0 at *
  refine (HM'.out _ (HE0.out.below HB0.out)).mono ?_
  rintro e w1 ⟨rfl, hb1⟩
  have HB1 := hide (HB0.out.trans (hb1.mono HB0.out.size))
  have HN1 := hide ((hb1.block _ (Array.getElem?_eq_some_iff.1 HN0.out).1).trans HN0.out)
  have c1 := (HP0.out.below HB1.out).choose_spec.1.all.2.1
  clear hb1 HB0 HN0
  go_wp2_with fail
  refine (HRH'.out _).mono ?_
  rintro e w2 ⟨rfl, hb2⟩
  have HB2 := hide (HB1.out.trans (hb2.mono HB1.out.size))
  have HN2 := hide ((hb2.block _ (Array.getElem?_eq_some_iff.1 HN1.out).1).trans HN1.out)
  clear hb2 HB1 HN1 c1
  have HF := hide (PG.start th bf n HP0.out HB2.out (Nat.le_refl _) HN2.out)
  have HE := hide (HE0.out.below HF.out.bel)
  have HT := hide (HT0.out.below HF.out.bel)
  clear HE0 HT0 HP0 HB2 HN2
  obtain ⟨h0', h1', h2', _⟩ := rowThree HF.out.hd
  go_wp2_with fail
  generalize w2.alloc (.cells #[.string (str th), .int .i64 (bf : Int), .int .i64 (n : Int)] 69) = W at *
  generalize w2.heap.size = H at *
  refine (keptAtP base b bf n st th (by omega) _ HF.out.p).mono ?_
  rintro e w3 ⟨rfl, hb1⟩
  have HF1 := hide (HF.out.below hb1)
  have HE1 := hide (HE.out.below hb1)
  have HT1 := hide (HT.out.below hb1)
  clear hb1 h0' h1' h2'
  rw [h0, show idxI none = (-1 : Int) from rfl]
  have c2 := HF1.out.p.choose_spec.1.all.2.2.1
  obtain ⟨g0, g1, g2, _⟩ := rowThree HF1.out.hd
  have et := str_toList th
  have et2 := str_toList st.theirs
  go_wp2_with fail
  go_quiet (fail)
  go_wp2_with fail
  refine (HI'.out _ (HF1.out.drewN _).p (HE1.out.drewN _) (HT1.out.drewN _)).mono ?_
  rintro e w4 ⟨v, rfl, bx, rfl, hbx, hpx, hbl⟩
  have hbl' := Bel.ofDrewN hbl
  have hv : Planned w3 key st' (.agg #[.string (str key), .pointer (some ⟨bx, 0, none⟩)]) w4 := ⟨bx, rfl, hbx, hpx, hbl'⟩
  clear hbx hpx hbl hbl' c2 g0 g1 g2
  obtain ⟨bx', hbe, hbx, hpx, hbl⟩ := hv
  injection hbe with hbe
  obtain rfl : bx = bx' := by simpa using hbe
  clear hbe
  have hsz := HF1.out.bel.size
  obtain ⟨q1, q3⟩ := HF1.out.bel2 hbl (Nat.le_refl _)
  obtain ⟨r0, r1, s0, s1⟩ := rowTwo q3
  have hne : bx ≠ w.heap.size := by
    have h1 := HF1.out.ne
    have h2 := HF1.out.size
    omega
  have HX := hide (planEnd q1 (Nat.le_refl _) q3 (hpx.base hsz) hne key)
  have hle : w.heap.size ≤ bx := Nat.le_trans hsz hbx
  clear hpx hbl q1 q3 hbx
  go_wp2
  exact bodyPost_ret (v := .tuple #[.agg #[.string (str key), .pointer (some ⟨bx, 0, none⟩)], .nilIface]) (results_ct (P := Tryd.prog) Tryd.results41 _ _ w.heap.size 71 _ (0, 0) _ _ rfl rfl HX.out.1 Tryd.underlying71 rfl Tryd.sizePlan) rfl ⟨_, rfl, bx, rfl, hle, HX.out.2.1, HX.out.2.2⟩

set_option maxRecDepth 100000 in
set_option maxHeartbeats 1000000 in
theorem plannedNextEr (base b bf n : Nat) (st : PSt) (ad f th draw : List UInt8) (hW : st.Wf) (h0 : findK st.kept th n = none) (heq : th = st.theirs) (i : Nat) (a : Nat → Addr) (HM : ∀ w1, Errs w1 a → Calls Tryd.prog 68 #[.string (str ad), .string (str f), .string (str draw)] w1 fun e w' => e = .returned .nilIface ∧ Bel w1.heap.size w1 w') (HRH : ∀ w1, Calls Tryd.prog 69 #[.string (str f)] w1 fun e w' => e = .returned (.agg #[.string (str th), .int .i64 (bf : Int), .int .i64 (n : Int)]) ∧ Bel w1.heap.size w1 w') (HI : ∀ W, PAt W base b st → Errs W a → Tab W → Calls Tryd.prog 72 #[.pointer (some ⟨b, 0, none⟩), .agg #[.string (str th), .int .i64 (bf : Int), .int .i64 (n : Int)]] W fun e w' => e = .returned (.tuple #[nilPlan, errV a i]) ∧ Bel W.heap.size W w') (w : World) (hE : Errs w a) (hT : Tab w) (hp : PAt w base b st) :
    Calls Tryd.prog 41 #[.pointer (some ⟨b, 0, none⟩), .string (str ad), .string (str f), .string (str draw)] w fun e w' => e = .returned (.tuple #[nilPlan, errV a i]) ∧ Bel w.heap.size w w' := by
  have HI' := hide HI
  clear HI
  have hbq : (th == st.theirs) = true := by rw [heq]; exact beq_self_eq_true _
  clear heq
  have HM' := hide HM
  have HRH' := hide HRH
  clear HM HRH
  have hlt := hp.lt
  have hkl := hW.kept
  have hsl := hW.secret
  have hse : st.secret.isEmpty = false := by cases h : st.secret with
    | nil => rw [h] at hsl; cases hsl
    | cons _ _ => rfl
  have hsn : st.secret ≠ [] := by intro h; rw [h] at hsl; cases hsl
  have es := str_toList st.secret
  have HB0 : Hid (Bel w.heap.size w (w.alloc (.cells #[.string ⟨#[]⟩, .pointer none] 71))) := (Bel.refl _ _).alloc (Nat.le_refl _) _
  have HN0 : Hid ((w.alloc (.cells #[.string ⟨#[]⟩, .pointer none] 71)).heap[w.heap.size]? = some (.cells #[.string ⟨#[]⟩, .pointer none] 71 (0, 0))) := heap_alloc_new w _
  have HE0 := hide hE
  have HT0 := hide hT
  have HP0 := hide hp
  clear hp hE hT
  go_enter Tryd.func41, Tryd.ntmps41
  go_wp2_with fail
  generalize w.alloc (.cells #[.string ⟨#[]⟩, .pointer none] 71) = W0 at *
  refine (HM'.out _ (HE0.out.below HB0.out)).mono ?_
  rintro e w1 ⟨rfl, hb1⟩
  have HB1 := hide (HB0.out.trans (hb1.mono HB0.out.size))
  have HN1 := hide ((hb1.block _ (Array.getElem?_eq_some_iff.1 HN0.out).1).trans HN0.out)
  have c1 := (HP0.out.below HB1.out).choose_spec.1.all.2.1
  clear hb1 HB0 HN0
  go_wp2_with fail
  refine (HRH'.out _).mono ?_
  rintro e w2 ⟨rfl, hb2⟩
  have HB2 := hide (HB1.out.trans (hb2.mono HB1.out.size))
  have HN2 := hide ((hb2.block _ (Array.getElem?_eq_some_iff.1 HN1.out).1).trans HN1.out)
  clear hb2 HB1 HN1 c1
  have HF := hide (PG.start th bf n HP0.out HB2.out (Nat.le_refl _) HN2.out)
  have HE := hide (HE0.out.below HF.out.bel)
  have HT := hide (HT0.out.below HF.out.bel)
  clear HE0 HT0 HP0 HB2 HN2
  obtain ⟨h0', h1', h2', _⟩ := rowThree HF.out.hd
  go_wp2_with fail
  generalize w2.alloc (.cells #[.string (str th), .int .i64 (bf : Int), .int .i64 (n : Int)] 69) = W at *
  generalize w2.heap.size = H at *
  refine (keptAtP base b bf n st th (by omega) _ HF.out.p).mono ?_
  rintro e w3 ⟨rfl, hb1⟩
  have HF1 := hide (HF.out.below hb1)
  have HE1 := hide (HE.out.below hb1)
  have HT1 := hide (HT.out.below hb1)
  clear hb1 h0' h1' h2'
  rw [h0, show idxI none = (-1 : Int) from rfl]
  have c2 := HF1.out.p.choose_spec.1.all.2.2.1
  obtain ⟨g0, g1, g2, _⟩ := rowThree HF1.out.hd
  have et := str_toList th
  have et2 := str_toList st.theirs
  go_wp2_with fail
  go_quiet (fail)
  go_wp2_with fail
  refine (HI'.out _ (HF1.out.drewN _).p (HE1.out.drewN _) (HT1.out.drewN _)).mono ?_
  rintro e w4 ⟨rfl, hb2⟩
  replace hb2 := Bel.ofDrewN hb2
  clear c2 g0 g1 g2
  obtain ⟨q1, q3⟩ := HF1.out.bel2 hb2 (Nat.le_refl _)
  obtain ⟨r0, r1, s0, s1⟩ := rowTwo q3
  have HQ1 := hide q1
  have HQ3 := hide q3
  clear hb2 q1 q3
  unfold nilPlan
  go_wp2
  exact bodyPost_ret (v := .tuple #[.agg #[.string ⟨#[]⟩, .pointer none], errV a i]) (results_ct (P := Tryd.prog) Tryd.results41 _ _ w.heap.size 71 _ (0, 0) _ _ rfl rfl (rowTwoSet HQ3.out) Tryd.underlying71 rfl Tryd.sizePlan) rfl ⟨rfl, (HQ1.out.setCell (p := ⟨w.heap.size, 0, none⟩) (Nat.le_refl _) _).setCell (p := ⟨w.heap.size, 1, none⟩) (Nat.le_refl _) _⟩

set_option maxRecDepth 100000 in
set_option maxHeartbeats 1000000 in
theorem plannedTurnOk (base b bf n : Nat) (st : PSt) (ad f th draw : List UInt8) (hW : st.Wf) (h0 : findK st.kept th n = none) (heq : th ≠ st.theirs) (key : List UInt8) (st' : PSt) (a : Nat → Addr) (HM : ∀ w1, Errs w1 a → Calls Tryd.prog 68 #[.string (str ad), .string (str f), .string (str draw)] w1 fun e w' => e = .returned .nilIface ∧ Bel w1.heap.size w1 w') (HRH : ∀ w1, Calls Tryd.prog 69 #[.string (str f)] w1 fun e w' => e = .returned (.agg #[.string (str th), .int .i64 (bf : Int), .int .i64 (n : Int)]) ∧ Bel w1.heap.size w1 w') (HI : ∀ W, PAt W base b st → Errs W a → Tab W → Calls Tryd.prog 73 #[.pointer (some ⟨b, 0, none⟩), .agg #[.string (str th), .int .i64 (bf : Int), .int .i64 (n : Int)], .string (str draw)] W fun e w' => ∃ v, e = .returned (.tuple #[v, .nilIface]) ∧ Planned W key st' v w') (w : World) (hE : Errs w a) (hT : Tab w) (hp : PAt w base b st) :
    Calls Tryd.prog 41 #[.pointer (some ⟨b, 0, none⟩), .string (str ad), .string (str f), .string (str draw)] w fun e w' => ∃ v, e = .returned (.tuple #[v, .nilIface]) ∧ Planned w key st' v w' := by
  have HI' := hide HI
  clear HI
  have hbq : (th == st.theirs) = false := by rw [beq_eq_false_iff_ne]; exact heq
  have HM' := hide HM
  have HRH' := hide HRH
  clear HM HRH
  have hlt := hp.lt
  have hkl := hW.kept
  have hsl := hW.secret
  have hse : st.secret.isEmpty = false := by cases h : st.secret with
    | nil => rw [h] at hsl; cases hsl
    | cons _ _ => rfl
  have hsn : st.secret ≠ [] := by intro h; rw [h] at hsl; cases hsl
  have es := str_toList st.secret
  have HB0 : Hid (Bel w.heap.size w (w.alloc (.cells #[.string ⟨#[]⟩, .pointer none] 71))) := (Bel.refl _ _).alloc (Nat.le_refl _) _
  have HN0 : Hid ((w.alloc (.cells #[.string ⟨#[]⟩, .pointer none] 71)).heap[w.heap.size]? = some (.cells #[.string ⟨#[]⟩, .pointer none] 71 (0, 0))) := heap_alloc_new w _
  have HE0 := hide hE
  have HT0 := hide hT
  have HP0 := hide hp
  clear hp hE hT
  go_enter Tryd.func41, Tryd.ntmps41
  go_wp2_with fail
  generalize w.alloc (.cells #[.string ⟨#[]⟩, .pointer none] 71) = W0 at *
  refine (HM'.out _ (HE0.out.below HB0.out)).mono ?_
  rintro e w1 ⟨rfl, hb1⟩
  have HB1 := hide (HB0.out.trans (hb1.mono HB0.out.size))
  have HN1 := hide ((hb1.block _ (Array.getElem?_eq_some_iff.1 HN0.out).1).trans HN0.out)
  have c1 := (HP0.out.below HB1.out).choose_spec.1.all.2.1
  clear hb1 HB0 HN0
  go_wp2_with fail
  refine (HRH'.out _).mono ?_
  rintro e w2 ⟨rfl, hb2⟩
  have HB2 := hide (HB1.out.trans (hb2.mono HB1.out.size))
  have HN2 := hide ((hb2.block _ (Array.getElem?_eq_some_iff.1 HN1.out).1).trans HN1.out)
  clear hb2 HB1 HN1 c1
  have HF := hide (PG.start th bf n HP0.out HB2.out (Nat.le_refl _) HN2.out)
  have HE := hide (HE0.out.below HF.out.bel)
  have HT := hide (HT0.out.below HF.out.bel)
  clear HE0 HT0 HP0 HB2 HN2
  obtain ⟨h0', h1', h2', _⟩ := rowThree HF.out.hd
  go_wp2_with fail
  generalize w2.alloc (.cells #[.string (str th), .int .i64 (bf : Int), .int .i64 (n : Int)] 69) = W at *
  generalize w2.heap.size = H at *
  refine (keptAtP base b bf n st th (by omega) _ HF.out.p).mono ?_
  rintro e w3 ⟨rfl, hb1⟩
  have HF1 := hide (HF.out.below hb1)
  have HE1 := hide (HE.out.below hb1)
  have HT1 := hide (HT.out.below hb1)
  clear hb1 h0' h1' h2'
  rw [h0, show idxI none = (-1 : Int) from rfl]
  have c2 := HF1.out.p.choose_spec.1.all.2.2.1
  obtain ⟨g0, g1, g2, _⟩ := rowThree HF1.out.hd
  have et := str_toList th
  have et2 := str_toList st.theirs
  go_wp2_with fail
  go_quiet (fail)
  go_wp2_with fail
  refine (HI'.out _ (HF1.out.drewN _).p (HE1.out.drewN _) (HT1.out.drewN _)).mono ?_
  rintro e w4 ⟨v, rfl, bx, rfl, hbx, hpx, hbl⟩
  have hbl' := Bel.ofDrewN hbl
  have hv : Planned w3 key st' (.agg #[.string (str key), .pointer (some ⟨bx, 0, none⟩)]) w4 := ⟨bx, rfl, hbx, hpx, hbl'⟩
  clear hbx hpx hbl hbl' c2 g0 g1 g2
  obtain ⟨bx', hbe, hbx, hpx, hbl⟩ := hv
  injection hbe with hbe
  obtain rfl : bx = bx' := by simpa using hbe
  clear hbe
  have hsz := HF1.out.bel.size
  obtain ⟨q1, q3⟩ := HF1.out.bel2 hbl (Nat.le_refl _)
  obtain ⟨r0, r1, s0, s1⟩ := rowTwo q3
  have hne : bx ≠ w.heap.size := by
    have h1 := HF1.out.ne
    have h2 := HF1.out.size
    omega
  have HX := hide (planEnd q1 (Nat.le_refl _) q3 (hpx.base hsz) hne key)
  have hle : w.heap.size ≤ bx := Nat.le_trans hsz hbx
  clear hpx hbl q1 q3 hbx
  go_wp2
  exact bodyPost_ret (v := .tuple #[.agg #[.string (str key), .pointer (some ⟨bx, 0, none⟩)], .nilIface]) (results_ct (P := Tryd.prog) Tryd.results41 _ _ w.heap.size 71 _ (0, 0) _ _ rfl rfl HX.out.1 Tryd.underlying71 rfl Tryd.sizePlan) rfl ⟨_, rfl, bx, rfl, hle, HX.out.2.1, HX.out.2.2⟩

set_option maxRecDepth 100000 in
set_option maxHeartbeats 1000000 in
theorem plannedTurnEr (base b bf n : Nat) (st : PSt) (ad f th draw : List UInt8) (hW : st.Wf) (h0 : findK st.kept th n = none) (heq : th ≠ st.theirs) (i : Nat) (a : Nat → Addr) (HM : ∀ w1, Errs w1 a → Calls Tryd.prog 68 #[.string (str ad), .string (str f), .string (str draw)] w1 fun e w' => e = .returned .nilIface ∧ Bel w1.heap.size w1 w') (HRH : ∀ w1, Calls Tryd.prog 69 #[.string (str f)] w1 fun e w' => e = .returned (.agg #[.string (str th), .int .i64 (bf : Int), .int .i64 (n : Int)]) ∧ Bel w1.heap.size w1 w') (HI : ∀ W, PAt W base b st → Errs W a → Tab W → Calls Tryd.prog 73 #[.pointer (some ⟨b, 0, none⟩), .agg #[.string (str th), .int .i64 (bf : Int), .int .i64 (n : Int)], .string (str draw)] W fun e w' => e = .returned (.tuple #[nilPlan, errV a i]) ∧ Bel W.heap.size W w') (w : World) (hE : Errs w a) (hT : Tab w) (hp : PAt w base b st) :
    Calls Tryd.prog 41 #[.pointer (some ⟨b, 0, none⟩), .string (str ad), .string (str f), .string (str draw)] w fun e w' => e = .returned (.tuple #[nilPlan, errV a i]) ∧ Bel w.heap.size w w' := by
  have HI' := hide HI
  clear HI
  have hbq : (th == st.theirs) = false := by rw [beq_eq_false_iff_ne]; exact heq
  have HM' := hide HM
  have HRH' := hide HRH
  clear HM HRH
  have hlt := hp.lt
  have hkl := hW.kept
  have hsl := hW.secret
  have hse : st.secret.isEmpty = false := by cases h : st.secret with
    | nil => rw [h] at hsl; cases hsl
    | cons _ _ => rfl
  have hsn : st.secret ≠ [] := by intro h; rw [h] at hsl; cases hsl
  have es := str_toList st.secret
  have HB0 : Hid (Bel w.heap.size w (w.alloc (.cells #[.string ⟨#[]⟩, .pointer none] 71))) := (Bel.refl _ _).alloc (Nat.le_refl _) _
  have HN0 : Hid ((w.alloc (.cells #[.string ⟨#[]⟩, .pointer none] 71)).heap[w.heap.size]? = some (.cells #[.string ⟨#[]⟩, .pointer none] 71 (0, 0))) := heap_alloc_new w _
  have HE0 := hide hE
  have HT0 := hide hT
  have HP0 := hide hp
  clear hp hE hT
  go_enter Tryd.func41, Tryd.ntmps41
  go_wp2_with fail
  generalize w.alloc (.cells #[.string ⟨#[]⟩, .pointer none] 71) = W0 at *
  refine (HM'.out _ (HE0.out.below HB0.out)).mono ?_
  rintro e w1 ⟨rfl, hb1⟩
  have HB1 := hide (HB0.out.trans (hb1.mono HB0.out.size))
  have HN1 := hide ((hb1.block _ (Array.getElem?_eq_some_iff.1 HN0.out).1).trans HN0.out)
  have c1 := (HP0.out.below HB1.out).choose_spec.1.all.2.1
  clear hb1 HB0 HN0
  go_wp2_with fail
  refine (HRH'.out _).mono ?_
  rintro e w2 ⟨rfl, hb2⟩
  have HB2 := hide (HB1.out.trans (hb2.mono HB1.out.size))
  have HN2 := hide ((hb2.block _ (Array.getElem?_eq_some_iff.1 HN1.out).1).trans HN1.out)
  clear hb2 HB1 HN1 c1
  have HF := hide (PG.start th bf n HP0.out HB2.out (Nat.le_refl _) HN2.out)
  have HE := hide (HE0.out.below HF.out.bel)
  have HT := hide (HT0.out.below HF.out.bel)
  clear HE0 HT0 HP0 HB2 HN2
  obtain ⟨h0', h1', h2', _⟩ := rowThree HF.out.hd
  go_wp2_with fail
  generalize w2.alloc (.cells #[.string (str th), .int .i64 (bf : Int), .int .i64 (n : Int)] 69) = W at *
  generalize w2.heap.size = H at *
  refine (keptAtP base b bf n st th (by omega) _ HF.out.p).mono ?_
  rintro e w3 ⟨rfl, hb1⟩
  have HF1 := hide (HF.out.below hb1)
  have HE1 := hide (HE.out.below hb1)
  have HT1 := hide (HT.out.below hb1)
  clear hb1 h0' h1' h2'
  rw [h0, show idxI none = (-1 : Int) from rfl]
  have c2 := HF1.out.p.choose_spec.1.all.2.2.1
  obtain ⟨g0, g1, g2, _⟩ := rowThree HF1.out.hd
  have et := str_toList th
  have et2 := str_toList st.theirs
  go_wp2_with fail
  go_quiet (fail)
  go_wp2_with fail
  refine (HI'.out _ (HF1.out.drewN _).p (HE1.out.drewN _) (HT1.out.drewN _)).mono ?_
  rintro e w4 ⟨rfl, hb2⟩
  replace hb2 := Bel.ofDrewN hb2
  clear c2 g0 g1 g2
  obtain ⟨q1, q3⟩ := HF1.out.bel2 hb2 (Nat.le_refl _)
  obtain ⟨r0, r1, s0, s1⟩ := rowTwo q3
  have HQ1 := hide q1
  have HQ3 := hide q3
  clear hb2 q1 q3
  unfold nilPlan
  go_wp2
  exact bodyPost_ret (v := .tuple #[.agg #[.string ⟨#[]⟩, .pointer none], errV a i]) (results_ct (P := Tryd.prog) Tryd.results41 _ _ w.heap.size 71 _ (0, 0) _ _ rfl rfl (rowTwoSet HQ3.out) Tryd.underlying71 rfl Tryd.sizePlan) rfl ⟨rfl, (HQ1.out.setCell (p := ⟨w.heap.size, 0, none⟩) (Nat.le_refl _) _).setCell (p := ⟨w.heap.size, 1, none⟩) (Nat.le_refl _) _⟩

end Go.Proofs.YtgjdogkciklgkaaDoor
namespace Go.Proofs.YtgjdogkciklgkaaDoor
open Go.RowKit

/-- What planned answers, plain. -/
def plannedL (st : PSt) (ad f draw : List UInt8) : Except Nat (List UInt8 × PSt) :=
  match misL ad f draw with
  | some i => .error i
  | none => planL st (f.take 32) (two f 32) (two f 34) draw

def PlanPost (w : World) (a : Nat → Addr) (e : Ending) (w' : World) : Except Nat (List UInt8 × PSt) → Prop
  | .error i => e = .returned (.tuple #[nilPlan, errV a i]) ∧ Bel w.heap.size w w'
  | .ok (key, st') => ∃ v, e = .returned (.tuple #[v, .nilIface]) ∧ Planned w key st' v w'

theorem misL_none {ad f draw : List UInt8} (hm : misL ad f draw = none) : ad.length ≤ 32 ∧ f.length ≤ 116 ∧ draw.length = 32 ∧ 52 ≤ f.length := by
  unfold misL at hm
  by_cases h : 32 < ad.length ∨ 116 < f.length
  · rw [if_pos h] at hm; cases hm
  · rw [if_neg h] at hm
    by_cases h2 : draw.length ≠ 32
    · rw [if_pos h2] at hm; cases hm
    · rw [if_neg h2] at hm
      by_cases h3 : f.length < 52
      · rw [if_pos h3] at hm; cases hm
      · omega

theorem plannedP (base b : Nat) (st : PSt) (ad f draw : List UInt8) (ma : ad.length ≤ maxLen) (mf : f.length ≤ maxLen) (md : draw.length ≤ maxLen) (hW : st.Wf) (a : Nat → Addr) (w : World) (hE : Errs w a) (hT : Tab w) (hp : PAt w base b st) :
    Calls Tryd.prog 41 #[.pointer (some ⟨b, 0, none⟩), .string (str ad), .string (str f), .string (str draw)] w fun e w' => PlanPost w a e w' (plannedL st ad f draw) := by
  cases hm : misL ad f draw with
  | some i =>
    have e : plannedL st ad f draw = .error i := by unfold plannedL; rw [hm]
    rw [e]
    exact plannedMis b i ad f draw ma mf md hm a w hE
  | none =>
    have e : plannedL st ad f draw = planL st (f.take 32) (two f 32) (two f 34) draw := by unfold plannedL; rw [hm]
    rw [e]
    obtain ⟨hla, hlf, hd, hl5⟩ := misL_none hm
    have HM : ∀ w1, Errs w1 a → Calls Tryd.prog 68 #[.string (str ad), .string (str f), .string (str draw)] w1 fun e w' => e = .returned .nilIface ∧ Bel w1.heap.size w1 w' := by
      intro w1 h1
      have h := misfitP ad f draw ma mf md a w1 h1
      rw [hm] at h
      exact h
    have HRH : ∀ w1, Calls Tryd.prog 69 #[.string (str f)] w1 fun e w' => e = .returned (.agg #[.string (str (f.take 32)), .int .i64 (two f 32 : Nat), .int .i64 (two f 34 : Nat)]) ∧ Bel w1.heap.size w1 w' := fun w1 => readHeadP f hl5 hlf w1
    have ht : (f.take 32).length = 32 := by rw [List.length_take]; omega
    have hbf := two_lt f 32
    have hn := two_lt f 34
    clear hm e
    generalize f.take 32 = th at *
    generalize two f 32 = bf at *
    generalize two f 34 = n at *
    cases hf : findK st.kept th n with
    | some i =>
      rw [planL_kept st th bf n draw i hf]
      exact plannedKept base b bf n st ad f th draw hW i hf a HM HRH w hE hT hp
    | none =>
      have hrn := hW.rn
      by_cases h1 : th = st.theirs
      · by_cases h2 : st.rk = [] ∨ n < st.rn
        · rw [planL_old st th bf n draw hf h1 h2]
          refine plannedNextEr base b bf n st ad f th draw hW hf h1 3 a HM HRH (fun W hp hE hT => ?_) w hE hT hp
          by_cases h3 : st.rk = []
          · exact planNextOld0 base b bf n st th h3 a W hE hp
          · exact planNextOld1 base b bf n st th h3 (h2.resolve_left h3) a W hE hp
        · have h3 : st.rk ≠ [] := fun e => h2 (.inl e)
          have h4 : st.rn ≤ n := Nat.le_of_not_lt fun e => h2 (.inr e)
          by_cases h5 : st.rn + 10 < n
          · rw [planL_far st th bf n draw hf h1 h2 h5]
            exact plannedNextEr base b bf n st ad f th draw hW hf h1 4 a HM HRH (fun W hp hE hT => planNextFar base b bf n st th h3 h5 (by omega) a W hE hp) w hE hT hp
          · rw [planL_same st th bf n draw hf h1 h2 h5]
            exact plannedNextOk base b bf n st ad f th draw hW hf h1 _ _ a HM HRH (fun W hp hE hT => planNextOk base b bf n st th hW h3 h4 (by omega) hn W hT hp) w hE hT hp
      · by_cases h2 : (st.rk ≠ [] ∧ st.rn + 10 < bf) ∨ 10 < n
        · rw [planL_skip st th bf n draw hf h1 h2]
          refine plannedTurnEr base b bf n st ad f th draw hW hf h1 4 a HM HRH (fun W hp hE hT => ?_) w hE hT hp
          by_cases h3 : st.rk = []
          · exact planTurnS3 base b bf n st th draw h3 (h2.resolve_left fun h => h.1 h3) a W hE hp
          · by_cases h4 : st.rn + 10 < bf
            · exact planTurnS1 base b bf n st th draw h3 h4 (by omega) a W hE hp
            · exact planTurnS2 base b bf n st th draw h3 h4 (h2.resolve_left fun h => h4 h.2) (by omega) a W hE hp
        · rw [planL_turn st th bf n draw hf h1 h2]
          have h5 : n ≤ 10 := Nat.le_of_not_lt fun h => h2 (.inr h)
          refine plannedTurnOk base b bf n st ad f th draw hW hf h1 _ _ a HM HRH (fun W hp hE hT => ?_) w hE hT hp
          by_cases h3 : st.rk = []
          · have e : elder st bf = st := by unfold elder; rw [if_pos h3]
            rw [e]
            exact planTurnO2 base b bf n st th draw ht hd hW h3 h5 W hT hp
          · have e : elder st bf = elderS st bf := by unfold elder; rw [if_neg h3]
            rw [e]
            exact planTurnO1 base b bf n st th draw ht hd hW h3 (Nat.le_of_not_lt fun h => h2 (.inl ⟨h3, h⟩)) h5 hbf W hT hp

set_option maxRecDepth 100000 in
set_option maxHeartbeats 2000000 in
theorem openBad (key ad f : List UInt8) (po : Option Addr) (hla : ad.length ≤ 32) (hlf : f.length ≤ 116) (hl5 : 52 ≤ f.length) (lk : key.length = 32) (hg : ¬ goodTag key (ad ++ f.take 36) (f.drop 36)) (a : Nat → Addr) (w : World) (hE : Errs w a) (hT : Tab w) :
    Calls Tryd.prog 42 #[.agg #[.string (str key), .pointer po], .string (str ad), .string (str f)] w fun e w' => e = .returned (.tuple #[.string ⟨#[]⟩, errV a 3]) ∧ Bel w.heap.size w w' := by
  have za := str_size ad
  have zf := str_size f
  have hx := sliceHi f 36 36 (by omega) (by omega)
  have hy := sliceLo f 36 36 (by omega) (by omega)
  have l36 : (f.take 36).length = 36 := by rw [List.length_take]; omega
  have lr : (f.drop 36).length = f.length - 36 := by rw [List.length_drop]
  have ha := addS ad (f.take 36) (by omega)
  have lA : (ad ++ f.take 36).length ≤ 68 := by rw [List.length_append]; omega
  have HG := hide hg
  have HE := hide hE
  have HT := hide hT
  clear hg hE hT
  generalize hrest : f.drop 36 = rest at *
  generalize f.take 36 = hd at *
  clear hrest
  go_enter Tryd.func42, Tryd.ntmps42
  go_wp2_with fail
  have HB4 : Hid (Bel w.heap.size w (w.alloc (.cells #[.string (str key), .pointer po] 71))) := (Bel.refl _ _).alloc (Nat.le_refl _) _
  have HN4 : Hid ((w.alloc (.cells #[.string (str key), .pointer po] 71)).heap[w.heap.size]? = some (.cells #[.string (str key), .pointer po] 71 (0, 0))) := heap_alloc_new w _
  have HE4 := hide (HE.out.below HB4.out)
  have HT4 := hide (HT.out.below HB4.out)
  generalize w.alloc (.cells #[.string (str key), .pointer po] 71) = w4 at *
  generalize hH : w.heap.size = H at *
  have k0 := (rowTwo HN4.out).1
  go_region_held3 (fun w' => w'.cell? ⟨H, 0, none⟩ = some (.string (str key))) (assumption) (first | (go_at_call 18; refine (rOpenBad key (ad ++ hd) rest lA (by omega) (by omega) lk HG.out (a 3) _ (HT4.out.below (Bel.refl _ w4).drew) (HE4.out.below (Bel.refl _ w4).drew).g3).mono ?_; rintro e w5 ⟨rfl, hb5⟩; have HB5 := hide (HB4.out.trans ((Bel.ofDrew hb5).mono (by rw [← hH]; exact HB4.out.size))); have k1 := ((Bel.ofDrew hb5).cell (p := ⟨H, 0, none⟩) (Array.getElem?_eq_some_iff.1 HN4.out).1).trans k0; clear hb5))
  all_goals go_wp2
  all_goals go_ret2
  all_goals exact ⟨rfl, by rw [hH]; exact HB5.out⟩

set_option maxRecDepth 100000 in
set_option maxHeartbeats 2000000 in
theorem openOk (key ad f : List UInt8) (po : Option Addr) (hla : ad.length ≤ 32) (hlf : f.length ≤ 116) (hl5 : 52 ≤ f.length) (lk : key.length = 32) (hg : goodTag key (ad ++ f.take 36) (f.drop 36)) (a : Nat → Addr) (w : World) (hE : Errs w a) (hT : Tab w) :
    Calls Tryd.prog 42 #[.agg #[.string (str key), .pointer po], .string (str ad), .string (str f)] w fun e w' => e = .returned (.tuple #[.string (str (boxL (k1 key) ((f.drop 36).take ((f.drop 36).length - 16)))), .nilIface]) ∧ Bel w.heap.size w w' := by
  have za := str_size ad
  have zf := str_size f
  have hx := sliceHi f 36 36 (by omega) (by omega)
  have hy := sliceLo f 36 36 (by omega) (by omega)
  have l36 : (f.take 36).length = 36 := by rw [List.length_take]; omega
  have lr : (f.drop 36).length = f.length - 36 := by rw [List.length_drop]
  have ha := addS ad (f.take 36) (by omega)
  have lA : (ad ++ f.take 36).length ≤ 68 := by rw [List.length_append]; omega
  have HG := hide hg
  have HE := hide hE
  have HT := hide hT
  clear hg hE hT
  generalize hrest : f.drop 36 = rest at *
  generalize f.take 36 = hd at *
  clear hrest
  go_enter Tryd.func42, Tryd.ntmps42
  go_wp2_with fail
  have HB4 : Hid (Bel w.heap.size w (w.alloc (.cells #[.string (str key), .pointer po] 71))) := (Bel.refl _ _).alloc (Nat.le_refl _) _
  have HN4 : Hid ((w.alloc (.cells #[.string (str key), .pointer po] 71)).heap[w.heap.size]? = some (.cells #[.string (str key), .pointer po] 71 (0, 0))) := heap_alloc_new w _
  have HE4 := hide (HE.out.below HB4.out)
  have HT4 := hide (HT.out.below HB4.out)
  generalize w.alloc (.cells #[.string (str key), .pointer po] 71) = w4 at *
  generalize hH : w.heap.size = H at *
  have k0 := (rowTwo HN4.out).1
  go_region_held3 (fun w' => w'.cell? ⟨H, 0, none⟩ = some (.string (str key))) (assumption) (first | (go_at_call 18; refine (rOpenOk key (ad ++ hd) rest lA (by omega) (by omega) lk HG.out _ (HT4.out.below (Bel.refl _ w4).drew)).mono ?_; rintro e w5 ⟨rfl, hb5⟩; have HB5 := hide (HB4.out.trans ((Bel.ofDrew hb5).mono (by rw [← hH]; exact HB4.out.size))); have k1 := ((Bel.ofDrew hb5).cell (p := ⟨H, 0, none⟩) (Array.getElem?_eq_some_iff.1 HN4.out).1).trans k0; clear hb5))
  all_goals go_wp2
  all_goals go_ret2
  all_goals exact ⟨by rw [lr]; rfl, by rw [hH]; exact HB5.out⟩

set_option maxRecDepth 100000 in
set_option maxHeartbeats 1000000 in
theorem recvEr (b i : Nat) (st : PSt) (ad f draw : List UInt8) (ma : ad.length ≤ maxLen) (mf : f.length ≤ maxLen) (md : draw.length ≤ maxLen) (hW : st.Wf) (hpl : plannedL st ad f draw = .error i) (a : Nat → Addr) (w : World) (hE : Errs w a) (hT : Tab w) (hp : PAt w 0 b st) :
    Calls Tryd.prog 22 #[.pointer (some ⟨b, 0, none⟩), .string (str ad), .string (str f), .string (str draw)] w fun e w' => e = .returned (.tuple #[.string ⟨#[]⟩, errV a i]) ∧ Bel w.heap.size w w' := by
  have HC := hide (plannedP 0 b st ad f draw ma mf md hW a w hE hT hp)
  rw [hpl] at HC
  unfold errV
  clear hE hT hp hW hpl ma mf md
  go_enter Tryd.func22, Tryd.ntmps22
  go_wp2_with fail
  refine HC.out.mono ?_
  rintro e w1 ⟨rfl, hb1⟩
  have HB1 := hide hb1
  clear hb1
  unfold nilPlan errV
  go_wp2
  go_ret2
  exact ⟨rfl, HB1.out.alloc HB1.out.size _⟩
end Go.Proofs.YtgjdogkciklgkaaDoor
namespace Go.Proofs.YtgjdogkciklgkaaDoor
open Go.RowKit

set_option maxRecDepth 100000 in
set_option maxHeartbeats 2000000 in
theorem recvBad (b : Nat) (st st' : PSt) (key ad f draw : List UInt8) (hW : st.Wf) (hm : misL ad f draw = none) (hpl : planL st (f.take 32) (two f 32) (two f 34) draw = .ok (key, st')) (hg : ¬ goodTag key (ad ++ f.take 36) (f.drop 36)) (a : Nat → Addr) (w : World) (hE : Errs w a) (hT : Tab w) (hp : PAt w 0 b st) :
    Calls Tryd.prog 22 #[.pointer (some ⟨b, 0, none⟩), .string (str ad), .string (str f), .string (str draw)] w fun e w' => e = .returned (.tuple #[.string ⟨#[]⟩, errV a 3]) ∧ Bel w.heap.size w w' := by
  obtain ⟨hla, hlf, hld, hl5⟩ := misL_none hm
  have e0 : plannedL st ad f draw = .ok (key, st') := by unfold plannedL; rw [hm]; exact hpl
  have HC := hide (plannedP 0 b st ad f draw (by unfold maxLen; omega) (by unfold maxLen; omega) (by unfold maxLen; omega) hW a w hE hT hp)
  rw [e0] at HC
  have l1 : (f.take 32).length = 32 := by rw [List.length_take]; omega
  have lk : key.length = 32 := (hW.plan _ _ _ _ l1 (two_lt f 32) (two_lt f 34) hld hpl).2
  have HO : Hid (∀ po w1, Errs w1 a → Tab w1 → Calls Tryd.prog 42 #[.agg #[.string (str key), .pointer po], .string (str ad), .string (str f)] w1 fun e w' => e = .returned (.tuple #[.string ⟨#[]⟩, errV a 3]) ∧ Bel w1.heap.size w1 w') := fun po w1 h1 h2 => openBad key ad f po hla hlf hl5 lk hg a w1 h1 h2
  have HE := hide hE
  have HT := hide hT
  have HP := hide hp
  clear hE hT hp hW hpl hm e0 hg l1
  go_enter Tryd.func22, Tryd.ntmps22
  go_wp2_with fail
  refine HC.out.mono ?_
  rintro e w3 ⟨v, rfl, bx, rfl, hbx, hpx, hbl⟩
  have HB3 := hide hbl
  have HPx := hide hpx
  clear hbl hpx
  have hsz3 := HB3.out.size
  have hbx3 := HPx.out.lt
  have hlt := HP.out.lt
  go_wp2_with fail
  have HB4 : Hid (Bel w.heap.size w (w3.alloc (.cells #[.string (str key), .pointer (some ⟨bx, 0, none⟩)] 71))) := HB3.out.alloc HB3.out.size _
  have HN4 : Hid ((w3.alloc (.cells #[.string (str key), .pointer (some ⟨bx, 0, none⟩)] 71)).heap[w3.heap.size]? = some (.cells #[.string (str key), .pointer (some ⟨bx, 0, none⟩)] 71 (0, 0))) := heap_alloc_new w3 _
  have HX4 : Hid (PAt (w3.alloc (.cells #[.string (str key), .pointer (some ⟨bx, 0, none⟩)] 71)) w.heap.size bx st') := HPx.out.below ((Bel.refl _ _).alloc (Nat.le_refl _) _)
  generalize w3.alloc (.cells #[.string (str key), .pointer (some ⟨bx, 0, none⟩)] 71) = w4 at *
  generalize w3.heap.size = H at *
  have hHl : H < w4.heap.size := (Array.getElem?_eq_some_iff.1 HN4.out).1
  refine (HO.out _ _ (HE.out.below HB4.out) (HT.out.below HB4.out)).mono ?_
  rintro e w5 ⟨rfl, hb5⟩
  have HB5 := hide (HB4.out.trans (hb5.mono HB4.out.size))
  clear hb5
  unfold errV
  go_wp2
  go_ret2
  exact ⟨rfl, HB5.out⟩

theorem PBlk.copy {w : World} {b : Nat} {st : PSt} {v : Value} (h : PBlk w b st v) (st' : PSt) (v' : Value) :
    PBlk (((((((((w.setCell ⟨b, 0, none⟩ (.string (str st'.root))).setCell ⟨b, 1, none⟩ (.string (str st'.secret))).setCell ⟨b, 2, none⟩ (.string (str st'.theirs))).setCell ⟨b, 3, none⟩ (.string (str st'.sk))).setCell ⟨b, 4, none⟩ (.int .i64 (st'.sn : Int))).setCell ⟨b, 5, none⟩ (.int .i64 (st'.before : Int))).setCell ⟨b, 6, none⟩ (.string (str st'.rk))).setCell ⟨b, 7, none⟩ (.int .i64 (st'.rn : Int))).setCell ⟨b, 8, none⟩ v') b st' v' := by
  have h0 := h.set 0 (.string (str st'.root)) { st with root := st'.root } v rfl
  have h1 := h0.set 1 (.string (str st'.secret)) { st with root := st'.root, secret := st'.secret } v rfl
  have h2 := h1.set 2 (.string (str st'.theirs)) { st with root := st'.root, secret := st'.secret, theirs := st'.theirs } v rfl
  have h3 := h2.set 3 (.string (str st'.sk)) { st with root := st'.root, secret := st'.secret, theirs := st'.theirs, sk := st'.sk } v rfl
  have h4 := h3.set 4 (.int .i64 (st'.sn : Int)) { st with root := st'.root, secret := st'.secret, theirs := st'.theirs, sk := st'.sk, sn := st'.sn } v rfl
  have h5 := h4.set 5 (.int .i64 (st'.before : Int)) { st with root := st'.root, secret := st'.secret, theirs := st'.theirs, sk := st'.sk, sn := st'.sn, before := st'.before } v rfl
  have h6 := h5.set 6 (.string (str st'.rk)) { st with root := st'.root, secret := st'.secret, theirs := st'.theirs, sk := st'.sk, sn := st'.sn, before := st'.before, rk := st'.rk } v rfl
  have h7 := h6.set 7 (.int .i64 (st'.rn : Int)) { st with root := st'.root, secret := st'.secret, theirs := st'.theirs, sk := st'.sk, sn := st'.sn, before := st'.before, rk := st'.rk, rn := st'.rn } v rfl
  exact h7.set 8 v' st' v' rfl
theorem Chg.copy {u w : World} {b : Nat} (h : Chg b u w) (st' : PSt) (v' : Value) :
    Chg b u (((((((((w.setCell ⟨b, 0, none⟩ (.string (str st'.root))).setCell ⟨b, 1, none⟩ (.string (str st'.secret))).setCell ⟨b, 2, none⟩ (.string (str st'.theirs))).setCell ⟨b, 3, none⟩ (.string (str st'.sk))).setCell ⟨b, 4, none⟩ (.int .i64 (st'.sn : Int))).setCell ⟨b, 5, none⟩ (.int .i64 (st'.before : Int))).setCell ⟨b, 6, none⟩ (.string (str st'.rk))).setCell ⟨b, 7, none⟩ (.int .i64 (st'.rn : Int))).setCell ⟨b, 8, none⟩ v') :=
  ((((((((h.setCell 0 _).setCell 1 _).setCell 2 _).setCell 3 _).setCell 4 _).setCell 5 _).setCell 6 _).setCell 7 _).setCell 8 _
theorem PBlk.frz {w : World} {b : Nat} {st : PSt} {v : Value} (h : PBlk w b st v) : w.frozen? ⟨b, 0, none⟩ = false ∧ w.frozen? ⟨b, 1, none⟩ = false ∧ w.frozen? ⟨b, 2, none⟩ = false ∧ w.frozen? ⟨b, 3, none⟩ = false ∧ w.frozen? ⟨b, 4, none⟩ = false ∧ w.frozen? ⟨b, 5, none⟩ = false ∧ w.frozen? ⟨b, 6, none⟩ = false ∧ w.frozen? ⟨b, 7, none⟩ = false ∧ w.frozen? ⟨b, 8, none⟩ = false :=
  ⟨h.frozen 0, h.frozen 1, h.frozen 2, h.frozen 3, h.frozen 4, h.frozen 5, h.frozen 6, h.frozen 7, h.frozen 8⟩

set_option maxRecDepth 100000 in
set_option maxHeartbeats 2000000 in
theorem recvOk (b : Nat) (st st' : PSt) (key ad f draw : List UInt8) (hW : st.Wf) (hm : misL ad f draw = none) (hpl : planL st (f.take 32) (two f 32) (two f 34) draw = .ok (key, st')) (hg : goodTag key (ad ++ f.take 36) (f.drop 36)) (a : Nat → Addr) (w : World) (hE : Errs w a) (hT : Tab w) (hp : PAt w 0 b st) :
    Calls Tryd.prog 22 #[.pointer (some ⟨b, 0, none⟩), .string (str ad), .string (str f), .string (str draw)] w fun e w' => e = .returned (.tuple #[.string (str (boxL (k1 key) ((f.drop 36).take ((f.drop 36).length - 16)))), .nilIface]) ∧ PAt w' 0 b st' ∧ Chg b w w' := by
  obtain ⟨hla, hlf, hld, hl5⟩ := misL_none hm
  have e0 : plannedL st ad f draw = .ok (key, st') := by unfold plannedL; rw [hm]; exact hpl
  have HC := hide (plannedP 0 b st ad f draw (by unfold maxLen; omega) (by unfold maxLen; omega) (by unfold maxLen; omega) hW a w hE hT hp)
  rw [e0] at HC
  have l1 : (f.take 32).length = 32 := by rw [List.length_take]; omega
  have lk : key.length = 32 := (hW.plan _ _ _ _ l1 (two_lt f 32) (two_lt f 34) hld hpl).2
  have HO : Hid (∀ po w1, Errs w1 a → Tab w1 → Calls Tryd.prog 42 #[.agg #[.string (str key), .pointer po], .string (str ad), .string (str f)] w1 fun e w' => e = .returned (.tuple #[.string (str (boxL (k1 key) ((f.drop 36).take ((f.drop 36).length - 16)))), .nilIface]) ∧ Bel w1.heap.size w1 w') := fun po w1 h1 h2 => openOk key ad f po hla hlf hl5 lk hg a w1 h1 h2
  generalize boxL (k1 key) ((f.drop 36).take ((f.drop 36).length - 16)) = out at *
  have HE := hide hE
  have HT := hide hT
  have HP := hide hp
  clear hE hT hp hW hpl hm e0 hg l1
  go_enter Tryd.func22, Tryd.ntmps22
  go_wp2_with fail
  refine HC.out.mono ?_
  rintro e w3 ⟨v, rfl, bx, rfl, hbx, hpx, hbl⟩
  have HB3 := hide hbl
  have HPx := hide hpx
  clear hbl hpx
  have hsz3 := HB3.out.size
  have hbx3 := HPx.out.lt
  have hlt := HP.out.lt
  go_wp2_with fail
  have HB4 : Hid (Bel w.heap.size w (w3.alloc (.cells #[.string (str key), .pointer (some ⟨bx, 0, none⟩)] 71))) := HB3.out.alloc HB3.out.size _
  have HN4 : Hid ((w3.alloc (.cells #[.string (str key), .pointer (some ⟨bx, 0, none⟩)] 71)).heap[w3.heap.size]? = some (.cells #[.string (str key), .pointer (some ⟨bx, 0, none⟩)] 71 (0, 0))) := heap_alloc_new w3 _
  have HX4 : Hid (PAt (w3.alloc (.cells #[.string (str key), .pointer (some ⟨bx, 0, none⟩)] 71)) w.heap.size bx st') := HPx.out.below ((Bel.refl _ _).alloc (Nat.le_refl _) _)
  generalize w3.alloc (.cells #[.string (str key), .pointer (some ⟨bx, 0, none⟩)] 71) = w4 at *
  generalize w3.heap.size = H at *
  have hHl : H < w4.heap.size := (Array.getElem?_eq_some_iff.1 HN4.out).1
  obtain ⟨vx, hPx, hOx⟩ := HX4.out
  obtain ⟨ao, c, rfl⟩ := hOx.form
  have HPx4 := hide hPx
  have HOx4 := hide hOx
  have HP4 := hide (HP.out.below HB4.out)
  clear hPx hOx
  refine (HO.out _ _ (HE.out.below HB4.out) (HT.out.below HB4.out)).mono ?_
  rintro e w5 ⟨rfl, hb5⟩
  have HB5 := hide (HB4.out.trans (hb5.mono HB4.out.size))
  have k0' := (hb5.cell (p := ⟨H, 0, none⟩) hHl).trans (rowTwo HN4.out).1
  have m1' := (hb5.cell (p := ⟨H, 1, none⟩) hHl).trans (rowTwo HN4.out).2.1
  have HPx5 := hide (HPx4.out.below hb5)
  have HOx5 := hide (HOx4.out.below hb5)
  have HP5 := hide (HP4.out.below hb5)
  clear hb5
  obtain ⟨vp, hPp, _⟩ := HP5.out
  obtain ⟨p0, p1, p2, p3, p4, p5, p6, p7, p8⟩ := hPp.all
  obtain ⟨f0, f1, f2, f3, f4, f5, f6, f7, f8⟩ := hPp.frz
  obtain ⟨x0, x1, x2, x3, x4, x5, x6, x7, x8⟩ := HPx5.out.all
  have HPp := hide hPp
  clear hPp
  have hne : b ≠ bx := by omega
  go_wp2
  go_ret2
  refine ⟨rfl, ⟨_, HPp.out.copy st' _, ?_⟩, (Chg.of_bel HB5.out).copy st' _⟩
  exact (HOx5.out.base (Nat.zero_le _)).chg ((Chg.of_bel (Bel.refl _ _)).copy st' _) HPp.out (by decide)

/-- Receive, whatever the party and the frame are. -/
theorem recvP (b : Nat) (st : PSt) (ad f draw : List UInt8) (ma : ad.length ≤ maxLen) (mf : f.length ≤ maxLen) (md : draw.length ≤ maxLen) (hW : st.Wf) (a : Nat → Addr) (w : World) (hE : Errs w a) (hT : Tab w) (hp : PAt w 0 b st) :
    Calls Tryd.prog 22 #[.pointer (some ⟨b, 0, none⟩), .string (str ad), .string (str f), .string (str draw)] w fun e w' => e = .returned (resV a (recvL st ad f draw)) ∧ PAt w' 0 b (resS st (recvL st ad f draw)) ∧ Chg b w w' := by
  cases hm : misL ad f draw with
  | some i =>
    have e : recvL st ad f draw = .error i := by
      unfold misL at hm
      unfold recvL
      by_cases h1 : 32 < ad.length ∨ 116 < f.length
      · rw [if_pos h1] at hm ⊢; injection hm with hm; rw [hm]
      · rw [if_neg h1] at hm ⊢
        by_cases h2 : draw.length ≠ 32
        · rw [if_pos h2] at hm ⊢; injection hm with hm; rw [hm]
        · rw [if_neg h2] at hm ⊢
          by_cases h3 : f.length < 52
          · rw [if_pos h3] at hm ⊢; injection hm with hm; rw [hm]
          · rw [if_neg h3] at hm; cases hm
    rw [e]
    exact (recvEr b i st ad f draw ma mf md hW (by unfold plannedL; rw [hm]) a w hE hT hp).mono fun e w' ⟨he, hb⟩ => ⟨he, hp.below hb, Chg.of_bel hb⟩
  | none =>
    have e : recvL st ad f draw = match planL st (f.take 32) (two f 32) (two f 34) draw with
        | .error e => .error e
        | .ok (key, st') => if goodTag key (ad ++ f.take 36) (f.drop 36) then .ok (boxL (k1 key) ((f.drop 36).take ((f.drop 36).length - 16)), st') else .error 3 := by
      unfold misL at hm
      unfold recvL
      by_cases h1 : 32 < ad.length ∨ 116 < f.length
      · rw [if_pos h1] at hm; cases hm
      · rw [if_neg h1] at hm ⊢
        by_cases h2 : draw.length ≠ 32
        · rw [if_pos h2] at hm; cases hm
        · rw [if_neg h2] at hm ⊢
          by_cases h3 : f.length < 52
          · rw [if_pos h3] at hm; cases hm
          · rw [if_neg h3]
            all_goals (generalize planL st (f.take 32) (two f 32) (two f 34) draw = x; rcases x with e | ⟨key, st'⟩ <;> rfl)
    rw [e]
    cases hpl : planL st (f.take 32) (two f 32) (two f 34) draw with
    | error i => exact (recvEr b i st ad f draw ma mf md hW (by unfold plannedL; rw [hm]; exact hpl) a w hE hT hp).mono fun e w' ⟨he, hb⟩ => ⟨he, hp.below hb, Chg.of_bel hb⟩
    | ok x =>
      obtain ⟨key, st'⟩ := x
      by_cases hg : goodTag key (ad ++ f.take 36) (f.drop 36)
      · simp only [if_pos hg]
        exact recvOk b st st' key ad f draw hW hm hpl hg a w hE hT hp
      · simp only [if_neg hg]
        exact (recvBad b st st' key ad f draw hW hm hpl hg a w hE hT hp).mono fun e w' ⟨he, hb⟩ => ⟨he, hp.below hb, Chg.of_bel hb⟩
end Go.Proofs.YtgjdogkciklgkaaDoor
