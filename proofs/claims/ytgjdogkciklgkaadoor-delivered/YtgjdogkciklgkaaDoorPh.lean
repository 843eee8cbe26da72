/-
  Package ratchet's First and Second.
-/
import Derived.Test.YtgjdogkciklgkaaDoorPSend
import Derived.Test.YtgjdogkciklgkaaDoorPTurn
import Derived.Test.YtgjdogkciklgkaaDoorPg
import Derived.Test.YtgjdogkciklgkaaDoorAg
namespace Go.Proofs.YtgjdogkciklgkaaDoor
open Go.RowKit

set_option maxRecDepth 100000 in
set_option maxHeartbeats 1000000 in
theorem firstBad (r t d : List UInt8) (hb : keysB [r, t, d] = false) (mr : r.length ≤ maxLen) (mt : t.length ≤ maxLen) (md : d.length ≤ maxLen) (a : Nat → Addr) (w : World) (hE : Errs w a) :
    Calls Tryd.prog 36 #[.string (str r), .string (str t), .string (str d)] w fun e w' => e = .returned (.tuple #[.pointer none, errV a 1]) ∧ Bel w.heap.size w w' := by
  have HK := hide hb
  have MR := hide mr
  have MT := hide mt
  have MD := hide md
  have g1 := hE.at.2.1
  have l1 := cell_lt g1
  clear hb mr mt md hE
  have HB : Hid (Bel w.heap.size w (w.alloc (.cells #[.string (str r), .string (str t), .string (str d)] 9))) := (Bel.refl _ _).alloc (Nat.le_refl _) _
  have d1 := (HB.out.cell (p := ⟨1, 0, none⟩) l1).trans g1
  go_enter Tryd.func36, Tryd.ntmps36
  go_wp2_with fail
  refine (areKeysP w.heap.size [r, t, d] (by simp) _ (strs3 w r t d) (by intro x hx; simp at hx; rcases hx with rfl | rfl | rfl; exact MR.out; exact MT.out; exact MD.out)).mono ?_
  rintro e w1 ⟨rfl, rfl⟩
  rw [HK.out]
  generalize w.alloc (.cells #[.string (str r), .string (str t), .string (str d)] 9) = w2 at *
  go_wp2_with fail
  go_quiet (fail)
  go_wp2
  go_ret2
  exact ⟨rfl, belowN HB.out _⟩

set_option maxRecDepth 100000 in
set_option maxHeartbeats 1000000 in
theorem secondBad (r o : List UInt8) (hb : keysB [r, o] = false) (mr : r.length ≤ maxLen) (mo : o.length ≤ maxLen) (a : Nat → Addr) (w : World) (hE : Errs w a) :
    Calls Tryd.prog 37 #[.string (str r), .string (str o)] w fun e w' => e = .returned (.tuple #[.pointer none, errV a 1]) ∧ Bel w.heap.size w w' := by
  have HK := hide hb
  have MR := hide mr
  have MO := hide mo
  have g1 := hE.at.2.1
  have l1 := cell_lt g1
  clear hb mr mo hE
  have HB : Hid (Bel w.heap.size w (w.alloc (.cells #[.string (str r), .string (str o)] 9))) := (Bel.refl _ _).alloc (Nat.le_refl _) _
  have d1 := (HB.out.cell (p := ⟨1, 0, none⟩) l1).trans g1
  go_enter Tryd.func37, Tryd.ntmps37
  go_wp2_with fail
  refine (areKeysP w.heap.size [r, o] (by simp) _ (strs2 w r o) (by intro x hx; simp at hx; rcases hx with rfl | rfl; exact MR.out; exact MO.out)).mono ?_
  rintro e w1 ⟨rfl, rfl⟩
  rw [HK.out]
  generalize w.alloc (.cells #[.string (str r), .string (str o)] 9) = w2 at *
  go_wp2_with fail
  go_quiet (fail)
  go_wp2
  go_ret2
  exact ⟨rfl, belowN HB.out _⟩

set_option maxRecDepth 100000 in
set_option maxHeartbeats 1000000 in
theorem secondOk (r o : List UInt8) (hr : r.length = 32) (ho : o.length = 32) (w : World) :
    Calls Tryd.prog 37 #[.string (str r), .string (str o)] w fun e w' => ∃ b, e = .returned (.tuple #[.pointer (some ⟨b, 0, none⟩), .nilIface]) ∧ w.heap.size ≤ b ∧ PAt w' w.heap.size b (secondS r o) ∧ Bel w.heap.size w w' := by
  have HK : Hid (keysB [r, o] = true) := by show keysB [r, o] = true; simp [keysB]; omega
  have HB : Hid (Bel w.heap.size w (w.alloc (.cells #[.string (str r), .string (str o)] 9))) := (Bel.refl _ _).alloc (Nat.le_refl _) _
  go_enter Tryd.func37, Tryd.ntmps37
  go_wp2_with fail
  refine (areKeysP w.heap.size [r, o] (by simp) _ (strs2 w r o) (by intro x hx; simp at hx; rcases hx with rfl | rfl <;> (unfold maxLen; omega))).mono ?_
  rintro e w1 ⟨rfl, rfl⟩
  rw [HK.out]
  generalize w.alloc (.cells #[.string (str r), .string (str o)] 9) = w2 at *
  have HS := HB.out.size
  go_wp2
  go_ret2
  exact ⟨w2.heap.size, rfl, HS, ⟨.slice none 0 0, heap_alloc_new w2 _, World.ownsRow_nil _ _ _ _⟩, HB.out.alloc HS _⟩

set_option maxRecDepth 100000 in
set_option maxHeartbeats 1000000 in
theorem firstOk (r t d : List UInt8) (hr : r.length = 32) (ht : t.length = 32) (hd : d.length = 32) (w : World) (hT : Tab w) :
    Calls Tryd.prog 36 #[.string (str r), .string (str t), .string (str d)] w fun e w' => ∃ b, e = .returned (.tuple #[.pointer (some ⟨b, 0, none⟩), .nilIface]) ∧ w.heap.size ≤ b ∧ PAt w' w.heap.size b (firstS r t d) ∧ Bel w.heap.size w w' := by
  have HK : Hid (keysB [r, t, d] = true) := by show keysB [r, t, d] = true; simp [keysB]; omega
  have HB : Hid (Bel w.heap.size w (w.alloc (.cells #[.string (str r), .string (str t), .string (str d)] 9))) := (Bel.refl _ _).alloc (Nat.le_refl _) _
  have HT := hide hT
  clear hT
  go_enter Tryd.func36, Tryd.ntmps36
  go_wp2_with fail
  refine (areKeysP w.heap.size [r, t, d] (by simp) _ (strs3 w r t d) (by intro x hx; simp at hx; rcases hx with rfl | rfl | rfl <;> (unfold maxLen; omega))).mono ?_
  rintro e w1 ⟨rfl, rfl⟩
  rw [HK.out]
  generalize w.alloc (.cells #[.string (str r), .string (str t), .string (str d)] 9) = w2 at *
  have HS := HB.out.size
  go_wp2_with fail
  have HP3 : Hid (PAt (w2.alloc (.cells (pCells ⟨r, d, t, [], 0, 0, [], 0, []⟩ (.slice none 0 0)) 67)) w.heap.size w2.heap.size ⟨r, d, t, [], 0, 0, [], 0, []⟩) := ⟨.slice none 0 0, heap_alloc_new w2 _, World.ownsRow_nil _ _ _ _⟩
  have HB3 : Hid (Bel w.heap.size w (w2.alloc (.cells (pCells ⟨r, d, t, [], 0, 0, [], 0, []⟩ (.slice none 0 0)) 67))) := HB.out.alloc HS _
  have HW : Hid (PSt.Wf ⟨r, d, t, [], 0, 0, [], 0, []⟩) := ⟨hr, hd, .inr ht, .inl rfl, Nat.zero_le _, Nat.zero_le _, .inl rfl, Nat.zero_le _, fun h => absurd rfl h, Nat.zero_le _, fun k hk => by cases hk⟩
  refine (turnP w.heap.size w2.heap.size ⟨r, d, t, [], 0, 0, [], 0, []⟩ HW.out ht _ (HT.out.below HB3.out) HP3.out HS).mono ?_
  rintro e w4 ⟨rfl, hp4, hb4⟩
  obtain ⟨v4, hP4, hO4⟩ := hp4
  have HB4 := hide (HB3.out.trans hb4)
  obtain ⟨_, _, _, c3, c4, _, _, _, _⟩ := hP4.all
  have f3 := hP4.frozen 3
  have f4 := hP4.frozen 4
  generalize w2.heap.size = b at *
  have HP5 : Hid (PAt ((w4.setCell ⟨b, 3, none⟩ (.string (str (turnC r d t)))).setCell ⟨b, 4, none⟩ (.int .i64 0)) w.heap.size b (firstS r t d)) := by
    have p1 := hP4.set 3 (.string (str (turnC r d t))) ⟨turnR r d t, d, t, turnC r d t, 0, 0, [], 0, []⟩ v4 rfl
    exact ⟨v4, p1.set 4 _ _ _ rfl, (hO4.set hP4 3 _).set p1 4 _⟩
  have HB5 := hide ((HB4.out.setCell (p := ⟨b, 3, none⟩) HS (.string (str (turnC r d t)))).setCell (p := ⟨b, 4, none⟩) HS (.int .i64 0))
  clear hP4 hO4 hb4
  go_wp2
  go_ret2
  exact ⟨b, rfl, HS, HP5.out, HB5.out⟩
end Go.Proofs.YtgjdogkciklgkaaDoor
namespace Go.Proofs.YtgjdogkciklgkaaDoor
open Go.RowKit

theorem secondAny (r o : List UInt8) (mr : r.length ≤ maxLen) (mo : o.length ≤ maxLen) (a : Nat → Addr) (w : World) (hE : Errs w a) :
    Calls Tryd.prog 37 #[.string (str r), .string (str o)] w fun e w' => ∃ q ev, e = .returned (.tuple #[.pointer q, ev]) ∧ Bel w.heap.size w w' := by
  cases hk : keysB [r, o] with
  | false => exact (secondBad r o hk mr mo a w hE).mono fun e w' ⟨he, hb⟩ => ⟨_, _, he, hb⟩
  | true =>
    have h : r.length = 32 ∧ o.length = 32 := by simpa [keysB] using hk
    exact (secondOk r o h.1 h.2 w).mono fun e w' ⟨b, he, _, _, hb⟩ => ⟨_, _, he, hb⟩

set_option maxRecDepth 100000 in
set_option maxHeartbeats 1000000 in
theorem pairBad1 (r o d p : List UInt8) (ev : Value) (mr : r.length ≤ maxLen) (mo : o.length ≤ maxLen) (md : d.length ≤ maxLen) (mp : p.length ≤ maxLen) (hk : keysB [r, p, d] = false) (h1 : r.length ≠ 32)
    (a : Nat → Addr) (HPub : ∀ w, Errs w a → Calls Tryd.prog 15 #[.string (str o)] w fun e w' => e = .returned (.tuple #[.string (str p), ev]) ∧ Bel w.heap.size w w') (w : World) (hE : Errs w a) :
    Calls Tryd.prog 20 #[.string (str r), .string (str o), .string (str d)] w fun e w' => e = .returned (.tuple #[.pointer none, .pointer none, .bool true]) ∧ Bel w.heap.size w w' := by
  have zr := str_size r
  have zo := str_size o
  have zd := str_size d
  have mr' : r.length ≤ 9223372036854775807 := by unfold maxLen at mr; omega
  have mo' : o.length ≤ 9223372036854775807 := by unfold maxLen at mo; omega
  have md' : d.length ≤ 9223372036854775807 := by unfold maxLen at md; omega
  have HP := hide HPub
  have HE := hide hE
  have HF := hide (fun w hE => firstBad r p d hk mr mp md a w hE)
  have HS := hide (fun w hE => secondAny r o mr mo a w hE)
  clear HPub hE mr mo md mp hk
  have br : ((r.length : Int) == 32) = false := by rw [beq_eq_false_iff_ne]; omega
  go_enter Tryd.func20, Tryd.ntmps20
  go_wp2_with fail
  refine (HP.out _ HE.out).mono ?_
  rintro e w1 ⟨rfl, hb1⟩
  have HB1 := hide hb1
  clear hb1
  go_wp2_with fail
  refine (HF.out _ (HE.out.below HB1.out)).mono ?_
  rintro e w2 ⟨rfl, hb2⟩
  have HB2 := hide (HB1.out.trans (hb2.mono HB1.out.size))
  clear hb2 HB1
  unfold errV
  go_wp2_with fail
  refine (HS.out _ (HE.out.below HB2.out)).mono ?_
  rintro e w3 ⟨q, ev3, rfl, hb3⟩
  have HB3 := hide (HB2.out.trans (hb3.mono HB2.out.size))
  clear hb3 HB2
  go_wp2_with fail
  go_quiet (fail)
  go_wp2
  go_ret3
  exact ⟨rfl, belowN HB3.out _⟩

set_option maxRecDepth 100000 in
set_option maxHeartbeats 1000000 in
theorem pairBad2 (r o d p : List UInt8) (ev : Value) (mr : r.length ≤ maxLen) (mo : o.length ≤ maxLen) (md : d.length ≤ maxLen) (mp : p.length ≤ maxLen) (hk : keysB [r, p, d] = false) (h1 : r.length = 32) (h2 : o.length ≠ 32)
    (a : Nat → Addr) (HPub : ∀ w, Errs w a → Calls Tryd.prog 15 #[.string (str o)] w fun e w' => e = .returned (.tuple #[.string (str p), ev]) ∧ Bel w.heap.size w w') (w : World) (hE : Errs w a) :
    Calls Tryd.prog 20 #[.string (str r), .string (str o), .string (str d)] w fun e w' => e = .returned (.tuple #[.pointer none, .pointer none, .bool true]) ∧ Bel w.heap.size w w' := by
  have zr := str_size r
  have zo := str_size o
  have zd := str_size d
  have mr' : r.length ≤ 9223372036854775807 := by unfold maxLen at mr; omega
  have mo' : o.length ≤ 9223372036854775807 := by unfold maxLen at mo; omega
  have md' : d.length ≤ 9223372036854775807 := by unfold maxLen at md; omega
  have HP := hide HPub
  have HE := hide hE
  have HF := hide (fun w hE => firstBad r p d hk mr mp md a w hE)
  have HS := hide (fun w hE => secondAny r o mr mo a w hE)
  clear HPub hE mr mo md mp hk
  have bo : ((o.length : Int) == 32) = false := by rw [beq_eq_false_iff_ne]; omega
  go_enter Tryd.func20, Tryd.ntmps20
  go_wp2_with fail
  refine (HP.out _ HE.out).mono ?_
  rintro e w1 ⟨rfl, hb1⟩
  have HB1 := hide hb1
  clear hb1
  go_wp2_with fail
  refine (HF.out _ (HE.out.below HB1.out)).mono ?_
  rintro e w2 ⟨rfl, hb2⟩
  have HB2 := hide (HB1.out.trans (hb2.mono HB1.out.size))
  clear hb2 HB1
  unfold errV
  go_wp2_with fail
  refine (HS.out _ (HE.out.below HB2.out)).mono ?_
  rintro e w3 ⟨q, ev3, rfl, hb3⟩
  have HB3 := hide (HB2.out.trans (hb3.mono HB2.out.size))
  clear hb3 HB2
  go_wp2_with fail
  go_quiet (fail)
  go_wp2
  go_ret3
  exact ⟨rfl, belowN HB3.out _⟩

set_option maxRecDepth 100000 in
set_option maxHeartbeats 1000000 in
theorem pairBad3 (r o d p : List UInt8) (ev : Value) (mr : r.length ≤ maxLen) (mo : o.length ≤ maxLen) (md : d.length ≤ maxLen) (mp : p.length ≤ maxLen) (hk : keysB [r, p, d] = false) (h1 : r.length = 32) (h2 : o.length = 32) (h3 : d.length ≠ 32)
    (a : Nat → Addr) (HPub : ∀ w, Errs w a → Calls Tryd.prog 15 #[.string (str o)] w fun e w' => e = .returned (.tuple #[.string (str p), ev]) ∧ Bel w.heap.size w w') (w : World) (hE : Errs w a) :
    Calls Tryd.prog 20 #[.string (str r), .string (str o), .string (str d)] w fun e w' => e = .returned (.tuple #[.pointer none, .pointer none, .bool true]) ∧ Bel w.heap.size w w' := by
  have zr := str_size r
  have zo := str_size o
  have zd := str_size d
  have mr' : r.length ≤ 9223372036854775807 := by unfold maxLen at mr; omega
  have mo' : o.length ≤ 9223372036854775807 := by unfold maxLen at mo; omega
  have md' : d.length ≤ 9223372036854775807 := by unfold maxLen at md; omega
  have HP := hide HPub
  have HE := hide hE
  have HF := hide (fun w hE => firstBad r p d hk mr mp md a w hE)
  have HS := hide (fun w hE => secondAny r o mr mo a w hE)
  clear HPub hE mr mo md mp hk
  have bd : ((d.length : Int) == 32) = false := by rw [beq_eq_false_iff_ne]; omega
  go_enter Tryd.func20, Tryd.ntmps20
  go_wp2_with fail
  refine (HP.out _ HE.out).mono ?_
  rintro e w1 ⟨rfl, hb1⟩
  have HB1 := hide hb1
  clear hb1
  go_wp2_with fail
  refine (HF.out _ (HE.out.below HB1.out)).mono ?_
  rintro e w2 ⟨rfl, hb2⟩
  have HB2 := hide (HB1.out.trans (hb2.mono HB1.out.size))
  clear hb2 HB1
  unfold errV
  go_wp2_with fail
  refine (HS.out _ (HE.out.below HB2.out)).mono ?_
  rintro e w3 ⟨q, ev3, rfl, hb3⟩
  have HB3 := hide (HB2.out.trans (hb3.mono HB2.out.size))
  clear hb3 HB2
  go_wp2_with fail
  go_quiet (fail)
  go_wp2
  go_ret3
  exact ⟨rfl, belowN HB3.out _⟩

theorem pairBad (r o d : List UInt8) (mr : r.length ≤ maxLen) (mo : o.length ≤ maxLen) (md : d.length ≤ maxLen) (h : ¬ (r.length = 32 ∧ o.length = 32 ∧ d.length = 32)) (a : Nat → Addr) (w : World) (hE : Errs w a) :
    Calls Tryd.prog 20 #[.string (str r), .string (str o), .string (str d)] w fun e w' => e = .returned (.tuple #[.pointer none, .pointer none, .bool true]) ∧ Bel w.heap.size w w' := by
  by_cases ho : o.length = 32
  · have lx := x25519_length o nine
    have hp := fun w (_ : Errs w a) => rPublicGood o ho w
    have mp : (x25519 o nine).length ≤ maxLen := by rw [lx]; decide
    generalize x25519 o nine = p at *
    have hk : keysB [r, p, d] = false := by
      simp only [keysB, List.all_cons, List.all_nil, Bool.and_true, Bool.and_eq_false_iff, decide_eq_false_iff_not]
      omega
    by_cases hr : r.length = 32
    · exact pairBad3 r o d p _ mr mo md mp hk hr ho (fun hd => h ⟨hr, ho, hd⟩) a hp w hE
    · exact pairBad1 r o d p _ mr mo md mp hk hr a hp w hE
  · have hp := fun w (hE : Errs w a) => rPublicBad o ho mo (a 1) w hE.g1
    have hk : keysB [r, [], d] = false := by
      simp only [keysB, List.all_cons, List.all_nil, Bool.and_true, Bool.and_eq_false_iff, decide_eq_false_iff_not]
      exact .inr (.inl (by decide))
    by_cases hr : r.length = 32
    · exact pairBad2 r o d [] _ mr mo md (by decide) hk hr ho a hp w hE
    · exact pairBad1 r o d [] _ mr mo md (by decide) hk hr a hp w hE

set_option maxRecDepth 100000 in
set_option maxHeartbeats 1000000 in
theorem pairOk (r o d : List UInt8) (hr : r.length = 32) (ho : o.length = 32) (hd : d.length = 32) (w : World) (hT : Tab w) :
    Calls Tryd.prog 20 #[.string (str r), .string (str o), .string (str d)] w fun e w' => ∃ p q, e = .returned (.tuple #[.pointer (some ⟨p, 0, none⟩), .pointer (some ⟨q, 0, none⟩), .bool true]) ∧ w.heap.size ≤ p ∧ p < q ∧ PAt w' 0 p (firstS r (x25519 o nine) d) ∧ PAt w' 0 q (secondS r o) ∧ Bel w.heap.size w w' := by
  have zr := str_size r
  have zo := str_size o
  have zd := str_size d
  have lx := x25519_length o nine
  have HT := hide hT
  clear hT
  go_enter Tryd.func20, Tryd.ntmps20
  go_wp2_with fail
  refine (rPublicGood o ho _).mono ?_
  rintro e w1 ⟨rfl, hb1⟩
  have HB1 := hide hb1
  clear hb1
  generalize hx : x25519 o nine = x at *
  have HX := hide hx
  clear hx
  have zx := str_size x
  have nx := ba_ne (str x) (by omega)
  have mx := ba_em (str x) (by omega)
  go_wp2_with fail
  refine (firstOk r x d hr lx hd _ (HT.out.below HB1.out)).mono ?_
  rintro e w2 ⟨p, rfl, hp, hP, hb2⟩
  have HB2 := hide (HB1.out.trans (hb2.mono HB1.out.size))
  have HP2 := hide (hP.base (Nat.zero_le _))
  have hpw : w.heap.size ≤ p := Nat.le_trans HB1.out.size hp
  clear hb2 hP hp
  go_wp2_with fail
  refine (secondOk r o hr ho _).mono ?_
  rintro e w3 ⟨q, rfl, hq, hQ, hb3⟩
  have HB3 := hide (HB2.out.trans (hb3.mono HB2.out.size))
  have HP3 := hide (HP2.out.below hb3)
  have HQ3 := hide (hQ.base (Nat.zero_le _))
  have hpq : p < q := Nat.lt_of_lt_of_le HP2.out.lt hq
  clear hb3 hQ hq
  go_wp2
  go_ret3
  exact ⟨p, q, rfl, hpw, hpq, by rw [HX.out]; exact HP3.out, HQ3.out, HB3.out⟩
end Go.Proofs.YtgjdogkciklgkaaDoor
