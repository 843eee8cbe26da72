/-
  Package ratchet's Send.
-/
import Derived.Test.YtgjdogkciklgkaaDoorPd
import Derived.Test.YtgjdogkciklgkaaDoorPc
namespace Go.Proofs.YtgjdogkciklgkaaDoor
open Go.RowKit

def resV (a : Nat → Addr) : Except Nat (List UInt8 × PSt) → Value
  | .ok (t, _) => .tuple #[.string (str t), .nilIface]
  | .error i => .tuple #[.string ⟨#[]⟩, errV a i]
def resS (st : PSt) : Except Nat (List UInt8 × PSt) → PSt
  | .ok (_, s) => s
  | .error _ => st

theorem Errs.chg {w w' : World} {a : Nat → Addr} {b : Nat} (h : Errs w a) (hc : Chg b w w') (hb : w.heap.size ≤ b) : Errs w' a := h.below (hc.bel hb (Nat.le_refl _))

set_option maxRecDepth 100000 in
set_option maxHeartbeats 2000000 in
theorem sendLong (b : Nat) (ad t : List UInt8) (hl : 32 < ad.length ∨ 64 < t.length) (ma : ad.length ≤ maxLen) (mt : t.length ≤ maxLen) (a : Nat → Addr) (w : World) (hE : Errs w a) :
    Calls Tryd.prog 21 #[.pointer (some ⟨b, 0, none⟩), .string (str ad), .string (str t)] w fun e w' => e = .returned (.tuple #[.string ⟨#[]⟩, errV a 0]) ∧ Bel w.heap.size w w' := by
  have za := str_size ad
  have zt := str_size t
  have ma' : ad.length ≤ 9223372036854775807 := by unfold maxLen at ma; omega
  have mt' : t.length ≤ 9223372036854775807 := by unfold maxLen at mt; omega
  have g0 := hE.at.1
  clear ma mt hE
  by_cases h1 : 32 < ad.length
  · clear hl
    go_enter Tryd.func21, Tryd.ntmps21
    go_wp2_with fail
    go_quiet (fail)
    go_wp2
    go_ret2
    exact ⟨rfl, belowN (Bel.refl _ _) _⟩
  · have h2 : 64 < t.length := by omega
    clear hl
    go_enter Tryd.func21, Tryd.ntmps21
    go_wp2_with fail
    go_quiet (fail)
    go_wp2
    go_ret2
    exact ⟨rfl, belowN (Bel.refl _ _) _⟩

set_option maxRecDepth 100000 in
set_option maxHeartbeats 2000000 in
theorem sendNone (base b : Nat) (st : PSt) (ad t : List UInt8) (ha : ad.length ≤ 32) (ht : t.length ≤ 64) (hk : st.sk = []) (a : Nat → Addr) (w : World) (hE : Errs w a) (hp : PAt w base b st) :
    Calls Tryd.prog 21 #[.pointer (some ⟨b, 0, none⟩), .string (str ad), .string (str t)] w fun e w' => e = .returned (.tuple #[.string ⟨#[]⟩, errV a 5]) ∧ Bel w.heap.size w w' := by
  have za := str_size ad
  have zt := str_size t
  have g5 := hE.at.2.2.2.2.2.1
  obtain ⟨v, hP, _⟩ := hp
  have c3 := hP.all.2.2.2.1
  rw [hk] at c3
  clear hE hP
  go_enter Tryd.func21, Tryd.ntmps21
  go_wp2_with fail
  refine (begunP b 3 [] _ c3).mono ?_
  rintro e w1 ⟨rfl, rfl⟩
  go_wp2_with fail
  go_quiet (fail)
  go_wp2
  go_ret2
  exact ⟨rfl, belowN (Bel.refl _ _) _⟩

set_option maxRecDepth 100000 in
set_option maxHeartbeats 2000000 in
theorem sendFull (base b : Nat) (st : PSt) (ad t : List UInt8) (ha : ad.length ≤ 32) (ht : t.length ≤ 64) (hk : st.sk ≠ []) (hn : 30 ≤ st.sn) (hn2 : st.sn ≤ 30) (a : Nat → Addr) (w : World) (hE : Errs w a) (hp : PAt w base b st) :
    Calls Tryd.prog 21 #[.pointer (some ⟨b, 0, none⟩), .string (str ad), .string (str t)] w fun e w' => e = .returned (.tuple #[.string ⟨#[]⟩, errV a 6]) ∧ Bel w.heap.size w w' := by
  have za := str_size ad
  have zt := str_size t
  have g6 := hE.at.2.2.2.2.2.2
  obtain ⟨v, hP, _⟩ := hp
  have c3 := hP.all.2.2.2.1
  have c4 := hP.all.2.2.2.2.1
  have hb : (!st.sk.isEmpty) = true := by cases h : st.sk with
    | nil => exact absurd h hk
    | cons _ _ => rfl
  clear hE hP
  go_enter Tryd.func21, Tryd.ntmps21
  go_wp2_with fail
  refine (begunP b 3 st.sk _ c3).mono ?_
  rintro e w1 ⟨rfl, rfl⟩
  rw [hb]
  go_wp2_with fail
  go_quiet (fail)
  go_wp2
  go_ret2
  exact ⟨rfl, belowN (Bel.refl _ _) _⟩

set_option maxRecDepth 100000 in
set_option maxHeartbeats 2000000 in
theorem sendOk (base b : Nat) (st : PSt) (ad t : List UInt8) (ha : ad.length ≤ 32) (ht : t.length ≤ 64) (hW : st.Wf) (hk : st.sk ≠ []) (hn : st.sn < 30) (w : World) (hT : Tab w) (hG : 7 < b) (hp : PAt w base b st) :
    Calls Tryd.prog 21 #[.pointer (some ⟨b, 0, none⟩), .string (str ad), .string (str t)] w fun e w' => e = .returned (.tuple #[.string (str (frameL st ad t)), .nilIface]) ∧ PAt w' base b (stepS st) ∧ Chg b w w' := by
  have za := str_size ad
  have zt := str_size t
  obtain ⟨v, hP, hO⟩ := hp
  obtain ⟨_, c1, _, c3, c4, c5, _, _, _⟩ := hP.all
  have hb : (!st.sk.isEmpty) = true := by cases h : st.sk with
    | nil => exact absurd h hk
    | cons _ _ => rfl
  have hsl := hW.secret
  have hkl : st.sk.length = 32 := hW.sk.resolve_left hk
  have hbf := hW.before
  have HP := hide hP
  have HO := hide hO
  have HT := hide hT
  have HH : Hid (hdL st = x25519 st.secret nine ++ bigB st.before 2 ++ bigB st.sn 2) := rfl
  have HF : Hid (frameL st ad t = hdL st ++ sealL (mkK st.sk) (ad ++ hdL st) t) := rfl
  have lX := x25519_length st.secret nine
  have lH : (hdL st).length = 36 := by unfold hdL; rw [List.length_append, List.length_append, x25519_length, bigB_length, bigB_length]
  have lM := mkK_length st.sk
  have lS : (sealL (mkK st.sk) (ad ++ hdL st) t).length = t.length + 16 := by unfold sealL; rw [List.length_append, tagL_length, boxL_length]
  have a1 := addS ad (hdL st) (by omega)
  have a2 := addS (hdL st) (sealL (mkK st.sk) (ad ++ hdL st) t) (by omega)
  have lA : (ad ++ hdL st).length ≤ 68 := by rw [List.length_append]; omega
  clear hP hO hT hW
  go_enter Tryd.func21, Tryd.ntmps21
  go_wp2_with fail
  refine (begunP b 3 st.sk _ c3).mono ?_
  rintro e w1 ⟨rfl, rfl⟩
  rw [hb]
  go_wp2_with fail
  rw [← strNine]
  generalize hx : x25519 st.secret nine = sx at *
  have HX := hide hx
  clear hx
  go_region_held3 (fun w' => w'.cell? ⟨b, 1, none⟩ = some (.string (str st.secret)) ∧ w'.cell? ⟨b, 5, none⟩ = some (.int .i64 (st.before : Int)) ∧ w'.cell? ⟨b, 4, none⟩ = some (.int .i64 (st.sn : Int))) (refine ⟨?_, ?_, ?_⟩ <;> assumption) (first | (go_at_call 30; refine (sharedP st.secret nine hsl nine_length _).mono ?_; rintro e w2 ⟨rfl, hb2⟩; rw [HX.out]; have HB2 : Hid (Bel w1.heap.size w1 w2) := Bel.ofDrew hb2; have HP2 := hide (HP.out.below HB2.out); obtain ⟨_, c1, _, c3, c4, c5, _, _, _⟩ := HP2.out.all; clear hb2) | (go_at_call 39; refine (hbytesP sx st.before st.sn lX _).mono ?_; rintro e w3 ⟨rfl, hb3⟩; rw [← HH.out]; have HB3 := hide (HB2.out.trans (hb3.mono HB2.out.size)); have HP3 := hide (HP2.out.below hb3); obtain ⟨_, c1, _, c3, c4, c5, _, _, _⟩ := HP3.out.all; clear hb3))
  clear c1 c3 c4 c5 hb
  generalize hdL st = hd at *
  go_wp2_with fail
  refine (stepB b 3 st.sn st.sk _ 67 (partySize3 st v) (by omega) (by omega) _ (HT.out.below HB3.out) HP3.out.ch3).mono ?_
  rintro e w4 ⟨rfl, hP4, hC4⟩
  have HC4 := hide ((Chg.of_bel (b := b) HB3.out).trans hC4)
  have HP4 : Hid (PBlk w4 b (stepS st) v) := hP4
  have HO4 := hide ((HO.out.below HB3.out).chg hC4 HP3.out (by decide))
  clear hP4 hC4
  generalize mkK st.sk = mk at *
  go_wp2_with fail
  refine (sealTextP mk (ad ++ hd) t lA ht lM _ (HT.out.chg HC4.out hG)).mono ?_
  rintro e w5 ⟨rfl, hb5⟩
  have HC5 := hide (HC4.out.trans (Chg.of_bel hb5))
  have HF5 : Hid (PAt w5 base b (stepS st)) := ⟨v, HP4.out.below hb5, HO4.out.below hb5⟩
  clear hb5
  generalize sealL mk (ad ++ hd) t = sl at *
  go_wp2
  go_ret2
  refine ⟨?_, HF5.out, HC5.out⟩
  rw [HF.out]
  rfl

/-- Send, whatever the party is. -/
theorem sendP (base b : Nat) (st : PSt) (ad t : List UInt8) (ma : ad.length ≤ maxLen) (mt : t.length ≤ maxLen) (hW : st.Wf) (a : Nat → Addr) (w : World) (hE : Errs w a) (hT : Tab w) (hG : 7 < b) (hp : PAt w base b st) :
    Calls Tryd.prog 21 #[.pointer (some ⟨b, 0, none⟩), .string (str ad), .string (str t)] w fun e w' => e = .returned (resV a (sendL st ad t)) ∧ PAt w' base b (resS st (sendL st ad t)) ∧ Chg b w w' := by
  unfold sendL
  by_cases h1 : 32 < ad.length ∨ 64 < t.length
  · rw [if_pos h1]
    exact (sendLong b ad t h1 ma mt a w hE).mono fun e w' ⟨he, hb⟩ => ⟨he, hp.below hb, Chg.of_bel hb⟩
  · rw [if_neg h1]
    by_cases h2 : st.sk = []
    · rw [if_pos h2]
      exact (sendNone base b st ad t (by omega) (by omega) h2 a w hE hp).mono fun e w' ⟨he, hb⟩ => ⟨he, hp.below hb, Chg.of_bel hb⟩
    · rw [if_neg h2]
      by_cases h3 : 30 ≤ st.sn
      · rw [if_pos h3]
        exact (sendFull base b st ad t (by omega) (by omega) h2 h3 hW.sn a w hE hp).mono fun e w' ⟨he, hb⟩ => ⟨he, hp.below hb, Chg.of_bel hb⟩
      · rw [if_neg h3]
        exact sendOk base b st ad t (by omega) (by omega) hW h2 (by omega) w hT hG hp
end Go.Proofs.YtgjdogkciklgkaaDoor
