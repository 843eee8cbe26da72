/-
  Copies: a copy goes on alike; what the one does is nothing to the other.
-/
import Derived.Test.YtgjdogkciklgkaaDoorPh
import Derived.Test.YtgjdogkciklgkaaDoorTk
namespace Go.Proofs.YtgjdogkciklgkaaDoor
open Go.RowKit

theorem sendY (b : Nat) (st st' : PSt) (ad t f : List UInt8) (ma : ad.length ≤ maxLen) (mt : t.length ≤ maxLen) (hW : st.Wf) (h : sendL st ad t = .ok (f, st')) (a : Nat → Addr) (w : World) (hE : Errs w a) (hT : Tab w) (hG : 7 < b) (hp : PAt w 0 b st) :
    Calls Tryd.prog 21 #[.pointer (some ⟨b, 0, none⟩), .string (str ad), .string (str t)] w fun e w' => e = .returned (.tuple #[.string (str f), .nilIface]) ∧ PAt w' 0 b st' ∧ Chg b w w' := by
  have := sendP 0 b st ad t ma mt hW a w hE hT hG hp
  rw [h] at this
  exact this
theorem recvY (b : Nat) (st st' : PSt) (ad f draw t : List UInt8) (ma : ad.length ≤ maxLen) (mf : f.length ≤ maxLen) (md : draw.length ≤ maxLen) (hW : st.Wf) (h : recvL st ad f draw = .ok (t, st')) (a : Nat → Addr) (w : World) (hE : Errs w a) (hT : Tab w) (hp : PAt w 0 b st) :
    Calls Tryd.prog 22 #[.pointer (some ⟨b, 0, none⟩), .string (str ad), .string (str f), .string (str draw)] w fun e w' => e = .returned (.tuple #[.string (str t), .nilIface]) ∧ PAt w' 0 b st' ∧ Chg b w w' := by
  have := recvP b st ad f draw ma mf md hW a w hE hT hp
  rw [h] at this
  exact this
theorem recvN (b i : Nat) (st : PSt) (ad f draw : List UInt8) (ma : ad.length ≤ maxLen) (mf : f.length ≤ maxLen) (md : draw.length ≤ maxLen) (hW : st.Wf) (h : recvL st ad f draw = .error i) (a : Nat → Addr) (w : World) (hE : Errs w a) (hT : Tab w) (hp : PAt w 0 b st) :
    Calls Tryd.prog 22 #[.pointer (some ⟨b, 0, none⟩), .string (str ad), .string (str f), .string (str draw)] w fun e w' => e = .returned (.tuple #[.string ⟨#[]⟩, errV a i]) ∧ PAt w' 0 b st ∧ Chg b w w' := by
  have := recvP b st ad f draw ma mf md hW a w hE hT hp
  rw [h] at this
  exact this

def twoT : List UInt8 := [116, 119, 111]
theorem send_first (A : PSt) (t : List UInt8) (hk : A.sk.length = 32) (hn : A.sn < 30) (ht : t.length ≤ 64) (ad : List UInt8) (ha : ad.length ≤ 32) : sendL A ad t = .ok (frameL A ad t, stepS A) := by
  unfold sendL
  rw [if_neg (by omega), if_neg (by intro h; rw [h] at hk; cases hk), if_neg (by omega)]
theorem copiesPlain (r o d nx t : List UInt8) (hr : r.length = 32) (ho : o.length = 32) (hd : d.length = 32) (hn : nx.length = 32) (ht : t.length ≤ 64) :
    ∃ (A1 A2 B1 B2 D1 D2 : PSt) (f0 f1 : List UInt8), sendL (firstS r (x25519 o nine) d) [] t = .ok (f0, A1) ∧ sendL A1 [] twoT = .ok (f1, A2) ∧ A1.Wf ∧ f0.length = 52 + t.length ∧ f1.length = 55 ∧
      recvL (secondS r o) [] f1 nx = .ok (twoT, D1) ∧ recvL D1 [] f0 nx = .ok (t, D2) ∧ recvL (secondS r o) [] f0 nx = .ok (t, B1) ∧ recvL B1 [] f1 nx = .ok (twoT, B2) ∧ D1.Wf ∧ B1.Wf := by
  have hL := Lk.first r o d
  have hWA := Wf.first r (x25519 o nine) d (x25519_length _ _) hd
  have hWB := Wf.second r o hr ho
  have hk : (firstS r (x25519 o nine) d).sk.length = 32 := turnC_length _ _ _
  have hs0 := send_first (firstS r (x25519 o nine) d) t hk (show 0 < 30 by decide) ht [] (by decide)
  have hs1 := send_first (stepS (firstS r (x25519 o nine) d)) twoT (nxK_length _) (show 1 < 30 by decide) (by decide) [] (by decide)
  have e0 : frameL (firstS r (x25519 o nine) d) [] t = frameL (sentS (firstS r (x25519 o nine) d) 0) [] t := rfl
  have e1 : frameL (stepS (firstS r (x25519 o nine) d)) [] twoT = frameL (sentS (firstS r (x25519 o nine) d) 1) [] twoT := rfl
  have hWA1 := hWA.step (show 0 < 30 by decide)
  have l0 := frame_len (firstS r (x25519 o nine) d) [] t
  have l1 := frame_len (stepS (firstS r (x25519 o nine) d)) [] twoT
  generalize firstS r (x25519 o nine) d = A at *
  generalize secondS r o = B at *
  have hI : RInv A B nx 2 [] B := .inl ⟨rfl, rfl⟩
  obtain ⟨D1, hd1, hI1, _⟩ := hI.step hL hn 1 (by decide) (by decide) (by simp) [] twoT (by decide) (by decide)
  obtain ⟨D2, hd2, _, _⟩ := hI1.step hL hn 0 (by decide) (by decide) (by simp) [] t (by decide) ht
  obtain ⟨B1, hb1, hI2, _⟩ := hI.step hL hn 0 (by decide) (by decide) (by simp) [] t (by decide) ht
  obtain ⟨B2, hb2, _, _⟩ := hI2.step hL hn 1 (by decide) (by decide) (by simp) [] twoT (by decide) (by decide)
  rw [← e1] at hd1 hb2
  rw [← e0] at hd2 hb1
  exact ⟨_, _, B1, B2, D1, D2, _, _, hs0, hs1, hWA1, l0, l1, hd1, hd2, hb1, hb2, hWB.recv _ _ _ hd1, hWB.recv _ _ _ hb1⟩

set_option maxRecDepth 100000 in
set_option maxHeartbeats 1000000 in
theorem copiesOut (r o d nx t : List UInt8) (mr : r.length ≤ maxLen) (mo : o.length ≤ maxLen) (md : d.length ≤ maxLen) (h : ¬ (r.length = 32 ∧ o.length = 32 ∧ d.length = 32)) (a : Nat → Addr) (w : World) (hE : Errs w a) :
    Calls Tryd.prog 12 #[.string (str r), .string (str o), .string (str d), .string (str nx), .string (str t)] w fun e w' => e = .returned (.bool true) ∧ Bel w.heap.size w w' := by
  have HP := hide (pairBad r o d mr mo md h a w hE)
  clear mr mo md h hE
  go_enter Tryd.func12, Tryd.ntmps12
  go_wp2_with fail
  refine HP.out.mono ?_
  rintro e w1 ⟨rfl, hb1⟩
  have HB1 := hide hb1
  clear hb1
  go_wp2
  go_ret
  exact ⟨rfl, HB1.out⟩

set_option maxRecDepth 100000 in
set_option maxHeartbeats 1000000 in
theorem copiesSmall (r o d nx t : List UInt8) (hr : r.length = 32) (ho : o.length = 32) (hd : d.length = 32) (hl : nx.length ≠ 32 ∨ 64 < t.length) (mn : nx.length ≤ maxLen) (mt : t.length ≤ maxLen) (w : World) (hT : Tab w) :
    Calls Tryd.prog 12 #[.string (str r), .string (str o), .string (str d), .string (str nx), .string (str t)] w fun e w' => e = .returned (.bool true) ∧ Bel w.heap.size w w' := by
  have zn := str_size nx
  have zt := str_size t
  have mn' : nx.length ≤ 9223372036854775807 := by unfold maxLen at mn; omega
  have mt' : t.length ≤ 9223372036854775807 := by unfold maxLen at mt; omega
  have HT := hide hT
  clear hT mn mt
  by_cases h1 : nx.length = 32
  · have h2 : 64 < t.length := by omega
    clear hl
    go_enter Tryd.func12, Tryd.ntmps12
    go_wp2_with fail
    refine (pairOk r o d hr ho hd _ HT.out).mono ?_
    rintro e w1 ⟨p, q, rfl, _, _, _, _, hb1⟩
    have HB1 := hide hb1
    clear hb1
    go_wp2
    go_ret
    exact ⟨rfl, HB1.out⟩
  · have bn : ((nx.length : Int) != 32) = true := by rw [bne_iff_ne]; omega
    clear hl
    go_enter Tryd.func12, Tryd.ntmps12
    go_wp2_with fail
    refine (pairOk r o d hr ho hd _ HT.out).mono ?_
    rintro e w1 ⟨p, q, rfl, _, _, _, _, hb1⟩
    have HB1 := hide hb1
    clear hb1
    go_wp2
    go_ret
    exact ⟨rfl, HB1.out⟩

set_option maxRecDepth 100000 in
set_option maxHeartbeats 4000000 in
theorem copiesOk (r o d nx t : List UInt8) (hr : r.length = 32) (ho : o.length = 32) (hd : d.length = 32) (hn : nx.length = 32) (ht : t.length ≤ 64) (a : Nat → Addr) (w : World) (hE : Env w a) :
    Calls Tryd.prog 12 #[.string (str r), .string (str o), .string (str d), .string (str nx), .string (str t)] w fun e w' => e = .returned (.bool true) ∧ Bel w.heap.size w w' := by
  have zn := str_size nx
  have zt := str_size t
  have HE := hide hE.errs
  have HT := hide hE.toTab
  have hGw : 7 < w.heap.size := hE.lt
  clear hE
  obtain ⟨A1, A2, B1, B2, D1, D2, f0, f1, s0, s1, hWA1, l0, l1, rd1, rd2, rb1, rb2, hWD1, hWB1⟩ := copiesPlain r o d nx t hr ho hd hn ht
  have hWA := Wf.first r (x25519 o nine) d (x25519_length _ _) hd
  have hWB := Wf.second r o hr ho
  have HPR := hide (fun w hT => pairOk r o d hr ho hd w hT)
  have hWAk := hWA.kept
  have hWBk := hWB.kept
  generalize firstS r (x25519 o nine) d = A at *
  generalize secondS r o = B at *
  have HS0 := hide s0
  have HS1 := hide s1
  have HRD1 := hide rd1
  have HRD2 := hide rd2
  have HRB1 := hide rb1
  have HRB2 := hide rb2
  have HWA := hide hWA
  have HWB := hide hWB
  have HWA1 := hide hWA1
  have HWD1 := hide hWD1
  have HWB1 := hide hWB1
  have m0 : f0.length ≤ maxLen := by rw [l0]; unfold maxLen; omega
  have m1 : f1.length ≤ maxLen := by rw [l1]; decide
  have mn : nx.length ≤ maxLen := by rw [hn]; decide
  have mt : t.length ≤ maxLen := by unfold maxLen; omega
  have M0 := hide m0
  have M1 := hide m1
  have MN := hide mn
  have MT := hide mt
  have z0 := str_size f0
  have n0 : (str f0).toList ≠ [] := by rw [str_toList]; intro h; rw [h] at l0; simp at l0; omega
  have e0 : (str f0).toList.isEmpty = false := by rw [str_toList]; cases h : f0 with
    | nil => rw [h] at l0; simp at l0; omega
    | cons _ _ => rfl
  clear s0 s1 rd1 rd2 rb1 rb2 hWA hWB hWA1 hWD1 hWB1 m0 m1 mn mt
  go_enter Tryd.func12, Tryd.ntmps12
  go_wp2_with fail
  refine (HPR.out _ HT.out).mono ?_
  rintro e w1 ⟨p, q, rfl, hwp, hpq, hP, hQ, hb1⟩
  have HB1 := hide hb1
  have HP1 := hide hP
  have HQ1 := hide hQ
  have hq1 := hQ.lt
  clear hb1 hP hQ
  go_wp2_with fail
  refine (copyP 0 p A (by omega) _ HP1.out).mono ?_
  rintro e w2 ⟨rfl, hc, hb2⟩
  obtain ⟨c, hcdef⟩ : ∃ c, c = w1.heap.size := ⟨_, rfl⟩
  rw [← hcdef] at hc hb2 hq1 ⊢
  have HB2 := hide (HB1.out.trans (hb2.mono (by rw [hcdef]; exact HB1.out.size)))
  have hb2' : Bel w1.heap.size w1 w2 := by rw [← hcdef]; exact hb2
  have HP2 := hide (HP1.out.below hb2')
  have HQ2 := hide (HQ1.out.below hb2')
  have HC2 := hide (hc.base (Nat.zero_le _))
  clear hc hb2 hb2' hcdef
  go_wp2_with fail
  rw [str_nil]
  refine (sendY p A A1 [] t f0 (by decide) MT.out HWA.out HS0.out a _ (HE.out.below HB2.out) (HT.out.below HB2.out) (by omega) HP2.out).mono ?_
  rintro e w3 ⟨rfl, hp3, hc3⟩
  have HB3 := hide (HB2.out.trans (hc3.bel hwp HB2.out.size))
  have HP3 := hide hp3
  have HQ3 := hide (HQ2.out.chg HP2.out hc3 (by omega))
  have HC3 := hide (HC2.out.chg HP2.out hc3 (by omega))
  clear hp3 hc3
  go_wp2_with fail
  rw [str_nil]
  refine (sendY c A A1 [] t f0 (by decide) MT.out HWA.out HS0.out a _ (HE.out.below HB3.out) (HT.out.below HB3.out) (by omega) HC3.out).mono ?_
  rintro e w4 ⟨rfl, hp4, hc4⟩
  have HB4 := hide (HB3.out.trans (hc4.bel (show w.heap.size ≤ c by omega) HB3.out.size))
  have HP4 := hide (HP3.out.chg HC3.out hc4 (by omega))
  have HQ4 := hide (HQ3.out.chg HC3.out hc4 (by omega))
  clear hp4 hc4
  go_wp2_with fail
  rw [str_nil, show (⟨#[116, 119, 111]⟩ : ByteArray) = str twoT from rfl]
  refine (sendY p A1 A2 [] twoT f1 (by decide) (by decide) HWA1.out HS1.out a _ (HE.out.below HB4.out) (HT.out.below HB4.out) (by omega) HP4.out).mono ?_
  rintro e w5 ⟨rfl, hp5, hc5⟩
  have HB5 := hide (HB4.out.trans (hc5.bel hwp HB4.out.size))
  have HQ5 := hide (HQ4.out.chg HP4.out hc5 (by omega))
  have hq5 := HQ5.out.lt
  clear hp5 hc5
  go_wp2_with fail
  refine (copyP 0 q B (by omega) _ HQ5.out).mono ?_
  rintro e w6 ⟨rfl, hc, hb6⟩
  obtain ⟨x, hxdef⟩ : ∃ x, x = w5.heap.size := ⟨_, rfl⟩
  rw [← hxdef] at hc hb6 hq5 ⊢
  have HB6 := hide (HB5.out.trans (hb6.mono (by rw [hxdef]; exact HB5.out.size)))
  have hb6' : Bel w5.heap.size w5 w6 := by rw [← hxdef]; exact hb6
  have HQ6 := hide (HQ5.out.below hb6')
  have HX6 := hide (hc.base (Nat.zero_le _))
  clear hc hb6 hb6' hxdef
  go_wp2_with fail
  rw [str_nil]
  refine (recvY x B D1 [] f1 nx twoT (by decide) M1.out MN.out HWB.out HRD1.out a _ (HE.out.below HB6.out) (HT.out.below HB6.out) HX6.out).mono ?_
  rintro e w7 ⟨rfl, hp7, hc7⟩
  have HB7 := hide (HB6.out.trans (hc7.bel (show w.heap.size ≤ x by omega) HB6.out.size))
  have HX7 := hide hp7
  have HQ7 := hide (HQ6.out.chg HX6.out hc7 (by omega))
  clear hp7 hc7
  go_wp2_with fail
  rw [str_nil]
  refine (recvY q B B1 [] f0 nx t (by decide) M0.out MN.out HWB.out HRB1.out a _ (HE.out.below HB7.out) (HT.out.below HB7.out) HQ7.out).mono ?_
  rintro e w8 ⟨rfl, hp8, hc8⟩
  have HB8 := hide (HB7.out.trans (hc8.bel (show w.heap.size ≤ q by omega) HB7.out.size))
  have HQ8 := hide hp8
  have HX8 := hide (HX7.out.chg HQ7.out hc8 (by omega))
  clear hp8 hc8
  have hw2 : str twoT = (⟨#[116, 119, 111]⟩ : ByteArray) := rfl
  rw [hw2]
  clear hw2
  go_wp2_with fail
  rw [str_nil]
  refine (recvY x D1 D2 [] f0 nx t (by decide) M0.out MN.out HWD1.out HRD2.out a _ (HE.out.below HB8.out) (HT.out.below HB8.out) HX8.out).mono ?_
  rintro e w9 ⟨rfl, hp9, hc9⟩
  have HB9 := hide (HB8.out.trans (hc9.bel (show w.heap.size ≤ x by omega) HB8.out.size))
  have HQ9 := hide (HQ8.out.chg HX8.out hc9 (by omega))
  clear hp9 hc9
  go_wp2_with fail
  rw [str_nil]
  refine (recvY q B1 B2 [] f1 nx twoT (by decide) M1.out MN.out HWB1.out HRB2.out a _ (HE.out.below HB9.out) (HT.out.below HB9.out) HQ9.out).mono ?_
  rintro e w10 ⟨rfl, hp10, hc10⟩
  have HB10 := hide (HB9.out.trans (hc10.bel (show w.heap.size ≤ q by omega) HB9.out.size))
  clear hp10 hc10
  have hw2 : str twoT = (⟨#[116, 119, 111]⟩ : ByteArray) := rfl
  rw [hw2]
  clear hw2
  go_wp2
  go_ret
  exact ⟨rfl, HB10.out⟩

theorem copiesAny (r o d nx t : List UInt8) (mr : r.length ≤ maxLen) (mo : o.length ≤ maxLen) (md : d.length ≤ maxLen) (mn : nx.length ≤ maxLen) (mt : t.length ≤ maxLen) (a : Nat → Addr) (w : World) (hE : Env w a) :
    Calls Tryd.prog 12 #[.string (str r), .string (str o), .string (str d), .string (str nx), .string (str t)] w fun e w' => e = .returned (.bool true) ∧ Bel w.heap.size w w' := by
  by_cases h : r.length = 32 ∧ o.length = 32 ∧ d.length = 32
  · by_cases h2 : nx.length ≠ 32 ∨ 64 < t.length
    · exact copiesSmall r o d nx t h.1 h.2.1 h.2.2 h2 mn mt w hE.toTab
    · exact copiesOk r o d nx t h.1 h.2.1 h.2.2 (by omega) (by omega) a w hE
  · exact copiesOut r o d nx t mr mo md h a w hE.errs
end Go.Proofs.YtgjdogkciklgkaaDoor
