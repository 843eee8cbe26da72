/-
  Spoilt: frames with a bit turned, as plain data.
-/
import Derived.Test.YtgjdogkciklgkaaDoorDu
namespace Go.Proofs.YtgjdogkciklgkaaDoor
open Go.RowKit

theorem byteAt_flipAt (s : List UInt8) (n : Nat) (h : n / 8 < s.length) : byteAt (flipL s n) (n / 8) = byteAt s (n / 8) ^^^ 2 ^ (n % 8) := by
  have hx : byteAt s (n / 8) ^^^ 2 ^ (n % 8) < 256 := Nat.xor_lt_two_pow (n := 8) (byteAt_lt _ _) (Nat.pow_lt_pow_right (by decide) (by omega))
  have h2 : n / 8 < (nums s).length := by rw [nums_length]; exact h
  generalize hy : byteAt s (n / 8) ^^^ 2 ^ (n % 8) = y at *
  have hu : flipL s n = ((nums s).set (n / 8) y).map UInt8.ofNat := by unfold flipL; rw [hy]
  rw [hu]
  unfold byteAt
  simp [h2]
  omega
theorem flip_ne (s : List UInt8) (n : Nat) (h : n < 8 * s.length) : flipL s n ≠ s := by
  intro e
  have := byteAt_flipL s n (by omega)
  rw [e] at this
  exact this rfl
theorem flip_take (s : List UInt8) (n m : Nat) (h : 8 * m ≤ n) : (flipL s n).take m = s.take m := by
  apply byteAt_inj (by rw [List.length_take, List.length_take, flipL_length])
  intro i hi
  rw [List.length_take, flipL_length] at hi
  rw [byteAt_take _ _ _ (by omega), byteAt_take _ _ _ (by omega)]
  exact byteAt_flipL_other _ _ _ (by omega)
theorem flip_two (s : List UInt8) (n i : Nat) (h : 8 * (i + 2) ≤ n) : two (flipL s n) i = two s i := by
  unfold two
  rw [byteAt_flipL_other _ _ _ (by omega), byteAt_flipL_other _ _ _ (by omega)]
theorem flip_drop (s : List UInt8) (n m : Nat) (h : 8 * m ≤ n) : (flipL s n).drop m = flipL (s.drop m) (n - 8 * m) := by
  apply byteAt_inj (by rw [List.length_drop, flipL_length, flipL_length, List.length_drop])
  intro i hi
  rw [byteAt_drop]
  have h8 : (n - 8 * m) / 8 = n / 8 - m := by omega
  by_cases e : m + i = n / 8
  · rw [List.length_drop, flipL_length] at hi
    have e1 : byteAt (flipL s n) (n / 8) = byteAt s (n / 8) ^^^ 2 ^ (n % 8) := byteAt_flipAt s n (by omega)
    have e2 : byteAt (flipL (s.drop m) (n - 8 * m)) ((n - 8 * m) / 8) = byteAt (s.drop m) ((n - 8 * m) / 8) ^^^ 2 ^ ((n - 8 * m) % 8) := byteAt_flipAt (s.drop m) (n - 8 * m) (by rw [List.length_drop]; omega)
    rw [show i = (n - 8 * m) / 8 by omega, e2, show m + (n - 8 * m) / 8 = n / 8 by omega, e1, byteAt_drop, show m + (n - 8 * m) / 8 = n / 8 by omega, show (n - 8 * m) % 8 = n % 8 by omega]
  · rw [byteAt_flipL_other _ _ _ e, byteAt_flipL_other _ _ _ (by omega), byteAt_drop]
/-- A bit of the tag turned: refused. -/
theorem recv_flip (S st : PSt) (ad t draw : List UInt8) (ha : ad.length ≤ 32) (ht : t.length ≤ 64) (hd : draw.length = 32) (hb : S.before < 65536) (hn : S.sn < 65536) (st' : PSt)
    (hp : planL st (x25519 S.secret nine) S.before S.sn draw = .ok (mkK S.sk, st')) (n : Nat) (h1 : 8 * ((frameL S ad t).length - 16) ≤ n) (h2 : n < 8 * (frameL S ad t).length) : recvL st ad (flipL (frameL S ad t) n) draw = .error 3 := by
  have hl := frame_len S ad t
  rw [hl] at h1 h2
  unfold recvL
  rw [flipL_length, if_neg (by omega), if_neg (by omega), if_neg (by omega), flip_take _ _ _ (by omega), flip_two _ _ _ (by omega), flip_two _ _ _ (by omega), flip_take _ _ _ (by omega), flip_drop _ _ _ (by omega),
    frame_take32, frame_two32 _ _ _ hb, frame_two34 _ _ _ hn, frame_take36, frame_drop36, hp]
  have hbad := flip_bad (mkK S.sk) (ad ++ hdL S) t (n - 8 * 36 - 8 * t.length) (by omega)
  rw [show 8 * t.length + (n - 8 * 36 - 8 * t.length) = n - 8 * 36 by omega] at hbad
  simp only [if_neg hbad]
theorem RInv.flip {S R : PSt} {draw : List UInt8} {len : Nat} {done : List Nat} {st : PSt} (h : RInv S R draw len done st) (hl : Lk S R) (hd : draw.length = 32) (n : Nat) (hn : n < len) (h11 : len ≤ 11) (hnd : n ∉ done)
    (ad t : List UInt8) (ha : ad.length ≤ 32) (ht : t.length ≤ 64) (k : Nat) (h1 : 8 * ((frameL (sentS S n) ad t).length - 16) ≤ k) (h2 : k < 8 * (frameL (sentS S n) ad t).length) : recvL st ad (flipL (frameL (sentS S n) ad t) k) draw = .error 3 := by
  have hb : (sentS S n).before < 65536 := hl.bf
  have hsn : (sentS S n).sn < 65536 := by show n < 65536; omega
  rcases h with ⟨rfl, rfl⟩ | ⟨m, hm, hdm, rfl⟩
  · have hp := plan_turn st (x25519 S.secret nine) (sentS S n).before n draw hl.rkept hl.ne hl.rk (by omega)
    rw [← hl.sk] at hp
    exact recv_flip (sentS S n) st ad t draw ha ht hd hb hsn _ hp k h1 h2
  · by_cases hnm : n < m
    · have hp := plan_kept (afterS R (x25519 S.secret nine) draw) S.sk m n (sentS S n).before done draw hnm hnd
      exact recv_flip (sentS S n) _ ad t draw ha ht hd hb hsn _ hp k h1 h2
    · have hp := plan_next (afterS R (x25519 S.secret nine) draw) S.sk hl.skl m n (sentS S n).before done draw hdm (by omega) (by omega)
      exact recv_flip (sentS S n) _ ad t draw ha ht hd hb hsn _ hp k h1 h2

set_option maxRecDepth 100000 in
set_option maxHeartbeats 1000000 in
theorem flippedOut (s : List UInt8) (z : Int) (hs : s.length ≤ 1000) (hz : z < 0 ∨ 8 * (s.length : Int) ≤ z) (w : World) :
    Calls Tryd.prog 19 #[.string (str s), .int .i64 z] w fun e w' => e = .returned (.string (str s)) ∧ Bel w.heap.size w w' := by
  obtain ⟨cap, W, hcv, hh, hb, hWs⟩ := convHead s w (by unfold maxLen; omega)
  have hcs := convHeadS (c := cap) hh
  have hn : (nums s).map UInt8.ofNat = s := by
    unfold nums
    rw [List.map_map]
    apply List.ext_getElem (by simp)
    intro i h1 h2
    simp
  rw [nums_length, hn] at hcs
  have HB := hide hb
  clear hb hh hn
  by_cases h0 : z < 0
  · clear hz
    go_enter Tryd.func19, Tryd.ntmps19
    go_wp2
    go_ret
    exact ⟨rfl, HB.out⟩
  · have h1 : 8 * (s.length : Int) ≤ z := by omega
    clear hz
    go_enter Tryd.func19, Tryd.ntmps19
    go_wp2
    go_ret
    exact ⟨rfl, HB.out⟩
end Go.Proofs.YtgjdogkciklgkaaDoor
namespace Go.Proofs.YtgjdogkciklgkaaDoor
open Go.RowKit

def sT : List UInt8 := [115]
def onT : List UInt8 := [111, 110]
theorem fewx_le (T : List (List UInt8)) (k : Nat) : ∀ s ∈ fewL T k ++ [xT], s.length ≤ 64 := by
  intro s hs
  rw [List.mem_append] at hs
  rcases hs with hs | hs
  · exact few_le T k s (List.mem_append_left _ hs)
  · simp at hs; subst hs; decide

set_option maxRecDepth 100000 in
set_option maxHeartbeats 1000000 in
theorem spoOut (r o d nx : List UInt8) (vt vo : Value) (mr : r.length ≤ maxLen) (mo : o.length ≤ maxLen) (md : d.length ≤ maxLen) (h : ¬ (r.length = 32 ∧ o.length = 32 ∧ d.length = 32)) (a : Nat → Addr) (w : World) (hE : Errs w a) :
    Calls Tryd.prog 11 #[.string (str r), .string (str o), .string (str d), .string (str nx), vt, vo] w fun e w' => e = .returned (.bool true) ∧ Bel w.heap.size w w' := by
  have HP := hide (pairBad r o d mr mo md h a w hE)
  clear mr mo md h hE
  go_enter Tryd.func11, Tryd.ntmps11
  go_wp2_with fail
  refine HP.out.mono ?_
  rintro e w1 ⟨rfl, hb1⟩
  have HB1 := hide hb1
  clear hb1
  go_wp2
  go_ret
  exact ⟨rfl, HB1.out⟩

set_option maxRecDepth 100000 in
set_option maxHeartbeats 1000000 in
theorem spoShort (r o d nx : List UInt8) (vt vo : Value) (hr : r.length = 32) (ho : o.length = 32) (hd : d.length = 32) (mn : nx.length ≤ maxLen) (hn : nx.length ≠ 32) (w : World) (hT : Tab w) :
    Calls Tryd.prog 11 #[.string (str r), .string (str o), .string (str d), .string (str nx), vt, vo] w fun e w' => e = .returned (.bool true) ∧ Bel w.heap.size w w' := by
  have zn := str_size nx
  have mn' : nx.length ≤ 9223372036854775807 := by unfold maxLen at mn; omega
  have bn : ((nx.length : Int) != 32) = true := by rw [bne_iff_ne]; omega
  have HT := hide hT
  clear hT mn
  go_enter Tryd.func11, Tryd.ntmps11
  go_wp2_with fail
  refine (pairOk r o d hr ho hd _ HT.out).mono ?_
  rintro e w1 ⟨p, q, rfl, _, _, _, _, hb1⟩
  have HB1 := hide hb1
  clear hb1
  go_wp2
  go_ret
  exact ⟨rfl, HB1.out⟩

set_option maxRecDepth 100000 in
set_option maxHeartbeats 8000000 in
theorem spoOk (r o d nx : List UInt8) (aT aO : Option Addr) (cT cO : Nat) (T : List (List UInt8)) (O : List Int) (hr : r.length = 32) (ho : o.length = 32) (hd : d.length = 32) (hn : nx.length = 32)
    (hTl : T.length ≤ maxLen) (hTm : ∀ s ∈ T, s.length ≤ maxLen) (hOl : O.length ≤ maxLen) (hOw : ∀ z ∈ O, -9223372036854775808 ≤ z ∧ z ≤ 9223372036854775807) (a : Nat → Addr) (w : World) (hE : Env w a) (hrT : RdS w aT T) (hrO : RdI w aO O) :
    Calls Tryd.prog 11 #[.string (str r), .string (str o), .string (str d), .string (str nx), .slice aT T.length cT, .slice aO O.length cO] w fun e w' => e = .returned (.bool true) ∧ Bel w.heap.size w w' := by
  have zn := str_size nx
  obtain ⟨i0, hi, hz0, hz1, hz2⟩ := info_parts Tryd.infoStr
  have HI := hide hi
  have HZ0 := hide hz0
  have HZ1 := hide hz1
  have HZ2 := hide hz2
  have HE := hide hE
  have hGw := hE.lt
  have HRT := hide hrT
  have HRO := hide hrO
  have HPR := hide (fun w hT => pairOk r o d hr ho hd w hT)
  have HTl := hide hTl
  have HTm := hide hTm
  have HOw := hide hOw
  have hOl' : O.length ≤ 9223372036854775807 := by unfold maxLen at hOl; omega
  have HWA := hide (Wf.first r (x25519 o nine) d (x25519_length _ _) hd)
  have HWB := hide (Wf.second r o hr ho)
  have HLK := hide (Lk.first r o d)
  have MN : Hid (nx.length ≤ maxLen) := by show _ ≤ _; rw [hn]; decide
  have HA0 : Hid (sentS (firstS r (x25519 o nine) d) 0 = firstS r (x25519 o nine) d) := rfl
  have hBk : (secondS r o).kept.length ≤ 1000 := Nat.zero_le _
  have HTC : Hid (∀ m, (endS (firstS r (x25519 o nine) d) (secondS r o) nx m).sk.length = 32 ∧ (endS (firstS r (x25519 o nine) d) (secondS r o) nx m).sn = 0) := fun m => ⟨turnC_length _ _ _, rfl⟩
  clear hi hz0 hz1 hz2 hE hrT hrO hTl hTm hOl hOw
  generalize firstS r (x25519 o nine) d = A at *
  generalize secondS r o = B at *
  go_enter Tryd.func11, Tryd.ntmps11
  go_wp2_with fail
  refine (HPR.out _ HE.out.toTab).mono ?_
  rintro e w1 ⟨p, q, rfl, hwp, hpq, hP, hQ, hb1⟩
  have HB1 := hide hb1
  have HP1 := hide hP
  have HQ1 := hide hQ
  have hq0 : w.heap.size ≤ q := by omega
  clear hb1 hP hQ
  go_wp2_with fail
  refine (fewP aT T 5 cT (by decide) HTl.out HTm.out _ (HRT.out.below HB1.out)).mono ?_
  rintro e w3 ⟨v, rfl, hv, hb3⟩
  have HV3 := hide hv
  have HB3 := hide (HB1.out.trans (hb3.mono HB1.out.size))
  have HP3 := hide (HP1.out.below hb3)
  have HQ3 := hide (HQ1.out.below hb3)
  have hs3 := hb3.size
  clear hv hb3
  generalize hm : min 5 T.length = m at *
  have hm10 : m ≤ 5 := by omega
  have hmT : m ≤ T.length := by omega
  clear hm
  go_wp2_with (at_builtin; go_must (refine wpList_append_own _ rfl (.tmp 55) (.tmp 56) 38 rfl w1.heap.size 9 i0 (.string ⟨#[]⟩) 1 16 Tryd.underlying38 HI.out HZ0.out HZ1.out HZ2.out rfl (by decide) _ _ _ rfl (HV3.out.alloc _) ⟨w3.heap.size, 0, none⟩ 1 1 [.string (str xT)] rfl rfl (one_newS w3 _ _) (by intro u hu; simp at hu; subst hu; rfl) (by unfold maxLen; omega) (by omega) (by simp; omega) ?_); intro v4 w4 ho4 hg4 _; obtain ⟨g, c, rfl⟩ := formR ho4 (by omega))
  have HV4 : Hid (w4.ownsRow 0 9 1 (.slice (some ⟨g, 0, none⟩) (m + 1) c) (m + 1) (strV (fewL T m ++ [xT]))) := ownS_base (by rw [strV_append]; exact ho4)
  have HP4 := hide (pAt_grown HP3.out HV3.out hg4)
  have HQ4 := hide (pAt_grown HQ3.out HV3.out hg4)
  have HB4 : Hid (Bel w.heap.size w w4) := (HB3.out.alloc HB3.out.size _).grown hg4 (by have := HB3.out.size; simp; omega) (fun k hk => Nat.le_trans HB1.out.size (ownS_row HV3.out k hk).1)
  have lL : (fewL T m ++ [xT]).length = m + 1 := by rw [List.length_append, fewL_length _ _ hmT]; rfl
  have HLL := hide (fewx_le T m)
  clear ho4 hg4 HV3 HP3 HQ3
  generalize fewL T m ++ [xT] = L at *
  refine (copyP 0 q B hBk _ HQ4.out).mono ?_
  rintro e w5 ⟨rfl, hx5, hb5⟩
  have hq4 := HQ4.out.lt
  have HB5 := hide (HB4.out.trans (hb5.mono HB4.out.size))
  have HP5 := hide (HP4.out.below hb5)
  have HQ5 := hide (HQ4.out.below hb5)
  have HV5 := hide (ownS_below HV4.out hb5)
  have HX5 := hide (hx5.base (Nat.zero_le _))
  generalize w4.heap.size = x at *
  have hx0 : w.heap.size ≤ x := by omega
  clear hx5 hb5 HP4 HQ4 HV4 HB4
  obtain ⟨n, hnm⟩ : ∃ n, n = m + 1 := ⟨_, rfl⟩
  rw [← hnm] at HV5 lL ⊢
  have hn1 : 0 < n := by omega
  have hn6 : n ≤ 6 := by omega
  clear hnm hm10 hmT
  go_wp2
  go_loopw [18, 19, 20, 21, 22, 23, 24, 25, 26, 27, 28] (fun tt _ _ _ _ _ _ _ _ _ _ wr => ∃ (i : Nat) (st : PSt), i ≤ n ∧ tt = .int .i64 i ∧ PAt wr 0 p (sentS A i) ∧ (sentS A i).Wf ∧ PAt wr 0 q st ∧ PAt wr 0 x st ∧ st.Wf ∧ RInv A B nx n (List.range i).reverse st ∧ wr.ownsRow 0 9 1 (.slice (some ⟨g, 0, none⟩) n c) n (strV L) ∧ Bel w.heap.size w wr) (fun tt _ _ _ _ _ _ _ _ _ _ _ => n - (intOf tt).toNat)
  case atStart => exact ⟨0, B, Nat.zero_le _, rfl, by rw [HA0.out]; exact HP5.out, by rw [HA0.out]; exact HWA.out, HQ5.out, HX5.out, HWB.out, .inl ⟨rfl, rfl⟩, HV5.out, HB5.out⟩
  case round =>
    clear HP5 HQ5 HX5 HV5 HB5
    obtain ⟨i, st, hi, rfl, hp, hWp, hq, hx, hWst, hIv, hv, hB⟩ := hrel
    have HP := hide hp
    have HWp := hide hWp
    have HQ := hide hq
    have HX := hide hx
    have HWs := hide hWst
    have HV := hide hv
    have HB := hide hB
    by_cases hin : i < n
    · have c0 := ownS_cells hv lL i hin
      have ltx : (L.getD i []).length ≤ 64 := HLL.out _ (by rw [getD_in _ _ (by omega)]; exact List.getElem_mem _)
      have HS := hide (send_first (sentS A i) (L.getD i []) (nxN_length _ HLK.out.skl _) (show i < 30 by omega) ltx sT (by decide))
      have HW1 : Hid ((sentS A (i + 1)).Wf) := HWp.out.step (show i < 30 by omega)
      have hnd : i ∉ (List.range i).reverse := by rw [List.mem_reverse, List.mem_range]; omega
      have er : (List.range (i + 1)).reverse = i :: (List.range i).reverse := by rw [List.range_succ, List.reverse_append]; rfl
      obtain ⟨st', hr1, hI1, _⟩ := hIv.step HLK.out hn i hin (by omega) hnd sT (L.getD i []) (by decide) ltx
      have HFL := hide (fun k => hIv.flip HLK.out hn i hin (by omega) hnd sT (L.getD i []) (by decide) ltx k)
      have hlf := frame_len (sentS A i) sT (L.getD i [])
      rw [← er] at hI1
      have HI1 := hide hI1
      have HR1 := hide hr1
      have HWs1 := hide (hWst.recv _ _ _ hr1)
      have HCV : Hid (∀ W : World, W.ownsRow 0 9 1 (.slice (some ⟨g, 0, none⟩) n c) n (strV L) → W.cell? ⟨g, i, none⟩ = some (.string (str (L.getD i [])))) := fun W h => ownS_cells h lL i hin
      have hiz : (i : Int) < (n : Int) := by omega
      have hkl := hWst.kept
      clear hp hWp hq hx hWst hIv hv hB hnd er hI1 hr1
      have HST : Hid (stepS (sentS A i) = sentS A (i + 1)) := rfl
      rw [HST.out] at HS
      generalize frameL (sentS A i) sT (L.getD i []) = f at *
      generalize L.getD i [] = t at *
      have MF : Hid (f.length ≤ maxLen) := by show _ ≤ _; rw [hlf]; unfold maxLen; omega
      have zf := str_size f
      have nf : (str f).toList ≠ [] := by rw [str_toList]; intro h; rw [h] at hlf; simp at hlf; omega
      have ef : (str f).toList.isEmpty = false := by rw [str_toList]; cases h : f with
        | nil => rw [h] at hlf; simp at hlf; omega
        | cons _ _ => rfl
      go_wp2_with fail
      rw [show (⟨#[115]⟩ : ByteArray) = str sT from rfl]
      refine (sendY p (sentS A i) (sentS A (i + 1)) sT t f (by decide) (by unfold maxLen; omega) HWp.out HS.out a _ (HE.out.errs.below HB.out) (HE.out.toTab.below HB.out) (by omega) HP.out).mono ?_
      rintro e w1' ⟨rfl, hp1, hc1⟩
      have HP1' := hide hp1
      have HQ1' := hide (HQ.out.chg HP.out hc1 (by omega))
      have HX1' := hide (HX.out.chg HP.out hc1 (by omega))
      have HV1' := hide (ownS_chg HV.out HP.out hc1)
      have HB1' := hide (HB.out.trans (hc1.bel hwp HB.out.size))
      clear hp1 hc1 c0 HP HQ HX HV HB
      go_wp2
      go_loopw [21, 22, 23, 24] (fun tt _ _ _ wr2 => ∃ k : Nat, k ≤ 4 ∧ tt = .int .i64 k ∧ PAt wr2 0 p (sentS A (i + 1)) ∧ PAt wr2 0 q st ∧ PAt wr2 0 x st ∧ wr2.ownsRow 0 9 1 (.slice (some ⟨g, 0, none⟩) n c) n (strV L) ∧ Bel w.heap.size w wr2) (fun tt _ _ _ _ => 4 - (intOf tt).toNat)
      case atStart => exact ⟨0, by decide, rfl, HP1'.out, HQ1'.out, HX1'.out, HV1'.out, HB1'.out⟩
      case round =>
        clear HP1' HQ1' HX1' HV1' HB1'
        obtain ⟨k, hk, rfl, hp, hq, hx, hv, hB⟩ := hrel
        have HP := hide hp
        have HQ := hide hq
        have HX := hide hx
        have HV := hide hv
        have HB := hide hB
        have hql := hq.lt
        have hxl := hx.lt
        have hpl := hp.lt
        clear hp hq hx hv hB
        by_cases hkO : k < O.length
        · by_cases hk4 : k < 4
          · obtain ⟨go, oo, rfl, hgo, hco⟩ := HRO.out (by omega)
            have cz := (HB.out.cell (p := ⟨go, oo + k, none⟩) hgo).trans (hco k hkO)
            have hwz := HOw.out (O.getD k 0) (by rw [getD_in _ _ hkO]; exact List.getElem_mem _)
            have hcz0 := hco k hkO
            clear hco
            generalize O.getD k 0 = z at *
            have hkz : (k : Int) < (O.length : Int) := by omega
            have hkz4 : (k : Int) < 4 := by omega
            have HCZ : Hid (w.cell? ⟨go, oo + k, none⟩ = some (.int .i64 z)) := hcz0
            have cz0 := HCZ.out
            by_cases hz : z < 0 ∨ 8 * (f.length : Int) ≤ z
            · go_wp2_with fail
              refine (flippedOut f z (by omega) hz _).mono ?_
              rintro e w1 ⟨rfl, hb1⟩
              have HB1 := hide (HB.out.trans (hb1.mono HB.out.size))
              have HP1 := hide (HP.out.below hb1)
              have HQ1 := hide (HQ.out.below hb1)
              have HX1 := hide (HX.out.below hb1)
              have HV1 := hide (ownS_below HV.out hb1)
              have cz1 := (HB1.out.cell (p := ⟨go, oo + k, none⟩) hgo).trans cz0
              clear hb1 cz HP HQ HX HV HB
              go_wp2_with fail
              refine (copyP 0 q st (by omega) _ HQ1.out).mono ?_
              rintro e w2 ⟨rfl, hy2, hb2⟩
              have HP2 := hide (HP1.out.below hb2)
              have HQ2 := hide (HQ1.out.below hb2)
              have HX2 := hide (HX1.out.below hb2)
              have HV2 := hide (ownS_below HV1.out hb2)
              have HB2 := hide (HB1.out.trans (hb2.mono HB1.out.size))
              have HY2 := hide (hy2.base (Nat.zero_le _))
              have hq2 := HQ1.out.lt
              have hx2 := HX1.out.lt
              have hp2 := HP1.out.lt
              have hw2 := HB1.out.size
              generalize w1.heap.size = y at *
              clear hy2 hb2 HP1 HQ1 HX1 HV1 HB1
              go_wp2_with fail
              rw [show (⟨#[115]⟩ : ByteArray) = str sT from rfl]
              refine (recvY y st st' sT f nx t (by decide) MF.out MN.out HWs.out HR1.out a _ (HE.out.errs.below HB2.out) (HE.out.toTab.below HB2.out) HY2.out).mono ?_
              rintro e w3 ⟨rfl, hy3, hc3⟩
              have HP3 := hide (HP2.out.chg HY2.out hc3 (by omega))
              have HQ3 := hide (HQ2.out.chg HY2.out hc3 (by omega))
              have HX3 := hide (HX2.out.chg HY2.out hc3 (by omega))
              have HV3 := hide (ownS_chg HV2.out HY2.out hc3)
              have HB3 := hide (HB2.out.trans (hc3.bel hw2 HB2.out.size))
              clear hy3 hc3 HP2 HQ2 HX2 HV2 HB2 HY2 hz
              go_wp2
              go_roundw
              case rel => exact ⟨k + 1, by omega, by go_num, HP3.out, HQ3.out, HX3.out, HV3.out, HB3.out⟩
              case measure => simp [intOf]; omega
            · obtain ⟨zn', rfl⟩ := Int.eq_ofNat_of_zero_le (show 0 ≤ z by omega)
              have hzl : zn' < 8 * f.length := by omega
              clear hz
              have HNE := hide (flip_ne f zn' hzl)
              have hld := flipL_length f zn'
              have HFk := hide (HFL.out zn')
              go_wp2_with fail
              refine (flippedP f zn' (by omega) hzl _).mono ?_
              rintro e w1 ⟨rfl, hb1⟩
              have HB1 := hide (HB.out.trans (hb1.mono HB.out.size))
              have HP1 := hide (HP.out.below hb1)
              have HQ1 := hide (HQ.out.below hb1)
              have HX1 := hide (HX.out.below hb1)
              have HV1 := hide (ownS_below HV.out hb1)
              have cz1 := (HB1.out.cell (p := ⟨go, oo + k, none⟩) hgo).trans cz0
              clear hb1 cz HP HQ HX HV HB
              generalize flipL f zn' = df at *
              have zd := str_size df
              have ed := str_toList df
              have ef2 := str_toList f
              have hbq : (df == f) = false := by rw [beq_eq_false_iff_ne]; exact HNE.out
              have MD : Hid (df.length ≤ maxLen) := by show _ ≤ _; rw [hld]; exact MF.out
              go_wp2_with fail
              refine (copyP 0 q st (by omega) _ HQ1.out).mono ?_
              rintro e w2 ⟨rfl, hy2, hb2⟩
              have HP2 := hide (HP1.out.below hb2)
              have HQ2 := hide (HQ1.out.below hb2)
              have HX2 := hide (HX1.out.below hb2)
              have HV2 := hide (ownS_below HV1.out hb2)
              have HB2 := hide (HB1.out.trans (hb2.mono HB1.out.size))
              have HY2 := hide (hy2.base (Nat.zero_le _))
              have hq2 := HQ1.out.lt
              have hx2 := HX1.out.lt
              have hp2 := HP1.out.lt
              have hw2 := HB1.out.size
              generalize w1.heap.size = y at *
              clear hy2 hb2 HP1 HQ1 HX1 HV1 HB1
              go_wp2_with fail
              rw [show (⟨#[115]⟩ : ByteArray) = str sT from rfl]
              cases hres : recvL st sT df nx with
              | ok xr =>
                obtain ⟨tt, st2⟩ := xr
                have hlow : zn' < 8 * (f.length - 16) := by
                  rcases Nat.lt_or_ge zn' (8 * (f.length - 16)) with h | h
                  · exact h
                  · have := HFk.out h hzl
                    rw [this] at hres
                    cases hres
                have hlow' : (zn' : Int) < 8 * (52 + (t.length : Int) - 16) := by omega
                refine (recvY y st st2 sT df nx tt (by decide) MD.out MN.out HWs.out hres a _ (HE.out.errs.below HB2.out) (HE.out.toTab.below HB2.out) HY2.out).mono ?_
                rintro e w3 ⟨rfl, hy3, hc3⟩
                have HB3 := hide (HB2.out.trans (hc3.bel hw2 HB2.out.size))
                have cz3 := (HB3.out.cell (p := ⟨go, oo + k, none⟩) hgo).trans cz0
                clear hy3 hc3 HP2 HQ2 HX2 HV2 HB2 HY2 hlow hres
                go_wp2
                go_ret
                first | exact ⟨rfl, HB3.out⟩ | exact ⟨by rw [decide_eq_true hlow']; rfl, HB3.out⟩
              | error je =>
                have HRE := hide hres
                clear hres
                refine (recvN y je st sT df nx (by decide) MD.out MN.out HWs.out HRE.out a _ (HE.out.errs.below HB2.out) (HE.out.toTab.below HB2.out) HY2.out).mono ?_
                rintro e w3 ⟨rfl, hy3, hc3⟩
                have HP3 := hide (HP2.out.chg HY2.out hc3 (by omega))
                have HQ3 := hide (HQ2.out.chg HY2.out hc3 (by omega))
                have HX3 := hide (HX2.out.chg HY2.out hc3 (by omega))
                have HV3 := hide (ownS_chg HV2.out HY2.out hc3)
                have HB3 := hide (HB2.out.trans (hc3.bel hw2 HB2.out.size))
                clear hy3 hc3 HP2 HQ2 HX2 HV2 HB2 HY2
                unfold errV
                go_wp2_with fail
                rw [show (⟨#[115]⟩ : ByteArray) = str sT from rfl]
                refine (recvN q je st sT df nx (by decide) MD.out MN.out HWs.out HRE.out a _ (HE.out.errs.below HB3.out) (HE.out.toTab.below HB3.out) HQ3.out).mono ?_
                rintro e w4 ⟨rfl, hq4', hc4⟩
                have HP4 := hide (HP3.out.chg HQ3.out hc4 (by omega))
                have HQ4 := hide hq4'
                have HX4 := hide (HX3.out.chg HQ3.out hc4 (by omega))
                have HV4 := hide (ownS_chg HV3.out HQ3.out hc4)
                have HB4 := hide (HB3.out.trans (hc4.bel hq0 HB3.out.size))
                clear hq4' hc4 HP3 HQ3 HX3 HV3 HB3
                unfold errV
                go_wp2
                go_roundw
                case rel => exact ⟨k + 1, by omega, by go_num, HP4.out, HQ4.out, HX4.out, HV4.out, HB4.out⟩
                case measure => simp [intOf]; omega
          · have h1 : (k : Int) < (O.length : Int) := by omega
            have h2 : ¬ (k : Int) < 4 := by omega
            go_wp2_with fail
            rw [show (⟨#[115]⟩ : ByteArray) = str sT from rfl]
            refine (recvY q st st' sT f nx t (by decide) MF.out MN.out HWs.out HR1.out a _ (HE.out.errs.below HB.out) (HE.out.toTab.below HB.out) HQ.out).mono ?_
            rintro e w2 ⟨rfl, hq2, hc2⟩
            have HP2 := hide (HP.out.chg HQ.out hc2 (by omega))
            have HQ2 := hide hq2
            have HX2 := hide (HX.out.chg HQ.out hc2 (by omega))
            have HV2 := hide (ownS_chg HV.out HQ.out hc2)
            have HB2 := hide (HB.out.trans (hc2.bel hq0 HB.out.size))
            clear hq2 hc2
            go_wp2_with fail
            rw [show (⟨#[115]⟩ : ByteArray) = str sT from rfl]
            refine (recvY x st st' sT f nx t (by decide) MF.out MN.out HWs.out HR1.out a _ (HE.out.errs.below HB2.out) (HE.out.toTab.below HB2.out) HX2.out).mono ?_
            rintro e w3 ⟨rfl, hx3, hc3⟩
            have HP3 := hide (HP2.out.chg HX2.out hc3 (by omega))
            have HQ3 := hide (HQ2.out.chg HX2.out hc3 (by omega))
            have HX3 := hide hx3
            have HV3 := hide (ownS_chg HV2.out HX2.out hc3)
            have HB3 := hide (HB2.out.trans (hc3.bel hx0 HB2.out.size))
            have cV3 := HCV.out w3 HV3.out
            clear hx3 hc3
            go_wp2
            go_roundw
            case rel => exact ⟨i + 1, st', by omega, by go_num, HP3.out, HW1.out, HQ3.out, HX3.out, HWs1.out, HI1.out, HV3.out, HB3.out⟩
            case measure => simp [intOf]; omega
        · have h1 : ¬ (k : Int) < (O.length : Int) := by omega
          go_wp2_with fail
          rw [show (⟨#[115]⟩ : ByteArray) = str sT from rfl]
          refine (recvY q st st' sT f nx t (by decide) MF.out MN.out HWs.out HR1.out a _ (HE.out.errs.below HB.out) (HE.out.toTab.below HB.out) HQ.out).mono ?_
          rintro e w2 ⟨rfl, hq2, hc2⟩
          have HP2 := hide (HP.out.chg HQ.out hc2 (by omega))
          have HQ2 := hide hq2
          have HX2 := hide (HX.out.chg HQ.out hc2 (by omega))
          have HV2 := hide (ownS_chg HV.out HQ.out hc2)
          have HB2 := hide (HB.out.trans (hc2.bel hq0 HB.out.size))
          clear hq2 hc2
          go_wp2_with fail
          rw [show (⟨#[115]⟩ : ByteArray) = str sT from rfl]
          refine (recvY x st st' sT f nx t (by decide) MF.out MN.out HWs.out HR1.out a _ (HE.out.errs.below HB2.out) (HE.out.toTab.below HB2.out) HX2.out).mono ?_
          rintro e w3 ⟨rfl, hx3, hc3⟩
          have HP3 := hide (HP2.out.chg HX2.out hc3 (by omega))
          have HQ3 := hide (HQ2.out.chg HX2.out hc3 (by omega))
          have HX3 := hide hx3
          have HV3 := hide (ownS_chg HV2.out HX2.out hc3)
          have HB3 := hide (HB2.out.trans (hc3.bel hx0 HB2.out.size))
          have cV3 := HCV.out w3 HV3.out
          clear hx3 hc3
          go_wp2
          go_roundw
          case rel => exact ⟨i + 1, st', by omega, by go_num, HP3.out, HW1.out, HQ3.out, HX3.out, HWs1.out, HI1.out, HV3.out, HB3.out⟩
          case measure => simp [intOf]; omega
    · have e : i = n := by omega
      subst e
      have hall : ∀ k, k < i → k ∈ (List.range i).reverse := fun k hk => by rw [List.mem_reverse, List.mem_range]; exact hk
      have hst : st = endS A B nx i := hIv.done hn1 hall
      have hsk := (HTC.out i).1
      have hs0 := (HTC.out i).2
      rw [← hst] at hsk hs0
      have HS := hide (send_first st onT hsk (by omega) (by decide) [] (by decide))
      clear hp hWp hq hx hWst hIv hv hB hall hst
      generalize frameL st [] onT = f at *
      have hiz : ¬ (i : Int) < (i : Int) := by omega
      go_wp2_with fail
      rw [str_nil, show (⟨#[111, 110]⟩ : ByteArray) = str onT from rfl]
      refine (sendY q st _ [] onT f (by decide) (by decide) HWs.out HS.out a _ (HE.out.errs.below HB.out) (HE.out.toTab.below HB.out) (by omega) HQ.out).mono ?_
      rintro e w2 ⟨rfl, _, hc2⟩
      have HX2 := hide (HX.out.chg HQ.out hc2 (by omega))
      have HB2 := hide (HB.out.trans (hc2.bel hq0 HB.out.size))
      clear hc2
      go_wp2_with fail
      rw [str_nil, show (⟨#[111, 110]⟩ : ByteArray) = str onT from rfl]
      refine (sendY x st _ [] onT f (by decide) (by decide) HWs.out HS.out a _ (HE.out.errs.below HB2.out) (HE.out.toTab.below HB2.out) (by omega) HX2.out).mono ?_
      rintro e w3 ⟨rfl, _, hc3⟩
      have HB3' := hide (HB2.out.trans (hc3.bel hx0 HB2.out.size))
      clear hc3
      go_wp2
      go_ret
      exact ⟨rfl, HB3'.out⟩

theorem spoAny (r o d nx : List UInt8) (aT aO : Option Addr) (cT cO : Nat) (T : List (List UInt8)) (O : List Int) (mr : r.length ≤ maxLen) (mo : o.length ≤ maxLen) (md : d.length ≤ maxLen) (mn : nx.length ≤ maxLen)
    (hTl : T.length ≤ maxLen) (hTm : ∀ s ∈ T, s.length ≤ maxLen) (hOl : O.length ≤ maxLen) (hOw : ∀ z ∈ O, -9223372036854775808 ≤ z ∧ z ≤ 9223372036854775807) (a : Nat → Addr) (w : World) (hE : Env w a) (hrT : RdS w aT T) (hrO : RdI w aO O) :
    Calls Tryd.prog 11 #[.string (str r), .string (str o), .string (str d), .string (str nx), .slice aT T.length cT, .slice aO O.length cO] w fun e w' => e = .returned (.bool true) ∧ Bel w.heap.size w w' := by
  by_cases h : r.length = 32 ∧ o.length = 32 ∧ d.length = 32
  · by_cases hn : nx.length = 32
    · exact spoOk r o d nx aT aO cT cO T O h.1 h.2.1 h.2.2 hn hTl hTm hOl hOw a w hE hrT hrO
    · exact spoShort r o d nx _ _ h.1 h.2.1 h.2.2 mn hn w hE.toTab
  · exact spoOut r o d nx _ _ mr mo md h a w hE.errs
end Go.Proofs.YtgjdogkciklgkaaDoor
