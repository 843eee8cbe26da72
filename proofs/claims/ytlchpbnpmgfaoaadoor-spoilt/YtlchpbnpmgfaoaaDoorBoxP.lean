/-
  The program's side of the box.
-/
import Derived.Test.YtlchpbnpmgfaoaaDoorBox
namespace Go.Proofs.YtlchpbnpmgfaoaaDoor
open Go.RowKit

theorem sliceHi (l : List UInt8) (i : Int) (a : Nat) (hi : i = a) (ha : a ≤ l.length) (w : World) :
    (Instr.slice 9 (.string (str l)) none (some (.int .i64 i)) none).run Tryd.prog w = .ok (.string (str (l.take a))) w := by
  subst hi
  have := sliceL l 0 a 0 a rfl rfl (Nat.zero_le _) ha w
  rw [List.drop_zero, Nat.sub_zero] at this
  rw [← this]
  rfl
theorem sliceLo (l : List UInt8) (i : Int) (a : Nat) (hi : i = a) (ha : a ≤ l.length) (w : World) :
    (Instr.slice 9 (.string (str l)) (some (.int .i64 i)) none none).run Tryd.prog w = .ok (.string (str (l.drop a))) w := by
  subst hi
  have := sliceL l a l.length a l.length rfl rfl ha (Nat.le_refl _) w
  rw [List.take_of_length_le (by rw [List.length_drop]; exact Nat.le_refl _)] at this
  rw [← this]
  have hl : (str l).size = l.length := str_size l
  rw [run_slice_string_l w _ _ Tryd.underlying9 .i64 a (by omega) (by omega), run_slice_string w _ _ _ _ _ _ Tryd.underlying9 (by omega) (by omega) (by omega), hl]
  rfl

set_option maxRecDepth 100000 in
set_option maxHeartbeats 1000000 in
theorem tagP (key ad b : List UInt8) (hk : key.length ≤ 64) (ha : ad.length ≤ 1000) (hb : b.length ≤ 1000) (w : World) (hT : Tab w) :
    Calls Tryd.prog 34 #[.string (str key), .string (str ad), .string (str b)] w fun e w' => e = .returned (.string (str (tagL key ad b))) ∧ Bel w.heap.size w w' := by
  have HT := hide hT
  have hz := str_size ad
  clear hT
  have HH : Hid (tagL key ad b = (hmac key (bigB ad.length 4 ++ (ad ++ b))).take 16) := by show tagL key ad b = _; unfold tagL; rw [List.append_assoc]
  go_enter Tryd.func34, Tryd.ntmps34
  go_wp2_with fail
  refine (fourP ad.length _).mono ?_
  rintro e w1 ⟨rfl, hb1⟩
  have HB1 := hide hb1
  have HT1 := hide (HT.out.below hb1)
  clear hb1 HT
  have l4 : (bigB ad.length 4).length = 4 := bigB_length _ _
  generalize bigB ad.length 4 = four at *
  have a1 := addS four ad (by omega)
  have a2 := addS (four ++ ad) b (by simp; omega)
  go_wp2_with fail
  refine (macP key (four ++ (ad ++ b)) (by omega) (by simp; omega) _ HT1.out).mono ?_
  rintro e w2 ⟨rfl, hb2⟩
  have HB2 := hide (HB1.out.trans (hb2.mono HB1.out.size))
  clear hb2 HB1 HT1 a1 a2
  have lm := hmac_length key (four ++ (ad ++ b))
  generalize hmac key (four ++ (ad ++ b)) = m at *
  have hx := str_extract m 0 16
  rw [List.drop_zero, Nat.sub_zero] at hx
  have hmz : (str m).size = 32 := by rw [str_size, lm]
  go_wp2
  go_ret
  refine ⟨?_, HB2.out⟩
  rw [HH.out]
  rfl

set_option maxRecDepth 100000 in
set_option maxHeartbeats 1000000 in
theorem sealKeysP (key : List UInt8) (hk : key.length = 32) (w : World) (hT : Tab w) :
    Calls Tryd.prog 32 #[.string (str key)] w fun e w' => e = .returned (.tuple #[.string (str (k1 key)), .string (str (k2 key))]) ∧ Bel w.heap.size w w' := by
  have HT := hide hT
  clear hT
  have H1 : Hid (k1 key = (hkdf [] key sealK 64).take 32) := rfl
  have H2 : Hid (k2 key = (hkdf [] key sealK 64).drop 32) := rfl
  go_enter Tryd.func32, Tryd.ntmps32
  go_wp2_with fail
  refine (deriveP [] key sealK 64 (by decide) (by omega) (by decide) (by decide) _ HT.out).mono ?_
  rintro e w1 ⟨rfl, hb1⟩
  have HB1 := hide hb1
  clear hb1 HT
  have lm := hkdf_length [] key sealK 64
  generalize hkdf [] key sealK 64 = m at *
  have hx := sliceHi m 32 32 rfl (by omega)
  have hy := sliceLo m 32 32 rfl (by omega)
  go_wp2
  go_quiet (fail)
  go_wp2
  go_ret2
  refine ⟨?_, belowN HB1.out _⟩
  rw [H1.out, H2.out]
  rfl

set_option maxRecDepth 100000 in
set_option maxHeartbeats 1000000 in
theorem hiddenP (key s : List UInt8) (hk : key.length ≤ 64) (hs : s.length ≤ 80) (w : World) (hT : Tab w) :
    Calls Tryd.prog 35 #[.string (str key), .string (str s)] w fun e w' => e = .returned (.string (str (boxL key s))) ∧ Bel w.heap.size w w' := by
  have HT0 := hide hT
  clear hT
  have hz := str_size s
  go_enter Tryd.func35, Tryd.ntmps35
  go_wp2
  go_loopw [5, 6] (fun v t wr => ∃ j : Nat, j ≤ (s.length + 31) / 32 ∧ v = .string (str (streamTo key j)) ∧ t = .int .i64 (j : Int) ∧ Bel w.heap.size w wr) (fun _ t _ => s.length + 32 - (intOf t).toNat)
  case atStart => exact ⟨0, Nat.zero_le _, rfl, rfl, Bel.refl _ _⟩
  case round =>
    obtain ⟨j, hj, rfl, rfl, hB⟩ := hrel
    have HB := hide hB
    clear hB
    have lm := streamTo_length key j
    have hzm : (str (streamTo key j)).size = 32 * j := by rw [str_size, lm]
    by_cases hlt : 32 * j < s.length
    · have HM : Hid (streamTo key j ++ hmac key (bigB j 4) = streamTo key (j + 1)) := rfl
      have a3 := addS (streamTo key j) (hmac key (bigB j 4)) (by rw [lm, hmac_length]; omega)
      rw [HM.out] at a3
      generalize hma : streamTo key (j + 1) = ma' at *
      generalize streamTo key j = ma at *
      have HMA := hide hma
      clear hma
      have l4 : (bigB j 4).length = 4 := bigB_length _ _
      go_wp2_with fail
      refine (fourP j _).mono ?_
      rintro e w1 ⟨rfl, hb1⟩
      have HB1 := hide (HB.out.trans (hb1.mono HB.out.size))
      clear hb1
      go_wp2_with fail
      refine (macP key (bigB j 4) (by omega) (by omega) _ (HT0.out.below HB1.out)).mono ?_
      rintro e w2 ⟨rfl, hb2⟩
      have HB2 := hide (HB1.out.trans (hb2.mono HB1.out.size))
      clear hb2
      go_wp2
      go_roundw
      case rel => exact ⟨j + 1, by omega, by rw [HMA.out], by go_num, HB2.out⟩
      case measure => simp [intOf]; omega
    · have hle : s.length ≤ 32 * j := by omega
      obtain ⟨cap, W, hcv, hh, hb, hWs⟩ := convHead s wr (by unfold maxLen; omega)
      have HBW := hide (HB.out.trans (hb.mono HB.out.size))
      have HH := hide hh
      have HSt := hide (streamTo_at key j)
      clear hb hh
      have HG : Hid (w.heap.size ≤ wr.heap.size) := HB.out.size
      generalize wr.heap.size = g at *
      generalize streamTo key j = ma at *
      go_wp2
      have HH0 : Hid (Head W g (partTo (boxAt key s) (byteAt s) s.length 0)) := by show Head W g _; rw [partTo_nums]; exact HH.out
      clear HH hcv
      go_loopw [26] (fun t wr => ∃ k : Nat, k ≤ s.length ∧ t = .int .i64 k ∧ Bel w.heap.size w wr ∧ Head wr g (partTo (boxAt key s) (byteAt s) s.length k)) (fun t _ => s.length - (intOf t).toNat)
      case atStart => exact ⟨0, Nat.zero_le _, rfl, HBW.out, HH0.out⟩
      case round =>
        clear HBW HH0
        obtain ⟨k, hks, rfl, hB, hK⟩ := hrel
        by_cases hkl : k < s.length
        · have cc := hK.cell k (by rw [partTo_length]; exact hkl)
          rw [partTo_getD _ _ _ _ _ hkl, if_neg (by omega)] at cc
          have hf := hK.froz k (by rw [partTo_length]; exact hkl)
          have HB := hide hB
          have HK := hide hK
          have HS := hide (partTo_set (boxAt key s) (byteAt s) s.length k)
          have lx := byteAt_lt s k
          have ly := streamAt_lt key k
          have hix := idxL ma (k : Int) k rfl (by omega)
          rw [HSt.out k (by omega)] at hix
          have HM : Hid (boxAt key s k = byteAt s k ^^^ streamAt key k) := rfl
          have e := u8x (byteAt s k) (streamAt key k) lx ly
          clear hB hK
          generalize byteAt s k = x at *
          generalize streamAt key k = y at *
          go_wp2
          go_region
          go_wp2
          go_roundw
          case rel =>
            refine ⟨k + 1, by omega, by go_num, (HB.out.setCell (p := ⟨g, k, none⟩) HG.out _).drew, ?_⟩
            rw [← HS.out, HM.out]
            exact (HK.out.set k (x ^^^ y) (by rw [partTo_length]; exact hkl)).drew
          case measure => simp [intOf]; omega
        · have hkk : k = s.length := by omega
          subst hkk
          have hcv := convHeadS (c := cap) hK
          rw [partTo_length, partTo_end] at hcv
          have HB := hide hB
          clear hB hK
          go_wp2
          go_ret
          exact ⟨rfl, HB.out⟩
end Go.Proofs.YtlchpbnpmgfaoaaDoor
