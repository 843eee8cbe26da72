/-
  The document's side of the box.
-/
import Derived.Test.YtgjdogkciklgkaaDoorBx
namespace Go.Proofs.YtgjdogkciklgkaaDoor
open Go.RowKit

set_option maxRecDepth 100000 in
set_option maxHeartbeats 1000000 in
theorem tagR (key ad b : List UInt8) (hk : key.length ≤ 64) (ha : ad.length ≤ 1000) (hb : b.length ≤ 1000) (w : World) :
    Calls Tryd.prog 115 #[.string (str key), .string (str ad), .string (str b)] w fun e w' => e = .returned (.string (str (tagL key ad b))) ∧ Bel w.heap.size w w' := by
  have hz := str_size ad
  have HH : Hid (tagL key ad b = (hmac key (bigB ad.length 4 ++ (ad ++ b))).take 16) := by show tagL key ad b = _; unfold tagL; rw [List.append_assoc]
  go_enter Tryd.func115, Tryd.ntmps115
  go_wp2_with fail
  refine (refBigI ad.length 4 (by omega) (by omega) (by omega) _).mono ?_
  rintro e w1 ⟨rfl, hb1⟩
  rw [Int.toNat_natCast, show (4 : Int).toNat = 4 from rfl]
  have HB1 := hide hb1
  clear hb1
  have l4 : (bigB ad.length 4).length = 4 := bigB_length _ _
  generalize bigB ad.length 4 = four at *
  have a1 := addS four ad (by omega)
  have a2 := addS (four ++ ad) b (by simp; omega)
  go_wp2_with fail
  refine (macR key (four ++ (ad ++ b)) (by omega) (by simp; omega) _).mono ?_
  rintro e w2 ⟨rfl, hb2⟩
  have HB2 := hide (HB1.out.trans (hb2.mono HB1.out.size))
  clear hb2 HB1 a1 a2
  have lm := hmac_length key (four ++ (ad ++ b))
  generalize hmac key (four ++ (ad ++ b)) = m at *
  have hx := sliceHi m 16 16 rfl (by omega)
  go_wp2
  go_ret
  refine ⟨?_, HB2.out⟩
  rw [HH.out]
  rfl

/-- 'make([]byte, n)'. -/
theorem mkB (n : Nat) (hn : n ≤ 100000) (g : Nat → Nat) (w : World) : ∃ W, (Instr.makeSlice 59 (.int .i64 n) (.int .i64 n)).run Tryd.prog w = .ok (.slice (some ⟨w.heap.size, 0, none⟩) n n) W ∧
    Head W w.heap.size (partTo g (fun _ => 0) n 0) ∧ Bel w.heap.size w W ∧ W.heap.size = w.heap.size + 1 := by
  obtain ⟨i0, hi, hz0, hz1, hz2⟩ := info_parts Tryd.infoU8
  have hr := run_make (P := Tryd.prog) w 59 5 i0 (.int .u8 0) Tryd.underlying59 hi hz0 .i64 .i64 n n (by omega) (Int.le_refl _) (by rw [hz2]; omega) (by omega)
  rw [hz1, Int.toNat_natCast, Nat.mul_one] at hr
  have hcells : ∀ j, j < n → (madeCells (Value.int .u8 0).cells n)[j]? = some (.int .u8 0) := fun j hj => by
    simp [madeCells, Value.cells, hj, Nat.mod_one]
  refine ⟨_, hr, ⟨fun j hj => ?_, fun j hj => ?_⟩, (Bel.refl _ _).alloc (Nat.le_refl _) _, by simp⟩
  · rw [partTo_length] at hj
    rw [partTo_getD _ _ _ _ _ hj, if_neg (by omega), World.cell?_alloc_new]
    exact hcells j hj
  · simp [World.frozen?, World.alloc, -World.alloc_eq]

set_option maxRecDepth 100000 in
set_option maxHeartbeats 1000000 in
theorem streamR (key s : List UInt8) (hk : key.length ≤ 64) (hs : s.length ≤ 80) (w : World) :
    Calls Tryd.prog 114 #[.string (str key), .string (str s)] w fun e w' => e = .returned (.string (str (boxL key s))) ∧ Bel w.heap.size w w' := by
  have hz := str_size s
  obtain ⟨W, hmk, hh, hb, hWs⟩ := mkB s.length (by omega) (boxAt key s) w
  have HBW := hide hb
  have HH := hide hh
  clear hb hh
  go_enter Tryd.func114, Tryd.ntmps114
  go_wp2
  clear hmk hWs
  go_loopw [6, 7] (fun m t wr => ∃ (k : Nat) (mm : List UInt8), k ≤ s.length ∧ t = .int .i64 k ∧ m = .string (str mm) ∧ (k % 32 ≠ 0 → mm = hmac key (bigB (k / 32) 4)) ∧ Bel w.heap.size w wr ∧ Head wr w.heap.size (partTo (boxAt key s) (fun _ => 0) s.length k)) (fun _ t _ => s.length - (intOf t).toNat)
  case atStart => exact ⟨0, [], Nat.zero_le _, rfl, rfl, by simp, HBW.out, HH.out⟩
  case round =>
    clear HBW HH
    obtain ⟨k, mm, hks, rfl, rfl, hmm, hB, hK⟩ := hrel
    by_cases hkl : k < s.length
    · have hix := idxL s (k : Int) k rfl hkl
      have lx := byteAt_lt s k
      have ly := streamAt_lt key k
      have HS := hide (partTo_set (boxAt key s) (fun _ => 0) s.length k)
      have HM : Hid (boxAt key s k = byteAt s k ^^^ streamAt key k) := rfl
      have HST : Hid (streamAt key k = byteAt (hmac key (bigB (k / 32) 4)) (k % 32)) := rfl
      have e := u8x (byteAt s k) (streamAt key k) lx ly
      have hy := idxL (hmac key (bigB (k / 32) 4)) ((k : Int) % 32) (k % 32) (by omega) (by rw [hmac_length]; omega)
      rw [← HST.out] at hy
      have HMM := hide hmm
      have HB := hide hB
      have HK := hide hK
      clear hmm hB hK
      generalize byteAt s k = x at *
      generalize streamAt key k = y at *
      by_cases h32 : k % 32 = 0
      · have h32' : (k : Int) % 32 = 0 := by omega
        go_wp2_with fail
        refine (refBigI ((k : Int) / 32) 4 (by omega) (by omega) (by omega) _).mono ?_
        rintro e1 w1 ⟨rfl, hb1⟩
        rw [show ((k : Int) / 32).toNat = k / 32 by omega, show (4 : Int).toNat = 4 from rfl]
        have hwl := HB.out.size
        have HB1 := hide (HB.out.trans (hb1.mono hwl))
        have hgl : w.heap.size < wr.heap.size := by have := HK.out.cell k (by rw [partTo_length]; exact hkl); exact cell_lt this
        have HK1 := hide (HK.out.below hb1 hgl)
        clear hb1 HB HK
        have l4 : (bigB (k / 32) 4).length = 4 := bigB_length _ _
        go_wp2_with fail
        refine (macR key (bigB (k / 32) 4) (by omega) (by omega) _).mono ?_
        rintro e2 w2 ⟨rfl, hb2⟩
        have HB2 := hide (HB1.out.trans (hb2.mono HB1.out.size))
        have hgl1 : w.heap.size < w1.heap.size := by have := HK1.out.cell k (by rw [partTo_length]; exact hkl); exact cell_lt this
        have HK2 := hide (HK1.out.below hb2 hgl1)
        clear hb2 HB1 HK1 h32 h32' HMM
        have cc := HK2.out.cell k (by rw [partTo_length]; exact hkl)
        have hf := HK2.out.froz k (by rw [partTo_length]; exact hkl)
        generalize (partTo (boxAt key s) (fun _ => 0) s.length k).getD k 0 = old at *
        go_wp2
        go_region
        go_wp2
        go_roundw
        case rel =>
          refine ⟨k + 1, _, by omega, by go_num, rfl, fun h => by rw [show (k + 1) / 32 = k / 32 by omega], (HB2.out.setCell (p := ⟨w.heap.size, k, none⟩) (Nat.le_refl _) _).drew, ?_⟩
          rw [← HS.out, HM.out]
          exact (HK2.out.set k (x ^^^ y) (by rw [partTo_length]; exact hkl)).drew
        case measure => simp [intOf]; omega
      · have h32' : ¬ (k : Int) % 32 = 0 := by omega
        have hmm := HMM.out h32
        subst hmm
        clear HMM
        have HB2 := hide HB.out
        have HK2 := hide HK.out
        clear HB HK
        have cc := HK2.out.cell k (by rw [partTo_length]; exact hkl)
        have hf := HK2.out.froz k (by rw [partTo_length]; exact hkl)
        generalize (partTo (boxAt key s) (fun _ => 0) s.length k).getD k 0 = old at *
        go_wp2
        clear h32 h32'
        go_region
        go_wp2
        go_roundw
        case rel =>
          refine ⟨k + 1, _, by omega, by go_num, rfl, fun h => by rw [show (k + 1) / 32 = k / 32 by omega], (HB2.out.setCell (p := ⟨w.heap.size, k, none⟩) (Nat.le_refl _) _).drew, ?_⟩
          rw [← HS.out, HM.out]
          exact (HK2.out.set k (x ^^^ y) (by rw [partTo_length]; exact hkl)).drew
        case measure => simp [intOf]; omega
    · have hkk : k = s.length := by omega
      subst hkk
      have hcv := convHeadS (c := s.length) hK
      rw [partTo_length, partTo_end] at hcv
      have HB := hide hB
      clear hB hK
      go_wp2
      go_ret
      exact ⟨rfl, HB.out⟩
end Go.Proofs.YtgjdogkciklgkaaDoor
