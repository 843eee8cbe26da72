/-
  What is sealed is opened; a bit of the tag turned: not. The law's flipped.
-/
import Derived.Test.YtgjdogkciklgkaaDoorSo
import Derived.Test.YtgjdogkciklgkaaDoorRSeal
namespace Go.Proofs.YtgjdogkciklgkaaDoor
open Go.RowKit

theorem seal_take (k ad t : List UInt8) : (sealL k ad t).take ((sealL k ad t).length - 16) = boxL (k1 k) t := by
  have h : (sealL k ad t).length - 16 = (boxL (k1 k) t).length := by
    unfold sealL; rw [List.length_append, tagL_length]; omega
  rw [h]; unfold sealL
  rw [List.take_left]
theorem seal_drop (k ad t : List UInt8) : (sealL k ad t).drop ((sealL k ad t).length - 16) = tagL (k2 k) ad (boxL (k1 k) t) := by
  have h : (sealL k ad t).length - 16 = (boxL (k1 k) t).length := by
    unfold sealL; rw [List.length_append, tagL_length]; omega
  rw [h]; unfold sealL
  rw [List.drop_left]
theorem sealL_length (k ad t : List UInt8) : (sealL k ad t).length = t.length + 16 := by
  unfold sealL; rw [List.length_append, tagL_length, boxL_length]
theorem seal_good (k ad t : List UInt8) : goodTag k ad (sealL k ad t) := by
  unfold goodTag
  rw [seal_drop, seal_take]
theorem seal_open (k ad t : List UInt8) : boxL (k1 k) ((sealL k ad t).take ((sealL k ad t).length - 16)) = t := by
  rw [seal_take, boxL_twice]

/-- Bit n of a string turned. -/
def flipL (s : List UInt8) (n : Nat) : List UInt8 := ((nums s).set (n / 8) (byteAt s (n / 8) ^^^ 2 ^ (n % 8))).map UInt8.ofNat
theorem flipL_length (s : List UInt8) (n : Nat) : (flipL s n).length = s.length := by simp [flipL, nums_length]
theorem xor_pow_ne (x j : Nat) : x ^^^ 2 ^ j ≠ x := by
  intro h
  have e : x ^^^ (x ^^^ 2 ^ j) = x ^^^ x := by rw [h]
  rw [← Nat.xor_assoc, Nat.xor_self, Nat.zero_xor] at e
  have := Nat.two_pow_pos j
  omega
theorem byteAt_flipL (s : List UInt8) (n : Nat) (h : n / 8 < s.length) : byteAt (flipL s n) (n / 8) ≠ byteAt s (n / 8) := by
  have hl : (n / 8) < (flipL s n).length := by rw [flipL_length]; exact h
  have hx : byteAt s (n / 8) ^^^ 2 ^ (n % 8) < 256 := Nat.xor_lt_two_pow (n := 8) (byteAt_lt _ _) (Nat.pow_lt_pow_right (by decide) (by omega))
  have e : byteAt (flipL s n) (n / 8) = byteAt s (n / 8) ^^^ 2 ^ (n % 8) := by
    have h2 : n / 8 < (nums s).length := by rw [nums_length]; exact h
    generalize hy : byteAt s (n / 8) ^^^ 2 ^ (n % 8) = y at *
    have hu : flipL s n = ((nums s).set (n / 8) y).map UInt8.ofNat := by unfold flipL; rw [hy]
    rw [hu]
    unfold byteAt
    simp [h2]
    omega
  rw [e]
  exact xor_pow_ne _ _
theorem byteAt_flipL_other (s : List UInt8) (n i : Nat) (h : i ≠ n / 8) : byteAt (flipL s n) i = byteAt s i := by
  by_cases hi : i < s.length
  · have h2 : i < (nums s).length := by rw [nums_length]; exact hi
    unfold flipL
    show ((List.map UInt8.ofNat ((nums s).set (n / 8) (byteAt s (n / 8) ^^^ 2 ^ (n % 8)))).getD i 0).toNat = (s.getD i 0).toNat
    simp [Ne.symm h, nums, hi]
  · unfold byteAt
    rw [getD_out _ _ (by rw [flipL_length]; omega), getD_out _ _ (by omega)]
theorem byteAt_take (s : List UInt8) (m i : Nat) (h : i < m) : byteAt (s.take m) i = byteAt s i := by
  unfold byteAt; simp [h]
theorem byteAt_drop (s : List UInt8) (m i : Nat) : byteAt (s.drop m) i = byteAt s (m + i) := by
  unfold byteAt; simp
theorem flip_bad (k ad t : List UInt8) (f : Nat) (hf : f < 128) : ¬ goodTag k ad (flipL (sealL k ad t) (8 * t.length + f)) := by
  intro h
  have hsl := sealL_length k ad t
  have hdiv : (8 * t.length + f) / 8 = t.length + f / 8 := by omega
  have htake : (flipL (sealL k ad t) (8 * t.length + f)).take t.length = boxL (k1 k) t := by
    have e := seal_take k ad t
    rw [hsl, Nat.add_sub_cancel] at e
    rw [← e]
    apply byteAt_inj (by rw [List.length_take, List.length_take, flipL_length])
    intro i hi
    rw [List.length_take, flipL_length, hsl] at hi
    rw [byteAt_take _ _ _ (by omega), byteAt_take _ _ _ (by omega)]
    exact byteAt_flipL_other _ _ _ (by omega)
  unfold goodTag at h
  rw [flipL_length, hsl, Nat.add_sub_cancel, htake] at h
  have e := seal_drop k ad t
  rw [hsl, Nat.add_sub_cancel] at e
  rw [← e] at h
  have hb := congrArg (fun l => byteAt l (f / 8)) h
  simp only [byteAt_drop] at hb
  rw [← hdiv] at hb
  exact byteAt_flipL _ _ (by rw [hdiv, hsl]; omega) hb

set_option maxRecDepth 100000 in
set_option maxHeartbeats 1000000 in
theorem flippedP (s : List UInt8) (n : Nat) (hs : s.length ≤ 1000) (hn : n < 8 * s.length) (w : World) :
    Calls Tryd.prog 19 #[.string (str s), .int .i64 n] w fun e w' => e = .returned (.string (str (flipL s n))) ∧ Bel w.heap.size w w' := by
  obtain ⟨cap, W, hcv, hh, hb, hWs⟩ := convHead s w (by unfold maxLen; omega)
  have cc := hh.cell (n / 8) (by rw [nums_length]; omega)
  have hf := hh.froz (n / 8) (by rw [nums_length]; omega)
  rw [nums_getD] at cc
  have HF : Hid (flipL s n = ((nums s).set (n / 8) (byteAt s (n / 8) ^^^ 2 ^ (n % 8))).map UInt8.ofNat) := rfl
  have lx := byteAt_lt s (n / 8)
  have hp8 : 2 ^ (n % 8) < 256 := Nat.pow_lt_pow_right (a := 2) (m := n % 8) (n := 8) (by decide) (by omega)
  have e := u8x (byteAt s (n / 8)) (2 ^ (n % 8)) lx hp8
  have hset := hh.set (n / 8) (byteAt s (n / 8) ^^^ 2 ^ (n % 8)) (by rw [nums_length]; omega)
  have hcs := convHeadS (c := cap) hset.drew
  rw [List.length_set, nums_length, ← HF.out] at hcs
  have HB := hide hb
  clear hb hh hset
  generalize byteAt s (n / 8) = x at *
  go_enter Tryd.func19, Tryd.ntmps19
  go_wp2
  go_region
  have e3 : (2 : Int) ^ (n % 8) % 256 = ((2 ^ (n % 8) : Nat) : Int) := by
    have h2 : (2 : Int) ^ (n % 8) = ((2 ^ (n % 8) : Nat) : Int) := by rw [Int.natCast_pow]; rfl
    rw [h2]
    generalize 2 ^ (n % 8) = z at *
    omega
  rw [e3, e]
  generalize x ^^^ 2 ^ (n % 8) = y at *
  clear e3 e hcv cc hf
  have HB2 : Hid (Bel w.heap.size w (W.setCell ⟨w.heap.size, n / 8, none⟩ (.int .u8 (y : Int))).drew) := (HB.out.setCell (p := ⟨w.heap.size, n / 8, none⟩) (Nat.le_refl _) _).drew
  generalize (W.setCell ⟨w.heap.size, n / 8, none⟩ (.int .u8 (y : Int))).drew = W2 at *
  go_wp2
  go_ret
  exact ⟨rfl, HB2.out⟩
end Go.Proofs.YtgjdogkciklgkaaDoor
namespace Go.Proofs.YtgjdogkciklgkaaDoor
open Go.RowKit

set_option maxRecDepth 100000 in
set_option maxHeartbeats 1000000 in
theorem sealedLong (k ad t : List UInt8) (flip : Int) (hl : 68 < ad.length ∨ 64 < t.length) (md : ad.length ≤ maxLen) (mt : t.length ≤ maxLen) (a : Nat → Addr) (w : World) (hE : Env w a) :
    Calls Tryd.prog 9 #[.string (str k), .string (str ad), .string (str t), .int .i64 flip] w fun e w' => e = .returned (.bool true) ∧ Bel w.heap.size w w' := by
  have zd := str_size ad
  have zt := str_size t
  have md' : ad.length ≤ 9223372036854775807 := by unfold maxLen at md; omega
  have mt' : t.length ≤ 9223372036854775807 := by unfold maxLen at mt; omega
  have HE := hide hE
  have HL := hide hl
  have MD := hide md
  have MT := hide mt
  clear hE md mt hl
  by_cases h1 : 68 < ad.length
  · go_enter Tryd.func9, Tryd.ntmps9
    go_wp2_with fail
    refine (rSealLong k ad t HL.out MD.out MT.out (a 0) _ HE.out.errs.g0).mono ?_
    rintro e w2 ⟨rfl, hb2⟩
    have HB2 := hide hb2
    have HE2 := hide (HE.out.below hb2)
    clear hb2
    go_wp2_with fail
    refine (code_at 0 (by decide) a _ HE2.out.errs).mono ?_
    rintro e w3 ⟨rfl, rfl⟩
    go_wp2
    go_ret
    exact ⟨rfl, HB2.out.alloc HB2.out.size _⟩
  · have h2 : 64 < t.length := by have := HL.out; omega
    go_enter Tryd.func9, Tryd.ntmps9
    go_wp2_with fail
    refine (rSealLong k ad t HL.out MD.out MT.out (a 0) _ HE.out.errs.g0).mono ?_
    rintro e w2 ⟨rfl, hb2⟩
    have HB2 := hide hb2
    have HE2 := hide (HE.out.below hb2)
    clear hb2
    go_wp2_with fail
    refine (code_at 0 (by decide) a _ HE2.out.errs).mono ?_
    rintro e w3 ⟨rfl, rfl⟩
    go_wp2
    go_ret
    exact ⟨rfl, HB2.out.alloc HB2.out.size _⟩

set_option maxRecDepth 100000 in
set_option maxHeartbeats 1000000 in
theorem sealedKey (k ad t : List UInt8) (flip : Int) (hd : ad.length ≤ 68) (ht : t.length ≤ 64) (hk : k.length ≠ 32) (mk : k.length ≤ maxLen) (a : Nat → Addr) (w : World) (hE : Env w a) :
    Calls Tryd.prog 9 #[.string (str k), .string (str ad), .string (str t), .int .i64 flip] w fun e w' => e = .returned (.bool true) ∧ Bel w.heap.size w w' := by
  have zk := str_size k
  have zd := str_size ad
  have zt := str_size t
  have mk' : k.length ≤ 9223372036854775807 := by unfold maxLen at mk; omega
  have HE := hide hE
  have MK := hide mk
  clear hE mk
  go_enter Tryd.func9, Tryd.ntmps9
  go_wp2_with fail
  refine (rSealKey k ad t hd ht hk MK.out (a 1) _ HE.out.errs.g1).mono ?_
  rintro e w2 ⟨rfl, hb2⟩
  have HB2 := hide hb2
  have HE2 := hide (HE.out.below hb2)
  clear hb2
  go_wp2_with fail
  refine (code_at 1 (by decide) a _ HE2.out.errs).mono ?_
  rintro e w3 ⟨rfl, rfl⟩
  go_wp2
  go_ret
  exact ⟨rfl, HB2.out.alloc HB2.out.size _⟩

set_option maxRecDepth 100000 in
set_option maxHeartbeats 1000000 in
theorem sealedOk (k ad t : List UInt8) (flip : Int) (hd : ad.length ≤ 68) (ht : t.length ≤ 64) (hk : k.length = 32) (a : Nat → Addr) (w : World) (hE : Env w a) :
    Calls Tryd.prog 9 #[.string (str k), .string (str ad), .string (str t), .int .i64 flip] w fun e w' => e = .returned (.bool true) ∧ Bel w.heap.size w w' := by
  have zk := str_size k
  have zd := str_size ad
  have zt := str_size t
  have HE := hide hE
  have ls := sealL_length k ad t
  have zs : (str (sealL k ad t)).size = t.length + 16 := by rw [str_size, ls]
  have HG := hide (seal_good k ad t)
  have HO := hide (seal_open k ad t)
  have HF := hide (flip_bad k ad t)
  clear hE
  go_enter Tryd.func9, Tryd.ntmps9
  go_wp2_with fail
  refine (rSealOk k ad t hd ht hk _ HE.out.toTab).mono ?_
  rintro e w2 ⟨rfl, hb2⟩
  have HB2 := hide hb2
  have HE2 := hide (HE.out.below hb2)
  clear hb2
  generalize sealL k ad t = s at *
  go_wp2_with fail
  refine (rOpenOk k ad s hd (by omega) (by omega) hk HG.out _ HE2.out.toTab).mono ?_
  rintro e w3 ⟨rfl, hb3⟩
  rw [HO.out]
  have HB3 := hide (HB2.out.trans (hb3.mono HB2.out.size))
  have HE3 := hide (HE2.out.below hb3)
  clear hb3 HB2 HE2
  by_cases h1 : flip < 0
  · go_wp2
    go_ret
    exact ⟨rfl, HB3.out⟩
  · by_cases h2 : 128 ≤ flip
    · go_wp2
      go_ret
      exact ⟨rfl, HB3.out⟩
    · obtain ⟨f, rfl⟩ := Int.eq_ofNat_of_zero_le (show 0 ≤ flip by omega)
      have hf : f < 128 := by omega
      clear h1 h2
      go_wp2_with fail
      have e8 : 8 * (t.length : Int) + (f : Int) = ((8 * t.length + f : Nat) : Int) := by omega
      rw [e8]
      clear e8
      refine (flippedP s (8 * t.length + f) (by omega) (by omega) _).mono ?_
      rintro e w4 ⟨rfl, hb4⟩
      have HB4 := hide (HB3.out.trans (hb4.mono HB3.out.size))
      have HE4 := hide (HE3.out.below hb4)
      clear hb4 HB3 HE3
      have HF2 := hide (HF.out f hf)
      have lf := flipL_length s (8 * t.length + f)
      generalize flipL s (8 * t.length + f) = s' at *
      go_wp2_with fail
      refine (rOpenBad k ad s' hd (by omega) (by omega) hk HF2.out (a 3) _ HE4.out.toTab HE4.out.errs.g3).mono ?_
      rintro e w5 ⟨rfl, hb5⟩
      have HB5 := hide (HB4.out.trans (hb5.mono HB4.out.size))
      have HE5 := hide (HE4.out.below hb5)
      clear hb5 HB4 HE4
      go_wp2_with fail
      refine (code_at 3 (by decide) a _ HE5.out.errs).mono ?_
      rintro e w6 ⟨rfl, rfl⟩
      go_wp2
      go_ret
      exact ⟨rfl, HB5.out.alloc HB5.out.size _⟩

theorem sealedAny (k ad t : List UInt8) (flip : Int) (mk : k.length ≤ maxLen) (md : ad.length ≤ maxLen) (mt : t.length ≤ maxLen) (a : Nat → Addr) (w : World) (hE : Env w a) :
    Calls Tryd.prog 9 #[.string (str k), .string (str ad), .string (str t), .int .i64 flip] w fun e w' => e = .returned (.bool true) ∧ Bel w.heap.size w w' := by
  by_cases hl : 68 < ad.length ∨ 64 < t.length
  · exact sealedLong k ad t flip hl md mt a w hE
  by_cases hk : k.length = 32
  · exact sealedOk k ad t flip (by omega) (by omega) hk a w hE
  · exact sealedKey k ad t flip (by omega) (by omega) hk mk a w hE
end Go.Proofs.YtgjdogkciklgkaaDoor
