/-
  HKDF: the program's and the document's.
-/
import Derived.Test.YtlchpbnpmgfaoaaDoorMac
namespace Go.Proofs.YtlchpbnpmgfaoaaDoor
open Go.RowKit

def lastTo (k info : List UInt8) : Nat → List UInt8
  | 0 => []
  | j + 1 => hmac k (lastTo k info j ++ info ++ [UInt8.ofNat (j + 1)])
def madeTo (k info : List UInt8) : Nat → List UInt8
  | 0 => []
  | j + 1 => madeTo k info j ++ lastTo k info (j + 1)
theorem lastTo_length (k info : List UInt8) : ∀ j, (lastTo k info j).length ≤ 32
  | 0 => by simp [lastTo]
  | _ + 1 => by simp only [lastTo]; rw [hmac_length]; exact Nat.le_refl _
theorem lastTo_succ (k info : List UInt8) (j : Nat) : (lastTo k info (j + 1)).length = 32 := by simp only [lastTo]; exact hmac_length _ _
theorem madeTo_length (k info : List UInt8) : ∀ j, (madeTo k info j).length = 32 * j
  | 0 => rfl
  | j + 1 => by simp only [madeTo]; rw [List.length_append, madeTo_length k info j, lastTo_succ]; omega
def hkdf (salt key info : List UInt8) (n : Nat) : List UInt8 := (madeTo (hmac salt key) info ((n + 31) / 32)).take n
theorem hkdf_length (salt key info : List UInt8) (n : Nat) : (hkdf salt key info n).length = n := by
  unfold hkdf
  rw [List.length_take, madeTo_length]
  omega

set_option maxRecDepth 100000 in
set_option maxHeartbeats 1000000 in
theorem deriveP (salt key info : List UInt8) (n : Nat) (hs : salt.length ≤ 1000) (hk : key.length ≤ 1000) (hi : info.length ≤ 1000) (hn : n ≤ 128) (w : World) (hT : Tab w) :
    Calls Tryd.prog 64 #[.string (str salt), .string (str key), .string (str info), .int .i64 n] w fun e w' => e = .returned (.string (str (hkdf salt key info n))) ∧ Bel w.heap.size w w' := by
  have HT := hide hT
  clear hT
  have HT0 := hide HT.out
  have HH : Hid (hkdf salt key info n = (madeTo (hmac salt key) info ((n + 31) / 32)).take n) := rfl
  go_enter Tryd.func64, Tryd.ntmps64
  go_wp2_with fail
  refine (macP salt key (by omega) (by omega) _ HT.out).mono ?_
  rintro e w1 ⟨rfl, hb1⟩
  have HB1 := hide hb1
  have HT1 := hide (HT.out.below hb1)
  clear HT
  clear hb1
  have hkl := hmac_length salt key
  generalize hmac salt key = k at *
  go_wp2
  go_loopw [10, 11, 12] (fun v u t wr => ∃ j : Nat, j ≤ (n + 31) / 32 ∧ v = .string (str (madeTo k info j)) ∧ u = .string (str (lastTo k info j)) ∧ t = .int .i64 ((j : Int) + 1) ∧ Bel w.heap.size w wr) (fun _ _ t _ => n + 32 - (intOf t).toNat)
  case atStart => exact ⟨0, Nat.zero_le _, rfl, rfl, rfl, HB1.out⟩
  case round =>
    have HTw : Hid (∀ w', Bel w.heap.size w w' → Tab w') := fun w' hb => HT0.out.below hb
    clear HT1
    clear HB1
    obtain ⟨j, hj, rfl, rfl, rfl, hB⟩ := hrel
    have HB := hide hB
    clear hB
    have lm := madeTo_length k info j
    have ll := lastTo_length k info j
    have hzm : (str (madeTo k info j)).size = 32 * j := by rw [str_size, lm]
    by_cases hlt : 32 * j < n
    · have ls := lastTo_succ k info j
      have HL : Hid (hmac k (lastTo k info j ++ info ++ [UInt8.ofNat (j + 1)]) = lastTo k info (j + 1)) := rfl
      have HM : Hid (madeTo k info j ++ lastTo k info (j + 1) = madeTo k info (j + 1)) := rfl
      have a1 := addS (lastTo k info j) info (by omega)
      have a2 := addS (lastTo k info j ++ info) [UInt8.ofNat (j + 1)] (by simp; omega)
      have a3 := addS (madeTo k info j) (lastTo k info (j + 1)) (by omega)
      have hcv := conv1 ((j : Int) + 1) wr
      rw [show ((j : Int) + 1).toNat = j + 1 by omega] at hcv
      generalize UInt8.ofNat (j + 1) = bj at *
      generalize hla : lastTo k info (j + 1) = la' at *
      generalize lastTo k info j = la at *
      generalize hma : madeTo k info (j + 1) = ma' at *
      generalize madeTo k info j = ma at *
      have HLA := hide hla
      have HMA := hide hma
      rw [HM.out] at a3
      clear hla hma
      go_wp2_with fail
      refine (macP k (la ++ (info ++ [bj])) (by omega) (by simp; omega) _ (HTw.out _ (HB.out.alloc HB.out.size _))).mono ?_
      rintro e w2 ⟨rfl, hb2⟩
      have HB2 := hide ((HB.out.alloc HB.out.size _).trans (hb2.mono (HB.out.alloc HB.out.size _).size))
      rw [← List.append_assoc, HL.out]
      clear hb2 hcv
      go_wp2
      go_roundw
      case rel => exact ⟨j + 1, by omega, by rw [HMA.out], by rw [HLA.out], by go_num, HB2.out⟩
      case measure => simp [intOf]; omega
    · have hj' : j = (n + 31) / 32 := by omega
      have HJ := hide hj'
      clear hj'
      have hle : n ≤ 32 * j := by omega
      go_wp2
      go_ret
      refine ⟨?_, HB.out⟩
      rw [HH.out, ← HJ.out]
      have e := str_extract (madeTo k info j) 0 n
      rw [List.drop_zero, Nat.sub_zero] at e
      rw [← e]
      rfl

set_option maxRecDepth 100000 in
set_option maxHeartbeats 1000000 in
theorem deriveR (salt key info : List UInt8) (n : Nat) (hs : salt.length ≤ 1000) (hk : key.length ≤ 1000) (hi : info.length ≤ 1000) (hn : n ≤ 128) (w : World) :
    Calls Tryd.prog 53 #[.string (str salt), .string (str key), .string (str info), .int .i64 n] w fun e w' => e = .returned (.string (str (hkdf salt key info n))) ∧ Bel w.heap.size w w' := by
  have HH : Hid (hkdf salt key info n = (madeTo (hmac salt key) info ((n + 31) / 32)).take n) := rfl
  go_enter Tryd.func53, Tryd.ntmps53
  go_wp2_with fail
  refine (macR salt key (by omega) (by omega) _).mono ?_
  rintro e w1 ⟨rfl, hb1⟩
  have HB1 := hide hb1
  clear hb1
  have hkl := hmac_length salt key
  generalize hmac salt key = k at *
  go_wp2
  go_loopw [10, 11, 12] (fun v u t wr => ∃ j : Nat, j ≤ (n + 31) / 32 ∧ v = .string (str (madeTo k info j)) ∧ u = .string (str (lastTo k info j)) ∧ t = .int .i64 ((j : Int) + 1) ∧ Bel w.heap.size w wr) (fun _ _ t _ => n + 32 - (intOf t).toNat)
  case atStart => exact ⟨0, Nat.zero_le _, rfl, rfl, rfl, HB1.out⟩
  case round =>
    clear HB1
    obtain ⟨j, hj, rfl, rfl, rfl, hB⟩ := hrel
    have HB := hide hB
    clear hB
    have lm := madeTo_length k info j
    have ll := lastTo_length k info j
    have hzm : (str (madeTo k info j)).size = 32 * j := by rw [str_size, lm]
    by_cases hlt : 32 * j < n
    · have ls := lastTo_succ k info j
      have HL : Hid (hmac k (lastTo k info j ++ info ++ [UInt8.ofNat (j + 1)]) = lastTo k info (j + 1)) := rfl
      have HM : Hid (madeTo k info j ++ lastTo k info (j + 1) = madeTo k info (j + 1)) := rfl
      have a1 := addS (lastTo k info j) info (by omega)
      have a2 := addS (lastTo k info j ++ info) [UInt8.ofNat (j + 1)] (by simp; omega)
      have a3 := addS (madeTo k info j) (lastTo k info (j + 1)) (by omega)
      have hcv := conv1 ((j : Int) + 1) wr
      rw [show ((j : Int) + 1).toNat = j + 1 by omega] at hcv
      generalize UInt8.ofNat (j + 1) = bj at *
      generalize hla : lastTo k info (j + 1) = la' at *
      generalize lastTo k info j = la at *
      generalize hma : madeTo k info (j + 1) = ma' at *
      generalize madeTo k info j = ma at *
      have HLA := hide hla
      have HMA := hide hma
      rw [HM.out] at a3
      clear hla hma
      go_wp2_with fail
      refine (macR k (la ++ (info ++ [bj])) (by omega) (by simp; omega) _).mono ?_
      rintro e w2 ⟨rfl, hb2⟩
      have HB2 := hide ((HB.out.alloc HB.out.size _).trans (hb2.mono (HB.out.alloc HB.out.size _).size))
      rw [← List.append_assoc, HL.out]
      clear hb2 hcv
      go_wp2
      go_roundw
      case rel => exact ⟨j + 1, by omega, by rw [HMA.out], by rw [HLA.out], by go_num, HB2.out⟩
      case measure => simp [intOf]; omega
    · have hj' : j = (n + 31) / 32 := by omega
      have HJ := hide hj'
      clear hj'
      have hle : n ≤ 32 * j := by omega
      go_wp2
      go_ret
      refine ⟨?_, HB.out⟩
      rw [HH.out, ← HJ.out]
      have e := str_extract (madeTo k info j) 0 n
      rw [List.drop_zero, Nat.sub_zero] at e
      rw [← e]
      rfl

end Go.Proofs.YtlchpbnpmgfaoaaDoor
