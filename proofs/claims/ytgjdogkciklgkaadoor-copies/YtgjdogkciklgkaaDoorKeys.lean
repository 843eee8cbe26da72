/-
  Package ratchet's areKeys, and sameTag.
-/
import Derived.Test.YtgjdogkciklgkaaDoorBx
import Derived.Test.YtgjdogkciklgkaaDoorIni
namespace Go.Proofs.YtgjdogkciklgkaaDoor
open Go.RowKit

def keysB (ss : List (List UInt8)) : Bool := ss.all fun s => decide (s.length = 32)

set_option maxRecDepth 100000 in
set_option maxHeartbeats 1000000 in
theorem areKeysP (b : Nat) (ss : List (List UInt8)) (hn : ss.length ≤ 1000) (w : World) (hc : ∀ i, i < ss.length → w.cell? ⟨b, i, none⟩ = some (.string (str (ss.getD i [])))) (hl : ∀ s ∈ ss, s.length ≤ maxLen) :
    Calls Tryd.prog 29 #[.slice (some ⟨b, 0, none⟩) ss.length ss.length] w fun e w' => e = .returned (.bool (keysB ss)) ∧ w' = w := by
  have HC := hide hc
  have HL := hide hl
  clear hc hl
  go_enter Tryd.func29, Tryd.ntmps29
  go_wp2
  go_loop [7] (fun t => ∃ k : Nat, k ≤ ss.length ∧ t = .int .i64 k ∧ ∀ i, i < k → (ss.getD i []).length = 32) (fun t => ss.length - (intOf t).toNat)
  case atStart => exact ⟨0, Nat.zero_le _, rfl, fun i hi => by omega⟩
  case round =>
    obtain ⟨k, hk, rfl, hs⟩ := hrel
    have HS := hide hs
    clear hs
    by_cases hkn : k < ss.length
    · have c := HC.out k hkn
      have hmem : ss.getD k [] ∈ ss := by rw [getD_in _ _ hkn]; exact List.getElem_mem _
      have hz := str_size (ss.getD k [])
      have hzl : (ss.getD k []).length ≤ 9223372036854775807 := by have := HL.out _ hmem; unfold maxLen at this; omega
      by_cases hlong : (ss.getD k []).length = 32
      · have HR : Hid (∀ i, i < k + 1 → (ss.getD i []).length = 32) := fun i hi => by
          by_cases e : i = k
          · subst e; omega
          · exact HS.out i (by omega)
        generalize hg : ss.getD k [] = s at *
        clear hmem hg
        go_wp2
        go_round
        case rel => exact ⟨k + 1, by omega, by go_num, HR.out⟩
        case measure => simp [intOf]; omega
      · have HR : Hid (keysB ss = false) := List.all_eq_false.2 ⟨_, hmem, by simpa using hlong⟩
        generalize ss.getD k [] = s at *
        clear hmem
        go_wp2
        go_ret
        refine ⟨?_, rfl⟩
        rw [HR.out]
        rfl
    · have hk' : k = ss.length := by omega
      have HR : Hid (keysB ss = true) := by
        show ss.all _ = true
        rw [List.all_eq_true]
        intro s hs
        obtain ⟨i, hi, rfl⟩ := List.getElem_of_mem hs
        have := HS.out i (by omega)
        rw [getD_in _ _ hi] at this
        simp
        omega
      have HK := hide hk'
      clear hk'
      go_wp2
      go_ret
      refine ⟨?_, rfl⟩
      rw [HR.out]
      rfl

/-- What differs, joined. -/
def diffTo (a b : List UInt8) : Nat → Nat
  | 0 => 0
  | k + 1 => diffTo a b k ||| (byteAt a k ^^^ byteAt b k)
theorem diffTo_lt (a b : List UInt8) : ∀ k, diffTo a b k < 256
  | 0 => by show 0 < 256; decide
  | k + 1 => Nat.or_lt_two_pow (n := 8) (diffTo_lt a b k) (Nat.xor_lt_two_pow (n := 8) (byteAt_lt _ _) (byteAt_lt _ _))
theorem xor_zero_iff (x y : Nat) : x ^^^ y = 0 ↔ x = y := by
  constructor
  · intro h
    have e : (x ^^^ y) ^^^ y = 0 ^^^ y := by rw [h]
    rwa [Nat.xor_assoc, Nat.xor_self, Nat.xor_zero, Nat.zero_xor] at e
  · rintro rfl; exact Nat.xor_self _
theorem diffTo_zero (a b : List UInt8) : ∀ k, diffTo a b k = 0 ↔ ∀ i, i < k → byteAt a i = byteAt b i
  | 0 => ⟨fun _ i hi => by omega, fun _ => rfl⟩
  | k + 1 => by
    simp only [diffTo]
    rw [Nat.or_eq_zero_iff, diffTo_zero a b k, xor_zero_iff]
    constructor
    · rintro ⟨h1, h2⟩ i hi
      by_cases e : i = k
      · subst e; exact h2
      · exact h1 i (by omega)
    · intro h
      exact ⟨fun i hi => h i (by omega), h k (by omega)⟩

set_option maxRecDepth 100000 in
set_option maxHeartbeats 1000000 in
theorem sameTagP (a b : List UInt8) (ha : a.length = 16) (hb : b.length = 16) (w : World) :
    Calls Tryd.prog 33 #[.string (str a), .string (str b)] w fun e w' => e = .returned (.bool (decide (a = b))) ∧ Bel w.heap.size w w' := by
  go_enter Tryd.func33, Tryd.ntmps33
  go_wp2
  go_loopw [5, 7] (fun d t wr => ∃ k : Nat, k ≤ 16 ∧ d = .int .u8 (diffTo a b k : Nat) ∧ t = .int .i64 k ∧ Bel w.heap.size w wr) (fun _ t _ => 16 - (intOf t).toNat)
  case atStart => exact ⟨0, Nat.zero_le _, rfl, rfl, Bel.refl _ _⟩
  case round =>
    obtain ⟨k, hk, rfl, rfl, hB⟩ := hrel
    have HB := hide hB
    clear hB
    by_cases hlt : k < 16
    · have hx := idxL a (k : Int) k rfl (by omega)
      have hy := idxL b (k : Int) k rfl (by omega)
      have lx := byteAt_lt a k
      have ly := byteAt_lt b k
      have ld := diffTo_lt a b k
      have HD : Hid (diffTo a b (k + 1) = diffTo a b k ||| (byteAt a k ^^^ byteAt b k)) := rfl
      have e := u8x (byteAt a k) (byteAt b k) lx ly
      have lz : byteAt a k ^^^ byteAt b k < 256 := Nat.xor_lt_two_pow (n := 8) lx ly
      generalize byteAt a k = x at *
      generalize byteAt b k = y at *
      generalize hz : x ^^^ y = z at *
      have e2 := u8_or_nat (diffTo a b k) z ld lz
      generalize diffTo a b k = d at *
      go_wp2
      go_quiet (fail)
      go_wp2
      go_roundw
      case rel => exact ⟨k + 1, by omega, by rw [HD.out], by go_num, belowN HB.out _⟩
      case measure => simp [intOf]; omega
    · have h16 : k = 16 := by omega
      subst h16
      have HZ : Hid (decide (a = b) = decide (diffTo a b 16 = 0)) := by
        show decide (a = b) = decide (diffTo a b 16 = 0)
        apply decide_eq_decide.2
        rw [diffTo_zero]
        constructor
        · rintro rfl i _; rfl
        · intro h
          exact byteAt_inj (by omega) (fun i hi => h i (by omega))
      have ld := diffTo_lt a b 16
      generalize diffTo a b 16 = d at *
      go_wp2
      go_ret
      refine ⟨?_, HB.out⟩
      rw [HZ.out]
      show Ending.returned (.bool ((d : Int) == 0)) = _
      have e : ((d : Int) == 0) = decide (d = 0) := by
        by_cases h : d = 0
        · subst h; rfl
        · rw [decide_eq_false h]
          simp
          exact h
      rw [e]
end Go.Proofs.YtgjdogkciklgkaaDoor
