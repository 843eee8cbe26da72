/-
  Package ratchet's Hash: its limit, and the sum.
-/
import Derived.Test.YtgjdogkciklgkaaDoorHash
import Derived.Test.YtgjdogkciklgkaaDoorEr
import Derived.Test.YtgjdogkciklgkaaDoorIni
import Derived.Test.YtgjdogkciklgkaaDoorRefH
namespace Go.Proofs.YtgjdogkciklgkaaDoor
open Go.RowKit

def longs (ss : List (List UInt8)) : Bool := ss.any fun s => decide (200 < s.length)

set_option maxRecDepth 100000 in
set_option maxHeartbeats 1000000 in
theorem anyLongP (b : Nat) (ss : List (List UInt8)) (hn : ss.length ≤ 1000) (w : World) (hc : ∀ i, i < ss.length → w.cell? ⟨b, i, none⟩ = some (.string (str (ss.getD i [])))) (hl : ∀ s ∈ ss, s.length ≤ maxLen) :
    Calls Tryd.prog 74 #[.slice (some ⟨b, 0, none⟩) ss.length ss.length] w fun e w' => e = .returned (.bool (longs ss)) ∧ w' = w := by
  have HC := hide hc
  have HL := hide hl
  clear hc hl
  go_enter Tryd.func74, Tryd.ntmps74
  go_wp2
  go_loop [7] (fun t => ∃ k : Nat, k ≤ ss.length ∧ t = .int .i64 k ∧ ∀ i, i < k → (ss.getD i []).length ≤ 200) (fun t => ss.length - (intOf t).toNat)
  case atStart => exact ⟨0, Nat.zero_le _, rfl, fun i hi => by omega⟩
  case round =>
    obtain ⟨k, hk, rfl, hs⟩ := hrel
    have HS := hide hs
    clear hs
    by_cases hkn : k < ss.length
    · have c := HC.out k hkn
      have hmem : ss.getD k [] ∈ ss := by rw [getD_in _ _ hkn]; exact List.getElem_mem _
      have hz := str_size (ss.getD k [])
      have hzl : (ss.getD k []).length ≤ 9223372036854775807 := by have := HL.out _ hmem; unfold maxLen at this; omega
      by_cases hlong : 200 < (ss.getD k []).length
      · have HR : Hid (longs ss = true) := List.any_eq_true.2 ⟨_, hmem, by simpa using hlong⟩
        generalize ss.getD k [] = s at *
        clear hmem
        go_wp2
        go_ret
        refine ⟨?_, rfl⟩
        rw [HR.out]
        rfl
      · have HR : Hid (∀ i, i < k + 1 → (ss.getD i []).length ≤ 200) := fun i hi => by
          by_cases e : i = k
          · subst e; omega
          · exact HS.out i (by omega)
        generalize hg : ss.getD k [] = s at *
        clear hmem hg
        go_wp2
        go_round
        case rel => exact ⟨k + 1, by omega, by go_num, HR.out⟩
        case measure => simp [intOf]; omega
    · have hk' : k = ss.length := by omega
      have HR : Hid (longs ss = false) := by
        show ss.any _ = false
        rw [List.any_eq_false]
        intro s hs
        obtain ⟨i, hi, rfl⟩ := List.getElem_of_mem hs
        have := HS.out i (by omega)
        rw [getD_in _ _ hi] at this
        simp
        omega
      have HK := hide hk'
      clear hk'
      go_wp2
      go_ret
      refine ⟨?_, rfl⟩
      rw [HR.out]
      rfl

set_option maxRecDepth 100000 in
set_option maxHeartbeats 1000000 in
theorem rHashShort (l : List UInt8) (hl : l.length ≤ 200) (w : World)
    (hG : 7 < w.heap.size) (hT : ∀ t, t < 64 → w.cell? ⟨7, t, none⟩ = some (.int .u32 (kTab.getD t 0 : Nat))) :
    Calls Tryd.prog 47 #[.string (str l)] w fun e w' => e = .returned (.tuple #[.string (str (sha l)), .nilIface]) ∧ Bel w.heap.size w w' := by
  have HT := hide hT
  have HAny : Hid (longs [l] = false) := by show longs [l] = false; simp [longs]; omega
  clear hT
  go_enter Tryd.func47, Tryd.ntmps47
  go_wp2_with fail
  refine (anyLongP w.heap.size [l] (by simp) _ (fun i hi => by
    obtain rfl : i = 0 := by simpa using hi
    rw [World.cell?_alloc_new]; rfl) (by intro s hs; simp at hs; subst hs; unfold maxLen; omega)).mono ?_
  rintro e w1 ⟨rfl, rfl⟩
  rw [HAny.out]
  have HB : Hid (Bel w.heap.size w (w.alloc (.cells #[.string (str l)] 9))) := (Bel.refl _ _).alloc (Nat.le_refl _) _
  generalize w.alloc (.cells #[.string (str l)] 9) = w2 at *
  go_wp2_with fail
  refine (hashP l (by omega) _ (Nat.lt_of_lt_of_le hG HB.out.size) (fun t ht => (HB.out.cell (p := ⟨7, t, none⟩) hG).trans (HT.out t ht))).mono ?_
  rintro e w3 ⟨rfl, hb3⟩
  have HB3 := hide (HB.out.trans (hb3.mono HB.out.size))
  clear hb3
  go_wp2
  go_ret2
  exact ⟨rfl, HB3.out⟩

set_option maxRecDepth 100000 in
set_option maxHeartbeats 1000000 in
theorem rHashLong (l : List UInt8) (hl : 200 < l.length) (hm : l.length ≤ maxLen) (a : Addr) (w : World) (hE : w.cell? ⟨0, 0, none⟩ = some (.iface 161 (.pointer (some a)))) :
    Calls Tryd.prog 47 #[.string (str l)] w fun e w' => e = .returned (.tuple #[.string ⟨#[]⟩, .iface 161 (.pointer (some a))]) ∧ Bel w.heap.size w w' := by
  have HAny : Hid (longs [l] = true) := by show longs [l] = true; simp [longs]; omega
  have hlt := cell_lt hE
  go_enter Tryd.func47, Tryd.ntmps47
  go_wp2_with fail
  refine (anyLongP w.heap.size [l] (by simp) _ (fun i hi => by
    obtain rfl : i = 0 := by simpa using hi
    rw [World.cell?_alloc_new]; rfl) (by intro s hs; simp at hs; subst hs; exact hm)).mono ?_
  rintro e w1 ⟨rfl, rfl⟩
  rw [HAny.out]
  have HB : Hid (Bel w.heap.size w (w.alloc (.cells #[.string (str l)] 9))) := (Bel.refl _ _).alloc (Nat.le_refl _) _
  have hE2 : (w.alloc (.cells #[.string (str l)] 9)).cell? ⟨0, 0, none⟩ = some (.iface 161 (.pointer (some a))) := (HB.out.cell (p := ⟨0, 0, none⟩) hlt).trans hE
  clear hE
  generalize w.alloc (.cells #[.string (str l)] 9) = w2 at *
  go_wp2_with fail
  go_quiet (fail)
  go_wp2
  go_ret2
  exact ⟨rfl, belowN HB.out _⟩
end Go.Proofs.YtgjdogkciklgkaaDoor
namespace Go.Proofs.YtgjdogkciklgkaaDoor
open Go.RowKit

/-- A step as a value. -/
def opV (kind who n flip : Int) (s t u : List UInt8) : Array Value := #[.int .i64 kind, .int .i64 who, .int .i64 n, .int .i64 flip, .string (str s), .string (str t), .string (str u)]

set_option maxRecDepth 100000 in
set_option maxHeartbeats 1000000 in
theorem pureHashLong (who n flip : Int) (s t u : List UInt8) (hs : 200 < s.length) (hm : s.length ≤ maxLen) (a : Nat → Addr) (w : World) (hE : Env w a) :
    Calls Tryd.prog 28 #[.agg #[.int .i64 1, .int .i64 who, .int .i64 n, .int .i64 flip, .string (str s), .string (str t), .string (str u)]] w fun e w' => e = .returned (.bool true) ∧ Bel w.heap.size w w' := by
  have HE := hide hE
  clear hE
  have hz := str_size s
  have hm' : s.length ≤ 9223372036854775807 := by unfold maxLen at hm; omega
  have HM := hide hm
  clear hm
  go_enter Tryd.func28, Tryd.ntmps28
  go_wp2_with fail
  have HB : Hid (Bel w.heap.size w (w.alloc (.cells #[.int .i64 1, .int .i64 who, .int .i64 n, .int .i64 flip, .string (str s), .string (str t), .string (str u)] 52))) := (Bel.refl _ _).alloc (Nat.le_refl _) _
  have c4 : (w.alloc (.cells #[.int .i64 1, .int .i64 who, .int .i64 n, .int .i64 flip, .string (str s), .string (str t), .string (str u)] 52)).cell? ⟨w.heap.size, 4, none⟩ = some (.string (str s)) := by rw [World.cell?_alloc_new]; rfl
  have hlt : w.heap.size < (w.alloc (.cells #[.int .i64 1, .int .i64 who, .int .i64 n, .int .i64 flip, .string (str s), .string (str t), .string (str u)] 52)).heap.size := by simp
  generalize w.alloc (.cells #[.int .i64 1, .int .i64 who, .int .i64 n, .int .i64 flip, .string (str s), .string (str t), .string (str u)] 52) = w1 at *
  have HE1 := hide (HE.out.below HB.out)
  refine (rHashLong s hs HM.out (a 0) _ HE1.out.errs.g0).mono ?_
  rintro e w2 ⟨rfl, hb2⟩
  have c4 : w2.cell? ⟨w.heap.size, 4, none⟩ = some (.string (str s)) := (hb2.cell (p := ⟨w.heap.size, 4, none⟩) hlt).trans c4
  have HB2 := hide (HB.out.trans (hb2.mono HB.out.size))
  have HE2 := hide (HE1.out.below hb2)
  clear hb2 HB HE1
  go_wp2_with fail
  refine (code_at 0 (by decide) a _ HE2.out.errs).mono ?_
  rintro e w3 ⟨rfl, rfl⟩
  go_wp2
  go_ret
  exact ⟨rfl, HB2.out.alloc HB2.out.size _⟩

set_option maxRecDepth 100000 in
set_option maxHeartbeats 1000000 in
theorem pureHashShort (who n flip : Int) (s t u : List UInt8) (hs : s.length ≤ 200) (a : Nat → Addr) (w : World) (hE : Env w a) :
    Calls Tryd.prog 28 #[.agg #[.int .i64 1, .int .i64 who, .int .i64 n, .int .i64 flip, .string (str s), .string (str t), .string (str u)]] w fun e w' => e = .returned (.bool true) ∧ Bel w.heap.size w w' := by
  have HE := hide hE
  clear hE
  have hz := str_size s
  go_enter Tryd.func28, Tryd.ntmps28
  go_wp2_with fail
  have HB : Hid (Bel w.heap.size w (w.alloc (.cells #[.int .i64 1, .int .i64 who, .int .i64 n, .int .i64 flip, .string (str s), .string (str t), .string (str u)] 52))) := (Bel.refl _ _).alloc (Nat.le_refl _) _
  have c4 : (w.alloc (.cells #[.int .i64 1, .int .i64 who, .int .i64 n, .int .i64 flip, .string (str s), .string (str t), .string (str u)] 52)).cell? ⟨w.heap.size, 4, none⟩ = some (.string (str s)) := by rw [World.cell?_alloc_new]; rfl
  have hlt : w.heap.size < (w.alloc (.cells #[.int .i64 1, .int .i64 who, .int .i64 n, .int .i64 flip, .string (str s), .string (str t), .string (str u)] 52)).heap.size := by simp
  generalize w.alloc (.cells #[.int .i64 1, .int .i64 who, .int .i64 n, .int .i64 flip, .string (str s), .string (str t), .string (str u)] 52) = w1 at *
  have HE1 := hide (HE.out.below HB.out)
  refine (rHashShort s hs _ HE1.out.lt HE1.out.tab).mono ?_
  rintro e w2 ⟨rfl, hb2⟩
  have c4 : w2.cell? ⟨w.heap.size, 4, none⟩ = some (.string (str s)) := (hb2.cell (p := ⟨w.heap.size, 4, none⟩) hlt).trans c4
  have HB2 := hide (HB.out.trans (hb2.mono HB.out.size))
  clear hb2 HB HE1
  generalize hy : sha s = y at *
  have HY := hide hy
  clear hy
  go_wp2_with fail
  refine (refHash s (by omega) _).mono ?_
  rintro e w3 ⟨rfl, hb3⟩
  rw [HY.out]
  have HB3 := hide (HB2.out.trans (hb3.mono HB2.out.size))
  clear hb3
  go_wp2
  go_ret
  exact ⟨rfl, HB3.out⟩

/-- A step of kind 1. -/
theorem pureHash (who n flip : Int) (s t u : List UInt8) (hm : s.length ≤ maxLen) (a : Nat → Addr) (w : World) (hE : Env w a) :
    Calls Tryd.prog 28 #[.agg #[.int .i64 1, .int .i64 who, .int .i64 n, .int .i64 flip, .string (str s), .string (str t), .string (str u)]] w fun e w' => e = .returned (.bool true) ∧ Bel w.heap.size w w' := by
  by_cases hs : s.length ≤ 200
  · exact pureHashShort who n flip s t u hs a w hE
  · exact pureHashLong who n flip s t u (by omega) hm a w hE
end Go.Proofs.YtgjdogkciklgkaaDoor
