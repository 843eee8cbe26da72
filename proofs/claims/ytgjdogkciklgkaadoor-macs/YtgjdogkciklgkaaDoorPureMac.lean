/-
  A step of kind 2 (Mac) is as the document says.
-/
import Derived.Test.YtgjdogkciklgkaaDoorHs
import Derived.Test.YtgjdogkciklgkaaDoorRMac
namespace Go.Proofs.YtgjdogkciklgkaaDoor
open Go.RowKit


set_option maxRecDepth 100000 in
set_option maxHeartbeats 1000000 in
theorem pureMacLong1 (who n flip : Int) (s t u : List UInt8) (hs : 200 < s.length) (ms : s.length ≤ maxLen) (mt : t.length ≤ maxLen) (a : Nat → Addr) (w : World) (hE : Env w a) :
    Calls Tryd.prog 28 #[.agg #[.int .i64 2, .int .i64 who, .int .i64 n, .int .i64 flip, .string (str s), .string (str t), .string (str u)]] w fun e w' => e = .returned (.bool true) ∧ Bel w.heap.size w w' := by
  have HE := hide hE
  clear hE
  have zs := str_size s
  have zt := str_size t
  have ms' : s.length ≤ 9223372036854775807 := by unfold maxLen at ms; omega
  have mt' : t.length ≤ 9223372036854775807 := by unfold maxLen at mt; omega
  have MS := hide ms
  have MT := hide mt
  clear ms mt
  go_enter Tryd.func28, Tryd.ntmps28
  go_wp2_with fail
  have HB : Hid (Bel w.heap.size w (w.alloc (.cells #[.int .i64 2, .int .i64 who, .int .i64 n, .int .i64 flip, .string (str s), .string (str t), .string (str u)] 52))) := (Bel.refl _ _).alloc (Nat.le_refl _) _
  have c4 : (w.alloc (.cells #[.int .i64 2, .int .i64 who, .int .i64 n, .int .i64 flip, .string (str s), .string (str t), .string (str u)] 52)).cell? ⟨w.heap.size, 4, none⟩ = some (.string (str s)) := by rw [World.cell?_alloc_new]; rfl
  have c5 : (w.alloc (.cells #[.int .i64 2, .int .i64 who, .int .i64 n, .int .i64 flip, .string (str s), .string (str t), .string (str u)] 52)).cell? ⟨w.heap.size, 5, none⟩ = some (.string (str t)) := by rw [World.cell?_alloc_new]; rfl
  have hlt : w.heap.size < (w.alloc (.cells #[.int .i64 2, .int .i64 who, .int .i64 n, .int .i64 flip, .string (str s), .string (str t), .string (str u)] 52)).heap.size := by simp
  generalize w.alloc (.cells #[.int .i64 2, .int .i64 who, .int .i64 n, .int .i64 flip, .string (str s), .string (str t), .string (str u)] 52) = w1 at *
  have HE1 := hide (HE.out.below HB.out)
  refine (rMacLong s t (.inl hs) MS.out MT.out (a 0) _ HE1.out.errs.g0).mono ?_
  rintro e w2 ⟨rfl, hb2⟩
  have c4 : w2.cell? ⟨w.heap.size, 4, none⟩ = some (.string (str s)) := (hb2.cell (p := ⟨w.heap.size, 4, none⟩) hlt).trans c4
  have c5 : w2.cell? ⟨w.heap.size, 5, none⟩ = some (.string (str t)) := (hb2.cell (p := ⟨w.heap.size, 5, none⟩) hlt).trans c5
  have HB2 := hide (HB.out.trans (hb2.mono HB.out.size))
  have HE2 := hide (HE1.out.below hb2)
  clear hb2 HB HE1
  go_wp2_with fail
  refine (code_at 0 (by decide) a _ HE2.out.errs).mono ?_
  rintro e w3 ⟨rfl, rfl⟩
  go_wp2
  go_ret
  exact ⟨rfl, HB2.out.alloc HB2.out.size _⟩

set_option maxRecDepth 100000 in
set_option maxHeartbeats 1000000 in
theorem pureMacLong2 (who n flip : Int) (s t u : List UInt8) (hs : s.length ≤ 200) (ht : 200 < t.length) (ms : s.length ≤ maxLen) (mt : t.length ≤ maxLen) (a : Nat → Addr) (w : World) (hE : Env w a) :
    Calls Tryd.prog 28 #[.agg #[.int .i64 2, .int .i64 who, .int .i64 n, .int .i64 flip, .string (str s), .string (str t), .string (str u)]] w fun e w' => e = .returned (.bool true) ∧ Bel w.heap.size w w' := by
  have HE := hide hE
  clear hE
  have zs := str_size s
  have zt := str_size t
  have ms' : s.length ≤ 9223372036854775807 := by unfold maxLen at ms; omega
  have mt' : t.length ≤ 9223372036854775807 := by unfold maxLen at mt; omega
  have MS := hide ms
  have MT := hide mt
  clear ms mt
  go_enter Tryd.func28, Tryd.ntmps28
  go_wp2_with fail
  have HB : Hid (Bel w.heap.size w (w.alloc (.cells #[.int .i64 2, .int .i64 who, .int .i64 n, .int .i64 flip, .string (str s), .string (str t), .string (str u)] 52))) := (Bel.refl _ _).alloc (Nat.le_refl _) _
  have c4 : (w.alloc (.cells #[.int .i64 2, .int .i64 who, .int .i64 n, .int .i64 flip, .string (str s), .string (str t), .string (str u)] 52)).cell? ⟨w.heap.size, 4, none⟩ = some (.string (str s)) := by rw [World.cell?_alloc_new]; rfl
  have c5 : (w.alloc (.cells #[.int .i64 2, .int .i64 who, .int .i64 n, .int .i64 flip, .string (str s), .string (str t), .string (str u)] 52)).cell? ⟨w.heap.size, 5, none⟩ = some (.string (str t)) := by rw [World.cell?_alloc_new]; rfl
  have hlt : w.heap.size < (w.alloc (.cells #[.int .i64 2, .int .i64 who, .int .i64 n, .int .i64 flip, .string (str s), .string (str t), .string (str u)] 52)).heap.size := by simp
  generalize w.alloc (.cells #[.int .i64 2, .int .i64 who, .int .i64 n, .int .i64 flip, .string (str s), .string (str t), .string (str u)] 52) = w1 at *
  have HE1 := hide (HE.out.below HB.out)
  refine (rMacLong s t (.inr ht) MS.out MT.out (a 0) _ HE1.out.errs.g0).mono ?_
  rintro e w2 ⟨rfl, hb2⟩
  have c4 : w2.cell? ⟨w.heap.size, 4, none⟩ = some (.string (str s)) := (hb2.cell (p := ⟨w.heap.size, 4, none⟩) hlt).trans c4
  have c5 : w2.cell? ⟨w.heap.size, 5, none⟩ = some (.string (str t)) := (hb2.cell (p := ⟨w.heap.size, 5, none⟩) hlt).trans c5
  have HB2 := hide (HB.out.trans (hb2.mono HB.out.size))
  have HE2 := hide (HE1.out.below hb2)
  clear hb2 HB HE1
  go_wp2_with fail
  refine (code_at 0 (by decide) a _ HE2.out.errs).mono ?_
  rintro e w3 ⟨rfl, rfl⟩
  go_wp2
  go_ret
  exact ⟨rfl, HB2.out.alloc HB2.out.size _⟩

set_option maxRecDepth 100000 in
set_option maxHeartbeats 1000000 in
theorem pureMacShort (who n flip : Int) (s t u : List UInt8) (hs : s.length ≤ 200) (ht : t.length ≤ 200) (a : Nat → Addr) (w : World) (hE : Env w a) :
    Calls Tryd.prog 28 #[.agg #[.int .i64 2, .int .i64 who, .int .i64 n, .int .i64 flip, .string (str s), .string (str t), .string (str u)]] w fun e w' => e = .returned (.bool true) ∧ Bel w.heap.size w w' := by
  have HE := hide hE
  clear hE
  have zs := str_size s
  have zt := str_size t
  go_enter Tryd.func28, Tryd.ntmps28
  go_wp2_with fail
  have HB : Hid (Bel w.heap.size w (w.alloc (.cells #[.int .i64 2, .int .i64 who, .int .i64 n, .int .i64 flip, .string (str s), .string (str t), .string (str u)] 52))) := (Bel.refl _ _).alloc (Nat.le_refl _) _
  have c4 : (w.alloc (.cells #[.int .i64 2, .int .i64 who, .int .i64 n, .int .i64 flip, .string (str s), .string (str t), .string (str u)] 52)).cell? ⟨w.heap.size, 4, none⟩ = some (.string (str s)) := by rw [World.cell?_alloc_new]; rfl
  have c5 : (w.alloc (.cells #[.int .i64 2, .int .i64 who, .int .i64 n, .int .i64 flip, .string (str s), .string (str t), .string (str u)] 52)).cell? ⟨w.heap.size, 5, none⟩ = some (.string (str t)) := by rw [World.cell?_alloc_new]; rfl
  have hlt : w.heap.size < (w.alloc (.cells #[.int .i64 2, .int .i64 who, .int .i64 n, .int .i64 flip, .string (str s), .string (str t), .string (str u)] 52)).heap.size := by simp
  generalize w.alloc (.cells #[.int .i64 2, .int .i64 who, .int .i64 n, .int .i64 flip, .string (str s), .string (str t), .string (str u)] 52) = w1 at *
  have HE1 := hide (HE.out.below HB.out)
  refine (rMacShort s t hs ht _ HE1.out.toTab).mono ?_
  rintro e w2 ⟨rfl, hb2⟩
  have c4 : w2.cell? ⟨w.heap.size, 4, none⟩ = some (.string (str s)) := (hb2.cell (p := ⟨w.heap.size, 4, none⟩) hlt).trans c4
  have c5 : w2.cell? ⟨w.heap.size, 5, none⟩ = some (.string (str t)) := (hb2.cell (p := ⟨w.heap.size, 5, none⟩) hlt).trans c5
  have HB2 := hide (HB.out.trans (hb2.mono HB.out.size))
  have HE2 := hide (HE1.out.below hb2)
  clear hb2 HB HE1
  generalize hy : hmac s t = y at *
  have HY := hide hy
  clear hy
  go_wp2_with fail
  refine (macR s t (by omega) (by omega) _).mono ?_
  rintro e w3 ⟨rfl, hb3⟩
  rw [HY.out]
  have HB3 := hide (HB2.out.trans (hb3.mono HB2.out.size))
  clear hb3
  go_wp2
  go_ret
  exact ⟨rfl, HB3.out⟩

theorem pureMac (who n flip : Int) (s t u : List UInt8) (ms : s.length ≤ maxLen) (mt : t.length ≤ maxLen) (a : Nat → Addr) (w : World) (hE : Env w a) :
    Calls Tryd.prog 28 #[.agg #[.int .i64 2, .int .i64 who, .int .i64 n, .int .i64 flip, .string (str s), .string (str t), .string (str u)]] w fun e w' => e = .returned (.bool true) ∧ Bel w.heap.size w w' := by
  by_cases hs : 200 < s.length
  · exact pureMacLong1 who n flip s t u hs ms mt a w hE
  · by_cases ht : 200 < t.length
    · exact pureMacLong2 who n flip s t u (by omega) ht ms mt a w hE
    · exact pureMacShort who n flip s t u (by omega) (by omega) a w hE

end Go.Proofs.YtgjdogkciklgkaaDoor
