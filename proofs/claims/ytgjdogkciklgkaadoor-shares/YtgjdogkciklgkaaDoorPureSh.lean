/-
  A step of kind 4 (Shared) is as the document says.
-/
import Derived.Test.YtgjdogkciklgkaaDoorRSh
import Derived.Test.YtgjdogkciklgkaaDoorPureMac
namespace Go.Proofs.YtgjdogkciklgkaaDoor
open Go.RowKit

set_option maxRecDepth 100000 in
set_option maxHeartbeats 2000000 in
theorem sharesBad (who n flip : Int) (s t u : List UInt8) (h : s.length ≠ 32) (ms : s.length ≤ maxLen) (mt : t.length ≤ maxLen) (a : Nat → Addr) (w : World) (hE : Env w a) :
    Calls Tryd.prog 53 #[.agg #[.int .i64 4, .int .i64 who, .int .i64 n, .int .i64 flip, .string (str s), .string (str t), .string (str u)]] w fun e w' => e = .returned (.bool true) ∧ Bel w.heap.size w w' := by
  have HE := hide hE
  clear hE
  have zs := str_size s
  have zt := str_size t
  have ms' : s.length ≤ 9223372036854775807 := by unfold maxLen at ms; omega
  have mt' : t.length ≤ 9223372036854775807 := by unfold maxLen at mt; omega
  have MS := hide ms
  have MT := hide mt
  clear ms mt
  go_enter Tryd.func53, Tryd.ntmps53
  go_wp2_with fail
  have HB : Hid (Bel w.heap.size w (w.alloc (.cells #[.int .i64 4, .int .i64 who, .int .i64 n, .int .i64 flip, .string (str s), .string (str t), .string (str u)] 52))) := (Bel.refl _ _).alloc (Nat.le_refl _) _
  have c4 : (w.alloc (.cells #[.int .i64 4, .int .i64 who, .int .i64 n, .int .i64 flip, .string (str s), .string (str t), .string (str u)] 52)).cell? ⟨w.heap.size, 4, none⟩ = some (.string (str s)) := by rw [World.cell?_alloc_new]; rfl
  have c5 : (w.alloc (.cells #[.int .i64 4, .int .i64 who, .int .i64 n, .int .i64 flip, .string (str s), .string (str t), .string (str u)] 52)).cell? ⟨w.heap.size, 5, none⟩ = some (.string (str t)) := by rw [World.cell?_alloc_new]; rfl
  have hlt : w.heap.size < (w.alloc (.cells #[.int .i64 4, .int .i64 who, .int .i64 n, .int .i64 flip, .string (str s), .string (str t), .string (str u)] 52)).heap.size := by simp
  generalize (w.alloc (.cells #[.int .i64 4, .int .i64 who, .int .i64 n, .int .i64 flip, .string (str s), .string (str t), .string (str u)] 52)) = w1 at *
  have HE1 := hide (HE.out.below HB.out)
  refine (rSharedBad s t (.inl h) MS.out MT.out (a 1) _ HE1.out.errs.g1).mono ?_
  rintro e w2 ⟨rfl, hb2⟩
  have c4 : w2.cell? ⟨w.heap.size, 4, none⟩ = some (.string (str s)) := (hb2.cell (p := ⟨w.heap.size, 4, none⟩) hlt).trans c4
  have c5 : w2.cell? ⟨w.heap.size, 5, none⟩ = some (.string (str t)) := (hb2.cell (p := ⟨w.heap.size, 5, none⟩) hlt).trans c5
  have hlt := Nat.lt_of_lt_of_le hlt hb2.size
  have HB2 := hide (HB.out.trans (hb2.mono HB.out.size))
  have HE2 := hide (HE1.out.below hb2)
  clear hb2 HB HE1
  go_wp2_with fail
  refine (rPublicBad s h MS.out (a 1) _ HE2.out.errs.g1).mono ?_
  rintro e w3 ⟨rfl, hb3⟩
  have c4 : w3.cell? ⟨w.heap.size, 4, none⟩ = some (.string (str s)) := (hb3.cell (p := ⟨w.heap.size, 4, none⟩) hlt).trans c4
  have c5 : w3.cell? ⟨w.heap.size, 5, none⟩ = some (.string (str t)) := (hb3.cell (p := ⟨w.heap.size, 5, none⟩) hlt).trans c5
  have hlt := Nat.lt_of_lt_of_le hlt hb3.size
  have HB3 := hide (HB2.out.trans (hb3.mono HB2.out.size))
  have HE3 := hide (HE2.out.below hb3)
  clear hb3 HB2 HE2
  have ne32 : ¬ (s.length : Int) = 32 := by omega
  go_wp2_with fail
  refine (code_at 1 (by decide) a _ HE3.out.errs).mono ?_
  rintro e w4 ⟨rfl, rfl⟩
  have HB4 : Hid (Bel w.heap.size w (w3.alloc (.cells (errList a) 23))) := HB3.out.alloc HB3.out.size _
  have HE4 : Hid (Env (w3.alloc (.cells (errList a) 23)) a) := HE3.out.below ((Bel.refl _ _).alloc (Nat.le_refl _) _)
  generalize w3.alloc (.cells (errList a) 23) = w4 at *
  go_wp2_with fail
  refine (code_at 1 (by decide) a _ HE4.out.errs).mono ?_
  rintro e w5 ⟨rfl, rfl⟩
  go_wp2
  go_ret
  exact ⟨rfl, HB4.out.alloc HB4.out.size _⟩

set_option maxRecDepth 100000 in
set_option maxHeartbeats 2000000 in
theorem sharesMid (who n flip : Int) (s t u : List UInt8) (h : s.length = 32) (h2 : t.length ≠ 32) (ms : s.length ≤ maxLen) (mt : t.length ≤ maxLen) (a : Nat → Addr) (w : World) (hE : Env w a) :
    Calls Tryd.prog 53 #[.agg #[.int .i64 4, .int .i64 who, .int .i64 n, .int .i64 flip, .string (str s), .string (str t), .string (str u)]] w fun e w' => e = .returned (.bool true) ∧ Bel w.heap.size w w' := by
  have HE := hide hE
  clear hE
  have zs := str_size s
  have zt := str_size t
  have ms' : s.length ≤ 9223372036854775807 := by unfold maxLen at ms; omega
  have mt' : t.length ≤ 9223372036854775807 := by unfold maxLen at mt; omega
  have MS := hide ms
  have MT := hide mt
  clear ms mt
  go_enter Tryd.func53, Tryd.ntmps53
  go_wp2_with fail
  have HB : Hid (Bel w.heap.size w (w.alloc (.cells #[.int .i64 4, .int .i64 who, .int .i64 n, .int .i64 flip, .string (str s), .string (str t), .string (str u)] 52))) := (Bel.refl _ _).alloc (Nat.le_refl _) _
  have c4 : (w.alloc (.cells #[.int .i64 4, .int .i64 who, .int .i64 n, .int .i64 flip, .string (str s), .string (str t), .string (str u)] 52)).cell? ⟨w.heap.size, 4, none⟩ = some (.string (str s)) := by rw [World.cell?_alloc_new]; rfl
  have c5 : (w.alloc (.cells #[.int .i64 4, .int .i64 who, .int .i64 n, .int .i64 flip, .string (str s), .string (str t), .string (str u)] 52)).cell? ⟨w.heap.size, 5, none⟩ = some (.string (str t)) := by rw [World.cell?_alloc_new]; rfl
  have hlt : w.heap.size < (w.alloc (.cells #[.int .i64 4, .int .i64 who, .int .i64 n, .int .i64 flip, .string (str s), .string (str t), .string (str u)] 52)).heap.size := by simp
  generalize (w.alloc (.cells #[.int .i64 4, .int .i64 who, .int .i64 n, .int .i64 flip, .string (str s), .string (str t), .string (str u)] 52)) = w1 at *
  have HE1 := hide (HE.out.below HB.out)
  refine (rSharedBad s t (.inr h2) MS.out MT.out (a 1) _ HE1.out.errs.g1).mono ?_
  rintro e w2 ⟨rfl, hb2⟩
  have c4 : w2.cell? ⟨w.heap.size, 4, none⟩ = some (.string (str s)) := (hb2.cell (p := ⟨w.heap.size, 4, none⟩) hlt).trans c4
  have c5 : w2.cell? ⟨w.heap.size, 5, none⟩ = some (.string (str t)) := (hb2.cell (p := ⟨w.heap.size, 5, none⟩) hlt).trans c5
  have hlt := Nat.lt_of_lt_of_le hlt hb2.size
  have HB2 := hide (HB.out.trans (hb2.mono HB.out.size))
  have HE2 := hide (HE1.out.below hb2)
  clear hb2 HB HE1
  go_wp2_with fail
  refine (rPublicGood s h _).mono ?_
  rintro e w3 ⟨rfl, hb3⟩
  have c4 : w3.cell? ⟨w.heap.size, 4, none⟩ = some (.string (str s)) := (hb3.cell (p := ⟨w.heap.size, 4, none⟩) hlt).trans c4
  have c5 : w3.cell? ⟨w.heap.size, 5, none⟩ = some (.string (str t)) := (hb3.cell (p := ⟨w.heap.size, 5, none⟩) hlt).trans c5
  have hlt := Nat.lt_of_lt_of_le hlt hb3.size
  have HB3 := hide (HB2.out.trans (hb3.mono HB2.out.size))
  have HE3 := hide (HE2.out.below hb3)
  clear hb3 HB2 HE2
  generalize hy : x25519 s nine = y at *
  have HY := hide hy
  clear hy
  have i32 : (s.length : Int) = 32 := by omega
  have ne32 : ¬ (t.length : Int) = 32 := by omega
  go_wp2_with fail
  refine (publicR s h _).mono ?_
  rintro e w4 ⟨rfl, hb4⟩
  have c4 : w4.cell? ⟨w.heap.size, 4, none⟩ = some (.string (str s)) := (hb4.cell (p := ⟨w.heap.size, 4, none⟩) hlt).trans c4
  have c5 : w4.cell? ⟨w.heap.size, 5, none⟩ = some (.string (str t)) := (hb4.cell (p := ⟨w.heap.size, 5, none⟩) hlt).trans c5
  have hlt := Nat.lt_of_lt_of_le hlt hb4.size
  have HB4 := hide (HB3.out.trans (hb4.mono HB3.out.size))
  have HE4 := hide (HE3.out.below hb4)
  clear hb4 HB3 HE3
  rw [HY.out]
  go_wp2_with fail
  refine (code_at 1 (by decide) a _ HE4.out.errs).mono ?_
  rintro e w5 ⟨rfl, rfl⟩
  go_wp2
  go_ret
  exact ⟨rfl, HB4.out.alloc HB4.out.size _⟩

set_option maxRecDepth 100000 in
set_option maxHeartbeats 2000000 in
theorem sharesGood (who n flip : Int) (s t u : List UInt8) (h : s.length = 32) (h2 : t.length = 32) (ms : s.length ≤ maxLen) (mt : t.length ≤ maxLen) (a : Nat → Addr) (w : World) (hE : Env w a) :
    Calls Tryd.prog 53 #[.agg #[.int .i64 4, .int .i64 who, .int .i64 n, .int .i64 flip, .string (str s), .string (str t), .string (str u)]] w fun e w' => e = .returned (.bool true) ∧ Bel w.heap.size w w' := by
  have HE := hide hE
  clear hE
  have zs := str_size s
  have zt := str_size t
  have ms' : s.length ≤ 9223372036854775807 := by unfold maxLen at ms; omega
  have mt' : t.length ≤ 9223372036854775807 := by unfold maxLen at mt; omega
  have MS := hide ms
  have MT := hide mt
  clear ms mt
  go_enter Tryd.func53, Tryd.ntmps53
  go_wp2_with fail
  have HB : Hid (Bel w.heap.size w (w.alloc (.cells #[.int .i64 4, .int .i64 who, .int .i64 n, .int .i64 flip, .string (str s), .string (str t), .string (str u)] 52))) := (Bel.refl _ _).alloc (Nat.le_refl _) _
  have c4 : (w.alloc (.cells #[.int .i64 4, .int .i64 who, .int .i64 n, .int .i64 flip, .string (str s), .string (str t), .string (str u)] 52)).cell? ⟨w.heap.size, 4, none⟩ = some (.string (str s)) := by rw [World.cell?_alloc_new]; rfl
  have c5 : (w.alloc (.cells #[.int .i64 4, .int .i64 who, .int .i64 n, .int .i64 flip, .string (str s), .string (str t), .string (str u)] 52)).cell? ⟨w.heap.size, 5, none⟩ = some (.string (str t)) := by rw [World.cell?_alloc_new]; rfl
  have hlt : w.heap.size < (w.alloc (.cells #[.int .i64 4, .int .i64 who, .int .i64 n, .int .i64 flip, .string (str s), .string (str t), .string (str u)] 52)).heap.size := by simp
  generalize (w.alloc (.cells #[.int .i64 4, .int .i64 who, .int .i64 n, .int .i64 flip, .string (str s), .string (str t), .string (str u)] 52)) = w1 at *
  have HE1 := hide (HE.out.below HB.out)
  refine (rSharedGood s t h h2 _).mono ?_
  rintro e w2 ⟨rfl, hb2⟩
  have c4 : w2.cell? ⟨w.heap.size, 4, none⟩ = some (.string (str s)) := (hb2.cell (p := ⟨w.heap.size, 4, none⟩) hlt).trans c4
  have c5 : w2.cell? ⟨w.heap.size, 5, none⟩ = some (.string (str t)) := (hb2.cell (p := ⟨w.heap.size, 5, none⟩) hlt).trans c5
  have hlt := Nat.lt_of_lt_of_le hlt hb2.size
  have HB2 := hide (HB.out.trans (hb2.mono HB.out.size))
  have HE2 := hide (HE1.out.below hb2)
  clear hb2 HB HE1
  generalize hx : x25519 s t = x at *
  have HX := hide hx
  clear hx
  go_wp2_with fail
  refine (rPublicGood s h _).mono ?_
  rintro e w3 ⟨rfl, hb3⟩
  have c4 : w3.cell? ⟨w.heap.size, 4, none⟩ = some (.string (str s)) := (hb3.cell (p := ⟨w.heap.size, 4, none⟩) hlt).trans c4
  have c5 : w3.cell? ⟨w.heap.size, 5, none⟩ = some (.string (str t)) := (hb3.cell (p := ⟨w.heap.size, 5, none⟩) hlt).trans c5
  have hlt := Nat.lt_of_lt_of_le hlt hb3.size
  have HB3 := hide (HB2.out.trans (hb3.mono HB2.out.size))
  have HE3 := hide (HE2.out.below hb3)
  clear hb3 HB2 HE2
  generalize hy : x25519 s nine = y at *
  have HY := hide hy
  clear hy
  have i32 : (s.length : Int) = 32 := by omega
  have j32 : (t.length : Int) = 32 := by omega
  go_wp2_with fail
  refine (publicR s h _).mono ?_
  rintro e w4 ⟨rfl, hb4⟩
  have c4 : w4.cell? ⟨w.heap.size, 4, none⟩ = some (.string (str s)) := (hb4.cell (p := ⟨w.heap.size, 4, none⟩) hlt).trans c4
  have c5 : w4.cell? ⟨w.heap.size, 5, none⟩ = some (.string (str t)) := (hb4.cell (p := ⟨w.heap.size, 5, none⟩) hlt).trans c5
  have hlt := Nat.lt_of_lt_of_le hlt hb4.size
  have HB4 := hide (HB3.out.trans (hb4.mono HB3.out.size))
  have HE4 := hide (HE3.out.below hb4)
  clear hb4 HB3 HE3
  rw [HY.out]
  go_wp2_with fail
  refine (sharedR s t h h2 _).mono ?_
  rintro e w5 ⟨rfl, hb5⟩
  have c4 : w5.cell? ⟨w.heap.size, 4, none⟩ = some (.string (str s)) := (hb5.cell (p := ⟨w.heap.size, 4, none⟩) hlt).trans c4
  have c5 : w5.cell? ⟨w.heap.size, 5, none⟩ = some (.string (str t)) := (hb5.cell (p := ⟨w.heap.size, 5, none⟩) hlt).trans c5
  have hlt := Nat.lt_of_lt_of_le hlt hb5.size
  have HB5 := hide (HB4.out.trans (hb5.mono HB4.out.size))
  have HE5 := hide (HE4.out.below hb5)
  clear hb5 HB4 HE4
  rw [HX.out]
  go_wp2
  go_ret
  exact ⟨rfl, HB5.out⟩

theorem sharesP (who n flip : Int) (s t u : List UInt8) (ms : s.length ≤ maxLen) (mt : t.length ≤ maxLen) (a : Nat → Addr) (w : World) (hE : Env w a) :
    Calls Tryd.prog 53 #[.agg #[.int .i64 4, .int .i64 who, .int .i64 n, .int .i64 flip, .string (str s), .string (str t), .string (str u)]] w fun e w' => e = .returned (.bool true) ∧ Bel w.heap.size w w' := by
  by_cases h : s.length = 32
  · by_cases h2 : t.length = 32
    · exact sharesGood who n flip s t u h h2 ms mt a w hE
    · exact sharesMid who n flip s t u h h2 ms mt a w hE
  · exact sharesBad who n flip s t u h ms mt a w hE

set_option maxRecDepth 100000 in
set_option maxHeartbeats 1000000 in
theorem pureShares (who n flip : Int) (s t u : List UInt8) (ms : s.length ≤ maxLen) (mt : t.length ≤ maxLen) (a : Nat → Addr) (w : World) (hE : Env w a) :
    Calls Tryd.prog 28 #[.agg #[.int .i64 4, .int .i64 who, .int .i64 n, .int .i64 flip, .string (str s), .string (str t), .string (str u)]] w fun e w' => e = .returned (.bool true) ∧ Bel w.heap.size w w' := by
  have HE := hide hE
  have MS := hide ms
  have MT := hide mt
  clear hE ms mt
  have HB : Hid (Bel w.heap.size w (w.alloc (.cells #[.int .i64 4, .int .i64 who, .int .i64 n, .int .i64 flip, .string (str s), .string (str t), .string (str u)] 52))) := (Bel.refl _ _).alloc (Nat.le_refl _) _
  have HBk : Hid ((w.alloc (.cells #[.int .i64 4, .int .i64 who, .int .i64 n, .int .i64 flip, .string (str s), .string (str t), .string (str u)] 52)).heap[w.heap.size]? = some (.cells #[.int .i64 4, .int .i64 who, .int .i64 n, .int .i64 flip, .string (str s), .string (str t), .string (str u)] 52)) := heap_alloc_new w _
  go_enter Tryd.func28, Tryd.ntmps28
  go_wp2_with fail
  generalize (w.alloc (.cells #[.int .i64 4, .int .i64 who, .int .i64 n, .int .i64 flip, .string (str s), .string (str t), .string (str u)] 52)) = w1 at *
  have HE1 := hide (HE.out.below HB.out)
  refine (sharesP who n flip s t u MS.out MT.out a _ HE1.out).mono ?_
  rintro e w2 ⟨rfl, hb2⟩
  have HB2 := hide (HB.out.trans (hb2.mono HB.out.size))
  clear hb2
  go_wp2
  go_ret
  exact ⟨rfl, HB2.out⟩
end Go.Proofs.YtgjdogkciklgkaaDoor
