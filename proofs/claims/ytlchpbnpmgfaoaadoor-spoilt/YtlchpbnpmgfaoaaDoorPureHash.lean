/-
  A step of kind 1 (Hash) is as the document says.
-/
import Derived.Test.YtlchpbnpmgfaoaaDoorRHash
import Derived.Test.YtlchpbnpmgfaoaaDoorRefH
namespace Go.Proofs.YtlchpbnpmgfaoaaDoor
open Go.RowKit

/-- What the package's variables hold. -/
structure Env (w : World) (a : Nat → Addr) : Prop where
  errs : Errs w a
  lt : 7 < w.heap.size
  tab : ∀ t, t < 64 → w.cell? ⟨7, t, none⟩ = some (.int .u32 (kTab.getD t 0 : Nat))
theorem Env.below {w w' : World} {a : Nat → Addr} (h : Env w a) (hb : Bel w.heap.size w w') : Env w' a :=
  ⟨h.errs.below hb, Nat.lt_of_lt_of_le h.lt hb.size, fun t ht => (hb.cell (p := ⟨7, t, none⟩) h.lt).trans (h.tab t ht)⟩

/-- A step as a value. -/
def opV (kind who n flip : Int) (s t u : List UInt8) : Array Value := #[.int .i64 kind, .int .i64 who, .int .i64 n, .int .i64 flip, .string (str s), .string (str t), .string (str u)]

set_option maxRecDepth 100000 in
set_option maxHeartbeats 1000000 in
theorem pureHashLong (who n flip : Int) (s t u : List UInt8) (hs : 200 < s.length) (hm : s.length ≤ maxLen) (a : Nat → Addr) (w : World) (hE : Env w a) :
    Calls Tryd.prog 28 #[.agg #[.int .i64 1, .int .i64 who, .int .i64 n, .int .i64 flip, .string (str s), .string (str t), .string (str u)]] w fun e w' => e = .returned (.bool true) ∧ Bel w.heap.size w w' := by
  have HE := hide hE
  clear hE
  have hz := str_size s
  have hm' : s.length ≤ 9223372036854775807 := by unfold maxLen at hm; omega
  have HM := hide hm
  clear hm
  go_enter Tryd.func28, Tryd.ntmps28
  go_wp2_with fail
  have HB : Hid (Bel w.heap.size w (w.alloc (.cells #[.int .i64 1, .int .i64 who, .int .i64 n, .int .i64 flip, .string (str s), .string (str t), .string (str u)] 52))) := (Bel.refl _ _).alloc (Nat.le_refl _) _
  have c4 : (w.alloc (.cells #[.int .i64 1, .int .i64 who, .int .i64 n, .int .i64 flip, .string (str s), .string (str t), .string (str u)] 52)).cell? ⟨w.heap.size, 4, none⟩ = some (.string (str s)) := by rw [World.cell?_alloc_new]; rfl
  have hlt : w.heap.size < (w.alloc (.cells #[.int .i64 1, .int .i64 who, .int .i64 n, .int .i64 flip, .string (str s), .string (str t), .string (str u)] 52)).heap.size := by simp
  generalize w.alloc (.cells #[.int .i64 1, .int .i64 who, .int .i64 n, .int .i64 flip, .string (str s), .string (str t), .string (str u)] 52) = w1 at *
  have HE1 := hide (HE.out.below HB.out)
  refine (rHashLong s hs HM.out (a 0) _ HE1.out.errs.g0).mono ?_
  rintro e w2 ⟨rfl, hb2⟩
  have c4 : w2.cell? ⟨w.heap.size, 4, none⟩ = some (.string (str s)) := (hb2.cell (p := ⟨w.heap.size, 4, none⟩) hlt).trans c4
  have HB2 := hide (HB.out.trans (hb2.mono HB.out.size))
  have HE2 := hide (HE1.out.below hb2)
  clear hb2 HB HE1
  go_wp2_with fail
  refine (code_at 0 (by decide) a _ HE2.out.errs).mono ?_
  rintro e w3 ⟨rfl, rfl⟩
  go_wp2
  go_ret
  exact ⟨rfl, HB2.out.alloc HB2.out.size _⟩

set_option maxRecDepth 100000 in
set_option maxHeartbeats 1000000 in
theorem pureHashShort (who n flip : Int) (s t u : List UInt8) (hs : s.length ≤ 200) (a : Nat → Addr) (w : World) (hE : Env w a) :
    Calls Tryd.prog 28 #[.agg #[.int .i64 1, .int .i64 who, .int .i64 n, .int .i64 flip, .string (str s), .string (str t), .string (str u)]] w fun e w' => e = .returned (.bool true) ∧ Bel w.heap.size w w' := by
  have HE := hide hE
  clear hE
  have hz := str_size s
  go_enter Tryd.func28, Tryd.ntmps28
  go_wp2_with fail
  have HB : Hid (Bel w.heap.size w (w.alloc (.cells #[.int .i64 1, .int .i64 who, .int .i64 n, .int .i64 flip, .string (str s), .string (str t), .string (str u)] 52))) := (Bel.refl _ _).alloc (Nat.le_refl _) _
  have c4 : (w.alloc (.cells #[.int .i64 1, .int .i64 who, .int .i64 n, .int .i64 flip, .string (str s), .string (str t), .string (str u)] 52)).cell? ⟨w.heap.size, 4, none⟩ = some (.string (str s)) := by rw [World.cell?_alloc_new]; rfl
  have hlt : w.heap.size < (w.alloc (.cells #[.int .i64 1, .int .i64 who, .int .i64 n, .int .i64 flip, .string (str s), .string (str t), .string (str u)] 52)).heap.size := by simp
  generalize w.alloc (.cells #[.int .i64 1, .int .i64 who, .int .i64 n, .int .i64 flip, .string (str s), .string (str t), .string (str u)] 52) = w1 at *
  have HE1 := hide (HE.out.below HB.out)
  refine (rHashShort s hs _ HE1.out.lt HE1.out.tab).mono ?_
  rintro e w2 ⟨rfl, hb2⟩
  have c4 : w2.cell? ⟨w.heap.size, 4, none⟩ = some (.string (str s)) := (hb2.cell (p := ⟨w.heap.size, 4, none⟩) hlt).trans c4
  have HB2 := hide (HB.out.trans (hb2.mono HB.out.size))
  clear hb2 HB HE1
  generalize hy : sha s = y at *
  have HY := hide hy
  clear hy
  go_wp2_with fail
  refine (refHash s (by omega) _).mono ?_
  rintro e w3 ⟨rfl, hb3⟩
  rw [HY.out]
  have HB3 := hide (HB2.out.trans (hb3.mono HB2.out.size))
  clear hb3
  go_wp2
  go_ret
  exact ⟨rfl, HB3.out⟩

/-- A step of kind 1. -/
theorem pureHash (who n flip : Int) (s t u : List UInt8) (hm : s.length ≤ maxLen) (a : Nat → Addr) (w : World) (hE : Env w a) :
    Calls Tryd.prog 28 #[.agg #[.int .i64 1, .int .i64 who, .int .i64 n, .int .i64 flip, .string (str s), .string (str t), .string (str u)]] w fun e w' => e = .returned (.bool true) ∧ Bel w.heap.size w w' := by
  by_cases hs : s.length ≤ 200
  · exact pureHashShort who n flip s t u hs a w hE
  · exact pureHashLong who n flip s t u (by omega) hm a w hE
end Go.Proofs.YtlchpbnpmgfaoaaDoor
