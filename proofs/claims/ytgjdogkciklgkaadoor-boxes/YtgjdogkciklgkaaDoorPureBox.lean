/-
  A step of kind 5 (Seal) or 6 (Open) is as the document says.
-/
import Derived.Test.YtgjdogkciklgkaaDoorRefSeal
import Derived.Test.YtgjdogkciklgkaaDoorRSeal
import Derived.Test.YtgjdogkciklgkaaDoorPureMac
namespace Go.Proofs.YtgjdogkciklgkaaDoor
open Go.RowKit

set_option maxRecDepth 100000 in
set_option maxHeartbeats 2000000 in
theorem boxesSealL1 (who n flip : Int) (s t u : List UInt8) (h1 : 68 < t.length) (ms : s.length ≤ maxLen) (mt : t.length ≤ maxLen) (mu : u.length ≤ maxLen) (a : Nat → Addr) (w : World) (hE : Env w a) :
    Calls Tryd.prog 54 #[.agg #[.int .i64 5, .int .i64 who, .int .i64 n, .int .i64 flip, .string (str s), .string (str t), .string (str u)]] w fun e w' => e = .returned (.bool true) ∧ Bel w.heap.size w w' := by
  have HE := hide hE
  clear hE
  have zs := str_size s
  have zt := str_size t
  have zu := str_size u
  have ms' : s.length ≤ 9223372036854775807 := by unfold maxLen at ms; omega
  have mt' : t.length ≤ 9223372036854775807 := by unfold maxLen at mt; omega
  have mu' : u.length ≤ 9223372036854775807 := by unfold maxLen at mu; omega
  have MS := hide ms
  have MT := hide mt
  have MU := hide mu
  clear ms mt mu
  have HL : Hid (68 < t.length ∨ 64 < u.length) := by show 68 < t.length ∨ 64 < u.length; omega
  go_enter Tryd.func54, Tryd.ntmps54
  go_wp2_with fail
  have HB : Hid (Bel w.heap.size w (w.alloc (.cells #[.int .i64 5, .int .i64 who, .int .i64 n, .int .i64 flip, .string (str s), .string (str t), .string (str u)] 52))) := (Bel.refl _ _).alloc (Nat.le_refl _) _
  have c0 : (w.alloc (.cells #[.int .i64 5, .int .i64 who, .int .i64 n, .int .i64 flip, .string (str s), .string (str t), .string (str u)] 52)).cell? ⟨w.heap.size, 0, none⟩ = some (.int .i64 5) := by rw [World.cell?_alloc_new]; rfl
  have c4 : (w.alloc (.cells #[.int .i64 5, .int .i64 who, .int .i64 n, .int .i64 flip, .string (str s), .string (str t), .string (str u)] 52)).cell? ⟨w.heap.size, 4, none⟩ = some (.string (str s)) := by rw [World.cell?_alloc_new]; rfl
  have c5 : (w.alloc (.cells #[.int .i64 5, .int .i64 who, .int .i64 n, .int .i64 flip, .string (str s), .string (str t), .string (str u)] 52)).cell? ⟨w.heap.size, 5, none⟩ = some (.string (str t)) := by rw [World.cell?_alloc_new]; rfl
  have c6 : (w.alloc (.cells #[.int .i64 5, .int .i64 who, .int .i64 n, .int .i64 flip, .string (str s), .string (str t), .string (str u)] 52)).cell? ⟨w.heap.size, 6, none⟩ = some (.string (str u)) := by rw [World.cell?_alloc_new]; rfl
  have hlt : w.heap.size < (w.alloc (.cells #[.int .i64 5, .int .i64 who, .int .i64 n, .int .i64 flip, .string (str s), .string (str t), .string (str u)] 52)).heap.size := by simp
  generalize w.alloc (.cells #[.int .i64 5, .int .i64 who, .int .i64 n, .int .i64 flip, .string (str s), .string (str t), .string (str u)] 52) = w1 at *
  have HE1 := hide (HE.out.below HB.out)
  refine (rSealLong s t u HL.out MT.out MU.out (a 0) _ HE1.out.errs.g0).mono ?_
  rintro e w2 ⟨rfl, hb2⟩
  have c0 : w2.cell? ⟨w.heap.size, 0, none⟩ = some (.int .i64 5) := (hb2.cell (p := ⟨w.heap.size, 0, none⟩) hlt).trans c0
  have c4 : w2.cell? ⟨w.heap.size, 4, none⟩ = some (.string (str s)) := (hb2.cell (p := ⟨w.heap.size, 4, none⟩) hlt).trans c4
  have c5 : w2.cell? ⟨w.heap.size, 5, none⟩ = some (.string (str t)) := (hb2.cell (p := ⟨w.heap.size, 5, none⟩) hlt).trans c5
  have c6 : w2.cell? ⟨w.heap.size, 6, none⟩ = some (.string (str u)) := (hb2.cell (p := ⟨w.heap.size, 6, none⟩) hlt).trans c6
  have HB2 := hide (HB.out.trans (hb2.mono HB.out.size))
  have HE2 := hide (HE1.out.below hb2)
  clear hb2 HB HE1
  go_wp2_with fail
  refine (code_at 0 (by decide) a _ HE2.out.errs).mono ?_
  rintro e w3 ⟨rfl, rfl⟩
  go_wp2
  go_ret
  exact ⟨rfl, HB2.out.alloc HB2.out.size _⟩

set_option maxRecDepth 100000 in
set_option maxHeartbeats 2000000 in
theorem boxesSealL2 (who n flip : Int) (s t u : List UInt8) (h1 : t.length ≤ 68) (h2 : 80 < u.length) (ms : s.length ≤ maxLen) (mt : t.length ≤ maxLen) (mu : u.length ≤ maxLen) (a : Nat → Addr) (w : World) (hE : Env w a) :
    Calls Tryd.prog 54 #[.agg #[.int .i64 5, .int .i64 who, .int .i64 n, .int .i64 flip, .string (str s), .string (str t), .string (str u)]] w fun e w' => e = .returned (.bool true) ∧ Bel w.heap.size w w' := by
  have HE := hide hE
  clear hE
  have zs := str_size s
  have zt := str_size t
  have zu := str_size u
  have ms' : s.length ≤ 9223372036854775807 := by unfold maxLen at ms; omega
  have mt' : t.length ≤ 9223372036854775807 := by unfold maxLen at mt; omega
  have mu' : u.length ≤ 9223372036854775807 := by unfold maxLen at mu; omega
  have MS := hide ms
  have MT := hide mt
  have MU := hide mu
  clear ms mt mu
  have HL : Hid (68 < t.length ∨ 64 < u.length) := by show 68 < t.length ∨ 64 < u.length; omega
  go_enter Tryd.func54, Tryd.ntmps54
  go_wp2_with fail
  have HB : Hid (Bel w.heap.size w (w.alloc (.cells #[.int .i64 5, .int .i64 who, .int .i64 n, .int .i64 flip, .string (str s), .string (str t), .string (str u)] 52))) := (Bel.refl _ _).alloc (Nat.le_refl _) _
  have c0 : (w.alloc (.cells #[.int .i64 5, .int .i64 who, .int .i64 n, .int .i64 flip, .string (str s), .string (str t), .string (str u)] 52)).cell? ⟨w.heap.size, 0, none⟩ = some (.int .i64 5) := by rw [World.cell?_alloc_new]; rfl
  have c4 : (w.alloc (.cells #[.int .i64 5, .int .i64 who, .int .i64 n, .int .i64 flip, .string (str s), .string (str t), .string (str u)] 52)).cell? ⟨w.heap.size, 4, none⟩ = some (.string (str s)) := by rw [World.cell?_alloc_new]; rfl
  have c5 : (w.alloc (.cells #[.int .i64 5, .int .i64 who, .int .i64 n, .int .i64 flip, .string (str s), .string (str t), .string (str u)] 52)).cell? ⟨w.heap.size, 5, none⟩ = some (.string (str t)) := by rw [World.cell?_alloc_new]; rfl
  have c6 : (w.alloc (.cells #[.int .i64 5, .int .i64 who, .int .i64 n, .int .i64 flip, .string (str s), .string (str t), .string (str u)] 52)).cell? ⟨w.heap.size, 6, none⟩ = some (.string (str u)) := by rw [World.cell?_alloc_new]; rfl
  have hlt : w.heap.size < (w.alloc (.cells #[.int .i64 5, .int .i64 who, .int .i64 n, .int .i64 flip, .string (str s), .string (str t), .string (str u)] 52)).heap.size := by simp
  generalize w.alloc (.cells #[.int .i64 5, .int .i64 who, .int .i64 n, .int .i64 flip, .string (str s), .string (str t), .string (str u)] 52) = w1 at *
  have HE1 := hide (HE.out.below HB.out)
  refine (rSealLong s t u HL.out MT.out MU.out (a 0) _ HE1.out.errs.g0).mono ?_
  rintro e w2 ⟨rfl, hb2⟩
  have c0 : w2.cell? ⟨w.heap.size, 0, none⟩ = some (.int .i64 5) := (hb2.cell (p := ⟨w.heap.size, 0, none⟩) hlt).trans c0
  have c4 : w2.cell? ⟨w.heap.size, 4, none⟩ = some (.string (str s)) := (hb2.cell (p := ⟨w.heap.size, 4, none⟩) hlt).trans c4
  have c5 : w2.cell? ⟨w.heap.size, 5, none⟩ = some (.string (str t)) := (hb2.cell (p := ⟨w.heap.size, 5, none⟩) hlt).trans c5
  have c6 : w2.cell? ⟨w.heap.size, 6, none⟩ = some (.string (str u)) := (hb2.cell (p := ⟨w.heap.size, 6, none⟩) hlt).trans c6
  have HB2 := hide (HB.out.trans (hb2.mono HB.out.size))
  have HE2 := hide (HE1.out.below hb2)
  clear hb2 HB HE1
  go_wp2_with fail
  refine (code_at 0 (by decide) a _ HE2.out.errs).mono ?_
  rintro e w3 ⟨rfl, rfl⟩
  go_wp2
  go_ret
  exact ⟨rfl, HB2.out.alloc HB2.out.size _⟩

set_option maxRecDepth 100000 in
set_option maxHeartbeats 2000000 in
theorem boxesSealL3 (who n flip : Int) (s t u : List UInt8) (h1 : t.length ≤ 68) (h2 : 64 < u.length) (h3 : u.length ≤ 80) (ms : s.length ≤ maxLen) (mt : t.length ≤ maxLen) (mu : u.length ≤ maxLen) (a : Nat → Addr) (w : World) (hE : Env w a) :
    Calls Tryd.prog 54 #[.agg #[.int .i64 5, .int .i64 who, .int .i64 n, .int .i64 flip, .string (str s), .string (str t), .string (str u)]] w fun e w' => e = .returned (.bool true) ∧ Bel w.heap.size w w' := by
  have HE := hide hE
  clear hE
  have zs := str_size s
  have zt := str_size t
  have zu := str_size u
  have ms' : s.length ≤ 9223372036854775807 := by unfold maxLen at ms; omega
  have mt' : t.length ≤ 9223372036854775807 := by unfold maxLen at mt; omega
  have mu' : u.length ≤ 9223372036854775807 := by unfold maxLen at mu; omega
  have MS := hide ms
  have MT := hide mt
  have MU := hide mu
  clear ms mt mu
  have HL : Hid (68 < t.length ∨ 64 < u.length) := by show 68 < t.length ∨ 64 < u.length; omega
  go_enter Tryd.func54, Tryd.ntmps54
  go_wp2_with fail
  have HB : Hid (Bel w.heap.size w (w.alloc (.cells #[.int .i64 5, .int .i64 who, .int .i64 n, .int .i64 flip, .string (str s), .string (str t), .string (str u)] 52))) := (Bel.refl _ _).alloc (Nat.le_refl _) _
  have c0 : (w.alloc (.cells #[.int .i64 5, .int .i64 who, .int .i64 n, .int .i64 flip, .string (str s), .string (str t), .string (str u)] 52)).cell? ⟨w.heap.size, 0, none⟩ = some (.int .i64 5) := by rw [World.cell?_alloc_new]; rfl
  have c4 : (w.alloc (.cells #[.int .i64 5, .int .i64 who, .int .i64 n, .int .i64 flip, .string (str s), .string (str t), .string (str u)] 52)).cell? ⟨w.heap.size, 4, none⟩ = some (.string (str s)) := by rw [World.cell?_alloc_new]; rfl
  have c5 : (w.alloc (.cells #[.int .i64 5, .int .i64 who, .int .i64 n, .int .i64 flip, .string (str s), .string (str t), .string (str u)] 52)).cell? ⟨w.heap.size, 5, none⟩ = some (.string (str t)) := by rw [World.cell?_alloc_new]; rfl
  have c6 : (w.alloc (.cells #[.int .i64 5, .int .i64 who, .int .i64 n, .int .i64 flip, .string (str s), .string (str t), .string (str u)] 52)).cell? ⟨w.heap.size, 6, none⟩ = some (.string (str u)) := by rw [World.cell?_alloc_new]; rfl
  have hlt : w.heap.size < (w.alloc (.cells #[.int .i64 5, .int .i64 who, .int .i64 n, .int .i64 flip, .string (str s), .string (str t), .string (str u)] 52)).heap.size := by simp
  generalize w.alloc (.cells #[.int .i64 5, .int .i64 who, .int .i64 n, .int .i64 flip, .string (str s), .string (str t), .string (str u)] 52) = w1 at *
  have HE1 := hide (HE.out.below HB.out)
  refine (rSealLong s t u HL.out MT.out MU.out (a 0) _ HE1.out.errs.g0).mono ?_
  rintro e w2 ⟨rfl, hb2⟩
  have c0 : w2.cell? ⟨w.heap.size, 0, none⟩ = some (.int .i64 5) := (hb2.cell (p := ⟨w.heap.size, 0, none⟩) hlt).trans c0
  have c4 : w2.cell? ⟨w.heap.size, 4, none⟩ = some (.string (str s)) := (hb2.cell (p := ⟨w.heap.size, 4, none⟩) hlt).trans c4
  have c5 : w2.cell? ⟨w.heap.size, 5, none⟩ = some (.string (str t)) := (hb2.cell (p := ⟨w.heap.size, 5, none⟩) hlt).trans c5
  have c6 : w2.cell? ⟨w.heap.size, 6, none⟩ = some (.string (str u)) := (hb2.cell (p := ⟨w.heap.size, 6, none⟩) hlt).trans c6
  have HB2 := hide (HB.out.trans (hb2.mono HB.out.size))
  have HE2 := hide (HE1.out.below hb2)
  clear hb2 HB HE1
  go_wp2_with fail
  refine (code_at 0 (by decide) a _ HE2.out.errs).mono ?_
  rintro e w3 ⟨rfl, rfl⟩
  go_wp2
  go_ret
  exact ⟨rfl, HB2.out.alloc HB2.out.size _⟩

set_option maxRecDepth 100000 in
set_option maxHeartbeats 2000000 in
theorem boxesSealK (who n flip : Int) (s t u : List UInt8) (h1 : t.length ≤ 68) (h2 : u.length ≤ 64) (h3 : s.length ≠ 32) (ms : s.length ≤ maxLen) (mt : t.length ≤ maxLen) (mu : u.length ≤ maxLen) (a : Nat → Addr) (w : World) (hE : Env w a) :
    Calls Tryd.prog 54 #[.agg #[.int .i64 5, .int .i64 who, .int .i64 n, .int .i64 flip, .string (str s), .string (str t), .string (str u)]] w fun e w' => e = .returned (.bool true) ∧ Bel w.heap.size w w' := by
  have HE := hide hE
  clear hE
  have zs := str_size s
  have zt := str_size t
  have zu := str_size u
  have ms' : s.length ≤ 9223372036854775807 := by unfold maxLen at ms; omega
  have mt' : t.length ≤ 9223372036854775807 := by unfold maxLen at mt; omega
  have mu' : u.length ≤ 9223372036854775807 := by unfold maxLen at mu; omega
  have MS := hide ms
  have MT := hide mt
  have MU := hide mu
  clear ms mt mu
  go_enter Tryd.func54, Tryd.ntmps54
  go_wp2_with fail
  have HB : Hid (Bel w.heap.size w (w.alloc (.cells #[.int .i64 5, .int .i64 who, .int .i64 n, .int .i64 flip, .string (str s), .string (str t), .string (str u)] 52))) := (Bel.refl _ _).alloc (Nat.le_refl _) _
  have c0 : (w.alloc (.cells #[.int .i64 5, .int .i64 who, .int .i64 n, .int .i64 flip, .string (str s), .string (str t), .string (str u)] 52)).cell? ⟨w.heap.size, 0, none⟩ = some (.int .i64 5) := by rw [World.cell?_alloc_new]; rfl
  have c4 : (w.alloc (.cells #[.int .i64 5, .int .i64 who, .int .i64 n, .int .i64 flip, .string (str s), .string (str t), .string (str u)] 52)).cell? ⟨w.heap.size, 4, none⟩ = some (.string (str s)) := by rw [World.cell?_alloc_new]; rfl
  have c5 : (w.alloc (.cells #[.int .i64 5, .int .i64 who, .int .i64 n, .int .i64 flip, .string (str s), .string (str t), .string (str u)] 52)).cell? ⟨w.heap.size, 5, none⟩ = some (.string (str t)) := by rw [World.cell?_alloc_new]; rfl
  have c6 : (w.alloc (.cells #[.int .i64 5, .int .i64 who, .int .i64 n, .int .i64 flip, .string (str s), .string (str t), .string (str u)] 52)).cell? ⟨w.heap.size, 6, none⟩ = some (.string (str u)) := by rw [World.cell?_alloc_new]; rfl
  have hlt : w.heap.size < (w.alloc (.cells #[.int .i64 5, .int .i64 who, .int .i64 n, .int .i64 flip, .string (str s), .string (str t), .string (str u)] 52)).heap.size := by simp
  generalize w.alloc (.cells #[.int .i64 5, .int .i64 who, .int .i64 n, .int .i64 flip, .string (str s), .string (str t), .string (str u)] 52) = w1 at *
  have HE1 := hide (HE.out.below HB.out)
  refine (rSealKey s t u h1 h2 h3 MS.out (a 1) _ HE1.out.errs.g1).mono ?_
  rintro e w2 ⟨rfl, hb2⟩
  have c0 : w2.cell? ⟨w.heap.size, 0, none⟩ = some (.int .i64 5) := (hb2.cell (p := ⟨w.heap.size, 0, none⟩) hlt).trans c0
  have c4 : w2.cell? ⟨w.heap.size, 4, none⟩ = some (.string (str s)) := (hb2.cell (p := ⟨w.heap.size, 4, none⟩) hlt).trans c4
  have c5 : w2.cell? ⟨w.heap.size, 5, none⟩ = some (.string (str t)) := (hb2.cell (p := ⟨w.heap.size, 5, none⟩) hlt).trans c5
  have c6 : w2.cell? ⟨w.heap.size, 6, none⟩ = some (.string (str u)) := (hb2.cell (p := ⟨w.heap.size, 6, none⟩) hlt).trans c6
  have HB2 := hide (HB.out.trans (hb2.mono HB.out.size))
  have HE2 := hide (HE1.out.below hb2)
  clear hb2 HB HE1
  go_wp2_with fail
  refine (code_at 1 (by decide) a _ HE2.out.errs).mono ?_
  rintro e w3 ⟨rfl, rfl⟩
  go_wp2
  go_ret
  exact ⟨rfl, HB2.out.alloc HB2.out.size _⟩

set_option maxRecDepth 100000 in
set_option maxHeartbeats 2000000 in
theorem boxesSealOk (who n flip : Int) (s t u : List UInt8) (h1 : t.length ≤ 68) (h2 : u.length ≤ 64) (h3 : s.length = 32) (ms : s.length ≤ maxLen) (mt : t.length ≤ maxLen) (mu : u.length ≤ maxLen) (a : Nat → Addr) (w : World) (hE : Env w a) :
    Calls Tryd.prog 54 #[.agg #[.int .i64 5, .int .i64 who, .int .i64 n, .int .i64 flip, .string (str s), .string (str t), .string (str u)]] w fun e w' => e = .returned (.bool true) ∧ Bel w.heap.size w w' := by
  have HE := hide hE
  clear hE
  have zs := str_size s
  have zt := str_size t
  have zu := str_size u
  have ms' : s.length ≤ 9223372036854775807 := by unfold maxLen at ms; omega
  have mt' : t.length ≤ 9223372036854775807 := by unfold maxLen at mt; omega
  have mu' : u.length ≤ 9223372036854775807 := by unfold maxLen at mu; omega
  have MS := hide ms
  have MT := hide mt
  have MU := hide mu
  clear ms mt mu
  go_enter Tryd.func54, Tryd.ntmps54
  go_wp2_with fail
  have HB : Hid (Bel w.heap.size w (w.alloc (.cells #[.int .i64 5, .int .i64 who, .int .i64 n, .int .i64 flip, .string (str s), .string (str t), .string (str u)] 52))) := (Bel.refl _ _).alloc (Nat.le_refl _) _
  have c0 : (w.alloc (.cells #[.int .i64 5, .int .i64 who, .int .i64 n, .int .i64 flip, .string (str s), .string (str t), .string (str u)] 52)).cell? ⟨w.heap.size, 0, none⟩ = some (.int .i64 5) := by rw [World.cell?_alloc_new]; rfl
  have c4 : (w.alloc (.cells #[.int .i64 5, .int .i64 who, .int .i64 n, .int .i64 flip, .string (str s), .string (str t), .string (str u)] 52)).cell? ⟨w.heap.size, 4, none⟩ = some (.string (str s)) := by rw [World.cell?_alloc_new]; rfl
  have c5 : (w.alloc (.cells #[.int .i64 5, .int .i64 who, .int .i64 n, .int .i64 flip, .string (str s), .string (str t), .string (str u)] 52)).cell? ⟨w.heap.size, 5, none⟩ = some (.string (str t)) := by rw [World.cell?_alloc_new]; rfl
  have c6 : (w.alloc (.cells #[.int .i64 5, .int .i64 who, .int .i64 n, .int .i64 flip, .string (str s), .string (str t), .string (str u)] 52)).cell? ⟨w.heap.size, 6, none⟩ = some (.string (str u)) := by rw [World.cell?_alloc_new]; rfl
  have hlt : w.heap.size < (w.alloc (.cells #[.int .i64 5, .int .i64 who, .int .i64 n, .int .i64 flip, .string (str s), .string (str t), .string (str u)] 52)).heap.size := by simp
  generalize w.alloc (.cells #[.int .i64 5, .int .i64 who, .int .i64 n, .int .i64 flip, .string (str s), .string (str t), .string (str u)] 52) = w1 at *
  have HE1 := hide (HE.out.below HB.out)
  refine (rSealOk s t u h1 h2 h3 _ HE1.out.toTab).mono ?_
  rintro e w2 ⟨rfl, hb2⟩
  have c0 : w2.cell? ⟨w.heap.size, 0, none⟩ = some (.int .i64 5) := (hb2.cell (p := ⟨w.heap.size, 0, none⟩) hlt).trans c0
  have c4 : w2.cell? ⟨w.heap.size, 4, none⟩ = some (.string (str s)) := (hb2.cell (p := ⟨w.heap.size, 4, none⟩) hlt).trans c4
  have c5 : w2.cell? ⟨w.heap.size, 5, none⟩ = some (.string (str t)) := (hb2.cell (p := ⟨w.heap.size, 5, none⟩) hlt).trans c5
  have c6 : w2.cell? ⟨w.heap.size, 6, none⟩ = some (.string (str u)) := (hb2.cell (p := ⟨w.heap.size, 6, none⟩) hlt).trans c6
  have HB2 := hide (HB.out.trans (hb2.mono HB.out.size))
  have HE2 := hide (HE1.out.below hb2)
  clear hb2 HB HE1
  generalize hy : sealL s t u = y at *
  have HY := hide hy
  clear hy
  go_wp2_with fail
  refine (refSeal s t u h1 h2 h3 _).mono ?_
  rintro e w3 ⟨rfl, hb3⟩
  rw [HY.out]
  have HB3 := hide (HB2.out.trans (hb3.mono HB2.out.size))
  clear hb3
  go_wp2
  go_ret
  exact ⟨rfl, HB3.out⟩

set_option maxRecDepth 100000 in
set_option maxHeartbeats 2000000 in
theorem boxesOpenL1 (who n flip : Int) (s t u : List UInt8) (h1 : 68 < t.length) (ms : s.length ≤ maxLen) (mt : t.length ≤ maxLen) (mu : u.length ≤ maxLen) (a : Nat → Addr) (w : World) (hE : Env w a) :
    Calls Tryd.prog 54 #[.agg #[.int .i64 6, .int .i64 who, .int .i64 n, .int .i64 flip, .string (str s), .string (str t), .string (str u)]] w fun e w' => e = .returned (.bool true) ∧ Bel w.heap.size w w' := by
  have HE := hide hE
  clear hE
  have zs := str_size s
  have zt := str_size t
  have zu := str_size u
  have ms' : s.length ≤ 9223372036854775807 := by unfold maxLen at ms; omega
  have mt' : t.length ≤ 9223372036854775807 := by unfold maxLen at mt; omega
  have mu' : u.length ≤ 9223372036854775807 := by unfold maxLen at mu; omega
  have MS := hide ms
  have MT := hide mt
  have MU := hide mu
  clear ms mt mu
  have HL : Hid (68 < t.length ∨ 80 < u.length) := by show 68 < t.length ∨ 80 < u.length; omega
  go_enter Tryd.func54, Tryd.ntmps54
  go_wp2_with fail
  have HB : Hid (Bel w.heap.size w (w.alloc (.cells #[.int .i64 6, .int .i64 who, .int .i64 n, .int .i64 flip, .string (str s), .string (str t), .string (str u)] 52))) := (Bel.refl _ _).alloc (Nat.le_refl _) _
  have c0 : (w.alloc (.cells #[.int .i64 6, .int .i64 who, .int .i64 n, .int .i64 flip, .string (str s), .string (str t), .string (str u)] 52)).cell? ⟨w.heap.size, 0, none⟩ = some (.int .i64 6) := by rw [World.cell?_alloc_new]; rfl
  have c4 : (w.alloc (.cells #[.int .i64 6, .int .i64 who, .int .i64 n, .int .i64 flip, .string (str s), .string (str t), .string (str u)] 52)).cell? ⟨w.heap.size, 4, none⟩ = some (.string (str s)) := by rw [World.cell?_alloc_new]; rfl
  have c5 : (w.alloc (.cells #[.int .i64 6, .int .i64 who, .int .i64 n, .int .i64 flip, .string (str s), .string (str t), .string (str u)] 52)).cell? ⟨w.heap.size, 5, none⟩ = some (.string (str t)) := by rw [World.cell?_alloc_new]; rfl
  have c6 : (w.alloc (.cells #[.int .i64 6, .int .i64 who, .int .i64 n, .int .i64 flip, .string (str s), .string (str t), .string (str u)] 52)).cell? ⟨w.heap.size, 6, none⟩ = some (.string (str u)) := by rw [World.cell?_alloc_new]; rfl
  have hlt : w.heap.size < (w.alloc (.cells #[.int .i64 6, .int .i64 who, .int .i64 n, .int .i64 flip, .string (str s), .string (str t), .string (str u)] 52)).heap.size := by simp
  generalize w.alloc (.cells #[.int .i64 6, .int .i64 who, .int .i64 n, .int .i64 flip, .string (str s), .string (str t), .string (str u)] 52) = w1 at *
  have HE1 := hide (HE.out.below HB.out)
  refine (rOpenLong s t u HL.out MT.out MU.out (a 0) _ HE1.out.errs.g0).mono ?_
  rintro e w2 ⟨rfl, hb2⟩
  have c0 : w2.cell? ⟨w.heap.size, 0, none⟩ = some (.int .i64 6) := (hb2.cell (p := ⟨w.heap.size, 0, none⟩) hlt).trans c0
  have c4 : w2.cell? ⟨w.heap.size, 4, none⟩ = some (.string (str s)) := (hb2.cell (p := ⟨w.heap.size, 4, none⟩) hlt).trans c4
  have c5 : w2.cell? ⟨w.heap.size, 5, none⟩ = some (.string (str t)) := (hb2.cell (p := ⟨w.heap.size, 5, none⟩) hlt).trans c5
  have c6 : w2.cell? ⟨w.heap.size, 6, none⟩ = some (.string (str u)) := (hb2.cell (p := ⟨w.heap.size, 6, none⟩) hlt).trans c6
  have HB2 := hide (HB.out.trans (hb2.mono HB.out.size))
  have HE2 := hide (HE1.out.below hb2)
  clear hb2 HB HE1
  go_wp2_with fail
  refine (code_at 0 (by decide) a _ HE2.out.errs).mono ?_
  rintro e w3 ⟨rfl, rfl⟩
  go_wp2
  go_ret
  exact ⟨rfl, HB2.out.alloc HB2.out.size _⟩

set_option maxRecDepth 100000 in
set_option maxHeartbeats 2000000 in
theorem boxesOpenL2 (who n flip : Int) (s t u : List UInt8) (h1 : t.length ≤ 68) (h2 : 80 < u.length) (ms : s.length ≤ maxLen) (mt : t.length ≤ maxLen) (mu : u.length ≤ maxLen) (a : Nat → Addr) (w : World) (hE : Env w a) :
    Calls Tryd.prog 54 #[.agg #[.int .i64 6, .int .i64 who, .int .i64 n, .int .i64 flip, .string (str s), .string (str t), .string (str u)]] w fun e w' => e = .returned (.bool true) ∧ Bel w.heap.size w w' := by
  have HE := hide hE
  clear hE
  have zs := str_size s
  have zt := str_size t
  have zu := str_size u
  have ms' : s.length ≤ 9223372036854775807 := by unfold maxLen at ms; omega
  have mt' : t.length ≤ 9223372036854775807 := by unfold maxLen at mt; omega
  have mu' : u.length ≤ 9223372036854775807 := by unfold maxLen at mu; omega
  have MS := hide ms
  have MT := hide mt
  have MU := hide mu
  clear ms mt mu
  have HL : Hid (68 < t.length ∨ 80 < u.length) := by show 68 < t.length ∨ 80 < u.length; omega
  go_enter Tryd.func54, Tryd.ntmps54
  go_wp2_with fail
  have HB : Hid (Bel w.heap.size w (w.alloc (.cells #[.int .i64 6, .int .i64 who, .int .i64 n, .int .i64 flip, .string (str s), .string (str t), .string (str u)] 52))) := (Bel.refl _ _).alloc (Nat.le_refl _) _
  have c0 : (w.alloc (.cells #[.int .i64 6, .int .i64 who, .int .i64 n, .int .i64 flip, .string (str s), .string (str t), .string (str u)] 52)).cell? ⟨w.heap.size, 0, none⟩ = some (.int .i64 6) := by rw [World.cell?_alloc_new]; rfl
  have c4 : (w.alloc (.cells #[.int .i64 6, .int .i64 who, .int .i64 n, .int .i64 flip, .string (str s), .string (str t), .string (str u)] 52)).cell? ⟨w.heap.size, 4, none⟩ = some (.string (str s)) := by rw [World.cell?_alloc_new]; rfl
  have c5 : (w.alloc (.cells #[.int .i64 6, .int .i64 who, .int .i64 n, .int .i64 flip, .string (str s), .string (str t), .string (str u)] 52)).cell? ⟨w.heap.size, 5, none⟩ = some (.string (str t)) := by rw [World.cell?_alloc_new]; rfl
  have c6 : (w.alloc (.cells #[.int .i64 6, .int .i64 who, .int .i64 n, .int .i64 flip, .string (str s), .string (str t), .string (str u)] 52)).cell? ⟨w.heap.size, 6, none⟩ = some (.string (str u)) := by rw [World.cell?_alloc_new]; rfl
  have hlt : w.heap.size < (w.alloc (.cells #[.int .i64 6, .int .i64 who, .int .i64 n, .int .i64 flip, .string (str s), .string (str t), .string (str u)] 52)).heap.size := by simp
  generalize w.alloc (.cells #[.int .i64 6, .int .i64 who, .int .i64 n, .int .i64 flip, .string (str s), .string (str t), .string (str u)] 52) = w1 at *
  have HE1 := hide (HE.out.below HB.out)
  refine (rOpenLong s t u HL.out MT.out MU.out (a 0) _ HE1.out.errs.g0).mono ?_
  rintro e w2 ⟨rfl, hb2⟩
  have c0 : w2.cell? ⟨w.heap.size, 0, none⟩ = some (.int .i64 6) := (hb2.cell (p := ⟨w.heap.size, 0, none⟩) hlt).trans c0
  have c4 : w2.cell? ⟨w.heap.size, 4, none⟩ = some (.string (str s)) := (hb2.cell (p := ⟨w.heap.size, 4, none⟩) hlt).trans c4
  have c5 : w2.cell? ⟨w.heap.size, 5, none⟩ = some (.string (str t)) := (hb2.cell (p := ⟨w.heap.size, 5, none⟩) hlt).trans c5
  have c6 : w2.cell? ⟨w.heap.size, 6, none⟩ = some (.string (str u)) := (hb2.cell (p := ⟨w.heap.size, 6, none⟩) hlt).trans c6
  have HB2 := hide (HB.out.trans (hb2.mono HB.out.size))
  have HE2 := hide (HE1.out.below hb2)
  clear hb2 HB HE1
  go_wp2_with fail
  refine (code_at 0 (by decide) a _ HE2.out.errs).mono ?_
  rintro e w3 ⟨rfl, rfl⟩
  go_wp2
  go_ret
  exact ⟨rfl, HB2.out.alloc HB2.out.size _⟩

set_option maxRecDepth 100000 in
set_option maxHeartbeats 2000000 in
theorem boxesOpenK (who n flip : Int) (s t u : List UInt8) (h1 : t.length ≤ 68) (h2 : u.length ≤ 80) (h3 : s.length ≠ 32) (ms : s.length ≤ maxLen) (mt : t.length ≤ maxLen) (mu : u.length ≤ maxLen) (a : Nat → Addr) (w : World) (hE : Env w a) :
    Calls Tryd.prog 54 #[.agg #[.int .i64 6, .int .i64 who, .int .i64 n, .int .i64 flip, .string (str s), .string (str t), .string (str u)]] w fun e w' => e = .returned (.bool true) ∧ Bel w.heap.size w w' := by
  have HE := hide hE
  clear hE
  have zs := str_size s
  have zt := str_size t
  have zu := str_size u
  have ms' : s.length ≤ 9223372036854775807 := by unfold maxLen at ms; omega
  have mt' : t.length ≤ 9223372036854775807 := by unfold maxLen at mt; omega
  have mu' : u.length ≤ 9223372036854775807 := by unfold maxLen at mu; omega
  have MS := hide ms
  have MT := hide mt
  have MU := hide mu
  clear ms mt mu
  go_enter Tryd.func54, Tryd.ntmps54
  go_wp2_with fail
  have HB : Hid (Bel w.heap.size w (w.alloc (.cells #[.int .i64 6, .int .i64 who, .int .i64 n, .int .i64 flip, .string (str s), .string (str t), .string (str u)] 52))) := (Bel.refl _ _).alloc (Nat.le_refl _) _
  have c0 : (w.alloc (.cells #[.int .i64 6, .int .i64 who, .int .i64 n, .int .i64 flip, .string (str s), .string (str t), .string (str u)] 52)).cell? ⟨w.heap.size, 0, none⟩ = some (.int .i64 6) := by rw [World.cell?_alloc_new]; rfl
  have c4 : (w.alloc (.cells #[.int .i64 6, .int .i64 who, .int .i64 n, .int .i64 flip, .string (str s), .string (str t), .string (str u)] 52)).cell? ⟨w.heap.size, 4, none⟩ = some (.string (str s)) := by rw [World.cell?_alloc_new]; rfl
  have c5 : (w.alloc (.cells #[.int .i64 6, .int .i64 who, .int .i64 n, .int .i64 flip, .string (str s), .string (str t), .string (str u)] 52)).cell? ⟨w.heap.size, 5, none⟩ = some (.string (str t)) := by rw [World.cell?_alloc_new]; rfl
  have c6 : (w.alloc (.cells #[.int .i64 6, .int .i64 who, .int .i64 n, .int .i64 flip, .string (str s), .string (str t), .string (str u)] 52)).cell? ⟨w.heap.size, 6, none⟩ = some (.string (str u)) := by rw [World.cell?_alloc_new]; rfl
  have hlt : w.heap.size < (w.alloc (.cells #[.int .i64 6, .int .i64 who, .int .i64 n, .int .i64 flip, .string (str s), .string (str t), .string (str u)] 52)).heap.size := by simp
  generalize w.alloc (.cells #[.int .i64 6, .int .i64 who, .int .i64 n, .int .i64 flip, .string (str s), .string (str t), .string (str u)] 52) = w1 at *
  have HE1 := hide (HE.out.below HB.out)
  refine (rOpenKey s t u h1 h2 h3 MS.out (a 1) _ HE1.out.errs.g1).mono ?_
  rintro e w2 ⟨rfl, hb2⟩
  have c0 : w2.cell? ⟨w.heap.size, 0, none⟩ = some (.int .i64 6) := (hb2.cell (p := ⟨w.heap.size, 0, none⟩) hlt).trans c0
  have c4 : w2.cell? ⟨w.heap.size, 4, none⟩ = some (.string (str s)) := (hb2.cell (p := ⟨w.heap.size, 4, none⟩) hlt).trans c4
  have c5 : w2.cell? ⟨w.heap.size, 5, none⟩ = some (.string (str t)) := (hb2.cell (p := ⟨w.heap.size, 5, none⟩) hlt).trans c5
  have c6 : w2.cell? ⟨w.heap.size, 6, none⟩ = some (.string (str u)) := (hb2.cell (p := ⟨w.heap.size, 6, none⟩) hlt).trans c6
  have HB2 := hide (HB.out.trans (hb2.mono HB.out.size))
  have HE2 := hide (HE1.out.below hb2)
  clear hb2 HB HE1
  go_wp2_with fail
  refine (code_at 1 (by decide) a _ HE2.out.errs).mono ?_
  rintro e w3 ⟨rfl, rfl⟩
  go_wp2
  go_ret
  exact ⟨rfl, HB2.out.alloc HB2.out.size _⟩

set_option maxRecDepth 100000 in
set_option maxHeartbeats 2000000 in
theorem boxesOpenShort (who n flip : Int) (s t u : List UInt8) (h1 : t.length ≤ 68) (h2 : u.length < 16) (h3 : s.length = 32) (ms : s.length ≤ maxLen) (mt : t.length ≤ maxLen) (mu : u.length ≤ maxLen) (a : Nat → Addr) (w : World) (hE : Env w a) :
    Calls Tryd.prog 54 #[.agg #[.int .i64 6, .int .i64 who, .int .i64 n, .int .i64 flip, .string (str s), .string (str t), .string (str u)]] w fun e w' => e = .returned (.bool true) ∧ Bel w.heap.size w w' := by
  have HE := hide hE
  clear hE
  have zs := str_size s
  have zt := str_size t
  have zu := str_size u
  have ms' : s.length ≤ 9223372036854775807 := by unfold maxLen at ms; omega
  have mt' : t.length ≤ 9223372036854775807 := by unfold maxLen at mt; omega
  have mu' : u.length ≤ 9223372036854775807 := by unfold maxLen at mu; omega
  have MS := hide ms
  have MT := hide mt
  have MU := hide mu
  clear ms mt mu
  go_enter Tryd.func54, Tryd.ntmps54
  go_wp2_with fail
  have HB : Hid (Bel w.heap.size w (w.alloc (.cells #[.int .i64 6, .int .i64 who, .int .i64 n, .int .i64 flip, .string (str s), .string (str t), .string (str u)] 52))) := (Bel.refl _ _).alloc (Nat.le_refl _) _
  have c0 : (w.alloc (.cells #[.int .i64 6, .int .i64 who, .int .i64 n, .int .i64 flip, .string (str s), .string (str t), .string (str u)] 52)).cell? ⟨w.heap.size, 0, none⟩ = some (.int .i64 6) := by rw [World.cell?_alloc_new]; rfl
  have c4 : (w.alloc (.cells #[.int .i64 6, .int .i64 who, .int .i64 n, .int .i64 flip, .string (str s), .string (str t), .string (str u)] 52)).cell? ⟨w.heap.size, 4, none⟩ = some (.string (str s)) := by rw [World.cell?_alloc_new]; rfl
  have c5 : (w.alloc (.cells #[.int .i64 6, .int .i64 who, .int .i64 n, .int .i64 flip, .string (str s), .string (str t), .string (str u)] 52)).cell? ⟨w.heap.size, 5, none⟩ = some (.string (str t)) := by rw [World.cell?_alloc_new]; rfl
  have c6 : (w.alloc (.cells #[.int .i64 6, .int .i64 who, .int .i64 n, .int .i64 flip, .string (str s), .string (str t), .string (str u)] 52)).cell? ⟨w.heap.size, 6, none⟩ = some (.string (str u)) := by rw [World.cell?_alloc_new]; rfl
  have hlt : w.heap.size < (w.alloc (.cells #[.int .i64 6, .int .i64 who, .int .i64 n, .int .i64 flip, .string (str s), .string (str t), .string (str u)] 52)).heap.size := by simp
  generalize w.alloc (.cells #[.int .i64 6, .int .i64 who, .int .i64 n, .int .i64 flip, .string (str s), .string (str t), .string (str u)] 52) = w1 at *
  have HE1 := hide (HE.out.below HB.out)
  refine (rOpenShort s t u h1 h2 h3 (a 3) _ HE1.out.errs.g3).mono ?_
  rintro e w2 ⟨rfl, hb2⟩
  have c0 : w2.cell? ⟨w.heap.size, 0, none⟩ = some (.int .i64 6) := (hb2.cell (p := ⟨w.heap.size, 0, none⟩) hlt).trans c0
  have c4 : w2.cell? ⟨w.heap.size, 4, none⟩ = some (.string (str s)) := (hb2.cell (p := ⟨w.heap.size, 4, none⟩) hlt).trans c4
  have c5 : w2.cell? ⟨w.heap.size, 5, none⟩ = some (.string (str t)) := (hb2.cell (p := ⟨w.heap.size, 5, none⟩) hlt).trans c5
  have c6 : w2.cell? ⟨w.heap.size, 6, none⟩ = some (.string (str u)) := (hb2.cell (p := ⟨w.heap.size, 6, none⟩) hlt).trans c6
  have HB2 := hide (HB.out.trans (hb2.mono HB.out.size))
  have HE2 := hide (HE1.out.below hb2)
  clear hb2 HB HE1
  go_wp2_with fail
  refine (refOpenShort s t u h2 _).mono ?_
  rintro e w3 ⟨rfl, hb3⟩
  have HB3 := hide (HB2.out.trans (hb3.mono HB2.out.size))
  have HE3 := hide (HE2.out.below hb3)
  clear hb3 HB2 HE2
  go_wp2_with fail
  refine (code_at 3 (by decide) a _ HE3.out.errs).mono ?_
  rintro e w4 ⟨rfl, rfl⟩
  go_wp2
  go_ret
  exact ⟨rfl, HB3.out.alloc HB3.out.size _⟩

set_option maxRecDepth 100000 in
set_option maxHeartbeats 2000000 in
theorem boxesOpenBad (who n flip : Int) (s t u : List UInt8) (h1 : t.length ≤ 68) (h2 : 16 ≤ u.length) (h2' : u.length ≤ 80) (h3 : s.length = 32) (hg : ¬ goodTag s t u) (ms : s.length ≤ maxLen) (mt : t.length ≤ maxLen) (mu : u.length ≤ maxLen) (a : Nat → Addr) (w : World) (hE : Env w a) :
    Calls Tryd.prog 54 #[.agg #[.int .i64 6, .int .i64 who, .int .i64 n, .int .i64 flip, .string (str s), .string (str t), .string (str u)]] w fun e w' => e = .returned (.bool true) ∧ Bel w.heap.size w w' := by
  have HE := hide hE
  clear hE
  have zs := str_size s
  have zt := str_size t
  have zu := str_size u
  have ms' : s.length ≤ 9223372036854775807 := by unfold maxLen at ms; omega
  have mt' : t.length ≤ 9223372036854775807 := by unfold maxLen at mt; omega
  have mu' : u.length ≤ 9223372036854775807 := by unfold maxLen at mu; omega
  have MS := hide ms
  have MT := hide mt
  have MU := hide mu
  clear ms mt mu
  have HGT := hide hg
  clear hg
  go_enter Tryd.func54, Tryd.ntmps54
  go_wp2_with fail
  have HB : Hid (Bel w.heap.size w (w.alloc (.cells #[.int .i64 6, .int .i64 who, .int .i64 n, .int .i64 flip, .string (str s), .string (str t), .string (str u)] 52))) := (Bel.refl _ _).alloc (Nat.le_refl _) _
  have c0 : (w.alloc (.cells #[.int .i64 6, .int .i64 who, .int .i64 n, .int .i64 flip, .string (str s), .string (str t), .string (str u)] 52)).cell? ⟨w.heap.size, 0, none⟩ = some (.int .i64 6) := by rw [World.cell?_alloc_new]; rfl
  have c4 : (w.alloc (.cells #[.int .i64 6, .int .i64 who, .int .i64 n, .int .i64 flip, .string (str s), .string (str t), .string (str u)] 52)).cell? ⟨w.heap.size, 4, none⟩ = some (.string (str s)) := by rw [World.cell?_alloc_new]; rfl
  have c5 : (w.alloc (.cells #[.int .i64 6, .int .i64 who, .int .i64 n, .int .i64 flip, .string (str s), .string (str t), .string (str u)] 52)).cell? ⟨w.heap.size, 5, none⟩ = some (.string (str t)) := by rw [World.cell?_alloc_new]; rfl
  have c6 : (w.alloc (.cells #[.int .i64 6, .int .i64 who, .int .i64 n, .int .i64 flip, .string (str s), .string (str t), .string (str u)] 52)).cell? ⟨w.heap.size, 6, none⟩ = some (.string (str u)) := by rw [World.cell?_alloc_new]; rfl
  have hlt : w.heap.size < (w.alloc (.cells #[.int .i64 6, .int .i64 who, .int .i64 n, .int .i64 flip, .string (str s), .string (str t), .string (str u)] 52)).heap.size := by simp
  generalize w.alloc (.cells #[.int .i64 6, .int .i64 who, .int .i64 n, .int .i64 flip, .string (str s), .string (str t), .string (str u)] 52) = w1 at *
  have HE1 := hide (HE.out.below HB.out)
  refine (rOpenBad s t u h1 h2 h2' h3 HGT.out (a 3) _ HE1.out.toTab HE1.out.errs.g3).mono ?_
  rintro e w2 ⟨rfl, hb2⟩
  have c0 : w2.cell? ⟨w.heap.size, 0, none⟩ = some (.int .i64 6) := (hb2.cell (p := ⟨w.heap.size, 0, none⟩) hlt).trans c0
  have c4 : w2.cell? ⟨w.heap.size, 4, none⟩ = some (.string (str s)) := (hb2.cell (p := ⟨w.heap.size, 4, none⟩) hlt).trans c4
  have c5 : w2.cell? ⟨w.heap.size, 5, none⟩ = some (.string (str t)) := (hb2.cell (p := ⟨w.heap.size, 5, none⟩) hlt).trans c5
  have c6 : w2.cell? ⟨w.heap.size, 6, none⟩ = some (.string (str u)) := (hb2.cell (p := ⟨w.heap.size, 6, none⟩) hlt).trans c6
  have HB2 := hide (HB.out.trans (hb2.mono HB.out.size))
  have HE2 := hide (HE1.out.below hb2)
  clear hb2 HB HE1
  go_wp2_with fail
  refine (refOpenBad s t u h1 h2 h2' h3 HGT.out _).mono ?_
  rintro e w3 ⟨rfl, hb3⟩
  have HB3 := hide (HB2.out.trans (hb3.mono HB2.out.size))
  have HE3 := hide (HE2.out.below hb3)
  clear hb3 HB2 HE2
  go_wp2_with fail
  refine (code_at 3 (by decide) a _ HE3.out.errs).mono ?_
  rintro e w4 ⟨rfl, rfl⟩
  go_wp2
  go_ret
  exact ⟨rfl, HB3.out.alloc HB3.out.size _⟩

set_option maxRecDepth 100000 in
set_option maxHeartbeats 2000000 in
theorem boxesOpenOk (who n flip : Int) (s t u : List UInt8) (h1 : t.length ≤ 68) (h2 : 16 ≤ u.length) (h2' : u.length ≤ 80) (h3 : s.length = 32) (hg : goodTag s t u) (ms : s.length ≤ maxLen) (mt : t.length ≤ maxLen) (mu : u.length ≤ maxLen) (a : Nat → Addr) (w : World) (hE : Env w a) :
    Calls Tryd.prog 54 #[.agg #[.int .i64 6, .int .i64 who, .int .i64 n, .int .i64 flip, .string (str s), .string (str t), .string (str u)]] w fun e w' => e = .returned (.bool true) ∧ Bel w.heap.size w w' := by
  have HE := hide hE
  clear hE
  have zs := str_size s
  have zt := str_size t
  have zu := str_size u
  have ms' : s.length ≤ 9223372036854775807 := by unfold maxLen at ms; omega
  have mt' : t.length ≤ 9223372036854775807 := by unfold maxLen at mt; omega
  have mu' : u.length ≤ 9223372036854775807 := by unfold maxLen at mu; omega
  have MS := hide ms
  have MT := hide mt
  have MU := hide mu
  clear ms mt mu
  have HGT := hide hg
  clear hg
  go_enter Tryd.func54, Tryd.ntmps54
  go_wp2_with fail
  have HB : Hid (Bel w.heap.size w (w.alloc (.cells #[.int .i64 6, .int .i64 who, .int .i64 n, .int .i64 flip, .string (str s), .string (str t), .string (str u)] 52))) := (Bel.refl _ _).alloc (Nat.le_refl _) _
  have c0 : (w.alloc (.cells #[.int .i64 6, .int .i64 who, .int .i64 n, .int .i64 flip, .string (str s), .string (str t), .string (str u)] 52)).cell? ⟨w.heap.size, 0, none⟩ = some (.int .i64 6) := by rw [World.cell?_alloc_new]; rfl
  have c4 : (w.alloc (.cells #[.int .i64 6, .int .i64 who, .int .i64 n, .int .i64 flip, .string (str s), .string (str t), .string (str u)] 52)).cell? ⟨w.heap.size, 4, none⟩ = some (.string (str s)) := by rw [World.cell?_alloc_new]; rfl
  have c5 : (w.alloc (.cells #[.int .i64 6, .int .i64 who, .int .i64 n, .int .i64 flip, .string (str s), .string (str t), .string (str u)] 52)).cell? ⟨w.heap.size, 5, none⟩ = some (.string (str t)) := by rw [World.cell?_alloc_new]; rfl
  have c6 : (w.alloc (.cells #[.int .i64 6, .int .i64 who, .int .i64 n, .int .i64 flip, .string (str s), .string (str t), .string (str u)] 52)).cell? ⟨w.heap.size, 6, none⟩ = some (.string (str u)) := by rw [World.cell?_alloc_new]; rfl
  have hlt : w.heap.size < (w.alloc (.cells #[.int .i64 6, .int .i64 who, .int .i64 n, .int .i64 flip, .string (str s), .string (str t), .string (str u)] 52)).heap.size := by simp
  generalize w.alloc (.cells #[.int .i64 6, .int .i64 who, .int .i64 n, .int .i64 flip, .string (str s), .string (str t), .string (str u)] 52) = w1 at *
  have HE1 := hide (HE.out.below HB.out)
  refine (rOpenOk s t u h1 h2 h2' h3 HGT.out _ HE1.out.toTab).mono ?_
  rintro e w2 ⟨rfl, hb2⟩
  have c0 : w2.cell? ⟨w.heap.size, 0, none⟩ = some (.int .i64 6) := (hb2.cell (p := ⟨w.heap.size, 0, none⟩) hlt).trans c0
  have c4 : w2.cell? ⟨w.heap.size, 4, none⟩ = some (.string (str s)) := (hb2.cell (p := ⟨w.heap.size, 4, none⟩) hlt).trans c4
  have c5 : w2.cell? ⟨w.heap.size, 5, none⟩ = some (.string (str t)) := (hb2.cell (p := ⟨w.heap.size, 5, none⟩) hlt).trans c5
  have c6 : w2.cell? ⟨w.heap.size, 6, none⟩ = some (.string (str u)) := (hb2.cell (p := ⟨w.heap.size, 6, none⟩) hlt).trans c6
  have HB2 := hide (HB.out.trans (hb2.mono HB.out.size))
  have HE2 := hide (HE1.out.below hb2)
  clear hb2 HB HE1
  generalize hy : boxL (k1 s) (u.take (u.length - 16)) = y at *
  have HY := hide hy
  clear hy
  go_wp2_with fail
  refine (refOpenOk s t u h1 h2 h2' h3 HGT.out _).mono ?_
  rintro e w3 ⟨rfl, hb3⟩
  rw [HY.out]
  have HB3 := hide (HB2.out.trans (hb3.mono HB2.out.size))
  clear hb3
  go_wp2
  go_ret
  exact ⟨rfl, HB3.out⟩

theorem boxesSeal (who n flip : Int) (s t u : List UInt8) (ms : s.length ≤ maxLen) (mt : t.length ≤ maxLen) (mu : u.length ≤ maxLen) (a : Nat → Addr) (w : World) (hE : Env w a) :
    Calls Tryd.prog 54 #[.agg #[.int .i64 5, .int .i64 who, .int .i64 n, .int .i64 flip, .string (str s), .string (str t), .string (str u)]] w fun e w' => e = .returned (.bool true) ∧ Bel w.heap.size w w' := by
  by_cases h1 : 68 < t.length
  · exact boxesSealL1 who n flip s t u h1 ms mt mu a w hE
  by_cases h2 : 80 < u.length
  · exact boxesSealL2 who n flip s t u (by omega) h2 ms mt mu a w hE
  by_cases h3 : 64 < u.length
  · exact boxesSealL3 who n flip s t u (by omega) h3 (by omega) ms mt mu a w hE
  by_cases h4 : s.length = 32
  · exact boxesSealOk who n flip s t u (by omega) (by omega) h4 ms mt mu a w hE
  exact boxesSealK who n flip s t u (by omega) (by omega) h4 ms mt mu a w hE
theorem boxesOpen (who n flip : Int) (s t u : List UInt8) (ms : s.length ≤ maxLen) (mt : t.length ≤ maxLen) (mu : u.length ≤ maxLen) (a : Nat → Addr) (w : World) (hE : Env w a) :
    Calls Tryd.prog 54 #[.agg #[.int .i64 6, .int .i64 who, .int .i64 n, .int .i64 flip, .string (str s), .string (str t), .string (str u)]] w fun e w' => e = .returned (.bool true) ∧ Bel w.heap.size w w' := by
  by_cases h1 : 68 < t.length
  · exact boxesOpenL1 who n flip s t u h1 ms mt mu a w hE
  by_cases h2 : 80 < u.length
  · exact boxesOpenL2 who n flip s t u (by omega) h2 ms mt mu a w hE
  by_cases h4 : ¬ s.length = 32
  · exact boxesOpenK who n flip s t u (by omega) (by omega) h4 ms mt mu a w hE
  by_cases h5 : u.length < 16
  · exact boxesOpenShort who n flip s t u (by omega) h5 (by omega) ms mt mu a w hE
  by_cases h6 : goodTag s t u
  · exact boxesOpenOk who n flip s t u (by omega) (by omega) (by omega) (by omega) h6 ms mt mu a w hE
  exact boxesOpenBad who n flip s t u (by omega) (by omega) (by omega) (by omega) h6 ms mt mu a w hE

set_option maxRecDepth 100000 in
set_option maxHeartbeats 2000000 in
theorem pureSeal (who n flip : Int) (s t u : List UInt8) (ms : s.length ≤ maxLen) (mt : t.length ≤ maxLen) (mu : u.length ≤ maxLen) (a : Nat → Addr) (w : World) (hE : Env w a) :
    Calls Tryd.prog 28 #[.agg #[.int .i64 5, .int .i64 who, .int .i64 n, .int .i64 flip, .string (str s), .string (str t), .string (str u)]] w fun e w' => e = .returned (.bool true) ∧ Bel w.heap.size w w' := by
  have HE := hide hE
  have MS := hide ms
  have MT := hide mt
  have MU := hide mu
  clear hE ms mt mu
  go_enter Tryd.func28, Tryd.ntmps28
  go_wp2_with fail
  have HB : Hid (Bel w.heap.size w (w.alloc (.cells #[.int .i64 5, .int .i64 who, .int .i64 n, .int .i64 flip, .string (str s), .string (str t), .string (str u)] 52))) := (Bel.refl _ _).alloc (Nat.le_refl _) _
  generalize w.alloc (.cells #[.int .i64 5, .int .i64 who, .int .i64 n, .int .i64 flip, .string (str s), .string (str t), .string (str u)] 52) = w1 at *
  refine (boxesSeal who n flip s t u MS.out MT.out MU.out a _ (HE.out.below HB.out)).mono ?_
  rintro e w2 ⟨rfl, hb2⟩
  have HB2 := hide (HB.out.trans (hb2.mono HB.out.size))
  clear hb2
  go_wp2
  go_ret
  exact ⟨rfl, HB2.out⟩

set_option maxRecDepth 100000 in
set_option maxHeartbeats 2000000 in
theorem pureOpen (who n flip : Int) (s t u : List UInt8) (ms : s.length ≤ maxLen) (mt : t.length ≤ maxLen) (mu : u.length ≤ maxLen) (a : Nat → Addr) (w : World) (hE : Env w a) :
    Calls Tryd.prog 28 #[.agg #[.int .i64 6, .int .i64 who, .int .i64 n, .int .i64 flip, .string (str s), .string (str t), .string (str u)]] w fun e w' => e = .returned (.bool true) ∧ Bel w.heap.size w w' := by
  have HE := hide hE
  have MS := hide ms
  have MT := hide mt
  have MU := hide mu
  clear hE ms mt mu
  go_enter Tryd.func28, Tryd.ntmps28
  go_wp2_with fail
  have HB : Hid (Bel w.heap.size w (w.alloc (.cells #[.int .i64 6, .int .i64 who, .int .i64 n, .int .i64 flip, .string (str s), .string (str t), .string (str u)] 52))) := (Bel.refl _ _).alloc (Nat.le_refl _) _
  generalize w.alloc (.cells #[.int .i64 6, .int .i64 who, .int .i64 n, .int .i64 flip, .string (str s), .string (str t), .string (str u)] 52) = w1 at *
  refine (boxesOpen who n flip s t u MS.out MT.out MU.out a _ (HE.out.below HB.out)).mono ?_
  rintro e w2 ⟨rfl, hb2⟩
  have HB2 := hide (HB.out.trans (hb2.mono HB.out.size))
  clear hb2
  go_wp2
  go_ret
  exact ⟨rfl, HB2.out⟩

end Go.Proofs.YtgjdogkciklgkaaDoor
