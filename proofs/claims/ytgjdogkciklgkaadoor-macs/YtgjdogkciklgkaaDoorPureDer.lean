/-
  A step of kind 3 (Derive) is as the document says.
-/
import Derived.Test.YtgjdogkciklgkaaDoorPureMac
namespace Go.Proofs.YtgjdogkciklgkaaDoor
open Go.RowKit

set_option maxRecDepth 100000 in
set_option maxHeartbeats 1000000 in
theorem pureDerLong1 (who n flip : Int) (s t u : List UInt8) (hs : 200 < s.length) (ms : s.length ≤ maxLen) (mt : t.length ≤ maxLen) (mu : u.length ≤ maxLen) (a : Nat → Addr) (w : World) (hE : Env w a) :
    Calls Tryd.prog 28 #[.agg #[.int .i64 3, .int .i64 who, .int .i64 n, .int .i64 flip, .string (str s), .string (str t), .string (str u)]] w fun e w' => e = .returned (.bool true) ∧ Bel w.heap.size w w' := by
  have HE := hide hE
  clear hE
  have HL : Hid (longs [s, t, u] = true ∨ n < 0 ∨ 128 < n) := by
    show longs [s, t, u] = true ∨ n < 0 ∨ 128 < n
    simp [longs]
    omega
  have zs := str_size s
  have zt := str_size t
  have zu := str_size u
  have ms' : s.length ≤ 9223372036854775807 := by unfold maxLen at ms; omega
  have mt' : t.length ≤ 9223372036854775807 := by unfold maxLen at mt; omega
  have mu' : u.length ≤ 9223372036854775807 := by unfold maxLen at mu; omega
  have MS := hide ms
  have MT := hide mt
  have MU := hide mu
  clear ms mt mu
  go_enter Tryd.func28, Tryd.ntmps28
  go_wp2_with fail
  have HB : Hid (Bel w.heap.size w (w.alloc (.cells #[.int .i64 3, .int .i64 who, .int .i64 n, .int .i64 flip, .string (str s), .string (str t), .string (str u)] 52))) := (Bel.refl _ _).alloc (Nat.le_refl _) _
  have c2 : (w.alloc (.cells #[.int .i64 3, .int .i64 who, .int .i64 n, .int .i64 flip, .string (str s), .string (str t), .string (str u)] 52)).cell? ⟨w.heap.size, 2, none⟩ = some (.int .i64 n) := by rw [World.cell?_alloc_new]; rfl
  have c4 : (w.alloc (.cells #[.int .i64 3, .int .i64 who, .int .i64 n, .int .i64 flip, .string (str s), .string (str t), .string (str u)] 52)).cell? ⟨w.heap.size, 4, none⟩ = some (.string (str s)) := by rw [World.cell?_alloc_new]; rfl
  have c5 : (w.alloc (.cells #[.int .i64 3, .int .i64 who, .int .i64 n, .int .i64 flip, .string (str s), .string (str t), .string (str u)] 52)).cell? ⟨w.heap.size, 5, none⟩ = some (.string (str t)) := by rw [World.cell?_alloc_new]; rfl
  have c6 : (w.alloc (.cells #[.int .i64 3, .int .i64 who, .int .i64 n, .int .i64 flip, .string (str s), .string (str t), .string (str u)] 52)).cell? ⟨w.heap.size, 6, none⟩ = some (.string (str u)) := by rw [World.cell?_alloc_new]; rfl
  have hlt : w.heap.size < (w.alloc (.cells #[.int .i64 3, .int .i64 who, .int .i64 n, .int .i64 flip, .string (str s), .string (str t), .string (str u)] 52)).heap.size := by simp
  generalize w.alloc (.cells #[.int .i64 3, .int .i64 who, .int .i64 n, .int .i64 flip, .string (str s), .string (str t), .string (str u)] 52) = w1 at *
  have HE1 := hide (HE.out.below HB.out)
  refine (rDeriveLong s t u n HL.out MS.out MT.out MU.out (a 0) _ HE1.out.errs.g0).mono ?_
  rintro e w2 ⟨rfl, hb2⟩
  have c2 : w2.cell? ⟨w.heap.size, 2, none⟩ = some (.int .i64 n) := (hb2.cell (p := ⟨w.heap.size, 2, none⟩) hlt).trans c2
  have c4 : w2.cell? ⟨w.heap.size, 4, none⟩ = some (.string (str s)) := (hb2.cell (p := ⟨w.heap.size, 4, none⟩) hlt).trans c4
  have c5 : w2.cell? ⟨w.heap.size, 5, none⟩ = some (.string (str t)) := (hb2.cell (p := ⟨w.heap.size, 5, none⟩) hlt).trans c5
  have c6 : w2.cell? ⟨w.heap.size, 6, none⟩ = some (.string (str u)) := (hb2.cell (p := ⟨w.heap.size, 6, none⟩) hlt).trans c6
  have HB2 := hide (HB.out.trans (hb2.mono HB.out.size))
  have HE2 := hide (HE1.out.below hb2)
  clear hb2 HB HE1
  go_wp2_with fail
  refine (code_at 0 (by decide) a _ HE2.out.errs).mono ?_
  rintro e w3 ⟨rfl, rfl⟩
  go_wp2
  go_ret
  exact ⟨rfl, HB2.out.alloc HB2.out.size _⟩

set_option maxRecDepth 100000 in
set_option maxHeartbeats 1000000 in
theorem pureDerLong2 (who n flip : Int) (s t u : List UInt8) (hs : s.length ≤ 200) (ht : 200 < t.length) (ms : s.length ≤ maxLen) (mt : t.length ≤ maxLen) (mu : u.length ≤ maxLen) (a : Nat → Addr) (w : World) (hE : Env w a) :
    Calls Tryd.prog 28 #[.agg #[.int .i64 3, .int .i64 who, .int .i64 n, .int .i64 flip, .string (str s), .string (str t), .string (str u)]] w fun e w' => e = .returned (.bool true) ∧ Bel w.heap.size w w' := by
  have HE := hide hE
  clear hE
  have HL : Hid (longs [s, t, u] = true ∨ n < 0 ∨ 128 < n) := by
    show longs [s, t, u] = true ∨ n < 0 ∨ 128 < n
    simp [longs]
    omega
  have zs := str_size s
  have zt := str_size t
  have zu := str_size u
  have ms' : s.length ≤ 9223372036854775807 := by unfold maxLen at ms; omega
  have mt' : t.length ≤ 9223372036854775807 := by unfold maxLen at mt; omega
  have mu' : u.length ≤ 9223372036854775807 := by unfold maxLen at mu; omega
  have MS := hide ms
  have MT := hide mt
  have MU := hide mu
  clear ms mt mu
  go_enter Tryd.func28, Tryd.ntmps28
  go_wp2_with fail
  have HB : Hid (Bel w.heap.size w (w.alloc (.cells #[.int .i64 3, .int .i64 who, .int .i64 n, .int .i64 flip, .string (str s), .string (str t), .string (str u)] 52))) := (Bel.refl _ _).alloc (Nat.le_refl _) _
  have c2 : (w.alloc (.cells #[.int .i64 3, .int .i64 who, .int .i64 n, .int .i64 flip, .string (str s), .string (str t), .string (str u)] 52)).cell? ⟨w.heap.size, 2, none⟩ = some (.int .i64 n) := by rw [World.cell?_alloc_new]; rfl
  have c4 : (w.alloc (.cells #[.int .i64 3, .int .i64 who, .int .i64 n, .int .i64 flip, .string (str s), .string (str t), .string (str u)] 52)).cell? ⟨w.heap.size, 4, none⟩ = some (.string (str s)) := by rw [World.cell?_alloc_new]; rfl
  have c5 : (w.alloc (.cells #[.int .i64 3, .int .i64 who, .int .i64 n, .int .i64 flip, .string (str s), .string (str t), .string (str u)] 52)).cell? ⟨w.heap.size, 5, none⟩ = some (.string (str t)) := by rw [World.cell?_alloc_new]; rfl
  have c6 : (w.alloc (.cells #[.int .i64 3, .int .i64 who, .int .i64 n, .int .i64 flip, .string (str s), .string (str t), .string (str u)] 52)).cell? ⟨w.heap.size, 6, none⟩ = some (.string (str u)) := by rw [World.cell?_alloc_new]; rfl
  have hlt : w.heap.size < (w.alloc (.cells #[.int .i64 3, .int .i64 who, .int .i64 n, .int .i64 flip, .string (str s), .string (str t), .string (str u)] 52)).heap.size := by simp
  generalize w.alloc (.cells #[.int .i64 3, .int .i64 who, .int .i64 n, .int .i64 flip, .string (str s), .string (str t), .string (str u)] 52) = w1 at *
  have HE1 := hide (HE.out.below HB.out)
  refine (rDeriveLong s t u n HL.out MS.out MT.out MU.out (a 0) _ HE1.out.errs.g0).mono ?_
  rintro e w2 ⟨rfl, hb2⟩
  have c2 : w2.cell? ⟨w.heap.size, 2, none⟩ = some (.int .i64 n) := (hb2.cell (p := ⟨w.heap.size, 2, none⟩) hlt).trans c2
  have c4 : w2.cell? ⟨w.heap.size, 4, none⟩ = some (.string (str s)) := (hb2.cell (p := ⟨w.heap.size, 4, none⟩) hlt).trans c4
  have c5 : w2.cell? ⟨w.heap.size, 5, none⟩ = some (.string (str t)) := (hb2.cell (p := ⟨w.heap.size, 5, none⟩) hlt).trans c5
  have c6 : w2.cell? ⟨w.heap.size, 6, none⟩ = some (.string (str u)) := (hb2.cell (p := ⟨w.heap.size, 6, none⟩) hlt).trans c6
  have HB2 := hide (HB.out.trans (hb2.mono HB.out.size))
  have HE2 := hide (HE1.out.below hb2)
  clear hb2 HB HE1
  go_wp2_with fail
  refine (code_at 0 (by decide) a _ HE2.out.errs).mono ?_
  rintro e w3 ⟨rfl, rfl⟩
  go_wp2
  go_ret
  exact ⟨rfl, HB2.out.alloc HB2.out.size _⟩

set_option maxRecDepth 100000 in
set_option maxHeartbeats 1000000 in
theorem pureDerLong3 (who n flip : Int) (s t u : List UInt8) (hs : s.length ≤ 200) (ht : t.length ≤ 200) (hu : 200 < u.length) (ms : s.length ≤ maxLen) (mt : t.length ≤ maxLen) (mu : u.length ≤ maxLen) (a : Nat → Addr) (w : World) (hE : Env w a) :
    Calls Tryd.prog 28 #[.agg #[.int .i64 3, .int .i64 who, .int .i64 n, .int .i64 flip, .string (str s), .string (str t), .string (str u)]] w fun e w' => e = .returned (.bool true) ∧ Bel w.heap.size w w' := by
  have HE := hide hE
  clear hE
  have HL : Hid (longs [s, t, u] = true ∨ n < 0 ∨ 128 < n) := by
    show longs [s, t, u] = true ∨ n < 0 ∨ 128 < n
    simp [longs]
    omega
  have zs := str_size s
  have zt := str_size t
  have zu := str_size u
  have ms' : s.length ≤ 9223372036854775807 := by unfold maxLen at ms; omega
  have mt' : t.length ≤ 9223372036854775807 := by unfold maxLen at mt; omega
  have mu' : u.length ≤ 9223372036854775807 := by unfold maxLen at mu; omega
  have MS := hide ms
  have MT := hide mt
  have MU := hide mu
  clear ms mt mu
  go_enter Tryd.func28, Tryd.ntmps28
  go_wp2_with fail
  have HB : Hid (Bel w.heap.size w (w.alloc (.cells #[.int .i64 3, .int .i64 who, .int .i64 n, .int .i64 flip, .string (str s), .string (str t), .string (str u)] 52))) := (Bel.refl _ _).alloc (Nat.le_refl _) _
  have c2 : (w.alloc (.cells #[.int .i64 3, .int .i64 who, .int .i64 n, .int .i64 flip, .string (str s), .string (str t), .string (str u)] 52)).cell? ⟨w.heap.size, 2, none⟩ = some (.int .i64 n) := by rw [World.cell?_alloc_new]; rfl
  have c4 : (w.alloc (.cells #[.int .i64 3, .int .i64 who, .int .i64 n, .int .i64 flip, .string (str s), .string (str t), .string (str u)] 52)).cell? ⟨w.heap.size, 4, none⟩ = some (.string (str s)) := by rw [World.cell?_alloc_new]; rfl
  have c5 : (w.alloc (.cells #[.int .i64 3, .int .i64 who, .int .i64 n, .int .i64 flip, .string (str s), .string (str t), .string (str u)] 52)).cell? ⟨w.heap.size, 5, none⟩ = some (.string (str t)) := by rw [World.cell?_alloc_new]; rfl
  have c6 : (w.alloc (.cells #[.int .i64 3, .int .i64 who, .int .i64 n, .int .i64 flip, .string (str s), .string (str t), .string (str u)] 52)).cell? ⟨w.heap.size, 6, none⟩ = some (.string (str u)) := by rw [World.cell?_alloc_new]; rfl
  have hlt : w.heap.size < (w.alloc (.cells #[.int .i64 3, .int .i64 who, .int .i64 n, .int .i64 flip, .string (str s), .string (str t), .string (str u)] 52)).heap.size := by simp
  generalize w.alloc (.cells #[.int .i64 3, .int .i64 who, .int .i64 n, .int .i64 flip, .string (str s), .string (str t), .string (str u)] 52) = w1 at *
  have HE1 := hide (HE.out.below HB.out)
  refine (rDeriveLong s t u n HL.out MS.out MT.out MU.out (a 0) _ HE1.out.errs.g0).mono ?_
  rintro e w2 ⟨rfl, hb2⟩
  have c2 : w2.cell? ⟨w.heap.size, 2, none⟩ = some (.int .i64 n) := (hb2.cell (p := ⟨w.heap.size, 2, none⟩) hlt).trans c2
  have c4 : w2.cell? ⟨w.heap.size, 4, none⟩ = some (.string (str s)) := (hb2.cell (p := ⟨w.heap.size, 4, none⟩) hlt).trans c4
  have c5 : w2.cell? ⟨w.heap.size, 5, none⟩ = some (.string (str t)) := (hb2.cell (p := ⟨w.heap.size, 5, none⟩) hlt).trans c5
  have c6 : w2.cell? ⟨w.heap.size, 6, none⟩ = some (.string (str u)) := (hb2.cell (p := ⟨w.heap.size, 6, none⟩) hlt).trans c6
  have HB2 := hide (HB.out.trans (hb2.mono HB.out.size))
  have HE2 := hide (HE1.out.below hb2)
  clear hb2 HB HE1
  go_wp2_with fail
  refine (code_at 0 (by decide) a _ HE2.out.errs).mono ?_
  rintro e w3 ⟨rfl, rfl⟩
  go_wp2
  go_ret
  exact ⟨rfl, HB2.out.alloc HB2.out.size _⟩

set_option maxRecDepth 100000 in
set_option maxHeartbeats 1000000 in
theorem pureDerLong4 (who n flip : Int) (s t u : List UInt8) (hs : s.length ≤ 200) (ht : t.length ≤ 200) (hu : u.length ≤ 200) (hn : n < 0) (ms : s.length ≤ maxLen) (mt : t.length ≤ maxLen) (mu : u.length ≤ maxLen) (a : Nat → Addr) (w : World) (hE : Env w a) :
    Calls Tryd.prog 28 #[.agg #[.int .i64 3, .int .i64 who, .int .i64 n, .int .i64 flip, .string (str s), .string (str t), .string (str u)]] w fun e w' => e = .returned (.bool true) ∧ Bel w.heap.size w w' := by
  have HE := hide hE
  clear hE
  have HL : Hid (longs [s, t, u] = true ∨ n < 0 ∨ 128 < n) := by
    show longs [s, t, u] = true ∨ n < 0 ∨ 128 < n
    simp [longs]
    omega
  have zs := str_size s
  have zt := str_size t
  have zu := str_size u
  have ms' : s.length ≤ 9223372036854775807 := by unfold maxLen at ms; omega
  have mt' : t.length ≤ 9223372036854775807 := by unfold maxLen at mt; omega
  have mu' : u.length ≤ 9223372036854775807 := by unfold maxLen at mu; omega
  have MS := hide ms
  have MT := hide mt
  have MU := hide mu
  clear ms mt mu
  go_enter Tryd.func28, Tryd.ntmps28
  go_wp2_with fail
  have HB : Hid (Bel w.heap.size w (w.alloc (.cells #[.int .i64 3, .int .i64 who, .int .i64 n, .int .i64 flip, .string (str s), .string (str t), .string (str u)] 52))) := (Bel.refl _ _).alloc (Nat.le_refl _) _
  have c2 : (w.alloc (.cells #[.int .i64 3, .int .i64 who, .int .i64 n, .int .i64 flip, .string (str s), .string (str t), .string (str u)] 52)).cell? ⟨w.heap.size, 2, none⟩ = some (.int .i64 n) := by rw [World.cell?_alloc_new]; rfl
  have c4 : (w.alloc (.cells #[.int .i64 3, .int .i64 who, .int .i64 n, .int .i64 flip, .string (str s), .string (str t), .string (str u)] 52)).cell? ⟨w.heap.size, 4, none⟩ = some (.string (str s)) := by rw [World.cell?_alloc_new]; rfl
  have c5 : (w.alloc (.cells #[.int .i64 3, .int .i64 who, .int .i64 n, .int .i64 flip, .string (str s), .string (str t), .string (str u)] 52)).cell? ⟨w.heap.size, 5, none⟩ = some (.string (str t)) := by rw [World.cell?_alloc_new]; rfl
  have c6 : (w.alloc (.cells #[.int .i64 3, .int .i64 who, .int .i64 n, .int .i64 flip, .string (str s), .string (str t), .string (str u)] 52)).cell? ⟨w.heap.size, 6, none⟩ = some (.string (str u)) := by rw [World.cell?_alloc_new]; rfl
  have hlt : w.heap.size < (w.alloc (.cells #[.int .i64 3, .int .i64 who, .int .i64 n, .int .i64 flip, .string (str s), .string (str t), .string (str u)] 52)).heap.size := by simp
  generalize w.alloc (.cells #[.int .i64 3, .int .i64 who, .int .i64 n, .int .i64 flip, .string (str s), .string (str t), .string (str u)] 52) = w1 at *
  have HE1 := hide (HE.out.below HB.out)
  refine (rDeriveLong s t u n HL.out MS.out MT.out MU.out (a 0) _ HE1.out.errs.g0).mono ?_
  rintro e w2 ⟨rfl, hb2⟩
  have c2 : w2.cell? ⟨w.heap.size, 2, none⟩ = some (.int .i64 n) := (hb2.cell (p := ⟨w.heap.size, 2, none⟩) hlt).trans c2
  have c4 : w2.cell? ⟨w.heap.size, 4, none⟩ = some (.string (str s)) := (hb2.cell (p := ⟨w.heap.size, 4, none⟩) hlt).trans c4
  have c5 : w2.cell? ⟨w.heap.size, 5, none⟩ = some (.string (str t)) := (hb2.cell (p := ⟨w.heap.size, 5, none⟩) hlt).trans c5
  have c6 : w2.cell? ⟨w.heap.size, 6, none⟩ = some (.string (str u)) := (hb2.cell (p := ⟨w.heap.size, 6, none⟩) hlt).trans c6
  have HB2 := hide (HB.out.trans (hb2.mono HB.out.size))
  have HE2 := hide (HE1.out.below hb2)
  clear hb2 HB HE1
  go_wp2_with fail
  refine (code_at 0 (by decide) a _ HE2.out.errs).mono ?_
  rintro e w3 ⟨rfl, rfl⟩
  go_wp2
  go_ret
  exact ⟨rfl, HB2.out.alloc HB2.out.size _⟩

set_option maxRecDepth 100000 in
set_option maxHeartbeats 1000000 in
theorem pureDerLong5 (who n flip : Int) (s t u : List UInt8) (hs : s.length ≤ 200) (ht : t.length ≤ 200) (hu : u.length ≤ 200) (hn0 : 0 ≤ n) (hn : 128 < n) (ms : s.length ≤ maxLen) (mt : t.length ≤ maxLen) (mu : u.length ≤ maxLen) (a : Nat → Addr) (w : World) (hE : Env w a) :
    Calls Tryd.prog 28 #[.agg #[.int .i64 3, .int .i64 who, .int .i64 n, .int .i64 flip, .string (str s), .string (str t), .string (str u)]] w fun e w' => e = .returned (.bool true) ∧ Bel w.heap.size w w' := by
  have HE := hide hE
  clear hE
  have HL : Hid (longs [s, t, u] = true ∨ n < 0 ∨ 128 < n) := by
    show longs [s, t, u] = true ∨ n < 0 ∨ 128 < n
    simp [longs]
    omega
  have zs := str_size s
  have zt := str_size t
  have zu := str_size u
  have ms' : s.length ≤ 9223372036854775807 := by unfold maxLen at ms; omega
  have mt' : t.length ≤ 9223372036854775807 := by unfold maxLen at mt; omega
  have mu' : u.length ≤ 9223372036854775807 := by unfold maxLen at mu; omega
  have MS := hide ms
  have MT := hide mt
  have MU := hide mu
  clear ms mt mu
  go_enter Tryd.func28, Tryd.ntmps28
  go_wp2_with fail
  have HB : Hid (Bel w.heap.size w (w.alloc (.cells #[.int .i64 3, .int .i64 who, .int .i64 n, .int .i64 flip, .string (str s), .string (str t), .string (str u)] 52))) := (Bel.refl _ _).alloc (Nat.le_refl _) _
  have c2 : (w.alloc (.cells #[.int .i64 3, .int .i64 who, .int .i64 n, .int .i64 flip, .string (str s), .string (str t), .string (str u)] 52)).cell? ⟨w.heap.size, 2, none⟩ = some (.int .i64 n) := by rw [World.cell?_alloc_new]; rfl
  have c4 : (w.alloc (.cells #[.int .i64 3, .int .i64 who, .int .i64 n, .int .i64 flip, .string (str s), .string (str t), .string (str u)] 52)).cell? ⟨w.heap.size, 4, none⟩ = some (.string (str s)) := by rw [World.cell?_alloc_new]; rfl
  have c5 : (w.alloc (.cells #[.int .i64 3, .int .i64 who, .int .i64 n, .int .i64 flip, .string (str s), .string (str t), .string (str u)] 52)).cell? ⟨w.heap.size, 5, none⟩ = some (.string (str t)) := by rw [World.cell?_alloc_new]; rfl
  have c6 : (w.alloc (.cells #[.int .i64 3, .int .i64 who, .int .i64 n, .int .i64 flip, .string (str s), .string (str t), .string (str u)] 52)).cell? ⟨w.heap.size, 6, none⟩ = some (.string (str u)) := by rw [World.cell?_alloc_new]; rfl
  have hlt : w.heap.size < (w.alloc (.cells #[.int .i64 3, .int .i64 who, .int .i64 n, .int .i64 flip, .string (str s), .string (str t), .string (str u)] 52)).heap.size := by simp
  generalize w.alloc (.cells #[.int .i64 3, .int .i64 who, .int .i64 n, .int .i64 flip, .string (str s), .string (str t), .string (str u)] 52) = w1 at *
  have HE1 := hide (HE.out.below HB.out)
  refine (rDeriveLong s t u n HL.out MS.out MT.out MU.out (a 0) _ HE1.out.errs.g0).mono ?_
  rintro e w2 ⟨rfl, hb2⟩
  have c2 : w2.cell? ⟨w.heap.size, 2, none⟩ = some (.int .i64 n) := (hb2.cell (p := ⟨w.heap.size, 2, none⟩) hlt).trans c2
  have c4 : w2.cell? ⟨w.heap.size, 4, none⟩ = some (.string (str s)) := (hb2.cell (p := ⟨w.heap.size, 4, none⟩) hlt).trans c4
  have c5 : w2.cell? ⟨w.heap.size, 5, none⟩ = some (.string (str t)) := (hb2.cell (p := ⟨w.heap.size, 5, none⟩) hlt).trans c5
  have c6 : w2.cell? ⟨w.heap.size, 6, none⟩ = some (.string (str u)) := (hb2.cell (p := ⟨w.heap.size, 6, none⟩) hlt).trans c6
  have HB2 := hide (HB.out.trans (hb2.mono HB.out.size))
  have HE2 := hide (HE1.out.below hb2)
  clear hb2 HB HE1
  go_wp2_with fail
  refine (code_at 0 (by decide) a _ HE2.out.errs).mono ?_
  rintro e w3 ⟨rfl, rfl⟩
  go_wp2
  go_ret
  exact ⟨rfl, HB2.out.alloc HB2.out.size _⟩

set_option maxRecDepth 100000 in
set_option maxHeartbeats 1000000 in
theorem pureDerShort (who flip : Int) (n : Nat) (s t u : List UInt8) (hs : s.length ≤ 200) (ht : t.length ≤ 200) (hu : u.length ≤ 200) (hn : n ≤ 128) (a : Nat → Addr) (w : World) (hE : Env w a) :
    Calls Tryd.prog 28 #[.agg #[.int .i64 3, .int .i64 who, .int .i64 (n : Int), .int .i64 flip, .string (str s), .string (str t), .string (str u)]] w fun e w' => e = .returned (.bool true) ∧ Bel w.heap.size w w' := by
  have HE := hide hE
  clear hE
  have zs := str_size s
  have zt := str_size t
  have zu := str_size u
  go_enter Tryd.func28, Tryd.ntmps28
  go_wp2_with fail
  have HB : Hid (Bel w.heap.size w (w.alloc (.cells #[.int .i64 3, .int .i64 who, .int .i64 (n : Int), .int .i64 flip, .string (str s), .string (str t), .string (str u)] 52))) := (Bel.refl _ _).alloc (Nat.le_refl _) _
  have c2 : (w.alloc (.cells #[.int .i64 3, .int .i64 who, .int .i64 (n : Int), .int .i64 flip, .string (str s), .string (str t), .string (str u)] 52)).cell? ⟨w.heap.size, 2, none⟩ = some (.int .i64 (n : Int)) := by rw [World.cell?_alloc_new]; rfl
  have c4 : (w.alloc (.cells #[.int .i64 3, .int .i64 who, .int .i64 (n : Int), .int .i64 flip, .string (str s), .string (str t), .string (str u)] 52)).cell? ⟨w.heap.size, 4, none⟩ = some (.string (str s)) := by rw [World.cell?_alloc_new]; rfl
  have c5 : (w.alloc (.cells #[.int .i64 3, .int .i64 who, .int .i64 (n : Int), .int .i64 flip, .string (str s), .string (str t), .string (str u)] 52)).cell? ⟨w.heap.size, 5, none⟩ = some (.string (str t)) := by rw [World.cell?_alloc_new]; rfl
  have c6 : (w.alloc (.cells #[.int .i64 3, .int .i64 who, .int .i64 (n : Int), .int .i64 flip, .string (str s), .string (str t), .string (str u)] 52)).cell? ⟨w.heap.size, 6, none⟩ = some (.string (str u)) := by rw [World.cell?_alloc_new]; rfl
  have hlt : w.heap.size < (w.alloc (.cells #[.int .i64 3, .int .i64 who, .int .i64 (n : Int), .int .i64 flip, .string (str s), .string (str t), .string (str u)] 52)).heap.size := by simp
  generalize w.alloc (.cells #[.int .i64 3, .int .i64 who, .int .i64 (n : Int), .int .i64 flip, .string (str s), .string (str t), .string (str u)] 52) = w1 at *
  have HE1 := hide (HE.out.below HB.out)
  refine (rDeriveShort s t u n hs ht hu hn _ HE1.out.toTab).mono ?_
  rintro e w2 ⟨rfl, hb2⟩
  have c2 : w2.cell? ⟨w.heap.size, 2, none⟩ = some (.int .i64 (n : Int)) := (hb2.cell (p := ⟨w.heap.size, 2, none⟩) hlt).trans c2
  have c4 : w2.cell? ⟨w.heap.size, 4, none⟩ = some (.string (str s)) := (hb2.cell (p := ⟨w.heap.size, 4, none⟩) hlt).trans c4
  have c5 : w2.cell? ⟨w.heap.size, 5, none⟩ = some (.string (str t)) := (hb2.cell (p := ⟨w.heap.size, 5, none⟩) hlt).trans c5
  have c6 : w2.cell? ⟨w.heap.size, 6, none⟩ = some (.string (str u)) := (hb2.cell (p := ⟨w.heap.size, 6, none⟩) hlt).trans c6
  have HB2 := hide (HB.out.trans (hb2.mono HB.out.size))
  have HE2 := hide (HE1.out.below hb2)
  clear hb2 HB HE1
  generalize hy : hkdf s t u n = y at *
  have HY := hide hy
  clear hy
  go_wp2_with fail
  refine (deriveR s t u n (by omega) (by omega) (by omega) hn _).mono ?_
  rintro e w3 ⟨rfl, hb3⟩
  rw [HY.out]
  have HB3 := hide (HB2.out.trans (hb3.mono HB2.out.size))
  clear hb3
  go_wp2
  go_ret
  exact ⟨rfl, HB3.out⟩

theorem pureDerive (who n flip : Int) (s t u : List UInt8) (ms : s.length ≤ maxLen) (mt : t.length ≤ maxLen) (mu : u.length ≤ maxLen) (a : Nat → Addr) (w : World) (hE : Env w a) :
    Calls Tryd.prog 28 #[.agg #[.int .i64 3, .int .i64 who, .int .i64 n, .int .i64 flip, .string (str s), .string (str t), .string (str u)]] w fun e w' => e = .returned (.bool true) ∧ Bel w.heap.size w w' := by
  by_cases hs : 200 < s.length
  · exact pureDerLong1 who n flip s t u hs ms mt mu a w hE
  by_cases ht : 200 < t.length
  · exact pureDerLong2 who n flip s t u (by omega) ht ms mt mu a w hE
  by_cases hu : 200 < u.length
  · exact pureDerLong3 who n flip s t u (by omega) (by omega) hu ms mt mu a w hE
  by_cases hn : n < 0
  · exact pureDerLong4 who n flip s t u (by omega) (by omega) (by omega) hn ms mt mu a w hE
  by_cases hn2 : 128 < n
  · exact pureDerLong5 who n flip s t u (by omega) (by omega) (by omega) (by omega) hn2 ms mt mu a w hE
  · obtain ⟨m, rfl⟩ := Int.eq_ofNat_of_zero_le (show 0 ≤ n by omega)
    exact pureDerShort who flip m s t u (by omega) (by omega) (by omega) (by omega) a w hE
end Go.Proofs.YtgjdogkciklgkaaDoor
