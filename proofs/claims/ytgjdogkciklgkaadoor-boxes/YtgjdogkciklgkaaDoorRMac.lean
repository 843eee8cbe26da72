/-
  Package ratchet's Mac and Derive: their limits, and the sums.
-/
import Derived.Test.YtgjdogkciklgkaaDoorHs
import Derived.Test.YtgjdogkciklgkaaDoorDr
import Derived.Test.YtgjdogkciklgkaaDoorIni
namespace Go.Proofs.YtgjdogkciklgkaaDoor
open Go.RowKit

set_option maxRecDepth 100000 in
set_option maxHeartbeats 1000000 in
theorem rMacShort (k d : List UInt8) (hk : k.length ≤ 200) (hd : d.length ≤ 200) (w : World) (hT : Tab w) :
    Calls Tryd.prog 49 #[.string (str k), .string (str d)] w fun e w' => e = .returned (.tuple #[.string (str (hmac k d)), .nilIface]) ∧ Bel w.heap.size w w' := by
  have HT := hide hT
  have HAny : Hid (longs [k, d] = false) := by show longs [k, d] = false; simp [longs]; omega
  clear hT
  go_enter Tryd.func49, Tryd.ntmps49
  go_wp2_with fail
  refine (anyLongP w.heap.size [k, d] (by simp) _ (strs2 w k d) (by intro s hs; simp at hs; rcases hs with rfl | rfl <;> (unfold maxLen; omega))).mono ?_
  rintro e w1 ⟨rfl, rfl⟩
  rw [HAny.out]
  have HB : Hid (Bel w.heap.size w (w.alloc (.cells #[.string (str k), .string (str d)] 9))) := (Bel.refl _ _).alloc (Nat.le_refl _) _
  generalize w.alloc (.cells #[.string (str k), .string (str d)] 9) = w2 at *
  go_wp2_with fail
  refine (macP k d (by omega) (by omega) _ (HT.out.below HB.out)).mono ?_
  rintro e w3 ⟨rfl, hb3⟩
  have HB3 := hide (HB.out.trans (hb3.mono HB.out.size))
  clear hb3
  go_wp2
  go_ret2
  exact ⟨rfl, HB3.out⟩

set_option maxRecDepth 100000 in
set_option maxHeartbeats 1000000 in
theorem rMacLong (k d : List UInt8) (hl : 200 < k.length ∨ 200 < d.length) (hk : k.length ≤ maxLen) (hd : d.length ≤ maxLen) (a : Addr) (w : World) (hE : w.cell? ⟨0, 0, none⟩ = some (.iface 161 (.pointer (some a)))) :
    Calls Tryd.prog 49 #[.string (str k), .string (str d)] w fun e w' => e = .returned (.tuple #[.string ⟨#[]⟩, .iface 161 (.pointer (some a))]) ∧ Bel w.heap.size w w' := by
  have HAny : Hid (longs [k, d] = true) := by show longs [k, d] = true; simp [longs]; omega
  have HK := hide hk
  have HD := hide hd
  clear hk hd hl
  have hlt := cell_lt hE
  go_enter Tryd.func49, Tryd.ntmps49
  go_wp2_with fail
  refine (anyLongP w.heap.size [k, d] (by simp) _ (strs2 w k d) (by intro s hs; simp at hs; rcases hs with rfl | rfl; exact HK.out; exact HD.out)).mono ?_
  rintro e w1 ⟨rfl, rfl⟩
  rw [HAny.out]
  have HB : Hid (Bel w.heap.size w (w.alloc (.cells #[.string (str k), .string (str d)] 9))) := (Bel.refl _ _).alloc (Nat.le_refl _) _
  have hE2 : (w.alloc (.cells #[.string (str k), .string (str d)] 9)).cell? ⟨0, 0, none⟩ = some (.iface 161 (.pointer (some a))) := (HB.out.cell (p := ⟨0, 0, none⟩) hlt).trans hE
  clear hE
  generalize w.alloc (.cells #[.string (str k), .string (str d)] 9) = w2 at *
  go_wp2_with fail
  go_quiet (fail)
  go_wp2
  go_ret2
  exact ⟨rfl, belowN HB.out _⟩

set_option maxRecDepth 100000 in
set_option maxHeartbeats 1000000 in
theorem rDeriveShort (s k i : List UInt8) (n : Nat) (hs : s.length ≤ 200) (hk : k.length ≤ 200) (hi : i.length ≤ 200) (hn : n ≤ 128) (w : World) (hT : Tab w) :
    Calls Tryd.prog 51 #[.string (str s), .string (str k), .string (str i), .int .i64 n] w fun e w' => e = .returned (.tuple #[.string (str (hkdf s k i n)), .nilIface]) ∧ Bel w.heap.size w w' := by
  have HT := hide hT
  have HAny : Hid (longs [s, k, i] = false) := by show longs [s, k, i] = false; simp [longs]; omega
  clear hT
  go_enter Tryd.func51, Tryd.ntmps51
  go_wp2_with fail
  refine (anyLongP w.heap.size [s, k, i] (by simp) _ (strs3 w s k i) (by intro x hx; simp at hx; rcases hx with rfl | rfl | rfl <;> (unfold maxLen; omega))).mono ?_
  rintro e w1 ⟨rfl, rfl⟩
  rw [HAny.out]
  have HB : Hid (Bel w.heap.size w (w.alloc (.cells #[.string (str s), .string (str k), .string (str i)] 9))) := (Bel.refl _ _).alloc (Nat.le_refl _) _
  generalize w.alloc (.cells #[.string (str s), .string (str k), .string (str i)] 9) = w2 at *
  go_wp2_with fail
  refine (deriveP s k i n (by omega) (by omega) (by omega) hn _ (HT.out.below HB.out)).mono ?_
  rintro e w3 ⟨rfl, hb3⟩
  have HB3 := hide (HB.out.trans (hb3.mono HB.out.size))
  clear hb3
  go_wp2
  go_ret2
  exact ⟨rfl, HB3.out⟩

set_option maxRecDepth 100000 in
set_option maxHeartbeats 1000000 in
theorem rDeriveLong (s k i : List UInt8) (n : Int) (hl : longs [s, k, i] = true ∨ n < 0 ∨ 128 < n) (hs : s.length ≤ maxLen) (hk : k.length ≤ maxLen) (hi : i.length ≤ maxLen) (a : Addr) (w : World) (hE : w.cell? ⟨0, 0, none⟩ = some (.iface 161 (.pointer (some a)))) :
    Calls Tryd.prog 51 #[.string (str s), .string (str k), .string (str i), .int .i64 n] w fun e w' => e = .returned (.tuple #[.string ⟨#[]⟩, .iface 161 (.pointer (some a))]) ∧ Bel w.heap.size w w' := by
  have HL := hide hl
  have HS := hide hs
  have HK := hide hk
  have HI := hide hi
  clear hs hk hi hl
  have hlt := cell_lt hE
  go_enter Tryd.func51, Tryd.ntmps51
  go_wp2_with fail
  refine (anyLongP w.heap.size [s, k, i] (by simp) _ (strs3 w s k i) (by intro x hx; simp at hx; rcases hx with rfl | rfl | rfl; exact HS.out; exact HK.out; exact HI.out)).mono ?_
  rintro e w1 ⟨rfl, rfl⟩
  have HB : Hid (Bel w.heap.size w (w.alloc (.cells #[.string (str s), .string (str k), .string (str i)] 9))) := (Bel.refl _ _).alloc (Nat.le_refl _) _
  have hE2 : (w.alloc (.cells #[.string (str s), .string (str k), .string (str i)] 9)).cell? ⟨0, 0, none⟩ = some (.iface 161 (.pointer (some a))) := (HB.out.cell (p := ⟨0, 0, none⟩) hlt).trans hE
  clear hE
  generalize w.alloc (.cells #[.string (str s), .string (str k), .string (str i)] 9) = w2 at *
  cases hb : longs [s, k, i] with
  | true =>
    clear HL hb
    go_wp2_with fail
    go_quiet (fail)
    go_wp2
    go_ret2
    exact ⟨rfl, belowN HB.out _⟩
  | false =>
    have hn : n < 0 ∨ 128 < n := by
      rcases HL.out with h | h
      · rw [hb] at h; cases h
      · exact h
    clear HL hb
    rcases hn with hn | hn
    · go_wp2_with fail
      go_quiet (fail)
      go_wp2
      go_ret2
      exact ⟨rfl, belowN HB.out _⟩
    · have hn0 : ¬ n < 0 := by omega
      go_wp2_with fail
      go_quiet (fail)
      go_wp2
      go_ret2
      exact ⟨rfl, belowN HB.out _⟩
end Go.Proofs.YtgjdogkciklgkaaDoor
