/-
  The walk over a script: 'upTo'.
-/
import Derived.Test.YtlchpbnpmgfaoaaDoorPureHash
namespace Go.Proofs.YtlchpbnpmgfaoaaDoor
open Go.RowKit

/-- A step, read. -/
structure OpD where
  kind : Int
  who : Int
  n : Int
  flip : Int
  s : List UInt8
  t : List UInt8
  u : List UInt8

def OpD.cells (o : OpD) : List Value := [.int .i64 o.kind, .int .i64 o.who, .int .i64 o.n, .int .i64 o.flip, .string (str o.s), .string (str o.t), .string (str o.u)]
/-- A script in memory. -/
def Script (w : World) (b off len : Nat) (f : Nat → OpD) : Prop := b < w.heap.size ∧ ∀ i, i < len → ∀ j, j < 7 → w.cell? ⟨b, off + i * 7 + j, none⟩ = (f i).cells[j]?

set_option maxRecDepth 1000000 in
set_option maxHeartbeats 1000000 in
theorem upToP (lo hi : Int) (b off len cap : Nat) (hlen : len ≤ maxLen) (f : Nat → OpD) (a : Nat → Addr) (w : World) (hE : Env w a) (hS : Script w b off len f)
    (hp : ∀ i, i < len → lo ≤ (f i).kind → (f i).kind ≤ hi → ∀ w', Env w' a → Calls Tryd.prog 28 #[.agg (f i).cells.toArray] w' fun e w'' => e = .returned (.bool true) ∧ Bel w'.heap.size w' w'') :
    Calls Tryd.prog 14 #[.slice (some ⟨b, off, none⟩) len cap, .int .i64 lo, .int .i64 hi] w fun e w' => e = .returned (.int .i64 (-1)) ∧ Bel w.heap.size w w' := by
  have HE := hide hE
  have HS := hide hS
  have HP := hide hp
  have hlen' : len ≤ 9223372036854775807 := by unfold maxLen at hlen; omega
  clear hE hS hp hlen
  go_enter Tryd.func14, Tryd.ntmps14
  go_wp2
  go_loopw [7] (fun t wr => ∃ k : Nat, k ≤ len ∧ (k : Int) ≤ 1152921504606846976 ∧ t = .int .i64 k ∧ Bel w.heap.size w wr) (fun t _ => len - (intOf t).toNat)
  case atStart => exact ⟨0, Nat.zero_le _, by decide, rfl, Bel.refl _ _⟩
  case round =>
    obtain ⟨k, hk, hk60, rfl, hB⟩ := hrel
    have HB := hide hB
    clear hB
    by_cases hkl : k < len
    · by_cases hk6 : (k : Int) < 1152921504606846976
      · have HSk : ∀ j, j < 7 → wr.cell? ⟨b, off + k * 7 + j, none⟩ = (f k).cells[j]? := fun j hj => (HB.out.cell (p := ⟨b, off + k * 7 + j, none⟩) HS.out.1).trans (HS.out.2 k hkl j hj)
        have c0 := HSk 0 (by decide)
        have c1 := HSk 1 (by decide)
        have c2 := HSk 2 (by decide)
        have c3 := HSk 3 (by decide)
        have c4 := HSk 4 (by decide)
        have c5 := HSk 5 (by decide)
        have c6 := HSk 6 (by decide)
        have HPk := hide (HP.out k hkl)
        clear HSk
        generalize f k = o at *
        obtain ⟨kind, who, n, flip, s, t, u⟩ := o
        simp only [OpD.cells, List.getElem?_cons_zero, List.getElem?_cons_succ, Nat.add_zero] at c0 c1 c2 c3 c4 c5 c6
        by_cases h1 : lo ≤ kind
        · by_cases h2 : kind ≤ hi
          · have hpk := HPk.out h1 h2
            simp only [OpD.cells] at hpk
            have HPk := hide hpk
            clear hpk
            go_wp2_with fail
            have HB2 : Hid (Bel w.heap.size w (wr.alloc (.cells #[.int .i64 kind, .int .i64 who, .int .i64 n, .int .i64 flip, .string (str s), .string (str t), .string (str u)] 52))) := HB.out.alloc HB.out.size _
            generalize wr.alloc (.cells #[.int .i64 kind, .int .i64 who, .int .i64 n, .int .i64 flip, .string (str s), .string (str t), .string (str u)] 52) = w2 at *
            refine (HPk.out _ (HE.out.below HB2.out)).mono ?_
            rintro e w3 ⟨rfl, hb3⟩
            have HB3 := hide (HB2.out.trans (hb3.mono HB2.out.size))
            clear hb3 HPk c0 c1 c2 c3 c4 c5 c6
            go_wp2
            go_roundw
            case rel => exact ⟨k + 1, by omega, by omega, by go_num, HB3.out⟩
            case measure => simp [intOf]; omega
          · clear HPk
            go_wp2
            go_roundw
            case rel => exact ⟨k + 1, by omega, by omega, by go_num, HB.out.alloc HB.out.size _⟩
            case measure => simp [intOf]; omega
        · clear HPk
          go_wp2
          go_roundw
          case rel => exact ⟨k + 1, by omega, by omega, by go_num, HB.out.alloc HB.out.size _⟩
          case measure => simp [intOf]; omega
      · go_wp2
        go_ret
        exact ⟨rfl, HB.out⟩
    · go_wp2
      go_ret
      exact ⟨rfl, HB.out⟩
end Go.Proofs.YtlchpbnpmgfaoaaDoor
