/-
  The walk over a script: 'upTo'.
-/
import Derived.Test.YtgjdogkciklgkaaDoorHs
import Derived.Deep.Slices
import Derived.ProofKit
import Derived.OpenShut
namespace Go.Proofs.YtgjdogkciklgkaaDoor
open Go.RowKit

/-- A step, read. -/
structure OpD where
  kind : Int
  who : Int
  n : Int
  flip : Int
  s : List UInt8
  t : List UInt8
  u : List UInt8

def OpD.cells (o : OpD) : List Value := [.int .i64 o.kind, .int .i64 o.who, .int .i64 o.n, .int .i64 o.flip, .string (str o.s), .string (str o.t), .string (str o.u)]
/-- A script in memory. -/
def Script (w : World) (b off len : Nat) (f : Nat → OpD) : Prop := b < w.heap.size ∧ ∀ i, i < len → ∀ j, j < 7 → w.cell? ⟨b, off + i * 7 + j, none⟩ = (f i).cells[j]?

set_option maxRecDepth 1000000 in
set_option maxHeartbeats 1000000 in
theorem upToP (lo hi : Int) (b off len cap : Nat) (hlen : len ≤ maxLen) (f : Nat → OpD) (a : Nat → Addr) (w : World) (hE : Env w a) (hS : Script w b off len f)
    (hp : ∀ i, i < len → lo ≤ (f i).kind → (f i).kind ≤ hi → ∀ w', Env w' a → Calls Tryd.prog 28 #[.agg (f i).cells.toArray] w' fun e w'' => e = .returned (.bool true) ∧ Bel w'.heap.size w' w'') :
    Calls Tryd.prog 14 #[.slice (some ⟨b, off, none⟩) len cap, .int .i64 lo, .int .i64 hi] w fun e w' => e = .returned (.int .i64 (-1)) ∧ Bel w.heap.size w w' := by
  have HE := hide hE
  have HS := hide hS
  have HP := hide hp
  have hlen' : len ≤ 9223372036854775807 := by unfold maxLen at hlen; omega
  clear hE hS hp hlen
  go_enter Tryd.func14, Tryd.ntmps14
  go_wp2
  go_loopw [7] (fun t wr => ∃ k : Nat, k ≤ len ∧ (k : Int) ≤ 1152921504606846976 ∧ t = .int .i64 k ∧ Bel w.heap.size w wr) (fun t _ => len - (intOf t).toNat)
  case atStart => exact ⟨0, Nat.zero_le _, by decide, rfl, Bel.refl _ _⟩
  case round =>
    obtain ⟨k, hk, hk60, rfl, hB⟩ := hrel
    have HB := hide hB
    clear hB
    by_cases hkl : k < len
    · by_cases hk6 : (k : Int) < 1152921504606846976
      · have HSk : ∀ j, j < 7 → wr.cell? ⟨b, off + k * 7 + j, none⟩ = (f k).cells[j]? := fun j hj => (HB.out.cell (p := ⟨b, off + k * 7 + j, none⟩) HS.out.1).trans (HS.out.2 k hkl j hj)
        have c0 := HSk 0 (by decide)
        have c1 := HSk 1 (by decide)
        have c2 := HSk 2 (by decide)
        have c3 := HSk 3 (by decide)
        have c4 := HSk 4 (by decide)
        have c5 := HSk 5 (by decide)
        have c6 := HSk 6 (by decide)
        have HPk := hide (HP.out k hkl)
        clear HSk
        generalize f k = o at *
        obtain ⟨kind, who, n, flip, s, t, u⟩ := o
        simp only [OpD.cells, List.getElem?_cons_zero, List.getElem?_cons_succ, Nat.add_zero] at c0 c1 c2 c3 c4 c5 c6
        by_cases h1 : lo ≤ kind
        · by_cases h2 : kind ≤ hi
          · have hpk := HPk.out h1 h2
            simp only [OpD.cells] at hpk
            have HPk := hide hpk
            clear hpk
            go_wp2_with fail
            have HB2 : Hid (Bel w.heap.size w (wr.alloc (.cells #[.int .i64 kind, .int .i64 who, .int .i64 n, .int .i64 flip, .string (str s), .string (str t), .string (str u)] 52))) := HB.out.alloc HB.out.size _
            generalize wr.alloc (.cells #[.int .i64 kind, .int .i64 who, .int .i64 n, .int .i64 flip, .string (str s), .string (str t), .string (str u)] 52) = w2 at *
            refine (HPk.out _ (HE.out.below HB2.out)).mono ?_
            rintro e w3 ⟨rfl, hb3⟩
            have HB3 := hide (HB2.out.trans (hb3.mono HB2.out.size))
            clear hb3 HPk c0 c1 c2 c3 c4 c5 c6
            go_wp2
            go_roundw
            case rel => exact ⟨k + 1, by omega, by omega, by go_num, HB3.out⟩
            case measure => simp [intOf]; omega
          · clear HPk
            go_wp2
            go_roundw
            case rel => exact ⟨k + 1, by omega, by omega, by go_num, HB.out.alloc HB.out.size _⟩
            case measure => simp [intOf]; omega
        · clear HPk
          go_wp2
          go_roundw
          case rel => exact ⟨k + 1, by omega, by omega, by go_num, HB.out.alloc HB.out.size _⟩
          case measure => simp [intOf]; omega
      · go_wp2
        go_ret
        exact ⟨rfl, HB.out⟩
    · go_wp2
      go_ret
      exact ⟨rfl, HB.out⟩
end Go.Proofs.YtgjdogkciklgkaaDoor
namespace Go.Proofs.YtgjdogkciklgkaaDoor
open Go.RowKit Go.ChangeShapes Go.WideShapes Go.Deep

theorem Bel.same {W w' : World} (h : Bel W.heap.size W w') {p : MemPlace} (hp : p.block < W.heap.size) : W.sameAt w' p := by
  cases p with
  | cell b o => exact World.cell?_of_block (w := W) (h.block b hp)
  | map b => exact h.block b hp
theorem Bel.trod {H : Type} {enc : TypeId × Value → H} {P : Program} {t : TypeId} (hl : laidOutB P = true) (hr : P.readableRec t = true) (hrow : t < P.types.size) {W W' : World} {v : Value} {d : DataW H} {ps : List MemPlace}
    (h : DataW.Trod enc P W 0 (fun _ => true) true t v d ps) (hb : Bel W.heap.size W W') (hlt : ∀ x ∈ ps, x.block < W.heap.size) :
    DataW.Trod enc P W' 0 (fun b => decide (b < W.heap.size)) true t v d ps :=
  WideElems.Trod_stays hl hr hrow h (fun x hx => hb.same (hlt x hx)) (fun x hx => by simpa using hlt x hx)

theorem cellsOp : Tryd.prog.cellsOf 52 = 7 := by kernel_rfl
theorem cellsI : Tryd.prog.cellsOf 3 = 1 := by kernel_rfl
theorem cellsStr : Tryd.prog.cellsOf 9 = 1 := by kernel_rfl

set_option maxRecDepth 100000 in
/-- One step, opened. -/
theorem op_of_trod {H : Type} {enc : TypeId × Value → H} {w : World} {base : Nat} {sp : Nat → Bool} {held : Bool} {fuel : Nat} {cs : List Value} {x : DataW H × List MemPlace}
    (h : DataW.trod enc Tryd.prog w base sp held fuel 52 cs = some x) :
    ∃ o : OpD, cs = o.cells ∧ o.s.length ≤ maxLen ∧ o.t.length ≤ maxLen ∧ o.u.length ≤ maxLen := by
  obtain ⟨xs, n, _, _, hlen, hxl, hf⟩ := DataW.trod_struct Tryd.underlying52 h
  rw [cellsOp] at hlen
  match cs, hlen with
  | [v0, v1, v2, v3, v4, v5, v6], _ =>
    match xs, hxl with
    | [y0, y1, y2, y3, y4, y5, y6], _ =>
      have g0 := hf 0 _ rfl
      have g1 := hf 1 _ rfl
      have g2 := hf 2 _ rfl
      have g3 := hf 3 _ rfl
      have g4 := hf 4 _ rfl
      have g5 := hf 5 _ rfl
      have g6 := hf 6 _ rfl
      simp [cellsI, cellsStr] at g0 g1 g2 g3 g4 g5 g6
      obtain ⟨z0, e0, _, _⟩ := DataW.trod_int Tryd.underlying3 g0
      obtain ⟨z1, e1, _, _⟩ := DataW.trod_int Tryd.underlying3 g1
      obtain ⟨z2, e2, _, _⟩ := DataW.trod_int Tryd.underlying3 g2
      obtain ⟨z3, e3, _, _⟩ := DataW.trod_int Tryd.underlying3 g3
      obtain ⟨s4, e4, _, m4⟩ := DataW.trod_string Tryd.underlying9 g4
      obtain ⟨s5, e5, _, m5⟩ := DataW.trod_string Tryd.underlying9 g5
      obtain ⟨s6, e6, _, m6⟩ := DataW.trod_string Tryd.underlying9 g6
      simp only [List.cons.injEq, and_true] at e0 e1 e2 e3 e4 e5 e6
      subst e0 e1 e2 e3 e4 e5 e6
      exact ⟨⟨z0, z1, z2, z3, s4.data.toList, s5.data.toList, s6.data.toList⟩, by simp only [OpD.cells, str_of], by simpa using m4, by simpa using m5, by simpa using m6⟩

set_option maxRecDepth 100000 in
/-- A script, opened. -/
theorem script_of_trod {H : Type} {enc : TypeId × Value → H} {W : World} {v : Value} {d : DataW H} {p : List MemPlace} (hv : ∃ ao len cap, v = .slice ao len cap)
    (h : DataW.Trod enc Tryd.prog W 0 (fun _ => true) true 28 v d p) :
    (∃ ao cap, v = .slice ao 0 cap) ∨ ∃ b off len cap f, v = .slice (some ⟨b, off, none⟩) len cap ∧ len ≤ maxLen ∧ Script W b off len f ∧ ∀ i, i < len → (f i).s.length ≤ maxLen ∧ (f i).t.length ≤ maxLen ∧ (f i).u.length ≤ maxLen := by
  obtain ⟨ao, len, cap, rfl⟩ := hv
  obtain ⟨fuel, hf⟩ := h
  rcases open_slice Tryd.underlying28 hf with ⟨hcs, _⟩ | ⟨a, len', cap', m, n, D, Pl, hcs, _, hl, hm, hmm, _, hx⟩
  · left
    simp only [Value.cells, List.cons.injEq, Value.slice.injEq, and_true] at hcs
    obtain ⟨rfl, rfl, rfl⟩ := hcs
    exact ⟨none, 0, rfl⟩
  · simp only [Value.cells, List.cons.injEq, Value.slice.injEq, and_true] at hcs
    obtain ⟨rfl, rfl, rfl⟩ := hcs
    have hmm' : m = cap := by simpa using hmm
    subst hmm'
    rcases Nat.eq_zero_or_pos len with h0 | hpos
    · left; subst h0; exact ⟨_, _, rfl⟩
    right
    have each : ∀ i, i < len → ∃ o : OpD, (∀ j, j < 7 → W.cell? (a.add (i * 7 + j)) = o.cells[j]?) ∧ o.s.length ≤ maxLen ∧ o.t.length ≤ maxLen ∧ o.u.length ≤ maxLen := fun i hi => by
      obtain ⟨cs', h1, h2⟩ := hx i (by omega)
      rw [cellsOp] at h1
      obtain ⟨_, _, hcell⟩ := World.cells?_some h1
      obtain ⟨o, rfl, h3⟩ := op_of_trod h2
      refine ⟨o, fun j hj => ?_, h3⟩
      have := hcell j hj
      rw [add_add] at this
      exact this
    obtain ⟨b, off, spot⟩ := a
    have hspot : spot = none := by
      obtain ⟨o, ho, _⟩ := each 0 hpos
      have h0 := ho 0 (by decide)
      simp only [OpD.cells, List.getElem?_cons_zero] at h0
      simpa [Addr.add] using World.cell?_spot h0
    subst hspot
    have : Inhabited OpD := ⟨⟨0, 0, 0, 0, [], [], []⟩⟩
    obtain ⟨f, hf⟩ := choose_lt each
    refine ⟨b, off, len, m, f, rfl, by omega, ⟨?_, fun i hi j hj => ?_⟩, fun i hi => (hf i hi).2⟩
    · have h0 := (hf 0 hpos).1 0 (by decide)
      simp only [OpD.cells, List.getElem?_cons_zero] at h0
      have := cell_lt h0
      simpa [Addr.add] using this
    · have := (hf i hi).1 j hj
      rw [Go.WideShapes.add_plain] at this
      rw [Nat.add_assoc]
      exact this

set_option maxRecDepth 100000 in
theorem upTo0 (ao : Option Addr) (cap : Nat) (lo hi : Int) (w : World) :
    Calls Tryd.prog 14 #[.slice ao 0 cap, .int .i64 lo, .int .i64 hi] w fun e w' => e = .returned (.int .i64 (-1)) ∧ w' = w := by
  go_enter Tryd.func14, Tryd.ntmps14
  go_wp2
  refine wp_loop_rounds 1 ?_
  rw [rounds_succ]
  go_wp2
  go_ret
  exact ⟨rfl, rfl⟩
end Go.Proofs.YtgjdogkciklgkaaDoor
