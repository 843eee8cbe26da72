/-
  Kept keys: as plain data, and in memory.
-/
import Derived.Test.YtlchpbnpmgfaoaaDoorJoin
import Derived.Test.YtlchpbnpmgfaoaaDoorDerive
import Derived.Laws.AppendOwn
import Derived.Lib.UnsafeStr
import Derived.Lib.BufferWrite
import Derived.Test.YtlchpbnpmgfaoaaDoorBoxP
import Derived.BigQuiet
import Derived.Deep.QuietTactic
import Derived.Deep.RegionHeld3
import Derived.OwnWalk
import Derived.Lib.SliceRun
import Derived.Deep.RegionLaw
import Derived.Test.YtlchpbnpmgfaoaaDoorPureHash
import Derived.Test.YtlchpbnpmgfaoaaDoorRMac
import Derived.Test.YtlchpbnpmgfaoaaDoorKeys
import Derived.Test.YtlchpbnpmgfaoaaDoorRSh
import Derived.Laws.AppendOwnNone
import Derived.Test.YtlchpbnpmgfaoaaDoorRegB
import Derived.Test.YtlchpbnpmgfaoaaDoorAg
import Derived.Test.YtlchpbnpmgfaoaaDoorLow
import Derived.Carry
namespace Go.Proofs.YtlchpbnpmgfaoaaDoor
open Go.RowKit

/-- The key of a message, and the chain behind it. -/
def mkK (c : List UInt8) : List UInt8 := hmac c [1]
def nxK (c : List UInt8) : List UInt8 := hmac c [2]
def nxN (c : List UInt8) : Nat → List UInt8
  | 0 => c
  | n + 1 => nxK (nxN c n)
theorem mkK_length (c : List UInt8) : (mkK c).length = 32 := hmac_length _ _
theorem nxK_length (c : List UInt8) : (nxK c).length = 32 := hmac_length _ _
theorem nxN_length (c : List UInt8) (h : c.length = 32) : ∀ n, (nxN c n).length = 32
  | 0 => h
  | _ + 1 => nxK_length _
theorem nxN_add (c : List UInt8) (a : Nat) : ∀ b, nxN (nxN c a) b = nxN c (a + b)
  | 0 => rfl
  | b + 1 => by show nxK (nxN (nxN c a) b) = nxK (nxN c (a + b)); rw [nxN_add c a b]

/-- A kept key. -/
structure KK where
  th : List UInt8
  n : Nat
  key : List UInt8
instance : Inhabited KK := ⟨⟨[], 0, []⟩⟩

/-- The keys of k messages from number i on, c being the chain there. -/
def skipL (th c : List UInt8) (i : Nat) : Nat → List KK
  | 0 => []
  | k + 1 => skipL th c i k ++ [⟨th, i + k, mkK (nxN c k)⟩]
theorem skipL_length (th c : List UInt8) (i : Nat) : ∀ k, (skipL th c i k).length = k
  | 0 => rfl
  | k + 1 => by simp [skipL, skipL_length th c i k]

def keepL (kept sk : List KK) : List KK := (kept ++ sk).drop ((kept ++ sk).length - 16)
theorem keepL_length (kept sk : List KK) : (keepL kept sk).length ≤ 16 := by unfold keepL; rw [List.length_drop]; omega
theorem keepL_few (kept sk : List KK) (h : kept.length + sk.length ≤ 16) : keepL kept sk = kept ++ sk := by
  unfold keepL
  rw [show (kept ++ sk).length - 16 = 0 by rw [List.length_append]; omega, List.drop_zero]
theorem keepL_nil (kept : List KK) (h : kept.length ≤ 16) : keepL kept [] = kept := by rw [keepL_few _ _ (by simpa using h), List.append_nil]

def hitK (th : List UInt8) (n : Nat) (k : KK) : Bool := decide (k.th = th) && decide (k.n = n)
def findK (l : List KK) (th : List UInt8) (n : Nat) : Option Nat := l.findIdx? (hitK th n)

def kC (k : KK) : List Value := [.string (str k.th), .int .i64 (k.n : Int), .string (str k.key)]
def kCells : List KK → List Value
  | [] => []
  | k :: l => kC k ++ kCells l
theorem kCells_length : ∀ l : List KK, (kCells l).length = l.length * 3
  | [] => rfl
  | k :: l => by rw [kCells, List.length_append, kCells_length l, List.length_cons]; simp [kC]; omega
theorem kCells_append : ∀ a b : List KK, kCells (a ++ b) = kCells a ++ kCells b
  | [], b => rfl
  | k :: a, b => by rw [List.cons_append, kCells, kCells, kCells_append a b, List.append_assoc]
theorem kCells_one : ∀ (l : List KK), ∀ u ∈ kCells l, u.oneCell' = true
  | [], u, h => by cases h
  | k :: l, u, h => by
    rw [kCells, List.mem_append] at h
    rcases h with h | h
    · simp [kC] at h; rcases h with rfl | rfl | rfl <;> rfl
    · exact kCells_one l u h
theorem kCells_drop : ∀ (l : List KK) (n : Nat), kCells (l.drop n) = (kCells l).drop (n * 3)
  | l, 0 => by simp
  | [], n + 1 => by simp [kCells]
  | k :: l, n + 1 => by
    rw [List.drop_succ_cons, kCells_drop l n, kCells, show (n + 1) * 3 = (kC k).length + n * 3 by simp [kC]; omega, List.drop_append]
    simp
theorem kCells_take : ∀ (l : List KK) (n : Nat), kCells (l.take n) = (kCells l).take (n * 3)
  | l, 0 => by simp [kCells]
  | [], n + 1 => by simp [kCells]
  | k :: l, n + 1 => by
    rw [List.take_succ_cons, kCells, kCells_take l n, kCells, show (n + 1) * 3 = (kC k).length + n * 3 by simp [kC]; omega, List.take_append]
    rw [List.take_of_length_le (l := kC k) (by omega), show (kC k).length + n * 3 - (kC k).length = n * 3 by omega]
theorem kCells_get (l : List KK) (j : Nat) (h : j < l.length) : (kCells l)[j * 3]? = some (.string (str (l.getD j default).th)) ∧ (kCells l)[j * 3 + 1]? = some (.int .i64 ((l.getD j default).n : Int)) ∧ (kCells l)[j * 3 + 2]? = some (.string (str (l.getD j default).key)) := by
  have e : l = l.take j ++ (l.getD j default :: l.drop (j + 1)) := by
    rw [getD_in _ _ h, ← List.drop_eq_getElem_cons h, List.take_append_drop]
  have hl : (kCells (l.take j)).length = j * 3 := by rw [kCells_length, List.length_take]; omega
  generalize l.getD j default = k at *
  rw [e, kCells_append, kCells]
  refine ⟨?_, ?_, ?_⟩
  · rw [List.getElem?_append_right (by omega), hl, Nat.sub_self]; rfl
  · rw [List.getElem?_append_right (by omega), hl, show j * 3 + 1 - j * 3 = 1 by omega]; rfl
  · rw [List.getElem?_append_right (by omega), hl, show j * 3 + 2 - j * 3 = 2 by omega]; rfl

/-- The row of kept keys that is a slice's. -/
def Own (w : World) (base : Nat) (v : Value) (l : List KK) : Prop := w.ownsRow base 79 3 v l.length (kCells l)
theorem Own.base {w : World} {base base' : Nat} {v : Value} {l : List KK} (h : Own w base v l) (hb : base' ≤ base) : Own w base' v l := by
  refine ⟨h.1, ?_⟩
  rcases h.2 with hn | ⟨g, cap, cur, rfl, hg, rest⟩
  · exact .inl hn
  · exact .inr ⟨g, cap, cur, rfl, Nat.le_trans hb hg, rest⟩
theorem Own.of_block {w w' : World} {base : Nat} {v : Value} {l : List KK} (h : Own w base v l) (hk : ∀ g cs, w.heap[g]? = some (.cells cs 79 (0, 0)) → base ≤ g → w'.heap[g]? = w.heap[g]?) : Own w' base v l := by
  refine ⟨h.1, ?_⟩
  rcases h.2 with hn | ⟨g, cap, cur, rfl, hg, hgg, rest⟩
  · exact .inl hn
  · exact .inr ⟨g, cap, cur, rfl, hg, (hk g cur hgg hg).trans hgg, rest⟩

end Go.Proofs.YtlchpbnpmgfaoaaDoor
namespace Go.Proofs.YtlchpbnpmgfaoaaDoor
open Go.RowKit

set_option maxHeartbeats 4000000 in
set_option maxRecDepth 100000 in
theorem liteP (l : List UInt8) (hl : l.length ≤ 1000) (w : World) :
    Calls Tryd.prog 98 #[.string (str l)] w fun e w' => e = .returned (.string (str l)) ∧ Bel w.heap.size w w' := by
  obtain ⟨s, hs⟩ : ∃ s, s = str l := ⟨_, rfl⟩
  have hsz : s.size ≤ 1000 := by rw [hs, str_size]; exact hl
  rw [← hs]
  clear hs hl
  by_cases h0 : s.size = 0
  · have hs : s = ⟨#[]⟩ := by
      apply ByteArray.ext
      exact Array.eq_empty_of_size_eq_zero h0
    subst hs
    go_enter Tryd.func98, Tryd.ntmps98
    go_wp2
    go_ret
    exact ⟨rfl, Bel.refl _ _⟩
  · obtain ⟨i0, hi, hz0, hz1, hz2⟩ := info_parts Tryd.infoU8
    have hinfo : (Tryd.prog.info? 5).map (·.size) = some 1 := by rw [hi]; simp [hz1]
    have hco : Tryd.prog.cellsOf 5 = 1 := by simp [Program.cellsOf, hi, hz1]
    obtain ⟨M, hM⟩ : ∃ M, M = madeCells (Value.int .u8 0).cells (((s.size : Nat) : Int).toNat * i0.size) := ⟨_, rfl⟩
    have hMs : M.size = s.size := by rw [hM, size_madeCells, hz1]; simp
    have hmk : ∀ W : World, (Instr.makeSlice 59 (.int .i64 (s.size : Int)) (.int .i64 (s.size : Int))).run Tryd.prog W = .ok (.slice (some ⟨W.heap.size, 0, none⟩) s.size s.size) (W.alloc (.cells M 5)) := fun W => by
      have h := run_make (P := Tryd.prog) W 59 5 i0 (.int .u8 0) Tryd.underlying59 hi hz0 .i64 .i64 (s.size : Int) (s.size : Int) (by omega) (by omega) (by rw [hz2]; omega) (by omega)
      rw [← hM] at h
      simpa using h
    clear hM
    have hcp := Lib.run_copy_row_string (P := Tryd.prog) (w.alloc (.cells M 5)) 59 9 3 5 w.heap.size 0 s.size s.size s M 5 Tryd.underlying59 hinfo (heap_alloc_new w _) (Nat.le_refl _) (by omega)
    obtain ⟨Y, hY⟩ : ∃ Y, Y = (M.toList.take 0 ++ Lib.byteCells s.data.toList ++ M.toList.drop (0 + s.size)).toArray := ⟨_, rfl⟩
    rw [← hY] at hcp
    have hYl : Y.toList = Lib.byteCells s.data.toList := by
      rw [hY, List.toList_toArray, List.take_zero, List.nil_append, List.drop_of_length_le (by rw [Array.length_toList]; omega), List.append_nil]
    have hYs : Y.size = s.size := by rw [← Array.length_toList, hYl, Lib.byteCells_length, ← Lib.size_eq]
    have hgY : ((w.alloc (.cells M 5)).setRow w.heap.size Y).heap[w.heap.size]? = some (.cells Y 5 (0, 0)) := setRow_heap _ _ M _ 5 (0, 0) (heap_alloc_new w _)
    have hne : s.data.toList ≠ [] := fun e => h0 (by rw [Lib.size_eq, e]; rfl)
    have hUS := Lib.run_unsafeString_row (P := Tryd.prog) ((w.alloc (.cells M 5)).setRow w.heap.size Y) 154 3 9 5 Tryd.underlying154 hco w.heap.size Y.size (by unfold World.shape?; rw [hgY]) s.data.toList hne (by rw [← Lib.size_eq]; omega) (by rw [← Lib.size_eq]; omega)
      (fun j x hx => Lib.cells_of_row hgY Y.size j _ (by rw [List.take_of_length_le (by rw [Array.length_toList]; exact Nat.le_refl _), hYl]; simp [Lib.byteCells, hx]))
    rw [← Lib.size_eq] at hUS
    clear hY
    go_enter Tryd.func98, Tryd.ntmps98
    go_wp2
    go_ret
    have hb1 : Below w.heap.size w (w.alloc (.cells M 5)) := (Below.refl _ w).alloc (Nat.le_refl _) _
    have hb2 : Below w.heap.size (w.alloc (.cells M 5)) ((w.alloc (.cells M 5)).setRow w.heap.size Y) := ⟨rfl, rfl, rfl, by simp, fun k hk => setRow_other _ _ _ _ (by omega)⟩
    exact ⟨rfl, Bel.below (Lib.below_freeze (hb1.trans hb2) (p := ⟨w.heap.size, 0, none⟩) (Nat.le_refl _) _)⟩

theorem cloneP (l : List UInt8) (hl : l.length ≤ 1000) (w : World) :
    Calls Tryd.prog 73 #[.string (str l)] w fun e w' => e = .returned (.string (str l)) ∧ Bel w.heap.size w w' := by
  go_enter Tryd.func73, Tryd.ntmps73
  go_wp2_with fail
  refine (liteP l hl _).mono ?_
  rintro e w1 ⟨rfl, hb1⟩
  go_wp2
  go_ret
  exact ⟨rfl, hb1⟩
end Go.Proofs.YtlchpbnpmgfaoaaDoor
namespace Go.Proofs.YtlchpbnpmgfaoaaDoor
open Go.RowKit

/-- 'string([]byte{..})' of two, the block just laid. -/
theorem conv2 (a b : Int) (w : World) :
    (convert 59 9 (.slice (some ⟨w.heap.size, 0, none⟩) 2 2)).run Tryd.prog (w.alloc (.cells #[.int .u8 a, .int .u8 b] 5)) = .ok (.string (str [UInt8.ofNat a.toNat, UInt8.ofNat b.toNat])) (w.alloc (.cells #[.int .u8 a, .int .u8 b] 5)) :=
  run_convert_bytes_arg (P := Tryd.prog) _ 59 5 Tryd.underlying59 Tryd.underlying5 w.heap.size 0 2 2 [a, b] rfl
    (fun i hi => by
      match i, hi with
      | 0, _ => rw [World.cell?_alloc_new]; rfl
      | 1, _ => rw [World.cell?_alloc_new]; rfl) 9 Tryd.underlying9

theorem two_eq (n : Nat) : [UInt8.ofNat ((n : Int) / 256 % 256).toNat, UInt8.ofNat ((n : Int) % 256).toNat] = bigB n 2 := by
  have e0 := byte_eq n 0
  have e1 := byte_eq n 1
  simp only [Nat.mul_zero, Nat.reduceMul, Int.reducePow, Int.pow_zero, Int.ediv_one] at e0 e1
  simp only [bigB, e0, e1]

set_option maxRecDepth 100000 in
theorem twoP (n : Nat) (w : World) :
    Calls Tryd.prog 68 #[.int .i64 n] w fun e w' => e = .returned (.string (str (bigB n 2))) ∧ Bel w.heap.size w w' := by
  have hcv := conv2 ((n : Int) / 256 % 256) ((n : Int) % 256) w
  rw [two_eq n] at hcv
  go_enter Tryd.func68, Tryd.ntmps68
  go_wp2
  go_ret
  exact ⟨rfl, (Bel.refl _ _).alloc (Nat.le_refl _) _⟩
theorem Bel.ofDrew {B : Nat} {a w : World} (h : Bel B a.drew w) : Bel B a w := ⟨h.os, h.output, h.size, h.block⟩
theorem Bel.ofDrewN {B q : Nat} {a w : World} (h : Bel B (a.drewN q) w) : Bel B a w := ⟨h.os, h.output, h.size, h.block⟩

theorem or_two (x y : Nat) (hx : x < 256) (hy : y < 256) : bits .or .i64 ((x : Int) * 256) (y : Int) = ((x * 256 + y : Nat) : Int) := by
  rw [show (x : Int) * 256 = ((x * 256 : Nat) : Int) by omega, i64_or_nat _ _ (by omega) (by omega), Nat.mul_comm x 256, show 256 * x = 2 ^ 8 * x by rfl, ← Nat.two_pow_add_eq_or_of_lt (by omega)]

set_option maxRecDepth 100000 in
theorem readTwoP (l : List UInt8) (h : 2 ≤ l.length) (w : World) :
    Calls Tryd.prog 74 #[.string (str l)] w fun e w' => e = .returned (.int .i64 (byteAt l 0 * 256 + byteAt l 1 : Nat)) ∧ Bel w.heap.size w w' := by
  have h0 := idxL l 0 0 rfl (by omega)
  have h1 := idxL l 1 1 rfl (by omega)
  have b0 := byteAt_lt l 0
  have b1 := byteAt_lt l 1
  generalize byteAt l 0 = x at *
  generalize byteAt l 1 = y at *
  have ho := or_two x y b0 b1
  go_enter Tryd.func74, Tryd.ntmps74
  go_wp2_with fail
  go_quiet (fail)
  go_wp2
  go_ret
  exact ⟨ret_int (by omega), belowN (Bel.refl _ _) _⟩

set_option maxRecDepth 100000 in
set_option maxHeartbeats 1000000 in
theorem halvesP (l : List UInt8) (hl : l.length = 64) (w : World) :
    Calls Tryd.prog 91 #[.string (str l)] w fun e w' => e = .returned (.tuple #[.string (str (l.take 32)), .string (str (l.drop 32))]) ∧ Bel w.heap.size w w' := by
  have hx := sliceHi l 32 32 (by omega) (by omega)
  have hy := sliceLo l 32 32 (by omega) (by omega)
  have l1 : (l.take 32).length = 32 := by rw [List.length_take]; omega
  have l2 : (l.drop 32).length = 32 := by rw [List.length_drop]; omega
  generalize l.take 32 = x at *
  generalize l.drop 32 = y at *
  go_enter Tryd.func91, Tryd.ntmps91
  go_wp2_with fail
  go_region_held3 (fun w' => Bel w.heap.size w w') (first | assumption | exact (Bel.refl _ _).drew | exact Bel.drew (by assumption)) (first | (go_at_call 73; refine (cloneP x (by omega) _).mono ?_; rintro e w1 ⟨rfl, hb1⟩; replace hb1 := Bel.ofDrew hb1) | (go_at_call 73; refine (cloneP y (by omega) _).mono ?_; rintro e w2 ⟨rfl, hb2⟩; replace hb2 := hb1.trans (hb2.mono hb1.size)))
  all_goals go_wp2
  all_goals go_ret2
  all_goals exact ⟨rfl, hb2⟩
end Go.Proofs.YtlchpbnpmgfaoaaDoor
namespace Go.Proofs.YtlchpbnpmgfaoaaDoor
open Go.RowKit

set_option maxRecDepth 100000 in
set_option maxHeartbeats 1000000 in
theorem begunP (b o : Nat) (k : List UInt8) (w : World) (c0 : w.cell? ⟨b, o, none⟩ = some (.string (str k))) :
    Calls Tryd.prog 38 #[.pointer (some ⟨b, o, none⟩)] w fun e w' => e = .returned (.bool (!k.isEmpty)) ∧ w' = w := by
  have e1 := str_toList k
  go_enter Tryd.func38, Tryd.ntmps38
  go_wp2
  go_ret
  exact ⟨rfl, rfl⟩

set_option maxRecDepth 100000 in
set_option maxHeartbeats 1000000 in
theorem stepP (b o n : Nat) (k : List UInt8) (hk : k.length ≤ 64) (hn : n ≤ 1000000) (w : World) (hT : Tab w) (c0 : w.cell? ⟨b, o, none⟩ = some (.string (str k))) (c1 : w.cell? ⟨b, o + 1, none⟩ = some (.int .i64 (n : Int)))
    (f0 : w.frozen? ⟨b, o, none⟩ = false) (f1 : w.frozen? ⟨b, o + 1, none⟩ = false) :
    Calls Tryd.prog 40 #[.pointer (some ⟨b, o, none⟩)] w fun e w' => e = .returned (.string (str (mkK k))) ∧ ∃ w1, Bel w.heap.size w w1 ∧ w' = (w1.setCell ⟨b, o, none⟩ (.string (str (nxK k)))).setCell ⟨b, o + 1, none⟩ (.int .i64 ((n + 1 : Nat) : Int)) := by
  have hlt := cell_lt c0
  have HT := hide hT
  have HM : Hid (mkK k = hmac k [1]) := rfl
  have HN : Hid (nxK k = hmac k [2]) := rfl
  clear hT
  go_enter Tryd.func40, Tryd.ntmps40
  go_wp2_with fail
  rw [show (⟨#[1]⟩ : ByteArray) = str [1] from rfl]
  refine (macP k [1] (by omega) (by decide) _ HT.out).mono ?_
  rintro e w1 ⟨rfl, hb1⟩
  rw [← HM.out]
  have HB1 := hide hb1
  have c0' := (hb1.cell (p := ⟨b, o, none⟩) hlt).trans c0
  have c1' := (hb1.cell (p := ⟨b, o + 1, none⟩) hlt).trans c1
  have f0' := (hb1.frozen (p := ⟨b, o, none⟩) hlt).trans f0
  have f1' := (hb1.frozen (p := ⟨b, o + 1, none⟩) hlt).trans f1
  have hlt1 := Nat.lt_of_lt_of_le hlt hb1.size
  clear hb1 c0 c1 f0 f1
  go_wp2_with fail
  rw [show (⟨#[2]⟩ : ByteArray) = str [2] from rfl]
  refine (macP k [2] (by omega) (by decide) _ (HT.out.below HB1.out)).mono ?_
  rintro e w2 ⟨rfl, hb2⟩
  rw [← HN.out]
  have HB2 := hide (HB1.out.trans (hb2.mono HB1.out.size))
  have c0 := (hb2.cell (p := ⟨b, o, none⟩) hlt1).trans c0'
  have c1 := (hb2.cell (p := ⟨b, o + 1, none⟩) hlt1).trans c1'
  have f0 := (hb2.frozen (p := ⟨b, o, none⟩) hlt1).trans f0'
  have f1 := (hb2.frozen (p := ⟨b, o + 1, none⟩) hlt1).trans f1'
  clear hb2 c0' c1' f0' f1'
  generalize mkK k = mk at *
  generalize nxK k = nx at *
  go_wp2
  go_ret
  refine ⟨?_, w2, HB2.out, ?_⟩
  · rw [show mkK k = mk from HM.out.symm]; rfl
  · rw [show nxK k = nx from HN.out.symm]; rfl
end Go.Proofs.YtlchpbnpmgfaoaaDoor
namespace Go.Proofs.YtlchpbnpmgfaoaaDoor
open Go.RowKit

/-- All that lay in w lies in w' too, block b aside. -/
structure Chg (b : Nat) (w w' : World) : Prop where
  os : w'.os = w.os
  output : w'.output = w.output
  size : w.heap.size ≤ w'.heap.size
  block : ∀ k, k < w.heap.size → k ≠ b → w'.heap[k]? = w.heap[k]?
theorem Chg.of_bel {b : Nat} {w w' : World} (h : Bel w.heap.size w w') : Chg b w w' := ⟨h.os, h.output, h.size, fun k hk _ => h.block k hk⟩
theorem Chg.trans {b : Nat} {u v w : World} (h : Chg b u v) (k : Chg b v w) : Chg b u w :=
  ⟨k.os.trans h.os, k.output.trans h.output, Nat.le_trans h.size k.size, fun i hi hne => (k.block i (Nat.lt_of_lt_of_le hi h.size) hne).trans (h.block i hi hne)⟩
theorem Chg.bel {b B : Nat} {w w' : World} (h : Chg b w w') (hB : B ≤ b) (hs : B ≤ w.heap.size) : Bel B w w' := ⟨h.os, h.output, h.size, fun k hk => h.block k (by omega) (by omega)⟩
theorem Chg.drewN {b : Nat} {w w' : World} (h : Chg b w w') (q : Nat) : Chg b w (w'.drewN q) := ⟨h.os, h.output, h.size, h.block⟩
theorem Chg.drew {b : Nat} {w w' : World} (h : Chg b w w') : Chg b w w'.drew := ⟨h.os, h.output, h.size, h.block⟩
theorem Chg.setCell {b : Nat} {u w : World} (h : Chg b u w) (o : Nat) (x : Value) : Chg b u (w.setCell ⟨b, o, none⟩ x) :=
  h.trans ⟨rfl, rfl, by simp [World.setCell], fun k _ hne => heap_setCell_other w _ k x hne⟩
theorem Tab.chg {w w' : World} {b : Nat} (h : Tab w) (hc : Chg b w w') (hb : 7 < b) : Tab w' :=
  ⟨Nat.lt_of_lt_of_le h.lt hc.size, fun t ht => ((World.cell?_of_block (a := ⟨7, t, none⟩) (hc.block 7 h.lt (by omega))).trans (h.tab t ht))⟩

/-- A block with a chain at place o. -/
def chB (arr : Array Value) (o : Nat) (k : List UInt8) (n : Nat) : Array Value := (arr.setIfInBounds o (.string (str k))).setIfInBounds (o + 1) (.int .i64 (n : Int))
theorem chB_again (arr : Array Value) (o : Nat) (k k' : List UInt8) (n n' : Nat) : ((chB arr o k n).setIfInBounds o (.string (str k'))).setIfInBounds (o + 1) (.int .i64 (n' : Int)) = chB arr o k' n' := by
  unfold chB
  apply Array.ext_getElem?
  intro i
  simp only [Array.getElem?_setIfInBounds, Array.size_setIfInBounds]
  by_cases h1 : o + 1 = i
  · simp [h1]
  · by_cases h2 : o = i
    · simp [h2]
    · simp [h1, h2]
theorem chB_0 (arr : Array Value) (o : Nat) (k : List UInt8) (n : Nat) (h : o + 1 < arr.size) : (chB arr o k n)[o]? = some (.string (str k)) := by
  unfold chB
  rw [Array.getElem?_setIfInBounds_ne (by omega), Array.getElem?_setIfInBounds, if_pos rfl, if_pos (by omega)]
theorem chB_1 (arr : Array Value) (o : Nat) (k : List UInt8) (n : Nat) (h : o + 1 < arr.size) : (chB arr o k n)[o + 1]? = some (.int .i64 (n : Int)) := by
  unfold chB
  rw [Array.getElem?_setIfInBounds, if_pos rfl, if_pos (by rw [Array.size_setIfInBounds]; exact h)]

theorem stepB (b o n : Nat) (k : List UInt8) (arr : Array Value) (T : TypeId) (ha : o + 1 < arr.size) (hk : k.length ≤ 64) (hn : n ≤ 1000000) (w : World) (hT : Tab w) (hP : w.heap[b]? = some (.cells (chB arr o k n) T (0, 0))) :
    Calls Tryd.prog 40 #[.pointer (some ⟨b, o, none⟩)] w fun e w' => e = .returned (.string (str (mkK k))) ∧ w'.heap[b]? = some (.cells (chB arr o (nxK k) (n + 1)) T (0, 0)) ∧ Chg b w w' := by
  refine (stepP b o n k hk hn w hT ((cell_of_row w b o _ T (0, 0) hP).trans (chB_0 _ _ _ _ ha)) ((cell_of_row w b (o + 1) _ T (0, 0) hP).trans (chB_1 _ _ _ _ ha)) (frozen_of_row w b o _ T hP) (frozen_of_row w b (o + 1) _ T hP)).mono ?_
  rintro e w' ⟨rfl, w1, hb, rfl⟩
  have h1 : w1.heap[b]? = some (.cells (chB arr o k n) T (0, 0)) := (hb.block b (Array.getElem?_eq_some_iff.1 hP).1).trans hP
  refine ⟨rfl, ?_, ((Chg.of_bel hb).setCell _ _).setCell _ _⟩
  rw [heap_setCell_same _ b (o + 1) _ T _ (heap_setCell_same w1 b o _ T _ h1), chB_again]

theorem Tryd.infoKK : (Tryd.prog.info? 79).map (fun i => (i.zero, i.size, i.bytes)) = some (some (.agg #[.string ⟨#[]⟩, .int .i64 0, .string ⟨#[]⟩]), 3, 40) := by kernel_rfl

theorem three_new (wr : World) (x y z : Value) : ∀ (j : Nat) (u : Value), [x, y, z][j]? = some u → (wr.alloc (.cells #[x, y, z] 79)).cell? ((⟨wr.heap.size, 0, none⟩ : Addr).add j) = some u := by
  intro j u hj
  match j, hj with
  | 0, hj => simp at hj; subst hj; rw [Addr.add_lit, World.cell?_alloc_new]; rfl
  | 1, hj => simp at hj; subst hj; rw [Addr.add_lit, World.cell?_alloc_new]; rfl
  | 2, hj => simp at hj; subst hj; rw [Addr.add_lit, World.cell?_alloc_new]; rfl
  | j + 3, hj => simp at hj

theorem Own.chg {w w' : World} {base b : Nat} {v : Value} {l : List KK} {cs : Array Value} {T : TypeId} (h : Own w base v l) (hc : Chg b w w') (hb : w.heap[b]? = some (.cells cs T (0, 0))) (hT : T ≠ 79) : Own w' base v l := by
  refine h.of_block fun g c hg _ => hc.block g (Array.getElem?_eq_some_iff.1 hg).1 ?_
  rintro rfl
  rw [hb] at hg
  injection hg with hg
  injection hg with _ ht
  exact hT ht
theorem Own.row {w : World} {base : Nat} {v : Value} {l : List KK} (h : Own w base v l) : ∀ g, v.ownBlock = some g → base ≤ g ∧ ∃ cs, w.heap[g]? = some (.cells cs 79 (0, 0)) := by
  intro g hg
  rcases h.2 with ⟨rfl, _⟩ | ⟨g', cap, cur, rfl, hb, hgg, _⟩
  · simp [Value.ownBlock] at hg
  · simp [Value.ownBlock] at hg
    subst hg
    exact ⟨hb, cur, hgg⟩
theorem Own.len {w : World} {base : Nat} {v : Value} {l : List KK} (h : Own w base v l) : sliceLen v = l.length := by
  rcases h.2 with ⟨rfl, hn⟩ | ⟨g, cap, cur, rfl, _⟩
  · rw [hn]; rfl
  · rfl
theorem Chg.grown {w w1 w2 : World} {b : Nat} {v : Value} {l : List KK} {o : Obj} (hc : Chg b w w1) (ho : Own w1 w.heap.size v l) (hg : (w1.alloc o).grownBy w2 v.ownBlock) : Chg b w w2 := by
  refine ⟨hg.os.trans hc.os, hg.output.trans hc.output, ?_, fun k hk hne => ?_⟩
  · have := hg.size; have := hc.size; simp at *; omega
  · have hs := hc.size
    rw [hg.block k (by simp; omega) (fun e => by have := (ho.row k e.symm).1; omega)]
    exact (heap_alloc_old w1 o (show k < w1.heap.size by omega)).trans (hc.block k hk hne)
theorem blkGrown {w1 w2 : World} {base b : Nat} {v : Value} {l : List KK} {o : Obj} {cs : Array Value} {T : TypeId} (hb : w1.heap[b]? = some (.cells cs T (0, 0))) (hT : T ≠ 79) (ho : Own w1 base v l) (hg : (w1.alloc o).grownBy w2 v.ownBlock) : w2.heap[b]? = some (.cells cs T (0, 0)) := by
  have hlt := (Array.getElem?_eq_some_iff.1 hb).1
  rw [hg.block b (by simp; omega) (fun e => by
    obtain ⟨_, c, hc⟩ := ho.row b e.symm
    rw [hb] at hc
    injection hc with hc
    injection hc with _ ht
    exact hT ht)]
  exact (heap_alloc_old w1 o hlt).trans hb

set_option maxRecDepth 100000 in
set_option maxHeartbeats 2000000 in
theorem skipB (b o n0 n : Nat) (th k : List UInt8) (arr : Array Value) (T : TypeId) (hTT : T ≠ 79) (ha : o + 1 < arr.size) (hk : k.length ≤ 64) (hn : n ≤ 70000) (hn0 : n0 ≤ 70000) (hG : 7 < b) (w : World) (hT : Tab w) (hP : w.heap[b]? = some (.cells (chB arr o k n0) T (0, 0))) :
    Calls Tryd.prog 97 #[.pointer (some ⟨b, o, none⟩), .string (str th), .int .i64 (n : Int)] w fun e w' => ∃ v, e = .returned v ∧ Own w' w.heap.size v (skipL th k n0 (n - n0)) ∧ w'.heap[b]? = some (.cells (chB arr o (nxN k (n - n0)) (n0 + (n - n0))) T (0, 0)) ∧ Chg b w w' := by
  obtain ⟨i0, hi, hz0, hz1, hz2⟩ := info_parts Tryd.infoKK
  have HI := hide hi
  have HZ0 := hide hz0
  have HZ1 := hide hz1
  have HZ2 := hide hz2
  have HT := hide hT
  have HP := hide hP
  have HK : Hid (∀ i, (nxN k i).length ≤ 64) := fun i => by cases i with
    | zero => exact hk
    | succ i => exact Nat.le_trans (Nat.le_of_eq (nxK_length _)) (by decide)
  clear hi hz0 hz1 hz2 hT hP hk
  go_enter Tryd.func97, Tryd.ntmps97
  go_wp2
  go_loopw [7] (fun v wr => ∃ i : Nat, i ≤ n - n0 ∧ Own wr w.heap.size v (skipL th k n0 i) ∧ wr.heap[b]? = some (.cells (chB arr o (nxN k i) (n0 + i)) T (0, 0)) ∧ Chg b w wr) (fun v _ => n - n0 - sliceLen v)
  case atStart => exact ⟨0, Nat.zero_le _, World.ownsRow_nil _ _ _ _, HP.out, Chg.of_bel (Bel.refl _ _)⟩
  case round =>
    obtain ⟨i, hi, ho, hP, hC⟩ := hrel
    have hc1 := (cell_of_row wr b (o + 1) _ T (0, 0) hP).trans (chB_1 _ _ _ _ ha)
    have HO := hide ho
    have HPr := hide hP
    have HC := hide hC
    clear ho hP hC
    by_cases hlt : i < n - n0
    · have HX : Hid (skipL th k n0 (i + 1) = skipL th k n0 i ++ [⟨th, n0 + i, mkK (nxN k i)⟩]) := rfl
      have HY : Hid (nxN k (i + 1) = nxK (nxN k i)) := rfl
      have HKi := hide (HK.out i)
      generalize nxN k i = c at *
      go_wp2_with fail
      refine (stepB b o (n0 + i) c arr T ha HKi.out (by omega) _ (HT.out.chg HC.out hG) HPr.out).mono ?_
      rintro e w1 ⟨rfl, hP1, hC1⟩
      have HO1 := hide (HO.out.chg hC1 HPr.out hTT)
      have HC1 := hide (HC.out.trans hC1)
      have HP1 := hide hP1
      clear hP1 hC1 HC HPr
      generalize mkK c = key at *
      rw [← HY.out] at HP1
      go_wp2_with (at_builtin; go_must (refine wpList_append_own _ rfl (.tmp 19) (.tmp 25) 65 rfl w.heap.size 79 i0 (.agg #[.string ⟨#[]⟩, .int .i64 0, .string ⟨#[]⟩]) 3 40 Tryd.underlying65 HI.out HZ0.out HZ1.out HZ2.out rfl (by decide) _ _ _ rfl (World.ownsRow.alloc HO1.out _) ⟨w1.heap.size, 0, none⟩ 1 1 [.string (str th), .int .i64 ((n0 + i : Nat) : Int), .string (str key)] rfl rfl (three_new w1 _ _ _) (by intro u hu; simp at hu; rcases hu with rfl | rfl | rfl <;> rfl) (by rw [skipL_length]; unfold maxLen; omega) (by rw [skipL_length]; omega) (by have := HC1.out.size; simp; omega) ?_); intro v2 w2 ho2 hg2 _)
      have HO2 : Hid (Own w2 w.heap.size v2 (skipL th k n0 (i + 1))) := by
        show Own _ _ _ _
        rw [HX.out]
        unfold Own
        rw [kCells_append, List.length_append]
        exact ho2
      have HC2 := hide (HC1.out.grown HO1.out hg2)
      have HP2 := hide (blkGrown HP1.out hTT HO1.out hg2)
      have l1 := HO.out.len
      have l2 := HO2.out.len
      rw [skipL_length] at l1 l2
      clear ho2 hg2 HO1 HC1 HP1 hc1
      go_wp2
      go_roundw
      case rel => exact ⟨i + 1, by omega, HO2.out, HP2.out, HC2.out⟩
      case measure => simp [l1, l2]; omega
    · have e : i = n - n0 := by omega
      subst e
      go_wp2
      go_ret
      exact ⟨_, rfl, HO.out, HPr.out, HC.out⟩
end Go.Proofs.YtlchpbnpmgfaoaaDoor
namespace Go.Proofs.YtlchpbnpmgfaoaaDoor
open Go.RowKit

theorem Own.cells {w : World} {base g c : Nat} {l : List KK} (h : Own w base (.slice (some ⟨g, 0, none⟩) l.length c) l) : ∀ j u, (kCells l)[j]? = some u → w.cell? ⟨g, j, none⟩ = some u := by
  intro j u hj
  rcases h.2 with ⟨hn, _⟩ | ⟨g', cap, cur, hv, hb, hgg, hle, hcap, hsz, htk⟩
  · cases hn
  · injection hv with h1 h2 h3
    injection h1 with h1
    injection h1 with h1
    subst h1
    rw [cell_of_row w g j cur _ (0, 0) hgg, ← Array.getElem?_toList]
    rw [← htk, List.getElem?_take] at hj
    split at hj
    · exact hj
    · cases hj

set_option maxRecDepth 100000 in
set_option maxHeartbeats 2000000 in
theorem kCloneP (base : Nat) (v : Value) (l : List KK) (hl : l.length ≤ 1000) (w : World) (ho : Own w base v l) :
    Calls Tryd.prog 45 #[v] w fun e w' => ∃ v', e = .returned v' ∧ Own w' w.heap.size v' l ∧ Bel w.heap.size w w' := by
  have q22 : ∀ (w : World) (a : Option Addr) (n c n' c' : Nat), (binOp .eql 65 (.slice a n c) (.slice none n' c')).run Tryd.prog w = .ok (.bool a.isNone) w := fun w a n c n' c' => Lib.run_eql_slice_nil w _ _ a n c n' c' Tryd.underlying65
  rcases ho.2 with ⟨rfl, hn⟩ | ⟨g, cap, cur, rfl, hb, hgg, hle, hcap, hsz, htk⟩
  · have HO : Hid (Own w w.heap.size (.slice none 0 0) l) := ⟨ho.1, .inl ⟨rfl, hn⟩⟩
    clear ho
    go_enter Tryd.func45, Tryd.ntmps45
    go_wp2
    go_ret
    exact ⟨_, rfl, HO.out, Bel.refl _ _⟩
  · obtain ⟨i0, hi, hz0, hz1, hz2⟩ := info_parts Tryd.infoKK
    have HC := hide ho.cells
    have hl3 := kCells_length l
    have HL := hide hl3
    have H1 := hide (kCells_one l)
    clear ho hb hgg hle hcap hsz htk hl3
    generalize hE : kCells l = news at *
    have HE := hide hE
    clear hE
    go_enter Tryd.func45, Tryd.ntmps45
    go_wp2_with (at_builtin; go_must (refine wpList_append_own _ rfl (.tmp 5) (.tmp 6) 65 rfl w.heap.size 79 i0 (.agg #[.string ⟨#[]⟩, .int .i64 0, .string ⟨#[]⟩]) 3 40 Tryd.underlying65 hi hz0 hz1 hz2 rfl (by decide) _ _ _ rfl (World.ownsRow_made w #[] 0 (Nat.le_refl _) (Nat.zero_le _) (by simp)) ⟨g, 0, none⟩ l.length cap news rfl ?qc1 ?qc2 ?qc3 ?qc4 ?qc5 ?qc6 ?_))
    case qc1 => exact HL.out
    case qc2 =>
      intro j u hj
      rw [Addr.add_lit, Nat.zero_add]
      exact Lib.cell?_alloc_some _ (HC.out j u hj)
    case qc3 => exact H1.out
    case qc4 => unfold maxLen; omega
    case qc5 => omega
    case qc6 => simp
    intro v' w1 hown hgrow hnil
    have HB : Hid (Bel w.heap.size w w1) := ((Bel.refl _ w).alloc (Nat.le_refl _) _).grown hgrow (by simp) (by intro k hk; simp [Value.ownBlock] at hk; omega)
    have HO : Hid (Own w1 w.heap.size v' l) := by
      show Own _ _ _ _
      unfold Own
      rw [HE.out]
      exact hown
    clear hown hgrow hnil
    go_wp2
    go_ret
    exact ⟨v', rfl, HO.out, HB.out⟩

def layA (cur : Array Value) (o : Nat) : List Value → Array Value
  | [] => cur
  | v :: r => layA (cur.setIfInBounds o v) (o + 1) r
theorem layA_size : ∀ (vs : List Value) (cur : Array Value) (o : Nat), (layA cur o vs).size = cur.size
  | [], _, _ => rfl
  | v :: r, cur, o => by rw [layA, layA_size r, Array.size_setIfInBounds]
theorem layA_get : ∀ (vs : List Value) (cur : Array Value) (o i : Nat), (layA cur o vs)[i]? = if o ≤ i ∧ i < o + vs.length ∧ i < cur.size then vs[i - o]? else cur[i]?
  | [], cur, o, i => by rw [if_neg (by simp; omega)]; rfl
  | v :: r, cur, o, i => by
    rw [layA, layA_get r, Array.size_setIfInBounds, List.length_cons]
    by_cases h : i = o
    · subst h
      rw [if_neg (by omega), Array.getElem?_setIfInBounds, if_pos rfl, Nat.sub_self]
      by_cases h2 : i < cur.size
      · rw [if_pos h2, if_pos (by omega)]; rfl
      · rw [if_neg h2, if_neg (by omega), Array.getElem?_eq_none (by omega)]
    · rw [Array.getElem?_setIfInBounds_ne (by omega)]
      by_cases h2 : o + 1 ≤ i ∧ i < o + 1 + r.length ∧ i < cur.size
      · rw [if_pos h2, if_pos (by omega), show i - o = (i - (o + 1)) + 1 by omega, List.getElem?_cons_succ]
      · rw [if_neg h2, if_neg (by omega)]
theorem heap_setCells_same (g : Nat) (T : TypeId) : ∀ (vs : List Value) (o : Nat) (w : World) (cs : Array Value), w.heap[g]? = some (.cells cs T (0, 0)) → (w.setCells g o vs).heap[g]? = some (.cells (layA cs o vs) T (0, 0))
  | [], _, _, _, h => h
  | v :: r, o, w, cs, h => by
    rw [World.setCells, layA]
    exact heap_setCells_same g T r (o + 1) _ _ (heap_setCell_same w g o _ T v h)
theorem Chg.setCells {g : Nat} {u : World} : ∀ (vs : List Value) (o : Nat) (w : World), Chg g u w → Chg g u (w.setCells g o vs)
  | [], _, _, h => h
  | v :: r, o, w, h => by rw [World.setCells]; exact Chg.setCells r (o + 1) _ (h.setCell o v)
theorem del_take (l : List KK) (cur : Array Value) (zs : List Value) (n i j : Nat) (hn : l.length = n) (hij : i < j) (hj : j ≤ n) (hcur : cur.toList.take (n * 3) = kCells l) :
    (layA (layA cur (i * 3) (kCells (l.drop j))) ((i + (n - j)) * 3) zs).toList.take ((i + (n - j)) * 3) = kCells (l.take i ++ l.drop j) := by
  have hlen : n * 3 ≤ cur.size := by
    have := congrArg List.length hcur
    rw [List.length_take, kCells_length, Array.length_toList] at this
    omega
  have hc : ∀ t, t < n * 3 → cur[t]? = (kCells l)[t]? := fun t ht => by
    rw [← hcur, List.getElem?_take, if_pos ht, Array.getElem?_toList]
  apply List.ext_getElem?
  intro t
  rw [List.getElem?_take, kCells_append]
  have l1 : (kCells (l.take i)).length = i * 3 := by rw [kCells_length, List.length_take]; omega
  have l2 : (kCells (l.drop j)).length = (n - j) * 3 := by rw [kCells_length, List.length_drop]; omega
  by_cases ht : t < (i + (n - j)) * 3
  · rw [if_pos ht, Array.getElem?_toList, layA_get, if_neg (by omega), layA_get, l2]
    by_cases h2 : t < i * 3
    · rw [if_neg (by omega), List.getElem?_append_left (by omega), hc t (by omega), kCells_take, List.getElem?_take, if_pos h2]
    · rw [if_pos (by omega), List.getElem?_append_right (by omega), l1]
  · rw [if_neg ht, List.getElem?_eq_none (by rw [List.length_append]; omega)]

theorem run_clear3 (w : World) (g o n c : Nat) (cs : Array Value) (h : w.heap[g]? = some (.cells cs 79 (0, 0))) (hn : 0 < n) (ho : o + n * 3 ≤ cs.size) :
    ∃ zs, zs.length = n * 3 ∧ ∀ ty, (Builtin.clear_ #[65] ty #[.slice (some ⟨g, o, none⟩) n c]).run Tryd.prog w = .ok (.tuple #[]) (w.setCells g o zs) := by
  have hv : ∀ w, (zeroValue 79).run Tryd.prog w = .ok (.agg #[.string ⟨#[]⟩, .int .i64 0, .string ⟨#[]⟩]) w := fun w => by kernel_rfl
  obtain ⟨zs, hzs⟩ : ∃ zs, zs = (Builtin.zeroCells (Value.agg #[.string ⟨#[]⟩, .int .i64 0, .string ⟨#[]⟩]).cells n).toList := ⟨_, rfl⟩
  have hzl : zs.length = n * 3 := by rw [hzs]; simp [Builtin.zeroCells, Value.cells]
  have hz1 : ∀ v ∈ zs, v.oneCell' = true := by
    intro v hv'
    rw [hzs] at hv'
    simp [Builtin.zeroCells, Value.cells] at hv'
    obtain ⟨a, _, rfl⟩ := hv'
    have h3 : a % 3 = 0 ∨ a % 3 = 1 ∨ a % 3 = 2 := by omega
    rcases h3 with h3 | h3 | h3 <;> rw [h3] <;> rfl
  have hst := run_storeCells_cells (P := Tryd.prog) g o zs 0 w
    (by intro j hj; rw [cell_of_row w g _ cs _ (0, 0) h]; simp; omega) (by intro j hj; exact frozen_of_row w g _ cs _ h) hz1
  simp only [Nat.add_zero] at hst
  obtain ⟨m, rfl⟩ : ∃ m, n = m + 1 := ⟨n - 1, by omega⟩
  refine ⟨zs, hzl, fun ty => ?_⟩
  simp [Builtin.clear_, run_underlying Tryd.underlying65, hv, ← hzs, hst]

set_option maxRecDepth 100000 in
set_option maxHeartbeats 4000000 in
theorem kDelP (base g cap i j n : Nat) (l : List KK) (hn : l.length = n) (hij : i < j) (hj : j ≤ n) (w : World) (ho : Own w base (.slice (some ⟨g, 0, none⟩) n cap) l) :
    Calls Tryd.prog 94 #[.slice (some ⟨g, 0, none⟩) n cap, .int .i64 (i : Int), .int .i64 (j : Int)] w fun e w' => e = .returned (.slice (some ⟨g, 0, none⟩) (i + (n - j)) cap) ∧ Own w' base (.slice (some ⟨g, 0, none⟩) (i + (n - j)) cap) (l.take i ++ l.drop j) ∧ Chg g w w' := by
  rcases ho.2 with ⟨h0, _⟩ | ⟨g', cap', cur, hv, hb, hgg, hle, hcap, hsz, htk⟩
  · cases h0
  injection hv with h1 h2 h3
  injection h1 with h1
  injection h1 with h1
  subst h1
  subst h3
  rw [hn] at hle htk
  clear h2 ho
  obtain ⟨i0, hi0, hz0, hz1, hz2⟩ := info_parts Tryd.infoKK
  obtain ⟨news, hnews⟩ : ∃ news, news = kCells (l.drop j) := ⟨_, rfl⟩
  have hlen : news.length = (n - j) * 3 := by rw [hnews, kCells_length, List.length_drop, hn]
  have hgd : w.drew.heap[g]? = some (.cells cur 79 (0, 0)) := hgg
  have hcurl : n * 3 ≤ cur.size := by rw [hsz]; exact Nat.mul_le_mul_right 3 hle
  have hget : ∀ t u, news[t]? = some u → w.drew.cell? ⟨g, j * 3 + t, none⟩ = some u := by
    intro t u hu
    have ht : t < (n - j) * 3 := by have := (List.getElem?_eq_some_iff.1 hu).1; rwa [hlen] at this
    rw [cell_of_row w.drew g _ cur _ (0, 0) hgd, ← Array.getElem?_toList]
    rw [hnews, kCells_drop, List.getElem?_drop, ← htk, List.getElem?_take, if_pos (by omega)] at hu
    exact hu
  obtain ⟨A, hA, hsrc⟩ : ∃ A : Addr, (if cap = j then some (⟨g, 0, none⟩ : Addr) else some ⟨g, j * 3, none⟩) = some A ∧ Hid (∀ t u, news[t]? = some u → w.drew.cell? (A.add t) = some u) := by
    by_cases h : cap = j
    · refine ⟨⟨g, 0, none⟩, by simp [h], fun t u hu => ?_⟩
      have h0 : news.length = 0 := by rw [hlen]; omega
      rw [List.length_eq_zero_iff.1 h0] at hu
      simp at hu
    · refine ⟨⟨g, j * 3, none⟩, by simp [h], fun t u hu => ?_⟩
      rw [Addr.add_lit]
      exact hget t u hu
  have s1 : Hid (news.length = (n - j) * 3) := hlen
  have s2 : Hid (∀ u ∈ news, u.oneCell' = true) := by rw [hnews]; exact kCells_one _
  have s3 : Hid (∀ t, t < news.length → (w.drew.cell? ⟨g, 0 + i * 3 + t, none⟩).isSome = true ∧ w.drew.frozen? ⟨g, 0 + i * 3 + t, none⟩ = false) := by
    intro t ht
    rw [hlen] at ht
    refine ⟨?_, frozen_of_row w.drew g _ cur _ hgd⟩
    rw [cell_of_row w.drew g _ cur _ (0, 0) hgd]
    simp
    omega
  obtain ⟨W1, hW1⟩ : ∃ W1, W1 = w.drew.setCells g (0 + i * 3) news := ⟨_, rfl⟩
  have hg1 : W1.heap[g]? = some (.cells (layA cur (i * 3) news) 79 (0, 0)) := by rw [hW1, Nat.zero_add]; exact heap_setCells_same g _ news (i * 3) w.drew cur hgd
  have HC1 : Hid (Chg g w W1) := by rw [hW1]; exact Chg.setCells _ _ _ (Chg.of_bel (Bel.refl _ _)).drew
  obtain ⟨zs, hzl, hcl⟩ := run_clear3 W1 g ((i + (n - j)) * 3) (n - (i + (n - j))) (cap - (i + (n - j))) _ hg1 (by omega) (by rw [layA_size]; omega)
  have hW : Hid (W1 = w.drew.setCells g (0 + i * 3) news) := hW1
  have hic : i ≤ cap := by omega
  have hjc : j ≤ cap := by omega
  have HG1 := hide hg1
  have HTK := hide htk
  have HNEWS := hide hnews
  have HSZ := hide hsz
  have HB := hide hb
  clear hW1 hg1 hgd hgg hget hnews hlen hsz htk hb
  go_enter Tryd.func94, Tryd.ntmps94
  go_wp2_with fail
  go_region_law (refine step_append_room rfl (.tmp 22) (.tmp 25) 65 rfl 79 i0 3 Tryd.underlying65 hi0 hz1 g 0 i cap (by simp [Act.eval, Act.put]) A (n - j) (cap - j) news (by simp [Act.eval, Act.put]) s1.out hsrc.out s2.out (by omega) s3.out ?_; rw [← hW.out])
  go_wp2
  go_ret
  have hD := del_take l cur zs n i j hn hij hj HTK.out
  rw [← HNEWS.out] at hD
  refine ⟨rfl, ⟨?_, .inr ⟨g, cap, layA (layA cur (i * 3) news) ((i + (n - j)) * 3) zs, ?_, HB.out, heap_setCells_same g _ zs _ W1 _ HG1.out, by simp only [List.length_append, List.length_take, List.length_drop]; omega, hcap, by rw [layA_size, layA_size]; exact HSZ.out, ?_⟩⟩, Chg.setCells _ _ _ HC1.out⟩
  · rw [kCells_length]
  · rw [List.length_append, List.length_take, List.length_drop, hn, show min i n + (n - j) = i + (n - j) by omega]
  · rw [List.length_append, List.length_take, List.length_drop, hn, show min i n + (n - j) = i + (n - j) by omega]
    exact hD
end Go.Proofs.YtlchpbnpmgfaoaaDoor
namespace Go.Proofs.YtlchpbnpmgfaoaaDoor
open Go.RowKit

set_option maxRecDepth 100000 in
set_option maxHeartbeats 1000000 in
theorem hitP (k : KK) (th : List UInt8) (n B : Nat) (w : World) (c0 : w.cell? ⟨B, 0, none⟩ = some (.string (str th))) (c2 : w.cell? ⟨B, 2, none⟩ = some (.int .i64 (n : Int))) :
    Calls Tryd.prog 93 #[.agg #[.string (str k.th), .int .i64 (k.n : Int), .string (str k.key)], .pointer (some ⟨B, 0, none⟩)] w fun e w' => e = .returned (.bool (hitK th n k)) ∧ Bel w.heap.size w w' := by
  have hlt : B < w.heap.size := cell_lt c0
  have hne : B ≠ w.heap.size := by omega
  have e1 := str_toList k.th
  have e2 := str_toList th
  have HH : Hid (hitK th n k = (decide (k.th = th) && decide (k.n = n))) := rfl
  by_cases h1 : k.th = th
  · by_cases h2 : k.n = n
    · have b1 : (k.th == th) = true := by rw [h1]; exact beq_self_eq_true _
      rw [h1] at b1
      rw [h2, h1]
      rw [decide_eq_true h1, decide_eq_true h2] at HH
      clear h1 h2
      generalize hitK th n k = r at *
      go_enter Tryd.func93, Tryd.ntmps93
      go_wp2
      go_ret
      exact ⟨by rw [HH.out]; rfl, (Bel.refl _ _).alloc (Nat.le_refl _) _⟩
    · rw [h1]
      have b2 : ((k.n : Int) == (n : Int)) = false := by rw [beq_eq_false_iff_ne]; omega
      rw [decide_eq_true h1, decide_eq_false h2] at HH
      clear h1
      generalize hitK th n k = r at *
      go_enter Tryd.func93, Tryd.ntmps93
      go_wp2
      go_ret
      exact ⟨by rw [HH.out]; rfl, (Bel.refl _ _).alloc (Nat.le_refl _) _⟩
  · have b1 : (k.th == th) = false := by rw [beq_eq_false_iff_ne]; exact h1
    rw [decide_eq_false h1] at HH
    generalize hitK th n k = r at *
    go_enter Tryd.func93, Tryd.ntmps93
    go_wp2
    go_ret
    exact ⟨by rw [HH.out]; rfl, (Bel.refl _ _).alloc (Nat.le_refl _) _⟩

def idxI : Option Nat → Int
  | some i => (i : Int)
  | none => -1
theorem find_hit (l : List KK) (th : List UInt8) (n i : Nat) (hi : i < l.length) (h1 : hitK th n (l.getD i default) = true) (h2 : ∀ j, j < i → hitK th n (l.getD j default) = false) : findK l th n = some i := by
  unfold findK
  rw [List.findIdx?_eq_some_iff_getElem]
  refine ⟨hi, by rw [← getD_in _ default hi]; exact h1, fun j hj => ?_⟩
  rw [← getD_in _ default (show j < l.length by omega), h2 j hj]
  decide
theorem find_miss (l : List KK) (th : List UInt8) (n : Nat) (h2 : ∀ j, j < l.length → hitK th n (l.getD j default) = false) : findK l th n = none := by
  unfold findK
  rw [List.findIdx?_eq_none_iff]
  intro x hx
  obtain ⟨j, hj, rfl⟩ := List.getElem_of_mem hx
  rw [← getD_in _ default hj]
  exact h2 j hj

set_option maxRecDepth 100000 in
set_option maxHeartbeats 2000000 in
theorem kIdxP (base B n : Nat) (v : Value) (l : List KK) (th : List UInt8) (hl : l.length ≤ 1000) (w : World) (ho : Own w base v l) (c0 : w.cell? ⟨B, 0, none⟩ = some (.string (str th))) (c2 : w.cell? ⟨B, 2, none⟩ = some (.int .i64 (n : Int))) :
    Calls Tryd.prog 92 #[v, .func (.func 93) #[] #[.pointer (some ⟨B, 0, none⟩)]] w fun e w' => e = .returned (.int .i64 (idxI (findK l th n))) ∧ Bel w.heap.size w w' := by
  have hlt : B < w.heap.size := cell_lt c0
  rcases ho.2 with ⟨rfl, hn⟩ | ⟨g, cap, cur, rfl, hb, hgg, hle, hcap, hsz, htk⟩
  · have hr : Hid (findK l th n = none) := find_miss l th n (fun j hj => by omega)
    clear ho
    go_enter Tryd.func92, Tryd.ntmps92
    go_wp2
    go_loopw [8] (fun t wr => t = .int .i64 0 ∧ wr = w) (fun _ _ => 0)
    case atStart => exact ⟨rfl, rfl⟩
    case round =>
      obtain ⟨rfl, rfl⟩ := hrel
      go_wp2
      go_ret
      exact ⟨by rw [hr.out]; rfl, Bel.refl _ _⟩
  · have HC := hide ho.cells
    have hgl : g < w.heap.size := (Array.getElem?_eq_some_iff.1 hgg).1
    have HC0 := hide c0
    have HC2 := hide c2
    clear ho hb hgg hle hsz htk c0 c2
    go_enter Tryd.func92, Tryd.ntmps92
    go_wp2
    go_loopw [5, 8] (fun _ t wr => ∃ i : Nat, i ≤ l.length ∧ t = .int .i64 i ∧ Bel w.heap.size w wr ∧ (∀ j, j < i → hitK th n (l.getD j default) = false)) (fun _ t _ => l.length - (intOf t).toNat)
    case atStart => exact ⟨0, Nat.zero_le _, rfl, Bel.refl _ _, fun j hj => by omega⟩
    case round =>
      obtain ⟨i, hi, rfl, hB, hno⟩ := hrel
      have HB := hide hB
      have HN := hide hno
      clear hB hno
      by_cases hil : i < l.length
      · have hk := kCells_get l i hil
        have d0 := (HB.out.cell (p := ⟨g, i * 3, none⟩) hgl).trans (HC.out _ _ hk.1)
        have d1 := (HB.out.cell (p := ⟨g, i * 3 + 1, none⟩) hgl).trans (HC.out _ _ hk.2.1)
        have d2 := (HB.out.cell (p := ⟨g, i * 3 + 2, none⟩) hgl).trans (HC.out _ _ hk.2.2)
        have hz : (i : Int) < (l.length : Int) := by omega
        clear hk
        have HX : Hid (Calls Tryd.prog 93 #[.agg #[.string (str (l.getD i default).th), .int .i64 ((l.getD i default).n : Int), .string (str (l.getD i default).key)], .pointer (some ⟨B, 0, none⟩)] wr fun e w' => e = .returned (.bool (hitK th n (l.getD i default))) ∧ Bel wr.heap.size wr w') := hitP _ th n B wr ((HB.out.cell (p := ⟨B, 0, none⟩) hlt).trans HC0.out) ((HB.out.cell (p := ⟨B, 2, none⟩) hlt).trans HC2.out)
        have HF := hide (fun h1 => find_hit l th n i hil h1 HN.out)
        have HN2 := hide (fun (h1 : hitK th n (l.getD i default) = false) (j : Nat) (hj : j < i + 1) => if e : j = i then (e ▸ h1 : hitK th n (l.getD j default) = false) else HN.out j (by omega))
        generalize hitK th n (l.getD i default) = r at *
        generalize l.getD i default = k at *
        go_wp2_with fail
        refine HX.out.mono ?_
        rintro e w1 ⟨rfl, hb1⟩
        have HB1 := hide (HB.out.trans (hb1.mono HB.out.size))
        clear hb1 HX d0 d1 d2
        cases r with
        | true =>
          have HR := hide (HF.out rfl)
          go_wp2
          go_ret
          exact ⟨by rw [HR.out]; rfl, HB1.out⟩
        | false =>
          have HR := hide (HN2.out rfl)
          go_wp2
          go_roundw
          case rel => exact ⟨i + 1, by omega, by go_num, HB1.out, HR.out⟩
          case measure => simp [intOf]; omega
      · have e : i = l.length := by omega
        subst e
        have HR := hide (find_miss l th n HN.out)
        go_wp2
        go_ret
        exact ⟨by rw [HR.out]; rfl, HB.out⟩
end Go.Proofs.YtlchpbnpmgfaoaaDoor
namespace Go.Proofs.YtlchpbnpmgfaoaaDoor
open Go.RowKit

theorem Env.toTab {w : World} {a : Nat → Addr} (h : Env w a) : Tab w := ⟨h.lt, h.tab⟩

set_option maxRecDepth 100000 in
set_option maxHeartbeats 1000000 in
theorem pureMacLong1 (who n flip : Int) (s t u : List UInt8) (hs : 200 < s.length) (ms : s.length ≤ maxLen) (mt : t.length ≤ maxLen) (a : Nat → Addr) (w : World) (hE : Env w a) :
    Calls Tryd.prog 28 #[.agg #[.int .i64 2, .int .i64 who, .int .i64 n, .int .i64 flip, .string (str s), .string (str t), .string (str u)]] w fun e w' => e = .returned (.bool true) ∧ Bel w.heap.size w w' := by
  have HE := hide hE
  clear hE
  have zs := str_size s
  have zt := str_size t
  have ms' : s.length ≤ 9223372036854775807 := by unfold maxLen at ms; omega
  have mt' : t.length ≤ 9223372036854775807 := by unfold maxLen at mt; omega
  have MS := hide ms
  have MT := hide mt
  clear ms mt
  go_enter Tryd.func28, Tryd.ntmps28
  go_wp2_with fail
  have HB : Hid (Bel w.heap.size w (w.alloc (.cells #[.int .i64 2, .int .i64 who, .int .i64 n, .int .i64 flip, .string (str s), .string (str t), .string (str u)] 52))) := (Bel.refl _ _).alloc (Nat.le_refl _) _
  have c4 : (w.alloc (.cells #[.int .i64 2, .int .i64 who, .int .i64 n, .int .i64 flip, .string (str s), .string (str t), .string (str u)] 52)).cell? ⟨w.heap.size, 4, none⟩ = some (.string (str s)) := by rw [World.cell?_alloc_new]; rfl
  have c5 : (w.alloc (.cells #[.int .i64 2, .int .i64 who, .int .i64 n, .int .i64 flip, .string (str s), .string (str t), .string (str u)] 52)).cell? ⟨w.heap.size, 5, none⟩ = some (.string (str t)) := by rw [World.cell?_alloc_new]; rfl
  have hlt : w.heap.size < (w.alloc (.cells #[.int .i64 2, .int .i64 who, .int .i64 n, .int .i64 flip, .string (str s), .string (str t), .string (str u)] 52)).heap.size := by simp
  generalize w.alloc (.cells #[.int .i64 2, .int .i64 who, .int .i64 n, .int .i64 flip, .string (str s), .string (str t), .string (str u)] 52) = w1 at *
  have HE1 := hide (HE.out.below HB.out)
  refine (rMacLong s t (.inl hs) MS.out MT.out (a 0) _ HE1.out.errs.g0).mono ?_
  rintro e w2 ⟨rfl, hb2⟩
  have c4 : w2.cell? ⟨w.heap.size, 4, none⟩ = some (.string (str s)) := (hb2.cell (p := ⟨w.heap.size, 4, none⟩) hlt).trans c4
  have c5 : w2.cell? ⟨w.heap.size, 5, none⟩ = some (.string (str t)) := (hb2.cell (p := ⟨w.heap.size, 5, none⟩) hlt).trans c5
  have HB2 := hide (HB.out.trans (hb2.mono HB.out.size))
  have HE2 := hide (HE1.out.below hb2)
  clear hb2 HB HE1
  go_wp2_with fail
  refine (code_at 0 (by decide) a _ HE2.out.errs).mono ?_
  rintro e w3 ⟨rfl, rfl⟩
  go_wp2
  go_ret
  exact ⟨rfl, HB2.out.alloc HB2.out.size _⟩

set_option maxRecDepth 100000 in
set_option maxHeartbeats 1000000 in
theorem pureMacLong2 (who n flip : Int) (s t u : List UInt8) (hs : s.length ≤ 200) (ht : 200 < t.length) (ms : s.length ≤ maxLen) (mt : t.length ≤ maxLen) (a : Nat → Addr) (w : World) (hE : Env w a) :
    Calls Tryd.prog 28 #[.agg #[.int .i64 2, .int .i64 who, .int .i64 n, .int .i64 flip, .string (str s), .string (str t), .string (str u)]] w fun e w' => e = .returned (.bool true) ∧ Bel w.heap.size w w' := by
  have HE := hide hE
  clear hE
  have zs := str_size s
  have zt := str_size t
  have ms' : s.length ≤ 9223372036854775807 := by unfold maxLen at ms; omega
  have mt' : t.length ≤ 9223372036854775807 := by unfold maxLen at mt; omega
  have MS := hide ms
  have MT := hide mt
  clear ms mt
  go_enter Tryd.func28, Tryd.ntmps28
  go_wp2_with fail
  have HB : Hid (Bel w.heap.size w (w.alloc (.cells #[.int .i64 2, .int .i64 who, .int .i64 n, .int .i64 flip, .string (str s), .string (str t), .string (str u)] 52))) := (Bel.refl _ _).alloc (Nat.le_refl _) _
  have c4 : (w.alloc (.cells #[.int .i64 2, .int .i64 who, .int .i64 n, .int .i64 flip, .string (str s), .string (str t), .string (str u)] 52)).cell? ⟨w.heap.size, 4, none⟩ = some (.string (str s)) := by rw [World.cell?_alloc_new]; rfl
  have c5 : (w.alloc (.cells #[.int .i64 2, .int .i64 who, .int .i64 n, .int .i64 flip, .string (str s), .string (str t), .string (str u)] 52)).cell? ⟨w.heap.size, 5, none⟩ = some (.string (str t)) := by rw [World.cell?_alloc_new]; rfl
  have hlt : w.heap.size < (w.alloc (.cells #[.int .i64 2, .int .i64 who, .int .i64 n, .int .i64 flip, .string (str s), .string (str t), .string (str u)] 52)).heap.size := by simp
  generalize w.alloc (.cells #[.int .i64 2, .int .i64 who, .int .i64 n, .int .i64 flip, .string (str s), .string (str t), .string (str u)] 52) = w1 at *
  have HE1 := hide (HE.out.below HB.out)
  refine (rMacLong s t (.inr ht) MS.out MT.out (a 0) _ HE1.out.errs.g0).mono ?_
  rintro e w2 ⟨rfl, hb2⟩
  have c4 : w2.cell? ⟨w.heap.size, 4, none⟩ = some (.string (str s)) := (hb2.cell (p := ⟨w.heap.size, 4, none⟩) hlt).trans c4
  have c5 : w2.cell? ⟨w.heap.size, 5, none⟩ = some (.string (str t)) := (hb2.cell (p := ⟨w.heap.size, 5, none⟩) hlt).trans c5
  have HB2 := hide (HB.out.trans (hb2.mono HB.out.size))
  have HE2 := hide (HE1.out.below hb2)
  clear hb2 HB HE1
  go_wp2_with fail
  refine (code_at 0 (by decide) a _ HE2.out.errs).mono ?_
  rintro e w3 ⟨rfl, rfl⟩
  go_wp2
  go_ret
  exact ⟨rfl, HB2.out.alloc HB2.out.size _⟩

set_option maxRecDepth 100000 in
set_option maxHeartbeats 1000000 in
theorem pureMacShort (who n flip : Int) (s t u : List UInt8) (hs : s.length ≤ 200) (ht : t.length ≤ 200) (a : Nat → Addr) (w : World) (hE : Env w a) :
    Calls Tryd.prog 28 #[.agg #[.int .i64 2, .int .i64 who, .int .i64 n, .int .i64 flip, .string (str s), .string (str t), .string (str u)]] w fun e w' => e = .returned (.bool true) ∧ Bel w.heap.size w w' := by
  have HE := hide hE
  clear hE
  have zs := str_size s
  have zt := str_size t
  go_enter Tryd.func28, Tryd.ntmps28
  go_wp2_with fail
  have HB : Hid (Bel w.heap.size w (w.alloc (.cells #[.int .i64 2, .int .i64 who, .int .i64 n, .int .i64 flip, .string (str s), .string (str t), .string (str u)] 52))) := (Bel.refl _ _).alloc (Nat.le_refl _) _
  have c4 : (w.alloc (.cells #[.int .i64 2, .int .i64 who, .int .i64 n, .int .i64 flip, .string (str s), .string (str t), .string (str u)] 52)).cell? ⟨w.heap.size, 4, none⟩ = some (.string (str s)) := by rw [World.cell?_alloc_new]; rfl
  have c5 : (w.alloc (.cells #[.int .i64 2, .int .i64 who, .int .i64 n, .int .i64 flip, .string (str s), .string (str t), .string (str u)] 52)).cell? ⟨w.heap.size, 5, none⟩ = some (.string (str t)) := by rw [World.cell?_alloc_new]; rfl
  have hlt : w.heap.size < (w.alloc (.cells #[.int .i64 2, .int .i64 who, .int .i64 n, .int .i64 flip, .string (str s), .string (str t), .string (str u)] 52)).heap.size := by simp
  generalize w.alloc (.cells #[.int .i64 2, .int .i64 who, .int .i64 n, .int .i64 flip, .string (str s), .string (str t), .string (str u)] 52) = w1 at *
  have HE1 := hide (HE.out.below HB.out)
  refine (rMacShort s t hs ht _ HE1.out.toTab).mono ?_
  rintro e w2 ⟨rfl, hb2⟩
  have c4 : w2.cell? ⟨w.heap.size, 4, none⟩ = some (.string (str s)) := (hb2.cell (p := ⟨w.heap.size, 4, none⟩) hlt).trans c4
  have c5 : w2.cell? ⟨w.heap.size, 5, none⟩ = some (.string (str t)) := (hb2.cell (p := ⟨w.heap.size, 5, none⟩) hlt).trans c5
  have HB2 := hide (HB.out.trans (hb2.mono HB.out.size))
  have HE2 := hide (HE1.out.below hb2)
  clear hb2 HB HE1
  generalize hy : hmac s t = y at *
  have HY := hide hy
  clear hy
  go_wp2_with fail
  refine (macR s t (by omega) (by omega) _).mono ?_
  rintro e w3 ⟨rfl, hb3⟩
  rw [HY.out]
  have HB3 := hide (HB2.out.trans (hb3.mono HB2.out.size))
  clear hb3
  go_wp2
  go_ret
  exact ⟨rfl, HB3.out⟩

theorem pureMac (who n flip : Int) (s t u : List UInt8) (ms : s.length ≤ maxLen) (mt : t.length ≤ maxLen) (a : Nat → Addr) (w : World) (hE : Env w a) :
    Calls Tryd.prog 28 #[.agg #[.int .i64 2, .int .i64 who, .int .i64 n, .int .i64 flip, .string (str s), .string (str t), .string (str u)]] w fun e w' => e = .returned (.bool true) ∧ Bel w.heap.size w w' := by
  by_cases hs : 200 < s.length
  · exact pureMacLong1 who n flip s t u hs ms mt a w hE
  · by_cases ht : 200 < t.length
    · exact pureMacLong2 who n flip s t u (by omega) ht ms mt a w hE
    · exact pureMacShort who n flip s t u (by omega) (by omega) a w hE

end Go.Proofs.YtlchpbnpmgfaoaaDoor
namespace Go.Proofs.YtlchpbnpmgfaoaaDoor
open Go.RowKit

theorem keys1 (k : List UInt8) : keysB [k] = decide (k.length = 32) := by simp [keysB]

set_option maxRecDepth 100000 in
set_option maxHeartbeats 1000000 in
theorem rSealLong (k ad t : List UInt8) (hl : 68 < ad.length ∨ 64 < t.length) (hd : ad.length ≤ maxLen) (ht : t.length ≤ maxLen) (a : Addr) (w : World) (hE : w.cell? ⟨0, 0, none⟩ = some (.iface 160 (.pointer (some a)))) :
    Calls Tryd.prog 17 #[.string (str k), .string (str ad), .string (str t)] w fun e w' => e = .returned (.tuple #[.string ⟨#[]⟩, .iface 160 (.pointer (some a))]) ∧ Bel w.heap.size w w' := by
  have hzd := str_size ad
  have hzt := str_size t
  have hd' : ad.length ≤ 9223372036854775807 := by unfold maxLen at hd; omega
  have ht' : t.length ≤ 9223372036854775807 := by unfold maxLen at ht; omega
  clear hd ht
  by_cases h1 : 68 < ad.length
  · clear hl
    go_enter Tryd.func17, Tryd.ntmps17
    go_wp2_with fail
    go_quiet (fail)
    go_wp2
    go_ret2
    exact ⟨rfl, belowN (Bel.refl _ _) _⟩
  · have h2 : 64 < t.length := by omega
    clear hl
    go_enter Tryd.func17, Tryd.ntmps17
    go_wp2_with fail
    go_quiet (fail)
    go_wp2
    go_ret2
    exact ⟨rfl, belowN (Bel.refl _ _) _⟩

set_option maxRecDepth 100000 in
set_option maxHeartbeats 1000000 in
theorem rSealKey (k ad t : List UInt8) (hd : ad.length ≤ 68) (ht : t.length ≤ 64) (hk : k.length ≠ 32) (hm : k.length ≤ maxLen) (a : Addr) (w : World) (hE : w.cell? ⟨1, 0, none⟩ = some (.iface 160 (.pointer (some a)))) :
    Calls Tryd.prog 17 #[.string (str k), .string (str ad), .string (str t)] w fun e w' => e = .returned (.tuple #[.string ⟨#[]⟩, .iface 160 (.pointer (some a))]) ∧ Bel w.heap.size w w' := by
  have hzd := str_size ad
  have hzt := str_size t
  have HM := hide hm
  have HK : Hid (keysB [k] = false) := by show keysB [k] = false; rw [keys1, decide_eq_false hk]
  have hlt := cell_lt hE
  clear hk hm
  go_enter Tryd.func17, Tryd.ntmps17
  go_wp2_with fail
  refine (areKeysP w.heap.size [k] (by simp) _ (strs1 w k) (by intro s hs; simp at hs; subst hs; exact HM.out)).mono ?_
  rintro e w1 ⟨rfl, rfl⟩
  rw [HK.out]
  have HB : Hid (Bel w.heap.size w (w.alloc (.cells #[.string (str k)] 9))) := (Bel.refl _ _).alloc (Nat.le_refl _) _
  have hE2 : (w.alloc (.cells #[.string (str k)] 9)).cell? ⟨1, 0, none⟩ = some (.iface 160 (.pointer (some a))) := (HB.out.cell (p := ⟨1, 0, none⟩) hlt).trans hE
  clear hE
  generalize w.alloc (.cells #[.string (str k)] 9) = w2 at *
  go_wp2_with fail
  go_quiet (fail)
  go_wp2
  go_ret2
  exact ⟨rfl, belowN HB.out _⟩

set_option maxRecDepth 100000 in
set_option maxHeartbeats 1000000 in
theorem sealTextP (k ad t : List UInt8) (hd : ad.length ≤ 68) (ht : t.length ≤ 64) (hk : k.length = 32) (w : World) (hT : Tab w) :
    Calls Tryd.prog 31 #[.string (str k), .string (str ad), .string (str t)] w fun e w' => e = .returned (.string (str (sealL k ad t))) ∧ Bel w.heap.size w w' := by
  have HT := hide hT
  have HS : Hid (sealL k ad t = boxL (k1 k) t ++ tagL (k2 k) ad (boxL (k1 k) t)) := rfl
  clear hT
  go_enter Tryd.func31, Tryd.ntmps31
  go_wp2_with fail
  refine (sealKeysP k hk _ HT.out).mono ?_
  rintro e w3 ⟨rfl, hb3⟩
  have HB3 := hide hb3
  clear hb3
  have l1 := k1_length k
  have l2 := k2_length k
  generalize k1 k = x1 at *
  generalize k2 k = x2 at *
  go_wp2_with fail
  refine (hiddenP x1 t (by omega) (by omega) _ (HT.out.below HB3.out)).mono ?_
  rintro e w4 ⟨rfl, hb4⟩
  have HB4 := hide (HB3.out.trans (hb4.mono HB3.out.size))
  clear hb4 HB3
  have lb := boxL_length x1 t
  generalize boxL x1 t = b at *
  go_wp2_with fail
  refine (tagP x2 ad b (by omega) (by omega) (by omega) _ (HT.out.below HB4.out)).mono ?_
  rintro e w5 ⟨rfl, hb5⟩
  have HB5 := hide (HB4.out.trans (hb5.mono HB4.out.size))
  clear hb5 HB4
  have lt := tagL_length x2 ad b
  have ha := addS b (tagL x2 ad b) (by omega)
  generalize tagL x2 ad b = g at *
  go_wp2
  go_ret
  refine ⟨?_, HB5.out⟩
  rw [HS.out]
  rfl

set_option maxRecDepth 100000 in
set_option maxHeartbeats 1000000 in
theorem rSealOk (k ad t : List UInt8) (hd : ad.length ≤ 68) (ht : t.length ≤ 64) (hk : k.length = 32) (w : World) (hT : Tab w) :
    Calls Tryd.prog 17 #[.string (str k), .string (str ad), .string (str t)] w fun e w' => e = .returned (.tuple #[.string (str (sealL k ad t)), .nilIface]) ∧ Bel w.heap.size w w' := by
  have hzd := str_size ad
  have hzt := str_size t
  have HK : Hid (keysB [k] = true) := by show keysB [k] = true; rw [keys1, decide_eq_true hk]
  have HT := hide hT
  clear hT
  go_enter Tryd.func17, Tryd.ntmps17
  go_wp2_with fail
  refine (areKeysP w.heap.size [k] (by simp) _ (strs1 w k) (by intro s hs; simp at hs; subst hs; unfold maxLen; omega)).mono ?_
  rintro e w1 ⟨rfl, rfl⟩
  rw [HK.out]
  have HB : Hid (Bel w.heap.size w (w.alloc (.cells #[.string (str k)] 9))) := (Bel.refl _ _).alloc (Nat.le_refl _) _
  generalize w.alloc (.cells #[.string (str k)] 9) = w2 at *
  go_wp2_with fail
  refine (sealTextP k ad t hd ht hk _ (HT.out.below HB.out)).mono ?_
  rintro e w3 ⟨rfl, hb3⟩
  have HB3 := hide (HB.out.trans (hb3.mono HB.out.size))
  clear hb3 HB
  generalize hy : sealL k ad t = y at *
  have HY := hide hy
  clear hy
  go_wp2
  go_ret2
  exact ⟨by rw [HY.out]; rfl, HB3.out⟩
end Go.Proofs.YtlchpbnpmgfaoaaDoor
namespace Go.Proofs.YtlchpbnpmgfaoaaDoor
open Go.RowKit

set_option maxRecDepth 100000 in
set_option maxHeartbeats 1000000 in
theorem rOpenLong (k ad t : List UInt8) (hl : 68 < ad.length ∨ 80 < t.length) (hd : ad.length ≤ maxLen) (ht : t.length ≤ maxLen) (a : Addr) (w : World) (hE : w.cell? ⟨0, 0, none⟩ = some (.iface 160 (.pointer (some a)))) :
    Calls Tryd.prog 18 #[.string (str k), .string (str ad), .string (str t)] w fun e w' => e = .returned (.tuple #[.string ⟨#[]⟩, .iface 160 (.pointer (some a))]) ∧ Bel w.heap.size w w' := by
  have hzd := str_size ad
  have hzt := str_size t
  have hd' : ad.length ≤ 9223372036854775807 := by unfold maxLen at hd; omega
  have ht' : t.length ≤ 9223372036854775807 := by unfold maxLen at ht; omega
  clear hd ht
  by_cases h1 : 68 < ad.length
  · clear hl
    go_enter Tryd.func18, Tryd.ntmps18
    go_wp2_with fail
    go_quiet (fail)
    go_wp2
    go_ret2
    exact ⟨rfl, belowN (Bel.refl _ _) _⟩
  · have h2 : 80 < t.length := by omega
    clear hl
    go_enter Tryd.func18, Tryd.ntmps18
    go_wp2_with fail
    go_quiet (fail)
    go_wp2
    go_ret2
    exact ⟨rfl, belowN (Bel.refl _ _) _⟩

set_option maxRecDepth 100000 in
set_option maxHeartbeats 1000000 in
theorem rOpenKey (k ad t : List UInt8) (hd : ad.length ≤ 68) (ht : t.length ≤ 80) (hk : k.length ≠ 32) (hm : k.length ≤ maxLen) (a : Addr) (w : World) (hE : w.cell? ⟨1, 0, none⟩ = some (.iface 160 (.pointer (some a)))) :
    Calls Tryd.prog 18 #[.string (str k), .string (str ad), .string (str t)] w fun e w' => e = .returned (.tuple #[.string ⟨#[]⟩, .iface 160 (.pointer (some a))]) ∧ Bel w.heap.size w w' := by
  have hzd := str_size ad
  have hzt := str_size t
  have HM := hide hm
  have HK : Hid (keysB [k] = false) := by show keysB [k] = false; rw [keys1, decide_eq_false hk]
  have hlt := cell_lt hE
  clear hk hm
  go_enter Tryd.func18, Tryd.ntmps18
  go_wp2_with fail
  refine (areKeysP w.heap.size [k] (by simp) _ (strs1 w k) (by intro s hs; simp at hs; subst hs; exact HM.out)).mono ?_
  rintro e w1 ⟨rfl, rfl⟩
  rw [HK.out]
  have HB : Hid (Bel w.heap.size w (w.alloc (.cells #[.string (str k)] 9))) := (Bel.refl _ _).alloc (Nat.le_refl _) _
  have hE2 : (w.alloc (.cells #[.string (str k)] 9)).cell? ⟨1, 0, none⟩ = some (.iface 160 (.pointer (some a))) := (HB.out.cell (p := ⟨1, 0, none⟩) hlt).trans hE
  clear hE
  generalize w.alloc (.cells #[.string (str k)] 9) = w2 at *
  go_wp2_with fail
  go_quiet (fail)
  go_wp2
  go_ret2
  exact ⟨rfl, belowN HB.out _⟩

set_option maxRecDepth 100000 in
set_option maxHeartbeats 1000000 in
theorem rOpenShort (k ad t : List UInt8) (hd : ad.length ≤ 68) (ht : t.length < 16) (hk : k.length = 32) (a : Addr) (w : World) (hE : w.cell? ⟨3, 0, none⟩ = some (.iface 160 (.pointer (some a)))) :
    Calls Tryd.prog 18 #[.string (str k), .string (str ad), .string (str t)] w fun e w' => e = .returned (.tuple #[.string ⟨#[]⟩, .iface 160 (.pointer (some a))]) ∧ Bel w.heap.size w w' := by
  have hzd := str_size ad
  have hzt := str_size t
  have HK : Hid (keysB [k] = true) := by show keysB [k] = true; rw [keys1, decide_eq_true hk]
  have hlt := cell_lt hE
  go_enter Tryd.func18, Tryd.ntmps18
  go_wp2_with fail
  refine (areKeysP w.heap.size [k] (by simp) _ (strs1 w k) (by intro s hs; simp at hs; subst hs; unfold maxLen; omega)).mono ?_
  rintro e w1 ⟨rfl, rfl⟩
  rw [HK.out]
  have HB : Hid (Bel w.heap.size w (w.alloc (.cells #[.string (str k)] 9))) := (Bel.refl _ _).alloc (Nat.le_refl _) _
  have hE2 : (w.alloc (.cells #[.string (str k)] 9)).cell? ⟨3, 0, none⟩ = some (.iface 160 (.pointer (some a))) := (HB.out.cell (p := ⟨3, 0, none⟩) hlt).trans hE
  clear hE
  generalize w.alloc (.cells #[.string (str k)] 9) = w2 at *
  go_wp2_with fail
  go_quiet (fail)
  go_wp2
  go_ret2
  exact ⟨rfl, belowN HB.out _⟩

/-- Is the tag that of the box? -/
def goodTag (k ad s : List UInt8) : Prop := s.drop (s.length - 16) = tagL (k2 k) ad (s.take (s.length - 16))
instance (k ad s : List UInt8) : Decidable (goodTag k ad s) := inferInstanceAs (Decidable (_ = _))

set_option maxRecDepth 100000 in
set_option maxHeartbeats 1000000 in
theorem rOpenBad (k ad t : List UInt8) (hd : ad.length ≤ 68) (ht : 16 ≤ t.length) (ht2 : t.length ≤ 80) (hk : k.length = 32) (hg : ¬ goodTag k ad t) (a : Addr) (w : World) (hT : Tab w) (hE : w.cell? ⟨3, 0, none⟩ = some (.iface 160 (.pointer (some a)))) :
    Calls Tryd.prog 18 #[.string (str k), .string (str ad), .string (str t)] w fun e w' => e = .returned (.tuple #[.string ⟨#[]⟩, .iface 160 (.pointer (some a))]) ∧ Bel w.heap.size w w' := by
  have hzd := str_size ad
  have hzt := str_size t
  have HK : Hid (keysB [k] = true) := by show keysB [k] = true; rw [keys1, decide_eq_true hk]
  have hlt := cell_lt hE
  have HT := hide hT
  have HG : Hid (decide (t.drop (t.length - 16) = tagL (k2 k) ad (t.take (t.length - 16))) = false) := decide_eq_false hg
  have HE := hide hE
  clear hT hg hE
  go_enter Tryd.func18, Tryd.ntmps18
  go_wp2_with fail
  refine (areKeysP w.heap.size [k] (by simp) _ (strs1 w k) (by intro s hs; simp at hs; subst hs; unfold maxLen; omega)).mono ?_
  rintro e w1 ⟨rfl, rfl⟩
  rw [HK.out]
  have HB : Hid (Bel w.heap.size w (w.alloc (.cells #[.string (str k)] 9))) := (Bel.refl _ _).alloc (Nat.le_refl _) _
  generalize w.alloc (.cells #[.string (str k)] 9) = w2 at *
  go_wp2_with fail
  refine (sealKeysP k hk _ (HT.out.below HB.out)).mono ?_
  rintro e w3 ⟨rfl, hb3⟩
  have HB3 := hide (HB.out.trans (hb3.mono HB.out.size))
  clear hb3 HB
  have l1 := k1_length k
  have l2 := k2_length k
  generalize k1 k = x1 at *
  generalize k2 k = x2 at *
  have hx := sliceHi t ((t.length : Int) - 16) (t.length - 16) (by omega) (by omega)
  have hy := sliceLo t ((t.length : Int) - 16) (t.length - 16) (by omega) (by omega)
  have lt1 : (t.take (t.length - 16)).length ≤ 64 := by rw [List.length_take]; omega
  have lt2 : (t.drop (t.length - 16)).length = 16 := by rw [List.length_drop]; omega
  generalize t.take (t.length - 16) = b at *
  generalize t.drop (t.length - 16) = given at *
  go_wp2_with fail
  go_quiet (fail)
  go_wp2_with fail
  refine (tagP x2 ad b (by omega) (by omega) (by omega) _ (HT.out.below (belowN HB3.out _))).mono ?_
  rintro e w5 ⟨rfl, hb5⟩
  have HB5 := hide ((belowN HB3.out _).trans (hb5.mono HB3.out.size))
  clear hb5 HB3
  have lt := tagL_length x2 ad b
  go_wp2_with fail
  refine (sameTagP given (tagL x2 ad b) lt2 lt _).mono ?_
  rintro e w6 ⟨rfl, hb6⟩
  have HB6 := hide (HB5.out.trans (hb6.mono HB5.out.size))
  rw [HG.out]
  clear hb6 HB5 hx hy
  have hE6 : w6.cell? ⟨3, 0, none⟩ = some (.iface 160 (.pointer (some a))) := (HB6.out.cell (p := ⟨3, 0, none⟩) hlt).trans HE.out
  go_wp2_with fail
  go_quiet (fail)
  go_wp2
  go_ret2
  exact ⟨rfl, belowN HB6.out _⟩

set_option maxRecDepth 100000 in
set_option maxHeartbeats 1000000 in
theorem rOpenOk (k ad t : List UInt8) (hd : ad.length ≤ 68) (ht : 16 ≤ t.length) (ht2 : t.length ≤ 80) (hk : k.length = 32) (hg : goodTag k ad t) (w : World) (hT : Tab w) :
    Calls Tryd.prog 18 #[.string (str k), .string (str ad), .string (str t)] w fun e w' => e = .returned (.tuple #[.string (str (boxL (k1 k) (t.take (t.length - 16)))), .nilIface]) ∧ Bel w.heap.size w w' := by
  have hzd := str_size ad
  have hzt := str_size t
  have HK : Hid (keysB [k] = true) := by show keysB [k] = true; rw [keys1, decide_eq_true hk]
  have HT := hide hT
  have HG : Hid (decide (t.drop (t.length - 16) = tagL (k2 k) ad (t.take (t.length - 16))) = true) := decide_eq_true hg
  clear hT hg
  obtain ⟨res, hres⟩ : ∃ r, r = boxL (k1 k) (t.take (t.length - 16)) := ⟨_, rfl⟩
  rw [← hres]
  have HRES := hide hres
  clear hres
  go_enter Tryd.func18, Tryd.ntmps18
  go_wp2_with fail
  refine (areKeysP w.heap.size [k] (by simp) _ (strs1 w k) (by intro s hs; simp at hs; subst hs; unfold maxLen; omega)).mono ?_
  rintro e w1 ⟨rfl, rfl⟩
  rw [HK.out]
  have HB : Hid (Bel w.heap.size w (w.alloc (.cells #[.string (str k)] 9))) := (Bel.refl _ _).alloc (Nat.le_refl _) _
  generalize w.alloc (.cells #[.string (str k)] 9) = w2 at *
  go_wp2_with fail
  refine (sealKeysP k hk _ (HT.out.below HB.out)).mono ?_
  rintro e w3 ⟨rfl, hb3⟩
  have HB3 := hide (HB.out.trans (hb3.mono HB.out.size))
  clear hb3 HB
  have l1 := k1_length k
  have l2 := k2_length k
  generalize k1 k = x1 at *
  generalize k2 k = x2 at *
  have hx := sliceHi t ((t.length : Int) - 16) (t.length - 16) (by omega) (by omega)
  have hy := sliceLo t ((t.length : Int) - 16) (t.length - 16) (by omega) (by omega)
  have lt1 : (t.take (t.length - 16)).length ≤ 64 := by rw [List.length_take]; omega
  have lt2 : (t.drop (t.length - 16)).length = 16 := by rw [List.length_drop]; omega
  generalize t.take (t.length - 16) = b at *
  generalize t.drop (t.length - 16) = given at *
  go_wp2_with fail
  go_quiet (fail)
  go_wp2_with fail
  refine (tagP x2 ad b (by omega) (by omega) (by omega) _ (HT.out.below (belowN HB3.out _))).mono ?_
  rintro e w5 ⟨rfl, hb5⟩
  have HB5 := hide ((belowN HB3.out _).trans (hb5.mono HB3.out.size))
  clear hb5 HB3
  have lt := tagL_length x2 ad b
  go_wp2_with fail
  refine (sameTagP given (tagL x2 ad b) lt2 lt _).mono ?_
  rintro e w6 ⟨rfl, hb6⟩
  have HB6 := hide (HB5.out.trans (hb6.mono HB5.out.size))
  rw [HG.out]
  clear hb6 HB5 hx hy
  go_wp2_with fail
  refine (hiddenP x1 b (by omega) (by omega) _ (HT.out.below HB6.out)).mono ?_
  rintro e w7 ⟨rfl, hb7⟩
  have HB7 := hide (HB6.out.trans (hb7.mono HB6.out.size))
  clear hb7 HB6
  go_wp2
  go_ret2
  refine ⟨?_, HB7.out⟩
  rw [HRES.out]
  rfl
end Go.Proofs.YtlchpbnpmgfaoaaDoor
namespace Go.Proofs.YtlchpbnpmgfaoaaDoor
open Go.RowKit

theorem seal_take (k ad t : List UInt8) : (sealL k ad t).take ((sealL k ad t).length - 16) = boxL (k1 k) t := by
  have h : (sealL k ad t).length - 16 = (boxL (k1 k) t).length := by
    unfold sealL; rw [List.length_append, tagL_length]; omega
  rw [h]; unfold sealL
  rw [List.take_left]
theorem seal_drop (k ad t : List UInt8) : (sealL k ad t).drop ((sealL k ad t).length - 16) = tagL (k2 k) ad (boxL (k1 k) t) := by
  have h : (sealL k ad t).length - 16 = (boxL (k1 k) t).length := by
    unfold sealL; rw [List.length_append, tagL_length]; omega
  rw [h]; unfold sealL
  rw [List.drop_left]
theorem sealL_length (k ad t : List UInt8) : (sealL k ad t).length = t.length + 16 := by
  unfold sealL; rw [List.length_append, tagL_length, boxL_length]
theorem seal_good (k ad t : List UInt8) : goodTag k ad (sealL k ad t) := by
  unfold goodTag
  rw [seal_drop, seal_take]
theorem seal_open (k ad t : List UInt8) : boxL (k1 k) ((sealL k ad t).take ((sealL k ad t).length - 16)) = t := by
  rw [seal_take, boxL_twice]

/-- Bit n of a string turned. -/
def flipL (s : List UInt8) (n : Nat) : List UInt8 := ((nums s).set (n / 8) (byteAt s (n / 8) ^^^ 2 ^ (n % 8))).map UInt8.ofNat
theorem flipL_length (s : List UInt8) (n : Nat) : (flipL s n).length = s.length := by simp [flipL, nums_length]
theorem xor_pow_ne (x j : Nat) : x ^^^ 2 ^ j ≠ x := by
  intro h
  have e : x ^^^ (x ^^^ 2 ^ j) = x ^^^ x := by rw [h]
  rw [← Nat.xor_assoc, Nat.xor_self, Nat.zero_xor] at e
  have := Nat.two_pow_pos j
  omega
theorem byteAt_flipL (s : List UInt8) (n : Nat) (h : n / 8 < s.length) : byteAt (flipL s n) (n / 8) ≠ byteAt s (n / 8) := by
  have hl : (n / 8) < (flipL s n).length := by rw [flipL_length]; exact h
  have hx : byteAt s (n / 8) ^^^ 2 ^ (n % 8) < 256 := Nat.xor_lt_two_pow (n := 8) (byteAt_lt _ _) (Nat.pow_lt_pow_right (by decide) (by omega))
  have e : byteAt (flipL s n) (n / 8) = byteAt s (n / 8) ^^^ 2 ^ (n % 8) := by
    have h2 : n / 8 < (nums s).length := by rw [nums_length]; exact h
    generalize hy : byteAt s (n / 8) ^^^ 2 ^ (n % 8) = y at *
    have hu : flipL s n = ((nums s).set (n / 8) y).map UInt8.ofNat := by unfold flipL; rw [hy]
    rw [hu]
    unfold byteAt
    simp [h2]
    omega
  rw [e]
  exact xor_pow_ne _ _
theorem byteAt_flipL_other (s : List UInt8) (n i : Nat) (h : i ≠ n / 8) : byteAt (flipL s n) i = byteAt s i := by
  by_cases hi : i < s.length
  · have h2 : i < (nums s).length := by rw [nums_length]; exact hi
    unfold flipL
    show ((List.map UInt8.ofNat ((nums s).set (n / 8) (byteAt s (n / 8) ^^^ 2 ^ (n % 8)))).getD i 0).toNat = (s.getD i 0).toNat
    simp [Ne.symm h, nums, hi]
  · unfold byteAt
    rw [getD_out _ _ (by rw [flipL_length]; omega), getD_out _ _ (by omega)]
theorem byteAt_take (s : List UInt8) (m i : Nat) (h : i < m) : byteAt (s.take m) i = byteAt s i := by
  unfold byteAt; simp [h]
theorem byteAt_drop (s : List UInt8) (m i : Nat) : byteAt (s.drop m) i = byteAt s (m + i) := by
  unfold byteAt; simp
theorem flip_bad (k ad t : List UInt8) (f : Nat) (hf : f < 128) : ¬ goodTag k ad (flipL (sealL k ad t) (8 * t.length + f)) := by
  intro h
  have hsl := sealL_length k ad t
  have hdiv : (8 * t.length + f) / 8 = t.length + f / 8 := by omega
  have htake : (flipL (sealL k ad t) (8 * t.length + f)).take t.length = boxL (k1 k) t := by
    have e := seal_take k ad t
    rw [hsl, Nat.add_sub_cancel] at e
    rw [← e]
    apply byteAt_inj (by rw [List.length_take, List.length_take, flipL_length])
    intro i hi
    rw [List.length_take, flipL_length, hsl] at hi
    rw [byteAt_take _ _ _ (by omega), byteAt_take _ _ _ (by omega)]
    exact byteAt_flipL_other _ _ _ (by omega)
  unfold goodTag at h
  rw [flipL_length, hsl, Nat.add_sub_cancel, htake] at h
  have e := seal_drop k ad t
  rw [hsl, Nat.add_sub_cancel] at e
  rw [← e] at h
  have hb := congrArg (fun l => byteAt l (f / 8)) h
  simp only [byteAt_drop] at hb
  rw [← hdiv] at hb
  exact byteAt_flipL _ _ (by rw [hdiv, hsl]; omega) hb

set_option maxRecDepth 100000 in
set_option maxHeartbeats 1000000 in
theorem flippedP (s : List UInt8) (n : Nat) (hs : s.length ≤ 1000) (hn : n < 8 * s.length) (w : World) :
    Calls Tryd.prog 19 #[.string (str s), .int .i64 n] w fun e w' => e = .returned (.string (str (flipL s n))) ∧ Bel w.heap.size w w' := by
  obtain ⟨cap, W, hcv, hh, hb, hWs⟩ := convHead s w (by unfold maxLen; omega)
  have cc := hh.cell (n / 8) (by rw [nums_length]; omega)
  have hf := hh.froz (n / 8) (by rw [nums_length]; omega)
  rw [nums_getD] at cc
  have HF : Hid (flipL s n = ((nums s).set (n / 8) (byteAt s (n / 8) ^^^ 2 ^ (n % 8))).map UInt8.ofNat) := rfl
  have lx := byteAt_lt s (n / 8)
  have hp8 : 2 ^ (n % 8) < 256 := Nat.pow_lt_pow_right (a := 2) (m := n % 8) (n := 8) (by decide) (by omega)
  have e := u8x (byteAt s (n / 8)) (2 ^ (n % 8)) lx hp8
  have hset := hh.set (n / 8) (byteAt s (n / 8) ^^^ 2 ^ (n % 8)) (by rw [nums_length]; omega)
  have hcs := convHeadS (c := cap) hset.drew
  rw [List.length_set, nums_length, ← HF.out] at hcs
  have HB := hide hb
  clear hb hh hset
  generalize byteAt s (n / 8) = x at *
  go_enter Tryd.func19, Tryd.ntmps19
  go_wp2
  go_region
  have e3 : (2 : Int) ^ (n % 8) % 256 = ((2 ^ (n % 8) : Nat) : Int) := by
    have h2 : (2 : Int) ^ (n % 8) = ((2 ^ (n % 8) : Nat) : Int) := by rw [Int.natCast_pow]; rfl
    rw [h2]
    generalize 2 ^ (n % 8) = z at *
    omega
  rw [e3, e]
  generalize x ^^^ 2 ^ (n % 8) = y at *
  clear e3 e hcv cc hf
  have HB2 : Hid (Bel w.heap.size w (W.setCell ⟨w.heap.size, n / 8, none⟩ (.int .u8 (y : Int))).drew) := (HB.out.setCell (p := ⟨w.heap.size, n / 8, none⟩) (Nat.le_refl _) _).drew
  generalize (W.setCell ⟨w.heap.size, n / 8, none⟩ (.int .u8 (y : Int))).drew = W2 at *
  go_wp2
  go_ret
  exact ⟨rfl, HB2.out⟩

set_option maxRecDepth 100000 in
set_option maxHeartbeats 1000000 in
theorem sealedLong (k ad t : List UInt8) (flip : Int) (hl : 68 < ad.length ∨ 64 < t.length) (md : ad.length ≤ maxLen) (mt : t.length ≤ maxLen) (a : Nat → Addr) (w : World) (hE : Env w a) :
    Calls Tryd.prog 9 #[.string (str k), .string (str ad), .string (str t), .int .i64 flip] w fun e w' => e = .returned (.bool true) ∧ Bel w.heap.size w w' := by
  have zd := str_size ad
  have zt := str_size t
  have md' : ad.length ≤ 9223372036854775807 := by unfold maxLen at md; omega
  have mt' : t.length ≤ 9223372036854775807 := by unfold maxLen at mt; omega
  have HE := hide hE
  have HL := hide hl
  have MD := hide md
  have MT := hide mt
  clear hE md mt hl
  by_cases h1 : 68 < ad.length
  · go_enter Tryd.func9, Tryd.ntmps9
    go_wp2_with fail
    refine (rSealLong k ad t HL.out MD.out MT.out (a 0) _ HE.out.errs.g0).mono ?_
    rintro e w2 ⟨rfl, hb2⟩
    have HB2 := hide hb2
    have HE2 := hide (HE.out.below hb2)
    clear hb2
    go_wp2_with fail
    refine (code_at 0 (by decide) a _ HE2.out.errs).mono ?_
    rintro e w3 ⟨rfl, rfl⟩
    go_wp2
    go_ret
    exact ⟨rfl, HB2.out.alloc HB2.out.size _⟩
  · have h2 : 64 < t.length := by have := HL.out; omega
    go_enter Tryd.func9, Tryd.ntmps9
    go_wp2_with fail
    refine (rSealLong k ad t HL.out MD.out MT.out (a 0) _ HE.out.errs.g0).mono ?_
    rintro e w2 ⟨rfl, hb2⟩
    have HB2 := hide hb2
    have HE2 := hide (HE.out.below hb2)
    clear hb2
    go_wp2_with fail
    refine (code_at 0 (by decide) a _ HE2.out.errs).mono ?_
    rintro e w3 ⟨rfl, rfl⟩
    go_wp2
    go_ret
    exact ⟨rfl, HB2.out.alloc HB2.out.size _⟩

set_option maxRecDepth 100000 in
set_option maxHeartbeats 1000000 in
theorem sealedKey (k ad t : List UInt8) (flip : Int) (hd : ad.length ≤ 68) (ht : t.length ≤ 64) (hk : k.length ≠ 32) (mk : k.length ≤ maxLen) (a : Nat → Addr) (w : World) (hE : Env w a) :
    Calls Tryd.prog 9 #[.string (str k), .string (str ad), .string (str t), .int .i64 flip] w fun e w' => e = .returned (.bool true) ∧ Bel w.heap.size w w' := by
  have zk := str_size k
  have zd := str_size ad
  have zt := str_size t
  have mk' : k.length ≤ 9223372036854775807 := by unfold maxLen at mk; omega
  have HE := hide hE
  have MK := hide mk
  clear hE mk
  go_enter Tryd.func9, Tryd.ntmps9
  go_wp2_with fail
  refine (rSealKey k ad t hd ht hk MK.out (a 1) _ HE.out.errs.g1).mono ?_
  rintro e w2 ⟨rfl, hb2⟩
  have HB2 := hide hb2
  have HE2 := hide (HE.out.below hb2)
  clear hb2
  go_wp2_with fail
  refine (code_at 1 (by decide) a _ HE2.out.errs).mono ?_
  rintro e w3 ⟨rfl, rfl⟩
  go_wp2
  go_ret
  exact ⟨rfl, HB2.out.alloc HB2.out.size _⟩

set_option maxRecDepth 100000 in
set_option maxHeartbeats 1000000 in
theorem sealedOk (k ad t : List UInt8) (flip : Int) (hd : ad.length ≤ 68) (ht : t.length ≤ 64) (hk : k.length = 32) (a : Nat → Addr) (w : World) (hE : Env w a) :
    Calls Tryd.prog 9 #[.string (str k), .string (str ad), .string (str t), .int .i64 flip] w fun e w' => e = .returned (.bool true) ∧ Bel w.heap.size w w' := by
  have zk := str_size k
  have zd := str_size ad
  have zt := str_size t
  have HE := hide hE
  have ls := sealL_length k ad t
  have zs : (str (sealL k ad t)).size = t.length + 16 := by rw [str_size, ls]
  have HG := hide (seal_good k ad t)
  have HO := hide (seal_open k ad t)
  have HF := hide (flip_bad k ad t)
  clear hE
  go_enter Tryd.func9, Tryd.ntmps9
  go_wp2_with fail
  refine (rSealOk k ad t hd ht hk _ HE.out.toTab).mono ?_
  rintro e w2 ⟨rfl, hb2⟩
  have HB2 := hide hb2
  have HE2 := hide (HE.out.below hb2)
  clear hb2
  generalize sealL k ad t = s at *
  go_wp2_with fail
  refine (rOpenOk k ad s hd (by omega) (by omega) hk HG.out _ HE2.out.toTab).mono ?_
  rintro e w3 ⟨rfl, hb3⟩
  rw [HO.out]
  have HB3 := hide (HB2.out.trans (hb3.mono HB2.out.size))
  have HE3 := hide (HE2.out.below hb3)
  clear hb3 HB2 HE2
  by_cases h1 : flip < 0
  · go_wp2
    go_ret
    exact ⟨rfl, HB3.out⟩
  · by_cases h2 : 128 ≤ flip
    · go_wp2
      go_ret
      exact ⟨rfl, HB3.out⟩
    · obtain ⟨f, rfl⟩ := Int.eq_ofNat_of_zero_le (show 0 ≤ flip by omega)
      have hf : f < 128 := by omega
      clear h1 h2
      go_wp2_with fail
      have e8 : 8 * (t.length : Int) + (f : Int) = ((8 * t.length + f : Nat) : Int) := by omega
      rw [e8]
      clear e8
      refine (flippedP s (8 * t.length + f) (by omega) (by omega) _).mono ?_
      rintro e w4 ⟨rfl, hb4⟩
      have HB4 := hide (HB3.out.trans (hb4.mono HB3.out.size))
      have HE4 := hide (HE3.out.below hb4)
      clear hb4 HB3 HE3
      have HF2 := hide (HF.out f hf)
      have lf := flipL_length s (8 * t.length + f)
      generalize flipL s (8 * t.length + f) = s' at *
      go_wp2_with fail
      refine (rOpenBad k ad s' hd (by omega) (by omega) hk HF2.out (a 3) _ HE4.out.toTab HE4.out.errs.g3).mono ?_
      rintro e w5 ⟨rfl, hb5⟩
      have HB5 := hide (HB4.out.trans (hb5.mono HB4.out.size))
      have HE5 := hide (HE4.out.below hb5)
      clear hb5 HB4 HE4
      go_wp2_with fail
      refine (code_at 3 (by decide) a _ HE5.out.errs).mono ?_
      rintro e w6 ⟨rfl, rfl⟩
      go_wp2
      go_ret
      exact ⟨rfl, HB5.out.alloc HB5.out.size _⟩

theorem sealedAny (k ad t : List UInt8) (flip : Int) (mk : k.length ≤ maxLen) (md : ad.length ≤ maxLen) (mt : t.length ≤ maxLen) (a : Nat → Addr) (w : World) (hE : Env w a) :
    Calls Tryd.prog 9 #[.string (str k), .string (str ad), .string (str t), .int .i64 flip] w fun e w' => e = .returned (.bool true) ∧ Bel w.heap.size w w' := by
  by_cases hl : 68 < ad.length ∨ 64 < t.length
  · exact sealedLong k ad t flip hl md mt a w hE
  by_cases hk : k.length = 32
  · exact sealedOk k ad t flip (by omega) (by omega) hk a w hE
  · exact sealedKey k ad t flip (by omega) (by omega) hk mk a w hE
end Go.Proofs.YtlchpbnpmgfaoaaDoor
namespace Go.Proofs.YtlchpbnpmgfaoaaDoor
open Go.RowKit

def ratchetI : List UInt8 := [114, 97, 116, 99, 104, 101, 116]
def turnD (root sec th : List UInt8) : List UInt8 := hkdf root (x25519 sec th) ratchetI 64
def turnR (root sec th : List UInt8) : List UInt8 := (turnD root sec th).take 32
def turnC (root sec th : List UInt8) : List UInt8 := (turnD root sec th).drop 32
theorem turnD_length (root sec th : List UInt8) : (turnD root sec th).length = 64 := hkdf_length _ _ _ _
theorem turnR_length (root sec th : List UInt8) : (turnR root sec th).length = 32 := by unfold turnR; rw [List.length_take, turnD_length]; rfl
theorem turnC_length (root sec th : List UInt8) : (turnC root sec th).length = 32 := by unfold turnC; rw [List.length_drop, turnD_length]

/-- A party. -/
structure PSt where
  root : List UInt8
  secret : List UInt8
  theirs : List UInt8
  sk : List UInt8
  sn : Nat
  before : Nat
  rk : List UInt8
  rn : Nat
  kept : List KK

def firstS (root th draw : List UInt8) : PSt := ⟨turnR root draw th, draw, th, turnC root draw th, 0, 0, [], 0, []⟩
def secondS (root own : List UInt8) : PSt := ⟨root, own, [], [], 0, 0, [], 0, []⟩

/-- Message number n is reached: its key, and the party behind it. -/
def reachK (st : PSt) (n : Nat) : List UInt8 := mkK (nxN st.rk (n - st.rn))
def reachS (st : PSt) (n : Nat) : PSt := { st with kept := keepL st.kept (skipL st.theirs st.rk st.rn (n - st.rn)), rk := nxN st.rk (n - st.rn + 1), rn := st.rn + (n - st.rn) + 1 }

/-- The elder chain's messages up to number bf are skipped. -/
def elderS (st : PSt) (bf : Nat) : PSt := { st with kept := keepL st.kept (skipL st.theirs st.rk st.rn (bf - st.rn)), rk := nxN st.rk (bf - st.rn), rn := st.rn + (bf - st.rn) }
def elder (st : PSt) (bf : Nat) : PSt := if st.rk = [] then st else elderS st bf
/-- The root moves; the chain that is received begins. -/
def turnIn (st : PSt) (th : List UInt8) : PSt := { st with theirs := th, root := turnR st.root st.secret th, rk := turnC st.root st.secret th, rn := 0 }
def turnOut (st : PSt) (draw : List UInt8) : PSt := { st with secret := draw, before := st.sn, root := turnR st.root draw st.theirs, sk := turnC st.root draw st.theirs, sn := 0 }

/-- What a head makes of a party: an error's number, or a key and the party behind. -/
def planL (st : PSt) (th : List UInt8) (bf n : Nat) (draw : List UInt8) : Except Nat (List UInt8 × PSt) :=
  match findK st.kept th n with
  | some i => .ok ((st.kept.getD i default).key, { st with kept := st.kept.eraseIdx i })
  | none =>
    if th = st.theirs then
      if st.rk = [] ∨ n < st.rn then .error 3
      else if st.rn + 10 < n then .error 4
      else .ok (reachK st n, reachS st n)
    else if (st.rk ≠ [] ∧ st.rn + 10 < bf) ∨ 10 < n then .error 4
    else .ok (reachK (turnIn (elder st bf) th) n, turnOut (reachS (turnIn (elder st bf) th) n) draw)

theorem planL_kept (st : PSt) (th : List UInt8) (bf n : Nat) (draw : List UInt8) (i : Nat) (h : findK st.kept th n = some i) : planL st th bf n draw = .ok ((st.kept.getD i default).key, { st with kept := st.kept.eraseIdx i }) := by
  unfold planL; rw [h]
theorem planL_old (st : PSt) (th : List UInt8) (bf n : Nat) (draw : List UInt8) (h0 : findK st.kept th n = none) (h1 : th = st.theirs) (h2 : st.rk = [] ∨ n < st.rn) : planL st th bf n draw = .error 3 := by
  unfold planL; rw [h0]; exact (if_pos h1).trans (if_pos h2)
theorem planL_far (st : PSt) (th : List UInt8) (bf n : Nat) (draw : List UInt8) (h0 : findK st.kept th n = none) (h1 : th = st.theirs) (h2 : ¬ (st.rk = [] ∨ n < st.rn)) (h3 : st.rn + 10 < n) : planL st th bf n draw = .error 4 := by
  unfold planL; rw [h0]; exact (if_pos h1).trans ((if_neg h2).trans (if_pos h3))
theorem planL_same (st : PSt) (th : List UInt8) (bf n : Nat) (draw : List UInt8) (h0 : findK st.kept th n = none) (h1 : th = st.theirs) (h2 : ¬ (st.rk = [] ∨ n < st.rn)) (h3 : ¬ st.rn + 10 < n) : planL st th bf n draw = .ok (reachK st n, reachS st n) := by
  unfold planL; rw [h0]; exact (if_pos h1).trans ((if_neg h2).trans (if_neg h3))
theorem planL_skip (st : PSt) (th : List UInt8) (bf n : Nat) (draw : List UInt8) (h0 : findK st.kept th n = none) (h1 : th ≠ st.theirs) (h2 : (st.rk ≠ [] ∧ st.rn + 10 < bf) ∨ 10 < n) : planL st th bf n draw = .error 4 := by
  unfold planL; rw [h0]; exact (if_neg h1).trans (if_pos h2)
theorem planL_turn (st : PSt) (th : List UInt8) (bf n : Nat) (draw : List UInt8) (h0 : findK st.kept th n = none) (h1 : th ≠ st.theirs) (h2 : ¬ ((st.rk ≠ [] ∧ st.rn + 10 < bf) ∨ 10 < n)) : planL st th bf n draw = .ok (reachK (turnIn (elder st bf) th) n, turnOut (reachS (turnIn (elder st bf) th) n) draw) := by
  unfold planL; rw [h0]; exact (if_neg h1).trans (if_neg h2)

def two (f : List UInt8) (i : Nat) : Nat := byteAt f i * 256 + byteAt f (i + 1)

def recvL (st : PSt) (ad f draw : List UInt8) : Except Nat (List UInt8 × PSt) :=
  if 32 < ad.length ∨ 116 < f.length then .error 0
  else if draw.length ≠ 32 then .error 1
  else if f.length < 52 then .error 2
  else match planL st (f.take 32) (two f 32) (two f 34) draw with
    | .error e => .error e
    | .ok (key, st') => if goodTag key (ad ++ f.take 36) (f.drop 36) then .ok (boxL (k1 key) ((f.drop 36).take ((f.drop 36).length - 16)), st') else .error 3

def hdL (st : PSt) : List UInt8 := x25519 st.secret nine ++ bigB st.before 2 ++ bigB st.sn 2
def stepS (st : PSt) : PSt := { st with sk := nxK st.sk, sn := st.sn + 1 }
def frameL (st : PSt) (ad t : List UInt8) : List UInt8 := hdL st ++ sealL (mkK st.sk) (ad ++ hdL st) t
def sendL (st : PSt) (ad t : List UInt8) : Except Nat (List UInt8 × PSt) :=
  if 32 < ad.length ∨ 64 < t.length then .error 0
  else if st.sk = [] then .error 5
  else if 30 ≤ st.sn then .error 6
  else .ok (frameL st ad t, stepS st)

/-- What is so of every party that was made. -/
structure PSt.Wf (st : PSt) : Prop where
  root : st.root.length = 32
  secret : st.secret.length = 32
  theirs : st.theirs = [] ∨ st.theirs.length = 32
  sk : st.sk = [] ∨ st.sk.length = 32
  sn : st.sn ≤ 30
  before : st.before ≤ 30
  rk : st.rk = [] ∨ st.rk.length = 32
  rn : st.rn ≤ 65536
  rt : st.rk ≠ [] → st.theirs.length = 32
  kept : st.kept.length ≤ 16
  keys : ∀ k ∈ st.kept, k.key.length = 32 ∧ k.n ≤ 65536

theorem skipL_keys (th c : List UInt8) (i : Nat) : ∀ k, ∀ x ∈ skipL th c i k, x.key.length = 32 ∧ x.n < i + k
  | 0 => by intro x hx; cases hx
  | k + 1 => by
    intro x hx
    rw [skipL, List.mem_append] at hx
    rcases hx with hx | hx
    · have := skipL_keys th c i k x hx
      exact ⟨this.1, by omega⟩
    · simp at hx; subst hx; exact ⟨mkK_length _, by show i + k < _; omega⟩
theorem keepL_keys {P : KK → Prop} (kept sk : List KK) (h1 : ∀ x ∈ kept, P x) (h2 : ∀ x ∈ sk, P x) : ∀ x ∈ keepL kept sk, P x := by
  intro x hx
  have := List.mem_of_mem_drop hx
  rw [List.mem_append] at this
  exact this.elim (h1 x) (h2 x)

theorem Wf.first (root th draw : List UInt8) (ht : th.length = 32) (hd : draw.length = 32) : (firstS root th draw).Wf :=
  ⟨turnR_length _ _ _, hd, .inr ht, .inr (turnC_length _ _ _), Nat.zero_le _, Nat.zero_le _, .inl rfl, Nat.zero_le _, fun h => absurd rfl h, Nat.zero_le _, fun k hk => by cases hk⟩
theorem Wf.second (root own : List UInt8) (hr : root.length = 32) (ho : own.length = 32) : (secondS root own).Wf :=
  ⟨hr, ho, .inl rfl, .inl rfl, Nat.zero_le _, Nat.zero_le _, .inl rfl, Nat.zero_le _, fun h => absurd rfl h, Nat.zero_le _, fun k hk => by cases hk⟩
theorem PSt.Wf.step {st : PSt} (h : st.Wf) (hn : st.sn < 30) : (stepS st).Wf :=
  ⟨h.root, h.secret, h.theirs, .inr (nxK_length _), hn, h.before, h.rk, h.rn, h.rt, h.kept, h.keys⟩
theorem PSt.Wf.reach {st : PSt} (h : st.Wf) (n : Nat) (hn : n < 65536) (hr : st.rn ≤ n) (hk : st.rk ≠ []) : (reachS st n).Wf := by
  have hl : st.rk.length = 32 := h.rk.resolve_left hk
  refine ⟨h.root, h.secret, h.theirs, h.sk, h.sn, h.before, .inr (nxN_length _ hl _), ?_, fun _ => h.rt hk, keepL_length _ _, ?_⟩
  · show st.rn + (n - st.rn) + 1 ≤ 65536; omega
  · exact keepL_keys _ _ h.keys (fun x hx => by have := skipL_keys _ _ _ _ x hx; exact ⟨this.1, by omega⟩)
theorem PSt.Wf.elderS {st : PSt} (h : st.Wf) (bf : Nat) (hb : bf < 65536) (hk : st.rk ≠ []) : (elderS st bf).Wf := by
  have hl : st.rk.length = 32 := h.rk.resolve_left hk
  have hrn := h.rn
  refine ⟨h.root, h.secret, h.theirs, h.sk, h.sn, h.before, .inr (nxN_length _ hl _), ?_, fun _ => h.rt hk, keepL_length _ _, ?_⟩
  · show st.rn + (bf - st.rn) ≤ 65536; omega
  · exact keepL_keys _ _ h.keys (fun x hx => by have := skipL_keys _ _ _ _ x hx; exact ⟨this.1, by omega⟩)
theorem PSt.Wf.elder {st : PSt} (h : st.Wf) (bf : Nat) (hb : bf < 65536) : (elder st bf).Wf := by
  unfold Go.Proofs.YtlchpbnpmgfaoaaDoor.elder
  split
  · exact h
  · rename_i hk; exact h.elderS bf hb hk
theorem PSt.Wf.turnIn {st : PSt} (h : st.Wf) (th : List UInt8) (ht : th.length = 32) : (turnIn st th).Wf :=
  ⟨turnR_length _ _ _, h.secret, .inr ht, h.sk, h.sn, h.before, .inr (turnC_length _ _ _), Nat.zero_le _, fun _ => ht, h.kept, h.keys⟩
theorem PSt.Wf.turnOut {st : PSt} (h : st.Wf) (draw : List UInt8) (hd : draw.length = 32) : (turnOut st draw).Wf :=
  ⟨turnR_length _ _ _, hd, h.theirs, .inr (turnC_length _ _ _), Nat.zero_le _, h.sn, h.rk, h.rn, h.rt, h.kept, h.keys⟩
theorem turnIn_rk (st : PSt) (th : List UInt8) : (turnIn st th).rk ≠ [] := by
  intro h
  have := turnC_length st.root st.secret th
  rw [show turnC st.root st.secret th = [] from h] at this
  cases this
theorem PSt.Wf.plan {st : PSt} (h : st.Wf) (th : List UInt8) (bf n : Nat) (draw : List UInt8) (ht : th.length = 32) (hb : bf < 65536) (hn : n < 65536) (hd : draw.length = 32) {key : List UInt8} {st' : PSt} (he : planL st th bf n draw = .ok (key, st')) : st'.Wf ∧ key.length = 32 := by
  unfold planL at he
  split at he
  · rename_i i hi
    have hlt : i < st.kept.length := (List.findIdx?_eq_some_iff_getElem.1 hi).1
    injection he with he
    injection he with h1 h2
    subst h1; subst h2
    refine ⟨⟨h.root, h.secret, h.theirs, h.sk, h.sn, h.before, h.rk, h.rn, h.rt, ?_, fun k hk => h.keys k (List.mem_of_mem_eraseIdx hk)⟩, ?_⟩
    · exact Nat.le_trans (by simp [List.length_eraseIdx, hlt]) h.kept
    · exact (h.keys _ (by rw [getD_in _ _ hlt]; exact List.getElem_mem _)).1
  · split at he
    · split at he
      · cases he
      · split at he
        · cases he
        · rename_i h1 h2
          injection he with he
          injection he with h3 h4
          subst h3; subst h4
          have h5 : st.rk ≠ [] := fun e => h1 (.inl e)
          have h6 : st.rn ≤ n := by omega
          exact ⟨h.reach n hn h6 h5, mkK_length _⟩
    · split at he
      · cases he
      · injection he with he
        injection he with h3 h4
        subst h3; subst h4
        exact ⟨(((h.elder bf hb).turnIn th ht).reach n hn (Nat.zero_le _) (turnIn_rk _ _)).turnOut draw hd, mkK_length _⟩
theorem two_lt (f : List UInt8) (i : Nat) : two f i < 65536 := by
  have := byteAt_lt f i
  have := byteAt_lt f (i + 1)
  unfold two
  omega
theorem PSt.Wf.recv {st : PSt} (h : st.Wf) (ad f draw : List UInt8) {t : List UInt8} {st' : PSt} (he : recvL st ad f draw = .ok (t, st')) : st'.Wf := by
  unfold recvL at he
  split at he
  · cases he
  · split at he
    · cases he
    · split at he
      · cases he
      · rename_i h1 h2 h3
        split at he
        · cases he
        · rename_i key s hp
          split at he
          · injection he with he
            injection he with h4 h5
            subst h5
            exact (h.plan _ _ _ _ (by rw [List.length_take]; omega) (two_lt _ _) (two_lt _ _) (by omega) hp).1
          · cases he
end Go.Proofs.YtlchpbnpmgfaoaaDoor
namespace Go.Proofs.YtlchpbnpmgfaoaaDoor
open Go.RowKit

def pCells (st : PSt) (v : Value) : Array Value := #[.string (str st.root), .string (str st.secret), .string (str st.theirs), .string (str st.sk), .int .i64 (st.sn : Int), .int .i64 (st.before : Int), .string (str st.rk), .int .i64 (st.rn : Int), v]
def PBlk (w : World) (b : Nat) (st : PSt) (v : Value) : Prop := w.heap[b]? = some (.cells (pCells st v) 67 (0, 0))
theorem PBlk.lt {w : World} {b : Nat} {st : PSt} {v : Value} (h : PBlk w b st v) : b < w.heap.size := (Array.getElem?_eq_some_iff.1 h).1
theorem PBlk.cell {w : World} {b : Nat} {st : PSt} {v : Value} (h : PBlk w b st v) (i : Nat) : w.cell? ⟨b, i, none⟩ = (pCells st v)[i]? := cell_of_row w b i _ _ (0, 0) h
theorem PBlk.frozen {w : World} {b : Nat} {st : PSt} {v : Value} (h : PBlk w b st v) (i : Nat) : w.frozen? ⟨b, i, none⟩ = false := frozen_of_row w b i _ _ h
/-- A party at block b; its kept keys lie at base or behind. -/
def PAt (w : World) (base b : Nat) (st : PSt) : Prop := ∃ v, PBlk w b st v ∧ Own w base v st.kept
theorem PAt.lt {w : World} {base b : Nat} {st : PSt} (h : PAt w base b st) : b < w.heap.size := h.choose_spec.1.lt
theorem PAt.base {w : World} {base base' b : Nat} {st : PSt} (h : PAt w base b st) (hb : base' ≤ base) : PAt w base' b st := ⟨h.choose, h.choose_spec.1, h.choose_spec.2.base hb⟩

/-- What another party has stays. -/
theorem PAt.chg {w w' : World} {base b b' : Nat} {st st' : PSt} {base' : Nat} (h : PAt w base b st) (h' : PAt w base' b' st') (hc : Chg b' w w') (hne : b ≠ b') : PAt w' base b st := by
  obtain ⟨v, hp, ho⟩ := h
  refine ⟨v, (hc.block b hp.lt hne).trans hp, ho.of_block fun g cs hg _ => hc.block g (Array.getElem?_eq_some_iff.1 hg).1 ?_⟩
  rintro rfl
  obtain ⟨v', hp', _⟩ := h'
  rw [hp'] at hg
  injection hg with hg
  injection hg with _ ht
  cases ht
theorem PAt.below {w w' : World} {base b : Nat} {st : PSt} (h : PAt w base b st) (hb : Bel w.heap.size w w') : PAt w' base b st := by
  obtain ⟨v, hp, ho⟩ := h
  exact ⟨v, (hb.block b hp.lt).trans hp, ho.of_block fun g cs hg _ => hb.block g (Array.getElem?_eq_some_iff.1 hg).1⟩
theorem PBlk.below {w w' : World} {b : Nat} {st : PSt} {v : Value} (h : PBlk w b st v) (hb : Bel w.heap.size w w') : PBlk w' b st v := (hb.block b h.lt).trans h
theorem Own.below {w w' : World} {base : Nat} {v : Value} {l : List KK} (h : Own w base v l) (hb : Bel w.heap.size w w') : Own w' base v l := h.of_block fun g _ hg _ => hb.block g (Array.getElem?_eq_some_iff.1 hg).1
/-- Cells of party b are written: the row stays. -/
theorem Own.set {w : World} {base b : Nat} {v : Value} {l : List KK} {st : PSt} {u : Value} (h : Own w base v l) (hp : PBlk w b st u) (o : Nat) (x : Value) : Own (w.setCell ⟨b, o, none⟩ x) base v l := by
  refine h.of_block fun g cs hg _ => heap_setCell_other w _ g x ?_
  rintro rfl
  unfold PBlk at hp
  rw [hp] at hg
  injection hg with hg
  injection hg with _ ht
  cases ht
theorem PBlk.set {w : World} {b : Nat} {st : PSt} {v : Value} (h : PBlk w b st v) (o : Nat) (x : Value) (st' : PSt) (v' : Value) (he : (pCells st v).setIfInBounds o x = pCells st' v') : PBlk (w.setCell ⟨b, o, none⟩ x) b st' v' := by
  unfold PBlk
  rw [heap_setCell_same w b o _ _ x h, he]
end Go.Proofs.YtlchpbnpmgfaoaaDoor
namespace Go.Proofs.YtlchpbnpmgfaoaaDoor
open Go.RowKit

theorem PBlk.all {w : World} {b : Nat} {st : PSt} {v : Value} (h : PBlk w b st v) : w.cell? ⟨b, 0, none⟩ = some (.string (str st.root)) ∧ w.cell? ⟨b, 1, none⟩ = some (.string (str st.secret)) ∧ w.cell? ⟨b, 2, none⟩ = some (.string (str st.theirs)) ∧
    w.cell? ⟨b, 3, none⟩ = some (.string (str st.sk)) ∧ w.cell? ⟨b, 4, none⟩ = some (.int .i64 (st.sn : Int)) ∧ w.cell? ⟨b, 5, none⟩ = some (.int .i64 (st.before : Int)) ∧ w.cell? ⟨b, 6, none⟩ = some (.string (str st.rk)) ∧ w.cell? ⟨b, 7, none⟩ = some (.int .i64 (st.rn : Int)) ∧ w.cell? ⟨b, 8, none⟩ = some v :=
  ⟨h.cell 0, h.cell 1, h.cell 2, h.cell 3, h.cell 4, h.cell 5, h.cell 6, h.cell 7, h.cell 8⟩

theorem Tryd.sizeParty : (Tryd.prog.info? 67).map (·.size) = some 9 := by kernel_rfl
theorem Own.form {w : World} {base : Nat} {v : Value} {l : List KK} (h : Own w base v l) : ∃ ao c, v = .slice ao l.length c := by
  rcases h.2 with ⟨rfl, hn⟩ | ⟨g, cap, cur, rfl, _⟩
  · exact ⟨none, 0, by rw [hn]⟩
  · exact ⟨_, _, rfl⟩
theorem pAt_set {w : World} {base b : Nat} {st : PSt} {v v' : Value} {l : List KK} (hP : PBlk w b st v) (hO : Own w base v' l) : PAt (w.setCell ⟨b, 8, none⟩ v') base b { st with kept := l } :=
  ⟨v', hP.set 8 v' _ _ rfl, hO.set hP 8 v'⟩

set_option maxRecDepth 100000 in
set_option maxHeartbeats 2000000 in
theorem copyP (base b : Nat) (st : PSt) (hk : st.kept.length ≤ 1000) (w : World) (hp : PAt w base b st) :
    Calls Tryd.prog 26 #[.pointer (some ⟨b, 0, none⟩)] w fun e w' => e = .returned (.pointer (some ⟨w.heap.size, 0, none⟩)) ∧ PAt w' w.heap.size w.heap.size st ∧ Bel w.heap.size w w' := by
  obtain ⟨v, hP, hO⟩ := hp
  obtain ⟨ao, c, rfl⟩ := hO.form
  have hlt := hP.lt
  have hne : b ≠ w.heap.size := by omega
  obtain ⟨c0, c1, c2, c3, c4, c5, c6, c7, c8⟩ := hP.all
  have HP := hide hP
  have HO := hide hO
  clear hP hO
  go_enter Tryd.func26, Tryd.ntmps26
  go_wp2_with fail
  have HB1 : Hid (Bel w.heap.size w (w.alloc (.cells (pCells st (.slice ao st.kept.length c)) 67))) := (Bel.refl _ _).alloc (Nat.le_refl _) _
  have HK1 : Hid (PBlk (w.alloc (.cells (pCells st (.slice ao st.kept.length c)) 67)) w.heap.size st (.slice ao st.kept.length c)) := heap_alloc_new w _
  clear c0 c1 c2 c3 c4 c5 c6 c7 c8
  unfold pCells at HB1 HK1
  generalize w.alloc (.cells #[.string (str st.root), .string (str st.secret), .string (str st.theirs), .string (str st.sk), .int .i64 (st.sn : Int), .int .i64 (st.before : Int), .string (str st.rk), .int .i64 (st.rn : Int), .slice ao st.kept.length c] 67) = w1 at *
  refine (kCloneP base _ st.kept hk _ (HO.out.below HB1.out)).mono ?_
  rintro e w2 ⟨v', rfl, ho2, hb2⟩
  have HB2 := hide (HB1.out.trans (hb2.mono HB1.out.size))
  have HK2 := hide (HK1.out.below hb2)
  have d := HK2.out.all.2.2.2.2.2.2.2.2
  have df := HK2.out.frozen 8
  have HO2 := hide (ho2.base HB1.out.size)
  obtain ⟨ao', c', rfl⟩ := ho2.form
  clear hb2 ho2
  go_wp2
  go_ret
  exact ⟨rfl, pAt_set HK2.out HO2.out, HB2.out.setCell (Nat.le_refl _) _⟩

set_option maxRecDepth 100000 in
set_option maxHeartbeats 2000000 in
theorem copyNone (w : World) : Calls Tryd.prog 26 #[.pointer none] w fun e w' => e = .returned (.pointer none) ∧ w' = w := by
  go_enter Tryd.func26, Tryd.ntmps26
  go_wp2
  go_ret
  exact ⟨rfl, rfl⟩
end Go.Proofs.YtlchpbnpmgfaoaaDoor
namespace Go.Proofs.YtlchpbnpmgfaoaaDoor
open Go.RowKit

theorem blkKept {w1 w2 : World} {base b : Nat} {v : Value} {l : List KK} {cs : Array Value} {T : TypeId} (hb : w1.heap[b]? = some (.cells cs T (0, 0))) (hT : T ≠ 79) (ho : Own w1 base v l) (hg : w1.grownBy w2 v.ownBlock) : w2.heap[b]? = some (.cells cs T (0, 0)) := by
  have hlt := (Array.getElem?_eq_some_iff.1 hb).1
  rw [hg.block b hlt (fun e => by
    obtain ⟨_, c, hc⟩ := ho.row b e.symm
    rw [hb] at hc
    injection hc with hc
    injection hc with _ ht
    exact hT ht)]
  exact hb
theorem PBlk.chgO {w w' : World} {g b : Nat} {st : PSt} {v u : Value} {base : Nat} {l : List KK} (h : PBlk w b st v) (ho : Own w base u l) (hu : u.ownBlock = some g) (hc : Chg g w w') : PBlk w' b st v := by
  refine (hc.block b h.lt ?_).trans h
  rintro rfl
  obtain ⟨_, c, hcc⟩ := ho.row _ hu
  unfold PBlk at h
  rw [h] at hcc
  injection hcc with hcc
  injection hcc with _ ht
  cases ht

theorem Own.formP {w : World} {base : Nat} {v : Value} {l : List KK} (h : Own w base v l) (h0 : 0 < l.length) : ∃ g c, v = .slice (some ⟨g, 0, none⟩) l.length c := by
  rcases h.2 with ⟨rfl, hn⟩ | ⟨g, cap, cur, rfl, _⟩
  · omega
  · exact ⟨_, _, rfl⟩

theorem Own.form2 {w : World} {base : Nat} {v : Value} {a c : List KK} (h : Own w base v (a ++ c)) : ∃ ao k, v = .slice ao (a.length + c.length) k := by
  have := h.form
  rwa [List.length_append] at this
theorem Own.form3 {w : World} {base : Nat} {v : Value} {a c : List KK} (h : Own w base v (a ++ c)) (h0 : 0 < a.length + c.length) : ∃ g k, v = .slice (some ⟨g, 0, none⟩) (a.length + c.length) k := by
  have := h.formP (by rw [List.length_append]; exact h0)
  rwa [List.length_append] at this
theorem keepMid {w w2 : World} {base b : Nat} {st : PSt} {sk : List KK} {v v2 : Value} {news : List Value} (hP : PBlk w b st v) (hO : Own w base v st.kept) (hA : kCells (st.kept ++ sk) = kCells st.kept ++ news)
    (ho2 : w2.ownsRow base 79 3 v2 (st.kept.length + sk.length) (kCells st.kept ++ news)) (hg2 : w.grownBy w2 v.ownBlock) (hbs : base ≤ w.heap.size) :
    Hid (PBlk w2 b st v) ∧ Hid (Own w2 base v2 (st.kept ++ sk)) ∧ Hid (Bel base w w2) ∧ w2.cell? ⟨b, 8, none⟩ = some v ∧ w2.frozen? ⟨b, 8, none⟩ = false := by
  have h1 : PBlk w2 b st v := blkKept hP (by decide) hO hg2
  refine ⟨h1, ?_, (Bel.refl _ _).grown hg2 hbs (fun k hk => (hO.row k hk).1), h1.all.2.2.2.2.2.2.2.2, h1.frozen 8⟩
  show Own _ _ _ _
  unfold Own
  rw [hA, List.length_append]
  exact ho2

set_option maxRecDepth 100000 in
set_option maxHeartbeats 4000000 in
theorem keepP (base b : Nat) (st : PSt) (sk : List KK) (sv : Value) (hk : st.kept.length ≤ 1000) (hs : sk.length ≤ 70000) (w : World) (hp : PAt w base b st) (ho : Own w base sv sk) (hB : base ≤ b) :
    Calls Tryd.prog 96 #[.pointer (some ⟨b, 0, none⟩), sv] w fun e w' => e = .returned (.tuple #[]) ∧ PAt w' base b { st with kept := keepL st.kept sk } ∧ Bel base w w' := by
  obtain ⟨v, hP, hO⟩ := hp
  have hlt := hP.lt
  obtain ⟨c0, c1, c2, c3, c4, c5, c6, c7, c8⟩ := hP.all
  have HP := hide hP
  have HO := hide hO
  clear hP hO c0 c1 c2 c3 c4 c5 c6 c7
  obtain ⟨i0, hi, hz0, hz1, hz2⟩ := info_parts Tryd.infoKK
  have HI := hide hi
  have hbs : base ≤ w.heap.size := by omega
  rcases ho.2 with ⟨rfl, hn⟩ | ⟨g, cap, cur, rfl, hb, hgg, hle, hcap, hsz, htk⟩
  · have hn0 : sk = [] := List.length_eq_zero_iff.1 hn
    have hl0 : sk.length = 0 := hn
    clear ho
    by_cases hab : st.kept.length ≤ 16
    · obtain ⟨ao, c, rfl⟩ := HO.out.form
      have HR : Hid (keepL st.kept sk = st.kept) := by
        show keepL st.kept sk = _
        unfold keepL
        rw [hn0, List.append_nil, show st.kept.length - 16 = 0 by omega, List.drop_zero]
      have f8 := HP.out.frozen 8
      have HF := hide (pAt_set HP.out HO.out)
      have HB3 := hide ((Bel.refl base w).setCell (p := ⟨b, 8, none⟩) hB (.slice ao st.kept.length c))
      go_enter Tryd.func96, Tryd.ntmps96
      go_wp2_with (at_builtin; go_must (refine wpList_append_own_none rfl (.tmp 9) (.tmp 10) 65 rfl base 79 i0 3 Tryd.underlying65 HI.out _ _ _ rfl HO.out rfl ?_))
      go_end0
      rw [HR.out]
      exact ⟨rfl, HF.out, HB3.out⟩
    · obtain ⟨g2, c, rfl⟩ := HO.out.formP (by omega)
      have HR : Hid (keepL st.kept sk = st.kept.take 0 ++ st.kept.drop (st.kept.length - 16)) := by
        show keepL st.kept sk = _
        unfold keepL
        rw [hn0, List.append_nil, List.take_zero, List.nil_append]
      have f8 := HP.out.frozen 8
      have HP3 : Hid (PBlk (w.setCell ⟨b, 8, none⟩ (.slice (some ⟨g2, 0, none⟩) st.kept.length c)) b st (.slice (some ⟨g2, 0, none⟩) st.kept.length c)) := HP.out.set 8 _ _ _ rfl
      have HO3 := hide (HO.out.set HP.out 8 (.slice (some ⟨g2, 0, none⟩) st.kept.length c))
      have HB3 := hide ((Bel.refl base w).setCell (p := ⟨b, 8, none⟩) hB (.slice (some ⟨g2, 0, none⟩) st.kept.length c))
      go_enter Tryd.func96, Tryd.ntmps96
      go_wp2_with (at_builtin; go_must (refine wpList_append_own_none rfl (.tmp 9) (.tmp 10) 65 rfl base 79 i0 3 Tryd.underlying65 HI.out _ _ _ rfl HO.out rfl ?_))
      generalize w.setCell ⟨b, 8, none⟩ (.slice (some ⟨g2, 0, none⟩) st.kept.length c) = w3 at *
      clear c8 f8
      generalize hl : st.kept = l at *
      rw [show (l.length : Int) - 16 = ((l.length - 16 : Nat) : Int) by omega]
      refine (kDelP base g2 c 0 (l.length - 16) l.length l rfl (by omega) (by omega) _ HO3.out).mono ?_
      rintro e w4 ⟨rfl, ho4, hc4⟩
      have HP4 := hide (HP3.out.chgO HO3.out rfl hc4)
      have HB4 := hide (HB3.out.trans (hc4.bel (HO3.out.row g2 rfl).1 (Nat.le_trans hB (Nat.le_of_lt HP3.out.lt))))
      have d8 := HP4.out.all.2.2.2.2.2.2.2.2
      have f8 := HP4.out.frozen 8
      have hf := pAt_set HP4.out ho4
      rw [Nat.zero_add] at hf
      have HF := hide hf
      clear hf
      have HB5 := hide (HB4.out.setCell (p := ⟨b, 8, none⟩) hB (.slice (some ⟨g2, 0, none⟩) (l.length - (l.length - 16)) c))
      clear ho4 hc4
      go_wp2
      go_end0
      rw [show keepL st.kept sk = keepL l sk from (by rw [hl]), HR.out]
      exact ⟨rfl, HF.out, HB5.out⟩
  · have HC := hide ho.cells
    have HL := hide (kCells_length sk)
    have H1 := hide (kCells_one sk)
    have HA := hide (kCells_append st.kept sk)
    clear ho hb hgg hle hcap hsz htk
    generalize kCells sk = news at *
    by_cases hab : st.kept.length + sk.length ≤ 16
    · have HR : Hid (keepL st.kept sk = st.kept ++ sk) := keepL_few _ _ hab
      go_enter Tryd.func96, Tryd.ntmps96
      go_wp2_with (at_builtin; go_must (refine wpList_append_own _ rfl (.tmp 9) (.tmp 10) 65 rfl base 79 i0 (.agg #[.string ⟨#[]⟩, .int .i64 0, .string ⟨#[]⟩]) 3 40 Tryd.underlying65 HI.out hz0 hz1 hz2 rfl (by decide) _ _ _ rfl HO.out ⟨g, 0, none⟩ sk.length cap news rfl HL.out (by intro j u hj; rw [Addr.add_lit, Nat.zero_add]; exact HC.out j u hj) H1.out (by unfold maxLen; omega) (by omega) hbs ?_); intro v2 w2 ho2 hg2 _; obtain ⟨HP2, HO2, HB2, d8, f8⟩ := keepMid HP.out HO.out HA.out ho2 hg2 hbs; clear ho2 hg2; obtain ⟨ao2, c2, rfl⟩ := HO2.out.form2)
      have HF := hide (pAt_set HP2.out HO2.out)
      have HB3 := hide (HB2.out.setCell (p := ⟨b, 8, none⟩) hB (.slice ao2 (st.kept.length + sk.length) c2))
      go_end0
      rw [HR.out]
      exact ⟨rfl, HF.out, HB3.out⟩
    · have HR : Hid (keepL st.kept sk = (st.kept ++ sk).take 0 ++ (st.kept ++ sk).drop (st.kept.length + sk.length - 16)) := by
        show keepL st.kept sk = _
        unfold keepL
        rw [List.length_append, List.take_zero, List.nil_append]
      go_enter Tryd.func96, Tryd.ntmps96
      go_wp2_with (at_builtin; go_must (refine wpList_append_own _ rfl (.tmp 9) (.tmp 10) 65 rfl base 79 i0 (.agg #[.string ⟨#[]⟩, .int .i64 0, .string ⟨#[]⟩]) 3 40 Tryd.underlying65 HI.out hz0 hz1 hz2 rfl (by decide) _ _ _ rfl HO.out ⟨g, 0, none⟩ sk.length cap news rfl HL.out (by intro j u hj; rw [Addr.add_lit, Nat.zero_add]; exact HC.out j u hj) H1.out (by unfold maxLen; omega) (by omega) hbs ?_); intro v2 w2 ho2 hg2 _; obtain ⟨HP2, HO2, HB2, d8, f8⟩ := keepMid HP.out HO.out HA.out ho2 hg2 hbs; clear ho2 hg2; obtain ⟨g2, c2, rfl⟩ := HO2.out.form3 (by omega))
      have HP3 : Hid (PBlk (w2.setCell ⟨b, 8, none⟩ (.slice (some ⟨g2, 0, none⟩) (st.kept.length + sk.length) c2)) b { st with kept := st.kept ++ sk } (.slice (some ⟨g2, 0, none⟩) (st.kept.length + sk.length) c2)) := HP2.out.set 8 _ _ _ rfl
      have HO3 := hide (HO2.out.set HP2.out 8 (.slice (some ⟨g2, 0, none⟩) (st.kept.length + sk.length) c2))
      have HB3 := hide (HB2.out.setCell (p := ⟨b, 8, none⟩) hB (.slice (some ⟨g2, 0, none⟩) (st.kept.length + sk.length) c2))
      generalize w2.setCell ⟨b, 8, none⟩ (.slice (some ⟨g2, 0, none⟩) (st.kept.length + sk.length) c2) = w3 at *
      clear d8 f8
      rw [show (st.kept.length : Int) + (sk.length : Int) - 16 = ((st.kept.length + sk.length - 16 : Nat) : Int) by omega]
      refine (kDelP base g2 c2 0 (st.kept.length + sk.length - 16) (st.kept.length + sk.length) (st.kept ++ sk) (by rw [List.length_append]) (by omega) (by omega) _ HO3.out).mono ?_
      rintro e w4 ⟨rfl, ho4, hc4⟩
      have HP4 := hide (HP3.out.chgO HO3.out rfl hc4)
      have HB4 := hide (HB3.out.trans (hc4.bel (HO3.out.row g2 rfl).1 (Nat.le_trans hB (Nat.le_of_lt HP3.out.lt))))
      have d8 := HP4.out.all.2.2.2.2.2.2.2.2
      have f8 := HP4.out.frozen 8
      have hf := pAt_set HP4.out ho4
      rw [Nat.zero_add] at hf
      have HF := hide hf
      clear hf
      have HB5 := hide (HB4.out.setCell (p := ⟨b, 8, none⟩) hB (.slice (some ⟨g2, 0, none⟩) (st.kept.length + sk.length - (st.kept.length + sk.length - 16)) c2))
      clear ho4 hc4
      go_wp2
      go_end0
      rw [HR.out]
      exact ⟨rfl, HF.out, HB5.out⟩
end Go.Proofs.YtlchpbnpmgfaoaaDoor
namespace Go.Proofs.YtlchpbnpmgfaoaaDoor
open Go.RowKit

theorem PBlk.ch6 {w : World} {b : Nat} {st : PSt} {v : Value} (h : PBlk w b st v) : w.heap[b]? = some (.cells (chB (pCells st v) 6 st.rk st.rn) 67 (0, 0)) := h
theorem of_ch6 {w : World} {b : Nat} {st : PSt} {v : Value} {k : List UInt8} {n : Nat} (h : w.heap[b]? = some (.cells (chB (pCells st v) 6 k n) 67 (0, 0))) : PBlk w b { st with rk := k, rn := n } v := h
theorem PBlk.ch3 {w : World} {b : Nat} {st : PSt} {v : Value} (h : PBlk w b st v) : w.heap[b]? = some (.cells (chB (pCells st v) 3 st.sk st.sn) 67 (0, 0)) := h
theorem of_ch3 {w : World} {b : Nat} {st : PSt} {v : Value} {k : List UInt8} {n : Nat} (h : w.heap[b]? = some (.cells (chB (pCells st v) 3 k n) 67 (0, 0))) : PBlk w b { st with sk := k, sn := n } v := h
theorem Tab.bel {w w' : World} {B : Nat} (h : Tab w) (hb : Bel B w w') (hB : 7 < B) : Tab w' :=
  ⟨Nat.lt_of_lt_of_le h.lt hb.size, fun t ht => (hb.cell (p := ⟨7, t, none⟩) hB).trans (h.tab t ht)⟩
theorem Tab.drew {w : World} (h : Tab w) : Tab w.drew := ⟨h.lt, h.tab⟩
theorem partySize (st : PSt) (v : Value) : 6 + 1 < (pCells st v).size := by show 7 < 9; decide
theorem partySize3 (st : PSt) (v : Value) : 3 + 1 < (pCells st v).size := by show 4 < 9; decide
theorem Chg.ofDrew {b : Nat} {a w : World} (h : Chg b a.drew w) : Chg b a w := ⟨h.os, h.output, h.size, h.block⟩
/-- skip and keep, one behind the other. -/
theorem skipS {base b n : Nat} {st : PSt} {v sv : Value} {w w1 : World} (hP : PBlk w b st v) (hO : Own w base v st.kept) (hB : base ≤ b) (ho1 : Own w1 w.heap.size sv (skipL st.theirs st.rk st.rn (n - st.rn)))
    (hP1 : w1.heap[b]? = some (.cells (chB (pCells st v) 6 (nxN st.rk (n - st.rn)) (st.rn + (n - st.rn))) 67 (0, 0))) (hC : Chg b w w1) :
    PAt w1 base b { st with rk := nxN st.rk (n - st.rn), rn := st.rn + (n - st.rn) } ∧ Own w1 base sv (skipL st.theirs st.rk st.rn (n - st.rn)) ∧ Bel base w w1 :=
  ⟨⟨v, of_ch6 hP1, hO.chg hC hP (by decide)⟩, ho1.base (Nat.le_trans hB (Nat.le_of_lt hP.lt)), hC.bel hB (Nat.le_trans hB (Nat.le_of_lt hP.lt))⟩

set_option maxRecDepth 100000 in
set_option maxHeartbeats 4000000 in
theorem reachP (base b n : Nat) (st : PSt) (hW : st.Wf) (hr : st.rk ≠ []) (hn : n ≤ 65536) (w : World) (hT : Tab w) (hG : 7 < base) (hp : PAt w base b st) (hB : base ≤ b) :
    Calls Tryd.prog 95 #[.pointer (some ⟨b, 0, none⟩), .int .i64 (n : Int)] w fun e w' => e = .returned (.string (str (reachK st n))) ∧ PAt w' base b (reachS st n) ∧ Bel base w w' := by
  obtain ⟨v, hP, hO⟩ := hp
  have hlt := hP.lt
  obtain ⟨c0, c1, c2, c3, c4, c5, c6, c7, c8⟩ := hP.all
  have hrl : st.rk.length = 32 := hW.rk.resolve_left hr
  have hrn := hW.rn
  have hkl := hW.kept
  have HN := hide (nxN_length st.rk hrl (n - st.rn))
  have HP := hide hP
  have HO := hide hO
  have HT := hide hT
  have HR : Hid (∀ kp : List KK, reachS st n = { st with kept := keepL st.kept (skipL st.theirs st.rk st.rn (n - st.rn)), rk := nxK (nxN st.rk (n - st.rn)), rn := st.rn + (n - st.rn) + 1 }) := fun _ => rfl
  have HKey : Hid (reachK st n = mkK (nxN st.rk (n - st.rn))) := rfl
  clear hP hO c0 c1 c3 c4 c5 c6 c7 c8 hT hr hW
  go_enter Tryd.func95, Tryd.ntmps95
  go_wp2_with fail
  go_region_held3 (fun w' => w'.cell? ⟨b, 2, none⟩ = some (.string (str st.theirs))) (first | assumption | exact c2) (first | (go_at_call 97; refine (skipB b 6 st.rn n st.theirs st.rk (pCells st v) 67 (by decide) (partySize st v) (by omega) (by omega) (by omega) (by omega) _ HT.out.drew HP.out.ch6).mono ?_; rintro e w1 ⟨sv, rfl, ho1, hP1, hC1⟩; obtain ⟨HP1, HO1, HB1⟩ := skipS HP.out HO.out hB ho1 hP1 (Chg.ofDrew hC1); have d2 := HP1.choose_spec.1.all.2.2.1; clear ho1 hP1 hC1) | (go_at_call 96; refine (keepP base b _ _ _ (by show st.kept.length ≤ 1000; omega) (by rw [skipL_length]; omega) _ HP1 HO1 hB).mono ?_; rintro e w2 ⟨rfl, hp2, hb2⟩; have d2 := hp2.choose_spec.1.all.2.2.1))
  obtain ⟨v2, hP2, hO2⟩ := hp2
  have HP2 := hide hP2
  have HO2 := hide hO2
  have HB2 := hide (HB1.trans hb2)
  clear hP2 hO2 HB1 hb2 HP1 HO1 d2 c2
  go_wp2_with fail
  refine (stepB b 6 (st.rn + (n - st.rn)) (nxN st.rk (n - st.rn)) _ 67 (partySize _ v2) (by have := HN.out; omega) (by omega) _ (HT.out.bel HB2.out hG) HP2.out.ch6).mono ?_
  rintro e w3 ⟨rfl, hP3, hC3⟩
  have HP3 := hide hP3
  have HO3 := hide (HO2.out.chg hC3 HP2.out (by decide))
  have HB3 := hide (HB2.out.trans (hC3.bel hB (Nat.le_trans hB (Nat.le_of_lt HP2.out.lt))))
  clear hP3 hC3
  go_wp2
  go_ret
  exact ⟨by rw [HKey.out]; rfl, ⟨v2, HP3.out, HO3.out⟩, HB3.out⟩

end Go.Proofs.YtlchpbnpmgfaoaaDoor
namespace Go.Proofs.YtlchpbnpmgfaoaaDoor
open Go.RowKit

theorem byteAt_dropH (s : List UInt8) (m i : Nat) : byteAt (s.drop m) i = byteAt s (m + i) := by
  unfold byteAt; simp

theorem Tryd.sizeHead : (Tryd.prog.info? 69).map (·.size) = some 3 := by kernel_rfl
theorem rowThree {w : World} {b : Nat} {x y z : Value} {T : TypeId} (h : w.heap[b]? = some (.cells #[x, y, z] T (0, 0))) : w.cell? ⟨b, 0, none⟩ = some x ∧ w.cell? ⟨b, 1, none⟩ = some y ∧ w.cell? ⟨b, 2, none⟩ = some z ∧ w.frozen? ⟨b, 0, none⟩ = false ∧ w.frozen? ⟨b, 1, none⟩ = false ∧ w.frozen? ⟨b, 2, none⟩ = false :=
  ⟨cell_of_row w b 0 _ _ (0, 0) h, cell_of_row w b 1 _ _ (0, 0) h, cell_of_row w b 2 _ _ (0, 0) h, frozen_of_row w b 0 _ _ h, frozen_of_row w b 1 _ _ h, frozen_of_row w b 2 _ _ h⟩

set_option maxRecDepth 100000 in
set_option maxHeartbeats 400000 in
theorem readHeadP (f : List UInt8) (hf : 52 ≤ f.length) (hl : f.length ≤ 116) (w : World) :
    Calls Tryd.prog 43 #[.string (str f)] w fun e w' => e = .returned (.agg #[.string (str (f.take 32)), .int .i64 (two f 32 : Nat), .int .i64 (two f 34 : Nat)]) ∧ Bel w.heap.size w w' := by
  have hx := sliceHi f 32 32 (by omega) (by omega)
  have hy := sliceLo f 32 32 (by omega) (by omega)
  have hz := sliceLo f 34 34 (by omega) (by omega)
  have l1 : (f.take 32).length = 32 := by rw [List.length_take]; omega
  have l2 : (f.drop 32).length = f.length - 32 := by rw [List.length_drop]
  have l3 : (f.drop 34).length = f.length - 34 := by rw [List.length_drop]
  have e2 : byteAt (f.drop 32) 0 * 256 + byteAt (f.drop 32) 1 = two f 32 := by unfold two; rw [byteAt_dropH, byteAt_dropH]
  have e3 : byteAt (f.drop 34) 0 * 256 + byteAt (f.drop 34) 1 = two f 34 := by unfold two; rw [byteAt_dropH, byteAt_dropH]
  have HY : Hid (∀ w : World, Calls Tryd.prog 74 #[.string (str (f.drop 32))] w fun e w' => e = .returned (.int .i64 (two f 32 : Nat)) ∧ Bel w.heap.size w w') := fun w => by rw [← e2]; exact readTwoP _ (by omega) w
  have HZ : Hid (∀ w : World, Calls Tryd.prog 74 #[.string (str (f.drop 34))] w fun e w' => e = .returned (.int .i64 (two f 34 : Nat)) ∧ Bel w.heap.size w w') := fun w => by rw [← e3]; exact readTwoP _ (by omega) w
  clear e2 e3
  have HB0 : Hid (Bel w.heap.size w (w.alloc (.cells #[.string ⟨#[]⟩, .int .i64 0, .int .i64 0] 69))) := (Bel.refl _ _).alloc (Nat.le_refl _) _
  have HN0 : Hid ((w.alloc (.cells #[.string ⟨#[]⟩, .int .i64 0, .int .i64 0] 69)).heap[w.heap.size]? = some (.cells #[.string ⟨#[]⟩, .int .i64 0, .int .i64 0] 69 (0, 0))) := heap_alloc_new w _
  generalize f.take 32 = x at *
  generalize f.drop 32 = y at *
  generalize f.drop 34 = z at *
  generalize two f 32 = p at *
  generalize two f 34 = q at *
  go_enter Tryd.func43, Tryd.ntmps43
  go_wp2_with fail
  have tok1 : True := trivial
  generalize w.alloc (.cells #[.string ⟨#[]⟩, .int .i64 0, .int .i64 0] 69) = W at *
  go_region_held3 (fun _ => True) (trivial) (first | (go_at_call 73; refine (cloneP x (by omega) _).mono ?_; rintro e w1 ⟨rfl, hb1⟩; have HB1 := hide (HB0.out.trans ((Bel.ofDrew hb1).mono HB0.out.size)); have HN1 := hide (((Bel.ofDrew hb1).block _ (Array.getElem?_eq_some_iff.1 HN0.out).1).trans HN0.out); clear hb1) | (go_at_call 74; have _t := tok1; refine (HY.out _).mono ?_; rintro e w2 ⟨rfl, hb2⟩; have HB2 := hide (HB1.out.trans (hb2.mono HB1.out.size)); have HN2 := hide ((hb2.block _ (Array.getElem?_eq_some_iff.1 HN1.out).1).trans HN1.out); clear hb2 tok1) | (go_at_call 74; refine (HZ.out _).mono ?_; rintro e w3 ⟨rfl, hb3⟩; have HB3 := hide (HB2.out.trans (hb3.mono HB2.out.size)); have HN3 := hide ((hb3.block _ (Array.getElem?_eq_some_iff.1 HN2.out).1).trans HN2.out); obtain ⟨r0, r1, r2, s0, s1, s2⟩ := rowThree HN3.out; clear hb3))
  have HB4 := hide (((HB3.out.setCell (p := ⟨w.heap.size, 0, none⟩) (Nat.le_refl _) (.string (str x))).setCell (p := ⟨w.heap.size, 1, none⟩) (Nat.le_refl _) (.int .i64 (p : Int))).setCell (p := ⟨w.heap.size, 2, none⟩) (Nat.le_refl _) (.int .i64 (q : Int)))
  have HR : Hid ((((w3.setCell ⟨w.heap.size, 0, none⟩ (.string (str x))).setCell ⟨w.heap.size, 1, none⟩ (.int .i64 (p : Int))).setCell ⟨w.heap.size, 2, none⟩ (.int .i64 (q : Int))).heap[w.heap.size]? = some (.cells #[.string (str x), .int .i64 (p : Int), .int .i64 (q : Int)] 69 (0, 0))) :=
    heap_setCell_same _ _ 2 _ _ _ (heap_setCell_same _ _ 1 _ _ _ (heap_setCell_same _ _ 0 _ _ _ HN3.out))
  go_wp2
  exact bodyPost_ret (v := .agg #[.string (str x), .int .i64 (p : Int), .int .i64 (q : Int)]) (results_cell_row (P := Tryd.prog) Tryd.results43 _ _ w.heap.size 69 _ (0, 0) _ rfl HR.out Tryd.underlying69 rfl Tryd.sizeHead) rfl ⟨rfl, HB4.out⟩
end Go.Proofs.YtlchpbnpmgfaoaaDoor
namespace Go.Proofs.YtlchpbnpmgfaoaaDoor
open Go.RowKit

set_option maxRecDepth 100000 in
set_option maxHeartbeats 1000000 in
theorem hbytesP (x : List UInt8) (p q : Nat) (hx : x.length = 32) (w : World) :
    Calls Tryd.prog 39 #[.agg #[.string (str x), .int .i64 (p : Int), .int .i64 (q : Int)]] w fun e w' => e = .returned (.string (str (x ++ bigB p 2 ++ bigB q 2))) ∧ Bel w.heap.size w w' := by
  have HB0 : Hid (Bel w.heap.size w (w.alloc (.cells #[.string (str x), .int .i64 (p : Int), .int .i64 (q : Int)] 69))) := (Bel.refl _ _).alloc (Nat.le_refl _) _
  have HN0 : Hid ((w.alloc (.cells #[.string (str x), .int .i64 (p : Int), .int .i64 (q : Int)] 69)).heap[w.heap.size]? = some (.cells #[.string (str x), .int .i64 (p : Int), .int .i64 (q : Int)] 69 (0, 0))) := heap_alloc_new w _
  have l1 := bigB_length p 2
  have l2 := bigB_length q 2
  have ha := addS x (bigB p 2) (by omega)
  have hb := addS (x ++ bigB p 2) (bigB q 2) (by rw [List.length_append]; omega)
  go_enter Tryd.func39, Tryd.ntmps39
  go_wp2_with fail
  generalize w.alloc (.cells #[.string (str x), .int .i64 (p : Int), .int .i64 (q : Int)] 69) = W at *
  obtain ⟨r0, r1, r2, _⟩ := rowThree HN0.out
  have tok1 : True := trivial
  go_region_held3 (fun w' => w'.cell? ⟨w.heap.size, 0, none⟩ = some (.string (str x)) ∧ w'.cell? ⟨w.heap.size, 1, none⟩ = some (.int .i64 (p : Int)) ∧ w'.cell? ⟨w.heap.size, 2, none⟩ = some (.int .i64 (q : Int))) (refine ⟨?_, ?_, ?_⟩ <;> assumption) (first | (go_at_call 68; have _t := tok1; refine (twoP p _).mono ?_; rintro e w1 ⟨rfl, hb1⟩; have HB1 := hide (HB0.out.trans ((Bel.ofDrew hb1).mono HB0.out.size)); have HN1 := hide (((Bel.ofDrew hb1).block _ (Array.getElem?_eq_some_iff.1 HN0.out).1).trans HN0.out); obtain ⟨r0, r1, r2, _⟩ := rowThree HN1.out; clear hb1 tok1) | (go_at_call 68; refine (twoP q _).mono ?_; rintro e w2 ⟨rfl, hb2⟩; have HB2 := hide (HB1.out.trans (hb2.mono HB1.out.size)); have HN2 := hide ((hb2.block _ (Array.getElem?_eq_some_iff.1 HN1.out).1).trans HN1.out); obtain ⟨r0, r1, r2, _⟩ := rowThree HN2.out; clear hb2))
  all_goals go_wp2
  all_goals go_ret
  all_goals exact ⟨by rw [List.append_assoc]; rfl, HB2.out⟩

/-- What can be seen to be wrong without a party. -/
def misL (ad f draw : List UInt8) : Option Nat := if 32 < ad.length ∨ 116 < f.length then some 0 else if draw.length ≠ 32 then some 1 else if f.length < 52 then some 2 else none

def errV (a : Nat → Addr) (i : Nat) : Value := .iface 160 (.pointer (some (a i)))
theorem Errs.at {w : World} {a : Nat → Addr} (h : Errs w a) : w.cell? ⟨0, 0, none⟩ = some (errV a 0) ∧ w.cell? ⟨1, 0, none⟩ = some (errV a 1) ∧ w.cell? ⟨2, 0, none⟩ = some (errV a 2) ∧ w.cell? ⟨3, 0, none⟩ = some (errV a 3) ∧ w.cell? ⟨4, 0, none⟩ = some (errV a 4) ∧ w.cell? ⟨5, 0, none⟩ = some (errV a 5) ∧ w.cell? ⟨6, 0, none⟩ = some (errV a 6) :=
  ⟨h.g0, h.g1, h.g2, h.g3, h.g4, h.g5, h.g6⟩

set_option maxRecDepth 100000 in
set_option maxHeartbeats 1000000 in
theorem misfitP (ad f draw : List UInt8) (ma : ad.length ≤ maxLen) (mf : f.length ≤ maxLen) (md : draw.length ≤ maxLen) (a : Nat → Addr) (w : World) (hE : Errs w a) :
    Calls Tryd.prog 41 #[.string (str ad), .string (str f), .string (str draw)] w fun e w' => e = .returned (match misL ad f draw with | some i => errV a i | none => .nilIface) ∧ Bel w.heap.size w w' := by
  have za := str_size ad
  have zf := str_size f
  have ma' : ad.length ≤ 9223372036854775807 := by unfold maxLen at ma; omega
  have mf' : f.length ≤ 9223372036854775807 := by unfold maxLen at mf; omega
  obtain ⟨g0, g1, g2, g3, g4, g5, g6⟩ := hE.at
  have hE1 := hE.g1
  have l1 := cell_lt g1
  have l2 := cell_lt g2
  have MD := hide md
  clear ma mf md g3 g4 g5 g6
  have HB : Hid (Bel w.heap.size w (w.alloc (.cells #[.string (str draw)] 9))) := (Bel.refl _ _).alloc (Nat.le_refl _) _
  have d1 := (HB.out.cell (p := ⟨1, 0, none⟩) l1).trans g1
  have d2 := (HB.out.cell (p := ⟨2, 0, none⟩) l2).trans g2
  by_cases h1 : 32 < ad.length
  · have hm : Hid (misL ad f draw = some 0) := by show misL ad f draw = some 0; unfold misL; rw [if_pos (.inl h1)]
    rw [hm.out]
    go_enter Tryd.func41, Tryd.ntmps41
    go_wp2
    go_ret
    exact ⟨rfl, Bel.refl _ _⟩
  by_cases h2 : 116 < f.length
  · have hm : Hid (misL ad f draw = some 0) := by show misL ad f draw = some 0; unfold misL; rw [if_pos (.inr h2)]
    rw [hm.out]
    go_enter Tryd.func41, Tryd.ntmps41
    go_wp2
    go_ret
    exact ⟨rfl, Bel.refl _ _⟩
  by_cases h3 : draw.length = 32
  · have HK : Hid (keysB [draw] = true) := by show keysB [draw] = true; rw [keys1, decide_eq_true h3]
    by_cases h4 : f.length < 52
    · have hm : Hid (misL ad f draw = some 2) := by show misL ad f draw = some 2; unfold misL; rw [if_neg (by omega), if_neg (by omega), if_pos h4]
      rw [hm.out]
      go_enter Tryd.func41, Tryd.ntmps41
      go_wp2_with fail
      refine (areKeysP w.heap.size [draw] (by simp) _ (strs1 w draw) (by intro s hs; simp at hs; subst hs; exact MD.out)).mono ?_
      rintro e w1 ⟨rfl, rfl⟩
      rw [HK.out]
      generalize w.alloc (.cells #[.string (str draw)] 9) = w2 at *
      go_wp2
      go_ret
      exact ⟨rfl, HB.out⟩
    · have hm : Hid (misL ad f draw = none) := by show misL ad f draw = none; unfold misL; rw [if_neg (by omega), if_neg (by omega), if_neg h4]
      rw [hm.out]
      go_enter Tryd.func41, Tryd.ntmps41
      go_wp2_with fail
      refine (areKeysP w.heap.size [draw] (by simp) _ (strs1 w draw) (by intro s hs; simp at hs; subst hs; exact MD.out)).mono ?_
      rintro e w1 ⟨rfl, rfl⟩
      rw [HK.out]
      generalize w.alloc (.cells #[.string (str draw)] 9) = w2 at *
      go_wp2
      go_ret
      exact ⟨rfl, HB.out⟩
  · have HK : Hid (keysB [draw] = false) := by show keysB [draw] = false; rw [keys1, decide_eq_false h3]
    have hm : Hid (misL ad f draw = some 1) := by show misL ad f draw = some 1; unfold misL; rw [if_neg (by omega), if_pos h3]
    rw [hm.out]
    go_enter Tryd.func41, Tryd.ntmps41
    go_wp2_with fail
    refine (areKeysP w.heap.size [draw] (by simp) _ (strs1 w draw) (by intro s hs; simp at hs; subst hs; exact MD.out)).mono ?_
    rintro e w1 ⟨rfl, rfl⟩
    rw [HK.out]
    generalize w.alloc (.cells #[.string (str draw)] 9) = w2 at *
    go_wp2
    go_ret
    exact ⟨rfl, HB.out⟩
end Go.Proofs.YtlchpbnpmgfaoaaDoor
namespace Go.Proofs.YtlchpbnpmgfaoaaDoor
open Go.RowKit

def resV (a : Nat → Addr) : Except Nat (List UInt8 × PSt) → Value
  | .ok (t, _) => .tuple #[.string (str t), .nilIface]
  | .error i => .tuple #[.string ⟨#[]⟩, errV a i]
def resS (st : PSt) : Except Nat (List UInt8 × PSt) → PSt
  | .ok (_, s) => s
  | .error _ => st

theorem Errs.chg {w w' : World} {a : Nat → Addr} {b : Nat} (h : Errs w a) (hc : Chg b w w') (hb : w.heap.size ≤ b) : Errs w' a := h.below (hc.bel hb (Nat.le_refl _))

set_option maxRecDepth 100000 in
set_option maxHeartbeats 2000000 in
theorem sendLong (b : Nat) (ad t : List UInt8) (hl : 32 < ad.length ∨ 64 < t.length) (ma : ad.length ≤ maxLen) (mt : t.length ≤ maxLen) (a : Nat → Addr) (w : World) (hE : Errs w a) :
    Calls Tryd.prog 21 #[.pointer (some ⟨b, 0, none⟩), .string (str ad), .string (str t)] w fun e w' => e = .returned (.tuple #[.string ⟨#[]⟩, errV a 0]) ∧ Bel w.heap.size w w' := by
  have za := str_size ad
  have zt := str_size t
  have ma' : ad.length ≤ 9223372036854775807 := by unfold maxLen at ma; omega
  have mt' : t.length ≤ 9223372036854775807 := by unfold maxLen at mt; omega
  have g0 := hE.at.1
  clear ma mt hE
  by_cases h1 : 32 < ad.length
  · clear hl
    go_enter Tryd.func21, Tryd.ntmps21
    go_wp2_with fail
    go_quiet (fail)
    go_wp2
    go_ret2
    exact ⟨rfl, belowN (Bel.refl _ _) _⟩
  · have h2 : 64 < t.length := by omega
    clear hl
    go_enter Tryd.func21, Tryd.ntmps21
    go_wp2_with fail
    go_quiet (fail)
    go_wp2
    go_ret2
    exact ⟨rfl, belowN (Bel.refl _ _) _⟩

set_option maxRecDepth 100000 in
set_option maxHeartbeats 2000000 in
theorem sendNone (base b : Nat) (st : PSt) (ad t : List UInt8) (ha : ad.length ≤ 32) (ht : t.length ≤ 64) (hk : st.sk = []) (a : Nat → Addr) (w : World) (hE : Errs w a) (hp : PAt w base b st) :
    Calls Tryd.prog 21 #[.pointer (some ⟨b, 0, none⟩), .string (str ad), .string (str t)] w fun e w' => e = .returned (.tuple #[.string ⟨#[]⟩, errV a 5]) ∧ Bel w.heap.size w w' := by
  have za := str_size ad
  have zt := str_size t
  have g5 := hE.at.2.2.2.2.2.1
  obtain ⟨v, hP, _⟩ := hp
  have c3 := hP.all.2.2.2.1
  rw [hk] at c3
  clear hE hP
  go_enter Tryd.func21, Tryd.ntmps21
  go_wp2_with fail
  refine (begunP b 3 [] _ c3).mono ?_
  rintro e w1 ⟨rfl, rfl⟩
  go_wp2_with fail
  go_quiet (fail)
  go_wp2
  go_ret2
  exact ⟨rfl, belowN (Bel.refl _ _) _⟩

set_option maxRecDepth 100000 in
set_option maxHeartbeats 2000000 in
theorem sendFull (base b : Nat) (st : PSt) (ad t : List UInt8) (ha : ad.length ≤ 32) (ht : t.length ≤ 64) (hk : st.sk ≠ []) (hn : 30 ≤ st.sn) (hn2 : st.sn ≤ 30) (a : Nat → Addr) (w : World) (hE : Errs w a) (hp : PAt w base b st) :
    Calls Tryd.prog 21 #[.pointer (some ⟨b, 0, none⟩), .string (str ad), .string (str t)] w fun e w' => e = .returned (.tuple #[.string ⟨#[]⟩, errV a 6]) ∧ Bel w.heap.size w w' := by
  have za := str_size ad
  have zt := str_size t
  have g6 := hE.at.2.2.2.2.2.2
  obtain ⟨v, hP, _⟩ := hp
  have c3 := hP.all.2.2.2.1
  have c4 := hP.all.2.2.2.2.1
  have hb : (!st.sk.isEmpty) = true := by cases h : st.sk with
    | nil => exact absurd h hk
    | cons _ _ => rfl
  clear hE hP
  go_enter Tryd.func21, Tryd.ntmps21
  go_wp2_with fail
  refine (begunP b 3 st.sk _ c3).mono ?_
  rintro e w1 ⟨rfl, rfl⟩
  rw [hb]
  go_wp2_with fail
  go_quiet (fail)
  go_wp2
  go_ret2
  exact ⟨rfl, belowN (Bel.refl _ _) _⟩

set_option maxRecDepth 100000 in
set_option maxHeartbeats 2000000 in
theorem sendOk (base b : Nat) (st : PSt) (ad t : List UInt8) (ha : ad.length ≤ 32) (ht : t.length ≤ 64) (hW : st.Wf) (hk : st.sk ≠ []) (hn : st.sn < 30) (w : World) (hT : Tab w) (hG : 7 < b) (hp : PAt w base b st) :
    Calls Tryd.prog 21 #[.pointer (some ⟨b, 0, none⟩), .string (str ad), .string (str t)] w fun e w' => e = .returned (.tuple #[.string (str (frameL st ad t)), .nilIface]) ∧ PAt w' base b (stepS st) ∧ Chg b w w' := by
  have za := str_size ad
  have zt := str_size t
  obtain ⟨v, hP, hO⟩ := hp
  obtain ⟨_, c1, _, c3, c4, c5, _, _, _⟩ := hP.all
  have hb : (!st.sk.isEmpty) = true := by cases h : st.sk with
    | nil => exact absurd h hk
    | cons _ _ => rfl
  have hsl := hW.secret
  have hkl : st.sk.length = 32 := hW.sk.resolve_left hk
  have hbf := hW.before
  have HP := hide hP
  have HO := hide hO
  have HT := hide hT
  have HH : Hid (hdL st = x25519 st.secret nine ++ bigB st.before 2 ++ bigB st.sn 2) := rfl
  have HF : Hid (frameL st ad t = hdL st ++ sealL (mkK st.sk) (ad ++ hdL st) t) := rfl
  have lX := x25519_length st.secret nine
  have lH : (hdL st).length = 36 := by unfold hdL; rw [List.length_append, List.length_append, x25519_length, bigB_length, bigB_length]
  have lM := mkK_length st.sk
  have lS : (sealL (mkK st.sk) (ad ++ hdL st) t).length = t.length + 16 := by unfold sealL; rw [List.length_append, tagL_length, boxL_length]
  have a1 := addS ad (hdL st) (by omega)
  have a2 := addS (hdL st) (sealL (mkK st.sk) (ad ++ hdL st) t) (by omega)
  have lA : (ad ++ hdL st).length ≤ 68 := by rw [List.length_append]; omega
  clear hP hO hT hW
  go_enter Tryd.func21, Tryd.ntmps21
  go_wp2_with fail
  refine (begunP b 3 st.sk _ c3).mono ?_
  rintro e w1 ⟨rfl, rfl⟩
  rw [hb]
  go_wp2_with fail
  rw [← strNine]
  generalize hx : x25519 st.secret nine = sx at *
  have HX := hide hx
  clear hx
  go_region_held3 (fun w' => w'.cell? ⟨b, 1, none⟩ = some (.string (str st.secret)) ∧ w'.cell? ⟨b, 5, none⟩ = some (.int .i64 (st.before : Int)) ∧ w'.cell? ⟨b, 4, none⟩ = some (.int .i64 (st.sn : Int))) (refine ⟨?_, ?_, ?_⟩ <;> assumption) (first | (go_at_call 30; refine (sharedP st.secret nine hsl nine_length _).mono ?_; rintro e w2 ⟨rfl, hb2⟩; rw [HX.out]; have HB2 : Hid (Bel w1.heap.size w1 w2) := Bel.ofDrew hb2; have HP2 := hide (HP.out.below HB2.out); obtain ⟨_, c1, _, c3, c4, c5, _, _, _⟩ := HP2.out.all; clear hb2) | (go_at_call 39; refine (hbytesP sx st.before st.sn lX _).mono ?_; rintro e w3 ⟨rfl, hb3⟩; rw [← HH.out]; have HB3 := hide (HB2.out.trans (hb3.mono HB2.out.size)); have HP3 := hide (HP2.out.below hb3); obtain ⟨_, c1, _, c3, c4, c5, _, _, _⟩ := HP3.out.all; clear hb3))
  clear c1 c3 c4 c5 hb
  generalize hdL st = hd at *
  go_wp2_with fail
  refine (stepB b 3 st.sn st.sk _ 67 (partySize3 st v) (by omega) (by omega) _ (HT.out.below HB3.out) HP3.out.ch3).mono ?_
  rintro e w4 ⟨rfl, hP4, hC4⟩
  have HC4 := hide ((Chg.of_bel (b := b) HB3.out).trans hC4)
  have HP4 : Hid (PBlk w4 b (stepS st) v) := hP4
  have HO4 := hide ((HO.out.below HB3.out).chg hC4 HP3.out (by decide))
  clear hP4 hC4
  generalize mkK st.sk = mk at *
  go_wp2_with fail
  refine (sealTextP mk (ad ++ hd) t lA ht lM _ (HT.out.chg HC4.out hG)).mono ?_
  rintro e w5 ⟨rfl, hb5⟩
  have HC5 := hide (HC4.out.trans (Chg.of_bel hb5))
  have HF5 : Hid (PAt w5 base b (stepS st)) := ⟨v, HP4.out.below hb5, HO4.out.below hb5⟩
  clear hb5
  generalize sealL mk (ad ++ hd) t = sl at *
  go_wp2
  go_ret2
  refine ⟨?_, HF5.out, HC5.out⟩
  rw [HF.out]
  rfl

/-- Send, whatever the party is. -/
theorem sendP (base b : Nat) (st : PSt) (ad t : List UInt8) (ma : ad.length ≤ maxLen) (mt : t.length ≤ maxLen) (hW : st.Wf) (a : Nat → Addr) (w : World) (hE : Errs w a) (hT : Tab w) (hG : 7 < b) (hp : PAt w base b st) :
    Calls Tryd.prog 21 #[.pointer (some ⟨b, 0, none⟩), .string (str ad), .string (str t)] w fun e w' => e = .returned (resV a (sendL st ad t)) ∧ PAt w' base b (resS st (sendL st ad t)) ∧ Chg b w w' := by
  unfold sendL
  by_cases h1 : 32 < ad.length ∨ 64 < t.length
  · rw [if_pos h1]
    exact (sendLong b ad t h1 ma mt a w hE).mono fun e w' ⟨he, hb⟩ => ⟨he, hp.below hb, Chg.of_bel hb⟩
  · rw [if_neg h1]
    by_cases h2 : st.sk = []
    · rw [if_pos h2]
      exact (sendNone base b st ad t (by omega) (by omega) h2 a w hE hp).mono fun e w' ⟨he, hb⟩ => ⟨he, hp.below hb, Chg.of_bel hb⟩
    · rw [if_neg h2]
      by_cases h3 : 30 ≤ st.sn
      · rw [if_pos h3]
        exact (sendFull base b st ad t (by omega) (by omega) h2 h3 hW.sn a w hE hp).mono fun e w' ⟨he, hb⟩ => ⟨he, hp.below hb, Chg.of_bel hb⟩
      · rw [if_neg h3]
        exact sendOk base b st ad t (by omega) (by omega) hW h2 (by omega) w hT hG hp
end Go.Proofs.YtlchpbnpmgfaoaaDoor
namespace Go.Proofs.YtlchpbnpmgfaoaaDoor
open Go.RowKit

theorem results_ct {P : Program} {fn : Func} {p q : Tmp} {ty : TypeId} (h : fn.results = #[.cell p ty, .tmp q]) (tmps : Array Value) (w : World) (g : Nat) (t : TypeId) (cs : Array Value) (fr : Nat × Nat) (d : TypeDesc) (x : Value)
    (hp : tmps.getD p undef = .pointer (some ⟨g, 0, none⟩)) (hq : tmps.getD q undef = x) (hg : w.heap[g]? = some (.cells cs t fr))
    (hu : P.underlying ty = some d) (hd : (match d with | .struct _ | .array _ _ => true | _ => false) = true) (hi : (P.info? ty).map (·.size) = some cs.size) :
    (results fn tmps).run P w = .ok (.tuple #[.agg cs, x]) w := by
  have hp' : tmps[p]?.getD undef = .pointer (some ⟨g, 0, none⟩) := by simpa using hp
  have hq' : tmps[q]?.getD undef = x := by simpa using hq
  simp [results, h, hp', hq', asAddr, run_loadVar_row w g t ty cs fr d hg hu hd hi]
theorem Tryd.sizePlan : (Tryd.prog.info? 72).map (·.size) = some 2 := by kernel_rfl
theorem rowTwo {w : World} {b : Nat} {x y : Value} {T : TypeId} (h : w.heap[b]? = some (.cells #[x, y] T (0, 0))) : w.cell? ⟨b, 0, none⟩ = some x ∧ w.cell? ⟨b, 1, none⟩ = some y ∧ w.frozen? ⟨b, 0, none⟩ = false ∧ w.frozen? ⟨b, 1, none⟩ = false :=
  ⟨cell_of_row w b 0 _ _ (0, 0) h, cell_of_row w b 1 _ _ (0, 0) h, frozen_of_row w b 0 _ _ h, frozen_of_row w b 1 _ _ h⟩
theorem rowTwoSet {w : World} {b : Nat} {x y x' y' : Value} {T : TypeId} (h : w.heap[b]? = some (.cells #[x, y] T (0, 0))) : ((w.setCell ⟨b, 0, none⟩ x').setCell ⟨b, 1, none⟩ y').heap[b]? = some (.cells #[x', y'] T (0, 0)) :=
  heap_setCell_same _ b 1 _ _ _ (heap_setCell_same _ b 0 _ _ _ h)

set_option maxRecDepth 100000 in
set_option maxHeartbeats 1000000 in
theorem keptAtP (base b bf n : Nat) (st : PSt) (th : List UInt8) (hk : st.kept.length ≤ 1000) (w : World) (hp : PAt w base b st) :
    Calls Tryd.prog 69 #[.pointer (some ⟨b, 0, none⟩), .agg #[.string (str th), .int .i64 (bf : Int), .int .i64 (n : Int)]] w fun e w' => e = .returned (.int .i64 (idxI (findK st.kept th n))) ∧ Bel w.heap.size w w' := by
  obtain ⟨v, hP, hO⟩ := hp
  have c8 := hP.all.2.2.2.2.2.2.2.2
  have hlt := hP.lt
  have HB0 : Hid (Bel w.heap.size w (w.alloc (.cells #[.string (str th), .int .i64 (bf : Int), .int .i64 (n : Int)] 69))) := (Bel.refl _ _).alloc (Nat.le_refl _) _
  have HN0 : Hid ((w.alloc (.cells #[.string (str th), .int .i64 (bf : Int), .int .i64 (n : Int)] 69)).heap[w.heap.size]? = some (.cells #[.string (str th), .int .i64 (bf : Int), .int .i64 (n : Int)] 69 (0, 0))) := heap_alloc_new w _
  have HO0 := hide (hO.below HB0.out)
  have d8 := (HB0.out.cell (p := ⟨b, 8, none⟩) hlt).trans c8
  clear hP hO c8
  go_enter Tryd.func69, Tryd.ntmps69
  go_wp2_with fail
  generalize w.alloc (.cells #[.string (str th), .int .i64 (bf : Int), .int .i64 (n : Int)] 69) = W at *
  refine (kIdxP base w.heap.size n v st.kept th hk _ HO0.out (rowThree HN0.out).1 (rowThree HN0.out).2.2.1).mono ?_
  rintro e w1 ⟨rfl, hb1⟩
  have HB1 := hide (HB0.out.trans (hb1.mono HB0.out.size))
  clear hb1 d8
  generalize hr : idxI (findK st.kept th n) = r at *
  have HR := hide hr
  clear hr
  go_wp2
  go_ret
  exact ⟨by rw [HR.out]; rfl, HB1.out⟩

theorem PAt.setT {w : World} {base b g o : Nat} {st : PSt} {cs : Array Value} {T : TypeId} (h : PAt w base b st) (hg : w.heap[g]? = some (.cells cs T (0, 0))) (hT : T ≠ 79) (hne : b ≠ g) (x : Value) : PAt (w.setCell ⟨g, o, none⟩ x) base b st := by
  obtain ⟨v, hP, hO⟩ := h
  exact ⟨v, (heap_setCell_other w ⟨g, o, none⟩ b x hne).trans hP, hO.chg ((Chg.of_bel (Bel.refl _ _)).setCell o x) hg hT⟩
theorem planEnd {w U : World} {H b' base' : Nat} {st' : PSt} {x y : Value} (hb : Bel w.heap.size w U) (hH : w.heap.size ≤ H) (hN : U.heap[H]? = some (.cells #[x, y] 72 (0, 0))) (hp : PAt U base' b' st') (hne : b' ≠ H) (key : List UInt8) :
    ((U.setCell ⟨H, 0, none⟩ (.string (str key))).setCell ⟨H, 1, none⟩ (.pointer (some ⟨b', 0, none⟩))).heap[H]? = some (.cells #[.string (str key), .pointer (some ⟨b', 0, none⟩)] 72 (0, 0)) ∧
    PAt ((U.setCell ⟨H, 0, none⟩ (.string (str key))).setCell ⟨H, 1, none⟩ (.pointer (some ⟨b', 0, none⟩))) base' b' st' ∧
    Bel w.heap.size w ((U.setCell ⟨H, 0, none⟩ (.string (str key))).setCell ⟨H, 1, none⟩ (.pointer (some ⟨b', 0, none⟩))) :=
  ⟨rowTwoSet hN, (hp.setT hN (by decide) hne _).setT (heap_setCell_same U H 0 _ _ _ hN) (by decide) hne _, (hb.setCell (p := ⟨H, 0, none⟩) hH _).setCell (p := ⟨H, 1, none⟩) hH _⟩

/-- A plan that was made: its key, and the party that goes on. -/
def Planned (w : World) (key : List UInt8) (st' : PSt) (v : Value) (w' : World) : Prop := ∃ b', v = .agg #[.string (str key), .pointer (some ⟨b', 0, none⟩)] ∧ w.heap.size ≤ b' ∧ PAt w' w.heap.size b' st' ∧ Bel w.heap.size w w'

set_option maxRecDepth 100000 in
set_option maxHeartbeats 1000000 in
theorem planKeptP (base b i : Nat) (st : PSt) (hk : st.kept.length ≤ 1000) (hi : i < st.kept.length) (w : World) (hp : PAt w base b st) :
    Calls Tryd.prog 70 #[.pointer (some ⟨b, 0, none⟩), .int .i64 (i : Int)] w fun e w' => ∃ v, e = .returned v ∧ Planned w (st.kept.getD i default).key { st with kept := st.kept.eraseIdx i } v w' := by
  obtain ⟨v, hP, hO⟩ := hp
  have hlt := hP.lt
  obtain ⟨g, c, rfl⟩ := hO.formP (by omega)
  have c8 := hP.all.2.2.2.2.2.2.2.2
  have hgl : g < w.heap.size := by obtain ⟨_, cs, hc⟩ := hO.row g rfl; exact (Array.getElem?_eq_some_iff.1 hc).1
  have hki := hO.cells _ _ (kCells_get st.kept i hi).2.2
  have HB0 : Hid (Bel w.heap.size w (w.alloc (.cells #[.string ⟨#[]⟩, .pointer none] 72))) := (Bel.refl _ _).alloc (Nat.le_refl _) _
  have HN0 : Hid ((w.alloc (.cells #[.string ⟨#[]⟩, .pointer none] 72)).heap[w.heap.size]? = some (.cells #[.string ⟨#[]⟩, .pointer none] 72 (0, 0))) := heap_alloc_new w _
  have HS0 : Hid ((w.alloc (.cells #[.string ⟨#[]⟩, .pointer none] 72)).heap.size = w.heap.size + 1) := by show _ = _; simp
  have HP0 : Hid (PAt (w.alloc (.cells #[.string ⟨#[]⟩, .pointer none] 72)) base b st) := PAt.below ⟨_, hP, hO⟩ HB0.out
  have HE : Hid (st.kept.take i ++ st.kept.drop (i + 1) = st.kept.eraseIdx i) := (List.eraseIdx_eq_take_drop_succ _ _).symm
  clear hP hO
  go_enter Tryd.func70, Tryd.ntmps70
  go_wp2_with fail
  generalize w.alloc (.cells #[.string ⟨#[]⟩, .pointer none] 72) = W at *
  refine (copyP base b st hk _ HP0.out).mono ?_
  rintro e w1 ⟨rfl, hp1, hb1⟩
  have hWs := HS0.out
  rw [hWs] at hp1 ⊢
  have HB1 := hide (HB0.out.trans (hb1.mono HB0.out.size))
  have HN1 := hide ((hb1.block _ (by omega)).trans HN0.out)
  obtain ⟨v1, hP1, hO1⟩ := hp1
  obtain ⟨g1, c1, rfl⟩ := hO1.formP (by omega)
  have HP1 := hide hP1
  have HO1 := hide hO1
  have d8 := hP1.all.2.2.2.2.2.2.2.2
  clear hb1 hP1 hO1
  go_wp2_with fail
  rw [show (i : Int) + 1 = ((i + 1 : Nat) : Int) by omega]
  refine (kDelP (w.heap.size + 1) g1 c1 i (i + 1) st.kept.length st.kept rfl (by omega) (by omega) _ HO1.out).mono ?_
  rintro e w2 ⟨rfl, ho2, hc2⟩
  rw [HE.out] at ho2
  have hbg := (HO1.out.row g1 rfl).1
  have HP2 := hide (HP1.out.chgO HO1.out rfl hc2)
  have HB2 := hide (HB1.out.trans (hc2.bel (show w.heap.size ≤ g1 by omega) HB1.out.size))
  have HN2 : Hid (w2.heap[w.heap.size]? = some (.cells #[.string ⟨#[]⟩, .pointer none] 72 (0, 0))) := (hc2.block _ (Array.getElem?_eq_some_iff.1 HN1.out).1 (by omega)).trans HN1.out
  have d8 := HP2.out.all.2.2.2.2.2.2.2.2
  have f8 := HP2.out.frozen 8
  have c8' := (HB2.out.cell (p := ⟨b, 8, none⟩) hlt).trans c8
  have hki' := (HB2.out.cell (p := ⟨g, i * 3 + 2, none⟩) hgl).trans hki
  obtain ⟨r0, r1, s0, s1⟩ := rowTwo HN2.out
  have HF := hide (pAt_set HP2.out ho2)
  have hne : b ≠ w.heap.size + 1 := by omega
  have hne2 : g ≠ w.heap.size + 1 := by omega
  have hlz : (i : Int) < (st.kept.length : Int) := by omega
  clear ho2 hc2 c8 hki
  generalize hky : (st.kept.getD i default).key = key at *
  have HKY := hide hky
  clear hky
  have HN3 : Hid ((w2.setCell ⟨w.heap.size + 1, 8, none⟩ (.slice (some ⟨g1, 0, none⟩) (i + (st.kept.length - (i + 1))) c1)).heap[w.heap.size]? = some (.cells #[.string ⟨#[]⟩, .pointer none] 72 (0, 0))) := (heap_setCell_other w2 _ _ _ (show w.heap.size ≠ w.heap.size + 1 by omega)).trans HN2.out
  have HB3 := hide (HB2.out.setCell (p := ⟨w.heap.size + 1, 8, none⟩) (show w.heap.size ≤ w.heap.size + 1 by omega) (.slice (some ⟨g1, 0, none⟩) (i + (st.kept.length - (i + 1))) c1))
  have HX := planEnd HB3.out (Nat.le_refl _) HN3.out (HF.out.base (show w.heap.size ≤ w.heap.size + 1 by omega)) (by omega) key
  have HX := hide HX
  go_wp2
  exact bodyPost_ret (v := .agg #[.string (str key), .pointer (some ⟨w.heap.size + 1, 0, none⟩)]) (results_cell_row (P := Tryd.prog) Tryd.results70 _ _ w.heap.size 72 _ (0, 0) _ rfl HX.out.1 Tryd.underlying72 rfl Tryd.sizePlan) rfl ⟨_, rfl, _, by rw [HKY.out], by omega, HX.out.2.1, HX.out.2.2⟩

/-- What planNext and planTurn begin with: the head at H, a plan at H + 1. -/
structure PF (W : World) (w : World) (base b : Nat) (st : PSt) (th : List UInt8) (bf n : Nat) : Prop where
  bel : Bel w.heap.size w W
  size : w.heap.size + 2 ≤ W.heap.size
  hd : W.heap[w.heap.size]? = some (.cells #[.string (str th), .int .i64 (bf : Int), .int .i64 (n : Int)] 69 (0, 0))
  pl : W.heap[w.heap.size + 1]? = some (.cells #[.string ⟨#[]⟩, .pointer none] 72 (0, 0))
  p : PAt W base b st
theorem PF.start {w : World} {base b : Nat} {st : PSt} (th : List UInt8) (bf n : Nat) (hp : PAt w base b st) : PF ((w.alloc (.cells #[.string (str th), .int .i64 (bf : Int), .int .i64 (n : Int)] 69)).alloc (.cells #[.string ⟨#[]⟩, .pointer none] 72)) w base b st th bf n := by
  have h : Bel w.heap.size w ((w.alloc (.cells #[.string (str th), .int .i64 (bf : Int), .int .i64 (n : Int)] 69)).alloc (.cells #[.string ⟨#[]⟩, .pointer none] 72)) := ((Bel.refl _ _).alloc (Nat.le_refl _) _).alloc (by simp) _
  exact ⟨h, by simp, heap_alloc2_old w _ _, heap_alloc2_new w _ _, hp.below h⟩
theorem PF.below {W W' w : World} {base b bf n : Nat} {st : PSt} {th : List UInt8} (h : PF W w base b st th bf n) (hb : Bel W.heap.size W W') : PF W' w base b st th bf n :=
  ⟨h.bel.trans (hb.mono h.bel.size), Nat.le_trans h.size hb.size, (hb.block _ (Array.getElem?_eq_some_iff.1 h.hd).1).trans h.hd, (hb.block _ (Array.getElem?_eq_some_iff.1 h.pl).1).trans h.pl, h.p.below hb⟩
theorem PF.drew {W w : World} {base b bf n : Nat} {st : PSt} {th : List UInt8} (h : PF W w base b st th bf n) : PF W.drew w base b st th bf n := ⟨h.bel.drew, h.size, h.hd, h.pl, h.p⟩
theorem PF.bel2 {W W' w : World} {base b bf n B : Nat} {st : PSt} {th : List UInt8} (h : PF W w base b st th bf n) (hb : Bel B W W') (hB : w.heap.size + 2 ≤ B) : Bel w.heap.size w W' ∧ W'.heap[w.heap.size]? = some (.cells #[.string (str th), .int .i64 (bf : Int), .int .i64 (n : Int)] 69 (0, 0)) ∧ W'.heap[w.heap.size + 1]? = some (.cells #[.string ⟨#[]⟩, .pointer none] 72 (0, 0)) :=
  ⟨h.bel.trans (hb.mono (by omega)), (hb.block _ (by omega)).trans h.hd, (hb.block _ (by omega)).trans h.pl⟩
end Go.Proofs.YtlchpbnpmgfaoaaDoor
namespace Go.Proofs.YtlchpbnpmgfaoaaDoor
open Go.RowKit

def nilPlan : Value := .agg #[.string ⟨#[]⟩, .pointer none]
theorem notEmpty (l : List UInt8) (h : l ≠ []) : (!l.isEmpty) = true := by cases l with
  | nil => exact absurd rfl h
  | cons _ _ => rfl

set_option maxRecDepth 100000 in
set_option maxHeartbeats 1000000 in
theorem planNextOld0 (base b bf n : Nat) (st : PSt) (th : List UInt8) (hr : st.rk = []) (a : Nat → Addr) (w : World) (hE : Errs w a) (hp : PAt w base b st) :
    Calls Tryd.prog 71 #[.pointer (some ⟨b, 0, none⟩), .agg #[.string (str th), .int .i64 (bf : Int), .int .i64 (n : Int)]] w fun e w' => e = .returned (.tuple #[nilPlan, errV a 3]) ∧ Bel w.heap.size w w' := by
  have hlt := hp.lt
  have HF := hide (PF.start th bf n hp)
  have HE := hide (hE.below HF.out.bel)
  have hgl : 3 ≠ w.heap.size + 1 := by have h : 3 < w.heap.size := cell_lt hE.at.2.2.2.1; omega
  clear hp hE
  go_enter Tryd.func71, Tryd.ntmps71
  go_wp2_with fail
  generalize (w.alloc (.cells #[.string (str th), .int .i64 (bf : Int), .int .i64 (n : Int)] 69)).alloc (.cells #[.string ⟨#[]⟩, .pointer none] 72) = W at *
  have c6 := HF.out.p.choose_spec.1.all.2.2.2.2.2.2.1
  have c7 := HF.out.p.choose_spec.1.all.2.2.2.2.2.2.2.1
  obtain ⟨h0, h1, h2, _⟩ := rowThree HF.out.hd
  obtain ⟨r0, r1, s0, s1⟩ := rowTwo HF.out.pl
  have gE := HE.out.at.2.2.2.1
  rw [hr] at c6
  go_quiet (first | (go_at_call 38; refine Calls.quiet_of_same (begunP b 6 [] (W.drewN _) c6)))
  go_wp2
  go_region
  all_goals go_wp2
  all_goals exact bodyPost_ret (v := .tuple #[nilPlan, errV a 3]) (results_ct (P := Tryd.prog) Tryd.results71 _ _ (w.heap.size + 1) 72 _ (0, 0) _ _ rfl rfl (rowTwoSet (w := W.drewN _) HF.out.pl) Tryd.underlying72 rfl Tryd.sizePlan) rfl ⟨rfl, ((belowN HF.out.bel _).setCell (p := ⟨w.heap.size + 1, 0, none⟩) (show w.heap.size ≤ w.heap.size + 1 by omega) _).setCell (p := ⟨w.heap.size + 1, 1, none⟩) (show w.heap.size ≤ w.heap.size + 1 by omega) _⟩

set_option maxRecDepth 100000 in
set_option maxHeartbeats 1000000 in
theorem planNextOld1 (base b bf n : Nat) (st : PSt) (th : List UInt8) (hr : st.rk ≠ []) (hn : n < st.rn) (a : Nat → Addr) (w : World) (hE : Errs w a) (hp : PAt w base b st) :
    Calls Tryd.prog 71 #[.pointer (some ⟨b, 0, none⟩), .agg #[.string (str th), .int .i64 (bf : Int), .int .i64 (n : Int)]] w fun e w' => e = .returned (.tuple #[nilPlan, errV a 3]) ∧ Bel w.heap.size w w' := by
  have hlt := hp.lt
  have HF := hide (PF.start th bf n hp)
  have HE := hide (hE.below HF.out.bel)
  have hgl : 3 ≠ w.heap.size + 1 := by have h : 3 < w.heap.size := cell_lt hE.at.2.2.2.1; omega
  clear hp hE
  go_enter Tryd.func71, Tryd.ntmps71
  go_wp2_with fail
  generalize (w.alloc (.cells #[.string (str th), .int .i64 (bf : Int), .int .i64 (n : Int)] 69)).alloc (.cells #[.string ⟨#[]⟩, .pointer none] 72) = W at *
  have c6 := HF.out.p.choose_spec.1.all.2.2.2.2.2.2.1
  have c7 := HF.out.p.choose_spec.1.all.2.2.2.2.2.2.2.1
  obtain ⟨h0, h1, h2, _⟩ := rowThree HF.out.hd
  obtain ⟨r0, r1, s0, s1⟩ := rowTwo HF.out.pl
  have gE := HE.out.at.2.2.2.1
  have hb1 := notEmpty _ hr
  have hz : (n : Int) < (st.rn : Int) := by omega
  go_quiet (first | (go_at_call 38; refine Calls.quiet_of_same (begunP b 6 st.rk (W.drewN _) c6)))
  go_wp2
  go_region
  all_goals go_wp2
  all_goals exact bodyPost_ret (v := .tuple #[nilPlan, errV a 3]) (results_ct (P := Tryd.prog) Tryd.results71 _ _ (w.heap.size + 1) 72 _ (0, 0) _ _ rfl rfl (rowTwoSet (w := W.drewN _) HF.out.pl) Tryd.underlying72 rfl Tryd.sizePlan) rfl ⟨rfl, ((belowN HF.out.bel _).setCell (p := ⟨w.heap.size + 1, 0, none⟩) (show w.heap.size ≤ w.heap.size + 1 by omega) _).setCell (p := ⟨w.heap.size + 1, 1, none⟩) (show w.heap.size ≤ w.heap.size + 1 by omega) _⟩

set_option maxRecDepth 100000 in
set_option maxHeartbeats 1000000 in
theorem planNextFar (base b bf n : Nat) (st : PSt) (th : List UInt8) (hr : st.rk ≠ []) (hn : st.rn + 10 < n) (hb : st.rn ≤ 70000) (a : Nat → Addr) (w : World) (hE : Errs w a) (hp : PAt w base b st) :
    Calls Tryd.prog 71 #[.pointer (some ⟨b, 0, none⟩), .agg #[.string (str th), .int .i64 (bf : Int), .int .i64 (n : Int)]] w fun e w' => e = .returned (.tuple #[nilPlan, errV a 4]) ∧ Bel w.heap.size w w' := by
  have hlt := hp.lt
  have HF := hide (PF.start th bf n hp)
  have HE := hide (hE.below HF.out.bel)
  have hgl : 4 ≠ w.heap.size + 1 := by have h : 4 < w.heap.size := cell_lt hE.at.2.2.2.2.1; omega
  clear hp hE
  go_enter Tryd.func71, Tryd.ntmps71
  go_wp2_with fail
  generalize (w.alloc (.cells #[.string (str th), .int .i64 (bf : Int), .int .i64 (n : Int)] 69)).alloc (.cells #[.string ⟨#[]⟩, .pointer none] 72) = W at *
  have c6 := HF.out.p.choose_spec.1.all.2.2.2.2.2.2.1
  have c7 := HF.out.p.choose_spec.1.all.2.2.2.2.2.2.2.1
  obtain ⟨h0, h1, h2, _⟩ := rowThree HF.out.hd
  obtain ⟨r0, r1, s0, s1⟩ := rowTwo HF.out.pl
  have gE := HE.out.at.2.2.2.2.1
  have hb1 := notEmpty _ hr
  have hz : decide ((n : Int) < (st.rn : Int)) = false := by rw [decide_eq_false_iff_not]; omega
  have hz2 : (st.rn : Int) + 10 < (n : Int) := by omega
  go_quiet (first | (go_at_call 38; refine Calls.quiet_of_same (begunP b 6 st.rk (W.drewN _) c6)))
  go_wp2_with fail
  go_quiet (fail)
  go_wp2
  go_region
  all_goals go_wp2
  all_goals exact bodyPost_ret (v := .tuple #[nilPlan, errV a 4]) (results_ct (P := Tryd.prog) Tryd.results71 _ _ (w.heap.size + 1) 72 _ (0, 0) _ _ rfl rfl (rowTwoSet (w := W.drewN _) HF.out.pl) Tryd.underlying72 rfl Tryd.sizePlan) rfl ⟨rfl, ((belowN HF.out.bel _).setCell (p := ⟨w.heap.size + 1, 0, none⟩) (show w.heap.size ≤ w.heap.size + 1 by omega) _).setCell (p := ⟨w.heap.size + 1, 1, none⟩) (show w.heap.size ≤ w.heap.size + 1 by omega) _⟩

theorem copyAt (base b q : Nat) (st : PSt) (hk : st.kept.length ≤ 1000) (W : World) (hp : PAt W base b st) (B : Nat) (hB : B = W.heap.size) :
    Calls Tryd.prog 26 #[.pointer (some ⟨b, 0, none⟩)] (W.drewN q) fun e w' => e = .returned (.pointer (some ⟨B, 0, none⟩)) ∧ PAt w' B B st ∧ Bel B W w' := by
  rw [hB]
  exact (copyP base b st hk (W.drewN q) hp).mono fun e w' ⟨h1, h2, h3⟩ => ⟨h1, h2, Bel.ofDrewN h3⟩

set_option maxRecDepth 100000 in
set_option maxHeartbeats 1000000 in
theorem planNextOk (base b bf n : Nat) (st : PSt) (th : List UInt8) (hW : st.Wf) (hr : st.rk ≠ []) (hn : st.rn ≤ n) (hn2 : n ≤ st.rn + 10) (hn3 : n < 65536) (w : World) (hT : Tab w) (hp : PAt w base b st) :
    Calls Tryd.prog 71 #[.pointer (some ⟨b, 0, none⟩), .agg #[.string (str th), .int .i64 (bf : Int), .int .i64 (n : Int)]] w fun e w' => ∃ v, e = .returned (.tuple #[v, .nilIface]) ∧ Planned w (reachK st n) (reachS st n) v w' := by
  have hlt := hp.lt
  have HF := hide (PF.start th bf n hp)
  have HT := hide hT
  have hrn := hW.rn
  have hkl := hW.kept
  have HW := hide hW
  clear hp hT hW
  go_enter Tryd.func71, Tryd.ntmps71
  go_wp2_with fail
  generalize (w.alloc (.cells #[.string (str th), .int .i64 (bf : Int), .int .i64 (n : Int)] 69)).alloc (.cells #[.string ⟨#[]⟩, .pointer none] 72) = W at *
  have c6 := HF.out.p.choose_spec.1.all.2.2.2.2.2.2.1
  have c7 := HF.out.p.choose_spec.1.all.2.2.2.2.2.2.2.1
  obtain ⟨h0, h1, h2, _⟩ := rowThree HF.out.hd
  have hb1 := notEmpty _ hr
  have hz : ¬ (n : Int) < (st.rn : Int) := by omega
  have hz2 : ¬ (st.rn : Int) + 10 < (n : Int) := by omega
  have hz3 : decide ((st.rn : Int) + 10 < (n : Int)) = false := by rw [decide_eq_false_iff_not]; omega
  have hz4 : decide ((n : Int) < (st.rn : Int)) = false := by rw [decide_eq_false_iff_not]; omega
  obtain ⟨B, hB⟩ : ∃ B, B = W.heap.size := ⟨_, rfl⟩
  have hBs : w.heap.size + 2 ≤ B := by rw [hB]; exact HF.out.size
  have HCP : Hid (∀ q, Calls Tryd.prog 26 #[.pointer (some ⟨b, 0, none⟩)] (W.drewN q) fun e w' => e = .returned (.pointer (some ⟨B, 0, none⟩)) ∧ PAt w' B B st ∧ Bel B W w') := fun q => copyAt base b q st (by omega) W HF.out.p B hB
  clear hB
  go_quiet (first | (go_at_call 38; refine Calls.quiet_of_same (begunP b 6 st.rk (W.drewN _) c6)))
  go_wp2_with fail
  go_quiet (fail)
  go_wp2_with fail
  refine (HCP.out _).mono ?_
  rintro e w1 ⟨rfl, hp1, hb1'⟩
  obtain ⟨q1, q2, q3⟩ := HF.out.bel2 hb1' hBs
  have HP1 := hide hp1
  have HB1 := hide q1
  have HH1 := hide q2
  have HL1 := hide q3
  obtain ⟨h0', h1', h2', _⟩ := rowThree HH1.out
  clear hp1 hb1' q1 q2 q3 c6 c7 h0 h1 h2 hb1
  have HG : Hid (7 < B) := by have h := HT.out.lt; show _ < _; omega
  go_wp2_with fail
  refine (reachP B B n st HW.out hr (by omega) _ (HT.out.below HB1.out) HG.out HP1.out (Nat.le_refl _)).mono ?_
  rintro e w2 ⟨rfl, hp2, hb2⟩
  have HL2 : Hid (w2.heap[w.heap.size + 1]? = some (.cells #[.string ⟨#[]⟩, .pointer none] 72 (0, 0))) := (hb2.block _ (by omega)).trans HL1.out
  obtain ⟨r0, r1, s0, s1⟩ := rowTwo HL2.out
  generalize hky : reachK st n = key at *
  have HKY := hide hky
  have HX := hide (planEnd (HB1.out.trans (hb2.mono (by omega))) (show w.heap.size ≤ w.heap.size + 1 by omega) HL2.out (hp2.base (show w.heap.size ≤ B by omega)) (show B ≠ w.heap.size + 1 by omega) key)
  clear hky hp2 hb2 h0' h1' h2'
  go_wp2
  exact bodyPost_ret (v := .tuple #[.agg #[.string (str key), .pointer (some ⟨B, 0, none⟩)], .nilIface]) (results_ct (P := Tryd.prog) Tryd.results71 _ _ (w.heap.size + 1) 72 _ (0, 0) _ _ rfl rfl HX.out.1 Tryd.underlying72 rfl Tryd.sizePlan) rfl ⟨_, rfl, B, by rw [HKY.out], by omega, HX.out.2.1, HX.out.2.2⟩
end Go.Proofs.YtlchpbnpmgfaoaaDoor
namespace Go.Proofs.YtlchpbnpmgfaoaaDoor
open Go.RowKit

theorem head_len (st : PSt) : (hdL st).length = 36 := by unfold hdL; rw [List.length_append, List.length_append, x25519_length, bigB_length, bigB_length]
theorem frame_len (st : PSt) (ad t : List UInt8) : (frameL st ad t).length = 52 + t.length := by unfold frameL; rw [List.length_append, head_len, sealL_length]; omega
theorem frame_take36 (st : PSt) (ad t : List UInt8) : (frameL st ad t).take 36 = hdL st := by
  unfold frameL; rw [← head_len st, List.take_left]
theorem frame_drop36 (st : PSt) (ad t : List UInt8) : (frameL st ad t).drop 36 = sealL (mkK st.sk) (ad ++ hdL st) t := by
  have h := head_len st
  unfold frameL
  generalize hdL st = x at *
  rw [← h, List.drop_left]
theorem frame_take32 (st : PSt) (ad t : List UInt8) : (frameL st ad t).take 32 = x25519 st.secret nine := by
  unfold frameL hdL
  rw [List.append_assoc, List.append_assoc]
  have h := x25519_length st.secret nine
  generalize x25519 st.secret nine = x at *
  rw [← h, List.take_left]
theorem bigB2 (n : Nat) : bigB n 2 = [UInt8.ofNat (n / 256), UInt8.ofNat n] := by
  simp [bigB]
theorem two_of (a r : List UInt8) (n : Nat) (hn : n < 65536) : two (a ++ (bigB n 2 ++ r)) a.length = n := by
  unfold two
  rw [byteAt_append_right a (bigB n 2 ++ r) _ (Nat.le_refl _), byteAt_append_right a (bigB n 2 ++ r) (a.length + 1) (by omega), Nat.sub_self, show a.length + 1 - a.length = 1 by omega, bigB2]
  show (UInt8.ofNat (n / 256)).toNat * 256 + (UInt8.ofNat n).toNat = n
  rw [UInt8.toNat_ofNat', UInt8.toNat_ofNat']
  omega
theorem frame_two32 (st : PSt) (ad t : List UInt8) (h : st.before < 65536) : two (frameL st ad t) 32 = st.before := by
  unfold frameL hdL
  have hl := x25519_length st.secret nine
  generalize x25519 st.secret nine = x at *
  rw [List.append_assoc, List.append_assoc, ← hl]
  exact two_of _ _ _ h
theorem frame_two34 (st : PSt) (ad t : List UInt8) (h : st.sn < 65536) : two (frameL st ad t) 34 = st.sn := by
  unfold frameL hdL
  have hl := x25519_length st.secret nine
  generalize x25519 st.secret nine = x at *
  rw [List.append_assoc, show (34 : Nat) = (x ++ bigB st.before 2).length by rw [List.length_append, hl, bigB_length]]
  exact two_of _ _ _ h

theorem recv_plan (st S : PSt) (ad t draw : List UInt8) (ha : ad.length ≤ 32) (ht : t.length ≤ 64) (hd : draw.length = 32) (hb : S.before < 65536) (hn : S.sn < 65536) :
    recvL st ad (frameL S ad t) draw = match planL st (x25519 S.secret nine) S.before S.sn draw with
      | .error e => .error e
      | .ok (key, st') => if goodTag key (ad ++ hdL S) (sealL (mkK S.sk) (ad ++ hdL S) t) then .ok (boxL (k1 key) ((sealL (mkK S.sk) (ad ++ hdL S) t).take ((sealL (mkK S.sk) (ad ++ hdL S) t).length - 16)), st') else .error 3 := by
  have hl := frame_len S ad t
  unfold recvL
  rw [if_neg (by omega), if_neg (by omega), if_neg (by omega), frame_take32, frame_two32 _ _ _ hb, frame_two34 _ _ _ hn, frame_take36, frame_drop36]
  all_goals (generalize planL st (x25519 S.secret nine) S.before S.sn draw = x; rcases x with e | ⟨key, st'⟩ <;> rfl)
theorem recv_ok (st S : PSt) (ad t draw : List UInt8) (ha : ad.length ≤ 32) (ht : t.length ≤ 64) (hd : draw.length = 32) (hb : S.before < 65536) (hn : S.sn < 65536) (st' : PSt)
    (hp : planL st (x25519 S.secret nine) S.before S.sn draw = .ok (mkK S.sk, st')) : recvL st ad (frameL S ad t) draw = .ok (t, st') := by
  rw [recv_plan st S ad t draw ha ht hd hb hn, hp]
  have h1 := seal_good (mkK S.sk) (ad ++ hdL S) t
  have h2 := seal_open (mkK S.sk) (ad ++ hdL S) t
  simp only [if_pos h1, h2]
theorem recv_no (st S : PSt) (ad t draw : List UInt8) (ha : ad.length ≤ 32) (ht : t.length ≤ 64) (hd : draw.length = 32) (hb : S.before < 65536) (hn : S.sn < 65536) (e : Nat)
    (hp : planL st (x25519 S.secret nine) S.before S.sn draw = .error e) : recvL st ad (frameL S ad t) draw = .error e := by
  rw [recv_plan st S ad t draw ha ht hd hb hn, hp]

/-- The kept keys of a chain: of the first m messages those that have not come. -/
def keptOf (P C : List UInt8) (m : Nat) (done : List Nat) : List KK := ((List.range m).filter fun i => decide (i ∉ done)).map fun i => ⟨P, i, mkK (nxN C i)⟩
theorem keptOf_mem {P C : List UInt8} {m : Nat} {done : List Nat} {k : KK} (h : k ∈ keptOf P C m done) : k.n < m ∧ k.n ∉ done := by
  unfold keptOf at h
  rw [List.mem_map] at h
  obtain ⟨i, hi, rfl⟩ := h
  rw [List.mem_filter, List.mem_range] at hi
  exact ⟨hi.1, by simpa using hi.2⟩
theorem keptOf_length (P C : List UInt8) (m : Nat) (done : List Nat) : (keptOf P C m done).length ≤ m := by
  unfold keptOf
  rw [List.length_map]
  exact Nat.le_trans (List.length_filter_le _ _) (by rw [List.length_range]; exact Nat.le_refl _)
theorem keptOf_succ (P C : List UInt8) (m : Nat) (done : List Nat) (h : m ∉ done) : keptOf P C (m + 1) done = keptOf P C m done ++ [⟨P, m, mkK (nxN C m)⟩] := by
  unfold keptOf
  rw [List.range_succ, List.filter_append, List.map_append]
  simp [h]
theorem keptOf_skip (P C : List UInt8) (m : Nat) (done : List Nat) (h : ∀ i ∈ done, i < m) : ∀ k, keptOf P C m done ++ skipL P (nxN C m) m k = keptOf P C (m + k) done
  | 0 => by simp [skipL]
  | k + 1 => by
    rw [skipL, ← List.append_assoc, keptOf_skip P C m done h k, nxN_add, ← Nat.add_assoc, keptOf_succ _ _ _ _ (fun hm => by have := h _ hm; omega)]
theorem keptOf_done (P C : List UInt8) (n : Nat) (done : List Nat) : keptOf P C (n + 1) (n :: done) = keptOf P C n done := by
  unfold keptOf
  rw [List.range_succ, List.filter_append, List.map_append]
  simp
  congr 1
  apply List.filter_congr
  intro i hi
  rw [List.mem_range] at hi
  simp
  intro e
  omega
theorem find_in (P : List UInt8) (K : Nat → List UInt8) (n : Nat) : ∀ L : List Nat, L.Nodup → n ∈ L →
    ∃ i, findK (L.map fun j => (⟨P, j, K j⟩ : KK)) P n = some i ∧ ((L.map fun j => (⟨P, j, K j⟩ : KK)).getD i default).key = K n ∧ (L.map fun j => (⟨P, j, K j⟩ : KK)).eraseIdx i = (L.filter fun j => decide (j ≠ n)).map fun j => (⟨P, j, K j⟩ : KK)
  | [], _, h => by cases h
  | a :: L, hd, h => by
    rw [List.nodup_cons] at hd
    by_cases e : a = n
    · subst e
      refine ⟨0, ?_, rfl, ?_⟩
      · simp [findK, List.findIdx?_cons, hitK]
      · rw [List.map_cons, List.eraseIdx_cons_zero, List.filter_cons_of_neg (by simp)]
        congr 1
        symm
        rw [List.filter_eq_self]
        intro j hj
        simp
        rintro rfl
        exact hd.1 hj
    · obtain ⟨i, h1, h2, h3⟩ := find_in P K n L hd.2 ((List.mem_cons.1 h).resolve_left (Ne.symm e))
      refine ⟨i + 1, ?_, ?_, ?_⟩
      · unfold findK at h1 ⊢
        rw [List.map_cons, List.findIdx?_cons, if_neg (by simp [hitK, e]), h1]
        rfl
      · rw [List.map_cons, List.getD_cons_succ]; exact h2
      · rw [List.map_cons, List.eraseIdx_cons_succ, h3, List.filter_cons_of_pos (by simpa using e), List.map_cons]
theorem keptOf_erase (P C : List UInt8) (m n : Nat) (done : List Nat) (h : n < m) (hn : n ∉ done) :
    ∃ i, findK (keptOf P C m done) P n = some i ∧ ((keptOf P C m done).getD i default).key = mkK (nxN C n) ∧ (keptOf P C m done).eraseIdx i = keptOf P C m (n :: done) := by
  obtain ⟨i, h1, h2, h3⟩ := find_in P (fun j => mkK (nxN C j)) n ((List.range m).filter fun i => decide (i ∉ done)) (List.nodup_range.filter _) (by rw [List.mem_filter, List.mem_range]; exact ⟨h, by simpa using hn⟩)
  refine ⟨i, h1, h2, h3.trans ?_⟩
  unfold keptOf
  rw [List.filter_filter]
  congr 1
  apply List.filter_congr
  intro j _
  simp [not_or]
theorem keptOf_none (P C : List UInt8) (m n : Nat) (done : List Nat) (h : m ≤ n ∨ n ∈ done) : findK (keptOf P C m done) P n = none := by
  unfold findK
  rw [List.findIdx?_eq_none_iff]
  intro k hk
  have := keptOf_mem hk
  simp only [hitK, Bool.and_eq_false_iff, decide_eq_false_iff_not]
  refine .inr fun e => ?_
  subst e
  rcases h with h | h
  · omega
  · exact this.2 h

/-- The receiving party: m messages of the chain have been reached, those of 'done' have come. -/
def postS (Q : PSt) (C : List UInt8) (m : Nat) (done : List Nat) : PSt := { Q with rk := nxN C m, rn := m, kept := keptOf Q.theirs C m done }
theorem nxN_ne (C : List UInt8) (h : C.length = 32) (m : Nat) : nxN C m ≠ [] := by
  intro e
  have := nxN_length C h m
  rw [e] at this
  cases this
theorem plan_next (Q : PSt) (C : List UInt8) (hC : C.length = 32) (m n bf : Nat) (done : List Nat) (draw : List UInt8) (hd : ∀ i ∈ done, i < m) (h1 : m ≤ n) (h2 : n ≤ 10) :
    planL (postS Q C m done) Q.theirs bf n draw = .ok (mkK (nxN C n), postS Q C (n + 1) (n :: done)) := by
  have hk := keptOf_none Q.theirs C m n done (.inl h1)
  have hne := nxN_ne C hC m
  have e1 : nxN (nxN C m) (n - m) = nxN C n := by rw [nxN_add, show m + (n - m) = n by omega]
  have e2 : nxN (nxN C m) (n - m + 1) = nxN C (n + 1) := by rw [nxN_add, show m + (n - m + 1) = n + 1 by omega]
  have e3 : keepL (keptOf Q.theirs C m done) (skipL Q.theirs (nxN C m) m (n - m)) = keptOf Q.theirs C (n + 1) (n :: done) := by
    have := keptOf_length Q.theirs C m done
    rw [keepL_few _ _ (by rw [skipL_length]; omega), keptOf_skip _ _ _ _ hd, show m + (n - m) = n by omega, keptOf_done]
  have e4 : m + (n - m) + 1 = n + 1 := by omega
  rw [planL_same (postS Q C m done) Q.theirs bf n draw hk rfl (by rintro (h | h); exact hne h; exact absurd h (show ¬ n < m by omega)) (show ¬ m + 10 < n by omega)]
  simp only [reachK, reachS, postS, e1, e2, e3, e4]
theorem plan_kept (Q : PSt) (C : List UInt8) (m n bf : Nat) (done : List Nat) (draw : List UInt8) (h1 : n < m) (h2 : n ∉ done) :
    planL (postS Q C m done) Q.theirs bf n draw = .ok (mkK (nxN C n), postS Q C m (n :: done)) := by
  obtain ⟨i, hi, hk, he⟩ := keptOf_erase Q.theirs C m n done h1 h2
  rw [planL_kept (postS Q C m done) Q.theirs bf n draw i hi]
  simp only [postS, hk, he]
theorem plan_again (Q : PSt) (C : List UInt8) (m n bf : Nat) (done : List Nat) (draw : List UInt8) (h1 : n < m) (h2 : n ∈ done) :
    planL (postS Q C m done) Q.theirs bf n draw = .error 3 := by
  have hk := keptOf_none Q.theirs C m n done (.inr h2)
  exact planL_old (postS Q C m done) Q.theirs bf n draw hk rfl (.inr h1)
/-- The party behind a turn. -/
def afterS (R : PSt) (P draw : List UInt8) : PSt := ⟨turnR (turnR R.root R.secret P) draw P, draw, P, turnC (turnR R.root R.secret P) draw P, 0, R.sn, [], 0, []⟩
theorem elder_same (R : PSt) (bf : Nat) (hk : R.kept = []) (h : R.rk = [] ∨ bf ≤ R.rn) : elder R bf = R := by
  unfold elder
  split
  · rfl
  · rename_i hne
    have h2 : bf - R.rn = 0 := by have := h.resolve_left hne; omega
    unfold elderS
    rw [h2, hk]
    cases R
    simp only at hk
    subst hk
    rfl
theorem plan_turn (R : PSt) (P : List UInt8) (bf n : Nat) (draw : List UInt8) (hk : R.kept = []) (ht : P ≠ R.theirs) (hb : R.rk = [] ∨ bf ≤ R.rn) (hn : n ≤ 10) :
    planL R P bf n draw = .ok (mkK (nxN (turnC R.root R.secret P) n), postS (afterS R P draw) (turnC R.root R.secret P) (n + 1) [n]) := by
  have e3 : keepL [] (skipL P (turnC R.root R.secret P) 0 n) = keptOf P (turnC R.root R.secret P) (n + 1) [n] := by
    have := keptOf_skip P (turnC R.root R.secret P) 0 [] (fun i hi => by cases hi) n
    rw [keepL_few _ _ (by rw [skipL_length]; simp; omega), keptOf_done]
    simpa [keptOf, nxN] using this
  rw [planL_turn R P bf n draw (by rw [hk]; rfl) ht (by
    rintro (⟨h1, h2⟩ | h)
    · have := hb.resolve_left h1; omega
    · omega), elder_same R bf hk hb]
  simp only [reachK, reachS, turnIn, turnOut, postS, afterS, Nat.sub_zero, Nat.zero_add, hk, e3]

/-- S sends a chain from its begin on; R is there to receive it. -/
structure Lk (S R : PSt) : Prop where
  sk : S.sk = turnC R.root R.secret (x25519 S.secret nine)
  root : S.root = turnR R.root R.secret (x25519 S.secret nine)
  sn : S.sn = 0
  bf : S.before < 65536
  skept : S.kept = []
  rkept : R.kept = []
  ne : x25519 S.secret nine ≠ R.theirs
  rk : R.rk = [] ∨ S.before ≤ R.rn
/-- The sender behind i messages. -/
def sentS (S : PSt) (i : Nat) : PSt := { S with sk := nxN S.sk i, sn := i }
theorem sentS_step (S : PSt) (i : Nat) : stepS (sentS S i) = sentS S (i + 1) := rfl
/-- What the receiver is, when the messages of 'done' have come. -/
def RInv (S R : PSt) (draw : List UInt8) (len : Nat) (done : List Nat) (st : PSt) : Prop :=
  (done = [] ∧ st = R) ∨ (∃ m, m ≤ len ∧ (∀ i ∈ done, i < m) ∧ st = postS (afterS R (x25519 S.secret nine) draw) S.sk m done)
theorem Lk.skl {S R : PSt} (h : Lk S R) : S.sk.length = 32 := by rw [h.sk]; exact turnC_length _ _ _
theorem RInv.step {S R : PSt} {draw : List UInt8} {len : Nat} {done : List Nat} {st : PSt} (h : RInv S R draw len done st) (hl : Lk S R) (hd : draw.length = 32) (n : Nat) (hn : n < len) (h11 : len ≤ 11) (hnd : n ∉ done)
    (ad t : List UInt8) (ha : ad.length ≤ 32) (ht : t.length ≤ 64) :
    ∃ st', recvL st ad (frameL (sentS S n) ad t) draw = .ok (t, st') ∧ RInv S R draw len (n :: done) st' ∧ recvL st' ad (frameL (sentS S n) ad t) draw = .error 3 := by
  have hb : (sentS S n).before < 65536 := hl.bf
  have hsn : (sentS S n).sn < 65536 := by show n < 65536; omega
  have key : ∀ m' done', n < m' → n ∈ done' → recvL (postS (afterS R (x25519 S.secret nine) draw) S.sk m' done') ad (frameL (sentS S n) ad t) draw = .error 3 := fun m' done' h1 h2 =>
    recv_no _ (sentS S n) ad t draw ha ht hd hb hsn 3 (plan_again (afterS R (x25519 S.secret nine) draw) S.sk m' n _ done' draw h1 h2)
  rcases h with ⟨rfl, rfl⟩ | ⟨m, hm, hdm, rfl⟩
  · have hp := plan_turn st (x25519 S.secret nine) (sentS S n).before n draw hl.rkept hl.ne hl.rk (by omega)
    rw [← hl.sk] at hp
    exact ⟨_, recv_ok st (sentS S n) ad t draw ha ht hd hb hsn _ hp, .inr ⟨n + 1, by omega, fun i hi => by simp at hi; omega, rfl⟩, key _ _ (by omega) (by simp)⟩
  · by_cases hnm : n < m
    · have hp := plan_kept (afterS R (x25519 S.secret nine) draw) S.sk m n (sentS S n).before done draw hnm hnd
      exact ⟨_, recv_ok _ (sentS S n) ad t draw ha ht hd hb hsn _ hp, .inr ⟨m, hm, fun i hi => by rw [List.mem_cons] at hi; rcases hi with rfl | hi; exact hnm; exact hdm i hi, rfl⟩, key _ _ hnm (by simp)⟩
    · have hp := plan_next (afterS R (x25519 S.secret nine) draw) S.sk hl.skl m n (sentS S n).before done draw hdm (by omega) (by omega)
      exact ⟨_, recv_ok _ (sentS S n) ad t draw ha ht hd hb hsn _ hp, .inr ⟨n + 1, by omega, fun i hi => by rw [List.mem_cons] at hi; rcases hi with rfl | hi; omega; have := hdm i hi; omega, rfl⟩, key _ _ (by omega) (by simp)⟩
theorem keptOf_all (P C : List UInt8) (m : Nat) (done : List Nat) (h : ∀ i, i < m → i ∈ done) : keptOf P C m done = [] := by
  unfold keptOf
  rw [List.map_eq_nil_iff, List.filter_eq_nil_iff]
  intro i hi
  rw [List.mem_range] at hi
  simpa using h i hi
theorem RInv.done {S R : PSt} {draw : List UInt8} {len : Nat} {done : List Nat} {st : PSt} (h : RInv S R draw len done st) (h0 : 0 < len) (hall : ∀ i, i < len → i ∈ done) :
    st = { afterS R (x25519 S.secret nine) draw with rk := nxN S.sk len, rn := len, kept := [] } := by
  rcases h with ⟨rfl, rfl⟩ | ⟨m, hm, hdm, rfl⟩
  · have := hall 0 h0
    cases this
  · have e : m = len := by have := hdm (len - 1) (hall (len - 1) (by omega)); omega
    subst e
    unfold postS
    rw [keptOf_all _ _ _ _ hall]
end Go.Proofs.YtlchpbnpmgfaoaaDoor
namespace Go.Proofs.YtlchpbnpmgfaoaaDoor
open Go.RowKit

theorem Lk.back {S R st : PSt} {draw : List UInt8} {len : Nat} (h : Lk S R) (hst : st = { afterS R (x25519 S.secret nine) draw with rk := nxN S.sk len, rn := len, kept := [] })
    (hne : x25519 draw nine ≠ S.theirs) (hrk : S.rk = [] ∨ R.sn ≤ S.rn) (hsn : R.sn < 65536) : Lk st (sentS S len) := by
  subst hst
  have e := agreeEq S.secret draw
  refine ⟨?_, ?_, rfl, hsn, rfl, h.skept, hne, hrk⟩
  · show turnC (turnR R.root R.secret (x25519 S.secret nine)) draw (x25519 S.secret nine) = turnC S.root S.secret (x25519 draw nine)
    rw [← h.root]
    unfold turnC turnD
    rw [e]
  · show turnR (turnR R.root R.secret (x25519 S.secret nine)) draw (x25519 S.secret nine) = turnR S.root S.secret (x25519 draw nine)
    rw [← h.root]
    unfold turnR turnD
    rw [e]
/-- The two as they are made. -/
theorem Lk.first (root own draw : List UInt8) : Lk (firstS root (x25519 own nine) draw) (secondS root own) := by
  have e := agreeEq own draw
  refine ⟨?_, ?_, rfl, (show 0 < 65536 by decide), rfl, rfl, ?_, .inl rfl⟩
  · show turnC root draw (x25519 own nine) = turnC root own (x25519 draw nine)
    unfold turnC turnD
    rw [e]
  · show turnR root draw (x25519 own nine) = turnR root own (x25519 draw nine)
    unfold turnR turnD
    rw [e]
  · intro h
    have := x25519_length draw nine
    rw [show x25519 draw nine = [] from h] at this
    cases this
end Go.Proofs.YtlchpbnpmgfaoaaDoor
namespace Go.Proofs.YtlchpbnpmgfaoaaDoor
open Go.ChangeShapes Go.RowKit
variable {H : Type} {enc : TypeId × Value → H} {P : Program} {w : World} {base : Nat} {spare : Nat → Bool} {held : Bool}

theorem trodAll_five {t0 t1 t2 t3 t4 : TypeId} {args : Array Value} {ds : List (DataW H)} {ps : List MemPlace} (h : DataW.TrodAll enc P w base spare held [t0, t1, t2, t3, t4] args.toList ds ps) :
    ∃ v0 v1 v2 v3 v4 d0 d1 d2 d3 d4 p0 p1 p2 p3 p4, args = #[v0, v1, v2, v3, v4] ∧ ds = [d0, d1, d2, d3, d4] ∧ ps = p0 ++ p1 ++ p2 ++ p3 ++ p4 ∧ DataW.Trod enc P w base spare held t0 v0 d0 p0 ∧ DataW.Trod enc P w base spare held t1 v1 d1 p1 ∧ DataW.Trod enc P w base spare held t2 v2 d2 p2 ∧ DataW.Trod enc P w base spare held t3 v3 d3 p3 ∧ DataW.Trod enc P w base spare held t4 v4 d4 p4 := by
  obtain ⟨v0, vs0, d0, ds0, p0, q0, hargs, rfl, rfl, hd0, hr0⟩ := trodAll_cons h
  obtain ⟨v1, vs1, d1, ds1, p1, q1, rfl, rfl, rfl, hd1, hr1⟩ := trodAll_cons hr0
  obtain ⟨v2, vs2, d2, ds2, p2, q2, rfl, rfl, rfl, hd2, hr2⟩ := trodAll_cons hr1
  obtain ⟨v3, vs3, d3, ds3, p3, q3, rfl, rfl, rfl, hd3, hr3⟩ := trodAll_cons hr2
  obtain ⟨v4, vs4, d4, ds4, p4, q4, rfl, rfl, rfl, hd4, hr4⟩ := trodAll_cons hr3
  obtain ⟨rfl, rfl, rfl⟩ := trodAll_nil hr4
  exact ⟨v0, v1, v2, v3, v4, d0, d1, d2, d3, d4, p0, p1, p2, p3, p4, by cases args; simp_all, rfl, by simp, hd0, hd1, hd2, hd3, hd4⟩
theorem trodAll_mk5 {t0 t1 t2 t3 t4 : TypeId} {v0 v1 v2 v3 v4 : Value} {d0 d1 d2 d3 d4 : DataW H} {p0 p1 p2 p3 p4 : List MemPlace} (h0 : DataW.Trod enc P w base spare held t0 v0 d0 p0) (h1 : DataW.Trod enc P w base spare held t1 v1 d1 p1) (h2 : DataW.Trod enc P w base spare held t2 v2 d2 p2) (h3 : DataW.Trod enc P w base spare held t3 v3 d3 p3) (h4 : DataW.Trod enc P w base spare held t4 v4 d4 p4) : DataW.TrodAll enc P w base spare held [t0, t1, t2, t3, t4] [v0, v1, v2, v3, v4] [d0, d1, d2, d3, d4] (p0 ++ (p1 ++ (p2 ++ (p3 ++ p4)))) := ⟨p0, (p1 ++ (p2 ++ (p3 ++ p4))), h0, trodAll_mk4 h1 h2 h3 h4, rfl⟩
theorem trodAll_six {t0 t1 t2 t3 t4 t5 : TypeId} {args : Array Value} {ds : List (DataW H)} {ps : List MemPlace} (h : DataW.TrodAll enc P w base spare held [t0, t1, t2, t3, t4, t5] args.toList ds ps) :
    ∃ v0 v1 v2 v3 v4 v5 d0 d1 d2 d3 d4 d5 p0 p1 p2 p3 p4 p5, args = #[v0, v1, v2, v3, v4, v5] ∧ ds = [d0, d1, d2, d3, d4, d5] ∧ ps = p0 ++ p1 ++ p2 ++ p3 ++ p4 ++ p5 ∧ DataW.Trod enc P w base spare held t0 v0 d0 p0 ∧ DataW.Trod enc P w base spare held t1 v1 d1 p1 ∧ DataW.Trod enc P w base spare held t2 v2 d2 p2 ∧ DataW.Trod enc P w base spare held t3 v3 d3 p3 ∧ DataW.Trod enc P w base spare held t4 v4 d4 p4 ∧ DataW.Trod enc P w base spare held t5 v5 d5 p5 := by
  obtain ⟨v0, vs0, d0, ds0, p0, q0, hargs, rfl, rfl, hd0, hr0⟩ := trodAll_cons h
  obtain ⟨v1, vs1, d1, ds1, p1, q1, rfl, rfl, rfl, hd1, hr1⟩ := trodAll_cons hr0
  obtain ⟨v2, vs2, d2, ds2, p2, q2, rfl, rfl, rfl, hd2, hr2⟩ := trodAll_cons hr1
  obtain ⟨v3, vs3, d3, ds3, p3, q3, rfl, rfl, rfl, hd3, hr3⟩ := trodAll_cons hr2
  obtain ⟨v4, vs4, d4, ds4, p4, q4, rfl, rfl, rfl, hd4, hr4⟩ := trodAll_cons hr3
  obtain ⟨v5, vs5, d5, ds5, p5, q5, rfl, rfl, rfl, hd5, hr5⟩ := trodAll_cons hr4
  obtain ⟨rfl, rfl, rfl⟩ := trodAll_nil hr5
  exact ⟨v0, v1, v2, v3, v4, v5, d0, d1, d2, d3, d4, d5, p0, p1, p2, p3, p4, p5, by cases args; simp_all, rfl, by simp, hd0, hd1, hd2, hd3, hd4, hd5⟩
theorem trodAll_mk6 {t0 t1 t2 t3 t4 t5 : TypeId} {v0 v1 v2 v3 v4 v5 : Value} {d0 d1 d2 d3 d4 d5 : DataW H} {p0 p1 p2 p3 p4 p5 : List MemPlace} (h0 : DataW.Trod enc P w base spare held t0 v0 d0 p0) (h1 : DataW.Trod enc P w base spare held t1 v1 d1 p1) (h2 : DataW.Trod enc P w base spare held t2 v2 d2 p2) (h3 : DataW.Trod enc P w base spare held t3 v3 d3 p3) (h4 : DataW.Trod enc P w base spare held t4 v4 d4 p4) (h5 : DataW.Trod enc P w base spare held t5 v5 d5 p5) : DataW.TrodAll enc P w base spare held [t0, t1, t2, t3, t4, t5] [v0, v1, v2, v3, v4, v5] [d0, d1, d2, d3, d4, d5] (p0 ++ (p1 ++ (p2 ++ (p3 ++ (p4 ++ p5))))) := ⟨p0, (p1 ++ (p2 ++ (p3 ++ (p4 ++ p5)))), h0, trodAll_mk5 h1 h2 h3 h4 h5, rfl⟩
theorem trodAll_seven {t0 t1 t2 t3 t4 t5 t6 : TypeId} {args : Array Value} {ds : List (DataW H)} {ps : List MemPlace} (h : DataW.TrodAll enc P w base spare held [t0, t1, t2, t3, t4, t5, t6] args.toList ds ps) :
    ∃ v0 v1 v2 v3 v4 v5 v6 d0 d1 d2 d3 d4 d5 d6 p0 p1 p2 p3 p4 p5 p6, args = #[v0, v1, v2, v3, v4, v5, v6] ∧ ds = [d0, d1, d2, d3, d4, d5, d6] ∧ ps = p0 ++ p1 ++ p2 ++ p3 ++ p4 ++ p5 ++ p6 ∧ DataW.Trod enc P w base spare held t0 v0 d0 p0 ∧ DataW.Trod enc P w base spare held t1 v1 d1 p1 ∧ DataW.Trod enc P w base spare held t2 v2 d2 p2 ∧ DataW.Trod enc P w base spare held t3 v3 d3 p3 ∧ DataW.Trod enc P w base spare held t4 v4 d4 p4 ∧ DataW.Trod enc P w base spare held t5 v5 d5 p5 ∧ DataW.Trod enc P w base spare held t6 v6 d6 p6 := by
  obtain ⟨v0, vs0, d0, ds0, p0, q0, hargs, rfl, rfl, hd0, hr0⟩ := trodAll_cons h
  obtain ⟨v1, vs1, d1, ds1, p1, q1, rfl, rfl, rfl, hd1, hr1⟩ := trodAll_cons hr0
  obtain ⟨v2, vs2, d2, ds2, p2, q2, rfl, rfl, rfl, hd2, hr2⟩ := trodAll_cons hr1
  obtain ⟨v3, vs3, d3, ds3, p3, q3, rfl, rfl, rfl, hd3, hr3⟩ := trodAll_cons hr2
  obtain ⟨v4, vs4, d4, ds4, p4, q4, rfl, rfl, rfl, hd4, hr4⟩ := trodAll_cons hr3
  obtain ⟨v5, vs5, d5, ds5, p5, q5, rfl, rfl, rfl, hd5, hr5⟩ := trodAll_cons hr4
  obtain ⟨v6, vs6, d6, ds6, p6, q6, rfl, rfl, rfl, hd6, hr6⟩ := trodAll_cons hr5
  obtain ⟨rfl, rfl, rfl⟩ := trodAll_nil hr6
  exact ⟨v0, v1, v2, v3, v4, v5, v6, d0, d1, d2, d3, d4, d5, d6, p0, p1, p2, p3, p4, p5, p6, by cases args; simp_all, rfl, by simp, hd0, hd1, hd2, hd3, hd4, hd5, hd6⟩
theorem trodAll_mk7 {t0 t1 t2 t3 t4 t5 t6 : TypeId} {v0 v1 v2 v3 v4 v5 v6 : Value} {d0 d1 d2 d3 d4 d5 d6 : DataW H} {p0 p1 p2 p3 p4 p5 p6 : List MemPlace} (h0 : DataW.Trod enc P w base spare held t0 v0 d0 p0) (h1 : DataW.Trod enc P w base spare held t1 v1 d1 p1) (h2 : DataW.Trod enc P w base spare held t2 v2 d2 p2) (h3 : DataW.Trod enc P w base spare held t3 v3 d3 p3) (h4 : DataW.Trod enc P w base spare held t4 v4 d4 p4) (h5 : DataW.Trod enc P w base spare held t5 v5 d5 p5) (h6 : DataW.Trod enc P w base spare held t6 v6 d6 p6) : DataW.TrodAll enc P w base spare held [t0, t1, t2, t3, t4, t5, t6] [v0, v1, v2, v3, v4, v5, v6] [d0, d1, d2, d3, d4, d5, d6] (p0 ++ (p1 ++ (p2 ++ (p3 ++ (p4 ++ (p5 ++ p6)))))) := ⟨p0, (p1 ++ (p2 ++ (p3 ++ (p4 ++ (p5 ++ p6))))), h0, trodAll_mk6 h1 h2 h3 h4 h5 h6, rfl⟩
end Go.Proofs.YtlchpbnpmgfaoaaDoor
