/-
  Kept keys: as plain data, and in memory.
-/
import Derived.Test.YtgjdogkciklgkaaDoorJoin
import Derived.Test.YtgjdogkciklgkaaDoorDr
import Derived.Laws.AppendOwn
import Derived.Lib.UnsafeStr
import Derived.Lib.BufferWrite
import Derived.Test.YtgjdogkciklgkaaDoorBx
import Derived.BigQuiet
import Derived.Deep.QuietTactic
import Derived.Deep.RegionHeld3
import Derived.OwnWalk
import Derived.Lib.SliceRun
import Derived.Deep.RegionLaw
namespace Go.Proofs.YtgjdogkciklgkaaDoor
open Go.RowKit

/-- The key of a message, and the chain behind it. -/
def mkK (c : List UInt8) : List UInt8 := hmac c [1]
def nxK (c : List UInt8) : List UInt8 := hmac c [2]
def nxN (c : List UInt8) : Nat → List UInt8
  | 0 => c
  | n + 1 => nxK (nxN c n)
theorem mkK_length (c : List UInt8) : (mkK c).length = 32 := hmac_length _ _
theorem nxK_length (c : List UInt8) : (nxK c).length = 32 := hmac_length _ _
theorem nxN_length (c : List UInt8) (h : c.length = 32) : ∀ n, (nxN c n).length = 32
  | 0 => h
  | _ + 1 => nxK_length _
theorem nxN_add (c : List UInt8) (a : Nat) : ∀ b, nxN (nxN c a) b = nxN c (a + b)
  | 0 => rfl
  | b + 1 => by show nxK (nxN (nxN c a) b) = nxK (nxN c (a + b)); rw [nxN_add c a b]

/-- A kept key. -/
structure KK where
  th : List UInt8
  n : Nat
  key : List UInt8
instance : Inhabited KK := ⟨⟨[], 0, []⟩⟩

/-- The keys of k messages from number i on, c being the chain there. -/
def skipL (th c : List UInt8) (i : Nat) : Nat → List KK
  | 0 => []
  | k + 1 => skipL th c i k ++ [⟨th, i + k, mkK (nxN c k)⟩]
theorem skipL_length (th c : List UInt8) (i : Nat) : ∀ k, (skipL th c i k).length = k
  | 0 => rfl
  | k + 1 => by simp [skipL, skipL_length th c i k]

def keepL (kept sk : List KK) : List KK := (kept ++ sk).drop ((kept ++ sk).length - 16)
theorem keepL_length (kept sk : List KK) : (keepL kept sk).length ≤ 16 := by unfold keepL; rw [List.length_drop]; omega
theorem keepL_few (kept sk : List KK) (h : kept.length + sk.length ≤ 16) : keepL kept sk = kept ++ sk := by
  unfold keepL
  rw [show (kept ++ sk).length - 16 = 0 by rw [List.length_append]; omega, List.drop_zero]
theorem keepL_nil (kept : List KK) (h : kept.length ≤ 16) : keepL kept [] = kept := by rw [keepL_few _ _ (by simpa using h), List.append_nil]

def hitK (th : List UInt8) (n : Nat) (k : KK) : Bool := decide (k.th = th) && decide (k.n = n)
def findK (l : List KK) (th : List UInt8) (n : Nat) : Option Nat := l.findIdx? (hitK th n)

def kC (k : KK) : List Value := [.string (str k.th), .int .i64 (k.n : Int), .string (str k.key)]
def kCells : List KK → List Value
  | [] => []
  | k :: l => kC k ++ kCells l
theorem kCells_length : ∀ l : List KK, (kCells l).length = l.length * 3
  | [] => rfl
  | k :: l => by rw [kCells, List.length_append, kCells_length l, List.length_cons]; simp [kC]; omega
theorem kCells_append : ∀ a b : List KK, kCells (a ++ b) = kCells a ++ kCells b
  | [], b => rfl
  | k :: a, b => by rw [List.cons_append, kCells, kCells, kCells_append a b, List.append_assoc]
theorem kCells_one : ∀ (l : List KK), ∀ u ∈ kCells l, u.oneCell' = true
  | [], u, h => by cases h
  | k :: l, u, h => by
    rw [kCells, List.mem_append] at h
    rcases h with h | h
    · simp [kC] at h; rcases h with rfl | rfl | rfl <;> rfl
    · exact kCells_one l u h
theorem kCells_drop : ∀ (l : List KK) (n : Nat), kCells (l.drop n) = (kCells l).drop (n * 3)
  | l, 0 => by simp
  | [], n + 1 => by simp [kCells]
  | k :: l, n + 1 => by
    rw [List.drop_succ_cons, kCells_drop l n, kCells, show (n + 1) * 3 = (kC k).length + n * 3 by simp [kC]; omega, List.drop_append]
    simp
theorem kCells_take : ∀ (l : List KK) (n : Nat), kCells (l.take n) = (kCells l).take (n * 3)
  | l, 0 => by simp [kCells]
  | [], n + 1 => by simp [kCells]
  | k :: l, n + 1 => by
    rw [List.take_succ_cons, kCells, kCells_take l n, kCells, show (n + 1) * 3 = (kC k).length + n * 3 by simp [kC]; omega, List.take_append]
    rw [List.take_of_length_le (l := kC k) (by omega), show (kC k).length + n * 3 - (kC k).length = n * 3 by omega]
theorem kCells_get (l : List KK) (j : Nat) (h : j < l.length) : (kCells l)[j * 3]? = some (.string (str (l.getD j default).th)) ∧ (kCells l)[j * 3 + 1]? = some (.int .i64 ((l.getD j default).n : Int)) ∧ (kCells l)[j * 3 + 2]? = some (.string (str (l.getD j default).key)) := by
  have e : l = l.take j ++ (l.getD j default :: l.drop (j + 1)) := by
    rw [getD_in _ _ h, ← List.drop_eq_getElem_cons h, List.take_append_drop]
  have hl : (kCells (l.take j)).length = j * 3 := by rw [kCells_length, List.length_take]; omega
  generalize l.getD j default = k at *
  rw [e, kCells_append, kCells]
  refine ⟨?_, ?_, ?_⟩
  · rw [List.getElem?_append_right (by omega), hl, Nat.sub_self]; rfl
  · rw [List.getElem?_append_right (by omega), hl, show j * 3 + 1 - j * 3 = 1 by omega]; rfl
  · rw [List.getElem?_append_right (by omega), hl, show j * 3 + 2 - j * 3 = 2 by omega]; rfl

/-- The row of kept keys that is a slice's. -/
def Own (w : World) (base : Nat) (v : Value) (l : List KK) : Prop := w.ownsRow base 77 3 v l.length (kCells l)
theorem Own.base {w : World} {base base' : Nat} {v : Value} {l : List KK} (h : Own w base v l) (hb : base' ≤ base) : Own w base' v l := by
  refine ⟨h.1, ?_⟩
  rcases h.2 with hn | ⟨g, cap, cur, rfl, hg, rest⟩
  · exact .inl hn
  · exact .inr ⟨g, cap, cur, rfl, Nat.le_trans hb hg, rest⟩
theorem Own.of_block {w w' : World} {base : Nat} {v : Value} {l : List KK} (h : Own w base v l) (hk : ∀ g cs, w.heap[g]? = some (.cells cs 77 (0, 0)) → base ≤ g → w'.heap[g]? = w.heap[g]?) : Own w' base v l := by
  refine ⟨h.1, ?_⟩
  rcases h.2 with hn | ⟨g, cap, cur, rfl, hg, hgg, rest⟩
  · exact .inl hn
  · exact .inr ⟨g, cap, cur, rfl, hg, (hk g cur hgg hg).trans hgg, rest⟩

end Go.Proofs.YtgjdogkciklgkaaDoor
namespace Go.Proofs.YtgjdogkciklgkaaDoor
open Go.RowKit

set_option maxHeartbeats 4000000 in
set_option maxRecDepth 100000 in
theorem liteP (l : List UInt8) (hl : l.length ≤ 1000) (w : World) :
    Calls Tryd.prog 118 #[.string (str l)] w fun e w' => e = .returned (.string (str l)) ∧ Bel w.heap.size w w' := by
  obtain ⟨s, hs⟩ : ∃ s, s = str l := ⟨_, rfl⟩
  have hsz : s.size ≤ 1000 := by rw [hs, str_size]; exact hl
  rw [← hs]
  clear hs hl
  by_cases h0 : s.size = 0
  · have hs : s = ⟨#[]⟩ := by
      apply ByteArray.ext
      exact Array.eq_empty_of_size_eq_zero h0
    subst hs
    go_enter Tryd.func118, Tryd.ntmps118
    go_wp2
    go_ret
    exact ⟨rfl, Bel.refl _ _⟩
  · obtain ⟨i0, hi, hz0, hz1, hz2⟩ := info_parts Tryd.infoU8
    have hinfo : (Tryd.prog.info? 5).map (·.size) = some 1 := by rw [hi]; simp [hz1]
    have hco : Tryd.prog.cellsOf 5 = 1 := by simp [Program.cellsOf, hi, hz1]
    obtain ⟨M, hM⟩ : ∃ M, M = madeCells (Value.int .u8 0).cells (((s.size : Nat) : Int).toNat * i0.size) := ⟨_, rfl⟩
    have hMs : M.size = s.size := by rw [hM, size_madeCells, hz1]; simp
    have hmk : ∀ W : World, (Instr.makeSlice 59 (.int .i64 (s.size : Int)) (.int .i64 (s.size : Int))).run Tryd.prog W = .ok (.slice (some ⟨W.heap.size, 0, none⟩) s.size s.size) (W.alloc (.cells M 5)) := fun W => by
      have h := run_make (P := Tryd.prog) W 59 5 i0 (.int .u8 0) Tryd.underlying59 hi hz0 .i64 .i64 (s.size : Int) (s.size : Int) (by omega) (by omega) (by rw [hz2]; omega) (by omega)
      rw [← hM] at h
      simpa using h
    clear hM
    have hcp := Lib.run_copy_row_string (P := Tryd.prog) (w.alloc (.cells M 5)) 59 9 3 5 w.heap.size 0 s.size s.size s M 5 Tryd.underlying59 hinfo (heap_alloc_new w _) (Nat.le_refl _) (by omega)
    obtain ⟨Y, hY⟩ : ∃ Y, Y = (M.toList.take 0 ++ Lib.byteCells s.data.toList ++ M.toList.drop (0 + s.size)).toArray := ⟨_, rfl⟩
    rw [← hY] at hcp
    have hYl : Y.toList = Lib.byteCells s.data.toList := by
      rw [hY, List.toList_toArray, List.take_zero, List.nil_append, List.drop_of_length_le (by rw [Array.length_toList]; omega), List.append_nil]
    have hYs : Y.size = s.size := by rw [← Array.length_toList, hYl, Lib.byteCells_length, ← Lib.size_eq]
    have hgY : ((w.alloc (.cells M 5)).setRow w.heap.size Y).heap[w.heap.size]? = some (.cells Y 5 (0, 0)) := setRow_heap _ _ M _ 5 (0, 0) (heap_alloc_new w _)
    have hne : s.data.toList ≠ [] := fun e => h0 (by rw [Lib.size_eq, e]; rfl)
    have hUS := Lib.run_unsafeString_row (P := Tryd.prog) ((w.alloc (.cells M 5)).setRow w.heap.size Y) 159 3 9 5 Tryd.underlying159 hco w.heap.size Y.size (by unfold World.shape?; rw [hgY]) s.data.toList hne (by rw [← Lib.size_eq]; omega) (by rw [← Lib.size_eq]; omega)
      (fun j x hx => Lib.cells_of_row hgY Y.size j _ (by rw [List.take_of_length_le (by rw [Array.length_toList]; exact Nat.le_refl _), hYl]; simp [Lib.byteCells, hx]))
    rw [← Lib.size_eq] at hUS
    clear hY
    go_enter Tryd.func118, Tryd.ntmps118
    go_wp2
    go_ret
    have hb1 : Below w.heap.size w (w.alloc (.cells M 5)) := (Below.refl _ w).alloc (Nat.le_refl _) _
    have hb2 : Below w.heap.size (w.alloc (.cells M 5)) ((w.alloc (.cells M 5)).setRow w.heap.size Y) := ⟨rfl, rfl, rfl, by simp, fun k hk => setRow_other _ _ _ _ (by omega)⟩
    exact ⟨rfl, Bel.below (Lib.below_freeze (hb1.trans hb2) (p := ⟨w.heap.size, 0, none⟩) (Nat.le_refl _) _)⟩

theorem cloneP (l : List UInt8) (hl : l.length ≤ 1000) (w : World) :
    Calls Tryd.prog 91 #[.string (str l)] w fun e w' => e = .returned (.string (str l)) ∧ Bel w.heap.size w w' := by
  go_enter Tryd.func91, Tryd.ntmps91
  go_wp2_with fail
  refine (liteP l hl _).mono ?_
  rintro e w1 ⟨rfl, hb1⟩
  go_wp2
  go_ret
  exact ⟨rfl, hb1⟩
end Go.Proofs.YtgjdogkciklgkaaDoor
namespace Go.Proofs.YtgjdogkciklgkaaDoor
open Go.RowKit

/-- 'string([]byte{..})' of two, the block just laid. -/
theorem conv2 (a b : Int) (w : World) :
    (convert 59 9 (.slice (some ⟨w.heap.size, 0, none⟩) 2 2)).run Tryd.prog (w.alloc (.cells #[.int .u8 a, .int .u8 b] 5)) = .ok (.string (str [UInt8.ofNat a.toNat, UInt8.ofNat b.toNat])) (w.alloc (.cells #[.int .u8 a, .int .u8 b] 5)) :=
  run_convert_bytes_arg (P := Tryd.prog) _ 59 5 Tryd.underlying59 Tryd.underlying5 w.heap.size 0 2 2 [a, b] rfl
    (fun i hi => by
      match i, hi with
      | 0, _ => rw [World.cell?_alloc_new]; rfl
      | 1, _ => rw [World.cell?_alloc_new]; rfl) 9 Tryd.underlying9

theorem two_eq (n : Nat) : [UInt8.ofNat ((n : Int) / 256 % 256).toNat, UInt8.ofNat ((n : Int) % 256).toNat] = bigB n 2 := by
  have e0 := byte_eq n 0
  have e1 := byte_eq n 1
  simp only [Nat.mul_zero, Nat.reduceMul, Int.reducePow, Int.pow_zero, Int.ediv_one] at e0 e1
  simp only [bigB, e0, e1]

set_option maxRecDepth 100000 in
theorem twoP (n : Nat) (w : World) :
    Calls Tryd.prog 67 #[.int .i64 n] w fun e w' => e = .returned (.string (str (bigB n 2))) ∧ Bel w.heap.size w w' := by
  have hcv := conv2 ((n : Int) / 256 % 256) ((n : Int) % 256) w
  rw [two_eq n] at hcv
  go_enter Tryd.func67, Tryd.ntmps67
  go_wp2
  go_ret
  exact ⟨rfl, (Bel.refl _ _).alloc (Nat.le_refl _) _⟩
theorem Bel.ofDrew {B : Nat} {a w : World} (h : Bel B a.drew w) : Bel B a w := ⟨h.os, h.output, h.size, h.block⟩
theorem Bel.ofDrewN {B q : Nat} {a w : World} (h : Bel B (a.drewN q) w) : Bel B a w := ⟨h.os, h.output, h.size, h.block⟩

theorem or_two (x y : Nat) (hx : x < 256) (hy : y < 256) : bits .or .i64 ((x : Int) * 256) (y : Int) = ((x * 256 + y : Nat) : Int) := by
  rw [show (x : Int) * 256 = ((x * 256 : Nat) : Int) by omega, i64_or_nat _ _ (by omega) (by omega), Nat.mul_comm x 256, show 256 * x = 2 ^ 8 * x by rfl, ← Nat.two_pow_add_eq_or_of_lt (by omega)]

set_option maxRecDepth 100000 in
theorem readTwoP (l : List UInt8) (h : 2 ≤ l.length) (w : World) :
    Calls Tryd.prog 92 #[.string (str l)] w fun e w' => e = .returned (.int .i64 (byteAt l 0 * 256 + byteAt l 1 : Nat)) ∧ Bel w.heap.size w w' := by
  have h0 := idxL l 0 0 rfl (by omega)
  have h1 := idxL l 1 1 rfl (by omega)
  have b0 := byteAt_lt l 0
  have b1 := byteAt_lt l 1
  generalize byteAt l 0 = x at *
  generalize byteAt l 1 = y at *
  have ho := or_two x y b0 b1
  go_enter Tryd.func92, Tryd.ntmps92
  go_wp2_with fail
  go_quiet (fail)
  go_wp2
  go_ret
  exact ⟨ret_int (by omega), belowN (Bel.refl _ _) _⟩

set_option maxRecDepth 100000 in
set_option maxHeartbeats 1000000 in
theorem halvesP (l : List UInt8) (hl : l.length = 64) (w : World) :
    Calls Tryd.prog 90 #[.string (str l)] w fun e w' => e = .returned (.tuple #[.string (str (l.take 32)), .string (str (l.drop 32))]) ∧ Bel w.heap.size w w' := by
  have hx := sliceHi l 32 32 (by omega) (by omega)
  have hy := sliceLo l 32 32 (by omega) (by omega)
  have l1 : (l.take 32).length = 32 := by rw [List.length_take]; omega
  have l2 : (l.drop 32).length = 32 := by rw [List.length_drop]; omega
  generalize l.take 32 = x at *
  generalize l.drop 32 = y at *
  go_enter Tryd.func90, Tryd.ntmps90
  go_wp2_with fail
  go_region_held3 (fun w' => Bel w.heap.size w w') (first | assumption | exact (Bel.refl _ _).drew | exact Bel.drew (by assumption)) (first | (go_at_call 91; refine (cloneP x (by omega) _).mono ?_; rintro e w1 ⟨rfl, hb1⟩; replace hb1 := Bel.ofDrew hb1) | (go_at_call 91; refine (cloneP y (by omega) _).mono ?_; rintro e w2 ⟨rfl, hb2⟩; replace hb2 := hb1.trans (hb2.mono hb1.size)))
  all_goals go_wp2
  all_goals go_ret2
  all_goals exact ⟨rfl, hb2⟩
end Go.Proofs.YtgjdogkciklgkaaDoor
namespace Go.Proofs.YtgjdogkciklgkaaDoor
open Go.RowKit

set_option maxRecDepth 100000 in
set_option maxHeartbeats 1000000 in
theorem begunP (b o : Nat) (k : List UInt8) (w : World) (c0 : w.cell? ⟨b, o, none⟩ = some (.string (str k))) :
    Calls Tryd.prog 38 #[.pointer (some ⟨b, o, none⟩)] w fun e w' => e = .returned (.bool (!k.isEmpty)) ∧ w' = w := by
  have e1 := str_toList k
  go_enter Tryd.func38, Tryd.ntmps38
  go_wp2
  go_ret
  exact ⟨rfl, rfl⟩

set_option maxRecDepth 100000 in
set_option maxHeartbeats 1000000 in
theorem stepP (b o n : Nat) (k : List UInt8) (hk : k.length ≤ 64) (hn : n ≤ 1000000) (w : World) (hT : Tab w) (c0 : w.cell? ⟨b, o, none⟩ = some (.string (str k))) (c1 : w.cell? ⟨b, o + 1, none⟩ = some (.int .i64 (n : Int)))
    (f0 : w.frozen? ⟨b, o, none⟩ = false) (f1 : w.frozen? ⟨b, o + 1, none⟩ = false) :
    Calls Tryd.prog 40 #[.pointer (some ⟨b, o, none⟩)] w fun e w' => e = .returned (.string (str (mkK k))) ∧ ∃ w1, Bel w.heap.size w w1 ∧ w' = (w1.setCell ⟨b, o, none⟩ (.string (str (nxK k)))).setCell ⟨b, o + 1, none⟩ (.int .i64 ((n + 1 : Nat) : Int)) := by
  have hlt := cell_lt c0
  have HT := hide hT
  have HM : Hid (mkK k = hmac k [1]) := rfl
  have HN : Hid (nxK k = hmac k [2]) := rfl
  clear hT
  go_enter Tryd.func40, Tryd.ntmps40
  go_wp2_with fail
  rw [show (⟨#[1]⟩ : ByteArray) = str [1] from rfl]
  refine (macP k [1] (by omega) (by decide) _ HT.out).mono ?_
  rintro e w1 ⟨rfl, hb1⟩
  rw [← HM.out]
  have HB1 := hide hb1
  have c0' := (hb1.cell (p := ⟨b, o, none⟩) hlt).trans c0
  have c1' := (hb1.cell (p := ⟨b, o + 1, none⟩) hlt).trans c1
  have f0' := (hb1.frozen (p := ⟨b, o, none⟩) hlt).trans f0
  have f1' := (hb1.frozen (p := ⟨b, o + 1, none⟩) hlt).trans f1
  have hlt1 := Nat.lt_of_lt_of_le hlt hb1.size
  clear hb1 c0 c1 f0 f1
  go_wp2_with fail
  rw [show (⟨#[2]⟩ : ByteArray) = str [2] from rfl]
  refine (macP k [2] (by omega) (by decide) _ (HT.out.below HB1.out)).mono ?_
  rintro e w2 ⟨rfl, hb2⟩
  rw [← HN.out]
  have HB2 := hide (HB1.out.trans (hb2.mono HB1.out.size))
  have c0 := (hb2.cell (p := ⟨b, o, none⟩) hlt1).trans c0'
  have c1 := (hb2.cell (p := ⟨b, o + 1, none⟩) hlt1).trans c1'
  have f0 := (hb2.frozen (p := ⟨b, o, none⟩) hlt1).trans f0'
  have f1 := (hb2.frozen (p := ⟨b, o + 1, none⟩) hlt1).trans f1'
  clear hb2 c0' c1' f0' f1'
  generalize mkK k = mk at *
  generalize nxK k = nx at *
  go_wp2
  go_ret
  refine ⟨?_, w2, HB2.out, ?_⟩
  · rw [show mkK k = mk from HM.out.symm]; rfl
  · rw [show nxK k = nx from HN.out.symm]; rfl
end Go.Proofs.YtgjdogkciklgkaaDoor
namespace Go.Proofs.YtgjdogkciklgkaaDoor
open Go.RowKit

/-- All that lay in w lies in w' too, block b aside. -/
structure Chg (b : Nat) (w w' : World) : Prop where
  os : w'.os = w.os
  output : w'.output = w.output
  size : w.heap.size ≤ w'.heap.size
  block : ∀ k, k < w.heap.size → k ≠ b → w'.heap[k]? = w.heap[k]?
theorem Chg.of_bel {b : Nat} {w w' : World} (h : Bel w.heap.size w w') : Chg b w w' := ⟨h.os, h.output, h.size, fun k hk _ => h.block k hk⟩
theorem Chg.trans {b : Nat} {u v w : World} (h : Chg b u v) (k : Chg b v w) : Chg b u w :=
  ⟨k.os.trans h.os, k.output.trans h.output, Nat.le_trans h.size k.size, fun i hi hne => (k.block i (Nat.lt_of_lt_of_le hi h.size) hne).trans (h.block i hi hne)⟩
theorem Chg.bel {b B : Nat} {w w' : World} (h : Chg b w w') (hB : B ≤ b) (hs : B ≤ w.heap.size) : Bel B w w' := ⟨h.os, h.output, h.size, fun k hk => h.block k (by omega) (by omega)⟩
theorem Chg.drewN {b : Nat} {w w' : World} (h : Chg b w w') (q : Nat) : Chg b w (w'.drewN q) := ⟨h.os, h.output, h.size, h.block⟩
theorem Chg.drew {b : Nat} {w w' : World} (h : Chg b w w') : Chg b w w'.drew := ⟨h.os, h.output, h.size, h.block⟩
theorem Chg.setCell {b : Nat} {u w : World} (h : Chg b u w) (o : Nat) (x : Value) : Chg b u (w.setCell ⟨b, o, none⟩ x) :=
  h.trans ⟨rfl, rfl, by simp [World.setCell], fun k _ hne => heap_setCell_other w _ k x hne⟩
theorem Tab.chg {w w' : World} {b : Nat} (h : Tab w) (hc : Chg b w w') (hb : 7 < b) : Tab w' :=
  ⟨Nat.lt_of_lt_of_le h.lt hc.size, fun t ht => ((World.cell?_of_block (a := ⟨7, t, none⟩) (hc.block 7 h.lt (by omega))).trans (h.tab t ht))⟩

/-- A block with a chain at place o. -/
def chB (arr : Array Value) (o : Nat) (k : List UInt8) (n : Nat) : Array Value := (arr.setIfInBounds o (.string (str k))).setIfInBounds (o + 1) (.int .i64 (n : Int))
theorem chB_again (arr : Array Value) (o : Nat) (k k' : List UInt8) (n n' : Nat) : ((chB arr o k n).setIfInBounds o (.string (str k'))).setIfInBounds (o + 1) (.int .i64 (n' : Int)) = chB arr o k' n' := by
  unfold chB
  apply Array.ext_getElem?
  intro i
  simp only [Array.getElem?_setIfInBounds, Array.size_setIfInBounds]
  by_cases h1 : o + 1 = i
  · simp [h1]
  · by_cases h2 : o = i
    · simp [h2]
    · simp [h1, h2]
theorem chB_0 (arr : Array Value) (o : Nat) (k : List UInt8) (n : Nat) (h : o + 1 < arr.size) : (chB arr o k n)[o]? = some (.string (str k)) := by
  unfold chB
  rw [Array.getElem?_setIfInBounds_ne (by omega), Array.getElem?_setIfInBounds, if_pos rfl, if_pos (by omega)]
theorem chB_1 (arr : Array Value) (o : Nat) (k : List UInt8) (n : Nat) (h : o + 1 < arr.size) : (chB arr o k n)[o + 1]? = some (.int .i64 (n : Int)) := by
  unfold chB
  rw [Array.getElem?_setIfInBounds, if_pos rfl, if_pos (by rw [Array.size_setIfInBounds]; exact h)]

theorem stepB (b o n : Nat) (k : List UInt8) (arr : Array Value) (T : TypeId) (ha : o + 1 < arr.size) (hk : k.length ≤ 64) (hn : n ≤ 1000000) (w : World) (hT : Tab w) (hP : w.heap[b]? = some (.cells (chB arr o k n) T (0, 0))) :
    Calls Tryd.prog 40 #[.pointer (some ⟨b, o, none⟩)] w fun e w' => e = .returned (.string (str (mkK k))) ∧ w'.heap[b]? = some (.cells (chB arr o (nxK k) (n + 1)) T (0, 0)) ∧ Chg b w w' := by
  refine (stepP b o n k hk hn w hT ((cell_of_row w b o _ T (0, 0) hP).trans (chB_0 _ _ _ _ ha)) ((cell_of_row w b (o + 1) _ T (0, 0) hP).trans (chB_1 _ _ _ _ ha)) (frozen_of_row w b o _ T hP) (frozen_of_row w b (o + 1) _ T hP)).mono ?_
  rintro e w' ⟨rfl, w1, hb, rfl⟩
  have h1 : w1.heap[b]? = some (.cells (chB arr o k n) T (0, 0)) := (hb.block b (Array.getElem?_eq_some_iff.1 hP).1).trans hP
  refine ⟨rfl, ?_, ((Chg.of_bel hb).setCell _ _).setCell _ _⟩
  rw [heap_setCell_same _ b (o + 1) _ T _ (heap_setCell_same w1 b o _ T _ h1), chB_again]

theorem Tryd.infoKK : (Tryd.prog.info? 77).map (fun i => (i.zero, i.size, i.bytes)) = some (some (.agg #[.string ⟨#[]⟩, .int .i64 0, .string ⟨#[]⟩]), 3, 40) := by kernel_rfl

theorem three_new (wr : World) (x y z : Value) : ∀ (j : Nat) (u : Value), [x, y, z][j]? = some u → (wr.alloc (.cells #[x, y, z] 77)).cell? ((⟨wr.heap.size, 0, none⟩ : Addr).add j) = some u := by
  intro j u hj
  match j, hj with
  | 0, hj => simp at hj; subst hj; rw [Addr.add_lit, World.cell?_alloc_new]; rfl
  | 1, hj => simp at hj; subst hj; rw [Addr.add_lit, World.cell?_alloc_new]; rfl
  | 2, hj => simp at hj; subst hj; rw [Addr.add_lit, World.cell?_alloc_new]; rfl
  | j + 3, hj => simp at hj

theorem Own.chg {w w' : World} {base b : Nat} {v : Value} {l : List KK} {cs : Array Value} {T : TypeId} (h : Own w base v l) (hc : Chg b w w') (hb : w.heap[b]? = some (.cells cs T (0, 0))) (hT : T ≠ 77) : Own w' base v l := by
  refine h.of_block fun g c hg _ => hc.block g (Array.getElem?_eq_some_iff.1 hg).1 ?_
  rintro rfl
  rw [hb] at hg
  injection hg with hg
  injection hg with _ ht
  exact hT ht
theorem Own.row {w : World} {base : Nat} {v : Value} {l : List KK} (h : Own w base v l) : ∀ g, v.ownBlock = some g → base ≤ g ∧ ∃ cs, w.heap[g]? = some (.cells cs 77 (0, 0)) := by
  intro g hg
  rcases h.2 with ⟨rfl, _⟩ | ⟨g', cap, cur, rfl, hb, hgg, _⟩
  · simp [Value.ownBlock] at hg
  · simp [Value.ownBlock] at hg
    subst hg
    exact ⟨hb, cur, hgg⟩
theorem Own.len {w : World} {base : Nat} {v : Value} {l : List KK} (h : Own w base v l) : sliceLen v = l.length := by
  rcases h.2 with ⟨rfl, hn⟩ | ⟨g, cap, cur, rfl, _⟩
  · rw [hn]; rfl
  · rfl
theorem Chg.grown {w w1 w2 : World} {b : Nat} {v : Value} {l : List KK} {o : Obj} (hc : Chg b w w1) (ho : Own w1 w.heap.size v l) (hg : (w1.alloc o).grownBy w2 v.ownBlock) : Chg b w w2 := by
  refine ⟨hg.os.trans hc.os, hg.output.trans hc.output, ?_, fun k hk hne => ?_⟩
  · have := hg.size; have := hc.size; simp at *; omega
  · have hs := hc.size
    rw [hg.block k (by simp; omega) (fun e => by have := (ho.row k e.symm).1; omega)]
    exact (heap_alloc_old w1 o (show k < w1.heap.size by omega)).trans (hc.block k hk hne)
theorem blkGrown {w1 w2 : World} {base b : Nat} {v : Value} {l : List KK} {o : Obj} {cs : Array Value} {T : TypeId} (hb : w1.heap[b]? = some (.cells cs T (0, 0))) (hT : T ≠ 77) (ho : Own w1 base v l) (hg : (w1.alloc o).grownBy w2 v.ownBlock) : w2.heap[b]? = some (.cells cs T (0, 0)) := by
  have hlt := (Array.getElem?_eq_some_iff.1 hb).1
  rw [hg.block b (by simp; omega) (fun e => by
    obtain ⟨_, c, hc⟩ := ho.row b e.symm
    rw [hb] at hc
    injection hc with hc
    injection hc with _ ht
    exact hT ht)]
  exact (heap_alloc_old w1 o hlt).trans hb

set_option maxRecDepth 100000 in
set_option maxHeartbeats 2000000 in
theorem skipB (b o n0 n : Nat) (th k : List UInt8) (arr : Array Value) (T : TypeId) (hTT : T ≠ 77) (ha : o + 1 < arr.size) (hk : k.length ≤ 64) (hn : n ≤ 70000) (hn0 : n0 ≤ 70000) (hG : 7 < b) (w : World) (hT : Tab w) (hP : w.heap[b]? = some (.cells (chB arr o k n0) T (0, 0))) :
    Calls Tryd.prog 98 #[.pointer (some ⟨b, o, none⟩), .string (str th), .int .i64 (n : Int)] w fun e w' => ∃ v, e = .returned v ∧ Own w' w.heap.size v (skipL th k n0 (n - n0)) ∧ w'.heap[b]? = some (.cells (chB arr o (nxN k (n - n0)) (n0 + (n - n0))) T (0, 0)) ∧ Chg b w w' := by
  obtain ⟨i0, hi, hz0, hz1, hz2⟩ := info_parts Tryd.infoKK
  have HI := hide hi
  have HZ0 := hide hz0
  have HZ1 := hide hz1
  have HZ2 := hide hz2
  have HT := hide hT
  have HP := hide hP
  have HK : Hid (∀ i, (nxN k i).length ≤ 64) := fun i => by cases i with
    | zero => exact hk
    | succ i => exact Nat.le_trans (Nat.le_of_eq (nxK_length _)) (by decide)
  clear hi hz0 hz1 hz2 hT hP hk
  go_enter Tryd.func98, Tryd.ntmps98
  go_wp2
  go_loopw [7] (fun v wr => ∃ i : Nat, i ≤ n - n0 ∧ Own wr w.heap.size v (skipL th k n0 i) ∧ wr.heap[b]? = some (.cells (chB arr o (nxN k i) (n0 + i)) T (0, 0)) ∧ Chg b w wr) (fun v _ => n - n0 - sliceLen v)
  case atStart => exact ⟨0, Nat.zero_le _, World.ownsRow_nil _ _ _ _, HP.out, Chg.of_bel (Bel.refl _ _)⟩
  case round =>
    obtain ⟨i, hi, ho, hP, hC⟩ := hrel
    have hc1 := (cell_of_row wr b (o + 1) _ T (0, 0) hP).trans (chB_1 _ _ _ _ ha)
    have HO := hide ho
    have HPr := hide hP
    have HC := hide hC
    clear ho hP hC
    by_cases hlt : i < n - n0
    · have HX : Hid (skipL th k n0 (i + 1) = skipL th k n0 i ++ [⟨th, n0 + i, mkK (nxN k i)⟩]) := rfl
      have HY : Hid (nxN k (i + 1) = nxK (nxN k i)) := rfl
      have HKi := hide (HK.out i)
      generalize nxN k i = c at *
      go_wp2_with fail
      refine (stepB b o (n0 + i) c arr T ha HKi.out (by omega) _ (HT.out.chg HC.out hG) HPr.out).mono ?_
      rintro e w1 ⟨rfl, hP1, hC1⟩
      have HO1 := hide (HO.out.chg hC1 HPr.out hTT)
      have HC1 := hide (HC.out.trans hC1)
      have HP1 := hide hP1
      clear hP1 hC1 HC HPr
      generalize mkK c = key at *
      rw [← HY.out] at HP1
      go_wp2_with (at_builtin; go_must (refine wpList_append_own _ rfl (.tmp 19) (.tmp 25) 65 rfl w.heap.size 77 i0 (.agg #[.string ⟨#[]⟩, .int .i64 0, .string ⟨#[]⟩]) 3 40 Tryd.underlying65 HI.out HZ0.out HZ1.out HZ2.out rfl (by decide) _ _ _ rfl (World.ownsRow.alloc HO1.out _) ⟨w1.heap.size, 0, none⟩ 1 1 [.string (str th), .int .i64 ((n0 + i : Nat) : Int), .string (str key)] rfl rfl (three_new w1 _ _ _) (by intro u hu; simp at hu; rcases hu with rfl | rfl | rfl <;> rfl) (by rw [skipL_length]; unfold maxLen; omega) (by rw [skipL_length]; omega) (by have := HC1.out.size; simp; omega) ?_); intro v2 w2 ho2 hg2 _)
      have HO2 : Hid (Own w2 w.heap.size v2 (skipL th k n0 (i + 1))) := by
        show Own _ _ _ _
        rw [HX.out]
        unfold Own
        rw [kCells_append, List.length_append]
        exact ho2
      have HC2 := hide (HC1.out.grown HO1.out hg2)
      have HP2 := hide (blkGrown HP1.out hTT HO1.out hg2)
      have l1 := HO.out.len
      have l2 := HO2.out.len
      rw [skipL_length] at l1 l2
      clear ho2 hg2 HO1 HC1 HP1 hc1
      go_wp2
      go_roundw
      case rel => exact ⟨i + 1, by omega, HO2.out, HP2.out, HC2.out⟩
      case measure => simp [l1, l2]; omega
    · have e : i = n - n0 := by omega
      subst e
      go_wp2
      go_ret
      exact ⟨_, rfl, HO.out, HPr.out, HC.out⟩
end Go.Proofs.YtgjdogkciklgkaaDoor
namespace Go.Proofs.YtgjdogkciklgkaaDoor
open Go.RowKit

theorem Own.cells {w : World} {base g c : Nat} {l : List KK} (h : Own w base (.slice (some ⟨g, 0, none⟩) l.length c) l) : ∀ j u, (kCells l)[j]? = some u → w.cell? ⟨g, j, none⟩ = some u := by
  intro j u hj
  rcases h.2 with ⟨hn, _⟩ | ⟨g', cap, cur, hv, hb, hgg, hle, hcap, hsz, htk⟩
  · cases hn
  · injection hv with h1 h2 h3
    injection h1 with h1
    injection h1 with h1
    subst h1
    rw [cell_of_row w g j cur _ (0, 0) hgg, ← Array.getElem?_toList]
    rw [← htk, List.getElem?_take] at hj
    split at hj
    · exact hj
    · cases hj

set_option maxRecDepth 100000 in
set_option maxHeartbeats 2000000 in
theorem kCloneP (base : Nat) (v : Value) (l : List KK) (hl : l.length ≤ 1000) (w : World) (ho : Own w base v l) :
    Calls Tryd.prog 44 #[v] w fun e w' => ∃ v', e = .returned v' ∧ Own w' w.heap.size v' l ∧ Bel w.heap.size w w' := by
  have q22 : ∀ (w : World) (a : Option Addr) (n c n' c' : Nat), (binOp .eql 65 (.slice a n c) (.slice none n' c')).run Tryd.prog w = .ok (.bool a.isNone) w := fun w a n c n' c' => Lib.run_eql_slice_nil w _ _ a n c n' c' Tryd.underlying65
  rcases ho.2 with ⟨rfl, hn⟩ | ⟨g, cap, cur, rfl, hb, hgg, hle, hcap, hsz, htk⟩
  · have HO : Hid (Own w w.heap.size (.slice none 0 0) l) := ⟨ho.1, .inl ⟨rfl, hn⟩⟩
    clear ho
    go_enter Tryd.func44, Tryd.ntmps44
    go_wp2
    go_ret
    exact ⟨_, rfl, HO.out, Bel.refl _ _⟩
  · obtain ⟨i0, hi, hz0, hz1, hz2⟩ := info_parts Tryd.infoKK
    have HC := hide ho.cells
    have hl3 := kCells_length l
    have HL := hide hl3
    have H1 := hide (kCells_one l)
    clear ho hb hgg hle hcap hsz htk hl3
    generalize hE : kCells l = news at *
    have HE := hide hE
    clear hE
    go_enter Tryd.func44, Tryd.ntmps44
    go_wp2_with (at_builtin; go_must (refine wpList_append_own _ rfl (.tmp 5) (.tmp 6) 65 rfl w.heap.size 77 i0 (.agg #[.string ⟨#[]⟩, .int .i64 0, .string ⟨#[]⟩]) 3 40 Tryd.underlying65 hi hz0 hz1 hz2 rfl (by decide) _ _ _ rfl (World.ownsRow_made w #[] 0 (Nat.le_refl _) (Nat.zero_le _) (by simp)) ⟨g, 0, none⟩ l.length cap news rfl ?qc1 ?qc2 ?qc3 ?qc4 ?qc5 ?qc6 ?_))
    case qc1 => exact HL.out
    case qc2 =>
      intro j u hj
      rw [Addr.add_lit, Nat.zero_add]
      exact Lib.cell?_alloc_some _ (HC.out j u hj)
    case qc3 => exact H1.out
    case qc4 => unfold maxLen; omega
    case qc5 => omega
    case qc6 => simp
    intro v' w1 hown hgrow hnil
    have HB : Hid (Bel w.heap.size w w1) := ((Bel.refl _ w).alloc (Nat.le_refl _) _).grown hgrow (by simp) (by intro k hk; simp [Value.ownBlock] at hk; omega)
    have HO : Hid (Own w1 w.heap.size v' l) := by
      show Own _ _ _ _
      unfold Own
      rw [HE.out]
      exact hown
    clear hown hgrow hnil
    go_wp2
    go_ret
    exact ⟨v', rfl, HO.out, HB.out⟩

def layA (cur : Array Value) (o : Nat) : List Value → Array Value
  | [] => cur
  | v :: r => layA (cur.setIfInBounds o v) (o + 1) r
theorem layA_size : ∀ (vs : List Value) (cur : Array Value) (o : Nat), (layA cur o vs).size = cur.size
  | [], _, _ => rfl
  | v :: r, cur, o => by rw [layA, layA_size r, Array.size_setIfInBounds]
theorem layA_get : ∀ (vs : List Value) (cur : Array Value) (o i : Nat), (layA cur o vs)[i]? = if o ≤ i ∧ i < o + vs.length ∧ i < cur.size then vs[i - o]? else cur[i]?
  | [], cur, o, i => by rw [if_neg (by simp; omega)]; rfl
  | v :: r, cur, o, i => by
    rw [layA, layA_get r, Array.size_setIfInBounds, List.length_cons]
    by_cases h : i = o
    · subst h
      rw [if_neg (by omega), Array.getElem?_setIfInBounds, if_pos rfl, Nat.sub_self]
      by_cases h2 : i < cur.size
      · rw [if_pos h2, if_pos (by omega)]; rfl
      · rw [if_neg h2, if_neg (by omega), Array.getElem?_eq_none (by omega)]
    · rw [Array.getElem?_setIfInBounds_ne (by omega)]
      by_cases h2 : o + 1 ≤ i ∧ i < o + 1 + r.length ∧ i < cur.size
      · rw [if_pos h2, if_pos (by omega), show i - o = (i - (o + 1)) + 1 by omega, List.getElem?_cons_succ]
      · rw [if_neg h2, if_neg (by omega)]
theorem heap_setCells_same (g : Nat) (T : TypeId) : ∀ (vs : List Value) (o : Nat) (w : World) (cs : Array Value), w.heap[g]? = some (.cells cs T (0, 0)) → (w.setCells g o vs).heap[g]? = some (.cells (layA cs o vs) T (0, 0))
  | [], _, _, _, h => h
  | v :: r, o, w, cs, h => by
    rw [World.setCells, layA]
    exact heap_setCells_same g T r (o + 1) _ _ (heap_setCell_same w g o _ T v h)
theorem Chg.setCells {g : Nat} {u : World} : ∀ (vs : List Value) (o : Nat) (w : World), Chg g u w → Chg g u (w.setCells g o vs)
  | [], _, _, h => h
  | v :: r, o, w, h => by rw [World.setCells]; exact Chg.setCells r (o + 1) _ (h.setCell o v)
theorem del_take (l : List KK) (cur : Array Value) (zs : List Value) (n i j : Nat) (hn : l.length = n) (hij : i < j) (hj : j ≤ n) (hcur : cur.toList.take (n * 3) = kCells l) :
    (layA (layA cur (i * 3) (kCells (l.drop j))) ((i + (n - j)) * 3) zs).toList.take ((i + (n - j)) * 3) = kCells (l.take i ++ l.drop j) := by
  have hlen : n * 3 ≤ cur.size := by
    have := congrArg List.length hcur
    rw [List.length_take, kCells_length, Array.length_toList] at this
    omega
  have hc : ∀ t, t < n * 3 → cur[t]? = (kCells l)[t]? := fun t ht => by
    rw [← hcur, List.getElem?_take, if_pos ht, Array.getElem?_toList]
  apply List.ext_getElem?
  intro t
  rw [List.getElem?_take, kCells_append]
  have l1 : (kCells (l.take i)).length = i * 3 := by rw [kCells_length, List.length_take]; omega
  have l2 : (kCells (l.drop j)).length = (n - j) * 3 := by rw [kCells_length, List.length_drop]; omega
  by_cases ht : t < (i + (n - j)) * 3
  · rw [if_pos ht, Array.getElem?_toList, layA_get, if_neg (by omega), layA_get, l2]
    by_cases h2 : t < i * 3
    · rw [if_neg (by omega), List.getElem?_append_left (by omega), hc t (by omega), kCells_take, List.getElem?_take, if_pos h2]
    · rw [if_pos (by omega), List.getElem?_append_right (by omega), l1]
  · rw [if_neg ht, List.getElem?_eq_none (by rw [List.length_append]; omega)]

theorem run_clear3 (w : World) (g o n c : Nat) (cs : Array Value) (h : w.heap[g]? = some (.cells cs 77 (0, 0))) (hn : 0 < n) (ho : o + n * 3 ≤ cs.size) :
    ∃ zs, zs.length = n * 3 ∧ ∀ ty, (Builtin.clear_ #[65] ty #[.slice (some ⟨g, o, none⟩) n c]).run Tryd.prog w = .ok (.tuple #[]) (w.setCells g o zs) := by
  have hv : ∀ w, (zeroValue 77).run Tryd.prog w = .ok (.agg #[.string ⟨#[]⟩, .int .i64 0, .string ⟨#[]⟩]) w := fun w => by kernel_rfl
  obtain ⟨zs, hzs⟩ : ∃ zs, zs = (Builtin.zeroCells (Value.agg #[.string ⟨#[]⟩, .int .i64 0, .string ⟨#[]⟩]).cells n).toList := ⟨_, rfl⟩
  have hzl : zs.length = n * 3 := by rw [hzs]; simp [Builtin.zeroCells, Value.cells]
  have hz1 : ∀ v ∈ zs, v.oneCell' = true := by
    intro v hv'
    rw [hzs] at hv'
    simp [Builtin.zeroCells, Value.cells] at hv'
    obtain ⟨a, _, rfl⟩ := hv'
    have h3 : a % 3 = 0 ∨ a % 3 = 1 ∨ a % 3 = 2 := by omega
    rcases h3 with h3 | h3 | h3 <;> rw [h3] <;> rfl
  have hst := run_storeCells_cells (P := Tryd.prog) g o zs 0 w
    (by intro j hj; rw [cell_of_row w g _ cs _ (0, 0) h]; simp; omega) (by intro j hj; exact frozen_of_row w g _ cs _ h) hz1
  simp only [Nat.add_zero] at hst
  obtain ⟨m, rfl⟩ : ∃ m, n = m + 1 := ⟨n - 1, by omega⟩
  refine ⟨zs, hzl, fun ty => ?_⟩
  simp [Builtin.clear_, run_underlying Tryd.underlying65, hv, ← hzs, hst]

set_option maxRecDepth 100000 in
set_option maxHeartbeats 4000000 in
theorem kDelP (base g cap i j n : Nat) (l : List KK) (hn : l.length = n) (hij : i < j) (hj : j ≤ n) (w : World) (ho : Own w base (.slice (some ⟨g, 0, none⟩) n cap) l) :
    Calls Tryd.prog 95 #[.slice (some ⟨g, 0, none⟩) n cap, .int .i64 (i : Int), .int .i64 (j : Int)] w fun e w' => e = .returned (.slice (some ⟨g, 0, none⟩) (i + (n - j)) cap) ∧ Own w' base (.slice (some ⟨g, 0, none⟩) (i + (n - j)) cap) (l.take i ++ l.drop j) ∧ Chg g w w' := by
  rcases ho.2 with ⟨h0, _⟩ | ⟨g', cap', cur, hv, hb, hgg, hle, hcap, hsz, htk⟩
  · cases h0
  injection hv with h1 h2 h3
  injection h1 with h1
  injection h1 with h1
  subst h1
  subst h3
  rw [hn] at hle htk
  clear h2 ho
  obtain ⟨i0, hi0, hz0, hz1, hz2⟩ := info_parts Tryd.infoKK
  obtain ⟨news, hnews⟩ : ∃ news, news = kCells (l.drop j) := ⟨_, rfl⟩
  have hlen : news.length = (n - j) * 3 := by rw [hnews, kCells_length, List.length_drop, hn]
  have hgd : w.drew.heap[g]? = some (.cells cur 77 (0, 0)) := hgg
  have hcurl : n * 3 ≤ cur.size := by rw [hsz]; exact Nat.mul_le_mul_right 3 hle
  have hget : ∀ t u, news[t]? = some u → w.drew.cell? ⟨g, j * 3 + t, none⟩ = some u := by
    intro t u hu
    have ht : t < (n - j) * 3 := by have := (List.getElem?_eq_some_iff.1 hu).1; rwa [hlen] at this
    rw [cell_of_row w.drew g _ cur _ (0, 0) hgd, ← Array.getElem?_toList]
    rw [hnews, kCells_drop, List.getElem?_drop, ← htk, List.getElem?_take, if_pos (by omega)] at hu
    exact hu
  obtain ⟨A, hA, hsrc⟩ : ∃ A : Addr, (if cap = j then some (⟨g, 0, none⟩ : Addr) else some ⟨g, j * 3, none⟩) = some A ∧ Hid (∀ t u, news[t]? = some u → w.drew.cell? (A.add t) = some u) := by
    by_cases h : cap = j
    · refine ⟨⟨g, 0, none⟩, by simp [h], fun t u hu => ?_⟩
      have h0 : news.length = 0 := by rw [hlen]; omega
      rw [List.length_eq_zero_iff.1 h0] at hu
      simp at hu
    · refine ⟨⟨g, j * 3, none⟩, by simp [h], fun t u hu => ?_⟩
      rw [Addr.add_lit]
      exact hget t u hu
  have s1 : Hid (news.length = (n - j) * 3) := hlen
  have s2 : Hid (∀ u ∈ news, u.oneCell' = true) := by rw [hnews]; exact kCells_one _
  have s3 : Hid (∀ t, t < news.length → (w.drew.cell? ⟨g, 0 + i * 3 + t, none⟩).isSome = true ∧ w.drew.frozen? ⟨g, 0 + i * 3 + t, none⟩ = false) := by
    intro t ht
    rw [hlen] at ht
    refine ⟨?_, frozen_of_row w.drew g _ cur _ hgd⟩
    rw [cell_of_row w.drew g _ cur _ (0, 0) hgd]
    simp
    omega
  obtain ⟨W1, hW1⟩ : ∃ W1, W1 = w.drew.setCells g (0 + i * 3) news := ⟨_, rfl⟩
  have hg1 : W1.heap[g]? = some (.cells (layA cur (i * 3) news) 77 (0, 0)) := by rw [hW1, Nat.zero_add]; exact heap_setCells_same g _ news (i * 3) w.drew cur hgd
  have HC1 : Hid (Chg g w W1) := by rw [hW1]; exact Chg.setCells _ _ _ (Chg.of_bel (Bel.refl _ _)).drew
  obtain ⟨zs, hzl, hcl⟩ := run_clear3 W1 g ((i + (n - j)) * 3) (n - (i + (n - j))) (cap - (i + (n - j))) _ hg1 (by omega) (by rw [layA_size]; omega)
  have hW : Hid (W1 = w.drew.setCells g (0 + i * 3) news) := hW1
  have hic : i ≤ cap := by omega
  have hjc : j ≤ cap := by omega
  have HG1 := hide hg1
  have HTK := hide htk
  have HNEWS := hide hnews
  have HSZ := hide hsz
  have HB := hide hb
  clear hW1 hg1 hgd hgg hget hnews hlen hsz htk hb
  go_enter Tryd.func95, Tryd.ntmps95
  go_wp2_with fail
  go_region_law (refine step_append_room rfl (.tmp 22) (.tmp 25) 65 rfl 77 i0 3 Tryd.underlying65 hi0 hz1 g 0 i cap (by simp [Act.eval, Act.put]) A (n - j) (cap - j) news (by simp [Act.eval, Act.put]) s1.out hsrc.out s2.out (by omega) s3.out ?_; rw [← hW.out])
  go_wp2
  go_ret
  have hD := del_take l cur zs n i j hn hij hj HTK.out
  rw [← HNEWS.out] at hD
  refine ⟨rfl, ⟨?_, .inr ⟨g, cap, layA (layA cur (i * 3) news) ((i + (n - j)) * 3) zs, ?_, HB.out, heap_setCells_same g _ zs _ W1 _ HG1.out, by simp only [List.length_append, List.length_take, List.length_drop]; omega, hcap, by rw [layA_size, layA_size]; exact HSZ.out, ?_⟩⟩, Chg.setCells _ _ _ HC1.out⟩
  · rw [kCells_length]
  · rw [List.length_append, List.length_take, List.length_drop, hn, show min i n + (n - j) = i + (n - j) by omega]
  · rw [List.length_append, List.length_take, List.length_drop, hn, show min i n + (n - j) = i + (n - j) by omega]
    exact hD
end Go.Proofs.YtgjdogkciklgkaaDoor
namespace Go.Proofs.YtgjdogkciklgkaaDoor
open Go.RowKit

set_option maxRecDepth 100000 in
set_option maxHeartbeats 1000000 in
theorem hitP (k : KK) (th : List UInt8) (n B : Nat) (w : World) (c0 : w.cell? ⟨B, 0, none⟩ = some (.string (str th))) (c2 : w.cell? ⟨B, 2, none⟩ = some (.int .i64 (n : Int))) :
    Calls Tryd.prog 94 #[.agg #[.string (str k.th), .int .i64 (k.n : Int), .string (str k.key)], .pointer (some ⟨B, 0, none⟩)] w fun e w' => e = .returned (.bool (hitK th n k)) ∧ Bel w.heap.size w w' := by
  have hlt : B < w.heap.size := cell_lt c0
  have hne : B ≠ w.heap.size := by omega
  have e1 := str_toList k.th
  have e2 := str_toList th
  have HH : Hid (hitK th n k = (decide (k.th = th) && decide (k.n = n))) := rfl
  by_cases h1 : k.th = th
  · by_cases h2 : k.n = n
    · have b1 : (k.th == th) = true := by rw [h1]; exact beq_self_eq_true _
      rw [h1] at b1
      rw [h2, h1]
      rw [decide_eq_true h1, decide_eq_true h2] at HH
      clear h1 h2
      generalize hitK th n k = r at *
      go_enter Tryd.func94, Tryd.ntmps94
      go_wp2
      go_ret
      exact ⟨by rw [HH.out]; rfl, (Bel.refl _ _).alloc (Nat.le_refl _) _⟩
    · rw [h1]
      have b2 : ((k.n : Int) == (n : Int)) = false := by rw [beq_eq_false_iff_ne]; omega
      rw [decide_eq_true h1, decide_eq_false h2] at HH
      clear h1
      generalize hitK th n k = r at *
      go_enter Tryd.func94, Tryd.ntmps94
      go_wp2
      go_ret
      exact ⟨by rw [HH.out]; rfl, (Bel.refl _ _).alloc (Nat.le_refl _) _⟩
  · have b1 : (k.th == th) = false := by rw [beq_eq_false_iff_ne]; exact h1
    rw [decide_eq_false h1] at HH
    generalize hitK th n k = r at *
    go_enter Tryd.func94, Tryd.ntmps94
    go_wp2
    go_ret
    exact ⟨by rw [HH.out]; rfl, (Bel.refl _ _).alloc (Nat.le_refl _) _⟩

def idxI : Option Nat → Int
  | some i => (i : Int)
  | none => -1
theorem find_hit (l : List KK) (th : List UInt8) (n i : Nat) (hi : i < l.length) (h1 : hitK th n (l.getD i default) = true) (h2 : ∀ j, j < i → hitK th n (l.getD j default) = false) : findK l th n = some i := by
  unfold findK
  rw [List.findIdx?_eq_some_iff_getElem]
  refine ⟨hi, by rw [← getD_in _ default hi]; exact h1, fun j hj => ?_⟩
  rw [← getD_in _ default (show j < l.length by omega), h2 j hj]
  decide
theorem find_miss (l : List KK) (th : List UInt8) (n : Nat) (h2 : ∀ j, j < l.length → hitK th n (l.getD j default) = false) : findK l th n = none := by
  unfold findK
  rw [List.findIdx?_eq_none_iff]
  intro x hx
  obtain ⟨j, hj, rfl⟩ := List.getElem_of_mem hx
  rw [← getD_in _ default hj]
  exact h2 j hj

set_option maxRecDepth 100000 in
set_option maxHeartbeats 2000000 in
theorem kIdxP (base B n : Nat) (v : Value) (l : List KK) (th : List UInt8) (hl : l.length ≤ 1000) (w : World) (ho : Own w base v l) (c0 : w.cell? ⟨B, 0, none⟩ = some (.string (str th))) (c2 : w.cell? ⟨B, 2, none⟩ = some (.int .i64 (n : Int))) :
    Calls Tryd.prog 93 #[v, .func (.func 94) #[] #[.pointer (some ⟨B, 0, none⟩)]] w fun e w' => e = .returned (.int .i64 (idxI (findK l th n))) ∧ Bel w.heap.size w w' := by
  have hlt : B < w.heap.size := cell_lt c0
  rcases ho.2 with ⟨rfl, hn⟩ | ⟨g, cap, cur, rfl, hb, hgg, hle, hcap, hsz, htk⟩
  · have hr : Hid (findK l th n = none) := find_miss l th n (fun j hj => by omega)
    clear ho
    go_enter Tryd.func93, Tryd.ntmps93
    go_wp2
    go_loopw [8] (fun t wr => t = .int .i64 0 ∧ wr = w) (fun _ _ => 0)
    case atStart => exact ⟨rfl, rfl⟩
    case round =>
      obtain ⟨rfl, rfl⟩ := hrel
      go_wp2
      go_ret
      exact ⟨by rw [hr.out]; rfl, Bel.refl _ _⟩
  · have HC := hide ho.cells
    have hgl : g < w.heap.size := (Array.getElem?_eq_some_iff.1 hgg).1
    have HC0 := hide c0
    have HC2 := hide c2
    clear ho hb hgg hle hsz htk c0 c2
    go_enter Tryd.func93, Tryd.ntmps93
    go_wp2
    go_loopw [5, 8] (fun _ t wr => ∃ i : Nat, i ≤ l.length ∧ t = .int .i64 i ∧ Bel w.heap.size w wr ∧ (∀ j, j < i → hitK th n (l.getD j default) = false)) (fun _ t _ => l.length - (intOf t).toNat)
    case atStart => exact ⟨0, Nat.zero_le _, rfl, Bel.refl _ _, fun j hj => by omega⟩
    case round =>
      obtain ⟨i, hi, rfl, hB, hno⟩ := hrel
      have HB := hide hB
      have HN := hide hno
      clear hB hno
      by_cases hil : i < l.length
      · have hk := kCells_get l i hil
        have d0 := (HB.out.cell (p := ⟨g, i * 3, none⟩) hgl).trans (HC.out _ _ hk.1)
        have d1 := (HB.out.cell (p := ⟨g, i * 3 + 1, none⟩) hgl).trans (HC.out _ _ hk.2.1)
        have d2 := (HB.out.cell (p := ⟨g, i * 3 + 2, none⟩) hgl).trans (HC.out _ _ hk.2.2)
        have hz : (i : Int) < (l.length : Int) := by omega
        clear hk
        have HX : Hid (Calls Tryd.prog 94 #[.agg #[.string (str (l.getD i default).th), .int .i64 ((l.getD i default).n : Int), .string (str (l.getD i default).key)], .pointer (some ⟨B, 0, none⟩)] wr fun e w' => e = .returned (.bool (hitK th n (l.getD i default))) ∧ Bel wr.heap.size wr w') := hitP _ th n B wr ((HB.out.cell (p := ⟨B, 0, none⟩) hlt).trans HC0.out) ((HB.out.cell (p := ⟨B, 2, none⟩) hlt).trans HC2.out)
        have HF := hide (fun h1 => find_hit l th n i hil h1 HN.out)
        have HN2 := hide (fun (h1 : hitK th n (l.getD i default) = false) (j : Nat) (hj : j < i + 1) => if e : j = i then (e ▸ h1 : hitK th n (l.getD j default) = false) else HN.out j (by omega))
        generalize hitK th n (l.getD i default) = r at *
        generalize l.getD i default = k at *
        go_wp2_with fail
        refine HX.out.mono ?_
        rintro e w1 ⟨rfl, hb1⟩
        have HB1 := hide (HB.out.trans (hb1.mono HB.out.size))
        clear hb1 HX d0 d1 d2
        cases r with
        | true =>
          have HR := hide (HF.out rfl)
          go_wp2
          go_ret
          exact ⟨by rw [HR.out]; rfl, HB1.out⟩
        | false =>
          have HR := hide (HN2.out rfl)
          go_wp2
          go_roundw
          case rel => exact ⟨i + 1, by omega, by go_num, HB1.out, HR.out⟩
          case measure => simp [intOf]; omega
      · have e : i = l.length := by omega
        subst e
        have HR := hide (find_miss l th n HN.out)
        go_wp2
        go_ret
        exact ⟨by rw [HR.out]; rfl, HB.out⟩
end Go.Proofs.YtgjdogkciklgkaaDoor
