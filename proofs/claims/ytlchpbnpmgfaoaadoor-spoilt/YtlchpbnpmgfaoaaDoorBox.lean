/-
  The box: the stream, the tag: plain functions, and the program's small calls.
-/
import Derived.Test.YtlchpbnpmgfaoaaDoorDerive
import Derived.Test.YtlchpbnpmgfaoaaDoorPad
import Derived.Test.YtlchpbnpmgfaoaaDoorRefH
namespace Go.Proofs.YtlchpbnpmgfaoaaDoor
open Go.RowKit

/-- The first bytes of a block, that may be written. -/
structure Head (w : World) (g : Nat) (l : List Nat) : Prop where
  cell : ∀ j, j < l.length → w.cell? ⟨g, j, none⟩ = some (.int .u8 (l.getD j 0 : Nat))
  froz : ∀ j, j < l.length → w.frozen? ⟨g, j, none⟩ = false
theorem Head.set {w : World} {g : Nat} {l : List Nat} (h : Head w g l) (j v : Nat) (hj : j < l.length) : Head (w.setCell ⟨g, j, none⟩ (.int .u8 (v : Int))) g (l.set j v) := by
  constructor
  · intro i hi
    rw [List.length_set] at hi
    by_cases e : i = j
    · subst e
      rw [World.cell?_setCell_same _ _ _ (h.cell i hi)]
      simp [List.getD_eq_getElem?_getD, hi]
    · rw [World.cell?_setCell_other _ _ _ _ (by intro q; injection q with _ q2; exact e q2.symm), h.cell i hi]
      simp [List.getD_eq_getElem?_getD, Ne.symm e]
  · intro i hi
    rw [List.length_set] at hi
    rw [World.frozen?_setCell]
    exact h.froz i hi
theorem Head.drew {w : World} {g : Nat} {l : List Nat} (h : Head w g l) : Head w.drew g l := ⟨h.cell, h.froz⟩
theorem Head.below {w w' : World} {g B : Nat} {l : List Nat} (h : Head w g l) (hb : Bel B w w') (hB : g < B) : Head w' g l :=
  ⟨fun j hj => (hb.cell (p := ⟨g, j, none⟩) hB).trans (h.cell j hj), fun j hj => (hb.frozen (p := ⟨g, j, none⟩) hB).trans (h.froz j hj)⟩
def nums (l : List UInt8) : List Nat := l.map fun b => b.toNat
theorem nums_length (l : List UInt8) : (nums l).length = l.length := by simp [nums]
theorem nums_getD (l : List UInt8) (j : Nat) : (nums l).getD j 0 = byteAt l j := by
  unfold byteAt nums
  by_cases h : j < l.length
  · simp [h]
  · simp [List.getElem?_eq_none (Nat.le_of_not_lt h)]

/-- WHAT '[]byte(s)' LEAVES. -/
theorem convHead (l : List UInt8) (w : World) (hl : l.length ≤ maxLen) : ∃ cap W, (convert 9 59 (.string (str l))).run Tryd.prog w = .ok (.slice (some ⟨w.heap.size, 0, none⟩) l.length cap) W ∧
    Head W w.heap.size (nums l) ∧ Bel w.heap.size w W ∧ W.heap.size = w.heap.size + 1 := by
  obtain ⟨cap, W, h1, h2, h3, h4, _⟩ := convB l w hl
  have hr := Lib.run_convert_string_bytes (P := Tryd.prog) w 9 59 5 (str l) Tryd.underlying9 Tryd.underlying59 Tryd.underlying5
  rw [h1] at hr
  injection hr with hv hw
  refine ⟨cap, W, h1, ⟨fun j hj => ?_, fun j hj => ?_⟩, h3, h4⟩
  · rw [nums_length] at hj
    rw [nums_getD, hw, Lib.bytesWorld_cell w _ _ j (by rw [str_size]; exact hj), str_data]
    rfl
  · rw [nums_length] at hj
    have hn := Lib.bytesWorld_at_new w 5 (str l)
    rw [hw]
    simp only [World.frozen?, hn]
    have : (Lib.bytesCells w 5 (str l)).size ≥ l.length := by
      have h6 : (str l).data.size = l.length := by simp [str]
      simp [Lib.bytesCells, h6]
    simp
    omega
/-- 'string(b)', b all of a block's head. -/
theorem convHeadS {w : World} {g c : Nat} {l : List Nat} (h : Head w g l) :
    (convert 59 9 (.slice (some ⟨g, 0, none⟩) l.length c)).run Tryd.prog w = .ok (.string (str (l.map UInt8.ofNat))) w := by
  have := run_convert_bytes_arg (P := Tryd.prog) w 59 5 Tryd.underlying59 Tryd.underlying5 g 0 l.length c (l.map fun x : Nat => (x : Int)) (by simp)
    (fun i hi => by
      rw [Nat.zero_add, h.cell i (by omega)]
      simp [show i < l.length by omega]) 9 Tryd.underlying9
  rw [this]
  simp [strOfNums, str]

/-- 'string([]byte{..})' of four, the block just laid. -/
theorem conv4 (a b c d : Int) (w : World) :
    (convert 59 9 (.slice (some ⟨w.heap.size, 0, none⟩) 4 4)).run Tryd.prog (w.alloc (.cells #[.int .u8 a, .int .u8 b, .int .u8 c, .int .u8 d] 5)) = .ok (.string (str [UInt8.ofNat a.toNat, UInt8.ofNat b.toNat, UInt8.ofNat c.toNat, UInt8.ofNat d.toNat])) (w.alloc (.cells #[.int .u8 a, .int .u8 b, .int .u8 c, .int .u8 d] 5)) :=
  run_convert_bytes_arg (P := Tryd.prog) _ 59 5 Tryd.underlying59 Tryd.underlying5 w.heap.size 0 4 4 [a, b, c, d] rfl
    (fun i hi => by
      match i, hi with
      | 0, _ => rw [World.cell?_alloc_new]; rfl
      | 1, _ => rw [World.cell?_alloc_new]; rfl
      | 2, _ => rw [World.cell?_alloc_new]; rfl
      | 3, _ => rw [World.cell?_alloc_new]; rfl) 9 Tryd.underlying9

theorem four_eq (n : Nat) : [UInt8.ofNat ((n : Int) / 16777216 % 256).toNat, UInt8.ofNat ((n : Int) / 65536 % 256).toNat, UInt8.ofNat ((n : Int) / 256 % 256).toNat, UInt8.ofNat ((n : Int) % 256).toNat] = bigB n 4 := by
  have e0 := byte_eq n 0
  have e1 := byte_eq n 1
  have e2 := byte_eq n 2
  have e3 := byte_eq n 3
  simp only [Nat.mul_zero, Nat.reduceMul, Int.reducePow, Int.pow_zero, Int.ediv_one] at e0 e1 e2 e3
  simp only [bigB, e0, e1, e2, e3]

set_option maxRecDepth 100000 in
theorem fourP (n : Nat) (w : World) :
    Calls Tryd.prog 66 #[.int .i64 n] w fun e w' => e = .returned (.string (str (bigB n 4))) ∧ Bel w.heap.size w w' := by
  have hcv := conv4 ((n : Int) / 16777216 % 256) ((n : Int) / 65536 % 256) ((n : Int) / 256 % 256) ((n : Int) % 256) w
  rw [four_eq n] at hcv
  go_enter Tryd.func66, Tryd.ntmps66
  go_wp2
  go_ret
  exact ⟨rfl, (Bel.refl _ _).alloc (Nat.le_refl _) _⟩

/-- The stream's parts one behind the other. -/
def streamTo (k : List UInt8) : Nat → List UInt8
  | 0 => []
  | j + 1 => streamTo k j ++ hmac k (bigB j 4)
theorem streamTo_length (k : List UInt8) : ∀ j, (streamTo k j).length = 32 * j
  | 0 => rfl
  | j + 1 => by simp only [streamTo]; rw [List.length_append, streamTo_length k j, hmac_length]; omega
/-- Byte i of the stream. -/
def streamAt (k : List UInt8) (i : Nat) : Nat := byteAt (hmac k (bigB (i / 32) 4)) (i % 32)
theorem streamAt_lt (k : List UInt8) (i : Nat) : streamAt k i < 256 := byteAt_lt _ _
theorem byteAt_append_left (a b : List UInt8) (i : Nat) (h : i < a.length) : byteAt (a ++ b) i = byteAt a i := by
  unfold byteAt; simp [List.getElem?_append_left h]
theorem byteAt_append_right (a b : List UInt8) (i : Nat) (h : a.length ≤ i) : byteAt (a ++ b) i = byteAt b (i - a.length) := by
  unfold byteAt; simp [List.getElem?_append_right h]
theorem streamTo_at (k : List UInt8) : ∀ j i, i < 32 * j → byteAt (streamTo k j) i = streamAt k i
  | 0, i, h => by omega
  | j + 1, i, h => by
    simp only [streamTo]
    by_cases hi : i < 32 * j
    · rw [byteAt_append_left _ _ _ (by rw [streamTo_length]; exact hi), streamTo_at k j i hi]
    · rw [byteAt_append_right _ _ _ (by rw [streamTo_length]; omega), streamTo_length]
      unfold streamAt
      rw [show i / 32 = j by omega, show i % 32 = i - 32 * j by omega]
def boxAt (k s : List UInt8) (i : Nat) : Nat := byteAt s i ^^^ streamAt k i
theorem boxAt_lt (k s : List UInt8) (i : Nat) : boxAt k s i < 256 := Nat.xor_lt_two_pow (n := 8) (byteAt_lt _ _) (streamAt_lt _ _)
def boxL (k s : List UInt8) : List UInt8 := (List.range s.length).map fun i => UInt8.ofNat (boxAt k s i)
theorem boxL_length (k s : List UInt8) : (boxL k s).length = s.length := by simp [boxL]
theorem byteAt_boxL (k s : List UInt8) (i : Nat) (h : i < s.length) : byteAt (boxL k s) i = boxAt k s i := by
  unfold byteAt
  rw [getD_in _ _ (by rw [boxL_length]; exact h)]
  simp [boxL]
  have := boxAt_lt k s i
  omega
theorem byteAt_inj {a b : List UInt8} (hl : a.length = b.length) (h : ∀ i, i < a.length → byteAt a i = byteAt b i) : a = b := by
  apply List.ext_getElem hl
  intro i h1 h2
  have := h i h1
  unfold byteAt at this
  rw [getD_in _ _ h1, getD_in _ _ h2] at this
  exact UInt8.toNat_inj.1 this
/-- Done twice, it is undone. -/
theorem boxL_twice (k s : List UInt8) : boxL k (boxL k s) = s := by
  apply byteAt_inj (by rw [boxL_length, boxL_length])
  intro i hi
  rw [boxL_length, boxL_length] at hi
  rw [byteAt_boxL _ _ _ (by rw [boxL_length]; exact hi)]
  unfold boxAt
  rw [byteAt_boxL _ _ _ hi]
  unfold boxAt
  rw [Nat.xor_assoc, Nat.xor_self, Nat.xor_zero]
def tagL (k ad b : List UInt8) : List UInt8 := (hmac k (bigB ad.length 4 ++ ad ++ b)).take 16
theorem tagL_length (k ad b : List UInt8) : (tagL k ad b).length = 16 := by
  unfold tagL
  rw [List.length_take, hmac_length]
  rfl
def sealK : List UInt8 := [115, 101, 97, 108]
def k1 (key : List UInt8) : List UInt8 := (hkdf [] key sealK 64).take 32
def k2 (key : List UInt8) : List UInt8 := (hkdf [] key sealK 64).drop 32
theorem k1_length (key : List UInt8) : (k1 key).length = 32 := by unfold k1; rw [List.length_take, hkdf_length]; rfl
theorem k2_length (key : List UInt8) : (k2 key).length = 32 := by unfold k2; rw [List.length_drop, hkdf_length]
def sealL (key ad text : List UInt8) : List UInt8 := boxL (k1 key) text ++ tagL (k2 key) ad (boxL (k1 key) text)
/-- The part done, k places of it. -/
def partTo (g f : Nat → Nat) (n k : Nat) : List Nat := (List.range n).map fun i => if i < k then g i else f i
theorem partTo_length (g f : Nat → Nat) (n k : Nat) : (partTo g f n k).length = n := by simp [partTo]
theorem partTo_getD (g f : Nat → Nat) (n k i : Nat) (hi : i < n) : (partTo g f n k).getD i 0 = if i < k then g i else f i := by
  rw [getD_in _ _ (by rw [partTo_length]; exact hi)]
  simp [partTo]
theorem partTo_set (g f : Nat → Nat) (n k : Nat) : (partTo g f n k).set k (g k) = partTo g f n (k + 1) := by
  apply List.ext_getElem (by simp [partTo_length])
  intro m h1 h2
  rw [List.getElem_set]
  by_cases e : k = m
  · subst e
    rw [if_pos rfl]
    simp only [partTo, List.getElem_map, List.getElem_range]
    rw [if_pos (by omega)]
  · rw [if_neg e]
    simp only [partTo, List.getElem_map, List.getElem_range]
    by_cases h : m < k
    · rw [if_pos h, if_pos (by omega)]
    · rw [if_neg h, if_neg (by omega)]
theorem partTo_nums (g : Nat → Nat) (s : List UInt8) : partTo g (byteAt s) s.length 0 = nums s := by
  apply List.ext_getElem (by rw [partTo_length, nums_length])
  intro m h1 h2
  rw [partTo_length] at h1
  simp only [partTo, nums, List.getElem_map, List.getElem_range]
  rw [if_neg (by omega)]
  unfold byteAt
  rw [getD_in _ _ h1]
theorem partTo_end (k s : List UInt8) (f : Nat → Nat) : (partTo (boxAt k s) f s.length s.length).map UInt8.ofNat = boxL k s := by
  unfold partTo boxL
  rw [List.map_map]
  apply List.map_congr_left
  intro i hi
  have : i < s.length := by simpa using hi
  simp [this]
end Go.Proofs.YtlchpbnpmgfaoaaDoor
