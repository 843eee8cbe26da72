/-
  The box: the stream, the tag: plain functions, and the program's small calls.
-/
import Derived.Test.YtgjdogkciklgkaaDoorDr
import Derived.Test.YtgjdogkciklgkaaDoorPad
import Derived.Test.YtgjdogkciklgkaaDoorRefH
namespace Go.Proofs.YtgjdogkciklgkaaDoor
open Go.RowKit

/-- The first bytes of a block, that may be written. -/
structure Head (w : World) (g : Nat) (l : List Nat) : Prop where
  cell : ∀ j, j < l.length → w.cell? ⟨g, j, none⟩ = some (.int .u8 (l.getD j 0 : Nat))
  froz : ∀ j, j < l.length → w.frozen? ⟨g, j, none⟩ = false
theorem Head.set {w : World} {g : Nat} {l : List Nat} (h : Head w g l) (j v : Nat) (hj : j < l.length) : Head (w.setCell ⟨g, j, none⟩ (.int .u8 (v : Int))) g (l.set j v) := by
  constructor
  · intro i hi
    rw [List.length_set] at hi
    by_cases e : i = j
    · subst e
      rw [World.cell?_setCell_same _ _ _ (h.cell i hi)]
      simp [List.getD_eq_getElem?_getD, hi]
    · rw [World.cell?_setCell_other _ _ _ _ (by intro q; injection q with _ q2; exact e q2.symm), h.cell i hi]
      simp [List.getD_eq_getElem?_getD, Ne.symm e]
  · intro i hi
    rw [List.length_set] at hi
    rw [World.frozen?_setCell]
    exact h.froz i hi
theorem Head.drew {w : World} {g : Nat} {l : List Nat} (h : Head w g l) : Head w.drew g l := ⟨h.cell, h.froz⟩
theorem Head.below {w w' : World} {g B : Nat} {l : List Nat} (h : Head w g l) (hb : Bel B w w') (hB : g < B) : Head w' g l :=
  ⟨fun j hj => (hb.cell (p := ⟨g, j, none⟩) hB).trans (h.cell j hj), fun j hj => (hb.frozen (p := ⟨g, j, none⟩) hB).trans (h.froz j hj)⟩
def nums (l : List UInt8) : List Nat := l.map fun b => b.toNat
theorem nums_length (l : List UInt8) : (nums l).length = l.length := by simp [nums]
theorem nums_getD (l : List UInt8) (j : Nat) : (nums l).getD j 0 = byteAt l j := by
  unfold byteAt nums
  by_cases h : j < l.length
  · simp [h]
  · simp [List.getElem?_eq_none (Nat.le_of_not_lt h)]

/-- WHAT '[]byte(s)' LEAVES. -/
theorem convHead (l : List UInt8) (w : World) (hl : l.length ≤ maxLen) : ∃ cap W, (convert 9 59 (.string (str l))).run Tryd.prog w = .ok (.slice (some ⟨w.heap.size, 0, none⟩) l.length cap) W ∧
    Head W w.heap.size (nums l) ∧ Bel w.heap.size w W ∧ W.heap.size = w.heap.size + 1 := by
  obtain ⟨cap, W, h1, h2, h3, h4, _⟩ := convB l w hl
  have hr := Lib.run_convert_string_bytes (P := Tryd.prog) w 9 59 5 (str l) Tryd.underlying9 Tryd.underlying59 Tryd.underlying5
  rw [h1] at hr
  injection hr with hv hw
  refine ⟨cap, W, h1, ⟨fun j hj => ?_, fun j hj => ?_⟩, h3, h4⟩
  · rw [nums_length] at hj
    rw [nums_getD, hw, Lib.bytesWorld_cell w _ _ j (by rw [str_size]; exact hj), str_data]
    rfl
  · rw [nums_length] at hj
    have hn := Lib.bytesWorld_at_new w 5 (str l)
    rw [hw]
    simp only [World.frozen?, hn]
    have : (Lib.bytesCells w 5 (str l)).size ≥ l.length := by
      have h6 : (str l).data.size = l.length := by simp [str]
      simp [Lib.bytesCells, h6]
    simp
    omega
/-- 'string(b)', b all of a block's head. -/
theorem convHeadS {w : World} {g c : Nat} {l : List Nat} (h : Head w g l) :
    (convert 59 9 (.slice (some ⟨g, 0, none⟩) l.length c)).run Tryd.prog w = .ok (.string (str (l.map UInt8.ofNat))) w := by
  have := run_convert_bytes_arg (P := Tryd.prog) w 59 5 Tryd.underlying59 Tryd.underlying5 g 0 l.length c (l.map fun x : Nat => (x : Int)) (by simp)
    (fun i hi => by
      rw [Nat.zero_add, h.cell i (by omega)]
      simp [show i < l.length by omega]) 9 Tryd.underlying9
  rw [this]
  simp [strOfNums, str]

/-- 'string([]byte{..})' of four, the block just laid. -/
theorem conv4 (a b c d : Int) (w : World) :
    (convert 59 9 (.slice (some ⟨w.heap.size, 0, none⟩) 4 4)).run Tryd.prog (w.alloc (.cells #[.int .u8 a, .int .u8 b, .int .u8 c, .int .u8 d] 5)) = .ok (.string (str [UInt8.ofNat a.toNat, UInt8.ofNat b.toNat, UInt8.ofNat c.toNat, UInt8.ofNat d.toNat])) (w.alloc (.cells #[.int .u8 a, .int .u8 b, .int .u8 c, .int .u8 d] 5)) :=
  run_convert_bytes_arg (P := Tryd.prog) _ 59 5 Tryd.underlying59 Tryd.underlying5 w.heap.size 0 4 4 [a, b, c, d] rfl
    (fun i hi => by
      match i, hi with
      | 0, _ => rw [World.cell?_alloc_new]; rfl
      | 1, _ => rw [World.cell?_alloc_new]; rfl
      | 2, _ => rw [World.cell?_alloc_new]; rfl
      | 3, _ => rw [World.cell?_alloc_new]; rfl) 9 Tryd.underlying9

theorem four_eq (n : Nat) : [UInt8.ofNat ((n : Int) / 16777216 % 256).toNat, UInt8.ofNat ((n : Int) / 65536 % 256).toNat, UInt8.ofNat ((n : Int) / 256 % 256).toNat, UInt8.ofNat ((n : Int) % 256).toNat] = bigB n 4 := by
  have e0 := byte_eq n 0
  have e1 := byte_eq n 1
  have e2 := byte_eq n 2
  have e3 := byte_eq n 3
  simp only [Nat.mul_zero, Nat.reduceMul, Int.reducePow, Int.pow_zero, Int.ediv_one] at e0 e1 e2 e3
  simp only [bigB, e0, e1, e2, e3]

set_option maxRecDepth 100000 in
theorem fourP (n : Nat) (w : World) :
    Calls Tryd.prog 65 #[.int .i64 n] w fun e w' => e = .returned (.string (str (bigB n 4))) ∧ Bel w.heap.size w w' := by
  have hcv := conv4 ((n : Int) / 16777216 % 256) ((n : Int) / 65536 % 256) ((n : Int) / 256 % 256) ((n : Int) % 256) w
  rw [four_eq n] at hcv
  go_enter Tryd.func65, Tryd.ntmps65
  go_wp2
  go_ret
  exact ⟨rfl, (Bel.refl _ _).alloc (Nat.le_refl _) _⟩

/-- The stream's parts one behind the other. -/
def streamTo (k : List UInt8) : Nat → List UInt8
  | 0 => []
  | j + 1 => streamTo k j ++ hmac k (bigB j 4)
theorem streamTo_length (k : List UInt8) : ∀ j, (streamTo k j).length = 32 * j
  | 0 => rfl
  | j + 1 => by simp only [streamTo]; rw [List.length_append, streamTo_length k j, hmac_length]; omega
/-- Byte i of the stream. -/
def streamAt (k : List UInt8) (i : Nat) : Nat := byteAt (hmac k (bigB (i / 32) 4)) (i % 32)
theorem streamAt_lt (k : List UInt8) (i : Nat) : streamAt k i < 256 := byteAt_lt _ _
theorem byteAt_append_left (a b : List UInt8) (i : Nat) (h : i < a.length) : byteAt (a ++ b) i = byteAt a i := by
  unfold byteAt; simp [List.getElem?_append_left h]
theorem byteAt_append_right (a b : List UInt8) (i : Nat) (h : a.length ≤ i) : byteAt (a ++ b) i = byteAt b (i - a.length) := by
  unfold byteAt; simp [List.getElem?_append_right h]
theorem streamTo_at (k : List UInt8) : ∀ j i, i < 32 * j → byteAt (streamTo k j) i = streamAt k i
  | 0, i, h => by omega
  | j + 1, i, h => by
    simp only [streamTo]
    by_cases hi : i < 32 * j
    · rw [byteAt_append_left _ _ _ (by rw [streamTo_length]; exact hi), streamTo_at k j i hi]
    · rw [byteAt_append_right _ _ _ (by rw [streamTo_length]; omega), streamTo_length]
      unfold streamAt
      rw [show i / 32 = j by omega, show i % 32 = i - 32 * j by omega]
def boxAt (k s : List UInt8) (i : Nat) : Nat := byteAt s i ^^^ streamAt k i
theorem boxAt_lt (k s : List UInt8) (i : Nat) : boxAt k s i < 256 := Nat.xor_lt_two_pow (n := 8) (byteAt_lt _ _) (streamAt_lt _ _)
def boxL (k s : List UInt8) : List UInt8 := (List.range s.length).map fun i => UInt8.ofNat (boxAt k s i)
theorem boxL_length (k s : List UInt8) : (boxL k s).length = s.length := by simp [boxL]
theorem byteAt_boxL (k s : List UInt8) (i : Nat) (h : i < s.length) : byteAt (boxL k s) i = boxAt k s i := by
  unfold byteAt
  rw [getD_in _ _ (by rw [boxL_length]; exact h)]
  simp [boxL]
  have := boxAt_lt k s i
  omega
theorem byteAt_inj {a b : List UInt8} (hl : a.length = b.length) (h : ∀ i, i < a.length → byteAt a i = byteAt b i) : a = b := by
  apply List.ext_getElem hl
  intro i h1 h2
  have := h i h1
  unfold byteAt at this
  rw [getD_in _ _ h1, getD_in _ _ h2] at this
  exact UInt8.toNat_inj.1 this
/-- Done twice, it is undone. -/
theorem boxL_twice (k s : List UInt8) : boxL k (boxL k s) = s := by
  apply byteAt_inj (by rw [boxL_length, boxL_length])
  intro i hi
  rw [boxL_length, boxL_length] at hi
  rw [byteAt_boxL _ _ _ (by rw [boxL_length]; exact hi)]
  unfold boxAt
  rw [byteAt_boxL _ _ _ hi]
  unfold boxAt
  rw [Nat.xor_assoc, Nat.xor_self, Nat.xor_zero]
def tagL (k ad b : List UInt8) : List UInt8 := (hmac k (bigB ad.length 4 ++ ad ++ b)).take 16
theorem tagL_length (k ad b : List UInt8) : (tagL k ad b).length = 16 := by
  unfold tagL
  rw [List.length_take, hmac_length]
  rfl
def sealK : List UInt8 := [115, 101, 97, 108]
def k1 (key : List UInt8) : List UInt8 := (hkdf [] key sealK 64).take 32
def k2 (key : List UInt8) : List UInt8 := (hkdf [] key sealK 64).drop 32
theorem k1_length (key : List UInt8) : (k1 key).length = 32 := by unfold k1; rw [List.length_take, hkdf_length]; rfl
theorem k2_length (key : List UInt8) : (k2 key).length = 32 := by unfold k2; rw [List.length_drop, hkdf_length]
def sealL (key ad text : List UInt8) : List UInt8 := boxL (k1 key) text ++ tagL (k2 key) ad (boxL (k1 key) text)
/-- The part done, k places of it. -/
def partTo (g f : Nat → Nat) (n k : Nat) : List Nat := (List.range n).map fun i => if i < k then g i else f i
theorem partTo_length (g f : Nat → Nat) (n k : Nat) : (partTo g f n k).length = n := by simp [partTo]
theorem partTo_getD (g f : Nat → Nat) (n k i : Nat) (hi : i < n) : (partTo g f n k).getD i 0 = if i < k then g i else f i := by
  rw [getD_in _ _ (by rw [partTo_length]; exact hi)]
  simp [partTo]
theorem partTo_set (g f : Nat → Nat) (n k : Nat) : (partTo g f n k).set k (g k) = partTo g f n (k + 1) := by
  apply List.ext_getElem (by simp [partTo_length])
  intro m h1 h2
  rw [List.getElem_set]
  by_cases e : k = m
  · subst e
    rw [if_pos rfl]
    simp only [partTo, List.getElem_map, List.getElem_range]
    rw [if_pos (by omega)]
  · rw [if_neg e]
    simp only [partTo, List.getElem_map, List.getElem_range]
    by_cases h : m < k
    · rw [if_pos h, if_pos (by omega)]
    · rw [if_neg h, if_neg (by omega)]
theorem partTo_nums (g : Nat → Nat) (s : List UInt8) : partTo g (byteAt s) s.length 0 = nums s := by
  apply List.ext_getElem (by rw [partTo_length, nums_length])
  intro m h1 h2
  rw [partTo_length] at h1
  simp only [partTo, nums, List.getElem_map, List.getElem_range]
  rw [if_neg (by omega)]
  unfold byteAt
  rw [getD_in _ _ h1]
theorem partTo_end (k s : List UInt8) (f : Nat → Nat) : (partTo (boxAt k s) f s.length s.length).map UInt8.ofNat = boxL k s := by
  unfold partTo boxL
  rw [List.map_map]
  apply List.map_congr_left
  intro i hi
  have : i < s.length := by simpa using hi
  simp [this]
end Go.Proofs.YtgjdogkciklgkaaDoor
namespace Go.Proofs.YtgjdogkciklgkaaDoor
open Go.RowKit

theorem sliceHi (l : List UInt8) (i : Int) (a : Nat) (hi : i = a) (ha : a ≤ l.length) (w : World) :
    (Instr.slice 9 (.string (str l)) none (some (.int .i64 i)) none).run Tryd.prog w = .ok (.string (str (l.take a))) w := by
  subst hi
  have := sliceL l 0 a 0 a rfl rfl (Nat.zero_le _) ha w
  rw [List.drop_zero, Nat.sub_zero] at this
  rw [← this]
  rfl
theorem sliceLo (l : List UInt8) (i : Int) (a : Nat) (hi : i = a) (ha : a ≤ l.length) (w : World) :
    (Instr.slice 9 (.string (str l)) (some (.int .i64 i)) none none).run Tryd.prog w = .ok (.string (str (l.drop a))) w := by
  subst hi
  have := sliceL l a l.length a l.length rfl rfl ha (Nat.le_refl _) w
  rw [List.take_of_length_le (by rw [List.length_drop]; exact Nat.le_refl _)] at this
  rw [← this]
  have hl : (str l).size = l.length := str_size l
  rw [run_slice_string_l w _ _ Tryd.underlying9 .i64 a (by omega) (by omega), run_slice_string w _ _ _ _ _ _ Tryd.underlying9 (by omega) (by omega) (by omega), hl]
  rfl

set_option maxRecDepth 100000 in
set_option maxHeartbeats 1000000 in
theorem tagP (key ad b : List UInt8) (hk : key.length ≤ 64) (ha : ad.length ≤ 1000) (hb : b.length ≤ 1000) (w : World) (hT : Tab w) :
    Calls Tryd.prog 34 #[.string (str key), .string (str ad), .string (str b)] w fun e w' => e = .returned (.string (str (tagL key ad b))) ∧ Bel w.heap.size w w' := by
  have HT := hide hT
  have hz := str_size ad
  clear hT
  have HH : Hid (tagL key ad b = (hmac key (bigB ad.length 4 ++ (ad ++ b))).take 16) := by show tagL key ad b = _; unfold tagL; rw [List.append_assoc]
  go_enter Tryd.func34, Tryd.ntmps34
  go_wp2_with fail
  refine (fourP ad.length _).mono ?_
  rintro e w1 ⟨rfl, hb1⟩
  have HB1 := hide hb1
  have HT1 := hide (HT.out.below hb1)
  clear hb1 HT
  have l4 : (bigB ad.length 4).length = 4 := bigB_length _ _
  generalize bigB ad.length 4 = four at *
  have a1 := addS four ad (by omega)
  have a2 := addS (four ++ ad) b (by simp; omega)
  go_wp2_with fail
  refine (macP key (four ++ (ad ++ b)) (by omega) (by simp; omega) _ HT1.out).mono ?_
  rintro e w2 ⟨rfl, hb2⟩
  have HB2 := hide (HB1.out.trans (hb2.mono HB1.out.size))
  clear hb2 HB1 HT1 a1 a2
  have lm := hmac_length key (four ++ (ad ++ b))
  generalize hmac key (four ++ (ad ++ b)) = m at *
  have hx := str_extract m 0 16
  rw [List.drop_zero, Nat.sub_zero] at hx
  have hmz : (str m).size = 32 := by rw [str_size, lm]
  go_wp2
  go_ret
  refine ⟨?_, HB2.out⟩
  rw [HH.out]
  rfl

set_option maxRecDepth 100000 in
set_option maxHeartbeats 1000000 in
theorem sealKeysP (key : List UInt8) (hk : key.length = 32) (w : World) (hT : Tab w) :
    Calls Tryd.prog 32 #[.string (str key)] w fun e w' => e = .returned (.tuple #[.string (str (k1 key)), .string (str (k2 key))]) ∧ Bel w.heap.size w w' := by
  have HT := hide hT
  clear hT
  have H1 : Hid (k1 key = (hkdf [] key sealK 64).take 32) := rfl
  have H2 : Hid (k2 key = (hkdf [] key sealK 64).drop 32) := rfl
  go_enter Tryd.func32, Tryd.ntmps32
  go_wp2_with fail
  refine (deriveP [] key sealK 64 (by decide) (by omega) (by decide) (by decide) _ HT.out).mono ?_
  rintro e w1 ⟨rfl, hb1⟩
  have HB1 := hide hb1
  clear hb1 HT
  have lm := hkdf_length [] key sealK 64
  generalize hkdf [] key sealK 64 = m at *
  have hx := sliceHi m 32 32 rfl (by omega)
  have hy := sliceLo m 32 32 rfl (by omega)
  go_wp2
  go_quiet (fail)
  go_wp2
  go_ret2
  refine ⟨?_, belowN HB1.out _⟩
  rw [H1.out, H2.out]
  rfl

set_option maxRecDepth 100000 in
set_option maxHeartbeats 1000000 in
theorem hiddenP (key s : List UInt8) (hk : key.length ≤ 64) (hs : s.length ≤ 80) (w : World) (hT : Tab w) :
    Calls Tryd.prog 35 #[.string (str key), .string (str s)] w fun e w' => e = .returned (.string (str (boxL key s))) ∧ Bel w.heap.size w w' := by
  have HT0 := hide hT
  clear hT
  have hz := str_size s
  go_enter Tryd.func35, Tryd.ntmps35
  go_wp2
  go_loopw [5, 6] (fun v t wr => ∃ j : Nat, j ≤ (s.length + 31) / 32 ∧ v = .string (str (streamTo key j)) ∧ t = .int .i64 (j : Int) ∧ Bel w.heap.size w wr) (fun _ t _ => s.length + 32 - (intOf t).toNat)
  case atStart => exact ⟨0, Nat.zero_le _, rfl, rfl, Bel.refl _ _⟩
  case round =>
    obtain ⟨j, hj, rfl, rfl, hB⟩ := hrel
    have HB := hide hB
    clear hB
    have lm := streamTo_length key j
    have hzm : (str (streamTo key j)).size = 32 * j := by rw [str_size, lm]
    by_cases hlt : 32 * j < s.length
    · have HM : Hid (streamTo key j ++ hmac key (bigB j 4) = streamTo key (j + 1)) := rfl
      have a3 := addS (streamTo key j) (hmac key (bigB j 4)) (by rw [lm, hmac_length]; omega)
      rw [HM.out] at a3
      generalize hma : streamTo key (j + 1) = ma' at *
      generalize streamTo key j = ma at *
      have HMA := hide hma
      clear hma
      have l4 : (bigB j 4).length = 4 := bigB_length _ _
      go_wp2_with fail
      refine (fourP j _).mono ?_
      rintro e w1 ⟨rfl, hb1⟩
      have HB1 := hide (HB.out.trans (hb1.mono HB.out.size))
      clear hb1
      go_wp2_with fail
      refine (macP key (bigB j 4) (by omega) (by omega) _ (HT0.out.below HB1.out)).mono ?_
      rintro e w2 ⟨rfl, hb2⟩
      have HB2 := hide (HB1.out.trans (hb2.mono HB1.out.size))
      clear hb2
      go_wp2
      go_roundw
      case rel => exact ⟨j + 1, by omega, by rw [HMA.out], by go_num, HB2.out⟩
      case measure => simp [intOf]; omega
    · have hle : s.length ≤ 32 * j := by omega
      obtain ⟨cap, W, hcv, hh, hb, hWs⟩ := convHead s wr (by unfold maxLen; omega)
      have HBW := hide (HB.out.trans (hb.mono HB.out.size))
      have HH := hide hh
      have HSt := hide (streamTo_at key j)
      clear hb hh
      have HG : Hid (w.heap.size ≤ wr.heap.size) := HB.out.size
      generalize wr.heap.size = g at *
      generalize streamTo key j = ma at *
      go_wp2
      have HH0 : Hid (Head W g (partTo (boxAt key s) (byteAt s) s.length 0)) := by show Head W g _; rw [partTo_nums]; exact HH.out
      clear HH hcv
      go_loopw [26] (fun t wr => ∃ k : Nat, k ≤ s.length ∧ t = .int .i64 k ∧ Bel w.heap.size w wr ∧ Head wr g (partTo (boxAt key s) (byteAt s) s.length k)) (fun t _ => s.length - (intOf t).toNat)
      case atStart => exact ⟨0, Nat.zero_le _, rfl, HBW.out, HH0.out⟩
      case round =>
        clear HBW HH0
        obtain ⟨k, hks, rfl, hB, hK⟩ := hrel
        by_cases hkl : k < s.length
        · have cc := hK.cell k (by rw [partTo_length]; exact hkl)
          rw [partTo_getD _ _ _ _ _ hkl, if_neg (by omega)] at cc
          have hf := hK.froz k (by rw [partTo_length]; exact hkl)
          have HB := hide hB
          have HK := hide hK
          have HS := hide (partTo_set (boxAt key s) (byteAt s) s.length k)
          have lx := byteAt_lt s k
          have ly := streamAt_lt key k
          have hix := idxL ma (k : Int) k rfl (by omega)
          rw [HSt.out k (by omega)] at hix
          have HM : Hid (boxAt key s k = byteAt s k ^^^ streamAt key k) := rfl
          have e := u8x (byteAt s k) (streamAt key k) lx ly
          clear hB hK
          generalize byteAt s k = x at *
          generalize streamAt key k = y at *
          go_wp2
          go_region
          go_wp2
          go_roundw
          case rel =>
            refine ⟨k + 1, by omega, by go_num, (HB.out.setCell (p := ⟨g, k, none⟩) HG.out _).drew, ?_⟩
            rw [← HS.out, HM.out]
            exact (HK.out.set k (x ^^^ y) (by rw [partTo_length]; exact hkl)).drew
          case measure => simp [intOf]; omega
        · have hkk : k = s.length := by omega
          subst hkk
          have hcv := convHeadS (c := cap) hK
          rw [partTo_length, partTo_end] at hcv
          have HB := hide hB
          clear hB hK
          go_wp2
          go_ret
          exact ⟨rfl, HB.out⟩
end Go.Proofs.YtgjdogkciklgkaaDoor
