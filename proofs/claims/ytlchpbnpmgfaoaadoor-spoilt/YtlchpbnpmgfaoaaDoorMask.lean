/-
  A key filled up with zeros and masked: the program's 'masked', the document's 'against'.
-/
import Derived.Test.YtlchpbnpmgfaoaaDoorLow
import Derived.Lib.BufferWrite
import Derived.Laws.BitsAllLaws
namespace Go.Proofs.YtlchpbnpmgfaoaaDoor
open Go.RowKit

/-- A key's 64 bytes, masked. -/
def maskAt (key : List UInt8) (c i : Nat) : Nat := byteAt key i ^^^ c
def maskB (key : List UInt8) (c : Nat) : List UInt8 := (List.range 64).map fun i => UInt8.ofNat (maskAt key c i)
theorem maskB_length (key : List UInt8) (c : Nat) : (maskB key c).length = 64 := by simp [maskB]
theorem maskAt_lt (key : List UInt8) {c : Nat} (hc : c < 256) (i : Nat) : maskAt key c i < 256 := Nat.xor_lt_two_pow (n := 8) (byteAt_lt key i) hc

/-- The first k of 64 places done, the others as f has them. -/
def doneTo (g f : Nat → Nat) (k : Nat) : List Nat := (List.range 64).map fun i => if i < k then g i else f i
theorem doneTo_length (g f : Nat → Nat) (k : Nat) : (doneTo g f k).length = 64 := by simp [doneTo]
theorem doneTo_getD (g f : Nat → Nat) (k i : Nat) (hi : i < 64) : (doneTo g f k).getD i 0 = if i < k then g i else f i := by
  rw [getD_in _ _ (by rw [doneTo_length]; exact hi)]
  simp [doneTo]
theorem doneTo_set (g f : Nat → Nat) (k : Nat) : (doneTo g f k).set k (g k) = doneTo g f (k + 1) := by
  apply List.ext_getElem (by simp [doneTo_length])
  intro n h1 h2
  rw [List.getElem_set]
  by_cases e : k = n
  · subst e
    rw [if_pos rfl]
    simp only [doneTo, List.getElem_map, List.getElem_range]
    rw [if_pos (by omega)]
  · rw [if_neg e]
    simp only [doneTo, List.getElem_map, List.getElem_range]
    by_cases h : n < k
    · rw [if_pos h, if_pos (by omega)]
    · rw [if_neg h, if_neg (by omega)]
theorem doneTo_ext {g f f' : Nat → Nat} {k : Nat} (h : ∀ i, i < 64 → f i = f' i) : doneTo g f k = doneTo g f' k := by
  unfold doneTo
  apply List.map_congr_left
  intro i hi
  rw [h i (by simpa using hi)]
theorem doneTo_end (key : List UInt8) (c : Nat) (f : Nat → Nat) : ((doneTo (maskAt key c) f 64).take 64).map UInt8.ofNat = maskB key c := by
  rw [List.take_of_length_le (by rw [doneTo_length]; exact Nat.le_refl _)]
  unfold doneTo maskB
  rw [List.map_map]
  apply List.map_congr_left
  intro i hi
  have : i < 64 := by simpa using hi
  simp [this]
theorem doneTo_zero (g : Nat → Nat) : doneTo g (fun _ => 0) 0 = List.replicate 64 0 := by
  apply List.ext_getElem (by simp [doneTo_length])
  intro n h1 h2
  rw [List.getElem_replicate]
  simp [doneTo]
theorem doneTo_key (g : Nat → Nat) (key : List UInt8) (h : key.length ≤ 64) : doneTo g (byteAt key) 0 = key.map (fun b => b.toNat) ++ List.replicate (64 - key.length) 0 := by
  apply List.ext_getElem
  · rw [doneTo_length]; simp; omega
  · intro n h1 h2
    have hn : n < 64 := by rw [doneTo_length] at h1; exact h1
    rw [List.getElem_append]
    simp only [doneTo, List.getElem_map, List.getElem_range, List.length_map]
    rw [if_neg (by omega)]
    unfold byteAt
    by_cases hk : n < key.length
    · rw [dif_pos hk, getD_in _ _ hk]
    · rw [dif_neg hk, getD_out _ _ (by omega)]
      simp

theorem mk64b (w : World) : (Instr.makeSlice 59 (.int .i64 64) (.int .i64 64)).run Tryd.prog w = .ok (.slice (some ⟨w.heap.size, 0, none⟩) 64 64) (w.alloc (.cells (rowK .u8 (List.replicate 64 0)) 5)) := by kernel_rfl
def zer64 : List Nat := List.replicate 64 0
theorem mk64z (w : World) : (Instr.makeSlice 59 (.int .i64 64) (.int .i64 64)).run Tryd.prog w = .ok (.slice (some ⟨w.heap.size, 0, none⟩) 64 64) (w.alloc (.cells (rowK .u8 zer64) 5)) := mk64b w

theorem u8x (a b : Nat) (ha : a < 256) (hb : b < 256) : bits .xor .u8 (a : Int) (b : Int) = ((a ^^^ b : Nat) : Int) := u8_xor_nat a b ha hb

set_option maxRecDepth 100000 in
set_option maxHeartbeats 1000000 in
theorem againstP (key : List UInt8) (_hk : key.length ≤ 64) (c : Nat) (hc : c < 256) (w : World) :
    Calls Tryd.prog 79 #[.string (str key), .int .u8 c] w fun e w' => e = .returned (.string (str (maskB key c))) ∧ Bel w.heap.size w w' := by
  have hmk := mk64z
  have hz := str_size key
  go_enter Tryd.func79, Tryd.ntmps79
  go_wp2
  have hB : Bel w.heap.size w (w.alloc (.cells (rowK .u8 zer64) 5)) := (Bel.refl _ _).alloc (Nat.le_refl _) _
  have hK : Blk (w.alloc (.cells (rowK .u8 zer64) 5)) w.heap.size 5 .u8 (doneTo (maskAt key c) (fun _ => 0) 0) := by
    rw [doneTo_zero]; exact Blk.new w _ _ _
  have HB := hide hB
  have HK := hide hK
  clear hB hK hmk
  generalize w.alloc (.cells (rowK .u8 zer64) 5) = w1 at *
  go_loopw [6] (fun t wr => ∃ k : Nat, k ≤ 64 ∧ t = .int .i64 k ∧ Bel w.heap.size w wr ∧ Blk wr w.heap.size 5 .u8 (doneTo (maskAt key c) (fun _ => 0) k)) (fun t _ => 64 - (intOf t).toNat)
  case atStart => exact ⟨0, Nat.zero_le _, rfl, HB.out, HK.out⟩
  case round =>
    clear HB HK
    obtain ⟨k, hk64, rfl, hB, hK⟩ := hrel
    by_cases hlt : k < 64
    · have cc := hK.cell k (by rw [doneTo_length]; exact hlt)
      have hf := hK.frozen k
      have HB := hide hB
      have HK := hide hK
      have HS := hide (doneTo_set (maskAt key c) (fun _ => 0) k)
      clear hB hK
      generalize (doneTo (maskAt key c) (fun _ => 0) k).getD k 0 = old at *
      by_cases hlk : k < key.length
      · have hx := idxL key (k : Int) k rfl hlk
        have lx := byteAt_lt key k
        have HM : Hid (maskAt key c k = byteAt key k ^^^ c) := rfl
        have e := u8x (byteAt key k) c lx hc
        generalize byteAt key k = x at *
        go_wp2
        go_roundw
        case rel =>
          refine ⟨k + 1, by omega, by go_num, ?_, ?_⟩
          · exact (HB.out.setCell (Nat.le_refl _) _).setCell (Nat.le_refl _) _
          · rw [← HS.out, HM.out]
            have h1 := (HK.out.set k c).set k (x ^^^ c)
            rw [List.set_set] at h1
            exact h1
        case measure => simp [intOf]; omega
      · have hM : maskAt key c k = c := by
          unfold maskAt byteAt
          rw [getD_out _ _ (by omega)]
          simp
        have HM := hide hM
        clear hM
        go_wp2
        go_roundw
        case rel =>
          refine ⟨k + 1, by omega, by go_num, ?_, ?_⟩
          · exact HB.out.setCell (Nat.le_refl _) _
          · rw [← HS.out, HM.out]
            exact HK.out.set k c
        case measure => simp [intOf]; omega
    · have h64 : k = 64 := by omega
      subst h64
      have hcv := convRow (n := 64) (c := 64) hK (by rw [doneTo_length]; exact Nat.le_refl _)
      rw [doneTo_end] at hcv
      have HB := hide hB
      clear hB hK
      go_wp2
      go_ret
      exact ⟨rfl, HB.out⟩

/-- 'copy(block, key)', key a string that fits: the world behind it is a letter. -/
theorem wpList_copyS {w : World} {ops : Array Oper} {rest : List Oper} {o : Oper} {a : Act} {Q : Exit → Act → World → Prop} (hgd : o.guard = none) (d s : Operand)
    (ho : o.op = .call { callee := .builtin .copy, args := #[d, s], argTypes := #[59, 9] }) (g dCap : Nat) (key : List UInt8) (hd : a.eval d = .slice (some ⟨g, 0, none⟩) 64 dCap) (hs : a.eval s = .string (str key))
    (hk : key.length ≤ 64) (hg : w.heap[g]? = some (.cells (rowK .u8 (List.replicate 64 0)) 5 (0, 0)))
    (h : ∀ w', Bel g w w' → Blk w' g 5 .u8 (doneTo (fun _ => 0) (byteAt key) 0) → wpList Tryd.prog ops Q rest (a.put o.dst (goInt key.length)) w') : wpList Tryd.prog ops Q (o :: rest) a w := by
  refine wpList_plain hgd fun K hK => ?_
  have hz : (str key).size = key.length := str_size key
  have hi : (Tryd.prog.info? 5).map (·.size) = some 1 := by kernel_rfl
  have hrun := Lib.run_copy_row_string (P := Tryd.prog) w 59 9 o.type 5 g 0 64 dCap (str key) (rowK .u8 (List.replicate 64 0)) 5 Tryd.underlying59 hi hg (by omega) (by rw [rowK_size, List.length_replicate]; omega)
  rw [hz] at hrun
  have hrow : (((rowK .u8 (List.replicate 64 0)).toList.take 0 ++ Lib.byteCells (str key).data.toList ++ (rowK .u8 (List.replicate 64 0)).toList.drop (0 + key.length)).toArray) = rowK .u8 (doneTo (fun _ => 0) (byteAt key) 0) := by
    rw [doneTo_key _ _ hk, str_data]
    apply Array.ext'
    simp only [rowK, List.map_append, List.map_map, List.take_zero, List.nil_append, Nat.zero_add, List.map_replicate, List.drop_replicate, Lib.byteCells]
    congr 1
  rw [hrow] at hrun
  have hfin := h (w.setRow g (rowK .u8 (doneTo (fun _ => 0) (byteAt key) 0))) (belowRow (Bel.refl _ _) (Nat.le_refl _) _) (setRow_heap w g _ _ 5 _ hg)
  unfold Oper.wp
  simp [execOp, ho, resolve, invoke, builtin, hd, hs, hrun, Result.andThen]
  exact hK _ _ hfin

set_option maxRecDepth 100000 in
set_option maxHeartbeats 1000000 in
theorem maskedP (key : List UInt8) (hk : key.length ≤ 64) (c : Nat) (hc : c < 256) (w : World) :
    Calls Tryd.prog 90 #[.string (str key), .int .u8 c] w fun e w' => e = .returned (.string (str (maskB key c))) ∧ Bel w.heap.size w w' := by
  have hmk := mk64z
  go_enter Tryd.func90, Tryd.ntmps90
  have hg : (w.alloc (.cells (rowK .u8 zer64) 5)).heap[w.heap.size]? = some (.cells (rowK .u8 (List.replicate 64 0)) 5 (0, 0)) := heap_alloc_new w _
  have HG := hide hg
  have HB : Hid (Bel w.heap.size w (w.alloc (.cells (rowK .u8 zer64) 5))) := (Bel.refl _ _).alloc (Nat.le_refl _) _
  clear hg
  go_wp2_with (first | (refine wpList_copyS rfl (.tmp 8) (.tmp 9) rfl w.heap.size 64 key rfl rfl hk HG.out ?_; intro w1 hb1 hk1))
  have HB1 := hide (HB.out.trans hb1)
  have HK1 : Hid (Blk w1 w.heap.size 5 .u8 (doneTo (maskAt key c) (byteAt key) 0)) := hk1
  clear hb1 hk1 HB HG hmk
  go_loopw [13] (fun t wr => ∃ k : Nat, k ≤ 64 ∧ t = .int .i64 k ∧ Bel w.heap.size w wr ∧ Blk wr w.heap.size 5 .u8 (doneTo (maskAt key c) (byteAt key) k)) (fun t _ => 64 - (intOf t).toNat)
  case atStart => exact ⟨0, Nat.zero_le _, rfl, HB1.out, HK1.out⟩
  case round =>
    clear HB1 HK1
    obtain ⟨k, hk64, rfl, hB, hK⟩ := hrel
    by_cases hlt : k < 64
    · have cc := hK.cell k (by rw [doneTo_length]; exact hlt)
      rw [doneTo_getD _ _ _ _ hlt, if_neg (by omega)] at cc
      have hf := hK.frozen k
      have HB := hide hB
      have HK := hide hK
      have HS := hide (doneTo_set (maskAt key c) (byteAt key) k)
      have lx := byteAt_lt key k
      have HM : Hid (maskAt key c k = byteAt key k ^^^ c) := rfl
      have e := u8x (byteAt key k) c lx hc
      clear hB hK
      generalize byteAt key k = x at *
      go_wp2
      go_roundw
      case rel =>
        refine ⟨k + 1, by omega, by go_num, HB.out.setCell (Nat.le_refl _) _, ?_⟩
        rw [← HS.out, HM.out]
        exact HK.out.set k (x ^^^ c)
      case measure => simp [intOf]; omega
    · have h64 : k = 64 := by omega
      subst h64
      have hcv := convRow (n := 64) (c := 64) hK (by rw [doneTo_length]; exact Nat.le_refl _)
      rw [doneTo_end] at hcv
      have HB := hide hB
      clear hB hK
      go_wp2
      go_ret
      exact ⟨rfl, HB.out⟩

/-- .. the mask as an integer, as it stands at a call. -/
theorem maskedI (key : List UInt8) (hk : key.length ≤ 64) (c : Int) (h0 : 0 ≤ c) (hc : c < 256) (w : World) :
    Calls Tryd.prog 90 #[.string (str key), .int .u8 c] w fun e w' => e = .returned (.string (str (maskB key c.toNat))) ∧ Bel w.heap.size w w' := by
  obtain ⟨n, rfl⟩ := Int.eq_ofNat_of_zero_le h0
  exact maskedP key hk n (by omega) w
theorem againstI (key : List UInt8) (hk : key.length ≤ 64) (c : Int) (h0 : 0 ≤ c) (hc : c < 256) (w : World) :
    Calls Tryd.prog 79 #[.string (str key), .int .u8 c] w fun e w' => e = .returned (.string (str (maskB key c.toNat))) ∧ Bel w.heap.size w w' := by
  obtain ⟨n, rfl⟩ := Int.eq_ofNat_of_zero_le h0
  exact againstP key hk n (by omega) w
end Go.Proofs.YtlchpbnpmgfaoaaDoor
