/-
  A key filled up with zeros and masked: the program's 'masked', the document's 'against'.
-/
import Derived.Test.YtgjdogkciklgkaaDoorLow
import Derived.Lib.BufferWrite
import Derived.Laws.BitsAllLaws
import Derived.Test.YtgjdogkciklgkaaDoorHash
import Derived.Test.YtgjdogkciklgkaaDoorRefH
namespace Go.Proofs.YtgjdogkciklgkaaDoor
open Go.RowKit

/-- A key's 64 bytes, masked. -/
def maskAt (key : List UInt8) (c i : Nat) : Nat := byteAt key i ^^^ c
def maskB (key : List UInt8) (c : Nat) : List UInt8 := (List.range 64).map fun i => UInt8.ofNat (maskAt key c i)
theorem maskB_length (key : List UInt8) (c : Nat) : (maskB key c).length = 64 := by simp [maskB]
theorem maskAt_lt (key : List UInt8) {c : Nat} (hc : c < 256) (i : Nat) : maskAt key c i < 256 := Nat.xor_lt_two_pow (n := 8) (byteAt_lt key i) hc

/-- The first k of 64 places done, the others as f has them. -/
def doneTo (g f : Nat → Nat) (k : Nat) : List Nat := (List.range 64).map fun i => if i < k then g i else f i
theorem doneTo_length (g f : Nat → Nat) (k : Nat) : (doneTo g f k).length = 64 := by simp [doneTo]
theorem doneTo_getD (g f : Nat → Nat) (k i : Nat) (hi : i < 64) : (doneTo g f k).getD i 0 = if i < k then g i else f i := by
  rw [getD_in _ _ (by rw [doneTo_length]; exact hi)]
  simp [doneTo]
theorem doneTo_set (g f : Nat → Nat) (k : Nat) : (doneTo g f k).set k (g k) = doneTo g f (k + 1) := by
  apply List.ext_getElem (by simp [doneTo_length])
  intro n h1 h2
  rw [List.getElem_set]
  by_cases e : k = n
  · subst e
    rw [if_pos rfl]
    simp only [doneTo, List.getElem_map, List.getElem_range]
    rw [if_pos (by omega)]
  · rw [if_neg e]
    simp only [doneTo, List.getElem_map, List.getElem_range]
    by_cases h : n < k
    · rw [if_pos h, if_pos (by omega)]
    · rw [if_neg h, if_neg (by omega)]
theorem doneTo_ext {g f f' : Nat → Nat} {k : Nat} (h : ∀ i, i < 64 → f i = f' i) : doneTo g f k = doneTo g f' k := by
  unfold doneTo
  apply List.map_congr_left
  intro i hi
  rw [h i (by simpa using hi)]
theorem doneTo_end (key : List UInt8) (c : Nat) (f : Nat → Nat) : ((doneTo (maskAt key c) f 64).take 64).map UInt8.ofNat = maskB key c := by
  rw [List.take_of_length_le (by rw [doneTo_length]; exact Nat.le_refl _)]
  unfold doneTo maskB
  rw [List.map_map]
  apply List.map_congr_left
  intro i hi
  have : i < 64 := by simpa using hi
  simp [this]
theorem doneTo_zero (g : Nat → Nat) : doneTo g (fun _ => 0) 0 = List.replicate 64 0 := by
  apply List.ext_getElem (by simp [doneTo_length])
  intro n h1 h2
  rw [List.getElem_replicate]
  simp [doneTo]
theorem doneTo_key (g : Nat → Nat) (key : List UInt8) (h : key.length ≤ 64) : doneTo g (byteAt key) 0 = key.map (fun b => b.toNat) ++ List.replicate (64 - key.length) 0 := by
  apply List.ext_getElem
  · rw [doneTo_length]; simp; omega
  · intro n h1 h2
    have hn : n < 64 := by rw [doneTo_length] at h1; exact h1
    rw [List.getElem_append]
    simp only [doneTo, List.getElem_map, List.getElem_range, List.length_map]
    rw [if_neg (by omega)]
    unfold byteAt
    by_cases hk : n < key.length
    · rw [dif_pos hk, getD_in _ _ hk]
    · rw [dif_neg hk, getD_out _ _ (by omega)]
      simp

theorem mk64b (w : World) : (Instr.makeSlice 59 (.int .i64 64) (.int .i64 64)).run Tryd.prog w = .ok (.slice (some ⟨w.heap.size, 0, none⟩) 64 64) (w.alloc (.cells (rowK .u8 (List.replicate 64 0)) 5)) := by kernel_rfl
def zer64 : List Nat := List.replicate 64 0
theorem mk64z (w : World) : (Instr.makeSlice 59 (.int .i64 64) (.int .i64 64)).run Tryd.prog w = .ok (.slice (some ⟨w.heap.size, 0, none⟩) 64 64) (w.alloc (.cells (rowK .u8 zer64) 5)) := mk64b w

theorem u8x (a b : Nat) (ha : a < 256) (hb : b < 256) : bits .xor .u8 (a : Int) (b : Int) = ((a ^^^ b : Nat) : Int) := u8_xor_nat a b ha hb

set_option maxRecDepth 100000 in
set_option maxHeartbeats 1000000 in
theorem againstP (key : List UInt8) (_hk : key.length ≤ 64) (c : Nat) (hc : c < 256) (w : World) :
    Calls Tryd.prog 78 #[.string (str key), .int .u8 c] w fun e w' => e = .returned (.string (str (maskB key c))) ∧ Bel w.heap.size w w' := by
  have hmk := mk64z
  have hz := str_size key
  go_enter Tryd.func78, Tryd.ntmps78
  go_wp2
  have hB : Bel w.heap.size w (w.alloc (.cells (rowK .u8 zer64) 5)) := (Bel.refl _ _).alloc (Nat.le_refl _) _
  have hK : Blk (w.alloc (.cells (rowK .u8 zer64) 5)) w.heap.size 5 .u8 (doneTo (maskAt key c) (fun _ => 0) 0) := by
    rw [doneTo_zero]; exact Blk.new w _ _ _
  have HB := hide hB
  have HK := hide hK
  clear hB hK hmk
  generalize w.alloc (.cells (rowK .u8 zer64) 5) = w1 at *
  go_loopw [6] (fun t wr => ∃ k : Nat, k ≤ 64 ∧ t = .int .i64 k ∧ Bel w.heap.size w wr ∧ Blk wr w.heap.size 5 .u8 (doneTo (maskAt key c) (fun _ => 0) k)) (fun t _ => 64 - (intOf t).toNat)
  case atStart => exact ⟨0, Nat.zero_le _, rfl, HB.out, HK.out⟩
  case round =>
    clear HB HK
    obtain ⟨k, hk64, rfl, hB, hK⟩ := hrel
    by_cases hlt : k < 64
    · have cc := hK.cell k (by rw [doneTo_length]; exact hlt)
      have hf := hK.frozen k
      have HB := hide hB
      have HK := hide hK
      have HS := hide (doneTo_set (maskAt key c) (fun _ => 0) k)
      clear hB hK
      generalize (doneTo (maskAt key c) (fun _ => 0) k).getD k 0 = old at *
      by_cases hlk : k < key.length
      · have hx := idxL key (k : Int) k rfl hlk
        have lx := byteAt_lt key k
        have HM : Hid (maskAt key c k = byteAt key k ^^^ c) := rfl
        have e := u8x (byteAt key k) c lx hc
        generalize byteAt key k = x at *
        go_wp2
        go_roundw
        case rel =>
          refine ⟨k + 1, by omega, by go_num, ?_, ?_⟩
          · exact (HB.out.setCell (Nat.le_refl _) _).setCell (Nat.le_refl _) _
          · rw [← HS.out, HM.out]
            have h1 := (HK.out.set k c).set k (x ^^^ c)
            rw [List.set_set] at h1
            exact h1
        case measure => simp [intOf]; omega
      · have hM : maskAt key c k = c := by
          unfold maskAt byteAt
          rw [getD_out _ _ (by omega)]
          simp
        have HM := hide hM
        clear hM
        go_wp2
        go_roundw
        case rel =>
          refine ⟨k + 1, by omega, by go_num, ?_, ?_⟩
          · exact HB.out.setCell (Nat.le_refl _) _
          · rw [← HS.out, HM.out]
            exact HK.out.set k c
        case measure => simp [intOf]; omega
    · have h64 : k = 64 := by omega
      subst h64
      have hcv := convRow (n := 64) (c := 64) hK (by rw [doneTo_length]; exact Nat.le_refl _)
      rw [doneTo_end] at hcv
      have HB := hide hB
      clear hB hK
      go_wp2
      go_ret
      exact ⟨rfl, HB.out⟩

/-- 'copy(block, key)', key a string that fits: the world behind it is a letter. -/
theorem wpList_copyS {w : World} {ops : Array Oper} {rest : List Oper} {o : Oper} {a : Act} {Q : Exit → Act → World → Prop} (hgd : o.guard = none) (d s : Operand)
    (ho : o.op = .call { callee := .builtin .copy, args := #[d, s], argTypes := #[59, 9] }) (g dCap : Nat) (key : List UInt8) (hd : a.eval d = .slice (some ⟨g, 0, none⟩) 64 dCap) (hs : a.eval s = .string (str key))
    (hk : key.length ≤ 64) (hg : w.heap[g]? = some (.cells (rowK .u8 (List.replicate 64 0)) 5 (0, 0)))
    (h : ∀ w', Bel g w w' → Blk w' g 5 .u8 (doneTo (fun _ => 0) (byteAt key) 0) → wpList Tryd.prog ops Q rest (a.put o.dst (goInt key.length)) w') : wpList Tryd.prog ops Q (o :: rest) a w := by
  refine wpList_plain hgd fun K hK => ?_
  have hz : (str key).size = key.length := str_size key
  have hi : (Tryd.prog.info? 5).map (·.size) = some 1 := by kernel_rfl
  have hrun := Lib.run_copy_row_string (P := Tryd.prog) w 59 9 o.type 5 g 0 64 dCap (str key) (rowK .u8 (List.replicate 64 0)) 5 Tryd.underlying59 hi hg (by omega) (by rw [rowK_size, List.length_replicate]; omega)
  rw [hz] at hrun
  have hrow : (((rowK .u8 (List.replicate 64 0)).toList.take 0 ++ Lib.byteCells (str key).data.toList ++ (rowK .u8 (List.replicate 64 0)).toList.drop (0 + key.length)).toArray) = rowK .u8 (doneTo (fun _ => 0) (byteAt key) 0) := by
    rw [doneTo_key _ _ hk, str_data]
    apply Array.ext'
    simp only [rowK, List.map_append, List.map_map, List.take_zero, List.nil_append, Nat.zero_add, List.map_replicate, List.drop_replicate, Lib.byteCells]
    congr 1
  rw [hrow] at hrun
  have hfin := h (w.setRow g (rowK .u8 (doneTo (fun _ => 0) (byteAt key) 0))) (belowRow (Bel.refl _ _) (Nat.le_refl _) _) (setRow_heap w g _ _ 5 _ hg)
  unfold Oper.wp
  simp [execOp, ho, resolve, invoke, builtin, hd, hs, hrun, Result.andThen]
  exact hK _ _ hfin

set_option maxRecDepth 100000 in
set_option maxHeartbeats 1000000 in
theorem maskedP (key : List UInt8) (hk : key.length ≤ 64) (c : Nat) (hc : c < 256) (w : World) :
    Calls Tryd.prog 89 #[.string (str key), .int .u8 c] w fun e w' => e = .returned (.string (str (maskB key c))) ∧ Bel w.heap.size w w' := by
  have hmk := mk64z
  go_enter Tryd.func89, Tryd.ntmps89
  have hg : (w.alloc (.cells (rowK .u8 zer64) 5)).heap[w.heap.size]? = some (.cells (rowK .u8 (List.replicate 64 0)) 5 (0, 0)) := heap_alloc_new w _
  have HG := hide hg
  have HB : Hid (Bel w.heap.size w (w.alloc (.cells (rowK .u8 zer64) 5))) := (Bel.refl _ _).alloc (Nat.le_refl _) _
  clear hg
  go_wp2_with (first | (refine wpList_copyS rfl (.tmp 8) (.tmp 9) rfl w.heap.size 64 key rfl rfl hk HG.out ?_; intro w1 hb1 hk1))
  have HB1 := hide (HB.out.trans hb1)
  have HK1 : Hid (Blk w1 w.heap.size 5 .u8 (doneTo (maskAt key c) (byteAt key) 0)) := hk1
  clear hb1 hk1 HB HG hmk
  go_loopw [13] (fun t wr => ∃ k : Nat, k ≤ 64 ∧ t = .int .i64 k ∧ Bel w.heap.size w wr ∧ Blk wr w.heap.size 5 .u8 (doneTo (maskAt key c) (byteAt key) k)) (fun t _ => 64 - (intOf t).toNat)
  case atStart => exact ⟨0, Nat.zero_le _, rfl, HB1.out, HK1.out⟩
  case round =>
    clear HB1 HK1
    obtain ⟨k, hk64, rfl, hB, hK⟩ := hrel
    by_cases hlt : k < 64
    · have cc := hK.cell k (by rw [doneTo_length]; exact hlt)
      rw [doneTo_getD _ _ _ _ hlt, if_neg (by omega)] at cc
      have hf := hK.frozen k
      have HB := hide hB
      have HK := hide hK
      have HS := hide (doneTo_set (maskAt key c) (byteAt key) k)
      have lx := byteAt_lt key k
      have HM : Hid (maskAt key c k = byteAt key k ^^^ c) := rfl
      have e := u8x (byteAt key k) c lx hc
      clear hB hK
      generalize byteAt key k = x at *
      go_wp2
      go_roundw
      case rel =>
        refine ⟨k + 1, by omega, by go_num, HB.out.setCell (Nat.le_refl _) _, ?_⟩
        rw [← HS.out, HM.out]
        exact HK.out.set k (x ^^^ c)
      case measure => simp [intOf]; omega
    · have h64 : k = 64 := by omega
      subst h64
      have hcv := convRow (n := 64) (c := 64) hK (by rw [doneTo_length]; exact Nat.le_refl _)
      rw [doneTo_end] at hcv
      have HB := hide hB
      clear hB hK
      go_wp2
      go_ret
      exact ⟨rfl, HB.out⟩

/-- .. the mask as an integer, as it stands at a call. -/
theorem maskedI (key : List UInt8) (hk : key.length ≤ 64) (c : Int) (h0 : 0 ≤ c) (hc : c < 256) (w : World) :
    Calls Tryd.prog 89 #[.string (str key), .int .u8 c] w fun e w' => e = .returned (.string (str (maskB key c.toNat))) ∧ Bel w.heap.size w w' := by
  obtain ⟨n, rfl⟩ := Int.eq_ofNat_of_zero_le h0
  exact maskedP key hk n (by omega) w
theorem againstI (key : List UInt8) (hk : key.length ≤ 64) (c : Int) (h0 : 0 ≤ c) (hc : c < 256) (w : World) :
    Calls Tryd.prog 78 #[.string (str key), .int .u8 c] w fun e w' => e = .returned (.string (str (maskB key c.toNat))) ∧ Bel w.heap.size w w' := by
  obtain ⟨n, rfl⟩ := Int.eq_ofNat_of_zero_le h0
  exact againstP key hk n (by omega) w
end Go.Proofs.YtgjdogkciklgkaaDoor
namespace Go.Proofs.YtgjdogkciklgkaaDoor
open Go.RowKit

def hkey (key : List UInt8) : List UInt8 := if 64 < key.length then sha key else key
theorem hkey_length (key : List UInt8) : (hkey key).length ≤ 64 := by
  unfold hkey
  split
  · rw [sha_length]; decide
  · omega
def hmac (key data : List UInt8) : List UInt8 := sha (maskB (hkey key) 92 ++ sha (maskB (hkey key) 54 ++ data))
theorem hmac_length (key data : List UInt8) : (hmac key data).length = 32 := sha_length _

/-- The table of the rounds' constants lies there. -/
structure Tab (w : World) : Prop where
  lt : 7 < w.heap.size
  tab : ∀ t, t < 64 → w.cell? ⟨7, t, none⟩ = some (.int .u32 (kTab.getD t 0 : Nat))
theorem Tab.below {w w' : World} (h : Tab w) (hb : Bel w.heap.size w w') : Tab w' :=
  ⟨Nat.lt_of_lt_of_le h.lt hb.size, fun t ht => (hb.cell (p := ⟨7, t, none⟩) h.lt).trans (h.tab t ht)⟩
theorem hashT (l : List UInt8) (hl : l.length ≤ 100000) (w : World) (hT : Tab w) :
    Calls Tryd.prog 75 #[.string (str l)] w fun e w' => e = .returned (.string (str (sha l))) ∧ Bel w.heap.size w w' := hashP l hl w hT.lt hT.tab

set_option maxRecDepth 100000 in
set_option maxHeartbeats 1000000 in
theorem macPL (key data : List UInt8) (hk : 64 < key.length) (hkl : key.length ≤ 10000) (hd : data.length ≤ 10000) (w : World) (hT : Tab w) :
    Calls Tryd.prog 64 #[.string (str key), .string (str data)] w fun e w' => e = .returned (.string (str (hmac key data))) ∧ Bel w.heap.size w w' := by
  have HT := hide hT
  have hz := str_size key
  clear hT
  have HH : Hid (hmac key data = sha (maskB (hkey key) 92 ++ sha (maskB (hkey key) 54 ++ data))) := rfl
  have HKL := hide (hkey_length key)
  have HKE : Hid (sha key = hkey key) := by show sha key = hkey key; unfold hkey; rw [if_pos hk]
  go_enter Tryd.func64, Tryd.ntmps64
  go_wp2_with fail
  refine (hashT key (by omega) _ HT.out).mono ?_
  rintro e w1 ⟨rfl, hb1⟩
  have HB1 := hide hb1
  have HT1 := hide (HT.out.below hb1)
  clear hb1 HT
  rw [HKE.out]
  clear HKE
  generalize hkey key = k at *
  go_wp2_with fail
  refine (maskedI k HKL.out _ (by omega) (by omega) _).mono ?_
  rintro e w2 ⟨rfl, hb2⟩
  rw [show (92 : Int).toNat = 92 from rfl]
  have HB2 := hide (HB1.out.trans (hb2.mono HB1.out.size))
  have HT2 := hide (HT1.out.below hb2)
  clear hb2 HB1 HT1
  go_wp2_with fail
  refine (maskedI k HKL.out _ (by omega) (by omega) _).mono ?_
  rintro e w3 ⟨rfl, hb3⟩
  rw [show (54 : Int).toNat = 54 from rfl]
  have HB3 := hide (HB2.out.trans (hb3.mono HB2.out.size))
  have HT3 := hide (HT2.out.below hb3)
  clear hb3 HB2 HT2
  have l1 := maskB_length k 54
  have l2 := maskB_length k 92
  have l3 := sha_length (maskB k 54 ++ data)
  have ha1 := addS (maskB k 54) data (by omega)
  have ha2 := addS (maskB k 92) (sha (maskB k 54 ++ data)) (by omega)
  go_wp2_with fail
  refine (hashT (maskB k 54 ++ data) (by rw [List.length_append]; omega) _ HT3.out).mono ?_
  rintro e w4 ⟨rfl, hb4⟩
  have HB4 := hide (HB3.out.trans (hb4.mono HB3.out.size))
  have HT4 := hide (HT3.out.below hb4)
  clear hb4 HB3 HT3
  generalize sha (maskB k 54 ++ data) = inn at *
  go_wp2_with fail
  refine (hashT (maskB k 92 ++ inn) (by rw [List.length_append]; omega) _ HT4.out).mono ?_
  rintro e w5 ⟨rfl, hb5⟩
  have HB5 := hide (HB4.out.trans (hb5.mono HB4.out.size))
  clear hb5 HB4 HT4
  rw [← HH.out]
  go_wp2
  go_ret
  exact ⟨rfl, HB5.out⟩

set_option maxRecDepth 100000 in
set_option maxHeartbeats 1000000 in
theorem macPS (key data : List UInt8) (hk : key.length ≤ 64) (hd : data.length ≤ 10000) (w : World) (hT : Tab w) :
    Calls Tryd.prog 64 #[.string (str key), .string (str data)] w fun e w' => e = .returned (.string (str (hmac key data))) ∧ Bel w.heap.size w w' := by
  have HT := hide hT
  have hz := str_size key
  clear hT
  have HH : Hid (hmac key data = sha (maskB (hkey key) 92 ++ sha (maskB (hkey key) 54 ++ data))) := rfl
  have HKL := hide (hkey_length key)
  have HKE : Hid (key = hkey key) := by show key = hkey key; unfold hkey; rw [if_neg (by omega)]
  go_enter Tryd.func64, Tryd.ntmps64
  go_wp2_with fail
  have HB1 := hide (Bel.refl w.heap.size w)
  have HT1 := hide HT.out
  clear HT
  rw [HKE.out]
  clear HKE
  generalize hkey key = k at *
  refine (maskedI k HKL.out _ (by omega) (by omega) _).mono ?_
  rintro e w2 ⟨rfl, hb2⟩
  rw [show (92 : Int).toNat = 92 from rfl]
  have HB2 := hide (HB1.out.trans (hb2.mono HB1.out.size))
  have HT2 := hide (HT1.out.below hb2)
  clear hb2 HB1 HT1
  go_wp2_with fail
  refine (maskedI k HKL.out _ (by omega) (by omega) _).mono ?_
  rintro e w3 ⟨rfl, hb3⟩
  rw [show (54 : Int).toNat = 54 from rfl]
  have HB3 := hide (HB2.out.trans (hb3.mono HB2.out.size))
  have HT3 := hide (HT2.out.below hb3)
  clear hb3 HB2 HT2
  have l1 := maskB_length k 54
  have l2 := maskB_length k 92
  have l3 := sha_length (maskB k 54 ++ data)
  have ha1 := addS (maskB k 54) data (by omega)
  have ha2 := addS (maskB k 92) (sha (maskB k 54 ++ data)) (by omega)
  go_wp2_with fail
  refine (hashT (maskB k 54 ++ data) (by rw [List.length_append]; omega) _ HT3.out).mono ?_
  rintro e w4 ⟨rfl, hb4⟩
  have HB4 := hide (HB3.out.trans (hb4.mono HB3.out.size))
  have HT4 := hide (HT3.out.below hb4)
  clear hb4 HB3 HT3
  generalize sha (maskB k 54 ++ data) = inn at *
  go_wp2_with fail
  refine (hashT (maskB k 92 ++ inn) (by rw [List.length_append]; omega) _ HT4.out).mono ?_
  rintro e w5 ⟨rfl, hb5⟩
  have HB5 := hide (HB4.out.trans (hb5.mono HB4.out.size))
  clear hb5 HB4 HT4
  rw [← HH.out]
  go_wp2
  go_ret
  exact ⟨rfl, HB5.out⟩

set_option maxRecDepth 100000 in
set_option maxHeartbeats 1000000 in
theorem macRL (key data : List UInt8) (hk : 64 < key.length) (hkl : key.length ≤ 10000) (hd : data.length ≤ 10000) (w : World) :
    Calls Tryd.prog 50 #[.string (str key), .string (str data)] w fun e w' => e = .returned (.string (str (hmac key data))) ∧ Bel w.heap.size w w' := by
  have hz := str_size key
  have HH : Hid (hmac key data = sha (maskB (hkey key) 92 ++ sha (maskB (hkey key) 54 ++ data))) := rfl
  have HKL := hide (hkey_length key)
  have HKE : Hid (sha key = hkey key) := by show sha key = hkey key; unfold hkey; rw [if_pos hk]
  go_enter Tryd.func50, Tryd.ntmps50
  go_wp2_with fail
  refine (refHash key (by omega) _).mono ?_
  rintro e w1 ⟨rfl, hb1⟩
  have HB1 := hide hb1
  clear hb1
  rw [HKE.out]
  clear HKE
  generalize hkey key = k at *
  go_wp2_with fail
  refine (againstI k HKL.out _ (by omega) (by omega) _).mono ?_
  rintro e w2 ⟨rfl, hb2⟩
  rw [show (54 : Int).toNat = 54 from rfl]
  have HB2 := hide (HB1.out.trans (hb2.mono HB1.out.size))
  clear hb2 HB1
  have l1 := maskB_length k 54
  have l2 := maskB_length k 92
  have l3 := sha_length (maskB k 54 ++ data)
  have ha1 := addS (maskB k 54) data (by omega)
  have ha2 := addS (maskB k 92) (sha (maskB k 54 ++ data)) (by omega)
  go_wp2_with fail
  refine (refHash (maskB k 54 ++ data) (by rw [List.length_append]; omega) _).mono ?_
  rintro e w4 ⟨rfl, hb4⟩
  have HB4 := hide (HB2.out.trans (hb4.mono HB2.out.size))
  clear hb4 HB2
  generalize sha (maskB k 54 ++ data) = inn at *
  go_wp2_with fail
  refine (againstI k HKL.out _ (by omega) (by omega) _).mono ?_
  rintro e w3 ⟨rfl, hb3⟩
  rw [show (92 : Int).toNat = 92 from rfl]
  have HB3 := hide (HB4.out.trans (hb3.mono HB4.out.size))
  clear hb3 HB4
  go_wp2_with fail
  refine (refHash (maskB k 92 ++ inn) (by rw [List.length_append]; omega) _).mono ?_
  rintro e w5 ⟨rfl, hb5⟩
  have HB5 := hide (HB3.out.trans (hb5.mono HB3.out.size))
  clear hb5 HB3
  rw [← HH.out]
  go_wp2
  go_ret
  exact ⟨rfl, HB5.out⟩

set_option maxRecDepth 100000 in
set_option maxHeartbeats 1000000 in
theorem macRS (key data : List UInt8) (hk : key.length ≤ 64) (hd : data.length ≤ 10000) (w : World) :
    Calls Tryd.prog 50 #[.string (str key), .string (str data)] w fun e w' => e = .returned (.string (str (hmac key data))) ∧ Bel w.heap.size w w' := by
  have hz := str_size key
  have HH : Hid (hmac key data = sha (maskB (hkey key) 92 ++ sha (maskB (hkey key) 54 ++ data))) := rfl
  have HKL := hide (hkey_length key)
  have HKE : Hid (key = hkey key) := by show key = hkey key; unfold hkey; rw [if_neg (by omega)]
  go_enter Tryd.func50, Tryd.ntmps50
  go_wp2_with fail
  have HB1 := hide (Bel.refl w.heap.size w)
  rw [HKE.out]
  clear HKE
  generalize hkey key = k at *
  refine (againstI k HKL.out _ (by omega) (by omega) _).mono ?_
  rintro e w2 ⟨rfl, hb2⟩
  rw [show (54 : Int).toNat = 54 from rfl]
  have HB2 := hide (HB1.out.trans (hb2.mono HB1.out.size))
  clear hb2 HB1
  have l1 := maskB_length k 54
  have l2 := maskB_length k 92
  have l3 := sha_length (maskB k 54 ++ data)
  have ha1 := addS (maskB k 54) data (by omega)
  have ha2 := addS (maskB k 92) (sha (maskB k 54 ++ data)) (by omega)
  go_wp2_with fail
  refine (refHash (maskB k 54 ++ data) (by rw [List.length_append]; omega) _).mono ?_
  rintro e w4 ⟨rfl, hb4⟩
  have HB4 := hide (HB2.out.trans (hb4.mono HB2.out.size))
  clear hb4 HB2
  generalize sha (maskB k 54 ++ data) = inn at *
  go_wp2_with fail
  refine (againstI k HKL.out _ (by omega) (by omega) _).mono ?_
  rintro e w3 ⟨rfl, hb3⟩
  rw [show (92 : Int).toNat = 92 from rfl]
  have HB3 := hide (HB4.out.trans (hb3.mono HB4.out.size))
  clear hb3 HB4
  go_wp2_with fail
  refine (refHash (maskB k 92 ++ inn) (by rw [List.length_append]; omega) _).mono ?_
  rintro e w5 ⟨rfl, hb5⟩
  have HB5 := hide (HB3.out.trans (hb5.mono HB3.out.size))
  clear hb5 HB3
  rw [← HH.out]
  go_wp2
  go_ret
  exact ⟨rfl, HB5.out⟩

theorem macP (key data : List UInt8) (hkl : key.length ≤ 10000) (hd : data.length ≤ 10000) (w : World) (hT : Tab w) :
    Calls Tryd.prog 64 #[.string (str key), .string (str data)] w fun e w' => e = .returned (.string (str (hmac key data))) ∧ Bel w.heap.size w w' := by
  by_cases hk : 64 < key.length
  · exact macPL key data hk hkl hd w hT
  · exact macPS key data (by omega) hd w hT
theorem macR (key data : List UInt8) (hkl : key.length ≤ 10000) (hd : data.length ≤ 10000) (w : World) :
    Calls Tryd.prog 50 #[.string (str key), .string (str data)] w fun e w' => e = .returned (.string (str (hmac key data))) ∧ Bel w.heap.size w w' := by
  by_cases hk : 64 < key.length
  · exact macRL key data hk hkl hd w
  · exact macRS key data (by omega) hd w
end Go.Proofs.YtgjdogkciklgkaaDoor
namespace Go.Proofs.YtgjdogkciklgkaaDoor
open Go.RowKit

def lastTo (k info : List UInt8) : Nat → List UInt8
  | 0 => []
  | j + 1 => hmac k (lastTo k info j ++ info ++ [UInt8.ofNat (j + 1)])
def madeTo (k info : List UInt8) : Nat → List UInt8
  | 0 => []
  | j + 1 => madeTo k info j ++ lastTo k info (j + 1)
theorem lastTo_length (k info : List UInt8) : ∀ j, (lastTo k info j).length ≤ 32
  | 0 => by simp [lastTo]
  | _ + 1 => by simp only [lastTo]; rw [hmac_length]; exact Nat.le_refl _
theorem lastTo_succ (k info : List UInt8) (j : Nat) : (lastTo k info (j + 1)).length = 32 := by simp only [lastTo]; exact hmac_length _ _
theorem madeTo_length (k info : List UInt8) : ∀ j, (madeTo k info j).length = 32 * j
  | 0 => rfl
  | j + 1 => by simp only [madeTo]; rw [List.length_append, madeTo_length k info j, lastTo_succ]; omega
def hkdf (salt key info : List UInt8) (n : Nat) : List UInt8 := (madeTo (hmac salt key) info ((n + 31) / 32)).take n
theorem hkdf_length (salt key info : List UInt8) (n : Nat) : (hkdf salt key info n).length = n := by
  unfold hkdf
  rw [List.length_take, madeTo_length]
  omega

set_option maxRecDepth 100000 in
set_option maxHeartbeats 1000000 in
theorem deriveP (salt key info : List UInt8) (n : Nat) (hs : salt.length ≤ 1000) (hk : key.length ≤ 1000) (hi : info.length ≤ 1000) (hn : n ≤ 128) (w : World) (hT : Tab w) :
    Calls Tryd.prog 63 #[.string (str salt), .string (str key), .string (str info), .int .i64 n] w fun e w' => e = .returned (.string (str (hkdf salt key info n))) ∧ Bel w.heap.size w w' := by
  have HT := hide hT
  clear hT
  have HT0 := hide HT.out
  have HH : Hid (hkdf salt key info n = (madeTo (hmac salt key) info ((n + 31) / 32)).take n) := rfl
  go_enter Tryd.func63, Tryd.ntmps63
  go_wp2_with fail
  refine (macP salt key (by omega) (by omega) _ HT.out).mono ?_
  rintro e w1 ⟨rfl, hb1⟩
  have HB1 := hide hb1
  have HT1 := hide (HT.out.below hb1)
  clear HT
  clear hb1
  have hkl := hmac_length salt key
  generalize hmac salt key = k at *
  go_wp2
  go_loopw [10, 11, 12] (fun v u t wr => ∃ j : Nat, j ≤ (n + 31) / 32 ∧ v = .string (str (madeTo k info j)) ∧ u = .string (str (lastTo k info j)) ∧ t = .int .i64 ((j : Int) + 1) ∧ Bel w.heap.size w wr) (fun _ _ t _ => n + 32 - (intOf t).toNat)
  case atStart => exact ⟨0, Nat.zero_le _, rfl, rfl, rfl, HB1.out⟩
  case round =>
    have HTw : Hid (∀ w', Bel w.heap.size w w' → Tab w') := fun w' hb => HT0.out.below hb
    clear HT1
    clear HB1
    obtain ⟨j, hj, rfl, rfl, rfl, hB⟩ := hrel
    have HB := hide hB
    clear hB
    have lm := madeTo_length k info j
    have ll := lastTo_length k info j
    have hzm : (str (madeTo k info j)).size = 32 * j := by rw [str_size, lm]
    by_cases hlt : 32 * j < n
    · have ls := lastTo_succ k info j
      have HL : Hid (hmac k (lastTo k info j ++ info ++ [UInt8.ofNat (j + 1)]) = lastTo k info (j + 1)) := rfl
      have HM : Hid (madeTo k info j ++ lastTo k info (j + 1) = madeTo k info (j + 1)) := rfl
      have a1 := addS (lastTo k info j) info (by omega)
      have a2 := addS (lastTo k info j ++ info) [UInt8.ofNat (j + 1)] (by simp; omega)
      have a3 := addS (madeTo k info j) (lastTo k info (j + 1)) (by omega)
      have hcv := conv1 ((j : Int) + 1) wr
      rw [show ((j : Int) + 1).toNat = j + 1 by omega] at hcv
      generalize UInt8.ofNat (j + 1) = bj at *
      generalize hla : lastTo k info (j + 1) = la' at *
      generalize lastTo k info j = la at *
      generalize hma : madeTo k info (j + 1) = ma' at *
      generalize madeTo k info j = ma at *
      have HLA := hide hla
      have HMA := hide hma
      rw [HM.out] at a3
      clear hla hma
      go_wp2_with fail
      refine (macP k (la ++ (info ++ [bj])) (by omega) (by simp; omega) _ (HTw.out _ (HB.out.alloc HB.out.size _))).mono ?_
      rintro e w2 ⟨rfl, hb2⟩
      have HB2 := hide ((HB.out.alloc HB.out.size _).trans (hb2.mono (HB.out.alloc HB.out.size _).size))
      rw [← List.append_assoc, HL.out]
      clear hb2 hcv
      go_wp2
      go_roundw
      case rel => exact ⟨j + 1, by omega, by rw [HMA.out], by rw [HLA.out], by go_num, HB2.out⟩
      case measure => simp [intOf]; omega
    · have hj' : j = (n + 31) / 32 := by omega
      have HJ := hide hj'
      clear hj'
      have hle : n ≤ 32 * j := by omega
      go_wp2
      go_ret
      refine ⟨?_, HB.out⟩
      rw [HH.out, ← HJ.out]
      have e := str_extract (madeTo k info j) 0 n
      rw [List.drop_zero, Nat.sub_zero] at e
      rw [← e]
      rfl

set_option maxRecDepth 100000 in
set_option maxHeartbeats 1000000 in
theorem deriveR (salt key info : List UInt8) (n : Nat) (hs : salt.length ≤ 1000) (hk : key.length ≤ 1000) (hi : info.length ≤ 1000) (hn : n ≤ 128) (w : World) :
    Calls Tryd.prog 52 #[.string (str salt), .string (str key), .string (str info), .int .i64 n] w fun e w' => e = .returned (.string (str (hkdf salt key info n))) ∧ Bel w.heap.size w w' := by
  have HH : Hid (hkdf salt key info n = (madeTo (hmac salt key) info ((n + 31) / 32)).take n) := rfl
  go_enter Tryd.func52, Tryd.ntmps52
  go_wp2_with fail
  refine (macR salt key (by omega) (by omega) _).mono ?_
  rintro e w1 ⟨rfl, hb1⟩
  have HB1 := hide hb1
  clear hb1
  have hkl := hmac_length salt key
  generalize hmac salt key = k at *
  go_wp2
  go_loopw [10, 11, 12] (fun v u t wr => ∃ j : Nat, j ≤ (n + 31) / 32 ∧ v = .string (str (madeTo k info j)) ∧ u = .string (str (lastTo k info j)) ∧ t = .int .i64 ((j : Int) + 1) ∧ Bel w.heap.size w wr) (fun _ _ t _ => n + 32 - (intOf t).toNat)
  case atStart => exact ⟨0, Nat.zero_le _, rfl, rfl, rfl, HB1.out⟩
  case round =>
    clear HB1
    obtain ⟨j, hj, rfl, rfl, rfl, hB⟩ := hrel
    have HB := hide hB
    clear hB
    have lm := madeTo_length k info j
    have ll := lastTo_length k info j
    have hzm : (str (madeTo k info j)).size = 32 * j := by rw [str_size, lm]
    by_cases hlt : 32 * j < n
    · have ls := lastTo_succ k info j
      have HL : Hid (hmac k (lastTo k info j ++ info ++ [UInt8.ofNat (j + 1)]) = lastTo k info (j + 1)) := rfl
      have HM : Hid (madeTo k info j ++ lastTo k info (j + 1) = madeTo k info (j + 1)) := rfl
      have a1 := addS (lastTo k info j) info (by omega)
      have a2 := addS (lastTo k info j ++ info) [UInt8.ofNat (j + 1)] (by simp; omega)
      have a3 := addS (madeTo k info j) (lastTo k info (j + 1)) (by omega)
      have hcv := conv1 ((j : Int) + 1) wr
      rw [show ((j : Int) + 1).toNat = j + 1 by omega] at hcv
      generalize UInt8.ofNat (j + 1) = bj at *
      generalize hla : lastTo k info (j + 1) = la' at *
      generalize lastTo k info j = la at *
      generalize hma : madeTo k info (j + 1) = ma' at *
      generalize madeTo k info j = ma at *
      have HLA := hide hla
      have HMA := hide hma
      rw [HM.out] at a3
      clear hla hma
      go_wp2_with fail
      refine (macR k (la ++ (info ++ [bj])) (by omega) (by simp; omega) _).mono ?_
      rintro e w2 ⟨rfl, hb2⟩
      have HB2 := hide ((HB.out.alloc HB.out.size _).trans (hb2.mono (HB.out.alloc HB.out.size _).size))
      rw [← List.append_assoc, HL.out]
      clear hb2 hcv
      go_wp2
      go_roundw
      case rel => exact ⟨j + 1, by omega, by rw [HMA.out], by rw [HLA.out], by go_num, HB2.out⟩
      case measure => simp [intOf]; omega
    · have hj' : j = (n + 31) / 32 := by omega
      have HJ := hide hj'
      clear hj'
      have hle : n ≤ 32 * j := by omega
      go_wp2
      go_ret
      refine ⟨?_, HB.out⟩
      rw [HH.out, ← HJ.out]
      have e := str_extract (madeTo k info j) 0 n
      rw [List.drop_zero, Nat.sub_zero] at e
      rw [← e]
      rfl

end Go.Proofs.YtgjdogkciklgkaaDoor
