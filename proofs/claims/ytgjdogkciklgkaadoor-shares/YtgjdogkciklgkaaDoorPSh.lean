/-
  The program's clamped.
-/
import Derived.Test.YtgjdogkciklgkaaDoorRd
import Derived.Test.YtgjdogkciklgkaaDoorRs
namespace Go.Proofs.YtgjdogkciklgkaaDoor
open Go.RowKit

/-- 'copy(b[:], s)', b an array of 32 bytes, s a string of 32. -/
theorem wpList_copy32 {w : World} {ops : Array Oper} {rest : List Oper} {o : Oper} {a : Act} {Q : Exit → Act → World → Prop} (hgd : o.guard = none) (d s : Operand)
    (ho : o.op = .call { callee := .builtin .copy, args := #[d, s], argTypes := #[59, 9] }) (g dCap : Nat) (key : List UInt8) (l : List Nat) (hd : a.eval d = .slice (some ⟨g, 0, none⟩) 32 dCap) (hs : a.eval s = .string (str key))
    (hk : key.length = 32) (hl : l.length = 32) (hg : Blk w g 85 .u8 l)
    (h : ∀ w', Bel g w w' → (∀ j, j ≠ g → w'.heap[j]? = w.heap[j]?) → Blk w' g 85 .u8 (nums key) → wpList Tryd.prog ops Q rest (a.put o.dst (.int .i64 32)) w') : wpList Tryd.prog ops Q (o :: rest) a w := by
  refine wpList_plain hgd fun K hK => ?_
  have hz : (str key).size = key.length := str_size key
  have hi : (Tryd.prog.info? 5).map (·.size) = some 1 := by kernel_rfl
  have hrun := Lib.run_copy_row_string (P := Tryd.prog) w 59 9 o.type 5 g 0 32 dCap (str key) (rowK .u8 l) 85 Tryd.underlying59 hi hg (by omega) (by rw [rowK_size]; omega)
  rw [hz] at hrun
  have hrow : (((rowK .u8 l).toList.take 0 ++ Lib.byteCells (str key).data.toList ++ (rowK .u8 l).toList.drop (0 + key.length)).toArray) = rowK .u8 (nums key) := by
    rw [str_data]
    apply Array.ext'
    have e : ((rowK .u8 l).toList.drop (0 + key.length)) = [] := by
      apply List.drop_eq_nil_of_le
      have := rowK_size .u8 l
      simp [rowK]
      omega
    rw [e]
    simp [rowK, nums, Lib.byteCells]
  rw [hrow] at hrun
  have hfin := h (w.setRow g (rowK .u8 (nums key))) (belowRow (Bel.refl _ _) (Nat.le_refl _) _) (fun k hk => setRow_other w g k _ hk) (setRow_heap w g _ _ 85 _ hg)
  unfold Oper.wp
  simp [execOp, ho, resolve, invoke, builtin, hd, hs, hrun, Result.andThen]
  rw [hk]
  exact hK _ _ hfin

/-- The factor of a secret. -/
def facL (s : List UInt8) : List Nat := ((nums s).set 0 (byteAt s 0 &&& 248)).set 31 (byteAt s 31 &&& 127 ||| 64)
theorem facL_length (s : List UInt8) : (facL s).length = s.length := by unfold facL; rw [List.length_set, List.length_set, nums_length]
theorem low_bits : ∀ x, x < 256 → ∀ i, i < 8 → (x &&& 248) / 2 ^ i % 2 = if i < 3 then 0 else x / 2 ^ i % 2 := by decide +kernel
theorem high_bits : ∀ x, x < 256 → ∀ i, i < 7 → (x &&& 127 ||| 64) / 2 ^ i % 2 = if i = 6 then 1 else x / 2 ^ i % 2 := by decide +kernel
theorem facL_getD (s : List UInt8) (hs : s.length = 32) (j : Nat) (hj : j < 32) : (facL s).getD j 0 = if j = 31 then byteAt s 31 &&& 127 ||| 64 else if j = 0 then byteAt s 0 &&& 248 else byteAt s j := by
  unfold facL
  have hn := nums_length s
  by_cases e : j = 31
  · subst e
    rw [if_pos rfl]
    simp [hn, hs]
  · rw [if_neg e]
    by_cases e0 : j = 0
    · subst e0
      rw [if_pos rfl]
      simp [hn, hs]
    · rw [if_neg e0]
      have h := nums_getD s j
      rw [List.getD_eq_getElem?_getD] at h
      simp [Ne.symm e, Ne.symm e0, h]
theorem facL_lt (s : List UInt8) (hs : s.length = 32) (j : Nat) (hj : j < 32) : (facL s).getD j 0 < 256 := by
  rw [facL_getD s hs j hj]
  split
  · exact Nat.or_lt_two_pow (n := 8) (Nat.and_lt_two_pow (n := 8) _ (by decide)) (by decide)
  · split
    · exact Nat.and_lt_two_pow (n := 8) _ (by decide)
    · exact byteAt_lt s j
theorem facL_bit (s : List UInt8) (hs : s.length = 32) (i : Nat) (hi : i < 255) : (facL s).getD (i / 8) 0 / 2 ^ (i % 8) % 2 = cbit s i := by
  rw [facL_getD s hs (i / 8) (by omega)]
  by_cases e : i / 8 = 31
  · have hc : cbit s i = if i = 254 then 1 else sbit s i := by unfold cbit; rw [if_neg (by omega)]
    rw [if_pos e, high_bits _ (byteAt_lt s 31) (i % 8) (by omega), hc]
    by_cases e6 : i % 8 = 6
    · rw [if_pos e6, if_pos (by omega)]
    · rw [if_neg e6, if_neg (by omega)]
      unfold sbit
      rw [e]
  · rw [if_neg e]
    by_cases e0 : i / 8 = 0
    · rw [if_pos e0, low_bits _ (byteAt_lt s 0) (i % 8) (by omega)]
      by_cases h3 : i < 3
      · have hc : cbit s i = 0 := if_pos h3
        rw [hc, if_pos (by omega)]
      · have hc : cbit s i = sbit s i := by unfold cbit; rw [if_neg h3, if_neg (by omega)]
        rw [hc, if_neg (by omega)]
        unfold sbit
        rw [e0]
    · rw [if_neg e0]
      have hc : cbit s i = sbit s i := by unfold cbit; rw [if_neg (by omega), if_neg (by omega)]
      rw [hc]
      rfl
theorem info32 (l : List Nat) (h : l.length = 32) : (Tryd.prog.info? 85).map (·.size) = some l.length := by rw [h]; kernel_rfl
theorem ret32 {fn : Func} {p : Tmp} (h : fn.results = #[.cell p 85]) (tmps : Array Value) (w : World) (b : Nat) (l : List Nat) (hl : l.length = 32) (hp : tmps.getD p undef = .pointer (some ⟨b, 0, none⟩)) (hB : Blk w b 85 .u8 l) :
    (results fn tmps).run Tryd.prog w = .ok (.agg (rowK .u8 l)) w :=
  results_cell_row (P := Tryd.prog) h tmps w b 85 (rowK .u8 l) (0, 0) _ hp hB Tryd.underlying85 rfl (by rw [rowK_size]; exact info32 l hl)

set_option maxRecDepth 100000 in
set_option maxHeartbeats 1000000 in
theorem clampedP (s : List UInt8) (hs : s.length = 32) (w : World) :
    Calls Tryd.prog 56 #[.string (str s)] w fun e w' => e = .returned (.agg (rowK .u8 (facL s))) ∧ Bel w.heap.size w w' := by
  have HR : Hid (Blk ((w.alloc (.cells (rowK .u8 (tab 32 zer17)) 85)).alloc (.cells (rowK .u8 (tab 32 zer17)) 85)) w.heap.size 85 .u8 (tab 32 zer17)) := Blk.new2old w _ _ _ _
  have HF : Hid (Blk ((w.alloc (.cells (rowK .u8 (tab 32 zer17)) 85)).alloc (.cells (rowK .u8 (tab 32 zer17)) 85)) (w.heap.size + 1) 85 .u8 (tab 32 zer17)) := Blk.new2 w _ _ _ _
  have HB : Hid (Bel w.heap.size w ((w.alloc (.cells (rowK .u8 (tab 32 zer17)) 85)).alloc (.cells (rowK .u8 (tab 32 zer17)) 85))) := ((Bel.refl _ _).alloc (Nat.le_refl _) _).alloc (by simp) _
  rw [z32] at HR HF HB
  go_enter Tryd.func56, Tryd.ntmps56
  have e0 := u8_and_nat (byteAt s 0) 248 (byteAt_lt s 0) (by decide)
  have e1 := u8_and_nat (byteAt s 31) 127 (byteAt_lt s 31) (by decide)
  have e2 := u8_or_nat (byteAt s 31 &&& 127) 64 (Nat.and_lt_two_pow (n := 8) _ (by decide)) (by decide)
  rw [show ((248 : Nat) : Int) = 248 from rfl] at e0
  rw [show ((127 : Nat) : Int) = 127 from rfl] at e1
  rw [show ((64 : Nat) : Int) = 64 from rfl] at e2
  have hns := nums_length s
  have HFL : Hid (facL s = ((nums s).set 0 (byteAt s 0 &&& 248)).set 31 (byteAt s 31 &&& 127 ||| 64)) := rfl
  go_wp2_with (first | (refine wpList_copy32 rfl _ _ rfl _ _ s _ rfl rfl hs (tab_length 32 zer17) HF.out ?_; intro w3 bel ho hk; have c0 := hk.cell 0 (by rw [hns, hs]; decide); rw [nums_getD] at c0; have c31 := hk.cell 31 (by rw [hns, hs]; decide); rw [nums_getD] at c31; have f0 := hk.frozen 0; have f31 := hk.frozen 31; have HK2 := hide ((hk.set 0 (byteAt s 0 &&& 248)).set 31 (byteAt s 31 &&& 127 ||| 64)); rw [← HFL.out] at HK2; have HR2 := hide (((HR.out.stays ho (by omega)).setOther ⟨w.heap.size + 1, 0, none⟩ (.int .u8 ((byteAt s 0 &&& 248 : Nat) : Int)) (by show w.heap.size ≠ w.heap.size + 1; omega)).setOther ⟨w.heap.size + 1, 31, none⟩ (.int .u8 ((byteAt s 31 &&& 127 ||| 64 : Nat) : Int)) (by show w.heap.size ≠ w.heap.size + 1; omega)); have HB2 := hide (((HB.out.trans (bel.mono (by omega))).setCell (p := ⟨w.heap.size + 1, 0, none⟩) (by show w.heap.size ≤ w.heap.size + 1; omega) (.int .u8 ((byteAt s 0 &&& 248 : Nat) : Int))).setCell (p := ⟨w.heap.size + 1, 31, none⟩) (by show w.heap.size ≤ w.heap.size + 1; omega) (.int .u8 ((byteAt s 31 &&& 127 ||| 64 : Nat) : Int))); clear HR HF HB bel ho hk) | (refine wpList_ldB HK2.out Tryd.underlying85 rfl (info32 _ (by rw [facL_length, hs])) rfl _ rfl rfl ?_) | (refine wpList_stB HR2.out (info32 (facL s) (by rw [facL_length, hs])) (by rw [facL_length, hs, tab_length]) rfl _ _ rfl rfl rfl rfl ?_; intro w5 hb5 ho5 hk5))
  refine bodyPost_ret (v := .agg (rowK .u8 (facL s))) (ret32 Tryd.results56 _ _ _ _ (by rw [facL_length, hs]) rfl hk5) rfl ⟨rfl, HB2.out.trans hb5⟩
end Go.Proofs.YtgjdogkciklgkaaDoor
