/-
  The document's schedule.
-/
import Derived.Test.YtlchpbnpmgfaoaaDoorLeaf
import Derived.Test.YtlchpbnpmgfaoaaDoorRow
import Derived.BigRegion
namespace Go.Proofs.YtlchpbnpmgfaoaaDoor
open Go.RowKit

def z64 : List Nat := List.replicate 64 0
theorem mk64 (w : World) : (Instr.makeSlice 39 (.int .i64 64) (.int .i64 64)).run Tryd.prog w = .ok (.slice (some ⟨w.heap.size, 0, none⟩) 64 64) (w.alloc (.cells (rowK .i64 z64) 3)) := by kernel_rfl

theorem idxS (m : ByteArray) (i : Int) (j : Nat) (hi : i = j) (h : j < m.size) (w : World) :
    (Instr.index 9 (.string m) (.int .i64 i)).run Tryd.prog w = .ok (.int .u8 (byteAt m.data.toList j : Nat)) w := by
  subst hi
  rw [run_index_string w _ _ _ _ Tryd.underlying9, dif_pos ⟨by omega, by omega⟩]
  have e : byteAt m.data.toList j = (m[j]'h).toNat := by
    unfold byteAt
    rw [getD_in _ _ (show j < m.data.toList.length by simpa using h)]
    rfl
  rw [e]
  rfl

theorem word_eq (m : List UInt8) (k : Nat) :
    bits .or .i64 (bits .or .i64 (bits .or .i64 (wrap64 (wrap64 (byteAt m (4 * k) : Nat) * 16777216)) (wrap64 (wrap64 (byteAt m (4 * k + 1) : Nat) * 65536))) (wrap64 (wrap64 (byteAt m (4 * k + 2) : Nat) * 256))) (wrap64 (byteAt m (4 * k + 3) : Nat)) = (wordAt m k : Nat) := by
  have h0 := byteAt_lt m (4 * k)
  have h1 := byteAt_lt m (4 * k + 1)
  have h2 := byteAt_lt m (4 * k + 2)
  have h3 := byteAt_lt m (4 * k + 3)
  unfold wordAt
  generalize byteAt m (4 * k) = a at *
  generalize byteAt m (4 * k + 1) = b at *
  generalize byteAt m (4 * k + 2) = c at *
  generalize byteAt m (4 * k + 3) = d at *
  have e0 : wrap64 (wrap64 (a : Int) * 16777216) = ((a * 16777216 : Nat) : Int) := by unfold wrap64; omega
  have e1 : wrap64 (wrap64 (b : Int) * 65536) = ((b * 65536 : Nat) : Int) := by unfold wrap64; omega
  have e2 : wrap64 (wrap64 (c : Int) * 256) = ((c * 256 : Nat) : Int) := by unfold wrap64; omega
  have e3 : wrap64 (d : Int) = (d : Int) := by unfold wrap64; omega
  rw [e0, e1, e2, e3, i64_or_nat _ _ (by omega) (by omega), nat_join 24 (a * 16777216) (b * 65536) (by omega) (by omega), i64_or_nat _ _ (by omega) (by omega), nat_join 16 (a * 16777216 + b * 65536) (c * 256) (by omega) (by omega), i64_or_nat _ _ (by omega) (by omega), nat_join 8 (a * 16777216 + b * 65536 + c * 256) d (by omega) (by omega)]

theorem sml0_eq {x : Nat} (hx : x < 4294967296) : bits .xor .i64 (bits .xor .i64 ((rotr 7 x : Nat) : Int) ((rotr 18 x : Nat) : Int)) ((x : Int) / 8) = ((sml0 x : Nat) : Int) := by
  have h1 := rotr_lt 7 x hx
  have h2 := rotr_lt 18 x hx
  have h3 := xor32 h1 h2
  rw [show (x : Int) / 8 = ((x / 8 : Nat) : Int) by omega, i64_xor_nat _ _ (by omega) (by omega), i64_xor_nat _ _ (by omega) (by omega)]
  rfl
theorem sml1_eq {x : Nat} (hx : x < 4294967296) : bits .xor .i64 (bits .xor .i64 ((rotr 17 x : Nat) : Int) ((rotr 19 x : Nat) : Int)) ((x : Int) / 1024) = ((sml1 x : Nat) : Int) := by
  have h1 := rotr_lt 17 x hx
  have h2 := rotr_lt 19 x hx
  have h3 := xor32 h1 h2
  rw [show (x : Int) / 1024 = ((x / 1024 : Nat) : Int) by omega, i64_xor_nat _ _ (by omega) (by omega), i64_xor_nat _ _ (by omega) (by omega)]
  rfl
theorem and_word (n : Nat) (h : n < 9223372036854775808) : bits .and .i64 (n : Int) 4294967295 = ((n % 4294967296 : Nat) : Int) := by
  have := i64_and_nat n 4294967295 h (by decide)
  rw [show ((4294967295 : Nat) : Int) = 4294967295 from rfl] at this
  rw [this, mask32]

set_option maxRecDepth 100000 in
set_option maxHeartbeats 1000000 in
theorem refSched (m : ByteArray) (hm : m.size = 64) (w : World) :
    Calls Tryd.prog 102 #[.string m] w fun e w' => e = .returned (.slice (some ⟨w.heap.size, 0, none⟩) 64 64) ∧ Bel w.heap.size w w' ∧ Blk w' w.heap.size 3 .i64 (schedTo m.data.toList 48) := by
  have hmk := mk64
  have HM := hide hm
  clear hm
  go_enter Tryd.func102, Tryd.ntmps102
  go_wp2
  have hB0 : Bel w.heap.size w (w.alloc (.cells (rowK .i64 z64) 3)) := (Bel.refl _ _).alloc (Nat.le_refl _) _
  have hK0 : Blk (w.alloc (.cells (rowK .i64 z64) 3)) w.heap.size 3 .i64 z64 := Blk.new w _ _ _
  go_loopw [4] (fun t wr => ∃ k : Nat, k ≤ 16 ∧ t = .int .i64 k ∧ Bel w.heap.size w wr ∧ Blk wr w.heap.size 3 .i64 (fillTo ((List.range k).map (wordAt m.data.toList)) 64)) (fun t _ => 16 - (intOf t).toNat)
  case atStart => exact ⟨0, by omega, rfl, hB0, hK0⟩
  case round =>
    clear hB0 hK0 hmk
    obtain ⟨k, hk, rfl, hbr, hblk⟩ := hrel
    by_cases hk16 : k < 16
    · have hc := hblk.cell k (by rw [fillTo_length _ _ (by simp; omega)]; omega)
      have hf := hblk.frozen k
      have HB := hide hbr
      have HK := hide hblk
      clear hbr hblk
      have i0 := idxS m (4 * (k : Int)) (4 * k) (by omega) (by have := HM.out; omega)
      have i1 := idxS m (4 * (k : Int) + 1) (4 * k + 1) (by omega) (by have := HM.out; omega)
      have i2 := idxS m (4 * (k : Int) + 2) (4 * k + 2) (by omega) (by have := HM.out; omega)
      have i3 := idxS m (4 * (k : Int) + 3) (4 * k + 3) (by omega) (by have := HM.out; omega)
      go_wp2
      go_region
      go_wp2
      rw [word_eq]
      refine ⟨⟨k + 1, by omega, by go_num, (HB.out.setCell (Nat.le_refl _) _).drew, ?_⟩, by simp [intOf]; omega⟩
      have h1 := HK.out.set k (wordAt m.data.toList k)
      have h2 := fillTo_set ((List.range k).map (wordAt m.data.toList)) 64 (wordAt m.data.toList k) (by simp; omega)
      rw [List.length_map, List.length_range] at h2
      rw [h2] at h1
      rw [List.range_succ, List.map_append]
      exact h1
    · have h16 : k = 16 := by omega
      subst h16
      have HB := hide hbr
      have HK := hide hblk
      clear hbr hblk
      go_wp2
      go_loopw [5] (fun t w2 => ∃ k : Nat, 16 ≤ k ∧ k ≤ 64 ∧ t = .int .i64 k ∧ Bel w.heap.size w w2 ∧ Blk w2 w.heap.size 3 .i64 (fillTo (schedTo m.data.toList (k - 16)) 64)) (fun t _ => 64 - (intOf t).toNat)
      case atStart => exact ⟨16, by omega, by omega, rfl, HB.out, HK.out⟩
      case round =>
        clear HB HK hk16
        rename_i w2
        obtain ⟨t, ht16, ht64, rfl, hbr, hblk⟩ := hrel
        have hlen : (fillTo (schedTo m.data.toList (t - 16)) 64).length = 64 := fillTo_length _ _ (by rw [schedTo_length]; omega)
        by_cases hlt : t < 64
        · have c15 := hblk.cell (t - 15) (by omega)
          have c16 := hblk.cell (t - 16) (by omega)
          have c7 := hblk.cell (t - 7) (by omega)
          have c2 := hblk.cell (t - 2) (by omega)
          have c0 := hblk.cell t (by omega)
          rw [fillTo_getD] at c15 c16 c7 c2 c0
          have hf := hblk.frozen t
          have l15 := schedTo_lt m.data.toList (t - 16) (t - 15)
          have l16 := schedTo_lt m.data.toList (t - 16) (t - 16)
          have l7 := schedTo_lt m.data.toList (t - 16) (t - 7)
          have l2 := schedTo_lt m.data.toList (t - 16) (t - 2)
          have HN : Hid (nextW (schedTo m.data.toList (t - 16)) t = (sml1 ((schedTo m.data.toList (t - 16)).getD (t - 2) 0) + (schedTo m.data.toList (t - 16)).getD (t - 7) 0 + sml0 ((schedTo m.data.toList (t - 16)).getD (t - 15) 0) + (schedTo m.data.toList (t - 16)).getD (t - 16) 0) % 4294967296) := rfl
          have HB := hide hbr
          have HK := hide hblk
          clear hbr hblk hlen
          generalize (schedTo m.data.toList (t - 16)).getD (t - 15) 0 = x15 at *
          generalize (schedTo m.data.toList (t - 16)).getD (t - 16) 0 = x16 at *
          generalize (schedTo m.data.toList (t - 16)).getD (t - 7) 0 = x7 at *
          generalize (schedTo m.data.toList (t - 16)).getD (t - 2) 0 = x2 at *
          generalize (schedTo m.data.toList (t - 16)).getD t 0 = x0 at *
          go_wp2_with fail
          go_quiet ((go_at_call 104; exact Calls.quiet_of (turn_int _ _ (by assumption) (by omega) (by omega) _)))
          go_wp2_with fail
          have c2 : (wr.drewN nq).cell? ⟨w.heap.size, t - 2, none⟩ = _ := c2
          have c7 : (wr.drewN nq).cell? ⟨w.heap.size, t - 7, none⟩ = _ := c7
          have c16 : (wr.drewN nq).cell? ⟨w.heap.size, t - 16, none⟩ = _ := c16
          have c0 : (wr.drewN nq).cell? ⟨w.heap.size, t, none⟩ = _ := c0
          have hf : (wr.drewN nq).frozen? ⟨w.heap.size, t, none⟩ = _ := hf
          have HB := hide (belowN HB.out nq)
          have HK := hide (HK.out.drewN nq)
          generalize wr.drewN nq = w3 at *
          go_quiet ((go_at_call 104; exact Calls.quiet_of (turn_int _ _ (by assumption) (by omega) (by omega) _)))
          go_wp2_with fail
          have c7 : (w3.drewN nq).cell? ⟨w.heap.size, t - 7, none⟩ = _ := c7
          have c16 : (w3.drewN nq).cell? ⟨w.heap.size, t - 16, none⟩ = _ := c16
          have c0 : (w3.drewN nq).cell? ⟨w.heap.size, t, none⟩ = _ := c0
          have hf : (w3.drewN nq).frozen? ⟨w.heap.size, t, none⟩ = _ := hf
          have HB := hide (belowN HB.out nq)
          have HK := hide (HK.out.drewN nq)
          generalize w3.drewN nq = w4 at *
          rw [sml0_eq l15, sml1_eq l2]
          have s0 := sml0_lt l15
          have s1 := sml1_lt l2
          generalize sml0 x15 = y0 at *
          generalize sml1 x2 = y1 at *
          go_region
          go_wp2
          rw [show (y1 : Int) + (x7 : Int) + (y0 : Int) + (x16 : Int) = ((y1 + x7 + y0 + x16 : Nat) : Int) by omega, and_word _ (by omega), ← HN.out]
          refine ⟨⟨t + 1, by omega, by omega, by go_num, (HB.out.setCell (Nat.le_refl _) _).drew, ?_⟩, by simp [intOf]; omega⟩
          have h1 := HK.out.set t (nextW (schedTo m.data.toList (t - 16)) t)
          have h2 := fillTo_set (schedTo m.data.toList (t - 16)) 64 (nextW (schedTo m.data.toList (t - 16)) t) (by rw [schedTo_length]; omega)
          rw [schedTo_length, show 16 + (t - 16) = t by omega] at h2
          rw [h2] at h1
          rw [show t + 1 - 16 = (t - 16) + 1 by omega]
          have h3 : schedTo m.data.toList (t - 16 + 1) = schedTo m.data.toList (t - 16) ++ [nextW (schedTo m.data.toList (t - 16)) t] := by
            show _ ++ [nextW _ (16 + (t - 16))] = _
            rw [show 16 + (t - 16) = t by omega]
          rw [h3]
          exact h1
        · have h64 : t = 64 := by omega
          subst h64
          have HB := hide hbr
          have HK := hide hblk
          clear hbr hblk hlen
          go_wp2
          go_ret
          refine ⟨rfl, HB.out, ?_⟩
          have h1 := HK.out
          rw [fillTo_full _ _ (by rw [schedTo_length])] at h1
          exact h1
end Go.Proofs.YtlchpbnpmgfaoaaDoor
