/-
  The document's schedule.
-/
import Derived.Test.YtgjdogkciklgkaaDoorLow
import Derived.BigRegion
import Derived.Test.YtgjdogkciklgkaaDoorOut
namespace Go.Proofs.YtgjdogkciklgkaaDoor
open Go.RowKit

def z64 : List Nat := List.replicate 64 0
theorem mk64 (w : World) : (Instr.makeSlice 39 (.int .i64 64) (.int .i64 64)).run Tryd.prog w = .ok (.slice (some ⟨w.heap.size, 0, none⟩) 64 64) (w.alloc (.cells (rowK .i64 z64) 3)) := by kernel_rfl

theorem idxS (m : ByteArray) (i : Int) (j : Nat) (hi : i = j) (h : j < m.size) (w : World) :
    (Instr.index 9 (.string m) (.int .i64 i)).run Tryd.prog w = .ok (.int .u8 (byteAt m.data.toList j : Nat)) w := by
  subst hi
  rw [run_index_string w _ _ _ _ Tryd.underlying9, dif_pos ⟨by omega, by omega⟩]
  have e : byteAt m.data.toList j = (m[j]'h).toNat := by
    unfold byteAt
    rw [getD_in _ _ (show j < m.data.toList.length by simpa using h)]
    rfl
  rw [e]
  rfl

theorem word_eq (m : List UInt8) (k : Nat) :
    bits .or .i64 (bits .or .i64 (bits .or .i64 (wrap64 (wrap64 (byteAt m (4 * k) : Nat) * 16777216)) (wrap64 (wrap64 (byteAt m (4 * k + 1) : Nat) * 65536))) (wrap64 (wrap64 (byteAt m (4 * k + 2) : Nat) * 256))) (wrap64 (byteAt m (4 * k + 3) : Nat)) = (wordAt m k : Nat) := by
  have h0 := byteAt_lt m (4 * k)
  have h1 := byteAt_lt m (4 * k + 1)
  have h2 := byteAt_lt m (4 * k + 2)
  have h3 := byteAt_lt m (4 * k + 3)
  unfold wordAt
  generalize byteAt m (4 * k) = a at *
  generalize byteAt m (4 * k + 1) = b at *
  generalize byteAt m (4 * k + 2) = c at *
  generalize byteAt m (4 * k + 3) = d at *
  have e0 : wrap64 (wrap64 (a : Int) * 16777216) = ((a * 16777216 : Nat) : Int) := by unfold wrap64; omega
  have e1 : wrap64 (wrap64 (b : Int) * 65536) = ((b * 65536 : Nat) : Int) := by unfold wrap64; omega
  have e2 : wrap64 (wrap64 (c : Int) * 256) = ((c * 256 : Nat) : Int) := by unfold wrap64; omega
  have e3 : wrap64 (d : Int) = (d : Int) := by unfold wrap64; omega
  rw [e0, e1, e2, e3, i64_or_nat _ _ (by omega) (by omega), nat_join 24 (a * 16777216) (b * 65536) (by omega) (by omega), i64_or_nat _ _ (by omega) (by omega), nat_join 16 (a * 16777216 + b * 65536) (c * 256) (by omega) (by omega), i64_or_nat _ _ (by omega) (by omega), nat_join 8 (a * 16777216 + b * 65536 + c * 256) d (by omega) (by omega)]

theorem sml0_eq {x : Nat} (hx : x < 4294967296) : bits .xor .i64 (bits .xor .i64 ((rotr 7 x : Nat) : Int) ((rotr 18 x : Nat) : Int)) ((x : Int) / 8) = ((sml0 x : Nat) : Int) := by
  have h1 := rotr_lt 7 x hx
  have h2 := rotr_lt 18 x hx
  have h3 := xor32 h1 h2
  rw [show (x : Int) / 8 = ((x / 8 : Nat) : Int) by omega, i64_xor_nat _ _ (by omega) (by omega), i64_xor_nat _ _ (by omega) (by omega)]
  rfl
theorem sml1_eq {x : Nat} (hx : x < 4294967296) : bits .xor .i64 (bits .xor .i64 ((rotr 17 x : Nat) : Int) ((rotr 19 x : Nat) : Int)) ((x : Int) / 1024) = ((sml1 x : Nat) : Int) := by
  have h1 := rotr_lt 17 x hx
  have h2 := rotr_lt 19 x hx
  have h3 := xor32 h1 h2
  rw [show (x : Int) / 1024 = ((x / 1024 : Nat) : Int) by omega, i64_xor_nat _ _ (by omega) (by omega), i64_xor_nat _ _ (by omega) (by omega)]
  rfl
theorem and_word (n : Nat) (h : n < 9223372036854775808) : bits .and .i64 (n : Int) 4294967295 = ((n % 4294967296 : Nat) : Int) := by
  have := i64_and_nat n 4294967295 h (by decide)
  rw [show ((4294967295 : Nat) : Int) = 4294967295 from rfl] at this
  rw [this, mask32]

set_option maxRecDepth 100000 in
set_option maxHeartbeats 1000000 in
theorem refSched (m : ByteArray) (hm : m.size = 64) (w : World) :
    Calls Tryd.prog 102 #[.string m] w fun e w' => e = .returned (.slice (some ⟨w.heap.size, 0, none⟩) 64 64) ∧ Bel w.heap.size w w' ∧ Blk w' w.heap.size 3 .i64 (schedTo m.data.toList 48) := by
  have hmk := mk64
  have HM := hide hm
  clear hm
  go_enter Tryd.func102, Tryd.ntmps102
  go_wp2
  have hB0 : Bel w.heap.size w (w.alloc (.cells (rowK .i64 z64) 3)) := (Bel.refl _ _).alloc (Nat.le_refl _) _
  have hK0 : Blk (w.alloc (.cells (rowK .i64 z64) 3)) w.heap.size 3 .i64 z64 := Blk.new w _ _ _
  go_loopw [4] (fun t wr => ∃ k : Nat, k ≤ 16 ∧ t = .int .i64 k ∧ Bel w.heap.size w wr ∧ Blk wr w.heap.size 3 .i64 (fillTo ((List.range k).map (wordAt m.data.toList)) 64)) (fun t _ => 16 - (intOf t).toNat)
  case atStart => exact ⟨0, by omega, rfl, hB0, hK0⟩
  case round =>
    clear hB0 hK0 hmk
    obtain ⟨k, hk, rfl, hbr, hblk⟩ := hrel
    by_cases hk16 : k < 16
    · have hc := hblk.cell k (by rw [fillTo_length _ _ (by simp; omega)]; omega)
      have hf := hblk.frozen k
      have HB := hide hbr
      have HK := hide hblk
      clear hbr hblk
      have i0 := idxS m (4 * (k : Int)) (4 * k) (by omega) (by have := HM.out; omega)
      have i1 := idxS m (4 * (k : Int) + 1) (4 * k + 1) (by omega) (by have := HM.out; omega)
      have i2 := idxS m (4 * (k : Int) + 2) (4 * k + 2) (by omega) (by have := HM.out; omega)
      have i3 := idxS m (4 * (k : Int) + 3) (4 * k + 3) (by omega) (by have := HM.out; omega)
      go_wp2
      go_region
      go_wp2
      rw [word_eq]
      refine ⟨⟨k + 1, by omega, by go_num, (HB.out.setCell (Nat.le_refl _) _).drew, ?_⟩, by simp [intOf]; omega⟩
      have h1 := HK.out.set k (wordAt m.data.toList k)
      have h2 := fillTo_set ((List.range k).map (wordAt m.data.toList)) 64 (wordAt m.data.toList k) (by simp; omega)
      rw [List.length_map, List.length_range] at h2
      rw [h2] at h1
      rw [List.range_succ, List.map_append]
      exact h1
    · have h16 : k = 16 := by omega
      subst h16
      have HB := hide hbr
      have HK := hide hblk
      clear hbr hblk
      go_wp2
      go_loopw [5] (fun t w2 => ∃ k : Nat, 16 ≤ k ∧ k ≤ 64 ∧ t = .int .i64 k ∧ Bel w.heap.size w w2 ∧ Blk w2 w.heap.size 3 .i64 (fillTo (schedTo m.data.toList (k - 16)) 64)) (fun t _ => 64 - (intOf t).toNat)
      case atStart => exact ⟨16, by omega, by omega, rfl, HB.out, HK.out⟩
      case round =>
        clear HB HK hk16
        rename_i w2
        obtain ⟨t, ht16, ht64, rfl, hbr, hblk⟩ := hrel
        have hlen : (fillTo (schedTo m.data.toList (t - 16)) 64).length = 64 := fillTo_length _ _ (by rw [schedTo_length]; omega)
        by_cases hlt : t < 64
        · have c15 := hblk.cell (t - 15) (by omega)
          have c16 := hblk.cell (t - 16) (by omega)
          have c7 := hblk.cell (t - 7) (by omega)
          have c2 := hblk.cell (t - 2) (by omega)
          have c0 := hblk.cell t (by omega)
          rw [fillTo_getD] at c15 c16 c7 c2 c0
          have hf := hblk.frozen t
          have l15 := schedTo_lt m.data.toList (t - 16) (t - 15)
          have l16 := schedTo_lt m.data.toList (t - 16) (t - 16)
          have l7 := schedTo_lt m.data.toList (t - 16) (t - 7)
          have l2 := schedTo_lt m.data.toList (t - 16) (t - 2)
          have HN : Hid (nextW (schedTo m.data.toList (t - 16)) t = (sml1 ((schedTo m.data.toList (t - 16)).getD (t - 2) 0) + (schedTo m.data.toList (t - 16)).getD (t - 7) 0 + sml0 ((schedTo m.data.toList (t - 16)).getD (t - 15) 0) + (schedTo m.data.toList (t - 16)).getD (t - 16) 0) % 4294967296) := rfl
          have HB := hide hbr
          have HK := hide hblk
          clear hbr hblk hlen
          generalize (schedTo m.data.toList (t - 16)).getD (t - 15) 0 = x15 at *
          generalize (schedTo m.data.toList (t - 16)).getD (t - 16) 0 = x16 at *
          generalize (schedTo m.data.toList (t - 16)).getD (t - 7) 0 = x7 at *
          generalize (schedTo m.data.toList (t - 16)).getD (t - 2) 0 = x2 at *
          generalize (schedTo m.data.toList (t - 16)).getD t 0 = x0 at *
          go_wp2_with fail
          go_quiet ((go_at_call 104; exact Calls.quiet_of (turn_int _ _ (by assumption) (by omega) (by omega) _)))
          go_wp2_with fail
          have c2 : (wr.drewN nq).cell? ⟨w.heap.size, t - 2, none⟩ = _ := c2
          have c7 : (wr.drewN nq).cell? ⟨w.heap.size, t - 7, none⟩ = _ := c7
          have c16 : (wr.drewN nq).cell? ⟨w.heap.size, t - 16, none⟩ = _ := c16
          have c0 : (wr.drewN nq).cell? ⟨w.heap.size, t, none⟩ = _ := c0
          have hf : (wr.drewN nq).frozen? ⟨w.heap.size, t, none⟩ = _ := hf
          have HB := hide (belowN HB.out nq)
          have HK := hide (HK.out.drewN nq)
          generalize wr.drewN nq = w3 at *
          go_quiet ((go_at_call 104; exact Calls.quiet_of (turn_int _ _ (by assumption) (by omega) (by omega) _)))
          go_wp2_with fail
          have c7 : (w3.drewN nq).cell? ⟨w.heap.size, t - 7, none⟩ = _ := c7
          have c16 : (w3.drewN nq).cell? ⟨w.heap.size, t - 16, none⟩ = _ := c16
          have c0 : (w3.drewN nq).cell? ⟨w.heap.size, t, none⟩ = _ := c0
          have hf : (w3.drewN nq).frozen? ⟨w.heap.size, t, none⟩ = _ := hf
          have HB := hide (belowN HB.out nq)
          have HK := hide (HK.out.drewN nq)
          generalize w3.drewN nq = w4 at *
          rw [sml0_eq l15, sml1_eq l2]
          have s0 := sml0_lt l15
          have s1 := sml1_lt l2
          generalize sml0 x15 = y0 at *
          generalize sml1 x2 = y1 at *
          go_region
          go_wp2
          rw [show (y1 : Int) + (x7 : Int) + (y0 : Int) + (x16 : Int) = ((y1 + x7 + y0 + x16 : Nat) : Int) by omega, and_word _ (by omega), ← HN.out]
          refine ⟨⟨t + 1, by omega, by omega, by go_num, (HB.out.setCell (Nat.le_refl _) _).drew, ?_⟩, by simp [intOf]; omega⟩
          have h1 := HK.out.set t (nextW (schedTo m.data.toList (t - 16)) t)
          have h2 := fillTo_set (schedTo m.data.toList (t - 16)) 64 (nextW (schedTo m.data.toList (t - 16)) t) (by rw [schedTo_length]; omega)
          rw [schedTo_length, show 16 + (t - 16) = t by omega] at h2
          rw [h2] at h1
          rw [show t + 1 - 16 = (t - 16) + 1 by omega]
          have h3 : schedTo m.data.toList (t - 16 + 1) = schedTo m.data.toList (t - 16) ++ [nextW (schedTo m.data.toList (t - 16)) t] := by
            show _ ++ [nextW _ (16 + (t - 16))] = _
            rw [show 16 + (t - 16) = t by omega]
          rw [h3]
          exact h1
        · have h64 : t = 64 := by omega
          subst h64
          have HB := hide hbr
          have HK := hide hblk
          clear hbr hblk hlen
          go_wp2
          go_ret
          refine ⟨rfl, HB.out, ?_⟩
          have h1 := HK.out
          rw [fillTo_full _ _ (by rw [schedTo_length])] at h1
          exact h1
end Go.Proofs.YtgjdogkciklgkaaDoor
namespace Go.Proofs.YtgjdogkciklgkaaDoor
open Go.RowKit

set_option maxRecDepth 100000 in
set_option maxHeartbeats 1000000 in
theorem refRoots (w : World) :
    Calls Tryd.prog 103 #[] w fun e w' => e = .returned (.slice (some ⟨w.heap.size, 0, none⟩) 64 64) ∧ Bel w.heap.size w w' ∧ Blk w' w.heap.size 3 .i64 kTab := by
  go_enter Tryd.func103, Tryd.ntmps103
  go_wp2
  go_ret
  exact ⟨rfl, (Bel.refl _ _).alloc (Nat.le_refl _) _, Blk.new w 3 .i64 kTab⟩
end Go.Proofs.YtgjdogkciklgkaaDoor
namespace Go.Proofs.YtgjdogkciklgkaaDoor
open Go.RowKit

def z8 : List Nat := List.replicate 8 0
theorem mk8 (w : World) : (Instr.makeSlice 39 (.int .i64 8) (.int .i64 8)).run Tryd.prog w = .ok (.slice (some ⟨w.heap.size, 0, none⟩) 8 8) (w.alloc (.cells (rowK .i64 z8) 3)) := by kernel_rfl

theorem big0_eq {x : Nat} (hx : x < 4294967296) : bits .xor .i64 (bits .xor .i64 ((rotr 2 x : Nat) : Int) ((rotr 13 x : Nat) : Int)) ((rotr 22 x : Nat) : Int) = ((big0 x : Nat) : Int) := by
  have h1 := rotr_lt 2 x hx
  have h2 := rotr_lt 13 x hx
  have h4 := rotr_lt 22 x hx
  have h3 := xor32 h1 h2
  rw [i64_xor_nat _ _ (by omega) (by omega), i64_xor_nat _ _ (by omega) (by omega)]
  rfl
theorem big1_eq {x : Nat} (hx : x < 4294967296) : bits .xor .i64 (bits .xor .i64 ((rotr 6 x : Nat) : Int) ((rotr 11 x : Nat) : Int)) ((rotr 25 x : Nat) : Int) = ((big1 x : Nat) : Int) := by
  have h1 := rotr_lt 6 x hx
  have h2 := rotr_lt 11 x hx
  have h4 := rotr_lt 25 x hx
  have h3 := xor32 h1 h2
  rw [i64_xor_nat _ _ (by omega) (by omega), i64_xor_nat _ _ (by omega) (by omega)]
  rfl

/-- A row of eight, its places above j moved up by one. -/
def shl8 (l : List Nat) (j : Nat) : List Nat := (List.range 8).map fun x => if x ≤ j then l.getD x 0 else l.getD (x - 1) 0
theorem shl8_length (l : List Nat) (j : Nat) : (shl8 l j).length = 8 := by simp [shl8]
theorem shl8_getD (l : List Nat) (j x : Nat) (hx : x < 8) : (shl8 l j).getD x 0 = if x ≤ j then l.getD x 0 else l.getD (x - 1) 0 := by
  rw [getD_in _ _ (by rw [shl8_length]; exact hx)]
  simp [shl8]
theorem shl8_set (l : List Nat) (j : Nat) (h0 : 0 < j) (h : j < 8) : (shl8 l j).set j (l.getD (j - 1) 0) = shl8 l (j - 1) := by
  apply List.ext_getElem (by simp [shl8_length])
  intro n h1 h2
  have hn : n < 8 := by rw [shl8_length] at h2; exact h2
  rw [List.getElem_set]
  by_cases hnj : j = n
  · subst hnj
    rw [if_pos rfl]
    simp only [shl8, List.getElem_map, List.getElem_range]
    rw [if_neg (by omega)]
  · rw [if_neg hnj]
    simp only [shl8, List.getElem_map, List.getElem_range]
    by_cases hle : n ≤ j - 1
    · rw [if_pos (by omega), if_pos hle]
    · rw [if_neg (by omega), if_neg hle]
theorem shl8_start (a b c d e f g h : Nat) : shl8 [a, b, c, d, e, f, g, h] 7 = [a, b, c, d, e, f, g, h] := by simp [shl8, List.range, List.range.loop]
theorem shl8_end (a b c d e f g h : Nat) : shl8 [a, b, c, d, e, f, g, h] 0 = [a, a, b, c, d, e, f, g] := by simp [shl8, List.range, List.range.loop]

/-- THE COPY of the eight words. -/
def takeFill (l : List Nat) (k : Nat) : List Nat := fillTo (l.take k) 8
theorem takeFill_set (l : List Nat) (hl : l.length = 8) (k : Nat) (hk : k < 8) : (takeFill l k).set k (l.getD k 0) = takeFill l (k + 1) := by
  have e : (l.take k).length = k := by simp; omega
  have h := fillTo_set (l.take k) 8 (l.getD k 0) (by omega)
  rw [e] at h
  unfold takeFill
  rw [h, List.take_succ_eq_append_getElem (by omega), getD_in _ _ (by omega)]
theorem takeFill_full (l : List Nat) (hl : l.length = 8) : takeFill l 8 = l := by
  unfold takeFill
  rw [List.take_of_length_le (by omega), fillTo_full _ _ hl]

/-- THE SUM of two rows of eight, its first k places done. -/
def addTo (h l : List Nat) (k : Nat) : List Nat := (List.range 8).map fun x => if x < k then (h.getD x 0 + l.getD x 0) % 4294967296 else l.getD x 0
theorem addTo_length (h l : List Nat) (k : Nat) : (addTo h l k).length = 8 := by simp [addTo]
theorem addTo_getD (h l : List Nat) (k x : Nat) (hx : x < 8) : (addTo h l k).getD x 0 = if x < k then (h.getD x 0 + l.getD x 0) % 4294967296 else l.getD x 0 := by
  rw [getD_in _ _ (by rw [addTo_length]; exact hx)]
  simp [addTo]
theorem addTo_set (h l : List Nat) (k : Nat) (_hk : k < 8) : (addTo h l k).set k ((h.getD k 0 + l.getD k 0) % 4294967296) = addTo h l (k + 1) := by
  apply List.ext_getElem (by simp [addTo_length])
  intro n h1 h2
  rw [List.getElem_set]
  by_cases hnj : k = n
  · subst hnj
    rw [if_pos rfl]
    simp only [addTo, List.getElem_map, List.getElem_range]
    rw [if_pos (by omega)]
  · rw [if_neg hnj]
    simp only [addTo, List.getElem_map, List.getElem_range]
    by_cases hle : n < k
    · rw [if_pos hle, if_pos (by omega)]
    · rw [if_neg hle, if_neg (by omega)]
theorem addTo_start (s r : St) : addTo s.toList r.toList 0 = r.toList := by simp [addTo, List.range, List.range.loop, St.toList]
theorem addTo_end (s r : St) : addTo s.toList r.toList 8 = (addSt s r).toList := by simp [addTo, List.range, List.range.loop, St.toList, addSt]
set_option maxRecDepth 100000 in
set_option maxHeartbeats 2000000 in
theorem refBlock (hb : Nat) (s : St) (hs : s.ok) (m : ByteArray) (hm : m.size = 64) (w : World) (hblk : Blk w hb 3 .i64 s.toList) :
    Calls Tryd.prog 77 #[.slice (some ⟨hb, 0, none⟩) 8 8, .string m] w fun e w' => ∃ b, e = .returned (.slice (some ⟨b, 0, none⟩) 8 8) ∧ w.heap.size ≤ b ∧ Bel w.heap.size w w' ∧ Blk w' b 3 .i64 (comp s m.data.toList).toList := by
  have hmk := mk8
  have HS := hide hs
  have HM := hide hm
  have HK0 := hide hblk
  clear hs hm hblk
  go_enter Tryd.func77, Tryd.ntmps77
  go_wp2_with fail
  refine (refSched m HM.out w).mono ?_
  rintro e w1 ⟨rfl, hb1, hk1⟩
  have HB1 := hide hb1
  have HK1 := hide hk1
  clear hb1 hk1
  go_wp2_with fail
  refine (refRoots w1).mono ?_
  rintro e w2 ⟨rfl, hb2, hk2⟩
  have HB2 := hide hb2
  have HK2 := hide hk2
  clear hb2 hk2
  go_wp2_with fail
  have hB : Bel w.heap.size w (w2.alloc (.cells (rowK .i64 z8) 3)) := (HB1.out.trans (HB2.out.mono HB1.out.size)).alloc (Nat.le_trans HB1.out.size HB2.out.size) _
  have hKw : Blk (w2.alloc (.cells (rowK .i64 z8) 3)) w.heap.size 3 .i64 (schedTo m.data.toList 48) := (HK1.out.below HB2.out HK1.out.lt).alloc _
  have hKk : Blk (w2.alloc (.cells (rowK .i64 z8) 3)) w1.heap.size 3 .i64 kTab := HK2.out.alloc _
  have hKv : Blk (w2.alloc (.cells (rowK .i64 z8) 3)) w2.heap.size 3 .i64 (takeFill s.toList 0) := Blk.new w2 _ _ _
  have s01 : w.heap.size < w1.heap.size := HK1.out.lt
  have s12 : w1.heap.size < w2.heap.size := HK2.out.lt
  have shb : hb < w.heap.size := HK0.out.lt
  clear HB1 HB2 HK1 HK2 hmk
  generalize w2.alloc (.cells (rowK .i64 z8) 3) = w3 at *
  generalize hB1 : w1.heap.size = B1 at *
  generalize hB2 : w2.heap.size = B2 at *
  clear hB1 hB2
  have HB := hide hB
  have HW := hide hKw
  have HK := hide hKk
  have HV := hide hKv
  clear hB hKw hKk hKv
  go_loopw [8] (fun t wr => ∃ k : Nat, k ≤ 8 ∧ t = .int .i64 k ∧ Bel w.heap.size w wr ∧ Blk wr w.heap.size 3 .i64 (schedTo m.data.toList 48) ∧ Blk wr B1 3 .i64 kTab ∧ Blk wr B2 3 .i64 (takeFill s.toList k)) (fun t _ => 8 - (intOf t).toNat)
  case atStart => exact ⟨0, by omega, rfl, HB.out, HW.out, HK.out, HV.out⟩
  case round =>
    clear HB HW HK HV
    obtain ⟨k, hk, rfl, hB, hKw, hKk, hKv⟩ := hrel
    by_cases hlt : k < 8
    · have c1 := (HK0.out.below hB shb).cell k hlt
      have c2 := hKv.cell k (by unfold takeFill; rw [fillTo_length _ _ (by simp; omega)]; omega)
      have hf := hKv.frozen k
      have HB := hide hB
      have HW := hide hKw
      have HK := hide hKk
      have HV := hide hKv
      clear hB hKw hKk hKv
      have HT := hide (takeFill_set s.toList rfl k hlt)
      generalize s.toList.getD k 0 = x at *
      go_wp2
      refine ⟨⟨k + 1, by omega, by go_num, HB.out.setCell (by show w.heap.size ≤ B2; omega) _, HW.out.setOther _ _ (by show w.heap.size ≠ B2; omega), HK.out.setOther _ _ (by show B1 ≠ B2; omega), ?_⟩, by simp [intOf]; omega⟩
      have h1 := HV.out.set k x
      rw [HT.out] at h1
      exact h1
    · have h8 : k = 8 := by omega
      subst h8
      rw [takeFill_full _ rfl] at hKv
      have HB := hide hB
      have HW := hide hKw
      have HK := hide hKk
      have HV := hide hKv
      clear hB hKw hKk hKv
      go_wp2
      go_loopw [9] (fun t w4 => ∃ k : Nat, k ≤ 64 ∧ t = .int .i64 k ∧ Bel w.heap.size w w4 ∧ Blk w4 w.heap.size 3 .i64 (schedTo m.data.toList 48) ∧ Blk w4 B1 3 .i64 kTab ∧ Blk w4 B2 3 .i64 (rndTo s (schedTo m.data.toList 48) k).toList) (fun t _ => 64 - (intOf t).toNat)
      case atStart => exact ⟨0, by omega, rfl, HB.out, HW.out, HK.out, HV.out⟩
      case round =>
        clear HB HW HK HV hlt hk
        obtain ⟨t, ht, rfl, hB, hKw, hKk, hKv⟩ := hrel
        by_cases hlt : t < 64
        · obtain ⟨a0, a1, a2, a3, a4, a5, a6, a7⟩ := rndTo_ok HS.out (schedTo m.data.toList 48) t
          have HR : Hid (rndTo s (schedTo m.data.toList 48) (t + 1) = rnd (rndTo s (schedTo m.data.toList 48) t) (kTab.getD t 0) ((schedTo m.data.toList 48).getD t 0)) := rfl
          have kl := kTab_lt t
          have wl := schedTo_lt m.data.toList 48 t
          have cw := hKw.cell t (by rw [schedTo_length]; omega)
          have ck := hKk.cell t (by rw [kTab_length]; omega)
          generalize rndTo s (schedTo m.data.toList 48) t = r at *
          obtain ⟨ra, rb, rc, rd, re, rf, rg, rh⟩ := r
          simp only at a0 a1 a2 a3 a4 a5 a6 a7
          have c0 := hKv.cell 0 (by simp [St.toList])
          have c1 := hKv.cell 1 (by simp [St.toList])
          have c2 := hKv.cell 2 (by simp [St.toList])
          have c4 := hKv.cell 4 (by simp [St.toList])
          have c5 := hKv.cell 5 (by simp [St.toList])
          have c6 := hKv.cell 6 (by simp [St.toList])
          have c7 := hKv.cell 7 (by simp [St.toList])
          simp only [St.toList, List.getD_cons_zero, List.getD_cons_succ] at c0 c1 c2 c4 c5 c6 c7
          generalize kTab.getD t 0 = kt at *
          generalize (schedTo m.data.toList 48).getD t 0 = wt at *
          have HB := hide hB
          have HW := hide hKw
          have HK := hide hKk
          have HV := hide hKv
          clear hB hKw hKk hKv
          have b1 := big1_lt a4
          have b0 := big0_lt a0
          have hc := chf_lt (x := re) a5 a6
          have hj := majf_lt (x := ra) a1 a2
          go_wp2_with fail
          go_quiet ((go_at_call 104; exact Calls.quiet_of (turn_int _ _ (by assumption) (by omega) (by omega) _)))
          go_wp2_with fail
          rw [big1_eq a4]
          have c0 : (wr.drewN nq).cell? ⟨B2, 0, none⟩ = _ := c0
          have c1 : (wr.drewN nq).cell? ⟨B2, 1, none⟩ = _ := c1
          have c2 : (wr.drewN nq).cell? ⟨B2, 2, none⟩ = _ := c2
          have c4 : (wr.drewN nq).cell? ⟨B2, 4, none⟩ = _ := c4
          have c5 : (wr.drewN nq).cell? ⟨B2, 5, none⟩ = _ := c5
          have c6 : (wr.drewN nq).cell? ⟨B2, 6, none⟩ = _ := c6
          have c7 : (wr.drewN nq).cell? ⟨B2, 7, none⟩ = _ := c7
          have cw : (wr.drewN nq).cell? ⟨w.heap.size, t, none⟩ = _ := cw
          have ck : (wr.drewN nq).cell? ⟨B1, t, none⟩ = _ := ck
          have HB := hide (belowN HB.out nq)
          have HW := hide (HW.out.drewN nq)
          have HK := hide (HK.out.drewN nq)
          have HV := hide (HV.out.drewN nq)
          generalize wr.drewN nq = w5 at *
          go_quiet ((go_at_call 105; exact Calls.quiet_of_same (ch_any _ _ _ (by assumption) (by assumption) (by assumption) _)))
          go_wp2_with fail
          have c0 : (w5.drewN nq).cell? ⟨B2, 0, none⟩ = _ := c0
          have c1 : (w5.drewN nq).cell? ⟨B2, 1, none⟩ = _ := c1
          have c2 : (w5.drewN nq).cell? ⟨B2, 2, none⟩ = _ := c2
          have HB := hide (belowN HB.out nq)
          have HW := hide (HW.out.drewN nq)
          have HK := hide (HK.out.drewN nq)
          have HV := hide (HV.out.drewN nq)
          generalize w5.drewN nq = w6 at *
          rw [show (rh : Int) + (big1 re : Nat) + (chf re rf rg : Nat) + (kt : Int) + (wt : Int) = ((rh + big1 re + chf re rf rg + kt + wt : Nat) : Int) by omega]
          obtain ⟨t1, ht1⟩ : ∃ t1, rh + big1 re + chf re rf rg + kt + wt = t1 := ⟨_, rfl⟩
          have lt1 : t1 < 21474836480 := by omega
          rw [ht1]
          have HT1 := hide ht1
          clear ht1 ck cw c4 c5 c6 c7
          go_quiet ((go_at_call 104; exact Calls.quiet_of (turn_int _ _ (by assumption) (by omega) (by omega) _)))
          go_wp2_with fail
          rw [big0_eq a0]
          have c0 : (w6.drewN nq).cell? ⟨B2, 0, none⟩ = _ := c0
          have c1 : (w6.drewN nq).cell? ⟨B2, 1, none⟩ = _ := c1
          have c2 : (w6.drewN nq).cell? ⟨B2, 2, none⟩ = _ := c2
          have HB := hide (belowN HB.out nq)
          have HW := hide (HW.out.drewN nq)
          have HK := hide (HK.out.drewN nq)
          have HV := hide (HV.out.drewN nq)
          generalize w6.drewN nq = w7 at *
          go_quiet ((go_at_call 106; exact Calls.quiet_of_same (maj_any _ _ _ (by assumption) (by assumption) (by assumption) _)))
          go_wp2_with fail
          have HB := hide (belowN HB.out nq)
          have HW := hide (HW.out.drewN nq)
          have HK := hide (HK.out.drewN nq)
          have HV := hide (HV.out.drewN nq)
          generalize w7.drewN nq = w8 at *
          rw [show ((big0 ra : Nat) : Int) + (majf ra rb rc : Nat) = ((big0 ra + majf ra rb rc : Nat) : Int) by omega]
          obtain ⟨t2, ht2⟩ : ∃ t2, big0 ra + majf ra rb rc = t2 := ⟨_, rfl⟩
          have lt2 : t2 < 8589934592 := by omega
          rw [ht2]
          have HT2 := hide ht2
          clear ht2 c0 c1 c2 b0 b1 hc hj
          have HV0 := HV.out
          rw [St.toList, ← shl8_start] at HV0
          have HV := hide HV0
          clear HV0
          go_loopw [14] (fun q w9 => ∃ j : Nat, j ≤ 7 ∧ q = .int .i64 j ∧ Bel w.heap.size w w9 ∧ Blk w9 w.heap.size 3 .i64 (schedTo m.data.toList 48) ∧ Blk w9 B1 3 .i64 kTab ∧ Blk w9 B2 3 .i64 (shl8 [ra, rb, rc, rd, re, rf, rg, rh] j)) (fun q _ => (intOf q).toNat)
          case atStart => exact ⟨7, by omega, rfl, HB.out, HW.out, HK.out, HV.out⟩
          case round =>
            clear HB HW HK HV
            obtain ⟨j, hj, rfl, hB, hKw, hKk, hKv⟩ := hrel
            by_cases hj0 : 0 < j
            · have d1 := hKv.cell (j - 1) (by rw [shl8_length]; omega)
              have d2 := hKv.cell j (by rw [shl8_length]; omega)
              rw [shl8_getD _ _ _ (by omega), if_pos (by omega)] at d1
              have hf := hKv.frozen j
              have HT := hide (shl8_set [ra, rb, rc, rd, re, rf, rg, rh] j hj0 (by omega))
              have HB := hide hB
              have HW := hide hKw
              have HK := hide hKk
              have HV := hide hKv
              clear hB hKw hKk hKv
              generalize [ra, rb, rc, rd, re, rf, rg, rh].getD (j - 1) 0 = x at *
              generalize (shl8 [ra, rb, rc, rd, re, rf, rg, rh] j).getD j 0 = y at *
              go_wp2
              refine ⟨⟨j - 1, by omega, by go_num, HB.out.setCell (by show w.heap.size ≤ B2; omega) _, HW.out.setOther _ _ (by show w.heap.size ≠ B2; omega), HK.out.setOther _ _ (by show B1 ≠ B2; omega), ?_⟩, by simp [intOf]; omega⟩
              have h1 := HV.out.set j x
              rw [HT.out] at h1
              exact h1
            · have h0 : j = 0 := by omega
              subst h0
              rw [shl8_end] at hKv
              have c4 := hKv.cell 4 (by simp)
              have c0 := hKv.cell 0 (by simp)
              simp only [List.getD_cons_zero, List.getD_cons_succ] at c4 c0
              have f4 := hKv.frozen 4
              have f0 := hKv.frozen 0
              have HB := hide hB
              have HW := hide hKw
              have HK := hide hKk
              have HV := hide hKv
              clear hB hKw hKk hKv
              go_wp2
              rw [show (rd : Int) + (t1 : Int) = ((rd + t1 : Nat) : Int) by omega, and_word _ (by omega), show (t1 : Int) + (t2 : Int) = ((t1 + t2 : Nat) : Int) by omega, and_word _ (by omega)]
              refine ⟨⟨t + 1, by omega, by go_num, (HB.out.setCell (by show w.heap.size ≤ B2; omega) _).setCell (by show w.heap.size ≤ B2; omega) _, (HW.out.setOther _ _ (by show w.heap.size ≠ B2; omega)).setOther _ _ (by show w.heap.size ≠ B2; omega), (HK.out.setOther _ _ (by show B1 ≠ B2; omega)).setOther _ _ (by show B1 ≠ B2; omega), ?_⟩, by simp [intOf]; omega⟩
              have h1 := (HV.out.set 4 ((rd + t1) % 4294967296)).set 0 ((t1 + t2) % 4294967296)
              have e : (rnd ⟨ra, rb, rc, rd, re, rf, rg, rh⟩ kt wt).toList = [(t1 + t2) % 4294967296, ra, rb, rc, (rd + t1) % 4294967296, re, rf, rg] := by
                simp only [rnd, St.toList, HT1.out, HT2.out]
              rw [HR.out, e]
              exact h1
        · have h64 : t = 64 := by omega
          subst h64
          have hr := rndTo_ok HS.out (schedTo m.data.toList 48) 64
          have HC : Hid (comp s m.data.toList = addSt s (rndTo s (schedTo m.data.toList 48) 64)) := rfl
          generalize rndTo s (schedTo m.data.toList 48) 64 = r at *
          rw [← addTo_start s r] at hKv
          have HR := hide hr
          have HB := hide hB
          have HW := hide hKw
          have HK := hide hKk
          have HV := hide hKv
          clear hB hKw hKk hKv hr
          go_wp2
          go_loopw [15] (fun q w9 => ∃ j : Nat, j ≤ 8 ∧ q = .int .i64 j ∧ Bel w.heap.size w w9 ∧ Blk w9 B2 3 .i64 (addTo s.toList r.toList j)) (fun q _ => 8 - (intOf q).toNat)
          case atStart => exact ⟨0, by omega, rfl, HB.out, HV.out⟩
          case round =>
            clear HB HW HK HV
            obtain ⟨j, hj, rfl, hB, hKv⟩ := hrel
            by_cases hj8 : j < 8
            · have d1 := (HK0.out.below hB shb).cell j hj8
              have d2 := hKv.cell j (by rw [addTo_length]; omega)
              rw [addTo_getD _ _ _ _ hj8, if_neg (by omega)] at d2
              have hf := hKv.frozen j
              have HT := hide (addTo_set s.toList r.toList j hj8)
              have l1 := St.getD_lt HS.out j
              have l2 := St.getD_lt HR.out j
              have HB := hide hB
              have HV := hide hKv
              clear hB hKv
              generalize s.toList.getD j 0 = x at *
              generalize r.toList.getD j 0 = y at *
              go_wp2
              go_region
              go_wp2
              rw [show (y : Int) + (x : Int) = ((x + y : Nat) : Int) by omega, and_word _ (by omega)]
              refine ⟨⟨j + 1, by omega, by go_num, (HB.out.setCell (by show w.heap.size ≤ B2; omega) _).drew, ?_⟩, by simp [intOf]; omega⟩
              have h1 := HV.out.set j ((x + y) % 4294967296)
              rw [HT.out] at h1
              exact h1
            · have h8 : j = 8 := by omega
              subst h8
              have HB := hide hB
              have HV := hide hKv
              clear hB hKv
              go_wp2
              go_ret
              refine ⟨B2, rfl, by omega, HB.out, ?_⟩
              rw [HC.out, ← addTo_end]
              exact HV.out
end Go.Proofs.YtgjdogkciklgkaaDoor
namespace Go.Proofs.YtgjdogkciklgkaaDoor
open Go.RowKit

theorem byte_eq (n m : Nat) : UInt8.ofNat ((n : Int) / 2 ^ (8 * m) % 256).toNat = UInt8.ofNat (n / 256 ^ m) := by
  have e : (n : Int) / 2 ^ (8 * m) % 256 = ((n / 256 ^ m % 256 : Nat) : Int) := by
    have h : (256 : Nat) ^ m = 2 ^ (8 * m) := by rw [show (256 : Nat) = 2 ^ 8 from rfl, ← Nat.pow_mul]
    rw [h, Int.natCast_emod, Int.natCast_ediv, Int.natCast_pow]
    rfl
  rw [e, Int.toNat_natCast, ofNat_mod]

set_option maxRecDepth 100000 in
set_option maxHeartbeats 1000000 in
theorem refBig (n size : Nat) (hs : size ≤ 8) (w : World) :
    Calls Tryd.prog 76 #[.int .i64 n, .int .i64 size] w fun e w' => e = .returned (.string (str (bigB n size))) ∧ Bel w.heap.size w w' := by
  go_enter Tryd.func76, Tryd.ntmps76
  go_wp2
  go_loopw [5, 6] (fun v t wr => ∃ (m : Nat) (l : List UInt8), m ≤ size ∧ t = .int .i64 ((m : Int) - 1) ∧ v = .string (str l) ∧ l ++ bigB n m = bigB n size ∧ Bel w.heap.size w wr) (fun _ t _ => (intOf t + 1).toNat)
  case atStart => exact ⟨size, [], Nat.le_refl _, rfl, rfl, rfl, Bel.refl _ _⟩
  case round =>
    obtain ⟨m, l, hm, rfl, rfl, hl, hB⟩ := hrel
    have HL := hide hl
    have HB := hide hB
    clear hl hB
    cases m with
    | zero =>
      go_wp2
      go_ret
      refine ⟨?_, HB.out⟩
      have h := HL.out
      rw [bigB, List.append_nil] at h
      rw [← h]
      rfl
    | succ m =>
      rw [show ((m + 1 : Nat) : Int) - 1 = (m : Int) by omega]
      have hlen : l.length + (m + 1) = size := by
        have := congrArg List.length HL.out
        rw [List.length_append, bigB_length, bigB_length] at this
        exact this
      have hc := conv1 ((n : Int) / 2 ^ (8 * m) % 256) wr
      have ha := fun w => addS l [UInt8.ofNat ((n : Int) / 2 ^ (8 * m) % 256).toNat] (by simp; omega) w
      have HE : Hid (UInt8.ofNat ((n : Int) / 2 ^ (8 * m) % 256).toNat = UInt8.ofNat (n / 256 ^ m)) := byte_eq n m
      generalize UInt8.ofNat ((n : Int) / 2 ^ (8 * m) % 256).toNat = u at *
      go_wp2
      refine ⟨⟨m, l ++ [u], by omega, rfl, rfl, ?_, HB.out.alloc HB.out.size _⟩, by simp [intOf]⟩
      rw [HE.out, List.append_assoc]
      exact HL.out
theorem refBigI (n size : Int) (hn0 : 0 ≤ n) (hs0 : 0 ≤ size) (hs : size ≤ 8) (w : World) :
    Calls Tryd.prog 76 #[.int .i64 n, .int .i64 size] w fun e w' => e = .returned (.string (str (bigB n.toNat size.toNat))) ∧ Bel w.heap.size w w' := by
  obtain ⟨a, rfl⟩ := Int.eq_ofNat_of_zero_le hn0
  obtain ⟨b, rfl⟩ := Int.eq_ofNat_of_zero_le hs0
  exact refBig a b (by omega) w
end Go.Proofs.YtgjdogkciklgkaaDoor
namespace Go.Proofs.YtgjdogkciklgkaaDoor
open Go.RowKit

/-- The text with its mark and j zeros. -/
def padTo (l : List UInt8) (j : Nat) : List UInt8 := l ++ [128] ++ List.replicate j 0
theorem padTo_length (l : List UInt8) (j : Nat) : (padTo l j).length = l.length + 1 + j := by simp [padTo]; omega
theorem padTo_succ (l : List UInt8) (j : Nat) : padTo l j ++ [0] = padTo l (j + 1) := by
  unfold padTo
  rw [List.append_assoc, ← List.replicate_succ']
theorem padTo_all (l : List UInt8) : padTo l (zerosFor l.length) ++ bigB (8 * l.length) 8 = padded l := rfl
theorem zerosFor_mod (n : Nat) : (n + 1 + zerosFor n) % 64 = 56 := by unfold zerosFor; omega
theorem zerosFor_lt (n j : Nat) (h : j < zerosFor n) : (n + 1 + j) % 64 ≠ 56 := by unfold zerosFor at h; omega

set_option maxRecDepth 100000 in
set_option maxHeartbeats 2000000 in
theorem refHash (l : List UInt8) (hl : l.length ≤ 100000) (w : World) :
    Calls Tryd.prog 48 #[.string (str l)] w fun e w' => e = .returned (.string (str (sha l))) ∧ Bel w.heap.size w w' := by
  have hsz := str_size l
  have ha : ∀ w, (Op.stringOp .add (str l) ⟨#[128]⟩).run Tryd.prog w = .ok (.string (str (padTo l 0))) w := fun w => by
    rw [show padTo l 0 = l ++ [128] by simp [padTo]]
    exact addS l [128] (by simp; omega) w
  go_enter Tryd.func48, Tryd.ntmps48
  go_wp2
  clear ha
  go_loop [0] (fun v => ∃ j : Nat, j ≤ zerosFor l.length ∧ v = .string (str (padTo l j))) (fun v => l.length + 1 + zerosFor l.length - strLen v)
  case atStart => exact ⟨0, Nat.zero_le _, rfl⟩
  case round =>
    obtain ⟨j, hj, rfl⟩ := hrel
    have hz : zerosFor l.length < 64 := by unfold zerosFor; omega
    have hp : (str (padTo l j)).size = l.length + 1 + j := by rw [str_size, padTo_length]
    by_cases hlt : j < zerosFor l.length
    · have hne := zerosFor_lt l.length j hlt
      have hb : ((((l.length + 1 + j : Nat) : Int) % 64) != 56) = true := by rw [bne_iff_ne]; omega
      have ha : ∀ w, (Op.stringOp .add (str (padTo l j)) ⟨#[0]⟩).run Tryd.prog w = .ok (.string (str (padTo l (j + 1)))) w := fun w => by
        rw [← padTo_succ]
        exact addS (padTo l j) [0] (by rw [padTo_length]; simp; omega) w
      clear hne
      go_wp2
      refine ⟨⟨j + 1, by omega, rfl⟩, ?_⟩
      have hp' : (str (padTo l (j + 1))).size = l.length + 1 + (j + 1) := by rw [str_size, padTo_length]
      simp only [strLen, hp, hp']
      omega
    · have hj' : j = zerosFor l.length := by omega
      have hm := zerosFor_mod l.length
      rw [← hj'] at hm
      have hb : ((((l.length + 1 + j : Nat) : Int) % 64) != 56) = false := by simp only [bne_eq_false_iff_eq]; omega
      have HP : Hid (padTo l j ++ bigB (8 * l.length) 8 = padded l) := by rw [hj']; exact padTo_all l
      have hpl : (padded l).length = l.length + 1 + j + 8 := by rw [padded_length, hj']; omega
      have ha : ∀ w, (Op.stringOp .add (str (padTo l j)) (str (bigB (8 * l.length) 8))).run Tryd.prog w = .ok (.string (str (padded l))) w := fun w => by
        rw [← HP.out]
        exact addS (padTo l j) _ (by rw [padTo_length, bigB_length]; omega) w
      have HM := hide hm
      have HL := hide hpl
      clear hm hpl hj' hlt HP
      go_wp2_with fail
      refine (refBigI _ _ (by omega) (by omega) (by omega) _).mono ?_
      rintro e w1 ⟨rfl, hb1⟩
      have HB1 := hide hb1
      clear hb1
      rw [show (8 * (l.length : Int)).toNat = 8 * l.length by omega, show (8 : Int).toNat = 8 from rfl]
      go_wp2
      have hsz2 : (str (padded l)).size = (padded l).length := str_size _
      obtain ⟨nb, hnb⟩ : ∃ nb, (padded l).length = 64 * nb := ⟨(padded l).length / 64, by have := padded_mod l; omega⟩
      have hnb2 : nb ≤ 2000 := by have := HL.out; omega
      have HSH : Hid (sha l = outTo (compTo (padded l) nb) 8) := by
        show sha l = _
        rw [outTo_all, sha, hnb, Nat.mul_div_cancel_left nb (by decide)]
      rw [hnb] at hsz2
      have HN := hide hnb
      clear hnb ha hp hsz hb hz hj HM HL
      generalize padded l = p at *
      have hB : Bel w.heap.size w (w1.alloc (.cells (rowK .i64 iv.toList) 3)) := HB1.out.alloc HB1.out.size _
      have hK : Blk (w1.alloc (.cells (rowK .i64 iv.toList) 3)) w1.heap.size 3 .i64 iv.toList := Blk.new w1 _ _ _
      have hs1 : w.heap.size ≤ w1.heap.size := HB1.out.size
      have HB := hide hB
      have HK := hide hK
      clear hB hK HB1
      go_loopw [4, 5] (fun v t wr => ∃ k b : Nat, k ≤ nb ∧ t = .int .i64 (64 * (k : Int)) ∧ v = .slice (some ⟨b, 0, none⟩) 8 8 ∧ w.heap.size ≤ b ∧ Bel w.heap.size w wr ∧ Blk wr b 3 .i64 (compTo p k).toList) (fun _ t _ => 64 * nb - (intOf t).toNat)
      case atStart => exact ⟨0, w1.heap.size, Nat.zero_le _, rfl, rfl, hs1, HB.out, HK.out⟩
      case round =>
        clear HB HK
        obtain ⟨k, b, hk, rfl, rfl, hbb, hB, hK⟩ := hrel
        have HB := hide hB
        have HK := hide hK
        clear hB hK
        by_cases hkn : k < nb
        · have HS : Hid (comp (compTo p k) ((p.drop (64 * k)).take 64) = compTo p (k + 1)) := rfl
          have hmz : ((p.drop (64 * k)).take 64).length = 64 := by simp; have := HN.out; omega
          have HMZ := hide hmz
          clear hmz
          go_wp2_with fail
          rw [str_extract, show 64 * k + 64 - 64 * k = 64 by omega]
          generalize (p.drop (64 * k)).take 64 = q at *
          refine (refBlock b _ (compTo_ok p k) (str q) (by rw [str_size]; exact HMZ.out) wr HK.out).mono ?_
          rintro e w2 ⟨b2, rfl, hbb2, hB2, hK2⟩
          rw [str_data, HS.out] at hK2
          have HB2 := hide (HB.out.trans (hB2.mono HB.out.size))
          have HK2 := hide hK2
          have hs2 : w.heap.size ≤ b2 := Nat.le_trans HB.out.size hbb2
          clear hB2 hK2 hbb2
          go_wp2
          exact ⟨⟨k + 1, b2, by omega, by go_num, rfl, hs2, HB2.out, HK2.out⟩, by simp [intOf]; omega⟩
        · have hkn' : k = nb := by omega
          subst hkn'
          go_wp2
          have hok := compTo_ok p k
          generalize compTo p k = z at *
          go_loopw [6, 7] (fun v t wq => ∃ i : Nat, i ≤ 8 ∧ t = .int .i64 i ∧ v = .string (str (outTo z i)) ∧ Bel w.heap.size w wq ∧ Blk wq b 3 .i64 z.toList) (fun _ t _ => 8 - (intOf t).toNat)
          case atStart => exact ⟨0, Nat.zero_le _, rfl, rfl, HB.out, HK.out⟩
          case round =>
            clear HB HK
            obtain ⟨i, hi, rfl, rfl, hB, hK⟩ := hrel
            by_cases hi8 : i < 8
            · have c := hK.cell i hi8
              have HB := hide hB
              have HK := hide hK
              have HO := hide (outTo_succ z i hi8)
              have hol := outTo_length z i hi
              clear hB hK
              generalize z.toList.getD i 0 = x at *
              have ha : ∀ w, (Op.stringOp .add (str (outTo z i)) (str (bigB x 4))).run Tryd.prog w = .ok (.string (str (outTo z (i + 1)))) w := fun w => by
                rw [← HO.out]
                exact addS (outTo z i) _ (by rw [hol, bigB_length]; omega) w
              clear hol
              go_wp2_with fail
              refine (refBigI _ _ (by omega) (by omega) (by omega) _).mono ?_
              rintro e w3 ⟨rfl, hb3⟩
              rw [Int.toNat_natCast, show (4 : Int).toNat = 4 from rfl]
              have HB3 := hide (HB.out.trans (hb3.mono HB.out.size))
              have HK3 := hide (HK.out.below hb3 HK.out.lt)
              clear hb3
              go_wp2
              go_roundw
              case rel => exact ⟨i + 1, by omega, by go_num, rfl, HB3.out, HK3.out⟩
              case measure => simp [intOf]; omega
            · have h8 : i = 8 := by omega
              subst h8
              have HB := hide hB
              clear hB hK
              go_wp2
              go_ret
              refine ⟨?_, HB.out⟩
              rw [HSH.out]
              rfl
end Go.Proofs.YtgjdogkciklgkaaDoor
