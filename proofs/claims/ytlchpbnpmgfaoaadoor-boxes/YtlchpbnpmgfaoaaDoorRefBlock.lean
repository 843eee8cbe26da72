/-
  The document's block.
-/
import Derived.Test.YtlchpbnpmgfaoaaDoorRefSched
import Derived.Test.YtlchpbnpmgfaoaaDoorRefRoots
import Derived.Test.YtlchpbnpmgfaoaaDoorOut
namespace Go.Proofs.YtlchpbnpmgfaoaaDoor
open Go.RowKit

def z8 : List Nat := List.replicate 8 0
theorem mk8 (w : World) : (Instr.makeSlice 39 (.int .i64 8) (.int .i64 8)).run Tryd.prog w = .ok (.slice (some ⟨w.heap.size, 0, none⟩) 8 8) (w.alloc (.cells (rowK .i64 z8) 3)) := by kernel_rfl

theorem big0_eq {x : Nat} (hx : x < 4294967296) : bits .xor .i64 (bits .xor .i64 ((rotr 2 x : Nat) : Int) ((rotr 13 x : Nat) : Int)) ((rotr 22 x : Nat) : Int) = ((big0 x : Nat) : Int) := by
  have h1 := rotr_lt 2 x hx
  have h2 := rotr_lt 13 x hx
  have h4 := rotr_lt 22 x hx
  have h3 := xor32 h1 h2
  rw [i64_xor_nat _ _ (by omega) (by omega), i64_xor_nat _ _ (by omega) (by omega)]
  rfl
theorem big1_eq {x : Nat} (hx : x < 4294967296) : bits .xor .i64 (bits .xor .i64 ((rotr 6 x : Nat) : Int) ((rotr 11 x : Nat) : Int)) ((rotr 25 x : Nat) : Int) = ((big1 x : Nat) : Int) := by
  have h1 := rotr_lt 6 x hx
  have h2 := rotr_lt 11 x hx
  have h4 := rotr_lt 25 x hx
  have h3 := xor32 h1 h2
  rw [i64_xor_nat _ _ (by omega) (by omega), i64_xor_nat _ _ (by omega) (by omega)]
  rfl

/-- A row of eight, its places above j moved up by one. -/
def shl8 (l : List Nat) (j : Nat) : List Nat := (List.range 8).map fun x => if x ≤ j then l.getD x 0 else l.getD (x - 1) 0
theorem shl8_length (l : List Nat) (j : Nat) : (shl8 l j).length = 8 := by simp [shl8]
theorem shl8_getD (l : List Nat) (j x : Nat) (hx : x < 8) : (shl8 l j).getD x 0 = if x ≤ j then l.getD x 0 else l.getD (x - 1) 0 := by
  rw [getD_in _ _ (by rw [shl8_length]; exact hx)]
  simp [shl8]
theorem shl8_set (l : List Nat) (j : Nat) (h0 : 0 < j) (h : j < 8) : (shl8 l j).set j (l.getD (j - 1) 0) = shl8 l (j - 1) := by
  apply List.ext_getElem (by simp [shl8_length])
  intro n h1 h2
  have hn : n < 8 := by rw [shl8_length] at h2; exact h2
  rw [List.getElem_set]
  by_cases hnj : j = n
  · subst hnj
    rw [if_pos rfl]
    simp only [shl8, List.getElem_map, List.getElem_range]
    rw [if_neg (by omega)]
  · rw [if_neg hnj]
    simp only [shl8, List.getElem_map, List.getElem_range]
    by_cases hle : n ≤ j - 1
    · rw [if_pos (by omega), if_pos hle]
    · rw [if_neg (by omega), if_neg hle]
theorem shl8_start (a b c d e f g h : Nat) : shl8 [a, b, c, d, e, f, g, h] 7 = [a, b, c, d, e, f, g, h] := by simp [shl8, List.range, List.range.loop]
theorem shl8_end (a b c d e f g h : Nat) : shl8 [a, b, c, d, e, f, g, h] 0 = [a, a, b, c, d, e, f, g] := by simp [shl8, List.range, List.range.loop]

/-- THE COPY of the eight words. -/
def takeFill (l : List Nat) (k : Nat) : List Nat := fillTo (l.take k) 8
theorem takeFill_set (l : List Nat) (hl : l.length = 8) (k : Nat) (hk : k < 8) : (takeFill l k).set k (l.getD k 0) = takeFill l (k + 1) := by
  have e : (l.take k).length = k := by simp; omega
  have h := fillTo_set (l.take k) 8 (l.getD k 0) (by omega)
  rw [e] at h
  unfold takeFill
  rw [h, List.take_succ_eq_append_getElem (by omega), getD_in _ _ (by omega)]
theorem takeFill_full (l : List Nat) (hl : l.length = 8) : takeFill l 8 = l := by
  unfold takeFill
  rw [List.take_of_length_le (by omega), fillTo_full _ _ hl]

/-- THE SUM of two rows of eight, its first k places done. -/
def addTo (h l : List Nat) (k : Nat) : List Nat := (List.range 8).map fun x => if x < k then (h.getD x 0 + l.getD x 0) % 4294967296 else l.getD x 0
theorem addTo_length (h l : List Nat) (k : Nat) : (addTo h l k).length = 8 := by simp [addTo]
theorem addTo_getD (h l : List Nat) (k x : Nat) (hx : x < 8) : (addTo h l k).getD x 0 = if x < k then (h.getD x 0 + l.getD x 0) % 4294967296 else l.getD x 0 := by
  rw [getD_in _ _ (by rw [addTo_length]; exact hx)]
  simp [addTo]
theorem addTo_set (h l : List Nat) (k : Nat) (_hk : k < 8) : (addTo h l k).set k ((h.getD k 0 + l.getD k 0) % 4294967296) = addTo h l (k + 1) := by
  apply List.ext_getElem (by simp [addTo_length])
  intro n h1 h2
  rw [List.getElem_set]
  by_cases hnj : k = n
  · subst hnj
    rw [if_pos rfl]
    simp only [addTo, List.getElem_map, List.getElem_range]
    rw [if_pos (by omega)]
  · rw [if_neg hnj]
    simp only [addTo, List.getElem_map, List.getElem_range]
    by_cases hle : n < k
    · rw [if_pos hle, if_pos (by omega)]
    · rw [if_neg hle, if_neg (by omega)]
theorem addTo_start (s r : St) : addTo s.toList r.toList 0 = r.toList := by simp [addTo, List.range, List.range.loop, St.toList]
theorem addTo_end (s r : St) : addTo s.toList r.toList 8 = (addSt s r).toList := by simp [addTo, List.range, List.range.loop, St.toList, addSt]
set_option maxRecDepth 100000 in
set_option maxHeartbeats 2000000 in
theorem refBlock (hb : Nat) (s : St) (hs : s.ok) (m : ByteArray) (hm : m.size = 64) (w : World) (hblk : Blk w hb 3 .i64 s.toList) :
    Calls Tryd.prog 78 #[.slice (some ⟨hb, 0, none⟩) 8 8, .string m] w fun e w' => ∃ b, e = .returned (.slice (some ⟨b, 0, none⟩) 8 8) ∧ w.heap.size ≤ b ∧ Bel w.heap.size w w' ∧ Blk w' b 3 .i64 (comp s m.data.toList).toList := by
  have hmk := mk8
  have HS := hide hs
  have HM := hide hm
  have HK0 := hide hblk
  clear hs hm hblk
  go_enter Tryd.func78, Tryd.ntmps78
  go_wp2_with fail
  refine (refSched m HM.out w).mono ?_
  rintro e w1 ⟨rfl, hb1, hk1⟩
  have HB1 := hide hb1
  have HK1 := hide hk1
  clear hb1 hk1
  go_wp2_with fail
  refine (refRoots w1).mono ?_
  rintro e w2 ⟨rfl, hb2, hk2⟩
  have HB2 := hide hb2
  have HK2 := hide hk2
  clear hb2 hk2
  go_wp2_with fail
  have hB : Bel w.heap.size w (w2.alloc (.cells (rowK .i64 z8) 3)) := (HB1.out.trans (HB2.out.mono HB1.out.size)).alloc (Nat.le_trans HB1.out.size HB2.out.size) _
  have hKw : Blk (w2.alloc (.cells (rowK .i64 z8) 3)) w.heap.size 3 .i64 (schedTo m.data.toList 48) := (HK1.out.below HB2.out HK1.out.lt).alloc _
  have hKk : Blk (w2.alloc (.cells (rowK .i64 z8) 3)) w1.heap.size 3 .i64 kTab := HK2.out.alloc _
  have hKv : Blk (w2.alloc (.cells (rowK .i64 z8) 3)) w2.heap.size 3 .i64 (takeFill s.toList 0) := Blk.new w2 _ _ _
  have s01 : w.heap.size < w1.heap.size := HK1.out.lt
  have s12 : w1.heap.size < w2.heap.size := HK2.out.lt
  have shb : hb < w.heap.size := HK0.out.lt
  clear HB1 HB2 HK1 HK2 hmk
  generalize w2.alloc (.cells (rowK .i64 z8) 3) = w3 at *
  generalize hB1 : w1.heap.size = B1 at *
  generalize hB2 : w2.heap.size = B2 at *
  clear hB1 hB2
  have HB := hide hB
  have HW := hide hKw
  have HK := hide hKk
  have HV := hide hKv
  clear hB hKw hKk hKv
  go_loopw [8] (fun t wr => ∃ k : Nat, k ≤ 8 ∧ t = .int .i64 k ∧ Bel w.heap.size w wr ∧ Blk wr w.heap.size 3 .i64 (schedTo m.data.toList 48) ∧ Blk wr B1 3 .i64 kTab ∧ Blk wr B2 3 .i64 (takeFill s.toList k)) (fun t _ => 8 - (intOf t).toNat)
  case atStart => exact ⟨0, by omega, rfl, HB.out, HW.out, HK.out, HV.out⟩
  case round =>
    clear HB HW HK HV
    obtain ⟨k, hk, rfl, hB, hKw, hKk, hKv⟩ := hrel
    by_cases hlt : k < 8
    · have c1 := (HK0.out.below hB shb).cell k hlt
      have c2 := hKv.cell k (by unfold takeFill; rw [fillTo_length _ _ (by simp; omega)]; omega)
      have hf := hKv.frozen k
      have HB := hide hB
      have HW := hide hKw
      have HK := hide hKk
      have HV := hide hKv
      clear hB hKw hKk hKv
      have HT := hide (takeFill_set s.toList rfl k hlt)
      generalize s.toList.getD k 0 = x at *
      go_wp2
      refine ⟨⟨k + 1, by omega, by go_num, HB.out.setCell (by show w.heap.size ≤ B2; omega) _, HW.out.setOther _ _ (by show w.heap.size ≠ B2; omega), HK.out.setOther _ _ (by show B1 ≠ B2; omega), ?_⟩, by simp [intOf]; omega⟩
      have h1 := HV.out.set k x
      rw [HT.out] at h1
      exact h1
    · have h8 : k = 8 := by omega
      subst h8
      rw [takeFill_full _ rfl] at hKv
      have HB := hide hB
      have HW := hide hKw
      have HK := hide hKk
      have HV := hide hKv
      clear hB hKw hKk hKv
      go_wp2
      go_loopw [9] (fun t w4 => ∃ k : Nat, k ≤ 64 ∧ t = .int .i64 k ∧ Bel w.heap.size w w4 ∧ Blk w4 w.heap.size 3 .i64 (schedTo m.data.toList 48) ∧ Blk w4 B1 3 .i64 kTab ∧ Blk w4 B2 3 .i64 (rndTo s (schedTo m.data.toList 48) k).toList) (fun t _ => 64 - (intOf t).toNat)
      case atStart => exact ⟨0, by omega, rfl, HB.out, HW.out, HK.out, HV.out⟩
      case round =>
        clear HB HW HK HV hlt hk
        obtain ⟨t, ht, rfl, hB, hKw, hKk, hKv⟩ := hrel
        by_cases hlt : t < 64
        · obtain ⟨a0, a1, a2, a3, a4, a5, a6, a7⟩ := rndTo_ok HS.out (schedTo m.data.toList 48) t
          have HR : Hid (rndTo s (schedTo m.data.toList 48) (t + 1) = rnd (rndTo s (schedTo m.data.toList 48) t) (kTab.getD t 0) ((schedTo m.data.toList 48).getD t 0)) := rfl
          have kl := kTab_lt t
          have wl := schedTo_lt m.data.toList 48 t
          have cw := hKw.cell t (by rw [schedTo_length]; omega)
          have ck := hKk.cell t (by rw [kTab_length]; omega)
          generalize rndTo s (schedTo m.data.toList 48) t = r at *
          obtain ⟨ra, rb, rc, rd, re, rf, rg, rh⟩ := r
          simp only at a0 a1 a2 a3 a4 a5 a6 a7
          have c0 := hKv.cell 0 (by simp [St.toList])
          have c1 := hKv.cell 1 (by simp [St.toList])
          have c2 := hKv.cell 2 (by simp [St.toList])
          have c4 := hKv.cell 4 (by simp [St.toList])
          have c5 := hKv.cell 5 (by simp [St.toList])
          have c6 := hKv.cell 6 (by simp [St.toList])
          have c7 := hKv.cell 7 (by simp [St.toList])
          simp only [St.toList, List.getD_cons_zero, List.getD_cons_succ] at c0 c1 c2 c4 c5 c6 c7
          generalize kTab.getD t 0 = kt at *
          generalize (schedTo m.data.toList 48).getD t 0 = wt at *
          have HB := hide hB
          have HW := hide hKw
          have HK := hide hKk
          have HV := hide hKv
          clear hB hKw hKk hKv
          have b1 := big1_lt a4
          have b0 := big0_lt a0
          have hc := chf_lt (x := re) a5 a6
          have hj := majf_lt (x := ra) a1 a2
          go_wp2_with fail
          go_quiet ((go_at_call 104; exact Calls.quiet_of (turn_int _ _ (by assumption) (by omega) (by omega) _)))
          go_wp2_with fail
          rw [big1_eq a4]
          have c0 : (wr.drewN nq).cell? ⟨B2, 0, none⟩ = _ := c0
          have c1 : (wr.drewN nq).cell? ⟨B2, 1, none⟩ = _ := c1
          have c2 : (wr.drewN nq).cell? ⟨B2, 2, none⟩ = _ := c2
          have c4 : (wr.drewN nq).cell? ⟨B2, 4, none⟩ = _ := c4
          have c5 : (wr.drewN nq).cell? ⟨B2, 5, none⟩ = _ := c5
          have c6 : (wr.drewN nq).cell? ⟨B2, 6, none⟩ = _ := c6
          have c7 : (wr.drewN nq).cell? ⟨B2, 7, none⟩ = _ := c7
          have cw : (wr.drewN nq).cell? ⟨w.heap.size, t, none⟩ = _ := cw
          have ck : (wr.drewN nq).cell? ⟨B1, t, none⟩ = _ := ck
          have HB := hide (belowN HB.out nq)
          have HW := hide (HW.out.drewN nq)
          have HK := hide (HK.out.drewN nq)
          have HV := hide (HV.out.drewN nq)
          generalize wr.drewN nq = w5 at *
          go_quiet ((go_at_call 105; exact Calls.quiet_of_same (ch_any _ _ _ (by assumption) (by assumption) (by assumption) _)))
          go_wp2_with fail
          have c0 : (w5.drewN nq).cell? ⟨B2, 0, none⟩ = _ := c0
          have c1 : (w5.drewN nq).cell? ⟨B2, 1, none⟩ = _ := c1
          have c2 : (w5.drewN nq).cell? ⟨B2, 2, none⟩ = _ := c2
          have HB := hide (belowN HB.out nq)
          have HW := hide (HW.out.drewN nq)
          have HK := hide (HK.out.drewN nq)
          have HV := hide (HV.out.drewN nq)
          generalize w5.drewN nq = w6 at *
          rw [show (rh : Int) + (big1 re : Nat) + (chf re rf rg : Nat) + (kt : Int) + (wt : Int) = ((rh + big1 re + chf re rf rg + kt + wt : Nat) : Int) by omega]
          obtain ⟨t1, ht1⟩ : ∃ t1, rh + big1 re + chf re rf rg + kt + wt = t1 := ⟨_, rfl⟩
          have lt1 : t1 < 21474836480 := by omega
          rw [ht1]
          have HT1 := hide ht1
          clear ht1 ck cw c4 c5 c6 c7
          go_quiet ((go_at_call 104; exact Calls.quiet_of (turn_int _ _ (by assumption) (by omega) (by omega) _)))
          go_wp2_with fail
          rw [big0_eq a0]
          have c0 : (w6.drewN nq).cell? ⟨B2, 0, none⟩ = _ := c0
          have c1 : (w6.drewN nq).cell? ⟨B2, 1, none⟩ = _ := c1
          have c2 : (w6.drewN nq).cell? ⟨B2, 2, none⟩ = _ := c2
          have HB := hide (belowN HB.out nq)
          have HW := hide (HW.out.drewN nq)
          have HK := hide (HK.out.drewN nq)
          have HV := hide (HV.out.drewN nq)
          generalize w6.drewN nq = w7 at *
          go_quiet ((go_at_call 106; exact Calls.quiet_of_same (maj_any _ _ _ (by assumption) (by assumption) (by assumption) _)))
          go_wp2_with fail
          have HB := hide (belowN HB.out nq)
          have HW := hide (HW.out.drewN nq)
          have HK := hide (HK.out.drewN nq)
          have HV := hide (HV.out.drewN nq)
          generalize w7.drewN nq = w8 at *
          rw [show ((big0 ra : Nat) : Int) + (majf ra rb rc : Nat) = ((big0 ra + majf ra rb rc : Nat) : Int) by omega]
          obtain ⟨t2, ht2⟩ : ∃ t2, big0 ra + majf ra rb rc = t2 := ⟨_, rfl⟩
          have lt2 : t2 < 8589934592 := by omega
          rw [ht2]
          have HT2 := hide ht2
          clear ht2 c0 c1 c2 b0 b1 hc hj
          have HV0 := HV.out
          rw [St.toList, ← shl8_start] at HV0
          have HV := hide HV0
          clear HV0
          go_loopw [14] (fun q w9 => ∃ j : Nat, j ≤ 7 ∧ q = .int .i64 j ∧ Bel w.heap.size w w9 ∧ Blk w9 w.heap.size 3 .i64 (schedTo m.data.toList 48) ∧ Blk w9 B1 3 .i64 kTab ∧ Blk w9 B2 3 .i64 (shl8 [ra, rb, rc, rd, re, rf, rg, rh] j)) (fun q _ => (intOf q).toNat)
          case atStart => exact ⟨7, by omega, rfl, HB.out, HW.out, HK.out, HV.out⟩
          case round =>
            clear HB HW HK HV
            obtain ⟨j, hj, rfl, hB, hKw, hKk, hKv⟩ := hrel
            by_cases hj0 : 0 < j
            · have d1 := hKv.cell (j - 1) (by rw [shl8_length]; omega)
              have d2 := hKv.cell j (by rw [shl8_length]; omega)
              rw [shl8_getD _ _ _ (by omega), if_pos (by omega)] at d1
              have hf := hKv.frozen j
              have HT := hide (shl8_set [ra, rb, rc, rd, re, rf, rg, rh] j hj0 (by omega))
              have HB := hide hB
              have HW := hide hKw
              have HK := hide hKk
              have HV := hide hKv
              clear hB hKw hKk hKv
              generalize [ra, rb, rc, rd, re, rf, rg, rh].getD (j - 1) 0 = x at *
              generalize (shl8 [ra, rb, rc, rd, re, rf, rg, rh] j).getD j 0 = y at *
              go_wp2
              refine ⟨⟨j - 1, by omega, by go_num, HB.out.setCell (by show w.heap.size ≤ B2; omega) _, HW.out.setOther _ _ (by show w.heap.size ≠ B2; omega), HK.out.setOther _ _ (by show B1 ≠ B2; omega), ?_⟩, by simp [intOf]; omega⟩
              have h1 := HV.out.set j x
              rw [HT.out] at h1
              exact h1
            · have h0 : j = 0 := by omega
              subst h0
              rw [shl8_end] at hKv
              have c4 := hKv.cell 4 (by simp)
              have c0 := hKv.cell 0 (by simp)
              simp only [List.getD_cons_zero, List.getD_cons_succ] at c4 c0
              have f4 := hKv.frozen 4
              have f0 := hKv.frozen 0
              have HB := hide hB
              have HW := hide hKw
              have HK := hide hKk
              have HV := hide hKv
              clear hB hKw hKk hKv
              go_wp2
              rw [show (rd : Int) + (t1 : Int) = ((rd + t1 : Nat) : Int) by omega, and_word _ (by omega), show (t1 : Int) + (t2 : Int) = ((t1 + t2 : Nat) : Int) by omega, and_word _ (by omega)]
              refine ⟨⟨t + 1, by omega, by go_num, (HB.out.setCell (by show w.heap.size ≤ B2; omega) _).setCell (by show w.heap.size ≤ B2; omega) _, (HW.out.setOther _ _ (by show w.heap.size ≠ B2; omega)).setOther _ _ (by show w.heap.size ≠ B2; omega), (HK.out.setOther _ _ (by show B1 ≠ B2; omega)).setOther _ _ (by show B1 ≠ B2; omega), ?_⟩, by simp [intOf]; omega⟩
              have h1 := (HV.out.set 4 ((rd + t1) % 4294967296)).set 0 ((t1 + t2) % 4294967296)
              have e : (rnd ⟨ra, rb, rc, rd, re, rf, rg, rh⟩ kt wt).toList = [(t1 + t2) % 4294967296, ra, rb, rc, (rd + t1) % 4294967296, re, rf, rg] := by
                simp only [rnd, St.toList, HT1.out, HT2.out]
              rw [HR.out, e]
              exact h1
        · have h64 : t = 64 := by omega
          subst h64
          have hr := rndTo_ok HS.out (schedTo m.data.toList 48) 64
          have HC : Hid (comp s m.data.toList = addSt s (rndTo s (schedTo m.data.toList 48) 64)) := rfl
          generalize rndTo s (schedTo m.data.toList 48) 64 = r at *
          rw [← addTo_start s r] at hKv
          have HR := hide hr
          have HB := hide hB
          have HW := hide hKw
          have HK := hide hKk
          have HV := hide hKv
          clear hB hKw hKk hKv hr
          go_wp2
          go_loopw [15] (fun q w9 => ∃ j : Nat, j ≤ 8 ∧ q = .int .i64 j ∧ Bel w.heap.size w w9 ∧ Blk w9 B2 3 .i64 (addTo s.toList r.toList j)) (fun q _ => 8 - (intOf q).toNat)
          case atStart => exact ⟨0, by omega, rfl, HB.out, HV.out⟩
          case round =>
            clear HB HW HK HV
            obtain ⟨j, hj, rfl, hB, hKv⟩ := hrel
            by_cases hj8 : j < 8
            · have d1 := (HK0.out.below hB shb).cell j hj8
              have d2 := hKv.cell j (by rw [addTo_length]; omega)
              rw [addTo_getD _ _ _ _ hj8, if_neg (by omega)] at d2
              have hf := hKv.frozen j
              have HT := hide (addTo_set s.toList r.toList j hj8)
              have l1 := St.getD_lt HS.out j
              have l2 := St.getD_lt HR.out j
              have HB := hide hB
              have HV := hide hKv
              clear hB hKv
              generalize s.toList.getD j 0 = x at *
              generalize r.toList.getD j 0 = y at *
              go_wp2
              go_region
              go_wp2
              rw [show (y : Int) + (x : Int) = ((x + y : Nat) : Int) by omega, and_word _ (by omega)]
              refine ⟨⟨j + 1, by omega, by go_num, (HB.out.setCell (by show w.heap.size ≤ B2; omega) _).drew, ?_⟩, by simp [intOf]; omega⟩
              have h1 := HV.out.set j ((x + y) % 4294967296)
              rw [HT.out] at h1
              exact h1
            · have h8 : j = 8 := by omega
              subst h8
              have HB := hide hB
              have HV := hide hKv
              clear hB hKv
              go_wp2
              go_ret
              refine ⟨B2, rfl, by omega, HB.out, ?_⟩
              rw [HC.out, ← addTo_end]
              exact HV.out
end Go.Proofs.YtlchpbnpmgfaoaaDoor
