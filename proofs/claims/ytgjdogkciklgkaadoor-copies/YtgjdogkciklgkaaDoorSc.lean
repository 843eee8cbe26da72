/-
  The program's schedule.
-/
import Derived.Test.YtgjdogkciklgkaaDoorLow
import Derived.BigRegion
import Derived.Deep.RegionHeld3
namespace Go.Proofs.YtgjdogkciklgkaaDoor
open Go.RowKit

/-- Word t of which n bytes are in. -/
def partW (q : List UInt8) (t : Nat) : Nat → Nat
  | 0 => 0
  | n + 1 => partW q t n * 256 + byteAt q (4 * t + n)
theorem partW_four (q : List UInt8) (t : Nat) : partW q t 4 = wordAt q t := by
  simp only [partW, wordAt, Nat.add_zero]
  omega
theorem partW_lt (q : List UInt8) (t : Nat) : ∀ n, n ≤ 3 → partW q t n < 16777216
  | 0, _ => by simp [partW]
  | 1, _ => by have := byteAt_lt q (4 * t + 0); simp only [partW]; omega
  | 2, _ => by have := byteAt_lt q (4 * t + 0); have := byteAt_lt q (4 * t + 1); simp only [partW]; omega
  | 3, _ => by have := byteAt_lt q (4 * t + 0); have := byteAt_lt q (4 * t + 1); have := byteAt_lt q (4 * t + 2); simp only [partW]; omega
/-- The words when k bytes are in. -/
def packTo (q : List UInt8) (k : Nat) : List Nat := (List.range 64).map fun t => partW q t (min 4 (k - 4 * t))
theorem packTo_length (q : List UInt8) (k : Nat) : (packTo q k).length = 64 := by simp [packTo]
theorem packTo_getD (q : List UInt8) (k t : Nat) (h : t < 64) : (packTo q k).getD t 0 = partW q t (min 4 (k - 4 * t)) := by
  rw [getD_in _ _ (by rw [packTo_length]; exact h)]
  simp [packTo]
theorem packTo_set (q : List UInt8) (k : Nat) (_h : k < 64) : (packTo q k).set (k / 4) (partW q (k / 4) (k % 4) * 256 + byteAt q k) = packTo q (k + 1) := by
  apply List.ext_getElem (by simp [packTo_length])
  intro n h1 h2
  have hn : n < 64 := by rw [packTo_length] at h2; exact h2
  rw [List.getElem_set]
  by_cases e : k / 4 = n
  · rw [if_pos e]
    simp only [packTo, List.getElem_map, List.getElem_range]
    rw [← e, show min 4 (k + 1 - 4 * (k / 4)) = k % 4 + 1 by omega]
    show _ = partW q (k / 4) (k % 4) * 256 + byteAt q (4 * (k / 4) + k % 4)
    rw [show 4 * (k / 4) + k % 4 = k by omega]
  · rw [if_neg e]
    simp only [packTo, List.getElem_map, List.getElem_range]
    rw [show min 4 (k + 1 - 4 * n) = min 4 (k - 4 * n) by omega]
theorem packTo_zero (q : List UInt8) : packTo q 0 = List.replicate 64 0 := by
  apply List.ext_getElem (by simp [packTo_length])
  intro n h1 h2
  rw [List.getElem_replicate]
  simp [packTo, partW]
theorem packTo_end (q : List UInt8) : packTo q 64 = fillTo (schedTo q 0) 64 := by
  apply List.ext_getElem
  · rw [packTo_length, fillTo_length _ _ (by rw [schedTo_length]; omega)]
  · intro n h1 h2
    have hn : n < 64 := by rw [packTo_length] at h1; exact h1
    rw [← getD_in (packTo q 64) 0 h1, ← getD_in (fillTo (schedTo q 0) 64) 0 h2, packTo_getD _ _ _ hn, fillTo_getD]
    by_cases h16 : n < 16
    · rw [show min 4 (64 - 4 * n) = 4 by omega, partW_four, getD_in _ _ (by rw [schedTo_length]; omega)]
      simp [schedTo]
    · rw [show min 4 (64 - 4 * n) = 0 by omega, getD_out _ _ (by rw [schedTo_length]; omega)]
      rfl

theorem next_eq {x2 x7 x15 x16 : Nat} (h2 : x2 < 4294967296) (_h7 : x7 < 4294967296) (h15 : x15 < 4294967296) (_h16 : x16 < 4294967296) :
    ((((x16 : Int) + (x7 : Int)) % 4294967296 + bits .xor .u32 (bits .xor .u32 ((rotr 7 x15 : Nat) : Int) ((rotr 18 x15 : Nat) : Int)) ((x15 : Int) / 8)) % 4294967296 + bits .xor .u32 (bits .xor .u32 ((rotr 17 x2 : Nat) : Int) ((rotr 19 x2 : Nat) : Int)) ((x2 : Int) / 1024)) % 4294967296 = (((sml1 x2 + x7 + sml0 x15 + x16) % 4294967296 : Nat) : Int) := by
  have e0 : bits .xor .u32 (bits .xor .u32 ((rotr 7 x15 : Nat) : Int) ((rotr 18 x15 : Nat) : Int)) ((x15 : Int) / 8) = ((sml0 x15 : Nat) : Int) := by
    have h1 := rotr_lt 7 x15 h15
    have h3 := rotr_lt 18 x15 h15
    rw [show (x15 : Int) / 8 = ((x15 / 8 : Nat) : Int) by omega, u32_xor_nat _ _ h1 h3, u32_xor_nat _ _ (xor32 h1 h3) (by omega)]
    rfl
  have e1 : bits .xor .u32 (bits .xor .u32 ((rotr 17 x2 : Nat) : Int) ((rotr 19 x2 : Nat) : Int)) ((x2 : Int) / 1024) = ((sml1 x2 : Nat) : Int) := by
    have h1 := rotr_lt 17 x2 h2
    have h3 := rotr_lt 19 x2 h2
    rw [show (x2 : Int) / 1024 = ((x2 / 1024 : Nat) : Int) by omega, u32_xor_nat _ _ h1 h3, u32_xor_nat _ _ (xor32 h1 h3) (by omega)]
    rfl
  rw [e0, e1]
  omega

set_option maxRecDepth 100000 in
set_option maxHeartbeats 2000000 in
theorem schedP (pb po c : Nat) (q : List UInt8) (w : World) (hpb : pb < w.heap.size) (hq : ∀ i, i < 64 → w.cell? ⟨pb, po + i, none⟩ = some (.int .u8 (byteAt q i : Nat))) :
    Calls Tryd.prog 119 #[.slice (some ⟨pb, po, none⟩) 64 c] w fun e w' => e = .returned (.agg (rowK .u32 (schedTo q 48))) ∧ Bel w.heap.size w w' := by
  have HQ := hide hq
  clear hq
  go_enter Tryd.func119, Tryd.ntmps119
  go_wp2
  go_loopw [8] (fun t wr => ∃ k : Nat, k ≤ 64 ∧ t = .int .i64 k ∧ Bel w.heap.size w wr ∧ Blk wr w.heap.size 155 .u32 (List.replicate 64 0) ∧ Blk wr (w.heap.size + 1) 155 .u32 (packTo q k)) (fun t _ => 64 - (intOf t).toNat)
  case atStart => exact ⟨0, Nat.zero_le _, rfl, ((Bel.refl _ _).alloc (Nat.le_refl _) _).alloc (by simp) _, Blk.new2old w _ 155 .u32 (List.replicate 64 0), by rw [packTo_zero q]; exact Blk.new2 w _ 155 .u32 (List.replicate 64 0)⟩
  case round =>
    obtain ⟨k, hk, rfl, hB, hK0, hK⟩ := hrel
    by_cases hk64 : k < 64
    · have cq : wr.cell? ⟨pb, po + k, none⟩ = some (.int .u8 (byteAt q k : Nat)) := by rw [hB.cell (p := ⟨pb, po + k, none⟩) hpb]; exact HQ.out k hk64
      have cw := hK.cell (k / 4) (by rw [packTo_length]; omega)
      rw [packTo_getD _ _ _ (by omega), show min 4 (k - 4 * (k / 4)) = k % 4 by omega] at cw
      have hf := hK.frozen (k / 4)
      have lq := byteAt_lt q k
      have lw := partW_lt q (k / 4) (k % 4) (by omega)
      have HS := hide (packTo_set q k hk64)
      have HB := hide hB
      have HK0 := hide hK0
      have HK := hide hK
      clear hB hK0 hK
      generalize byteAt q k = x at *
      generalize partW q (k / 4) (k % 4) = y at *
      go_wp2
      go_region
      go_wp2
      have e : bits .or .u32 ((y : Int) * 256) (x : Int) = ((y * 256 + x : Nat) : Int) := by
        rw [show (y : Int) * 256 = ((y * 256 : Nat) : Int) by omega, u32_or_nat _ _ (by omega) (by omega), nat_join 8 (y * 256) x (by omega) (by omega)]
      rw [e]
      refine ⟨⟨k + 1, by omega, by go_num, (HB.out.setCell (by show w.heap.size ≤ w.heap.size + 1; omega) _).drew, HK0.out.setOther _ _ (by show w.heap.size ≠ w.heap.size + 1; omega), ?_⟩, by simp [intOf]; omega⟩
      have h1 := HK.out.set (k / 4) (y * 256 + x)
      rw [HS.out] at h1
      exact h1
    · have h64 : k = 64 := by omega
      subst h64
      rw [packTo_end] at hK
      have HB := hide hB
      have HK0 := hide hK0
      have HK := hide hK
      clear hB hK0 hK HQ
      rw [show ((64 : Nat) : Int) = 64 from rfl]
      go_wp2
      go_loopw [5] (fun t w2 => ∃ k : Nat, 16 ≤ k ∧ k ≤ 64 ∧ t = .int .i64 k ∧ Bel w.heap.size w w2 ∧ Blk w2 w.heap.size 155 .u32 (List.replicate 64 0) ∧ Blk w2 (w.heap.size + 1) 155 .u32 (fillTo (schedTo q (k - 16)) 64)) (fun t _ => 64 - (intOf t).toNat)
      case atStart => exact ⟨16, by omega, by omega, rfl, HB.out, HK0.out, HK.out⟩
      case round =>
        clear HB HK HK0 hk64 hk
        obtain ⟨t, ht16, ht64, rfl, hB, hK0, hK⟩ := hrel
        have hlen : (fillTo (schedTo q (t - 16)) 64).length = 64 := fillTo_length _ _ (by rw [schedTo_length]; omega)
        by_cases hlt : t < 64
        · have c15 := hK.cell (t - 15) (by omega)
          have c16 := hK.cell (t - 16) (by omega)
          have c7 := hK.cell (t - 7) (by omega)
          have c2 := hK.cell (t - 2) (by omega)
          have c0 := hK.cell t (by omega)
          rw [fillTo_getD] at c15 c16 c7 c2 c0
          have hf := hK.frozen t
          have l15 := schedTo_lt q (t - 16) (t - 15)
          have l16 := schedTo_lt q (t - 16) (t - 16)
          have l7 := schedTo_lt q (t - 16) (t - 7)
          have l2 := schedTo_lt q (t - 16) (t - 2)
          have HN : Hid (nextW (schedTo q (t - 16)) t = (sml1 ((schedTo q (t - 16)).getD (t - 2) 0) + (schedTo q (t - 16)).getD (t - 7) 0 + sml0 ((schedTo q (t - 16)).getD (t - 15) 0) + (schedTo q (t - 16)).getD (t - 16) 0) % 4294967296) := rfl
          have HB := hide hB
          have HK0 := hide hK0
          have HK := hide hK
          clear hB hK0 hK hlen
          generalize (schedTo q (t - 16)).getD (t - 15) 0 = x15 at *
          generalize (schedTo q (t - 16)).getD (t - 16) 0 = x16 at *
          generalize (schedTo q (t - 16)).getD (t - 7) 0 = x7 at *
          generalize (schedTo q (t - 16)).getD (t - 2) 0 = x2 at *
          generalize (schedTo q (t - 16)).getD t 0 = x0 at *
          go_wp2_with fail
          go_quiet (fail)
          go_wp2_with fail
          have c7 : (wr.drewN nq).cell? ⟨w.heap.size + 1, t - 7, none⟩ = _ := c7
          have c16 : (wr.drewN nq).cell? ⟨w.heap.size + 1, t - 16, none⟩ = _ := c16
          have c0 : (wr.drewN nq).cell? ⟨w.heap.size + 1, t, none⟩ = _ := c0
          have hf : (wr.drewN nq).frozen? ⟨w.heap.size + 1, t, none⟩ = _ := hf
          have HB := hide (belowN HB.out nq)
          have HK0 := hide (HK0.out.drewN nq)
          have HK := hide (HK.out.drewN nq)
          generalize wr.drewN nq = w4 at *
          obtain ⟨u16, hu16⟩ : ∃ u, t - 16 = u := ⟨_, rfl⟩
          obtain ⟨u7, hu7⟩ : ∃ u, t - 7 = u := ⟨_, rfl⟩
          have e16 : (t : Int) - 16 = (u16 : Int) := by omega
          have e7 : (t : Int) - 7 = (u7 : Int) := by omega
          have v16 : IntKind.i64.wrap (u16 : Int) = (u16 : Int) := wrap_i64_nat _ (by omega)
          have v7 : IntKind.i64.wrap (u7 : Int) = (u7 : Int) := wrap_i64_nat _ (by omega)
          have m16 : (u16 : Int) < 64 := by omega
          have m7 : (u7 : Int) < 64 := by omega
          have n16 : (0 : Int) ≤ (u16 : Int) := by omega
          have n7 : (0 : Int) ≤ (u7 : Int) := by omega
          have n0 : (0 : Int) ≤ (t : Int) := by omega
          have m0 : (t : Int) < 64 := by omega
          rw [hu16] at c16
          rw [hu7] at c7
          have k16 : ∀ v, (w4.setCell ⟨w.heap.size + 1, t, none⟩ v).cell? ⟨w.heap.size + 1, u16, none⟩ = some (.int .u32 (x16 : Int)) := fun v => by
            rw [World.cell?_setCell_other _ _ _ _ (by intro e; simp at e; try omega)]; exact c16
          have k7 : ∀ v, (w4.setCell ⟨w.heap.size + 1, t, none⟩ v).cell? ⟨w.heap.size + 1, u7, none⟩ = some (.int .u32 (x7 : Int)) := fun v => by
            rw [World.cell?_setCell_other _ _ _ _ (by intro e; simp at e; try omega)]; exact c7
          clear hu16 hu7
          go_region_held3 (fun w' => w'.cell? ⟨w.heap.size + 1, u16, none⟩ = some (.int .u32 (x16 : Int)) ∧ w'.cell? ⟨w.heap.size + 1, u7, none⟩ = some (.int .u32 (x7 : Int))) (go_keep)
            ((go_at_call 124; refine (right_int _ _ (by assumption) (by omega) (by omega) _).mono ?_; rintro e w' ⟨rfl, rfl⟩))
          all_goals go_wp2
          go_roundw
          case rel =>
            rw [next_eq l2 l7 l15 l16, ← HN.out]
            refine ⟨t + 1, by omega, by omega, by go_num, (HB.out.setCell (by show w.heap.size ≤ w.heap.size + 1; omega) _).drew, HK0.out.setOther _ _ (by show w.heap.size ≠ w.heap.size + 1; omega), ?_⟩
            have h1 := HK.out.set t (nextW (schedTo q (t - 16)) t)
            have h2 := fillTo_set (schedTo q (t - 16)) 64 (nextW (schedTo q (t - 16)) t) (by rw [schedTo_length]; omega)
            rw [schedTo_length, show 16 + (t - 16) = t by omega] at h2
            rw [h2] at h1
            rw [show t + 1 - 16 = (t - 16) + 1 by omega]
            have h3 : schedTo q (t - 16 + 1) = schedTo q (t - 16) ++ [nextW (schedTo q (t - 16)) t] := by
              show _ ++ [nextW _ (16 + (t - 16))] = _
              rw [show 16 + (t - 16) = t by omega]
            rw [h3]
            exact h1
          case measure => simp [intOf]; omega
        · have h64 : t = 64 := by omega
          subst h64
          have hK : Blk wr (w.heap.size + 1) 155 .u32 (schedTo q 48) := by
            have h1 := hK
            rw [fillTo_full _ _ (by rw [schedTo_length])] at h1
            exact h1
          have hi : (Tryd.prog.info? 155).map (·.size) = some (rowK .u32 (schedTo q 48)).size := by rw [rowK_size, schedTo_length]; kernel_rfl
          have HI := hide hi
          have HB := hide hB
          have HK0 := hide hK0
          have HK := hide hK
          clear hB hK0 hK hi hlen
          have hall := rowK_one .u32 (schedTo q 48)
          have hold : (rowK .u32 (List.replicate 64 0)).size = (rowK .u32 (schedTo q 48)).size := by rw [rowK_size, rowK_size, schedTo_length]; rfl
          have HA := hide hall
          have HO := hide hold
          clear hall hold
          generalize hrow : rowK .u32 (schedTo q 48) = row at *
          have HR := hide hrow
          clear hrow
          have HG : Hid (wr.heap[w.heap.size + 1]? = some (.cells row 155 (0, 0))) := by
            rw [← HR.out]; exact HK.out
          have HG0 : Hid (wr.heap[w.heap.size]? = some (.cells (rowK .u32 (List.replicate 64 0)) 155 (0, 0))) := HK0.out
          clear HK HK0
          generalize rowK .u32 (List.replicate 64 0) = row0 at *
          go_wp2_with (first | (refine wpList_load_row rfl 155 (.tmp 3) rfl (w.heap.size + 1) rfl 155 row (0, 0) _ HG.out Tryd.underlying155 rfl HI.out ?_) | (refine wpList_store_row rfl 155 (.tmp 2) (.tmp 67) rfl w.heap.size row rfl rfl 155 row0 HG0.out HI.out HO.out HA.out ?_))
          refine bodyPost_ret (v := .agg row) (results_cell_row Tryd.results119 _ _ w.heap.size 155 row (0, 0) _ rfl (setRow_heap _ _ _ _ _ _ HG0.out) Tryd.underlying155 rfl HI.out) rfl ⟨by rw [HR.out], belowRow HB.out (Nat.le_refl _) _⟩
end Go.Proofs.YtgjdogkciklgkaaDoor
namespace Go.Proofs.YtgjdogkciklgkaaDoor
open Go.RowKit

theorem ints8_one (a b c d e f g h : Int) : (#[.int .u32 a, .int .u32 b, .int .u32 c, .int .u32 d, .int .u32 e, .int .u32 f, .int .u32 g, .int .u32 h] : Array Value).all (·.oneCell') = true := by
  rw [Array.all_eq_true_iff_forall_mem]
  intro v hv
  simp only [List.mem_toArray, List.mem_cons, List.not_mem_nil, or_false] at hv
  rcases hv with rfl | rfl | rfl | rfl | rfl | rfl | rfl | rfl <;> rfl
theorem chU {x y z : Nat} (hx : x < 4294967296) (hy : y < 4294967296) (hz : z < 4294967296) :
    bits .xor .u32 (bits .and .u32 (x : Int) (y : Int)) (bits .and .u32 (bits .xor .u32 IntKind.u32.max (x : Int)) (z : Int)) = (chf x y z : Nat) := by
  have e0 : IntKind.u32.max = ((4294967295 : Nat) : Int) := by decide
  rw [e0, u32_xor_nat _ _ (by decide) hx, u32_and_nat _ _ hx hy, u32_and_nat _ _ (xor32 (by decide) hx) hz, u32_xor_nat _ _ (and32 hy) (and32 hz), Nat.xor_comm 4294967295 x]
  rfl
theorem majU {x y z : Nat} (hx : x < 4294967296) (hy : y < 4294967296) (hz : z < 4294967296) :
    bits .xor .u32 (bits .xor .u32 (bits .and .u32 (x : Int) (y : Int)) (bits .and .u32 (x : Int) (z : Int))) (bits .and .u32 (y : Int) (z : Int)) = (majf x y z : Nat) := by
  rw [u32_and_nat _ _ hx hy, u32_and_nat _ _ hx hz, u32_and_nat _ _ hy hz, u32_xor_nat _ _ (and32 hy) (and32 hz), u32_xor_nat _ _ (xor32 (and32 hy) (and32 hz)) (and32 hz)]
  rfl

set_option maxRecDepth 100000 in
set_option maxHeartbeats 2000000 in
theorem compP (s : St) (hs : s.ok) (pb po c : Nat) (q : List UInt8) (w : World) (hpb : pb < w.heap.size) (hq : ∀ i, i < 64 → w.cell? ⟨pb, po + i, none⟩ = some (.int .u8 (byteAt q i : Nat)))
    (hG : 7 < w.heap.size) (hT : ∀ t, t < 64 → w.cell? ⟨7, t, none⟩ = some (.int .u32 (kTab.getD t 0 : Nat))) :
    Calls Tryd.prog 100 #[.agg (rowK .u32 s.toList), .slice (some ⟨pb, po, none⟩) 64 c] w fun e w' => e = .returned (.agg (rowK .u32 (comp s q).toList)) ∧ Bel w.heap.size w w' := by
  have HQ := hide hq
  have HT := hide hT
  have HS := hide hs
  clear hq hT hs
  go_enter Tryd.func100, Tryd.ntmps100
  go_wp2_with fail
  have hB1 : Bel w.heap.size w ((w.alloc (.cells (rowK .u32 s.toList) 134)).alloc (.cells (rowK .u32 (List.replicate 8 0)) 134)) := ((Bel.refl _ _).alloc (Nat.le_refl _) _).alloc (by simp) _
  have hK1 : Blk ((w.alloc (.cells (rowK .u32 s.toList) 134)).alloc (.cells (rowK .u32 (List.replicate 8 0)) 134)) w.heap.size 134 .u32 s.toList := Blk.new2old w _ _ _ _
  have hK2 : Blk ((w.alloc (.cells (rowK .u32 s.toList) 134)).alloc (.cells (rowK .u32 (List.replicate 8 0)) 134)) (w.heap.size + 1) 134 .u32 (List.replicate 8 0) := Blk.new2 w _ _ _ _
  have e8 : rowK .u32 (List.replicate 8 0) = #[.int .u32 0, .int .u32 0, .int .u32 0, .int .u32 0, .int .u32 0, .int .u32 0, .int .u32 0, .int .u32 0] := rfl
  rw [e8] at hB1 hK1 hK2
  clear e8
  generalize (w.alloc (.cells (rowK .u32 s.toList) 134)).alloc (.cells #[.int .u32 0, .int .u32 0, .int .u32 0, .int .u32 0, .int .u32 0, .int .u32 0, .int .u32 0, .int .u32 0] 134) = w1 at *
  refine (schedP pb po c q w1 (Nat.lt_of_lt_of_le hpb hB1.size) (fun i hi => by rw [hB1.cell (p := ⟨pb, po + i, none⟩) hpb]; exact HQ.out i hi)).mono ?_
  rintro e w2 ⟨rfl, hb2⟩
  have HC : Hid (comp s q = addSt s (rndTo s (schedTo q 48) 64)) := rfl
  have hwl : (schedTo q 48).length = 64 := schedTo_length q 48
  have hwa : ∀ t, (schedTo q 48).getD t 0 < 4294967296 := fun t => schedTo_lt q 48 t
  generalize schedTo q 48 = ws at *
  have hB2 : Bel w.heap.size w w2 := hB1.trans (hb2.mono hB1.size)
  have hK1 := hK1.below hb2 hK1.lt
  have hK2 := hK2.below hb2 hK2.lt
  have hi : (Tryd.prog.info? 155).map (·.size) = some (rowK .u32 ws).size := by rw [rowK_size, hwl]; kernel_rfl
  have hall := rowK_one .u32 ws
  have hold : (rowK .u32 (List.replicate 64 0)).size = (rowK .u32 ws).size := by rw [rowK_size, rowK_size, hwl]; rfl
  have hnew : (w2.alloc (.cells (rowK .u32 (List.replicate 64 0)) 155)).heap[w2.heap.size]? = some (.cells (rowK .u32 (List.replicate 64 0)) 155 (0, 0)) := heap_alloc_new w2 _
  have HI := hide hi
  have HA := hide hall
  have HO := hide hold
  have HN := hide hnew
  have HB := hide hB2
  have H1 := hide hK1
  have H2 := hide hK2
  have HWL := hide hwl
  have HWA := hide hwa
  clear hi hall hold hnew hB2 hK1 hK2 hb2 hB1 hwl hwa HQ
  go_wp2_with (first | (refine wpList_storeB rfl 155 (.tmp 5) (.tmp 20) rfl rfl w2.heap.size (rowK .u32 ws) rfl rfl 155 (rowK .u32 (List.replicate 64 0)) HN.out HI.out HO.out HA.out ?_; intro w3 hb3 _ hk3))
  have hB3 : Bel w2.heap.size w2 w3 := ((Bel.refl _ _).alloc (Nat.le_refl _) _).trans hb3
  have hK1 := H1.out.below hB3 H1.out.lt
  have hK2 := H2.out.below hB3 H2.out.lt
  have hKw : Blk w3 w2.heap.size 155 .u32 ws := hk3
  have hB := HB.out.trans (hB3.mono HB.out.size)
  have hsz : w.heap.size + 1 < w2.heap.size := H2.out.lt
  clear hb3 hk3 HN HB H1 H2 HI HA HO hB3
  obtain ⟨sa, sb, sc, sd, se, sf, sg, sh⟩ := s
  have c0 := hK1.cell 0 (by simp [St.toList])
  have c1 := hK1.cell 1 (by simp [St.toList])
  have c2 := hK1.cell 2 (by simp [St.toList])
  have c3 := hK1.cell 3 (by simp [St.toList])
  have c4 := hK1.cell 4 (by simp [St.toList])
  have c5 := hK1.cell 5 (by simp [St.toList])
  have c6 := hK1.cell 6 (by simp [St.toList])
  have c7 := hK1.cell 7 (by simp [St.toList])
  simp only [St.toList, List.getD_cons_zero, List.getD_cons_succ] at c0 c1 c2 c3 c4 c5 c6 c7
  have HB := hide hB
  have H1 := hide hK1
  have H2 := hide hK2
  have HW := hide hKw
  clear hB hK1 hK2 hKw
  generalize w2.heap.size = B2 at *
  go_quiet (fail)
  go_wp2_with fail
  have c4 : (w3.drewN nq).cell? ⟨w.heap.size, 4, none⟩ = _ := c4
  have c5 : (w3.drewN nq).cell? ⟨w.heap.size, 5, none⟩ = _ := c5
  have c6 : (w3.drewN nq).cell? ⟨w.heap.size, 6, none⟩ = _ := c6
  have c7 : (w3.drewN nq).cell? ⟨w.heap.size, 7, none⟩ = _ := c7
  have HB := hide (belowN HB.out nq)
  have H1 := hide (H1.out.drewN nq)
  have H2 := hide (H2.out.drewN nq)
  have HW := hide (HW.out.drewN nq)
  clear c0 c1 c2 c3
  generalize w3.drewN nq = w4 at *
  go_quiet (fail)
  go_wp2
  have HB := hide (belowN HB.out nq)
  have H1 := hide (H1.out.drewN nq)
  have H2 := hide (H2.out.drewN nq)
  have HW := hide (HW.out.drewN nq)
  clear c4 c5 c6 c7
  generalize w4.drewN nq = w5 at *
  generalize hS : (⟨sa, sb, sc, sd, se, sf, sg, sh⟩ : St) = S at *
  have HSE := hide hS
  clear hS
  go_loopw [6, 7, 8, 9, 10, 11, 12, 13, 37] (fun va vb vc vd ve vf vg vh t wr => ∃ (k n : Nat), k ≤ 64 ∧ t = .int .i64 k ∧ wr = w5.drewN n ∧ va = .int .u32 ((rndTo S ws k).a : Nat) ∧ vb = .int .u32 ((rndTo S ws k).b : Nat) ∧ vc = .int .u32 ((rndTo S ws k).c : Nat) ∧ vd = .int .u32 ((rndTo S ws k).d : Nat) ∧ ve = .int .u32 ((rndTo S ws k).e : Nat) ∧ vf = .int .u32 ((rndTo S ws k).f : Nat) ∧ vg = .int .u32 ((rndTo S ws k).g : Nat) ∧ vh = .int .u32 ((rndTo S ws k).h : Nat)) (fun _ _ _ _ _ _ _ _ t _ => 64 - (intOf t).toNat)
  case atStart => exact ⟨0, 0, Nat.zero_le _, rfl, rfl, by rw [← HSE.out]; rfl, by rw [← HSE.out]; rfl, by rw [← HSE.out]; rfl, by rw [← HSE.out]; rfl, by rw [← HSE.out]; rfl, by rw [← HSE.out]; rfl, by rw [← HSE.out]; rfl, by rw [← HSE.out]; rfl⟩
  case round =>
    obtain ⟨k, n, hk, rfl, rfl, rfl, rfl, rfl, rfl, rfl, rfl, rfl, rfl⟩ := hrel
    by_cases hk64 : k < 64
    · obtain ⟨a0, a1, a2, a3, a4, a5, a6, a7⟩ := rndTo_ok HS.out ws k
      have HR : Hid (rndTo S ws (k + 1) = rnd (rndTo S ws k) (kTab.getD k 0) (ws.getD k 0)) := rfl
      have kl := kTab_lt k
      have wl := HWA.out k
      have cw : (w5.drewN n).cell? ⟨B2, k, none⟩ = _ := HW.out.cell k (by rw [HWL.out]; exact hk64)
      have ck : (w5.drewN n).cell? ⟨7, k, none⟩ = some (.int .u32 (kTab.getD k 0 : Nat)) := (HB.out.cell (p := ⟨7, k, none⟩) hG).trans (HT.out k hk64)
      generalize rndTo S ws k = r at *
      obtain ⟨ra, rb, rc, rd, re, rf, rg, rh⟩ := r
      simp only at a0 a1 a2 a3 a4 a5 a6 a7 ⊢
      generalize kTab.getD k 0 = kt at *
      generalize ws.getD k 0 = wt at *
      generalize hw6 : w5.drewN n = w6 at *
      have HW6 := hide hw6
      clear hw6
      go_wp2_with fail
      rw [chU a4 a5 a6, majU a0 a1 a2]
      have hb1 := big1_lt a4
      have hb0 := big0_lt a0
      have hc := chf_lt (x := re) a5 a6
      have hj := majf_lt (x := ra) a1 a2
      have HB1 : Hid (rotr 6 re ^^^ rotr 11 re ^^^ rotr 25 re = big1 re) := rfl
      have HB0 : Hid (rotr 2 ra ^^^ rotr 13 ra ^^^ rotr 22 ra = big0 ra) := rfl
      go_quiet ((go_at_call 120; exact Calls.quiet_of_same (turned_int _ _ _ _ (by assumption) (by omega) (by omega) (by omega) _)))
      go_wp2_with fail
      refine (turned_int _ _ _ _ a0 (by omega) (by omega) (by omega) _).mono ?_
      rintro e w7 ⟨rfl, rfl⟩
      go_wp2
      rw [HB1.out, HB0.out]
      refine ⟨⟨k + 1, n + nq, by omega, by go_num, by rw [← HW6.out, World.drewN_drewN], ?_, by rw [HR.out]; rfl, by rw [HR.out]; rfl, by rw [HR.out]; rfl, ?_, by rw [HR.out]; rfl, by rw [HR.out]; rfl, by rw [HR.out]; rfl⟩, by simp [intOf]; omega⟩
      · rw [HR.out]
        apply congrArg (Value.int .u32)
        show _ = (((rh + big1 re + chf re rf rg + kt + wt + (big0 ra + majf ra rb rc)) % 4294967296 : Nat) : Int)
        omega
      · rw [HR.out]
        apply congrArg (Value.int .u32)
        show _ = (((rd + (rh + big1 re + chf re rf rg + kt + wt)) % 4294967296 : Nat) : Int)
        omega
    · have h64 : k = 64 := by omega
      subst h64
      generalize rndTo S ws 64 = r at *
      obtain ⟨ra, rb, rc, rd, re, rf, rg, rh⟩ := r
      obtain ⟨sa', sb', sc', sd', se', sf', sg', sh'⟩ := S
      have c0 : (w5.drewN n).cell? ⟨w.heap.size, 0, none⟩ = _ := H1.out.cell 0 (by simp [St.toList])
      have c1 : (w5.drewN n).cell? ⟨w.heap.size, 1, none⟩ = _ := H1.out.cell 1 (by simp [St.toList])
      have c2 : (w5.drewN n).cell? ⟨w.heap.size, 2, none⟩ = _ := H1.out.cell 2 (by simp [St.toList])
      have c3 : (w5.drewN n).cell? ⟨w.heap.size, 3, none⟩ = _ := H1.out.cell 3 (by simp [St.toList])
      have c4 : (w5.drewN n).cell? ⟨w.heap.size, 4, none⟩ = _ := H1.out.cell 4 (by simp [St.toList])
      have c5 : (w5.drewN n).cell? ⟨w.heap.size, 5, none⟩ = _ := H1.out.cell 5 (by simp [St.toList])
      have c6 : (w5.drewN n).cell? ⟨w.heap.size, 6, none⟩ = _ := H1.out.cell 6 (by simp [St.toList])
      have c7 : (w5.drewN n).cell? ⟨w.heap.size, 7, none⟩ = _ := H1.out.cell 7 (by simp [St.toList])
      simp only [St.toList, List.getD_cons_zero, List.getD_cons_succ] at c0 c1 c2 c3 c4 c5 c6 c7
      have HB := hide (belowN HB.out n)
      have H2 := hide (H2.out.drewN n)
      clear H1 HW
      generalize w5.drewN n = w6 at *
      have hi8 : (Tryd.prog.info? 134).map (·.size) = some 8 := by kernel_rfl
      have HI := hide hi8
      clear hi8
      have HG2 : Hid (w6.heap[w.heap.size + 1]? = some (.cells (rowK .u32 (List.replicate 8 0)) 134 (0, 0))) := H2.out
      go_wp2_with (first | (refine wpList_storeB rfl 134 (.tmp 4) (.tmp 122) rfl rfl (w.heap.size + 1) #[.int .u32 (((sa' : Int) + (ra : Int)) % 4294967296), .int .u32 (((sb' : Int) + (rb : Int)) % 4294967296), .int .u32 (((sc' : Int) + (rc : Int)) % 4294967296), .int .u32 (((sd' : Int) + (rd : Int)) % 4294967296), .int .u32 (((se' : Int) + (re : Int)) % 4294967296), .int .u32 (((sf' : Int) + (rf : Int)) % 4294967296), .int .u32 (((sg' : Int) + (rg : Int)) % 4294967296), .int .u32 (((sh' : Int) + (rh : Int)) % 4294967296)] rfl rfl 134 (rowK .u32 (List.replicate 8 0)) HG2.out HI.out rfl (ints8_one _ _ _ _ _ _ _ _) ?_; intro w8 hb8 _ hk8))
      refine bodyPost_ret (v := .agg #[.int .u32 (((sa' : Int) + (ra : Int)) % 4294967296), .int .u32 (((sb' : Int) + (rb : Int)) % 4294967296), .int .u32 (((sc' : Int) + (rc : Int)) % 4294967296), .int .u32 (((sd' : Int) + (rd : Int)) % 4294967296), .int .u32 (((se' : Int) + (re : Int)) % 4294967296), .int .u32 (((sf' : Int) + (rf : Int)) % 4294967296), .int .u32 (((sg' : Int) + (rg : Int)) % 4294967296), .int .u32 (((sh' : Int) + (rh : Int)) % 4294967296)]) (results_cell_row Tryd.results100 _ _ (w.heap.size + 1) 134 _ (0, 0) _ rfl hk8 Tryd.underlying134 rfl HI.out) rfl ⟨?_, HB.out.trans (hb8.mono (by omega))⟩
      rw [HSE.out, HC.out]
      simp only [addSt, St.toList, rowK, List.map_cons, List.map_nil, Int.natCast_emod, Int.natCast_add]
      rfl
end Go.Proofs.YtgjdogkciklgkaaDoor
