/-
  The program's compress.
-/
import Derived.Test.YtlchpbnpmgfaoaaDoorSched
namespace Go.Proofs.YtlchpbnpmgfaoaaDoor
open Go.RowKit

theorem ints8_one (a b c d e f g h : Int) : (#[.int .u32 a, .int .u32 b, .int .u32 c, .int .u32 d, .int .u32 e, .int .u32 f, .int .u32 g, .int .u32 h] : Array Value).all (·.oneCell') = true := by
  rw [Array.all_eq_true_iff_forall_mem]
  intro v hv
  simp only [List.mem_toArray, List.mem_cons, List.not_mem_nil, or_false] at hv
  rcases hv with rfl | rfl | rfl | rfl | rfl | rfl | rfl | rfl <;> rfl
theorem chU {x y z : Nat} (hx : x < 4294967296) (hy : y < 4294967296) (hz : z < 4294967296) :
    bits .xor .u32 (bits .and .u32 (x : Int) (y : Int)) (bits .and .u32 (bits .xor .u32 IntKind.u32.max (x : Int)) (z : Int)) = (chf x y z : Nat) := by
  have e0 : IntKind.u32.max = ((4294967295 : Nat) : Int) := by decide
  rw [e0, u32_xor_nat _ _ (by decide) hx, u32_and_nat _ _ hx hy, u32_and_nat _ _ (xor32 (by decide) hx) hz, u32_xor_nat _ _ (and32 hy) (and32 hz), Nat.xor_comm 4294967295 x]
  rfl
theorem majU {x y z : Nat} (hx : x < 4294967296) (hy : y < 4294967296) (hz : z < 4294967296) :
    bits .xor .u32 (bits .xor .u32 (bits .and .u32 (x : Int) (y : Int)) (bits .and .u32 (x : Int) (z : Int))) (bits .and .u32 (y : Int) (z : Int)) = (majf x y z : Nat) := by
  rw [u32_and_nat _ _ hx hy, u32_and_nat _ _ hx hz, u32_and_nat _ _ hy hz, u32_xor_nat _ _ (and32 hy) (and32 hz), u32_xor_nat _ _ (xor32 (and32 hy) (and32 hz)) (and32 hz)]
  rfl

set_option maxRecDepth 100000 in
set_option maxHeartbeats 2000000 in
theorem compP (s : St) (hs : s.ok) (pb po c : Nat) (q : List UInt8) (w : World) (hpb : pb < w.heap.size) (hq : ∀ i, i < 64 → w.cell? ⟨pb, po + i, none⟩ = some (.int .u8 (byteAt q i : Nat)))
    (hG : 7 < w.heap.size) (hT : ∀ t, t < 64 → w.cell? ⟨7, t, none⟩ = some (.int .u32 (kTab.getD t 0 : Nat))) :
    Calls Tryd.prog 100 #[.agg (rowK .u32 s.toList), .slice (some ⟨pb, po, none⟩) 64 c] w fun e w' => e = .returned (.agg (rowK .u32 (comp s q).toList)) ∧ Bel w.heap.size w w' := by
  have HQ := hide hq
  have HT := hide hT
  have HS := hide hs
  clear hq hT hs
  go_enter Tryd.func100, Tryd.ntmps100
  go_wp2_with fail
  have hB1 : Bel w.heap.size w ((w.alloc (.cells (rowK .u32 s.toList) 133)).alloc (.cells (rowK .u32 (List.replicate 8 0)) 133)) := ((Bel.refl _ _).alloc (Nat.le_refl _) _).alloc (by simp) _
  have hK1 : Blk ((w.alloc (.cells (rowK .u32 s.toList) 133)).alloc (.cells (rowK .u32 (List.replicate 8 0)) 133)) w.heap.size 133 .u32 s.toList := Blk.new2old w _ _ _ _
  have hK2 : Blk ((w.alloc (.cells (rowK .u32 s.toList) 133)).alloc (.cells (rowK .u32 (List.replicate 8 0)) 133)) (w.heap.size + 1) 133 .u32 (List.replicate 8 0) := Blk.new2 w _ _ _ _
  have e8 : rowK .u32 (List.replicate 8 0) = #[.int .u32 0, .int .u32 0, .int .u32 0, .int .u32 0, .int .u32 0, .int .u32 0, .int .u32 0, .int .u32 0] := rfl
  rw [e8] at hB1 hK1 hK2
  clear e8
  generalize (w.alloc (.cells (rowK .u32 s.toList) 133)).alloc (.cells #[.int .u32 0, .int .u32 0, .int .u32 0, .int .u32 0, .int .u32 0, .int .u32 0, .int .u32 0, .int .u32 0] 133) = w1 at *
  refine (schedP pb po c q w1 (Nat.lt_of_lt_of_le hpb hB1.size) (fun i hi => by rw [hB1.cell (p := ⟨pb, po + i, none⟩) hpb]; exact HQ.out i hi)).mono ?_
  rintro e w2 ⟨rfl, hb2⟩
  have HC : Hid (comp s q = addSt s (rndTo s (schedTo q 48) 64)) := rfl
  have hwl : (schedTo q 48).length = 64 := schedTo_length q 48
  have hwa : ∀ t, (schedTo q 48).getD t 0 < 4294967296 := fun t => schedTo_lt q 48 t
  generalize schedTo q 48 = ws at *
  have hB2 : Bel w.heap.size w w2 := hB1.trans (hb2.mono hB1.size)
  have hK1 := hK1.below hb2 hK1.lt
  have hK2 := hK2.below hb2 hK2.lt
  have hi : (Tryd.prog.info? 155).map (·.size) = some (rowK .u32 ws).size := by rw [rowK_size, hwl]; kernel_rfl
  have hall := rowK_one .u32 ws
  have hold : (rowK .u32 (List.replicate 64 0)).size = (rowK .u32 ws).size := by rw [rowK_size, rowK_size, hwl]; rfl
  have hnew : (w2.alloc (.cells (rowK .u32 (List.replicate 64 0)) 155)).heap[w2.heap.size]? = some (.cells (rowK .u32 (List.replicate 64 0)) 155 (0, 0)) := heap_alloc_new w2 _
  have HI := hide hi
  have HA := hide hall
  have HO := hide hold
  have HN := hide hnew
  have HB := hide hB2
  have H1 := hide hK1
  have H2 := hide hK2
  have HWL := hide hwl
  have HWA := hide hwa
  clear hi hall hold hnew hB2 hK1 hK2 hb2 hB1 hwl hwa HQ
  go_wp2_with (first | (refine wpList_storeB rfl 155 (.tmp 5) (.tmp 20) rfl rfl w2.heap.size (rowK .u32 ws) rfl rfl 155 (rowK .u32 (List.replicate 64 0)) HN.out HI.out HO.out HA.out ?_; intro w3 hb3 _ hk3))
  have hB3 : Bel w2.heap.size w2 w3 := ((Bel.refl _ _).alloc (Nat.le_refl _) _).trans hb3
  have hK1 := H1.out.below hB3 H1.out.lt
  have hK2 := H2.out.below hB3 H2.out.lt
  have hKw : Blk w3 w2.heap.size 155 .u32 ws := hk3
  have hB := HB.out.trans (hB3.mono HB.out.size)
  have hsz : w.heap.size + 1 < w2.heap.size := H2.out.lt
  clear hb3 hk3 HN HB H1 H2 HI HA HO hB3
  obtain ⟨sa, sb, sc, sd, se, sf, sg, sh⟩ := s
  have c0 := hK1.cell 0 (by simp [St.toList])
  have c1 := hK1.cell 1 (by simp [St.toList])
  have c2 := hK1.cell 2 (by simp [St.toList])
  have c3 := hK1.cell 3 (by simp [St.toList])
  have c4 := hK1.cell 4 (by simp [St.toList])
  have c5 := hK1.cell 5 (by simp [St.toList])
  have c6 := hK1.cell 6 (by simp [St.toList])
  have c7 := hK1.cell 7 (by simp [St.toList])
  simp only [St.toList, List.getD_cons_zero, List.getD_cons_succ] at c0 c1 c2 c3 c4 c5 c6 c7
  have HB := hide hB
  have H1 := hide hK1
  have H2 := hide hK2
  have HW := hide hKw
  clear hB hK1 hK2 hKw
  generalize w2.heap.size = B2 at *
  go_quiet (fail)
  go_wp2_with fail
  have c4 : (w3.drewN nq).cell? ⟨w.heap.size, 4, none⟩ = _ := c4
  have c5 : (w3.drewN nq).cell? ⟨w.heap.size, 5, none⟩ = _ := c5
  have c6 : (w3.drewN nq).cell? ⟨w.heap.size, 6, none⟩ = _ := c6
  have c7 : (w3.drewN nq).cell? ⟨w.heap.size, 7, none⟩ = _ := c7
  have HB := hide (belowN HB.out nq)
  have H1 := hide (H1.out.drewN nq)
  have H2 := hide (H2.out.drewN nq)
  have HW := hide (HW.out.drewN nq)
  clear c0 c1 c2 c3
  generalize w3.drewN nq = w4 at *
  go_quiet (fail)
  go_wp2
  have HB := hide (belowN HB.out nq)
  have H1 := hide (H1.out.drewN nq)
  have H2 := hide (H2.out.drewN nq)
  have HW := hide (HW.out.drewN nq)
  clear c4 c5 c6 c7
  generalize w4.drewN nq = w5 at *
  generalize hS : (⟨sa, sb, sc, sd, se, sf, sg, sh⟩ : St) = S at *
  have HSE := hide hS
  clear hS
  go_loopw [6, 7, 8, 9, 10, 11, 12, 13, 37] (fun va vb vc vd ve vf vg vh t wr => ∃ (k n : Nat), k ≤ 64 ∧ t = .int .i64 k ∧ wr = w5.drewN n ∧ va = .int .u32 ((rndTo S ws k).a : Nat) ∧ vb = .int .u32 ((rndTo S ws k).b : Nat) ∧ vc = .int .u32 ((rndTo S ws k).c : Nat) ∧ vd = .int .u32 ((rndTo S ws k).d : Nat) ∧ ve = .int .u32 ((rndTo S ws k).e : Nat) ∧ vf = .int .u32 ((rndTo S ws k).f : Nat) ∧ vg = .int .u32 ((rndTo S ws k).g : Nat) ∧ vh = .int .u32 ((rndTo S ws k).h : Nat)) (fun _ _ _ _ _ _ _ _ t _ => 64 - (intOf t).toNat)
  case atStart => exact ⟨0, 0, Nat.zero_le _, rfl, rfl, by rw [← HSE.out]; rfl, by rw [← HSE.out]; rfl, by rw [← HSE.out]; rfl, by rw [← HSE.out]; rfl, by rw [← HSE.out]; rfl, by rw [← HSE.out]; rfl, by rw [← HSE.out]; rfl, by rw [← HSE.out]; rfl⟩
  case round =>
    obtain ⟨k, n, hk, rfl, rfl, rfl, rfl, rfl, rfl, rfl, rfl, rfl, rfl⟩ := hrel
    by_cases hk64 : k < 64
    · obtain ⟨a0, a1, a2, a3, a4, a5, a6, a7⟩ := rndTo_ok HS.out ws k
      have HR : Hid (rndTo S ws (k + 1) = rnd (rndTo S ws k) (kTab.getD k 0) (ws.getD k 0)) := rfl
      have kl := kTab_lt k
      have wl := HWA.out k
      have cw : (w5.drewN n).cell? ⟨B2, k, none⟩ = _ := HW.out.cell k (by rw [HWL.out]; exact hk64)
      have ck : (w5.drewN n).cell? ⟨7, k, none⟩ = some (.int .u32 (kTab.getD k 0 : Nat)) := (HB.out.cell (p := ⟨7, k, none⟩) hG).trans (HT.out k hk64)
      generalize rndTo S ws k = r at *
      obtain ⟨ra, rb, rc, rd, re, rf, rg, rh⟩ := r
      simp only at a0 a1 a2 a3 a4 a5 a6 a7 ⊢
      generalize kTab.getD k 0 = kt at *
      generalize ws.getD k 0 = wt at *
      generalize hw6 : w5.drewN n = w6 at *
      have HW6 := hide hw6
      clear hw6
      go_wp2_with fail
      rw [chU a4 a5 a6, majU a0 a1 a2]
      have hb1 := big1_lt a4
      have hb0 := big0_lt a0
      have hc := chf_lt (x := re) a5 a6
      have hj := majf_lt (x := ra) a1 a2
      have HB1 : Hid (rotr 6 re ^^^ rotr 11 re ^^^ rotr 25 re = big1 re) := rfl
      have HB0 : Hid (rotr 2 ra ^^^ rotr 13 ra ^^^ rotr 22 ra = big0 ra) := rfl
      go_quiet ((go_at_call 119; exact Calls.quiet_of_same (turned_int _ _ _ _ (by assumption) (by omega) (by omega) (by omega) _)))
      go_wp2_with fail
      refine (turned_int _ _ _ _ a0 (by omega) (by omega) (by omega) _).mono ?_
      rintro e w7 ⟨rfl, rfl⟩
      go_wp2
      rw [HB1.out, HB0.out]
      refine ⟨⟨k + 1, n + nq, by omega, by go_num, by rw [← HW6.out, World.drewN_drewN], ?_, by rw [HR.out]; rfl, by rw [HR.out]; rfl, by rw [HR.out]; rfl, ?_, by rw [HR.out]; rfl, by rw [HR.out]; rfl, by rw [HR.out]; rfl⟩, by simp [intOf]; omega⟩
      · rw [HR.out]
        apply congrArg (Value.int .u32)
        show _ = (((rh + big1 re + chf re rf rg + kt + wt + (big0 ra + majf ra rb rc)) % 4294967296 : Nat) : Int)
        omega
      · rw [HR.out]
        apply congrArg (Value.int .u32)
        show _ = (((rd + (rh + big1 re + chf re rf rg + kt + wt)) % 4294967296 : Nat) : Int)
        omega
    · have h64 : k = 64 := by omega
      subst h64
      generalize rndTo S ws 64 = r at *
      obtain ⟨ra, rb, rc, rd, re, rf, rg, rh⟩ := r
      obtain ⟨sa', sb', sc', sd', se', sf', sg', sh'⟩ := S
      have c0 : (w5.drewN n).cell? ⟨w.heap.size, 0, none⟩ = _ := H1.out.cell 0 (by simp [St.toList])
      have c1 : (w5.drewN n).cell? ⟨w.heap.size, 1, none⟩ = _ := H1.out.cell 1 (by simp [St.toList])
      have c2 : (w5.drewN n).cell? ⟨w.heap.size, 2, none⟩ = _ := H1.out.cell 2 (by simp [St.toList])
      have c3 : (w5.drewN n).cell? ⟨w.heap.size, 3, none⟩ = _ := H1.out.cell 3 (by simp [St.toList])
      have c4 : (w5.drewN n).cell? ⟨w.heap.size, 4, none⟩ = _ := H1.out.cell 4 (by simp [St.toList])
      have c5 : (w5.drewN n).cell? ⟨w.heap.size, 5, none⟩ = _ := H1.out.cell 5 (by simp [St.toList])
      have c6 : (w5.drewN n).cell? ⟨w.heap.size, 6, none⟩ = _ := H1.out.cell 6 (by simp [St.toList])
      have c7 : (w5.drewN n).cell? ⟨w.heap.size, 7, none⟩ = _ := H1.out.cell 7 (by simp [St.toList])
      simp only [St.toList, List.getD_cons_zero, List.getD_cons_succ] at c0 c1 c2 c3 c4 c5 c6 c7
      have HB := hide (belowN HB.out n)
      have H2 := hide (H2.out.drewN n)
      clear H1 HW
      generalize w5.drewN n = w6 at *
      have hi8 : (Tryd.prog.info? 133).map (·.size) = some 8 := by kernel_rfl
      have HI := hide hi8
      clear hi8
      have HG2 : Hid (w6.heap[w.heap.size + 1]? = some (.cells (rowK .u32 (List.replicate 8 0)) 133 (0, 0))) := H2.out
      go_wp2_with (first | (refine wpList_storeB rfl 133 (.tmp 4) (.tmp 122) rfl rfl (w.heap.size + 1) #[.int .u32 (((sa' : Int) + (ra : Int)) % 4294967296), .int .u32 (((sb' : Int) + (rb : Int)) % 4294967296), .int .u32 (((sc' : Int) + (rc : Int)) % 4294967296), .int .u32 (((sd' : Int) + (rd : Int)) % 4294967296), .int .u32 (((se' : Int) + (re : Int)) % 4294967296), .int .u32 (((sf' : Int) + (rf : Int)) % 4294967296), .int .u32 (((sg' : Int) + (rg : Int)) % 4294967296), .int .u32 (((sh' : Int) + (rh : Int)) % 4294967296)] rfl rfl 133 (rowK .u32 (List.replicate 8 0)) HG2.out HI.out rfl (ints8_one _ _ _ _ _ _ _ _) ?_; intro w8 hb8 _ hk8))
      refine bodyPost_ret (v := .agg #[.int .u32 (((sa' : Int) + (ra : Int)) % 4294967296), .int .u32 (((sb' : Int) + (rb : Int)) % 4294967296), .int .u32 (((sc' : Int) + (rc : Int)) % 4294967296), .int .u32 (((sd' : Int) + (rd : Int)) % 4294967296), .int .u32 (((se' : Int) + (re : Int)) % 4294967296), .int .u32 (((sf' : Int) + (rf : Int)) % 4294967296), .int .u32 (((sg' : Int) + (rg : Int)) % 4294967296), .int .u32 (((sh' : Int) + (rh : Int)) % 4294967296)]) (results_cell_row Tryd.results100 _ _ (w.heap.size + 1) 133 _ (0, 0) _ rfl hk8 Tryd.underlying133 rfl HI.out) rfl ⟨?_, HB.out.trans (hb8.mono (by omega))⟩
      rw [HSE.out, HC.out]
      simp only [addSt, St.toList, rowK, List.map_cons, List.map_nil, Int.natCast_emod, Int.natCast_add]
      rfl
end Go.Proofs.YtlchpbnpmgfaoaaDoor
