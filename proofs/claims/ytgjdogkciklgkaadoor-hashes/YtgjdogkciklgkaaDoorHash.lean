/-
  The program's Hash, without its limit.
-/
import Derived.Test.YtgjdogkciklgkaaDoorSc
import Derived.Test.YtgjdogkciklgkaaDoorJoin
import Derived.StillTailTactics
namespace Go.Proofs.YtgjdogkciklgkaaDoor
open Go.RowKit

theorem byteAt_part (p : List UInt8) (n i : Nat) (hi : i < 64) : byteAt ((p.drop n).take 64) i = byteAt p (n + i) := by
  unfold byteAt
  simp [hi]
theorem rowSt_size (s : St) : (rowK .u32 s.toList).size = 8 := by rw [rowK_size]; rfl
theorem info8 : (Tryd.prog.info? 134).map (·.size) = some 8 := by kernel_rfl
theorem infoSt (s : St) : (Tryd.prog.info? 134).map (·.size) = some (rowK .u32 s.toList).size := by rw [rowSt_size]; exact info8
theorem sizeSt (s r : St) : (rowK .u32 s.toList).size = (rowK .u32 r.toList).size := by rw [rowSt_size, rowSt_size]
theorem still_tail {P : Program} {id : Nat} {Q : Exit → Act → World → Prop} {a : Act} {w : World} {l : List Oper} (n : Nat) (hm : P.follows .mixedOrders = true) (hB : Region.lexTailB .any l.toArray n = true)
    (h : wpStill P l.toArray w.drew (fun a' => wpList P l.toArray Q (l.drop n) a' w.drew) (l.take n) a) : (Code.region id l.toArray true).wp P Q a w :=
  wp_region_still_tail n hm hB h
theorem compL (a b c d e f g h : Nat) (hs : St.ok ⟨a, b, c, d, e, f, g, h⟩) (pb po cp : Nat) (q : List UInt8) (w : World) (hpb : pb < w.heap.size) (hq : ∀ i, i < 64 → w.cell? ⟨pb, po + i, none⟩ = some (.int .u8 (byteAt q i : Nat)))
    (hG : 7 < w.heap.size) (hT : ∀ t, t < 64 → w.cell? ⟨7, t, none⟩ = some (.int .u32 (kTab.getD t 0 : Nat))) :
    Calls Tryd.prog 100 #[.agg #[.int .u32 (a : Int), .int .u32 (b : Int), .int .u32 (c : Int), .int .u32 (d : Int), .int .u32 (e : Int), .int .u32 (f : Int), .int .u32 (g : Int), .int .u32 (h : Int)], .slice (some ⟨pb, po, none⟩) 64 cp] w fun e' w' => e' = .returned (.agg (rowK .u32 (comp ⟨a, b, c, d, e, f, g, h⟩ q).toList)) ∧ Bel w.heap.size w w' :=
  compP ⟨a, b, c, d, e, f, g, h⟩ hs pb po cp q w hpb hq hG hT
theorem ivRow : rowK .u32 iv.toList = #[.int .u32 1779033703, .int .u32 3144134277, .int .u32 1013904242, .int .u32 2773480762, .int .u32 1359893119, .int .u32 2600822924, .int .u32 528734635, .int .u32 1541459225] := rfl

set_option maxRecDepth 100000 in
set_option maxHeartbeats 1000000 in
theorem hashP (l : List UInt8) (hl : l.length ≤ 100000) (w : World)
    (hG : 7 < w.heap.size) (hT : ∀ t, t < 64 → w.cell? ⟨7, t, none⟩ = some (.int .u32 (kTab.getD t 0 : Nat))) :
    Calls Tryd.prog 75 #[.string (str l)] w fun e w' => e = .returned (.string (str (sha l))) ∧ Bel w.heap.size w w' := by
  have HT := hide hT
  clear hT
  go_enter Tryd.func75, Tryd.ntmps75
  go_wp2_with fail
  have hB1 : Bel w.heap.size w (w.alloc (.cells (rowK .u32 iv.toList) 134)) := (Bel.refl _ _).alloc (Nat.le_refl _) _
  have hK1 : Blk (w.alloc (.cells (rowK .u32 iv.toList) 134)) w.heap.size 134 .u32 iv.toList := Blk.new w _ _ _
  rw [ivRow] at hB1 hK1
  generalize w.alloc (.cells #[.int .u32 1779033703, .int .u32 3144134277, .int .u32 1013904242, .int .u32 2773480762, .int .u32 1359893119, .int .u32 2600822924, .int .u32 528734635, .int .u32 1541459225] 134) = w1 at *
  refine (padP l hl w1).mono ?_
  rintro e w2 ⟨g, c, rfl, hgc, hg1, hg2, hb2, hp⟩
  obtain ⟨nb, hnb⟩ : ∃ nb, (padded l).length = 64 * nb := ⟨(padded l).length / 64, by have := padded_mod l; omega⟩
  have hnb2 : nb ≤ 2000 := by have := padded_length l; have : zerosFor l.length < 64 := by unfold zerosFor; omega
                              omega
  have HSH : Hid (sha l = outTo (compTo (padded l) nb) 8) := by
    show sha l = _
    rw [outTo_all, sha, hnb, Nat.mul_div_cancel_left nb (by decide)]
  rw [hnb] at hgc hp
  have HN := hide hnb
  clear hnb
  rw [HN.out]
  generalize padded l = p at *
  have hs1 : w.heap.size < w1.heap.size := hK1.lt
  have HB := hide (hB1.trans (hb2.mono hB1.size))
  have HK := hide (hK1.below hb2 hK1.lt)
  have HP := hide hp
  have hgw : w.heap.size < g := by omega
  clear hB1 hK1 hb2 hp hg1
  go_wp2
  go_loopw [5] (fun t wr => ∃ k : Nat, k ≤ nb ∧ t = .int .i64 (64 * (k : Int)) ∧ Bel w.heap.size w wr ∧ g < wr.heap.size ∧ Blk wr w.heap.size 134 .u32 (compTo p k).toList ∧ (∀ j, j < 64 * nb → wr.cell? ⟨g, j, none⟩ = some (.int .u8 (byteAt p j : Nat)))) (fun t _ => 64 * nb - (intOf t).toNat)
  case atStart => exact ⟨0, Nat.zero_le _, rfl, HB.out, hg2, HK.out, HP.out⟩
  case round =>
    clear HB HK HP hg2
    obtain ⟨k, hk, rfl, hB, hg2, hK, hp⟩ := hrel
    have HB := hide hB
    have HK := hide hK
    have HP := hide hp
    clear hB hK hp
    by_cases hkn : k < nb
    · have HS : Hid (comp (compTo p k) ((p.drop (64 * k)).take 64) = compTo p (k + 1)) := rfl
      have hok := compTo_ok p k
      have HK' := HK.out
      generalize compTo p k = z at *
      obtain ⟨za, zb, zc, zd, ze, zf, zg, zh⟩ := z
      have c0 := HK'.cell 0 (by simp [St.toList])
      have c1 := HK'.cell 1 (by simp [St.toList])
      have c2 := HK'.cell 2 (by simp [St.toList])
      have c3 := HK'.cell 3 (by simp [St.toList])
      have c4 := HK'.cell 4 (by simp [St.toList])
      have c5 := HK'.cell 5 (by simp [St.toList])
      have c6 := HK'.cell 6 (by simp [St.toList])
      have c7 := HK'.cell 7 (by simp [St.toList])
      simp only [St.toList, List.getD_cons_zero, List.getD_cons_succ] at c0 c1 c2 c3 c4 c5 c6 c7
      have HOK := hide hok
      clear HK' hok
      have b1 : 64 * (k : Int) + 64 ≤ (c : Int) := by omega
      have b2 : (0 : Int) ≤ 64 * (k : Int) := by omega
      go_wp2_with fail
      have c0 : wr.drew.cell? ⟨w.heap.size, 0, none⟩ = _ := c0
      have c1 : wr.drew.cell? ⟨w.heap.size, 1, none⟩ = _ := c1
      have c2 : wr.drew.cell? ⟨w.heap.size, 2, none⟩ = _ := c2
      have c3 : wr.drew.cell? ⟨w.heap.size, 3, none⟩ = _ := c3
      have c4 : wr.drew.cell? ⟨w.heap.size, 4, none⟩ = _ := c4
      have c5 : wr.drew.cell? ⟨w.heap.size, 5, none⟩ = _ := c5
      have c6 : wr.drew.cell? ⟨w.heap.size, 6, none⟩ = _ := c6
      have c7 : wr.drew.cell? ⟨w.heap.size, 7, none⟩ = _ := c7
      have hg2 : g < wr.drew.heap.size := hg2
      have HB := hide HB.out.drew
      have HK : Hid (wr.drew.heap[w.heap.size]? = some (.cells (rowK .u32 (St.toList ⟨za, zb, zc, zd, ze, zf, zg, zh⟩)) 134 (0, 0))) := HK.out
      have HP : Hid (∀ j, j < 64 * nb → wr.drew.cell? ⟨g, j, none⟩ = some (.int .u8 (byteAt p j : Nat))) := HP.out
      have hw : IntKind.i64.wrap (64 * (k : Int) + 64) = 64 * (k : Int) + 64 := by
        have := wrap_i64_nat (64 * k + 64) (by omega)
        rw [show ((64 * k + 64 : Nat) : Int) = 64 * (k : Int) + 64 by omega] at this
        exact this
      have b3 : (0 : Int) ≤ 64 * (k : Int) + 64 := by omega
      have b4 : 64 * (k : Int) ≤ 64 * (k : Int) + 64 := by omega
      have t1 : (64 * (k : Int)).toNat = 64 * k := by omega
      have t2 : (64 * (k : Int) + 64).toNat = 64 * k + 64 := by omega
      have t3 : ¬ c = 64 * k := by omega
      have t4 : 64 * k + 64 - 64 * k = 64 := by omega
      refine still_tail 6 (by kernel_rfl) (by kernel_rfl) ?_
      generalize wr.drew = w3 at *
      simp only [List.take_succ_cons, List.take_zero, List.drop_succ_cons, List.drop_zero]
      repeat still_step
      refine wpStill_nil ?_
      go_wp2_with fail
      refine (compL za zb zc zd ze zf zg zh HOK.out g (64 * k) (c - 64 * k) ((p.drop (64 * k)).take 64) w3 hg2 (fun i hi => by
        rw [HP.out (64 * k + i) (by omega), byteAt_part p (64 * k) i hi]) (Nat.lt_of_lt_of_le hG HB.out.size) (fun t ht => (HB.out.cell (p := ⟨7, t, none⟩) hG).trans (HT.out t ht))).mono ?_
      rintro e w4 ⟨rfl, hb4⟩
      rw [HS.out]
      clear HS
      generalize hz' : compTo p (k + 1) = z' at *
      have HZ := hide hz'
      clear hz'
      have hsw : w.heap.size < w3.heap.size := by
        have := hg2
        omega
      have HK4 : Hid (w4.heap[w.heap.size]? = some (.cells (rowK .u32 (St.toList ⟨za, zb, zc, zd, ze, zf, zg, zh⟩)) 134 (0, 0))) := (hb4.block _ hsw).trans HK.out
      have HB4 := hide (HB.out.trans (hb4.mono HB.out.size))
      have hg4 : g < w4.heap.size := Nat.lt_of_lt_of_le hg2 hb4.size
      have HP4 : Hid (∀ j, j < 64 * nb → w4.cell? ⟨g, j, none⟩ = some (.int .u8 (byteAt p j : Nat))) := fun j hj => (hb4.cell (p := ⟨g, j, none⟩) hg2).trans (HP.out j hj)
      clear hb4 HK HB HP c0 c1 c2 c3 c4 c5 c6 c7 hw b1 b2 b3 b4 t1 t2 t3 t4
      go_wp2_with (first | (refine wpList_storeB rfl 134 (.tmp 3) (.tmp 21) rfl rfl w.heap.size (rowK .u32 z'.toList) rfl rfl 134 _ HK4.out (infoSt z') (sizeSt _ z') (rowK_one _ _) ?_; intro w5 hb5 ho5 hk5))
      refine ⟨⟨k + 1, by omega, by apply congrArg (Value.int .i64); omega, HB4.out.trans hb5, Nat.lt_of_lt_of_le hg4 hb5.size, by rw [HZ.out]; exact hk5, fun j hj => ?_⟩, by simp [intOf]; omega⟩
      have h1 : w5.cell? ⟨g, j, none⟩ = w4.cell? ⟨g, j, none⟩ := World.cell?_of_block (w := w4) (ho5 g (by omega))
      rw [h1]
      exact HP4.out j hj
    · have hkn' : k = nb := by omega
      subst hkn'
      have hok := compTo_ok p k
      generalize compTo p k = z at *
      have HG : Hid (wr.heap[w.heap.size]? = some (.cells (rowK .u32 z.toList) 134 (0, 0))) := HK.out
      have HOK := hide hok
      clear hok
      go_wp2_with (first | (refine wpList_load_row rfl 134 (.tmp 3) rfl w.heap.size rfl 134 (rowK .u32 z.toList) (0, 0) _ HG.out Tryd.underlying134 rfl (infoSt z) ?_))
      refine (joinP z HOK.out _).mono ?_
      rintro e w6 ⟨rfl, hb6⟩
      have HB6 := hide (HB.out.trans (hb6.mono HB.out.size))
      clear hb6
      go_wp2
      go_ret
      refine ⟨?_, HB6.out⟩
      rw [HSH.out]
      rfl
end Go.Proofs.YtgjdogkciklgkaaDoor
