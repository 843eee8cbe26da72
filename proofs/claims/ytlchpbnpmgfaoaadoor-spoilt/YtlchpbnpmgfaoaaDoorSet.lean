/-
  The program's settled, plus, minus.
-/
import Derived.Test.YtlchpbnpmgfaoaaDoorFive
import Derived.Test.YtlchpbnpmgfaoaaDoorReg
namespace Go.Proofs.YtlchpbnpmgfaoaaDoor
open Go.RowKit

theorem info5 (g : Nat → Nat) : (Tryd.prog.info? 90).map (·.size) = some (tab 5 g).length := by rw [tab_length]; kernel_rfl
theorem len5 (g h : Nat → Nat) : (tab 5 g).length = (tab 5 h).length := by rw [tab_length, tab_length]
theorem z5 : rowK .u64 (tab 5 zer17) = #[.int .u64 0, .int .u64 0, .int .u64 0, .int .u64 0, .int .u64 0] := rfl
theorem ret5 {fn : Func} {p : Tmp} (h : fn.results = #[.cell p 90]) (tmps : Array Value) (w : World) (b : Nat) (g : Nat → Nat) (hp : tmps.getD p undef = .pointer (some ⟨b, 0, none⟩)) (hB : Blk w b 90 .u64 (tab 5 g)) :
    (results fn tmps).run Tryd.prog w = .ok (.agg (rowK .u64 (tab 5 g))) w :=
  results_cell_row (P := Tryd.prog) h tmps w b 90 (rowK .u64 (tab 5 g)) (0, 0) _ hp hB Tryd.underlying90 rfl (by rw [rowK_size]; exact info5 g)
theorem and51 (x : Nat) (h : x < 18446744073709551616) : bits .and .u64 (x : Int) 2251799813685247 = ((x % 2251799813685248 : Nat) : Int) := by
  have := u64_and_nat x 2251799813685247 h (by decide)
  rw [show ((2251799813685247 : Nat) : Int) = 2251799813685247 from rfl] at this
  rw [this, Nat.and_two_pow_sub_one_eq_mod x 51]

set_option maxRecDepth 100000 in
set_option maxHeartbeats 1000000 in
theorem settledP (g : Nat → Nat) (hg : Pre51 g) (w : World) :
    Calls Tryd.prog 88 #[.agg (rowK .u64 (tab 5 g))] w fun e w' => e = .returned (.agg (rowK .u64 (tab 5 (set51 g)))) ∧ Bel w.heap.size w w' := by
  have HG := hide hg
  have HCB := hide (cr51_lt g hg)
  clear hg
  go_enter Tryd.func88, Tryd.ntmps88
  go_wp2
  rw [← z5]
  have HB : Hid (Bel w.heap.size w ((w.alloc (.cells (rowK .u64 (tab 5 g)) 90)).alloc (.cells (rowK .u64 (tab 5 zer17)) 90))) := (((Bel.refl _ _).alloc (by simp) _).alloc (by simp) _)
  have HA : Hid (Blk ((w.alloc (.cells (rowK .u64 (tab 5 g)) 90)).alloc (.cells (rowK .u64 (tab 5 zer17)) 90)) (w.heap.size) 90 .u64 (tab 5 g)) := ((blkAt w (w.heap.size) 90 .u64 (tab 5 g) (by simp)).alloc _)
  have HR : Hid (Blk ((w.alloc (.cells (rowK .u64 (tab 5 g)) 90)).alloc (.cells (rowK .u64 (tab 5 zer17)) 90)) (w.heap.size + 1) 90 .u64 (tab 5 zer17)) := (blkAt (w.alloc (.cells (rowK .u64 (tab 5 g)) 90)) (w.heap.size + 1) 90 .u64 (tab 5 zer17) (by simp))
  generalize ((w.alloc (.cells (rowK .u64 (tab 5 g)) 90)).alloc (.cells (rowK .u64 (tab 5 zer17)) 90)) = w1 at *
  go_loopw [3, 5] (fun c t wr => ∃ j : Nat, j ≤ 5 ∧ c = .int .u64 (cr51 g j : Nat) ∧ t = .int .i64 j ∧ Bel w.heap.size w wr ∧ Blk wr w.heap.size 90 .u64 (partTo (lo51 g) g 5 j) ∧ Blk wr (w.heap.size + 1) 90 .u64 (tab 5 zer17)) (fun _ t _ => 5 - (intOf t).toNat)
  case atStart => exact ⟨0, Nat.zero_le _, rfl, rfl, HB.out, by rw [partTo_none]; exact HA.out, HR.out⟩
  case round =>
    clear HB HA HR
    obtain ⟨j, hj, rfl, rfl, hB, hA, hR⟩ := hrel
    have HB := hide hB
    have HA := hide hA
    have HR := hide hR
    by_cases hj5 : j < 5
    · have cc := hA.cell j (by rw [partTo_length]; exact hj5)
      rw [partTo_getD _ _ _ _ _ hj5, if_neg (by omega)] at cc
      have hf := hA.frozen j
      clear hB hA hR
      have b1 := HCB.out j hj
      have b2 : g j < 576460752303423488 := by
        by_cases e : j = 0
        · subst e; exact HG.out.1
        · have := HG.out.2 j (by omega) hj5; omega
      have HS := hide (partTo_set (lo51 g) g 5 j)
      have HL : Hid (lo51 g j = (cr51 g j + g j) % 2251799813685248) := rfl
      have HC : Hid (cr51 g (j + 1) = (cr51 g j + g j) / 2251799813685248) := rfl
      generalize cr51 g j = c at *
      generalize g j = x at *
      have ea := and51 (x + c) (by omega)
      rw [Int.natCast_add] at ea
      go_wp2
      go_roundw
      case rel =>
        refine ⟨j + 1, by omega, by rw [HC.out]; apply congrArg (Value.int .u64); omega, by go_num, (HB.out.setCell (p := ⟨w.heap.size, j, none⟩) (Nat.le_refl _) _).setCell (p := ⟨w.heap.size, j, none⟩) (Nat.le_refl _) _, ?_, (HR.out.setOther ⟨w.heap.size, j, none⟩ _ (by show w.heap.size + 1 ≠ w.heap.size; omega)).setOther _ _ (by show w.heap.size + 1 ≠ w.heap.size; omega)⟩
        rw [← HS.out, HL.out, Nat.add_comm c x]
        have h1 := (HA.out.set j (x + c)).set j ((x + c) % 2251799813685248)
        rw [List.set_set, Int.natCast_add] at h1
        exact h1
      case measure => simp [intOf]; omega
    · have h5 : j = 5 := by omega
      subst h5
      rw [partTo_full] at hA
      have cc := hA.cell 0 (by rw [tab_length]; decide)
      rw [tab_getD _ _ _ (by decide)] at cc
      have hf := hA.frozen 0
      have b1 := HCB.out 5 (by decide)
      have b2 := lo51_lt g 0
      have HA2 := hide (hA.set 0 (lo51 g 0 + 19 * cr51 g 5))
      rw [tab_set] at HA2
      have HN : Hid (set51 g = fun i => if i = 0 then lo51 g 0 + 19 * cr51 g 5 else lo51 g i) := rfl
      rw [← HN.out] at HA2
      have HB2 := hide (hB.setCell (p := ⟨w.heap.size, 0, none⟩) (Nat.le_refl _) (.int .u64 ((lo51 g 0 + 19 * cr51 g 5 : Nat) : Int)))
      have HR2 := hide (hR.setOther ⟨w.heap.size, 0, none⟩ (.int .u64 ((lo51 g 0 + 19 * cr51 g 5 : Nat) : Int)) (by show w.heap.size + 1 ≠ w.heap.size; omega))
      clear hB hA hR HB HA HR
      generalize cr51 g 5 = c at *
      generalize lo51 g 0 = x at *
      rw [show ((x + 19 * c : Nat) : Int) = (x : Int) + 19 * (c : Int) by omega] at HA2 HB2 HR2
      go_wp2_with (first | (refine wpList_ldB HA2.out Tryd.underlying90 rfl (info5 _) rfl _ rfl rfl ?_) | (refine wpList_stB HR2.out (info5 (set51 g)) (len5 _ _) rfl _ _ rfl rfl rfl rfl ?_; intro w5 hb5 ho5 hk5))
      refine bodyPost_ret (v := .agg (rowK .u64 (tab 5 (set51 g)))) (ret5 Tryd.results88 _ _ _ _ rfl hk5) rfl ⟨rfl, HB2.out.trans (hb5.mono (by omega))⟩

set_option maxRecDepth 100000 in
set_option maxHeartbeats 1000000 in
theorem plusP (a b : Nat → Nat) (ha : Ok51 a) (hb : Ok51 b) (w : World) :
    Calls Tryd.prog 84 #[.agg (rowK .u64 (tab 5 a)), .agg (rowK .u64 (tab 5 b))] w fun e w' => e = .returned (.agg (rowK .u64 (tab 5 (set51 (pl51 a b))))) ∧ Bel w.heap.size w w' := by
  have HPR := hide (pl51_pre ha hb)
  have OA := hide ha
  have OB := hide hb
  clear ha hb
  go_enter Tryd.func84, Tryd.ntmps84
  go_wp2
  rw [← z5]
  have HB : Hid (Bel w.heap.size w (((w.alloc (.cells (rowK .u64 (tab 5 a)) 90)).alloc (.cells (rowK .u64 (tab 5 b)) 90)).alloc (.cells (rowK .u64 (tab 5 zer17)) 90))) := ((((Bel.refl _ _).alloc (by simp) _).alloc (by simp) _).alloc (by simp <;> omega) _)
  have HA : Hid (Blk (((w.alloc (.cells (rowK .u64 (tab 5 a)) 90)).alloc (.cells (rowK .u64 (tab 5 b)) 90)).alloc (.cells (rowK .u64 (tab 5 zer17)) 90)) (w.heap.size) 90 .u64 (tab 5 a)) := (((blkAt w (w.heap.size) 90 .u64 (tab 5 a) (by simp)).alloc _).alloc _)
  have HD : Hid (Blk (((w.alloc (.cells (rowK .u64 (tab 5 a)) 90)).alloc (.cells (rowK .u64 (tab 5 b)) 90)).alloc (.cells (rowK .u64 (tab 5 zer17)) 90)) (w.heap.size + 1) 90 .u64 (tab 5 b)) := ((blkAt (w.alloc (.cells (rowK .u64 (tab 5 a)) 90)) (w.heap.size + 1) 90 .u64 (tab 5 b) (by simp)).alloc _)
  have HR : Hid (Blk (((w.alloc (.cells (rowK .u64 (tab 5 a)) 90)).alloc (.cells (rowK .u64 (tab 5 b)) 90)).alloc (.cells (rowK .u64 (tab 5 zer17)) 90)) (w.heap.size + 2) 90 .u64 (tab 5 zer17)) := (blkAt ((w.alloc (.cells (rowK .u64 (tab 5 a)) 90)).alloc (.cells (rowK .u64 (tab 5 b)) 90)) (w.heap.size + 2) 90 .u64 (tab 5 zer17) (by simp))
  generalize (((w.alloc (.cells (rowK .u64 (tab 5 a)) 90)).alloc (.cells (rowK .u64 (tab 5 b)) 90)).alloc (.cells (rowK .u64 (tab 5 zer17)) 90)) = w1 at *
  go_loopw [6] (fun t wr => ∃ j : Nat, j ≤ 5 ∧ t = .int .i64 j ∧ Bel w.heap.size w wr ∧ Blk wr w.heap.size 90 .u64 (partTo (pl51 a b) a 5 j) ∧ Blk wr (w.heap.size + 1) 90 .u64 (tab 5 b) ∧ Blk wr (w.heap.size + 2) 90 .u64 (tab 5 zer17)) (fun t _ => 5 - (intOf t).toNat)
  case atStart => exact ⟨0, Nat.zero_le _, rfl, HB.out, by rw [partTo_none]; exact HA.out, HD.out, HR.out⟩
  case round =>
    clear HB HA HD HR
    obtain ⟨j, hj, rfl, hB, hA, hD, hR⟩ := hrel
    have HB := hide hB
    have HD := hide hD
    have HR := hide hR
    by_cases hj5 : j < 5
    · have cc := hA.cell j (by rw [partTo_length]; exact hj5)
      rw [partTo_getD _ _ _ _ _ hj5, if_neg (by omega)] at cc
      have cd := hD.cell j (by rw [tab_length]; exact hj5)
      rw [tab_getD _ _ _ hj5] at cd
      have hf := hA.frozen j
      have HA2 := hide (hA.set j (pl51 a b j))
      rw [partTo_set] at HA2
      have HL : Hid (pl51 a b j = a j + b j) := rfl
      rw [HL.out] at HA2
      clear hB hA hD hR
      have b1 : a j < 2251799813685504 := by
        by_cases e : j = 0
        · subst e; exact OA.out.1
        · have := OA.out.2 j (by omega) hj5; omega
      have b2 : b j < 2251799813685504 := by
        by_cases e : j = 0
        · subst e; exact OB.out.1
        · have := OB.out.2 j (by omega) hj5; omega
      generalize a j = x at *
      generalize b j = y at *
      rw [Int.natCast_add] at HA2
      go_wp2
      try go_region
      try go_wp2
      go_roundw
      case rel =>
        refine ⟨j + 1, by omega, by go_num, ?_, HA2.out, HD.out.setOther _ _ (by show w.heap.size + 1 ≠ w.heap.size; omega), HR.out.setOther _ _ (by show w.heap.size + 2 ≠ w.heap.size; omega)⟩
        first | exact (HB.out.setCell (p := ⟨w.heap.size, j, none⟩) (Nat.le_refl _) _).drew | exact HB.out.setCell (p := ⟨w.heap.size, j, none⟩) (Nat.le_refl _) _
      case measure => simp [intOf]; omega
    · have h5 : j = 5 := by omega
      subst h5
      rw [partTo_full] at hA
      have HA := hide hA
      clear hB hA hD hR HD
      go_wp2_with (first | (refine wpList_ldB HA.out Tryd.underlying90 rfl (info5 _) rfl _ rfl rfl ?_))
      refine (settledP (pl51 a b) HPR.out _).mono ?_
      rintro e w3 ⟨rfl, hb3⟩
      have HR3 := hide (HR.out.below hb3 HR.out.lt)
      have HB3 := hide (HB.out.trans (hb3.mono HB.out.size))
      clear hb3 HB HR HA
      go_wp2_with (first | (refine wpList_stB HR3.out (info5 (set51 (pl51 a b))) (len5 _ _) rfl _ _ rfl rfl rfl rfl ?_; intro w5 hb5 ho5 hk5))
      refine bodyPost_ret (v := .agg (rowK .u64 (tab 5 (set51 (pl51 a b))))) (ret5 Tryd.results84 _ _ _ _ rfl hk5) rfl ⟨rfl, HB3.out.trans (hb5.mono (by omega))⟩

def at51 (a : Nat → Nat) (i : Nat) : Nat := a i + tw i
set_option maxRecDepth 100000 in
set_option maxHeartbeats 1000000 in
theorem minusP (a b : Nat → Nat) (ha : Ok51 a) (hb : Ok51 b) (w : World) :
    Calls Tryd.prog 85 #[.agg (rowK .u64 (tab 5 a)), .agg (rowK .u64 (tab 5 b))] w fun e w' => e = .returned (.agg (rowK .u64 (tab 5 (set51 (mi51 a b))))) ∧ Bel w.heap.size w w' := by
  have HPR := hide (mi51_pre (b := b) ha)
  have OA := hide ha
  have OB := hide hb
  clear ha hb
  go_enter Tryd.func85, Tryd.ntmps85
  have c0 : ∀ o1 o2, (((w.alloc (.cells (rowK .u64 (tab 5 a)) 90)).alloc o1).alloc o2).cell? ⟨w.heap.size, 0, none⟩ = some (.int .u64 (a 0 : Nat)) := fun o1 o2 => by
    have h := (((Blk.new w 90 .u64 (tab 5 a)).alloc o1).alloc o2).cell 0 (by rw [tab_length]; decide)
    rw [tab_getD _ _ _ (by decide)] at h
    exact h
  have b0 := OA.out.1
  have HP1 : Hid ((rowK .u64 (tab 5 a)).setIfInBounds 0 (.int .u64 (((a 0 : Nat) : Int) + 4503599627370458)) = rowK .u64 (partTo (at51 a) a 5 1)) := by
    show _ = _
    rw [show ((a 0 : Nat) : Int) + 4503599627370458 = ((a 0 + 4503599627370458 : Nat) : Int) by omega, rowK_set]
    have h := partTo_set (at51 a) a 5 0
    rw [partTo_none] at h
    rw [← h]
    rfl
  go_wp2
  rw [HP1.out, ← z5]
  clear c0 HP1
  have HB : Hid (Bel w.heap.size w (((w.alloc (.cells (rowK .u64 (partTo (at51 a) a 5 1)) 90)).alloc (.cells (rowK .u64 (tab 5 b)) 90)).alloc (.cells (rowK .u64 (tab 5 zer17)) 90))) := ((((Bel.refl _ _).alloc (by simp) _).alloc (by simp) _).alloc (by simp <;> omega) _)
  have HA : Hid (Blk (((w.alloc (.cells (rowK .u64 (partTo (at51 a) a 5 1)) 90)).alloc (.cells (rowK .u64 (tab 5 b)) 90)).alloc (.cells (rowK .u64 (tab 5 zer17)) 90)) (w.heap.size) 90 .u64 (partTo (at51 a) a 5 1)) := (((blkAt w (w.heap.size) 90 .u64 (partTo (at51 a) a 5 1) (by simp)).alloc _).alloc _)
  have HD : Hid (Blk (((w.alloc (.cells (rowK .u64 (partTo (at51 a) a 5 1)) 90)).alloc (.cells (rowK .u64 (tab 5 b)) 90)).alloc (.cells (rowK .u64 (tab 5 zer17)) 90)) (w.heap.size + 1) 90 .u64 (tab 5 b)) := ((blkAt (w.alloc (.cells (rowK .u64 (partTo (at51 a) a 5 1)) 90)) (w.heap.size + 1) 90 .u64 (tab 5 b) (by simp)).alloc _)
  have HR : Hid (Blk (((w.alloc (.cells (rowK .u64 (partTo (at51 a) a 5 1)) 90)).alloc (.cells (rowK .u64 (tab 5 b)) 90)).alloc (.cells (rowK .u64 (tab 5 zer17)) 90)) (w.heap.size + 2) 90 .u64 (tab 5 zer17)) := (blkAt ((w.alloc (.cells (rowK .u64 (partTo (at51 a) a 5 1)) 90)).alloc (.cells (rowK .u64 (tab 5 b)) 90)) (w.heap.size + 2) 90 .u64 (tab 5 zer17) (by simp))
  generalize (((w.alloc (.cells (rowK .u64 (partTo (at51 a) a 5 1)) 90)).alloc (.cells (rowK .u64 (tab 5 b)) 90)).alloc (.cells (rowK .u64 (tab 5 zer17)) 90)) = w1 at *
  go_loopw [5] (fun t wr => ∃ j : Nat, 1 ≤ j ∧ j ≤ 5 ∧ t = .int .i64 j ∧ Bel w.heap.size w wr ∧ Blk wr w.heap.size 90 .u64 (partTo (at51 a) a 5 j) ∧ Blk wr (w.heap.size + 1) 90 .u64 (tab 5 b) ∧ Blk wr (w.heap.size + 2) 90 .u64 (tab 5 zer17)) (fun t _ => 5 - (intOf t).toNat)
  case atStart => exact ⟨1, by decide, by decide, rfl, HB.out, HA.out, HD.out, HR.out⟩
  case round =>
    clear HB HA HD HR
    obtain ⟨j, hj1, hj, rfl, hB, hA, hD, hR⟩ := hrel
    have HB := hide hB
    have HD := hide hD
    have HR := hide hR
    by_cases hj5 : j < 5
    · have cc := hA.cell j (by rw [partTo_length]; exact hj5)
      rw [partTo_getD _ _ _ _ _ hj5, if_neg (by omega)] at cc
      have hf := hA.frozen j
      have HA2 := hide (hA.set j (at51 a j))
      rw [partTo_set] at HA2
      have HL : Hid (at51 a j = a j + 4503599627370494) := by
        show a j + tw j = _
        rw [show tw j = 4503599627370494 from if_neg (by omega)]
      rw [HL.out] at HA2
      clear hB hA hD hR
      have b1 := OA.out.2 j (by omega) hj5
      generalize a j = x at *
      rw [show ((x + 4503599627370494 : Nat) : Int) = (x : Int) + 4503599627370494 by omega] at HA2
      go_wp2
      go_roundw
      case rel => exact ⟨j + 1, by omega, by omega, by go_num, HB.out.setCell (p := ⟨w.heap.size, j, none⟩) (Nat.le_refl _) _, HA2.out, HD.out.setOther _ _ (by show w.heap.size + 1 ≠ w.heap.size; omega), HR.out.setOther _ _ (by show w.heap.size + 2 ≠ w.heap.size; omega)⟩
      case measure => simp [intOf]; omega
    · have h5 : j = 5 := by omega
      subst h5
      rw [partTo_full] at hA
      have HA := hide hA
      clear hB hA hD hR
      go_wp2
      rw [show ((5 : Nat) : Int) = 5 from rfl]
      go_loopw [20] (fun t wr => ∃ j : Nat, j ≤ 5 ∧ t = .int .i64 j ∧ Bel w.heap.size w wr ∧ Blk wr w.heap.size 90 .u64 (partTo (mi51 a b) (at51 a) 5 j) ∧ Blk wr (w.heap.size + 1) 90 .u64 (tab 5 b) ∧ Blk wr (w.heap.size + 2) 90 .u64 (tab 5 zer17)) (fun t _ => 5 - (intOf t).toNat)
      case atStart => exact ⟨0, Nat.zero_le _, rfl, HB.out, by rw [partTo_none]; exact HA.out, HD.out, HR.out⟩
      case round =>
        clear HB HA HD HR
        obtain ⟨j, hj, rfl, hB, hA, hD, hR⟩ := hrel
        have HB := hide hB
        have HD := hide hD
        have HR := hide hR
        by_cases hj5 : j < 5
        · have cc := hA.cell j (by rw [partTo_length]; exact hj5)
          rw [partTo_getD _ _ _ _ _ hj5, if_neg (by omega)] at cc
          have cd := hD.cell j (by rw [tab_length]; exact hj5)
          rw [tab_getD _ _ _ hj5] at cd
          have hf := hA.frozen j
          have HA2 := hide (hA.set j (mi51 a b j))
          rw [partTo_set] at HA2
          have HL : Hid (mi51 a b j = at51 a j - b j) := rfl
          rw [HL.out] at HA2
          clear hB hA hD hR
          have b12 : at51 a j < 9007199254740992 ∧ b j ≤ at51 a j := by
            by_cases e : j = 0
            · subst e
              have h1 := OA.out.1
              have h2 := OB.out.1
              have h3 : at51 a 0 = a 0 + 4503599627370458 := rfl
              omega
            · have h1 := OA.out.2 j (by omega) hj5
              have h2 := OB.out.2 j (by omega) hj5
              have h3 : at51 a j = a j + 4503599627370494 := by
                show a j + tw j = _
                rw [show tw j = 4503599627370494 from if_neg e]
              omega
          obtain ⟨b1, b2⟩ := b12
          generalize at51 a j = x at *
          generalize b j = y at *
          rw [show ((x - y : Nat) : Int) = (x : Int) - (y : Int) by omega] at HA2
          go_wp2
          try go_region
          try go_wp2
          go_roundw
          case rel =>
            refine ⟨j + 1, by omega, by go_num, ?_, HA2.out, HD.out.setOther _ _ (by show w.heap.size + 1 ≠ w.heap.size; omega), HR.out.setOther _ _ (by show w.heap.size + 2 ≠ w.heap.size; omega)⟩
            first | exact (HB.out.setCell (p := ⟨w.heap.size, j, none⟩) (Nat.le_refl _) _).drew | exact HB.out.setCell (p := ⟨w.heap.size, j, none⟩) (Nat.le_refl _) _
          case measure => simp [intOf]; omega
        · have h5 : j = 5 := by omega
          subst h5
          rw [partTo_full] at hA
          have HA := hide hA
          clear hB hA hD hR HD
          go_wp2_with (first | (refine wpList_ldB HA.out Tryd.underlying90 rfl (info5 _) rfl _ rfl rfl ?_))
          refine (settledP (mi51 a b) HPR.out _).mono ?_
          rintro e w3 ⟨rfl, hb3⟩
          have HR3 := hide (HR.out.below hb3 HR.out.lt)
          have HB3 := hide (HB.out.trans (hb3.mono HB.out.size))
          clear hb3 HB HR HA
          go_wp2_with (first | (refine wpList_stB HR3.out (info5 (set51 (mi51 a b))) (len5 _ _) rfl _ _ rfl rfl rfl rfl ?_; intro w5 hb5 ho5 hk5))
          refine bodyPost_ret (v := .agg (rowK .u64 (tab 5 (set51 (mi51 a b))))) (ret5 Tryd.results85 _ _ _ _ rfl hk5) rfl ⟨rfl, HB3.out.trans (hb5.mono (by omega))⟩
end Go.Proofs.YtlchpbnpmgfaoaaDoor
