/-
  The program's inverse.
-/
import Derived.Test.YtlchpbnpmgfaoaaDoorTimes
import Derived.Test.YtlchpbnpmgfaoaaDoorRefInv
namespace Go.Proofs.YtlchpbnpmgfaoaaDoor
open Go.RowKit

theorem timesI5 {a b : Nat → Nat} {x y : Nat} (ha : Is51 a x) (hb : Is51 b y) (w : World) :
    Calls Tryd.prog 61 #[.agg (rowK .u64 (tab 5 a)), .agg (rowK .u64 (tab 5 b))] w fun e w' => ∃ h, e = .returned (.agg (rowK .u64 (tab 5 h))) ∧ Is51 h (mulM x y) ∧ Bel w.heap.size w w' :=
  (timesP a b ha.1 hb.1 w).mono fun _ _ ⟨he, hb'⟩ => ⟨ti51 a b, he, ti51_is ha hb, hb'⟩
theorem plusI5 {a b : Nat → Nat} {x y : Nat} (ha : Is51 a x) (hb : Is51 b y) (w : World) :
    Calls Tryd.prog 84 #[.agg (rowK .u64 (tab 5 a)), .agg (rowK .u64 (tab 5 b))] w fun e w' => ∃ h, e = .returned (.agg (rowK .u64 (tab 5 h))) ∧ Is51 h (addM x y) ∧ Bel w.heap.size w w' :=
  (plusP a b ha.1 hb.1 w).mono fun _ _ ⟨he, hb'⟩ => ⟨_, he, pl51_is ha hb, hb'⟩
theorem minusI5 {a b : Nat → Nat} {x y : Nat} (ha : Is51 a x) (hb : Is51 b y) (w : World) :
    Calls Tryd.prog 85 #[.agg (rowK .u64 (tab 5 a)), .agg (rowK .u64 (tab 5 b))] w fun e w' => ∃ h, e = .returned (.agg (rowK .u64 (tab 5 h))) ∧ Is51 h (subM x y) ∧ Bel w.heap.size w w' :=
  (minusP a b ha.1 hb.1 w).mono fun _ _ ⟨he, hb'⟩ => ⟨_, he, mi51_is ha hb, hb'⟩
theorem z5n (h : Nat → Nat) : (#[Value.int .u64 0, .int .u64 0, .int .u64 0, .int .u64 0, .int .u64 0] : Array Value).size = (tab 5 h).length := by rw [tab_length]; rfl
theorem ivTo_one {x : Nat} (h : x < PR) : ivTo x 1 = x := by
  show (if 254 - 0 = 2 ∨ 254 - 0 = 4 then mulM 1 1 else mulM (mulM 1 1) x) = x
  rw [if_neg (by decide)]
  have e : mulM 1 1 = 1 := by decide +kernel
  rw [e]
  unfold mulM
  rw [Nat.one_mul]
  exact Nat.mod_eq_of_lt h

set_option maxRecDepth 100000 in
set_option maxHeartbeats 2000000 in
theorem inverseP (a : Nat → Nat) (x : Nat) (ha : Is51 a x) (w : World) :
    Calls Tryd.prog 62 #[.agg (rowK .u64 (tab 5 a))] w fun e w' => ∃ h, e = .returned (.agg (rowK .u64 (tab 5 h))) ∧ Is51 h (ivTo x 255) ∧ Bel w.heap.size w w' := by
  have IA := hide ha
  have I1 : Hid (Is51 a (ivTo x 1)) := by
    show Is51 a (ivTo x 1)
    rw [ivTo_one (by rw [← ha.2]; exact Nat.mod_lt _ PR_pos)]
    exact ha
  clear ha
  have HA : Hid (Blk ((w.alloc (.cells (rowK .u64 (tab 5 a)) 90)).alloc (.cells #[.int .u64 0, .int .u64 0, .int .u64 0, .int .u64 0, .int .u64 0] 90)) w.heap.size 90 .u64 (tab 5 a)) := (Blk.new w _ _ _).alloc _
  have HR : Hid (Blk ((w.alloc (.cells (rowK .u64 (tab 5 a)) 90)).alloc (.cells #[.int .u64 0, .int .u64 0, .int .u64 0, .int .u64 0, .int .u64 0] 90)) (w.heap.size + 1) 90 .u64 (tab 5 zer17)) := by rw [← z5]; exact Blk.new2 w _ _ _ _
  have HB : Hid (Bel w.heap.size w ((w.alloc (.cells (rowK .u64 (tab 5 a)) 90)).alloc (.cells #[.int .u64 0, .int .u64 0, .int .u64 0, .int .u64 0, .int .u64 0] 90))) := ((Bel.refl _ _).alloc (Nat.le_refl _) _).alloc (by simp) _
  go_enter Tryd.func62, Tryd.ntmps62
  go_wp2_with (first | (generalize ((w.alloc (.cells (rowK .u64 (tab 5 a)) 90)).alloc (.cells #[.int .u64 0, .int .u64 0, .int .u64 0, .int .u64 0, .int .u64 0] 90)) = w1 at *; refine wpList_ldB HA.out Tryd.underlying90 rfl (info5 _) rfl _ rfl rfl ?_) | (refine wpList_stNew rfl _ _ rfl rfl rfl rfl rfl (info5 a) (z5n _) ?_; intro w5 bel h5))
  have hC := w1.heap.size
  replace HA := hide (HA.out.below bel HA.out.lt)
  have hrl := HR.out.lt
  replace HR := hide (HR.out.below bel HR.out.lt)
  replace HB := hide (HB.out.trans (bel.mono HB.out.size))
  have HC := hide h5
  clear bel h5 hC
  generalize w1.heap.size = C at *
  go_loopw [4] (fun t wr => ∃ (k : Nat) (r : Nat → Nat), k ≤ 254 ∧ t = .int .i64 (253 - (k : Int)) ∧ Bel w.heap.size w wr ∧ Blk wr w.heap.size 90 .u64 (tab 5 a) ∧ Blk wr (w.heap.size + 1) 90 .u64 (tab 5 zer17) ∧ Blk wr C 90 .u64 (tab 5 r) ∧ Is51 r (ivTo x (k + 1))) (fun t _ => (intOf t + 1).toNat)
  case atStart => exact ⟨0, a, Nat.zero_le _, rfl, HB.out, HA.out, HR.out, HC.out, I1.out⟩
  case round =>
    clear HB HA HR HC I1
    obtain ⟨k, r, hk, rfl, hB, hA, hR, hC, hI⟩ := hrel
    have HB := hide hB
    have HA := hide hA
    have HR := hide hR
    have HC := hide hC
    have HI := hide hI
    clear hB hA hR hC hI
    by_cases hk2 : k < 254
    · have h0 : (0 : Int) ≤ 253 - (k : Int) := by omega
      go_wp2_with (first | (refine wpList_ldB HC.out Tryd.underlying90 rfl (info5 _) rfl _ rfl rfl ?_))
      refine (timesI5 HI.out HI.out _).mono ?_
      rintro e w3 ⟨r2, rfl, hI2, hb3⟩
      have HB3 := hide (HB.out.trans (hb3.mono HB.out.size))
      have HA3 := hide (HA.out.below hb3 HA.out.lt)
      have HR3 := hide (HR.out.below hb3 HR.out.lt)
      have HC3 := hide (HC.out.below hb3 HC.out.lt)
      have HI2 := hide hI2
      clear hb3 hI2 HB HA HR HC HI
      by_cases h24 : 254 - (k + 1) = 2 ∨ 254 - (k + 1) = 4
      · have HIV : Hid (ivTo x (k + 1 + 1) = mulM (ivTo x (k + 1)) (ivTo x (k + 1))) := if_pos h24
        have h24' : k = 251 ∨ k = 249 := by omega
        clear h24
        rcases h24' with rfl | rfl
        · go_wp2_with (first | (refine wpList_stB HC3.out (info5 r2) (len5 _ _) rfl _ _ rfl rfl rfl rfl ?_; intro w5 hb5 ho5 hk5))
          have HB5 := hide (HB3.out.trans (hb5.mono (by omega)))
          have HA5 := hide (HA3.out.stays ho5 (by omega))
          have HR5 := hide (HR3.out.stays ho5 (by omega))
          clear hb5 ho5 HB3 HA3 HR3 HC3
          go_roundw
          case rel => exact ⟨252, r2, by omega, by go_num, HB5.out, HA5.out, HR5.out, hk5, by rw [HIV.out]; exact HI2.out⟩
          case measure => simp [intOf]
        · go_wp2_with (first | (refine wpList_stB HC3.out (info5 r2) (len5 _ _) rfl _ _ rfl rfl rfl rfl ?_; intro w5 hb5 ho5 hk5))
          have HB5 := hide (HB3.out.trans (hb5.mono (by omega)))
          have HA5 := hide (HA3.out.stays ho5 (by omega))
          have HR5 := hide (HR3.out.stays ho5 (by omega))
          clear hb5 ho5 HB3 HA3 HR3 HC3
          go_roundw
          case rel => exact ⟨250, r2, by omega, by go_num, HB5.out, HA5.out, HR5.out, hk5, by rw [HIV.out]; exact HI2.out⟩
          case measure => simp [intOf]
      · have HIV : Hid (ivTo x (k + 1 + 1) = mulM (mulM (ivTo x (k + 1)) (ivTo x (k + 1))) x) := if_neg h24
        have n2 : (253 - (k : Int) != 2) = true := bne_iff_ne.2 (by omega)
        have n4 : (253 - (k : Int) != 4) = true := bne_iff_ne.2 (by omega)
        clear h24
        go_wp2_with (first | (refine wpList_stB HC3.out (info5 r2) (len5 _ _) rfl _ _ rfl rfl rfl rfl ?_; intro w5 hb5 ho5 hk5) | (refine wpList_ldB hk5 Tryd.underlying90 rfl (info5 _) rfl _ rfl rfl ?_) | (refine wpList_ldB (HA3.out.stays ho5 (by omega)) Tryd.underlying90 rfl (info5 _) rfl _ rfl rfl ?_))
        have HB5 := hide (HB3.out.trans (hb5.mono (by omega)))
        have HA5 := hide (HA3.out.stays ho5 (by omega))
        have HR5 := hide (HR3.out.stays ho5 (by omega))
        have HC5 := hide hk5
        clear hb5 ho5 hk5 HB3 HA3 HR3 HC3
        refine (timesI5 HI2.out IA.out _).mono ?_
        rintro e w6 ⟨r3, rfl, hI3, hb6⟩
        have HB6 := hide (HB5.out.trans (hb6.mono HB5.out.size))
        have HA6 := hide (HA5.out.below hb6 HA5.out.lt)
        have HR6 := hide (HR5.out.below hb6 HR5.out.lt)
        have HC6 := hide (HC5.out.below hb6 HC5.out.lt)
        have HI3 := hide hI3
        clear hb6 hI3 HB5 HA5 HR5 HC5 HI2
        go_wp2_with (first | (refine wpList_stB HC6.out (info5 r3) (len5 _ _) rfl _ _ rfl rfl rfl rfl ?_; intro w7 hb7 ho7 hk7))
        have HB7 := hide (HB6.out.trans (hb7.mono (by omega)))
        have HA7 := hide (HA6.out.stays ho7 (by omega))
        have HR7 := hide (HR6.out.stays ho7 (by omega))
        clear hb7 ho7 HB6 HA6 HR6 HC6
        go_roundw
        case rel => exact ⟨k + 1, r3, by omega, by apply congrArg (Value.int .i64); omega, HB7.out, HA7.out, HR7.out, hk7, by rw [HIV.out]; exact HI3.out⟩
        case measure => simp [intOf]; omega
    · have h254 : k = 254 := by omega
      subst h254
      go_wp2_with (first | (refine wpList_ldB HC.out Tryd.underlying90 rfl (info5 _) rfl _ rfl rfl ?_) | (refine wpList_stB HR.out (info5 r) (len5 _ _) rfl _ _ rfl rfl rfl rfl ?_; intro w5 hb5 ho5 hk5))
      refine bodyPost_ret (v := .agg (rowK .u64 (tab 5 r))) (ret5 Tryd.results62 _ _ _ _ rfl hk5) rfl ⟨r, rfl, HI.out, HB.out.trans (hb5.mono (by omega))⟩
end Go.Proofs.YtlchpbnpmgfaoaaDoor
