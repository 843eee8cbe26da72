/-
  The document's inverse.
-/
import Derived.Test.YtgjdogkciklgkaaDoorRefUnp
import Derived.Test.YtgjdogkciklgkaaDoorTimes
namespace Go.Proofs.YtgjdogkciklgkaaDoor
open Go.RowKit

/-- A number's digits, and what it is modulo the prime. -/
def Is15 (h : Nat → Nat) (m : Nat) : Prop := Ok15 h ∧ V15 h % PR = m
theorem Is15.ok {h : Nat → Nat} {m : Nat} (x : Is15 h m) : Ok15 h := x.1
theorem timesI {a b : Nat → Nat} {x y : Nat} (ha : Is15 a x) (hb : Is15 b y) (w : World) :
    Calls Tryd.prog 113 #[.agg (rowK .i64 (tab 17 a)), .agg (rowK .i64 (tab 17 b))] w fun e w' => ∃ h, e = .returned (.agg (rowK .i64 (tab 17 h))) ∧ Is15 h (mulM x y) ∧ Bel w.heap.size w w' :=
  (timesR a b ha.1 hb.1 w).mono fun _ _ ⟨h, he, hok, hv, hb'⟩ => ⟨h, he, ⟨hok, by rw [hv, ha.2, hb.2]⟩, hb'⟩
theorem plusI {a b : Nat → Nat} {x y : Nat} (ha : Is15 a x) (hb : Is15 b y) (w : World) :
    Calls Tryd.prog 121 #[.agg (rowK .i64 (tab 17 a)), .agg (rowK .i64 (tab 17 b))] w fun e w' => ∃ h, e = .returned (.agg (rowK .i64 (tab 17 h))) ∧ Is15 h (addM x y) ∧ Bel w.heap.size w w' :=
  (plusR a b ha.1 hb.1 w).mono fun _ _ ⟨he, hb'⟩ => ⟨plN a b, he, ⟨plN_ok ha.1 hb.1, by rw [plN_mod, ha.2, hb.2]⟩, hb'⟩
theorem lessI {a b : Nat → Nat} {x y : Nat} (ha : Is15 a x) (hb : Is15 b y) (w : World) :
    Calls Tryd.prog 122 #[.agg (rowK .i64 (tab 17 a)), .agg (rowK .i64 (tab 17 b))] w fun e w' => ∃ h, e = .returned (.agg (rowK .i64 (tab 17 h))) ∧ Is15 h (subM x y) ∧ Bel w.heap.size w w' :=
  (lessR a b ha.1 hb.1 w).mono fun _ _ ⟨he, hb'⟩ => ⟨lsN a b, he, ⟨lsN_ok ha.1, by rw [lsN_mod hb.1, ha.2, hb.2]⟩, hb'⟩
theorem num15_is {n : Nat} (h : n < 1073741824) : Is15 (num15 n) n := ⟨num15_ok h, by rw [num15_val]; exact Nat.mod_eq_of_lt (Nat.lt_of_lt_of_le h (by decide +kernel))⟩
/-- The power that inverts, k steps of it. -/
def ivTo (x : Nat) : Nat → Nat
  | 0 => 1
  | k + 1 => if 254 - k = 2 ∨ 254 - k = 4 then mulM (ivTo x k) (ivTo x k) else mulM (mulM (ivTo x k) (ivTo x k)) x

set_option maxRecDepth 100000 in
set_option maxHeartbeats 2000000 in
theorem inverseR (a : Nat → Nat) (x : Nat) (ha : Is15 a x) (w : World) :
    Calls Tryd.prog 111 #[.agg (rowK .i64 (tab 17 a))] w fun e w' => ∃ h, e = .returned (.agg (rowK .i64 (tab 17 h))) ∧ Is15 h (ivTo x 255) ∧ Bel w.heap.size w w' := by
  have IA := hide ha
  clear ha
  go_enter Tryd.func111, Tryd.ntmps111
  go_wp2_with fail
  rw [← z17]
  have HB : Hid (Bel w.heap.size w ((w.alloc (.cells (rowK .i64 (tab 17 a)) 143)).alloc (.cells (rowK .i64 (tab 17 zer17)) 143))) := (((Bel.refl _ _).alloc (by simp) _).alloc (by simp) _)
  have HA : Hid (Blk ((w.alloc (.cells (rowK .i64 (tab 17 a)) 143)).alloc (.cells (rowK .i64 (tab 17 zer17)) 143)) (w.heap.size) 143 .i64 (tab 17 a)) := ((blkAt w (w.heap.size) 143 .i64 (tab 17 a) (by simp)).alloc _)
  have HR : Hid (Blk ((w.alloc (.cells (rowK .i64 (tab 17 a)) 143)).alloc (.cells (rowK .i64 (tab 17 zer17)) 143)) (w.heap.size + 1) 143 .i64 (tab 17 zer17)) := (blkAt (w.alloc (.cells (rowK .i64 (tab 17 a)) 143)) (w.heap.size + 1) 143 .i64 (tab 17 zer17) (by simp))
  generalize ((w.alloc (.cells (rowK .i64 (tab 17 a)) 143)).alloc (.cells (rowK .i64 (tab 17 zer17)) 143)) = w1 at *
  refine (numberR 1 (by decide) _).mono ?_
  rintro e w2 ⟨rfl, hb2⟩
  have HB2 := hide (HB.out.trans (hb2.mono HB.out.size))
  have HA2 := hide (HA.out.below hb2 HA.out.lt)
  have HR2 := hide (HR.out.below hb2 HR.out.lt)
  have I1 := hide (num15_is (n := 1) (by decide))
  clear hb2 HB HA HR
  generalize num15 1 = one at *
  have hrl := HR2.out.lt
  have HC : Hid (Blk (w2.alloc (.cells (rowK .i64 (tab 17 zer17)) 143)) w2.heap.size 143 .i64 (tab 17 zer17)) := Blk.new _ _ _ _
  have HB := hide (HB2.out.alloc HB2.out.size (.cells (rowK .i64 (tab 17 zer17)) 143))
  have HA := hide (HA2.out.alloc (.cells (rowK .i64 (tab 17 zer17)) 143))
  have HR := hide (HR2.out.alloc (.cells (rowK .i64 (tab 17 zer17)) 143))
  clear HB2 HA2 HR2
  rw [z17] at HC HB HA HR
  have HE := hide z17
  go_wp2_with (first | (rw [← HE.out] at HC HB HA HR; rw [← HE.out]; refine wpList_stB HC.out (infoN one) (lenN _ _) rfl _ _ rfl rfl rfl rfl ?_; intro w5 hb5 ho5 hk5))
  have HB5 := hide (HB.out.trans (hb5.mono (Nat.le_of_lt (Nat.lt_of_le_of_lt (Nat.le_succ _) hrl))))
  have HA5 := hide (HA.out.stays ho5 (by omega))
  have HR5 := hide (HR.out.stays ho5 (by omega))
  have HC5 := hide hk5
  clear HB HA HR HC hb5 ho5 hk5
  generalize w2.heap.size = C at *
  go_loopw [4] (fun t wr => ∃ (k : Nat) (r : Nat → Nat), k ≤ 255 ∧ t = .int .i64 (254 - (k : Int)) ∧ Bel w.heap.size w wr ∧ Blk wr w.heap.size 143 .i64 (tab 17 a) ∧ Blk wr (w.heap.size + 1) 143 .i64 (tab 17 zer17) ∧ Blk wr C 143 .i64 (tab 17 r) ∧ Is15 r (ivTo x k)) (fun t _ => (intOf t + 1).toNat)
  case atStart => exact ⟨0, one, Nat.zero_le _, rfl, HB5.out, HA5.out, HR5.out, HC5.out, I1.out⟩
  case round =>
    clear HB5 HA5 HR5 HC5 I1
    obtain ⟨k, r, hk, rfl, hB, hA, hR, hC, hI⟩ := hrel
    have HB := hide hB
    have HA := hide hA
    have HR := hide hR
    have HC := hide hC
    have HI := hide hI
    clear hB hA hR hC hI
    by_cases hk2 : k < 255
    · have h0 : (0 : Int) ≤ 254 - (k : Int) := by omega
      go_wp2_with (first | (refine wpList_ldB HC.out Tryd.underlying143 rfl (infoN _) rfl _ rfl rfl ?_))
      refine (timesI HI.out HI.out _).mono ?_
      rintro e w3 ⟨r2, rfl, hI2, hb3⟩
      have HB3 := hide (HB.out.trans (hb3.mono HB.out.size))
      have HA3 := hide (HA.out.below hb3 HA.out.lt)
      have HR3 := hide (HR.out.below hb3 HR.out.lt)
      have HC3 := hide (HC.out.below hb3 HC.out.lt)
      have HI2 := hide hI2
      clear hb3 hI2 HB HA HR HC HI
      by_cases h24 : 254 - k = 2 ∨ 254 - k = 4
      · have HIV : Hid (ivTo x (k + 1) = mulM (ivTo x k) (ivTo x k)) := if_pos h24
        have h24' : k = 252 ∨ k = 250 := by omega
        clear h24
        rcases h24' with rfl | rfl
        · go_wp2_with (first | (refine wpList_stB HC3.out (infoN r2) (lenN _ _) rfl _ _ rfl rfl rfl rfl ?_; intro w5 hb5 ho5 hk5))
          have HB5 := hide (HB3.out.trans (hb5.mono (by omega)))
          have HA5 := hide (HA3.out.stays ho5 (by omega))
          have HR5 := hide (HR3.out.stays ho5 (by omega))
          clear hb5 ho5 HB3 HA3 HR3 HC3
          go_roundw
          case rel => exact ⟨253, r2, by omega, by go_num, HB5.out, HA5.out, HR5.out, hk5, by rw [HIV.out]; exact HI2.out⟩
          case measure => simp [intOf]
        · go_wp2_with (first | (refine wpList_stB HC3.out (infoN r2) (lenN _ _) rfl _ _ rfl rfl rfl rfl ?_; intro w5 hb5 ho5 hk5))
          have HB5 := hide (HB3.out.trans (hb5.mono (by omega)))
          have HA5 := hide (HA3.out.stays ho5 (by omega))
          have HR5 := hide (HR3.out.stays ho5 (by omega))
          clear hb5 ho5 HB3 HA3 HR3 HC3
          go_roundw
          case rel => exact ⟨251, r2, by omega, by go_num, HB5.out, HA5.out, HR5.out, hk5, by rw [HIV.out]; exact HI2.out⟩
          case measure => simp [intOf]
      · have HIV : Hid (ivTo x (k + 1) = mulM (mulM (ivTo x k) (ivTo x k)) x) := if_neg h24
        have n2 : (254 - (k : Int) != 2) = true := bne_iff_ne.2 (by omega)
        have n4 : (254 - (k : Int) != 4) = true := bne_iff_ne.2 (by omega)
        clear h24
        go_wp2_with (first | (refine wpList_stB HC3.out (infoN r2) (lenN _ _) rfl _ _ rfl rfl rfl rfl ?_; intro w5 hb5 ho5 hk5) | (refine wpList_ldB hk5 Tryd.underlying143 rfl (infoN _) rfl _ rfl rfl ?_) | (refine wpList_ldB (HA3.out.stays ho5 (by omega)) Tryd.underlying143 rfl (infoN _) rfl _ rfl rfl ?_))
        have HB5 := hide (HB3.out.trans (hb5.mono (by omega)))
        have HA5 := hide (HA3.out.stays ho5 (by omega))
        have HR5 := hide (HR3.out.stays ho5 (by omega))
        have HC5 := hide hk5
        clear hb5 ho5 hk5 HB3 HA3 HR3 HC3
        refine (timesI HI2.out IA.out _).mono ?_
        rintro e w6 ⟨r3, rfl, hI3, hb6⟩
        have HB6 := hide (HB5.out.trans (hb6.mono HB5.out.size))
        have HA6 := hide (HA5.out.below hb6 HA5.out.lt)
        have HR6 := hide (HR5.out.below hb6 HR5.out.lt)
        have HC6 := hide (HC5.out.below hb6 HC5.out.lt)
        have HI3 := hide hI3
        clear hb6 hI3 HB5 HA5 HR5 HC5 HI2
        go_wp2_with (first | (refine wpList_stB HC6.out (infoN r3) (lenN _ _) rfl _ _ rfl rfl rfl rfl ?_; intro w7 hb7 ho7 hk7))
        have HB7 := hide (HB6.out.trans (hb7.mono (by omega)))
        have HA7 := hide (HA6.out.stays ho7 (by omega))
        have HR7 := hide (HR6.out.stays ho7 (by omega))
        clear hb7 ho7 HB6 HA6 HR6 HC6
        go_roundw
        case rel => exact ⟨k + 1, r3, by omega, by apply congrArg (Value.int .i64); omega, HB7.out, HA7.out, HR7.out, hk7, by rw [HIV.out]; exact HI3.out⟩
        case measure => simp [intOf]; omega
    · have h255 : k = 255 := by omega
      subst h255
      go_wp2_with (first | (refine wpList_ldB HC.out Tryd.underlying143 rfl (infoN _) rfl _ rfl rfl ?_) | (refine wpList_stB HR.out (infoN r) (lenN _ _) rfl _ _ rfl rfl rfl rfl ?_; intro w5 hb5 ho5 hk5))
      refine bodyPost_ret (v := .agg (rowK .i64 (tab 17 r))) (retN Tryd.results111 _ _ _ _ rfl hk5) rfl ⟨r, rfl, HI.out, HB.out.trans (hb5.mono (by omega))⟩
end Go.Proofs.YtgjdogkciklgkaaDoor
namespace Go.Proofs.YtgjdogkciklgkaaDoor
open Go.RowKit

theorem timesI5 {a b : Nat → Nat} {x y : Nat} (ha : Is51 a x) (hb : Is51 b y) (w : World) :
    Calls Tryd.prog 60 #[.agg (rowK .u64 (tab 5 a)), .agg (rowK .u64 (tab 5 b))] w fun e w' => ∃ h, e = .returned (.agg (rowK .u64 (tab 5 h))) ∧ Is51 h (mulM x y) ∧ Bel w.heap.size w w' :=
  (timesP a b ha.1 hb.1 w).mono fun _ _ ⟨he, hb'⟩ => ⟨ti51 a b, he, ti51_is ha hb, hb'⟩
theorem plusI5 {a b : Nat → Nat} {x y : Nat} (ha : Is51 a x) (hb : Is51 b y) (w : World) :
    Calls Tryd.prog 83 #[.agg (rowK .u64 (tab 5 a)), .agg (rowK .u64 (tab 5 b))] w fun e w' => ∃ h, e = .returned (.agg (rowK .u64 (tab 5 h))) ∧ Is51 h (addM x y) ∧ Bel w.heap.size w w' :=
  (plusP a b ha.1 hb.1 w).mono fun _ _ ⟨he, hb'⟩ => ⟨_, he, pl51_is ha hb, hb'⟩
theorem minusI5 {a b : Nat → Nat} {x y : Nat} (ha : Is51 a x) (hb : Is51 b y) (w : World) :
    Calls Tryd.prog 84 #[.agg (rowK .u64 (tab 5 a)), .agg (rowK .u64 (tab 5 b))] w fun e w' => ∃ h, e = .returned (.agg (rowK .u64 (tab 5 h))) ∧ Is51 h (subM x y) ∧ Bel w.heap.size w w' :=
  (minusP a b ha.1 hb.1 w).mono fun _ _ ⟨he, hb'⟩ => ⟨_, he, mi51_is ha hb, hb'⟩
theorem z5n (h : Nat → Nat) : (#[Value.int .u64 0, .int .u64 0, .int .u64 0, .int .u64 0, .int .u64 0] : Array Value).size = (tab 5 h).length := by rw [tab_length]; rfl
theorem ivTo_one {x : Nat} (h : x < PR) : ivTo x 1 = x := by
  show (if 254 - 0 = 2 ∨ 254 - 0 = 4 then mulM 1 1 else mulM (mulM 1 1) x) = x
  rw [if_neg (by decide)]
  have e : mulM 1 1 = 1 := by decide +kernel
  rw [e]
  unfold mulM
  rw [Nat.one_mul]
  exact Nat.mod_eq_of_lt h

set_option maxRecDepth 100000 in
set_option maxHeartbeats 2000000 in
theorem inverseP (a : Nat → Nat) (x : Nat) (ha : Is51 a x) (w : World) :
    Calls Tryd.prog 61 #[.agg (rowK .u64 (tab 5 a))] w fun e w' => ∃ h, e = .returned (.agg (rowK .u64 (tab 5 h))) ∧ Is51 h (ivTo x 255) ∧ Bel w.heap.size w w' := by
  have IA := hide ha
  have I1 : Hid (Is51 a (ivTo x 1)) := by
    show Is51 a (ivTo x 1)
    rw [ivTo_one (by rw [← ha.2]; exact Nat.mod_lt _ PR_pos)]
    exact ha
  clear ha
  have HA : Hid (Blk ((w.alloc (.cells (rowK .u64 (tab 5 a)) 88)).alloc (.cells #[.int .u64 0, .int .u64 0, .int .u64 0, .int .u64 0, .int .u64 0] 88)) w.heap.size 88 .u64 (tab 5 a)) := (Blk.new w _ _ _).alloc _
  have HR : Hid (Blk ((w.alloc (.cells (rowK .u64 (tab 5 a)) 88)).alloc (.cells #[.int .u64 0, .int .u64 0, .int .u64 0, .int .u64 0, .int .u64 0] 88)) (w.heap.size + 1) 88 .u64 (tab 5 zer17)) := by rw [← z5]; exact Blk.new2 w _ _ _ _
  have HB : Hid (Bel w.heap.size w ((w.alloc (.cells (rowK .u64 (tab 5 a)) 88)).alloc (.cells #[.int .u64 0, .int .u64 0, .int .u64 0, .int .u64 0, .int .u64 0] 88))) := ((Bel.refl _ _).alloc (Nat.le_refl _) _).alloc (by simp) _
  go_enter Tryd.func61, Tryd.ntmps61
  go_wp2_with (first | (generalize ((w.alloc (.cells (rowK .u64 (tab 5 a)) 88)).alloc (.cells #[.int .u64 0, .int .u64 0, .int .u64 0, .int .u64 0, .int .u64 0] 88)) = w1 at *; refine wpList_ldB HA.out Tryd.underlying88 rfl (info5 _) rfl _ rfl rfl ?_) | (refine wpList_stNew rfl _ _ rfl rfl rfl rfl rfl (info5 a) (z5n _) ?_; intro w5 bel h5))
  have hC := w1.heap.size
  replace HA := hide (HA.out.below bel HA.out.lt)
  have hrl := HR.out.lt
  replace HR := hide (HR.out.below bel HR.out.lt)
  replace HB := hide (HB.out.trans (bel.mono HB.out.size))
  have HC := hide h5
  clear bel h5 hC
  generalize w1.heap.size = C at *
  go_loopw [4] (fun t wr => ∃ (k : Nat) (r : Nat → Nat), k ≤ 254 ∧ t = .int .i64 (253 - (k : Int)) ∧ Bel w.heap.size w wr ∧ Blk wr w.heap.size 88 .u64 (tab 5 a) ∧ Blk wr (w.heap.size + 1) 88 .u64 (tab 5 zer17) ∧ Blk wr C 88 .u64 (tab 5 r) ∧ Is51 r (ivTo x (k + 1))) (fun t _ => (intOf t + 1).toNat)
  case atStart => exact ⟨0, a, Nat.zero_le _, rfl, HB.out, HA.out, HR.out, HC.out, I1.out⟩
  case round =>
    clear HB HA HR HC I1
    obtain ⟨k, r, hk, rfl, hB, hA, hR, hC, hI⟩ := hrel
    have HB := hide hB
    have HA := hide hA
    have HR := hide hR
    have HC := hide hC
    have HI := hide hI
    clear hB hA hR hC hI
    by_cases hk2 : k < 254
    · have h0 : (0 : Int) ≤ 253 - (k : Int) := by omega
      go_wp2_with (first | (refine wpList_ldB HC.out Tryd.underlying88 rfl (info5 _) rfl _ rfl rfl ?_))
      refine (timesI5 HI.out HI.out _).mono ?_
      rintro e w3 ⟨r2, rfl, hI2, hb3⟩
      have HB3 := hide (HB.out.trans (hb3.mono HB.out.size))
      have HA3 := hide (HA.out.below hb3 HA.out.lt)
      have HR3 := hide (HR.out.below hb3 HR.out.lt)
      have HC3 := hide (HC.out.below hb3 HC.out.lt)
      have HI2 := hide hI2
      clear hb3 hI2 HB HA HR HC HI
      by_cases h24 : 254 - (k + 1) = 2 ∨ 254 - (k + 1) = 4
      · have HIV : Hid (ivTo x (k + 1 + 1) = mulM (ivTo x (k + 1)) (ivTo x (k + 1))) := if_pos h24
        have h24' : k = 251 ∨ k = 249 := by omega
        clear h24
        rcases h24' with rfl | rfl
        · go_wp2_with (first | (refine wpList_stB HC3.out (info5 r2) (len5 _ _) rfl _ _ rfl rfl rfl rfl ?_; intro w5 hb5 ho5 hk5))
          have HB5 := hide (HB3.out.trans (hb5.mono (by omega)))
          have HA5 := hide (HA3.out.stays ho5 (by omega))
          have HR5 := hide (HR3.out.stays ho5 (by omega))
          clear hb5 ho5 HB3 HA3 HR3 HC3
          go_roundw
          case rel => exact ⟨252, r2, by omega, by go_num, HB5.out, HA5.out, HR5.out, hk5, by rw [HIV.out]; exact HI2.out⟩
          case measure => simp [intOf]
        · go_wp2_with (first | (refine wpList_stB HC3.out (info5 r2) (len5 _ _) rfl _ _ rfl rfl rfl rfl ?_; intro w5 hb5 ho5 hk5))
          have HB5 := hide (HB3.out.trans (hb5.mono (by omega)))
          have HA5 := hide (HA3.out.stays ho5 (by omega))
          have HR5 := hide (HR3.out.stays ho5 (by omega))
          clear hb5 ho5 HB3 HA3 HR3 HC3
          go_roundw
          case rel => exact ⟨250, r2, by omega, by go_num, HB5.out, HA5.out, HR5.out, hk5, by rw [HIV.out]; exact HI2.out⟩
          case measure => simp [intOf]
      · have HIV : Hid (ivTo x (k + 1 + 1) = mulM (mulM (ivTo x (k + 1)) (ivTo x (k + 1))) x) := if_neg h24
        have n2 : (253 - (k : Int) != 2) = true := bne_iff_ne.2 (by omega)
        have n4 : (253 - (k : Int) != 4) = true := bne_iff_ne.2 (by omega)
        clear h24
        go_wp2_with (first | (refine wpList_stB HC3.out (info5 r2) (len5 _ _) rfl _ _ rfl rfl rfl rfl ?_; intro w5 hb5 ho5 hk5) | (refine wpList_ldB hk5 Tryd.underlying88 rfl (info5 _) rfl _ rfl rfl ?_) | (refine wpList_ldB (HA3.out.stays ho5 (by omega)) Tryd.underlying88 rfl (info5 _) rfl _ rfl rfl ?_))
        have HB5 := hide (HB3.out.trans (hb5.mono (by omega)))
        have HA5 := hide (HA3.out.stays ho5 (by omega))
        have HR5 := hide (HR3.out.stays ho5 (by omega))
        have HC5 := hide hk5
        clear hb5 ho5 hk5 HB3 HA3 HR3 HC3
        refine (timesI5 HI2.out IA.out _).mono ?_
        rintro e w6 ⟨r3, rfl, hI3, hb6⟩
        have HB6 := hide (HB5.out.trans (hb6.mono HB5.out.size))
        have HA6 := hide (HA5.out.below hb6 HA5.out.lt)
        have HR6 := hide (HR5.out.below hb6 HR5.out.lt)
        have HC6 := hide (HC5.out.below hb6 HC5.out.lt)
        have HI3 := hide hI3
        clear hb6 hI3 HB5 HA5 HR5 HC5 HI2
        go_wp2_with (first | (refine wpList_stB HC6.out (info5 r3) (len5 _ _) rfl _ _ rfl rfl rfl rfl ?_; intro w7 hb7 ho7 hk7))
        have HB7 := hide (HB6.out.trans (hb7.mono (by omega)))
        have HA7 := hide (HA6.out.stays ho7 (by omega))
        have HR7 := hide (HR6.out.stays ho7 (by omega))
        clear hb7 ho7 HB6 HA6 HR6 HC6
        go_roundw
        case rel => exact ⟨k + 1, r3, by omega, by apply congrArg (Value.int .i64); omega, HB7.out, HA7.out, HR7.out, hk7, by rw [HIV.out]; exact HI3.out⟩
        case measure => simp [intOf]; omega
    · have h254 : k = 254 := by omega
      subst h254
      go_wp2_with (first | (refine wpList_ldB HC.out Tryd.underlying88 rfl (info5 _) rfl _ rfl rfl ?_) | (refine wpList_stB HR.out (info5 r) (len5 _ _) rfl _ _ rfl rfl rfl rfl ?_; intro w5 hb5 ho5 hk5))
      refine bodyPost_ret (v := .agg (rowK .u64 (tab 5 r))) (ret5 Tryd.results61 _ _ _ _ rfl hk5) rfl ⟨r, rfl, HI.out, HB.out.trans (hb5.mono (by omega))⟩
end Go.Proofs.YtgjdogkciklgkaaDoor
