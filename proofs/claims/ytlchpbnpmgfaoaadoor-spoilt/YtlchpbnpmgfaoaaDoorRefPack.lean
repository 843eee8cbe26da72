/-
  The document's packed.
-/
import Derived.Test.YtlchpbnpmgfaoaaDoorRefUnp
import Derived.Test.YtlchpbnpmgfaoaaDoorBoxR
namespace Go.Proofs.YtlchpbnpmgfaoaaDoor
open Go.RowKit

theorem sumB_digit (B : Nat) (g : Nat → Nat) (n j : Nat) (hj : j < n) (h : ∀ i, i < n → g i < B) : sumB B g n / B ^ j % B = g j := by
  have hB : 0 < B := Nat.lt_of_le_of_lt (Nat.zero_le _) (h j hj)
  obtain ⟨m, rfl⟩ : ∃ m, n = j + (1 + m) := ⟨n - j - 1, by omega⟩
  rw [sumB_split B g j (1 + m), sumB_split B (fun i => g (i + j)) 1 m]
  have h1 : sumB B (fun i => g (i + j)) 1 = g j := by simp [sumB]
  have h2 := sumB_lt B hB g j (fun i hi => h i (by omega))
  rw [h1, Nat.add_mul_div_left _ _ (Nat.pow_pos hB), Nat.div_eq_of_lt h2, Nat.zero_add, Nat.pow_one, Nat.add_mul_mod_self_left]
  exact Nat.mod_eq_of_lt (h j hj)
def vbit (v i : Nat) : Nat := v / 2 ^ i % 2
theorem vbit_lt (v i : Nat) : vbit v i < 2 := Nat.mod_lt _ (by decide)
theorem bit_of_digit (c : Nat) (g : Nat → Nat) (n i : Nat) (hc : 0 < c) (hi : i < c * n) (h : ∀ j, j < n → g j < 2 ^ c) : g (i / c) / 2 ^ (i % c) % 2 = vbit (sumB (2 ^ c) g n) i := by
  have hj : i / c < n := Nat.div_lt_of_lt_mul hi
  have hm := Nat.mod_lt i hc
  rw [← sumB_digit (2 ^ c) g n (i / c) hj h]
  generalize sumB (2 ^ c) g n = v
  unfold vbit
  rw [← Nat.pow_mul]
  obtain ⟨r, hr⟩ : ∃ r, c = i % c + (r + 1) := ⟨c - i % c - 1, by omega⟩
  have e : (2 : Nat) ^ c = 2 ^ (i % c) * 2 ^ (r + 1) := by rw [← Nat.pow_add, ← hr]
  have h3 : v / 2 ^ (c * (i / c)) % 2 ^ c / 2 ^ (i % c) = v / 2 ^ (c * (i / c)) / 2 ^ (i % c) % 2 ^ (r + 1) := by
    rw [e, Nat.mod_mul_right_div_self]
  rw [h3, Nat.mod_mod_of_dvd _ (by rw [Nat.pow_succ]; exact Nat.dvd_mul_left _ _), Nat.div_div_eq_div_mul, ← Nat.pow_add, Nat.div_add_mod]
/-- 32 bytes of a number. -/
def outB (v : Nat) : List UInt8 := (tab 32 (grp 8 (vbit v) 255)).map UInt8.ofNat
theorem outB_length (v : Nat) : (outB v).length = 32 := by unfold outB; rw [List.length_map, tab_length]

/-- One round of taking the prime off. -/
def ca19 (g : Nat → Nat) (i : Nat) : Nat := crry 32768 19 g i
def lo19 (g : Nat → Nat) (i : Nat) : Nat := (ca19 g i + g i) % 32768
def off19 (g : Nat → Nat) : Nat → Nat := if 0 < ca19 g 17 then lo19 g else g
theorem off19_ok {g : Nat → Nat} (h : Ok15 g) : Ok15 (off19 g) := by
  unfold off19
  split
  · exact fun i _ => Nat.mod_lt _ (by decide)
  · exact h
theorem off19_val {g : Nat → Nat} (h : Ok15 g) : V15 (off19 g) = V15 g % PR ∧ (ca19 g 17 ≤ 1) := by
  have h1 := sumB_crry 32768 19 g 17
  have h2 : sumB 32768 (fun i => (crry 32768 19 g i + g i) % 32768) 17 = V15 (lo19 g) := rfl
  have h3 : crry 32768 19 g 17 = ca19 g 17 := rfl
  have h4 : sumB 32768 g 17 = V15 g := rfl
  rw [h2, h3, h4, ← PR_eq] at h1
  have h5 := V15_lt h
  have h6 : V15 (lo19 g) < PR + 19 := V15_lt (fun i _ => Nat.mod_lt _ (by decide))
  have hp : 19 < PR := by decide +kernel
  have h7 : ca19 g 17 ≤ 1 := by
    rcases Nat.lt_or_ge (ca19 g 17) 2 with h | h
    · omega
    · have := Nat.mul_le_mul_right (PR + 19) h
      omega
  refine ⟨?_, h7⟩
  unfold off19
  rcases Nat.eq_zero_or_pos (ca19 g 17) with hz | hpos
  · rw [if_neg (by omega)]
    rw [hz, Nat.zero_mul] at h1
    exact (Nat.mod_eq_of_lt (by omega)).symm
  · rw [if_pos hpos]
    have e : ca19 g 17 = 1 := by omega
    rw [e, Nat.one_mul] at h1
    rw [show V15 g = V15 (lo19 g) + PR by omega, Nat.add_mod_right]
    exact (Nat.mod_eq_of_lt (by omega)).symm
def offN (g : Nat → Nat) : Nat → (Nat → Nat)
  | 0 => g
  | k + 1 => off19 (offN g k)
theorem offN_ok {g : Nat → Nat} (h : Ok15 g) : ∀ k, Ok15 (offN g k)
  | 0 => h
  | k + 1 => off19_ok (offN_ok h k)
theorem offN_two {g : Nat → Nat} (h : Ok15 g) : V15 (offN g 2) = V15 g % PR := by
  show V15 (off19 (off19 g)) = _
  rw [(off19_val (off19_ok h)).1, (off19_val h).1, Nat.mod_mod]
theorem ca19_lt {g : Nat → Nat} (h : Ok15 g) : ∀ i, i ≤ 17 → ca19 g i < 65536
  | 0, _ => by show 19 < 65536; decide
  | i + 1, hi => by
    have h1 := ca19_lt h i (by omega)
    have h2 := h i (by omega)
    show (ca19 g i + g i) / 32768 < 65536
    omega
theorem out_eq {d x a m : Nat} (hd : d < 2 ^ m) (hx : x < 32768) (hm : m < 8) :
    bits .or .u8 (d : Int) (wrap64 (bits .and .i64 ((x : Int) / 2 ^ a) 1 * 2 ^ m) % 256) = ((d + x / 2 ^ a % 2 * 2 ^ m : Nat) : Int) := by
  have h1 : x / 2 ^ a < 9223372036854775808 := Nat.lt_of_le_of_lt (Nat.div_le_self _ _) (by omega)
  have h2 : x / 2 ^ a % 2 < 2 := Nat.mod_lt _ (by decide)
  rw [shr_cast, and1 _ h1, shl_cast h2 (by omega)]
  generalize x / 2 ^ a % 2 = b at *
  have h3 : 2 ^ m ≤ 128 := Nat.le_trans (Nat.pow_le_pow_right (by decide) (show m ≤ 7 by omega)) (by decide)
  have h4 : b * 2 ^ m ≤ 1 * 128 := Nat.mul_le_mul (by omega) h3
  rw [show ((b * 2 ^ m : Nat) : Int) % 256 = ((b * 2 ^ m : Nat) : Int) by omega, u8_or_nat _ _ (by omega) (by omega), or_add hd]

set_option maxRecDepth 100000 in
set_option maxHeartbeats 2000000 in
theorem packedR (a : Nat → Nat) (ha : Ok15 a) (w : World) :
    Calls Tryd.prog 112 #[.agg (rowK .i64 (tab 17 a))] w fun e w' => e = .returned (.string (str (outB (V15 a % PR)))) ∧ Bel w.heap.size w w' := by
  have HV := hide (offN_two ha)
  have HOK := hide (offN_ok ha)
  clear ha
  go_enter Tryd.func112, Tryd.ntmps112
  go_wp2
  rw [← z17]
  have HB : Hid (Bel w.heap.size w ((w.alloc (.cells (rowK .i64 (tab 17 a)) 142)).alloc (.cells (rowK .i64 (tab 17 zer17)) 142))) := (((Bel.refl _ _).alloc (by simp) _).alloc (by simp) _)
  have HA : Hid (Blk ((w.alloc (.cells (rowK .i64 (tab 17 a)) 142)).alloc (.cells (rowK .i64 (tab 17 zer17)) 142)) (w.heap.size) 142 .i64 (tab 17 a)) := ((blkAt w (w.heap.size) 142 .i64 (tab 17 a) (by simp)).alloc _)
  have HC : Hid (Blk ((w.alloc (.cells (rowK .i64 (tab 17 a)) 142)).alloc (.cells (rowK .i64 (tab 17 zer17)) 142)) (w.heap.size + 1) 142 .i64 (tab 17 zer17)) := (blkAt (w.alloc (.cells (rowK .i64 (tab 17 a)) 142)) (w.heap.size + 1) 142 .i64 (tab 17 zer17) (by simp))
  generalize ((w.alloc (.cells (rowK .i64 (tab 17 a)) 142)).alloc (.cells (rowK .i64 (tab 17 zer17)) 142)) = w1 at *
  go_loopw [4] (fun t wr => ∃ k : Nat, k ≤ 17 ∧ t = .int .i64 k ∧ Bel w.heap.size w wr ∧ Blk wr w.heap.size 142 .i64 (tab 17 a) ∧ Blk wr (w.heap.size + 1) 142 .i64 (partTo a zer17 17 k)) (fun t _ => 17 - (intOf t).toNat)
  case atStart => exact ⟨0, Nat.zero_le _, rfl, HB.out, HA.out, by rw [partTo_none]; exact HC.out⟩
  case round =>
    clear HB HA HC
    obtain ⟨k, hk, rfl, hB, hA, hC⟩ := hrel
    have HB := hide hB
    have HA := hide hA
    have HC := hide hC
    clear hB
    by_cases hk2 : k < 17
    · have ca := hA.cell k (by rw [tab_length]; omega)
      rw [tab_getD _ _ _ hk2] at ca
      have cc := hC.cell k (by rw [partTo_length]; omega)
      have hf := hC.frozen k
      have HC2 := hide (hC.set k (a k))
      rw [partTo_set] at HC2
      clear hA hC
      generalize (partTo a zer17 17 k).getD k 0 = z at *
      generalize a k = x at *
      go_wp2
      try go_region
      try go_wp2
      go_roundw
      case rel =>
        refine ⟨k + 1, by omega, by go_num, ?_, HA.out.setOther _ _ (by show w.heap.size ≠ w.heap.size + 1; omega), HC2.out⟩
        first | exact (HB.out.setCell (by show w.heap.size ≤ w.heap.size + 1; omega) _).drew | exact HB.out.setCell (by show w.heap.size ≤ w.heap.size + 1; omega) _
      case measure => simp [intOf]; omega
    · have h17 : k = 17 := by omega
      subst h17
      rw [partTo_full] at hC
      have HC := hide hC
      clear hA hC HA
      go_wp2
      rw [show ((17 : Nat) : Int) = 17 from rfl]
      go_loopw [5] (fun t wr => ∃ n : Nat, n ≤ 2 ∧ t = .int .i64 n ∧ Bel w.heap.size w wr ∧ Blk wr (w.heap.size + 1) 142 .i64 (tab 17 (offN a n))) (fun t _ => 2 - (intOf t).toNat)
      case atStart => exact ⟨0, Nat.zero_le _, rfl, HB.out, HC.out⟩
      case round =>
        clear HB HC
        obtain ⟨n, hn, rfl, hB, hC⟩ := hrel
        have HB := hide hB
        have HC := hide hC
        clear hB hC
        by_cases hn2 : n < 2
        · have OK := hide (HOK.out n)
          have HNX : Hid (offN a (n + 1) = off19 (offN a n)) := rfl
          generalize offN a n = f at *
          go_wp2
          rw [← z17]
          have hcl := HC.out.lt
          have HD : Hid (Blk (wr.alloc (.cells (rowK .i64 (tab 17 zer17)) 142)) wr.heap.size 142 .i64 (tab 17 zer17)) := Blk.new _ _ _ _
          have HB := hide (HB.out.alloc HB.out.size (.cells (rowK .i64 (tab 17 zer17)) 142))
          have HC := hide (HC.out.alloc (.cells (rowK .i64 (tab 17 zer17)) 142))
          generalize wr.alloc (.cells (rowK .i64 (tab 17 zer17)) 142) = w2 at *
          generalize wr.heap.size = D at *
          have HCB := hide (ca19_lt OK.out)
          go_loopw [7, 8] (fun b t wr => ∃ j : Nat, j ≤ 17 ∧ b = .int .i64 (ca19 f j : Nat) ∧ t = .int .i64 j ∧ Bel w.heap.size w wr ∧ Blk wr (w.heap.size + 1) 142 .i64 (tab 17 f) ∧ Blk wr D 142 .i64 (partTo (lo19 f) zer17 17 j)) (fun _ t _ => 17 - (intOf t).toNat)
          case atStart => exact ⟨0, Nat.zero_le _, rfl, rfl, HB.out, HC.out, by rw [partTo_none]; exact HD.out⟩
          case round =>
            clear HB HC HD
            obtain ⟨j, hj, rfl, rfl, hB, hC, hD⟩ := hrel
            have HB := hide hB
            have HC := hide hC
            have HD := hide hD
            clear hB
            by_cases hj17 : j < 17
            · have ca := hC.cell j (by rw [tab_length]; omega)
              rw [tab_getD _ _ _ hj17] at ca
              have cd := hD.cell j (by rw [partTo_length]; omega)
              have hf := hD.frozen j
              have HD2 := hide (hD.set j (lo19 f j))
              rw [partTo_set] at HD2
              clear hC hD
              have b1 := HCB.out j hj
              have b2 := OK.out j hj17
              have HL : Hid (lo19 f j = (ca19 f j + f j) % 32768) := rfl
              have HCC : Hid (ca19 f (j + 1) = (ca19 f j + f j) / 32768) := rfl
              rw [HL.out] at HD2
              generalize (partTo (lo19 f) zer17 17 j).getD j 0 = z at *
              generalize ca19 f j = c at *
              generalize f j = x at *
              have ea := and15 (c + x) (by omega)
              rw [Int.natCast_add] at ea
              go_wp2
              go_roundw
              case rel => exact ⟨j + 1, by omega, by rw [HCC.out]; apply congrArg (Value.int .i64); omega, by go_num, HB.out.setCell (p := ⟨D, j, none⟩) (by show w.heap.size ≤ D; omega) _, HC.out.setOther _ _ (by show w.heap.size + 1 ≠ D; omega), HD2.out⟩
              case measure => simp [intOf]; omega
            · have h17 : j = 17 := by omega
              subst h17
              rw [partTo_full] at hD
              have HD := hide hD
              clear hC hD
              have b1 := HCB.out 17 (by decide)
              by_cases hpos : 0 < ca19 f 17
              · have HOF : Hid (off19 f = lo19 f) := if_pos hpos
                generalize ca19 f 17 = c at *
                go_wp2_with (first | (refine wpList_ldB HD.out Tryd.underlying142 rfl (infoN _) rfl _ rfl rfl ?_) | (refine wpList_stB HC.out (infoN (lo19 f)) (lenN _ _) rfl _ _ rfl rfl rfl rfl ?_; intro w5 hb5 ho5 hk5))
                go_roundw
                case rel => exact ⟨n + 1, by omega, by go_num, HB.out.trans (hb5.mono (by omega)), by rw [HNX.out, HOF.out]; exact hk5⟩
                case measure => simp [intOf]; omega
              · have HOF : Hid (off19 f = f) := if_neg hpos
                have hz : ca19 f 17 = 0 := by omega
                rw [hz]
                go_wp2
                go_roundw
                case rel => exact ⟨n + 1, by omega, by go_num, HB.out, by rw [HNX.out, HOF.out]; exact HC.out⟩
                case measure => simp [intOf]; omega
        · have hn2' : n = 2 := by omega
          subst hn2'
          have OK := hide (HOK.out 2)
          obtain ⟨v, hv⟩ : ∃ v, v = V15 a % PR := ⟨_, rfl⟩
          have HVV := hide hv
          rw [← hv] at HV
          clear hv HOK
          generalize offN a 2 = f at *
          have HBIT : Hid (∀ i, i < 255 → f (i / 15) / 2 ^ (i % 15) % 2 = vbit v i) := fun i hi => by
            have h := bit_of_digit 15 f 17 i (by decide) hi OK.out
            rw [show sumB (2 ^ 15) f 17 = v from HV.out] at h
            exact h
          obtain ⟨W, hmk, hh, hb, hWs⟩ := mkB 32 (by decide) (grp 8 (vbit v) 255) wr
          rw [show ((32 : Nat) : Int) = 32 from rfl] at hmk
          have HBW := hide (HB.out.trans (hb.mono HB.out.size))
          have hcl := HC.out.lt
          have HCW := hide (HC.out.below hb HC.out.lt)
          have HHW : Hid (Head W wr.heap.size (tab 32 (grp 8 (vbit v) 0))) := by
            show Head W wr.heap.size _
            rw [partTo_none] at hh
            rw [tab_congr 32 (h := fun _ => 0) (fun i _ => grp_zero 8 (vbit v) i)]
            exact hh
          clear hb hh HB HC
          generalize wr.heap.size = O at *
          go_wp2
          clear hmk
          go_loopw [10] (fun t wr => ∃ k : Nat, k ≤ 255 ∧ t = .int .i64 k ∧ Bel w.heap.size w wr ∧ Blk wr (w.heap.size + 1) 142 .i64 (tab 17 f) ∧ Head wr O (tab 32 (grp 8 (vbit v) k))) (fun t _ => 255 - (intOf t).toNat)
          case atStart => exact ⟨0, Nat.zero_le _, rfl, HBW.out, HCW.out, HHW.out⟩
          case round =>
            clear HBW HCW HHW
            obtain ⟨k, hk, rfl, hB, hC, hH⟩ := hrel
            have HB := hide hB
            have HC := hide hC
            have HH := hide hH
            clear hB
            by_cases hk2 : k < 255
            · have ca := hC.cell (k / 15) (by rw [tab_length]; omega)
              rw [tab_getD _ _ _ (by omega)] at ca
              have co := hH.cell (k / 8) (by rw [tab_length]; omega)
              rw [tab_getD _ _ _ (by omega)] at co
              have hf := hH.froz (k / 8) (by rw [tab_length]; omega)
              have HH2 := hide (hH.set (k / 8) (grp 8 (vbit v) k (k / 8) + vbit v k * 2 ^ (k % 8)) (by rw [tab_length]; omega))
              rw [grp_next 32 8 (vbit v) k (by decide)] at HH2
              clear hC hH
              have hd := grp_lt 8 (vbit v) (vbit_lt v) k (by decide)
              have HBT := hide (HBIT.out k hk2)
              have lx := OK.out (k / 15) (by omega)
              generalize f (k / 15) = x at *
              generalize grp 8 (vbit v) k (k / 8) = d at *
              have ld : d < 256 := Nat.lt_of_lt_of_le hd (Nat.le_trans (Nat.pow_le_pow_right (by decide) (show k % 8 ≤ 8 by omega)) (by decide))
              go_wp2
              go_region
              rw [out_eq hd lx (by omega), HBT.out]
              generalize d + vbit v k * 2 ^ (k % 8) = z at *
              go_wp2
              go_roundw
              case rel => exact ⟨k + 1, by omega, by go_num, (HB.out.setCell (p := ⟨O, k / 8, none⟩) (by show w.heap.size ≤ O; omega) _).drew, HC.out.setOther _ _ (by show w.heap.size + 1 ≠ O; omega), HH2.out.drew⟩
              case measure => simp [intOf]; omega
            · have h255 : k = 255 := by omega
              subst h255
              have hcv := convHeadS (c := 32) hH
              rw [tab_length] at hcv
              have HO : Hid ((tab 32 (grp 8 (vbit v) 255)).map UInt8.ofNat = outB v) := rfl
              rw [HO.out] at hcv
              clear hC hH
              go_wp2
              go_ret
              refine ⟨?_, HB.out⟩
              rw [← HVV.out]
              rfl
end Go.Proofs.YtlchpbnpmgfaoaaDoor
