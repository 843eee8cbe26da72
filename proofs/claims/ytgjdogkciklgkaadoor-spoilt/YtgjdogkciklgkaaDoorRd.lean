/-
  The document's packed.
-/
import Derived.Test.YtgjdogkciklgkaaDoorRefUnp
import Derived.Test.YtgjdogkciklgkaaDoorBoxR
import Derived.Test.YtgjdogkciklgkaaDoorPi
namespace Go.Proofs.YtgjdogkciklgkaaDoor
open Go.RowKit

theorem sumB_digit (B : Nat) (g : Nat → Nat) (n j : Nat) (hj : j < n) (h : ∀ i, i < n → g i < B) : sumB B g n / B ^ j % B = g j := by
  have hB : 0 < B := Nat.lt_of_le_of_lt (Nat.zero_le _) (h j hj)
  obtain ⟨m, rfl⟩ : ∃ m, n = j + (1 + m) := ⟨n - j - 1, by omega⟩
  rw [sumB_split B g j (1 + m), sumB_split B (fun i => g (i + j)) 1 m]
  have h1 : sumB B (fun i => g (i + j)) 1 = g j := by simp [sumB]
  have h2 := sumB_lt B hB g j (fun i hi => h i (by omega))
  rw [h1, Nat.add_mul_div_left _ _ (Nat.pow_pos hB), Nat.div_eq_of_lt h2, Nat.zero_add, Nat.pow_one, Nat.add_mul_mod_self_left]
  exact Nat.mod_eq_of_lt (h j hj)
def vbit (v i : Nat) : Nat := v / 2 ^ i % 2
theorem vbit_lt (v i : Nat) : vbit v i < 2 := Nat.mod_lt _ (by decide)
theorem bit_of_digit (c : Nat) (g : Nat → Nat) (n i : Nat) (hc : 0 < c) (hi : i < c * n) (h : ∀ j, j < n → g j < 2 ^ c) : g (i / c) / 2 ^ (i % c) % 2 = vbit (sumB (2 ^ c) g n) i := by
  have hj : i / c < n := Nat.div_lt_of_lt_mul hi
  have hm := Nat.mod_lt i hc
  rw [← sumB_digit (2 ^ c) g n (i / c) hj h]
  generalize sumB (2 ^ c) g n = v
  unfold vbit
  rw [← Nat.pow_mul]
  obtain ⟨r, hr⟩ : ∃ r, c = i % c + (r + 1) := ⟨c - i % c - 1, by omega⟩
  have e : (2 : Nat) ^ c = 2 ^ (i % c) * 2 ^ (r + 1) := by rw [← Nat.pow_add, ← hr]
  have h3 : v / 2 ^ (c * (i / c)) % 2 ^ c / 2 ^ (i % c) = v / 2 ^ (c * (i / c)) / 2 ^ (i % c) % 2 ^ (r + 1) := by
    rw [e, Nat.mod_mul_right_div_self]
  rw [h3, Nat.mod_mod_of_dvd _ (by rw [Nat.pow_succ]; exact Nat.dvd_mul_left _ _), Nat.div_div_eq_div_mul, ← Nat.pow_add, Nat.div_add_mod]
/-- 32 bytes of a number. -/
def outB (v : Nat) : List UInt8 := (tab 32 (grp 8 (vbit v) 255)).map UInt8.ofNat
theorem outB_length (v : Nat) : (outB v).length = 32 := by unfold outB; rw [List.length_map, tab_length]

/-- One round of taking the prime off. -/
def ca19 (g : Nat → Nat) (i : Nat) : Nat := crry 32768 19 g i
def lo19 (g : Nat → Nat) (i : Nat) : Nat := (ca19 g i + g i) % 32768
def off19 (g : Nat → Nat) : Nat → Nat := if 0 < ca19 g 17 then lo19 g else g
theorem off19_ok {g : Nat → Nat} (h : Ok15 g) : Ok15 (off19 g) := by
  unfold off19
  split
  · exact fun i _ => Nat.mod_lt _ (by decide)
  · exact h
theorem off19_val {g : Nat → Nat} (h : Ok15 g) : V15 (off19 g) = V15 g % PR ∧ (ca19 g 17 ≤ 1) := by
  have h1 := sumB_crry 32768 19 g 17
  have h2 : sumB 32768 (fun i => (crry 32768 19 g i + g i) % 32768) 17 = V15 (lo19 g) := rfl
  have h3 : crry 32768 19 g 17 = ca19 g 17 := rfl
  have h4 : sumB 32768 g 17 = V15 g := rfl
  rw [h2, h3, h4, ← PR_eq] at h1
  have h5 := V15_lt h
  have h6 : V15 (lo19 g) < PR + 19 := V15_lt (fun i _ => Nat.mod_lt _ (by decide))
  have hp : 19 < PR := by decide +kernel
  have h7 : ca19 g 17 ≤ 1 := by
    rcases Nat.lt_or_ge (ca19 g 17) 2 with h | h
    · omega
    · have := Nat.mul_le_mul_right (PR + 19) h
      omega
  refine ⟨?_, h7⟩
  unfold off19
  rcases Nat.eq_zero_or_pos (ca19 g 17) with hz | hpos
  · rw [if_neg (by omega)]
    rw [hz, Nat.zero_mul] at h1
    exact (Nat.mod_eq_of_lt (by omega)).symm
  · rw [if_pos hpos]
    have e : ca19 g 17 = 1 := by omega
    rw [e, Nat.one_mul] at h1
    rw [show V15 g = V15 (lo19 g) + PR by omega, Nat.add_mod_right]
    exact (Nat.mod_eq_of_lt (by omega)).symm
def offN (g : Nat → Nat) : Nat → (Nat → Nat)
  | 0 => g
  | k + 1 => off19 (offN g k)
theorem offN_ok {g : Nat → Nat} (h : Ok15 g) : ∀ k, Ok15 (offN g k)
  | 0 => h
  | k + 1 => off19_ok (offN_ok h k)
theorem offN_two {g : Nat → Nat} (h : Ok15 g) : V15 (offN g 2) = V15 g % PR := by
  show V15 (off19 (off19 g)) = _
  rw [(off19_val (off19_ok h)).1, (off19_val h).1, Nat.mod_mod]
theorem ca19_lt {g : Nat → Nat} (h : Ok15 g) : ∀ i, i ≤ 17 → ca19 g i < 65536
  | 0, _ => by show 19 < 65536; decide
  | i + 1, hi => by
    have h1 := ca19_lt h i (by omega)
    have h2 := h i (by omega)
    show (ca19 g i + g i) / 32768 < 65536
    omega
theorem out_eq {d x a m : Nat} (hd : d < 2 ^ m) (hx : x < 32768) (hm : m < 8) :
    bits .or .u8 (d : Int) (wrap64 (bits .and .i64 ((x : Int) / 2 ^ a) 1 * 2 ^ m) % 256) = ((d + x / 2 ^ a % 2 * 2 ^ m : Nat) : Int) := by
  have h1 : x / 2 ^ a < 9223372036854775808 := Nat.lt_of_le_of_lt (Nat.div_le_self _ _) (by omega)
  have h2 : x / 2 ^ a % 2 < 2 := Nat.mod_lt _ (by decide)
  rw [shr_cast, and1 _ h1, shl_cast h2 (by omega)]
  generalize x / 2 ^ a % 2 = b at *
  have h3 : 2 ^ m ≤ 128 := Nat.le_trans (Nat.pow_le_pow_right (by decide) (show m ≤ 7 by omega)) (by decide)
  have h4 : b * 2 ^ m ≤ 1 * 128 := Nat.mul_le_mul (by omega) h3
  rw [show ((b * 2 ^ m : Nat) : Int) % 256 = ((b * 2 ^ m : Nat) : Int) by omega, u8_or_nat _ _ (by omega) (by omega), or_add hd]

set_option maxRecDepth 100000 in
set_option maxHeartbeats 2000000 in
theorem packedR (a : Nat → Nat) (ha : Ok15 a) (w : World) :
    Calls Tryd.prog 112 #[.agg (rowK .i64 (tab 17 a))] w fun e w' => e = .returned (.string (str (outB (V15 a % PR)))) ∧ Bel w.heap.size w w' := by
  have HV := hide (offN_two ha)
  have HOK := hide (offN_ok ha)
  clear ha
  go_enter Tryd.func112, Tryd.ntmps112
  go_wp2
  rw [← z17]
  have HB : Hid (Bel w.heap.size w ((w.alloc (.cells (rowK .i64 (tab 17 a)) 143)).alloc (.cells (rowK .i64 (tab 17 zer17)) 143))) := (((Bel.refl _ _).alloc (by simp) _).alloc (by simp) _)
  have HA : Hid (Blk ((w.alloc (.cells (rowK .i64 (tab 17 a)) 143)).alloc (.cells (rowK .i64 (tab 17 zer17)) 143)) (w.heap.size) 143 .i64 (tab 17 a)) := ((blkAt w (w.heap.size) 143 .i64 (tab 17 a) (by simp)).alloc _)
  have HC : Hid (Blk ((w.alloc (.cells (rowK .i64 (tab 17 a)) 143)).alloc (.cells (rowK .i64 (tab 17 zer17)) 143)) (w.heap.size + 1) 143 .i64 (tab 17 zer17)) := (blkAt (w.alloc (.cells (rowK .i64 (tab 17 a)) 143)) (w.heap.size + 1) 143 .i64 (tab 17 zer17) (by simp))
  generalize ((w.alloc (.cells (rowK .i64 (tab 17 a)) 143)).alloc (.cells (rowK .i64 (tab 17 zer17)) 143)) = w1 at *
  go_loopw [4] (fun t wr => ∃ k : Nat, k ≤ 17 ∧ t = .int .i64 k ∧ Bel w.heap.size w wr ∧ Blk wr w.heap.size 143 .i64 (tab 17 a) ∧ Blk wr (w.heap.size + 1) 143 .i64 (partTo a zer17 17 k)) (fun t _ => 17 - (intOf t).toNat)
  case atStart => exact ⟨0, Nat.zero_le _, rfl, HB.out, HA.out, by rw [partTo_none]; exact HC.out⟩
  case round =>
    clear HB HA HC
    obtain ⟨k, hk, rfl, hB, hA, hC⟩ := hrel
    have HB := hide hB
    have HA := hide hA
    have HC := hide hC
    clear hB
    by_cases hk2 : k < 17
    · have ca := hA.cell k (by rw [tab_length]; omega)
      rw [tab_getD _ _ _ hk2] at ca
      have cc := hC.cell k (by rw [partTo_length]; omega)
      have hf := hC.frozen k
      have HC2 := hide (hC.set k (a k))
      rw [partTo_set] at HC2
      clear hA hC
      generalize (partTo a zer17 17 k).getD k 0 = z at *
      generalize a k = x at *
      go_wp2
      try go_region
      try go_wp2
      go_roundw
      case rel =>
        refine ⟨k + 1, by omega, by go_num, ?_, HA.out.setOther _ _ (by show w.heap.size ≠ w.heap.size + 1; omega), HC2.out⟩
        first | exact (HB.out.setCell (by show w.heap.size ≤ w.heap.size + 1; omega) _).drew | exact HB.out.setCell (by show w.heap.size ≤ w.heap.size + 1; omega) _
      case measure => simp [intOf]; omega
    · have h17 : k = 17 := by omega
      subst h17
      rw [partTo_full] at hC
      have HC := hide hC
      clear hA hC HA
      go_wp2
      rw [show ((17 : Nat) : Int) = 17 from rfl]
      go_loopw [5] (fun t wr => ∃ n : Nat, n ≤ 2 ∧ t = .int .i64 n ∧ Bel w.heap.size w wr ∧ Blk wr (w.heap.size + 1) 143 .i64 (tab 17 (offN a n))) (fun t _ => 2 - (intOf t).toNat)
      case atStart => exact ⟨0, Nat.zero_le _, rfl, HB.out, HC.out⟩
      case round =>
        clear HB HC
        obtain ⟨n, hn, rfl, hB, hC⟩ := hrel
        have HB := hide hB
        have HC := hide hC
        clear hB hC
        by_cases hn2 : n < 2
        · have OK := hide (HOK.out n)
          have HNX : Hid (offN a (n + 1) = off19 (offN a n)) := rfl
          generalize offN a n = f at *
          go_wp2
          rw [← z17]
          have hcl := HC.out.lt
          have HD : Hid (Blk (wr.alloc (.cells (rowK .i64 (tab 17 zer17)) 143)) wr.heap.size 143 .i64 (tab 17 zer17)) := Blk.new _ _ _ _
          have HB := hide (HB.out.alloc HB.out.size (.cells (rowK .i64 (tab 17 zer17)) 143))
          have HC := hide (HC.out.alloc (.cells (rowK .i64 (tab 17 zer17)) 143))
          generalize wr.alloc (.cells (rowK .i64 (tab 17 zer17)) 143) = w2 at *
          generalize wr.heap.size = D at *
          have HCB := hide (ca19_lt OK.out)
          go_loopw [7, 8] (fun b t wr => ∃ j : Nat, j ≤ 17 ∧ b = .int .i64 (ca19 f j : Nat) ∧ t = .int .i64 j ∧ Bel w.heap.size w wr ∧ Blk wr (w.heap.size + 1) 143 .i64 (tab 17 f) ∧ Blk wr D 143 .i64 (partTo (lo19 f) zer17 17 j)) (fun _ t _ => 17 - (intOf t).toNat)
          case atStart => exact ⟨0, Nat.zero_le _, rfl, rfl, HB.out, HC.out, by rw [partTo_none]; exact HD.out⟩
          case round =>
            clear HB HC HD
            obtain ⟨j, hj, rfl, rfl, hB, hC, hD⟩ := hrel
            have HB := hide hB
            have HC := hide hC
            have HD := hide hD
            clear hB
            by_cases hj17 : j < 17
            · have ca := hC.cell j (by rw [tab_length]; omega)
              rw [tab_getD _ _ _ hj17] at ca
              have cd := hD.cell j (by rw [partTo_length]; omega)
              have hf := hD.frozen j
              have HD2 := hide (hD.set j (lo19 f j))
              rw [partTo_set] at HD2
              clear hC hD
              have b1 := HCB.out j hj
              have b2 := OK.out j hj17
              have HL : Hid (lo19 f j = (ca19 f j + f j) % 32768) := rfl
              have HCC : Hid (ca19 f (j + 1) = (ca19 f j + f j) / 32768) := rfl
              rw [HL.out] at HD2
              generalize (partTo (lo19 f) zer17 17 j).getD j 0 = z at *
              generalize ca19 f j = c at *
              generalize f j = x at *
              have ea := and15 (c + x) (by omega)
              rw [Int.natCast_add] at ea
              go_wp2
              go_roundw
              case rel => exact ⟨j + 1, by omega, by rw [HCC.out]; apply congrArg (Value.int .i64); omega, by go_num, HB.out.setCell (p := ⟨D, j, none⟩) (by show w.heap.size ≤ D; omega) _, HC.out.setOther _ _ (by show w.heap.size + 1 ≠ D; omega), HD2.out⟩
              case measure => simp [intOf]; omega
            · have h17 : j = 17 := by omega
              subst h17
              rw [partTo_full] at hD
              have HD := hide hD
              clear hC hD
              have b1 := HCB.out 17 (by decide)
              by_cases hpos : 0 < ca19 f 17
              · have HOF : Hid (off19 f = lo19 f) := if_pos hpos
                generalize ca19 f 17 = c at *
                go_wp2_with (first | (refine wpList_ldB HD.out Tryd.underlying143 rfl (infoN _) rfl _ rfl rfl ?_) | (refine wpList_stB HC.out (infoN (lo19 f)) (lenN _ _) rfl _ _ rfl rfl rfl rfl ?_; intro w5 hb5 ho5 hk5))
                go_roundw
                case rel => exact ⟨n + 1, by omega, by go_num, HB.out.trans (hb5.mono (by omega)), by rw [HNX.out, HOF.out]; exact hk5⟩
                case measure => simp [intOf]; omega
              · have HOF : Hid (off19 f = f) := if_neg hpos
                have hz : ca19 f 17 = 0 := by omega
                rw [hz]
                go_wp2
                go_roundw
                case rel => exact ⟨n + 1, by omega, by go_num, HB.out, by rw [HNX.out, HOF.out]; exact HC.out⟩
                case measure => simp [intOf]; omega
        · have hn2' : n = 2 := by omega
          subst hn2'
          have OK := hide (HOK.out 2)
          obtain ⟨v, hv⟩ : ∃ v, v = V15 a % PR := ⟨_, rfl⟩
          have HVV := hide hv
          rw [← hv] at HV
          clear hv HOK
          generalize offN a 2 = f at *
          have HBIT : Hid (∀ i, i < 255 → f (i / 15) / 2 ^ (i % 15) % 2 = vbit v i) := fun i hi => by
            have h := bit_of_digit 15 f 17 i (by decide) hi OK.out
            rw [show sumB (2 ^ 15) f 17 = v from HV.out] at h
            exact h
          obtain ⟨W, hmk, hh, hb, hWs⟩ := mkB 32 (by decide) (grp 8 (vbit v) 255) wr
          rw [show ((32 : Nat) : Int) = 32 from rfl] at hmk
          have HBW := hide (HB.out.trans (hb.mono HB.out.size))
          have hcl := HC.out.lt
          have HCW := hide (HC.out.below hb HC.out.lt)
          have HHW : Hid (Head W wr.heap.size (tab 32 (grp 8 (vbit v) 0))) := by
            show Head W wr.heap.size _
            rw [partTo_none] at hh
            rw [tab_congr 32 (h := fun _ => 0) (fun i _ => grp_zero 8 (vbit v) i)]
            exact hh
          clear hb hh HB HC
          generalize wr.heap.size = O at *
          go_wp2
          clear hmk
          go_loopw [10] (fun t wr => ∃ k : Nat, k ≤ 255 ∧ t = .int .i64 k ∧ Bel w.heap.size w wr ∧ Blk wr (w.heap.size + 1) 143 .i64 (tab 17 f) ∧ Head wr O (tab 32 (grp 8 (vbit v) k))) (fun t _ => 255 - (intOf t).toNat)
          case atStart => exact ⟨0, Nat.zero_le _, rfl, HBW.out, HCW.out, HHW.out⟩
          case round =>
            clear HBW HCW HHW
            obtain ⟨k, hk, rfl, hB, hC, hH⟩ := hrel
            have HB := hide hB
            have HC := hide hC
            have HH := hide hH
            clear hB
            by_cases hk2 : k < 255
            · have ca := hC.cell (k / 15) (by rw [tab_length]; omega)
              rw [tab_getD _ _ _ (by omega)] at ca
              have co := hH.cell (k / 8) (by rw [tab_length]; omega)
              rw [tab_getD _ _ _ (by omega)] at co
              have hf := hH.froz (k / 8) (by rw [tab_length]; omega)
              have HH2 := hide (hH.set (k / 8) (grp 8 (vbit v) k (k / 8) + vbit v k * 2 ^ (k % 8)) (by rw [tab_length]; omega))
              rw [grp_next 32 8 (vbit v) k (by decide)] at HH2
              clear hC hH
              have hd := grp_lt 8 (vbit v) (vbit_lt v) k (by decide)
              have HBT := hide (HBIT.out k hk2)
              have lx := OK.out (k / 15) (by omega)
              generalize f (k / 15) = x at *
              generalize grp 8 (vbit v) k (k / 8) = d at *
              have ld : d < 256 := Nat.lt_of_lt_of_le hd (Nat.le_trans (Nat.pow_le_pow_right (by decide) (show k % 8 ≤ 8 by omega)) (by decide))
              go_wp2
              go_region
              rw [out_eq hd lx (by omega), HBT.out]
              generalize d + vbit v k * 2 ^ (k % 8) = z at *
              go_wp2
              go_roundw
              case rel => exact ⟨k + 1, by omega, by go_num, (HB.out.setCell (p := ⟨O, k / 8, none⟩) (by show w.heap.size ≤ O; omega) _).drew, HC.out.setOther _ _ (by show w.heap.size + 1 ≠ O; omega), HH2.out.drew⟩
              case measure => simp [intOf]; omega
            · have h255 : k = 255 := by omega
              subst h255
              have hcv := convHeadS (c := 32) hH
              rw [tab_length] at hcv
              have HO : Hid ((tab 32 (grp 8 (vbit v) 255)).map UInt8.ofNat = outB v) := rfl
              rw [HO.out] at hcv
              clear hC hH
              go_wp2
              go_ret
              refine ⟨?_, HB.out⟩
              rw [← HVV.out]
              rfl
end Go.Proofs.YtgjdogkciklgkaaDoor
namespace Go.Proofs.YtgjdogkciklgkaaDoor
open Go.RowKit

def unp51 (s : List UInt8) : Nat → Nat := grp 51 (sbit s) 255
theorem unp51_is (s : List UInt8) : Is51 (unp51 s) (UV s % PR) := by
  have hlt : ∀ i, i < 5 → unp51 s i < 2251799813685248 := fun i hi => by
    rw [show unp51 s i = sumB 2 (fun t => sbit s (51 * i + t)) 51 from grp_full 51 (sbit s) 5 i hi]
    exact sumB_lt 2 (by decide) _ 51 (fun j _ => sbit_lt s _)
  refine ⟨⟨by have := hlt 0 (by decide); omega, fun i _ hi => hlt i hi⟩, ?_⟩
  have h := sumB_group 2 51 (sbit s) 5
  rw [show (2 : Nat) ^ 51 = 2251799813685248 from rfl, show 51 * 5 = 255 from rfl] at h
  unfold V51 UV
  rw [← h, sumB_congr 2251799813685248 (g := unp51 s) (h := fun j => sumB 2 (fun t => sbit s (51 * j + t)) 51) 5 (fun i hi => grp_full 51 (sbit s) 5 i hi)]

theorem and1u (x : Nat) (h : x < 18446744073709551616) : bits .and .u64 (x : Int) 1 = ((x % 2 : Nat) : Int) := by
  have := u64_and_nat x 1 h (by decide)
  rw [show ((1 : Nat) : Int) = 1 from rfl] at this
  rw [this, Nat.and_one_is_mod]

theorem rd_eq {d x a m : Nat} (hd : d < 2 ^ m) (hx : x < 256) (hm : m ≤ 50) :
    bits .or .u64 (d : Int) (IntKind.u64.wrap (bits .and .u64 (IntKind.u64.wrap ((x : Int) / 2 ^ a)) 1 * 2 ^ m)) = ((d + x / 2 ^ a % 2 * 2 ^ m : Nat) : Int) := by
  have h1 : x / 2 ^ a < 18446744073709551616 := Nat.lt_of_le_of_lt (Nat.div_le_self _ _) (by omega)
  have h2 : x / 2 ^ a % 2 < 2 := Nat.mod_lt _ (by decide)
  rw [shr_cast, wrapN _ h1, and1u _ h1]
  generalize x / 2 ^ a % 2 = b at *
  have h3 : (b : Int) * 2 ^ m = ((b * 2 ^ m : Nat) : Int) := by rw [Int.natCast_mul, Int.natCast_pow]; rfl
  have h4 : b * 2 ^ m ≤ 1 * 1125899906842624 := Nat.mul_le_mul (by omega) (pow_le_50 hm)
  have h5 := pow_le_50 hm
  rw [h3, wrapN _ (by omega), u64_or_nat _ _ (by omega) (by omega), or_add hd]

set_option maxRecDepth 100000 in
set_option maxHeartbeats 1000000 in
theorem readP (s : List UInt8) (hs : s.length = 32) (w : World) :
    Calls Tryd.prog 55 #[.agg (rowK .u8 (nums s))] w fun e w' => e = .returned (.agg (rowK .u64 (tab 5 (unp51 s)))) ∧ Bel w.heap.size w w' := by
  have hns := nums_length s
  go_enter Tryd.func55, Tryd.ntmps55
  go_wp2
  rw [← z5]
  have HB : Hid (Bel w.heap.size w (((w.alloc (.cells (rowK .u8 (nums s)) 85)).alloc (.cells (rowK .u64 (tab 5 zer17)) 88)).alloc (.cells (rowK .u64 (tab 5 zer17)) 88))) := ((((Bel.refl _ _).alloc (by simp) _).alloc (by simp) _).alloc (by simp <;> omega) _)
  have HD : Hid (Blk (((w.alloc (.cells (rowK .u8 (nums s)) 85)).alloc (.cells (rowK .u64 (tab 5 zer17)) 88)).alloc (.cells (rowK .u64 (tab 5 zer17)) 88)) (w.heap.size) 85 .u8 (nums s)) := (((blkAt w (w.heap.size) 85 .u8 (nums s) (by simp)).alloc _).alloc _)
  have HR : Hid (Blk (((w.alloc (.cells (rowK .u8 (nums s)) 85)).alloc (.cells (rowK .u64 (tab 5 zer17)) 88)).alloc (.cells (rowK .u64 (tab 5 zer17)) 88)) (w.heap.size + 1) 88 .u64 (tab 5 zer17)) := ((blkAt (w.alloc (.cells (rowK .u8 (nums s)) 85)) (w.heap.size + 1) 88 .u64 (tab 5 zer17) (by simp)).alloc _)
  have HC : Hid (Blk (((w.alloc (.cells (rowK .u8 (nums s)) 85)).alloc (.cells (rowK .u64 (tab 5 zer17)) 88)).alloc (.cells (rowK .u64 (tab 5 zer17)) 88)) (w.heap.size + 2) 88 .u64 (tab 5 zer17)) := (blkAt ((w.alloc (.cells (rowK .u8 (nums s)) 85)).alloc (.cells (rowK .u64 (tab 5 zer17)) 88)) (w.heap.size + 2) 88 .u64 (tab 5 zer17) (by simp))
  generalize (((w.alloc (.cells (rowK .u8 (nums s)) 85)).alloc (.cells (rowK .u64 (tab 5 zer17)) 88)).alloc (.cells (rowK .u64 (tab 5 zer17)) 88)) = w1 at *
  go_loopw [6] (fun t wr => ∃ k : Nat, k ≤ 255 ∧ t = .int .i64 k ∧ Bel w.heap.size w wr ∧ Blk wr w.heap.size 85 .u8 (nums s) ∧ Blk wr (w.heap.size + 1) 88 .u64 (tab 5 zer17) ∧ Blk wr (w.heap.size + 2) 88 .u64 (tab 5 (grp 51 (sbit s) k))) (fun t _ => 255 - (intOf t).toNat)
  case atStart => exact ⟨0, Nat.zero_le _, rfl, HB.out, HD.out, HR.out, by rw [tab_congr 5 (h := zer17) (fun i _ => grp_zero 51 (sbit s) i)]; exact HC.out⟩
  case round =>
    clear HB HD HR HC
    obtain ⟨k, hk, rfl, hB, hD, hR, hC⟩ := hrel
    have HB := hide hB
    have HD := hide hD
    have HR := hide hR
    have HC := hide hC
    clear hB hR
    by_cases hk2 : k < 255
    · have cd := hD.cell (k / 8) (by rw [hns]; omega)
      rw [nums_getD] at cd
      have cc := hC.cell (k / 51) (by rw [tab_length]; omega)
      rw [tab_getD _ _ _ (by omega)] at cc
      have hf := hC.frozen (k / 51)
      have HC2 := hide (hC.set (k / 51) (grp 51 (sbit s) k (k / 51) + sbit s k * 2 ^ (k % 51)))
      rw [grp_next 5 51 (sbit s) k (by decide)] at HC2
      clear hD hC
      have lx := byteAt_lt s (k / 8)
      have hd := grp_lt 51 (sbit s) (sbit_lt s) k (by decide)
      have HSB : Hid (sbit s k = byteAt s (k / 8) / 2 ^ (k % 8) % 2) := rfl
      generalize byteAt s (k / 8) = x at *
      generalize grp 51 (sbit s) k (k / 51) = d at *
      go_wp2
      go_region
      rw [rd_eq hd lx (by omega), ← HSB.out]
      generalize d + sbit s k * 2 ^ (k % 51) = z at *
      go_wp2
      go_roundw
      case rel => exact ⟨k + 1, by omega, by go_num, (HB.out.setCell (p := ⟨w.heap.size + 2, k / 51, none⟩) (by show w.heap.size ≤ w.heap.size + 2; omega) _).drew, HD.out.setOther _ _ (by show w.heap.size ≠ w.heap.size + 2; omega), HR.out.setOther _ _ (by show w.heap.size + 1 ≠ w.heap.size + 2; omega), HC2.out⟩
      case measure => simp [intOf]; omega
    · have h255 : k = 255 := by omega
      subst h255
      have HC : Hid (Blk wr (w.heap.size + 2) 88 .u64 (tab 5 (unp51 s))) := hC
      clear hC hD HD
      go_wp2_with (first | (refine wpList_ldB HC.out Tryd.underlying88 rfl (info5 _) rfl _ rfl rfl ?_) | (refine wpList_stB HR.out (info5 (unp51 s)) (len5 _ _) rfl _ _ rfl rfl rfl rfl ?_; intro w5 hb5 ho5 hk5))
      refine bodyPost_ret (v := .agg (rowK .u64 (tab 5 (unp51 s)))) (ret5 Tryd.results55 _ _ _ _ rfl hk5) rfl ⟨rfl, HB.out.trans (hb5.mono (by omega))⟩

/-- The prime taken off. -/
def ov51 (g : Nat → Nat) (i : Nat) : Nat := crry 2251799813685248 19 g i
def cl51 (g : Nat → Nat) (i : Nat) : Nat := crry 2251799813685248 (19 * ov51 g 5) g i
def le51 (g : Nat → Nat) (i : Nat) : Nat := (cl51 g i + g i) % 2251799813685248
theorem le51_lt (g : Nat → Nat) (i : Nat) : le51 g i < 2251799813685248 := Nat.mod_lt _ (by decide)
theorem ov51_le {g : Nat → Nat} (h : Ok51 g) : ∀ i, i ≤ 5 → ov51 g i ≤ 19
  | 0, _ => by show 19 ≤ 19; decide
  | i + 1, hi => by
    have h1 := ov51_le h i (by omega)
    have h2 := h.lt i (by omega)
    show (ov51 g i + g i) / 2251799813685248 ≤ 19
    omega
theorem ov51_five {g : Nat → Nat} (h : Ok51 g) : ov51 g 5 ≤ 1 := by
  have h1 := ov51_le h 4 (by decide)
  have h2 := h.lt 4 (by decide)
  show (ov51 g 4 + g 4) / 2251799813685248 ≤ 1
  omega
theorem cl51_le {g : Nat → Nat} (h : Ok51 g) : ∀ i, i ≤ 5 → cl51 g i ≤ 19
  | 0, _ => by
    have := ov51_five h
    show 19 * ov51 g 5 ≤ 19
    omega
  | i + 1, hi => by
    have h1 := cl51_le h i (by omega)
    have h2 := h.lt i (by omega)
    show (cl51 g i + g i) / 2251799813685248 ≤ 19
    omega
theorem off_arith {V L P lo ov cl : Nat} (h1 : lo + ov * (P + 19) = 19 + V) (h2 : L + cl * (P + 19) = 19 * ov + V) (h7 : lo < P + 19) (h8 : L < P + 19) (h9 : V < P + 19 + 256) (hp : 1000 < P) (ho : ov ≤ 1) : L = V % P := by
  have hc : cl ≤ 1 := by
    rcases Nat.lt_or_ge cl 2 with hh | hh
    · omega
    · have := Nat.mul_le_mul_right (P + 19) hh
      omega
  have hov : ov = 0 ∨ ov = 1 := by omega
  have hcl : cl = 0 ∨ cl = 1 := by omega
  rcases hov with rfl | rfl <;> rcases hcl with rfl | rfl
  · rw [Nat.mod_eq_of_lt (by omega : V < P)]; omega
  · omega
  · omega
  · have e : V = L + P := by omega
    rw [e, Nat.add_mod_right, Nat.mod_eq_of_lt (by omega : L < P)]
theorem le51_val {g : Nat → Nat} (h : Ok51 g) : V51 (le51 g) = V51 g % PR := by
  have h1 := sumB_crry 2251799813685248 19 g 5
  have h2 := sumB_crry 2251799813685248 (19 * ov51 g 5) g 5
  have h3 : crry 2251799813685248 19 g 5 = ov51 g 5 := rfl
  have h4 : crry 2251799813685248 (19 * ov51 g 5) g 5 = cl51 g 5 := rfl
  have h5 : sumB 2251799813685248 (fun i => (crry 2251799813685248 (19 * ov51 g 5) g i + g i) % 2251799813685248) 5 = V51 (le51 g) := rfl
  have h6 : sumB 2251799813685248 g 5 = V51 g := rfl
  have h7 := sumB_lt 2251799813685248 (by decide) (fun i => (crry 2251799813685248 19 g i + g i) % 2251799813685248) 5 (fun i _ => Nat.mod_lt _ (by decide))
  have h8 : V51 (le51 g) < 2251799813685248 ^ 5 := sumB_lt 2251799813685248 (by decide) (le51 g) 5 (fun i _ => le51_lt g i)
  rw [h3, h6] at h1
  rw [h4, h5, h6] at h2
  generalize sumB 2251799813685248 (fun i => (crry 2251799813685248 19 g i + g i) % 2251799813685248) 5 = lo at *
  rw [← PR_eq'] at h1 h2 h7 h8
  exact off_arith h1 h2 h7 h8 (V51_lt h) (by decide +kernel) (ov51_five h)

theorem idx5_0 (g : Nat → Nat) (w : World) : (Instr.index 88 (.agg (rowK .u64 (tab 5 g))) (.int .i64 0)).run Tryd.prog w = .ok (.int .u64 (g 0 : Nat)) w := by kernel_rfl
theorem idx5_1 (g : Nat → Nat) (w : World) : (Instr.index 88 (.agg (rowK .u64 (tab 5 g))) (.int .i64 1)).run Tryd.prog w = .ok (.int .u64 (g 1 : Nat)) w := by kernel_rfl
theorem idx5_2 (g : Nat → Nat) (w : World) : (Instr.index 88 (.agg (rowK .u64 (tab 5 g))) (.int .i64 2)).run Tryd.prog w = .ok (.int .u64 (g 2 : Nat)) w := by kernel_rfl
theorem idx5_3 (g : Nat → Nat) (w : World) : (Instr.index 88 (.agg (rowK .u64 (tab 5 g))) (.int .i64 3)).run Tryd.prog w = .ok (.int .u64 (g 3 : Nat)) w := by kernel_rfl
theorem idx5_4 (g : Nat → Nat) (w : World) : (Instr.index 88 (.agg (rowK .u64 (tab 5 g))) (.int .i64 4)).run Tryd.prog w = .ok (.int .u64 (g 4 : Nat)) w := by kernel_rfl
theorem idx5 (g : Nat → Nat) (j : Nat) (hj : j < 5) (w : World) : (Instr.index 88 (.agg (rowK .u64 (tab 5 g))) (.int .i64 j)).run Tryd.prog w = .ok (.int .u64 (g j : Nat)) w := by
  have : j = 0 ∨ j = 1 ∨ j = 2 ∨ j = 3 ∨ j = 4 := by omega
  rcases this with rfl | rfl | rfl | rfl | rfl
  · exact idx5_0 g w
  · exact idx5_1 g w
  · exact idx5_2 g w
  · exact idx5_3 g w
  · exact idx5_4 g w

set_option maxRecDepth 100000 in
set_option maxHeartbeats 1000000 in
theorem leastP (g : Nat → Nat) (hg : Ok51 g) (w : World) :
    Calls Tryd.prog 88 #[.agg (rowK .u64 (tab 5 g))] w fun e w' => e = .returned (.agg (rowK .u64 (tab 5 (le51 g)))) ∧ Bel w.heap.size w w' := by
  have OG := hide hg
  have HOV := hide (ov51_le hg)
  have HCL := hide (cl51_le hg)
  clear hg
  have HA : Hid (Blk ((w.alloc (.cells (rowK .u64 (tab 5 g)) 88)).alloc (.cells #[.int .u64 0, .int .u64 0, .int .u64 0, .int .u64 0, .int .u64 0] 88)) w.heap.size 88 .u64 (tab 5 g)) := (Blk.new w _ _ _).alloc _
  have HR : Hid (Blk ((w.alloc (.cells (rowK .u64 (tab 5 g)) 88)).alloc (.cells #[.int .u64 0, .int .u64 0, .int .u64 0, .int .u64 0, .int .u64 0] 88)) (w.heap.size + 1) 88 .u64 (tab 5 zer17)) := by rw [← z5]; exact Blk.new2 w _ _ _ _
  have HB : Hid (Bel w.heap.size w ((w.alloc (.cells (rowK .u64 (tab 5 g)) 88)).alloc (.cells #[.int .u64 0, .int .u64 0, .int .u64 0, .int .u64 0, .int .u64 0] 88))) := ((Bel.refl _ _).alloc (Nat.le_refl _) _).alloc (by simp) _
  go_enter Tryd.func88, Tryd.ntmps88
  go_wp2_with (first | (generalize ((w.alloc (.cells (rowK .u64 (tab 5 g)) 88)).alloc (.cells #[.int .u64 0, .int .u64 0, .int .u64 0, .int .u64 0, .int .u64 0] 88)) = w1 at *; refine wpList_ldB HA.out Tryd.underlying88 rfl (info5 _) rfl _ rfl rfl ?_))
  have HIDX := hide (idx5 g)
  go_loopw [3, 9] (fun c t wr => ∃ j : Nat, j ≤ 5 ∧ c = .int .u64 (ov51 g j : Nat) ∧ t = .int .i64 j ∧ wr = w1) (fun _ t _ => 5 - (intOf t).toNat)
  case atStart => exact ⟨0, Nat.zero_le _, rfl, rfl, rfl⟩
  case round =>
    obtain ⟨j, hj, rfl, rfl, rfl⟩ := hrel
    by_cases hj5 : j < 5
    · have hix := HIDX.out j hj5
      have b1 := HOV.out j hj
      have b2 := OG.out.lt j hj5
      have HC : Hid (ov51 g (j + 1) = (ov51 g j + g j) / 2251799813685248) := rfl
      generalize ov51 g j = c at *
      generalize g j = x at *
      go_wp2
      go_roundw
      case rel => exact ⟨j + 1, by omega, by rw [HC.out]; apply congrArg (Value.int .u64); omega, by go_num, trivial⟩
      case measure => simp [intOf]; omega
    · have h5 : j = 5 := by omega
      subst h5
      clear HIDX
      have b0 := HOV.out 5 (by decide)
      have H0 : Hid (cl51 g 0 = 19 * ov51 g 5) := rfl
      go_wp2
      rw [show ((5 : Nat) : Int) = 5 from rfl]
      have H19 : Hid ((19 : Int) * ((ov51 g 5 : Nat) : Int) = ((cl51 g 0 : Nat) : Int)) := by show _ = _; rw [H0.out]; omega
      rw [H19.out]
      clear b0
      go_loopw [6, 19] (fun c t wr => ∃ j : Nat, j ≤ 5 ∧ c = .int .u64 (cl51 g j : Nat) ∧ t = .int .i64 j ∧ Bel w.heap.size w wr ∧ Blk wr w.heap.size 88 .u64 (partTo (le51 g) g 5 j) ∧ Blk wr (w.heap.size + 1) 88 .u64 (tab 5 zer17)) (fun _ t _ => 5 - (intOf t).toNat)
      case atStart => exact ⟨0, Nat.zero_le _, rfl, rfl, HB.out, by rw [partTo_none]; exact HA.out, HR.out⟩
      case round =>
        clear HB HA HR
        obtain ⟨j, hj, rfl, rfl, hB, hA, hR⟩ := hrel
        have HB := hide hB
        have HA := hide hA
        have HR := hide hR
        by_cases hj5 : j < 5
        · have cc := hA.cell j (by rw [partTo_length]; exact hj5)
          rw [partTo_getD _ _ _ _ _ hj5, if_neg (by omega)] at cc
          have hf := hA.frozen j
          clear hB hA hR
          have b1 := HCL.out j hj
          have b2 := OG.out.lt j hj5
          have HS := hide (partTo_set (le51 g) g 5 j)
          have HL : Hid (le51 g j = (cl51 g j + g j) % 2251799813685248) := rfl
          have HC : Hid (cl51 g (j + 1) = (cl51 g j + g j) / 2251799813685248) := rfl
          generalize cl51 g j = c at *
          generalize g j = x at *
          have ea := and51 (x + c) (by omega)
          rw [Int.natCast_add] at ea
          go_wp2
          go_roundw
          case rel =>
            refine ⟨j + 1, by omega, by rw [HC.out]; apply congrArg (Value.int .u64); omega, by go_num, (HB.out.setCell (p := ⟨w.heap.size, j, none⟩) (Nat.le_refl _) _).setCell (p := ⟨w.heap.size, j, none⟩) (Nat.le_refl _) _, ?_, (HR.out.setOther ⟨w.heap.size, j, none⟩ _ (by show w.heap.size + 1 ≠ w.heap.size; omega)).setOther _ _ (by show w.heap.size + 1 ≠ w.heap.size; omega)⟩
            rw [← HS.out, HL.out, Nat.add_comm c x]
            have h1 := (HA.out.set j (x + c)).set j ((x + c) % 2251799813685248)
            rw [List.set_set, Int.natCast_add] at h1
            exact h1
          case measure => simp [intOf]; omega
        · have h5 : j = 5 := by omega
          subst h5
          rw [partTo_full] at hA
          have HA := hide hA
          clear hB hA hR
          go_wp2_with (first | (refine wpList_ldB HA.out Tryd.underlying88 rfl (info5 _) rfl _ rfl rfl ?_) | (refine wpList_stB HR.out (info5 (le51 g)) (len5 _ _) rfl _ _ rfl rfl rfl rfl ?_; intro w5 hb5 ho5 hk5))
          refine bodyPost_ret (v := .agg (rowK .u64 (tab 5 (le51 g)))) (ret5 Tryd.results88 _ _ _ _ rfl hk5) rfl ⟨rfl, HB.out.trans (hb5.mono (by omega))⟩

theorem by_eq {d x a m : Nat} (hd : d < 2 ^ m) (hm : m < 8) :
    bits .or .u8 (d : Int) (bits .and .u8 ((x : Int) / 2 ^ a % 256) 1 * 2 ^ m % 256) = ((d + x / 2 ^ a % 2 * 2 ^ m : Nat) : Int) := by
  rw [shr_cast]
  generalize x / 2 ^ a = y at *
  have e1 : ((y : Nat) : Int) % 256 = ((y % 256 : Nat) : Int) := by omega
  have e2 := u8_and_nat (y % 256) 1 (Nat.mod_lt _ (by decide)) (by decide)
  rw [show ((1 : Nat) : Int) = 1 from rfl, Nat.and_one_is_mod, show y % 256 % 2 = y % 2 by omega] at e2
  rw [e1, e2]
  have h2 : y % 2 < 2 := Nat.mod_lt _ (by decide)
  generalize y % 2 = b at *
  have h3 : (b : Int) * 2 ^ m = ((b * 2 ^ m : Nat) : Int) := by rw [Int.natCast_mul, Int.natCast_pow]; rfl
  have h5 : 2 ^ m ≤ 128 := Nat.le_trans (Nat.pow_le_pow_right (by decide) (show m ≤ 7 by omega)) (by decide)
  have h4 : b * 2 ^ m ≤ 1 * 128 := Nat.mul_le_mul (by omega) h5
  rw [h3, show ((b * 2 ^ m : Nat) : Int) % 256 = ((b * 2 ^ m : Nat) : Int) by omega, u8_or_nat _ _ (by omega) (by omega), or_add hd]
theorem z32 : rowK .u8 (tab 32 zer17) = #[.int .u8 0, .int .u8 0, .int .u8 0, .int .u8 0, .int .u8 0, .int .u8 0, .int .u8 0, .int .u8 0, .int .u8 0, .int .u8 0, .int .u8 0, .int .u8 0, .int .u8 0, .int .u8 0, .int .u8 0, .int .u8 0, .int .u8 0, .int .u8 0, .int .u8 0, .int .u8 0, .int .u8 0, .int .u8 0, .int .u8 0, .int .u8 0, .int .u8 0, .int .u8 0, .int .u8 0, .int .u8 0, .int .u8 0, .int .u8 0, .int .u8 0, .int .u8 0] := rfl
set_option maxRecDepth 100000 in
set_option maxHeartbeats 2000000 in
theorem bytesP (g : Nat → Nat) (hg : Ok51 g) (w : World) :
    Calls Tryd.prog 62 #[.agg (rowK .u64 (tab 5 g))] w fun e w' => e = .returned (.string (str (outB (V51 g % PR)))) ∧ Bel w.heap.size w w' := by
  have OG := hide hg
  have HV := hide (le51_val hg)
  clear hg
  have HA : Hid (Blk (w.alloc (.cells (rowK .u64 (tab 5 g)) 88)) w.heap.size 88 .u64 (tab 5 g)) := Blk.new w _ _ _
  have HB : Hid (Bel w.heap.size w (w.alloc (.cells (rowK .u64 (tab 5 g)) 88))) := (Bel.refl _ _).alloc (Nat.le_refl _) _
  go_enter Tryd.func62, Tryd.ntmps62
  go_wp2_with (first | (refine wpList_ldB HA.out Tryd.underlying88 rfl (info5 _) rfl _ rfl rfl ?_))
  generalize w.alloc (.cells (rowK .u64 (tab 5 g)) 88) = w1 at *
  refine (leastP g OG.out _).mono ?_
  rintro e w2 ⟨rfl, hb2⟩
  replace HB := hide (HB.out.trans (hb2.mono HB.out.size))
  replace HA := hide (HA.out.below hb2 HA.out.lt)
  clear hb2
  go_wp2_with (first | (refine wpList_stB HA.out (info5 (le51 g)) (len5 _ _) rfl _ _ rfl rfl rfl rfl ?_; intro w5 hb5 ho5 hk5))
  replace HB := hide (HB.out.trans hb5)
  have HA := hide hk5
  clear hb5 ho5 hk5
  obtain ⟨v, hv⟩ : ∃ v, v = V51 g % PR := ⟨_, rfl⟩
  have HVV := hide hv
  have HBIT : Hid (∀ i, i < 255 → le51 g (i / 51) / 2 ^ (i % 51) % 2 = vbit v i) := fun i hi => by
    have h := bit_of_digit 51 (le51 g) 5 i (by decide) hi (fun j _ => le51_lt g j)
    rw [show sumB (2 ^ 51) (le51 g) 5 = v by rw [hv, ← HV.out]; rfl] at h
    exact h
  have HLT := hide (le51_lt g)
  clear hv HV
  generalize le51 g = f at *
  rw [← z32]
  have hal := HA.out.lt
  have HO : Hid (Blk (w5.alloc (.cells (rowK .u8 (tab 32 zer17)) 85)) w5.heap.size 85 .u8 (tab 32 zer17)) := Blk.new _ _ _ _
  replace HB := hide (HB.out.alloc HB.out.size (.cells (rowK .u8 (tab 32 zer17)) 85))
  replace HA := hide (HA.out.alloc (.cells (rowK .u8 (tab 32 zer17)) 85))
  generalize w5.alloc (.cells (rowK .u8 (tab 32 zer17)) 85) = w6 at *
  generalize w5.heap.size = O at *
  go_loopw [8] (fun t wr => ∃ k : Nat, k ≤ 255 ∧ t = .int .i64 k ∧ Bel w.heap.size w wr ∧ Blk wr w.heap.size 88 .u64 (tab 5 f) ∧ Blk wr O 85 .u8 (tab 32 (grp 8 (vbit v) k))) (fun t _ => 255 - (intOf t).toNat)
  case atStart => exact ⟨0, Nat.zero_le _, rfl, HB.out, HA.out, by rw [tab_congr 32 (h := zer17) (fun i _ => grp_zero 8 (vbit v) i)]; exact HO.out⟩
  case round =>
    clear HB HA HO
    obtain ⟨k, hk, rfl, hB, hA, hO⟩ := hrel
    have HB := hide hB
    have HA := hide hA
    have HO := hide hO
    clear hB
    by_cases hk2 : k < 255
    · have ca := hA.cell (k / 51) (by rw [tab_length]; omega)
      rw [tab_getD _ _ _ (by omega)] at ca
      have co := hO.cell (k / 8) (by rw [tab_length]; omega)
      rw [tab_getD _ _ _ (by omega)] at co
      have hf := hO.frozen (k / 8)
      have HO2 := hide (hO.set (k / 8) (grp 8 (vbit v) k (k / 8) + vbit v k * 2 ^ (k % 8)))
      rw [grp_next 32 8 (vbit v) k (by decide)] at HO2
      clear hA hO
      have hd := grp_lt 8 (vbit v) (vbit_lt v) k (by decide)
      have HBT := hide (HBIT.out k hk2)
      have lx := HLT.out (k / 51)
      generalize f (k / 51) = x at *
      generalize grp 8 (vbit v) k (k / 8) = d at *
      go_wp2
      go_region
      rw [by_eq hd (by omega), HBT.out]
      generalize d + vbit v k * 2 ^ (k % 8) = z at *
      go_wp2
      go_roundw
      case rel => exact ⟨k + 1, by omega, by go_num, (HB.out.setCell (p := ⟨O, k / 8, none⟩) (by show w.heap.size ≤ O; omega) _).drew, HA.out.setOther _ _ (by show w.heap.size ≠ O; omega), HO2.out⟩
      case measure => simp [intOf]; omega
    · have h255 : k = 255 := by omega
      subst h255
      have hcv := convRow (n := 32) (c := 32) hO (by rw [tab_length]; exact Nat.le_refl _)
      rw [List.take_of_length_le (by rw [tab_length]; exact Nat.le_refl _)] at hcv
      have HOB : Hid ((tab 32 (grp 8 (vbit v) 255)).map UInt8.ofNat = outB v) := rfl
      rw [HOB.out] at hcv
      clear hA hO
      go_wp2
      go_ret
      refine ⟨?_, HB.out⟩
      rw [← HVV.out]
      rfl
end Go.Proofs.YtgjdogkciklgkaaDoor
