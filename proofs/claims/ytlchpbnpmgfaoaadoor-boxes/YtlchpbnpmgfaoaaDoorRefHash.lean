/-
  The document's Hash.
-/
import Derived.Test.YtlchpbnpmgfaoaaDoorRefBlock
import Derived.Test.YtlchpbnpmgfaoaaDoorRefBig
import Derived.Test.YtlchpbnpmgfaoaaDoorOut
namespace Go.Proofs.YtlchpbnpmgfaoaaDoor
open Go.RowKit

/-- The text with its mark and j zeros. -/
def padTo (l : List UInt8) (j : Nat) : List UInt8 := l ++ [128] ++ List.replicate j 0
theorem padTo_length (l : List UInt8) (j : Nat) : (padTo l j).length = l.length + 1 + j := by simp [padTo]; omega
theorem padTo_succ (l : List UInt8) (j : Nat) : padTo l j ++ [0] = padTo l (j + 1) := by
  unfold padTo
  rw [List.append_assoc, ← List.replicate_succ']
theorem padTo_all (l : List UInt8) : padTo l (zerosFor l.length) ++ bigB (8 * l.length) 8 = padded l := rfl
theorem zerosFor_mod (n : Nat) : (n + 1 + zerosFor n) % 64 = 56 := by unfold zerosFor; omega
theorem zerosFor_lt (n j : Nat) (h : j < zerosFor n) : (n + 1 + j) % 64 ≠ 56 := by unfold zerosFor at h; omega

set_option maxRecDepth 100000 in
set_option maxHeartbeats 2000000 in
theorem refHash (l : List UInt8) (hl : l.length ≤ 100000) (w : World) :
    Calls Tryd.prog 49 #[.string (str l)] w fun e w' => e = .returned (.string (str (sha l))) ∧ Bel w.heap.size w w' := by
  have hsz := str_size l
  have ha : ∀ w, (Op.stringOp .add (str l) ⟨#[128]⟩).run Tryd.prog w = .ok (.string (str (padTo l 0))) w := fun w => by
    rw [show padTo l 0 = l ++ [128] by simp [padTo]]
    exact addS l [128] (by simp; omega) w
  go_enter Tryd.func49, Tryd.ntmps49
  go_wp2
  clear ha
  go_loop [0] (fun v => ∃ j : Nat, j ≤ zerosFor l.length ∧ v = .string (str (padTo l j))) (fun v => l.length + 1 + zerosFor l.length - strLen v)
  case atStart => exact ⟨0, Nat.zero_le _, rfl⟩
  case round =>
    obtain ⟨j, hj, rfl⟩ := hrel
    have hz : zerosFor l.length < 64 := by unfold zerosFor; omega
    have hp : (str (padTo l j)).size = l.length + 1 + j := by rw [str_size, padTo_length]
    by_cases hlt : j < zerosFor l.length
    · have hne := zerosFor_lt l.length j hlt
      have hb : ((((l.length + 1 + j : Nat) : Int) % 64) != 56) = true := by rw [bne_iff_ne]; omega
      have ha : ∀ w, (Op.stringOp .add (str (padTo l j)) ⟨#[0]⟩).run Tryd.prog w = .ok (.string (str (padTo l (j + 1)))) w := fun w => by
        rw [← padTo_succ]
        exact addS (padTo l j) [0] (by rw [padTo_length]; simp; omega) w
      clear hne
      go_wp2
      refine ⟨⟨j + 1, by omega, rfl⟩, ?_⟩
      have hp' : (str (padTo l (j + 1))).size = l.length + 1 + (j + 1) := by rw [str_size, padTo_length]
      simp only [strLen, hp, hp']
      omega
    · have hj' : j = zerosFor l.length := by omega
      have hm := zerosFor_mod l.length
      rw [← hj'] at hm
      have hb : ((((l.length + 1 + j : Nat) : Int) % 64) != 56) = false := by simp only [bne_eq_false_iff_eq]; omega
      have HP : Hid (padTo l j ++ bigB (8 * l.length) 8 = padded l) := by rw [hj']; exact padTo_all l
      have hpl : (padded l).length = l.length + 1 + j + 8 := by rw [padded_length, hj']; omega
      have ha : ∀ w, (Op.stringOp .add (str (padTo l j)) (str (bigB (8 * l.length) 8))).run Tryd.prog w = .ok (.string (str (padded l))) w := fun w => by
        rw [← HP.out]
        exact addS (padTo l j) _ (by rw [padTo_length, bigB_length]; omega) w
      have HM := hide hm
      have HL := hide hpl
      clear hm hpl hj' hlt HP
      go_wp2_with fail
      refine (refBigI _ _ (by omega) (by omega) (by omega) _).mono ?_
      rintro e w1 ⟨rfl, hb1⟩
      have HB1 := hide hb1
      clear hb1
      rw [show (8 * (l.length : Int)).toNat = 8 * l.length by omega, show (8 : Int).toNat = 8 from rfl]
      go_wp2
      have hsz2 : (str (padded l)).size = (padded l).length := str_size _
      obtain ⟨nb, hnb⟩ : ∃ nb, (padded l).length = 64 * nb := ⟨(padded l).length / 64, by have := padded_mod l; omega⟩
      have hnb2 : nb ≤ 2000 := by have := HL.out; omega
      have HSH : Hid (sha l = outTo (compTo (padded l) nb) 8) := by
        show sha l = _
        rw [outTo_all, sha, hnb, Nat.mul_div_cancel_left nb (by decide)]
      rw [hnb] at hsz2
      have HN := hide hnb
      clear hnb ha hp hsz hb hz hj HM HL
      generalize padded l = p at *
      have hB : Bel w.heap.size w (w1.alloc (.cells (rowK .i64 iv.toList) 3)) := HB1.out.alloc HB1.out.size _
      have hK : Blk (w1.alloc (.cells (rowK .i64 iv.toList) 3)) w1.heap.size 3 .i64 iv.toList := Blk.new w1 _ _ _
      have hs1 : w.heap.size ≤ w1.heap.size := HB1.out.size
      have HB := hide hB
      have HK := hide hK
      clear hB hK HB1
      go_loopw [4, 5] (fun v t wr => ∃ k b : Nat, k ≤ nb ∧ t = .int .i64 (64 * (k : Int)) ∧ v = .slice (some ⟨b, 0, none⟩) 8 8 ∧ w.heap.size ≤ b ∧ Bel w.heap.size w wr ∧ Blk wr b 3 .i64 (compTo p k).toList) (fun _ t _ => 64 * nb - (intOf t).toNat)
      case atStart => exact ⟨0, w1.heap.size, Nat.zero_le _, rfl, rfl, hs1, HB.out, HK.out⟩
      case round =>
        clear HB HK
        obtain ⟨k, b, hk, rfl, rfl, hbb, hB, hK⟩ := hrel
        have HB := hide hB
        have HK := hide hK
        clear hB hK
        by_cases hkn : k < nb
        · have HS : Hid (comp (compTo p k) ((p.drop (64 * k)).take 64) = compTo p (k + 1)) := rfl
          have hmz : ((p.drop (64 * k)).take 64).length = 64 := by simp; have := HN.out; omega
          have HMZ := hide hmz
          clear hmz
          go_wp2_with fail
          rw [str_extract, show 64 * k + 64 - 64 * k = 64 by omega]
          generalize (p.drop (64 * k)).take 64 = q at *
          refine (refBlock b _ (compTo_ok p k) (str q) (by rw [str_size]; exact HMZ.out) wr HK.out).mono ?_
          rintro e w2 ⟨b2, rfl, hbb2, hB2, hK2⟩
          rw [str_data, HS.out] at hK2
          have HB2 := hide (HB.out.trans (hB2.mono HB.out.size))
          have HK2 := hide hK2
          have hs2 : w.heap.size ≤ b2 := Nat.le_trans HB.out.size hbb2
          clear hB2 hK2 hbb2
          go_wp2
          exact ⟨⟨k + 1, b2, by omega, by go_num, rfl, hs2, HB2.out, HK2.out⟩, by simp [intOf]; omega⟩
        · have hkn' : k = nb := by omega
          subst hkn'
          go_wp2
          have hok := compTo_ok p k
          generalize compTo p k = z at *
          go_loopw [6, 7] (fun v t wq => ∃ i : Nat, i ≤ 8 ∧ t = .int .i64 i ∧ v = .string (str (outTo z i)) ∧ Bel w.heap.size w wq ∧ Blk wq b 3 .i64 z.toList) (fun _ t _ => 8 - (intOf t).toNat)
          case atStart => exact ⟨0, Nat.zero_le _, rfl, rfl, HB.out, HK.out⟩
          case round =>
            clear HB HK
            obtain ⟨i, hi, rfl, rfl, hB, hK⟩ := hrel
            by_cases hi8 : i < 8
            · have c := hK.cell i hi8
              have HB := hide hB
              have HK := hide hK
              have HO := hide (outTo_succ z i hi8)
              have hol := outTo_length z i hi
              clear hB hK
              generalize z.toList.getD i 0 = x at *
              have ha : ∀ w, (Op.stringOp .add (str (outTo z i)) (str (bigB x 4))).run Tryd.prog w = .ok (.string (str (outTo z (i + 1)))) w := fun w => by
                rw [← HO.out]
                exact addS (outTo z i) _ (by rw [hol, bigB_length]; omega) w
              clear hol
              go_wp2_with fail
              refine (refBigI _ _ (by omega) (by omega) (by omega) _).mono ?_
              rintro e w3 ⟨rfl, hb3⟩
              rw [Int.toNat_natCast, show (4 : Int).toNat = 4 from rfl]
              have HB3 := hide (HB.out.trans (hb3.mono HB.out.size))
              have HK3 := hide (HK.out.below hb3 HK.out.lt)
              clear hb3
              go_wp2
              go_roundw
              case rel => exact ⟨i + 1, by omega, by go_num, rfl, HB3.out, HK3.out⟩
              case measure => simp [intOf]; omega
            · have h8 : i = 8 := by omega
              subst h8
              have HB := hide hB
              clear hB hK
              go_wp2
              go_ret
              refine ⟨?_, HB.out⟩
              rw [HSH.out]
              rfl
end Go.Proofs.YtlchpbnpmgfaoaaDoor
