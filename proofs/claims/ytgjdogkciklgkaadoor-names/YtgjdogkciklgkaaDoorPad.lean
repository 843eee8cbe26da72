/-
  The program's pad: '[]byte(data)', and what is appended to it byte by byte.
-/
import Derived.Test.YtgjdogkciklgkaaDoorLow
import Derived.Deep.Onto
import Derived.Lib.ConvBytes
import Derived.BigQuiet
namespace Go.Proofs.YtgjdogkciklgkaaDoor
open Go.RowKit

/-- Bytes as cells. -/
def cellsOfB (l : List UInt8) : List Value := l.map fun b => Value.int .u8 (b.toNat : Int)
theorem cellsOfB_append (a b : List UInt8) : cellsOfB (a ++ b) = cellsOfB a ++ cellsOfB b := by simp [cellsOfB]
theorem cellsOfB_length (l : List UInt8) : (cellsOfB l).length = l.length := by simp [cellsOfB]
theorem cellsOfB_get (l : List UInt8) (j : Nat) (h : j < l.length) : (cellsOfB l)[j]? = some (.int .u8 (byteAt l j : Nat)) := by
  simp [cellsOfB, byteAt, h]

/-- WHAT '[]byte(s)' LEAVES. -/
theorem convB (l : List UInt8) (w : World) (hl : l.length ≤ maxLen) : ∃ cap W, (convert 9 59 (.string (str l))).run Tryd.prog w = .ok (.slice (some ⟨w.heap.size, 0, none⟩) l.length cap) W ∧
    Came W 1 (some ⟨w.heap.size, 0, none⟩) w.heap.size 0 l.length cap (cellsOfB l) ∧ Bel w.heap.size w W ∧ W.heap.size = w.heap.size + 1 ∧ cap ≤ maxLen := by
  have hr := Lib.run_convert_string_bytes (P := Tryd.prog) w 9 59 5 (str l) Tryd.underlying9 Tryd.underlying59 Tryd.underlying5
  have hsz : (str l).size = l.length := str_size l
  rw [hsz] at hr
  have hcs : (Lib.bytesCells w 5 (str l)).size = grownCap w l.length 0 5 := by
    have := grownCap_ge w l.length 0 5
    simp [Lib.bytesCells, str, hsz] at *
    omega
  refine ⟨grownCap w l.length 0 5, Lib.bytesWorld w 5 (str l), hr, ⟨grownCap_ge w _ _ _, fun _ => rfl, fun _ => by rw [Lib.bytesWorld_size]; omega, by rw [cellsOfB_length]; omega, ?_, ?_⟩, ⟨rfl, rfl, by rw [Lib.bytesWorld_size]; omega, fun k hk => Lib.bytesWorld_at_old w _ _ k hk⟩, Lib.bytesWorld_size w _ _, grownCap_le_maxLen w _ _ _ hl⟩
  · intro j u hj
    have hlt : j < l.length := by
      rcases Nat.lt_or_ge j l.length with h | h
      · exact h
      · rw [List.getElem?_eq_none (by rw [cellsOfB_length]; exact h)] at hj; cases hj
    rw [cellsOfB_get l j hlt] at hj
    rw [Nat.zero_add, Lib.bytesWorld_cell w _ _ j (by rw [hsz]; exact hlt), str_data]
    exact hj
  · intro j hj
    have hn := Lib.bytesWorld_at_new w 5 (str l)
    have hj' : 0 + l.length * 1 + j < (Lib.bytesCells w 5 (str l)).size := by rw [hcs]; omega
    constructor
    · simp only [World.cell?, hn]
      rw [Array.getElem?_eq_getElem hj']
      rfl
    · simp only [World.frozen?, hn]
      simp
      omega

/-- WHERE THE SLICE LIES at the end. -/
theorem ontoAt {w0 W w : World} {l : List UInt8} {cap m : Nat} {v : Value} {ks : List UInt8} (hc : Came W 1 (some ⟨w0.heap.size, 0, none⟩) w0.heap.size 0 l.length cap (cellsOfB l)) (hWs : W.heap.size = w0.heap.size + 1) (hcap : cap ≤ maxLen) (hm : 0 < m)
    (h : Onto W 5 1 (some ⟨w0.heap.size, 0, none⟩) w0.heap.size 0 l.length cap (cellsOfB l) w v m (cellsOfB ks)) :
    ∃ g c, v = .slice (some ⟨g, 0, none⟩) (l.length + m) c ∧ l.length + m ≤ c ∧ w0.heap.size ≤ g ∧ g < w.heap.size ∧ ∀ j, j < l.length + m → w.cell? ⟨g, j, none⟩ = some (.int .u8 (byteAt (l ++ ks) j : Nat)) := by
  obtain ⟨g, o', c, hv, hle, _, hcell⟩ := h.value hc hcap (.inr hm)
  have hks : ks.length = m := by have := h.ksLen; rw [cellsOfB_length] at this; omega
  have hg : o' = 0 ∧ w0.heap.size ≤ g := by
    rcases h.val with ⟨_, hv2⟩ | ⟨_, hown⟩
    · rw [hv] at hv2
      simp only [Value.slice.injEq, Option.some.injEq, Addr.mk.injEq] at hv2
      exact ⟨hv2.1.2.1, by omega⟩
    · rcases hown.2 with ⟨hv2, _⟩ | ⟨g2, cap2, cur, hv2, hb, _⟩
      · rw [hv] at hv2; simp at hv2
      · rw [hv] at hv2
        simp only [Value.slice.injEq, Option.some.injEq, Addr.mk.injEq] at hv2
        exact ⟨hv2.1.2.1, by omega⟩
  obtain ⟨rfl, hg⟩ := hg
  have hcell' : ∀ j, j < l.length + m → w.cell? ⟨g, j, none⟩ = some (.int .u8 (byteAt (l ++ ks) j : Nat)) := fun j hj => by
    have := hcell j (by omega)
    rw [Nat.zero_add, ← cellsOfB_append, cellsOfB_get _ _ (by rw [List.length_append, hks]; exact hj)] at this
    exact this
  exact ⟨g, c, hv, hle, hg, cell_lt (hcell' 0 (by omega)), hcell'⟩

/-- THE FRAME of it. -/
theorem ontoBel {w0 W w : World} {l : List UInt8} {cap m : Nat} {v : Value} {ks : List Value} (hB : Bel w0.heap.size w0 W) (hWs : W.heap.size = w0.heap.size + 1)
    (h : Onto W 5 1 (some ⟨w0.heap.size, 0, none⟩) w0.heap.size 0 l.length cap (cellsOfB l) w v m ks) : Bel w0.heap.size w0 w := by
  have hk := h.kept
  have hb : ∀ k, k < w0.heap.size → w.heap[k]? = W.heap[k]? := fun k hk' => hk.block (by omega) (fun p hp => by
    obtain ⟨j, _, _, rfl⟩ := hp
    show w0.heap.size ≠ k
    omega)
  refine hB.trans ⟨hk.1, hk.2.1, ?_, hb⟩
  rcases Nat.lt_or_ge w.heap.size W.heap.size with hlt | hge
  · exfalso
    have h3 := hk.2.2 w.heap.size hlt
    have e1 : w.heap[w.heap.size]? = none := Array.getElem?_eq_none (Nat.le_refl _)
    have e2 : W.heap[w.heap.size]? = some (W.heap[w.heap.size]'hlt) := Array.getElem?_eq_getElem hlt
    rw [e1, e2] at h3
    revert h3
    cases W.heap[w.heap.size]'hlt <;> simp
  · exact hge
theorem Tryd.infoU8 : (Tryd.prog.info? 5).map (fun i => (i.zero, i.size, i.bytes)) = some (some (.int .u8 0), 1, 1) := by kernel_rfl
def sliceLen : Value → Nat
  | .slice _ n _ => n
  | _ => 0
theorem bigB_take (n : Nat) : ∀ (m k : Nat), k < m → (bigB n m).take (k + 1) = (bigB n m).take k ++ [UInt8.ofNat (n / 256 ^ (m - 1 - k))]
  | 0, k, h => by omega
  | m + 1, 0, _ => by simp [bigB]
  | m + 1, k + 1, h => by
    have := bigB_take n m k (by omega)
    simp only [bigB, List.take_succ_cons, List.cons_append]
    rw [this, show m + 1 - 1 - (k + 1) = m - 1 - k by omega]
theorem byteVal (n k : Nat) (h : k < 8) : (((UInt8.ofNat (8 * n / 256 ^ (8 - 1 - k))).toNat : Nat) : Int) = (n : Int) * 8 / 2 ^ (8 * (7 - k)) % 256 := by
  have e : (256 : Nat) ^ (8 - 1 - k) = 2 ^ (8 * (7 - k)) := by rw [show (256 : Nat) = 2 ^ 8 from rfl, ← Nat.pow_mul, show 8 - 1 - k = 7 - k by omega]
  rw [e]
  have h2 : (UInt8.ofNat (8 * n / 2 ^ (8 * (7 - k)))).toNat = 8 * n / 2 ^ (8 * (7 - k)) % 256 := by simp
  rw [h2, Int.natCast_emod, Int.natCast_ediv, Int.natCast_pow, Int.natCast_mul, Int.mul_comm]
  rfl
theorem one_new (w : World) (u : Value) : ∀ (j : Nat) (x : Value), [u][j]? = some x → (w.alloc (.cells #[u] 5)).cell? ((⟨w.heap.size, 0, none⟩ : Addr).add j) = some x := by
  intro j x hj
  match j, hj with
  | 0, hj =>
    simp at hj; subst hj
    have : (⟨w.heap.size, 0, none⟩ : Addr).add 0 = ⟨w.heap.size, 0, none⟩ := by simp [Addr.add]
    rw [this, World.cell?_alloc_new]
    rfl

set_option maxRecDepth 100000 in
set_option maxHeartbeats 2000000 in
theorem padP (l : List UInt8) (hl : l.length ≤ 100000) (w : World) :
    Calls Tryd.prog 99 #[.string (str l)] w fun e w' => ∃ g c, e = .returned (.slice (some ⟨g, 0, none⟩) (padded l).length c) ∧ (padded l).length ≤ c ∧ w.heap.size ≤ g ∧ g < w'.heap.size ∧ Bel w.heap.size w w' ∧ ∀ j, j < (padded l).length → w'.cell? ⟨g, j, none⟩ = some (.int .u8 (byteAt (padded l) j : Nat)) := by
  obtain ⟨cap, W, hcv, hc, hBW, hWs, hcap⟩ := convB l w (by unfold maxLen; omega)
  obtain ⟨i0, hi, hz0, hz1, hz2⟩ := info_parts Tryd.infoU8
  have hsz := str_size l
  have HC := hide hc
  have HBW := hide hBW
  have HWs := hide hWs
  have HCap := hide hcap
  have HI := hide hi
  have HZ0 := hide hz0
  have HZ1 := hide hz1
  have HZ2 := hide hz2
  clear hc hBW hWs hcap hi hz0 hz1 hz2
  go_enter Tryd.func99, Tryd.ntmps99
  go_wp2_with (at_builtin; refine wpList_append_onto _ rfl (.tmp 7) (.tmp 8) 59 rfl HC.out i0 (.int .u8 0) 1 Tryd.underlying59 HI.out HZ0.out HZ1.out HZ2.out rfl (by decide) rfl ((Onto.start HC.out).alloc HC.out _) ⟨W.heap.size, 0, none⟩ 1 [.int .u8 128] rfl rfl (one_new W _) (by intro u hu; simp at hu; subst hu; rfl) (by unfold maxLen; omega) (by omega) ?_; intro v1 w1 ho1)
  have HO : Hid (Onto W 5 1 (some ⟨w.heap.size, 0, none⟩) w.heap.size 0 l.length cap (cellsOfB l) w1 v1 1 (cellsOfB (128 :: List.replicate 0 0))) := ho1
  clear ho1 hcv
  obtain ⟨g1, c1, hv1, -⟩ := ontoAt HC.out HWs.out HCap.out (by omega) HO.out
  subst hv1
  go_wp2
  go_loopw [3] (fun v wr => ∃ (j g c : Nat), j ≤ zerosFor l.length ∧ v = .slice (some ⟨g, 0, none⟩) (l.length + 1 + j) c ∧ Onto W 5 1 (some ⟨w.heap.size, 0, none⟩) w.heap.size 0 l.length cap (cellsOfB l) wr (.slice (some ⟨g, 0, none⟩) (l.length + 1 + j) c) (1 + j) (cellsOfB (128 :: List.replicate j 0))) (fun v _ => l.length + 1 + zerosFor l.length - sliceLen v)
  case atStart => exact ⟨0, g1, c1, Nat.zero_le _, rfl, HO.out⟩
  case round =>
    clear HO
    obtain ⟨j, g, c, hj, rfl, ho⟩ := hrel
    have HO := hide ho
    clear ho
    have hz : zerosFor l.length < 64 := by unfold zerosFor; omega
    by_cases hlt : j < zerosFor l.length
    · have hne : (l.length + 1 + j) % 64 ≠ 56 := by unfold zerosFor at hlt; omega
      have hb : ((((l.length + 1 + j : Nat) : Int) % 64) != 56) = true := by rw [bne_iff_ne]; omega
      clear hne
      go_wp2_with (at_builtin; refine wpList_append_onto _ rfl (.tmp 14) (.tmp 15) 59 rfl HC.out i0 (.int .u8 0) 1 Tryd.underlying59 HI.out HZ0.out HZ1.out HZ2.out rfl (by decide) rfl (HO.out.alloc HC.out _) ⟨wr.heap.size, 0, none⟩ 1 [.int .u8 0] rfl rfl (one_new wr _) (by intro u hu; simp at hu; subst hu; rfl) (by unfold maxLen; omega) (by omega) ?_; intro v2 w2 ho2)
      have HO2 : Hid (Onto W 5 1 (some ⟨w.heap.size, 0, none⟩) w.heap.size 0 l.length cap (cellsOfB l) w2 v2 (1 + (j + 1)) (cellsOfB (128 :: List.replicate (j + 1) 0))) := by
        have e : cellsOfB (128 :: List.replicate (j + 1) 0) = cellsOfB (128 :: List.replicate j 0) ++ [.int .u8 0] := by
          rw [List.replicate_succ', ← List.cons_append, cellsOfB_append]; rfl
        show Onto _ _ _ _ _ _ _ _ _ _ _ _ _
        rw [e]; exact ho2
      clear ho2
      obtain ⟨g2, c2, hv2, -⟩ := ontoAt HC.out HWs.out HCap.out (by omega) HO2.out
      rw [show l.length + (1 + (j + 1)) = l.length + 1 + (j + 1) by omega] at hv2
      subst hv2
      go_wp2
      go_roundw
      case rel => exact ⟨j + 1, g2, c2, by omega, rfl, HO2.out⟩
      case measure => simp only [sliceLen]; omega
    · have hj' : j = zerosFor l.length := by omega
      have hm : (l.length + 1 + j) % 64 = 56 := by rw [hj']; unfold zerosFor; omega
      have hb : ((((l.length : Int) + 1 + (j : Int)) % 64) != 56) = false := by simp only [bne_eq_false_iff_eq]; omega
      have HJ := hide hj'
      clear hm hj' hlt
      go_wp2
      go_loopw [3, 21] (fun v t wr => ∃ (k g c : Nat), k ≤ 8 ∧ t = .int .i64 k ∧ v = .slice (some ⟨g, 0, none⟩) (l.length + 1 + j + k) c ∧ Onto W 5 1 (some ⟨w.heap.size, 0, none⟩) w.heap.size 0 l.length cap (cellsOfB l) wr (.slice (some ⟨g, 0, none⟩) (l.length + 1 + j + k) c) (1 + j + k) (cellsOfB (128 :: List.replicate j 0 ++ (bigB (8 * l.length) 8).take k))) (fun _ t _ => 8 - (intOf t).toNat)
      case atStart => exact ⟨0, g, c, Nat.zero_le _, rfl, rfl, by rw [List.take_zero, List.append_nil]; exact HO.out⟩
      case round =>
        clear HO
        obtain ⟨k, g3, c3, hk, rfl, rfl, ho⟩ := hrel
        have HO := hide ho
        clear ho
        by_cases hk8 : k < 8
        · go_wp2_with (at_builtin; refine wpList_append_onto _ rfl (.tmp 24) (.tmp 31) 59 rfl HC.out i0 (.int .u8 0) 1 Tryd.underlying59 HI.out HZ0.out HZ1.out HZ2.out rfl (by decide) rfl (HO.out.alloc HC.out _) ⟨wr.heap.size, 0, none⟩ 1 [.int .u8 ((l.length : Int) * 8 / 2 ^ (8 * (7 - k)) % 256)] rfl rfl (one_new wr _) (by intro u hu; simp at hu; subst hu; rfl) (by unfold maxLen; omega) (by omega) ?_; intro v2 w2 ho2)
          have HO2 : Hid (Onto W 5 1 (some ⟨w.heap.size, 0, none⟩) w.heap.size 0 l.length cap (cellsOfB l) w2 v2 (1 + j + (k + 1)) (cellsOfB (128 :: List.replicate j 0 ++ (bigB (8 * l.length) 8).take (k + 1)))) := by
            have e : cellsOfB (128 :: List.replicate j 0 ++ (bigB (8 * l.length) 8).take (k + 1)) = cellsOfB (128 :: List.replicate j 0 ++ (bigB (8 * l.length) 8).take k) ++ [.int .u8 ((l.length : Int) * 8 / 2 ^ (8 * (7 - k)) % 256)] := by
              rw [bigB_take _ 8 k hk8, ← List.append_assoc, cellsOfB_append]
              congr 1
              show [Value.int .u8 ((UInt8.ofNat (8 * l.length / 256 ^ (8 - 1 - k))).toNat : Int)] = _
              rw [byteVal _ _ hk8]
            show Onto _ _ _ _ _ _ _ _ _ _ _ _ _
            rw [e]; exact ho2
          clear ho2
          obtain ⟨g2, c2, hv2, -⟩ := ontoAt HC.out HWs.out HCap.out (by omega) HO2.out
          rw [show l.length + (1 + j + (k + 1)) = l.length + 1 + j + (k + 1) by omega] at hv2
          subst hv2
          go_roundw
          case rel => exact ⟨k + 1, g2, c2, by omega, by go_num, rfl, HO2.out⟩
          case measure => simp [intOf]; omega
        · have h8 : k = 8 := by omega
          subst h8
          go_wp2
          go_ret
          have e : l ++ (128 :: List.replicate j 0 ++ (bigB (8 * l.length) 8).take 8) = padded l := by
            rw [List.take_of_length_le (by rw [bigB_length]; exact Nat.le_refl _), HJ.out]
            unfold padded
            simp only [List.append_assoc, List.cons_append, List.nil_append]
          have hlen : (padded l).length = l.length + 1 + j + 8 := by rw [padded_length, HJ.out]; omega
          obtain ⟨g4, c4, hv4, hle4, hg4, hlt4, hcell⟩ := ontoAt HC.out HWs.out HCap.out (by omega) HO.out
          rw [e] at hcell
          have hB := ontoBel HBW.out HWs.out HO.out
          rw [show l.length + (1 + j + 8) = (padded l).length by omega] at hv4 hle4 hcell
          refine ⟨g4, c4, ?_, hle4, hg4, hlt4, hB, hcell⟩
          rw [← hv4]
          rfl
end Go.Proofs.YtgjdogkciklgkaaDoor
