/-
  The laws' few and shuffled.
-/
import Derived.Test.YtgjdogkciklgkaaDoorBx
import Derived.OwnWalk
import Derived.Test.YtgjdogkciklgkaaDoorBoxR
import Derived.Test.YtgjdogkciklgkaaDoorCopW
namespace Go.Proofs.YtgjdogkciklgkaaDoor
open Go.RowKit

def strV (l : List (List UInt8)) : List Value := l.map fun s => .string (str s)
theorem strV_length (l : List (List UInt8)) : (strV l).length = l.length := by simp [strV]
theorem strV_append (a b : List (List UInt8)) : strV (a ++ b) = strV a ++ strV b := by simp [strV]
theorem strV_get (l : List (List UInt8)) (j : Nat) (h : j < l.length) : (strV l)[j]? = some (.string (str (l.getD j []))) := by simp [strV, h]
def fewL (L : List (List UInt8)) (k : Nat) : List (List UInt8) := (L.take k).map fun s => s.take 64
theorem fewL_length (L : List (List UInt8)) (k : Nat) (h : k ≤ L.length) : (fewL L k).length = k := by simp [fewL]; omega
theorem fewL_succ (L : List (List UInt8)) (k : Nat) (h : k < L.length) : fewL L (k + 1) = fewL L k ++ [(L.getD k []).take 64] := by
  unfold fewL
  rw [List.take_add_one, List.map_append, getD_in _ _ h]
  simp [h]
theorem Tryd.infoStr : (Tryd.prog.info? 9).map (fun i => (i.zero, i.size, i.bytes)) = some (some (.string ⟨#[]⟩), 1, 16) := by kernel_rfl
theorem one_newS (W : World) (x : Value) (T : TypeId) : ∀ (j : Nat) (u : Value), [x][j]? = some u → (W.alloc (.cells #[x] T)).cell? ((⟨W.heap.size, 0, none⟩ : Addr).add j) = some u := by
  intro j u hj
  match j, hj with
  | 0, hj => simp at hj; subst hj; rw [Addr.add_lit, World.cell?_alloc_new]; rfl
  | j + 1, hj => simp at hj

/-- A slice of strings that can be read. -/
def RdS (w : World) (ao : Option Addr) (L : List (List UInt8)) : Prop := L.length ≠ 0 → ∃ g o, ao = some ⟨g, o, none⟩ ∧ g < w.heap.size ∧ ∀ j, j < L.length → w.cell? ⟨g, o + j, none⟩ = some (.string (str (L.getD j [])))
theorem RdS.below {w w' : World} {ao : Option Addr} {L : List (List UInt8)} (h : RdS w ao L) (hb : Bel w.heap.size w w') : RdS w' ao L := fun hn => by
  obtain ⟨g, o, he, hg, hc⟩ := h hn
  exact ⟨g, o, he, Nat.lt_of_lt_of_le hg hb.size, fun j hj => (hb.cell (p := ⟨g, o + j, none⟩) hg).trans (hc j hj)⟩

set_option maxRecDepth 100000 in
set_option maxHeartbeats 2000000 in
theorem fewP (ao : Option Addr) (L : List (List UInt8)) (N cap : Nat) (hN : N ≤ 100) (hL : L.length ≤ maxLen) (hm : ∀ s ∈ L, s.length ≤ maxLen) (w : World) (hr : RdS w ao L) :
    Calls Tryd.prog 24 #[.slice ao L.length cap, .int .i64 (N : Int)] w fun e w' => ∃ v, e = .returned v ∧ w'.ownsRow w.heap.size 9 1 v (min N L.length) (strV (fewL L (min N L.length))) ∧ Bel w.heap.size w w' := by
  obtain ⟨i0, hi, hz0, hz1, hz2⟩ := info_parts Tryd.infoStr
  have HI := hide hi
  have HZ0 := hide hz0
  have HZ1 := hide hz1
  have HZ2 := hide hz2
  have HR := hide hr
  have HM := hide hm
  have hL' : L.length ≤ 9223372036854775807 := by unfold maxLen at hL; omega
  clear hi hz0 hz1 hz2 hr hm hL
  go_enter Tryd.func24, Tryd.ntmps24
  go_wp2
  go_loopw [5, 6, 7] (fun v t _ wr => ∃ k : Nat, k ≤ min N L.length ∧ t = .int .i64 k ∧ wr.ownsRow w.heap.size 9 1 v k (strV (fewL L k)) ∧ Bel w.heap.size w wr) (fun _ t _ _ => min N L.length - (intOf t).toNat)
  case atStart => exact ⟨0, Nat.zero_le _, rfl, World.ownsRow_nil _ _ _ _, Bel.refl _ _⟩
  case round =>
    obtain ⟨k, hk, rfl, ho, hB⟩ := hrel
    have HO := hide ho
    have HB := hide hB
    clear ho hB
    by_cases hkl : k < L.length
    · by_cases hkn : k < N
      · obtain ⟨g, o, rfl, hg, hc⟩ := HR.out (by omega)
        have c0 := (HB.out.cell (p := ⟨g, o + k, none⟩) hg).trans (hc k hkl)
        have HX := hide (fewL_succ L k hkl)
        have hms := HM.out (L.getD k []) (by rw [getD_in _ _ hkl]; exact List.getElem_mem _)
        have hms' : (L.getD k []).length ≤ 9223372036854775807 := by unfold maxLen at hms; omega
        have hkz : (k : Int) < (L.length : Int) := by omega
        clear hc hms
        generalize L.getD k [] = s at *
        have zs := str_size s
        by_cases h64 : 64 < s.length
        · have hs := sliceHi s 64 64 (by omega) (by omega)
          generalize s.take 64 = s' at *
          go_wp2_with (at_builtin; go_must (refine wpList_append_own _ rfl (.tmp 28) (.tmp 30) 38 rfl w.heap.size 9 i0 (.string ⟨#[]⟩) 1 16 Tryd.underlying38 HI.out HZ0.out HZ1.out HZ2.out rfl (by decide) _ _ _ rfl (HO.out.alloc _) ⟨wr.heap.size, 0, none⟩ 1 1 [.string (str s')] rfl rfl (one_newS wr _ _) (by intro u hu; simp at hu; subst hu; rfl) (by unfold maxLen; omega) (by omega) (by have := HB.out.size; simp; omega) ?_); intro v2 w2 ho2 hg2 _)
          have HO2 : Hid (w2.ownsRow w.heap.size 9 1 v2 (k + 1) (strV (fewL L (k + 1)))) := by show World.ownsRow _ _ _ _ _ _ _; rw [HX.out, strV_append]; exact ho2
          have HB2 := hide ((HB.out.alloc HB.out.size _).grown hg2 (by have := HB.out.size; simp; omega) (fun k hk => (HO.out.lt k hk).1))
          clear ho2 hg2 hs c0
          go_wp2
          go_roundw
          case rel => exact ⟨k + 1, by omega, by go_num, HO2.out, HB2.out⟩
          case measure => simp [intOf]; omega
        · have hts : s.take 64 = s := List.take_of_length_le (by omega)
          rw [hts] at HX
          clear hts
          go_wp2_with (at_builtin; go_must (refine wpList_append_own _ rfl (.tmp 28) (.tmp 30) 38 rfl w.heap.size 9 i0 (.string ⟨#[]⟩) 1 16 Tryd.underlying38 HI.out HZ0.out HZ1.out HZ2.out rfl (by decide) _ _ _ rfl (HO.out.alloc _) ⟨wr.heap.size, 0, none⟩ 1 1 [.string (str s)] rfl rfl (one_newS wr _ _) (by intro u hu; simp at hu; subst hu; rfl) (by unfold maxLen; omega) (by omega) (by have := HB.out.size; simp; omega) ?_); intro v2 w2 ho2 hg2 _)
          have HO2 : Hid (w2.ownsRow w.heap.size 9 1 v2 (k + 1) (strV (fewL L (k + 1)))) := by show World.ownsRow _ _ _ _ _ _ _; rw [HX.out, strV_append]; exact ho2
          have HB2 := hide ((HB.out.alloc HB.out.size _).grown hg2 (by have := HB.out.size; simp; omega) (fun k hk => (HO.out.lt k hk).1))
          clear ho2 hg2 c0
          go_wp2
          go_roundw
          case rel => exact ⟨k + 1, by omega, by go_num, HO2.out, HB2.out⟩
          case measure => simp [intOf]; omega
      · have e : min N L.length = k := by omega
        have h1 : (k : Int) < (L.length : Int) := by omega
        have h2 : ¬ (k : Int) < (N : Int) := by omega
        go_wp2
        go_ret
        exact ⟨_, rfl, HO.out, HB.out⟩
    · have e : min N L.length = k := by omega
      have h1 : ¬ (k : Int) < (L.length : Int) := by omega
      go_wp2
      go_ret
      exact ⟨_, rfl, HO.out, HB.out⟩
end Go.Proofs.YtgjdogkciklgkaaDoor
namespace Go.Proofs.YtgjdogkciklgkaaDoor
open Go.RowKit

theorem swapL_perm (l : List Nat) (i k : Nat) (hi : i < l.length) (hk : k < l.length) : ((l.set i (l.getD k 0)).set k (l.getD i 0)).Perm l := by
  have h := Array.swap_perm (xs := l.toArray) (i := i) (j := k) (by simpa using hi) (by simpa using hk)
  have h2 := h.toList
  rw [Array.toList_swap] at h2
  simpa [hi, hk] using h2
/-- A slice of ints that can be read. -/
def RdI (w : World) (ao : Option Addr) (O : List Int) : Prop := O.length ≠ 0 → ∃ g o, ao = some ⟨g, o, none⟩ ∧ g < w.heap.size ∧ ∀ j, j < O.length → w.cell? ⟨g, o + j, none⟩ = some (.int .i64 (O.getD j 0))
theorem Tryd.infoI64 : (Tryd.prog.info? 3).map (fun i => (i.zero, i.size, i.bytes)) = some (some (.int .i64 0), 1, 8) := by kernel_rfl
theorem mkI (n : Nat) (hn : n ≤ 100000) (w : World) : (Instr.makeSlice 39 (.int .i64 n) (.int .i64 n)).run Tryd.prog w = .ok (.slice (some ⟨w.heap.size, 0, none⟩) n n) (w.alloc (.cells (rowK .i64 (List.replicate n 0)) 3)) := by
  obtain ⟨i0, hi, hz0, hz1, hz2⟩ := info_parts Tryd.infoI64
  have hr := run_make (P := Tryd.prog) w 39 3 i0 (.int .i64 0) Tryd.underlying39 hi hz0 .i64 .i64 n n (by omega) (Int.le_refl _) (by rw [hz2]; omega) (by omega)
  rw [hz1, Int.toNat_natCast, Nat.mul_one] at hr
  have e : madeCells (Value.int .i64 0).cells n = rowK .i64 (List.replicate n 0) := by
    apply Array.ext_getElem?
    intro j
    by_cases hj : j < n
    · rw [rowK_get _ _ _ (by rw [List.length_replicate]; exact hj)]
      simp [madeCells, Value.cells, hj, Nat.mod_one]
    · rw [Array.getElem?_eq_none (by rw [size_madeCells]; omega), Array.getElem?_eq_none (by rw [rowK_size, List.length_replicate]; omega)]
  rw [e] at hr
  exact hr
theorem tmodN (z : Int) (k : Nat) (hk : 0 < k) : ∃ m : Nat, m < k ∧ (z.tmod (k : Int) = (m : Int) ∨ (z.tmod (k : Int) = -(m : Int) ∧ 0 < m)) := by
  have h := Int.natAbs_tmod z (k : Int)
  rw [Int.natAbs_natCast] at h
  have hlt := Nat.mod_lt z.natAbs hk
  refine ⟨(z.tmod (k : Int)).natAbs, by omega, ?_⟩
  omega

set_option maxRecDepth 100000 in
set_option maxHeartbeats 2000000 in
theorem shufP (ao : Option Addr) (O : List Int) (n cap : Nat) (hn : 0 < n) (hn2 : n ≤ 100) (hO : O.length ≤ maxLen) (hw : ∀ z ∈ O, -9223372036854775808 ≤ z ∧ z ≤ 9223372036854775807) (w : World) (hr : RdI w ao O) :
    Calls Tryd.prog 43 #[.int .i64 (n : Int), .slice ao O.length cap] w fun e w' => ∃ l : List Nat, e = .returned (.slice (some ⟨w.heap.size, 0, none⟩) n n) ∧ l.Perm (List.range n) ∧ Blk w' w.heap.size 3 .i64 l ∧ Bel w.heap.size w w' := by
  have hmk := mkI n (by omega)
  have HR := hide hr
  have HWd := hide hw
  have hO' : O.length ≤ 9223372036854775807 := by unfold maxLen at hO; omega
  have HB0 : Hid (Bel w.heap.size w (w.alloc (.cells (rowK .i64 (List.replicate n 0)) 3))) := (Bel.refl _ _).alloc (Nat.le_refl _) _
  have HN0 : Hid (Blk (w.alloc (.cells (rowK .i64 (List.replicate n 0)) 3)) w.heap.size 3 .i64 (fillTo (List.range 0) n)) := by
    show Blk _ _ _ _ _
    have e : fillTo (List.range 0) n = List.replicate n 0 := by simp [fillTo]
    rw [e]
    exact Blk.new w 3 .i64 (List.replicate n 0)
  clear hr hw hO
  go_enter Tryd.func43, Tryd.ntmps43
  go_wp2
  generalize w.alloc (.cells (rowK .i64 (List.replicate n 0)) 3) = W at *
  go_loopw [6] (fun t wr => ∃ k : Nat, k ≤ n ∧ t = .int .i64 k ∧ Blk wr w.heap.size 3 .i64 (fillTo (List.range k) n) ∧ Bel w.heap.size w wr) (fun t _ => n - (intOf t).toNat)
  case atStart => exact ⟨0, Nat.zero_le _, rfl, HN0.out, HB0.out⟩
  case round =>
    clear HN0 HB0
    obtain ⟨k, hk, rfl, hB, hbl⟩ := hrel
    have HBk := hide hB
    have HBl := hide hbl
    clear hB hbl
    by_cases hkn : k < n
    · have lf : (fillTo (List.range k) n).length = n := fillTo_length _ _ (by rw [List.length_range]; omega)
      have c0 := HBk.out.cell k (by omega)
      have f0 := HBk.out.frozen k
      have HB2 : Hid (Blk (wr.setCell ⟨w.heap.size, k, none⟩ (.int .i64 (k : Int))) w.heap.size 3 .i64 (fillTo (List.range (k + 1)) n)) := by
        have h := HBk.out.set k k
        have h2 := fillTo_set (List.range k) n k (by rw [List.length_range]; omega)
        rw [List.length_range] at h2
        rw [h2, ← List.range_succ] at h
        exact h
      have HBl2 := hide (HBl.out.setCell (p := ⟨w.heap.size, k, none⟩) (Nat.le_refl _) (.int .i64 (k : Int)))
      have hkz : (k : Int) < (n : Int) := by omega
      go_wp2
      go_roundw
      case rel => exact ⟨k + 1, by omega, by go_num, HB2.out, HBl2.out⟩
      case measure => simp [intOf]; omega
    · have e : k = n := by omega
      subst e
      have hfull := fillTo_full (List.range k) k (List.length_range)
      rw [hfull] at HBk
      clear hfull
      go_wp2
      go_loopw [7, 8, 9] (fun t _ _ wr2 => ∃ (i : Nat) (l : List Nat), i ≤ k ∧ t = .int .i64 i ∧ l.Perm (List.range k) ∧ Blk wr2 w.heap.size 3 .i64 l ∧ Bel w.heap.size w wr2) (fun t _ _ _ => k - (intOf t).toNat)
      case atStart => exact ⟨0, List.range k, Nat.zero_le _, rfl, List.Perm.refl _, HBk.out, HBl.out⟩
      case round =>
        clear HBk HBl
        obtain ⟨i, l, hi, rfl, hpm, hB, hbl⟩ := hrel
        have HPM := hide hpm
        have HBk := hide hB
        have HBl := hide hbl
        have ll : l.length = k := by rw [hpm.length_eq, List.length_range]
        clear hpm hB hbl
        by_cases hik : i < k
        · by_cases hio : i < O.length
          · obtain ⟨g, o, rfl, hg, hc⟩ := HR.out (by omega)
            have c0 := (HBl.out.cell (p := ⟨g, o + i, none⟩) hg).trans (hc i hio)
            have hwz := HWd.out (O.getD i 0) (by rw [getD_in _ _ hio]; exact List.getElem_mem _)
            clear hc
            generalize O.getD i 0 = z at *
            have hiz : (i : Int) < (O.length : Int) := by omega
            have hikz : (i : Int) < (k : Int) := by omega
            obtain ⟨m, hm, hmm⟩ := tmodN z k hn
            have hkz : (k : Int) ≠ 0 := by omega
            rcases hmm with hR | ⟨hR, hm0⟩
            · have cI := HBk.out.cell i (by omega)
              have fI := HBk.out.frozen i
              have cM := HBk.out.cell m (by omega)
              have HB1 := hide (HBk.out.set i (l.getD m 0))
              have cM1 := HB1.out.cell m (by rw [List.length_set]; omega)
              have fM1 := HB1.out.frozen m
              have HB2 := hide (HB1.out.set m (l.getD i 0))
              have HPM2 := hide ((swapL_perm l i m (by omega) (by omega)).trans HPM.out)
              have HBl2 := hide ((HBl.out.setCell (p := ⟨w.heap.size, i, none⟩) (Nat.le_refl _) (.int .i64 ((l.getD m 0 : Nat) : Int))).setCell (p := ⟨w.heap.size, m, none⟩) (Nat.le_refl _) (.int .i64 ((l.getD i 0 : Nat) : Int)))
              have hmz : (m : Int) < (k : Int) := by omega
              generalize hqa : l.getD i 0 = qa at *
              generalize hqb : l.getD m 0 = qb at *
              go_wp2
              go_roundw
              case rel => exact ⟨i + 1, _, by omega, by go_num, HPM2.out, HB2.out, HBl2.out⟩
              case measure => simp [intOf]; omega
            · have hmn : -(m : Int) < 0 := by omega
              have cI := HBk.out.cell i (by omega)
              have fI := HBk.out.frozen i
              have cM := HBk.out.cell m (by omega)
              have HB1 := hide (HBk.out.set i (l.getD m 0))
              have cM1 := HB1.out.cell m (by rw [List.length_set]; omega)
              have fM1 := HB1.out.frozen m
              have HB2 := hide (HB1.out.set m (l.getD i 0))
              have HPM2 := hide ((swapL_perm l i m (by omega) (by omega)).trans HPM.out)
              have HBl2 := hide ((HBl.out.setCell (p := ⟨w.heap.size, i, none⟩) (Nat.le_refl _) (.int .i64 ((l.getD m 0 : Nat) : Int))).setCell (p := ⟨w.heap.size, m, none⟩) (Nat.le_refl _) (.int .i64 ((l.getD i 0 : Nat) : Int)))
              have hmz : (m : Int) < (k : Int) := by omega
              generalize hqa : l.getD i 0 = qa at *
              generalize hqb : l.getD m 0 = qb at *
              go_wp2
              go_roundw
              case rel => exact ⟨i + 1, _, by omega, by go_num, HPM2.out, HB2.out, HBl2.out⟩
              case measure => simp [intOf]; omega
          · have h1 : (i : Int) < (k : Int) := by omega
            have h2 : ¬ (i : Int) < (O.length : Int) := by omega
            go_wp2
            go_ret
            exact ⟨rfl, l, HPM.out, HBk.out, HBl.out⟩
        · have h1 : ¬ (i : Int) < (k : Int) := by omega
          go_wp2
          go_ret
          exact ⟨rfl, l, HPM.out, HBk.out, HBl.out⟩
end Go.Proofs.YtgjdogkciklgkaaDoor
namespace Go.Proofs.YtgjdogkciklgkaaDoor
open Go.RowKit

def adT : List UInt8 := [97, 100]
def frsL (S : PSt) (ad : List UInt8) (L : List (List UInt8)) : Nat → List (List UInt8)
  | 0 => []
  | i + 1 => frsL S ad L i ++ [frameL (sentS S i) ad (L.getD i [])]
theorem frsL_length (S : PSt) (ad : List UInt8) (L : List (List UInt8)) : ∀ i, (frsL S ad L i).length = i
  | 0 => rfl
  | i + 1 => by rw [frsL, List.length_append, frsL_length S ad L i]; rfl
theorem frsL_get (S : PSt) (ad : List UInt8) (L : List (List UInt8)) : ∀ i j, j < i → (frsL S ad L i).getD j [] = frameL (sentS S j) ad (L.getD j [])
  | 0, j, h => by omega
  | i + 1, j, h => by
    rw [frsL]
    have hl := frsL_length S ad L i
    by_cases hj : j < i
    · rw [← frsL_get S ad L i j hj, List.getD_eq_getElem?_getD, List.getElem?_append_left (by omega), ← List.getD_eq_getElem?_getD]
    · have : j = i := by omega
      subst this
      rw [List.getD_eq_getElem?_getD, List.getElem?_append_right (by omega), hl, Nat.sub_self]
      rfl

/-- A row of strings of one's own, kept where parties change. -/
theorem ownS_cells {w : World} {base g c n : Nat} {L : List (List UInt8)} (h : w.ownsRow base 9 1 (.slice (some ⟨g, 0, none⟩) n c) n (strV L)) (hn : L.length = n) : ∀ j, j < n → w.cell? ⟨g, j, none⟩ = some (.string (str (L.getD j []))) := by
  intro j hj
  rcases h.2 with ⟨h0, _⟩ | ⟨g', cap, cur, hv, hb, hgg, hle, hcap, hsz, htk⟩
  · cases h0
  · injection hv with h1 h2 h3
    injection h1 with h1
    injection h1 with h1
    subst h1
    have hs := strV_get L j (by omega)
    rw [← htk, List.getElem?_take, if_pos (by omega), Array.getElem?_toList] at hs
    rw [cell_of_row w g j cur _ (0, 0) hgg, hs]
theorem ownS_row {w : World} {base n : Nat} {v : Value} {xs : List Value} (h : w.ownsRow base 9 1 v n xs) : ∀ g, v.ownBlock = some g → base ≤ g ∧ g < w.heap.size ∧ ∃ cs, w.heap[g]? = some (.cells cs 9 (0, 0)) := by
  intro g hg
  rcases h.2 with ⟨rfl, _⟩ | ⟨g', cap, cur, rfl, hb, hgg, _⟩
  · simp [Value.ownBlock] at hg
  · simp [Value.ownBlock] at hg
    subst hg
    exact ⟨hb, (Array.getElem?_eq_some_iff.1 hgg).1, cur, hgg⟩
theorem ownS_of {w w' : World} {base n : Nat} {v : Value} {xs : List Value} (h : w.ownsRow base 9 1 v n xs) (hk : ∀ g, v.ownBlock = some g → w'.heap[g]? = w.heap[g]?) : w'.ownsRow base 9 1 v n xs := by
  refine ⟨h.1, ?_⟩
  rcases h.2 with hn | ⟨g, cap, cur, rfl, hg, hgg, rest⟩
  · exact .inl hn
  · exact .inr ⟨g, cap, cur, rfl, hg, (hk g rfl).trans hgg, rest⟩
theorem typ_ne {w : World} {g b : Nat} {cs ds : Array Value} {T U : TypeId} (h1 : w.heap[g]? = some (.cells cs T (0, 0))) (h2 : w.heap[b]? = some (.cells ds U (0, 0))) (hT : T ≠ U) : g ≠ b := by
  rintro rfl
  rw [h1] at h2
  injection h2 with h2
  injection h2 with _ h3
  exact hT h3
theorem ownS_chg {w w' : World} {base n b : Nat} {v : Value} {xs : List Value} {st : PSt} (h : w.ownsRow base 9 1 v n xs) (hp : PAt w 0 b st) (hc : Chg b w w') : w'.ownsRow base 9 1 v n xs := by
  refine ownS_of h fun g hg => ?_
  obtain ⟨_, hlt, cs, hgg⟩ := ownS_row h g hg
  obtain ⟨u, hP, _⟩ := hp
  exact hc.block g hlt (typ_ne hgg hP (by decide))
theorem ownS_below {w w' : World} {base n : Nat} {v : Value} {xs : List Value} (h : w.ownsRow base 9 1 v n xs) (hb : Bel w.heap.size w w') : w'.ownsRow base 9 1 v n xs :=
  ownS_of h fun g hg => hb.block g (ownS_row h g hg).2.1
theorem blk_chg {w w' : World} {b g : Nat} {l : List Nat} {st : PSt} (h : Blk w g 3 .i64 l) (hp : PAt w 0 b st) (hc : Chg b w w') : Blk w' g 3 .i64 l := by
  obtain ⟨u, hP, _⟩ := hp
  exact (hc.block g h.lt (typ_ne h hP (by decide))).trans h
theorem pAt_grown {w w2 : World} {base b n : Nat} {fv : Value} {xs : List Value} {st : PSt} {o : Obj} (h : PAt w 0 b st) (hf : w.ownsRow base 9 1 fv n xs) (hg : (w.alloc o).grownBy w2 fv.ownBlock) : PAt w2 0 b st := by
  have key : ∀ (k : Nat) (cs : Array Value) (T : TypeId), w.heap[k]? = some (.cells cs T (0, 0)) → T ≠ 9 → w2.heap[k]? = w.heap[k]? := by
    intro k cs T hk hT
    have hlt := (Array.getElem?_eq_some_iff.1 hk).1
    rw [hg.block k (by simp; omega) (fun e => by
      obtain ⟨_, _, ds, hd⟩ := ownS_row hf k e.symm
      exact typ_ne hk hd hT rfl)]
    exact heap_alloc_old w o hlt
  obtain ⟨v, hP, hO⟩ := h
  exact ⟨v, (key b _ _ hP (by decide)).trans hP, hO.of_block fun g cs hgg _ => key g cs _ hgg (by decide)⟩

/-- The receiver, when all have come. -/
def endS (S R : PSt) (draw : List UInt8) (n : Nat) : PSt := { afterS R (x25519 S.secret nine) draw with rk := nxN S.sk n, rn := n, kept := [] }

theorem RdI.bel {w w' : World} {ao : Option Addr} {O : List Int} (h : RdI w ao O) (hb : Bel w.heap.size w w') : RdI w' ao O := fun hn => by
  obtain ⟨g, o, he, hg, hc⟩ := h hn
  exact ⟨g, o, he, Nat.lt_of_lt_of_le hg hb.size, fun j hj => (hb.cell (p := ⟨g, o + j, none⟩) hg).trans (hc j hj)⟩

set_option maxRecDepth 100000 in
set_option maxHeartbeats 4000000 in
theorem acrossP (p q n cap c g : Nat) (S R : PSt) (L : List (List UInt8)) (ao : Option Addr) (O : List Int) (draw : List UInt8) (hl : Lk S R) (hWS : S.Wf) (hWR : R.Wf) (hd : draw.length = 32) (hLn : L.length = n) (hn : 0 < n) (hn2 : n ≤ 11) (hL : ∀ s ∈ L, s.length ≤ 64)
    (hO : O.length ≤ maxLen) (hw : ∀ z ∈ O, -9223372036854775808 ≤ z ∧ z ≤ 9223372036854775807) (a : Nat → Addr) (W0 w : World) (hE : Env W0 a) (hr : RdI W0 ao O) (hB : Bel W0.heap.size W0 w) (hp0 : W0.heap.size ≤ p) (hq0 : W0.heap.size ≤ q) (hpq : p ≠ q)
    (hv : w.ownsRow 0 9 1 (.slice (some ⟨g, 0, none⟩) n c) n (strV L)) (hp : PAt w 0 p S) (hq : PAt w 0 q R) :
    Calls Tryd.prog 25 #[.pointer (some ⟨p, 0, none⟩), .pointer (some ⟨q, 0, none⟩), .slice (some ⟨g, 0, none⟩) n c, .slice ao O.length cap, .string (str draw)] w fun e w' => e = .returned (.bool true) ∧ PAt w' 0 p (sentS S n) ∧ (sentS S n).Wf ∧ PAt w' 0 q (endS S R draw n) ∧ (endS S R draw n).Wf ∧ w'.ownsRow 0 9 1 (.slice (some ⟨g, 0, none⟩) n c) n (strV L) ∧ Bel W0.heap.size W0 w' := by
  obtain ⟨i0, hi, hz0, hz1, hz2⟩ := info_parts Tryd.infoStr
  have HI := hide hi
  have HZ0 := hide hz0
  have HZ1 := hide hz1
  have HZ2 := hide hz2
  have HE := hide hE
  have HRD := hide hr
  have HLk := hide hl
  have HLL := hide hL
  have HWd := hide hw
  have HO' := hide hO
  have HWR := hide hWR
  have hGp : 7 < p := Nat.lt_of_lt_of_le hE.lt hp0
  have hskl := hl.skl
  have hsn0 := hl.sn
  have HV := hide hv
  have HP := hide hp
  have HQ := hide hq
  have HB := hide hB
  have HW := hide hWS
  have hgw : g < w.heap.size := (ownS_row hv g rfl).2.1
  have hW0w : W0.heap.size ≤ w.heap.size := hB.size
  clear hi hz0 hz1 hz2 hE hr hl hL hw hO hWR hv hp hq hB hWS
  go_enter Tryd.func25, Tryd.ntmps25
  go_wp2
  go_loopw [11, 12, 13, 14] (fun fv t _ _ wr => ∃ i : Nat, i ≤ n ∧ t = .int .i64 i ∧ wr.ownsRow w.heap.size 9 1 fv i (strV (frsL S adT L i)) ∧ PAt wr 0 p (sentS S i) ∧ (sentS S i).Wf ∧ PAt wr 0 q R ∧ wr.ownsRow 0 9 1 (.slice (some ⟨g, 0, none⟩) n c) n (strV L) ∧ Bel W0.heap.size W0 wr ∧ w.heap.size ≤ wr.heap.size) (fun _ t _ _ _ => n - (intOf t).toNat)
  case atStart =>
    have e : sentS S 0 = S := by unfold sentS; cases S; simp only at hsn0; subst hsn0; rfl
    exact ⟨0, Nat.zero_le _, rfl, World.ownsRow_nil _ _ _ _, by rw [e]; exact HP.out, by rw [e]; exact HW.out, HQ.out, HV.out, HB.out, Nat.le_refl _⟩
  case round =>
    clear HP HW HQ HV HB
    obtain ⟨i, hi, rfl, hf, hp, hWi, hq, hv, hB, hws⟩ := hrel
    have HF := hide hf
    have HP := hide hp
    have HWi := hide hWi
    have HQ := hide hq
    have HV := hide hv
    have HB := hide hB
    by_cases hin : i < n
    · have c0 := ownS_cells hv hLn i hin
      have lt : (L.getD i []).length ≤ 64 := HLL.out _ (by rw [getD_in _ _ (by omega)]; exact List.getElem_mem _)
      have HS := hide (send_first (sentS S i) (L.getD i []) (nxN_length _ hskl _) (show i < 30 by omega) lt adT (by decide))
      have HWs := hide (HWi.out.step (show i < 30 by omega))
      have HFX : Hid (frsL S adT L (i + 1) = frsL S adT L i ++ [frameL (sentS S i) adT (L.getD i [])]) := rfl
      have HST : Hid (stepS (sentS S i) = sentS S (i + 1)) := rfl
      have hiz : (i : Int) < (n : Int) := by omega
      clear hf hp hWi hq hv hB
      generalize L.getD i [] = t at *
      generalize frameL (sentS S i) adT t = f at *
      go_wp2_with fail
      rw [show (⟨#[97, 100]⟩ : ByteArray) = str adT from rfl]
      refine (sendY p (sentS S i) _ adT t f (by decide) (by unfold maxLen; omega) HWi.out HS.out a _ (HE.out.errs.below HB.out) (HE.out.toTab.below HB.out) hGp HP.out).mono ?_
      rintro e w1 ⟨rfl, hp1, hc1⟩
      have HP1 := hide hp1
      have HQ1 := hide (HQ.out.chg HP.out hc1 (Ne.symm hpq))
      have HV1 := hide (ownS_chg HV.out HP.out hc1)
      have HF1 := hide (ownS_chg HF.out HP.out hc1)
      have HB1 := hide (HB.out.trans (hc1.bel hp0 HB.out.size))
      have hs1 := Nat.le_trans hws hc1.size
      clear hp1 hc1 c0
      go_wp2_with (at_builtin; go_must (refine wpList_append_own _ rfl (.tmp 38) (.tmp 40) 38 rfl w.heap.size 9 i0 (.string ⟨#[]⟩) 1 16 Tryd.underlying38 HI.out HZ0.out HZ1.out HZ2.out rfl (by decide) _ _ _ rfl (HF1.out.alloc _) ⟨w1.heap.size, 0, none⟩ 1 1 [.string (str f)] rfl rfl (one_newS w1 _ _) (by intro u hu; simp at hu; subst hu; rfl) (by unfold maxLen; omega) (by omega) (by simp; omega) ?_); intro v2 w2 ho2 hg2 _)
      have HF2 : Hid (w2.ownsRow w.heap.size 9 1 v2 (i + 1) (strV (frsL S adT L (i + 1)))) := by show World.ownsRow _ _ _ _ _ _ _; rw [HFX.out, strV_append]; exact ho2
      have HP2 := hide (pAt_grown HP1.out HF1.out hg2)
      have HQ2 := hide (pAt_grown HQ1.out HF1.out hg2)
      have HV2 : Hid (w2.ownsRow 0 9 1 (.slice (some ⟨g, 0, none⟩) n c) n (strV L)) := (World.ownsRow.alloc HV1.out _).kept hg2 (.inr (fun e => by have := (ownS_row HF1.out g e.symm).1; omega))
      have HB2 : Hid (Bel W0.heap.size W0 w2) := (HB1.out.alloc HB1.out.size _).grown hg2 (by have := HB1.out.size; simp; omega) (fun k hk => Nat.le_trans hW0w (ownS_row HF1.out k hk).1)
      have hs2 : w.heap.size ≤ w2.heap.size := by have := hg2.size; simp at this; omega
      rw [HST.out] at HP2 HWs
      clear ho2 hg2
      go_wp2
      go_roundw
      case rel => exact ⟨i + 1, by omega, by go_num, HF2.out, HP2.out, HWs.out, HQ2.out, HV2.out, HB2.out, hs2⟩
      case measure => simp [intOf]; omega
    · have e : i = n := by omega
      subst e
      obtain ⟨gf, cf, rfl⟩ := formR hf (by omega)
      clear hp hWi hq hv hB hf
      go_wp2_with fail
      refine (shufP ao O i cap hn (by omega) HO'.out HWd.out _ (HRD.out.bel HB.out)).mono ?_
      rintro e w1 ⟨l, rfl, hpm, hbk, hb1⟩
      have HPM := hide hpm
      have ll : l.length = i := by rw [hpm.length_eq, List.length_range]
      have HF1 := hide (ownS_below HF.out hb1)
      have HP1 := hide (HP.out.below hb1)
      have HQ1 := hide (HQ.out.below hb1)
      have HV1 := hide (ownS_below HV.out hb1)
      have HB1 := hide (HB.out.trans (hb1.mono HB.out.size))
      have HBK := hide hbk
      generalize wr.heap.size = H at *
      clear hpm hbk hb1 HF HP HQ HV HB
      go_wp2
      go_loopw [16, 17, 18, 19, 20] (fun t _ _ _ _ wr2 => ∃ (j : Nat) (st : PSt), j ≤ i ∧ t = .int .i64 j ∧ PAt wr2 0 p (sentS S i) ∧ PAt wr2 0 q st ∧ st.Wf ∧ RInv S R draw i (l.take j).reverse st ∧ Blk wr2 H 3 .i64 l ∧ wr2.ownsRow w.heap.size 9 1 (.slice (some ⟨gf, 0, none⟩) i cf) i (strV (frsL S adT L i)) ∧ wr2.ownsRow 0 9 1 (.slice (some ⟨g, 0, none⟩) i c) i (strV L) ∧ Bel W0.heap.size W0 wr2) (fun t _ _ _ _ _ => i - (intOf t).toNat)
      case atStart => exact ⟨0, R, Nat.zero_le _, rfl, HP1.out, HQ1.out, HWR.out, .inl ⟨rfl, rfl⟩, HBK.out, HF1.out, HV1.out, HB1.out⟩
      case round =>
        clear HP1 HQ1 HBK HF1 HV1 HB1
        obtain ⟨j, st, hj, rfl, hp, hq, hWst, hI, hbk, hf, hv, hB⟩ := hrel
        have HP := hide hp
        have HQ := hide hq
        have HWs := hide hWst
        have HIv := hide hI
        have HBK := hide hbk
        have HF := hide hf
        have HV := hide hv
        have HB := hide hB
        by_cases hji : j < i
        · have hmm : l.getD j 0 ∈ List.range i := HPM.out.mem_iff.1 (by rw [getD_in _ _ (by omega)]; exact List.getElem_mem _)
          have hmi : l.getD j 0 < i := List.mem_range.1 hmm
          have hnd : l.getD j 0 ∉ (l.take j).reverse := by
            have hN : l.Nodup := HPM.out.nodup_iff.2 List.nodup_range
            rw [List.mem_reverse, getD_in _ _ (by omega)]
            intro hmem
            obtain ⟨k, hk, hke⟩ := List.getElem_of_mem hmem
            rw [List.length_take] at hk
            rw [List.getElem_take] at hke
            exact (List.pairwise_iff_getElem.1 hN) k j (by omega) (by omega) (by omega) hke
          have e1 : (l.take (j + 1)).reverse = l.getD j 0 :: (l.take j).reverse := by
            rw [List.take_add_one, getD_in _ _ (by omega)]
            simp [show j < l.length by omega]
          have cW := hbk.cell j (by omega)
          have cF := ownS_cells hf (frsL_length S adT L i) (l.getD j 0) hmi
          rw [frsL_get S adT L i _ hmi] at cF
          have cV := ownS_cells hv hLn (l.getD j 0) hmi
          have ltx : (L.getD (l.getD j 0) []).length ≤ 64 := HLL.out _ (by rw [getD_in _ _ (by omega)]; exact List.getElem_mem _)
          obtain ⟨st', hr1, hI1, hr2⟩ := hI.step HLk.out hd (l.getD j 0) hmi hn2 hnd adT (L.getD (l.getD j 0) []) (by decide) ltx
          have hlf := frame_len (sentS S (l.getD j 0)) adT (L.getD (l.getD j 0) [])
          rw [← e1] at hI1
          have HI1 := hide hI1
          have HR1 := hide hr1
          have HR2 := hide hr2
          have HWs1 := hide (hWst.recv _ _ _ hr1)
          have hjz : (j : Int) < (i : Int) := by omega
          clear hp hq hWst hI hbk hf hv hB hmm hnd e1 hI1 hr1 hr2
          have HCW : Hid (∀ W : World, Blk W H 3 .i64 l → W.cell? ⟨H, j, none⟩ = some (.int .i64 ((l.getD j 0 : Nat) : Int))) := fun W h => h.cell j (by omega)
          have HCF : Hid (∀ W : World, W.ownsRow w.heap.size 9 1 (.slice (some ⟨gf, 0, none⟩) i cf) i (strV (frsL S adT L i)) → W.cell? ⟨gf, l.getD j 0, none⟩ = some (.string (str (frameL (sentS S (l.getD j 0)) adT (L.getD (l.getD j 0) []))))) := fun W h => by
            have h1 := ownS_cells h (frsL_length S adT L i) (l.getD j 0) hmi
            rw [frsL_get S adT L i _ hmi] at h1
            exact h1
          have HCV : Hid (∀ W : World, W.ownsRow 0 9 1 (.slice (some ⟨g, 0, none⟩) i c) i (strV L) → W.cell? ⟨g, l.getD j 0, none⟩ = some (.string (str (L.getD (l.getD j 0) [])))) := fun W h => ownS_cells h hLn (l.getD j 0) hmi
          generalize hm : l.getD j 0 = m at *
          generalize frameL (sentS S m) adT (L.getD m []) = f at *
          generalize L.getD m [] = t at *
          clear hm
          have mf : f.length ≤ maxLen := by rw [hlf]; unfold maxLen; omega
          have MF := hide mf
          clear mf
          have hmz : (m : Int) < (i : Int) := by omega
          go_wp2_with fail
          rw [show (⟨#[97, 100]⟩ : ByteArray) = str adT from rfl]
          refine (recvY q st st' adT f draw t (by decide) MF.out (by rw [hd]; decide) HWs.out HR1.out a _ (HE.out.errs.below HB.out) (HE.out.toTab.below HB.out) HQ.out).mono ?_
          rintro e w2 ⟨rfl, hq2, hc2⟩
          have HP2 := hide (HP.out.chg HQ.out hc2 hpq)
          have HQ2 := hide hq2
          have HV2 := hide (ownS_chg HV.out HQ.out hc2)
          have HF2 := hide (ownS_chg HF.out HQ.out hc2)
          have HBK2 := hide (blk_chg HBK.out HQ.out hc2)
          have HB2 := hide (HB.out.trans (hc2.bel hq0 HB.out.size))
          have cW2 := HCW.out w2 HBK2.out
          have cF2 := HCF.out w2 HF2.out
          have cV2 := HCV.out w2 HV2.out
          clear hq2 hc2 cW cF cV HP HQ HV HF HBK HB
          go_wp2_with fail
          rw [show (⟨#[97, 100]⟩ : ByteArray) = str adT from rfl]
          refine (recvN q 3 st' adT f draw (by decide) MF.out (by rw [hd]; decide) HWs1.out HR2.out a _ (HE.out.errs.below HB2.out) (HE.out.toTab.below HB2.out) HQ2.out).mono ?_
          rintro e w3 ⟨rfl, hq3, hc3⟩
          have HP3 := hide (HP2.out.chg HQ2.out hc3 hpq)
          have HQ3 := hide hq3
          have HV3 := hide (ownS_chg HV2.out HQ2.out hc3)
          have HF3 := hide (ownS_chg HF2.out HQ2.out hc3)
          have HBK3 := hide (blk_chg HBK2.out HQ2.out hc3)
          have HB3 := hide (HB2.out.trans (hc3.bel hq0 HB2.out.size))
          clear hq3 hc3 cW2 cF2 cV2 HP2 HQ2 HV2 HF2 HBK2 HB2
          unfold errV
          go_wp2_with fail
          refine (code_at 3 (by decide) a _ (HE.out.errs.below HB3.out)).mono ?_
          rintro e w4 ⟨rfl, rfl⟩
          have hba : Bel w3.heap.size w3 (w3.alloc (.cells (errList a) 23)) := (Bel.refl _ _).alloc (Nat.le_refl _) _
          have HP4 := hide (HP3.out.below hba)
          have HQ4 := hide (HQ3.out.below hba)
          have HV4 := hide (ownS_below HV3.out hba)
          have HF4 := hide (ownS_below HF3.out hba)
          have HBK4 := hide (HBK3.out.below hba HBK3.out.lt)
          have HB4 := hide (HB3.out.trans (hba.mono HB3.out.size))
          clear hba
          generalize w3.alloc (.cells (errList a) 23) = w5 at *
          go_wp2
          go_roundw
          case rel => exact ⟨j + 1, st', by omega, by go_num, HP4.out, HQ4.out, HWs1.out, HI1.out, HBK4.out, HF4.out, HV4.out, HB4.out⟩
          case measure => simp [intOf]; omega
        · have e : j = i := by omega
          subst e
          have hall : ∀ k, k < j → k ∈ (l.take j).reverse := fun k hk => by
            rw [List.mem_reverse, List.take_of_length_le (by omega)]
            exact HPM.out.mem_iff.2 (List.mem_range.2 hk)
          have HD : Hid (st = endS S R draw j) := hI.done hn hall
          have hjz : ¬ (j : Int) < (j : Int) := by omega
          clear hp hq hWst hI hbk hf hv hB hall
          go_wp2
          go_ret
          exact ⟨rfl, HP.out, HWi.out, HD.out ▸ HQ.out, HD.out ▸ HWs.out, HV.out, HB.out⟩
end Go.Proofs.YtgjdogkciklgkaaDoor
namespace Go.Proofs.YtgjdogkciklgkaaDoor
open Go.RowKit

set_option maxRecDepth 100000 in
set_option maxHeartbeats 2000000 in
theorem apartP (x y z u : List UInt8) (hx : x.length = 32) (hy : y.length = 32) (hz : z.length = 32) (hu : u.length = 32) (w : World) :
    Calls Tryd.prog 23 #[.string (str x), .string (str y), .string (str z), .string (str u)] w fun e w' => ∃ r : Bool, e = .returned (.bool r) ∧ (r = true → x25519 x nine ≠ x25519 y nine ∧ x25519 x nine ≠ x25519 z nine ∧ x25519 x nine ≠ x25519 u nine ∧ x25519 y nine ≠ x25519 z nine ∧ x25519 y nine ≠ x25519 u nine ∧ x25519 z nine ≠ x25519 u nine) ∧ Bel w.heap.size w w' := by
  have H1 := hide (fun w => rPublicGood x hx w)
  have H2 := hide (fun w => rPublicGood y hy w)
  have H3 := hide (fun w => rPublicGood z hz w)
  have H4 := hide (fun w => rPublicGood u hu w)
  generalize x25519 x nine = px at *
  generalize x25519 y nine = py at *
  generalize x25519 z nine = pz at *
  generalize x25519 u nine = pu at *
  have e1 := str_toList px
  have e2 := str_toList py
  have e3 := str_toList pz
  have e4 := str_toList pu
  go_enter Tryd.func23, Tryd.ntmps23
  go_wp2_with fail
  refine (H1.out _).mono ?_
  rintro e w1 ⟨rfl, hb1⟩
  have HB1 := hide hb1
  clear hb1
  go_wp2_with fail
  refine (H2.out _).mono ?_
  rintro e w2 ⟨rfl, hb2⟩
  have HB2 := hide (HB1.out.trans (hb2.mono HB1.out.size))
  clear hb2 HB1
  go_wp2_with fail
  refine (H3.out _).mono ?_
  rintro e w3 ⟨rfl, hb3⟩
  have HB3 := hide (HB2.out.trans (hb3.mono HB2.out.size))
  clear hb3 HB2
  go_wp2_with fail
  refine (H4.out _).mono ?_
  rintro e w4 ⟨rfl, hb4⟩
  have HB4 := hide (HB3.out.trans (hb4.mono HB3.out.size))
  clear hb4 HB3
  go_wp2
  all_goals go_ret
  all_goals first | exact ⟨false, rfl, (fun h => by cases h), HB4.out⟩ | (refine ⟨_, rfl, fun h => ?_, HB4.out⟩; clear H1 H2 H3 H4 e1 e2 e3 e4 HB4; simp_all)

theorem ownS_base {w : World} {base n : Nat} {v : Value} {xs : List Value} (h : w.ownsRow base 9 1 v n xs) : w.ownsRow 0 9 1 v n xs := by
  refine ⟨h.1, ?_⟩
  rcases h.2 with hn | ⟨g, cap, cur, rfl, hg, rest⟩
  · exact .inl hn
  · exact .inr ⟨g, cap, cur, rfl, Nat.zero_le _, rest⟩
def moreT : List UInt8 := [111, 110, 101, 32, 109, 111, 114, 101]
theorem few_le (T : List (List UInt8)) (k : Nat) : ∀ s ∈ fewL T k ++ [moreT], s.length ≤ 64 := by
  intro s hs
  rw [List.mem_append] at hs
  rcases hs with hs | hs
  · unfold fewL at hs
    rw [List.mem_map] at hs
    obtain ⟨t, _, rfl⟩ := hs
    rw [List.length_take]
    omega
  · simp at hs; subst hs; decide

set_option maxRecDepth 100000 in
set_option maxHeartbeats 1000000 in
theorem delOut (r o d bk th : List UInt8) (vt vo : Value) (mr : r.length ≤ maxLen) (mo : o.length ≤ maxLen) (md : d.length ≤ maxLen) (h : ¬ (r.length = 32 ∧ o.length = 32 ∧ d.length = 32)) (a : Nat → Addr) (w : World) (hE : Errs w a) :
    Calls Tryd.prog 10 #[.string (str r), .string (str o), .string (str d), .string (str bk), .string (str th), vt, vo] w fun e w' => e = .returned (.bool true) ∧ Bel w.heap.size w w' := by
  have HP := hide (pairBad r o d mr mo md h a w hE)
  clear mr mo md h hE
  go_enter Tryd.func10, Tryd.ntmps10
  go_wp2_with fail
  refine HP.out.mono ?_
  rintro e w1 ⟨rfl, hb1⟩
  have HB1 := hide hb1
  clear hb1
  go_wp2
  go_ret
  exact ⟨rfl, HB1.out⟩

def xT : List UInt8 := [120]
theorem delPlain (r o d bk : List UInt8) :
    ∃ (A1 : PSt) (f : List UInt8), sendL (firstS r (x25519 o nine) d) [] xT = .ok (f, A1) ∧ f.length = 53 ∧ (bk.length ≠ 32 → recvL (secondS r o) [] f bk = .error 1) ∧ (bk.length = 32 → ∃ B1, recvL (secondS r o) [] f bk = .ok (xT, B1)) := by
  have hL := Lk.first r o d
  have hk : (firstS r (x25519 o nine) d).sk.length = 32 := turnC_length _ _ _
  have hs0 := send_first (firstS r (x25519 o nine) d) xT hk (show 0 < 30 by decide) (by decide) [] (by decide)
  have e0 : frameL (firstS r (x25519 o nine) d) [] xT = frameL (sentS (firstS r (x25519 o nine) d) 0) [] xT := rfl
  have l0 := frame_len (firstS r (x25519 o nine) d) [] xT
  generalize firstS r (x25519 o nine) d = A at *
  generalize secondS r o = B at *
  refine ⟨_, _, hs0, l0, fun h => ?_, fun h => ?_⟩
  · unfold recvL
    rw [l0, if_neg (by decide), if_pos h]
  · have hI : RInv A B bk 2 [] B := .inl ⟨rfl, rfl⟩
    obtain ⟨B1, hb1, _, _⟩ := hI.step hL h 0 (by decide) (by decide) (by simp) [] xT (by decide) (by decide)
    exact ⟨B1, by rw [e0]; exact hb1⟩

set_option maxRecDepth 100000 in
set_option maxHeartbeats 1000000 in
theorem delShortN (r o d bk th : List UInt8) (vt vo : Value) (hr : r.length = 32) (ho : o.length = 32) (hd : d.length = 32) (mb : bk.length ≤ maxLen) (hb : bk.length ≠ 32) (a : Nat → Addr) (w : World) (hE : Env w a) :
    Calls Tryd.prog 10 #[.string (str r), .string (str o), .string (str d), .string (str bk), .string (str th), vt, vo] w fun e w' => e = .returned (.bool true) ∧ Bel w.heap.size w w' := by
  have zb := str_size bk
  have mb' : bk.length ≤ 9223372036854775807 := by unfold maxLen at mb; omega
  have bb : ((bk.length : Int) != 32) = true := by rw [bne_iff_ne]; omega
  have bb2 : ((bk.length : Int) == 32) = false := by rw [beq_eq_false_iff_ne]; omega
  have HE := hide hE
  have hG := hE.lt
  have MB := hide mb
  obtain ⟨A1, f, hs, hlf, hn, _⟩ := delPlain r o d bk
  have HS := hide hs
  have HN := hide (hn hb)
  have HPR := hide (fun w hT => pairOk r o d hr ho hd w hT)
  have HWA := hide (Wf.first r (x25519 o nine) d (x25519_length _ _) hd)
  have HWB := hide (Wf.second r o hr ho)
  have MF : Hid (f.length ≤ maxLen) := by show _ ≤ _; rw [hlf]; decide
  clear hE mb hs hn
  generalize firstS r (x25519 o nine) d = A at *
  generalize secondS r o = B at *
  go_enter Tryd.func10, Tryd.ntmps10
  go_wp2_with fail
  refine (HPR.out _ HE.out.toTab).mono ?_
  rintro e w1 ⟨p, q, rfl, hwp, hpq, hP, hQ, hb1⟩
  have HB1 := hide hb1
  have HP1 := hide hP
  have HQ1 := hide hQ
  clear hb1 hP hQ
  go_wp2_with fail
  rw [str_nil, show (⟨#[120]⟩ : ByteArray) = str xT from rfl]
  refine (sendY p A A1 [] xT f (by decide) (by decide) HWA.out HS.out a _ (HE.out.errs.below HB1.out) (HE.out.toTab.below HB1.out) (by omega) HP1.out).mono ?_
  rintro e w2 ⟨rfl, hp2, hc2⟩
  have HB2 := hide (HB1.out.trans (hc2.bel hwp HB1.out.size))
  have HQ2 := hide (HQ1.out.chg HP1.out hc2 (by omega))
  clear hp2 hc2
  go_wp2_with fail
  rw [str_nil]
  refine (recvN q 1 B [] f bk (by decide) MF.out MB.out HWB.out HN.out a _ (HE.out.errs.below HB2.out) (HE.out.toTab.below HB2.out) HQ2.out).mono ?_
  rintro e w3 ⟨rfl, hp3, hc3⟩
  have HB3 := hide (HB2.out.trans (hc3.bel (show w.heap.size ≤ q by omega) HB2.out.size))
  clear hp3 hc3
  unfold errV
  go_wp2
  go_ret
  exact ⟨rfl, HB3.out⟩

set_option maxRecDepth 100000 in
set_option maxHeartbeats 1000000 in
theorem delShortY (r o d bk th : List UInt8) (vt vo : Value) (hr : r.length = 32) (ho : o.length = 32) (hd : d.length = 32) (hb : bk.length = 32) (mt : th.length ≤ maxLen) (ht : th.length ≠ 32) (a : Nat → Addr) (w : World) (hE : Env w a) :
    Calls Tryd.prog 10 #[.string (str r), .string (str o), .string (str d), .string (str bk), .string (str th), vt, vo] w fun e w' => e = .returned (.bool true) ∧ Bel w.heap.size w w' := by
  have zb := str_size bk
  have zt := str_size th
  have mt' : th.length ≤ 9223372036854775807 := by unfold maxLen at mt; omega
  have bt : ((th.length : Int) != 32) = true := by rw [bne_iff_ne]; omega
  have HE := hide hE
  have hG := hE.lt
  obtain ⟨A1, f, hs, hlf, _, hy⟩ := delPlain r o d bk
  obtain ⟨B1, hr1⟩ := hy hb
  have HS := hide hs
  have HN := hide hr1
  have HPR := hide (fun w hT => pairOk r o d hr ho hd w hT)
  have HWA := hide (Wf.first r (x25519 o nine) d (x25519_length _ _) hd)
  have HWB := hide (Wf.second r o hr ho)
  have MF : Hid (f.length ≤ maxLen) := by show _ ≤ _; rw [hlf]; decide
  clear hE mt hs hr1 hy
  generalize firstS r (x25519 o nine) d = A at *
  generalize secondS r o = B at *
  go_enter Tryd.func10, Tryd.ntmps10
  go_wp2_with fail
  refine (HPR.out _ HE.out.toTab).mono ?_
  rintro e w1 ⟨p, q, rfl, hwp, hpq, hP, hQ, hb1⟩
  have HB1 := hide hb1
  have HP1 := hide hP
  have HQ1 := hide hQ
  clear hb1 hP hQ
  go_wp2_with fail
  rw [str_nil, show (⟨#[120]⟩ : ByteArray) = str xT from rfl]
  refine (sendY p A A1 [] xT f (by decide) (by decide) HWA.out HS.out a _ (HE.out.errs.below HB1.out) (HE.out.toTab.below HB1.out) (by omega) HP1.out).mono ?_
  rintro e w2 ⟨rfl, hp2, hc2⟩
  have HB2 := hide (HB1.out.trans (hc2.bel hwp HB1.out.size))
  have HQ2 := hide (HQ1.out.chg HP1.out hc2 (by omega))
  clear hp2 hc2
  go_wp2_with fail
  rw [str_nil]
  refine (recvY q B B1 [] f bk xT (by decide) MF.out (by rw [hb]; decide) HWB.out HN.out a _ (HE.out.errs.below HB2.out) (HE.out.toTab.below HB2.out) HQ2.out).mono ?_
  rintro e w3 ⟨rfl, hp3, hc3⟩
  have HB3 := hide (HB2.out.trans (hc3.bel (show w.heap.size ≤ q by omega) HB2.out.size))
  clear hp3 hc3
  have hw2 : str xT = (⟨#[120]⟩ : ByteArray) := rfl
  rw [hw2]
  clear hw2
  go_wp2
  go_ret
  exact ⟨rfl, HB3.out⟩

set_option maxRecDepth 100000 in
set_option maxHeartbeats 2000000 in
theorem delOk (r o d bk th : List UInt8) (aT aO : Option Addr) (cT cO : Nat) (T : List (List UInt8)) (O : List Int) (hr : r.length = 32) (ho : o.length = 32) (hd : d.length = 32) (hb : bk.length = 32) (ht : th.length = 32)
    (hTl : T.length ≤ maxLen) (hTm : ∀ s ∈ T, s.length ≤ maxLen) (hOl : O.length ≤ maxLen) (hOw : ∀ z ∈ O, -9223372036854775808 ≤ z ∧ z ≤ 9223372036854775807) (a : Nat → Addr) (w : World) (hE : Env w a) (hrT : RdS w aT T) (hrO : RdI w aO O) :
    Calls Tryd.prog 10 #[.string (str r), .string (str o), .string (str d), .string (str bk), .string (str th), .slice aT T.length cT, .slice aO O.length cO] w fun e w' => e = .returned (.bool true) ∧ Bel w.heap.size w w' := by
  have zb := str_size bk
  have zt := str_size th
  obtain ⟨i0, hi, hz0, hz1, hz2⟩ := info_parts Tryd.infoStr
  have HI := hide hi
  have HZ0 := hide hz0
  have HZ1 := hide hz1
  have HZ2 := hide hz2
  have HE := hide hE
  have HRT := hide hrT
  have HRO := hide hrO
  have HPR := hide (fun w hT => pairOk r o d hr ho hd w hT)
  have HAP := hide (fun w => apartP o d bk th ho hd hb ht w)
  have HTl := hide hTl
  have HTm := hide hTm
  have HOl := hide hOl
  have HOw := hide hOw
  have HWA := hide (Wf.first r (x25519 o nine) d (x25519_length _ _) hd)
  have HWB := hide (Wf.second r o hr ho)
  have HLK := hide (Lk.first r o d)
  clear hi hz0 hz1 hz2 hE hrT hrO hTl hTm hOl hOw
  go_enter Tryd.func10, Tryd.ntmps10
  go_wp2_with fail
  refine (HPR.out _ HE.out.toTab).mono ?_
  rintro e w1 ⟨p, q, rfl, hwp, hpq, hP, hQ, hb1⟩
  have HB1 := hide hb1
  have HP1 := hide hP
  have HQ1 := hide hQ
  clear hb1 hP hQ
  go_wp2_with fail
  refine (HAP.out _).mono ?_
  rintro e w2 ⟨ra, rfl, hap, hb2⟩
  have HB2 := hide (HB1.out.trans (hb2.mono HB1.out.size))
  have HP2 := hide (HP1.out.below hb2)
  have HQ2 := hide (HQ1.out.below hb2)
  have HA := hide hap
  clear hb2 hap
  cases ra with
  | false =>
    go_wp2
    go_ret
    exact ⟨rfl, HB2.out⟩
  | true =>
    have HA' := hide (HA.out rfl)
    clear HA
    go_wp2_with fail
    refine (fewP aT T 10 cT (by decide) HTl.out HTm.out _ (HRT.out.below HB2.out)).mono ?_
    rintro e w3 ⟨v, rfl, hv, hb3⟩
    have HV3 := hide hv
    have HB3 := hide (HB2.out.trans (hb3.mono HB2.out.size))
    have HP3 := hide (HP2.out.below hb3)
    have HQ3 := hide (HQ2.out.below hb3)
    have hs3 := hb3.size
    clear hv hb3
    generalize hm : min 10 T.length = m at *
    have hm10 : m ≤ 10 := by omega
    have hmT : m ≤ T.length := by omega
    clear hm
    go_wp2_with (at_builtin; go_must (refine wpList_append_own _ rfl (.tmp 88) (.tmp 89) 38 rfl w2.heap.size 9 i0 (.string ⟨#[]⟩) 1 16 Tryd.underlying38 HI.out HZ0.out HZ1.out HZ2.out rfl (by decide) _ _ _ rfl (HV3.out.alloc _) ⟨w3.heap.size, 0, none⟩ 1 1 [.string (str moreT)] rfl rfl (one_newS w3 _ _) (by intro u hu; simp at hu; subst hu; rfl) (by unfold maxLen; omega) (by omega) (by simp; omega) ?_); intro v4 w4 ho4 hg4 _; obtain ⟨g, c, rfl⟩ := formR ho4 (by omega))
    have HV4 : Hid (w4.ownsRow 0 9 1 (.slice (some ⟨g, 0, none⟩) (m + 1) c) (m + 1) (strV (fewL T m ++ [moreT]))) := ownS_base (by rw [strV_append]; exact ho4)
    have HP4 := hide (pAt_grown HP3.out HV3.out hg4)
    have HQ4 := hide (pAt_grown HQ3.out HV3.out hg4)
    have HB4 : Hid (Bel w.heap.size w w4) := (HB3.out.alloc HB3.out.size _).grown hg4 (by have := HB3.out.size; simp; omega) (fun k hk => Nat.le_trans HB2.out.size (ownS_row HV3.out k hk).1)
    have lL : (fewL T m ++ [moreT]).length = m + 1 := by rw [List.length_append, fewL_length _ _ hmT]; rfl
    have HLL := hide (few_le T m)
    clear ho4 hg4 HV3 HP3 HQ3
    generalize fewL T m ++ [moreT] = L at *
    have HL2 : Hid (Lk (endS (firstS r (x25519 o nine) d) (secondS r o) bk (m + 1)) (sentS (firstS r (x25519 o nine) d) (m + 1))) := HLK.out.back rfl (Ne.symm HA'.out.2.1) (.inl rfl) (show 0 < 65536 by decide)
    have HL3 : Hid (Lk (endS (endS (firstS r (x25519 o nine) d) (secondS r o) bk (m + 1)) (sentS (firstS r (x25519 o nine) d) (m + 1)) th (m + 1)) (sentS (endS (firstS r (x25519 o nine) d) (secondS r o) bk (m + 1)) (m + 1))) := HL2.out.back rfl (Ne.symm HA'.out.2.2.2.2.1) (.inr (Nat.le_refl _)) (show m + 1 < 65536 by omega)
    generalize firstS r (x25519 o nine) d = A0 at *
    generalize secondS r o = B0 at *
    refine (acrossP p q (m + 1) cO c g A0 B0 L aO O bk HLK.out HWA.out HWB.out hb lL (by omega) (by omega) HLL.out HOl.out HOw.out a w _ HE.out HRO.out HB4.out hwp (by omega) (by omega) HV4.out HP4.out HQ4.out).mono ?_
    rintro e w5 ⟨rfl, hp5, hW5, hq5, hWq5, hv5, hb5⟩
    have HP5 := hide hp5
    have HW5 := hide hW5
    have HQ5 := hide hq5
    have HWq5 := hide hWq5
    have HV5 := hide hv5
    have HB5 := hide hb5
    clear hp5 hW5 hq5 hWq5 hv5 hb5 HP4 HQ4 HV4 HB4 HLK HWA HWB
    generalize endS A0 B0 bk (m + 1) = B1 at *
    generalize sentS A0 (m + 1) = A1 at *
    go_wp2_with fail
    refine (acrossP q p (m + 1) cO c g B1 A1 L aO O th HL2.out HWq5.out HW5.out ht lL (by omega) (by omega) HLL.out HOl.out HOw.out a w _ HE.out HRO.out HB5.out (by omega) hwp (by omega) HV5.out HQ5.out HP5.out).mono ?_
    rintro e w6 ⟨rfl, hq6, hWq6, hp6, hW6, hv6, hb6⟩
    have HP6 := hide hp6
    have HW6 := hide hW6
    have HQ6 := hide hq6
    have HWq6 := hide hWq6
    have HV6 := hide hv6
    have HB6 := hide hb6
    clear hp6 hW6 hq6 hWq6 hv6 hb6 HP5 HQ5 HV5 HB5 HL2 HW5 HWq5
    generalize endS B1 A1 th (m + 1) = A2 at *
    generalize sentS B1 (m + 1) = B2 at *
    go_wp2_with fail
    refine (acrossP p q (m + 1) cO c g A2 B2 L aO O bk HL3.out HW6.out HWq6.out hb lL (by omega) (by omega) HLL.out HOl.out HOw.out a w _ HE.out HRO.out HB6.out hwp (by omega) (by omega) HV6.out HP6.out HQ6.out).mono ?_
    rintro e w7 ⟨rfl, _, _, _, _, _, hb7⟩
    have HB7 := hide hb7
    clear hb7
    go_wp2
    go_ret
    exact ⟨rfl, HB7.out⟩

theorem delAny (r o d bk th : List UInt8) (aT aO : Option Addr) (cT cO : Nat) (T : List (List UInt8)) (O : List Int) (mr : r.length ≤ maxLen) (mo : o.length ≤ maxLen) (md : d.length ≤ maxLen) (mb : bk.length ≤ maxLen) (mt : th.length ≤ maxLen)
    (hTl : T.length ≤ maxLen) (hTm : ∀ s ∈ T, s.length ≤ maxLen) (hOl : O.length ≤ maxLen) (hOw : ∀ z ∈ O, -9223372036854775808 ≤ z ∧ z ≤ 9223372036854775807) (a : Nat → Addr) (w : World) (hE : Env w a) (hrT : RdS w aT T) (hrO : RdI w aO O) :
    Calls Tryd.prog 10 #[.string (str r), .string (str o), .string (str d), .string (str bk), .string (str th), .slice aT T.length cT, .slice aO O.length cO] w fun e w' => e = .returned (.bool true) ∧ Bel w.heap.size w w' := by
  by_cases h : r.length = 32 ∧ o.length = 32 ∧ d.length = 32
  · by_cases hb : bk.length = 32
    · by_cases ht : th.length = 32
      · exact delOk r o d bk th aT aO cT cO T O h.1 h.2.1 h.2.2 hb ht hTl hTm hOl hOw a w hE hrT hrO
      · exact delShortY r o d bk th _ _ h.1 h.2.1 h.2.2 hb mt ht a w hE
    · exact delShortN r o d bk th _ _ h.1 h.2.1 h.2.2 mb hb a w hE
  · exact delOut r o d bk th _ _ mr mo md h a w hE.errs
end Go.Proofs.YtgjdogkciklgkaaDoor
