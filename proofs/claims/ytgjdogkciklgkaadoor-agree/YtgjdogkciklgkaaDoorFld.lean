/-
  Numbers in digits: plain sums, carries, and what they are modulo the prime. No program in sight.
-/
import Derived.Test.YtgjdogkciklgkaaDoorBx
namespace Go.Proofs.YtgjdogkciklgkaaDoor
open Go.RowKit

def sumB (B : Nat) (g : Nat → Nat) : Nat → Nat
  | 0 => 0
  | n + 1 => sumB B g n + g n * B ^ n
theorem sumB_congr (B : Nat) {g h : Nat → Nat} : ∀ n, (∀ i, i < n → g i = h i) → sumB B g n = sumB B h n
  | 0, _ => rfl
  | n + 1, e => by
    simp only [sumB]
    rw [sumB_congr B n (fun i hi => e i (by omega)), e n (by omega)]
theorem sumB_add (B : Nat) (g h : Nat → Nat) : ∀ n, sumB B (fun i => g i + h i) n = sumB B g n + sumB B h n
  | 0 => rfl
  | n + 1 => by simp only [sumB]; rw [sumB_add B g h n, Nat.add_mul]; omega
theorem sumB_mul (B c : Nat) (g : Nat → Nat) : ∀ n, sumB B (fun i => c * g i) n = c * sumB B g n
  | 0 => rfl
  | n + 1 => by simp only [sumB]; rw [sumB_mul B c g n, Nat.mul_add, Nat.mul_assoc]
theorem sumB_zero (B : Nat) : ∀ n, sumB B (fun _ => 0) n = 0
  | 0 => rfl
  | n + 1 => by simp only [sumB]; rw [sumB_zero B n]; omega
/-- One place set anew. -/
theorem sumB_set (B : Nat) (g : Nat → Nat) (m x : Nat) : ∀ n, m < n → sumB B (fun i => if i = m then x else g i) n + g m * B ^ m = sumB B g n + x * B ^ m
  | 0, h => by omega
  | n + 1, h => by
    simp only [sumB]
    by_cases e : m = n
    · subst e
      rw [sumB_congr B (h := g) m (fun i hi => by simp; omega)]
      simp
      omega
    · have := sumB_set B g m x n (by omega)
      rw [if_neg (Ne.symm e)]
      omega
theorem sumB_lt (B : Nat) (hB : 0 < B) (g : Nat → Nat) : ∀ n, (∀ i, i < n → g i < B) → sumB B g n < B ^ n
  | 0, _ => by simp [sumB]
  | n + 1, h => by
    simp only [sumB]
    have h1 := sumB_lt B hB g n (fun i hi => h i (by omega))
    have h2 := h n (by omega)
    have h3 : (g n + 1) * B ^ n ≤ B * B ^ n := Nat.mul_le_mul_right _ h2
    rw [Nat.add_mul, Nat.one_mul] at h3
    rw [Nat.pow_succ, Nat.mul_comm (B ^ n) B]
    omega
theorem sumB_head (B : Nat) (g : Nat → Nat) : ∀ n, 0 < n → g 0 ≤ sumB B g n
  | 0, h => by omega
  | 1, _ => by simp [sumB]
  | n + 2, _ => by
    have := sumB_head B g (n + 1) (by omega)
    simp only [sumB] at this ⊢
    omega

/-- The carry into place n. -/
def crry (B c0 : Nat) (g : Nat → Nat) : Nat → Nat
  | 0 => c0
  | n + 1 => (crry B c0 g n + g n) / B
theorem sumB_crry (B c0 : Nat) (g : Nat → Nat) : ∀ n, sumB B (fun i => (crry B c0 g i + g i) % B) n + crry B c0 g n * B ^ n = c0 + sumB B g n
  | 0 => by simp [sumB, crry]
  | n + 1 => by
    simp only [sumB, crry]
    have ih := sumB_crry B c0 g n
    generalize crry B c0 g n = c at *
    have hd := Nat.div_add_mod (c + g n) B
    have e1 : (c + g n) / B * B ^ (n + 1) = (B * ((c + g n) / B)) * B ^ n := by
      rw [Nat.pow_succ, Nat.mul_comm B ((c + g n) / B), Nat.mul_assoc, Nat.mul_comm B]
    have e2 : (c + g n) % B * B ^ n + (B * ((c + g n) / B)) * B ^ n = (c + g n) * B ^ n := by
      rw [← Nat.add_mul, Nat.add_comm, hd]
    rw [Nat.add_mul] at e2
    omega
theorem crry_congr (B c0 : Nat) {g h : Nat → Nat} : ∀ n, (∀ i, i < n → g i = h i) → crry B c0 g n = crry B c0 h n
  | 0, _ => rfl
  | n + 1, e => by simp only [crry]; rw [crry_congr B c0 n (fun i hi => e i (by omega)), e n (by omega)]

def PR : Nat := 57896044618658097711785492504343953926634992332820282019728792003956564819949
theorem PR_eq : PR + 19 = 32768 ^ 17 := by decide +kernel
theorem PR_eq' : PR + 19 = 2251799813685248 ^ 5 := by decide +kernel
def addM (x y : Nat) : Nat := (x + y) % PR
def subM (x y : Nat) : Nat := (x + (PR - y % PR)) % PR
def mulM (x y : Nat) : Nat := (x * y) % PR
theorem PR_pos : 0 < PR := by decide +kernel
theorem addM_lt (x y : Nat) : addM x y < PR := Nat.mod_lt _ PR_pos
theorem subM_lt (x y : Nat) : subM x y < PR := Nat.mod_lt _ PR_pos
theorem mulM_lt (x y : Nat) : mulM x y < PR := Nat.mod_lt _ PR_pos
theorem mulM_comm (x y : Nat) : mulM x y = mulM y x := by unfold mulM; rw [Nat.mul_comm]

def tab (n : Nat) (g : Nat → Nat) : List Nat := (List.range n).map g
theorem tab_length (n : Nat) (g : Nat → Nat) : (tab n g).length = n := by simp [tab]
theorem tab_getD (n : Nat) (g : Nat → Nat) (i : Nat) (h : i < n) : (tab n g).getD i 0 = g i := by
  rw [getD_in _ _ (by rw [tab_length]; exact h)]; simp [tab]
theorem tab_congr (n : Nat) {g h : Nat → Nat} (e : ∀ i, i < n → g i = h i) : tab n g = tab n h := by
  apply List.map_congr_left
  intro i hi
  exact e i (by simpa using hi)
theorem tab_set (n : Nat) (g : Nat → Nat) (m x : Nat) : (tab n g).set m x = tab n (fun i => if i = m then x else g i) := by
  apply List.ext_getElem (by simp [tab])
  intro k h1 h2
  rw [List.getElem_set]
  simp only [tab, List.getElem_map, List.getElem_range]
  by_cases e : m = k
  · subst e; simp
  · rw [if_neg e, if_neg (Ne.symm e)]
theorem partTo_tab (g f : Nat → Nat) (n k : Nat) : partTo g f n k = tab n (fun i => if i < k then g i else f i) := rfl
theorem partTo_full (g f : Nat → Nat) (n : Nat) : partTo g f n n = tab n g := tab_congr n (fun _ hi => if_pos hi)
theorem partTo_none (g f : Nat → Nat) (n : Nat) : partTo g f n 0 = tab n f := tab_congr n (fun i _ => if_neg (Nat.not_lt_zero i))
theorem tab_zero (n : Nat) : tab n (fun _ => 0) = List.replicate n 0 := by
  apply List.ext_getElem (by simp [tab])
  intro k h1 h2
  simp [tab]

/-- Digits of 15 bits, seventeen of them. -/
def V15 (g : Nat → Nat) : Nat := sumB 32768 g 17
def Ok15 (g : Nat → Nat) : Prop := ∀ i, i < 17 → g i < 32768
/-- One round of carrying. -/
def cr15 (g : Nat → Nat) (i : Nat) : Nat := crry 32768 0 g i
def lo15 (g : Nat → Nat) (i : Nat) : Nat := (cr15 g i + g i) % 32768
def rnd15 (g : Nat → Nat) (i : Nat) : Nat := if i = 0 then lo15 g 0 + 19 * cr15 g 17 else lo15 g i
theorem lo15_lt (g : Nat → Nat) (i : Nat) : lo15 g i < 32768 := Nat.mod_lt _ (by decide)
theorem rnd15_val (g : Nat → Nat) : V15 (rnd15 g) + cr15 g 17 * PR = V15 g := by
  have h1 := sumB_crry 32768 0 g 17
  have h2 := sumB_set 32768 (lo15 g) 0 (lo15 g 0 + 19 * cr15 g 17) 17 (by decide)
  have h3 : V15 (rnd15 g) = sumB 32768 (fun i => if i = 0 then lo15 g 0 + 19 * cr15 g 17 else lo15 g i) 17 := rfl
  have h4 : sumB 32768 (fun i => (crry 32768 0 g i + g i) % 32768) 17 = sumB 32768 (lo15 g) 17 := rfl
  have h5 : crry 32768 0 g 17 = cr15 g 17 := rfl
  rw [h4, h5, ← PR_eq, Nat.mul_add] at h1
  rw [← h3] at h2
  rw [Nat.pow_zero] at h2
  unfold V15 at *
  omega
theorem rnd15_mod (g : Nat → Nat) : V15 (rnd15 g) % PR = V15 g % PR := by
  rw [← rnd15_val g, Nat.add_mul_mod_self_right]
theorem cr15_bound (g : Nat → Nat) (h : ∀ i, i < 17 → g i < 72057594037927936) : ∀ i, i ≤ 17 → cr15 g i < 4398046511104
  | 0, _ => by show 0 < 4398046511104; decide
  | i + 1, hi => by
    have h1 := cr15_bound g h i (by omega)
    have h2 := h i (by omega)
    show (cr15 g i + g i) / 32768 < 4398046511104
    omega
/-- Behind the first round. -/
def Mid1 (g : Nat → Nat) : Prop := g 0 < 140737488355328 ∧ ∀ i, 0 < i → i < 17 → g i < 32768
theorem rnd15_mid1 (g : Nat → Nat) (h : ∀ i, i < 17 → g i < 72057594037927936) : Mid1 (rnd15 g) := by
  refine ⟨?_, fun i h0 hi => ?_⟩
  · have h1 := cr15_bound g h 17 (by decide)
    have h2 := lo15_lt g 0
    show lo15 g 0 + 19 * cr15 g 17 < _
    omega
  · unfold rnd15
    rw [if_neg (by omega)]
    exact lo15_lt g i
/-- Behind the second round. -/
def Mid2 (g : Nat → Nat) : Prop := g 0 < 32787 ∧ ∀ i, 0 < i → i < 17 → g i < 32768
theorem cr15_one (g : Nat → Nat) (h : Mid1 g) : ∀ i, i ≤ 13 → cr15 g (i + 4) ≤ 1
  | 0, _ => by
    show (((((0 + g 0) / 32768) + g 1) / 32768 + g 2) / 32768 + g 3) / 32768 ≤ 1
    have h0 := h.1
    have h1 := h.2 1 (by decide) (by decide)
    have h2 := h.2 2 (by decide) (by decide)
    have h3 := h.2 3 (by decide) (by decide)
    omega
  | i + 1, hi => by
    have h1 := cr15_one g h i (by omega)
    have h2 := h.2 (i + 4) (by omega) (by omega)
    show (cr15 g (i + 4) + g (i + 4)) / 32768 ≤ 1
    omega
theorem rnd15_mid2 (g : Nat → Nat) (h : Mid1 g) : Mid2 (rnd15 g) := by
  refine ⟨?_, fun i h0 hi => ?_⟩
  · have h1 := cr15_one g h 13 (by decide)
    have h2 := lo15_lt g 0
    show lo15 g 0 + 19 * cr15 g 17 < _
    have h3 : cr15 g 17 = cr15 g (13 + 4) := rfl
    omega
  · unfold rnd15
    rw [if_neg (by omega)]
    exact lo15_lt g i
theorem Mid2.mid1 {g : Nat → Nat} (h : Mid2 g) : Mid1 g := ⟨by have := h.1; omega, h.2⟩
theorem rnd15_ok (g : Nat → Nat) (h : Mid2 g) : Ok15 (rnd15 g) := by
  intro i hi
  by_cases h0 : i = 0
  · subst h0
    show lo15 g 0 + 19 * cr15 g 17 < _
    have h1 : cr15 g 17 ≤ 1 := cr15_one g h.mid1 13 (by decide)
    have h2 := lo15_lt g 0
    rcases Nat.eq_zero_or_pos (cr15 g 17) with hz | hp
    · omega
    · have hc : cr15 g 17 = 1 := by omega
      have hs := sumB_crry 32768 0 g 17
      have h4 : sumB 32768 (fun i => (crry 32768 0 g i + g i) % 32768) 17 = sumB 32768 (lo15 g) 17 := rfl
      have h5 : crry 32768 0 g 17 = cr15 g 17 := rfl
      rw [h4, h5, hc] at hs
      have hd := sumB_head 32768 (lo15 g) 17 (by decide)
      have hset := sumB_set 32768 g 0 32767 17 (by decide)
      have hlt := sumB_lt 32768 (by decide) (fun i => if i = 0 then 32767 else g i) 17 (fun i hi => by
        show (if i = 0 then 32767 else g i) < 32768
        by_cases e : i = 0
        · rw [if_pos e]; decide
        · rw [if_neg e]; exact h.2 i (by omega) hi)
      rw [Nat.pow_zero] at hset
      have hg0 := h.1
      omega
  · unfold rnd15
    rw [if_neg h0]
    exact lo15_lt g i
theorem V15_lt {g : Nat → Nat} (h : Ok15 g) : V15 g < PR + 19 := by rw [PR_eq]; exact sumB_lt 32768 (by decide) g 17 h
/-- What three rounds come to. -/
def car15 (g : Nat → Nat) : Nat → Nat := rnd15 (rnd15 (rnd15 g))
theorem car15_ok (g : Nat → Nat) (h : ∀ i, i < 17 → g i < 72057594037927936) : Ok15 (car15 g) := rnd15_ok _ (rnd15_mid2 _ (rnd15_mid1 g h))
theorem car15_mod (g : Nat → Nat) : V15 (car15 g) % PR = V15 g % PR := by unfold car15; rw [rnd15_mod, rnd15_mod, rnd15_mod]
end Go.Proofs.YtgjdogkciklgkaaDoor
namespace Go.Proofs.YtgjdogkciklgkaaDoor
open Go.RowKit

theorem wpList_ldB {P : Program} {w : World} {ops : Array Oper} {rest : List Oper} {o : Oper} {a : Act} {Q : Exit → Act → World → Prop} {g : Nat} {t : TypeId} {k : IntKind} {l : List Nat} {d : TypeDesc} (hB : Blk w g t k l)
    (hu : P.underlying t = some d) (hd : (match d with | .struct _ | .array _ _ => true | _ => false) = true) (hi : (P.info? t).map (·.size) = some l.length)
    (hgd : o.guard = none) (x : Operand) (ho : o.op = .load t x) (hx : a.eval x = .pointer (some ⟨g, 0, none⟩))
    (h : wpList P ops Q rest (a.put o.dst (.agg (rowK k l))) w) : wpList P ops Q (o :: rest) a w :=
  wpList_load_row hgd t x ho g hx t (rowK k l) (0, 0) d hB hu hd (by rw [rowK_size]; exact hi) h
theorem wpList_stB {P : Program} {w : World} {ops : Array Oper} {rest : List Oper} {o : Oper} {a : Act} {Q : Exit → Act → World → Prop} {g : Nat} {t : TypeId} {k : IntKind} {l l' : List Nat} (hB : Blk w g t k l)
    (hi : (P.info? t).map (·.size) = some l'.length) (hl : l.length = l'.length)
    (hgd : o.guard = none) (x y : Operand) (ho : o.op = .store t x y) (hd : o.dst = none) (hx : a.eval x = .pointer (some ⟨g, 0, none⟩)) (hy : a.eval y = .agg (rowK k l'))
    (h : ∀ w', Bel g w w' → (∀ j, j ≠ g → w'.heap[j]? = w.heap[j]?) → Blk w' g t k l' → wpList P ops Q rest a w') : wpList P ops Q (o :: rest) a w :=
  wpList_storeB hgd t x y ho hd g (rowK k l') hx hy t (rowK k l) hB (by rw [rowK_size]; exact hi) (by rw [rowK_size, rowK_size]; exact hl) (rowK_one _ _) h
theorem Blk.stays {w w' : World} {g b : Nat} {t : TypeId} {k : IntKind} {l : List Nat} (h : Blk w b t k l) (ho : ∀ j, j ≠ g → w'.heap[j]? = w.heap[j]?) (hne : b ≠ g) : Blk w' b t k l := by
  unfold Blk; rw [ho b hne]; exact h

theorem blkAt (w : World) (n : Nat) (t : TypeId) (k : IntKind) (l : List Nat) (h : w.heap.size = n) : Blk (w.alloc (.cells (rowK k l) t)) n t k l := by subst h; exact Blk.new w t k l

theorem infoN (g : Nat → Nat) : (Tryd.prog.info? 143).map (·.size) = some (tab 17 g).length := by rw [tab_length]; kernel_rfl
theorem lenN (g h : Nat → Nat) : (tab 17 g).length = (tab 17 h).length := by rw [tab_length, tab_length]
def zer17 : Nat → Nat := fun _ => 0
theorem z17 : rowK .i64 (tab 17 zer17) = #[.int .i64 0, .int .i64 0, .int .i64 0, .int .i64 0, .int .i64 0, .int .i64 0, .int .i64 0, .int .i64 0, .int .i64 0, .int .i64 0, .int .i64 0, .int .i64 0, .int .i64 0, .int .i64 0, .int .i64 0, .int .i64 0, .int .i64 0] := rfl
theorem retN {fn : Func} {p : Tmp} (h : fn.results = #[.cell p 143]) (tmps : Array Value) (w : World) (b : Nat) (g : Nat → Nat) (hp : tmps.getD p undef = .pointer (some ⟨b, 0, none⟩)) (hB : Blk w b 143 .i64 (tab 17 g)) :
    (results fn tmps).run Tryd.prog w = .ok (.agg (rowK .i64 (tab 17 g))) w :=
  results_cell_row (P := Tryd.prog) h tmps w b 143 (rowK .i64 (tab 17 g)) (0, 0) _ hp hB Tryd.underlying143 rfl (by rw [rowK_size]; exact infoN g)
theorem and15 (x : Nat) (h : x < 9223372036854775808) : bits .and .i64 (x : Int) 32767 = ((x % 32768 : Nat) : Int) := by
  have := i64_and_nat x 32767 h (by decide)
  rw [show ((32767 : Nat) : Int) = 32767 from rfl] at this
  rw [this, Nat.and_two_pow_sub_one_eq_mod x 15]
end Go.Proofs.YtgjdogkciklgkaaDoor
namespace Go.Proofs.YtgjdogkciklgkaaDoor
open Go.RowKit

def itN (g : Nat → Nat) : Nat → (Nat → Nat)
  | 0 => g
  | k + 1 => rnd15 (itN g k)
theorem itN_bound (g : Nat → Nat) (hg : ∀ i, i < 17 → g i < 72057594037927936) : ∀ k i, i < 17 → itN g k i < 72057594037927936
  | 0, i, hi => hg i hi
  | k + 1, i, hi => by
    have h := rnd15_mid1 (itN g k) (itN_bound g hg k)
    show rnd15 (itN g k) i < _
    by_cases h0 : i = 0
    · subst h0; have := h.1; omega
    · have := h.2 i (by omega) hi; omega

set_option maxRecDepth 100000 in
set_option maxHeartbeats 1000000 in
theorem carriedR (g : Nat → Nat) (hg : ∀ i, i < 17 → g i < 72057594037927936) (w : World) :
    Calls Tryd.prog 123 #[.agg (rowK .i64 (tab 17 g))] w fun e w' => e = .returned (.agg (rowK .i64 (tab 17 (car15 g)))) ∧ Bel w.heap.size w w' := by
  have HG := hide (itN_bound g hg)
  clear hg
  go_enter Tryd.func123, Tryd.ntmps123
  go_wp2
  rw [← z17]
  have HB : Hid (Bel w.heap.size w ((w.alloc (.cells (rowK .i64 (tab 17 g)) 143)).alloc (.cells (rowK .i64 (tab 17 zer17)) 143))) := ((Bel.refl _ _).alloc (Nat.le_refl _) _).alloc (by simp) _
  have HA : Hid (Blk ((w.alloc (.cells (rowK .i64 (tab 17 g)) 143)).alloc (.cells (rowK .i64 (tab 17 zer17)) 143)) w.heap.size 143 .i64 (tab 17 g)) := Blk.new2old w _ _ _ _
  have HR : Hid (Blk ((w.alloc (.cells (rowK .i64 (tab 17 g)) 143)).alloc (.cells (rowK .i64 (tab 17 zer17)) 143)) (w.heap.size + 1) 143 .i64 (tab 17 zer17)) := Blk.new2 w _ _ _ _
  generalize (w.alloc (.cells (rowK .i64 (tab 17 g)) 143)).alloc (.cells (rowK .i64 (tab 17 zer17)) 143) = w1 at *
  go_loopw [3] (fun t wr => ∃ k : Nat, k ≤ 3 ∧ t = .int .i64 k ∧ Bel w.heap.size w wr ∧ Blk wr w.heap.size 143 .i64 (tab 17 (itN g k)) ∧ Blk wr (w.heap.size + 1) 143 .i64 (tab 17 zer17)) (fun t _ => 3 - (intOf t).toNat)
  case atStart => exact ⟨0, Nat.zero_le _, rfl, HB.out, HA.out, HR.out⟩
  case round =>
    clear HB HA HR
    obtain ⟨k, hk, rfl, hB, hA, hR⟩ := hrel
    have HB := hide hB
    have HA := hide hA
    have HR := hide hR
    clear hB hA hR
    by_cases hk3 : k < 3
    · have HG' := hide (HG.out k)
      have HN : Hid (itN g (k + 1) = rnd15 (itN g k)) := rfl
      generalize itN g k = f at *
      have HCB := hide (cr15_bound f HG'.out)
      go_wp2
      go_loopw [4, 5] (fun c t wr => ∃ j : Nat, j ≤ 17 ∧ c = .int .i64 (cr15 f j : Nat) ∧ t = .int .i64 j ∧ Bel w.heap.size w wr ∧ Blk wr w.heap.size 143 .i64 (partTo (lo15 f) f 17 j) ∧ Blk wr (w.heap.size + 1) 143 .i64 (tab 17 zer17)) (fun _ t _ => 17 - (intOf t).toNat)
      case atStart => exact ⟨0, Nat.zero_le _, rfl, rfl, HB.out, by rw [partTo_none]; exact HA.out, HR.out⟩
      case round =>
        clear HB HA HR
        obtain ⟨j, hj, rfl, rfl, hB, hA, hR⟩ := hrel
        have HB := hide hB
        have HA := hide hA
        have HR := hide hR
        by_cases hj17 : j < 17
        · have cc := hA.cell j (by rw [partTo_length]; exact hj17)
          rw [partTo_getD _ _ _ _ _ hj17, if_neg (by omega)] at cc
          have hf := hA.frozen j
          clear hB hA hR
          have b1 := HCB.out j hj
          have b2 := HG'.out j hj17
          have HS := hide (partTo_set (lo15 f) f 17 j)
          have HL : Hid (lo15 f j = (cr15 f j + f j) % 32768) := rfl
          have HC : Hid (cr15 f (j + 1) = (cr15 f j + f j) / 32768) := rfl
          generalize cr15 f j = c at *
          generalize f j = x at *
          have ea := and15 (c + x) (by omega)
          rw [Int.natCast_add] at ea
          go_wp2
          go_roundw
          case rel =>
            refine ⟨j + 1, by omega, by rw [HC.out]; apply congrArg (Value.int .i64); omega, by go_num, HB.out.setCell (Nat.le_refl _) _, ?_, HR.out.setOther _ _ (by show w.heap.size + 1 ≠ w.heap.size; omega)⟩
            rw [← HS.out, HL.out]
            exact HA.out.set j _
          case measure => simp [intOf]; omega
        · have h17 : j = 17 := by omega
          subst h17
          rw [partTo_full] at hA
          have cc := hA.cell 0 (by rw [tab_length]; decide)
          rw [tab_getD _ _ _ (by decide)] at cc
          have hf := hA.frozen 0
          have HA := hide hA
          clear hB hA hR
          have b1 := HCB.out 17 (by decide)
          have b2 := lo15_lt f 0
          have HS := hide (tab_set 17 (lo15 f) 0 (lo15 f 0 + 19 * cr15 f 17))
          have HN2 : Hid (rnd15 f = fun i => if i = 0 then lo15 f 0 + 19 * cr15 f 17 else lo15 f i) := rfl
          generalize cr15 f 17 = c at *
          generalize lo15 f 0 = x at *
          go_wp2
          go_roundw
          case rel =>
            refine ⟨k + 1, by omega, by go_num, HB.out.setCell (Nat.le_refl _) _, ?_, HR.out.setOther _ _ (by show w.heap.size + 1 ≠ w.heap.size; omega)⟩
            rw [HN.out, HN2.out, ← HS.out]
            exact HA.out.set 0 _
          case measure => simp [intOf]; omega
    · have h3 : k = 3 := by omega
      subst h3
      have HC : Hid (itN g 3 = car15 g) := rfl
      rw [HC.out] at HA
      go_wp2_with (first | (refine wpList_ldB HA.out Tryd.underlying143 rfl (infoN _) rfl _ rfl rfl ?_) | (refine wpList_stB HR.out (infoN (car15 g)) (lenN _ _) rfl _ _ rfl rfl rfl rfl ?_; intro w5 hb5 ho5 hk5))
      refine bodyPost_ret (v := .agg (rowK .i64 (tab 17 (car15 g)))) (retN Tryd.results123 _ _ _ _ rfl hk5) rfl ⟨rfl, HB.out.trans (hb5.mono (by omega))⟩
end Go.Proofs.YtgjdogkciklgkaaDoor
