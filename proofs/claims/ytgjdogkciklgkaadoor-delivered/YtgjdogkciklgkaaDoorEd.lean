/-
  Whole numbers: binomial numbers, Fermat, primes after Pocklington; the prime of the curve.
-/
import Derived.Test.YtgjdogkciklgkaaDoorLow
import Derived.Test.YtgjdogkciklgkaaDoorFld
namespace Go.Proofs.YtgjdogkciklgkaaDoor.NT
/-- Binomial numbers. -/
def chs : Nat → Nat → Nat
  | _, 0 => 1
  | 0, _ + 1 => 0
  | n + 1, k + 1 => chs n k + chs n (k + 1)
theorem chs_zero (n : Nat) : chs n 0 = 1 := by cases n <;> rfl
theorem chs_gt : ∀ (n k : Nat), n < k → chs n k = 0 := by
  intro n
  induction n with
  | zero => intro k h; cases k with
    | zero => omega
    | succ k => rfl
  | succ n ih => intro k h; cases k with
    | zero => omega
    | succ k => show chs n k + chs n (k + 1) = 0; rw [ih k (by omega), ih (k + 1) (by omega)]
theorem chs_self (n : Nat) : chs n n = 1 := by
  induction n with
  | zero => rfl
  | succ n ih => show chs n n + chs n (n + 1) = 1; rw [ih, chs_gt n (n + 1) (by omega)]
theorem chs_mul : ∀ (n k : Nat), (k + 1) * chs (n + 1) (k + 1) = (n + 1) * chs n k := by
  intro n
  induction n with
  | zero => intro k; cases k with
    | zero => rfl
    | succ k => show (k + 2) * (chs 0 (k + 1) + chs 0 (k + 2)) = 1 * chs 0 (k + 1); simp [chs]
  | succ n ih => intro k; cases k with
    | zero =>
      have h : (0 + 1) * chs (n + 1) 1 = (n + 1) * chs n 0 := ih 0
      show (0 + 1) * (chs (n + 1) 0 + chs (n + 1) 1) = (n + 1 + 1) * chs (n + 1) 0
      rw [chs_zero] at h ⊢
      omega
    | succ k =>
      have h1 := ih k
      have h2 := ih (k + 1)
      show (k + 1 + 1) * (chs (n + 1) (k + 1) + chs (n + 1) (k + 2)) = (n + 1 + 1) * chs (n + 1) (k + 1)
      have e : chs (n + 1) (k + 1) = chs n k + chs n (k + 1) := rfl
      rw [Nat.mul_add, h2]
      have : (k + 1 + 1) * chs (n + 1) (k + 1) = (n + 1) * chs n k + chs (n + 1) (k + 1) := by
        rw [Nat.add_mul (k + 1) 1, h1, Nat.one_mul]
      rw [this, e, Nat.add_mul (n + 1) 1, Nat.one_mul, Nat.mul_add]
      omega
/-- Sums of powers. -/
def sm (a : Nat) (f : Nat → Nat) : Nat → Nat
  | 0 => 0
  | n + 1 => sm a f n + f n * a ^ n
theorem sm_add (a : Nat) (f g : Nat → Nat) (n : Nat) : sm a (fun i => f i + g i) n = sm a f n + sm a g n := by
  induction n with
  | zero => rfl
  | succ n ih => simp only [sm, ih, Nat.add_mul]; omega
theorem sm_shift (a : Nat) (f : Nat → Nat) (n : Nat) : sm a f (n + 1) = f 0 + a * sm a (fun i => f (i + 1)) n := by
  induction n with
  | zero => simp [sm]
  | succ n ih =>
    rw [sm, ih, sm, Nat.mul_add, Nat.pow_succ, ← Nat.mul_assoc, Nat.mul_comm a (f (n + 1) * a ^ n)]
    omega
theorem sm_congr (a : Nat) (f g : Nat → Nat) (n : Nat) (h : ∀ i, i < n → f i = g i) : sm a f n = sm a g n := by
  induction n with
  | zero => rfl
  | succ n ih => rw [sm, sm, ih (fun i hi => h i (by omega)), h n (by omega)]
theorem binom (a n : Nat) : (a + 1) ^ n = sm a (chs n) (n + 1) := by
  induction n with
  | zero => simp [sm, chs]
  | succ n ih =>
    have h1 : sm a (chs (n + 1)) (n + 1 + 1) = 1 + a * sm a (fun i => chs n i + chs n (i + 1)) (n + 1) := by
      rw [sm_shift]
      rfl
    have h2 : sm a (chs n) (n + 1 + 1) = 1 + a * sm a (fun i => chs n (i + 1)) (n + 1) := by
      rw [sm_shift, chs_zero]
    have h3 : sm a (chs n) (n + 1 + 1) = sm a (chs n) (n + 1) := by
      rw [sm, chs_gt n (n + 1) (by omega)]
      omega
    rw [h1, sm_add, Nat.mul_add, Nat.pow_succ, ih, Nat.mul_add]
    have h4 : sm a (fun i => chs n i) (n + 1) = sm a (chs n) (n + 1) := rfl
    rw [h4, Nat.mul_comm (sm a (chs n) (n + 1)) a, Nat.mul_one]
    omega

def Prm (n : Nat) : Prop := 2 ≤ n ∧ ∀ m, m ∣ n → m = 1 ∨ m = n
theorem Prm.cop {p a : Nat} (hp : Prm p) (h : ¬ p ∣ a) : Nat.Coprime p a := by
  have h1 := hp.2 (Nat.gcd p a) (Nat.gcd_dvd_left p a)
  rcases h1 with h1 | h1
  · exact h1
  · exact absurd (h1 ▸ Nat.gcd_dvd_right p a) h
theorem Prm.euclid {p a b : Nat} (hp : Prm p) (h : p ∣ a * b) : p ∣ a ∨ p ∣ b := by
  by_cases ha : p ∣ a
  · exact .inl ha
  · exact .inr ((hp.cop ha).dvd_of_dvd_mul_left h)
theorem Prm.chs {p : Nat} (hp : Prm p) (k : Nat) (h1 : 0 < k) (h2 : k < p) : p ∣ chs p k := by
  obtain ⟨n, rfl⟩ : ∃ n, p = n + 1 := ⟨p - 1, by have := hp.1; omega⟩
  obtain ⟨j, rfl⟩ : ∃ j, k = j + 1 := ⟨k - 1, by omega⟩
  have h := chs_mul n j
  rcases hp.euclid (a := j + 1) (b := NT.chs (n + 1) (j + 1)) ⟨_, h⟩ with h | h
  · exact absurd (Nat.le_of_dvd (by omega) h) (by omega)
  · exact h
theorem sm_dvd (p a : Nat) (f : Nat → Nat) (n : Nat) (h : ∀ i, i < n → p ∣ f i) : p ∣ sm a f n := by
  induction n with
  | zero => exact Nat.dvd_zero p
  | succ n ih => exact Nat.dvd_add (ih fun i hi => h i (by omega)) (Nat.dvd_trans (h n (by omega)) (Nat.dvd_mul_right _ _))
theorem frob {p : Nat} (hp : Prm p) (a : Nat) : (a + 1) ^ p % p = (a ^ p + 1) % p := by
  obtain ⟨n, rfl⟩ : ∃ n, p = n + 1 := ⟨p - 1, by have := hp.1; omega⟩
  rw [binom, sm, chs_self, sm_shift, chs_zero, Nat.one_mul]
  obtain ⟨c, hc⟩ := sm_dvd (n + 1) a (fun i => chs (n + 1) (i + 1)) n (fun i hi => hp.chs (i + 1) (by omega) (by omega))
  rw [hc]
  have : 1 + a * ((n + 1) * c) + a ^ (n + 1) = (a ^ (n + 1) + 1) + (n + 1) * (a * c) := by
    rw [Nat.mul_left_comm]
    omega
  rw [this, Nat.add_mul_mod_self_left]
theorem frm {p : Nat} (hp : Prm p) (a : Nat) : a ^ p % p = a % p := by
  induction a with
  | zero => rw [Nat.zero_pow (by have := hp.1; omega)]
  | succ a ih => rw [frob hp, Nat.add_mod, ih, ← Nat.add_mod]
theorem cancelM {p a b c : Nat} (hp : Prm p) (ha : ¬ p ∣ a) (h : a * b % p = a * c % p) (hle : c ≤ b) : b % p = c % p := by
  have h1 : p ∣ a * (b - c) := by
    rw [Nat.mul_sub]
    exact Nat.dvd_of_mod_eq_zero (Nat.sub_mod_eq_zero_of_mod_eq h)
  rcases hp.euclid h1 with h2 | h2
  · exact absurd h2 ha
  · obtain ⟨k, hk⟩ := h2
    have : b = c + p * k := by omega
    rw [this, Nat.add_mul_mod_self_left]
theorem fermat {p a : Nat} (hp : Prm p) (ha : ¬ p ∣ a) : a ^ (p - 1) % p = 1 := by
  have h := frm hp a
  have h2 := hp.1
  have e : a ^ p = a * a ^ (p - 1) := by
    conv => lhs; rw [show p = (p - 1) + 1 from by omega]
    rw [Nat.pow_succ, Nat.mul_comm]
  rw [e] at h
  have hpos : 1 ≤ a ^ (p - 1) := Nat.pow_pos (by
    rcases Nat.eq_zero_or_pos a with h0 | h0
    · exact absurd (h0 ▸ Nat.dvd_zero p) ha
    · exact h0)
  have h3 := cancelM hp ha (b := a ^ (p - 1)) (c := 1) (by rw [h, Nat.mul_one]) hpos
  rw [h3, Nat.mod_eq_of_lt (by omega)]
theorem powM (a b n k : Nat) (h : a % n = b % n) : a ^ k % n = b ^ k % n := by
  rw [Nat.pow_mod, h, ← Nat.pow_mod]
/-- Every number from 2 on has a prime divisor, and one that isn't prime has one whose square is no more. -/
theorem least : ∀ n, 2 ≤ n → ∃ r, Prm r ∧ r ∣ n := by
  intro n
  induction n using Nat.strongRecOn with
  | _ n ih =>
    intro h
    by_cases hp : Prm n
    · exact ⟨n, hp, Nat.dvd_refl n⟩
    · have : ∃ m, m ∣ n ∧ m ≠ 1 ∧ m ≠ n := by
        apply Classical.byContradiction
        intro hc
        apply hp
        refine ⟨h, fun m hm => ?_⟩
        apply Classical.byContradiction
        intro h2
        exact hc ⟨m, hm, fun e => h2 (.inl e), fun e => h2 (.inr e)⟩
      obtain ⟨m, hm, h1, h2⟩ := this
      have hle := Nat.le_of_dvd (by omega) hm
      have h0 : m ≠ 0 := by
        rintro rfl
        rw [Nat.zero_dvd] at hm
        omega
      obtain ⟨r, hr, hd⟩ := ih m (by omega) (by omega)
      exact ⟨r, hr, Nat.dvd_trans hd hm⟩
theorem prm_of {n : Nat} (h2 : 2 ≤ n) (h : ∀ r, Prm r → r ∣ n → n < r * r) : Prm n := by
  refine ⟨h2, fun m hm => ?_⟩
  apply Classical.byContradiction
  intro hc
  have h1 : m ≠ 1 := fun e => hc (.inl e)
  have h3 : m ≠ n := fun e => hc (.inr e)
  obtain ⟨k, hk⟩ := hm
  have hm0 : m ≠ 0 := by rintro rfl; omega
  have hk0 : k ≠ 0 := by rintro rfl; omega
  have hk1 : k ≠ 1 := by rintro rfl; omega
  obtain ⟨r, hr, hd⟩ := least m (by omega)
  obtain ⟨t, ht, hd2⟩ := least k (by omega)
  have a1 := h r hr (Nat.dvd_trans hd ⟨k, hk⟩)
  have a2 := h t ht (Nat.dvd_trans hd2 ⟨m, by rw [hk, Nat.mul_comm]⟩)
  have b1 := Nat.le_of_dvd (by omega) hd
  have b2 := Nat.le_of_dvd (by omega) hd2
  have c1 : r * t ≤ n := by rw [hk]; exact Nat.mul_le_mul b1 b2
  rcases Nat.le_total r t with g | g
  · have := Nat.mul_le_mul_left r g
    omega
  · have := Nat.mul_le_mul_right t g
    omega
/-- A prime whose square is at least n: by trial. -/
def triv (n : Nat) : Nat → Bool
  | 0 => true
  | k + 1 => (k + 2 == n || n % (k + 2) != 0) && triv n k
theorem triv_ok (n : Nat) : ∀ k, triv n k = true → ∀ r, 2 ≤ r → r < k + 2 → r ∣ n → r = n := by
  intro k
  induction k with
  | zero => intro _ r h1 h2; omega
  | succ k ih =>
    intro h r h1 h2 hd
    simp only [triv, Bool.and_eq_true, Bool.or_eq_true, beq_iff_eq, bne_iff_ne] at h
    rcases Nat.lt_or_ge r (k + 2) with g | g
    · exact ih h.2 r h1 g hd
    · obtain rfl : r = k + 2 := by omega
      rcases h.1 with e | e
      · exact e
      · exact absurd (Nat.mod_eq_zero_of_dvd hd) e
theorem prm_triv (n k : Nat) (h2 : 2 ≤ n) (h : triv n k = true) (hk : n < (k + 2) * (k + 2)) : Prm n := by
  refine prm_of h2 fun r hr hd => ?_
  rcases Nat.lt_or_ge r (k + 2) with g | g
  · have e := triv_ok n k h r hr.1 g hd
    rw [e]
    have := Nat.mul_le_mul_right n h2
    omega
  · have := Nat.mul_le_mul g g
    omega
theorem pow_gcd (a r m n : Nat) (h1 : a ^ m % r = 1 % r) (h2 : a ^ n % r = 1 % r) : a ^ (Nat.gcd m n) % r = 1 % r := by
  induction m, n using Nat.gcd.induction with
  | H0 n => rw [Nat.gcd_zero_left]; exact h2
  | H1 m n hpos ih =>
    rw [Nat.gcd_rec]
    refine ih ?_ h1
    have : n = m * (n / m) + n % m := (Nat.div_add_mod n m).symm
    rw [this, Nat.pow_add, Nat.mul_mod, Nat.pow_mul, powM _ 1 r _ h1, Nat.one_pow, ← Nat.mul_mod, Nat.one_mul] at h2
    exact h2
/-- One step after Pocklington. -/
theorem pock {n q m a : Nat} (hq : Prm q) (hm : n = q * m + 1) (ha : a ^ (q * m) % n = 1 % n) (hg : Nat.gcd (a ^ m % n + (n - 1)) n = 1) (hn : 2 ≤ n) {r : Nat} (hr : Prm r) (hd : r ∣ n) : q ∣ r - 1 := by
  apply Classical.byContradiction
  intro hc
  have hcop := hq.cop hc
  obtain ⟨c, hc'⟩ := hd
  have down : ∀ x y, x % n = y % n → x % r = y % r := by
    intro x y h
    rw [← Nat.mod_mod_of_dvd x ⟨c, hc'⟩, h, Nat.mod_mod_of_dvd y ⟨c, hc'⟩]
  have ha' := down _ _ ha
  have hr2 := hr.1
  have hra : ¬ r ∣ a := by
    intro h
    have h0 : q * m ≠ 0 := by omega
    have : r ∣ a ^ (q * m) := by
      obtain ⟨j, hj⟩ : ∃ j, q * m = j + 1 := ⟨q * m - 1, by omega⟩
      rw [hj, Nat.pow_succ]
      exact Nat.dvd_trans h (Nat.dvd_mul_left a _)
    rw [Nat.mod_eq_zero_of_dvd this, Nat.mod_eq_of_lt (by omega)] at ha'
    omega
  have hf := fermat hr hra
  have hgm := pow_gcd a r (q * m) (r - 1) ha' (by rw [hf, Nat.mod_eq_of_lt (by omega)])
  rw [hcop.gcd_mul_left_cancel m] at hgm
  obtain ⟨t, ht⟩ := Nat.gcd_dvd_left m (r - 1)
  have e3 : a ^ m % r = 1 % r := by rw [ht, Nat.pow_mul, powM _ 1 r t hgm, Nat.one_pow]
  have hd1 : r ∣ a ^ m % n + (n - 1) := by
    apply Nat.dvd_of_mod_eq_zero
    rw [Nat.add_mod, Nat.mod_mod_of_dvd _ ⟨c, hc'⟩, e3, ← Nat.add_mod, show 1 + (n - 1) = n by omega, hc', Nat.mul_mod_right]
  have := Nat.dvd_gcd hd1 ⟨c, hc'⟩
  rw [hg] at this
  have := Nat.le_of_dvd (by omega) this
  omega

/-- Powers modulo n by squaring, for the kernel. -/
def pw (n : Nat) : Nat → Nat → Nat → Nat
  | 0, _, _ => 1 % n
  | f + 1, a, k => if k % 2 = 1 then pw n f (a * a % n) (k / 2) * a % n else pw n f (a * a % n) (k / 2)
theorem pw_eq (n : Nat) : ∀ f a k, k < 2 ^ f → pw n f a k = a ^ k % n := by
  intro f
  induction f with
  | zero => intro a k h; obtain rfl : k = 0 := by omega
            rfl
  | succ f ih =>
    intro a k h
    have hk : k / 2 < 2 ^ f := by rw [Nat.pow_succ] at h; omega
    have e : (a * a % n) ^ (k / 2) % n = a ^ (2 * (k / 2)) % n := by
      rw [← Nat.pow_mod, Nat.pow_mul, Nat.pow_two]
    rw [pw, ih _ _ hk, e]
    split
    · next h1 =>
      rw [Nat.mod_mul_mod, ← Nat.pow_succ]
      congr 2
      omega
    · congr 2
      omega
theorem pock2 {n q m a f : Nat} (hq : Prm q) (hf : q * m < 2 ^ f) (hc : (n == q * m + 1 && pw n f a (q * m) == 1 % n && Nat.gcd (pw n f a m + (n - 1)) n == 1) = true) (hn : 2 ≤ n) {r : Nat} (hr : Prm r) (hd : r ∣ n) : q ∣ r - 1 := by
  simp only [Bool.and_eq_true, beq_iff_eq] at hc
  obtain ⟨⟨h1, h2⟩, h3⟩ := hc
  have hm : m < 2 ^ f := by
    have := Nat.le_mul_of_pos_left m (show 0 < q by have := hq.1; omega)
    omega
  rw [pw_eq n f a _ hf] at h2
  rw [pw_eq n f a _ hm] at h3
  exact pock hq h1 h2 h3 hn hr hd
theorem sq_of {n F : Nat} (hF : n < F * F) {r : Nat} (hr : Prm r) (h : F ∣ r - 1) : n < r * r := by
  have h1 := Nat.le_of_dvd (by have := hr.1; omega) h
  have h2 : F ≤ r := by omega
  have := Nat.mul_le_mul h2 h2
  omega
theorem prm_127 : Prm 127 := prm_triv 127 12 (by decide) (by decide +kernel) (by decide +kernel)
theorem prm_353 : Prm 353 := prm_triv 353 19 (by decide) (by decide +kernel) (by decide +kernel)
theorem prm_75707 : Prm 75707 := prm_triv 75707 276 (by decide) (by decide +kernel) (by decide +kernel)
theorem prm_8574133 : Prm 8574133 := prm_triv 8574133 2929 (by decide) (by decide +kernel) (by decide +kernel)
theorem prm_1919519569386763 : Prm 1919519569386763 := by
  refine prm_of (by decide) fun r hr hd => ?_
  have h1 := pock2 (n := 1919519569386763) (q := 8574133) (m := 223873314) (a := 2) (f := 51) prm_8574133 (by decide +kernel) (by decide +kernel) (by decide) hr hd
  have h2 := pock2 (n := 1919519569386763) (q := 127) (m := 15114327318006) (a := 2) (f := 51) prm_127 (by decide +kernel) (by decide +kernel) (by decide) hr hd
  exact sq_of (F := 8574133 * 127) (by decide +kernel) hr (Nat.Coprime.mul_dvd_of_dvd_of_dvd (by decide +kernel) h1 h2)
theorem prm_75445702479781427272750846543864801 : Prm 75445702479781427272750846543864801 := by
  refine prm_of (by decide) fun r hr hd => ?_
  have h1 := pock2 (n := 75445702479781427272750846543864801) (q := 1919519569386763) (m := 39304471641247389600) (a := 2) (f := 116) prm_1919519569386763 (by decide +kernel) (by decide +kernel) (by decide) hr hd
  have h2 := pock2 (n := 75445702479781427272750846543864801) (q := 75707) (m := 996548568557483816196003626400) (a := 2) (f := 116) prm_75707 (by decide +kernel) (by decide +kernel) (by decide) hr hd
  exact sq_of (F := 1919519569386763 * 75707) (by decide +kernel) hr (Nat.Coprime.mul_dvd_of_dvd_of_dvd (by decide +kernel) h1 h2)
theorem prm_74058212732561358302231226437062788676166966415465897661863160754340907 : Prm 74058212732561358302231226437062788676166966415465897661863160754340907 := by
  refine prm_of (by decide) fun r hr hd => ?_
  have h1 := pock2 (n := 74058212732561358302231226437062788676166966415465897661863160754340907) (q := 75445702479781427272750846543864801) (m := 981609426360740691344999861639072106) (a := 2) (f := 236) prm_75445702479781427272750846543864801 (by decide +kernel) (by decide +kernel) (by decide) hr hd
  have h2 := pock2 (n := 74058212732561358302231226437062788676166966415465897661863160754340907) (q := 353) (m := 209796636636151156663544550813209033076960244803019540118592523383402) (a := 2) (f := 236) prm_353 (by decide +kernel) (by decide +kernel) (by decide) hr hd
  exact sq_of (F := 75445702479781427272750846543864801 * 353) (by decide +kernel) hr (Nat.Coprime.mul_dvd_of_dvd_of_dvd (by decide +kernel) h1 h2)
theorem prm_57896044618658097711785492504343953926634992332820282019728792003956564819949 : Prm 57896044618658097711785492504343953926634992332820282019728792003956564819949 := by
  refine prm_of (by decide) fun r hr hd => ?_
  have h1 := pock2 (n := 57896044618658097711785492504343953926634992332820282019728792003956564819949) (q := 74058212732561358302231226437062788676166966415465897661863160754340907) (m := 781764) (a := 2) (f := 255) prm_74058212732561358302231226437062788676166966415465897661863160754340907 (by decide +kernel) (by decide +kernel) (by decide) hr hd
  exact sq_of (F := 74058212732561358302231226437062788676166966415465897661863160754340907) (by decide +kernel) hr h1
end Go.Proofs.YtgjdogkciklgkaaDoor.NT
namespace Go.Proofs.YtgjdogkciklgkaaDoor.Ed
set_option maxHeartbeats 4000000 in
set_option maxRecDepth 10000 in
theorem id_cmp1 {n : Nat} [NeZero n] (x1 y1 x2 y2 d e : Fin n) (h1 : x1 * x1 + y1 * y1 = 1 + d * (x1 * x1) * (y1 * y1)) (h2 : x2 * x2 + y2 * y2 = 1 + d * (x2 * x2) * (y2 * y2)) (he : e * e = 1) (ht : d * (x1 * y1 * x2 * y2) = e) :
    (x1 + e * y1) * (x1 + e * y1) = d * ((x1 * y1 * (x2 + y2)) * (x1 * y1 * (x2 + y2))) := by grind
set_option maxHeartbeats 4000000 in
set_option maxRecDepth 10000 in
theorem id_cmp2 {n : Nat} [NeZero n] (x1 y1 x2 y2 d e : Fin n) (h1 : x1 * x1 + y1 * y1 = 1 + d * (x1 * x1) * (y1 * y1)) (h2 : x2 * x2 + y2 * y2 = 1 + d * (x2 * x2) * (y2 * y2)) (he : e * e = 1) (ht : d * (x1 * y1 * x2 * y2) = e) :
    (x1 - e * y1) * (x1 - e * y1) = d * ((x1 * y1 * (x2 - y2)) * (x1 * y1 * (x2 - y2))) := by grind
set_option maxHeartbeats 4000000 in
set_option maxRecDepth 10000 in
theorem id_cmp3 {n : Nat} [NeZero n] (x1 y1 x2 y2 d e : Fin n) (h1 : x1 * y1 * (x2 + y2) = 0) (h2 : x1 * y1 * (x2 - y2) = 0) (he : e * e = 1) (ht : d * (x1 * y1 * x2 * y2) = e) : (2 : Fin n) = 0 := by grind
set_option maxHeartbeats 4000000 in
set_option maxRecDepth 10000 in
theorem id_on {n : Nat} [NeZero n] (d x1 y1 x2 y2 : Fin n) (h1 : x1 * x1 + y1 * y1 = 1 + d * (x1 * x1) * (y1 * y1)) (h2 : x2 * x2 + y2 * y2 = 1 + d * (x2 * x2) * (y2 * y2)) :
    (x1 * y2 + y1 * x2) * (x1 * y2 + y1 * x2) * ((1 - d * (x1 * y1 * x2 * y2)) * (1 - d * (x1 * y1 * x2 * y2))) + (y1 * y2 - x1 * x2) * (y1 * y2 - x1 * x2) * ((1 + d * (x1 * y1 * x2 * y2)) * (1 + d * (x1 * y1 * x2 * y2)))
    = (1 + d * (x1 * y1 * x2 * y2)) * (1 + d * (x1 * y1 * x2 * y2)) * ((1 - d * (x1 * y1 * x2 * y2)) * (1 - d * (x1 * y1 * x2 * y2))) + d * ((x1 * y2 + y1 * x2) * (x1 * y2 + y1 * x2)) * ((y1 * y2 - x1 * x2) * (y1 * y2 - x1 * x2)) := by grind
set_option maxHeartbeats 4000000 in
set_option maxRecDepth 10000 in
theorem id_on2 {n : Nat} [NeZero n] (d x y p m a b : Fin n) (hx : x * p = a) (hy : y * m = b) (h : a * a * (m * m) + b * b * (p * p) = p * p * (m * m) + d * (a * a) * (b * b)) :
    (x * x + y * y) * (p * p * (m * m)) = (1 + d * (x * x) * (y * y)) * (p * p * (m * m)) := by
  subst hx
  subst hy
  grind
set_option maxHeartbeats 4000000 in
set_option maxRecDepth 10000 in
theorem id_ax {n : Nat} [NeZero n] (d x1 y1 x2 y2 x3 y3 : Fin n)
    (h1 : x1 * x1 + y1 * y1 = 1 + d * (x1 * x1) * (y1 * y1)) (h2 : x2 * x2 + y2 * y2 = 1 + d * (x2 * x2) * (y2 * y2)) (h3 : x3 * x3 + y3 * y3 = 1 + d * (x3 * x3) * (y3 * y3)) :
    ((x1 * y2 + y1 * x2) * (1 - d * (x1 * y1 * x2 * y2)) * y3 + (y1 * y2 - x1 * x2) * (1 + d * (x1 * y1 * x2 * y2)) * x3) * ((1 + d * (x2 * y2 * x3 * y3)) * (1 - d * (x2 * y2 * x3 * y3)) + d * (x1 * y1) * ((x2 * y3 + y2 * x3) * (y2 * y3 - x2 * x3)))
    = (x1 * (y2 * y3 - x2 * x3) * (1 + d * (x2 * y2 * x3 * y3)) + y1 * (x2 * y3 + y2 * x3) * (1 - d * (x2 * y2 * x3 * y3))) * ((1 + d * (x1 * y1 * x2 * y2)) * (1 - d * (x1 * y1 * x2 * y2)) + d * ((x1 * y2 + y1 * x2) * (y1 * y2 - x1 * x2)) * (x3 * y3)) := by grind
set_option maxHeartbeats 4000000 in
set_option maxRecDepth 10000 in
theorem id_ay {n : Nat} [NeZero n] (d x1 y1 x2 y2 x3 y3 : Fin n)
    (h1 : x1 * x1 + y1 * y1 = 1 + d * (x1 * x1) * (y1 * y1)) (h2 : x2 * x2 + y2 * y2 = 1 + d * (x2 * x2) * (y2 * y2)) (h3 : x3 * x3 + y3 * y3 = 1 + d * (x3 * x3) * (y3 * y3)) :
    ((y1 * y2 - x1 * x2) * (1 + d * (x1 * y1 * x2 * y2)) * y3 - (x1 * y2 + y1 * x2) * (1 - d * (x1 * y1 * x2 * y2)) * x3) * ((1 + d * (x2 * y2 * x3 * y3)) * (1 - d * (x2 * y2 * x3 * y3)) - d * (x1 * y1) * ((x2 * y3 + y2 * x3) * (y2 * y3 - x2 * x3)))
    = (y1 * (y2 * y3 - x2 * x3) * (1 + d * (x2 * y2 * x3 * y3)) - x1 * (x2 * y3 + y2 * x3) * (1 - d * (x2 * y2 * x3 * y3))) * ((1 + d * (x1 * y1 * x2 * y2)) * (1 - d * (x1 * y1 * x2 * y2)) - d * ((x1 * y2 + y1 * x2) * (y1 * y2 - x1 * x2)) * (x3 * y3)) := by grind
set_option maxHeartbeats 4000000 in
set_option maxRecDepth 10000 in
theorem id_dadd {n : Nat} [NeZero n] (d x2 y2 x3 y3 : Fin n) (h2 : x2 * x2 + y2 * y2 = 1 + d * (x2 * x2) * (y2 * y2)) (h3 : x3 * x3 + y3 * y3 = 1 + d * (x3 * x3) * (y3 * y3)) :
    (1 - d * (x2 * y2 * x3 * y3) + (y2 * y3 - x2 * x3)) * (1 + d * (x2 * y2 * x3 * y3) + (y2 * y3 + x2 * x3)) * ((y2 - y3) * (y2 - y3))
    = (1 - d * (x2 * y2 * x3 * y3) - (y2 * y3 - x2 * x3)) * (1 + d * (x2 * y2 * x3 * y3) - (y2 * y3 + x2 * x3)) * ((y2 + y3) * (y2 + y3)) := by grind
end Go.Proofs.YtgjdogkciklgkaaDoor.Ed
namespace Go.Proofs.YtgjdogkciklgkaaDoor.Ed
open NT
def Pm : Nat := 57896044618658097711785492504343953926634992332820282019728792003956564819948
theorem Pm1 : Pm + 1 = PR := by decide +kernel
theorem PR_prm : Prm PR := prm_57896044618658097711785492504343953926634992332820282019728792003956564819949
abbrev K := Fin (Pm + 1)
theorem K_lt (a : K) : a.val < PR := Pm1 ▸ a.isLt
theorem K_in {x : Nat} (h : x < PR) : x < Pm + 1 := Pm1.symm ▸ h
/-- A number in the field. -/
def toK (x : Nat) : K := ⟨x % PR, K_in (Nat.mod_lt _ PR_pos)⟩
def pwK (e : Nat) (a : K) : K := ⟨a.val ^ e % PR, K_in (Nat.mod_lt _ PR_pos)⟩
def inv (a : K) : K := pwK (PR - 2) a
def d : K := ⟨20800338683988658368647408995589388737092878452977063003340006470870624536394, by decide +kernel⟩
theorem K_ext {a b : K} (h : a.val = b.val) : a = b := Fin.ext h
theorem K_zero : (0 : K).val = 0 := rfl
theorem K_one : (1 : K).val = 1 := by decide +kernel
theorem K_two : (2 : K) ≠ 0 := by decide +kernel
theorem K_one_ne : (1 : K) ≠ 0 := by decide +kernel
theorem K_mul (a b : K) : (a * b).val = a.val * b.val % PR := (Fin.val_mul a b).trans (congrArg (a.val * b.val % ·) Pm1)
theorem K_add (a b : K) : (a + b).val = (a.val + b.val) % PR := (Fin.val_add a b).trans (congrArg ((a.val + b.val) % ·) Pm1)
theorem K_sub (a b : K) : (a - b).val = (PR - b.val + a.val) % PR := (show (a - b).val = (Pm + 1 - b.val + a.val) % (Pm + 1) from rfl).trans (congrArg (fun m => (m - b.val + a.val) % m) Pm1)
theorem K_mul0 {a b : K} (h : a * b = 0) : a = 0 ∨ b = 0 := by
  have h1 : a.val * b.val % PR = 0 := by rw [← K_mul, h]; rfl
  rcases PR_prm.euclid (Nat.dvd_of_mod_eq_zero h1) with h2 | h2
  · exact .inl (K_ext (Nat.eq_zero_of_dvd_of_lt h2 (K_lt a)))
  · exact .inr (K_ext (Nat.eq_zero_of_dvd_of_lt h2 (K_lt b)))
theorem K_mul_ne {a b : K} (ha : a ≠ 0) (hb : b ≠ 0) : a * b ≠ 0 := fun h => (K_mul0 h).elim ha hb
theorem sub0 {n : Nat} [NeZero n] (a b : Fin n) (h : a - b = 0) : a = b := by grind
theorem sub1 {n : Nat} [NeZero n] (a b c : Fin n) (h : a * c = b * c) : (a - b) * c = 0 := by grind
theorem canc {a b c : K} (hc : c ≠ 0) (h : a * c = b * c) : a = b := sub0 a b ((K_mul0 (sub1 a b c h)).resolve_right hc)
theorem K_ndvd {a : K} (ha : a ≠ 0) : ¬ PR ∣ a.val := fun h => ha (K_ext (Nat.eq_zero_of_dvd_of_lt h (K_lt a)))
theorem K_fermat {a : K} (ha : a ≠ 0) : a.val ^ (PR - 1) % PR = 1 := fermat PR_prm (K_ndvd ha)
theorem PR_sub : PR - 1 = (PR - 2) + 1 := by decide +kernel
theorem inv_mul {a : K} (ha : a ≠ 0) : a * inv a = 1 := by
  apply K_ext
  rw [K_mul, K_one]
  show a.val * (a.val ^ (PR - 2) % PR) % PR = 1
  have h := K_fermat ha
  rw [PR_sub] at h
  rw [Nat.mul_mod_mod, Nat.mul_comm, ← Nat.pow_succ]
  exact h
theorem pwK_zero (e : Nat) (he : e ≠ 0) : pwK e 0 = 0 := by
  apply K_ext
  show (0 : K).val ^ e % PR = 0
  rw [K_zero, Nat.zero_pow (by omega), Nat.zero_mod]
theorem inv_zero : inv 0 = 0 := pwK_zero (PR - 2) (by decide +kernel)
theorem d_ne : d ≠ 0 := by decide +kernel
theorem d_euler : d.val ^ ((PR - 1) / 2) % PR = PR - 1 := by
  rw [← pw_eq PR 255 _ _ (by decide +kernel)]
  decide +kernel
theorem sq1 {n : Nat} [NeZero n] (a b c d : Fin n) (h : a * a = d * (b * b)) (hc : b * c = 1) : (a * c) * (a * c) = d := by grind
theorem nonsq {a b : K} (h : a * a = d * (b * b)) : b = 0 := by
  apply Classical.byContradiction
  intro hb
  have hc := sq1 a b (inv b) d h (inv_mul hb)
  generalize a * inv b = c at hc
  have hc0 : c ≠ 0 := by
    rintro rfl
    exact d_ne (by rw [← hc]; decide +kernel)
  have h1 := K_fermat hc0
  have h2 : PR - 1 = 2 * ((PR - 1) / 2) := by decide +kernel
  rw [h2, Nat.pow_mul, Nat.pow_two, Nat.pow_mod, ← K_mul, hc, d_euler] at h1
  exact absurd h1 (by decide +kernel)
structure Pt where
  x : K
  y : K
  on : x * x + y * y = 1 + d * (x * x) * (y * y)
theorem Pt.ext' {P Q : Pt} (h1 : P.x = Q.x) (h2 : P.y = Q.y) : P = Q := by
  cases P; cases Q; simp only at h1 h2; subst h1; subst h2; rfl
def dt (P Q : Pt) : K := d * (P.x * P.y * Q.x * Q.y)
theorem dt_ne (P Q : Pt) (e : K) (he : e * e = 1) : dt P Q ≠ e := by
  intro ht
  have h1 := nonsq (id_cmp1 P.x P.y Q.x Q.y d e P.on Q.on he ht)
  have h2 := nonsq (id_cmp2 P.x P.y Q.x Q.y d e P.on Q.on he ht)
  exact K_two (id_cmp3 P.x P.y Q.x Q.y d e h1 h2 he ht)
theorem neg1 {n : Nat} [NeZero n] : (-1 : Fin n) * (-1) = 1 := by grind
theorem add_neg {n : Nat} [NeZero n] (t : Fin n) (h : 1 + t = 0) : t = -1 := by grind
theorem sub_one {n : Nat} [NeZero n] (t : Fin n) (h : 1 - t = 0) : t = 1 := by grind
theorem one1 {n : Nat} [NeZero n] : (1 : Fin n) * 1 = 1 := by grind
theorem dp_ne (P Q : Pt) : 1 + dt P Q ≠ 0 := fun h => dt_ne P Q (-1) neg1 (add_neg _ h)
theorem dm_ne (P Q : Pt) : 1 - dt P Q ≠ 0 := fun h => dt_ne P Q 1 one1 (sub_one _ h)
def ax (P Q : Pt) : K := (P.x * Q.y + P.y * Q.x) * inv (1 + dt P Q)
def ay (P Q : Pt) : K := (P.y * Q.y - P.x * Q.x) * inv (1 - dt P Q)
theorem mul_inv {n : Nat} [NeZero n] (a b c : Fin n) (h : b * c = 1) : a * c * b = a := by grind
theorem ax_eq (P Q : Pt) : ax P Q * (1 + dt P Q) = P.x * Q.y + P.y * Q.x := mul_inv _ _ _ (inv_mul (dp_ne P Q))
theorem ay_eq (P Q : Pt) : ay P Q * (1 - dt P Q) = P.y * Q.y - P.x * Q.x := mul_inv _ _ _ (inv_mul (dm_ne P Q))
theorem add_on (P Q : Pt) : ax P Q * ax P Q + ay P Q * ay P Q = 1 + d * (ax P Q * ax P Q) * (ay P Q * ay P Q) :=
  canc (K_mul_ne (K_mul_ne (dp_ne P Q) (dp_ne P Q)) (K_mul_ne (dm_ne P Q) (dm_ne P Q)))
    (id_on2 d (ax P Q) (ay P Q) (1 + dt P Q) (1 - dt P Q) _ _ (ax_eq P Q) (ay_eq P Q) (id_on d P.x P.y Q.x Q.y P.on Q.on))
def add (P Q : Pt) : Pt := ⟨ax P Q, ay P Q, add_on P Q⟩
theorem add_xe (P Q : Pt) : (add P Q).x * (1 + dt P Q) = P.x * Q.y + P.y * Q.x := ax_eq P Q
theorem add_ye (P Q : Pt) : (add P Q).y * (1 - dt P Q) = P.y * Q.y - P.x * Q.x := ay_eq P Q
/-- A point is the sum if it keeps the two equations. -/
theorem add_is (P Q R : Pt) (h1 : R.x * (1 + dt P Q) = P.x * Q.y + P.y * Q.x) (h2 : R.y * (1 - dt P Q) = P.y * Q.y - P.x * Q.x) : add P Q = R :=
  Pt.ext' (canc (dp_ne P Q) ((add_xe P Q).trans h1.symm)) (canc (dm_ne P Q) ((add_ye P Q).trans h2.symm))
theorem dt_comm (P Q : Pt) : dt P Q = dt Q P := by unfold dt; grind
theorem add_comm (P Q : Pt) : add P Q = add Q P := by
  apply add_is
  · rw [dt_comm, add_xe]; grind
  · rw [dt_comm, add_ye]; grind
def O : Pt := ⟨0, 1, by decide +kernel⟩
theorem O_id {n : Nat} [NeZero n] (d x y : Fin n) : x * (1 + d * (x * y * 0 * 1)) = x * 1 + y * 0 ∧ y * (1 - d * (x * y * 0 * 1)) = y * 1 - x * 0 := by grind
theorem add_O (P : Pt) : add P O = P := add_is P O P (O_id d P.x P.y).1 (O_id d P.x P.y).2
theorem neg_on {n : Nat} [NeZero n] (d x y : Fin n) (h : x * x + y * y = 1 + d * (x * x) * (y * y)) : -x * -x + y * y = 1 + d * (-x * -x) * (y * y) := by grind
def neg (P : Pt) : Pt := ⟨-P.x, P.y, neg_on d P.x P.y P.on⟩
theorem neg_id {n : Nat} [NeZero n] (d x y : Fin n) (h : x * x + y * y = 1 + d * (x * x) * (y * y)) : 0 * (1 + d * (x * y * -x * y)) = x * y + y * -x ∧ 1 * (1 - d * (x * y * -x * y)) = y * y - x * -x := by grind
theorem add_neg' (P : Pt) : add P (neg P) = O := add_is P (neg P) O (neg_id d P.x P.y P.on).1 (neg_id d P.x P.y P.on).2
theorem as1 {n : Nat} [NeZero n] (x6 x4 y4 x3 y3 d p m a b : Fin n) (h : x6 * (1 + d * (x4 * y4 * x3 * y3)) = x4 * y3 + y4 * x3) (hx : x4 * p = a) (hy : y4 * m = b) : x6 * (p * m + d * (a * b) * (x3 * y3)) = a * m * y3 + b * p * x3 ∧ p * m + d * (a * b) * (x3 * y3) = (1 + d * (x4 * y4 * x3 * y3)) * (p * m) := by
  subst hx
  subst hy
  grind
theorem as2 {n : Nat} [NeZero n] (x6 x4 y4 x3 y3 d p m a b : Fin n) (h : x6 * (1 - d * (x4 * y4 * x3 * y3)) = y4 * y3 - x4 * x3) (hx : x4 * p = a) (hy : y4 * m = b) : x6 * (p * m - d * (a * b) * (x3 * y3)) = b * p * y3 - a * m * x3 ∧ p * m - d * (a * b) * (x3 * y3) = (1 - d * (x4 * y4 * x3 * y3)) * (p * m) := by
  subst hx
  subst hy
  grind
theorem as3 {n : Nat} [NeZero n] (x7 x5 y5 x1 y1 d p m a b : Fin n) (h : x7 * (1 + d * (x1 * y1 * x5 * y5)) = x1 * y5 + y1 * x5) (hx : x5 * p = a) (hy : y5 * m = b) : x7 * (p * m + d * (x1 * y1) * (a * b)) = x1 * b * p + y1 * a * m ∧ p * m + d * (x1 * y1) * (a * b) = (1 + d * (x1 * y1 * x5 * y5)) * (p * m) := by
  subst hx
  subst hy
  grind
theorem as4 {n : Nat} [NeZero n] (x7 x5 y5 x1 y1 d p m a b : Fin n) (h : x7 * (1 - d * (x1 * y1 * x5 * y5)) = y1 * y5 - x1 * x5) (hx : x5 * p = a) (hy : y5 * m = b) : x7 * (p * m - d * (x1 * y1) * (a * b)) = y1 * b * p - x1 * a * m ∧ p * m - d * (x1 * y1) * (a * b) = (1 - d * (x1 * y1 * x5 * y5)) * (p * m) := by
  subst hx
  subst hy
  grind
theorem cross {n : Nat} [NeZero n] (u v l r s t : Fin n) (h1 : u * l = s) (h2 : v * r = t) (h : s * r = t * l) : u * (l * r) = v * (l * r) := by grind
theorem add_assoc (P Q R : Pt) : add (add P Q) R = add P (add Q R) := by
  apply Pt.ext'
  · have h1 := as1 _ _ _ _ _ d _ _ _ _ (add_xe (add P Q) R) (add_xe P Q) (add_ye P Q)
    have h2 := as3 _ _ _ _ _ d _ _ _ _ (add_xe P (add Q R)) (add_xe Q R) (add_ye Q R)
    have n1 := h1.2 ▸ K_mul_ne (dp_ne (add P Q) R) (K_mul_ne (dp_ne P Q) (dm_ne P Q))
    have n2 := h2.2 ▸ K_mul_ne (dp_ne P (add Q R)) (K_mul_ne (dp_ne Q R) (dm_ne Q R))
    exact canc (K_mul_ne n1 n2) (cross _ _ _ _ _ _ h1.1 h2.1 (id_ax d P.x P.y Q.x Q.y R.x R.y P.on Q.on R.on))
  · have h1 := as2 _ _ _ _ _ d _ _ _ _ (add_ye (add P Q) R) (add_xe P Q) (add_ye P Q)
    have h2 := as4 _ _ _ _ _ d _ _ _ _ (add_ye P (add Q R)) (add_xe Q R) (add_ye Q R)
    have n1 := h1.2 ▸ K_mul_ne (dm_ne (add P Q) R) (K_mul_ne (dp_ne P Q) (dm_ne P Q))
    have n2 := h2.2 ▸ K_mul_ne (dm_ne P (add Q R)) (K_mul_ne (dp_ne Q R) (dm_ne Q R))
    exact canc (K_mul_ne n1 n2) (cross _ _ _ _ _ _ h1.1 h2.1 (id_ay d P.x P.y Q.x Q.y R.x R.y P.on Q.on R.on))
/-- Multiples. -/
def smul (P : Pt) : Nat → Pt
  | 0 => O
  | n + 1 => add (smul P n) P
theorem smul_add (P : Pt) (m n : Nat) : smul P (m + n) = add (smul P m) (smul P n) := by
  induction n with
  | zero => exact (add_O _).symm
  | succ n ih => show add (smul P (m + n)) P = add (smul P m) (add (smul P n) P); rw [ih, add_assoc]
theorem smul_mul (P : Pt) (m n : Nat) : smul P (n * m) = smul (smul P n) m := by
  induction m with
  | zero => rfl
  | succ m ih => rw [Nat.mul_succ, smul_add, ih]; rfl
def base : Pt := ⟨⟨9771384041963202563870679428059935816164187996444183106833894008023910952347, by decide +kernel⟩, ⟨46316835694926478169428394003475163141307993866256225615783033603165251855960, by decide +kernel⟩, by decide +kernel⟩
end Go.Proofs.YtgjdogkciklgkaaDoor.Ed
