/-
  The ladder on the points: two secrets come to one.
-/
import Derived.Test.YtgjdogkciklgkaaDoorEd
import Derived.Test.YtgjdogkciklgkaaDoorRs
import Derived.Test.YtgjdogkciklgkaaDoorRefPub
import Derived.Test.YtgjdogkciklgkaaDoorRSh
namespace Go.Proofs.YtgjdogkciklgkaaDoor.Ed
theorem toK_val (x : Nat) : (toK x).val = x % PR := rfl
theorem toK_add (x y : Nat) : toK (addM x y) = toK x + toK y := by
  apply K_ext
  rw [K_add, toK_val, toK_val, toK_val, addM, Nat.mod_mod, ← Nat.add_mod]
theorem toK_mul (x y : Nat) : toK (mulM x y) = toK x * toK y := by
  apply K_ext
  rw [K_mul, toK_val, toK_val, toK_val, mulM, Nat.mod_mod, ← Nat.mul_mod]
theorem toK_sub (x y : Nat) : toK (subM x y) = toK x - toK y := by
  apply K_ext
  rw [K_sub, toK_val, toK_val, toK_val, subM, Nat.mod_mod, Nat.add_mod_mod, Nat.add_comm]
theorem toK_val' (a : K) : toK a.val = a := K_ext (Nat.mod_eq_of_lt (K_lt a))
theorem toK_mod (x : Nat) : toK (x % PR) = toK x := K_ext (Nat.mod_mod x PR)
theorem toK_one : toK 1 = 1 := by decide +kernel
theorem toK_zero : toK 0 = 0 := rfl
/-- (X : Z) stands for a point whose second coordinate is y. -/
structure Rep (X Z y : K) : Prop where
  ne : ¬ (X = 0 ∧ Z = 0)
  eq : X - Z = y * (X + Z)
theorem rep1 {n : Nat} [NeZero n] (X Z y : Fin n) (h : X - Z = y * (X + Z)) (h0 : X + Z = 0) : X * 2 = 0 ∧ Z * 2 = 0 := by grind
theorem Rep.sum {X Z y : K} (h : Rep X Z y) : X + Z ≠ 0 := by
  intro h0
  have h1 := rep1 X Z y h.eq h0
  exact h.ne ⟨(K_mul0 h1.1).resolve_right K_two, (K_mul0 h1.2).resolve_right K_two⟩
/-- The two formulas of the ladder. -/
def fX2 (X Z : K) : K := ((X + Z) * (X + Z)) * ((X - Z) * (X - Z))
def fE (X Z : K) : K := (X + Z) * (X + Z) - (X - Z) * (X - Z)
def fZ2 (X Z : K) : K := fE X Z * ((X + Z) * (X + Z) + toK 121665 * fE X Z)
def fDA (X2 Z2 X3 Z3 : K) : K := (X3 - Z3) * (X2 + Z2)
def fCB (X2 Z2 X3 Z3 : K) : K := (X3 + Z3) * (X2 - Z2)
def fX3 (X2 Z2 X3 Z3 : K) : K := (fDA X2 Z2 X3 Z3 + fCB X2 Z2 X3 Z3) * (fDA X2 Z2 X3 Z3 + fCB X2 Z2 X3 Z3)
def fZ3 (X2 Z2 X3 Z3 x : K) : K := x * ((fDA X2 Z2 X3 Z3 - fCB X2 Z2 X3 Z3) * (fDA X2 Z2 X3 Z3 - fCB X2 Z2 X3 Z3))
theorem toK_rX2 (x z : Nat) : toK (rX2 x z) = fX2 (toK x) (toK z) := by simp only [rX2, fX2, toK_mul, toK_add, toK_sub]
theorem toK_rE (x z : Nat) : toK (rE x z) = fE (toK x) (toK z) := by simp only [rE, fE, toK_mul, toK_add, toK_sub]
theorem toK_rZ2 (x z : Nat) : toK (rZ2 x z) = fZ2 (toK x) (toK z) := by simp only [rZ2, fZ2, toK_mul, toK_add, toK_rE]
theorem toK_rX3 (x z u v : Nat) : toK (rX3 x z u v) = fX3 (toK x) (toK z) (toK u) (toK v) := by simp only [rX3, fX3, rDA, rCB, fDA, fCB, toK_mul, toK_add, toK_sub]
theorem toK_rZ3 (x z u v q : Nat) : toK (rZ3 x z u v q) = fZ3 (toK x) (toK z) (toK u) (toK v) (toK q) := by simp only [rZ3, fZ3, rDA, rCB, fDA, fCB, toK_mul, toK_add, toK_sub]
/-- Doubling. -/
theorem dbl_id {n : Nat} [NeZero n] (d a x y s t S : Fin n) (hon : x * x + y * y = 1 + d * (x * x) * (y * y)) (ha : d * (1 + a) = a) (h : t * (1 - d * (x * y * x * y)) = y * y - x * x) (hs : s = y * S) :
    (S * S * (s * s) - (S * S - s * s) * (S * S + a * (S * S - s * s))) * (1 - d * (x * y * x * y)) = t * (S * S * (s * s) + (S * S - s * s) * (S * S + a * (S * S - s * s))) * (1 - d * (x * y * x * y)) := by
  subst hs
  grind
theorem dbl_ne {n : Nat} [NeZero n] (a y S : Fin n) (h : (S * S - (y * S) * (y * S)) * (S * S + a * (S * S - (y * S) * (y * S))) = 0) (hy : y = 0) : (S * S) * (S * S) * (1 + a) = 0 := by
  subst hy
  grind
theorem a24 : d * (1 + toK 121665) = toK 121665 := by decide +kernel
theorem a24_ne : (1 + toK 121665 : K) ≠ 0 := by decide +kernel
theorem Rep.dbl {X Z : K} {P : Pt} (h : Rep X Z P.y) : Rep (fX2 X Z) (fZ2 X Z) (add P P).y := by
  have hS := h.sum
  have he := h.eq
  unfold fX2 fZ2 fE
  constructor
  · rintro ⟨h1, h2⟩
    rw [he] at h1 h2
    have hy : P.y = 0 := by
      rcases K_mul0 h1 with g | g
      · rcases K_mul0 g with g | g <;> exact absurd g hS
      · rcases K_mul0 g with g | g <;> exact (K_mul0 g).resolve_right hS
    exact K_mul_ne (K_mul_ne (K_mul_ne hS hS) (K_mul_ne hS hS)) a24_ne (dbl_ne (toK 121665) P.y (X + Z) h2 hy)
  · exact canc (dm_ne P P) (dbl_id d (toK 121665) P.x P.y (X - Z) (add P P).y (X + Z) P.on a24 (add_ye P P) he)
/-- Adding two whose difference is known. -/
theorem dadd_id {n : Nat} [NeZero n] (y2 y3 y5 yd x s2 t2 s3 t3 p m a b : Fin n) (h1 : t2 = y2 * s2) (h2 : t3 = y3 * s3) (hx : x * (1 - yd) = 1 + yd) (h5 : y5 * m = a) (hd : yd * p = b)
    (hid : (m + a) * (p + b) * ((y2 - y3) * (y2 - y3)) = (m - a) * (p - b) * ((y2 + y3) * (y2 + y3))) :
    ((t3 * s2 + s3 * t2) * (t3 * s2 + s3 * t2) - x * ((t3 * s2 - s3 * t2) * (t3 * s2 - s3 * t2))) * (m * p * (1 - yd)) = y5 * ((t3 * s2 + s3 * t2) * (t3 * s2 + s3 * t2) + x * ((t3 * s2 - s3 * t2) * (t3 * s2 - s3 * t2))) * (m * p * (1 - yd)) := by
  subst h1 h2 h5 hd
  grind

theorem K_sq0 {a : K} (h : a * a = 0) : a = 0 := (K_mul0 h).elim id id
theorem dadd_sum {n : Nat} [NeZero n] (y2 y3 s2 t2 s3 t3 : Fin n) (h1 : t2 = y2 * s2) (h2 : t3 = y3 * s3) : t3 * s2 + s3 * t2 = (y3 + y2) * (s2 * s3) ∧ t3 * s2 - s3 * t2 = (y3 - y2) * (s2 * s3) := by
  subst h1 h2
  grind
theorem dadd_y0 {n : Nat} [NeZero n] (y2 y3 : Fin n) (h1 : y3 + y2 = 0) (h2 : y3 - y2 = 0) : y2 * 2 = 0 ∧ y3 * 2 = 0 := by grind
theorem dadd_q {n : Nat} [NeZero n] (d x2 y2 x3 y3 yd : Fin n) (h2 : x2 * x2 + y2 * y2 = 1 + d * (x2 * x2) * (y2 * y2)) (h3 : x3 * x3 + y3 * y3 = 1 + d * (x3 * x3) * (y3 * y3)) (hy2 : y2 = 0) (hy3 : y3 = 0) (hd : yd * (1 + d * (x2 * y2 * x3 * y3)) = y2 * y3 + x2 * x3) : (1 - yd) * (1 + yd) = 0 := by
  subst hy2 hy3
  grind
theorem one_pm {n : Nat} [NeZero n] (y : Fin n) (h : 1 - y = 0) : 1 + y = 2 := by grind
theorem zero_x {n : Nat} [NeZero n] (x y : Fin n) (h : x * (1 - y) = 1 + y) (hx : x = 0) : 1 + y = 0 := by subst hx; grind
theorem dbl_mul {n : Nat} [NeZero n] (x y : Fin n) (h : x * (1 - y) = 1 + y) (h1 : 1 - y = 0) : (2 : Fin n) = 0 := by grind
theorem neg_dt {n : Nat} [NeZero n] (d x2 y2 x3 y3 y : Fin n) (h : y * (1 - d * (x3 * y3 * -x2 * y2)) = y3 * y2 - x3 * -x2) : y * (1 + d * (x2 * y2 * x3 * y3)) = y2 * y3 + x2 * x3 := by grind
theorem Rep.dadd {X2 Z2 X3 Z3 x : K} {P R Q : Pt} (h2 : Rep X2 Z2 P.y) (h3 : Rep X3 Z3 R.y) (hq : add R (neg P) = Q) (hx : x * (1 - Q.y) = 1 + Q.y) (hx0 : x ≠ 0) : Rep (fX3 X2 Z2 X3 Z3) (fZ3 X2 Z2 X3 Z3 x) (add P R).y := by
  have hq1 : 1 - Q.y ≠ 0 := fun h => K_two (dbl_mul x Q.y hx h)
  have hq2 : 1 + Q.y ≠ 0 := fun h => by rw [h] at hx; exact (K_mul0 hx).elim hx0 hq1
  have hd := neg_dt d P.x P.y R.x R.y Q.y (by have := add_ye R (neg P); rw [hq] at this; exact this)
  have h5 := add_ye P R
  unfold fX3 fZ3 fDA fCB
  constructor
  · rintro ⟨a1, a2⟩
    have e := dadd_sum P.y R.y (X2 + Z2) (X2 - Z2) (X3 + Z3) (X3 - Z3) h2.eq h3.eq
    have s0 := K_mul_ne h2.sum h3.sum
    rw [e.1] at a1
    rw [e.2] at a2
    have b1 := (K_mul0 (K_sq0 a1)).resolve_right s0
    have b2 := (K_mul0 (K_sq0 ((K_mul0 a2).resolve_left hx0))).resolve_right s0
    have c := dadd_y0 _ _ b1 b2
    exact K_mul_ne hq1 hq2 (dadd_q d P.x P.y R.x R.y Q.y P.on R.on ((K_mul0 c.1).resolve_right K_two) ((K_mul0 c.2).resolve_right K_two) hd)
  · have m1 : 1 - dt P R ≠ 0 := dm_ne P R
    have p1 : 1 + dt P R ≠ 0 := dp_ne P R
    exact canc (K_mul_ne (K_mul_ne m1 p1) hq1) (dadd_id P.y R.y (add P R).y Q.y x (X2 + Z2) (X2 - Z2) (X3 + Z3) (X3 - Z3) (1 + dt P R) (1 - dt P R) _ _ h2.eq h3.eq hx h5 hd (id_dadd d P.x P.y R.x R.y P.on R.on))
/-- The number that the bits spell, from the top. -/
def nTo (bit : Nat → Nat) : Nat → Nat
  | 0 => 0
  | k + 1 => 2 * nTo bit k + bit (254 - k)
structure Lad (Q : Pt) (m : Nat) (p : Nat × Nat × Nat × Nat) : Prop where
  lo : Rep (toK p.1) (toK p.2.1) (smul Q m).y
  hi : Rep (toK p.2.2.1) (toK p.2.2.2) (smul Q (m + 1)).y
theorem smul_one (Q : Pt) : smul Q 1 = Q := by show add O Q = Q; rw [add_comm, add_O]
theorem smul_diff (Q : Pt) (m : Nat) : add (smul Q (m + 1)) (neg (smul Q m)) = Q := by
  show add (add (smul Q m) Q) (neg (smul Q m)) = Q
  rw [add_comm (smul Q m) Q, add_assoc, add_neg', add_O]
theorem smul_diff' (Q : Pt) (m : Nat) : add (smul Q m) (neg (smul Q (m + 1))) = neg Q := by
  have h := add_neg' (smul Q (m + 1))
  have : add Q (add (smul Q m) (neg (smul Q (m + 1)))) = O := by
    rw [← add_assoc, add_comm Q]
    exact h
  calc add (smul Q m) (neg (smul Q (m + 1))) = add (add (neg Q) Q) (add (smul Q m) (neg (smul Q (m + 1)))) := by rw [add_comm (neg Q), add_neg', add_comm O, add_O]
    _ = add (neg Q) (add Q (add (smul Q m) (neg (smul Q (m + 1))))) := add_assoc _ _ _
    _ = neg Q := by rw [this, add_O]
theorem rep0 {n : Nat} [NeZero n] : (1 : Fin n) - 0 = 1 * (1 + 0) := by grind
theorem rep_q {n : Nat} [NeZero n] (x y : Fin n) (h : x * (1 - y) = 1 + y) : x - 1 = y * (x + 1) := by grind
theorem lad_ok (bit : Nat → Nat) (hb : ∀ i, bit i < 2) (Q : Pt) (x : Nat) (hx : toK x * (1 - Q.y) = 1 + Q.y) (hx0 : toK x ≠ 0) (k : Nat) : Lad Q (nTo bit k) (ladTo bit x k) := by
  induction k with
  | zero =>
    constructor
    · refine ⟨fun h => K_one_ne (by rw [← toK_one]; exact h.1), ?_⟩
      show toK 1 - toK 0 = O.y * (toK 1 + toK 0)
      rw [toK_one, toK_zero]
      exact rep0
    · refine ⟨fun h => K_one_ne (by rw [← toK_one]; exact h.2), ?_⟩
      show toK x - toK 1 = (smul Q 1).y * (toK x + toK 1)
      rw [toK_one, smul_one]
      exact rep_q _ _ hx
  | succ k ih =>
    have hbk := hb (254 - k)
    have hx' : toK x * (1 - (neg Q).y) = 1 + (neg Q).y := hx
    show Lad Q (2 * nTo bit k + bit (254 - k)) (stepL (bit (254 - k)) x (ladTo bit x k))
    generalize nTo bit k = m at *
    generalize ladTo bit x k = p at *
    generalize bit (254 - k) = b at *
    have e0 : smul Q (2 * m) = add (smul Q m) (smul Q m) := by rw [Nat.two_mul, smul_add]
    have e1 : smul Q (2 * m + 1) = add (smul Q m) (smul Q (m + 1)) := by rw [Nat.two_mul, Nat.add_assoc, smul_add]
    have e2 : smul Q (2 * m + 2) = add (smul Q (m + 1)) (smul Q (m + 1)) := by rw [← smul_add]; congr 1; omega
    unfold stepL
    split
    · next h1 =>
      subst h1
      constructor
      · show Rep (toK (rX3 _ _ _ _)) (toK (rZ3 _ _ _ _ _)) (smul Q (2 * m + 1)).y
        rw [toK_rX3, toK_rZ3, e1, add_comm]
        exact Rep.dadd ih.hi ih.lo (smul_diff' Q m) hx' hx0
      · show Rep (toK (rX2 _ _)) (toK (rZ2 _ _)) (smul Q (2 * m + 2)).y
        rw [toK_rX2, toK_rZ2, e2]
        exact ih.hi.dbl
    · next h1 =>
      obtain rfl : b = 0 := by omega
      constructor
      · show Rep (toK (rX2 _ _)) (toK (rZ2 _ _)) (smul Q (2 * m)).y
        rw [toK_rX2, toK_rZ2, e0]
        exact ih.lo.dbl
      · show Rep (toK (rX3 _ _ _ _)) (toK (rZ3 _ _ _ _ _)) (smul Q (2 * m + 1)).y
        rw [toK_rX3, toK_rZ3, e1]
        exact Rep.dadd ih.lo ih.hi (smul_diff Q m) hx hx0
/-- The first coordinate on the other curve: 0 for the neutral point. -/
def U (P : Pt) : K := (1 + P.y) * inv (1 - P.y)
theorem u1 {n : Nat} [NeZero n] (X Z y : Fin n) (h : X - Z = y * (X + Z)) : X * (1 - y) = Z * (1 + y) := by grind
theorem u2 {n : Nat} [NeZero n] (X Z y i j : Fin n) (h : X * (1 - y) = Z * (1 + y)) (h1 : Z * i = 1) (h2 : (1 - y) * j = 1) : X * i = (1 + y) * j := by grind
theorem u3 {n : Nat} [NeZero n] (Z y : Fin n) (h : 0 = Z * (1 + y)) (h1 : 1 - y = 0) : Z * 2 = 0 := by grind
theorem mul_z {n : Nat} [NeZero n] (a : Fin n) : a * 0 = 0 := by grind
theorem Rep.u {X Z : K} {P : Pt} (h : Rep X Z P.y) : X * inv Z = U P := by
  have e := u1 X Z P.y h.eq
  unfold U
  by_cases hz : Z = 0
  · have hX : X ≠ 0 := fun g => h.ne ⟨g, hz⟩
    rw [hz, Fin.zero_mul] at e
    have := (K_mul0 e).resolve_left hX
    rw [hz, this, inv_zero, mul_z, mul_z]
  · have hy : 1 - P.y ≠ 0 := by
      intro h1
      rw [h1, mul_z] at e
      exact K_mul_ne hz K_two (u3 Z P.y e h1)
    exact u2 _ _ _ _ _ e (inv_mul hz) (inv_mul hy)
/-- The inverse by the program's chain. -/
def eTo : Nat → Nat
  | 0 => 0
  | k + 1 => if 254 - k = 2 ∨ 254 - k = 4 then 2 * eTo k else 2 * eTo k + 1
theorem ivTo_pow (x k : Nat) : ivTo x k = x ^ eTo k % PR := by
  induction k with
  | zero => show 1 = 1 % PR; decide +kernel
  | succ k ih =>
    rw [ivTo, eTo, ih]
    split
    · rw [mulM, ← Nat.mul_mod, ← Nat.pow_add, Nat.two_mul]
    · rw [mulM, mulM, ← Nat.mul_mod, ← Nat.pow_add, Nat.mod_mul_mod, ← Nat.pow_succ, Nat.two_mul]
theorem eTo_end : eTo 255 = PR - 2 := by decide +kernel
theorem toK_pw (x e : Nat) : toK (x ^ e % PR) = pwK e (toK x) := by
  apply K_ext
  show (x ^ e % PR) % PR = (x % PR) ^ e % PR
  rw [Nat.mod_mod, ← Nat.pow_mod]
theorem toK_iv (x : Nat) : toK (ivTo x 255) = inv (toK x) := by
  rw [ivTo_pow, eTo_end, toK_pw]
  rfl
/-- The plain answer as a number. -/
def xN (bit : Nat → Nat) (x : Nat) : Nat := mulM (ladTo bit x 255).1 (ivTo (ladTo bit x 255).2.1 255)
theorem xN_toK (bit : Nat → Nat) (x : Nat) : toK (xN bit x) = toK (ladTo bit x 255).1 * inv (toK (ladTo bit x 255).2.1) := by
  rw [xN, toK_mul, toK_iv]
theorem xN_ok (bit : Nat → Nat) (hb : ∀ i, bit i < 2) (Q : Pt) (x : Nat) (hx : toK x * (1 - Q.y) = 1 + Q.y) (hx0 : toK x ≠ 0) : toK (xN bit x) = U (smul Q (nTo bit 255)) := by
  rw [xN_toK]
  exact (lad_ok bit hb Q x hx hx0 255).lo.u
/-- From the point 0 an even number leads to 0. -/
theorem z_E {n : Nat} [NeZero n] (X Z : Fin n) (h : X * Z = 0) : (X + Z) * (X + Z) - (X - Z) * (X - Z) = 0 := by grind
theorem z_mul {n : Nat} [NeZero n] (a : Fin n) : 0 * a = 0 := by grind
theorem fZ2_zero {X Z : K} (h : X * Z = 0) : fZ2 X Z = 0 := by unfold fZ2 fE; rw [z_E X Z h, z_mul]
theorem fZ3_zero (X2 Z2 X3 Z3 : K) : fZ3 X2 Z2 X3 Z3 0 = 0 := by unfold fZ3; exact z_mul _
theorem lad_zero (bit : Nat → Nat) (x : Nat) (hx : toK x = 0) (k : Nat) : toK (ladTo bit x k).1 * toK (ladTo bit x k).2.1 = 0 ∧ toK (ladTo bit x k).2.2.1 * toK (ladTo bit x k).2.2.2 = 0 := by
  induction k with
  | zero =>
    constructor
    · show toK 1 * toK 0 = 0
      rw [toK_zero, mul_z]
    · show toK x * toK 1 = 0
      rw [hx, z_mul]
  | succ k ih =>
    show toK (stepL (bit (254 - k)) x (ladTo bit x k)).1 * toK (stepL (bit (254 - k)) x (ladTo bit x k)).2.1 = 0 ∧ toK (stepL (bit (254 - k)) x (ladTo bit x k)).2.2.1 * toK (stepL (bit (254 - k)) x (ladTo bit x k)).2.2.2 = 0
    generalize ladTo bit x k = p at *
    unfold stepL
    split
    · constructor
      · show toK (rX3 _ _ _ _) * toK (rZ3 _ _ _ _ _) = 0
        rw [toK_rZ3, hx, fZ3_zero, mul_z]
      · show toK (rX2 _ _) * toK (rZ2 _ _) = 0
        rw [toK_rZ2, fZ2_zero ih.2, mul_z]
    · constructor
      · show toK (rX2 _ _) * toK (rZ2 _ _) = 0
        rw [toK_rZ2, fZ2_zero ih.1, mul_z]
      · show toK (rX3 _ _ _ _) * toK (rZ3 _ _ _ _ _) = 0
        rw [toK_rZ3, hx, fZ3_zero, mul_z]
theorem xN_zero (bit : Nat → Nat) (h0 : bit 0 = 0) (x : Nat) (hx : toK x = 0) : toK (xN bit x) = 0 := by
  rw [xN_toK]
  have h := (lad_zero bit x hx 254).1
  have : toK (ladTo bit x 255).2.1 = 0 := by
    show toK (stepL (bit (254 - 254)) x (ladTo bit x 254)).2.1 = 0
    rw [Nat.sub_self, h0]
    show toK (rZ2 _ _) = 0
    rw [toK_rZ2, fZ2_zero h]
  rw [this, inv_zero, mul_z]
theorem u_one {n : Nat} [NeZero n] (y j : Fin n) (h : (1 - y) * j = 1) : (1 + y) * j * (1 - y) = 1 + y := by grind
theorem O_y : 1 - O.y = 0 := by decide +kernel
theorem U_O : U O = 0 := by unfold U; rw [O_y, inv_zero, mul_z]
theorem smul_O (m : Nat) : smul O m = O := by
  induction m with
  | zero => rfl
  | succ m ih => show add (smul O m) O = O; rw [ih, add_O]
theorem t_x {n : Nat} [NeZero n] (d x y : Fin n) (h : x * x + y * y = 1 + d * (x * x) * (y * y)) (hy : 1 + y = 0) : x * x * (1 - d) = 0 := by grind
theorem t_dbl {n : Nat} [NeZero n] (d y : Fin n) (x : Fin n) (hx : x = 0) (hy : 1 + y = 0) : 0 * (1 + d * (x * y * x * y)) = x * y + y * x ∧ 1 * (1 - d * (x * y * x * y)) = y * y - x * x := by subst hx; grind
theorem d_one : 1 - d ≠ 0 := by decide +kernel
theorem two_T (P : Pt) (h : 1 + P.y = 0) : add P P = O := by
  have hx := K_sq0 ((K_mul0 (t_x d P.x P.y P.on h)).resolve_right d_one)
  have := t_dbl d P.y P.x hx h
  exact add_is P P O this.1 this.2
theorem y_one {n : Nat} [NeZero n] (d x y : Fin n) (h : x * x + y * y = 1 + d * (x * x) * (y * y)) (hy : 1 - y = 0) : x * x * (1 - d) = 0 := by grind
theorem U_zero (P : Pt) (h : U P = 0) (m : Nat) : smul P (2 * m) = O := by
  have h2 : add P P = O := by
    by_cases h1 : 1 - P.y = 0
    · have hx := K_sq0 ((K_mul0 (y_one d P.x P.y P.on h1)).resolve_right d_one)
      have : P = O := Pt.ext' hx (sub0 _ _ (by
        show P.y - 1 = 0
        have := sub0 _ _ h1
        rw [← this]
        exact Fin.sub_self))
      rw [this, add_O]
    · have hi := inv_mul h1
      rcases K_mul0 h with g | g
      · exact two_T P g
      · rw [g, mul_z] at hi
        exact absurd hi.symm K_one_ne
  rw [smul_mul]
  show smul (add (add O P) P) m = O
  rw [add_comm O P, add_O, h2, smul_O]
/-- A multiple of a point, asked by its coordinate. -/
theorem xN_U (bit : Nat → Nat) (hb : ∀ i, bit i < 2) (h0 : bit 0 = 0) (P : Pt) (x : Nat) (hx : toK x = U P) : toK (xN bit x) = U (smul P (nTo bit 255)) := by
  by_cases hz : U P = 0
  · rw [xN_zero bit h0 x (hx.trans hz)]
    have : nTo bit 255 = 2 * nTo bit 254 := by
      show 2 * nTo bit 254 + bit (254 - 254) = _
      rw [Nat.sub_self, h0]
      rfl
    rw [this, U_zero P hz, U_O]
  · have h1 : 1 - P.y ≠ 0 := by
      intro h
      apply hz
      unfold U
      rw [h, inv_zero, mul_z]
    refine xN_ok bit hb P x ?_ (by rw [hx]; exact hz)
    rw [hx]
    exact u_one P.y (inv (1 - P.y)) (inv_mul h1)
theorem U_base : toK 9 = U base := by
  have h : toK 9 * (1 - base.y) = 1 + base.y := by decide +kernel
  have h1 : 1 - base.y ≠ 0 := by decide +kernel
  refine canc h1 (h.trans ?_)
  exact (u_one base.y (inv (1 - base.y)) (inv_mul h1)).symm
theorem agree (a b : Nat → Nat) (ha : ∀ i, a i < 2) (hb : ∀ i, b i < 2) (ha0 : a 0 = 0) (hb0 : b 0 = 0) : xN a (xN b 9) = xN b (xN a 9) := by
  have h1 := xN_U a ha ha0 _ _ (xN_U b hb hb0 base 9 U_base)
  have h2 := xN_U b hb hb0 _ _ (xN_U a ha ha0 base 9 U_base)
  rw [← smul_mul] at h1 h2
  rw [Nat.mul_comm] at h2
  have h3 : toK (xN a (xN b 9)) = toK (xN b (xN a 9)) := h1.trans h2.symm
  have h4 := congrArg Fin.val h3
  rw [toK_val, toK_val] at h4
  rwa [Nat.mod_eq_of_lt (show xN a (xN b 9) < PR from mulM_lt _ _), Nat.mod_eq_of_lt (show xN b (xN a 9) < PR from mulM_lt _ _)] at h4
end Go.Proofs.YtgjdogkciklgkaaDoor.Ed
namespace Go.Proofs.YtgjdogkciklgkaaDoor
open Go.RowKit

theorem byteAt_outB (v j : Nat) (hj : j < 32) : byteAt (outB v) j = grp 8 (vbit v) 255 j := by
  have hlt : grp 8 (vbit v) 255 j < 256 := by
    unfold grp
    have h := sumB_lt 2 (by decide) (fun t => vbit v (8 * j + t)) (min 8 (255 - 8 * j)) (fun i _ => vbit_lt _ _)
    have h2 : (2 : Nat) ^ (min 8 (255 - 8 * j)) ≤ 2 ^ 8 := Nat.pow_le_pow_right (by decide) (Nat.min_le_left _ _)
    omega
  generalize hg : grp 8 (vbit v) 255 = g at *
  unfold byteAt outB
  rw [hg]
  simp [tab, hj]
  omega
theorem sbit_outB (v i : Nat) (hi : i < 255) : sbit (outB v) i = vbit v i := by
  unfold sbit
  rw [byteAt_outB v (i / 8) (by omega)]
  unfold grp
  rw [sumB_digit 2 (fun t => vbit v (8 * (i / 8) + t)) _ (i % 8) (by omega) (fun j _ => vbit_lt _ _), Nat.div_add_mod]
theorem sumB_vbit (v n : Nat) : sumB 2 (vbit v) n = v % 2 ^ n := by
  induction n with
  | zero => rw [Nat.pow_zero, Nat.mod_one]; rfl
  | succ n ih =>
    rw [Nat.mod_pow_succ, ← ih]
    simp only [sumB]
    rw [Nat.mul_comm]
    rfl
theorem UV_outB (v : Nat) (hv : v < PR) : UV (outB v) % PR = v := by
  unfold UV
  rw [sumB_congr 2 255 (fun i hi => sbit_outB v i hi), sumB_vbit]
  have h : PR < 2 ^ 255 := by decide +kernel
  rw [Nat.mod_eq_of_lt (show v < 2 ^ 255 by omega), Nat.mod_eq_of_lt hv]
theorem UV_nine : UV nine % PR = 9 := by decide +kernel
theorem x25519_xN (s q : List UInt8) : x25519 s q = outB (Ed.xN (cbit s) (UV q % PR)) := rfl
theorem cbit_zero (s : List UInt8) : cbit s 0 = 0 := rfl
theorem agreeEq (a b : List UInt8) : x25519 a (x25519 b nine) = x25519 b (x25519 a nine) := by
  simp only [x25519_xN]
  rw [UV_nine, UV_outB _ (show Ed.xN (cbit b) 9 < PR from mulM_lt _ _), UV_outB _ (show Ed.xN (cbit a) 9 < PR from mulM_lt _ _),
    Ed.agree (cbit a) (cbit b) (cbit_lt a) (cbit_lt b) (cbit_zero a) (cbit_zero b)]
end Go.Proofs.YtgjdogkciklgkaaDoor
namespace Go.Proofs.YtgjdogkciklgkaaDoor
open Go.RowKit

theorem ba_loop (b : ByteArray) : ∀ (k i : Nat) (r : List UInt8), b.size - i = k → (ByteArray.toList.loop b i r).length = k + r.length := by
  intro k
  induction k with
  | zero => intro i r h; rw [ByteArray.toList.loop, if_neg (by omega), List.length_reverse]; omega
  | succ k ih => intro i r h; rw [ByteArray.toList.loop, if_pos (by omega), ih (i + 1) _ (by omega), List.length_cons]; omega
theorem ba_length (b : ByteArray) : b.toList.length = b.size := by
  unfold ByteArray.toList
  rw [ba_loop b b.size 0 [] rfl]
  rfl
theorem ba_ne (b : ByteArray) (h : b.size = 32) : ¬ b.toList = [] := by
  intro e
  have := ba_length b
  rw [e, h] at this
  cases this
theorem ba_em (b : ByteArray) (h : b.size = 32) : b.toList.isEmpty = false := by
  rw [List.isEmpty_eq_false_iff]
  exact ba_ne b h

set_option maxRecDepth 100000 in
set_option maxHeartbeats 1000000 in
theorem agreeGood (s t : List UInt8) (hs : s.length = 32) (ht : t.length = 32) (w : World) :
    Calls Tryd.prog 7 #[.string (str s), .string (str t)] w fun e w' => e = .returned (.bool true) ∧ Bel w.heap.size w w' := by
  have zs := str_size s
  have zt := str_size t
  have HP : Hid (x25519 s (x25519 t nine) = x25519 t (x25519 s nine)) := agreeEq s t
  have l1 := x25519_length s nine
  have l2 := x25519_length t nine
  have l3 := x25519_length s (x25519 t nine)
  have l4 := x25519_length t (x25519 s nine)
  go_enter Tryd.func7, Tryd.ntmps7
  go_wp2_with fail
  refine (rPublicGood s hs _).mono ?_
  rintro e w1 ⟨rfl, hb1⟩
  have HB1 := hide hb1
  clear hb1
  generalize x25519 s nine = p at *
  have zp := str_size p
  go_wp2_with fail
  refine (rPublicGood t ht _).mono ?_
  rintro e w2 ⟨rfl, hb2⟩
  have HB2 := hide (HB1.out.trans (hb2.mono HB1.out.size))
  clear hb2 HB1
  generalize x25519 t nine = q at *
  have zq := str_size q
  go_wp2_with fail
  refine (rSharedGood s q hs l2 _).mono ?_
  rintro e w3 ⟨rfl, hb3⟩
  have HB3 := hide (HB2.out.trans (hb3.mono HB2.out.size))
  clear hb3 HB2
  generalize hx : x25519 s q = x at *
  have HX := hide hx
  clear hx
  have zx := str_size x
  go_wp2_with fail
  refine (rSharedGood t p ht l1 _).mono ?_
  rintro e w4 ⟨rfl, hb4⟩
  have HB4 := hide (HB3.out.trans (hb4.mono HB3.out.size))
  clear hb4 HB3
  rw [← HP.out]
  go_wp2
  go_ret
  exact ⟨rfl, HB4.out⟩

set_option maxRecDepth 100000 in
set_option maxHeartbeats 1000000 in
theorem agreeBB (s t : List UInt8) (hs : s.length ≠ 32) (ht : t.length ≠ 32) (ms : s.length ≤ maxLen) (mt : t.length ≤ maxLen) (a : Nat → Addr) (w : World) (hE : Errs w a) :
    Calls Tryd.prog 7 #[.string (str s), .string (str t)] w fun e w' => e = .returned (.bool true) ∧ Bel w.heap.size w w' := by
  have zs := str_size s
  have zt := str_size t
  have HE := hide hE
  clear hE
  have ms' : s.length ≤ 9223372036854775807 := by unfold maxLen at ms; omega
  have bs : ((s.length : Int) != 32) = true := by rw [bne_iff_ne]; omega
  have mt' : t.length ≤ 9223372036854775807 := by unfold maxLen at mt; omega
  have bt : ((t.length : Int) != 32) = true := by rw [bne_iff_ne]; omega
  have MS := hide ms
  clear ms
  have MT := hide mt
  clear mt
  go_enter Tryd.func7, Tryd.ntmps7
  go_wp2_with fail
  refine (rPublicBad s hs MS.out (a 1) _ HE.out.g1).mono ?_
  rintro e w1 ⟨rfl, hb1⟩
  have HB1 := hide hb1
  have HE1 := hide (HE.out.below hb1)
  clear hb1 HE
  go_wp2_with fail
  refine (rPublicBad t ht MT.out (a 1) _ HE1.out.g1).mono ?_
  rintro e w2 ⟨rfl, hb2⟩
  have HB2 := hide (HB1.out.trans (hb2.mono HB1.out.size))
  have HE2 := hide (HE1.out.below hb2)
  clear hb2 HB1 HE1
  go_wp2_with fail
  refine (code_at 1 (by decide) a _ HE2.out).mono ?_
  rintro e w3 ⟨rfl, rfl⟩
  have HB3 : Hid (Bel w.heap.size w (w2.alloc (.cells (errList a) 23))) := HB2.out.alloc HB2.out.size _
  have HE3 : Hid (Errs (w2.alloc (.cells (errList a) 23)) a) := HE2.out.below ((Bel.refl _ _).alloc (Nat.le_refl _) _)
  generalize w2.alloc (.cells (errList a) 23) = w3 at *
  go_wp2_with fail
  refine (code_at 1 (by decide) a _ HE3.out).mono ?_
  rintro e w4 ⟨rfl, rfl⟩
  go_wp2
  go_ret
  exact ⟨rfl, HB3.out.alloc HB3.out.size _⟩

set_option maxRecDepth 100000 in
set_option maxHeartbeats 1000000 in
theorem agreeBG (s t : List UInt8) (hs : s.length ≠ 32) (ht : t.length = 32) (ms : s.length ≤ maxLen) (a : Nat → Addr) (w : World) (hE : Errs w a) :
    Calls Tryd.prog 7 #[.string (str s), .string (str t)] w fun e w' => e = .returned (.bool true) ∧ Bel w.heap.size w w' := by
  have zs := str_size s
  have zt := str_size t
  have HE := hide hE
  clear hE
  have ms' : s.length ≤ 9223372036854775807 := by unfold maxLen at ms; omega
  have bs : ((s.length : Int) != 32) = true := by rw [bne_iff_ne]; omega
  have l2 := x25519_length t nine
  have MS := hide ms
  clear ms
  go_enter Tryd.func7, Tryd.ntmps7
  go_wp2_with fail
  refine (rPublicBad s hs MS.out (a 1) _ HE.out.g1).mono ?_
  rintro e w1 ⟨rfl, hb1⟩
  have HB1 := hide hb1
  have HE1 := hide (HE.out.below hb1)
  clear hb1 HE
  go_wp2_with fail
  refine (rPublicGood t ht _).mono ?_
  rintro e w2 ⟨rfl, hb2⟩
  have HB2 := hide (HB1.out.trans (hb2.mono HB1.out.size))
  have HE2 := hide (HE1.out.below hb2)
  clear hb2 HB1 HE1
  generalize x25519 t nine = q at *
  have zq := str_size q
  have nq := ba_ne (str q) (by omega)
  have mq := ba_em (str q) (by omega)
  go_wp2_with fail
  refine (code_at 1 (by decide) a _ HE2.out).mono ?_
  rintro e w3 ⟨rfl, rfl⟩
  have HB3 : Hid (Bel w.heap.size w (w2.alloc (.cells (errList a) 23))) := HB2.out.alloc HB2.out.size _
  have HE3 : Hid (Errs (w2.alloc (.cells (errList a) 23)) a) := HE2.out.below ((Bel.refl _ _).alloc (Nat.le_refl _) _)
  generalize w2.alloc (.cells (errList a) 23) = w3 at *
  go_wp2
  go_ret
  exact ⟨rfl, HB3.out⟩

set_option maxRecDepth 100000 in
set_option maxHeartbeats 1000000 in
theorem agreeGB (s t : List UInt8) (hs : s.length = 32) (ht : t.length ≠ 32) (mt : t.length ≤ maxLen) (a : Nat → Addr) (w : World) (hE : Errs w a) :
    Calls Tryd.prog 7 #[.string (str s), .string (str t)] w fun e w' => e = .returned (.bool true) ∧ Bel w.heap.size w w' := by
  have zs := str_size s
  have zt := str_size t
  have HE := hide hE
  clear hE
  have mt' : t.length ≤ 9223372036854775807 := by unfold maxLen at mt; omega
  have bt : ((t.length : Int) != 32) = true := by rw [bne_iff_ne]; omega
  have l1 := x25519_length s nine
  have MT := hide mt
  clear mt
  go_enter Tryd.func7, Tryd.ntmps7
  go_wp2_with fail
  refine (rPublicGood s hs _).mono ?_
  rintro e w1 ⟨rfl, hb1⟩
  have HB1 := hide hb1
  have HE1 := hide (HE.out.below hb1)
  clear hb1 HE
  generalize x25519 s nine = p at *
  have zp := str_size p
  have np := ba_ne (str p) (by omega)
  have mp := ba_em (str p) (by omega)
  go_wp2_with fail
  refine (rPublicBad t ht MT.out (a 1) _ HE1.out.g1).mono ?_
  rintro e w2 ⟨rfl, hb2⟩
  have HB2 := hide (HB1.out.trans (hb2.mono HB1.out.size))
  have HE2 := hide (HE1.out.below hb2)
  clear hb2 HB1 HE1
  go_wp2_with fail
  refine (code_at 1 (by decide) a _ HE2.out).mono ?_
  rintro e w3 ⟨rfl, rfl⟩
  go_wp2
  go_ret
  exact ⟨rfl, HB2.out.alloc HB2.out.size _⟩

theorem agreeAny (s t : List UInt8) (ms : s.length ≤ maxLen) (mt : t.length ≤ maxLen) (a : Nat → Addr) (w : World) (hE : Errs w a) :
    Calls Tryd.prog 7 #[.string (str s), .string (str t)] w fun e w' => e = .returned (.bool true) ∧ Bel w.heap.size w w' := by
  by_cases hs : s.length = 32
  · by_cases ht : t.length = 32
    · exact agreeGood s t hs ht w
    · exact agreeGB s t hs ht mt a w hE
  · by_cases ht : t.length = 32
    · exact agreeBG s t hs ht ms a w hE
    · exact agreeBB s t hs ht ms mt a w hE
end Go.Proofs.YtgjdogkciklgkaaDoor
