/-
  What is sent is received: parties as plain data.
-/
import Derived.Test.YtgjdogkciklgkaaDoorPc
import Derived.Test.YtgjdogkciklgkaaDoorSl
import Derived.Test.YtgjdogkciklgkaaDoorAg
namespace Go.Proofs.YtgjdogkciklgkaaDoor
open Go.RowKit

theorem head_len (st : PSt) : (hdL st).length = 36 := by unfold hdL; rw [List.length_append, List.length_append, x25519_length, bigB_length, bigB_length]
theorem frame_len (st : PSt) (ad t : List UInt8) : (frameL st ad t).length = 52 + t.length := by unfold frameL; rw [List.length_append, head_len, sealL_length]; omega
theorem frame_take36 (st : PSt) (ad t : List UInt8) : (frameL st ad t).take 36 = hdL st := by
  unfold frameL; rw [← head_len st, List.take_left]
theorem frame_drop36 (st : PSt) (ad t : List UInt8) : (frameL st ad t).drop 36 = sealL (mkK st.sk) (ad ++ hdL st) t := by
  have h := head_len st
  unfold frameL
  generalize hdL st = x at *
  rw [← h, List.drop_left]
theorem frame_take32 (st : PSt) (ad t : List UInt8) : (frameL st ad t).take 32 = x25519 st.secret nine := by
  unfold frameL hdL
  rw [List.append_assoc, List.append_assoc]
  have h := x25519_length st.secret nine
  generalize x25519 st.secret nine = x at *
  rw [← h, List.take_left]
theorem bigB2 (n : Nat) : bigB n 2 = [UInt8.ofNat (n / 256), UInt8.ofNat n] := by
  simp [bigB]
theorem two_of (a r : List UInt8) (n : Nat) (hn : n < 65536) : two (a ++ (bigB n 2 ++ r)) a.length = n := by
  unfold two
  rw [byteAt_append_right a (bigB n 2 ++ r) _ (Nat.le_refl _), byteAt_append_right a (bigB n 2 ++ r) (a.length + 1) (by omega), Nat.sub_self, show a.length + 1 - a.length = 1 by omega, bigB2]
  show (UInt8.ofNat (n / 256)).toNat * 256 + (UInt8.ofNat n).toNat = n
  rw [UInt8.toNat_ofNat', UInt8.toNat_ofNat']
  omega
theorem frame_two32 (st : PSt) (ad t : List UInt8) (h : st.before < 65536) : two (frameL st ad t) 32 = st.before := by
  unfold frameL hdL
  have hl := x25519_length st.secret nine
  generalize x25519 st.secret nine = x at *
  rw [List.append_assoc, List.append_assoc, ← hl]
  exact two_of _ _ _ h
theorem frame_two34 (st : PSt) (ad t : List UInt8) (h : st.sn < 65536) : two (frameL st ad t) 34 = st.sn := by
  unfold frameL hdL
  have hl := x25519_length st.secret nine
  generalize x25519 st.secret nine = x at *
  rw [List.append_assoc, show (34 : Nat) = (x ++ bigB st.before 2).length by rw [List.length_append, hl, bigB_length]]
  exact two_of _ _ _ h

theorem recv_plan (st S : PSt) (ad t draw : List UInt8) (ha : ad.length ≤ 32) (ht : t.length ≤ 64) (hd : draw.length = 32) (hb : S.before < 65536) (hn : S.sn < 65536) :
    recvL st ad (frameL S ad t) draw = match planL st (x25519 S.secret nine) S.before S.sn draw with
      | .error e => .error e
      | .ok (key, st') => if goodTag key (ad ++ hdL S) (sealL (mkK S.sk) (ad ++ hdL S) t) then .ok (boxL (k1 key) ((sealL (mkK S.sk) (ad ++ hdL S) t).take ((sealL (mkK S.sk) (ad ++ hdL S) t).length - 16)), st') else .error 3 := by
  have hl := frame_len S ad t
  unfold recvL
  rw [if_neg (by omega), if_neg (by omega), if_neg (by omega), frame_take32, frame_two32 _ _ _ hb, frame_two34 _ _ _ hn, frame_take36, frame_drop36]
  all_goals (generalize planL st (x25519 S.secret nine) S.before S.sn draw = x; rcases x with e | ⟨key, st'⟩ <;> rfl)
theorem recv_ok (st S : PSt) (ad t draw : List UInt8) (ha : ad.length ≤ 32) (ht : t.length ≤ 64) (hd : draw.length = 32) (hb : S.before < 65536) (hn : S.sn < 65536) (st' : PSt)
    (hp : planL st (x25519 S.secret nine) S.before S.sn draw = .ok (mkK S.sk, st')) : recvL st ad (frameL S ad t) draw = .ok (t, st') := by
  rw [recv_plan st S ad t draw ha ht hd hb hn, hp]
  have h1 := seal_good (mkK S.sk) (ad ++ hdL S) t
  have h2 := seal_open (mkK S.sk) (ad ++ hdL S) t
  simp only [if_pos h1, h2]
theorem recv_no (st S : PSt) (ad t draw : List UInt8) (ha : ad.length ≤ 32) (ht : t.length ≤ 64) (hd : draw.length = 32) (hb : S.before < 65536) (hn : S.sn < 65536) (e : Nat)
    (hp : planL st (x25519 S.secret nine) S.before S.sn draw = .error e) : recvL st ad (frameL S ad t) draw = .error e := by
  rw [recv_plan st S ad t draw ha ht hd hb hn, hp]

/-- The kept keys of a chain: of the first m messages those that have not come. -/
def keptOf (P C : List UInt8) (m : Nat) (done : List Nat) : List KK := ((List.range m).filter fun i => decide (i ∉ done)).map fun i => ⟨P, i, mkK (nxN C i)⟩
theorem keptOf_mem {P C : List UInt8} {m : Nat} {done : List Nat} {k : KK} (h : k ∈ keptOf P C m done) : k.n < m ∧ k.n ∉ done := by
  unfold keptOf at h
  rw [List.mem_map] at h
  obtain ⟨i, hi, rfl⟩ := h
  rw [List.mem_filter, List.mem_range] at hi
  exact ⟨hi.1, by simpa using hi.2⟩
theorem keptOf_length (P C : List UInt8) (m : Nat) (done : List Nat) : (keptOf P C m done).length ≤ m := by
  unfold keptOf
  rw [List.length_map]
  exact Nat.le_trans (List.length_filter_le _ _) (by rw [List.length_range]; exact Nat.le_refl _)
theorem keptOf_succ (P C : List UInt8) (m : Nat) (done : List Nat) (h : m ∉ done) : keptOf P C (m + 1) done = keptOf P C m done ++ [⟨P, m, mkK (nxN C m)⟩] := by
  unfold keptOf
  rw [List.range_succ, List.filter_append, List.map_append]
  simp [h]
theorem keptOf_skip (P C : List UInt8) (m : Nat) (done : List Nat) (h : ∀ i ∈ done, i < m) : ∀ k, keptOf P C m done ++ skipL P (nxN C m) m k = keptOf P C (m + k) done
  | 0 => by simp [skipL]
  | k + 1 => by
    rw [skipL, ← List.append_assoc, keptOf_skip P C m done h k, nxN_add, ← Nat.add_assoc, keptOf_succ _ _ _ _ (fun hm => by have := h _ hm; omega)]
theorem keptOf_done (P C : List UInt8) (n : Nat) (done : List Nat) : keptOf P C (n + 1) (n :: done) = keptOf P C n done := by
  unfold keptOf
  rw [List.range_succ, List.filter_append, List.map_append]
  simp
  congr 1
  apply List.filter_congr
  intro i hi
  rw [List.mem_range] at hi
  simp
  intro e
  omega
theorem find_in (P : List UInt8) (K : Nat → List UInt8) (n : Nat) : ∀ L : List Nat, L.Nodup → n ∈ L →
    ∃ i, findK (L.map fun j => (⟨P, j, K j⟩ : KK)) P n = some i ∧ ((L.map fun j => (⟨P, j, K j⟩ : KK)).getD i default).key = K n ∧ (L.map fun j => (⟨P, j, K j⟩ : KK)).eraseIdx i = (L.filter fun j => decide (j ≠ n)).map fun j => (⟨P, j, K j⟩ : KK)
  | [], _, h => by cases h
  | a :: L, hd, h => by
    rw [List.nodup_cons] at hd
    by_cases e : a = n
    · subst e
      refine ⟨0, ?_, rfl, ?_⟩
      · simp [findK, List.findIdx?_cons, hitK]
      · rw [List.map_cons, List.eraseIdx_cons_zero, List.filter_cons_of_neg (by simp)]
        congr 1
        symm
        rw [List.filter_eq_self]
        intro j hj
        simp
        rintro rfl
        exact hd.1 hj
    · obtain ⟨i, h1, h2, h3⟩ := find_in P K n L hd.2 ((List.mem_cons.1 h).resolve_left (Ne.symm e))
      refine ⟨i + 1, ?_, ?_, ?_⟩
      · unfold findK at h1 ⊢
        rw [List.map_cons, List.findIdx?_cons, if_neg (by simp [hitK, e]), h1]
        rfl
      · rw [List.map_cons, List.getD_cons_succ]; exact h2
      · rw [List.map_cons, List.eraseIdx_cons_succ, h3, List.filter_cons_of_pos (by simpa using e), List.map_cons]
theorem keptOf_erase (P C : List UInt8) (m n : Nat) (done : List Nat) (h : n < m) (hn : n ∉ done) :
    ∃ i, findK (keptOf P C m done) P n = some i ∧ ((keptOf P C m done).getD i default).key = mkK (nxN C n) ∧ (keptOf P C m done).eraseIdx i = keptOf P C m (n :: done) := by
  obtain ⟨i, h1, h2, h3⟩ := find_in P (fun j => mkK (nxN C j)) n ((List.range m).filter fun i => decide (i ∉ done)) (List.nodup_range.filter _) (by rw [List.mem_filter, List.mem_range]; exact ⟨h, by simpa using hn⟩)
  refine ⟨i, h1, h2, h3.trans ?_⟩
  unfold keptOf
  rw [List.filter_filter]
  congr 1
  apply List.filter_congr
  intro j _
  simp [not_or]
theorem keptOf_none (P C : List UInt8) (m n : Nat) (done : List Nat) (h : m ≤ n ∨ n ∈ done) : findK (keptOf P C m done) P n = none := by
  unfold findK
  rw [List.findIdx?_eq_none_iff]
  intro k hk
  have := keptOf_mem hk
  simp only [hitK, Bool.and_eq_false_iff, decide_eq_false_iff_not]
  refine .inr fun e => ?_
  subst e
  rcases h with h | h
  · omega
  · exact this.2 h

/-- The receiving party: m messages of the chain have been reached, those of 'done' have come. -/
def postS (Q : PSt) (C : List UInt8) (m : Nat) (done : List Nat) : PSt := { Q with rk := nxN C m, rn := m, kept := keptOf Q.theirs C m done }
theorem nxN_ne (C : List UInt8) (h : C.length = 32) (m : Nat) : nxN C m ≠ [] := by
  intro e
  have := nxN_length C h m
  rw [e] at this
  cases this
theorem plan_next (Q : PSt) (C : List UInt8) (hC : C.length = 32) (m n bf : Nat) (done : List Nat) (draw : List UInt8) (hd : ∀ i ∈ done, i < m) (h1 : m ≤ n) (h2 : n ≤ 10) :
    planL (postS Q C m done) Q.theirs bf n draw = .ok (mkK (nxN C n), postS Q C (n + 1) (n :: done)) := by
  have hk := keptOf_none Q.theirs C m n done (.inl h1)
  have hne := nxN_ne C hC m
  have e1 : nxN (nxN C m) (n - m) = nxN C n := by rw [nxN_add, show m + (n - m) = n by omega]
  have e2 : nxN (nxN C m) (n - m + 1) = nxN C (n + 1) := by rw [nxN_add, show m + (n - m + 1) = n + 1 by omega]
  have e3 : keepL (keptOf Q.theirs C m done) (skipL Q.theirs (nxN C m) m (n - m)) = keptOf Q.theirs C (n + 1) (n :: done) := by
    have := keptOf_length Q.theirs C m done
    rw [keepL_few _ _ (by rw [skipL_length]; omega), keptOf_skip _ _ _ _ hd, show m + (n - m) = n by omega, keptOf_done]
  have e4 : m + (n - m) + 1 = n + 1 := by omega
  rw [planL_same (postS Q C m done) Q.theirs bf n draw hk rfl (by rintro (h | h); exact hne h; exact absurd h (show ¬ n < m by omega)) (show ¬ m + 10 < n by omega)]
  simp only [reachK, reachS, postS, e1, e2, e3, e4]
theorem plan_kept (Q : PSt) (C : List UInt8) (m n bf : Nat) (done : List Nat) (draw : List UInt8) (h1 : n < m) (h2 : n ∉ done) :
    planL (postS Q C m done) Q.theirs bf n draw = .ok (mkK (nxN C n), postS Q C m (n :: done)) := by
  obtain ⟨i, hi, hk, he⟩ := keptOf_erase Q.theirs C m n done h1 h2
  rw [planL_kept (postS Q C m done) Q.theirs bf n draw i hi]
  simp only [postS, hk, he]
theorem plan_again (Q : PSt) (C : List UInt8) (m n bf : Nat) (done : List Nat) (draw : List UInt8) (h1 : n < m) (h2 : n ∈ done) :
    planL (postS Q C m done) Q.theirs bf n draw = .error 3 := by
  have hk := keptOf_none Q.theirs C m n done (.inr h2)
  exact planL_old (postS Q C m done) Q.theirs bf n draw hk rfl (.inr h1)
/-- The party behind a turn. -/
def afterS (R : PSt) (P draw : List UInt8) : PSt := ⟨turnR (turnR R.root R.secret P) draw P, draw, P, turnC (turnR R.root R.secret P) draw P, 0, R.sn, [], 0, []⟩
theorem elder_same (R : PSt) (bf : Nat) (hk : R.kept = []) (h : R.rk = [] ∨ bf ≤ R.rn) : elder R bf = R := by
  unfold elder
  split
  · rfl
  · rename_i hne
    have h2 : bf - R.rn = 0 := by have := h.resolve_left hne; omega
    unfold elderS
    rw [h2, hk]
    cases R
    simp only at hk
    subst hk
    rfl
theorem plan_turn (R : PSt) (P : List UInt8) (bf n : Nat) (draw : List UInt8) (hk : R.kept = []) (ht : P ≠ R.theirs) (hb : R.rk = [] ∨ bf ≤ R.rn) (hn : n ≤ 10) :
    planL R P bf n draw = .ok (mkK (nxN (turnC R.root R.secret P) n), postS (afterS R P draw) (turnC R.root R.secret P) (n + 1) [n]) := by
  have e3 : keepL [] (skipL P (turnC R.root R.secret P) 0 n) = keptOf P (turnC R.root R.secret P) (n + 1) [n] := by
    have := keptOf_skip P (turnC R.root R.secret P) 0 [] (fun i hi => by cases hi) n
    rw [keepL_few _ _ (by rw [skipL_length]; simp; omega), keptOf_done]
    simpa [keptOf, nxN] using this
  rw [planL_turn R P bf n draw (by rw [hk]; rfl) ht (by
    rintro (⟨h1, h2⟩ | h)
    · have := hb.resolve_left h1; omega
    · omega), elder_same R bf hk hb]
  simp only [reachK, reachS, turnIn, turnOut, postS, afterS, Nat.sub_zero, Nat.zero_add, hk, e3]

/-- S sends a chain from its begin on; R is there to receive it. -/
structure Lk (S R : PSt) : Prop where
  sk : S.sk = turnC R.root R.secret (x25519 S.secret nine)
  root : S.root = turnR R.root R.secret (x25519 S.secret nine)
  sn : S.sn = 0
  bf : S.before < 65536
  skept : S.kept = []
  rkept : R.kept = []
  ne : x25519 S.secret nine ≠ R.theirs
  rk : R.rk = [] ∨ S.before ≤ R.rn
/-- The sender behind i messages. -/
def sentS (S : PSt) (i : Nat) : PSt := { S with sk := nxN S.sk i, sn := i }
theorem sentS_step (S : PSt) (i : Nat) : stepS (sentS S i) = sentS S (i + 1) := rfl
/-- What the receiver is, when the messages of 'done' have come. -/
def RInv (S R : PSt) (draw : List UInt8) (len : Nat) (done : List Nat) (st : PSt) : Prop :=
  (done = [] ∧ st = R) ∨ (∃ m, m ≤ len ∧ (∀ i ∈ done, i < m) ∧ st = postS (afterS R (x25519 S.secret nine) draw) S.sk m done)
theorem Lk.skl {S R : PSt} (h : Lk S R) : S.sk.length = 32 := by rw [h.sk]; exact turnC_length _ _ _
theorem RInv.step {S R : PSt} {draw : List UInt8} {len : Nat} {done : List Nat} {st : PSt} (h : RInv S R draw len done st) (hl : Lk S R) (hd : draw.length = 32) (n : Nat) (hn : n < len) (h11 : len ≤ 11) (hnd : n ∉ done)
    (ad t : List UInt8) (ha : ad.length ≤ 32) (ht : t.length ≤ 64) :
    ∃ st', recvL st ad (frameL (sentS S n) ad t) draw = .ok (t, st') ∧ RInv S R draw len (n :: done) st' ∧ recvL st' ad (frameL (sentS S n) ad t) draw = .error 3 := by
  have hb : (sentS S n).before < 65536 := hl.bf
  have hsn : (sentS S n).sn < 65536 := by show n < 65536; omega
  have key : ∀ m' done', n < m' → n ∈ done' → recvL (postS (afterS R (x25519 S.secret nine) draw) S.sk m' done') ad (frameL (sentS S n) ad t) draw = .error 3 := fun m' done' h1 h2 =>
    recv_no _ (sentS S n) ad t draw ha ht hd hb hsn 3 (plan_again (afterS R (x25519 S.secret nine) draw) S.sk m' n _ done' draw h1 h2)
  rcases h with ⟨rfl, rfl⟩ | ⟨m, hm, hdm, rfl⟩
  · have hp := plan_turn st (x25519 S.secret nine) (sentS S n).before n draw hl.rkept hl.ne hl.rk (by omega)
    rw [← hl.sk] at hp
    exact ⟨_, recv_ok st (sentS S n) ad t draw ha ht hd hb hsn _ hp, .inr ⟨n + 1, by omega, fun i hi => by simp at hi; omega, rfl⟩, key _ _ (by omega) (by simp)⟩
  · by_cases hnm : n < m
    · have hp := plan_kept (afterS R (x25519 S.secret nine) draw) S.sk m n (sentS S n).before done draw hnm hnd
      exact ⟨_, recv_ok _ (sentS S n) ad t draw ha ht hd hb hsn _ hp, .inr ⟨m, hm, fun i hi => by rw [List.mem_cons] at hi; rcases hi with rfl | hi; exact hnm; exact hdm i hi, rfl⟩, key _ _ hnm (by simp)⟩
    · have hp := plan_next (afterS R (x25519 S.secret nine) draw) S.sk hl.skl m n (sentS S n).before done draw hdm (by omega) (by omega)
      exact ⟨_, recv_ok _ (sentS S n) ad t draw ha ht hd hb hsn _ hp, .inr ⟨n + 1, by omega, fun i hi => by rw [List.mem_cons] at hi; rcases hi with rfl | hi; omega; have := hdm i hi; omega, rfl⟩, key _ _ (by omega) (by simp)⟩
theorem keptOf_all (P C : List UInt8) (m : Nat) (done : List Nat) (h : ∀ i, i < m → i ∈ done) : keptOf P C m done = [] := by
  unfold keptOf
  rw [List.map_eq_nil_iff, List.filter_eq_nil_iff]
  intro i hi
  rw [List.mem_range] at hi
  simpa using h i hi
theorem RInv.done {S R : PSt} {draw : List UInt8} {len : Nat} {done : List Nat} {st : PSt} (h : RInv S R draw len done st) (h0 : 0 < len) (hall : ∀ i, i < len → i ∈ done) :
    st = { afterS R (x25519 S.secret nine) draw with rk := nxN S.sk len, rn := len, kept := [] } := by
  rcases h with ⟨rfl, rfl⟩ | ⟨m, hm, hdm, rfl⟩
  · have := hall 0 h0
    cases this
  · have e : m = len := by have := hdm (len - 1) (hall (len - 1) (by omega)); omega
    subst e
    unfold postS
    rw [keptOf_all _ _ _ _ hall]
end Go.Proofs.YtgjdogkciklgkaaDoor
namespace Go.Proofs.YtgjdogkciklgkaaDoor
open Go.RowKit

theorem Lk.back {S R st : PSt} {draw : List UInt8} {len : Nat} (h : Lk S R) (hst : st = { afterS R (x25519 S.secret nine) draw with rk := nxN S.sk len, rn := len, kept := [] })
    (hne : x25519 draw nine ≠ S.theirs) (hrk : S.rk = [] ∨ R.sn ≤ S.rn) (hsn : R.sn < 65536) : Lk st (sentS S len) := by
  subst hst
  have e := agreeEq S.secret draw
  refine ⟨?_, ?_, rfl, hsn, rfl, h.skept, hne, hrk⟩
  · show turnC (turnR R.root R.secret (x25519 S.secret nine)) draw (x25519 S.secret nine) = turnC S.root S.secret (x25519 draw nine)
    rw [← h.root]
    unfold turnC turnD
    rw [e]
  · show turnR (turnR R.root R.secret (x25519 S.secret nine)) draw (x25519 S.secret nine) = turnR S.root S.secret (x25519 draw nine)
    rw [← h.root]
    unfold turnR turnD
    rw [e]
/-- The two as they are made. -/
theorem Lk.first (root own draw : List UInt8) : Lk (firstS root (x25519 own nine) draw) (secondS root own) := by
  have e := agreeEq own draw
  refine ⟨?_, ?_, rfl, (show 0 < 65536 by decide), rfl, rfl, ?_, .inl rfl⟩
  · show turnC root draw (x25519 own nine) = turnC root own (x25519 draw nine)
    unfold turnC turnD
    rw [e]
  · show turnR root draw (x25519 own nine) = turnR root own (x25519 draw nine)
    unfold turnR turnD
    rw [e]
  · intro h
    have := x25519_length draw nine
    rw [show x25519 draw nine = [] from h] at this
    cases this
end Go.Proofs.YtgjdogkciklgkaaDoor
