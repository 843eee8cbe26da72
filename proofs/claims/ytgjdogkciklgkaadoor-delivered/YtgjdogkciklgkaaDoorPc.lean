/-
  Parties as plain data: what First, Second, Send and Receive make of them.
-/
import Derived.Test.YtgjdogkciklgkaaDoorKa
import Derived.Test.YtgjdogkciklgkaaDoorSo
import Derived.Test.YtgjdogkciklgkaaDoorRSh
import Derived.Laws.AppendOwnNone
import Derived.Test.YtgjdogkciklgkaaDoorRp
namespace Go.Proofs.YtgjdogkciklgkaaDoor
open Go.RowKit

def ratchetI : List UInt8 := [114, 97, 116, 99, 104, 101, 116]
def turnD (root sec th : List UInt8) : List UInt8 := hkdf root (x25519 sec th) ratchetI 64
def turnR (root sec th : List UInt8) : List UInt8 := (turnD root sec th).take 32
def turnC (root sec th : List UInt8) : List UInt8 := (turnD root sec th).drop 32
theorem turnD_length (root sec th : List UInt8) : (turnD root sec th).length = 64 := hkdf_length _ _ _ _
theorem turnR_length (root sec th : List UInt8) : (turnR root sec th).length = 32 := by unfold turnR; rw [List.length_take, turnD_length]; rfl
theorem turnC_length (root sec th : List UInt8) : (turnC root sec th).length = 32 := by unfold turnC; rw [List.length_drop, turnD_length]

/-- A party. -/
structure PSt where
  root : List UInt8
  secret : List UInt8
  theirs : List UInt8
  sk : List UInt8
  sn : Nat
  before : Nat
  rk : List UInt8
  rn : Nat
  kept : List KK

def firstS (root th draw : List UInt8) : PSt := ⟨turnR root draw th, draw, th, turnC root draw th, 0, 0, [], 0, []⟩
def secondS (root own : List UInt8) : PSt := ⟨root, own, [], [], 0, 0, [], 0, []⟩

/-- Message number n is reached: its key, and the party behind it. -/
def reachK (st : PSt) (n : Nat) : List UInt8 := mkK (nxN st.rk (n - st.rn))
def reachS (st : PSt) (n : Nat) : PSt := { st with kept := keepL st.kept (skipL st.theirs st.rk st.rn (n - st.rn)), rk := nxN st.rk (n - st.rn + 1), rn := st.rn + (n - st.rn) + 1 }

/-- The elder chain's messages up to number bf are skipped. -/
def elderS (st : PSt) (bf : Nat) : PSt := { st with kept := keepL st.kept (skipL st.theirs st.rk st.rn (bf - st.rn)), rk := nxN st.rk (bf - st.rn), rn := st.rn + (bf - st.rn) }
def elder (st : PSt) (bf : Nat) : PSt := if st.rk = [] then st else elderS st bf
/-- The root moves; the chain that is received begins. -/
def turnIn (st : PSt) (th : List UInt8) : PSt := { st with theirs := th, root := turnR st.root st.secret th, rk := turnC st.root st.secret th, rn := 0 }
def turnOut (st : PSt) (draw : List UInt8) : PSt := { st with secret := draw, before := st.sn, root := turnR st.root draw st.theirs, sk := turnC st.root draw st.theirs, sn := 0 }

/-- What a head makes of a party: an error's number, or a key and the party behind. -/
def planL (st : PSt) (th : List UInt8) (bf n : Nat) (draw : List UInt8) : Except Nat (List UInt8 × PSt) :=
  match findK st.kept th n with
  | some i => .ok ((st.kept.getD i default).key, { st with kept := st.kept.eraseIdx i })
  | none =>
    if th = st.theirs then
      if st.rk = [] ∨ n < st.rn then .error 3
      else if st.rn + 10 < n then .error 4
      else .ok (reachK st n, reachS st n)
    else if (st.rk ≠ [] ∧ st.rn + 10 < bf) ∨ 10 < n then .error 4
    else .ok (reachK (turnIn (elder st bf) th) n, turnOut (reachS (turnIn (elder st bf) th) n) draw)

theorem planL_kept (st : PSt) (th : List UInt8) (bf n : Nat) (draw : List UInt8) (i : Nat) (h : findK st.kept th n = some i) : planL st th bf n draw = .ok ((st.kept.getD i default).key, { st with kept := st.kept.eraseIdx i }) := by
  unfold planL; rw [h]
theorem planL_old (st : PSt) (th : List UInt8) (bf n : Nat) (draw : List UInt8) (h0 : findK st.kept th n = none) (h1 : th = st.theirs) (h2 : st.rk = [] ∨ n < st.rn) : planL st th bf n draw = .error 3 := by
  unfold planL; rw [h0]; exact (if_pos h1).trans (if_pos h2)
theorem planL_far (st : PSt) (th : List UInt8) (bf n : Nat) (draw : List UInt8) (h0 : findK st.kept th n = none) (h1 : th = st.theirs) (h2 : ¬ (st.rk = [] ∨ n < st.rn)) (h3 : st.rn + 10 < n) : planL st th bf n draw = .error 4 := by
  unfold planL; rw [h0]; exact (if_pos h1).trans ((if_neg h2).trans (if_pos h3))
theorem planL_same (st : PSt) (th : List UInt8) (bf n : Nat) (draw : List UInt8) (h0 : findK st.kept th n = none) (h1 : th = st.theirs) (h2 : ¬ (st.rk = [] ∨ n < st.rn)) (h3 : ¬ st.rn + 10 < n) : planL st th bf n draw = .ok (reachK st n, reachS st n) := by
  unfold planL; rw [h0]; exact (if_pos h1).trans ((if_neg h2).trans (if_neg h3))
theorem planL_skip (st : PSt) (th : List UInt8) (bf n : Nat) (draw : List UInt8) (h0 : findK st.kept th n = none) (h1 : th ≠ st.theirs) (h2 : (st.rk ≠ [] ∧ st.rn + 10 < bf) ∨ 10 < n) : planL st th bf n draw = .error 4 := by
  unfold planL; rw [h0]; exact (if_neg h1).trans (if_pos h2)
theorem planL_turn (st : PSt) (th : List UInt8) (bf n : Nat) (draw : List UInt8) (h0 : findK st.kept th n = none) (h1 : th ≠ st.theirs) (h2 : ¬ ((st.rk ≠ [] ∧ st.rn + 10 < bf) ∨ 10 < n)) : planL st th bf n draw = .ok (reachK (turnIn (elder st bf) th) n, turnOut (reachS (turnIn (elder st bf) th) n) draw) := by
  unfold planL; rw [h0]; exact (if_neg h1).trans (if_neg h2)

def two (f : List UInt8) (i : Nat) : Nat := byteAt f i * 256 + byteAt f (i + 1)

def recvL (st : PSt) (ad f draw : List UInt8) : Except Nat (List UInt8 × PSt) :=
  if 32 < ad.length ∨ 116 < f.length then .error 0
  else if draw.length ≠ 32 then .error 1
  else if f.length < 52 then .error 2
  else match planL st (f.take 32) (two f 32) (two f 34) draw with
    | .error e => .error e
    | .ok (key, st') => if goodTag key (ad ++ f.take 36) (f.drop 36) then .ok (boxL (k1 key) ((f.drop 36).take ((f.drop 36).length - 16)), st') else .error 3

def hdL (st : PSt) : List UInt8 := x25519 st.secret nine ++ bigB st.before 2 ++ bigB st.sn 2
def stepS (st : PSt) : PSt := { st with sk := nxK st.sk, sn := st.sn + 1 }
def frameL (st : PSt) (ad t : List UInt8) : List UInt8 := hdL st ++ sealL (mkK st.sk) (ad ++ hdL st) t
def sendL (st : PSt) (ad t : List UInt8) : Except Nat (List UInt8 × PSt) :=
  if 32 < ad.length ∨ 64 < t.length then .error 0
  else if st.sk = [] then .error 5
  else if 30 ≤ st.sn then .error 6
  else .ok (frameL st ad t, stepS st)

/-- What is so of every party that was made. -/
structure PSt.Wf (st : PSt) : Prop where
  root : st.root.length = 32
  secret : st.secret.length = 32
  theirs : st.theirs = [] ∨ st.theirs.length = 32
  sk : st.sk = [] ∨ st.sk.length = 32
  sn : st.sn ≤ 30
  before : st.before ≤ 30
  rk : st.rk = [] ∨ st.rk.length = 32
  rn : st.rn ≤ 65536
  rt : st.rk ≠ [] → st.theirs.length = 32
  kept : st.kept.length ≤ 16
  keys : ∀ k ∈ st.kept, k.key.length = 32 ∧ k.n ≤ 65536

theorem skipL_keys (th c : List UInt8) (i : Nat) : ∀ k, ∀ x ∈ skipL th c i k, x.key.length = 32 ∧ x.n < i + k
  | 0 => by intro x hx; cases hx
  | k + 1 => by
    intro x hx
    rw [skipL, List.mem_append] at hx
    rcases hx with hx | hx
    · have := skipL_keys th c i k x hx
      exact ⟨this.1, by omega⟩
    · simp at hx; subst hx; exact ⟨mkK_length _, by show i + k < _; omega⟩
theorem keepL_keys {P : KK → Prop} (kept sk : List KK) (h1 : ∀ x ∈ kept, P x) (h2 : ∀ x ∈ sk, P x) : ∀ x ∈ keepL kept sk, P x := by
  intro x hx
  have := List.mem_of_mem_drop hx
  rw [List.mem_append] at this
  exact this.elim (h1 x) (h2 x)

theorem Wf.first (root th draw : List UInt8) (ht : th.length = 32) (hd : draw.length = 32) : (firstS root th draw).Wf :=
  ⟨turnR_length _ _ _, hd, .inr ht, .inr (turnC_length _ _ _), Nat.zero_le _, Nat.zero_le _, .inl rfl, Nat.zero_le _, fun h => absurd rfl h, Nat.zero_le _, fun k hk => by cases hk⟩
theorem Wf.second (root own : List UInt8) (hr : root.length = 32) (ho : own.length = 32) : (secondS root own).Wf :=
  ⟨hr, ho, .inl rfl, .inl rfl, Nat.zero_le _, Nat.zero_le _, .inl rfl, Nat.zero_le _, fun h => absurd rfl h, Nat.zero_le _, fun k hk => by cases hk⟩
theorem PSt.Wf.step {st : PSt} (h : st.Wf) (hn : st.sn < 30) : (stepS st).Wf :=
  ⟨h.root, h.secret, h.theirs, .inr (nxK_length _), hn, h.before, h.rk, h.rn, h.rt, h.kept, h.keys⟩
theorem PSt.Wf.reach {st : PSt} (h : st.Wf) (n : Nat) (hn : n < 65536) (hr : st.rn ≤ n) (hk : st.rk ≠ []) : (reachS st n).Wf := by
  have hl : st.rk.length = 32 := h.rk.resolve_left hk
  refine ⟨h.root, h.secret, h.theirs, h.sk, h.sn, h.before, .inr (nxN_length _ hl _), ?_, fun _ => h.rt hk, keepL_length _ _, ?_⟩
  · show st.rn + (n - st.rn) + 1 ≤ 65536; omega
  · exact keepL_keys _ _ h.keys (fun x hx => by have := skipL_keys _ _ _ _ x hx; exact ⟨this.1, by omega⟩)
theorem PSt.Wf.elderS {st : PSt} (h : st.Wf) (bf : Nat) (hb : bf < 65536) (hk : st.rk ≠ []) : (elderS st bf).Wf := by
  have hl : st.rk.length = 32 := h.rk.resolve_left hk
  have hrn := h.rn
  refine ⟨h.root, h.secret, h.theirs, h.sk, h.sn, h.before, .inr (nxN_length _ hl _), ?_, fun _ => h.rt hk, keepL_length _ _, ?_⟩
  · show st.rn + (bf - st.rn) ≤ 65536; omega
  · exact keepL_keys _ _ h.keys (fun x hx => by have := skipL_keys _ _ _ _ x hx; exact ⟨this.1, by omega⟩)
theorem PSt.Wf.elder {st : PSt} (h : st.Wf) (bf : Nat) (hb : bf < 65536) : (elder st bf).Wf := by
  unfold Go.Proofs.YtgjdogkciklgkaaDoor.elder
  split
  · exact h
  · rename_i hk; exact h.elderS bf hb hk
theorem PSt.Wf.turnIn {st : PSt} (h : st.Wf) (th : List UInt8) (ht : th.length = 32) : (turnIn st th).Wf :=
  ⟨turnR_length _ _ _, h.secret, .inr ht, h.sk, h.sn, h.before, .inr (turnC_length _ _ _), Nat.zero_le _, fun _ => ht, h.kept, h.keys⟩
theorem PSt.Wf.turnOut {st : PSt} (h : st.Wf) (draw : List UInt8) (hd : draw.length = 32) : (turnOut st draw).Wf :=
  ⟨turnR_length _ _ _, hd, h.theirs, .inr (turnC_length _ _ _), Nat.zero_le _, h.sn, h.rk, h.rn, h.rt, h.kept, h.keys⟩
theorem turnIn_rk (st : PSt) (th : List UInt8) : (turnIn st th).rk ≠ [] := by
  intro h
  have := turnC_length st.root st.secret th
  rw [show turnC st.root st.secret th = [] from h] at this
  cases this
theorem PSt.Wf.plan {st : PSt} (h : st.Wf) (th : List UInt8) (bf n : Nat) (draw : List UInt8) (ht : th.length = 32) (hb : bf < 65536) (hn : n < 65536) (hd : draw.length = 32) {key : List UInt8} {st' : PSt} (he : planL st th bf n draw = .ok (key, st')) : st'.Wf ∧ key.length = 32 := by
  unfold planL at he
  split at he
  · rename_i i hi
    have hlt : i < st.kept.length := (List.findIdx?_eq_some_iff_getElem.1 hi).1
    injection he with he
    injection he with h1 h2
    subst h1; subst h2
    refine ⟨⟨h.root, h.secret, h.theirs, h.sk, h.sn, h.before, h.rk, h.rn, h.rt, ?_, fun k hk => h.keys k (List.mem_of_mem_eraseIdx hk)⟩, ?_⟩
    · exact Nat.le_trans (by simp [List.length_eraseIdx, hlt]) h.kept
    · exact (h.keys _ (by rw [getD_in _ _ hlt]; exact List.getElem_mem _)).1
  · split at he
    · split at he
      · cases he
      · split at he
        · cases he
        · rename_i h1 h2
          injection he with he
          injection he with h3 h4
          subst h3; subst h4
          have h5 : st.rk ≠ [] := fun e => h1 (.inl e)
          have h6 : st.rn ≤ n := by omega
          exact ⟨h.reach n hn h6 h5, mkK_length _⟩
    · split at he
      · cases he
      · injection he with he
        injection he with h3 h4
        subst h3; subst h4
        exact ⟨(((h.elder bf hb).turnIn th ht).reach n hn (Nat.zero_le _) (turnIn_rk _ _)).turnOut draw hd, mkK_length _⟩
theorem two_lt (f : List UInt8) (i : Nat) : two f i < 65536 := by
  have := byteAt_lt f i
  have := byteAt_lt f (i + 1)
  unfold two
  omega
theorem PSt.Wf.recv {st : PSt} (h : st.Wf) (ad f draw : List UInt8) {t : List UInt8} {st' : PSt} (he : recvL st ad f draw = .ok (t, st')) : st'.Wf := by
  unfold recvL at he
  split at he
  · cases he
  · split at he
    · cases he
    · split at he
      · cases he
      · rename_i h1 h2 h3
        split at he
        · cases he
        · rename_i key s hp
          split at he
          · injection he with he
            injection he with h4 h5
            subst h5
            exact (h.plan _ _ _ _ (by rw [List.length_take]; omega) (two_lt _ _) (two_lt _ _) (by omega) hp).1
          · cases he
end Go.Proofs.YtgjdogkciklgkaaDoor
namespace Go.Proofs.YtgjdogkciklgkaaDoor
open Go.RowKit

def pCells (st : PSt) (v : Value) : Array Value := #[.string (str st.root), .string (str st.secret), .string (str st.theirs), .string (str st.sk), .int .i64 (st.sn : Int), .int .i64 (st.before : Int), .string (str st.rk), .int .i64 (st.rn : Int), v]
def PBlk (w : World) (b : Nat) (st : PSt) (v : Value) : Prop := w.heap[b]? = some (.cells (pCells st v) 67 (0, 0))
theorem PBlk.lt {w : World} {b : Nat} {st : PSt} {v : Value} (h : PBlk w b st v) : b < w.heap.size := (Array.getElem?_eq_some_iff.1 h).1
theorem PBlk.cell {w : World} {b : Nat} {st : PSt} {v : Value} (h : PBlk w b st v) (i : Nat) : w.cell? ⟨b, i, none⟩ = (pCells st v)[i]? := cell_of_row w b i _ _ (0, 0) h
theorem PBlk.frozen {w : World} {b : Nat} {st : PSt} {v : Value} (h : PBlk w b st v) (i : Nat) : w.frozen? ⟨b, i, none⟩ = false := frozen_of_row w b i _ _ h
/-- A party at block b; its kept keys lie at base or behind. -/
def PAt (w : World) (base b : Nat) (st : PSt) : Prop := ∃ v, PBlk w b st v ∧ Own w base v st.kept
theorem PAt.lt {w : World} {base b : Nat} {st : PSt} (h : PAt w base b st) : b < w.heap.size := h.choose_spec.1.lt
theorem PAt.base {w : World} {base base' b : Nat} {st : PSt} (h : PAt w base b st) (hb : base' ≤ base) : PAt w base' b st := ⟨h.choose, h.choose_spec.1, h.choose_spec.2.base hb⟩

/-- What another party has stays. -/
theorem PAt.chg {w w' : World} {base b b' : Nat} {st st' : PSt} {base' : Nat} (h : PAt w base b st) (h' : PAt w base' b' st') (hc : Chg b' w w') (hne : b ≠ b') : PAt w' base b st := by
  obtain ⟨v, hp, ho⟩ := h
  refine ⟨v, (hc.block b hp.lt hne).trans hp, ho.of_block fun g cs hg _ => hc.block g (Array.getElem?_eq_some_iff.1 hg).1 ?_⟩
  rintro rfl
  obtain ⟨v', hp', _⟩ := h'
  rw [hp'] at hg
  injection hg with hg
  injection hg with _ ht
  cases ht
theorem PAt.below {w w' : World} {base b : Nat} {st : PSt} (h : PAt w base b st) (hb : Bel w.heap.size w w') : PAt w' base b st := by
  obtain ⟨v, hp, ho⟩ := h
  exact ⟨v, (hb.block b hp.lt).trans hp, ho.of_block fun g cs hg _ => hb.block g (Array.getElem?_eq_some_iff.1 hg).1⟩
theorem PBlk.below {w w' : World} {b : Nat} {st : PSt} {v : Value} (h : PBlk w b st v) (hb : Bel w.heap.size w w') : PBlk w' b st v := (hb.block b h.lt).trans h
theorem Own.below {w w' : World} {base : Nat} {v : Value} {l : List KK} (h : Own w base v l) (hb : Bel w.heap.size w w') : Own w' base v l := h.of_block fun g _ hg _ => hb.block g (Array.getElem?_eq_some_iff.1 hg).1
/-- Cells of party b are written: the row stays. -/
theorem Own.set {w : World} {base b : Nat} {v : Value} {l : List KK} {st : PSt} {u : Value} (h : Own w base v l) (hp : PBlk w b st u) (o : Nat) (x : Value) : Own (w.setCell ⟨b, o, none⟩ x) base v l := by
  refine h.of_block fun g cs hg _ => heap_setCell_other w _ g x ?_
  rintro rfl
  unfold PBlk at hp
  rw [hp] at hg
  injection hg with hg
  injection hg with _ ht
  cases ht
theorem PBlk.set {w : World} {b : Nat} {st : PSt} {v : Value} (h : PBlk w b st v) (o : Nat) (x : Value) (st' : PSt) (v' : Value) (he : (pCells st v).setIfInBounds o x = pCells st' v') : PBlk (w.setCell ⟨b, o, none⟩ x) b st' v' := by
  unfold PBlk
  rw [heap_setCell_same w b o _ _ x h, he]
end Go.Proofs.YtgjdogkciklgkaaDoor
namespace Go.Proofs.YtgjdogkciklgkaaDoor
open Go.RowKit

theorem PBlk.all {w : World} {b : Nat} {st : PSt} {v : Value} (h : PBlk w b st v) : w.cell? ⟨b, 0, none⟩ = some (.string (str st.root)) ∧ w.cell? ⟨b, 1, none⟩ = some (.string (str st.secret)) ∧ w.cell? ⟨b, 2, none⟩ = some (.string (str st.theirs)) ∧
    w.cell? ⟨b, 3, none⟩ = some (.string (str st.sk)) ∧ w.cell? ⟨b, 4, none⟩ = some (.int .i64 (st.sn : Int)) ∧ w.cell? ⟨b, 5, none⟩ = some (.int .i64 (st.before : Int)) ∧ w.cell? ⟨b, 6, none⟩ = some (.string (str st.rk)) ∧ w.cell? ⟨b, 7, none⟩ = some (.int .i64 (st.rn : Int)) ∧ w.cell? ⟨b, 8, none⟩ = some v :=
  ⟨h.cell 0, h.cell 1, h.cell 2, h.cell 3, h.cell 4, h.cell 5, h.cell 6, h.cell 7, h.cell 8⟩

theorem Tryd.sizeParty : (Tryd.prog.info? 67).map (·.size) = some 9 := by kernel_rfl
theorem Own.form {w : World} {base : Nat} {v : Value} {l : List KK} (h : Own w base v l) : ∃ ao c, v = .slice ao l.length c := by
  rcases h.2 with ⟨rfl, hn⟩ | ⟨g, cap, cur, rfl, _⟩
  · exact ⟨none, 0, by rw [hn]⟩
  · exact ⟨_, _, rfl⟩
theorem pAt_set {w : World} {base b : Nat} {st : PSt} {v v' : Value} {l : List KK} (hP : PBlk w b st v) (hO : Own w base v' l) : PAt (w.setCell ⟨b, 8, none⟩ v') base b { st with kept := l } :=
  ⟨v', hP.set 8 v' _ _ rfl, hO.set hP 8 v'⟩

set_option maxRecDepth 100000 in
set_option maxHeartbeats 2000000 in
theorem copyP (base b : Nat) (st : PSt) (hk : st.kept.length ≤ 1000) (w : World) (hp : PAt w base b st) :
    Calls Tryd.prog 26 #[.pointer (some ⟨b, 0, none⟩)] w fun e w' => e = .returned (.pointer (some ⟨w.heap.size, 0, none⟩)) ∧ PAt w' w.heap.size w.heap.size st ∧ Bel w.heap.size w w' := by
  obtain ⟨v, hP, hO⟩ := hp
  obtain ⟨ao, c, rfl⟩ := hO.form
  have hlt := hP.lt
  have hne : b ≠ w.heap.size := by omega
  obtain ⟨c0, c1, c2, c3, c4, c5, c6, c7, c8⟩ := hP.all
  have HP := hide hP
  have HO := hide hO
  clear hP hO
  go_enter Tryd.func26, Tryd.ntmps26
  go_wp2_with fail
  have HB1 : Hid (Bel w.heap.size w (w.alloc (.cells (pCells st (.slice ao st.kept.length c)) 67))) := (Bel.refl _ _).alloc (Nat.le_refl _) _
  have HK1 : Hid (PBlk (w.alloc (.cells (pCells st (.slice ao st.kept.length c)) 67)) w.heap.size st (.slice ao st.kept.length c)) := heap_alloc_new w _
  clear c0 c1 c2 c3 c4 c5 c6 c7 c8
  unfold pCells at HB1 HK1
  generalize w.alloc (.cells #[.string (str st.root), .string (str st.secret), .string (str st.theirs), .string (str st.sk), .int .i64 (st.sn : Int), .int .i64 (st.before : Int), .string (str st.rk), .int .i64 (st.rn : Int), .slice ao st.kept.length c] 67) = w1 at *
  refine (kCloneP base _ st.kept hk _ (HO.out.below HB1.out)).mono ?_
  rintro e w2 ⟨v', rfl, ho2, hb2⟩
  have HB2 := hide (HB1.out.trans (hb2.mono HB1.out.size))
  have HK2 := hide (HK1.out.below hb2)
  have d := HK2.out.all.2.2.2.2.2.2.2.2
  have df := HK2.out.frozen 8
  have HO2 := hide (ho2.base HB1.out.size)
  obtain ⟨ao', c', rfl⟩ := ho2.form
  clear hb2 ho2
  go_wp2
  go_ret
  exact ⟨rfl, pAt_set HK2.out HO2.out, HB2.out.setCell (Nat.le_refl _) _⟩

set_option maxRecDepth 100000 in
set_option maxHeartbeats 2000000 in
theorem copyNone (w : World) : Calls Tryd.prog 26 #[.pointer none] w fun e w' => e = .returned (.pointer none) ∧ w' = w := by
  go_enter Tryd.func26, Tryd.ntmps26
  go_wp2
  go_ret
  exact ⟨rfl, rfl⟩
end Go.Proofs.YtgjdogkciklgkaaDoor
namespace Go.Proofs.YtgjdogkciklgkaaDoor
open Go.RowKit

theorem blkKept {w1 w2 : World} {base b : Nat} {v : Value} {l : List KK} {cs : Array Value} {T : TypeId} (hb : w1.heap[b]? = some (.cells cs T (0, 0))) (hT : T ≠ 77) (ho : Own w1 base v l) (hg : w1.grownBy w2 v.ownBlock) : w2.heap[b]? = some (.cells cs T (0, 0)) := by
  have hlt := (Array.getElem?_eq_some_iff.1 hb).1
  rw [hg.block b hlt (fun e => by
    obtain ⟨_, c, hc⟩ := ho.row b e.symm
    rw [hb] at hc
    injection hc with hc
    injection hc with _ ht
    exact hT ht)]
  exact hb
theorem PBlk.chgO {w w' : World} {g b : Nat} {st : PSt} {v u : Value} {base : Nat} {l : List KK} (h : PBlk w b st v) (ho : Own w base u l) (hu : u.ownBlock = some g) (hc : Chg g w w') : PBlk w' b st v := by
  refine (hc.block b h.lt ?_).trans h
  rintro rfl
  obtain ⟨_, c, hcc⟩ := ho.row _ hu
  unfold PBlk at h
  rw [h] at hcc
  injection hcc with hcc
  injection hcc with _ ht
  cases ht

theorem Own.formP {w : World} {base : Nat} {v : Value} {l : List KK} (h : Own w base v l) (h0 : 0 < l.length) : ∃ g c, v = .slice (some ⟨g, 0, none⟩) l.length c := by
  rcases h.2 with ⟨rfl, hn⟩ | ⟨g, cap, cur, rfl, _⟩
  · omega
  · exact ⟨_, _, rfl⟩

theorem Own.form2 {w : World} {base : Nat} {v : Value} {a c : List KK} (h : Own w base v (a ++ c)) : ∃ ao k, v = .slice ao (a.length + c.length) k := by
  have := h.form
  rwa [List.length_append] at this
theorem Own.form3 {w : World} {base : Nat} {v : Value} {a c : List KK} (h : Own w base v (a ++ c)) (h0 : 0 < a.length + c.length) : ∃ g k, v = .slice (some ⟨g, 0, none⟩) (a.length + c.length) k := by
  have := h.formP (by rw [List.length_append]; exact h0)
  rwa [List.length_append] at this
theorem keepMid {w w2 : World} {base b : Nat} {st : PSt} {sk : List KK} {v v2 : Value} {news : List Value} (hP : PBlk w b st v) (hO : Own w base v st.kept) (hA : kCells (st.kept ++ sk) = kCells st.kept ++ news)
    (ho2 : w2.ownsRow base 77 3 v2 (st.kept.length + sk.length) (kCells st.kept ++ news)) (hg2 : w.grownBy w2 v.ownBlock) (hbs : base ≤ w.heap.size) :
    Hid (PBlk w2 b st v) ∧ Hid (Own w2 base v2 (st.kept ++ sk)) ∧ Hid (Bel base w w2) ∧ w2.cell? ⟨b, 8, none⟩ = some v ∧ w2.frozen? ⟨b, 8, none⟩ = false := by
  have h1 : PBlk w2 b st v := blkKept hP (by decide) hO hg2
  refine ⟨h1, ?_, (Bel.refl _ _).grown hg2 hbs (fun k hk => (hO.row k hk).1), h1.all.2.2.2.2.2.2.2.2, h1.frozen 8⟩
  show Own _ _ _ _
  unfold Own
  rw [hA, List.length_append]
  exact ho2

set_option maxRecDepth 100000 in
set_option maxHeartbeats 4000000 in
theorem keepP (base b : Nat) (st : PSt) (sk : List KK) (sv : Value) (hk : st.kept.length ≤ 1000) (hs : sk.length ≤ 70000) (w : World) (hp : PAt w base b st) (ho : Own w base sv sk) (hB : base ≤ b) :
    Calls Tryd.prog 97 #[.pointer (some ⟨b, 0, none⟩), sv] w fun e w' => e = .returned (.tuple #[]) ∧ PAt w' base b { st with kept := keepL st.kept sk } ∧ Bel base w w' := by
  obtain ⟨v, hP, hO⟩ := hp
  have hlt := hP.lt
  obtain ⟨c0, c1, c2, c3, c4, c5, c6, c7, c8⟩ := hP.all
  have HP := hide hP
  have HO := hide hO
  clear hP hO c0 c1 c2 c3 c4 c5 c6 c7
  obtain ⟨i0, hi, hz0, hz1, hz2⟩ := info_parts Tryd.infoKK
  have HI := hide hi
  have hbs : base ≤ w.heap.size := by omega
  rcases ho.2 with ⟨rfl, hn⟩ | ⟨g, cap, cur, rfl, hb, hgg, hle, hcap, hsz, htk⟩
  · have hn0 : sk = [] := List.length_eq_zero_iff.1 hn
    have hl0 : sk.length = 0 := hn
    clear ho
    by_cases hab : st.kept.length ≤ 16
    · obtain ⟨ao, c, rfl⟩ := HO.out.form
      have HR : Hid (keepL st.kept sk = st.kept) := by
        show keepL st.kept sk = _
        unfold keepL
        rw [hn0, List.append_nil, show st.kept.length - 16 = 0 by omega, List.drop_zero]
      have f8 := HP.out.frozen 8
      have HF := hide (pAt_set HP.out HO.out)
      have HB3 := hide ((Bel.refl base w).setCell (p := ⟨b, 8, none⟩) hB (.slice ao st.kept.length c))
      go_enter Tryd.func97, Tryd.ntmps97
      go_wp2_with (at_builtin; go_must (refine wpList_append_own_none rfl (.tmp 9) (.tmp 10) 65 rfl base 77 i0 3 Tryd.underlying65 HI.out _ _ _ rfl HO.out rfl ?_))
      go_end0
      rw [HR.out]
      exact ⟨rfl, HF.out, HB3.out⟩
    · obtain ⟨g2, c, rfl⟩ := HO.out.formP (by omega)
      have HR : Hid (keepL st.kept sk = st.kept.take 0 ++ st.kept.drop (st.kept.length - 16)) := by
        show keepL st.kept sk = _
        unfold keepL
        rw [hn0, List.append_nil, List.take_zero, List.nil_append]
      have f8 := HP.out.frozen 8
      have HP3 : Hid (PBlk (w.setCell ⟨b, 8, none⟩ (.slice (some ⟨g2, 0, none⟩) st.kept.length c)) b st (.slice (some ⟨g2, 0, none⟩) st.kept.length c)) := HP.out.set 8 _ _ _ rfl
      have HO3 := hide (HO.out.set HP.out 8 (.slice (some ⟨g2, 0, none⟩) st.kept.length c))
      have HB3 := hide ((Bel.refl base w).setCell (p := ⟨b, 8, none⟩) hB (.slice (some ⟨g2, 0, none⟩) st.kept.length c))
      go_enter Tryd.func97, Tryd.ntmps97
      go_wp2_with (at_builtin; go_must (refine wpList_append_own_none rfl (.tmp 9) (.tmp 10) 65 rfl base 77 i0 3 Tryd.underlying65 HI.out _ _ _ rfl HO.out rfl ?_))
      generalize w.setCell ⟨b, 8, none⟩ (.slice (some ⟨g2, 0, none⟩) st.kept.length c) = w3 at *
      clear c8 f8
      generalize hl : st.kept = l at *
      rw [show (l.length : Int) - 16 = ((l.length - 16 : Nat) : Int) by omega]
      refine (kDelP base g2 c 0 (l.length - 16) l.length l rfl (by omega) (by omega) _ HO3.out).mono ?_
      rintro e w4 ⟨rfl, ho4, hc4⟩
      have HP4 := hide (HP3.out.chgO HO3.out rfl hc4)
      have HB4 := hide (HB3.out.trans (hc4.bel (HO3.out.row g2 rfl).1 (Nat.le_trans hB (Nat.le_of_lt HP3.out.lt))))
      have d8 := HP4.out.all.2.2.2.2.2.2.2.2
      have f8 := HP4.out.frozen 8
      have hf := pAt_set HP4.out ho4
      rw [Nat.zero_add] at hf
      have HF := hide hf
      clear hf
      have HB5 := hide (HB4.out.setCell (p := ⟨b, 8, none⟩) hB (.slice (some ⟨g2, 0, none⟩) (l.length - (l.length - 16)) c))
      clear ho4 hc4
      go_wp2
      go_end0
      rw [show keepL st.kept sk = keepL l sk from (by rw [hl]), HR.out]
      exact ⟨rfl, HF.out, HB5.out⟩
  · have HC := hide ho.cells
    have HL := hide (kCells_length sk)
    have H1 := hide (kCells_one sk)
    have HA := hide (kCells_append st.kept sk)
    clear ho hb hgg hle hcap hsz htk
    generalize kCells sk = news at *
    by_cases hab : st.kept.length + sk.length ≤ 16
    · have HR : Hid (keepL st.kept sk = st.kept ++ sk) := keepL_few _ _ hab
      go_enter Tryd.func97, Tryd.ntmps97
      go_wp2_with (at_builtin; go_must (refine wpList_append_own _ rfl (.tmp 9) (.tmp 10) 65 rfl base 77 i0 (.agg #[.string ⟨#[]⟩, .int .i64 0, .string ⟨#[]⟩]) 3 40 Tryd.underlying65 HI.out hz0 hz1 hz2 rfl (by decide) _ _ _ rfl HO.out ⟨g, 0, none⟩ sk.length cap news rfl HL.out (by intro j u hj; rw [Addr.add_lit, Nat.zero_add]; exact HC.out j u hj) H1.out (by unfold maxLen; omega) (by omega) hbs ?_); intro v2 w2 ho2 hg2 _; obtain ⟨HP2, HO2, HB2, d8, f8⟩ := keepMid HP.out HO.out HA.out ho2 hg2 hbs; clear ho2 hg2; obtain ⟨ao2, c2, rfl⟩ := HO2.out.form2)
      have HF := hide (pAt_set HP2.out HO2.out)
      have HB3 := hide (HB2.out.setCell (p := ⟨b, 8, none⟩) hB (.slice ao2 (st.kept.length + sk.length) c2))
      go_end0
      rw [HR.out]
      exact ⟨rfl, HF.out, HB3.out⟩
    · have HR : Hid (keepL st.kept sk = (st.kept ++ sk).take 0 ++ (st.kept ++ sk).drop (st.kept.length + sk.length - 16)) := by
        show keepL st.kept sk = _
        unfold keepL
        rw [List.length_append, List.take_zero, List.nil_append]
      go_enter Tryd.func97, Tryd.ntmps97
      go_wp2_with (at_builtin; go_must (refine wpList_append_own _ rfl (.tmp 9) (.tmp 10) 65 rfl base 77 i0 (.agg #[.string ⟨#[]⟩, .int .i64 0, .string ⟨#[]⟩]) 3 40 Tryd.underlying65 HI.out hz0 hz1 hz2 rfl (by decide) _ _ _ rfl HO.out ⟨g, 0, none⟩ sk.length cap news rfl HL.out (by intro j u hj; rw [Addr.add_lit, Nat.zero_add]; exact HC.out j u hj) H1.out (by unfold maxLen; omega) (by omega) hbs ?_); intro v2 w2 ho2 hg2 _; obtain ⟨HP2, HO2, HB2, d8, f8⟩ := keepMid HP.out HO.out HA.out ho2 hg2 hbs; clear ho2 hg2; obtain ⟨g2, c2, rfl⟩ := HO2.out.form3 (by omega))
      have HP3 : Hid (PBlk (w2.setCell ⟨b, 8, none⟩ (.slice (some ⟨g2, 0, none⟩) (st.kept.length + sk.length) c2)) b { st with kept := st.kept ++ sk } (.slice (some ⟨g2, 0, none⟩) (st.kept.length + sk.length) c2)) := HP2.out.set 8 _ _ _ rfl
      have HO3 := hide (HO2.out.set HP2.out 8 (.slice (some ⟨g2, 0, none⟩) (st.kept.length + sk.length) c2))
      have HB3 := hide (HB2.out.setCell (p := ⟨b, 8, none⟩) hB (.slice (some ⟨g2, 0, none⟩) (st.kept.length + sk.length) c2))
      generalize w2.setCell ⟨b, 8, none⟩ (.slice (some ⟨g2, 0, none⟩) (st.kept.length + sk.length) c2) = w3 at *
      clear d8 f8
      rw [show (st.kept.length : Int) + (sk.length : Int) - 16 = ((st.kept.length + sk.length - 16 : Nat) : Int) by omega]
      refine (kDelP base g2 c2 0 (st.kept.length + sk.length - 16) (st.kept.length + sk.length) (st.kept ++ sk) (by rw [List.length_append]) (by omega) (by omega) _ HO3.out).mono ?_
      rintro e w4 ⟨rfl, ho4, hc4⟩
      have HP4 := hide (HP3.out.chgO HO3.out rfl hc4)
      have HB4 := hide (HB3.out.trans (hc4.bel (HO3.out.row g2 rfl).1 (Nat.le_trans hB (Nat.le_of_lt HP3.out.lt))))
      have d8 := HP4.out.all.2.2.2.2.2.2.2.2
      have f8 := HP4.out.frozen 8
      have hf := pAt_set HP4.out ho4
      rw [Nat.zero_add] at hf
      have HF := hide hf
      clear hf
      have HB5 := hide (HB4.out.setCell (p := ⟨b, 8, none⟩) hB (.slice (some ⟨g2, 0, none⟩) (st.kept.length + sk.length - (st.kept.length + sk.length - 16)) c2))
      clear ho4 hc4
      go_wp2
      go_end0
      rw [HR.out]
      exact ⟨rfl, HF.out, HB5.out⟩
end Go.Proofs.YtgjdogkciklgkaaDoor
namespace Go.Proofs.YtgjdogkciklgkaaDoor
open Go.RowKit

theorem PBlk.ch6 {w : World} {b : Nat} {st : PSt} {v : Value} (h : PBlk w b st v) : w.heap[b]? = some (.cells (chB (pCells st v) 6 st.rk st.rn) 67 (0, 0)) := h
theorem of_ch6 {w : World} {b : Nat} {st : PSt} {v : Value} {k : List UInt8} {n : Nat} (h : w.heap[b]? = some (.cells (chB (pCells st v) 6 k n) 67 (0, 0))) : PBlk w b { st with rk := k, rn := n } v := h
theorem PBlk.ch3 {w : World} {b : Nat} {st : PSt} {v : Value} (h : PBlk w b st v) : w.heap[b]? = some (.cells (chB (pCells st v) 3 st.sk st.sn) 67 (0, 0)) := h
theorem of_ch3 {w : World} {b : Nat} {st : PSt} {v : Value} {k : List UInt8} {n : Nat} (h : w.heap[b]? = some (.cells (chB (pCells st v) 3 k n) 67 (0, 0))) : PBlk w b { st with sk := k, sn := n } v := h
theorem Tab.bel {w w' : World} {B : Nat} (h : Tab w) (hb : Bel B w w') (hB : 7 < B) : Tab w' :=
  ⟨Nat.lt_of_lt_of_le h.lt hb.size, fun t ht => (hb.cell (p := ⟨7, t, none⟩) hB).trans (h.tab t ht)⟩
theorem Tab.drew {w : World} (h : Tab w) : Tab w.drew := ⟨h.lt, h.tab⟩
theorem partySize (st : PSt) (v : Value) : 6 + 1 < (pCells st v).size := by show 7 < 9; decide
theorem partySize3 (st : PSt) (v : Value) : 3 + 1 < (pCells st v).size := by show 4 < 9; decide
theorem Chg.ofDrew {b : Nat} {a w : World} (h : Chg b a.drew w) : Chg b a w := ⟨h.os, h.output, h.size, h.block⟩
/-- skip and keep, one behind the other. -/
theorem skipS {base b n : Nat} {st : PSt} {v sv : Value} {w w1 : World} (hP : PBlk w b st v) (hO : Own w base v st.kept) (hB : base ≤ b) (ho1 : Own w1 w.heap.size sv (skipL st.theirs st.rk st.rn (n - st.rn)))
    (hP1 : w1.heap[b]? = some (.cells (chB (pCells st v) 6 (nxN st.rk (n - st.rn)) (st.rn + (n - st.rn))) 67 (0, 0))) (hC : Chg b w w1) :
    PAt w1 base b { st with rk := nxN st.rk (n - st.rn), rn := st.rn + (n - st.rn) } ∧ Own w1 base sv (skipL st.theirs st.rk st.rn (n - st.rn)) ∧ Bel base w w1 :=
  ⟨⟨v, of_ch6 hP1, hO.chg hC hP (by decide)⟩, ho1.base (Nat.le_trans hB (Nat.le_of_lt hP.lt)), hC.bel hB (Nat.le_trans hB (Nat.le_of_lt hP.lt))⟩

set_option maxRecDepth 100000 in
set_option maxHeartbeats 4000000 in
theorem reachP (base b n : Nat) (st : PSt) (hW : st.Wf) (hr : st.rk ≠ []) (hn : n ≤ 65536) (w : World) (hT : Tab w) (hG : 7 < base) (hp : PAt w base b st) (hB : base ≤ b) :
    Calls Tryd.prog 96 #[.pointer (some ⟨b, 0, none⟩), .int .i64 (n : Int)] w fun e w' => e = .returned (.string (str (reachK st n))) ∧ PAt w' base b (reachS st n) ∧ Bel base w w' := by
  obtain ⟨v, hP, hO⟩ := hp
  have hlt := hP.lt
  obtain ⟨c0, c1, c2, c3, c4, c5, c6, c7, c8⟩ := hP.all
  have hrl : st.rk.length = 32 := hW.rk.resolve_left hr
  have hrn := hW.rn
  have hkl := hW.kept
  have HN := hide (nxN_length st.rk hrl (n - st.rn))
  have HP := hide hP
  have HO := hide hO
  have HT := hide hT
  have HR : Hid (∀ kp : List KK, reachS st n = { st with kept := keepL st.kept (skipL st.theirs st.rk st.rn (n - st.rn)), rk := nxK (nxN st.rk (n - st.rn)), rn := st.rn + (n - st.rn) + 1 }) := fun _ => rfl
  have HKey : Hid (reachK st n = mkK (nxN st.rk (n - st.rn))) := rfl
  clear hP hO c0 c1 c3 c4 c5 c6 c7 c8 hT hr hW
  go_enter Tryd.func96, Tryd.ntmps96
  go_wp2_with fail
  go_region_held3 (fun w' => w'.cell? ⟨b, 2, none⟩ = some (.string (str st.theirs))) (first | assumption | exact c2) (first | (go_at_call 98; refine (skipB b 6 st.rn n st.theirs st.rk (pCells st v) 67 (by decide) (partySize st v) (by omega) (by omega) (by omega) (by omega) _ HT.out.drew HP.out.ch6).mono ?_; rintro e w1 ⟨sv, rfl, ho1, hP1, hC1⟩; obtain ⟨HP1, HO1, HB1⟩ := skipS HP.out HO.out hB ho1 hP1 (Chg.ofDrew hC1); have d2 := HP1.choose_spec.1.all.2.2.1; clear ho1 hP1 hC1) | (go_at_call 97; refine (keepP base b _ _ _ (by show st.kept.length ≤ 1000; omega) (by rw [skipL_length]; omega) _ HP1 HO1 hB).mono ?_; rintro e w2 ⟨rfl, hp2, hb2⟩; have d2 := hp2.choose_spec.1.all.2.2.1))
  obtain ⟨v2, hP2, hO2⟩ := hp2
  have HP2 := hide hP2
  have HO2 := hide hO2
  have HB2 := hide (HB1.trans hb2)
  clear hP2 hO2 HB1 hb2 HP1 HO1 d2 c2
  go_wp2_with fail
  refine (stepB b 6 (st.rn + (n - st.rn)) (nxN st.rk (n - st.rn)) _ 67 (partySize _ v2) (by have := HN.out; omega) (by omega) _ (HT.out.bel HB2.out hG) HP2.out.ch6).mono ?_
  rintro e w3 ⟨rfl, hP3, hC3⟩
  have HP3 := hide hP3
  have HO3 := hide (HO2.out.chg hC3 HP2.out (by decide))
  have HB3 := hide (HB2.out.trans (hC3.bel hB (Nat.le_trans hB (Nat.le_of_lt HP2.out.lt))))
  clear hP3 hC3
  go_wp2
  go_ret
  exact ⟨by rw [HKey.out]; rfl, ⟨v2, HP3.out, HO3.out⟩, HB3.out⟩

end Go.Proofs.YtgjdogkciklgkaaDoor
