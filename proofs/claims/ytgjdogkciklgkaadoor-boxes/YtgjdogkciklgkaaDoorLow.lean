/-
  Small helpers of this seat's walks.
-/
import Derived.Test.YtgjdogkciklgkaaDoorChecked
import Derived.WalkKit
import Derived.Outline
import Derived.Below
import Derived.OwnWalk
import Derived.WalkSpells
import Derived.Laws.BitsAllLaws
import Derived.BigQuiet
import Derived.Deep.QuietTactic
import Derived.Laws.Rows
import Derived.Deep.Draws
import Derived.Laws.BytesArg
import Derived.Lib.Strings
import Derived.Laws.ShiftsVarLaws
namespace Go.Proofs.YtgjdogkciklgkaaDoor
open Go.RowKit
/-- Below block number B the world w' is as w was (the tape, which no contract of ours speaks of, aside). -/
structure Bel (B : Nat) (w w' : World) : Prop where
  os : w'.os = w.os
  output : w'.output = w.output
  size : w.heap.size ≤ w'.heap.size
  block : ∀ k, k < B → w'.heap[k]? = w.heap[k]?
theorem Bel.refl (B : Nat) (w : World) : Bel B w w := ⟨rfl, rfl, Nat.le_refl _, fun _ _ => rfl⟩
theorem Bel.trans {B : Nat} {a b c : World} (h : Bel B a b) (k : Bel B b c) : Bel B a c :=
  ⟨k.os.trans h.os, k.output.trans h.output, Nat.le_trans h.size k.size, fun i hi => (k.block i hi).trans (h.block i hi)⟩
theorem Bel.mono {B B' : Nat} {w w' : World} (h : Bel B w w') (hB : B' ≤ B) : Bel B' w w' := ⟨h.os, h.output, h.size, fun k hk => h.block k (Nat.lt_of_lt_of_le hk hB)⟩
theorem Bel.drew {B : Nat} {a w : World} (h : Bel B a w) : Bel B a w.drew := ⟨h.os, h.output, h.size, h.block⟩
theorem Bel.alloc {B : Nat} {a w : World} (h : Bel B a w) (hB : B ≤ w.heap.size) (o : Obj) : Bel B a (w.alloc o) :=
  h.trans ⟨rfl, rfl, by simp, fun k hk => Below.heap_alloc _ _ _ (by omega)⟩
theorem Bel.setCell {B : Nat} {a w : World} (h : Bel B a w) {p : Addr} (hp : B ≤ p.block) (u : Value) : Bel B a (w.setCell p u) :=
  h.trans ⟨rfl, rfl, by simp [World.setCell], fun k hk => Below.heap_setCell _ _ _ _ (by omega)⟩
theorem Bel.cell {B : Nat} {w w' : World} (h : Bel B w w') {p : Addr} (hp : p.block < B) : w'.cell? p = w.cell? p := World.cell?_of_block (w := w) (h.block p.block hp)
theorem Bel.frozen {B : Nat} {w w' : World} (h : Bel B w w') {p : Addr} (hp : p.block < B) : w'.frozen? p = w.frozen? p := World.frozen?_of_block (w := w) (h.block p.block hp)
theorem Bel.frame {W w' : World} (h : Bel W.heap.size W w') (may : MemPlace → Prop) : W.keptBut w' may := by
  refine ⟨h.os, h.output, fun i hi => ?_⟩
  rw [h.block i hi]
  split <;> simp_all
theorem Bel.grown {B : Nat} {a w w' : World} {row : Option Nat} (h : Bel B a w) (hg : w.grownBy w' row) (hB : B ≤ w.heap.size) (hr : ∀ k, row = some k → B ≤ k) : Bel B a w' :=
  h.trans ⟨hg.os, hg.output, hg.size, fun k hk => hg.block k (by omega) (fun e => by have := hr k e.symm; omega)⟩
theorem Bel.below {B : Nat} {w w' : World} (h : Below B w w') : Bel B w w' := ⟨h.os, h.output, h.size, h.block⟩

theorem hide {p : Prop} (h : p) : Hid p := h
theorem unhide {p : Prop} (h : Hid p) : p := h
theorem heapOld {w : World} {k : Nat} {o x : Obj} (h : w.heap[k]? = some x) : (w.alloc o).heap[k]? = some x := by
  have hlt : k < w.heap.size := by
    rcases Nat.lt_or_ge k w.heap.size with h' | h'
    · exact h'
    · simp [Array.getElem?_eq_none h'] at h
  show (w.heap.push o)[k]? = _
  simp only [Array.getElem?_push, Nat.ne_of_lt hlt, if_false]
  exact h
theorem cell_lt {w : World} {p : Addr} {v : Value} (h : w.cell? p = some v) : p.block < w.heap.size := by
  rcases Nat.lt_or_ge p.block w.heap.size with h' | h'
  · exact h'
  · simp [World.cell?, Array.getElem?_eq_none h'] at h

theorem bcell {W w1 : World} (hb : Bel W.heap.size W w1) : (∀ b o, b < W.heap.size → w1.cell? ⟨b, o, none⟩ = W.cell? ⟨b, o, none⟩) ∧ (∀ b o, b < W.heap.size → w1.frozen? ⟨b, o, none⟩ = W.frozen? ⟨b, o, none⟩) :=
  ⟨fun b o h => hb.cell (p := ⟨b, o, none⟩) h, fun b o h => hb.frozen (p := ⟨b, o, none⟩) h⟩
theorem ret_int {k : IntKind} {a b : Int} (h : a = b) : Ending.returned (.int k a) = .returned (.int k b) := by rw [h]
end Go.Proofs.YtgjdogkciklgkaaDoor
namespace Go.Proofs.YtgjdogkciklgkaaDoor
open Go.RowKit

theorem xor32 {x y : Nat} (hx : x < 4294967296) (hy : y < 4294967296) : x ^^^ y < 4294967296 := Nat.xor_lt_two_pow (n := 32) hx hy
theorem or32 {x y : Nat} (hx : x < 4294967296) (hy : y < 4294967296) : x ||| y < 4294967296 := Nat.or_lt_two_pow (n := 32) hx hy
theorem and32 {x y : Nat} (hy : y < 4294967296) : x &&& y < 4294967296 := Nat.and_lt_two_pow (n := 32) _ hy
theorem and32' {x y : Nat} (hx : x < 4294967296) : x &&& y < 4294967296 := by rw [Nat.and_comm]; exact and32 hx

theorem ofInt_i64 (a : Nat) (ha : a < 18446744073709551616) : (BitVec.ofInt IntKind.i64.bits (a : Int)).toNat = a := by
  show (BitVec.ofInt 64 (a : Int)).toNat = a
  rw [BitVec.ofInt_natCast, BitVec.toNat_ofNat, Nat.mod_eq_of_lt ha]

theorem wrap_i64_nat (a : Nat) (ha : a < 9223372036854775808) : IntKind.i64.wrap (a : Int) = a := by
  have e : ((a : Int) % 18446744073709551616) = a := by omega
  have h : IntKind.i64.wrap (a : Int) = if ((a : Int) % 18446744073709551616) ≥ 9223372036854775808 then ((a : Int) % 18446744073709551616) - 18446744073709551616 else ((a : Int) % 18446744073709551616) := by
    simp [IntKind.wrap, IntKind.bits, IntKind.signed]
  rw [h, e, if_neg (by omega)]

theorem i64_and_nat (a b : Nat) (ha : a < 9223372036854775808) (hb : b < 9223372036854775808) : bits .and .i64 (a : Int) (b : Int) = ((a &&& b : Nat) : Int) := by
  show IntKind.i64.wrap ((BitVec.ofInt IntKind.i64.bits (a : Int) &&& BitVec.ofInt IntKind.i64.bits (b : Int)).toNat : Int) = _
  rw [BitVec.toNat_and, ofInt_i64 a (by omega), ofInt_i64 b (by omega)]
  exact wrap_i64_nat _ (Nat.and_lt_two_pow (n := 63) _ hb)
theorem i64_or_nat (a b : Nat) (ha : a < 9223372036854775808) (hb : b < 9223372036854775808) : bits .or .i64 (a : Int) (b : Int) = ((a ||| b : Nat) : Int) := by
  show IntKind.i64.wrap ((BitVec.ofInt IntKind.i64.bits (a : Int) ||| BitVec.ofInt IntKind.i64.bits (b : Int)).toNat : Int) = _
  rw [BitVec.toNat_or, ofInt_i64 a (by omega), ofInt_i64 b (by omega)]
  exact wrap_i64_nat _ (Nat.or_lt_two_pow (n := 63) ha hb)
theorem i64_xor_nat (a b : Nat) (ha : a < 9223372036854775808) (hb : b < 9223372036854775808) : bits .xor .i64 (a : Int) (b : Int) = ((a ^^^ b : Nat) : Int) := by
  show IntKind.i64.wrap ((BitVec.ofInt IntKind.i64.bits (a : Int) ^^^ BitVec.ofInt IntKind.i64.bits (b : Int)).toNat : Int) = _
  rw [BitVec.toNat_xor, ofInt_i64 a (by omega), ofInt_i64 b (by omega)]
  exact wrap_i64_nat _ (Nat.xor_lt_two_pow (n := 63) ha hb)

theorem neg_and31 (n : Nat) (h0 : 0 < n) (h : n < 32) : bits .and .u64 (IntKind.u64.wrap (-(n : Int))) 31 = 32 - (n : Int) := by
  rw [IntKind.wrap_u64]
  have e : (-(n : Int)) % 18446744073709551616 = ((18446744073709551616 - n : Nat) : Int) := by omega
  rw [e]
  have := u64_and_nat (18446744073709551616 - n) 31 (by omega) (by omega)
  rw [show ((31 : Nat) : Int) = 31 from rfl] at this
  rw [this, nat_mask5]
  omega

/-- A word turned right. -/
def rotr (n x : Nat) : Nat := x / 2 ^ n ||| (x * 2 ^ (32 - n)) % 4294967296

theorem rotr_lt (n x : Nat) (hx : x < 4294967296) : rotr n x < 4294967296 :=
  or32 (Nat.lt_of_le_of_lt (Nat.div_le_self _ _) hx) (Nat.mod_lt _ (by decide))

theorem mask32 (x : Nat) : x &&& 4294967295 = x % 4294967296 := Nat.and_two_pow_sub_one_eq_mod x 32

/-- What 'turn' comes to. -/
theorem turn_eq (n x : Nat) (h0 : 0 < n) (h : n < 32) (hx : x < 4294967296) :
    bits .and .i64 (bits .or .i64 ((x : Int) / 2 ^ n) (wrap64 ((x : Int) * 2 ^ (32 - n)))) 4294967295 = (rotr n x : Nat) := by
  have hp : 2 ^ (32 - n) ≤ 2 ^ 31 := Nat.pow_le_pow_right (by decide) (by omega)
  have hm : x * 2 ^ (32 - n) < 9223372036854775808 := Nat.lt_of_le_of_lt (Nat.mul_le_mul (show x ≤ 4294967295 by omega) hp) (by decide)
  have hd : x / 2 ^ n < 4294967296 := Nat.lt_of_le_of_lt (Nat.div_le_self _ _) hx
  have e1 : (x : Int) / 2 ^ n = ((x / 2 ^ n : Nat) : Int) := by push_cast; rfl
  have e2 : (x : Int) * 2 ^ (32 - n) = ((x * 2 ^ (32 - n) : Nat) : Int) := by push_cast; rfl
  have e3 : wrap64 ((x : Int) * 2 ^ (32 - n)) = ((x * 2 ^ (32 - n) : Nat) : Int) := by rw [e2]; unfold wrap64; omega
  rw [e1, e3, i64_or_nat _ _ (by omega) hm]
  have := i64_and_nat (x / 2 ^ n ||| x * 2 ^ (32 - n)) 4294967295 (Nat.or_lt_two_pow (n := 63) (by omega) hm) (by decide)
  rw [show ((4294967295 : Nat) : Int) = 4294967295 from rfl] at this
  rw [this, mask32]
  have h1 := Nat.or_mod_two_pow (a := x / 2 ^ n) (b := x * 2 ^ (32 - n)) (n := 32)
  have h2 : x / 2 ^ n % 2 ^ 32 = x / 2 ^ n := Nat.mod_eq_of_lt hd
  rw [h2] at h1
  exact congrArg Int.ofNat h1
end Go.Proofs.YtgjdogkciklgkaaDoor
namespace Go.Proofs.YtgjdogkciklgkaaDoor

theorem getD_in {α : Type} (l : List α) (d : α) {t : Nat} (h : t < l.length) : l.getD t d = l[t] := by simp [h]
theorem getD_out {α : Type} (l : List α) (d : α) {t : Nat} (h : l.length ≤ t) : l.getD t d = d := by simp [List.getD, List.getElem?_eq_none h]

def chf (x y z : Nat) : Nat := (x &&& y) ^^^ ((x ^^^ 4294967295) &&& z)
def majf (x y z : Nat) : Nat := (x &&& y) ^^^ (x &&& z) ^^^ (y &&& z)
def big0 (x : Nat) : Nat := rotr 2 x ^^^ rotr 13 x ^^^ rotr 22 x
def big1 (x : Nat) : Nat := rotr 6 x ^^^ rotr 11 x ^^^ rotr 25 x
def sml0 (x : Nat) : Nat := rotr 7 x ^^^ rotr 18 x ^^^ x / 8
def sml1 (x : Nat) : Nat := rotr 17 x ^^^ rotr 19 x ^^^ x / 1024

theorem chf_lt {x y z : Nat} (hy : y < 4294967296) (hz : z < 4294967296) : chf x y z < 4294967296 := xor32 (and32 hy) (and32 hz)
theorem majf_lt {x y z : Nat} (hy : y < 4294967296) (hz : z < 4294967296) : majf x y z < 4294967296 := xor32 (xor32 (and32 hy) (and32 hz)) (and32 hz)
theorem big0_lt {x : Nat} (hx : x < 4294967296) : big0 x < 4294967296 := xor32 (xor32 (rotr_lt _ _ hx) (rotr_lt _ _ hx)) (rotr_lt _ _ hx)
theorem big1_lt {x : Nat} (hx : x < 4294967296) : big1 x < 4294967296 := xor32 (xor32 (rotr_lt _ _ hx) (rotr_lt _ _ hx)) (rotr_lt _ _ hx)
theorem sml0_lt {x : Nat} (hx : x < 4294967296) : sml0 x < 4294967296 := xor32 (xor32 (rotr_lt _ _ hx) (rotr_lt _ _ hx)) (by omega)
theorem sml1_lt {x : Nat} (hx : x < 4294967296) : sml1 x < 4294967296 := xor32 (xor32 (rotr_lt _ _ hx) (rotr_lt _ _ hx)) (by omega)

/-- The constants of the rounds. -/
def kTab : List Nat := [1116352408, 1899447441, 3049323471, 3921009573, 961987163, 1508970993, 2453635748, 2870763221, 3624381080, 310598401, 607225278, 1426881987, 1925078388, 2162078206, 2614888103, 3248222580, 3835390401, 4022224774, 264347078, 604807628, 770255983, 1249150122, 1555081692, 1996064986, 2554220882, 2821834349, 2952996808, 3210313671, 3336571891, 3584528711, 113926993, 338241895, 666307205, 773529912, 1294757372, 1396182291, 1695183700, 1986661051, 2177026350, 2456956037, 2730485921, 2820302411, 3259730800, 3345764771, 3516065817, 3600352804, 4094571909, 275423344, 430227734, 506948616, 659060556, 883997877, 958139571, 1322822218, 1537002063, 1747873779, 1955562222, 2024104815, 2227730452, 2361852424, 2428436474, 2756734187, 3204031479, 3329325298]

theorem kTab_length : kTab.length = 64 := rfl
theorem kTab_all : kTab.all (fun x => decide (x < 4294967296)) = true := by decide
theorem kTab_lt (t : Nat) : kTab.getD t 0 < 4294967296 := by
  by_cases h : t < 64
  · have := List.all_eq_true.1 kTab_all (kTab.getD t 0) (by rw [getD_in _ _ (by rw [kTab_length]; exact h)]; exact List.getElem_mem _)
    simpa using this
  · rw [getD_out _ _ (by rw [kTab_length]; omega)]; decide

/-- Byte i of a list. -/
def byteAt (m : List UInt8) (i : Nat) : Nat := (m.getD i 0).toNat
theorem byteAt_lt (m : List UInt8) (i : Nat) : byteAt m i < 256 := UInt8.toNat_lt _

/-- Word t of a block. -/
def wordAt (m : List UInt8) (t : Nat) : Nat := byteAt m (4 * t) * 16777216 + byteAt m (4 * t + 1) * 65536 + byteAt m (4 * t + 2) * 256 + byteAt m (4 * t + 3)
theorem wordAt_lt (m : List UInt8) (t : Nat) : wordAt m t < 4294967296 := by
  have h0 := byteAt_lt m (4 * t)
  have h1 := byteAt_lt m (4 * t + 1)
  have h2 := byteAt_lt m (4 * t + 2)
  have h3 := byteAt_lt m (4 * t + 3)
  unfold wordAt
  omega

/-- The next word of a schedule. -/
def nextW (l : List Nat) (t : Nat) : Nat := (sml1 (l.getD (t - 2) 0) + l.getD (t - 7) 0 + sml0 (l.getD (t - 15) 0) + l.getD (t - 16) 0) % 4294967296

/-- The first 16 + k words of a block's schedule. -/
def schedTo (m : List UInt8) : Nat → List Nat
  | 0 => (List.range 16).map (wordAt m)
  | k + 1 => schedTo m k ++ [nextW (schedTo m k) (16 + k)]

theorem schedTo_length (m : List UInt8) : ∀ k, (schedTo m k).length = 16 + k
  | 0 => by simp [schedTo]
  | k + 1 => by simp [schedTo, schedTo_length m k]; omega
theorem schedTo_all (m : List UInt8) : ∀ k, ∀ x ∈ schedTo m k, x < 4294967296
  | 0 => by
    intro x hx
    simp only [schedTo, List.mem_map] at hx
    obtain ⟨t, _, rfl⟩ := hx
    exact wordAt_lt m t
  | k + 1 => by
    intro x hx
    simp only [schedTo, List.mem_append, List.mem_singleton] at hx
    rcases hx with hx | rfl
    · exact schedTo_all m k x hx
    · exact Nat.mod_lt _ (by decide)
theorem getD_lt {l : List Nat} (h : ∀ x ∈ l, x < 4294967296) (t : Nat) : l.getD t 0 < 4294967296 := by
  by_cases ht : t < l.length
  · rw [getD_in _ _ ht]; exact h _ (List.getElem_mem _)
  · rw [getD_out _ _ (by omega)]; decide
theorem schedTo_lt (m : List UInt8) (k t : Nat) : (schedTo m k).getD t 0 < 4294967296 := getD_lt (schedTo_all m k) t

/-- The eight words. -/
structure St where
  a : Nat
  b : Nat
  c : Nat
  d : Nat
  e : Nat
  f : Nat
  g : Nat
  h : Nat

def St.toList (s : St) : List Nat := [s.a, s.b, s.c, s.d, s.e, s.f, s.g, s.h]
def St.ok (s : St) : Prop := s.a < 4294967296 ∧ s.b < 4294967296 ∧ s.c < 4294967296 ∧ s.d < 4294967296 ∧ s.e < 4294967296 ∧ s.f < 4294967296 ∧ s.g < 4294967296 ∧ s.h < 4294967296

/-- One round. -/
def rnd (s : St) (k w : Nat) : St :=
  ⟨(s.h + big1 s.e + chf s.e s.f s.g + k + w + (big0 s.a + majf s.a s.b s.c)) % 4294967296, s.a, s.b, s.c, (s.d + (s.h + big1 s.e + chf s.e s.f s.g + k + w)) % 4294967296, s.e, s.f, s.g⟩
theorem rnd_ok {s : St} (h : s.ok) (k w : Nat) : (rnd s k w).ok :=
  ⟨Nat.mod_lt _ (by decide), h.1, h.2.1, h.2.2.1, Nat.mod_lt _ (by decide), h.2.2.2.2.1, h.2.2.2.2.2.1, h.2.2.2.2.2.2.1⟩

/-- The first t rounds. -/
def rndTo (s : St) (ws : List Nat) : Nat → St
  | 0 => s
  | t + 1 => rnd (rndTo s ws t) (kTab.getD t 0) (ws.getD t 0)
theorem rndTo_ok {s : St} (h : s.ok) (ws : List Nat) : ∀ t, (rndTo s ws t).ok
  | 0 => h
  | t + 1 => rnd_ok (rndTo_ok h ws t) _ _

def addSt (s r : St) : St :=
  ⟨(s.a + r.a) % 4294967296, (s.b + r.b) % 4294967296, (s.c + r.c) % 4294967296, (s.d + r.d) % 4294967296, (s.e + r.e) % 4294967296, (s.f + r.f) % 4294967296, (s.g + r.g) % 4294967296, (s.h + r.h) % 4294967296⟩
theorem addSt_ok (s r : St) : (addSt s r).ok :=
  ⟨Nat.mod_lt _ (by decide), Nat.mod_lt _ (by decide), Nat.mod_lt _ (by decide), Nat.mod_lt _ (by decide), Nat.mod_lt _ (by decide), Nat.mod_lt _ (by decide), Nat.mod_lt _ (by decide), Nat.mod_lt _ (by decide)⟩

/-- The eight words behind a block. -/
def comp (s : St) (m : List UInt8) : St := addSt s (rndTo s (schedTo m 48) 64)

def iv : St := ⟨1779033703, 3144134277, 1013904242, 2773480762, 1359893119, 2600822924, 528734635, 1541459225⟩
theorem iv_ok : iv.ok := by unfold St.ok iv; decide

/-- The first k blocks of a text. -/
def compTo (p : List UInt8) : Nat → St
  | 0 => iv
  | k + 1 => comp (compTo p k) ((p.drop (64 * k)).take 64)
theorem compTo_ok (p : List UInt8) : ∀ k, (compTo p k).ok
  | 0 => iv_ok
  | _ + 1 => addSt_ok _ _

/-- n in so many bytes, the highest first. -/
def bigB (n : Nat) : Nat → List UInt8
  | 0 => []
  | k + 1 => UInt8.ofNat (n / 256 ^ k) :: bigB n k

def zerosFor (n : Nat) : Nat := (119 - n % 64) % 64
def padded (m : List UInt8) : List UInt8 := m ++ [128] ++ List.replicate (zerosFor m.length) 0 ++ bigB (8 * m.length) 8

/-- SHA-256. -/
def sha (m : List UInt8) : List UInt8 := ((compTo (padded m) ((padded m).length / 64)).toList.map fun x => bigB x 4).flatten

theorem bigB_length (n : Nat) : ∀ k, (bigB n k).length = k
  | 0 => rfl
  | k + 1 => by simp [bigB, bigB_length n k]
theorem padded_length (m : List UInt8) : (padded m).length = m.length + 9 + zerosFor m.length := by simp [padded, bigB_length]; omega
theorem padded_mod (m : List UInt8) : (padded m).length % 64 = 0 := by rw [padded_length]; unfold zerosFor; omega
theorem sha_length (m : List UInt8) : (sha m).length = 32 := by simp [sha, St.toList, bigB_length]
end Go.Proofs.YtgjdogkciklgkaaDoor
namespace Go.Proofs.YtgjdogkciklgkaaDoor
open Go.RowKit

theorem right_eq (n x : Nat) (h0 : 0 < n) (h : n < 32) (hx : x < 4294967296) :
    bits .or .u32 ((x : Int) * 2 ^ (32 - n) % 4294967296) ((x : Int) / 2 ^ (32 - (32 - n))) = ((rotr n x : Nat) : Int) := by
  have e1 : (x : Int) * 2 ^ (32 - n) % 4294967296 = ((x * 2 ^ (32 - n) % 4294967296 : Nat) : Int) := by rw [Int.natCast_emod, Int.natCast_mul, Int.natCast_pow]; rfl
  have e2 : 32 - (32 - n) = n := by omega
  have e3 : (x : Int) / 2 ^ n = ((x / 2 ^ n : Nat) : Int) := by push_cast; rfl
  rw [e1, e2, e3, u32_or_nat _ _ (Nat.mod_lt _ (by decide)) (Nat.lt_of_le_of_lt (Nat.div_le_self _ _) hx), Nat.or_comm]
  rfl

set_option maxRecDepth 100000 in
theorem right_any (x : Nat) (n : Nat) (hx : x < 4294967296) (hn0 : 0 < n) (hn : n < 32) (w : World) :
    Calls Tryd.prog 124 #[.int .u32 x, .int .i64 n] w fun e w' => e = .returned (.int .u32 (rotr n x : Nat)) ∧ w' = w := by
  have hk := neg_and31 n hn0 hn
  go_enter Tryd.func124, Tryd.ntmps124
  go_wp2
  go_ret
  exact ⟨ret_int (right_eq n x hn0 hn hx), rfl⟩

theorem turned_eq {x n1 n2 n3 : Nat} (hx : x < 4294967296) :
    bits .xor .u32 (bits .xor .u32 ((rotr n1 x : Nat) : Int) ((rotr n2 x : Nat) : Int)) ((rotr n3 x : Nat) : Int) = ((rotr n1 x ^^^ rotr n2 x ^^^ rotr n3 x : Nat) : Int) := by
  rw [u32_xor_nat _ _ (rotr_lt _ _ hx) (rotr_lt _ _ hx), u32_xor_nat _ _ (xor32 (rotr_lt _ _ hx) (rotr_lt _ _ hx)) (rotr_lt _ _ hx)]

set_option maxRecDepth 100000 in
theorem turned_any (x n1 n2 n3 : Nat) (hx : x < 4294967296) (h1 : 0 < n1 ∧ n1 < 32) (h2 : 0 < n2 ∧ n2 < 32) (h3 : 0 < n3 ∧ n3 < 32) (w : World) :
    Calls Tryd.prog 120 #[.int .u32 x, .int .i64 n1, .int .i64 n2, .int .i64 n3] w fun e w' => e = .returned (.int .u32 (rotr n1 x ^^^ rotr n2 x ^^^ rotr n3 x : Nat)) ∧ w' = w := by
  have H1 := hide h1
  have H2 := hide h2
  have H3 := hide h3
  clear h1 h2 h3
  go_enter Tryd.func120, Tryd.ntmps120
  go_wp2_with fail
  refine (right_any x n1 hx H1.out.1 H1.out.2 _).mono ?_
  rintro e w' ⟨rfl, rfl⟩
  go_wp2_with fail
  refine (right_any x n2 hx H2.out.1 H2.out.2 _).mono ?_
  rintro e w' ⟨rfl, rfl⟩
  go_wp2_with fail
  refine (right_any x n3 hx H3.out.1 H3.out.2 _).mono ?_
  rintro e w' ⟨rfl, rfl⟩
  go_wp2_with fail
  go_ret
  exact ⟨ret_int (turned_eq hx), rfl⟩

set_option maxRecDepth 100000 in
theorem turn_any (x : Nat) (n : Nat) (hx : x < 4294967296) (hn0 : 0 < n) (hn : n < 32) (w : World) :
    Calls Tryd.prog 104 #[.int .i64 x, .int .i64 n] w fun e w' => e = .returned (.int .i64 (rotr n x : Nat)) ∧ ∃ q, w' = w.drewN q := by
  go_enter Tryd.func104, Tryd.ntmps104
  go_wp2
  go_quiet (fail)
  go_wp2
  go_ret
  exact ⟨ret_int (turn_eq n x hn0 hn hx), _, rfl⟩

/-- .. the number of places as an integer, as it stands at a call. -/
theorem turn_int (x : Nat) (n : Int) (hx : x < 4294967296) (hn0 : 0 < n) (hn : n < 32) (w : World) :
    Calls Tryd.prog 104 #[.int .i64 x, .int .i64 n] w fun e w' => e = .returned (.int .i64 (rotr n.toNat x : Nat)) ∧ ∃ q, w' = w.drewN q := by
  obtain ⟨k, rfl⟩ := Int.eq_ofNat_of_zero_le (Int.le_of_lt hn0)
  exact turn_any x k hx (by omega) (by omega) w
theorem right_int (x : Nat) (n : Int) (hx : x < 4294967296) (hn0 : 0 < n) (hn : n < 32) (w : World) :
    Calls Tryd.prog 124 #[.int .u32 x, .int .i64 n] w fun e w' => e = .returned (.int .u32 (rotr n.toNat x : Nat)) ∧ w' = w := by
  obtain ⟨k, rfl⟩ := Int.eq_ofNat_of_zero_le (Int.le_of_lt hn0)
  exact right_any x k hx (by omega) (by omega) w
theorem turned_int (x : Nat) (n1 n2 n3 : Int) (hx : x < 4294967296) (h1 : 0 < n1 ∧ n1 < 32) (h2 : 0 < n2 ∧ n2 < 32) (h3 : 0 < n3 ∧ n3 < 32) (w : World) :
    Calls Tryd.prog 120 #[.int .u32 x, .int .i64 n1, .int .i64 n2, .int .i64 n3] w fun e w' => e = .returned (.int .u32 (rotr n1.toNat x ^^^ rotr n2.toNat x ^^^ rotr n3.toNat x : Nat)) ∧ w' = w := by
  obtain ⟨k1, rfl⟩ := Int.eq_ofNat_of_zero_le (Int.le_of_lt h1.1)
  obtain ⟨k2, rfl⟩ := Int.eq_ofNat_of_zero_le (Int.le_of_lt h2.1)
  obtain ⟨k3, rfl⟩ := Int.eq_ofNat_of_zero_le (Int.le_of_lt h3.1)
  exact turned_any x k1 k2 k3 hx (by omega) (by omega) (by omega) w

theorem ch_eq {x y z : Nat} (hx : x < 4294967296) (hy : y < 4294967296) (hz : z < 4294967296) :
    bits .xor .i64 (bits .and .i64 (x : Int) (y : Int)) (bits .and .i64 (bits .xor .i64 (x : Int) 4294967295) (z : Int)) = (chf x y z : Nat) := by
  have e1 := i64_xor_nat x 4294967295 (by omega) (by decide)
  rw [show ((4294967295 : Nat) : Int) = 4294967295 from rfl] at e1
  have h1 : x ^^^ 4294967295 < 4294967296 := xor32 hx (by decide)
  have h2 : x &&& y < 4294967296 := and32 hy
  have h3 : (x ^^^ 4294967295) &&& z < 4294967296 := and32 hz
  rw [e1, i64_and_nat x y (by omega) (by omega), i64_and_nat _ z (by omega) (by omega), i64_xor_nat _ _ (by omega) (by omega)]
  rfl
theorem maj_eq {x y z : Nat} (hx : x < 4294967296) (hy : y < 4294967296) (hz : z < 4294967296) :
    bits .xor .i64 (bits .xor .i64 (bits .and .i64 (x : Int) (y : Int)) (bits .and .i64 (x : Int) (z : Int))) (bits .and .i64 (y : Int) (z : Int)) = (majf x y z : Nat) := by
  have h2 : x &&& y < 4294967296 := and32 hy
  have h3 : x &&& z < 4294967296 := and32 hz
  have h4 : y &&& z < 4294967296 := and32 hz
  have h5 := xor32 h2 h3
  rw [i64_and_nat x y (by omega) (by omega), i64_and_nat x z (by omega) (by omega), i64_and_nat y z (by omega) (by omega), i64_xor_nat _ _ (by omega) (by omega), i64_xor_nat _ _ (by omega) (by omega)]
  rfl

set_option maxRecDepth 100000 in
theorem ch_any (x y z : Nat) (hx : x < 4294967296) (hy : y < 4294967296) (hz : z < 4294967296)  (w : World) :
    Calls Tryd.prog 105 #[.int .i64 x, .int .i64 y, .int .i64 z] w fun e w' => e = .returned (.int .i64 (chf x y z : Nat)) ∧ w' = w := by
  go_enter Tryd.func105, Tryd.ntmps105
  go_wp2
  go_ret
  exact ⟨ret_int (ch_eq hx hy hz), rfl⟩
set_option maxRecDepth 100000 in
theorem maj_any (x y z : Nat) (hx : x < 4294967296) (hy : y < 4294967296) (hz : z < 4294967296)  (w : World) :
    Calls Tryd.prog 106 #[.int .i64 x, .int .i64 y, .int .i64 z] w fun e w' => e = .returned (.int .i64 (majf x y z : Nat)) ∧ w' = w := by
  go_enter Tryd.func106, Tryd.ntmps106
  go_wp2
  go_ret
  exact ⟨ret_int (maj_eq hx hy hz), rfl⟩
end Go.Proofs.YtgjdogkciklgkaaDoor
namespace Go.Proofs.YtgjdogkciklgkaaDoor
open Go.RowKit

theorem belowN {B : Nat} {a w : World} (h : Bel B a w) (n : Nat) : Bel B a (w.drewN n) := ⟨h.os, h.output, h.size, h.block⟩

theorem belowRow {B g : Nat} {a w : World} (h : Bel B a w) (hg : B ≤ g) (cs : Array Value) : Bel B a (w.setRow g cs) :=
  ⟨h.os, h.output, by rw [setRow_size]; exact h.size, fun k hk => by rw [setRow_other w g k cs (by omega)]; exact h.block k hk⟩

def rowK (k : IntKind) (l : List Nat) : Array Value := (l.map fun x : Nat => Value.int k (x : Int)).toArray
def fillTo (l : List Nat) (n : Nat) : List Nat := l ++ List.replicate (n - l.length) 0

/-- Block b of the world is a row of such numbers. -/
def Blk (w : World) (b : Nat) (t : TypeId) (k : IntKind) (l : List Nat) : Prop := w.heap[b]? = some (.cells (rowK k l) t (0, 0))

theorem rowK_size (k : IntKind) (l : List Nat) : (rowK k l).size = l.length := by simp [rowK]
theorem rowK_get (k : IntKind) (l : List Nat) (j : Nat) (h : j < l.length) : (rowK k l)[j]? = some (.int k (l.getD j 0 : Nat)) := by
  simp [rowK, h]
theorem rowK_set (k : IntKind) (l : List Nat) (j v : Nat) : (rowK k l).setIfInBounds j (.int k (v : Int)) = rowK k (l.set j v) := by
  apply Array.ext'
  simp [rowK, List.map_set]
theorem rowK_one (k : IntKind) (l : List Nat) : (rowK k l).all (·.oneCell') = true := by
  rw [Array.all_eq_true_iff_forall_mem]
  intro v hv
  simp only [rowK, List.mem_toArray, List.mem_map] at hv
  obtain ⟨x, _, rfl⟩ := hv
  rfl
theorem fillTo_length (l : List Nat) (n : Nat) (h : l.length ≤ n) : (fillTo l n).length = n := by simp [fillTo]; omega
theorem fillTo_getD (l : List Nat) (n j : Nat) : (fillTo l n).getD j 0 = l.getD j 0 := by
  unfold fillTo
  by_cases h : j < l.length
  · simp [List.getElem?_append_left h]
  · have h' : l.length ≤ j := by omega
    simp only [List.getD_eq_getElem?_getD, List.getElem?_append_right h', List.getElem?_eq_none h']
    cases hq : (List.replicate (n - l.length) 0)[j - l.length]? with
    | none => rfl
    | some v =>
      have := List.mem_of_getElem? hq
      rw [List.mem_replicate] at this
      simp [this.2]
theorem fillTo_set (l : List Nat) (n v : Nat) (h : l.length < n) : (fillTo l n).set l.length v = fillTo (l ++ [v]) n := by
  unfold fillTo
  rw [List.set_append_right _ _ (Nat.le_refl _), Nat.sub_self]
  obtain ⟨m, hm⟩ : ∃ m, n - l.length = m + 1 := ⟨n - l.length - 1, by omega⟩
  have e : n - (l ++ [v]).length = m := by simp; omega
  rw [hm, e, List.replicate_succ, List.set_cons_zero]
  simp
theorem fillTo_full (l : List Nat) (n : Nat) (h : l.length = n) : fillTo l n = l := by simp [fillTo, h]

theorem Blk.cell {w : World} {b : Nat} {t : TypeId} {k : IntKind} {l : List Nat} (h : Blk w b t k l) (j : Nat) (hj : j < l.length) : w.cell? ⟨b, j, none⟩ = some (.int k (l.getD j 0 : Nat)) := by
  rw [cell_of_row w b j _ t (0, 0) h]; exact rowK_get k l j hj
theorem Blk.frozen {w : World} {b : Nat} {t : TypeId} {k : IntKind} {l : List Nat} (h : Blk w b t k l) (j : Nat) : w.frozen? ⟨b, j, none⟩ = false := frozen_of_row w b j _ t h
theorem Blk.lt {w : World} {b : Nat} {t : TypeId} {k : IntKind} {l : List Nat} (h : Blk w b t k l) : b < w.heap.size := by
  rcases Nat.lt_or_ge b w.heap.size with h' | h'
  · exact h'
  · unfold Blk at h; simp [Array.getElem?_eq_none h'] at h
theorem Blk.below {w w' : World} {B b : Nat} {t : TypeId} {k : IntKind} {l : List Nat} (h : Blk w b t k l) (hb : Bel B w w') (hB : b < B) : Blk w' b t k l := by
  unfold Blk; rw [hb.block b hB]; exact h
theorem Blk.drewN {w : World} {b : Nat} {t : TypeId} {k : IntKind} {l : List Nat} (h : Blk w b t k l) (q : Nat) : Blk (w.drewN q) b t k l := h
theorem Blk.set {w : World} {b : Nat} {t : TypeId} {k : IntKind} {l : List Nat} (h : Blk w b t k l) (j v : Nat) : Blk (w.setCell ⟨b, j, none⟩ (.int k (v : Int))) b t k (l.set j v) := by
  unfold Blk; rw [heap_setCell_same w b j _ t _ h, rowK_set]
theorem Blk.setOther {w : World} {b : Nat} {t : TypeId} {k : IntKind} {l : List Nat} (h : Blk w b t k l) (a : Addr) (v : Value) (hne : b ≠ a.block) : Blk (w.setCell a v) b t k l := by
  unfold Blk; rw [heap_setCell_other w a b v hne]; exact h
theorem Blk.alloc {w : World} {b : Nat} {t : TypeId} {k : IntKind} {l : List Nat} (h : Blk w b t k l) (o : Obj) : Blk (w.alloc o) b t k l := heapOld h
theorem Blk.new (w : World) (t : TypeId) (k : IntKind) (l : List Nat) : Blk (w.alloc (.cells (rowK k l) t)) w.heap.size t k l := heap_alloc_new w _
theorem Blk.new2 (w : World) (o : Obj) (t : TypeId) (k : IntKind) (l : List Nat) : Blk ((w.alloc o).alloc (.cells (rowK k l) t)) (w.heap.size + 1) t k l := heap_alloc2_new w o _
theorem Blk.new2old (w : World) (o : Obj) (t : TypeId) (k : IntKind) (l : List Nat) : Blk ((w.alloc (.cells (rowK k l) t)).alloc o) w.heap.size t k l := heap_alloc2_old w _ o
/-- A whole row stored into a block: the world behind it is a letter. -/
theorem wpList_storeB {P : Program} {w : World} {ops : Array Oper} {rest : List Oper} {o : Oper} {a : Act} {Q : Exit → Act → World → Prop} (hgd : o.guard = none) (ty : TypeId) (x y : Operand) (ho : o.op = .store ty x y) (hd : o.dst = none)
    (g : Nat) (cells : Array Value) (hx : a.eval x = .pointer (some ⟨g, 0, none⟩)) (hy : a.eval y = .agg cells)
    (t : TypeId) (old : Array Value) (hg : w.heap[g]? = some (.cells old t (0, 0))) (hi : (P.info? ty).map (·.size) = some cells.size)
    (hold : old.size = cells.size) (h1 : cells.all (·.oneCell') = true)
    (h : ∀ w', Bel g w w' → (∀ k, k ≠ g → w'.heap[k]? = w.heap[k]?) → w'.heap[g]? = some (.cells cells t (0, 0)) → wpList P ops Q rest a w') : wpList P ops Q (o :: rest) a w := by
  refine wpList_store_row hgd ty x y ho g cells hx hy t old hg hi hold h1 ?_
  have := h (w.setRow g cells) (belowRow (Bel.refl _ _) (Nat.le_refl _) _) (fun k hk => setRow_other w g k cells hk) (setRow_heap w g old cells t _ hg)
  rw [hd]
  exact this
end Go.Proofs.YtgjdogkciklgkaaDoor
namespace Go.Proofs.YtgjdogkciklgkaaDoor
open Go.RowKit

def str (l : List UInt8) : ByteArray := ⟨l.toArray⟩
theorem str_size (l : List UInt8) : (str l).size = l.length := by simp [str, ByteArray.size]
theorem str_data (l : List UInt8) : (str l).data.toList = l := by simp [str]
theorem str_toList (l : List UInt8) : (str l).toList = l := by rw [ByteArray.toList_eq, str_data]
theorem str_of (s : ByteArray) : str s.data.toList = s := by cases s; simp [str]
theorem str_append (a b : List UInt8) : str a ++ str b = str (a ++ b) := ByteArray.mk_append_mk a b
theorem str_nil : (⟨#[]⟩ : ByteArray) = str [] := rfl

/-- 's + t'. -/
theorem addS (a b : List UInt8) (h : a.length + b.length ≤ 9223372036854775807) (w : World) : (Op.stringOp .add (str a) (str b)).run Tryd.prog w = .ok (.string (str (a ++ b))) w := by
  rw [run_string_add_sum w _ _ (by rw [str_size, str_size]; exact h), str_append]

/-- 'string(b)', b a row of bytes from its head. -/
theorem convRow {w : World} {b n c : Nat} {t : TypeId} {l : List Nat} (h : Blk w b t .u8 l) (hn : n ≤ l.length) :
    (convert 59 9 (.slice (some ⟨b, 0, none⟩) n c)).run Tryd.prog w = .ok (.string (str ((l.take n).map UInt8.ofNat))) w := by
  have := run_convert_bytes_arg (P := Tryd.prog) w 59 5 Tryd.underlying59 Tryd.underlying5 b 0 n c ((l.take n).map fun x : Nat => (x : Int)) (by simp; omega)
    (fun i hi => by
      rw [Nat.zero_add, h.cell i (by omega)]
      simp [show i < l.length by omega, hi]) 9 Tryd.underlying9
  rw [this]
  simp [strOfNums, str]
  rfl

/-- 'string([]byte{z})', the block just laid. -/
theorem conv1 (z : Int) (w : World) :
    (convert 59 9 (.slice (some ⟨w.heap.size, 0, none⟩) 1 1)).run Tryd.prog (w.alloc (.cells #[.int .u8 z] 5)) = .ok (.string (str [UInt8.ofNat z.toNat])) (w.alloc (.cells #[.int .u8 z] 5)) :=
  run_convert_bytes_arg (P := Tryd.prog) _ 59 5 Tryd.underlying59 Tryd.underlying5 w.heap.size 0 1 1 [z] rfl
    (fun i hi => by
      obtain rfl : i = 0 := by omega
      rw [World.cell?_alloc_new]
      rfl) 9 Tryd.underlying9

/-- 's[i]', s a string of so many bytes. -/
theorem idxL (l : List UInt8) (i : Int) (j : Nat) (hi : i = j) (h : j < l.length) (w : World) :
    (Instr.index 9 (.string (str l)) (.int .i64 i)).run Tryd.prog w = .ok (.int .u8 (byteAt l j : Nat)) w := by
  subst hi
  have hs : j < (str l).size := by rw [str_size]; exact h
  rw [run_index_string w _ _ _ _ Tryd.underlying9, dif_pos ⟨by omega, by omega⟩]
  have e : byteAt l j = ((str l)[j]'hs).toNat := by
    unfold byteAt
    rw [getD_in _ _ h]
    rfl
  rw [e]
  rfl
/-- 's[a:b]'. -/
theorem str_extract (l : List UInt8) (a b : Nat) : (str l).extract a b = str ((l.drop a).take (b - a)) := by
  rw [← str_of ((str l).extract a b), Lib.extract_data, str_data]
theorem sliceL (l : List UInt8) (i j : Int) (a b : Nat) (hi : i = a) (hj : j = b) (hab : a ≤ b) (hb : b ≤ l.length) (w : World) :
    (Instr.slice 9 (.string (str l)) (some (.int .i64 i)) (some (.int .i64 j)) none).run Tryd.prog w = .ok (.string (str ((l.drop a).take (b - a)))) w := by
  subst hi; subst hj
  rw [run_slice_string w _ _ _ _ _ _ Tryd.underlying9 (by omega) (by omega) (by rw [str_size]; omega)]
  rw [Int.toNat_natCast, Int.toNat_natCast, str_extract]
def strLen : Value → Nat
  | .string s => s.size
  | _ => 0
theorem ofNat_mod (n : Nat) : UInt8.ofNat (n % 256) = UInt8.ofNat n := by
  apply UInt8.toNat_inj.1
  simp
end Go.Proofs.YtgjdogkciklgkaaDoor
