/-
  SHA-256 in plain Lean: what both the program and the document's answer come to. No program in sight.
-/
import Derived.Test.YtlchpbnpmgfaoaaDoorNum
namespace Go.Proofs.YtlchpbnpmgfaoaaDoor

theorem getD_in {α : Type} (l : List α) (d : α) {t : Nat} (h : t < l.length) : l.getD t d = l[t] := by simp [h]
theorem getD_out {α : Type} (l : List α) (d : α) {t : Nat} (h : l.length ≤ t) : l.getD t d = d := by simp [List.getD, List.getElem?_eq_none h]

def chf (x y z : Nat) : Nat := (x &&& y) ^^^ ((x ^^^ 4294967295) &&& z)
def majf (x y z : Nat) : Nat := (x &&& y) ^^^ (x &&& z) ^^^ (y &&& z)
def big0 (x : Nat) : Nat := rotr 2 x ^^^ rotr 13 x ^^^ rotr 22 x
def big1 (x : Nat) : Nat := rotr 6 x ^^^ rotr 11 x ^^^ rotr 25 x
def sml0 (x : Nat) : Nat := rotr 7 x ^^^ rotr 18 x ^^^ x / 8
def sml1 (x : Nat) : Nat := rotr 17 x ^^^ rotr 19 x ^^^ x / 1024

theorem chf_lt {x y z : Nat} (hy : y < 4294967296) (hz : z < 4294967296) : chf x y z < 4294967296 := xor32 (and32 hy) (and32 hz)
theorem majf_lt {x y z : Nat} (hy : y < 4294967296) (hz : z < 4294967296) : majf x y z < 4294967296 := xor32 (xor32 (and32 hy) (and32 hz)) (and32 hz)
theorem big0_lt {x : Nat} (hx : x < 4294967296) : big0 x < 4294967296 := xor32 (xor32 (rotr_lt _ _ hx) (rotr_lt _ _ hx)) (rotr_lt _ _ hx)
theorem big1_lt {x : Nat} (hx : x < 4294967296) : big1 x < 4294967296 := xor32 (xor32 (rotr_lt _ _ hx) (rotr_lt _ _ hx)) (rotr_lt _ _ hx)
theorem sml0_lt {x : Nat} (hx : x < 4294967296) : sml0 x < 4294967296 := xor32 (xor32 (rotr_lt _ _ hx) (rotr_lt _ _ hx)) (by omega)
theorem sml1_lt {x : Nat} (hx : x < 4294967296) : sml1 x < 4294967296 := xor32 (xor32 (rotr_lt _ _ hx) (rotr_lt _ _ hx)) (by omega)

/-- The constants of the rounds. -/
def kTab : List Nat := [1116352408, 1899447441, 3049323471, 3921009573, 961987163, 1508970993, 2453635748, 2870763221, 3624381080, 310598401, 607225278, 1426881987, 1925078388, 2162078206, 2614888103, 3248222580, 3835390401, 4022224774, 264347078, 604807628, 770255983, 1249150122, 1555081692, 1996064986, 2554220882, 2821834349, 2952996808, 3210313671, 3336571891, 3584528711, 113926993, 338241895, 666307205, 773529912, 1294757372, 1396182291, 1695183700, 1986661051, 2177026350, 2456956037, 2730485921, 2820302411, 3259730800, 3345764771, 3516065817, 3600352804, 4094571909, 275423344, 430227734, 506948616, 659060556, 883997877, 958139571, 1322822218, 1537002063, 1747873779, 1955562222, 2024104815, 2227730452, 2361852424, 2428436474, 2756734187, 3204031479, 3329325298]

theorem kTab_length : kTab.length = 64 := rfl
theorem kTab_all : kTab.all (fun x => decide (x < 4294967296)) = true := by decide
theorem kTab_lt (t : Nat) : kTab.getD t 0 < 4294967296 := by
  by_cases h : t < 64
  · have := List.all_eq_true.1 kTab_all (kTab.getD t 0) (by rw [getD_in _ _ (by rw [kTab_length]; exact h)]; exact List.getElem_mem _)
    simpa using this
  · rw [getD_out _ _ (by rw [kTab_length]; omega)]; decide

/-- Byte i of a list. -/
def byteAt (m : List UInt8) (i : Nat) : Nat := (m.getD i 0).toNat
theorem byteAt_lt (m : List UInt8) (i : Nat) : byteAt m i < 256 := UInt8.toNat_lt _

/-- Word t of a block. -/
def wordAt (m : List UInt8) (t : Nat) : Nat := byteAt m (4 * t) * 16777216 + byteAt m (4 * t + 1) * 65536 + byteAt m (4 * t + 2) * 256 + byteAt m (4 * t + 3)
theorem wordAt_lt (m : List UInt8) (t : Nat) : wordAt m t < 4294967296 := by
  have h0 := byteAt_lt m (4 * t)
  have h1 := byteAt_lt m (4 * t + 1)
  have h2 := byteAt_lt m (4 * t + 2)
  have h3 := byteAt_lt m (4 * t + 3)
  unfold wordAt
  omega

/-- The next word of a schedule. -/
def nextW (l : List Nat) (t : Nat) : Nat := (sml1 (l.getD (t - 2) 0) + l.getD (t - 7) 0 + sml0 (l.getD (t - 15) 0) + l.getD (t - 16) 0) % 4294967296

/-- The first 16 + k words of a block's schedule. -/
def schedTo (m : List UInt8) : Nat → List Nat
  | 0 => (List.range 16).map (wordAt m)
  | k + 1 => schedTo m k ++ [nextW (schedTo m k) (16 + k)]

theorem schedTo_length (m : List UInt8) : ∀ k, (schedTo m k).length = 16 + k
  | 0 => by simp [schedTo]
  | k + 1 => by simp [schedTo, schedTo_length m k]; omega
theorem schedTo_all (m : List UInt8) : ∀ k, ∀ x ∈ schedTo m k, x < 4294967296
  | 0 => by
    intro x hx
    simp only [schedTo, List.mem_map] at hx
    obtain ⟨t, _, rfl⟩ := hx
    exact wordAt_lt m t
  | k + 1 => by
    intro x hx
    simp only [schedTo, List.mem_append, List.mem_singleton] at hx
    rcases hx with hx | rfl
    · exact schedTo_all m k x hx
    · exact Nat.mod_lt _ (by decide)
theorem getD_lt {l : List Nat} (h : ∀ x ∈ l, x < 4294967296) (t : Nat) : l.getD t 0 < 4294967296 := by
  by_cases ht : t < l.length
  · rw [getD_in _ _ ht]; exact h _ (List.getElem_mem _)
  · rw [getD_out _ _ (by omega)]; decide
theorem schedTo_lt (m : List UInt8) (k t : Nat) : (schedTo m k).getD t 0 < 4294967296 := getD_lt (schedTo_all m k) t

/-- The eight words. -/
structure St where
  a : Nat
  b : Nat
  c : Nat
  d : Nat
  e : Nat
  f : Nat
  g : Nat
  h : Nat

def St.toList (s : St) : List Nat := [s.a, s.b, s.c, s.d, s.e, s.f, s.g, s.h]
def St.ok (s : St) : Prop := s.a < 4294967296 ∧ s.b < 4294967296 ∧ s.c < 4294967296 ∧ s.d < 4294967296 ∧ s.e < 4294967296 ∧ s.f < 4294967296 ∧ s.g < 4294967296 ∧ s.h < 4294967296

/-- One round. -/
def rnd (s : St) (k w : Nat) : St :=
  ⟨(s.h + big1 s.e + chf s.e s.f s.g + k + w + (big0 s.a + majf s.a s.b s.c)) % 4294967296, s.a, s.b, s.c, (s.d + (s.h + big1 s.e + chf s.e s.f s.g + k + w)) % 4294967296, s.e, s.f, s.g⟩
theorem rnd_ok {s : St} (h : s.ok) (k w : Nat) : (rnd s k w).ok :=
  ⟨Nat.mod_lt _ (by decide), h.1, h.2.1, h.2.2.1, Nat.mod_lt _ (by decide), h.2.2.2.2.1, h.2.2.2.2.2.1, h.2.2.2.2.2.2.1⟩

/-- The first t rounds. -/
def rndTo (s : St) (ws : List Nat) : Nat → St
  | 0 => s
  | t + 1 => rnd (rndTo s ws t) (kTab.getD t 0) (ws.getD t 0)
theorem rndTo_ok {s : St} (h : s.ok) (ws : List Nat) : ∀ t, (rndTo s ws t).ok
  | 0 => h
  | t + 1 => rnd_ok (rndTo_ok h ws t) _ _

def addSt (s r : St) : St :=
  ⟨(s.a + r.a) % 4294967296, (s.b + r.b) % 4294967296, (s.c + r.c) % 4294967296, (s.d + r.d) % 4294967296, (s.e + r.e) % 4294967296, (s.f + r.f) % 4294967296, (s.g + r.g) % 4294967296, (s.h + r.h) % 4294967296⟩
theorem addSt_ok (s r : St) : (addSt s r).ok :=
  ⟨Nat.mod_lt _ (by decide), Nat.mod_lt _ (by decide), Nat.mod_lt _ (by decide), Nat.mod_lt _ (by decide), Nat.mod_lt _ (by decide), Nat.mod_lt _ (by decide), Nat.mod_lt _ (by decide), Nat.mod_lt _ (by decide)⟩

/-- The eight words behind a block. -/
def comp (s : St) (m : List UInt8) : St := addSt s (rndTo s (schedTo m 48) 64)

def iv : St := ⟨1779033703, 3144134277, 1013904242, 2773480762, 1359893119, 2600822924, 528734635, 1541459225⟩
theorem iv_ok : iv.ok := by unfold St.ok iv; decide

/-- The first k blocks of a text. -/
def compTo (p : List UInt8) : Nat → St
  | 0 => iv
  | k + 1 => comp (compTo p k) ((p.drop (64 * k)).take 64)
theorem compTo_ok (p : List UInt8) : ∀ k, (compTo p k).ok
  | 0 => iv_ok
  | _ + 1 => addSt_ok _ _

/-- n in so many bytes, the highest first. -/
def bigB (n : Nat) : Nat → List UInt8
  | 0 => []
  | k + 1 => UInt8.ofNat (n / 256 ^ k) :: bigB n k

def zerosFor (n : Nat) : Nat := (119 - n % 64) % 64
def padded (m : List UInt8) : List UInt8 := m ++ [128] ++ List.replicate (zerosFor m.length) 0 ++ bigB (8 * m.length) 8

/-- SHA-256. -/
def sha (m : List UInt8) : List UInt8 := ((compTo (padded m) ((padded m).length / 64)).toList.map fun x => bigB x 4).flatten

theorem bigB_length (n : Nat) : ∀ k, (bigB n k).length = k
  | 0 => rfl
  | k + 1 => by simp [bigB, bigB_length n k]
theorem padded_length (m : List UInt8) : (padded m).length = m.length + 9 + zerosFor m.length := by simp [padded, bigB_length]; omega
theorem padded_mod (m : List UInt8) : (padded m).length % 64 = 0 := by rw [padded_length]; unfold zerosFor; omega
theorem sha_length (m : List UInt8) : (sha m).length = 32 := by simp [sha, St.toList, bigB_length]
end Go.Proofs.YtlchpbnpmgfaoaaDoor
