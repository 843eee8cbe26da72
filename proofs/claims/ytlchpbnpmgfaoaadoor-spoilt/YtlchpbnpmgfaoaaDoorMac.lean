/-
  HMAC: the program's and the document's.
-/
import Derived.Test.YtlchpbnpmgfaoaaDoorMask
import Derived.Test.YtlchpbnpmgfaoaaDoorHash
import Derived.Test.YtlchpbnpmgfaoaaDoorRefH
namespace Go.Proofs.YtlchpbnpmgfaoaaDoor
open Go.RowKit

def hkey (key : List UInt8) : List UInt8 := if 64 < key.length then sha key else key
theorem hkey_length (key : List UInt8) : (hkey key).length ≤ 64 := by
  unfold hkey
  split
  · rw [sha_length]; decide
  · omega
def hmac (key data : List UInt8) : List UInt8 := sha (maskB (hkey key) 92 ++ sha (maskB (hkey key) 54 ++ data))
theorem hmac_length (key data : List UInt8) : (hmac key data).length = 32 := sha_length _

/-- The table of the rounds' constants lies there. -/
structure Tab (w : World) : Prop where
  lt : 7 < w.heap.size
  tab : ∀ t, t < 64 → w.cell? ⟨7, t, none⟩ = some (.int .u32 (kTab.getD t 0 : Nat))
theorem Tab.below {w w' : World} (h : Tab w) (hb : Bel w.heap.size w w') : Tab w' :=
  ⟨Nat.lt_of_lt_of_le h.lt hb.size, fun t ht => (hb.cell (p := ⟨7, t, none⟩) h.lt).trans (h.tab t ht)⟩
theorem hashT (l : List UInt8) (hl : l.length ≤ 100000) (w : World) (hT : Tab w) :
    Calls Tryd.prog 76 #[.string (str l)] w fun e w' => e = .returned (.string (str (sha l))) ∧ Bel w.heap.size w w' := hashP l hl w hT.lt hT.tab

set_option maxRecDepth 100000 in
set_option maxHeartbeats 1000000 in
theorem macPL (key data : List UInt8) (hk : 64 < key.length) (hkl : key.length ≤ 10000) (hd : data.length ≤ 10000) (w : World) (hT : Tab w) :
    Calls Tryd.prog 65 #[.string (str key), .string (str data)] w fun e w' => e = .returned (.string (str (hmac key data))) ∧ Bel w.heap.size w w' := by
  have HT := hide hT
  have hz := str_size key
  clear hT
  have HH : Hid (hmac key data = sha (maskB (hkey key) 92 ++ sha (maskB (hkey key) 54 ++ data))) := rfl
  have HKL := hide (hkey_length key)
  have HKE : Hid (sha key = hkey key) := by show sha key = hkey key; unfold hkey; rw [if_pos hk]
  go_enter Tryd.func65, Tryd.ntmps65
  go_wp2_with fail
  refine (hashT key (by omega) _ HT.out).mono ?_
  rintro e w1 ⟨rfl, hb1⟩
  have HB1 := hide hb1
  have HT1 := hide (HT.out.below hb1)
  clear hb1 HT
  rw [HKE.out]
  clear HKE
  generalize hkey key = k at *
  go_wp2_with fail
  refine (maskedI k HKL.out _ (by omega) (by omega) _).mono ?_
  rintro e w2 ⟨rfl, hb2⟩
  rw [show (92 : Int).toNat = 92 from rfl]
  have HB2 := hide (HB1.out.trans (hb2.mono HB1.out.size))
  have HT2 := hide (HT1.out.below hb2)
  clear hb2 HB1 HT1
  go_wp2_with fail
  refine (maskedI k HKL.out _ (by omega) (by omega) _).mono ?_
  rintro e w3 ⟨rfl, hb3⟩
  rw [show (54 : Int).toNat = 54 from rfl]
  have HB3 := hide (HB2.out.trans (hb3.mono HB2.out.size))
  have HT3 := hide (HT2.out.below hb3)
  clear hb3 HB2 HT2
  have l1 := maskB_length k 54
  have l2 := maskB_length k 92
  have l3 := sha_length (maskB k 54 ++ data)
  have ha1 := addS (maskB k 54) data (by omega)
  have ha2 := addS (maskB k 92) (sha (maskB k 54 ++ data)) (by omega)
  go_wp2_with fail
  refine (hashT (maskB k 54 ++ data) (by rw [List.length_append]; omega) _ HT3.out).mono ?_
  rintro e w4 ⟨rfl, hb4⟩
  have HB4 := hide (HB3.out.trans (hb4.mono HB3.out.size))
  have HT4 := hide (HT3.out.below hb4)
  clear hb4 HB3 HT3
  generalize sha (maskB k 54 ++ data) = inn at *
  go_wp2_with fail
  refine (hashT (maskB k 92 ++ inn) (by rw [List.length_append]; omega) _ HT4.out).mono ?_
  rintro e w5 ⟨rfl, hb5⟩
  have HB5 := hide (HB4.out.trans (hb5.mono HB4.out.size))
  clear hb5 HB4 HT4
  rw [← HH.out]
  go_wp2
  go_ret
  exact ⟨rfl, HB5.out⟩

set_option maxRecDepth 100000 in
set_option maxHeartbeats 1000000 in
theorem macPS (key data : List UInt8) (hk : key.length ≤ 64) (hd : data.length ≤ 10000) (w : World) (hT : Tab w) :
    Calls Tryd.prog 65 #[.string (str key), .string (str data)] w fun e w' => e = .returned (.string (str (hmac key data))) ∧ Bel w.heap.size w w' := by
  have HT := hide hT
  have hz := str_size key
  clear hT
  have HH : Hid (hmac key data = sha (maskB (hkey key) 92 ++ sha (maskB (hkey key) 54 ++ data))) := rfl
  have HKL := hide (hkey_length key)
  have HKE : Hid (key = hkey key) := by show key = hkey key; unfold hkey; rw [if_neg (by omega)]
  go_enter Tryd.func65, Tryd.ntmps65
  go_wp2_with fail
  have HB1 := hide (Bel.refl w.heap.size w)
  have HT1 := hide HT.out
  clear HT
  rw [HKE.out]
  clear HKE
  generalize hkey key = k at *
  refine (maskedI k HKL.out _ (by omega) (by omega) _).mono ?_
  rintro e w2 ⟨rfl, hb2⟩
  rw [show (92 : Int).toNat = 92 from rfl]
  have HB2 := hide (HB1.out.trans (hb2.mono HB1.out.size))
  have HT2 := hide (HT1.out.below hb2)
  clear hb2 HB1 HT1
  go_wp2_with fail
  refine (maskedI k HKL.out _ (by omega) (by omega) _).mono ?_
  rintro e w3 ⟨rfl, hb3⟩
  rw [show (54 : Int).toNat = 54 from rfl]
  have HB3 := hide (HB2.out.trans (hb3.mono HB2.out.size))
  have HT3 := hide (HT2.out.below hb3)
  clear hb3 HB2 HT2
  have l1 := maskB_length k 54
  have l2 := maskB_length k 92
  have l3 := sha_length (maskB k 54 ++ data)
  have ha1 := addS (maskB k 54) data (by omega)
  have ha2 := addS (maskB k 92) (sha (maskB k 54 ++ data)) (by omega)
  go_wp2_with fail
  refine (hashT (maskB k 54 ++ data) (by rw [List.length_append]; omega) _ HT3.out).mono ?_
  rintro e w4 ⟨rfl, hb4⟩
  have HB4 := hide (HB3.out.trans (hb4.mono HB3.out.size))
  have HT4 := hide (HT3.out.below hb4)
  clear hb4 HB3 HT3
  generalize sha (maskB k 54 ++ data) = inn at *
  go_wp2_with fail
  refine (hashT (maskB k 92 ++ inn) (by rw [List.length_append]; omega) _ HT4.out).mono ?_
  rintro e w5 ⟨rfl, hb5⟩
  have HB5 := hide (HB4.out.trans (hb5.mono HB4.out.size))
  clear hb5 HB4 HT4
  rw [← HH.out]
  go_wp2
  go_ret
  exact ⟨rfl, HB5.out⟩

set_option maxRecDepth 100000 in
set_option maxHeartbeats 1000000 in
theorem macRL (key data : List UInt8) (hk : 64 < key.length) (hkl : key.length ≤ 10000) (hd : data.length ≤ 10000) (w : World) :
    Calls Tryd.prog 51 #[.string (str key), .string (str data)] w fun e w' => e = .returned (.string (str (hmac key data))) ∧ Bel w.heap.size w w' := by
  have hz := str_size key
  have HH : Hid (hmac key data = sha (maskB (hkey key) 92 ++ sha (maskB (hkey key) 54 ++ data))) := rfl
  have HKL := hide (hkey_length key)
  have HKE : Hid (sha key = hkey key) := by show sha key = hkey key; unfold hkey; rw [if_pos hk]
  go_enter Tryd.func51, Tryd.ntmps51
  go_wp2_with fail
  refine (refHash key (by omega) _).mono ?_
  rintro e w1 ⟨rfl, hb1⟩
  have HB1 := hide hb1
  clear hb1
  rw [HKE.out]
  clear HKE
  generalize hkey key = k at *
  go_wp2_with fail
  refine (againstI k HKL.out _ (by omega) (by omega) _).mono ?_
  rintro e w2 ⟨rfl, hb2⟩
  rw [show (54 : Int).toNat = 54 from rfl]
  have HB2 := hide (HB1.out.trans (hb2.mono HB1.out.size))
  clear hb2 HB1
  have l1 := maskB_length k 54
  have l2 := maskB_length k 92
  have l3 := sha_length (maskB k 54 ++ data)
  have ha1 := addS (maskB k 54) data (by omega)
  have ha2 := addS (maskB k 92) (sha (maskB k 54 ++ data)) (by omega)
  go_wp2_with fail
  refine (refHash (maskB k 54 ++ data) (by rw [List.length_append]; omega) _).mono ?_
  rintro e w4 ⟨rfl, hb4⟩
  have HB4 := hide (HB2.out.trans (hb4.mono HB2.out.size))
  clear hb4 HB2
  generalize sha (maskB k 54 ++ data) = inn at *
  go_wp2_with fail
  refine (againstI k HKL.out _ (by omega) (by omega) _).mono ?_
  rintro e w3 ⟨rfl, hb3⟩
  rw [show (92 : Int).toNat = 92 from rfl]
  have HB3 := hide (HB4.out.trans (hb3.mono HB4.out.size))
  clear hb3 HB4
  go_wp2_with fail
  refine (refHash (maskB k 92 ++ inn) (by rw [List.length_append]; omega) _).mono ?_
  rintro e w5 ⟨rfl, hb5⟩
  have HB5 := hide (HB3.out.trans (hb5.mono HB3.out.size))
  clear hb5 HB3
  rw [← HH.out]
  go_wp2
  go_ret
  exact ⟨rfl, HB5.out⟩

set_option maxRecDepth 100000 in
set_option maxHeartbeats 1000000 in
theorem macRS (key data : List UInt8) (hk : key.length ≤ 64) (hd : data.length ≤ 10000) (w : World) :
    Calls Tryd.prog 51 #[.string (str key), .string (str data)] w fun e w' => e = .returned (.string (str (hmac key data))) ∧ Bel w.heap.size w w' := by
  have hz := str_size key
  have HH : Hid (hmac key data = sha (maskB (hkey key) 92 ++ sha (maskB (hkey key) 54 ++ data))) := rfl
  have HKL := hide (hkey_length key)
  have HKE : Hid (key = hkey key) := by show key = hkey key; unfold hkey; rw [if_neg (by omega)]
  go_enter Tryd.func51, Tryd.ntmps51
  go_wp2_with fail
  have HB1 := hide (Bel.refl w.heap.size w)
  rw [HKE.out]
  clear HKE
  generalize hkey key = k at *
  refine (againstI k HKL.out _ (by omega) (by omega) _).mono ?_
  rintro e w2 ⟨rfl, hb2⟩
  rw [show (54 : Int).toNat = 54 from rfl]
  have HB2 := hide (HB1.out.trans (hb2.mono HB1.out.size))
  clear hb2 HB1
  have l1 := maskB_length k 54
  have l2 := maskB_length k 92
  have l3 := sha_length (maskB k 54 ++ data)
  have ha1 := addS (maskB k 54) data (by omega)
  have ha2 := addS (maskB k 92) (sha (maskB k 54 ++ data)) (by omega)
  go_wp2_with fail
  refine (refHash (maskB k 54 ++ data) (by rw [List.length_append]; omega) _).mono ?_
  rintro e w4 ⟨rfl, hb4⟩
  have HB4 := hide (HB2.out.trans (hb4.mono HB2.out.size))
  clear hb4 HB2
  generalize sha (maskB k 54 ++ data) = inn at *
  go_wp2_with fail
  refine (againstI k HKL.out _ (by omega) (by omega) _).mono ?_
  rintro e w3 ⟨rfl, hb3⟩
  rw [show (92 : Int).toNat = 92 from rfl]
  have HB3 := hide (HB4.out.trans (hb3.mono HB4.out.size))
  clear hb3 HB4
  go_wp2_with fail
  refine (refHash (maskB k 92 ++ inn) (by rw [List.length_append]; omega) _).mono ?_
  rintro e w5 ⟨rfl, hb5⟩
  have HB5 := hide (HB3.out.trans (hb5.mono HB3.out.size))
  clear hb5 HB3
  rw [← HH.out]
  go_wp2
  go_ret
  exact ⟨rfl, HB5.out⟩

theorem macP (key data : List UInt8) (hkl : key.length ≤ 10000) (hd : data.length ≤ 10000) (w : World) (hT : Tab w) :
    Calls Tryd.prog 65 #[.string (str key), .string (str data)] w fun e w' => e = .returned (.string (str (hmac key data))) ∧ Bel w.heap.size w w' := by
  by_cases hk : 64 < key.length
  · exact macPL key data hk hkl hd w hT
  · exact macPS key data (by omega) hd w hT
theorem macR (key data : List UInt8) (hkl : key.length ≤ 10000) (hd : data.length ≤ 10000) (w : World) :
    Calls Tryd.prog 51 #[.string (str key), .string (str data)] w fun e w' => e = .returned (.string (str (hmac key data))) ∧ Bel w.heap.size w w' := by
  by_cases hk : 64 < key.length
  · exact macRL key data hk hkl hd w
  · exact macRS key data (by omega) hd w
end Go.Proofs.YtlchpbnpmgfaoaaDoor
