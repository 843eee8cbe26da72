/-
  The document's Seal and Open.
-/
import Derived.Test.YtgjdogkciklgkaaDoorBoxR
import Derived.Test.YtgjdogkciklgkaaDoorSo
namespace Go.Proofs.YtgjdogkciklgkaaDoor
open Go.RowKit

set_option maxRecDepth 100000 in
set_option maxHeartbeats 1000000 in
theorem refSeal (k ad t : List UInt8) (hd : ad.length ≤ 68) (ht : t.length ≤ 64) (hk : k.length = 32) (w : World) :
    Calls Tryd.prog 81 #[.string (str k), .string (str ad), .string (str t)] w fun e w' => e = .returned (.string (str (sealL k ad t))) ∧ Bel w.heap.size w w' := by
  have HS : Hid (sealL k ad t = boxL (k1 k) t ++ tagL (k2 k) ad (boxL (k1 k) t)) := rfl
  have H1 : Hid ((hkdf [] k sealK 64).take 32 = k1 k) := rfl
  have H2 : Hid ((hkdf [] k sealK 64).drop 32 = k2 k) := rfl
  have l1 := k1_length k
  have l2 := k2_length k
  go_enter Tryd.func81, Tryd.ntmps81
  go_wp2_with fail
  refine (deriveR [] k sealK 64 (by decide) (by omega) (by decide) (by decide) _).mono ?_
  rintro e w1 ⟨rfl, hb1⟩
  have HB1 := hide hb1
  clear hb1
  have lm := hkdf_length [] k sealK 64
  have hx := sliceHi (hkdf [] k sealK 64) 32 32 rfl (by omega)
  have hy := sliceLo (hkdf [] k sealK 64) 32 32 rfl (by omega)
  rw [H1.out] at hx
  rw [H2.out] at hy
  generalize hkdf [] k sealK 64 = m at *
  generalize k1 k = x1 at *
  generalize k2 k = x2 at *
  go_wp2_with fail
  refine (streamR x1 t (by omega) (by omega) _).mono ?_
  rintro e w4 ⟨rfl, hb4⟩
  have HB4 := hide (HB1.out.trans (hb4.mono HB1.out.size))
  clear hb4 HB1
  have lb := boxL_length x1 t
  generalize boxL x1 t = b at *
  go_wp2_with fail
  refine (tagR x2 ad b (by omega) (by omega) (by omega) _).mono ?_
  rintro e w5 ⟨rfl, hb5⟩
  have HB5 := hide (HB4.out.trans (hb5.mono HB4.out.size))
  clear hb5 HB4
  have lt := tagL_length x2 ad b
  have ha := addS b (tagL x2 ad b) (by omega)
  generalize tagL x2 ad b = g at *
  go_wp2
  go_ret
  refine ⟨?_, HB5.out⟩
  rw [HS.out]
  rfl

set_option maxRecDepth 100000 in
set_option maxHeartbeats 1000000 in
theorem refOpenShort (k ad t : List UInt8) (ht : t.length < 16) (w : World) :
    Calls Tryd.prog 82 #[.string (str k), .string (str ad), .string (str t)] w fun e w' => e = .returned (.tuple #[.string ⟨#[]⟩, .bool false]) ∧ Bel w.heap.size w w' := by
  have hz := str_size t
  go_enter Tryd.func82, Tryd.ntmps82
  go_wp2
  go_ret2
  exact ⟨rfl, Bel.refl _ _⟩

theorem str_inj {a b : List UInt8} (h : str a = str b) : a = b := by
  have := congrArg (fun s : ByteArray => s.data.toList) h
  simpa [str_data] using this

set_option maxRecDepth 100000 in
set_option maxHeartbeats 1000000 in
theorem refOpenOk (k ad t : List UInt8) (hd : ad.length ≤ 68) (ht : 16 ≤ t.length) (ht2 : t.length ≤ 80) (hk : k.length = 32) (hg : goodTag k ad t) (w : World) :
    Calls Tryd.prog 82 #[.string (str k), .string (str ad), .string (str t)] w fun e w' => e = .returned (.tuple #[.string (str (boxL (k1 k) (t.take (t.length - 16)))), .bool true]) ∧ Bel w.heap.size w w' := by
  have hz := str_size t
  have HG : Hid (t.drop (t.length - 16) = tagL (k2 k) ad (t.take (t.length - 16))) := hg
  clear hg
  have H1 : Hid ((hkdf [] k sealK 64).take 32 = k1 k) := rfl
  have H2 : Hid ((hkdf [] k sealK 64).drop 32 = k2 k) := rfl
  have l1 := k1_length k
  have l2 := k2_length k
  obtain ⟨res, hres⟩ : ∃ r, r = boxL (k1 k) (t.take (t.length - 16)) := ⟨_, rfl⟩
  rw [← hres]
  have HRES := hide hres
  clear hres
  go_enter Tryd.func82, Tryd.ntmps82
  go_wp2_with fail
  refine (deriveR [] k sealK 64 (by decide) (by omega) (by decide) (by decide) _).mono ?_
  rintro e w1 ⟨rfl, hb1⟩
  have HB1 := hide hb1
  clear hb1
  have lm := hkdf_length [] k sealK 64
  have hx := sliceHi (hkdf [] k sealK 64) 32 32 rfl (by omega)
  have hy := sliceLo (hkdf [] k sealK 64) 32 32 rfl (by omega)
  rw [H1.out] at hx
  rw [H2.out] at hy
  generalize hkdf [] k sealK 64 = m at *
  generalize k1 k = x1 at *
  generalize k2 k = x2 at *
  have hx2 := sliceHi t ((t.length : Int) - 16) (t.length - 16) (by omega) (by omega)
  have hy2 := sliceLo t ((t.length : Int) - 16) (t.length - 16) (by omega) (by omega)
  have lt1 : (t.take (t.length - 16)).length ≤ 64 := by rw [List.length_take]; omega
  have lt2 : (t.drop (t.length - 16)).length = 16 := by rw [List.length_drop]; omega
  generalize t.take (t.length - 16) = b at *
  generalize t.drop (t.length - 16) = given at *
  go_wp2_with fail
  have HB1 := hide HB1.out.drew
  refine still_tail 6 (by kernel_rfl) (by kernel_rfl) ?_
  generalize w1.drew = w2 at *
  simp only [List.take_succ_cons, List.take_zero, List.drop_succ_cons, List.drop_zero]
  repeat still_step
  refine wpStill_nil ?_
  go_wp2_with fail
  refine (tagR x2 ad b (by omega) (by omega) (by omega) _).mono ?_
  rintro e w5 ⟨rfl, hb5⟩
  have HB5 := hide (HB1.out.trans (hb5.mono HB1.out.size))
  clear hb5 HB1
  rw [← HG.out]
  go_wp2_with fail
  have HB5 := hide HB5.out.drew
  refine still_tail 5 (by kernel_rfl) (by kernel_rfl) ?_
  generalize w5.drew = w6 at *
  simp only [List.take_succ_cons, List.take_zero, List.drop_succ_cons, List.drop_zero]
  repeat still_step
  refine wpStill_nil ?_
  go_wp2_with fail
  refine (streamR x1 b (by omega) (by omega) _).mono ?_
  rintro e w7 ⟨rfl, hb7⟩
  have HB7 := hide (HB5.out.trans (hb7.mono HB5.out.size))
  clear hb7 HB5
  go_wp2
  go_ret2
  refine ⟨?_, HB7.out⟩
  rw [HRES.out]
  rfl

set_option maxRecDepth 100000 in
set_option maxHeartbeats 1000000 in
theorem refOpenBad (k ad t : List UInt8) (hd : ad.length ≤ 68) (ht : 16 ≤ t.length) (ht2 : t.length ≤ 80) (hk : k.length = 32) (hg : ¬ goodTag k ad t) (w : World) :
    Calls Tryd.prog 82 #[.string (str k), .string (str ad), .string (str t)] w fun e w' => e = .returned (.tuple #[.string ⟨#[]⟩, .bool false]) ∧ Bel w.heap.size w w' := by
  have hz := str_size t
  have HG : Hid (¬ t.drop (t.length - 16) = tagL (k2 k) ad (t.take (t.length - 16))) := hg
  clear hg
  have H1 : Hid ((hkdf [] k sealK 64).take 32 = k1 k) := rfl
  have H2 : Hid ((hkdf [] k sealK 64).drop 32 = k2 k) := rfl
  have l1 := k1_length k
  have l2 := k2_length k
  go_enter Tryd.func82, Tryd.ntmps82
  go_wp2_with fail
  refine (deriveR [] k sealK 64 (by decide) (by omega) (by decide) (by decide) _).mono ?_
  rintro e w1 ⟨rfl, hb1⟩
  have HB1 := hide hb1
  clear hb1
  have lm := hkdf_length [] k sealK 64
  have hx := sliceHi (hkdf [] k sealK 64) 32 32 rfl (by omega)
  have hy := sliceLo (hkdf [] k sealK 64) 32 32 rfl (by omega)
  rw [H1.out] at hx
  rw [H2.out] at hy
  generalize hkdf [] k sealK 64 = m at *
  generalize k1 k = x1 at *
  generalize k2 k = x2 at *
  have hx2 := sliceHi t ((t.length : Int) - 16) (t.length - 16) (by omega) (by omega)
  have hy2 := sliceLo t ((t.length : Int) - 16) (t.length - 16) (by omega) (by omega)
  have lt1 : (t.take (t.length - 16)).length ≤ 64 := by rw [List.length_take]; omega
  have lt2 : (t.drop (t.length - 16)).length = 16 := by rw [List.length_drop]; omega
  generalize t.take (t.length - 16) = b at *
  generalize t.drop (t.length - 16) = given at *
  go_wp2_with fail
  have HB1 := hide HB1.out.drew
  refine still_tail 6 (by kernel_rfl) (by kernel_rfl) ?_
  generalize w1.drew = w2 at *
  simp only [List.take_succ_cons, List.take_zero, List.drop_succ_cons, List.drop_zero]
  repeat still_step
  refine wpStill_nil ?_
  go_wp2_with fail
  refine (tagR x2 ad b (by omega) (by omega) (by omega) _).mono ?_
  rintro e w5 ⟨rfl, hb5⟩
  have HB5 := hide (HB1.out.trans (hb5.mono HB1.out.size))
  clear hb5 HB1
  have hne : ((str (tagL x2 ad b)).toList == (str given).toList) = false := by
    rw [str_toList, str_toList]
    simp only [beq_eq_false_iff_ne, ne_eq]
    exact fun h => HG.out h.symm
  generalize tagL x2 ad b = tg at *
  go_wp2
  go_ret2
  exact ⟨rfl, HB5.out⟩
end Go.Proofs.YtgjdogkciklgkaaDoor
