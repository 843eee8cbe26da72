/-
  Package ratchet's bytes and readHead; misfit.
-/
import Derived.Test.YtgjdogkciklgkaaDoorPc
namespace Go.Proofs.YtgjdogkciklgkaaDoor
open Go.RowKit

theorem byteAt_dropH (s : List UInt8) (m i : Nat) : byteAt (s.drop m) i = byteAt s (m + i) := by
  unfold byteAt; simp

theorem Tryd.sizeHead : (Tryd.prog.info? 69).map (·.size) = some 3 := by kernel_rfl
theorem rowThree {w : World} {b : Nat} {x y z : Value} {T : TypeId} (h : w.heap[b]? = some (.cells #[x, y, z] T (0, 0))) : w.cell? ⟨b, 0, none⟩ = some x ∧ w.cell? ⟨b, 1, none⟩ = some y ∧ w.cell? ⟨b, 2, none⟩ = some z ∧ w.frozen? ⟨b, 0, none⟩ = false ∧ w.frozen? ⟨b, 1, none⟩ = false ∧ w.frozen? ⟨b, 2, none⟩ = false :=
  ⟨cell_of_row w b 0 _ _ (0, 0) h, cell_of_row w b 1 _ _ (0, 0) h, cell_of_row w b 2 _ _ (0, 0) h, frozen_of_row w b 0 _ _ h, frozen_of_row w b 1 _ _ h, frozen_of_row w b 2 _ _ h⟩

set_option maxRecDepth 100000 in
set_option maxHeartbeats 400000 in
theorem readHeadP (f : List UInt8) (hf : 52 ≤ f.length) (hl : f.length ≤ 116) (w : World) :
    Calls Tryd.prog 69 #[.string (str f)] w fun e w' => e = .returned (.agg #[.string (str (f.take 32)), .int .i64 (two f 32 : Nat), .int .i64 (two f 34 : Nat)]) ∧ Bel w.heap.size w w' := by
  have hx := sliceHi f 32 32 (by omega) (by omega)
  have hy := sliceLo f 32 32 (by omega) (by omega)
  have hz := sliceLo f 34 34 (by omega) (by omega)
  have l1 : (f.take 32).length = 32 := by rw [List.length_take]; omega
  have l2 : (f.drop 32).length = f.length - 32 := by rw [List.length_drop]
  have l3 : (f.drop 34).length = f.length - 34 := by rw [List.length_drop]
  have e2 : byteAt (f.drop 32) 0 * 256 + byteAt (f.drop 32) 1 = two f 32 := by unfold two; rw [byteAt_dropH, byteAt_dropH]
  have e3 : byteAt (f.drop 34) 0 * 256 + byteAt (f.drop 34) 1 = two f 34 := by unfold two; rw [byteAt_dropH, byteAt_dropH]
  have HY : Hid (∀ w : World, Calls Tryd.prog 92 #[.string (str (f.drop 32))] w fun e w' => e = .returned (.int .i64 (two f 32 : Nat)) ∧ Bel w.heap.size w w') := fun w => by rw [← e2]; exact readTwoP _ (by omega) w
  have HZ : Hid (∀ w : World, Calls Tryd.prog 92 #[.string (str (f.drop 34))] w fun e w' => e = .returned (.int .i64 (two f 34 : Nat)) ∧ Bel w.heap.size w w') := fun w => by rw [← e3]; exact readTwoP _ (by omega) w
  clear e2 e3
  have HB0 : Hid (Bel w.heap.size w (w.alloc (.cells #[.string ⟨#[]⟩, .int .i64 0, .int .i64 0] 69))) := (Bel.refl _ _).alloc (Nat.le_refl _) _
  have HN0 : Hid ((w.alloc (.cells #[.string ⟨#[]⟩, .int .i64 0, .int .i64 0] 69)).heap[w.heap.size]? = some (.cells #[.string ⟨#[]⟩, .int .i64 0, .int .i64 0] 69 (0, 0))) := heap_alloc_new w _
  generalize f.take 32 = x at *
  generalize f.drop 32 = y at *
  generalize f.drop 34 = z at *
  generalize two f 32 = p at *
  generalize two f 34 = q at *
  go_enter Tryd.func69, Tryd.ntmps69
  go_wp2_with fail
  have tok1 : True := trivial
  generalize w.alloc (.cells #[.string ⟨#[]⟩, .int .i64 0, .int .i64 0] 69) = W at *
  go_region_held3 (fun _ => True) (trivial) (first | (go_at_call 91; refine (cloneP x (by omega) _).mono ?_; rintro e w1 ⟨rfl, hb1⟩; have HB1 := hide (HB0.out.trans ((Bel.ofDrew hb1).mono HB0.out.size)); have HN1 := hide (((Bel.ofDrew hb1).block _ (Array.getElem?_eq_some_iff.1 HN0.out).1).trans HN0.out); clear hb1) | (go_at_call 92; have _t := tok1; refine (HY.out _).mono ?_; rintro e w2 ⟨rfl, hb2⟩; have HB2 := hide (HB1.out.trans (hb2.mono HB1.out.size)); have HN2 := hide ((hb2.block _ (Array.getElem?_eq_some_iff.1 HN1.out).1).trans HN1.out); clear hb2 tok1) | (go_at_call 92; refine (HZ.out _).mono ?_; rintro e w3 ⟨rfl, hb3⟩; have HB3 := hide (HB2.out.trans (hb3.mono HB2.out.size)); have HN3 := hide ((hb3.block _ (Array.getElem?_eq_some_iff.1 HN2.out).1).trans HN2.out); obtain ⟨r0, r1, r2, s0, s1, s2⟩ := rowThree HN3.out; clear hb3))
  have HB4 := hide (((HB3.out.setCell (p := ⟨w.heap.size, 0, none⟩) (Nat.le_refl _) (.string (str x))).setCell (p := ⟨w.heap.size, 1, none⟩) (Nat.le_refl _) (.int .i64 (p : Int))).setCell (p := ⟨w.heap.size, 2, none⟩) (Nat.le_refl _) (.int .i64 (q : Int)))
  have HR : Hid ((((w3.setCell ⟨w.heap.size, 0, none⟩ (.string (str x))).setCell ⟨w.heap.size, 1, none⟩ (.int .i64 (p : Int))).setCell ⟨w.heap.size, 2, none⟩ (.int .i64 (q : Int))).heap[w.heap.size]? = some (.cells #[.string (str x), .int .i64 (p : Int), .int .i64 (q : Int)] 69 (0, 0))) :=
    heap_setCell_same _ _ 2 _ _ _ (heap_setCell_same _ _ 1 _ _ _ (heap_setCell_same _ _ 0 _ _ _ HN3.out))
  go_wp2
  exact bodyPost_ret (v := .agg #[.string (str x), .int .i64 (p : Int), .int .i64 (q : Int)]) (results_cell_row (P := Tryd.prog) Tryd.results69 _ _ w.heap.size 69 _ (0, 0) _ rfl HR.out Tryd.underlying69 rfl Tryd.sizeHead) rfl ⟨rfl, HB4.out⟩
end Go.Proofs.YtgjdogkciklgkaaDoor
namespace Go.Proofs.YtgjdogkciklgkaaDoor
open Go.RowKit

set_option maxRecDepth 100000 in
set_option maxHeartbeats 1000000 in
theorem hbytesP (x : List UInt8) (p q : Nat) (hx : x.length = 32) (w : World) :
    Calls Tryd.prog 39 #[.agg #[.string (str x), .int .i64 (p : Int), .int .i64 (q : Int)]] w fun e w' => e = .returned (.string (str (x ++ bigB p 2 ++ bigB q 2))) ∧ Bel w.heap.size w w' := by
  have HB0 : Hid (Bel w.heap.size w (w.alloc (.cells #[.string (str x), .int .i64 (p : Int), .int .i64 (q : Int)] 69))) := (Bel.refl _ _).alloc (Nat.le_refl _) _
  have HN0 : Hid ((w.alloc (.cells #[.string (str x), .int .i64 (p : Int), .int .i64 (q : Int)] 69)).heap[w.heap.size]? = some (.cells #[.string (str x), .int .i64 (p : Int), .int .i64 (q : Int)] 69 (0, 0))) := heap_alloc_new w _
  have l1 := bigB_length p 2
  have l2 := bigB_length q 2
  have ha := addS x (bigB p 2) (by omega)
  have hb := addS (x ++ bigB p 2) (bigB q 2) (by rw [List.length_append]; omega)
  go_enter Tryd.func39, Tryd.ntmps39
  go_wp2_with fail
  generalize w.alloc (.cells #[.string (str x), .int .i64 (p : Int), .int .i64 (q : Int)] 69) = W at *
  obtain ⟨r0, r1, r2, _⟩ := rowThree HN0.out
  have tok1 : True := trivial
  go_region_held3 (fun w' => w'.cell? ⟨w.heap.size, 0, none⟩ = some (.string (str x)) ∧ w'.cell? ⟨w.heap.size, 1, none⟩ = some (.int .i64 (p : Int)) ∧ w'.cell? ⟨w.heap.size, 2, none⟩ = some (.int .i64 (q : Int))) (refine ⟨?_, ?_, ?_⟩ <;> assumption) (first | (go_at_call 67; have _t := tok1; refine (twoP p _).mono ?_; rintro e w1 ⟨rfl, hb1⟩; have HB1 := hide (HB0.out.trans ((Bel.ofDrew hb1).mono HB0.out.size)); have HN1 := hide (((Bel.ofDrew hb1).block _ (Array.getElem?_eq_some_iff.1 HN0.out).1).trans HN0.out); obtain ⟨r0, r1, r2, _⟩ := rowThree HN1.out; clear hb1 tok1) | (go_at_call 67; refine (twoP q _).mono ?_; rintro e w2 ⟨rfl, hb2⟩; have HB2 := hide (HB1.out.trans (hb2.mono HB1.out.size)); have HN2 := hide ((hb2.block _ (Array.getElem?_eq_some_iff.1 HN1.out).1).trans HN1.out); obtain ⟨r0, r1, r2, _⟩ := rowThree HN2.out; clear hb2))
  all_goals go_wp2
  all_goals go_ret
  all_goals exact ⟨by rw [List.append_assoc]; rfl, HB2.out⟩

/-- What can be seen to be wrong without a party. -/
def misL (ad f draw : List UInt8) : Option Nat := if 32 < ad.length ∨ 116 < f.length then some 0 else if draw.length ≠ 32 then some 1 else if f.length < 52 then some 2 else none

def errV (a : Nat → Addr) (i : Nat) : Value := .iface 161 (.pointer (some (a i)))
theorem Errs.at {w : World} {a : Nat → Addr} (h : Errs w a) : w.cell? ⟨0, 0, none⟩ = some (errV a 0) ∧ w.cell? ⟨1, 0, none⟩ = some (errV a 1) ∧ w.cell? ⟨2, 0, none⟩ = some (errV a 2) ∧ w.cell? ⟨3, 0, none⟩ = some (errV a 3) ∧ w.cell? ⟨4, 0, none⟩ = some (errV a 4) ∧ w.cell? ⟨5, 0, none⟩ = some (errV a 5) ∧ w.cell? ⟨6, 0, none⟩ = some (errV a 6) :=
  ⟨h.g0, h.g1, h.g2, h.g3, h.g4, h.g5, h.g6⟩

set_option maxRecDepth 100000 in
set_option maxHeartbeats 1000000 in
theorem misfitP (ad f draw : List UInt8) (ma : ad.length ≤ maxLen) (mf : f.length ≤ maxLen) (md : draw.length ≤ maxLen) (a : Nat → Addr) (w : World) (hE : Errs w a) :
    Calls Tryd.prog 68 #[.string (str ad), .string (str f), .string (str draw)] w fun e w' => e = .returned (match misL ad f draw with | some i => errV a i | none => .nilIface) ∧ Bel w.heap.size w w' := by
  have za := str_size ad
  have zf := str_size f
  have ma' : ad.length ≤ 9223372036854775807 := by unfold maxLen at ma; omega
  have mf' : f.length ≤ 9223372036854775807 := by unfold maxLen at mf; omega
  obtain ⟨g0, g1, g2, g3, g4, g5, g6⟩ := hE.at
  have hE1 := hE.g1
  have l1 := cell_lt g1
  have l2 := cell_lt g2
  have MD := hide md
  clear ma mf md g3 g4 g5 g6
  have HB : Hid (Bel w.heap.size w (w.alloc (.cells #[.string (str draw)] 9))) := (Bel.refl _ _).alloc (Nat.le_refl _) _
  have d1 := (HB.out.cell (p := ⟨1, 0, none⟩) l1).trans g1
  have d2 := (HB.out.cell (p := ⟨2, 0, none⟩) l2).trans g2
  by_cases h1 : 32 < ad.length
  · have hm : Hid (misL ad f draw = some 0) := by show misL ad f draw = some 0; unfold misL; rw [if_pos (.inl h1)]
    rw [hm.out]
    go_enter Tryd.func68, Tryd.ntmps68
    go_wp2
    go_ret
    exact ⟨rfl, Bel.refl _ _⟩
  by_cases h2 : 116 < f.length
  · have hm : Hid (misL ad f draw = some 0) := by show misL ad f draw = some 0; unfold misL; rw [if_pos (.inr h2)]
    rw [hm.out]
    go_enter Tryd.func68, Tryd.ntmps68
    go_wp2
    go_ret
    exact ⟨rfl, Bel.refl _ _⟩
  by_cases h3 : draw.length = 32
  · have HK : Hid (keysB [draw] = true) := by show keysB [draw] = true; rw [keys1, decide_eq_true h3]
    by_cases h4 : f.length < 52
    · have hm : Hid (misL ad f draw = some 2) := by show misL ad f draw = some 2; unfold misL; rw [if_neg (by omega), if_neg (by omega), if_pos h4]
      rw [hm.out]
      go_enter Tryd.func68, Tryd.ntmps68
      go_wp2_with fail
      refine (areKeysP w.heap.size [draw] (by simp) _ (strs1 w draw) (by intro s hs; simp at hs; subst hs; exact MD.out)).mono ?_
      rintro e w1 ⟨rfl, rfl⟩
      rw [HK.out]
      generalize w.alloc (.cells #[.string (str draw)] 9) = w2 at *
      go_wp2
      go_ret
      exact ⟨rfl, HB.out⟩
    · have hm : Hid (misL ad f draw = none) := by show misL ad f draw = none; unfold misL; rw [if_neg (by omega), if_neg (by omega), if_neg h4]
      rw [hm.out]
      go_enter Tryd.func68, Tryd.ntmps68
      go_wp2_with fail
      refine (areKeysP w.heap.size [draw] (by simp) _ (strs1 w draw) (by intro s hs; simp at hs; subst hs; exact MD.out)).mono ?_
      rintro e w1 ⟨rfl, rfl⟩
      rw [HK.out]
      generalize w.alloc (.cells #[.string (str draw)] 9) = w2 at *
      go_wp2
      go_ret
      exact ⟨rfl, HB.out⟩
  · have HK : Hid (keysB [draw] = false) := by show keysB [draw] = false; rw [keys1, decide_eq_false h3]
    have hm : Hid (misL ad f draw = some 1) := by show misL ad f draw = some 1; unfold misL; rw [if_neg (by omega), if_pos h3]
    rw [hm.out]
    go_enter Tryd.func68, Tryd.ntmps68
    go_wp2_with fail
    refine (areKeysP w.heap.size [draw] (by simp) _ (strs1 w draw) (by intro s hs; simp at hs; subst hs; exact MD.out)).mono ?_
    rintro e w1 ⟨rfl, rfl⟩
    rw [HK.out]
    generalize w.alloc (.cells #[.string (str draw)] 9) = w2 at *
    go_wp2
    go_ret
    exact ⟨rfl, HB.out⟩
end Go.Proofs.YtgjdogkciklgkaaDoor
