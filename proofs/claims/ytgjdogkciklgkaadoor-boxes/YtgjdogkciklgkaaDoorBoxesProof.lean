/-
  Boxes: the row and its card.
-/
import Derived.Test.YtgjdogkciklgkaaDoorCards
import Derived.Test.YtgjdogkciklgkaaDoorTie
import Derived.Test.YtgjdogkciklgkaaDoorUs
import Derived.Test.YtgjdogkciklgkaaDoorLi
import Derived.Test.YtgjdogkciklgkaaDoorPureBox
import Derived.LaidMore
import Derived.Stop.Joined
namespace Go.Proofs.YtgjdogkciklgkaaDoor.Boxes
open Go.ChangeShapes Go.WideShapes Go.ChangeAt Go.RowKit

theorem tabLaidM : Rows.boxesRow.laid = ("ratchet/sums.roundWords", Lib.tabData .u32 kInts) :: errTexts.map fun x => (x.1, sentD x.2) := by kernel_rfl
theorem own : ownKnob Tryd.prog.godebug = none := by kernel_rfl
theorem laidOut : laidOutB Tryd.prog = true := by kernel_rfl
theorem readable : Tryd.prog.readableRec 28 = true := by kernel_rfl
theorem typeLt : 28 < Tryd.prog.types.size := by decide +kernel

set_option maxRecDepth 100000 in
theorem walk (b off len cap : Nat) (hlen : len ≤ maxLen) (f : Nat → OpD) (a : Nat → Addr) (w : World) (hE : Env w a) (hS : Script w b off len f) (hm : ∀ i, i < len → (f i).s.length ≤ maxLen ∧ (f i).t.length ≤ maxLen ∧ (f i).u.length ≤ maxLen) :
    Calls Tryd.prog 8 #[.slice (some ⟨b, off, none⟩) len cap] w fun e w' => e = .returned (.bool true) ∧ Bel w.heap.size w w' := by
  have HE := hide hE
  have HS := hide hS
  have HM := hide hm
  have HL := hide hlen
  clear hE hS hm hlen
  go_enter Tryd.func8, Tryd.ntmps8
  go_wp2_with fail
  refine (upToP 5 6 b off len cap HL.out f a w HE.out HS.out (fun i hi h1 h2 w' hE' => ?_)).mono ?_
  · have hm := HM.out i hi
    generalize f i = o at *
    obtain ⟨kind, who, n, flip, s, t, u⟩ := o
    obtain ⟨m1, m2, m3⟩ := hm
    have hk : kind = 5 ∨ kind = 6 := by simp only at h1 h2; omega
    rcases hk with rfl | rfl
    · exact pureSeal who n flip s t u m1 m2 m3 a w' hE'
    · exact pureOpen who n flip s t u m1 m2 m3 a w' hE'
  · rintro e w2 ⟨rfl, hb⟩
    have HB := hide hb
    clear hb
    go_wp2
    go_ret
    exact ⟨rfl, HB.out⟩

set_option maxRecDepth 100000 in
theorem walk0 (ao : Option Addr) (cap : Nat) (w : World) :
    Calls Tryd.prog 8 #[.slice ao 0 cap] w fun e w' => e = .returned (.bool true) ∧ Bel w.heap.size w w' := by
  go_enter Tryd.func8, Tryd.ntmps8
  go_wp2_with fail
  refine (upTo0 ao cap 5 6 w).mono ?_
  rintro e w2 ⟨rfl, rfl⟩
  go_wp2
  go_ret
  exact ⟨rfl, Bel.refl _ _⟩

theorem door_met (os : Os) (args : Array Value) : laidMetH Tryd.prog Rows.boxesRow.laid ((World.doorLaid Tryd.prog 400 os).forCall (fun _ _ => 0) ⟨#[], args, []⟩).memory :=
  laidMetH_of_parts3 (fuel := 8) (laidMet_of_run' 8 (by kernel_rfl) (by kernel_rfl)) (by kernel_rfl) (by kernel_rfl)

set_option maxRecDepth 100000 in
theorem lifted (os : Os) (started : os.Started) (H : Type) (enc : TypeId × Value → H) :
    ReturnsInHanded {} Tryd.checked os 8 .any (fun w args => (Rows.boxesSpec.pre enc Tryd.prog Tryd.f8 [] false w args ∧ laidMetH Tryd.prog Rows.boxesRow.laid w) ∧ sizedMet enc Tryd.prog Tryd.f8 (OpenSpec.ofChange Rows.boxesSpec) false w args)
      (Rows.boxesSpec.post enc Tryd.prog Tryd.f8 false true false false) := by
  refine returnsInHanded_of_change_and (C := Tryd.checked) (X := fun w _ => laidMetH Tryd.prog Rows.boxesRow.laid w) (fun _ _ _ hh h => h.of_heap hh) own started (by kernel_rfl) Tryd.func8
    (ChangeSpec.witness_shaped (enc := enc) (C := Tryd.checked) (os := os) (X := fun w _ => laidMetH Tryd.prog Rows.boxesRow.laid w) false (World.doorLaid Tryd.prog 400 os) #[.slice none 0 0] 8 rfl (World.shaped_of_RefB (by kernel_rfl) (by kernel_rfl)) (by kernel_rfl) (by kernel_rfl) (by kernel_rfl) (door_met os _)) ?_
  intro W base args ds gs before hval0 hW _ _ hL _
  have hval : ∀ (j : Nat) t v, Tryd.f8.params[j]? = some t → args[j]? = some v → Value.okWide Tryd.prog W .any base t v := hval0
  have hW' := hW
  obtain ⟨p, q, hA0, hV, rfl, hfz, hnd⟩ := hW
  have hA : DataW.TrodAll enc Tryd.prog W 0 (fun _ => true) true Tryd.f8.params.toList args.toList ds p := hA0
  rw [Tryd.params8] at hA hval
  obtain ⟨v0, d0, hargs, rfl, h0⟩ := trodAll_one hA
  obtain rfl : args = #[v0] := by cases args; simp_all
  obtain ⟨rfl, rfl⟩ := trodVars_none hV
  rw [MakeChecks.laidMetH_plain _ _ _ (by kernel_rfl), tabLaidM] at hL
  obtain ⟨a, hE⟩ := env_of_laid hL
  have hv := okWide_slice Tryd.underlying28 (hval 0 28 v0 rfl rfl)
  have hlt : ∀ x ∈ p, x.block < W.heap.size := fun x hx => hW'.lt x (by simp [hx])
  clear hA0 hval0
  simp only [List.append_nil] at hW'
  have fin : ∀ W' : World, Bel W.heap.size W W' → Rows.boxesSpec.post enc Tryd.prog Tryd.f8 false true false false W #[v0] (.bool true) W' := fun W' hb =>
    ⟨_, _, _, [], p, [], hW', trodAll_mk1 (shut_bool Tryd.underlying4 _), trodAll_mk1 (Bel.trod laidOut readable typeLt h0 hb hlt), rfl, hb.frame _, fun h => by cases h⟩
  rcases script_of_trod hv h0 with ⟨ao, cap, rfl⟩ | ⟨b, off, len, cap, f, rfl, hlen, hS, hm⟩
  · refine (walk0 ao cap W).mono fun e W' ⟨he, hb⟩ => ?_
    subst he
    exact ⟨_, rfl, fin W' hb⟩
  · refine (walk b off len cap hlen f a W hE hS hm).mono fun e W' ⟨he, hb⟩ => ?_
    subst he
    exact ⟨_, rfl, fin W' hb⟩

theorem said : Rows.BoxesSaid :=
  OpenClaim.holds_of_wide 8 Tryd.f8 rfl rfl rfl rfl rfl rfl rfl ⟨rfl, rfl, rfl, rfl, rfl⟩ rfl rfl rfl rfl rfl (by kernel_rfl) Tryd.func8 (by kernel_rfl)
    (of_decide_eq_true (by kernel_rfl)) (by unfold Func.isWrapper; first | (rw [if_pos (by decide +kernel)]; kernel_rfl) | (rw [if_neg (by decide +kernel)]; exact ⟨rfl, rfl⟩))
    (fun os started H enc _ => lifted os started H enc)

theorem plain (f : FuncId) (fn : Func) (hf : Tryd.pinned.checked.prog.funcNamed "ratchet/ratchetlaw.Boxes" = some f) (hfn : Tryd.pinned.checked.prog.funcs[f]? = some fn) :
    true = Tryd.pinned.checked.prog.looks [] ∧ ∀ (j : Nat) t, fn.params[j]? = some t → Tryd.pinned.checked.prog.wantsStandIn t = false := by
  obtain rfl : f = 8 := Option.some.inj ((show Tryd.prog.funcNamed "ratchet/ratchetlaw.Boxes" = some 8 by kernel_rfl).symm.trans hf) |>.symm
  obtain rfl : fn = Tryd.f8 := (Option.some.inj (Tryd.func8.symm.trans hfn)).symm
  refine ⟨by kernel_rfl, fun j t ht => ?_⟩
  rw [Tryd.params8] at ht
  obtain rfl : t = 28 := by simpa using Array.mem_of_getElem? ht
  exact (show Tryd.prog.wantsStandIn 28 = false by kernel_rfl)

theorem card : Rows.BoxesCardSaid :=
  Claim7.holds_tied_plain_at .later [] _ _ _ _ said (fun _ h => by cases h) (by kernel_rfl) (fun _ h => by cases h) boxes_row_tie rfl ⟨rfl, rfl⟩ (by kernel_rfl) rfl plain (by kernel_rfl)
end Go.Proofs.YtgjdogkciklgkaaDoor.Boxes
namespace Go.Proofs.YtgjdogkciklgkaaDoor
theorem boxes_card_holds : Rows.BoxesCardSaid := Boxes.card
end Go.Proofs.YtgjdogkciklgkaaDoor
