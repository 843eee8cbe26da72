/-
  Spoilt: the row and its card.
-/
import Derived.Test.YtgjdogkciklgkaaDoorCards
import Derived.Test.YtgjdogkciklgkaaDoorTie
import Derived.Test.YtgjdogkciklgkaaDoorUs
import Derived.Test.YtgjdogkciklgkaaDoorLi
import Derived.Test.YtgjdogkciklgkaaDoorSp
import Derived.Test.YtgjdogkciklgkaaDoorLt
import Derived.LaidMore
import Derived.Carry
import Derived.ChangeMaps5
import Derived.Stop.Joined
namespace Go.Proofs.YtgjdogkciklgkaaDoor.Spoilt
open Go.ChangeShapes Go.WideShapes Go.ChangeAt Go.RowKit

theorem tabLaidM : Rows.spoiltRow.laid = ("ratchet/sums.roundWords", Lib.tabData .u32 kInts) :: errTexts.map fun x => (x.1, sentD x.2) := by kernel_rfl
theorem laidOut : laidOutB Tryd.prog = true := by kernel_rfl
theorem readS : Tryd.prog.readableRec 38 = true := by kernel_rfl
theorem ltS : 38 < Tryd.prog.types.size := by decide +kernel
theorem readI : Tryd.prog.readableRec 39 = true := by kernel_rfl
theorem ltI : 39 < Tryd.prog.types.size := by decide +kernel
theorem own : ownKnob Tryd.prog.godebug = none := by kernel_rfl

theorem door_met (os : Os) (args : Array Value) : laidMetH Tryd.prog Rows.spoiltRow.laid ((World.doorLaid Tryd.prog 400 os).forCall (fun _ _ => 0) ⟨#[], args, []⟩).memory :=
  laidMetH_of_parts3 (fuel := 8) (laidMet_of_run' 8 (by kernel_rfl) (by kernel_rfl)) (by kernel_rfl) (by kernel_rfl)

set_option maxRecDepth 100000 in
theorem lifted (os : Os) (started : os.Started) (H : Type) (enc : TypeId × Value → H) :
    ReturnsInHanded {} Tryd.checked os 11 .any (fun w args => (Rows.spoiltSpec.pre enc Tryd.prog Tryd.f11 [] false w args ∧ laidMetH Tryd.prog Rows.spoiltRow.laid w) ∧ sizedMet enc Tryd.prog Tryd.f11 (OpenSpec.ofChange Rows.spoiltSpec) false w args)
      (Rows.spoiltSpec.post enc Tryd.prog Tryd.f11 false true false false) := by
  refine returnsInHanded_of_change_and (C := Tryd.checked) (X := fun w _ => laidMetH Tryd.prog Rows.spoiltRow.laid w) (fun _ _ _ hh h => h.of_heap hh) own started (by kernel_rfl) Tryd.func11
    (ChangeSpec.witness_shaped (enc := enc) (C := Tryd.checked) (os := os) (X := fun w _ => laidMetH Tryd.prog Rows.spoiltRow.laid w) false (World.doorLaid Tryd.prog 400 os) #[.string ⟨#[]⟩, .string ⟨#[]⟩, .string ⟨#[]⟩, .string ⟨#[]⟩, .slice none 0 0, .slice none 0 0] 8 rfl (World.shaped_of_RefB (by kernel_rfl) (by kernel_rfl)) (by kernel_rfl) (by kernel_rfl) (by kernel_rfl) (door_met os _)) ?_
  intro W base args ds gs before hval0 hW _ _ hL _
  have hval : ∀ (j : Nat) t v, Tryd.f11.params[j]? = some t → args[j]? = some v → Value.okWide Tryd.prog W .any base t v := hval0
  have hW' := hW
  obtain ⟨p, q, hA0, hV, rfl, hfz, hnd⟩ := hW
  have hA : DataW.TrodAll enc Tryd.prog W 0 (fun _ => true) true Tryd.f11.params.toList args.toList ds p := hA0
  rw [Tryd.params11] at hA hval
  obtain ⟨v0, v1, v2, v3, v5, v6, d0, d1, d2, d3, d5, d6, p0, p1, p2, p3, p5, p6, rfl, rfl, rfl, h0, h1, h2, h3, h5, h6⟩ := trodAll_six hA
  obtain ⟨rfl, rfl⟩ := trodVars_none hV
  rw [MakeChecks.laidMetH_plain _ _ _ (by kernel_rfl), tabLaidM] at hL
  obtain ⟨a, hE⟩ := env_of_laid hL
  obtain ⟨s0, rfl, rfl, rfl, m0⟩ := ChangeMaps.open_string Tryd.underlying9 (hval 0 9 v0 rfl rfl) h0
  obtain ⟨s1, rfl, rfl, rfl, m1⟩ := ChangeMaps.open_string Tryd.underlying9 (hval 1 9 v1 rfl rfl) h1
  obtain ⟨s2, rfl, rfl, rfl, m2⟩ := ChangeMaps.open_string Tryd.underlying9 (hval 2 9 v2 rfl rfl) h2
  obtain ⟨s3, rfl, rfl, rfl, m3⟩ := ChangeMaps.open_string Tryd.underlying9 (hval 3 9 v3 rfl rfl) h3
  have hv5 := okWide_slice Tryd.underlying38 (hval 4 38 v5 rfl rfl)
  have hv6 := okWide_slice Tryd.underlying39 (hval 5 39 v6 rfl rfl)
  have hlt5 : ∀ x ∈ p5, x.block < W.heap.size := fun x hx => hW'.lt x (by simp [hx])
  have hlt6 : ∀ x ∈ p6, x.block < W.heap.size := fun x hx => hW'.lt x (by simp [hx])
  clear hA0 hval0
  simp only [List.append_nil, List.nil_append] at hW'
  have hsz : ∀ s : ByteArray, s.data.toList.length = s.size := fun s => by have h := str_size s.data.toList; rw [str_of] at h; exact h.symm
  obtain ⟨aT, cT, T, rfl, hTl, hTm, hrT⟩ := strs_of_trod hv5 h5
  obtain ⟨aO, cO, O, rfl, hOl, hOw, hrO⟩ := ints_of_trod hv6 h6
  have key := spoAny s0.data.toList s1.data.toList s2.data.toList s3.data.toList aT aO cT cO T O (by rw [hsz]; exact m0) (by rw [hsz]; exact m1) (by rw [hsz]; exact m2) (by rw [hsz]; exact m3) hTl hTm hOl hOw a W hE hrT hrO
  rw [str_of, str_of, str_of, str_of] at key
  refine key.mono fun e W' ⟨he, hb⟩ => ?_
  subst he
  exact ⟨_, rfl, _, _, _, [], p5 ++ p6, [], hW', trodAll_mk1 (shut_bool Tryd.underlying4 _), trodAll_mk6 (ChangeMaps.shut_string Tryd.underlying9 m0) (ChangeMaps.shut_string Tryd.underlying9 m1) (ChangeMaps.shut_string Tryd.underlying9 m2) (ChangeMaps.shut_string Tryd.underlying9 m3) (Bel.trod laidOut readS ltS h5 hb hlt5) (Bel.trod laidOut readI ltI h6 hb hlt6), rfl, hb.frame _, fun h => by cases h⟩

theorem said : Rows.SpoiltSaid :=
  OpenClaim.holds_of_wide 11 Tryd.f11 rfl rfl rfl rfl rfl rfl rfl ⟨rfl, rfl, rfl, rfl, rfl⟩ rfl rfl rfl rfl rfl (by kernel_rfl) Tryd.func11 (by kernel_rfl)
    (of_decide_eq_true (by kernel_rfl)) (by unfold Func.isWrapper; first | (rw [if_pos (by decide +kernel)]; kernel_rfl) | (rw [if_neg (by decide +kernel)]; exact ⟨rfl, rfl⟩))
    (fun os started H enc _ => lifted os started H enc)

theorem plain (f : FuncId) (fn : Func) (hf : Tryd.pinned.checked.prog.funcNamed "ratchet/ratchetlaw.Spoilt" = some f) (hfn : Tryd.pinned.checked.prog.funcs[f]? = some fn) :
    true = Tryd.pinned.checked.prog.looks [] ∧ ∀ (j : Nat) t, fn.params[j]? = some t → Tryd.pinned.checked.prog.wantsStandIn t = false := by
  obtain rfl : f = 11 := Option.some.inj ((show Tryd.prog.funcNamed "ratchet/ratchetlaw.Spoilt" = some 11 by kernel_rfl).symm.trans hf) |>.symm
  obtain rfl : fn = Tryd.f11 := (Option.some.inj (Tryd.func11.symm.trans hfn)).symm
  refine ⟨by kernel_rfl, fun j t ht => ?_⟩
  rw [Tryd.params11] at ht
  have hm : t = 9 ∨ t = 38 ∨ t = 39 := by
    have := Array.mem_of_getElem? ht
    simp at this
    omega
  rcases hm with rfl | rfl | rfl
  · exact (show Tryd.prog.wantsStandIn 9 = false by kernel_rfl)
  · exact (show Tryd.prog.wantsStandIn 38 = false by kernel_rfl)
  · exact (show Tryd.prog.wantsStandIn 39 = false by kernel_rfl)

theorem card : Rows.SpoiltCardSaid :=
  Claim7.holds_tied_plain_at .later [] _ _ _ _ said (fun _ h => by cases h) (by kernel_rfl) (fun _ h => by cases h) spoilt_row_tie rfl ⟨rfl, rfl⟩ (by kernel_rfl) rfl plain (by kernel_rfl)
end Go.Proofs.YtgjdogkciklgkaaDoor.Spoilt
namespace Go.Proofs.YtgjdogkciklgkaaDoor
theorem spoilt_card_holds : Rows.SpoiltCardSaid := Spoilt.card
end Go.Proofs.YtgjdogkciklgkaaDoor
