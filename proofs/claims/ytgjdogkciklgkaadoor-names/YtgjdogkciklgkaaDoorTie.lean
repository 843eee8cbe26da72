/-
  DERIVED. GIVEN WITH THE SEED: THE PROGRAM's TIES (one call each: nine closed facts by the kernel) AND EACH ROW's TIE, after the 31st guide's Derived/Test/Toyas{Tie, Card}.lean. No idea stands in it: it is a product of the set-up. Laid BY PROGRAM, IN A SANDBOX (cutbox-door.mjs). By AI agents, Wed Nov 11 2026. No macro, syntax, notation, axiom, sorry.
-/
import Derived.Test.YtgjdogkciklgkaaDoorRows
import Derived.LaidByTextLater
import Derived.SevenTiedAt
import Derived.LaidSub
import Derived.LaidOnce
namespace Go.Proofs.YtgjdogkciklgkaaDoor
open Go
set_option maxRecDepth 100000
theorem seatTie1 : Tryd.prog.laidByTextLater [("ratchet/sums.roundWords", Rows.laid_ratchet_sums_roundWords), ("ratchet/ratchet.ErrLong", Rows.laid_ratchet_ratchet_ErrLong), ("ratchet/ratchet.ErrKey", Rows.laid_ratchet_ratchet_ErrKey), ("ratchet/ratchet.ErrForm", Rows.laid_ratchet_ratchet_ErrForm), ("ratchet/ratchet.ErrAuth", Rows.laid_ratchet_ratchet_ErrAuth), ("ratchet/ratchet.ErrSkip", Rows.laid_ratchet_ratchet_ErrSkip), ("ratchet/ratchet.ErrNone", Rows.laid_ratchet_ratchet_ErrNone), ("ratchet/ratchet.ErrFull", Rows.laid_ratchet_ratchet_ErrFull)] [.data, .sentinel, .sentinel, .sentinel, .sentinel, .sentinel, .sentinel, .sentinel] true :=
  Program.laidByTextLater_by_one 147 8 65 (by kernel_rfl) (by kernel_rfl) (by kernel_rfl) (by kernel_rfl) (by kernel_rfl) (by kernel_rfl) (fun _ _ => by kernel_rfl)
theorem noOwnUnsafe : Tryd.pinned.checked.prog.headLifts.contains "ownunsafe" = false := by kernel_rfl
theorem tie : Tryd.prog.laidByTextLater [("ratchet/ratchet.ErrLong", Rows.laid_ratchet_ratchet_ErrLong), ("ratchet/ratchet.ErrKey", Rows.laid_ratchet_ratchet_ErrKey), ("ratchet/ratchet.ErrForm", Rows.laid_ratchet_ratchet_ErrForm), ("ratchet/ratchet.ErrAuth", Rows.laid_ratchet_ratchet_ErrAuth), ("ratchet/ratchet.ErrSkip", Rows.laid_ratchet_ratchet_ErrSkip), ("ratchet/ratchet.ErrNone", Rows.laid_ratchet_ratchet_ErrNone), ("ratchet/ratchet.ErrFull", Rows.laid_ratchet_ratchet_ErrFull)] [.sentinel, .sentinel, .sentinel, .sentinel, .sentinel, .sentinel, .sentinel] true :=
  Program.laidByTextLater.sub seatTie1 ["ratchet/ratchet.ErrLong", "ratchet/ratchet.ErrKey", "ratchet/ratchet.ErrForm", "ratchet/ratchet.ErrAuth", "ratchet/ratchet.ErrSkip", "ratchet/ratchet.ErrNone", "ratchet/ratchet.ErrFull"] (by kernel_rfl) (by kernel_rfl)
theorem names_row_tie : Rows.namesRow.laidByTextAt .later Tryd.pinned [.sentinel, .sentinel, .sentinel, .sentinel, .sentinel, .sentinel, .sentinel] true :=
  OpenClaim.laidByTextAt_later rfl rfl tie noOwnUnsafe
theorem agree_row_tie : Rows.agreeRow.laidByTextAt .later Tryd.pinned [.sentinel, .sentinel, .sentinel, .sentinel, .sentinel, .sentinel, .sentinel] true :=
  OpenClaim.laidByTextAt_later rfl rfl tie noOwnUnsafe
theorem tie2 : Tryd.prog.laidByTextLater [("ratchet/sums.roundWords", Rows.laid_ratchet_sums_roundWords), ("ratchet/ratchet.ErrLong", Rows.laid_ratchet_ratchet_ErrLong), ("ratchet/ratchet.ErrKey", Rows.laid_ratchet_ratchet_ErrKey), ("ratchet/ratchet.ErrForm", Rows.laid_ratchet_ratchet_ErrForm), ("ratchet/ratchet.ErrAuth", Rows.laid_ratchet_ratchet_ErrAuth), ("ratchet/ratchet.ErrSkip", Rows.laid_ratchet_ratchet_ErrSkip), ("ratchet/ratchet.ErrNone", Rows.laid_ratchet_ratchet_ErrNone), ("ratchet/ratchet.ErrFull", Rows.laid_ratchet_ratchet_ErrFull)] [.data, .sentinel, .sentinel, .sentinel, .sentinel, .sentinel, .sentinel, .sentinel] true :=
  Program.laidByTextLater.sub seatTie1 ["ratchet/sums.roundWords", "ratchet/ratchet.ErrLong", "ratchet/ratchet.ErrKey", "ratchet/ratchet.ErrForm", "ratchet/ratchet.ErrAuth", "ratchet/ratchet.ErrSkip", "ratchet/ratchet.ErrNone", "ratchet/ratchet.ErrFull"] (by kernel_rfl) (by kernel_rfl)
theorem hashes_row_tie : Rows.hashesRow.laidByTextAt .later Tryd.pinned [.data, .sentinel, .sentinel, .sentinel, .sentinel, .sentinel, .sentinel, .sentinel] true :=
  OpenClaim.laidByTextAt_later rfl rfl tie2 noOwnUnsafe
theorem macs_row_tie : Rows.macsRow.laidByTextAt .later Tryd.pinned [.data, .sentinel, .sentinel, .sentinel, .sentinel, .sentinel, .sentinel, .sentinel] true :=
  OpenClaim.laidByTextAt_later rfl rfl tie2 noOwnUnsafe
theorem shares_row_tie : Rows.sharesRow.laidByTextAt .later Tryd.pinned [.data, .sentinel, .sentinel, .sentinel, .sentinel, .sentinel, .sentinel, .sentinel] true :=
  OpenClaim.laidByTextAt_later rfl rfl tie2 noOwnUnsafe
theorem boxes_row_tie : Rows.boxesRow.laidByTextAt .later Tryd.pinned [.data, .sentinel, .sentinel, .sentinel, .sentinel, .sentinel, .sentinel, .sentinel] true :=
  OpenClaim.laidByTextAt_later rfl rfl tie2 noOwnUnsafe
theorem sealed_row_tie : Rows.sealedRow.laidByTextAt .later Tryd.pinned [.data, .sentinel, .sentinel, .sentinel, .sentinel, .sentinel, .sentinel, .sentinel] true :=
  OpenClaim.laidByTextAt_later rfl rfl tie2 noOwnUnsafe
theorem delivered_row_tie : Rows.deliveredRow.laidByTextAt .later Tryd.pinned [.data, .sentinel, .sentinel, .sentinel, .sentinel, .sentinel, .sentinel, .sentinel] true :=
  OpenClaim.laidByTextAt_later rfl rfl tie2 noOwnUnsafe
theorem spoilt_row_tie : Rows.spoiltRow.laidByTextAt .later Tryd.pinned [.data, .sentinel, .sentinel, .sentinel, .sentinel, .sentinel, .sentinel, .sentinel] true :=
  OpenClaim.laidByTextAt_later rfl rfl tie2 noOwnUnsafe
theorem copies_row_tie : Rows.copiesRow.laidByTextAt .later Tryd.pinned [.data, .sentinel, .sentinel, .sentinel, .sentinel, .sentinel, .sentinel, .sentinel] true :=
  OpenClaim.laidByTextAt_later rfl rfl tie2 noOwnUnsafe
theorem namesUpto_row_tie : Rows.namesUptoRow.laidByTextAt .later Tryd.pinned [.sentinel, .sentinel, .sentinel, .sentinel, .sentinel, .sentinel, .sentinel] true :=
  OpenClaim.laidByTextAt_later rfl rfl tie noOwnUnsafe
theorem hashesUpto_row_tie : Rows.hashesUptoRow.laidByTextAt .later Tryd.pinned [.data, .sentinel, .sentinel, .sentinel, .sentinel, .sentinel, .sentinel, .sentinel] true :=
  OpenClaim.laidByTextAt_later rfl rfl tie2 noOwnUnsafe
theorem macsUpto_row_tie : Rows.macsUptoRow.laidByTextAt .later Tryd.pinned [.data, .sentinel, .sentinel, .sentinel, .sentinel, .sentinel, .sentinel, .sentinel] true :=
  OpenClaim.laidByTextAt_later rfl rfl tie2 noOwnUnsafe
theorem sharesUpto_row_tie : Rows.sharesUptoRow.laidByTextAt .later Tryd.pinned [.data, .sentinel, .sentinel, .sentinel, .sentinel, .sentinel, .sentinel, .sentinel] true :=
  OpenClaim.laidByTextAt_later rfl rfl tie2 noOwnUnsafe
theorem agreeUpto_row_tie : Rows.agreeUptoRow.laidByTextAt .later Tryd.pinned [.sentinel, .sentinel, .sentinel, .sentinel, .sentinel, .sentinel, .sentinel] true :=
  OpenClaim.laidByTextAt_later rfl rfl tie noOwnUnsafe
theorem boxesUpto_row_tie : Rows.boxesUptoRow.laidByTextAt .later Tryd.pinned [.data, .sentinel, .sentinel, .sentinel, .sentinel, .sentinel, .sentinel, .sentinel] true :=
  OpenClaim.laidByTextAt_later rfl rfl tie2 noOwnUnsafe
theorem sealedUpto_row_tie : Rows.sealedUptoRow.laidByTextAt .later Tryd.pinned [.data, .sentinel, .sentinel, .sentinel, .sentinel, .sentinel, .sentinel, .sentinel] true :=
  OpenClaim.laidByTextAt_later rfl rfl tie2 noOwnUnsafe
theorem deliveredUpto_row_tie : Rows.deliveredUptoRow.laidByTextAt .later Tryd.pinned [.data, .sentinel, .sentinel, .sentinel, .sentinel, .sentinel, .sentinel, .sentinel] true :=
  OpenClaim.laidByTextAt_later rfl rfl tie2 noOwnUnsafe
theorem spoiltUpto_row_tie : Rows.spoiltUptoRow.laidByTextAt .later Tryd.pinned [.data, .sentinel, .sentinel, .sentinel, .sentinel, .sentinel, .sentinel, .sentinel] true :=
  OpenClaim.laidByTextAt_later rfl rfl tie2 noOwnUnsafe
theorem copiesUpto_row_tie : Rows.copiesUptoRow.laidByTextAt .later Tryd.pinned [.data, .sentinel, .sentinel, .sentinel, .sentinel, .sentinel, .sentinel, .sentinel] true :=
  OpenClaim.laidByTextAt_later rfl rfl tie2 noOwnUnsafe
end Go.Proofs.YtgjdogkciklgkaaDoor
