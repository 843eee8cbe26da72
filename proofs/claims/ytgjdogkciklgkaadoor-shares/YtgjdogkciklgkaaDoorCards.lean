/-
  DERIVED. GIVEN WITH THE SEED: THE CARDS: each row of YtgjdogkciklgkaaDoorRows.lean that lists a variable, with what it lists TIED to the program's text (the seventh form; the later family's looks); each row that meets fmt, with fmt's text TOLD by the authors' own Lean function (tested against real Go, not proved from fmt's source: count such statements apart). THE CARD IS WHAT COUNTS. Prove the row's statement (the work); the ties are given (YtgjdogkciklgkaaDoorTie.lean); close each card by the builder's one call (the guide's Derived/Test/ToyasCard.lean, 'card_holds'). Laid BY PROGRAM, IN A SANDBOX (cutbox-door.mjs). By AI agents, Wed Nov 11 2026. No macro, syntax, notation, axiom, sorry.
-/
import Derived.Test.YtgjdogkciklgkaaDoorRows
import GoSem.ClaimSeven
namespace Go.Proofs.YtgjdogkciklgkaaDoor
namespace Rows

/-- THE TIED CARD OF 'ratchetlaw.Names'. -/
def namesCard : Claim7 := { stood := { row := namesRow, standIns := [], harness := (true, "8eccb4343e883133a1683bfa15d4b18098568b2237eb955461ad9f96d09258c9"), looks := true }, kinds := [], alts := [], laidByText := true, laidKinds := [.sentinel, .sentinel, .sentinel, .sentinel, .sentinel, .sentinel, .sentinel], laidTests := true, laidLooks := .later }
def NamesCardSaid : Prop := Claim7.holds Tryd.pinned (.plain (OpenSpec.ofChange namesSpec)) namesCard

/-- THE TIED CARD OF 'ratchetlaw.Hashes'. -/
def hashesCard : Claim7 := { stood := { row := hashesRow, standIns := [], harness := (true, "8eccb4343e883133a1683bfa15d4b18098568b2237eb955461ad9f96d09258c9"), looks := true }, kinds := [], alts := [], laidByText := true, laidKinds := [.data, .sentinel, .sentinel, .sentinel, .sentinel, .sentinel, .sentinel, .sentinel], laidTests := true, laidLooks := .later }
def HashesCardSaid : Prop := Claim7.holds Tryd.pinned (.plain (OpenSpec.ofChange hashesSpec)) hashesCard

/-- THE TIED CARD OF 'ratchetlaw.Macs'. -/
def macsCard : Claim7 := { stood := { row := macsRow, standIns := [], harness := (true, "8eccb4343e883133a1683bfa15d4b18098568b2237eb955461ad9f96d09258c9"), looks := true }, kinds := [], alts := [], laidByText := true, laidKinds := [.data, .sentinel, .sentinel, .sentinel, .sentinel, .sentinel, .sentinel, .sentinel], laidTests := true, laidLooks := .later }
def MacsCardSaid : Prop := Claim7.holds Tryd.pinned (.plain (OpenSpec.ofChange macsSpec)) macsCard

/-- THE TIED CARD OF 'ratchetlaw.Shares'. -/
def sharesCard : Claim7 := { stood := { row := sharesRow, standIns := [], harness := (true, "8eccb4343e883133a1683bfa15d4b18098568b2237eb955461ad9f96d09258c9"), looks := true }, kinds := [], alts := [], laidByText := true, laidKinds := [.data, .sentinel, .sentinel, .sentinel, .sentinel, .sentinel, .sentinel, .sentinel], laidTests := true, laidLooks := .later }
def SharesCardSaid : Prop := Claim7.holds Tryd.pinned (.plain (OpenSpec.ofChange sharesSpec)) sharesCard

/-- THE TIED CARD OF 'ratchetlaw.Agree'. -/
def agreeCard : Claim7 := { stood := { row := agreeRow, standIns := [], harness := (true, "8eccb4343e883133a1683bfa15d4b18098568b2237eb955461ad9f96d09258c9"), looks := true }, kinds := [], alts := [], laidByText := true, laidKinds := [.sentinel, .sentinel, .sentinel, .sentinel, .sentinel, .sentinel, .sentinel], laidTests := true, laidLooks := .later }
def AgreeCardSaid : Prop := Claim7.holds Tryd.pinned (.plain (OpenSpec.ofChange agreeSpec)) agreeCard

/-- THE TIED CARD OF 'ratchetlaw.Boxes'. -/
def boxesCard : Claim7 := { stood := { row := boxesRow, standIns := [], harness := (true, "8eccb4343e883133a1683bfa15d4b18098568b2237eb955461ad9f96d09258c9"), looks := true }, kinds := [], alts := [], laidByText := true, laidKinds := [.data, .sentinel, .sentinel, .sentinel, .sentinel, .sentinel, .sentinel, .sentinel], laidTests := true, laidLooks := .later }
def BoxesCardSaid : Prop := Claim7.holds Tryd.pinned (.plain (OpenSpec.ofChange boxesSpec)) boxesCard

/-- THE TIED CARD OF 'ratchetlaw.Sealed'. -/
def sealedCard : Claim7 := { stood := { row := sealedRow, standIns := [], harness := (true, "8eccb4343e883133a1683bfa15d4b18098568b2237eb955461ad9f96d09258c9"), looks := true }, kinds := [], alts := [], laidByText := true, laidKinds := [.data, .sentinel, .sentinel, .sentinel, .sentinel, .sentinel, .sentinel, .sentinel], laidTests := true, laidLooks := .later }
def SealedCardSaid : Prop := Claim7.holds Tryd.pinned (.plain (OpenSpec.ofChange sealedSpec)) sealedCard

/-- THE TIED CARD OF 'ratchetlaw.Delivered'. -/
def deliveredCard : Claim7 := { stood := { row := deliveredRow, standIns := [], harness := (true, "8eccb4343e883133a1683bfa15d4b18098568b2237eb955461ad9f96d09258c9"), looks := true }, kinds := [], alts := [], laidByText := true, laidKinds := [.data, .sentinel, .sentinel, .sentinel, .sentinel, .sentinel, .sentinel, .sentinel], laidTests := true, laidLooks := .later }
def DeliveredCardSaid : Prop := Claim7.holds Tryd.pinned (.plain (OpenSpec.ofChange deliveredSpec)) deliveredCard

/-- THE TIED CARD OF 'ratchetlaw.Spoilt'. -/
def spoiltCard : Claim7 := { stood := { row := spoiltRow, standIns := [], harness := (true, "8eccb4343e883133a1683bfa15d4b18098568b2237eb955461ad9f96d09258c9"), looks := true }, kinds := [], alts := [], laidByText := true, laidKinds := [.data, .sentinel, .sentinel, .sentinel, .sentinel, .sentinel, .sentinel, .sentinel], laidTests := true, laidLooks := .later }
def SpoiltCardSaid : Prop := Claim7.holds Tryd.pinned (.plain (OpenSpec.ofChange spoiltSpec)) spoiltCard

/-- THE TIED CARD OF 'ratchetlaw.Copies'. -/
def copiesCard : Claim7 := { stood := { row := copiesRow, standIns := [], harness := (true, "8eccb4343e883133a1683bfa15d4b18098568b2237eb955461ad9f96d09258c9"), looks := true }, kinds := [], alts := [], laidByText := true, laidKinds := [.data, .sentinel, .sentinel, .sentinel, .sentinel, .sentinel, .sentinel, .sentinel], laidTests := true, laidLooks := .later }
def CopiesCardSaid : Prop := Claim7.holds Tryd.pinned (.plain (OpenSpec.ofChange copiesSpec)) copiesCard

/-- THE SECOND FORM's CARD OF 'ratchetlaw.Names'. -/
def namesUptoCard : Claim7 := { stood := { row := namesUptoRow, standIns := [], harness := (true, "8eccb4343e883133a1683bfa15d4b18098568b2237eb955461ad9f96d09258c9"), looks := true }, kinds := [], alts := [], laidByText := true, laidKinds := [.sentinel, .sentinel, .sentinel, .sentinel, .sentinel, .sentinel, .sentinel], laidTests := true, laidLooks := .later }
def NamesUptoCardSaid : Prop := Claim7.holds Tryd.pinned (.plain (OpenSpec.upto namesSpec)) namesUptoCard

/-- THE SECOND FORM's CARD OF 'ratchetlaw.Hashes'. -/
def hashesUptoCard : Claim7 := { stood := { row := hashesUptoRow, standIns := [], harness := (true, "8eccb4343e883133a1683bfa15d4b18098568b2237eb955461ad9f96d09258c9"), looks := true }, kinds := [], alts := [], laidByText := true, laidKinds := [.data, .sentinel, .sentinel, .sentinel, .sentinel, .sentinel, .sentinel, .sentinel], laidTests := true, laidLooks := .later }
def HashesUptoCardSaid : Prop := Claim7.holds Tryd.pinned (.plain (OpenSpec.upto hashesSpec)) hashesUptoCard

/-- THE SECOND FORM's CARD OF 'ratchetlaw.Macs'. -/
def macsUptoCard : Claim7 := { stood := { row := macsUptoRow, standIns := [], harness := (true, "8eccb4343e883133a1683bfa15d4b18098568b2237eb955461ad9f96d09258c9"), looks := true }, kinds := [], alts := [], laidByText := true, laidKinds := [.data, .sentinel, .sentinel, .sentinel, .sentinel, .sentinel, .sentinel, .sentinel], laidTests := true, laidLooks := .later }
def MacsUptoCardSaid : Prop := Claim7.holds Tryd.pinned (.plain (OpenSpec.upto macsSpec)) macsUptoCard

/-- THE SECOND FORM's CARD OF 'ratchetlaw.Shares'. -/
def sharesUptoCard : Claim7 := { stood := { row := sharesUptoRow, standIns := [], harness := (true, "8eccb4343e883133a1683bfa15d4b18098568b2237eb955461ad9f96d09258c9"), looks := true }, kinds := [], alts := [], laidByText := true, laidKinds := [.data, .sentinel, .sentinel, .sentinel, .sentinel, .sentinel, .sentinel, .sentinel], laidTests := true, laidLooks := .later }
def SharesUptoCardSaid : Prop := Claim7.holds Tryd.pinned (.plain (OpenSpec.upto sharesSpec)) sharesUptoCard

/-- THE SECOND FORM's CARD OF 'ratchetlaw.Agree'. -/
def agreeUptoCard : Claim7 := { stood := { row := agreeUptoRow, standIns := [], harness := (true, "8eccb4343e883133a1683bfa15d4b18098568b2237eb955461ad9f96d09258c9"), looks := true }, kinds := [], alts := [], laidByText := true, laidKinds := [.sentinel, .sentinel, .sentinel, .sentinel, .sentinel, .sentinel, .sentinel], laidTests := true, laidLooks := .later }
def AgreeUptoCardSaid : Prop := Claim7.holds Tryd.pinned (.plain (OpenSpec.upto agreeSpec)) agreeUptoCard

/-- THE SECOND FORM's CARD OF 'ratchetlaw.Boxes'. -/
def boxesUptoCard : Claim7 := { stood := { row := boxesUptoRow, standIns := [], harness := (true, "8eccb4343e883133a1683bfa15d4b18098568b2237eb955461ad9f96d09258c9"), looks := true }, kinds := [], alts := [], laidByText := true, laidKinds := [.data, .sentinel, .sentinel, .sentinel, .sentinel, .sentinel, .sentinel, .sentinel], laidTests := true, laidLooks := .later }
def BoxesUptoCardSaid : Prop := Claim7.holds Tryd.pinned (.plain (OpenSpec.upto boxesSpec)) boxesUptoCard

/-- THE SECOND FORM's CARD OF 'ratchetlaw.Sealed'. -/
def sealedUptoCard : Claim7 := { stood := { row := sealedUptoRow, standIns := [], harness := (true, "8eccb4343e883133a1683bfa15d4b18098568b2237eb955461ad9f96d09258c9"), looks := true }, kinds := [], alts := [], laidByText := true, laidKinds := [.data, .sentinel, .sentinel, .sentinel, .sentinel, .sentinel, .sentinel, .sentinel], laidTests := true, laidLooks := .later }
def SealedUptoCardSaid : Prop := Claim7.holds Tryd.pinned (.plain (OpenSpec.upto sealedSpec)) sealedUptoCard

/-- THE SECOND FORM's CARD OF 'ratchetlaw.Delivered'. -/
def deliveredUptoCard : Claim7 := { stood := { row := deliveredUptoRow, standIns := [], harness := (true, "8eccb4343e883133a1683bfa15d4b18098568b2237eb955461ad9f96d09258c9"), looks := true }, kinds := [], alts := [], laidByText := true, laidKinds := [.data, .sentinel, .sentinel, .sentinel, .sentinel, .sentinel, .sentinel, .sentinel], laidTests := true, laidLooks := .later }
def DeliveredUptoCardSaid : Prop := Claim7.holds Tryd.pinned (.plain (OpenSpec.upto deliveredSpec)) deliveredUptoCard

/-- THE SECOND FORM's CARD OF 'ratchetlaw.Spoilt'. -/
def spoiltUptoCard : Claim7 := { stood := { row := spoiltUptoRow, standIns := [], harness := (true, "8eccb4343e883133a1683bfa15d4b18098568b2237eb955461ad9f96d09258c9"), looks := true }, kinds := [], alts := [], laidByText := true, laidKinds := [.data, .sentinel, .sentinel, .sentinel, .sentinel, .sentinel, .sentinel, .sentinel], laidTests := true, laidLooks := .later }
def SpoiltUptoCardSaid : Prop := Claim7.holds Tryd.pinned (.plain (OpenSpec.upto spoiltSpec)) spoiltUptoCard

/-- THE SECOND FORM's CARD OF 'ratchetlaw.Copies'. -/
def copiesUptoCard : Claim7 := { stood := { row := copiesUptoRow, standIns := [], harness := (true, "8eccb4343e883133a1683bfa15d4b18098568b2237eb955461ad9f96d09258c9"), looks := true }, kinds := [], alts := [], laidByText := true, laidKinds := [.data, .sentinel, .sentinel, .sentinel, .sentinel, .sentinel, .sentinel, .sentinel], laidTests := true, laidLooks := .later }
def CopiesUptoCardSaid : Prop := Claim7.holds Tryd.pinned (.plain (OpenSpec.upto copiesSpec)) copiesUptoCard
end Rows
end Go.Proofs.YtgjdogkciklgkaaDoor
