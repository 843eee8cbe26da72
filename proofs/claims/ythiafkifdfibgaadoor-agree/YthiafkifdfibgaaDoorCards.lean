/-
  DERIVED. GIVEN WITH THE SEED: THE CARDS: each row of YthiafkifdfibgaaDoorRows.lean that lists a variable, with what it lists TIED to the program's text (the seventh form; the later family's looks); each row that meets fmt, with fmt's text TOLD by the authors' own Lean function (tested against real Go, not proved from fmt's source: count such statements apart). THE CARD IS WHAT COUNTS. Prove the row's statement (the work); the ties are given (YthiafkifdfibgaaDoorTie.lean); close each card by the builder's one call (the guide's Derived/Test/ToyasCard.lean, 'card_holds'). Laid BY PROGRAM, IN A SANDBOX (cutbox-door.mjs). By AI agents, Wed Nov 11 2026. No macro, syntax, notation, axiom, sorry.
-/
import Derived.Test.YthiafkifdfibgaaDoorRows
import GoSem.ClaimSeven
namespace Go.Proofs.YthiafkifdfibgaaDoor
namespace Rows

/-- THE TIED CARD OF 'ratchetlaw.Names'. -/
def namesCard : Claim7 := { stood := { row := namesRow, standIns := [], harness := (true, "09f71af8ed22e42e4dc9dc629e46988547a72956d438cd769e6e31cc2e1a5682"), looks := true }, kinds := [], alts := [], laidByText := true, laidKinds := [.sentinel, .sentinel, .sentinel, .sentinel, .sentinel, .sentinel, .sentinel], laidTests := true, laidLooks := .later }
def NamesCardSaid : Prop := Claim7.holds Tryd.pinned (.plain (OpenSpec.ofChange namesSpec)) namesCard

/-- THE TIED CARD OF 'ratchetlaw.Hashes'. -/
def hashesCard : Claim7 := { stood := { row := hashesRow, standIns := [], harness := (true, "09f71af8ed22e42e4dc9dc629e46988547a72956d438cd769e6e31cc2e1a5682"), looks := true }, kinds := [], alts := [], laidByText := true, laidKinds := [.data, .sentinel, .sentinel, .sentinel, .sentinel, .sentinel, .sentinel, .sentinel], laidTests := true, laidLooks := .later }
def HashesCardSaid : Prop := Claim7.holds Tryd.pinned (.plain (OpenSpec.ofChange hashesSpec)) hashesCard

/-- THE TIED CARD OF 'ratchetlaw.Macs'. -/
def macsCard : Claim7 := { stood := { row := macsRow, standIns := [], harness := (true, "09f71af8ed22e42e4dc9dc629e46988547a72956d438cd769e6e31cc2e1a5682"), looks := true }, kinds := [], alts := [], laidByText := true, laidKinds := [.data, .sentinel, .sentinel, .sentinel, .sentinel, .sentinel, .sentinel, .sentinel], laidTests := true, laidLooks := .later }
def MacsCardSaid : Prop := Claim7.holds Tryd.pinned (.plain (OpenSpec.ofChange macsSpec)) macsCard

/-- THE TIED CARD OF 'ratchetlaw.Shares'. -/
def sharesCard : Claim7 := { stood := { row := sharesRow, standIns := [], harness := (true, "09f71af8ed22e42e4dc9dc629e46988547a72956d438cd769e6e31cc2e1a5682"), looks := true }, kinds := [], alts := [], laidByText := true, laidKinds := [.data, .sentinel, .sentinel, .sentinel, .sentinel, .sentinel, .sentinel, .sentinel], laidTests := true, laidLooks := .later }
def SharesCardSaid : Prop := Claim7.holds Tryd.pinned (.plain (OpenSpec.ofChange sharesSpec)) sharesCard

/-- THE TIED CARD OF 'ratchetlaw.Agree'. -/
def agreeCard : Claim7 := { stood := { row := agreeRow, standIns := [], harness := (true, "09f71af8ed22e42e4dc9dc629e46988547a72956d438cd769e6e31cc2e1a5682"), looks := true }, kinds := [], alts := [], laidByText := true, laidKinds := [.sentinel, .sentinel, .sentinel, .sentinel, .sentinel, .sentinel, .sentinel], laidTests := true, laidLooks := .later }
def AgreeCardSaid : Prop := Claim7.holds Tryd.pinned (.plain (OpenSpec.ofChange agreeSpec)) agreeCard

/-- THE TIED CARD OF 'ratchetlaw.Boxes'. -/
def boxesCard : Claim7 := { stood := { row := boxesRow, standIns := [], harness := (true, "09f71af8ed22e42e4dc9dc629e46988547a72956d438cd769e6e31cc2e1a5682"), looks := true }, kinds := [], alts := [], laidByText := true, laidKinds := [.data, .sentinel, .sentinel, .sentinel, .sentinel, .sentinel, .sentinel, .sentinel], laidTests := true, laidLooks := .later }
def BoxesCardSaid : Prop := Claim7.holds Tryd.pinned (.plain (OpenSpec.ofChange boxesSpec)) boxesCard

/-- THE TIED CARD OF 'ratchetlaw.Sealed'. -/
def sealedCard : Claim7 := { stood := { row := sealedRow, standIns := [], harness := (true, "09f71af8ed22e42e4dc9dc629e46988547a72956d438cd769e6e31cc2e1a5682"), looks := true }, kinds := [], alts := [], laidByText := true, laidKinds := [.data, .sentinel, .sentinel, .sentinel, .sentinel, .sentinel, .sentinel, .sentinel], laidTests := true, laidLooks := .later }
def SealedCardSaid : Prop := Claim7.holds Tryd.pinned (.plain (OpenSpec.ofChange sealedSpec)) sealedCard

/-- THE SECOND FORM's CARD OF 'ratchetlaw.Names'. -/
def namesUptoCard : Claim7 := { stood := { row := namesUptoRow, standIns := [], harness := (true, "09f71af8ed22e42e4dc9dc629e46988547a72956d438cd769e6e31cc2e1a5682"), looks := true }, kinds := [], alts := [], laidByText := true, laidKinds := [.sentinel, .sentinel, .sentinel, .sentinel, .sentinel, .sentinel, .sentinel], laidTests := true, laidLooks := .later }
def NamesUptoCardSaid : Prop := Claim7.holds Tryd.pinned (.plain (OpenSpec.upto namesSpec)) namesUptoCard

/-- THE SECOND FORM's CARD OF 'ratchetlaw.Hashes'. -/
def hashesUptoCard : Claim7 := { stood := { row := hashesUptoRow, standIns := [], harness := (true, "09f71af8ed22e42e4dc9dc629e46988547a72956d438cd769e6e31cc2e1a5682"), looks := true }, kinds := [], alts := [], laidByText := true, laidKinds := [.data, .sentinel, .sentinel, .sentinel, .sentinel, .sentinel, .sentinel, .sentinel], laidTests := true, laidLooks := .later }
def HashesUptoCardSaid : Prop := Claim7.holds Tryd.pinned (.plain (OpenSpec.upto hashesSpec)) hashesUptoCard

/-- THE SECOND FORM's CARD OF 'ratchetlaw.Macs'. -/
def macsUptoCard : Claim7 := { stood := { row := macsUptoRow, standIns := [], harness := (true, "09f71af8ed22e42e4dc9dc629e46988547a72956d438cd769e6e31cc2e1a5682"), looks := true }, kinds := [], alts := [], laidByText := true, laidKinds := [.data, .sentinel, .sentinel, .sentinel, .sentinel, .sentinel, .sentinel, .sentinel], laidTests := true, laidLooks := .later }
def MacsUptoCardSaid : Prop := Claim7.holds Tryd.pinned (.plain (OpenSpec.upto macsSpec)) macsUptoCard

/-- THE SECOND FORM's CARD OF 'ratchetlaw.Shares'. -/
def sharesUptoCard : Claim7 := { stood := { row := sharesUptoRow, standIns := [], harness := (true, "09f71af8ed22e42e4dc9dc629e46988547a72956d438cd769e6e31cc2e1a5682"), looks := true }, kinds := [], alts := [], laidByText := true, laidKinds := [.data, .sentinel, .sentinel, .sentinel, .sentinel, .sentinel, .sentinel, .sentinel], laidTests := true, laidLooks := .later }
def SharesUptoCardSaid : Prop := Claim7.holds Tryd.pinned (.plain (OpenSpec.upto sharesSpec)) sharesUptoCard

/-- THE SECOND FORM's CARD OF 'ratchetlaw.Agree'. -/
def agreeUptoCard : Claim7 := { stood := { row := agreeUptoRow, standIns := [], harness := (true, "09f71af8ed22e42e4dc9dc629e46988547a72956d438cd769e6e31cc2e1a5682"), looks := true }, kinds := [], alts := [], laidByText := true, laidKinds := [.sentinel, .sentinel, .sentinel, .sentinel, .sentinel, .sentinel, .sentinel], laidTests := true, laidLooks := .later }
def AgreeUptoCardSaid : Prop := Claim7.holds Tryd.pinned (.plain (OpenSpec.upto agreeSpec)) agreeUptoCard

/-- THE SECOND FORM's CARD OF 'ratchetlaw.Boxes'. -/
def boxesUptoCard : Claim7 := { stood := { row := boxesUptoRow, standIns := [], harness := (true, "09f71af8ed22e42e4dc9dc629e46988547a72956d438cd769e6e31cc2e1a5682"), looks := true }, kinds := [], alts := [], laidByText := true, laidKinds := [.data, .sentinel, .sentinel, .sentinel, .sentinel, .sentinel, .sentinel, .sentinel], laidTests := true, laidLooks := .later }
def BoxesUptoCardSaid : Prop := Claim7.holds Tryd.pinned (.plain (OpenSpec.upto boxesSpec)) boxesUptoCard

/-- THE SECOND FORM's CARD OF 'ratchetlaw.Sealed'. -/
def sealedUptoCard : Claim7 := { stood := { row := sealedUptoRow, standIns := [], harness := (true, "09f71af8ed22e42e4dc9dc629e46988547a72956d438cd769e6e31cc2e1a5682"), looks := true }, kinds := [], alts := [], laidByText := true, laidKinds := [.data, .sentinel, .sentinel, .sentinel, .sentinel, .sentinel, .sentinel, .sentinel], laidTests := true, laidLooks := .later }
def SealedUptoCardSaid : Prop := Claim7.holds Tryd.pinned (.plain (OpenSpec.upto sealedSpec)) sealedUptoCard
end Rows
end Go.Proofs.YthiafkifdfibgaaDoor
