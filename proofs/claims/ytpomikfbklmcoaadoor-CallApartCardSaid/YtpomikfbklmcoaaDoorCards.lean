/-
  DERIVED. GIVEN WITH THE SEED: THE CARDS: each row of YtpomikfbklmcoaaDoorRows.lean that lists a variable, with what it lists TIED to the program's text (the seventh form; the later family's looks); each row that meets fmt, with fmt's text TOLD by the authors' own Lean function (tested against real Go, not proved from fmt's source: count such statements apart). THE CARD IS WHAT COUNTS. Prove the row's statement (the work); the ties are given (YtpomikfbklmcoaaDoorTie.lean); close each card by the builder's one call (the guide's Derived/Test/ToyasCard.lean, 'card_holds'). Laid BY PROGRAM, IN A SANDBOX (cutbox-door.mjs). By AI agents, Wed Nov 11 2026. No macro, syntax, notation, axiom, sorry.
-/
import Derived.Test.YtpomikfbklmcoaaDoorRows
import GoSem.ClaimSeven
namespace Go.Proofs.YtpomikfbklmcoaaDoor
namespace Rows

/-- THE TIED CARD OF 'boscagelaw30.CallCells'. -/
def callCellsCard : Claim7 := { stood := { row := callCellsRow, standIns := [], harness := (true, "1e755c65a67a82324d441efbe41f24f6db3765238b29409f62380de80275e364"), looks := false }, kinds := [], alts := [], laidByText := true, laidKinds := [.data], laidTests := true, laidLooks := .later }
def CallCellsCardSaid : Prop := Claim7.holds Tryd.pinned (.plain (OpenSpec.ofChange callCellsSpec)) callCellsCard

/-- THE TIED CARD OF 'boscagelaw30.CallApart'. -/
def callApartCard : Claim7 := { stood := { row := callApartRow, standIns := [], harness := (true, "1e755c65a67a82324d441efbe41f24f6db3765238b29409f62380de80275e364"), looks := false }, kinds := [], alts := [], laidByText := true, laidKinds := [.data], laidTests := true, laidLooks := .later }
def CallApartCardSaid : Prop := Claim7.holds Tryd.pinned (.plain (OpenSpec.ofChange callApartSpec)) callApartCard

/-- THE SECOND FORM's CARD OF 'boscagelaw30.CallCells'. -/
def callCellsUptoCard : Claim7 := { stood := { row := callCellsUptoRow, standIns := [], harness := (true, "1e755c65a67a82324d441efbe41f24f6db3765238b29409f62380de80275e364"), looks := false }, kinds := [], alts := [], laidByText := true, laidKinds := [.data], laidTests := true, laidLooks := .later }
def CallCellsUptoCardSaid : Prop := Claim7.holds Tryd.pinned (.plain (OpenSpec.upto callCellsSpec)) callCellsUptoCard

/-- THE SECOND FORM's CARD OF 'boscagelaw30.CallApart'. -/
def callApartUptoCard : Claim7 := { stood := { row := callApartUptoRow, standIns := [], harness := (true, "1e755c65a67a82324d441efbe41f24f6db3765238b29409f62380de80275e364"), looks := false }, kinds := [], alts := [], laidByText := true, laidKinds := [.data], laidTests := true, laidLooks := .later }
def CallApartUptoCardSaid : Prop := Claim7.holds Tryd.pinned (.plain (OpenSpec.upto callApartSpec)) callApartUptoCard
end Rows
end Go.Proofs.YtpomikfbklmcoaaDoor
