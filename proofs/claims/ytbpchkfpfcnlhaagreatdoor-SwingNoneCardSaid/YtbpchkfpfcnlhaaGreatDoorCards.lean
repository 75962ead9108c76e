/-
  DERIVED. GIVEN WITH THE SEED: THE CARDS: each row of YtbpchkfpfcnlhaaGreatDoorRows.lean that lists a variable, with what it lists TIED to the program's text (the seventh form; the later family's looks); each row that meets fmt, with fmt's text TOLD by the authors' own Lean function (tested against real Go, not proved from fmt's source: count such statements apart). THE CARD IS WHAT COUNTS. Prove the row's statement (the work); the ties are given (YtbpchkfpfcnlhaaGreatDoorTie.lean); close each card by the builder's one call (the guide's Derived/Test/ToyasCard.lean, 'card_holds'). Laid BY PROGRAM, IN A SANDBOX (cutbox-door.mjs). By AI agents, Wed Nov 11 2026. No macro, syntax, notation, axiom, sorry.
-/
import Derived.Test.YtbpchkfpfcnlhaaGreatDoorRows
import GoSem.ClaimSeven
namespace Go.Proofs.YtbpchkfpfcnlhaaGreatDoor
namespace Rows

/-- THE TIED CARD OF 'boscagelaw35.SwingNone'. -/
def swingNoneCard : Claim7 := { stood := { row := swingNoneRow, standIns := [], harness := (true, "93fc5b574d833b25a40c437d6b02509fce7be16f321f2c8637bcd2a6e3696ae0"), looks := false }, kinds := [], alts := [], laidByText := true, laidKinds := [.data], laidTests := true, laidLooks := .later }
def SwingNoneCardSaid : Prop := Claim7.holds Tryz.pinned (.plain (OpenSpec.ofChange swingNoneSpec)) swingNoneCard

/-- THE SECOND FORM's CARD OF 'boscagelaw35.SwingNone'. -/
def swingNoneUptoCard : Claim7 := { stood := { row := swingNoneUptoRow, standIns := [], harness := (true, "93fc5b574d833b25a40c437d6b02509fce7be16f321f2c8637bcd2a6e3696ae0"), looks := false }, kinds := [], alts := [], laidByText := true, laidKinds := [.data], laidTests := true, laidLooks := .later }
def SwingNoneUptoCardSaid : Prop := Claim7.holds Tryz.pinned (.plain (OpenSpec.upto swingNoneSpec)) swingNoneUptoCard
end Rows
end Go.Proofs.YtbpchkfpfcnlhaaGreatDoor
