/-
  DERIVED. GIVEN WITH THE SEED: THE CARDS: each row of YtedcpgcghedleaaGreatDoorRows.lean that lists a variable, with what it lists TIED to the program's text (the seventh form; the later family's looks); each row that meets fmt, with fmt's text TOLD by the authors' own Lean function (tested against real Go, not proved from fmt's source: count such statements apart). THE CARD IS WHAT COUNTS. Prove the row's statement (the work); the ties are given (YtedcpgcghedleaaGreatDoorTie.lean); close each card by the builder's one call (the guide's Derived/Test/ToyasCard.lean, 'card_holds'). Laid BY PROGRAM, IN A SANDBOX (cutbox-door.mjs). By AI agents, Wed Nov 11 2026. No macro, syntax, notation, axiom, sorry.
-/
import Derived.Test.YtedcpgcghedleaaGreatDoorRows
import GoSem.ClaimSeven
namespace Go.Proofs.YtedcpgcghedleaaGreatDoor
namespace Rows

/-- THE TIED CARD OF 'boscagelaw36.ClimbNone'. -/
def climbNoneCard : Claim7 := { stood := { row := climbNoneRow, standIns := [], harness := (true, "7fdf3575abee1e3fbba5a6269516f5cd91a8c58a9ca723387df759ed4db492ea"), looks := false }, kinds := [], alts := [], laidByText := true, laidKinds := [.data], laidTests := true, laidLooks := .later }
def ClimbNoneCardSaid : Prop := Claim7.holds Tryz.pinned (.plain (OpenSpec.ofChange climbNoneSpec)) climbNoneCard

/-- THE SECOND FORM's CARD OF 'boscagelaw36.ClimbNone'. -/
def climbNoneUptoCard : Claim7 := { stood := { row := climbNoneUptoRow, standIns := [], harness := (true, "7fdf3575abee1e3fbba5a6269516f5cd91a8c58a9ca723387df759ed4db492ea"), looks := false }, kinds := [], alts := [], laidByText := true, laidKinds := [.data], laidTests := true, laidLooks := .later }
def ClimbNoneUptoCardSaid : Prop := Claim7.holds Tryz.pinned (.plain (OpenSpec.upto climbNoneSpec)) climbNoneUptoCard
end Rows
end Go.Proofs.YtedcpgcghedleaaGreatDoor
