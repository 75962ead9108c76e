/-
  DERIVED. GIVEN WITH THE SEED: THE CARDS: each row of YtdodckipblafmaaGreatDoorRows.lean that lists a variable, with what it lists TIED to the program's text (the seventh form; the later family's looks); each row that meets fmt, with fmt's text TOLD by the authors' own Lean function (tested against real Go, not proved from fmt's source: count such statements apart). THE CARD IS WHAT COUNTS. Prove the row's statement (the work); the ties are given (YtdodckipblafmaaGreatDoorTie.lean); close each card by the builder's one call (the guide's Derived/Test/ToyasCard.lean, 'card_holds'). Laid BY PROGRAM, IN A SANDBOX (cutbox-door.mjs). By AI agents, Wed Nov 11 2026. No macro, syntax, notation, axiom, sorry.
-/
import Derived.Test.YtdodckipblafmaaGreatDoorRows
import GoSem.ClaimSeven
namespace Go.Proofs.YtdodckipblafmaaGreatDoor
namespace Rows

/-- THE TIED CARD OF 'boscagelaw22.SeekLies'. -/
def seekLiesCard : Claim7 := { stood := { row := seekLiesRow, standIns := [], harness := (true, "ef949a108e3b7df7dd97386d657272cbe26d21e369ee80be9887a4ee64f2c80c"), looks := false }, kinds := [], alts := [], laidByText := true, laidKinds := [.data], laidTests := true, laidLooks := .later }
def SeekLiesCardSaid : Prop := Claim7.holds Tryz.pinned (.plain (OpenSpec.ofChange seekLiesSpec)) seekLiesCard

/-- THE TIED CARD OF 'boscagelaw22.SeekRuns'. -/
def seekRunsCard : Claim7 := { stood := { row := seekRunsRow, standIns := [], harness := (true, "ef949a108e3b7df7dd97386d657272cbe26d21e369ee80be9887a4ee64f2c80c"), looks := false }, kinds := [], alts := [], laidByText := true, laidKinds := [.data], laidTests := true, laidLooks := .later }
def SeekRunsCardSaid : Prop := Claim7.holds Tryz.pinned (.plain (OpenSpec.ofChange seekRunsSpec)) seekRunsCard

/-- THE TIED CARD OF 'boscagelaw22.SeekInside'. -/
def seekInsideCard : Claim7 := { stood := { row := seekInsideRow, standIns := [], harness := (true, "ef949a108e3b7df7dd97386d657272cbe26d21e369ee80be9887a4ee64f2c80c"), looks := false }, kinds := [], alts := [], laidByText := true, laidKinds := [.data], laidTests := true, laidLooks := .later }
def SeekInsideCardSaid : Prop := Claim7.holds Tryz.pinned (.plain (OpenSpec.ofChange seekInsideSpec)) seekInsideCard

/-- THE TIED CARD OF 'boscagelaw22.SeekFeeds'. -/
def seekFeedsCard : Claim7 := { stood := { row := seekFeedsRow, standIns := [], harness := (true, "ef949a108e3b7df7dd97386d657272cbe26d21e369ee80be9887a4ee64f2c80c"), looks := false }, kinds := [], alts := [], laidByText := true, laidKinds := [.data], laidTests := true, laidLooks := .later }
def SeekFeedsCardSaid : Prop := Claim7.holds Tryz.pinned (.plain (OpenSpec.ofChange seekFeedsSpec)) seekFeedsCard

/-- THE TIED CARD OF 'boscagelaw22.SeekAll'. -/
def seekAllCard : Claim7 := { stood := { row := seekAllRow, standIns := [], harness := (true, "ef949a108e3b7df7dd97386d657272cbe26d21e369ee80be9887a4ee64f2c80c"), looks := false }, kinds := [], alts := [], laidByText := true, laidKinds := [.data], laidTests := true, laidLooks := .later }
def SeekAllCardSaid : Prop := Claim7.holds Tryz.pinned (.plain (OpenSpec.ofChange seekAllSpec)) seekAllCard

/-- THE SECOND FORM's CARD OF 'boscagelaw22.SeekLies'. -/
def seekLiesUptoCard : Claim7 := { stood := { row := seekLiesUptoRow, standIns := [], harness := (true, "ef949a108e3b7df7dd97386d657272cbe26d21e369ee80be9887a4ee64f2c80c"), looks := false }, kinds := [], alts := [], laidByText := true, laidKinds := [.data], laidTests := true, laidLooks := .later }
def SeekLiesUptoCardSaid : Prop := Claim7.holds Tryz.pinned (.plain (OpenSpec.upto seekLiesSpec)) seekLiesUptoCard

/-- THE SECOND FORM's CARD OF 'boscagelaw22.SeekRuns'. -/
def seekRunsUptoCard : Claim7 := { stood := { row := seekRunsUptoRow, standIns := [], harness := (true, "ef949a108e3b7df7dd97386d657272cbe26d21e369ee80be9887a4ee64f2c80c"), looks := false }, kinds := [], alts := [], laidByText := true, laidKinds := [.data], laidTests := true, laidLooks := .later }
def SeekRunsUptoCardSaid : Prop := Claim7.holds Tryz.pinned (.plain (OpenSpec.upto seekRunsSpec)) seekRunsUptoCard

/-- THE SECOND FORM's CARD OF 'boscagelaw22.SeekInside'. -/
def seekInsideUptoCard : Claim7 := { stood := { row := seekInsideUptoRow, standIns := [], harness := (true, "ef949a108e3b7df7dd97386d657272cbe26d21e369ee80be9887a4ee64f2c80c"), looks := false }, kinds := [], alts := [], laidByText := true, laidKinds := [.data], laidTests := true, laidLooks := .later }
def SeekInsideUptoCardSaid : Prop := Claim7.holds Tryz.pinned (.plain (OpenSpec.upto seekInsideSpec)) seekInsideUptoCard

/-- THE SECOND FORM's CARD OF 'boscagelaw22.SeekFeeds'. -/
def seekFeedsUptoCard : Claim7 := { stood := { row := seekFeedsUptoRow, standIns := [], harness := (true, "ef949a108e3b7df7dd97386d657272cbe26d21e369ee80be9887a4ee64f2c80c"), looks := false }, kinds := [], alts := [], laidByText := true, laidKinds := [.data], laidTests := true, laidLooks := .later }
def SeekFeedsUptoCardSaid : Prop := Claim7.holds Tryz.pinned (.plain (OpenSpec.upto seekFeedsSpec)) seekFeedsUptoCard

/-- THE SECOND FORM's CARD OF 'boscagelaw22.SeekAll'. -/
def seekAllUptoCard : Claim7 := { stood := { row := seekAllUptoRow, standIns := [], harness := (true, "ef949a108e3b7df7dd97386d657272cbe26d21e369ee80be9887a4ee64f2c80c"), looks := false }, kinds := [], alts := [], laidByText := true, laidKinds := [.data], laidTests := true, laidLooks := .later }
def SeekAllUptoCardSaid : Prop := Claim7.holds Tryz.pinned (.plain (OpenSpec.upto seekAllSpec)) seekAllUptoCard
end Rows
end Go.Proofs.YtdodckipblafmaaGreatDoor
