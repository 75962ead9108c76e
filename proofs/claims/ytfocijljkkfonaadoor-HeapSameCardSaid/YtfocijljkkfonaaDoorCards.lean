/-
  DERIVED. GIVEN WITH THE SEED: THE CARDS: each row of YtfocijljkkfonaaDoorRows.lean that lists a variable, with what it lists TIED to the program's text (the seventh form; the later family's looks); each row that meets fmt, with fmt's text TOLD by the authors' own Lean function (tested against real Go, not proved from fmt's source: count such statements apart). THE CARD IS WHAT COUNTS. Prove the row's statement (the work); the ties are given (YtfocijljkkfonaaDoorTie.lean); close each card by the builder's one call (the guide's Derived/Test/ToyasCard.lean, 'card_holds'). Laid BY PROGRAM, IN A SANDBOX (cutbox-door.mjs). By AI agents, Wed Nov 11 2026. No macro, syntax, notation, axiom, sorry.
-/
import Derived.Test.YtfocijljkkfonaaDoorRows
import GoSem.ClaimSeven
namespace Go.Proofs.YtfocijljkkfonaaDoor
namespace Rows

/-- THE TIED CARD OF 'boscagelaw17.HeapSame'. -/
def heapSameCard : Claim7 := { stood := { row := heapSameRow, standIns := [], harness := (true, "cdf19bf0e3060c7dbe078277278edcfbb7b38e475b0d7c768459d111c48451d2"), looks := false }, kinds := [], alts := [], laidByText := true, laidKinds := [.data, .data, .data], laidTests := true, laidLooks := .later }
def HeapSameCardSaid : Prop := Claim7.holds Tryd.pinned (.plain (OpenSpec.ofChange heapSameSpec)) heapSameCard

/-- THE TIED CARD OF 'boscagelaw17.HeapMore'. -/
def heapMoreCard : Claim7 := { stood := { row := heapMoreRow, standIns := [], harness := (true, "cdf19bf0e3060c7dbe078277278edcfbb7b38e475b0d7c768459d111c48451d2"), looks := false }, kinds := [], alts := [], laidByText := true, laidKinds := [.data, .data, .data], laidTests := true, laidLooks := .later }
def HeapMoreCardSaid : Prop := Claim7.holds Tryd.pinned (.plain (OpenSpec.ofChange heapMoreSpec)) heapMoreCard

/-- THE SECOND FORM's CARD OF 'boscagelaw17.HeapSame'. -/
def heapSameUptoCard : Claim7 := { stood := { row := heapSameUptoRow, standIns := [], harness := (true, "cdf19bf0e3060c7dbe078277278edcfbb7b38e475b0d7c768459d111c48451d2"), looks := false }, kinds := [], alts := [], laidByText := true, laidKinds := [.data, .data, .data], laidTests := true, laidLooks := .later }
def HeapSameUptoCardSaid : Prop := Claim7.holds Tryd.pinned (.plain (OpenSpec.upto heapSameSpec)) heapSameUptoCard

/-- THE SECOND FORM's CARD OF 'boscagelaw17.HeapMore'. -/
def heapMoreUptoCard : Claim7 := { stood := { row := heapMoreUptoRow, standIns := [], harness := (true, "cdf19bf0e3060c7dbe078277278edcfbb7b38e475b0d7c768459d111c48451d2"), looks := false }, kinds := [], alts := [], laidByText := true, laidKinds := [.data, .data, .data], laidTests := true, laidLooks := .later }
def HeapMoreUptoCardSaid : Prop := Claim7.holds Tryd.pinned (.plain (OpenSpec.upto heapMoreSpec)) heapMoreUptoCard
end Rows
end Go.Proofs.YtfocijljkkfonaaDoor
