/-
  No cell of these rows narrows 'for every input' (looked for: loops, veiled, ifaces, maps, wideKeys, modest, calm, conditions, laid).
  DERIVED. THE GIVEN ROWS OF THIS SEAT. 4 by the template 'for every input the law returns true; each argument reads behind the call as it read before'; 0 by the template 'total and deterministic' (their statements: YtmenmemochkkeaaTotals.lean).
  GIVEN WITH THE SEED: the statements are not yours to turn. If you find one false, say at which input.
  Laid BY PROGRAM, IN A SANDBOX (cutbox-rows.mjs): the forced cells as the released guide's own fill.sh prints them over the translation dd34e31de448f967… (all of the seat's roots in one cut). By AI agents, Wed Nov 11 2026. No macro, syntax, notation, axiom, sorry.
-/
import Derived.Test.YtmenmemochkkeaaChecked
import GoSem.Claim
import GoSem.ClaimJoined
import GoSem.ClaimMapViews
import Derived.JoinedTies
import Derived.KernelRfl
namespace Go.Proofs.Ytmenmemochkkeaa
/- THE CELL 'sum', in the pinned program and in every row, IS THE sha256 OF THE DUMP (.gsa) THAT YtmenmemochkkeaaProg.lean LOADS. Nothing in Lean hashes anything: it is a label: what it is worth is what the hold of that sum in a sandbox is worth. -/
noncomputable def Try.pinned : Pinned := { name := "ytmenmemochkkeaa", sum := "dd34e31de448f967267454f9383b2b35bdf002b77ab01e5a659acb8da56f8728", checked := Try.checked }
namespace Rows
def none {H : Type} : Left H := { results := [], args := [] }

/-- 'boscagelaw07.PairMakes': WHATEVER THE INPUT: true; the input reads as it did. -/
def pairMakesSpec : ChangeSpec := { name := "pairMakes", fn := fun _ => fun
  | [d1, d2] => { results := [.lit (.bool true)], args := [d1, d2] }
  | _ => none }
def pairMakesRow : OpenClaim := { program := "ytmenmemochkkeaa", sum := "dd34e31de448f967267454f9383b2b35bdf002b77ab01e5a659acb8da56f8728", func := "boscage/boscagelaw07.PairMakes", spec := "pairMakes", unfollowed := true, recurses := true, apart := false }
def PairMakesSaid : Prop := pairMakesRow.holds Try.pinned (OpenSpec.ofChange pairMakesSpec)

/-- ITS FALSE NEIGHBOUR: 'it returns false'. Refute it at one input. -/
def pairMakesWrong : ChangeSpec := { name := "pairMakes", fn := fun _ => fun
  | [d1, d2] => { results := [.lit (.bool false)], args := [d1, d2] }
  | _ => none }
def PairMakesWrongFalsely : Prop := pairMakesRow.holds Try.pinned (OpenSpec.ofChange pairMakesWrong)

/-- 'boscagelaw07.PairChanges': WHATEVER THE INPUT: true; the input reads as it did. -/
def pairChangesSpec : ChangeSpec := { name := "pairChanges", fn := fun _ => fun
  | [d1, d2, d3] => { results := [.lit (.bool true)], args := [d1, d2, d3] }
  | _ => none }
def pairChangesRow : OpenClaim := { program := "ytmenmemochkkeaa", sum := "dd34e31de448f967267454f9383b2b35bdf002b77ab01e5a659acb8da56f8728", func := "boscage/boscagelaw07.PairChanges", spec := "pairChanges", unfollowed := true, recurses := true, apart := false }
def PairChangesSaid : Prop := pairChangesRow.holds Try.pinned (OpenSpec.ofChange pairChangesSpec)

/-- ITS FALSE NEIGHBOUR: 'it returns false'. Refute it at one input. -/
def pairChangesWrong : ChangeSpec := { name := "pairChanges", fn := fun _ => fun
  | [d1, d2, d3] => { results := [.lit (.bool false)], args := [d1, d2, d3] }
  | _ => none }
def PairChangesWrongFalsely : Prop := pairChangesRow.holds Try.pinned (OpenSpec.ofChange pairChangesWrong)

/-- 'boscagelaw07.PairSeeks': WHATEVER THE INPUT: true; the input reads as it did. -/
def pairSeeksSpec : ChangeSpec := { name := "pairSeeks", fn := fun _ => fun
  | [d1, d2] => { results := [.lit (.bool true)], args := [d1, d2] }
  | _ => none }
def pairSeeksRow : OpenClaim := { program := "ytmenmemochkkeaa", sum := "dd34e31de448f967267454f9383b2b35bdf002b77ab01e5a659acb8da56f8728", func := "boscage/boscagelaw07.PairSeeks", spec := "pairSeeks", unfollowed := true, recurses := true, apart := false }
def PairSeeksSaid : Prop := pairSeeksRow.holds Try.pinned (OpenSpec.ofChange pairSeeksSpec)

/-- ITS FALSE NEIGHBOUR: 'it returns false'. Refute it at one input. -/
def pairSeeksWrong : ChangeSpec := { name := "pairSeeks", fn := fun _ => fun
  | [d1, d2] => { results := [.lit (.bool false)], args := [d1, d2] }
  | _ => none }
def PairSeeksWrongFalsely : Prop := pairSeeksRow.holds Try.pinned (OpenSpec.ofChange pairSeeksWrong)

/-- 'boscagelaw07.PairKeeps': WHATEVER THE INPUT: true; the input reads as it did. -/
def pairKeepsSpec : ChangeSpec := { name := "pairKeeps", fn := fun _ => fun
  | [d1, d2, d3, d4] => { results := [.lit (.bool true)], args := [d1, d2, d3, d4] }
  | _ => none }
def pairKeepsRow : OpenClaim := { program := "ytmenmemochkkeaa", sum := "dd34e31de448f967267454f9383b2b35bdf002b77ab01e5a659acb8da56f8728", func := "boscage/boscagelaw07.PairKeeps", spec := "pairKeeps", unfollowed := true, recurses := true, apart := false }
def PairKeepsSaid : Prop := pairKeepsRow.holds Try.pinned (OpenSpec.ofChange pairKeepsSpec)

/-- ITS FALSE NEIGHBOUR: 'it returns false'. Refute it at one input. -/
def pairKeepsWrong : ChangeSpec := { name := "pairKeeps", fn := fun _ => fun
  | [d1, d2, d3, d4] => { results := [.lit (.bool false)], args := [d1, d2, d3, d4] }
  | _ => none }
def PairKeepsWrongFalsely : Prop := pairKeepsRow.holds Try.pinned (OpenSpec.ofChange pairKeepsWrong)

/- THE SECOND FORM. 'bulk': how many values and letters a reading holds, each counted each time it is reached (what is shared counts as often as it is met; a slice's spare places count too). A statement '..UptoSaid' is the law's where the arguments, and the package variables that the reading takes, are together of bulk at most 1048576: NARROWER than '..Said'. Prove '..Said' where nothing that the law and all that it calls make is longer than what came in: it says more and counts as full. Else prove '..UptoSaid'. A law counts once. -/
mutual
def uptoBulk {H : Type} : DataW H → Nat
  | .lit (.string bytes) => bytes.length + 1
  | .lit _ => 1
  | .nil => 1
  | .ptr d => uptoBulk d + 1
  | .slice elems spare => uptoBulkAll elems + uptoBulkAll spare + 1
  | .agg parts => uptoBulkAll parts + 1
  | .iface _ d => uptoBulk d + 1
  | .map entries => uptoBulkEntries entries + 1
  | .held _ => 1
def uptoBulkAll {H : Type} : List (DataW H) → Nat
  | [] => 0
  | d :: r => uptoBulk d + uptoBulkAll r
def uptoBulkEntries {H : Type} : List (Lit × DataW H) → Nat
  | [] => 0
  | x :: r => uptoBulkEntry x + uptoBulkEntries r
def uptoBulkEntry {H : Type} : Lit × DataW H → Nat
  | (.string bytes, d) => bytes.length + uptoBulk d + 1
  | (_, d) => uptoBulk d + 1
 end
def uptoSmall : (H : Type) → List (DataW H) → Bool := fun _ ds => decide (uptoBulkAll ds ≤ 1048576)
def OpenSpec.upto (s : _root_.Go.ChangeSpec) : _root_.Go.OpenSpec := { _root_.Go.OpenSpec.ofChange s with cond := some uptoSmall }

/-- 'boscagelaw07.PairMakes', WHERE WHAT IT READS IS OF BULK AT MOST 1048576: true; the input reads as it did. -/
def pairMakesUptoRow : OpenClaim := { program := "ytmenmemochkkeaa", sum := "dd34e31de448f967267454f9383b2b35bdf002b77ab01e5a659acb8da56f8728", func := "boscage/boscagelaw07.PairMakes", spec := "pairMakes", unfollowed := true, recurses := true, apart := false, narrowed := true }
def PairMakesUptoSaid : Prop := pairMakesUptoRow.holds Try.pinned (OpenSpec.upto pairMakesSpec)

/-- 'boscagelaw07.PairChanges', WHERE WHAT IT READS IS OF BULK AT MOST 1048576: true; the input reads as it did. -/
def pairChangesUptoRow : OpenClaim := { program := "ytmenmemochkkeaa", sum := "dd34e31de448f967267454f9383b2b35bdf002b77ab01e5a659acb8da56f8728", func := "boscage/boscagelaw07.PairChanges", spec := "pairChanges", unfollowed := true, recurses := true, apart := false, narrowed := true }
def PairChangesUptoSaid : Prop := pairChangesUptoRow.holds Try.pinned (OpenSpec.upto pairChangesSpec)

/-- 'boscagelaw07.PairSeeks', WHERE WHAT IT READS IS OF BULK AT MOST 1048576: true; the input reads as it did. -/
def pairSeeksUptoRow : OpenClaim := { program := "ytmenmemochkkeaa", sum := "dd34e31de448f967267454f9383b2b35bdf002b77ab01e5a659acb8da56f8728", func := "boscage/boscagelaw07.PairSeeks", spec := "pairSeeks", unfollowed := true, recurses := true, apart := false, narrowed := true }
def PairSeeksUptoSaid : Prop := pairSeeksUptoRow.holds Try.pinned (OpenSpec.upto pairSeeksSpec)

/-- 'boscagelaw07.PairKeeps', WHERE WHAT IT READS IS OF BULK AT MOST 1048576: true; the input reads as it did. -/
def pairKeepsUptoRow : OpenClaim := { program := "ytmenmemochkkeaa", sum := "dd34e31de448f967267454f9383b2b35bdf002b77ab01e5a659acb8da56f8728", func := "boscage/boscagelaw07.PairKeeps", spec := "pairKeeps", unfollowed := true, recurses := true, apart := false, narrowed := true }
def PairKeepsUptoSaid : Prop := pairKeepsUptoRow.holds Try.pinned (OpenSpec.upto pairKeepsSpec)

end Rows
end Go.Proofs.Ytmenmemochkkeaa
