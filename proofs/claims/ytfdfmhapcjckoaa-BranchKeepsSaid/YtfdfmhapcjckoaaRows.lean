/-
  No cell of these rows narrows 'for every input' (looked for: loops, veiled, ifaces, maps, wideKeys, modest, calm, conditions, laid).
  DERIVED. THE GIVEN ROWS OF THIS SEAT. 3 by the template 'for every input the law returns true; each argument reads behind the call as it read before'; 0 by the template 'total and deterministic' (their statements: YtfdfmhapcjckoaaTotals.lean).
  GIVEN WITH THE SEED: the statements are not yours to turn. If you find one false, say at which input.
  Laid BY PROGRAM, IN A SANDBOX (cutbox-rows.mjs): the forced cells as the released guide's own fill.sh prints them over the translation 2b1407e05d070fbe… (all of the seat's roots in one cut). By AI agents, Wed Nov 11 2026. No macro, syntax, notation, axiom, sorry.
-/
import Derived.Test.YtfdfmhapcjckoaaChecked
import GoSem.Claim
import GoSem.ClaimJoined
import GoSem.ClaimMapViews
import Derived.JoinedTies
import Derived.KernelRfl
namespace Go.Proofs.Ytfdfmhapcjckoaa
/- THE CELL 'sum', in the pinned program and in every row, IS THE sha256 OF THE DUMP (.gsa) THAT YtfdfmhapcjckoaaProg.lean LOADS. Nothing in Lean hashes anything: it is a label: what it is worth is what the hold of that sum in a sandbox is worth. -/
noncomputable def Try.pinned : Pinned := { name := "ytfdfmhapcjckoaa", sum := "2b1407e05d070fbe03e1da27b958ffb7f123a2bd3d73a1eba4f7f3c84c6060fd", checked := Try.checked }
namespace Rows
def none {H : Type} : Left H := { results := [], args := [] }

/-- 'boscagelaw19.BranchTells': WHATEVER THE INPUT: true; the input reads as it did. -/
def branchTellsSpec : ChangeSpec := { name := "branchTells", fn := fun _ => fun
  | [d1, d2, d3] => { results := [.lit (.bool true)], args := [d1, d2, d3] }
  | _ => none }
def branchTellsRow : OpenClaim := { program := "ytfdfmhapcjckoaa", sum := "2b1407e05d070fbe03e1da27b958ffb7f123a2bd3d73a1eba4f7f3c84c6060fd", func := "boscage/boscagelaw19.BranchTells", spec := "branchTells", unfollowed := true, recurses := true, apart := false }
def BranchTellsSaid : Prop := branchTellsRow.holds Try.pinned (OpenSpec.ofChange branchTellsSpec)

/-- ITS FALSE NEIGHBOUR: 'it returns false'. Refute it at one input. -/
def branchTellsWrong : ChangeSpec := { name := "branchTells", fn := fun _ => fun
  | [d1, d2, d3] => { results := [.lit (.bool false)], args := [d1, d2, d3] }
  | _ => none }
def BranchTellsWrongFalsely : Prop := branchTellsRow.holds Try.pinned (OpenSpec.ofChange branchTellsWrong)

/-- 'boscagelaw19.BranchChanges': WHATEVER THE INPUT: true; the input reads as it did. -/
def branchChangesSpec : ChangeSpec := { name := "branchChanges", fn := fun _ => fun
  | [d1, d2, d3] => { results := [.lit (.bool true)], args := [d1, d2, d3] }
  | _ => none }
def branchChangesRow : OpenClaim := { program := "ytfdfmhapcjckoaa", sum := "2b1407e05d070fbe03e1da27b958ffb7f123a2bd3d73a1eba4f7f3c84c6060fd", func := "boscage/boscagelaw19.BranchChanges", spec := "branchChanges", unfollowed := true, recurses := true, apart := false }
def BranchChangesSaid : Prop := branchChangesRow.holds Try.pinned (OpenSpec.ofChange branchChangesSpec)

/-- ITS FALSE NEIGHBOUR: 'it returns false'. Refute it at one input. -/
def branchChangesWrong : ChangeSpec := { name := "branchChanges", fn := fun _ => fun
  | [d1, d2, d3] => { results := [.lit (.bool false)], args := [d1, d2, d3] }
  | _ => none }
def BranchChangesWrongFalsely : Prop := branchChangesRow.holds Try.pinned (OpenSpec.ofChange branchChangesWrong)

/-- 'boscagelaw19.BranchKeeps': WHATEVER THE INPUT: true; the input reads as it did. -/
def branchKeepsSpec : ChangeSpec := { name := "branchKeeps", fn := fun _ => fun
  | [d1, d2, d3, d4] => { results := [.lit (.bool true)], args := [d1, d2, d3, d4] }
  | _ => none }
def branchKeepsRow : OpenClaim := { program := "ytfdfmhapcjckoaa", sum := "2b1407e05d070fbe03e1da27b958ffb7f123a2bd3d73a1eba4f7f3c84c6060fd", func := "boscage/boscagelaw19.BranchKeeps", spec := "branchKeeps", unfollowed := true, recurses := true, apart := false }
def BranchKeepsSaid : Prop := branchKeepsRow.holds Try.pinned (OpenSpec.ofChange branchKeepsSpec)

/-- ITS FALSE NEIGHBOUR: 'it returns false'. Refute it at one input. -/
def branchKeepsWrong : ChangeSpec := { name := "branchKeeps", fn := fun _ => fun
  | [d1, d2, d3, d4] => { results := [.lit (.bool false)], args := [d1, d2, d3, d4] }
  | _ => none }
def BranchKeepsWrongFalsely : Prop := branchKeepsRow.holds Try.pinned (OpenSpec.ofChange branchKeepsWrong)

/- THE SECOND FORM. 'bulk': how many values and letters a reading holds, each counted each time it is reached (what is shared counts as often as it is met; a slice's spare places count too). A statement '..UptoSaid' is the law's where the arguments, and the package variables that the reading takes, are together of bulk at most 1048576: NARROWER than '..Said'. Prove '..Said' where nothing that the law and all that it calls make is longer than what came in: it says more and counts as full. Else prove '..UptoSaid'. A law counts once. -/
mutual
def uptoBulk {H : Type} : DataW H → Nat
  | .lit (.string bytes) => bytes.length + 1
  | .lit _ => 1
  | .nil => 1
  | .ptr d => uptoBulk d + 1
  | .slice elems spare => uptoBulkAll elems + uptoBulkAll spare + 1
  | .agg parts => uptoBulkAll parts + 1
  | .iface _ d => uptoBulk d + 1
  | .map entries => uptoBulkEntries entries + 1
  | .held _ => 1
def uptoBulkAll {H : Type} : List (DataW H) → Nat
  | [] => 0
  | d :: r => uptoBulk d + uptoBulkAll r
def uptoBulkEntries {H : Type} : List (Lit × DataW H) → Nat
  | [] => 0
  | x :: r => uptoBulkEntry x + uptoBulkEntries r
def uptoBulkEntry {H : Type} : Lit × DataW H → Nat
  | (.string bytes, d) => bytes.length + uptoBulk d + 1
  | (_, d) => uptoBulk d + 1
 end
def uptoSmall : (H : Type) → List (DataW H) → Bool := fun _ ds => decide (uptoBulkAll ds ≤ 1048576)
def OpenSpec.upto (s : _root_.Go.ChangeSpec) : _root_.Go.OpenSpec := { _root_.Go.OpenSpec.ofChange s with cond := some uptoSmall }

/-- 'boscagelaw19.BranchTells', WHERE WHAT IT READS IS OF BULK AT MOST 1048576: true; the input reads as it did. -/
def branchTellsUptoRow : OpenClaim := { program := "ytfdfmhapcjckoaa", sum := "2b1407e05d070fbe03e1da27b958ffb7f123a2bd3d73a1eba4f7f3c84c6060fd", func := "boscage/boscagelaw19.BranchTells", spec := "branchTells", unfollowed := true, recurses := true, apart := false, narrowed := true }
def BranchTellsUptoSaid : Prop := branchTellsUptoRow.holds Try.pinned (OpenSpec.upto branchTellsSpec)

/-- 'boscagelaw19.BranchChanges', WHERE WHAT IT READS IS OF BULK AT MOST 1048576: true; the input reads as it did. -/
def branchChangesUptoRow : OpenClaim := { program := "ytfdfmhapcjckoaa", sum := "2b1407e05d070fbe03e1da27b958ffb7f123a2bd3d73a1eba4f7f3c84c6060fd", func := "boscage/boscagelaw19.BranchChanges", spec := "branchChanges", unfollowed := true, recurses := true, apart := false, narrowed := true }
def BranchChangesUptoSaid : Prop := branchChangesUptoRow.holds Try.pinned (OpenSpec.upto branchChangesSpec)

/-- 'boscagelaw19.BranchKeeps', WHERE WHAT IT READS IS OF BULK AT MOST 1048576: true; the input reads as it did. -/
def branchKeepsUptoRow : OpenClaim := { program := "ytfdfmhapcjckoaa", sum := "2b1407e05d070fbe03e1da27b958ffb7f123a2bd3d73a1eba4f7f3c84c6060fd", func := "boscage/boscagelaw19.BranchKeeps", spec := "branchKeeps", unfollowed := true, recurses := true, apart := false, narrowed := true }
def BranchKeepsUptoSaid : Prop := branchKeepsUptoRow.holds Try.pinned (OpenSpec.upto branchKeepsSpec)

end Rows
end Go.Proofs.Ytfdfmhapcjckoaa
