/-
  No cell of these rows narrows 'for every input' (looked for: loops, veiled, ifaces, maps, wideKeys, modest, calm, conditions, laid).
  DERIVED. THE GIVEN ROWS OF THIS SEAT. 3 by the template 'for every input the law returns true; each argument reads behind the call as it read before'; 0 by the template 'total and deterministic' (their statements: YtefkaglgekjlfaaTotals.lean).
  GIVEN WITH THE SEED: the statements are not yours to turn. If you find one false, say at which input.
  Laid BY PROGRAM, IN A SANDBOX (cutbox-rows.mjs): the forced cells as the released guide's own fill.sh prints them over the translation 886de82bcb8e1012… (all of the seat's roots in one cut). By AI agents, Wed Nov 11 2026. No macro, syntax, notation, axiom, sorry.
-/
import Derived.Test.YtefkaglgekjlfaaChecked
import GoSem.Claim
import GoSem.ClaimJoined
import GoSem.ClaimMapViews
import Derived.JoinedTies
import Derived.KernelRfl
namespace Go.Proofs.Ytefkaglgekjlfaa
/- THE CELL 'sum', in the pinned program and in every row, IS THE sha256 OF THE DUMP (.gsa) THAT YtefkaglgekjlfaaProg.lean LOADS. Nothing in Lean hashes anything: it is a label: what it is worth is what the hold of that sum in a sandbox is worth. -/
noncomputable def Try.pinned : Pinned := { name := "ytefkaglgekjlfaa", sum := "886de82bcb8e1012092cc9e3941c605262a4a02e9575e93503022db20a337345", checked := Try.checked }
namespace Rows
def none {H : Type} : Left H := { results := [], args := [] }

/-- 'boscagelaw21.FindRuns': WHATEVER THE INPUT: true; the input reads as it did. -/
def findRunsSpec : ChangeSpec := { name := "findRuns", fn := fun _ => fun
  | [d1, d2, d3, d4] => { results := [.lit (.bool true)], args := [d1, d2, d3, d4] }
  | _ => none }
def findRunsRow : OpenClaim := { program := "ytefkaglgekjlfaa", sum := "886de82bcb8e1012092cc9e3941c605262a4a02e9575e93503022db20a337345", func := "boscage/boscagelaw21.FindRuns", spec := "findRuns", unfollowed := true, recurses := true, apart := false }
def FindRunsSaid : Prop := findRunsRow.holds Try.pinned (OpenSpec.ofChange findRunsSpec)

/-- ITS FALSE NEIGHBOUR: 'it returns false'. Refute it at one input. -/
def findRunsWrong : ChangeSpec := { name := "findRuns", fn := fun _ => fun
  | [d1, d2, d3, d4] => { results := [.lit (.bool false)], args := [d1, d2, d3, d4] }
  | _ => none }
def FindRunsWrongFalsely : Prop := findRunsRow.holds Try.pinned (OpenSpec.ofChange findRunsWrong)

/-- 'boscagelaw21.FindFeeds': WHATEVER THE INPUT: true; the input reads as it did. -/
def findFeedsSpec : ChangeSpec := { name := "findFeeds", fn := fun _ => fun
  | [d1, d2, d3, d4] => { results := [.lit (.bool true)], args := [d1, d2, d3, d4] }
  | _ => none }
def findFeedsRow : OpenClaim := { program := "ytefkaglgekjlfaa", sum := "886de82bcb8e1012092cc9e3941c605262a4a02e9575e93503022db20a337345", func := "boscage/boscagelaw21.FindFeeds", spec := "findFeeds", unfollowed := true, recurses := true, apart := false }
def FindFeedsSaid : Prop := findFeedsRow.holds Try.pinned (OpenSpec.ofChange findFeedsSpec)

/-- ITS FALSE NEIGHBOUR: 'it returns false'. Refute it at one input. -/
def findFeedsWrong : ChangeSpec := { name := "findFeeds", fn := fun _ => fun
  | [d1, d2, d3, d4] => { results := [.lit (.bool false)], args := [d1, d2, d3, d4] }
  | _ => none }
def FindFeedsWrongFalsely : Prop := findFeedsRow.holds Try.pinned (OpenSpec.ofChange findFeedsWrong)

/-- 'boscagelaw21.FindTries': WHATEVER THE INPUT: true; the input reads as it did. -/
def findTriesSpec : ChangeSpec := { name := "findTries", fn := fun _ => fun
  | [d1, d2, d3] => { results := [.lit (.bool true)], args := [d1, d2, d3] }
  | _ => none }
def findTriesRow : OpenClaim := { program := "ytefkaglgekjlfaa", sum := "886de82bcb8e1012092cc9e3941c605262a4a02e9575e93503022db20a337345", func := "boscage/boscagelaw21.FindTries", spec := "findTries", unfollowed := true, recurses := true, apart := false }
def FindTriesSaid : Prop := findTriesRow.holds Try.pinned (OpenSpec.ofChange findTriesSpec)

/-- ITS FALSE NEIGHBOUR: 'it returns false'. Refute it at one input. -/
def findTriesWrong : ChangeSpec := { name := "findTries", fn := fun _ => fun
  | [d1, d2, d3] => { results := [.lit (.bool false)], args := [d1, d2, d3] }
  | _ => none }
def FindTriesWrongFalsely : Prop := findTriesRow.holds Try.pinned (OpenSpec.ofChange findTriesWrong)

/- THE SECOND FORM. 'bulk': how many values and letters a reading holds, each counted each time it is reached (what is shared counts as often as it is met; a slice's spare places count too). A statement '..UptoSaid' is the law's where the arguments, and the package variables that the reading takes, are together of bulk at most 1048576: NARROWER than '..Said'. Prove '..Said' where nothing that the law and all that it calls make is longer than what came in: it says more and counts as full. Else prove '..UptoSaid'. A law counts once. -/
mutual
def uptoBulk {H : Type} : DataW H → Nat
  | .lit (.string bytes) => bytes.length + 1
  | .lit _ => 1
  | .nil => 1
  | .ptr d => uptoBulk d + 1
  | .slice elems spare => uptoBulkAll elems + uptoBulkAll spare + 1
  | .agg parts => uptoBulkAll parts + 1
  | .iface _ d => uptoBulk d + 1
  | .map entries => uptoBulkEntries entries + 1
  | .held _ => 1
def uptoBulkAll {H : Type} : List (DataW H) → Nat
  | [] => 0
  | d :: r => uptoBulk d + uptoBulkAll r
def uptoBulkEntries {H : Type} : List (Lit × DataW H) → Nat
  | [] => 0
  | x :: r => uptoBulkEntry x + uptoBulkEntries r
def uptoBulkEntry {H : Type} : Lit × DataW H → Nat
  | (.string bytes, d) => bytes.length + uptoBulk d + 1
  | (_, d) => uptoBulk d + 1
 end
def uptoSmall : (H : Type) → List (DataW H) → Bool := fun _ ds => decide (uptoBulkAll ds ≤ 1048576)
def OpenSpec.upto (s : _root_.Go.ChangeSpec) : _root_.Go.OpenSpec := { _root_.Go.OpenSpec.ofChange s with cond := some uptoSmall }

/-- 'boscagelaw21.FindRuns', WHERE WHAT IT READS IS OF BULK AT MOST 1048576: true; the input reads as it did. -/
def findRunsUptoRow : OpenClaim := { program := "ytefkaglgekjlfaa", sum := "886de82bcb8e1012092cc9e3941c605262a4a02e9575e93503022db20a337345", func := "boscage/boscagelaw21.FindRuns", spec := "findRuns", unfollowed := true, recurses := true, apart := false, narrowed := true }
def FindRunsUptoSaid : Prop := findRunsUptoRow.holds Try.pinned (OpenSpec.upto findRunsSpec)

/-- 'boscagelaw21.FindFeeds', WHERE WHAT IT READS IS OF BULK AT MOST 1048576: true; the input reads as it did. -/
def findFeedsUptoRow : OpenClaim := { program := "ytefkaglgekjlfaa", sum := "886de82bcb8e1012092cc9e3941c605262a4a02e9575e93503022db20a337345", func := "boscage/boscagelaw21.FindFeeds", spec := "findFeeds", unfollowed := true, recurses := true, apart := false, narrowed := true }
def FindFeedsUptoSaid : Prop := findFeedsUptoRow.holds Try.pinned (OpenSpec.upto findFeedsSpec)

/-- 'boscagelaw21.FindTries', WHERE WHAT IT READS IS OF BULK AT MOST 1048576: true; the input reads as it did. -/
def findTriesUptoRow : OpenClaim := { program := "ytefkaglgekjlfaa", sum := "886de82bcb8e1012092cc9e3941c605262a4a02e9575e93503022db20a337345", func := "boscage/boscagelaw21.FindTries", spec := "findTries", unfollowed := true, recurses := true, apart := false, narrowed := true }
def FindTriesUptoSaid : Prop := findTriesUptoRow.holds Try.pinned (OpenSpec.upto findTriesSpec)

end Rows
end Go.Proofs.Ytefkaglgekjlfaa
