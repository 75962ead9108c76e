/-
  No cell of these rows narrows 'for every input' (looked for: loops, veiled, ifaces, maps, wideKeys, modest, calm, conditions, laid).
  DERIVED. THE GIVEN ROWS OF THIS SEAT. 3 by the template 'for every input the law returns true; each argument reads behind the call as it read before'; 0 by the template 'total and deterministic' (their statements: YtniackbkhfhpaaaTotals.lean).
  GIVEN WITH THE SEED: the statements are not yours to turn. If you find one false, say at which input.
  Laid BY PROGRAM, IN A SANDBOX (cutbox-rows.mjs): the forced cells as the released guide's own fill.sh prints them over the translation 9b0f7c76e2c8d51b… (all of the seat's roots in one cut). By AI agents, Wed Nov 11 2026. No macro, syntax, notation, axiom, sorry.
-/
import Derived.Test.YtniackbkhfhpaaaChecked
import GoSem.Claim
import GoSem.ClaimJoined
import GoSem.ClaimMapViews
import Derived.JoinedTies
import Derived.KernelRfl
namespace Go.Proofs.Ytniackbkhfhpaaa
/- THE CELL 'sum', in the pinned program and in every row, IS THE sha256 OF THE DUMP (.gsa) THAT YtniackbkhfhpaaaProg.lean LOADS. Nothing in Lean hashes anything: it is a label: what it is worth is what the hold of that sum in a sandbox is worth. -/
noncomputable def Try.pinned : Pinned := { name := "ytniackbkhfhpaaa", sum := "9b0f7c76e2c8d51b3e6bc2599d7a3c70758ddaf2dc61b7a39f0979b9ea60b2ed", checked := Try.checked }
namespace Rows
def none {H : Type} : Left H := { results := [], args := [] }

/-- 'boscagelaw12.CellPlays': WHATEVER THE INPUT: true; the input reads as it did. -/
def cellPlaysSpec : ChangeSpec := { name := "cellPlays", fn := fun _ => fun
  | [d1, d2] => { results := [.lit (.bool true)], args := [d1, d2] }
  | _ => none }
def cellPlaysRow : OpenClaim := { program := "ytniackbkhfhpaaa", sum := "9b0f7c76e2c8d51b3e6bc2599d7a3c70758ddaf2dc61b7a39f0979b9ea60b2ed", func := "boscage/boscagelaw12.CellPlays", spec := "cellPlays", apart := false }
def CellPlaysSaid : Prop := cellPlaysRow.holds Try.pinned (OpenSpec.ofChange cellPlaysSpec)

/-- ITS FALSE NEIGHBOUR: 'it returns false'. Refute it at one input. -/
def cellPlaysWrong : ChangeSpec := { name := "cellPlays", fn := fun _ => fun
  | [d1, d2] => { results := [.lit (.bool false)], args := [d1, d2] }
  | _ => none }
def CellPlaysWrongFalsely : Prop := cellPlaysRow.holds Try.pinned (OpenSpec.ofChange cellPlaysWrong)

/-- 'boscagelaw12.CellNew': WHATEVER THE INPUT: true; the input reads as it did. -/
def cellNewSpec : ChangeSpec := { name := "cellNew", fn := fun _ => fun
  | [d1, d2] => { results := [.lit (.bool true)], args := [d1, d2] }
  | _ => none }
def cellNewRow : OpenClaim := { program := "ytniackbkhfhpaaa", sum := "9b0f7c76e2c8d51b3e6bc2599d7a3c70758ddaf2dc61b7a39f0979b9ea60b2ed", func := "boscage/boscagelaw12.CellNew", spec := "cellNew", apart := false }
def CellNewSaid : Prop := cellNewRow.holds Try.pinned (OpenSpec.ofChange cellNewSpec)

/-- ITS FALSE NEIGHBOUR: 'it returns false'. Refute it at one input. -/
def cellNewWrong : ChangeSpec := { name := "cellNew", fn := fun _ => fun
  | [d1, d2] => { results := [.lit (.bool false)], args := [d1, d2] }
  | _ => none }
def CellNewWrongFalsely : Prop := cellNewRow.holds Try.pinned (OpenSpec.ofChange cellNewWrong)

/-- 'boscagelaw12.CellChanges': WHATEVER THE INPUT: true; the input reads as it did. -/
def cellChangesSpec : ChangeSpec := { name := "cellChanges", fn := fun _ => fun
  | [d1, d2] => { results := [.lit (.bool true)], args := [d1, d2] }
  | _ => none }
def cellChangesRow : OpenClaim := { program := "ytniackbkhfhpaaa", sum := "9b0f7c76e2c8d51b3e6bc2599d7a3c70758ddaf2dc61b7a39f0979b9ea60b2ed", func := "boscage/boscagelaw12.CellChanges", spec := "cellChanges", apart := false }
def CellChangesSaid : Prop := cellChangesRow.holds Try.pinned (OpenSpec.ofChange cellChangesSpec)

/-- ITS FALSE NEIGHBOUR: 'it returns false'. Refute it at one input. -/
def cellChangesWrong : ChangeSpec := { name := "cellChanges", fn := fun _ => fun
  | [d1, d2] => { results := [.lit (.bool false)], args := [d1, d2] }
  | _ => none }
def CellChangesWrongFalsely : Prop := cellChangesRow.holds Try.pinned (OpenSpec.ofChange cellChangesWrong)

/- THE SECOND FORM. 'bulk': how many values and letters a reading holds, each counted each time it is reached (what is shared counts as often as it is met; a slice's spare places count too). A statement '..UptoSaid' is the law's where the arguments, and the package variables that the reading takes, are together of bulk at most 1048576: NARROWER than '..Said'. Prove '..Said' where nothing that the law and all that it calls make is longer than what came in: it says more and counts as full. Else prove '..UptoSaid'. A law counts once. -/
mutual
def uptoBulk {H : Type} : DataW H → Nat
  | .lit (.string bytes) => bytes.length + 1
  | .lit _ => 1
  | .nil => 1
  | .ptr d => uptoBulk d + 1
  | .slice elems spare => uptoBulkAll elems + uptoBulkAll spare + 1
  | .agg parts => uptoBulkAll parts + 1
  | .iface _ d => uptoBulk d + 1
  | .map entries => uptoBulkEntries entries + 1
  | .held _ => 1
def uptoBulkAll {H : Type} : List (DataW H) → Nat
  | [] => 0
  | d :: r => uptoBulk d + uptoBulkAll r
def uptoBulkEntries {H : Type} : List (Lit × DataW H) → Nat
  | [] => 0
  | x :: r => uptoBulkEntry x + uptoBulkEntries r
def uptoBulkEntry {H : Type} : Lit × DataW H → Nat
  | (.string bytes, d) => bytes.length + uptoBulk d + 1
  | (_, d) => uptoBulk d + 1
 end
def uptoSmall : (H : Type) → List (DataW H) → Bool := fun _ ds => decide (uptoBulkAll ds ≤ 1048576)
def OpenSpec.upto (s : _root_.Go.ChangeSpec) : _root_.Go.OpenSpec := { _root_.Go.OpenSpec.ofChange s with cond := some uptoSmall }

/-- 'boscagelaw12.CellPlays', WHERE WHAT IT READS IS OF BULK AT MOST 1048576: true; the input reads as it did. -/
def cellPlaysUptoRow : OpenClaim := { program := "ytniackbkhfhpaaa", sum := "9b0f7c76e2c8d51b3e6bc2599d7a3c70758ddaf2dc61b7a39f0979b9ea60b2ed", func := "boscage/boscagelaw12.CellPlays", spec := "cellPlays", apart := false, narrowed := true }
def CellPlaysUptoSaid : Prop := cellPlaysUptoRow.holds Try.pinned (OpenSpec.upto cellPlaysSpec)

/-- 'boscagelaw12.CellNew', WHERE WHAT IT READS IS OF BULK AT MOST 1048576: true; the input reads as it did. -/
def cellNewUptoRow : OpenClaim := { program := "ytniackbkhfhpaaa", sum := "9b0f7c76e2c8d51b3e6bc2599d7a3c70758ddaf2dc61b7a39f0979b9ea60b2ed", func := "boscage/boscagelaw12.CellNew", spec := "cellNew", apart := false, narrowed := true }
def CellNewUptoSaid : Prop := cellNewUptoRow.holds Try.pinned (OpenSpec.upto cellNewSpec)

/-- 'boscagelaw12.CellChanges', WHERE WHAT IT READS IS OF BULK AT MOST 1048576: true; the input reads as it did. -/
def cellChangesUptoRow : OpenClaim := { program := "ytniackbkhfhpaaa", sum := "9b0f7c76e2c8d51b3e6bc2599d7a3c70758ddaf2dc61b7a39f0979b9ea60b2ed", func := "boscage/boscagelaw12.CellChanges", spec := "cellChanges", apart := false, narrowed := true }
def CellChangesUptoSaid : Prop := cellChangesUptoRow.holds Try.pinned (OpenSpec.upto cellChangesSpec)

end Rows
end Go.Proofs.Ytniackbkhfhpaaa
