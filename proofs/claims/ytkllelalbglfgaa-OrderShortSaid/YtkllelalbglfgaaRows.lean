/-
  No cell of these rows narrows 'for every input' (looked for: loops, veiled, ifaces, maps, wideKeys, modest, calm, conditions, laid).
  DERIVED. THE GIVEN ROWS OF THIS SEAT. 4 by the template 'for every input the law returns true; each argument reads behind the call as it read before'; 0 by the template 'total and deterministic' (their statements: YtkllelalbglfgaaTotals.lean).
  GIVEN WITH THE SEED: the statements are not yours to turn. If you find one false, say at which input.
  Laid BY PROGRAM, IN A SANDBOX (cutbox-rows.mjs): the forced cells as the released guide's own fill.sh prints them over the translation e03b66a519f4973d… (all of the seat's roots in one cut). By AI agents, Wed Nov 11 2026. No macro, syntax, notation, axiom, sorry.
-/
import Derived.Test.YtkllelalbglfgaaChecked
import GoSem.Claim
import GoSem.ClaimJoined
import GoSem.ClaimMapViews
import Derived.JoinedTies
import Derived.KernelRfl
namespace Go.Proofs.Ytkllelalbglfgaa
/- THE CELL 'sum', in the pinned program and in every row, IS THE sha256 OF THE DUMP (.gsa) THAT YtkllelalbglfgaaProg.lean LOADS. Nothing in Lean hashes anything: it is a label: what it is worth is what the hold of that sum in a sandbox is worth. -/
noncomputable def Try.pinned : Pinned := { name := "ytkllelalbglfgaa", sum := "e03b66a519f4973d46167e0c70fd347486301c072418116db8a23b7f89bc04c0", checked := Try.checked }
namespace Rows
def none {H : Type} : Left H := { results := [], args := [] }

/-- 'boscagelaw01.OrderCompares': WHATEVER THE INPUT: true; the input reads as it did. -/
def orderComparesSpec : ChangeSpec := { name := "orderCompares", fn := fun _ => fun
  | [d1, d2, d3] => { results := [.lit (.bool true)], args := [d1, d2, d3] }
  | _ => none }
def orderComparesRow : OpenClaim := { program := "ytkllelalbglfgaa", sum := "e03b66a519f4973d46167e0c70fd347486301c072418116db8a23b7f89bc04c0", func := "boscage/boscagelaw01.OrderCompares", spec := "orderCompares", apart := false }
def OrderComparesSaid : Prop := orderComparesRow.holds Try.pinned (OpenSpec.ofChange orderComparesSpec)

/-- ITS FALSE NEIGHBOUR: 'it returns false'. Refute it at one input. -/
def orderComparesWrong : ChangeSpec := { name := "orderCompares", fn := fun _ => fun
  | [d1, d2, d3] => { results := [.lit (.bool false)], args := [d1, d2, d3] }
  | _ => none }
def OrderComparesWrongFalsely : Prop := orderComparesRow.holds Try.pinned (OpenSpec.ofChange orderComparesWrong)

/-- 'boscagelaw01.OrderNext': WHATEVER THE INPUT: true; the input reads as it did. -/
def orderNextSpec : ChangeSpec := { name := "orderNext", fn := fun _ => fun
  | [d1, d2] => { results := [.lit (.bool true)], args := [d1, d2] }
  | _ => none }
def orderNextRow : OpenClaim := { program := "ytkllelalbglfgaa", sum := "e03b66a519f4973d46167e0c70fd347486301c072418116db8a23b7f89bc04c0", func := "boscage/boscagelaw01.OrderNext", spec := "orderNext", apart := false }
def OrderNextSaid : Prop := orderNextRow.holds Try.pinned (OpenSpec.ofChange orderNextSpec)

/-- ITS FALSE NEIGHBOUR: 'it returns false'. Refute it at one input. -/
def orderNextWrong : ChangeSpec := { name := "orderNext", fn := fun _ => fun
  | [d1, d2] => { results := [.lit (.bool false)], args := [d1, d2] }
  | _ => none }
def OrderNextWrongFalsely : Prop := orderNextRow.holds Try.pinned (OpenSpec.ofChange orderNextWrong)

/-- 'boscagelaw01.OrderMiddle': WHATEVER THE INPUT: true; the input reads as it did. -/
def orderMiddleSpec : ChangeSpec := { name := "orderMiddle", fn := fun _ => fun
  | [d1, d2] => { results := [.lit (.bool true)], args := [d1, d2] }
  | _ => none }
def orderMiddleRow : OpenClaim := { program := "ytkllelalbglfgaa", sum := "e03b66a519f4973d46167e0c70fd347486301c072418116db8a23b7f89bc04c0", func := "boscage/boscagelaw01.OrderMiddle", spec := "orderMiddle", apart := false }
def OrderMiddleSaid : Prop := orderMiddleRow.holds Try.pinned (OpenSpec.ofChange orderMiddleSpec)

/-- ITS FALSE NEIGHBOUR: 'it returns false'. Refute it at one input. -/
def orderMiddleWrong : ChangeSpec := { name := "orderMiddle", fn := fun _ => fun
  | [d1, d2] => { results := [.lit (.bool false)], args := [d1, d2] }
  | _ => none }
def OrderMiddleWrongFalsely : Prop := orderMiddleRow.holds Try.pinned (OpenSpec.ofChange orderMiddleWrong)

/-- 'boscagelaw01.OrderShort': WHATEVER THE INPUT: true; the input reads as it did. -/
def orderShortSpec : ChangeSpec := { name := "orderShort", fn := fun _ => fun
  | [d1, d2, d3] => { results := [.lit (.bool true)], args := [d1, d2, d3] }
  | _ => none }
def orderShortRow : OpenClaim := { program := "ytkllelalbglfgaa", sum := "e03b66a519f4973d46167e0c70fd347486301c072418116db8a23b7f89bc04c0", func := "boscage/boscagelaw01.OrderShort", spec := "orderShort", apart := false }
def OrderShortSaid : Prop := orderShortRow.holds Try.pinned (OpenSpec.ofChange orderShortSpec)

/-- ITS FALSE NEIGHBOUR: 'it returns false'. Refute it at one input. -/
def orderShortWrong : ChangeSpec := { name := "orderShort", fn := fun _ => fun
  | [d1, d2, d3] => { results := [.lit (.bool false)], args := [d1, d2, d3] }
  | _ => none }
def OrderShortWrongFalsely : Prop := orderShortRow.holds Try.pinned (OpenSpec.ofChange orderShortWrong)

/- THE SECOND FORM. 'bulk': how many values and letters a reading holds, each counted each time it is reached (what is shared counts as often as it is met; a slice's spare places count too). A statement '..UptoSaid' is the law's where the arguments, and the package variables that the reading takes, are together of bulk at most 1048576: NARROWER than '..Said'. Prove '..Said' where nothing that the law and all that it calls make is longer than what came in: it says more and counts as full. Else prove '..UptoSaid'. A law counts once. -/
mutual
def uptoBulk {H : Type} : DataW H → Nat
  | .lit (.string bytes) => bytes.length + 1
  | .lit _ => 1
  | .nil => 1
  | .ptr d => uptoBulk d + 1
  | .slice elems spare => uptoBulkAll elems + uptoBulkAll spare + 1
  | .agg parts => uptoBulkAll parts + 1
  | .iface _ d => uptoBulk d + 1
  | .map entries => uptoBulkEntries entries + 1
  | .held _ => 1
def uptoBulkAll {H : Type} : List (DataW H) → Nat
  | [] => 0
  | d :: r => uptoBulk d + uptoBulkAll r
def uptoBulkEntries {H : Type} : List (Lit × DataW H) → Nat
  | [] => 0
  | x :: r => uptoBulkEntry x + uptoBulkEntries r
def uptoBulkEntry {H : Type} : Lit × DataW H → Nat
  | (.string bytes, d) => bytes.length + uptoBulk d + 1
  | (_, d) => uptoBulk d + 1
 end
def uptoSmall : (H : Type) → List (DataW H) → Bool := fun _ ds => decide (uptoBulkAll ds ≤ 1048576)
def OpenSpec.upto (s : _root_.Go.ChangeSpec) : _root_.Go.OpenSpec := { _root_.Go.OpenSpec.ofChange s with cond := some uptoSmall }

/-- 'boscagelaw01.OrderCompares', WHERE WHAT IT READS IS OF BULK AT MOST 1048576: true; the input reads as it did. -/
def orderComparesUptoRow : OpenClaim := { program := "ytkllelalbglfgaa", sum := "e03b66a519f4973d46167e0c70fd347486301c072418116db8a23b7f89bc04c0", func := "boscage/boscagelaw01.OrderCompares", spec := "orderCompares", apart := false, narrowed := true }
def OrderComparesUptoSaid : Prop := orderComparesUptoRow.holds Try.pinned (OpenSpec.upto orderComparesSpec)

/-- 'boscagelaw01.OrderNext', WHERE WHAT IT READS IS OF BULK AT MOST 1048576: true; the input reads as it did. -/
def orderNextUptoRow : OpenClaim := { program := "ytkllelalbglfgaa", sum := "e03b66a519f4973d46167e0c70fd347486301c072418116db8a23b7f89bc04c0", func := "boscage/boscagelaw01.OrderNext", spec := "orderNext", apart := false, narrowed := true }
def OrderNextUptoSaid : Prop := orderNextUptoRow.holds Try.pinned (OpenSpec.upto orderNextSpec)

/-- 'boscagelaw01.OrderMiddle', WHERE WHAT IT READS IS OF BULK AT MOST 1048576: true; the input reads as it did. -/
def orderMiddleUptoRow : OpenClaim := { program := "ytkllelalbglfgaa", sum := "e03b66a519f4973d46167e0c70fd347486301c072418116db8a23b7f89bc04c0", func := "boscage/boscagelaw01.OrderMiddle", spec := "orderMiddle", apart := false, narrowed := true }
def OrderMiddleUptoSaid : Prop := orderMiddleUptoRow.holds Try.pinned (OpenSpec.upto orderMiddleSpec)

/-- 'boscagelaw01.OrderShort', WHERE WHAT IT READS IS OF BULK AT MOST 1048576: true; the input reads as it did. -/
def orderShortUptoRow : OpenClaim := { program := "ytkllelalbglfgaa", sum := "e03b66a519f4973d46167e0c70fd347486301c072418116db8a23b7f89bc04c0", func := "boscage/boscagelaw01.OrderShort", spec := "orderShort", apart := false, narrowed := true }
def OrderShortUptoSaid : Prop := orderShortUptoRow.holds Try.pinned (OpenSpec.upto orderShortSpec)

end Rows
end Go.Proofs.Ytkllelalbglfgaa
