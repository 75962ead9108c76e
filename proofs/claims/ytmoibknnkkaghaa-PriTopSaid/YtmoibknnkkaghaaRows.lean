/-
  No cell of these rows narrows 'for every input' (looked for: loops, veiled, ifaces, maps, wideKeys, modest, calm, conditions, laid).
  DERIVED. THE GIVEN ROWS OF THIS SEAT. 3 by the template 'for every input the law returns true; each argument reads behind the call as it read before'; 0 by the template 'total and deterministic' (their statements: YtmoibknnkkaghaaTotals.lean).
  GIVEN WITH THE SEED: the statements are not yours to turn. If you find one false, say at which input.
  Laid BY PROGRAM, IN A SANDBOX (cutbox-rows.mjs): the forced cells as the released guide's own fill.sh prints them over the translation aea2c4138236f1b4… (all of the seat's roots in one cut). By AI agents, Wed Nov 11 2026. No macro, syntax, notation, axiom, sorry.
-/
import Derived.Test.YtmoibknnkkaghaaChecked
import GoSem.Claim
import GoSem.ClaimJoined
import GoSem.ClaimMapViews
import Derived.JoinedTies
import Derived.KernelRfl
namespace Go.Proofs.Ytmoibknnkkaghaa
/- THE CELL 'sum', in the pinned program and in every row, IS THE sha256 OF THE DUMP (.gsa) THAT YtmoibknnkkaghaaProg.lean LOADS. Nothing in Lean hashes anything: it is a label: what it is worth is what the hold of that sum in a sandbox is worth. -/
noncomputable def Try.pinned : Pinned := { name := "ytmoibknnkkaghaa", sum := "aea2c4138236f1b4cc2741e717c81b84b9c4d9cb6d6349f10850c9b485762932", checked := Try.checked }
namespace Rows
def none {H : Type} : Left H := { results := [], args := [] }

/-- 'boscagelaw05.PriOf': WHATEVER THE INPUT: true; the input reads as it did. -/
def priOfSpec : ChangeSpec := { name := "priOf", fn := fun _ => fun
  | [d1, d2] => { results := [.lit (.bool true)], args := [d1, d2] }
  | _ => none }
def priOfRow : OpenClaim := { program := "ytmoibknnkkaghaa", sum := "aea2c4138236f1b4cc2741e717c81b84b9c4d9cb6d6349f10850c9b485762932", func := "boscage/boscagelaw05.PriOf", spec := "priOf", apart := false }
def PriOfSaid : Prop := priOfRow.holds Try.pinned (OpenSpec.ofChange priOfSpec)

/-- ITS FALSE NEIGHBOUR: 'it returns false'. Refute it at one input. -/
def priOfWrong : ChangeSpec := { name := "priOf", fn := fun _ => fun
  | [d1, d2] => { results := [.lit (.bool false)], args := [d1, d2] }
  | _ => none }
def PriOfWrongFalsely : Prop := priOfRow.holds Try.pinned (OpenSpec.ofChange priOfWrong)

/-- 'boscagelaw05.PriTop': WHATEVER THE INPUT: true; the input reads as it did. -/
def priTopSpec : ChangeSpec := { name := "priTop", fn := fun _ => fun
  | [d] => { results := [.lit (.bool true)], args := [d] }
  | _ => none }
def priTopRow : OpenClaim := { program := "ytmoibknnkkaghaa", sum := "aea2c4138236f1b4cc2741e717c81b84b9c4d9cb6d6349f10850c9b485762932", func := "boscage/boscagelaw05.PriTop", spec := "priTop", apart := false }
def PriTopSaid : Prop := priTopRow.holds Try.pinned (OpenSpec.ofChange priTopSpec)

/-- ITS FALSE NEIGHBOUR: 'it returns false'. Refute it at one input. -/
def priTopWrong : ChangeSpec := { name := "priTop", fn := fun _ => fun
  | [d] => { results := [.lit (.bool false)], args := [d] }
  | _ => none }
def PriTopWrongFalsely : Prop := priTopRow.holds Try.pinned (OpenSpec.ofChange priTopWrong)

/-- 'boscagelaw05.PriTotal': WHATEVER THE INPUT: true; the input reads as it did. -/
def priTotalSpec : ChangeSpec := { name := "priTotal", fn := fun _ => fun
  | [d1, d2, d3] => { results := [.lit (.bool true)], args := [d1, d2, d3] }
  | _ => none }
def priTotalRow : OpenClaim := { program := "ytmoibknnkkaghaa", sum := "aea2c4138236f1b4cc2741e717c81b84b9c4d9cb6d6349f10850c9b485762932", func := "boscage/boscagelaw05.PriTotal", spec := "priTotal", apart := false }
def PriTotalSaid : Prop := priTotalRow.holds Try.pinned (OpenSpec.ofChange priTotalSpec)

/-- ITS FALSE NEIGHBOUR: 'it returns false'. Refute it at one input. -/
def priTotalWrong : ChangeSpec := { name := "priTotal", fn := fun _ => fun
  | [d1, d2, d3] => { results := [.lit (.bool false)], args := [d1, d2, d3] }
  | _ => none }
def PriTotalWrongFalsely : Prop := priTotalRow.holds Try.pinned (OpenSpec.ofChange priTotalWrong)

/- THE SECOND FORM. 'bulk': how many values and letters a reading holds, each counted each time it is reached (what is shared counts as often as it is met; a slice's spare places count too). A statement '..UptoSaid' is the law's where the arguments, and the package variables that the reading takes, are together of bulk at most 1048576: NARROWER than '..Said'. Prove '..Said' where nothing that the law and all that it calls make is longer than what came in: it says more and counts as full. Else prove '..UptoSaid'. A law counts once. -/
mutual
def uptoBulk {H : Type} : DataW H → Nat
  | .lit (.string bytes) => bytes.length + 1
  | .lit _ => 1
  | .nil => 1
  | .ptr d => uptoBulk d + 1
  | .slice elems spare => uptoBulkAll elems + uptoBulkAll spare + 1
  | .agg parts => uptoBulkAll parts + 1
  | .iface _ d => uptoBulk d + 1
  | .map entries => uptoBulkEntries entries + 1
  | .held _ => 1
def uptoBulkAll {H : Type} : List (DataW H) → Nat
  | [] => 0
  | d :: r => uptoBulk d + uptoBulkAll r
def uptoBulkEntries {H : Type} : List (Lit × DataW H) → Nat
  | [] => 0
  | x :: r => uptoBulkEntry x + uptoBulkEntries r
def uptoBulkEntry {H : Type} : Lit × DataW H → Nat
  | (.string bytes, d) => bytes.length + uptoBulk d + 1
  | (_, d) => uptoBulk d + 1
 end
def uptoSmall : (H : Type) → List (DataW H) → Bool := fun _ ds => decide (uptoBulkAll ds ≤ 1048576)
def OpenSpec.upto (s : _root_.Go.ChangeSpec) : _root_.Go.OpenSpec := { _root_.Go.OpenSpec.ofChange s with cond := some uptoSmall }

/-- 'boscagelaw05.PriOf', WHERE WHAT IT READS IS OF BULK AT MOST 1048576: true; the input reads as it did. -/
def priOfUptoRow : OpenClaim := { program := "ytmoibknnkkaghaa", sum := "aea2c4138236f1b4cc2741e717c81b84b9c4d9cb6d6349f10850c9b485762932", func := "boscage/boscagelaw05.PriOf", spec := "priOf", apart := false, narrowed := true }
def PriOfUptoSaid : Prop := priOfUptoRow.holds Try.pinned (OpenSpec.upto priOfSpec)

/-- 'boscagelaw05.PriTop', WHERE WHAT IT READS IS OF BULK AT MOST 1048576: true; the input reads as it did. -/
def priTopUptoRow : OpenClaim := { program := "ytmoibknnkkaghaa", sum := "aea2c4138236f1b4cc2741e717c81b84b9c4d9cb6d6349f10850c9b485762932", func := "boscage/boscagelaw05.PriTop", spec := "priTop", apart := false, narrowed := true }
def PriTopUptoSaid : Prop := priTopUptoRow.holds Try.pinned (OpenSpec.upto priTopSpec)

/-- 'boscagelaw05.PriTotal', WHERE WHAT IT READS IS OF BULK AT MOST 1048576: true; the input reads as it did. -/
def priTotalUptoRow : OpenClaim := { program := "ytmoibknnkkaghaa", sum := "aea2c4138236f1b4cc2741e717c81b84b9c4d9cb6d6349f10850c9b485762932", func := "boscage/boscagelaw05.PriTotal", spec := "priTotal", apart := false, narrowed := true }
def PriTotalUptoSaid : Prop := priTotalUptoRow.holds Try.pinned (OpenSpec.upto priTotalSpec)

end Rows
end Go.Proofs.Ytmoibknnkkaghaa
