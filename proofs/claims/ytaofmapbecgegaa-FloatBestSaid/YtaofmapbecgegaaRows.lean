/-
  No cell of these rows narrows 'for every input' (looked for: loops, veiled, ifaces, maps, wideKeys, modest, calm, conditions, laid).
  DERIVED. THE GIVEN ROWS OF THIS SEAT. 4 by the template 'for every input the law returns true; each argument reads behind the call as it read before'; 0 by the template 'total and deterministic' (their statements: YtaofmapbecgegaaTotals.lean).
  GIVEN WITH THE SEED: the statements are not yours to turn. If you find one false, say at which input.
  Laid BY PROGRAM, IN A SANDBOX (cutbox-rows.mjs): the forced cells as the released guide's own fill.sh prints them over the translation fc701fdca0c0bbcb… (all of the seat's roots in one cut). By AI agents, Wed Nov 11 2026. No macro, syntax, notation, axiom, sorry.
-/
import Derived.Test.YtaofmapbecgegaaChecked
import GoSem.Claim
import GoSem.ClaimJoined
import GoSem.ClaimMapViews
import Derived.JoinedTies
import Derived.KernelRfl
namespace Go.Proofs.Ytaofmapbecgegaa
/- THE CELL 'sum', in the pinned program and in every row, IS THE sha256 OF THE DUMP (.gsa) THAT YtaofmapbecgegaaProg.lean LOADS. Nothing in Lean hashes anything: it is a label: what it is worth is what the hold of that sum in a sandbox is worth. -/
noncomputable def Try.pinned : Pinned := { name := "ytaofmapbecgegaa", sum := "fc701fdca0c0bbcb5d8f192931bbe565b8a7dc4d68699facbe31e38002b003ad", checked := Try.checked }
namespace Rows
def none {H : Type} : Left H := { results := [], args := [] }

/-- 'boscagelaw02.FloatRanks': WHATEVER THE INPUT: true; the input reads as it did. -/
def floatRanksSpec : ChangeSpec := { name := "floatRanks", fn := fun _ => fun
  | [d1, d2] => { results := [.lit (.bool true)], args := [d1, d2] }
  | _ => none }
def floatRanksRow : OpenClaim := { program := "ytaofmapbecgegaa", sum := "fc701fdca0c0bbcb5d8f192931bbe565b8a7dc4d68699facbe31e38002b003ad", func := "boscage/boscagelaw02.FloatRanks", spec := "floatRanks", inPlace := ["math.Float64frombits", "math.Float64bits"], apart := false }
def FloatRanksSaid : Prop := floatRanksRow.holds Try.pinned (OpenSpec.ofChange floatRanksSpec)

/-- ITS FALSE NEIGHBOUR: 'it returns false'. Refute it at one input. -/
def floatRanksWrong : ChangeSpec := { name := "floatRanks", fn := fun _ => fun
  | [d1, d2] => { results := [.lit (.bool false)], args := [d1, d2] }
  | _ => none }
def FloatRanksWrongFalsely : Prop := floatRanksRow.holds Try.pinned (OpenSpec.ofChange floatRanksWrong)

/-- 'boscagelaw02.FloatUnranks': WHATEVER THE INPUT: true; the input reads as it did. -/
def floatUnranksSpec : ChangeSpec := { name := "floatUnranks", fn := fun _ => fun
  | [d] => { results := [.lit (.bool true)], args := [d] }
  | _ => none }
def floatUnranksRow : OpenClaim := { program := "ytaofmapbecgegaa", sum := "fc701fdca0c0bbcb5d8f192931bbe565b8a7dc4d68699facbe31e38002b003ad", func := "boscage/boscagelaw02.FloatUnranks", spec := "floatUnranks", inPlace := ["math.Float64frombits", "math.Float64bits"], apart := false }
def FloatUnranksSaid : Prop := floatUnranksRow.holds Try.pinned (OpenSpec.ofChange floatUnranksSpec)

/-- ITS FALSE NEIGHBOUR: 'it returns false'. Refute it at one input. -/
def floatUnranksWrong : ChangeSpec := { name := "floatUnranks", fn := fun _ => fun
  | [d] => { results := [.lit (.bool false)], args := [d] }
  | _ => none }
def FloatUnranksWrongFalsely : Prop := floatUnranksRow.holds Try.pinned (OpenSpec.ofChange floatUnranksWrong)

/-- 'boscagelaw02.FloatBest': WHATEVER THE INPUT: true; the input reads as it did. -/
def floatBestSpec : ChangeSpec := { name := "floatBest", fn := fun _ => fun
  | [d] => { results := [.lit (.bool true)], args := [d] }
  | _ => none }
def floatBestRow : OpenClaim := { program := "ytaofmapbecgegaa", sum := "fc701fdca0c0bbcb5d8f192931bbe565b8a7dc4d68699facbe31e38002b003ad", func := "boscage/boscagelaw02.FloatBest", spec := "floatBest", inPlace := ["math.Float64frombits", "math.Float64bits"], apart := false }
def FloatBestSaid : Prop := floatBestRow.holds Try.pinned (OpenSpec.ofChange floatBestSpec)

/-- ITS FALSE NEIGHBOUR: 'it returns false'. Refute it at one input. -/
def floatBestWrong : ChangeSpec := { name := "floatBest", fn := fun _ => fun
  | [d] => { results := [.lit (.bool false)], args := [d] }
  | _ => none }
def FloatBestWrongFalsely : Prop := floatBestRow.holds Try.pinned (OpenSpec.ofChange floatBestWrong)

/-- 'boscagelaw02.FloatBack': WHATEVER THE INPUT: true; the input reads as it did. -/
def floatBackSpec : ChangeSpec := { name := "floatBack", fn := fun _ => fun
  | [d1, d2] => { results := [.lit (.bool true)], args := [d1, d2] }
  | _ => none }
def floatBackRow : OpenClaim := { program := "ytaofmapbecgegaa", sum := "fc701fdca0c0bbcb5d8f192931bbe565b8a7dc4d68699facbe31e38002b003ad", func := "boscage/boscagelaw02.FloatBack", spec := "floatBack", inPlace := ["math.Float64bits", "math.Float64frombits"], apart := false }
def FloatBackSaid : Prop := floatBackRow.holds Try.pinned (OpenSpec.ofChange floatBackSpec)

/-- ITS FALSE NEIGHBOUR: 'it returns false'. Refute it at one input. -/
def floatBackWrong : ChangeSpec := { name := "floatBack", fn := fun _ => fun
  | [d1, d2] => { results := [.lit (.bool false)], args := [d1, d2] }
  | _ => none }
def FloatBackWrongFalsely : Prop := floatBackRow.holds Try.pinned (OpenSpec.ofChange floatBackWrong)

/- THE SECOND FORM. 'bulk': how many values and letters a reading holds, each counted each time it is reached (what is shared counts as often as it is met; a slice's spare places count too). A statement '..UptoSaid' is the law's where the arguments, and the package variables that the reading takes, are together of bulk at most 1048576: NARROWER than '..Said'. Prove '..Said' where nothing that the law and all that it calls make is longer than what came in: it says more and counts as full. Else prove '..UptoSaid'. A law counts once. -/
mutual
def uptoBulk {H : Type} : DataW H → Nat
  | .lit (.string bytes) => bytes.length + 1
  | .lit _ => 1
  | .nil => 1
  | .ptr d => uptoBulk d + 1
  | .slice elems spare => uptoBulkAll elems + uptoBulkAll spare + 1
  | .agg parts => uptoBulkAll parts + 1
  | .iface _ d => uptoBulk d + 1
  | .map entries => uptoBulkEntries entries + 1
  | .held _ => 1
def uptoBulkAll {H : Type} : List (DataW H) → Nat
  | [] => 0
  | d :: r => uptoBulk d + uptoBulkAll r
def uptoBulkEntries {H : Type} : List (Lit × DataW H) → Nat
  | [] => 0
  | x :: r => uptoBulkEntry x + uptoBulkEntries r
def uptoBulkEntry {H : Type} : Lit × DataW H → Nat
  | (.string bytes, d) => bytes.length + uptoBulk d + 1
  | (_, d) => uptoBulk d + 1
 end
def uptoSmall : (H : Type) → List (DataW H) → Bool := fun _ ds => decide (uptoBulkAll ds ≤ 1048576)
def OpenSpec.upto (s : _root_.Go.ChangeSpec) : _root_.Go.OpenSpec := { _root_.Go.OpenSpec.ofChange s with cond := some uptoSmall }

/-- 'boscagelaw02.FloatRanks', WHERE WHAT IT READS IS OF BULK AT MOST 1048576: true; the input reads as it did. -/
def floatRanksUptoRow : OpenClaim := { program := "ytaofmapbecgegaa", sum := "fc701fdca0c0bbcb5d8f192931bbe565b8a7dc4d68699facbe31e38002b003ad", func := "boscage/boscagelaw02.FloatRanks", spec := "floatRanks", inPlace := ["math.Float64frombits", "math.Float64bits"], apart := false, narrowed := true }
def FloatRanksUptoSaid : Prop := floatRanksUptoRow.holds Try.pinned (OpenSpec.upto floatRanksSpec)

/-- 'boscagelaw02.FloatUnranks', WHERE WHAT IT READS IS OF BULK AT MOST 1048576: true; the input reads as it did. -/
def floatUnranksUptoRow : OpenClaim := { program := "ytaofmapbecgegaa", sum := "fc701fdca0c0bbcb5d8f192931bbe565b8a7dc4d68699facbe31e38002b003ad", func := "boscage/boscagelaw02.FloatUnranks", spec := "floatUnranks", inPlace := ["math.Float64frombits", "math.Float64bits"], apart := false, narrowed := true }
def FloatUnranksUptoSaid : Prop := floatUnranksUptoRow.holds Try.pinned (OpenSpec.upto floatUnranksSpec)

/-- 'boscagelaw02.FloatBest', WHERE WHAT IT READS IS OF BULK AT MOST 1048576: true; the input reads as it did. -/
def floatBestUptoRow : OpenClaim := { program := "ytaofmapbecgegaa", sum := "fc701fdca0c0bbcb5d8f192931bbe565b8a7dc4d68699facbe31e38002b003ad", func := "boscage/boscagelaw02.FloatBest", spec := "floatBest", inPlace := ["math.Float64frombits", "math.Float64bits"], apart := false, narrowed := true }
def FloatBestUptoSaid : Prop := floatBestUptoRow.holds Try.pinned (OpenSpec.upto floatBestSpec)

/-- 'boscagelaw02.FloatBack', WHERE WHAT IT READS IS OF BULK AT MOST 1048576: true; the input reads as it did. -/
def floatBackUptoRow : OpenClaim := { program := "ytaofmapbecgegaa", sum := "fc701fdca0c0bbcb5d8f192931bbe565b8a7dc4d68699facbe31e38002b003ad", func := "boscage/boscagelaw02.FloatBack", spec := "floatBack", inPlace := ["math.Float64bits", "math.Float64frombits"], apart := false, narrowed := true }
def FloatBackUptoSaid : Prop := floatBackUptoRow.holds Try.pinned (OpenSpec.upto floatBackSpec)

end Rows
end Go.Proofs.Ytaofmapbecgegaa
