/-
  NARROWER THAN 'FOR EVERY INPUT', by the rows' own cells (each row's printed sentence says how): SeekLies: laid · SeekRuns: laid · SeekInside: laid · SeekFeeds: laid · SeekAll: laid.
  DERIVED. THE GIVEN ROWS OF THIS SEAT. 5 by the template 'for every input the law returns true; each argument reads behind the call as it read before'; 0 by the template 'total and deterministic' (their statements: YtdodckipblafmaaGreatDoorTotals.lean).
  GIVEN WITH THE SEED: the statements are not yours to turn. If you find one false, say at which input.
  Laid BY PROGRAM, IN A SANDBOX (cutbox-rows.mjs): the forced cells as the released guide's own fill.sh prints them over the translation 0143dcb82cd219ba… (all of the seat's roots in one cut). By AI agents, Wed Nov 11 2026. No macro, syntax, notation, axiom, sorry.
-/
import Derived.Test.YtdodckipblafmaaGreatDoorChecked
import GoSem.Claim
import GoSem.ClaimJoined
import GoSem.ClaimMapViews
import Derived.JoinedTies
import Derived.KernelRfl
namespace Go.Proofs.YtdodckipblafmaaGreatDoor
/- THE CELL 'sum', in the pinned program and in every row, IS THE sha256 OF THE DUMP (.gsa) THAT YtdodckipblafmaaGreatDoorProg.lean LOADS. Nothing in Lean hashes anything: it is a label: what it is worth is what the hold of that sum in a sandbox is worth. -/
noncomputable def Tryz.pinned : Pinned := { name := "ytdodckipblafmaagreatdoor", sum := "0143dcb82cd219ba1cf9011be5f7a6b7c9768f23291c34dd1788e8460493b425", checked := Tryz.checked }
namespace Rows
def none {H : Type} : Left H := { results := [], args := [] }

/- WHAT THE LISTED PACKAGE-LEVEL VARIABLES READ AS WHEN THE CALL BEGINS. Each datum BY PROGRAM (the guide's laid-datum.mjs) off the statement by which the dump's own 'gosem.cut.vars' lays the variable. In a bare row this is a premise. The card (YtdodckipblafmaaGreatDoorCards.lean) ties it to the program's text. -/
def laid_math_bits_deBruijn32tab {H : Type} : DataW H := .agg [.lit (.int .u8 0), .lit (.int .u8 1), .lit (.int .u8 28), .lit (.int .u8 2), .lit (.int .u8 29), .lit (.int .u8 14), .lit (.int .u8 24), .lit (.int .u8 3), .lit (.int .u8 30), .lit (.int .u8 22), .lit (.int .u8 20), .lit (.int .u8 15), .lit (.int .u8 25), .lit (.int .u8 17), .lit (.int .u8 4), .lit (.int .u8 8), .lit (.int .u8 31), .lit (.int .u8 27), .lit (.int .u8 13), .lit (.int .u8 23), .lit (.int .u8 21), .lit (.int .u8 19), .lit (.int .u8 16), .lit (.int .u8 7), .lit (.int .u8 26), .lit (.int .u8 12), .lit (.int .u8 18), .lit (.int .u8 6), .lit (.int .u8 11), .lit (.int .u8 5), .lit (.int .u8 10), .lit (.int .u8 9)]

/-- 'boscagelaw22.SeekLies': WHATEVER THE INPUT: true; the input reads as it did. -/
def seekLiesSpec : ChangeSpec := { name := "seekLies", fn := fun _ => fun
  | [d1, d2, d3, d4, d5] => { results := [.lit (.bool true)], args := [d1, d2, d3, d4, d5] }
  | _ => none }
def seekLiesRow : OpenClaim := { program := "ytdodckipblafmaagreatdoor", sum := "0143dcb82cd219ba1cf9011be5f7a6b7c9768f23291c34dd1788e8460493b425", func := "boscage/boscagelaw22.SeekLies", spec := "seekLies", unfollowed := true, recurses := true, named := ["math/bits.deBruijn32tab"], apart := false, laid := [("math/bits.deBruijn32tab", laid_math_bits_deBruijn32tab)] }
def SeekLiesSaid : Prop := seekLiesRow.holds Tryz.pinned (OpenSpec.ofChange seekLiesSpec)

/-- ITS FALSE NEIGHBOUR: 'it returns false'. Refute it at one input. -/
def seekLiesWrong : ChangeSpec := { name := "seekLies", fn := fun _ => fun
  | [d1, d2, d3, d4, d5] => { results := [.lit (.bool false)], args := [d1, d2, d3, d4, d5] }
  | _ => none }
def SeekLiesWrongFalsely : Prop := seekLiesRow.holds Tryz.pinned (OpenSpec.ofChange seekLiesWrong)

/-- 'boscagelaw22.SeekRuns': WHATEVER THE INPUT: true; the input reads as it did. -/
def seekRunsSpec : ChangeSpec := { name := "seekRuns", fn := fun _ => fun
  | [d1, d2, d3, d4] => { results := [.lit (.bool true)], args := [d1, d2, d3, d4] }
  | _ => none }
def seekRunsRow : OpenClaim := { program := "ytdodckipblafmaagreatdoor", sum := "0143dcb82cd219ba1cf9011be5f7a6b7c9768f23291c34dd1788e8460493b425", func := "boscage/boscagelaw22.SeekRuns", spec := "seekRuns", unfollowed := true, recurses := true, named := ["math/bits.deBruijn32tab"], apart := false, laid := [("math/bits.deBruijn32tab", laid_math_bits_deBruijn32tab)] }
def SeekRunsSaid : Prop := seekRunsRow.holds Tryz.pinned (OpenSpec.ofChange seekRunsSpec)

/-- ITS FALSE NEIGHBOUR: 'it returns false'. Refute it at one input. -/
def seekRunsWrong : ChangeSpec := { name := "seekRuns", fn := fun _ => fun
  | [d1, d2, d3, d4] => { results := [.lit (.bool false)], args := [d1, d2, d3, d4] }
  | _ => none }
def SeekRunsWrongFalsely : Prop := seekRunsRow.holds Tryz.pinned (OpenSpec.ofChange seekRunsWrong)

/-- 'boscagelaw22.SeekInside': WHATEVER THE INPUT: true; the input reads as it did. -/
def seekInsideSpec : ChangeSpec := { name := "seekInside", fn := fun _ => fun
  | [d1, d2, d3, d4] => { results := [.lit (.bool true)], args := [d1, d2, d3, d4] }
  | _ => none }
def seekInsideRow : OpenClaim := { program := "ytdodckipblafmaagreatdoor", sum := "0143dcb82cd219ba1cf9011be5f7a6b7c9768f23291c34dd1788e8460493b425", func := "boscage/boscagelaw22.SeekInside", spec := "seekInside", unfollowed := true, recurses := true, named := ["math/bits.deBruijn32tab"], apart := false, laid := [("math/bits.deBruijn32tab", laid_math_bits_deBruijn32tab)] }
def SeekInsideSaid : Prop := seekInsideRow.holds Tryz.pinned (OpenSpec.ofChange seekInsideSpec)

/-- ITS FALSE NEIGHBOUR: 'it returns false'. Refute it at one input. -/
def seekInsideWrong : ChangeSpec := { name := "seekInside", fn := fun _ => fun
  | [d1, d2, d3, d4] => { results := [.lit (.bool false)], args := [d1, d2, d3, d4] }
  | _ => none }
def SeekInsideWrongFalsely : Prop := seekInsideRow.holds Tryz.pinned (OpenSpec.ofChange seekInsideWrong)

/-- 'boscagelaw22.SeekFeeds': WHATEVER THE INPUT: true; the input reads as it did. -/
def seekFeedsSpec : ChangeSpec := { name := "seekFeeds", fn := fun _ => fun
  | [d1, d2, d3, d4] => { results := [.lit (.bool true)], args := [d1, d2, d3, d4] }
  | _ => none }
def seekFeedsRow : OpenClaim := { program := "ytdodckipblafmaagreatdoor", sum := "0143dcb82cd219ba1cf9011be5f7a6b7c9768f23291c34dd1788e8460493b425", func := "boscage/boscagelaw22.SeekFeeds", spec := "seekFeeds", unfollowed := true, recurses := true, named := ["math/bits.deBruijn32tab"], apart := false, laid := [("math/bits.deBruijn32tab", laid_math_bits_deBruijn32tab)] }
def SeekFeedsSaid : Prop := seekFeedsRow.holds Tryz.pinned (OpenSpec.ofChange seekFeedsSpec)

/-- ITS FALSE NEIGHBOUR: 'it returns false'. Refute it at one input. -/
def seekFeedsWrong : ChangeSpec := { name := "seekFeeds", fn := fun _ => fun
  | [d1, d2, d3, d4] => { results := [.lit (.bool false)], args := [d1, d2, d3, d4] }
  | _ => none }
def SeekFeedsWrongFalsely : Prop := seekFeedsRow.holds Tryz.pinned (OpenSpec.ofChange seekFeedsWrong)

/-- 'boscagelaw22.SeekAll': WHATEVER THE INPUT: true; the input reads as it did. -/
def seekAllSpec : ChangeSpec := { name := "seekAll", fn := fun _ => fun
  | [d1, d2, d3] => { results := [.lit (.bool true)], args := [d1, d2, d3] }
  | _ => none }
def seekAllRow : OpenClaim := { program := "ytdodckipblafmaagreatdoor", sum := "0143dcb82cd219ba1cf9011be5f7a6b7c9768f23291c34dd1788e8460493b425", func := "boscage/boscagelaw22.SeekAll", spec := "seekAll", unfollowed := true, recurses := true, named := ["math/bits.deBruijn32tab"], apart := false, laid := [("math/bits.deBruijn32tab", laid_math_bits_deBruijn32tab)] }
def SeekAllSaid : Prop := seekAllRow.holds Tryz.pinned (OpenSpec.ofChange seekAllSpec)

/-- ITS FALSE NEIGHBOUR: 'it returns false'. Refute it at one input. -/
def seekAllWrong : ChangeSpec := { name := "seekAll", fn := fun _ => fun
  | [d1, d2, d3] => { results := [.lit (.bool false)], args := [d1, d2, d3] }
  | _ => none }
def SeekAllWrongFalsely : Prop := seekAllRow.holds Tryz.pinned (OpenSpec.ofChange seekAllWrong)

/- THE SECOND FORM. 'bulk': how many values and letters a reading holds, each counted each time it is reached (what is shared counts as often as it is met; a slice's spare places count too). A statement '..UptoSaid' is the law's where the arguments, and the package variables that the reading takes, are together of bulk at most 1048576: NARROWER than '..Said'. Prove '..Said' where nothing that the law and all that it calls make is longer than what came in: it says more and counts as full. Else prove '..UptoSaid'. A law counts once. -/
mutual
def uptoBulk {H : Type} : DataW H → Nat
  | .lit (.string bytes) => bytes.length + 1
  | .lit _ => 1
  | .nil => 1
  | .ptr d => uptoBulk d + 1
  | .slice elems spare => uptoBulkAll elems + uptoBulkAll spare + 1
  | .agg parts => uptoBulkAll parts + 1
  | .iface _ d => uptoBulk d + 1
  | .map entries => uptoBulkEntries entries + 1
  | .held _ => 1
def uptoBulkAll {H : Type} : List (DataW H) → Nat
  | [] => 0
  | d :: r => uptoBulk d + uptoBulkAll r
def uptoBulkEntries {H : Type} : List (Lit × DataW H) → Nat
  | [] => 0
  | x :: r => uptoBulkEntry x + uptoBulkEntries r
def uptoBulkEntry {H : Type} : Lit × DataW H → Nat
  | (.string bytes, d) => bytes.length + uptoBulk d + 1
  | (_, d) => uptoBulk d + 1
 end
def uptoSmall : (H : Type) → List (DataW H) → Bool := fun _ ds => decide (uptoBulkAll ds ≤ 1048576)
def OpenSpec.upto (s : _root_.Go.ChangeSpec) : _root_.Go.OpenSpec := { _root_.Go.OpenSpec.ofChange s with cond := some uptoSmall }

/-- 'boscagelaw22.SeekLies', WHERE WHAT IT READS IS OF BULK AT MOST 1048576: true; the input reads as it did. -/
def seekLiesUptoRow : OpenClaim := { program := "ytdodckipblafmaagreatdoor", sum := "0143dcb82cd219ba1cf9011be5f7a6b7c9768f23291c34dd1788e8460493b425", func := "boscage/boscagelaw22.SeekLies", spec := "seekLies", unfollowed := true, recurses := true, named := ["math/bits.deBruijn32tab"], apart := false, laid := [("math/bits.deBruijn32tab", laid_math_bits_deBruijn32tab)], narrowed := true }
def SeekLiesUptoSaid : Prop := seekLiesUptoRow.holds Tryz.pinned (OpenSpec.upto seekLiesSpec)

/-- 'boscagelaw22.SeekRuns', WHERE WHAT IT READS IS OF BULK AT MOST 1048576: true; the input reads as it did. -/
def seekRunsUptoRow : OpenClaim := { program := "ytdodckipblafmaagreatdoor", sum := "0143dcb82cd219ba1cf9011be5f7a6b7c9768f23291c34dd1788e8460493b425", func := "boscage/boscagelaw22.SeekRuns", spec := "seekRuns", unfollowed := true, recurses := true, named := ["math/bits.deBruijn32tab"], apart := false, laid := [("math/bits.deBruijn32tab", laid_math_bits_deBruijn32tab)], narrowed := true }
def SeekRunsUptoSaid : Prop := seekRunsUptoRow.holds Tryz.pinned (OpenSpec.upto seekRunsSpec)

/-- 'boscagelaw22.SeekInside', WHERE WHAT IT READS IS OF BULK AT MOST 1048576: true; the input reads as it did. -/
def seekInsideUptoRow : OpenClaim := { program := "ytdodckipblafmaagreatdoor", sum := "0143dcb82cd219ba1cf9011be5f7a6b7c9768f23291c34dd1788e8460493b425", func := "boscage/boscagelaw22.SeekInside", spec := "seekInside", unfollowed := true, recurses := true, named := ["math/bits.deBruijn32tab"], apart := false, laid := [("math/bits.deBruijn32tab", laid_math_bits_deBruijn32tab)], narrowed := true }
def SeekInsideUptoSaid : Prop := seekInsideUptoRow.holds Tryz.pinned (OpenSpec.upto seekInsideSpec)

/-- 'boscagelaw22.SeekFeeds', WHERE WHAT IT READS IS OF BULK AT MOST 1048576: true; the input reads as it did. -/
def seekFeedsUptoRow : OpenClaim := { program := "ytdodckipblafmaagreatdoor", sum := "0143dcb82cd219ba1cf9011be5f7a6b7c9768f23291c34dd1788e8460493b425", func := "boscage/boscagelaw22.SeekFeeds", spec := "seekFeeds", unfollowed := true, recurses := true, named := ["math/bits.deBruijn32tab"], apart := false, laid := [("math/bits.deBruijn32tab", laid_math_bits_deBruijn32tab)], narrowed := true }
def SeekFeedsUptoSaid : Prop := seekFeedsUptoRow.holds Tryz.pinned (OpenSpec.upto seekFeedsSpec)

/-- 'boscagelaw22.SeekAll', WHERE WHAT IT READS IS OF BULK AT MOST 1048576: true; the input reads as it did. -/
def seekAllUptoRow : OpenClaim := { program := "ytdodckipblafmaagreatdoor", sum := "0143dcb82cd219ba1cf9011be5f7a6b7c9768f23291c34dd1788e8460493b425", func := "boscage/boscagelaw22.SeekAll", spec := "seekAll", unfollowed := true, recurses := true, named := ["math/bits.deBruijn32tab"], apart := false, laid := [("math/bits.deBruijn32tab", laid_math_bits_deBruijn32tab)], narrowed := true }
def SeekAllUptoSaid : Prop := seekAllUptoRow.holds Tryz.pinned (OpenSpec.upto seekAllSpec)

end Rows
end Go.Proofs.YtdodckipblafmaaGreatDoor
