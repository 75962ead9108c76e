/-
  The law boscagelaw03.CodeMakes answers true for every input, with no condition, and leaves its arguments as they were.
-/
import Derived.Test.YtoeddlcidbmppaaRows
import Derived.Test.YtoeddlcidbmppaaCode8
import Derived.Test.YtoeddlcidbmppaaRow
import Derived.WalkKit
import Derived.ProofKit
import Derived.OpenShut
import Derived.ShutString
import Derived.SliceStrings
import Derived.ChangeOld
import Derived.Below
namespace Go.Proofs.Ytoeddlcidbmppaa.codeMakes
open Go.ChangeShapes Go.WideShapes Go.ChangeAt Go.RowKit
open Go.ChangeMaps (open_string shut_string)
set_option linter.unusedVariables false

theorem own : ownKnob Try.prog.godebug = none := by kernel_rfl
theorem laidOut : laidOutB Try.prog = true := by kernel_rfl

theorem walk (x0_0 : Int) (x0_1 : Int) (x0_2 : Int) (x0_3 : ByteArray) (w : World) (u0_0 : (Lit.int .i64 x0_0).wf = true) (u0_1 : (Lit.int .i64 x0_1).wf = true) (u0_2 : (Lit.int .u64 x0_2).wf = true) (u0_3 : x0_3.size ≤ maxLen) :
    Calls Try.prog 3 #[.agg #[.int .i64 x0_0, .int .i64 x0_1, .int .u64 x0_2, .string x0_3]] w fun e w' => e = .returned (.bool true) ∧ Below w.heap.size w w' := by
  have bx0_0 : -9223372036854775808 ≤ x0_0 ∧ x0_0 ≤ 9223372036854775807 := by simpa [Lit.wf, IntKind.min, IntKind.max, IntKind.signed, IntKind.bits] using u0_0
  have bx0_1 : -9223372036854775808 ≤ x0_1 ∧ x0_1 ≤ 9223372036854775807 := by simpa [Lit.wf, IntKind.min, IntKind.max, IntKind.signed, IntKind.bits] using u0_1
  have bx0_2 : 0 ≤ x0_2 ∧ x0_2 ≤ 18446744073709551615 := by simpa [Lit.wf, IntKind.min, IntKind.max, IntKind.signed, IntKind.bits] using u0_2
  exact Co.CodeMakes_calls x0_0 x0_1 x0_2 x0_3 w bx0_0 bx0_1 bx0_2 u0_3

set_option maxRecDepth 100000 in
theorem lifted (os : Os) (started : os.Started) (H : Type) (enc : TypeId × Value → H) :
    ReturnsInHanded {} Try.checked os 3 .any (Rows.codeMakesSpec.pre6 enc Try.prog Try.f3 Rows.codeMakesRow.domain false) (Rows.codeMakesSpec.post enc Try.prog Try.f3 false true false false) := by
  refine returnsInHanded_of_change (C := Try.checked) own started (by kernel_rfl) Try.func3
    (ChangeSpec.witness6 (enc := enc) (C := Try.checked) false ⟨#[], #[.agg #[.int .i64 0, .int .i64 0, .int .u64 0, .string ByteArray.empty]], []⟩ 8 (by kernel_rfl) (by kernel_rfl) (by kernel_rfl) (by kernel_rfl)) ?_
  intro W base args ds gs before hval0 hW hcnd _
  have hval : ∀ (j : Nat) t v, Try.f3.params[j]? = some t → args[j]? = some v → Value.okWide Try.prog W .any base t v := hval0
  have hW' := hW
  obtain ⟨p, q, hA0, hV, rfl, hfz, hnd⟩ := hW
  have hA : DataW.TrodAll enc Try.prog W 0 (fun _ => true) true Try.f3.params.toList args.toList ds p := hA0
  rw [Try.params3] at hA hval
  obtain ⟨v0, vs0, d0, ds0, p0, q0, hargs, rfl, rfl, h0, r0⟩ := trodAll_cons hA
  obtain ⟨rfl, rfl, rfl⟩ := trodAll_nil r0
  obtain rfl : args = #[v0] := by cases args; simp_all
  obtain ⟨rfl, rfl⟩ := trodVars_none hV
  have k0 := h0
  have lt0 : ∀ x ∈ p0, x.block < W.heap.size := by obtain ⟨m, hm⟩ := k0; exact DataW.trod_lt m _ _ _ hm
  obtain ⟨cs0, n0, rfl, hz0, hg0⟩ := open_fields Try.underlying24 (by kernel_rfl) (by kernel_rfl) (hval 0 24 v0 rfl rfl) h0
  obtain ⟨c0_0, c0_1, c0_2, c0_3, rfl⟩ := arr4 hz0
  obtain ⟨c, y, hc, ht⟩ := hg0 0 _ rfl
  obtain rfl : c0_0 = c := by simpa using hc
  obtain ⟨x0_0, hx, _, u0_0⟩ := DataW.trod_int Try.underlying3 ht
  obtain rfl : c0_0 = .int .i64 x0_0 := by simpa using hx
  clear hc ht hx
  obtain ⟨c, y, hc, ht⟩ := hg0 1 _ rfl
  obtain rfl : c0_1 = c := by simpa using hc
  obtain ⟨x0_1, hx, _, u0_1⟩ := DataW.trod_int Try.underlying2 ht
  obtain rfl : c0_1 = .int .i64 x0_1 := by simpa using hx
  clear hc ht hx
  obtain ⟨c, y, hc, ht⟩ := hg0 2 _ rfl
  obtain rfl : c0_2 = c := by simpa using hc
  obtain ⟨x0_2, hx, _, u0_2⟩ := DataW.trod_int Try.underlying22 ht
  obtain rfl : c0_2 = .int .u64 x0_2 := by simpa using hx
  clear hc ht hx
  obtain ⟨c, y, hc, ht⟩ := hg0 3 _ rfl
  obtain rfl : c0_3 = c := by simpa using hc
  obtain ⟨x0_3, hx, _, u0_3⟩ := DataW.trod_string Try.underlying9 ht
  obtain rfl : c0_3 = .string x0_3 := by simpa using hx
  clear hc ht hx
  clear hA0 hval0
  refine (walk x0_0 x0_1 x0_2 x0_3 W u0_0 u0_1 u0_2 u0_3).mono fun e W' ⟨he, bel⟩ => ?_
  subst he
  exact ⟨_, rfl, _, _, _, [], _, [], hW', trodAll_mk1 (shut_bool Try.underlying4 _), (trodAll_cons_mk (Below.trod laidOut (by kernel_rfl) (of_decide_eq_true (by kernel_rfl)) k0 bel lt0) trodAll_mk0), rfl, bel.frame _, fun h => by cases h⟩

theorem over : Rows.codeMakesRow.holds Try.pinned (OpenSpec.ofChange Rows.codeMakesSpec) :=
  OpenClaim.holds_of_wide 3 Try.f3 rfl rfl rfl rfl rfl rfl rfl ⟨rfl, rfl, rfl, rfl, rfl⟩ rfl rfl rfl rfl rfl (by kernel_rfl) Try.func3 (by kernel_rfl)
    (of_decide_eq_true (by kernel_rfl)) (by unfold Func.isWrapper; first | (rw [if_pos (by decide +kernel)]; kernel_rfl) | (rw [if_neg (by decide +kernel)]; exact ⟨rfl, rfl⟩))
    (fun os started H enc _ => lifted os started H enc)

theorem proved : Rows.CodeMakesSaid := over
#print axioms proved
end Go.Proofs.Ytoeddlcidbmppaa.codeMakes
