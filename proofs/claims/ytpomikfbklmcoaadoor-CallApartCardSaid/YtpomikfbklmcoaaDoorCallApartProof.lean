/-
  The law boscagelaw30.CallApart answers true for every input, with no condition, and leaves its arguments as they were.
-/
import Derived.Test.YtpomikfbklmcoaaDoorRows
import Derived.Test.YtpomikfbklmcoaaDoorApart
import Derived.Test.YtpomikfbklmcoaaDoorRow
import Derived.WalkKit
import Derived.ProofKit
import Derived.OpenShut
import Derived.ShutString
import Derived.SliceStrings
import Derived.ChangeOld
import Derived.Below
import Derived.LaidMore
import Derived.Lay
import Derived.SevenTiedAt
import Derived.Stop.Joined
import Derived.Test.YtpomikfbklmcoaaDoorTie
import Derived.Test.YtpomikfbklmcoaaDoorCards
namespace Go.Proofs.YtpomikfbklmcoaaDoor.callApart
open Go.ChangeShapes Go.WideShapes Go.ChangeAt Go.RowKit
open Go.ChangeMaps (open_string shut_string)
set_option linter.unusedVariables false

theorem own : ownKnob Tryd.prog.godebug = none := by kernel_rfl
theorem laidOut : laidOutB Tryd.prog = true := by kernel_rfl

theorem walk (x0_0 : Int) (x0_1 : Int) (x0_2 : Int) (x0_3 : Int) (x0_4 : Int) (x1_0 : Int) (x1_1 : ByteArray) (x1_2 : ByteArray) (x1_3 : ByteArray) (x1_4 : Int) (w : World) (hT : Conf.Tab w) (u0_0 : (Lit.int .i64 x0_0).wf = true) (u0_1 : (Lit.int .i64 x0_1).wf = true) (u0_2 : (Lit.int .i64 x0_2).wf = true) (u0_3 : (Lit.int .i64 x0_3).wf = true) (u0_4 : (Lit.int .i64 x0_4).wf = true) (u1_0 : (Lit.int .i64 x1_0).wf = true) (u1_1 : x1_1.size ≤ maxLen) (u1_2 : x1_2.size ≤ maxLen) (u1_3 : x1_3.size ≤ maxLen) (u1_4 : (Lit.int .i64 x1_4).wf = true) :
    Calls Tryd.prog 4 #[.agg #[.int .i64 x0_0, .int .i64 x0_1, .int .i64 x0_2, .int .i64 x0_3, .int .i64 x0_4], .agg #[.int .i64 x1_0, .string x1_1, .string x1_2, .string x1_3, .int .i64 x1_4]] w fun e w' => e = .returned (.bool true) ∧ Below w.heap.size w w' := by
  have bx0_0 : -9223372036854775808 ≤ x0_0 ∧ x0_0 ≤ 9223372036854775807 := by simpa [Lit.wf, IntKind.min, IntKind.max, IntKind.signed, IntKind.bits] using u0_0
  have bx0_1 : -9223372036854775808 ≤ x0_1 ∧ x0_1 ≤ 9223372036854775807 := by simpa [Lit.wf, IntKind.min, IntKind.max, IntKind.signed, IntKind.bits] using u0_1
  have bx0_2 : -9223372036854775808 ≤ x0_2 ∧ x0_2 ≤ 9223372036854775807 := by simpa [Lit.wf, IntKind.min, IntKind.max, IntKind.signed, IntKind.bits] using u0_2
  have bx0_3 : -9223372036854775808 ≤ x0_3 ∧ x0_3 ≤ 9223372036854775807 := by simpa [Lit.wf, IntKind.min, IntKind.max, IntKind.signed, IntKind.bits] using u0_3
  have bx0_4 : -9223372036854775808 ≤ x0_4 ∧ x0_4 ≤ 9223372036854775807 := by simpa [Lit.wf, IntKind.min, IntKind.max, IntKind.signed, IntKind.bits] using u0_4
  have bx1_0 : -9223372036854775808 ≤ x1_0 ∧ x1_0 ≤ 9223372036854775807 := by simpa [Lit.wf, IntKind.min, IntKind.max, IntKind.signed, IntKind.bits] using u1_0
  have bx1_4 : -9223372036854775808 ≤ x1_4 ∧ x1_4 ≤ 9223372036854775807 := by simpa [Lit.wf, IntKind.min, IntKind.max, IntKind.signed, IntKind.bits] using u1_4
  exact Conf.CallApart_calls x0_0 x0_1 x0_2 x0_3 x0_4 x1_0 x1_1 x1_2 x1_3 x1_4 w hT bx0_0 bx0_1 bx0_2 bx0_3 bx0_4 bx1_0 u1_1 u1_2 u1_3 bx1_4

set_option maxRecDepth 100000 in
theorem lifted (os : Os) (started : os.Started) (H : Type) (enc : TypeId × Value → H) :
    ReturnsInHanded {} Tryd.checked os 4 .any (fun w args => (Rows.callApartSpec.pre enc Tryd.prog Tryd.f4 Rows.callApartRow.domain false w args ∧ laidMetH Tryd.prog Rows.callApartRow.laid w) ∧ sizedMet enc Tryd.prog Tryd.f4 (OpenSpec.ofChange Rows.callApartSpec) false w args) (Rows.callApartSpec.post enc Tryd.prog Tryd.f4 false true false false) := by
  refine returnsInHanded_of_change_and (C := Tryd.checked) (X := fun w _ => laidMetH Tryd.prog Rows.callApartRow.laid w) (fun _ _ _ hh h => h.of_heap hh) own started (by kernel_rfl) Tryd.func4
    (ChangeSpec.witness_shaped (enc := enc) (C := Tryd.checked) (os := os) (X := fun w _ => laidMetH Tryd.prog Rows.callApartRow.laid w) false (World.laidAll Tryd.prog os Rows.callApartRow.laid) #[.agg #[.int .i64 0, .int .i64 0, .int .i64 0, .int .i64 0, .int .i64 0], .agg #[.int .i64 0, .string ByteArray.empty, .string ByteArray.empty, .string ByteArray.empty, .int .i64 0]] 8 (World.laidAll_os _ _ _)
      (World.shaped_of_ZipB (by kernel_rfl) (by kernel_rfl)) (by kernel_rfl) (by kernel_rfl) (by kernel_rfl)
      (by rw [MakeChecks.laidMetH_plain _ _ _ (by kernel_rfl)]; exact laidMet_laidAll _ (by kernel_rfl) (by kernel_rfl))) ?_
  intro W base args ds gs before hval0 hW hcnd _ hL _
  have hval : ∀ (j : Nat) t v, Tryd.f4.params[j]? = some t → args[j]? = some v → Value.okWide Tryd.prog W .any base t v := hval0
  have hW' := hW
  obtain ⟨p, q, hA0, hV, rfl, hfz, hnd⟩ := hW
  have hA : DataW.TrodAll enc Tryd.prog W 0 (fun _ => true) true Tryd.f4.params.toList args.toList ds p := hA0
  rw [Tryd.params4] at hA hval
  obtain ⟨v0, vs0, d0, ds0, p0, q0, hargs, rfl, rfl, h0, r0⟩ := trodAll_cons hA
  obtain ⟨v1, vs1, d1, ds1, p1, q1, rfl, rfl, rfl, h1, r1⟩ := trodAll_cons r0
  obtain ⟨rfl, rfl, rfl⟩ := trodAll_nil r1
  obtain rfl : args = #[v0, v1] := by cases args; simp_all
  obtain ⟨rfl, rfl⟩ := trodVars_none hV
  have k0 := h0
  have lt0 : ∀ x ∈ p0, x.block < W.heap.size := by obtain ⟨m, hm⟩ := k0; exact DataW.trod_lt m _ _ _ hm
  obtain ⟨cs0, n0, rfl, hz0, hg0⟩ := open_fields Tryd.underlying23 (by kernel_rfl) (by kernel_rfl) (hval 0 23 v0 rfl rfl) h0
  obtain ⟨c0_0, c0_1, c0_2, c0_3, c0_4, rfl⟩ := arr5 hz0
  obtain ⟨c, y, hc, ht⟩ := hg0 0 _ rfl
  obtain rfl : c0_0 = c := by simpa using hc
  obtain ⟨x0_0, hx, _, u0_0⟩ := DataW.trod_int Tryd.underlying3 ht
  obtain rfl : c0_0 = .int .i64 x0_0 := by simpa using hx
  clear hc ht hx
  obtain ⟨c, y, hc, ht⟩ := hg0 1 _ rfl
  obtain rfl : c0_1 = c := by simpa using hc
  obtain ⟨x0_1, hx, _, u0_1⟩ := DataW.trod_int Tryd.underlying3 ht
  obtain rfl : c0_1 = .int .i64 x0_1 := by simpa using hx
  clear hc ht hx
  obtain ⟨c, y, hc, ht⟩ := hg0 2 _ rfl
  obtain rfl : c0_2 = c := by simpa using hc
  obtain ⟨x0_2, hx, _, u0_2⟩ := DataW.trod_int Tryd.underlying3 ht
  obtain rfl : c0_2 = .int .i64 x0_2 := by simpa using hx
  clear hc ht hx
  obtain ⟨c, y, hc, ht⟩ := hg0 3 _ rfl
  obtain rfl : c0_3 = c := by simpa using hc
  obtain ⟨x0_3, hx, _, u0_3⟩ := DataW.trod_int Tryd.underlying3 ht
  obtain rfl : c0_3 = .int .i64 x0_3 := by simpa using hx
  clear hc ht hx
  obtain ⟨c, y, hc, ht⟩ := hg0 4 _ rfl
  obtain rfl : c0_4 = c := by simpa using hc
  obtain ⟨x0_4, hx, _, u0_4⟩ := DataW.trod_int Tryd.underlying3 ht
  obtain rfl : c0_4 = .int .i64 x0_4 := by simpa using hx
  clear hc ht hx
  have k1 := h1
  have lt1 : ∀ x ∈ p1, x.block < W.heap.size := by obtain ⟨m, hm⟩ := k1; exact DataW.trod_lt m _ _ _ hm
  obtain ⟨cs1, n1, rfl, hz1, hg1⟩ := open_fields Tryd.underlying30 (by kernel_rfl) (by kernel_rfl) (hval 1 30 v1 rfl rfl) h1
  obtain ⟨c1_0, c1_1, c1_2, c1_3, c1_4, rfl⟩ := arr5 hz1
  obtain ⟨c, y, hc, ht⟩ := hg1 0 _ rfl
  obtain rfl : c1_0 = c := by simpa using hc
  obtain ⟨x1_0, hx, _, u1_0⟩ := DataW.trod_int Tryd.underlying3 ht
  obtain rfl : c1_0 = .int .i64 x1_0 := by simpa using hx
  clear hc ht hx
  obtain ⟨c, y, hc, ht⟩ := hg1 1 _ rfl
  obtain rfl : c1_1 = c := by simpa using hc
  obtain ⟨x1_1, hx, _, u1_1⟩ := DataW.trod_string Tryd.underlying9 ht
  obtain rfl : c1_1 = .string x1_1 := by simpa using hx
  clear hc ht hx
  obtain ⟨c, y, hc, ht⟩ := hg1 2 _ rfl
  obtain rfl : c1_2 = c := by simpa using hc
  obtain ⟨x1_2, hx, _, u1_2⟩ := DataW.trod_string Tryd.underlying9 ht
  obtain rfl : c1_2 = .string x1_2 := by simpa using hx
  clear hc ht hx
  obtain ⟨c, y, hc, ht⟩ := hg1 3 _ rfl
  obtain rfl : c1_3 = c := by simpa using hc
  obtain ⟨x1_3, hx, _, u1_3⟩ := DataW.trod_string Tryd.underlying9 ht
  obtain rfl : c1_3 = .string x1_3 := by simpa using hx
  clear hc ht hx
  obtain ⟨c, y, hc, ht⟩ := hg1 4 _ rfl
  obtain rfl : c1_4 = c := by simpa using hc
  obtain ⟨x1_4, hx, _, u1_4⟩ := DataW.trod_int Tryd.underlying3 ht
  obtain rfl : c1_4 = .int .i64 x1_4 := by simpa using hx
  clear hc ht hx
  clear hA0 hval0
  refine (walk x0_0 x0_1 x0_2 x0_3 x0_4 x1_0 x1_1 x1_2 x1_3 x1_4 W (Conf.tabAll hL) u0_0 u0_1 u0_2 u0_3 u0_4 u1_0 u1_1 u1_2 u1_3 u1_4).mono fun e W' ⟨he, bel⟩ => ?_
  subst he
  exact ⟨_, rfl, _, _, _, [], _, [], hW', trodAll_mk1 (shut_bool Tryd.underlying4 _), (trodAll_cons_mk (Below.trod laidOut (by kernel_rfl) (of_decide_eq_true (by kernel_rfl)) k0 bel lt0) (trodAll_cons_mk (Below.trod laidOut (by kernel_rfl) (of_decide_eq_true (by kernel_rfl)) k1 bel lt1) trodAll_mk0)), rfl, bel.frame _, fun h => by cases h⟩

theorem over : Rows.callApartRow.holds Tryd.pinned (OpenSpec.ofChange Rows.callApartSpec) :=
  OpenClaim.holds_of_wide 4 Tryd.f4 rfl rfl rfl rfl rfl rfl rfl ⟨rfl, rfl, rfl, rfl, rfl⟩ rfl rfl rfl rfl rfl (by kernel_rfl) Tryd.func4 (by kernel_rfl)
    (of_decide_eq_true (by kernel_rfl)) (by unfold Func.isWrapper; first | (rw [if_pos (by decide +kernel)]; kernel_rfl) | (rw [if_neg (by decide +kernel)]; exact ⟨rfl, rfl⟩))
    (fun os started H enc _ => lifted os started H enc)

theorem said : Rows.CallApartSaid := over
theorem proved : Rows.CallApartCardSaid :=
  Claim7.holds_tied_plain_at .later [] [.data] true (true, "1e755c65a67a82324d441efbe41f24f6db3765238b29409f62380de80275e364") false said (fun _ h => by cases h) (by kernel_rfl) (fun _ h => by cases h) callApart_row_tie rfl ⟨rfl, rfl⟩ (by kernel_rfl) rfl
    (fun f fn hf hfn => by
      obtain rfl : f = 4 := Option.some.inj ((show Tryd.prog.funcNamed "boscage/boscagelaw30.CallApart" = some 4 by kernel_rfl).symm.trans hf) |>.symm
      obtain rfl : fn = Tryd.f4 := (Option.some.inj (Tryd.func4.symm.trans hfn)).symm
      exact ⟨by kernel_rfl, fun j t ht => by
        rw [Tryd.params4] at ht
        have hm : t ∈ [23, 30] := by simpa using Array.mem_of_getElem? ht
        have hall : ([23, 30].all fun u => !Tryd.prog.wantsStandIn u) = true := by kernel_rfl
        exact (show Tryd.prog.wantsStandIn t = false by simpa using List.all_eq_true.1 hall t hm)⟩)
    (by kernel_rfl)
#print axioms proved
end Go.Proofs.YtpomikfbklmcoaaDoor.callApart
