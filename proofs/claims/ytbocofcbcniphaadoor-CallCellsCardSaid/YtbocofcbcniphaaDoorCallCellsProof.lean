/-
  The law boscagelaw30.CallCells answers true for every input, with no condition, and leaves its arguments as they were.
-/
import Derived.Test.YtbocofcbcniphaaDoorRows
import Derived.Test.YtbocofcbcniphaaDoorCall4
import Derived.Test.YtbocofcbcniphaaDoorRow
import Derived.WalkKit
import Derived.ProofKit
import Derived.OpenShut
import Derived.ShutString
import Derived.SliceStrings
import Derived.ChangeOld
import Derived.Below
import Derived.LaidMore
import Derived.Lay
import Derived.SevenTiedAt
import Derived.Stop.Joined
import Derived.Test.YtbocofcbcniphaaDoorTie
import Derived.Test.YtbocofcbcniphaaDoorCards
namespace Go.Proofs.YtbocofcbcniphaaDoor.callCells
open Go.ChangeShapes Go.WideShapes Go.ChangeAt Go.RowKit
open Go.ChangeMaps (open_string shut_string)
set_option linter.unusedVariables false

theorem own : ownKnob Tryd.prog.godebug = none := by kernel_rfl
theorem laidOut : laidOutB Tryd.prog = true := by kernel_rfl

theorem tab {W : World} (h : laidMetH Tryd.prog Rows.callCellsRow.laid W) : Conf.Tab2 W := by
  rw [MakeChecks.laidMetH_plain _ _ _ (by kernel_rfl)] at h
  obtain ⟨ps, ⟨g, t, cs, fuel, p, q, hg, ht, hv, hd, _, _⟩, _, _⟩ := h
  obtain rfl := Option.some.inj ((show Tryd.prog.globalNamed "boscage/call.uses" = some 0 by kernel_rfl).symm.trans hg)
  obtain rfl := Option.some.inj ((show (Tryd.prog.globals[0]?).map (·.type) = some 40 by kernel_rfl).symm.trans ht)
  obtain ⟨xs, m, _, ex, _, hl, hel⟩ := DataW.trod_array Tryd.underlying40 hd
  have c5 : Tryd.prog.cellsOf 39 = 4 := by kernel_rfl
  have hE := hel 2 (by omega)
  rw [c5] at hE
  have e3 : (xs.map (·.1))[2]? = some (.agg [.lit (.bool true), .lit (.bool true), .lit (.bool false), .lit (.bool false)]) := by
    rw [← DataW.agg.inj (Prod.mk.inj ex).1]; rfl
  obtain ⟨x2, hx2, hx2'⟩ : ∃ x, xs[2]? = some x ∧ x.1 = (.agg [.lit (.bool true), .lit (.bool true), .lit (.bool false), .lit (.bool false)] : DataW Unit) := by
    rw [List.getElem?_map] at e3
    cases hx : xs[2]? with
    | none => rw [hx] at e3; cases e3
    | some x => rw [hx] at e3; exact ⟨x, rfl, by simpa using e3⟩
  rw [hx2] at hE
  obtain ⟨ys, n, _, ey, _, hlen, hgf⟩ := DataW.trod_struct Tryd.underlying39 hE
  have e4 : ys.map (·.1) = [.lit (.bool true), .lit (.bool true), .lit (.bool false), .lit (.bool false)] := by
    rw [ey] at hx2'
    exact DataW.agg.inj hx2'
  have c4 : Tryd.prog.cellsOf 4 = 1 := by kernel_rfl
  have cell : ∀ (i : Nat) (b : Bool), i < 4 → DataW.trod (fun _ => ()) Tryd.prog W 0 (fun _ => true) false n 4 (List.take 1 (List.drop i (List.take 4 (List.drop (2 * 4) cs.toList)))) = ys[i]? → (ys.map (·.1))[i]? = some (.lit (.bool b)) → W.cell? ⟨0, 8 + i, none⟩ = some (.bool b) := by
    intro i b hi hy hb
    rw [List.getElem?_map] at hb
    cases hx : ys[i]? with
    | none => rw [hx] at hb; cases hb
    | some y =>
      rw [hx] at hb hy
      obtain ⟨b', e1, e2⟩ := DataW.trod_bool Tryd.underlying4 hy
      subst e2
      have eb : b' = b := by simpa using hb
      subst eb
      have h0 : (List.take 1 (List.drop i (List.take 4 (List.drop (2 * 4) cs.toList))))[0]? = some (.bool b') := by rw [e1]; rfl
      rw [World.var?_cell hg hv (8 + i)]
      simpa [List.getElem?_take, List.getElem?_drop, hi] using h0
  have g0 : DataW.trod (fun _ => ()) Tryd.prog W 0 (fun _ => true) false n 4 (List.take (Tryd.prog.cellsOf 4) (List.drop 0 (List.take 4 (List.drop (2 * 4) cs.toList)))) = ys[0]? := hgf 0 _ rfl
  have g1 : DataW.trod (fun _ => ()) Tryd.prog W 0 (fun _ => true) false n 4 (List.take (Tryd.prog.cellsOf 4) (List.drop 1 (List.take 4 (List.drop (2 * 4) cs.toList)))) = ys[1]? := hgf 1 _ rfl
  have g2 : DataW.trod (fun _ => ()) Tryd.prog W 0 (fun _ => true) false n 4 (List.take (Tryd.prog.cellsOf 4) (List.drop 2 (List.take 4 (List.drop (2 * 4) cs.toList)))) = ys[2]? := hgf 2 _ rfl
  have g3 : DataW.trod (fun _ => ()) Tryd.prog W 0 (fun _ => true) false n 4 (List.take (Tryd.prog.cellsOf 4) (List.drop 3 (List.take 4 (List.drop (2 * 4) cs.toList)))) = ys[3]? := hgf 3 _ rfl
  rw [c4] at g0 g1 g2 g3
  exact ⟨cell 0 true (by omega) g0 (by rw [e4]; rfl), cell 1 true (by omega) g1 (by rw [e4]; rfl), cell 2 false (by omega) g2 (by rw [e4]; rfl), cell 3 false (by omega) g3 (by rw [e4]; rfl)⟩

theorem walk (x0_0 : Int) (x0_1 : Int) (x0_2 : Int) (x0_3 : Int) (x0_4 : Int) (a1 : Int) (w : World) (hT : Conf.Tab2 w) (u0_0 : (Lit.int .i64 x0_0).wf = true) (u0_1 : (Lit.int .i64 x0_1).wf = true) (u0_2 : (Lit.int .i64 x0_2).wf = true) (u0_3 : (Lit.int .i64 x0_3).wf = true) (u0_4 : (Lit.int .i64 x0_4).wf = true) (w1 : (Lit.int .i64 a1).wf = true) :
    Calls Tryd.prog 3 #[.agg #[.int .i64 x0_0, .int .i64 x0_1, .int .i64 x0_2, .int .i64 x0_3, .int .i64 x0_4], .int .i64 a1] w fun e w' => e = .returned (.bool true) ∧ Below w.heap.size w w' := by
  have bx0_0 : -9223372036854775808 ≤ x0_0 ∧ x0_0 ≤ 9223372036854775807 := by simpa [Lit.wf, IntKind.min, IntKind.max, IntKind.signed, IntKind.bits] using u0_0
  have bx0_1 : -9223372036854775808 ≤ x0_1 ∧ x0_1 ≤ 9223372036854775807 := by simpa [Lit.wf, IntKind.min, IntKind.max, IntKind.signed, IntKind.bits] using u0_1
  have bx0_2 : -9223372036854775808 ≤ x0_2 ∧ x0_2 ≤ 9223372036854775807 := by simpa [Lit.wf, IntKind.min, IntKind.max, IntKind.signed, IntKind.bits] using u0_2
  have bx0_3 : -9223372036854775808 ≤ x0_3 ∧ x0_3 ≤ 9223372036854775807 := by simpa [Lit.wf, IntKind.min, IntKind.max, IntKind.signed, IntKind.bits] using u0_3
  have bx0_4 : -9223372036854775808 ≤ x0_4 ∧ x0_4 ≤ 9223372036854775807 := by simpa [Lit.wf, IntKind.min, IntKind.max, IntKind.signed, IntKind.bits] using u0_4
  have b1 : -9223372036854775808 ≤ a1 ∧ a1 ≤ 9223372036854775807 := by simpa [Lit.wf, IntKind.min, IntKind.max, IntKind.signed, IntKind.bits] using w1
  exact Conf.CallCells_calls x0_0 x0_1 x0_2 x0_3 x0_4 a1 w hT bx0_0 bx0_1 bx0_2 bx0_3 bx0_4 b1

set_option maxRecDepth 100000 in
theorem lifted (os : Os) (started : os.Started) (H : Type) (enc : TypeId × Value → H) :
    ReturnsInHanded {} Tryd.checked os 3 .any (fun w args => (Rows.callCellsSpec.pre enc Tryd.prog Tryd.f3 Rows.callCellsRow.domain false w args ∧ laidMetH Tryd.prog Rows.callCellsRow.laid w) ∧ sizedMet enc Tryd.prog Tryd.f3 (OpenSpec.ofChange Rows.callCellsSpec) false w args) (Rows.callCellsSpec.post enc Tryd.prog Tryd.f3 false true false false) := by
  refine returnsInHanded_of_change_and (C := Tryd.checked) (X := fun w _ => laidMetH Tryd.prog Rows.callCellsRow.laid w) (fun _ _ _ hh h => h.of_heap hh) own started (by kernel_rfl) Tryd.func3
    (ChangeSpec.witness_shaped (enc := enc) (C := Tryd.checked) (os := os) (X := fun w _ => laidMetH Tryd.prog Rows.callCellsRow.laid w) false (World.laidAll Tryd.prog os Rows.callCellsRow.laid) #[.agg #[.int .i64 0, .int .i64 0, .int .i64 0, .int .i64 0, .int .i64 0], .int .i64 0] 8 (World.laidAll_os _ _ _)
      (World.shaped_of_ZipB (by kernel_rfl) (by kernel_rfl)) (by kernel_rfl) (by kernel_rfl) (by kernel_rfl)
      (by rw [MakeChecks.laidMetH_plain _ _ _ (by kernel_rfl)]; exact laidMet_laidAll _ (by kernel_rfl) (by kernel_rfl))) ?_
  intro W base args ds gs before hval0 hW hcnd _ hL _
  have hval : ∀ (j : Nat) t v, Tryd.f3.params[j]? = some t → args[j]? = some v → Value.okWide Tryd.prog W .any base t v := hval0
  have hW' := hW
  obtain ⟨p, q, hA0, hV, rfl, hfz, hnd⟩ := hW
  have hA : DataW.TrodAll enc Tryd.prog W 0 (fun _ => true) true Tryd.f3.params.toList args.toList ds p := hA0
  rw [Tryd.params3] at hA hval
  obtain ⟨v0, vs0, d0, ds0, p0, q0, hargs, rfl, rfl, h0, r0⟩ := trodAll_cons hA
  obtain ⟨v1, vs1, d1, ds1, p1, q1, rfl, rfl, rfl, h1, r1⟩ := trodAll_cons r0
  obtain ⟨rfl, rfl, rfl⟩ := trodAll_nil r1
  obtain rfl : args = #[v0, v1] := by cases args; simp_all
  obtain ⟨rfl, rfl⟩ := trodVars_none hV
  have k0 := h0
  have lt0 : ∀ x ∈ p0, x.block < W.heap.size := by obtain ⟨m, hm⟩ := k0; exact DataW.trod_lt m _ _ _ hm
  obtain ⟨cs0, n0, rfl, hz0, hg0⟩ := open_fields Tryd.underlying23 (by kernel_rfl) (by kernel_rfl) (hval 0 23 v0 rfl rfl) h0
  obtain ⟨c0_0, c0_1, c0_2, c0_3, c0_4, rfl⟩ := arr5 hz0
  obtain ⟨c, y, hc, ht⟩ := hg0 0 _ rfl
  obtain rfl : c0_0 = c := by simpa using hc
  obtain ⟨x0_0, hx, _, u0_0⟩ := DataW.trod_int Tryd.underlying3 ht
  obtain rfl : c0_0 = .int .i64 x0_0 := by simpa using hx
  clear hc ht hx
  obtain ⟨c, y, hc, ht⟩ := hg0 1 _ rfl
  obtain rfl : c0_1 = c := by simpa using hc
  obtain ⟨x0_1, hx, _, u0_1⟩ := DataW.trod_int Tryd.underlying3 ht
  obtain rfl : c0_1 = .int .i64 x0_1 := by simpa using hx
  clear hc ht hx
  obtain ⟨c, y, hc, ht⟩ := hg0 2 _ rfl
  obtain rfl : c0_2 = c := by simpa using hc
  obtain ⟨x0_2, hx, _, u0_2⟩ := DataW.trod_int Tryd.underlying3 ht
  obtain rfl : c0_2 = .int .i64 x0_2 := by simpa using hx
  clear hc ht hx
  obtain ⟨c, y, hc, ht⟩ := hg0 3 _ rfl
  obtain rfl : c0_3 = c := by simpa using hc
  obtain ⟨x0_3, hx, _, u0_3⟩ := DataW.trod_int Tryd.underlying3 ht
  obtain rfl : c0_3 = .int .i64 x0_3 := by simpa using hx
  clear hc ht hx
  obtain ⟨c, y, hc, ht⟩ := hg0 4 _ rfl
  obtain rfl : c0_4 = c := by simpa using hc
  obtain ⟨x0_4, hx, _, u0_4⟩ := DataW.trod_int Tryd.underlying3 ht
  obtain rfl : c0_4 = .int .i64 x0_4 := by simpa using hx
  clear hc ht hx
  obtain ⟨a1, rfl, rfl, rfl, w1⟩ := open_int Tryd.underlying3 (hval 1 3 v1 rfl rfl) h1
  clear hA0 hval0
  refine (walk x0_0 x0_1 x0_2 x0_3 x0_4 a1 W (tab hL) u0_0 u0_1 u0_2 u0_3 u0_4 w1).mono fun e W' ⟨he, bel⟩ => ?_
  subst he
  exact ⟨_, rfl, _, _, _, [], _, [], hW', trodAll_mk1 (shut_bool Tryd.underlying4 _), (trodAll_cons_mk (Below.trod laidOut (by kernel_rfl) (of_decide_eq_true (by kernel_rfl)) k0 bel lt0) (trodAll_cons_mk (shut_int Tryd.underlying3 w1) trodAll_mk0)), rfl, bel.frame _, fun h => by cases h⟩

theorem over : Rows.callCellsRow.holds Tryd.pinned (OpenSpec.ofChange Rows.callCellsSpec) :=
  OpenClaim.holds_of_wide 3 Tryd.f3 rfl rfl rfl rfl rfl rfl rfl ⟨rfl, rfl, rfl, rfl, rfl⟩ rfl rfl rfl rfl rfl (by kernel_rfl) Tryd.func3 (by kernel_rfl)
    (of_decide_eq_true (by kernel_rfl)) (by unfold Func.isWrapper; first | (rw [if_pos (by decide +kernel)]; kernel_rfl) | (rw [if_neg (by decide +kernel)]; exact ⟨rfl, rfl⟩))
    (fun os started H enc _ => lifted os started H enc)

theorem said : Rows.CallCellsSaid := over
theorem proved : Rows.CallCellsCardSaid :=
  Claim7.holds_tied_plain_at .later [] [.data] true (true, "1e755c65a67a82324d441efbe41f24f6db3765238b29409f62380de80275e364") false said (fun _ h => by cases h) (by kernel_rfl) (fun _ h => by cases h) callCells_row_tie rfl ⟨rfl, rfl⟩ (by kernel_rfl) rfl
    (fun f fn hf hfn => by
      obtain rfl : f = 3 := Option.some.inj ((show Tryd.prog.funcNamed "boscage/boscagelaw30.CallCells" = some 3 by kernel_rfl).symm.trans hf) |>.symm
      obtain rfl : fn = Tryd.f3 := (Option.some.inj (Tryd.func3.symm.trans hfn)).symm
      exact ⟨by kernel_rfl, fun j t ht => by
        rw [Tryd.params3] at ht
        have hm : t ∈ [23, 3] := by simpa using Array.mem_of_getElem? ht
        have hall : ([23, 3].all fun u => !Tryd.prog.wantsStandIn u) = true := by kernel_rfl
        exact (show Tryd.prog.wantsStandIn t = false by simpa using List.all_eq_true.1 hall t hm)⟩)
    (by kernel_rfl)
#print axioms proved
end Go.Proofs.YtbocofcbcniphaaDoor.callCells
