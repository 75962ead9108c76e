/- A Cas changes its cell just if it says so. -/
import Derived.Test.YtniackbkhfhpaaaCellV
namespace Go.Proofs.Ytniackbkhfhpaaa.Sim
open Go.RowKit
set_option maxRecDepth 100000
set_option linter.unusedSimpArgs false
set_option linter.unusedVariables false
theorem minE {m n : Nat} (hn : n = min m 20) : (if (20 : Int) < (m : Int) then (20 : Int) else (m : Int)) = (n : Int) := by split <;> omega
theorem map_at {l : List W3} {k : Nat} (h : k < l.length) : (l.map wA)[k]? = some (wA l[k]) := by simp [h]
theorem map_set {l : List W3} {k : Nat} {a b c : Int} : (l.map wA).set k (.agg [I a, I b, I c]) = (l.set k (a, b, c)).map wA := by rw [List.map_set]; rfl
/-- What stands in the cells when some words were put in. -/
def Rw (l : List W3) (n k : Nat) : List AV := (l.take k).map wA ++ List.replicate (n - k) (.agg [I 0, I 0, I 0])
theorem Rw_zero (l : List W3) (n : Nat) : List.replicate n (.agg [I 0, I 0, I 0]) = Rw l n 0 := by simp [Rw]
theorem Rw_get {l : List W3} {n k : Nat} (h : k < n) (hl : n ≤ l.length) : (Rw l n k)[k]? = some (.agg [I 0, I 0, I 0]) := by
  unfold Rw
  have e1 : ((l.take k).map wA).length = k := by simp; omega
  rw [List.getElem?_append_right (by omega), e1, List.getElem?_replicate, if_pos (by omega)]
theorem Rw_set {l : List W3} {n k : Nat} (h : k < n) (hl : n ≤ l.length) : (Rw l n k).set k (.agg [I (l[k]'(by omega)).1, I (l[k]'(by omega)).2.1, I (l[k]'(by omega)).2.2]) = Rw l n (k + 1) := by
  unfold Rw
  apply List.ext_getElem?
  intro j
  rw [List.getElem?_set]
  have e1 : ((l.take k).map wA).length = k := by simp; omega
  have e2 : ((l.take (k + 1)).map wA).length = k + 1 := by simp; omega
  by_cases hj : k = j
  · subst hj
    rw [if_pos rfl, if_pos (by simp; omega), List.getElem?_append_left (by omega)]
    have hk : k < l.length := by omega
    simp [List.getElem?_take, hk, wA]
  · rw [if_neg hj]
    by_cases hjk : j < k
    · rw [List.getElem?_append_left (by omega), List.getElem?_append_left (by omega)]
      simp [List.getElem?_take, show j < k from hjk, show j < k + 1 by omega]
    · rw [List.getElem?_append_right (by omega), List.getElem?_append_right (by omega), e1, e2, List.getElem?_replicate, List.getElem?_replicate]
      by_cases h2 : j - k < n - k
      · rw [if_pos h2, if_pos (by omega)]
      · rw [if_neg h2, if_neg (by omega)]
theorem Rw_all {l : List W3} {n : Nat} : Rw l n n = (l.take n).map wA := by simp [Rw]
theorem get3 {α : Type} {a b c x : α} {J : List α} : (a :: b :: c :: (J ++ [x]))[J.length + 1 + 1 + 1]? = some x := by simp
theorem set3 {α : Type} {a b c x y : α} {J : List α} : (a :: b :: c :: (J ++ [x])).set (J.length + 1 + 1 + 1) y = a :: b :: c :: (J ++ [y]) := by simp
theorem push_at {α : Type} {R : List α} {x : α} : (R ++ [x])[R.length]? = some x := by simp
theorem cVu {n : Int} : pureRun Try.prog (convert 3 54 (.int .i64 n)) = some (.int .u64 (IntKind.u64.wrap n)) := cV_int (e := .int .i64) (by kernel_rfl) (by kernel_rfl)
theorem cVi {n : Int} : pureRun Try.prog (convert 54 3 (.int .u64 n)) = some (.int .i64 (IntKind.i64.wrap n)) := cV_int (e := .int .u64) (by kernel_rfl) (by kernel_rfl)
theorem bV_remu {P : Program} {t : TypeId} {xo yo : Operand} {a b : Int} (h : b ≠ 0) : binV P .rem t xo yo (.int .u64 a) (.int .u64 b) = some (.int .u64 (a.tmod b)) := by
  show pureRun P (do eqGuard .rem t xo yo (.int .u64 a) (.int .u64 b); Op.intDiv .rem .u64 a b) = _
  unfold Op.intDiv
  rw [if_neg h]; rfl
theorem wrapU (x : Int) : IntKind.u64.wrap x = x % 18446744073709551616 := rfl
/-- A number that goes round. -/
def rnd (x : Int) (n : Nat) : Int := (x % 18446744073709551616) % n
theorem rnd_in {x : Int} {n : Nat} (h : 1 ≤ n) : 0 ≤ rnd x n ∧ rnd x n < n := ⟨Int.emod_nonneg _ (by omega), Int.emod_lt_of_pos _ (by omega)⟩
theorem rnd_of {j n : Nat} (h : j < n) (h' : n ≤ 9223372036854775807) : rnd j n = j := by
  unfold rnd
  rw [Int.emod_eq_of_lt (by omega) (by omega), Int.emod_eq_of_lt (by omega) (by omega)]
theorem among_E : (0 : Nat) = 0 := rfl
set_option maxHeartbeats 4000000 in
theorem among (G : Nat → AV) (x : Int) (n : Nat) (h : 1 ≤ n) (h' : n ≤ 9223372036854775807) : PC Try.prog G 9 [I x, I n] (I (rnd x n)) := by
  refine pc_of cop9 ?_
  show W _ _ _ _ ⟨_, _⟩; simp only [A9, List.cons_append, List.nil_append, List.length_cons, List.length_nil, Nat.reduceAdd, Nat.reduceSub, List.replicate]
  have e1 : ((n : Int) % 18446744073709551616) = n := Int.emod_eq_of_lt (by omega) (by omega)
  have e2 : (x % 18446744073709551616).tmod n = rnd x n := Int.tmod_eq_emod_of_nonneg (Int.emod_nonneg _ (by omega))
  have e3 : rnd x n = rnd x n := rfl
  have e4 := rnd_in (x := x) h
  repeat (first | with_reducible refine w_seq ?_ | with_reducible refine w_reg ?_ | with_reducible refine w_draw ?_ | (with_reducible refine w_drawx1 ?_ ?_ ?_; rotate_left 1) | (with_reducible refine w_drawx2 ?_ ?_ ?_ ?_; rotate_left 1) | (with_reducible refine w_drawx3 ?_ ?_ ?_ ?_ ?_; rotate_left 1) | (with_reducible refine w_drawx4 ?_ ?_ ?_ ?_ ?_ ?_; rotate_left 1) | (with_reducible refine w_drawx5 ?_ ?_ ?_ ?_ ?_ ?_ ?_; rotate_left 1) | with_reducible exact isSt | with_reducible refine w_scope ?_ | with_reducible refine w_block ?_ | with_reducible refine w_skip ?_ | with_reducible refine w_exit ?_ | with_reducible refine ws_nil ?_ | with_reducible refine wd_nil ?_ | with_reducible refine q_then ?_ | with_reducible refine q_then_x ?_ | with_reducible refine q_block_n ?_ | with_reducible refine q_block_x ?_ | with_reducible refine q_block_r ?_ | (with_reducible refine q_block_y (by decide) ?_) | with_reducible refine w_ret ?_ | with_reducible refine q_then_r ?_ | ((with_reducible refine kgs_t ?_ ?_); rfl) | ((with_reducible refine kgd_t ?_ ?_); rfl) | ((with_reducible refine kgs_f ?_ ?_); rfl) | ((with_reducible refine kgs_u ?_ ?_); rfl) | ((first | with_reducible refine ks fun K hK => ?_ | with_reducible refine kd fun K hK => ?_ | with_reducible refine kc fun K hK2 hK hK3 => ?_); simp (disch := omega) only [stepO, rsAs, eff, AX.ev, St.put, List.set_cons_succ, List.set_cons_zero, List.getD_cons_succ, List.getD_cons_zero, Option.map_some, binA, conc, ap1, uV_not, uV_neg, ofVal, scal_bool, scal_int, scal_string, scal_float, scal_ptr0, scal_ptr, scal_map0, scal_nilFunc, scal_nilIface, scal_agg, scal_tuple, scal_slice, if_true, if_false, bV_add, bV_sub, bV_mul, bV_quo, bV_rem, Int.reduceTMod, Int.reduceTDiv, bV_eq, bV_ne, bV_lt, bV_le, bV_gt, bV_ge, wrapI, decide_true, decide_false, Bool.not_true, Bool.not_false, Bool.false_eq_true, Bool.true_eq_false, reduceCtorEq, and_self, and_true, true_and, fillA, AV.cells, AV.fine, List.length_cons, List.length_nil, List.all_cons, List.all_nil, AV.one, List.map_cons, List.map_nil, List.take_succ_cons, List.take_zero, List.drop_succ_cons, List.drop_zero, List.cons_append, List.nil_append, List.append_nil, Nat.reduceAdd, Nat.reduceSub, Nat.reduceMul, Nat.reduceLT, Nat.reduceLeDiff, Bool.and_self, Bool.and_true, Bool.true_and, Int.reduceLT, Int.reduceLE, Int.reduceAdd, Int.reduceSub, Int.reduceNeg, Int.reduceMul, Int.reduceEq, Int.toNat_natCast, Int.reduceToNat, Nat.le_refl, nilA, moveA, live, loadA, rdA, storeA, wrA, intA, elemA, lenA, appA, srcA, isPtr, isNilPtr, partA, List.getElem?_cons_zero, List.getElem?_cons_succ, List.getElem?_nil, Bool.or_true, Bool.or_false, Bool.true_or, Bool.false_or, Bool.and_false, Bool.false_and, Option.isSome_some, ne_eq, not_true_eq_false, not_false_eq_true, Nat.zero_le, Nat.add_zero, Nat.zero_add, List.headD_cons, maxLenE, resOf, Int.natCast_zero, Int.natCast_one, Int.cast_ofNat_Int, Int.natCast_add, List.replicate_zero, List.replicate_succ, sliceA, cut, Option.getD_some, Option.getD_none, Option.bind_some, Option.bind_none, Option.map_none, id, List.set_nil, decide_eq_true_eq, Nat.lt_irrefl, gt_iff_lt, ge_iff_le, Int.lt_irrefl, ap2, List.isEmpty_nil, fnA_fn, fnA_v, eqsA_t, eqsA_f, eqCs_int, eqCs_str, eqCs_bool, eqCs_nil, bi_min, bi_max, concs, bV_seq, bV_sne, bV_slt, bV_sgt, bV_sle, bV_sge, Bool.not_not, chkB, AOp.cls, AOp.xs, ltB, ltC, Nat.reduceBEq, BEq.rfl, beq_self_eq_true, Option.toList, decide_eq_true, decide_eq_false, cVu, cVi, bV_remu, wrapU, e1, e2]; (first | ((with_reducible refine hK _ ?_); clear hK K) | ((with_reducible refine hK ?_); clear hK hK3 K hK2) | ((with_reducible refine hK3 ?_); clear hK hK3 K hK2))) | ((first | ((with_reducible refine kgd_u ?_ ?_ ?_); rotate_left 1; rfl) | ((with_reducible refine kgd_f ?_ ?_ ?_); rotate_left 1; rfl)); rotate_left 1; (focus (simp (disch := omega) only [stepO, rsAs, eff, AX.ev, St.put, List.set_cons_succ, List.set_cons_zero, List.getD_cons_succ, List.getD_cons_zero, Option.map_some, binA, conc, ap1, uV_not, uV_neg, ofVal, scal_bool, scal_int, scal_string, scal_float, scal_ptr0, scal_ptr, scal_map0, scal_nilFunc, scal_nilIface, scal_agg, scal_tuple, scal_slice, if_true, if_false, bV_add, bV_sub, bV_mul, bV_quo, bV_rem, Int.reduceTMod, Int.reduceTDiv, bV_eq, bV_ne, bV_lt, bV_le, bV_gt, bV_ge, wrapI, decide_true, decide_false, Bool.not_true, Bool.not_false, Bool.false_eq_true, Bool.true_eq_false, reduceCtorEq, and_self, and_true, true_and, fillA, AV.cells, AV.fine, List.length_cons, List.length_nil, List.all_cons, List.all_nil, AV.one, List.map_cons, List.map_nil, List.take_succ_cons, List.take_zero, List.drop_succ_cons, List.drop_zero, List.cons_append, List.nil_append, List.append_nil, Nat.reduceAdd, Nat.reduceSub, Nat.reduceMul, Nat.reduceLT, Nat.reduceLeDiff, Bool.and_self, Bool.and_true, Bool.true_and, Int.reduceLT, Int.reduceLE, Int.reduceAdd, Int.reduceSub, Int.reduceNeg, Int.reduceMul, Int.reduceEq, Int.toNat_natCast, Int.reduceToNat, Nat.le_refl, nilA, moveA, live, loadA, rdA, storeA, wrA, intA, elemA, lenA, appA, srcA, isPtr, isNilPtr, partA, List.getElem?_cons_zero, List.getElem?_cons_succ, List.getElem?_nil, Bool.or_true, Bool.or_false, Bool.true_or, Bool.false_or, Bool.and_false, Bool.false_and, Option.isSome_some, ne_eq, not_true_eq_false, not_false_eq_true, Nat.zero_le, Nat.add_zero, Nat.zero_add, List.headD_cons, maxLenE, resOf, Int.natCast_zero, Int.natCast_one, Int.cast_ofNat_Int, Int.natCast_add, List.replicate_zero, List.replicate_succ, sliceA, cut, Option.getD_some, Option.getD_none, Option.bind_some, Option.bind_none, Option.map_none, id, List.set_nil, decide_eq_true_eq, Nat.lt_irrefl, gt_iff_lt, ge_iff_le, Int.lt_irrefl, ap2, List.isEmpty_nil, fnA_fn, fnA_v, eqsA_t, eqsA_f, eqCs_int, eqCs_str, eqCs_bool, eqCs_nil, bi_min, bi_max, concs, bV_seq, bV_sne, bV_slt, bV_sgt, bV_sle, bV_sge, Bool.not_not, chkB, AOp.cls, AOp.xs, ltB, ltC, Nat.reduceBEq, BEq.rfl, beq_self_eq_true, Option.toList, decide_eq_true, decide_eq_false, cVu, cVi, bV_remu, wrapU, e1, e2]; try rfl))) | ((first | with_reducible refine ret_h fun K hK => ?_ | with_reducible refine ret_hh rfl fun K hK => ?_ | with_reducible refine ret_pp fun K hK => ?_); simp (disch := omega) only [stepO, rsAs, eff, AX.ev, St.put, List.set_cons_succ, List.set_cons_zero, List.getD_cons_succ, List.getD_cons_zero, Option.map_some, binA, conc, ap1, uV_not, uV_neg, ofVal, scal_bool, scal_int, scal_string, scal_float, scal_ptr0, scal_ptr, scal_map0, scal_nilFunc, scal_nilIface, scal_agg, scal_tuple, scal_slice, if_true, if_false, bV_add, bV_sub, bV_mul, bV_quo, bV_rem, Int.reduceTMod, Int.reduceTDiv, bV_eq, bV_ne, bV_lt, bV_le, bV_gt, bV_ge, wrapI, decide_true, decide_false, Bool.not_true, Bool.not_false, Bool.false_eq_true, Bool.true_eq_false, reduceCtorEq, and_self, and_true, true_and, fillA, AV.cells, AV.fine, List.length_cons, List.length_nil, List.all_cons, List.all_nil, AV.one, List.map_cons, List.map_nil, List.take_succ_cons, List.take_zero, List.drop_succ_cons, List.drop_zero, List.cons_append, List.nil_append, List.append_nil, Nat.reduceAdd, Nat.reduceSub, Nat.reduceMul, Nat.reduceLT, Nat.reduceLeDiff, Bool.and_self, Bool.and_true, Bool.true_and, Int.reduceLT, Int.reduceLE, Int.reduceAdd, Int.reduceSub, Int.reduceNeg, Int.reduceMul, Int.reduceEq, Int.toNat_natCast, Int.reduceToNat, Nat.le_refl, nilA, moveA, live, loadA, rdA, storeA, wrA, intA, elemA, lenA, appA, srcA, isPtr, isNilPtr, partA, List.getElem?_cons_zero, List.getElem?_cons_succ, List.getElem?_nil, Bool.or_true, Bool.or_false, Bool.true_or, Bool.false_or, Bool.and_false, Bool.false_and, Option.isSome_some, ne_eq, not_true_eq_false, not_false_eq_true, Nat.zero_le, Nat.add_zero, Nat.zero_add, List.headD_cons, maxLenE, resOf, Int.natCast_zero, Int.natCast_one, Int.cast_ofNat_Int, Int.natCast_add, List.replicate_zero, List.replicate_succ, sliceA, cut, Option.getD_some, Option.getD_none, Option.bind_some, Option.bind_none, Option.map_none, id, List.set_nil, decide_eq_true_eq, Nat.lt_irrefl, gt_iff_lt, ge_iff_le, Int.lt_irrefl, ap2, List.isEmpty_nil, fnA_fn, fnA_v, eqsA_t, eqsA_f, eqCs_int, eqCs_str, eqCs_bool, eqCs_nil, bi_min, bi_max, concs, bV_seq, bV_sne, bV_slt, bV_sgt, bV_sle, bV_sge, Bool.not_not, chkB, AOp.cls, AOp.xs, ltB, ltC, Nat.reduceBEq, BEq.rfl, beq_self_eq_true, Option.toList, decide_eq_true, decide_eq_false, cVu, cVi, bV_remu, wrapU, e1, e2]; (first | ((with_reducible refine hK _ ?_ ?_ ?_ ?_); rotate_left 2; rfl; rfl) | ((with_reducible refine hK _ ?_); rfl))))
theorem set_words (m0 l : List W3) (n j : Nat) (p : W3) (hl : m0.length = n) (hj : j < n) (h : ∀ k (h : k < m0.length) (h' : k < l.length), m0[k] = l[k]) :
    ∃ m1 : List W3, (m0.map wA).set j (.agg [I p.1, I p.2.1, I p.2.2]) = m1.map wA ∧ m1.length = n ∧ (∀ h : j < m1.length, m1[j] = p) ∧ ∀ k (h : k < m1.length) (h' : k < l.length), k ≠ j → m1[k] = l[k] :=
  ⟨m0.set j p, by rw [List.map_set]; rfl, by simpa using hl, fun h => by simp, fun k h1 h2 hk => by rw [List.getElem_set_ne (fun e => hk e.symm)]; exact h k _ h2⟩
theorem take_words (l : List W3) (n : Nat) (h : n ≤ l.length) : ∃ m0 : List W3, (l.take n).map wA = m0.map wA ∧ m0.length = n ∧ ∀ k (h : k < m0.length) (h' : k < l.length), m0[k] = l[k] :=
  ⟨l.take n, rfl, by simp; omega, fun k h h' => by simp⟩
end Go.Proofs.Ytniackbkhfhpaaa.Sim
