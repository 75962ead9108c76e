/- Texts of this claim, part 2. -/
import Derived.Test.YtfdfmhapcjckoaaMBranchChanges1
import Derived.Test.YtfdfmhapcjckoaaTAc19
import Derived.Test.YtfdfmhapcjckoaaTRairO
import Derived.Test.YtfdfmhapcjckoaaTRairV
import Derived.Test.YtfdfmhapcjckoaaTSimVf
import Derived.Test.YtfdfmhapcjckoaaTSimW
set_option linter.unusedVariables false
set_option linter.unusedSimpArgs false
namespace Go.Proofs.Ytfdfmhapcjckoaa.Sim
open Go.RowKit
set_option maxRecDepth 100000
set_option maxHeartbeats 16000000 in
theorem same13 (G : Nat → AV) (kn kn' : Int) (ke ke' va va' : ByteArray) (mp mp' : Int) (kk kk' : List Int) (mn mn' : Int) (ls ls' : List Pr) (sz sz' bi bi' : Int) (hke : ke.size ≤ 9223372036854775807) (hke2 : ke'.size ≤ 9223372036854775807) (hva : va.size ≤ 9223372036854775807) (hva2 : va'.size ≤ 9223372036854775807) (hks : kk.length ≤ 9223372036854775807) (hks2 : kk'.length ≤ 9223372036854775807) (hls : ls.length ≤ 9223372036854775807) (hls2 : ls'.length ≤ 9223372036854775807) (r : Bool)
    (hr : r = decide (kn = kn' ∧ ke = ke' ∧ va = va' ∧ mp = mp' ∧ kk = kk' ∧ mn = mn' ∧ ls = ls' ∧ sz = sz' ∧ bi = bi')) : PC Try.prog G 12 [nV kn ke va mp kk mn ls sz bi, nV kn' ke' va' mp' kk' mn' ls' sz' bi'] (Bo r) := by
  refine pc_of cop12 ?_
  show W _ _ _ _ ⟨_, _⟩; simp only [A12, List.cons_append, List.nil_append, List.length_cons, List.length_nil, Nat.reduceAdd, Nat.reduceSub, List.replicate]
  by_cases hne : kn = kn'
  case neg =>
    obtain rfl : r = false := by rw [hr]; simp [hne]
    repeat (first | with_reducible refine w_seq ?_ | with_reducible refine w_reg ?_ | with_reducible refine ws_nil ?_ | with_reducible refine q_then ?_ | with_reducible refine w_ret ?_ | with_reducible refine q_then_r ?_ | ((with_reducible refine kgs_f ?_ ?_); rfl) | ((first | with_reducible refine ks fun K hK => ?_ | with_reducible refine kd fun K hK => ?_ | with_reducible refine kc fun K hK2 hK hK3 => ?_); simp (disch := omega) only [bg0, bg1, bg2, bg3, bg4, stepO, rsAs, eff, AX.ev, St.put, binA, conc, ap1, ofVal, Int.reduceTMod, Int.reduceTDiv, reduceCtorEq, fillA, AV.cells, AV.fine, AV.one, Nat.reduceAdd, Nat.reduceSub, Nat.reduceMul, Nat.reduceLT, Nat.reduceLeDiff, Int.reduceLT, Int.reduceLE, Int.reduceAdd, Int.reduceSub, Int.reduceNeg, Int.reduceMul, Int.reduceEq, Int.reduceToNat, nilA, moveA, live, loadA, rdA, storeA, wrA, intA, elemA, lenA, appA, srcA, isPtr, isNilPtr, partA, resOf, sliceA, cut, id, ap2, reduceIte, concs, chkB, geB, AOp.cls, AOp.xs, ltB, ltC, Nat.reduceBEq, Option.toList, List.cons_append, decide_eq_true, decide_eq_false, if_pos, if_neg, List.length_map, pA_at, iA_at, List.cons_append, bVb, bVn, eq_self, Bool.and_self, BEq.rfl, not_true_eq_false, b32e, b32n, decide_true, decide_false, not_false_eq_true, hne]; (first | ((with_reducible refine hK _ ?_); clear hK K) | ((with_reducible refine hK ?_); clear hK hK3 K hK2) | ((with_reducible refine hK3 ?_); clear hK hK3 K hK2))) | ((first | with_reducible refine ret_h fun K hK => ?_ | with_reducible refine ret_hh rfl fun K hK => ?_ | with_reducible refine ret_pp fun K hK => ?_); simp (disch := omega) only [bg0, bg1, bg2, bg3, bg4, stepO, rsAs, eff, AX.ev, St.put, binA, conc, ap1, ofVal, Int.reduceTMod, Int.reduceTDiv, reduceCtorEq, fillA, AV.cells, AV.fine, AV.one, Nat.reduceAdd, Nat.reduceSub, Nat.reduceMul, Nat.reduceLT, Nat.reduceLeDiff, Int.reduceLT, Int.reduceLE, Int.reduceAdd, Int.reduceSub, Int.reduceNeg, Int.reduceMul, Int.reduceEq, Int.reduceToNat, nilA, moveA, live, loadA, rdA, storeA, wrA, intA, elemA, lenA, appA, srcA, isPtr, isNilPtr, partA, resOf, sliceA, cut, id, ap2, reduceIte, concs, chkB, geB, AOp.cls, AOp.xs, ltB, ltC, Nat.reduceBEq, Option.toList, List.cons_append, decide_eq_true, decide_eq_false, if_pos, if_neg, List.length_map, pA_at, iA_at, List.cons_append, bVb, bVn, eq_self, Bool.and_self, BEq.rfl, not_true_eq_false, b32e, b32n, decide_true, decide_false, not_false_eq_true, hne]; (first | ((with_reducible refine hK _ ?_ ?_ ?_ ?_); rotate_left 2; rfl; rfl) | ((with_reducible refine hK _ ?_); rfl))))
  subst hne
  by_cases hne : ke = ke'
  case neg =>
    obtain rfl : r = false := by rw [hr]; simp [hne]
    repeat (first | with_reducible refine w_seq ?_ | with_reducible refine w_reg ?_ | with_reducible refine ws_nil ?_ | with_reducible refine q_then ?_ | with_reducible refine w_ret ?_ | with_reducible refine q_then_r ?_ | ((with_reducible refine kgs_t ?_ ?_); rfl) | ((with_reducible refine kgs_f ?_ ?_); rfl) | ((first | with_reducible refine ks fun K hK => ?_ | with_reducible refine kd fun K hK => ?_ | with_reducible refine kc fun K hK2 hK hK3 => ?_); simp (disch := omega) only [bg0, bg1, bg2, bg3, bg4, stepO, rsAs, eff, AX.ev, St.put, binA, conc, ap1, ofVal, Int.reduceTMod, Int.reduceTDiv, reduceCtorEq, fillA, AV.cells, AV.fine, AV.one, Nat.reduceAdd, Nat.reduceSub, Nat.reduceMul, Nat.reduceLT, Nat.reduceLeDiff, Int.reduceLT, Int.reduceLE, Int.reduceAdd, Int.reduceSub, Int.reduceNeg, Int.reduceMul, Int.reduceEq, Int.reduceToNat, nilA, moveA, live, loadA, rdA, storeA, wrA, intA, elemA, lenA, appA, srcA, isPtr, isNilPtr, partA, resOf, sliceA, cut, id, ap2, reduceIte, concs, chkB, geB, AOp.cls, AOp.xs, ltB, ltC, Nat.reduceBEq, Option.toList, List.cons_append, decide_eq_true, decide_eq_false, if_pos, if_neg, List.length_map, pA_at, iA_at, List.cons_append, bVb, bVn, eq_self, Bool.and_self, BEq.rfl, not_true_eq_false, b32e, b32n, decide_true, decide_false, not_false_eq_true, hne]; (first | ((with_reducible refine hK _ ?_); clear hK K) | ((with_reducible refine hK ?_); clear hK hK3 K hK2) | ((with_reducible refine hK3 ?_); clear hK hK3 K hK2))) | ((first | with_reducible refine ret_h fun K hK => ?_ | with_reducible refine ret_hh rfl fun K hK => ?_ | with_reducible refine ret_pp fun K hK => ?_); simp (disch := omega) only [bg0, bg1, bg2, bg3, bg4, stepO, rsAs, eff, AX.ev, St.put, binA, conc, ap1, ofVal, Int.reduceTMod, Int.reduceTDiv, reduceCtorEq, fillA, AV.cells, AV.fine, AV.one, Nat.reduceAdd, Nat.reduceSub, Nat.reduceMul, Nat.reduceLT, Nat.reduceLeDiff, Int.reduceLT, Int.reduceLE, Int.reduceAdd, Int.reduceSub, Int.reduceNeg, Int.reduceMul, Int.reduceEq, Int.reduceToNat, nilA, moveA, live, loadA, rdA, storeA, wrA, intA, elemA, lenA, appA, srcA, isPtr, isNilPtr, partA, resOf, sliceA, cut, id, ap2, reduceIte, concs, chkB, geB, AOp.cls, AOp.xs, ltB, ltC, Nat.reduceBEq, Option.toList, List.cons_append, decide_eq_true, decide_eq_false, if_pos, if_neg, List.length_map, pA_at, iA_at, List.cons_append, bVb, bVn, eq_self, Bool.and_self, BEq.rfl, not_true_eq_false, b32e, b32n, decide_true, decide_false, not_false_eq_true, hne]; (first | ((with_reducible refine hK _ ?_ ?_ ?_ ?_); rotate_left 2; rfl; rfl) | ((with_reducible refine hK _ ?_); rfl))))
  subst hne
  by_cases hne : va = va'
  case neg =>
    obtain rfl : r = false := by rw [hr]; simp [hne]
    repeat (first | with_reducible refine w_seq ?_ | with_reducible refine w_reg ?_ | with_reducible refine ws_nil ?_ | with_reducible refine q_then ?_ | with_reducible refine w_ret ?_ | with_reducible refine q_then_r ?_ | ((with_reducible refine kgs_t ?_ ?_); rfl) | ((with_reducible refine kgs_f ?_ ?_); rfl) | ((first | with_reducible refine ks fun K hK => ?_ | with_reducible refine kd fun K hK => ?_ | with_reducible refine kc fun K hK2 hK hK3 => ?_); simp (disch := omega) only [bg0, bg1, bg2, bg3, bg4, stepO, rsAs, eff, AX.ev, St.put, binA, conc, ap1, ofVal, Int.reduceTMod, Int.reduceTDiv, reduceCtorEq, fillA, AV.cells, AV.fine, AV.one, Nat.reduceAdd, Nat.reduceSub, Nat.reduceMul, Nat.reduceLT, Nat.reduceLeDiff, Int.reduceLT, Int.reduceLE, Int.reduceAdd, Int.reduceSub, Int.reduceNeg, Int.reduceMul, Int.reduceEq, Int.reduceToNat, nilA, moveA, live, loadA, rdA, storeA, wrA, intA, elemA, lenA, appA, srcA, isPtr, isNilPtr, partA, resOf, sliceA, cut, id, ap2, reduceIte, concs, chkB, geB, AOp.cls, AOp.xs, ltB, ltC, Nat.reduceBEq, Option.toList, List.cons_append, decide_eq_true, decide_eq_false, if_pos, if_neg, List.length_map, pA_at, iA_at, List.cons_append, bVb, bVn, eq_self, Bool.and_self, BEq.rfl, not_true_eq_false, b32e, b32n, decide_true, decide_false, not_false_eq_true, hne]; (first | ((with_reducible refine hK _ ?_); clear hK K) | ((with_reducible refine hK ?_); clear hK hK3 K hK2) | ((with_reducible refine hK3 ?_); clear hK hK3 K hK2))) | ((first | with_reducible refine ret_h fun K hK => ?_ | with_reducible refine ret_hh rfl fun K hK => ?_ | with_reducible refine ret_pp fun K hK => ?_); simp (disch := omega) only [bg0, bg1, bg2, bg3, bg4, stepO, rsAs, eff, AX.ev, St.put, binA, conc, ap1, ofVal, Int.reduceTMod, Int.reduceTDiv, reduceCtorEq, fillA, AV.cells, AV.fine, AV.one, Nat.reduceAdd, Nat.reduceSub, Nat.reduceMul, Nat.reduceLT, Nat.reduceLeDiff, Int.reduceLT, Int.reduceLE, Int.reduceAdd, Int.reduceSub, Int.reduceNeg, Int.reduceMul, Int.reduceEq, Int.reduceToNat, nilA, moveA, live, loadA, rdA, storeA, wrA, intA, elemA, lenA, appA, srcA, isPtr, isNilPtr, partA, resOf, sliceA, cut, id, ap2, reduceIte, concs, chkB, geB, AOp.cls, AOp.xs, ltB, ltC, Nat.reduceBEq, Option.toList, List.cons_append, decide_eq_true, decide_eq_false, if_pos, if_neg, List.length_map, pA_at, iA_at, List.cons_append, bVb, bVn, eq_self, Bool.and_self, BEq.rfl, not_true_eq_false, b32e, b32n, decide_true, decide_false, not_false_eq_true, hne]; (first | ((with_reducible refine hK _ ?_ ?_ ?_ ?_); rotate_left 2; rfl; rfl) | ((with_reducible refine hK _ ?_); rfl))))
  subst hne
  by_cases hne : mp = mp'
  case neg =>
    obtain rfl : r = false := by rw [hr]; simp [hne]
    repeat (first | with_reducible refine w_seq ?_ | with_reducible refine w_reg ?_ | with_reducible refine ws_nil ?_ | with_reducible refine q_then ?_ | with_reducible refine w_ret ?_ | with_reducible refine q_then_r ?_ | ((with_reducible refine kgs_t ?_ ?_); rfl) | ((with_reducible refine kgs_f ?_ ?_); rfl) | ((first | with_reducible refine ks fun K hK => ?_ | with_reducible refine kd fun K hK => ?_ | with_reducible refine kc fun K hK2 hK hK3 => ?_); simp (disch := omega) only [bg0, bg1, bg2, bg3, bg4, stepO, rsAs, eff, AX.ev, St.put, binA, conc, ap1, ofVal, Int.reduceTMod, Int.reduceTDiv, reduceCtorEq, fillA, AV.cells, AV.fine, AV.one, Nat.reduceAdd, Nat.reduceSub, Nat.reduceMul, Nat.reduceLT, Nat.reduceLeDiff, Int.reduceLT, Int.reduceLE, Int.reduceAdd, Int.reduceSub, Int.reduceNeg, Int.reduceMul, Int.reduceEq, Int.reduceToNat, nilA, moveA, live, loadA, rdA, storeA, wrA, intA, elemA, lenA, appA, srcA, isPtr, isNilPtr, partA, resOf, sliceA, cut, id, ap2, reduceIte, concs, chkB, geB, AOp.cls, AOp.xs, ltB, ltC, Nat.reduceBEq, Option.toList, List.cons_append, decide_eq_true, decide_eq_false, if_pos, if_neg, List.length_map, pA_at, iA_at, List.cons_append, bVb, bVn, eq_self, Bool.and_self, BEq.rfl, not_true_eq_false, b32e, b32n, decide_true, decide_false, not_false_eq_true, hne]; (first | ((with_reducible refine hK _ ?_); clear hK K) | ((with_reducible refine hK ?_); clear hK hK3 K hK2) | ((with_reducible refine hK3 ?_); clear hK hK3 K hK2))) | ((first | with_reducible refine ret_h fun K hK => ?_ | with_reducible refine ret_hh rfl fun K hK => ?_ | with_reducible refine ret_pp fun K hK => ?_); simp (disch := omega) only [bg0, bg1, bg2, bg3, bg4, stepO, rsAs, eff, AX.ev, St.put, binA, conc, ap1, ofVal, Int.reduceTMod, Int.reduceTDiv, reduceCtorEq, fillA, AV.cells, AV.fine, AV.one, Nat.reduceAdd, Nat.reduceSub, Nat.reduceMul, Nat.reduceLT, Nat.reduceLeDiff, Int.reduceLT, Int.reduceLE, Int.reduceAdd, Int.reduceSub, Int.reduceNeg, Int.reduceMul, Int.reduceEq, Int.reduceToNat, nilA, moveA, live, loadA, rdA, storeA, wrA, intA, elemA, lenA, appA, srcA, isPtr, isNilPtr, partA, resOf, sliceA, cut, id, ap2, reduceIte, concs, chkB, geB, AOp.cls, AOp.xs, ltB, ltC, Nat.reduceBEq, Option.toList, List.cons_append, decide_eq_true, decide_eq_false, if_pos, if_neg, List.length_map, pA_at, iA_at, List.cons_append, bVb, bVn, eq_self, Bool.and_self, BEq.rfl, not_true_eq_false, b32e, b32n, decide_true, decide_false, not_false_eq_true, hne]; (first | ((with_reducible refine hK _ ?_ ?_ ?_ ?_); rotate_left 2; rfl; rfl) | ((with_reducible refine hK _ ?_); rfl))))
  subst hne
  by_cases hne : mn = mn'
  case neg =>
    obtain rfl : r = false := by rw [hr]; simp [hne]
    repeat (first | with_reducible refine w_seq ?_ | with_reducible refine w_reg ?_ | with_reducible refine ws_nil ?_ | with_reducible refine q_then ?_ | with_reducible refine w_ret ?_ | with_reducible refine q_then_r ?_ | ((with_reducible refine kgs_t ?_ ?_); rfl) | ((with_reducible refine kgs_f ?_ ?_); rfl) | ((first | with_reducible refine ks fun K hK => ?_ | with_reducible refine kd fun K hK => ?_ | with_reducible refine kc fun K hK2 hK hK3 => ?_); simp (disch := omega) only [bg0, bg1, bg2, bg3, bg4, stepO, rsAs, eff, AX.ev, St.put, binA, conc, ap1, ofVal, Int.reduceTMod, Int.reduceTDiv, reduceCtorEq, fillA, AV.cells, AV.fine, AV.one, Nat.reduceAdd, Nat.reduceSub, Nat.reduceMul, Nat.reduceLT, Nat.reduceLeDiff, Int.reduceLT, Int.reduceLE, Int.reduceAdd, Int.reduceSub, Int.reduceNeg, Int.reduceMul, Int.reduceEq, Int.reduceToNat, nilA, moveA, live, loadA, rdA, storeA, wrA, intA, elemA, lenA, appA, srcA, isPtr, isNilPtr, partA, resOf, sliceA, cut, id, ap2, reduceIte, concs, chkB, geB, AOp.cls, AOp.xs, ltB, ltC, Nat.reduceBEq, Option.toList, List.cons_append, decide_eq_true, decide_eq_false, if_pos, if_neg, List.length_map, pA_at, iA_at, List.cons_append, bVb, bVn, eq_self, Bool.and_self, BEq.rfl, not_true_eq_false, b32e, b32n, decide_true, decide_false, not_false_eq_true, hne]; (first | ((with_reducible refine hK _ ?_); clear hK K) | ((with_reducible refine hK ?_); clear hK hK3 K hK2) | ((with_reducible refine hK3 ?_); clear hK hK3 K hK2))) | ((first | with_reducible refine ret_h fun K hK => ?_ | with_reducible refine ret_hh rfl fun K hK => ?_ | with_reducible refine ret_pp fun K hK => ?_); simp (disch := omega) only [bg0, bg1, bg2, bg3, bg4, stepO, rsAs, eff, AX.ev, St.put, binA, conc, ap1, ofVal, Int.reduceTMod, Int.reduceTDiv, reduceCtorEq, fillA, AV.cells, AV.fine, AV.one, Nat.reduceAdd, Nat.reduceSub, Nat.reduceMul, Nat.reduceLT, Nat.reduceLeDiff, Int.reduceLT, Int.reduceLE, Int.reduceAdd, Int.reduceSub, Int.reduceNeg, Int.reduceMul, Int.reduceEq, Int.reduceToNat, nilA, moveA, live, loadA, rdA, storeA, wrA, intA, elemA, lenA, appA, srcA, isPtr, isNilPtr, partA, resOf, sliceA, cut, id, ap2, reduceIte, concs, chkB, geB, AOp.cls, AOp.xs, ltB, ltC, Nat.reduceBEq, Option.toList, List.cons_append, decide_eq_true, decide_eq_false, if_pos, if_neg, List.length_map, pA_at, iA_at, List.cons_append, bVb, bVn, eq_self, Bool.and_self, BEq.rfl, not_true_eq_false, b32e, b32n, decide_true, decide_false, not_false_eq_true, hne]; (first | ((with_reducible refine hK _ ?_ ?_ ?_ ?_); rotate_left 2; rfl; rfl) | ((with_reducible refine hK _ ?_); rfl))))
  subst hne
  by_cases hne : sz = sz'
  case neg =>
    obtain rfl : r = false := by rw [hr]; simp [hne]
    repeat (first | with_reducible refine w_seq ?_ | with_reducible refine w_reg ?_ | with_reducible refine ws_nil ?_ | with_reducible refine q_then ?_ | with_reducible refine w_ret ?_ | with_reducible refine q_then_r ?_ | ((with_reducible refine kgs_t ?_ ?_); rfl) | ((with_reducible refine kgs_f ?_ ?_); rfl) | ((first | with_reducible refine ks fun K hK => ?_ | with_reducible refine kd fun K hK => ?_ | with_reducible refine kc fun K hK2 hK hK3 => ?_); simp (disch := omega) only [bg0, bg1, bg2, bg3, bg4, stepO, rsAs, eff, AX.ev, St.put, binA, conc, ap1, ofVal, Int.reduceTMod, Int.reduceTDiv, reduceCtorEq, fillA, AV.cells, AV.fine, AV.one, Nat.reduceAdd, Nat.reduceSub, Nat.reduceMul, Nat.reduceLT, Nat.reduceLeDiff, Int.reduceLT, Int.reduceLE, Int.reduceAdd, Int.reduceSub, Int.reduceNeg, Int.reduceMul, Int.reduceEq, Int.reduceToNat, nilA, moveA, live, loadA, rdA, storeA, wrA, intA, elemA, lenA, appA, srcA, isPtr, isNilPtr, partA, resOf, sliceA, cut, id, ap2, reduceIte, concs, chkB, geB, AOp.cls, AOp.xs, ltB, ltC, Nat.reduceBEq, Option.toList, List.cons_append, decide_eq_true, decide_eq_false, if_pos, if_neg, List.length_map, pA_at, iA_at, List.cons_append, bVb, bVn, eq_self, Bool.and_self, BEq.rfl, not_true_eq_false, b32e, b32n, decide_true, decide_false, not_false_eq_true, hne]; (first | ((with_reducible refine hK _ ?_); clear hK K) | ((with_reducible refine hK ?_); clear hK hK3 K hK2) | ((with_reducible refine hK3 ?_); clear hK hK3 K hK2))) | ((first | with_reducible refine ret_h fun K hK => ?_ | with_reducible refine ret_hh rfl fun K hK => ?_ | with_reducible refine ret_pp fun K hK => ?_); simp (disch := omega) only [bg0, bg1, bg2, bg3, bg4, stepO, rsAs, eff, AX.ev, St.put, binA, conc, ap1, ofVal, Int.reduceTMod, Int.reduceTDiv, reduceCtorEq, fillA, AV.cells, AV.fine, AV.one, Nat.reduceAdd, Nat.reduceSub, Nat.reduceMul, Nat.reduceLT, Nat.reduceLeDiff, Int.reduceLT, Int.reduceLE, Int.reduceAdd, Int.reduceSub, Int.reduceNeg, Int.reduceMul, Int.reduceEq, Int.reduceToNat, nilA, moveA, live, loadA, rdA, storeA, wrA, intA, elemA, lenA, appA, srcA, isPtr, isNilPtr, partA, resOf, sliceA, cut, id, ap2, reduceIte, concs, chkB, geB, AOp.cls, AOp.xs, ltB, ltC, Nat.reduceBEq, Option.toList, List.cons_append, decide_eq_true, decide_eq_false, if_pos, if_neg, List.length_map, pA_at, iA_at, List.cons_append, bVb, bVn, eq_self, Bool.and_self, BEq.rfl, not_true_eq_false, b32e, b32n, decide_true, decide_false, not_false_eq_true, hne]; (first | ((with_reducible refine hK _ ?_ ?_ ?_ ?_); rotate_left 2; rfl; rfl) | ((with_reducible refine hK _ ?_); rfl))))
  subst hne
  by_cases hne : bi = bi'
  case neg =>
    obtain rfl : r = false := by rw [hr]; simp [hne]
    repeat (first | with_reducible refine w_seq ?_ | with_reducible refine w_reg ?_ | with_reducible refine ws_nil ?_ | with_reducible refine q_then ?_ | with_reducible refine w_ret ?_ | with_reducible refine q_then_r ?_ | ((with_reducible refine kgs_t ?_ ?_); rfl) | ((first | with_reducible refine ks fun K hK => ?_ | with_reducible refine kd fun K hK => ?_ | with_reducible refine kc fun K hK2 hK hK3 => ?_); simp (disch := omega) only [bg0, bg1, bg2, bg3, bg4, stepO, rsAs, eff, AX.ev, St.put, binA, conc, ap1, ofVal, Int.reduceTMod, Int.reduceTDiv, reduceCtorEq, fillA, AV.cells, AV.fine, AV.one, Nat.reduceAdd, Nat.reduceSub, Nat.reduceMul, Nat.reduceLT, Nat.reduceLeDiff, Int.reduceLT, Int.reduceLE, Int.reduceAdd, Int.reduceSub, Int.reduceNeg, Int.reduceMul, Int.reduceEq, Int.reduceToNat, nilA, moveA, live, loadA, rdA, storeA, wrA, intA, elemA, lenA, appA, srcA, isPtr, isNilPtr, partA, resOf, sliceA, cut, id, ap2, reduceIte, concs, chkB, geB, AOp.cls, AOp.xs, ltB, ltC, Nat.reduceBEq, Option.toList, List.cons_append, decide_eq_true, decide_eq_false, if_pos, if_neg, List.length_map, pA_at, iA_at, List.cons_append, bVb, bVn, eq_self, Bool.and_self, BEq.rfl, not_true_eq_false, b32e, b32n, decide_true, decide_false, not_false_eq_true, hne]; (first | ((with_reducible refine hK _ ?_); clear hK K) | ((with_reducible refine hK ?_); clear hK hK3 K hK2) | ((with_reducible refine hK3 ?_); clear hK hK3 K hK2))) | ((first | with_reducible refine ret_h fun K hK => ?_ | with_reducible refine ret_hh rfl fun K hK => ?_ | with_reducible refine ret_pp fun K hK => ?_); simp (disch := omega) only [bg0, bg1, bg2, bg3, bg4, stepO, rsAs, eff, AX.ev, St.put, binA, conc, ap1, ofVal, Int.reduceTMod, Int.reduceTDiv, reduceCtorEq, fillA, AV.cells, AV.fine, AV.one, Nat.reduceAdd, Nat.reduceSub, Nat.reduceMul, Nat.reduceLT, Nat.reduceLeDiff, Int.reduceLT, Int.reduceLE, Int.reduceAdd, Int.reduceSub, Int.reduceNeg, Int.reduceMul, Int.reduceEq, Int.reduceToNat, nilA, moveA, live, loadA, rdA, storeA, wrA, intA, elemA, lenA, appA, srcA, isPtr, isNilPtr, partA, resOf, sliceA, cut, id, ap2, reduceIte, concs, chkB, geB, AOp.cls, AOp.xs, ltB, ltC, Nat.reduceBEq, Option.toList, List.cons_append, decide_eq_true, decide_eq_false, if_pos, if_neg, List.length_map, pA_at, iA_at, List.cons_append, bVb, bVn, eq_self, Bool.and_self, BEq.rfl, not_true_eq_false, b32e, b32n, decide_true, decide_false, not_false_eq_true, hne]; (first | ((with_reducible refine hK _ ?_ ?_ ?_ ?_); rotate_left 2; rfl; rfl) | ((with_reducible refine hK _ ?_); rfl))))
  subst hne
  by_cases hne : kk = kk'
  case neg =>
    obtain rfl : r = false := by rw [hr]; simp [hne]
    repeat (first | with_reducible refine w_seq ?_ | with_reducible refine w_reg ?_ | with_reducible refine w_skip ?_ | with_reducible refine ws_nil ?_ | with_reducible refine q_then ?_ | with_reducible refine w_ret ?_ | ((with_reducible refine kgs_t ?_ ?_); rfl) | ((with_reducible refine kgs_f ?_ ?_); rfl) | ((first | with_reducible refine ks fun K hK => ?_ | with_reducible refine kd fun K hK => ?_ | with_reducible refine kc fun K hK2 hK hK3 => ?_); simp (disch := omega) only [bg0, bg1, bg2, bg3, bg4, stepO, rsAs, eff, AX.ev, St.put, binA, conc, ap1, ofVal, Int.reduceTMod, Int.reduceTDiv, reduceCtorEq, fillA, AV.cells, AV.fine, AV.one, Nat.reduceAdd, Nat.reduceSub, Nat.reduceMul, Nat.reduceLT, Nat.reduceLeDiff, Int.reduceLT, Int.reduceLE, Int.reduceAdd, Int.reduceSub, Int.reduceNeg, Int.reduceMul, Int.reduceEq, Int.reduceToNat, nilA, moveA, live, loadA, rdA, storeA, wrA, intA, elemA, lenA, appA, srcA, isPtr, isNilPtr, partA, resOf, sliceA, cut, id, ap2, reduceIte, concs, chkB, geB, AOp.cls, AOp.xs, ltB, ltC, Nat.reduceBEq, Option.toList, List.cons_append, decide_eq_true, decide_eq_false, if_pos, if_neg, List.length_map, pA_at, iA_at, List.cons_append, bVb, bVn, eq_self, Bool.and_self, BEq.rfl, not_true_eq_false, b32e, b32n, decide_true, decide_false, not_false_eq_true, hne]; (first | ((with_reducible refine hK _ ?_); clear hK K) | ((with_reducible refine hK ?_); clear hK hK3 K hK2) | ((with_reducible refine hK3 ?_); clear hK hK3 K hK2))) | ((with_reducible refine kps 27 ?_ ?_ ?_ ?_); rotate_left 1; rfl; exact (by refine eq23 G _ _ ?_ ?_ _ rfl <;> assumption)) | ((first | with_reducible refine ret_h fun K hK => ?_ | with_reducible refine ret_hh rfl fun K hK => ?_ | with_reducible refine ret_pp fun K hK => ?_); simp (disch := omega) only [bg0, bg1, bg2, bg3, bg4, stepO, rsAs, eff, AX.ev, St.put, binA, conc, ap1, ofVal, Int.reduceTMod, Int.reduceTDiv, reduceCtorEq, fillA, AV.cells, AV.fine, AV.one, Nat.reduceAdd, Nat.reduceSub, Nat.reduceMul, Nat.reduceLT, Nat.reduceLeDiff, Int.reduceLT, Int.reduceLE, Int.reduceAdd, Int.reduceSub, Int.reduceNeg, Int.reduceMul, Int.reduceEq, Int.reduceToNat, nilA, moveA, live, loadA, rdA, storeA, wrA, intA, elemA, lenA, appA, srcA, isPtr, isNilPtr, partA, resOf, sliceA, cut, id, ap2, reduceIte, concs, chkB, geB, AOp.cls, AOp.xs, ltB, ltC, Nat.reduceBEq, Option.toList, List.cons_append, decide_eq_true, decide_eq_false, if_pos, if_neg, List.length_map, pA_at, iA_at, List.cons_append, bVb, bVn, eq_self, Bool.and_self, BEq.rfl, not_true_eq_false, b32e, b32n, decide_true, decide_false, not_false_eq_true, hne]; (first | ((with_reducible refine hK _ ?_ ?_ ?_ ?_); rotate_left 2; rfl; rfl) | ((with_reducible refine hK _ ?_); rfl))))
  subst hne
  by_cases hne : ls = ls'
  case neg =>
    obtain rfl : r = false := by rw [hr]; simp [hne]
    repeat (first | with_reducible refine w_seq ?_ | with_reducible refine w_reg ?_ | with_reducible refine w_skip ?_ | with_reducible refine ws_nil ?_ | with_reducible refine q_then ?_ | with_reducible refine w_ret ?_ | ((with_reducible refine kgs_t ?_ ?_); rfl) | ((first | with_reducible refine ks fun K hK => ?_ | with_reducible refine kd fun K hK => ?_ | with_reducible refine kc fun K hK2 hK hK3 => ?_); simp (disch := omega) only [bg0, bg1, bg2, bg3, bg4, stepO, rsAs, eff, AX.ev, St.put, binA, conc, ap1, ofVal, Int.reduceTMod, Int.reduceTDiv, reduceCtorEq, fillA, AV.cells, AV.fine, AV.one, Nat.reduceAdd, Nat.reduceSub, Nat.reduceMul, Nat.reduceLT, Nat.reduceLeDiff, Int.reduceLT, Int.reduceLE, Int.reduceAdd, Int.reduceSub, Int.reduceNeg, Int.reduceMul, Int.reduceEq, Int.reduceToNat, nilA, moveA, live, loadA, rdA, storeA, wrA, intA, elemA, lenA, appA, srcA, isPtr, isNilPtr, partA, resOf, sliceA, cut, id, ap2, reduceIte, concs, chkB, geB, AOp.cls, AOp.xs, ltB, ltC, Nat.reduceBEq, Option.toList, List.cons_append, decide_eq_true, decide_eq_false, if_pos, if_neg, List.length_map, pA_at, iA_at, List.cons_append, bVb, bVn, eq_self, Bool.and_self, BEq.rfl, not_true_eq_false, b32e, b32n, decide_true, decide_false, not_false_eq_true, hne]; (first | ((with_reducible refine hK _ ?_); clear hK K) | ((with_reducible refine hK ?_); clear hK hK3 K hK2) | ((with_reducible refine hK3 ?_); clear hK hK3 K hK2))) | ((with_reducible refine kps 27 ?_ ?_ ?_ ?_); rotate_left 1; rfl; exact (by refine eq23 G _ _ ?_ ?_ _ rfl <;> assumption)) | ((with_reducible refine kps 28 ?_ ?_ ?_ ?_); rotate_left 1; rfl; exact (by refine eq26 G _ _ ?_ ?_ _ rfl <;> assumption)) | ((first | with_reducible refine ret_h fun K hK => ?_ | with_reducible refine ret_hh rfl fun K hK => ?_ | with_reducible refine ret_pp fun K hK => ?_); simp (disch := omega) only [bg0, bg1, bg2, bg3, bg4, stepO, rsAs, eff, AX.ev, St.put, binA, conc, ap1, ofVal, Int.reduceTMod, Int.reduceTDiv, reduceCtorEq, fillA, AV.cells, AV.fine, AV.one, Nat.reduceAdd, Nat.reduceSub, Nat.reduceMul, Nat.reduceLT, Nat.reduceLeDiff, Int.reduceLT, Int.reduceLE, Int.reduceAdd, Int.reduceSub, Int.reduceNeg, Int.reduceMul, Int.reduceEq, Int.reduceToNat, nilA, moveA, live, loadA, rdA, storeA, wrA, intA, elemA, lenA, appA, srcA, isPtr, isNilPtr, partA, resOf, sliceA, cut, id, ap2, reduceIte, concs, chkB, geB, AOp.cls, AOp.xs, ltB, ltC, Nat.reduceBEq, Option.toList, List.cons_append, decide_eq_true, decide_eq_false, if_pos, if_neg, List.length_map, pA_at, iA_at, List.cons_append, bVb, bVn, eq_self, Bool.and_self, BEq.rfl, not_true_eq_false, b32e, b32n, decide_true, decide_false, not_false_eq_true, hne]; (first | ((with_reducible refine hK _ ?_ ?_ ?_ ?_); rotate_left 2; rfl; rfl) | ((with_reducible refine hK _ ?_); rfl))))
  subst hne
  obtain rfl : r = true := by rw [hr]; simp
  repeat (first | with_reducible refine w_seq ?_ | with_reducible refine w_reg ?_ | with_reducible refine w_skip ?_ | with_reducible refine ws_nil ?_ | with_reducible refine q_then ?_ | with_reducible refine w_ret ?_ | ((with_reducible refine kgs_t ?_ ?_); rfl) | ((first | with_reducible refine ks fun K hK => ?_ | with_reducible refine kd fun K hK => ?_ | with_reducible refine kc fun K hK2 hK hK3 => ?_); simp (disch := omega) only [bg0, bg1, bg2, bg3, bg4, stepO, rsAs, eff, AX.ev, St.put, binA, conc, ap1, ofVal, Int.reduceTMod, Int.reduceTDiv, reduceCtorEq, fillA, AV.cells, AV.fine, AV.one, Nat.reduceAdd, Nat.reduceSub, Nat.reduceMul, Nat.reduceLT, Nat.reduceLeDiff, Int.reduceLT, Int.reduceLE, Int.reduceAdd, Int.reduceSub, Int.reduceNeg, Int.reduceMul, Int.reduceEq, Int.reduceToNat, nilA, moveA, live, loadA, rdA, storeA, wrA, intA, elemA, lenA, appA, srcA, isPtr, isNilPtr, partA, resOf, sliceA, cut, id, ap2, reduceIte, concs, chkB, geB, AOp.cls, AOp.xs, ltB, ltC, Nat.reduceBEq, Option.toList, List.cons_append, decide_eq_true, decide_eq_false, if_pos, if_neg, List.length_map, pA_at, iA_at, List.cons_append, bVb, bVn, eq_self, Bool.and_self, BEq.rfl, not_true_eq_false, b32e, b32n, decide_true, decide_false, not_false_eq_true]; (first | ((with_reducible refine hK _ ?_); clear hK K) | ((with_reducible refine hK ?_); clear hK hK3 K hK2) | ((with_reducible refine hK3 ?_); clear hK hK3 K hK2))) | ((with_reducible refine kps 27 ?_ ?_ ?_ ?_); rotate_left 1; rfl; exact (by refine eq23 G _ _ ?_ ?_ _ rfl <;> assumption)) | ((with_reducible refine kps 28 ?_ ?_ ?_ ?_); rotate_left 1; rfl; exact (by refine eq26 G _ _ ?_ ?_ _ rfl <;> assumption)) | ((first | with_reducible refine ret_h fun K hK => ?_ | with_reducible refine ret_hh rfl fun K hK => ?_ | with_reducible refine ret_pp fun K hK => ?_); simp (disch := omega) only [bg0, bg1, bg2, bg3, bg4, stepO, rsAs, eff, AX.ev, St.put, binA, conc, ap1, ofVal, Int.reduceTMod, Int.reduceTDiv, reduceCtorEq, fillA, AV.cells, AV.fine, AV.one, Nat.reduceAdd, Nat.reduceSub, Nat.reduceMul, Nat.reduceLT, Nat.reduceLeDiff, Int.reduceLT, Int.reduceLE, Int.reduceAdd, Int.reduceSub, Int.reduceNeg, Int.reduceMul, Int.reduceEq, Int.reduceToNat, nilA, moveA, live, loadA, rdA, storeA, wrA, intA, elemA, lenA, appA, srcA, isPtr, isNilPtr, partA, resOf, sliceA, cut, id, ap2, reduceIte, concs, chkB, geB, AOp.cls, AOp.xs, ltB, ltC, Nat.reduceBEq, Option.toList, List.cons_append, decide_eq_true, decide_eq_false, if_pos, if_neg, List.length_map, pA_at, iA_at, List.cons_append, bVb, bVn, eq_self, Bool.and_self, BEq.rfl, not_true_eq_false, b32e, b32n, decide_true, decide_false, not_false_eq_true]; (first | ((with_reducible refine hK _ ?_ ?_ ?_ ?_); rotate_left 2; rfl; rfl) | ((with_reducible refine hK _ ?_); rfl))))
end Go.Proofs.Ytfdfmhapcjckoaa.Sim
namespace Go.Proofs.Ytfdfmhapcjckoaa.Sim
open Go.RowKit
set_option maxRecDepth 100000
theorem same13r (G : Nat → AV) (kn : Int) (ke va : ByteArray) (mp : Int) (kk : List Int) (mn : Int) (ls : List Pr) (sz bi : Int) (h1 : ke.size ≤ 9223372036854775807) (h2 : va.size ≤ 9223372036854775807) (h3 : kk.length ≤ 9223372036854775807) (h4 : ls.length ≤ 9223372036854775807) : PC Try.prog G 12 [nV kn ke va mp kk mn ls sz bi, nV kn ke va mp kk mn ls sz bi] (Bo true) :=
  same13 G _ _ _ _ _ _ _ _ _ _ _ _ _ _ _ _ _ _ h1 h1 h2 h2 h3 h3 h4 h4 true (by simp)
theorem leaf14 (G : Nat → AV) (k v : ByteArray) : PC Try.prog G 45 [S k, S v] (nV 1 k v 0 [] 0 [] 1 0) := by
  refine pc_ofV cop45 ?_
  repeat' ((conv => whnf); first | (with_reducible refine SeqP.go ?_) | ((with_reducible refine ObD.mk ?_ ?_); (focus (first | rfl | (simp; done)))) | ((with_reducible refine ObN.mk ?_ ?_); (focus (first | rfl | assumption | omega | (simp only [List.length_map, List.length_append, List.length_cons, List.length_nil]; omega) | (simp; done) | (simp; omega)))) | ((with_reducible refine (?_ : ObU _ _)); (refine ObU.mk _ (by first | assumption | ((conv => lhs; simp only [List.set_cons_zero, List.set_cons_succ, List.take_succ_cons, List.take_zero, List.drop_succ_cons, List.drop_zero, List.nil_append, List.cons_append, List.append_nil, List.take_nil, List.drop_nil]); try rfl) | rfl) ?_)) | ((with_reducible refine (?_ : ObR _ _ _)); (first | (refine ObR.mk _ (by assumption) ?_) | (refine ObR.mk _ (by with_reducible rfl) ?_) | (refine ObR.map (by (first | omega | assumption | (simp only [List.length_map, List.length_append, List.length_cons, List.length_nil, List.length_take, List.length_drop, List.length_set, List.length_replicate]; omega))) (fun x hx => ?_)) | (refine ObR.mk _ rfl ?_))) | ((with_reducible refine ObEq.mk ?_); (focus (first | rfl | assumption))))
theorem tomb15 (G : Nat → AV) (k v : ByteArray) : PC Try.prog G 46 [S k, S v] (nV 6 k v 0 [] 0 [] 1 0) := by
  refine pc_ofV cop46 ?_
  repeat' ((conv => whnf); first | (with_reducible refine SeqP.go ?_) | ((with_reducible refine ObD.mk ?_ ?_); (focus (first | rfl | (simp; done)))) | ((with_reducible refine ObN.mk ?_ ?_); (focus (first | rfl | assumption | omega | (simp only [List.length_map, List.length_append, List.length_cons, List.length_nil]; omega) | (simp; done) | (simp; omega)))) | ((with_reducible refine (?_ : ObU _ _)); (refine ObU.mk _ (by first | assumption | ((conv => lhs; simp only [List.set_cons_zero, List.set_cons_succ, List.take_succ_cons, List.take_zero, List.drop_succ_cons, List.drop_zero, List.nil_append, List.cons_append, List.append_nil, List.take_nil, List.drop_nil]); try rfl) | rfl) ?_)) | ((with_reducible refine (?_ : ObR _ _ _)); (first | (refine ObR.mk _ (by assumption) ?_) | (refine ObR.mk _ (by with_reducible rfl) ?_) | (refine ObR.map (by (first | omega | assumption | (simp only [List.length_map, List.length_append, List.length_cons, List.length_nil, List.length_take, List.length_drop, List.length_set, List.length_replicate]; omega))) (fun x hx => ?_)) | (refine ObR.mk _ rfl ?_))) | ((with_reducible refine ObEq.mk ?_); (focus (first | rfl | assumption))))
theorem inner17 (G : Nat → AV) (a : Int) : PC Try.prog G 49 [I a] (nV 5 ⟨#[]⟩ ⟨#[]⟩ 0 [] a [] 0 0) := by
  refine pc_ofV cop49 ?_
  repeat' ((conv => whnf); first | (with_reducible refine SeqP.go ?_) | ((with_reducible refine ObD.mk ?_ ?_); (focus (first | rfl | (simp; done)))) | ((with_reducible refine ObN.mk ?_ ?_); (focus (first | rfl | assumption | omega | (simp only [List.length_map, List.length_append, List.length_cons, List.length_nil]; omega) | (simp; done) | (simp; omega)))) | ((with_reducible refine (?_ : ObU _ _)); (refine ObU.mk _ (by first | assumption | ((conv => lhs; simp only [List.set_cons_zero, List.set_cons_succ, List.take_succ_cons, List.take_zero, List.drop_succ_cons, List.drop_zero, List.nil_append, List.cons_append, List.append_nil, List.take_nil, List.drop_nil]); try rfl) | rfl) ?_)) | ((with_reducible refine (?_ : ObR _ _ _)); (first | (refine ObR.mk _ (by assumption) ?_) | (refine ObR.mk _ (by with_reducible rfl) ?_) | (refine ObR.map (by (first | omega | assumption | (simp only [List.length_map, List.length_append, List.length_cons, List.length_nil, List.length_take, List.length_drop, List.length_set, List.length_replicate]; omega))) (fun x hx => ?_)) | (refine ObR.mk _ rfl ?_))) | ((with_reducible refine ObEq.mk ?_); (focus (first | rfl | assumption))))
theorem bucket18 (G : Nat → AV) (l m : List Pr) (h : PC Try.prog G 56 [.sl 2 (l.map pA)] (.sl 2 (m.map pA))) : PC Try.prog G 48 [.sl 2 (l.map pA)] (nV 3 ⟨#[]⟩ ⟨#[]⟩ 0 [] 0 m m.length 0) := by
  refine pc_ofV cop48 ?_
  repeat' ((conv => whnf); first | (with_reducible refine SeqP.go ?_) | ((with_reducible refine ObD.mk ?_ ?_); (focus (first | rfl | (simp; done)))) | ((with_reducible refine ObN.mk ?_ ?_); (focus (first | rfl | assumption | omega | (simp only [List.length_map, List.length_append, List.length_cons, List.length_nil]; omega) | (simp; done) | (simp; omega)))) | ((with_reducible refine (?_ : ObL _ _)); (refine ObL.mk _ (by first | exact (List.length_map _) | assumption | exact (List.length_map _).trans (by assumption) | exact List.length_map _ | rfl) ?_)) | ((with_reducible refine (?_ : ObU _ _)); (refine ObU.mk _ (by first | assumption | ((conv => lhs; simp only [List.set_cons_zero, List.set_cons_succ, List.take_succ_cons, List.take_zero, List.drop_succ_cons, List.drop_zero, List.nil_append, List.cons_append, List.append_nil, List.take_nil, List.drop_nil]); try rfl) | rfl) ?_)) | ((with_reducible refine (?_ : ObR _ _ _)); (first | (refine ObR.mk _ (by assumption) ?_) | (refine ObR.mk _ (by with_reducible rfl) ?_) | (refine ObR.map (by (first | omega | assumption | (simp only [List.length_map, List.length_append, List.length_cons, List.length_nil, List.length_take, List.length_drop, List.length_set, List.length_replicate]; omega))) (fun x hx => ?_)) | (refine ObR.mk _ rfl ?_))) | ((with_reducible refine ObC.f 56 ?_); (first | (with_reducible refine ObC.mk _ (h) ?_) | (refine ObC.mk _ (h) ?_))) | ((with_reducible refine ObEq.mk ?_); (focus (first | rfl | assumption | exact (by simp [nV])))))
theorem branch20 (G : Nat → AV) (mp : Int) (kk : List Int) (s : Int) (hk : kk.length ≤ 40) : PC Try.prog G 39 [.v (.int .u32 mp), .sl 1 (kk.map iA), I s] (nV 2 ⟨#[]⟩ ⟨#[]⟩ mp kk 0 [] s 0) := by
  have h := copy37 G kk hk
  refine pc_ofV cop39 ?_
  repeat' ((conv => whnf); first | (with_reducible refine SeqP.go ?_) | ((with_reducible refine ObD.mk ?_ ?_); (focus (first | rfl | (simp; done)))) | ((with_reducible refine ObN.mk ?_ ?_); (focus (first | rfl | assumption | omega | (simp only [List.length_map, List.length_append, List.length_cons, List.length_nil]; omega) | (simp; done) | (simp; omega)))) | ((with_reducible refine (?_ : ObU _ _)); (refine ObU.mk _ (by first | assumption | ((conv => lhs; simp only [List.set_cons_zero, List.set_cons_succ, List.take_succ_cons, List.take_zero, List.drop_succ_cons, List.drop_zero, List.nil_append, List.cons_append, List.append_nil, List.take_nil, List.drop_nil]); try rfl) | rfl) ?_)) | ((with_reducible refine (?_ : ObR _ _ _)); (first | (refine ObR.mk _ (by assumption) ?_) | (refine ObR.mk _ (by with_reducible rfl) ?_) | (refine ObR.map (by (first | omega | assumption | (simp only [List.length_map, List.length_append, List.length_cons, List.length_nil, List.length_take, List.length_drop, List.length_set, List.length_replicate]; omega))) (fun x hx => ?_)) | (refine ObR.mk _ rfl ?_))) | ((with_reducible refine ObC.f 53 ?_); (first | (with_reducible refine ObC.mk _ (h) ?_) | (refine ObC.mk _ (h) ?_))) | ((with_reducible refine ObEq.mk ?_); (focus (first | rfl | assumption))))
theorem hMake (G : Nat → AV) (L : List Pr) (h40 : L.length ≤ 40) (hs : ∀ p ∈ L, p.1.size ≤ 40 ∧ p.2.size ≤ 40) : (Pr7.mk L).length ≤ 40 ∧ PC Try.prog G 56 [.sl 2 (L.map pA)] (.sl 2 ((Pr7.mk L).map pA)) ∧ True := by
  have hL : Pr7.Okl L := ⟨by omega, fun p hp => by have := hs p hp; omega⟩
  have h1 := Pr7.mk_len L
  exact ⟨by omega, Pr7.make14 G (fun g n P A B R N a m b => Pr7.sym44 _ g n P A B R N a m b) L h40 hL, trivial⟩
end Go.Proofs.Ytfdfmhapcjckoaa.Sim
namespace Go.Proofs.Ytfdfmhapcjckoaa.Sim
open Go.RowKit
set_option maxRecDepth 100000
theorem node_invB {cs : List AV} (h : ShC Try.prog 27 cs) : ∃ (kn : Int) (ke va : ByteArray) (mp : Nat) (kk : List Int) (mn : Int) (ls : List Pr) (sz bi : Int), mp < 4294967296 ∧ mkE true cs = nV kn ke va (mp : Int) kk mn ls sz bi ∧ ke.size ≤ 9223372036854775807 ∧ va.size ≤ 9223372036854775807 ∧ kk.length ≤ 9223372036854775807 ∧ ls.length ≤ 9223372036854775807 ∧ ∀ p ∈ ls, p.1.size ≤ 9223372036854775807 ∧ p.2.size ≤ 9223372036854775807 := by
  have i1 : (Try.prog).underlying 3 = some (.int .i64) := by kernel_rfl
  have i2 : (Try.prog).underlying 24 = some (.int .i64) := by kernel_rfl
  have e1 : isAggT Try.prog 24 = false := by kernel_rfl
  have e2 : isAggT Try.prog 62 = true := by kernel_rfl
  have e3 : (Try.prog).cellsOf 24 = 1 := by kernel_rfl
  have e4 : (Try.prog).cellsOf 62 = 2 := by kernel_rfl
  obtain ⟨p0, q, rfl, hp0, h⟩ := (h.flds (ts := [3, 9, 9, 22, 23, 24, 25, 3, 3]) (by kernel_rfl)).cons
  obtain ⟨p1, q, rfl, hp1, h⟩ := h.cons
  obtain ⟨p2, q, rfl, hp2, h⟩ := h.cons
  obtain ⟨p3, q, rfl, hp3, h⟩ := h.cons
  obtain ⟨p4, q, rfl, hp4, h⟩ := h.cons
  obtain ⟨p5, q, rfl, hp5, h⟩ := h.cons
  obtain ⟨p6, q, rfl, hp6, h⟩ := h.cons
  obtain ⟨p7, q, rfl, hp7, h⟩ := h.cons
  obtain ⟨p8, q, rfl, hp8, h⟩ := h.cons
  obtain rfl := h.nil
  obtain ⟨kn, rfl, _⟩ := hp0.i64_inv i1
  obtain ⟨ke, rfl, hke⟩ := hp1.str_inv u_str
  obtain ⟨va, rfl, hva⟩ := hp2.str_inv u_str
  obtain ⟨mp0, rfl, hm0, hm1⟩ := hp3.u32_inv (by kernel_rfl)
  obtain ⟨mp, rfl⟩ := Int.eq_ofNat_of_zero_le hm0
  obtain ⟨css, rfl, hk, hkk⟩ := hp4.slice_inv (e := 24) (by kernel_rfl)
  obtain ⟨kk, rfl⟩ := pick_list (f := fun n : Int => [I n]) (fun cs h => by obtain ⟨n, e, _⟩ := h.i64_inv i2; exact ⟨n, e⟩) css hkk
  obtain ⟨mn, rfl, _⟩ := hp5.i64_inv i2
  obtain ⟨dss, rfl, hl, hll⟩ := hp6.slice_inv (e := 62) (by kernel_rfl)
  obtain ⟨ls, rfl⟩ := pick_list (f := pC) (fun cs h => pair_inv h) dss hll
  obtain ⟨sz, rfl, _⟩ := hp7.i64_inv i1
  obtain ⟨bi, rfl, _⟩ := hp8.i64_inv i1
  have g1 : (List.map (fun n : Int => [I n]) kk).map (mkE (isAggT Try.prog 24)) = kk.map iA := by rw [e1, List.map_map]; rfl
  have g2 : (List.map pC ls).map (mkE (isAggT Try.prog 62)) = (ls.map Subtype.val).map pA := by rw [e2, List.map_map, List.map_map]; rfl
  refine ⟨kn, ke, va, mp, kk, mn, ls.map Subtype.val, sz, bi, by omega, ?_, hke, hva, by simpa using hk, by simpa using hl, ?_⟩
  · rw [g1, g2, e3, e4]; rfl
  · intro p hp
    obtain ⟨q, _, rfl⟩ := List.mem_map.1 hp
    exact q.2
end Go.Proofs.Ytfdfmhapcjckoaa.Sim
namespace Go.Proofs.Ytfdfmhapcjckoaa.Sim
open Go.RowKit
set_option maxRecDepth 100000
theorem cnt43 (G : Nat → AV) (m : Nat) (hm : m < 4294967296) : PC Try.prog G 30 [.v (.int .u32 (m : Int))] (I ((upI m 32).length : Nat)) := by
  have h := pop53 G m hm
  have e : (Mk.all m).length = (upI m 32).length := by simp [upI, Mk.all]
  rw [e] at h
  refine pc_ofV cop30 ?_
  repeat' ((conv => whnf); first | (with_reducible refine SeqP.go ?_) | ((with_reducible refine ObC.f 43 ?_); (first | (with_reducible refine ObC.mk _ (h) ?_) | (refine ObC.mk _ (h) ?_))) | ((with_reducible refine ObEq.i ?_); (focus (first | (with_reducible rfl) | omega))))
theorem lenP {α : Type} {l : List α} : (0 : Int) < (l.length : Nat) ↔ ¬ l = [] := by cases l <;> simp
theorem lenZ {α : Type} {l : List α} : ((l.length : Nat) : Int) = 0 ↔ l = [] := by rw [← List.length_eq_zero_iff]; omega
theorem slt_mk {l : List Pr} : Pr7.SLt l ↔ l = Pr7.mk l := ⟨fun h => (Pr7.mk_of h).symm, fun h => by rw [h]; exact Pr7.mk_lt l⟩
set_option maxHeartbeats 4000000 in
theorem hasForm31 (G : Nat → AV) (kn : Int) (ke va : ByteArray) (mp : Nat) (kk : List Int) (mn : Int) (ls : List Pr) (sz bi : Int) (k1 : 1 ≤ kn) (k6 : kn ≤ 6) (hm : mp < 4294967296) (hke : ke.size ≤ 40) (hva : va.size ≤ 40) (hk : kk.length ≤ 40) (hl : ls.length ≤ 40) (hs : ∀ p ∈ ls, p.1.size ≤ 40 ∧ p.2.size ≤ 40) (r : Bool) (hr : r = true ↔ FormP kn ke va mp kk mn ls sz bi) :
    PC Try.prog G 35 [nV kn ke va (mp : Int) kk mn ls sz bi] (Bo r) := by
  have hkn : kn = 1 ∨ kn = 6 ∨ kn = 2 ∨ kn = 3 ∨ kn = 4 ∨ kn = 5 := by omega
  have z0 : ByteArray.size (ByteArray.mk #[]) ≤ 9223372036854775807 := by decide
  have l0 : ([] : List Int).length ≤ 9223372036854775807 := by simp
  have l1 : ([] : List Pr).length ≤ 9223372036854775807 := by simp
  rcases hkn with rfl | rfl | rfl | rfl | rfl | rfl
  · obtain ⟨q, hq⟩ : ∃ q, q = decide ((1 : Int) = 1 ∧ ke = ke ∧ va = va ∧ (mp : Int) = 0 ∧ kk = [] ∧ mn = 0 ∧ ls = [] ∧ sz = 1 ∧ bi = bi) := ⟨_, rfl⟩
    have h22 := same22 G 1 1 ke ke va va mp 0 kk [] mn 0 ls [] sz 1 bi bi (by omega) (by omega) (by omega) (by omega) (by omega) l0 (by omega) l1 q hq
    have hr' : r = true ↔ ¬ bi < 0 ∧ q = true := by rw [hr, hq]; simp [FormP, BareP, lenP, lenZ]; intros; constructor <;> (intros; simp_all)
    clear hr hq hs
    refine pc_ofV cop35 ?_
    repeat' ((conv => whnf); first | (with_reducible refine SeqP.go ?_) | ((with_reducible refine ObD.mk ?_ ?_); (focus (first | rfl | (simp; done)))) | ((with_reducible refine ObN.mk ?_ ?_); (focus (first | rfl | assumption | omega | (simp only [List.length_map, List.length_append, List.length_cons, List.length_nil]; omega) | (simp; done) | (simp; omega)))) | (with_reducible refine ObT.tt ?_) | (with_reducible refine ObT.ff ?_) | ((with_reducible refine ObB.yes ?_ ?_); (focus (first | assumption | (with_reducible rfl) | omega))) | (with_reducible refine ObB.mk (fun h => ?_) (fun h => ?_)) | ((with_reducible refine (?_ : ObU _ _)); (refine ObU.mk _ (by first | assumption | ((conv => lhs; simp only [List.set_cons_zero, List.set_cons_succ, List.take_succ_cons, List.take_zero, List.drop_succ_cons, List.drop_zero, List.nil_append, List.cons_append, List.append_nil, List.take_nil, List.drop_nil]); try rfl) | rfl) ?_)) | ((with_reducible refine (?_ : ObR _ _ _)); (first | (refine ObR.mk _ (by assumption) ?_) | (refine ObR.mk _ (by with_reducible rfl) ?_) | (refine ObR.map (by (first | omega | assumption | (simp only [List.length_map, List.length_append, List.length_cons, List.length_nil, List.length_take, List.length_drop, List.length_set, List.length_replicate]; omega))) (fun x hx => ?_)) | (refine ObR.mk _ rfl ?_))) | ((with_reducible refine ObC.f 45 ?_); (first | (with_reducible refine ObC.mk _ ((leaf14 G _ _)) ?_) | (refine ObC.mk _ ((leaf14 G _ _)) ?_))) | ((with_reducible refine ObC.f 50 ?_); (first | (with_reducible refine ObC.mk _ (h22) ?_) | (refine ObC.mk _ (h22) ?_))) | ((with_reducible refine ObEq.mk ?_); (focus (first | rfl | assumption | exact (by cases r <;> cases q <;> first | (simp_all; done) | (simp_all; omega))))))
  · obtain ⟨q, hq⟩ : ∃ q, q = decide ((6 : Int) = 6 ∧ ke = ke ∧ va = va ∧ (mp : Int) = 0 ∧ kk = [] ∧ mn = 0 ∧ ls = [] ∧ sz = 1 ∧ bi = bi) := ⟨_, rfl⟩
    have h22 := same22 G 6 6 ke ke va va mp 0 kk [] mn 0 ls [] sz 1 bi bi (by omega) (by omega) (by omega) (by omega) (by omega) l0 (by omega) l1 q hq
    have hr' : r = true ↔ ¬ bi < 0 ∧ q = true := by rw [hr, hq]; simp [FormP, BareP, lenP, lenZ]; intros; constructor <;> (intros; simp_all)
    clear hr hq hs
    refine pc_ofV cop35 ?_
    repeat' ((conv => whnf); first | (with_reducible refine SeqP.go ?_) | ((with_reducible refine ObD.mk ?_ ?_); (focus (first | rfl | (simp; done)))) | ((with_reducible refine ObN.mk ?_ ?_); (focus (first | rfl | assumption | omega | (simp only [List.length_map, List.length_append, List.length_cons, List.length_nil]; omega) | (simp; done) | (simp; omega)))) | (with_reducible refine ObT.tt ?_) | (with_reducible refine ObT.ff ?_) | ((with_reducible refine ObB.yes ?_ ?_); (focus (first | assumption | (with_reducible rfl) | omega))) | ((with_reducible refine ObB.no ?_ ?_); (focus (first | assumption | omega))) | (with_reducible refine ObB.mk (fun h => ?_) (fun h => ?_)) | ((with_reducible refine (?_ : ObU _ _)); (refine ObU.mk _ (by first | assumption | ((conv => lhs; simp only [List.set_cons_zero, List.set_cons_succ, List.take_succ_cons, List.take_zero, List.drop_succ_cons, List.drop_zero, List.nil_append, List.cons_append, List.append_nil, List.take_nil, List.drop_nil]); try rfl) | rfl) ?_)) | ((with_reducible refine (?_ : ObR _ _ _)); (first | (refine ObR.mk _ (by assumption) ?_) | (refine ObR.mk _ (by with_reducible rfl) ?_) | (refine ObR.map (by (first | omega | assumption | (simp only [List.length_map, List.length_append, List.length_cons, List.length_nil, List.length_take, List.length_drop, List.length_set, List.length_replicate]; omega))) (fun x hx => ?_)) | (refine ObR.mk _ rfl ?_))) | ((with_reducible refine ObC.f 46 ?_); (first | (with_reducible refine ObC.mk _ ((tomb15 G _ _)) ?_) | (refine ObC.mk _ ((tomb15 G _ _)) ?_))) | ((with_reducible refine ObC.f 50 ?_); (first | (with_reducible refine ObC.mk _ (h22) ?_) | (refine ObC.mk _ (h22) ?_))) | ((with_reducible refine ObEq.mk ?_); (focus (first | rfl | assumption | exact (by cases r <;> cases q <;> first | (simp_all; done) | (simp_all; omega))))))
  · obtain ⟨q, hq⟩ : ∃ q, q = decide ((2 : Int) = 2 ∧ ke = ByteArray.mk #[] ∧ va = ByteArray.mk #[] ∧ (mp : Int) = mp ∧ kk = kk ∧ mn = 0 ∧ ls = [] ∧ sz = sz ∧ bi = bi) := ⟨_, rfl⟩
    have h22 := same22 G 2 2 ke (ByteArray.mk #[]) va (ByteArray.mk #[]) mp mp kk kk mn 0 ls [] sz sz bi bi (by omega) z0 (by omega) z0 (by omega) (by omega) (by omega) l1 q hq
    have h43 := cnt43 G mp hm
    have h44 := has54 G kk (by omega) 0
    obtain ⟨q0, hq0⟩ : ∃ q0, q0 = decide ((0 : Int) ∈ kk) := ⟨_, rfl⟩
    rw [← hq0] at h44
    have hr' : r = true ↔ ¬ bi < 0 ∧ q0 = false ∧ ((kk.length : Nat) : Int) = ((upI mp 32).length : Nat) ∧ 0 ≤ sz ∧ q = true := by rw [hr, hq, hq0]; simp [FormP, BareP, lenP, lenZ]; intros; constructor <;> (intros; simp_all)
    have hu := upI_len mp 32
    clear hr hq hs hq0
    generalize (upI mp 32).length = c at *
    have hr2 : ((kk.length : Nat) : Int) = (c : Nat) → ¬ bi < 0 → 0 ≤ sz → q0 = false → r = q := fun a b d e => by cases r <;> cases q <;> simp_all
    have hr3 : ¬ (((kk.length : Nat) : Int) = (c : Nat) ∧ ¬ bi < 0 ∧ 0 ≤ sz ∧ q0 = false) → r = false := fun a => by cases r with | false => rfl | true => exact absurd ⟨(hr'.1 rfl).2.2.1, (hr'.1 rfl).1, (hr'.1 rfl).2.2.2.1, (hr'.1 rfl).2.1⟩ a
    clear hr'
    refine pc_ofV cop35 ?_
    repeat' ((conv => whnf); first | (with_reducible refine SeqP.go ?_) | ((with_reducible refine ObD.mk ?_ ?_); (focus (first | rfl | (simp; done)))) | ((with_reducible refine ObN.mk ?_ ?_); (focus (first | rfl | assumption | omega | (simp only [List.length_map, List.length_append, List.length_cons, List.length_nil]; omega) | (simp; done) | (simp; omega)))) | (with_reducible refine ObT.tt ?_) | (with_reducible refine ObT.ff ?_) | (with_reducible refine ObT.mk (fun h => ?_) (fun h => ?_)) | ((with_reducible refine ObB.yes ?_ ?_); (focus (first | assumption | (with_reducible rfl) | omega))) | ((with_reducible refine ObB.no ?_ ?_); (focus (first | assumption | omega))) | (with_reducible refine ObB.mk (fun h => ?_) (fun h => ?_)) | ((with_reducible refine (?_ : ObL _ _)); (refine ObL.mk _ (by first | assumption | exact (List.length_map _).trans (by assumption) | exact List.length_map _ | rfl) ?_)) | ((with_reducible refine (?_ : ObU _ _)); (refine ObU.mk _ (by first | assumption | ((conv => lhs; simp only [List.set_cons_zero, List.set_cons_succ, List.take_succ_cons, List.take_zero, List.drop_succ_cons, List.drop_zero, List.nil_append, List.cons_append, List.append_nil, List.take_nil, List.drop_nil]); try rfl) | rfl) ?_)) | ((with_reducible refine (?_ : ObR _ _ _)); (first | (refine ObR.mk _ (by assumption) ?_) | (refine ObR.mk _ (by with_reducible rfl) ?_) | (refine ObR.map (by (first | omega | assumption | (simp only [List.length_map, List.length_append, List.length_cons, List.length_nil, List.length_take, List.length_drop, List.length_set, List.length_replicate]; omega))) (fun x hx => ?_)) | (refine ObR.mk _ rfl ?_))) | ((with_reducible refine ObC.f 39 ?_); (first | (with_reducible refine ObC.mk _ ((branch20 G _ _ _ hk)) ?_) | (refine ObC.mk _ ((branch20 G _ _ _ hk)) ?_))) | ((with_reducible refine ObC.f 30 ?_); (first | (with_reducible refine ObC.mk _ (h43) ?_) | (refine ObC.mk _ (h43) ?_))) | ((with_reducible refine ObC.f 47 ?_); (first | (with_reducible refine ObC.mk _ (h44) ?_) | (refine ObC.mk _ (h44) ?_))) | ((with_reducible refine ObC.f 50 ?_); (first | (with_reducible refine ObC.mk _ (h22) ?_) | (refine ObC.mk _ (h22) ?_))) | ((with_reducible refine ObEq.mk ?_); (focus (first | rfl | assumption | exact (by first | (rw [hr2 (by assumption) (by omega) (by omega) (by assumption)]; done) | (have hf : r = false := hr3 (by rintro ⟨h1, h2, h3, h4⟩; first | omega | simp_all); rw [hf]))))))
  · obtain ⟨q, hq⟩ : ∃ q, q = decide ((3 : Int) = 3 ∧ ke = ByteArray.mk #[] ∧ va = ByteArray.mk #[] ∧ (mp : Int) = 0 ∧ kk = [] ∧ mn = 0 ∧ ls = Pr7.mk ls ∧ sz = ((Pr7.mk ls).length : Nat) ∧ bi = bi) := ⟨_, rfl⟩
    obtain ⟨m1, h34, h19⟩ := hMake G ls hl hs
    have h22 := same22 G 3 3 ke (ByteArray.mk #[]) va (ByteArray.mk #[]) mp 0 kk [] mn 0 ls (Pr7.mk ls) sz ((Pr7.mk ls).length : Nat) bi bi (by omega) z0 (by omega) z0 (by omega) l0 (by omega) (by omega) q hq
    have h18 := bucket18 G ls (Pr7.mk ls) h34
    have hr' : r = true ↔ ¬ bi < 0 ∧ (2 : Int) ≤ (ls.length : Nat) ∧ q = true := by
      rw [hr, hq, decide_eq_true_iff]
      unfold FormP BareP
      rw [lenP, slt_mk]
      generalize Pr7.mk ls = M
      constructor
      · rintro ⟨a, h⟩
        rcases h with ⟨h, _⟩ | ⟨h, _⟩ | ⟨_, b, c, d, e, f, g, _⟩ | ⟨h, _⟩ | ⟨h, _⟩
        · omega
        · omega
        · exact ⟨a, b, rfl, (e rfl).1, (e rfl).2, (f rfl).1, Classical.not_not.1 (f rfl).2, g rfl, c, by rw [d, ← c], rfl⟩
        · omega
        · omega
      · rintro ⟨a, b, _, c, d, e, f, g, i, j, _⟩
        exact ⟨a, .inr (.inr (.inl ⟨rfl, b, i, by rw [j, ← i], fun _ => ⟨c, d⟩, fun _ => ⟨e, fun h => h f⟩, fun _ => g, fun h => by cases h⟩))⟩
    clear hr hq hs h34 h19
    refine pc_ofV cop35 ?_
    repeat' ((conv => whnf); first | (with_reducible refine SeqP.go ?_) | ((with_reducible refine ObD.mk ?_ ?_); (focus (first | rfl | (simp; done)))) | ((with_reducible refine ObN.mk ?_ ?_); (focus (first | rfl | assumption | omega | (simp only [List.length_map, List.length_append, List.length_cons, List.length_nil]; omega) | (simp; done) | (simp; omega)))) | (with_reducible refine ObT.tt ?_) | (with_reducible refine ObT.ff ?_) | ((with_reducible refine ObB.yes ?_ ?_); (focus (first | assumption | (with_reducible rfl) | omega))) | ((with_reducible refine ObB.no ?_ ?_); (focus (first | assumption | omega))) | (with_reducible refine ObB.mk (fun h => ?_) (fun h => ?_)) | ((with_reducible refine (?_ : ObL _ _)); (refine ObL.mk _ (by first | assumption | exact (List.length_map _).trans (by assumption) | exact List.length_map _ | rfl) ?_)) | ((with_reducible refine (?_ : ObU _ _)); (refine ObU.mk _ (by first | assumption | ((conv => lhs; simp only [List.set_cons_zero, List.set_cons_succ, List.take_succ_cons, List.take_zero, List.drop_succ_cons, List.drop_zero, List.nil_append, List.cons_append, List.append_nil, List.take_nil, List.drop_nil]); try rfl) | rfl) ?_)) | ((with_reducible refine (?_ : ObR _ _ _)); (first | (refine ObR.mk _ (by assumption) ?_) | (refine ObR.mk _ (by with_reducible rfl) ?_) | (refine ObR.map (by (first | omega | assumption | (simp only [List.length_map, List.length_append, List.length_cons, List.length_nil, List.length_take, List.length_drop, List.length_set, List.length_replicate]; omega))) (fun x hx => ?_)) | (refine ObR.mk _ rfl ?_))) | ((with_reducible refine ObC.f 48 ?_); (first | (with_reducible refine ObC.mk _ (h18) ?_) | (refine ObC.mk _ (h18) ?_))) | ((with_reducible refine ObC.f 50 ?_); (first | (with_reducible refine ObC.mk _ (h22) ?_) | (refine ObC.mk _ (h22) ?_))) | ((with_reducible refine ObEq.mk ?_); (focus (first | rfl | assumption | exact (by cases r <;> cases q <;> first | (simp_all; done) | (simp_all; omega))))))
  · obtain ⟨q, hq⟩ : ∃ q, q = decide ((4 : Int) = 4 ∧ ke = ke ∧ va = va ∧ (mp : Int) = 0 ∧ kk = kk ∧ mn = 0 ∧ ls = [] ∧ sz = sz ∧ bi = bi) := ⟨_, rfl⟩
    have h22 := same22 G 4 4 ke ke va va mp 0 kk kk mn 0 ls [] sz sz bi bi (by omega) (by omega) (by omega) (by omega) (by omega) (by omega) (by omega) l1 q hq
    have hr' : r = true ↔ ¬ bi < 0 ∧ ((kk.length : Nat) : Int) = 2 ∧ 1 ≤ sz ∧ q = true := by rw [hr, hq]; simp [FormP, BareP, lenP, lenZ]; intros; constructor <;> (intros; simp_all)
    clear hr hq hs
    refine pc_ofV cop35 ?_
    repeat' ((conv => whnf); first | (with_reducible refine SeqP.go ?_) | ((with_reducible refine ObD.mk ?_ ?_); (focus (first | rfl | (simp; done)))) | ((with_reducible refine ObN.mk ?_ ?_); (focus (first | rfl | assumption | omega | (simp only [List.length_map, List.length_append, List.length_cons, List.length_nil]; omega) | (simp; done) | (simp; omega)))) | (with_reducible refine ObT.tt ?_) | (with_reducible refine ObT.ff ?_) | ((with_reducible refine ObB.yes ?_ ?_); (focus (first | assumption | (with_reducible rfl) | omega))) | ((with_reducible refine ObB.no ?_ ?_); (focus (first | assumption | omega))) | (with_reducible refine ObB.mk (fun h => ?_) (fun h => ?_)) | ((with_reducible refine (?_ : ObL _ _)); (refine ObL.mk _ (by first | assumption | exact (List.length_map _).trans (by assumption) | exact List.length_map _ | rfl) ?_)) | ((with_reducible refine (?_ : ObU _ _)); (refine ObU.mk _ (by first | assumption | ((conv => lhs; simp only [List.set_cons_zero, List.set_cons_succ, List.take_succ_cons, List.take_zero, List.drop_succ_cons, List.drop_zero, List.nil_append, List.cons_append, List.append_nil, List.take_nil, List.drop_nil]); try rfl) | rfl) ?_)) | ((with_reducible refine (?_ : ObR _ _ _)); (first | (refine ObR.mk _ (by assumption) ?_) | (refine ObR.mk _ (by with_reducible rfl) ?_) | (refine ObR.map (by (first | omega | assumption | (simp only [List.length_map, List.length_append, List.length_cons, List.length_nil, List.length_take, List.length_drop, List.length_set, List.length_replicate]; omega))) (fun x hx => ?_)) | (refine ObR.mk _ rfl ?_))) | ((with_reducible refine ObC.f 50 ?_); (first | (with_reducible refine ObC.mk _ (h22) ?_) | (refine ObC.mk _ (h22) ?_))) | ((with_reducible refine ObEq.mk ?_); (focus (first | rfl | assumption | exact (by cases r <;> cases q <;> first | (simp_all; done) | (simp_all; omega))))))
  · obtain ⟨q, hq⟩ : ∃ q, q = decide ((5 : Int) = 5 ∧ ke = ByteArray.mk #[] ∧ va = ByteArray.mk #[] ∧ (mp : Int) = 0 ∧ kk = [] ∧ mn = mn ∧ ls = [] ∧ sz = 0 ∧ bi = bi) := ⟨_, rfl⟩
    have h22 := same22 G 5 5 ke (ByteArray.mk #[]) va (ByteArray.mk #[]) mp 0 kk [] mn mn ls [] sz 0 bi bi (by omega) z0 (by omega) z0 (by omega) l0 (by omega) l1 q hq
    have hr' : r = true ↔ ¬ bi < 0 ∧ ¬ mn = 0 ∧ q = true := by rw [hr, hq]; simp [FormP, BareP, lenP, lenZ]; intros; constructor <;> (intros; simp_all)
    clear hr hq hs
    refine pc_ofV cop35 ?_
    repeat' ((conv => whnf); first | (with_reducible refine SeqP.go ?_) | ((with_reducible refine ObD.mk ?_ ?_); (focus (first | rfl | (simp; done)))) | ((with_reducible refine ObN.mk ?_ ?_); (focus (first | rfl | assumption | omega | (simp only [List.length_map, List.length_append, List.length_cons, List.length_nil]; omega) | (simp; done) | (simp; omega)))) | (with_reducible refine ObT.tt ?_) | (with_reducible refine ObT.ff ?_) | ((with_reducible refine ObB.yes ?_ ?_); (focus (first | assumption | (with_reducible rfl) | omega))) | ((with_reducible refine ObB.no ?_ ?_); (focus (first | assumption | omega))) | (with_reducible refine ObB.mk (fun h => ?_) (fun h => ?_)) | ((with_reducible refine (?_ : ObU _ _)); (refine ObU.mk _ (by first | assumption | ((conv => lhs; simp only [List.set_cons_zero, List.set_cons_succ, List.take_succ_cons, List.take_zero, List.drop_succ_cons, List.drop_zero, List.nil_append, List.cons_append, List.append_nil, List.take_nil, List.drop_nil]); try rfl) | rfl) ?_)) | ((with_reducible refine (?_ : ObR _ _ _)); (first | (refine ObR.mk _ (by assumption) ?_) | (refine ObR.mk _ (by with_reducible rfl) ?_) | (refine ObR.map (by (first | omega | assumption | (simp only [List.length_map, List.length_append, List.length_cons, List.length_nil, List.length_take, List.length_drop, List.length_set, List.length_replicate]; omega))) (fun x hx => ?_)) | (refine ObR.mk _ rfl ?_))) | ((with_reducible refine ObC.f 49 ?_); (first | (with_reducible refine ObC.mk _ ((inner17 G _)) ?_) | (refine ObC.mk _ ((inner17 G _)) ?_))) | ((with_reducible refine ObC.f 50 ?_); (first | (with_reducible refine ObC.mk _ (h22) ?_) | (refine ObC.mk _ (h22) ?_))) | ((with_reducible refine ObEq.mk ?_); (focus (first | rfl | assumption | exact (by cases r <;> cases q <;> first | (simp_all; done) | (simp_all; omega))))))
def mayE (kn : Int) (lo q : Bool) : Int := if kn < 1 then 11 else if 6 < kn then 11 else if lo = true then 6 else if q = true then 0 else 4
theorem may8 (G : Nat → AV) (kn : Int) (ke va : ByteArray) (mp : Nat) (kk : List Int) (mn : Int) (ls : List Pr) (sz bi : Int) (hm : mp < 4294967296) (hke : ke.size ≤ 40) (hva : va.size ≤ 40) (hk : kk.length ≤ 40) (hl : ls.length ≤ 40) (hs : ∀ p ∈ ls, p.1.size ≤ 40 ∧ p.2.size ≤ 40) (q : Bool) (hq : q = true ↔ FormP kn ke va mp kk mn ls sz bi) :
    PC Try.prog G 18 [nV kn ke va (mp : Int) kk mn ls sz bi] (I (mayE kn (lg (ke, va) || ls.any lg) q)) := by
  have h29 := isl29 G ke va
  have h30 := fun H => any30 G ls (by omega) H
  have h31 := fun k1 k6 => hasForm31 G kn ke va mp kk mn ls sz bi k1 k6 hm hke hva hk hl hs q hq
  clear hq hs
  generalize lg (ke, va) = a at *
  generalize ls.any lg = b at *
  refine pc_ofV cop18 ?_
  unfold mayE
  by_cases h1 : kn < 1
  · rw [if_pos h1]
    repeat' ((conv => whnf); first | (with_reducible refine SeqP.go ?_) | ((with_reducible refine ObD.mk ?_ ?_); (focus (first | rfl | (simp; done)))) | ((with_reducible refine ObN.mk ?_ ?_); (focus (first | rfl | assumption | omega | (simp only [List.length_map, List.length_append, List.length_cons, List.length_nil]; omega) | (simp; done) | (simp; omega)))) | (with_reducible refine ObT.tt ?_) | ((with_reducible refine ObB.yes ?_ ?_); (focus (first | assumption | (with_reducible rfl) | omega))) | ((with_reducible refine (?_ : ObR _ _ _)); (first | (refine ObR.mk _ (by assumption) ?_) | (refine ObR.mk _ (by with_reducible rfl) ?_) | (refine ObR.map (by (first | omega | assumption | (simp only [List.length_map, List.length_append, List.length_cons, List.length_nil, List.length_take, List.length_drop, List.length_set, List.length_replicate]; omega))) (fun x hx => ?_)) | (refine ObR.mk _ rfl ?_))) | ((with_reducible refine ObEq.i ?_); (focus (first | (with_reducible rfl) | omega))))
  rw [if_neg h1]
  by_cases h6 : 6 < kn
  · rw [if_pos h6]
    repeat' ((conv => whnf); first | (with_reducible refine SeqP.go ?_) | ((with_reducible refine ObD.mk ?_ ?_); (focus (first | rfl | (simp; done)))) | ((with_reducible refine ObN.mk ?_ ?_); (focus (first | rfl | assumption | omega | (simp only [List.length_map, List.length_append, List.length_cons, List.length_nil]; omega) | (simp; done) | (simp; omega)))) | (with_reducible refine ObT.tt ?_) | (with_reducible refine ObT.ff ?_) | ((with_reducible refine ObB.yes ?_ ?_); (focus (first | assumption | (with_reducible rfl) | omega))) | ((with_reducible refine ObB.no ?_ ?_); (focus (first | assumption | omega))) | ((with_reducible refine (?_ : ObR _ _ _)); (first | (refine ObR.mk _ (by assumption) ?_) | (refine ObR.mk _ (by with_reducible rfl) ?_) | (refine ObR.map (by (first | omega | assumption | (simp only [List.length_map, List.length_append, List.length_cons, List.length_nil, List.length_take, List.length_drop, List.length_set, List.length_replicate]; omega))) (fun x hx => ?_)) | (refine ObR.mk _ rfl ?_))) | ((with_reducible refine ObEq.i ?_); (focus (first | (with_reducible rfl) | omega))))
  rw [if_neg h6]
  have h31 := h31 (by omega) (by omega)
  cases a <;> cases b <;> cases q
  all_goals repeat' ((conv => whnf); first | (with_reducible refine SeqP.go ?_) | ((with_reducible refine ObD.mk ?_ ?_); (focus (first | rfl | (simp; done)))) | ((with_reducible refine ObN.mk ?_ ?_); (focus (first | rfl | assumption | omega | (simp only [List.length_map, List.length_append, List.length_cons, List.length_nil]; omega) | (simp; done) | (simp; omega)))) | (with_reducible refine ObT.tt ?_) | (with_reducible refine ObT.ff ?_) | ((with_reducible refine ObB.no ?_ ?_); (focus (first | assumption | omega))) | ((with_reducible refine (?_ : ObR _ _ _)); (first | (refine ObR.mk _ (by assumption) ?_) | (refine ObR.mk _ (by with_reducible rfl) ?_) | (refine ObR.map (by (first | omega | assumption | (simp only [List.length_map, List.length_append, List.length_cons, List.length_nil, List.length_take, List.length_drop, List.length_set, List.length_replicate]; omega))) (fun x hx => ?_)) | (refine ObR.mk _ rfl ?_))) | ((with_reducible refine ObC.f 33 ?_); (first | (with_reducible refine ObC.mk _ (h29) ?_) | (refine ObC.mk _ (h29) ?_))) | ((with_reducible refine ObH.f 34 ?_); (first | (with_reducible refine ObH.mk _ _ ((h30 _)) ?_) | (refine ObH.mk _ _ ((h30 _)) ?_))) | ((with_reducible refine ObC.f 35 ?_); (first | (with_reducible refine ObC.mk _ (h31) ?_) | (refine ObC.mk _ (h31) ?_))) | ((with_reducible refine ObEq.mk ?_); (focus (first | rfl | assumption))))
theorem may9 (G : Nat → AV) (kn : Int) (ke va : ByteArray) (mp : Nat) (kk : List Int) (mn : Int) (ls : List Pr) (sz bi : Int) (hm : mp < 4294967296) (hk : kk.length ≤ 40) (hl : ls.length ≤ 40) (hs : ∀ p ∈ ls, p.1.size ≤ 40 ∧ p.2.size ≤ 40) (q : Bool) (hq : q = true ↔ FormP kn ke va mp kk mn ls sz bi) :
    PC Try.prog G 21 [nV kn ke va (mp : Int) kk mn ls sz bi] (I (mayE kn (lg (ke, va) || ls.any lg) q)) := by
  have h32 := long32 G kn ke va mp kk mn ls sz bi (by omega)
  have h33 := fun k1 k6 => form33 G kn ke va mp kk mn ls sz bi k1 k6 hm hk hl hs q hq
  clear hq hs
  generalize (lg (ke, va) || ls.any lg) = a at *
  refine pc_ofV cop21 ?_
  unfold mayE
  by_cases h1 : kn < 1
  · rw [if_pos h1]
    repeat' ((conv => whnf); first | (with_reducible refine SeqP.go ?_) | ((with_reducible refine ObD.mk ?_ ?_); (focus (first | rfl | (simp; done)))) | ((with_reducible refine ObN.mk ?_ ?_); (focus (first | rfl | assumption | omega | (simp only [List.length_map, List.length_append, List.length_cons, List.length_nil]; omega) | (simp; done) | (simp; omega)))) | (with_reducible refine ObT.tt ?_) | ((with_reducible refine ObB.yes ?_ ?_); (focus (first | assumption | (with_reducible rfl) | omega))) | ((with_reducible refine (?_ : ObR _ _ _)); (first | (refine ObR.mk _ (by assumption) ?_) | (refine ObR.mk _ (by with_reducible rfl) ?_) | (refine ObR.map (by (first | omega | assumption | (simp only [List.length_map, List.length_append, List.length_cons, List.length_nil, List.length_take, List.length_drop, List.length_set, List.length_replicate]; omega))) (fun x hx => ?_)) | (refine ObR.mk _ rfl ?_))) | ((with_reducible refine ObEq.i ?_); (focus (first | (with_reducible rfl) | omega))))
  rw [if_neg h1]
  by_cases h6 : 6 < kn
  · rw [if_pos h6]
    repeat' ((conv => whnf); first | (with_reducible refine SeqP.go ?_) | ((with_reducible refine ObD.mk ?_ ?_); (focus (first | rfl | (simp; done)))) | ((with_reducible refine ObN.mk ?_ ?_); (focus (first | rfl | assumption | omega | (simp only [List.length_map, List.length_append, List.length_cons, List.length_nil]; omega) | (simp; done) | (simp; omega)))) | (with_reducible refine ObT.tt ?_) | (with_reducible refine ObT.ff ?_) | ((with_reducible refine ObB.yes ?_ ?_); (focus (first | assumption | (with_reducible rfl) | omega))) | ((with_reducible refine ObB.no ?_ ?_); (focus (first | assumption | omega))) | ((with_reducible refine (?_ : ObR _ _ _)); (first | (refine ObR.mk _ (by assumption) ?_) | (refine ObR.mk _ (by with_reducible rfl) ?_) | (refine ObR.map (by (first | omega | assumption | (simp only [List.length_map, List.length_append, List.length_cons, List.length_nil, List.length_take, List.length_drop, List.length_set, List.length_replicate]; omega))) (fun x hx => ?_)) | (refine ObR.mk _ rfl ?_))) | ((with_reducible refine ObEq.i ?_); (focus (first | (with_reducible rfl) | omega))))
  rw [if_neg h6]
  have h33 := h33 (by omega) (by omega)
  cases a <;> cases q
  all_goals repeat' ((conv => whnf); first | (with_reducible refine SeqP.go ?_) | ((with_reducible refine ObD.mk ?_ ?_); (focus (first | rfl | (simp; done)))) | ((with_reducible refine ObN.mk ?_ ?_); (focus (first | rfl | assumption | omega | (simp only [List.length_map, List.length_append, List.length_cons, List.length_nil]; omega) | (simp; done) | (simp; omega)))) | (with_reducible refine ObT.tt ?_) | (with_reducible refine ObT.ff ?_) | ((with_reducible refine ObB.no ?_ ?_); (focus (first | assumption | omega))) | ((with_reducible refine (?_ : ObR _ _ _)); (first | (refine ObR.mk _ (by assumption) ?_) | (refine ObR.mk _ (by with_reducible rfl) ?_) | (refine ObR.map (by (first | omega | assumption | (simp only [List.length_map, List.length_append, List.length_cons, List.length_nil, List.length_take, List.length_drop, List.length_set, List.length_replicate]; omega))) (fun x hx => ?_)) | (refine ObR.mk _ rfl ?_))) | ((with_reducible refine ObC.f 36 ?_); (first | (with_reducible refine ObC.mk _ (h32) ?_) | (refine ObC.mk _ (h32) ?_))) | ((with_reducible refine ObC.f 37 ?_); (first | (with_reducible refine ObC.mk _ (h33) ?_) | (refine ObC.mk _ (h33) ?_))) | ((with_reducible refine ObEq.mk ?_); (focus (first | rfl | assumption))))
end Go.Proofs.Ytfdfmhapcjckoaa.Sim
namespace Go.Proofs.Ytfdfmhapcjckoaa.Sim
open Go.RowKit
set_option maxRecDepth 100000
abbrev bC (a : List Int) (sz bi : Int) : List AV := a.map iA ++ [I sz, I bi]
abbrev bV (a : List Int) (sz bi : Int) : AV := .agg (bC a sz bi)
abbrev nB (a : List Int) (sz bi : Int) : AV := nV 2 (ByteArray.mk #[]) (ByteArray.mk #[]) (bm a : Int) (kz a) 0 [] sz bi
section
variable {a : List Int} {sz bi : Int} (ha : a.length = 32)
include ha
theorem bC_32 : (bC a sz bi)[32]? = some (I sz) := by unfold bC; rw [List.getElem?_append_right (by simp [ha])]; simp [ha]
theorem bC_33 : (bC a sz bi)[33]? = some (I bi) := by unfold bC; rw [List.getElem?_append_right (by simp [ha])]; simp [ha]
theorem bC_at {i : Nat} (h : i < 32) : (bC a sz bi)[i]? = some (I (a.getD i 0)) := by unfold bC; rw [List.getElem?_append_left (by simp [ha, h])]; simp [ha, h, iA]
theorem bC_s32 {z : Int} : (bC a sz bi).set 32 (I z) = bC a z bi := by unfold bC; rw [List.set_append_right _ _ (by simp [ha])]; simp [ha]
theorem bC_s33 {z : Int} : (bC a sz bi).set 33 (I z) = bC a sz z := by unfold bC; rw [List.set_append_right _ _ (by simp [ha])]; simp [ha]
theorem bC_set {i : Nat} (h : i < 32) {z : Int} : (bC a sz bi).set i (I z) = bC (a.set i z) sz bi := by unfold bC; rw [List.set_append_left _ _ (by simp [ha, h]), List.map_set]; rfl
end
theorem bC_cl {a : List Int} {sz bi : Int} : (AV.agg (bC a sz bi)).cells.length = a.length + 2 := by simp [AV.cells]
theorem bC_fine {a : List Int} {sz bi : Int} : (AV.agg (bC a sz bi)).fine = true := by simp [AV.fine, AV.one, iA]
theorem bC_c0 {a : List Int} {sz bi : Int} : (bC a sz bi).all AV.isC0 = true := by simp [AV.isC0, iA]
theorem fzL_p {H : Hp} {xs : List AV} {k : List AV → Hp → Prop} (h : xs.all AV.isC0 = true) (hk : k xs H) : fzL H xs k := by
  induction xs generalizing k with
  | nil => exact hk
  | cons a xs ih =>
    simp only [List.all_cons, Bool.and_eq_true] at h
    have h2 : fzL H xs (fun xs' H'' => k (a :: xs') H'') := ih h.2 hk
    cases a with
    | v x => exact h2
    | sl => exact h2
    | ad => exact h2
    | _ => simp [AV.isC0] at h
theorem oK_all {s vs : List AV} {k : List AV → Prop} (h : s.length = vs.length) (hk : k vs) : oK s 0 vs k := by
  rw [oK_eq _ _ _ _ (by omega), Nat.zero_add, ← h, List.take_zero, List.drop_length, List.nil_append, List.append_nil]
  exact hk
theorem nK_to {s : List AV} {n : Nat} {k : AV → Prop} (n' : Nat) (hn : n = n') {x : AV} (h : s[n']? = some x) (hk : k x) : nK s n k := by
  subst hn
  induction s generalizing n with
  | nil => simp at h
  | cons y s ih => cases n with
    | zero => simp at h; subst h; exact hk
    | succ n => exact ih (by simpa using h)
theorem pK_to {s : List AV} {n : Nat} {r : AV} {k : List AV → Prop} (n' : Nat) (hn : n = n') (s' : List AV) (hs : s.set n' r = s') (hk : k s') : pK s n r k := by subst hn; rw [pK_eq, hs]; exact hk
def ptI (a : List Int) (i r : Int) : List Int := if 0 ≤ i ∧ i < 32 then a.set i.toNat r else a
theorem ptI_len {a : List Int} (ha : a.length = 32) (i r : Int) : (ptI a i r).length = 32 := by unfold ptI; split <;> simp [ha]
section
variable (G : Nat → AV)
set_option maxHeartbeats 1000000 in
theorem put15 (a : List Int) (sz bi i r : Int) (ha : a.length = 32) : PC Try.prog G 15 [bV a sz bi, I i, I r] (bV (ptI a i r) sz bi) := by
  unfold ptI
  by_cases h : 0 ≤ i ∧ i < 32
  · rw [if_pos h]
    obtain ⟨n, rfl⟩ := Int.eq_ofNat_of_zero_le h.1
    have hn : n < 32 := by omega
    rw [Int.toNat_natCast]
    refine pc_ofV cop15 ?_
    repeat' ((conv => whnf); first | (with_reducible refine SeqP.go ?_) | ((with_reducible refine (?_ : pK _ _ _ _)); (refine pK_to n ?_ _ (bC_set ha hn) ?_); (focus omega)) | ((with_reducible refine (?_ : oK _ _ _ _)); (refine oK_all (by simp [ha, AV.cells]) ?_)) | ((with_reducible refine (?_ : fzL _ _ _)); (refine fzL_p bC_c0 ?_)) | ((with_reducible refine ObD.mk ?_ ?_); (focus (simp only [bC_cl, bC_fine, List.length_set, ha]; rfl))) | ((with_reducible refine ObD.mk ?_ ?_); (focus (simp [ha, AV.cells, AV.fine, AV.one, iA]; omega))) | ((with_reducible refine ObD.mk ?_ ?_); (focus (first | rfl | (simp [ha, AV.cells, AV.fine, AV.one, iA]; done)))) | ((with_reducible refine ObN.mk ?_ ?_); (focus (first | rfl | assumption | omega | (simp only [List.length_map, List.length_append, List.length_cons, List.length_nil, ha, AV.cells, AV.fine, AV.one, iA]; omega) | (simp [ha, AV.cells, AV.fine, AV.one, iA]; done) | (simp [ha, AV.cells, AV.fine, AV.one, iA]; omega)))) | (with_reducible refine ObT.tt ?_) | ((with_reducible refine ObB.yes ?_ ?_); (focus (first | assumption | (with_reducible rfl) | omega))) | ((with_reducible refine ObX.mk _ rfl ?_ ?_); (focus (first | omega | assumption | (simp only [List.length_map, List.length_append, List.length_cons, List.length_nil, List.length_take, List.length_drop, List.length_set, List.length_replicate, ha, AV.cells, AV.fine, AV.one, iA]; omega)))) | ((with_reducible refine (?_ : ObU _ _)); (refine ObU.mk _ (by first | assumption | ((conv => lhs; simp only [List.set_cons_zero, List.set_cons_succ, List.take_succ_cons, List.take_zero, List.drop_succ_cons, List.drop_zero, List.nil_append, List.cons_append, List.append_nil, List.take_nil, List.drop_nil, ha, AV.cells, AV.fine, AV.one, iA]); try rfl) | rfl) ?_)) | ((with_reducible refine (?_ : ObR _ _ _)); (first | (refine ObR.mk _ (by assumption) ?_) | (refine ObR.mk _ (by with_reducible rfl) ?_) | (refine ObR.map (by (first | omega | assumption | (simp only [List.length_map, List.length_append, List.length_cons, List.length_nil, List.length_take, List.length_drop, List.length_set, List.length_replicate, ha, AV.cells, AV.fine, AV.one, iA]; omega))) (fun x hx => ?_)) | (refine ObR.mk _ rfl ?_))) | ((with_reducible refine ObEq.mk ?_); (focus (first | rfl | assumption))))
  · rw [if_neg h]
    refine pc_ofV cop15 ?_
    repeat' ((conv => whnf); first | (with_reducible refine SeqP.go ?_) | ((with_reducible refine (?_ : oK _ _ _ _)); (refine oK_all (by simp [ha, AV.cells]) ?_)) | ((with_reducible refine (?_ : fzL _ _ _)); (refine fzL_p bC_c0 ?_)) | ((with_reducible refine ObD.mk ?_ ?_); (focus (simp only [bC_cl, bC_fine, List.length_set, ha]; rfl))) | ((with_reducible refine ObD.mk ?_ ?_); (focus (first | rfl | (simp [ha, AV.cells, AV.fine, AV.one, iA]; done)))) | ((with_reducible refine ObN.mk ?_ ?_); (focus (first | rfl | assumption | omega | (simp only [List.length_map, List.length_append, List.length_cons, List.length_nil, ha, AV.cells, AV.fine, AV.one, iA]; omega) | (simp [ha, AV.cells, AV.fine, AV.one, iA]; done) | (simp [ha, AV.cells, AV.fine, AV.one, iA]; omega)))) | (with_reducible refine ObT.tt ?_) | (with_reducible refine ObT.ff ?_) | ((with_reducible refine ObB.no ?_ ?_); (focus (first | assumption | omega))) | (with_reducible refine ObB.mk (fun h => ?_) (fun h => ?_)) | ((with_reducible refine (?_ : ObU _ _)); (refine ObU.mk _ (by first | assumption | ((conv => lhs; simp only [List.set_cons_zero, List.set_cons_succ, List.take_succ_cons, List.take_zero, List.drop_succ_cons, List.drop_zero, List.nil_append, List.cons_append, List.append_nil, List.take_nil, List.drop_nil, ha, AV.cells, AV.fine, AV.one, iA]); try rfl) | rfl) ?_)) | ((with_reducible refine (?_ : ObR _ _ _)); (first | (refine ObR.mk _ (by assumption) ?_) | (refine ObR.mk _ (by with_reducible rfl) ?_) | (refine ObR.map (by (first | omega | assumption | (simp only [List.length_map, List.length_append, List.length_cons, List.length_nil, List.length_take, List.length_drop, List.length_set, List.length_replicate, ha, AV.cells, AV.fine, AV.one, iA]; omega))) (fun x hx => ?_)) | (refine ObR.mk _ rfl ?_))) | ((with_reducible refine ObEq.mk ?_); (focus (first | rfl | assumption))))
set_option maxHeartbeats 4000000 in
theorem node9 (a : List Int) (sz bi : Int) (ha : a.length = 32) : PC Try.prog G 9 [bV a sz bi] (nB a sz bi) := by
  have r0 : [bV a sz bi].all nrB = true := by simp [nrB, AV.cells, iA]
  refine pc_ofV cop9 ?_
  repeat' ((conv => whnf); first | (with_reducible refine SeqP.go ?_) | ((with_reducible refine ObD.mk ?_ ?_); (focus (simp only [bC_cl, bC_fine, List.length_set, ha]; rfl))) | ((with_reducible refine ObD.mk ?_ ?_); (focus (first | rfl | (simp [ha, AV.cells, AV.fine, AV.one, iA]; done)))))
  conv => whnf
  refine LoopP.go (α := Nat × List Int × List Int) (fun p => p.1 ≤ 32 ∧ p.2.1 = (ps a p.1).map Int.ofNat ∧ p.2.2 = kz (a.take p.1)) (fun p => 32 - p.1) (fun p => [(0, none), (2, some (.ol 2 0 p.2.1.length)), (0, some (.ol 3 0 p.2.2.length)), (0, some (I p.1)), (0, none), (0, none), (0, none), (0, none), (0, none), (0, none), (0, none), (0, none), (0, none), (0, none), (0, none), (0, none), (0, none), (0, none), (0, none), (0, none), (0, none), (0, none), (0, none), (0, none), (0, none), (0, none)]) (fun p => [⟨31, 34, [bV a sz bi], 0, 0⟩, ⟨27, 9, [.agg [I 0, S (ByteArray.mk #[]), S (ByteArray.mk #[]), .v (.int .u32 0), .nl 1, I 0, .nl 2, I 0, I 0]], 0, 0⟩, ⟨3, 1, p.2.1.map iA, 0, 0⟩, ⟨24, 1, p.2.2.map iA, 0, 0⟩]) (0, [], []) ⟨by decide, by simp [ps], by simp [kz]⟩ (Fg.go ?_ rfl) ?_
  · repeat' ((conv => whnf); first | ((with_reducible refine ObEqs.mk ?_ ?_); (focus rfl)) | ((with_reducible refine ObEq1.i ?_ ?_); (focus (first | (with_reducible rfl) | omega))) | ((with_reducible refine ObEq1.mk ?_ ?_); (focus (first | rfl | assumption))) | exact True.intro)
  rintro ⟨i, l, q⟩ ⟨h1, h2, h3⟩
  dsimp only at h1 h2 h3 ⊢
  have hll : l.length ≤ 32 := by rw [h2, List.length_map]; have := List.length_filter_le (fun i => decide (a.getD i 0 ≠ 0)) (List.range i); simp [ps] at this ⊢; omega
  have hql : q.length ≤ 32 := by rw [h3]; have := kz_take_len a i; omega
  by_cases hi : i < 32
  · have hps := ps_succ a i
    have hkz := kz_succ a i (by omega)
    by_cases h0 : a.getD i 0 = 0
    · rw [h0] at hps hkz
      simp only [ne_eq, not_true_eq_false, if_false, List.append_nil] at hps hkz
      repeat' ((conv => whnf); first | (with_reducible refine SeqP.go ?_) | ((with_reducible refine (?_ : nK _ _ _)); (refine nK_to i ?_ (bC_at ha hi) ?_); (focus omega)) | ((with_reducible refine ObN.mk ?_ ?_); (focus (first | rfl | assumption | omega | (simp only [List.length_map, List.length_append, List.length_cons, List.length_nil, ha, AV.cells, AV.fine, AV.one, iA]; omega) | (simp [ha, AV.cells, AV.fine, AV.one, iA]; done) | (simp [ha, AV.cells, AV.fine, AV.one, iA]; omega)))) | (with_reducible refine ObT.tt ?_) | (with_reducible refine ObT.ff ?_) | ((with_reducible refine ObB.yes ?_ ?_); (focus (first | assumption | (with_reducible rfl) | omega))) | ((with_reducible refine ObI.nl ?_ ?_); (focus omega)) | ((with_reducible refine ObX.mk _ rfl ?_ ?_); (focus (first | omega | assumption | (simp only [List.length_map, List.length_append, List.length_cons, List.length_nil, List.length_take, List.length_drop, List.length_set, List.length_replicate, ha, AV.cells, AV.fine, AV.one, iA]; omega)))) | ((with_reducible refine (?_ : ObR _ _ _)); (first | (refine ObR.mk _ (by assumption) ?_) | (refine ObR.mk _ (by with_reducible rfl) ?_) | (refine ObR.map (by (first | omega | assumption | (simp only [List.length_map, List.length_append, List.length_cons, List.length_nil, List.length_take, List.length_drop, List.length_set, List.length_replicate, ha, AV.cells, AV.fine, AV.one, iA]; omega))) (fun x hx => ?_)) | (refine ObR.mk _ rfl ?_))))
      conv => whnf
      refine Again.mk (i + 1, l, q) ?_ ?_ (Fg.go ?_ rfl)
      · exact ⟨hi, by rw [h2, hps], by rw [h3, hkz]⟩
      · dsimp only; omega
      repeat' ((conv => whnf); first | ((with_reducible refine ObEqs.mk ?_ ?_); (focus rfl)) | ((with_reducible refine ObEq1.i ?_ ?_); (focus (first | (with_reducible rfl) | omega))) | ((with_reducible refine ObEq1.o ?_ ?_); (focus (first | (with_reducible rfl) | omega))) | exact True.intro)
    · rw [if_pos h0] at hps hkz
      have n1 := nr_iA (l ++ [(i : Int)])
      have n2 := nr_iA (q ++ [a.getD i 0])
      repeat' ((conv => whnf); first | (with_reducible refine SeqP.go ?_) | ((with_reducible refine (?_ : nK _ _ _)); (refine nK_to i ?_ (bC_at ha hi) ?_); (focus omega)) | ((with_reducible refine ObD.mk ?_ ?_); (focus (first | rfl | (simp [ha, AV.cells, AV.fine, AV.one, iA]; done)))) | ((with_reducible refine ObN.mk ?_ ?_); (focus (first | rfl | assumption | omega | (simp only [List.length_map, List.length_append, List.length_cons, List.length_nil, ha, AV.cells, AV.fine, AV.one, iA]; omega) | (simp [ha, AV.cells, AV.fine, AV.one, iA]; done) | (simp [ha, AV.cells, AV.fine, AV.one, iA]; omega)))) | (with_reducible refine ObT.tt ?_) | ((with_reducible refine ObB.yes ?_ ?_); (focus (first | assumption | (with_reducible rfl) | omega))) | ((with_reducible refine ObB.no ?_ ?_); (focus (first | assumption | omega))) | ((with_reducible refine ObI.nl ?_ ?_); (focus omega)) | ((with_reducible refine ObX.mk _ rfl ?_ ?_); (focus (first | omega | assumption | (simp only [List.length_map, List.length_append, List.length_cons, List.length_nil, List.length_take, List.length_drop, List.length_set, List.length_replicate, ha, AV.cells, AV.fine, AV.one, iA]; omega)))) | ((with_reducible refine (?_ : ObL _ _)); (refine ObL.mk _ (by first | assumption | exact (List.length_map _).trans (by assumption) | exact List.length_map _ | rfl) ?_)) | ((with_reducible refine (?_ : ObU _ _)); (refine ObU.mk _ (by first | exact snoc_iA | assumption | ((conv => lhs; simp only [List.set_cons_zero, List.set_cons_succ, List.take_succ_cons, List.take_zero, List.drop_succ_cons, List.drop_zero, List.nil_append, List.cons_append, List.append_nil, List.take_nil, List.drop_nil, ha, AV.cells, AV.fine, AV.one, iA]); try rfl) | rfl) ?_)) | ((with_reducible refine (?_ : ObR _ _ _)); (first | (refine ObR.mk _ (by assumption) ?_) | (refine ObR.mk _ (by with_reducible rfl) ?_) | (refine ObR.map (by (first | omega | assumption | (simp only [List.length_map, List.length_append, List.length_cons, List.length_nil, List.length_take, List.length_drop, List.length_set, List.length_replicate, ha, AV.cells, AV.fine, AV.one, iA]; omega))) (fun x hx => ?_)) | (refine ObR.mk _ rfl ?_))))
      conv => whnf
      refine Again.mk (i + 1, l ++ [(i : Int)], q ++ [a.getD i 0]) ?_ ?_ (Fg.vw [(0, 0, 0), (0, 1, 0), (0, 2, 1), (0, 3, 1)] ?_ ?_ (by simp) trivial)
      · exact ⟨hi, by rw [h2, hps]; simp, by rw [h3, hkz]⟩
      · dsimp only; omega
      all_goals repeat' ((conv => whnf); first | ((with_reducible refine ObN.mk ?_ ?_); (focus (first | rfl | assumption | omega | (simp only [List.length_map, List.length_append, List.length_cons, List.length_nil]; omega) | (simp; done) | (simp; omega)))) | ((with_reducible refine ObRn.mk ?_ ?_); (focus (first | rfl | (simp [rnB, rnC, rnL]; done)))) | ((with_reducible refine ObRow.same ?_ ?_ ?_); (focus (first | rfl | assumption)); (focus (first | rfl | assumption | (simp; done)))) | ((with_reducible refine ObEqs.mk ?_ ?_); (focus rfl)) | exact True.intro)
  · obtain rfl : i = 32 := by omega
    rw [List.take_of_length_le (by omega)] at h3
    have hm : PC Try.prog G 24 [.sl 1 (l.map iA)] (.v (.int .u32 ((bm a : Nat) : Int))) := by
      have := make24 G l (by omega)
      rw [h2] at this ⊢
      exact this
    clear h2
    subst h3
    repeat' ((conv => whnf); first | (with_reducible refine SeqP.go ?_) | ((with_reducible refine (?_ : nK _ _ _)); (refine nK_to 32 ?_ (bC_32 (by first | exact ha | simp [ha])) ?_); (focus rfl)) | ((with_reducible refine (?_ : nK _ _ _)); (refine nK_to 33 ?_ (bC_33 (by first | exact ha | simp [ha])) ?_); (focus rfl)) | ((with_reducible refine ObD.mk ?_ ?_); (focus (first | rfl | (simp [ha, AV.cells, AV.fine, AV.one, iA]; done)))) | ((with_reducible refine ObN.mk ?_ ?_); (focus (first | exact (by first | exact all_iA _ | (rw [take_iA]; exact all_iA _)) | rfl | assumption | omega | (simp only [List.length_map, List.length_append, List.length_cons, List.length_nil, ha, AV.cells, AV.fine, AV.one, iA]; omega) | (simp [ha, AV.cells, AV.fine, AV.one, iA]; done) | (simp [ha, AV.cells, AV.fine, AV.one, iA]; omega)))) | (with_reducible refine ObT.ff ?_) | ((with_reducible refine ObB.no ?_ ?_); (focus (first | assumption | omega))) | ((with_reducible refine (?_ : ObU _ _)); (refine ObU.mk _ (by first | exact take_iA | assumption | ((conv => lhs; simp only [List.set_cons_zero, List.set_cons_succ, List.take_succ_cons, List.take_zero, List.drop_succ_cons, List.drop_zero, List.nil_append, List.cons_append, List.append_nil, List.take_nil, List.drop_nil, ha, AV.cells, AV.fine, AV.one, iA]); try rfl) | rfl) ?_)) | ((with_reducible refine (?_ : ObR _ _ _)); (first | (refine ObR.mk _ (by assumption) ?_) | (refine ObR.mk _ (by with_reducible rfl) ?_) | (refine ObR.map (by (first | omega | assumption | (simp only [List.length_map, List.length_append, List.length_cons, List.length_nil, List.length_take, List.length_drop, List.length_set, List.length_replicate, ha, AV.cells, AV.fine, AV.one, iA]; omega))) (fun x hx => ?_)) | (refine ObR.mk _ rfl ?_))) | ((with_reducible refine ObC.f 24 ?_); (first | (with_reducible refine ObC.mk _ (hm) ?_) | (refine ObC.mk _ (hm) ?_))) | ((with_reducible refine ObEq.mk ?_); (focus (first | rfl | assumption))))
theorem kz_map (a : List Int) : ∀ n, n ≤ a.length → kz (a.take n) = (ps a n).map fun i => a.getD i 0
  | 0, _ => by simp [kz, ps]
  | n + 1, h => by
    rw [kz_succ a n (by omega), ps_succ, List.map_append, kz_map a n (by omega)]
    congr 1
    split <;> simp
def fl (a : List Int) (j : Nat) : List Int := (List.range 32).map fun q => if q ∈ (ps a 32).take j then a.getD q 0 else 0
theorem fl_len (a : List Int) (j : Nat) : (fl a j).length = 32 := by simp [fl]
theorem fl_zero (a : List Int) : fl a 0 = List.replicate 32 0 := by
  unfold fl
  rw [List.take_zero]
  simp [List.map_const']
theorem fl_all (a : List Int) (ha : a.length = 32) : fl a (ps a 32).length = a := by
  apply List.ext_getElem
  · rw [fl_len, ha]
  · intro q h1 h2
    have hq : q < 32 := by rw [fl_len] at h1; exact h1
    simp only [fl, List.take_length, List.getElem_map, List.getElem_range]
    by_cases h : a.getD q 0 = 0
    · rw [if_neg (fun hm => (mem_ps.1 hm).2 h)]
      have : a.getD q 0 = a[q] := by simp [h2]
      rw [← this, h]
    · rw [if_pos (mem_ps.2 ⟨hq, h⟩)]; simp [h2]
theorem fl_succ (a : List Int) (j : Nat) (hj : j < (ps a 32).length) : (fl a j).set (ps a 32)[j] (a.getD (ps a 32)[j] 0) = fl a (j + 1) := by
  have hp := mem_ps.1 (List.getElem_mem hj)
  apply List.ext_getElem
  · simp [fl]
  · intro q h1 h2
    have hq : q < 32 := by rw [fl_len] at h2; exact h2
    rw [List.getElem_set]
    simp only [fl, List.getElem_map, List.getElem_range, List.take_succ_eq_append_getElem hj, List.mem_append, List.mem_singleton]
    by_cases e : (ps a 32)[j] = q
    · rw [if_pos e, if_pos (.inr e.symm), e]
    · rw [if_neg e]
      by_cases h : q ∈ (ps a 32).take j
      · rw [if_pos h, if_pos (.inl h)]
      · rw [if_neg h, if_neg (fun hh => hh.elim h (fun h' => e h'.symm))]
theorem upI_ps (a : List Int) : upI (bm a) 32 = (ps a 32).map Int.ofNat := by unfold upI; rw [up_ps a 32 (Nat.le_refl _)]
abbrev z32 : List Int := [0, 0, 0, 0, 0, 0, 0, 0, 0, 0, 0, 0, 0, 0, 0, 0, 0, 0, 0, 0, 0, 0, 0, 0, 0, 0, 0, 0, 0, 0, 0, 0]
theorem fl_z (a : List Int) : fl a 0 = z32 := by rw [fl_zero]; rfl
set_option maxHeartbeats 4000000 in
theorem of7 (a : List Int) (sz bi : Int) (ha : a.length = 32) (h21 : PC Try.prog G 21 [nB a sz bi] (I 0)) : PC Try.prog G 7 [nB a sz bi] (bV a sz bi) := by
  have h22 := all46 G (bm a) (bm_lt a)
  rw [upI_ps] at h22
  have hl32 : (ps a 32).length ≤ 32 := by have := List.length_filter_le (fun i => decide (a.getD i 0 ≠ 0)) (List.range 32); simpa [ps] using this
  have hkm : kz a = (ps a 32).map fun i => a.getD i 0 := by have := kz_map a 32 (by omega); rwa [List.take_of_length_le (by omega)] at this
  have hkl : (kz a).length = (ps a 32).length := by rw [hkm, List.length_map]
  refine pc_ofV cop7 ?_
  repeat' ((conv => whnf); first | (with_reducible refine SeqP.go ?_) | ((with_reducible refine ObD.mk ?_ ?_); (focus (first | rfl | (simp; done)))) | ((with_reducible refine ObN.mk ?_ ?_); (focus (first | rfl | assumption | omega | (simp only [List.length_map, List.length_append, List.length_cons, List.length_nil]; omega) | (simp; done) | (simp; omega)))) | (with_reducible refine ObT.ff ?_) | ((with_reducible refine ObB.yes ?_ ?_); (focus (first | assumption | (with_reducible rfl) | omega))) | ((with_reducible refine (?_ : ObU _ _)); (refine ObU.mk _ (by first | assumption | ((conv => lhs; simp only [List.set_cons_zero, List.set_cons_succ, List.take_succ_cons, List.take_zero, List.drop_succ_cons, List.drop_zero, List.nil_append, List.cons_append, List.append_nil, List.take_nil, List.drop_nil]); try rfl) | rfl) ?_)) | ((with_reducible refine (?_ : ObR _ _ _)); (first | (refine ObR.mk _ (by assumption) ?_) | (refine ObR.mk _ (by with_reducible rfl) ?_) | (refine ObR.map (by (first | omega | assumption | (simp only [List.length_map, List.length_append, List.length_cons, List.length_nil, List.length_take, List.length_drop, List.length_set, List.length_replicate]; omega))) (fun x hx => ?_)) | (refine ObR.mk _ rfl ?_))) | ((with_reducible refine ObC.f 21 ?_); (first | (with_reducible refine ObC.mk _ (h21) ?_) | (refine ObC.mk _ (h21) ?_))) | ((with_reducible refine ObC.f 22 ?_); (first | (with_reducible refine ObC.mk _ (h22) ?_) | (refine ObC.mk _ (h22) ?_))))
  conv => whnf
  refine LoopP.go (α := Nat) (fun j => j ≤ (ps a 32).length) (fun j => (ps a 32).length - j) (fun j => [(5, some (I j)), (13, none), (0, none), (0, none), (0, none), (0, none), (0, none), (0, none), (0, none), (0, none), (0, none), (0, none), (0, none), (0, none), (0, none), (0, none), (0, none), (0, none)]) (fun j => [⟨27, 9, [nB a sz bi], 0, 0⟩, ⟨31, 34, [.agg (bC z32 0 0)], 0, 0⟩, ⟨31, 34, [.agg (bC (fl a j) 0 0)], 0, 0⟩]) 0 (Nat.zero_le _) (Fg.go ?_ ?_) ?_
  · repeat' ((conv => whnf); first | ((with_reducible refine ObEqs.mk ?_ ?_); (focus rfl)) | ((with_reducible refine ObEq1.i ?_ ?_); (focus (first | (with_reducible rfl) | omega))) | exact True.intro)
  · rw [fl_z]; rfl
  intro j hj
  have hfl := fl_len a j
  have hlm : (List.map Int.ofNat (ps a 32)).length = (ps a 32).length := List.length_map _
  by_cases hlt : j < (ps a 32).length
  · have hp := mem_ps.1 (List.getElem_mem hlt)
    have hs := fl_succ a j hlt
    have e1 : (((ps a 32).map Int.ofNat).map iA)[j]? = some (I ((ps a 32)[j] : Nat)) := by simp [hlt, iA]
    have e2 : ((kz a).map iA)[j]? = some (I (a.getD (ps a 32)[j] 0)) := by rw [hkm]; simp [hlt, iA]
    have hset := bC_set (a := fl a j) (sz := 0) (bi := 0) hfl hp.1 (z := a.getD (ps a 32)[j] 0)
    rw [hs] at hset
    generalize (ps a 32)[j] = q at *
    generalize a.getD q 0 = x at *
    have ha' := ha
    repeat' ((conv => whnf); first | (with_reducible refine SeqP.go ?_) | ((with_reducible refine (?_ : pK _ _ _ _)); (refine pK_to q ?_ _ hset ?_); (focus omega)) | ((with_reducible refine ObD.mk ?_ ?_); (focus (simp [hfl, AV.cells, AV.fine, AV.one, iA]; omega))) | ((with_reducible refine ObD.mk ?_ ?_); (focus (first | rfl | (simp [hfl, AV.cells, AV.fine, AV.one, iA]; done)))) | ((with_reducible refine ObN.mk ?_ ?_); (focus (first | rfl | assumption | omega | (simp only [List.length_map, List.length_append, List.length_cons, List.length_nil, hfl, AV.cells, AV.fine, AV.one, iA]; omega) | (simp [hfl, AV.cells, AV.fine, AV.one, iA]; done) | (simp [hfl, AV.cells, AV.fine, AV.one, iA]; omega)))) | (with_reducible refine ObT.tt ?_) | ((with_reducible refine ObB.yes ?_ ?_); (focus (first | assumption | (with_reducible rfl) | omega))) | ((with_reducible refine ObI.nl ?_ ?_); (focus omega)) | ((with_reducible refine ObX.mk _ rfl ?_ ?_); (focus (first | omega | assumption | (simp only [List.length_map, List.length_append, List.length_cons, List.length_nil, List.length_take, List.length_drop, List.length_set, List.length_replicate, hfl, AV.cells, AV.fine, AV.one, iA]; omega)))) | ((with_reducible refine (?_ : ObL _ _)); (refine ObL.mk _ (by first | exact (List.length_map _) | assumption | exact (List.length_map _).trans (by assumption) | exact List.length_map _ | rfl) ?_)) | ((with_reducible refine (?_ : ObU _ _)); (refine ObU.mk _ (by first | assumption | ((conv => lhs; simp only [List.set_cons_zero, List.set_cons_succ, List.take_succ_cons, List.take_zero, List.drop_succ_cons, List.drop_zero, List.nil_append, List.cons_append, List.append_nil, List.take_nil, List.drop_nil, hfl, AV.cells, AV.fine, AV.one, iA]); try rfl) | rfl) ?_)) | ((with_reducible refine (?_ : ObR _ _ _)); (first | (refine ObR.mk _ (by assumption) ?_) | (refine ObR.mk _ (by with_reducible rfl) ?_) | (refine ObR.map (by (first | omega | assumption | (simp only [List.length_map, List.length_append, List.length_cons, List.length_nil, List.length_take, List.length_drop, List.length_set, List.length_replicate, hfl, AV.cells, AV.fine, AV.one, iA]; omega))) (fun x hx => ?_)) | (refine ObR.mk _ rfl ?_))))
    conv => whnf
    refine Again.mk (j + 1) ?_ ?_ (Fg.go ?_ rfl)
    · omega
    · omega
    repeat' ((conv => whnf); first | ((with_reducible refine ObEqs.mk ?_ ?_); (focus rfl)) | ((with_reducible refine ObEq1.i ?_ ?_); (focus (first | (with_reducible rfl) | omega))) | exact True.intro)
  · obtain rfl : j = (ps a 32).length := by omega
    rw [fl_all a ha]
    clear hfl
    repeat' ((conv => whnf); first | (with_reducible refine SeqP.go ?_) | exact SameP.mk rfl rfl | (with_reducible refine ObAnd.mk ?_ ?_) | (with_reducible refine ObDx.same ?_) | ((with_reducible refine (?_ : pK _ _ _ _)); (refine pK_to 32 ?_ _ (bC_s32 (by first | exact ha | simp [ha])) ?_); (focus rfl)) | ((with_reducible refine (?_ : pK _ _ _ _)); (refine pK_to 33 ?_ _ (bC_s33 (by first | exact ha | simp [ha])) ?_); (focus rfl)) | ((with_reducible refine (?_ : oK _ _ _ _)); (refine oK_all (by simp [ha, AV.cells]) ?_)) | ((with_reducible refine (?_ : fzL _ _ _)); (refine fzL_p bC_c0 ?_)) | ((with_reducible refine ObD.mk ?_ ?_); (focus (simp only [bC_cl, bC_fine, List.length_set, ha]; rfl))) | ((with_reducible refine ObD.mk ?_ ?_); (focus (first | rfl | (simp [ha, AV.cells, AV.fine, AV.one, iA]; done)))) | ((with_reducible refine ObN.mk ?_ ?_); (focus (first | rfl | assumption | omega | (simp only [List.length_map, List.length_append, List.length_cons, List.length_nil, ha, AV.cells, AV.fine, AV.one, iA]; omega) | (simp [ha, AV.cells, AV.fine, AV.one, iA]; done) | (simp [ha, AV.cells, AV.fine, AV.one, iA]; omega)))) | (with_reducible refine ObT.ff ?_) | ((with_reducible refine ObB.no ?_ ?_); (focus (first | assumption | omega))) | ((with_reducible refine (?_ : ObL _ _)); (refine ObL.mk _ (by first | exact ((List.length_map _).trans (List.length_map _)) | assumption | exact (List.length_map _).trans (by assumption) | exact List.length_map _ | rfl) ?_)) | ((with_reducible refine (?_ : ObU _ _)); (refine ObU.mk _ (by first | assumption | ((conv => lhs; simp only [List.set_cons_zero, List.set_cons_succ, List.take_succ_cons, List.take_zero, List.drop_succ_cons, List.drop_zero, List.nil_append, List.cons_append, List.append_nil, List.take_nil, List.drop_nil, ha, AV.cells, AV.fine, AV.one, iA]); try rfl) | rfl) ?_)) | ((with_reducible refine (?_ : ObR _ _ _)); (first | (refine ObR.mk _ (by assumption) ?_) | (refine ObR.mk _ (by with_reducible rfl) ?_) | (refine ObR.map (by (first | omega | assumption | (simp only [List.length_map, List.length_append, List.length_cons, List.length_nil, List.length_take, List.length_drop, List.length_set, List.length_replicate, ha, AV.cells, AV.fine, AV.one, iA]; omega))) (fun x hx => ?_)) | (refine ObR.mk _ rfl ?_))) | ((with_reducible refine ObEq.mk ?_); (focus (first | rfl | assumption))))
theorem of7x (kn : Int) (ke va : ByteArray) (mp : Nat) (kk : List Int) (mn : Int) (ls : List Pr) (sz bi e : Int) (h21 : PC Try.prog G 21 [nV kn ke va (mp : Int) kk mn ls sz bi] (I e)) (hx : ¬ kn = 2 ∨ ¬ e = 0) : PC Try.prog G 7 [nV kn ke va (mp : Int) kk mn ls sz bi] (bV z32 0 0) := by
  by_cases hk : kn = 2
  · have he : ¬ e = 0 := hx.resolve_left (fun h => h hk)
    refine pc_ofV cop7 ?_
    repeat' ((conv => whnf); first | (with_reducible refine SeqP.go ?_) | ((with_reducible refine ObD.mk ?_ ?_); (focus (first | rfl | (simp; done)))) | ((with_reducible refine ObN.mk ?_ ?_); (focus (first | rfl | assumption | omega | (simp only [List.length_map, List.length_append, List.length_cons, List.length_nil]; omega) | (simp; done) | (simp; omega)))) | (with_reducible refine ObT.tt ?_) | (with_reducible refine ObT.ff ?_) | ((with_reducible refine ObB.yes ?_ ?_); (focus (first | assumption | (with_reducible rfl) | omega))) | ((with_reducible refine ObB.no ?_ ?_); (focus (first | assumption | omega))) | ((with_reducible refine (?_ : ObU _ _)); (refine ObU.mk _ (by first | assumption | ((conv => lhs; simp only [List.set_cons_zero, List.set_cons_succ, List.take_succ_cons, List.take_zero, List.drop_succ_cons, List.drop_zero, List.nil_append, List.cons_append, List.append_nil, List.take_nil, List.drop_nil]); try rfl) | rfl) ?_)) | ((with_reducible refine (?_ : ObR _ _ _)); (first | (refine ObR.mk _ (by assumption) ?_) | (refine ObR.mk _ (by with_reducible rfl) ?_) | (refine ObR.map (by (first | omega | assumption | (simp only [List.length_map, List.length_append, List.length_cons, List.length_nil, List.length_take, List.length_drop, List.length_set, List.length_replicate]; omega))) (fun x hx => ?_)) | (refine ObR.mk _ rfl ?_))) | ((with_reducible refine ObC.f 21 ?_); (first | (with_reducible refine ObC.mk _ (h21) ?_) | (refine ObC.mk _ (h21) ?_))) | ((with_reducible refine ObEq.mk ?_); (focus (first | rfl | assumption))))
  · refine pc_ofV cop7 ?_
    repeat' ((conv => whnf); first | (with_reducible refine SeqP.go ?_) | ((with_reducible refine ObD.mk ?_ ?_); (focus (first | rfl | (simp; done)))) | ((with_reducible refine ObN.mk ?_ ?_); (focus (first | rfl | assumption | omega | (simp only [List.length_map, List.length_append, List.length_cons, List.length_nil]; omega) | (simp; done) | (simp; omega)))) | (with_reducible refine ObT.tt ?_) | ((with_reducible refine ObB.no ?_ ?_); (focus (first | assumption | omega))) | ((with_reducible refine (?_ : ObU _ _)); (refine ObU.mk _ (by first | assumption | ((conv => lhs; simp only [List.set_cons_zero, List.set_cons_succ, List.take_succ_cons, List.take_zero, List.drop_succ_cons, List.drop_zero, List.nil_append, List.cons_append, List.append_nil, List.take_nil, List.drop_nil]); try rfl) | rfl) ?_)) | ((with_reducible refine (?_ : ObR _ _ _)); (first | (refine ObR.mk _ (by assumption) ?_) | (refine ObR.mk _ (by with_reducible rfl) ?_) | (refine ObR.map (by (first | omega | assumption | (simp only [List.length_map, List.length_append, List.length_cons, List.length_nil, List.length_take, List.length_drop, List.length_set, List.length_replicate]; omega))) (fun x hx => ?_)) | (refine ObR.mk _ rfl ?_))) | ((with_reducible refine ObEq.mk ?_); (focus (first | rfl | assumption))))
theorem z32_0 : ∀ i : Fin 32, z32.getD i.1 0 = 0 := by decide
theorem bm_z : bm z32 = 0 := by
  refine (eq_bm (a := z32) (m := 0) (by decide) ?_).symm
  intro j hj
  rw [Nat.zero_testBit]
  symm
  rw [decide_eq_false_iff_not]
  exact fun h => h (z32_0 ⟨j, hj⟩)
theorem kz_z : kz z32 = [] := by decide
theorem asBr23 (a : List Int) (sz bi : Int) (ha : a.length = 32) (h18 : PC Try.prog G 18 [nB a sz bi] (I 0)) : PC Try.prog G 23 [nB a sz bi] (nB a sz bi) := by
  have hk := kz_len a
  have h40 := copyN G 2 (ByteArray.mk #[]) (ByteArray.mk #[]) (bm a : Int) (kz a) 0 [] sz bi (by omega) (by simp)
  refine pc_ofV cop23 ?_
  repeat' ((conv => whnf); first | (with_reducible refine SeqP.go ?_) | ((with_reducible refine ObD.mk ?_ ?_); (focus (first | rfl | (simp; done)))) | ((with_reducible refine ObN.mk ?_ ?_); (focus (first | rfl | assumption | omega | (simp only [List.length_map, List.length_append, List.length_cons, List.length_nil]; omega) | (simp; done) | (simp; omega)))) | (with_reducible refine ObT.ff ?_) | ((with_reducible refine ObB.yes ?_ ?_); (focus (first | assumption | (with_reducible rfl) | omega))) | ((with_reducible refine (?_ : ObU _ _)); (refine ObU.mk _ (by first | assumption | ((conv => lhs; simp only [List.set_cons_zero, List.set_cons_succ, List.take_succ_cons, List.take_zero, List.drop_succ_cons, List.drop_zero, List.nil_append, List.cons_append, List.append_nil, List.take_nil, List.drop_nil]); try rfl) | rfl) ?_)) | ((with_reducible refine (?_ : ObR _ _ _)); (first | (refine ObR.mk _ (by assumption) ?_) | (refine ObR.mk _ (by with_reducible rfl) ?_) | (refine ObR.map (by (first | omega | assumption | (simp only [List.length_map, List.length_append, List.length_cons, List.length_nil, List.length_take, List.length_drop, List.length_set, List.length_replicate]; omega))) (fun x hx => ?_)) | (refine ObR.mk _ rfl ?_))) | ((with_reducible refine ObC.f 18 ?_); (first | (with_reducible refine ObC.mk _ (h18) ?_) | (refine ObC.mk _ (h18) ?_))) | ((with_reducible refine ObC.f 40 ?_); (first | (with_reducible refine ObC.mk _ (h40) ?_) | (refine ObC.mk _ (h40) ?_))) | ((with_reducible refine ObEq.mk ?_); (focus (first | rfl | assumption))))
theorem asBr23x (kn : Int) (ke va : ByteArray) (mp : Nat) (kk : List Int) (mn : Int) (ls : List Pr) (sz bi e : Int) (h18 : PC Try.prog G 18 [nV kn ke va (mp : Int) kk mn ls sz bi] (I e)) (hx : ¬ kn = 2 ∨ ¬ e = 0) : PC Try.prog G 23 [nV kn ke va (mp : Int) kk mn ls sz bi] (nB z32 0 0) := by
  have h39 : PC Try.prog G 39 [.v (.int .u32 0), .sl 1 [], I 0] (nB z32 0 0) := by
    have := branch20 G 0 [] 0 (by simp)
    unfold nB
    rw [bm_z, kz_z]
    exact this
  by_cases hk : kn = 2
  · have he : ¬ e = 0 := hx.resolve_left (fun h => h hk)
    refine pc_ofV cop23 ?_
    repeat' ((conv => whnf); first | (with_reducible refine SeqP.go ?_) | ((with_reducible refine ObD.mk ?_ ?_); (focus (first | rfl | (simp; done)))) | ((with_reducible refine ObN.mk ?_ ?_); (focus (first | rfl | assumption | omega | (simp only [List.length_map, List.length_append, List.length_cons, List.length_nil]; omega) | (simp; done) | (simp; omega)))) | (with_reducible refine ObT.tt ?_) | (with_reducible refine ObT.ff ?_) | ((with_reducible refine ObB.yes ?_ ?_); (focus (first | assumption | (with_reducible rfl) | omega))) | ((with_reducible refine ObB.no ?_ ?_); (focus (first | assumption | omega))) | ((with_reducible refine (?_ : ObU _ _)); (refine ObU.mk _ (by first | assumption | ((conv => lhs; simp only [List.set_cons_zero, List.set_cons_succ, List.take_succ_cons, List.take_zero, List.drop_succ_cons, List.drop_zero, List.nil_append, List.cons_append, List.append_nil, List.take_nil, List.drop_nil]); try rfl) | rfl) ?_)) | ((with_reducible refine (?_ : ObR _ _ _)); (first | (refine ObR.mk _ (by assumption) ?_) | (refine ObR.mk _ (by with_reducible rfl) ?_) | (refine ObR.map (by (first | omega | assumption | (simp only [List.length_map, List.length_append, List.length_cons, List.length_nil, List.length_take, List.length_drop, List.length_set, List.length_replicate]; omega))) (fun x hx => ?_)) | (refine ObR.mk _ rfl ?_))) | ((with_reducible refine ObC.f 18 ?_); (first | (with_reducible refine ObC.mk _ (h18) ?_) | (refine ObC.mk _ (h18) ?_))) | ((with_reducible refine ObC.f 39 ?_); (first | (with_reducible refine ObC.mk _ (h39) ?_) | (refine ObC.mk _ (h39) ?_))) | ((with_reducible refine ObEq.mk ?_); (focus (first | rfl | assumption))))
  · refine pc_ofV cop23 ?_
    repeat' ((conv => whnf); first | (with_reducible refine SeqP.go ?_) | ((with_reducible refine ObD.mk ?_ ?_); (focus (first | rfl | (simp; done)))) | ((with_reducible refine ObN.mk ?_ ?_); (focus (first | rfl | assumption | omega | (simp only [List.length_map, List.length_append, List.length_cons, List.length_nil]; omega) | (simp; done) | (simp; omega)))) | (with_reducible refine ObT.tt ?_) | ((with_reducible refine ObB.no ?_ ?_); (focus (first | assumption | omega))) | ((with_reducible refine (?_ : ObU _ _)); (refine ObU.mk _ (by first | assumption | ((conv => lhs; simp only [List.set_cons_zero, List.set_cons_succ, List.take_succ_cons, List.take_zero, List.drop_succ_cons, List.drop_zero, List.nil_append, List.cons_append, List.append_nil, List.take_nil, List.drop_nil]); try rfl) | rfl) ?_)) | ((with_reducible refine (?_ : ObR _ _ _)); (first | (refine ObR.mk _ (by assumption) ?_) | (refine ObR.mk _ (by with_reducible rfl) ?_) | (refine ObR.map (by (first | omega | assumption | (simp only [List.length_map, List.length_append, List.length_cons, List.length_nil, List.length_take, List.length_drop, List.length_set, List.length_replicate]; omega))) (fun x hx => ?_)) | (refine ObR.mk _ rfl ?_))) | ((with_reducible refine ObC.f 39 ?_); (first | (with_reducible refine ObC.mk _ (h39) ?_) | (refine ObC.mk _ (h39) ?_))) | ((with_reducible refine ObEq.mk ?_); (focus (first | rfl | assumption))))
end
end Go.Proofs.Ytfdfmhapcjckoaa.Sim
namespace Go.Proofs.Ytfdfmhapcjckoaa.Sim
open Go.RowKit
set_option maxRecDepth 100000
set_option linter.unusedSectionVars false
section
variable (G : Nat → AV)
theorem works14 : PC Try.prog G 14 [] (Bo true) := runsTo_true tab_ok (n := 2000) (by kernel_rfl)
theorem form2 (ke va : ByteArray) (mp : Nat) (kk : List Int) (mn : Int) (ls : List Pr) (sz bi : Int) (hm : mp < 4294967296) (h : FormP 2 ke va mp kk mn ls sz bi) : nV 2 ke va (mp : Int) kk mn ls sz bi = nB (arr mp kk) sz bi := by
  obtain ⟨_, hf⟩ := h
  obtain ⟨h0, hl, hz, hb⟩ : ¬ (0 : Int) ∈ kk ∧ ((kk.length : Nat) : Int) = ((upI mp 32).length : Nat) ∧ 0 ≤ sz ∧ BareP ke va mp kk mn ls true false true true := by
    rcases hf with ⟨h, _⟩ | ⟨_, h1, h2, h3, h4⟩ | ⟨h, _⟩ | ⟨h, _⟩ | ⟨h, _⟩
    · omega
    · exact ⟨h1, h2, h3, h4⟩
    all_goals omega
  obtain ⟨hb1, _, hb3, hb4⟩ := hb
  obtain ⟨rfl, rfl⟩ := hb1 rfl
  obtain rfl : mn = 0 := hb3 rfl
  obtain rfl : ls = [] := lenZ.1 (hb4 rfl)
  have hkl : kk.length = (Mk.all mp).length := by
    have : (upI mp 32).length = (Mk.all mp).length := by unfold upI; rw [List.length_map]; rfl
    omega
  unfold nB
  rw [← arr_bm hm hkl h0, ← arr_kz hm hkl h0]
theorem norm (kn : Int) (ke va : ByteArray) (mp : Nat) (kk : List Int) (mn : Int) (ls : List Pr) (sz bi : Int) (hm : mp < 4294967296) (a1 : ke.size ≤ 40) (a2 : va.size ≤ 40) (a3 : kk.length ≤ 40) (a4 : ls.length ≤ 40) (a5 : ∀ p ∈ ls, p.1.size ≤ 40 ∧ p.2.size ≤ 40) : ∃ (a : List Int) (s b : Int), a.length = 32 ∧ PC Try.prog G 23 [nV kn ke va (mp : Int) kk mn ls sz bi] (nB a s b) ∧ PC Try.prog G 7 [nV kn ke va (mp : Int) kk mn ls sz bi] (bV a s b) ∧ 0 ≤ s ∧ 0 ≤ b := by
  obtain ⟨q, hq⟩ := tf (FormP kn ke va mp kk mn ls sz bi)
  have h8 := may8 G kn ke va mp kk mn ls sz bi hm a1 a2 a3 a4 a5 q hq
  have h9 := may9 G kn ke va mp kk mn ls sz bi hm a3 a4 a5 q hq
  by_cases hk : kn = 2 ∧ mayE kn (lg (ke, va) || ls.any lg) q = 0
  · obtain ⟨rfl, he⟩ := hk
    have hqt : q = true := by
      cases q
      · unfold mayE at he
        rw [if_neg (by decide), if_neg (by decide)] at he
        split at he <;> simp at he
      · rfl
    rw [he] at h8 h9
    have hf := hq.1 hqt
    have e3 := form2 ke va mp kk mn ls sz bi hm hf
    have hb : 0 ≤ bi := Int.not_lt.1 hf.1
    have hz : 0 ≤ sz := by
      rcases hf.2 with ⟨h, _⟩ | ⟨_, h1, h2, h3, h4⟩ | ⟨h, _⟩ | ⟨h, _⟩ | ⟨h, _⟩
      · omega
      · exact h3
      all_goals omega
    rw [e3] at h8 h9 ⊢
    exact ⟨arr mp kk, sz, bi, arr_len _ _, asBr23 G _ sz bi (arr_len _ _) h8, of7 G _ sz bi (arr_len _ _) h9, hz, hb⟩
  · have hx : ¬ kn = 2 ∨ ¬ mayE kn (lg (ke, va) || ls.any lg) q = 0 := by
      by_cases h2 : kn = 2
      · exact .inr fun h => hk ⟨h2, h⟩
      · exact .inl h2
    exact ⟨z32, 0, 0, rfl, asBr23x G kn ke va mp kk mn ls sz bi _ h8 hx, of7x G kn ke va mp kk mn ls sz bi _ h9 hx, Int.le_refl 0, Int.le_refl 0⟩
variable {kn : Int} {ke va : ByteArray} {mp : Nat} {kk : List Int} {mn : Int} {ls : List Pr} {sz bi : Int} {a : List Int} {s b : Int} (ha : a.length = 32) (h23 : PC Try.prog G 23 [nV kn ke va (mp : Int) kk mn ls sz bi] (nB a s b))
include ha h23
end
end Go.Proofs.Ytfdfmhapcjckoaa.Sim
namespace Go.Proofs.Ytfdfmhapcjckoaa.Sim
open Go.RowKit
set_option maxRecDepth 100000
set_option linter.unusedSectionVars false
section
variable (G : Nat → AV)
abbrev nK2 (m : Nat) (l : List Int) (s b : Int) : AV := nV 2 (ByteArray.mk #[]) (ByteArray.mk #[]) (m : Int) l 0 [] s b
theorem changed31 (m m' : Nat) (l l' : List Int) (s b : Int) (hl : l'.length ≤ 40) : PC Try.prog G 31 [nK2 m l s b, .v (.int .u32 (m' : Int)), .sl 1 (l'.map iA)] (nK2 m' l' s b) := by
  have h39 := branch20 G (m' : Int) l' s hl
  refine pc_ofV cop31 ?_
  repeat' ((conv => whnf); first | (with_reducible refine SeqP.go ?_) | ((with_reducible refine ObD.mk ?_ ?_); (focus (first | rfl | (simp; done)))) | ((with_reducible refine ObN.mk ?_ ?_); (focus (first | rfl | assumption | omega | (simp only [List.length_map, List.length_append, List.length_cons, List.length_nil]; omega) | (simp; done) | (simp; omega)))) | ((with_reducible refine (?_ : ObU _ _)); (refine ObU.mk _ (by first | assumption | ((conv => lhs; simp only [List.set_cons_zero, List.set_cons_succ, List.take_succ_cons, List.take_zero, List.drop_succ_cons, List.drop_zero, List.nil_append, List.cons_append, List.append_nil, List.take_nil, List.drop_nil]); try rfl) | rfl) ?_)) | ((with_reducible refine (?_ : ObR _ _ _)); (first | (refine ObR.mk _ (by assumption) ?_) | (refine ObR.mk _ (by with_reducible rfl) ?_) | (refine ObR.map (by (first | omega | assumption | (simp only [List.length_map, List.length_append, List.length_cons, List.length_nil, List.length_take, List.length_drop, List.length_set, List.length_replicate]; omega))) (fun x hx => ?_)) | (refine ObR.mk _ rfl ?_))) | ((with_reducible refine ObC.f 39 ?_); (first | (with_reducible refine ObC.mk _ (h39) ?_) | (refine ObC.mk _ (h39) ?_))) | ((with_reducible refine ObEq.mk ?_); (focus (first | rfl | assumption))))
section
variable {kn : Int} {ke va : ByteArray} {mp : Nat} {kk : List Int} {mn : Int} {ls : List Pr} {sz bi : Int} {mA mC : Nat} {P O Q : List Int} {n : Nat} {s b : Int} (hn : n < 32) (hP : P.length ≤ 32) (hO : O.length ≤ 32) (hQ : Q.length ≤ 32)
include hn hP hO hQ
set_option maxHeartbeats 4000000 in
theorem with16g {r : Int} (hr : ¬ r = 0) (h23 : PC Try.prog G 23 [nV kn ke va (mp : Int) kk mn ls sz bi] (nK2 mA (P ++ (O ++ Q)) s b)) (h29 : PC Try.prog G 29 [.v (.int .u32 (mA : Int)), I n] (.v (.int .u32 (mC : Int)))) (h25 : PC Try.prog G 25 [.v (.int .u32 (mC : Int)), I n] (Bo true))
    (h26 : PC Try.prog G 26 [.v (.int .u32 (mC : Int)), I n] (I (P.length : Nat))) (h26' : PC Try.prog G 26 [.v (.int .u32 (mA : Int)), I ((n + 1 : Nat) : Int)] (I ((P.length + O.length : Nat) : Int))) (h30 : PC Try.prog G 30 [.v (.int .u32 (mC : Int))] (I ((P.length + 1 + Q.length : Nat) : Int)))
    (h31 : PC Try.prog G 31 [nK2 mA (P ++ (O ++ Q)) s b, .v (.int .u32 (mC : Int)), .sl 1 ((P ++ (r :: Q)).map iA)] (nK2 mC (P ++ (r :: Q)) s b)) : PC Try.prog G 16 [nV kn ke va (mp : Int) kk mn ls sz bi, I n, I r] (nK2 mC (P ++ (r :: Q)) s b) := by
  have l0 : ((P ++ (O ++ Q)).map iA).length = P.length + O.length + Q.length := by simp [Nat.add_assoc]
  have u1 : ((((P ++ (O ++ Q)).map iA).take P.length).drop 0) = P.map iA := by simp [List.map_append]
  have l1 : min (P.map iA).length (P.length + 1 + Q.length) = P.length := by simp; omega
  have u2 : (P.map iA).take P.length ++ (List.replicate (P.length + 1 + Q.length) (I 0)).drop P.length = P.map iA ++ List.replicate (1 + Q.length) (I 0) := by
    rw [List.take_of_length_le (by simp), List.drop_replicate]; congr 2; omega
  have u3 : (P.map iA ++ List.replicate (1 + Q.length) (I 0)).set P.length (I r) = P.map iA ++ (I r :: List.replicate Q.length (I 0)) := by
    rw [List.set_append_right _ _ (by simp), List.length_map, Nat.sub_self, Nat.add_comm, List.replicate_succ]; rfl
  have u4 : ∀ j, P.length + O.length + Q.length ≤ j → (((P ++ (O ++ Q)).map iA).take j).drop (P.length + O.length) = Q.map iA := fun j hj => by
    rw [List.take_of_length_le (by omega), ← List.append_assoc, List.map_append, List.drop_append_of_le_length (by simp), List.drop_of_length_le (by simp)]; rfl
  have l2 : min (Q.map iA).length (P.length + 1 + Q.length - (P.length + 1)) = Q.length := by simp <;> omega
  have u5 : (P.map iA ++ (I r :: List.replicate Q.length (I 0))).take (P.length + 1) ++ ((Q.map iA).take Q.length ++ (P.map iA ++ (I r :: List.replicate Q.length (I 0))).drop (P.length + 1 + Q.length)) = (P ++ (r :: Q)).map iA := by
    rw [List.take_of_length_le (l := Q.map iA) (by simp), List.drop_of_length_le (by simp; omega), List.append_nil, List.take_append, List.take_of_length_le (by simp), List.length_map]
    simp [Nat.add_sub_cancel_left, List.map_append, iA]
  have u6 : ((P ++ (r :: Q)).map iA).take (P.length + 1 + Q.length) = (P ++ (r :: Q)).map iA := List.take_of_length_le (by simp; omega)
  have r3 : (P.map iA ++ List.replicate (1 + Q.length) (I 0))[P.length]? = some (I 0) := by
    rw [List.getElem?_append_right (by simp), List.length_map, Nat.sub_self, Nat.add_comm, List.replicate_succ, List.getElem?_cons_zero]
  have g3 : (P.map iA ++ List.replicate (1 + Q.length) (I 0)).length = P.length + 1 + Q.length := by simp; omega
  have g4 : (P.map iA ++ (I r :: List.replicate Q.length (I 0))).length = P.length + 1 + Q.length := by simp; omega
  have g5 : ((P ++ (r :: Q)).map iA).length = P.length + 1 + Q.length := by simp; omega
  refine pc_ofV cop16 ?_
  repeat' ((conv => whnf); first | (with_reducible refine SeqP.go ?_) | ((with_reducible refine ObD.mk ?_ ?_); (focus (first | rfl | (simp; done)))) | ((with_reducible refine ObN.mk ?_ ?_); (focus (first | exact (all_iA _) | rfl | assumption | omega | (simp only [List.length_map, List.length_append, List.length_cons, List.length_nil]; omega) | (simp; done) | (simp; omega)))) | (with_reducible refine ObT.tt ?_) | (with_reducible refine ObT.ff ?_) | ((with_reducible refine ObB.no ?_ ?_); (focus (first | assumption | omega))) | ((with_reducible refine ObI.nl ?_ ?_); (focus omega)) | ((with_reducible refine ObX.mk _ rfl ?_ ?_); (focus (first | omega | assumption | (simp only [List.length_map, List.length_append, List.length_cons, List.length_nil, List.length_take, List.length_drop, List.length_set, List.length_replicate]; omega)))) | ((with_reducible refine ObY.mk _ rfl ?_ ?_); (focus (first | omega | assumption | (simp only [List.length_map, List.length_append, List.length_cons, List.length_nil, List.length_take, List.length_drop, List.length_set, List.length_replicate]; omega)))) | ((with_reducible refine (?_ : ObL _ _)); (refine ObL.mk _ (by first | exact l1 | exact l2 | exact (Int.toNat_natCast _) | assumption | exact (List.length_map _).trans (by assumption) | exact List.length_map _ | rfl) ?_)) | ((with_reducible refine (?_ : ObU _ _)); (refine ObU.mk _ (by first | exact u1 | exact u2 | exact u3 | exact (u4 _ (by omega)) | exact u5 | exact u6 | assumption | ((conv => lhs; simp only [List.set_cons_zero, List.set_cons_succ, List.take_succ_cons, List.take_zero, List.drop_succ_cons, List.drop_zero, List.nil_append, List.cons_append, List.append_nil, List.take_nil, List.drop_nil]); try rfl) | rfl) ?_)) | ((with_reducible refine (?_ : ObR _ _ _)); (first | (refine ObR.mk _ (by assumption) ?_) | (refine ObR.mk _ (by exact r3) ?_) | (refine ObR.mk _ (by with_reducible rfl) ?_) | (refine ObR.map (by (first | omega | assumption | (simp only [List.length_map, List.length_append, List.length_cons, List.length_nil, List.length_take, List.length_drop, List.length_set, List.length_replicate]; omega))) (fun x hx => ?_)) | (refine ObR.mk _ rfl ?_))) | ((with_reducible refine ObC.f 23 ?_); (first | (with_reducible refine ObC.mk _ (h23) ?_) | (refine ObC.mk _ (h23) ?_))) | ((with_reducible refine ObC.f 29 ?_); (first | (with_reducible refine ObC.mk _ (h29) ?_) | (refine ObC.mk _ (h29) ?_))) | ((with_reducible refine ObC.f 25 ?_); (first | (with_reducible refine ObC.mk _ (h25) ?_) | (refine ObC.mk _ (h25) ?_))) | ((with_reducible refine ObC.f 26 ?_); (first | (with_reducible refine ObC.mk _ (h26) ?_) | (refine ObC.mk _ (h26) ?_))) | ((with_reducible refine ObC.f 26 ?_); (first | (with_reducible refine ObC.mk _ (h26') ?_) | (refine ObC.mk _ (h26') ?_))) | ((with_reducible refine ObC.f 30 ?_); (first | (with_reducible refine ObC.mk _ (h30) ?_) | (refine ObC.mk _ (h30) ?_))) | ((with_reducible refine ObC.f 31 ?_); (first | (with_reducible refine ObC.mk _ (h31) ?_) | (refine ObC.mk _ (h31) ?_))) | ((with_reducible refine ObJ.nz ?_ ?_); (focus (first | omega | assumption | (simp only [List.length_map, List.length_append, List.length_cons, List.length_nil, List.length_take, List.length_drop, List.length_set, List.length_replicate]; omega)))) | ((with_reducible refine ObJ.zn ?_ ?_); (focus (first | omega | assumption | (simp only [List.length_map, List.length_append, List.length_cons, List.length_nil, List.length_take, List.length_drop, List.length_set, List.length_replicate]; omega)))) | ((with_reducible refine ObEq.mk ?_); (focus (first | rfl | assumption))))
theorem with16z (h23 : PC Try.prog G 23 [nV kn ke va (mp : Int) kk mn ls sz bi] (nK2 mA Q s b)) {i : Int} {v : Nat} (h29 : PC Try.prog G 29 [.v (.int .u32 (mA : Int)), I i] (.v (.int .u32 (v : Int)))) : PC Try.prog G 16 [nV kn ke va (mp : Int) kk mn ls sz bi, I i, I 0] (nK2 mA Q s b) := by
  refine pc_ofV cop16 ?_
  repeat' ((conv => whnf); first | (with_reducible refine SeqP.go ?_) | ((with_reducible refine ObD.mk ?_ ?_); (focus (first | rfl | (simp; done)))) | ((with_reducible refine ObN.mk ?_ ?_); (focus (first | rfl | assumption | omega | (simp only [List.length_map, List.length_append, List.length_cons, List.length_nil]; omega) | (simp; done) | (simp; omega)))) | (with_reducible refine ObT.tt ?_) | ((with_reducible refine ObB.yes ?_ ?_); (focus (first | assumption | (with_reducible rfl) | omega))) | ((with_reducible refine (?_ : ObU _ _)); (refine ObU.mk _ (by first | assumption | ((conv => lhs; simp only [List.set_cons_zero, List.set_cons_succ, List.take_succ_cons, List.take_zero, List.drop_succ_cons, List.drop_zero, List.nil_append, List.cons_append, List.append_nil, List.take_nil, List.drop_nil]); try rfl) | rfl) ?_)) | ((with_reducible refine (?_ : ObR _ _ _)); (first | (refine ObR.mk _ (by assumption) ?_) | (refine ObR.mk _ (by with_reducible rfl) ?_) | (refine ObR.map (by (first | omega | assumption | (simp only [List.length_map, List.length_append, List.length_cons, List.length_nil, List.length_take, List.length_drop, List.length_set, List.length_replicate]; omega))) (fun x hx => ?_)) | (refine ObR.mk _ rfl ?_))) | ((with_reducible refine ObC.f 23 ?_); (first | (with_reducible refine ObC.mk _ (h23) ?_) | (refine ObC.mk _ (h23) ?_))) | ((with_reducible refine ObC.f 29 ?_); (first | (with_reducible refine ObC.mk _ (h29) ?_) | (refine ObC.mk _ (h29) ?_))) | ((with_reducible refine ObEq.mk ?_); (focus (first | rfl | assumption))))
theorem with16o {r : Int} (hr : ¬ r = 0) (h23 : PC Try.prog G 23 [nV kn ke va (mp : Int) kk mn ls sz bi] (nK2 mA Q s b)) {i : Int} {v : Nat} (h29 : PC Try.prog G 29 [.v (.int .u32 (mA : Int)), I i] (.v (.int .u32 (v : Int)))) (h25 : PC Try.prog G 25 [.v (.int .u32 (v : Int)), I i] (Bo false)) : PC Try.prog G 16 [nV kn ke va (mp : Int) kk mn ls sz bi, I i, I r] (nK2 mA Q s b) := by
  refine pc_ofV cop16 ?_
  repeat' ((conv => whnf); first | (with_reducible refine SeqP.go ?_) | ((with_reducible refine ObD.mk ?_ ?_); (focus (first | rfl | (simp; done)))) | ((with_reducible refine ObN.mk ?_ ?_); (focus (first | rfl | assumption | omega | (simp only [List.length_map, List.length_append, List.length_cons, List.length_nil]; omega) | (simp; done) | (simp; omega)))) | (with_reducible refine ObT.tt ?_) | (with_reducible refine ObT.ff ?_) | ((with_reducible refine ObB.no ?_ ?_); (focus (first | assumption | omega))) | ((with_reducible refine (?_ : ObU _ _)); (refine ObU.mk _ (by first | assumption | ((conv => lhs; simp only [List.set_cons_zero, List.set_cons_succ, List.take_succ_cons, List.take_zero, List.drop_succ_cons, List.drop_zero, List.nil_append, List.cons_append, List.append_nil, List.take_nil, List.drop_nil]); try rfl) | rfl) ?_)) | ((with_reducible refine (?_ : ObR _ _ _)); (first | (refine ObR.mk _ (by assumption) ?_) | (refine ObR.mk _ (by with_reducible rfl) ?_) | (refine ObR.map (by (first | omega | assumption | (simp only [List.length_map, List.length_append, List.length_cons, List.length_nil, List.length_take, List.length_drop, List.length_set, List.length_replicate]; omega))) (fun x hx => ?_)) | (refine ObR.mk _ rfl ?_))) | ((with_reducible refine ObC.f 23 ?_); (first | (with_reducible refine ObC.mk _ (h23) ?_) | (refine ObC.mk _ (h23) ?_))) | ((with_reducible refine ObC.f 29 ?_); (first | (with_reducible refine ObC.mk _ (h29) ?_) | (refine ObC.mk _ (h29) ?_))) | ((with_reducible refine ObC.f 25 ?_); (first | (with_reducible refine ObC.mk _ (h25) ?_) | (refine ObC.mk _ (h25) ?_))) | ((with_reducible refine ObEq.mk ?_); (focus (first | rfl | assumption))))
set_option maxHeartbeats 4000000 in
theorem without17g {x : Int} (h23 : PC Try.prog G 23 [nV kn ke va (mp : Int) kk mn ls sz bi] (nK2 mA (P ++ (x :: Q)) s b)) (h25 : PC Try.prog G 25 [.v (.int .u32 (mA : Int)), I n] (Bo true)) (h32 : PC Try.prog G 32 [.v (.int .u32 (mA : Int)), I n] (.v (.int .u32 (mC : Int))))
    (h26 : PC Try.prog G 26 [.v (.int .u32 (mA : Int)), I n] (I (P.length : Nat))) (h30 : PC Try.prog G 30 [.v (.int .u32 (mC : Int))] (I ((P.length + Q.length : Nat) : Int)))
    (h31 : PC Try.prog G 31 [nK2 mA (P ++ (x :: Q)) s b, .v (.int .u32 (mC : Int)), .sl 1 ((P ++ Q).map iA)] (nK2 mC (P ++ Q) s b)) : PC Try.prog G 17 [nV kn ke va (mp : Int) kk mn ls sz bi, I n] (nK2 mC (P ++ Q) s b) := by
  have l0 : ((P ++ (x :: Q)).map iA).length = P.length + 1 + Q.length := by simp; omega
  have u1 : ((((P ++ (x :: Q)).map iA).take P.length).drop 0) = P.map iA := by simp [List.map_append]
  have l1 : min (P.map iA).length (P.length + Q.length) = P.length := by simp
  have u2 : (P.map iA).take P.length ++ (List.replicate (P.length + Q.length) (I 0)).drop P.length = P.map iA ++ List.replicate Q.length (I 0) := by
    rw [List.take_of_length_le (by simp), List.drop_replicate]; congr 2; omega
  have u4 : ∀ j, P.length + 1 + Q.length ≤ j → (((P ++ (x :: Q)).map iA).take j).drop (P.length + 1) = Q.map iA := fun j hj => by
    rw [List.take_of_length_le (by omega), List.map_append, List.map_cons, List.drop_append, List.drop_of_length_le (by simp), List.length_map, Nat.add_sub_cancel_left]; rfl
  have l2 : min (Q.map iA).length (P.length + Q.length - P.length) = Q.length := by simp
  have u5 : (P.map iA ++ List.replicate Q.length (I 0)).take P.length ++ ((Q.map iA).take Q.length ++ (P.map iA ++ List.replicate Q.length (I 0)).drop (P.length + Q.length)) = (P ++ Q).map iA := by
    rw [List.take_of_length_le (l := Q.map iA) (by simp), List.drop_of_length_le (by simp), List.append_nil, List.take_append_of_le_length (by simp), List.take_of_length_le (by simp), List.map_append]
  have u6 : ((P ++ Q).map iA).take (P.length + Q.length) = (P ++ Q).map iA := List.take_of_length_le (by simp)
  have g3 : (P.map iA ++ List.replicate Q.length (I 0)).length = P.length + Q.length := by simp
  have g5 : ((P ++ Q).map iA).length = P.length + Q.length := by simp
  refine pc_ofV cop17 ?_
  repeat' ((conv => whnf); first | (with_reducible refine SeqP.go ?_) | ((with_reducible refine ObD.mk ?_ ?_); (focus (first | rfl | (simp; done)))) | ((with_reducible refine ObN.mk ?_ ?_); (focus (first | exact (all_iA _) | rfl | assumption | omega | (simp only [List.length_map, List.length_append, List.length_cons, List.length_nil]; omega) | (simp; done) | (simp; omega)))) | (with_reducible refine ObT.tt ?_) | (with_reducible refine ObT.ff ?_) | ((with_reducible refine ObI.nl ?_ ?_); (focus omega)) | ((with_reducible refine ObY.mk _ rfl ?_ ?_); (focus (first | omega | assumption | (simp only [List.length_map, List.length_append, List.length_cons, List.length_nil, List.length_take, List.length_drop, List.length_set, List.length_replicate]; omega)))) | ((with_reducible refine (?_ : ObL _ _)); (refine ObL.mk _ (by first | exact l1 | exact l2 | exact (Int.toNat_natCast _) | assumption | exact (List.length_map _).trans (by assumption) | exact List.length_map _ | rfl) ?_)) | ((with_reducible refine (?_ : ObU _ _)); (refine ObU.mk _ (by first | exact u1 | exact u2 | exact (u4 _ (by omega)) | exact u5 | exact u6 | assumption | ((conv => lhs; simp only [List.set_cons_zero, List.set_cons_succ, List.take_succ_cons, List.take_zero, List.drop_succ_cons, List.drop_zero, List.nil_append, List.cons_append, List.append_nil, List.take_nil, List.drop_nil]); try rfl) | rfl) ?_)) | ((with_reducible refine (?_ : ObR _ _ _)); (first | (refine ObR.mk _ (by assumption) ?_) | (refine ObR.mk _ (by with_reducible rfl) ?_) | (refine ObR.map (by (first | omega | assumption | (simp only [List.length_map, List.length_append, List.length_cons, List.length_nil, List.length_take, List.length_drop, List.length_set, List.length_replicate]; omega))) (fun x hx => ?_)) | (refine ObR.mk _ rfl ?_))) | ((with_reducible refine ObC.f 23 ?_); (first | (with_reducible refine ObC.mk _ (h23) ?_) | (refine ObC.mk _ (h23) ?_))) | ((with_reducible refine ObC.f 32 ?_); (first | (with_reducible refine ObC.mk _ (h32) ?_) | (refine ObC.mk _ (h32) ?_))) | ((with_reducible refine ObC.f 25 ?_); (first | (with_reducible refine ObC.mk _ (h25) ?_) | (refine ObC.mk _ (h25) ?_))) | ((with_reducible refine ObC.f 26 ?_); (first | (with_reducible refine ObC.mk _ (h26) ?_) | (refine ObC.mk _ (h26) ?_))) | ((with_reducible refine ObC.f 30 ?_); (first | (with_reducible refine ObC.mk _ (h30) ?_) | (refine ObC.mk _ (h30) ?_))) | ((with_reducible refine ObC.f 31 ?_); (first | (with_reducible refine ObC.mk _ (h31) ?_) | (refine ObC.mk _ (h31) ?_))) | ((with_reducible refine ObJ.nz ?_ ?_); (focus (first | omega | assumption | (simp only [List.length_map, List.length_append, List.length_cons, List.length_nil, List.length_take, List.length_drop, List.length_set, List.length_replicate]; omega)))) | ((with_reducible refine ObJ.zn ?_ ?_); (focus (first | omega | assumption | (simp only [List.length_map, List.length_append, List.length_cons, List.length_nil, List.length_take, List.length_drop, List.length_set, List.length_replicate]; omega)))) | ((with_reducible refine ObEq.mk ?_); (focus (first | rfl | assumption))))
theorem without17o (h23 : PC Try.prog G 23 [nV kn ke va (mp : Int) kk mn ls sz bi] (nK2 mA Q s b)) {i : Int} (h25 : PC Try.prog G 25 [.v (.int .u32 (mA : Int)), I i] (Bo false)) : PC Try.prog G 17 [nV kn ke va (mp : Int) kk mn ls sz bi, I i] (nK2 mA Q s b) := by
  refine pc_ofV cop17 ?_
  repeat' ((conv => whnf); first | (with_reducible refine SeqP.go ?_) | ((with_reducible refine ObD.mk ?_ ?_); (focus (first | rfl | (simp; done)))) | ((with_reducible refine ObN.mk ?_ ?_); (focus (first | rfl | assumption | omega | (simp only [List.length_map, List.length_append, List.length_cons, List.length_nil]; omega) | (simp; done) | (simp; omega)))) | (with_reducible refine ObT.tt ?_) | (with_reducible refine ObT.ff ?_) | ((with_reducible refine (?_ : ObU _ _)); (refine ObU.mk _ (by first | assumption | ((conv => lhs; simp only [List.set_cons_zero, List.set_cons_succ, List.take_succ_cons, List.take_zero, List.drop_succ_cons, List.drop_zero, List.nil_append, List.cons_append, List.append_nil, List.take_nil, List.drop_nil]); try rfl) | rfl) ?_)) | ((with_reducible refine (?_ : ObR _ _ _)); (first | (refine ObR.mk _ (by assumption) ?_) | (refine ObR.mk _ (by with_reducible rfl) ?_) | (refine ObR.map (by (first | omega | assumption | (simp only [List.length_map, List.length_append, List.length_cons, List.length_nil, List.length_take, List.length_drop, List.length_set, List.length_replicate]; omega))) (fun x hx => ?_)) | (refine ObR.mk _ rfl ?_))) | ((with_reducible refine ObC.f 23 ?_); (first | (with_reducible refine ObC.mk _ (h23) ?_) | (refine ObC.mk _ (h23) ?_))) | ((with_reducible refine ObC.f 25 ?_); (first | (with_reducible refine ObC.mk _ (h25) ?_) | (refine ObC.mk _ (h25) ?_))) | ((with_reducible refine ObEq.mk ?_); (focus (first | rfl | assumption))))
end
end
end Go.Proofs.Ytfdfmhapcjckoaa.Sim
namespace Go.Proofs.Ytfdfmhapcjckoaa.Sim
open Go.RowKit
set_option maxRecDepth 100000
set_option linter.unusedSectionVars false
def wI (a : List Int) (i r : Int) : List Int := if r ≠ 0 then ptI a i r else a
theorem wI_len {a : List Int} (ha : a.length = 32) (i r : Int) : (wI a i r).length = 32 := by
  unfold wI
  split
  · exact ptI_len ha i r
  · exact ha
theorem take_set {a : List Int} {n : Nat} {r : Int} : (a.set n r).take n = a.take n := by
  rw [List.take_set]
  exact List.set_eq_of_length_le (by simp; omega)
section
variable (G : Nat → AV)
variable {kn : Int} {ke va : ByteArray} {mp : Nat} {kk : List Int} {mn : Int} {ls : List Pr} {sz bi : Int} {a : List Int} {s b : Int} (ha : a.length = 32) (h23 : PC Try.prog G 23 [nV kn ke va (mp : Int) kk mn ls sz bi] (nB a s b))
include ha h23
theorem with16 (i r : Int) (hi : i64 i) : PC Try.prog G 16 [nV kn ke va (mp : Int) kk mn ls sz bi, I i, I r] (nB (wI a i r) s b) := by
  have hkl := kz_len a
  have h29 := with29 G (bm a) i (bm_lt a) hi
  by_cases hr : r = 0
  · subst hr
    have e : wI a i 0 = a := by simp [wI]
    rw [e]
    exact with16z G (n := 0) (P := []) (O := []) (by omega) (by simp) (by simp) (by omega) h23 h29
  have ew : wI a i r = ptI a i r := by simp [wI, hr]
  rw [ew]
  by_cases hin : 0 ≤ i ∧ i < 32
  · have ep : ptI a i r = a.set i.toNat r := by unfold ptI; rw [if_pos hin]
    rw [ep]
    obtain ⟨n, rfl⟩ := Int.eq_ofNat_of_zero_le hin.1
    have hn : n < 32 := by omega
    rw [Int.toNat_natCast]
    have hc : (a.set n r).length = 32 := by simp [ha]
    have hg : (a.set n r).getD n 0 = r := by rw [set_getD (by omega), if_pos rfl]
    have h25 := has25 G (bm (a.set n r)) n (bm_lt _) hi
    rw [has_bm, Int.toNat_natCast, decide_eq_true ⟨by omega, by omega, by rw [hg]; exact hr⟩] at h25
    have h26 := place26 G (bm (a.set n r)) n (bm_lt _) hi
    rw [place_bm _ n hc (by omega), take_set] at h26
    have h26' := place26 G (bm a) ((n + 1 : Nat) : Int) (bm_lt a) (by unfold i64; omega)
    have hks := kz_succ a n (by omega)
    rw [place_bm a (n + 1) ha (by omega), hks, List.length_append] at h26'
    rw [with_bm a n ha hn r hr] at h29
    have h30 := count30 G (bm (a.set n r)) (bm_lt _)
    have hC := kz_set a n (by omega) r
    rw [if_pos hr, List.singleton_append] at hC
    have hA := kz_split a n (by omega)
    have hkc := kz_len (a.set n r)
    rw [← cnt_bm _ hc] at h30
    have h31 := changed31 G (bm a) (bm (a.set n r)) (kz a) (kz (a.set n r)) s b (by omega)
    unfold nB at h23 ⊢
    rw [hC] at h30 h31 hkc ⊢
    rw [hA] at h23 h31 hkl
    have hlen : (kz (a.take n) ++ r :: kz (a.drop (n + 1))).length = (kz (a.take n)).length + 1 + (kz (a.drop (n + 1))).length := by simp; omega
    rw [hlen] at h30 hkc
    simp only [List.length_append] at hkl
    exact with16g G hn (by omega) (by omega) (by omega) hr h23 h29 h25 h26 h26' h30 h31
  · have ep : ptI a i r = a := by unfold ptI; rw [if_neg hin]
    rw [ep]
    have hw : Mk.with_ (bm a) i = bm a := by unfold Mk.with_; rw [if_neg hin]
    rw [hw] at h29
    have h25 := has25 G (bm a) i (bm_lt a) hi
    rw [has_bm, decide_eq_false (fun h => hin ⟨h.1, h.2.1⟩)] at h25
    exact with16o G (n := 0) (P := []) (O := []) (by omega) (by simp) (by simp) (by omega) hr h23 h29 h25
theorem without17 (i : Int) (hi : i64 i) : PC Try.prog G 17 [nV kn ke va (mp : Int) kk mn ls sz bi, I i] (nB (ptI a i 0) s b) := by
  have hkl := kz_len a
  have h25 := has25 G (bm a) i (bm_lt a) hi
  rw [has_bm] at h25
  by_cases hin : 0 ≤ i ∧ i < 32
  · have ep : ptI a i 0 = a.set i.toNat 0 := by unfold ptI; rw [if_pos hin]
    rw [ep]
    obtain ⟨n, rfl⟩ := Int.eq_ofNat_of_zero_le hin.1
    have hn : n < 32 := by omega
    rw [Int.toNat_natCast] at h25 ⊢
    by_cases h0 : a.getD n 0 = 0
    · rw [decide_eq_false (fun h => h.2.2 h0)] at h25
      have e : a.set n 0 = a := by
        apply List.ext_getElem
        · simp
        · intro j h1 h2
          rw [List.getElem_set]
          split
          · rename_i e; subst e; rw [← h0]; simp [h2]
          · rfl
      rw [e]
      exact without17o G (n := 0) (P := []) (O := []) (by omega) (by simp) (by simp) (by omega) h23 h25
    rw [decide_eq_true ⟨by omega, by omega, h0⟩] at h25
    have hc : (a.set n 0).length = 32 := by simp [ha]
    have h26 := place26 G (bm a) n (bm_lt a) hi
    rw [place_bm _ n ha (by omega)] at h26
    have h32 := without32 G (bm a) n (bm_lt a) hi
    rw [without_bm a n ha hn] at h32
    have h30 := count30 G (bm (a.set n 0)) (bm_lt _)
    have hC := kz_set a n (by omega) 0
    rw [if_neg (by simp), List.nil_append] at hC
    have hA := kz_split a n (by omega)
    rw [if_pos h0, List.singleton_append] at hA
    have hkc := kz_len (a.set n 0)
    rw [← cnt_bm _ hc] at h30
    have h31 := changed31 G (bm a) (bm (a.set n 0)) (kz a) (kz (a.set n 0)) s b (by omega)
    unfold nB at h23 ⊢
    rw [hC] at h30 h31 hkc ⊢
    rw [hA] at h23 h31 hkl
    rw [List.length_append] at h30 hkc
    simp only [List.length_append, List.length_cons] at hkl
    exact without17g G (O := []) hn (by omega) (by simp) (by omega) h23 h25 h32 h26 h30 h31
  · have ep : ptI a i 0 = a := by unfold ptI; rw [if_neg hin]
    rw [ep]
    rw [decide_eq_false (fun h => hin ⟨h.1, h.2.1⟩)] at h25
    exact without17o G (n := 0) (P := []) (O := []) (by omega) (by simp) (by simp) (by omega) h23 h25
end
set_option maxHeartbeats 4000000 in
theorem changes4 (G : Nat → AV) (kn : Int) (ke va : ByteArray) (mp : Nat) (kk : List Int) (mn : Int) (ls : List Pr) (sz bi : Int) (hm : mp < 4294967296) (hke : ke.size ≤ 9223372036854775807) (hva : va.size ≤ 9223372036854775807) (hkk : kk.length ≤ 9223372036854775807) (hls : ls.length ≤ 9223372036854775807) (hs : ∀ p ∈ ls, p.1.size ≤ 9223372036854775807 ∧ p.2.size ≤ 9223372036854775807) (i r : Int) (hi : i64 i) :
    PC Try.prog G 4 [nV kn ke va (mp : Int) kk mn ls sz bi, I i, I r] (Bo true) := by
  have f1 := fewN G kn ke va mp kk mn ls sz bi hke hva hkk hls hs
  have a1 := cutB_size ke
  have a2 := cutB_size va
  have a3 : (few1 kk).length ≤ 40 := by rw [few1_len]; omega
  have a4 := few_len ls
  have a5 : ∀ p ∈ few ls, p.1.size ≤ 40 ∧ p.2.size ≤ 40 := few_sizes
  revert a1 a2 a3 a4 a5 f1
  generalize hke0 : cutB ke 40 = ke'
  generalize hva0 : cutB va 40 = va'
  generalize hkk0 : few1 kk = kk'
  generalize hls0 : few ls = ls'
  intro f1 a1 a2 a3 a4 a5
  clear hke0 hva0 hkk0 hls0
  have f2 := fewS G kn ke' va' mp kk' mn ls' sz bi a1 a2 a3 a4 a5
  obtain ⟨a, s, b, ha, h23, h7, _, _⟩ := norm G kn ke' va' mp kk' mn ls' sz bi hm a1 a2 a3 a4 a5
  have h16 := with16 G ha h23 i r hi
  have h17 := without17 G ha h23 i hi
  have h15 := put15 G a s b i r ha
  have h15z := put15 G a s b i 0 ha
  have hwl := wI_len ha i r
  have hzl := ptI_len ha i 0
  have h9 := node9 G (wI a i r) s b hwl
  have h9z := node9 G (ptI a i 0) s b hzl
  have hw := works14 G
  have hk1 := kz_len (wI a i r)
  have hk2 := kz_len (ptI a i 0)
  have h12 := same13r G 2 (ByteArray.mk #[]) (ByteArray.mk #[]) (bm (wI a i r) : Int) (kz (wI a i r)) 0 [] s b (by decide) (by decide) (by omega) (by simp)
  have h12z := same13r G 2 (ByteArray.mk #[]) (ByteArray.mk #[]) (bm (ptI a i 0) : Int) (kz (ptI a i 0)) 0 [] s b (by decide) (by decide) (by omega) (by simp)
  clear a5 hs h23 hi
  by_cases hr : r = 0
  · subst hr
    have e : wI a i 0 = a := by simp [wI]
    rw [e] at h16 h9 h12 hwl
    generalize ptI a i 0 = c at *
    clear e hk1 hk2
    refine pc_ofV cop4 ?_
    repeat' ((conv => whnf); first | (with_reducible refine SeqP.go ?_) | ((with_reducible refine (?_ : oK _ _ _ _)); (refine oK_all (by first | (simp [ha, AV.cells]; done) | (simp [ha, AV.cells]; assumption)) ?_)) | ((with_reducible refine (?_ : fzL _ _ _)); (refine fzL_p bC_c0 ?_)) | ((with_reducible refine ObD.mk ?_ ?_); (focus (simp only [bC_cl, bC_fine, List.length_set, ha]; rfl))) | ((with_reducible refine ObD.mk ?_ ?_); (focus (simp [chkB, geB, AOp.cls, AOp.xs, ltB, ltC, AX.ev, undefA, iA]; done))) | ((with_reducible refine ObD.mk ?_ ?_); (focus (first | rfl | (simp [ha, AV.cells, AV.fine, AV.one, iA, hzl]; done)))) | ((with_reducible refine ObN.mk ?_ ?_); (focus (first | rfl | assumption | omega | (simp only [List.length_map, List.length_append, List.length_cons, List.length_nil, ha, AV.cells, AV.fine, AV.one, iA, hzl]; omega) | (simp [ha, AV.cells, AV.fine, AV.one, iA, hzl]; done) | (simp [ha, AV.cells, AV.fine, AV.one, iA, hzl]; omega)))) | (with_reducible refine ObT.tt ?_) | (with_reducible refine ObT.ff ?_) | ((with_reducible refine ObB.yes ?_ ?_); (focus (first | assumption | (with_reducible rfl) | omega))) | ((with_reducible refine (?_ : ObU _ _)); (refine ObU.mk _ (by first | assumption | ((conv => lhs; simp only [List.set_cons_zero, List.set_cons_succ, List.take_succ_cons, List.take_zero, List.drop_succ_cons, List.drop_zero, List.nil_append, List.cons_append, List.append_nil, List.take_nil, List.drop_nil, ha, AV.cells, AV.fine, AV.one, iA, hzl]); try rfl) | rfl) ?_)) | ((with_reducible refine (?_ : ObR _ _ _)); (first | (refine ObR.mk _ (by assumption) ?_) | (refine ObR.mk _ (by with_reducible rfl) ?_) | (refine ObR.map (by (first | omega | assumption | (simp only [List.length_map, List.length_append, List.length_cons, List.length_nil, List.length_take, List.length_drop, List.length_set, List.length_replicate, ha, AV.cells, AV.fine, AV.one, iA, hzl]; omega))) (fun x hx => ?_)) | (refine ObR.mk _ rfl ?_))) | ((with_reducible refine ObC.f 14 ?_); (first | (with_reducible refine ObC.mk _ (hw) ?_) | (refine ObC.mk _ (hw) ?_))) | ((with_reducible refine ObC.f 6 ?_); (first | (with_reducible refine ObC.mk _ (f1) ?_) | (refine ObC.mk _ (f1) ?_))) | ((with_reducible refine ObC.f 6 ?_); (first | (with_reducible refine ObC.mk _ (f2) ?_) | (refine ObC.mk _ (f2) ?_))) | ((with_reducible refine ObC.f 7 ?_); (first | (with_reducible refine ObC.mk _ (h7) ?_) | (refine ObC.mk _ (h7) ?_))) | ((with_reducible refine ObC.f 9 ?_); (first | (with_reducible refine ObC.mk _ (h9) ?_) | (refine ObC.mk _ (h9) ?_))) | ((with_reducible refine ObC.f 9 ?_); (first | (with_reducible refine ObC.mk _ (h9z) ?_) | (refine ObC.mk _ (h9z) ?_))) | ((with_reducible refine ObC.f 15 ?_); (first | (with_reducible refine ObC.mk _ (h15z) ?_) | (refine ObC.mk _ (h15z) ?_))) | ((with_reducible refine ObC.f 16 ?_); (first | (with_reducible refine ObC.mk _ (h16) ?_) | (refine ObC.mk _ (h16) ?_))) | ((with_reducible refine ObC.f 17 ?_); (first | (with_reducible refine ObC.mk _ (h17) ?_) | (refine ObC.mk _ (h17) ?_))) | ((with_reducible refine ObC.f 12 ?_); (first | (with_reducible refine ObC.mk _ (h12) ?_) | (refine ObC.mk _ (h12) ?_))) | ((with_reducible refine ObC.f 12 ?_); (first | (with_reducible refine ObC.mk _ (h12z) ?_) | (refine ObC.mk _ (h12z) ?_))) | ((with_reducible refine ObEq.mk ?_); (focus (first | rfl | assumption))))
  · have e : wI a i r = ptI a i r := by simp [wI, hr]
    rw [← e] at h15
    generalize ptI a i 0 = c at *
    generalize wI a i r = d at *
    clear e hk1 hk2
    refine pc_ofV cop4 ?_
    repeat' ((conv => whnf); first | (with_reducible refine SeqP.go ?_) | ((with_reducible refine (?_ : oK _ _ _ _)); (refine oK_all (by first | (simp [ha, AV.cells]; done) | (simp [ha, AV.cells]; assumption)) ?_)) | ((with_reducible refine (?_ : fzL _ _ _)); (refine fzL_p bC_c0 ?_)) | ((with_reducible refine ObD.mk ?_ ?_); (focus (simp only [bC_cl, bC_fine, List.length_set, ha]; rfl))) | ((with_reducible refine ObD.mk ?_ ?_); (focus (simp [ha, AV.cells, AV.fine, AV.one, iA]; omega))) | ((with_reducible refine ObD.mk ?_ ?_); (focus (simp [chkB, geB, AOp.cls, AOp.xs, ltB, ltC, AX.ev, undefA, iA]; done))) | ((with_reducible refine ObD.mk ?_ ?_); (focus (first | rfl | (simp [ha, AV.cells, AV.fine, AV.one, iA, hzl, hwl]; done)))) | ((with_reducible refine ObN.mk ?_ ?_); (focus (first | rfl | assumption | omega | (simp only [List.length_map, List.length_append, List.length_cons, List.length_nil, ha, AV.cells, AV.fine, AV.one, iA, hzl, hwl]; omega) | (simp [ha, AV.cells, AV.fine, AV.one, iA, hzl, hwl]; done) | (simp [ha, AV.cells, AV.fine, AV.one, iA, hzl, hwl]; omega)))) | (with_reducible refine ObT.tt ?_) | ((with_reducible refine ObB.no ?_ ?_); (focus (first | assumption | omega))) | ((with_reducible refine (?_ : ObU _ _)); (refine ObU.mk _ (by first | assumption | ((conv => lhs; simp only [List.set_cons_zero, List.set_cons_succ, List.take_succ_cons, List.take_zero, List.drop_succ_cons, List.drop_zero, List.nil_append, List.cons_append, List.append_nil, List.take_nil, List.drop_nil, ha, AV.cells, AV.fine, AV.one, iA, hzl, hwl]); try rfl) | rfl) ?_)) | ((with_reducible refine (?_ : ObR _ _ _)); (first | (refine ObR.mk _ (by assumption) ?_) | (refine ObR.mk _ (by with_reducible rfl) ?_) | (refine ObR.map (by (first | omega | assumption | (simp only [List.length_map, List.length_append, List.length_cons, List.length_nil, List.length_take, List.length_drop, List.length_set, List.length_replicate, ha, AV.cells, AV.fine, AV.one, iA, hzl, hwl]; omega))) (fun x hx => ?_)) | (refine ObR.mk _ rfl ?_))) | ((with_reducible refine ObC.f 14 ?_); (first | (with_reducible refine ObC.mk _ (hw) ?_) | (refine ObC.mk _ (hw) ?_))) | ((with_reducible refine ObC.f 6 ?_); (first | (with_reducible refine ObC.mk _ (f1) ?_) | (refine ObC.mk _ (f1) ?_))) | ((with_reducible refine ObC.f 6 ?_); (first | (with_reducible refine ObC.mk _ (f2) ?_) | (refine ObC.mk _ (f2) ?_))) | ((with_reducible refine ObC.f 7 ?_); (first | (with_reducible refine ObC.mk _ (h7) ?_) | (refine ObC.mk _ (h7) ?_))) | ((with_reducible refine ObC.f 9 ?_); (first | (with_reducible refine ObC.mk _ (h9) ?_) | (refine ObC.mk _ (h9) ?_))) | ((with_reducible refine ObC.f 9 ?_); (first | (with_reducible refine ObC.mk _ (h9z) ?_) | (refine ObC.mk _ (h9z) ?_))) | ((with_reducible refine ObC.f 15 ?_); (first | (with_reducible refine ObC.mk _ (h15) ?_) | (refine ObC.mk _ (h15) ?_))) | ((with_reducible refine ObC.f 15 ?_); (first | (with_reducible refine ObC.mk _ (h15z) ?_) | (refine ObC.mk _ (h15z) ?_))) | ((with_reducible refine ObC.f 16 ?_); (first | (with_reducible refine ObC.mk _ (h16) ?_) | (refine ObC.mk _ (h16) ?_))) | ((with_reducible refine ObC.f 17 ?_); (first | (with_reducible refine ObC.mk _ (h17) ?_) | (refine ObC.mk _ (h17) ?_))) | ((with_reducible refine ObC.f 12 ?_); (first | (with_reducible refine ObC.mk _ (h12) ?_) | (refine ObC.mk _ (h12) ?_))) | ((with_reducible refine ObC.f 12 ?_); (first | (with_reducible refine ObC.mk _ (h12z) ?_) | (refine ObC.mk _ (h12z) ?_))) | ((with_reducible refine ObEq.mk ?_); (focus (first | rfl | assumption))))
theorem BranchChanges_calls (as0 as1 as2 : List AV) (s0 : ShC Try.prog 27 as0) (s1 : ShC Try.prog 3 as1) (s2 : ShC Try.prog 3 as2) : PC Try.prog (fun _ => .unk) 4 [mkE (isAggT Try.prog 27) as0, mkE (isAggT Try.prog 3) as1, mkE (isAggT Try.prog 3) as2] (Bo true) := by
  have e : isAggT Try.prog 27 = true := by kernel_rfl
  have e3 : isAggT Try.prog 3 = false := by kernel_rfl
  have i1 : (Try.prog).underlying 3 = some (.int .i64) := by kernel_rfl
  rw [e, e3]
  obtain ⟨kn, ke, va, mp, kk, mn, ls, sz, bi, hm, h0, h1, h2, h3, h4, h5⟩ := node_invB s0
  obtain ⟨i, rfl, hi⟩ := s1.i64_inv i1
  obtain ⟨z, rfl, hz⟩ := s2.i64_inv i1
  rw [h0]
  exact changes4 _ _ _ _ _ _ _ _ _ _ hm h1 h2 h3 h4 h5 i z (by unfold i64; omega)
end Go.Proofs.Ytfdfmhapcjckoaa.Sim
