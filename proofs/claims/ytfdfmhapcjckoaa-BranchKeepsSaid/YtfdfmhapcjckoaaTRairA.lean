/- Bindings: cut texts, few bindings, and whether they are in order. -/
import Derived.Test.YtfdfmhapcjckoaaTSimW
import Derived.Test.YtfdfmhapcjckoaaTRairM
import Derived.Test.YtfdfmhapcjckoaaTAc19
import Derived.Test.YtfdfmhapcjckoaaOrd
namespace Go.Proofs.Ytfdfmhapcjckoaa.Sim.Pr7
open Go.RowKit
set_option maxRecDepth 100000
set_option linter.unusedSimpArgs false
set_option linter.unusedVariables false
def pA (p : Pr) : AV := .agg [S p.1, S p.2]
theorem pA_at {l : List Pr} {k : Nat} (h : k < l.length) : (l.map pA)[k]? = some (.agg [S l[k].1, S l[k].2]) := by simp [h, pA]
theorem all_pA (l : List Pr) : (l.map pA).all AV.isP = true := by simp [pA, AV.isP, AV.isC, AV.isC0]
def cutB (s : ByteArray) (m : Nat) : ByteArray := s.extract 0 (min s.size m)
set_option maxHeartbeats 4000000 in
theorem cutP (G : Nat → AV) (s : ByteArray) (m : Nat) (hs : s.size ≤ 9223372036854775807) : PC Try.prog G 19 [S s, I m] (S (cutB s m)) := by
  have e : (if (m : Int) < (s.size : Int) then (m : Int) else (s.size : Int)) = ((min s.size m : Nat) : Int) := by split <;> omega
  have e2 : pureRun Try.prog (Instr.sliceAt 9 (.string s) none (some (.int .i64 ((min s.size m : Nat) : Int))) none) = some (.string (cutB s m)) := by
    rw [cutV u_str (by omega) (by omega)]; rfl
  refine pc_of cop19 ?_
  show W _ _ _ _ ⟨_, _⟩; simp only [A19, List.cons_append, List.nil_append, List.length_cons, List.length_nil, Nat.reduceAdd, Nat.reduceSub, List.replicate]
  repeat (first | with_reducible refine w_seq ?_ | with_reducible refine w_reg ?_ | with_reducible refine ws_nil ?_ | with_reducible refine q_then ?_ | with_reducible refine w_ret ?_ | ((first | with_reducible refine ks fun K hK => ?_ | with_reducible refine kd fun K hK => ?_ | with_reducible refine kc fun K hK2 hK hK3 => ?_); simp (disch := omega) only [bg0, bg1, bg2, bg3, bg4, stepO, rsAs, eff, AX.ev, St.put, binA, conc, ap1, ofVal, Int.reduceTMod, Int.reduceTDiv, reduceCtorEq, fillA, AV.cells, AV.fine, AV.one, Nat.reduceAdd, Nat.reduceSub, Nat.reduceMul, Nat.reduceLT, Nat.reduceLeDiff, Int.reduceLT, Int.reduceLE, Int.reduceAdd, Int.reduceSub, Int.reduceNeg, Int.reduceMul, Int.reduceEq, Int.reduceToNat, nilA, moveA, live, loadA, rdA, storeA, wrA, intA, elemA, lenA, appA, srcA, isPtr, isNilPtr, partA, resOf, sliceA, cut, id, ap2, reduceIte, concs, chkB, geB, AOp.cls, AOp.xs, ltB, ltC, Nat.reduceBEq, Option.toList, List.cons_append, decide_eq_true, decide_eq_false, if_pos, if_neg, List.length_map, pA_at, List.cons_append, bVb, bVn, eq_self, Bool.and_self, BEq.rfl, not_true_eq_false, e, e2]; (first | ((with_reducible refine hK _ ?_); clear hK K) | ((with_reducible refine hK ?_); clear hK hK3 K hK2) | ((with_reducible refine hK3 ?_); clear hK hK3 K hK2))) | ((first | with_reducible refine ret_h fun K hK => ?_ | with_reducible refine ret_hh rfl fun K hK => ?_ | with_reducible refine ret_pp fun K hK => ?_); simp (disch := omega) only [bg0, bg1, bg2, bg3, bg4, stepO, rsAs, eff, AX.ev, St.put, binA, conc, ap1, ofVal, Int.reduceTMod, Int.reduceTDiv, reduceCtorEq, fillA, AV.cells, AV.fine, AV.one, Nat.reduceAdd, Nat.reduceSub, Nat.reduceMul, Nat.reduceLT, Nat.reduceLeDiff, Int.reduceLT, Int.reduceLE, Int.reduceAdd, Int.reduceSub, Int.reduceNeg, Int.reduceMul, Int.reduceEq, Int.reduceToNat, nilA, moveA, live, loadA, rdA, storeA, wrA, intA, elemA, lenA, appA, srcA, isPtr, isNilPtr, partA, resOf, sliceA, cut, id, ap2, reduceIte, concs, chkB, geB, AOp.cls, AOp.xs, ltB, ltC, Nat.reduceBEq, Option.toList, List.cons_append, decide_eq_true, decide_eq_false, if_pos, if_neg, List.length_map, pA_at, List.cons_append, bVb, bVn, eq_self, Bool.and_self, BEq.rfl, not_true_eq_false, e, e2]; (first | ((with_reducible refine hK _ ?_ ?_ ?_ ?_); rotate_left 2; rfl; rfl) | ((with_reducible refine hK _ ?_); rfl))))
def few (l : List Pr) : List Pr := (l.take 40).map fun p => (cutB p.1 40, cutB p.2 40)
theorem few_take {l : List Pr} {k : Nat} (h : k < l.length) (h2 : k < 40) : ((few l).take k).map pA ++ [.agg [S (cutB l[k].1 40), S (cutB l[k].2 40)]] = ((few l).take (k + 1)).map pA := by
  have h3 : k < (few l).length := by simp [few]; omega
  rw [List.take_add_one, List.getElem?_eq_getElem h3]
  simp [few, pA]
theorem few_len (l : List Pr) : (few l).length = min 40 l.length := by simp [few]
theorem takeP {l : List Pr} {k : Nat} : ((l.take k).map pA).take k = (l.take k).map pA := by
  apply List.take_of_length_le; simp; omega

set_option maxHeartbeats 4000000 in
theorem few07 (G : Nat → AV) (l : List Pr) (hl : l.length ≤ 9223372036854775807) (hs : ∀ p ∈ l, p.1.size ≤ 9223372036854775807 ∧ p.2.size ≤ 9223372036854775807) : PC Try.prog G 20 [.sl 2 (l.map pA)] (.sl 2 ((few l).map pA)) := by
  obtain ⟨N, hN⟩ : ∃ N, N = (few l).length := ⟨_, rfl⟩
  have hN2 := few_len l
  refine pc_of cop20 ?_
  show W _ _ _ _ ⟨_, _⟩; simp only [A20, List.cons_append, List.nil_append, List.length_cons, List.length_nil, Nat.reduceAdd, Nat.reduceSub, List.replicate]
  repeat (first | with_reducible refine w_seq ?_ | with_reducible refine w_reg ?_ | with_reducible refine w_block ?_ | with_reducible refine ws_nil ?_ | with_reducible refine q_then ?_ | ((first | with_reducible refine ks fun K hK => ?_ | with_reducible refine kd fun K hK => ?_ | with_reducible refine kc fun K hK2 hK hK3 => ?_); simp (disch := omega) only [bg0, bg1, bg2, bg3, bg4, stepO, rsAs, eff, AX.ev, St.put, binA, conc, ap1, ofVal, Int.reduceTMod, Int.reduceTDiv, reduceCtorEq, fillA, AV.cells, AV.fine, AV.one, Nat.reduceAdd, Nat.reduceSub, Nat.reduceMul, Nat.reduceLT, Nat.reduceLeDiff, Int.reduceLT, Int.reduceLE, Int.reduceAdd, Int.reduceSub, Int.reduceNeg, Int.reduceMul, Int.reduceEq, Int.reduceToNat, nilA, moveA, live, loadA, rdA, storeA, wrA, intA, elemA, lenA, appA, srcA, isPtr, isNilPtr, partA, resOf, sliceA, cut, id, ap2, reduceIte, concs, chkB, geB, AOp.cls, AOp.xs, ltB, ltC, Nat.reduceBEq, Option.toList, List.cons_append, decide_eq_true, decide_eq_false, if_pos, if_neg, List.length_map, pA_at, List.cons_append, bVb, bVn, eq_self, Bool.and_self, BEq.rfl, not_true_eq_false]; (first | ((with_reducible refine hK _ ?_); clear hK K) | ((with_reducible refine hK ?_); clear hK hK3 K hK2) | ((with_reducible refine hK3 ?_); clear hK hK3 K hK2))))
  refine w_loop_m [3, 4, 6, 7, 8, 9, 10, 11, 12, 13, 14, 15, 16, 17, 18, 19, 20, 21, 22, 23, 24, 25, 26, 27, 28, 29, 30, 31] (fun k v H => v 3 = .ol 0 k k ∧ v 4 = I k ∧ ∃ J, H = ⟨62, 2, ((few l).take k).map pA, k, 0⟩ :: J) N ⟨rfl, rfl, [], rfl⟩ ?_ ?_
  · rintro k v H hk ⟨h3, h4, J, rfl⟩
    simp only [mix, mix_nil, mix_end, mix_skp, Nat.reduceEqDiff, Nat.reduceLeDiff, reduceCtorEq, if_true, if_false, reduceIte, Nat.reduceAdd, h3, h4]
    have hk1 : k < l.length := by omega
    have h1 := (hs l[k] (List.getElem_mem hk1)).1
    have h2 := (hs l[k] (List.getElem_mem hk1)).2
    have h5 := few_take hk1 (by omega)
    have h6 : (((few l).take k).map pA).length = k := by simp; omega
    repeat (first | with_reducible refine w_seq ?_ | with_reducible refine w_reg ?_ | with_reducible refine w_draw ?_ | with_reducible refine w_block ?_ | with_reducible refine w_skip ?_ | with_reducible refine ws_nil ?_ | with_reducible refine wd_nil ?_ | with_reducible refine q_then ?_ | with_reducible refine q_block_n ?_ | ((with_reducible refine kgs_t ?_ ?_); rfl) | ((first | with_reducible refine ks fun K hK => ?_ | with_reducible refine kd fun K hK => ?_ | with_reducible refine kc fun K hK2 hK hK3 => ?_); simp (disch := omega) only [bg0, bg1, bg2, bg3, bg4, stepO, rsAs, eff, AX.ev, St.put, binA, conc, ap1, ofVal, Int.reduceTMod, Int.reduceTDiv, reduceCtorEq, fillA, AV.cells, AV.fine, AV.one, Nat.reduceAdd, Nat.reduceSub, Nat.reduceMul, Nat.reduceLT, Nat.reduceLeDiff, Int.reduceLT, Int.reduceLE, Int.reduceAdd, Int.reduceSub, Int.reduceNeg, Int.reduceMul, Int.reduceEq, Int.reduceToNat, nilA, moveA, live, loadA, rdA, storeA, wrA, intA, elemA, lenA, appA, srcA, isPtr, isNilPtr, partA, resOf, sliceA, cut, id, ap2, reduceIte, concs, chkB, geB, AOp.cls, AOp.xs, ltB, ltC, Nat.reduceBEq, Option.toList, List.cons_append, decide_eq_true, decide_eq_false, if_pos, if_neg, List.length_map, pA_at, List.cons_append, bVb, bVn, eq_self, Bool.and_self, BEq.rfl, not_true_eq_false, h6, takeP, h5]; (first | ((with_reducible refine hK _ ?_); clear hK K) | ((with_reducible refine hK ?_); clear hK hK3 K hK2) | ((with_reducible refine hK3 ?_); clear hK hK3 K hK2))) | ((first | ((with_reducible refine kpd 19 ?_ ?_ ?_ ?_ ?_); rotate_left 1)); (focus (simp (disch := omega) only [bg0, bg1, bg2, bg3, bg4, stepO, rsAs, eff, AX.ev, St.put, binA, conc, ap1, ofVal, Int.reduceTMod, Int.reduceTDiv, reduceCtorEq, fillA, AV.cells, AV.fine, AV.one, Nat.reduceAdd, Nat.reduceSub, Nat.reduceMul, Nat.reduceLT, Nat.reduceLeDiff, Int.reduceLT, Int.reduceLE, Int.reduceAdd, Int.reduceSub, Int.reduceNeg, Int.reduceMul, Int.reduceEq, Int.reduceToNat, nilA, moveA, live, loadA, rdA, storeA, wrA, intA, elemA, lenA, appA, srcA, isPtr, isNilPtr, partA, resOf, sliceA, cut, id, ap2, reduceIte, concs, chkB, geB, AOp.cls, AOp.xs, ltB, ltC, Nat.reduceBEq, Option.toList, List.cons_append, decide_eq_true, decide_eq_false, if_pos, if_neg, List.length_map, pA_at, List.cons_append, bVb, bVn, eq_self, Bool.and_self, BEq.rfl, not_true_eq_false, h6, takeP, h5]; try rfl)); (first | (rfl; exact (by refine cutP G _ 40 ?_; assumption)))))
    exact ⟨rfl, rfl, rfl, _, rfl⟩
  · rintro v H ⟨h3, h4, J, rfl⟩
    simp only [mix, mix_nil, mix_end, mix_skp, Nat.reduceEqDiff, Nat.reduceLeDiff, reduceCtorEq, if_true, if_false, reduceIte, Nat.reduceAdd, h3, h4]
    have h6 : (((few l).take N).map pA).length = N := by simp; omega
    have h7 : (few l).take N = few l := by rw [hN, List.take_length]
    have h8 : ((few l).map pA).take N = (few l).map pA := by rw [hN]; apply List.take_of_length_le; simp
    by_cases h40 : l.length ≤ 40
    all_goals
      repeat (first | with_reducible refine w_seq ?_ | with_reducible refine w_reg ?_ | with_reducible refine w_exit ?_ | with_reducible refine ws_nil ?_ | with_reducible refine q_then ?_ | with_reducible refine q_then_x ?_ | with_reducible refine q_block_x ?_ | with_reducible refine w_ret ?_ | ((with_reducible refine kgs_t ?_ ?_); rfl) | ((with_reducible refine kgs_f ?_ ?_); rfl) | ((first | with_reducible refine ks fun K hK => ?_ | with_reducible refine kd fun K hK => ?_ | with_reducible refine kc fun K hK2 hK hK3 => ?_); simp (disch := omega) only [bg0, bg1, bg2, bg3, bg4, stepO, rsAs, eff, AX.ev, St.put, binA, conc, ap1, ofVal, Int.reduceTMod, Int.reduceTDiv, reduceCtorEq, fillA, AV.cells, AV.fine, AV.one, Nat.reduceAdd, Nat.reduceSub, Nat.reduceMul, Nat.reduceLT, Nat.reduceLeDiff, Int.reduceLT, Int.reduceLE, Int.reduceAdd, Int.reduceSub, Int.reduceNeg, Int.reduceMul, Int.reduceEq, Int.reduceToNat, nilA, moveA, live, loadA, rdA, storeA, wrA, intA, elemA, lenA, appA, srcA, isPtr, isNilPtr, partA, resOf, sliceA, cut, id, ap2, reduceIte, concs, chkB, geB, AOp.cls, AOp.xs, ltB, ltC, Nat.reduceBEq, Option.toList, List.cons_append, decide_eq_true, decide_eq_false, if_pos, if_neg, List.length_map, pA_at, List.cons_append, bVb, bVn, eq_self, Bool.and_self, BEq.rfl, not_true_eq_false]; (first | ((with_reducible refine hK _ ?_); clear hK K) | ((with_reducible refine hK ?_); clear hK hK3 K hK2) | ((with_reducible refine hK3 ?_); clear hK hK3 K hK2))))
      refine ret_pp fun K hK => ?_
      simp only [rsAs, List.getD_cons_succ, List.getD_cons_zero]
      refine hK _ ?_ ?_ ?_ ?_
      rotate_left 2
      simp only [purA, pur, purC, List.getElem?_cons_zero, List.length_map, ← hN, h7, h8, Nat.le_refl, and_self, and_true, true_and]
      rw [if_pos (all_pA _)]
      rfl
theorem cmpP (G : Nat → AV) (a b : ByteArray) (ha : a.size ≤ 9223372036854775807) (hb : b.size ≤ 9223372036854775807) : PC Try.prog G 57 [S a, S b] (I (cB a b)) :=
  pc_calls rfl rfl (fun w => (Ord.Compare_calls a b w (by rw [maxLenE]; exact ha) (by rw [maxLenE]; exact hb)).mono fun e w' h => h.fresh)
theorem lessP (G : Nat → AV) (a b : ByteArray) (ha : a.size ≤ 9223372036854775807) (hb : b.size ≤ 9223372036854775807) : PC Try.prog G 60 [S a, S b] (Bo (decide (cB a b < 0))) := by
  have e : decide (cB a b < 0) = Ord.less a.data.toList b.data.toList := by
    have h : cB a b = -1 ∨ cB a b = 0 ∨ cB a b = 1 := cB_cases a b
    unfold Ord.less
    show decide (cB a b < 0) = (cB a b == -1)
    rcases h with h | h | h <;> rw [h] <;> rfl
  rw [e]
  exact pc_calls rfl rfl (fun w => (Ord.RefLess_calls a b w (by rw [maxLenE]; exact ha) (by rw [maxLenE]; exact hb)).mono fun e w' h => h.fresh)
end Go.Proofs.Ytfdfmhapcjckoaa.Sim.Pr7
