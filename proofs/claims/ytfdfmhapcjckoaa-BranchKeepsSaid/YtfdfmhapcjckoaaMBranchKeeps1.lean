/- Texts of this claim, part 1. -/
import Derived.Deep.AppendLies
import Derived.Laws.AppendOwnNone
import Derived.Laws.BitsAllLaws
import Derived.Laws.OwnMore
import Derived.Lib.BitFns
import Derived.Lib.Tables
import Derived.Lib.TrailingZeros
import Derived.Maps.AppendAt
import Derived.OwnWalk
import Derived.RegionTactic
import Derived.Test.YtfdfmhapcjckoaaLib
import Derived.Test.YtfdfmhapcjckoaaOrd
import Derived.Test.YtfdfmhapcjckoaaTAc19
import Derived.Test.YtfdfmhapcjckoaaTLists
import Derived.Test.YtfdfmhapcjckoaaTRairB
import Derived.Test.YtfdfmhapcjckoaaTSimS
import Derived.Test.YtfdfmhapcjckoaaTSimVf
import Derived.Test.YtfdfmhapcjckoaaTSimW
set_option linter.unusedVariables false
set_option linter.unusedSimpArgs false
namespace Go.Proofs.Ytfdfmhapcjckoaa.Sim
open Go.RowKit
set_option maxRecDepth 100000
abbrev Pr := ByteArray × ByteArray
def pA (p : Pr) : AV := .agg [S p.1, S p.2]
def iA (n : Int) : AV := I n
theorem pA_at {l : List Pr} {k : Nat} (h : k < l.length) : (l.map pA)[k]? = some (.agg [S l[k].1, S l[k].2]) := by simp [h, pA]
theorem iA_at {l : List Int} {k : Nat} (h : k < l.length) : (l.map iA)[k]? = some (I l[k]) := by simp [h, iA]
def cutB (s : ByteArray) (m : Nat) : ByteArray := s.extract 0 (min s.size m)
set_option maxHeartbeats 4000000 in
theorem cutP (G : Nat → AV) (s : ByteArray) (m : Nat) (hs : s.size ≤ 9223372036854775807) : PC Try.prog G 19 [S s, I m] (S (cutB s m)) := by
  have e : (if (m : Int) < (s.size : Int) then (m : Int) else (s.size : Int)) = ((min s.size m : Nat) : Int) := by split <;> omega
  have e2 : pureRun Try.prog (Instr.sliceAt 9 (.string s) none (some (.int .i64 ((min s.size m : Nat) : Int))) none) = some (.string (cutB s m)) := by
    rw [cutV u_str (by omega) (by omega)]; rfl
  refine pc_of cop19 ?_
  show W _ _ _ _ ⟨_, _⟩; simp only [A19, List.cons_append, List.nil_append, List.length_cons, List.length_nil, Nat.reduceAdd, Nat.reduceSub, List.replicate]
  repeat (first | with_reducible refine w_seq ?_ | with_reducible refine w_reg ?_ | with_reducible refine ws_nil ?_ | with_reducible refine q_then ?_ | with_reducible refine w_ret ?_ | ((first | with_reducible refine ks fun K hK => ?_ | with_reducible refine kd fun K hK => ?_ | with_reducible refine kc fun K hK2 hK hK3 => ?_); simp (disch := omega) only [bg0, bg1, bg2, bg3, bg4, stepO, rsAs, eff, AX.ev, St.put, binA, conc, ap1, ofVal, Int.reduceTMod, Int.reduceTDiv, reduceCtorEq, fillA, AV.cells, AV.fine, AV.one, Nat.reduceAdd, Nat.reduceSub, Nat.reduceMul, Nat.reduceLT, Nat.reduceLeDiff, Int.reduceLT, Int.reduceLE, Int.reduceAdd, Int.reduceSub, Int.reduceNeg, Int.reduceMul, Int.reduceEq, Int.reduceToNat, nilA, moveA, live, loadA, rdA, storeA, wrA, intA, elemA, lenA, appA, srcA, isPtr, isNilPtr, partA, resOf, sliceA, cut, id, ap2, reduceIte, concs, chkB, geB, AOp.cls, AOp.xs, ltB, ltC, Nat.reduceBEq, Option.toList, List.cons_append, decide_eq_true, decide_eq_false, if_pos, if_neg, List.length_map, pA_at, iA_at, List.cons_append, bVb, bVn, eq_self, Bool.and_self, BEq.rfl, not_true_eq_false, e, e2]; (first | ((with_reducible refine hK _ ?_); clear hK K) | ((with_reducible refine hK ?_); clear hK hK3 K hK2) | ((with_reducible refine hK3 ?_); clear hK hK3 K hK2))) | ((first | with_reducible refine ret_h fun K hK => ?_ | with_reducible refine ret_hh rfl fun K hK => ?_ | with_reducible refine ret_pp fun K hK => ?_); simp (disch := omega) only [bg0, bg1, bg2, bg3, bg4, stepO, rsAs, eff, AX.ev, St.put, binA, conc, ap1, ofVal, Int.reduceTMod, Int.reduceTDiv, reduceCtorEq, fillA, AV.cells, AV.fine, AV.one, Nat.reduceAdd, Nat.reduceSub, Nat.reduceMul, Nat.reduceLT, Nat.reduceLeDiff, Int.reduceLT, Int.reduceLE, Int.reduceAdd, Int.reduceSub, Int.reduceNeg, Int.reduceMul, Int.reduceEq, Int.reduceToNat, nilA, moveA, live, loadA, rdA, storeA, wrA, intA, elemA, lenA, appA, srcA, isPtr, isNilPtr, partA, resOf, sliceA, cut, id, ap2, reduceIte, concs, chkB, geB, AOp.cls, AOp.xs, ltB, ltC, Nat.reduceBEq, Option.toList, List.cons_append, decide_eq_true, decide_eq_false, if_pos, if_neg, List.length_map, pA_at, iA_at, List.cons_append, bVb, bVn, eq_self, Bool.and_self, BEq.rfl, not_true_eq_false, e, e2]; (first | ((with_reducible refine hK _ ?_ ?_ ?_ ?_); rotate_left 2; rfl; rfl) | ((with_reducible refine hK _ ?_); rfl))))
def fw (l : List Pr) (k : Nat) : List AV := ((l.take k).map fun p => (cutB p.1 40, cutB p.2 40)).map pA
theorem fw_len {l : List Pr} {k : Nat} (h : k ≤ l.length) : (fw l k).length = k := by simp [fw]; omega
theorem fw_take {l : List Pr} {k : Nat} : (fw l k).take k = fw l k := by
  apply List.take_of_length_le
  simp [fw]; omega
theorem fw_succ {l : List Pr} {k : Nat} (h : k < l.length) : fw l k ++ [.agg [S (cutB l[k].1 40), S (cutB l[k].2 40)]] = fw l (k + 1) := by
  unfold fw
  rw [List.take_add_one, List.getElem?_eq_getElem h]
  simp only [List.map_append, Option.toList_some, List.map_cons, List.map_nil]
  rfl
theorem all_pA (l : List Pr) : (l.map pA).all AV.isP = true := by simp [pA, AV.isP, AV.isC, AV.isC0]
theorem all_iA (l : List Int) : (l.map iA).all AV.isP = true := by simp [iA, AV.isP, AV.isC, AV.isC0]
set_option maxHeartbeats 4000000 in
theorem few07 (G : Nat → AV) (l : List Pr) (hl : l.length ≤ 9223372036854775807) (hs : ∀ p ∈ l, p.1.size ≤ 9223372036854775807 ∧ p.2.size ≤ 9223372036854775807) : PC Try.prog G 20 [.sl 2 (l.map pA)] (.sl 2 (fw l (min l.length 40))) := by
  obtain ⟨N, hN⟩ : ∃ N, N = min l.length 40 := ⟨_, rfl⟩
  rw [← hN]
  refine pc_of cop20 ?_
  show W _ _ _ _ ⟨_, _⟩; simp only [A20, List.cons_append, List.nil_append, List.length_cons, List.length_nil, Nat.reduceAdd, Nat.reduceSub, List.replicate]
  repeat (first | with_reducible refine w_seq ?_ | with_reducible refine w_reg ?_ | with_reducible refine w_block ?_ | with_reducible refine ws_nil ?_ | with_reducible refine q_then ?_ | ((first | with_reducible refine ks fun K hK => ?_ | with_reducible refine kd fun K hK => ?_ | with_reducible refine kc fun K hK2 hK hK3 => ?_); simp (disch := omega) only [bg0, bg1, bg2, bg3, bg4, stepO, rsAs, eff, AX.ev, St.put, binA, conc, ap1, ofVal, Int.reduceTMod, Int.reduceTDiv, reduceCtorEq, fillA, AV.cells, AV.fine, AV.one, Nat.reduceAdd, Nat.reduceSub, Nat.reduceMul, Nat.reduceLT, Nat.reduceLeDiff, Int.reduceLT, Int.reduceLE, Int.reduceAdd, Int.reduceSub, Int.reduceNeg, Int.reduceMul, Int.reduceEq, Int.reduceToNat, nilA, moveA, live, loadA, rdA, storeA, wrA, intA, elemA, lenA, appA, srcA, isPtr, isNilPtr, partA, resOf, sliceA, cut, id, ap2, reduceIte, concs, chkB, geB, AOp.cls, AOp.xs, ltB, ltC, Nat.reduceBEq, Option.toList, List.cons_append, decide_eq_true, decide_eq_false, if_pos, if_neg, List.length_map, pA_at, iA_at, List.cons_append, bVb, bVn, eq_self, Bool.and_self, BEq.rfl, not_true_eq_false]; (first | ((with_reducible refine hK _ ?_); clear hK K) | ((with_reducible refine hK ?_); clear hK hK3 K hK2) | ((with_reducible refine hK3 ?_); clear hK hK3 K hK2))))
  refine w_loop_n (fun k st => ∃ (g : List AV) (J : Hp), g.length = 28 ∧ st = ⟨[.sl 2 (l.map pA), undefA, .nl 2, .ol 0 k k, I k] ++ g, ⟨62, 2, fw l k, k, 0⟩ :: J⟩) N ⟨_, [], ?hg, rfl⟩ ?_ ?_
  case hg => rfl
  · rintro k st hk ⟨g, J, hg, rfl⟩
    (obtain ⟨g0, g0t, rfl, hg0⟩ := len_succ hg; clear hg; obtain ⟨g1, g1t, rfl, hg1⟩ := len_succ hg0; clear hg0; obtain ⟨g2, g2t, rfl, hg2⟩ := len_succ hg1; clear hg1; obtain ⟨g3, g3t, rfl, hg3⟩ := len_succ hg2; clear hg2; obtain ⟨g4, g4t, rfl, hg4⟩ := len_succ hg3; clear hg3; obtain ⟨g5, g5t, rfl, hg5⟩ := len_succ hg4; clear hg4; obtain ⟨g6, g6t, rfl, hg6⟩ := len_succ hg5; clear hg5; obtain ⟨g7, g7t, rfl, hg7⟩ := len_succ hg6; clear hg6; obtain ⟨g8, g8t, rfl, hg8⟩ := len_succ hg7; clear hg7; obtain ⟨g9, g9t, rfl, hg9⟩ := len_succ hg8; clear hg8; obtain ⟨g10, g10t, rfl, hg10⟩ := len_succ hg9; clear hg9; obtain ⟨g11, g11t, rfl, hg11⟩ := len_succ hg10; clear hg10; obtain ⟨g12, g12t, rfl, hg12⟩ := len_succ hg11; clear hg11; obtain ⟨g13, g13t, rfl, hg13⟩ := len_succ hg12; clear hg12; obtain ⟨g14, g14t, rfl, hg14⟩ := len_succ hg13; clear hg13; obtain ⟨g15, g15t, rfl, hg15⟩ := len_succ hg14; clear hg14; obtain ⟨g16, g16t, rfl, hg16⟩ := len_succ hg15; clear hg15; obtain ⟨g17, g17t, rfl, hg17⟩ := len_succ hg16; clear hg16; obtain ⟨g18, g18t, rfl, hg18⟩ := len_succ hg17; clear hg17; obtain ⟨g19, g19t, rfl, hg19⟩ := len_succ hg18; clear hg18; obtain ⟨g20, g20t, rfl, hg20⟩ := len_succ hg19; clear hg19; obtain ⟨g21, g21t, rfl, hg21⟩ := len_succ hg20; clear hg20; obtain ⟨g22, g22t, rfl, hg22⟩ := len_succ hg21; clear hg21; obtain ⟨g23, g23t, rfl, hg23⟩ := len_succ hg22; clear hg22; obtain ⟨g24, g24t, rfl, hg24⟩ := len_succ hg23; clear hg23; obtain ⟨g25, g25t, rfl, hg25⟩ := len_succ hg24; clear hg24; obtain ⟨g26, g26t, rfl, hg26⟩ := len_succ hg25; clear hg25; obtain ⟨g27, g27t, rfl, hg27⟩ := len_succ hg26; clear hg26; obtain rfl := List.length_eq_zero_iff.mp hg27; clear hg27)
    simp only [List.cons_append, List.nil_append]
    have hk1 : k < l.length := by omega
    have h1 := (hs l[k] (List.getElem_mem hk1)).1
    have h2 := (hs l[k] (List.getElem_mem hk1)).2
    have h3 := fw_len (l := l) (k := k) (by omega)
    have h4 := fw_succ hk1
    repeat (first | with_reducible refine w_seq ?_ | with_reducible refine w_reg ?_ | with_reducible refine w_draw ?_ | with_reducible refine w_block ?_ | with_reducible refine w_skip ?_ | with_reducible refine ws_nil ?_ | with_reducible refine wd_nil ?_ | with_reducible refine q_then ?_ | with_reducible refine q_block_n ?_ | ((with_reducible refine kgs_t ?_ ?_); rfl) | ((first | with_reducible refine ks fun K hK => ?_ | with_reducible refine kd fun K hK => ?_ | with_reducible refine kc fun K hK2 hK hK3 => ?_); simp (disch := omega) only [bg0, bg1, bg2, bg3, bg4, stepO, rsAs, eff, AX.ev, St.put, binA, conc, ap1, ofVal, Int.reduceTMod, Int.reduceTDiv, reduceCtorEq, fillA, AV.cells, AV.fine, AV.one, Nat.reduceAdd, Nat.reduceSub, Nat.reduceMul, Nat.reduceLT, Nat.reduceLeDiff, Int.reduceLT, Int.reduceLE, Int.reduceAdd, Int.reduceSub, Int.reduceNeg, Int.reduceMul, Int.reduceEq, Int.reduceToNat, nilA, moveA, live, loadA, rdA, storeA, wrA, intA, elemA, lenA, appA, srcA, isPtr, isNilPtr, partA, resOf, sliceA, cut, id, ap2, reduceIte, concs, chkB, geB, AOp.cls, AOp.xs, ltB, ltC, Nat.reduceBEq, Option.toList, List.cons_append, decide_eq_true, decide_eq_false, if_pos, if_neg, List.length_map, pA_at, iA_at, List.cons_append, bVb, bVn, eq_self, Bool.and_self, BEq.rfl, not_true_eq_false, h3, fw_take, h4]; (first | ((with_reducible refine hK _ ?_); clear hK K) | ((with_reducible refine hK ?_); clear hK hK3 K hK2) | ((with_reducible refine hK3 ?_); clear hK hK3 K hK2))) | ((first | ((with_reducible refine kpd 19 ?_ ?_ ?_ ?_ ?_); rotate_left 1)); (focus (simp (disch := omega) only [bg0, bg1, bg2, bg3, bg4, stepO, rsAs, eff, AX.ev, St.put, binA, conc, ap1, ofVal, Int.reduceTMod, Int.reduceTDiv, reduceCtorEq, fillA, AV.cells, AV.fine, AV.one, Nat.reduceAdd, Nat.reduceSub, Nat.reduceMul, Nat.reduceLT, Nat.reduceLeDiff, Int.reduceLT, Int.reduceLE, Int.reduceAdd, Int.reduceSub, Int.reduceNeg, Int.reduceMul, Int.reduceEq, Int.reduceToNat, nilA, moveA, live, loadA, rdA, storeA, wrA, intA, elemA, lenA, appA, srcA, isPtr, isNilPtr, partA, resOf, sliceA, cut, id, ap2, reduceIte, concs, chkB, geB, AOp.cls, AOp.xs, ltB, ltC, Nat.reduceBEq, Option.toList, List.cons_append, decide_eq_true, decide_eq_false, if_pos, if_neg, List.length_map, pA_at, iA_at, List.cons_append, bVb, bVn, eq_self, Bool.and_self, BEq.rfl, not_true_eq_false, h3, fw_take, h4]; try rfl)); (first | (rfl; exact (by refine cutP G _ 40 ?_; assumption)))))
    exact ⟨_, _, rfl, rfl⟩
  · rintro st ⟨g, J, hg, rfl⟩
    (obtain ⟨g0, g0t, rfl, hg0⟩ := len_succ hg; clear hg; obtain ⟨g1, g1t, rfl, hg1⟩ := len_succ hg0; clear hg0; obtain ⟨g2, g2t, rfl, hg2⟩ := len_succ hg1; clear hg1; obtain ⟨g3, g3t, rfl, hg3⟩ := len_succ hg2; clear hg2; obtain ⟨g4, g4t, rfl, hg4⟩ := len_succ hg3; clear hg3; obtain ⟨g5, g5t, rfl, hg5⟩ := len_succ hg4; clear hg4; obtain ⟨g6, g6t, rfl, hg6⟩ := len_succ hg5; clear hg5; obtain ⟨g7, g7t, rfl, hg7⟩ := len_succ hg6; clear hg6; obtain ⟨g8, g8t, rfl, hg8⟩ := len_succ hg7; clear hg7; obtain ⟨g9, g9t, rfl, hg9⟩ := len_succ hg8; clear hg8; obtain ⟨g10, g10t, rfl, hg10⟩ := len_succ hg9; clear hg9; obtain ⟨g11, g11t, rfl, hg11⟩ := len_succ hg10; clear hg10; obtain ⟨g12, g12t, rfl, hg12⟩ := len_succ hg11; clear hg11; obtain ⟨g13, g13t, rfl, hg13⟩ := len_succ hg12; clear hg12; obtain ⟨g14, g14t, rfl, hg14⟩ := len_succ hg13; clear hg13; obtain ⟨g15, g15t, rfl, hg15⟩ := len_succ hg14; clear hg14; obtain ⟨g16, g16t, rfl, hg16⟩ := len_succ hg15; clear hg15; obtain ⟨g17, g17t, rfl, hg17⟩ := len_succ hg16; clear hg16; obtain ⟨g18, g18t, rfl, hg18⟩ := len_succ hg17; clear hg17; obtain ⟨g19, g19t, rfl, hg19⟩ := len_succ hg18; clear hg18; obtain ⟨g20, g20t, rfl, hg20⟩ := len_succ hg19; clear hg19; obtain ⟨g21, g21t, rfl, hg21⟩ := len_succ hg20; clear hg20; obtain ⟨g22, g22t, rfl, hg22⟩ := len_succ hg21; clear hg21; obtain ⟨g23, g23t, rfl, hg23⟩ := len_succ hg22; clear hg22; obtain ⟨g24, g24t, rfl, hg24⟩ := len_succ hg23; clear hg23; obtain ⟨g25, g25t, rfl, hg25⟩ := len_succ hg24; clear hg24; obtain ⟨g26, g26t, rfl, hg26⟩ := len_succ hg25; clear hg25; obtain ⟨g27, g27t, rfl, hg27⟩ := len_succ hg26; clear hg26; obtain rfl := List.length_eq_zero_iff.mp hg27; clear hg27)
    simp only [List.cons_append, List.nil_append]
    have h3 := fw_len (l := l) (k := N) (by omega)
    by_cases h40 : l.length ≤ 40
    all_goals
      repeat (first | with_reducible refine w_seq ?_ | with_reducible refine w_reg ?_ | with_reducible refine w_exit ?_ | with_reducible refine ws_nil ?_ | with_reducible refine q_then ?_ | with_reducible refine q_then_x ?_ | with_reducible refine q_block_x ?_ | with_reducible refine w_ret ?_ | ((with_reducible refine kgs_t ?_ ?_); rfl) | ((with_reducible refine kgs_f ?_ ?_); rfl) | ((first | with_reducible refine ks fun K hK => ?_ | with_reducible refine kd fun K hK => ?_ | with_reducible refine kc fun K hK2 hK hK3 => ?_); simp (disch := omega) only [bg0, bg1, bg2, bg3, bg4, stepO, rsAs, eff, AX.ev, St.put, binA, conc, ap1, ofVal, Int.reduceTMod, Int.reduceTDiv, reduceCtorEq, fillA, AV.cells, AV.fine, AV.one, Nat.reduceAdd, Nat.reduceSub, Nat.reduceMul, Nat.reduceLT, Nat.reduceLeDiff, Int.reduceLT, Int.reduceLE, Int.reduceAdd, Int.reduceSub, Int.reduceNeg, Int.reduceMul, Int.reduceEq, Int.reduceToNat, nilA, moveA, live, loadA, rdA, storeA, wrA, intA, elemA, lenA, appA, srcA, isPtr, isNilPtr, partA, resOf, sliceA, cut, id, ap2, reduceIte, concs, chkB, geB, AOp.cls, AOp.xs, ltB, ltC, Nat.reduceBEq, Option.toList, List.cons_append, decide_eq_true, decide_eq_false, if_pos, if_neg, List.length_map, pA_at, iA_at, List.cons_append, bVb, bVn, eq_self, Bool.and_self, BEq.rfl, not_true_eq_false]; (first | ((with_reducible refine hK _ ?_); clear hK K) | ((with_reducible refine hK ?_); clear hK hK3 K hK2) | ((with_reducible refine hK3 ?_); clear hK hK3 K hK2))))
      refine ret_pp fun K hK => ?_
      simp only [rsAs, List.getD_cons_succ, List.getD_cons_zero]
      refine hK _ ?_ ?_ ?_ ?_
      rotate_left 2
      simp only [purA, pur, purC, List.getElem?_cons_zero, h3, fw_take, Nat.le_refl, and_self, and_true, true_and]
      rw [if_pos (by unfold fw; exact all_pA _)]
      rfl
end Go.Proofs.Ytfdfmhapcjckoaa.Sim
namespace Go.Proofs.Ytfdfmhapcjckoaa.Sim
open Go.RowKit
set_option maxRecDepth 100000
theorem eq_len {α : Type} [DecidableEq α] {a b : List α} {r : Bool} (hr : r = decide (a = b)) (h : ¬ a.length = b.length) : r = false := by
  rw [hr]; exact decide_eq_false (fun e => h (by rw [e]))
theorem eq_at {α : Type} [DecidableEq α] {a b : List α} {r : Bool} (hr : r = decide (a = b)) {k : Nat} (h1 : k < a.length) (h2 : k < b.length) (h : ¬ a[k] = b[k]) : r = false := by
  rw [hr]; exact decide_eq_false (fun e => h (by subst e; rfl))
theorem eq_all {α : Type} [DecidableEq α] {a b : List α} {r : Bool} (hr : r = decide (a = b)) (hl : a.length = b.length) (h : a.take a.length = b.take a.length) : r = true := by
  rw [hr]; refine decide_eq_true ?_
  rwa [List.take_length, hl, List.take_length] at h
theorem take_next {α : Type} {a b : List α} {k : Nat} (h : a.take k = b.take k) (h1 : k < a.length) (h2 : k < b.length) (he : a[k] = b[k]) : a.take (k + 1) = b.take (k + 1) := by
  rw [List.take_add_one, List.take_add_one, List.getElem?_eq_getElem h1, List.getElem?_eq_getElem h2, h, he]
theorem pr_ne {p q : Pr} (h : ¬ p = q) : (decide (p.1 = q.1) && decide (p.2 = q.2)) = false := by
  cases hq : (decide (p.1 = q.1) && decide (p.2 = q.2)) with
  | false => rfl
  | true =>
    simp only [Bool.and_eq_true, decide_eq_true_eq] at hq
    exact absurd (Prod.ext hq.1 hq.2) h
set_option maxHeartbeats 4000000 in
theorem eq40 (G : Nat → AV) (a b : List Int) (ha : a.length ≤ 9223372036854775807) (hb0 : b.length ≤ 9223372036854775807) (r : Bool) (hr : r = decide (a = b)) : PC Try.prog G 58 [.sl 1 (a.map iA), .sl 1 (b.map iA)] (Bo r) := by
  refine pc_of cop58 ?_
  show W _ _ _ _ ⟨_, _⟩; simp only [A58, List.cons_append, List.nil_append, List.length_cons, List.length_nil, Nat.reduceAdd, Nat.reduceSub, List.replicate]
  by_cases hn : a.length = b.length
  · repeat (first | with_reducible refine w_seq ?_ | with_reducible refine w_reg ?_ | with_reducible refine w_block ?_ | with_reducible refine w_skip ?_ | with_reducible refine ws_nil ?_ | with_reducible refine q_then ?_ | ((first | with_reducible refine ks fun K hK => ?_ | with_reducible refine kd fun K hK => ?_ | with_reducible refine kc fun K hK2 hK hK3 => ?_); simp (disch := omega) only [bg0, bg1, bg2, bg3, bg4, stepO, rsAs, eff, AX.ev, St.put, binA, conc, ap1, ofVal, Int.reduceTMod, Int.reduceTDiv, reduceCtorEq, fillA, AV.cells, AV.fine, AV.one, Nat.reduceAdd, Nat.reduceSub, Nat.reduceMul, Nat.reduceLT, Nat.reduceLeDiff, Int.reduceLT, Int.reduceLE, Int.reduceAdd, Int.reduceSub, Int.reduceNeg, Int.reduceMul, Int.reduceEq, Int.reduceToNat, nilA, moveA, live, loadA, rdA, storeA, wrA, intA, elemA, lenA, appA, srcA, isPtr, isNilPtr, partA, resOf, sliceA, cut, id, ap2, reduceIte, concs, chkB, geB, AOp.cls, AOp.xs, ltB, ltC, Nat.reduceBEq, Option.toList, List.cons_append, decide_eq_true, decide_eq_false, if_pos, if_neg, List.length_map, pA_at, iA_at, List.cons_append, bVb, bVn, eq_self, Bool.and_self, BEq.rfl, not_true_eq_false]; (first | ((with_reducible refine hK _ ?_); clear hK K) | ((with_reducible refine hK ?_); clear hK hK3 K hK2) | ((with_reducible refine hK3 ?_); clear hK hK3 K hK2))))
    refine w_loop_n (fun k st => ∃ (x5 : AV) (g : List AV), a.take k = b.take k ∧ g.length = 12 ∧ st = ⟨[.sl 1 (a.map iA), .sl 1 (b.map iA), undefA, undefA, Bo false, x5, .sl 1 (a.map iA), I a.length, .sl 1 (b.map iA), I b.length, Bo false, .sl 1 (a.map iA), I a.length, I k] ++ g, []⟩) a.length ⟨_, _, rfl, ?hg, rfl⟩ ?_ ?_
    case hg => rfl
    · rintro k st hk ⟨x5, g, hk2, hg, rfl⟩
      (obtain ⟨g0, g0t, rfl, hg0⟩ := len_succ hg; clear hg; obtain ⟨g1, g1t, rfl, hg1⟩ := len_succ hg0; clear hg0; obtain ⟨g2, g2t, rfl, hg2⟩ := len_succ hg1; clear hg1; obtain ⟨g3, g3t, rfl, hg3⟩ := len_succ hg2; clear hg2; obtain ⟨g4, g4t, rfl, hg4⟩ := len_succ hg3; clear hg3; obtain ⟨g5, g5t, rfl, hg5⟩ := len_succ hg4; clear hg4; obtain ⟨g6, g6t, rfl, hg6⟩ := len_succ hg5; clear hg5; obtain ⟨g7, g7t, rfl, hg7⟩ := len_succ hg6; clear hg6; obtain ⟨g8, g8t, rfl, hg8⟩ := len_succ hg7; clear hg7; obtain ⟨g9, g9t, rfl, hg9⟩ := len_succ hg8; clear hg8; obtain ⟨g10, g10t, rfl, hg10⟩ := len_succ hg9; clear hg9; obtain ⟨g11, g11t, rfl, hg11⟩ := len_succ hg10; clear hg10; obtain rfl := List.length_eq_zero_iff.mp hg11; clear hg11)
      simp only [List.cons_append, List.nil_append]
      have hk3 : k < b.length := by omega
      by_cases he : a[k] = b[k]
      · repeat (first | with_reducible refine w_seq ?_ | with_reducible refine w_reg ?_ | with_reducible refine w_draw ?_ | with_reducible refine w_block ?_ | with_reducible refine w_skip ?_ | with_reducible refine ws_nil ?_ | with_reducible refine wd_nil ?_ | with_reducible refine q_then ?_ | with_reducible refine q_block_n ?_ | ((first | with_reducible refine ks fun K hK => ?_ | with_reducible refine kd fun K hK => ?_ | with_reducible refine kc fun K hK2 hK hK3 => ?_); simp (disch := omega) only [bg0, bg1, bg2, bg3, bg4, stepO, rsAs, eff, AX.ev, St.put, binA, conc, ap1, ofVal, Int.reduceTMod, Int.reduceTDiv, reduceCtorEq, fillA, AV.cells, AV.fine, AV.one, Nat.reduceAdd, Nat.reduceSub, Nat.reduceMul, Nat.reduceLT, Nat.reduceLeDiff, Int.reduceLT, Int.reduceLE, Int.reduceAdd, Int.reduceSub, Int.reduceNeg, Int.reduceMul, Int.reduceEq, Int.reduceToNat, nilA, moveA, live, loadA, rdA, storeA, wrA, intA, elemA, lenA, appA, srcA, isPtr, isNilPtr, partA, resOf, sliceA, cut, id, ap2, reduceIte, concs, chkB, geB, AOp.cls, AOp.xs, ltB, ltC, Nat.reduceBEq, Option.toList, List.cons_append, decide_eq_true, decide_eq_false, if_pos, if_neg, List.length_map, pA_at, iA_at, List.cons_append, bVb, bVn, eq_self, Bool.and_self, BEq.rfl, not_true_eq_false, he]; (first | ((with_reducible refine hK _ ?_); clear hK K) | ((with_reducible refine hK ?_); clear hK hK3 K hK2) | ((with_reducible refine hK3 ?_); clear hK hK3 K hK2))))
        exact ⟨_, _, take_next hk2 hk hk3 he, rfl, rfl⟩
      · obtain rfl := eq_at hr hk hk3 he
        repeat (first | with_reducible refine w_seq ?_ | with_reducible refine w_reg ?_ | with_reducible refine w_draw ?_ | with_reducible refine w_block ?_ | with_reducible refine w_skip ?_ | with_reducible refine ws_nil ?_ | with_reducible refine wd_nil ?_ | with_reducible refine q_then ?_ | with_reducible refine q_block_r ?_ | with_reducible refine w_ret ?_ | with_reducible refine q_then_r ?_ | ((first | with_reducible refine ks fun K hK => ?_ | with_reducible refine kd fun K hK => ?_ | with_reducible refine kc fun K hK2 hK hK3 => ?_); simp (disch := omega) only [bg0, bg1, bg2, bg3, bg4, stepO, rsAs, eff, AX.ev, St.put, binA, conc, ap1, ofVal, Int.reduceTMod, Int.reduceTDiv, reduceCtorEq, fillA, AV.cells, AV.fine, AV.one, Nat.reduceAdd, Nat.reduceSub, Nat.reduceMul, Nat.reduceLT, Nat.reduceLeDiff, Int.reduceLT, Int.reduceLE, Int.reduceAdd, Int.reduceSub, Int.reduceNeg, Int.reduceMul, Int.reduceEq, Int.reduceToNat, nilA, moveA, live, loadA, rdA, storeA, wrA, intA, elemA, lenA, appA, srcA, isPtr, isNilPtr, partA, resOf, sliceA, cut, id, ap2, reduceIte, concs, chkB, geB, AOp.cls, AOp.xs, ltB, ltC, Nat.reduceBEq, Option.toList, List.cons_append, decide_eq_true, decide_eq_false, if_pos, if_neg, List.length_map, pA_at, iA_at, List.cons_append, bVb, bVn, eq_self, Bool.and_self, BEq.rfl, not_true_eq_false, he]; (first | ((with_reducible refine hK _ ?_); clear hK K) | ((with_reducible refine hK ?_); clear hK hK3 K hK2) | ((with_reducible refine hK3 ?_); clear hK hK3 K hK2))) | ((first | with_reducible refine ret_h fun K hK => ?_ | with_reducible refine ret_hh rfl fun K hK => ?_ | with_reducible refine ret_pp fun K hK => ?_); simp (disch := omega) only [bg0, bg1, bg2, bg3, bg4, stepO, rsAs, eff, AX.ev, St.put, binA, conc, ap1, ofVal, Int.reduceTMod, Int.reduceTDiv, reduceCtorEq, fillA, AV.cells, AV.fine, AV.one, Nat.reduceAdd, Nat.reduceSub, Nat.reduceMul, Nat.reduceLT, Nat.reduceLeDiff, Int.reduceLT, Int.reduceLE, Int.reduceAdd, Int.reduceSub, Int.reduceNeg, Int.reduceMul, Int.reduceEq, Int.reduceToNat, nilA, moveA, live, loadA, rdA, storeA, wrA, intA, elemA, lenA, appA, srcA, isPtr, isNilPtr, partA, resOf, sliceA, cut, id, ap2, reduceIte, concs, chkB, geB, AOp.cls, AOp.xs, ltB, ltC, Nat.reduceBEq, Option.toList, List.cons_append, decide_eq_true, decide_eq_false, if_pos, if_neg, List.length_map, pA_at, iA_at, List.cons_append, bVb, bVn, eq_self, Bool.and_self, BEq.rfl, not_true_eq_false, he]; (first | ((with_reducible refine hK _ ?_ ?_ ?_ ?_); rotate_left 2; rfl; rfl) | ((with_reducible refine hK _ ?_); rfl))))
    · rintro st ⟨x5, g, hk2, hg, rfl⟩
      (obtain ⟨g0, g0t, rfl, hg0⟩ := len_succ hg; clear hg; obtain ⟨g1, g1t, rfl, hg1⟩ := len_succ hg0; clear hg0; obtain ⟨g2, g2t, rfl, hg2⟩ := len_succ hg1; clear hg1; obtain ⟨g3, g3t, rfl, hg3⟩ := len_succ hg2; clear hg2; obtain ⟨g4, g4t, rfl, hg4⟩ := len_succ hg3; clear hg3; obtain ⟨g5, g5t, rfl, hg5⟩ := len_succ hg4; clear hg4; obtain ⟨g6, g6t, rfl, hg6⟩ := len_succ hg5; clear hg5; obtain ⟨g7, g7t, rfl, hg7⟩ := len_succ hg6; clear hg6; obtain ⟨g8, g8t, rfl, hg8⟩ := len_succ hg7; clear hg7; obtain ⟨g9, g9t, rfl, hg9⟩ := len_succ hg8; clear hg8; obtain ⟨g10, g10t, rfl, hg10⟩ := len_succ hg9; clear hg9; obtain ⟨g11, g11t, rfl, hg11⟩ := len_succ hg10; clear hg10; obtain rfl := List.length_eq_zero_iff.mp hg11; clear hg11)
      simp only [List.cons_append, List.nil_append]
      obtain rfl := eq_all hr hn hk2
      repeat (first | with_reducible refine w_seq ?_ | with_reducible refine w_reg ?_ | with_reducible refine w_exit ?_ | with_reducible refine ws_nil ?_ | with_reducible refine q_then ?_ | with_reducible refine q_then_x ?_ | with_reducible refine q_block_x ?_ | with_reducible refine w_ret ?_ | ((first | with_reducible refine ks fun K hK => ?_ | with_reducible refine kd fun K hK => ?_ | with_reducible refine kc fun K hK2 hK hK3 => ?_); simp (disch := omega) only [bg0, bg1, bg2, bg3, bg4, stepO, rsAs, eff, AX.ev, St.put, binA, conc, ap1, ofVal, Int.reduceTMod, Int.reduceTDiv, reduceCtorEq, fillA, AV.cells, AV.fine, AV.one, Nat.reduceAdd, Nat.reduceSub, Nat.reduceMul, Nat.reduceLT, Nat.reduceLeDiff, Int.reduceLT, Int.reduceLE, Int.reduceAdd, Int.reduceSub, Int.reduceNeg, Int.reduceMul, Int.reduceEq, Int.reduceToNat, nilA, moveA, live, loadA, rdA, storeA, wrA, intA, elemA, lenA, appA, srcA, isPtr, isNilPtr, partA, resOf, sliceA, cut, id, ap2, reduceIte, concs, chkB, geB, AOp.cls, AOp.xs, ltB, ltC, Nat.reduceBEq, Option.toList, List.cons_append, decide_eq_true, decide_eq_false, if_pos, if_neg, List.length_map, pA_at, iA_at, List.cons_append, bVb, bVn, eq_self, Bool.and_self, BEq.rfl, not_true_eq_false]; (first | ((with_reducible refine hK _ ?_); clear hK K) | ((with_reducible refine hK ?_); clear hK hK3 K hK2) | ((with_reducible refine hK3 ?_); clear hK hK3 K hK2))) | ((first | with_reducible refine ret_h fun K hK => ?_ | with_reducible refine ret_hh rfl fun K hK => ?_ | with_reducible refine ret_pp fun K hK => ?_); simp (disch := omega) only [bg0, bg1, bg2, bg3, bg4, stepO, rsAs, eff, AX.ev, St.put, binA, conc, ap1, ofVal, Int.reduceTMod, Int.reduceTDiv, reduceCtorEq, fillA, AV.cells, AV.fine, AV.one, Nat.reduceAdd, Nat.reduceSub, Nat.reduceMul, Nat.reduceLT, Nat.reduceLeDiff, Int.reduceLT, Int.reduceLE, Int.reduceAdd, Int.reduceSub, Int.reduceNeg, Int.reduceMul, Int.reduceEq, Int.reduceToNat, nilA, moveA, live, loadA, rdA, storeA, wrA, intA, elemA, lenA, appA, srcA, isPtr, isNilPtr, partA, resOf, sliceA, cut, id, ap2, reduceIte, concs, chkB, geB, AOp.cls, AOp.xs, ltB, ltC, Nat.reduceBEq, Option.toList, List.cons_append, decide_eq_true, decide_eq_false, if_pos, if_neg, List.length_map, pA_at, iA_at, List.cons_append, bVb, bVn, eq_self, Bool.and_self, BEq.rfl, not_true_eq_false]; (first | ((with_reducible refine hK _ ?_ ?_ ?_ ?_); rotate_left 2; rfl; rfl) | ((with_reducible refine hK _ ?_); rfl))))
  · obtain rfl := eq_len hr hn
    repeat (first | with_reducible refine w_seq ?_ | with_reducible refine w_reg ?_ | with_reducible refine ws_nil ?_ | with_reducible refine q_then ?_ | with_reducible refine w_ret ?_ | with_reducible refine q_then_r ?_ | ((first | with_reducible refine ks fun K hK => ?_ | with_reducible refine kd fun K hK => ?_ | with_reducible refine kc fun K hK2 hK hK3 => ?_); simp (disch := omega) only [bg0, bg1, bg2, bg3, bg4, stepO, rsAs, eff, AX.ev, St.put, binA, conc, ap1, ofVal, Int.reduceTMod, Int.reduceTDiv, reduceCtorEq, fillA, AV.cells, AV.fine, AV.one, Nat.reduceAdd, Nat.reduceSub, Nat.reduceMul, Nat.reduceLT, Nat.reduceLeDiff, Int.reduceLT, Int.reduceLE, Int.reduceAdd, Int.reduceSub, Int.reduceNeg, Int.reduceMul, Int.reduceEq, Int.reduceToNat, nilA, moveA, live, loadA, rdA, storeA, wrA, intA, elemA, lenA, appA, srcA, isPtr, isNilPtr, partA, resOf, sliceA, cut, id, ap2, reduceIte, concs, chkB, geB, AOp.cls, AOp.xs, ltB, ltC, Nat.reduceBEq, Option.toList, List.cons_append, decide_eq_true, decide_eq_false, if_pos, if_neg, List.length_map, pA_at, iA_at, List.cons_append, bVb, bVn, eq_self, Bool.and_self, BEq.rfl, not_true_eq_false]; (first | ((with_reducible refine hK _ ?_); clear hK K) | ((with_reducible refine hK ?_); clear hK hK3 K hK2) | ((with_reducible refine hK3 ?_); clear hK hK3 K hK2))) | ((first | with_reducible refine ret_h fun K hK => ?_ | with_reducible refine ret_hh rfl fun K hK => ?_ | with_reducible refine ret_pp fun K hK => ?_); simp (disch := omega) only [bg0, bg1, bg2, bg3, bg4, stepO, rsAs, eff, AX.ev, St.put, binA, conc, ap1, ofVal, Int.reduceTMod, Int.reduceTDiv, reduceCtorEq, fillA, AV.cells, AV.fine, AV.one, Nat.reduceAdd, Nat.reduceSub, Nat.reduceMul, Nat.reduceLT, Nat.reduceLeDiff, Int.reduceLT, Int.reduceLE, Int.reduceAdd, Int.reduceSub, Int.reduceNeg, Int.reduceMul, Int.reduceEq, Int.reduceToNat, nilA, moveA, live, loadA, rdA, storeA, wrA, intA, elemA, lenA, appA, srcA, isPtr, isNilPtr, partA, resOf, sliceA, cut, id, ap2, reduceIte, concs, chkB, geB, AOp.cls, AOp.xs, ltB, ltC, Nat.reduceBEq, Option.toList, List.cons_append, decide_eq_true, decide_eq_false, if_pos, if_neg, List.length_map, pA_at, iA_at, List.cons_append, bVb, bVn, eq_self, Bool.and_self, BEq.rfl, not_true_eq_false]; (first | ((with_reducible refine hK _ ?_ ?_ ?_ ?_); rotate_left 2; rfl; rfl) | ((with_reducible refine hK _ ?_); rfl))))
set_option maxHeartbeats 4000000 in
theorem eq41 (G : Nat → AV) (a b : List Pr) (ha : a.length ≤ 9223372036854775807) (hb0 : b.length ≤ 9223372036854775807) (r : Bool) (hr : r = decide (a = b)) : PC Try.prog G 59 [.sl 2 (a.map pA), .sl 2 (b.map pA)] (Bo r) := by
  refine pc_of cop59 ?_
  show W _ _ _ _ ⟨_, _⟩; simp only [A59, List.cons_append, List.nil_append, List.length_cons, List.length_nil, Nat.reduceAdd, Nat.reduceSub, List.replicate]
  by_cases hn : a.length = b.length
  · repeat (first | with_reducible refine w_seq ?_ | with_reducible refine w_reg ?_ | with_reducible refine w_block ?_ | with_reducible refine w_skip ?_ | with_reducible refine ws_nil ?_ | with_reducible refine q_then ?_ | ((first | with_reducible refine ks fun K hK => ?_ | with_reducible refine kd fun K hK => ?_ | with_reducible refine kc fun K hK2 hK hK3 => ?_); simp (disch := omega) only [bg0, bg1, bg2, bg3, bg4, stepO, rsAs, eff, AX.ev, St.put, binA, conc, ap1, ofVal, Int.reduceTMod, Int.reduceTDiv, reduceCtorEq, fillA, AV.cells, AV.fine, AV.one, Nat.reduceAdd, Nat.reduceSub, Nat.reduceMul, Nat.reduceLT, Nat.reduceLeDiff, Int.reduceLT, Int.reduceLE, Int.reduceAdd, Int.reduceSub, Int.reduceNeg, Int.reduceMul, Int.reduceEq, Int.reduceToNat, nilA, moveA, live, loadA, rdA, storeA, wrA, intA, elemA, lenA, appA, srcA, isPtr, isNilPtr, partA, resOf, sliceA, cut, id, ap2, reduceIte, concs, chkB, geB, AOp.cls, AOp.xs, ltB, ltC, Nat.reduceBEq, Option.toList, List.cons_append, decide_eq_true, decide_eq_false, if_pos, if_neg, List.length_map, pA_at, iA_at, List.cons_append, bVb, bVn, eq_self, Bool.and_self, BEq.rfl, not_true_eq_false]; (first | ((with_reducible refine hK _ ?_); clear hK K) | ((with_reducible refine hK ?_); clear hK hK3 K hK2) | ((with_reducible refine hK3 ?_); clear hK hK3 K hK2))))
    refine w_loop_n (fun k st => ∃ (x5 : AV) (g : List AV), a.take k = b.take k ∧ g.length = 12 ∧ st = ⟨[.sl 2 (a.map pA), .sl 2 (b.map pA), undefA, undefA, Bo false, x5, .sl 2 (a.map pA), I a.length, .sl 2 (b.map pA), I b.length, Bo false, .sl 2 (a.map pA), I a.length, I k] ++ g, []⟩) a.length ⟨_, _, rfl, ?hg, rfl⟩ ?_ ?_
    case hg => rfl
    · rintro k st hk ⟨x5, g, hk2, hg, rfl⟩
      (obtain ⟨g0, g0t, rfl, hg0⟩ := len_succ hg; clear hg; obtain ⟨g1, g1t, rfl, hg1⟩ := len_succ hg0; clear hg0; obtain ⟨g2, g2t, rfl, hg2⟩ := len_succ hg1; clear hg1; obtain ⟨g3, g3t, rfl, hg3⟩ := len_succ hg2; clear hg2; obtain ⟨g4, g4t, rfl, hg4⟩ := len_succ hg3; clear hg3; obtain ⟨g5, g5t, rfl, hg5⟩ := len_succ hg4; clear hg4; obtain ⟨g6, g6t, rfl, hg6⟩ := len_succ hg5; clear hg5; obtain ⟨g7, g7t, rfl, hg7⟩ := len_succ hg6; clear hg6; obtain ⟨g8, g8t, rfl, hg8⟩ := len_succ hg7; clear hg7; obtain ⟨g9, g9t, rfl, hg9⟩ := len_succ hg8; clear hg8; obtain ⟨g10, g10t, rfl, hg10⟩ := len_succ hg9; clear hg9; obtain ⟨g11, g11t, rfl, hg11⟩ := len_succ hg10; clear hg10; obtain rfl := List.length_eq_zero_iff.mp hg11; clear hg11)
      simp only [List.cons_append, List.nil_append]
      have hk3 : k < b.length := by omega
      by_cases he : a[k] = b[k]
      · have q1 : a[k].1 = b[k].1 := by rw [he]
        have q2 : a[k].2 = b[k].2 := by rw [he]
        repeat (first | with_reducible refine w_seq ?_ | with_reducible refine w_reg ?_ | with_reducible refine w_draw ?_ | with_reducible refine w_block ?_ | with_reducible refine w_skip ?_ | with_reducible refine ws_nil ?_ | with_reducible refine wd_nil ?_ | with_reducible refine q_then ?_ | with_reducible refine q_block_n ?_ | ((first | with_reducible refine ks fun K hK => ?_ | with_reducible refine kd fun K hK => ?_ | with_reducible refine kc fun K hK2 hK hK3 => ?_); simp (disch := omega) only [bg0, bg1, bg2, bg3, bg4, stepO, rsAs, eff, AX.ev, St.put, binA, conc, ap1, ofVal, Int.reduceTMod, Int.reduceTDiv, reduceCtorEq, fillA, AV.cells, AV.fine, AV.one, Nat.reduceAdd, Nat.reduceSub, Nat.reduceMul, Nat.reduceLT, Nat.reduceLeDiff, Int.reduceLT, Int.reduceLE, Int.reduceAdd, Int.reduceSub, Int.reduceNeg, Int.reduceMul, Int.reduceEq, Int.reduceToNat, nilA, moveA, live, loadA, rdA, storeA, wrA, intA, elemA, lenA, appA, srcA, isPtr, isNilPtr, partA, resOf, sliceA, cut, id, ap2, reduceIte, concs, chkB, geB, AOp.cls, AOp.xs, ltB, ltC, Nat.reduceBEq, Option.toList, List.cons_append, decide_eq_true, decide_eq_false, if_pos, if_neg, List.length_map, pA_at, iA_at, List.cons_append, bVb, bVn, eq_self, Bool.and_self, BEq.rfl, not_true_eq_false, q1, q2]; (first | ((with_reducible refine hK _ ?_); clear hK K) | ((with_reducible refine hK ?_); clear hK hK3 K hK2) | ((with_reducible refine hK3 ?_); clear hK hK3 K hK2))))
        exact ⟨_, _, take_next hk2 hk hk3 he, rfl, rfl⟩
      · obtain rfl := eq_at hr hk hk3 he
        have hb := pr_ne he
        repeat (first | with_reducible refine w_seq ?_ | with_reducible refine w_reg ?_ | with_reducible refine w_draw ?_ | with_reducible refine w_block ?_ | with_reducible refine w_skip ?_ | with_reducible refine ws_nil ?_ | with_reducible refine wd_nil ?_ | with_reducible refine q_then ?_ | with_reducible refine q_block_r ?_ | with_reducible refine w_ret ?_ | with_reducible refine q_then_r ?_ | ((first | with_reducible refine ks fun K hK => ?_ | with_reducible refine kd fun K hK => ?_ | with_reducible refine kc fun K hK2 hK hK3 => ?_); simp (disch := omega) only [bg0, bg1, bg2, bg3, bg4, stepO, rsAs, eff, AX.ev, St.put, binA, conc, ap1, ofVal, Int.reduceTMod, Int.reduceTDiv, reduceCtorEq, fillA, AV.cells, AV.fine, AV.one, Nat.reduceAdd, Nat.reduceSub, Nat.reduceMul, Nat.reduceLT, Nat.reduceLeDiff, Int.reduceLT, Int.reduceLE, Int.reduceAdd, Int.reduceSub, Int.reduceNeg, Int.reduceMul, Int.reduceEq, Int.reduceToNat, nilA, moveA, live, loadA, rdA, storeA, wrA, intA, elemA, lenA, appA, srcA, isPtr, isNilPtr, partA, resOf, sliceA, cut, id, ap2, reduceIte, concs, chkB, geB, AOp.cls, AOp.xs, ltB, ltC, Nat.reduceBEq, Option.toList, List.cons_append, decide_eq_true, decide_eq_false, if_pos, if_neg, List.length_map, pA_at, iA_at, List.cons_append, bVb, bVn, eq_self, Bool.and_self, BEq.rfl, not_true_eq_false, hb]; (first | ((with_reducible refine hK _ ?_); clear hK K) | ((with_reducible refine hK ?_); clear hK hK3 K hK2) | ((with_reducible refine hK3 ?_); clear hK hK3 K hK2))) | ((first | with_reducible refine ret_h fun K hK => ?_ | with_reducible refine ret_hh rfl fun K hK => ?_ | with_reducible refine ret_pp fun K hK => ?_); simp (disch := omega) only [bg0, bg1, bg2, bg3, bg4, stepO, rsAs, eff, AX.ev, St.put, binA, conc, ap1, ofVal, Int.reduceTMod, Int.reduceTDiv, reduceCtorEq, fillA, AV.cells, AV.fine, AV.one, Nat.reduceAdd, Nat.reduceSub, Nat.reduceMul, Nat.reduceLT, Nat.reduceLeDiff, Int.reduceLT, Int.reduceLE, Int.reduceAdd, Int.reduceSub, Int.reduceNeg, Int.reduceMul, Int.reduceEq, Int.reduceToNat, nilA, moveA, live, loadA, rdA, storeA, wrA, intA, elemA, lenA, appA, srcA, isPtr, isNilPtr, partA, resOf, sliceA, cut, id, ap2, reduceIte, concs, chkB, geB, AOp.cls, AOp.xs, ltB, ltC, Nat.reduceBEq, Option.toList, List.cons_append, decide_eq_true, decide_eq_false, if_pos, if_neg, List.length_map, pA_at, iA_at, List.cons_append, bVb, bVn, eq_self, Bool.and_self, BEq.rfl, not_true_eq_false, hb]; (first | ((with_reducible refine hK _ ?_ ?_ ?_ ?_); rotate_left 2; rfl; rfl) | ((with_reducible refine hK _ ?_); rfl))))
    · rintro st ⟨x5, g, hk2, hg, rfl⟩
      (obtain ⟨g0, g0t, rfl, hg0⟩ := len_succ hg; clear hg; obtain ⟨g1, g1t, rfl, hg1⟩ := len_succ hg0; clear hg0; obtain ⟨g2, g2t, rfl, hg2⟩ := len_succ hg1; clear hg1; obtain ⟨g3, g3t, rfl, hg3⟩ := len_succ hg2; clear hg2; obtain ⟨g4, g4t, rfl, hg4⟩ := len_succ hg3; clear hg3; obtain ⟨g5, g5t, rfl, hg5⟩ := len_succ hg4; clear hg4; obtain ⟨g6, g6t, rfl, hg6⟩ := len_succ hg5; clear hg5; obtain ⟨g7, g7t, rfl, hg7⟩ := len_succ hg6; clear hg6; obtain ⟨g8, g8t, rfl, hg8⟩ := len_succ hg7; clear hg7; obtain ⟨g9, g9t, rfl, hg9⟩ := len_succ hg8; clear hg8; obtain ⟨g10, g10t, rfl, hg10⟩ := len_succ hg9; clear hg9; obtain ⟨g11, g11t, rfl, hg11⟩ := len_succ hg10; clear hg10; obtain rfl := List.length_eq_zero_iff.mp hg11; clear hg11)
      simp only [List.cons_append, List.nil_append]
      obtain rfl := eq_all hr hn hk2
      repeat (first | with_reducible refine w_seq ?_ | with_reducible refine w_reg ?_ | with_reducible refine w_exit ?_ | with_reducible refine ws_nil ?_ | with_reducible refine q_then ?_ | with_reducible refine q_then_x ?_ | with_reducible refine q_block_x ?_ | with_reducible refine w_ret ?_ | ((first | with_reducible refine ks fun K hK => ?_ | with_reducible refine kd fun K hK => ?_ | with_reducible refine kc fun K hK2 hK hK3 => ?_); simp (disch := omega) only [bg0, bg1, bg2, bg3, bg4, stepO, rsAs, eff, AX.ev, St.put, binA, conc, ap1, ofVal, Int.reduceTMod, Int.reduceTDiv, reduceCtorEq, fillA, AV.cells, AV.fine, AV.one, Nat.reduceAdd, Nat.reduceSub, Nat.reduceMul, Nat.reduceLT, Nat.reduceLeDiff, Int.reduceLT, Int.reduceLE, Int.reduceAdd, Int.reduceSub, Int.reduceNeg, Int.reduceMul, Int.reduceEq, Int.reduceToNat, nilA, moveA, live, loadA, rdA, storeA, wrA, intA, elemA, lenA, appA, srcA, isPtr, isNilPtr, partA, resOf, sliceA, cut, id, ap2, reduceIte, concs, chkB, geB, AOp.cls, AOp.xs, ltB, ltC, Nat.reduceBEq, Option.toList, List.cons_append, decide_eq_true, decide_eq_false, if_pos, if_neg, List.length_map, pA_at, iA_at, List.cons_append, bVb, bVn, eq_self, Bool.and_self, BEq.rfl, not_true_eq_false]; (first | ((with_reducible refine hK _ ?_); clear hK K) | ((with_reducible refine hK ?_); clear hK hK3 K hK2) | ((with_reducible refine hK3 ?_); clear hK hK3 K hK2))) | ((first | with_reducible refine ret_h fun K hK => ?_ | with_reducible refine ret_hh rfl fun K hK => ?_ | with_reducible refine ret_pp fun K hK => ?_); simp (disch := omega) only [bg0, bg1, bg2, bg3, bg4, stepO, rsAs, eff, AX.ev, St.put, binA, conc, ap1, ofVal, Int.reduceTMod, Int.reduceTDiv, reduceCtorEq, fillA, AV.cells, AV.fine, AV.one, Nat.reduceAdd, Nat.reduceSub, Nat.reduceMul, Nat.reduceLT, Nat.reduceLeDiff, Int.reduceLT, Int.reduceLE, Int.reduceAdd, Int.reduceSub, Int.reduceNeg, Int.reduceMul, Int.reduceEq, Int.reduceToNat, nilA, moveA, live, loadA, rdA, storeA, wrA, intA, elemA, lenA, appA, srcA, isPtr, isNilPtr, partA, resOf, sliceA, cut, id, ap2, reduceIte, concs, chkB, geB, AOp.cls, AOp.xs, ltB, ltC, Nat.reduceBEq, Option.toList, List.cons_append, decide_eq_true, decide_eq_false, if_pos, if_neg, List.length_map, pA_at, iA_at, List.cons_append, bVb, bVn, eq_self, Bool.and_self, BEq.rfl, not_true_eq_false]; (first | ((with_reducible refine hK _ ?_ ?_ ?_ ?_); rotate_left 2; rfl; rfl) | ((with_reducible refine hK _ ?_); rfl))))
  · obtain rfl := eq_len hr hn
    repeat (first | with_reducible refine w_seq ?_ | with_reducible refine w_reg ?_ | with_reducible refine ws_nil ?_ | with_reducible refine q_then ?_ | with_reducible refine w_ret ?_ | with_reducible refine q_then_r ?_ | ((first | with_reducible refine ks fun K hK => ?_ | with_reducible refine kd fun K hK => ?_ | with_reducible refine kc fun K hK2 hK hK3 => ?_); simp (disch := omega) only [bg0, bg1, bg2, bg3, bg4, stepO, rsAs, eff, AX.ev, St.put, binA, conc, ap1, ofVal, Int.reduceTMod, Int.reduceTDiv, reduceCtorEq, fillA, AV.cells, AV.fine, AV.one, Nat.reduceAdd, Nat.reduceSub, Nat.reduceMul, Nat.reduceLT, Nat.reduceLeDiff, Int.reduceLT, Int.reduceLE, Int.reduceAdd, Int.reduceSub, Int.reduceNeg, Int.reduceMul, Int.reduceEq, Int.reduceToNat, nilA, moveA, live, loadA, rdA, storeA, wrA, intA, elemA, lenA, appA, srcA, isPtr, isNilPtr, partA, resOf, sliceA, cut, id, ap2, reduceIte, concs, chkB, geB, AOp.cls, AOp.xs, ltB, ltC, Nat.reduceBEq, Option.toList, List.cons_append, decide_eq_true, decide_eq_false, if_pos, if_neg, List.length_map, pA_at, iA_at, List.cons_append, bVb, bVn, eq_self, Bool.and_self, BEq.rfl, not_true_eq_false]; (first | ((with_reducible refine hK _ ?_); clear hK K) | ((with_reducible refine hK ?_); clear hK hK3 K hK2) | ((with_reducible refine hK3 ?_); clear hK hK3 K hK2))) | ((first | with_reducible refine ret_h fun K hK => ?_ | with_reducible refine ret_hh rfl fun K hK => ?_ | with_reducible refine ret_pp fun K hK => ?_); simp (disch := omega) only [bg0, bg1, bg2, bg3, bg4, stepO, rsAs, eff, AX.ev, St.put, binA, conc, ap1, ofVal, Int.reduceTMod, Int.reduceTDiv, reduceCtorEq, fillA, AV.cells, AV.fine, AV.one, Nat.reduceAdd, Nat.reduceSub, Nat.reduceMul, Nat.reduceLT, Nat.reduceLeDiff, Int.reduceLT, Int.reduceLE, Int.reduceAdd, Int.reduceSub, Int.reduceNeg, Int.reduceMul, Int.reduceEq, Int.reduceToNat, nilA, moveA, live, loadA, rdA, storeA, wrA, intA, elemA, lenA, appA, srcA, isPtr, isNilPtr, partA, resOf, sliceA, cut, id, ap2, reduceIte, concs, chkB, geB, AOp.cls, AOp.xs, ltB, ltC, Nat.reduceBEq, Option.toList, List.cons_append, decide_eq_true, decide_eq_false, if_pos, if_neg, List.length_map, pA_at, iA_at, List.cons_append, bVb, bVn, eq_self, Bool.and_self, BEq.rfl, not_true_eq_false]; (first | ((with_reducible refine hK _ ?_ ?_ ?_ ?_); rotate_left 2; rfl; rfl) | ((with_reducible refine hK _ ?_); rfl))))
end Go.Proofs.Ytfdfmhapcjckoaa.Sim
namespace Go.Proofs.Ytfdfmhapcjckoaa.Sim
open Go.RowKit
set_option maxRecDepth 100000
abbrev nV (kn : Int) (ke va : ByteArray) (mp : Int) (kk : List Int) (mn : Int) (ls : List Pr) (sz bi : Int) : AV := .agg [I kn, S ke, S va, .v (.int .u32 mp), .sl 1 (kk.map iA), I mn, .sl 2 (ls.map pA), I sz, I bi]
section
variable {P : Program} {t : TypeId} {xo yo : Operand} {a b : Int}
theorem b32e : binV P .eql t xo yo (.int .u32 a) (.int .u32 b) = some (.bool (decide (a = b))) := by
  have : (a == b) = decide (a = b) := by by_cases h : a = b <;> simp [h]
  rw [← this]; rfl
theorem b32n : binV P .neq t xo yo (.int .u32 a) (.int .u32 b) = some (.bool (decide (a ≠ b))) := by
  have : (a != b) = decide (a ≠ b) := by by_cases h : a = b <;> simp [h]
  rw [← this]; rfl
end
def cB (a b : ByteArray) : Int := Ord.cmp a.data.toList b.data.toList
theorem cB_self (a : ByteArray) : cB a a = 0 := Ord.cmp_self _
theorem cB_ne {a b : ByteArray} (h : ¬ a = b) : ¬ cB a b = 0 := fun e => h (by
  have := (Ord.cmp_zero _ _).1 e
  cases a; cases b
  simp only [ByteArray.mk.injEq]
  exact Array.ext' this)
theorem cmpP (G : Nat → AV) (a b : ByteArray) (ha : a.size ≤ 9223372036854775807) (hb : b.size ≤ 9223372036854775807) : PC Try.prog G 57 [S a, S b] (I (cB a b)) :=
  pc_calls rfl rfl (fun w => (Ord.Compare_calls a b w (by rw [maxLenE]; exact ha) (by rw [maxLenE]; exact hb)).mono fun e w' h => h.fresh)
end Go.Proofs.Ytfdfmhapcjckoaa.Sim
namespace Go.Proofs.Ytfdfmhapcjckoaa.Sim
open Go.RowKit
set_option maxRecDepth 100000
abbrev PrS := {p : Pr // p.1.size ≤ 9223372036854775807 ∧ p.2.size ≤ 9223372036854775807}
def pC (p : PrS) : List AV := [S p.1.1, S p.1.2]
theorem pair_inv {cs : List AV} (h : ShC Try.prog 62 cs) : ∃ p : PrS, cs = pC p := by
  obtain ⟨p0, q, rfl, hp0, h⟩ := (h.flds (ts := [9, 9]) (by kernel_rfl)).cons
  obtain ⟨p1, q, rfl, hp1, h⟩ := h.cons
  obtain rfl := h.nil
  obtain ⟨a, rfl, ha⟩ := hp0.str_inv u_str
  obtain ⟨b, rfl, hb⟩ := hp1.str_inv u_str
  exact ⟨⟨(a, b), ha, hb⟩, rfl⟩
end Go.Proofs.Ytfdfmhapcjckoaa.Sim
namespace Go.Proofs.Ytfdfmhapcjckoaa.Sim
open Go.RowKit
set_option maxRecDepth 100000
set_option maxHeartbeats 16000000 in
theorem same22 (G : Nat → AV) (kn kn' : Int) (ke ke' va va' : ByteArray) (mp mp' : Int) (kk kk' : List Int) (mn mn' : Int) (ls ls' : List Pr) (sz sz' bi bi' : Int) (hke : ke.size ≤ 9223372036854775807) (hke2 : ke'.size ≤ 9223372036854775807) (hva : va.size ≤ 9223372036854775807) (hva2 : va'.size ≤ 9223372036854775807) (hks : kk.length ≤ 9223372036854775807) (hks2 : kk'.length ≤ 9223372036854775807) (hls : ls.length ≤ 9223372036854775807) (hls2 : ls'.length ≤ 9223372036854775807) (r : Bool)
    (hr : r = decide (kn = kn' ∧ ke = ke' ∧ va = va' ∧ mp = mp' ∧ kk = kk' ∧ mn = mn' ∧ ls = ls' ∧ sz = sz' ∧ bi = bi')) : PC Try.prog G 50 [nV kn ke va mp kk mn ls sz bi, nV kn' ke' va' mp' kk' mn' ls' sz' bi'] (Bo r) := by
  refine pc_of cop50 ?_
  show W _ _ _ _ ⟨_, _⟩; simp only [A50, List.cons_append, List.nil_append, List.length_cons, List.length_nil, Nat.reduceAdd, Nat.reduceSub, List.replicate]
  by_cases hne : kn = kn'
  case neg =>
    obtain rfl : r = false := by rw [hr]; simp [hne]
    repeat (first | with_reducible refine w_seq ?_ | with_reducible refine w_reg ?_ | with_reducible refine ws_nil ?_ | with_reducible refine q_then ?_ | with_reducible refine w_ret ?_ | ((with_reducible refine kgs_f ?_ ?_); rfl) | ((first | with_reducible refine ks fun K hK => ?_ | with_reducible refine kd fun K hK => ?_ | with_reducible refine kc fun K hK2 hK hK3 => ?_); simp (disch := omega) only [bg0, bg1, bg2, bg3, bg4, stepO, rsAs, eff, AX.ev, St.put, binA, conc, ap1, ofVal, Int.reduceTMod, Int.reduceTDiv, reduceCtorEq, fillA, AV.cells, AV.fine, AV.one, Nat.reduceAdd, Nat.reduceSub, Nat.reduceMul, Nat.reduceLT, Nat.reduceLeDiff, Int.reduceLT, Int.reduceLE, Int.reduceAdd, Int.reduceSub, Int.reduceNeg, Int.reduceMul, Int.reduceEq, Int.reduceToNat, nilA, moveA, live, loadA, rdA, storeA, wrA, intA, elemA, lenA, appA, srcA, isPtr, isNilPtr, partA, resOf, sliceA, cut, id, ap2, reduceIte, concs, chkB, geB, AOp.cls, AOp.xs, ltB, ltC, Nat.reduceBEq, Option.toList, List.cons_append, decide_eq_true, decide_eq_false, if_pos, if_neg, List.length_map, pA_at, iA_at, List.cons_append, bVb, bVn, eq_self, Bool.and_self, BEq.rfl, not_true_eq_false, b32e, b32n, decide_true, decide_false, not_false_eq_true, hne, cB_self]; (first | ((with_reducible refine hK _ ?_); clear hK K) | ((with_reducible refine hK ?_); clear hK hK3 K hK2) | ((with_reducible refine hK3 ?_); clear hK hK3 K hK2))) | ((first | with_reducible refine ret_h fun K hK => ?_ | with_reducible refine ret_hh rfl fun K hK => ?_ | with_reducible refine ret_pp fun K hK => ?_); simp (disch := omega) only [bg0, bg1, bg2, bg3, bg4, stepO, rsAs, eff, AX.ev, St.put, binA, conc, ap1, ofVal, Int.reduceTMod, Int.reduceTDiv, reduceCtorEq, fillA, AV.cells, AV.fine, AV.one, Nat.reduceAdd, Nat.reduceSub, Nat.reduceMul, Nat.reduceLT, Nat.reduceLeDiff, Int.reduceLT, Int.reduceLE, Int.reduceAdd, Int.reduceSub, Int.reduceNeg, Int.reduceMul, Int.reduceEq, Int.reduceToNat, nilA, moveA, live, loadA, rdA, storeA, wrA, intA, elemA, lenA, appA, srcA, isPtr, isNilPtr, partA, resOf, sliceA, cut, id, ap2, reduceIte, concs, chkB, geB, AOp.cls, AOp.xs, ltB, ltC, Nat.reduceBEq, Option.toList, List.cons_append, decide_eq_true, decide_eq_false, if_pos, if_neg, List.length_map, pA_at, iA_at, List.cons_append, bVb, bVn, eq_self, Bool.and_self, BEq.rfl, not_true_eq_false, b32e, b32n, decide_true, decide_false, not_false_eq_true, hne, cB_self]; (first | ((with_reducible refine hK _ ?_ ?_ ?_ ?_); rotate_left 2; rfl; rfl) | ((with_reducible refine hK _ ?_); rfl))))
  subst hne
  by_cases hne : ke = ke'
  case neg =>
    obtain rfl : r = false := by rw [hr]; simp [hne]
    repeat (first | with_reducible refine w_seq ?_ | with_reducible refine w_reg ?_ | with_reducible refine ws_nil ?_ | with_reducible refine q_then ?_ | with_reducible refine w_ret ?_ | ((with_reducible refine kgs_t ?_ ?_); rfl) | ((with_reducible refine kgs_f ?_ ?_); rfl) | ((first | with_reducible refine ks fun K hK => ?_ | with_reducible refine kd fun K hK => ?_ | with_reducible refine kc fun K hK2 hK hK3 => ?_); simp (disch := omega) only [bg0, bg1, bg2, bg3, bg4, stepO, rsAs, eff, AX.ev, St.put, binA, conc, ap1, ofVal, Int.reduceTMod, Int.reduceTDiv, reduceCtorEq, fillA, AV.cells, AV.fine, AV.one, Nat.reduceAdd, Nat.reduceSub, Nat.reduceMul, Nat.reduceLT, Nat.reduceLeDiff, Int.reduceLT, Int.reduceLE, Int.reduceAdd, Int.reduceSub, Int.reduceNeg, Int.reduceMul, Int.reduceEq, Int.reduceToNat, nilA, moveA, live, loadA, rdA, storeA, wrA, intA, elemA, lenA, appA, srcA, isPtr, isNilPtr, partA, resOf, sliceA, cut, id, ap2, reduceIte, concs, chkB, geB, AOp.cls, AOp.xs, ltB, ltC, Nat.reduceBEq, Option.toList, List.cons_append, decide_eq_true, decide_eq_false, if_pos, if_neg, List.length_map, pA_at, iA_at, List.cons_append, bVb, bVn, eq_self, Bool.and_self, BEq.rfl, not_true_eq_false, b32e, b32n, decide_true, decide_false, not_false_eq_true, hne, cB_self, cB_ne hne]; (first | ((with_reducible refine hK _ ?_); clear hK K) | ((with_reducible refine hK ?_); clear hK hK3 K hK2) | ((with_reducible refine hK3 ?_); clear hK hK3 K hK2))) | ((with_reducible refine kps 57 ?_ ?_ ?_ ?_); rotate_left 1; rfl; exact (by refine cmpP G _ _ ?_ ?_ <;> assumption)) | ((first | with_reducible refine ret_h fun K hK => ?_ | with_reducible refine ret_hh rfl fun K hK => ?_ | with_reducible refine ret_pp fun K hK => ?_); simp (disch := omega) only [bg0, bg1, bg2, bg3, bg4, stepO, rsAs, eff, AX.ev, St.put, binA, conc, ap1, ofVal, Int.reduceTMod, Int.reduceTDiv, reduceCtorEq, fillA, AV.cells, AV.fine, AV.one, Nat.reduceAdd, Nat.reduceSub, Nat.reduceMul, Nat.reduceLT, Nat.reduceLeDiff, Int.reduceLT, Int.reduceLE, Int.reduceAdd, Int.reduceSub, Int.reduceNeg, Int.reduceMul, Int.reduceEq, Int.reduceToNat, nilA, moveA, live, loadA, rdA, storeA, wrA, intA, elemA, lenA, appA, srcA, isPtr, isNilPtr, partA, resOf, sliceA, cut, id, ap2, reduceIte, concs, chkB, geB, AOp.cls, AOp.xs, ltB, ltC, Nat.reduceBEq, Option.toList, List.cons_append, decide_eq_true, decide_eq_false, if_pos, if_neg, List.length_map, pA_at, iA_at, List.cons_append, bVb, bVn, eq_self, Bool.and_self, BEq.rfl, not_true_eq_false, b32e, b32n, decide_true, decide_false, not_false_eq_true, hne, cB_self, cB_ne hne]; (first | ((with_reducible refine hK _ ?_ ?_ ?_ ?_); rotate_left 2; rfl; rfl) | ((with_reducible refine hK _ ?_); rfl))))
  subst hne
  by_cases hne : va = va'
  case neg =>
    obtain rfl : r = false := by rw [hr]; simp [hne]
    repeat (first | with_reducible refine w_seq ?_ | with_reducible refine w_reg ?_ | with_reducible refine ws_nil ?_ | with_reducible refine q_then ?_ | with_reducible refine w_ret ?_ | ((with_reducible refine kgs_t ?_ ?_); rfl) | ((with_reducible refine kgs_f ?_ ?_); rfl) | ((first | with_reducible refine ks fun K hK => ?_ | with_reducible refine kd fun K hK => ?_ | with_reducible refine kc fun K hK2 hK hK3 => ?_); simp (disch := omega) only [bg0, bg1, bg2, bg3, bg4, stepO, rsAs, eff, AX.ev, St.put, binA, conc, ap1, ofVal, Int.reduceTMod, Int.reduceTDiv, reduceCtorEq, fillA, AV.cells, AV.fine, AV.one, Nat.reduceAdd, Nat.reduceSub, Nat.reduceMul, Nat.reduceLT, Nat.reduceLeDiff, Int.reduceLT, Int.reduceLE, Int.reduceAdd, Int.reduceSub, Int.reduceNeg, Int.reduceMul, Int.reduceEq, Int.reduceToNat, nilA, moveA, live, loadA, rdA, storeA, wrA, intA, elemA, lenA, appA, srcA, isPtr, isNilPtr, partA, resOf, sliceA, cut, id, ap2, reduceIte, concs, chkB, geB, AOp.cls, AOp.xs, ltB, ltC, Nat.reduceBEq, Option.toList, List.cons_append, decide_eq_true, decide_eq_false, if_pos, if_neg, List.length_map, pA_at, iA_at, List.cons_append, bVb, bVn, eq_self, Bool.and_self, BEq.rfl, not_true_eq_false, b32e, b32n, decide_true, decide_false, not_false_eq_true, hne, cB_self, cB_ne hne]; (first | ((with_reducible refine hK _ ?_); clear hK K) | ((with_reducible refine hK ?_); clear hK hK3 K hK2) | ((with_reducible refine hK3 ?_); clear hK hK3 K hK2))) | ((with_reducible refine kps 57 ?_ ?_ ?_ ?_); rotate_left 1; rfl; exact (by refine cmpP G _ _ ?_ ?_ <;> assumption)) | ((first | with_reducible refine ret_h fun K hK => ?_ | with_reducible refine ret_hh rfl fun K hK => ?_ | with_reducible refine ret_pp fun K hK => ?_); simp (disch := omega) only [bg0, bg1, bg2, bg3, bg4, stepO, rsAs, eff, AX.ev, St.put, binA, conc, ap1, ofVal, Int.reduceTMod, Int.reduceTDiv, reduceCtorEq, fillA, AV.cells, AV.fine, AV.one, Nat.reduceAdd, Nat.reduceSub, Nat.reduceMul, Nat.reduceLT, Nat.reduceLeDiff, Int.reduceLT, Int.reduceLE, Int.reduceAdd, Int.reduceSub, Int.reduceNeg, Int.reduceMul, Int.reduceEq, Int.reduceToNat, nilA, moveA, live, loadA, rdA, storeA, wrA, intA, elemA, lenA, appA, srcA, isPtr, isNilPtr, partA, resOf, sliceA, cut, id, ap2, reduceIte, concs, chkB, geB, AOp.cls, AOp.xs, ltB, ltC, Nat.reduceBEq, Option.toList, List.cons_append, decide_eq_true, decide_eq_false, if_pos, if_neg, List.length_map, pA_at, iA_at, List.cons_append, bVb, bVn, eq_self, Bool.and_self, BEq.rfl, not_true_eq_false, b32e, b32n, decide_true, decide_false, not_false_eq_true, hne, cB_self, cB_ne hne]; (first | ((with_reducible refine hK _ ?_ ?_ ?_ ?_); rotate_left 2; rfl; rfl) | ((with_reducible refine hK _ ?_); rfl))))
  subst hne
  by_cases hne : mp = mp'
  case neg =>
    obtain rfl : r = false := by rw [hr]; simp [hne]
    repeat (first | with_reducible refine w_seq ?_ | with_reducible refine w_reg ?_ | with_reducible refine ws_nil ?_ | with_reducible refine q_then ?_ | with_reducible refine w_ret ?_ | ((with_reducible refine kgs_t ?_ ?_); rfl) | ((with_reducible refine kgs_f ?_ ?_); rfl) | ((first | with_reducible refine ks fun K hK => ?_ | with_reducible refine kd fun K hK => ?_ | with_reducible refine kc fun K hK2 hK hK3 => ?_); simp (disch := omega) only [bg0, bg1, bg2, bg3, bg4, stepO, rsAs, eff, AX.ev, St.put, binA, conc, ap1, ofVal, Int.reduceTMod, Int.reduceTDiv, reduceCtorEq, fillA, AV.cells, AV.fine, AV.one, Nat.reduceAdd, Nat.reduceSub, Nat.reduceMul, Nat.reduceLT, Nat.reduceLeDiff, Int.reduceLT, Int.reduceLE, Int.reduceAdd, Int.reduceSub, Int.reduceNeg, Int.reduceMul, Int.reduceEq, Int.reduceToNat, nilA, moveA, live, loadA, rdA, storeA, wrA, intA, elemA, lenA, appA, srcA, isPtr, isNilPtr, partA, resOf, sliceA, cut, id, ap2, reduceIte, concs, chkB, geB, AOp.cls, AOp.xs, ltB, ltC, Nat.reduceBEq, Option.toList, List.cons_append, decide_eq_true, decide_eq_false, if_pos, if_neg, List.length_map, pA_at, iA_at, List.cons_append, bVb, bVn, eq_self, Bool.and_self, BEq.rfl, not_true_eq_false, b32e, b32n, decide_true, decide_false, not_false_eq_true, hne, cB_self]; (first | ((with_reducible refine hK _ ?_); clear hK K) | ((with_reducible refine hK ?_); clear hK hK3 K hK2) | ((with_reducible refine hK3 ?_); clear hK hK3 K hK2))) | ((with_reducible refine kps 57 ?_ ?_ ?_ ?_); rotate_left 1; rfl; exact (by refine cmpP G _ _ ?_ ?_ <;> assumption)) | ((first | with_reducible refine ret_h fun K hK => ?_ | with_reducible refine ret_hh rfl fun K hK => ?_ | with_reducible refine ret_pp fun K hK => ?_); simp (disch := omega) only [bg0, bg1, bg2, bg3, bg4, stepO, rsAs, eff, AX.ev, St.put, binA, conc, ap1, ofVal, Int.reduceTMod, Int.reduceTDiv, reduceCtorEq, fillA, AV.cells, AV.fine, AV.one, Nat.reduceAdd, Nat.reduceSub, Nat.reduceMul, Nat.reduceLT, Nat.reduceLeDiff, Int.reduceLT, Int.reduceLE, Int.reduceAdd, Int.reduceSub, Int.reduceNeg, Int.reduceMul, Int.reduceEq, Int.reduceToNat, nilA, moveA, live, loadA, rdA, storeA, wrA, intA, elemA, lenA, appA, srcA, isPtr, isNilPtr, partA, resOf, sliceA, cut, id, ap2, reduceIte, concs, chkB, geB, AOp.cls, AOp.xs, ltB, ltC, Nat.reduceBEq, Option.toList, List.cons_append, decide_eq_true, decide_eq_false, if_pos, if_neg, List.length_map, pA_at, iA_at, List.cons_append, bVb, bVn, eq_self, Bool.and_self, BEq.rfl, not_true_eq_false, b32e, b32n, decide_true, decide_false, not_false_eq_true, hne, cB_self]; (first | ((with_reducible refine hK _ ?_ ?_ ?_ ?_); rotate_left 2; rfl; rfl) | ((with_reducible refine hK _ ?_); rfl))))
  subst hne
  by_cases hne : kk = kk'
  case neg =>
    obtain rfl : r = false := by rw [hr]; simp [hne]
    repeat (first | with_reducible refine w_seq ?_ | with_reducible refine w_reg ?_ | with_reducible refine ws_nil ?_ | with_reducible refine q_then ?_ | with_reducible refine w_ret ?_ | ((with_reducible refine kgs_t ?_ ?_); rfl) | ((with_reducible refine kgs_f ?_ ?_); rfl) | ((first | with_reducible refine ks fun K hK => ?_ | with_reducible refine kd fun K hK => ?_ | with_reducible refine kc fun K hK2 hK hK3 => ?_); simp (disch := omega) only [bg0, bg1, bg2, bg3, bg4, stepO, rsAs, eff, AX.ev, St.put, binA, conc, ap1, ofVal, Int.reduceTMod, Int.reduceTDiv, reduceCtorEq, fillA, AV.cells, AV.fine, AV.one, Nat.reduceAdd, Nat.reduceSub, Nat.reduceMul, Nat.reduceLT, Nat.reduceLeDiff, Int.reduceLT, Int.reduceLE, Int.reduceAdd, Int.reduceSub, Int.reduceNeg, Int.reduceMul, Int.reduceEq, Int.reduceToNat, nilA, moveA, live, loadA, rdA, storeA, wrA, intA, elemA, lenA, appA, srcA, isPtr, isNilPtr, partA, resOf, sliceA, cut, id, ap2, reduceIte, concs, chkB, geB, AOp.cls, AOp.xs, ltB, ltC, Nat.reduceBEq, Option.toList, List.cons_append, decide_eq_true, decide_eq_false, if_pos, if_neg, List.length_map, pA_at, iA_at, List.cons_append, bVb, bVn, eq_self, Bool.and_self, BEq.rfl, not_true_eq_false, b32e, b32n, decide_true, decide_false, not_false_eq_true, hne, cB_self]; (first | ((with_reducible refine hK _ ?_); clear hK K) | ((with_reducible refine hK ?_); clear hK hK3 K hK2) | ((with_reducible refine hK3 ?_); clear hK hK3 K hK2))) | ((with_reducible refine kps 57 ?_ ?_ ?_ ?_); rotate_left 1; rfl; exact (by refine cmpP G _ _ ?_ ?_ <;> assumption)) | ((with_reducible refine kps 58 ?_ ?_ ?_ ?_); rotate_left 1; rfl; exact (by refine eq40 G _ _ ?_ ?_ _ rfl <;> assumption)) | ((first | with_reducible refine ret_h fun K hK => ?_ | with_reducible refine ret_hh rfl fun K hK => ?_ | with_reducible refine ret_pp fun K hK => ?_); simp (disch := omega) only [bg0, bg1, bg2, bg3, bg4, stepO, rsAs, eff, AX.ev, St.put, binA, conc, ap1, ofVal, Int.reduceTMod, Int.reduceTDiv, reduceCtorEq, fillA, AV.cells, AV.fine, AV.one, Nat.reduceAdd, Nat.reduceSub, Nat.reduceMul, Nat.reduceLT, Nat.reduceLeDiff, Int.reduceLT, Int.reduceLE, Int.reduceAdd, Int.reduceSub, Int.reduceNeg, Int.reduceMul, Int.reduceEq, Int.reduceToNat, nilA, moveA, live, loadA, rdA, storeA, wrA, intA, elemA, lenA, appA, srcA, isPtr, isNilPtr, partA, resOf, sliceA, cut, id, ap2, reduceIte, concs, chkB, geB, AOp.cls, AOp.xs, ltB, ltC, Nat.reduceBEq, Option.toList, List.cons_append, decide_eq_true, decide_eq_false, if_pos, if_neg, List.length_map, pA_at, iA_at, List.cons_append, bVb, bVn, eq_self, Bool.and_self, BEq.rfl, not_true_eq_false, b32e, b32n, decide_true, decide_false, not_false_eq_true, hne, cB_self]; (first | ((with_reducible refine hK _ ?_ ?_ ?_ ?_); rotate_left 2; rfl; rfl) | ((with_reducible refine hK _ ?_); rfl))))
  subst hne
  by_cases hne : mn = mn'
  case neg =>
    obtain rfl : r = false := by rw [hr]; simp [hne]
    repeat (first | with_reducible refine w_seq ?_ | with_reducible refine w_reg ?_ | with_reducible refine ws_nil ?_ | with_reducible refine q_then ?_ | with_reducible refine w_ret ?_ | ((with_reducible refine kgs_t ?_ ?_); rfl) | ((with_reducible refine kgs_f ?_ ?_); rfl) | ((first | with_reducible refine ks fun K hK => ?_ | with_reducible refine kd fun K hK => ?_ | with_reducible refine kc fun K hK2 hK hK3 => ?_); simp (disch := omega) only [bg0, bg1, bg2, bg3, bg4, stepO, rsAs, eff, AX.ev, St.put, binA, conc, ap1, ofVal, Int.reduceTMod, Int.reduceTDiv, reduceCtorEq, fillA, AV.cells, AV.fine, AV.one, Nat.reduceAdd, Nat.reduceSub, Nat.reduceMul, Nat.reduceLT, Nat.reduceLeDiff, Int.reduceLT, Int.reduceLE, Int.reduceAdd, Int.reduceSub, Int.reduceNeg, Int.reduceMul, Int.reduceEq, Int.reduceToNat, nilA, moveA, live, loadA, rdA, storeA, wrA, intA, elemA, lenA, appA, srcA, isPtr, isNilPtr, partA, resOf, sliceA, cut, id, ap2, reduceIte, concs, chkB, geB, AOp.cls, AOp.xs, ltB, ltC, Nat.reduceBEq, Option.toList, List.cons_append, decide_eq_true, decide_eq_false, if_pos, if_neg, List.length_map, pA_at, iA_at, List.cons_append, bVb, bVn, eq_self, Bool.and_self, BEq.rfl, not_true_eq_false, b32e, b32n, decide_true, decide_false, not_false_eq_true, hne, cB_self]; (first | ((with_reducible refine hK _ ?_); clear hK K) | ((with_reducible refine hK ?_); clear hK hK3 K hK2) | ((with_reducible refine hK3 ?_); clear hK hK3 K hK2))) | ((with_reducible refine kps 57 ?_ ?_ ?_ ?_); rotate_left 1; rfl; exact (by refine cmpP G _ _ ?_ ?_ <;> assumption)) | ((with_reducible refine kps 58 ?_ ?_ ?_ ?_); rotate_left 1; rfl; exact (by refine eq40 G _ _ ?_ ?_ _ rfl <;> assumption)) | ((first | with_reducible refine ret_h fun K hK => ?_ | with_reducible refine ret_hh rfl fun K hK => ?_ | with_reducible refine ret_pp fun K hK => ?_); simp (disch := omega) only [bg0, bg1, bg2, bg3, bg4, stepO, rsAs, eff, AX.ev, St.put, binA, conc, ap1, ofVal, Int.reduceTMod, Int.reduceTDiv, reduceCtorEq, fillA, AV.cells, AV.fine, AV.one, Nat.reduceAdd, Nat.reduceSub, Nat.reduceMul, Nat.reduceLT, Nat.reduceLeDiff, Int.reduceLT, Int.reduceLE, Int.reduceAdd, Int.reduceSub, Int.reduceNeg, Int.reduceMul, Int.reduceEq, Int.reduceToNat, nilA, moveA, live, loadA, rdA, storeA, wrA, intA, elemA, lenA, appA, srcA, isPtr, isNilPtr, partA, resOf, sliceA, cut, id, ap2, reduceIte, concs, chkB, geB, AOp.cls, AOp.xs, ltB, ltC, Nat.reduceBEq, Option.toList, List.cons_append, decide_eq_true, decide_eq_false, if_pos, if_neg, List.length_map, pA_at, iA_at, List.cons_append, bVb, bVn, eq_self, Bool.and_self, BEq.rfl, not_true_eq_false, b32e, b32n, decide_true, decide_false, not_false_eq_true, hne, cB_self]; (first | ((with_reducible refine hK _ ?_ ?_ ?_ ?_); rotate_left 2; rfl; rfl) | ((with_reducible refine hK _ ?_); rfl))))
  subst hne
  by_cases hne : ls = ls'
  case neg =>
    obtain rfl : r = false := by rw [hr]; simp [hne]
    repeat (first | with_reducible refine w_seq ?_ | with_reducible refine w_reg ?_ | with_reducible refine ws_nil ?_ | with_reducible refine q_then ?_ | with_reducible refine w_ret ?_ | ((with_reducible refine kgs_t ?_ ?_); rfl) | ((with_reducible refine kgs_f ?_ ?_); rfl) | ((first | with_reducible refine ks fun K hK => ?_ | with_reducible refine kd fun K hK => ?_ | with_reducible refine kc fun K hK2 hK hK3 => ?_); simp (disch := omega) only [bg0, bg1, bg2, bg3, bg4, stepO, rsAs, eff, AX.ev, St.put, binA, conc, ap1, ofVal, Int.reduceTMod, Int.reduceTDiv, reduceCtorEq, fillA, AV.cells, AV.fine, AV.one, Nat.reduceAdd, Nat.reduceSub, Nat.reduceMul, Nat.reduceLT, Nat.reduceLeDiff, Int.reduceLT, Int.reduceLE, Int.reduceAdd, Int.reduceSub, Int.reduceNeg, Int.reduceMul, Int.reduceEq, Int.reduceToNat, nilA, moveA, live, loadA, rdA, storeA, wrA, intA, elemA, lenA, appA, srcA, isPtr, isNilPtr, partA, resOf, sliceA, cut, id, ap2, reduceIte, concs, chkB, geB, AOp.cls, AOp.xs, ltB, ltC, Nat.reduceBEq, Option.toList, List.cons_append, decide_eq_true, decide_eq_false, if_pos, if_neg, List.length_map, pA_at, iA_at, List.cons_append, bVb, bVn, eq_self, Bool.and_self, BEq.rfl, not_true_eq_false, b32e, b32n, decide_true, decide_false, not_false_eq_true, hne, cB_self]; (first | ((with_reducible refine hK _ ?_); clear hK K) | ((with_reducible refine hK ?_); clear hK hK3 K hK2) | ((with_reducible refine hK3 ?_); clear hK hK3 K hK2))) | ((with_reducible refine kps 57 ?_ ?_ ?_ ?_); rotate_left 1; rfl; exact (by refine cmpP G _ _ ?_ ?_ <;> assumption)) | ((with_reducible refine kps 58 ?_ ?_ ?_ ?_); rotate_left 1; rfl; exact (by refine eq40 G _ _ ?_ ?_ _ rfl <;> assumption)) | ((with_reducible refine kps 59 ?_ ?_ ?_ ?_); rotate_left 1; rfl; exact (by refine eq41 G _ _ ?_ ?_ _ rfl <;> assumption)) | ((first | with_reducible refine ret_h fun K hK => ?_ | with_reducible refine ret_hh rfl fun K hK => ?_ | with_reducible refine ret_pp fun K hK => ?_); simp (disch := omega) only [bg0, bg1, bg2, bg3, bg4, stepO, rsAs, eff, AX.ev, St.put, binA, conc, ap1, ofVal, Int.reduceTMod, Int.reduceTDiv, reduceCtorEq, fillA, AV.cells, AV.fine, AV.one, Nat.reduceAdd, Nat.reduceSub, Nat.reduceMul, Nat.reduceLT, Nat.reduceLeDiff, Int.reduceLT, Int.reduceLE, Int.reduceAdd, Int.reduceSub, Int.reduceNeg, Int.reduceMul, Int.reduceEq, Int.reduceToNat, nilA, moveA, live, loadA, rdA, storeA, wrA, intA, elemA, lenA, appA, srcA, isPtr, isNilPtr, partA, resOf, sliceA, cut, id, ap2, reduceIte, concs, chkB, geB, AOp.cls, AOp.xs, ltB, ltC, Nat.reduceBEq, Option.toList, List.cons_append, decide_eq_true, decide_eq_false, if_pos, if_neg, List.length_map, pA_at, iA_at, List.cons_append, bVb, bVn, eq_self, Bool.and_self, BEq.rfl, not_true_eq_false, b32e, b32n, decide_true, decide_false, not_false_eq_true, hne, cB_self]; (first | ((with_reducible refine hK _ ?_ ?_ ?_ ?_); rotate_left 2; rfl; rfl) | ((with_reducible refine hK _ ?_); rfl))))
  subst hne
  by_cases hne : sz = sz'
  case neg =>
    obtain rfl : r = false := by rw [hr]; simp [hne]
    repeat (first | with_reducible refine w_seq ?_ | with_reducible refine w_reg ?_ | with_reducible refine ws_nil ?_ | with_reducible refine q_then ?_ | with_reducible refine w_ret ?_ | ((with_reducible refine kgs_t ?_ ?_); rfl) | ((with_reducible refine kgs_f ?_ ?_); rfl) | ((first | with_reducible refine ks fun K hK => ?_ | with_reducible refine kd fun K hK => ?_ | with_reducible refine kc fun K hK2 hK hK3 => ?_); simp (disch := omega) only [bg0, bg1, bg2, bg3, bg4, stepO, rsAs, eff, AX.ev, St.put, binA, conc, ap1, ofVal, Int.reduceTMod, Int.reduceTDiv, reduceCtorEq, fillA, AV.cells, AV.fine, AV.one, Nat.reduceAdd, Nat.reduceSub, Nat.reduceMul, Nat.reduceLT, Nat.reduceLeDiff, Int.reduceLT, Int.reduceLE, Int.reduceAdd, Int.reduceSub, Int.reduceNeg, Int.reduceMul, Int.reduceEq, Int.reduceToNat, nilA, moveA, live, loadA, rdA, storeA, wrA, intA, elemA, lenA, appA, srcA, isPtr, isNilPtr, partA, resOf, sliceA, cut, id, ap2, reduceIte, concs, chkB, geB, AOp.cls, AOp.xs, ltB, ltC, Nat.reduceBEq, Option.toList, List.cons_append, decide_eq_true, decide_eq_false, if_pos, if_neg, List.length_map, pA_at, iA_at, List.cons_append, bVb, bVn, eq_self, Bool.and_self, BEq.rfl, not_true_eq_false, b32e, b32n, decide_true, decide_false, not_false_eq_true, hne, cB_self]; (first | ((with_reducible refine hK _ ?_); clear hK K) | ((with_reducible refine hK ?_); clear hK hK3 K hK2) | ((with_reducible refine hK3 ?_); clear hK hK3 K hK2))) | ((with_reducible refine kps 57 ?_ ?_ ?_ ?_); rotate_left 1; rfl; exact (by refine cmpP G _ _ ?_ ?_ <;> assumption)) | ((with_reducible refine kps 58 ?_ ?_ ?_ ?_); rotate_left 1; rfl; exact (by refine eq40 G _ _ ?_ ?_ _ rfl <;> assumption)) | ((with_reducible refine kps 59 ?_ ?_ ?_ ?_); rotate_left 1; rfl; exact (by refine eq41 G _ _ ?_ ?_ _ rfl <;> assumption)) | ((first | with_reducible refine ret_h fun K hK => ?_ | with_reducible refine ret_hh rfl fun K hK => ?_ | with_reducible refine ret_pp fun K hK => ?_); simp (disch := omega) only [bg0, bg1, bg2, bg3, bg4, stepO, rsAs, eff, AX.ev, St.put, binA, conc, ap1, ofVal, Int.reduceTMod, Int.reduceTDiv, reduceCtorEq, fillA, AV.cells, AV.fine, AV.one, Nat.reduceAdd, Nat.reduceSub, Nat.reduceMul, Nat.reduceLT, Nat.reduceLeDiff, Int.reduceLT, Int.reduceLE, Int.reduceAdd, Int.reduceSub, Int.reduceNeg, Int.reduceMul, Int.reduceEq, Int.reduceToNat, nilA, moveA, live, loadA, rdA, storeA, wrA, intA, elemA, lenA, appA, srcA, isPtr, isNilPtr, partA, resOf, sliceA, cut, id, ap2, reduceIte, concs, chkB, geB, AOp.cls, AOp.xs, ltB, ltC, Nat.reduceBEq, Option.toList, List.cons_append, decide_eq_true, decide_eq_false, if_pos, if_neg, List.length_map, pA_at, iA_at, List.cons_append, bVb, bVn, eq_self, Bool.and_self, BEq.rfl, not_true_eq_false, b32e, b32n, decide_true, decide_false, not_false_eq_true, hne, cB_self]; (first | ((with_reducible refine hK _ ?_ ?_ ?_ ?_); rotate_left 2; rfl; rfl) | ((with_reducible refine hK _ ?_); rfl))))
  subst hne
  by_cases hne : bi = bi'
  case neg =>
    obtain rfl : r = false := by rw [hr]; simp [hne]
    repeat (first | with_reducible refine w_seq ?_ | with_reducible refine w_reg ?_ | with_reducible refine ws_nil ?_ | with_reducible refine q_then ?_ | with_reducible refine w_ret ?_ | ((with_reducible refine kgs_t ?_ ?_); rfl) | ((first | with_reducible refine ks fun K hK => ?_ | with_reducible refine kd fun K hK => ?_ | with_reducible refine kc fun K hK2 hK hK3 => ?_); simp (disch := omega) only [bg0, bg1, bg2, bg3, bg4, stepO, rsAs, eff, AX.ev, St.put, binA, conc, ap1, ofVal, Int.reduceTMod, Int.reduceTDiv, reduceCtorEq, fillA, AV.cells, AV.fine, AV.one, Nat.reduceAdd, Nat.reduceSub, Nat.reduceMul, Nat.reduceLT, Nat.reduceLeDiff, Int.reduceLT, Int.reduceLE, Int.reduceAdd, Int.reduceSub, Int.reduceNeg, Int.reduceMul, Int.reduceEq, Int.reduceToNat, nilA, moveA, live, loadA, rdA, storeA, wrA, intA, elemA, lenA, appA, srcA, isPtr, isNilPtr, partA, resOf, sliceA, cut, id, ap2, reduceIte, concs, chkB, geB, AOp.cls, AOp.xs, ltB, ltC, Nat.reduceBEq, Option.toList, List.cons_append, decide_eq_true, decide_eq_false, if_pos, if_neg, List.length_map, pA_at, iA_at, List.cons_append, bVb, bVn, eq_self, Bool.and_self, BEq.rfl, not_true_eq_false, b32e, b32n, decide_true, decide_false, not_false_eq_true, hne, cB_self]; (first | ((with_reducible refine hK _ ?_); clear hK K) | ((with_reducible refine hK ?_); clear hK hK3 K hK2) | ((with_reducible refine hK3 ?_); clear hK hK3 K hK2))) | ((with_reducible refine kps 57 ?_ ?_ ?_ ?_); rotate_left 1; rfl; exact (by refine cmpP G _ _ ?_ ?_ <;> assumption)) | ((with_reducible refine kps 58 ?_ ?_ ?_ ?_); rotate_left 1; rfl; exact (by refine eq40 G _ _ ?_ ?_ _ rfl <;> assumption)) | ((with_reducible refine kps 59 ?_ ?_ ?_ ?_); rotate_left 1; rfl; exact (by refine eq41 G _ _ ?_ ?_ _ rfl <;> assumption)) | ((first | with_reducible refine ret_h fun K hK => ?_ | with_reducible refine ret_hh rfl fun K hK => ?_ | with_reducible refine ret_pp fun K hK => ?_); simp (disch := omega) only [bg0, bg1, bg2, bg3, bg4, stepO, rsAs, eff, AX.ev, St.put, binA, conc, ap1, ofVal, Int.reduceTMod, Int.reduceTDiv, reduceCtorEq, fillA, AV.cells, AV.fine, AV.one, Nat.reduceAdd, Nat.reduceSub, Nat.reduceMul, Nat.reduceLT, Nat.reduceLeDiff, Int.reduceLT, Int.reduceLE, Int.reduceAdd, Int.reduceSub, Int.reduceNeg, Int.reduceMul, Int.reduceEq, Int.reduceToNat, nilA, moveA, live, loadA, rdA, storeA, wrA, intA, elemA, lenA, appA, srcA, isPtr, isNilPtr, partA, resOf, sliceA, cut, id, ap2, reduceIte, concs, chkB, geB, AOp.cls, AOp.xs, ltB, ltC, Nat.reduceBEq, Option.toList, List.cons_append, decide_eq_true, decide_eq_false, if_pos, if_neg, List.length_map, pA_at, iA_at, List.cons_append, bVb, bVn, eq_self, Bool.and_self, BEq.rfl, not_true_eq_false, b32e, b32n, decide_true, decide_false, not_false_eq_true, hne, cB_self]; (first | ((with_reducible refine hK _ ?_ ?_ ?_ ?_); rotate_left 2; rfl; rfl) | ((with_reducible refine hK _ ?_); rfl))))
  subst hne
  obtain rfl : r = true := by rw [hr]; simp
  repeat (first | with_reducible refine w_seq ?_ | with_reducible refine w_reg ?_ | with_reducible refine ws_nil ?_ | with_reducible refine q_then ?_ | with_reducible refine w_ret ?_ | ((with_reducible refine kgs_t ?_ ?_); rfl) | ((first | with_reducible refine ks fun K hK => ?_ | with_reducible refine kd fun K hK => ?_ | with_reducible refine kc fun K hK2 hK hK3 => ?_); simp (disch := omega) only [bg0, bg1, bg2, bg3, bg4, stepO, rsAs, eff, AX.ev, St.put, binA, conc, ap1, ofVal, Int.reduceTMod, Int.reduceTDiv, reduceCtorEq, fillA, AV.cells, AV.fine, AV.one, Nat.reduceAdd, Nat.reduceSub, Nat.reduceMul, Nat.reduceLT, Nat.reduceLeDiff, Int.reduceLT, Int.reduceLE, Int.reduceAdd, Int.reduceSub, Int.reduceNeg, Int.reduceMul, Int.reduceEq, Int.reduceToNat, nilA, moveA, live, loadA, rdA, storeA, wrA, intA, elemA, lenA, appA, srcA, isPtr, isNilPtr, partA, resOf, sliceA, cut, id, ap2, reduceIte, concs, chkB, geB, AOp.cls, AOp.xs, ltB, ltC, Nat.reduceBEq, Option.toList, List.cons_append, decide_eq_true, decide_eq_false, if_pos, if_neg, List.length_map, pA_at, iA_at, List.cons_append, bVb, bVn, eq_self, Bool.and_self, BEq.rfl, not_true_eq_false, b32e, b32n, decide_true, decide_false, not_false_eq_true, cB_self]; (first | ((with_reducible refine hK _ ?_); clear hK K) | ((with_reducible refine hK ?_); clear hK hK3 K hK2) | ((with_reducible refine hK3 ?_); clear hK hK3 K hK2))) | ((with_reducible refine kps 57 ?_ ?_ ?_ ?_); rotate_left 1; rfl; exact (by refine cmpP G _ _ ?_ ?_ <;> assumption)) | ((with_reducible refine kps 58 ?_ ?_ ?_ ?_); rotate_left 1; rfl; exact (by refine eq40 G _ _ ?_ ?_ _ rfl <;> assumption)) | ((with_reducible refine kps 59 ?_ ?_ ?_ ?_); rotate_left 1; rfl; exact (by refine eq41 G _ _ ?_ ?_ _ rfl <;> assumption)) | ((first | with_reducible refine ret_h fun K hK => ?_ | with_reducible refine ret_hh rfl fun K hK => ?_ | with_reducible refine ret_pp fun K hK => ?_); simp (disch := omega) only [bg0, bg1, bg2, bg3, bg4, stepO, rsAs, eff, AX.ev, St.put, binA, conc, ap1, ofVal, Int.reduceTMod, Int.reduceTDiv, reduceCtorEq, fillA, AV.cells, AV.fine, AV.one, Nat.reduceAdd, Nat.reduceSub, Nat.reduceMul, Nat.reduceLT, Nat.reduceLeDiff, Int.reduceLT, Int.reduceLE, Int.reduceAdd, Int.reduceSub, Int.reduceNeg, Int.reduceMul, Int.reduceEq, Int.reduceToNat, nilA, moveA, live, loadA, rdA, storeA, wrA, intA, elemA, lenA, appA, srcA, isPtr, isNilPtr, partA, resOf, sliceA, cut, id, ap2, reduceIte, concs, chkB, geB, AOp.cls, AOp.xs, ltB, ltC, Nat.reduceBEq, Option.toList, List.cons_append, decide_eq_true, decide_eq_false, if_pos, if_neg, List.length_map, pA_at, iA_at, List.cons_append, bVb, bVn, eq_self, Bool.and_self, BEq.rfl, not_true_eq_false, b32e, b32n, decide_true, decide_false, not_false_eq_true, cB_self]; (first | ((with_reducible refine hK _ ?_ ?_ ?_ ?_); rotate_left 2; rfl; rfl) | ((with_reducible refine hK _ ?_); rfl))))
end Go.Proofs.Ytfdfmhapcjckoaa.Sim
namespace Go.Proofs.Ytfdfmhapcjckoaa.Sim
open Go.RowKit
set_option maxRecDepth 100000
def lg (p : Pr) : Bool := decide (16 < p.1.size) || decide (16 < p.2.size)
theorem isl29 (G : Nat → AV) (a b : ByteArray) : PC Try.prog G 33 [.agg [S a, S b]] (Bo (lg (a, b))) := by
  refine pc_ofV cop33 ?_
  repeat' ((conv => whnf); first | (with_reducible refine SeqP.go ?_) | ((with_reducible refine ObD.mk ?_ ?_); (focus (first | rfl | (simp; done)))) | ((with_reducible refine ObN.mk ?_ ?_); (focus (first | rfl | assumption | omega | (simp only [List.length_map, List.length_append, List.length_cons, List.length_nil]; omega) | (simp; done) | (simp; omega)))) | (with_reducible refine ObT.tt ?_) | (with_reducible refine ObT.ff ?_) | (with_reducible refine ObB.mk (fun h => ?_) (fun h => ?_)) | ((with_reducible refine (?_ : ObL _ _)); (refine ObL.mk _ (by first | assumption | exact (List.length_map _).trans (by assumption) | exact List.length_map _ | rfl) ?_)) | ((with_reducible refine (?_ : ObR _ _ _)); (first | (refine ObR.mk _ (by assumption) ?_) | (refine ObR.mk _ (by with_reducible rfl) ?_) | (refine ObR.map (by (first | omega | assumption | (simp only [List.length_map, List.length_append, List.length_cons, List.length_nil, List.length_take, List.length_drop, List.length_set, List.length_replicate]; omega))) (fun x hx => ?_)) | (refine ObR.mk _ rfl ?_))) | ((with_reducible refine ObEq.mk ?_); (focus (first | rfl | assumption | exact (by simp [lg]; omega)))))
theorem first_or {n : Nat} (p : Nat → Bool) : (∀ k, k < n → p k = false) ∨ ∃ i, i < n ∧ p i = true ∧ ∀ k, k < i → p k = false := by
  induction n with
  | zero => left; intro k hk; omega
  | succ n ih =>
    rcases ih with h | ⟨i, h1, h2, h3⟩
    · cases hp : p n with
      | false => left; intro k hk; by_cases e : k = n; subst e; exact hp; exact h k (by omega)
      | true => right; exact ⟨n, by omega, hp, h⟩
    · right; exact ⟨i, by omega, h2, h3⟩
abbrev cL : AV := .v (.func (.func 33) #[] #[])
theorem isl29h (G : Nat → AV) (H : Hp) (a b : ByteArray) : HC Try.prog G 33 [.agg [S a, S b]] H (Bo (lg (a, b))) H := hc_pc rfl (isl29 G a b) H
theorem any30 (G : Nat → AV) (l : List Pr) (hl : l.length ≤ 9223372036854775807) (H : Hp) : HC Try.prog G 34 [.sl 2 (l.map pA), cL] H (Bo (l.any lg)) H := by
  rcases first_or (n := l.length) (fun k => match l[k]? with | some p => lg p | none => false) with h | ⟨i0, h1, h2, h3⟩
  · have hx : HC Try.prog G 44 [.sl 2 (l.map pA), cL] H (I (-1)) H := by
      refine hc_ofV cop44 rfl ?_
      repeat' ((conv => whnf); first | (with_reducible refine SeqP.go ?_) | ((with_reducible refine (?_ : ObL _ _)); (refine ObL.mk _ (by first | assumption | exact (List.length_map _).trans (by assumption) | exact List.length_map _ | rfl) ?_)))
      conv => whnf
      refine LoopP.go (α := Nat) (fun i => i ≤ l.length) (fun i => l.length - i) (fun i => [(4, none), (0, none), (2, some (I i)), (0, none), (0, none), (0, none), (0, none), (0, none), (0, none), (0, none), (0, none), (0, none), (0, none)]) (fun _ => H) 0 (Nat.zero_le _) (Fg.go ?_ rfl) ?_
      · repeat' ((conv => whnf); first | ((with_reducible refine ObEqs.mk ?_ ?_); (focus rfl)) | ((with_reducible refine ObEq1.i ?_ ?_); (focus (first | (with_reducible rfl) | omega))) | exact True.intro)
      intro i hi
      have hlt : i < l.length ∨ i = l.length := by omega
      rcases hlt with hlt | rfl
      · have hq : (l.map pA)[i]? = some (.agg [S l[i].1, S l[i].2]) := pA_at hlt
        have hf : lg (l[i].1, l[i].2) = false := by have := h i hlt; simpa [List.getElem?_eq_getElem hlt] using this
        have hc := isl29h G H l[i].1 l[i].2
        rw [hf] at hc
        repeat' ((conv => whnf); first | (with_reducible refine SeqP.go ?_) | ((with_reducible refine ObD.mk ?_ ?_); (focus (first | rfl | (simp; done)))) | ((with_reducible refine ObN.mk ?_ ?_); (focus (first | exact hb33 | rfl | assumption | omega | (simp only [List.length_map, List.length_append, List.length_cons, List.length_nil]; omega) | (simp; done) | (simp; omega)))) | (with_reducible refine ObT.tt ?_) | (with_reducible refine ObT.ff ?_) | ((with_reducible refine ObB.yes ?_ ?_); (focus (first | assumption | (with_reducible rfl) | omega))) | ((with_reducible refine ObI.nl ?_ ?_); (focus omega)) | ((with_reducible refine ObX.mk _ rfl ?_ ?_); (focus (first | omega | assumption | (simp only [List.length_map, List.length_append, List.length_cons, List.length_nil, List.length_take, List.length_drop, List.length_set, List.length_replicate]; omega)))) | ((with_reducible refine (?_ : ObU _ _)); (refine ObU.mk _ (by first | assumption | ((conv => lhs; simp only [List.set_cons_zero, List.set_cons_succ, List.take_succ_cons, List.take_zero, List.drop_succ_cons, List.drop_zero, List.nil_append, List.cons_append, List.append_nil, List.take_nil, List.drop_nil]); try rfl) | rfl) ?_)) | ((with_reducible refine (?_ : ObR _ _ _)); (first | (refine ObR.mk _ (by assumption) ?_) | (refine ObR.mk _ (by with_reducible rfl) ?_) | (refine ObR.map (by (first | omega | assumption | (simp only [List.length_map, List.length_append, List.length_cons, List.length_nil, List.length_take, List.length_drop, List.length_set, List.length_replicate]; omega))) (fun x hx => ?_)) | (refine ObR.mk _ rfl ?_))) | ((with_reducible refine ObH.f 33 ?_); (first | (with_reducible refine ObH.mk _ _ (hc) ?_) | (refine ObH.mk _ _ (hc) ?_))))
        conv => whnf
        refine Again.mk (i + 1) ?_ ?_ (Fg.go ?_ rfl)
        · omega
        · omega
        repeat' ((conv => whnf); first | ((with_reducible refine ObEqs.mk ?_ ?_); (focus rfl)) | ((with_reducible refine ObEq1.i ?_ ?_); (focus (first | (with_reducible rfl) | omega))) | exact True.intro)
      repeat' ((conv => whnf); first | (with_reducible refine SeqP.go ?_) | ((with_reducible refine ObN.mk ?_ ?_); (focus (first | rfl | assumption | omega | (simp only [List.length_map, List.length_append, List.length_cons, List.length_nil]; omega) | (simp; done) | (simp; omega)))) | (with_reducible refine ObT.ff ?_) | ((with_reducible refine ObB.no ?_ ?_); (focus (first | assumption | omega))) | (exact ObEnd.eq rfl rfl))
    have ha : l.any lg = false := by
      rw [List.any_eq_false]
      intro p hp
      obtain ⟨k, hk, rfl⟩ := List.getElem_of_mem hp
      have := h k hk
      simpa [List.getElem?_eq_getElem hk] using this
    rw [ha]
    refine hc_ofV cop34 rfl ?_
    repeat' ((conv => whnf); first | (with_reducible refine SeqP.go ?_) | ((with_reducible refine ObN.mk ?_ ?_); (focus (first | rfl | assumption | omega | (simp only [List.length_map, List.length_append, List.length_cons, List.length_nil]; omega) | (simp; done) | (simp; omega)))) | ((with_reducible refine ObB.no ?_ ?_); (focus (first | assumption | omega))) | ((with_reducible refine ObH.f 44 ?_); (first | (with_reducible refine ObH.mk _ _ (hx) ?_) | (refine ObH.mk _ _ (hx) ?_))) | (exact ObEnd.eq rfl rfl))
  · have hx : HC Try.prog G 44 [.sl 2 (l.map pA), cL] H (I i0) H := by
      refine hc_ofV cop44 rfl ?_
      repeat' ((conv => whnf); first | (with_reducible refine SeqP.go ?_) | ((with_reducible refine (?_ : ObL _ _)); (refine ObL.mk _ (by first | assumption | exact (List.length_map _).trans (by assumption) | exact List.length_map _ | rfl) ?_)))
      conv => whnf
      refine LoopP.go (α := Nat) (fun i => i ≤ i0) (fun i => l.length - i) (fun i => [(4, none), (0, none), (2, some (I i)), (0, none), (0, none), (0, none), (0, none), (0, none), (0, none), (0, none), (0, none), (0, none), (0, none)]) (fun _ => H) 0 (Nat.zero_le _) (Fg.go ?_ rfl) ?_
      · repeat' ((conv => whnf); first | ((with_reducible refine ObEqs.mk ?_ ?_); (focus rfl)) | ((with_reducible refine ObEq1.i ?_ ?_); (focus (first | (with_reducible rfl) | omega))) | exact True.intro)
      intro i hi
      have hlt : i < l.length := by omega
      have hq : (l.map pA)[i]? = some (.agg [S l[i].1, S l[i].2]) := pA_at hlt
      have hc := isl29h G H l[i].1 l[i].2
      by_cases he : i = i0
      · subst he
        have hf : lg (l[i].1, l[i].2) = true := by simpa [List.getElem?_eq_getElem hlt] using h2
        rw [hf] at hc
        repeat' ((conv => whnf); first | (with_reducible refine SeqP.go ?_) | ((with_reducible refine ObD.mk ?_ ?_); (focus (first | rfl | (simp; done)))) | ((with_reducible refine ObN.mk ?_ ?_); (focus (first | exact hb33 | rfl | assumption | omega | (simp only [List.length_map, List.length_append, List.length_cons, List.length_nil]; omega) | (simp; done) | (simp; omega)))) | (with_reducible refine ObT.tt ?_) | ((with_reducible refine ObB.yes ?_ ?_); (focus (first | assumption | (with_reducible rfl) | omega))) | ((with_reducible refine ObX.mk _ rfl ?_ ?_); (focus (first | omega | assumption | (simp only [List.length_map, List.length_append, List.length_cons, List.length_nil, List.length_take, List.length_drop, List.length_set, List.length_replicate]; omega)))) | ((with_reducible refine (?_ : ObU _ _)); (refine ObU.mk _ (by first | assumption | ((conv => lhs; simp only [List.set_cons_zero, List.set_cons_succ, List.take_succ_cons, List.take_zero, List.drop_succ_cons, List.drop_zero, List.nil_append, List.cons_append, List.append_nil, List.take_nil, List.drop_nil]); try rfl) | rfl) ?_)) | ((with_reducible refine (?_ : ObR _ _ _)); (first | (refine ObR.mk _ (by assumption) ?_) | (refine ObR.mk _ (by with_reducible rfl) ?_) | (refine ObR.map (by (first | omega | assumption | (simp only [List.length_map, List.length_append, List.length_cons, List.length_nil, List.length_take, List.length_drop, List.length_set, List.length_replicate]; omega))) (fun x hx => ?_)) | (refine ObR.mk _ rfl ?_))) | ((with_reducible refine ObH.f 33 ?_); (first | (with_reducible refine ObH.mk _ _ (hc) ?_) | (refine ObH.mk _ _ (hc) ?_))) | (exact ObEnd.eq rfl rfl))
      · have hf : lg (l[i].1, l[i].2) = false := by have := h3 i (by omega); simpa [List.getElem?_eq_getElem hlt] using this
        rw [hf] at hc
        repeat' ((conv => whnf); first | (with_reducible refine SeqP.go ?_) | ((with_reducible refine ObD.mk ?_ ?_); (focus (first | rfl | (simp; done)))) | ((with_reducible refine ObN.mk ?_ ?_); (focus (first | exact hb33 | rfl | assumption | omega | (simp only [List.length_map, List.length_append, List.length_cons, List.length_nil]; omega) | (simp; done) | (simp; omega)))) | (with_reducible refine ObT.tt ?_) | (with_reducible refine ObT.ff ?_) | ((with_reducible refine ObB.yes ?_ ?_); (focus (first | assumption | (with_reducible rfl) | omega))) | ((with_reducible refine ObI.nl ?_ ?_); (focus omega)) | ((with_reducible refine ObX.mk _ rfl ?_ ?_); (focus (first | omega | assumption | (simp only [List.length_map, List.length_append, List.length_cons, List.length_nil, List.length_take, List.length_drop, List.length_set, List.length_replicate]; omega)))) | ((with_reducible refine (?_ : ObU _ _)); (refine ObU.mk _ (by first | assumption | ((conv => lhs; simp only [List.set_cons_zero, List.set_cons_succ, List.take_succ_cons, List.take_zero, List.drop_succ_cons, List.drop_zero, List.nil_append, List.cons_append, List.append_nil, List.take_nil, List.drop_nil]); try rfl) | rfl) ?_)) | ((with_reducible refine (?_ : ObR _ _ _)); (first | (refine ObR.mk _ (by assumption) ?_) | (refine ObR.mk _ (by with_reducible rfl) ?_) | (refine ObR.map (by (first | omega | assumption | (simp only [List.length_map, List.length_append, List.length_cons, List.length_nil, List.length_take, List.length_drop, List.length_set, List.length_replicate]; omega))) (fun x hx => ?_)) | (refine ObR.mk _ rfl ?_))) | ((with_reducible refine ObH.f 33 ?_); (first | (with_reducible refine ObH.mk _ _ (hc) ?_) | (refine ObH.mk _ _ (hc) ?_))))
        conv => whnf
        refine Again.mk (i + 1) ?_ ?_ (Fg.go ?_ rfl)
        · omega
        · omega
        repeat' ((conv => whnf); first | ((with_reducible refine ObEqs.mk ?_ ?_); (focus rfl)) | ((with_reducible refine ObEq1.i ?_ ?_); (focus (first | (with_reducible rfl) | omega))) | exact True.intro)
    have ha : l.any lg = true := by
      rw [List.any_eq_true]
      exact ⟨l[i0], List.getElem_mem h1, by simpa [List.getElem?_eq_getElem h1] using h2⟩
    rw [ha]
    refine hc_ofV cop34 rfl ?_
    repeat' ((conv => whnf); first | (with_reducible refine SeqP.go ?_) | ((with_reducible refine ObN.mk ?_ ?_); (focus (first | rfl | assumption | omega | (simp only [List.length_map, List.length_append, List.length_cons, List.length_nil]; omega) | (simp; done) | (simp; omega)))) | ((with_reducible refine ObB.yes ?_ ?_); (focus (first | assumption | (with_reducible rfl) | omega))) | ((with_reducible refine ObH.f 44 ?_); (first | (with_reducible refine ObH.mk _ _ (hx) ?_) | (refine ObH.mk _ _ (hx) ?_))) | (exact ObEnd.eq rfl rfl))
end Go.Proofs.Ytfdfmhapcjckoaa.Sim
namespace Go.Proofs.Ytfdfmhapcjckoaa.Mk
def upTo (m n : Nat) : List Nat := (List.range n).filter fun k => m.testBit k
def all (m : Nat) : List Nat := upTo m 32
theorem upTo_succ (m n : Nat) : upTo m (n + 1) = upTo m n ++ if m.testBit n then [n] else [] := by
  unfold upTo
  rw [List.range_succ, List.filter_append]
  cases h : m.testBit n <;> simp [h]
theorem mem_upTo {m n k : Nat} : k ∈ upTo m n ↔ k < n ∧ m.testBit k = true := by
  unfold upTo; simp
theorem mem_all {m k : Nat} : k ∈ all m ↔ k < 32 ∧ m.testBit k = true := mem_upTo
theorem upTo_len (m n : Nat) : (upTo m n).length ≤ n := by
  unfold upTo
  have := List.length_filter_le (fun k => m.testBit k) (List.range n)
  simpa using this
theorem bit_div (m k : Nat) : m.testBit k = decide (m / 2 ^ k % 2 = 1) := Nat.testBit_eq_decide_div_mod_eq
def place (m : Nat) (i : Int) : Nat := (all m).countP fun k : Nat => decide ((k : Int) < i)
def clamp (i : Int) : Nat := (min (max i 0) 32).toNat
theorem clamp_le (i : Int) : clamp i ≤ 32 := by unfold clamp; omega
theorem lt_clamp (i : Int) (k : Nat) (hk : k < 32) : k < clamp i ↔ (k : Int) < i := by unfold clamp; omega
theorem all_low (m c : Nat) : all (m &&& (2 ^ c - 1)) = (all m).filter fun k => decide (k < c) := by
  unfold all upTo
  rw [List.filter_filter]
  congr 1
  funext k
  rw [Nat.testBit_and, Nat.testBit_two_pow_sub_one, Bool.and_comm]
theorem place_low (m : Nat) (i : Int) : (all (m &&& (2 ^ clamp i - 1))).length = place m i := by
  rw [all_low]
  unfold place
  rw [List.countP_eq_length_filter]
  congr 1
  refine List.filter_congr fun k hk => ?_
  exact decide_eq_decide.2 (lt_clamp i k (mem_all.1 hk).1)
def mk (l : List Int) : Nat → Nat
  | 0 => 0
  | n + 1 => mk l n + if (n : Int) ∈ l then 2 ^ n else 0
theorem mk_lt (l : List Int) (n : Nat) : mk l n < 2 ^ n := by
  induction n with
  | zero => simp [mk]
  | succ n ih => unfold mk; rw [Nat.pow_succ]; split <;> omega
theorem two_pow_add (n x : Nat) (h : x < 2 ^ n) : 2 ^ n + x = 2 ^ n ||| x := by
  have := Nat.two_pow_add_eq_or_of_lt h 1
  simpa using this
theorem mk_bit (l : List Int) (n j : Nat) : (mk l n).testBit j = (decide (j < n) && decide ((j : Int) ∈ l)) := by
  induction n with
  | zero => simp [mk]
  | succ n ih =>
    unfold mk
    by_cases h : (n : Int) ∈ l
    · rw [if_pos h, Nat.add_comm, two_pow_add _ _ (mk_lt l n), Nat.testBit_or, ih, Nat.testBit_two_pow]
      by_cases e : n = j
      · subst e; simp [h]
      · by_cases g : j < n
        · have : j < n + 1 := by omega
          simp [g, this, e]
        · have : ¬ j < n + 1 := by omega
          simp [g, this, e]
    · rw [if_neg h, Nat.add_zero, ih]
      by_cases e : n = j
      · subst e; simp [h]
      · by_cases g : j < n
        · have : j < n + 1 := by omega
          simp [g, this]
        · have : ¬ j < n + 1 := by omega
          simp [g, this]
theorem big (m : Nat) (hm : m < 4294967296) (j : Nat) (hj : ¬ j < 32) : m.testBit j = false :=
  Nat.testBit_lt_two_pow (Nat.lt_of_lt_of_le hm (Nat.pow_le_pow_right (n := 2) (by omega) (show 32 ≤ j by omega)))
def pc (b : Nat) : Nat := ((List.range 8).filter fun k => b.testBit k).length
theorem pc_at (m s : Nat) : ((List.range 8).filter fun k => m.testBit (s + k)).length = pc (m / 2 ^ s % 256) := by
  unfold pc
  congr 1
  refine List.filter_congr fun k hk => ?_
  have hk : k < 8 := by simpa using hk
  rw [show (256 : Nat) = 2 ^ 8 from rfl, Nat.testBit_mod_two_pow, Nat.testBit_div_two_pow]
  simp [hk, Nat.add_comm]
theorem range32 : List.range 32 = List.range 8 ++ ((List.range 8).map (8 + ·) ++ ((List.range 8).map (16 + ·) ++ (List.range 8).map (24 + ·))) := by decide
theorem pop_all (m : Nat) : (all m).length = pc (m / 16777216 % 256) + pc (m / 65536 % 256) + pc (m / 256 % 256) + pc (m % 256) := by
  have h0 := pc_at m 0
  have h1 := pc_at m 8
  have h2 := pc_at m 16
  have h3 := pc_at m 24
  unfold all upTo
  rw [range32]
  simp only [List.filter_append, List.length_append, List.filter_map, List.length_map]
  have g0 : ((List.range 8).filter fun k => m.testBit k).length = pc (m % 256) := by simpa using h0
  have g1 : ((List.range 8).filter ((fun k => m.testBit k) ∘ fun x => 8 + x)).length = pc (m / 256 % 256) := h1
  have g2 : ((List.range 8).filter ((fun k => m.testBit k) ∘ fun x => 16 + x)).length = pc (m / 65536 % 256) := h2
  have g3 : ((List.range 8).filter ((fun k => m.testBit k) ∘ fun x => 24 + x)).length = pc (m / 16777216 % 256) := h3
  rw [g0, g1, g2, g3]
  omega
theorem pc_le (b : Nat) : pc b ≤ 8 := upTo_len b 8
end Go.Proofs.Ytfdfmhapcjckoaa.Mk
namespace Go.Proofs.Ytfdfmhapcjckoaa.Sim
open Go.RowKit
set_option maxRecDepth 100000
theorem has54 (G : Nat → AV) (l : List Int) (hl : l.length ≤ 9223372036854775807) (v : Int) : PC Try.prog G 47 [.sl 1 (l.map iA), I v] (Bo (decide (v ∈ l))) := by
  rcases first_or (n := l.length) (fun k => decide (l[k]? = some v)) with h | ⟨i0, h1, h2, h3⟩
  · have hx : PC Try.prog G 55 [.sl 1 (l.map iA), I v] (I (-1)) := by
      refine pc_ofV cop55 ?_
      repeat' ((conv => whnf); first | (with_reducible refine SeqP.go ?_) | ((with_reducible refine (?_ : ObL _ _)); (refine ObL.mk _ (by first | assumption | exact (List.length_map _).trans (by assumption) | exact List.length_map _ | rfl) ?_)))
      conv => whnf
      refine LoopP.go (α := Nat) (fun i => i ≤ l.length) (fun i => l.length - i) (fun i => [(4, none), (0, none), (2, some (I i)), (0, none), (0, none), (0, none), (0, none), (0, none), (0, none), (0, none), (0, none), (0, none), (0, none)]) (fun _ => []) 0 (Nat.zero_le _) (Fg.go ?_ rfl) ?_
      · repeat' ((conv => whnf); first | ((with_reducible refine ObEqs.mk ?_ ?_); (focus rfl)) | ((with_reducible refine ObEq1.i ?_ ?_); (focus (first | (with_reducible rfl) | omega))) | exact True.intro)
      intro i hi
      have hlt : i < l.length ∨ i = l.length := by omega
      rcases hlt with hlt | rfl
      · have hq : (l.map iA)[i]? = some (I l[i]) := iA_at hlt
        have hf : ¬ v = l[i] := fun e => by have := h i hlt; simp [List.getElem?_eq_getElem hlt, e] at this
        repeat' ((conv => whnf); first | (with_reducible refine SeqP.go ?_) | ((with_reducible refine ObN.mk ?_ ?_); (focus (first | rfl | assumption | omega | (simp only [List.length_map, List.length_append, List.length_cons, List.length_nil]; omega) | (simp; done) | (simp; omega)))) | (with_reducible refine ObT.tt ?_) | (with_reducible refine ObT.ff ?_) | ((with_reducible refine ObB.yes ?_ ?_); (focus (first | assumption | (with_reducible rfl) | omega))) | ((with_reducible refine ObB.no ?_ ?_); (focus (first | assumption | omega))) | ((with_reducible refine ObI.nl ?_ ?_); (focus omega)) | ((with_reducible refine ObX.mk _ rfl ?_ ?_); (focus (first | omega | assumption | (simp only [List.length_map, List.length_append, List.length_cons, List.length_nil, List.length_take, List.length_drop, List.length_set, List.length_replicate]; omega)))) | ((with_reducible refine (?_ : ObR _ _ _)); (first | (refine ObR.mk _ (by assumption) ?_) | (refine ObR.mk _ (by with_reducible rfl) ?_) | (refine ObR.map (by (first | omega | assumption | (simp only [List.length_map, List.length_append, List.length_cons, List.length_nil, List.length_take, List.length_drop, List.length_set, List.length_replicate]; omega))) (fun x hx => ?_)) | (refine ObR.mk _ rfl ?_))))
        conv => whnf
        refine Again.mk (i + 1) ?_ ?_ (Fg.go ?_ rfl)
        · omega
        · omega
        repeat' ((conv => whnf); first | ((with_reducible refine ObEqs.mk ?_ ?_); (focus rfl)) | ((with_reducible refine ObEq1.i ?_ ?_); (focus (first | (with_reducible rfl) | omega))) | exact True.intro)
      repeat' ((conv => whnf); first | (with_reducible refine SeqP.go ?_) | ((with_reducible refine ObN.mk ?_ ?_); (focus (first | rfl | assumption | omega | (simp only [List.length_map, List.length_append, List.length_cons, List.length_nil]; omega) | (simp; done) | (simp; omega)))) | (with_reducible refine ObT.ff ?_) | ((with_reducible refine ObB.no ?_ ?_); (focus (first | assumption | omega))) | ((with_reducible refine ObEq.i ?_); (focus (first | (with_reducible rfl) | omega))))
    have ha : ¬ v ∈ l := fun hm => by
      obtain ⟨k, hk, e⟩ := List.getElem_of_mem hm
      have := h k hk
      simp [List.getElem?_eq_getElem hk, e] at this
    rw [decide_eq_false ha]
    refine pc_ofV cop47 ?_
    repeat' ((conv => whnf); first | (with_reducible refine SeqP.go ?_) | ((with_reducible refine ObN.mk ?_ ?_); (focus (first | rfl | assumption | omega | (simp only [List.length_map, List.length_append, List.length_cons, List.length_nil]; omega) | (simp; done) | (simp; omega)))) | ((with_reducible refine ObB.no ?_ ?_); (focus (first | assumption | omega))) | ((with_reducible refine ObC.f 55 ?_); (first | (with_reducible refine ObC.mk _ (hx) ?_) | (refine ObC.mk _ (hx) ?_))) | ((with_reducible refine ObEq.mk ?_); (focus (first | rfl | assumption))))
  · have hx : PC Try.prog G 55 [.sl 1 (l.map iA), I v] (I i0) := by
      refine pc_ofV cop55 ?_
      repeat' ((conv => whnf); first | (with_reducible refine SeqP.go ?_) | ((with_reducible refine (?_ : ObL _ _)); (refine ObL.mk _ (by first | assumption | exact (List.length_map _).trans (by assumption) | exact List.length_map _ | rfl) ?_)))
      conv => whnf
      refine LoopP.go (α := Nat) (fun i => i ≤ i0) (fun i => l.length - i) (fun i => [(4, none), (0, none), (2, some (I i)), (0, none), (0, none), (0, none), (0, none), (0, none), (0, none), (0, none), (0, none), (0, none), (0, none)]) (fun _ => []) 0 (Nat.zero_le _) (Fg.go ?_ rfl) ?_
      · repeat' ((conv => whnf); first | ((with_reducible refine ObEqs.mk ?_ ?_); (focus rfl)) | ((with_reducible refine ObEq1.i ?_ ?_); (focus (first | (with_reducible rfl) | omega))) | exact True.intro)
      intro i hi
      have hlt : i < l.length := by omega
      have hq : (l.map iA)[i]? = some (I l[i]) := iA_at hlt
      by_cases he : i = i0
      · subst he
        have hf : v = l[i] := by have := of_decide_eq_true h2; rw [List.getElem?_eq_getElem hlt] at this; exact (Option.some.inj this).symm
        repeat' ((conv => whnf); first | (with_reducible refine SeqP.go ?_) | ((with_reducible refine ObN.mk ?_ ?_); (focus (first | rfl | assumption | omega | (simp only [List.length_map, List.length_append, List.length_cons, List.length_nil]; omega) | (simp; done) | (simp; omega)))) | (with_reducible refine ObT.tt ?_) | ((with_reducible refine ObB.yes ?_ ?_); (focus (first | assumption | (with_reducible rfl) | omega))) | ((with_reducible refine ObX.mk _ rfl ?_ ?_); (focus (first | omega | assumption | (simp only [List.length_map, List.length_append, List.length_cons, List.length_nil, List.length_take, List.length_drop, List.length_set, List.length_replicate]; omega)))) | ((with_reducible refine (?_ : ObR _ _ _)); (first | (refine ObR.mk _ (by assumption) ?_) | (refine ObR.mk _ (by with_reducible rfl) ?_) | (refine ObR.map (by (first | omega | assumption | (simp only [List.length_map, List.length_append, List.length_cons, List.length_nil, List.length_take, List.length_drop, List.length_set, List.length_replicate]; omega))) (fun x hx => ?_)) | (refine ObR.mk _ rfl ?_))) | ((with_reducible refine ObEq.i ?_); (focus (first | (with_reducible rfl) | omega))))
      · have hf : ¬ v = l[i] := fun e => by have := h3 i (by omega); simp [List.getElem?_eq_getElem hlt, e] at this
        repeat' ((conv => whnf); first | (with_reducible refine SeqP.go ?_) | ((with_reducible refine ObN.mk ?_ ?_); (focus (first | rfl | assumption | omega | (simp only [List.length_map, List.length_append, List.length_cons, List.length_nil]; omega) | (simp; done) | (simp; omega)))) | (with_reducible refine ObT.tt ?_) | (with_reducible refine ObT.ff ?_) | ((with_reducible refine ObB.yes ?_ ?_); (focus (first | assumption | (with_reducible rfl) | omega))) | ((with_reducible refine ObB.no ?_ ?_); (focus (first | assumption | omega))) | ((with_reducible refine ObI.nl ?_ ?_); (focus omega)) | ((with_reducible refine ObX.mk _ rfl ?_ ?_); (focus (first | omega | assumption | (simp only [List.length_map, List.length_append, List.length_cons, List.length_nil, List.length_take, List.length_drop, List.length_set, List.length_replicate]; omega)))) | ((with_reducible refine (?_ : ObR _ _ _)); (first | (refine ObR.mk _ (by assumption) ?_) | (refine ObR.mk _ (by with_reducible rfl) ?_) | (refine ObR.map (by (first | omega | assumption | (simp only [List.length_map, List.length_append, List.length_cons, List.length_nil, List.length_take, List.length_drop, List.length_set, List.length_replicate]; omega))) (fun x hx => ?_)) | (refine ObR.mk _ rfl ?_))))
        conv => whnf
        refine Again.mk (i + 1) ?_ ?_ (Fg.go ?_ rfl)
        · omega
        · omega
        repeat' ((conv => whnf); first | ((with_reducible refine ObEqs.mk ?_ ?_); (focus rfl)) | ((with_reducible refine ObEq1.i ?_ ?_); (focus (first | (with_reducible rfl) | omega))) | exact True.intro)
    have ha : v ∈ l := by
      have := of_decide_eq_true h2
      exact List.mem_of_getElem? this
    rw [decide_eq_true ha]
    refine pc_ofV cop47 ?_
    repeat' ((conv => whnf); first | (with_reducible refine SeqP.go ?_) | ((with_reducible refine ObN.mk ?_ ?_); (focus (first | rfl | assumption | omega | (simp only [List.length_map, List.length_append, List.length_cons, List.length_nil]; omega) | (simp; done) | (simp; omega)))) | ((with_reducible refine ObB.yes ?_ ?_); (focus (first | assumption | (with_reducible rfl) | omega))) | ((with_reducible refine ObC.f 55 ?_); (first | (with_reducible refine ObC.mk _ (hx) ?_) | (refine ObC.mk _ (hx) ?_))) | ((with_reducible refine ObEq.mk ?_); (focus (first | rfl | assumption))))
end Go.Proofs.Ytfdfmhapcjckoaa.Sim
namespace Go.Proofs.Ytfdfmhapcjckoaa.Sim
open Go.RowKit
set_option maxRecDepth 100000
abbrev tb8 : ByteArray := ByteArray.mk #[0, 1, 1, 2, 1, 2, 2, 3, 1, 2, 2, 3, 2, 3, 3, 4, 1, 2, 2, 3, 2, 3, 3, 4, 2, 3, 3, 4, 3, 4, 4, 5, 1, 2, 2, 3, 2, 3, 3, 4, 2, 3, 3, 4, 3, 4, 4, 5, 2, 3, 3, 4, 3, 4, 4, 5, 3, 4, 4, 5, 4, 5, 5, 6, 1, 2, 2, 3, 2, 3, 3, 4, 2, 3, 3, 4, 3, 4, 4, 5, 2, 3, 3, 4, 3, 4, 4, 5, 3, 4, 4, 5, 4, 5, 5, 6, 2, 3, 3, 4, 3, 4, 4, 5, 3, 4, 4, 5, 4, 5, 5, 6, 3, 4, 4, 5, 4, 5, 5, 6, 4, 5, 5, 6, 5, 6, 6, 7, 1, 2, 2, 3, 2, 3, 3, 4, 2, 3, 3, 4, 3, 4, 4, 5, 2, 3, 3, 4, 3, 4, 4, 5, 3, 4, 4, 5, 4, 5, 5, 6, 2, 3, 3, 4, 3, 4, 4, 5, 3, 4, 4, 5, 4, 5, 5, 6, 3, 4, 4, 5, 4, 5, 5, 6, 4, 5, 5, 6, 5, 6, 6, 7, 2, 3, 3, 4, 3, 4, 4, 5, 3, 4, 4, 5, 4, 5, 5, 6, 3, 4, 4, 5, 4, 5, 5, 6, 4, 5, 5, 6, 5, 6, 6, 7, 3, 4, 4, 5, 4, 5, 5, 6, 4, 5, 5, 6, 5, 6, 6, 7, 4, 5, 5, 6, 5, 6, 6, 7, 5, 6, 6, 7, 6, 7, 7, 8]
theorem tb8_pc : ∀ k : Fin 256, (tb8[k.1]'(show k.1 < 256 from k.2)).toNat = Mk.pc k.1 := by decide +kernel
theorem tb8_at (k : Nat) (h : k < tb8.size) : ((tb8[k]'h).toNat : Int) = (Mk.pc k : Nat) := by
  have := tb8_pc ⟨k, h⟩
  simp only at this
  rw [this]
theorem obq8 {k : Int → Prop} {m : Nat} (h : m < 256) (hk : k ((Mk.pc m : Nat) : Int)) : ObQ tb8 (m : Int) k := ⟨m, rfl, h, by rw [tb8_at]; exact hk⟩
section
variable {P : Program} {H : Hp} {k : KK} {t : TypeId} {xo yo : Operand} {n : Nat}
theorem eS24 (hk : k (.v (.int .u32 ((n / 16777216 : Nat) : Int))) H) : ObE ((binA P H .shr t false xo yo (.v (.int .u32 (n : Int))) (.v (.int .u64 24))).map (·, H)) k := by
  have e : binV P .shr t xo yo (.int .u32 (n : Int)) (.int .u64 24) = some (.int .u32 ((n / 16777216 : Nat) : Int)) := by
    show some (Value.int .u32 ((n : Int).fdiv (2 ^ 24))) = _
    rw [Int.fdiv_eq_ediv_of_nonneg _ (by decide)]; rfl
  exact ⟨_, _, by simp only [binA, conc, e, Bool.false_eq_true, if_false]; rfl, hk⟩
theorem eS16 (hk : k (.v (.int .u32 ((n / 65536 : Nat) : Int))) H) : ObE ((binA P H .shr t false xo yo (.v (.int .u32 (n : Int))) (.v (.int .u64 16))).map (·, H)) k := by
  have e : binV P .shr t xo yo (.int .u32 (n : Int)) (.int .u64 16) = some (.int .u32 ((n / 65536 : Nat) : Int)) := by
    show some (Value.int .u32 ((n : Int).fdiv (2 ^ 16))) = _
    rw [Int.fdiv_eq_ediv_of_nonneg _ (by decide)]; rfl
  exact ⟨_, _, by simp only [binA, conc, e, Bool.false_eq_true, if_false]; rfl, hk⟩
theorem eS8 (hk : k (.v (.int .u32 ((n / 256 : Nat) : Int))) H) : ObE ((binA P H .shr t false xo yo (.v (.int .u32 (n : Int))) (.v (.int .u64 8))).map (·, H)) k := by
  have e : binV P .shr t xo yo (.int .u32 (n : Int)) (.int .u64 8) = some (.int .u32 ((n / 256 : Nat) : Int)) := by
    show some (Value.int .u32 ((n : Int).fdiv (2 ^ 8))) = _
    rw [Int.fdiv_eq_ediv_of_nonneg _ (by decide)]; rfl
  exact ⟨_, _, by simp only [binA, conc, e, Bool.false_eq_true, if_false]; rfl, hk⟩
theorem eAnd (hn : n < 4294967296) (hk : k (.v (.int .u32 ((n % 256 : Nat) : Int))) H) : ObE ((binA P H .and t false xo yo (.v (.int .u32 (n : Int))) (.v (.int .u32 255))).map (·, H)) k := by
  have e : binV P .and t xo yo (.int .u32 (n : Int)) (.int .u32 255) = some (.int .u32 ((n % 256 : Nat) : Int)) := by
    show some (Value.int .u32 (bits .and .u32 (n : Int) 255)) = _
    rw [show (255 : Int) = ((255 : Nat) : Int) from rfl, u32_and_nat _ _ (by omega) (by omega), show (255 : Nat) = 2 ^ 8 - 1 from rfl, Nat.and_two_pow_sub_one_eq_mod]
  exact ⟨_, _, by simp only [binA, conc, e, Bool.false_eq_true, if_false]; rfl, hk⟩
end
theorem pop53 (G : Nat → AV) (m : Nat) (hm : m < 4294967296) : PC Try.prog G 43 [.v (.int .u32 (m : Int))] (I ((Mk.all m).length : Nat)) := by
  have hp := Mk.pop_all m
  have l0 := Mk.pc_le (m / 16777216 % 256)
  have l1 := Mk.pc_le (m / 65536 % 256)
  have l2 := Mk.pc_le (m / 256 % 256)
  have l3 := Mk.pc_le (m % 256)
  have hd : m / 16777216 = m / 16777216 % 256 := by omega
  rw [← hd] at hp l0
  have hs : tb8.size = 256 := rfl
  have u5 : (Try.prog).underlying 5 = some (.int .u8) := by kernel_rfl
  have u3 : (Try.prog).underlying 3 = some (.int .i64) := by kernel_rfl
  refine pc_ofV cop43 ?_
  repeat' ((conv => whnf); first | (with_reducible refine SeqP.go ?_) | (with_reducible refine eS24 ?_) | (with_reducible refine eS16 ?_) | (with_reducible refine eS8 ?_) | ((with_reducible refine eAnd ?_ ?_); (focus omega)) | ((with_reducible refine (?_ : ObE _ _)); (refine ObE.cv u5 u3 ?_)) | ((with_reducible refine (?_ : ObQ _ _ _)); (refine obq8 ?_ ?_); (focus omega)) | ((with_reducible refine ObD.mk ?_ ?_); (focus (first | rfl | (simp; done)))) | ((with_reducible refine ObN.mk ?_ ?_); (focus (first | exact u_str | rfl | assumption | omega | (simp only [List.length_map, List.length_append, List.length_cons, List.length_nil]; omega) | (simp; done) | (simp; omega)))) | (with_reducible refine ObZ.mk _ rfl ?_) | ((with_reducible refine ObEq.mk ?_); (focus (first | rfl | assumption | exact (by rw [hp]; congr 2; simp only [IntKind.wrap_u8, IntKind.wrap_i64]; omega)))))
end Go.Proofs.Ytfdfmhapcjckoaa.Sim
namespace Go.Proofs.Ytfdfmhapcjckoaa.Sim
open Go.RowKit
set_option maxRecDepth 100000
theorem take_iA {l : List Int} : (l.map iA).take l.length = l.map iA := List.take_of_length_le (by simp)
theorem take_pA {l : List Pr} : (l.map pA).take l.length = l.map pA := List.take_of_length_le (by simp)
theorem drop_rep {n : Nat} {z : AV} : (List.replicate n z).drop n = [] := by simp
set_option maxHeartbeats 4000000 in
theorem copy37 (G : Nat → AV) (l : List Int) (hl : l.length ≤ 40) : PC Try.prog G 53 [.sl 1 (l.map iA)] (.sl 1 (l.map iA)) := by
  refine pc_of cop53 ?_
  show W _ _ _ _ ⟨_, _⟩; simp only [A53, List.cons_append, List.nil_append, List.length_cons, List.length_nil, Nat.reduceAdd, Nat.reduceSub, List.replicate]
  by_cases h0 : l.length = 0
  · obtain rfl := List.length_eq_zero_iff.mp h0
    simp only [List.map_nil]
    repeat (first | with_reducible refine w_seq ?_ | with_reducible refine w_reg ?_ | with_reducible refine ws_nil ?_ | with_reducible refine q_then ?_ | with_reducible refine w_ret ?_ | with_reducible refine q_then_r ?_ | ((first | with_reducible refine ks fun K hK => ?_ | with_reducible refine kd fun K hK => ?_ | with_reducible refine kc fun K hK2 hK hK3 => ?_); simp (disch := omega) only [bg0, bg1, bg2, bg3, bg4, stepO, rsAs, eff, AX.ev, St.put, binA, conc, ap1, ofVal, Int.reduceTMod, Int.reduceTDiv, reduceCtorEq, fillA, AV.cells, AV.fine, AV.one, Nat.reduceAdd, Nat.reduceSub, Nat.reduceMul, Nat.reduceLT, Nat.reduceLeDiff, Int.reduceLT, Int.reduceLE, Int.reduceAdd, Int.reduceSub, Int.reduceNeg, Int.reduceMul, Int.reduceEq, Int.reduceToNat, nilA, moveA, live, loadA, rdA, storeA, wrA, intA, elemA, lenA, appA, srcA, isPtr, isNilPtr, partA, resOf, sliceA, cut, id, ap2, reduceIte, concs, chkB, geB, AOp.cls, AOp.xs, ltB, ltC, Nat.reduceBEq, Option.toList, List.cons_append, decide_eq_true, decide_eq_false, if_pos, if_neg, List.length_map, pA_at, iA_at, List.cons_append, bVb, bVn, eq_self, Bool.and_self, BEq.rfl, not_true_eq_false, b32e, b32n, decide_true, decide_false, not_false_eq_true, cpyA, Nat.min_self, List.length_replicate]; (first | ((with_reducible refine hK _ ?_); clear hK K) | ((with_reducible refine hK ?_); clear hK hK3 K hK2) | ((with_reducible refine hK3 ?_); clear hK hK3 K hK2))) | ((first | with_reducible refine ret_h fun K hK => ?_ | with_reducible refine ret_hh rfl fun K hK => ?_ | with_reducible refine ret_pp fun K hK => ?_); simp (disch := omega) only [bg0, bg1, bg2, bg3, bg4, stepO, rsAs, eff, AX.ev, St.put, binA, conc, ap1, ofVal, Int.reduceTMod, Int.reduceTDiv, reduceCtorEq, fillA, AV.cells, AV.fine, AV.one, Nat.reduceAdd, Nat.reduceSub, Nat.reduceMul, Nat.reduceLT, Nat.reduceLeDiff, Int.reduceLT, Int.reduceLE, Int.reduceAdd, Int.reduceSub, Int.reduceNeg, Int.reduceMul, Int.reduceEq, Int.reduceToNat, nilA, moveA, live, loadA, rdA, storeA, wrA, intA, elemA, lenA, appA, srcA, isPtr, isNilPtr, partA, resOf, sliceA, cut, id, ap2, reduceIte, concs, chkB, geB, AOp.cls, AOp.xs, ltB, ltC, Nat.reduceBEq, Option.toList, List.cons_append, decide_eq_true, decide_eq_false, if_pos, if_neg, List.length_map, pA_at, iA_at, List.cons_append, bVb, bVn, eq_self, Bool.and_self, BEq.rfl, not_true_eq_false, b32e, b32n, decide_true, decide_false, not_false_eq_true, cpyA, Nat.min_self, List.length_replicate]; (first | ((with_reducible refine hK _ ?_ ?_ ?_ ?_); rotate_left 2; rfl; rfl) | ((with_reducible refine hK _ ?_); rfl))))
  · repeat (first | with_reducible refine w_seq ?_ | with_reducible refine w_reg ?_ | with_reducible refine w_skip ?_ | with_reducible refine ws_nil ?_ | with_reducible refine q_then ?_ | with_reducible refine w_ret ?_ | ((first | with_reducible refine ks fun K hK => ?_ | with_reducible refine kd fun K hK => ?_ | with_reducible refine kc fun K hK2 hK hK3 => ?_); simp (disch := omega) only [bg0, bg1, bg2, bg3, bg4, stepO, rsAs, eff, AX.ev, St.put, binA, conc, ap1, ofVal, Int.reduceTMod, Int.reduceTDiv, reduceCtorEq, fillA, AV.cells, AV.fine, AV.one, Nat.reduceAdd, Nat.reduceSub, Nat.reduceMul, Nat.reduceLT, Nat.reduceLeDiff, Int.reduceLT, Int.reduceLE, Int.reduceAdd, Int.reduceSub, Int.reduceNeg, Int.reduceMul, Int.reduceEq, Int.reduceToNat, nilA, moveA, live, loadA, rdA, storeA, wrA, intA, elemA, lenA, appA, srcA, isPtr, isNilPtr, partA, resOf, sliceA, cut, id, ap2, reduceIte, concs, chkB, geB, AOp.cls, AOp.xs, ltB, ltC, Nat.reduceBEq, Option.toList, List.cons_append, decide_eq_true, decide_eq_false, if_pos, if_neg, List.length_map, pA_at, iA_at, List.cons_append, bVb, bVn, eq_self, Bool.and_self, BEq.rfl, not_true_eq_false, b32e, b32n, decide_true, decide_false, not_false_eq_true, cpyA, Nat.min_self, List.length_replicate, take_iA, drop_rep]; (first | ((with_reducible refine hK _ ?_); clear hK K) | ((with_reducible refine hK ?_); clear hK hK3 K hK2) | ((with_reducible refine hK3 ?_); clear hK hK3 K hK2))))
    refine ret_pp fun K hK => ?_
    simp only [rsAs, List.getD_cons_succ, List.getD_cons_zero]
    refine hK _ ?_ ?_ ?_ ?_
    rotate_left 2
    simp only [purA, pur, purC, List.getElem?_cons_zero, List.length_map, take_iA, Nat.le_refl, and_self, and_true, true_and]
    rw [if_pos (all_iA _)]
    rfl
set_option maxHeartbeats 4000000 in
theorem copy38 (G : Nat → AV) (l : List Pr) (hl : l.length ≤ 40) : PC Try.prog G 54 [.sl 2 (l.map pA)] (.sl 2 (l.map pA)) := by
  refine pc_of cop54 ?_
  show W _ _ _ _ ⟨_, _⟩; simp only [A54, List.cons_append, List.nil_append, List.length_cons, List.length_nil, Nat.reduceAdd, Nat.reduceSub, List.replicate]
  by_cases h0 : l.length = 0
  · obtain rfl := List.length_eq_zero_iff.mp h0
    simp only [List.map_nil]
    repeat (first | with_reducible refine w_seq ?_ | with_reducible refine w_reg ?_ | with_reducible refine ws_nil ?_ | with_reducible refine q_then ?_ | with_reducible refine w_ret ?_ | with_reducible refine q_then_r ?_ | ((first | with_reducible refine ks fun K hK => ?_ | with_reducible refine kd fun K hK => ?_ | with_reducible refine kc fun K hK2 hK hK3 => ?_); simp (disch := omega) only [bg0, bg1, bg2, bg3, bg4, stepO, rsAs, eff, AX.ev, St.put, binA, conc, ap1, ofVal, Int.reduceTMod, Int.reduceTDiv, reduceCtorEq, fillA, AV.cells, AV.fine, AV.one, Nat.reduceAdd, Nat.reduceSub, Nat.reduceMul, Nat.reduceLT, Nat.reduceLeDiff, Int.reduceLT, Int.reduceLE, Int.reduceAdd, Int.reduceSub, Int.reduceNeg, Int.reduceMul, Int.reduceEq, Int.reduceToNat, nilA, moveA, live, loadA, rdA, storeA, wrA, intA, elemA, lenA, appA, srcA, isPtr, isNilPtr, partA, resOf, sliceA, cut, id, ap2, reduceIte, concs, chkB, geB, AOp.cls, AOp.xs, ltB, ltC, Nat.reduceBEq, Option.toList, List.cons_append, decide_eq_true, decide_eq_false, if_pos, if_neg, List.length_map, pA_at, iA_at, List.cons_append, bVb, bVn, eq_self, Bool.and_self, BEq.rfl, not_true_eq_false, b32e, b32n, decide_true, decide_false, not_false_eq_true, cpyA, Nat.min_self, List.length_replicate]; (first | ((with_reducible refine hK _ ?_); clear hK K) | ((with_reducible refine hK ?_); clear hK hK3 K hK2) | ((with_reducible refine hK3 ?_); clear hK hK3 K hK2))) | ((first | with_reducible refine ret_h fun K hK => ?_ | with_reducible refine ret_hh rfl fun K hK => ?_ | with_reducible refine ret_pp fun K hK => ?_); simp (disch := omega) only [bg0, bg1, bg2, bg3, bg4, stepO, rsAs, eff, AX.ev, St.put, binA, conc, ap1, ofVal, Int.reduceTMod, Int.reduceTDiv, reduceCtorEq, fillA, AV.cells, AV.fine, AV.one, Nat.reduceAdd, Nat.reduceSub, Nat.reduceMul, Nat.reduceLT, Nat.reduceLeDiff, Int.reduceLT, Int.reduceLE, Int.reduceAdd, Int.reduceSub, Int.reduceNeg, Int.reduceMul, Int.reduceEq, Int.reduceToNat, nilA, moveA, live, loadA, rdA, storeA, wrA, intA, elemA, lenA, appA, srcA, isPtr, isNilPtr, partA, resOf, sliceA, cut, id, ap2, reduceIte, concs, chkB, geB, AOp.cls, AOp.xs, ltB, ltC, Nat.reduceBEq, Option.toList, List.cons_append, decide_eq_true, decide_eq_false, if_pos, if_neg, List.length_map, pA_at, iA_at, List.cons_append, bVb, bVn, eq_self, Bool.and_self, BEq.rfl, not_true_eq_false, b32e, b32n, decide_true, decide_false, not_false_eq_true, cpyA, Nat.min_self, List.length_replicate]; (first | ((with_reducible refine hK _ ?_ ?_ ?_ ?_); rotate_left 2; rfl; rfl) | ((with_reducible refine hK _ ?_); rfl))))
  · repeat (first | with_reducible refine w_seq ?_ | with_reducible refine w_reg ?_ | with_reducible refine w_skip ?_ | with_reducible refine ws_nil ?_ | with_reducible refine q_then ?_ | with_reducible refine w_ret ?_ | ((first | with_reducible refine ks fun K hK => ?_ | with_reducible refine kd fun K hK => ?_ | with_reducible refine kc fun K hK2 hK hK3 => ?_); simp (disch := omega) only [bg0, bg1, bg2, bg3, bg4, stepO, rsAs, eff, AX.ev, St.put, binA, conc, ap1, ofVal, Int.reduceTMod, Int.reduceTDiv, reduceCtorEq, fillA, AV.cells, AV.fine, AV.one, Nat.reduceAdd, Nat.reduceSub, Nat.reduceMul, Nat.reduceLT, Nat.reduceLeDiff, Int.reduceLT, Int.reduceLE, Int.reduceAdd, Int.reduceSub, Int.reduceNeg, Int.reduceMul, Int.reduceEq, Int.reduceToNat, nilA, moveA, live, loadA, rdA, storeA, wrA, intA, elemA, lenA, appA, srcA, isPtr, isNilPtr, partA, resOf, sliceA, cut, id, ap2, reduceIte, concs, chkB, geB, AOp.cls, AOp.xs, ltB, ltC, Nat.reduceBEq, Option.toList, List.cons_append, decide_eq_true, decide_eq_false, if_pos, if_neg, List.length_map, pA_at, iA_at, List.cons_append, bVb, bVn, eq_self, Bool.and_self, BEq.rfl, not_true_eq_false, b32e, b32n, decide_true, decide_false, not_false_eq_true, cpyA, Nat.min_self, List.length_replicate, take_pA, drop_rep]; (first | ((with_reducible refine hK _ ?_); clear hK K) | ((with_reducible refine hK ?_); clear hK hK3 K hK2) | ((with_reducible refine hK3 ?_); clear hK hK3 K hK2))))
    refine ret_pp fun K hK => ?_
    simp only [rsAs, List.getD_cons_succ, List.getD_cons_zero]
    refine hK _ ?_ ?_ ?_ ?_
    rotate_left 2
    simp only [purA, pur, purC, List.getElem?_cons_zero, List.length_map, take_pA, Nat.le_refl, and_self, and_true, true_and]
    rw [if_pos (all_pA _)]
    rfl
set_option maxHeartbeats 4000000 in
theorem copyN (G : Nat → AV) (kn : Int) (ke va : ByteArray) (mp : Int) (kk : List Int) (mn : Int) (ls : List Pr) (sz bi : Int) (hk : kk.length ≤ 40) (hl : ls.length ≤ 40) : PC Try.prog G 40 [nV kn ke va mp kk mn ls sz bi] (nV kn ke va mp kk mn ls sz bi) := by
  refine pc_of cop40 ?_
  show W _ _ _ _ ⟨_, _⟩; simp only [A40, List.cons_append, List.nil_append, List.length_cons, List.length_nil, Nat.reduceAdd, Nat.reduceSub, List.replicate]
  repeat (first | with_reducible refine w_seq ?_ | with_reducible refine w_reg ?_ | with_reducible refine w_draw ?_ | with_reducible refine ws_nil ?_ | with_reducible refine wd_nil ?_ | with_reducible refine q_then ?_ | with_reducible refine w_ret ?_ | ((first | with_reducible refine ks fun K hK => ?_ | with_reducible refine kd fun K hK => ?_ | with_reducible refine kc fun K hK2 hK hK3 => ?_); simp (disch := omega) only [bg0, bg1, bg2, bg3, bg4, stepO, rsAs, eff, AX.ev, St.put, binA, conc, ap1, ofVal, Int.reduceTMod, Int.reduceTDiv, reduceCtorEq, fillA, AV.cells, AV.fine, AV.one, Nat.reduceAdd, Nat.reduceSub, Nat.reduceMul, Nat.reduceLT, Nat.reduceLeDiff, Int.reduceLT, Int.reduceLE, Int.reduceAdd, Int.reduceSub, Int.reduceNeg, Int.reduceMul, Int.reduceEq, Int.reduceToNat, nilA, moveA, live, loadA, rdA, storeA, wrA, intA, elemA, lenA, appA, srcA, isPtr, isNilPtr, partA, resOf, sliceA, cut, id, ap2, reduceIte, concs, chkB, geB, AOp.cls, AOp.xs, ltB, ltC, Nat.reduceBEq, Option.toList, List.cons_append, decide_eq_true, decide_eq_false, if_pos, if_neg, List.length_map, pA_at, iA_at, List.cons_append, bVb, bVn, eq_self, Bool.and_self, BEq.rfl, not_true_eq_false, b32e, b32n, decide_true, decide_false, not_false_eq_true, cpyA, Nat.min_self, List.length_replicate]; (first | ((with_reducible refine hK _ ?_); clear hK K) | ((with_reducible refine hK ?_); clear hK hK3 K hK2) | ((with_reducible refine hK3 ?_); clear hK hK3 K hK2))) | ((first | ((with_reducible refine kpd 53 ?_ ?_ ?_ ?_ ?_); rotate_left 1) | ((with_reducible refine kpd 54 ?_ ?_ ?_ ?_ ?_); rotate_left 1)); (focus (simp (disch := omega) only [bg0, bg1, bg2, bg3, bg4, stepO, rsAs, eff, AX.ev, St.put, binA, conc, ap1, ofVal, Int.reduceTMod, Int.reduceTDiv, reduceCtorEq, fillA, AV.cells, AV.fine, AV.one, Nat.reduceAdd, Nat.reduceSub, Nat.reduceMul, Nat.reduceLT, Nat.reduceLeDiff, Int.reduceLT, Int.reduceLE, Int.reduceAdd, Int.reduceSub, Int.reduceNeg, Int.reduceMul, Int.reduceEq, Int.reduceToNat, nilA, moveA, live, loadA, rdA, storeA, wrA, intA, elemA, lenA, appA, srcA, isPtr, isNilPtr, partA, resOf, sliceA, cut, id, ap2, reduceIte, concs, chkB, geB, AOp.cls, AOp.xs, ltB, ltC, Nat.reduceBEq, Option.toList, List.cons_append, decide_eq_true, decide_eq_false, if_pos, if_neg, List.length_map, pA_at, iA_at, List.cons_append, bVb, bVn, eq_self, Bool.and_self, BEq.rfl, not_true_eq_false, b32e, b32n, decide_true, decide_false, not_false_eq_true, cpyA, Nat.min_self, List.length_replicate]; try rfl)); (first | (rfl; exact (copy37 G kk hk)) | (rfl; exact (copy38 G ls hl)))) | ((first | with_reducible refine ret_h fun K hK => ?_ | with_reducible refine ret_hh rfl fun K hK => ?_ | with_reducible refine ret_pp fun K hK => ?_); simp (disch := omega) only [bg0, bg1, bg2, bg3, bg4, stepO, rsAs, eff, AX.ev, St.put, binA, conc, ap1, ofVal, Int.reduceTMod, Int.reduceTDiv, reduceCtorEq, fillA, AV.cells, AV.fine, AV.one, Nat.reduceAdd, Nat.reduceSub, Nat.reduceMul, Nat.reduceLT, Nat.reduceLeDiff, Int.reduceLT, Int.reduceLE, Int.reduceAdd, Int.reduceSub, Int.reduceNeg, Int.reduceMul, Int.reduceEq, Int.reduceToNat, nilA, moveA, live, loadA, rdA, storeA, wrA, intA, elemA, lenA, appA, srcA, isPtr, isNilPtr, partA, resOf, sliceA, cut, id, ap2, reduceIte, concs, chkB, geB, AOp.cls, AOp.xs, ltB, ltC, Nat.reduceBEq, Option.toList, List.cons_append, decide_eq_true, decide_eq_false, if_pos, if_neg, List.length_map, pA_at, iA_at, List.cons_append, bVb, bVn, eq_self, Bool.and_self, BEq.rfl, not_true_eq_false, b32e, b32n, decide_true, decide_false, not_false_eq_true, cpyA, Nat.min_self, List.length_replicate]; (first | ((with_reducible refine hK _ ?_ ?_ ?_ ?_); rotate_left 2; rfl; rfl) | ((with_reducible refine hK _ ?_); rfl))))
def few (l : List Pr) : List Pr := (l.take (min l.length 40)).map fun p => (cutB p.1 40, cutB p.2 40)
def few1 (l : List Int) : List Int := l.take (min l.length 40)
theorem few1_len (l : List Int) : (few1 l).length = min l.length 40 := by simp [few1]
theorem few1_map (l : List Int) : (l.map iA).take (min l.length 40) = (few1 l).map iA := by simp [few1, List.map_take]
theorem min40 {n : Nat} : (if (40 : Int) < (n : Int) then (40 : Int) else (n : Int)) = ((min n 40 : Nat) : Int) := by split <;> omega
set_option maxHeartbeats 4000000 in
theorem fewN (G : Nat → AV) (kn : Int) (ke va : ByteArray) (mp : Int) (kk : List Int) (mn : Int) (ls : List Pr) (sz bi : Int) (hke : ke.size ≤ 9223372036854775807) (hva : va.size ≤ 9223372036854775807) (hkk : kk.length ≤ 9223372036854775807) (hls : ls.length ≤ 9223372036854775807) (hs : ∀ p ∈ ls, p.1.size ≤ 9223372036854775807 ∧ p.2.size ≤ 9223372036854775807) :
    PC Try.prog G 6 [nV kn ke va mp kk mn ls sz bi] (nV kn (cutB ke 40) (cutB va 40) mp (few1 kk) mn (few ls) sz bi) := by
  have hf : PC Try.prog G 20 [.sl 2 (ls.map pA)] (.sl 2 ((few ls).map pA)) := few07 G ls hls hs
  have f1 := few1_len kk
  have f2 := few1_map kk
  refine pc_of cop6 ?_
  show W _ _ _ _ ⟨_, _⟩; simp only [A6, List.cons_append, List.nil_append, List.length_cons, List.length_nil, Nat.reduceAdd, Nat.reduceSub, List.replicate]
  repeat (first | with_reducible refine w_seq ?_ | with_reducible refine w_reg ?_ | with_reducible refine w_draw ?_ | with_reducible refine ws_nil ?_ | with_reducible refine wd_nil ?_ | with_reducible refine q_then ?_ | with_reducible refine w_ret ?_ | ((first | with_reducible refine ks fun K hK => ?_ | with_reducible refine kd fun K hK => ?_ | with_reducible refine kc fun K hK2 hK hK3 => ?_); simp (disch := omega) only [bg0, bg1, bg2, bg3, bg4, stepO, rsAs, eff, AX.ev, St.put, binA, conc, ap1, ofVal, Int.reduceTMod, Int.reduceTDiv, reduceCtorEq, fillA, AV.cells, AV.fine, AV.one, Nat.reduceAdd, Nat.reduceSub, Nat.reduceMul, Nat.reduceLT, Nat.reduceLeDiff, Int.reduceLT, Int.reduceLE, Int.reduceAdd, Int.reduceSub, Int.reduceNeg, Int.reduceMul, Int.reduceEq, Int.reduceToNat, nilA, moveA, live, loadA, rdA, storeA, wrA, intA, elemA, lenA, appA, srcA, isPtr, isNilPtr, partA, resOf, sliceA, cut, id, ap2, reduceIte, concs, chkB, geB, AOp.cls, AOp.xs, ltB, ltC, Nat.reduceBEq, Option.toList, List.cons_append, decide_eq_true, decide_eq_false, if_pos, if_neg, List.length_map, pA_at, iA_at, List.cons_append, bVb, bVn, eq_self, Bool.and_self, BEq.rfl, not_true_eq_false, b32e, b32n, decide_true, decide_false, not_false_eq_true, cpyA, Nat.min_self, List.length_replicate, min40, f2, f1]; (first | ((with_reducible refine hK _ ?_); clear hK K) | ((with_reducible refine hK ?_); clear hK hK3 K hK2) | ((with_reducible refine hK3 ?_); clear hK hK3 K hK2))) | ((with_reducible refine kps 20 ?_ ?_ ?_ ?_); rotate_left 1; rfl; exact hf) | ((first | ((with_reducible refine kpd 19 ?_ ?_ ?_ ?_ ?_); rotate_left 1) | ((with_reducible refine kpd 20 ?_ ?_ ?_ ?_ ?_); rotate_left 1)); (focus (simp (disch := omega) only [bg0, bg1, bg2, bg3, bg4, stepO, rsAs, eff, AX.ev, St.put, binA, conc, ap1, ofVal, Int.reduceTMod, Int.reduceTDiv, reduceCtorEq, fillA, AV.cells, AV.fine, AV.one, Nat.reduceAdd, Nat.reduceSub, Nat.reduceMul, Nat.reduceLT, Nat.reduceLeDiff, Int.reduceLT, Int.reduceLE, Int.reduceAdd, Int.reduceSub, Int.reduceNeg, Int.reduceMul, Int.reduceEq, Int.reduceToNat, nilA, moveA, live, loadA, rdA, storeA, wrA, intA, elemA, lenA, appA, srcA, isPtr, isNilPtr, partA, resOf, sliceA, cut, id, ap2, reduceIte, concs, chkB, geB, AOp.cls, AOp.xs, ltB, ltC, Nat.reduceBEq, Option.toList, List.cons_append, decide_eq_true, decide_eq_false, if_pos, if_neg, List.length_map, pA_at, iA_at, List.cons_append, bVb, bVn, eq_self, Bool.and_self, BEq.rfl, not_true_eq_false, b32e, b32n, decide_true, decide_false, not_false_eq_true, cpyA, Nat.min_self, List.length_replicate, min40, f2, f1]; try rfl)); (first | (rfl; exact (by refine cutP G _ 40 ?_; assumption)) | (rfl; exact hf))))
  have f3 : ((few1 kk).map iA).take (min kk.length 40) = (few1 kk).map iA := List.take_of_length_le (by simp [f1])
  refine ret_pp fun K hK => ?_
  simp only [bg0, bg1, bg2, bg3, bg4, stepO, rsAs, eff, AX.ev, St.put, binA, conc, ap1, ofVal, Int.reduceTMod, Int.reduceTDiv, reduceCtorEq, fillA, AV.cells, AV.fine, AV.one, Nat.reduceAdd, Nat.reduceSub, Nat.reduceMul, Nat.reduceLT, Nat.reduceLeDiff, Int.reduceLT, Int.reduceLE, Int.reduceAdd, Int.reduceSub, Int.reduceNeg, Int.reduceMul, Int.reduceEq, Int.reduceToNat, nilA, moveA, live, loadA, rdA, storeA, wrA, intA, elemA, lenA, appA, srcA, isPtr, isNilPtr, partA, resOf, sliceA, cut, id, ap2, reduceIte, concs, chkB, geB, AOp.cls, AOp.xs, ltB, ltC, Nat.reduceBEq, Option.toList]
  refine hK _ ?_ ?_ ?_ ?_
  rotate_left 2
  simp only [purA, pur, purL, purC, AV.isC, AV.isC0, if_true, List.getElem?_cons_zero, List.getElem?_cons_succ, List.length_map, f1, f3, all_iA, Nat.le_refl, and_self]
  rfl
  rfl
theorem cutB_size (s : ByteArray) : (cutB s 40).size ≤ 40 := by simp [cutB]; omega
theorem few_len (l : List Pr) : (few l).length ≤ 40 := by simp [few]; omega
theorem few_sizes {l : List Pr} : ∀ p ∈ few l, p.1.size ≤ 40 ∧ p.2.size ≤ 40 := by
  intro p hp
  unfold few at hp
  obtain ⟨q, hq, rfl⟩ := List.mem_map.1 hp
  exact ⟨cutB_size _, cutB_size _⟩
end Go.Proofs.Ytfdfmhapcjckoaa.Sim
namespace Go.Proofs.Ytfdfmhapcjckoaa.Sim
open Go.RowKit
set_option maxRecDepth 100000
def upI (m i : Nat) : List Int := (Mk.upTo m i).map Int.ofNat
theorem upI_len (m i : Nat) : (upI m i).length ≤ i := by simp [upI, Mk.upTo_len]
end Go.Proofs.Ytfdfmhapcjckoaa.Sim
namespace Go.Proofs.Ytfdfmhapcjckoaa
open Go.RowKit
theorem add_block (a : Addr) (n : Nat) : (a.add n).block = a.block := by
  unfold Addr.add; by_cases h : n = 0 <;> simp [h]
theorem add_add (a : Addr) (i j : Nat) : (a.add i).add j = a.add (i + j) := by
  unfold Addr.add
  by_cases hi : i = 0
  · by_cases hj : j = 0 <;> simp [hi, hj]
  · by_cases hj : j = 0 <;> simp [hi, hj, Nat.add_assoc]
def Rd (w : World) (B : Nat) (A : Option Addr) (xs : List Value) : Prop :=
  xs ≠ [] → ∃ ad, A = some ad ∧ ad.block < B ∧ ∀ (j : Nat) (u : Value), xs[j]? = some u → w.cell? (ad.add j) = some u
section
variable {w w' : World} {B B' : Nat} {A : Option Addr} {xs : List Value}
theorem Rd.nil : Rd w B A [] := fun h => absurd rfl h
theorem Rd.at_ (h : Rd w B A xs) {k : Nat} (hk : k < xs.length) : ∃ ad, A = some ad ∧ ad.block < B ∧ w.cell? (ad.add k) = some xs[k] := by
  obtain ⟨ad, e, hb, hc⟩ := h (fun e => by simp [e] at hk)
  exact ⟨ad, e, hb, hc k _ (List.getElem?_eq_getElem hk)⟩
theorem Rd.spot (h : Rd w B A xs) (hn : xs ≠ []) : ∃ b off, A = some ⟨b, off, none⟩ ∧ b < B ∧ ∀ (k : Nat) (hk : k < xs.length), w.cell? ⟨b, off + k, none⟩ = some xs[k] := by
  obtain ⟨⟨b, off, sp⟩, rfl, hb, hc⟩ := h hn
  have h0 : 0 < xs.length := List.length_pos_iff.2 hn
  have hs := World.cell?_spot (hc 0 _ (List.getElem?_eq_getElem h0))
  have hs2 : sp = none := by simpa [Addr.add] using hs
  subst hs2
  refine ⟨b, off, rfl, hb, fun k hk => ?_⟩
  have := hc k _ (List.getElem?_eq_getElem hk)
  by_cases hk0 : k = 0
  · subst hk0; simpa [Addr.add] using this
  · simpa [Addr.add, hk0] using this
theorem Rd.keep (h : Rd w B A xs) (hk : ∀ p : Addr, p.block < B → w'.cell? p = w.cell? p) : Rd w' B A xs := fun hn => by
  obtain ⟨ad, e, hb, hc⟩ := h hn
  exact ⟨ad, e, hb, fun j u hu => by rw [hk _ (by rw [add_block]; exact hb)]; exact hc j u hu⟩
theorem Rd.mono (h : Rd w B A xs) (hB : B ≤ B') : Rd w B' A xs := fun hn => by
  obtain ⟨ad, e, hb, hc⟩ := h hn
  exact ⟨ad, e, Nat.lt_of_lt_of_le hb hB, hc⟩
theorem Rd.below (h : Rd w B A xs) (hb : Below B w w') : Rd w' B A xs := h.keep fun _ hp => hb.cell hp
theorem Rd.drewN (h : Rd w B A xs) (k : Nat) : Rd (w.drewN k) B A xs := h
theorem Rd.drawn (h : Rd w B A xs) (hd : Drawn w w') : Rd w' B A xs := by
  obtain ⟨n, rfl⟩ := hd
  exact h
theorem Rd.alloc (h : Rd w B A xs) (hB : B ≤ w.heap.size) (o : Obj) : Rd (w.alloc o) B A xs :=
  h.keep fun p hp => World.cell?_alloc_lt w o p (Nat.lt_of_lt_of_le hp hB)
theorem Rd.setCell (h : Rd w B A xs) {p : Addr} (hB : B ≤ p.block) (u : Value) : Rd (w.setCell p u) B A xs :=
  h.keep fun q hq => World.cell?_setCell_other w p q u (fun e => by subst e; omega)
theorem Rd.take (h : Rd w B A xs) (n : Nat) : Rd w B A (xs.take n) := fun hn => by
  obtain ⟨ad, e, hb, hc⟩ := h (fun e => hn (by simp [e]))
  exact ⟨ad, e, hb, fun j u hu => hc j u (by
    rw [List.getElem?_take] at hu
    split at hu
    · exact hu
    · cases hu)⟩
theorem Rd.drop (h : Rd w B A xs) (n : Nat) : Rd w B (A.map (·.add n)) (xs.drop n) := fun hn => by
  obtain ⟨ad, rfl, hb, hc⟩ := h (fun e => hn (by simp [e]))
  refine ⟨ad.add n, rfl, by rw [add_block]; exact hb, fun j u hu => ?_⟩
  rw [add_add]
  exact hc _ u (by rw [← hu, List.getElem?_drop])
theorem Rd.grown (h : Rd w B A xs) {row : Option Nat} (hg : w.grownBy w' row) (hB : B ≤ w.heap.size) (hr : ∀ g, row = some g → B ≤ g) : Rd w' B A xs :=
  h.keep fun p hp => World.cell?_of_block (hg.block p.block (by omega) (fun e => by have := hr _ e.symm; omega))
theorem Rd.own {base size n c : Nat} {e : TypeId} (h : w.ownsRow base e size (.slice A n c) n xs) : Rd w w.heap.size A xs := fun hn => by
  rcases h.2 with ⟨_, h0⟩ | ⟨g, cap, cur, hv, _, hheap, _⟩
  · subst h0
    exact absurd (List.eq_nil_of_length_eq_zero (by simpa using h.1)) hn
  · have hA : A = some ⟨g, 0, none⟩ := by injection hv
    subst hA
    have hlt : g < w.heap.size := by
      rcases Nat.lt_or_ge g w.heap.size with hh | hh
      · exact hh
      · rw [Array.getElem?_eq_none hh] at hheap; cases hheap
    exact ⟨_, rfl, hlt, h.cells (g := g) rfl⟩
end
section
variable {P : Program} (w : World)
end
end Go.Proofs.Ytfdfmhapcjckoaa
namespace Go.Proofs.Ytfdfmhapcjckoaa.Mk
open Go.RowKit
def I64 (a : Int) : Prop := -9223372036854775808 ≤ a ∧ a ≤ 9223372036854775807
def U32 (m : Nat) : Prop := m < 4294967296
def has (m : Nat) (i : Int) : Bool := decide (0 ≤ i ∧ i < 32) && m.testBit i.toNat
theorem inRange_calls (i : Int) (w : World) (hi : I64 i) : Calls Try.prog 41 #[.int .i64 i] w (Quiet (.bool (decide (0 ≤ i ∧ i < 32))) w) := by
  unfold I64 at hi
  by_cases h1 : 0 ≤ i
  · by_cases h2 : i < 32
    · rw [decide_eq_true ⟨h1, h2⟩]
      go_enter Try.func41, Try.ntmps41
      go_wp2
      all_goals
        go_ret
        exact ⟨rfl, Drawn.refl _⟩
    · rw [decide_eq_false (by omega)]
      go_enter Try.func41, Try.ntmps41
      go_wp2
      all_goals
        go_ret
        exact ⟨rfl, Drawn.refl _⟩
  · rw [decide_eq_false (by omega)]
    go_enter Try.func41, Try.ntmps41
    go_wp2
    all_goals
      go_ret
      exact ⟨rfl, Drawn.refl _⟩
theorem bit_and (m k : Nat) (hm : m < 4294967296) : bits .and .u32 ((m : Int) / 2 ^ k) 1 = if m.testBit k then 1 else 0 := by
  have e : ((m : Int) / 2 ^ k) = ((m / 2 ^ k : Nat) : Int) := by rw [Int.natCast_ediv]; norm_cast
  have hd : m / 2 ^ k ≤ m := Nat.div_le_self _ _
  rw [e, show (1 : Int) = ((1 : Nat) : Int) from rfl, u32_and_nat _ _ (by omega) (by omega), Nat.and_one_is_mod, bit_div]
  by_cases h : m / 2 ^ k % 2 = 1
  · rw [h]; simp
  · have : m / 2 ^ k % 2 = 0 := by omega
    rw [this]; simp
theorem Has_calls (m : Nat) (i : Int) (w : World) (hm : U32 m) (hi : I64 i) : Calls Try.prog 25 #[.int .u32 m, .int .i64 i] w (Quiet (.bool (has m i)) w) := by
  have k1 := fun w => Lib.hid (inRange_calls i w hi)
  unfold I64 at hi
  unfold U32 at hm
  unfold has
  by_cases h : 0 ≤ i ∧ i < 32
  · rw [decide_eq_true h] at k1 ⊢
    obtain ⟨k, rfl⟩ := Int.eq_ofNat_of_zero_le h.1
    have hk : k < 32 := by omega
    have e := bit_and m k hm
    rw [show ((k : Int)).toNat = k by omega]
    generalize m.testBit k = b at *
    cases b
    · simp only [Bool.false_eq_true, if_false] at e
      go_enter Try.func25, Try.ntmps25
      go_wp2_with (go_at_call 41; (with_reducible refine ((k1 _).out).mono ?_); rintro e w' ⟨rfl, q, rfl⟩)
      go_ret
      exact ⟨rfl, ⟨_, rfl⟩⟩
    · simp only [if_true] at e
      go_enter Try.func25, Try.ntmps25
      go_wp2_with (go_at_call 41; (with_reducible refine ((k1 _).out).mono ?_); rintro e w' ⟨rfl, q, rfl⟩)
      go_ret
      exact ⟨rfl, ⟨_, rfl⟩⟩
  · rw [decide_eq_false h] at k1 ⊢
    clear h
    go_enter Try.func25, Try.ntmps25
    go_wp2_with (go_at_call 41; (with_reducible refine ((k1 _).out).mono ?_); rintro e w' ⟨rfl, q, rfl⟩)
    go_ret
    exact ⟨rfl, ⟨_, rfl⟩⟩
theorem two_sub : ∀ c : Nat, c < 33 → ((2 : Int) ^ c % 4294967296 - 1) % 4294967296 = ((2 ^ c - 1 : Nat) : Int) := by decide +kernel
theorem below_calls (i : Int) (w : World) (hi : I64 i) : Calls Try.prog 42 #[.int .i64 i] w (Quiet (.int .u32 ((2 ^ clamp i - 1 : Nat) : Int)) w) := by
  unfold I64 at hi
  rcases Int.lt_or_le i 0 with h | h
  · have e : clamp i = 0 := by unfold clamp; omega
    rw [e]
    go_enter Try.func42, Try.ntmps42
    go_wp2
    go_ret
    exact ⟨rfl, Drawn.refl _⟩
  rcases Int.lt_or_le 32 i with h2 | h2
  · have e : clamp i = 32 := by unfold clamp; omega
    rw [e]
    go_enter Try.func42, Try.ntmps42
    go_wp2
    go_ret
    exact ⟨rfl, Drawn.refl _⟩
  · have e : clamp i = i.toNat := by unfold clamp; omega
    rw [e]
    have E := Lib.hid (two_sub i.toNat (by omega))
    clear e
    go_enter Try.func42, Try.ntmps42
    go_wp2
    go_ret
    exact ⟨ret_int E.out, Drawn.refl _⟩
theorem tab_is : (⟨(([0, 1, 1, 2, 1, 2, 2, 3, 1, 2, 2, 3, 2, 3, 3, 4, 1, 2, 2, 3, 2, 3, 3, 4, 2, 3, 3, 4, 3, 4, 4, 5, 1, 2, 2, 3, 2, 3, 3, 4, 2, 3, 3, 4, 3, 4, 4, 5, 2, 3, 3, 4, 3, 4, 4, 5, 3, 4, 4, 5, 4, 5, 5, 6].append [1, 2, 2, 3, 2, 3, 3, 4, 2, 3, 3, 4, 3, 4, 4, 5, 2, 3, 3, 4, 3, 4, 4, 5, 3, 4, 4, 5, 4, 5, 5, 6, 2, 3, 3, 4, 3, 4, 4, 5, 3, 4, 4, 5, 4, 5, 5, 6, 3, 4, 4, 5, 4, 5, 5, 6, 4, 5, 5, 6, 5, 6, 6, 7]).append ([1, 2, 2, 3, 2, 3, 3, 4, 2, 3, 3, 4, 3, 4, 4, 5, 2, 3, 3, 4, 3, 4, 4, 5, 3, 4, 4, 5, 4, 5, 5, 6, 2, 3, 3, 4, 3, 4, 4, 5, 3, 4, 4, 5, 4, 5, 5, 6, 3, 4, 4, 5, 4, 5, 5, 6, 4, 5, 5, 6, 5, 6, 6, 7].append [2, 3, 3, 4, 3, 4, 4, 5, 3, 4, 4, 5, 4, 5, 5, 6, 3, 4, 4, 5, 4, 5, 5, 6, 4, 5, 5, 6, 5, 6, 6, 7, 3, 4, 4, 5, 4, 5, 5, 6, 4, 5, 5, 6, 5, 6, 6, 7, 4, 5, 5, 6, 5, 6, 6, 7, 5, 6, 6, 7, 6, 7, 7, 8])).toArray⟩ : ByteArray) = Go.Lib.pop8tab := by kernel_rfl
theorem pop_pc : ∀ k : Nat, k < 256 → Go.Lib.pop8 (k : Int) = (pc k : Int) := by decide +kernel
theorem u32_byte (m s : Nat) (hm : m < 4294967296) : bits .and .u32 ((m / s : Nat) : Int) 255 = ((m / s % 256 : Nat) : Int) := by
  have hd : m / s ≤ m := Nat.div_le_self _ _
  rw [show (255 : Int) = ((255 : Nat) : Int) from rfl, u32_and_nat _ _ (by omega) (by omega)]
  rw [show (255 : Nat) = 2 ^ 8 - 1 from rfl, Nat.and_two_pow_sub_one_eq_mod]
set_option maxRecDepth 100000 in
theorem OnesCount_calls (m : Nat) (w : World) (hm : U32 m) : Calls Try.prog 43 #[.int .u32 m] w (Quiet (.int .i64 ((all m).length : Nat)) w) := by
  unfold U32 at hm
  have e0 : (m : Int) / 16777216 = ((m / 16777216 % 256 : Nat) : Int) := by omega
  have e1 : bits .and .u32 ((m : Int) / 65536) 255 = ((m / 65536 % 256 : Nat) : Int) := by
    rw [← u32_byte m 65536 hm]; rfl
  have e2 : bits .and .u32 ((m : Int) / 256) 255 = ((m / 256 % 256 : Nat) : Int) := by
    rw [← u32_byte m 256 hm]; rfl
  have e3 : bits .and .u32 (m : Int) 255 = ((m % 256 : Nat) : Int) := by
    have := u32_byte m 1 hm
    rwa [Nat.div_one] at this
  have hp := pop_all m
  have ix : ∀ k : Nat, k < 256 → ∀ w, (Instr.index 9 (.string Go.Lib.pop8tab) (.int .u32 (k : Int))).run Try.prog w = .ok (.int .u8 (pc k : Int)) w := fun k hk w => by
    rw [Go.Lib.run_index_pop8tab w _ _ _ Try.underlying9 (by omega) (by omega), pop_pc k hk]
  have i0 := ix (m / 16777216 % 256) (Nat.mod_lt _ (by omega))
  have i1 := ix (m / 65536 % 256) (Nat.mod_lt _ (by omega))
  have i2 := ix (m / 256 % 256) (Nat.mod_lt _ (by omega))
  have i3 := ix (m % 256) (Nat.mod_lt _ (by omega))
  have l0 := pc_le (m / 16777216 % 256)
  have l1 := pc_le (m / 65536 % 256)
  have l2 := pc_le (m / 256 % 256)
  have l3 := pc_le (m % 256)
  generalize m / 16777216 % 256 = A at *
  generalize m / 65536 % 256 = B at *
  generalize m / 256 % 256 = C at *
  generalize m % 256 = D at *
  clear ix
  generalize pc A = pA at *
  generalize pc B = pB at *
  generalize pc C = pC at *
  generalize pc D = pD at *
  have HP := Lib.hid hp
  clear hp
  go_enter Try.func43, Try.ntmps43
  rw [tab_is]
  go_wp2
  go_quiet (fail)
  go_wp2
  go_ret
  exact ⟨ret_int (by rw [HP.out]; omega), ⟨_, rfl⟩⟩
theorem Count_calls (m : Nat) (w : World) (hm : U32 m) : Calls Try.prog 30 #[.int .u32 m] w (Quiet (.int .i64 ((all m).length : Nat)) w) := by
  have k1 := fun w => Lib.hid (OnesCount_calls m w hm)
  generalize (all m).length = n at *
  go_enter Try.func30, Try.ntmps30
  go_wp2_with (go_at_call 43; (with_reducible refine (k1 _).out.mono ?_); rintro e w' ⟨rfl, q, rfl⟩)
  go_ret
  exact ⟨rfl, ⟨_, rfl⟩⟩
theorem Place_calls (m : Nat) (i : Int) (w : World) (hm : U32 m) (hi : I64 i) : Calls Try.prog 26 #[.int .u32 m, .int .i64 i] w (Quiet (.int .i64 (place m i : Nat)) w) := by
  have k1 := fun w => Lib.hid (below_calls i w hi)
  have hb : 2 ^ clamp i - 1 < 4294967296 := by
    have := Nat.pow_le_pow_right (n := 2) (by omega) (clamp_le i)
    omega
  have hm2 : m &&& (2 ^ clamp i - 1) < 4294967296 := Nat.lt_of_le_of_lt Nat.and_le_left hm
  have k2 := fun w => Lib.hid (Count_calls (m &&& (2 ^ clamp i - 1)) w hm2)
  have e := u32_and_nat m (2 ^ clamp i - 1) hm hb
  rw [place_low] at k2
  generalize place m i = n at *
  generalize m &&& (2 ^ clamp i - 1) = x at *
  generalize 2 ^ clamp i - 1 = y at *
  unfold U32 at hm
  go_enter Try.func26, Try.ntmps26
  go_wp2_with (first | (go_at_call 42; (with_reducible refine ((k1 _).out).mono ?_); rintro e w' ⟨rfl, q, rfl⟩) | (go_at_call 30; (with_reducible refine ((k2 _).out).mono ?_); rintro e w' ⟨rfl, q, rfl⟩))
  go_ret
  exact ⟨rfl, ⟨_, rfl⟩⟩
theorem pow_lt (i : Int) (h2 : i < 32) : 2 ^ i.toNat < 4294967296 := by
  have h : 2 ^ i.toNat < 2 ^ 32 := Nat.pow_lt_pow_right (by omega) (by omega)
  exact h
theorem pow_wrap (i : Int) (h2 : i < 32) : ((2 : Int) ^ i.toNat % 4294967296) = ((2 ^ i.toNat : Nat) : Int) := by
  have h := pow_lt i h2
  have e : ((2 : Int) ^ i.toNat) = ((2 ^ i.toNat : Nat) : Int) := by norm_cast
  rw [e]
  generalize 2 ^ i.toNat = x at *
  omega
def with_ (m : Nat) (i : Int) : Nat := if 0 ≤ i ∧ i < 32 then m ||| 2 ^ i.toNat else m
def without (m : Nat) (i : Int) : Nat := if 0 ≤ i ∧ i < 32 then m &&& (4294967295 - 2 ^ i.toNat) else m
theorem With_calls (m : Nat) (i : Int) (w : World) (hm : U32 m) (hi : I64 i) : Calls Try.prog 29 #[.int .u32 m, .int .i64 i] w (Quiet (.int .u32 (with_ m i : Nat)) w) := by
  have k1 := fun w => Lib.hid (inRange_calls i w hi)
  unfold with_
  unfold I64 at hi
  unfold U32 at hm
  by_cases h : 0 ≤ i ∧ i < 32
  · rw [decide_eq_true h] at k1
    rw [if_pos h]
    have e := pow_wrap i h.2
    have e2 := u32_or_nat m (2 ^ i.toNat) hm (pow_lt i h.2)
    generalize m ||| 2 ^ i.toNat = x at *
    rw [← e] at e2
    clear e
    obtain ⟨h1, h2⟩ := h
    go_enter Try.func29, Try.ntmps29
    go_wp2_with (go_at_call 41; (with_reducible refine ((k1 _).out).mono ?_); rintro e w' ⟨rfl, q, rfl⟩)
    go_ret
    exact ⟨rfl, ⟨_, rfl⟩⟩
  · rw [decide_eq_false h] at k1
    rw [if_neg h]
    clear h
    go_enter Try.func29, Try.ntmps29
    go_wp2_with (go_at_call 41; (with_reducible refine ((k1 _).out).mono ?_); rintro e w' ⟨rfl, q, rfl⟩)
    go_ret
    exact ⟨rfl, ⟨_, rfl⟩⟩
theorem Without_calls (m : Nat) (i : Int) (w : World) (hm : U32 m) (hi : I64 i) : Calls Try.prog 32 #[.int .u32 m, .int .i64 i] w (Quiet (.int .u32 (without m i : Nat)) w) := by
  have k1 := fun w => Lib.hid (inRange_calls i w hi)
  unfold without
  unfold I64 at hi
  unfold U32 at hm
  by_cases h : 0 ≤ i ∧ i < 32
  · rw [decide_eq_true h] at k1
    rw [if_pos h]
    have e := pow_wrap i h.2
    have e2 := u32_andNot_nat m (2 ^ i.toNat) hm (pow_lt i h.2)
    generalize m &&& (4294967295 - 2 ^ i.toNat) = x at *
    rw [← e] at e2
    clear e
    obtain ⟨h1, h2⟩ := h
    go_enter Try.func32, Try.ntmps32
    go_wp2_with (go_at_call 41; (with_reducible refine ((k1 _).out).mono ?_); rintro e w' ⟨rfl, q, rfl⟩)
    go_ret
    exact ⟨rfl, ⟨_, rfl⟩⟩
  · rw [decide_eq_false h] at k1
    rw [if_neg h]
    clear h
    go_enter Try.func32, Try.ntmps32
    go_wp2_with (go_at_call 41; (with_reducible refine ((k1 _).out).mono ?_); rintro e w' ⟨rfl, q, rfl⟩)
    go_ret
    exact ⟨rfl, ⟨_, rfl⟩⟩
end Go.Proofs.Ytfdfmhapcjckoaa.Mk
namespace Go.Proofs.Ytfdfmhapcjckoaa.Sim
open Go.RowKit
set_option maxRecDepth 100000
def kz (a : List Int) : List Int := a.filter fun x => decide (x ≠ 0)
def ps (a : List Int) (n : Nat) : List Nat := (List.range n).filter fun i => decide (a.getD i 0 ≠ 0)
def bm (a : List Int) : Nat := Mk.mk ((ps a 32).map Int.ofNat) 32
theorem mem_ps {a : List Int} {n i : Nat} : i ∈ ps a n ↔ i < n ∧ a.getD i 0 ≠ 0 := by simp [ps]
theorem bit_bm (a : List Int) (j : Nat) : (bm a).testBit j = (decide (j < 32) && decide (a.getD j 0 ≠ 0)) := by
  unfold bm
  rw [Mk.mk_bit]
  by_cases h : j < 32
  · have : ((j : Int) ∈ (ps a 32).map Int.ofNat) ↔ a.getD j 0 ≠ 0 := by
      constructor
      · intro hm
        obtain ⟨k, hk, e⟩ := List.mem_map.1 hm
        have : k = j := Int.ofNat.inj e
        subst this
        exact (mem_ps.1 hk).2
      · intro hn
        exact List.mem_map.2 ⟨j, mem_ps.2 ⟨h, hn⟩, rfl⟩
    simp only [decide_eq_true h, Bool.true_and]
    exact decide_eq_decide.2 this
  · simp [h]
theorem bm_lt (a : List Int) : bm a < 4294967296 := Mk.mk_lt _ 32
theorem eq_bm {m : Nat} {a : List Int} (hm : m < 4294967296) (h : ∀ j, j < 32 → m.testBit j = decide (a.getD j 0 ≠ 0)) : m = bm a := by
  apply Nat.eq_of_testBit_eq
  intro j
  rw [bit_bm]
  by_cases hj : j < 32
  · rw [h j hj]; simp [hj]
  · rw [Mk.big m hm j hj]; simp [hj]
theorem up_ps (a : List Int) (n : Nat) (hn : n ≤ 32) : Mk.upTo (bm a) n = ps a n := by
  unfold Mk.upTo ps
  apply List.filter_congr
  intro i hi
  have : i < 32 := by have := List.mem_range.1 hi; omega
  rw [bit_bm]; simp [this]
theorem ps_succ (a : List Int) (n : Nat) : ps a (n + 1) = ps a n ++ if a.getD n 0 ≠ 0 then [n] else [] := by
  unfold ps
  rw [List.range_succ, List.filter_append]
  congr 1
  simp only [List.filter_cons, List.filter_nil]
  by_cases h : a.getD n 0 ≠ 0 <;> simp [h]
theorem kz_succ (a : List Int) (n : Nat) (h : n < a.length) : kz (a.take (n + 1)) = kz (a.take n) ++ if a.getD n 0 ≠ 0 then [a.getD n 0] else [] := by
  unfold kz
  rw [List.take_succ_eq_append_getElem h, List.filter_append]
  congr 1
  have e : a.getD n 0 = a[n] := by simp [h]
  rw [e]
  simp only [List.filter_cons, List.filter_nil]
  by_cases h : a[n] ≠ 0 <;> simp [h]
theorem kz_ps (a : List Int) : ∀ n, n ≤ a.length → (kz (a.take n)).length = (ps a n).length
  | 0, _ => by simp [kz, ps]
  | n + 1, h => by
    rw [kz_succ a n (by omega), ps_succ, List.length_append, List.length_append, kz_ps a n (by omega)]
    split <;> rfl
theorem kz_split (a : List Int) (i : Nat) (h : i < a.length) : kz a = kz (a.take i) ++ ((if a.getD i 0 ≠ 0 then [a.getD i 0] else []) ++ kz (a.drop (i + 1))) := by
  rw [← List.append_assoc, ← kz_succ a i h]
  unfold kz
  rw [← List.filter_append, List.take_append_drop]
theorem kz_set (a : List Int) (i : Nat) (h : i < a.length) (r : Int) : kz (a.set i r) = kz (a.take i) ++ ((if r ≠ 0 then [r] else []) ++ kz (a.drop (i + 1))) := by
  rw [kz_split (a.set i r) i (by simpa using h)]
  have e : (a.set i r).getD i 0 = r := by simp [h]
  rw [e, List.take_set_of_le (Nat.le_refl i), List.drop_set_of_lt (by omega)]
theorem kz_len (a : List Int) : (kz a).length ≤ a.length := List.length_filter_le ..
theorem kz_ne (a : List Int) : ¬ (0 : Int) ∈ kz a := by simp [kz]
theorem all_bm (a : List Int) : Mk.all (bm a) = ps a 32 := up_ps a 32 (Nat.le_refl _)
theorem cnt_bm (a : List Int) (h : a.length = 32) : (kz a).length = (Mk.all (bm a)).length := by
  rw [all_bm, ← kz_ps a 32 (by omega), List.take_of_length_le (by omega)]
theorem up_split (m c : Nat) : ∀ d, ∃ R, Mk.upTo m (c + d) = Mk.upTo m c ++ R ∧ ∀ k ∈ R, c ≤ k
  | 0 => ⟨[], by simp, fun k hk => by cases hk⟩
  | d + 1 => by
    obtain ⟨R, h1, h2⟩ := up_split m c d
    rw [← Nat.add_assoc, Mk.upTo_succ, h1, List.append_assoc]
    refine ⟨_, rfl, fun k hk => ?_⟩
    rcases List.mem_append.1 hk with hk | hk
    · exact h2 k hk
    · split at hk
      · have := List.mem_singleton.1 hk; omega
      · cases hk
theorem place_up (m i : Nat) (hi : i ≤ 32) : Mk.place m (i : Int) = (Mk.upTo m i).length := by
  unfold Mk.place Mk.all
  obtain ⟨R, h1, h2⟩ := up_split m i (32 - i)
  rw [show i + (32 - i) = 32 by omega] at h1
  rw [h1, List.countP_append]
  have e1 : List.countP (fun k : Nat => decide ((k : Int) < (i : Int))) (Mk.upTo m i) = (Mk.upTo m i).length := by
    rw [List.countP_eq_length]
    intro k hk
    have := (Mk.mem_upTo.1 hk).1
    simp; omega
  have e2 : List.countP (fun k : Nat => decide ((k : Int) < (i : Int))) R = 0 := by
    rw [List.countP_eq_zero]
    intro k hk
    have := h2 k hk
    simp; omega
  rw [e1, e2]; rfl
theorem place_bm (a : List Int) (i : Nat) (hl : a.length = 32) (hi : i ≤ 32) : Mk.place (bm a) (i : Int) = (kz (a.take i)).length := by
  rw [place_up _ _ hi, up_ps a i hi, kz_ps a i (by omega)]
theorem kz_at (a : List Int) (i : Nat) (h : i < a.length) (hn : a.getD i 0 ≠ 0) : (kz a)[(kz (a.take i)).length]? = some (a.getD i 0) := by
  rw [kz_split a i h, if_pos hn, List.getElem?_append_right (Nat.le_refl _), Nat.sub_self]; rfl
theorem has_bm (a : List Int) (i : Int) : Mk.has (bm a) i = decide (0 ≤ i ∧ i < 32 ∧ a.getD i.toNat 0 ≠ 0) := by
  unfold Mk.has
  rw [bit_bm]
  by_cases h : 0 ≤ i ∧ i < 32
  · have : i.toNat < 32 := by omega
    simp [h, this]
  · have h' : ¬ (0 ≤ i ∧ i < 32 ∧ a.getD i.toNat 0 ≠ 0) := fun hh => h ⟨hh.1, hh.2.1⟩
    rw [decide_eq_false h, decide_eq_false h']; rfl
theorem set_getD {a : List Int} {i j : Nat} {r : Int} (h : i < a.length) : (a.set i r).getD j 0 = if i = j then r else a.getD j 0 := by
  by_cases e : i = j
  · subst e; simp [h]
  · rw [if_neg e, List.getD_eq_getElem?_getD, List.getElem?_set, if_neg e, ← List.getD_eq_getElem?_getD]
theorem with_bm (a : List Int) (i : Nat) (hl : a.length = 32) (hi : i < 32) (r : Int) (hr : r ≠ 0) : Mk.with_ (bm a) (i : Int) = bm (a.set i r) := by
  unfold Mk.with_
  rw [if_pos ⟨by omega, by omega⟩, Int.toNat_natCast]
  refine eq_bm ?_ fun j hj => ?_
  · have h1 := bm_lt a
    have h2 : 2 ^ i < 2 ^ 32 := Nat.pow_lt_pow_right (by omega) hi
    exact Nat.or_lt_two_pow (n := 32) h1 h2
  · rw [Nat.testBit_or, bit_bm, set_getD (by omega), Nat.testBit_two_pow]
    by_cases e : i = j
    · subst e; simp [hr]
    · simp [e, hj]
theorem not_bit {i j : Nat} (hi : i < 32) (hj : j < 32) : (4294967295 - 2 ^ i).testBit j = decide (i ≠ j) := by
  have h := Nat.testBit_two_pow_sub_succ (n := 32) (x := 2 ^ i) (Nat.pow_lt_pow_right (by omega) hi) j
  have e : 2 ^ 32 - (2 ^ i + 1) = 4294967295 - 2 ^ i := by omega
  rw [e] at h
  rw [h, Nat.testBit_two_pow]
  simp [hj]
theorem without_bm (a : List Int) (i : Nat) (hl : a.length = 32) (hi : i < 32) : Mk.without (bm a) (i : Int) = bm (a.set i 0) := by
  unfold Mk.without
  rw [if_pos ⟨by omega, by omega⟩, Int.toNat_natCast]
  refine eq_bm (Nat.lt_of_le_of_lt Nat.and_le_left (bm_lt a)) fun j hj => ?_
  rw [Nat.testBit_and, bit_bm, set_getD (by omega), not_bit hi hj]
  by_cases e : i = j
  · subst e; simp
  · simp [e, hj]
def arr (m : Nat) (kk : List Int) : List Int := (List.range 32).map fun i => if m.testBit i = true then (kk[(Mk.upTo m i).length]?).getD 0 else 0
theorem arr_len (m : Nat) (kk : List Int) : (arr m kk).length = 32 := by simp [arr]
theorem arr_at {m : Nat} {kk : List Int} {i : Nat} (h : i < 32) : (arr m kk).getD i 0 = if m.testBit i = true then (kk[(Mk.upTo m i).length]?).getD 0 else 0 := by simp [arr, h]
theorem up_lt {m i : Nat} (hb : m.testBit i = true) (hi : i < 32) : (Mk.upTo m i).length < (Mk.all m).length := by
  obtain ⟨R, h1, _⟩ := up_split m (i + 1) (32 - (i + 1))
  rw [show i + 1 + (32 - (i + 1)) = 32 by omega] at h1
  unfold Mk.all
  rw [h1, Mk.upTo_succ, if_pos hb]
  simp
theorem arr_ne {m : Nat} {kk : List Int} (hk : kk.length = (Mk.all m).length) (h0 : ¬ (0 : Int) ∈ kk) {i : Nat} (hi : i < 32) : (arr m kk).getD i 0 ≠ 0 ↔ m.testBit i = true := by
  rw [arr_at hi]
  cases hb : m.testBit i with
  | false => simp
  | true =>
    have hl := up_lt hb hi
    rw [← hk] at hl
    simp only [if_true, List.getElem?_eq_getElem hl, Option.getD_some]
    have : kk[(Mk.upTo m i).length] ≠ 0 := fun e => h0 (by rw [← e]; exact List.getElem_mem hl)
    simp [this]
theorem arr_bm {m : Nat} {kk : List Int} (hm : m < 4294967296) (hk : kk.length = (Mk.all m).length) (h0 : ¬ (0 : Int) ∈ kk) : m = bm (arr m kk) :=
  eq_bm hm fun j hj => by
    have := arr_ne hk h0 hj
    cases hb : m.testBit j with
    | false => rw [hb] at this; simp at this ⊢; simpa using this
    | true => rw [hb] at this; exact (decide_eq_true (this.2 rfl)).symm
theorem arr_kz {m : Nat} {kk : List Int} (hm : m < 4294967296) (hk : kk.length = (Mk.all m).length) (h0 : ¬ (0 : Int) ∈ kk) : kk = kz (arr m kk) := by
  have key : ∀ n, n ≤ 32 → kz ((arr m kk).take n) = kk.take (Mk.upTo m n).length := fun n => by
    induction n with
    | zero => intro _; simp [kz, Mk.upTo]
    | succ n ih =>
      intro hn
      rw [kz_succ _ n (by rw [arr_len]; omega), ih (by omega), Mk.upTo_succ]
      have ha := arr_ne hk h0 (show n < 32 by omega)
      cases hb : m.testBit n with
      | false =>
        rw [hb] at ha
        have ha2 : ¬ (arr m kk).getD n 0 ≠ 0 := fun h => by have := ha.1 h; cases this
        rw [if_neg ha2]; simp
      | true =>
        rw [if_pos (ha.2 hb), arr_at (by omega), if_pos hb]
        have hl := up_lt hb (show n < 32 by omega)
        rw [← hk] at hl
        rw [List.getElem?_eq_getElem hl, Option.getD_some]
        simp only [if_true, List.length_append, List.length_cons, List.length_nil, Nat.zero_add]
        rw [List.take_succ_eq_append_getElem hl]
  have h := key 32 (Nat.le_refl _)
  rw [List.take_of_length_le (by rw [arr_len]; omega)] at h
  rw [h]
  exact (List.take_of_length_le (by unfold Mk.all at hk; omega)).symm
end Go.Proofs.Ytfdfmhapcjckoaa.Sim
namespace Go.Proofs.Ytfdfmhapcjckoaa.Sim
open Go.RowKit
set_option maxRecDepth 100000
section
variable (G : Nat → AV)
def i64 (x : Int) : Prop := -9223372036854775808 ≤ x ∧ x ≤ 9223372036854775807
theorem has25 (m : Nat) (i : Int) (hm : m < 4294967296) (hi : i64 i) : PC Try.prog G 25 [.v (.int .u32 (m : Int)), I i] (Bo (Mk.has m i)) :=
  pc_calls rfl rfl fun w => (Mk.Has_calls m i w hm hi).mono fun e w' h => h.fresh
theorem place26 (m : Nat) (i : Int) (hm : m < 4294967296) (hi : i64 i) : PC Try.prog G 26 [.v (.int .u32 (m : Int)), I i] (I (Mk.place m i : Nat)) :=
  pc_calls rfl rfl fun w => (Mk.Place_calls m i w hm hi).mono fun e w' h => h.fresh
theorem with29 (m : Nat) (i : Int) (hm : m < 4294967296) (hi : i64 i) : PC Try.prog G 29 [.v (.int .u32 (m : Int)), I i] (.v (.int .u32 (Mk.with_ m i : Nat))) :=
  pc_calls rfl rfl fun w => (Mk.With_calls m i w hm hi).mono fun e w' h => h.fresh
theorem without32 (m : Nat) (i : Int) (hm : m < 4294967296) (hi : i64 i) : PC Try.prog G 32 [.v (.int .u32 (m : Int)), I i] (.v (.int .u32 (Mk.without m i : Nat))) :=
  pc_calls rfl rfl fun w => (Mk.Without_calls m i w hm hi).mono fun e w' h => h.fresh
theorem count30 (m : Nat) (hm : m < 4294967296) : PC Try.prog G 30 [.v (.int .u32 (m : Int))] (I ((Mk.all m).length : Nat)) :=
  pc_calls rfl rfl fun w => (Mk.Count_calls m w hm).mono fun e w' h => h.fresh
end
def one : Nat → Int
  | 0 => 1
  | n + 1 => IntKind.u32.wrap (2 * one n)
end Go.Proofs.Ytfdfmhapcjckoaa.Sim
namespace Go.Proofs.Ytfdfmhapcjckoaa.Sim
open Go.RowKit
set_option maxRecDepth 100000
def BareP (ke va : ByteArray) (mp : Int) (kk : List Int) (mn : Int) (ls : List Pr) (b c m l : Bool) : Prop :=
  (b = true → ke = ByteArray.mk #[] ∧ va = ByteArray.mk #[]) ∧ (c = true → mp = 0 ∧ ¬ (0 : Int) < (kk.length : Nat)) ∧ (m = true → mn = 0) ∧ (l = true → ((ls.length : Nat) : Int) = 0)
def FormP (kn : Int) (ke va : ByteArray) (mp : Nat) (kk : List Int) (mn : Int) (ls : List Pr) (sz bi : Int) : Prop :=
  ¬ bi < 0 ∧ (((kn = 1 ∨ kn = 6) ∧ sz = 1 ∧ BareP ke va mp kk mn ls false true true true) ∨ (kn = 2 ∧ ¬ (0 : Int) ∈ kk ∧ ((kk.length : Nat) : Int) = ((upI mp 32).length : Nat) ∧ 0 ≤ sz ∧ BareP ke va mp kk mn ls true false true true) ∨
    (kn = 3 ∧ (2 : Int) ≤ (ls.length : Nat) ∧ Pr7.SLt ls ∧ sz = (ls.length : Nat) ∧ BareP ke va mp kk mn ls true true true false) ∨ (kn = 4 ∧ (mp : Int) = 0 ∧ ((kk.length : Nat) : Int) = 2 ∧ 1 ≤ sz ∧ BareP ke va mp kk mn ls false false true true) ∨
    (kn = 5 ∧ ¬ mn = 0 ∧ sz = 0 ∧ BareP ke va mp kk mn ls true true false true))
theorem tf (p : Prop) : ∃ q : Bool, (q = true ↔ p) := ⟨@decide p (Classical.propDecidable p), by simp⟩
end Go.Proofs.Ytfdfmhapcjckoaa.Sim
