/- Bindings: swapped and rotated parts of a row. -/
import Derived.Test.YtfdfmhapcjckoaaTSimW
import Derived.Test.YtfdfmhapcjckoaaTRairB
namespace Go.Proofs.Ytfdfmhapcjckoaa.Sim.Pr7
open Go.RowKit
set_option maxRecDepth 100000
set_option linter.unusedSimpArgs false
set_option linter.unusedVariables false
theorem set_pA {C : List Pr} {p : Nat} {x : Pr} : (C.map pA).set p (.agg [S x.1, S x.2]) = (C.set p x).map pA := by
  rw [List.map_set]; rfl
/-- A list by another order of its places. -/
def px (D : List Pr) (f : Nat → Nat) : List Pr := (List.range D.length).map fun x => D.getD (f x) default
theorem px_len {D : List Pr} {f : Nat → Nat} : (px D f).length = D.length := by simp [px]
theorem px_at {D : List Pr} {f : Nat → Nat} {x : Nat} : (px D f)[x]? = if x < D.length then some (D.getD (f x) default) else none := by
  unfold px
  rw [List.getElem?_map]
  by_cases h : x < D.length
  · rw [List.getElem?_range h, if_pos h]; rfl
  · rw [if_neg h, List.getElem?_eq_none (by simpa using h)]; rfl
theorem px_get {D : List Pr} {f : Nat → Nat} {x : Nat} (h : x < (px D f).length) : (px D f)[x] = D.getD (f x) default := by
  have h2 : x < D.length := by rwa [px_len] at h
  have := px_at (D := D) (f := f) (x := x)
  rw [if_pos h2, List.getElem?_eq_getElem h] at this
  exact Option.some.inj this
theorem px_congr {D : List Pr} {f g : Nat → Nat} (h : ∀ x, x < D.length → f x = g x) : px D f = px D g := by
  apply List.ext_getElem?
  intro x
  rw [px_at, px_at]
  by_cases hx : x < D.length
  · rw [if_pos hx, if_pos hx, h x hx]
  · rw [if_neg hx, if_neg hx]
theorem px_id {D : List Pr} : px D (fun x => x) = D := by
  apply List.ext_getElem?
  intro x
  rw [px_at]
  by_cases hx : x < D.length
  · rw [if_pos hx, List.getD_eq_getElem?_getD, List.getElem?_eq_getElem hx]; rfl
  · rw [if_neg hx, List.getElem?_eq_none (by omega)]
theorem px_px {D : List Pr} {f g : Nat → Nat} (h : ∀ x, x < D.length → g x < D.length) : px (px D f) g = px D (fun x => f (g x)) := by
  apply List.ext_getElem?
  intro x
  rw [px_at, px_at, px_len]
  by_cases hx : x < D.length
  · rw [if_pos hx, if_pos hx, List.getD_eq_getElem?_getD, px_at, if_pos (h x hx)]; rfl
  · rw [if_neg hx, if_neg hx]
theorem px_set {D : List Pr} {f : Nat → Nat} {p q : Nat} (hp : p < (px D f).length) (hq : q < (px D f).length) :
    ((px D f).set p (px D f)[q]).set q (px D f)[p] = px D (fun x => if x = q then f p else if x = p then f q else f x) := by
  apply List.ext_getElem?
  intro x
  rw [List.getElem?_set, List.getElem?_set, px_at, px_at, px_get hp, px_get hq]
  simp only [List.length_set, px_len] at *
  by_cases h1 : q = x
  · subst h1; simp [hq]
  · by_cases h2 : p = x
    · subst h2; simp [hp, h1, Ne.symm h1]
    · simp [h1, h2, Ne.symm h1, Ne.symm h2]
def swf (a b n x : Nat) : Nat := if a ≤ x ∧ x < a + n then b + (x - a) else if b ≤ x ∧ x < b + n then a + (x - b) else x
abbrev rw0 (D : List Pr) (g : Nat) : OB := ⟨62, 2, D.map pA, g, 0⟩
theorem rw0_eq {D E : List Pr} {g : Nat} (h : D = E) : [rw0 D g] = [rw0 E g] := by rw [h]
set_option maxHeartbeats 4000000 in
theorem swp46 (G : Nat → AV) (D : List Pr) (g a b n : Nat) (hN : D.length ≤ 1000000) (h1 : a + n ≤ b) (h2 : b + n ≤ D.length) (cf : AV) :
    HC Try.prog G 70 [.ol 0 g D.length, I a, I b, I n, cf] [rw0 D g] (.tup []) [rw0 (px D (swf a b n)) g] := by
  refine hc_of cop70 ?_
  show W _ _ _ _ ⟨_, _⟩; simp only [A70, List.cons_append, List.nil_append, List.length_cons, List.length_nil, Nat.reduceAdd, Nat.reduceSub, List.replicate]
  repeat (first | with_reducible refine w_seq ?_ | with_reducible refine w_reg ?_ | with_reducible refine w_block ?_ | with_reducible refine ws_nil ?_ | with_reducible refine q_then ?_ | ((first | with_reducible refine ks fun K hK => ?_ | with_reducible refine kd fun K hK => ?_ | with_reducible refine kc fun K hK2 hK hK3 => ?_); simp (disch := omega) only [bg0, bg1, bg2, bg3, bg4, stepO, rsAs, eff, AX.ev, St.put, binA, conc, ap1, ofVal, Int.reduceTMod, Int.reduceTDiv, reduceCtorEq, fillA, AV.cells, AV.fine, AV.one, Nat.reduceAdd, Nat.reduceSub, Nat.reduceMul, Nat.reduceLT, Nat.reduceLeDiff, Int.reduceLT, Int.reduceLE, Int.reduceAdd, Int.reduceSub, Int.reduceNeg, Int.reduceMul, Int.reduceEq, Int.reduceToNat, nilA, moveA, live, loadA, rdA, storeA, wrA, intA, elemA, lenA, appA, srcA, isPtr, isNilPtr, partA, resOf, sliceA, cut, id, ap2, reduceIte, concs, chkB, geB, AOp.cls, AOp.xs, ltB, ltC, Nat.reduceBEq, Option.toList, List.cons_append, decide_eq_true, decide_eq_false, if_pos, if_neg, List.length_map, pA_at, List.cons_append, bVb, bVn, eq_self, Bool.and_self, BEq.rfl, not_true_eq_false, set_pA, List.length_set]; (first | ((with_reducible refine hK _ ?_); clear hK K) | ((with_reducible refine hK ?_); clear hK hK3 K hK2) | ((with_reducible refine hK3 ?_); clear hK hK3 K hK2))))
  refine w_loop_m [10, 11, 12, 13, 14, 15, 16, 17, 18, 19, 20, 21, 22, 23, 24, 25, 26, 27, 28, 29, 30, 31, 32, 33, 34, 35, 36, 37] (fun k v H => v 10 = I k ∧ H = [rw0 (px D (swf a b k)) g]) n ⟨rfl, ?_⟩ ?_ ?_
  · refine rw0_eq ?_
    have e : px D (swf a b 0) = px D (fun x => x) := px_congr fun x _ => by
      simp only [swf]
      repeat' split
      all_goals omega
    rw [e, px_id]
  · rintro k v H hk ⟨h10, rfl⟩
    have hl : (px D (swf a b k)).length = D.length := px_len
    have hp : a + k < (px D (swf a b k)).length := by omega
    have hq : b + k < (px D (swf a b k)).length := by omega
    have hs := px_set hp hq
    generalize px D (swf a b k) = C at hl hp hq hs
    have q1 := pA_at (l := C.set (a + k) C[b + k]) (k := b + k) (by simp; omega)
    have e1 : ((a : Int) + (k : Int)).toNat = a + k := by omega
    have e2 : ((b : Int) + (k : Int)).toNat = b + k := by omega
    simp only [mix, mix_nil, mix_end, mix_skp, Nat.reduceEqDiff, Nat.reduceLeDiff, reduceCtorEq, if_true, if_false, reduceIte, Nat.reduceAdd, h10]
    repeat (first | with_reducible refine w_seq ?_ | with_reducible refine w_reg ?_ | (with_reducible refine w_drawx2 ?_ ?_ ?_ ?_; rotate_left 1) | with_reducible exact isSt | with_reducible refine w_block ?_ | with_reducible refine w_skip ?_ | with_reducible refine ws_nil ?_ | with_reducible refine wd_nil ?_ | with_reducible refine q_then ?_ | with_reducible refine q_block_n ?_ | ((first | with_reducible refine ks fun K hK => ?_ | with_reducible refine kd fun K hK => ?_ | with_reducible refine kc fun K hK2 hK hK3 => ?_); simp (disch := omega) only [bg0, bg1, bg2, bg3, bg4, stepO, rsAs, eff, AX.ev, St.put, binA, conc, ap1, ofVal, Int.reduceTMod, Int.reduceTDiv, reduceCtorEq, fillA, AV.cells, AV.fine, AV.one, Nat.reduceAdd, Nat.reduceSub, Nat.reduceMul, Nat.reduceLT, Nat.reduceLeDiff, Int.reduceLT, Int.reduceLE, Int.reduceAdd, Int.reduceSub, Int.reduceNeg, Int.reduceMul, Int.reduceEq, Int.reduceToNat, nilA, moveA, live, loadA, rdA, storeA, wrA, intA, elemA, lenA, appA, srcA, isPtr, isNilPtr, partA, resOf, sliceA, cut, id, ap2, reduceIte, concs, chkB, geB, AOp.cls, AOp.xs, ltB, ltC, Nat.reduceBEq, Option.toList, List.cons_append, decide_eq_true, decide_eq_false, if_pos, if_neg, List.length_map, pA_at, List.cons_append, bVb, bVn, eq_self, Bool.and_self, BEq.rfl, not_true_eq_false, set_pA, List.length_set, e1, e2, q1]; (first | ((with_reducible refine hK _ ?_); clear hK K) | ((with_reducible refine hK ?_); clear hK hK3 K hK2) | ((with_reducible refine hK3 ?_); clear hK hK3 K hK2))))
    refine ⟨rfl, rfl, rw0_eq (hs.trans (px_congr fun x hx => ?_))⟩
    simp only [swf]
    repeat' split
    all_goals omega
  · rintro v H ⟨h10, rfl⟩
    simp only [mix, mix_nil, mix_end, mix_skp, Nat.reduceEqDiff, Nat.reduceLeDiff, reduceCtorEq, if_true, if_false, reduceIte, Nat.reduceAdd, h10]
    repeat (first | with_reducible refine w_seq ?_ | with_reducible refine w_reg ?_ | with_reducible refine w_exit ?_ | with_reducible refine ws_nil ?_ | with_reducible refine q_then ?_ | with_reducible refine q_then_x ?_ | with_reducible refine q_block_x ?_ | ((first | with_reducible refine ks fun K hK => ?_ | with_reducible refine kd fun K hK => ?_ | with_reducible refine kc fun K hK2 hK hK3 => ?_); simp (disch := omega) only [bg0, bg1, bg2, bg3, bg4, stepO, rsAs, eff, AX.ev, St.put, binA, conc, ap1, ofVal, Int.reduceTMod, Int.reduceTDiv, reduceCtorEq, fillA, AV.cells, AV.fine, AV.one, Nat.reduceAdd, Nat.reduceSub, Nat.reduceMul, Nat.reduceLT, Nat.reduceLeDiff, Int.reduceLT, Int.reduceLE, Int.reduceAdd, Int.reduceSub, Int.reduceNeg, Int.reduceMul, Int.reduceEq, Int.reduceToNat, nilA, moveA, live, loadA, rdA, storeA, wrA, intA, elemA, lenA, appA, srcA, isPtr, isNilPtr, partA, resOf, sliceA, cut, id, ap2, reduceIte, concs, chkB, geB, AOp.cls, AOp.xs, ltB, ltC, Nat.reduceBEq, Option.toList, List.cons_append, decide_eq_true, decide_eq_false, if_pos, if_neg, List.length_map, pA_at, List.cons_append, bVb, bVn, eq_self, Bool.and_self, BEq.rfl, not_true_eq_false, set_pA, List.length_set]; (first | ((with_reducible refine hK _ ?_); clear hK K) | ((with_reducible refine hK ?_); clear hK hK3 K hK2) | ((with_reducible refine hK3 ?_); clear hK hK3 K hK2))) | ((with_reducible refine ret_0 ?_); try rfl))
def rtf (a m b x : Nat) : Nat := if a ≤ x ∧ x < a + (b - m) then m + (x - a) else if a + (b - m) ≤ x ∧ x < b then x - (b - m) else x
theorem rtf_lt {a m b x N : Nat} (h1 : a ≤ m) (h2 : m ≤ b) (h3 : b ≤ N) (hx : x < N) : rtf a m b x < N := by
  unfold rtf; repeat' split
  all_goals omega
theorem rt_gt {C : List Pr} {m i j : Nat} (hij : j < i) (hj : 0 < j) (hi : i ≤ m) (hb : m + j ≤ C.length) : px (px C (swf (m - i) m j)) (rtf (m - (i - j)) m (m + j)) = px C (rtf (m - i) m (m + j)) := by
  rw [px_px fun x hx => rtf_lt (by omega) (by omega) hb hx]
  refine px_congr fun x hx => ?_
  simp only [swf, rtf]
  repeat' split
  all_goals omega
theorem rt_lt {C : List Pr} {m i j : Nat} (hij : i < j) (hi0 : 0 < i) (hi : i ≤ m) (hb : m + j ≤ C.length) : px (px C (swf (m - i) (m + j - i) i)) (rtf (m - i) m (m + (j - i))) = px C (rtf (m - i) m (m + j)) := by
  rw [px_px fun x hx => rtf_lt (by omega) (by omega) (by omega) hx]
  refine px_congr fun x hx => ?_
  simp only [swf, rtf]
  repeat' split
  all_goals omega
theorem rt_eq {C : List Pr} {m i : Nat} (hi : i ≤ m) (hb : m + i ≤ C.length) : px C (swf (m - i) m i) = px C (rtf (m - i) m (m + i)) := by
  refine px_congr fun x hx => ?_
  simp only [swf, rtf]
  repeat' split
  all_goals omega
set_option maxHeartbeats 4000000 in
theorem rot45 (G : Nat → AV) (D : List Pr) (g a m b : Nat) (hN : D.length ≤ 1000000) (h1 : a < m) (h2 : m < b) (h3 : b ≤ D.length) (cf : AV) :
    HC Try.prog G 69 [.ol 0 g D.length, I a, I m, I b, cf] [rw0 D g] (.tup []) [rw0 (px D (rtf a m b)) g] := by
  refine hc_of cop69 ?_
  show W _ _ _ _ ⟨_, _⟩; simp only [A69, List.cons_append, List.nil_append, List.length_cons, List.length_nil, Nat.reduceAdd, Nat.reduceSub, List.replicate]
  repeat (first | with_reducible refine w_seq ?_ | with_reducible refine w_reg ?_ | with_reducible refine w_block ?_ | with_reducible refine ws_nil ?_ | with_reducible refine q_then ?_ | ((first | with_reducible refine ks fun K hK => ?_ | with_reducible refine kd fun K hK => ?_ | with_reducible refine kc fun K hK2 hK hK3 => ?_); simp (disch := omega) only [bg0, bg1, bg2, bg3, bg4, stepO, rsAs, eff, AX.ev, St.put, binA, conc, ap1, ofVal, Int.reduceTMod, Int.reduceTDiv, reduceCtorEq, fillA, AV.cells, AV.fine, AV.one, Nat.reduceAdd, Nat.reduceSub, Nat.reduceMul, Nat.reduceLT, Nat.reduceLeDiff, Int.reduceLT, Int.reduceLE, Int.reduceAdd, Int.reduceSub, Int.reduceNeg, Int.reduceMul, Int.reduceEq, Int.reduceToNat, nilA, moveA, live, loadA, rdA, storeA, wrA, intA, elemA, lenA, appA, srcA, isPtr, isNilPtr, partA, resOf, sliceA, cut, id, ap2, reduceIte, concs, chkB, geB, AOp.cls, AOp.xs, ltB, ltC, Nat.reduceBEq, Option.toList, List.cons_append, decide_eq_true, decide_eq_false, if_pos, if_neg, List.length_map, pA_at, List.cons_append, bVb, bVn, eq_self, Bool.and_self, BEq.rfl, not_true_eq_false, set_pA, List.length_set]; (first | ((with_reducible refine hK _ ?_); clear hK K) | ((with_reducible refine hK ?_); clear hK hK3 K hK2) | ((with_reducible refine hK3 ?_); clear hK hK3 K hK2))))
  refine w_loop_d [10, 11, 18, 19, 20, 21, 22, 23, 24, 25, 26, 27, 28, 29, 30, 31, 32, 33, 34, 35, 36, 37, 38, 39, 40, 41, 42, 43, 44, 45, 46, 47, 48, 49] (fun u v H => ∃ (i j : Nat) (C : List Pr), u = i + j ∧ v 10 = I i ∧ v 11 = I j ∧ H = [rw0 C g] ∧ C.length = D.length ∧ 0 < i ∧ 0 < j ∧ i ≤ m - a ∧ j ≤ b - m ∧ px C (rtf (m - i) m (m + j)) = px D (rtf a m b)) (b - a) ⟨m - a, b - m, D, by omega, by simp [at_]; omega, by simp [at_]; omega, rfl, rfl, by omega, by omega, by omega, by omega, by rw [show m - (m - a) = a by omega, show m + (b - m) = b by omega]⟩ ?_
  rintro u v H ⟨i, j, C, rfl, h10, h11, rfl, hl, hi, hj, hi2, hj2, hpx⟩
  simp only [mix, mix_nil, mix_end, mix_skp, Nat.reduceEqDiff, Nat.reduceLeDiff, reduceCtorEq, if_true, if_false, reduceIte, Nat.reduceAdd, h10, h11]
  have e1 : (m : Int) - (i : Int) = ((m - i : Nat) : Int) := by omega
  by_cases hij : i = j
  · subst hij
    rw [← hpx, ← rt_eq (by omega) (by omega), ← hl]
    repeat (first | with_reducible refine w_seq ?_ | with_reducible refine w_reg ?_ | with_reducible refine w_exit ?_ | with_reducible refine ws_nil ?_ | with_reducible refine q_then ?_ | with_reducible refine q_then_x ?_ | with_reducible refine q_block_x ?_ | ((first | with_reducible refine ks fun K hK => ?_ | with_reducible refine kd fun K hK => ?_ | with_reducible refine kc fun K hK2 hK hK3 => ?_); simp (disch := omega) only [bg0, bg1, bg2, bg3, bg4, stepO, rsAs, eff, AX.ev, St.put, binA, conc, ap1, ofVal, Int.reduceTMod, Int.reduceTDiv, reduceCtorEq, fillA, AV.cells, AV.fine, AV.one, Nat.reduceAdd, Nat.reduceSub, Nat.reduceMul, Nat.reduceLT, Nat.reduceLeDiff, Int.reduceLT, Int.reduceLE, Int.reduceAdd, Int.reduceSub, Int.reduceNeg, Int.reduceMul, Int.reduceEq, Int.reduceToNat, nilA, moveA, live, loadA, rdA, storeA, wrA, intA, elemA, lenA, appA, srcA, isPtr, isNilPtr, partA, resOf, sliceA, cut, id, ap2, reduceIte, concs, chkB, geB, AOp.cls, AOp.xs, ltB, ltC, Nat.reduceBEq, Option.toList, List.cons_append, decide_eq_true, decide_eq_false, if_pos, if_neg, List.length_map, pA_at, List.cons_append, bVb, bVn, eq_self, Bool.and_self, BEq.rfl, not_true_eq_false, set_pA, List.length_set, e1]; (first | ((with_reducible refine hK _ ?_); clear hK K) | ((with_reducible refine hK ?_); clear hK hK3 K hK2) | ((with_reducible refine hK3 ?_); clear hK hK3 K hK2))) | ((with_reducible refine khs 70 ?_ ?_ ?_ ?_); rotate_left 2; exact (swp46 G C g (m - i) m i (by omega) (by omega) (by omega) cf)) | ((with_reducible refine ret_0 ?_); try rfl))
  · by_cases hgt : j < i
    · have hn : ¬ ((i : Int) = (j : Int)) := by omega
      have hg : (j : Int) < (i : Int) := by omega
      have e2 : (i : Int) - (j : Int) = ((i - j : Nat) : Int) := by omega
      rw [← hl]
      repeat (first | with_reducible refine w_seq ?_ | with_reducible refine w_reg ?_ | with_reducible refine w_block ?_ | with_reducible refine w_skip ?_ | with_reducible refine ws_nil ?_ | with_reducible refine q_then ?_ | with_reducible refine q_block_n ?_ | ((first | with_reducible refine ks fun K hK => ?_ | with_reducible refine kd fun K hK => ?_ | with_reducible refine kc fun K hK2 hK hK3 => ?_); simp (disch := omega) only [bg0, bg1, bg2, bg3, bg4, stepO, rsAs, eff, AX.ev, St.put, binA, conc, ap1, ofVal, Int.reduceTMod, Int.reduceTDiv, reduceCtorEq, fillA, AV.cells, AV.fine, AV.one, Nat.reduceAdd, Nat.reduceSub, Nat.reduceMul, Nat.reduceLT, Nat.reduceLeDiff, Int.reduceLT, Int.reduceLE, Int.reduceAdd, Int.reduceSub, Int.reduceNeg, Int.reduceMul, Int.reduceEq, Int.reduceToNat, nilA, moveA, live, loadA, rdA, storeA, wrA, intA, elemA, lenA, appA, srcA, isPtr, isNilPtr, partA, resOf, sliceA, cut, id, ap2, reduceIte, concs, chkB, geB, AOp.cls, AOp.xs, ltB, ltC, Nat.reduceBEq, Option.toList, List.cons_append, decide_eq_true, decide_eq_false, if_pos, if_neg, List.length_map, pA_at, List.cons_append, bVb, bVn, eq_self, Bool.and_self, BEq.rfl, not_true_eq_false, set_pA, List.length_set, e1, e2, hn, hg]; (first | ((with_reducible refine hK _ ?_); clear hK K) | ((with_reducible refine hK ?_); clear hK hK3 K hK2) | ((with_reducible refine hK3 ?_); clear hK hK3 K hK2))) | ((with_reducible refine khs 70 ?_ ?_ ?_ ?_); rotate_left 2; exact (swp46 G C g (m - i) m j (by omega) (by omega) (by omega) cf)))
      exact ⟨rfl, i, by omega, i - j, j, _, by omega, rfl, rfl, rfl, by rw [px_len, hl], by omega, hj, by omega, hj2, by rw [rt_gt hgt hj (by omega) (by omega)]; exact hpx⟩
    · have hn : ¬ ((i : Int) = (j : Int)) := by omega
      have hg : ¬ (j : Int) < (i : Int) := by omega
      have e2 : (j : Int) - (i : Int) = ((j - i : Nat) : Int) := by omega
      have e3 : (m : Int) + (j : Int) - (i : Int) = ((m + j - i : Nat) : Int) := by omega
      rw [← hl]
      repeat (first | with_reducible refine w_seq ?_ | with_reducible refine w_reg ?_ | with_reducible refine w_block ?_ | with_reducible refine w_skip ?_ | with_reducible refine ws_nil ?_ | with_reducible refine q_then ?_ | with_reducible refine q_block_n ?_ | ((first | with_reducible refine ks fun K hK => ?_ | with_reducible refine kd fun K hK => ?_ | with_reducible refine kc fun K hK2 hK hK3 => ?_); simp (disch := omega) only [bg0, bg1, bg2, bg3, bg4, stepO, rsAs, eff, AX.ev, St.put, binA, conc, ap1, ofVal, Int.reduceTMod, Int.reduceTDiv, reduceCtorEq, fillA, AV.cells, AV.fine, AV.one, Nat.reduceAdd, Nat.reduceSub, Nat.reduceMul, Nat.reduceLT, Nat.reduceLeDiff, Int.reduceLT, Int.reduceLE, Int.reduceAdd, Int.reduceSub, Int.reduceNeg, Int.reduceMul, Int.reduceEq, Int.reduceToNat, nilA, moveA, live, loadA, rdA, storeA, wrA, intA, elemA, lenA, appA, srcA, isPtr, isNilPtr, partA, resOf, sliceA, cut, id, ap2, reduceIte, concs, chkB, geB, AOp.cls, AOp.xs, ltB, ltC, Nat.reduceBEq, Option.toList, List.cons_append, decide_eq_true, decide_eq_false, if_pos, if_neg, List.length_map, pA_at, List.cons_append, bVb, bVn, eq_self, Bool.and_self, BEq.rfl, not_true_eq_false, set_pA, List.length_set, e1, e2, e3, hn, hg]; (first | ((with_reducible refine hK _ ?_); clear hK K) | ((with_reducible refine hK ?_); clear hK hK3 K hK2) | ((with_reducible refine hK3 ?_); clear hK hK3 K hK2))) | ((with_reducible refine khs 70 ?_ ?_ ?_ ?_); rotate_left 2; exact (swp46 G C g (m - i) (m + j - i) i (by omega) (by omega) (by omega) cf)))
      exact ⟨rfl, j, by omega, i, j - i, _, by omega, rfl, rfl, rfl, by rw [px_len, hl], hi, by omega, hi2, by omega, by rw [rt_lt (by omega) hi (by omega) (by omega)]; exact hpx⟩
end Go.Proofs.Ytfdfmhapcjckoaa.Sim.Pr7
