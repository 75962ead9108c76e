/- Bindings: sorted by insertion. -/
import Derived.Test.YtfdfmhapcjckoaaTSimW
import Derived.Test.YtfdfmhapcjckoaaTRairC
namespace Go.Proofs.Ytfdfmhapcjckoaa.Sim.Pr7
open Go.RowKit
set_option maxRecDepth 100000
set_option linter.unusedSimpArgs false
set_option linter.unusedVariables false
abbrev cF : AV := .v (.func (.func 64) #[] #[])
set_option maxHeartbeats 4000000 in
theorem cmp29 (G : Nat → AV) (a b c d : ByteArray) (ha : a.size ≤ 9223372036854775807) (hc : c.size ≤ 9223372036854775807) : PC Try.prog G 64 [.agg [S a, S b], .agg [S c, S d]] (I (cB a c)) := by
  refine pc_of cop64 ?_
  show W _ _ _ _ ⟨_, _⟩; simp only [A64, List.cons_append, List.nil_append, List.length_cons, List.length_nil, Nat.reduceAdd, Nat.reduceSub, List.replicate]
  repeat (first | with_reducible refine w_seq ?_ | with_reducible refine w_reg ?_ | with_reducible refine ws_nil ?_ | with_reducible refine q_then ?_ | with_reducible refine w_ret ?_ | ((first | with_reducible refine ks fun K hK => ?_ | with_reducible refine kd fun K hK => ?_ | with_reducible refine kc fun K hK2 hK hK3 => ?_); simp (disch := omega) only [bg0, bg1, bg2, bg3, bg4, stepO, rsAs, eff, AX.ev, St.put, binA, conc, ap1, ofVal, Int.reduceTMod, Int.reduceTDiv, reduceCtorEq, fillA, AV.cells, AV.fine, AV.one, Nat.reduceAdd, Nat.reduceSub, Nat.reduceMul, Nat.reduceLT, Nat.reduceLeDiff, Int.reduceLT, Int.reduceLE, Int.reduceAdd, Int.reduceSub, Int.reduceNeg, Int.reduceMul, Int.reduceEq, Int.reduceToNat, nilA, moveA, live, loadA, rdA, storeA, wrA, intA, elemA, lenA, appA, srcA, isPtr, isNilPtr, partA, resOf, sliceA, cut, id, ap2, reduceIte, concs, chkB, geB, AOp.cls, AOp.xs, ltB, ltC, Nat.reduceBEq, Option.toList, List.cons_append, decide_eq_true, decide_eq_false, if_pos, if_neg, List.length_map, List.cons_append, bVb, bVn, eq_self, Bool.and_self, BEq.rfl, not_true_eq_false, set_pA, List.length_set]; (first | ((with_reducible refine hK _ ?_); clear hK K) | ((with_reducible refine hK ?_); clear hK hK3 K hK2) | ((with_reducible refine hK3 ?_); clear hK hK3 K hK2))) | ((with_reducible refine kps 57 ?_ ?_ ?_ ?_); rotate_left 1; rfl; exact (by refine cmpP G _ _ ?_ ?_ <;> assumption)) | ((first | with_reducible refine ret_h fun K hK => ?_ | with_reducible refine ret_hh rfl fun K hK => ?_ | with_reducible refine ret_pp fun K hK => ?_); simp (disch := omega) only [bg0, bg1, bg2, bg3, bg4, stepO, rsAs, eff, AX.ev, St.put, binA, conc, ap1, ofVal, Int.reduceTMod, Int.reduceTDiv, reduceCtorEq, fillA, AV.cells, AV.fine, AV.one, Nat.reduceAdd, Nat.reduceSub, Nat.reduceMul, Nat.reduceLT, Nat.reduceLeDiff, Int.reduceLT, Int.reduceLE, Int.reduceAdd, Int.reduceSub, Int.reduceNeg, Int.reduceMul, Int.reduceEq, Int.reduceToNat, nilA, moveA, live, loadA, rdA, storeA, wrA, intA, elemA, lenA, appA, srcA, isPtr, isNilPtr, partA, resOf, sliceA, cut, id, ap2, reduceIte, concs, chkB, geB, AOp.cls, AOp.xs, ltB, ltC, Nat.reduceBEq, Option.toList, List.cons_append, decide_eq_true, decide_eq_false, if_pos, if_neg, List.length_map, List.cons_append, bVb, bVn, eq_self, Bool.and_self, BEq.rfl, not_true_eq_false, set_pA, List.length_set]; (first | ((with_reducible refine hK _ ?_ ?_ ?_ ?_); rotate_left 2; rfl; rfl) | ((with_reducible refine hK _ ?_); rfl))))
theorem cmpC (G : Nat → AV) (H : Hp) {p q : Pr} (ha : p.1.size ≤ 9223372036854775807) (hc : q.1.size ≤ 9223372036854775807) : HC Try.prog G 64 [.agg [S p.1, S p.2], .agg [S q.1, S q.2]] H (I (cB p.1 q.1)) H := hc_pc rfl (cmp29 G _ _ _ _ ha hc) H
theorem pAq {C : List Pr} {k : Nat} {p : Pr} (h : C[k]? = some p) : (C.map pA)[k]? = some (.agg [S p.1, S p.2]) := by rw [List.getElem?_map, h]; rfl
theorem ssort_mem {l : List Pr} {x : Pr} : x ∈ ssort l ↔ x ∈ l := by
  have h1 : x ∈ ssort l ↔ x ∈ fk x.1 (ssort l) := ⟨fun h => mem_fk.2 ⟨h, rfl⟩, fun h => (mem_fk.1 h).1⟩
  have h2 : x ∈ l ↔ x ∈ fk x.1 l := ⟨fun h => mem_fk.2 ⟨h, rfl⟩, fun h => (mem_fk.1 h).1⟩
  rw [h1, h2, ssort_fk]
theorem ins_len {p : Pr} : ∀ {n : List Pr}, (ins p n).length = n.length + 1
  | [] => rfl
  | q :: n => by unfold ins; split <;> simp [ins_len (n := n)]
theorem ssort_len : ∀ {l : List Pr}, (ssort l).length = l.length
  | [] => rfl
  | p :: l => by rw [ssort, ins_len, ssort_len (l := l)]; rfl
/-- What is inserted in the right place is in order. -/
theorem ins_at {S S1 S2 : List Pr} {x : Pr} {L : List Pr} (hS : S1 ++ S2 = ssort L) (h1 : ∀ p ∈ S1, cB p.1 x.1 ≤ 0) (h2 : ∀ q ∈ S2, cB x.1 q.1 < 0) : S1 ++ x :: S2 = ssort (L ++ [x]) := by
  have hle : SLe (S1 ++ S2) := by rw [hS]; exact ssort_le L
  obtain ⟨a1, a2, a3⟩ := List.pairwise_append.1 hle
  refine srt_uniq ?_ (ssort_le _) fun k => ?_
  · refine List.pairwise_append.2 ⟨a1, List.pairwise_cons.2 ⟨fun q hq => by have := h2 q hq; omega, a2⟩, fun p hp q hq => ?_⟩
    rcases List.mem_cons.1 hq with rfl | hq
    · exact h1 p hp
    · exact a3 p hp q hq
  · rw [ssort_fk, fk_append, fk_append, fk_cons, fk_cons, fk_nil, ← ssort_fk L, ← hS, fk_append]
    by_cases hx : x.1 = k
    · have : fk k S2 = [] := fk_none.2 fun q hq e => by
        have := h2 q hq
        rw [e, hx, cB_self] at this
        omega
      simp [hx, this]
    · simp [hx]
theorem at_mid {P S R : List Pr} {x : Pr} {k : Nat} (hk : k = P.length + S.length) : (P ++ (S ++ x :: R))[k]? = some x := by
  subst hk
  rw [List.getElem?_append_right (by omega), List.getElem?_append_right (by omega)]
  simp
theorem at_pre {P S R : List Pr} {x y : Pr} {k : Nat} (hk : k = P.length + S.length) : (P ++ (S ++ [y] ++ x :: R))[k]? = some y := by
  have := at_mid (P := P) (S := S) (x := y) (R := x :: R) hk
  simpa using this
theorem sw_mid {P S R : List Pr} {x y : Pr} {k : Nat} (hk : k = P.length + S.length) : ((P ++ (S ++ [y] ++ x :: R)).set (k + 1) y).set k x = P ++ (S ++ x :: y :: R) := by
  subst hk
  have e : P ++ (S ++ [y] ++ x :: R) = (P ++ S) ++ y :: x :: R := by simp
  have e2 : P ++ (S ++ x :: y :: R) = (P ++ S) ++ x :: y :: R := by simp
  rw [e, e2, show P.length + S.length = (P ++ S).length from (List.length_append).symm, List.set_append_right _ _ (by omega), List.set_append_right _ _ (by omega)]
  simp
def seg (D : List Pr) (a b : Nat) : List Pr := (D.take b).drop a
/-- The row with a part in order. -/
def srt (D : List Pr) (a b : Nat) : List Pr := D.take a ++ (ssort (seg D a b) ++ D.drop b)
theorem srt_one {D : List Pr} {a b : Nat} (h : b ≤ a + 1) (hb : b ≤ D.length) (hab : a ≤ b) : srt D a b = D := by
  have e : ssort (seg D a b) = seg D a b := by
    have : (seg D a b).length ≤ 1 := by simp [seg]; omega
    match h : seg D a b, this with
    | [], _ => rfl
    | [p], _ => rfl
  unfold srt
  rw [e]
  unfold seg
  have h1 : D.take b = D.take a ++ (D.take b).drop a := by
    have := List.take_append_drop a (D.take b)
    rw [List.take_take, Nat.min_eq_left hab] at this
    exact this.symm
  rw [← List.append_assoc, ← h1, List.take_append_drop]
theorem seg_succ {D : List Pr} {a i : Nat} (ha : a ≤ i) (hi : i < D.length) : seg D a (i + 1) = seg D a i ++ [D[i]] := by
  unfold seg
  rw [List.take_add_one, List.getElem?_eq_getElem hi, List.drop_append_of_le_length (by simp; omega)]
  rfl
theorem seg_len {D : List Pr} {a b : Nat} (hb : b ≤ D.length) : (seg D a b).length = b - a := by simp [seg]; omega
theorem seg_mem {D : List Pr} {a b : Nat} {x : Pr} (h : x ∈ seg D a b) : x ∈ D := List.mem_of_mem_take (List.mem_of_mem_drop h)
theorem le_all {S : List Pr} {y : Pr} {x : ByteArray} {R : List Pr} (h : SLe (S ++ [y] ++ R)) (hy : cB y.1 x ≤ 0) : ∀ p ∈ S ++ [y], cB p.1 x ≤ 0 := by
  intro p hp
  have h1 := (List.pairwise_append.1 h).1
  rcases List.mem_append.1 hp with hp | hp
  · have := (List.pairwise_append.1 h1).2.2 p hp y (by simp)
    exact cB_le this hy
  · simp at hp; subst hp; exact hy
theorem last_cases {l : List Pr} : l = [] ∨ ∃ S y, l = S ++ [y] := by
  rcases List.eq_nil_or_concat l with h | ⟨S, y, h⟩
  · exact .inl h
  · exact .inr ⟨S, y, by rw [h, List.concat_eq_append]⟩
set_option maxHeartbeats 8000000 in
theorem ins43 (G : Nat → AV) (D : List Pr) (g a b : Nat) (hN : Okl D) (h1 : a ≤ b) (h2 : b ≤ D.length) :
    HC Try.prog G 67 [.ol 0 g D.length, I a, I b, cF] [rw0 D g] (.tup []) [rw0 (srt D a b) g] := by
  have hlen := hN.len
  refine hc_of cop67 ?_
  show W _ _ _ _ ⟨_, _⟩; simp only [A67, List.cons_append, List.nil_append, List.length_cons, List.length_nil, Nat.reduceAdd, Nat.reduceSub, List.replicate]
  repeat (first | with_reducible refine w_seq ?_ | with_reducible refine w_reg ?_ | with_reducible refine w_block ?_ | with_reducible refine ws_nil ?_ | with_reducible refine q_then ?_ | ((first | with_reducible refine ks fun K hK => ?_ | with_reducible refine kd fun K hK => ?_ | with_reducible refine kc fun K hK2 hK hK3 => ?_); simp (disch := omega) only [bg0, bg1, bg2, bg3, bg4, stepO, rsAs, eff, AX.ev, St.put, binA, conc, ap1, ofVal, Int.reduceTMod, Int.reduceTDiv, reduceCtorEq, fillA, AV.cells, AV.fine, AV.one, Nat.reduceAdd, Nat.reduceSub, Nat.reduceMul, Nat.reduceLT, Nat.reduceLeDiff, Int.reduceLT, Int.reduceLE, Int.reduceAdd, Int.reduceSub, Int.reduceNeg, Int.reduceMul, Int.reduceEq, Int.reduceToNat, nilA, moveA, live, loadA, rdA, storeA, wrA, intA, elemA, lenA, appA, srcA, isPtr, isNilPtr, partA, resOf, sliceA, cut, id, ap2, reduceIte, concs, chkB, geB, AOp.cls, AOp.xs, ltB, ltC, Nat.reduceBEq, Option.toList, List.cons_append, decide_eq_true, decide_eq_false, if_pos, if_neg, List.length_map, List.cons_append, bVb, bVn, eq_self, Bool.and_self, BEq.rfl, not_true_eq_false, set_pA, List.length_set]; (first | ((with_reducible refine hK _ ?_); clear hK K) | ((with_reducible refine hK ?_); clear hK hK3 K hK2) | ((with_reducible refine hK3 ?_); clear hK hK3 K hK2))))
  refine w_loop_m [8, 9, 12, 13, 14, 15, 16, 17, 18, 19, 20, 21, 22, 23, 24, 25, 26, 27, 28, 29, 30, 31, 32, 33, 34, 35, 36, 37, 38, 39, 40, 41, 42, 43, 44, 45, 46, 47, 48, 49, 50, 51, 52] (fun k v H => v 8 = I ((a + 1 + k : Nat) : Int) ∧ H = [rw0 (srt D a (min b (a + 1 + k))) g]) (b - (a + 1)) ⟨rfl, ?_⟩ ?_ ?_
  · rw [srt_one (by omega) (by omega) (by omega)]
  · rintro k v H hk ⟨h8, rfl⟩
    have hi : a + 1 + k < D.length := by omega
    rw [show min b (a + 1 + k) = a + 1 + k by omega]
    obtain ⟨i, hI⟩ : ∃ i, i = a + 1 + k := ⟨_, rfl⟩
    rw [show min b (a + 1 + (k + 1)) = i + 1 by omega]
    rw [← hI] at hi h8 ⊢
    have hd : srt D a i = D.take a ++ (ssort (seg D a i) ++ D[i] :: D.drop (i + 1)) := by
      unfold srt; rw [List.drop_eq_getElem_cons hi]
    have hd2 : srt D a (i + 1) = D.take a ++ (ssort (seg D a i ++ [D[i]]) ++ D.drop (i + 1)) := by
      unfold srt; rw [seg_succ (by omega) hi]
    have hsz : ∀ p ∈ seg D a i, p.1.size ≤ 9223372036854775807 := fun p hp => (hN.sz p (seg_mem hp)).1
    have hx := (hN.sz _ (List.getElem_mem hi)).1
    have hPl : (D.take a).length = a := by simp; omega
    have hLl : (ssort (seg D a i)).length = i - a := by rw [ssort_len, seg_len (by omega)]
    have hN2 : (srt D a i).length = D.length := by rw [hd]; simp [hLl]; omega
    rw [hd, hd2]
    rw [hd] at hN2
    generalize D[i] = x at *
    generalize seg D a i = L at *
    generalize D.take a = P at *
    generalize D.drop (i + 1) = R at *
    simp only [mix, mix_nil, mix_end, mix_skp, Nat.reduceEqDiff, Nat.reduceLeDiff, reduceCtorEq, if_true, if_false, reduceIte, Nat.reduceAdd, h8]
    repeat (first | with_reducible refine w_seq ?_ | with_reducible refine w_reg ?_ | with_reducible refine w_block ?_ | with_reducible refine w_skip ?_ | with_reducible refine ws_nil ?_ | with_reducible refine q_then ?_ | ((first | with_reducible refine ks fun K hK => ?_ | with_reducible refine kd fun K hK => ?_ | with_reducible refine kc fun K hK2 hK hK3 => ?_); simp (disch := omega) only [bg0, bg1, bg2, bg3, bg4, stepO, rsAs, eff, AX.ev, St.put, binA, conc, ap1, ofVal, Int.reduceTMod, Int.reduceTDiv, reduceCtorEq, fillA, AV.cells, AV.fine, AV.one, Nat.reduceAdd, Nat.reduceSub, Nat.reduceMul, Nat.reduceLT, Nat.reduceLeDiff, Int.reduceLT, Int.reduceLE, Int.reduceAdd, Int.reduceSub, Int.reduceNeg, Int.reduceMul, Int.reduceEq, Int.reduceToNat, nilA, moveA, live, loadA, rdA, storeA, wrA, intA, elemA, lenA, appA, srcA, isPtr, isNilPtr, partA, resOf, sliceA, cut, id, ap2, reduceIte, concs, chkB, geB, AOp.cls, AOp.xs, ltB, ltC, Nat.reduceBEq, Option.toList, List.cons_append, decide_eq_true, decide_eq_false, if_pos, if_neg, List.length_map, List.cons_append, bVb, bVn, eq_self, Bool.and_self, BEq.rfl, not_true_eq_false, set_pA, List.length_set]; (first | ((with_reducible refine hK _ ?_); clear hK K) | ((with_reducible refine hK ?_); clear hK hK3 K hK2) | ((with_reducible refine hK3 ?_); clear hK hK3 K hK2))))
    refine w_loop_d [9, 18, 19, 20, 21, 22, 23, 24, 25, 26, 27, 28, 29, 30, 31, 32, 33, 34, 35, 36, 37, 38, 39, 40, 41, 42, 43, 44, 45, 46, 47, 48, 49, 50, 51, 52] (fun u v H => ∃ S1 S2, S1 ++ S2 = ssort L ∧ u = S1.length ∧ v 9 = I ((a + S1.length : Nat) : Int) ∧ H = [rw0 (P ++ (S1 ++ x :: (S2 ++ R))) g] ∧ ∀ q ∈ S2, cB x.1 q.1 < 0) (i - a) ⟨ssort L, [], by simp, hLl.symm, by rw [hLl, show a + (i - a) = i by omega]; rfl, rfl, by simp⟩ ?_
    rintro u v2 H ⟨S1, S2, hS, rfl, h9, rfl, hgt⟩
    have hCl : (P ++ (S1 ++ x :: (S2 ++ R))).length = D.length := by
      rw [← hN2, ← hS]; simp; omega
    have hle : SLe (S1 ++ S2) := by rw [hS]; exact ssort_le L
    rcases last_cases (l := S1) with rfl | ⟨S0, y, rfl⟩
    · have hfin := ins_at (S := S2) hS (fun p hp => by cases hp) hgt
      have hfin2 : P ++ ([] ++ x :: (S2 ++ R)) = P ++ (ssort (L ++ [x]) ++ R) := by rw [← hfin]; simp
      rw [hfin2]
      have e0 : a + ([] : List Pr).length = a := rfl
      rw [e0] at h9
      simp only [mix, mix_nil, mix_end, mix_skp, Nat.reduceEqDiff, Nat.reduceLeDiff, reduceCtorEq, if_true, if_false, reduceIte, Nat.reduceAdd, h9]
      repeat (first | with_reducible refine w_seq ?_ | with_reducible refine w_reg ?_ | with_reducible refine w_draw ?_ | with_reducible refine w_exit ?_ | with_reducible refine ws_nil ?_ | with_reducible refine wd_nil ?_ | with_reducible refine q_then ?_ | with_reducible refine q_then_x ?_ | with_reducible refine q_block_n ?_ | with_reducible refine q_block_x ?_ | ((first | with_reducible refine ks fun K hK => ?_ | with_reducible refine kd fun K hK => ?_ | with_reducible refine kc fun K hK2 hK hK3 => ?_); simp (disch := omega) only [bg0, bg1, bg2, bg3, bg4, stepO, rsAs, eff, AX.ev, St.put, binA, conc, ap1, ofVal, Int.reduceTMod, Int.reduceTDiv, reduceCtorEq, fillA, AV.cells, AV.fine, AV.one, Nat.reduceAdd, Nat.reduceSub, Nat.reduceMul, Nat.reduceLT, Nat.reduceLeDiff, Int.reduceLT, Int.reduceLE, Int.reduceAdd, Int.reduceSub, Int.reduceNeg, Int.reduceMul, Int.reduceEq, Int.reduceToNat, nilA, moveA, live, loadA, rdA, storeA, wrA, intA, elemA, lenA, appA, srcA, isPtr, isNilPtr, partA, resOf, sliceA, cut, id, ap2, reduceIte, concs, chkB, geB, AOp.cls, AOp.xs, ltB, ltC, Nat.reduceBEq, Option.toList, List.cons_append, decide_eq_true, decide_eq_false, if_pos, if_neg, List.length_map, List.cons_append, bVb, bVn, eq_self, Bool.and_self, BEq.rfl, not_true_eq_false, set_pA, List.length_set]; (first | ((with_reducible refine hK _ ?_); clear hK K) | ((with_reducible refine hK ?_); clear hK hK3 K hK2) | ((with_reducible refine hK3 ?_); clear hK hK3 K hK2))) | ((first | ((with_reducible refine kgd_u ?_ ?_ ?_); rotate_left 1; rfl) | ((with_reducible refine kgd_f ?_ ?_ ?_); rotate_left 1; rfl)); rotate_left 1; (focus (simp (disch := omega) only [bg0, bg1, bg2, bg3, bg4, stepO, rsAs, eff, AX.ev, St.put, binA, conc, ap1, ofVal, Int.reduceTMod, Int.reduceTDiv, reduceCtorEq, fillA, AV.cells, AV.fine, AV.one, Nat.reduceAdd, Nat.reduceSub, Nat.reduceMul, Nat.reduceLT, Nat.reduceLeDiff, Int.reduceLT, Int.reduceLE, Int.reduceAdd, Int.reduceSub, Int.reduceNeg, Int.reduceMul, Int.reduceEq, Int.reduceToNat, nilA, moveA, live, loadA, rdA, storeA, wrA, intA, elemA, lenA, appA, srcA, isPtr, isNilPtr, partA, resOf, sliceA, cut, id, ap2, reduceIte, concs, chkB, geB, AOp.cls, AOp.xs, ltB, ltC, Nat.reduceBEq, Option.toList, List.cons_append, decide_eq_true, decide_eq_false, if_pos, if_neg, List.length_map, List.cons_append, bVb, bVn, eq_self, Bool.and_self, BEq.rfl, not_true_eq_false, set_pA, List.length_set]; try rfl))))
      exact ⟨rfl, by simp [at_]; omega, rfl⟩
    · have hj : a + (S0 ++ [y]).length = a + S0.length + 1 := by simp; omega
      rw [hj] at h9
      have q1 := pAq (at_mid (P := P) (S := S0 ++ [y]) (x := x) (R := S2 ++ R) (k := a + S0.length + 1) (by simp [hPl]; omega))
      have q2 := pAq (at_pre (P := P) (S := S0) (x := x) (y := y) (R := S2 ++ R) (k := a + S0.length) (by omega))
      have hsw := sw_mid (P := P) (S := S0) (x := x) (y := y) (R := S2 ++ R) (k := a + S0.length) (by omega)
      have hy : y.1.size ≤ 9223372036854775807 := hsz y (by rw [← ssort_mem, ← hS]; simp)
      have hjl : a + S0.length + 1 < D.length := by rw [← hCl]; simp [hPl]; omega
      have q3 : (((P ++ (S0 ++ [y] ++ x :: (S2 ++ R))).set (a + S0.length + 1) y).map pA)[a + S0.length]? = some (.agg [S y.1, S y.2]) := pAq (by rw [List.getElem?_set_ne (by omega)]; exact at_pre (by omega))
      have e1 : ((a : Int) + (S0.length : Int) + 1).toNat = a + S0.length + 1 := by omega
      have e2 : ((a : Int) + (S0.length : Int)).toNat = a + S0.length := by omega
      have e3 : (a : Int) < (a : Int) + (S0.length : Int) + 1 := by omega
      by_cases hc : cB x.1 y.1 < 0
      · generalize P ++ (S0 ++ [y] ++ x :: (S2 ++ R)) = C at *
        simp only [mix, mix_nil, mix_end, mix_skp, Nat.reduceEqDiff, Nat.reduceLeDiff, reduceCtorEq, if_true, if_false, reduceIte, Nat.reduceAdd, h9]
        repeat (first | with_reducible refine w_seq ?_ | with_reducible refine w_reg ?_ | with_reducible refine w_draw ?_ | (with_reducible refine w_drawx2 ?_ ?_ ?_ ?_; rotate_left 1) | with_reducible exact isSt | with_reducible refine w_block ?_ | with_reducible refine w_skip ?_ | with_reducible refine ws_nil ?_ | with_reducible refine wd_nil ?_ | with_reducible refine q_then ?_ | with_reducible refine q_block_n ?_ | ((with_reducible refine kgd_t ?_ ?_); rfl) | ((first | with_reducible refine ks fun K hK => ?_ | with_reducible refine kd fun K hK => ?_ | with_reducible refine kc fun K hK2 hK hK3 => ?_); simp (disch := omega) only [bg0, bg1, bg2, bg3, bg4, stepO, rsAs, eff, AX.ev, St.put, binA, conc, ap1, ofVal, Int.reduceTMod, Int.reduceTDiv, reduceCtorEq, fillA, AV.cells, AV.fine, AV.one, Nat.reduceAdd, Nat.reduceSub, Nat.reduceMul, Nat.reduceLT, Nat.reduceLeDiff, Int.reduceLT, Int.reduceLE, Int.reduceAdd, Int.reduceSub, Int.reduceNeg, Int.reduceMul, Int.reduceEq, Int.reduceToNat, nilA, moveA, live, loadA, rdA, storeA, wrA, intA, elemA, lenA, appA, srcA, isPtr, isNilPtr, partA, resOf, sliceA, cut, id, ap2, reduceIte, concs, chkB, geB, AOp.cls, AOp.xs, ltB, ltC, Nat.reduceBEq, Option.toList, List.cons_append, decide_eq_true, decide_eq_false, if_pos, if_neg, List.length_map, List.cons_append, bVb, bVn, eq_self, Bool.and_self, BEq.rfl, not_true_eq_false, set_pA, List.length_set, q1, q2, q3, e1, e2, e3, hc]; (first | ((with_reducible refine hK _ ?_); clear hK K) | ((with_reducible refine hK ?_); clear hK hK3 K hK2) | ((with_reducible refine hK3 ?_); clear hK hK3 K hK2))) | ((first | ((with_reducible refine kvd 64 ?_ ?_ ?_ ?_ ?_ ?_ ?_ ?_); rotate_left 3)); (focus (simp (disch := omega) only [bg0, bg1, bg2, bg3, bg4, stepO, rsAs, eff, AX.ev, St.put, binA, conc, ap1, ofVal, Int.reduceTMod, Int.reduceTDiv, reduceCtorEq, fillA, AV.cells, AV.fine, AV.one, Nat.reduceAdd, Nat.reduceSub, Nat.reduceMul, Nat.reduceLT, Nat.reduceLeDiff, Int.reduceLT, Int.reduceLE, Int.reduceAdd, Int.reduceSub, Int.reduceNeg, Int.reduceMul, Int.reduceEq, Int.reduceToNat, nilA, moveA, live, loadA, rdA, storeA, wrA, intA, elemA, lenA, appA, srcA, isPtr, isNilPtr, partA, resOf, sliceA, cut, id, ap2, reduceIte, concs, chkB, geB, AOp.cls, AOp.xs, ltB, ltC, Nat.reduceBEq, Option.toList, List.cons_append, decide_eq_true, decide_eq_false, if_pos, if_neg, List.length_map, List.cons_append, bVb, bVn, eq_self, Bool.and_self, BEq.rfl, not_true_eq_false, set_pA, List.length_set, q1, q2, q3, e1, e2, e3, hc]; try rfl)); (first | (rfl; exact hb64; exact (cmpC G _ hx hy)))))
        refine ⟨rfl, S0.length, by simp, S0, y :: S2, by simpa using hS, rfl, rfl, rw0_eq (by simpa using hsw), fun q hq => ?_⟩
        rcases List.mem_cons.1 hq with rfl | hq
        · exact hc
        · exact hgt q hq
      · have hfin := ins_at (S := S2) hS (le_all hle (by rw [cB_anti x.1 y.1]; omega)) hgt
        have hfin2 : P ++ (S0 ++ [y] ++ x :: (S2 ++ R)) = P ++ (ssort (L ++ [x]) ++ R) := by rw [← hfin]; simp
        rw [hfin2] at q1 q2 q3 ⊢
        simp only [mix, mix_nil, mix_end, mix_skp, Nat.reduceEqDiff, Nat.reduceLeDiff, reduceCtorEq, if_true, if_false, reduceIte, Nat.reduceAdd, h9]
        repeat (first | with_reducible refine w_seq ?_ | with_reducible refine w_reg ?_ | with_reducible refine w_draw ?_ | with_reducible refine w_exit ?_ | with_reducible refine ws_nil ?_ | with_reducible refine wd_nil ?_ | with_reducible refine q_then ?_ | with_reducible refine q_then_x ?_ | with_reducible refine q_block_n ?_ | with_reducible refine q_block_x ?_ | ((with_reducible refine kgd_t ?_ ?_); rfl) | ((first | with_reducible refine ks fun K hK => ?_ | with_reducible refine kd fun K hK => ?_ | with_reducible refine kc fun K hK2 hK hK3 => ?_); simp (disch := omega) only [bg0, bg1, bg2, bg3, bg4, stepO, rsAs, eff, AX.ev, St.put, binA, conc, ap1, ofVal, Int.reduceTMod, Int.reduceTDiv, reduceCtorEq, fillA, AV.cells, AV.fine, AV.one, Nat.reduceAdd, Nat.reduceSub, Nat.reduceMul, Nat.reduceLT, Nat.reduceLeDiff, Int.reduceLT, Int.reduceLE, Int.reduceAdd, Int.reduceSub, Int.reduceNeg, Int.reduceMul, Int.reduceEq, Int.reduceToNat, nilA, moveA, live, loadA, rdA, storeA, wrA, intA, elemA, lenA, appA, srcA, isPtr, isNilPtr, partA, resOf, sliceA, cut, id, ap2, reduceIte, concs, chkB, geB, AOp.cls, AOp.xs, ltB, ltC, Nat.reduceBEq, Option.toList, List.cons_append, decide_eq_true, decide_eq_false, if_pos, if_neg, List.length_map, List.cons_append, bVb, bVn, eq_self, Bool.and_self, BEq.rfl, not_true_eq_false, set_pA, List.length_set, q1, q2, q3, e1, e2, e3, hc]; (first | ((with_reducible refine hK _ ?_); clear hK K) | ((with_reducible refine hK ?_); clear hK hK3 K hK2) | ((with_reducible refine hK3 ?_); clear hK hK3 K hK2))) | ((first | ((with_reducible refine kvd 64 ?_ ?_ ?_ ?_ ?_ ?_ ?_ ?_); rotate_left 3)); (focus (simp (disch := omega) only [bg0, bg1, bg2, bg3, bg4, stepO, rsAs, eff, AX.ev, St.put, binA, conc, ap1, ofVal, Int.reduceTMod, Int.reduceTDiv, reduceCtorEq, fillA, AV.cells, AV.fine, AV.one, Nat.reduceAdd, Nat.reduceSub, Nat.reduceMul, Nat.reduceLT, Nat.reduceLeDiff, Int.reduceLT, Int.reduceLE, Int.reduceAdd, Int.reduceSub, Int.reduceNeg, Int.reduceMul, Int.reduceEq, Int.reduceToNat, nilA, moveA, live, loadA, rdA, storeA, wrA, intA, elemA, lenA, appA, srcA, isPtr, isNilPtr, partA, resOf, sliceA, cut, id, ap2, reduceIte, concs, chkB, geB, AOp.cls, AOp.xs, ltB, ltC, Nat.reduceBEq, Option.toList, List.cons_append, decide_eq_true, decide_eq_false, if_pos, if_neg, List.length_map, List.cons_append, bVb, bVn, eq_self, Bool.and_self, BEq.rfl, not_true_eq_false, set_pA, List.length_set, q1, q2, q3, e1, e2, e3, hc]; try rfl)); (first | (rfl; exact hb64; exact (cmpC G _ hx hy)))))
        exact ⟨rfl, by simp [at_]; omega, rfl⟩
  · rintro v H ⟨h8, rfl⟩
    simp only [mix, mix_nil, mix_end, mix_skp, Nat.reduceEqDiff, Nat.reduceLeDiff, reduceCtorEq, if_true, if_false, reduceIte, Nat.reduceAdd, h8]
    by_cases hab : a = b
    · subst hab
      rw [show min a (a + 1 + (a - (a + 1))) = a by omega]
      repeat (first | with_reducible refine w_seq ?_ | with_reducible refine w_reg ?_ | with_reducible refine w_exit ?_ | with_reducible refine ws_nil ?_ | with_reducible refine q_then ?_ | with_reducible refine q_then_x ?_ | with_reducible refine q_block_x ?_ | ((first | with_reducible refine ks fun K hK => ?_ | with_reducible refine kd fun K hK => ?_ | with_reducible refine kc fun K hK2 hK hK3 => ?_); simp (disch := omega) only [bg0, bg1, bg2, bg3, bg4, stepO, rsAs, eff, AX.ev, St.put, binA, conc, ap1, ofVal, Int.reduceTMod, Int.reduceTDiv, reduceCtorEq, fillA, AV.cells, AV.fine, AV.one, Nat.reduceAdd, Nat.reduceSub, Nat.reduceMul, Nat.reduceLT, Nat.reduceLeDiff, Int.reduceLT, Int.reduceLE, Int.reduceAdd, Int.reduceSub, Int.reduceNeg, Int.reduceMul, Int.reduceEq, Int.reduceToNat, nilA, moveA, live, loadA, rdA, storeA, wrA, intA, elemA, lenA, appA, srcA, isPtr, isNilPtr, partA, resOf, sliceA, cut, id, ap2, reduceIte, concs, chkB, geB, AOp.cls, AOp.xs, ltB, ltC, Nat.reduceBEq, Option.toList, List.cons_append, decide_eq_true, decide_eq_false, if_pos, if_neg, List.length_map, List.cons_append, bVb, bVn, eq_self, Bool.and_self, BEq.rfl, not_true_eq_false, set_pA, List.length_set]; (first | ((with_reducible refine hK _ ?_); clear hK K) | ((with_reducible refine hK ?_); clear hK hK3 K hK2) | ((with_reducible refine hK3 ?_); clear hK hK3 K hK2))) | ((with_reducible refine ret_0 ?_); try rfl))
    · rw [show min b (a + 1 + (b - (a + 1))) = b by omega]
      repeat (first | with_reducible refine w_seq ?_ | with_reducible refine w_reg ?_ | with_reducible refine w_exit ?_ | with_reducible refine ws_nil ?_ | with_reducible refine q_then ?_ | with_reducible refine q_then_x ?_ | with_reducible refine q_block_x ?_ | ((first | with_reducible refine ks fun K hK => ?_ | with_reducible refine kd fun K hK => ?_ | with_reducible refine kc fun K hK2 hK hK3 => ?_); simp (disch := omega) only [bg0, bg1, bg2, bg3, bg4, stepO, rsAs, eff, AX.ev, St.put, binA, conc, ap1, ofVal, Int.reduceTMod, Int.reduceTDiv, reduceCtorEq, fillA, AV.cells, AV.fine, AV.one, Nat.reduceAdd, Nat.reduceSub, Nat.reduceMul, Nat.reduceLT, Nat.reduceLeDiff, Int.reduceLT, Int.reduceLE, Int.reduceAdd, Int.reduceSub, Int.reduceNeg, Int.reduceMul, Int.reduceEq, Int.reduceToNat, nilA, moveA, live, loadA, rdA, storeA, wrA, intA, elemA, lenA, appA, srcA, isPtr, isNilPtr, partA, resOf, sliceA, cut, id, ap2, reduceIte, concs, chkB, geB, AOp.cls, AOp.xs, ltB, ltC, Nat.reduceBEq, Option.toList, List.cons_append, decide_eq_true, decide_eq_false, if_pos, if_neg, List.length_map, List.cons_append, bVb, bVn, eq_self, Bool.and_self, BEq.rfl, not_true_eq_false, set_pA, List.length_set]; (first | ((with_reducible refine hK _ ?_); clear hK K) | ((with_reducible refine hK ?_); clear hK hK3 K hK2) | ((with_reducible refine hK3 ?_); clear hK hK3 K hK2))) | ((with_reducible refine ret_0 ?_); try rfl))
end Go.Proofs.Ytfdfmhapcjckoaa.Sim.Pr7
