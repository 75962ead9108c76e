/- Bindings: two parts in order are merged, by the program. -/
import Derived.Test.YtfdfmhapcjckoaaTSimW
import Derived.Test.YtfdfmhapcjckoaaTRairE
import Derived.Test.YtfdfmhapcjckoaaTSimU
namespace Go.Proofs.Ytfdfmhapcjckoaa.Sim.Pr7
open Go.RowKit
set_option maxRecDepth 100000
set_option linter.unusedSimpArgs false
set_option linter.unusedVariables false
theorem sw_fwd {P S R : List Pr} {x y : Pr} {k : Nat} (hk : k = P.length + S.length) : ((P ++ (S ++ x :: y :: R)).set k y).set (k + 1) x = P ++ (S ++ [y] ++ x :: R) := by
  subst hk
  have e : P ++ (S ++ x :: y :: R) = (P ++ S) ++ x :: y :: R := by simp
  have e2 : P ++ (S ++ [y] ++ x :: R) = (P ++ S) ++ y :: x :: R := by simp
  rw [e, e2, show P.length + S.length = (P ++ S).length from (List.length_append).symm, List.set_append_right _ _ (by omega), List.set_append_right _ _ (by omega)]
  simp
theorem at_nx {P S R : List Pr} {x y : Pr} {k : Nat} (hk : k = P.length + S.length) : (P ++ (S ++ x :: y :: R))[k + 1]? = some y := by
  have := at_mid (P := P) (S := S ++ [x]) (x := y) (R := R) (k := k + 1) (by simp; omega)
  simpa using this
theorem gdA {P A R : List Pr} {k : Nat} (h1 : P.length ≤ k) (h2 : k < P.length + A.length) : (P ++ (A ++ R))[k]? = some (A[k - P.length]'(by omega)) := by
  rw [List.getElem?_append_right h1, List.getElem?_append_left (by omega), List.getElem?_eq_getElem]
set_option maxHeartbeats 8000000 in
/-- One binding, and a list in order behind it. -/
theorem symL (G : Nat → AV) (g : Nat) (P B R : List Pr) (x : Pr) (N a m b : Nat) (hN : (P ++ ([x] ++ (B ++ R))).length = N) (hP : P.length = a) (hA : a + 1 = m) (hB : m + B.length = b) (sB : SLe B) (hok : Okl (P ++ ([x] ++ (B ++ R)))) :
    HC Try.prog G 68 [.ol 0 g N, I a, I m, I b, cF] [rw0 (P ++ ([x] ++ (B ++ R))) g] (.tup []) [rw0 (P ++ (ssort ([x] ++ B) ++ R)) g] := by
  have hlen := hok.len
  rw [hN] at hlen
  have hbN : b ≤ N := by rw [← hN]; simp; omega
  have hx : x.1.size ≤ 9223372036854775807 := (hok.sz x (by simp)).1
  have hsB : ∀ p ∈ B, p.1.size ≤ 9223372036854775807 := fun p hp => (hok.sz p (by simp [hp])).1
  obtain ⟨c, hc⟩ : ∃ c, c = (lo B x.1).length := ⟨_, rfl⟩
  have hcl : c ≤ B.length := by rw [hc]; exact lo_len
  have hfin := one_left sB x
  rw [← hc] at hfin
  have ema : (m : Int) - (a : Int) = 1 := by omega
  refine hc_of cop68 ?_
  show W _ _ _ _ ⟨_, _⟩; simp only [A68, List.cons_append, List.nil_append, List.length_cons, List.length_nil, Nat.reduceAdd, Nat.reduceSub, List.replicate]
  (refine w_skip_at 77 143 (by simp [skp_len]) fun f77 => ?_; simp (disch := omega) only [List.take_succ_cons, List.take_zero, List.drop_succ_cons, List.drop_zero, List.cons_append, List.nil_append, List.take_nil, List.drop_nil, skp_take, skp_drop, skp_app, Nat.reduceSub, Nat.reduceAdd, List.replicate_succ, List.replicate_zero])
  (refine w_skip_at 54 23 (by simp [skp_len]) fun f54 => ?_; simp (disch := omega) only [List.take_succ_cons, List.take_zero, List.drop_succ_cons, List.drop_zero, List.cons_append, List.nil_append, List.take_nil, List.drop_nil, skp_take, skp_drop, skp_app, Nat.reduceSub, Nat.reduceAdd, List.replicate_succ, List.replicate_zero])
  repeat (first | with_reducible refine w_seq ?_ | with_reducible refine w_reg ?_ | with_reducible refine w_block ?_ | with_reducible refine ws_nil ?_ | with_reducible refine q_then ?_ | ((first | with_reducible refine ks fun K hK => ?_ | with_reducible refine kd fun K hK => ?_ | with_reducible refine kc fun K hK2 hK hK3 => ?_); simp (disch := omega) only [bg0, bg1, bg2, bg3, bg4, stepO, rsAs, eff, AX.ev, St.put, binA, conc, ap1, ofVal, Int.reduceTMod, Int.reduceTDiv, reduceCtorEq, fillA, AV.cells, AV.fine, AV.one, Nat.reduceAdd, Nat.reduceSub, Nat.reduceMul, Nat.reduceLT, Nat.reduceLeDiff, Int.reduceLT, Int.reduceLE, Int.reduceAdd, Int.reduceSub, Int.reduceNeg, Int.reduceMul, Int.reduceEq, Int.reduceToNat, nilA, moveA, live, loadA, rdA, storeA, wrA, intA, elemA, lenA, appA, srcA, isPtr, isNilPtr, partA, resOf, sliceA, cut, id, ap2, reduceIte, concs, chkB, geB, AOp.cls, AOp.xs, ltB, ltC, Nat.reduceBEq, Option.toList, List.cons_append, decide_eq_true, decide_eq_false, if_pos, if_neg, List.length_map, List.cons_append, bVb, bVn, eq_self, Bool.and_self, BEq.rfl, not_true_eq_false, set_pA, List.length_set, cVu, cVi, shr1, ema]; (first | ((with_reducible refine hK _ ?_); clear hK K) | ((with_reducible refine hK ?_); clear hK hK3 K hK2) | ((with_reducible refine hK3 ?_); clear hK hK3 K hK2))))
  refine w_loop_d [10, 11, 12, 31, 32, 33, 34, 35, 36, 37, 38, 39, 40, 41, 42, 43, 44, 45, 46, 47, 48, 49, 50, 51, 52, 53] (fun u v H => ∃ i j : Nat, u = j - i ∧ v 10 = I i ∧ v 11 = I j ∧ m ≤ i ∧ i ≤ m + c ∧ m + c ≤ j ∧ j ≤ b ∧ H = [rw0 (P ++ ([x] ++ (B ++ R))) g]) (b - m) ⟨m, b, rfl, rfl, rfl, by omega, by omega, by omega, by omega, rfl⟩ ?_
  rintro u v H ⟨i, j, rfl, h10, h11, i1, i2, i3, i4, rfl⟩
  simp only [mix, mix_nil, mix_end, mix_skp, Nat.reduceEqDiff, Nat.reduceLeDiff, reduceCtorEq, if_true, if_false, reduceIte, Nat.reduceAdd, h10, h11]
  by_cases hij : i < j
  · obtain ⟨h, hh⟩ : ∃ h, h = (i + j) / 2 := ⟨_, rfl⟩
    have q1 : ((P ++ ([x] ++ (B ++ R))).map pA)[h]? = some (.agg [S (B[h - m]'(by omega)).1, S (B[h - m]'(by omega)).2]) := pAq (by
      have := gdA (P := P ++ [x]) (A := B) (R := R) (k := h) (by simp; omega) (by simp; omega)
      simp only [List.append_assoc] at this
      rw [this]
      congr 2
      simp; omega)
    have q2 : ((P ++ ([x] ++ (B ++ R))).map pA)[a]? = some (.agg [S x.1, S x.2]) := pAq (at_mid (S := []) (by simp; omega))
    have hy := hsB _ (List.getElem_mem (l := B) (n := h - m) (by omega))
    have hidx := idx_lo sB x.1 (i := h - m) (by omega)
    rw [← hc] at hidx
    generalize B[h - m]'(by omega) = y at *
    have hm := hh.symm
    have hNl := hN
    generalize P ++ ([x] ++ (B ++ R)) = C at *
    by_cases hlt : cB y.1 x.1 < 0
    · have := hidx.1 hlt
      repeat (first | with_reducible refine w_seq ?_ | with_reducible refine w_reg ?_ | with_reducible refine w_draw ?_ | with_reducible refine w_block ?_ | with_reducible refine w_skip ?_ | with_reducible refine ws_nil ?_ | with_reducible refine wd_nil ?_ | with_reducible refine q_then ?_ | with_reducible refine q_block_n ?_ | ((first | with_reducible refine ks fun K hK => ?_ | with_reducible refine kd fun K hK => ?_ | with_reducible refine kc fun K hK2 hK hK3 => ?_); simp (disch := omega) only [bg0, bg1, bg2, bg3, bg4, stepO, rsAs, eff, AX.ev, St.put, binA, conc, ap1, ofVal, Int.reduceTMod, Int.reduceTDiv, reduceCtorEq, fillA, AV.cells, AV.fine, AV.one, Nat.reduceAdd, Nat.reduceSub, Nat.reduceMul, Nat.reduceLT, Nat.reduceLeDiff, Int.reduceLT, Int.reduceLE, Int.reduceAdd, Int.reduceSub, Int.reduceNeg, Int.reduceMul, Int.reduceEq, Int.reduceToNat, nilA, moveA, live, loadA, rdA, storeA, wrA, intA, elemA, lenA, appA, srcA, isPtr, isNilPtr, partA, resOf, sliceA, cut, id, ap2, reduceIte, concs, chkB, geB, AOp.cls, AOp.xs, ltB, ltC, Nat.reduceBEq, Option.toList, List.cons_append, decide_eq_true, decide_eq_false, if_pos, if_neg, List.length_map, List.cons_append, bVb, bVn, eq_self, Bool.and_self, BEq.rfl, not_true_eq_false, set_pA, List.length_set, cVu, cVi, shr1, hm, q1, q2, hlt]; (first | ((with_reducible refine hK _ ?_); clear hK K) | ((with_reducible refine hK ?_); clear hK hK3 K hK2) | ((with_reducible refine hK3 ?_); clear hK hK3 K hK2))) | ((first | ((with_reducible refine kvd 64 ?_ ?_ ?_ ?_ ?_ ?_ ?_ ?_); rotate_left 3)); (focus (simp (disch := omega) only [bg0, bg1, bg2, bg3, bg4, stepO, rsAs, eff, AX.ev, St.put, binA, conc, ap1, ofVal, Int.reduceTMod, Int.reduceTDiv, reduceCtorEq, fillA, AV.cells, AV.fine, AV.one, Nat.reduceAdd, Nat.reduceSub, Nat.reduceMul, Nat.reduceLT, Nat.reduceLeDiff, Int.reduceLT, Int.reduceLE, Int.reduceAdd, Int.reduceSub, Int.reduceNeg, Int.reduceMul, Int.reduceEq, Int.reduceToNat, nilA, moveA, live, loadA, rdA, storeA, wrA, intA, elemA, lenA, appA, srcA, isPtr, isNilPtr, partA, resOf, sliceA, cut, id, ap2, reduceIte, concs, chkB, geB, AOp.cls, AOp.xs, ltB, ltC, Nat.reduceBEq, Option.toList, List.cons_append, decide_eq_true, decide_eq_false, if_pos, if_neg, List.length_map, List.cons_append, bVb, bVn, eq_self, Bool.and_self, BEq.rfl, not_true_eq_false, set_pA, List.length_set, cVu, cVi, shr1, hm, q1, q2, hlt]; try rfl)); (first | (rfl; exact hb64; exact (cmpC G _ hy hx)))))
      exact ⟨rfl, j - (h + 1), by omega, h + 1, j, rfl, rfl, rfl, by omega, by omega, by omega, by omega, rfl⟩
    · have : ¬ (h - m < c) := fun h => hlt (hidx.2 h)
      repeat (first | with_reducible refine w_seq ?_ | with_reducible refine w_reg ?_ | with_reducible refine w_draw ?_ | with_reducible refine w_block ?_ | with_reducible refine w_skip ?_ | with_reducible refine ws_nil ?_ | with_reducible refine wd_nil ?_ | with_reducible refine q_then ?_ | with_reducible refine q_block_n ?_ | ((first | with_reducible refine ks fun K hK => ?_ | with_reducible refine kd fun K hK => ?_ | with_reducible refine kc fun K hK2 hK hK3 => ?_); simp (disch := omega) only [bg0, bg1, bg2, bg3, bg4, stepO, rsAs, eff, AX.ev, St.put, binA, conc, ap1, ofVal, Int.reduceTMod, Int.reduceTDiv, reduceCtorEq, fillA, AV.cells, AV.fine, AV.one, Nat.reduceAdd, Nat.reduceSub, Nat.reduceMul, Nat.reduceLT, Nat.reduceLeDiff, Int.reduceLT, Int.reduceLE, Int.reduceAdd, Int.reduceSub, Int.reduceNeg, Int.reduceMul, Int.reduceEq, Int.reduceToNat, nilA, moveA, live, loadA, rdA, storeA, wrA, intA, elemA, lenA, appA, srcA, isPtr, isNilPtr, partA, resOf, sliceA, cut, id, ap2, reduceIte, concs, chkB, geB, AOp.cls, AOp.xs, ltB, ltC, Nat.reduceBEq, Option.toList, List.cons_append, decide_eq_true, decide_eq_false, if_pos, if_neg, List.length_map, List.cons_append, bVb, bVn, eq_self, Bool.and_self, BEq.rfl, not_true_eq_false, set_pA, List.length_set, cVu, cVi, shr1, hm, q1, q2, hlt]; (first | ((with_reducible refine hK _ ?_); clear hK K) | ((with_reducible refine hK ?_); clear hK hK3 K hK2) | ((with_reducible refine hK3 ?_); clear hK hK3 K hK2))) | ((first | ((with_reducible refine kvd 64 ?_ ?_ ?_ ?_ ?_ ?_ ?_ ?_); rotate_left 3)); (focus (simp (disch := omega) only [bg0, bg1, bg2, bg3, bg4, stepO, rsAs, eff, AX.ev, St.put, binA, conc, ap1, ofVal, Int.reduceTMod, Int.reduceTDiv, reduceCtorEq, fillA, AV.cells, AV.fine, AV.one, Nat.reduceAdd, Nat.reduceSub, Nat.reduceMul, Nat.reduceLT, Nat.reduceLeDiff, Int.reduceLT, Int.reduceLE, Int.reduceAdd, Int.reduceSub, Int.reduceNeg, Int.reduceMul, Int.reduceEq, Int.reduceToNat, nilA, moveA, live, loadA, rdA, storeA, wrA, intA, elemA, lenA, appA, srcA, isPtr, isNilPtr, partA, resOf, sliceA, cut, id, ap2, reduceIte, concs, chkB, geB, AOp.cls, AOp.xs, ltB, ltC, Nat.reduceBEq, Option.toList, List.cons_append, decide_eq_true, decide_eq_false, if_pos, if_neg, List.length_map, List.cons_append, bVb, bVn, eq_self, Bool.and_self, BEq.rfl, not_true_eq_false, set_pA, List.length_set, cVu, cVi, shr1, hm, q1, q2, hlt]; try rfl)); (first | (rfl; exact hb64; exact (cmpC G _ hy hx)))))
      exact ⟨rfl, h - i, by omega, i, h, rfl, rfl, rfl, by omega, by omega, by omega, by omega, rfl⟩
  · obtain rfl : i = m + c := by omega
    obtain rfl : j = m + c := by omega
    (refine w_skip_at 25 29 (by simp [skp_len]) fun f25 => ?_; simp (disch := omega) only [List.take_succ_cons, List.take_zero, List.drop_succ_cons, List.drop_zero, List.cons_append, List.nil_append, List.take_nil, List.drop_nil, skp_take, skp_drop, skp_app, Nat.reduceSub, Nat.reduceAdd, List.replicate_succ, List.replicate_zero])
    (have ho : ∀ (f : Nat → AV) (L : List AV), skp 23 f L = f 0 :: f 1 :: f 2 :: f 3 :: f 4 :: f 5 :: f 6 :: f 7 :: f 8 :: f 9 :: f 10 :: f 11 :: f 12 :: f 13 :: f 14 :: f 15 :: f 16 :: f 17 :: f 18 :: f 19 :: f 20 :: f 21 :: f 22 :: L := fun _ _ => rfl; simp only [ho]; clear ho)
    repeat (first | with_reducible refine w_seq ?_ | with_reducible refine w_reg ?_ | with_reducible refine w_block ?_ | with_reducible refine w_exit ?_ | with_reducible refine ws_nil ?_ | with_reducible refine q_then ?_ | with_reducible refine q_then_x ?_ | with_reducible refine q_block_x ?_ | ((first | with_reducible refine ks fun K hK => ?_ | with_reducible refine kd fun K hK => ?_ | with_reducible refine kc fun K hK2 hK hK3 => ?_); simp (disch := omega) only [bg0, bg1, bg2, bg3, bg4, stepO, rsAs, eff, AX.ev, St.put, binA, conc, ap1, ofVal, Int.reduceTMod, Int.reduceTDiv, reduceCtorEq, fillA, AV.cells, AV.fine, AV.one, Nat.reduceAdd, Nat.reduceSub, Nat.reduceMul, Nat.reduceLT, Nat.reduceLeDiff, Int.reduceLT, Int.reduceLE, Int.reduceAdd, Int.reduceSub, Int.reduceNeg, Int.reduceMul, Int.reduceEq, Int.reduceToNat, nilA, moveA, live, loadA, rdA, storeA, wrA, intA, elemA, lenA, appA, srcA, isPtr, isNilPtr, partA, resOf, sliceA, cut, id, ap2, reduceIte, concs, chkB, geB, AOp.cls, AOp.xs, ltB, ltC, Nat.reduceBEq, Option.toList, List.cons_append, decide_eq_true, decide_eq_false, if_pos, if_neg, List.length_map, List.cons_append, bVb, bVn, eq_self, Bool.and_self, BEq.rfl, not_true_eq_false, set_pA, List.length_set, cVu, cVi, shr1]; (first | ((with_reducible refine hK _ ?_); clear hK K) | ((with_reducible refine hK ?_); clear hK hK3 K hK2) | ((with_reducible refine hK3 ?_); clear hK hK3 K hK2))))
    refine w_loop_m [13, 55, 56, 57, 58, 59, 60, 61, 62, 63, 64, 65, 66, 67, 68, 69, 70, 71, 72, 73, 74, 75, 76] (fun r v H => v 13 = I ((a + r : Nat) : Int) ∧ H = [rw0 (P ++ (B.take r ++ x :: (B.drop r ++ R))) g]) c ⟨by simp [at_], rfl⟩ ?_ ?_
    · rintro r v2 H hr ⟨h13, rfl⟩
      have hrB : r < B.length := by omega
      have hSl : (B.take r).length = r := by simp; omega
      have hdr : B.drop r = B[r] :: B.drop (r + 1) := List.drop_eq_getElem_cons hrB
      have htk : B.take (r + 1) = B.take r ++ [B[r]] := by rw [List.take_add_one, List.getElem?_eq_getElem hrB]; rfl
      rw [hdr, htk]
      generalize B[r] = y at *
      have q1 := pAq (at_mid (P := P) (S := B.take r) (x := x) (R := y :: (B.drop (r + 1) ++ R)) (k := a + r) (by omega))
      have q2 := pAq (at_nx (P := P) (S := B.take r) (x := x) (y := y) (R := B.drop (r + 1) ++ R) (k := a + r) (by omega))
      have q3 : (((P ++ (B.take r ++ x :: y :: (B.drop (r + 1) ++ R))).set (a + r) y).map pA)[a + r + 1]? = some (.agg [S y.1, S y.2]) := pAq (by rw [List.getElem?_set_ne (by omega)]; exact at_nx (by omega))
      have hsw := sw_fwd (P := P) (S := B.take r) (x := x) (y := y) (R := B.drop (r + 1) ++ R) (k := a + r) (by omega)
      have hCl : (P ++ (B.take r ++ x :: y :: (B.drop (r + 1) ++ R))).length = N := by
        rw [← hN]; simp [hSl]; omega
      simp only [List.cons_append] at *
      generalize P ++ (B.take r ++ x :: y :: (B.drop (r + 1) ++ R)) = C at *
      have e1 : ((a : Int) + (r : Int) + 1).toNat = a + r + 1 := by omega
      have e2 : ((a : Int) + (r : Int)).toNat = a + r := by omega
      have hw3 : a + r + 1 < N := by omega
      have hcN : m + c ≤ N := by omega
      clear hSl hdr htk hc hfin hB hbN hcl ema i1 i2 i3 i4 hij
      simp only [mix, mix_nil, mix_end, mix_skp, Nat.reduceEqDiff, Nat.reduceLeDiff, reduceCtorEq, if_true, if_false, reduceIte, Nat.reduceAdd, h13]
      repeat (first | with_reducible refine w_seq ?_ | with_reducible refine w_reg ?_ | (with_reducible refine w_drawx2 ?_ ?_ ?_ ?_; rotate_left 1) | with_reducible exact isSt | with_reducible refine w_block ?_ | with_reducible refine w_skip ?_ | with_reducible refine ws_nil ?_ | with_reducible refine wd_nil ?_ | with_reducible refine q_then ?_ | with_reducible refine q_block_n ?_ | ((first | with_reducible refine ks fun K hK => ?_ | with_reducible refine kd fun K hK => ?_ | with_reducible refine kc fun K hK2 hK hK3 => ?_); simp (disch := omega) only [bg0, bg1, bg2, bg3, bg4, stepO, rsAs, eff, AX.ev, St.put, binA, conc, ap1, ofVal, Int.reduceTMod, Int.reduceTDiv, reduceCtorEq, fillA, AV.cells, AV.fine, AV.one, Nat.reduceAdd, Nat.reduceSub, Nat.reduceMul, Nat.reduceLT, Nat.reduceLeDiff, Int.reduceLT, Int.reduceLE, Int.reduceAdd, Int.reduceSub, Int.reduceNeg, Int.reduceMul, Int.reduceEq, Int.reduceToNat, nilA, moveA, live, loadA, rdA, storeA, wrA, intA, elemA, lenA, appA, srcA, isPtr, isNilPtr, partA, resOf, sliceA, cut, id, ap2, reduceIte, concs, chkB, geB, AOp.cls, AOp.xs, ltB, ltC, Nat.reduceBEq, Option.toList, List.cons_append, decide_eq_true, decide_eq_false, if_pos, if_neg, List.length_map, List.cons_append, bVb, bVn, eq_self, Bool.and_self, BEq.rfl, not_true_eq_false, set_pA, List.length_set, cVu, cVi, shr1, q1, q2, q3, e1, e2]; (first | ((with_reducible refine hK _ ?_); clear hK K) | ((with_reducible refine hK ?_); clear hK hK3 K hK2) | ((with_reducible refine hK3 ?_); clear hK hK3 K hK2))))
      exact ⟨rfl, by simp [at_]; omega, rw0_eq hsw⟩
    · rintro v2 H ⟨h13, rfl⟩
      simp only [mix, mix_nil, mix_end, mix_skp, Nat.reduceEqDiff, Nat.reduceLeDiff, reduceCtorEq, if_true, if_false, reduceIte, Nat.reduceAdd, h13]
      (try simp only [List.cons_append, List.nil_append])
      rw [← hfin]
      simp only [List.append_assoc, List.cons_append]
      repeat (first | with_reducible refine w_seq ?_ | with_reducible refine w_reg ?_ | with_reducible refine w_exit ?_ | with_reducible refine ws_nil ?_ | with_reducible refine q_then ?_ | with_reducible refine q_then_x ?_ | with_reducible refine q_block_x ?_ | with_reducible refine w_ret ?_ | with_reducible refine q_then_r ?_ | ((first | with_reducible refine ks fun K hK => ?_ | with_reducible refine kd fun K hK => ?_ | with_reducible refine kc fun K hK2 hK hK3 => ?_); simp (disch := omega) only [bg0, bg1, bg2, bg3, bg4, stepO, rsAs, eff, AX.ev, St.put, binA, conc, ap1, ofVal, Int.reduceTMod, Int.reduceTDiv, reduceCtorEq, fillA, AV.cells, AV.fine, AV.one, Nat.reduceAdd, Nat.reduceSub, Nat.reduceMul, Nat.reduceLT, Nat.reduceLeDiff, Int.reduceLT, Int.reduceLE, Int.reduceAdd, Int.reduceSub, Int.reduceNeg, Int.reduceMul, Int.reduceEq, Int.reduceToNat, nilA, moveA, live, loadA, rdA, storeA, wrA, intA, elemA, lenA, appA, srcA, isPtr, isNilPtr, partA, resOf, sliceA, cut, id, ap2, reduceIte, concs, chkB, geB, AOp.cls, AOp.xs, ltB, ltC, Nat.reduceBEq, Option.toList, List.cons_append, decide_eq_true, decide_eq_false, if_pos, if_neg, List.length_map, List.cons_append, bVb, bVn, eq_self, Bool.and_self, BEq.rfl, not_true_eq_false, set_pA, List.length_set, cVu, cVi, shr1]; (first | ((with_reducible refine hK _ ?_); clear hK K) | ((with_reducible refine hK ?_); clear hK hK3 K hK2) | ((with_reducible refine hK3 ?_); clear hK hK3 K hK2))) | ((with_reducible refine ret_0r ?_); try rfl))
set_option maxHeartbeats 8000000 in
/-- A list in order, and one binding behind it. -/
theorem symR (G : Nat → AV) (g : Nat) (P A R : List Pr) (x : Pr) (N a m b : Nat) (hN : (P ++ (A ++ ([x] ++ R))).length = N) (hP : P.length = a) (hA : a + A.length = m) (hA2 : 2 ≤ A.length) (hB : m + 1 = b) (sA : SLe A) (hok : Okl (P ++ (A ++ ([x] ++ R)))) :
    HC Try.prog G 68 [.ol 0 g N, I a, I m, I b, cF] [rw0 (P ++ (A ++ ([x] ++ R))) g] (.tup []) [rw0 (P ++ (ssort (A ++ [x]) ++ R)) g] := by
  have hlen := hok.len
  rw [hN] at hlen
  have hbN : b ≤ N := by rw [← hN]; simp; omega
  have hx : x.1.size ≤ 9223372036854775807 := (hok.sz x (by simp)).1
  have hsA : ∀ p ∈ A, p.1.size ≤ 9223372036854775807 := fun p hp => (hok.sz p (by simp [hp])).1
  obtain ⟨c, hc⟩ : ∃ c, c = (le A x.1).length := ⟨_, rfl⟩
  have hcl : c ≤ A.length := by rw [hc]; exact le_len
  have hfin := one_right sA x
  rw [← hc] at hfin
  have ema : ¬ ((m : Int) - (a : Int) = 1) := by omega
  have ebm : (b : Int) - (m : Int) = 1 := by omega
  refine hc_of cop68 ?_
  show W _ _ _ _ ⟨_, _⟩; simp only [A68, List.cons_append, List.nil_append, List.length_cons, List.length_nil, Nat.reduceAdd, Nat.reduceSub, List.replicate]
  (refine w_skip_at 129 91 (by simp [skp_len]) fun f129 => ?_; simp (disch := omega) only [List.take_succ_cons, List.take_zero, List.drop_succ_cons, List.drop_zero, List.cons_append, List.nil_append, List.take_nil, List.drop_nil, skp_take, skp_drop, skp_app, Nat.reduceSub, Nat.reduceAdd, List.replicate_succ, List.replicate_zero])
  (refine w_skip_at 107 22 (by simp [skp_len]) fun f107 => ?_; simp (disch := omega) only [List.take_succ_cons, List.take_zero, List.drop_succ_cons, List.drop_zero, List.cons_append, List.nil_append, List.take_nil, List.drop_nil, skp_take, skp_drop, skp_app, Nat.reduceSub, Nat.reduceAdd, List.replicate_succ, List.replicate_zero])
  repeat (first | with_reducible refine w_seq ?_ | with_reducible refine w_reg ?_ | with_reducible refine w_block ?_ | with_reducible refine w_skip ?_ | with_reducible refine ws_nil ?_ | with_reducible refine q_then ?_ | ((first | with_reducible refine ks fun K hK => ?_ | with_reducible refine kd fun K hK => ?_ | with_reducible refine kc fun K hK2 hK hK3 => ?_); simp (disch := omega) only [bg0, bg1, bg2, bg3, bg4, stepO, rsAs, eff, AX.ev, St.put, binA, conc, ap1, ofVal, Int.reduceTMod, Int.reduceTDiv, reduceCtorEq, fillA, AV.cells, AV.fine, AV.one, Nat.reduceAdd, Nat.reduceSub, Nat.reduceMul, Nat.reduceLT, Nat.reduceLeDiff, Int.reduceLT, Int.reduceLE, Int.reduceAdd, Int.reduceSub, Int.reduceNeg, Int.reduceMul, Int.reduceEq, Int.reduceToNat, nilA, moveA, live, loadA, rdA, storeA, wrA, intA, elemA, lenA, appA, srcA, isPtr, isNilPtr, partA, resOf, sliceA, cut, id, ap2, reduceIte, concs, chkB, geB, AOp.cls, AOp.xs, ltB, ltC, Nat.reduceBEq, Option.toList, List.cons_append, decide_eq_true, decide_eq_false, if_pos, if_neg, List.length_map, List.cons_append, bVb, bVn, eq_self, Bool.and_self, BEq.rfl, not_true_eq_false, set_pA, List.length_set, cVu, cVi, shr1, ema, ebm]; (first | ((with_reducible refine hK _ ?_); clear hK K) | ((with_reducible refine hK ?_); clear hK hK3 K hK2) | ((with_reducible refine hK3 ?_); clear hK hK3 K hK2))))
  (refine w_skip_at 25 58 (by simp [skp_len]) fun f25 => ?_; simp (disch := omega) only [List.take_succ_cons, List.take_zero, List.drop_succ_cons, List.drop_zero, List.cons_append, List.nil_append, List.take_nil, List.drop_nil, skp_take, skp_drop, skp_app, Nat.reduceSub, Nat.reduceAdd, List.replicate_succ, List.replicate_zero])
  refine w_loop_d [14, 15, 16, 83, 84, 85, 86, 87, 88, 89, 90, 91, 92, 93, 94, 95, 96, 97, 98, 99, 100, 101, 102, 103, 104, 105, 106] (fun u v H => ∃ i j : Nat, u = j - i ∧ v 14 = I i ∧ v 15 = I j ∧ a ≤ i ∧ i ≤ a + c ∧ a + c ≤ j ∧ j ≤ m ∧ H = [rw0 (P ++ (A ++ ([x] ++ R))) g]) (m - a) ⟨a, m, rfl, rfl, rfl, by omega, by omega, by omega, by omega, rfl⟩ ?_
  rintro u v H ⟨i, j, rfl, h14, h15, i1, i2, i3, i4, rfl⟩
  simp only [mix, mix_nil, mix_end, mix_skp, Nat.reduceEqDiff, Nat.reduceLeDiff, reduceCtorEq, if_true, if_false, reduceIte, Nat.reduceAdd, h14, h15]
  by_cases hij : i < j
  · obtain ⟨h, hh⟩ : ∃ h, h = (i + j) / 2 := ⟨_, rfl⟩
    have q1 : ((P ++ (A ++ ([x] ++ R))).map pA)[h]? = some (.agg [S (A[h - a]'(by omega)).1, S (A[h - a]'(by omega)).2]) := pAq (by
      have := gdA (P := P) (A := A) (R := [x] ++ R) (k := h) (by omega) (by omega)
      rw [this]
      congr 2
      omega)
    have q2 : ((P ++ (A ++ ([x] ++ R))).map pA)[m]? = some (.agg [S x.1, S x.2]) := pAq (at_mid (S := A) (by omega))
    have hy := hsA _ (List.getElem_mem (l := A) (n := h - a) (by omega))
    have hidx := idx_le sA x.1 (i := h - a) (by omega)
    rw [← hc] at hidx
    generalize A[h - a]'(by omega) = y at *
    have hm := hh.symm
    have hNl := hN
    generalize P ++ (A ++ ([x] ++ R)) = C at *
    have hanti := cB_anti y.1 x.1
    by_cases hlt : cB x.1 y.1 < 0
    · have : ¬ (h - a < c) := fun h => by have := hidx.2 h; omega
      repeat (first | with_reducible refine w_seq ?_ | with_reducible refine w_reg ?_ | with_reducible refine w_draw ?_ | with_reducible refine w_block ?_ | with_reducible refine w_skip ?_ | with_reducible refine ws_nil ?_ | with_reducible refine wd_nil ?_ | with_reducible refine q_then ?_ | with_reducible refine q_block_n ?_ | ((first | with_reducible refine ks fun K hK => ?_ | with_reducible refine kd fun K hK => ?_ | with_reducible refine kc fun K hK2 hK hK3 => ?_); simp (disch := omega) only [bg0, bg1, bg2, bg3, bg4, stepO, rsAs, eff, AX.ev, St.put, binA, conc, ap1, ofVal, Int.reduceTMod, Int.reduceTDiv, reduceCtorEq, fillA, AV.cells, AV.fine, AV.one, Nat.reduceAdd, Nat.reduceSub, Nat.reduceMul, Nat.reduceLT, Nat.reduceLeDiff, Int.reduceLT, Int.reduceLE, Int.reduceAdd, Int.reduceSub, Int.reduceNeg, Int.reduceMul, Int.reduceEq, Int.reduceToNat, nilA, moveA, live, loadA, rdA, storeA, wrA, intA, elemA, lenA, appA, srcA, isPtr, isNilPtr, partA, resOf, sliceA, cut, id, ap2, reduceIte, concs, chkB, geB, AOp.cls, AOp.xs, ltB, ltC, Nat.reduceBEq, Option.toList, List.cons_append, decide_eq_true, decide_eq_false, if_pos, if_neg, List.length_map, List.cons_append, bVb, bVn, eq_self, Bool.and_self, BEq.rfl, not_true_eq_false, set_pA, List.length_set, cVu, cVi, shr1, hm, q1, q2, hlt]; (first | ((with_reducible refine hK _ ?_); clear hK K) | ((with_reducible refine hK ?_); clear hK hK3 K hK2) | ((with_reducible refine hK3 ?_); clear hK hK3 K hK2))) | ((first | ((with_reducible refine kvd 64 ?_ ?_ ?_ ?_ ?_ ?_ ?_ ?_); rotate_left 3)); (focus (simp (disch := omega) only [bg0, bg1, bg2, bg3, bg4, stepO, rsAs, eff, AX.ev, St.put, binA, conc, ap1, ofVal, Int.reduceTMod, Int.reduceTDiv, reduceCtorEq, fillA, AV.cells, AV.fine, AV.one, Nat.reduceAdd, Nat.reduceSub, Nat.reduceMul, Nat.reduceLT, Nat.reduceLeDiff, Int.reduceLT, Int.reduceLE, Int.reduceAdd, Int.reduceSub, Int.reduceNeg, Int.reduceMul, Int.reduceEq, Int.reduceToNat, nilA, moveA, live, loadA, rdA, storeA, wrA, intA, elemA, lenA, appA, srcA, isPtr, isNilPtr, partA, resOf, sliceA, cut, id, ap2, reduceIte, concs, chkB, geB, AOp.cls, AOp.xs, ltB, ltC, Nat.reduceBEq, Option.toList, List.cons_append, decide_eq_true, decide_eq_false, if_pos, if_neg, List.length_map, List.cons_append, bVb, bVn, eq_self, Bool.and_self, BEq.rfl, not_true_eq_false, set_pA, List.length_set, cVu, cVi, shr1, hm, q1, q2, hlt]; try rfl)); (first | (rfl; exact hb64; exact (cmpC G _ hx hy)))))
      exact ⟨rfl, h - i, by omega, i, h, rfl, rfl, rfl, by omega, by omega, by omega, by omega, rfl⟩
    · have := hidx.1 (by omega)
      repeat (first | with_reducible refine w_seq ?_ | with_reducible refine w_reg ?_ | with_reducible refine w_draw ?_ | with_reducible refine w_block ?_ | with_reducible refine w_skip ?_ | with_reducible refine ws_nil ?_ | with_reducible refine wd_nil ?_ | with_reducible refine q_then ?_ | with_reducible refine q_block_n ?_ | ((first | with_reducible refine ks fun K hK => ?_ | with_reducible refine kd fun K hK => ?_ | with_reducible refine kc fun K hK2 hK hK3 => ?_); simp (disch := omega) only [bg0, bg1, bg2, bg3, bg4, stepO, rsAs, eff, AX.ev, St.put, binA, conc, ap1, ofVal, Int.reduceTMod, Int.reduceTDiv, reduceCtorEq, fillA, AV.cells, AV.fine, AV.one, Nat.reduceAdd, Nat.reduceSub, Nat.reduceMul, Nat.reduceLT, Nat.reduceLeDiff, Int.reduceLT, Int.reduceLE, Int.reduceAdd, Int.reduceSub, Int.reduceNeg, Int.reduceMul, Int.reduceEq, Int.reduceToNat, nilA, moveA, live, loadA, rdA, storeA, wrA, intA, elemA, lenA, appA, srcA, isPtr, isNilPtr, partA, resOf, sliceA, cut, id, ap2, reduceIte, concs, chkB, geB, AOp.cls, AOp.xs, ltB, ltC, Nat.reduceBEq, Option.toList, List.cons_append, decide_eq_true, decide_eq_false, if_pos, if_neg, List.length_map, List.cons_append, bVb, bVn, eq_self, Bool.and_self, BEq.rfl, not_true_eq_false, set_pA, List.length_set, cVu, cVi, shr1, hm, q1, q2, hlt]; (first | ((with_reducible refine hK _ ?_); clear hK K) | ((with_reducible refine hK ?_); clear hK hK3 K hK2) | ((with_reducible refine hK3 ?_); clear hK hK3 K hK2))) | ((first | ((with_reducible refine kvd 64 ?_ ?_ ?_ ?_ ?_ ?_ ?_ ?_); rotate_left 3)); (focus (simp (disch := omega) only [bg0, bg1, bg2, bg3, bg4, stepO, rsAs, eff, AX.ev, St.put, binA, conc, ap1, ofVal, Int.reduceTMod, Int.reduceTDiv, reduceCtorEq, fillA, AV.cells, AV.fine, AV.one, Nat.reduceAdd, Nat.reduceSub, Nat.reduceMul, Nat.reduceLT, Nat.reduceLeDiff, Int.reduceLT, Int.reduceLE, Int.reduceAdd, Int.reduceSub, Int.reduceNeg, Int.reduceMul, Int.reduceEq, Int.reduceToNat, nilA, moveA, live, loadA, rdA, storeA, wrA, intA, elemA, lenA, appA, srcA, isPtr, isNilPtr, partA, resOf, sliceA, cut, id, ap2, reduceIte, concs, chkB, geB, AOp.cls, AOp.xs, ltB, ltC, Nat.reduceBEq, Option.toList, List.cons_append, decide_eq_true, decide_eq_false, if_pos, if_neg, List.length_map, List.cons_append, bVb, bVn, eq_self, Bool.and_self, BEq.rfl, not_true_eq_false, set_pA, List.length_set, cVu, cVi, shr1, hm, q1, q2, hlt]; try rfl)); (first | (rfl; exact hb64; exact (cmpC G _ hx hy)))))
      exact ⟨rfl, j - (h + 1), by omega, h + 1, j, rfl, rfl, rfl, by omega, by omega, by omega, by omega, rfl⟩
  · obtain rfl : i = a + c := by omega
    obtain rfl : j = a + c := by omega
    (refine w_skip_at 83 24 (by simp [skp_len]) fun f83 => ?_; simp (disch := omega) only [List.take_succ_cons, List.take_zero, List.drop_succ_cons, List.drop_zero, List.cons_append, List.nil_append, List.take_nil, List.drop_nil, skp_take, skp_drop, skp_app, Nat.reduceSub, Nat.reduceAdd, List.replicate_succ, List.replicate_zero])
    (have ho : ∀ (f : Nat → AV) (L : List AV), skp 22 f L = f 0 :: f 1 :: f 2 :: f 3 :: f 4 :: f 5 :: f 6 :: f 7 :: f 8 :: f 9 :: f 10 :: f 11 :: f 12 :: f 13 :: f 14 :: f 15 :: f 16 :: f 17 :: f 18 :: f 19 :: f 20 :: f 21 :: L := fun _ _ => rfl; simp only [ho]; clear ho)
    repeat (first | with_reducible refine w_seq ?_ | with_reducible refine w_reg ?_ | with_reducible refine w_block ?_ | with_reducible refine w_exit ?_ | with_reducible refine ws_nil ?_ | with_reducible refine q_then ?_ | with_reducible refine q_then_x ?_ | with_reducible refine q_block_x ?_ | ((first | with_reducible refine ks fun K hK => ?_ | with_reducible refine kd fun K hK => ?_ | with_reducible refine kc fun K hK2 hK hK3 => ?_); simp (disch := omega) only [bg0, bg1, bg2, bg3, bg4, stepO, rsAs, eff, AX.ev, St.put, binA, conc, ap1, ofVal, Int.reduceTMod, Int.reduceTDiv, reduceCtorEq, fillA, AV.cells, AV.fine, AV.one, Nat.reduceAdd, Nat.reduceSub, Nat.reduceMul, Nat.reduceLT, Nat.reduceLeDiff, Int.reduceLT, Int.reduceLE, Int.reduceAdd, Int.reduceSub, Int.reduceNeg, Int.reduceMul, Int.reduceEq, Int.reduceToNat, nilA, moveA, live, loadA, rdA, storeA, wrA, intA, elemA, lenA, appA, srcA, isPtr, isNilPtr, partA, resOf, sliceA, cut, id, ap2, reduceIte, concs, chkB, geB, AOp.cls, AOp.xs, ltB, ltC, Nat.reduceBEq, Option.toList, List.cons_append, decide_eq_true, decide_eq_false, if_pos, if_neg, List.length_map, List.cons_append, bVb, bVn, eq_self, Bool.and_self, BEq.rfl, not_true_eq_false, set_pA, List.length_set, cVu, cVi, shr1]; (first | ((with_reducible refine hK _ ?_); clear hK K) | ((with_reducible refine hK ?_); clear hK hK3 K hK2) | ((with_reducible refine hK3 ?_); clear hK hK3 K hK2))))
    refine w_loop_m [17, 108, 109, 110, 111, 112, 113, 114, 115, 116, 117, 118, 119, 120, 121, 122, 123, 124, 125, 126, 127, 128] (fun r v H => v 17 = I ((m - r : Nat) : Int) ∧ H = [rw0 (P ++ (A.take (A.length - r) ++ x :: (A.drop (A.length - r) ++ R))) g]) (A.length - c) ⟨rfl, by simp⟩ ?_ ?_
    · rintro r v2 H hr ⟨h17, rfl⟩
      obtain ⟨w, hw⟩ : ∃ w, w + 1 = A.length - r := ⟨A.length - r - 1, by omega⟩
      have hw2 : A.length - (r + 1) = w := by omega
      rw [← hw, hw2]
      have hwA : w < A.length := by omega
      have hSl : (A.take w).length = w := by simp; omega
      have hdr : A.drop w = A[w] :: A.drop (w + 1) := List.drop_eq_getElem_cons hwA
      have htk : A.take (w + 1) = A.take w ++ [A[w]] := by rw [List.take_add_one, List.getElem?_eq_getElem hwA]; rfl
      rw [hdr, htk]
      generalize A[w] = y at *
      have hmr : m - r = a + w + 1 := by omega
      have hmr2 : m - (r + 1) = a + w := by omega
      rw [hmr] at h17
      rw [hmr2]
      have q1 := pAq (at_mid (P := P) (S := A.take w ++ [y]) (x := x) (R := A.drop (w + 1) ++ R) (k := a + w + 1) (by simp; omega))
      have q2 := pAq (at_pre (P := P) (S := A.take w) (x := x) (y := y) (R := A.drop (w + 1) ++ R) (k := a + w) (by omega))
      have q3 : (((P ++ (A.take w ++ [y] ++ x :: (A.drop (w + 1) ++ R))).set (a + w + 1) y).map pA)[a + w]? = some (.agg [S y.1, S y.2]) := pAq (by rw [List.getElem?_set_ne (by omega)]; exact at_pre (by omega))
      have hsw := sw_mid (P := P) (S := A.take w) (x := x) (y := y) (R := A.drop (w + 1) ++ R) (k := a + w) (by omega)
      have hCl : (P ++ (A.take w ++ [y] ++ x :: (A.drop (w + 1) ++ R))).length = N := by
        rw [← hN]; simp [hSl]; omega
      generalize P ++ (A.take w ++ [y] ++ x :: (A.drop (w + 1) ++ R)) = C at *
      have e1 : ((a : Int) + (w : Int) + 1).toNat = a + w + 1 := by omega
      have e2 : ((a : Int) + (w : Int)).toNat = a + w := by omega
      have hw3 : a + w + 1 < N := by omega
      have hw4 : c ≤ w := by omega
      clear hmr hmr2 hw hw2 hr hSl hdr htk hc hfin hA hB hbN hcl ema ebm i1 i2 i3 i4 hij
      simp only [mix, mix_nil, mix_end, mix_skp, Nat.reduceEqDiff, Nat.reduceLeDiff, reduceCtorEq, if_true, if_false, reduceIte, Nat.reduceAdd, h17]
      repeat (first | with_reducible refine w_seq ?_ | with_reducible refine w_reg ?_ | (with_reducible refine w_drawx2 ?_ ?_ ?_ ?_; rotate_left 1) | with_reducible exact isSt | with_reducible refine w_block ?_ | with_reducible refine w_skip ?_ | with_reducible refine ws_nil ?_ | with_reducible refine wd_nil ?_ | with_reducible refine q_then ?_ | with_reducible refine q_block_n ?_ | ((first | with_reducible refine ks fun K hK => ?_ | with_reducible refine kd fun K hK => ?_ | with_reducible refine kc fun K hK2 hK hK3 => ?_); simp (disch := omega) only [bg0, bg1, bg2, bg3, bg4, stepO, rsAs, eff, AX.ev, St.put, binA, conc, ap1, ofVal, Int.reduceTMod, Int.reduceTDiv, reduceCtorEq, fillA, AV.cells, AV.fine, AV.one, Nat.reduceAdd, Nat.reduceSub, Nat.reduceMul, Nat.reduceLT, Nat.reduceLeDiff, Int.reduceLT, Int.reduceLE, Int.reduceAdd, Int.reduceSub, Int.reduceNeg, Int.reduceMul, Int.reduceEq, Int.reduceToNat, nilA, moveA, live, loadA, rdA, storeA, wrA, intA, elemA, lenA, appA, srcA, isPtr, isNilPtr, partA, resOf, sliceA, cut, id, ap2, reduceIte, concs, chkB, geB, AOp.cls, AOp.xs, ltB, ltC, Nat.reduceBEq, Option.toList, List.cons_append, decide_eq_true, decide_eq_false, if_pos, if_neg, List.length_map, List.cons_append, bVb, bVn, eq_self, Bool.and_self, BEq.rfl, not_true_eq_false, set_pA, List.length_set, cVu, cVi, shr1, q1, q2, q3, e1, e2]; (first | ((with_reducible refine hK _ ?_); clear hK K) | ((with_reducible refine hK ?_); clear hK hK3 K hK2) | ((with_reducible refine hK3 ?_); clear hK hK3 K hK2))))
      exact ⟨rfl, by simp [at_], rw0_eq hsw⟩
    · rintro v2 H ⟨h17, rfl⟩
      rw [show m - (A.length - c) = a + c by omega] at h17
      rw [show A.length - (A.length - c) = c by omega]
      simp only [mix, mix_nil, mix_end, mix_skp, Nat.reduceEqDiff, Nat.reduceLeDiff, reduceCtorEq, if_true, if_false, reduceIte, Nat.reduceAdd, h17]
      rw [← hfin]
      simp only [List.append_assoc, List.cons_append]
      repeat (first | with_reducible refine w_seq ?_ | with_reducible refine w_reg ?_ | with_reducible refine w_exit ?_ | with_reducible refine ws_nil ?_ | with_reducible refine q_then ?_ | with_reducible refine q_then_x ?_ | with_reducible refine q_block_x ?_ | with_reducible refine w_ret ?_ | with_reducible refine q_then_r ?_ | ((first | with_reducible refine ks fun K hK => ?_ | with_reducible refine kd fun K hK => ?_ | with_reducible refine kc fun K hK2 hK hK3 => ?_); simp (disch := omega) only [bg0, bg1, bg2, bg3, bg4, stepO, rsAs, eff, AX.ev, St.put, binA, conc, ap1, ofVal, Int.reduceTMod, Int.reduceTDiv, reduceCtorEq, fillA, AV.cells, AV.fine, AV.one, Nat.reduceAdd, Nat.reduceSub, Nat.reduceMul, Nat.reduceLT, Nat.reduceLeDiff, Int.reduceLT, Int.reduceLE, Int.reduceAdd, Int.reduceSub, Int.reduceNeg, Int.reduceMul, Int.reduceEq, Int.reduceToNat, nilA, moveA, live, loadA, rdA, storeA, wrA, intA, elemA, lenA, appA, srcA, isPtr, isNilPtr, partA, resOf, sliceA, cut, id, ap2, reduceIte, concs, chkB, geB, AOp.cls, AOp.xs, ltB, ltC, Nat.reduceBEq, Option.toList, List.cons_append, decide_eq_true, decide_eq_false, if_pos, if_neg, List.length_map, List.cons_append, bVb, bVn, eq_self, Bool.and_self, BEq.rfl, not_true_eq_false, set_pA, List.length_set, cVu, cVi, shr1]; (first | ((with_reducible refine hK _ ?_); clear hK K) | ((with_reducible refine hK ?_); clear hK hK3 K hK2) | ((with_reducible refine hK3 ?_); clear hK hK3 K hK2))) | ((with_reducible refine ret_0r ?_); try rfl))
end Go.Proofs.Ytfdfmhapcjckoaa.Sim.Pr7
