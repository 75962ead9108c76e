/- Bindings: sorted, and put in order, by the program. -/
import Derived.Test.YtfdfmhapcjckoaaTSimW
import Derived.Test.YtfdfmhapcjckoaaTRairF
namespace Go.Proofs.Ytfdfmhapcjckoaa.Sim.Pr7
open Go.RowKit
set_option maxRecDepth 100000
set_option linter.unusedSimpArgs false
set_option linter.unusedVariables false
/-- What merging comes to. -/
def SymOk (G : Nat → AV) : Prop := ∀ (g n : Nat) (P A B R : List Pr) (N a m b : Nat), A.length + B.length ≤ n → (P ++ (A ++ (B ++ R))).length = N → P.length = a → a + A.length = m → m + B.length = b → 0 < A.length → 0 < B.length → SLe A → SLe B → Okl (P ++ (A ++ (B ++ R))) →
    HC Try.prog G 68 [.ol 0 g N, I a, I m, I b, cF] [rw0 (P ++ (A ++ (B ++ R))) g] (.tup []) [rw0 (P ++ (ssort (A ++ B) ++ R)) g]
theorem srt_all (D : List Pr) : srt D 0 D.length = ssort D := by simp [srt, seg]
theorem srt_len {D : List Pr} {a b : Nat} (h : a ≤ b) (hb : b ≤ D.length) : (srt D a b).length = D.length := by
  simp [srt, ssort_len, seg]; omega
theorem srt_mem {D : List Pr} {a b : Nat} {x : Pr} (h : x ∈ srt D a b) : x ∈ D := by
  simp only [srt, List.mem_append, ssort_mem] at h
  rcases h with h | h | h
  · exact List.mem_of_mem_take h
  · exact seg_mem h
  · exact List.mem_of_mem_drop h
theorem okl_srt {D : List Pr} {a b : Nat} (hD : Okl D) (h : a ≤ b) (hb : b ≤ D.length) : Okl (srt D a b) := ⟨by rw [srt_len h hb]; exact hD.len, fun p hp => hD.sz p (srt_mem hp)⟩
/-- Two parts in order, one behind the other. -/
theorem srt_two {D : List Pr} {c : Nat} (hc : c ≤ D.length) : srt (srt D 0 c) c D.length = ssort (D.take c) ++ (ssort (D.drop c) ++ []) := by
  have h1 : srt D 0 c = ssort (D.take c) ++ D.drop c := by simp [srt, seg]
  have h2 : (ssort (D.take c)).length = c := by rw [ssort_len]; simp; omega
  rw [h1]
  unfold srt seg
  have e1 : (ssort (D.take c) ++ D.drop c).take c = ssort (D.take c) := by
    have := List.take_left (l₁ := ssort (D.take c)) (l₂ := D.drop c)
    rwa [h2] at this
  have e2 : ((ssort (D.take c) ++ D.drop c).take D.length).drop c = D.drop c := by
    rw [List.take_of_length_le (by simp [h2]; omega)]
    have := List.drop_left (l₁ := ssort (D.take c)) (l₂ := D.drop c)
    rwa [h2] at this
  have e3 : (ssort (D.take c) ++ D.drop c).drop D.length = [] := List.drop_of_length_le (by simp [h2]; omega)
  rw [e1, e2, e3]
theorem ssort_two (X Y : List Pr) : ssort (ssort X ++ ssort Y) = ssort (X ++ Y) :=
  srt_uniq (ssort_le _) (ssort_le _) fun k => by simp only [ssort_fk, fk_append]
set_option maxHeartbeats 8000000 in
theorem stable37 (G : Nat → AV) (hS : SymOk G) (D : List Pr) (g : Nat) (hD : Okl D) (h40 : D.length ≤ 40) :
    HC Try.prog G 66 [.ol 0 g D.length, I D.length, cF] [rw0 D g] (.tup []) [rw0 (ssort D) g] := by
  obtain ⟨N, hN⟩ : ∃ N, N = D.length := ⟨_, rfl⟩
  by_cases h1 : N < 20
  · have i1 := ins43 G D g 0 N hD (by omega) (by omega)
    rw [hN, srt_all] at i1
    rw [← hN] at i1 ⊢
    refine hc_of cop66 ?_
    show W _ _ _ _ ⟨_, _⟩; simp only [A66, List.cons_append, List.nil_append, List.length_cons, List.length_nil, Nat.reduceAdd, Nat.reduceSub, List.replicate]
    clear hD hS
    repeat (first | with_reducible refine w_seq ?_ | with_reducible refine w_reg ?_ | with_reducible refine w_block ?_ | with_reducible refine w_exit ?_ | with_reducible refine ws_nil ?_ | with_reducible refine q_then ?_ | with_reducible refine q_then_x ?_ | with_reducible refine q_block_x ?_ | (with_reducible refine w_loopF 60 ?_) | (with_reducible refine w_loopS ?_) | ((first | with_reducible refine ks fun K hK => ?_ | with_reducible refine kd fun K hK => ?_ | with_reducible refine kc fun K hK2 hK hK3 => ?_); simp (disch := omega) only [bg0, bg1, bg2, bg3, bg4, stepO, rsAs, eff, AX.ev, St.put, binA, conc, ap1, ofVal, Int.reduceTMod, Int.reduceTDiv, reduceCtorEq, fillA, AV.cells, AV.fine, AV.one, Nat.reduceAdd, Nat.reduceSub, Nat.reduceMul, Nat.reduceLT, Nat.reduceLeDiff, Int.reduceLT, Int.reduceLE, Int.reduceAdd, Int.reduceSub, Int.reduceNeg, Int.reduceMul, Int.reduceEq, Int.reduceToNat, nilA, moveA, live, loadA, rdA, storeA, wrA, intA, elemA, lenA, appA, srcA, isPtr, isNilPtr, partA, resOf, sliceA, cut, id, ap2, reduceIte, concs, chkB, geB, AOp.cls, AOp.xs, ltB, ltC, Nat.reduceBEq, Option.toList, List.cons_append, decide_eq_true, decide_eq_false, if_pos, if_neg, List.length_map, pA_at, List.cons_append, bVb, bVn, eq_self, Bool.and_self, BEq.rfl, not_true_eq_false]; (first | ((with_reducible refine hK _ ?_); clear hK K) | ((with_reducible refine hK ?_); clear hK hK3 K hK2) | ((with_reducible refine hK3 ?_); clear hK hK3 K hK2))) | ((with_reducible refine khs 67 ?_ ?_ ?_ ?_); rotate_left 2; exact i1) | ((with_reducible refine ret_0 ?_); try rfl))
  have i1 := ins43 G D g 0 20 hD (by omega) (by omega)
  have l1 := srt_len (D := D) (a := 0) (b := 20) (by omega) (by omega)
  by_cases h2 : N = 20
  · have i2 := ins43 G (srt D 0 20) g 20 20 (okl_srt hD (by omega) (by omega)) (by omega) (by omega)
    rw [srt_one (D := srt D 0 20) (by omega) (by omega) (by omega)] at i2
    have e : srt D 0 20 = ssort D := by rw [show 20 = D.length by omega]; exact srt_all D
    rw [e] at i1 i2 l1
    rw [l1] at i2
    rw [← hN, h2] at i1 i2 ⊢
    refine hc_of cop66 ?_
    show W _ _ _ _ ⟨_, _⟩; simp only [A66, List.cons_append, List.nil_append, List.length_cons, List.length_nil, Nat.reduceAdd, Nat.reduceSub, List.replicate]
    clear hD hS
    repeat (first | with_reducible refine w_seq ?_ | with_reducible refine w_reg ?_ | with_reducible refine w_block ?_ | with_reducible refine w_skip ?_ | with_reducible refine w_exit ?_ | with_reducible refine ws_nil ?_ | with_reducible refine q_then ?_ | with_reducible refine q_then_x ?_ | with_reducible refine q_block_n ?_ | with_reducible refine q_block_x ?_ | (with_reducible refine w_loopF 60 ?_) | (with_reducible refine w_loopS ?_) | ((first | with_reducible refine ks fun K hK => ?_ | with_reducible refine kd fun K hK => ?_ | with_reducible refine kc fun K hK2 hK hK3 => ?_); simp (disch := omega) only [bg0, bg1, bg2, bg3, bg4, stepO, rsAs, eff, AX.ev, St.put, binA, conc, ap1, ofVal, Int.reduceTMod, Int.reduceTDiv, reduceCtorEq, fillA, AV.cells, AV.fine, AV.one, Nat.reduceAdd, Nat.reduceSub, Nat.reduceMul, Nat.reduceLT, Nat.reduceLeDiff, Int.reduceLT, Int.reduceLE, Int.reduceAdd, Int.reduceSub, Int.reduceNeg, Int.reduceMul, Int.reduceEq, Int.reduceToNat, nilA, moveA, live, loadA, rdA, storeA, wrA, intA, elemA, lenA, appA, srcA, isPtr, isNilPtr, partA, resOf, sliceA, cut, id, ap2, reduceIte, concs, chkB, geB, AOp.cls, AOp.xs, ltB, ltC, Nat.reduceBEq, Option.toList, List.cons_append, decide_eq_true, decide_eq_false, if_pos, if_neg, List.length_map, pA_at, List.cons_append, bVb, bVn, eq_self, Bool.and_self, BEq.rfl, not_true_eq_false]; (first | ((with_reducible refine hK _ ?_); clear hK K) | ((with_reducible refine hK ?_); clear hK hK3 K hK2) | ((with_reducible refine hK3 ?_); clear hK hK3 K hK2))) | ((with_reducible refine khs 67 ?_ ?_ ?_ ?_); rotate_left 2; exact i1) | ((with_reducible refine khs 67 ?_ ?_ ?_ ?_); rotate_left 2; exact i2) | ((with_reducible refine ret_0 ?_); try rfl))
  have i2 := ins43 G (srt D 0 20) g 20 D.length (okl_srt hD (by omega) (by omega)) (by omega) (by omega)
  rw [srt_two (by omega), l1] at i2
  have s3 := hS g D.length [] (ssort (D.take 20)) (ssort (D.drop 20)) [] N 0 20 N (by simp [ssort_len]; omega) (by simp [ssort_len]; omega) rfl (by simp [ssort_len]; omega) (by simp [ssort_len]; omega) (by simp [ssort_len]; omega) (by simp [ssort_len]; omega) (ssort_le _) (ssort_le _) ⟨by simp [ssort_len]; omega, fun p hp => by
    simp only [List.nil_append, List.append_nil, List.mem_append, ssort_mem] at hp
    rcases hp with h | h
    · exact hD.sz p (List.mem_of_mem_take h)
    · exact hD.sz p (List.mem_of_mem_drop h)⟩
  rw [ssort_two, List.take_append_drop] at s3
  simp only [List.nil_append, List.append_nil] at s3 i2
  have l2 : (ssort (D.take 20) ++ ssort (D.drop 20)).length = N := by simp [ssort_len]; omega
  rw [← hN] at i1 i2 ⊢
  by_cases h3 : N < 40
  · generalize srt D 0 20 = D1 at *
    generalize ssort (D.take 20) ++ ssort (D.drop 20) = D2 at *
    generalize ssort D = D3 at *
    refine hc_of cop66 ?_
    show W _ _ _ _ ⟨_, _⟩; simp only [A66, List.cons_append, List.nil_append, List.length_cons, List.length_nil, Nat.reduceAdd, Nat.reduceSub, List.replicate]
    clear hD hS
    repeat (first | with_reducible refine w_seq ?_ | with_reducible refine w_reg ?_ | with_reducible refine w_block ?_ | with_reducible refine w_skip ?_ | with_reducible refine w_exit ?_ | with_reducible refine ws_nil ?_ | with_reducible refine q_then ?_ | with_reducible refine q_then_x ?_ | with_reducible refine q_block_n ?_ | with_reducible refine q_block_x ?_ | (with_reducible refine w_loopF 60 ?_) | (with_reducible refine w_loopS ?_) | ((first | with_reducible refine ks fun K hK => ?_ | with_reducible refine kd fun K hK => ?_ | with_reducible refine kc fun K hK2 hK hK3 => ?_); simp (disch := omega) only [bg0, bg1, bg2, bg3, bg4, stepO, rsAs, eff, AX.ev, St.put, binA, conc, ap1, ofVal, Int.reduceTMod, Int.reduceTDiv, reduceCtorEq, fillA, AV.cells, AV.fine, AV.one, Nat.reduceAdd, Nat.reduceSub, Nat.reduceMul, Nat.reduceLT, Nat.reduceLeDiff, Int.reduceLT, Int.reduceLE, Int.reduceAdd, Int.reduceSub, Int.reduceNeg, Int.reduceMul, Int.reduceEq, Int.reduceToNat, nilA, moveA, live, loadA, rdA, storeA, wrA, intA, elemA, lenA, appA, srcA, isPtr, isNilPtr, partA, resOf, sliceA, cut, id, ap2, reduceIte, concs, chkB, geB, AOp.cls, AOp.xs, ltB, ltC, Nat.reduceBEq, Option.toList, List.cons_append, decide_eq_true, decide_eq_false, if_pos, if_neg, List.length_map, pA_at, List.cons_append, bVb, bVn, eq_self, Bool.and_self, BEq.rfl, not_true_eq_false]; (first | ((with_reducible refine hK _ ?_); clear hK K) | ((with_reducible refine hK ?_); clear hK hK3 K hK2) | ((with_reducible refine hK3 ?_); clear hK hK3 K hK2))) | ((with_reducible refine khs 67 ?_ ?_ ?_ ?_); rotate_left 2; exact i1) | ((with_reducible refine khs 67 ?_ ?_ ?_ ?_); rotate_left 2; exact i2) | ((with_reducible refine khs 68 ?_ ?_ ?_ ?_); rotate_left 2; exact s3) | ((with_reducible refine ret_0 ?_); try rfl))
  · obtain rfl : N = 40 := by omega
    have i3 := ins43 G (ssort (D.take 20) ++ ssort (D.drop 20)) g 40 40 ⟨by rw [l2]; omega, fun p hp => by
      simp only [List.mem_append, ssort_mem] at hp
      rcases hp with h | h
      · exact hD.sz p (List.mem_of_mem_take h)
      · exact hD.sz p (List.mem_of_mem_drop h)⟩ (by omega) (by omega)
    rw [srt_one (by omega) (by omega) (by omega), l2] at i3
    generalize srt D 0 20 = D1 at *
    generalize ssort (D.take 20) ++ ssort (D.drop 20) = D2 at *
    generalize ssort D = D3 at *
    refine hc_of cop66 ?_
    show W _ _ _ _ ⟨_, _⟩; simp only [A66, List.cons_append, List.nil_append, List.length_cons, List.length_nil, Nat.reduceAdd, Nat.reduceSub, List.replicate]
    clear hD hS
    repeat (first | with_reducible refine w_seq ?_ | with_reducible refine w_reg ?_ | with_reducible refine w_block ?_ | with_reducible refine w_skip ?_ | with_reducible refine w_exit ?_ | with_reducible refine ws_nil ?_ | with_reducible refine q_then ?_ | with_reducible refine q_then_x ?_ | with_reducible refine q_block_n ?_ | with_reducible refine q_block_x ?_ | (with_reducible refine w_loopF 60 ?_) | (with_reducible refine w_loopS ?_) | ((first | with_reducible refine ks fun K hK => ?_ | with_reducible refine kd fun K hK => ?_ | with_reducible refine kc fun K hK2 hK hK3 => ?_); simp (disch := omega) only [bg0, bg1, bg2, bg3, bg4, stepO, rsAs, eff, AX.ev, St.put, binA, conc, ap1, ofVal, Int.reduceTMod, Int.reduceTDiv, reduceCtorEq, fillA, AV.cells, AV.fine, AV.one, Nat.reduceAdd, Nat.reduceSub, Nat.reduceMul, Nat.reduceLT, Nat.reduceLeDiff, Int.reduceLT, Int.reduceLE, Int.reduceAdd, Int.reduceSub, Int.reduceNeg, Int.reduceMul, Int.reduceEq, Int.reduceToNat, nilA, moveA, live, loadA, rdA, storeA, wrA, intA, elemA, lenA, appA, srcA, isPtr, isNilPtr, partA, resOf, sliceA, cut, id, ap2, reduceIte, concs, chkB, geB, AOp.cls, AOp.xs, ltB, ltC, Nat.reduceBEq, Option.toList, List.cons_append, decide_eq_true, decide_eq_false, if_pos, if_neg, List.length_map, pA_at, List.cons_append, bVb, bVn, eq_self, Bool.and_self, BEq.rfl, not_true_eq_false]; (first | ((with_reducible refine hK _ ?_); clear hK K) | ((with_reducible refine hK ?_); clear hK hK3 K hK2) | ((with_reducible refine hK3 ?_); clear hK hK3 K hK2))) | ((with_reducible refine khs 67 ?_ ?_ ?_ ?_); rotate_left 2; exact i1) | ((with_reducible refine khs 67 ?_ ?_ ?_ ?_); rotate_left 2; exact i2) | ((with_reducible refine khs 67 ?_ ?_ ?_ ?_); rotate_left 2; exact i3) | ((with_reducible refine khs 68 ?_ ?_ ?_ ?_); rotate_left 2; exact s3) | ((with_reducible refine ret_0 ?_); try rfl))
set_option maxHeartbeats 4000000 in
theorem sort28 (G : Nat → AV) (hS : SymOk G) (D : List Pr) (g : Nat) (hD : Okl D) (h40 : D.length ≤ 40) :
    HC Try.prog G 63 [.ol 0 g D.length, cF] [rw0 D g] (.tup []) [rw0 (ssort D) g] := by
  have h := stable37 G hS D g hD h40
  refine hc_of cop63 ?_
  show W _ _ _ _ ⟨_, _⟩; simp only [A63, List.cons_append, List.nil_append, List.length_cons, List.length_nil, Nat.reduceAdd, Nat.reduceSub, List.replicate]
  repeat (first | with_reducible refine w_reg ?_ | with_reducible refine ws_nil ?_ | ((first | with_reducible refine ks fun K hK => ?_ | with_reducible refine kd fun K hK => ?_ | with_reducible refine kc fun K hK2 hK hK3 => ?_); simp (disch := omega) only [bg0, bg1, bg2, bg3, bg4, stepO, rsAs, eff, AX.ev, St.put, binA, conc, ap1, ofVal, Int.reduceTMod, Int.reduceTDiv, reduceCtorEq, fillA, AV.cells, AV.fine, AV.one, Nat.reduceAdd, Nat.reduceSub, Nat.reduceMul, Nat.reduceLT, Nat.reduceLeDiff, Int.reduceLT, Int.reduceLE, Int.reduceAdd, Int.reduceSub, Int.reduceNeg, Int.reduceMul, Int.reduceEq, Int.reduceToNat, nilA, moveA, live, loadA, rdA, storeA, wrA, intA, elemA, lenA, appA, srcA, isPtr, isNilPtr, partA, resOf, sliceA, cut, id, ap2, reduceIte, concs, chkB, geB, AOp.cls, AOp.xs, ltB, ltC, Nat.reduceBEq, Option.toList, List.cons_append, decide_eq_true, decide_eq_false, if_pos, if_neg, List.length_map, pA_at, List.cons_append, bVb, bVn, eq_self, Bool.and_self, BEq.rfl, not_true_eq_false]; (first | ((with_reducible refine hK _ ?_); clear hK K) | ((with_reducible refine hK ?_); clear hK hK3 K hK2) | ((with_reducible refine hK3 ?_); clear hK hK3 K hK2))) | ((with_reducible refine khs 66 ?_ ?_ ?_ ?_); rotate_left 2; exact h) | ((with_reducible refine ret_0 ?_); try rfl))
theorem isl : isSliceT Try.prog 25 = true := by kernel_rfl
set_option maxHeartbeats 4000000 in
theorem clone27 (G : Nat → AV) (l : List Pr) (hl : Okl l) (h0 : l ≠ []) (H : Hp) : HC Try.prog G 62 [.sl 2 (l.map pA)] H (.ol H.length 1 l.length) (H ++ [⟨62, 2, l.map pA, 1, 0⟩]) := by
  have hlen := hl.len
  have he : (l.map pA).isEmpty = false := by cases l with | nil => exact absurd rfl h0 | cons => rfl
  refine hc_of cop62 ?_
  show W _ _ _ _ ⟨_, _⟩; simp only [A62, List.cons_append, List.nil_append, List.length_cons, List.length_nil, Nat.reduceAdd, Nat.reduceSub, List.replicate]
  repeat (first | with_reducible refine w_seq ?_ | with_reducible refine w_reg ?_ | with_reducible refine w_skip ?_ | with_reducible refine ws_nil ?_ | with_reducible refine q_then ?_ | with_reducible refine w_ret ?_ | ((first | with_reducible refine ks fun K hK => ?_ | with_reducible refine kd fun K hK => ?_ | with_reducible refine kc fun K hK2 hK hK3 => ?_); simp (disch := omega) only [bg0, bg1, bg2, bg3, bg4, stepO, rsAs, eff, AX.ev, St.put, binA, conc, ap1, ofVal, Int.reduceTMod, Int.reduceTDiv, reduceCtorEq, fillA, AV.cells, AV.fine, AV.one, Nat.reduceAdd, Nat.reduceSub, Nat.reduceMul, Nat.reduceLT, Nat.reduceLeDiff, Int.reduceLT, Int.reduceLE, Int.reduceAdd, Int.reduceSub, Int.reduceNeg, Int.reduceMul, Int.reduceEq, Int.reduceToNat, nilA, moveA, live, loadA, rdA, storeA, wrA, intA, elemA, lenA, appA, srcA, isPtr, isNilPtr, partA, resOf, sliceA, cut, id, ap2, reduceIte, concs, chkB, geB, AOp.cls, AOp.xs, ltB, ltC, Nat.reduceBEq, Option.toList, List.cons_append, decide_eq_true, decide_eq_false, if_pos, if_neg, List.length_map, pA_at, List.cons_append, bVb, bVn, eq_self, Bool.and_self, BEq.rfl, not_true_eq_false, isl, nilCmp, isRow, isNl, he, Bool.not_false]; (first | ((with_reducible refine hK _ ?_); clear hK K) | ((with_reducible refine hK ?_); clear hK hK3 K hK2) | ((with_reducible refine hK3 ?_); clear hK hK3 K hK2))) | ((first | with_reducible refine ret_h fun K hK => ?_ | with_reducible refine ret_hh rfl fun K hK => ?_ | with_reducible refine ret_pp fun K hK => ?_); simp (disch := omega) only [bg0, bg1, bg2, bg3, bg4, stepO, rsAs, eff, AX.ev, St.put, binA, conc, ap1, ofVal, Int.reduceTMod, Int.reduceTDiv, reduceCtorEq, fillA, AV.cells, AV.fine, AV.one, Nat.reduceAdd, Nat.reduceSub, Nat.reduceMul, Nat.reduceLT, Nat.reduceLeDiff, Int.reduceLT, Int.reduceLE, Int.reduceAdd, Int.reduceSub, Int.reduceNeg, Int.reduceMul, Int.reduceEq, Int.reduceToNat, nilA, moveA, live, loadA, rdA, storeA, wrA, intA, elemA, lenA, appA, srcA, isPtr, isNilPtr, partA, resOf, sliceA, cut, id, ap2, reduceIte, concs, chkB, geB, AOp.cls, AOp.xs, ltB, ltC, Nat.reduceBEq, Option.toList, List.cons_append, decide_eq_true, decide_eq_false, if_pos, if_neg, List.length_map, pA_at, List.cons_append, bVb, bVn, eq_self, Bool.and_self, BEq.rfl, not_true_eq_false, isl, nilCmp, isRow, isNl, he, Bool.not_false]; (first | ((with_reducible refine hK _ ?_ ?_ ?_ ?_); rotate_left 2; rfl; rfl) | ((with_reducible refine hK _ ?_); rfl))))
set_option maxHeartbeats 4000000 in
theorem clone27e (G : Nat → AV) : PC Try.prog G 62 [.sl 2 []] (.sl 2 []) := by
  refine @pc_em _ _ _ _ _ cop62 [] [] 2 _ fun b => ?_
  cases b
  all_goals
    show W _ _ _ _ ⟨_, _⟩
    simp only [A62, List.cons_append, List.nil_append, List.length_cons, List.length_nil, Nat.reduceAdd, Nat.reduceSub, List.replicate]
    repeat (first | with_reducible refine w_seq ?_ | with_reducible refine w_reg ?_ | with_reducible refine w_skip ?_ | with_reducible refine ws_nil ?_ | with_reducible refine q_then ?_ | with_reducible refine w_ret ?_ | with_reducible refine q_then_r ?_ | ((first | with_reducible refine ks fun K hK => ?_ | with_reducible refine kd fun K hK => ?_ | with_reducible refine kc fun K hK2 hK hK3 => ?_); simp (disch := omega) only [bg0, bg1, bg2, bg3, bg4, stepO, rsAs, eff, AX.ev, St.put, binA, conc, ap1, ofVal, Int.reduceTMod, Int.reduceTDiv, reduceCtorEq, fillA, AV.cells, AV.fine, AV.one, Nat.reduceAdd, Nat.reduceSub, Nat.reduceMul, Nat.reduceLT, Nat.reduceLeDiff, Int.reduceLT, Int.reduceLE, Int.reduceAdd, Int.reduceSub, Int.reduceNeg, Int.reduceMul, Int.reduceEq, Int.reduceToNat, nilA, moveA, live, loadA, rdA, storeA, wrA, intA, elemA, lenA, appA, srcA, isPtr, isNilPtr, partA, resOf, sliceA, cut, id, ap2, reduceIte, concs, chkB, geB, AOp.cls, AOp.xs, ltB, ltC, Nat.reduceBEq, Option.toList, List.cons_append, decide_eq_true, decide_eq_false, if_pos, if_neg, List.length_map, pA_at, List.cons_append, bVb, bVn, eq_self, Bool.and_self, BEq.rfl, not_true_eq_false, isl, nilCmp, isRow, isNi, isNl, Bool.not_false, Bool.not_true]; (first | ((with_reducible refine hK _ ?_); clear hK K) | ((with_reducible refine hK ?_); clear hK hK3 K hK2) | ((with_reducible refine hK3 ?_); clear hK hK3 K hK2))) | ((first | with_reducible refine ret_h fun K hK => ?_ | with_reducible refine ret_hh rfl fun K hK => ?_ | with_reducible refine ret_pp fun K hK => ?_); simp (disch := omega) only [bg0, bg1, bg2, bg3, bg4, stepO, rsAs, eff, AX.ev, St.put, binA, conc, ap1, ofVal, Int.reduceTMod, Int.reduceTDiv, reduceCtorEq, fillA, AV.cells, AV.fine, AV.one, Nat.reduceAdd, Nat.reduceSub, Nat.reduceMul, Nat.reduceLT, Nat.reduceLeDiff, Int.reduceLT, Int.reduceLE, Int.reduceAdd, Int.reduceSub, Int.reduceNeg, Int.reduceMul, Int.reduceEq, Int.reduceToNat, nilA, moveA, live, loadA, rdA, storeA, wrA, intA, elemA, lenA, appA, srcA, isPtr, isNilPtr, partA, resOf, sliceA, cut, id, ap2, reduceIte, concs, chkB, geB, AOp.cls, AOp.xs, ltB, ltC, Nat.reduceBEq, Option.toList, List.cons_append, decide_eq_true, decide_eq_false, if_pos, if_neg, List.length_map, pA_at, List.cons_append, bVb, bVn, eq_self, Bool.and_self, BEq.rfl, not_true_eq_false, isl, nilCmp, isRow, isNi, isNl, Bool.not_false, Bool.not_true]; (first | ((with_reducible refine hK _ ?_ ?_ ?_ ?_); rotate_left 2; rfl; rfl) | ((with_reducible refine hK _ ?_); rfl))))
end Go.Proofs.Ytfdfmhapcjckoaa.Sim.Pr7
