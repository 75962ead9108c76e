/- Histories: an invocation, a response. -/
import Derived.Test.YtjooigegjkpdpaaHiH
namespace Go.Proofs.Ytjooigegjkpdpaa.Sim
open Go.RowKit
set_option maxRecDepth 100000
set_option linter.unusedSimpArgs false
set_option linter.unusedVariables false
abbrev cA (c : Hi.Cl) : AV := .agg [I c.op, S c.key, S c.val, S c.old, I c.h]
abbrev aA (a : Hi.An) : AV := .agg [I a.code, Bo a.has, S a.key, S a.val, I a.n]
theorem extV_cases {es : List Hi.Ev} : (Hi.mayD es = 0 ∧ extV es = .tup [.sl 12 (es.map evA), I 0]) ∨ (Hi.mayD es ≠ 0 ∧ extV es = .tup [.sl 12 [], I (Hi.mayD es)]) := by
  unfold extV
  by_cases h : Hi.mayD es = 0
  · rw [if_pos h]; exact .inl ⟨h, rfl⟩
  · rw [if_neg h]; exact .inr ⟨h, rfl⟩
section
variable (G : Nat → AV)
theorem add16 (es : List Hi.Ev) (hn : es.length ≤ 1000) (t : Int) (c : Hi.Cl) : PC Try.prog G 16 [.sl 12 (es.map evA), I t, cA c] (extV (es ++ [(⟨false, t, c, Hi.An0⟩ : Hi.Ev)])) := by
  have c27 : PC Try.prog G 27 [.sl 12 (es.map evA), .agg [Bo false, I t, I c.op, S c.key, S c.val, S c.old, I c.h, I 0, Bo false, S ⟨#[]⟩, S ⟨#[]⟩, I 0]] (extV (es ++ [(⟨false, t, c, Hi.An0⟩ : Hi.Ev)])) := ext27 G es hn ⟨false, t, c, Hi.An0⟩
  have hp : ((es ++ [(⟨false, t, c, Hi.An0⟩ : Hi.Ev)]).map evA).all AV.isP = true := isP_e _
  generalize es ++ [(⟨false, t, c, Hi.An0⟩ : Hi.Ev)] = es' at *
  rcases extV_cases (es := es') with ⟨h0, h1⟩ | ⟨h0, h1⟩
  all_goals
    rw [h1] at c27 ⊢
    refine pc_ofV cop16 ?_
    repeat' ((conv => whnf); first | (with_reducible refine SeqP.go ?_) | ((with_reducible refine ObD.mk ?_ ?_); (focus (first | rfl | (simp; done)))) | ((with_reducible refine ObN.mk ?_ ?_); (focus (first | rfl | assumption | omega | (simp only [List.length_map, List.length_append, List.length_cons, List.length_nil]; omega) | (simp; done) | (simp; omega)))) | ((with_reducible refine (?_ : ObR _ _ _)); (first | (refine ObR.mk _ (by assumption) ?_) | (refine ObR.mk _ (by with_reducible rfl) ?_) | (refine ObR.map (by (first | omega | assumption | (simp only [List.length_map, List.length_append, List.length_cons, List.length_nil, List.length_take, List.length_drop, List.length_set, List.length_replicate]; omega))) (fun x hx => ?_)) | (refine ObR.mk _ rfl ?_))) | ((with_reducible refine ObC.f 27 ?_); (first | (with_reducible refine ObC.mk _ (c27) ?_) | (refine ObC.mk _ (c27) ?_))) | ((with_reducible refine ObEq.mk ?_); (focus (first | rfl | assumption))))
set_option maxHeartbeats 4000000 in
theorem end17 (es : List Hi.Ev) (hn : es.length ≤ 1000) (t : Int) (a : Hi.An) : PC Try.prog G 17 [.sl 12 (es.map evA), I t, aA a] (extV (es ++ [⟨true, t, Hi.clP es t, a⟩])) := by
  have c24 := en24 G es (by omega)
  unfold Hi.clP
  cases hR : Hi.entR es with
  | err c =>
    rw [hR] at c24
    dsimp only [resA, resH] at c24
    have c27 : PC Try.prog G 27 [.sl 12 (es.map evA), .agg [Bo true, I t, I 0, S ⟨#[]⟩, S ⟨#[]⟩, S ⟨#[]⟩, I 0, I a.code, Bo a.has, S a.key, S a.val, I a.n]] (extV (es ++ [(⟨true, t, Hi.Cl0, a⟩ : Hi.Ev)])) := ext27 G es hn ⟨true, t, Hi.Cl0, a⟩
    dsimp only
    have hp : ((es ++ [(⟨true, t, Hi.Cl0, a⟩ : Hi.Ev)]).map evA).all AV.isP = true := isP_e _
    generalize es ++ [(⟨true, t, Hi.Cl0, a⟩ : Hi.Ev)] = es' at *
    rcases extV_cases (es := es') with ⟨h0, h1⟩ | ⟨h0, h1⟩
    all_goals
      rw [h1] at c27 ⊢
      refine pc_ofV cop17 ?_
      repeat' ((conv => whnf); first | (with_reducible refine SeqP.go ?_) | ((with_reducible refine ObD.mk ?_ ?_); (focus (first | rfl | (simp; done)))) | ((with_reducible refine ObN.mk ?_ ?_); (focus (first | rfl | assumption | omega | (simp only [List.length_map, List.length_append, List.length_cons, List.length_nil]; omega) | (simp; done) | (simp; omega)))) | (with_reducible refine ObT.ff ?_) | ((with_reducible refine (?_ : ObU _ _)); (refine ObU.mk _ (by first | assumption | ((conv => lhs; simp only [List.set_cons_zero, List.set_cons_succ, List.take_succ_cons, List.take_zero, List.drop_succ_cons, List.drop_zero, List.nil_append, List.cons_append, List.append_nil, List.take_nil, List.drop_nil]); try rfl) | rfl) ?_)) | ((with_reducible refine (?_ : ObR _ _ _)); (first | (refine ObR.mk _ (by assumption) ?_) | (refine ObR.mk _ (by with_reducible rfl) ?_) | (refine ObR.map (by (first | omega | assumption | (simp only [List.length_map, List.length_append, List.length_cons, List.length_nil, List.length_take, List.length_drop, List.length_set, List.length_replicate]; omega))) (fun x hx => ?_)) | (refine ObR.mk _ rfl ?_))) | ((with_reducible refine ObH.f 24 ?_); refine ObH.frn _ (by simp only [List.length_cons, List.length_nil, Nat.reduceAdd]; rfl) [] (c24) (by simp) rfl (by simp) ?_) | ((with_reducible refine ObC.f 27 ?_); (first | (with_reducible refine ObC.mk _ (c27) ?_) | (refine ObC.mk _ (c27) ?_))) | ((with_reducible refine ObEq.mk ?_); (focus (first | rfl | assumption))) | ((with_reducible refine ObAs.mk ?_ ?_); (focus (first | rfl | (simp [rnB, rnC, rnL]; done)))) | ((with_reducible refine (?_ : ObRs _ _ _)); (refine ObRs.mk _ rfl ?_)))
  | ok s =>
    rw [hR] at c24
    obtain ⟨l, m, clk⟩ := s
    have hg := Hi.ent_good (Hi.Good.zero _) hR
    have r1 := nr_m (clk : Int) m
    cases hf : Hi.fnd m t with
    | none =>
      have hlk := lk_no hf
      have c27 : PC Try.prog G 27 [.sl 12 (es.map evA), .agg [Bo true, I t, I 0, S ⟨#[]⟩, S ⟨#[]⟩, S ⟨#[]⟩, I 0, I a.code, Bo a.has, S a.key, S a.val, I a.n]] (extV (es ++ [(⟨true, t, Hi.Cl0, a⟩ : Hi.Ev)])) := ext27 G es hn ⟨true, t, Hi.Cl0, a⟩
      simp only [hf]
      have hp : ((es ++ [(⟨true, t, Hi.Cl0, a⟩ : Hi.Ev)]).map evA).all AV.isP = true := isP_e _
      generalize es ++ [(⟨true, t, Hi.Cl0, a⟩ : Hi.Ev)] = es' at *
      have r2 := nr_o l
      cases l with
      | nil =>
        dsimp only [resA, resH, rowsH, slA, mapR] at c24
        rcases extV_cases (es := es') with ⟨h0, h1⟩ | ⟨h0, h1⟩
        all_goals
          rw [h1] at c27 ⊢
          refine pc_ofV cop17 ?_
          repeat' ((conv => whnf); first | (with_reducible refine SeqP.go ?_) | ((with_reducible refine ObD.mk ?_ ?_); (focus (first | rfl | (simp; done)))) | ((with_reducible refine ObN.mk ?_ ?_); (focus (first | rfl | assumption | omega | (simp only [List.length_map, List.length_append, List.length_cons, List.length_nil]; omega) | (simp; done) | (simp; omega)))) | (with_reducible refine ObT.ff ?_) | ((with_reducible refine (?_ : ObU _ _)); (refine ObU.mk _ (by first | assumption | ((conv => lhs; simp only [List.set_cons_zero, List.set_cons_succ, List.take_succ_cons, List.take_zero, List.drop_succ_cons, List.drop_zero, List.nil_append, List.cons_append, List.append_nil, List.take_nil, List.drop_nil]); try rfl) | rfl) ?_)) | ((with_reducible refine (?_ : ObR _ _ _)); (first | (refine ObR.mk _ (by assumption) ?_) | (refine ObR.mk _ (by with_reducible rfl) ?_) | (refine ObR.map (by (first | omega | assumption | (simp only [List.length_map, List.length_append, List.length_cons, List.length_nil, List.length_take, List.length_drop, List.length_set, List.length_replicate]; omega))) (fun x hx => ?_)) | (refine ObR.mk _ rfl ?_))) | ((with_reducible refine ObH.f 24 ?_); refine ObH.frn _ (by simp only [List.length_cons, List.length_nil, Nat.reduceAdd]; rfl) [] (c24) (by simp) rfl (by simp) ?_) | ((with_reducible refine ObC.f 27 ?_); (first | (with_reducible refine ObC.mk _ (c27) ?_) | (refine ObC.mk _ (c27) ?_))) | ((with_reducible refine ObEq.mk ?_); (focus (first | rfl | assumption))) | ((with_reducible refine ObAs.mk ?_ ?_); (focus (first | rfl | (simp [rnB, rnC, rnL]; done)))) | ((with_reducible refine (?_ : ObRs _ _ _)); (refine ObRs.mk _ rfl ?_)) | ((with_reducible refine ObBk.same ?_ ?_); (focus (first | rfl | assumption | (simp; done)))) | ((with_reducible refine (?_ : ObK _ _)); (refine ObK.mk _ (hlk) ?_)))
      | cons o l =>
        dsimp only [resA, resH, rowsH, slA, mapR, lR] at c24
        rcases extV_cases (es := es') with ⟨h0, h1⟩ | ⟨h0, h1⟩
        all_goals
          rw [h1] at c27 ⊢
          refine pc_ofV cop17 ?_
          repeat' ((conv => whnf); first | (with_reducible refine SeqP.go ?_) | ((with_reducible refine ObD.mk ?_ ?_); (focus (first | rfl | (simp; done)))) | ((with_reducible refine ObN.mk ?_ ?_); (focus (first | rfl | assumption | omega | (simp only [List.length_map, List.length_append, List.length_cons, List.length_nil]; omega) | (simp; done) | (simp; omega)))) | (with_reducible refine ObT.ff ?_) | ((with_reducible refine (?_ : ObU _ _)); (refine ObU.mk _ (by first | assumption | ((conv => lhs; simp only [List.set_cons_zero, List.set_cons_succ, List.take_succ_cons, List.take_zero, List.drop_succ_cons, List.drop_zero, List.nil_append, List.cons_append, List.append_nil, List.take_nil, List.drop_nil]); try rfl) | rfl) ?_)) | ((with_reducible refine (?_ : ObR _ _ _)); (first | (refine ObR.mk _ (by assumption) ?_) | (refine ObR.mk _ (by with_reducible rfl) ?_) | (refine ObR.map (by (first | omega | assumption | (simp only [List.length_map, List.length_append, List.length_cons, List.length_nil, List.length_take, List.length_drop, List.length_set, List.length_replicate]; omega))) (fun x hx => ?_)) | (refine ObR.mk _ rfl ?_))) | ((with_reducible refine ObH.f 24 ?_); refine ObH.frn _ (by simp only [List.length_cons, List.length_nil, Nat.reduceAdd]; rfl) [] (c24) (by simp) rfl (by simp) ?_) | ((with_reducible refine ObC.f 27 ?_); (first | (with_reducible refine ObC.mk _ (c27) ?_) | (refine ObC.mk _ (c27) ?_))) | ((with_reducible refine ObEq.mk ?_); (focus (first | rfl | assumption))) | ((with_reducible refine ObAs.mk ?_ ?_); (focus (first | rfl | (simp [rnB, rnC, rnL]; done)))) | ((with_reducible refine (?_ : ObRs _ _ _)); (refine ObRs.mk _ rfl ?_)) | ((with_reducible refine ObBk.same ?_ ?_); (focus (first | rfl | assumption | (simp; done)))) | ((with_reducible refine (?_ : ObK _ _)); (refine ObK.mk _ (hlk) ?_)))
    | some i =>
      have hlk := lk_some hf
      obtain ⟨p, hp1, hp2, hp3⟩ := Hi.fnd_mem hf
      have hil := hg.ix p hp1
      rw [hp3] at hil
      dsimp only at hil
      obtain ⟨x, hx⟩ : ∃ x, l[i]? = some x := ⟨l[i], List.getElem?_eq_getElem hil⟩
      have qo := opA_at hx
      have c27 : PC Try.prog G 27 [.sl 12 (es.map evA), .agg [Bo true, I t, I x.c.op, S x.c.key, S x.c.val, S x.c.old, I x.c.h, I a.code, Bo a.has, S a.key, S a.val, I a.n]] (extV (es ++ [(⟨true, t, x.c, a⟩ : Hi.Ev)])) := ext27 G es hn ⟨true, t, x.c, a⟩
      simp only [hf, hx]
      have hp : ((es ++ [(⟨true, t, x.c, a⟩ : Hi.Ev)]).map evA).all AV.isP = true := isP_e _
      generalize es ++ [(⟨true, t, x.c, a⟩ : Hi.Ev)] = es' at *
      simp only [opA] at qo
      have r2 := nr_o l
      cases l with
      | nil => simp at hil
      | cons o l =>
        dsimp only [resA, resH, rowsH, slA, mapR, lR] at c24
        rcases extV_cases (es := es') with ⟨h0, h1⟩ | ⟨h0, h1⟩
        all_goals
          rw [h1] at c27 ⊢
          refine pc_ofV cop17 ?_
          repeat' ((conv => whnf); first | (with_reducible refine SeqP.go ?_) | ((with_reducible refine ObD.mk ?_ ?_); (focus (first | rfl | (simp [List.length_cons]; done)))) | ((with_reducible refine ObN.mk ?_ ?_); (focus (first | rfl | assumption | omega | (simp only [List.length_map, List.length_append, List.length_cons, List.length_nil, List.length_cons]; omega) | (simp [List.length_cons]; done) | (simp [List.length_cons]; omega)))) | (with_reducible refine ObT.tt ?_) | ((with_reducible refine ObX.mk _ rfl ?_ ?_); (focus (first | omega | assumption | (simp only [List.length_map, List.length_append, List.length_cons, List.length_nil, List.length_take, List.length_drop, List.length_set, List.length_replicate, List.length_cons]; omega)))) | ((with_reducible refine (?_ : ObU _ _)); (refine ObU.mk _ (by first | assumption | ((conv => lhs; simp only [List.set_cons_zero, List.set_cons_succ, List.take_succ_cons, List.take_zero, List.drop_succ_cons, List.drop_zero, List.nil_append, List.cons_append, List.append_nil, List.take_nil, List.drop_nil, List.length_cons]); try rfl) | rfl) ?_)) | ((with_reducible refine (?_ : ObR _ _ _)); (first | (refine ObR.mk _ (by assumption) ?_) | (refine ObR.mk _ (by exact qo) ?_) | (refine ObR.mk _ (by with_reducible rfl) ?_) | (refine ObR.map (by (first | omega | assumption | (simp only [List.length_map, List.length_append, List.length_cons, List.length_nil, List.length_take, List.length_drop, List.length_set, List.length_replicate, List.length_cons]; omega))) (fun x hx => ?_)) | (refine ObR.mk _ rfl ?_))) | ((with_reducible refine ObH.f 24 ?_); refine ObH.frn _ (by simp only [List.length_cons, List.length_nil, Nat.reduceAdd]; rfl) [] (c24) (by simp) rfl (by simp) ?_) | ((with_reducible refine ObC.f 27 ?_); (first | (with_reducible refine ObC.mk _ (c27) ?_) | (refine ObC.mk _ (c27) ?_))) | ((with_reducible refine ObEq.mk ?_); (focus (first | rfl | assumption))) | ((with_reducible refine ObAs.mk ?_ ?_); (focus (first | rfl | (simp [rnB, rnC, rnL]; done)))) | ((with_reducible refine (?_ : ObRs _ _ _)); (refine ObRs.mk _ rfl ?_)) | ((with_reducible refine ObBk.same ?_ ?_); (focus (first | rfl | assumption | (simp [List.length_cons]; done)))) | ((with_reducible refine (?_ : ObK _ _)); (refine ObK.mk _ (hlk) ?_)))
end
end Go.Proofs.Ytjooigegjkpdpaa.Sim
