/- Histories: entries, being ahead. -/
import Derived.Test.YtjooigegjkpdpaaHiB
namespace Go.Proofs.Ytjooigegjkpdpaa.Sim
open Go.RowKit
set_option maxRecDepth 100000
set_option linter.unusedSimpArgs false
set_option linter.unusedVariables false
section
variable (G : Nat → AV)
theorem isP_e (l : List Hi.Ev) : (l.map evA).all AV.isP = true := by simp [evA, AV.isP, AV.isC, AV.isC0]
theorem few6 (es : List Hi.Ev) (hn : es.length ≤ 9223372036854775807) : PC Try.prog G 6 [.sl 12 (es.map evA)] (.sl 12 ((es.take 60).map evA)) := by
  have e : (if (60 : Int) < (es.length : Int) then (60 : Int) else (es.length : Int)) = ((min es.length 60 : Nat) : Int) := by split <;> omega
  have e2 : List.drop 0 (List.take (min es.length 60) (es.map evA)) = (es.take 60).map evA := by
    rw [List.drop_zero, ← List.map_take]
    congr 1
    by_cases h : es.length ≤ 60
    · rw [Nat.min_eq_left h, List.take_of_length_le (Nat.le_refl _), List.take_of_length_le h]
    · rw [Nat.min_eq_right (by omega)]
  have hl : ((es.take 60).map evA).length ≤ 60 := by simp; omega
  refine pc_ofV cop6 ?_
  repeat' ((conv => whnf); first | (with_reducible refine SeqP.go ?_) | ((with_reducible refine ObD.mk ?_ ?_); (focus (first | rfl | (simp; done)))) | ((with_reducible refine ObN.mk ?_ ?_); (focus (first | rfl | assumption | omega | (simp only [List.length_map, List.length_append, List.length_cons, List.length_nil]; omega) | (simp; done) | (simp; omega)))) | (with_reducible refine ObZ.mk _ rfl ?_) | ((with_reducible refine (?_ : ObL _ _)); (refine ObL.mk _ (by first | exact (List.length_map _) | assumption | exact (List.length_map _).trans (by assumption) | exact List.length_map _ | rfl) ?_)) | (with_reducible refine ObE.min ?_))
  all_goals conv => whnf
  rw [e]
  repeat' ((conv => whnf); first | (with_reducible refine SeqP.go ?_) | ((with_reducible refine ObN.mk ?_ ?_); (focus (first | rfl | assumption | omega | (simp only [List.length_map, List.length_append, List.length_cons, List.length_nil]; omega) | (simp; done) | (simp; omega)))) | ((with_reducible refine (?_ : ObL _ _)); (refine ObL.mk _ (by first | exact (List.length_map _) | assumption | exact (List.length_map _).trans (by assumption) | exact List.length_map _ | rfl) ?_)) | ((with_reducible refine (?_ : ObU _ _)); (refine ObU.mk _ (by first | exact e2 | assumption | ((conv => lhs; simp only [List.set_cons_zero, List.set_cons_succ, List.take_succ_cons, List.take_zero, List.drop_succ_cons, List.drop_zero, List.nil_append, List.cons_append, List.append_nil, List.take_nil, List.drop_nil]); try rfl) | rfl) ?_)) | ((with_reducible refine ObJ.zn ?_ ?_); (focus (first | omega | assumption | (simp only [List.length_map, List.length_append, List.length_cons, List.length_nil, List.length_take, List.length_drop, List.length_set, List.length_replicate]; omega)))))
  conv => whnf
  rw [List.take_of_length_le (by simp)]
  have hp : ((es.take 60).map evA).all AV.isP = true := isP_e _
  repeat' ((conv => whnf); first | ((with_reducible refine ObN.mk ?_ ?_); (focus (first | rfl | assumption | omega | (simp only [List.length_map, List.length_append, List.length_cons, List.length_nil]; omega) | (simp; done) | (simp; omega)))) | ((with_reducible refine ObEq.mk ?_); (focus (first | rfl | assumption))))
theorem isP_o (l : List Hi.Op) : (l.map opA).all AV.isP = true := by simp [opA, AV.isP, AV.isC, AV.isC0]
def opsR : Hi.R → AV | .ok s => .tup [.sl 14 (s.l.map opA), I 0] | .err c => .tup [.sl 14 [], I c]
theorem ops8 (es : List Hi.Ev) (hn : es.length ≤ 1000000) (hc : ∀ c, Hi.entR es = .err c → c ≠ 0) : PC Try.prog G 8 [.sl 12 (es.map evA)] (opsR (Hi.entR es)) := by
  have c := en24 G es hn
  cases hR : Hi.entR es with
  | ok s =>
    rw [hR] at c
    obtain ⟨l, m, clk⟩ := s
    cases l with
    | nil =>
      dsimp only [resA, resH, rowsH, slA, opsR, mapR] at c ⊢
      refine pc_ofV cop8 ?_
      repeat' ((conv => whnf); first | (with_reducible refine SeqP.go ?_) | ((with_reducible refine ObN.mk ?_ ?_); (focus (first | rfl | assumption | omega | (simp only [List.length_map, List.length_append, List.length_cons, List.length_nil]; omega) | (simp; done) | (simp; omega)))) | (with_reducible refine ObT.ff ?_) | ((with_reducible refine ObB.yes ?_ ?_); (focus (first | assumption | (with_reducible rfl) | omega))) | ((with_reducible refine ObH.f 24 ?_); (first | (with_reducible refine ObH.mk _ _ (c) ?_) | (refine ObH.mk _ _ (c) ?_))) | ((with_reducible refine ObEq.mk ?_); (focus (first | rfl | assumption))))
    | cons o l =>
      dsimp only [resA, resH, rowsH, slA, opsR, mapR, lR] at c ⊢
      refine pc_ofV cop8 ?_
      repeat' ((conv => whnf); first | (with_reducible refine SeqP.go ?_) | ((with_reducible refine ObN.mk ?_ ?_); (focus (first | rfl | assumption | omega | (simp only [List.length_map, List.length_append, List.length_cons, List.length_nil]; omega) | (simp; done) | (simp; omega)))) | (with_reducible refine ObT.ff ?_) | ((with_reducible refine ObB.yes ?_ ?_); (focus (first | assumption | (with_reducible rfl) | omega))) | ((with_reducible refine (?_ : ObU _ _)); (refine ObU.mk _ (by first | assumption | ((conv => lhs; simp only [List.set_cons_zero, List.set_cons_succ, List.take_succ_cons, List.take_zero, List.drop_succ_cons, List.drop_zero, List.nil_append, List.cons_append, List.append_nil, List.take_nil, List.drop_nil]); try rfl) | rfl) ?_)) | ((with_reducible refine ObH.f 24 ?_); (first | (with_reducible refine ObH.mk _ _ (c) ?_) | (refine ObH.mk _ _ (c) ?_))))
      conv => whnf
      rw [List.take_of_length_le (by simp)]
      have hp : ((o :: l).map opA).all AV.isP = true := isP_o (o :: l)
      repeat' ((conv => whnf); first | ((with_reducible refine ObN.mk ?_ ?_); (focus (first | rfl | assumption | omega | (simp only [List.length_map, List.length_append, List.length_cons, List.length_nil]; omega) | (simp; done) | (simp; omega)))) | ((with_reducible refine ObEq.mk ?_); (focus (first | rfl | assumption))))
  | err e =>
    rw [hR] at c
    have he := hc e hR
    dsimp only [resA, resH, opsR] at c ⊢
    refine pc_ofV cop8 ?_
    repeat' ((conv => whnf); first | (with_reducible refine SeqP.go ?_) | ((with_reducible refine ObN.mk ?_ ?_); (focus (first | rfl | assumption | omega | (simp only [List.length_map, List.length_append, List.length_cons, List.length_nil]; omega) | (simp; done) | (simp; omega)))) | (with_reducible refine ObT.tt ?_) | ((with_reducible refine ObB.no ?_ ?_); (focus (first | assumption | omega))) | ((with_reducible refine ObH.f 24 ?_); (first | (with_reducible refine ObH.mk _ _ (c) ?_) | (refine ObH.mk _ _ (c) ?_))) | ((with_reducible refine ObEq.mk ?_); (focus (first | rfl | assumption))))
theorem ah21 (a b : Hi.Op) : PC Try.prog G 21 [opA a, opA b] (Bo (Hi.ahd a b)) := by
  unfold Hi.ahd opA
  cases hd : a.done
  · refine pc_ofV cop21 ?_
    repeat' ((conv => whnf); first | (with_reducible refine SeqP.go ?_) | ((with_reducible refine ObD.mk ?_ ?_); (focus (first | rfl | (simp; done)))) | ((with_reducible refine ObN.mk ?_ ?_); (focus (first | rfl | assumption | omega | (simp only [List.length_map, List.length_append, List.length_cons, List.length_nil]; omega) | (simp; done) | (simp; omega)))) | (with_reducible refine ObT.ff ?_) | ((with_reducible refine (?_ : ObR _ _ _)); (first | (refine ObR.mk _ (by assumption) ?_) | (refine ObR.mk _ (by with_reducible rfl) ?_) | (refine ObR.map (by (first | omega | assumption | (simp only [List.length_map, List.length_append, List.length_cons, List.length_nil, List.length_take, List.length_drop, List.length_set, List.length_replicate]; omega))) (fun x hx => ?_)) | (refine ObR.mk _ rfl ?_))) | ((with_reducible refine ObEq.mk ?_); (focus (first | rfl | assumption))))
  · by_cases h : a.to < b.fr
    · rw [decide_eq_true h]
      refine pc_ofV cop21 ?_
      repeat' ((conv => whnf); first | (with_reducible refine SeqP.go ?_) | ((with_reducible refine ObD.mk ?_ ?_); (focus (first | rfl | (simp; done)))) | ((with_reducible refine ObN.mk ?_ ?_); (focus (first | rfl | assumption | omega | (simp only [List.length_map, List.length_append, List.length_cons, List.length_nil]; omega) | (simp; done) | (simp; omega)))) | (with_reducible refine ObT.tt ?_) | ((with_reducible refine ObB.yes ?_ ?_); (focus (first | assumption | (with_reducible rfl) | omega))) | ((with_reducible refine (?_ : ObR _ _ _)); (first | (refine ObR.mk _ (by assumption) ?_) | (refine ObR.mk _ (by with_reducible rfl) ?_) | (refine ObR.map (by (first | omega | assumption | (simp only [List.length_map, List.length_append, List.length_cons, List.length_nil, List.length_take, List.length_drop, List.length_set, List.length_replicate]; omega))) (fun x hx => ?_)) | (refine ObR.mk _ rfl ?_))) | ((with_reducible refine ObEq.mk ?_); (focus (first | rfl | assumption))))
    · rw [decide_eq_false h]
      refine pc_ofV cop21 ?_
      repeat' ((conv => whnf); first | (with_reducible refine SeqP.go ?_) | ((with_reducible refine ObD.mk ?_ ?_); (focus (first | rfl | (simp; done)))) | ((with_reducible refine ObN.mk ?_ ?_); (focus (first | rfl | assumption | omega | (simp only [List.length_map, List.length_append, List.length_cons, List.length_nil]; omega) | (simp; done) | (simp; omega)))) | (with_reducible refine ObT.tt ?_) | ((with_reducible refine ObB.no ?_ ?_); (focus (first | assumption | omega))) | ((with_reducible refine (?_ : ObR _ _ _)); (first | (refine ObR.mk _ (by assumption) ?_) | (refine ObR.mk _ (by with_reducible rfl) ?_) | (refine ObR.map (by (first | omega | assumption | (simp only [List.length_map, List.length_append, List.length_cons, List.length_nil, List.length_take, List.length_drop, List.length_set, List.length_replicate]; omega))) (fun x hx => ?_)) | (refine ObR.mk _ rfl ?_))) | ((with_reducible refine ObEq.mk ?_); (focus (first | rfl | assumption))))
theorem ah22 (a b : Hi.Op) : PC Try.prog G 22 [opA a, opA b] (Bo (Hi.ahd a b)) := by
  unfold Hi.ahd opA
  cases hd : a.done
  · refine pc_ofV cop22 ?_
    repeat' ((conv => whnf); first | (with_reducible refine SeqP.go ?_) | ((with_reducible refine ObD.mk ?_ ?_); (focus (first | rfl | (simp; done)))) | ((with_reducible refine ObN.mk ?_ ?_); (focus (first | rfl | assumption | omega | (simp only [List.length_map, List.length_append, List.length_cons, List.length_nil]; omega) | (simp; done) | (simp; omega)))) | (with_reducible refine ObT.ff ?_) | ((with_reducible refine (?_ : ObR _ _ _)); (first | (refine ObR.mk _ (by assumption) ?_) | (refine ObR.mk _ (by with_reducible rfl) ?_) | (refine ObR.map (by (first | omega | assumption | (simp only [List.length_map, List.length_append, List.length_cons, List.length_nil, List.length_take, List.length_drop, List.length_set, List.length_replicate]; omega))) (fun x hx => ?_)) | (refine ObR.mk _ rfl ?_))) | ((with_reducible refine ObEq.mk ?_); (focus (first | rfl | assumption))))
  · by_cases h : a.to < b.fr
    · rw [decide_eq_true h]
      refine pc_ofV cop22 ?_
      repeat' ((conv => whnf); first | (with_reducible refine SeqP.go ?_) | ((with_reducible refine ObD.mk ?_ ?_); (focus (first | rfl | (simp; done)))) | ((with_reducible refine ObN.mk ?_ ?_); (focus (first | rfl | assumption | omega | (simp only [List.length_map, List.length_append, List.length_cons, List.length_nil]; omega) | (simp; done) | (simp; omega)))) | (with_reducible refine ObT.tt ?_) | ((with_reducible refine ObB.yes ?_ ?_); (focus (first | assumption | (with_reducible rfl) | omega))) | ((with_reducible refine (?_ : ObR _ _ _)); (first | (refine ObR.mk _ (by assumption) ?_) | (refine ObR.mk _ (by with_reducible rfl) ?_) | (refine ObR.map (by (first | omega | assumption | (simp only [List.length_map, List.length_append, List.length_cons, List.length_nil, List.length_take, List.length_drop, List.length_set, List.length_replicate]; omega))) (fun x hx => ?_)) | (refine ObR.mk _ rfl ?_))) | ((with_reducible refine ObEq.mk ?_); (focus (first | rfl | assumption))))
    · rw [decide_eq_false h]
      refine pc_ofV cop22 ?_
      repeat' ((conv => whnf); first | (with_reducible refine SeqP.go ?_) | ((with_reducible refine ObD.mk ?_ ?_); (focus (first | rfl | (simp; done)))) | ((with_reducible refine ObN.mk ?_ ?_); (focus (first | rfl | assumption | omega | (simp only [List.length_map, List.length_append, List.length_cons, List.length_nil]; omega) | (simp; done) | (simp; omega)))) | (with_reducible refine ObT.tt ?_) | ((with_reducible refine ObB.no ?_ ?_); (focus (first | assumption | omega))) | ((with_reducible refine (?_ : ObR _ _ _)); (first | (refine ObR.mk _ (by assumption) ?_) | (refine ObR.mk _ (by with_reducible rfl) ?_) | (refine ObR.map (by (first | omega | assumption | (simp only [List.length_map, List.length_append, List.length_cons, List.length_nil, List.length_take, List.length_drop, List.length_set, List.length_replicate]; omega))) (fun x hx => ?_)) | (refine ObR.mk _ rfl ?_))) | ((with_reducible refine ObEq.mk ?_); (focus (first | rfl | assumption))))
theorem gv15 (a : Hi.Op) : PC Try.prog G 15 [opA a] (opA a) := by
  unfold opA
  refine pc_ofV cop15 ?_
  repeat' ((conv => whnf); first | (with_reducible refine SeqP.go ?_) | ((with_reducible refine ObD.mk ?_ ?_); (focus (first | rfl | (simp; done)))) | ((with_reducible refine ObN.mk ?_ ?_); (focus (first | rfl | assumption | omega | (simp only [List.length_map, List.length_append, List.length_cons, List.length_nil]; omega) | (simp; done) | (simp; omega)))) | ((with_reducible refine (?_ : ObU _ _)); (refine ObU.mk _ (by first | assumption | ((conv => lhs; simp only [List.set_cons_zero, List.set_cons_succ, List.take_succ_cons, List.take_zero, List.drop_succ_cons, List.drop_zero, List.nil_append, List.cons_append, List.append_nil, List.take_nil, List.drop_nil]); try rfl) | rfl) ?_)) | ((with_reducible refine (?_ : ObR _ _ _)); (first | (refine ObR.mk _ (by assumption) ?_) | (refine ObR.mk _ (by with_reducible rfl) ?_) | (refine ObR.map (by (first | omega | assumption | (simp only [List.length_map, List.length_append, List.length_cons, List.length_nil, List.length_take, List.length_drop, List.length_set, List.length_replicate]; omega))) (fun x hx => ?_)) | (refine ObR.mk _ rfl ?_))) | ((with_reducible refine ObEq.mk ?_); (focus (first | rfl | assumption))))
end
end Go.Proofs.Ytjooigegjkpdpaa.Sim
