/- Scripts: the document's Decode. -/
import Derived.Test.YtgcnbbjapapnjaaDoorScD
namespace Go.Proofs.YtgcnbbjapapnjaaDoor.Sim
open Go.RowKit
set_option maxRecDepth 100000
set_option linter.unusedSimpArgs false
set_option linter.unusedVariables false
theorem aT_le (B : List UInt8) (a : Nat) : aT B a ≤ B.length := Nat.min_le_right _ _
theorem enB_le {B : List UInt8} {a : Nat} : (enB B a).2 ≤ B.length := by
  unfold enB
  dsimp only
  exact aH_le (ax_le (ax_le (ax_le (nx_le B _))))
section
variable (G : Nat → AV)
set_option maxHeartbeats 16000000 in
theorem u24 (n i : Nat) (h1 : 1 ≤ n) (h2 : n ≤ 13) (hi : i < 4) : PC Tryd.prog G 24 [I n, I i] (Bo (us n i)) := by
  have h' : n = 1 ∨ n = 2 ∨ n = 3 ∨ n = 4 ∨ n = 5 ∨ n = 6 ∨ n = 7 ∨ n = 8 ∨ n = 9 ∨ n = 10 ∨ n = 11 ∨ n = 12 ∨ n = 13 := by omega
  have h3 : i = 0 ∨ i = 1 ∨ i = 2 ∨ i = 3 := by omega
  rcases h' with rfl | rfl | rfl | rfl | rfl | rfl | rfl | rfl | rfl | rfl | rfl | rfl | rfl <;> rcases h3 with rfl | rfl | rfl | rfl
  all_goals
    refine pc_ofV cop24 ?_
    repeat' ((conv => whnf); first | (with_reducible refine SeqP.go ?_) | ((with_reducible refine ObN.mk ?_ ?_); (focus (first | rfl | assumption | omega | (simp only [List.length_map, List.length_append, List.length_cons, List.length_nil]; omega) | (simp; done) | (simp; omega)))) | (with_reducible refine ObT.tt ?_) | (with_reducible refine ObT.ff ?_) | ((with_reducible refine ObB.yes ?_ ?_); (focus (first | assumption | (with_reducible rfl) | omega))) | ((with_reducible refine ObB.no ?_ ?_); (focus (first | assumption | omega))) | ((with_reducible refine ObEq.mk ?_); (focus (first | rfl | assumption))))
set_option maxHeartbeats 40000000 in
theorem dec14 (B : List UInt8) (hB : B.length ≤ 1000000) : PC Tryd.prog G 14 [.sl 1 (B.map uA)] (.sl 6 ((dec B).map enA)) := by
  refine pc_ofV cop14 ?_
  repeat' ((conv => whnf); first | (with_reducible refine SeqP.go ?_) | ((with_reducible refine ObD.mk ?_ ?_); (focus (first | rfl | (simp; done)))))
  conv => whnf
  refine LoopP.go (α := List En × Nat) (fun p => p.2 ≤ B.length ∧ p.1.length ≤ 5000 ∧ p.1 ++ decB B (5000 - p.1.length) p.2 = dec B) (fun p => 5000 - p.1.length) (fun p => [(0, some (.sl 1 ((B.drop p.2).map uA))), (2, some (.ol 0 0 p.1.length)), (0, none), (0, none), (0, none), (0, none), (0, none), (0, none), (0, none), (0, none), (0, none), (0, none), (0, none), (0, none), (0, none), (0, none), (0, none), (0, none), (0, none), (0, none), (0, none), (0, none), (0, none), (0, none), (0, none), (0, none), (0, none), (0, none), (0, none), (0, none), (0, none), (0, none), (0, none), (0, none), (0, none), (0, none), (0, none), (0, none), (0, none), (0, none), (0, none), (0, none), (0, none), (0, none), (0, none), (0, none), (0, none), (0, none), (0, none), (0, none), (0, none), (0, none), (0, none), (0, none), (0, none), (0, none), (0, none), (0, none), (0, none), (0, none), (0, none), (0, none), (0, none), (0, none), (0, none), (0, none), (0, none), (0, none), (0, none), (0, none), (0, none), (0, none), (0, none), (0, none), (0, none), (0, none), (0, none), (0, none), (0, none), (0, none), (0, none), (0, none), (0, none), (0, none)]) (fun p => [⟨37, 6, p.1.map enA, 0, 0⟩]) ([], 0) ⟨Nat.zero_le _, by decide, rfl⟩ (Fg.go ?_ rfl) ?_
  · repeat' ((conv => whnf); first | ((with_reducible refine ObEqs.mk ?_ ?_); (focus rfl)) | ((with_reducible refine ObEq1.mk ?_ ?_); (focus (first | rfl | assumption))) | exact True.intro)
  rintro ⟨es, a⟩ ⟨h1, h2, h3⟩
  dsimp only at h1 h2 h3 ⊢
  have hdl : ((B.drop a).map uA).length = B.length - a := by simp
  have hel : (es.map enA).length = es.length := by simp
  have r2 := nr_e es
  by_cases hc : a < B.length ∧ es.length < 5000
  · obtain ⟨c1, c2⟩ := hc
    have c0 : 0 < ((B.length - a : Nat) : Int) := by omega
    rw [dec_step c1 c2] at h3
    have hle := enB_le (B := B) (a := a)
    have hus := e_snoc (l := es) (e := (enB B a).1)
    have r1 := nr_e (es ++ [(enB B a).1])
    have hK : ∀ x : En, (es ++ [x]).length = es.length + 1 := fun x => by simp
    have h5 : es ++ [(enB B a).1] ++ decB B (5000 - (es ++ [(enB B a).1]).length) (enB B a).2 = dec B := by
      rw [hK, List.append_assoc]; exact h3
    clear h3
    obtain ⟨en, hen⟩ : ∃ en, en = enB B a := ⟨_, rfl⟩
    have hen' := hen
    unfold enB at hen'
    dsimp only at hen'
    rw [← hen] at hle hus r1 h5
    clear hen
    have q1 := o23 G B a h1 hB
    have q2 := o23 G B _ (nx_le B a) hB
    by_cases ho : 1 ≤ nB B (nx B a) ∧ nB B (nx B a) ≤ 13
    · obtain ⟨o1, o2⟩ := ho
      have u0 := u24 G _ 0 o1 o2 (by omega)
      have u1 := u24 G _ 1 o1 o2 (by omega)
      have u2 := u24 G _ 2 o1 o2 (by omega)
      have u3 := u24 G _ 3 o1 o2 (by omega)
      generalize us (nB B (nx B a)) 0 = b0 at *
      generalize us (nB B (nx B a)) 1 = b1 at *
      generalize us (nB B (nx B a)) 2 = b2 at *
      generalize us (nB B (nx B a)) 3 = b3 at *
      cases b0 <;> cases b1 <;> cases b2 <;> cases b3
      all_goals
        simp only [tx, ax, tH, aH, if_true, if_false, Bool.false_eq_true, reduceIte] at hen'
        subst hen'
        repeat' ((conv => whnf); first | (with_reducible refine SeqP.go ?_) | ((with_reducible refine ObD.mk ?_ ?_); (focus (first | rfl | (simp; done)))) | ((with_reducible refine ObN.mk ?_ ?_); (focus (first | rfl | assumption | omega | (simp only [List.length_map, List.length_append, List.length_cons, List.length_nil]; omega) | (simp; done) | (simp; omega)))) | (with_reducible refine ObT.tt ?_) | (with_reducible refine ObT.ff ?_) | ((with_reducible refine ObB.yes ?_ ?_); (focus (first | assumption | (with_reducible rfl) | omega))) | ((with_reducible refine (?_ : ObL _ _)); (refine ObL.mk _ (by first | exact hdl | exact hel | assumption | exact (List.length_map _).trans (by assumption) | exact List.length_map _ | rfl) ?_)) | ((with_reducible refine (?_ : ObU _ _)); (refine ObU.mk _ (by first | exact hus | assumption | ((conv => lhs; simp only [List.set_cons_zero, List.set_cons_succ, List.take_succ_cons, List.take_zero, List.drop_succ_cons, List.drop_zero, List.nil_append, List.cons_append, List.append_nil, List.take_nil, List.drop_nil]); try rfl) | rfl) ?_)) | ((with_reducible refine (?_ : ObR _ _ _)); (first | (refine ObR.mk _ (by assumption) ?_) | (refine ObR.mk _ (by with_reducible rfl) ?_) | (refine ObR.map (by (first | omega | assumption | (simp only [List.length_map, List.length_append, List.length_cons, List.length_nil, List.length_take, List.length_drop, List.length_set, List.length_replicate]; omega))) (fun x hx => ?_)) | (refine ObR.mk _ rfl ?_))) | ((with_reducible refine ObC.f 24 ?_); (first | (with_reducible refine ObC.mk _ (u0) ?_) | (refine ObC.mk _ (u0) ?_))) | ((with_reducible refine ObC.f 24 ?_); (first | (with_reducible refine ObC.mk _ (u1) ?_) | (refine ObC.mk _ (u1) ?_))) | ((with_reducible refine ObC.f 24 ?_); (first | (with_reducible refine ObC.mk _ (u2) ?_) | (refine ObC.mk _ (u2) ?_))) | ((with_reducible refine ObC.f 24 ?_); (first | (with_reducible refine ObC.mk _ (u3) ?_) | (refine ObC.mk _ (u3) ?_))) | ((with_reducible refine ObC.f 23 ?_); (first | (with_reducible refine ObC.mk _ (q1) ?_) | (refine ObC.mk _ (q1) ?_))) | ((with_reducible refine ObC.f 23 ?_); (first | (with_reducible refine ObC.mk _ (q2) ?_) | (refine ObC.mk _ (q2) ?_))) | ((with_reducible refine ObC.f 23 ?_); (first | (with_reducible refine ObC.mk _ ((o23 G B _ (by first | exact nx_le _ _ | exact aT_le _ _) hB)) ?_) | (refine ObC.mk _ ((o23 G B _ (by first | exact nx_le _ _ | exact aT_le _ _) hB)) ?_))) | ((with_reducible refine ObC.f 25 ?_); (first | (with_reducible refine ObC.mk _ ((t25 G B _ (by first | exact nx_le _ _ | exact aT_le _ _) hB)) ?_) | (refine ObC.mk _ ((t25 G B _ (by first | exact nx_le _ _ | exact aT_le _ _) hB)) ?_))))
        conv => whnf
        refine Again.mk (es ++ [_], _) ⟨hle, by dsimp only; rw [hK]; omega, h5⟩ (by dsimp only; rw [hK]; omega) (Fg.vw [(0, 0, 1)] ?_ ?_ (by simp) ?_)
        all_goals repeat' ((conv => whnf); first | ((with_reducible refine ObRn.mk ?_ ?_); (focus (simp [rnB, rnC, rnL]; done))) | ((with_reducible refine ObN.mk ?_ ?_); (focus (first | rfl | assumption | omega | (simp only [List.length_map, List.length_append, List.length_cons, List.length_nil]; omega) | (simp; done) | (simp; omega)))) | ((with_reducible refine ObRow.same ?_ ?_ ?_); (focus (first | rfl | assumption)); (focus (first | rfl | assumption | (simp; done)))) | ((with_reducible refine ObEqs.mk ?_ ?_); (focus rfl)) | exact True.intro)
    · have z := fun j hj => us_out (n := nB B (nx B a)) (j := j) ho hj
      have ho' : ¬ (1 ≤ ((nB B (nx B a) : Nat) : Int) ∧ ((nB B (nx B a) : Nat) : Int) ≤ 13) := by omega
      rw [z 0 (by omega), z 1 (by omega), z 2 (by omega), z 3 (by omega)] at hen'
      subst hen'
      by_cases hz : 1 ≤ nB B (nx B a)
      · have hz2 : ¬ nB B (nx B a) ≤ 13 := fun h => ho ⟨hz, h⟩
        repeat' ((conv => whnf); first | (with_reducible refine SeqP.go ?_) | ((with_reducible refine ObD.mk ?_ ?_); (focus (first | rfl | (simp; done)))) | ((with_reducible refine ObN.mk ?_ ?_); (focus (first | rfl | assumption | omega | (simp only [List.length_map, List.length_append, List.length_cons, List.length_nil]; omega) | (simp; done) | (simp; omega)))) | (with_reducible refine ObT.tt ?_) | (with_reducible refine ObT.ff ?_) | ((with_reducible refine ObB.yes ?_ ?_); (focus (first | assumption | (with_reducible rfl) | omega))) | ((with_reducible refine ObB.no ?_ ?_); (focus (first | assumption | omega))) | ((with_reducible refine (?_ : ObL _ _)); (refine ObL.mk _ (by first | exact hdl | exact hel | assumption | exact (List.length_map _).trans (by assumption) | exact List.length_map _ | rfl) ?_)) | ((with_reducible refine (?_ : ObU _ _)); (refine ObU.mk _ (by first | exact hus | assumption | ((conv => lhs; simp only [List.set_cons_zero, List.set_cons_succ, List.take_succ_cons, List.take_zero, List.drop_succ_cons, List.drop_zero, List.nil_append, List.cons_append, List.append_nil, List.take_nil, List.drop_nil]); try rfl) | rfl) ?_)) | ((with_reducible refine (?_ : ObR _ _ _)); (first | (refine ObR.mk _ (by assumption) ?_) | (refine ObR.mk _ (by with_reducible rfl) ?_) | (refine ObR.map (by (first | omega | assumption | (simp only [List.length_map, List.length_append, List.length_cons, List.length_nil, List.length_take, List.length_drop, List.length_set, List.length_replicate]; omega))) (fun x hx => ?_)) | (refine ObR.mk _ rfl ?_))) | ((with_reducible refine ObC.f 23 ?_); (first | (with_reducible refine ObC.mk _ (q1) ?_) | (refine ObC.mk _ (q1) ?_))) | ((with_reducible refine ObC.f 23 ?_); (first | (with_reducible refine ObC.mk _ (q2) ?_) | (refine ObC.mk _ (q2) ?_))))
        conv => whnf
        refine Again.mk (es ++ [_], _) ⟨hle, by dsimp only; rw [hK]; omega, h5⟩ (by dsimp only; rw [hK]; omega) (Fg.vw [(0, 0, 1)] ?_ ?_ (by simp) ?_)
        all_goals repeat' ((conv => whnf); first | ((with_reducible refine ObRn.mk ?_ ?_); (focus (simp [rnB, rnC, rnL]; done))) | ((with_reducible refine ObN.mk ?_ ?_); (focus (first | rfl | assumption | omega | (simp only [List.length_map, List.length_append, List.length_cons, List.length_nil]; omega) | (simp; done) | (simp; omega)))) | ((with_reducible refine ObRn.mk ?_ ?_); (focus (first | rfl | (simp [rnB, rnC, rnL]; done)))) | ((with_reducible refine ObRow.same ?_ ?_ ?_); (focus (first | rfl | assumption)); (focus (first | rfl | assumption | (simp; done)))) | ((with_reducible refine ObEqs.mk ?_ ?_); (focus rfl)) | exact True.intro)
      · repeat' ((conv => whnf); first | (with_reducible refine SeqP.go ?_) | ((with_reducible refine ObD.mk ?_ ?_); (focus (first | rfl | (simp; done)))) | ((with_reducible refine ObN.mk ?_ ?_); (focus (first | rfl | assumption | omega | (simp only [List.length_map, List.length_append, List.length_cons, List.length_nil]; omega) | (simp; done) | (simp; omega)))) | (with_reducible refine ObT.tt ?_) | (with_reducible refine ObT.ff ?_) | ((with_reducible refine ObB.yes ?_ ?_); (focus (first | assumption | (with_reducible rfl) | omega))) | ((with_reducible refine ObB.no ?_ ?_); (focus (first | assumption | omega))) | ((with_reducible refine (?_ : ObL _ _)); (refine ObL.mk _ (by first | exact hdl | exact hel | assumption | exact (List.length_map _).trans (by assumption) | exact List.length_map _ | rfl) ?_)) | ((with_reducible refine (?_ : ObU _ _)); (refine ObU.mk _ (by first | exact hus | assumption | ((conv => lhs; simp only [List.set_cons_zero, List.set_cons_succ, List.take_succ_cons, List.take_zero, List.drop_succ_cons, List.drop_zero, List.nil_append, List.cons_append, List.append_nil, List.take_nil, List.drop_nil]); try rfl) | rfl) ?_)) | ((with_reducible refine (?_ : ObR _ _ _)); (first | (refine ObR.mk _ (by assumption) ?_) | (refine ObR.mk _ (by with_reducible rfl) ?_) | (refine ObR.map (by (first | omega | assumption | (simp only [List.length_map, List.length_append, List.length_cons, List.length_nil, List.length_take, List.length_drop, List.length_set, List.length_replicate]; omega))) (fun x hx => ?_)) | (refine ObR.mk _ rfl ?_))) | ((with_reducible refine ObC.f 23 ?_); (first | (with_reducible refine ObC.mk _ (q1) ?_) | (refine ObC.mk _ (q1) ?_))) | ((with_reducible refine ObC.f 23 ?_); (first | (with_reducible refine ObC.mk _ (q2) ?_) | (refine ObC.mk _ (q2) ?_))))
        conv => whnf
        refine Again.mk (es ++ [_], _) ⟨hle, by dsimp only; rw [hK]; omega, h5⟩ (by dsimp only; rw [hK]; omega) (Fg.vw [(0, 0, 1)] ?_ ?_ (by simp) ?_)
        all_goals repeat' ((conv => whnf); first | ((with_reducible refine ObRn.mk ?_ ?_); (focus (simp [rnB, rnC, rnL]; done))) | ((with_reducible refine ObN.mk ?_ ?_); (focus (first | rfl | assumption | omega | (simp only [List.length_map, List.length_append, List.length_cons, List.length_nil]; omega) | (simp; done) | (simp; omega)))) | ((with_reducible refine ObRn.mk ?_ ?_); (focus (first | rfl | (simp [rnB, rnC, rnL]; done)))) | ((with_reducible refine ObRow.same ?_ ?_ ?_); (focus (first | rfl | assumption)); (focus (first | rfl | assumption | (simp; done)))) | ((with_reducible refine ObEqs.mk ?_ ?_); (focus rfl)) | exact True.intro)
  · rw [dec_end hc, List.append_nil] at h3
    rw [← h3]
    have na : (es.map enA).take es.length = es.map enA := e_all es
    have np : ((es.map enA).take es.length).all AV.isP = true := by rw [na]; exact p_e _
    by_cases ha : a < B.length
    · have hx : ¬ es.length < 5000 := fun h => hc ⟨ha, h⟩
      have c0 : 0 < ((B.length - a : Nat) : Int) := by omega
      repeat' ((conv => whnf); first | ((with_reducible refine ObN.mk ?_ ?_); (focus (first | rfl | assumption | omega | (simp only [List.length_map, List.length_append, List.length_cons, List.length_nil]; omega) | (simp; done) | (simp; omega)))) | (with_reducible refine ObT.tt ?_) | ((with_reducible refine ObB.yes ?_ ?_); (focus (first | assumption | (with_reducible rfl) | omega))) | ((with_reducible refine ObB.no ?_ ?_); (focus (first | assumption | omega))) | ((with_reducible refine (?_ : ObL _ _)); (refine ObL.mk _ (by first | exact hdl | exact hel | assumption | exact (List.length_map _).trans (by assumption) | exact List.length_map _ | rfl) ?_)))
      conv => whnf
      refine SeqP.fz 0 es.length [] ?_
      repeat' ((conv => whnf); first | (with_reducible refine SeqP.go ?_) | ((with_reducible refine ObN.mk ?_ ?_); (focus (first | rfl | assumption | omega | (simp only [List.length_map, List.length_append, List.length_cons, List.length_nil]; omega) | (simp; done) | (simp; omega)))) | (with_reducible refine ObT.ff ?_) | ((with_reducible refine (?_ : ObU _ _)); (refine ObU.mk _ (by first | exact na | assumption | ((conv => lhs; simp only [List.set_cons_zero, List.set_cons_succ, List.take_succ_cons, List.take_zero, List.drop_succ_cons, List.drop_zero, List.nil_append, List.cons_append, List.append_nil, List.take_nil, List.drop_nil]); try rfl) | rfl) ?_)) | ((with_reducible refine ObEq.mk ?_); (focus (first | rfl | assumption))) | ((with_reducible refine ObSt.live ?_ ?_); (focus (first | trivial | (refine ⟨rfl, ?_⟩; first | omega | (exact Nat.le_refl _))))))
    · have c0 : ¬ 0 < ((B.length - a : Nat) : Int) := by omega
      repeat' ((conv => whnf); first | ((with_reducible refine ObN.mk ?_ ?_); (focus (first | rfl | assumption | omega | (simp only [List.length_map, List.length_append, List.length_cons, List.length_nil]; omega) | (simp; done) | (simp; omega)))) | (with_reducible refine ObT.ff ?_) | ((with_reducible refine ObB.no ?_ ?_); (focus (first | assumption | omega))) | ((with_reducible refine (?_ : ObL _ _)); (refine ObL.mk _ (by first | exact hdl | exact hel | assumption | exact (List.length_map _).trans (by assumption) | exact List.length_map _ | rfl) ?_)))
      conv => whnf
      refine SeqP.fz 0 es.length [] ?_
      repeat' ((conv => whnf); first | (with_reducible refine SeqP.go ?_) | ((with_reducible refine ObN.mk ?_ ?_); (focus (first | rfl | assumption | omega | (simp only [List.length_map, List.length_append, List.length_cons, List.length_nil]; omega) | (simp; done) | (simp; omega)))) | (with_reducible refine ObT.ff ?_) | ((with_reducible refine (?_ : ObU _ _)); (refine ObU.mk _ (by first | exact na | assumption | ((conv => lhs; simp only [List.set_cons_zero, List.set_cons_succ, List.take_succ_cons, List.take_zero, List.drop_succ_cons, List.drop_zero, List.nil_append, List.cons_append, List.append_nil, List.take_nil, List.drop_nil]); try rfl) | rfl) ?_)) | ((with_reducible refine ObEq.mk ?_); (focus (first | rfl | assumption))) | ((with_reducible refine ObSt.live ?_ ?_); (focus (first | trivial | (refine ⟨rfl, ?_⟩; first | omega | (exact Nat.le_refl _))))))
end
end Go.Proofs.YtgcnbbjapapnjaaDoor.Sim
