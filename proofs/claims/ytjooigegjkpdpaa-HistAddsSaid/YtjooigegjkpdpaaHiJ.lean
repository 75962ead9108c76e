/- Histories: the document's histories with one more event; the law. -/
import Derived.Test.YtjooigegjkpdpaaHiI
import Derived.Test.YtjooigegjkpdpaaSimVn
namespace Go.Proofs.Ytjooigegjkpdpaa.Sim
open Go.RowKit
set_option maxRecDepth 100000
set_option linter.unusedSimpArgs false
set_option linter.unusedVariables false
section
variable (G : Nat → AV)
theorem u_app (es : List Hi.Ev) (x : Hi.Ev) : (es.map evA) ++ [evA x] = (es ++ [x]).map evA := by simp
set_option maxHeartbeats 4000000 in
theorem add18 (es : List Hi.Ev) (hn : es.length ≤ 1000) (t : Int) (c : Hi.Cl) : PC Try.prog G 18 [.sl 12 (es.map evA), I t, cA c] (.sl 12 ((es ++ [(⟨false, t, c, Hi.An0⟩ : Hi.Ev)]).map evA)) := by
  have hp : ((es ++ [(⟨false, t, c, Hi.An0⟩ : Hi.Ev)]).map evA).all AV.isP = true := isP_e _
  have u1 : List.take (0 + (es.map evA).length) (es.map evA) ++ [AV.agg [Bo false, I t, I c.op, S c.key, S c.val, S c.old, I c.h, I 0, Bo false, S ⟨#[]⟩, S ⟨#[]⟩, I 0]] = (es ++ [(⟨false, t, c, Hi.An0⟩ : Hi.Ev)]).map evA := by rw [List.take_of_length_le (by simp)]; simp [evA, Hi.An0]
  refine pc_ofV cop18 ?_
  repeat' ((conv => whnf); first | (with_reducible refine SeqP.go ?_) | (with_reducible refine ObAnd.mk ?_ ?_) | (with_reducible refine ObDx.each ?_) | ((with_reducible refine ObD.mk ?_ ?_); (focus (first | rfl | (simp [List.length_cons, List.length_nil]; done)))) | ((with_reducible refine ObN.mk ?_ ?_); (focus (first | rfl | assumption | omega | (simp only [List.length_map, List.length_append, List.length_cons, List.length_nil, List.length_cons, List.length_nil]; omega) | (simp [List.length_cons, List.length_nil]; done) | (simp [List.length_cons, List.length_nil]; omega)))) | ((with_reducible refine (?_ : ObL _ _)); (refine ObL.mk _ (by first | exact (List.length_map _) | assumption | exact (List.length_map _).trans (by assumption) | exact List.length_map _ | rfl) ?_)) | ((with_reducible refine (?_ : ObU _ _)); (refine ObU.mk _ (by first | exact u1 | assumption | ((conv => lhs; simp only [List.set_cons_zero, List.set_cons_succ, List.take_succ_cons, List.take_zero, List.drop_succ_cons, List.drop_zero, List.nil_append, List.cons_append, List.append_nil, List.take_nil, List.drop_nil, List.length_cons, List.length_nil]); try rfl) | rfl) ?_)) | ((with_reducible refine (?_ : ObR _ _ _)); (first | (refine ObR.mk _ (by assumption) ?_) | (refine ObR.mk _ (by with_reducible rfl) ?_) | (refine ObR.map (by (first | omega | assumption | (simp only [List.length_map, List.length_append, List.length_cons, List.length_nil, List.length_take, List.length_drop, List.length_set, List.length_replicate, List.length_cons, List.length_nil]; omega))) (fun x hx => ?_)) | (refine ObR.mk _ rfl ?_))))
  all_goals conv => whnf
  all_goals rw [List.take_of_length_le (by simp)]
  all_goals repeat' ((conv => whnf); first | ((with_reducible refine ObN.mk ?_ ?_); (focus (first | rfl | assumption | omega | (simp only [List.length_map, List.length_append, List.length_cons, List.length_nil]; omega) | (simp; done) | (simp; omega)))) | ((with_reducible refine ObEq.mk ?_); (focus (first | rfl | assumption))))
theorem same20 (es : List Hi.Ev) (hn : es.length ≤ 1000000) : PC Try.prog G 20 [.sl 12 (es.map evA), .sl 12 (es.map evA)] (Bo true) := by
  refine pc_ofV cop20 ?_
  repeat' ((conv => whnf); first | (with_reducible refine SeqP.go ?_) | ((with_reducible refine ObN.mk ?_ ?_); (focus (first | rfl | assumption | omega | (simp only [List.length_map, List.length_append, List.length_cons, List.length_nil]; omega) | (simp; done) | (simp; omega)))) | (with_reducible refine ObT.ff ?_) | ((with_reducible refine ObB.yes ?_ ?_); (focus (first | assumption | (with_reducible rfl) | omega))) | ((with_reducible refine (?_ : ObL _ _)); (refine ObL.mk _ (by first | exact (List.length_map _) | assumption | exact (List.length_map _).trans (by assumption) | exact List.length_map _ | rfl) ?_)))
  conv => whnf
  refine LoopP.go (α := Nat) (fun n => n ≤ es.length) (fun n => es.length - n) (fun n => [(4, none), (0, some (I n)), (5, none), (0, none), (0, none), (0, none), (0, none), (0, none), (0, none), (0, none), (0, none), (0, none), (0, none), (0, none), (0, none), (0, none), (0, none)]) (fun _ => []) 0 (Nat.zero_le _) (Fg.go ?_ rfl) ?_
  · repeat' ((conv => whnf); first | ((with_reducible refine ObEqs.mk ?_ ?_); (focus rfl)) | ((with_reducible refine ObEq1.i ?_ ?_); (focus (first | (with_reducible rfl) | omega))) | exact True.intro)
  intro n hn'
  by_cases hl : n < es.length
  · have q := evA_at hl
    generalize es[n] = e at q
    obtain ⟨er, et, ⟨c1, c2, c3, c4, c5⟩, ⟨a1, a2, a3, a4, a5⟩⟩ := e
    simp only [evA] at q
    repeat' ((conv => whnf); first | (with_reducible refine SeqP.go ?_) | ((with_reducible refine ObD.mk ?_ ?_); (focus (first | rfl | (simp; done)))) | ((with_reducible refine ObN.mk ?_ ?_); (focus (first | rfl | assumption | omega | (simp only [List.length_map, List.length_append, List.length_cons, List.length_nil]; omega) | (simp; done) | (simp; omega)))) | (with_reducible refine ObT.tt ?_) | (with_reducible refine ObT.ff ?_) | ((with_reducible refine ObB.yes ?_ ?_); (focus (first | assumption | (with_reducible rfl) | omega))) | (with_reducible refine ObB.mk (fun h => ?_) (fun h => ?_)) | ((with_reducible refine ObI.nl ?_ ?_); (focus omega)) | ((with_reducible refine ObX.mk _ rfl ?_ ?_); (focus (first | omega | assumption | (simp only [List.length_map, List.length_append, List.length_cons, List.length_nil, List.length_take, List.length_drop, List.length_set, List.length_replicate]; omega)))) | ((with_reducible refine (?_ : ObL _ _)); (refine ObL.mk _ (by first | exact (List.length_map _) | assumption | exact (List.length_map _).trans (by assumption) | exact List.length_map _ | rfl) ?_)) | ((with_reducible refine (?_ : ObR _ _ _)); (first | (refine ObR.mk _ (by assumption) ?_) | (refine ObR.mk _ (by exact q) ?_) | (refine ObR.mk _ (by with_reducible rfl) ?_) | (refine ObR.map (by (first | omega | assumption | (simp only [List.length_map, List.length_append, List.length_cons, List.length_nil, List.length_take, List.length_drop, List.length_set, List.length_replicate]; omega))) (fun x hx => ?_)) | (refine ObR.mk _ rfl ?_))))
    rotate_left
    · exact absurd (by simp) h
    conv => whnf
    refine Again.mk (n + 1) (by omega) (by omega) (Fg.go ?_ rfl)
    repeat' ((conv => whnf); first | ((with_reducible refine ObEqs.mk ?_ ?_); (focus rfl)) | ((with_reducible refine ObEq1.i ?_ ?_); (focus (first | (with_reducible rfl) | omega))) | exact True.intro)
  · repeat' ((conv => whnf); first | (with_reducible refine SeqP.go ?_) | ((with_reducible refine ObN.mk ?_ ?_); (focus (first | rfl | assumption | omega | (simp only [List.length_map, List.length_append, List.length_cons, List.length_nil]; omega) | (simp; done) | (simp; omega)))) | (with_reducible refine ObT.ff ?_) | ((with_reducible refine ObB.no ?_ ?_); (focus (first | assumption | omega))) | ((with_reducible refine (?_ : ObL _ _)); (refine ObL.mk _ (by first | exact (List.length_map _) | assumption | exact (List.length_map _).trans (by assumption) | exact List.length_map _ | rfl) ?_)) | ((with_reducible refine ObEq.mk ?_); (focus (first | rfl | assumption))))
set_option maxHeartbeats 4000000 in
theorem end19 (es : List Hi.Ev) (hn : es.length ≤ 1000) (t : Int) (a : Hi.An) : PC Try.prog G 19 [.sl 12 (es.map evA), I t, aA a] (.sl 12 ((es ++ [(⟨true, t, Hi.clD es t, a⟩ : Hi.Ev)]).map evA)) := by
  have c26 := ls26 G es (by omega) t es.length (Nat.le_refl _)
  unfold Hi.clD
  cases hl : Hi.lst es t es.length with
  | none =>
    rw [hl] at c26
    dsimp only [lsV] at c26 ⊢
    have hp : ((es ++ [(⟨true, t, Hi.Cl0, a⟩ : Hi.Ev)]).map evA).all AV.isP = true := isP_e _
    have u1 : List.take (0 + (es.map evA).length) (es.map evA) ++ [AV.agg [Bo true, I t, I 0, S ⟨#[]⟩, S ⟨#[]⟩, S ⟨#[]⟩, I 0, I a.code, Bo a.has, S a.key, S a.val, I a.n]] = (es ++ [(⟨true, t, Hi.Cl0, a⟩ : Hi.Ev)]).map evA := by rw [List.take_of_length_le (by simp)]; simp [evA, Hi.Cl0]
    refine pc_ofV cop19 ?_
    repeat' ((conv => whnf); first | (with_reducible refine SeqP.go ?_) | (with_reducible refine ObAnd.mk ?_ ?_) | (with_reducible refine ObDx.each ?_) | ((with_reducible refine ObD.mk ?_ ?_); (focus (first | rfl | (simp [List.length_cons, List.length_nil]; done)))) | ((with_reducible refine ObN.mk ?_ ?_); (focus (first | rfl | assumption | omega | (simp only [List.length_map, List.length_append, List.length_cons, List.length_nil, List.length_cons, List.length_nil]; omega) | (simp [List.length_cons, List.length_nil]; done) | (simp [List.length_cons, List.length_nil]; omega)))) | (with_reducible refine ObT.ff ?_) | ((with_reducible refine ObB.no ?_ ?_); (focus (first | assumption | omega))) | ((with_reducible refine (?_ : ObL _ _)); (refine ObL.mk _ (by first | exact (List.length_map _) | assumption | exact (List.length_map _).trans (by assumption) | exact List.length_map _ | rfl) ?_)) | ((with_reducible refine (?_ : ObU _ _)); (refine ObU.mk _ (by first | exact u1 | assumption | ((conv => lhs; simp only [List.set_cons_zero, List.set_cons_succ, List.take_succ_cons, List.take_zero, List.drop_succ_cons, List.drop_zero, List.nil_append, List.cons_append, List.append_nil, List.take_nil, List.drop_nil, List.length_cons, List.length_nil]); try rfl) | rfl) ?_)) | ((with_reducible refine (?_ : ObR _ _ _)); (first | (refine ObR.mk _ (by assumption) ?_) | (refine ObR.mk _ (by with_reducible rfl) ?_) | (refine ObR.map (by (first | omega | assumption | (simp only [List.length_map, List.length_append, List.length_cons, List.length_nil, List.length_take, List.length_drop, List.length_set, List.length_replicate, List.length_cons, List.length_nil]; omega))) (fun x hx => ?_)) | (refine ObR.mk _ rfl ?_))) | ((with_reducible refine ObC.f 26 ?_); (first | (with_reducible refine ObC.mk _ (c26) ?_) | (refine ObC.mk _ (c26) ?_))))
    all_goals conv => whnf
    all_goals rw [List.take_of_length_le (by simp)]
    all_goals repeat' ((conv => whnf); first | ((with_reducible refine ObN.mk ?_ ?_); (focus (first | rfl | assumption | omega | (simp only [List.length_map, List.length_append, List.length_cons, List.length_nil]; omega) | (simp; done) | (simp; omega)))) | ((with_reducible refine ObEq.mk ?_); (focus (first | rfl | assumption))))
  | some j =>
    have hj := Hi.lst_lt hl
    obtain ⟨f, hf⟩ : ∃ f, es[j]? = some f := ⟨es[j], List.getElem?_eq_getElem hj⟩
    have qj : (es.map evA)[j]? = some (evA f) := by simp [hf]
    rw [hl] at c26
    simp only [hf]
    dsimp only [lsV] at c26 ⊢
    have hp : ((es ++ [(⟨true, t, f.c, a⟩ : Hi.Ev)]).map evA).all AV.isP = true := isP_e _
    have u1 : List.take (0 + (es.map evA).length) (es.map evA) ++ [AV.agg [Bo true, I t, I f.c.op, S f.c.key, S f.c.val, S f.c.old, I f.c.h, I a.code, Bo a.has, S a.key, S a.val, I a.n]] = (es ++ [(⟨true, t, f.c, a⟩ : Hi.Ev)]).map evA := by rw [List.take_of_length_le (by simp)]; simp [evA]
    simp only [evA] at qj
    refine pc_ofV cop19 ?_
    repeat' ((conv => whnf); first | (with_reducible refine SeqP.go ?_) | (with_reducible refine ObAnd.mk ?_ ?_) | (with_reducible refine ObDx.each ?_) | ((with_reducible refine ObD.mk ?_ ?_); (focus (first | rfl | (simp [List.length_cons, List.length_nil]; done)))) | ((with_reducible refine ObN.mk ?_ ?_); (focus (first | rfl | assumption | omega | (simp only [List.length_map, List.length_append, List.length_cons, List.length_nil, List.length_cons, List.length_nil]; omega) | (simp [List.length_cons, List.length_nil]; done) | (simp [List.length_cons, List.length_nil]; omega)))) | (with_reducible refine ObT.tt ?_) | ((with_reducible refine ObB.yes ?_ ?_); (focus (first | assumption | (with_reducible rfl) | omega))) | ((with_reducible refine ObX.mk _ rfl ?_ ?_); (focus (first | omega | assumption | (simp only [List.length_map, List.length_append, List.length_cons, List.length_nil, List.length_take, List.length_drop, List.length_set, List.length_replicate, List.length_cons, List.length_nil]; omega)))) | ((with_reducible refine (?_ : ObL _ _)); (refine ObL.mk _ (by first | exact (List.length_map _) | assumption | exact (List.length_map _).trans (by assumption) | exact List.length_map _ | rfl) ?_)) | ((with_reducible refine (?_ : ObU _ _)); (refine ObU.mk _ (by first | exact u1 | assumption | ((conv => lhs; simp only [List.set_cons_zero, List.set_cons_succ, List.take_succ_cons, List.take_zero, List.drop_succ_cons, List.drop_zero, List.nil_append, List.cons_append, List.append_nil, List.take_nil, List.drop_nil, List.length_cons, List.length_nil]); try rfl) | rfl) ?_)) | ((with_reducible refine (?_ : ObR _ _ _)); (first | (refine ObR.mk _ (by assumption) ?_) | (refine ObR.mk _ (by exact qj) ?_) | (refine ObR.mk _ (by with_reducible rfl) ?_) | (refine ObR.map (by (first | omega | assumption | (simp only [List.length_map, List.length_append, List.length_cons, List.length_nil, List.length_take, List.length_drop, List.length_set, List.length_replicate, List.length_cons, List.length_nil]; omega))) (fun x hx => ?_)) | (refine ObR.mk _ rfl ?_))) | ((with_reducible refine ObC.f 26 ?_); (first | (with_reducible refine ObC.mk _ (c26) ?_) | (refine ObC.mk _ (c26) ?_))))
    all_goals conv => whnf
    all_goals rw [List.take_of_length_le (by simp)]
    all_goals repeat' ((conv => whnf); first | ((with_reducible refine ObN.mk ?_ ?_); (focus (first | rfl | assumption | omega | (simp only [List.length_map, List.length_append, List.length_cons, List.length_nil]; omega) | (simp; done) | (simp; omega)))) | ((with_reducible refine ObEq.mk ?_); (focus (first | rfl | assumption))))
end
theorem wkA : PC Try.prog (fun _ => .unk) 11 [] (Bo true) := runsN_true (n := 3000) (hs := [24,25,28,31,32,33,34,35,36,38,39,42,43,44,45,46,48]) (TM.ok_all mmn) (by kernel_rfl)
set_option maxHeartbeats 8000000 in
theorem law4 (evs : List Hi.Ev) (hn : evs.length ≤ 9223372036854775807) (t : Int) (c : Hi.Cl) (a : Hi.An) : PC Try.prog (fun _ => .unk) 4 [.sl 12 (evs.map evA), I t, cA c, aA a] (Bo true) := by
  have w := wkA
  have f6 := few6 (fun _ => .unk) evs hn
  have hfl : (evs.take 60).length ≤ 60 := by simp; omega
  generalize evs.take 60 = es at f6 hfl
  have g6 := few6 (fun _ => .unk) es (by omega)
  rw [List.take_of_length_le hfl] at g6
  have c16 := add16 (fun _ => .unk) es (by omega) t c
  have c17 := end17 (fun _ => .unk) es (by omega) t a
  have c18 := add18 (fun _ => .unk) es (by omega) t c
  have c19 := end19 (fun _ => .unk) es (by omega) t a
  obtain ⟨s1, s2⟩ := Hi.end_same es t a
  have hl1 : (es ++ [(⟨false, t, c, Hi.An0⟩ : Hi.Ev)]).length ≤ 1000000 := by simp; omega
  have hl2 : (es ++ [(⟨true, t, Hi.clD es t, a⟩ : Hi.Ev)]).length ≤ 1000000 := by simp; omega
  have k1 := my7 (fun _ => .unk) _ hl1
  have k2 := my7 (fun _ => .unk) _ hl2
  have m1 := same20 (fun _ => .unk) _ hl1
  have m2 := same20 (fun _ => .unk) _ hl2
  have m0 : PC Try.prog (fun _ => .unk) 20 [.sl 12 [], .sl 12 []] (Bo true) := same20 (fun _ => .unk) [] (by simp)
  generalize es ++ [(⟨false, t, c, Hi.An0⟩ : Hi.Ev)] = u at *
  have hv : extV (es ++ [(⟨true, t, Hi.clP es t, a⟩ : Hi.Ev)]) = extV (es ++ [(⟨true, t, Hi.clD es t, a⟩ : Hi.Ev)]) := by
    by_cases h0 : Hi.mayD (es ++ [(⟨true, t, Hi.clP es t, a⟩ : Hi.Ev)]) = 0
    · rw [s2 h0]
    · unfold extV
      rw [if_neg h0, if_neg (by rw [← s1]; exact h0), s1]
  rw [hv] at c17
  clear s1 s2 hv
  generalize es ++ [(⟨true, t, Hi.clD es t, a⟩ : Hi.Ev)] = v at *
  rcases extV_cases (es := u) with ⟨h0, h1⟩ | ⟨h0, h1⟩ <;> rcases extV_cases (es := v) with ⟨h2, h3⟩ | ⟨h2, h3⟩
  all_goals
    rw [h1] at c16
    rw [h3] at c17
    try rw [h0] at k1
    try rw [h2] at k2
    refine pc_ofV cop4 ?_
    repeat' ((conv => whnf); first | (with_reducible refine SeqP.go ?_) | ((with_reducible refine ObD.mk ?_ ?_); (focus (first | rfl | (simp; done)))) | ((with_reducible refine ObN.mk ?_ ?_); (focus (first | rfl | assumption | omega | (simp only [List.length_map, List.length_append, List.length_cons, List.length_nil]; omega) | (simp; done) | (simp; omega)))) | (with_reducible refine ObT.tt ?_) | (with_reducible refine ObT.ff ?_) | ((with_reducible refine ObB.yes ?_ ?_); (focus (first | assumption | (with_reducible rfl) | omega))) | ((with_reducible refine ObB.no ?_ ?_); (focus (first | assumption | omega))) | ((with_reducible refine (?_ : ObR _ _ _)); (first | (refine ObR.mk _ (by assumption) ?_) | (refine ObR.mk _ (by with_reducible rfl) ?_) | (refine ObR.map (by (first | omega | assumption | (simp only [List.length_map, List.length_append, List.length_cons, List.length_nil, List.length_take, List.length_drop, List.length_set, List.length_replicate]; omega))) (fun x hx => ?_)) | (refine ObR.mk _ rfl ?_))) | ((with_reducible refine ObC.f 6 ?_); (first | (with_reducible refine ObC.mk _ (f6) ?_) | (refine ObC.mk _ (f6) ?_))) | ((with_reducible refine ObC.f 6 ?_); (first | (with_reducible refine ObC.mk _ (g6) ?_) | (refine ObC.mk _ (g6) ?_))) | ((with_reducible refine ObC.f 16 ?_); (first | (with_reducible refine ObC.mk _ (c16) ?_) | (refine ObC.mk _ (c16) ?_))) | ((with_reducible refine ObC.f 17 ?_); (first | (with_reducible refine ObC.mk _ (c17) ?_) | (refine ObC.mk _ (c17) ?_))) | ((with_reducible refine ObC.f 18 ?_); (first | (with_reducible refine ObC.mk _ (c18) ?_) | (refine ObC.mk _ (c18) ?_))) | ((with_reducible refine ObC.f 19 ?_); (first | (with_reducible refine ObC.mk _ (c19) ?_) | (refine ObC.mk _ (c19) ?_))) | ((with_reducible refine ObC.f 7 ?_); (first | (with_reducible refine ObC.mk _ (k1) ?_) | (refine ObC.mk _ (k1) ?_))) | ((with_reducible refine ObC.f 7 ?_); (first | (with_reducible refine ObC.mk _ (k2) ?_) | (refine ObC.mk _ (k2) ?_))) | ((with_reducible refine ObC.f 20 ?_); (first | (with_reducible refine ObC.mk _ (m1) ?_) | (refine ObC.mk _ (m1) ?_))) | ((with_reducible refine ObC.f 20 ?_); (first | (with_reducible refine ObC.mk _ (m2) ?_) | (refine ObC.mk _ (m2) ?_))) | ((with_reducible refine ObC.f 20 ?_); (first | (with_reducible refine ObC.mk _ (m0) ?_) | (refine ObC.mk _ (m0) ?_))) | ((with_reducible refine ObC.f 11 ?_); (first | (with_reducible refine ObC.mk _ (w) ?_) | (refine ObC.mk _ (w) ?_))) | ((with_reducible refine ObEq.mk ?_); (focus (first | rfl | assumption))))
end Go.Proofs.Ytjooigegjkpdpaa.Sim
