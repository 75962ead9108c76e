/- Arenas: all references, and how they are made. -/
import Derived.Test.YtjaohiakpajgkaaArnD
namespace Go.Proofs.Ytjaohiakpajgkaa.Sim
open Go.RowKit
set_option maxRecDepth 100000
set_option linter.unusedSimpArgs false
set_option linter.unusedVariables false
/-- All incarnations are such that references can be made. -/
def incs (l : List Sl) : Prop := ∀ (i : Nat) (x : Sl), l[i]? = some x → x.2.2 = true → 1 ≤ x.2.1 ∧ x.2.1 ≤ 1000000
section
variable (G : Nat → AV)
theorem all19a (l : List Sl) (hs : l.length ≤ 1000) (hi : incs l) :
    HC Try.prog G 19 [.oa 0 0 0 0] [rS l.length (.nl 1), rV l, rI l, rB l] (.ol 4 0 (upR l l.length).length) [rS l.length (.nl 1), rV l, rI l, rB l, rO (upR l l.length)] := by
  have r1 := nr_v l
  have r2 := nr_n l
  have r3 := nr_b l
  refine hc_ofV cop19 rfl ?_
  repeat' ((conv => whnf); first | (with_reducible refine SeqP.go ?_) | ((with_reducible refine ObD.mk ?_ ?_); (focus (first | rfl | (simp; done)))))
  conv => whnf
  refine LoopP.go (α := Nat × List Int) (fun p => p.1 ≤ l.length ∧ p.2 = upR l p.1) (fun p => l.length - p.1) (fun p => [(3, some (.ol 4 0 p.2.length)), (0, some (I p.1)), (0, none), (0, none), (0, none), (0, none), (0, none), (0, none), (0, none), (0, none), (0, none), (0, none), (0, none), (0, none), (0, none), (0, none), (0, none), (0, none), (0, none), (0, none), (0, none), (0, none), (0, none), (0, none), (0, none), (0, none), (0, none), (0, none), (0, none), (0, none), (0, none), (0, none), (0, none), (0, none), (0, none), (0, none), (0, none), (0, none)]) (fun p => [rS l.length (.nl 1), rV l, rI l, rB l, rO p.2]) (0, []) ⟨Nat.zero_le _, rfl⟩ (Fg.go ?_ rfl) ?_
  · repeat' ((conv => whnf); first | ((with_reducible refine ObEqs.mk ?_ ?_); (focus rfl)) | ((with_reducible refine ObEq1.i ?_ ?_); (focus (first | (with_reducible rfl) | omega))) | ((with_reducible refine ObEq1.mk ?_ ?_); (focus (first | rfl | assumption))) | exact True.intro)
  rintro ⟨i, a⟩ ⟨h1, h2⟩
  dsimp only at h1 h2 ⊢
  have ha := upR_len l i
  rw [← h2] at ha
  by_cases hil : i < l.length
  · have hx := List.getElem?_eq_getElem hil
    have a2 := n_at hx
    have a3 := b_at hx
    have hsu := upR_succ hx
    rw [← h2] at hsu
    have hin := hi i _ hx
    generalize l[i] = x at *
    cases hb : x.2.2 with
    | false =>
      rw [hb] at a3 hsu
      repeat' ((conv => whnf); first | (with_reducible refine SeqP.go ?_) | ((with_reducible refine ObN.mk ?_ ?_); (focus (first | rfl | assumption | omega | (simp only [List.length_map, List.length_append, List.length_cons, List.length_nil]; omega) | (simp; done) | (simp; omega)))) | (with_reducible refine ObT.tt ?_) | (with_reducible refine ObT.ff ?_) | ((with_reducible refine ObB.yes ?_ ?_); (focus (first | assumption | (with_reducible rfl) | omega))) | ((with_reducible refine ObI.nl ?_ ?_); (focus omega)) | ((with_reducible refine ObX.mk _ rfl ?_ ?_); (focus (first | omega | assumption | (simp only [List.length_map, List.length_append, List.length_cons, List.length_nil, List.length_take, List.length_drop, List.length_set, List.length_replicate]; omega)))) | ((with_reducible refine (?_ : ObR _ _ _)); (first | (refine ObR.mk _ (by assumption) ?_) | (refine ObR.mk _ (by with_reducible rfl) ?_) | (refine ObR.map (by (first | omega | assumption | (simp only [List.length_map, List.length_append, List.length_cons, List.length_nil, List.length_take, List.length_drop, List.length_set, List.length_replicate]; omega))) (fun x hx => ?_)) | (refine ObR.mk _ rfl ?_))))
      conv => whnf
      refine Again.mk (i + 1, a) ?_ ?_ (Fg.go ?_ rfl)
      · exact ⟨by dsimp only; omega, by simpa using hsu.symm⟩
      · dsimp only; omega
      repeat' ((conv => whnf); first | ((with_reducible refine ObEqs.mk ?_ ?_); (focus rfl)) | ((with_reducible refine ObEq1.i ?_ ?_); (focus (first | (with_reducible rfl) | omega))) | ((with_reducible refine ObEq1.o ?_ ?_); (focus (first | (with_reducible rfl) | omega))) | exact True.intro)
    | true =>
      rw [hb] at a3 hsu
      have hm := make27 G i x.2.1 (by omega) (hin hb).1 (hin hb).2
      have r4 := nr_i (a ++ [((1024 * x.2.1 + (i + 1) : Nat) : Int)])
      repeat' ((conv => whnf); first | (with_reducible refine SeqP.go ?_) | ((with_reducible refine ObD.mk ?_ ?_); (focus (first | rfl | (simp; done)))) | ((with_reducible refine ObN.mk ?_ ?_); (focus (first | rfl | assumption | omega | (simp only [List.length_map, List.length_append, List.length_cons, List.length_nil]; omega) | (simp; done) | (simp; omega)))) | (with_reducible refine ObT.tt ?_) | ((with_reducible refine ObB.yes ?_ ?_); (focus (first | assumption | (with_reducible rfl) | omega))) | ((with_reducible refine ObI.nl ?_ ?_); (focus omega)) | ((with_reducible refine ObX.mk _ rfl ?_ ?_); (focus (first | omega | assumption | (simp only [List.length_map, List.length_append, List.length_cons, List.length_nil, List.length_take, List.length_drop, List.length_set, List.length_replicate]; omega)))) | ((with_reducible refine (?_ : ObL _ _)); (refine ObL.mk _ (by first | assumption | exact (List.length_map _).trans (by assumption) | exact List.length_map _ | rfl) ?_)) | ((with_reducible refine (?_ : ObU _ _)); (refine ObU.mk _ (by first | exact i_snoc | assumption | ((conv => lhs; simp only [List.set_cons_zero, List.set_cons_succ, List.take_succ_cons, List.take_zero, List.drop_succ_cons, List.drop_zero, List.nil_append, List.cons_append, List.append_nil, List.take_nil, List.drop_nil]); try rfl) | rfl) ?_)) | ((with_reducible refine (?_ : ObR _ _ _)); (first | (refine ObR.mk _ (by assumption) ?_) | (refine ObR.mk _ (by with_reducible rfl) ?_) | (refine ObR.map (by (first | omega | assumption | (simp only [List.length_map, List.length_append, List.length_cons, List.length_nil, List.length_take, List.length_drop, List.length_set, List.length_replicate]; omega))) (fun x hx => ?_)) | (refine ObR.mk _ rfl ?_))) | ((with_reducible refine ObC.f 27 ?_); (first | (with_reducible refine ObC.mk _ (hm) ?_) | (refine ObC.mk _ (hm) ?_))))
      conv => whnf
      refine Again.mk (i + 1, a ++ [((1024 * x.2.1 + (i + 1) : Nat) : Int)]) ?_ ?_ (Fg.vw [(0, 0, 0), (0, 1, 0), (0, 2, 0), (0, 3, 0), (0, 4, 1)] ?_ ?_ (by simp) ?_)
      · exact ⟨by dsimp only; omega, by simpa using hsu.symm⟩
      · dsimp only; omega
      all_goals repeat' ((conv => whnf); first | ((with_reducible refine ObN.mk ?_ ?_); (focus (first | rfl | assumption | omega | (simp only [List.length_map, List.length_append, List.length_cons, List.length_nil]; omega) | (simp; done) | (simp; omega)))) | ((with_reducible refine ObO.l ?_); (with_reducible refine ObN.mk ?_ ?_); (focus (first | rfl | omega))) | ((with_reducible refine ObRn.mk ?_ ?_); (focus (first | rfl | (simp [rnB, rnC, rnL]; done)))) | ((with_reducible refine ObRow.same ?_ ?_ ?_); (focus (first | rfl | assumption)); (focus (first | rfl | assumption | (simp; done)))) | ((with_reducible refine ObRow.lit ?_ ?_); (focus (first | rfl | (simp [rnB, rnC, rnL]; done)))) | ((with_reducible refine ObEqs.mk ?_ ?_); (focus rfl)) | exact True.intro)
  · obtain rfl : i = l.length := by omega
    rw [← h2]
    repeat' ((conv => whnf); first | (with_reducible refine SeqP.go ?_) | ((with_reducible refine ObN.mk ?_ ?_); (focus (first | rfl | assumption | omega | (simp only [List.length_map, List.length_append, List.length_cons, List.length_nil]; omega) | (simp; done) | (simp; omega)))) | (with_reducible refine ObT.ff ?_) | ((with_reducible refine ObB.no ?_ ?_); (focus (first | assumption | omega))) | ((with_reducible refine (?_ : ObR _ _ _)); (first | (refine ObR.mk _ (by assumption) ?_) | (refine ObR.mk _ (by with_reducible rfl) ?_) | (refine ObR.map (by (first | omega | assumption | (simp only [List.length_map, List.length_append, List.length_cons, List.length_nil, List.length_take, List.length_drop, List.length_set, List.length_replicate]; omega))) (fun x hx => ?_)) | (refine ObR.mk _ rfl ?_))) | (exact ObEnd.eq rfl rfl))
theorem all19b (l : List Sl) (g k : Nat) (f : List Nat) (hs : l.length ≤ 1000) (hi : incs l) :
    HC Try.prog G 19 [.oa 0 0 0 0] [rS l.length (.ol 4 g k), rV l, rI l, rB l, aF g f] (.ol 5 0 (upR l l.length).length) [rS l.length (.ol 4 g k), rV l, rI l, rB l, aF g f, rO (upR l l.length)] := by
  have r1 := nr_v l
  have r2 := nr_n l
  have r3 := nr_b l
  have r5 := nr_f f
  refine hc_ofV cop19 rfl ?_
  repeat' ((conv => whnf); first | (with_reducible refine SeqP.go ?_) | ((with_reducible refine ObD.mk ?_ ?_); (focus (first | rfl | (simp; done)))))
  conv => whnf
  refine LoopP.go (α := Nat × List Int) (fun p => p.1 ≤ l.length ∧ p.2 = upR l p.1) (fun p => l.length - p.1) (fun p => [(3, some (.ol 5 0 p.2.length)), (0, some (I p.1)), (0, none), (0, none), (0, none), (0, none), (0, none), (0, none), (0, none), (0, none), (0, none), (0, none), (0, none), (0, none), (0, none), (0, none), (0, none), (0, none), (0, none), (0, none), (0, none), (0, none), (0, none), (0, none), (0, none), (0, none), (0, none), (0, none), (0, none), (0, none), (0, none), (0, none), (0, none), (0, none), (0, none), (0, none), (0, none), (0, none)]) (fun p => [rS l.length (.ol 4 g k), rV l, rI l, rB l, aF g f, rO p.2]) (0, []) ⟨Nat.zero_le _, rfl⟩ (Fg.go ?_ rfl) ?_
  · repeat' ((conv => whnf); first | ((with_reducible refine ObEqs.mk ?_ ?_); (focus rfl)) | ((with_reducible refine ObEq1.i ?_ ?_); (focus (first | (with_reducible rfl) | omega))) | ((with_reducible refine ObEq1.mk ?_ ?_); (focus (first | rfl | assumption))) | exact True.intro)
  rintro ⟨i, a⟩ ⟨h1, h2⟩
  dsimp only at h1 h2 ⊢
  have ha := upR_len l i
  rw [← h2] at ha
  by_cases hil : i < l.length
  · have hx := List.getElem?_eq_getElem hil
    have a2 := n_at hx
    have a3 := b_at hx
    have hsu := upR_succ hx
    rw [← h2] at hsu
    have hin := hi i _ hx
    generalize l[i] = x at *
    cases hb : x.2.2 with
    | false =>
      rw [hb] at a3 hsu
      repeat' ((conv => whnf); first | (with_reducible refine SeqP.go ?_) | ((with_reducible refine ObN.mk ?_ ?_); (focus (first | rfl | assumption | omega | (simp only [List.length_map, List.length_append, List.length_cons, List.length_nil]; omega) | (simp; done) | (simp; omega)))) | (with_reducible refine ObT.tt ?_) | (with_reducible refine ObT.ff ?_) | ((with_reducible refine ObB.yes ?_ ?_); (focus (first | assumption | (with_reducible rfl) | omega))) | ((with_reducible refine ObI.nl ?_ ?_); (focus omega)) | ((with_reducible refine ObX.mk _ rfl ?_ ?_); (focus (first | omega | assumption | (simp only [List.length_map, List.length_append, List.length_cons, List.length_nil, List.length_take, List.length_drop, List.length_set, List.length_replicate]; omega)))) | ((with_reducible refine (?_ : ObR _ _ _)); (first | (refine ObR.mk _ (by assumption) ?_) | (refine ObR.mk _ (by with_reducible rfl) ?_) | (refine ObR.map (by (first | omega | assumption | (simp only [List.length_map, List.length_append, List.length_cons, List.length_nil, List.length_take, List.length_drop, List.length_set, List.length_replicate]; omega))) (fun x hx => ?_)) | (refine ObR.mk _ rfl ?_))))
      conv => whnf
      refine Again.mk (i + 1, a) ?_ ?_ (Fg.go ?_ rfl)
      · exact ⟨by dsimp only; omega, by simpa using hsu.symm⟩
      · dsimp only; omega
      repeat' ((conv => whnf); first | ((with_reducible refine ObEqs.mk ?_ ?_); (focus rfl)) | ((with_reducible refine ObEq1.i ?_ ?_); (focus (first | (with_reducible rfl) | omega))) | ((with_reducible refine ObEq1.o ?_ ?_); (focus (first | (with_reducible rfl) | omega))) | exact True.intro)
    | true =>
      rw [hb] at a3 hsu
      have hm := make27 G i x.2.1 (by omega) (hin hb).1 (hin hb).2
      have r4 := nr_i (a ++ [((1024 * x.2.1 + (i + 1) : Nat) : Int)])
      repeat' ((conv => whnf); first | (with_reducible refine SeqP.go ?_) | ((with_reducible refine ObD.mk ?_ ?_); (focus (first | rfl | (simp; done)))) | ((with_reducible refine ObN.mk ?_ ?_); (focus (first | rfl | assumption | omega | (simp only [List.length_map, List.length_append, List.length_cons, List.length_nil]; omega) | (simp; done) | (simp; omega)))) | (with_reducible refine ObT.tt ?_) | ((with_reducible refine ObB.yes ?_ ?_); (focus (first | assumption | (with_reducible rfl) | omega))) | ((with_reducible refine ObI.nl ?_ ?_); (focus omega)) | ((with_reducible refine ObX.mk _ rfl ?_ ?_); (focus (first | omega | assumption | (simp only [List.length_map, List.length_append, List.length_cons, List.length_nil, List.length_take, List.length_drop, List.length_set, List.length_replicate]; omega)))) | ((with_reducible refine (?_ : ObL _ _)); (refine ObL.mk _ (by first | assumption | exact (List.length_map _).trans (by assumption) | exact List.length_map _ | rfl) ?_)) | ((with_reducible refine (?_ : ObU _ _)); (refine ObU.mk _ (by first | exact i_snoc | assumption | ((conv => lhs; simp only [List.set_cons_zero, List.set_cons_succ, List.take_succ_cons, List.take_zero, List.drop_succ_cons, List.drop_zero, List.nil_append, List.cons_append, List.append_nil, List.take_nil, List.drop_nil]); try rfl) | rfl) ?_)) | ((with_reducible refine (?_ : ObR _ _ _)); (first | (refine ObR.mk _ (by assumption) ?_) | (refine ObR.mk _ (by with_reducible rfl) ?_) | (refine ObR.map (by (first | omega | assumption | (simp only [List.length_map, List.length_append, List.length_cons, List.length_nil, List.length_take, List.length_drop, List.length_set, List.length_replicate]; omega))) (fun x hx => ?_)) | (refine ObR.mk _ rfl ?_))) | ((with_reducible refine ObC.f 27 ?_); (first | (with_reducible refine ObC.mk _ (hm) ?_) | (refine ObC.mk _ (hm) ?_))))
      conv => whnf
      refine Again.mk (i + 1, a ++ [((1024 * x.2.1 + (i + 1) : Nat) : Int)]) ?_ ?_ (Fg.vw [(0, 0, 0), (0, 1, 0), (0, 2, 0), (0, 3, 0), (g, 4, g), (0, 5, 1)] ?_ ?_ (by simp) ?_)
      · exact ⟨by dsimp only; omega, by simpa using hsu.symm⟩
      · dsimp only; omega
      all_goals repeat' ((conv => whnf); first | ((with_reducible refine ObN.mk ?_ ?_); (focus (first | rfl | assumption | omega | (simp only [List.length_map, List.length_append, List.length_cons, List.length_nil]; omega) | (simp; done) | (simp; omega)))) | ((with_reducible refine ObO.l ?_); (with_reducible refine ObN.mk ?_ ?_); (focus (first | rfl | omega))) | ((with_reducible refine ObRn.mk ?_ ?_); (focus (first | rfl | (simp [rnB, rnC, rnL]; done)))) | ((with_reducible refine ObRow.same ?_ ?_ ?_); (focus (first | rfl | assumption)); (focus (first | rfl | assumption | (simp; done)))) | ((with_reducible refine ObEqs.mk ?_ ?_); (focus rfl)) | exact True.intro | ((with_reducible refine ObRow.lit ?_ ?_); (focus (simp [rnB, rnC, rnL, AV.cells]; done))))
  · obtain rfl : i = l.length := by omega
    rw [← h2]
    repeat' ((conv => whnf); first | (with_reducible refine SeqP.go ?_) | ((with_reducible refine ObN.mk ?_ ?_); (focus (first | rfl | assumption | omega | (simp only [List.length_map, List.length_append, List.length_cons, List.length_nil]; omega) | (simp; done) | (simp; omega)))) | (with_reducible refine ObT.ff ?_) | ((with_reducible refine ObB.no ?_ ?_); (focus (first | assumption | omega))) | ((with_reducible refine (?_ : ObR _ _ _)); (first | (refine ObR.mk _ (by assumption) ?_) | (refine ObR.mk _ (by with_reducible rfl) ?_) | (refine ObR.map (by (first | omega | assumption | (simp only [List.length_map, List.length_append, List.length_cons, List.length_nil, List.length_take, List.length_drop, List.length_set, List.length_replicate]; omega))) (fun x hx => ?_)) | (refine ObR.mk _ rfl ?_))) | (exact ObEnd.eq rfl rfl))
/-- The references so far: none, or a list in a row. -/
def oS (m : Nat) (a : List Int) : AV := match a with | [] => .nl 1 | x :: t => .ol m 0 (t.length + 1)
def oH (a : List Int) : Hp := match a with | [] => [] | x :: t => [rO (x :: t)]
theorem all21n (n : Nat) : HC Try.prog G 21 [.oa 0 0 0 0] [aS (.nl 3) (.nl 1) n] (.nl 1) [aS (.nl 3) (.nl 1) n] := by
  have hv := valid23 G (.nl 3) (.nl 1) n []
  refine hc_ofV cop21 rfl ?_
  repeat' ((conv => whnf); first | (with_reducible refine SeqP.go ?_) | ((with_reducible refine ObN.mk ?_ ?_); (focus (first | rfl | assumption | omega | (simp only [List.length_map, List.length_append, List.length_cons, List.length_nil]; omega) | (simp; done) | (simp; omega)))) | (with_reducible refine ObT.tt ?_) | (with_reducible refine ObT.ff ?_) | ((with_reducible refine (?_ : ObR _ _ _)); (first | (refine ObR.mk _ (by assumption) ?_) | (refine ObR.mk _ (by with_reducible rfl) ?_) | (refine ObR.map (by (first | omega | assumption | (simp only [List.length_map, List.length_append, List.length_cons, List.length_nil, List.length_take, List.length_drop, List.length_set, List.length_replicate]; omega))) (fun x hx => ?_)) | (refine ObR.mk _ rfl ?_))) | ((with_reducible refine ObH.f 23 ?_); (first | (with_reducible refine ObH.mk _ _ (hv) ?_) | (refine ObH.mk _ _ (hv) ?_))))
  conv => whnf
  refine LoopP.go (α := Unit) (fun _ => True) (fun _ => 0) (fun _ => [(3, some (.nl 1)), (0, none), (0, none), (8, some (I (0 : Nat))), (0, none), (0, none), (0, none), (0, none), (0, none), (0, none), (0, none), (0, none), (0, none), (0, none), (0, none), (0, none), (0, none)]) (fun _ => [aS (.nl 3) (.nl 1) n]) () trivial (Fg.go ?_ rfl) ?_
  · repeat' ((conv => whnf); first | ((with_reducible refine ObEqs.mk ?_ ?_); (focus rfl)) | ((with_reducible refine ObEq1.i ?_ ?_); (focus (first | (with_reducible rfl) | omega))) | ((with_reducible refine ObEq1.mk ?_ ?_); (focus (first | rfl | assumption))) | exact True.intro)
  intro _ _
  repeat' ((conv => whnf); first | (with_reducible refine SeqP.go ?_) | ((with_reducible refine ObN.mk ?_ ?_); (focus (first | rfl | assumption | omega | (simp only [List.length_map, List.length_append, List.length_cons, List.length_nil]; omega) | (simp; done) | (simp; omega)))) | (with_reducible refine ObT.ff ?_) | ((with_reducible refine ObB.no ?_ ?_); (focus (first | assumption | omega))) | (exact ObEnd.eq rfl rfl))
theorem all21b (g : Nat) (s : List Sl) (n : Nat) (hs : s.length ≤ 1000) (hi : incs s) :
    HC Try.prog G 21 [.oa 0 0 0 0] [aS (.ol 1 g s.length) (.nl 1) n, aL g s] (oS 2 (upR s s.length)) ([aS (.ol 1 g s.length) (.nl 1) n, aL g s] ++ oH (upR s s.length)) := by
  have r1 := nr_s s
  have hv := valid23 G (.ol 1 g s.length) (.nl 1) n [aL g s]
  refine hc_ofV cop21 rfl ?_
  repeat' ((conv => whnf); first | (with_reducible refine SeqP.go ?_) | ((with_reducible refine ObN.mk ?_ ?_); (focus (first | rfl | assumption | omega | (simp only [List.length_map, List.length_append, List.length_cons, List.length_nil]; omega) | (simp; done) | (simp; omega)))) | (with_reducible refine ObT.tt ?_) | (with_reducible refine ObT.ff ?_) | ((with_reducible refine (?_ : ObR _ _ _)); (first | (refine ObR.mk _ (by assumption) ?_) | (refine ObR.mk _ (by with_reducible rfl) ?_) | (refine ObR.map (by (first | omega | assumption | (simp only [List.length_map, List.length_append, List.length_cons, List.length_nil, List.length_take, List.length_drop, List.length_set, List.length_replicate]; omega))) (fun x hx => ?_)) | (refine ObR.mk _ rfl ?_))) | ((with_reducible refine ObH.f 23 ?_); (first | (with_reducible refine ObH.mk _ _ (hv) ?_) | (refine ObH.mk _ _ (hv) ?_))))
  conv => whnf
  refine LoopP.go (α := Nat × List Int) (fun p => p.1 ≤ s.length ∧ p.2 = upR s p.1) (fun p => s.length - p.1) (fun p => [(3, some (oS 2 p.2)), (0, none), (0, none), (8, some (I p.1)), (0, none), (0, none), (0, none), (0, none), (0, none), (0, none), (0, none), (0, none), (0, none), (0, none), (0, none), (0, none), (0, none)]) (fun p => [aS (.ol 1 g s.length) (.nl 1) n, aL g s] ++ oH p.2) (0, []) ⟨Nat.zero_le _, rfl⟩ (Fg.go ?_ rfl) ?_
  · repeat' ((conv => whnf); first | ((with_reducible refine ObEqs.mk ?_ ?_); (focus rfl)) | ((with_reducible refine ObEq1.i ?_ ?_); (focus (first | (with_reducible rfl) | omega))) | ((with_reducible refine ObEq1.mk ?_ ?_); (focus (first | rfl | assumption))) | exact True.intro)
  rintro ⟨i, a⟩ ⟨h1, h2⟩
  dsimp only at h1 h2 ⊢
  have ha := upR_len s i
  rw [← h2] at ha
  by_cases hil : i < s.length
  · have hx := List.getElem?_eq_getElem hil
    have a1 := sl_at hil
    have hsu := upR_succ hx
    rw [← h2] at hsu
    have hin := hi i _ hx
    have hr := ref25x G g s (.nl 1) n i _ hx hs
    generalize s[i] = x at *
    cases hb : x.2.2 with
    | false =>
      rw [hb] at a1 hsu
      cases a with
      | nil =>
        repeat' ((conv => whnf); first | (with_reducible refine SeqP.go ?_) | ((with_reducible refine ObD.mk ?_ ?_); (focus (first | rfl | (simp; done)))) | ((with_reducible refine ObN.mk ?_ ?_); (focus (first | rfl | assumption | omega | (simp only [List.length_map, List.length_append, List.length_cons, List.length_nil]; omega) | (simp; done) | (simp; omega)))) | (with_reducible refine ObT.tt ?_) | (with_reducible refine ObT.ff ?_) | ((with_reducible refine ObB.yes ?_ ?_); (focus (first | assumption | (with_reducible rfl) | omega))) | ((with_reducible refine ObI.nl ?_ ?_); (focus omega)) | ((with_reducible refine ObX.mk _ rfl ?_ ?_); (focus (first | omega | assumption | (simp only [List.length_map, List.length_append, List.length_cons, List.length_nil, List.length_take, List.length_drop, List.length_set, List.length_replicate]; omega)))) | ((with_reducible refine (?_ : ObU _ _)); (refine ObU.mk _ (by first | assumption | ((conv => lhs; simp only [List.set_cons_zero, List.set_cons_succ, List.take_succ_cons, List.take_zero, List.drop_succ_cons, List.drop_zero, List.nil_append, List.cons_append, List.append_nil, List.take_nil, List.drop_nil]); try rfl) | rfl) ?_)) | ((with_reducible refine (?_ : ObR _ _ _)); (first | (refine ObR.mk _ (by assumption) ?_) | (refine ObR.mk _ (by with_reducible rfl) ?_) | (refine ObR.map (by (first | omega | assumption | (simp only [List.length_map, List.length_append, List.length_cons, List.length_nil, List.length_take, List.length_drop, List.length_set, List.length_replicate]; omega))) (fun x hx => ?_)) | (refine ObR.mk _ rfl ?_))))
        conv => whnf
        refine Again.mk (i + 1, []) ?_ ?_ (Fg.vw [(0, 0, 0), (g, 1, g)] ?_ ?_ (by simp) ?_)
        · exact ⟨by dsimp only; omega, by simpa using hsu.symm⟩
        · dsimp only; omega
        all_goals repeat' ((conv => whnf); first | ((with_reducible refine ObRn.mk ?_ ?_); (focus (simp [rnB, rnC, oS]; done))) | ((with_reducible refine ObN.mk ?_ ?_); (focus (first | rfl | assumption | omega | (simp only [List.length_map, List.length_append, List.length_cons, List.length_nil]; omega) | (simp; done) | (simp; omega)))) | ((with_reducible refine ObO.l ?_); (with_reducible refine ObN.mk ?_ ?_); (focus (first | rfl | omega))) | ((with_reducible refine ObRow.same ?_ ?_ ?_); (focus (first | rfl | assumption)); (focus (first | rfl | assumption | (simp; done)))) | ((with_reducible refine ObEqs.mk ?_ ?_); (focus rfl)) | exact True.intro | ((with_reducible refine ObRow.lit ?_ ?_); (focus (simp [rnB, rnC, rnL, AV.cells]; done))))
      | cons c t =>
        have r4 := nr_i (c :: t)
        repeat' ((conv => whnf); first | (with_reducible refine SeqP.go ?_) | ((with_reducible refine ObD.mk ?_ ?_); (focus (first | rfl | (simp; done)))) | ((with_reducible refine ObN.mk ?_ ?_); (focus (first | rfl | assumption | omega | (simp only [List.length_map, List.length_append, List.length_cons, List.length_nil]; omega) | (simp; done) | (simp; omega)))) | (with_reducible refine ObT.tt ?_) | (with_reducible refine ObT.ff ?_) | ((with_reducible refine ObB.yes ?_ ?_); (focus (first | assumption | (with_reducible rfl) | omega))) | ((with_reducible refine ObI.nl ?_ ?_); (focus omega)) | ((with_reducible refine ObX.mk _ rfl ?_ ?_); (focus (first | omega | assumption | (simp only [List.length_map, List.length_append, List.length_cons, List.length_nil, List.length_take, List.length_drop, List.length_set, List.length_replicate]; omega)))) | ((with_reducible refine (?_ : ObU _ _)); (refine ObU.mk _ (by first | assumption | ((conv => lhs; simp only [List.set_cons_zero, List.set_cons_succ, List.take_succ_cons, List.take_zero, List.drop_succ_cons, List.drop_zero, List.nil_append, List.cons_append, List.append_nil, List.take_nil, List.drop_nil]); try rfl) | rfl) ?_)) | ((with_reducible refine (?_ : ObR _ _ _)); (first | (refine ObR.mk _ (by assumption) ?_) | (refine ObR.mk _ (by with_reducible rfl) ?_) | (refine ObR.map (by (first | omega | assumption | (simp only [List.length_map, List.length_append, List.length_cons, List.length_nil, List.length_take, List.length_drop, List.length_set, List.length_replicate]; omega))) (fun x hx => ?_)) | (refine ObR.mk _ rfl ?_))))
        conv => whnf
        refine Again.mk (i + 1, c :: t) ?_ ?_ (Fg.vw [(0, 0, 0), (g, 1, g), (0, 2, 0)] ?_ ?_ (by simp) ?_)
        · exact ⟨by dsimp only; omega, by simpa using hsu.symm⟩
        · dsimp only; omega
        all_goals repeat' ((conv => whnf); first | ((with_reducible refine ObRn.mk ?_ ?_); (focus (simp [rnB, rnC, oS]; done))) | ((with_reducible refine ObN.mk ?_ ?_); (focus (first | rfl | assumption | omega | (simp only [List.length_map, List.length_append, List.length_cons, List.length_nil]; omega) | (simp; done) | (simp; omega)))) | ((with_reducible refine ObO.l ?_); (with_reducible refine ObN.mk ?_ ?_); (focus (first | rfl | omega))) | ((with_reducible refine ObRow.same ?_ ?_ ?_); (focus (first | rfl | assumption)); (focus (first | rfl | assumption | (simp; done)))) | ((with_reducible refine ObEqs.mk ?_ ?_); (focus rfl)) | exact True.intro | ((with_reducible refine ObRow.lit ?_ ?_); (focus (simp [rnB, rnC, rnL, AV.cells]; done))))
    | true =>
      rw [hb] at a1 hsu
      have hr := hr (hin hb).1 (hin hb).2
      cases a with
      | nil =>
        have hr := hr [⟨62, 3, [.agg [I x.1, I (x.2.1 : Nat), Bo true]], 0, 0⟩]
        repeat' ((conv => whnf); first | (with_reducible refine SeqP.go ?_) | ((with_reducible refine ObD.mk ?_ ?_); (focus (first | rfl | (simp; done)))) | ((with_reducible refine ObN.mk ?_ ?_); (focus (first | rfl | assumption | omega | (simp only [List.length_map, List.length_append, List.length_cons, List.length_nil]; omega) | (simp; done) | (simp; omega)))) | (with_reducible refine ObT.tt ?_) | ((with_reducible refine ObB.yes ?_ ?_); (focus (first | assumption | (with_reducible rfl) | omega))) | ((with_reducible refine ObI.nl ?_ ?_); (focus omega)) | ((with_reducible refine ObX.mk _ rfl ?_ ?_); (focus (first | omega | assumption | (simp only [List.length_map, List.length_append, List.length_cons, List.length_nil, List.length_take, List.length_drop, List.length_set, List.length_replicate]; omega)))) | ((with_reducible refine (?_ : ObL _ _)); (refine ObL.mk _ (by first | assumption | exact (List.length_map _).trans (by assumption) | exact List.length_map _ | rfl) ?_)) | ((with_reducible refine (?_ : ObU _ _)); (refine ObU.mk _ (by first | assumption | ((conv => lhs; simp only [List.set_cons_zero, List.set_cons_succ, List.take_succ_cons, List.take_zero, List.drop_succ_cons, List.drop_zero, List.nil_append, List.cons_append, List.append_nil, List.take_nil, List.drop_nil]); try rfl) | rfl) ?_)) | ((with_reducible refine (?_ : ObR _ _ _)); (first | (refine ObR.mk _ (by assumption) ?_) | (refine ObR.mk _ (by with_reducible rfl) ?_) | (refine ObR.map (by (first | omega | assumption | (simp only [List.length_map, List.length_append, List.length_cons, List.length_nil, List.length_take, List.length_drop, List.length_set, List.length_replicate]; omega))) (fun x hx => ?_)) | (refine ObR.mk _ rfl ?_))) | ((with_reducible refine ObH.f 25 ?_); (first | (with_reducible refine ObH.mk _ _ (hr) ?_) | (refine ObH.mk _ _ (hr) ?_))) | ((with_reducible refine ObW.cons ?_ ?_); (focus (first | assumption | (simp; done)))))
        conv => whnf
        refine Again.mk (i + 1, [((1024 * x.2.1 + (i + 1) : Nat) : Int)]) ?_ ?_ (Fg.vw [(0, 0, 0), (g, 1, g), (0, 4, 0)] ?_ ?_ (by simp) ?_)
        · exact ⟨by dsimp only; omega, by simpa using hsu.symm⟩
        · dsimp only; omega
        all_goals repeat' ((conv => whnf); first | ((with_reducible refine ObRn.mk ?_ ?_); (focus (simp [rnB, rnC, oS]; done))) | ((with_reducible refine ObN.mk ?_ ?_); (focus (first | rfl | assumption | omega | (simp only [List.length_map, List.length_append, List.length_cons, List.length_nil]; omega) | (simp; done) | (simp; omega)))) | ((with_reducible refine ObO.l ?_); (with_reducible refine ObN.mk ?_ ?_); (focus (first | rfl | omega))) | ((with_reducible refine ObRow.same ?_ ?_ ?_); (focus (first | rfl | assumption)); (focus (first | rfl | assumption | (simp; done)))) | ((with_reducible refine ObEqs.mk ?_ ?_); (focus rfl)) | exact True.intro | ((with_reducible refine ObRow.lit ?_ ?_); (focus (simp [rnB, rnC, rnL, AV.cells]; done))))
      | cons c t =>
        have hr := hr [rO (c :: t), ⟨62, 3, [.agg [I x.1, I (x.2.1 : Nat), Bo true]], 0, 0⟩]
        have r4 := nr_i ((c :: t) ++ [((1024 * x.2.1 + (i + 1) : Nat) : Int)])
        have ha2 : t.length + 1 ≤ i := by simpa using ha
        have us : ((c :: t).map iA).take (t.length + 1) ++ [.v (.int .i64 ((1024 * x.2.1 + (i + 1) : Nat) : Int))] = ((c :: t) ++ [((1024 * x.2.1 + (i + 1) : Nat) : Int)]).map iA := i_snoc (l := c :: t)
        repeat' ((conv => whnf); first | (with_reducible refine SeqP.go ?_) | ((with_reducible refine ObD.mk ?_ ?_); (focus (first | rfl | (simp; done)))) | ((with_reducible refine ObN.mk ?_ ?_); (focus (first | rfl | assumption | omega | (simp only [List.length_map, List.length_append, List.length_cons, List.length_nil]; omega) | (simp; done) | (simp; omega)))) | (with_reducible refine ObT.tt ?_) | ((with_reducible refine ObB.yes ?_ ?_); (focus (first | assumption | (with_reducible rfl) | omega))) | ((with_reducible refine ObI.nl ?_ ?_); (focus omega)) | ((with_reducible refine ObX.mk _ rfl ?_ ?_); (focus (first | omega | assumption | (simp only [List.length_map, List.length_append, List.length_cons, List.length_nil, List.length_take, List.length_drop, List.length_set, List.length_replicate]; omega)))) | ((with_reducible refine (?_ : ObL _ _)); (refine ObL.mk _ (by first | assumption | exact (List.length_map _).trans (by assumption) | exact List.length_map _ | rfl) ?_)) | ((with_reducible refine (?_ : ObU _ _)); (refine ObU.mk _ (by first | exact us | assumption | ((conv => lhs; simp only [List.set_cons_zero, List.set_cons_succ, List.take_succ_cons, List.take_zero, List.drop_succ_cons, List.drop_zero, List.nil_append, List.cons_append, List.append_nil, List.take_nil, List.drop_nil]); try rfl) | rfl) ?_)) | ((with_reducible refine (?_ : ObR _ _ _)); (first | (refine ObR.mk _ (by assumption) ?_) | (refine ObR.mk _ (by with_reducible rfl) ?_) | (refine ObR.map (by (first | omega | assumption | (simp only [List.length_map, List.length_append, List.length_cons, List.length_nil, List.length_take, List.length_drop, List.length_set, List.length_replicate]; omega))) (fun x hx => ?_)) | (refine ObR.mk _ rfl ?_))) | ((with_reducible refine ObH.f 25 ?_); (first | (with_reducible refine ObH.mk _ _ (hr) ?_) | (refine ObH.mk _ _ (hr) ?_))))
        conv => whnf
        refine Again.mk (i + 1, (c :: t) ++ [((1024 * x.2.1 + (i + 1) : Nat) : Int)]) ?_ ?_ (Fg.vw [(0, 0, 0), (g, 1, g), (0, 2, 1)] ?_ ?_ (by simp) ?_)
        · exact ⟨by dsimp only; omega, by simpa using hsu.symm⟩
        · dsimp only; omega
        all_goals repeat' ((conv => whnf); first | ((with_reducible refine ObRn.mk ?_ ?_); (focus (simp [rnB, rnC, oS]; done))) | ((with_reducible refine ObN.mk ?_ ?_); (focus (first | rfl | assumption | omega | (simp only [List.length_map, List.length_append, List.length_cons, List.length_nil]; omega) | (simp; done) | (simp; omega)))) | ((with_reducible refine ObO.l ?_); (with_reducible refine ObN.mk ?_ ?_); (focus (first | rfl | omega))) | ((with_reducible refine ObRow.same ?_ ?_ ?_); (focus (first | rfl | assumption)); (focus (first | rfl | assumption | (simp; done)))) | ((with_reducible refine ObEqs.mk ?_ ?_); (focus rfl)) | exact True.intro | ((with_reducible refine ObRow.lit ?_ ?_); (focus (simp [rnB, rnC, rnL, AV.cells]; done))))
  · obtain rfl : i = s.length := by omega
    rw [← h2]
    cases a
    all_goals repeat' ((conv => whnf); first | (with_reducible refine SeqP.go ?_) | ((with_reducible refine ObN.mk ?_ ?_); (focus (first | rfl | assumption | omega | (simp only [List.length_map, List.length_append, List.length_cons, List.length_nil]; omega) | (simp; done) | (simp; omega)))) | (with_reducible refine ObT.ff ?_) | ((with_reducible refine ObB.no ?_ ?_); (focus (first | assumption | omega))) | (exact ObEnd.eq rfl rfl))
theorem all21c (g : Nat) (s : List Sl) (g2 k n : Nat) (f : List Nat) (hs : s.length ≤ 1000) (hi : incs s) :
    HC Try.prog G 21 [.oa 0 0 0 0] [aS (.ol 1 g s.length) (.ol 2 g2 k) n, aL g s, aF g2 f] (oS 3 (upR s s.length)) ([aS (.ol 1 g s.length) (.ol 2 g2 k) n, aL g s, aF g2 f] ++ oH (upR s s.length)) := by
  have r1 := nr_s s
  have r2 := nr_f f
  have hv := valid23 G (.ol 1 g s.length) (.ol 2 g2 k) n [aL g s, aF g2 f]
  refine hc_ofV cop21 rfl ?_
  repeat' ((conv => whnf); first | (with_reducible refine SeqP.go ?_) | ((with_reducible refine ObN.mk ?_ ?_); (focus (first | rfl | assumption | omega | (simp only [List.length_map, List.length_append, List.length_cons, List.length_nil]; omega) | (simp; done) | (simp; omega)))) | (with_reducible refine ObT.tt ?_) | (with_reducible refine ObT.ff ?_) | ((with_reducible refine (?_ : ObR _ _ _)); (first | (refine ObR.mk _ (by assumption) ?_) | (refine ObR.mk _ (by with_reducible rfl) ?_) | (refine ObR.map (by (first | omega | assumption | (simp only [List.length_map, List.length_append, List.length_cons, List.length_nil, List.length_take, List.length_drop, List.length_set, List.length_replicate]; omega))) (fun x hx => ?_)) | (refine ObR.mk _ rfl ?_))) | ((with_reducible refine ObH.f 23 ?_); (first | (with_reducible refine ObH.mk _ _ (hv) ?_) | (refine ObH.mk _ _ (hv) ?_))))
  conv => whnf
  refine LoopP.go (α := Nat × List Int) (fun p => p.1 ≤ s.length ∧ p.2 = upR s p.1) (fun p => s.length - p.1) (fun p => [(3, some (oS 3 p.2)), (0, none), (0, none), (8, some (I p.1)), (0, none), (0, none), (0, none), (0, none), (0, none), (0, none), (0, none), (0, none), (0, none), (0, none), (0, none), (0, none), (0, none)]) (fun p => [aS (.ol 1 g s.length) (.ol 2 g2 k) n, aL g s, aF g2 f] ++ oH p.2) (0, []) ⟨Nat.zero_le _, rfl⟩ (Fg.go ?_ rfl) ?_
  · repeat' ((conv => whnf); first | ((with_reducible refine ObEqs.mk ?_ ?_); (focus rfl)) | ((with_reducible refine ObEq1.i ?_ ?_); (focus (first | (with_reducible rfl) | omega))) | ((with_reducible refine ObEq1.mk ?_ ?_); (focus (first | rfl | assumption))) | exact True.intro)
  rintro ⟨i, a⟩ ⟨h1, h2⟩
  dsimp only at h1 h2 ⊢
  have ha := upR_len s i
  rw [← h2] at ha
  by_cases hil : i < s.length
  · have hx := List.getElem?_eq_getElem hil
    have a1 := sl_at hil
    have hsu := upR_succ hx
    rw [← h2] at hsu
    have hin := hi i _ hx
    have hr := ref25x G g s (.ol 2 g2 k) n i _ hx hs
    generalize s[i] = x at *
    cases hb : x.2.2 with
    | false =>
      rw [hb] at a1 hsu
      cases a with
      | nil =>
        repeat' ((conv => whnf); first | (with_reducible refine SeqP.go ?_) | ((with_reducible refine ObD.mk ?_ ?_); (focus (first | rfl | (simp; done)))) | ((with_reducible refine ObN.mk ?_ ?_); (focus (first | rfl | assumption | omega | (simp only [List.length_map, List.length_append, List.length_cons, List.length_nil]; omega) | (simp; done) | (simp; omega)))) | (with_reducible refine ObT.tt ?_) | (with_reducible refine ObT.ff ?_) | ((with_reducible refine ObB.yes ?_ ?_); (focus (first | assumption | (with_reducible rfl) | omega))) | ((with_reducible refine ObI.nl ?_ ?_); (focus omega)) | ((with_reducible refine ObX.mk _ rfl ?_ ?_); (focus (first | omega | assumption | (simp only [List.length_map, List.length_append, List.length_cons, List.length_nil, List.length_take, List.length_drop, List.length_set, List.length_replicate]; omega)))) | ((with_reducible refine (?_ : ObU _ _)); (refine ObU.mk _ (by first | assumption | ((conv => lhs; simp only [List.set_cons_zero, List.set_cons_succ, List.take_succ_cons, List.take_zero, List.drop_succ_cons, List.drop_zero, List.nil_append, List.cons_append, List.append_nil, List.take_nil, List.drop_nil]); try rfl) | rfl) ?_)) | ((with_reducible refine (?_ : ObR _ _ _)); (first | (refine ObR.mk _ (by assumption) ?_) | (refine ObR.mk _ (by with_reducible rfl) ?_) | (refine ObR.map (by (first | omega | assumption | (simp only [List.length_map, List.length_append, List.length_cons, List.length_nil, List.length_take, List.length_drop, List.length_set, List.length_replicate]; omega))) (fun x hx => ?_)) | (refine ObR.mk _ rfl ?_))))
        conv => whnf
        refine Again.mk (i + 1, []) ?_ ?_ (Fg.vw [(0, 0, 0), (g, 1, g), (g2, 2, g2)] ?_ ?_ (by simp) ?_)
        · exact ⟨by dsimp only; omega, by simpa using hsu.symm⟩
        · dsimp only; omega
        all_goals repeat' ((conv => whnf); first | ((with_reducible refine ObRn.mk ?_ ?_); (focus (simp [rnB, rnC, oS]; done))) | ((with_reducible refine ObN.mk ?_ ?_); (focus (first | rfl | assumption | omega | (simp only [List.length_map, List.length_append, List.length_cons, List.length_nil]; omega) | (simp; done) | (simp; omega)))) | ((with_reducible refine ObO.l ?_); (with_reducible refine ObN.mk ?_ ?_); (focus (first | rfl | omega))) | ((with_reducible refine ObRow.same ?_ ?_ ?_); (focus (first | rfl | assumption)); (focus (first | rfl | assumption | (simp; done)))) | ((with_reducible refine ObEqs.mk ?_ ?_); (focus rfl)) | exact True.intro | ((with_reducible refine ObRow.lit ?_ ?_); (focus (simp [rnB, rnC, rnL, AV.cells]; done))))
      | cons c t =>
        have r4 := nr_i (c :: t)
        repeat' ((conv => whnf); first | (with_reducible refine SeqP.go ?_) | ((with_reducible refine ObD.mk ?_ ?_); (focus (first | rfl | (simp; done)))) | ((with_reducible refine ObN.mk ?_ ?_); (focus (first | rfl | assumption | omega | (simp only [List.length_map, List.length_append, List.length_cons, List.length_nil]; omega) | (simp; done) | (simp; omega)))) | (with_reducible refine ObT.tt ?_) | (with_reducible refine ObT.ff ?_) | ((with_reducible refine ObB.yes ?_ ?_); (focus (first | assumption | (with_reducible rfl) | omega))) | ((with_reducible refine ObI.nl ?_ ?_); (focus omega)) | ((with_reducible refine ObX.mk _ rfl ?_ ?_); (focus (first | omega | assumption | (simp only [List.length_map, List.length_append, List.length_cons, List.length_nil, List.length_take, List.length_drop, List.length_set, List.length_replicate]; omega)))) | ((with_reducible refine (?_ : ObU _ _)); (refine ObU.mk _ (by first | assumption | ((conv => lhs; simp only [List.set_cons_zero, List.set_cons_succ, List.take_succ_cons, List.take_zero, List.drop_succ_cons, List.drop_zero, List.nil_append, List.cons_append, List.append_nil, List.take_nil, List.drop_nil]); try rfl) | rfl) ?_)) | ((with_reducible refine (?_ : ObR _ _ _)); (first | (refine ObR.mk _ (by assumption) ?_) | (refine ObR.mk _ (by with_reducible rfl) ?_) | (refine ObR.map (by (first | omega | assumption | (simp only [List.length_map, List.length_append, List.length_cons, List.length_nil, List.length_take, List.length_drop, List.length_set, List.length_replicate]; omega))) (fun x hx => ?_)) | (refine ObR.mk _ rfl ?_))))
        conv => whnf
        refine Again.mk (i + 1, c :: t) ?_ ?_ (Fg.vw [(0, 0, 0), (g, 1, g), (g2, 2, g2), (0, 3, 0)] ?_ ?_ (by simp) ?_)
        · exact ⟨by dsimp only; omega, by simpa using hsu.symm⟩
        · dsimp only; omega
        all_goals repeat' ((conv => whnf); first | ((with_reducible refine ObRn.mk ?_ ?_); (focus (simp [rnB, rnC, oS]; done))) | ((with_reducible refine ObN.mk ?_ ?_); (focus (first | rfl | assumption | omega | (simp only [List.length_map, List.length_append, List.length_cons, List.length_nil]; omega) | (simp; done) | (simp; omega)))) | ((with_reducible refine ObO.l ?_); (with_reducible refine ObN.mk ?_ ?_); (focus (first | rfl | omega))) | ((with_reducible refine ObRow.same ?_ ?_ ?_); (focus (first | rfl | assumption)); (focus (first | rfl | assumption | (simp; done)))) | ((with_reducible refine ObEqs.mk ?_ ?_); (focus rfl)) | exact True.intro | ((with_reducible refine ObRow.lit ?_ ?_); (focus (simp [rnB, rnC, rnL, AV.cells]; done))))
    | true =>
      rw [hb] at a1 hsu
      have hr := hr (hin hb).1 (hin hb).2
      cases a with
      | nil =>
        have hr := hr [aF g2 f, ⟨62, 3, [.agg [I x.1, I (x.2.1 : Nat), Bo true]], 0, 0⟩]
        repeat' ((conv => whnf); first | (with_reducible refine SeqP.go ?_) | ((with_reducible refine ObD.mk ?_ ?_); (focus (first | rfl | (simp; done)))) | ((with_reducible refine ObN.mk ?_ ?_); (focus (first | rfl | assumption | omega | (simp only [List.length_map, List.length_append, List.length_cons, List.length_nil]; omega) | (simp; done) | (simp; omega)))) | (with_reducible refine ObT.tt ?_) | ((with_reducible refine ObB.yes ?_ ?_); (focus (first | assumption | (with_reducible rfl) | omega))) | ((with_reducible refine ObI.nl ?_ ?_); (focus omega)) | ((with_reducible refine ObX.mk _ rfl ?_ ?_); (focus (first | omega | assumption | (simp only [List.length_map, List.length_append, List.length_cons, List.length_nil, List.length_take, List.length_drop, List.length_set, List.length_replicate]; omega)))) | ((with_reducible refine (?_ : ObL _ _)); (refine ObL.mk _ (by first | assumption | exact (List.length_map _).trans (by assumption) | exact List.length_map _ | rfl) ?_)) | ((with_reducible refine (?_ : ObU _ _)); (refine ObU.mk _ (by first | assumption | ((conv => lhs; simp only [List.set_cons_zero, List.set_cons_succ, List.take_succ_cons, List.take_zero, List.drop_succ_cons, List.drop_zero, List.nil_append, List.cons_append, List.append_nil, List.take_nil, List.drop_nil]); try rfl) | rfl) ?_)) | ((with_reducible refine (?_ : ObR _ _ _)); (first | (refine ObR.mk _ (by assumption) ?_) | (refine ObR.mk _ (by with_reducible rfl) ?_) | (refine ObR.map (by (first | omega | assumption | (simp only [List.length_map, List.length_append, List.length_cons, List.length_nil, List.length_take, List.length_drop, List.length_set, List.length_replicate]; omega))) (fun x hx => ?_)) | (refine ObR.mk _ rfl ?_))) | ((with_reducible refine ObH.f 25 ?_); (first | (with_reducible refine ObH.mk _ _ (hr) ?_) | (refine ObH.mk _ _ (hr) ?_))) | ((with_reducible refine ObW.cons ?_ ?_); (focus (first | assumption | (simp; done)))))
        conv => whnf
        refine Again.mk (i + 1, [((1024 * x.2.1 + (i + 1) : Nat) : Int)]) ?_ ?_ (Fg.vw [(0, 0, 0), (g, 1, g), (g2, 2, g2), (0, 5, 0)] ?_ ?_ (by simp) ?_)
        · exact ⟨by dsimp only; omega, by simpa using hsu.symm⟩
        · dsimp only; omega
        all_goals repeat' ((conv => whnf); first | ((with_reducible refine ObRn.mk ?_ ?_); (focus (simp [rnB, rnC, oS]; done))) | ((with_reducible refine ObN.mk ?_ ?_); (focus (first | rfl | assumption | omega | (simp only [List.length_map, List.length_append, List.length_cons, List.length_nil]; omega) | (simp; done) | (simp; omega)))) | ((with_reducible refine ObO.l ?_); (with_reducible refine ObN.mk ?_ ?_); (focus (first | rfl | omega))) | ((with_reducible refine ObRow.same ?_ ?_ ?_); (focus (first | rfl | assumption)); (focus (first | rfl | assumption | (simp; done)))) | ((with_reducible refine ObEqs.mk ?_ ?_); (focus rfl)) | exact True.intro | ((with_reducible refine ObRow.lit ?_ ?_); (focus (simp [rnB, rnC, rnL, AV.cells]; done))))
      | cons c t =>
        have hr := hr [aF g2 f, rO (c :: t), ⟨62, 3, [.agg [I x.1, I (x.2.1 : Nat), Bo true]], 0, 0⟩]
        have r4 := nr_i ((c :: t) ++ [((1024 * x.2.1 + (i + 1) : Nat) : Int)])
        have ha2 : t.length + 1 ≤ i := by simpa using ha
        have us : ((c :: t).map iA).take (t.length + 1) ++ [.v (.int .i64 ((1024 * x.2.1 + (i + 1) : Nat) : Int))] = ((c :: t) ++ [((1024 * x.2.1 + (i + 1) : Nat) : Int)]).map iA := i_snoc (l := c :: t)
        repeat' ((conv => whnf); first | (with_reducible refine SeqP.go ?_) | ((with_reducible refine ObD.mk ?_ ?_); (focus (first | rfl | (simp; done)))) | ((with_reducible refine ObN.mk ?_ ?_); (focus (first | rfl | assumption | omega | (simp only [List.length_map, List.length_append, List.length_cons, List.length_nil]; omega) | (simp; done) | (simp; omega)))) | (with_reducible refine ObT.tt ?_) | ((with_reducible refine ObB.yes ?_ ?_); (focus (first | assumption | (with_reducible rfl) | omega))) | ((with_reducible refine ObI.nl ?_ ?_); (focus omega)) | ((with_reducible refine ObX.mk _ rfl ?_ ?_); (focus (first | omega | assumption | (simp only [List.length_map, List.length_append, List.length_cons, List.length_nil, List.length_take, List.length_drop, List.length_set, List.length_replicate]; omega)))) | ((with_reducible refine (?_ : ObL _ _)); (refine ObL.mk _ (by first | assumption | exact (List.length_map _).trans (by assumption) | exact List.length_map _ | rfl) ?_)) | ((with_reducible refine (?_ : ObU _ _)); (refine ObU.mk _ (by first | exact us | assumption | ((conv => lhs; simp only [List.set_cons_zero, List.set_cons_succ, List.take_succ_cons, List.take_zero, List.drop_succ_cons, List.drop_zero, List.nil_append, List.cons_append, List.append_nil, List.take_nil, List.drop_nil]); try rfl) | rfl) ?_)) | ((with_reducible refine (?_ : ObR _ _ _)); (first | (refine ObR.mk _ (by assumption) ?_) | (refine ObR.mk _ (by with_reducible rfl) ?_) | (refine ObR.map (by (first | omega | assumption | (simp only [List.length_map, List.length_append, List.length_cons, List.length_nil, List.length_take, List.length_drop, List.length_set, List.length_replicate]; omega))) (fun x hx => ?_)) | (refine ObR.mk _ rfl ?_))) | ((with_reducible refine ObH.f 25 ?_); (first | (with_reducible refine ObH.mk _ _ (hr) ?_) | (refine ObH.mk _ _ (hr) ?_))))
        conv => whnf
        refine Again.mk (i + 1, (c :: t) ++ [((1024 * x.2.1 + (i + 1) : Nat) : Int)]) ?_ ?_ (Fg.vw [(0, 0, 0), (g, 1, g), (g2, 2, g2), (0, 3, 1)] ?_ ?_ (by simp) ?_)
        · exact ⟨by dsimp only; omega, by simpa using hsu.symm⟩
        · dsimp only; omega
        all_goals repeat' ((conv => whnf); first | ((with_reducible refine ObRn.mk ?_ ?_); (focus (simp [rnB, rnC, oS]; done))) | ((with_reducible refine ObN.mk ?_ ?_); (focus (first | rfl | assumption | omega | (simp only [List.length_map, List.length_append, List.length_cons, List.length_nil]; omega) | (simp; done) | (simp; omega)))) | ((with_reducible refine ObO.l ?_); (with_reducible refine ObN.mk ?_ ?_); (focus (first | rfl | omega))) | ((with_reducible refine ObRow.same ?_ ?_ ?_); (focus (first | rfl | assumption)); (focus (first | rfl | assumption | (simp; done)))) | ((with_reducible refine ObEqs.mk ?_ ?_); (focus rfl)) | exact True.intro | ((with_reducible refine ObRow.lit ?_ ?_); (focus (simp [rnB, rnC, rnL, AV.cells]; done))))
  · obtain rfl : i = s.length := by omega
    rw [← h2]
    cases a
    all_goals repeat' ((conv => whnf); first | (with_reducible refine SeqP.go ?_) | ((with_reducible refine ObN.mk ?_ ?_); (focus (first | rfl | assumption | omega | (simp only [List.length_map, List.length_append, List.length_cons, List.length_nil]; omega) | (simp; done) | (simp; omega)))) | (with_reducible refine ObT.ff ?_) | ((with_reducible refine ObB.no ?_ ?_); (focus (first | assumption | omega))) | (exact ObEnd.eq rfl rfl))
theorem new7 (n : Nat) (hn : n ≤ 1000) : HC Try.prog G 7 [I (n : Nat)] [] (.tup [.oa 0 0 0 0, I 0]) [aS (.nl 3) (.nl 1) n] := by
  refine hc_ofV cop7 rfl ?_
  repeat' ((conv => whnf); first | (with_reducible refine SeqP.go ?_) | ((with_reducible refine ObD.mk ?_ ?_); (focus (first | rfl | (simp; done)))) | ((with_reducible refine ObN.mk ?_ ?_); (focus (first | rfl | assumption | omega | (simp only [List.length_map, List.length_append, List.length_cons, List.length_nil]; omega) | (simp; done) | (simp; omega)))) | (with_reducible refine ObT.ff ?_) | ((with_reducible refine ObB.no ?_ ?_); (focus (first | assumption | omega))) | (exact ObEnd.eq rfl rfl))
theorem rep_v (n : Nat) : List.replicate n (AV.v (.int .i64 0)) = (List.replicate n ((0, 0, false) : Sl)).map fV := by simp
theorem rep_b (n : Nat) : List.replicate n (AV.v (.bool false)) = (List.replicate n ((0, 0, false) : Sl)).map fB := by simp
theorem rep_n (n : Nat) : List.replicate n (AV.v (.int .i64 0)) = (List.replicate n ((0, 0, false) : Sl)).map fI := by simp
end
end Go.Proofs.Ytjaohiakpajgkaa.Sim
