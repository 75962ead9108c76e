/- Lists of retired nodes: what is given, and what is split by the document. -/
import Derived.Test.YtccihbhpjnjinaaLmB
namespace Go.Proofs.Ytccihbhpjnjinaa.Sim
open Go.RowKit
set_option maxRecDepth 100000
set_option linter.unusedSimpArgs false
set_option linter.unusedVariables false
def cutG (g : Gr) : Gr := (g.1, g.2.1, g.2.2.take 20)
def fewG (l : List Gr) : List Gr := (l.take 20).map cutG
theorem fewG_len (l : List Gr) : (fewG l).length ≤ 20 := by simp [fewG]; omega
theorem fewG_items (l : List Gr) : ∀ g ∈ fewG l, g.2.2.length ≤ 20 := by
  intro g hg
  simp only [fewG, List.mem_map] at hg
  obtain ⟨x, _, rfl⟩ := hg
  simp [cutG]; omega
theorem fw_snoc {l : List Gr} {i : Nat} (h : i < l.length) : (l.take i).map cutG ++ [cutG l[i]] = (l.take (i + 1)).map cutG := by
  rw [List.take_succ_eq_append_getElem h, List.map_append]; rfl
set_option maxHeartbeats 2000000 in
theorem give9 (G : Nat → AV) (l : List Gr) (hl : l.length ≤ 9223372036854775807) (hg : ∀ g ∈ l, g.2.2.length ≤ 9223372036854775807) : PC Try.prog G 9 [.sl 3 (l.map grA)] (.sl 3 ((fewG l).map grA)) := by
  refine pc_ofV cop9 ?_
  repeat' ((conv => whnf); first | (with_reducible refine SeqP.go ?_) | ((with_reducible refine ObD.mk ?_ ?_); (focus (first | rfl | (simp; done)))))
  conv => whnf
  refine LoopP.go (α := Nat × List Gr) (fun p => p.1 ≤ l.length ∧ p.1 ≤ 20 ∧ p.2 = (l.take p.1).map cutG) (fun p => l.length - p.1) (fun p => [(3, some (.ol 0 0 p.2.length)), (0, some (I p.1)), (0, none), (0, none), (0, none), (0, none), (0, none), (0, none), (0, none), (0, none), (0, none), (0, none), (0, none), (0, none), (0, none), (0, none), (0, none), (0, none), (0, none), (0, none), (0, none), (0, none), (0, none), (0, none), (0, none), (0, none), (0, none), (0, none), (0, none), (0, none), (0, none), (0, none), (0, none), (0, none), (0, none), (0, none), (0, none), (0, none), (0, none), (0, none), (0, none), (0, none), (0, none), (0, none), (0, none), (0, none), (0, none), (0, none), (0, none), (0, none), (0, none), (0, none), (0, none), (0, none), (0, none), (0, none), (0, none), (0, none), (0, none), (0, none), (0, none), (0, none), (0, none), (0, none), (0, none), (0, none), (0, none), (0, none)]) (fun p => [gH 35 p.2]) (0, []) ⟨Nat.zero_le _, Nat.zero_le _, rfl⟩ (Fg.go ?_ rfl) ?_
  · repeat' ((conv => whnf); first | ((with_reducible refine ObEqs.mk ?_ ?_); (focus rfl)) | ((with_reducible refine ObEq1.i ?_ ?_); (focus (first | (with_reducible rfl) | omega))) | ((with_reducible refine ObEq1.mk ?_ ?_); (focus (first | rfl | assumption))) | exact True.intro)
  rintro ⟨i, o⟩ ⟨hi, hi2, ho⟩
  dsimp only at hi hi2 ho ⊢
  have hol : o.length = i := by rw [ho, List.length_map, List.length_take]; omega
  by_cases hlt : i < l.length ∧ i < 20
  · obtain ⟨hlt, hlt2⟩ := hlt
    have hq := gr_at hlt
    have hm := hg _ (List.getElem_mem hlt)
    have hsn := fw_snoc hlt
    generalize l[i] = g at *
    obtain ⟨a, b, m⟩ := g
    dsimp only [cutG] at hq hm hsn
    have r1 := nr_g o
    repeat' ((conv => whnf); first | (with_reducible refine SeqP.go ?_) | ((with_reducible refine ObD.mk ?_ ?_); (focus (first | rfl | (simp; done)))) | ((with_reducible refine ObN.mk ?_ ?_); (focus (first | rfl | assumption | omega | (simp only [List.length_map, List.length_append, List.length_cons, List.length_nil]; omega) | (simp; done) | (simp; omega)))) | (with_reducible refine ObT.tt ?_) | ((with_reducible refine ObB.yes ?_ ?_); (focus (first | assumption | (with_reducible rfl) | omega))) | ((with_reducible refine ObX.mk _ rfl ?_ ?_); (focus (first | omega | assumption | (simp only [List.length_map, List.length_append, List.length_cons, List.length_nil, List.length_take, List.length_drop, List.length_set, List.length_replicate]; omega)))) | ((with_reducible refine (?_ : ObL _ _)); (refine ObL.mk _ (by first | exact (List.length_map _) | assumption | exact (List.length_map _).trans (by assumption) | exact List.length_map _ | rfl) ?_)) | ((with_reducible refine (?_ : ObU _ _)); (refine ObU.mk _ (by first | assumption | ((conv => lhs; simp only [List.set_cons_zero, List.set_cons_succ, List.take_succ_cons, List.take_zero, List.drop_succ_cons, List.drop_zero, List.nil_append, List.cons_append, List.append_nil, List.take_nil, List.drop_nil]); try rfl) | rfl) ?_)) | ((with_reducible refine (?_ : ObR _ _ _)); (first | (refine ObR.mk _ (by assumption) ?_) | (refine ObR.mk _ (by with_reducible rfl) ?_) | (refine ObR.map (by (first | omega | assumption | (simp only [List.length_map, List.length_append, List.length_cons, List.length_nil, List.length_take, List.length_drop, List.length_set, List.length_replicate]; omega))) (fun x hx => ?_)) | (refine ObR.mk _ rfl ?_))))
    conv => whnf
    refine LoopP.go (α := Nat × List It) (fun p => p.1 ≤ m.length ∧ p.1 ≤ 20 ∧ p.2 = m.take p.1) (fun p => m.length - p.1) (fun p => [(6, some (I p.1)), (22, none), (0, none), (0, none), (0, none), (0, none), (0, none), (0, none), (0, none), (0, none), (0, none), (0, none), (0, none), (0, none), (0, none), (0, none), (0, none), (0, none), (0, none), (0, none), (0, none), (0, none), (0, none), (0, none), (0, none), (0, none), (0, none), (0, none), (0, none), (0, none), (0, none), (0, none), (0, none), (0, none), (0, none), (0, none), (0, none), (0, none), (0, none)]) (fun p => [gH 35 o, ⟨35, 3, [.agg [I a, I b, mS 2 p.2]], 0, 0⟩] ++ mH 43 p.2) (0, []) ⟨Nat.zero_le _, Nat.zero_le _, rfl⟩ (Fg.go ?_ rfl) ?_
    · repeat' ((conv => whnf); first | ((with_reducible refine ObEqs.mk ?_ ?_); (focus rfl)) | ((with_reducible refine ObEq1.i ?_ ?_); (focus (first | (with_reducible rfl) | omega))) | exact True.intro)
    rintro ⟨k, c⟩ ⟨hk, hk2, hc⟩
    dsimp only at hk hk2 hc ⊢
    have hcl : c.length = k := by rw [hc, List.length_take]; omega
    by_cases hkt : k < m.length ∧ k < 20
    · obtain ⟨hkt, hkt2⟩ := hkt
      have hq2 := it_at hkt
      have hsn2 := take_snoc hkt
      generalize m[k] = x at *
      obtain ⟨x1, x2⟩ := x
      dsimp only at hq2
      have r2 := nr_m (c ++ [(x1, x2)])
      cases c with
      | nil =>
        repeat' ((conv => whnf); first | (with_reducible refine SeqP.go ?_) | ((with_reducible refine ObD.mk ?_ ?_); (focus (first | rfl | (simp; done)))) | ((with_reducible refine ObN.mk ?_ ?_); (focus (first | rfl | assumption | omega | (simp only [List.length_map, List.length_append, List.length_cons, List.length_nil]; omega) | (simp; done) | (simp; omega)))) | (with_reducible refine ObT.tt ?_) | ((with_reducible refine ObB.yes ?_ ?_); (focus (first | assumption | (with_reducible rfl) | omega))) | ((with_reducible refine ObI.nl ?_ ?_); (focus omega)) | ((with_reducible refine ObX.mk _ rfl ?_ ?_); (focus (first | omega | assumption | (simp only [List.length_map, List.length_append, List.length_cons, List.length_nil, List.length_take, List.length_drop, List.length_set, List.length_replicate]; omega)))) | ((with_reducible refine (?_ : ObL _ _)); (refine ObL.mk _ (by first | exact (List.length_map _) | assumption | exact (List.length_map _).trans (by assumption) | exact List.length_map _ | rfl) ?_)) | ((with_reducible refine (?_ : ObU _ _)); (refine ObU.mk _ (by first | assumption | ((conv => lhs; simp only [List.set_cons_zero, List.set_cons_succ, List.take_succ_cons, List.take_zero, List.drop_succ_cons, List.drop_zero, List.nil_append, List.cons_append, List.append_nil, List.take_nil, List.drop_nil]); try rfl) | rfl) ?_)) | ((with_reducible refine (?_ : ObR _ _ _)); (first | (refine ObR.mk _ (by assumption) ?_) | (refine ObR.mk _ (by with_reducible rfl) ?_) | (refine ObR.map (by (first | omega | assumption | (simp only [List.length_map, List.length_append, List.length_cons, List.length_nil, List.length_take, List.length_drop, List.length_set, List.length_replicate]; omega))) (fun x hx => ?_)) | (refine ObR.mk _ rfl ?_))) | ((with_reducible refine ObW.cons ?_ ?_); (focus (first | assumption | (simp; done)))))
        conv => whnf
        refine Again.mk (k + 1, [(x1, x2)]) ?_ ?_ (Fg.vw [(0, 0, 0), (0, 1, 0), (0, 3, 0)] ?_ ?_ (by simp) ?_)
        · exact ⟨by dsimp only; omega, by dsimp only; omega, by rw [← hsn2, ← hc]; rfl⟩
        · dsimp only; omega
        all_goals repeat' ((conv => whnf); first | ((with_reducible refine ObRow.lit ?_ ?_); (focus (simp [rnB, rnC, rnL, AV.cells, mS]; done))) | ((with_reducible refine ObN.mk ?_ ?_); (focus (first | rfl | assumption | omega | (simp only [List.length_map, List.length_append, List.length_cons, List.length_nil]; omega) | (simp; done) | (simp; omega)))) | ((with_reducible refine ObRn.mk ?_ ?_); (focus (first | rfl | (simp [rnB, rnC, rnL]; done)))) | ((with_reducible refine ObEqs.mk ?_ ?_); (focus rfl)) | exact True.intro)
      | cons c0 ct =>
        have hcl' : ct.length + 1 = k := hcl
        have us : ((c0 :: ct).map itA).take (ct.length + 1) ++ [.agg [I x1, I x2]] = ((c0 :: ct) ++ [(x1, x2)]).map itA := m_snoc (l := c0 :: ct)
        repeat' ((conv => whnf); first | (with_reducible refine SeqP.go ?_) | ((with_reducible refine ObD.mk ?_ ?_); (focus (first | rfl | (simp; done)))) | ((with_reducible refine ObN.mk ?_ ?_); (focus (first | rfl | assumption | omega | (simp only [List.length_map, List.length_append, List.length_cons, List.length_nil]; omega) | (simp; done) | (simp; omega)))) | (with_reducible refine ObT.tt ?_) | ((with_reducible refine ObB.yes ?_ ?_); (focus (first | assumption | (with_reducible rfl) | omega))) | ((with_reducible refine ObI.nl ?_ ?_); (focus omega)) | ((with_reducible refine ObX.mk _ rfl ?_ ?_); (focus (first | omega | assumption | (simp only [List.length_map, List.length_append, List.length_cons, List.length_nil, List.length_take, List.length_drop, List.length_set, List.length_replicate]; omega)))) | ((with_reducible refine (?_ : ObL _ _)); (refine ObL.mk _ (by first | exact (List.length_map _) | assumption | exact (List.length_map _).trans (by assumption) | exact List.length_map _ | rfl) ?_)) | ((with_reducible refine (?_ : ObU _ _)); (refine ObU.mk _ (by first | exact us | assumption | ((conv => lhs; simp only [List.set_cons_zero, List.set_cons_succ, List.take_succ_cons, List.take_zero, List.drop_succ_cons, List.drop_zero, List.nil_append, List.cons_append, List.append_nil, List.take_nil, List.drop_nil]); try rfl) | rfl) ?_)) | ((with_reducible refine (?_ : ObR _ _ _)); (first | (refine ObR.mk _ (by assumption) ?_) | (refine ObR.mk _ (by with_reducible rfl) ?_) | (refine ObR.map (by (first | omega | assumption | (simp only [List.length_map, List.length_append, List.length_cons, List.length_nil, List.length_take, List.length_drop, List.length_set, List.length_replicate]; omega))) (fun x hx => ?_)) | (refine ObR.mk _ rfl ?_))))
        conv => whnf
        refine Again.mk (k + 1, (c0 :: ct) ++ [(x1, x2)]) ?_ ?_ (Fg.vw [(0, 0, 0), (0, 1, 0), (0, 2, 1)] ?_ ?_ (by simp) ?_)
        · exact ⟨by dsimp only; omega, by dsimp only; omega, by rw [← hsn2, ← hc]⟩
        · dsimp only; omega
        all_goals repeat' ((conv => whnf); first | ((with_reducible refine ObRow.lit ?_ ?_); (focus (simp [rnB, rnC, rnL, AV.cells, mS]; done))) | ((with_reducible refine ObN.mk ?_ ?_); (focus (first | rfl | assumption | omega | (simp only [List.length_map, List.length_append, List.length_cons, List.length_nil]; omega) | (simp; done) | (simp; omega)))) | ((with_reducible refine ObRn.mk ?_ ?_); (focus (first | rfl | (simp [rnB, rnC, rnL]; done)))) | ((with_reducible refine ObEqs.mk ?_ ?_); (focus rfl)) | exact True.intro)
    · have hc' : c = m.take 20 := by
        rw [hc]
        rcases Nat.lt_or_ge k m.length with h | h
        · rw [show k = 20 by omega]
        · rw [List.take_of_length_le h, List.take_of_length_le (by omega)]
      have hcm : c.length ≤ 20 := by omega
      rw [← hc'] at hsn
      have hgs := g_snoc (l := o) (a := a) (b := b) (m := c)
      have hpg := p_g (o ++ [(a, b, c)])
      have hng := nr_g (o ++ [(a, b, c)])
      cases c with
      | nil =>
        have hk0 : k = 0 := hcl.symm
        repeat' ((conv => whnf); first | ((with_reducible refine ObN.mk ?_ ?_); (focus (first | rfl | assumption | omega | (simp only [List.length_map, List.length_append, List.length_cons, List.length_nil]; omega) | (simp; done) | (simp; omega)))) | (with_reducible refine ObT.ff ?_) | ((with_reducible refine ObB.no ?_ ?_); (focus (first | assumption | omega))) | ((with_reducible refine ObX.mk _ rfl ?_ ?_); (focus (first | omega | assumption | (simp only [List.length_map, List.length_append, List.length_cons, List.length_nil, List.length_take, List.length_drop, List.length_set, List.length_replicate]; omega)))) | ((with_reducible refine (?_ : ObL _ _)); (refine ObL.mk _ (by first | exact (List.length_map _) | assumption | exact (List.length_map _).trans (by assumption) | exact List.length_map _ | rfl) ?_)) | ((with_reducible refine (?_ : ObR _ _ _)); (first | (refine ObR.mk _ (by assumption) ?_) | (refine ObR.mk _ (by with_reducible rfl) ?_) | (refine ObR.map (by (first | omega | assumption | (simp only [List.length_map, List.length_append, List.length_cons, List.length_nil, List.length_take, List.length_drop, List.length_set, List.length_replicate]; omega))) (fun x hx => ?_)) | (refine ObR.mk _ rfl ?_))))
        conv => whnf
        refine SeqP.nl [] [false, true] ?_
        repeat' ((conv => whnf); first | (with_reducible refine SeqP.go ?_) | ((with_reducible refine ObD.mk ?_ ?_); (focus (first | rfl | (simp; done)))) | ((with_reducible refine ObN.mk ?_ ?_); (focus (first | rfl | assumption | omega | (simp only [List.length_map, List.length_append, List.length_cons, List.length_nil]; omega) | (simp; done) | (simp; omega)))) | (with_reducible refine ObT.ff ?_) | ((with_reducible refine ObI.nl ?_ ?_); (focus omega)) | ((with_reducible refine (?_ : ObL _ _)); (refine ObL.mk _ (by first | exact (List.length_map _) | assumption | exact (List.length_map _).trans (by assumption) | exact List.length_map _ | rfl) ?_)) | ((with_reducible refine (?_ : ObU _ _)); (refine ObU.mk _ (by first | exact hgs | assumption | ((conv => lhs; simp only [List.set_cons_zero, List.set_cons_succ, List.take_succ_cons, List.take_zero, List.drop_succ_cons, List.drop_zero, List.nil_append, List.cons_append, List.append_nil, List.take_nil, List.drop_nil]); try rfl) | rfl) ?_)) | ((with_reducible refine (?_ : ObR _ _ _)); (first | (refine ObR.mk _ (by assumption) ?_) | (refine ObR.mk _ (by with_reducible rfl) ?_) | (refine ObR.map (by (first | omega | assumption | (simp only [List.length_map, List.length_append, List.length_cons, List.length_nil, List.length_take, List.length_drop, List.length_set, List.length_replicate]; omega))) (fun x hx => ?_)) | (refine ObR.mk _ rfl ?_))))
        conv => whnf
        refine Again.mk (i + 1, o ++ [(a, b, [])]) ?_ ?_ (Fg.vw [(0, 0, 1)] ?_ ?_ (by simp) ?_)
        · exact ⟨by dsimp only; omega, by dsimp only; omega, by dsimp only; rw [← hsn, ← ho]⟩
        · dsimp only; omega
        all_goals repeat' ((conv => whnf); first | ((with_reducible refine ObN.mk ?_ ?_); (focus (first | rfl | assumption | omega | (simp only [List.length_map, List.length_append, List.length_cons, List.length_nil]; omega) | (simp; done) | (simp; omega)))) | ((with_reducible refine ObRn.mk ?_ ?_); (focus (first | rfl | (simp [rnB, rnC, rnL]; done)))) | ((with_reducible refine ObRow.same ?_ ?_ ?_); (focus (first | rfl | assumption)); (focus (first | rfl | assumption | (simp; done)))) | ((with_reducible refine ObEqs.mk ?_ ?_); (focus rfl)) | exact True.intro)
      | cons c0 ct =>
        have hcl' : ct.length + 1 ≤ 20 := hcm
        have hma : ((c0 :: ct).map itA).take (ct.length + 1) = (c0 :: ct).map itA := m_all (c0 :: ct)
        have hpm : (((c0 :: ct).map itA).take (ct.length + 1)).all AV.isP = true := by rw [hma]; exact p_m _
        have hor : k = m.length ∨ (k < m.length ∧ k = 20) := by omega
        rcases hor with hor | ⟨hor, hor2⟩
        all_goals
          repeat' ((conv => whnf); first | ((with_reducible refine ObN.mk ?_ ?_); (focus (first | rfl | assumption | omega | (simp only [List.length_map, List.length_append, List.length_cons, List.length_nil]; omega) | (simp; done) | (simp; omega)))) | (with_reducible refine ObT.tt ?_) | (with_reducible refine ObT.ff ?_) | ((with_reducible refine ObB.yes ?_ ?_); (focus (first | assumption | (with_reducible rfl) | omega))) | ((with_reducible refine ObB.no ?_ ?_); (focus (first | assumption | omega))) | ((with_reducible refine ObX.mk _ rfl ?_ ?_); (focus (first | omega | assumption | (simp only [List.length_map, List.length_append, List.length_cons, List.length_nil, List.length_take, List.length_drop, List.length_set, List.length_replicate]; omega)))) | ((with_reducible refine (?_ : ObL _ _)); (refine ObL.mk _ (by first | exact (List.length_map _) | assumption | exact (List.length_map _).trans (by assumption) | exact List.length_map _ | rfl) ?_)) | ((with_reducible refine (?_ : ObR _ _ _)); (first | (refine ObR.mk _ (by assumption) ?_) | (refine ObR.mk _ (by with_reducible rfl) ?_) | (refine ObR.map (by (first | omega | assumption | (simp only [List.length_map, List.length_append, List.length_cons, List.length_nil, List.length_take, List.length_drop, List.length_set, List.length_replicate]; omega))) (fun x hx => ?_)) | (refine ObR.mk _ rfl ?_))))
          conv => whnf
          refine SeqP.fz 2 (ct.length + 1) [false, true] ?_
          repeat' ((conv => whnf); first | (with_reducible refine SeqP.go ?_) | ((with_reducible refine ObD.mk ?_ ?_); (focus (first | rfl | (simp; done)))) | ((with_reducible refine ObN.mk ?_ ?_); (focus (first | rfl | assumption | omega | (simp only [List.length_map, List.length_append, List.length_cons, List.length_nil]; omega) | (simp; done) | (simp; omega)))) | (with_reducible refine ObT.ff ?_) | ((with_reducible refine ObI.nl ?_ ?_); (focus omega)) | ((with_reducible refine (?_ : ObL _ _)); (refine ObL.mk _ (by first | exact (List.length_map _) | assumption | exact (List.length_map _).trans (by assumption) | exact List.length_map _ | rfl) ?_)) | ((with_reducible refine (?_ : ObU _ _)); (refine ObU.mk _ (by first | exact hgs | exact hma | assumption | ((conv => lhs; simp only [List.set_cons_zero, List.set_cons_succ, List.take_succ_cons, List.take_zero, List.drop_succ_cons, List.drop_zero, List.nil_append, List.cons_append, List.append_nil, List.take_nil, List.drop_nil]); try rfl) | rfl) ?_)) | ((with_reducible refine (?_ : ObR _ _ _)); (first | (refine ObR.mk _ (by assumption) ?_) | (refine ObR.mk _ (by with_reducible rfl) ?_) | (refine ObR.map (by (first | omega | assumption | (simp only [List.length_map, List.length_append, List.length_cons, List.length_nil, List.length_take, List.length_drop, List.length_set, List.length_replicate]; omega))) (fun x hx => ?_)) | (refine ObR.mk _ rfl ?_))) | ((with_reducible refine ObSt.live ?_ ?_); (focus (first | trivial | (refine ⟨rfl, ?_⟩; first | omega | (exact Nat.le_refl _))))))
          conv => whnf
          refine Again.mk (i + 1, o ++ [(a, b, c0 :: ct)]) ?_ ?_ (Fg.vw [(0, 0, 1)] ?_ ?_ (by simp) ?_)
          · exact ⟨by dsimp only; omega, by dsimp only; omega, by dsimp only; rw [← hsn, ← ho]⟩
          · dsimp only; omega
          all_goals repeat' ((conv => whnf); first | ((with_reducible refine ObN.mk ?_ ?_); (focus (first | rfl | assumption | omega | (simp only [List.length_map, List.length_append, List.length_cons, List.length_nil]; omega) | (simp; done) | (simp; omega)))) | ((with_reducible refine ObRn.mk ?_ ?_); (focus (first | rfl | (simp [rnB, rnC, rnL]; done)))) | ((with_reducible refine ObRow.same ?_ ?_ ?_); (focus (first | rfl | assumption)); (focus (first | rfl | assumption | (simp; done)))) | ((with_reducible refine ObEqs.mk ?_ ?_); (focus rfl)) | exact True.intro)
  · have ho' : o = fewG l := by
      rw [ho, fewG]
      rcases Nat.lt_or_ge i l.length with h | h
      · rw [show i = 20 by omega]
      · rw [List.take_of_length_le h, List.take_of_length_le (by omega)]
    have ga := g_all o
    have pg := p_g o
    rw [← ho']
    have hor : i = l.length ∨ (i < l.length ∧ i = 20) := by omega
    rcases hor with hor | ⟨hor, hor2⟩
    all_goals repeat' ((conv => whnf); first | (with_reducible refine SeqP.go ?_) | ((with_reducible refine ObN.mk ?_ ?_); (focus (first | rfl | assumption | omega | (simp only [List.length_map, List.length_append, List.length_cons, List.length_nil]; omega) | (simp; done) | (simp; omega)))) | (with_reducible refine ObT.tt ?_) | (with_reducible refine ObT.ff ?_) | ((with_reducible refine ObB.yes ?_ ?_); (focus (first | assumption | (with_reducible rfl) | omega))) | ((with_reducible refine ObB.no ?_ ?_); (focus (first | assumption | omega))) | ((with_reducible refine (?_ : ObL _ _)); (refine ObL.mk _ (by first | exact (List.length_map _) | assumption | exact (List.length_map _).trans (by assumption) | exact List.length_map _ | rfl) ?_)) | ((with_reducible refine (?_ : ObU _ _)); (refine ObU.mk _ (by first | exact ga | assumption | ((conv => lhs; simp only [List.set_cons_zero, List.set_cons_succ, List.take_succ_cons, List.take_zero, List.drop_succ_cons, List.drop_zero, List.nil_append, List.cons_append, List.append_nil, List.take_nil, List.drop_nil]); try rfl) | rfl) ?_)) | ((with_reducible refine ObEq.mk ?_); (focus (first | rfl | assumption))))
end Go.Proofs.Ytccihbhpjnjinaa.Sim
