/- Lists of retired nodes: the document's split, and whether groups are the same. -/
import Derived.Test.YtccihbhpjnjinaaLmC
namespace Go.Proofs.Ytccihbhpjnjinaa.Sim
open Go.RowKit
set_option maxRecDepth 100000
set_option linter.unusedSimpArgs false
set_option linter.unusedVariables false
def goneI (vs es : List Int) (a b : Int) (m : List It) : List Int := (m.filter (freeV vs es (a, b, []))).map (·.1)
def restI (vs es : List Int) (a b : Int) (m : List It) : List It := m.filter fun x => !freeV vs es (a, b, []) x
def keepG (vs es : List Int) (g : Gr) : List Gr := if restI vs es g.1 g.2.1 g.2.2 = [] then [] else [(g.1, g.2.1, restI vs es g.1 g.2.1 g.2.2)]
def sF (vs es : List Int) (l : List Gr) : List Int := l.flatMap fun g => goneI vs es g.1 g.2.1 g.2.2
def sK (vs es : List Int) (l : List Gr) : List Gr := l.flatMap (keepG vs es)
theorem sF_snoc {vs es : List Int} {l : List Gr} {i : Nat} (h : i < l.length) : sF vs es (l.take i) ++ goneI vs es l[i].1 l[i].2.1 l[i].2.2 = sF vs es (l.take (i + 1)) := by
  rw [List.take_succ_eq_append_getElem h, sF, sF, List.flatMap_append]; simp
theorem sK_snoc {vs es : List Int} {l : List Gr} {i : Nat} (h : i < l.length) : sK vs es (l.take i) ++ keepG vs es l[i] = sK vs es (l.take (i + 1)) := by
  rw [List.take_succ_eq_append_getElem h, sK, sK, List.flatMap_append]; simp
theorem gone_yes {vs es : List Int} {a b : Int} {m : List It} {k : Nat} (h : k < m.length) (hf : freeV vs es (a, b, []) m[k] = true) : goneI vs es a b (m.take (k + 1)) = goneI vs es a b (m.take k) ++ [m[k].1] ∧ restI vs es a b (m.take (k + 1)) = restI vs es a b (m.take k) := by
  rw [List.take_succ_eq_append_getElem h, goneI, goneI, restI, restI, List.filter_append, List.filter_append]
  simp [hf]
theorem gone_no {vs es : List Int} {a b : Int} {m : List It} {k : Nat} (h : k < m.length) (hf : freeV vs es (a, b, []) m[k] = false) : goneI vs es a b (m.take (k + 1)) = goneI vs es a b (m.take k) ∧ restI vs es a b (m.take (k + 1)) = restI vs es a b (m.take k) ++ [m[k]] := by
  rw [List.take_succ_eq_append_getElem h, goneI, goneI, restI, restI, List.filter_append, List.filter_append]
  simp [hf]
theorem gone_len (vs es : List Int) (a b : Int) (m : List It) : (goneI vs es a b m).length ≤ m.length := by
  rw [goneI, List.length_map]; exact List.length_filter_le _ _
theorem rest_len (vs es : List Int) (a b : Int) (m : List It) : (restI vs es a b m).length ≤ m.length := List.length_filter_le _ _
theorem sF_len {vs es : List Int} {l : List Gr} (h : ∀ g ∈ l, g.2.2.length ≤ 1000) : (sF vs es l).length ≤ 1000 * l.length := by
  induction l with
  | nil => simp [sF]
  | cons g l ih =>
    have h1 := ih (fun g hg => h g (by simp [hg]))
    have h2 := h g (by simp)
    have h3 := gone_len vs es g.1 g.2.1 g.2.2
    simp only [sF, List.flatMap_cons, List.length_append, List.length_cons] at h1 ⊢
    omega
theorem sK_len (vs es : List Int) (l : List Gr) : (sK vs es l).length ≤ l.length := by
  induction l with
  | nil => simp [sK]
  | cons g l ih =>
    simp only [sK, List.flatMap_cons, List.length_append, List.length_cons] at ih ⊢
    have : (keepG vs es g).length ≤ 1 := by unfold keepG; split <;> simp
    omega
theorem free_g (vs es : List Int) (a b : Int) (m : List It) (x : It) : freeV vs es (a, b, m) x = freeV vs es (a, b, []) x := rfl
abbrev iH (e : Nat) (l : List Int) : OB := ⟨e, 1, l.map iA, 0, 0⟩
theorem i_snoc {l : List Int} {x : Int} : (l.map iA).take l.length ++ [.v (.int .i64 x)] = (l ++ [x]).map iA := by
  rw [List.take_of_length_le (by simp)]; simp
theorem i_all (l : List Int) : (l.map iA).take l.length = l.map iA := List.take_of_length_le (by simp)
set_option maxHeartbeats 4000000 in
theorem split10 (G : Nat → AV) (l : List Gr) (vs es : List Int) (hv : vs.length ≤ 1000) (he : es.length ≤ 1000) (hl : l.length ≤ 1000) (hg : ∀ g ∈ l, g.2.2.length ≤ 1000) : PC Try.prog G 10 [.sl 3 (l.map grA), .sl 1 (vs.map iA), .sl 1 (es.map iA)] (.tup [.sl 1 ((sF vs es l).map iA), .sl 3 ((sK vs es l).map grA)]) := by
  refine pc_ofV cop10 ?_
  repeat' ((conv => whnf); first | (with_reducible refine SeqP.go ?_) | ((with_reducible refine ObD.mk ?_ ?_); (focus (first | rfl | (simp; done)))))
  conv => whnf
  refine LoopP.go (α := Nat × List Int × List Gr) (fun p => p.1 ≤ l.length ∧ p.2.1 = sF vs es (l.take p.1) ∧ p.2.2 = sK vs es (l.take p.1)) (fun p => l.length - p.1) (fun p => [(8, some (.ol 0 0 p.2.1.length)), (0, some (.ol 1 0 p.2.2.length)), (0, some (I p.1)), (0, none), (0, none), (0, none), (0, none), (0, none), (0, none), (0, none), (0, none), (0, none), (0, none), (0, none), (0, none), (0, none), (0, none), (0, none), (0, none), (0, none), (0, none), (0, none), (0, none), (0, none), (0, none), (0, none), (0, none), (0, none), (0, none), (0, none), (0, none), (0, none), (0, none), (0, none), (0, none), (0, none), (0, none), (0, none), (0, none), (0, none), (0, none), (0, none), (0, none), (0, none), (0, none), (0, none), (0, none), (0, none), (0, none), (0, none), (0, none), (0, none), (0, none), (0, none), (0, none), (0, none), (0, none), (0, none), (0, none), (0, none), (0, none), (0, none), (0, none), (0, none), (0, none), (0, none), (0, none), (0, none), (0, none), (0, none), (0, none), (0, none), (0, none), (0, none), (0, none), (0, none), (0, none), (0, none), (0, none), (0, none), (0, none), (0, none)]) (fun p => [iH 41 p.2.1, gH 75 p.2.2]) (0, [], []) ⟨Nat.zero_le _, rfl, rfl⟩ (Fg.go ?_ rfl) ?_
  · repeat' ((conv => whnf); first | ((with_reducible refine ObEqs.mk ?_ ?_); (focus rfl)) | ((with_reducible refine ObEq1.i ?_ ?_); (focus (first | (with_reducible rfl) | omega))) | ((with_reducible refine ObEq1.mk ?_ ?_); (focus (first | rfl | assumption))) | exact True.intro)
  rintro ⟨i, f0, o⟩ ⟨hi, hf0, ho⟩
  dsimp only at hi hf0 ho ⊢
  have hfl : f0.length ≤ 1000 * i := by
    have := sF_len (vs := vs) (es := es) (l := l.take i) (fun g h => hg g (List.mem_of_mem_take h))
    rw [← hf0, List.length_take] at this; omega
  have hol : o.length ≤ i := by
    have := sK_len vs es (l.take i)
    rw [← ho, List.length_take] at this; omega
  by_cases hlt : i < l.length
  · have hq := gr_at hlt
    have hm := hg _ (List.getElem_mem hlt)
    have hsf := sF_snoc (vs := vs) (es := es) hlt
    have hsk := sK_snoc (vs := vs) (es := es) hlt
    rw [← hf0] at hsf
    rw [← ho] at hsk
    generalize l[i] = g at *
    obtain ⟨a, b, m⟩ := g
    dsimp only [keepG] at hq hm hsf hsk
    have r0 := nr_i f0
    have r1 := nr_g o
    repeat' ((conv => whnf); first | (with_reducible refine SeqP.go ?_) | ((with_reducible refine ObD.mk ?_ ?_); (focus (first | rfl | (simp; done)))) | ((with_reducible refine ObN.mk ?_ ?_); (focus (first | rfl | assumption | omega | (simp only [List.length_map, List.length_append, List.length_cons, List.length_nil]; omega) | (simp; done) | (simp; omega)))) | (with_reducible refine ObT.tt ?_) | ((with_reducible refine ObB.yes ?_ ?_); (focus (first | assumption | (with_reducible rfl) | omega))) | ((with_reducible refine ObX.mk _ rfl ?_ ?_); (focus (first | omega | assumption | (simp only [List.length_map, List.length_append, List.length_cons, List.length_nil, List.length_take, List.length_drop, List.length_set, List.length_replicate]; omega)))) | ((with_reducible refine (?_ : ObL _ _)); (refine ObL.mk _ (by first | exact (List.length_map _) | assumption | exact (List.length_map _).trans (by assumption) | exact List.length_map _ | rfl) ?_)) | ((with_reducible refine (?_ : ObU _ _)); (refine ObU.mk _ (by first | assumption | ((conv => lhs; simp only [List.set_cons_zero, List.set_cons_succ, List.take_succ_cons, List.take_zero, List.drop_succ_cons, List.drop_zero, List.nil_append, List.cons_append, List.append_nil, List.take_nil, List.drop_nil]); try rfl) | rfl) ?_)) | ((with_reducible refine (?_ : ObR _ _ _)); (first | (refine ObR.mk _ (by assumption) ?_) | (refine ObR.mk _ (by with_reducible rfl) ?_) | (refine ObR.map (by (first | omega | assumption | (simp only [List.length_map, List.length_append, List.length_cons, List.length_nil, List.length_take, List.length_drop, List.length_set, List.length_replicate]; omega))) (fun x hx => ?_)) | (refine ObR.mk _ rfl ?_))))
    conv => whnf
    refine LoopP.go (α := Nat × List Int × List It) (fun p => p.1 ≤ m.length ∧ p.2.1 = f0 ++ goneI vs es a b (m.take p.1) ∧ p.2.2 = restI vs es a b (m.take p.1)) (fun p => m.length - p.1) (fun p => [(8, some (.ol 0 0 p.2.1.length)), (3, some (I p.1)), (19, none), (0, none), (0, none), (0, none), (0, none), (0, none), (0, none), (0, none), (0, none), (0, none), (0, none), (0, none), (0, none), (0, none), (0, none), (0, none), (0, none), (0, none), (0, none), (0, none), (0, none), (0, none), (0, none), (0, none), (0, none), (0, none), (0, none), (0, none), (0, none), (0, none), (0, none), (0, none), (0, none), (0, none), (0, none), (0, none), (0, none), (0, none), (0, none), (0, none), (0, none), (0, none), (0, none), (0, none), (0, none), (0, none), (0, none), (0, none), (0, none), (0, none)]) (fun p => [iH 41 p.2.1, gH 75 o, ⟨75, 3, [.agg [I a, I b, mS 3 p.2.2]], 0, 0⟩] ++ mH 76 p.2.2) (0, f0, []) ⟨Nat.zero_le _, by simp [goneI], rfl⟩ (Fg.go ?_ rfl) ?_
    · repeat' ((conv => whnf); first | ((with_reducible refine ObEqs.mk ?_ ?_); (focus rfl)) | ((with_reducible refine ObEq1.i ?_ ?_); (focus (first | (with_reducible rfl) | omega))) | ((with_reducible refine ObEq1.o ?_ ?_); (focus (first | (with_reducible rfl) | omega))) | exact True.intro)
    rintro ⟨k, f, c⟩ ⟨hk, hf, hc⟩
    dsimp only at hk hf hc ⊢
    have hfk : f.length ≤ 1000 * i + 1000 := by
      have := gone_len vs es a b (m.take k)
      rw [hf, List.length_append]; rw [List.length_take] at this; omega
    have hcl : c.length ≤ k := by
      have := rest_len vs es a b (m.take k)
      rw [← hc, List.length_take] at this; omega
    by_cases hkt : k < m.length
    · have hq2 := it_at hkt
      have hy := gone_yes (vs := vs) (es := es) (a := a) (b := b) hkt
      have hn := gone_no (vs := vs) (es := es) (a := a) (b := b) hkt
      have hfr := free30 G (a, b, m) m[k] vs es hv he _ rfl
      rw [free_g] at hfr
      generalize m[k] = x at *
      obtain ⟨x1, x2⟩ := x
      dsimp only at hq2 hy hn
      cases hd : freeV vs es (a, b, []) (x1, x2) with
      | true =>
        obtain ⟨hy1, hy2⟩ := hy hd
        rw [hd] at hfr
        have us := i_snoc (l := f) (x := x1)
        have r2 := nr_i (f ++ [x1])
        cases c with
        | nil =>
          repeat' ((conv => whnf); first | (with_reducible refine SeqP.go ?_) | ((with_reducible refine ObD.mk ?_ ?_); (focus (first | rfl | (simp; done)))) | ((with_reducible refine ObN.mk ?_ ?_); (focus (first | rfl | assumption | omega | (simp only [List.length_map, List.length_append, List.length_cons, List.length_nil]; omega) | (simp; done) | (simp; omega)))) | (with_reducible refine ObT.tt ?_) | ((with_reducible refine ObB.yes ?_ ?_); (focus (first | assumption | (with_reducible rfl) | omega))) | ((with_reducible refine ObI.nl ?_ ?_); (focus omega)) | ((with_reducible refine ObX.mk _ rfl ?_ ?_); (focus (first | omega | assumption | (simp only [List.length_map, List.length_append, List.length_cons, List.length_nil, List.length_take, List.length_drop, List.length_set, List.length_replicate]; omega)))) | ((with_reducible refine (?_ : ObL _ _)); (refine ObL.mk _ (by first | exact (List.length_map _) | assumption | exact (List.length_map _).trans (by assumption) | exact List.length_map _ | rfl) ?_)) | ((with_reducible refine (?_ : ObU _ _)); (refine ObU.mk _ (by first | exact us | assumption | ((conv => lhs; simp only [List.set_cons_zero, List.set_cons_succ, List.take_succ_cons, List.take_zero, List.drop_succ_cons, List.drop_zero, List.nil_append, List.cons_append, List.append_nil, List.take_nil, List.drop_nil]); try rfl) | rfl) ?_)) | ((with_reducible refine (?_ : ObR _ _ _)); (first | (refine ObR.mk _ (by assumption) ?_) | (refine ObR.mk _ (by with_reducible rfl) ?_) | (refine ObR.map (by (first | omega | assumption | (simp only [List.length_map, List.length_append, List.length_cons, List.length_nil, List.length_take, List.length_drop, List.length_set, List.length_replicate]; omega))) (fun x hx => ?_)) | (refine ObR.mk _ rfl ?_))) | ((with_reducible refine ObC.f 30 ?_); (first | (with_reducible refine ObC.mk _ (hfr) ?_) | (refine ObC.mk _ (hfr) ?_))))
          conv => whnf
          refine Again.mk (k + 1, f ++ [x1], []) ?_ ?_ (Fg.vw [(0, 0, 1), (0, 1, 0), (0, 2, 0)] ?_ ?_ (by simp) ?_)
          · exact ⟨by dsimp only; omega, by dsimp only; rw [hy1, hf, List.append_assoc], by dsimp only; rw [hy2, ← hc]⟩
          · dsimp only; omega
          all_goals repeat' ((conv => whnf); first | ((with_reducible refine ObRow.lit ?_ ?_); (focus (simp [rnB, rnC, rnL, AV.cells, mS]; done))) | ((with_reducible refine ObN.mk ?_ ?_); (focus (first | rfl | assumption | omega | (simp only [List.length_map, List.length_append, List.length_cons, List.length_nil]; omega) | (simp; done) | (simp; omega)))) | ((with_reducible refine ObRn.mk ?_ ?_); (focus (first | rfl | (simp [rnB, rnC, rnL]; done)))) | ((with_reducible refine ObEqs.mk ?_ ?_); (focus rfl)) | exact True.intro)
        | cons c0 ct =>
          have r3 := nr_m (c0 :: ct)
          repeat' ((conv => whnf); first | (with_reducible refine SeqP.go ?_) | ((with_reducible refine ObD.mk ?_ ?_); (focus (first | rfl | (simp; done)))) | ((with_reducible refine ObN.mk ?_ ?_); (focus (first | rfl | assumption | omega | (simp only [List.length_map, List.length_append, List.length_cons, List.length_nil]; omega) | (simp; done) | (simp; omega)))) | (with_reducible refine ObT.tt ?_) | ((with_reducible refine ObB.yes ?_ ?_); (focus (first | assumption | (with_reducible rfl) | omega))) | ((with_reducible refine ObI.nl ?_ ?_); (focus omega)) | ((with_reducible refine ObX.mk _ rfl ?_ ?_); (focus (first | omega | assumption | (simp only [List.length_map, List.length_append, List.length_cons, List.length_nil, List.length_take, List.length_drop, List.length_set, List.length_replicate]; omega)))) | ((with_reducible refine (?_ : ObL _ _)); (refine ObL.mk _ (by first | exact (List.length_map _) | assumption | exact (List.length_map _).trans (by assumption) | exact List.length_map _ | rfl) ?_)) | ((with_reducible refine (?_ : ObU _ _)); (refine ObU.mk _ (by first | exact us | assumption | ((conv => lhs; simp only [List.set_cons_zero, List.set_cons_succ, List.take_succ_cons, List.take_zero, List.drop_succ_cons, List.drop_zero, List.nil_append, List.cons_append, List.append_nil, List.take_nil, List.drop_nil]); try rfl) | rfl) ?_)) | ((with_reducible refine (?_ : ObR _ _ _)); (first | (refine ObR.mk _ (by assumption) ?_) | (refine ObR.mk _ (by with_reducible rfl) ?_) | (refine ObR.map (by (first | omega | assumption | (simp only [List.length_map, List.length_append, List.length_cons, List.length_nil, List.length_take, List.length_drop, List.length_set, List.length_replicate]; omega))) (fun x hx => ?_)) | (refine ObR.mk _ rfl ?_))) | ((with_reducible refine ObC.f 30 ?_); (first | (with_reducible refine ObC.mk _ (hfr) ?_) | (refine ObC.mk _ (hfr) ?_))))
          conv => whnf
          refine Again.mk (k + 1, f ++ [x1], c0 :: ct) ?_ ?_ (Fg.vw [(0, 0, 1), (0, 1, 0), (0, 2, 0), (0, 3, 0)] ?_ ?_ (by simp) ?_)
          · exact ⟨by dsimp only; omega, by dsimp only; rw [hy1, hf, List.append_assoc], by dsimp only; rw [hy2, ← hc]⟩
          · dsimp only; omega
          all_goals repeat' ((conv => whnf); first | ((with_reducible refine ObRow.lit ?_ ?_); (focus (simp [rnB, rnC, rnL, AV.cells, mS]; done))) | ((with_reducible refine ObN.mk ?_ ?_); (focus (first | rfl | assumption | omega | (simp only [List.length_map, List.length_append, List.length_cons, List.length_nil]; omega) | (simp; done) | (simp; omega)))) | ((with_reducible refine ObRn.mk ?_ ?_); (focus (first | rfl | (simp [rnB, rnC, rnL]; done)))) | ((with_reducible refine ObEqs.mk ?_ ?_); (focus rfl)) | exact True.intro)
      | false =>
        obtain ⟨hy1, hy2⟩ := hn hd
        rw [hd] at hfr
        have r2 := nr_i f
        have r3 := nr_m (c ++ [(x1, x2)])
        cases c with
        | nil =>
          repeat' ((conv => whnf); first | (with_reducible refine SeqP.go ?_) | ((with_reducible refine ObD.mk ?_ ?_); (focus (first | rfl | (simp; done)))) | ((with_reducible refine ObN.mk ?_ ?_); (focus (first | rfl | assumption | omega | (simp only [List.length_map, List.length_append, List.length_cons, List.length_nil]; omega) | (simp; done) | (simp; omega)))) | (with_reducible refine ObT.tt ?_) | (with_reducible refine ObT.ff ?_) | ((with_reducible refine ObB.yes ?_ ?_); (focus (first | assumption | (with_reducible rfl) | omega))) | ((with_reducible refine ObI.nl ?_ ?_); (focus omega)) | ((with_reducible refine ObX.mk _ rfl ?_ ?_); (focus (first | omega | assumption | (simp only [List.length_map, List.length_append, List.length_cons, List.length_nil, List.length_take, List.length_drop, List.length_set, List.length_replicate]; omega)))) | ((with_reducible refine (?_ : ObL _ _)); (refine ObL.mk _ (by first | exact (List.length_map _) | assumption | exact (List.length_map _).trans (by assumption) | exact List.length_map _ | rfl) ?_)) | ((with_reducible refine (?_ : ObU _ _)); (refine ObU.mk _ (by first | assumption | ((conv => lhs; simp only [List.set_cons_zero, List.set_cons_succ, List.take_succ_cons, List.take_zero, List.drop_succ_cons, List.drop_zero, List.nil_append, List.cons_append, List.append_nil, List.take_nil, List.drop_nil]); try rfl) | rfl) ?_)) | ((with_reducible refine (?_ : ObR _ _ _)); (first | (refine ObR.mk _ (by assumption) ?_) | (refine ObR.mk _ (by with_reducible rfl) ?_) | (refine ObR.map (by (first | omega | assumption | (simp only [List.length_map, List.length_append, List.length_cons, List.length_nil, List.length_take, List.length_drop, List.length_set, List.length_replicate]; omega))) (fun x hx => ?_)) | (refine ObR.mk _ rfl ?_))) | ((with_reducible refine ObC.f 30 ?_); (first | (with_reducible refine ObC.mk _ (hfr) ?_) | (refine ObC.mk _ (hfr) ?_))) | ((with_reducible refine ObW.cons ?_ ?_); (focus (first | assumption | (simp; done)))))
          conv => whnf
          refine Again.mk (k + 1, f, [(x1, x2)]) ?_ ?_ (Fg.vw [(0, 0, 0), (0, 1, 0), (0, 2, 0), (0, 4, 0)] ?_ ?_ (by simp) ?_)
          · exact ⟨by dsimp only; omega, by dsimp only; rw [hy1, hf], by dsimp only; rw [hy2, ← hc]; rfl⟩
          · dsimp only; omega
          all_goals repeat' ((conv => whnf); first | ((with_reducible refine ObRow.lit ?_ ?_); (focus (simp [rnB, rnC, rnL, AV.cells, mS]; done))) | ((with_reducible refine ObN.mk ?_ ?_); (focus (first | rfl | assumption | omega | (simp only [List.length_map, List.length_append, List.length_cons, List.length_nil]; omega) | (simp; done) | (simp; omega)))) | ((with_reducible refine ObRn.mk ?_ ?_); (focus (first | rfl | (simp [rnB, rnC, rnL]; done)))) | ((with_reducible refine ObEqs.mk ?_ ?_); (focus rfl)) | exact True.intro)
        | cons c0 ct =>
          have hcl' : ct.length + 1 ≤ k := hcl
          have us : ((c0 :: ct).map itA).take (ct.length + 1) ++ [.agg [I x1, I x2]] = ((c0 :: ct) ++ [(x1, x2)]).map itA := m_snoc (l := c0 :: ct)
          repeat' ((conv => whnf); first | (with_reducible refine SeqP.go ?_) | ((with_reducible refine ObD.mk ?_ ?_); (focus (first | rfl | (simp; done)))) | ((with_reducible refine ObN.mk ?_ ?_); (focus (first | rfl | assumption | omega | (simp only [List.length_map, List.length_append, List.length_cons, List.length_nil]; omega) | (simp; done) | (simp; omega)))) | (with_reducible refine ObT.tt ?_) | (with_reducible refine ObT.ff ?_) | ((with_reducible refine ObB.yes ?_ ?_); (focus (first | assumption | (with_reducible rfl) | omega))) | ((with_reducible refine ObI.nl ?_ ?_); (focus omega)) | ((with_reducible refine ObX.mk _ rfl ?_ ?_); (focus (first | omega | assumption | (simp only [List.length_map, List.length_append, List.length_cons, List.length_nil, List.length_take, List.length_drop, List.length_set, List.length_replicate]; omega)))) | ((with_reducible refine (?_ : ObL _ _)); (refine ObL.mk _ (by first | exact (List.length_map _) | assumption | exact (List.length_map _).trans (by assumption) | exact List.length_map _ | rfl) ?_)) | ((with_reducible refine (?_ : ObU _ _)); (refine ObU.mk _ (by first | exact us | assumption | ((conv => lhs; simp only [List.set_cons_zero, List.set_cons_succ, List.take_succ_cons, List.take_zero, List.drop_succ_cons, List.drop_zero, List.nil_append, List.cons_append, List.append_nil, List.take_nil, List.drop_nil]); try rfl) | rfl) ?_)) | ((with_reducible refine (?_ : ObR _ _ _)); (first | (refine ObR.mk _ (by assumption) ?_) | (refine ObR.mk _ (by with_reducible rfl) ?_) | (refine ObR.map (by (first | omega | assumption | (simp only [List.length_map, List.length_append, List.length_cons, List.length_nil, List.length_take, List.length_drop, List.length_set, List.length_replicate]; omega))) (fun x hx => ?_)) | (refine ObR.mk _ rfl ?_))) | ((with_reducible refine ObC.f 30 ?_); (first | (with_reducible refine ObC.mk _ (hfr) ?_) | (refine ObC.mk _ (hfr) ?_))))
          conv => whnf
          refine Again.mk (k + 1, f, (c0 :: ct) ++ [(x1, x2)]) ?_ ?_ (Fg.vw [(0, 0, 0), (0, 1, 0), (0, 2, 0), (0, 3, 1)] ?_ ?_ (by simp) ?_)
          · exact ⟨by dsimp only; omega, by dsimp only; rw [hy1, hf], by dsimp only; rw [hy2, ← hc]⟩
          · dsimp only; omega
          all_goals repeat' ((conv => whnf); first | ((with_reducible refine ObRow.lit ?_ ?_); (focus (simp [rnB, rnC, rnL, AV.cells, mS]; done))) | ((with_reducible refine ObN.mk ?_ ?_); (focus (first | rfl | assumption | omega | (simp only [List.length_map, List.length_append, List.length_cons, List.length_nil]; omega) | (simp; done) | (simp; omega)))) | ((with_reducible refine ObRn.mk ?_ ?_); (focus (first | rfl | (simp [rnB, rnC, rnL]; done)))) | ((with_reducible refine ObEqs.mk ?_ ?_); (focus rfl)) | exact True.intro)
    · obtain rfl : k = m.length := by omega
      rw [List.take_length] at hc hf
      rw [← hc] at hsk
      rw [← hf] at hsf
      have r2 := nr_i f
      have hgs := g_snoc (l := o) (a := a) (b := b) (m := c)
      have hpg := p_g (o ++ [(a, b, c)])
      have hng := nr_g (o ++ [(a, b, c)])
      cases c with
      | nil =>
        rw [if_pos rfl, List.append_nil] at hsk
        repeat' ((conv => whnf); first | (with_reducible refine SeqP.go ?_) | ((with_reducible refine ObN.mk ?_ ?_); (focus (first | rfl | assumption | omega | (simp only [List.length_map, List.length_append, List.length_cons, List.length_nil]; omega) | (simp; done) | (simp; omega)))) | (with_reducible refine ObT.ff ?_) | ((with_reducible refine ObB.no ?_ ?_); (focus (first | assumption | omega))) | ((with_reducible refine ObI.nl ?_ ?_); (focus omega)) | ((with_reducible refine ObX.mk _ rfl ?_ ?_); (focus (first | omega | assumption | (simp only [List.length_map, List.length_append, List.length_cons, List.length_nil, List.length_take, List.length_drop, List.length_set, List.length_replicate]; omega)))) | ((with_reducible refine (?_ : ObL _ _)); (refine ObL.mk _ (by first | exact (List.length_map _) | assumption | exact (List.length_map _).trans (by assumption) | exact List.length_map _ | rfl) ?_)) | ((with_reducible refine (?_ : ObR _ _ _)); (first | (refine ObR.mk _ (by assumption) ?_) | (refine ObR.mk _ (by with_reducible rfl) ?_) | (refine ObR.map (by (first | omega | assumption | (simp only [List.length_map, List.length_append, List.length_cons, List.length_nil, List.length_take, List.length_drop, List.length_set, List.length_replicate]; omega))) (fun x hx => ?_)) | (refine ObR.mk _ rfl ?_))))
        conv => whnf
        refine Again.mk (i + 1, f, o) ?_ ?_ (Fg.vw [(0, 0, 0), (0, 1, 0)] ?_ ?_ (by simp) ?_)
        · exact ⟨by dsimp only; omega, hsf, hsk⟩
        · dsimp only; omega
        all_goals repeat' ((conv => whnf); first | ((with_reducible refine ObN.mk ?_ ?_); (focus (first | rfl | assumption | omega | (simp only [List.length_map, List.length_append, List.length_cons, List.length_nil]; omega) | (simp; done) | (simp; omega)))) | ((with_reducible refine ObRn.mk ?_ ?_); (focus (first | rfl | (simp [rnB, rnC, rnL]; done)))) | ((with_reducible refine ObRow.same ?_ ?_ ?_); (focus (first | rfl | assumption)); (focus (first | rfl | assumption | (simp; done)))) | ((with_reducible refine ObEqs.mk ?_ ?_); (focus rfl)) | exact True.intro)
      | cons c0 ct =>
        rw [if_neg (by simp)] at hsk
        have hcl' : ct.length + 1 ≤ 1000 := Nat.le_trans hcl hm
        have hpos : (0 : Int) < ((c0 :: ct).length : Nat) := Int.natCast_pos.2 (Nat.succ_pos _)
        have hma : ((c0 :: ct).map itA).take (ct.length + 1) = (c0 :: ct).map itA := m_all (c0 :: ct)
        have hpm : (((c0 :: ct).map itA).take (ct.length + 1)).all AV.isP = true := by rw [hma]; exact p_m _
        repeat' ((conv => whnf); first | ((with_reducible refine ObN.mk ?_ ?_); (focus (first | rfl | assumption | omega | (simp only [List.length_map, List.length_append, List.length_cons, List.length_nil]; omega) | (simp; done) | (simp; omega)))) | ((with_reducible refine ObB.no ?_ ?_); (focus (first | assumption | omega))) | ((with_reducible refine ObX.mk _ rfl ?_ ?_); (focus (first | omega | assumption | (simp only [List.length_map, List.length_append, List.length_cons, List.length_nil, List.length_take, List.length_drop, List.length_set, List.length_replicate]; omega)))) | ((with_reducible refine (?_ : ObL _ _)); (refine ObL.mk _ (by first | exact (List.length_map _) | assumption | exact (List.length_map _).trans (by assumption) | exact List.length_map _ | rfl) ?_)) | ((with_reducible refine (?_ : ObR _ _ _)); (first | (refine ObR.mk _ (by assumption) ?_) | (refine ObR.mk _ (by with_reducible rfl) ?_) | (refine ObR.map (by (first | omega | assumption | (simp only [List.length_map, List.length_append, List.length_cons, List.length_nil, List.length_take, List.length_drop, List.length_set, List.length_replicate]; omega))) (fun x hx => ?_)) | (refine ObR.mk _ rfl ?_))))
        conv => whnf
        refine SeqP.fz 3 (ct.length + 1) [false, false, true] ?_
        repeat' ((conv => whnf); first | (with_reducible refine SeqP.go ?_) | ((with_reducible refine ObD.mk ?_ ?_); (focus (first | rfl | (simp; done)))) | ((with_reducible refine ObN.mk ?_ ?_); (focus (first | rfl | assumption | omega | (simp only [List.length_map, List.length_append, List.length_cons, List.length_nil]; omega) | (simp; done) | (simp; omega)))) | (with_reducible refine ObT.tt ?_) | (with_reducible refine ObT.ff ?_) | ((with_reducible refine ObB.yes ?_ ?_); (focus (first | assumption | (with_reducible rfl) | omega))) | ((with_reducible refine ObI.nl ?_ ?_); (focus omega)) | ((with_reducible refine (?_ : ObL _ _)); (refine ObL.mk _ (by first | exact (List.length_map _) | assumption | exact (List.length_map _).trans (by assumption) | exact List.length_map _ | rfl) ?_)) | ((with_reducible refine (?_ : ObU _ _)); (refine ObU.mk _ (by first | exact hgs | exact hma | assumption | ((conv => lhs; simp only [List.set_cons_zero, List.set_cons_succ, List.take_succ_cons, List.take_zero, List.drop_succ_cons, List.drop_zero, List.nil_append, List.cons_append, List.append_nil, List.take_nil, List.drop_nil]); try rfl) | rfl) ?_)) | ((with_reducible refine (?_ : ObR _ _ _)); (first | (refine ObR.mk _ (by assumption) ?_) | (refine ObR.mk _ (by with_reducible rfl) ?_) | (refine ObR.map (by (first | omega | assumption | (simp only [List.length_map, List.length_append, List.length_cons, List.length_nil, List.length_take, List.length_drop, List.length_set, List.length_replicate]; omega))) (fun x hx => ?_)) | (refine ObR.mk _ rfl ?_))) | ((with_reducible refine ObSt.live ?_ ?_); (focus (first | trivial | (refine ⟨rfl, ?_⟩; first | omega | (exact Nat.le_refl _))))))
        conv => whnf
        refine Again.mk (i + 1, f, o ++ [(a, b, c0 :: ct)]) ?_ ?_ (Fg.vw [(0, 0, 0), (0, 1, 1)] ?_ ?_ (by simp) ?_)
        · exact ⟨by dsimp only; omega, hsf, hsk⟩
        · dsimp only; omega
        all_goals repeat' ((conv => whnf); first | ((with_reducible refine ObN.mk ?_ ?_); (focus (first | rfl | assumption | omega | (simp only [List.length_map, List.length_append, List.length_cons, List.length_nil]; omega) | (simp; done) | (simp; omega)))) | ((with_reducible refine ObRn.mk ?_ ?_); (focus (first | rfl | (simp [rnB, rnC, rnL]; done)))) | ((with_reducible refine ObRow.same ?_ ?_ ?_); (focus (first | rfl | assumption)); (focus (first | rfl | assumption | (simp; done)))) | ((with_reducible refine ObEqs.mk ?_ ?_); (focus rfl)) | exact True.intro)
  · obtain rfl : i = l.length := by omega
    rw [List.take_length] at ho hf0
    rw [← ho, ← hf0]
    have ga := g_all o
    have gb := i_all f0
    have pg := p_g o
    have pi := p_i f0
    repeat' ((conv => whnf); first | (with_reducible refine SeqP.go ?_) | ((with_reducible refine ObN.mk ?_ ?_); (focus (first | rfl | assumption | omega | (simp only [List.length_map, List.length_append, List.length_cons, List.length_nil]; omega) | (simp; done) | (simp; omega)))) | (with_reducible refine ObT.ff ?_) | ((with_reducible refine ObB.no ?_ ?_); (focus (first | assumption | omega))) | ((with_reducible refine (?_ : ObL _ _)); (refine ObL.mk _ (by first | exact (List.length_map _) | assumption | exact (List.length_map _).trans (by assumption) | exact List.length_map _ | rfl) ?_)) | ((with_reducible refine (?_ : ObU _ _)); (refine ObU.mk _ (by first | exact ga | exact gb | assumption | ((conv => lhs; simp only [List.set_cons_zero, List.set_cons_succ, List.take_succ_cons, List.take_zero, List.drop_succ_cons, List.drop_zero, List.nil_append, List.cons_append, List.append_nil, List.take_nil, List.drop_nil]); try rfl) | rfl) ?_)) | ((with_reducible refine ObEq.mk ?_); (focus (first | rfl | assumption))))
set_option maxHeartbeats 1000000 in
theorem same13 (G : Nat → AV) (l : List Gr) (hl : l.length ≤ 1000000) (hg : ∀ g ∈ l, g.2.2.length ≤ 1000000) : PC Try.prog G 13 [.sl 3 (l.map grA), .sl 3 (l.map grA)] (Bo true) := by
  refine pc_ofV cop13 ?_
  repeat' ((conv => whnf); first | (with_reducible refine SeqP.go ?_) | ((with_reducible refine ObN.mk ?_ ?_); (focus (first | rfl | assumption | omega | (simp only [List.length_map, List.length_append, List.length_cons, List.length_nil]; omega) | (simp; done) | (simp; omega)))) | (with_reducible refine ObT.ff ?_) | ((with_reducible refine ObB.yes ?_ ?_); (focus (first | assumption | (with_reducible rfl) | omega))) | ((with_reducible refine (?_ : ObL _ _)); (refine ObL.mk _ (by first | exact (List.length_map _) | assumption | exact (List.length_map _).trans (by assumption) | exact List.length_map _ | rfl) ?_)))
  conv => whnf
  refine LoopP.go (α := Nat) (fun i => i ≤ l.length) (fun i => l.length - i) (fun i => [(4, some (Bo false)), (0, some (I i)), (0, none), (5, none), (0, none), (0, none), (0, none), (0, none), (0, none), (0, none), (0, none), (0, none), (0, none), (0, none), (0, none), (0, none), (0, none), (0, none), (0, none), (0, none), (0, none), (0, none), (0, none), (0, none), (0, none), (0, none), (0, none), (0, none), (0, none), (0, none), (0, none), (0, none), (0, none), (0, none), (0, none), (0, none), (0, none), (0, none), (0, none), (0, none), (0, none), (0, none), (0, none), (0, none), (0, none), (0, none), (0, none), (0, none), (0, none), (0, none), (0, none), (0, none), (0, none), (0, none), (0, none), (0, none), (0, none), (0, none), (0, none), (0, none), (0, none), (0, none), (0, none), (0, none), (0, none), (0, none), (0, none), (0, none), (0, none), (0, none), (0, none), (0, none), (0, none), (0, none), (0, none)]) (fun _ => []) 0 (Nat.zero_le _) (Fg.go ?_ rfl) ?_
  · repeat' ((conv => whnf); first | ((with_reducible refine ObEqs.mk ?_ ?_); (focus rfl)) | ((with_reducible refine ObEq1.i ?_ ?_); (focus (first | (with_reducible rfl) | omega))) | ((with_reducible refine ObEq1.mk ?_ ?_); (focus (first | rfl | assumption))) | exact True.intro)
  intro i hi
  by_cases hlt : i < l.length
  · have hq := gr_at hlt
    have hm := hg _ (List.getElem_mem hlt)
    generalize l[i] = g at *
    obtain ⟨a, b, m⟩ := g
    dsimp only at hq hm
    repeat' ((conv => whnf); first | (with_reducible refine SeqP.go ?_) | ((with_reducible refine ObD.mk ?_ ?_); (focus (first | rfl | (simp; done)))) | ((with_reducible refine ObN.mk ?_ ?_); (focus (first | rfl | assumption | omega | (simp only [List.length_map, List.length_append, List.length_cons, List.length_nil]; omega) | (simp; done) | (simp; omega)))) | (with_reducible refine ObT.tt ?_) | (with_reducible refine ObT.ff ?_) | ((with_reducible refine ObB.yes ?_ ?_); (focus (first | assumption | (with_reducible rfl) | omega))) | ((with_reducible refine ObX.mk _ rfl ?_ ?_); (focus (first | omega | assumption | (simp only [List.length_map, List.length_append, List.length_cons, List.length_nil, List.length_take, List.length_drop, List.length_set, List.length_replicate]; omega)))) | ((with_reducible refine (?_ : ObL _ _)); (refine ObL.mk _ (by first | exact (List.length_map _) | assumption | exact (List.length_map _).trans (by assumption) | exact List.length_map _ | rfl) ?_)) | ((with_reducible refine (?_ : ObR _ _ _)); (first | (refine ObR.mk _ (by assumption) ?_) | (refine ObR.mk _ (by with_reducible rfl) ?_) | (refine ObR.map (by (first | omega | assumption | (simp only [List.length_map, List.length_append, List.length_cons, List.length_nil, List.length_take, List.length_drop, List.length_set, List.length_replicate]; omega))) (fun x hx => ?_)) | (refine ObR.mk _ rfl ?_))))
    conv => whnf
    refine LoopP.go (α := Nat) (fun k => k ≤ m.length) (fun k => m.length - k) (fun k => [(4, some (Bo false)), (1, some (I k)), (50, none), (0, none), (0, none), (0, none), (0, none), (0, none), (0, none), (0, none), (0, none), (0, none), (0, none), (0, none), (0, none), (0, none), (0, none), (0, none), (0, none), (0, none), (0, none), (0, none), (0, none), (0, none), (0, none), (0, none), (0, none), (0, none), (0, none)]) (fun _ => []) 0 (Nat.zero_le _) (Fg.go ?_ rfl) ?_
    · repeat' ((conv => whnf); first | ((with_reducible refine ObEqs.mk ?_ ?_); (focus rfl)) | ((with_reducible refine ObEq1.i ?_ ?_); (focus (first | (with_reducible rfl) | omega))) | ((with_reducible refine ObEq1.mk ?_ ?_); (focus (first | rfl | assumption))) | exact True.intro)
    intro k hk
    by_cases hkt : k < m.length
    · have hq2 := it_at hkt
      repeat' ((conv => whnf); first | (with_reducible refine SeqP.go ?_) | ((with_reducible refine ObD.mk ?_ ?_); (focus (first | rfl | (simp; done)))) | ((with_reducible refine ObN.mk ?_ ?_); (focus (first | rfl | assumption | omega | (simp only [List.length_map, List.length_append, List.length_cons, List.length_nil]; omega) | (simp; done) | (simp; omega)))) | (with_reducible refine ObT.tt ?_) | (with_reducible refine ObT.ff ?_) | ((with_reducible refine ObB.yes ?_ ?_); (focus (first | assumption | (with_reducible rfl) | omega | (exact ⟨rfl, rfl, trivial⟩)))) | ((with_reducible refine ObI.nl ?_ ?_); (focus omega)) | ((with_reducible refine ObX.mk _ rfl ?_ ?_); (focus (first | omega | assumption | (simp only [List.length_map, List.length_append, List.length_cons, List.length_nil, List.length_take, List.length_drop, List.length_set, List.length_replicate]; omega)))) | ((with_reducible refine (?_ : ObL _ _)); (refine ObL.mk _ (by first | exact (List.length_map _) | assumption | exact (List.length_map _).trans (by assumption) | exact List.length_map _ | rfl) ?_)) | ((with_reducible refine (?_ : ObR _ _ _)); (first | (refine ObR.mk _ (by assumption) ?_) | (refine ObR.mk _ (by with_reducible rfl) ?_) | (refine ObR.map (by (first | omega | assumption | (simp only [List.length_map, List.length_append, List.length_cons, List.length_nil, List.length_take, List.length_drop, List.length_set, List.length_replicate]; omega))) (fun x hx => ?_)) | (refine ObR.mk _ rfl ?_))))
      conv => whnf
      refine Again.mk (k + 1) ?_ ?_ (Fg.go ?_ rfl)
      · omega
      · omega
      repeat' ((conv => whnf); first | ((with_reducible refine ObEqs.mk ?_ ?_); (focus rfl)) | ((with_reducible refine ObEq1.i ?_ ?_); (focus (first | (with_reducible rfl) | omega))) | ((with_reducible refine ObEq1.mk ?_ ?_); (focus (first | rfl | assumption))) | exact True.intro)
    · obtain rfl : k = m.length := by omega
      repeat' ((conv => whnf); first | (with_reducible refine SeqP.go ?_) | ((with_reducible refine ObN.mk ?_ ?_); (focus (first | rfl | assumption | omega | (simp only [List.length_map, List.length_append, List.length_cons, List.length_nil]; omega) | (simp; done) | (simp; omega)))) | (with_reducible refine ObT.ff ?_) | ((with_reducible refine ObB.no ?_ ?_); (focus (first | assumption | omega))) | ((with_reducible refine ObI.nl ?_ ?_); (focus omega)) | ((with_reducible refine ObX.mk _ rfl ?_ ?_); (focus (first | omega | assumption | (simp only [List.length_map, List.length_append, List.length_cons, List.length_nil, List.length_take, List.length_drop, List.length_set, List.length_replicate]; omega)))) | ((with_reducible refine (?_ : ObL _ _)); (refine ObL.mk _ (by first | exact (List.length_map _) | assumption | exact (List.length_map _).trans (by assumption) | exact List.length_map _ | rfl) ?_)) | ((with_reducible refine (?_ : ObR _ _ _)); (first | (refine ObR.mk _ (by assumption) ?_) | (refine ObR.mk _ (by with_reducible rfl) ?_) | (refine ObR.map (by (first | omega | assumption | (simp only [List.length_map, List.length_append, List.length_cons, List.length_nil, List.length_take, List.length_drop, List.length_set, List.length_replicate]; omega))) (fun x hx => ?_)) | (refine ObR.mk _ rfl ?_))))
      conv => whnf
      refine Again.mk (i + 1) ?_ ?_ (Fg.go ?_ rfl)
      · omega
      · omega
      repeat' ((conv => whnf); first | ((with_reducible refine ObEqs.mk ?_ ?_); (focus rfl)) | ((with_reducible refine ObEq1.i ?_ ?_); (focus (first | (with_reducible rfl) | omega))) | ((with_reducible refine ObEq1.mk ?_ ?_); (focus (first | rfl | assumption))) | exact True.intro)
  · obtain rfl : i = l.length := by omega
    repeat' ((conv => whnf); first | (with_reducible refine SeqP.go ?_) | ((with_reducible refine ObN.mk ?_ ?_); (focus (first | rfl | assumption | omega | (simp only [List.length_map, List.length_append, List.length_cons, List.length_nil]; omega) | (simp; done) | (simp; omega)))) | (with_reducible refine ObT.ff ?_) | ((with_reducible refine ObB.no ?_ ?_); (focus (first | assumption | omega))) | ((with_reducible refine (?_ : ObL _ _)); (refine ObL.mk _ (by first | exact (List.length_map _) | assumption | exact (List.length_map _).trans (by assumption) | exact List.length_map _ | rfl) ?_)) | ((with_reducible refine ObEq.mk ?_); (focus (first | rfl | assumption))))
end Go.Proofs.Ytccihbhpjnjinaa.Sim
