/- Memories: a Swing, and a Turn, whole. -/
import Derived.Test.YtdlamhjfnkkclaaMwE
namespace Go.Proofs.Ytdlamhjfnkkclaa.Sim
open Go.RowKit
set_option maxRecDepth 100000
set_option linter.unusedSimpArgs false
set_option linter.unusedVariables false
theorem set_ge {s : List Int} {j : Nat} {x : Int} (h : s.length ≤ j) : s.set j x = s := List.set_eq_of_length_le h
section
variable (G : Nat → AV)
set_option maxHeartbeats 1000000 in
theorem swing8 (s : List Int) (n j : Nat) (h6 : j ≤ 5) (hs : s.length ≤ 5) (old put i : Int) (want u v : Wd) (c st fa : Nat) (hst : st ≤ 1000) (hfa : fa ≤ 1000) (r : Bool) (hr : r = true ↔ put ≠ 0 ∧ (0 ≤ i ∧ i < 2) ∧ s[j]? = some old ∧ wv i u v = want) :
    ∃ e fa' : Nat, HC Try.prog G 8 [.oa 3 0 0 0, I (1025 + (j : Nat)), I old, I put, I i, wdA want] (fH s n u v c st fa) (.tup [Bo r, I e]) (fH (if r = true then s.set j put else s) n u v c (st + 1) fa') := by
  obtain ⟨w1, w2, w3⟩ := want
  have hrs := nr_s s
  have ha := acc22 G (.ol 4 0 s.length) n (wR u v) c st fa hst [sL 0 s, ⟨42, 3, [.agg [I w1, I w2, I w3]], 0, 0⟩]
  have hp29 := peek29 G i u v c
  generalize hz : wv i u v = z at *
  obtain ⟨z1, z2, z3⟩ := z
  by_cases hp : put = 0
  · obtain rfl : r = false := by cases r with | false => rfl | true => exact absurd hp (hr.1 rfl).1
    refine ⟨2, fa, ?_⟩
    clear hz hp29
    obtain ⟨u1, u2, u3⟩ := u
    obtain ⟨v1, v2, v3⟩ := v
    refine hc_ofV cop8 rfl ?_
    rw [if_neg (by decide)]
    repeat' ((conv => whnf); first | (with_reducible refine SeqP.go ?_) | ((with_reducible refine ObD.mk ?_ ?_); (focus (first | rfl | (simp; done)))) | ((with_reducible refine ObN.mk ?_ ?_); (focus (first | rfl | assumption | omega | (simp only [List.length_map, List.length_append, List.length_cons, List.length_nil]; omega) | (simp; done) | (simp; omega)))) | (with_reducible refine ObT.tt ?_) | (with_reducible refine ObT.ff ?_) | ((with_reducible refine ObB.yes ?_ ?_); (focus (first | assumption | (with_reducible rfl) | omega))) | ((with_reducible refine ObH.f 22 ?_); (first | (with_reducible refine ObH.mk _ _ (ha) ?_) | (refine ObH.mk _ _ (ha) ?_))))
    all_goals
      conv => whnf
      refine ObEnd.vw [(0, 0, 0), (0, 1, 0), (0, 2, 0), (0, 3, 0), (0, 4, 0)] rfl ?_ (by simp) ?_
      all_goals repeat' ((conv => whnf); first | ((with_reducible refine ObN.mk ?_ ?_); (focus (first | rfl | assumption | omega | (simp only [List.length_map, List.length_append, List.length_cons, List.length_nil]; omega) | (simp; done) | (simp; omega)))) | ((with_reducible refine ObO.l ?_); (with_reducible refine ObN.mk ?_ ?_); (focus (first | rfl | omega))) | ((with_reducible refine ObRow.same ?_ ?_ ?_); (focus (first | rfl | assumption)); (focus (first | rfl | assumption | (simp; done)))) | ((with_reducible refine ObRow.lit ?_ ?_); (focus (first | rfl | (simp [rnB, rnC, rnL]; done)))) | exact True.intro)
  by_cases hi : 0 ≤ i ∧ i < 2
  case neg =>
    obtain rfl : r = false := by cases r with | false => rfl | true => exact absurd (hr.1 rfl).2.1 hi
    refine ⟨2, fa, ?_⟩
    have hn := inner28b G s n j hs i (by omega) u v c (st + 1) fa
    clear hz hp29
    obtain ⟨u1, u2, u3⟩ := u
    obtain ⟨v1, v2, v3⟩ := v
    refine hc_ofV cop8 rfl ?_
    rw [if_neg (by decide)]
    repeat' ((conv => whnf); first | (with_reducible refine SeqP.go ?_) | exact SameP.mk rfl rfl | (with_reducible refine ObAnd.mk ?_ ?_) | (with_reducible refine ObDx.same ?_) | ((with_reducible refine ObD.mk ?_ ?_); (focus (first | rfl | (simp; done)))) | ((with_reducible refine ObN.mk ?_ ?_); (focus (first | rfl | assumption | omega | (simp only [List.length_map, List.length_append, List.length_cons, List.length_nil]; omega) | (simp; done) | (simp; omega)))) | (with_reducible refine ObT.tt ?_) | (with_reducible refine ObT.ff ?_) | ((with_reducible refine ObB.no ?_ ?_); (focus (first | assumption | omega))) | ((with_reducible refine (?_ : ObU _ _)); (refine ObU.mk _ (by first | assumption | ((conv => lhs; simp only [List.set_cons_zero, List.set_cons_succ, List.take_succ_cons, List.take_zero, List.drop_succ_cons, List.drop_zero, List.nil_append, List.cons_append, List.append_nil, List.take_nil, List.drop_nil]); try rfl) | rfl) ?_)) | ((with_reducible refine (?_ : ObR _ _ _)); (first | (refine ObR.mk _ (by assumption) ?_) | (refine ObR.mk _ (by with_reducible rfl) ?_) | (refine ObR.map (by (first | omega | assumption | (simp only [List.length_map, List.length_append, List.length_cons, List.length_nil, List.length_take, List.length_drop, List.length_set, List.length_replicate]; omega))) (fun x hx => ?_)) | (refine ObR.mk _ rfl ?_))) | ((with_reducible refine ObH.f 22 ?_); (first | (with_reducible refine ObH.mk _ _ (ha) ?_) | (refine ObH.mk _ _ (ha) ?_))) | ((with_reducible refine ObH.f 28 ?_); refine ObH.frn _ (by simp only [List.length_cons, List.length_nil, Nat.reduceAdd]; rfl) [(0,0,0),(0,1,0),(0,2,0),(0,3,0),(0,4,0)] (hn) (by simp) rfl (by simp) ?_) | ((with_reducible refine ObRow.same ?_ ?_ ?_); (focus (first | rfl | assumption)); (focus (first | rfl | assumption | (simp; done)))) | ((with_reducible refine ObRow.lit ?_ ?_); (focus (first | rfl | (simp [rnB, rnC, rnL]; done)))) | ((with_reducible refine ObAs.mk ?_ ?_); (focus (first | rfl | (simp [rnB, rnC, rnL]; done)))) | ((with_reducible refine (?_ : ObRs _ _ _)); (refine ObRs.mk _ rfl ?_)) | ((with_reducible refine ObBk.same ?_ ?_); (focus (first | rfl | assumption | (simp; done)))) | ((with_reducible refine (?_ : ObBk _ _ _)); (refine ObBk.lit [.agg _] rfl ?_)))
    all_goals
      conv => whnf
      refine ObEnd.vw [(0, 0, 0), (0, 1, 0), (0, 2, 0), (0, 3, 0), (0, 4, 0)] rfl ?_ (by simp) ?_
      all_goals repeat' ((conv => whnf); first | ((with_reducible refine ObN.mk ?_ ?_); (focus (first | rfl | assumption | omega | (simp only [List.length_map, List.length_append, List.length_cons, List.length_nil]; omega) | (simp; done) | (simp; omega)))) | ((with_reducible refine ObO.l ?_); (with_reducible refine ObN.mk ?_ ?_); (focus (first | rfl | omega))) | ((with_reducible refine ObRow.same ?_ ?_ ?_); (focus (first | rfl | assumption)); (focus (first | rfl | assumption | (simp; done)))) | ((with_reducible refine ObRow.lit ?_ ?_); (focus (first | rfl | (simp [rnB, rnC, rnL]; done)))) | exact True.intro)
  by_cases hj : j < s.length
  case neg =>
    obtain rfl : r = false := by cases r with | false => rfl | true => have := (hr.1 rfl).2.2.1; rw [List.getElem?_eq_none (by omega)] at this; cases this
    refine ⟨9, fa + 1, ?_⟩
    have hn := inner28c G s n j (by omega) h6 hs i hi u v c (st + 1) fa hfa
    clear hz hp29
    obtain ⟨u1, u2, u3⟩ := u
    obtain ⟨v1, v2, v3⟩ := v
    refine hc_ofV cop8 rfl ?_
    rw [if_neg (by decide)]
    repeat' ((conv => whnf); first | (with_reducible refine SeqP.go ?_) | exact SameP.mk rfl rfl | (with_reducible refine ObAnd.mk ?_ ?_) | (with_reducible refine ObDx.same ?_) | ((with_reducible refine ObD.mk ?_ ?_); (focus (first | rfl | (simp; done)))) | ((with_reducible refine ObN.mk ?_ ?_); (focus (first | rfl | assumption | omega | (simp only [List.length_map, List.length_append, List.length_cons, List.length_nil]; omega) | (simp; done) | (simp; omega)))) | (with_reducible refine ObT.tt ?_) | (with_reducible refine ObT.ff ?_) | ((with_reducible refine ObB.no ?_ ?_); (focus (first | assumption | omega))) | ((with_reducible refine (?_ : ObU _ _)); (refine ObU.mk _ (by first | assumption | ((conv => lhs; simp only [List.set_cons_zero, List.set_cons_succ, List.take_succ_cons, List.take_zero, List.drop_succ_cons, List.drop_zero, List.nil_append, List.cons_append, List.append_nil, List.take_nil, List.drop_nil]); try rfl) | rfl) ?_)) | ((with_reducible refine (?_ : ObR _ _ _)); (first | (refine ObR.mk _ (by assumption) ?_) | (refine ObR.mk _ (by with_reducible rfl) ?_) | (refine ObR.map (by (first | omega | assumption | (simp only [List.length_map, List.length_append, List.length_cons, List.length_nil, List.length_take, List.length_drop, List.length_set, List.length_replicate]; omega))) (fun x hx => ?_)) | (refine ObR.mk _ rfl ?_))) | ((with_reducible refine ObH.f 22 ?_); (first | (with_reducible refine ObH.mk _ _ (ha) ?_) | (refine ObH.mk _ _ (ha) ?_))) | ((with_reducible refine ObH.f 28 ?_); refine ObH.frn _ (by simp only [List.length_cons, List.length_nil, Nat.reduceAdd]; rfl) [(0,0,0),(0,1,0),(0,2,0),(0,3,0),(0,4,0)] (hn) (by simp) rfl (by simp) ?_) | ((with_reducible refine ObRow.same ?_ ?_ ?_); (focus (first | rfl | assumption)); (focus (first | rfl | assumption | (simp; done)))) | ((with_reducible refine ObRow.lit ?_ ?_); (focus (first | rfl | (simp [rnB, rnC, rnL]; done)))) | ((with_reducible refine ObAs.mk ?_ ?_); (focus (first | rfl | (simp [rnB, rnC, rnL]; done)))) | ((with_reducible refine (?_ : ObRs _ _ _)); (refine ObRs.mk _ rfl ?_)) | ((with_reducible refine ObBk.same ?_ ?_); (focus (first | rfl | assumption | (simp; done)))) | ((with_reducible refine (?_ : ObBk _ _ _)); (refine ObBk.lit [.agg _] rfl ?_)))
    all_goals
      conv => whnf
      refine ObEnd.vw [(0, 0, 0), (0, 1, 0), (0, 2, 0), (0, 3, 0), (0, 4, 0)] rfl ?_ (by simp) ?_
      all_goals repeat' ((conv => whnf); first | ((with_reducible refine ObN.mk ?_ ?_); (focus (first | rfl | assumption | omega | (simp only [List.length_map, List.length_append, List.length_cons, List.length_nil]; omega) | (simp; done) | (simp; omega)))) | ((with_reducible refine ObO.l ?_); (with_reducible refine ObN.mk ?_ ?_); (focus (first | rfl | omega))) | ((with_reducible refine ObRow.same ?_ ?_ ?_); (focus (first | rfl | assumption)); (focus (first | rfl | assumption | (simp; done)))) | ((with_reducible refine ObRow.lit ?_ ?_); (focus (first | rfl | (simp [rnB, rnC, rnL]; done)))) | exact True.intro)
  have hn := inner28a G s n j hj hs i hi u v c (st + 1) fa
  have hset := set30 G s n j hj hs put
  have hsr := nr_s (s.set j put)
  have hslen : (s.set j put).length = s.length := List.length_set
  rw [List.getElem?_eq_getElem hj] at hr
  generalize s[j] = x at *
  by_cases ho : x = old
  case neg =>
    obtain rfl : r = false := by cases r with | false => rfl | true => exact absurd (Option.some.inj (hr.1 rfl).2.2.1) ho
    refine ⟨0, fa, ?_⟩
    clear hz
    obtain ⟨u1, u2, u3⟩ := u
    obtain ⟨v1, v2, v3⟩ := v
    refine hc_ofV cop8 rfl ?_
    rw [if_neg (by decide)]
    repeat' ((conv => whnf); first | (with_reducible refine SeqP.go ?_) | exact SameP.mk rfl rfl | (with_reducible refine ObAnd.mk ?_ ?_) | (with_reducible refine ObDx.same ?_) | ((with_reducible refine ObD.mk ?_ ?_); (focus (first | rfl | (simp; done)))) | ((with_reducible refine ObN.mk ?_ ?_); (focus (first | rfl | assumption | omega | (simp only [List.length_map, List.length_append, List.length_cons, List.length_nil]; omega) | (simp; done) | (simp; omega)))) | (with_reducible refine ObT.tt ?_) | (with_reducible refine ObT.ff ?_) | ((with_reducible refine ObB.yes ?_ ?_); (focus (first | assumption | (with_reducible rfl) | omega))) | ((with_reducible refine ObB.no ?_ ?_); (focus (first | assumption | omega))) | ((with_reducible refine (?_ : ObU _ _)); (refine ObU.mk _ (by first | assumption | ((conv => lhs; simp only [List.set_cons_zero, List.set_cons_succ, List.take_succ_cons, List.take_zero, List.drop_succ_cons, List.drop_zero, List.nil_append, List.cons_append, List.append_nil, List.take_nil, List.drop_nil]); try rfl) | rfl) ?_)) | ((with_reducible refine (?_ : ObR _ _ _)); (first | (refine ObR.mk _ (by assumption) ?_) | (refine ObR.mk _ (by with_reducible rfl) ?_) | (refine ObR.map (by (first | omega | assumption | (simp only [List.length_map, List.length_append, List.length_cons, List.length_nil, List.length_take, List.length_drop, List.length_set, List.length_replicate]; omega))) (fun x hx => ?_)) | (refine ObR.mk _ rfl ?_))) | ((with_reducible refine ObH.f 22 ?_); (first | (with_reducible refine ObH.mk _ _ (ha) ?_) | (refine ObH.mk _ _ (ha) ?_))) | ((with_reducible refine ObH.f 28 ?_); refine ObH.frn _ (by simp only [List.length_cons, List.length_nil, Nat.reduceAdd]; rfl) [(0,0,0),(0,1,0),(0,2,0),(0,3,0),(0,4,0)] (hn) (by simp) rfl (by simp) ?_) | ((with_reducible refine ObRow.same ?_ ?_ ?_); (focus (first | rfl | assumption)); (focus (first | rfl | assumption | (simp; done)))) | ((with_reducible refine ObRow.lit ?_ ?_); (focus (first | rfl | (simp [rnB, rnC, rnL]; done)))) | ((with_reducible refine ObAs.mk ?_ ?_); (focus (first | rfl | (simp [rnB, rnC, rnL]; done)))) | ((with_reducible refine (?_ : ObRs _ _ _)); (refine ObRs.mk _ rfl ?_)) | ((with_reducible refine ObBk.same ?_ ?_); (focus (first | rfl | assumption | (simp; done)))) | ((with_reducible refine (?_ : ObBk _ _ _)); (refine ObBk.lit [.agg _] rfl ?_)))
    all_goals
      conv => whnf
      refine ObEnd.vw [(0, 0, 0), (0, 1, 0), (0, 2, 0), (0, 3, 0), (0, 4, 0)] rfl ?_ (by simp) ?_
      all_goals repeat' ((conv => whnf); first | ((with_reducible refine ObN.mk ?_ ?_); (focus (first | rfl | assumption | omega | (simp only [List.length_map, List.length_append, List.length_cons, List.length_nil]; omega) | (simp; done) | (simp; omega)))) | ((with_reducible refine ObO.l ?_); (with_reducible refine ObN.mk ?_ ?_); (focus (first | rfl | omega))) | ((with_reducible refine ObRow.same ?_ ?_ ?_); (focus (first | rfl | assumption)); (focus (first | rfl | assumption | (simp; done)))) | ((with_reducible refine ObRow.lit ?_ ?_); (focus (first | rfl | (simp [rnB, rnC, rnL]; done)))) | exact True.intro)
  by_cases hw : z3 = w3 ∧ z2 = w2 ∧ z1 = w1 ∧ True
  case neg =>
    obtain rfl : r = false := by cases r with | false => rfl | true => have h := (hr.1 rfl).2.2.2; simp only [Prod.mk.injEq] at h; exact absurd ⟨h.2.2, h.2.1, h.1, trivial⟩ hw
    refine ⟨0, fa, ?_⟩
    clear hz
    obtain ⟨u1, u2, u3⟩ := u
    obtain ⟨v1, v2, v3⟩ := v
    refine hc_ofV cop8 rfl ?_
    rw [if_neg (by decide)]
    repeat' ((conv => whnf); first | (with_reducible refine SeqP.go ?_) | exact SameP.mk rfl rfl | (with_reducible refine ObAnd.mk ?_ ?_) | (with_reducible refine ObDx.same ?_) | ((with_reducible refine ObD.mk ?_ ?_); (focus (first | rfl | (simp; done)))) | ((with_reducible refine ObN.mk ?_ ?_); (focus (first | rfl | assumption | omega | (simp only [List.length_map, List.length_append, List.length_cons, List.length_nil]; omega) | (simp; done) | (simp; omega)))) | (with_reducible refine ObT.tt ?_) | (with_reducible refine ObT.ff ?_) | ((with_reducible refine ObB.yes ?_ ?_); (focus (first | assumption | (with_reducible rfl) | omega))) | ((with_reducible refine ObB.no ?_ ?_); (focus (first | assumption | omega))) | ((with_reducible refine (?_ : ObU _ _)); (refine ObU.mk _ (by first | assumption | ((conv => lhs; simp only [List.set_cons_zero, List.set_cons_succ, List.take_succ_cons, List.take_zero, List.drop_succ_cons, List.drop_zero, List.nil_append, List.cons_append, List.append_nil, List.take_nil, List.drop_nil]); try rfl) | rfl) ?_)) | ((with_reducible refine (?_ : ObR _ _ _)); (first | (refine ObR.mk _ (by assumption) ?_) | (refine ObR.mk _ (by with_reducible rfl) ?_) | (refine ObR.map (by (first | omega | assumption | (simp only [List.length_map, List.length_append, List.length_cons, List.length_nil, List.length_take, List.length_drop, List.length_set, List.length_replicate]; omega))) (fun x hx => ?_)) | (refine ObR.mk _ rfl ?_))) | ((with_reducible refine ObH.f 22 ?_); (first | (with_reducible refine ObH.mk _ _ (ha) ?_) | (refine ObH.mk _ _ (ha) ?_))) | ((with_reducible refine ObH.f 28 ?_); refine ObH.frn _ (by simp only [List.length_cons, List.length_nil, Nat.reduceAdd]; rfl) [(0,0,0),(0,1,0),(0,2,0),(0,3,0),(0,4,0)] (hn) (by simp) rfl (by simp) ?_) | ((with_reducible refine ObH.f 29 ?_); refine ObH.frn _ (by simp only [List.length_cons, List.length_nil, Nat.reduceAdd]; rfl) [(0,2,0),(0,1,0)] (hp29) (by simp) rfl (by simp) ?_) | ((with_reducible refine ObRow.same ?_ ?_ ?_); (focus (first | rfl | assumption)); (focus (first | rfl | assumption | (simp; done)))) | ((with_reducible refine ObRow.lit ?_ ?_); (focus (first | rfl | (simp [rnB, rnC, rnL]; done)))) | ((with_reducible refine ObAs.mk ?_ ?_); (focus (first | rfl | (simp [rnB, rnC, rnL]; done)))) | ((with_reducible refine (?_ : ObRs _ _ _)); (refine ObRs.mk _ rfl ?_)) | ((with_reducible refine ObBk.same ?_ ?_); (focus (first | rfl | assumption | (simp; done)))) | ((with_reducible refine (?_ : ObBk _ _ _)); (refine ObBk.lit [.agg _] rfl ?_)))
    all_goals
      conv => whnf
      refine ObEnd.vw [(0, 0, 0), (0, 1, 0), (0, 2, 0), (0, 3, 0), (0, 4, 0)] rfl ?_ (by simp) ?_
      all_goals repeat' ((conv => whnf); first | ((with_reducible refine ObN.mk ?_ ?_); (focus (first | rfl | assumption | omega | (simp only [List.length_map, List.length_append, List.length_cons, List.length_nil]; omega) | (simp; done) | (simp; omega)))) | ((with_reducible refine ObO.l ?_); (with_reducible refine ObN.mk ?_ ?_); (focus (first | rfl | omega))) | ((with_reducible refine ObRow.same ?_ ?_ ?_); (focus (first | rfl | assumption)); (focus (first | rfl | assumption | (simp; done)))) | ((with_reducible refine ObRow.lit ?_ ?_); (focus (first | rfl | (simp [rnB, rnC, rnL]; done)))) | exact True.intro)
  obtain rfl : r = true := hr.2 ⟨hp, hi, by rw [ho], by rw [hw.1, hw.2.1, hw.2.2.1]⟩
  refine ⟨0, fa, ?_⟩
  clear hz
  obtain ⟨u1, u2, u3⟩ := u
  obtain ⟨v1, v2, v3⟩ := v
  refine hc_ofV cop8 rfl ?_
  rw [if_pos rfl]
  unfold fH
  rw [hslen]
  repeat' ((conv => whnf); first | (with_reducible refine SeqP.go ?_) | exact SameP.mk rfl rfl | (with_reducible refine ObAnd.mk ?_ ?_) | (with_reducible refine ObDx.same ?_) | ((with_reducible refine ObD.mk ?_ ?_); (focus (first | rfl | (simp; done)))) | ((with_reducible refine ObN.mk ?_ ?_); (focus (first | rfl | assumption | omega | (simp only [List.length_map, List.length_append, List.length_cons, List.length_nil]; omega) | (simp; done) | (simp; omega)))) | (with_reducible refine ObT.tt ?_) | (with_reducible refine ObT.ff ?_) | ((with_reducible refine ObB.yes ?_ ?_); (focus (first | assumption | (with_reducible rfl) | omega))) | ((with_reducible refine ObB.no ?_ ?_); (focus (first | assumption | omega))) | ((with_reducible refine (?_ : ObU _ _)); (refine ObU.mk _ (by first | assumption | ((conv => lhs; simp only [List.set_cons_zero, List.set_cons_succ, List.take_succ_cons, List.take_zero, List.drop_succ_cons, List.drop_zero, List.nil_append, List.cons_append, List.append_nil, List.take_nil, List.drop_nil]); try rfl) | rfl) ?_)) | ((with_reducible refine (?_ : ObR _ _ _)); (first | (refine ObR.mk _ (by assumption) ?_) | (refine ObR.mk _ (by with_reducible rfl) ?_) | (refine ObR.map (by (first | omega | assumption | (simp only [List.length_map, List.length_append, List.length_cons, List.length_nil, List.length_take, List.length_drop, List.length_set, List.length_replicate]; omega))) (fun x hx => ?_)) | (refine ObR.mk _ rfl ?_))) | ((with_reducible refine ObH.f 22 ?_); (first | (with_reducible refine ObH.mk _ _ (ha) ?_) | (refine ObH.mk _ _ (ha) ?_))) | ((with_reducible refine ObH.f 28 ?_); refine ObH.frn _ (by simp only [List.length_cons, List.length_nil, Nat.reduceAdd]; rfl) [(0,0,0),(0,1,0),(0,2,0),(0,3,0),(0,4,0)] (hn) (by simp) rfl (by simp) ?_) | ((with_reducible refine ObH.f 29 ?_); refine ObH.frn _ (by simp only [List.length_cons, List.length_nil, Nat.reduceAdd]; rfl) [(0,2,0),(0,1,0)] (hp29) (by simp) rfl (by simp) ?_) | ((with_reducible refine ObH.f 30 ?_); refine ObH.frn _ (by simp only [List.length_cons, List.length_nil, Nat.reduceAdd]; rfl) [(0,0,0),(0,4,0)] (hset) (by simp) rfl (by simp) ?_) | ((with_reducible refine ObRow.same ?_ ?_ ?_); (focus (first | rfl | assumption)); (focus (first | rfl | assumption | (simp; done)))) | ((with_reducible refine ObRow.lit ?_ ?_); (focus (first | rfl | (simp [rnB, rnC, rnL]; done)))) | ((with_reducible refine ObAs.mk ?_ ?_); (focus (first | rfl | (simp [rnB, rnC, rnL]; done)))) | ((with_reducible refine (?_ : ObRs _ _ _)); (refine ObRs.mk _ rfl ?_)) | ((with_reducible refine ObBk.same ?_ ?_); (focus (first | rfl | assumption | (simp; done)))) | ((with_reducible refine (?_ : ObBk _ _ _)); (refine ObBk.lit [.agg _] rfl ?_)))
  all_goals
    conv => whnf
    refine ObEnd.vw [(0, 0, 0), (0, 1, 0), (0, 2, 0), (0, 3, 0), (0, 4, 0)] rfl ?_ (by simp) ?_
    all_goals repeat' ((conv => whnf); first | ((with_reducible refine ObN.mk ?_ ?_); (focus (first | rfl | assumption | omega | (simp only [List.length_map, List.length_append, List.length_cons, List.length_nil]; omega) | (simp; done) | (simp; omega)))) | ((with_reducible refine ObO.l ?_); (with_reducible refine ObN.mk ?_ ?_); (focus (first | rfl | omega))) | ((with_reducible refine ObRow.same ?_ ?_ ?_); (focus (first | rfl | assumption)); (focus (first | rfl | assumption | (simp; done)))) | ((with_reducible refine ObRow.lit ?_ ?_); (focus (first | rfl | (simp [rnB, rnC, rnL]; done)))) | exact True.intro)
end
end Go.Proofs.Ytdlamhjfnkkclaa.Sim
