/- Histories: the law of the entries. -/
import Derived.Test.YtjooigegjkpdpaaHiP
import Derived.Test.YtjooigegjkpdpaaHiV
import Derived.Test.YtjooigegjkpdpaaSimVn
namespace Go.Proofs.Ytjooigegjkpdpaa.Sim
open Go.RowKit
set_option maxRecDepth 100000
set_option linter.unusedSimpArgs false
set_option linter.unusedVariables false
theorem wkB : PC Try.prog (fun _ => .unk) 11 [] (Bo true) := runsN_true (n := 3000) (hs := [24,25,28,30,31,32,33,34,35,36,38,39,42,43,44,45,46,48]) (TM.ok_all mmn) (by kernel_rfl)
theorem pD_len (es : List Hi.Ev) : ∀ n : Nat, (Hi.pD es n).length ≤ n
  | 0 => Nat.le_refl _
  | n + 1 => by
    have := pD_len es n
    simp only [Hi.pD, List.length_append]
    split <;> simp <;> omega
set_option maxHeartbeats 8000000 in
theorem law3 (evs : List Hi.Ev) (hn : evs.length ≤ 9223372036854775807) : PC Try.prog (fun _ => .unk) 3 [.sl 12 (evs.map evA)] (Bo true) := by
  have w := wkB
  have f6 := few6 (fun _ => .unk) evs hn
  have hfl : (evs.take 60).length ≤ 60 := by simp; omega
  generalize evs.take 60 = es at f6 hfl
  have g6 := few6 (fun _ => .unk) es (by omega)
  rw [List.take_of_length_le hfl] at g6
  have he0 : ∀ c, Hi.entR es = .err c → c ≠ 0 := fun c hc => by rcases Hi.ent_err hc with rfl | rfl <;> omega
  have o8 := ops8 (fun _ => .unk) es (by omega) he0
  have p9 := pn9 (fun _ => .unk) es (by omega) he0
  have k7 := my7 (fun _ => .unk) es (by omega)
  have k10 := my10 (fun _ => .unk) es (by omega)
  have p14 := pn14 (fun _ => .unk) es (by omega)
  have p12 := op12 (fun _ => .unk) es (by omega)
  have s13 := same13 (fun _ => .unk) (Hi.pD es 64) (by have := pD_len es 64; omega)
  rw [← (Hi.entR_may es).1] at k7 k10
  cases hR : Hi.entR es with
  | err c =>
    have hc := he0 c hR
    rw [hR] at o8 p9 k7 k10
    dsimp only [opsR, pnR, Hi.codeR] at o8 p9 k7 k10
    clear p14 p12 s13
    refine pc_ofV cop3 ?_
    repeat' ((conv => whnf); first | (with_reducible refine SeqP.go ?_) | ((with_reducible refine ObN.mk ?_ ?_); (focus (first | rfl | assumption | omega | (simp only [List.length_map, List.length_append, List.length_cons, List.length_nil]; omega) | (simp; done) | (simp; omega)))) | (with_reducible refine ObT.tt ?_) | (with_reducible refine ObT.ff ?_) | ((with_reducible refine ObB.yes ?_ ?_); (focus (first | assumption | (with_reducible rfl) | omega))) | ((with_reducible refine ObB.no ?_ ?_); (focus (first | assumption | omega))) | (with_reducible refine ObB.mk (fun h => ?_) (fun h => ?_)) | ((with_reducible refine (?_ : ObL _ _)); (refine ObL.mk _ (by first | assumption | exact (List.length_map _).trans (by assumption) | exact List.length_map _ | rfl) ?_)) | ((with_reducible refine ObC.f 6 ?_); (first | (with_reducible refine ObC.mk _ (f6) ?_) | (refine ObC.mk _ (f6) ?_))) | ((with_reducible refine ObC.f 6 ?_); (first | (with_reducible refine ObC.mk _ (g6) ?_) | (refine ObC.mk _ (g6) ?_))) | ((with_reducible refine ObC.f 8 ?_); (first | (with_reducible refine ObC.mk _ (o8) ?_) | (refine ObC.mk _ (o8) ?_))) | ((with_reducible refine ObC.f 9 ?_); (first | (with_reducible refine ObC.mk _ (p9) ?_) | (refine ObC.mk _ (p9) ?_))) | ((with_reducible refine ObC.f 7 ?_); (first | (with_reducible refine ObC.mk _ (k7) ?_) | (refine ObC.mk _ (k7) ?_))) | ((with_reducible refine ObC.f 10 ?_); (first | (with_reducible refine ObC.mk _ (k10) ?_) | (refine ObC.mk _ (k10) ?_))) | ((with_reducible refine ObC.f 11 ?_); (first | (with_reducible refine ObC.mk _ (w) ?_) | (refine ObC.mk _ (w) ?_))) | ((with_reducible refine ObEq.mk ?_); (focus (first | rfl | assumption))))
    all_goals exact absurd rfl h
  | ok s =>
    rw [hR] at o8 p9 k7 k10
    have hl := Hi.entR_ops hR
    have hg := Hi.ent_good (Hi.Good.zero _) hR
    have hlen : s.l.length ≤ 60 := by have := hg.len; omega
    dsimp only [opsR, pnR, Hi.codeR] at o8 p9 k7 k10
    rw [← hl] at p12
    generalize s.l = l at *
    have hpl := pD_len es 64
    generalize Hi.pD es 64 = ps at *
    refine pc_ofV cop3 ?_
    repeat' ((conv => whnf); first | (with_reducible refine SeqP.go ?_) | ((with_reducible refine ObN.mk ?_ ?_); (focus (first | rfl | assumption | omega | (simp only [List.length_map, List.length_append, List.length_cons, List.length_nil]; omega) | (simp; done) | (simp; omega)))) | (with_reducible refine ObT.tt ?_) | (with_reducible refine ObT.ff ?_) | ((with_reducible refine ObB.yes ?_ ?_); (focus (first | assumption | (with_reducible rfl) | omega))) | ((with_reducible refine (?_ : ObL _ _)); (refine ObL.mk _ (by first | exact (List.length_map _) | assumption | exact (List.length_map _).trans (by assumption) | exact List.length_map _ | rfl) ?_)) | ((with_reducible refine ObC.f 6 ?_); (first | (with_reducible refine ObC.mk _ (f6) ?_) | (refine ObC.mk _ (f6) ?_))) | ((with_reducible refine ObC.f 6 ?_); (first | (with_reducible refine ObC.mk _ (g6) ?_) | (refine ObC.mk _ (g6) ?_))) | ((with_reducible refine ObC.f 8 ?_); (first | (with_reducible refine ObC.mk _ (o8) ?_) | (refine ObC.mk _ (o8) ?_))) | ((with_reducible refine ObC.f 9 ?_); (first | (with_reducible refine ObC.mk _ (p9) ?_) | (refine ObC.mk _ (p9) ?_))) | ((with_reducible refine ObC.f 7 ?_); (first | (with_reducible refine ObC.mk _ (k7) ?_) | (refine ObC.mk _ (k7) ?_))) | ((with_reducible refine ObC.f 10 ?_); (first | (with_reducible refine ObC.mk _ (k10) ?_) | (refine ObC.mk _ (k10) ?_))) | ((with_reducible refine ObC.f 12 ?_); (first | (with_reducible refine ObC.mk _ (p12) ?_) | (refine ObC.mk _ (p12) ?_))) | ((with_reducible refine ObC.f 13 ?_); (first | (with_reducible refine ObC.mk _ (s13) ?_) | (refine ObC.mk _ (s13) ?_))) | ((with_reducible refine ObC.f 14 ?_); (first | (with_reducible refine ObC.mk _ (p14) ?_) | (refine ObC.mk _ (p14) ?_))))
    all_goals conv => whnf
    refine LoopP.go (α := Nat) (fun i => i ≤ l.length) (fun i => l.length - i) (fun i => [(2, none), (6, some (I i)), (58, none), (0, none), (0, none), (0, none), (0, none), (0, none), (0, none), (0, none), (0, none), (0, none), (0, none), (0, none), (0, none), (0, none), (0, none), (0, none)]) (fun _ => []) 0 (Nat.zero_le _) (Fg.go ?_ rfl) ?_
    · repeat' ((conv => whnf); first | ((with_reducible refine ObEqs.mk ?_ ?_); (focus rfl)) | ((with_reducible refine ObEq1.i ?_ ?_); (focus (first | (with_reducible rfl) | omega))) | exact True.intro)
    intro i hi
    by_cases hil : i < l.length
    · obtain ⟨x, hx⟩ : ∃ x, l[i]? = some x := ⟨l[i], List.getElem?_eq_getElem hil⟩
      have qi := opA_at hx
      have c15 := gv15 (fun _ => .unk) x
      simp only [opA] at qi c15
      repeat' ((conv => whnf); first | (with_reducible refine SeqP.go ?_) | ((with_reducible refine ObD.mk ?_ ?_); (focus (first | rfl | (simp; done)))) | ((with_reducible refine ObN.mk ?_ ?_); (focus (first | rfl | assumption | omega | (simp only [List.length_map, List.length_append, List.length_cons, List.length_nil]; omega) | (simp; done) | (simp; omega)))) | (with_reducible refine ObT.tt ?_) | (with_reducible refine ObT.ff ?_) | ((with_reducible refine ObB.yes ?_ ?_); (focus (first | assumption | (with_reducible rfl) | omega))) | (with_reducible refine ObB.mk (fun h => ?_) (fun h => ?_)) | ((with_reducible refine ObI.nl ?_ ?_); (focus omega)) | ((with_reducible refine ObX.mk _ rfl ?_ ?_); (focus (first | omega | assumption | (simp only [List.length_map, List.length_append, List.length_cons, List.length_nil, List.length_take, List.length_drop, List.length_set, List.length_replicate]; omega)))) | ((with_reducible refine (?_ : ObL _ _)); (refine ObL.mk _ (by first | exact (List.length_map _) | assumption | exact (List.length_map _).trans (by assumption) | exact List.length_map _ | rfl) ?_)) | ((with_reducible refine (?_ : ObR _ _ _)); (first | (refine ObR.mk _ (by assumption) ?_) | (refine ObR.mk _ (by exact qi) ?_) | (refine ObR.mk _ (by with_reducible rfl) ?_) | (refine ObR.map (by (first | omega | assumption | (simp only [List.length_map, List.length_append, List.length_cons, List.length_nil, List.length_take, List.length_drop, List.length_set, List.length_replicate]; omega))) (fun x hx => ?_)) | (refine ObR.mk _ rfl ?_))) | ((with_reducible refine ObC.f 15 ?_); (first | (with_reducible refine ObC.mk _ (c15) ?_) | (refine ObC.mk _ (c15) ?_))))
      all_goals first
        | exact absurd ⟨rfl, rfl, rfl, rfl, rfl, rfl, rfl, rfl, rfl, rfl, rfl, rfl, rfl, rfl, trivial⟩ h
        | (conv => whnf
           refine Again.mk (i + 1) (by omega) (by first | omega | (dsimp only; omega)) (Fg.go ?_ rfl)
           repeat' ((conv => whnf); first | ((with_reducible refine ObEqs.mk ?_ ?_); (focus rfl)) | ((with_reducible refine ObEq1.i ?_ ?_); (focus (first | (with_reducible rfl) | omega))) | exact True.intro)
           done)
    · repeat' ((conv => whnf); first | (with_reducible refine SeqP.go ?_) | ((with_reducible refine ObN.mk ?_ ?_); (focus (first | rfl | assumption | omega | (simp only [List.length_map, List.length_append, List.length_cons, List.length_nil]; omega) | (simp; done) | (simp; omega)))) | (with_reducible refine ObT.ff ?_) | ((with_reducible refine ObB.no ?_ ?_); (focus (first | assumption | omega))) | ((with_reducible refine (?_ : ObL _ _)); (refine ObL.mk _ (by first | exact (List.length_map _) | assumption | exact (List.length_map _).trans (by assumption) | exact List.length_map _ | rfl) ?_)) | ((with_reducible refine ObC.f 11 ?_); (first | (with_reducible refine ObC.mk _ (w) ?_) | (refine ObC.mk _ (w) ?_))) | ((with_reducible refine ObEq.mk ?_); (focus (first | rfl | assumption))))
theorem HistOps_calls (as0 : List AV) (s0 : ShC Try.prog 22 as0) : PC Try.prog (fun _ => .unk) 3 [mkE (isAggT Try.prog 22) as0] (Bo true) := by
  have e1 : isAggT Try.prog 22 = false := by kernel_rfl
  obtain ⟨l, rfl, hl⟩ := evs_inv s0
  rw [e1]
  exact law3 l hl
end Go.Proofs.Ytjooigegjkpdpaa.Sim
