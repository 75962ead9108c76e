/- Histories: being ahead goes on, and is never of itself. -/
import Derived.Test.YtjooigegjkpdpaaHiC
import Derived.Test.YtjooigegjkpdpaaSimVn
namespace Go.Proofs.Ytjooigegjkpdpaa.Sim
open Go.RowKit
set_option maxRecDepth 100000
set_option linter.unusedSimpArgs false
set_option linter.unusedVariables false
theorem wk11 : PC Try.prog (fun _ => .unk) 11 [] (Bo true) := runsN_true (n := 3000) (hs := [24,25,28,31,32,33,34,35,36,38,39,42,43,44,45,46,48]) (TM.ok_all mmn) (by kernel_rfl)
set_option maxHeartbeats 8000000 in
theorem law5 (evs : List Hi.Ev) (hn : evs.length ≤ 9223372036854775807) (a b : Hi.Op) : PC Try.prog (fun _ => .unk) 5 [.sl 12 (evs.map evA), opA a, opA b] (Bo true) := by
  have w := wk11
  have g1 := gv15 (fun _ => .unk) a
  have g2 := gv15 (fun _ => .unk) b
  have h1 := ah21 (fun _ => .unk) a b
  have h2 := ah22 (fun _ => .unk) a b
  have f6 := few6 (fun _ => .unk) evs hn
  have hfl : (evs.take 60).length ≤ 60 := by simp; omega
  generalize evs.take 60 = es at f6 hfl
  have o8 := ops8 (fun _ => .unk) es (by omega) (fun c hc => by rcases Hi.ent_err hc with rfl | rfl <;> omega)
  have ab : opA a = .agg [I a.t, I a.c.op, S a.c.key, S a.c.val, S a.c.old, I a.c.h, I a.a.code, Bo a.a.has, S a.a.key, S a.a.val, I a.a.n, Bo a.done, I a.fr, I a.to] := rfl
  have ab2 : opA b = .agg [I b.t, I b.c.op, S b.c.key, S b.c.val, S b.c.old, I b.c.h, I b.a.code, Bo b.a.has, S b.a.key, S b.a.val, I b.a.n, Bo b.done, I b.fr, I b.to] := rfl
  cases hR : Hi.entR es with
  | err c =>
    rw [hR] at o8
    have hc : ¬ c = 0 := by rcases Hi.ent_err hR with rfl | rfl <;> omega
    dsimp only [opsR] at o8
    unfold opA at g1 g2 h1 h2 ⊢
    cases hA : Hi.ahd a b
    all_goals rw [hA] at h1 h2
    all_goals refine pc_ofV cop5 ?_
    all_goals repeat' ((conv => whnf); first | (with_reducible refine SeqP.go ?_) | ((with_reducible refine ObD.mk ?_ ?_); (focus (first | rfl | (simp; done)))) | ((with_reducible refine ObN.mk ?_ ?_); (focus (first | rfl | assumption | omega | (simp only [List.length_map, List.length_append, List.length_cons, List.length_nil]; omega) | (simp; done) | (simp; omega)))) | (with_reducible refine ObT.tt ?_) | (with_reducible refine ObT.ff ?_) | ((with_reducible refine ObB.no ?_ ?_); (focus (first | assumption | omega))) | ((with_reducible refine (?_ : ObR _ _ _)); (first | (refine ObR.mk _ (by assumption) ?_) | (refine ObR.mk _ (by with_reducible rfl) ?_) | (refine ObR.map (by (first | omega | assumption | (simp only [List.length_map, List.length_append, List.length_cons, List.length_nil, List.length_take, List.length_drop, List.length_set, List.length_replicate]; omega))) (fun x hx => ?_)) | (refine ObR.mk _ rfl ?_))) | ((with_reducible refine ObC.f 11 ?_); (first | (with_reducible refine ObC.mk _ (w) ?_) | (refine ObC.mk _ (w) ?_))) | ((with_reducible refine ObC.f 15 ?_); (first | (with_reducible refine ObC.mk _ (g1) ?_) | (refine ObC.mk _ (g1) ?_))) | ((with_reducible refine ObC.f 15 ?_); (first | (with_reducible refine ObC.mk _ (g2) ?_) | (refine ObC.mk _ (g2) ?_))) | ((with_reducible refine ObC.f 21 ?_); (first | (with_reducible refine ObC.mk _ (h1) ?_) | (refine ObC.mk _ (h1) ?_))) | ((with_reducible refine ObC.f 22 ?_); (first | (with_reducible refine ObC.mk _ (h2) ?_) | (refine ObC.mk _ (h2) ?_))) | ((with_reducible refine ObC.f 6 ?_); (first | (with_reducible refine ObC.mk _ (f6) ?_) | (refine ObC.mk _ (f6) ?_))) | ((with_reducible refine ObC.f 8 ?_); (first | (with_reducible refine ObC.mk _ (o8) ?_) | (refine ObC.mk _ (o8) ?_))) | ((with_reducible refine ObEq.mk ?_); (focus (first | rfl | assumption))))
  | ok s =>
    rw [hR] at o8
    have hg := Hi.ent_good (Hi.Good.zero _) hR
    have hlen : s.l.length ≤ 60 := by have := hg.len; omega
    dsimp only [opsR] at o8
    unfold opA at g1 g2 h1 h2
    rw [ab, ab2]
    cases hA : Hi.ahd a b
    all_goals rw [hA] at h1 h2
    all_goals refine pc_ofV cop5 ?_
    all_goals repeat' ((conv => whnf); first | (with_reducible refine SeqP.go ?_) | ((with_reducible refine ObD.mk ?_ ?_); (focus (first | rfl | (simp; done)))) | ((with_reducible refine ObN.mk ?_ ?_); (focus (first | rfl | assumption | omega | (simp only [List.length_map, List.length_append, List.length_cons, List.length_nil]; omega) | (simp; done) | (simp; omega)))) | (with_reducible refine ObT.tt ?_) | (with_reducible refine ObT.ff ?_) | ((with_reducible refine ObB.yes ?_ ?_); (focus (first | assumption | (with_reducible rfl) | omega))) | ((with_reducible refine (?_ : ObR _ _ _)); (first | (refine ObR.mk _ (by assumption) ?_) | (refine ObR.mk _ (by with_reducible rfl) ?_) | (refine ObR.map (by (first | omega | assumption | (simp only [List.length_map, List.length_append, List.length_cons, List.length_nil, List.length_take, List.length_drop, List.length_set, List.length_replicate]; omega))) (fun x hx => ?_)) | (refine ObR.mk _ rfl ?_))) | ((with_reducible refine ObC.f 11 ?_); (first | (with_reducible refine ObC.mk _ (w) ?_) | (refine ObC.mk _ (w) ?_))) | ((with_reducible refine ObC.f 15 ?_); (first | (with_reducible refine ObC.mk _ (g1) ?_) | (refine ObC.mk _ (g1) ?_))) | ((with_reducible refine ObC.f 15 ?_); (first | (with_reducible refine ObC.mk _ (g2) ?_) | (refine ObC.mk _ (g2) ?_))) | ((with_reducible refine ObC.f 21 ?_); (first | (with_reducible refine ObC.mk _ (h1) ?_) | (refine ObC.mk _ (h1) ?_))) | ((with_reducible refine ObC.f 22 ?_); (first | (with_reducible refine ObC.mk _ (h2) ?_) | (refine ObC.mk _ (h2) ?_))) | ((with_reducible refine ObC.f 6 ?_); (first | (with_reducible refine ObC.mk _ (f6) ?_) | (refine ObC.mk _ (f6) ?_))) | ((with_reducible refine ObC.f 8 ?_); (first | (with_reducible refine ObC.mk _ (o8) ?_) | (refine ObC.mk _ (o8) ?_))))
    all_goals
      conv => whnf
      refine LoopP.go (α := Nat) (fun i => i ≤ s.l.length) (fun i => s.l.length - i) (fun i => [(6, none), (2, some (I i)), (0, none), (0, none), (21, none), (0, none), (0, none), (0, none), (0, none), (0, none), (0, none), (0, none), (0, none), (0, none), (0, none), (0, none), (0, none), (0, none), (0, none), (0, none), (0, none), (0, none), (0, none), (0, none), (0, none), (0, none), (0, none), (0, none), (0, none), (0, none), (0, none), (0, none), (0, none), (0, none), (0, none), (0, none), (0, none), (0, none), (0, none), (0, none), (0, none), (0, none), (0, none), (0, none), (0, none), (0, none), (0, none), (0, none), (0, none), (0, none), (0, none), (0, none), (0, none), (0, none), (0, none), (0, none), (0, none), (0, none), (0, none), (0, none), (0, none), (0, none), (0, none), (0, none), (0, none), (0, none), (0, none), (0, none), (0, none), (0, none), (0, none), (0, none), (0, none), (0, none), (0, none), (0, none), (0, none), (0, none), (0, none), (0, none), (0, none), (0, none), (0, none), (0, none), (0, none), (0, none), (0, none), (0, none), (0, none), (0, none), (0, none), (0, none), (0, none), (0, none), (0, none), (0, none), (0, none), (0, none), (0, none), (0, none), (0, none), (0, none), (0, none), (0, none)]) (fun _ => [⟨44, 14, [opA a], 0, 0⟩, ⟨44, 14, [opA b], 0, 0⟩]) 0 (Nat.zero_le _) (Fg.go ?_ rfl) ?_
      · repeat' ((conv => whnf); first | ((with_reducible refine ObEqs.mk ?_ ?_); (focus rfl)) | ((with_reducible refine ObEq1.i ?_ ?_); (focus (first | (with_reducible rfl) | omega))) | exact True.intro)
      intro i hi
      by_cases hil : i < s.l.length
      · obtain ⟨x, hx⟩ : ∃ x, s.l[i]? = some x := ⟨s.l[i], List.getElem?_eq_getElem hil⟩
        have qi := opA_at hx
        repeat' ((conv => whnf); first | (with_reducible refine SeqP.go ?_) | ((with_reducible refine ObN.mk ?_ ?_); (focus (first | rfl | assumption | omega | (simp only [List.length_map, List.length_append, List.length_cons, List.length_nil]; omega) | (simp; done) | (simp; omega)))) | (with_reducible refine ObT.tt ?_) | ((with_reducible refine ObB.yes ?_ ?_); (focus (first | assumption | (with_reducible rfl) | omega))) | ((with_reducible refine (?_ : ObL _ _)); (refine ObL.mk _ (by first | exact (List.length_map _) | assumption | exact (List.length_map _).trans (by assumption) | exact List.length_map _ | rfl) ?_)))
        conv => whnf
        refine LoopP.go (α := Nat) (fun k => k ≤ s.l.length) (fun k => s.l.length - k) (fun k => [(6, none), (3, some (I k)), (0, none), (27, none), (0, none), (0, none), (0, none), (0, none), (0, none), (0, none), (0, none), (0, none), (0, none), (0, none), (0, none), (0, none), (0, none), (0, none), (0, none), (0, none), (0, none), (0, none), (0, none), (0, none), (0, none), (0, none), (0, none), (0, none), (0, none), (0, none), (0, none), (0, none), (0, none), (0, none), (0, none), (0, none), (0, none), (0, none), (0, none), (0, none), (0, none), (0, none), (0, none), (0, none), (0, none), (0, none), (0, none), (0, none), (0, none), (0, none), (0, none), (0, none), (0, none), (0, none), (0, none), (0, none), (0, none), (0, none), (0, none), (0, none), (0, none), (0, none), (0, none), (0, none), (0, none), (0, none), (0, none), (0, none), (0, none), (0, none), (0, none), (0, none), (0, none), (0, none), (0, none), (0, none), (0, none), (0, none), (0, none), (0, none), (0, none), (0, none), (0, none), (0, none), (0, none), (0, none), (0, none), (0, none), (0, none), (0, none), (0, none), (0, none), (0, none), (0, none), (0, none), (0, none), (0, none)]) (fun _ => [⟨44, 14, [opA a], 0, 0⟩, ⟨44, 14, [opA b], 0, 0⟩]) 0 (Nat.zero_le _) (Fg.go ?_ rfl) ?_
        · repeat' ((conv => whnf); first | ((with_reducible refine ObEqs.mk ?_ ?_); (focus rfl)) | ((with_reducible refine ObEq1.i ?_ ?_); (focus (first | (with_reducible rfl) | omega))) | exact True.intro)
        intro k hk
        by_cases hkl : k < s.l.length
        · obtain ⟨y, hy⟩ : ∃ y, s.l[k]? = some y := ⟨s.l[k], List.getElem?_eq_getElem hkl⟩
          have qk := opA_at hy
          have cxy := ah21 (fun _ => .unk) x y
          have cyx := ah21 (fun _ => .unk) y x
          have hq : i < k → x.t = y.t → Hi.ahd x y = true := fun h1 h2 => hg.same i k x y hx hy h1 h2
          have hcases : (Hi.ahd x y = false ∧ ((i < k ∧ ¬ x.t = y.t) ∨ ¬ i < k)) ∨ (Hi.ahd x y = true ∧ Hi.ahd y x = false ∧ ((i < k ∧ x.t = y.t) ∨ (i < k ∧ ¬ x.t = y.t) ∨ ¬ i < k)) := by
            cases hxy : Hi.ahd x y with
            | false =>
              refine .inl ⟨rfl, ?_⟩
              by_cases hik : i < k
              · exact .inl ⟨hik, fun e => by have := hq hik e; rw [hxy] at this; cases this⟩
              · exact .inr hik
            | true =>
              refine .inr ⟨rfl, hg.asym hx hy hxy, ?_⟩
              by_cases hik : i < k
              · by_cases e : x.t = y.t
                · exact .inl ⟨hik, e⟩
                · exact .inr (.inl ⟨hik, e⟩)
              · exact .inr (.inr hik)
          clear hq
          rcases hcases with ⟨hxy, ⟨hik, ht⟩ | hik⟩ | ⟨hxy, hyx, ⟨hik, ht⟩ | ⟨hik, ht⟩ | hik⟩
          all_goals rw [hxy] at cxy
          all_goals try rw [hyx] at cyx
          all_goals simp only [opA] at qi qk cxy cyx
          all_goals repeat' ((conv => whnf); first | (with_reducible refine SeqP.go ?_) | ((with_reducible refine ObD.mk ?_ ?_); (focus (first | rfl | (simp; done)))) | ((with_reducible refine ObN.mk ?_ ?_); (focus (first | rfl | assumption | omega | (simp only [List.length_map, List.length_append, List.length_cons, List.length_nil]; omega) | (simp; done) | (simp; omega)))) | (with_reducible refine ObT.tt ?_) | (with_reducible refine ObT.ff ?_) | ((with_reducible refine ObB.yes ?_ ?_); (focus (first | assumption | (with_reducible rfl) | omega))) | ((with_reducible refine ObB.no ?_ ?_); (focus (first | assumption | omega))) | ((with_reducible refine ObX.mk _ rfl ?_ ?_); (focus (first | omega | assumption | (simp only [List.length_map, List.length_append, List.length_cons, List.length_nil, List.length_take, List.length_drop, List.length_set, List.length_replicate]; omega)))) | ((with_reducible refine (?_ : ObL _ _)); (refine ObL.mk _ (by first | exact (List.length_map _) | assumption | exact (List.length_map _).trans (by assumption) | exact List.length_map _ | rfl) ?_)) | ((with_reducible refine (?_ : ObR _ _ _)); (first | (refine ObR.mk _ (by assumption) ?_) | (refine ObR.mk _ (by exact qi) ?_) | (refine ObR.mk _ (by exact qk) ?_) | (refine ObR.mk _ (by with_reducible rfl) ?_) | (refine ObR.map (by (first | omega | assumption | (simp only [List.length_map, List.length_append, List.length_cons, List.length_nil, List.length_take, List.length_drop, List.length_set, List.length_replicate]; omega))) (fun x hx => ?_)) | (refine ObR.mk _ rfl ?_))) | ((with_reducible refine ObC.f 21 ?_); (first | (with_reducible refine ObC.mk _ (cxy) ?_) | (refine ObC.mk _ (cxy) ?_))) | ((with_reducible refine ObC.f 21 ?_); (first | (with_reducible refine ObC.mk _ (cyx) ?_) | (refine ObC.mk _ (cyx) ?_))))
          all_goals
            conv => whnf
            refine LoopP.go (α := Nat) (fun j => j ≤ s.l.length) (fun j => s.l.length - j) (fun j => [(6, none), (4, some (I j)), (83, none), (0, none), (0, none), (0, none), (0, none), (0, none), (0, none), (0, none), (0, none), (0, none), (0, none), (0, none), (0, none), (0, none), (0, none), (0, none), (0, none), (0, none), (0, none), (0, none), (0, none), (0, none), (0, none), (0, none), (0, none), (0, none), (0, none), (0, none), (0, none), (0, none), (0, none), (0, none), (0, none), (0, none), (0, none), (0, none), (0, none), (0, none)]) (fun _ => [⟨44, 14, [opA a], 0, 0⟩, ⟨44, 14, [opA b], 0, 0⟩]) 0 (Nat.zero_le _) (Fg.go ?_ rfl) ?_
            · repeat' ((conv => whnf); first | ((with_reducible refine ObEqs.mk ?_ ?_); (focus rfl)) | ((with_reducible refine ObEq1.i ?_ ?_); (focus (first | (with_reducible rfl) | omega))) | exact True.intro)
            intro j hj
            by_cases hjl : j < s.l.length
            · obtain ⟨z, hz⟩ : ∃ z, s.l[j]? = some z := ⟨s.l[j], List.getElem?_eq_getElem hjl⟩
              have qj := opA_at hz
              have cyz := ah21 (fun _ => .unk) y z
              have cxz := ah21 (fun _ => .unk) x z
              have htr : Hi.ahd x y = true → Hi.ahd y z = true → Hi.ahd x z = true := fun h1 h2 => hg.trans hx hy hz h1 h2
              simp only [opA] at qj cyz cxz
              cases hyz : Hi.ahd y z
              all_goals rw [hyz] at cyz
              all_goals first
                | (have hxz := htr hxy hyz; rw [hxz] at cxz; clear htr
                   repeat' ((conv => whnf); first | (with_reducible refine SeqP.go ?_) | ((with_reducible refine ObD.mk ?_ ?_); (focus (first | rfl | (simp; done)))) | ((with_reducible refine ObN.mk ?_ ?_); (focus (first | rfl | assumption | omega | (simp only [List.length_map, List.length_append, List.length_cons, List.length_nil]; omega) | (simp; done) | (simp; omega)))) | (with_reducible refine ObT.tt ?_) | (with_reducible refine ObT.ff ?_) | ((with_reducible refine ObB.yes ?_ ?_); (focus (first | assumption | (with_reducible rfl) | omega))) | ((with_reducible refine ObI.nl ?_ ?_); (focus omega)) | ((with_reducible refine ObX.mk _ rfl ?_ ?_); (focus (first | omega | assumption | (simp only [List.length_map, List.length_append, List.length_cons, List.length_nil, List.length_take, List.length_drop, List.length_set, List.length_replicate]; omega)))) | ((with_reducible refine (?_ : ObL _ _)); (refine ObL.mk _ (by first | exact (List.length_map _) | assumption | exact (List.length_map _).trans (by assumption) | exact List.length_map _ | rfl) ?_)) | ((with_reducible refine (?_ : ObR _ _ _)); (first | (refine ObR.mk _ (by assumption) ?_) | (refine ObR.mk _ (by exact qi) ?_) | (refine ObR.mk _ (by exact qk) ?_) | (refine ObR.mk _ (by exact qj) ?_) | (refine ObR.mk _ (by with_reducible rfl) ?_) | (refine ObR.map (by (first | omega | assumption | (simp only [List.length_map, List.length_append, List.length_cons, List.length_nil, List.length_take, List.length_drop, List.length_set, List.length_replicate]; omega))) (fun x hx => ?_)) | (refine ObR.mk _ rfl ?_))) | ((with_reducible refine ObC.f 21 ?_); (first | (with_reducible refine ObC.mk _ (cxy) ?_) | (refine ObC.mk _ (cxy) ?_))) | ((with_reducible refine ObC.f 21 ?_); (first | (with_reducible refine ObC.mk _ (cyz) ?_) | (refine ObC.mk _ (cyz) ?_))) | ((with_reducible refine ObC.f 21 ?_); (first | (with_reducible refine ObC.mk _ (cxz) ?_) | (refine ObC.mk _ (cxz) ?_))))
                   all_goals conv => whnf
                   refine Again.mk (j + 1) ?_ ?_ (Fg.go ?_ rfl)
                   · (try dsimp only); omega
                   · (try dsimp only); omega
                   repeat' ((conv => whnf); first | ((with_reducible refine ObEqs.mk ?_ ?_); (focus rfl)) | ((with_reducible refine ObEq1.i ?_ ?_); (focus (first | (with_reducible rfl) | omega))) | exact True.intro)
                   done)
                | (clear htr cxz
                   repeat' ((conv => whnf); first | (with_reducible refine SeqP.go ?_) | ((with_reducible refine ObD.mk ?_ ?_); (focus (first | rfl | (simp; done)))) | ((with_reducible refine ObN.mk ?_ ?_); (focus (first | rfl | assumption | omega | (simp only [List.length_map, List.length_append, List.length_cons, List.length_nil]; omega) | (simp; done) | (simp; omega)))) | (with_reducible refine ObT.tt ?_) | (with_reducible refine ObT.ff ?_) | ((with_reducible refine ObB.yes ?_ ?_); (focus (first | assumption | (with_reducible rfl) | omega))) | ((with_reducible refine ObI.nl ?_ ?_); (focus omega)) | ((with_reducible refine ObX.mk _ rfl ?_ ?_); (focus (first | omega | assumption | (simp only [List.length_map, List.length_append, List.length_cons, List.length_nil, List.length_take, List.length_drop, List.length_set, List.length_replicate]; omega)))) | ((with_reducible refine (?_ : ObL _ _)); (refine ObL.mk _ (by first | exact (List.length_map _) | assumption | exact (List.length_map _).trans (by assumption) | exact List.length_map _ | rfl) ?_)) | ((with_reducible refine (?_ : ObR _ _ _)); (first | (refine ObR.mk _ (by assumption) ?_) | (refine ObR.mk _ (by exact qi) ?_) | (refine ObR.mk _ (by exact qk) ?_) | (refine ObR.mk _ (by exact qj) ?_) | (refine ObR.mk _ (by with_reducible rfl) ?_) | (refine ObR.map (by (first | omega | assumption | (simp only [List.length_map, List.length_append, List.length_cons, List.length_nil, List.length_take, List.length_drop, List.length_set, List.length_replicate]; omega))) (fun x hx => ?_)) | (refine ObR.mk _ rfl ?_))) | ((with_reducible refine ObC.f 21 ?_); (first | (with_reducible refine ObC.mk _ (cxy) ?_) | (refine ObC.mk _ (cxy) ?_))) | ((with_reducible refine ObC.f 21 ?_); (first | (with_reducible refine ObC.mk _ (cyz) ?_) | (refine ObC.mk _ (cyz) ?_))))
                   all_goals conv => whnf
                   refine Again.mk (j + 1) ?_ ?_ (Fg.go ?_ rfl)
                   · (try dsimp only); omega
                   · (try dsimp only); omega
                   repeat' ((conv => whnf); first | ((with_reducible refine ObEqs.mk ?_ ?_); (focus rfl)) | ((with_reducible refine ObEq1.i ?_ ?_); (focus (first | (with_reducible rfl) | omega))) | exact True.intro)
                   done)
            · repeat' ((conv => whnf); first | (with_reducible refine SeqP.go ?_) | ((with_reducible refine ObN.mk ?_ ?_); (focus (first | rfl | assumption | omega | (simp only [List.length_map, List.length_append, List.length_cons, List.length_nil]; omega) | (simp; done) | (simp; omega)))) | (with_reducible refine ObT.ff ?_) | ((with_reducible refine ObB.no ?_ ?_); (focus (first | assumption | omega))) | ((with_reducible refine ObI.nl ?_ ?_); (focus omega)) | ((with_reducible refine (?_ : ObL _ _)); (refine ObL.mk _ (by first | exact (List.length_map _) | assumption | exact (List.length_map _).trans (by assumption) | exact List.length_map _ | rfl) ?_)))
              all_goals conv => whnf
              refine Again.mk (k + 1) ?_ ?_ (Fg.go ?_ rfl)
              · (try dsimp only); omega
              · (try dsimp only); omega
              repeat' ((conv => whnf); first | ((with_reducible refine ObEqs.mk ?_ ?_); (focus rfl)) | ((with_reducible refine ObEq1.i ?_ ?_); (focus (first | (with_reducible rfl) | omega))) | exact True.intro)
        · repeat' ((conv => whnf); first | (with_reducible refine SeqP.go ?_) | ((with_reducible refine ObN.mk ?_ ?_); (focus (first | rfl | assumption | omega | (simp only [List.length_map, List.length_append, List.length_cons, List.length_nil]; omega) | (simp; done) | (simp; omega)))) | (with_reducible refine ObT.ff ?_) | ((with_reducible refine ObB.no ?_ ?_); (focus (first | assumption | omega))) | ((with_reducible refine ObI.nl ?_ ?_); (focus omega)) | ((with_reducible refine (?_ : ObL _ _)); (refine ObL.mk _ (by first | exact (List.length_map _) | assumption | exact (List.length_map _).trans (by assumption) | exact List.length_map _ | rfl) ?_)))
          all_goals conv => whnf
          refine Again.mk (i + 1) ?_ ?_ (Fg.go ?_ rfl)
          · (try dsimp only); omega
          · (try dsimp only); omega
          repeat' ((conv => whnf); first | ((with_reducible refine ObEqs.mk ?_ ?_); (focus rfl)) | ((with_reducible refine ObEq1.i ?_ ?_); (focus (first | (with_reducible rfl) | omega))) | exact True.intro)
      · repeat' ((conv => whnf); first | (with_reducible refine SeqP.go ?_) | ((with_reducible refine ObN.mk ?_ ?_); (focus (first | rfl | assumption | omega | (simp only [List.length_map, List.length_append, List.length_cons, List.length_nil]; omega) | (simp; done) | (simp; omega)))) | (with_reducible refine ObT.ff ?_) | ((with_reducible refine ObB.no ?_ ?_); (focus (first | assumption | omega))) | ((with_reducible refine (?_ : ObL _ _)); (refine ObL.mk _ (by first | exact (List.length_map _) | assumption | exact (List.length_map _).trans (by assumption) | exact List.length_map _ | rfl) ?_)) | ((with_reducible refine ObEq.mk ?_); (focus (first | rfl | assumption))))
end Go.Proofs.Ytjooigegjkpdpaa.Sim
