/- Histories: the program's loop over events. -/
import Derived.Test.YtjooigegjkpdpaaHiA
import Derived.Test.YtjooigegjkpdpaaAc32
import Derived.Test.YtjooigegjkpdpaaSimT
namespace Go.Proofs.Ytjooigegjkpdpaa.Sim
open Go.RowKit
set_option maxRecDepth 100000
set_option linter.unusedSimpArgs false
set_option linter.unusedVariables false
def evA (e : Hi.Ev) : AV := .agg [Bo e.res, I e.t, I e.c.op, S e.c.key, S e.c.val, S e.c.old, I e.c.h, I e.a.code, Bo e.a.has, S e.a.key, S e.a.val, I e.a.n]
def opA (o : Hi.Op) : AV := .agg [I o.t, I o.c.op, S o.c.key, S o.c.val, S o.c.old, I o.c.h, I o.a.code, Bo o.a.has, S o.a.key, S o.a.val, I o.a.n, Bo o.done, I o.fr, I o.to]
def mA (p : Int × Nat × Nat) : AV := .agg [I p.1, I (p.2.1 : Nat), I (p.2.2 : Nat)]
theorem evA_at {es : List Hi.Ev} {k : Nat} (h : k < es.length) : (es.map evA)[k]? = some (evA es[k]) := by simp [h]
theorem opA_at {l : List Hi.Op} {i : Nat} {o : Hi.Op} (h : l[i]? = some o) : (l.map opA)[i]? = some (opA o) := by simp [h]
theorem lk_m (m : List (Int × Nat × Nat)) (t : Int) : lkA .i false (I t) (m.map mA) = some ((Hi.fnd m t).map fun i => I (i : Nat)) := by
  induction m with
  | nil => rfl
  | cons p m ih =>
    simp only [List.map_cons, mA, lkA]
    have : eqC .i (I t) (I p.1) = some (decide (t = p.1)) := by simp [eqC]
    rw [this]
    unfold Hi.fnd at ih ⊢
    by_cases h : t = p.1
    · subst h
      simp [unsn, valA]
    · have h' : ¬ p.1 = t := fun e => h e.symm
      simp only [h, decide_false, Bool.false_eq_true, if_false, List.find?_cons, h']
      exact ih
theorem lk_no {m : List (Int × Nat × Nat)} {t : Int} (h : Hi.fnd m t = none) : lkA .i false (I t) (m.map mA) = some none := by rw [lk_m, h]; rfl
theorem lk_some {m : List (Int × Nat × Nat)} {t : Int} {i : Nat} (h : Hi.fnd m t = some i) : lkA .i false (I t) (m.map mA) = some (some (I (i : Nat))) := by rw [lk_m, h]; rfl
theorem ov_m {m : List (Int × Nat × Nat)} {t : Int} (h : Hi.fnd m t = none) (vs : List AV) : ovA .i (I t) vs (m.map mA) = some none := by
  induction m with
  | nil => rfl
  | cons p m ih =>
    have hn := Hi.fnd_none h
    have hp : ¬ t = p.1 := fun e => hn p (by simp) e.symm
    have h2 : Hi.fnd m t = none := by
      unfold Hi.fnd at h ⊢
      rw [Option.map_eq_none_iff] at h ⊢
      rw [List.find?_eq_none] at h ⊢
      exact fun q hq => h q (by simp [hq])
    simp only [List.map_cons, mA, ovA]
    have : eqC .i (I t) (I p.1) = some (decide (t = p.1)) := by simp [eqC]
    rw [this]
    simp only [hp, decide_false, Bool.false_eq_true, if_false]
    rw [ih h2]
theorem up_m {m : List (Int × Nat × Nat)} {t : Int} (h : Hi.fnd m t = none) (i c : Nat) : upA .i (I t) (I (i : Nat)) (.agg [I (c : Nat), Bo false, Bo false] :: m.map mA) = some (.agg [I ((c + 1 : Nat) : Int), Bo false, Bo false] :: (m ++ [(t, i, c)]).map mA) := by
  have := ov_m h [I (i : Nat)]
  simp only [upA, rdH, valC, Bool.false_eq_true, if_false, List.length_cons, List.length_nil, if_true, this]
  simp [mA]
theorem dl_m (m : List (Int × Nat × Nat)) (t : Int) : dlA .i (I t) (m.map mA) = some ((m.eraseP fun p => decide (p.1 = t)).map mA) := by
  induction m with
  | nil => rfl
  | cons p m ih =>
    simp only [List.map_cons, mA, dlA]
    have : eqC .i (I t) (I p.1) = some (decide (t = p.1)) := by simp [eqC]
    rw [this, List.eraseP_cons]
    by_cases h : t = p.1
    · subst h; simp
    · have h' : ¬ p.1 = t := fun e => h e.symm
      simp only [h, decide_false, Bool.false_eq_true, if_false, h', cond_false, ih]
      rfl
theorem mdl_at {H : Hp} {kd : Kd} {key hd : AV} {i g e k : Nat} {es es' : List AV} (hH : H[i]? = some ⟨e, k, hd :: es, g, 0⟩) (he : e = mapE) (hk : 2 ≤ k) (h : dlA kd key es = some es') : mdlA H kd (.mp i g) key = some (H.set i ⟨e, k, hd :: es', g, 0⟩) := by
  subst he
  have hl : Sim.liveM H i g = some ⟨mapE, k, hd :: es, g, 0⟩ := by
    unfold Sim.liveM
    rw [hH]
    have : (mapE == 4000000000 && Nat.ble 2 k) = true := by simp [Nat.ble_eq_true_of_le hk]
    simp only [if_true, this]
  unfold mdlA
  simp only [hl, if_true, h]
theorem nr_m (c : Int) (m : List (Int × Nat × Nat)) : (AV.agg [I c, Bo false, Bo false] :: m.map mA).all nrB = true := by simp [mA, nrB, AV.cells]
theorem nr_o (l : List Hi.Op) : (l.map opA).all nrB = true := by simp [opA, nrB, AV.cells]
def mapR (s : Hi.S) : OB := ⟨4000000000, 3, .agg [I (s.clk : Nat), Bo false, Bo false] :: s.m.map mA, 0, 0⟩
def lR (l : List Hi.Op) : OB := ⟨42, 14, l.map opA, l.length - 1, 0⟩
def rowsH (s : Hi.S) : Hp := match s.l with | [] => [mapR s] | o :: l => [mapR s, lR (o :: l)]
def slA (s : Hi.S) : AV := match s.l with | [] => .nl 14 | o :: l => .ol 1 l.length (l.length + 1)
def resA : Hi.R → AV | .ok s => .tup [slA s, .mp 0 0, I 0] | .err c => .tup [.nl 14, .v (.map none), I c]
def resH : Hi.R → Hp | .ok s => rowsH s | .err _ => []
section
variable (G : Nat → AV)
set_option maxHeartbeats 8000000 in
theorem en24 (es : List Hi.Ev) (hn : es.length ≤ 1000000) : HC Try.prog G 24 [.sl 12 (es.map evA)] [] (resA (Hi.entR es)) (resH (Hi.entR es)) := by
  refine hc_ofV cop24 rfl ?_
  repeat' ((conv => whnf); first | (with_reducible refine SeqP.go ?_) | ((with_reducible refine (?_ : ObL _ _)); (refine ObL.mk _ (by first | exact (List.length_map _) | assumption | exact (List.length_map _).trans (by assumption) | exact List.length_map _ | rfl) ?_)))
  conv => whnf
  refine LoopP.go (α := Nat × Hi.S) (fun p => p.1 ≤ es.length ∧ Hi.Inv es.length p.1 p.2 ∧ Hi.ent es.length p.1 p.2 (es.drop p.1) = Hi.entR es) (fun p => es.length - p.1) (fun p => [(2, none), (0, none), (0, none), (0, some (slA p.2)), (1, none), (0, none), (0, none), (0, none), (3, some (I (p.1 : Nat))), (0, none), (0, none), (0, none), (0, none), (0, none), (0, none), (0, none), (0, none), (0, none), (0, none), (0, none), (0, none), (0, none), (0, none), (0, none), (0, none), (0, none), (0, none), (0, none), (0, none), (0, none), (0, none), (0, none), (0, none), (0, none), (0, none), (0, none), (0, none), (0, none), (0, none), (0, none), (0, none), (0, none), (0, none), (0, none), (0, none), (0, none), (0, none), (0, none), (0, none), (0, none), (0, none), (0, none), (0, none), (0, none), (0, none), (0, none), (0, none), (0, none), (0, none), (0, none), (0, none), (0, none), (0, none), (0, none), (0, none), (0, none), (0, none), (0, none), (0, none), (0, none), (0, none), (0, none), (0, none), (0, none), (0, none), (0, none), (0, none), (0, none), (0, none), (0, none), (0, none), (0, none), (0, none), (0, none), (0, none), (0, none), (0, none), (0, none), (0, none), (0, none), (0, none), (0, none), (0, none)]) (fun p => rowsH p.2) (0, Hi.S0) ⟨Nat.zero_le _, (Hi.Good.zero _).toInv, rfl⟩ (Fg.go ?_ rfl) ?_
  · repeat' ((conv => whnf); first | ((with_reducible refine ObEqs.mk ?_ ?_); (focus rfl)) | ((with_reducible refine ObEq1.i ?_ ?_); (focus (first | (with_reducible rfl) | omega))) | ((with_reducible refine ObEq1.mk ?_ ?_); (focus (first | rfl | assumption))) | exact True.intro)
  rintro ⟨k, s⟩ ⟨hk, hi, he⟩
  dsimp only at hk hi he
  by_cases hkl : k < es.length
  · have q := evA_at hkl
    rw [List.drop_eq_getElem_cons hkl] at he
    simp only [Hi.ent] at he
    generalize es[k] = e at q he
    obtain ⟨res, t, ⟨c1, c2, c3, c4, c5⟩, ⟨a1, a2, a3, a4, a5⟩⟩ := e
    simp only [evA] at q
    obtain ⟨l, m, clk⟩ := s
    cases hf : Hi.fnd m t with
    | none =>
      have hlk := lk_no hf
      cases l with
      | nil =>
        dsimp only [rowsH, slA, mapR]
        by_cases ht : t < 0
        · have hR : Hi.entR es = .err 2 := by rw [← he]; simp [Hi.stp, ht]
          rw [hR]; dsimp only [resA, resH]
          repeat' ((conv => whnf); first | (with_reducible refine SeqP.go ?_) | ((with_reducible refine ObD.mk ?_ ?_); (focus (first | rfl | (simp [List.length_cons, List.length_nil]; done)))) | ((with_reducible refine ObN.mk ?_ ?_); (focus (first | rfl | assumption | omega | (simp only [List.length_map, List.length_append, List.length_cons, List.length_nil, List.length_cons, List.length_nil]; omega) | (simp [List.length_cons, List.length_nil]; done) | (simp [List.length_cons, List.length_nil]; omega)))) | (with_reducible refine ObT.tt ?_) | ((with_reducible refine ObB.yes ?_ ?_); (focus (first | assumption | (with_reducible rfl) | omega))) | ((with_reducible refine ObX.mk _ rfl ?_ ?_); (focus (first | omega | assumption | (simp only [List.length_map, List.length_append, List.length_cons, List.length_nil, List.length_take, List.length_drop, List.length_set, List.length_replicate, List.length_cons, List.length_nil]; omega)))) | ((with_reducible refine (?_ : ObU _ _)); (refine ObU.mk _ (by first | assumption | ((conv => lhs; simp only [List.set_cons_zero, List.set_cons_succ, List.take_succ_cons, List.take_zero, List.drop_succ_cons, List.drop_zero, List.nil_append, List.cons_append, List.append_nil, List.take_nil, List.drop_nil, List.length_cons, List.length_nil]); try rfl) | rfl) ?_)) | ((with_reducible refine (?_ : ObR _ _ _)); (first | (refine ObR.mk _ (by assumption) ?_) | (refine ObR.mk _ (by exact q) ?_) | (refine ObR.mk _ (by with_reducible rfl) ?_) | (refine ObR.map (by (first | omega | assumption | (simp only [List.length_map, List.length_append, List.length_cons, List.length_nil, List.length_take, List.length_drop, List.length_set, List.length_replicate, List.length_cons, List.length_nil]; omega))) (fun x hx => ?_)) | (refine ObR.mk _ rfl ?_))) | ((with_reducible refine (?_ : ObK _ _)); (refine ObK.mk _ (hlk) ?_)))
          all_goals conv => whnf
          all_goals refine ObEnd.vw [] rfl ?_ (by simp) ?_
          all_goals repeat' ((conv => whnf); first | exact True.intro)
        by_cases ht2 : 64 ≤ t
        · have hR : Hi.entR es = .err 2 := by rw [← he]; simp [Hi.stp, ht2]
          rw [hR]; dsimp only [resA, resH]
          repeat' ((conv => whnf); first | (with_reducible refine SeqP.go ?_) | ((with_reducible refine ObD.mk ?_ ?_); (focus (first | rfl | (simp [List.length_cons, List.length_nil]; done)))) | ((with_reducible refine ObN.mk ?_ ?_); (focus (first | rfl | assumption | omega | (simp only [List.length_map, List.length_append, List.length_cons, List.length_nil, List.length_cons, List.length_nil]; omega) | (simp [List.length_cons, List.length_nil]; done) | (simp [List.length_cons, List.length_nil]; omega)))) | (with_reducible refine ObT.tt ?_) | (with_reducible refine ObT.ff ?_) | ((with_reducible refine ObB.yes ?_ ?_); (focus (first | assumption | (with_reducible rfl) | omega))) | ((with_reducible refine ObB.no ?_ ?_); (focus (first | assumption | omega))) | ((with_reducible refine ObX.mk _ rfl ?_ ?_); (focus (first | omega | assumption | (simp only [List.length_map, List.length_append, List.length_cons, List.length_nil, List.length_take, List.length_drop, List.length_set, List.length_replicate, List.length_cons, List.length_nil]; omega)))) | ((with_reducible refine (?_ : ObU _ _)); (refine ObU.mk _ (by first | assumption | ((conv => lhs; simp only [List.set_cons_zero, List.set_cons_succ, List.take_succ_cons, List.take_zero, List.drop_succ_cons, List.drop_zero, List.nil_append, List.cons_append, List.append_nil, List.take_nil, List.drop_nil, List.length_cons, List.length_nil]); try rfl) | rfl) ?_)) | ((with_reducible refine (?_ : ObR _ _ _)); (first | (refine ObR.mk _ (by assumption) ?_) | (refine ObR.mk _ (by exact q) ?_) | (refine ObR.mk _ (by with_reducible rfl) ?_) | (refine ObR.map (by (first | omega | assumption | (simp only [List.length_map, List.length_append, List.length_cons, List.length_nil, List.length_take, List.length_drop, List.length_set, List.length_replicate, List.length_cons, List.length_nil]; omega))) (fun x hx => ?_)) | (refine ObR.mk _ rfl ?_))) | ((with_reducible refine (?_ : ObK _ _)); (refine ObK.mk _ (hlk) ?_)))
          all_goals conv => whnf
          all_goals refine ObEnd.vw [] rfl ?_ (by simp) ?_
          all_goals repeat' ((conv => whnf); first | exact True.intro)
        cases res with
        | true =>
          have hR : Hi.entR es = .err 4 := by rw [← he]; simp [Hi.stp, ht, ht2, hf]
          rw [hR]; dsimp only [resA, resH]
          repeat' ((conv => whnf); first | (with_reducible refine SeqP.go ?_) | ((with_reducible refine ObD.mk ?_ ?_); (focus (first | rfl | (simp [List.length_cons, List.length_nil]; done)))) | ((with_reducible refine ObN.mk ?_ ?_); (focus (first | rfl | assumption | omega | (simp only [List.length_map, List.length_append, List.length_cons, List.length_nil, List.length_cons, List.length_nil]; omega) | (simp [List.length_cons, List.length_nil]; done) | (simp [List.length_cons, List.length_nil]; omega)))) | (with_reducible refine ObT.tt ?_) | (with_reducible refine ObT.ff ?_) | ((with_reducible refine ObB.yes ?_ ?_); (focus (first | assumption | (with_reducible rfl) | omega))) | ((with_reducible refine ObB.no ?_ ?_); (focus (first | assumption | omega))) | ((with_reducible refine ObX.mk _ rfl ?_ ?_); (focus (first | omega | assumption | (simp only [List.length_map, List.length_append, List.length_cons, List.length_nil, List.length_take, List.length_drop, List.length_set, List.length_replicate, List.length_cons, List.length_nil]; omega)))) | ((with_reducible refine (?_ : ObU _ _)); (refine ObU.mk _ (by first | assumption | ((conv => lhs; simp only [List.set_cons_zero, List.set_cons_succ, List.take_succ_cons, List.take_zero, List.drop_succ_cons, List.drop_zero, List.nil_append, List.cons_append, List.append_nil, List.take_nil, List.drop_nil, List.length_cons, List.length_nil]); try rfl) | rfl) ?_)) | ((with_reducible refine (?_ : ObR _ _ _)); (first | (refine ObR.mk _ (by assumption) ?_) | (refine ObR.mk _ (by exact q) ?_) | (refine ObR.mk _ (by with_reducible rfl) ?_) | (refine ObR.map (by (first | omega | assumption | (simp only [List.length_map, List.length_append, List.length_cons, List.length_nil, List.length_take, List.length_drop, List.length_set, List.length_replicate, List.length_cons, List.length_nil]; omega))) (fun x hx => ?_)) | (refine ObR.mk _ rfl ?_))) | ((with_reducible refine (?_ : ObK _ _)); (refine ObK.mk _ (hlk) ?_)))
          all_goals conv => whnf
          all_goals refine ObEnd.vw [] rfl ?_ (by simp) ?_
          all_goals repeat' ((conv => whnf); first | exact True.intro)
        | false =>
          by_cases ha : Hi.noA ⟨a1, a2, a3, a4, a5⟩
          · have hs : Hi.stp es.length k ⟨[], m, clk⟩ ⟨false, t, ⟨c1, c2, c3, c4, c5⟩, ⟨a1, a2, a3, a4, a5⟩⟩ = .ok ⟨[⟨t, ⟨c1, c2, c3, c4, c5⟩, Hi.An0, false, k, es.length⟩], m ++ [(t, ([] : List Hi.Op).length, clk)], clk + 1⟩ := by simp [Hi.stp, ht, ht2, hf, ha]
            have hi2 := hi.stp hs
            rw [hs] at he
            simp only at he
            obtain ⟨ha1, ha2, ha3, ha4, ha5⟩ := ha
            dsimp only at ha1 ha2 ha3 ha4 ha5
            subst ha1; subst ha2; subst ha3; subst ha4; subst ha5
            have hup := up_m hf 0 clk
            repeat' ((conv => whnf); first | (with_reducible refine SeqP.go ?_) | ((with_reducible refine ObD.mk ?_ ?_); (focus (first | rfl | (simp [List.length_cons, List.length_nil]; done)))) | ((with_reducible refine ObN.mk ?_ ?_); (focus (first | rfl | assumption | omega | (simp only [List.length_map, List.length_append, List.length_cons, List.length_nil, List.length_cons, List.length_nil]; omega) | (simp [List.length_cons, List.length_nil]; done) | (simp [List.length_cons, List.length_nil]; omega)))) | (with_reducible refine ObT.tt ?_) | (with_reducible refine ObT.ff ?_) | ((with_reducible refine ObB.yes ?_ ?_); (focus (first | assumption | (with_reducible rfl) | omega))) | ((with_reducible refine ObB.no ?_ ?_); (focus (first | assumption | omega))) | (with_reducible refine ObB.mk (fun h => ?_) (fun h => ?_)) | ((with_reducible refine ObI.nl ?_ ?_); (focus omega)) | ((with_reducible refine ObX.mk _ rfl ?_ ?_); (focus (first | omega | assumption | (simp only [List.length_map, List.length_append, List.length_cons, List.length_nil, List.length_take, List.length_drop, List.length_set, List.length_replicate, List.length_cons, List.length_nil]; omega)))) | ((with_reducible refine (?_ : ObL _ _)); (refine ObL.mk _ (by first | exact (List.length_map _) | assumption | exact (List.length_map _).trans (by assumption) | exact List.length_map _ | rfl) ?_)) | ((with_reducible refine (?_ : ObU _ _)); (refine ObU.mk _ (by first | assumption | ((conv => lhs; simp only [List.set_cons_zero, List.set_cons_succ, List.take_succ_cons, List.take_zero, List.drop_succ_cons, List.drop_zero, List.nil_append, List.cons_append, List.append_nil, List.take_nil, List.drop_nil, List.length_cons, List.length_nil]); try rfl) | rfl) ?_)) | ((with_reducible refine (?_ : ObR _ _ _)); (first | (refine ObR.mk _ (by assumption) ?_) | (refine ObR.mk _ (by exact q) ?_) | (refine ObR.mk _ (by with_reducible rfl) ?_) | (refine ObR.map (by (first | omega | assumption | (simp only [List.length_map, List.length_append, List.length_cons, List.length_nil, List.length_take, List.length_drop, List.length_set, List.length_replicate, List.length_cons, List.length_nil]; omega))) (fun x hx => ?_)) | (refine ObR.mk _ rfl ?_))) | ((with_reducible refine ObW.cons ?_ ?_); (focus (first | assumption | (simp; done)))) | ((with_reducible refine (?_ : ObK _ _)); (refine ObK.mk _ (hlk) ?_)) | ((with_reducible refine (?_ : ObK2 _ _)); (refine ObK2.mk _ (hup) ?_)))
            rotate_left
            · exact absurd ⟨rfl, rfl, rfl, rfl, rfl, trivial⟩ h
            conv => whnf
            have r1 := nr_m ((clk + 1 : Nat) : Int) (m ++ [(t, ([] : List Hi.Op).length, clk)])
            have r2 := nr_o ([⟨t, ⟨c1, c2, c3, c4, c5⟩, Hi.An0, false, k, es.length⟩])
            refine Again.mk (k + 1, ⟨[⟨t, ⟨c1, c2, c3, c4, c5⟩, Hi.An0, false, k, es.length⟩], m ++ [(t, ([] : List Hi.Op).length, clk)], clk + 1⟩) ⟨by dsimp only; omega, hi2, he⟩ (by dsimp only; omega) (Fg.vw [(0, 0, 0), (0, 3, 0)] ?_ ?_ (by simp) ?_)
            all_goals repeat' ((conv => whnf); first | ((with_reducible refine ObN.mk ?_ ?_); (focus (first | rfl | assumption | omega | (simp only [List.length_map, List.length_append, List.length_cons, List.length_nil]; omega) | (simp; done) | (simp; omega)))) | ((with_reducible refine ObRn.mk ?_ ?_); (focus (first | rfl | (simp [rnB, rnC, rnL]; done)))) | ((with_reducible refine ObRow.same ?_ ?_ ?_); (focus (first | rfl | assumption)); (focus (first | rfl | assumption | (simp; done)))) | ((with_reducible refine ObEqs.mk ?_ ?_); (focus rfl)) | exact True.intro)
          · have hR : Hi.entR es = .err 4 := by rw [← he]; simp [Hi.stp, ht, ht2, hf, ha]
            rw [hR]; dsimp only [resA, resH]
            repeat' ((conv => whnf); first | (with_reducible refine SeqP.go ?_) | ((with_reducible refine ObD.mk ?_ ?_); (focus (first | rfl | (simp [List.length_cons, List.length_nil]; done)))) | ((with_reducible refine ObN.mk ?_ ?_); (focus (first | rfl | assumption | omega | (simp only [List.length_map, List.length_append, List.length_cons, List.length_nil, List.length_cons, List.length_nil]; omega) | (simp [List.length_cons, List.length_nil]; done) | (simp [List.length_cons, List.length_nil]; omega)))) | (with_reducible refine ObT.tt ?_) | (with_reducible refine ObT.ff ?_) | ((with_reducible refine ObB.yes ?_ ?_); (focus (first | assumption | (with_reducible rfl) | omega))) | ((with_reducible refine ObB.no ?_ ?_); (focus (first | assumption | omega))) | (with_reducible refine ObB.mk (fun h => ?_) (fun h => ?_)) | ((with_reducible refine ObX.mk _ rfl ?_ ?_); (focus (first | omega | assumption | (simp only [List.length_map, List.length_append, List.length_cons, List.length_nil, List.length_take, List.length_drop, List.length_set, List.length_replicate, List.length_cons, List.length_nil]; omega)))) | ((with_reducible refine (?_ : ObU _ _)); (refine ObU.mk _ (by first | assumption | ((conv => lhs; simp only [List.set_cons_zero, List.set_cons_succ, List.take_succ_cons, List.take_zero, List.drop_succ_cons, List.drop_zero, List.nil_append, List.cons_append, List.append_nil, List.take_nil, List.drop_nil, List.length_cons, List.length_nil]); try rfl) | rfl) ?_)) | ((with_reducible refine (?_ : ObR _ _ _)); (first | (refine ObR.mk _ (by assumption) ?_) | (refine ObR.mk _ (by exact q) ?_) | (refine ObR.mk _ (by with_reducible rfl) ?_) | (refine ObR.map (by (first | omega | assumption | (simp only [List.length_map, List.length_append, List.length_cons, List.length_nil, List.length_take, List.length_drop, List.length_set, List.length_replicate, List.length_cons, List.length_nil]; omega))) (fun x hx => ?_)) | (refine ObR.mk _ rfl ?_))) | ((with_reducible refine (?_ : ObK _ _)); (refine ObK.mk _ (hlk) ?_)))
            all_goals conv => whnf
            · exact absurd (by obtain ⟨x1, x2, x3, x4, x5, _⟩ := h; exact ⟨by first | assumption | exact Eq.symm ‹_›, by first | assumption | exact Eq.symm ‹_›, by first | assumption | exact Eq.symm ‹_›, by first | assumption | exact Eq.symm ‹_›, by first | assumption | exact Eq.symm ‹_›⟩) ha
            all_goals refine ObEnd.vw [] rfl ?_ (by simp) ?_
            all_goals repeat' ((conv => whnf); first | exact True.intro)
      | cons o l =>
        dsimp only [rowsH, slA, mapR, lR]
        by_cases ht : t < 0
        · have hR : Hi.entR es = .err 2 := by rw [← he]; simp [Hi.stp, ht]
          rw [hR]; dsimp only [resA, resH]
          repeat' ((conv => whnf); first | (with_reducible refine SeqP.go ?_) | ((with_reducible refine ObD.mk ?_ ?_); (focus (first | rfl | (simp [List.length_cons, List.length_nil]; done)))) | ((with_reducible refine ObN.mk ?_ ?_); (focus (first | rfl | assumption | omega | (simp only [List.length_map, List.length_append, List.length_cons, List.length_nil, List.length_cons, List.length_nil]; omega) | (simp [List.length_cons, List.length_nil]; done) | (simp [List.length_cons, List.length_nil]; omega)))) | (with_reducible refine ObT.tt ?_) | ((with_reducible refine ObB.yes ?_ ?_); (focus (first | assumption | (with_reducible rfl) | omega))) | ((with_reducible refine ObX.mk _ rfl ?_ ?_); (focus (first | omega | assumption | (simp only [List.length_map, List.length_append, List.length_cons, List.length_nil, List.length_take, List.length_drop, List.length_set, List.length_replicate, List.length_cons, List.length_nil]; omega)))) | ((with_reducible refine (?_ : ObU _ _)); (refine ObU.mk _ (by first | assumption | ((conv => lhs; simp only [List.set_cons_zero, List.set_cons_succ, List.take_succ_cons, List.take_zero, List.drop_succ_cons, List.drop_zero, List.nil_append, List.cons_append, List.append_nil, List.take_nil, List.drop_nil, List.length_cons, List.length_nil]); try rfl) | rfl) ?_)) | ((with_reducible refine (?_ : ObR _ _ _)); (first | (refine ObR.mk _ (by assumption) ?_) | (refine ObR.mk _ (by exact q) ?_) | (refine ObR.mk _ (by with_reducible rfl) ?_) | (refine ObR.map (by (first | omega | assumption | (simp only [List.length_map, List.length_append, List.length_cons, List.length_nil, List.length_take, List.length_drop, List.length_set, List.length_replicate, List.length_cons, List.length_nil]; omega))) (fun x hx => ?_)) | (refine ObR.mk _ rfl ?_))) | ((with_reducible refine (?_ : ObK _ _)); (refine ObK.mk _ (hlk) ?_)))
          all_goals conv => whnf
          all_goals refine ObEnd.vw [] rfl ?_ (by simp) ?_
          all_goals repeat' ((conv => whnf); first | exact True.intro)
        by_cases ht2 : 64 ≤ t
        · have hR : Hi.entR es = .err 2 := by rw [← he]; simp [Hi.stp, ht2]
          rw [hR]; dsimp only [resA, resH]
          repeat' ((conv => whnf); first | (with_reducible refine SeqP.go ?_) | ((with_reducible refine ObD.mk ?_ ?_); (focus (first | rfl | (simp [List.length_cons, List.length_nil]; done)))) | ((with_reducible refine ObN.mk ?_ ?_); (focus (first | rfl | assumption | omega | (simp only [List.length_map, List.length_append, List.length_cons, List.length_nil, List.length_cons, List.length_nil]; omega) | (simp [List.length_cons, List.length_nil]; done) | (simp [List.length_cons, List.length_nil]; omega)))) | (with_reducible refine ObT.tt ?_) | (with_reducible refine ObT.ff ?_) | ((with_reducible refine ObB.yes ?_ ?_); (focus (first | assumption | (with_reducible rfl) | omega))) | ((with_reducible refine ObB.no ?_ ?_); (focus (first | assumption | omega))) | ((with_reducible refine ObX.mk _ rfl ?_ ?_); (focus (first | omega | assumption | (simp only [List.length_map, List.length_append, List.length_cons, List.length_nil, List.length_take, List.length_drop, List.length_set, List.length_replicate, List.length_cons, List.length_nil]; omega)))) | ((with_reducible refine (?_ : ObU _ _)); (refine ObU.mk _ (by first | assumption | ((conv => lhs; simp only [List.set_cons_zero, List.set_cons_succ, List.take_succ_cons, List.take_zero, List.drop_succ_cons, List.drop_zero, List.nil_append, List.cons_append, List.append_nil, List.take_nil, List.drop_nil, List.length_cons, List.length_nil]); try rfl) | rfl) ?_)) | ((with_reducible refine (?_ : ObR _ _ _)); (first | (refine ObR.mk _ (by assumption) ?_) | (refine ObR.mk _ (by exact q) ?_) | (refine ObR.mk _ (by with_reducible rfl) ?_) | (refine ObR.map (by (first | omega | assumption | (simp only [List.length_map, List.length_append, List.length_cons, List.length_nil, List.length_take, List.length_drop, List.length_set, List.length_replicate, List.length_cons, List.length_nil]; omega))) (fun x hx => ?_)) | (refine ObR.mk _ rfl ?_))) | ((with_reducible refine (?_ : ObK _ _)); (refine ObK.mk _ (hlk) ?_)))
          all_goals conv => whnf
          all_goals refine ObEnd.vw [] rfl ?_ (by simp) ?_
          all_goals repeat' ((conv => whnf); first | exact True.intro)
        cases res with
        | true =>
          have hR : Hi.entR es = .err 4 := by rw [← he]; simp [Hi.stp, ht, ht2, hf]
          rw [hR]; dsimp only [resA, resH]
          repeat' ((conv => whnf); first | (with_reducible refine SeqP.go ?_) | ((with_reducible refine ObD.mk ?_ ?_); (focus (first | rfl | (simp [List.length_cons, List.length_nil]; done)))) | ((with_reducible refine ObN.mk ?_ ?_); (focus (first | rfl | assumption | omega | (simp only [List.length_map, List.length_append, List.length_cons, List.length_nil, List.length_cons, List.length_nil]; omega) | (simp [List.length_cons, List.length_nil]; done) | (simp [List.length_cons, List.length_nil]; omega)))) | (with_reducible refine ObT.tt ?_) | (with_reducible refine ObT.ff ?_) | ((with_reducible refine ObB.yes ?_ ?_); (focus (first | assumption | (with_reducible rfl) | omega))) | ((with_reducible refine ObB.no ?_ ?_); (focus (first | assumption | omega))) | ((with_reducible refine ObX.mk _ rfl ?_ ?_); (focus (first | omega | assumption | (simp only [List.length_map, List.length_append, List.length_cons, List.length_nil, List.length_take, List.length_drop, List.length_set, List.length_replicate, List.length_cons, List.length_nil]; omega)))) | ((with_reducible refine (?_ : ObU _ _)); (refine ObU.mk _ (by first | assumption | ((conv => lhs; simp only [List.set_cons_zero, List.set_cons_succ, List.take_succ_cons, List.take_zero, List.drop_succ_cons, List.drop_zero, List.nil_append, List.cons_append, List.append_nil, List.take_nil, List.drop_nil, List.length_cons, List.length_nil]); try rfl) | rfl) ?_)) | ((with_reducible refine (?_ : ObR _ _ _)); (first | (refine ObR.mk _ (by assumption) ?_) | (refine ObR.mk _ (by exact q) ?_) | (refine ObR.mk _ (by with_reducible rfl) ?_) | (refine ObR.map (by (first | omega | assumption | (simp only [List.length_map, List.length_append, List.length_cons, List.length_nil, List.length_take, List.length_drop, List.length_set, List.length_replicate, List.length_cons, List.length_nil]; omega))) (fun x hx => ?_)) | (refine ObR.mk _ rfl ?_))) | ((with_reducible refine (?_ : ObK _ _)); (refine ObK.mk _ (hlk) ?_)))
          all_goals conv => whnf
          all_goals refine ObEnd.vw [] rfl ?_ (by simp) ?_
          all_goals repeat' ((conv => whnf); first | exact True.intro)
        | false =>
          by_cases ha : Hi.noA ⟨a1, a2, a3, a4, a5⟩
          · have hs : Hi.stp es.length k ⟨(o :: l), m, clk⟩ ⟨false, t, ⟨c1, c2, c3, c4, c5⟩, ⟨a1, a2, a3, a4, a5⟩⟩ = .ok ⟨o :: (l ++ [⟨t, ⟨c1, c2, c3, c4, c5⟩, Hi.An0, false, k, es.length⟩]), m ++ [(t, (o :: l).length, clk)], clk + 1⟩ := by simp [Hi.stp, ht, ht2, hf, ha]
            have hi2 := hi.stp hs
            rw [hs] at he
            simp only at he
            obtain ⟨ha1, ha2, ha3, ha4, ha5⟩ := ha
            dsimp only at ha1 ha2 ha3 ha4 ha5
            subst ha1; subst ha2; subst ha3; subst ha4; subst ha5
            have hup := up_m hf (o :: l).length clk
            have hll := hi.len
            simp only [List.length_cons] at hll
            repeat' ((conv => whnf); first | (with_reducible refine SeqP.go ?_) | ((with_reducible refine ObD.mk ?_ ?_); (focus (first | rfl | (simp [List.length_cons, List.length_nil]; done)))) | ((with_reducible refine ObN.mk ?_ ?_); (focus (first | rfl | assumption | omega | (simp only [List.length_map, List.length_append, List.length_cons, List.length_nil, List.length_cons, List.length_nil]; omega) | (simp [List.length_cons, List.length_nil]; done) | (simp [List.length_cons, List.length_nil]; omega)))) | (with_reducible refine ObT.tt ?_) | (with_reducible refine ObT.ff ?_) | ((with_reducible refine ObB.yes ?_ ?_); (focus (first | assumption | (with_reducible rfl) | omega))) | ((with_reducible refine ObB.no ?_ ?_); (focus (first | assumption | omega))) | (with_reducible refine ObB.mk (fun h => ?_) (fun h => ?_)) | ((with_reducible refine ObI.nl ?_ ?_); (focus omega)) | ((with_reducible refine ObX.mk _ rfl ?_ ?_); (focus (first | omega | assumption | (simp only [List.length_map, List.length_append, List.length_cons, List.length_nil, List.length_take, List.length_drop, List.length_set, List.length_replicate, List.length_cons, List.length_nil]; omega)))) | ((with_reducible refine (?_ : ObL _ _)); (refine ObL.mk _ (by first | exact (List.length_map _) | assumption | exact (List.length_map _).trans (by assumption) | exact List.length_map _ | rfl) ?_)) | ((with_reducible refine (?_ : ObU _ _)); (refine ObU.mk _ (by first | assumption | ((conv => lhs; simp only [List.set_cons_zero, List.set_cons_succ, List.take_succ_cons, List.take_zero, List.drop_succ_cons, List.drop_zero, List.nil_append, List.cons_append, List.append_nil, List.take_nil, List.drop_nil, List.length_cons, List.length_nil]); try rfl) | rfl) ?_)) | ((with_reducible refine (?_ : ObR _ _ _)); (first | (refine ObR.mk _ (by assumption) ?_) | (refine ObR.mk _ (by exact q) ?_) | (refine ObR.mk _ (by with_reducible rfl) ?_) | (refine ObR.map (by (first | omega | assumption | (simp only [List.length_map, List.length_append, List.length_cons, List.length_nil, List.length_take, List.length_drop, List.length_set, List.length_replicate, List.length_cons, List.length_nil]; omega))) (fun x hx => ?_)) | (refine ObR.mk _ rfl ?_))) | ((with_reducible refine (?_ : ObK _ _)); (refine ObK.mk _ (hlk) ?_)) | ((with_reducible refine (?_ : ObK2 _ _)); (refine ObK2.mk _ (hup) ?_)))
            rotate_left
            · exact absurd ⟨rfl, rfl, rfl, rfl, rfl, trivial⟩ h
            conv => whnf
            have r1 := nr_m ((clk + 1 : Nat) : Int) (m ++ [(t, (o :: l).length, clk)])
            have r2 := nr_o (o :: (l ++ [⟨t, ⟨c1, c2, c3, c4, c5⟩, Hi.An0, false, k, es.length⟩]))
            refine Again.mk (k + 1, ⟨o :: (l ++ [⟨t, ⟨c1, c2, c3, c4, c5⟩, Hi.An0, false, k, es.length⟩]), m ++ [(t, (o :: l).length, clk)], clk + 1⟩) ⟨by dsimp only; omega, hi2, he⟩ (by dsimp only; omega) (Fg.vw [(0, 0, 0), (l.length + 1, 1, l.length + 1)] ?_ ?_ (by simp) ?_)
            all_goals repeat' ((conv => whnf); first | ((with_reducible refine ObN.mk ?_ ?_); (focus (first | rfl | assumption | omega | (simp only [List.length_map, List.length_append, List.length_cons, List.length_nil]; omega) | (simp; done) | (simp; omega)))) | ((with_reducible refine ObRn.mk ?_ ?_); (focus (first | rfl | (simp [rnB, rnC, rnL]; done)))) | ((with_reducible refine ObRow.same ?_ ?_ ?_); (focus (first | rfl | assumption)); (focus (first | rfl | assumption | (simp; done)))) | ((with_reducible refine ObEqs.mk ?_ ?_); (focus rfl)) | exact True.intro)
            rw [List.take_of_length_le (by simp)]
            refine ObRow.same (by simp [opA, Hi.An0]) (by simp [opA, nrB, AV.cells]) ?_
            all_goals repeat' ((conv => whnf); first | exact True.intro)
          · have hR : Hi.entR es = .err 4 := by rw [← he]; simp [Hi.stp, ht, ht2, hf, ha]
            rw [hR]; dsimp only [resA, resH]
            repeat' ((conv => whnf); first | (with_reducible refine SeqP.go ?_) | ((with_reducible refine ObD.mk ?_ ?_); (focus (first | rfl | (simp [List.length_cons, List.length_nil]; done)))) | ((with_reducible refine ObN.mk ?_ ?_); (focus (first | rfl | assumption | omega | (simp only [List.length_map, List.length_append, List.length_cons, List.length_nil, List.length_cons, List.length_nil]; omega) | (simp [List.length_cons, List.length_nil]; done) | (simp [List.length_cons, List.length_nil]; omega)))) | (with_reducible refine ObT.tt ?_) | (with_reducible refine ObT.ff ?_) | ((with_reducible refine ObB.yes ?_ ?_); (focus (first | assumption | (with_reducible rfl) | omega))) | ((with_reducible refine ObB.no ?_ ?_); (focus (first | assumption | omega))) | (with_reducible refine ObB.mk (fun h => ?_) (fun h => ?_)) | ((with_reducible refine ObX.mk _ rfl ?_ ?_); (focus (first | omega | assumption | (simp only [List.length_map, List.length_append, List.length_cons, List.length_nil, List.length_take, List.length_drop, List.length_set, List.length_replicate, List.length_cons, List.length_nil]; omega)))) | ((with_reducible refine (?_ : ObU _ _)); (refine ObU.mk _ (by first | assumption | ((conv => lhs; simp only [List.set_cons_zero, List.set_cons_succ, List.take_succ_cons, List.take_zero, List.drop_succ_cons, List.drop_zero, List.nil_append, List.cons_append, List.append_nil, List.take_nil, List.drop_nil, List.length_cons, List.length_nil]); try rfl) | rfl) ?_)) | ((with_reducible refine (?_ : ObR _ _ _)); (first | (refine ObR.mk _ (by assumption) ?_) | (refine ObR.mk _ (by exact q) ?_) | (refine ObR.mk _ (by with_reducible rfl) ?_) | (refine ObR.map (by (first | omega | assumption | (simp only [List.length_map, List.length_append, List.length_cons, List.length_nil, List.length_take, List.length_drop, List.length_set, List.length_replicate, List.length_cons, List.length_nil]; omega))) (fun x hx => ?_)) | (refine ObR.mk _ rfl ?_))) | ((with_reducible refine (?_ : ObK _ _)); (refine ObK.mk _ (hlk) ?_)))
            all_goals conv => whnf
            · exact absurd (by obtain ⟨x1, x2, x3, x4, x5, _⟩ := h; exact ⟨by first | assumption | exact Eq.symm ‹_›, by first | assumption | exact Eq.symm ‹_›, by first | assumption | exact Eq.symm ‹_›, by first | assumption | exact Eq.symm ‹_›, by first | assumption | exact Eq.symm ‹_›⟩) ha
            all_goals refine ObEnd.vw [] rfl ?_ (by simp) ?_
            all_goals repeat' ((conv => whnf); first | exact True.intro)
    | some i =>
      have hlk := lk_some hf
      have hil : i < l.length := by obtain ⟨p, hp, _, e2⟩ := Hi.fnd_mem hf; have := hi.ix p hp; simp only at this; omega
      obtain ⟨x, hx⟩ : ∃ x, l[i]? = some x := ⟨l[i], List.getElem?_eq_getElem hil⟩
      cases l with
      | nil => simp at hil
      | cons o l =>
        have qo := opA_at hx
        obtain ⟨xt, ⟨d1, d2, d3, d4, d5⟩, ⟨b1, b2, b3, b4, b5⟩, xd, xf, xo⟩ := x
        simp only [opA] at qo
        have hll := hi.len
        simp only [List.length_cons] at hll hil
        dsimp only [rowsH, slA, mapR, lR]
        by_cases ht : t < 0
        · have hR : Hi.entR es = .err 2 := by rw [← he]; simp [Hi.stp, ht]
          rw [hR]; dsimp only [resA, resH]
          repeat' ((conv => whnf); first | (with_reducible refine SeqP.go ?_) | ((with_reducible refine ObD.mk ?_ ?_); (focus (first | rfl | (simp [List.length_cons, List.length_nil]; done)))) | ((with_reducible refine ObN.mk ?_ ?_); (focus (first | rfl | assumption | omega | (simp only [List.length_map, List.length_append, List.length_cons, List.length_nil, List.length_cons, List.length_nil]; omega) | (simp [List.length_cons, List.length_nil]; done) | (simp [List.length_cons, List.length_nil]; omega)))) | (with_reducible refine ObT.tt ?_) | ((with_reducible refine ObB.yes ?_ ?_); (focus (first | assumption | (with_reducible rfl) | omega))) | ((with_reducible refine ObX.mk _ rfl ?_ ?_); (focus (first | omega | assumption | (simp only [List.length_map, List.length_append, List.length_cons, List.length_nil, List.length_take, List.length_drop, List.length_set, List.length_replicate, List.length_cons, List.length_nil]; omega)))) | ((with_reducible refine (?_ : ObU _ _)); (refine ObU.mk _ (by first | assumption | ((conv => lhs; simp only [List.set_cons_zero, List.set_cons_succ, List.take_succ_cons, List.take_zero, List.drop_succ_cons, List.drop_zero, List.nil_append, List.cons_append, List.append_nil, List.take_nil, List.drop_nil, List.length_cons, List.length_nil]); try rfl) | rfl) ?_)) | ((with_reducible refine (?_ : ObR _ _ _)); (first | (refine ObR.mk _ (by assumption) ?_) | (refine ObR.mk _ (by exact q) ?_) | (refine ObR.mk _ (by exact qo) ?_) | (refine ObR.mk _ (by with_reducible rfl) ?_) | (refine ObR.map (by (first | omega | assumption | (simp only [List.length_map, List.length_append, List.length_cons, List.length_nil, List.length_take, List.length_drop, List.length_set, List.length_replicate, List.length_cons, List.length_nil]; omega))) (fun x hx => ?_)) | (refine ObR.mk _ rfl ?_))) | ((with_reducible refine (?_ : ObK _ _)); (refine ObK.mk _ (hlk) ?_)))
          all_goals conv => whnf
          all_goals refine ObEnd.vw [] rfl ?_ (by simp) ?_
          all_goals repeat' ((conv => whnf); first | exact True.intro)
        by_cases ht2 : 64 ≤ t
        · have hR : Hi.entR es = .err 2 := by rw [← he]; simp [Hi.stp, ht2]
          rw [hR]; dsimp only [resA, resH]
          repeat' ((conv => whnf); first | (with_reducible refine SeqP.go ?_) | ((with_reducible refine ObD.mk ?_ ?_); (focus (first | rfl | (simp [List.length_cons, List.length_nil]; done)))) | ((with_reducible refine ObN.mk ?_ ?_); (focus (first | rfl | assumption | omega | (simp only [List.length_map, List.length_append, List.length_cons, List.length_nil, List.length_cons, List.length_nil]; omega) | (simp [List.length_cons, List.length_nil]; done) | (simp [List.length_cons, List.length_nil]; omega)))) | (with_reducible refine ObT.tt ?_) | (with_reducible refine ObT.ff ?_) | ((with_reducible refine ObB.yes ?_ ?_); (focus (first | assumption | (with_reducible rfl) | omega))) | ((with_reducible refine ObB.no ?_ ?_); (focus (first | assumption | omega))) | ((with_reducible refine ObX.mk _ rfl ?_ ?_); (focus (first | omega | assumption | (simp only [List.length_map, List.length_append, List.length_cons, List.length_nil, List.length_take, List.length_drop, List.length_set, List.length_replicate, List.length_cons, List.length_nil]; omega)))) | ((with_reducible refine (?_ : ObU _ _)); (refine ObU.mk _ (by first | assumption | ((conv => lhs; simp only [List.set_cons_zero, List.set_cons_succ, List.take_succ_cons, List.take_zero, List.drop_succ_cons, List.drop_zero, List.nil_append, List.cons_append, List.append_nil, List.take_nil, List.drop_nil, List.length_cons, List.length_nil]); try rfl) | rfl) ?_)) | ((with_reducible refine (?_ : ObR _ _ _)); (first | (refine ObR.mk _ (by assumption) ?_) | (refine ObR.mk _ (by exact q) ?_) | (refine ObR.mk _ (by exact qo) ?_) | (refine ObR.mk _ (by with_reducible rfl) ?_) | (refine ObR.map (by (first | omega | assumption | (simp only [List.length_map, List.length_append, List.length_cons, List.length_nil, List.length_take, List.length_drop, List.length_set, List.length_replicate, List.length_cons, List.length_nil]; omega))) (fun x hx => ?_)) | (refine ObR.mk _ rfl ?_))) | ((with_reducible refine (?_ : ObK _ _)); (refine ObK.mk _ (hlk) ?_)))
          all_goals conv => whnf
          all_goals refine ObEnd.vw [] rfl ?_ (by simp) ?_
          all_goals repeat' ((conv => whnf); first | exact True.intro)
        cases res with
        | false =>
          have hR : Hi.entR es = .err 4 := by rw [← he]; simp [Hi.stp, ht, ht2, hf, hx]
          rw [hR]; dsimp only [resA, resH]
          repeat' ((conv => whnf); first | (with_reducible refine SeqP.go ?_) | ((with_reducible refine ObD.mk ?_ ?_); (focus (first | rfl | (simp [List.length_cons, List.length_nil]; done)))) | ((with_reducible refine ObN.mk ?_ ?_); (focus (first | rfl | assumption | omega | (simp only [List.length_map, List.length_append, List.length_cons, List.length_nil, List.length_cons, List.length_nil]; omega) | (simp [List.length_cons, List.length_nil]; done) | (simp [List.length_cons, List.length_nil]; omega)))) | (with_reducible refine ObT.tt ?_) | (with_reducible refine ObT.ff ?_) | ((with_reducible refine ObB.yes ?_ ?_); (focus (first | assumption | (with_reducible rfl) | omega))) | ((with_reducible refine ObB.no ?_ ?_); (focus (first | assumption | omega))) | ((with_reducible refine ObX.mk _ rfl ?_ ?_); (focus (first | omega | assumption | (simp only [List.length_map, List.length_append, List.length_cons, List.length_nil, List.length_take, List.length_drop, List.length_set, List.length_replicate, List.length_cons, List.length_nil]; omega)))) | ((with_reducible refine (?_ : ObU _ _)); (refine ObU.mk _ (by first | assumption | ((conv => lhs; simp only [List.set_cons_zero, List.set_cons_succ, List.take_succ_cons, List.take_zero, List.drop_succ_cons, List.drop_zero, List.nil_append, List.cons_append, List.append_nil, List.take_nil, List.drop_nil, List.length_cons, List.length_nil]); try rfl) | rfl) ?_)) | ((with_reducible refine (?_ : ObR _ _ _)); (first | (refine ObR.mk _ (by assumption) ?_) | (refine ObR.mk _ (by exact q) ?_) | (refine ObR.mk _ (by exact qo) ?_) | (refine ObR.mk _ (by with_reducible rfl) ?_) | (refine ObR.map (by (first | omega | assumption | (simp only [List.length_map, List.length_append, List.length_cons, List.length_nil, List.length_take, List.length_drop, List.length_set, List.length_replicate, List.length_cons, List.length_nil]; omega))) (fun x hx => ?_)) | (refine ObR.mk _ rfl ?_))) | ((with_reducible refine (?_ : ObK _ _)); (refine ObK.mk _ (hlk) ?_)))
          all_goals conv => whnf
          all_goals refine ObEnd.vw [] rfl ?_ (by simp) ?_
          all_goals repeat' ((conv => whnf); first | exact True.intro)
        | true =>
          by_cases hc : Hi.eqCl ⟨c1, c2, c3, c4, c5⟩ ⟨d1, d2, d3, d4, d5⟩
          · have hs : Hi.stp es.length k ⟨o :: l, m, clk⟩ ⟨true, t, ⟨c1, c2, c3, c4, c5⟩, ⟨a1, a2, a3, a4, a5⟩⟩ = .ok ⟨(o :: l).set i ⟨xt, ⟨d1, d2, d3, d4, d5⟩, ⟨a1, a2, a3, a4, a5⟩, true, xf, k⟩, m.eraseP (fun p => decide (p.1 = t)), clk⟩ := by simp [Hi.stp, ht, ht2, hf, hx, hc]
            have hi2 := hi.stp hs
            rw [hs] at he
            simp only at he
            obtain ⟨e1, e2, e3, e4, e5⟩ := hc
            dsimp only at e1 e2 e3 e4 e5
            subst e1; subst e2; subst e3; subst e4; subst e5
            repeat' ((conv => whnf); first | (with_reducible refine SeqP.go ?_) | ((with_reducible refine ObD.mk ?_ ?_); (focus (first | rfl | (simp [List.length_cons, List.length_nil]; done)))) | ((with_reducible refine ObN.mk ?_ ?_); (focus (first | rfl | assumption | omega | (simp only [List.length_map, List.length_append, List.length_cons, List.length_nil, List.length_cons, List.length_nil]; omega) | (simp [List.length_cons, List.length_nil]; done) | (simp [List.length_cons, List.length_nil]; omega)))) | (with_reducible refine ObT.tt ?_) | (with_reducible refine ObT.ff ?_) | ((with_reducible refine ObB.yes ?_ ?_); (focus (first | assumption | (with_reducible rfl) | omega))) | ((with_reducible refine ObB.no ?_ ?_); (focus (first | assumption | omega))) | (with_reducible refine ObB.mk (fun h => ?_) (fun h => ?_)) | ((with_reducible refine ObX.mk _ rfl ?_ ?_); (focus (first | omega | assumption | (simp only [List.length_map, List.length_append, List.length_cons, List.length_nil, List.length_take, List.length_drop, List.length_set, List.length_replicate, List.length_cons, List.length_nil]; omega)))) | ((with_reducible refine (?_ : ObU _ _)); (refine ObU.mk _ (by first | assumption | ((conv => lhs; simp only [List.set_cons_zero, List.set_cons_succ, List.take_succ_cons, List.take_zero, List.drop_succ_cons, List.drop_zero, List.nil_append, List.cons_append, List.append_nil, List.take_nil, List.drop_nil, List.length_cons, List.length_nil]); try rfl) | rfl) ?_)) | ((with_reducible refine (?_ : ObR _ _ _)); (first | (refine ObR.mk _ (by assumption) ?_) | (refine ObR.mk _ (by exact q) ?_) | (refine ObR.mk _ (by exact qo) ?_) | (refine ObR.mk _ (by exact (List.getElem?_set_self (by simpa using hil))) ?_) | (refine ObR.mk _ (by with_reducible rfl) ?_) | (refine ObR.map (by (first | omega | assumption | (simp only [List.length_map, List.length_append, List.length_cons, List.length_nil, List.length_take, List.length_drop, List.length_set, List.length_replicate, List.length_cons, List.length_nil]; omega))) (fun x hx => ?_)) | (refine ObR.mk _ rfl ?_))) | ((with_reducible refine (?_ : ObK _ _)); (refine ObK.mk _ (hlk) ?_)))
            rotate_left
            · exact absurd ⟨rfl, rfl, rfl, rfl, rfl, trivial⟩ h
            refine ObE.mk (.tup []) _ (congrArg (Option.map fun x => (AV.tup [], x)) (mdl_at (i := 0) (g := 0) rfl rfl (by omega) (dl_m m t))) ?_
            repeat' ((conv => whnf); first | (with_reducible refine SeqP.go ?_) | ((with_reducible refine ObN.mk ?_ ?_); (focus (first | rfl | assumption | omega | (simp only [List.length_map, List.length_append, List.length_cons, List.length_nil]; omega) | (simp; done) | (simp; omega)))) | ((with_reducible refine ObI.nl ?_ ?_); (focus omega)))
            conv => whnf
            have r1 := nr_m (clk : Int) (m.eraseP fun p => decide (p.1 = t))
            have eset : (((List.map opA (o :: l)).set i (AV.agg [I xt, I c1, S c2, S c3, S c4, I c5, I a1, Bo a2, S a3, S a4, I a5, Bo xd, I xf, I xo])).set i (AV.agg [I xt, I c1, S c2, S c3, S c4, I c5, I a1, Bo a2, S a3, S a4, I a5, AV.v (Value.bool true), I xf, I xo])).set i (AV.agg [I xt, I c1, S c2, S c3, S c4, I c5, I a1, Bo a2, S a3, S a4, I a5, AV.v (Value.bool true), I xf, I k]) = ((o :: l).set i ⟨xt, ⟨c1, c2, c3, c4, c5⟩, ⟨a1, a2, a3, a4, a5⟩, true, xf, k⟩).map opA := by
              rw [List.set_set, List.set_set, List.map_set]; rfl
            rw [eset]
            obtain ⟨o2, l2, hl2⟩ : ∃ o2 l2, (o :: l).set i ⟨xt, ⟨c1, c2, c3, c4, c5⟩, ⟨a1, a2, a3, a4, a5⟩, true, xf, k⟩ = o2 :: l2 := by cases i with | zero => exact ⟨_, _, rfl⟩ | succ i => exact ⟨_, _, rfl⟩
            have hl3 : l2.length = l.length := by have := congrArg List.length hl2; simp at this; omega
            rw [hl2] at hi2 he ⊢
            rw [← hl3]
            have r2 := nr_o (o2 :: l2)
            refine Again.mk (k + 1, ⟨o2 :: l2, m.eraseP (fun p => decide (p.1 = t)), clk⟩) ⟨by dsimp only; omega, hi2, he⟩ (by dsimp only; omega) (Fg.vw [(0, 0, 0), (l2.length, 1, l2.length)] ?_ ?_ (by simp) ?_)
            all_goals repeat' ((conv => whnf); first | ((with_reducible refine ObN.mk ?_ ?_); (focus (first | rfl | assumption | omega | (simp only [List.length_map, List.length_append, List.length_cons, List.length_nil]; omega) | (simp; done) | (simp; omega)))) | ((with_reducible refine ObRn.mk ?_ ?_); (focus (first | rfl | (simp [rnB, rnC, rnL]; done)))) | ((with_reducible refine ObRow.same ?_ ?_ ?_); (focus (first | rfl | assumption)); (focus (first | rfl | assumption | (simp; done)))) | ((with_reducible refine ObEqs.mk ?_ ?_); (focus rfl)) | exact True.intro)
          · have hR : Hi.entR es = .err 4 := by rw [← he]; simp [Hi.stp, ht, ht2, hf, hx, hc]
            rw [hR]; dsimp only [resA, resH]
            repeat' ((conv => whnf); first | (with_reducible refine SeqP.go ?_) | ((with_reducible refine ObD.mk ?_ ?_); (focus (first | rfl | (simp [List.length_cons, List.length_nil]; done)))) | ((with_reducible refine ObN.mk ?_ ?_); (focus (first | rfl | assumption | omega | (simp only [List.length_map, List.length_append, List.length_cons, List.length_nil, List.length_cons, List.length_nil]; omega) | (simp [List.length_cons, List.length_nil]; done) | (simp [List.length_cons, List.length_nil]; omega)))) | (with_reducible refine ObT.tt ?_) | (with_reducible refine ObT.ff ?_) | ((with_reducible refine ObB.yes ?_ ?_); (focus (first | assumption | (with_reducible rfl) | omega))) | ((with_reducible refine ObB.no ?_ ?_); (focus (first | assumption | omega))) | (with_reducible refine ObB.mk (fun h => ?_) (fun h => ?_)) | ((with_reducible refine ObX.mk _ rfl ?_ ?_); (focus (first | omega | assumption | (simp only [List.length_map, List.length_append, List.length_cons, List.length_nil, List.length_take, List.length_drop, List.length_set, List.length_replicate, List.length_cons, List.length_nil]; omega)))) | ((with_reducible refine (?_ : ObU _ _)); (refine ObU.mk _ (by first | assumption | ((conv => lhs; simp only [List.set_cons_zero, List.set_cons_succ, List.take_succ_cons, List.take_zero, List.drop_succ_cons, List.drop_zero, List.nil_append, List.cons_append, List.append_nil, List.take_nil, List.drop_nil, List.length_cons, List.length_nil]); try rfl) | rfl) ?_)) | ((with_reducible refine (?_ : ObR _ _ _)); (first | (refine ObR.mk _ (by assumption) ?_) | (refine ObR.mk _ (by exact q) ?_) | (refine ObR.mk _ (by exact qo) ?_) | (refine ObR.mk _ (by with_reducible rfl) ?_) | (refine ObR.map (by (first | omega | assumption | (simp only [List.length_map, List.length_append, List.length_cons, List.length_nil, List.length_take, List.length_drop, List.length_set, List.length_replicate, List.length_cons, List.length_nil]; omega))) (fun x hx => ?_)) | (refine ObR.mk _ rfl ?_))) | ((with_reducible refine (?_ : ObK _ _)); (refine ObK.mk _ (hlk) ?_)))
            all_goals try (obtain ⟨x1, x2, x3, x4, x5, _⟩ := h; exact absurd ⟨by first | assumption | exact Eq.symm ‹_›, by first | assumption | exact Eq.symm ‹_›, by first | assumption | exact Eq.symm ‹_›, by first | assumption | exact Eq.symm ‹_›, by first | assumption | exact Eq.symm ‹_›⟩ hc)
            all_goals conv => whnf
            all_goals refine ObEnd.vw [] rfl ?_ (by simp) ?_
            all_goals repeat' ((conv => whnf); first | exact True.intro)
  · obtain rfl : k = es.length := by omega
    rw [List.drop_length] at he
    simp only [Hi.ent] at he
    rw [← he]
    obtain ⟨l, m, clk⟩ := s
    cases l with
    | nil =>
      dsimp only [rowsH, slA, mapR, resA, resH]
      repeat' ((conv => whnf); first | (with_reducible refine SeqP.go ?_) | ((with_reducible refine ObN.mk ?_ ?_); (focus (first | rfl | assumption | omega | (simp only [List.length_map, List.length_append, List.length_cons, List.length_nil]; omega) | (simp; done) | (simp; omega)))) | (with_reducible refine ObT.ff ?_) | ((with_reducible refine ObB.no ?_ ?_); (focus (first | assumption | omega))) | (exact ObEnd.eq rfl rfl))
    | cons o l =>
      dsimp only [rowsH, slA, mapR, lR, resA, resH]
      repeat' ((conv => whnf); first | (with_reducible refine SeqP.go ?_) | ((with_reducible refine ObN.mk ?_ ?_); (focus (first | rfl | assumption | omega | (simp only [List.length_map, List.length_append, List.length_cons, List.length_nil]; omega) | (simp; done) | (simp; omega)))) | (with_reducible refine ObT.ff ?_) | ((with_reducible refine ObB.no ?_ ?_); (focus (first | assumption | omega))) | (exact ObEnd.eq rfl rfl))
end
end Go.Proofs.Ytjooigegjkpdpaa.Sim
