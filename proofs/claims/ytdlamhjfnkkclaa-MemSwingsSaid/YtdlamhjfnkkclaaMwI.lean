/- Memories: one without slots; the law's arguments. -/
import Derived.Test.YtdlamhjfnkkclaaMwH
namespace Go.Proofs.Ytdlamhjfnkkclaa.Sim
open Go.RowKit
set_option maxRecDepth 100000
set_option linter.unusedSimpArgs false
set_option linter.unusedVariables false
theorem rnd1 (x : Int) : rnd x 1 = 0 := by have := rnd_lt (x := x) (n := 1) (by omega); omega
set_option maxHeartbeats 16000000 in
theorem swings0 (G : Nat → AV) (turn : Bool) (d r i kn : Int) (ke va : ByteArray) (mp : Int) (kd : List AV) (mn : Int) (ls : List AV) (sz bi old new : Int) (a b : Wd) :
    PC Try.prog G 4 [.sl 1 [], bA d r i kn ke va mp kd mn ls sz bi old new a b, Bo turn] (Bo true) := by
  have hw := works G
  have hnew := new17 G 0 (by omega)
  obtain ⟨b1, b2, b3⟩ := b
  obtain ⟨a1, a2, a3⟩ := a
  have hst := store12 G 0 (0, 0, 0) (0, 0, 0) (b1, b2, b3) 0 0 0 (by omega) (by omega)
  have am := among G r 1 (by omega) (by omega)
  rw [rnd1] at am
  have l0 : ([] : List AV).length = 0 := rfl
  have pk0 := peek21n G 0 0 (0, 0, 0) (b1, b2, b3) 1
  have pk1 := peek21n G 0 1 (0, 0, 0) (b1, b2, b3) 1
  rw [wv, if_pos rfl] at pk0
  rw [wv, if_neg (by decide), if_pos rfl] at pk1
  cases turn
  · obtain ⟨e, fa, ht⟩ := swing8n G 0 0 (by omega) old new i (a1, a2, a3) (0, 0, 0) (b1, b2, b3) 1 1 0 (by omega) (by omega)
    have pk0 := pk0 2 fa
    have pk1 := pk1 2 fa
    refine pc_ofV cop4 ?_
    repeat' ((conv => whnf); first | (with_reducible refine SeqP.go ?_) | ((with_reducible refine ObD.mk ?_ ?_); (focus (first | rfl | (simp; done)))) | ((with_reducible refine ObN.mk ?_ ?_); (focus (first | rfl | assumption | omega | (simp only [List.length_map, List.length_append, List.length_cons, List.length_nil]; omega) | (simp; done) | (simp; omega)))) | (with_reducible refine ObT.tt ?_) | (with_reducible refine ObT.ff ?_) | ((with_reducible refine ObB.yes ?_ ?_); (focus (first | assumption | (with_reducible rfl) | omega))) | (with_reducible refine ObZ.mk _ rfl ?_) | ((with_reducible refine (?_ : ObL _ _)); (refine ObL.mk _ (by first | exact l0 | assumption | exact (List.length_map _).trans (by assumption) | exact List.length_map _ | rfl) ?_)) | ((with_reducible refine (?_ : ObR _ _ _)); (first | (refine ObR.mk _ (by assumption) ?_) | (refine ObR.mk _ (by with_reducible rfl) ?_) | (refine ObR.map (by (first | omega | assumption | (simp only [List.length_map, List.length_append, List.length_cons, List.length_nil, List.length_take, List.length_drop, List.length_set, List.length_replicate]; omega))) (fun x hx => ?_)) | (refine ObR.mk _ rfl ?_))) | ((with_reducible refine ObC.f 18 ?_); (first | (with_reducible refine ObC.mk _ (hw) ?_) | (refine ObC.mk _ (hw) ?_))) | ((with_reducible refine ObH.f 17 ?_); refine ObH.frn _ (by simp only [List.length_cons, List.length_nil, Nat.reduceAdd]; rfl) [] (hnew) (by simp) rfl (by simp) ?_) | ((with_reducible refine ObH.f 12 ?_); refine ObH.frn _ (by simp only [List.length_cons, List.length_nil, Nat.reduceAdd]; rfl) [(0,1,0),(0,2,0),(0,3,0),(0,4,0)] (hst) (by simp) rfl (by simp) ?_) | ((with_reducible refine ObRow.same ?_ ?_ ?_); (focus (first | rfl | assumption)); (focus (first | rfl | assumption | (simp; done)))) | ((with_reducible refine ObRow.lit ?_ ?_); (focus (first | rfl | (simp [rnB, rnC, rnL]; done)))) | ((with_reducible refine ObAs.mk ?_ ?_); (focus (first | rfl | (simp [rnB, rnC, rnL]; done)))) | ((with_reducible refine (?_ : ObRs _ _ _)); (refine ObRs.mk _ rfl ?_)) | ((with_reducible refine ObBk.same ?_ ?_); (focus (first | rfl | assumption | (simp; done)))) | ((with_reducible refine (?_ : ObBk _ _ _)); (refine ObBk.lit [.agg _] rfl ?_)) | (with_reducible refine ObE.min ?_))
    conv => whnf
    refine LoopP.go (α := Unit) (fun _ => True) (fun _ => 0) (fun _ => [(6, some (Bo false)), (3, some (I 0)), (0, none), (0, none), (27, none), (0, none), (0, none), (0, none), (0, none), (0, none), (0, none), (0, none), (0, none), (0, none), (0, none), (0, none), (0, none), (0, none), (0, none), (0, none), (0, none), (0, none), (0, none)]) (fun _ => [⟨56, 20, [bA d r i kn ke va mp kd mn ls sz bi old new (a1, a2, a3) (b1, b2, b3)], 0, 0⟩, aS (.nl 11) 0, wR (0, 0, 0) (b1, b2, b3), cR1 1, mR1 1 0]) () trivial (Fg.go ?_ rfl) ?_
    · repeat' ((conv => whnf); first | ((with_reducible refine ObEqs.mk ?_ ?_); (focus rfl)) | ((with_reducible refine ObEq1.i ?_ ?_); (focus (first | (with_reducible rfl) | omega))) | ((with_reducible refine ObEq1.mk ?_ ?_); (focus (first | rfl | assumption))) | exact True.intro)
    rintro ⟨⟩ -
    repeat' ((conv => whnf); first | (with_reducible refine SeqP.go ?_) | ((with_reducible refine ObD.mk ?_ ?_); (focus (first | rfl | (simp; done)))) | ((with_reducible refine ObN.mk ?_ ?_); (focus (first | rfl | assumption | omega | (simp only [List.length_map, List.length_append, List.length_cons, List.length_nil]; omega) | (simp; done) | (simp; omega)))) | (with_reducible refine ObT.ff ?_) | ((with_reducible refine ObB.no ?_ ?_); (focus (first | assumption | omega))) | ((with_reducible refine ObI.mk ((1025 + ((0 : Nat) : Int))) ?_ ?_ ?_ ?_); (focus omega); (focus omega); (focus omega)) | ((with_reducible refine ObI.mk _ rfl ?_ ?_ ?_); (focus omega); (focus omega)) | ((with_reducible refine (?_ : ObR _ _ _)); (first | (refine ObR.mk _ (by assumption) ?_) | (refine ObR.mk _ (by with_reducible rfl) ?_) | (refine ObR.map (by (first | omega | assumption | (simp only [List.length_map, List.length_append, List.length_cons, List.length_nil, List.length_take, List.length_drop, List.length_set, List.length_replicate]; omega))) (fun x hx => ?_)) | (refine ObR.mk _ rfl ?_))) | ((with_reducible refine ObC.f 20 ?_); (first | (with_reducible refine ObC.mk _ (am) ?_) | (refine ObC.mk _ (am) ?_))) | ((with_reducible refine ObH.f 8 ?_); refine ObH.frn _ (by simp only [List.length_cons, List.length_nil, Nat.reduceAdd]; rfl) [(0,1,0),(0,2,0),(0,3,0),(0,4,0)] (ht) (by simp) rfl (by simp) ?_) | ((with_reducible refine ObRow.same ?_ ?_ ?_); (focus (first | rfl | assumption)); (focus (first | rfl | assumption | (simp; done)))) | ((with_reducible refine ObRow.lit ?_ ?_); (focus (first | rfl | (simp [rnB, rnC, rnL]; done)))) | ((with_reducible refine ObAs.mk ?_ ?_); (focus (first | rfl | (simp [rnB, rnC, rnL]; done)))) | ((with_reducible refine (?_ : ObRs _ _ _)); (refine ObRs.mk _ rfl ?_)) | ((with_reducible refine ObBk.same ?_ ?_); (focus (first | rfl | assumption | (simp; done)))) | ((with_reducible refine (?_ : ObBk _ _ _)); (refine ObBk.lit [.agg _] rfl ?_)))
    conv => whnf
    refine LoopP.go (α := Unit) (fun _ => True) (fun _ => 0) (fun _ => [(6, some (Bo false)), (8, some (I 0)), (0, none), (0, none), (0, none), (75, none), (0, none), (0, none), (0, none), (0, none), (0, none), (0, none), (0, none), (0, none), (0, none), (0, none), (0, none), (0, none), (0, none), (0, none), (0, none), (0, none), (0, none), (0, none), (0, none), (0, none), (0, none), (0, none), (0, none), (0, none), (0, none), (0, none), (0, none), (0, none), (0, none), (0, none), (0, none), (0, none), (0, none), (0, none), (0, none), (0, none), (0, none), (0, none)]) (fun _ => [⟨56, 20, [bA d r i kn ke va mp kd mn ls sz bi old new (a1, a2, a3) (b1, b2, b3)], 0, 0⟩, aS (.nl 11) 0, wR (0, 0, 0) (b1, b2, b3), cR1 1, mR1 2 fa]) () trivial (Fg.go ?_ rfl) ?_
    · repeat' ((conv => whnf); first | ((with_reducible refine ObEqs.mk ?_ ?_); (focus rfl)) | ((with_reducible refine ObEq1.i ?_ ?_); (focus (first | (with_reducible rfl) | omega))) | ((with_reducible refine ObEq1.mk ?_ ?_); (focus (first | rfl | assumption))) | exact True.intro)
    rintro ⟨⟩ -
    repeat' ((conv => whnf); first | ((with_reducible refine ObN.mk ?_ ?_); (focus (first | rfl | assumption | omega | (simp only [List.length_map, List.length_append, List.length_cons, List.length_nil]; omega) | (simp; done) | (simp; omega)))) | ((with_reducible refine ObB.no ?_ ?_); (focus (first | assumption | omega))))
    conv => whnf
    refine SeqP.go ?_
    repeat' ((conv => whnf); first | (with_reducible refine ObT.ff ?_))
    conv => whnf
    refine SeqP.go ?_
    refine V_cut (α := Unit) (fun _ => True) (fun _ => [(19, some (.oa 5 0 0 0)), (0, some (.oa 6 0 0 0)), (112, none), (0, none), (0, none)]) (fun _ => [⟨56, 20, [bA d r i kn ke va mp kd mn ls sz bi old new (a1, a2, a3) (b1, b2, b3)], 0, 0⟩, aS (.nl 11) 0, wR (0, 0, 0) (b1, b2, b3), cR1 1, mR1 2 fa, ⟨42, 3, [.agg [I 0, I 0, I 0]], 0, 0⟩, ⟨42, 3, [.agg [I b1, I b2, I b3]], 0, 0⟩]) ?_ ?_
    · intro K hK
      have hK1 := fun s' H' (h : s'.getD 19 undefA = .oa 5 0 0 0) hf => hK s' H' () trivial hf
      repeat' ((conv => whnf); first | (with_reducible refine ObAnd.mk ?_ ?_) | (with_reducible refine ObDx.each ?_) | ((with_reducible refine ObD.mk ?_ ?_); (focus (first | rfl | (simp; done)))) | ((with_reducible refine ObN.mk ?_ ?_); (focus (first | rfl | assumption | omega | (simp only [List.length_map, List.length_append, List.length_cons, List.length_nil]; omega) | (simp; done) | (simp; omega)))) | ((with_reducible refine (?_ : ObU _ _)); (refine ObU.mk _ (by first | assumption | ((conv => lhs; simp only [List.set_cons_zero, List.set_cons_succ, List.take_succ_cons, List.take_zero, List.drop_succ_cons, List.drop_zero, List.nil_append, List.cons_append, List.append_nil, List.take_nil, List.drop_nil]); try rfl) | rfl) ?_)) | ((with_reducible refine (?_ : ObR _ _ _)); (first | (refine ObR.mk _ (by assumption) ?_) | (refine ObR.mk _ (by with_reducible rfl) ?_) | (refine ObR.map (by (first | omega | assumption | (simp only [List.length_map, List.length_append, List.length_cons, List.length_nil, List.length_take, List.length_drop, List.length_set, List.length_replicate]; omega))) (fun x hx => ?_)) | (refine ObR.mk _ rfl ?_))))
      all_goals conv => whnf
      all_goals first | refine hK1 _ _ rfl (Fg.vw [(0, 0, 0), (0, 1, 0), (0, 2, 0), (0, 3, 0), (0, 4, 0), (0, 5, 0), (0, 6, 0)] ?_ ?_ (by simp) ?_) | refine hK _ _ () trivial (Fg.vw [(0, 0, 0), (0, 1, 0), (0, 2, 0), (0, 3, 0), (0, 4, 0), (0, 6, 0), (0, 5, 0)] ?_ ?_ (by simp) ?_)
      all_goals repeat' ((conv => whnf); first | ((with_reducible refine ObRn.mk ?_ ?_); (focus (simp [rnB, rnC, rnL, rho, lX]; done))) | ((with_reducible refine ObRow.lit ?_ ?_); (focus (simp [rnB, rnC, rnL, AV.cells, rho, lX]; done))) | ((with_reducible refine ObN.mk ?_ ?_); (focus (first | rfl | assumption | omega | (simp only [List.length_map, List.length_append, List.length_cons, List.length_nil]; omega) | (simp; done) | (simp; omega)))) | ((with_reducible refine ObEqs.mk ?_ ?_); (focus rfl)) | exact True.intro)
    · rintro ⟨⟩ -
      repeat' ((conv => whnf); first | (with_reducible refine SeqP.go ?_) | exact SameP.mk rfl rfl | (with_reducible refine ObAnd.mk ?_ ?_) | (with_reducible refine ObDx.same ?_) | ((with_reducible refine (?_ : ObH _ _ 21 [_, I 1] _ _)); (refine ObH.frn _ (by simp only [List.length_cons, List.length_nil, Nat.reduceAdd]; rfl) [(0,1,0),(0,2,0),(0,3,0),(0,4,0)] pk1 (by simp) rfl (by simp) ?_)) | ((with_reducible refine ObD.mk ?_ ?_); (focus (first | rfl | (simp; done)))) | ((with_reducible refine ObN.mk ?_ ?_); (focus (first | rfl | assumption | omega | (simp only [List.length_map, List.length_append, List.length_cons, List.length_nil]; omega) | (simp; done) | (simp; omega)))) | (with_reducible refine ObT.tt ?_) | (with_reducible refine ObT.ff ?_) | ((with_reducible refine ObB.yes ?_ ?_); (focus (first | assumption | (with_reducible rfl) | omega | (exact ⟨rfl, rfl, rfl, trivial⟩)))) | ((with_reducible refine (?_ : ObR _ _ _)); (first | (refine ObR.mk _ (by assumption) ?_) | (refine ObR.mk _ (by with_reducible rfl) ?_) | (refine ObR.map (by (first | omega | assumption | (simp only [List.length_map, List.length_append, List.length_cons, List.length_nil, List.length_take, List.length_drop, List.length_set, List.length_replicate]; omega))) (fun x hx => ?_)) | (refine ObR.mk _ rfl ?_))) | ((with_reducible refine ObH.f 21 ?_); refine ObH.frn _ (by simp only [List.length_cons, List.length_nil, Nat.reduceAdd]; rfl) [(0,1,0),(0,2,0),(0,3,0),(0,4,0)] (pk0) (by simp) rfl (by simp) ?_) | ((with_reducible refine ObEq.mk ?_); (focus (first | rfl | assumption))) | ((with_reducible refine ObRow.same ?_ ?_ ?_); (focus (first | rfl | assumption)); (focus (first | rfl | assumption | (simp; done)))) | ((with_reducible refine ObRow.lit ?_ ?_); (focus (first | rfl | (simp [rnB, rnC, rnL]; done)))) | ((with_reducible refine ObAs.mk ?_ ?_); (focus (first | rfl | (simp [rnB, rnC, rnL]; done)))) | ((with_reducible refine (?_ : ObRs _ _ _)); (refine ObRs.mk _ rfl ?_)) | ((with_reducible refine ObBk.same ?_ ?_); (focus (first | rfl | assumption | (simp; done)))) | ((with_reducible refine (?_ : ObBk _ _ _)); (refine ObBk.lit [.agg _] rfl ?_)))
  · obtain ⟨e, fa, ht⟩ := turn9n G 0 0 (by omega) old i (a1, a2, a3) (b1, b2, b3) (0, 0, 0) (b1, b2, b3) 1 1 0 (by omega) (by omega)
    have pk0 := pk0 2 fa
    have pk1 := pk1 2 fa
    refine pc_ofV cop4 ?_
    repeat' ((conv => whnf); first | (with_reducible refine SeqP.go ?_) | ((with_reducible refine ObD.mk ?_ ?_); (focus (first | rfl | (simp; done)))) | ((with_reducible refine ObN.mk ?_ ?_); (focus (first | rfl | assumption | omega | (simp only [List.length_map, List.length_append, List.length_cons, List.length_nil]; omega) | (simp; done) | (simp; omega)))) | (with_reducible refine ObT.tt ?_) | (with_reducible refine ObT.ff ?_) | ((with_reducible refine ObB.yes ?_ ?_); (focus (first | assumption | (with_reducible rfl) | omega))) | (with_reducible refine ObZ.mk _ rfl ?_) | ((with_reducible refine (?_ : ObL _ _)); (refine ObL.mk _ (by first | exact l0 | assumption | exact (List.length_map _).trans (by assumption) | exact List.length_map _ | rfl) ?_)) | ((with_reducible refine (?_ : ObR _ _ _)); (first | (refine ObR.mk _ (by assumption) ?_) | (refine ObR.mk _ (by with_reducible rfl) ?_) | (refine ObR.map (by (first | omega | assumption | (simp only [List.length_map, List.length_append, List.length_cons, List.length_nil, List.length_take, List.length_drop, List.length_set, List.length_replicate]; omega))) (fun x hx => ?_)) | (refine ObR.mk _ rfl ?_))) | ((with_reducible refine ObC.f 18 ?_); (first | (with_reducible refine ObC.mk _ (hw) ?_) | (refine ObC.mk _ (hw) ?_))) | ((with_reducible refine ObH.f 17 ?_); refine ObH.frn _ (by simp only [List.length_cons, List.length_nil, Nat.reduceAdd]; rfl) [] (hnew) (by simp) rfl (by simp) ?_) | ((with_reducible refine ObH.f 12 ?_); refine ObH.frn _ (by simp only [List.length_cons, List.length_nil, Nat.reduceAdd]; rfl) [(0,1,0),(0,2,0),(0,3,0),(0,4,0)] (hst) (by simp) rfl (by simp) ?_) | ((with_reducible refine ObRow.same ?_ ?_ ?_); (focus (first | rfl | assumption)); (focus (first | rfl | assumption | (simp; done)))) | ((with_reducible refine ObRow.lit ?_ ?_); (focus (first | rfl | (simp [rnB, rnC, rnL]; done)))) | ((with_reducible refine ObAs.mk ?_ ?_); (focus (first | rfl | (simp [rnB, rnC, rnL]; done)))) | ((with_reducible refine (?_ : ObRs _ _ _)); (refine ObRs.mk _ rfl ?_)) | ((with_reducible refine ObBk.same ?_ ?_); (focus (first | rfl | assumption | (simp; done)))) | ((with_reducible refine (?_ : ObBk _ _ _)); (refine ObBk.lit [.agg _] rfl ?_)) | (with_reducible refine ObE.min ?_))
    conv => whnf
    refine LoopP.go (α := Unit) (fun _ => True) (fun _ => 0) (fun _ => [(6, some (Bo false)), (3, some (I 0)), (0, none), (0, none), (27, none), (0, none), (0, none), (0, none), (0, none), (0, none), (0, none), (0, none), (0, none), (0, none), (0, none), (0, none), (0, none), (0, none), (0, none), (0, none), (0, none), (0, none), (0, none)]) (fun _ => [⟨56, 20, [bA d r i kn ke va mp kd mn ls sz bi old new (a1, a2, a3) (b1, b2, b3)], 0, 0⟩, aS (.nl 11) 0, wR (0, 0, 0) (b1, b2, b3), cR1 1, mR1 1 0]) () trivial (Fg.go ?_ rfl) ?_
    · repeat' ((conv => whnf); first | ((with_reducible refine ObEqs.mk ?_ ?_); (focus rfl)) | ((with_reducible refine ObEq1.i ?_ ?_); (focus (first | (with_reducible rfl) | omega))) | ((with_reducible refine ObEq1.mk ?_ ?_); (focus (first | rfl | assumption))) | exact True.intro)
    rintro ⟨⟩ -
    repeat' ((conv => whnf); first | (with_reducible refine SeqP.go ?_) | ((with_reducible refine ObD.mk ?_ ?_); (focus (first | rfl | (simp; done)))) | ((with_reducible refine ObN.mk ?_ ?_); (focus (first | rfl | assumption | omega | (simp only [List.length_map, List.length_append, List.length_cons, List.length_nil]; omega) | (simp; done) | (simp; omega)))) | (with_reducible refine ObT.tt ?_) | (with_reducible refine ObT.ff ?_) | ((with_reducible refine ObB.no ?_ ?_); (focus (first | assumption | omega))) | ((with_reducible refine ObI.mk ((1025 + ((0 : Nat) : Int))) ?_ ?_ ?_ ?_); (focus omega); (focus omega); (focus omega)) | ((with_reducible refine ObI.mk _ rfl ?_ ?_ ?_); (focus omega); (focus omega)) | ((with_reducible refine (?_ : ObR _ _ _)); (first | (refine ObR.mk _ (by assumption) ?_) | (refine ObR.mk _ (by with_reducible rfl) ?_) | (refine ObR.map (by (first | omega | assumption | (simp only [List.length_map, List.length_append, List.length_cons, List.length_nil, List.length_take, List.length_drop, List.length_set, List.length_replicate]; omega))) (fun x hx => ?_)) | (refine ObR.mk _ rfl ?_))) | ((with_reducible refine ObC.f 20 ?_); (first | (with_reducible refine ObC.mk _ (am) ?_) | (refine ObC.mk _ (am) ?_))) | ((with_reducible refine ObH.f 9 ?_); refine ObH.frn _ (by simp only [List.length_cons, List.length_nil, Nat.reduceAdd]; rfl) [(0,1,0),(0,2,0),(0,3,0),(0,4,0)] (ht) (by simp) rfl (by simp) ?_) | ((with_reducible refine ObRow.same ?_ ?_ ?_); (focus (first | rfl | assumption)); (focus (first | rfl | assumption | (simp; done)))) | ((with_reducible refine ObRow.lit ?_ ?_); (focus (first | rfl | (simp [rnB, rnC, rnL]; done)))) | ((with_reducible refine ObAs.mk ?_ ?_); (focus (first | rfl | (simp [rnB, rnC, rnL]; done)))) | ((with_reducible refine (?_ : ObRs _ _ _)); (refine ObRs.mk _ rfl ?_)) | ((with_reducible refine ObBk.same ?_ ?_); (focus (first | rfl | assumption | (simp; done)))) | ((with_reducible refine (?_ : ObBk _ _ _)); (refine ObBk.lit [.agg _] rfl ?_)))
    conv => whnf
    refine LoopP.go (α := Unit) (fun _ => True) (fun _ => 0) (fun _ => [(6, some (Bo false)), (8, some (I 0)), (0, none), (0, none), (0, none), (75, none), (0, none), (0, none), (0, none), (0, none), (0, none), (0, none), (0, none), (0, none), (0, none), (0, none), (0, none), (0, none), (0, none), (0, none), (0, none), (0, none), (0, none), (0, none), (0, none), (0, none), (0, none), (0, none), (0, none), (0, none), (0, none), (0, none), (0, none), (0, none), (0, none), (0, none), (0, none), (0, none), (0, none), (0, none), (0, none), (0, none), (0, none), (0, none)]) (fun _ => [⟨56, 20, [bA d r i kn ke va mp kd mn ls sz bi old new (a1, a2, a3) (b1, b2, b3)], 0, 0⟩, aS (.nl 11) 0, wR (0, 0, 0) (b1, b2, b3), cR1 1, mR1 2 fa]) () trivial (Fg.go ?_ rfl) ?_
    · repeat' ((conv => whnf); first | ((with_reducible refine ObEqs.mk ?_ ?_); (focus rfl)) | ((with_reducible refine ObEq1.i ?_ ?_); (focus (first | (with_reducible rfl) | omega))) | ((with_reducible refine ObEq1.mk ?_ ?_); (focus (first | rfl | assumption))) | exact True.intro)
    rintro ⟨⟩ -
    repeat' ((conv => whnf); first | ((with_reducible refine ObN.mk ?_ ?_); (focus (first | rfl | assumption | omega | (simp only [List.length_map, List.length_append, List.length_cons, List.length_nil]; omega) | (simp; done) | (simp; omega)))) | ((with_reducible refine ObB.no ?_ ?_); (focus (first | assumption | omega))))
    conv => whnf
    refine SeqP.go ?_
    repeat' ((conv => whnf); first | (with_reducible refine ObT.ff ?_))
    conv => whnf
    refine SeqP.go ?_
    refine V_cut (α := Unit) (fun _ => True) (fun _ => [(19, some (.oa 5 0 0 0)), (0, some (.oa 6 0 0 0)), (112, none), (0, none), (0, none)]) (fun _ => [⟨56, 20, [bA d r i kn ke va mp kd mn ls sz bi old new (a1, a2, a3) (b1, b2, b3)], 0, 0⟩, aS (.nl 11) 0, wR (0, 0, 0) (b1, b2, b3), cR1 1, mR1 2 fa, ⟨42, 3, [.agg [I 0, I 0, I 0]], 0, 0⟩, ⟨42, 3, [.agg [I b1, I b2, I b3]], 0, 0⟩]) ?_ ?_
    · intro K hK
      have hK1 := fun s' H' (h : s'.getD 19 undefA = .oa 5 0 0 0) hf => hK s' H' () trivial hf
      repeat' ((conv => whnf); first | (with_reducible refine ObAnd.mk ?_ ?_) | (with_reducible refine ObDx.each ?_) | ((with_reducible refine ObD.mk ?_ ?_); (focus (first | rfl | (simp; done)))) | ((with_reducible refine ObN.mk ?_ ?_); (focus (first | rfl | assumption | omega | (simp only [List.length_map, List.length_append, List.length_cons, List.length_nil]; omega) | (simp; done) | (simp; omega)))) | ((with_reducible refine (?_ : ObU _ _)); (refine ObU.mk _ (by first | assumption | ((conv => lhs; simp only [List.set_cons_zero, List.set_cons_succ, List.take_succ_cons, List.take_zero, List.drop_succ_cons, List.drop_zero, List.nil_append, List.cons_append, List.append_nil, List.take_nil, List.drop_nil]); try rfl) | rfl) ?_)) | ((with_reducible refine (?_ : ObR _ _ _)); (first | (refine ObR.mk _ (by assumption) ?_) | (refine ObR.mk _ (by with_reducible rfl) ?_) | (refine ObR.map (by (first | omega | assumption | (simp only [List.length_map, List.length_append, List.length_cons, List.length_nil, List.length_take, List.length_drop, List.length_set, List.length_replicate]; omega))) (fun x hx => ?_)) | (refine ObR.mk _ rfl ?_))))
      all_goals conv => whnf
      all_goals first | refine hK1 _ _ rfl (Fg.vw [(0, 0, 0), (0, 1, 0), (0, 2, 0), (0, 3, 0), (0, 4, 0), (0, 5, 0), (0, 6, 0)] ?_ ?_ (by simp) ?_) | refine hK _ _ () trivial (Fg.vw [(0, 0, 0), (0, 1, 0), (0, 2, 0), (0, 3, 0), (0, 4, 0), (0, 6, 0), (0, 5, 0)] ?_ ?_ (by simp) ?_)
      all_goals repeat' ((conv => whnf); first | ((with_reducible refine ObRn.mk ?_ ?_); (focus (simp [rnB, rnC, rnL, rho, lX]; done))) | ((with_reducible refine ObRow.lit ?_ ?_); (focus (simp [rnB, rnC, rnL, AV.cells, rho, lX]; done))) | ((with_reducible refine ObN.mk ?_ ?_); (focus (first | rfl | assumption | omega | (simp only [List.length_map, List.length_append, List.length_cons, List.length_nil]; omega) | (simp; done) | (simp; omega)))) | ((with_reducible refine ObEqs.mk ?_ ?_); (focus rfl)) | exact True.intro)
    · rintro ⟨⟩ -
      repeat' ((conv => whnf); first | (with_reducible refine SeqP.go ?_) | exact SameP.mk rfl rfl | (with_reducible refine ObAnd.mk ?_ ?_) | (with_reducible refine ObDx.same ?_) | ((with_reducible refine (?_ : ObH _ _ 21 [_, I 1] _ _)); (refine ObH.frn _ (by simp only [List.length_cons, List.length_nil, Nat.reduceAdd]; rfl) [(0,1,0),(0,2,0),(0,3,0),(0,4,0)] pk1 (by simp) rfl (by simp) ?_)) | ((with_reducible refine ObD.mk ?_ ?_); (focus (first | rfl | (simp; done)))) | ((with_reducible refine ObN.mk ?_ ?_); (focus (first | rfl | assumption | omega | (simp only [List.length_map, List.length_append, List.length_cons, List.length_nil]; omega) | (simp; done) | (simp; omega)))) | (with_reducible refine ObT.tt ?_) | (with_reducible refine ObT.ff ?_) | ((with_reducible refine ObB.yes ?_ ?_); (focus (first | assumption | (with_reducible rfl) | omega | (exact ⟨rfl, rfl, rfl, trivial⟩)))) | ((with_reducible refine (?_ : ObR _ _ _)); (first | (refine ObR.mk _ (by assumption) ?_) | (refine ObR.mk _ (by with_reducible rfl) ?_) | (refine ObR.map (by (first | omega | assumption | (simp only [List.length_map, List.length_append, List.length_cons, List.length_nil, List.length_take, List.length_drop, List.length_set, List.length_replicate]; omega))) (fun x hx => ?_)) | (refine ObR.mk _ rfl ?_))) | ((with_reducible refine ObH.f 21 ?_); refine ObH.frn _ (by simp only [List.length_cons, List.length_nil, Nat.reduceAdd]; rfl) [(0,1,0),(0,2,0),(0,3,0),(0,4,0)] (pk0) (by simp) rfl (by simp) ?_) | ((with_reducible refine ObEq.mk ?_); (focus (first | rfl | assumption))) | ((with_reducible refine ObRow.same ?_ ?_ ?_); (focus (first | rfl | assumption)); (focus (first | rfl | assumption | (simp; done)))) | ((with_reducible refine ObRow.lit ?_ ?_); (focus (first | rfl | (simp [rnB, rnC, rnL]; done)))) | ((with_reducible refine ObAs.mk ?_ ?_); (focus (first | rfl | (simp [rnB, rnC, rnL]; done)))) | ((with_reducible refine (?_ : ObRs _ _ _)); (refine ObRs.mk _ rfl ?_)) | ((with_reducible refine ObBk.same ?_ ?_); (focus (first | rfl | assumption | (simp; done)))) | ((with_reducible refine (?_ : ObBk _ _ _)); (refine ObBk.lit [.agg _] rfl ?_)))
theorem word_inv' {cs : List AV} (h : ShC Try.prog 42 cs) : ∃ w : Wd, cs = [I w.1, I w.2.1, I w.2.2] := by
  obtain ⟨p0, q, rfl, hp0, h⟩ := (h.flds (ts := [27, 3, 3]) (by kernel_rfl)).cons
  obtain ⟨p1, q, rfl, hp1, h⟩ := h.cons
  obtain ⟨p2, q, rfl, hp2, h⟩ := h.cons
  obtain rfl := h.nil
  obtain ⟨a, rfl, _⟩ := hp0.i64_inv (by kernel_rfl)
  obtain ⟨b, rfl, _⟩ := hp1.i64_inv (by kernel_rfl)
  obtain ⟨c, rfl, _⟩ := hp2.i64_inv (by kernel_rfl)
  exact ⟨(a, b, c), rfl⟩
theorem node_inv' {cs : List AV} (h : ShC Try.prog 35 cs) : ∃ (kn : Int) (ke va : ByteArray) (mp : Int) (kd : List AV) (mn : Int) (ls : List AV) (sz bi : Int), cs = [I kn, S ke, S va, .v (.int .u32 mp), .sl 1 kd, I mn, .sl 2 ls, I sz, I bi] := by
  have e3 : (Try.prog).cellsOf 27 = 1 := by kernel_rfl
  have e4 : (Try.prog).cellsOf 75 = 2 := by kernel_rfl
  obtain ⟨p0, q, rfl, hp0, h⟩ := (h.flds (ts := [3, 9, 9, 31, 32, 27, 33, 3, 3]) (by kernel_rfl)).cons
  obtain ⟨p1, q, rfl, hp1, h⟩ := h.cons
  obtain ⟨p2, q, rfl, hp2, h⟩ := h.cons
  obtain ⟨p3, q, rfl, hp3, h⟩ := h.cons
  obtain ⟨p4, q, rfl, hp4, h⟩ := h.cons
  obtain ⟨p5, q, rfl, hp5, h⟩ := h.cons
  obtain ⟨p6, q, rfl, hp6, h⟩ := h.cons
  obtain ⟨p7, q, rfl, hp7, h⟩ := h.cons
  obtain ⟨p8, q, rfl, hp8, h⟩ := h.cons
  obtain rfl := h.nil
  obtain ⟨kn, rfl, _⟩ := hp0.i64_inv (by kernel_rfl)
  obtain ⟨ke, rfl, hke⟩ := hp1.str_inv u_str
  obtain ⟨va, rfl, hva⟩ := hp2.str_inv u_str
  obtain ⟨mp, rfl, _⟩ := hp3.u32_inv (by kernel_rfl)
  obtain ⟨css, rfl, hk, hkk⟩ := hp4.slice_inv (e := 27) (by kernel_rfl)
  obtain ⟨mn, rfl, _⟩ := hp5.i64_inv (by kernel_rfl)
  obtain ⟨dss, rfl, hl, hll⟩ := hp6.slice_inv (e := 75) (by kernel_rfl)
  obtain ⟨sz, rfl, _⟩ := hp7.i64_inv (by kernel_rfl)
  obtain ⟨bi, rfl, _⟩ := hp8.i64_inv (by kernel_rfl)
  rw [e3, e4]
  exact ⟨kn, ke, va, mp, _, mn, _, sz, bi, rfl⟩
theorem u8_inv' {cs : List AV} (h : ShC Try.prog 5 cs) : ∃ x : {x : Nat // x ≤ 255}, cs = [u8A x.1] := by
  obtain ⟨b, rfl, hb0, hb1⟩ := h.u8_inv (by kernel_rfl)
  obtain ⟨b, rfl⟩ := Int.eq_ofNat_of_zero_le hb0
  exact ⟨⟨b, by omega⟩, rfl⟩
theorem MemSwings_calls (as0 as1 as2 : List AV) (s0 : ShC Try.prog 54 as0) (s1 : ShC Try.prog 56 as1) (s2 : ShC Try.prog 4 as2) : PC Try.prog (fun _ => .unk) 4 [mkE (isAggT Try.prog 54) as0, mkE (isAggT Try.prog 56) as1, mkE (isAggT Try.prog 4) as2] (Bo true) := by
  obtain ⟨css, rfl, hl, hh⟩ := s0.slice_inv (e := 5) (by kernel_rfl)
  obtain ⟨l, rfl⟩ := pick_list (f := fun x : {x : Nat // x ≤ 255} => [u8A x.1]) (fun cs h => u8_inv' h) css hh
  obtain ⟨p0, q, rfl, hp0, h⟩ := (s1.flds (ts := [3, 3, 3, 35, 3, 3, 42, 42]) (by kernel_rfl)).cons
  obtain ⟨p1, q, rfl, hp1, h⟩ := h.cons
  obtain ⟨p2, q, rfl, hp2, h⟩ := h.cons
  obtain ⟨p3, q, rfl, hp3, h⟩ := h.cons
  obtain ⟨p4, q, rfl, hp4, h⟩ := h.cons
  obtain ⟨p5, q, rfl, hp5, h⟩ := h.cons
  obtain ⟨p6, q, rfl, hp6, h⟩ := h.cons
  obtain ⟨p7, q, rfl, hp7, h⟩ := h.cons
  obtain rfl := h.nil
  obtain ⟨d, rfl, _⟩ := hp0.i64_inv (by kernel_rfl)
  obtain ⟨r, rfl, _⟩ := hp1.i64_inv (by kernel_rfl)
  obtain ⟨i, rfl, _⟩ := hp2.i64_inv (by kernel_rfl)
  obtain ⟨kn, ke, va, mp, kd, mn, ls, sz, bi, rfl⟩ := node_inv' hp3
  obtain ⟨old, rfl, _⟩ := hp4.i64_inv (by kernel_rfl)
  obtain ⟨new, rfl, _⟩ := hp5.i64_inv (by kernel_rfl)
  obtain ⟨a, rfl⟩ := word_inv' hp6
  obtain ⟨b, rfl⟩ := word_inv' hp7
  obtain ⟨turn, rfl⟩ := s2.bool_inv (by kernel_rfl)
  have e1 : isAggT Try.prog 54 = false := by kernel_rfl
  have e2 : isAggT Try.prog 56 = true := by kernel_rfl
  have e3 : isAggT Try.prog 4 = false := by kernel_rfl
  have e4 : isAggT Try.prog 5 = false := by kernel_rfl
  have e5 : (Try.prog).cellsOf 5 = 1 := by kernel_rfl
  have e6 : (List.map (fun x : {x : Nat // x ≤ 255} => [u8A x.1]) l).map (mkE (isAggT Try.prog 5)) = (l.map Subtype.val).map u8A := by rw [e4, List.map_map, List.map_map]; rfl
  rw [e1, e2, e3, e6, e5]
  cases hle : l with
  | nil => exact swings0 _ turn d r i kn ke va mp kd mn ls sz bi old new a b
  | cons x t =>
    have hll : (l.map Subtype.val).length ≤ 9223372036854775807 := by simpa using hl
    rw [← hle]
    exact swings _ (l.map Subtype.val) hll (fun y hy => by obtain ⟨q, _, rfl⟩ := List.mem_map.1 hy; exact q.2) (by rw [hle]; simp) turn d r i kn ke va mp kd mn ls sz bi old new a b
end Go.Proofs.Ytdlamhjfnkkclaa.Sim
