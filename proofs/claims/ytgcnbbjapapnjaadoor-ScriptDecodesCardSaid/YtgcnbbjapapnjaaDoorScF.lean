/- Scripts: the law that Decode reads bytes as the document does. -/
import Derived.Test.YtgcnbbjapapnjaaDoorScE
import Derived.Test.YtgcnbbjapapnjaaDoorSimTb
import Derived.Test.YtgcnbbjapapnjaaDoorSimVn
namespace Go.Proofs.YtgcnbbjapapnjaaDoor.Sim
open Go.RowKit
set_option maxRecDepth 100000
set_option linter.unusedSimpArgs false
set_option linter.unusedVariables false
set_option maxHeartbeats 0 in
theorem wk11 : PC Tryd.prog tabG 11 [] (Bo true) := runsN_true (n := 3000) (hs := [20,21,22]) (TM.ok_all mmn) (by kernel_rfl)
theorem tab_us : tabG 0 = .ad 56 [.agg usV] 0 0 := by kernel_rfl
section
variable (G : Nat → AV)
set_option maxHeartbeats 4000000 in
theorem by12 (b : List UInt8) (hb : b.length ≤ 9223372036854775807) : PC Tryd.prog G 12 [.sl 1 (b.map uA)] (.sl 1 ((b.take 20000).map uA)) := by
  have hl : (b.map uA).length = b.length := by simp
  refine pc_ofV cop12 ?_
  obtain ⟨k, hk⟩ : ∃ k, k = min b.length 20000 := ⟨_, rfl⟩
  have en : (if (20000 : Int) < (b.length : Int) then (20000 : Int) else (b.length : Int)) = (k : Int) := by split <;> omega
  have hk1 : k ≤ b.length := by omega
  have u1 : ((b.map uA).take k).drop 0 = (b.take 20000).map uA := by
    rw [List.drop_zero, ← List.map_take, hk]
    congr 1
    rcases Nat.le_total b.length 20000 with h | h
    · rw [Nat.min_eq_left h, List.take_of_length_le (Nat.le_refl _), List.take_of_length_le h]
    · rw [Nat.min_eq_right h]
  have l2 : ((b.take 20000).map uA).length = k := by simp; omega
  have na : ((b.take 20000).map uA).take (0 + ((b.take 20000).map uA).length) = (b.take 20000).map uA := List.take_of_length_le (by omega)
  repeat' ((conv => whnf); first | (with_reducible refine SeqP.go ?_) | (rw [en]) | ((with_reducible refine ObD.mk ?_ ?_); (focus (first | rfl | (simp; done)))) | ((with_reducible refine ObN.mk ?_ ?_); (focus (first | exact (by rw [na]; exact p_u _) | exact (p_u _) | rfl | assumption | omega | (simp only [List.length_map, List.length_append, List.length_cons, List.length_nil]; omega) | (simp; done) | (simp; omega)))) | (with_reducible refine ObZ.mk _ rfl ?_) | ((with_reducible refine (?_ : ObL _ _)); (refine ObL.mk _ (by first | exact hl | exact l2 | assumption | exact (List.length_map _).trans (by assumption) | exact List.length_map _ | rfl) ?_)) | ((with_reducible refine (?_ : ObU _ _)); (refine ObU.mk _ (by first | exact u1 | assumption | ((conv => lhs; simp only [List.set_cons_zero, List.set_cons_succ, List.take_succ_cons, List.take_zero, List.drop_succ_cons, List.drop_zero, List.nil_append, List.cons_append, List.append_nil, List.take_nil, List.drop_nil]); try rfl) | rfl) ?_)) | ((with_reducible refine ObJ.zn ?_ ?_); (focus (first | omega | assumption | (simp only [List.length_map, List.length_append, List.length_cons, List.length_nil, List.length_take, List.length_drop, List.length_set, List.length_replicate]; omega)))) | ((with_reducible refine ObEq.mk ?_); (focus (first | rfl | assumption | exact (by rw [na])))) | (with_reducible refine ObE.min ?_))
set_option maxHeartbeats 4000000 in
theorem sm10 (l : List En) (hl : l.length ≤ 5000) : PC Tryd.prog G 10 [.sl 6 (l.map enA), .sl 6 (l.map enA)] (Bo true) := by
  have ll : (l.map enA).length = l.length := by simp
  refine pc_ofV cop10 ?_
  repeat' ((conv => whnf); first | (with_reducible refine SeqP.go ?_) | ((with_reducible refine ObN.mk ?_ ?_); (focus (first | rfl | assumption | omega | (simp only [List.length_map, List.length_append, List.length_cons, List.length_nil]; omega) | (simp; done) | (simp; omega)))) | (with_reducible refine ObT.ff ?_) | ((with_reducible refine ObB.yes ?_ ?_); (focus (first | assumption | (with_reducible rfl) | omega))) | ((with_reducible refine (?_ : ObL _ _)); (refine ObL.mk _ (by first | exact ll | assumption | exact (List.length_map _).trans (by assumption) | exact List.length_map _ | rfl) ?_)))
  conv => whnf
  refine LoopP.go (α := Nat) (fun p => p ≤ l.length) (fun p => l.length - p) (fun p => [(4, some (Bo false)), (0, some (I p)), (5, none), (0, none), (0, none), (0, none), (0, none), (0, none), (0, none), (0, none), (0, none), (0, none), (0, none), (0, none), (0, none), (0, none), (0, none)]) (fun p => []) 0 (Nat.zero_le _) (Fg.go ?_ rfl) ?_
  · repeat' ((conv => whnf); first | ((with_reducible refine ObEqs.mk ?_ ?_); (focus rfl)) | ((with_reducible refine ObEq1.i ?_ ?_); (focus (first | (with_reducible rfl) | omega))) | ((with_reducible refine ObEq1.mk ?_ ?_); (focus (first | rfl | assumption))) | exact True.intro)
  rintro i h1
  by_cases hi : i < l.length
  · have hat : (l.map enA)[i]? = some (enA l[i]) := by rw [List.getElem?_map, List.getElem?_eq_getElem hi]; rfl
    generalize l[i] = e at hat
    obtain ⟨t, op, k, v, o, hh⟩ := e
    unfold enA at hat
    dsimp only at hat
    repeat' ((conv => whnf); first | (with_reducible refine SeqP.go ?_) | ((with_reducible refine ObD.mk ?_ ?_); (focus (first | rfl | (simp; done)))) | ((with_reducible refine ObN.mk ?_ ?_); (focus (first | rfl | assumption | omega | (simp only [List.length_map, List.length_append, List.length_cons, List.length_nil]; omega) | (simp; done) | (simp; omega)))) | (with_reducible refine ObT.tt ?_) | (with_reducible refine ObT.ff ?_) | ((with_reducible refine ObB.yes ?_ ?_); (focus (first | assumption | (with_reducible rfl) | omega))) | (with_reducible refine ObB.mk (fun h => ?_) (fun h => ?_)) | ((with_reducible refine ObI.nl ?_ ?_); (focus omega)) | ((with_reducible refine ObX.mk _ rfl ?_ ?_); (focus (first | omega | assumption | (simp only [List.length_map, List.length_append, List.length_cons, List.length_nil, List.length_take, List.length_drop, List.length_set, List.length_replicate]; omega)))) | ((with_reducible refine (?_ : ObL _ _)); (refine ObL.mk _ (by first | exact ll | assumption | exact (List.length_map _).trans (by assumption) | exact List.length_map _ | rfl) ?_)) | ((with_reducible refine (?_ : ObR _ _ _)); (first | (refine ObR.mk _ (by assumption) ?_) | (refine ObR.mk _ (by exact hat) ?_) | (refine ObR.mk _ (by with_reducible rfl) ?_) | (refine ObR.map (by (first | omega | assumption | (simp only [List.length_map, List.length_append, List.length_cons, List.length_nil, List.length_take, List.length_drop, List.length_set, List.length_replicate]; omega))) (fun x hx => ?_)) | (refine ObR.mk _ rfl ?_))))
    · conv => whnf
      refine Again.mk (i + 1) ?_ ?_ (Fg.go ?_ rfl)
      · show i + 1 ≤ l.length; omega
      · show l.length - (i + 1) < l.length - i; omega
      · repeat' ((conv => whnf); first | ((with_reducible refine ObEqs.mk ?_ ?_); (focus rfl)) | ((with_reducible refine ObEq1.i ?_ ?_); (focus (first | (with_reducible rfl) | omega))) | ((with_reducible refine ObEq1.mk ?_ ?_); (focus (first | rfl | assumption))) | exact True.intro)
    · exact (h ⟨rfl, rfl, rfl, rfl, rfl, rfl, trivial⟩).elim
  · repeat' ((conv => whnf); first | (with_reducible refine SeqP.go ?_) | ((with_reducible refine ObN.mk ?_ ?_); (focus (first | rfl | assumption | omega | (simp only [List.length_map, List.length_append, List.length_cons, List.length_nil]; omega) | (simp; done) | (simp; omega)))) | (with_reducible refine ObT.ff ?_) | ((with_reducible refine ObB.no ?_ ?_); (focus (first | assumption | omega))) | ((with_reducible refine (?_ : ObL _ _)); (refine ObL.mk _ (by first | exact ll | assumption | exact (List.length_map _).trans (by assumption) | exact List.length_map _ | rfl) ?_)) | ((with_reducible refine ObEq.mk ?_); (focus (first | rfl | assumption))))
theorem decB_len (B : List UInt8) : ∀ n a, (decB B n a).length ≤ n
  | 0, a => Nat.le_refl _
  | n + 1, a => by
    unfold decB
    split
    · have := decB_len B n (enB B a).2
      rw [List.length_cons]; omega
    · exact Nat.zero_le _
set_option maxHeartbeats 4000000 in
theorem sd4 (b : List UInt8) (hb : b.length ≤ 9223372036854775807) : PC Tryd.prog tabG 4 [.sl 1 (b.map uA)] (Bo true) := by
  have hl : (b.take 20000).length ≤ 20000 := by rw [List.length_take]; omega
  have c1 := by12 tabG b hb
  have c2 := by12 tabG (b.take 20000) (by omega)
  rw [List.take_take, Nat.min_self] at c2
  have c3 := dec13 tabG tab_us (b.take 20000) (by omega)
  have c4 := dec14 tabG (b.take 20000) (by omega)
  have c5 := sm10 tabG (dec (b.take 20000)) (decB_len _ _ _)
  have c6 := wk11
  refine pc_ofV cop4 ?_
  repeat' ((conv => whnf); first | (with_reducible refine SeqP.go ?_) | (with_reducible refine ObT.tt ?_) | ((with_reducible refine ObC.f 12 ?_); (first | (with_reducible refine ObC.mk _ (c1) ?_) | (refine ObC.mk _ (c1) ?_))) | ((with_reducible refine ObC.f 12 ?_); (first | (with_reducible refine ObC.mk _ (c2) ?_) | (refine ObC.mk _ (c2) ?_))) | ((with_reducible refine ObC.f 13 ?_); (first | (with_reducible refine ObC.mk _ (c3) ?_) | (refine ObC.mk _ (c3) ?_))) | ((with_reducible refine ObC.f 14 ?_); (first | (with_reducible refine ObC.mk _ (c4) ?_) | (refine ObC.mk _ (c4) ?_))) | ((with_reducible refine ObC.f 10 ?_); (first | (with_reducible refine ObC.mk _ (c5) ?_) | (refine ObC.mk _ (c5) ?_))) | ((with_reducible refine ObC.f 11 ?_); (first | (with_reducible refine ObC.mk _ (c6) ?_) | (refine ObC.mk _ (c6) ?_))) | ((with_reducible refine ObEq.mk ?_); (focus (first | rfl | assumption))))
theorem u8_inv2 {cs : List AV} (h : ShC Tryd.prog 5 cs) : ∃ x : UInt8, cs = [uA x] := by
  obtain ⟨b, rfl, hb0, hb1⟩ := h.u8_inv (by kernel_rfl)
  obtain ⟨b, rfl⟩ := Int.eq_ofNat_of_zero_le hb0
  refine ⟨UInt8.ofNat b, ?_⟩
  have : (UInt8.ofNat b).toNat = b := by rw [UInt8.toNat_ofNat']; omega
  unfold uA
  rw [this]
theorem ScriptDecodes_calls (as0 : List AV) (s0 : ShC Tryd.prog 24 as0) : PC Tryd.prog tabG 4 [mkE (isAggT Tryd.prog 24) as0] (Bo true) := by
  obtain ⟨css, rfl, hl, hh⟩ := s0.slice_inv (e := 5) (by kernel_rfl)
  obtain ⟨l, rfl⟩ := pick_list (f := fun x : UInt8 => [uA x]) (fun cs h => u8_inv2 h) css hh
  have e1 : isAggT Tryd.prog 24 = false := by kernel_rfl
  have e3 : isAggT Tryd.prog 5 = false := by kernel_rfl
  have e4 : (Tryd.prog).cellsOf 5 = 1 := by kernel_rfl
  have e5 : (List.map (fun x : UInt8 => [uA x]) l).map (mkE (isAggT Tryd.prog 5)) = l.map uA := by rw [e3, List.map_map]; rfl
  rw [e1, e5, e4]
  exact sd4 l (by simpa using hl)
end
end Go.Proofs.YtgcnbbjapapnjaaDoor.Sim
