/- Scripts: the document's reading of numbers and texts. -/
import Derived.Test.YtgcnbbjapapnjaaDoorScC
namespace Go.Proofs.YtgcnbbjapapnjaaDoor.Sim
open Go.RowKit
set_option maxRecDepth 100000
set_option linter.unusedSimpArgs false
set_option linter.unusedVariables false
theorem drop_at {B : List UInt8} {a : Nat} (h : a < B.length) : B.drop a = B.getD a 0 :: B.drop (nx B a) := by
  rw [show nx B a = a + 1 by unfold nx; omega, List.getD_eq_getElem?_getD, List.getElem?_eq_getElem h]
  exact List.drop_eq_getElem_cons h
theorem drop_no {B : List UInt8} {a : Nat} (h : B.length ≤ a) : B.drop a = [] ∧ B.drop (nx B a) = [] := by
  unfold nx
  exact ⟨List.drop_of_length_le h, List.drop_of_length_le (by omega)⟩
theorem tx_take {B : List UInt8} {a n : Nat} (ha : a ≤ B.length) : prt B a n = (B.drop a).take (min n (B.drop a).length) := by
  unfold prt
  rw [List.length_drop, List.drop_take]
  congr 1
  omega
section
variable (G : Nat → AV)
set_option maxHeartbeats 4000000 in
theorem o23 (B : List UInt8) (a : Nat) (ha : a ≤ B.length) (hB : B.length ≤ 1000000) : PC Tryd.prog G 23 [.sl 1 ((B.drop a).map uA)] (.tup [I (nB B a), .sl 1 ((B.drop (nx B a)).map uA)]) := by
  refine pc_ofV cop23 ?_
  by_cases h : a < B.length
  · rw [drop_at h]
    have hb := nB_lt B a
    have hl : (B.drop (nx B a)).length ≤ 1000000 := by rw [List.length_drop]; omega
    unfold nB at hb ⊢
    generalize B.getD a 0 = u at *
    generalize B.drop (nx B a) = R at *
    have e1 : (u :: R).map uA = .v (.int .u8 (u.toNat : Int)) :: R.map uA := rfl
    have l1 : (AV.v (.int .u8 (u.toNat : Int)) :: R.map uA).length = R.length + 1 := by simp
    have u1 : ((AV.v (.int .u8 (u.toNat : Int)) :: R.map uA).take (AV.v (.int .u8 (u.toNat : Int)) :: R.map uA).length).drop 1 = R.map uA := by
      rw [List.take_of_length_le (by simp)]; rfl
    rw [e1]
    repeat' ((conv => whnf); first | (with_reducible refine SeqP.go ?_) | ((with_reducible refine (?_ : ObE _ _)); refine ObE.of (congrArg (Option.map fun x => (x, _)) (cvb hb)) ?_) | ((with_reducible refine ObD.mk ?_ ?_); (focus (first | rfl | (simp; done)))) | ((with_reducible refine ObN.mk ?_ ?_); (focus (first | rfl | assumption | omega | (simp only [List.length_map, List.length_append, List.length_cons, List.length_nil]; omega) | (simp; done) | (simp; omega)))) | (with_reducible refine ObT.ff ?_) | ((with_reducible refine ObB.no ?_ ?_); (focus (first | assumption | omega))) | ((with_reducible refine ObX.mk _ rfl ?_ ?_); (focus (first | omega | assumption | (simp only [List.length_map, List.length_append, List.length_cons, List.length_nil, List.length_take, List.length_drop, List.length_set, List.length_replicate]; omega)))) | ((with_reducible refine (?_ : ObL _ _)); (refine ObL.mk _ (by first | exact l1 | assumption | exact (List.length_map _).trans (by assumption) | exact List.length_map _ | rfl) ?_)) | ((with_reducible refine (?_ : ObU _ _)); (refine ObU.mk _ (by first | exact u1 | assumption | ((conv => lhs; simp only [List.set_cons_zero, List.set_cons_succ, List.take_succ_cons, List.take_zero, List.drop_succ_cons, List.drop_zero, List.nil_append, List.cons_append, List.append_nil, List.take_nil, List.drop_nil]); try rfl) | rfl) ?_)) | ((with_reducible refine (?_ : ObR _ _ _)); (first | (refine ObR.mk _ (by assumption) ?_) | (refine ObR.mk _ (by with_reducible rfl) ?_) | (refine ObR.map (by (first | omega | assumption | (simp only [List.length_map, List.length_append, List.length_cons, List.length_nil, List.length_take, List.length_drop, List.length_set, List.length_replicate]; omega))) (fun x hx => ?_)) | (refine ObR.mk _ rfl ?_))) | ((with_reducible refine ObJ.lz ?_ ?_); (focus (first | omega | assumption | (simp only [List.length_map, List.length_append, List.length_cons, List.length_nil, List.length_take, List.length_drop, List.length_set, List.length_replicate]; omega)))) | ((with_reducible refine ObEq.mk ?_); (focus (first | rfl | assumption))))
  · have hx := drop_no (B := B) (a := a) (by omega)
    rw [hx.1, hx.2, nB_nil (by omega)]
    have e1 : List.map uA [] = [] := rfl
    have l1 : ([] : List AV).length = 0 := rfl
    rw [e1]
    repeat' ((conv => whnf); first | (with_reducible refine SeqP.go ?_) | ((with_reducible refine ObN.mk ?_ ?_); (focus (first | rfl | assumption | omega | (simp only [List.length_map, List.length_append, List.length_cons, List.length_nil]; omega) | (simp; done) | (simp; omega)))) | (with_reducible refine ObT.tt ?_) | ((with_reducible refine ObB.yes ?_ ?_); (focus (first | assumption | (with_reducible rfl) | omega))) | ((with_reducible refine (?_ : ObL _ _)); (refine ObL.mk _ (by first | exact l1 | assumption | exact (List.length_map _).trans (by assumption) | exact List.length_map _ | rfl) ?_)) | ((with_reducible refine ObEq.mk ?_); (focus (first | rfl | assumption))))
set_option maxHeartbeats 4000000 in
theorem t25 (B : List UInt8) (a : Nat) (ha : a ≤ B.length) (hB : B.length ≤ 1000000) : PC Tryd.prog G 25 [.sl 1 ((B.drop a).map uA)] (.tup [S (strB (txB B a)), .sl 1 ((B.drop (aT B a)).map uA)]) := by
  have c := o23 G B a ha hB
  refine pc_ofV cop25 ?_
  have hb := nB_lt B a
  have le := nx_le B a
  have e1 : txB B a = (B.drop (nx B a)).take (min (nB B a % 17) (B.drop (nx B a)).length) := tx_take (n := nB B a % 17) le
  have e2 : B.drop (aT B a) = (B.drop (nx B a)).drop (min (nB B a % 17) (B.drop (nx B a)).length) := by
    rw [List.drop_drop, List.length_drop]
    congr 1
    show min (nx B a + nB B a % 17) B.length = _
    omega
  rw [e1, e2]
  have hl : (B.drop (nx B a)).length ≤ 1000000 := by rw [List.length_drop]; omega
  have em : ((nB B a : Nat) : Int).tmod 17 = ((nB B a % 17 : Nat) : Int) := by rw [Int.tmod_eq_emod_of_nonneg (by omega)]; omega
  generalize nB B a % 17 = n at *
  generalize B.drop (nx B a) = R at *
  obtain ⟨k, hk⟩ : ∃ k, k = min n R.length := ⟨_, rfl⟩
  rw [← hk]
  have hkl : k ≤ R.length := by omega
  have l1 : (R.map uA).length = R.length := by simp
  have en : (if (R.length : Int) < (n : Int) then (R.length : Int) else (n : Int)) = (k : Int) := by split <;> omega
  have u1 : ((R.map uA).take k).drop 0 = (R.take k).map uA := by rw [List.drop_zero, List.map_take]
  have u2 : ((R.map uA).take (R.map uA).length).drop k = (R.drop k).map uA := by rw [List.take_of_length_le (by simp), List.map_drop]
  have e := sob_u [] (R.take k)
  repeat' ((conv => whnf); first | (with_reducible refine SeqP.go ?_) | exact SameP.mk rfl rfl | (with_reducible refine ObAnd.mk ?_ ?_) | (with_reducible refine ObDx.same ?_) | (rw [em]) | (rw [en]) | ((with_reducible refine (?_ : ObE _ _)); refine ObE.of (congrArg (Option.map fun x => (x, _)) e) ?_) | ((with_reducible refine ObD.mk ?_ ?_); (focus (first | rfl | (simp; done)))) | ((with_reducible refine ObN.mk ?_ ?_); (focus (first | rfl | assumption | omega | (simp only [List.length_map, List.length_append, List.length_cons, List.length_nil]; omega) | (simp; done) | (simp; omega)))) | (with_reducible refine ObZ.mk _ rfl ?_) | ((with_reducible refine (?_ : ObL _ _)); (refine ObL.mk _ (by first | exact l1 | assumption | exact (List.length_map _).trans (by assumption) | exact List.length_map _ | rfl) ?_)) | ((with_reducible refine (?_ : ObU _ _)); (refine ObU.mk _ (by first | exact u1 | exact u2 | assumption | ((conv => lhs; simp only [List.set_cons_zero, List.set_cons_succ, List.take_succ_cons, List.take_zero, List.drop_succ_cons, List.drop_zero, List.nil_append, List.cons_append, List.append_nil, List.take_nil, List.drop_nil]); try rfl) | rfl) ?_)) | ((with_reducible refine ObC.f 23 ?_); (first | (with_reducible refine ObC.mk _ (c) ?_) | (refine ObC.mk _ (c) ?_))) | ((with_reducible refine ObJ.nz ?_ ?_); (focus (first | omega | assumption | (simp only [List.length_map, List.length_append, List.length_cons, List.length_nil, List.length_take, List.length_drop, List.length_set, List.length_replicate]; omega)))) | ((with_reducible refine ObJ.zn ?_ ?_); (focus (first | omega | assumption | (simp only [List.length_map, List.length_append, List.length_cons, List.length_nil, List.length_take, List.length_drop, List.length_set, List.length_replicate]; omega)))) | ((with_reducible refine ObEq.mk ?_); (focus (first | rfl | assumption))) | (with_reducible refine ObE.min ?_))
end
end Go.Proofs.YtgcnbbjapapnjaaDoor.Sim
