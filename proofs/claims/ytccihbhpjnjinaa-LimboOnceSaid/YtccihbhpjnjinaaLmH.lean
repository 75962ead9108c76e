/- Lists of retired nodes: what is split is as the document says. -/
import Derived.Test.YtccihbhpjnjinaaLmG
namespace Go.Proofs.Ytccihbhpjnjinaa.Sim
open Go.RowKit
set_option maxRecDepth 100000
set_option linter.unusedSimpArgs false
set_option linter.unusedVariables false
theorem sK_items {vs es : List Int} {l : List Gr} {n : Nat} (h : ∀ g ∈ l, g.2.2.length ≤ n) : ∀ g ∈ sK vs es l, g.2.2.length ≤ n := by
  intro g hg
  simp only [sK, List.mem_flatMap, keepG] at hg
  obtain ⟨x, hx, hg⟩ := hg
  split at hg
  · cases hg
  · simp only [List.mem_singleton] at hg
    subst hg
    exact Nat.le_trans (rest_len _ _ _ _ _) (h x hx)
theorem min20 {n : Nat} : (if (20 : Int) < (n : Int) then (20 : Int) else (n : Int)) = ((min n 20 : Nat) : Int) := by split <;> omega
theorem tk_min {l : List Int} : ((l.map iA).take (min l.length 20)).drop 0 = (l.take 20).map iA := by
  rw [List.drop_zero, List.map_take]
  rcases Nat.lt_or_ge 20 l.length with h | h
  · rw [Nat.min_eq_right (by omega)]
  · rw [Nat.min_eq_left h, List.take_of_length_le (by simp), List.take_of_length_le (by simpa using h)]
theorem tk_len (l : List Int) : (l.take 20).length ≤ 20 := by rw [List.length_take]; omega
set_option maxHeartbeats 4000000 in
theorem splits (G : Nat → AV) (l : List Gr) (v e : List Int) (hl : l.length ≤ 9223372036854775807) (hg : ∀ g ∈ l, g.2.2.length ≤ 9223372036854775807) (hv : v.length ≤ 9223372036854775807) (he : e.length ≤ 9223372036854775807) : PC Try.prog G 3 [.sl 3 (l.map grA), .sl 1 (v.map iA), .sl 1 (e.map iA)] (Bo true) := by
  have hv20 := tk_len v
  have he20 := tk_len e
  have hL := fewG_len l
  have hI := fewG_items l
  have c7v := ints7 G (v.take 20) (by omega)
  have c7e := ints7 G (e.take 20) (by omega)
  have c9 := give9 G l hl hg
  have c8 := split8 G (fewG l) (v.take 20) (e.take 20) (by omega) (by omega) (by omega) (fun g h => by have := hI g h; omega)
  have c10 := split10 G (fewG l) (v.take 20) (e.take 20) (by omega) (by omega) (by omega) (fun g h => by have := hI g h; omega)
  have c11 := back11 G (fewG l) (by omega) (fun g h => by have := hI g h; omega)
  have hk := sK_items (vs := v.take 20) (es := e.take 20) hI
  have hkl := sK_len (v.take 20) (e.take 20) (fewG l)
  have hfl := sF_len (vs := v.take 20) (es := e.take 20) (l := fewG l) (fun g h => by have := hI g h; omega)
  have c11' := back11 G (sK (v.take 20) (e.take 20) (fewG l)) (by omega) (fun g h => by have := hk g h; omega)
  have c12 := refs12 G (sF (v.take 20) (e.take 20) (fewG l)) (by omega)
  have c13 := same13 G (sK (v.take 20) (e.take 20) (fewG l)) (by omega) (fun g h => by have := hk g h; omega)
  have c14 := count14 G (fewG l) (by omega) (fun g h => by have := hI g h; omega)
  have c15 := works G
  generalize sK (v.take 20) (e.take 20) (fewG l) = K at *
  generalize sF (v.take 20) (e.take 20) (fewG l) = F at *
  generalize fewG l = L at *
  refine pc_ofV cop3 ?_
  repeat' ((conv => whnf); first | (with_reducible refine SeqP.go ?_) | (rw [min20]) | ((with_reducible refine ObD.mk ?_ ?_); (focus (first | rfl | (simp; done)))) | ((with_reducible refine ObN.mk ?_ ?_); (focus (first | rfl | assumption | omega | (simp only [List.length_map, List.length_append, List.length_cons, List.length_nil]; omega) | (simp; done) | (simp; omega)))) | (with_reducible refine ObZ.mk _ rfl ?_) | ((with_reducible refine (?_ : ObL _ _)); (refine ObL.mk _ (by first | exact (List.length_map _) | assumption | exact (List.length_map _).trans (by assumption) | exact List.length_map _ | rfl) ?_)) | ((with_reducible refine (?_ : ObU _ _)); (refine ObU.mk _ (by first | exact tk_min | assumption | ((conv => lhs; simp only [List.set_cons_zero, List.set_cons_succ, List.take_succ_cons, List.take_zero, List.drop_succ_cons, List.drop_zero, List.nil_append, List.cons_append, List.append_nil, List.take_nil, List.drop_nil]); try rfl) | rfl) ?_)) | ((with_reducible refine ObC.f 7 ?_); (first | (with_reducible refine ObC.mk _ (c7v) ?_) | (refine ObC.mk _ (c7v) ?_))) | ((with_reducible refine ObC.f 7 ?_); (first | (with_reducible refine ObC.mk _ (c7e) ?_) | (refine ObC.mk _ (c7e) ?_))) | ((with_reducible refine ObC.f 9 ?_); (first | (with_reducible refine ObC.mk _ (c9) ?_) | (refine ObC.mk _ (c9) ?_))) | ((with_reducible refine ObH.f 8 ?_); (first | (with_reducible refine ObH.mk _ _ ((hc_pc (by rfl) c8 _)) ?_) | (refine ObH.mk _ _ ((hc_pc (by rfl) c8 _)) ?_))) | ((with_reducible refine ObC.f 10 ?_); (first | (with_reducible refine ObC.mk _ (c10) ?_) | (refine ObC.mk _ (c10) ?_))) | ((with_reducible refine ObC.f 11 ?_); (first | (with_reducible refine ObC.mk _ (c11) ?_) | (refine ObC.mk _ (c11) ?_))) | ((with_reducible refine ObJ.zn ?_ ?_); (focus (first | omega | assumption | (simp only [List.length_map, List.length_append, List.length_cons, List.length_nil, List.length_take, List.length_drop, List.length_set, List.length_replicate]; omega)))) | (with_reducible refine ObE.min ?_))
  conv => whnf
  refine LoopP.go (α := Nat) (fun i => i ≤ L.length) (fun i => L.length - i) (fun i => [(11, some (I (cntG (L.take i) : Nat))), (0, some (I i)), (31, none), (0, none), (0, none), (0, none), (0, none), (0, none), (0, none), (0, none), (0, none), (0, none), (0, none), (0, none), (0, none), (0, none), (0, none), (0, none)]) (fun _ => []) 0 (Nat.zero_le _) (Fg.go ?_ rfl) ?_
  · repeat' ((conv => whnf); first | ((with_reducible refine ObEqs.mk ?_ ?_); (focus rfl)) | ((with_reducible refine ObEq1.i ?_ ?_); (focus (first | (with_reducible rfl) | omega))) | ((with_reducible refine ObEq1.mk ?_ ?_); (focus (first | rfl | assumption))) | exact True.intro)
  intro i hi
  have hb := cntG_le (l := L.take i) (fun g h => by have := hI g (List.mem_of_mem_take h); omega)
  rw [List.length_take] at hb
  by_cases hlt : i < L.length
  · have hq := gr_at hlt
    have hs := cntG_succ hlt
    have hm := hI _ (List.getElem_mem hlt)
    repeat' ((conv => whnf); first | (with_reducible refine SeqP.go ?_) | ((with_reducible refine ObN.mk ?_ ?_); (focus (first | rfl | assumption | omega | (simp only [List.length_map, List.length_append, List.length_cons, List.length_nil]; omega) | (simp; done) | (simp; omega)))) | (with_reducible refine ObT.tt ?_) | ((with_reducible refine ObB.yes ?_ ?_); (focus (first | assumption | (with_reducible rfl) | omega))) | ((with_reducible refine ObI.nn ?_ ?_); (focus omega)) | ((with_reducible refine ObI.nl ?_ ?_); (focus omega)) | ((with_reducible refine ObX.mk _ rfl ?_ ?_); (focus (first | omega | assumption | (simp only [List.length_map, List.length_append, List.length_cons, List.length_nil, List.length_take, List.length_drop, List.length_set, List.length_replicate]; omega)))) | ((with_reducible refine (?_ : ObL _ _)); (refine ObL.mk _ (by first | exact (List.length_map _) | assumption | exact (List.length_map _).trans (by assumption) | exact List.length_map _ | rfl) ?_)) | ((with_reducible refine (?_ : ObR _ _ _)); (first | (refine ObR.mk _ (by assumption) ?_) | (refine ObR.mk _ (by with_reducible rfl) ?_) | (refine ObR.map (by (first | omega | assumption | (simp only [List.length_map, List.length_append, List.length_cons, List.length_nil, List.length_take, List.length_drop, List.length_set, List.length_replicate]; omega))) (fun x hx => ?_)) | (refine ObR.mk _ rfl ?_))) | ((with_reducible refine ObC.f 9 ?_); (first | (with_reducible refine ObC.mk _ (c9) ?_) | (refine ObC.mk _ (c9) ?_))))
    conv => whnf
    rw [← hs]
    refine Again.mk (i + 1) ?_ ?_ (Fg.go ?_ rfl)
    · omega
    · omega
    repeat' ((conv => whnf); first | ((with_reducible refine ObEqs.mk ?_ ?_); (focus rfl)) | ((with_reducible refine ObEq1.i ?_ ?_); (focus (first | (with_reducible rfl) | omega))) | exact True.intro)
  · obtain rfl : i = L.length := by omega
    rw [List.take_length] at *
    repeat' ((conv => whnf); first | (with_reducible refine SeqP.go ?_) | ((with_reducible refine ObN.mk ?_ ?_); (focus (first | rfl | assumption | omega | (simp only [List.length_map, List.length_append, List.length_cons, List.length_nil]; omega) | (simp; done) | (simp; omega)))) | (with_reducible refine ObT.tt ?_) | (with_reducible refine ObT.ff ?_) | ((with_reducible refine ObB.yes ?_ ?_); (focus (first | assumption | (with_reducible rfl) | omega))) | ((with_reducible refine ObB.no ?_ ?_); (focus (first | assumption | omega))) | ((with_reducible refine (?_ : ObL _ _)); (refine ObL.mk _ (by first | exact (List.length_map _) | assumption | exact (List.length_map _).trans (by assumption) | exact List.length_map _ | rfl) ?_)) | ((with_reducible refine ObC.f 9 ?_); (first | (with_reducible refine ObC.mk _ (c9) ?_) | (refine ObC.mk _ (c9) ?_))) | ((with_reducible refine ObC.f 12 ?_); (first | (with_reducible refine ObC.mk _ (c12) ?_) | (refine ObC.mk _ (c12) ?_))) | ((with_reducible refine ObC.f 11 ?_); (first | (with_reducible refine ObC.mk _ (c11') ?_) | (refine ObC.mk _ (c11') ?_))) | ((with_reducible refine ObC.f 13 ?_); (first | (with_reducible refine ObC.mk _ (c13) ?_) | (refine ObC.mk _ (c13) ?_))) | ((with_reducible refine ObC.f 14 ?_); (first | (with_reducible refine ObC.mk _ (c14) ?_) | (refine ObC.mk _ (c14) ?_))) | ((with_reducible refine ObC.f 15 ?_); (first | (with_reducible refine ObC.mk _ (c15) ?_) | (refine ObC.mk _ (c15) ?_))) | ((with_reducible refine ObEq.mk ?_); (focus (first | rfl | assumption))))
end Go.Proofs.Ytccihbhpjnjinaa.Sim
