/- Memories: references, and inner nodes. -/
import Derived.Test.YtdlamhjfnkkclaaAc14
import Derived.Test.YtdlamhjfnkkclaaSimVj
import Derived.Test.YtdlamhjfnkkclaaLists
import Derived.Test.YtdlamhjfnkkclaaSimT
namespace Go.Proofs.Ytdlamhjfnkkclaa.Sim
open Go.RowKit
set_option maxRecDepth 100000
set_option linter.unusedSimpArgs false
set_option linter.unusedVariables false
abbrev nN (n : Nat) : AV := I (n : Nat)
def okR (r : Int) : Prop := 0 < r ∧ 1 ≤ r.tmod 1024 ∧ r.tmod 1024 ≤ 1000 ∧ 1 ≤ r.tdiv 1024 ∧ r.tdiv 1024 ≤ 4503599627370496
open Classical in
noncomputable def slotN (r : Int) : Int := if okR r then r.tmod 1024 else 0
open Classical in
noncomputable def incN (r : Int) : Int := if okR r then r.tdiv 1024 else 0
open Classical in
noncomputable def kindN (r : Int) : Int := if r = 0 then 0 else if r < 0 then 2 else if okR r then 1 else 3
theorem tdiv_b {r : Int} (h1 : -9223372036854775808 ≤ r) (h2 : r ≤ 9223372036854775807) : -9223372036854775808 ≤ r.tdiv 1024 ∧ r.tdiv 1024 ≤ 9223372036854775807 := by
  rcases Int.le_total 0 r with h | h
  · rw [Int.tdiv_eq_ediv_of_nonneg h]; omega
  · have : r.tdiv 1024 = -((-r) / 1024) := by rw [← Int.tdiv_eq_ediv_of_nonneg (by omega), Int.neg_tdiv]; omega
    rw [this]; omega
theorem kind34 (G : Nat → AV) (r : Int) (h1 : -9223372036854775808 ≤ r) (h2 : r ≤ 9223372036854775807) : PC Try.prog G 62 [I r] (I (kindN r)) := by
  obtain ⟨b1, b2⟩ := tdiv_b h1 h2
  unfold kindN
  by_cases e0 : r = 0
  · rw [if_pos e0]
    refine pc_ofV cop62 ?_
    repeat' ((conv => whnf); first | (with_reducible refine SeqP.go ?_) | ((with_reducible refine ObN.mk ?_ ?_); (focus (first | rfl | assumption | omega | (simp only [List.length_map, List.length_append, List.length_cons, List.length_nil]; omega) | (simp; done) | (simp; omega)))) | (with_reducible refine ObT.tt ?_) | ((with_reducible refine ObB.yes ?_ ?_); (focus (first | assumption | (with_reducible rfl) | omega))) | ((with_reducible refine ObI.mk _ rfl ?_ ?_ ?_); (focus omega); (focus omega)) | (with_reducible refine ObZ.mk _ rfl ?_) | ((with_reducible refine ObEq.i ?_); (focus (first | (with_reducible rfl) | omega))))
  rw [if_neg e0]
  by_cases e1 : r < 0
  · rw [if_pos e1]
    refine pc_ofV cop62 ?_
    repeat' ((conv => whnf); first | (with_reducible refine SeqP.go ?_) | ((with_reducible refine ObN.mk ?_ ?_); (focus (first | rfl | assumption | omega | (simp only [List.length_map, List.length_append, List.length_cons, List.length_nil]; omega) | (simp; done) | (simp; omega)))) | (with_reducible refine ObT.tt ?_) | (with_reducible refine ObT.ff ?_) | ((with_reducible refine ObB.yes ?_ ?_); (focus (first | assumption | (with_reducible rfl) | omega))) | ((with_reducible refine ObB.no ?_ ?_); (focus (first | assumption | omega))) | ((with_reducible refine ObI.mk _ rfl ?_ ?_ ?_); (focus omega); (focus omega)) | (with_reducible refine ObZ.mk _ rfl ?_) | ((with_reducible refine ObEq.i ?_); (focus (first | (with_reducible rfl) | omega))))
  rw [if_neg e1]
  by_cases e2 : okR r
  · rw [if_pos e2]
    unfold okR at e2
    refine pc_ofV cop62 ?_
    repeat' ((conv => whnf); first | (with_reducible refine SeqP.go ?_) | ((with_reducible refine ObN.mk ?_ ?_); (focus (first | rfl | assumption | omega | (simp only [List.length_map, List.length_append, List.length_cons, List.length_nil]; omega) | (simp; done) | (simp; omega)))) | (with_reducible refine ObT.tt ?_) | (with_reducible refine ObT.ff ?_) | ((with_reducible refine ObB.yes ?_ ?_); (focus (first | assumption | (with_reducible rfl) | omega))) | ((with_reducible refine ObB.no ?_ ?_); (focus (first | assumption | omega))) | ((with_reducible refine ObI.mk _ rfl ?_ ?_ ?_); (focus omega); (focus omega)) | (with_reducible refine ObZ.mk _ rfl ?_) | ((with_reducible refine ObEq.i ?_); (focus (first | (with_reducible rfl) | omega))))
  · rw [if_neg e2]
    unfold okR at e2
    refine pc_ofV cop62 ?_
    repeat' ((conv => whnf); first | (with_reducible refine SeqP.go ?_) | ((with_reducible refine ObN.mk ?_ ?_); (focus (first | rfl | assumption | omega | (simp only [List.length_map, List.length_append, List.length_cons, List.length_nil]; omega) | (simp; done) | (simp; omega)))) | (with_reducible refine ObT.tt ?_) | (with_reducible refine ObT.ff ?_) | ((with_reducible refine ObB.no ?_ ?_); (focus (first | assumption | omega))) | (with_reducible refine ObB.mk (fun h => ?_) (fun h => ?_)) | ((with_reducible refine ObI.mk _ rfl ?_ ?_ ?_); (focus omega); (focus omega)) | (with_reducible refine ObZ.mk _ rfl ?_) | ((with_reducible refine ObEq.i ?_); (focus (first | (with_reducible rfl) | omega))))
theorem kind1 {r : Int} : kindN r = 1 ↔ okR r := by
  unfold kindN
  by_cases h : okR r
  · have := h.1
    rw [if_neg (by omega), if_neg (by omega), if_pos h]; simp [h]
  · simp [h]; split; simp; split; simp; simp
theorem slot29 (G : Nat → AV) (r : Int) (h1 : -9223372036854775808 ≤ r) (h2 : r ≤ 9223372036854775807) : PC Try.prog G 51 [I r] (I (slotN r)) := by
  have hk := kind34 G r h1 h2
  by_cases e2 : okR r
  · have e := kind1.2 e2
    rw [e] at hk
    rw [slotN, if_pos e2]
    refine pc_ofV cop51 ?_
    repeat' ((conv => whnf); first | (with_reducible refine SeqP.go ?_) | ((with_reducible refine ObN.mk ?_ ?_); (focus (first | rfl | assumption | omega | (simp only [List.length_map, List.length_append, List.length_cons, List.length_nil]; omega) | (simp; done) | (simp; omega)))) | (with_reducible refine ObT.ff ?_) | ((with_reducible refine ObB.yes ?_ ?_); (focus (first | assumption | (with_reducible rfl) | omega))) | (with_reducible refine ObZ.mk _ rfl ?_) | ((with_reducible refine ObC.f 62 ?_); (first | (with_reducible refine ObC.mk _ (hk) ?_) | (refine ObC.mk _ (hk) ?_))) | ((with_reducible refine ObEq.i ?_); (focus (first | (with_reducible rfl) | omega))))
  · have e : ¬ kindN r = 1 := fun h => e2 (kind1.1 h)
    rw [slotN, if_neg e2]
    generalize kindN r = k at *
    refine pc_ofV cop51 ?_
    repeat' ((conv => whnf); first | (with_reducible refine SeqP.go ?_) | ((with_reducible refine ObN.mk ?_ ?_); (focus (first | rfl | assumption | omega | (simp only [List.length_map, List.length_append, List.length_cons, List.length_nil]; omega) | (simp; done) | (simp; omega)))) | (with_reducible refine ObT.tt ?_) | ((with_reducible refine ObB.no ?_ ?_); (focus (first | assumption | omega))) | ((with_reducible refine ObC.f 62 ?_); (first | (with_reducible refine ObC.mk _ (hk) ?_) | (refine ObC.mk _ (hk) ?_))) | ((with_reducible refine ObEq.i ?_); (focus (first | (with_reducible rfl) | omega))))
theorem inc33 (G : Nat → AV) (r : Int) (h1 : -9223372036854775808 ≤ r) (h2 : r ≤ 9223372036854775807) : PC Try.prog G 61 [I r] (I (incN r)) := by
  have hk := kind34 G r h1 h2
  obtain ⟨b1, b2⟩ := tdiv_b h1 h2
  by_cases e2 : okR r
  · have e := kind1.2 e2
    rw [e] at hk
    rw [incN, if_pos e2]
    refine pc_ofV cop61 ?_
    repeat' ((conv => whnf); first | (with_reducible refine SeqP.go ?_) | ((with_reducible refine ObN.mk ?_ ?_); (focus (first | rfl | assumption | omega | (simp only [List.length_map, List.length_append, List.length_cons, List.length_nil]; omega) | (simp; done) | (simp; omega)))) | (with_reducible refine ObT.ff ?_) | ((with_reducible refine ObB.yes ?_ ?_); (focus (first | assumption | (with_reducible rfl) | omega))) | ((with_reducible refine ObI.mk _ rfl ?_ ?_ ?_); (focus omega); (focus omega)) | ((with_reducible refine ObC.f 62 ?_); (first | (with_reducible refine ObC.mk _ (hk) ?_) | (refine ObC.mk _ (hk) ?_))) | ((with_reducible refine ObEq.i ?_); (focus (first | (with_reducible rfl) | omega))))
  · have e : ¬ kindN r = 1 := fun h => e2 (kind1.1 h)
    rw [incN, if_neg e2]
    generalize kindN r = k at *
    refine pc_ofV cop61 ?_
    repeat' ((conv => whnf); first | (with_reducible refine SeqP.go ?_) | ((with_reducible refine ObN.mk ?_ ?_); (focus (first | rfl | assumption | omega | (simp only [List.length_map, List.length_append, List.length_cons, List.length_nil]; omega) | (simp; done) | (simp; omega)))) | (with_reducible refine ObT.tt ?_) | ((with_reducible refine ObB.no ?_ ?_); (focus (first | assumption | omega))) | ((with_reducible refine ObC.f 62 ?_); (first | (with_reducible refine ObC.mk _ (hk) ?_) | (refine ObC.mk _ (hk) ?_))) | ((with_reducible refine ObEq.i ?_); (focus (first | (with_reducible rfl) | omega))))
theorem make32 (G : Nat → AV) (i c : Nat) (h1 : i < 1000) (h2 : 1 ≤ c) (h3 : c ≤ 1000000) : PC Try.prog G 60 [I ((i + 1 : Nat)), I (c : Nat)] (.tup [I ((1024 * c + (i + 1) : Nat)), I 0]) := by
  refine pc_ofV cop60 ?_
  repeat' ((conv => whnf); first | (with_reducible refine SeqP.go ?_) | ((with_reducible refine ObN.mk ?_ ?_); (focus (first | rfl | assumption | omega | (simp only [List.length_map, List.length_append, List.length_cons, List.length_nil]; omega) | (simp; done) | (simp; omega)))) | (with_reducible refine ObT.ff ?_) | ((with_reducible refine ObB.no ?_ ?_); (focus (first | assumption | omega))) | ((with_reducible refine ObI.mk (((1024 * c : Nat) : Int)) ?_ ?_ ?_ ?_); (focus omega); (focus omega); (focus omega)) | ((with_reducible refine ObI.nn ?_ ?_); (focus omega)) | ((with_reducible refine ObEq.mk ?_); (focus (first | rfl | assumption))))
theorem slotN_nn (r : Int) : 0 ≤ slotN r ∧ slotN r ≤ 1000 := by
  unfold slotN
  split
  · rename_i h; exact ⟨by have := h.2.1; omega, h.2.2.1⟩
  · omega
/-- The references to the first slots. -/
theorem ok_j (j : Nat) (h : j < 10) : okR (1025 + (j : Nat)) := by
  have h1 : (1025 + (j : Int)).tmod 1024 = j + 1 := by rw [Int.tmod_eq_emod_of_nonneg (by omega)]; omega
  have h2 : (1025 + (j : Int)).tdiv 1024 = 1 := by rw [Int.tdiv_eq_ediv_of_nonneg (by omega)]; omega
  unfold okR
  rw [h1, h2]
  omega
theorem slot_j (G : Nat → AV) (j : Nat) (h : j < 10) : PC Try.prog G 51 [I (1025 + (j : Nat))] (I (j + 1 : Nat)) := by
  have h0 := slot29 G (1025 + (j : Nat)) (by omega) (by omega)
  rw [slotN, if_pos (ok_j j h), Int.tmod_eq_emod_of_nonneg (by omega), show (1025 + (j : Int)) % 1024 = ((j + 1 : Nat) : Int) by omega] at h0
  exact h0
theorem inc_j (G : Nat → AV) (j : Nat) (h : j < 10) : PC Try.prog G 61 [I (1025 + (j : Nat))] (I 1) := by
  have h0 := inc33 G (1025 + (j : Nat)) (by omega) (by omega)
  rw [incN, if_pos (ok_j j h), Int.tdiv_eq_ediv_of_nonneg (by omega), show (1025 + (j : Int)) / 1024 = 1 by omega] at h0
  exact h0
theorem make_j (G : Nat → AV) (j : Nat) (h : j < 10) : PC Try.prog G 60 [I (j + 1 : Nat), I 1] (.tup [I (1025 + (j : Nat)), I 0]) := by
  have h0 := make32 G j 1 (by omega) (by omega) (by omega)
  rw [show ((1024 * 1 + (j + 1) : Nat) : Int) = 1025 + (j : Nat) by omega] at h0
  exact h0
abbrev eS : AV := .v (.string ⟨#[]⟩)
abbrev nC (k : Int) : List AV := [I 5, eS, eS, .v (.int .u32 0), .sl 1 [], I k, .sl 2 [], I 0, I 0]
abbrev nA (k : Int) : AV := .agg (nC k)
abbrev zA : AV := .agg [I 0, eS, eS, .v (.int .u32 0), .nl 1, I 0, .nl 2, I 0, I 0]
theorem works (G : Nat → AV) : PC Try.prog G 18 [] (Bo true) := runsTo_true tab_ok (n := 1000) (by kernel_rfl)
theorem sz0 : (⟨#[]⟩ : ByteArray).size = 0 := rfl
theorem ln0 : ([] : List AV).length = 0 := rfl
section
variable (G : Nat → AV)
theorem inner19 (k : Int) : PC Try.prog G 19 [I k] (nA k) := by
  refine pc_ofV cop19 ?_
  repeat' ((conv => whnf); first | (with_reducible refine SeqP.go ?_) | ((with_reducible refine ObD.mk ?_ ?_); (focus (first | rfl | (simp; done)))) | ((with_reducible refine ObN.mk ?_ ?_); (focus (first | rfl | assumption | omega | (simp only [List.length_map, List.length_append, List.length_cons, List.length_nil]; omega) | (simp; done) | (simp; omega)))) | ((with_reducible refine (?_ : ObU _ _)); (refine ObU.mk _ (by first | assumption | ((conv => lhs; simp only [List.set_cons_zero, List.set_cons_succ, List.take_succ_cons, List.take_zero, List.drop_succ_cons, List.drop_zero, List.nil_append, List.cons_append, List.append_nil, List.take_nil, List.drop_nil]); try rfl) | rfl) ?_)) | ((with_reducible refine (?_ : ObR _ _ _)); (first | (refine ObR.mk _ (by assumption) ?_) | (refine ObR.mk _ (by with_reducible rfl) ?_) | (refine ObR.map (by (first | omega | assumption | (simp only [List.length_map, List.length_append, List.length_cons, List.length_nil, List.length_take, List.length_drop, List.length_set, List.length_replicate]; omega))) (fun x hx => ?_)) | (refine ObR.mk _ rfl ?_))) | ((with_reducible refine ObEq.mk ?_); (focus (first | rfl | assumption))))
theorem com73 : PC Try.prog G 73 [eS, eS] (I 0) := by
  refine pc_ofV cop73 ?_
  repeat' ((conv => whnf); first | (with_reducible refine SeqP.go ?_) | (with_reducible refine ObZ.mk _ rfl ?_) | ((with_reducible refine (?_ : ObL _ _)); (refine ObL.mk _ (by first | exact sz0 | exact ln0 | assumption | exact (List.length_map _).trans (by assumption) | exact List.length_map _ | rfl) ?_)) | (with_reducible refine ObE.min ?_))
  conv => whnf
  refine LoopP.go (α := Unit) (fun _ => True) (fun _ => 0) (fun _ => [(4, some (I 0)), (0, none), (5, some (I 0)), (0, none), (0, none), (0, none), (0, none), (0, none), (0, none), (0, none), (0, none), (0, none), (0, none), (0, none)]) (fun _ => []) () trivial (Fg.go ?_ rfl) ?_
  · repeat' ((conv => whnf); first | ((with_reducible refine ObEqs.mk ?_ ?_); (focus rfl)) | ((with_reducible refine ObEq1.i ?_ ?_); (focus (first | (with_reducible rfl) | omega))) | exact True.intro)
  intro _ _
  repeat' ((conv => whnf); first | (with_reducible refine SeqP.go ?_) | ((with_reducible refine ObN.mk ?_ ?_); (focus (first | rfl | assumption | omega | (simp only [List.length_map, List.length_append, List.length_cons, List.length_nil]; omega) | (simp; done) | (simp; omega)))) | (with_reducible refine ObT.ff ?_) | ((with_reducible refine ObB.no ?_ ?_); (focus (first | assumption | omega))) | (with_reducible refine ObZ.mk _ rfl ?_) | ((with_reducible refine (?_ : ObL _ _)); (refine ObL.mk _ (by first | exact sz0 | exact ln0 | assumption | exact (List.length_map _).trans (by assumption) | exact List.length_map _ | rfl) ?_)) | ((with_reducible refine ObEq.i ?_); (focus (first | (with_reducible rfl) | omega))) | (with_reducible refine ObE.min ?_))
theorem cmp66 : PC Try.prog G 66 [eS, eS] (I 0) := by
  have h := com73 G
  refine pc_ofV cop66 ?_
  repeat' ((conv => whnf); first | (with_reducible refine SeqP.go ?_) | ((with_reducible refine ObN.mk ?_ ?_); (focus (first | rfl | assumption | omega | (simp only [List.length_map, List.length_append, List.length_cons, List.length_nil]; omega) | (simp; done) | (simp; omega)))) | (with_reducible refine ObT.tt ?_) | ((with_reducible refine ObB.yes ?_ ?_); (focus (first | assumption | (with_reducible rfl) | omega))) | ((with_reducible refine (?_ : ObL _ _)); (refine ObL.mk _ (by first | exact sz0 | exact ln0 | assumption | exact (List.length_map _).trans (by assumption) | exact List.length_map _ | rfl) ?_)) | ((with_reducible refine ObC.f 73 ?_); (first | (with_reducible refine ObC.mk _ (h) ?_) | (refine ObC.mk _ (h) ?_))) | ((with_reducible refine ObEq.i ?_); (focus (first | (with_reducible rfl) | omega))))
theorem eq67 : PC Try.prog G 67 [.sl 1 [], .sl 1 []] (Bo true) := by
  refine pc_ofV cop67 ?_
  repeat' ((conv => whnf); first | (with_reducible refine SeqP.go ?_) | ((with_reducible refine ObN.mk ?_ ?_); (focus (first | rfl | assumption | omega | (simp only [List.length_map, List.length_append, List.length_cons, List.length_nil]; omega) | (simp; done) | (simp; omega)))) | (with_reducible refine ObT.ff ?_) | ((with_reducible refine ObB.yes ?_ ?_); (focus (first | assumption | (with_reducible rfl) | omega))) | ((with_reducible refine (?_ : ObL _ _)); (refine ObL.mk _ (by first | exact sz0 | exact ln0 | assumption | exact (List.length_map _).trans (by assumption) | exact List.length_map _ | rfl) ?_)))
  conv => whnf
  refine LoopP.go (α := Unit) (fun _ => True) (fun _ => 0) (fun _ => [(4, some (Bo false)), (0, none), (7, some (I 0)), (0, none), (0, none), (0, none), (0, none), (0, none), (0, none), (0, none), (0, none), (0, none), (0, none), (0, none), (0, none)]) (fun _ => []) () trivial (Fg.go ?_ rfl) ?_
  · repeat' ((conv => whnf); first | ((with_reducible refine ObEqs.mk ?_ ?_); (focus rfl)) | ((with_reducible refine ObEq1.i ?_ ?_); (focus (first | (with_reducible rfl) | omega))) | ((with_reducible refine ObEq1.mk ?_ ?_); (focus (first | rfl | assumption))) | exact True.intro)
  intro _ _
  repeat' ((conv => whnf); first | (with_reducible refine SeqP.go ?_) | ((with_reducible refine ObN.mk ?_ ?_); (focus (first | rfl | assumption | omega | (simp only [List.length_map, List.length_append, List.length_cons, List.length_nil]; omega) | (simp; done) | (simp; omega)))) | (with_reducible refine ObT.ff ?_) | ((with_reducible refine ObB.no ?_ ?_); (focus (first | assumption | omega))) | ((with_reducible refine ObEq.mk ?_); (focus (first | rfl | assumption))))
theorem eq68 : PC Try.prog G 68 [.sl 2 [], .sl 2 []] (Bo true) := by
  refine pc_ofV cop68 ?_
  repeat' ((conv => whnf); first | (with_reducible refine SeqP.go ?_) | ((with_reducible refine ObN.mk ?_ ?_); (focus (first | rfl | assumption | omega | (simp only [List.length_map, List.length_append, List.length_cons, List.length_nil]; omega) | (simp; done) | (simp; omega)))) | (with_reducible refine ObT.ff ?_) | ((with_reducible refine ObB.yes ?_ ?_); (focus (first | assumption | (with_reducible rfl) | omega))) | ((with_reducible refine (?_ : ObL _ _)); (refine ObL.mk _ (by first | exact sz0 | exact ln0 | assumption | exact (List.length_map _).trans (by assumption) | exact List.length_map _ | rfl) ?_)))
  conv => whnf
  refine LoopP.go (α := Unit) (fun _ => True) (fun _ => 0) (fun _ => [(4, some (Bo false)), (0, none), (7, some (I 0)), (0, none), (0, none), (0, none), (0, none), (0, none), (0, none), (0, none), (0, none), (0, none), (0, none), (0, none), (0, none)]) (fun _ => []) () trivial (Fg.go ?_ rfl) ?_
  · repeat' ((conv => whnf); first | ((with_reducible refine ObEqs.mk ?_ ?_); (focus rfl)) | ((with_reducible refine ObEq1.i ?_ ?_); (focus (first | (with_reducible rfl) | omega))) | ((with_reducible refine ObEq1.mk ?_ ?_); (focus (first | rfl | assumption))) | exact True.intro)
  intro _ _
  repeat' ((conv => whnf); first | (with_reducible refine SeqP.go ?_) | ((with_reducible refine ObN.mk ?_ ?_); (focus (first | rfl | assumption | omega | (simp only [List.length_map, List.length_append, List.length_cons, List.length_nil]; omega) | (simp; done) | (simp; omega)))) | (with_reducible refine ObT.ff ?_) | ((with_reducible refine ObB.no ?_ ?_); (focus (first | assumption | omega))) | ((with_reducible refine ObEq.mk ?_); (focus (first | rfl | assumption))))
theorem same59 (k : Int) : PC Try.prog G 59 [nA k, nA k] (Bo true) := by
  have h1 := cmp66 G
  have h2 := eq67 G
  have h3 := eq68 G
  refine pc_ofV cop59 ?_
  repeat' ((conv => whnf); first | (with_reducible refine SeqP.go ?_) | ((with_reducible refine ObD.mk ?_ ?_); (focus (first | rfl | (simp; done)))) | ((with_reducible refine ObN.mk ?_ ?_); (focus (first | rfl | assumption | omega | (simp only [List.length_map, List.length_append, List.length_cons, List.length_nil]; omega) | (simp; done) | (simp; omega)))) | (with_reducible refine ObT.tt ?_) | ((with_reducible refine ObB.yes ?_ ?_); (focus (first | assumption | (with_reducible rfl) | omega))) | ((with_reducible refine (?_ : ObR _ _ _)); (first | (refine ObR.mk _ (by assumption) ?_) | (refine ObR.mk _ (by with_reducible rfl) ?_) | (refine ObR.map (by (first | omega | assumption | (simp only [List.length_map, List.length_append, List.length_cons, List.length_nil, List.length_take, List.length_drop, List.length_set, List.length_replicate]; omega))) (fun x hx => ?_)) | (refine ObR.mk _ rfl ?_))) | ((with_reducible refine ObC.f 66 ?_); (first | (with_reducible refine ObC.mk _ (h1) ?_) | (refine ObC.mk _ (h1) ?_))) | ((with_reducible refine ObC.f 67 ?_); (first | (with_reducible refine ObC.mk _ (h2) ?_) | (refine ObC.mk _ (h2) ?_))) | ((with_reducible refine ObC.f 68 ?_); (first | (with_reducible refine ObC.mk _ (h3) ?_) | (refine ObC.mk _ (h3) ?_))) | ((with_reducible refine ObEq.mk ?_); (focus (first | rfl | assumption))))
theorem form42 (k : Int) (hk : k ≠ 0) : PC Try.prog G 42 [nA k] (Bo true) := by
  have h1 := inner19 G k
  have h2 := same59 G k
  refine pc_ofV cop42 ?_
  repeat' ((conv => whnf); first | (with_reducible refine SeqP.go ?_) | ((with_reducible refine ObD.mk ?_ ?_); (focus (first | rfl | (simp; done)))) | ((with_reducible refine ObN.mk ?_ ?_); (focus (first | rfl | assumption | omega | (simp only [List.length_map, List.length_append, List.length_cons, List.length_nil]; omega) | (simp; done) | (simp; omega)))) | (with_reducible refine ObT.tt ?_) | (with_reducible refine ObT.ff ?_) | ((with_reducible refine ObB.yes ?_ ?_); (focus (first | assumption | (with_reducible rfl) | omega))) | ((with_reducible refine ObB.no ?_ ?_); (focus (first | assumption | omega))) | ((with_reducible refine (?_ : ObU _ _)); (refine ObU.mk _ (by first | assumption | ((conv => lhs; simp only [List.set_cons_zero, List.set_cons_succ, List.take_succ_cons, List.take_zero, List.drop_succ_cons, List.drop_zero, List.nil_append, List.cons_append, List.append_nil, List.take_nil, List.drop_nil]); try rfl) | rfl) ?_)) | ((with_reducible refine (?_ : ObR _ _ _)); (first | (refine ObR.mk _ (by assumption) ?_) | (refine ObR.mk _ (by with_reducible rfl) ?_) | (refine ObR.map (by (first | omega | assumption | (simp only [List.length_map, List.length_append, List.length_cons, List.length_nil, List.length_take, List.length_drop, List.length_set, List.length_replicate]; omega))) (fun x hx => ?_)) | (refine ObR.mk _ rfl ?_))) | ((with_reducible refine ObC.f 19 ?_); (first | (with_reducible refine ObC.mk _ (h1) ?_) | (refine ObC.mk _ (h1) ?_))) | ((with_reducible refine ObC.f 59 ?_); (first | (with_reducible refine ObC.mk _ (h2) ?_) | (refine ObC.mk _ (h2) ?_))) | ((with_reducible refine ObEq.mk ?_); (focus (first | rfl | assumption))))
theorem long40 : PC Try.prog G 40 [.agg [eS, eS]] (Bo false) := by
  refine pc_ofV cop40 ?_
  repeat' ((conv => whnf); first | (with_reducible refine SeqP.go ?_) | ((with_reducible refine ObD.mk ?_ ?_); (focus (first | rfl | (simp; done)))) | ((with_reducible refine ObN.mk ?_ ?_); (focus (first | rfl | assumption | omega | (simp only [List.length_map, List.length_append, List.length_cons, List.length_nil]; omega) | (simp; done) | (simp; omega)))) | (with_reducible refine ObT.ff ?_) | ((with_reducible refine ObB.no ?_ ?_); (focus (first | assumption | omega))) | ((with_reducible refine (?_ : ObL _ _)); (refine ObL.mk _ (by first | exact sz0 | exact ln0 | assumption | exact (List.length_map _).trans (by assumption) | exact List.length_map _ | rfl) ?_)) | ((with_reducible refine (?_ : ObR _ _ _)); (first | (refine ObR.mk _ (by assumption) ?_) | (refine ObR.mk _ (by with_reducible rfl) ?_) | (refine ObR.map (by (first | omega | assumption | (simp only [List.length_map, List.length_append, List.length_cons, List.length_nil, List.length_take, List.length_drop, List.length_set, List.length_replicate]; omega))) (fun x hx => ?_)) | (refine ObR.mk _ rfl ?_))) | ((with_reducible refine ObEq.mk ?_); (focus (first | rfl | assumption))))
theorem ix53 : HC Try.prog G 53 [.sl 2 [], .v (.func (.func 40) #[] #[])] [] (I (-1)) [] := by
  refine hc_ofV cop53 rfl ?_
  repeat' ((conv => whnf); first | (with_reducible refine SeqP.go ?_) | ((with_reducible refine (?_ : ObL _ _)); (refine ObL.mk _ (by first | exact sz0 | exact ln0 | assumption | exact (List.length_map _).trans (by assumption) | exact List.length_map _ | rfl) ?_)))
  conv => whnf
  refine LoopP.go (α := Unit) (fun _ => True) (fun _ => 0) (fun _ => [(4, some (I 0)), (0, none), (2, some (I 0)), (0, none), (0, none), (0, none), (0, none), (0, none), (0, none), (0, none), (0, none), (0, none), (0, none)]) (fun _ => []) () trivial (Fg.go ?_ rfl) ?_
  · repeat' ((conv => whnf); first | ((with_reducible refine ObEqs.mk ?_ ?_); (focus rfl)) | ((with_reducible refine ObEq1.i ?_ ?_); (focus (first | (with_reducible rfl) | omega))) | exact True.intro)
  intro _ _
  repeat' ((conv => whnf); first | (with_reducible refine SeqP.go ?_) | ((with_reducible refine ObN.mk ?_ ?_); (focus (first | rfl | assumption | omega | (simp only [List.length_map, List.length_append, List.length_cons, List.length_nil]; omega) | (simp; done) | (simp; omega)))) | (with_reducible refine ObT.ff ?_) | ((with_reducible refine ObB.no ?_ ?_); (focus (first | assumption | omega))) | (exact ObEnd.eq rfl rfl))
theorem has41 : HC Try.prog G 41 [.sl 2 [], .v (.func (.func 40) #[] #[])] [] (Bo false) [] := by
  have h := ix53 G
  refine hc_ofV cop41 rfl ?_
  repeat' ((conv => whnf); first | (with_reducible refine SeqP.go ?_) | ((with_reducible refine ObN.mk ?_ ?_); (focus (first | rfl | assumption | omega | (simp only [List.length_map, List.length_append, List.length_cons, List.length_nil]; omega) | (simp; done) | (simp; omega)))) | ((with_reducible refine ObB.no ?_ ?_); (focus (first | assumption | omega))) | ((with_reducible refine ObH.f 53 ?_); (first | (with_reducible refine ObH.mk _ _ (h) ?_) | (refine ObH.mk _ _ (h) ?_))) | (exact ObEnd.eq rfl rfl))
theorem may23 (k : Int) (hk : k ≠ 0) : PC Try.prog G 23 [nA k] (I 0) := by
  have h1 := long40 G
  have h2 := has41 G
  have h3 := form42 G k hk
  refine pc_ofV cop23 ?_
  repeat' ((conv => whnf); first | (with_reducible refine SeqP.go ?_) | ((with_reducible refine ObD.mk ?_ ?_); (focus (first | rfl | (simp; done)))) | ((with_reducible refine ObN.mk ?_ ?_); (focus (first | rfl | assumption | omega | (simp only [List.length_map, List.length_append, List.length_cons, List.length_nil]; omega) | (simp; done) | (simp; omega)))) | (with_reducible refine ObT.tt ?_) | (with_reducible refine ObT.ff ?_) | ((with_reducible refine ObB.no ?_ ?_); (focus (first | assumption | omega))) | ((with_reducible refine (?_ : ObR _ _ _)); (first | (refine ObR.mk _ (by assumption) ?_) | (refine ObR.mk _ (by with_reducible rfl) ?_) | (refine ObR.map (by (first | omega | assumption | (simp only [List.length_map, List.length_append, List.length_cons, List.length_nil, List.length_take, List.length_drop, List.length_set, List.length_replicate]; omega))) (fun x hx => ?_)) | (refine ObR.mk _ rfl ?_))) | ((with_reducible refine ObC.f 40 ?_); (first | (with_reducible refine ObC.mk _ (h1) ?_) | (refine ObC.mk _ (h1) ?_))) | ((with_reducible refine ObH.f 41 ?_); refine ObH.frn _ (by simp only [List.length_cons, List.length_nil, Nat.reduceAdd]; rfl) [] (h2) (by simp) rfl (by simp) ?_) | ((with_reducible refine ObC.f 42 ?_); (first | (with_reducible refine ObC.mk _ (h3) ?_) | (refine ObC.mk _ (h3) ?_))) | ((with_reducible refine ObEq.i ?_); (focus (first | (with_reducible rfl) | omega))) | ((with_reducible refine ObAs.mk ?_ ?_); (focus (first | rfl | (simp [rnB, rnC, rnL]; done)))) | ((with_reducible refine (?_ : ObRs _ _ _)); (refine ObRs.mk _ rfl ?_)))
theorem cop46' : PC Try.prog G 46 [.sl 1 []] (.sl 1 []) := by
  refine pc_ofV cop46 ?_
  repeat' ((conv => whnf); first | (with_reducible refine SeqP.go ?_) | ((with_reducible refine ObN.mk ?_ ?_); (focus (first | rfl | assumption | omega | (simp only [List.length_map, List.length_append, List.length_cons, List.length_nil]; omega) | (simp; done) | (simp; omega)))) | (with_reducible refine ObT.tt ?_) | ((with_reducible refine ObB.yes ?_ ?_); (focus (first | assumption | (with_reducible rfl) | omega))) | ((with_reducible refine (?_ : ObL _ _)); (refine ObL.mk _ (by first | exact sz0 | exact ln0 | assumption | exact (List.length_map _).trans (by assumption) | exact List.length_map _ | rfl) ?_)) | ((with_reducible refine ObEq.mk ?_); (focus (first | rfl | assumption))))
theorem cop47' : PC Try.prog G 47 [.sl 2 []] (.sl 2 []) := by
  refine pc_ofV cop47 ?_
  repeat' ((conv => whnf); first | (with_reducible refine SeqP.go ?_) | ((with_reducible refine ObN.mk ?_ ?_); (focus (first | rfl | assumption | omega | (simp only [List.length_map, List.length_append, List.length_cons, List.length_nil]; omega) | (simp; done) | (simp; omega)))) | (with_reducible refine ObT.tt ?_) | ((with_reducible refine ObB.yes ?_ ?_); (focus (first | assumption | (with_reducible rfl) | omega))) | ((with_reducible refine (?_ : ObL _ _)); (refine ObL.mk _ (by first | exact sz0 | exact ln0 | assumption | exact (List.length_map _).trans (by assumption) | exact List.length_map _ | rfl) ?_)) | ((with_reducible refine ObEq.mk ?_); (focus (first | rfl | assumption))))
theorem copy25 (k : Int) : PC Try.prog G 25 [nA k] (nA k) := by
  have h1 := cop46' G
  have h2 := cop47' G
  refine pc_ofV cop25 ?_
  repeat' ((conv => whnf); first | (with_reducible refine SeqP.go ?_) | ((with_reducible refine ObD.mk ?_ ?_); (focus (first | rfl | (simp; done)))) | ((with_reducible refine ObN.mk ?_ ?_); (focus (first | rfl | assumption | omega | (simp only [List.length_map, List.length_append, List.length_cons, List.length_nil]; omega) | (simp; done) | (simp; omega)))) | ((with_reducible refine (?_ : ObU _ _)); (refine ObU.mk _ (by first | assumption | ((conv => lhs; simp only [List.set_cons_zero, List.set_cons_succ, List.take_succ_cons, List.take_zero, List.drop_succ_cons, List.drop_zero, List.nil_append, List.cons_append, List.append_nil, List.take_nil, List.drop_nil]); try rfl) | rfl) ?_)) | ((with_reducible refine (?_ : ObR _ _ _)); (first | (refine ObR.mk _ (by assumption) ?_) | (refine ObR.mk _ (by with_reducible rfl) ?_) | (refine ObR.map (by (first | omega | assumption | (simp only [List.length_map, List.length_append, List.length_cons, List.length_nil, List.length_take, List.length_drop, List.length_set, List.length_replicate]; omega))) (fun x hx => ?_)) | (refine ObR.mk _ rfl ?_))) | ((with_reducible refine ObC.f 46 ?_); (first | (with_reducible refine ObC.mk _ (h1) ?_) | (refine ObC.mk _ (h1) ?_))) | ((with_reducible refine ObC.f 47 ?_); (first | (with_reducible refine ObC.mk _ (h2) ?_) | (refine ObC.mk _ (h2) ?_))) | ((with_reducible refine ObEq.mk ?_); (focus (first | rfl | assumption))))
end
end Go.Proofs.Ytdlamhjfnkkclaa.Sim
