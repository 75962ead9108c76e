/- Arenas: references, slots, what is found. -/
import Derived.Test.YtjaohiakpajgkaaAc09
import Derived.Test.YtjaohiakpajgkaaSimVi
import Derived.Test.YtjaohiakpajgkaaLists
namespace Go.Proofs.Ytjaohiakpajgkaa.Sim
open Go.RowKit
set_option maxRecDepth 100000
set_option linter.unusedSimpArgs false
set_option linter.unusedVariables false
/-- A slot: its value, its incarnation, whether it is taken. -/
abbrev Sl := Int × Nat × Bool
abbrev slA (x : Sl) : AV := .agg [I x.1, I (x.2.1 : Nat), Bo x.2.2]
abbrev nA (n : Nat) : AV := I (n : Nat)
abbrev iA (n : Int) : AV := I n
def okR (r : Int) : Prop := 0 < r ∧ 1 ≤ r.tmod 1024 ∧ r.tmod 1024 ≤ 1000 ∧ 1 ≤ r.tdiv 1024 ∧ r.tdiv 1024 ≤ 4503599627370496
open Classical in
noncomputable def slotN (r : Int) : Int := if okR r then r.tmod 1024 else 0
open Classical in
noncomputable def incN (r : Int) : Int := if okR r then r.tdiv 1024 else 0
open Classical in
noncomputable def kindN (r : Int) : Int := if r = 0 then 0 else if r < 0 then 2 else if okR r then 1 else 3
theorem tdiv_b {r : Int} (h1 : -9223372036854775808 ≤ r) (h2 : r ≤ 9223372036854775807) : -9223372036854775808 ≤ r.tdiv 1024 ∧ r.tdiv 1024 ≤ 9223372036854775807 := by
  rcases Int.le_total 0 r with h | h
  · rw [Int.tdiv_eq_ediv_of_nonneg h]; omega
  · have : r.tdiv 1024 = -((-r) / 1024) := by rw [← Int.tdiv_eq_ediv_of_nonneg (by omega), Int.neg_tdiv]; omega
    rw [this]; omega
theorem kind34 (G : Nat → AV) (r : Int) (h1 : -9223372036854775808 ≤ r) (h2 : r ≤ 9223372036854775807) : PC Try.prog G 34 [I r] (I (kindN r)) := by
  obtain ⟨b1, b2⟩ := tdiv_b h1 h2
  unfold kindN
  by_cases e0 : r = 0
  · rw [if_pos e0]
    refine pc_ofV cop34 ?_
    repeat' ((conv => whnf); first | (with_reducible refine SeqP.go ?_) | ((with_reducible refine ObN.mk ?_ ?_); (focus (first | rfl | assumption | omega | (simp only [List.length_map, List.length_append, List.length_cons, List.length_nil]; omega) | (simp; done) | (simp; omega)))) | (with_reducible refine ObT.tt ?_) | ((with_reducible refine ObB.yes ?_ ?_); (focus (first | assumption | (with_reducible rfl) | omega))) | ((with_reducible refine ObI.mk _ rfl ?_ ?_ ?_); (focus omega); (focus omega)) | (with_reducible refine ObZ.mk _ rfl ?_) | ((with_reducible refine ObEq.i ?_); (focus (first | (with_reducible rfl) | omega))))
  rw [if_neg e0]
  by_cases e1 : r < 0
  · rw [if_pos e1]
    refine pc_ofV cop34 ?_
    repeat' ((conv => whnf); first | (with_reducible refine SeqP.go ?_) | ((with_reducible refine ObN.mk ?_ ?_); (focus (first | rfl | assumption | omega | (simp only [List.length_map, List.length_append, List.length_cons, List.length_nil]; omega) | (simp; done) | (simp; omega)))) | (with_reducible refine ObT.tt ?_) | (with_reducible refine ObT.ff ?_) | ((with_reducible refine ObB.yes ?_ ?_); (focus (first | assumption | (with_reducible rfl) | omega))) | ((with_reducible refine ObB.no ?_ ?_); (focus (first | assumption | omega))) | ((with_reducible refine ObI.mk _ rfl ?_ ?_ ?_); (focus omega); (focus omega)) | (with_reducible refine ObZ.mk _ rfl ?_) | ((with_reducible refine ObEq.i ?_); (focus (first | (with_reducible rfl) | omega))))
  rw [if_neg e1]
  by_cases e2 : okR r
  · rw [if_pos e2]
    unfold okR at e2
    refine pc_ofV cop34 ?_
    repeat' ((conv => whnf); first | (with_reducible refine SeqP.go ?_) | ((with_reducible refine ObN.mk ?_ ?_); (focus (first | rfl | assumption | omega | (simp only [List.length_map, List.length_append, List.length_cons, List.length_nil]; omega) | (simp; done) | (simp; omega)))) | (with_reducible refine ObT.tt ?_) | (with_reducible refine ObT.ff ?_) | ((with_reducible refine ObB.yes ?_ ?_); (focus (first | assumption | (with_reducible rfl) | omega))) | ((with_reducible refine ObB.no ?_ ?_); (focus (first | assumption | omega))) | ((with_reducible refine ObI.mk _ rfl ?_ ?_ ?_); (focus omega); (focus omega)) | (with_reducible refine ObZ.mk _ rfl ?_) | ((with_reducible refine ObEq.i ?_); (focus (first | (with_reducible rfl) | omega))))
  · rw [if_neg e2]
    unfold okR at e2
    refine pc_ofV cop34 ?_
    repeat' ((conv => whnf); first | (with_reducible refine SeqP.go ?_) | ((with_reducible refine ObN.mk ?_ ?_); (focus (first | rfl | assumption | omega | (simp only [List.length_map, List.length_append, List.length_cons, List.length_nil]; omega) | (simp; done) | (simp; omega)))) | (with_reducible refine ObT.tt ?_) | (with_reducible refine ObT.ff ?_) | ((with_reducible refine ObB.no ?_ ?_); (focus (first | assumption | omega))) | (with_reducible refine ObB.mk (fun h => ?_) (fun h => ?_)) | ((with_reducible refine ObI.mk _ rfl ?_ ?_ ?_); (focus omega); (focus omega)) | (with_reducible refine ObZ.mk _ rfl ?_) | ((with_reducible refine ObEq.i ?_); (focus (first | (with_reducible rfl) | omega))))
theorem kind1 {r : Int} : kindN r = 1 ↔ okR r := by
  unfold kindN
  by_cases h : okR r
  · have := h.1
    rw [if_neg (by omega), if_neg (by omega), if_pos h]; simp [h]
  · simp [h]; split; simp; split; simp; simp
theorem slot29 (G : Nat → AV) (r : Int) (h1 : -9223372036854775808 ≤ r) (h2 : r ≤ 9223372036854775807) : PC Try.prog G 29 [I r] (I (slotN r)) := by
  have hk := kind34 G r h1 h2
  by_cases e2 : okR r
  · have e := kind1.2 e2
    rw [e] at hk
    rw [slotN, if_pos e2]
    refine pc_ofV cop29 ?_
    repeat' ((conv => whnf); first | (with_reducible refine SeqP.go ?_) | ((with_reducible refine ObN.mk ?_ ?_); (focus (first | rfl | assumption | omega | (simp only [List.length_map, List.length_append, List.length_cons, List.length_nil]; omega) | (simp; done) | (simp; omega)))) | (with_reducible refine ObT.ff ?_) | ((with_reducible refine ObB.yes ?_ ?_); (focus (first | assumption | (with_reducible rfl) | omega))) | (with_reducible refine ObZ.mk _ rfl ?_) | ((with_reducible refine ObC.f 34 ?_); (first | (with_reducible refine ObC.mk _ (hk) ?_) | (refine ObC.mk _ (hk) ?_))) | ((with_reducible refine ObEq.i ?_); (focus (first | (with_reducible rfl) | omega))))
  · have e : ¬ kindN r = 1 := fun h => e2 (kind1.1 h)
    rw [slotN, if_neg e2]
    generalize kindN r = k at *
    refine pc_ofV cop29 ?_
    repeat' ((conv => whnf); first | (with_reducible refine SeqP.go ?_) | ((with_reducible refine ObN.mk ?_ ?_); (focus (first | rfl | assumption | omega | (simp only [List.length_map, List.length_append, List.length_cons, List.length_nil]; omega) | (simp; done) | (simp; omega)))) | (with_reducible refine ObT.tt ?_) | ((with_reducible refine ObB.no ?_ ?_); (focus (first | assumption | omega))) | ((with_reducible refine ObC.f 34 ?_); (first | (with_reducible refine ObC.mk _ (hk) ?_) | (refine ObC.mk _ (hk) ?_))) | ((with_reducible refine ObEq.i ?_); (focus (first | (with_reducible rfl) | omega))))
theorem inc33 (G : Nat → AV) (r : Int) (h1 : -9223372036854775808 ≤ r) (h2 : r ≤ 9223372036854775807) : PC Try.prog G 33 [I r] (I (incN r)) := by
  have hk := kind34 G r h1 h2
  obtain ⟨b1, b2⟩ := tdiv_b h1 h2
  by_cases e2 : okR r
  · have e := kind1.2 e2
    rw [e] at hk
    rw [incN, if_pos e2]
    refine pc_ofV cop33 ?_
    repeat' ((conv => whnf); first | (with_reducible refine SeqP.go ?_) | ((with_reducible refine ObN.mk ?_ ?_); (focus (first | rfl | assumption | omega | (simp only [List.length_map, List.length_append, List.length_cons, List.length_nil]; omega) | (simp; done) | (simp; omega)))) | (with_reducible refine ObT.ff ?_) | ((with_reducible refine ObB.yes ?_ ?_); (focus (first | assumption | (with_reducible rfl) | omega))) | ((with_reducible refine ObI.mk _ rfl ?_ ?_ ?_); (focus omega); (focus omega)) | ((with_reducible refine ObC.f 34 ?_); (first | (with_reducible refine ObC.mk _ (hk) ?_) | (refine ObC.mk _ (hk) ?_))) | ((with_reducible refine ObEq.i ?_); (focus (first | (with_reducible rfl) | omega))))
  · have e : ¬ kindN r = 1 := fun h => e2 (kind1.1 h)
    rw [incN, if_neg e2]
    generalize kindN r = k at *
    refine pc_ofV cop33 ?_
    repeat' ((conv => whnf); first | (with_reducible refine SeqP.go ?_) | ((with_reducible refine ObN.mk ?_ ?_); (focus (first | rfl | assumption | omega | (simp only [List.length_map, List.length_append, List.length_cons, List.length_nil]; omega) | (simp; done) | (simp; omega)))) | (with_reducible refine ObT.tt ?_) | ((with_reducible refine ObB.no ?_ ?_); (focus (first | assumption | omega))) | ((with_reducible refine ObC.f 34 ?_); (first | (with_reducible refine ObC.mk _ (hk) ?_) | (refine ObC.mk _ (hk) ?_))) | ((with_reducible refine ObEq.i ?_); (focus (first | (with_reducible rfl) | omega))))
theorem make32 (G : Nat → AV) (i c : Nat) (h1 : i < 1000) (h2 : 1 ≤ c) (h3 : c ≤ 1000000) : PC Try.prog G 32 [I ((i + 1 : Nat)), I (c : Nat)] (.tup [I ((1024 * c + (i + 1) : Nat)), I 0]) := by
  refine pc_ofV cop32 ?_
  repeat' ((conv => whnf); first | (with_reducible refine SeqP.go ?_) | ((with_reducible refine ObN.mk ?_ ?_); (focus (first | rfl | assumption | omega | (simp only [List.length_map, List.length_append, List.length_cons, List.length_nil]; omega) | (simp; done) | (simp; omega)))) | (with_reducible refine ObT.ff ?_) | ((with_reducible refine ObB.no ?_ ?_); (focus (first | assumption | omega))) | ((with_reducible refine ObI.mk (((1024 * c : Nat) : Int)) ?_ ?_ ?_ ?_); (focus omega); (focus omega); (focus omega)) | ((with_reducible refine ObI.nn ?_ ?_); (focus omega)) | ((with_reducible refine ObEq.mk ?_); (focus (first | rfl | assumption))))
theorem make27 (G : Nat → AV) (i c : Nat) (h1 : i < 1000) (h2 : 1 ≤ c) (h3 : c ≤ 1000000) : PC Try.prog G 27 [I ((i + 1 : Nat)), I (c : Nat)] (.tup [I ((1024 * c + (i + 1) : Nat)), I 0]) := by
  refine pc_ofV cop27 ?_
  repeat' ((conv => whnf); first | (with_reducible refine SeqP.go ?_) | ((with_reducible refine ObN.mk ?_ ?_); (focus (first | rfl | assumption | omega | (simp only [List.length_map, List.length_append, List.length_cons, List.length_nil]; omega) | (simp; done) | (simp; omega)))) | (with_reducible refine ObT.ff ?_) | ((with_reducible refine ObB.no ?_ ?_); (focus (first | assumption | omega))) | ((with_reducible refine ObI.mk (((1024 * c : Nat) : Int)) ?_ ?_ ?_ ?_); (focus omega); (focus omega); (focus omega)) | ((with_reducible refine ObI.nn ?_ ?_); (focus omega)) | ((with_reducible refine ObEq.mk ?_); (focus (first | rfl | assumption))))
/-- Of a reference that is above 0, its parts. -/
theorem parts35 (G : Nat → AV) (r : Int) (h1 : -9223372036854775808 ≤ r) (h2 : r ≤ 9223372036854775807) (q : Bool) (hq : q = true ↔ okR r) : PC Try.prog G 35 [I r] (.tup [I (r.tmod 1024), I (r.tdiv 1024), Bo q]) := by
  obtain ⟨b1, b2⟩ := tdiv_b h1 h2
  have hm : 0 ≤ r → 0 ≤ r.tmod 1024 ∧ r.tmod 1024 < 1024 := fun h => by rw [Int.tmod_eq_emod_of_nonneg h]; omega
  have hm2 : r ≤ 0 → r.tmod 1024 ≤ 0 := fun h => by
    have : r.tmod 1024 = -((-r) % 1024) := by rw [← Int.tmod_eq_emod_of_nonneg (by omega), Int.neg_tmod]; omega
    rw [this]; omega
  have h27 : ∃ x e, PC Try.prog G 27 [I (r.tmod 1024), I (r.tdiv 1024)] (.tup [I x, I e]) ∧ (e = 0 ↔ 1 ≤ r.tmod 1024 ∧ r.tmod 1024 ≤ 1000 ∧ 1 ≤ r.tdiv 1024 ∧ r.tdiv 1024 ≤ 4503599627370496) := by
    generalize r.tmod 1024 = a at *
    generalize r.tdiv 1024 = b at *
    by_cases c1 : 1 ≤ a ∧ a ≤ 1000
    · by_cases c2 : 1 ≤ b ∧ b ≤ 4503599627370496
      · refine ⟨1024 * b + a, 0, ?_, by omega⟩
        refine pc_ofV cop27 ?_
        repeat' ((conv => whnf); first | (with_reducible refine SeqP.go ?_) | ((with_reducible refine ObN.mk ?_ ?_); (focus (first | rfl | assumption | omega | (simp only [List.length_map, List.length_append, List.length_cons, List.length_nil]; omega) | (simp; done) | (simp; omega)))) | (with_reducible refine ObT.ff ?_) | ((with_reducible refine ObB.no ?_ ?_); (focus (first | assumption | omega))) | ((with_reducible refine ObI.mk ((1024 * b)) ?_ ?_ ?_ ?_); (focus omega); (focus omega); (focus omega)) | ((with_reducible refine ObI.mk ((1024 * b + a)) ?_ ?_ ?_ ?_); (focus omega); (focus omega); (focus omega)) | ((with_reducible refine ObEq.mk ?_); (focus (first | rfl | assumption))))
      · refine ⟨0, 8, ?_, by omega⟩
        refine pc_ofV cop27 ?_
        repeat' ((conv => whnf); first | (with_reducible refine SeqP.go ?_) | ((with_reducible refine ObN.mk ?_ ?_); (focus (first | rfl | assumption | omega | (simp only [List.length_map, List.length_append, List.length_cons, List.length_nil]; omega) | (simp; done) | (simp; omega)))) | (with_reducible refine ObT.tt ?_) | (with_reducible refine ObT.ff ?_) | ((with_reducible refine ObB.yes ?_ ?_); (focus (first | assumption | (with_reducible rfl) | omega))) | ((with_reducible refine ObB.no ?_ ?_); (focus (first | assumption | omega))) | (with_reducible refine ObB.mk (fun h => ?_) (fun h => ?_)) | ((with_reducible refine ObEq.mk ?_); (focus (first | rfl | assumption | exact (by exfalso; omega)))))
    · refine ⟨0, 2, ?_, by omega⟩
      refine pc_ofV cop27 ?_
      repeat' ((conv => whnf); first | (with_reducible refine SeqP.go ?_) | ((with_reducible refine ObN.mk ?_ ?_); (focus (first | rfl | assumption | omega | (simp only [List.length_map, List.length_append, List.length_cons, List.length_nil]; omega) | (simp; done) | (simp; omega)))) | (with_reducible refine ObT.tt ?_) | (with_reducible refine ObT.ff ?_) | ((with_reducible refine ObB.yes ?_ ?_); (focus (first | assumption | (with_reducible rfl) | omega))) | (with_reducible refine ObB.mk (fun h => ?_) (fun h => ?_)) | ((with_reducible refine ObEq.mk ?_); (focus (first | rfl | assumption | exact (by exfalso; omega)))))
  obtain ⟨x, e, h, he⟩ := h27
  have hq2 : q = true ↔ 0 < r ∧ e = 0 := by rw [hq, he]; unfold okR; omega
  clear hq he
  refine pc_ofV cop35 ?_
  cases q
  all_goals repeat' ((conv => whnf); first | (with_reducible refine SeqP.go ?_) | ((with_reducible refine ObN.mk ?_ ?_); (focus (first | rfl | assumption | omega | (simp only [List.length_map, List.length_append, List.length_cons, List.length_nil]; omega) | (simp; done) | (simp; omega)))) | (with_reducible refine ObT.tt ?_) | (with_reducible refine ObT.ff ?_) | (with_reducible refine ObB.mk (fun h => ?_) (fun h => ?_)) | ((with_reducible refine ObI.mk _ rfl ?_ ?_ ?_); (focus omega); (focus omega)) | (with_reducible refine ObZ.mk _ rfl ?_) | ((with_reducible refine ObC.f 27 ?_); (first | (with_reducible refine ObC.mk _ (h) ?_) | (refine ObC.mk _ (h) ?_))) | ((with_reducible refine ObEq.mk ?_); (focus (first | rfl | assumption | exact (by simp at hq2; simp; omega)))))
theorem slot30 (G : Nat → AV) (r : Int) (h1 : -9223372036854775808 ≤ r) (h2 : r ≤ 9223372036854775807) : PC Try.prog G 30 [I r] (I (slotN r)) := by
  by_cases e2 : okR r
  · have hk := parts35 G r h1 h2 true (by simp [e2])
    rw [slotN, if_pos e2]
    refine pc_ofV cop30 ?_
    repeat' ((conv => whnf); first | (with_reducible refine SeqP.go ?_) | (with_reducible refine ObT.tt ?_) | ((with_reducible refine ObC.f 35 ?_); (first | (with_reducible refine ObC.mk _ (hk) ?_) | (refine ObC.mk _ (hk) ?_))) | ((with_reducible refine ObEq.i ?_); (focus (first | (with_reducible rfl) | omega))))
  · have hk := parts35 G r h1 h2 false (by simp [e2])
    rw [slotN, if_neg e2]
    refine pc_ofV cop30 ?_
    repeat' ((conv => whnf); first | (with_reducible refine SeqP.go ?_) | (with_reducible refine ObT.ff ?_) | ((with_reducible refine ObC.f 35 ?_); (first | (with_reducible refine ObC.mk _ (hk) ?_) | (refine ObC.mk _ (hk) ?_))) | ((with_reducible refine ObEq.i ?_); (focus (first | (with_reducible rfl) | omega))))
theorem inc31 (G : Nat → AV) (r : Int) (h1 : -9223372036854775808 ≤ r) (h2 : r ≤ 9223372036854775807) : PC Try.prog G 31 [I r] (I (incN r)) := by
  by_cases e2 : okR r
  · have hk := parts35 G r h1 h2 true (by simp [e2])
    rw [incN, if_pos e2]
    refine pc_ofV cop31 ?_
    repeat' ((conv => whnf); first | (with_reducible refine SeqP.go ?_) | (with_reducible refine ObT.tt ?_) | ((with_reducible refine ObC.f 35 ?_); (first | (with_reducible refine ObC.mk _ (hk) ?_) | (refine ObC.mk _ (hk) ?_))) | ((with_reducible refine ObEq.i ?_); (focus (first | (with_reducible rfl) | omega))))
  · have hk := parts35 G r h1 h2 false (by simp [e2])
    rw [incN, if_neg e2]
    refine pc_ofV cop31 ?_
    repeat' ((conv => whnf); first | (with_reducible refine SeqP.go ?_) | (with_reducible refine ObT.ff ?_) | ((with_reducible refine ObC.f 35 ?_); (first | (with_reducible refine ObC.mk _ (hk) ?_) | (refine ObC.mk _ (hk) ?_))) | ((with_reducible refine ObEq.i ?_); (focus (first | (with_reducible rfl) | omega))))
theorem slotN_nn (r : Int) : 0 ≤ slotN r ∧ slotN r ≤ 1000 := by
  unfold slotN
  split
  · rename_i h; exact ⟨by have := h.2.1; omega, h.2.2.1⟩
  · omega
/-- Which slot a live reference has. -/
noncomputable def fnd (s : List Sl) (r : Int) : Option Nat :=
  match s[(slotN r - 1).toNat]? with
  | some x => if 1 ≤ slotN r ∧ x.2.2 = true ∧ (x.2.1 : Int) = incN r then some (slotN r - 1).toNat else none
  | none => none
theorem fnd_lt {s : List Sl} {r : Int} {i : Nat} (h : fnd s r = some i) : ∃ hi : i < s.length, slotN r = i + 1 ∧ s[i].2.2 = true ∧ (s[i].2.1 : Int) = incN r := by
  unfold fnd at h
  split at h
  · rename_i x hx
    split at h
    · rename_i hc
      obtain ⟨c1, c2, c3⟩ := hc
      cases h
      obtain ⟨hi, e⟩ := List.getElem?_eq_some_iff.1 hx
      exact ⟨hi, by omega, by rw [e]; exact c2, by rw [e]; exact c3⟩
    · cases h
  · cases h
theorem fnd_none {s : List Sl} {r : Int} (h : fnd s r = none) {i : Nat} (hi : i < s.length) (h1 : slotN r = i + 1) : ¬ (s[i].2.2 = true ∧ (s[i].2.1 : Int) = incN r) := by
  rintro ⟨h2, h3⟩
  unfold fnd at h
  have e : (slotN r - 1).toNat = i := by omega
  rw [e, List.getElem?_eq_getElem hi] at h
  simp only at h
  rw [if_pos ⟨by omega, h2, h3⟩] at h
  cases h
theorem sl_at {s : List Sl} {i : Nat} (h : i < s.length) : (s.map slA)[i]? = some (.agg [I s[i].1, I (s[i].2.1 : Nat), Bo s[i].2.2]) := by simp [h]
end Go.Proofs.Ytjaohiakpajgkaa.Sim
