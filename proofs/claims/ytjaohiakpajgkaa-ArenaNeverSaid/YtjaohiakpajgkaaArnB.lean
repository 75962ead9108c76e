/- Arenas: what each call does, by the program. -/
import Derived.Test.YtjaohiakpajgkaaArnA
namespace Go.Proofs.Ytjaohiakpajgkaa.Sim
open Go.RowKit
set_option maxRecDepth 100000
set_option linter.unusedSimpArgs false
set_option linter.unusedVariables false
/-- The rows of the program's arena: of none taken yet; of some; with a list of those that were freed. -/
abbrev aS (x y : AV) (n : Nat) : OB := ⟨56, 4, [.agg [Bo true, x, y, I (n : Nat)]], 0, 0⟩
abbrev aL (g : Nat) (s : List Sl) : OB := ⟨62, 3, s.map slA, g, 0⟩
abbrev aF (g : Nat) (f : List Nat) : OB := ⟨3, 1, f.map nA, g, 0⟩
def fR (g : Nat) : Option Nat → AV
  | some k => .tup [.oa 1 g k 0, I 0]
  | none => .tup [.v (.pointer none), I 9]
section
variable (G : Nat → AV)
theorem valid23 (x y : AV) (n : Nat) (R : Hp) : HC Try.prog G 23 [.oa 0 0 0 0] (aS x y n :: R) (Bo true) (aS x y n :: R) := by
  refine hc_ofV cop23 rfl ?_
  repeat' ((conv => whnf); first | (with_reducible refine SeqP.go ?_) | ((with_reducible refine ObN.mk ?_ ?_); (focus (first | rfl | assumption | omega | (simp only [List.length_map, List.length_append, List.length_cons, List.length_nil]; omega) | (simp; done) | (simp; omega)))) | (with_reducible refine ObT.tt ?_) | ((with_reducible refine (?_ : ObR _ _ _)); (first | (refine ObR.mk _ (by assumption) ?_) | (refine ObR.mk _ (by with_reducible rfl) ?_) | (refine ObR.map (by (first | omega | assumption | (simp only [List.length_map, List.length_append, List.length_cons, List.length_nil, List.length_take, List.length_drop, List.length_set, List.length_replicate]; omega))) (fun x hx => ?_)) | (refine ObR.mk _ rfl ?_))) | (exact ObEnd.eq rfl rfl))
theorem find28 (r : Int) (h1 : -9223372036854775808 ≤ r) (h2 : r ≤ 9223372036854775807) (g : Nat) (s : List Sl) (y : AV) (n : Nat) (hs : s.length ≤ 1000) (R : Hp) :
    HC Try.prog G 28 [.oa 0 0 0 0, I r] (aS (.ol 1 g s.length) y n :: aL g s :: R) (fR g (fnd s r)) (aS (.ol 1 g s.length) y n :: aL g s :: R) := by
  have c1 := slot29 G r h1 h2
  have c2 := inc33 G r h1 h2
  obtain ⟨n1, n2⟩ := slotN_nn r
  have hv := valid23 G (.ol 1 g s.length) y n (aL g s :: R)
  cases hf : fnd s r with
  | some k =>
    obtain ⟨hi, e1, e2, e3⟩ := fnd_lt hf
    have ha := sl_at hi
    rw [e1] at c1
    rw [← e3] at c2
    rw [e2] at ha
    simp only [fR]
    refine hc_ofV cop28 rfl ?_
    repeat' ((conv => whnf); first | (with_reducible refine SeqP.go ?_) | ((with_reducible refine ObD.mk ?_ ?_); (focus (first | rfl | (simp; done) | (simp [chkB, geB, AOp.cls, AOp.xs, ltB, ltC, AX.ev, undefA]; done)))) | ((with_reducible refine ObN.mk ?_ ?_); (focus (first | rfl | assumption | omega | (simp only [List.length_map, List.length_append, List.length_cons, List.length_nil]; omega) | (simp; done) | (simp; omega)))) | (with_reducible refine ObT.tt ?_) | (with_reducible refine ObT.ff ?_) | ((with_reducible refine ObB.yes ?_ ?_); (focus (first | assumption | (with_reducible rfl) | omega))) | ((with_reducible refine ObB.no ?_ ?_); (focus (first | assumption | omega))) | ((with_reducible refine ObI.mk ((k : Nat)) ?_ ?_ ?_ ?_); (focus omega); (focus omega); (focus omega)) | ((with_reducible refine ObX.mk _ rfl ?_ ?_); (focus (first | omega | assumption | (simp only [List.length_map, List.length_append, List.length_cons, List.length_nil, List.length_take, List.length_drop, List.length_set, List.length_replicate]; omega)))) | ((with_reducible refine (?_ : ObR _ _ _)); (first | (refine ObR.mk _ (by assumption) ?_) | (refine ObR.mk _ (by with_reducible rfl) ?_) | (refine ObR.map (by (first | omega | assumption | (simp only [List.length_map, List.length_append, List.length_cons, List.length_nil, List.length_take, List.length_drop, List.length_set, List.length_replicate]; omega))) (fun x hx => ?_)) | (refine ObR.mk _ rfl ?_))) | ((with_reducible refine ObH.f 23 ?_); (first | (with_reducible refine ObH.mk _ _ (hv) ?_) | (refine ObH.mk _ _ (hv) ?_))) | ((with_reducible refine ObC.f 29 ?_); (first | (with_reducible refine ObC.mk _ (c1) ?_) | (refine ObC.mk _ (c1) ?_))) | ((with_reducible refine ObC.f 33 ?_); (first | (with_reducible refine ObC.mk _ (c2) ?_) | (refine ObC.mk _ (c2) ?_))) | (exact ObEnd.eq rfl rfl))
  | none =>
    simp only [fR]
    have hc : slotN r = 0 ∨ ∃ i : Nat, slotN r = i + 1 := by
      by_cases h : slotN r = 0
      · exact .inl h
      · exact .inr ⟨(slotN r - 1).toNat, by omega⟩
    rcases hc with hc | ⟨i, hc⟩
    · rw [hc] at c1
      refine hc_ofV cop28 rfl ?_
      repeat' ((conv => whnf); first | (with_reducible refine SeqP.go ?_) | ((with_reducible refine ObD.mk ?_ ?_); (focus (first | rfl | (simp; done) | (simp [chkB, geB, AOp.cls, AOp.xs, ltB, ltC, AX.ev, undefA]; done)))) | ((with_reducible refine ObN.mk ?_ ?_); (focus (first | rfl | assumption | omega | (simp only [List.length_map, List.length_append, List.length_cons, List.length_nil]; omega) | (simp; done) | (simp; omega)))) | (with_reducible refine ObT.tt ?_) | (with_reducible refine ObT.ff ?_) | ((with_reducible refine ObB.yes ?_ ?_); (focus (first | assumption | (with_reducible rfl) | omega))) | ((with_reducible refine ObI.mk _ rfl ?_ ?_ ?_); (focus omega); (focus omega)) | ((with_reducible refine ObH.f 23 ?_); (first | (with_reducible refine ObH.mk _ _ (hv) ?_) | (refine ObH.mk _ _ (hv) ?_))) | ((with_reducible refine ObC.f 29 ?_); (first | (with_reducible refine ObC.mk _ (c1) ?_) | (refine ObC.mk _ (c1) ?_))) | (exact ObEnd.eq rfl rfl))
    · rw [hc] at c1
      by_cases hi : i < s.length
      · have ha := sl_at hi
        have hn := fnd_none hf hi hc
        cases ht : s[i].2.2 with
        | false =>
          rw [ht] at ha
          refine hc_ofV cop28 rfl ?_
          repeat' ((conv => whnf); first | (with_reducible refine SeqP.go ?_) | ((with_reducible refine ObD.mk ?_ ?_); (focus (first | rfl | (simp; done) | (simp [chkB, geB, AOp.cls, AOp.xs, ltB, ltC, AX.ev, undefA]; done)))) | ((with_reducible refine ObN.mk ?_ ?_); (focus (first | rfl | assumption | omega | (simp only [List.length_map, List.length_append, List.length_cons, List.length_nil]; omega) | (simp; done) | (simp; omega)))) | (with_reducible refine ObT.tt ?_) | (with_reducible refine ObT.ff ?_) | ((with_reducible refine ObB.no ?_ ?_); (focus (first | assumption | omega))) | ((with_reducible refine ObI.mk ((i : Nat)) ?_ ?_ ?_ ?_); (focus omega); (focus omega); (focus omega)) | ((with_reducible refine ObX.mk _ rfl ?_ ?_); (focus (first | omega | assumption | (simp only [List.length_map, List.length_append, List.length_cons, List.length_nil, List.length_take, List.length_drop, List.length_set, List.length_replicate]; omega)))) | ((with_reducible refine (?_ : ObR _ _ _)); (first | (refine ObR.mk _ (by assumption) ?_) | (refine ObR.mk _ (by with_reducible rfl) ?_) | (refine ObR.map (by (first | omega | assumption | (simp only [List.length_map, List.length_append, List.length_cons, List.length_nil, List.length_take, List.length_drop, List.length_set, List.length_replicate]; omega))) (fun x hx => ?_)) | (refine ObR.mk _ rfl ?_))) | ((with_reducible refine ObH.f 23 ?_); (first | (with_reducible refine ObH.mk _ _ (hv) ?_) | (refine ObH.mk _ _ (hv) ?_))) | ((with_reducible refine ObC.f 29 ?_); (first | (with_reducible refine ObC.mk _ (c1) ?_) | (refine ObC.mk _ (c1) ?_))) | (exact ObEnd.eq rfl rfl))
        | true =>
          rw [ht] at ha
          have hn : ¬ (s[i].2.1 : Int) = incN r := fun e => hn ⟨ht, e⟩
          refine hc_ofV cop28 rfl ?_
          repeat' ((conv => whnf); first | (with_reducible refine SeqP.go ?_) | ((with_reducible refine ObD.mk ?_ ?_); (focus (first | rfl | (simp; done) | (simp [chkB, geB, AOp.cls, AOp.xs, ltB, ltC, AX.ev, undefA]; done)))) | ((with_reducible refine ObN.mk ?_ ?_); (focus (first | rfl | assumption | omega | (simp only [List.length_map, List.length_append, List.length_cons, List.length_nil]; omega) | (simp; done) | (simp; omega)))) | (with_reducible refine ObT.tt ?_) | (with_reducible refine ObT.ff ?_) | ((with_reducible refine ObB.no ?_ ?_); (focus (first | assumption | omega))) | ((with_reducible refine ObI.mk ((i : Nat)) ?_ ?_ ?_ ?_); (focus omega); (focus omega); (focus omega)) | ((with_reducible refine ObX.mk _ rfl ?_ ?_); (focus (first | omega | assumption | (simp only [List.length_map, List.length_append, List.length_cons, List.length_nil, List.length_take, List.length_drop, List.length_set, List.length_replicate]; omega)))) | ((with_reducible refine (?_ : ObR _ _ _)); (first | (refine ObR.mk _ (by assumption) ?_) | (refine ObR.mk _ (by with_reducible rfl) ?_) | (refine ObR.map (by (first | omega | assumption | (simp only [List.length_map, List.length_append, List.length_cons, List.length_nil, List.length_take, List.length_drop, List.length_set, List.length_replicate]; omega))) (fun x hx => ?_)) | (refine ObR.mk _ rfl ?_))) | ((with_reducible refine ObH.f 23 ?_); (first | (with_reducible refine ObH.mk _ _ (hv) ?_) | (refine ObH.mk _ _ (hv) ?_))) | ((with_reducible refine ObC.f 29 ?_); (first | (with_reducible refine ObC.mk _ (c1) ?_) | (refine ObC.mk _ (c1) ?_))) | ((with_reducible refine ObC.f 33 ?_); (first | (with_reducible refine ObC.mk _ (c2) ?_) | (refine ObC.mk _ (c2) ?_))) | (exact ObEnd.eq rfl rfl))
      · refine hc_ofV cop28 rfl ?_
        repeat' ((conv => whnf); first | (with_reducible refine SeqP.go ?_) | ((with_reducible refine ObD.mk ?_ ?_); (focus (first | rfl | (simp; done) | (simp [chkB, geB, AOp.cls, AOp.xs, ltB, ltC, AX.ev, undefA]; done)))) | ((with_reducible refine ObN.mk ?_ ?_); (focus (first | rfl | assumption | omega | (simp only [List.length_map, List.length_append, List.length_cons, List.length_nil]; omega) | (simp; done) | (simp; omega)))) | (with_reducible refine ObT.tt ?_) | (with_reducible refine ObT.ff ?_) | ((with_reducible refine ObB.yes ?_ ?_); (focus (first | assumption | (with_reducible rfl) | omega))) | ((with_reducible refine ObB.no ?_ ?_); (focus (first | assumption | omega))) | ((with_reducible refine ObI.mk ((i : Nat)) ?_ ?_ ?_ ?_); (focus omega); (focus omega); (focus omega)) | ((with_reducible refine (?_ : ObR _ _ _)); (first | (refine ObR.mk _ (by assumption) ?_) | (refine ObR.mk _ (by with_reducible rfl) ?_) | (refine ObR.map (by (first | omega | assumption | (simp only [List.length_map, List.length_append, List.length_cons, List.length_nil, List.length_take, List.length_drop, List.length_set, List.length_replicate]; omega))) (fun x hx => ?_)) | (refine ObR.mk _ rfl ?_))) | ((with_reducible refine ObH.f 23 ?_); (first | (with_reducible refine ObH.mk _ _ (hv) ?_) | (refine ObH.mk _ _ (hv) ?_))) | ((with_reducible refine ObC.f 29 ?_); (first | (with_reducible refine ObC.mk _ (c1) ?_) | (refine ObC.mk _ (c1) ?_))) | (exact ObEnd.eq rfl rfl))
theorem fnd_nil (r : Int) : fnd [] r = none := by simp [fnd]
theorem find28n (r : Int) (h1 : -9223372036854775808 ≤ r) (h2 : r ≤ 9223372036854775807) (g : Nat) (y : AV) (n : Nat) (R : Hp) :
    HC Try.prog G 28 [.oa 0 0 0 0, I r] (aS (.nl 3) y n :: R) (fR g none) (aS (.nl 3) y n :: R) := by
  have c1 := slot29 G r h1 h2
  have c2 := inc33 G r h1 h2
  obtain ⟨n1, n2⟩ := slotN_nn r
  have hv := valid23 G (.nl 3) y n R
  generalize slotN r = q at *
  simp only [fR]
  refine hc_ofV cop28 rfl ?_
  repeat' ((conv => whnf); first | (with_reducible refine SeqP.go ?_) | ((with_reducible refine ObD.mk ?_ ?_); (focus (first | rfl | (simp; done) | (simp [chkB, geB, AOp.cls, AOp.xs, ltB, ltC, AX.ev, undefA]; done)))) | ((with_reducible refine ObN.mk ?_ ?_); (focus (first | rfl | assumption | omega | (simp only [List.length_map, List.length_append, List.length_cons, List.length_nil]; omega) | (simp; done) | (simp; omega)))) | (with_reducible refine ObT.tt ?_) | (with_reducible refine ObT.ff ?_) | ((with_reducible refine ObB.yes ?_ ?_); (focus (first | assumption | (with_reducible rfl) | omega))) | (with_reducible refine ObB.mk (fun h => ?_) (fun h => ?_)) | ((with_reducible refine ObI.mk _ rfl ?_ ?_ ?_); (focus omega); (focus omega)) | ((with_reducible refine (?_ : ObR _ _ _)); (first | (refine ObR.mk _ (by assumption) ?_) | (refine ObR.mk _ (by with_reducible rfl) ?_) | (refine ObR.map (by (first | omega | assumption | (simp only [List.length_map, List.length_append, List.length_cons, List.length_nil, List.length_take, List.length_drop, List.length_set, List.length_replicate]; omega))) (fun x hx => ?_)) | (refine ObR.mk _ rfl ?_))) | ((with_reducible refine ObH.f 23 ?_); (first | (with_reducible refine ObH.mk _ _ (hv) ?_) | (refine ObH.mk _ _ (hv) ?_))) | ((with_reducible refine ObC.f 29 ?_); (first | (with_reducible refine ObC.mk _ (c1) ?_) | (refine ObC.mk _ (c1) ?_))) | (exact ObEnd.eq rfl rfl))
/-- The value of a slot, or the error. -/
def gR (s : List Sl) : Option Nat → AV
  | some k => .tup [I ((s[k]?).getD (0, 0, false)).1, I 0]
  | none => .tup [I 0, I 9]
theorem live17 (r : Int) (h1 : -9223372036854775808 ≤ r) (h2 : r ≤ 9223372036854775807) (g : Nat) (s : List Sl) (y : AV) (n : Nat) (hs : s.length ≤ 1000) (R : Hp) :
    HC Try.prog G 17 [.oa 0 0 0 0, I r] (aS (.ol 1 g s.length) y n :: aL g s :: R) (Bo (fnd s r).isSome) (aS (.ol 1 g s.length) y n :: aL g s :: R) := by
  have h := find28 G r h1 h2 g s y n hs R
  generalize fnd s r = o at *
  cases o
  all_goals
    simp only [fR] at h
    simp only [Option.isSome_some, Option.isSome_none]
    refine hc_ofV cop17 rfl ?_
    repeat' ((conv => whnf); first | (with_reducible refine SeqP.go ?_) | ((with_reducible refine ObN.mk ?_ ?_); (focus (first | rfl | assumption | omega | (simp only [List.length_map, List.length_append, List.length_cons, List.length_nil]; omega) | (simp; done) | (simp; omega)))) | ((with_reducible refine ObB.yes ?_ ?_); (focus (first | assumption | (with_reducible rfl) | omega))) | ((with_reducible refine ObB.no ?_ ?_); (focus (first | assumption | omega))) | ((with_reducible refine ObH.f 28 ?_); (first | (with_reducible refine ObH.mk _ _ (h) ?_) | (refine ObH.mk _ _ (h) ?_))) | (exact ObEnd.eq rfl rfl))
theorem live17n (r : Int) (h1 : -9223372036854775808 ≤ r) (h2 : r ≤ 9223372036854775807) (y : AV) (n : Nat) (R : Hp) :
    HC Try.prog G 17 [.oa 0 0 0 0, I r] (aS (.nl 3) y n :: R) (Bo false) (aS (.nl 3) y n :: R) := by
  have h := find28n G r h1 h2 0 y n R
  simp only [fR] at h
  refine hc_ofV cop17 rfl ?_
  repeat' ((conv => whnf); first | (with_reducible refine SeqP.go ?_) | ((with_reducible refine ObN.mk ?_ ?_); (focus (first | rfl | assumption | omega | (simp only [List.length_map, List.length_append, List.length_cons, List.length_nil]; omega) | (simp; done) | (simp; omega)))) | ((with_reducible refine ObB.no ?_ ?_); (focus (first | assumption | omega))) | ((with_reducible refine ObH.f 28 ?_); (first | (with_reducible refine ObH.mk _ _ (h) ?_) | (refine ObH.mk _ _ (h) ?_))) | (exact ObEnd.eq rfl rfl))
theorem used18 (g : Nat) (s : List Sl) (g2 k n : Nat) (hs : s.length ≤ 1000) (hk : k ≤ s.length) (R : Hp) :
    HC Try.prog G 18 [.oa 0 0 0 0] (aS (.ol 1 g s.length) (.ol 2 g2 k) n :: R) (I ((s.length - k : Nat))) (aS (.ol 1 g s.length) (.ol 2 g2 k) n :: R) := by
  have hv := valid23 G (.ol 1 g s.length) (.ol 2 g2 k) n R
  refine hc_ofV cop18 rfl ?_
  repeat' ((conv => whnf); first | (with_reducible refine SeqP.go ?_) | ((with_reducible refine ObD.mk ?_ ?_); (focus (first | rfl | (simp; done) | (simp [chkB, geB, AOp.cls, AOp.xs, ltB, ltC, AX.ev, undefA]; done)))) | ((with_reducible refine ObN.mk ?_ ?_); (focus (first | rfl | assumption | omega | (simp only [List.length_map, List.length_append, List.length_cons, List.length_nil]; omega) | (simp; done) | (simp; omega)))) | (with_reducible refine ObT.tt ?_) | (with_reducible refine ObT.ff ?_) | ((with_reducible refine ObI.sn ?_ ?_ ?_); (focus omega); (focus omega)) | ((with_reducible refine (?_ : ObR _ _ _)); (first | (refine ObR.mk _ (by assumption) ?_) | (refine ObR.mk _ (by with_reducible rfl) ?_) | (refine ObR.map (by (first | omega | assumption | (simp only [List.length_map, List.length_append, List.length_cons, List.length_nil, List.length_take, List.length_drop, List.length_set, List.length_replicate]; omega))) (fun x hx => ?_)) | (refine ObR.mk _ rfl ?_))) | ((with_reducible refine ObH.f 23 ?_); (first | (with_reducible refine ObH.mk _ _ (hv) ?_) | (refine ObH.mk _ _ (hv) ?_))) | (exact ObEnd.eq rfl rfl))
theorem used18b (g : Nat) (s : List Sl) (n : Nat) (hs : s.length ≤ 1000) (R : Hp) :
    HC Try.prog G 18 [.oa 0 0 0 0] (aS (.ol 1 g s.length) (.nl 1) n :: R) (I (s.length : Nat)) (aS (.ol 1 g s.length) (.nl 1) n :: R) := by
  have hv := valid23 G (.ol 1 g s.length) (.nl 1) n R
  refine hc_ofV cop18 rfl ?_
  repeat' ((conv => whnf); first | (with_reducible refine SeqP.go ?_) | ((with_reducible refine ObD.mk ?_ ?_); (focus (first | rfl | (simp; done) | (simp [chkB, geB, AOp.cls, AOp.xs, ltB, ltC, AX.ev, undefA]; done)))) | ((with_reducible refine ObN.mk ?_ ?_); (focus (first | rfl | assumption | omega | (simp only [List.length_map, List.length_append, List.length_cons, List.length_nil]; omega) | (simp; done) | (simp; omega)))) | (with_reducible refine ObT.tt ?_) | (with_reducible refine ObT.ff ?_) | ((with_reducible refine ObI.sn ?_ ?_ ?_); (focus omega); (focus omega)) | ((with_reducible refine (?_ : ObR _ _ _)); (first | (refine ObR.mk _ (by assumption) ?_) | (refine ObR.mk _ (by with_reducible rfl) ?_) | (refine ObR.map (by (first | omega | assumption | (simp only [List.length_map, List.length_append, List.length_cons, List.length_nil, List.length_take, List.length_drop, List.length_set, List.length_replicate]; omega))) (fun x hx => ?_)) | (refine ObR.mk _ rfl ?_))) | ((with_reducible refine ObH.f 23 ?_); (first | (with_reducible refine ObH.mk _ _ (hv) ?_) | (refine ObH.mk _ _ (hv) ?_))) | (exact ObEnd.eq rfl rfl))
theorem used18n (n : Nat) (R : Hp) : HC Try.prog G 18 [.oa 0 0 0 0] (aS (.nl 3) (.nl 1) n :: R) (I 0) (aS (.nl 3) (.nl 1) n :: R) := by
  have hv := valid23 G (.nl 3) (.nl 1) n R
  refine hc_ofV cop18 rfl ?_
  repeat' ((conv => whnf); first | (with_reducible refine SeqP.go ?_) | ((with_reducible refine ObD.mk ?_ ?_); (focus (first | rfl | (simp; done) | (simp [chkB, geB, AOp.cls, AOp.xs, ltB, ltC, AX.ev, undefA]; done)))) | ((with_reducible refine ObN.mk ?_ ?_); (focus (first | rfl | assumption | omega | (simp only [List.length_map, List.length_append, List.length_cons, List.length_nil]; omega) | (simp; done) | (simp; omega)))) | (with_reducible refine ObT.tt ?_) | (with_reducible refine ObT.ff ?_) | ((with_reducible refine ObI.sn ?_ ?_ ?_); (focus omega); (focus omega)) | ((with_reducible refine (?_ : ObR _ _ _)); (first | (refine ObR.mk _ (by assumption) ?_) | (refine ObR.mk _ (by with_reducible rfl) ?_) | (refine ObR.map (by (first | omega | assumption | (simp only [List.length_map, List.length_append, List.length_cons, List.length_nil, List.length_take, List.length_drop, List.length_set, List.length_replicate]; omega))) (fun x hx => ?_)) | (refine ObR.mk _ rfl ?_))) | ((with_reducible refine ObH.f 23 ?_); (first | (with_reducible refine ObH.mk _ _ (hv) ?_) | (refine ObH.mk _ _ (hv) ?_))) | (exact ObEnd.eq rfl rfl))
/-- The reference to a slot. -/
theorem ref25 (g : Nat) (s : List Sl) (y : AV) (n i : Nat) (hi : i < s.length) (hs : s.length ≤ 1000) (h1 : 1 ≤ s[i].2.1) (h2 : s[i].2.1 ≤ 1000000) (R : Hp) :
    HC Try.prog G 25 [.oa 0 0 0 0, I (i : Nat)] (aS (.ol 1 g s.length) y n :: aL g s :: R) (I ((1024 * s[i].2.1 + (i + 1) : Nat))) (aS (.ol 1 g s.length) y n :: aL g s :: R) := by
  have h := make32 G i s[i].2.1 (by omega) h1 h2
  have ha := sl_at hi
  refine hc_ofV cop25 rfl ?_
  repeat' ((conv => whnf); first | (with_reducible refine SeqP.go ?_) | ((with_reducible refine ObN.mk ?_ ?_); (focus (first | rfl | assumption | omega | (simp only [List.length_map, List.length_append, List.length_cons, List.length_nil]; omega) | (simp; done) | (simp; omega)))) | ((with_reducible refine ObI.nl ?_ ?_); (focus omega)) | ((with_reducible refine ObX.mk _ rfl ?_ ?_); (focus (first | omega | assumption | (simp only [List.length_map, List.length_append, List.length_cons, List.length_nil, List.length_take, List.length_drop, List.length_set, List.length_replicate]; omega)))) | ((with_reducible refine (?_ : ObR _ _ _)); (first | (refine ObR.mk _ (by assumption) ?_) | (refine ObR.mk _ (by with_reducible rfl) ?_) | (refine ObR.map (by (first | omega | assumption | (simp only [List.length_map, List.length_append, List.length_cons, List.length_nil, List.length_take, List.length_drop, List.length_set, List.length_replicate]; omega))) (fun x hx => ?_)) | (refine ObR.mk _ rfl ?_))) | ((with_reducible refine ObC.f 32 ?_); (first | (with_reducible refine ObC.mk _ (h) ?_) | (refine ObC.mk _ (h) ?_))) | (exact ObEnd.eq rfl rfl))
theorem set_at {s : List Sl} {k : Nat} {x : Sl} : (s.map slA).set k (.agg [I x.1, I (x.2.1 : Nat), Bo x.2.2]) = (s.set k x).map slA := by rw [List.map_set]
theorem f_at {f : List Nat} {k : Nat} (h : k < f.length) : (f.map nA)[k]? = some (I (f[k] : Nat)) := by simp [h]
/-- Set of a live slot. -/
theorem set14 (r v : Int) (h1 : -9223372036854775808 ≤ r) (h2 : r ≤ 9223372036854775807) (g : Nat) (s : List Sl) (y : AV) (n : Nat) (hs : s.length ≤ 1000) (R : Hp) (k : Nat) (hk : fnd s r = some k) (x : Sl) (hx : x = (v, ((s[k]?).getD (0, 0, false)).2)) :
    HC Try.prog G 14 [.oa 0 0 0 0, I r, I v] (aS (.ol 1 g s.length) y n :: aL g s :: R) (I 0) (aS (.ol 1 g s.length) y n :: aL g (s.set k x) :: R) := by
  have h := find28 G r h1 h2 g s y n hs R
  obtain ⟨hi, e1, e2, e3⟩ := fnd_lt hk
  rw [List.getElem?_eq_getElem hi, Option.getD_some] at hx
  have ha := sl_at hi
  have hse : (s.map slA).set k (.agg [I v, I (s[k].2.1 : Nat), Bo s[k].2.2]) = (s.set k x).map slA := by rw [hx]; exact set_at (x := (v, s[k].2))
  rw [hk] at h
  simp only [fR] at h
  clear hx
  refine hc_ofV cop14 rfl ?_
  repeat' ((conv => whnf); first | (with_reducible refine SeqP.go ?_) | ((with_reducible refine ObD.mk ?_ ?_); (focus (first | rfl | (simp; done) | (simp [chkB, geB, AOp.cls, AOp.xs, ltB, ltC, AX.ev, undefA]; done)))) | ((with_reducible refine ObN.mk ?_ ?_); (focus (first | rfl | assumption | omega | (simp only [List.length_map, List.length_append, List.length_cons, List.length_nil]; omega) | (simp; done) | (simp; omega)))) | (with_reducible refine ObT.tt ?_) | ((with_reducible refine ObB.yes ?_ ?_); (focus (first | assumption | (with_reducible rfl) | omega))) | ((with_reducible refine (?_ : ObU _ _)); (refine ObU.mk _ (by first | exact hse | assumption | ((conv => lhs; simp only [List.set_cons_zero, List.set_cons_succ, List.take_succ_cons, List.take_zero, List.drop_succ_cons, List.drop_zero, List.nil_append, List.cons_append, List.append_nil, List.take_nil, List.drop_nil]); try rfl) | rfl) ?_)) | ((with_reducible refine (?_ : ObR _ _ _)); (first | (refine ObR.mk _ (by assumption) ?_) | (refine ObR.mk _ (by with_reducible rfl) ?_) | (refine ObR.map (by (first | omega | assumption | (simp only [List.length_map, List.length_append, List.length_cons, List.length_nil, List.length_take, List.length_drop, List.length_set, List.length_replicate]; omega))) (fun x hx => ?_)) | (refine ObR.mk _ rfl ?_))) | ((with_reducible refine ObH.f 28 ?_); (first | (with_reducible refine ObH.mk _ _ (h) ?_) | (refine ObH.mk _ _ (h) ?_))) | (exact ObEnd.eq rfl rfl))
theorem set14x (r v : Int) (h1 : -9223372036854775808 ≤ r) (h2 : r ≤ 9223372036854775807) (g : Nat) (s : List Sl) (y : AV) (n : Nat) (hs : s.length ≤ 1000) (R : Hp) (hk : fnd s r = none) :
    HC Try.prog G 14 [.oa 0 0 0 0, I r, I v] (aS (.ol 1 g s.length) y n :: aL g s :: R) (I 9) (aS (.ol 1 g s.length) y n :: aL g s :: R) := by
  have h := find28 G r h1 h2 g s y n hs R
  rw [hk] at h
  simp only [fR] at h
  refine hc_ofV cop14 rfl ?_
  repeat' ((conv => whnf); first | (with_reducible refine SeqP.go ?_) | ((with_reducible refine ObN.mk ?_ ?_); (focus (first | rfl | assumption | omega | (simp only [List.length_map, List.length_append, List.length_cons, List.length_nil]; omega) | (simp; done) | (simp; omega)))) | (with_reducible refine ObT.ff ?_) | ((with_reducible refine ObB.no ?_ ?_); (focus (first | assumption | omega))) | ((with_reducible refine ObH.f 28 ?_); (first | (with_reducible refine ObH.mk _ _ (h) ?_) | (refine ObH.mk _ _ (h) ?_))) | (exact ObEnd.eq rfl rfl))
theorem set14n (r v : Int) (h1 : -9223372036854775808 ≤ r) (h2 : r ≤ 9223372036854775807) (y : AV) (n : Nat) (R : Hp) :
    HC Try.prog G 14 [.oa 0 0 0 0, I r, I v] (aS (.nl 3) y n :: R) (I 9) (aS (.nl 3) y n :: R) := by
  have h := find28n G r h1 h2 0 y n R
  simp only [fR] at h
  refine hc_ofV cop14 rfl ?_
  repeat' ((conv => whnf); first | (with_reducible refine SeqP.go ?_) | ((with_reducible refine ObN.mk ?_ ?_); (focus (first | rfl | assumption | omega | (simp only [List.length_map, List.length_append, List.length_cons, List.length_nil]; omega) | (simp; done) | (simp; omega)))) | (with_reducible refine ObT.ff ?_) | ((with_reducible refine ObB.no ?_ ?_); (focus (first | assumption | omega))) | ((with_reducible refine ObH.f 28 ?_); (first | (with_reducible refine ObH.mk _ _ (h) ?_) | (refine ObH.mk _ _ (h) ?_))) | (exact ObEnd.eq rfl rfl))
theorem get16 (r : Int) (h1 : -9223372036854775808 ≤ r) (h2 : r ≤ 9223372036854775807) (g : Nat) (s : List Sl) (y : AV) (n : Nat) (hs : s.length ≤ 1000) (R : Hp) (k : Nat) (hk : fnd s r = some k) :
    HC Try.prog G 16 [.oa 0 0 0 0, I r] (aS (.ol 1 g s.length) y n :: aL g s :: R) (.tup [I ((s[k]?).getD (0, 0, false)).1, I 0]) (aS (.ol 1 g s.length) y n :: aL g s :: R) := by
  have h := find28 G r h1 h2 g s y n hs R
  obtain ⟨hi, e1, e2, e3⟩ := fnd_lt hk
  have ha := sl_at hi
  rw [List.getElem?_eq_getElem hi, Option.getD_some]
  rw [hk] at h
  simp only [fR] at h
  refine hc_ofV cop16 rfl ?_
  repeat' ((conv => whnf); first | (with_reducible refine SeqP.go ?_) | ((with_reducible refine ObN.mk ?_ ?_); (focus (first | rfl | assumption | omega | (simp only [List.length_map, List.length_append, List.length_cons, List.length_nil]; omega) | (simp; done) | (simp; omega)))) | (with_reducible refine ObT.ff ?_) | ((with_reducible refine ObB.yes ?_ ?_); (focus (first | assumption | (with_reducible rfl) | omega))) | ((with_reducible refine (?_ : ObR _ _ _)); (first | (refine ObR.mk _ (by assumption) ?_) | (refine ObR.mk _ (by with_reducible rfl) ?_) | (refine ObR.map (by (first | omega | assumption | (simp only [List.length_map, List.length_append, List.length_cons, List.length_nil, List.length_take, List.length_drop, List.length_set, List.length_replicate]; omega))) (fun x hx => ?_)) | (refine ObR.mk _ rfl ?_))) | ((with_reducible refine ObH.f 28 ?_); (first | (with_reducible refine ObH.mk _ _ (h) ?_) | (refine ObH.mk _ _ (h) ?_))) | (exact ObEnd.eq rfl rfl))
theorem free12x (r : Int) (h1 : -9223372036854775808 ≤ r) (h2 : r ≤ 9223372036854775807) (g : Nat) (s : List Sl) (y : AV) (n : Nat) (hs : s.length ≤ 1000) (R : Hp) (hk : fnd s r = none) :
    HC Try.prog G 12 [.oa 0 0 0 0, I r] (aS (.ol 1 g s.length) y n :: aL g s :: R) (I 9) (aS (.ol 1 g s.length) y n :: aL g s :: R) := by
  have h := find28 G r h1 h2 g s y n hs R
  rw [hk] at h
  simp only [fR] at h
  refine hc_ofV cop12 rfl ?_
  repeat' ((conv => whnf); first | (with_reducible refine SeqP.go ?_) | ((with_reducible refine ObN.mk ?_ ?_); (focus (first | rfl | assumption | omega | (simp only [List.length_map, List.length_append, List.length_cons, List.length_nil]; omega) | (simp; done) | (simp; omega)))) | (with_reducible refine ObT.ff ?_) | ((with_reducible refine ObB.no ?_ ?_); (focus (first | assumption | omega))) | ((with_reducible refine ObH.f 28 ?_); (first | (with_reducible refine ObH.mk _ _ (h) ?_) | (refine ObH.mk _ _ (h) ?_))) | (exact ObEnd.eq rfl rfl))
theorem free12n (r : Int) (h1 : -9223372036854775808 ≤ r) (h2 : r ≤ 9223372036854775807) (y : AV) (n : Nat) (R : Hp) :
    HC Try.prog G 12 [.oa 0 0 0 0, I r] (aS (.nl 3) y n :: R) (I 9) (aS (.nl 3) y n :: R) := by
  have h := find28n G r h1 h2 0 y n R
  simp only [fR] at h
  refine hc_ofV cop12 rfl ?_
  repeat' ((conv => whnf); first | (with_reducible refine SeqP.go ?_) | ((with_reducible refine ObN.mk ?_ ?_); (focus (first | rfl | assumption | omega | (simp only [List.length_map, List.length_append, List.length_cons, List.length_nil]; omega) | (simp; done) | (simp; omega)))) | (with_reducible refine ObT.ff ?_) | ((with_reducible refine ObB.no ?_ ?_); (focus (first | assumption | omega))) | ((with_reducible refine ObH.f 28 ?_); (first | (with_reducible refine ObH.mk _ _ (h) ?_) | (refine ObH.mk _ _ (h) ?_))) | (exact ObEnd.eq rfl rfl))
end
end Go.Proofs.Ytjaohiakpajgkaa.Sim
