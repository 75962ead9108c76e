/- Arenas: what each call does, by the document. -/
import Derived.Test.YtjaohiakpajgkaaArnC
namespace Go.Proofs.Ytjaohiakpajgkaa.Sim
open Go.RowKit
set_option maxRecDepth 100000
set_option linter.unusedSimpArgs false
set_option linter.unusedVariables false
abbrev fV (x : Sl) : AV := I x.1
abbrev fI (x : Sl) : AV := I (x.2.1 : Nat)
abbrev fB (x : Sl) : AV := Bo x.2.2
abbrev rS (n : Nat) (y : AV) : OB := ⟨43, 4, [.agg [.ol 1 0 n, .ol 2 0 n, .ol 3 0 n, y]], 0, 0⟩
abbrev rV (l : List Sl) : OB := ⟨3, 1, l.map fV, 0, 0⟩
abbrev rI (l : List Sl) : OB := ⟨3, 1, l.map fI, 0, 0⟩
abbrev rB (l : List Sl) : OB := ⟨4, 1, l.map fB, 0, 0⟩
abbrev rO (l : List Int) : OB := ⟨29, 1, l.map iA, 0, 0⟩
theorem v_at {s : List Sl} {i : Nat} {x : Sl} (h : s[i]? = some x) : (s.map fV)[i]? = some (I x.1) := by simp [h]
theorem n_at {s : List Sl} {i : Nat} {x : Sl} (h : s[i]? = some x) : (s.map fI)[i]? = some (I (x.2.1 : Nat)) := by simp [h]
theorem b_at {s : List Sl} {i : Nat} {x : Sl} (h : s[i]? = some x) : (s.map fB)[i]? = some (Bo x.2.2) := by simp [h]
theorem v_set {s : List Sl} {i : Nat} (x : Sl) : (s.map fV).set i (I x.1) = (s.set i x).map fV := by rw [List.map_set]
theorem n_set {s : List Sl} {i : Nat} (x : Sl) : (s.map fI).set i (I (x.2.1 : Nat)) = (s.set i x).map fI := by rw [List.map_set]
theorem b_set {s : List Sl} {i : Nat} (x : Sl) : (s.map fB).set i (Bo x.2.2) = (s.set i x).map fB := by rw [List.map_set]
theorem n_keep {l : List Sl} {i : Nat} {x : Sl} (hx : l[i]? = some x) : l.map fI = (l.set i (0, x.2.1, false)).map fI := by
  obtain ⟨hi, he⟩ := List.getElem?_eq_some_iff.1 hx
  apply List.ext_getElem?
  intro j
  rw [List.getElem?_map, List.getElem?_map, List.getElem?_set]
  by_cases h : i = j
  · subst h; rw [if_pos rfl, if_pos hi, hx]; rfl
  · rw [if_neg h]
theorem nr_v (s : List Sl) : (s.map fV).all nrB = true := by simp [nrB, AV.cells]
theorem nr_n (s : List Sl) : (s.map fI).all nrB = true := by simp [nrB, AV.cells]
theorem nr_b (s : List Sl) : (s.map fB).all nrB = true := by simp [nrB, AV.cells]
theorem cVu {n : Int} : pureRun Try.prog (convert 3 57 (.int .i64 n)) = some (.int .u64 (IntKind.u64.wrap n)) := cV_int (e := .int .i64) (by kernel_rfl) (by kernel_rfl)
theorem cVi {n : Int} : pureRun Try.prog (convert 57 3 (.int .u64 n)) = some (.int .i64 (IntKind.i64.wrap n)) := cV_int (e := .int .u64) (by kernel_rfl) (by kernel_rfl)
theorem bV_remu {P : Program} {t : TypeId} {xo yo : Operand} {a b : Int} (h : b ≠ 0) : binV P .rem t xo yo (.int .u64 a) (.int .u64 b) = some (.int .u64 (a.tmod b)) := by
  show pureRun P (do eqGuard .rem t xo yo (.int .u64 a) (.int .u64 b); Op.intDiv .rem .u64 a b) = _
  unfold Op.intDiv
  rw [if_neg h]; rfl
theorem wrapU (x : Int) : IntKind.u64.wrap x = x % 18446744073709551616 := rfl
/-- A number that goes round. -/
def rnd (x : Int) (n : Nat) : Nat := ((x % 18446744073709551616) % n).toNat
theorem rnd_lt {x : Int} {n : Nat} (h : 1 ≤ n) : rnd x n < n := by
  have h1 := Int.emod_nonneg (x % 18446744073709551616) (b := (n : Int)) (by omega)
  have h2 := Int.emod_lt_of_pos (x % 18446744073709551616) (b := (n : Int)) (by omega)
  unfold rnd; omega
theorem eRemU {P : Program} {H : Hp} {k : KK} {t : TypeId} {xo yo : Operand} {a b : Int} (hb : b ≠ 0) (hk : k (.v (.int .u64 (a.tmod b))) H) : ObE ((binA P H .rem t false xo yo (.v (.int .u64 a)) (.v (.int .u64 b))).map (·, H)) k :=
  ⟨_, _, by simp only [binA, conc, bV_remu hb, Bool.false_eq_true, if_false]; rfl, hk⟩
theorem among (G : Nat → AV) (x : Int) (n : Nat) (h : 1 ≤ n) (h' : n ≤ 9223372036854775807) : PC Try.prog G 9 [I x, I n] (I (rnd x n : Nat)) := by
  have e1 : ((n : Int) % 18446744073709551616) = n := Int.emod_eq_of_lt (by omega) (by omega)
  have e2 : (x % 18446744073709551616).tmod n = (rnd x n : Nat) := by
    rw [Int.tmod_eq_emod_of_nonneg (Int.emod_nonneg _ (by omega))]
    have h1 := Int.emod_nonneg (x % 18446744073709551616) (b := (n : Int)) (by omega)
    unfold rnd; omega
  have e4 := rnd_lt (x := x) h
  have u57 : (Try.prog).underlying 57 = some (.int .u64) := by kernel_rfl
  have u3 : (Try.prog).underlying 3 = some (.int .i64) := by kernel_rfl
  refine pc_ofV cop9 ?_
  repeat' ((conv => whnf); first | (with_reducible refine SeqP.go ?_) | ((with_reducible refine (?_ : ObE _ _)); (refine ObE.cv u3 u57 ?_)) | ((with_reducible refine (?_ : ObE _ _)); (refine ObE.cv u57 u3 ?_)) | ((with_reducible refine eRemU ?_ ?_); (focus omega)) | ((with_reducible refine ObN.mk ?_ ?_); (focus (first | rfl | assumption | omega | (simp only [List.length_map, List.length_append, List.length_cons, List.length_nil]; omega) | (simp; done) | (simp; omega)))) | (with_reducible refine ObT.ff ?_) | ((with_reducible refine ObB.no ?_ ?_); (focus (first | assumption | omega))) | ((with_reducible refine ObZ.wu ?_ ?_); (focus omega)) | (with_reducible refine ObZ.mk _ rfl ?_) | ((with_reducible refine ObEq.mk ?_); (focus (first | rfl | assumption | exact (by rw [wrapU, e2]; congr 2; exact wrapI (by omega) (by omega))))))
theorem i_at {l : List Int} {k : Nat} (h : k < l.length) : (l.map iA)[k]? = some (I l[k]) := by simp [h]
theorem refs20 (G : Nat → AV) (l : List Int) (hl : l.length ≤ 1000000) : PC Try.prog G 20 [.sl 1 (l.map iA), .sl 1 (l.map iA)] (Bo true) := by
  refine pc_ofV cop20 ?_
  repeat' ((conv => whnf); first | (with_reducible refine SeqP.go ?_) | ((with_reducible refine ObN.mk ?_ ?_); (focus (first | rfl | assumption | omega | (simp only [List.length_map, List.length_append, List.length_cons, List.length_nil]; omega) | (simp; done) | (simp; omega)))) | (with_reducible refine ObT.ff ?_) | ((with_reducible refine ObB.yes ?_ ?_); (focus (first | assumption | (with_reducible rfl) | omega))) | ((with_reducible refine (?_ : ObL _ _)); (refine ObL.mk _ (by first | exact (List.length_map _) | assumption | exact (List.length_map _).trans (by assumption) | exact List.length_map _ | rfl) ?_)))
  conv => whnf
  refine LoopP.go (α := Nat) (fun i => i ≤ l.length) (fun i => l.length - i) (fun i => [(4, some (Bo false)), (0, some (I i)), (5, none), (0, none), (0, none), (0, none), (0, none), (0, none), (0, none), (0, none), (0, none), (0, none), (0, none), (0, none), (0, none), (0, none), (0, none)]) (fun _ => []) 0 (Nat.zero_le _) (Fg.go ?_ rfl) ?_
  · repeat' ((conv => whnf); first | ((with_reducible refine ObEqs.mk ?_ ?_); (focus rfl)) | ((with_reducible refine ObEq1.i ?_ ?_); (focus (first | (with_reducible rfl) | omega))) | ((with_reducible refine ObEq1.mk ?_ ?_); (focus (first | rfl | assumption))) | exact True.intro)
  intro i hi
  have hlt : i < l.length ∨ i = l.length := by omega
  rcases hlt with hlt | rfl
  · have hq := i_at hlt
    repeat' ((conv => whnf); first | (with_reducible refine SeqP.go ?_) | ((with_reducible refine ObD.mk ?_ ?_); (focus (first | rfl | (simp; done)))) | ((with_reducible refine ObN.mk ?_ ?_); (focus (first | rfl | assumption | omega | (simp only [List.length_map, List.length_append, List.length_cons, List.length_nil]; omega) | (simp; done) | (simp; omega)))) | (with_reducible refine ObT.tt ?_) | (with_reducible refine ObT.ff ?_) | ((with_reducible refine ObB.yes ?_ ?_); (focus (first | assumption | (with_reducible rfl) | omega))) | ((with_reducible refine ObI.nl ?_ ?_); (focus omega)) | ((with_reducible refine ObX.mk _ rfl ?_ ?_); (focus (first | omega | assumption | (simp only [List.length_map, List.length_append, List.length_cons, List.length_nil, List.length_take, List.length_drop, List.length_set, List.length_replicate]; omega)))) | ((with_reducible refine (?_ : ObL _ _)); (refine ObL.mk _ (by first | exact (List.length_map _) | assumption | exact (List.length_map _).trans (by assumption) | exact List.length_map _ | rfl) ?_)) | ((with_reducible refine (?_ : ObR _ _ _)); (first | (refine ObR.mk _ (by assumption) ?_) | (refine ObR.mk _ (by with_reducible rfl) ?_) | (refine ObR.map (by (first | omega | assumption | (simp only [List.length_map, List.length_append, List.length_cons, List.length_nil, List.length_take, List.length_drop, List.length_set, List.length_replicate]; omega))) (fun x hx => ?_)) | (refine ObR.mk _ rfl ?_))))
    conv => whnf
    refine Again.mk (i + 1) ?_ ?_ (Fg.go ?_ rfl)
    · omega
    · omega
    repeat' ((conv => whnf); first | ((with_reducible refine ObEqs.mk ?_ ?_); (focus rfl)) | ((with_reducible refine ObEq1.i ?_ ?_); (focus (first | (with_reducible rfl) | omega))) | ((with_reducible refine ObEq1.mk ?_ ?_); (focus (first | rfl | assumption))) | exact True.intro)
  repeat' ((conv => whnf); first | (with_reducible refine SeqP.go ?_) | ((with_reducible refine ObN.mk ?_ ?_); (focus (first | rfl | assumption | omega | (simp only [List.length_map, List.length_append, List.length_cons, List.length_nil]; omega) | (simp; done) | (simp; omega)))) | (with_reducible refine ObT.ff ?_) | ((with_reducible refine ObB.no ?_ ?_); (focus (first | assumption | omega))) | ((with_reducible refine (?_ : ObL _ _)); (refine ObL.mk _ (by first | exact (List.length_map _) | assumption | exact (List.length_map _).trans (by assumption) | exact List.length_map _ | rfl) ?_)) | ((with_reducible refine ObEq.mk ?_); (focus (first | rfl | assumption))))
section
variable (G : Nat → AV)
def atI : Option Nat → Int
  | some k => (k : Nat)
  | none => -1
theorem at15 (r : Int) (h1 : -9223372036854775808 ≤ r) (h2 : r ≤ 9223372036854775807) (l : List Sl) (y : AV) (hs : l.length ≤ 1000) (R : Hp) :
    HC Try.prog G 15 [.oa 0 0 0 0, I r] (rS l.length y :: rV l :: rI l :: rB l :: R) (I (atI (fnd l r))) (rS l.length y :: rV l :: rI l :: rB l :: R) := by
  have c1 := slot30 G r h1 h2
  have c2 := inc31 G r h1 h2
  obtain ⟨n1, n2⟩ := slotN_nn r
  cases hf : fnd l r with
  | some k =>
    obtain ⟨hi, e1, e2, e3⟩ := fnd_lt hf
    have ha := n_at (List.getElem?_eq_getElem hi)
    have hb := b_at (List.getElem?_eq_getElem hi)
    rw [e1] at c1
    rw [← e3] at c2
    rw [e2] at hb
    simp only [atI]
    refine hc_ofV cop15 rfl ?_
    repeat' ((conv => whnf); first | (with_reducible refine SeqP.go ?_) | ((with_reducible refine ObD.mk ?_ ?_); (focus (first | rfl | (simp; done) | (simp [chkB, geB, AOp.cls, AOp.xs, ltB, ltC, AX.ev, undefA]; done)))) | ((with_reducible refine ObN.mk ?_ ?_); (focus (first | rfl | assumption | omega | (simp only [List.length_map, List.length_append, List.length_cons, List.length_nil]; omega) | (simp; done) | (simp; omega)))) | (with_reducible refine ObT.tt ?_) | (with_reducible refine ObT.ff ?_) | ((with_reducible refine ObB.yes ?_ ?_); (focus (first | assumption | (with_reducible rfl) | omega))) | ((with_reducible refine ObB.no ?_ ?_); (focus (first | assumption | omega))) | ((with_reducible refine ObI.mk ((k : Nat)) ?_ ?_ ?_ ?_); (focus omega); (focus omega); (focus omega)) | ((with_reducible refine ObX.mk _ rfl ?_ ?_); (focus (first | omega | assumption | (simp only [List.length_map, List.length_append, List.length_cons, List.length_nil, List.length_take, List.length_drop, List.length_set, List.length_replicate]; omega)))) | ((with_reducible refine (?_ : ObR _ _ _)); (first | (refine ObR.mk _ (by assumption) ?_) | (refine ObR.mk _ (by with_reducible rfl) ?_) | (refine ObR.map (by (first | omega | assumption | (simp only [List.length_map, List.length_append, List.length_cons, List.length_nil, List.length_take, List.length_drop, List.length_set, List.length_replicate]; omega))) (fun x hx => ?_)) | (refine ObR.mk _ rfl ?_))) | ((with_reducible refine ObC.f 30 ?_); (first | (with_reducible refine ObC.mk _ (c1) ?_) | (refine ObC.mk _ (c1) ?_))) | ((with_reducible refine ObC.f 31 ?_); (first | (with_reducible refine ObC.mk _ (c2) ?_) | (refine ObC.mk _ (c2) ?_))) | (exact ObEnd.eq rfl rfl))
  | none =>
    simp only [atI]
    have hc : slotN r = 0 ∨ ∃ i : Nat, slotN r = i + 1 := by
      by_cases h : slotN r = 0
      · exact .inl h
      · exact .inr ⟨(slotN r - 1).toNat, by omega⟩
    rcases hc with hc | ⟨i, hc⟩
    · rw [hc] at c1
      refine hc_ofV cop15 rfl ?_
      repeat' ((conv => whnf); first | (with_reducible refine SeqP.go ?_) | ((with_reducible refine ObD.mk ?_ ?_); (focus (first | rfl | (simp; done) | (simp [chkB, geB, AOp.cls, AOp.xs, ltB, ltC, AX.ev, undefA]; done)))) | ((with_reducible refine ObN.mk ?_ ?_); (focus (first | rfl | assumption | omega | (simp only [List.length_map, List.length_append, List.length_cons, List.length_nil]; omega) | (simp; done) | (simp; omega)))) | (with_reducible refine ObT.tt ?_) | ((with_reducible refine ObB.yes ?_ ?_); (focus (first | assumption | (with_reducible rfl) | omega))) | ((with_reducible refine ObI.mk _ rfl ?_ ?_ ?_); (focus omega); (focus omega)) | ((with_reducible refine ObC.f 30 ?_); (first | (with_reducible refine ObC.mk _ (c1) ?_) | (refine ObC.mk _ (c1) ?_))) | (exact ObEnd.eq rfl rfl))
    · rw [hc] at c1
      by_cases hi : i < l.length
      · have ha := n_at (List.getElem?_eq_getElem hi)
        have hb := b_at (List.getElem?_eq_getElem hi)
        have hn := fnd_none hf hi hc
        cases ht : l[i].2.2 with
        | false =>
          rw [ht] at hb
          refine hc_ofV cop15 rfl ?_
          repeat' ((conv => whnf); first | (with_reducible refine SeqP.go ?_) | ((with_reducible refine ObD.mk ?_ ?_); (focus (first | rfl | (simp; done) | (simp [chkB, geB, AOp.cls, AOp.xs, ltB, ltC, AX.ev, undefA]; done)))) | ((with_reducible refine ObN.mk ?_ ?_); (focus (first | rfl | assumption | omega | (simp only [List.length_map, List.length_append, List.length_cons, List.length_nil]; omega) | (simp; done) | (simp; omega)))) | (with_reducible refine ObT.tt ?_) | (with_reducible refine ObT.ff ?_) | ((with_reducible refine ObB.no ?_ ?_); (focus (first | assumption | omega))) | ((with_reducible refine ObI.mk ((i : Nat)) ?_ ?_ ?_ ?_); (focus omega); (focus omega); (focus omega)) | ((with_reducible refine ObX.mk _ rfl ?_ ?_); (focus (first | omega | assumption | (simp only [List.length_map, List.length_append, List.length_cons, List.length_nil, List.length_take, List.length_drop, List.length_set, List.length_replicate]; omega)))) | ((with_reducible refine (?_ : ObR _ _ _)); (first | (refine ObR.mk _ (by assumption) ?_) | (refine ObR.mk _ (by with_reducible rfl) ?_) | (refine ObR.map (by (first | omega | assumption | (simp only [List.length_map, List.length_append, List.length_cons, List.length_nil, List.length_take, List.length_drop, List.length_set, List.length_replicate]; omega))) (fun x hx => ?_)) | (refine ObR.mk _ rfl ?_))) | ((with_reducible refine ObC.f 30 ?_); (first | (with_reducible refine ObC.mk _ (c1) ?_) | (refine ObC.mk _ (c1) ?_))) | (exact ObEnd.eq rfl rfl))
        | true =>
          rw [ht] at hb
          have hn : ¬ (l[i].2.1 : Int) = incN r := fun e => hn ⟨ht, e⟩
          refine hc_ofV cop15 rfl ?_
          repeat' ((conv => whnf); first | (with_reducible refine SeqP.go ?_) | ((with_reducible refine ObD.mk ?_ ?_); (focus (first | rfl | (simp; done) | (simp [chkB, geB, AOp.cls, AOp.xs, ltB, ltC, AX.ev, undefA]; done)))) | ((with_reducible refine ObN.mk ?_ ?_); (focus (first | rfl | assumption | omega | (simp only [List.length_map, List.length_append, List.length_cons, List.length_nil]; omega) | (simp; done) | (simp; omega)))) | (with_reducible refine ObT.tt ?_) | (with_reducible refine ObT.ff ?_) | ((with_reducible refine ObB.no ?_ ?_); (focus (first | assumption | omega))) | ((with_reducible refine ObI.mk ((i : Nat)) ?_ ?_ ?_ ?_); (focus omega); (focus omega); (focus omega)) | ((with_reducible refine ObX.mk _ rfl ?_ ?_); (focus (first | omega | assumption | (simp only [List.length_map, List.length_append, List.length_cons, List.length_nil, List.length_take, List.length_drop, List.length_set, List.length_replicate]; omega)))) | ((with_reducible refine (?_ : ObR _ _ _)); (first | (refine ObR.mk _ (by assumption) ?_) | (refine ObR.mk _ (by with_reducible rfl) ?_) | (refine ObR.map (by (first | omega | assumption | (simp only [List.length_map, List.length_append, List.length_cons, List.length_nil, List.length_take, List.length_drop, List.length_set, List.length_replicate]; omega))) (fun x hx => ?_)) | (refine ObR.mk _ rfl ?_))) | ((with_reducible refine ObC.f 30 ?_); (first | (with_reducible refine ObC.mk _ (c1) ?_) | (refine ObC.mk _ (c1) ?_))) | ((with_reducible refine ObC.f 31 ?_); (first | (with_reducible refine ObC.mk _ (c2) ?_) | (refine ObC.mk _ (c2) ?_))) | (exact ObEnd.eq rfl rfl))
      · refine hc_ofV cop15 rfl ?_
        repeat' ((conv => whnf); first | (with_reducible refine SeqP.go ?_) | ((with_reducible refine ObD.mk ?_ ?_); (focus (first | rfl | (simp; done) | (simp [chkB, geB, AOp.cls, AOp.xs, ltB, ltC, AX.ev, undefA]; done)))) | ((with_reducible refine ObN.mk ?_ ?_); (focus (first | rfl | assumption | omega | (simp only [List.length_map, List.length_append, List.length_cons, List.length_nil]; omega) | (simp; done) | (simp; omega)))) | (with_reducible refine ObT.tt ?_) | (with_reducible refine ObT.ff ?_) | ((with_reducible refine ObB.yes ?_ ?_); (focus (first | assumption | (with_reducible rfl) | omega))) | ((with_reducible refine ObB.no ?_ ?_); (focus (first | assumption | omega))) | ((with_reducible refine ObI.mk ((i : Nat)) ?_ ?_ ?_ ?_); (focus omega); (focus omega); (focus omega)) | ((with_reducible refine (?_ : ObR _ _ _)); (first | (refine ObR.mk _ (by assumption) ?_) | (refine ObR.mk _ (by with_reducible rfl) ?_) | (refine ObR.map (by (first | omega | assumption | (simp only [List.length_map, List.length_append, List.length_cons, List.length_nil, List.length_take, List.length_drop, List.length_set, List.length_replicate]; omega))) (fun x hx => ?_)) | (refine ObR.mk _ rfl ?_))) | ((with_reducible refine ObC.f 30 ?_); (first | (with_reducible refine ObC.mk _ (c1) ?_) | (refine ObC.mk _ (c1) ?_))) | (exact ObEnd.eq rfl rfl))
theorem next26p (l : List Sl) (g k : Nat) (f : List Nat) (hk : k < f.length) (hf : f.length ≤ 1000000) (R : Hp) :
    HC Try.prog G 26 [.oa 0 0 0 0] (rS l.length (.ol 4 g (k + 1)) :: rV l :: rI l :: rB l :: aF g f :: R) (I (f[k] : Nat)) (rS l.length (.ol 4 g (k + 1)) :: rV l :: rI l :: rB l :: aF g f :: R) := by
  have ha := f_at hk
  refine hc_ofV cop26 rfl ?_
  repeat' ((conv => whnf); first | (with_reducible refine SeqP.go ?_) | ((with_reducible refine ObN.mk ?_ ?_); (focus (first | rfl | assumption | omega | (simp only [List.length_map, List.length_append, List.length_cons, List.length_nil]; omega) | (simp; done) | (simp; omega)))) | (with_reducible refine ObT.tt ?_) | ((with_reducible refine ObB.yes ?_ ?_); (focus (first | assumption | (with_reducible rfl) | omega))) | ((with_reducible refine ObI.mk ((k : Nat)) ?_ ?_ ?_ ?_); (focus omega); (focus omega); (focus omega)) | ((with_reducible refine ObX.mk _ rfl ?_ ?_); (focus (first | omega | assumption | (simp only [List.length_map, List.length_append, List.length_cons, List.length_nil, List.length_take, List.length_drop, List.length_set, List.length_replicate]; omega)))) | ((with_reducible refine (?_ : ObR _ _ _)); (first | (refine ObR.mk _ (by assumption) ?_) | (refine ObR.mk _ (by with_reducible rfl) ?_) | (refine ObR.map (by (first | omega | assumption | (simp only [List.length_map, List.length_append, List.length_cons, List.length_nil, List.length_take, List.length_drop, List.length_set, List.length_replicate]; omega))) (fun x hx => ?_)) | (refine ObR.mk _ rfl ?_))) | (exact ObEnd.eq rfl rfl))
theorem next26z (l : List Sl) (q : Nat) (hs : l.length ≤ 1000) (hq : q < l.length) (h0 : ∀ (i : Nat) (x : Sl), i < q → l[i]? = some x → ¬ x.2.1 = 0) (x : Sl) (hx : l[q]? = some x) (hz : x.2.1 = 0) (y : AV) (hy : y = .nl 1 ∨ ∃ g, y = .ol 4 g 0) (R : Hp) :
    HC Try.prog G 26 [.oa 0 0 0 0] (rS l.length y :: rV l :: rI l :: rB l :: R) (I (q : Nat)) (rS l.length y :: rV l :: rI l :: rB l :: R) := by
  refine hc_ofV cop26 rfl ?_
  rcases hy with rfl | ⟨g, rfl⟩
  all_goals
    repeat' ((conv => whnf); first | (with_reducible refine SeqP.go ?_) | ((with_reducible refine ObN.mk ?_ ?_); (focus (first | rfl | assumption | omega | (simp only [List.length_map, List.length_append, List.length_cons, List.length_nil]; omega) | (simp; done) | (simp; omega)))) | (with_reducible refine ObT.ff ?_) | ((with_reducible refine ObB.no ?_ ?_); (focus (first | assumption | omega))) | ((with_reducible refine (?_ : ObR _ _ _)); (first | (refine ObR.mk _ (by assumption) ?_) | (refine ObR.mk _ (by with_reducible rfl) ?_) | (refine ObR.map (by (first | omega | assumption | (simp only [List.length_map, List.length_append, List.length_cons, List.length_nil, List.length_take, List.length_drop, List.length_set, List.length_replicate]; omega))) (fun x hx => ?_)) | (refine ObR.mk _ rfl ?_))))
    conv => whnf
  · refine LoopP.go (α := Nat) (fun i => i ≤ q) (fun i => l.length - i) (fun i => [(2, none), (1, some (I i)), (15, none), (0, none), (0, none), (0, none), (0, none), (0, none), (0, none), (0, none), (0, none), (0, none), (0, none), (0, none), (0, none), (0, none), (0, none), (0, none), (0, none), (0, none)]) (fun _ => rS l.length (.nl 1) :: rV l :: rI l :: rB l :: R) 0 (Nat.zero_le _) (Fg.go ?_ rfl) ?_
    · repeat' ((conv => whnf); first | ((with_reducible refine ObEqs.mk ?_ ?_); (focus rfl)) | ((with_reducible refine ObEq1.i ?_ ?_); (focus (first | (with_reducible rfl) | omega))) | exact True.intro)
    intro i hi
    have hil : i < l.length := by omega
    by_cases hiq : i = q
    · subst hiq
      have ha := n_at hx
      rw [hz] at ha
      repeat' ((conv => whnf); first | (with_reducible refine SeqP.go ?_) | ((with_reducible refine ObN.mk ?_ ?_); (focus (first | rfl | assumption | omega | (simp only [List.length_map, List.length_append, List.length_cons, List.length_nil]; omega) | (simp; done) | (simp; omega)))) | (with_reducible refine ObT.tt ?_) | ((with_reducible refine ObB.yes ?_ ?_); (focus (first | assumption | (with_reducible rfl) | omega))) | ((with_reducible refine ObX.mk _ rfl ?_ ?_); (focus (first | omega | assumption | (simp only [List.length_map, List.length_append, List.length_cons, List.length_nil, List.length_take, List.length_drop, List.length_set, List.length_replicate]; omega)))) | ((with_reducible refine (?_ : ObR _ _ _)); (first | (refine ObR.mk _ (by assumption) ?_) | (refine ObR.mk _ (by with_reducible rfl) ?_) | (refine ObR.map (by (first | omega | assumption | (simp only [List.length_map, List.length_append, List.length_cons, List.length_nil, List.length_take, List.length_drop, List.length_set, List.length_replicate]; omega))) (fun x hx => ?_)) | (refine ObR.mk _ rfl ?_))) | (exact ObEnd.eq rfl rfl))
    · have ha := n_at (List.getElem?_eq_getElem hil)
      have hn := h0 i _ (by omega) (List.getElem?_eq_getElem hil)
      repeat' ((conv => whnf); first | (with_reducible refine SeqP.go ?_) | ((with_reducible refine ObN.mk ?_ ?_); (focus (first | rfl | assumption | omega | (simp only [List.length_map, List.length_append, List.length_cons, List.length_nil]; omega) | (simp; done) | (simp; omega)))) | (with_reducible refine ObT.tt ?_) | (with_reducible refine ObT.ff ?_) | ((with_reducible refine ObB.yes ?_ ?_); (focus (first | assumption | (with_reducible rfl) | omega))) | ((with_reducible refine ObB.no ?_ ?_); (focus (first | assumption | omega))) | ((with_reducible refine ObI.nl ?_ ?_); (focus omega)) | ((with_reducible refine ObX.mk _ rfl ?_ ?_); (focus (first | omega | assumption | (simp only [List.length_map, List.length_append, List.length_cons, List.length_nil, List.length_take, List.length_drop, List.length_set, List.length_replicate]; omega)))) | ((with_reducible refine (?_ : ObR _ _ _)); (first | (refine ObR.mk _ (by assumption) ?_) | (refine ObR.mk _ (by with_reducible rfl) ?_) | (refine ObR.map (by (first | omega | assumption | (simp only [List.length_map, List.length_append, List.length_cons, List.length_nil, List.length_take, List.length_drop, List.length_set, List.length_replicate]; omega))) (fun x hx => ?_)) | (refine ObR.mk _ rfl ?_))))
      conv => whnf
      refine Again.mk (i + 1) ?_ ?_ (Fg.go ?_ rfl)
      · omega
      · omega
      repeat' ((conv => whnf); first | ((with_reducible refine ObEqs.mk ?_ ?_); (focus rfl)) | ((with_reducible refine ObEq1.i ?_ ?_); (focus (first | (with_reducible rfl) | omega))) | exact True.intro)
  · refine LoopP.go (α := Nat) (fun i => i ≤ q) (fun i => l.length - i) (fun i => [(2, none), (1, some (I i)), (15, none), (0, none), (0, none), (0, none), (0, none), (0, none), (0, none), (0, none), (0, none), (0, none), (0, none), (0, none), (0, none), (0, none), (0, none), (0, none), (0, none), (0, none)]) (fun _ => rS l.length (.ol 4 g 0) :: rV l :: rI l :: rB l :: R) 0 (Nat.zero_le _) (Fg.go ?_ rfl) ?_
    · repeat' ((conv => whnf); first | ((with_reducible refine ObEqs.mk ?_ ?_); (focus rfl)) | ((with_reducible refine ObEq1.i ?_ ?_); (focus (first | (with_reducible rfl) | omega))) | exact True.intro)
    intro i hi
    have hil : i < l.length := by omega
    by_cases hiq : i = q
    · subst hiq
      have ha := n_at hx
      rw [hz] at ha
      repeat' ((conv => whnf); first | (with_reducible refine SeqP.go ?_) | ((with_reducible refine ObN.mk ?_ ?_); (focus (first | rfl | assumption | omega | (simp only [List.length_map, List.length_append, List.length_cons, List.length_nil]; omega) | (simp; done) | (simp; omega)))) | (with_reducible refine ObT.tt ?_) | ((with_reducible refine ObB.yes ?_ ?_); (focus (first | assumption | (with_reducible rfl) | omega))) | ((with_reducible refine ObX.mk _ rfl ?_ ?_); (focus (first | omega | assumption | (simp only [List.length_map, List.length_append, List.length_cons, List.length_nil, List.length_take, List.length_drop, List.length_set, List.length_replicate]; omega)))) | ((with_reducible refine (?_ : ObR _ _ _)); (first | (refine ObR.mk _ (by assumption) ?_) | (refine ObR.mk _ (by with_reducible rfl) ?_) | (refine ObR.map (by (first | omega | assumption | (simp only [List.length_map, List.length_append, List.length_cons, List.length_nil, List.length_take, List.length_drop, List.length_set, List.length_replicate]; omega))) (fun x hx => ?_)) | (refine ObR.mk _ rfl ?_))) | (exact ObEnd.eq rfl rfl))
    · have ha := n_at (List.getElem?_eq_getElem hil)
      have hn := h0 i _ (by omega) (List.getElem?_eq_getElem hil)
      repeat' ((conv => whnf); first | (with_reducible refine SeqP.go ?_) | ((with_reducible refine ObN.mk ?_ ?_); (focus (first | rfl | assumption | omega | (simp only [List.length_map, List.length_append, List.length_cons, List.length_nil]; omega) | (simp; done) | (simp; omega)))) | (with_reducible refine ObT.tt ?_) | (with_reducible refine ObT.ff ?_) | ((with_reducible refine ObB.yes ?_ ?_); (focus (first | assumption | (with_reducible rfl) | omega))) | ((with_reducible refine ObB.no ?_ ?_); (focus (first | assumption | omega))) | ((with_reducible refine ObI.nl ?_ ?_); (focus omega)) | ((with_reducible refine ObX.mk _ rfl ?_ ?_); (focus (first | omega | assumption | (simp only [List.length_map, List.length_append, List.length_cons, List.length_nil, List.length_take, List.length_drop, List.length_set, List.length_replicate]; omega)))) | ((with_reducible refine (?_ : ObR _ _ _)); (first | (refine ObR.mk _ (by assumption) ?_) | (refine ObR.mk _ (by with_reducible rfl) ?_) | (refine ObR.map (by (first | omega | assumption | (simp only [List.length_map, List.length_append, List.length_cons, List.length_nil, List.length_take, List.length_drop, List.length_set, List.length_replicate]; omega))) (fun x hx => ?_)) | (refine ObR.mk _ rfl ?_))))
      conv => whnf
      refine Again.mk (i + 1) ?_ ?_ (Fg.go ?_ rfl)
      · omega
      · omega
      repeat' ((conv => whnf); first | ((with_reducible refine ObEqs.mk ?_ ?_); (focus rfl)) | ((with_reducible refine ObEq1.i ?_ ?_); (focus (first | (with_reducible rfl) | omega))) | exact True.intro)
theorem next26f (l : List Sl) (hs : l.length ≤ 1000) (h0 : ∀ (i : Nat) (x : Sl), l[i]? = some x → ¬ x.2.1 = 0) (y : AV) (hy : y = .nl 1 ∨ ∃ g, y = .ol 4 g 0) (R : Hp) :
    HC Try.prog G 26 [.oa 0 0 0 0] (rS l.length y :: rV l :: rI l :: rB l :: R) (I (-1)) (rS l.length y :: rV l :: rI l :: rB l :: R) := by
  refine hc_ofV cop26 rfl ?_
  rcases hy with rfl | ⟨g, rfl⟩
  all_goals
    repeat' ((conv => whnf); first | (with_reducible refine SeqP.go ?_) | ((with_reducible refine ObN.mk ?_ ?_); (focus (first | rfl | assumption | omega | (simp only [List.length_map, List.length_append, List.length_cons, List.length_nil]; omega) | (simp; done) | (simp; omega)))) | (with_reducible refine ObT.ff ?_) | ((with_reducible refine ObB.no ?_ ?_); (focus (first | assumption | omega))) | ((with_reducible refine (?_ : ObR _ _ _)); (first | (refine ObR.mk _ (by assumption) ?_) | (refine ObR.mk _ (by with_reducible rfl) ?_) | (refine ObR.map (by (first | omega | assumption | (simp only [List.length_map, List.length_append, List.length_cons, List.length_nil, List.length_take, List.length_drop, List.length_set, List.length_replicate]; omega))) (fun x hx => ?_)) | (refine ObR.mk _ rfl ?_))))
    conv => whnf
  · refine LoopP.go (α := Nat) (fun i => i ≤ l.length) (fun i => l.length - i) (fun i => [(2, none), (1, some (I i)), (15, none), (0, none), (0, none), (0, none), (0, none), (0, none), (0, none), (0, none), (0, none), (0, none), (0, none), (0, none), (0, none), (0, none), (0, none), (0, none), (0, none), (0, none)]) (fun _ => rS l.length (.nl 1) :: rV l :: rI l :: rB l :: R) 0 (Nat.zero_le _) (Fg.go ?_ rfl) ?_
    · repeat' ((conv => whnf); first | ((with_reducible refine ObEqs.mk ?_ ?_); (focus rfl)) | ((with_reducible refine ObEq1.i ?_ ?_); (focus (first | (with_reducible rfl) | omega))) | exact True.intro)
    intro i hi
    by_cases hil : i < l.length
    · have ha := n_at (List.getElem?_eq_getElem hil)
      have hn := h0 i _ (List.getElem?_eq_getElem hil)
      repeat' ((conv => whnf); first | (with_reducible refine SeqP.go ?_) | ((with_reducible refine ObN.mk ?_ ?_); (focus (first | rfl | assumption | omega | (simp only [List.length_map, List.length_append, List.length_cons, List.length_nil]; omega) | (simp; done) | (simp; omega)))) | (with_reducible refine ObT.tt ?_) | (with_reducible refine ObT.ff ?_) | ((with_reducible refine ObB.yes ?_ ?_); (focus (first | assumption | (with_reducible rfl) | omega))) | ((with_reducible refine ObB.no ?_ ?_); (focus (first | assumption | omega))) | ((with_reducible refine ObI.nl ?_ ?_); (focus omega)) | ((with_reducible refine ObX.mk _ rfl ?_ ?_); (focus (first | omega | assumption | (simp only [List.length_map, List.length_append, List.length_cons, List.length_nil, List.length_take, List.length_drop, List.length_set, List.length_replicate]; omega)))) | ((with_reducible refine (?_ : ObR _ _ _)); (first | (refine ObR.mk _ (by assumption) ?_) | (refine ObR.mk _ (by with_reducible rfl) ?_) | (refine ObR.map (by (first | omega | assumption | (simp only [List.length_map, List.length_append, List.length_cons, List.length_nil, List.length_take, List.length_drop, List.length_set, List.length_replicate]; omega))) (fun x hx => ?_)) | (refine ObR.mk _ rfl ?_))))
      conv => whnf
      refine Again.mk (i + 1) ?_ ?_ (Fg.go ?_ rfl)
      · omega
      · omega
      repeat' ((conv => whnf); first | ((with_reducible refine ObEqs.mk ?_ ?_); (focus rfl)) | ((with_reducible refine ObEq1.i ?_ ?_); (focus (first | (with_reducible rfl) | omega))) | exact True.intro)
    · repeat' ((conv => whnf); first | (with_reducible refine SeqP.go ?_) | ((with_reducible refine ObN.mk ?_ ?_); (focus (first | rfl | assumption | omega | (simp only [List.length_map, List.length_append, List.length_cons, List.length_nil]; omega) | (simp; done) | (simp; omega)))) | (with_reducible refine ObT.ff ?_) | ((with_reducible refine ObB.no ?_ ?_); (focus (first | assumption | omega))) | ((with_reducible refine (?_ : ObR _ _ _)); (first | (refine ObR.mk _ (by assumption) ?_) | (refine ObR.mk _ (by with_reducible rfl) ?_) | (refine ObR.map (by (first | omega | assumption | (simp only [List.length_map, List.length_append, List.length_cons, List.length_nil, List.length_take, List.length_drop, List.length_set, List.length_replicate]; omega))) (fun x hx => ?_)) | (refine ObR.mk _ rfl ?_))) | (exact ObEnd.eq rfl rfl))
  · refine LoopP.go (α := Nat) (fun i => i ≤ l.length) (fun i => l.length - i) (fun i => [(2, none), (1, some (I i)), (15, none), (0, none), (0, none), (0, none), (0, none), (0, none), (0, none), (0, none), (0, none), (0, none), (0, none), (0, none), (0, none), (0, none), (0, none), (0, none), (0, none), (0, none)]) (fun _ => rS l.length (.ol 4 g 0) :: rV l :: rI l :: rB l :: R) 0 (Nat.zero_le _) (Fg.go ?_ rfl) ?_
    · repeat' ((conv => whnf); first | ((with_reducible refine ObEqs.mk ?_ ?_); (focus rfl)) | ((with_reducible refine ObEq1.i ?_ ?_); (focus (first | (with_reducible rfl) | omega))) | exact True.intro)
    intro i hi
    by_cases hil : i < l.length
    · have ha := n_at (List.getElem?_eq_getElem hil)
      have hn := h0 i _ (List.getElem?_eq_getElem hil)
      repeat' ((conv => whnf); first | (with_reducible refine SeqP.go ?_) | ((with_reducible refine ObN.mk ?_ ?_); (focus (first | rfl | assumption | omega | (simp only [List.length_map, List.length_append, List.length_cons, List.length_nil]; omega) | (simp; done) | (simp; omega)))) | (with_reducible refine ObT.tt ?_) | (with_reducible refine ObT.ff ?_) | ((with_reducible refine ObB.yes ?_ ?_); (focus (first | assumption | (with_reducible rfl) | omega))) | ((with_reducible refine ObB.no ?_ ?_); (focus (first | assumption | omega))) | ((with_reducible refine ObI.nl ?_ ?_); (focus omega)) | ((with_reducible refine ObX.mk _ rfl ?_ ?_); (focus (first | omega | assumption | (simp only [List.length_map, List.length_append, List.length_cons, List.length_nil, List.length_take, List.length_drop, List.length_set, List.length_replicate]; omega)))) | ((with_reducible refine (?_ : ObR _ _ _)); (first | (refine ObR.mk _ (by assumption) ?_) | (refine ObR.mk _ (by with_reducible rfl) ?_) | (refine ObR.map (by (first | omega | assumption | (simp only [List.length_map, List.length_append, List.length_cons, List.length_nil, List.length_take, List.length_drop, List.length_set, List.length_replicate]; omega))) (fun x hx => ?_)) | (refine ObR.mk _ rfl ?_))))
      conv => whnf
      refine Again.mk (i + 1) ?_ ?_ (Fg.go ?_ rfl)
      · omega
      · omega
      repeat' ((conv => whnf); first | ((with_reducible refine ObEqs.mk ?_ ?_); (focus rfl)) | ((with_reducible refine ObEq1.i ?_ ?_); (focus (first | (with_reducible rfl) | omega))) | exact True.intro)
    · repeat' ((conv => whnf); first | (with_reducible refine SeqP.go ?_) | ((with_reducible refine ObN.mk ?_ ?_); (focus (first | rfl | assumption | omega | (simp only [List.length_map, List.length_append, List.length_cons, List.length_nil]; omega) | (simp; done) | (simp; omega)))) | (with_reducible refine ObT.ff ?_) | ((with_reducible refine ObB.no ?_ ?_); (focus (first | assumption | omega))) | ((with_reducible refine (?_ : ObR _ _ _)); (first | (refine ObR.mk _ (by assumption) ?_) | (refine ObR.mk _ (by with_reducible rfl) ?_) | (refine ObR.map (by (first | omega | assumption | (simp only [List.length_map, List.length_append, List.length_cons, List.length_nil, List.length_take, List.length_drop, List.length_set, List.length_replicate]; omega))) (fun x hx => ?_)) | (refine ObR.mk _ rfl ?_))) | (exact ObEnd.eq rfl rfl))
/-- Take of the document's arena. -/
theorem take11p (l : List Sl) (g k : Nat) (f : List Nat) (v : Int) (hk : k < f.length) (hf : f.length ≤ 1000000) (hs : l.length ≤ 1000) (x : Sl) (i : Nat) (hi : f[k] = i) (hx : l[i]? = some x) (hx2 : x.2.1 ≤ 999999) :
    HC Try.prog G 11 [.oa 0 0 0 0, I v] [rS l.length (.ol 4 g (k + 1)), rV l, rI l, rB l, aF g f] (.tup [I ((1024 * (x.2.1 + 1) + (i + 1) : Nat)), I 0]) [rS l.length (.ol 4 g k), rV (l.set i (v, x.2.1 + 1, true)), rI (l.set i (v, x.2.1 + 1, true)), rB (l.set i (v, x.2.1 + 1, true)), aF g f] := by
  have hn := next26p G l g k f hk hf []
  rw [hi] at hn
  obtain ⟨hil, he⟩ := List.getElem?_eq_some_iff.1 hx
  have hv := v_set (s := l) (i := i) (v, x.2.1 + 1, true)
  have hnn := n_set (s := l) (i := i) (v, x.2.1 + 1, true)
  have hb := b_set (s := l) (i := i) (v, x.2.1 + 1, true)
  have a1 := v_at hx
  have a2 := n_at hx
  have a3 := b_at hx
  have a4 : ((l.set i (v, x.2.1 + 1, true)).map fI)[i]? = some (I ((x.2.1 + 1 : Nat))) := n_at (x := (v, x.2.1 + 1, true)) (by simp [hil])
  have hm := make27 G i (x.2.1 + 1) (by omega) (by omega) (by omega)
  refine hc_ofV cop11 rfl ?_
  repeat' ((conv => whnf); first | (with_reducible refine SeqP.go ?_) | exact SameP.mk rfl rfl | (with_reducible refine ObAnd.mk ?_ ?_) | (with_reducible refine ObDx.same ?_) | ((with_reducible refine ObD.mk ?_ ?_); (focus (first | rfl | (simp; done)))) | ((with_reducible refine ObN.mk ?_ ?_); (focus (first | rfl | assumption | omega | (simp only [List.length_map, List.length_append, List.length_cons, List.length_nil]; omega) | (simp; done) | (simp; omega)))) | (with_reducible refine ObT.tt ?_) | (with_reducible refine ObT.ff ?_) | ((with_reducible refine ObB.yes ?_ ?_); (focus (first | assumption | (with_reducible rfl) | omega))) | ((with_reducible refine ObB.no ?_ ?_); (focus (first | assumption | omega))) | ((with_reducible refine ObI.mk ((k : Nat)) ?_ ?_ ?_ ?_); (focus omega); (focus omega); (focus omega)) | ((with_reducible refine ObI.nl ?_ ?_); (focus omega)) | ((with_reducible refine ObX.mk _ rfl ?_ ?_); (focus (first | omega | assumption | (simp only [List.length_map, List.length_append, List.length_cons, List.length_nil, List.length_take, List.length_drop, List.length_set, List.length_replicate]; omega)))) | ((with_reducible refine ObY.mk _ rfl ?_ ?_); (focus (first | omega | assumption | (simp only [List.length_map, List.length_append, List.length_cons, List.length_nil, List.length_take, List.length_drop, List.length_set, List.length_replicate]; omega)))) | ((with_reducible refine (?_ : ObU _ _)); (refine ObU.mk _ (by first | exact hv | exact hnn | exact hb | assumption | ((conv => lhs; simp only [List.set_cons_zero, List.set_cons_succ, List.take_succ_cons, List.take_zero, List.drop_succ_cons, List.drop_zero, List.nil_append, List.cons_append, List.append_nil, List.take_nil, List.drop_nil]); try rfl) | rfl) ?_)) | ((with_reducible refine (?_ : ObR _ _ _)); (first | (refine ObR.mk _ (by assumption) ?_) | (refine ObR.mk _ (by with_reducible rfl) ?_) | (refine ObR.map (by (first | omega | assumption | (simp only [List.length_map, List.length_append, List.length_cons, List.length_nil, List.length_take, List.length_drop, List.length_set, List.length_replicate]; omega))) (fun x hx => ?_)) | (refine ObR.mk _ rfl ?_))) | ((with_reducible refine ObH.f 26 ?_); (first | (with_reducible refine ObH.mk _ _ (hn) ?_) | (refine ObH.mk _ _ (hn) ?_))) | ((with_reducible refine ObC.f 27 ?_); (first | (with_reducible refine ObC.mk _ (hm) ?_) | (refine ObC.mk _ (hm) ?_))) | ((with_reducible refine ObO.l ?_); (with_reducible refine ObN.mk ?_ ?_); (focus (first | rfl | omega))) | (exact ObEnd.eq rfl rfl))
theorem take11f (l : List Sl) (v : Int) (hs : l.length ≤ 1000) (h0 : ∀ (i : Nat) (x : Sl), l[i]? = some x → ¬ x.2.1 = 0) (y : AV) (hy : y = .nl 1 ∨ ∃ g, y = .ol 4 g 0) (R : Hp) :
    HC Try.prog G 11 [.oa 0 0 0 0, I v] (rS l.length y :: rV l :: rI l :: rB l :: R) (.tup [I 0, I 7]) (rS l.length y :: rV l :: rI l :: rB l :: R) := by
  have hn := next26f G l hs h0 y hy R
  refine hc_ofV cop11 rfl ?_
  repeat' ((conv => whnf); first | (with_reducible refine SeqP.go ?_) | ((with_reducible refine ObN.mk ?_ ?_); (focus (first | rfl | assumption | omega | (simp only [List.length_map, List.length_append, List.length_cons, List.length_nil]; omega) | (simp; done) | (simp; omega)))) | (with_reducible refine ObT.tt ?_) | ((with_reducible refine ObB.yes ?_ ?_); (focus (first | assumption | (with_reducible rfl) | omega))) | ((with_reducible refine ObH.f 26 ?_); (first | (with_reducible refine ObH.mk _ _ (hn) ?_) | (refine ObH.mk _ _ (hn) ?_))) | (exact ObEnd.eq rfl rfl))
set_option maxHeartbeats 2000000 in
theorem take11z (l : List Sl) (q : Nat) (v : Int) (hs : l.length ≤ 1000) (hq : q < l.length) (h0 : ∀ (i : Nat) (x : Sl), i < q → l[i]? = some x → ¬ x.2.1 = 0) (x : Sl) (hx : l[q]? = some x) (hz : x.2.1 = 0) (y : AV) (hy : y = .nl 1 ∨ ∃ g, y = .ol 4 g 0) (R : Hp) :
    HC Try.prog G 11 [.oa 0 0 0 0, I v] (rS l.length y :: rV l :: rI l :: rB l :: R) (.tup [I ((1024 * 1 + (q + 1) : Nat)), I 0]) (rS l.length y :: rV (l.set q (v, 1, true)) :: rI (l.set q (v, 1, true)) :: rB (l.set q (v, 1, true)) :: R) := by
  have hn := next26z G l q hs hq h0 x hx hz y hy R
  have hv := v_set (s := l) (i := q) (v, 1, true)
  have hnn := n_set (s := l) (i := q) (v, 1, true)
  have hb := b_set (s := l) (i := q) (v, 1, true)
  have a1 := v_at hx
  have a2 := n_at hx
  have a3 := b_at hx
  rw [hz] at a2
  have a4 : ((l.set q (v, 1, true)).map fI)[q]? = some (I ((1 : Nat))) := n_at (x := (v, 1, true)) (by simp [hq])
  have hm := make27 G q 1 (by omega) (by omega) (by omega)
  refine hc_ofV cop11 rfl ?_
  rcases hy with rfl | ⟨g, rfl⟩
  all_goals repeat' ((conv => whnf); first | (with_reducible refine SeqP.go ?_) | exact SameP.mk rfl rfl | (with_reducible refine ObAnd.mk ?_ ?_) | (with_reducible refine ObDx.same ?_) | ((with_reducible refine ObD.mk ?_ ?_); (focus (first | rfl | (simp; done) | (simp [chkB, geB, AOp.cls, AOp.xs, ltB, ltC, AX.ev, undefA]; done)))) | ((with_reducible refine ObN.mk ?_ ?_); (focus (first | rfl | assumption | omega | (simp only [List.length_map, List.length_append, List.length_cons, List.length_nil]; omega) | (simp; done) | (simp; omega)))) | (with_reducible refine ObT.ff ?_) | ((with_reducible refine ObB.no ?_ ?_); (focus (first | assumption | omega))) | ((with_reducible refine ObI.mk ((1 : Nat)) ?_ ?_ ?_ ?_); (focus omega); (focus omega); (focus omega)) | ((with_reducible refine ObI.nl ?_ ?_); (focus omega)) | ((with_reducible refine ObX.mk _ rfl ?_ ?_); (focus (first | omega | assumption | (simp only [List.length_map, List.length_append, List.length_cons, List.length_nil, List.length_take, List.length_drop, List.length_set, List.length_replicate]; omega)))) | ((with_reducible refine (?_ : ObU _ _)); (refine ObU.mk _ (by first | exact hv | exact hnn | exact hb | assumption | ((conv => lhs; simp only [List.set_cons_zero, List.set_cons_succ, List.take_succ_cons, List.take_zero, List.drop_succ_cons, List.drop_zero, List.nil_append, List.cons_append, List.append_nil, List.take_nil, List.drop_nil]); try rfl) | rfl) ?_)) | ((with_reducible refine (?_ : ObR _ _ _)); (first | (refine ObR.mk _ (by assumption) ?_) | (refine ObR.mk _ (by with_reducible rfl) ?_) | (refine ObR.map (by (first | omega | assumption | (simp only [List.length_map, List.length_append, List.length_cons, List.length_nil, List.length_take, List.length_drop, List.length_set, List.length_replicate]; omega))) (fun x hx => ?_)) | (refine ObR.mk _ rfl ?_))) | ((with_reducible refine ObH.f 26 ?_); (first | (with_reducible refine ObH.mk _ _ (hn) ?_) | (refine ObH.mk _ _ (hn) ?_))) | ((with_reducible refine ObC.f 27 ?_); (first | (with_reducible refine ObC.mk _ (hm) ?_) | (refine ObC.mk _ (hm) ?_))) | (exact ObEnd.eq rfl rfl))
set_option maxHeartbeats 2000000 in
theorem free13x (r : Int) (h1 : -9223372036854775808 ≤ r) (h2 : r ≤ 9223372036854775807) (l : List Sl) (y : AV) (hs : l.length ≤ 1000) (R : Hp) (hk : fnd l r = none) :
    HC Try.prog G 13 [.oa 0 0 0 0, I r] (rS l.length y :: rV l :: rI l :: rB l :: R) (I 9) (rS l.length y :: rV l :: rI l :: rB l :: R) := by
  have h := at15 G r h1 h2 l y hs R
  rw [hk] at h
  simp only [atI] at h
  refine hc_ofV cop13 rfl ?_
  repeat' ((conv => whnf); first | (with_reducible refine SeqP.go ?_) | ((with_reducible refine ObN.mk ?_ ?_); (focus (first | rfl | assumption | omega | (simp only [List.length_map, List.length_append, List.length_cons, List.length_nil]; omega) | (simp; done) | (simp; omega)))) | (with_reducible refine ObT.tt ?_) | ((with_reducible refine ObB.yes ?_ ?_); (focus (first | assumption | (with_reducible rfl) | omega))) | ((with_reducible refine ObH.f 15 ?_); (first | (with_reducible refine ObH.mk _ _ (h) ?_) | (refine ObH.mk _ _ (h) ?_))) | (exact ObEnd.eq rfl rfl))
set_option maxHeartbeats 2000000 in
theorem free13a (r : Int) (h1 : -9223372036854775808 ≤ r) (h2 : r ≤ 9223372036854775807) (l : List Sl) (hs : l.length ≤ 1000) (i : Nat) (x : Sl) (hk : fnd l r = some i) (hx : l[i]? = some x) :
    HC Try.prog G 13 [.oa 0 0 0 0, I r] [rS l.length (.nl 1), rV l, rI l, rB l] (I 0) [rS l.length (.ol 4 0 1), rV (l.set i (0, x.2.1, false)), rI (l.set i (0, x.2.1, false)), rB (l.set i (0, x.2.1, false)), aF 0 [i]] := by
  have h := at15 G r h1 h2 l (.nl 1) hs []
  rw [hk] at h
  simp only [atI] at h
  obtain ⟨hi, e1, e2, e3⟩ := fnd_lt hk
  have hv := v_set (s := l) (i := i) (0, x.2.1, false)
  have hb := b_set (s := l) (i := i) (0, x.2.1, false)
  have hn : l.map fI = (l.set i (0, x.2.1, false)).map fI := by
    exact n_keep hx
  have a1 := v_at hx
  have a3 := b_at hx
  have r1 := nr_v (l.set i (0, x.2.1, false))
  have r2 := nr_n (l.set i (0, x.2.1, false))
  have r3 := nr_b (l.set i (0, x.2.1, false))
  refine hc_ofV cop13 rfl ?_
  repeat' ((conv => whnf); first | (with_reducible refine SeqP.go ?_) | ((with_reducible refine ObD.mk ?_ ?_); (focus (first | rfl | (simp; done)))) | ((with_reducible refine ObN.mk ?_ ?_); (focus (first | rfl | assumption | omega | (simp only [List.length_map, List.length_append, List.length_cons, List.length_nil]; omega) | (simp; done) | (simp; omega)))) | (with_reducible refine ObT.ff ?_) | ((with_reducible refine ObB.no ?_ ?_); (focus (first | assumption | omega))) | ((with_reducible refine ObX.mk _ rfl ?_ ?_); (focus (first | omega | assumption | (simp only [List.length_map, List.length_append, List.length_cons, List.length_nil, List.length_take, List.length_drop, List.length_set, List.length_replicate]; omega)))) | ((with_reducible refine (?_ : ObL _ _)); (refine ObL.mk _ (by first | assumption | exact (List.length_map _).trans (by assumption) | exact List.length_map _ | rfl) ?_)) | ((with_reducible refine (?_ : ObU _ _)); (refine ObU.mk _ (by first | exact hv | exact hb | assumption | ((conv => lhs; simp only [List.set_cons_zero, List.set_cons_succ, List.take_succ_cons, List.take_zero, List.drop_succ_cons, List.drop_zero, List.nil_append, List.cons_append, List.append_nil, List.take_nil, List.drop_nil]); try rfl) | rfl) ?_)) | ((with_reducible refine (?_ : ObR _ _ _)); (first | (refine ObR.mk _ (by assumption) ?_) | (refine ObR.mk _ (by with_reducible rfl) ?_) | (refine ObR.map (by (first | omega | assumption | (simp only [List.length_map, List.length_append, List.length_cons, List.length_nil, List.length_take, List.length_drop, List.length_set, List.length_replicate]; omega))) (fun x hx => ?_)) | (refine ObR.mk _ rfl ?_))) | ((with_reducible refine ObH.f 15 ?_); (first | (with_reducible refine ObH.mk _ _ (h) ?_) | (refine ObH.mk _ _ (h) ?_))))
  conv => whnf
  refine ObEnd.vw [(0, 0, 0), (0, 1, 0), (0, 2, 0), (0, 3, 0), (0, 4, 2)] rfl ?_ (by simp) ?_
  all_goals repeat' ((conv => whnf); first | ((with_reducible refine ObRow.same ?_ ?_ ?_); (focus (exact hn.symm)); (focus (rw [hn]; exact r2))) | ((with_reducible refine ObN.mk ?_ ?_); (focus (first | rfl | assumption | omega | (simp only [List.length_map, List.length_append, List.length_cons, List.length_nil]; omega) | (simp; done) | (simp; omega)))) | ((with_reducible refine ObO.l ?_); (with_reducible refine ObN.mk ?_ ?_); (focus (first | rfl | omega))) | ((with_reducible refine ObRow.same ?_ ?_ ?_); (focus (first | rfl | assumption)); (focus (first | rfl | assumption | (simp; done)))) | ((with_reducible refine ObRow.lit ?_ ?_); (focus (first | rfl | (simp [rnB, rnC, rnL]; done)))) | exact True.intro)
set_option maxHeartbeats 2000000 in
theorem free13b (r : Int) (h1 : -9223372036854775808 ≤ r) (h2 : r ≤ 9223372036854775807) (l : List Sl) (g k : Nat) (f : List Nat) (hs : l.length ≤ 1000) (hf : k ≤ f.length) (hf2 : f.length ≤ 1000000) (i : Nat) (x : Sl) (hk : fnd l r = some i) (hx : l[i]? = some x) :
    HC Try.prog G 13 [.oa 0 0 0 0, I r] [rS l.length (.ol 4 g k), rV l, rI l, rB l, aF g f] (I 0) [rS l.length (.ol 4 (g + 1) (k + 1)), rV (l.set i (0, x.2.1, false)), rI (l.set i (0, x.2.1, false)), rB (l.set i (0, x.2.1, false)), aF (g + 1) (f.take k ++ [i])] := by
  have h := at15 G r h1 h2 l (.ol 4 g k) hs [aF g f]
  rw [hk] at h
  simp only [atI] at h
  obtain ⟨hi, e1, e2, e3⟩ := fnd_lt hk
  have hv := v_set (s := l) (i := i) (0, x.2.1, false)
  have hb := b_set (s := l) (i := i) (0, x.2.1, false)
  have hn : l.map fI = (l.set i (0, x.2.1, false)).map fI := by
    exact n_keep hx
  have a1 := v_at hx
  have a3 := b_at hx
  have r1 := nr_v (l.set i (0, x.2.1, false))
  have r2 := nr_n (l.set i (0, x.2.1, false))
  have r3 := nr_b (l.set i (0, x.2.1, false))
  have r4 := nr_f (f.take k ++ [i])
  have u1 : (f.map nA).take k = (f.take k).map nA := by rw [List.map_take]
  have u2 : ([] : List AV).take 0 ++ (f.take k).map nA = (f.take k).map nA := by simp
  have u3 : ((f.take k).map nA).take k ++ [.v (.int .i64 (i : Nat))] = (f.take k ++ [i]).map nA := by rw [← List.map_take, List.take_take, Nat.min_self]; simp
  have l1 : ((f.take k).map nA).length = k := by simp; omega
  refine hc_ofV cop13 rfl ?_
  repeat' ((conv => whnf); first | (with_reducible refine SeqP.go ?_) | ((with_reducible refine ObD.mk ?_ ?_); (focus (first | rfl | (simp [l1]; done)))) | ((with_reducible refine ObN.mk ?_ ?_); (focus (first | rfl | assumption | omega | (simp only [List.length_map, List.length_append, List.length_cons, List.length_nil, l1]; omega) | (simp [l1]; done) | (simp [l1]; omega)))) | (with_reducible refine ObT.ff ?_) | ((with_reducible refine ObB.no ?_ ?_); (focus (first | assumption | omega))) | ((with_reducible refine ObX.mk _ rfl ?_ ?_); (focus (first | omega | assumption | (simp only [List.length_map, List.length_append, List.length_cons, List.length_nil, List.length_take, List.length_drop, List.length_set, List.length_replicate, l1]; omega)))) | ((with_reducible refine (?_ : ObL _ _)); (refine ObL.mk _ (by first | exact ((Nat.zero_add _).trans l1) | assumption | exact (List.length_map _).trans (by assumption) | exact List.length_map _ | rfl) ?_)) | ((with_reducible refine (?_ : ObU _ _)); (refine ObU.mk _ (by first | exact hv | exact hb | exact u1 | exact u2 | exact u3 | assumption | ((conv => lhs; simp only [List.set_cons_zero, List.set_cons_succ, List.take_succ_cons, List.take_zero, List.drop_succ_cons, List.drop_zero, List.nil_append, List.cons_append, List.append_nil, List.take_nil, List.drop_nil, l1]); try rfl) | rfl) ?_)) | ((with_reducible refine (?_ : ObR _ _ _)); (first | (refine ObR.mk _ (by assumption) ?_) | (refine ObR.mk _ (by with_reducible rfl) ?_) | (refine ObR.map (by (first | omega | assumption | (simp only [List.length_map, List.length_append, List.length_cons, List.length_nil, List.length_take, List.length_drop, List.length_set, List.length_replicate, l1]; omega))) (fun x hx => ?_)) | (refine ObR.mk _ rfl ?_))) | ((with_reducible refine ObH.f 15 ?_); (first | (with_reducible refine ObH.mk _ _ (h) ?_) | (refine ObH.mk _ _ (h) ?_))))
  conv => whnf
  refine ObEnd.vw [(0, 0, 0), (0, 1, 0), (0, 2, 0), (0, 3, 0), (g + 1, 5, 2)] rfl ?_ (by simp) ?_
  all_goals repeat' ((conv => whnf); first | ((with_reducible refine ObRow.same ?_ ?_ ?_); (focus (exact hn.symm)); (focus (rw [hn]; exact r2))) | ((with_reducible refine ObN.mk ?_ ?_); (focus (first | rfl | assumption | omega | (simp only [List.length_map, List.length_append, List.length_cons, List.length_nil]; omega) | (simp; done) | (simp; omega)))) | ((with_reducible refine ObO.l ?_); (with_reducible refine ObN.mk ?_ ?_); (focus (first | rfl | omega))) | ((with_reducible refine ObO.r ?_); (with_reducible refine ObN.mk ?_ ?_); (focus (first | omega | (simp; done)))) | ((with_reducible refine ObRow.same ?_ ?_ ?_); (focus (first | rfl | assumption)); (focus (first | rfl | assumption | (simp; done)))) | exact True.intro | ((with_reducible refine ObRow.lit ?_ ?_); (focus (simp [rnB, rnC, rnL, AV.cells]; done))))
end
end Go.Proofs.Ytjaohiakpajgkaa.Sim
