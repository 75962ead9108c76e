/- Arenas: the document's arena is made; what all answers say at any time. -/
import Derived.Test.YtjaohiakpajgkaaArnF
namespace Go.Proofs.Ytjaohiakpajgkaa.Sim
open Go.RowKit
set_option maxRecDepth 100000
set_option linter.unusedSimpArgs false
set_option linter.unusedVariables false
theorem works (G : Nat → AV) : PC Try.prog G 22 [] (Bo true) := runsTo_true tab_ok (n := 1000) (by kernel_rfl)
theorem make8 (G : Nat → AV) (n : Nat) (hn : n ≤ 1000) : HC Try.prog G 8 [I (n : Nat)] [] (.oa 0 0 0 0) [rS n (.nl 1), rV (List.replicate n (0, 0, false)), rI (List.replicate n (0, 0, false)), rB (List.replicate n (0, 0, false))] := by
  have f1 : (List.replicate n ((0, 0, false) : Sl)).map fV = List.replicate n (AV.v (.int .i64 0)) := by simp
  have f2 : (List.replicate n ((0, 0, false) : Sl)).map fI = List.replicate n (AV.v (.int .i64 0)) := by simp
  have f3 : (List.replicate n ((0, 0, false) : Sl)).map fB = List.replicate n (AV.v (.bool false)) := by simp
  have f4 : (List.replicate n (AV.v (.int .i64 0))).all nrB = true := by simp [nrB, AV.cells]
  have f5 : (List.replicate n (AV.v (.bool false))).all nrB = true := by simp [nrB, AV.cells]
  refine hc_ofV cop8 rfl ?_
  repeat' ((conv => whnf); first | (with_reducible refine SeqP.go ?_) | (with_reducible refine ObAnd.mk ?_ ?_) | (with_reducible refine ObDx.each ?_) | ((with_reducible refine ObD.mk ?_ ?_); (focus (first | rfl | (simp; done)))) | ((with_reducible refine ObN.mk ?_ ?_); (focus (first | rfl | assumption | omega | (simp only [List.length_map, List.length_append, List.length_cons, List.length_nil]; omega) | (simp; done) | (simp; omega)))) | ((with_reducible refine (?_ : ObL _ _)); (refine ObL.mk _ (by first | assumption | exact (List.length_map _).trans (by assumption) | exact List.length_map _ | rfl) ?_)) | ((with_reducible refine (?_ : ObU _ _)); (refine ObU.mk _ (by first | assumption | ((conv => lhs; simp only [List.set_cons_zero, List.set_cons_succ, List.take_succ_cons, List.take_zero, List.drop_succ_cons, List.drop_zero, List.nil_append, List.cons_append, List.append_nil, List.take_nil, List.drop_nil]); try rfl) | rfl) ?_)))
  all_goals conv => whnf
  · refine ObEnd.vw [(0, 3, 0), (0, 0, 0), (0, 1, 0), (0, 2, 0)] rfl ?_ (by simp) trivial
    repeat' ((conv => whnf); first | ((with_reducible refine ObN.mk ?_ ?_); (focus (first | rfl | assumption | omega | (simp only [List.length_map, List.length_append, List.length_cons, List.length_nil]; omega) | (simp; done) | (simp; omega)))) | ((with_reducible refine ObRow.same ?_ ?_ ?_); (focus (first | rfl | assumption)); (focus (first | rfl | assumption | (simp; done)))) | ((with_reducible refine ObRow.lit ?_ ?_); (focus (first | rfl | (simp [rnB, rnC, rnL]; done)))) | exact True.intro)
  · refine ObEnd.vw [(0, 3, 0), (0, 0, 0), (0, 2, 0), (0, 1, 0)] rfl ?_ (by simp) trivial
    repeat' ((conv => whnf); first | ((with_reducible refine ObN.mk ?_ ?_); (focus (first | rfl | assumption | omega | (simp only [List.length_map, List.length_append, List.length_cons, List.length_nil]; omega) | (simp; done) | (simp; omega)))) | ((with_reducible refine ObRow.same ?_ ?_ ?_); (focus (first | rfl | assumption)); (focus (first | rfl | assumption | (simp; done)))) | ((with_reducible refine ObRow.lit ?_ ?_); (focus (first | rfl | (simp [rnB, rnC, rnL]; done)))) | exact True.intro)
  · refine ObEnd.vw [(0, 3, 0), (0, 1, 0), (0, 0, 0), (0, 2, 0)] rfl ?_ (by simp) trivial
    repeat' ((conv => whnf); first | ((with_reducible refine ObN.mk ?_ ?_); (focus (first | rfl | assumption | omega | (simp only [List.length_map, List.length_append, List.length_cons, List.length_nil]; omega) | (simp; done) | (simp; omega)))) | ((with_reducible refine ObRow.same ?_ ?_ ?_); (focus (first | rfl | assumption)); (focus (first | rfl | assumption | (simp; done)))) | ((with_reducible refine ObRow.lit ?_ ?_); (focus (first | rfl | (simp [rnB, rnC, rnL]; done)))) | exact True.intro)
  · refine ObEnd.vw [(0, 3, 0), (0, 2, 0), (0, 0, 0), (0, 1, 0)] rfl ?_ (by simp) trivial
    repeat' ((conv => whnf); first | ((with_reducible refine ObN.mk ?_ ?_); (focus (first | rfl | assumption | omega | (simp only [List.length_map, List.length_append, List.length_cons, List.length_nil]; omega) | (simp; done) | (simp; omega)))) | ((with_reducible refine ObRow.same ?_ ?_ ?_); (focus (first | rfl | assumption)); (focus (first | rfl | assumption | (simp; done)))) | ((with_reducible refine ObRow.lit ?_ ?_); (focus (first | rfl | (simp [rnB, rnC, rnL]; done)))) | exact True.intro)
  · refine ObEnd.vw [(0, 3, 0), (0, 1, 0), (0, 2, 0), (0, 0, 0)] rfl ?_ (by simp) trivial
    repeat' ((conv => whnf); first | ((with_reducible refine ObN.mk ?_ ?_); (focus (first | rfl | assumption | omega | (simp only [List.length_map, List.length_append, List.length_cons, List.length_nil]; omega) | (simp; done) | (simp; omega)))) | ((with_reducible refine ObRow.same ?_ ?_ ?_); (focus (first | rfl | assumption)); (focus (first | rfl | assumption | (simp; done)))) | ((with_reducible refine ObRow.lit ?_ ?_); (focus (first | rfl | (simp [rnB, rnC, rnL]; done)))) | exact True.intro)
  · refine ObEnd.vw [(0, 3, 0), (0, 2, 0), (0, 1, 0), (0, 0, 0)] rfl ?_ (by simp) trivial
    repeat' ((conv => whnf); first | ((with_reducible refine ObN.mk ?_ ?_); (focus (first | rfl | assumption | omega | (simp only [List.length_map, List.length_append, List.length_cons, List.length_nil]; omega) | (simp; done) | (simp; omega)))) | ((with_reducible refine ObRow.same ?_ ?_ ?_); (focus (first | rfl | assumption)); (focus (first | rfl | assumption | (simp; done)))) | ((with_reducible refine ObRow.lit ?_ ?_); (focus (first | rfl | (simp [rnB, rnC, rnL]; done)))) | exact True.intro)
theorem get16x (G : Nat → AV) (r : Int) (h1 : -9223372036854775808 ≤ r) (h2 : r ≤ 9223372036854775807) (g : Nat) (s : List Sl) (y : AV) (n : Nat) (hs : s.length ≤ 1000) (R : Hp) (k : Nat) (hk : fnd s r = some k) (x : Sl) (hx : s[k]? = some x) :
    HC Try.prog G 16 [.oa 0 0 0 0, I r] (aS (.ol 1 g s.length) y n :: aL g s :: R) (.tup [I x.1, I 0]) (aS (.ol 1 g s.length) y n :: aL g s :: R) := by
  have h := get16 G r h1 h2 g s y n hs R k hk
  rw [hx] at h
  exact h
/-- The rows of both arenas, and of the references that were ever taken. -/
def Sh.H (n : Nat) (tk : List Int) : Sh → Hp
  | .A => [aS (.nl 3) (.nl 1) n, ⟨43, 4, [.agg [.ol 2 0 n, .ol 3 0 n, .ol 4 0 n, .nl 1]], 0, 0⟩, rV (pad n []), rI (pad n []), rB (pad n []), rO tk]
  | .B s => [aS (.ol 1 0 s.length) (.nl 1) n, aL 0 s, ⟨43, 4, [.agg [.ol 3 0 n, .ol 4 0 n, .ol 5 0 n, .nl 1]], 0, 0⟩, rV (pad n s), rI (pad n s), rB (pad n s), rO tk]
  | .C s f k => [aS (.ol 1 0 s.length) (.ol 2 0 k) n, aL 0 s, aF 0 f, ⟨43, 4, [.agg [.ol 4 0 n, .ol 5 0 n, .ol 6 0 n, .ol 7 0 k]], 0, 0⟩, rV (pad n s), rI (pad n s), rB (pad n s), aF 0 f, rO tk]
def Sh.b : Sh → Nat
  | .A => 1
  | .B _ => 2
  | .C _ _ _ => 3
def Sh.t : Sh → Nat
  | .A => 5
  | .B _ => 6
  | .C _ _ _ => 8
abbrev Act := Int × Int × Int
abbrev actA (a : Act) : AV := .agg [I a.1, I a.2.1, I a.2.2]
def i64 (x : Int) : Prop := -9223372036854775808 ≤ x ∧ x ≤ 9223372036854775807
structure TkOk (c : Nat) (tk : List Int) : Prop where
  len : tk.length ≤ c + 1
  pos : 1 ≤ tk.length
  val : ∀ (i : Nat) (t : Int), tk[i]? = some t → i64 t
theorem TkOk.snoc {c : Nat} {tk : List Int} (h : TkOk c tk) {t : Int} (ht : i64 t) : TkOk (c + 1) (tk ++ [t]) := by
  refine ⟨by simp; have := h.len; omega, by simp, fun i x hx => ?_⟩
  by_cases hi : i < tk.length
  · rw [List.getElem?_append_left hi] at hx; exact h.val i x hx
  · rw [List.getElem?_append_right (by omega)] at hx
    cases hq : i - tk.length with
    | zero => rw [hq] at hx; simp at hx; subst hx; exact ht
    | succ q => rw [hq] at hx; simp at hx
theorem TkOk.mono {c : Nat} {tk : List Int} (h : TkOk c tk) : TkOk (c + 1) tk := ⟨by have := h.len; omega, h.pos, h.val⟩
/-- What holds between two rounds. -/
def StOk (n c : Nat) (sh : Sh) (tk : List Int) : Prop := Inv n c sh.s sh.fr ∧ sh.ok c ∧ TkOk c tk
theorem all_iA (l : List Int) : (l.map iA).all AV.isP = true := by simp [AV.isP, AV.isC, AV.isC0]
theorem take_iA {l : List Int} : (l.map iA).take l.length = l.map iA := List.take_of_length_le (by simp)
end Go.Proofs.Ytjaohiakpajgkaa.Sim
