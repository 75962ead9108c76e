/- Scripts: what bytes are decoded as, and that Decode does. -/
import Derived.Test.YtgcnbbjapapnjaaDoorScB
namespace Go.Proofs.YtgcnbbjapapnjaaDoor.Sim
open Go.RowKit
set_option maxRecDepth 100000
set_option linter.unusedSimpArgs false
set_option linter.unusedVariables false
structure En where
  (t op : Nat) (k v o : List UInt8) (h : Nat)
def enA (e : En) : AV := .agg [I e.t, I e.op, S (strB e.k), S (strB e.v), S (strB e.o), I e.h]
def nx (B : List UInt8) (a : Nat) : Nat := min (a + 1) B.length
def tx (B : List UInt8) (b : Bool) (a : Nat) : List UInt8 := if b then txB B a else []
def ax (B : List UInt8) (b : Bool) (a : Nat) : Nat := if b then aT B a else a
def tH (B : List UInt8) : Bool → Nat → Nat
  | true, a => nB B a
  | false, _ => 0
def aH (B : List UInt8) : Bool → Nat → Nat
  | true, a => nx B a
  | false, a => a
/-- The entry that begins at a, and where the next one begins. -/
def enB (B : List UInt8) (a : Nat) : En × Nat :=
  let op := nB B (nx B a)
  let a2 := nx B (nx B a)
  let a3 := ax B (us op 0) a2
  let a4 := ax B (us op 1) a3
  let a5 := ax B (us op 2) a4
  (⟨nB B a, op, tx B (us op 0) a2, tx B (us op 1) a3, tx B (us op 2) a4, tH B (us op 3) a5⟩, aH B (us op 3) a5)
def decB (B : List UInt8) : Nat → Nat → List En
  | 0, _ => []
  | n + 1, a => if a < B.length then (enB B a).1 :: decB B n (enB B a).2 else []
def dec (B : List UInt8) : List En := decB B 5000 0
theorem nx_le (B : List UInt8) (a : Nat) : nx B a ≤ B.length := Nat.min_le_right _ _
theorem ax_le {B : List UInt8} {b : Bool} {a : Nat} (h : a ≤ B.length) : ax B b a ≤ B.length := by
  unfold ax; split
  · exact Nat.min_le_right _ _
  · exact h
theorem aH_le {B : List UInt8} {b : Bool} {a : Nat} (h : a ≤ B.length) : aH B b a ≤ B.length := by
  cases b
  · exact h
  · exact nx_le B a
theorem dec_step {B : List UInt8} {a n : Nat} (ha : a < B.length) (hn : n < 5000) : decB B (5000 - n) a = (enB B a).1 :: decB B (5000 - (n + 1)) (enB B a).2 := by
  obtain ⟨m, hm⟩ : ∃ m, m = 5000 - (n + 1) := ⟨_, rfl⟩
  rw [← hm, show 5000 - n = m + 1 by omega]
  simp only [decB, if_pos ha]
theorem dec_end {B : List UInt8} {a n : Nat} (h : ¬ (a < B.length ∧ n < 5000)) : decB B (5000 - n) a = [] := by
  by_cases hn : n < 5000
  · rw [show 5000 - n = (5000 - (n + 1)) + 1 by omega]
    simp only [decB, if_neg (show ¬ a < B.length from fun ha => h ⟨ha, hn⟩)]
  · rw [show 5000 - n = 0 by omega]; rfl
theorem e_snoc {l : List En} {e : En} : (l.map enA).take l.length ++ [.agg [I e.t, I e.op, S (strB e.k), S (strB e.v), S (strB e.o), I e.h]] = (l ++ [e]).map enA := by
  rw [List.take_of_length_le (by simp)]; simp [enA]
theorem nr_e (l : List En) : (l.map enA).all nrB = true := by simp [nrB, AV.cells, enA]
theorem p_e (l : List En) : (l.map enA).all AV.isP = true := by simp [AV.isP, AV.isC, AV.isC0, enA]
theorem e_all (l : List En) : (l.map enA).take l.length = l.map enA := List.take_of_length_le (by simp)
def s7 : List En → AV
  | [] => .nl 6
  | _ :: es => .ol 4 0 (es.length + 1)
def rE : List En → Hp
  | [] => []
  | e :: es => [⟨37, 6, (e :: es).map enA, 0, 0⟩]
def HD (B : List UInt8) (a : Nat) (es : List En) : Hp := bx B :: bat a :: cl0 0 1 :: cl1 2 :: rE es
section
variable (G : Nat → AV)
theorem sc22b (B : List UInt8) (a : Nat) (b : Bool) (c : UInt8) (ha : a ≤ B.length) (hB : B.length ≤ 1000000) : HC Tryd.prog G 22 [S (txS b c), .oa 0 0 0 0, .oa 1 0 0 0] [cl0 2 3, cl1 0, bx B, bat a] (S (strB (tx B b a))) [cl0 2 3, cl1 0, bx B, bat (ax B b a)] := by
  cases b
  · exact sc22e G B a
  · exact sc22 G B a ⟨#[c]⟩ (by intro h; injection h with h; cases h) ha hB
theorem sc21n (B : List UInt8) (a : Nat) (ha : a ≤ B.length) (hB : B.length ≤ 1000000) : HC Tryd.prog G 21 [.oa 0 0 0 0] [cl0 1 2, bx B, bat a] (I (nB B a)) [cl0 1 2, bx B, bat (nx B a)] := sc21 G B a ha hB
variable (hG : G 0 = .ad 56 [.agg usV] 0 0)
include hG
set_option maxHeartbeats 16000000 in
theorem dec13 (B : List UInt8) (hB : B.length ≤ 1000000) : PC Tryd.prog G 13 [.sl 1 (B.map uA)] (.sl 6 ((dec B).map enA)) := by
  have hbu := nr_u B
  refine pc_ofV cop13 ?_
  repeat' ((conv => whnf); first | (with_reducible refine SeqP.go ?_) | ((with_reducible refine ObD.mk ?_ ?_); (focus (first | rfl | (simp; done)))) | ((with_reducible refine ObN.mk ?_ ?_); (focus (first | rfl | assumption | omega | (simp only [List.length_map, List.length_append, List.length_cons, List.length_nil]; omega) | (simp; done) | (simp; omega)))) | ((with_reducible refine (?_ : ObU _ _)); (refine ObU.mk _ (by first | assumption | ((conv => lhs; simp only [List.set_cons_zero, List.set_cons_succ, List.take_succ_cons, List.take_zero, List.drop_succ_cons, List.drop_zero, List.nil_append, List.cons_append, List.append_nil, List.take_nil, List.drop_nil]); try rfl) | rfl) ?_)) | ((with_reducible refine (?_ : ObR _ _ _)); (first | (refine ObR.mk _ (by assumption) ?_) | (refine ObR.mk _ (by with_reducible rfl) ?_) | (refine ObR.map (by (first | omega | assumption | (simp only [List.length_map, List.length_append, List.length_cons, List.length_nil, List.length_take, List.length_drop, List.length_set, List.length_replicate]; omega))) (fun x hx => ?_)) | (refine ObR.mk _ rfl ?_))))
  conv => whnf
  refine LoopP.go (α := List En × Nat) (fun p => p.2 ≤ B.length ∧ p.1.length ≤ 5000 ∧ p.1 ++ decB B (5000 - p.1.length) p.2 = dec B) (fun p => 5000 - p.1.length) (fun p => [(7, some (s7 p.1)), (0, none), (0, none), (3, none), (0, none), (0, none), (0, none), (0, none), (0, none), (0, none), (0, none), (0, none), (0, none), (0, none), (0, none), (0, none), (0, none), (0, none), (0, none), (0, none), (0, none), (0, none), (0, none), (0, none), (0, none), (0, none), (0, none), (0, none), (0, none), (0, none), (0, none), (0, none), (0, none), (0, none), (0, none), (0, none), (0, none), (0, none), (0, none), (0, none), (0, none), (0, none), (0, none), (0, none), (0, none), (0, none), (0, none), (0, none), (0, none), (0, none), (0, none)]) (fun p => HD B p.2 p.1) ([], 0) ⟨Nat.zero_le _, by decide, rfl⟩ (Fg.go ?_ rfl) ?_
  · unfold s7
    repeat' ((conv => whnf); first | ((with_reducible refine ObEqs.mk ?_ ?_); (focus rfl)) | ((with_reducible refine ObEq1.mk ?_ ?_); (focus (first | rfl | assumption))) | exact True.intro)
  rintro ⟨es, a⟩ ⟨h1, h2, h3⟩
  dsimp only at h1 h2 h3 ⊢
  by_cases hc : a < B.length ∧ es.length < 5000
  · obtain ⟨c1, c2⟩ := hc
    rw [dec_step c1 c2] at h3
    have le1 := nx_le B a
    have le2 := nx_le B (nx B a)
    have s1 := sc21n G B a h1 hB
    have s2 := sc21n G B (nx B a) le1 hB
    have u := us16 G hG (nB B (nx B a))
    unfold usA at u
    unfold enB at h3
    dsimp only at h3
    generalize nB B a = T0 at *
    generalize nx B a = a1 at *
    generalize nB B a1 = OP at *
    generalize nx B a1 = a2 at *
    generalize us OP 0 = b0 at *
    generalize us OP 1 = b1 at *
    generalize us OP 2 = b2 at *
    generalize us OP 3 = b3 at *
    have le3 := ax_le (b := b0) le2
    have le4 := ax_le (b := b1) le3
    have le5 := ax_le (b := b2) le4
    have le6 := aH_le (b := b3) le5
    have d1 := sc22b G B a2 b0 107 le2 hB
    have d2 := sc22b G B _ b1 118 le3 hB
    have d3 := sc22b G B _ b2 111 le4 hB
    have s6 := sc21n G B _ le5 hB
    generalize tx B b0 a2 = X1 at *
    generalize ax B b0 a2 = a3 at *
    generalize tx B b1 a3 = X2 at *
    generalize ax B b1 a3 = a4 at *
    generalize tx B b2 a4 = X3 at *
    generalize ax B b2 a4 = a5 at *
    generalize txS b0 107 = t0 at *
    generalize txS b1 118 = t1 at *
    generalize txS b2 111 = t2 at *
    have re : ∀ l : List AV, l = [] ++ l := fun _ => rfl
    cases b3 with
    | true =>
      have e3 : hN true = 1 := rfl
      have e4 : aH B true a5 = nx B a5 := rfl
      have e5 : tH B true a5 = nB B a5 := rfl
      rw [e3] at u
      rw [e4] at h3 le6
      rw [e5] at h3
      generalize nB B a5 = HH at *
      generalize nx B a5 = a6 at *
      clear e3 e4 e5
      unfold HD
      unfold bx bat cl0 cl1 at *
      rcases es with _ | ⟨e0, et⟩
      · unfold s7 rE
        have r1 := nr_e ([] ++ [⟨T0, OP, X1, X2, X3, HH⟩])
        repeat' ((conv => whnf); first | (with_reducible refine SeqP.go ?_) | exact SameP.mk rfl rfl | (with_reducible refine ObAnd.mk ?_ ?_) | (with_reducible refine ObDx.same ?_) | (with_reducible refine ObKb.mk (by decide +kernel) ?_) | (with_reducible refine ObRw.mk [4,5] ?_) | ((with_reducible refine ObSr.mk ?_ ?_); (focus rfl)) | ((with_reducible refine ObD.mk ?_ ?_); (focus (first | rfl | (simp; done)))) | ((with_reducible refine ObN.mk ?_ ?_); (focus (first | rfl | assumption | omega | (simp only [List.length_map, List.length_append, List.length_cons, List.length_nil]; omega) | (simp; done) | (simp; omega)))) | (with_reducible refine ObT.tt ?_) | ((with_reducible refine ObB.yes ?_ ?_); (focus (first | assumption | (with_reducible rfl) | omega))) | ((with_reducible refine ObB.no ?_ ?_); (focus (first | assumption | omega))) | ((with_reducible refine (?_ : ObL _ _)); (refine ObL.mk _ (by first | assumption | exact (List.length_map _).trans (by assumption) | exact List.length_map _ | rfl) ?_)) | ((with_reducible refine (?_ : ObU _ _)); (refine ObU.mk _ (by first | assumption | ((conv => lhs; simp only [List.set_cons_zero, List.set_cons_succ, List.take_succ_cons, List.take_zero, List.drop_succ_cons, List.drop_zero, List.nil_append, List.cons_append, List.append_nil, List.take_nil, List.drop_nil]); try rfl) | rfl) ?_)) | ((with_reducible refine (?_ : ObR _ _ _)); (first | (refine ObR.mk _ (by assumption) ?_) | (refine ObR.mk _ (by with_reducible rfl) ?_) | (refine ObR.map (by (first | omega | assumption | (simp only [List.length_map, List.length_append, List.length_cons, List.length_nil, List.length_take, List.length_drop, List.length_set, List.length_replicate]; omega))) (fun x hx => ?_)) | (refine ObR.mk _ rfl ?_))) | ((with_reducible refine ObC.f 16 ?_); (first | (with_reducible refine ObC.mk _ (u) ?_) | (refine ObC.mk _ (u) ?_))) | ((with_reducible refine ObH.f 21 ?_); (show ObH _ _ 21 _ (_ :: ⟨3, 1, [I ((a : Nat) : Int)], 0, 0⟩ :: _) _); refine ObH.frn _ (by simp only [List.length_cons, List.length_nil, Nat.reduceAdd]; rfl) [(0,2,0),(0,0,0),(0,1,0)] (s1) (by simp) rfl (by simp) ?_) | ((with_reducible refine ObH.f 21 ?_); (show ObH _ _ 21 _ (_ :: ⟨3, 1, [I ((a1 : Nat) : Int)], 0, 0⟩ :: _) _); refine ObH.frn _ (by simp only [List.length_cons, List.length_nil, Nat.reduceAdd]; rfl) [(0,2,0),(0,0,0),(0,1,0)] (s2) (by simp) rfl (by simp) ?_) | ((with_reducible refine ObH.f 22 ?_); (show ObH _ _ 22 _ (_ :: ⟨3, 1, [I ((a2 : Nat) : Int)], 0, 0⟩ :: _) _); refine ObH.frn _ (by simp only [List.length_cons, List.length_nil, Nat.reduceAdd]; rfl) [(0,2,0),(0,3,0),(0,0,0),(0,1,0)] (d1) (by simp) rfl (by simp) ?_) | ((with_reducible refine ObH.f 22 ?_); (show ObH _ _ 22 _ (_ :: ⟨3, 1, [I ((a3 : Nat) : Int)], 0, 0⟩ :: _) _); refine ObH.frn _ (by simp only [List.length_cons, List.length_nil, Nat.reduceAdd]; rfl) [(0,2,0),(0,3,0),(0,0,0),(0,1,0)] (d2) (by simp) rfl (by simp) ?_) | ((with_reducible refine ObH.f 22 ?_); (show ObH _ _ 22 _ (_ :: ⟨3, 1, [I ((a4 : Nat) : Int)], 0, 0⟩ :: _) _); refine ObH.frn _ (by simp only [List.length_cons, List.length_nil, Nat.reduceAdd]; rfl) [(0,2,0),(0,3,0),(0,0,0),(0,1,0)] (d3) (by simp) rfl (by simp) ?_) | ((with_reducible refine ObH.f 21 ?_); (show ObH _ _ 21 _ (_ :: ⟨3, 1, [I ((a5 : Nat) : Int)], 0, 0⟩ :: _) _); refine ObH.frn _ (by simp only [List.length_cons, List.length_nil, Nat.reduceAdd]; rfl) [(0,2,0),(0,0,0),(0,1,0)] (s6) (by simp) rfl (by simp) ?_) | ((with_reducible refine ObW.cons ?_ ?_); (focus (first | assumption | (simp; done)))) | ((with_reducible refine ObRow.same ?_ ?_ ?_); (focus (first | rfl | assumption)); (focus (first | rfl | assumption | (simp; done)))) | ((with_reducible refine ObRow.lit ?_ ?_); (focus (first | rfl | (simp [rnB, rnC, rnL]; done)))) | ((with_reducible refine ObAs.mk ?_ ?_); (focus (first | rfl | (simp [rnB, rnC, rnL]; done)))) | ((with_reducible refine (?_ : ObRs _ _ _)); (refine ObRs.mk _ rfl ?_)) | ((with_reducible refine ObBk.same ?_ ?_); (focus (first | rfl | assumption | (simp; done)))) | ((with_reducible refine (?_ : ObBk _ _ _)); (first | (refine ObBk.lit [.fn _ _] rfl ?_) | (refine ObBk.lit [.agg _] rfl ?_))))
        conv => whnf
        refine Again.mk ([⟨T0, OP, X1, X2, X3, HH⟩], a6) ?_ ?_ (Fg.vw [(0, 0, 0), (0, 1, 0), (0, 2, 0), (0, 3, 0), (0, 7, 0)] ?_ ?_ (by simp) ?_)
        · exact ⟨le6, by dsimp only; simp, h3⟩
        · dsimp only; simp
        all_goals repeat' ((conv => whnf); first | ((with_reducible refine ObRow.lit ?_ ?_); (focus (simp [rnB, rnC, rnL, AV.cells]; done))) | ((with_reducible refine ObRn.mk ?_ ?_); (focus (simp [rnB, rnC, rnL]; done))) | ((with_reducible refine ObN.mk ?_ ?_); (focus (first | rfl | assumption | omega | (simp only [List.length_map, List.length_append, List.length_cons, List.length_nil]; omega) | (simp; done) | (simp; omega)))) | ((with_reducible refine ObRow.same ?_ ?_ ?_); (focus (first | rfl | assumption)); (focus (first | rfl | assumption | (simp; done)))) | ((with_reducible refine ObRow.lit ?_ ?_); (focus (first | rfl | (simp [rnB, rnC, rnL]; done)))) | ((with_reducible refine ObEqs.mk ?_ ?_); (focus rfl)) | exact True.intro)
      · have hl' : et.length + 1 < 5000 := c2
        unfold s7 rE
        have us := e_snoc (l := e0 :: et) (e := ⟨T0, OP, X1, X2, X3, HH⟩)
        have r1 := nr_e (e0 :: et ++ [⟨T0, OP, X1, X2, X3, HH⟩])
        have r2 := nr_e (e0 :: et)
        repeat' ((conv => whnf); first | (with_reducible refine SeqP.go ?_) | exact SameP.mk rfl rfl | (with_reducible refine ObAnd.mk ?_ ?_) | (with_reducible refine ObDx.same ?_) | (with_reducible refine ObKb.mk (by decide +kernel) ?_) | (with_reducible refine ObRw.mk [5,6] ?_) | ((with_reducible refine ObSr.mk ?_ ?_); (focus rfl)) | ((with_reducible refine ObD.mk ?_ ?_); (focus (first | rfl | (simp; done)))) | ((with_reducible refine ObN.mk ?_ ?_); (focus (first | rfl | assumption | omega | (simp only [List.length_map, List.length_append, List.length_cons, List.length_nil]; omega) | (simp; done) | (simp; omega)))) | (with_reducible refine ObT.tt ?_) | ((with_reducible refine ObB.yes ?_ ?_); (focus (first | assumption | (with_reducible rfl) | omega))) | ((with_reducible refine ObB.no ?_ ?_); (focus (first | assumption | omega))) | ((with_reducible refine (?_ : ObL _ _)); (refine ObL.mk _ (by first | exact (List.length_map _) | assumption | exact (List.length_map _).trans (by assumption) | exact List.length_map _ | rfl) ?_)) | ((with_reducible refine (?_ : ObU _ _)); (refine ObU.mk _ (by first | exact us | assumption | ((conv => lhs; simp only [List.set_cons_zero, List.set_cons_succ, List.take_succ_cons, List.take_zero, List.drop_succ_cons, List.drop_zero, List.nil_append, List.cons_append, List.append_nil, List.take_nil, List.drop_nil]); try rfl) | rfl) ?_)) | ((with_reducible refine (?_ : ObR _ _ _)); (first | (refine ObR.mk _ (by assumption) ?_) | (refine ObR.mk _ (by with_reducible rfl) ?_) | (refine ObR.map (by (first | omega | assumption | (simp only [List.length_map, List.length_append, List.length_cons, List.length_nil, List.length_take, List.length_drop, List.length_set, List.length_replicate]; omega))) (fun x hx => ?_)) | (refine ObR.mk _ rfl ?_))) | ((with_reducible refine ObC.f 16 ?_); (first | (with_reducible refine ObC.mk _ (u) ?_) | (refine ObC.mk _ (u) ?_))) | ((with_reducible refine ObH.f 21 ?_); (show ObH _ _ 21 _ (_ :: ⟨3, 1, [I ((a : Nat) : Int)], 0, 0⟩ :: _) _); refine ObH.frn _ (by simp only [List.length_cons, List.length_nil, Nat.reduceAdd]; rfl) [(0,2,0),(0,0,0),(0,1,0)] (s1) (by simp) rfl (by simp) ?_) | ((with_reducible refine ObH.f 21 ?_); (show ObH _ _ 21 _ (_ :: ⟨3, 1, [I ((a1 : Nat) : Int)], 0, 0⟩ :: _) _); refine ObH.frn _ (by simp only [List.length_cons, List.length_nil, Nat.reduceAdd]; rfl) [(0,2,0),(0,0,0),(0,1,0)] (s2) (by simp) rfl (by simp) ?_) | ((with_reducible refine ObH.f 22 ?_); (show ObH _ _ 22 _ (_ :: ⟨3, 1, [I ((a2 : Nat) : Int)], 0, 0⟩ :: _) _); refine ObH.frn _ (by simp only [List.length_cons, List.length_nil, Nat.reduceAdd]; rfl) [(0,2,0),(0,3,0),(0,0,0),(0,1,0)] (d1) (by simp) rfl (by simp) ?_) | ((with_reducible refine ObH.f 22 ?_); (show ObH _ _ 22 _ (_ :: ⟨3, 1, [I ((a3 : Nat) : Int)], 0, 0⟩ :: _) _); refine ObH.frn _ (by simp only [List.length_cons, List.length_nil, Nat.reduceAdd]; rfl) [(0,2,0),(0,3,0),(0,0,0),(0,1,0)] (d2) (by simp) rfl (by simp) ?_) | ((with_reducible refine ObH.f 22 ?_); (show ObH _ _ 22 _ (_ :: ⟨3, 1, [I ((a4 : Nat) : Int)], 0, 0⟩ :: _) _); refine ObH.frn _ (by simp only [List.length_cons, List.length_nil, Nat.reduceAdd]; rfl) [(0,2,0),(0,3,0),(0,0,0),(0,1,0)] (d3) (by simp) rfl (by simp) ?_) | ((with_reducible refine ObH.f 21 ?_); (show ObH _ _ 21 _ (_ :: ⟨3, 1, [I ((a5 : Nat) : Int)], 0, 0⟩ :: _) _); refine ObH.frn _ (by simp only [List.length_cons, List.length_nil, Nat.reduceAdd]; rfl) [(0,2,0),(0,0,0),(0,1,0)] (s6) (by simp) rfl (by simp) ?_) | ((with_reducible refine ObRow.same ?_ ?_ ?_); (focus (first | rfl | assumption)); (focus (first | rfl | assumption | (simp; done)))) | ((with_reducible refine ObRow.lit ?_ ?_); (focus (first | rfl | (simp [rnB, rnC, rnL]; done)))) | ((with_reducible refine ObAs.mk ?_ ?_); (focus (first | rfl | (simp [rnB, rnC, rnL]; done)))) | ((with_reducible refine (?_ : ObRs _ _ _)); (refine ObRs.mk _ rfl ?_)) | ((with_reducible refine ObBk.same ?_ ?_); (focus (first | rfl | assumption | (simp; done)))) | ((with_reducible refine (?_ : ObBk _ _ _)); (first | (refine ObBk.lit [.fn _ _] rfl ?_) | (refine ObBk.lit [.agg _] rfl ?_))))
        conv => whnf
        refine Again.mk (e0 :: et ++ [⟨T0, OP, X1, X2, X3, HH⟩], a6) ?_ ?_ (Fg.vw [(0, 0, 0), (0, 1, 0), (0, 2, 0), (0, 3, 0), (0, 4, 1)] ?_ ?_ (by simp) ?_)
        · exact ⟨le6, by dsimp only; simp; omega, by dsimp only; rw [List.append_assoc, List.length_append]; exact h3⟩
        · dsimp only; simp; omega
        all_goals repeat' ((conv => whnf); first | ((with_reducible refine ObRow.lit ?_ ?_); (focus (simp [rnB, rnC, rnL, AV.cells]; done))) | ((with_reducible refine ObRn.mk ?_ ?_); (focus (simp [rnB, rnC, rnL]; done))) | ((with_reducible refine ObN.mk ?_ ?_); (focus (first | rfl | assumption | omega | (simp only [List.length_map, List.length_append, List.length_cons, List.length_nil]; omega) | (simp; done) | (simp; omega)))) | ((with_reducible refine ObRow.same ?_ ?_ ?_); (focus (first | rfl | assumption)); (focus (first | rfl | assumption | (simp; done)))) | ((with_reducible refine ObRow.lit ?_ ?_); (focus (first | rfl | (simp [rnB, rnC, rnL]; done)))) | ((with_reducible refine ObEqs.mk ?_ ?_); (focus rfl)) | exact True.intro)
    | false =>
      have e3 : hN false = 0 := rfl
      have e4 : aH B false a5 = a5 := rfl
      have e5 : tH B false a5 = 0 := rfl
      rw [e3] at u
      rw [e4, e5] at h3
      clear e3 e4 e5 le6
      unfold HD
      unfold bx bat cl0 cl1 at *
      rcases es with _ | ⟨e0, et⟩
      · unfold s7 rE
        have r1 := nr_e ([] ++ [⟨T0, OP, X1, X2, X3, 0⟩])
        repeat' ((conv => whnf); first | (with_reducible refine SeqP.go ?_) | exact SameP.mk rfl rfl | (with_reducible refine ObAnd.mk ?_ ?_) | (with_reducible refine ObDx.same ?_) | (with_reducible refine ObKb.mk (by decide +kernel) ?_) | (with_reducible refine ObRw.mk [4,5] ?_) | ((with_reducible refine ObSr.mk ?_ ?_); (focus rfl)) | ((with_reducible refine ObD.mk ?_ ?_); (focus (first | rfl | (simp; done)))) | ((with_reducible refine ObN.mk ?_ ?_); (focus (first | rfl | assumption | omega | (simp only [List.length_map, List.length_append, List.length_cons, List.length_nil]; omega) | (simp; done) | (simp; omega)))) | (with_reducible refine ObT.tt ?_) | (with_reducible refine ObT.ff ?_) | ((with_reducible refine ObB.yes ?_ ?_); (focus (first | assumption | (with_reducible rfl) | omega))) | ((with_reducible refine (?_ : ObL _ _)); (refine ObL.mk _ (by first | assumption | exact (List.length_map _).trans (by assumption) | exact List.length_map _ | rfl) ?_)) | ((with_reducible refine (?_ : ObU _ _)); (refine ObU.mk _ (by first | assumption | ((conv => lhs; simp only [List.set_cons_zero, List.set_cons_succ, List.take_succ_cons, List.take_zero, List.drop_succ_cons, List.drop_zero, List.nil_append, List.cons_append, List.append_nil, List.take_nil, List.drop_nil]); try rfl) | rfl) ?_)) | ((with_reducible refine (?_ : ObR _ _ _)); (first | (refine ObR.mk _ (by assumption) ?_) | (refine ObR.mk _ (by with_reducible rfl) ?_) | (refine ObR.map (by (first | omega | assumption | (simp only [List.length_map, List.length_append, List.length_cons, List.length_nil, List.length_take, List.length_drop, List.length_set, List.length_replicate]; omega))) (fun x hx => ?_)) | (refine ObR.mk _ rfl ?_))) | ((with_reducible refine ObC.f 16 ?_); (first | (with_reducible refine ObC.mk _ (u) ?_) | (refine ObC.mk _ (u) ?_))) | ((with_reducible refine ObH.f 21 ?_); (show ObH _ _ 21 _ (_ :: ⟨3, 1, [I ((a : Nat) : Int)], 0, 0⟩ :: _) _); refine ObH.frn _ (by simp only [List.length_cons, List.length_nil, Nat.reduceAdd]; rfl) [(0,2,0),(0,0,0),(0,1,0)] (s1) (by simp) rfl (by simp) ?_) | ((with_reducible refine ObH.f 21 ?_); (show ObH _ _ 21 _ (_ :: ⟨3, 1, [I ((a1 : Nat) : Int)], 0, 0⟩ :: _) _); refine ObH.frn _ (by simp only [List.length_cons, List.length_nil, Nat.reduceAdd]; rfl) [(0,2,0),(0,0,0),(0,1,0)] (s2) (by simp) rfl (by simp) ?_) | ((with_reducible refine ObH.f 22 ?_); (show ObH _ _ 22 _ (_ :: ⟨3, 1, [I ((a2 : Nat) : Int)], 0, 0⟩ :: _) _); refine ObH.frn _ (by simp only [List.length_cons, List.length_nil, Nat.reduceAdd]; rfl) [(0,2,0),(0,3,0),(0,0,0),(0,1,0)] (d1) (by simp) rfl (by simp) ?_) | ((with_reducible refine ObH.f 22 ?_); (show ObH _ _ 22 _ (_ :: ⟨3, 1, [I ((a3 : Nat) : Int)], 0, 0⟩ :: _) _); refine ObH.frn _ (by simp only [List.length_cons, List.length_nil, Nat.reduceAdd]; rfl) [(0,2,0),(0,3,0),(0,0,0),(0,1,0)] (d2) (by simp) rfl (by simp) ?_) | ((with_reducible refine ObH.f 22 ?_); (show ObH _ _ 22 _ (_ :: ⟨3, 1, [I ((a4 : Nat) : Int)], 0, 0⟩ :: _) _); refine ObH.frn _ (by simp only [List.length_cons, List.length_nil, Nat.reduceAdd]; rfl) [(0,2,0),(0,3,0),(0,0,0),(0,1,0)] (d3) (by simp) rfl (by simp) ?_) | ((with_reducible refine ObW.cons ?_ ?_); (focus (first | assumption | (simp; done)))) | ((with_reducible refine ObRow.same ?_ ?_ ?_); (focus (first | rfl | assumption)); (focus (first | rfl | assumption | (simp; done)))) | ((with_reducible refine ObRow.lit ?_ ?_); (focus (first | rfl | (simp [rnB, rnC, rnL]; done)))) | ((with_reducible refine ObAs.mk ?_ ?_); (focus (first | rfl | (simp [rnB, rnC, rnL]; done)))) | ((with_reducible refine (?_ : ObRs _ _ _)); (refine ObRs.mk _ rfl ?_)) | ((with_reducible refine ObBk.same ?_ ?_); (focus (first | rfl | assumption | (simp; done)))) | ((with_reducible refine (?_ : ObBk _ _ _)); (first | (refine ObBk.lit [.fn _ _] rfl ?_) | (refine ObBk.lit [.agg _] rfl ?_))))
        conv => whnf
        refine Again.mk ([⟨T0, OP, X1, X2, X3, 0⟩], a5) ?_ ?_ (Fg.vw [(0, 0, 0), (0, 1, 0), (0, 2, 0), (0, 3, 0), (0, 7, 0)] ?_ ?_ (by simp) ?_)
        · exact ⟨le5, by dsimp only; simp, h3⟩
        · dsimp only; simp
        all_goals repeat' ((conv => whnf); first | ((with_reducible refine ObRow.lit ?_ ?_); (focus (simp [rnB, rnC, rnL, AV.cells]; done))) | ((with_reducible refine ObRn.mk ?_ ?_); (focus (simp [rnB, rnC, rnL]; done))) | ((with_reducible refine ObN.mk ?_ ?_); (focus (first | rfl | assumption | omega | (simp only [List.length_map, List.length_append, List.length_cons, List.length_nil]; omega) | (simp; done) | (simp; omega)))) | ((with_reducible refine ObRow.same ?_ ?_ ?_); (focus (first | rfl | assumption)); (focus (first | rfl | assumption | (simp; done)))) | ((with_reducible refine ObRow.lit ?_ ?_); (focus (first | rfl | (simp [rnB, rnC, rnL]; done)))) | ((with_reducible refine ObEqs.mk ?_ ?_); (focus rfl)) | exact True.intro)
      · have hl' : et.length + 1 < 5000 := c2
        unfold s7 rE
        have us := e_snoc (l := e0 :: et) (e := ⟨T0, OP, X1, X2, X3, 0⟩)
        have r1 := nr_e (e0 :: et ++ [⟨T0, OP, X1, X2, X3, 0⟩])
        have r2 := nr_e (e0 :: et)
        repeat' ((conv => whnf); first | (with_reducible refine SeqP.go ?_) | exact SameP.mk rfl rfl | (with_reducible refine ObAnd.mk ?_ ?_) | (with_reducible refine ObDx.same ?_) | (with_reducible refine ObKb.mk (by decide +kernel) ?_) | (with_reducible refine ObRw.mk [5,6] ?_) | ((with_reducible refine ObSr.mk ?_ ?_); (focus rfl)) | ((with_reducible refine ObD.mk ?_ ?_); (focus (first | rfl | (simp; done)))) | ((with_reducible refine ObN.mk ?_ ?_); (focus (first | rfl | assumption | omega | (simp only [List.length_map, List.length_append, List.length_cons, List.length_nil]; omega) | (simp; done) | (simp; omega)))) | (with_reducible refine ObT.tt ?_) | (with_reducible refine ObT.ff ?_) | ((with_reducible refine ObB.yes ?_ ?_); (focus (first | assumption | (with_reducible rfl) | omega))) | ((with_reducible refine (?_ : ObL _ _)); (refine ObL.mk _ (by first | exact (List.length_map _) | assumption | exact (List.length_map _).trans (by assumption) | exact List.length_map _ | rfl) ?_)) | ((with_reducible refine (?_ : ObU _ _)); (refine ObU.mk _ (by first | exact us | assumption | ((conv => lhs; simp only [List.set_cons_zero, List.set_cons_succ, List.take_succ_cons, List.take_zero, List.drop_succ_cons, List.drop_zero, List.nil_append, List.cons_append, List.append_nil, List.take_nil, List.drop_nil]); try rfl) | rfl) ?_)) | ((with_reducible refine (?_ : ObR _ _ _)); (first | (refine ObR.mk _ (by assumption) ?_) | (refine ObR.mk _ (by with_reducible rfl) ?_) | (refine ObR.map (by (first | omega | assumption | (simp only [List.length_map, List.length_append, List.length_cons, List.length_nil, List.length_take, List.length_drop, List.length_set, List.length_replicate]; omega))) (fun x hx => ?_)) | (refine ObR.mk _ rfl ?_))) | ((with_reducible refine ObC.f 16 ?_); (first | (with_reducible refine ObC.mk _ (u) ?_) | (refine ObC.mk _ (u) ?_))) | ((with_reducible refine ObH.f 21 ?_); (show ObH _ _ 21 _ (_ :: ⟨3, 1, [I ((a : Nat) : Int)], 0, 0⟩ :: _) _); refine ObH.frn _ (by simp only [List.length_cons, List.length_nil, Nat.reduceAdd]; rfl) [(0,2,0),(0,0,0),(0,1,0)] (s1) (by simp) rfl (by simp) ?_) | ((with_reducible refine ObH.f 21 ?_); (show ObH _ _ 21 _ (_ :: ⟨3, 1, [I ((a1 : Nat) : Int)], 0, 0⟩ :: _) _); refine ObH.frn _ (by simp only [List.length_cons, List.length_nil, Nat.reduceAdd]; rfl) [(0,2,0),(0,0,0),(0,1,0)] (s2) (by simp) rfl (by simp) ?_) | ((with_reducible refine ObH.f 22 ?_); (show ObH _ _ 22 _ (_ :: ⟨3, 1, [I ((a2 : Nat) : Int)], 0, 0⟩ :: _) _); refine ObH.frn _ (by simp only [List.length_cons, List.length_nil, Nat.reduceAdd]; rfl) [(0,2,0),(0,3,0),(0,0,0),(0,1,0)] (d1) (by simp) rfl (by simp) ?_) | ((with_reducible refine ObH.f 22 ?_); (show ObH _ _ 22 _ (_ :: ⟨3, 1, [I ((a3 : Nat) : Int)], 0, 0⟩ :: _) _); refine ObH.frn _ (by simp only [List.length_cons, List.length_nil, Nat.reduceAdd]; rfl) [(0,2,0),(0,3,0),(0,0,0),(0,1,0)] (d2) (by simp) rfl (by simp) ?_) | ((with_reducible refine ObH.f 22 ?_); (show ObH _ _ 22 _ (_ :: ⟨3, 1, [I ((a4 : Nat) : Int)], 0, 0⟩ :: _) _); refine ObH.frn _ (by simp only [List.length_cons, List.length_nil, Nat.reduceAdd]; rfl) [(0,2,0),(0,3,0),(0,0,0),(0,1,0)] (d3) (by simp) rfl (by simp) ?_) | ((with_reducible refine ObRow.same ?_ ?_ ?_); (focus (first | rfl | assumption)); (focus (first | rfl | assumption | (simp; done)))) | ((with_reducible refine ObRow.lit ?_ ?_); (focus (first | rfl | (simp [rnB, rnC, rnL]; done)))) | ((with_reducible refine ObAs.mk ?_ ?_); (focus (first | rfl | (simp [rnB, rnC, rnL]; done)))) | ((with_reducible refine (?_ : ObRs _ _ _)); (refine ObRs.mk _ rfl ?_)) | ((with_reducible refine ObBk.same ?_ ?_); (focus (first | rfl | assumption | (simp; done)))) | ((with_reducible refine (?_ : ObBk _ _ _)); (first | (refine ObBk.lit [.fn _ _] rfl ?_) | (refine ObBk.lit [.agg _] rfl ?_))))
        conv => whnf
        refine Again.mk (e0 :: et ++ [⟨T0, OP, X1, X2, X3, 0⟩], a5) ?_ ?_ (Fg.vw [(0, 0, 0), (0, 1, 0), (0, 2, 0), (0, 3, 0), (0, 4, 1)] ?_ ?_ (by simp) ?_)
        · exact ⟨le5, by dsimp only; simp; omega, by dsimp only; rw [List.append_assoc, List.length_append]; exact h3⟩
        · dsimp only; simp; omega
        all_goals repeat' ((conv => whnf); first | ((with_reducible refine ObRow.lit ?_ ?_); (focus (simp [rnB, rnC, rnL, AV.cells]; done))) | ((with_reducible refine ObRn.mk ?_ ?_); (focus (simp [rnB, rnC, rnL]; done))) | ((with_reducible refine ObN.mk ?_ ?_); (focus (first | rfl | assumption | omega | (simp only [List.length_map, List.length_append, List.length_cons, List.length_nil]; omega) | (simp; done) | (simp; omega)))) | ((with_reducible refine ObRow.same ?_ ?_ ?_); (focus (first | rfl | assumption)); (focus (first | rfl | assumption | (simp; done)))) | ((with_reducible refine ObRow.lit ?_ ?_); (focus (first | rfl | (simp [rnB, rnC, rnL]; done)))) | ((with_reducible refine ObEqs.mk ?_ ?_); (focus rfl)) | exact True.intro)
  · rw [dec_end hc, List.append_nil] at h3
    rw [← h3]
    unfold HD
    unfold bx bat cl0 cl1 at *
    rcases es with _ | ⟨e0, et⟩
    · have ha : ¬ a < B.length := fun h => hc ⟨h, by simp⟩
      unfold s7 rE
      repeat' ((conv => whnf); first | ((with_reducible refine ObN.mk ?_ ?_); (focus (first | rfl | assumption | omega | (simp only [List.length_map, List.length_append, List.length_cons, List.length_nil]; omega) | (simp; done) | (simp; omega)))) | (with_reducible refine ObT.ff ?_) | ((with_reducible refine ObB.no ?_ ?_); (focus (first | assumption | omega))) | ((with_reducible refine (?_ : ObL _ _)); (refine ObL.mk _ (by first | assumption | exact (List.length_map _).trans (by assumption) | exact List.length_map _ | rfl) ?_)) | ((with_reducible refine (?_ : ObR _ _ _)); (first | (refine ObR.mk _ (by assumption) ?_) | (refine ObR.mk _ (by with_reducible rfl) ?_) | (refine ObR.map (by (first | omega | assumption | (simp only [List.length_map, List.length_append, List.length_cons, List.length_nil, List.length_take, List.length_drop, List.length_set, List.length_replicate]; omega))) (fun x hx => ?_)) | (refine ObR.mk _ rfl ?_))))
      conv => whnf
      refine SeqP.nl [false, false, false, false, false, false, false, true] [] ?_
      repeat' ((conv => whnf); first | (with_reducible refine SeqP.go ?_) | (with_reducible refine ObT.ff ?_) | ((with_reducible refine ObEq.mk ?_); (focus (first | rfl | assumption))))
    · have hl' : et.length + 1 ≤ 5000 := h2
      have na : ((e0 :: et).map enA).take (et.length + 1) = (e0 :: et).map enA := e_all (e0 :: et)
      have np : (((e0 :: et).map enA).take (et.length + 1)).all AV.isP = true := by rw [na]; exact p_e _
      unfold s7 rE
      by_cases ha : a < B.length
      · have hx : ¬ et.length + 1 < 5000 := fun h => hc ⟨ha, h⟩
        repeat' ((conv => whnf); first | ((with_reducible refine ObN.mk ?_ ?_); (focus (first | rfl | assumption | omega | (simp only [List.length_map, List.length_append, List.length_cons, List.length_nil]; omega) | (simp; done) | (simp; omega)))) | (with_reducible refine ObT.tt ?_) | ((with_reducible refine ObB.yes ?_ ?_); (focus (first | assumption | (with_reducible rfl) | omega))) | ((with_reducible refine ObB.no ?_ ?_); (focus (first | assumption | omega))) | ((with_reducible refine (?_ : ObL _ _)); (refine ObL.mk _ (by first | exact (List.length_map _) | assumption | exact (List.length_map _).trans (by assumption) | exact List.length_map _ | rfl) ?_)) | ((with_reducible refine (?_ : ObR _ _ _)); (first | (refine ObR.mk _ (by assumption) ?_) | (refine ObR.mk _ (by with_reducible rfl) ?_) | (refine ObR.map (by (first | omega | assumption | (simp only [List.length_map, List.length_append, List.length_cons, List.length_nil, List.length_take, List.length_drop, List.length_set, List.length_replicate]; omega))) (fun x hx => ?_)) | (refine ObR.mk _ rfl ?_))))
        conv => whnf
        refine SeqP.fz 4 (et.length + 1) [] ?_
        repeat' ((conv => whnf); first | (with_reducible refine SeqP.go ?_) | ((with_reducible refine ObN.mk ?_ ?_); (focus (first | rfl | assumption | omega | (simp only [List.length_map, List.length_append, List.length_cons, List.length_nil]; omega) | (simp; done) | (simp; omega)))) | (with_reducible refine ObT.ff ?_) | ((with_reducible refine (?_ : ObU _ _)); (refine ObU.mk _ (by first | exact na | assumption | ((conv => lhs; simp only [List.set_cons_zero, List.set_cons_succ, List.take_succ_cons, List.take_zero, List.drop_succ_cons, List.drop_zero, List.nil_append, List.cons_append, List.append_nil, List.take_nil, List.drop_nil]); try rfl) | rfl) ?_)) | ((with_reducible refine ObEq.mk ?_); (focus (first | rfl | assumption))) | ((with_reducible refine ObSt.live ?_ ?_); (focus (first | trivial | (refine ⟨rfl, ?_⟩; first | omega | (exact Nat.le_refl _))))))
      · repeat' ((conv => whnf); first | ((with_reducible refine ObN.mk ?_ ?_); (focus (first | rfl | assumption | omega | (simp only [List.length_map, List.length_append, List.length_cons, List.length_nil]; omega) | (simp; done) | (simp; omega)))) | (with_reducible refine ObT.ff ?_) | ((with_reducible refine ObB.no ?_ ?_); (focus (first | assumption | omega))) | ((with_reducible refine (?_ : ObL _ _)); (refine ObL.mk _ (by first | exact (List.length_map _) | assumption | exact (List.length_map _).trans (by assumption) | exact List.length_map _ | rfl) ?_)) | ((with_reducible refine (?_ : ObR _ _ _)); (first | (refine ObR.mk _ (by assumption) ?_) | (refine ObR.mk _ (by with_reducible rfl) ?_) | (refine ObR.map (by (first | omega | assumption | (simp only [List.length_map, List.length_append, List.length_cons, List.length_nil, List.length_take, List.length_drop, List.length_set, List.length_replicate]; omega))) (fun x hx => ?_)) | (refine ObR.mk _ rfl ?_))))
        conv => whnf
        refine SeqP.fz 4 (et.length + 1) [] ?_
        repeat' ((conv => whnf); first | (with_reducible refine SeqP.go ?_) | ((with_reducible refine ObN.mk ?_ ?_); (focus (first | rfl | assumption | omega | (simp only [List.length_map, List.length_append, List.length_cons, List.length_nil]; omega) | (simp; done) | (simp; omega)))) | (with_reducible refine ObT.ff ?_) | ((with_reducible refine (?_ : ObU _ _)); (refine ObU.mk _ (by first | exact na | assumption | ((conv => lhs; simp only [List.set_cons_zero, List.set_cons_succ, List.take_succ_cons, List.take_zero, List.drop_succ_cons, List.drop_zero, List.nil_append, List.cons_append, List.append_nil, List.take_nil, List.drop_nil]); try rfl) | rfl) ?_)) | ((with_reducible refine ObEq.mk ?_); (focus (first | rfl | assumption))) | ((with_reducible refine ObSt.live ?_ ?_); (focus (first | trivial | (refine ⟨rfl, ?_⟩; first | omega | (exact Nat.le_refl _))))))
end
end Go.Proofs.YtgcnbbjapapnjaaDoor.Sim
