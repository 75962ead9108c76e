/- Scripts: which fields an operation uses. -/
import Derived.Test.YtgcnbbjapapnjaaDoorScA
namespace Go.Proofs.YtgcnbbjapapnjaaDoor.Sim
open Go.RowKit
set_option maxRecDepth 100000
set_option linter.unusedSimpArgs false
set_option linter.unusedVariables false
def usB : List Bool := [false, false, false, false, true, false, false, false, true, true, false, false, true, true, false, false, true, true, true, false, true, false, false, false, true, false, false, false, false, false, false, false, false, false, false, true, true, false, false, true, false, false, false, true, true, false, false, true, false, false, false, true, false, false, false, false]
def usV : List AV := [.v (.bool false), .v (.bool false), .v (.bool false), .v (.bool false), .v (.bool true), .v (.bool false), .v (.bool false), .v (.bool false), .v (.bool true), .v (.bool true), .v (.bool false), .v (.bool false), .v (.bool true), .v (.bool true), .v (.bool false), .v (.bool false), .v (.bool true), .v (.bool true), .v (.bool true), .v (.bool false), .v (.bool true), .v (.bool false), .v (.bool false), .v (.bool false), .v (.bool true), .v (.bool false), .v (.bool false), .v (.bool false), .v (.bool false), .v (.bool false), .v (.bool false), .v (.bool false), .v (.bool false), .v (.bool false), .v (.bool false), .v (.bool true), .v (.bool true), .v (.bool false), .v (.bool false), .v (.bool true), .v (.bool false), .v (.bool false), .v (.bool false), .v (.bool true), .v (.bool true), .v (.bool false), .v (.bool false), .v (.bool true), .v (.bool false), .v (.bool false), .v (.bool false), .v (.bool true), .v (.bool false), .v (.bool false), .v (.bool false), .v (.bool false)]
/-- The uses of an operation: key, val, old, handle. -/
def us (op j : Nat) : Bool := usB.getD (4 * op + j) false
def txS (b : Bool) (c : UInt8) : ByteArray := if b then ⟨#[c]⟩ else ⟨#[]⟩
def hN (b : Bool) : Nat := if b then 1 else 0
def usA (op : Nat) : AV := .agg [I op, S (txS (us op 0) 107), S (txS (us op 1) 118), S (txS (us op 2) 111), I (hN (us op 3))]
section
variable (G : Nat → AV)
set_option maxHeartbeats 4000000 in
theorem is28 (n : Int) (b : Bool) (hb : b = decide (1 ≤ n ∧ n ≤ 13)) : PC Tryd.prog G 28 [I n] (Bo b) := by
  refine pc_ofV cop28 ?_
  by_cases h1 : 1 ≤ n
  · by_cases h2 : n ≤ 13
    · obtain rfl : b = true := by rw [hb]; simp [h1, h2]
      repeat' ((conv => whnf); first | (with_reducible refine SeqP.go ?_) | ((with_reducible refine ObN.mk ?_ ?_); (focus (first | rfl | assumption | omega | (simp only [List.length_map, List.length_append, List.length_cons, List.length_nil]; omega) | (simp; done) | (simp; omega)))) | (with_reducible refine ObT.tt ?_) | ((with_reducible refine ObB.yes ?_ ?_); (focus (first | assumption | (with_reducible rfl) | omega))) | ((with_reducible refine ObEq.mk ?_); (focus (first | rfl | assumption))))
    · obtain rfl : b = false := by rw [hb]; simp [h2]
      repeat' ((conv => whnf); first | (with_reducible refine SeqP.go ?_) | ((with_reducible refine ObN.mk ?_ ?_); (focus (first | rfl | assumption | omega | (simp only [List.length_map, List.length_append, List.length_cons, List.length_nil]; omega) | (simp; done) | (simp; omega)))) | (with_reducible refine ObT.tt ?_) | ((with_reducible refine ObB.yes ?_ ?_); (focus (first | assumption | (with_reducible rfl) | omega))) | ((with_reducible refine ObB.no ?_ ?_); (focus (first | assumption | omega))) | ((with_reducible refine ObEq.mk ?_); (focus (first | rfl | assumption))))
  · obtain rfl : b = false := by rw [hb]; simp [h1]
    repeat' ((conv => whnf); first | (with_reducible refine SeqP.go ?_) | ((with_reducible refine ObN.mk ?_ ?_); (focus (first | rfl | assumption | omega | (simp only [List.length_map, List.length_append, List.length_cons, List.length_nil]; omega) | (simp; done) | (simp; omega)))) | (with_reducible refine ObT.ff ?_) | ((with_reducible refine ObB.no ?_ ?_); (focus (first | assumption | omega))) | ((with_reducible refine ObEq.mk ?_); (focus (first | rfl | assumption))))
variable (hG : G 0 = .ad 56 [.agg usV] 0 0)
include hG
omit hG in
theorem us_out {n j : Nat} (hn : ¬ (1 ≤ n ∧ n ≤ 13)) (hj : j < 4) : us n j = false := by
  unfold us
  by_cases h0 : n = 0
  · subst h0
    have : j = 0 ∨ j = 1 ∨ j = 2 ∨ j = 3 := by omega
    rcases this with rfl | rfl | rfl | rfl <;> rfl
  · rw [List.getD_eq_getElem?_getD, List.getElem?_eq_none (by show usB.length ≤ _; rw [show usB.length = 56 from rfl]; omega)]; rfl
omit hG in
theorem usA_out {n : Nat} (hn : ¬ (1 ≤ n ∧ n ≤ 13)) : usA n = .agg [I n, S ⟨#[]⟩, S ⟨#[]⟩, S ⟨#[]⟩, I 0] := by
  unfold usA txS hN
  rw [us_out hn (by omega), us_out hn (by omega), us_out hn (by omega), us_out hn (by omega)]
  rfl
set_option maxHeartbeats 16000000 in
theorem pl26 (n : Nat) : PC Tryd.prog G 26 [.agg [I n, S ⟨#[107]⟩, S ⟨#[118]⟩, S ⟨#[111]⟩, I 1]] (usA n) := by
  by_cases h : 1 ≤ n ∧ n ≤ 13
  · have h' : n = 1 ∨ n = 2 ∨ n = 3 ∨ n = 4 ∨ n = 5 ∨ n = 6 ∨ n = 7 ∨ n = 8 ∨ n = 9 ∨ n = 10 ∨ n = 11 ∨ n = 12 ∨ n = 13 := by omega
    unfold usV at hG
    have c : ∀ m : Int, 1 ≤ m → m ≤ 13 → PC Tryd.prog G 28 [I m] (Bo true) := fun m h1 h2 => is28 G m true (by simp [h1, h2])
    rcases h' with rfl | rfl | rfl | rfl | rfl | rfl | rfl | rfl | rfl | rfl | rfl | rfl | rfl
    all_goals
      refine pc_ofV cop26 ?_
      repeat' ((conv => whnf); first | (with_reducible refine SeqP.go ?_) | (rw [hG]) | ((with_reducible refine ObD.mk ?_ ?_); (focus (first | rfl | (simp; done)))) | ((with_reducible refine ObN.mk ?_ ?_); (focus (first | rfl | assumption | omega | (simp only [List.length_map, List.length_append, List.length_cons, List.length_nil]; omega) | (simp; done) | (simp; omega)))) | (with_reducible refine ObT.tt ?_) | (with_reducible refine ObT.ff ?_) | ((with_reducible refine ObX.mk _ rfl ?_ ?_); (focus (first | omega | assumption | (simp only [List.length_map, List.length_append, List.length_cons, List.length_nil, List.length_take, List.length_drop, List.length_set, List.length_replicate]; omega)))) | ((with_reducible refine (?_ : ObU _ _)); (refine ObU.mk _ (by first | assumption | ((conv => lhs; simp only [List.set_cons_zero, List.set_cons_succ, List.take_succ_cons, List.take_zero, List.drop_succ_cons, List.drop_zero, List.nil_append, List.cons_append, List.append_nil, List.take_nil, List.drop_nil]); try rfl) | rfl) ?_)) | ((with_reducible refine (?_ : ObR _ _ _)); (first | (refine ObR.mk _ (by assumption) ?_) | (refine ObR.mk _ (by with_reducible rfl) ?_) | (refine ObR.map (by (first | omega | assumption | (simp only [List.length_map, List.length_append, List.length_cons, List.length_nil, List.length_take, List.length_drop, List.length_set, List.length_replicate]; omega))) (fun x hx => ?_)) | (refine ObR.mk _ rfl ?_))) | ((with_reducible refine ObC.f 28 ?_); (first | (with_reducible refine ObC.mk _ (c _ (by omega) (by omega)) ?_) | (refine ObC.mk _ (c _ (by omega) (by omega)) ?_))) | ((with_reducible refine ObEq.mk ?_); (focus (first | rfl | assumption))))
  · rw [usA_out h]
    have c := is28 G (n : Int) false (by simp; omega)
    refine pc_ofV cop26 ?_
    repeat' ((conv => whnf); first | (with_reducible refine SeqP.go ?_) | ((with_reducible refine ObD.mk ?_ ?_); (focus (first | rfl | (simp; done)))) | ((with_reducible refine ObN.mk ?_ ?_); (focus (first | rfl | assumption | omega | (simp only [List.length_map, List.length_append, List.length_cons, List.length_nil]; omega) | (simp; done) | (simp; omega)))) | (with_reducible refine ObT.tt ?_) | (with_reducible refine ObT.ff ?_) | ((with_reducible refine (?_ : ObU _ _)); (refine ObU.mk _ (by first | assumption | ((conv => lhs; simp only [List.set_cons_zero, List.set_cons_succ, List.take_succ_cons, List.take_zero, List.drop_succ_cons, List.drop_zero, List.nil_append, List.cons_append, List.append_nil, List.take_nil, List.drop_nil]); try rfl) | rfl) ?_)) | ((with_reducible refine (?_ : ObR _ _ _)); (first | (refine ObR.mk _ (by assumption) ?_) | (refine ObR.mk _ (by with_reducible rfl) ?_) | (refine ObR.map (by (first | omega | assumption | (simp only [List.length_map, List.length_append, List.length_cons, List.length_nil, List.length_take, List.length_drop, List.length_set, List.length_replicate]; omega))) (fun x hx => ?_)) | (refine ObR.mk _ rfl ?_))) | ((with_reducible refine ObC.f 28 ?_); (first | (with_reducible refine ObC.mk _ (c) ?_) | (refine ObC.mk _ (c) ?_))) | ((with_reducible refine ObEq.mk ?_); (focus (first | rfl | assumption))))
set_option maxHeartbeats 4000000 in
theorem us16 (n : Nat) : PC Tryd.prog G 16 [I n] (usA n) := by
  have c := pl26 G hG n
  refine pc_ofV cop16 ?_
  unfold usA at *
  generalize txS (us n 0) 107 = t0 at *
  generalize txS (us n 1) 118 = t1 at *
  generalize txS (us n 2) 111 = t2 at *
  generalize hN (us n 3) = t3 at *
  repeat' ((conv => whnf); first | (with_reducible refine SeqP.go ?_) | ((with_reducible refine ObD.mk ?_ ?_); (focus (first | rfl | (simp; done)))) | ((with_reducible refine ObN.mk ?_ ?_); (focus (first | rfl | assumption | omega | (simp only [List.length_map, List.length_append, List.length_cons, List.length_nil]; omega) | (simp; done) | (simp; omega)))) | ((with_reducible refine (?_ : ObU _ _)); (refine ObU.mk _ (by first | assumption | ((conv => lhs; simp only [List.set_cons_zero, List.set_cons_succ, List.take_succ_cons, List.take_zero, List.drop_succ_cons, List.drop_zero, List.nil_append, List.cons_append, List.append_nil, List.take_nil, List.drop_nil]); try rfl) | rfl) ?_)) | ((with_reducible refine (?_ : ObR _ _ _)); (first | (refine ObR.mk _ (by assumption) ?_) | (refine ObR.mk _ (by with_reducible rfl) ?_) | (refine ObR.map (by (first | omega | assumption | (simp only [List.length_map, List.length_append, List.length_cons, List.length_nil, List.length_take, List.length_drop, List.length_set, List.length_replicate]; omega))) (fun x hx => ?_)) | (refine ObR.mk _ rfl ?_))) | ((with_reducible refine ObC.f 26 ?_); (first | (with_reducible refine ObC.mk _ (c) ?_) | (refine ObC.mk _ (c) ?_))) | ((with_reducible refine ObEq.mk ?_); (focus (first | rfl | assumption))))
end
end Go.Proofs.YtgcnbbjapapnjaaDoor.Sim
