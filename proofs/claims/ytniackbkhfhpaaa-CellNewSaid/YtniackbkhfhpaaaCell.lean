/- Cells that are none; new cells. -/
import Derived.Test.YtniackbkhfhpaaaMem
import Derived.Deep.Cut
namespace Go.Proofs.Ytniackbkhfhpaaa.Ce
open Go.RowKit
set_option linter.unusedVariables false
set_option linter.unusedSimpArgs false
def I64 (n : Int) : Prop := -9223372036854775808 ≤ n ∧ n ≤ 9223372036854775807
theorem may_nil (i : Int) (w : World) (hi : I64 i) :
    Calls Try.prog 17 #[.pointer none, .int .i64 i] w (Quiet (.int .i64 4) w) := by
  unfold I64 at hi
  go_enter Try.func17, Try.ntmps17
  go_wp2
  refine bodyPost_ret (v := .int .i64 4) (by simp [results, Try.results17, go_sem]) rfl ⟨rfl, ?_⟩
  exact Drawn.refl _
theorem access_nil (i : Int) (w : World) (hi : I64 i) :
    Calls Try.prog 18 #[.pointer none, .int .i64 i] w (Quiet (.int .i64 4) w) := by
  have k := fun w => Lib.hid (may_nil i w hi)
  unfold I64 at hi
  go_enter Try.func18, Try.ntmps18
  go_wp2_with fail
  refine (k _).out.mono ?_
  rintro e w1 ⟨rfl, q, rfl⟩
  go_wp2
  refine bodyPost_ret (v := .int .i64 4) (by simp [results, Try.results18, go_sem]) rfl ⟨rfl, ?_⟩
  first | exact ⟨_, rfl⟩ | exact ⟨_, by simp only [World.drewN_drewN]⟩
theorem Load_nil (i : Int) (w : World) (hi : I64 i) :
    Calls Try.prog 13 #[.pointer none, .int .i64 i] w (Fresh (.tuple #[.agg #[.int .i64 (0), .int .i64 (0), .int .i64 (0)], .int .i64 4]) w) := by
  have k := fun w => Lib.hid (access_nil i w hi)
  unfold I64 at hi
  go_enter Try.func13, Try.ntmps13
  go_wp2_with fail
  refine (k _).out.mono ?_
  rintro e w1 ⟨rfl, q, rfl⟩
  go_wp2
  refine bodyPost_ret (v := .tuple #[.agg #[.int .i64 (0), .int .i64 (0), .int .i64 (0)], .int .i64 4]) (by simp [results, Try.results13, go_sem]) rfl ⟨rfl, ?_⟩
  exact (by repeat (first | with_reducible exact Below.refl _ _ | with_reducible refine below_drewN ?_ _ | with_reducible refine below_alloc ?_ (Nat.le_refl _) _ | (with_reducible refine Below.setCell ?_ ?h _; (case h => first | (dsimp only; omega) | (simp; done) | (simp; omega))) | with_reducible refine below_step ?_ (Nat.le_refl _) (by assumption)))
theorem Peek_nil (i : Int) (w : World) (hi : I64 i) :
    Calls Try.prog 11 #[.pointer none, .int .i64 i] w (Fresh (.agg #[.int .i64 (0), .int .i64 (0), .int .i64 (0)]) w) := by
  have k := fun w => Lib.hid (may_nil i w hi)
  unfold I64 at hi
  go_enter Try.func11, Try.ntmps11
  go_wp2_with fail
  refine (k _).out.mono ?_
  rintro e w1 ⟨rfl, q, rfl⟩
  go_wp2
  refine bodyPost_ret (v := .agg #[.int .i64 (0), .int .i64 (0), .int .i64 (0)]) (by simp [results, Try.results11, go_sem]) rfl ⟨rfl, ?_⟩
  exact (by repeat (first | with_reducible exact Below.refl _ _ | with_reducible refine below_drewN ?_ _ | with_reducible refine below_alloc ?_ (Nat.le_refl _) _ | (with_reducible refine Below.setCell ?_ ?h _; (case h => first | (dsimp only; omega) | (simp; done) | (simp; omega))) | with_reducible refine below_step ?_ (Nat.le_refl _) (by assumption)))
theorem Swap_nil (i w0 w1 w2 : Int) (w : World) (hi : I64 i) :
    Calls Try.prog 15 #[.pointer none, .int .i64 i, .agg #[.int .i64 (w0), .int .i64 (w1), .int .i64 (w2)]] w (Fresh (.tuple #[.agg #[.int .i64 (0), .int .i64 (0), .int .i64 (0)], .int .i64 4]) w) := by
  have k := fun w => Lib.hid (access_nil i w hi)
  unfold I64 at hi
  go_enter Try.func15, Try.ntmps15
  go_wp2_with fail
  refine (k _).out.mono ?_
  rintro e w1 ⟨rfl, q, rfl⟩
  go_wp2
  refine bodyPost_ret (v := .tuple #[.agg #[.int .i64 (0), .int .i64 (0), .int .i64 (0)], .int .i64 4]) (by simp [results, Try.results15, go_sem]) rfl ⟨rfl, ?_⟩
  exact (by repeat (first | with_reducible exact Below.refl _ _ | with_reducible refine below_drewN ?_ _ | with_reducible refine below_alloc ?_ (Nat.le_refl _) _ | (with_reducible refine Below.setCell ?_ ?h _; (case h => first | (dsimp only; omega) | (simp; done) | (simp; omega))) | with_reducible refine below_step ?_ (Nat.le_refl _) (by assumption)))
theorem Count_nil  (w : World) :
    Calls Try.prog 10 #[.pointer none] w (Quiet (.int .i64 0) w) := by
  go_enter Try.func10, Try.ntmps10
  go_wp2
  refine bodyPost_ret (v := .int .i64 0) (by simp [results, Try.results10, go_sem]) rfl ⟨rfl, ?_⟩
  first | exact Drawn.refl _ | exact ⟨_, rfl⟩ | exact ⟨_, by simp only [World.drewN_drewN]⟩
/-- Cells that New did not make. -/
def Em (b : Nat) (w : World) : Prop := w.cell? ⟨b, 0, none⟩ = some (.bool false) ∧ w.cell? ⟨b, 2, none⟩ = some (.int .i64 0)
theorem Em.lt {b : Nat} {w : World} (h : Em b w) : b < w.heap.size := World.block_lt_of_cell? w _ h.1
theorem Em.below {b : Nat} {w w' : World} (h : Em b w) (hb : Below w.heap.size w w') : Em b w' := by
  have l := h.lt
  obtain ⟨c, _, _, _⟩ := bcell hb
  unfold Em
  rw [c _ _ l, c _ _ l]
  exact h
theorem may_emp (b : Nat) (i : Int) (w : World) (hi : I64 i) (h : Em b w) :
    Calls Try.prog 17 #[.pointer (some ⟨b, 0, none⟩), .int .i64 i] w (Quiet (.int .i64 4) w) := by
  have hE := h
  obtain ⟨h0, h2⟩ := h
  unfold I64 at hi
  go_enter Try.func17, Try.ntmps17
  go_wp2
  refine bodyPost_ret (v := .int .i64 4) (by simp [results, Try.results17, go_sem]) rfl ⟨rfl, ?_⟩
  first | exact Drawn.refl _ | exact ⟨_, rfl⟩ | exact ⟨_, by simp only [World.drewN_drewN]⟩
theorem access_emp (b : Nat) (i : Int) (w : World) (hi : I64 i) (h : Em b w) :
    Calls Try.prog 18 #[.pointer (some ⟨b, 0, none⟩), .int .i64 i] w (Quiet (.int .i64 4) w) := by
  have hE := h
  obtain ⟨h0, h2⟩ := h
  have k := fun w h => Lib.hid (may_emp b i w hi h)
  unfold I64 at hi
  go_enter Try.func18, Try.ntmps18
  go_wp2_with fail
  refine (k _ (hE.below (by repeat (first | with_reducible exact Below.refl _ _ | with_reducible refine below_drewN ?_ _ | with_reducible refine below_alloc ?_ (Nat.le_refl _) _ | (with_reducible refine Below.setCell ?_ ?h _; (case h => first | (dsimp only; omega) | (simp; done) | (simp; omega))) | with_reducible refine below_step ?_ (Nat.le_refl _) (by assumption))))).out.mono ?_
  rintro e w1 ⟨rfl, q, rfl⟩
  go_wp2
  refine bodyPost_ret (v := .int .i64 4) (by simp [results, Try.results18, go_sem]) rfl ⟨rfl, ?_⟩
  first | exact Drawn.refl _ | exact ⟨_, rfl⟩ | exact ⟨_, by simp only [World.drewN_drewN]⟩
theorem Cas_emp (b : Nat) (i w0 w1 w2 v0 v1 v2 : Int) (w : World) (hi : I64 i) (h : Em b w) :
    Calls Try.prog 14 #[.pointer (some ⟨b, 0, none⟩), .int .i64 i, .agg #[.int .i64 (w0), .int .i64 (w1), .int .i64 (w2)], .agg #[.int .i64 (v0), .int .i64 (v1), .int .i64 (v2)]] w (Fresh (.tuple #[.bool false, .int .i64 4]) w) := by
  have hE := h
  obtain ⟨h0, h2⟩ := h
  have k := fun w h => Lib.hid (access_emp b i w hi h)
  unfold I64 at hi
  go_enter Try.func14, Try.ntmps14
  go_wp2_with fail
  refine (k _ (hE.below (by repeat (first | with_reducible exact Below.refl _ _ | with_reducible refine below_drewN ?_ _ | with_reducible refine below_alloc ?_ (Nat.le_refl _) _ | (with_reducible refine Below.setCell ?_ ?h _; (case h => first | (dsimp only; omega) | (simp; done) | (simp; omega))) | with_reducible refine below_step ?_ (Nat.le_refl _) (by assumption))))).out.mono ?_
  rintro e w1 ⟨rfl, q, rfl⟩
  go_wp2
  refine bodyPost_ret (v := .tuple #[.bool false, .int .i64 4]) (by simp [results, Try.results14, go_sem]) rfl ⟨rfl, ?_⟩
  exact (by repeat (first | with_reducible exact Below.refl _ _ | with_reducible refine below_drewN ?_ _ | with_reducible refine below_alloc ?_ (Nat.le_refl _) _ | (with_reducible refine Below.setCell ?_ ?h _; (case h => first | (dsimp only; omega) | (simp; done) | (simp; omega))) | with_reducible refine below_step ?_ (Nat.le_refl _) (by assumption)))
theorem Swap_emp (b : Nat) (i w0 w1 w2 : Int) (w : World) (hi : I64 i) (h : Em b w) :
    Calls Try.prog 15 #[.pointer (some ⟨b, 0, none⟩), .int .i64 i, .agg #[.int .i64 (w0), .int .i64 (w1), .int .i64 (w2)]] w (Fresh (.tuple #[.agg #[.int .i64 (0), .int .i64 (0), .int .i64 (0)], .int .i64 4]) w) := by
  have hE := h
  obtain ⟨h0, h2⟩ := h
  have k := fun w h => Lib.hid (access_emp b i w hi h)
  unfold I64 at hi
  go_enter Try.func15, Try.ntmps15
  go_wp2_with fail
  refine (k _ (hE.below (by repeat (first | with_reducible exact Below.refl _ _ | with_reducible refine below_drewN ?_ _ | with_reducible refine below_alloc ?_ (Nat.le_refl _) _ | (with_reducible refine Below.setCell ?_ ?h _; (case h => first | (dsimp only; omega) | (simp; done) | (simp; omega))) | with_reducible refine below_step ?_ (Nat.le_refl _) (by assumption))))).out.mono ?_
  rintro e w1 ⟨rfl, q, rfl⟩
  go_wp2
  refine bodyPost_ret (v := .tuple #[.agg #[.int .i64 (0), .int .i64 (0), .int .i64 (0)], .int .i64 4]) (by simp [results, Try.results15, go_sem]) rfl ⟨rfl, ?_⟩
  exact (by repeat (first | with_reducible exact Below.refl _ _ | with_reducible refine below_drewN ?_ _ | with_reducible refine below_alloc ?_ (Nat.le_refl _) _ | (with_reducible refine Below.setCell ?_ ?h _; (case h => first | (dsimp only; omega) | (simp; done) | (simp; omega))) | with_reducible refine below_step ?_ (Nat.le_refl _) (by assumption)))
theorem Store_emp (b : Nat) (i w0 w1 w2 : Int) (w : World) (hi : I64 i) (h : Em b w) :
    Calls Try.prog 16 #[.pointer (some ⟨b, 0, none⟩), .int .i64 i, .agg #[.int .i64 (w0), .int .i64 (w1), .int .i64 (w2)]] w (Fresh (.int .i64 4) w) := by
  have hE := h
  obtain ⟨h0, h2⟩ := h
  have k := fun w h => Lib.hid (Swap_emp b i w0 w1 w2 w hi h)
  unfold I64 at hi
  go_enter Try.func16, Try.ntmps16
  go_wp2_with fail
  refine (k _ (hE.below (by repeat (first | with_reducible exact Below.refl _ _ | with_reducible refine below_drewN ?_ _ | with_reducible refine below_alloc ?_ (Nat.le_refl _) _ | (with_reducible refine Below.setCell ?_ ?h _; (case h => first | (dsimp only; omega) | (simp; done) | (simp; omega))) | with_reducible refine below_step ?_ (Nat.le_refl _) (by assumption))))).out.mono ?_
  rintro e w1 ⟨rfl, hB⟩
  go_wp2
  refine bodyPost_ret (v := .int .i64 4) (by simp [results, Try.results16, go_sem]) rfl ⟨rfl, ?_⟩
  exact (by repeat (first | with_reducible exact Below.refl _ _ | with_reducible refine below_drewN ?_ _ | with_reducible refine below_alloc ?_ (Nat.le_refl _) _ | (with_reducible refine Below.setCell ?_ ?h _; (case h => first | (dsimp only; omega) | (simp; done) | (simp; omega))) | with_reducible refine below_step ?_ (Nat.le_refl _) (by assumption)))
theorem Peek_emp (b : Nat) (i : Int) (w : World) (hi : I64 i) (h : Em b w) :
    Calls Try.prog 11 #[.pointer (some ⟨b, 0, none⟩), .int .i64 i] w (Fresh (.agg #[.int .i64 (0), .int .i64 (0), .int .i64 (0)]) w) := by
  have hE := h
  obtain ⟨h0, h2⟩ := h
  have k := fun w h => Lib.hid (may_emp b i w hi h)
  unfold I64 at hi
  go_enter Try.func11, Try.ntmps11
  go_wp2_with fail
  refine (k _ (hE.below (by repeat (first | with_reducible exact Below.refl _ _ | with_reducible refine below_drewN ?_ _ | with_reducible refine below_alloc ?_ (Nat.le_refl _) _ | (with_reducible refine Below.setCell ?_ ?h _; (case h => first | (dsimp only; omega) | (simp; done) | (simp; omega))) | with_reducible refine below_step ?_ (Nat.le_refl _) (by assumption))))).out.mono ?_
  rintro e w1 ⟨rfl, q, rfl⟩
  go_wp2
  refine bodyPost_ret (v := .agg #[.int .i64 (0), .int .i64 (0), .int .i64 (0)]) (by simp [results, Try.results11, go_sem]) rfl ⟨rfl, ?_⟩
  exact (by repeat (first | with_reducible exact Below.refl _ _ | with_reducible refine below_drewN ?_ _ | with_reducible refine below_alloc ?_ (Nat.le_refl _) _ | (with_reducible refine Below.setCell ?_ ?h _; (case h => first | (dsimp only; omega) | (simp; done) | (simp; omega))) | with_reducible refine below_step ?_ (Nat.le_refl _) (by assumption)))
theorem Count_emp (b : Nat) (w : World) (h : Em b w) :
    Calls Try.prog 10 #[.pointer (some ⟨b, 0, none⟩)] w (Quiet (.int .i64 0) w) := by
  have hE := h
  obtain ⟨h0, h2⟩ := h
  go_enter Try.func10, Try.ntmps10
  go_wp2
  refine bodyPost_ret (v := .int .i64 0) (by simp [results, Try.results10, go_sem]) rfl ⟨rfl, ?_⟩
  first | exact Drawn.refl _ | exact ⟨_, rfl⟩ | exact ⟨_, by simp only [World.drewN_drewN]⟩
end Go.Proofs.Ytniackbkhfhpaaa.Ce
