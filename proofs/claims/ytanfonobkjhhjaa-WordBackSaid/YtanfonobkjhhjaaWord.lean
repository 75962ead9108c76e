/- Contracts of the words of cells. -/
import Derived.Test.YtanfonobkjhhjaaLib
namespace Go.Proofs.Ytanfonobkjhhjaa.Words
open Go.RowKit
set_option linter.unusedVariables false

def I64 (a : Int) : Prop := -9223372036854775808 ≤ a ∧ a ≤ 9223372036854775807
def wk (r t i : Int) : Int × Int := if i < -16 then (0, 4) else if 0 ≤ t then (3, 0) else if t = -1 ∧ r = 0 then (1, 0) else if t = -2 ∧ r = 0 then (2, 0) else (0, 4)

theorem Kind_calls (r t i : Int) (w : World) (hr : I64 r) (ht : I64 t) (hi : I64 i) :
    Calls Try.prog 8 #[.agg #[.int .i64 r, .int .i64 t, .int .i64 i]] w (Fresh (.tuple #[.int .i64 (wk r t i).1, .int .i64 (wk r t i).2]) w) := by
  unfold I64 at hr ht hi
  have e : wk r t i = if i < -16 then (0, 4) else if 0 ≤ t then (3, 0) else if t = -1 ∧ r = 0 then (1, 0) else if t = -2 ∧ r = 0 then (2, 0) else (0, 4) := rfl
  generalize wk r t i = m at *
  split at e
  · subst e
    go_enter Try.func8, Try.ntmps8
    go_wp2
    go_ret2
    exact ⟨rfl, below_alloc (Below.refl _ _) (Nat.le_refl _) _⟩
  split at e
  · subst e
    go_enter Try.func8, Try.ntmps8
    go_wp2
    go_ret2
    exact ⟨rfl, below_alloc (Below.refl _ _) (Nat.le_refl _) _⟩
  split at e
  · rename_i h; obtain ⟨rfl, rfl⟩ := h
    subst e
    go_enter Try.func8, Try.ntmps8
    go_wp2
    go_ret2
    exact ⟨rfl, below_alloc (Below.refl _ _) (Nat.le_refl _) _⟩
  split at e
  · rename_i h; obtain ⟨rfl, rfl⟩ := h
    subst e
    go_enter Try.func8, Try.ntmps8
    go_wp2
    go_ret2
    exact ⟨rfl, below_alloc (Below.refl _ _) (Nat.le_refl _) _⟩
  · subst e
    go_enter Try.func8, Try.ntmps8
    go_wp2
    all_goals
      go_ret2
      exact ⟨by first | rfl | (exfalso; simp_all), below_alloc (Below.refl _ _) (Nat.le_refl _) _⟩

def hd (k i r v : Int) : (Int × Int × Int) × Int := if i < -16 then ((0, 0, 0), 2) else if k = 1 then ((0, -1, i), 0) else if k = 2 then ((0, -2, i), 0) else if k = 3 ∧ 0 ≤ v then ((r, v, i), 0) else ((0, 0, 0), 2)
theorem Handle_calls (k i r v : Int) (w : World) (hk : I64 k) (hi : I64 i) (hr : I64 r) (hv : I64 v) :
    Calls Try.prog 6 #[.int .i64 k, .int .i64 i, .int .i64 r, .int .i64 v] w (Fresh (.tuple #[.agg #[.int .i64 (hd k i r v).1.1, .int .i64 (hd k i r v).1.2.1, .int .i64 (hd k i r v).1.2.2], .int .i64 (hd k i r v).2]) w) := by
  unfold I64 at hk hr hv hi
  have e : hd k i r v = if i < -16 then ((0, 0, 0), 2) else if k = 1 then ((0, -1, i), 0) else if k = 2 then ((0, -2, i), 0) else if k = 3 ∧ 0 ≤ v then ((r, v, i), 0) else ((0, 0, 0), 2) := rfl
  generalize hd k i r v = m at *
  split at e
  · subst e
    go_enter Try.func6, Try.ntmps6
    go_wp2
    refine bodyPost_ret (v := .tuple #[.agg #[.int .i64 (0), .int .i64 (0), .int .i64 (0)], .int .i64 2]) (by simp [results, Try.results6, go_sem]) rfl ⟨rfl, ?_⟩
    exact below_alloc (Below.refl _ _) (Nat.le_refl _) _
  split at e
  · subst e
    rename_i h; subst h
    go_enter Try.func6, Try.ntmps6
    go_wp2
    refine bodyPost_ret (v := .tuple #[.agg #[.int .i64 (0), .int .i64 (-1), .int .i64 (i)], .int .i64 0]) (by simp [results, Try.results6, go_sem]) rfl ⟨rfl, ?_⟩
    exact below_alloc (Below.refl _ _) (Nat.le_refl _) _
  split at e
  · subst e
    rename_i h; subst h
    go_enter Try.func6, Try.ntmps6
    go_wp2
    refine bodyPost_ret (v := .tuple #[.agg #[.int .i64 (0), .int .i64 (-2), .int .i64 (i)], .int .i64 0]) (by simp [results, Try.results6, go_sem]) rfl ⟨rfl, ?_⟩
    exact below_alloc (Below.refl _ _) (Nat.le_refl _) _
  split at e
  · subst e
    rename_i h; obtain ⟨rfl, h⟩ := h
    go_enter Try.func6, Try.ntmps6
    go_wp2
    refine bodyPost_ret (v := .tuple #[.agg #[.int .i64 (r), .int .i64 (v), .int .i64 (i)], .int .i64 0]) (by simp [results, Try.results6, go_sem]) rfl ⟨rfl, ?_⟩
    exact below_alloc (Below.refl _ _) (Nat.le_refl _) _
  · subst e
    have h1 : (k == 1) = false := by simpa using ‹¬ k = 1›
    have h2 : (k == 2) = false := by simpa using ‹¬ k = 2›
    by_cases h3 : k = 3
    · subst h3
      have h4 : v < 0 := by rename_i h; omega
      go_enter Try.func6, Try.ntmps6
      go_wp2
      refine bodyPost_ret (v := .tuple #[.agg #[.int .i64 (0), .int .i64 (0), .int .i64 (0)], .int .i64 2]) (by simp [results, Try.results6, go_sem]) rfl ⟨rfl, ?_⟩
      exact below_alloc (Below.refl _ _) (Nat.le_refl _) _
    · have h4 : (k == 3) = false := by simpa using h3
      go_enter Try.func6, Try.ntmps6
      go_wp2
      refine bodyPost_ret (v := .tuple #[.agg #[.int .i64 (0), .int .i64 (0), .int .i64 (0)], .int .i64 2]) (by simp [results, Try.results6, go_sem]) rfl ⟨rfl, ?_⟩
      exact below_alloc (Below.refl _ _) (Nat.le_refl _) _
theorem RefKind_calls (r t i : Int) (w : World) (hr : I64 r) (ht : I64 t) (hi : I64 i) :
    Calls Try.prog 12 #[.agg #[.int .i64 r, .int .i64 t, .int .i64 i]] w (Fresh (.int .i64 (wk r t i).1) w) := by
  unfold I64 at hr ht hi
  have e : wk r t i = if i < -16 then (0, 4) else if 0 ≤ t then (3, 0) else if t = -1 ∧ r = 0 then (1, 0) else if t = -2 ∧ r = 0 then (2, 0) else (0, 4) := rfl
  generalize wk r t i = m at *
  split at e
  · subst e
    go_enter Try.func12, Try.ntmps12
    go_wp2
    go_ret
    exact ⟨rfl, below_alloc (Below.refl _ _) (Nat.le_refl _) _⟩
  split at e
  · subst e
    go_enter Try.func12, Try.ntmps12
    go_wp2
    go_ret
    exact ⟨rfl, below_alloc (Below.refl _ _) (Nat.le_refl _) _⟩
  split at e
  · rename_i h; obtain ⟨rfl, rfl⟩ := h
    subst e
    go_enter Try.func12, Try.ntmps12
    go_wp2
    go_ret
    exact ⟨rfl, below_alloc (Below.refl _ _) (Nat.le_refl _) _⟩
  split at e
  · rename_i h; obtain ⟨rfl, rfl⟩ := h
    subst e
    go_enter Try.func12, Try.ntmps12
    go_wp2
    go_ret
    exact ⟨rfl, below_alloc (Below.refl _ _) (Nat.le_refl _) _⟩
  · subst e
    go_enter Try.func12, Try.ntmps12
    go_wp2
    all_goals
      go_ret
      exact ⟨by first | rfl | (exfalso; simp_all), below_alloc (Below.refl _ _) (Nat.le_refl _) _⟩

theorem RefHandle_calls (k i r v : Int) (w : World) (hk : I64 k) (hi : I64 i) (hr : I64 r) (hv : I64 v) :
    Calls Try.prog 7 #[.int .i64 k, .int .i64 i, .int .i64 r, .int .i64 v] w (Fresh (.tuple #[.agg #[.int .i64 (hd k i r v).1.1, .int .i64 (hd k i r v).1.2.1, .int .i64 (hd k i r v).1.2.2], .bool ((hd k i r v).2 == 0)]) w) := by
  unfold I64 at hk hr hv hi
  have e : hd k i r v = if i < -16 then ((0, 0, 0), 2) else if k = 1 then ((0, -1, i), 0) else if k = 2 then ((0, -2, i), 0) else if k = 3 ∧ 0 ≤ v then ((r, v, i), 0) else ((0, 0, 0), 2) := rfl
  generalize hd k i r v = m at *
  split at e
  · subst e
    go_enter Try.func7, Try.ntmps7
    go_wp2
    all_goals
      refine bodyPost_ret (v := .tuple #[.agg #[.int .i64 (0), .int .i64 (0), .int .i64 (0)], .bool false]) (by simp [results, Try.results7, go_sem]) rfl ⟨rfl, ?_⟩
      exact (by repeat (first | with_reducible exact Below.refl _ _ | with_reducible refine below_drewN ?_ _ | with_reducible refine below_alloc ?_ (Nat.le_refl _) _ | (with_reducible refine Below.setCell ?_ ?h _; (case h => first | (dsimp only; omega) | (simp; done) | (simp; omega))) | with_reducible refine below_step ?_ (Nat.le_refl _) (by assumption)))
  split at e
  · subst e
    rename_i h; subst h
    go_enter Try.func7, Try.ntmps7
    go_wp2
    all_goals
      refine bodyPost_ret (v := .tuple #[.agg #[.int .i64 (0), .int .i64 (-1), .int .i64 (i)], .bool true]) (by simp [results, Try.results7, go_sem]) rfl ⟨rfl, ?_⟩
      exact (by repeat (first | with_reducible exact Below.refl _ _ | with_reducible refine below_drewN ?_ _ | with_reducible refine below_alloc ?_ (Nat.le_refl _) _ | (with_reducible refine Below.setCell ?_ ?h _; (case h => first | (dsimp only; omega) | (simp; done) | (simp; omega))) | with_reducible refine below_step ?_ (Nat.le_refl _) (by assumption)))
  split at e
  · subst e
    rename_i h; subst h
    go_enter Try.func7, Try.ntmps7
    go_wp2
    all_goals
      refine bodyPost_ret (v := .tuple #[.agg #[.int .i64 (0), .int .i64 (-2), .int .i64 (i)], .bool true]) (by simp [results, Try.results7, go_sem]) rfl ⟨rfl, ?_⟩
      exact (by repeat (first | with_reducible exact Below.refl _ _ | with_reducible refine below_drewN ?_ _ | with_reducible refine below_alloc ?_ (Nat.le_refl _) _ | (with_reducible refine Below.setCell ?_ ?h _; (case h => first | (dsimp only; omega) | (simp; done) | (simp; omega))) | with_reducible refine below_step ?_ (Nat.le_refl _) (by assumption)))
  split at e
  · subst e
    rename_i h; obtain ⟨rfl, h⟩ := h
    go_enter Try.func7, Try.ntmps7
    go_wp2
    all_goals
      refine bodyPost_ret (v := .tuple #[.agg #[.int .i64 (r), .int .i64 (v), .int .i64 (i)], .bool true]) (by simp [results, Try.results7, go_sem]) rfl ⟨rfl, ?_⟩
      exact (by repeat (first | with_reducible exact Below.refl _ _ | with_reducible refine below_drewN ?_ _ | with_reducible refine below_alloc ?_ (Nat.le_refl _) _ | (with_reducible refine Below.setCell ?_ ?h _; (case h => first | (dsimp only; omega) | (simp; done) | (simp; omega))) | with_reducible refine below_step ?_ (Nat.le_refl _) (by assumption)))
  · subst e
    have h1 : (k == 1) = false := by simpa using ‹¬ k = 1›
    have h2 : (k == 2) = false := by simpa using ‹¬ k = 2›
    by_cases h3 : k = 3
    · subst h3
      have h4 : v < 0 := by rename_i h; omega
      go_enter Try.func7, Try.ntmps7
      go_wp2
      all_goals
        refine bodyPost_ret (v := .tuple #[.agg #[.int .i64 (0), .int .i64 (0), .int .i64 (0)], .bool false]) (by simp [results, Try.results7, go_sem]) rfl ⟨rfl, ?_⟩
        exact (by repeat (first | with_reducible exact Below.refl _ _ | with_reducible refine below_drewN ?_ _ | with_reducible refine below_alloc ?_ (Nat.le_refl _) _ | (with_reducible refine Below.setCell ?_ ?h _; (case h => first | (dsimp only; omega) | (simp; done) | (simp; omega))) | with_reducible refine below_step ?_ (Nat.le_refl _) (by assumption)))
    · have h4 : (k == 3) = false := by simpa using h3
      go_enter Try.func7, Try.ntmps7
      go_wp2
      all_goals
        refine bodyPost_ret (v := .tuple #[.agg #[.int .i64 (0), .int .i64 (0), .int .i64 (0)], .bool false]) (by simp [results, Try.results7, go_sem]) rfl ⟨rfl, ?_⟩
        exact (by repeat (first | with_reducible exact Below.refl _ _ | with_reducible refine below_drewN ?_ _ | with_reducible refine below_alloc ?_ (Nat.le_refl _) _ | (with_reducible refine Below.setCell ?_ ?h _; (case h => first | (dsimp only; omega) | (simp; done) | (simp; omega))) | with_reducible refine below_step ?_ (Nat.le_refl _) (by assumption)))

def inR (h : Int) : Bool := decide (1 ≤ h) && decide (h ≤ 16)
theorem inRange_calls (h : Int) (w : World) (hh : I64 h) : Calls Try.prog 20 #[.int .i64 h] w (Quiet (.bool (inR h)) w) := by
  unfold I64 at hh
  unfold inR
  by_cases h1 : 1 ≤ h
  · have e : decide (1 ≤ h) = true := by simpa using h1
    rw [e]; clear e
    go_enter Try.func20, Try.ntmps20
    go_wp2
    go_ret
    exact ⟨rfl, Drawn.refl _⟩
  · have e : decide (1 ≤ h) = false := by simpa using h1
    rw [e]; clear e
    go_enter Try.func20, Try.ntmps20
    go_wp2
    go_ret
    exact ⟨rfl, Drawn.refl _⟩
theorem Many_calls (h : Int) (w : World) (hh : I64 h) : Calls Try.prog 10 #[.int .i64 h] w (Quiet (.bool (inR h)) w) := by
  unfold I64 at hh
  unfold inR
  by_cases h1 : 1 ≤ h
  · have e : decide (1 ≤ h) = true := by simpa using h1
    rw [e]; clear e
    go_enter Try.func10, Try.ntmps10
    go_wp2
    go_ret
    exact ⟨rfl, Drawn.refl _⟩
  · have e : decide (1 ≤ h) = false := by simpa using h1
    rw [e]; clear e
    go_enter Try.func10, Try.ntmps10
    go_wp2
    go_ret
    exact ⟨rfl, Drawn.refl _⟩
theorem inR_true {h : Int} (e : inR h = true) : 1 ≤ h ∧ h ≤ 16 := by unfold inR at e; simpa using e
/-- The first word of handle i. -/
def fst_ (i h : Int) : (Int × Int × Int) × Int := if inR h = true ∧ 0 ≤ i ∧ i < h then ((0, -1, i - h), 0) else ((0, 0, 0), 2)
theorem First_calls (i h : Int) (w : World) (hi : I64 i) (hh : I64 h) :
    Calls Try.prog 9 #[.int .i64 i, .int .i64 h] w (Fresh (.tuple #[.agg #[.int .i64 (fst_ i h).1.1, .int .i64 (fst_ i h).1.2.1, .int .i64 (fst_ i h).1.2.2], .int .i64 (fst_ i h).2]) w) := by
  have k1 := fun w => Lib.hid (inRange_calls h w hh)
  have e : fst_ i h = if inR h = true ∧ 0 ≤ i ∧ i < h then ((0, -1, i - h), 0) else ((0, 0, 0), 2) := rfl
  generalize fst_ i h = m at *
  cases hc : inR h
  · rw [hc] at e k1
    rw [if_neg (by simp)] at e
    subst e
    clear hc
    unfold I64 at hi hh
    go_enter Try.func9, Try.ntmps9
    go_wp2_with (go_at_call 20; (with_reducible refine (k1 _).out.mono ?_); rintro e w' ⟨rfl, q, rfl⟩)
    refine bodyPost_ret (v := .tuple #[.agg #[.int .i64 (0), .int .i64 (0), .int .i64 (0)], .int .i64 2]) (by simp [results, Try.results9, go_sem]) rfl ⟨rfl, ?_⟩
    exact (by repeat (first | with_reducible exact Below.refl _ _ | with_reducible refine below_drewN ?_ _ | with_reducible refine below_alloc ?_ (Nat.le_refl _) _ | (with_reducible refine Below.setCell ?_ ?h _; (case h => first | (dsimp only; omega) | (simp; done) | (simp; omega))) | with_reducible refine below_step ?_ (Nat.le_refl _) (by assumption)))
  · obtain ⟨hr1, hr2⟩ := inR_true hc
    rw [hc] at e k1
    clear hc
    by_cases h1 : 0 ≤ i
    · by_cases h2 : i < h
      · rw [if_pos ⟨rfl, h1, h2⟩] at e
        subst e
        have hd0 : hd 1 (i - h) 0 0 = ((0, -1, i - h), 0) := by unfold hd; rw [if_neg (by omega), if_pos rfl]
        have k2 := fun w => Handle_calls 1 (i - h) 0 0 w (by unfold I64; omega) (by unfold I64; omega) (by unfold I64; omega) (by unfold I64; omega)
        rw [hd0] at k2
        have K2 := fun w => Lib.hid (k2 w)
        clear k2 hd0
        unfold I64 at hi hh
        go_enter Try.func9, Try.ntmps9
        go_wp2_with (first | (go_at_call 20; (with_reducible refine ((k1 _).out).mono ?_); rintro e w' ⟨rfl, q, rfl⟩) | (go_at_call 6; (with_reducible refine ((K2 _).out).mono ?_); rintro e w' ⟨rfl, hB⟩; obtain ⟨hbc, hbf, hbm, hbn⟩ := bcell hB))
        refine bodyPost_ret (v := .tuple #[.agg #[.int .i64 (0), .int .i64 (-1), .int .i64 (i - h)], .int .i64 0]) (by simp [results, Try.results9, go_sem, hbc]) rfl ⟨rfl, ?_⟩
        exact (by repeat (first | with_reducible exact Below.refl _ _ | with_reducible refine below_drewN ?_ _ | with_reducible refine below_alloc ?_ (Nat.le_refl _) _ | (with_reducible refine Below.setCell ?_ ?h _; (case h => first | (dsimp only; omega) | (simp; done) | (simp; omega))) | with_reducible refine below_step ?_ (Nat.le_refl _) (by assumption)))
      · rw [if_neg (by omega)] at e
        subst e
        unfold I64 at hi hh
        go_enter Try.func9, Try.ntmps9
        go_wp2_with (go_at_call 20; (with_reducible refine (k1 _).out.mono ?_); rintro e w' ⟨rfl, q, rfl⟩)
        refine bodyPost_ret (v := .tuple #[.agg #[.int .i64 (0), .int .i64 (0), .int .i64 (0)], .int .i64 2]) (by simp [results, Try.results9, go_sem]) rfl ⟨rfl, ?_⟩
        exact (by repeat (first | with_reducible exact Below.refl _ _ | with_reducible refine below_drewN ?_ _ | with_reducible refine below_alloc ?_ (Nat.le_refl _) _ | (with_reducible refine Below.setCell ?_ ?h _; (case h => first | (dsimp only; omega) | (simp; done) | (simp; omega))) | with_reducible refine below_step ?_ (Nat.le_refl _) (by assumption)))
    · rw [if_neg (by omega)] at e
      subst e
      unfold I64 at hi hh
      go_enter Try.func9, Try.ntmps9
      go_wp2_with (go_at_call 20; (with_reducible refine (k1 _).out.mono ?_); rintro e w' ⟨rfl, q, rfl⟩)
      refine bodyPost_ret (v := .tuple #[.agg #[.int .i64 (0), .int .i64 (0), .int .i64 (0)], .int .i64 2]) (by simp [results, Try.results9, go_sem]) rfl ⟨rfl, ?_⟩
      exact (by repeat (first | with_reducible exact Below.refl _ _ | with_reducible refine below_drewN ?_ _ | with_reducible refine below_alloc ?_ (Nat.le_refl _) _ | (with_reducible refine Below.setCell ?_ ?h _; (case h => first | (dsimp only; omega) | (simp; done) | (simp; omega))) | with_reducible refine below_step ?_ (Nat.le_refl _) (by assumption)))
end Go.Proofs.Ytanfonobkjhhjaa.Words
