/- The numbers behind a handle's; the laws of layer 11. -/
import Derived.Test.YtanfonobkjhhjaaWord
namespace Go.Proofs.Ytanfonobkjhhjaa.Words
open Go.RowKit
set_option linter.unusedVariables false

theorem hd_in (k i r v : Int) (hi : I64 i) (hr : I64 r) (hv : I64 v) : I64 (hd k i r v).1.1 ∧ I64 (hd k i r v).1.2.1 ∧ I64 (hd k i r v).1.2.2 := by
  unfold hd I64 at *
  split
  · simp
  split
  · simp; omega
  split
  · simp; omega
  split
  · exact ⟨hr, hv, hi⟩
  · simp

/-- The number behind a handle's. -/
def nxt (r t i h : Int) : Int × Int := if inR h = true then (if (wk r t i).2 = 0 then (if i > 4611686018427387904 - h then (0, 2) else (i + h, 0)) else (0, 4)) else (0, 2)
theorem wk_cases (r t i : Int) : ((wk r t i).2 = 0 ∧ ((wk r t i).1 = 1 ∨ (wk r t i).1 = 2 ∨ (wk r t i).1 = 3) ∧ -16 ≤ i) ∨ (wk r t i = (0, 4)) := by
  unfold wk
  split
  · right; rfl
  split
  · left; exact ⟨rfl, .inr (.inr rfl), by omega⟩
  split
  · left; exact ⟨rfl, .inl rfl, by omega⟩
  split
  · left; exact ⟨rfl, .inr (.inl rfl), by omega⟩
  · right; rfl
theorem Next_calls (r t i h : Int) (w : World) (hr : I64 r) (ht : I64 t) (hi : I64 i) (hh : I64 h) :
    Calls Try.prog 14 #[.agg #[.int .i64 (r), .int .i64 (t), .int .i64 (i)], .int .i64 h] w (Fresh (.tuple #[.int .i64 (nxt r t i h).1, .int .i64 (nxt r t i h).2]) w) := by
  have k1 := fun w => Lib.hid (inRange_calls h w hh)
  have k2 := fun w => Lib.hid (Kind_calls r t i w hr ht hi)
  have e : nxt r t i h = if inR h = true then (if (wk r t i).2 = 0 then (if i > 4611686018427387904 - h then (0, 2) else (i + h, 0)) else (0, 4)) else (0, 2) := rfl
  have hw := wk_cases r t i
  generalize nxt r t i h = m at *
  cases hc : inR h
  · rw [hc] at e k1
    rw [if_neg (by simp)] at e
    subst e
    clear hc hw
    unfold I64 at hr ht hi hh
    go_enter Try.func14, Try.ntmps14
    go_wp2_with (first | (go_at_call 20; (with_reducible refine ((k1 _).out).mono ?_); rintro e w' ⟨rfl, q, rfl⟩) | (go_at_call 8; (with_reducible refine ((k2 _).out).mono ?_); rintro e w' ⟨rfl, hB⟩; obtain ⟨hbc, hbf, hbm, hbn⟩ := bcell hB))
    go_ret2
    exact ⟨rfl, (by repeat (first | with_reducible exact Below.refl _ _ | with_reducible refine below_drewN ?_ _ | with_reducible refine below_alloc ?_ (Nat.le_refl _) _ | (with_reducible refine Below.setCell ?_ ?h _; (case h => first | (dsimp only; omega) | (simp; done) | (simp; omega))) | with_reducible refine below_step ?_ (Nat.le_refl _) (by assumption)))⟩
  · obtain ⟨hr1, hr2⟩ := inR_true hc
    rw [hc] at e k1
    rw [if_pos rfl] at e
    clear hc
    generalize wk r t i = p at *
    rcases hw with ⟨e2, _, hi2⟩ | e2
    · obtain ⟨p1, p2⟩ := p
      simp only at e2
      subst e2
      rw [if_pos rfl] at e
      unfold I64 at hr ht hi hh
      split at e
      · subst e
        go_enter Try.func14, Try.ntmps14
        go_wp2_with (first | (go_at_call 20; (with_reducible refine ((k1 _).out).mono ?_); rintro e w' ⟨rfl, q, rfl⟩) | (go_at_call 8; (with_reducible refine ((k2 _).out).mono ?_); rintro e w' ⟨rfl, hB⟩; obtain ⟨hbc, hbf, hbm, hbn⟩ := bcell hB))
        go_ret2
        exact ⟨rfl, (by repeat (first | with_reducible exact Below.refl _ _ | with_reducible refine below_drewN ?_ _ | with_reducible refine below_alloc ?_ (Nat.le_refl _) _ | (with_reducible refine Below.setCell ?_ ?h _; (case h => first | (dsimp only; omega) | (simp; done) | (simp; omega))) | with_reducible refine below_step ?_ (Nat.le_refl _) (by assumption)))⟩
      · subst e
        go_enter Try.func14, Try.ntmps14
        go_wp2_with (first | (go_at_call 20; (with_reducible refine ((k1 _).out).mono ?_); rintro e w' ⟨rfl, q, rfl⟩) | (go_at_call 8; (with_reducible refine ((k2 _).out).mono ?_); rintro e w' ⟨rfl, hB⟩; obtain ⟨hbc, hbf, hbm, hbn⟩ := bcell hB))
        go_ret2
        exact ⟨rfl, (by repeat (first | with_reducible exact Below.refl _ _ | with_reducible refine below_drewN ?_ _ | with_reducible refine below_alloc ?_ (Nat.le_refl _) _ | (with_reducible refine Below.setCell ?_ ?h _; (case h => first | (dsimp only; omega) | (simp; done) | (simp; omega))) | with_reducible refine below_step ?_ (Nat.le_refl _) (by assumption)))⟩
    · subst e2
      rw [if_neg (by simp)] at e
      subst e
      unfold I64 at hr ht hi hh
      go_enter Try.func14, Try.ntmps14
      go_wp2_with (first | (go_at_call 20; (with_reducible refine ((k1 _).out).mono ?_); rintro e w' ⟨rfl, q, rfl⟩) | (go_at_call 8; (with_reducible refine ((k2 _).out).mono ?_); rintro e w' ⟨rfl, hB⟩; obtain ⟨hbc, hbf, hbm, hbn⟩ := bcell hB))
      go_ret2
      exact ⟨rfl, (by repeat (first | with_reducible exact Below.refl _ _ | with_reducible refine below_drewN ?_ _ | with_reducible refine below_alloc ?_ (Nat.le_refl _) _ | (with_reducible refine Below.setCell ?_ ?h _; (case h => first | (dsimp only; omega) | (simp; done) | (simp; omega))) | with_reducible refine below_step ?_ (Nat.le_refl _) (by assumption)))⟩
theorem RefNext_calls (r t i h : Int) (w : World) (hr : I64 r) (ht : I64 t) (hi : I64 i) (hh : I64 h) :
    Calls Try.prog 15 #[.agg #[.int .i64 (r), .int .i64 (t), .int .i64 (i)], .int .i64 h] w (Fresh (.tuple #[.int .i64 (nxt r t i h).1, .int .i64 (nxt r t i h).2]) w) := by
  have k1 := fun w => Lib.hid (Many_calls h w hh)
  have k2 := fun w => Lib.hid (RefKind_calls r t i w hr ht hi)
  have e : nxt r t i h = if inR h = true then (if (wk r t i).2 = 0 then (if i > 4611686018427387904 - h then (0, 2) else (i + h, 0)) else (0, 4)) else (0, 2) := rfl
  have hw := wk_cases r t i
  generalize nxt r t i h = m at *
  cases hc : inR h
  · rw [hc] at e k1
    rw [if_neg (by simp)] at e
    subst e
    clear hc hw
    unfold I64 at hr ht hi hh
    go_enter Try.func15, Try.ntmps15
    go_wp2_with (first | (go_at_call 10; (with_reducible refine ((k1 _).out).mono ?_); rintro e w' ⟨rfl, q, rfl⟩) | (go_at_call 12; (with_reducible refine ((k2 _).out).mono ?_); rintro e w' ⟨rfl, hB⟩; obtain ⟨hbc, hbf, hbm, hbn⟩ := bcell hB))
    go_ret2
    exact ⟨rfl, (by repeat (first | with_reducible exact Below.refl _ _ | with_reducible refine below_drewN ?_ _ | with_reducible refine below_alloc ?_ (Nat.le_refl _) _ | (with_reducible refine Below.setCell ?_ ?h _; (case h => first | (dsimp only; omega) | (simp; done) | (simp; omega))) | with_reducible refine below_step ?_ (Nat.le_refl _) (by assumption)))⟩
  · obtain ⟨hr1, hr2⟩ := inR_true hc
    rw [hc] at e k1
    rw [if_pos rfl] at e
    clear hc
    generalize wk r t i = p at *
    rcases hw with ⟨e2, e3, hi2⟩ | e2
    · obtain ⟨p1, p2⟩ := p
      simp only at e2 e3
      subst e2
      have e4 : (p1 == 0) = false := by simp; omega
      rw [if_pos rfl] at e
      clear e3
      unfold I64 at hr ht hi hh
      split at e
      · subst e
        go_enter Try.func15, Try.ntmps15
        go_wp2_with (first | (go_at_call 10; (with_reducible refine ((k1 _).out).mono ?_); rintro e w' ⟨rfl, q, rfl⟩) | (go_at_call 12; (with_reducible refine ((k2 _).out).mono ?_); rintro e w' ⟨rfl, hB⟩; obtain ⟨hbc, hbf, hbm, hbn⟩ := bcell hB))
        go_ret2
        exact ⟨rfl, (by repeat (first | with_reducible exact Below.refl _ _ | with_reducible refine below_drewN ?_ _ | with_reducible refine below_alloc ?_ (Nat.le_refl _) _ | (with_reducible refine Below.setCell ?_ ?h _; (case h => first | (dsimp only; omega) | (simp; done) | (simp; omega))) | with_reducible refine below_step ?_ (Nat.le_refl _) (by assumption)))⟩
      · subst e
        go_enter Try.func15, Try.ntmps15
        go_wp2_with (first | (go_at_call 10; (with_reducible refine ((k1 _).out).mono ?_); rintro e w' ⟨rfl, q, rfl⟩) | (go_at_call 12; (with_reducible refine ((k2 _).out).mono ?_); rintro e w' ⟨rfl, hB⟩; obtain ⟨hbc, hbf, hbm, hbn⟩ := bcell hB))
        go_ret2
        exact ⟨rfl, (by repeat (first | with_reducible exact Below.refl _ _ | with_reducible refine below_drewN ?_ _ | with_reducible refine below_alloc ?_ (Nat.le_refl _) _ | (with_reducible refine Below.setCell ?_ ?h _; (case h => first | (dsimp only; omega) | (simp; done) | (simp; omega))) | with_reducible refine below_step ?_ (Nat.le_refl _) (by assumption)))⟩
    · subst e2
      rw [if_neg (by simp)] at e
      subst e
      unfold I64 at hr ht hi hh
      go_enter Try.func15, Try.ntmps15
      go_wp2_with (first | (go_at_call 10; (with_reducible refine ((k1 _).out).mono ?_); rintro e w' ⟨rfl, q, rfl⟩) | (go_at_call 12; (with_reducible refine ((k2 _).out).mono ?_); rintro e w' ⟨rfl, hB⟩; obtain ⟨hbc, hbf, hbm, hbn⟩ := bcell hB))
      go_ret2
      exact ⟨rfl, (by repeat (first | with_reducible exact Below.refl _ _ | with_reducible refine below_drewN ?_ _ | with_reducible refine below_alloc ?_ (Nat.le_refl _) _ | (with_reducible refine Below.setCell ?_ ?h _; (case h => first | (dsimp only; omega) | (simp; done) | (simp; omega))) | with_reducible refine below_step ?_ (Nat.le_refl _) (by assumption)))⟩

def plc (i h : Int) : Int × Bool := if 0 ≤ i ∧ inR h = true then (i % h, true) else (0, false)
theorem Place_calls (i h : Int) (w : World) (hi : I64 i) (hh : I64 h) :
    Calls Try.prog 16 #[.int .i64 i, .int .i64 h] w (Quiet (.tuple #[.int .i64 (plc i h).1, .bool (plc i h).2]) w) := by
  have k1 := fun w => Lib.hid (inRange_calls h w hh)
  have e : plc i h = if 0 ≤ i ∧ inR h = true then (i % h, true) else (0, false) := rfl
  generalize plc i h = m at *
  by_cases h0 : 0 ≤ i
  · cases hc : inR h
    · rw [hc] at e k1
      rw [if_neg (by simp)] at e
      subst e
      clear hc
      unfold I64 at hi hh
      go_enter Try.func16, Try.ntmps16
      go_wp2_with (go_at_call 20; (with_reducible refine ((k1 _).out).mono ?_); rintro e w' ⟨rfl, q, rfl⟩)
      go_ret2
      exact ⟨rfl, ⟨_, rfl⟩⟩
    · obtain ⟨hr1, hr2⟩ := inR_true hc
      rw [hc] at e k1
      rw [if_pos ⟨h0, rfl⟩] at e
      subst e
      clear hc
      have hz : (h == 0) = false := by simp; omega
      unfold I64 at hi hh
      go_enter Try.func16, Try.ntmps16
      go_wp2_with (go_at_call 20; (with_reducible refine ((k1 _).out).mono ?_); rintro e w' ⟨rfl, q, rfl⟩)
      go_ret2
      exact ⟨rfl, ⟨_, rfl⟩⟩
  · rw [if_neg (by omega)] at e
    subst e
    unfold I64 at hi hh
    go_enter Try.func16, Try.ntmps16
    go_wp2_with (go_at_call 20; (with_reducible refine ((k1 _).out).mono ?_); rintro e w' ⟨rfl, q, rfl⟩)
    go_ret2
    exact ⟨rfl, Drawn.refl _⟩
theorem RefPlace_calls (i h : Int) (w : World) (hi : I64 i) (hh : I64 h) :
    Calls Try.prog 17 #[.int .i64 i, .int .i64 h] w (Quiet (.tuple #[.int .i64 (plc i h).1, .bool (plc i h).2]) w) := by
  have k1 := fun w => Lib.hid (Many_calls h w hh)
  have e : plc i h = if 0 ≤ i ∧ inR h = true then (i % h, true) else (0, false) := rfl
  generalize plc i h = m at *
  by_cases h0 : 0 ≤ i
  · cases hc : inR h
    · rw [hc] at e k1
      rw [if_neg (by simp)] at e
      subst e
      clear hc
      unfold I64 at hi hh
      go_enter Try.func17, Try.ntmps17
      go_wp2_with (go_at_call 10; (with_reducible refine ((k1 _).out).mono ?_); rintro e w' ⟨rfl, q, rfl⟩)
      go_ret2
      exact ⟨rfl, ⟨_, rfl⟩⟩
    · obtain ⟨hr1, hr2⟩ := inR_true hc
      rw [hc] at e k1
      rw [if_pos ⟨h0, rfl⟩] at e
      subst e
      clear hc
      have hz : (h == 0) = false := by simp; omega
      unfold I64 at hi hh
      go_enter Try.func17, Try.ntmps17
      go_wp2_with (go_at_call 10; (with_reducible refine ((k1 _).out).mono ?_); rintro e w' ⟨rfl, q, rfl⟩)
      go_ret2
      exact ⟨rfl, ⟨_, rfl⟩⟩
  · rw [if_neg (by omega)] at e
    subst e
    unfold I64 at hi hh
    go_enter Try.func17, Try.ntmps17
    go_wp2_with (go_at_call 10; (with_reducible refine ((k1 _).out).mono ?_); rintro e w' ⟨rfl, q, rfl⟩)
    go_ret2
    exact ⟨rfl, Drawn.refl _⟩
theorem err_calls (b : Bool) (e : Int) (w : World) (he : I64 e) :
    Calls Try.prog 11 #[.bool b, .int .i64 e] w (Quiet (.int .i64 (if b then 0 else e)) w) := by
  cases b
  · go_enter Try.func11, Try.ntmps11
    go_wp2
    go_ret
    exact ⟨rfl, Drawn.refl _⟩
  · go_enter Try.func11, Try.ntmps11
    go_wp2
    go_ret
    exact ⟨rfl, Drawn.refl _⟩
set_option maxHeartbeats 800000 in
theorem works_calls (w : World) : Calls Try.prog 13 #[] w (Fresh (.bool true) w) := by
  have k1 := fun w => Lib.hid (show Calls Try.prog 9 #[.int .i64 2, .int .i64 4] w (Fresh (.tuple #[.agg #[.int .i64 (0), .int .i64 (-1), .int .i64 (-2)], .int .i64 0]) w) from First_calls 2 4 w (by unfold I64; omega) (by unfold I64; omega))
  have k2 := fun w => Lib.hid (show Calls Try.prog 14 #[.agg #[.int .i64 (0), .int .i64 (-1), .int .i64 (-2)], .int .i64 4] w (Fresh (.tuple #[.int .i64 2, .int .i64 0]) w) from Next_calls 0 (-1) (-2) 4 w (by unfold I64; omega) (by unfold I64; omega) (by unfold I64; omega) (by unfold I64; omega))
  have k3 := fun w => Lib.hid (show Calls Try.prog 8 #[.agg #[.int .i64 (0), .int .i64 (-1), .int .i64 (-2)]] w (Fresh (.tuple #[.int .i64 1, .int .i64 0]) w) from Kind_calls 0 (-1) (-2) w (by unfold I64; omega) (by unfold I64; omega) (by unfold I64; omega))
  go_enter Try.func13, Try.ntmps13
  go_wp2_with (first | (go_at_call 9; (with_reducible refine ((k1 _).out).mono ?_); rintro e w' ⟨rfl, hB⟩; obtain ⟨hbc, hbf, hbm, hbn⟩ := bcell hB) | (go_at_call 14; (with_reducible refine ((k2 _).out).mono ?_); rintro e w' ⟨rfl, hB⟩; obtain ⟨hbc, hbf, hbm, hbn⟩ := bcell hB) | (go_at_call 8; (with_reducible refine ((k3 _).out).mono ?_); rintro e w' ⟨rfl, hB⟩; obtain ⟨hbc, hbf, hbm, hbn⟩ := bcell hB))
  go_ret
  exact ⟨rfl, (by repeat (first | with_reducible exact Below.refl _ _ | with_reducible refine below_drewN ?_ _ | with_reducible refine below_alloc ?_ (Nat.le_refl _) _ | (with_reducible refine Below.setCell ?_ ?h _; (case h => first | (dsimp only; omega) | (simp; done) | (simp; omega))) | with_reducible refine below_step ?_ (Nat.le_refl _) (by assumption)))⟩

set_option maxHeartbeats 1600000 in
theorem WordNext_calls (r t i id h : Int) (w : World) (hr : I64 r) (ht : I64 t) (hi : I64 i) (hid : I64 id) (hh : I64 h) :
    Calls Try.prog 4 #[.agg #[.int .i64 (r), .int .i64 (t), .int .i64 (i)], .int .i64 id, .int .i64 h] w (Fresh (.bool true) w) := by
  have k1 := fun w => Lib.hid (Next_calls r t i h w hr ht hi hh)
  have k2 := fun w => Lib.hid (RefNext_calls r t i h w hr ht hi hh)
  have k3 := fun w => Lib.hid (Place_calls id h w hid hh)
  have k4 := fun w => Lib.hid (RefPlace_calls id h w hid hh)
  generalize nxt r t i h = p at *
  generalize plc id h = q at *
  go_enter Try.func4, Try.ntmps4
  go_wp2_with (first | (go_at_call 14; (with_reducible refine ((k1 _).out).mono ?_); rintro e w' ⟨rfl, hB⟩; obtain ⟨hbc, hbf, hbm, hbn⟩ := bcell hB) | (go_at_call 15; (with_reducible refine ((k2 _).out).mono ?_); rintro e w' ⟨rfl, hB⟩; obtain ⟨hbc, hbf, hbm, hbn⟩ := bcell hB) | (go_at_call 16; (with_reducible refine ((k3 _).out).mono ?_); rintro e w' ⟨rfl, q, rfl⟩) | (go_at_call 17; (with_reducible refine ((k4 _).out).mono ?_); rintro e w' ⟨rfl, q, rfl⟩) | (go_at_call 13; (with_reducible refine (works_calls _).mono ?_); rintro e w' ⟨rfl, hB⟩; obtain ⟨hbc, hbf, hbm, hbn⟩ := bcell hB))
  go_ret
  exact ⟨ret_bool (by simp), (by repeat (first | with_reducible exact Below.refl _ _ | with_reducible refine below_drewN ?_ _ | with_reducible refine below_alloc ?_ (Nat.le_refl _) _ | (with_reducible refine Below.setCell ?_ ?h _; (case h => first | (dsimp only; omega) | (simp; done) | (simp; omega))) | with_reducible refine below_step ?_ (Nat.le_refl _) (by assumption)))⟩

end Go.Proofs.Ytanfonobkjhhjaa.Words
