/- Contracts of the spans: the program's and the document's answers. -/
import Derived.Test.YtobmenijfdbchaaLib
namespace Go.Proofs.Ytobmenijfdbchaa.Spans
open Go.RowKit
set_option linter.unusedVariables false

def I64 (a : Int) : Prop := -9223372036854775808 ≤ a ∧ a ≤ 9223372036854775807
def has (b d v : Int) : Bool := decide (b ≤ v) && decide (v < d)
def mk (a b c d : Int) : Int × Int × Bool := if max a c < min b d then (max a c, min b d, true) else (0, 0, false)
def len (b d : Int) : Int × Bool := if d ≤ b then (0, true) else if d - b ≤ 9223372036854775807 then (d - b, true) else (0, false)

theorem u64_sub (d b : Int) (hb : I64 b) (hd : I64 d) (h : b ≤ d) : IntKind.u64.wrap (IntKind.u64.wrap d - IntKind.u64.wrap b) = d - b := by
  unfold I64 at hb hd
  simp only [IntKind.wrap, IntKind.bits, IntKind.signed]
  simp
  omega
theorem u64_sub' (d b : Int) (hb : I64 b) (hd : I64 d) (h : b ≤ d) : IntKind.u64.wrap (d - IntKind.u64.wrap b) = d - b := by
  unfold I64 at hb hd
  simp only [IntKind.wrap, IntKind.bits, IntKind.signed]
  simp
  omega
theorem Has_calls (b d v : Int) (w : World) (hb : I64 b) (hd : I64 d) (hv : I64 v) :
    Calls Try.prog 9 #[.int .i64 b, .int .i64 d, .int .i64 v] w (Quiet (.bool (has b d v)) w) := by
  unfold I64 at hb hd hv
  unfold has
  by_cases h : b ≤ v
  · have e : decide (b ≤ v) = true := by simpa using h
    rw [e]; clear e
    go_enter Try.func9, Try.ntmps9
    go_wp2
    go_ret
    exact ⟨rfl, Drawn.refl _⟩
  · have e : decide (b ≤ v) = false := by simpa using h
    rw [e]; clear e
    go_enter Try.func9, Try.ntmps9
    go_wp2
    go_ret
    exact ⟨rfl, Drawn.refl _⟩

theorem RefHas_calls (b d v : Int) (w : World) (hb : I64 b) (hd : I64 d) (hv : I64 v) :
    Calls Try.prog 10 #[.int .i64 b, .int .i64 d, .int .i64 v] w (Quiet (.bool (has b d v)) w) := by
  unfold I64 at hb hd hv
  unfold has
  by_cases h : b ≤ v
  · have e : decide (b ≤ v) = true := by simpa using h
    have g : ¬ v < b := by omega
    rw [e]; clear e
    go_enter Try.func10, Try.ntmps10
    go_wp2
    go_ret
    exact ⟨rfl, Drawn.refl _⟩
  · have e : decide (b ≤ v) = false := by simpa using h
    have g : v < b := by omega
    rw [e]; clear e
    go_enter Try.func10, Try.ntmps10
    go_wp2
    go_ret
    exact ⟨rfl, Drawn.refl _⟩

theorem Meet_calls (a b c d : Int) (w : World) (ha : I64 a) (hb : I64 b) (hc : I64 c) (hd : I64 d) :
    Calls Try.prog 12 #[.int .i64 a, .int .i64 b, .int .i64 c, .int .i64 d] w (Quiet (.tuple #[.int .i64 (mk a b c d).1, .int .i64 (mk a b c d).2.1, .bool (mk a b c d).2.2]) w) := by
  unfold I64 at ha hb hc hd
  have e : mk a b c d = if max a c < min b d then (max a c, min b d, true) else (0, 0, false) := rfl
  generalize mk a b c d = m at *
  by_cases h1 : a ≤ c
  all_goals by_cases h2 : b ≤ d
  all_goals
    first | rw [show max a c = c from by omega] at e | rw [show max a c = a from by omega] at e
    first | rw [show min b d = b from by omega] at e | rw [show min b d = d from by omega] at e
    split at e
  all_goals
    subst e
    go_enter Try.func12, Try.ntmps12
    go_wp2
  all_goals
    refine bodyPost_ret (results_tmp3 rfl _ _ _) rfl ?_
    first | exact ⟨rfl, Drawn.refl _⟩ | (exfalso; omega) | (refine ⟨?_, Drawn.refl _⟩; congr 2; simp; omega)

theorem RefMeet_calls (a b c d : Int) (w : World) (ha : I64 a) (hb : I64 b) (hc : I64 c) (hd : I64 d) :
    Calls Try.prog 13 #[.int .i64 a, .int .i64 b, .int .i64 c, .int .i64 d] w (Quiet (.tuple #[.int .i64 (mk a b c d).1, .int .i64 (mk a b c d).2.1, .bool (mk a b c d).2.2]) w) := by
  unfold I64 at ha hb hc hd
  have e : mk a b c d = if max a c < min b d then (max a c, min b d, true) else (0, 0, false) := rfl
  generalize mk a b c d = m at *
  by_cases h1 : a < c
  all_goals by_cases h2 : d < b
  all_goals
    first | rw [show max a c = c from by omega] at e | rw [show max a c = a from by omega] at e
    first | rw [show min b d = b from by omega] at e | rw [show min b d = d from by omega] at e
    split at e
  all_goals
    subst e
    go_enter Try.func13, Try.ntmps13
    go_wp2
  all_goals
    refine bodyPost_ret (results_tmp3 rfl _ _ _) rfl ?_
    first | exact ⟨rfl, Drawn.refl _⟩ | (exfalso; omega) | (refine ⟨?_, Drawn.refl _⟩; congr 2; simp; omega)

theorem Len_calls (b d : Int) (w : World) (hb : I64 b) (hd : I64 d) :
    Calls Try.prog 14 #[.int .i64 b, .int .i64 d] w (Quiet (.tuple #[.int .i64 (len b d).1, .bool (len b d).2]) w) := by
  have x1 := u64_sub d b hb hd
  have x2 := u64_sub' d b hb hd
  unfold I64 at hb hd
  have e : len b d = if d ≤ b then (0, true) else if d - b ≤ 9223372036854775807 then (d - b, true) else (0, false) := rfl
  generalize len b d = m at *
  split at e
  · subst e
    go_enter Try.func14, Try.ntmps14
    go_wp2
    go_ret2
    exact ⟨rfl, Drawn.refl _⟩
  · have x1 := x1 (by omega)
    have x2 := x2 (by omega)
    split at e
    · subst e
      go_enter Try.func14, Try.ntmps14
      go_wp2
      go_ret2
      exact ⟨rfl, Drawn.refl _⟩
    · subst e
      go_enter Try.func14, Try.ntmps14
      go_wp2
      go_ret2
      exact ⟨rfl, Drawn.refl _⟩
theorem RefLen_calls (b d : Int) (w : World) (hb : I64 b) (hd : I64 d) :
    Calls Try.prog 15 #[.int .i64 b, .int .i64 d] w (Quiet (.tuple #[.int .i64 (len b d).1, .bool (len b d).2]) w) := by
  have x1 := u64_sub d b hb hd
  have x2 := u64_sub' d b hb hd
  unfold I64 at hb hd
  have e : len b d = if d ≤ b then (0, true) else if d - b ≤ 9223372036854775807 then (d - b, true) else (0, false) := rfl
  generalize len b d = m at *
  split at e
  · subst e
    go_enter Try.func15, Try.ntmps15
    go_wp2
    go_ret2
    exact ⟨rfl, Drawn.refl _⟩
  · have x1 := x1 (by omega)
    have x2 := x2 (by omega)
    split at e
    · subst e
      go_enter Try.func15, Try.ntmps15
      go_wp2
      go_ret2
      exact ⟨rfl, Drawn.refl _⟩
    · subst e
      go_enter Try.func15, Try.ntmps15
      go_wp2
      go_ret2
      exact ⟨rfl, Drawn.refl _⟩

theorem works_calls (w : World) : Calls Try.prog 11 #[] w (Quiet (.bool true) w) := by
  go_enter Try.func11, Try.ntmps11
  go_wp2_with fail
  refine (show Calls Try.prog 12 #[.int .i64 1, .int .i64 5, .int .i64 3, .int .i64 9] _ (Quiet (.tuple #[.int .i64 3, .int .i64 5, .bool true]) _) from Meet_calls 1 5 3 9 _ (by unfold I64; omega) (by unfold I64; omega) (by unfold I64; omega) (by unfold I64; omega)).mono ?_
  rintro e w' ⟨rfl, q, rfl⟩
  go_wp2_with fail
  refine (show Calls Try.prog 9 #[.int .i64 1, .int .i64 5, .int .i64 1] _ (Quiet (.bool true) _) from Has_calls 1 5 1 _ (by unfold I64; omega) (by unfold I64; omega) (by unfold I64; omega)).mono ?_
  rintro e w' ⟨rfl, q, rfl⟩
  go_wp2_with fail
  refine (show Calls Try.prog 9 #[.int .i64 1, .int .i64 5, .int .i64 5] _ (Quiet (.bool false) _) from Has_calls 1 5 5 _ (by unfold I64; omega) (by unfold I64; omega) (by unfold I64; omega)).mono ?_
  rintro e w' ⟨rfl, q, rfl⟩
  go_wp2_with fail
  go_ret
  exact ⟨rfl, ⟨_, rfl⟩⟩

set_option maxHeartbeats 800000 in
theorem SpanMeets_calls (a b c d : Int) (w : World) (ha : I64 a) (hb : I64 b) (hc : I64 c) (hd : I64 d) :
    Calls Try.prog 4 #[.int .i64 a, .int .i64 b, .int .i64 c, .int .i64 d] w (Quiet (.bool true) w) := by
  have c1 := fun w => Lib.hid (Meet_calls a b c d w ha hb hc hd)
  have c2 := fun w => Lib.hid (RefMeet_calls a b c d w ha hb hc hd)
  have c3 := fun w => Lib.hid (Len_calls a b w ha hb)
  have c4 := fun w => Lib.hid (RefLen_calls a b w ha hb)
  generalize mk a b c d = m at *
  generalize len a b = n at *
  go_enter Try.func4, Try.ntmps4
  go_wp2_with fail
  refine (c1 _).out.mono ?_
  rintro e w' ⟨rfl, q, rfl⟩
  go_wp2_with fail
  refine (c2 _).out.mono ?_
  rintro e w' ⟨rfl, q, rfl⟩
  go_wp2_with fail
  refine (c3 _).out.mono ?_
  rintro e w' ⟨rfl, q, rfl⟩
  go_wp2_with fail
  refine (c4 _).out.mono ?_
  rintro e w' ⟨rfl, q, rfl⟩
  go_wp2_with fail
  refine (works_calls _).mono ?_
  rintro e w' ⟨rfl, q, rfl⟩
  go_wp2_with fail
  go_ret
  exact ⟨ret_bool (by simp), ⟨_, rfl⟩⟩

theorem both (a b c d v : Int) : (has a b v && has c d v) = ((mk a b c d).2.2 && has (mk a b c d).1 (mk a b c d).2.1 v) ∧ ((mk a b c d).2.2 = false → (mk a b c d).1 = 0 ∧ (mk a b c d).2.1 = 0) := by
  unfold mk
  split
  · refine ⟨?_, fun h => by simp at h⟩
    unfold has
    rw [Bool.eq_iff_iff]
    simp
    omega
  · refine ⟨?_, fun _ => ⟨rfl, rfl⟩⟩
    unfold has
    rw [Bool.eq_iff_iff]
    simp
    omega
theorem mk_in (a b c d : Int) (ha : I64 a) (hb : I64 b) (hc : I64 c) (hd : I64 d) : I64 (mk a b c d).1 ∧ I64 (mk a b c d).2.1 := by
  unfold mk I64 at *
  split
  · constructor <;> (simp; omega)
  · simp

set_option maxHeartbeats 1600000 in
theorem SpanBoth_calls (a b c d v : Int) (w : World) (ha : I64 a) (hb : I64 b) (hc : I64 c) (hd : I64 d) (hv : I64 v) :
    Calls Try.prog 5 #[.int .i64 a, .int .i64 b, .int .i64 c, .int .i64 d, .int .i64 v] w (Quiet (.bool true) w) := by
  have hm := mk_in a b c d ha hb hc hd
  have c1 := fun w => Lib.hid (Meet_calls a b c d w ha hb hc hd)
  have c2 := fun w => Lib.hid (Has_calls a b v w ha hb hv)
  have c3 := fun w => Lib.hid (Has_calls c d v w hc hd hv)
  have c4 := fun w => Lib.hid (Has_calls (mk a b c d).1 (mk a b c d).2.1 v w hm.1 hm.2 hv)
  have hk := both a b c d v
  generalize mk a b c d = m at *
  obtain ⟨x, y, z⟩ := m
  simp only at c1 c4 hk
  generalize has a b v = A at *
  generalize has c d v = B at *
  generalize has x y v = C at *
  clear hm ha hb hc hd hv
  obtain ⟨hk1, hk2⟩ := hk
  cases z
  all_goals
    first | (obtain ⟨rfl, rfl⟩ := hk2 rfl; clear hk2) | clear hk2
    cases A <;> cases B <;> cases C <;> first | exact absurd hk1 (by decide) | clear hk1
  all_goals
    go_enter Try.func5, Try.ntmps5
    go_wp2_with (first
      | (go_at_call 11; refine (works_calls _).mono ?_; rintro e w' ⟨rfl, q, rfl⟩)
      | (go_at_call 12; refine (c1 _).out.mono ?_; rintro e w' ⟨rfl, q, rfl⟩)
      | (go_at_call 9; (first | with_reducible refine (c2 _).out.mono ?_ | with_reducible refine (c3 _).out.mono ?_ | with_reducible refine (c4 _).out.mono ?_); rintro e w' ⟨rfl, q, rfl⟩))
    go_ret
    exact ⟨rfl, ⟨_, rfl⟩⟩
end Go.Proofs.Ytobmenijfdbchaa.Spans
