/- The laws of layer 8. -/
import Derived.Test.YtjkpjjmahfoldaaRef
namespace Go.Proofs.Ytjkpjjmahfoldaa.Refs
open Go.RowKit
set_option linter.unusedVariables false

theorem makeRef_bounds (s i : Int) : -9223372036854775808 ≤ makeRef s i ∧ makeRef s i ≤ 9223372036854775807 := by
  unfold makeRef makeErr
  by_cases h1 : s < 1 ∨ s > 1000
  · rw [if_pos h1]; simp
  · rw [if_neg h1]
    by_cases h2 : i < 1 ∨ i > 4503599627370496
    · rw [if_pos h2]; simp
    · rw [if_neg h2]; simp; omega
theorem new_bounds (i : Int) (hi : -9223372036854775808 ≤ i ∧ i ≤ 9223372036854775807) : -9223372036854775808 ≤ new i ∧ new i ≤ 9223372036854775807 := by
  unfold new; split <;> omega

theorem works_calls (w : World) : Calls Try.prog 10 #[] w (Quiet (.bool true) w) := by
  go_enter Try.func10, Try.ntmps10
  go_wp2_with fail
  refine (show Calls Try.prog 6 #[.int .i64 3, .int .i64 2] _ (Quiet (.tuple #[.int .i64 2051, .int .i64 0]) _) from Make_calls 3 2 _ (by omega) (by omega)).mono ?_
  rintro e w' ⟨rfl, q, rfl⟩
  go_wp2_with fail
  refine (show Calls Try.prog 8 #[.int .i64 0] _ (Quiet (.int .i64 (-1)) _) from New_calls 0 _ (by omega)).mono ?_
  rintro e w' ⟨rfl, q, rfl⟩
  go_wp2_with fail
  refine (show Calls Try.prog 13 #[.int .i64 2051] _ (Quiet (.int .i64 1) _) from Kind_calls 2051 _ (by omega)).mono ?_
  rintro e w' ⟨rfl, q, rfl⟩
  go_wp2_with fail
  go_ret
  exact ⟨rfl, ⟨_, rfl⟩⟩

set_option maxHeartbeats 800000 in
theorem RefMakes_calls (s i k : Int) (w : World) (hs : -9223372036854775808 ≤ s ∧ s ≤ 9223372036854775807) (hi : -9223372036854775808 ≤ i ∧ i ≤ 9223372036854775807) (hk : -9223372036854775808 ≤ k ∧ k ≤ 9223372036854775807) :
    Calls Try.prog 3 #[.int .i64 s, .int .i64 i, .int .i64 k] w (Quiet (.bool true) w) := by
  have c1 := fun w => Lib.hid (Make_calls s i w hs hi)
  have c2 := fun w => Lib.hid (RefMake_calls s i w hs hi)
  have c3 := fun w => Lib.hid (New_calls k w hk)
  have c4 := fun w => Lib.hid (RefNew_calls k w hk)
  generalize makeRef s i = a at *
  generalize makeErr s i = b at *
  have hc := new_bounds k hk
  generalize new k = c at *
  go_enter Try.func3, Try.ntmps3
  go_wp2_with fail
  refine (c1 _).out.mono ?_
  rintro e w' ⟨rfl, q, rfl⟩
  go_wp2_with fail
  refine (c2 _).out.mono ?_
  rintro e w' ⟨rfl, q, rfl⟩
  go_wp2_with fail
  refine (c3 _).out.mono ?_
  rintro e w' ⟨rfl, q, rfl⟩
  go_wp2_with fail
  refine (c4 _).out.mono ?_
  rintro e w' ⟨rfl, q, rfl⟩
  go_wp2_with fail
  refine (works_calls _).mono ?_
  rintro e w' ⟨rfl, q, rfl⟩
  go_wp2_with fail
  go_ret
  exact ⟨rfl, ⟨_, rfl⟩⟩

set_option maxHeartbeats 800000 in
theorem RefTells_calls (r : Int) (w : World) (hr : -9223372036854775808 ≤ r ∧ r ≤ 9223372036854775807) :
    Calls Try.prog 4 #[.int .i64 r] w (Quiet (.bool true) w) := by
  have c1 := fun w => Lib.hid (Which_calls r w hr)
  have c2 := fun w => Lib.hid (RefWhich_calls r w hr)
  have c3 := fun w => Lib.hid (Kind_calls r w hr)
  have c4 := fun w => Lib.hid (RefKind_calls r w hr)
  have c5 := fun w => Lib.hid (Slot_calls r w hr)
  have c6 := fun w => Lib.hid (RefSlot_calls r w hr)
  have c7 := fun w => Lib.hid (Inc_calls r w hr)
  have c8 := fun w => Lib.hid (RefInc_calls r w hr)
  generalize which r = a at *
  generalize decide (r < 0) = b at *
  generalize kind r = c at *
  generalize slot r = d at *
  generalize inc r = f at *
  go_enter Try.func4, Try.ntmps4
  go_wp2_with fail
  refine (c1 _).out.mono ?_
  rintro e w' ⟨rfl, q, rfl⟩
  go_wp2_with fail
  refine (c2 _).out.mono ?_
  rintro e w' ⟨rfl, q, rfl⟩
  go_wp2_with fail
  refine (c3 _).out.mono ?_
  rintro e w' ⟨rfl, q, rfl⟩
  go_wp2_with fail
  refine (c4 _).out.mono ?_
  rintro e w' ⟨rfl, q, rfl⟩
  go_wp2_with fail
  refine (c5 _).out.mono ?_
  rintro e w' ⟨rfl, q, rfl⟩
  go_wp2_with fail
  refine (c6 _).out.mono ?_
  rintro e w' ⟨rfl, q, rfl⟩
  go_wp2_with fail
  refine (c7 _).out.mono ?_
  rintro e w' ⟨rfl, q, rfl⟩
  go_wp2_with fail
  refine (c8 _).out.mono ?_
  rintro e w' ⟨rfl, q, rfl⟩
  go_wp2_with fail
  refine (works_calls _).mono ?_
  rintro e w' ⟨rfl, q, rfl⟩
  go_wp2_with fail
  go_ret
  exact ⟨ret_bool (by simp), ⟨_, rfl⟩⟩

theorem old_make (s i : Int) (h : makeErr s i = 0) : slot (makeRef s i) = s ∧ inc (makeRef s i) = i ∧ kind (makeRef s i) = 1 := by
  have e : makeRef s i = 1024 * i + s := by unfold makeRef; rw [if_pos h]
  unfold makeErr at h
  by_cases h1 : s < 1 ∨ s > 1000
  · rw [if_pos h1] at h; exact absurd h (by decide)
  · rw [if_neg h1] at h
    by_cases h2 : i < 1 ∨ i > 4503599627370496
    · rw [if_pos h2] at h; exact absurd h (by decide)
    · have ho : old (1024 * i + s) = true := by unfold old; rw [decide_eq_true_eq]; omega
      rw [e]
      refine ⟨?_, ?_, ?_⟩
      · unfold slot; rw [ho, if_pos rfl]; omega
      · unfold inc; rw [ho, if_pos rfl]; omega
      · unfold kind; rw [ho, if_neg (by omega), if_neg (by omega), if_pos rfl]

theorem which_new (k : Int) : (0 ≤ k → which (new k) = k ∧ decide (new k < 0) = true ∧ kind (new k) = 2) ∧ (k < 0 → decide (new k < 0) = false) := by
  refine ⟨fun h => ?_, fun h => ?_⟩
  · have e : new k = -k - 1 := by unfold new; rw [if_neg (by omega)]
    rw [e]
    refine ⟨?_, by simp; omega, ?_⟩
    · unfold which; rw [if_pos (by omega)]; omega
    · unfold kind; rw [if_neg (by omega), if_pos (by omega)]
  · have e : new k = 0 := by unfold new; rw [if_pos h]
    rw [e]; rfl

set_option maxHeartbeats 1600000 in
theorem RefBack_calls (s i k : Int) (w : World) (hs : -9223372036854775808 ≤ s ∧ s ≤ 9223372036854775807) (hi : -9223372036854775808 ≤ i ∧ i ≤ 9223372036854775807) (hk : -9223372036854775808 ≤ k ∧ k ≤ 9223372036854775807) :
    Calls Try.prog 5 #[.int .i64 s, .int .i64 i, .int .i64 k] w (Quiet (.bool true) w) := by
  have hb := makeRef_bounds s i
  have hn := new_bounds k hk
  have c1 := fun w => Lib.hid (Make_calls s i w hs hi)
  have c2 := fun w => Lib.hid (Slot_calls (makeRef s i) w hb)
  have c3 := fun w => Lib.hid (Inc_calls (makeRef s i) w hb)
  have c4 := fun w => Lib.hid (Kind_calls (makeRef s i) w hb)
  have c5 := fun w => Lib.hid (New_calls k w hk)
  have c6 := fun w => Lib.hid (Which_calls (new k) w hn)
  have c7 := fun w => Lib.hid (Kind_calls (new k) w hn)
  have hm := old_make s i
  have hw := which_new k
  have Hm := Lib.hid hm
  have Hw := Lib.hid hw
  clear hm hw
  generalize makeRef s i = a at *
  generalize makeErr s i = b at *
  generalize slot a = x at *
  generalize inc a = y at *
  generalize kind a = z at *
  generalize old a = o at *
  generalize which (new k) = g at *
  generalize decide (new k < 0) = t at *
  generalize kind (new k) = u at *
  generalize new k = n at *
  by_cases hb0 : b = 0
  · obtain ⟨_, _, _, _, _, _, rfl, rfl, rfl⟩ := Hm.out hb0
    subst hb0
    by_cases h : 0 ≤ k
    · obtain ⟨rfl, rfl, rfl⟩ := Hw.out.1 h
      go_enter Try.func5, Try.ntmps5
      go_wp2_with fail
      refine (works_calls _).mono ?_
      rintro e w' ⟨rfl, q, rfl⟩
      go_wp2_with fail
      refine (c1 _).out.mono ?_
      rintro e w' ⟨rfl, q, rfl⟩
      go_wp2_with fail
      refine (c2 _).out.mono ?_
      rintro e w' ⟨rfl, q, rfl⟩
      go_wp2_with fail
      refine (c3 _).out.mono ?_
      rintro e w' ⟨rfl, q, rfl⟩
      go_wp2_with fail
      refine (c4 _).out.mono ?_
      rintro e w' ⟨rfl, q, rfl⟩
      go_wp2_with fail
      refine (c5 _).out.mono ?_
      rintro e w' ⟨rfl, q, rfl⟩
      go_wp2_with fail
      refine (c6 _).out.mono ?_
      rintro e w' ⟨rfl, q, rfl⟩
      go_wp2_with fail
      refine (c5 _).out.mono ?_
      rintro e w' ⟨rfl, q, rfl⟩
      go_wp2_with fail
      refine (c7 _).out.mono ?_
      rintro e w' ⟨rfl, q, rfl⟩
      go_wp2_with fail
      go_ret
      exact ⟨rfl, ⟨_, rfl⟩⟩
    · obtain rfl := Hw.out.2 (by omega)
      go_enter Try.func5, Try.ntmps5
      go_wp2_with fail
      refine (works_calls _).mono ?_
      rintro e w' ⟨rfl, q, rfl⟩
      go_wp2_with fail
      refine (c1 _).out.mono ?_
      rintro e w' ⟨rfl, q, rfl⟩
      go_wp2_with fail
      refine (c2 _).out.mono ?_
      rintro e w' ⟨rfl, q, rfl⟩
      go_wp2_with fail
      refine (c3 _).out.mono ?_
      rintro e w' ⟨rfl, q, rfl⟩
      go_wp2_with fail
      refine (c4 _).out.mono ?_
      rintro e w' ⟨rfl, q, rfl⟩
      go_wp2_with fail
      refine (c5 _).out.mono ?_
      rintro e w' ⟨rfl, q, rfl⟩
      go_wp2_with fail
      refine (c6 _).out.mono ?_
      rintro e w' ⟨rfl, q, rfl⟩
      go_wp2_with fail
      go_ret
      exact ⟨ret_bool (by simp; omega), ⟨_, rfl⟩⟩
  · have hb1 : (b == 0) = false := by simpa using hb0
    by_cases h : 0 ≤ k
    · obtain ⟨rfl, rfl, rfl⟩ := Hw.out.1 h
      go_enter Try.func5, Try.ntmps5
      go_wp2_with fail
      refine (works_calls _).mono ?_
      rintro e w' ⟨rfl, q, rfl⟩
      go_wp2_with fail
      refine (c1 _).out.mono ?_
      rintro e w' ⟨rfl, q, rfl⟩
      go_wp2_with fail
      refine (c5 _).out.mono ?_
      rintro e w' ⟨rfl, q, rfl⟩
      go_wp2_with fail
      refine (c6 _).out.mono ?_
      rintro e w' ⟨rfl, q, rfl⟩
      go_wp2_with fail
      refine (c5 _).out.mono ?_
      rintro e w' ⟨rfl, q, rfl⟩
      go_wp2_with fail
      refine (c7 _).out.mono ?_
      rintro e w' ⟨rfl, q, rfl⟩
      go_wp2_with fail
      go_ret
      exact ⟨rfl, ⟨_, rfl⟩⟩
    · obtain rfl := Hw.out.2 (by omega)
      go_enter Try.func5, Try.ntmps5
      go_wp2_with fail
      refine (works_calls _).mono ?_
      rintro e w' ⟨rfl, q, rfl⟩
      go_wp2_with fail
      refine (c1 _).out.mono ?_
      rintro e w' ⟨rfl, q, rfl⟩
      go_wp2_with fail
      refine (c5 _).out.mono ?_
      rintro e w' ⟨rfl, q, rfl⟩
      go_wp2_with fail
      refine (c6 _).out.mono ?_
      rintro e w' ⟨rfl, q, rfl⟩
      go_wp2_with fail
      go_ret
      exact ⟨ret_bool (by simp; omega), ⟨_, rfl⟩⟩
end Go.Proofs.Ytjkpjjmahfoldaa.Refs
