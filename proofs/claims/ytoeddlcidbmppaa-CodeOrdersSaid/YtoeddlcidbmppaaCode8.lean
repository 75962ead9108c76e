/- The laws of layer 3. -/
import Derived.Test.YtoeddlcidbmppaaCode7
namespace Go.Proofs.Ytoeddlcidbmppaa.Co
open Go.RowKit
open Go.Proofs.Ytoeddlcidbmppaa.Fl (rk uf uok isnan ub)
set_option linter.unusedVariables false
set_option linter.unusedSimpArgs false
theorem cut_le (S : ByteArray) (h : S.size ≤ maxLen) : (S.extract 0 40).size ≤ maxLen := by
  have : (S.extract 0 40).size ≤ S.size := by simp; omega
  omega
theorem cut40 (S : ByteArray) : (S.extract 0 40).size ≤ 40 := by simp; omega
set_option maxHeartbeats 1600000 in
theorem CodeMakes_calls (k N : Int) (F : Int) (S : ByteArray) (w : World) (hk : I64 k) (hN : I64 N) (hF : 0 ≤ F ∧ F ≤ 18446744073709551615) (hS : S.size ≤ maxLen) :
    Calls Try.prog 3 #[.agg #[.int .i64 k, .int .i64 N, .int .u64 F, .string S]] w (Fresh (.bool true) w) := by
  obtain ⟨G, rfl⟩ := Int.eq_ofNat_of_zero_le hF.1
  have hG : U64 G := by unfold U64; omega
  have hC := cut_le S hS
  have k1 := fun w => Lib.hid (Give_calls k N G S w hS)
  have k2 := fun w => Lib.hid (short_calls k N G S w hS)
  generalize S.extract 0 40 = C at *
  have k3 := fun w => Lib.hid (Make_calls k N G C w hk hN hG hC)
  have k4 := fun w => Lib.hid (RefMake_calls k N G C w hk hN hG hC)
  generalize mkS k N G C = m at *
  obtain ⟨m1, m2⟩ := m
  simp only at k3 k4
  have HR := Below.refl (w.alloc (.cells #[.int .i64 k, .int .i64 N, .int .u64 G, .string S] 24)).heap.size (w.alloc (.cells #[.int .i64 k, .int .i64 N, .int .u64 G, .string S] 24))
  have HX := Lib.hid (below_alloc (Below.refl _ w) (Nat.le_refl _) (.cells #[.int .i64 k, .int .i64 N, .int .u64 G, .string S] 24))
  go_enter Try.func3, Try.ntmps3
  go_wp2_with (first | (go_at_call 8; (with_reducible refine ((k1 _).out).mono ?_); rintro e w' ⟨rfl, hB⟩; have HR2 := below_via HR (Nat.le_refl _) (by repeat (first | with_reducible exact Below.refl _ _ | with_reducible refine below_drewN ?_ _ | with_reducible refine below_drew ?_ | with_reducible refine below_alloc ?_ (Nat.le_refl _) _)) hB; clear HR hB; (try clear hbc hbf hbm hbn); have HR := HR2; clear HR2; obtain ⟨hbc, hbf, hbm, hbn⟩ := bcell HR) | (go_at_call 10; (with_reducible refine ((k2 _).out).mono ?_); rintro e w' ⟨rfl, hB⟩; have HR2 := below_via HR (Nat.le_refl _) (by repeat (first | with_reducible exact Below.refl _ _ | with_reducible refine below_drewN ?_ _ | with_reducible refine below_drew ?_ | with_reducible refine below_alloc ?_ (Nat.le_refl _) _)) hB; clear HR hB; (try clear hbc hbf hbm hbn); have HR := HR2; clear HR2; obtain ⟨hbc, hbf, hbm, hbn⟩ := bcell HR) | (go_at_call 7; (with_reducible refine ((k3 _).out).mono ?_); rintro e w' ⟨rfl, hB⟩; have HR2 := below_via HR (Nat.le_refl _) (by repeat (first | with_reducible exact Below.refl _ _ | with_reducible refine below_drewN ?_ _ | with_reducible refine below_drew ?_ | with_reducible refine below_alloc ?_ (Nat.le_refl _) _)) hB; clear HR hB; (try clear hbc hbf hbm hbn); have HR := HR2; clear HR2; obtain ⟨hbc, hbf, hbm, hbn⟩ := bcell HR) | (go_at_call 9; (with_reducible refine ((k4 _).out).mono ?_); rintro e w' ⟨rfl, hB⟩; have HR2 := below_via HR (Nat.le_refl _) (by repeat (first | with_reducible exact Below.refl _ _ | with_reducible refine below_drewN ?_ _ | with_reducible refine below_drew ?_ | with_reducible refine below_alloc ?_ (Nat.le_refl _) _)) hB; clear HR hB; (try clear hbc hbf hbm hbn); have HR := HR2; clear HR2; obtain ⟨hbc, hbf, hbm, hbn⟩ := bcell HR) | (go_at_call 11; (with_reducible refine (works_calls _).mono ?_); rintro e w' ⟨rfl, hB⟩; have HR2 := below_via HR (Nat.le_refl _) (by repeat (first | with_reducible exact Below.refl _ _ | with_reducible refine below_drewN ?_ _ | with_reducible refine below_drew ?_ | with_reducible refine below_alloc ?_ (Nat.le_refl _) _)) hB; clear HR hB; (try clear hbc hbf hbm hbn); have HR := HR2; clear HR2; obtain ⟨hbc, hbf, hbm, hbn⟩ := bcell HR))
  all_goals
    go_ret
    exact ⟨by first | rfl | exact ret_bool (by simp), below_step HX.out (Nat.le_refl _) HR⟩
set_option maxHeartbeats 1600000 in
theorem CodeParses_calls (S : ByteArray) (w : World) (hS : S.size ≤ maxLen) :
    Calls Try.prog 4 #[.string S] w (Fresh (.bool true) w) := by
  have hC := cut_le S hS
  have k1 := fun w => Lib.hid (Cut40_calls S w hS)
  generalize S.extract 0 40 = C at *
  have k3 := fun w => Lib.hid (Parse_calls C w hC)
  have k4 := fun w => Lib.hid (RefParse_calls C w hC)
  unfold res at k3 k4
  generalize psS C = m at *
  obtain ⟨⟨m1, m2, m3, m4⟩, m5⟩ := m
  simp only at k3 k4
  go_enter Try.func4, Try.ntmps4
  go_wp2_with (go_at_call 12; (with_reducible refine ((k1 _).out).mono ?_); rintro e w' ⟨rfl, q, rfl⟩)
  refine (k3 _).out.mono ?_
  rintro e w1 ⟨rfl, hB1⟩
  have hX1 : Below w.heap.size w w1 := below_step (below_drewN (Below.refl _ w) _) (Nat.le_refl _) hB1
  clear hB1
  have HX1 := Lib.hid hX1
  clear hX1
  go_wp2_with fail
  refine (k4 _).out.mono ?_
  rintro e w2 ⟨rfl, hB2⟩
  have HX2 := Lib.hid (below_step (below_alloc HX1.out (Nat.le_refl _) _) (Nat.le_refl _) hB2)
  obtain ⟨hbc, hbf, hbm, hbn⟩ := bcell hB2
  clear hB2
  go_wp2_with (go_at_call 11; (with_reducible refine (works_calls _).mono ?_); rintro e w' ⟨rfl, hB⟩; obtain ⟨hbc, hbf, hbm, hbn⟩ := bcell hB)
  all_goals
    go_ret
    exact ⟨by first | rfl | exact ret_bool (by simp), below_step (below_alloc HX2.out (Nat.le_refl _) _) (Nat.le_refl _) hB⟩
end Go.Proofs.Ytoeddlcidbmppaa.Co
