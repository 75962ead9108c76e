/- Keys undone. -/
import Derived.Test.YtoeddlcidbmppaaCode7
namespace Go.Proofs.Ytoeddlcidbmppaa.Co
open Go.RowKit
open Go.Proofs.Ytoeddlcidbmppaa.Fl (rk uf uok isnan ub)
set_option linter.unusedVariables false
set_option linter.unusedSimpArgs false
theorem cut_le' (S : ByteArray) (h : S.size ≤ maxLen) : (S.extract 0 40).size ≤ maxLen := by
  have : (S.extract 0 40).size ≤ S.size := by simp; omega
  omega
theorem ps_nil : psS ⟨#[]⟩ = ((0, 0, 0, ⟨#[]⟩), 4) := by decide +kernel
theorem mk_sz' (k N : Int) (F : Nat) (S : ByteArray) (hS : S.size ≤ 40) : (mkS k N F S).1.size ≤ 100 := by
  unfold mkS
  split
  · have h : (⟨#[1]⟩ ++ bytes (low (N + 9223372036854775808).toNat 8) : ByteArray).size ≤ 9 := key_size 1 _
    show (⟨#[1]⟩ ++ bytes (low (N + 9223372036854775808).toNat 8) : ByteArray).size ≤ 100
    omega
  split
  · have h : (⟨#[2]⟩ ++ bytes (low (rk F).toNat 8) : ByteArray).size ≤ 9 := key_size 2 _
    show (⟨#[2]⟩ ++ bytes (low (rk F).toNat 8) : ByteArray).size ≤ 100
    omega
  split
  · split
    · show 0 ≤ 100; omega
    · show (⟨#[3]⟩ ++ S : ByteArray).size ≤ 100
      rw [key_sz]; omega
  · show 0 ≤ 100; omega
set_option maxHeartbeats 3200000 in
theorem CodeBack_calls (k N : Int) (F : Int) (S : ByteArray) (w : World) (hk : I64 k) (hN : I64 N) (hF : 0 ≤ F ∧ F ≤ 18446744073709551615) (hS : S.size ≤ maxLen) :
    Calls Try.prog 6 #[.agg #[.int .i64 k, .int .i64 N, .int .u64 F, .string S]] w (Fresh (.bool true) w) := by
  obtain ⟨G, rfl⟩ := Int.eq_ofNat_of_zero_le hF.1
  have hG : U64 G := by unfold U64; omega
  have hC := cut_le' S hS
  have h40 : (S.extract 0 40).size ≤ 40 := by simp; omega
  have hcs : S.size ≤ 15 → S.extract 0 40 = S := fun h => (Ord.extract_ge S 40 (by omega)).symm
  have hcz : (S.extract 0 40).size ≤ 15 → S.size ≤ 15 := by simp; omega
  have k1 := fun w => Lib.hid (Give_calls k N G S w hS)
  have HCS := Lib.hid hcs
  have HCZ := Lib.hid hcz
  clear hcs hcz
  generalize S.extract 0 40 = C at *
  have k3 := fun w => Lib.hid (Make_calls k N G C w hk hN hG hC)
  have sz := mk_sz' k N G C h40
  have k4 := fun w => Parse_calls (mkS k N G C).1 w (by unfold maxLen; omega)
  have hps := ps_mk k N G C hN hG
  have her := err_mk k N G C
  obtain ⟨u1, u2, u3⟩ := rk_pf G hG
  have HR := Below.refl (w.alloc (.cells #[.int .i64 k, .int .i64 N, .int .u64 G, .string S] 24)).heap.size (w.alloc (.cells #[.int .i64 k, .int .i64 N, .int .u64 G, .string S] 24))
  have HX := Lib.hid (below_alloc (Below.refl _ w) (Nat.le_refl _) (.cells #[.int .i64 k, .int .i64 N, .int .u64 G, .string S] 24))
  have z1 : w.heap.size < w.heap.size + 1 := by omega
  unfold res at k4
  by_cases h0 : errS k C = 0
  · have e0 : (mkS k N G C).2 = 0 := by rw [her.1, h0]
    rw [hps e0] at k4
    rw [e0] at k3
    obtain ⟨a1, a2, a3⟩ := err0 h0
    generalize (mkS k N G C).1 = m1 at *
    clear her hps e0 h0 sz
    obtain rfl | rfl | rfl : k = 1 ∨ k = 2 ∨ k = 3 := by omega
    · rw [if_pos rfl] at k4
      have K4 := fun w => Lib.hid (k4 w)
      clear k4 a1 a2 a3
      go_enter Try.func6, Try.ntmps6
      go_wp2_with (first | (go_at_call 11; (with_reducible refine (works_calls _).mono ?_); rintro e w' ⟨rfl, hB⟩; have HR2 := below_via HR (Nat.le_refl _) (by repeat (first | with_reducible exact Below.refl _ _ | with_reducible refine below_drewN ?_ _ | with_reducible refine below_alloc ?_ (Nat.le_refl _) _)) hB; clear HR hB; (try clear hbc hbf hbm hbn); have HR := HR2; clear HR2; obtain ⟨hbc, hbf, hbm, hbn⟩ := bcell HR) | (go_at_call 8; (with_reducible refine ((k1 _).out).mono ?_); rintro e w' ⟨rfl, hB⟩; have HR2 := below_via HR (Nat.le_refl _) (by repeat (first | with_reducible exact Below.refl _ _ | with_reducible refine below_drewN ?_ _ | with_reducible refine below_alloc ?_ (Nat.le_refl _) _)) hB; clear HR hB; (try clear hbc hbf hbm hbn); have HR := HR2; clear HR2; obtain ⟨hbc, hbf, hbm, hbn⟩ := bcell HR) | (go_at_call 7; (with_reducible refine ((k3 _).out).mono ?_); rintro e w' ⟨rfl, hB⟩; have HR2 := below_via HR (Nat.le_refl _) (by repeat (first | with_reducible exact Below.refl _ _ | with_reducible refine below_drewN ?_ _ | with_reducible refine below_alloc ?_ (Nat.le_refl _) _)) hB; clear HR hB; (try clear hbc hbf hbm hbn); have HR := HR2; clear HR2; obtain ⟨hbc, hbf, hbm, hbn⟩ := bcell HR) | (go_at_call 13; (with_reducible refine ((K4 _).out).mono ?_); rintro e w' ⟨rfl, hB⟩; have HR2 := below_via HR (Nat.le_refl _) (by repeat (first | with_reducible exact Below.refl _ _ | with_reducible refine below_drewN ?_ _ | with_reducible refine below_alloc ?_ (Nat.le_refl _) _)) hB; clear HR hB; (try clear hbc hbf hbm hbn); have HR := HR2; clear HR2; obtain ⟨hbc, hbf, hbm, hbn⟩ := bcell HR))
      go_ret
      exact ⟨rfl, below_alloc (below_step HX.out (Nat.le_refl _) HR) (Nat.le_refl _) _⟩
    · rw [if_neg (by omega), if_pos rfl] at k4
      have K4 := fun w => Lib.hid (k4 w)
      have kS := fun w => Fl.RefSame_calls (pfF (rk G)) G w
      rw [Fl.same_rk _ _ u3 hG, u2, beq_self_eq_true] at kS
      have KS := fun w => Lib.hid (kS w)
      have f1 := Fl.frombits_run (pfF (rk G))
      have f2 := Fl.frombits_run G
      clear k4 a1 a2 a3 kS u1 u2 u3
      generalize pfF (rk G) = Q at *
      go_enter Try.func6, Try.ntmps6
      go_wp2_with (first | (go_at_call 11; (with_reducible refine (works_calls _).mono ?_); rintro e w' ⟨rfl, hB⟩; have HR2 := below_via HR (Nat.le_refl _) (by repeat (first | with_reducible exact Below.refl _ _ | with_reducible refine below_drewN ?_ _ | with_reducible refine below_alloc ?_ (Nat.le_refl _) _)) hB; clear HR hB; (try clear hbc hbf hbm hbn); have HR := HR2; clear HR2; obtain ⟨hbc, hbf, hbm, hbn⟩ := bcell HR) | (go_at_call 8; (with_reducible refine ((k1 _).out).mono ?_); rintro e w' ⟨rfl, hB⟩; have HR2 := below_via HR (Nat.le_refl _) (by repeat (first | with_reducible exact Below.refl _ _ | with_reducible refine below_drewN ?_ _ | with_reducible refine below_alloc ?_ (Nat.le_refl _) _)) hB; clear HR hB; (try clear hbc hbf hbm hbn); have HR := HR2; clear HR2; obtain ⟨hbc, hbf, hbm, hbn⟩ := bcell HR) | (go_at_call 7; (with_reducible refine ((k3 _).out).mono ?_); rintro e w' ⟨rfl, hB⟩; have HR2 := below_via HR (Nat.le_refl _) (by repeat (first | with_reducible exact Below.refl _ _ | with_reducible refine below_drewN ?_ _ | with_reducible refine below_alloc ?_ (Nat.le_refl _) _)) hB; clear HR hB; (try clear hbc hbf hbm hbn); have HR := HR2; clear HR2; obtain ⟨hbc, hbf, hbm, hbn⟩ := bcell HR) | (go_at_call 13; (with_reducible refine ((K4 _).out).mono ?_); rintro e w' ⟨rfl, hB⟩; have HR2 := below_via HR (Nat.le_refl _) (by repeat (first | with_reducible exact Below.refl _ _ | with_reducible refine below_drewN ?_ _ | with_reducible refine below_alloc ?_ (Nat.le_refl _) _)) hB; clear HR hB; (try clear hbc hbf hbm hbn); have HR := HR2; clear HR2; obtain ⟨hbc, hbf, hbm, hbn⟩ := bcell HR))
      go_quiet ((go_at_call 18; first | exact quiet_one (KS _).out | exact quiet_add (KS _).out | exact (KS _).out))
      go_wp2_with fail
      go_ret
      exact ⟨rfl, below_drewN (below_alloc (below_step HX.out (Nat.le_refl _) HR) (Nat.le_refl _) _) _⟩
    · rw [if_neg (by omega), if_neg (by omega)] at k4
      have K4 := fun w => Lib.hid (k4 w)
      have hCS : C = S := HCS.out (HCZ.out (a3 rfl))
      subst hCS
      clear k4 a1 a2 a3 HCS HCZ
      go_enter Try.func6, Try.ntmps6
      go_wp2_with (first | (go_at_call 11; (with_reducible refine (works_calls _).mono ?_); rintro e w' ⟨rfl, hB⟩; have HR2 := below_via HR (Nat.le_refl _) (by repeat (first | with_reducible exact Below.refl _ _ | with_reducible refine below_drewN ?_ _ | with_reducible refine below_alloc ?_ (Nat.le_refl _) _)) hB; clear HR hB; (try clear hbc hbf hbm hbn); have HR := HR2; clear HR2; obtain ⟨hbc, hbf, hbm, hbn⟩ := bcell HR) | (go_at_call 8; (with_reducible refine ((k1 _).out).mono ?_); rintro e w' ⟨rfl, hB⟩; have HR2 := below_via HR (Nat.le_refl _) (by repeat (first | with_reducible exact Below.refl _ _ | with_reducible refine below_drewN ?_ _ | with_reducible refine below_alloc ?_ (Nat.le_refl _) _)) hB; clear HR hB; (try clear hbc hbf hbm hbn); have HR := HR2; clear HR2; obtain ⟨hbc, hbf, hbm, hbn⟩ := bcell HR) | (go_at_call 7; (with_reducible refine ((k3 _).out).mono ?_); rintro e w' ⟨rfl, hB⟩; have HR2 := below_via HR (Nat.le_refl _) (by repeat (first | with_reducible exact Below.refl _ _ | with_reducible refine below_drewN ?_ _ | with_reducible refine below_alloc ?_ (Nat.le_refl _) _)) hB; clear HR hB; (try clear hbc hbf hbm hbn); have HR := HR2; clear HR2; obtain ⟨hbc, hbf, hbm, hbn⟩ := bcell HR) | (go_at_call 13; (with_reducible refine ((K4 _).out).mono ?_); rintro e w' ⟨rfl, hB⟩; have HR2 := below_via HR (Nat.le_refl _) (by repeat (first | with_reducible exact Below.refl _ _ | with_reducible refine below_drewN ?_ _ | with_reducible refine below_alloc ?_ (Nat.le_refl _) _)) hB; clear HR hB; (try clear hbc hbf hbm hbn); have HR := HR2; clear HR2; obtain ⟨hbc, hbf, hbm, hbn⟩ := bcell HR))
      go_ret
      exact ⟨rfl, below_alloc (below_step HX.out (Nat.le_refl _) HR) (Nat.le_refl _) _⟩
  · have e1 : (mkS k N G C).1 = ⟨#[]⟩ := her.2 h0
    rw [e1, ps_nil] at k4
    rw [e1, her.1] at k3
    have b1 : ¬ errS k C = 0 := h0
    generalize errS k C = E at *
    have K4 := fun w => Lib.hid (k4 w)
    clear k4 her hps e1 h0 sz
    go_enter Try.func6, Try.ntmps6
    go_wp2_with (first | (go_at_call 11; (with_reducible refine (works_calls _).mono ?_); rintro e w' ⟨rfl, hB⟩; have HR2 := below_via HR (Nat.le_refl _) (by repeat (first | with_reducible exact Below.refl _ _ | with_reducible refine below_drewN ?_ _ | with_reducible refine below_alloc ?_ (Nat.le_refl _) _)) hB; clear HR hB; (try clear hbc hbf hbm hbn); have HR := HR2; clear HR2; obtain ⟨hbc, hbf, hbm, hbn⟩ := bcell HR) | (go_at_call 8; (with_reducible refine ((k1 _).out).mono ?_); rintro e w' ⟨rfl, hB⟩; have HR2 := below_via HR (Nat.le_refl _) (by repeat (first | with_reducible exact Below.refl _ _ | with_reducible refine below_drewN ?_ _ | with_reducible refine below_alloc ?_ (Nat.le_refl _) _)) hB; clear HR hB; (try clear hbc hbf hbm hbn); have HR := HR2; clear HR2; obtain ⟨hbc, hbf, hbm, hbn⟩ := bcell HR) | (go_at_call 7; (with_reducible refine ((k3 _).out).mono ?_); rintro e w' ⟨rfl, hB⟩; have HR2 := below_via HR (Nat.le_refl _) (by repeat (first | with_reducible exact Below.refl _ _ | with_reducible refine below_drewN ?_ _ | with_reducible refine below_alloc ?_ (Nat.le_refl _) _)) hB; clear HR hB; (try clear hbc hbf hbm hbn); have HR := HR2; clear HR2; obtain ⟨hbc, hbf, hbm, hbn⟩ := bcell HR) | (go_at_call 13; (with_reducible refine ((K4 _).out).mono ?_); rintro e w' ⟨rfl, hB⟩; have HR2 := below_via HR (Nat.le_refl _) (by repeat (first | with_reducible exact Below.refl _ _ | with_reducible refine below_drewN ?_ _ | with_reducible refine below_alloc ?_ (Nat.le_refl _) _)) hB; clear HR hB; (try clear hbc hbf hbm hbn); have HR := HR2; clear HR2; obtain ⟨hbc, hbf, hbm, hbn⟩ := bcell HR))
    go_ret
    exact ⟨rfl, below_alloc (below_step HX.out (Nat.le_refl _) HR) (Nat.le_refl _) _⟩
end Go.Proofs.Ytoeddlcidbmppaa.Co
