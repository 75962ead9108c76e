/- The order of values; the example; the laws of layer 3. -/
import Derived.Test.YtoeddlcidbmppaaCode5
import Derived.Test.YtoeddlcidbmppaaFloatOrd
namespace Go.Proofs.Ytoeddlcidbmppaa.Co
open Go.RowKit
open Go.Proofs.Ytoeddlcidbmppaa.Fl (rk uf uok isnan ub)
set_option linter.unusedVariables false
set_option linter.unusedSimpArgs false
def rlS (k N : Int) (F : Nat) (S : ByteArray) (k' N' : Int) (F' : Nat) (S' : ByteArray) : Bool :=
  if errS k S ≠ 0 ∨ errS k' S' ≠ 0 then false
  else if k ≠ k' then decide (k < k')
  else if k = 1 then decide (N < N')
  else if k = 2 then Fl.lt F F'
  else Ord.less S.data.toList S'.data.toList
theorem err0 {k : Int} {S : ByteArray} (h : errS k S = 0) : 1 ≤ k ∧ k ≤ 3 ∧ (k = 3 → S.size ≤ 15) := by
  unfold errS at h
  split at h
  · cases h
  · split at h
    · cases h
    · refine ⟨by omega, by omega, fun h3 => ?_⟩
      rename_i h1 h2
      by_cases h4 : 15 < S.size
      · exact absurd ⟨h3, h4⟩ h2
      · omega
set_option maxHeartbeats 3200000 in
theorem RefLess_calls (k N k' N' : Int) (F F' : Nat) (S S' : ByteArray) (w : World) (hk : I64 k) (hN : I64 N) (hF : U64 F) (hS : S.size ≤ maxLen) (hk' : I64 k') (hN' : I64 N') (hF' : U64 F') (hS' : S'.size ≤ maxLen) :
    Calls Try.prog 16 #[.agg #[.int .i64 k, .int .i64 N, .int .u64 F, .string S], .agg #[.int .i64 k', .int .i64 N', .int .u64 F', .string S']] w (Fresh (.bool (rlS k N F S k' N' F' S')) w) := by
  have k1 := fun w => Err_calls k N F S w hk hS
  have k2 := fun w => Err_calls k' N' F' S' w hk' hS'
  unfold rlS
  have HR := Below.refl ((w.alloc (.cells #[.int .i64 k, .int .i64 N, .int .u64 F, .string S] 24)).alloc (.cells #[.int .i64 k', .int .i64 N', .int .u64 F', .string S'] 24)).heap.size ((w.alloc (.cells #[.int .i64 k, .int .i64 N, .int .u64 F, .string S] 24)).alloc (.cells #[.int .i64 k', .int .i64 N', .int .u64 F', .string S'] 24))
  have z1 : w.heap.size < w.heap.size + 1 + 1 := by omega
  have z2 : w.heap.size + 1 < w.heap.size + 1 + 1 := by omega
  have hX : Below w.heap.size w ((w.alloc (.cells #[.int .i64 k, .int .i64 N, .int .u64 F, .string S] 24)).alloc (.cells #[.int .i64 k', .int .i64 N', .int .u64 F', .string S'] 24)) := below_alloc (below_alloc (Below.refl _ w) (Nat.le_refl _) _) (Nat.le_refl _) _
  have HX := Lib.hid hX
  clear hX
  by_cases h1 : errS k S = 0
  · by_cases h2 : errS k' S' = 0
    · rw [if_neg (by simp [h1, h2])]
      obtain ⟨a1, a2, a3⟩ := err0 h1
      rw [h1] at k1
      rw [h2] at k2
      have K1 := fun w => Lib.hid (k1 w)
      have K2 := fun w => Lib.hid (k2 w)
      clear k1 k2 h1 h2
      by_cases hkk : k = k'
      · subst hkk
        rw [if_neg (by simp)]
        by_cases c1 : k = 1
        · subst c1
          rw [if_pos rfl]
          go_enter Try.func16, Try.ntmps16
          go_wp2_with (go_at_call 22; (first | with_reducible refine ((K1 _).out).mono ?_ | with_reducible refine ((K2 _).out).mono ?_); rintro e w' ⟨rfl, hB⟩; have HR2 := below_via HR (Nat.le_refl _) (by repeat (first | with_reducible exact Below.refl _ _ | with_reducible refine below_drewN ?_ _ | with_reducible refine below_drew ?_ | with_reducible refine below_alloc ?_ (Nat.le_refl _) _)) hB; clear HR hB; (try clear hbc hbf hbm hbn); have HR := HR2; clear HR2; obtain ⟨hbc, hbf, hbm, hbn⟩ := bcell HR)
          go_ret
          exact ⟨rfl, below_step HX.out (Nat.le_refl _) HR⟩
        · rw [if_neg c1]
          have b1 : (k == 1) = false := by simpa using c1
          by_cases c2 : k = 2
          · subst c2
            rw [if_pos rfl]
            have hf := Fl.frombits_run F
            have hf' := Fl.frombits_run F'
            have k3 := fun w => Lib.hid (Fl.RefLess_calls F F' w)
            generalize Fl.lt F F' = B at *
            go_enter Try.func16, Try.ntmps16
            go_wp2_with (go_at_call 22; (first | with_reducible refine ((K1 _).out).mono ?_ | with_reducible refine ((K2 _).out).mono ?_); rintro e w' ⟨rfl, hB⟩; have HR2 := below_via HR (Nat.le_refl _) (by repeat (first | with_reducible exact Below.refl _ _ | with_reducible refine below_drewN ?_ _ | with_reducible refine below_drew ?_ | with_reducible refine below_alloc ?_ (Nat.le_refl _) _)) hB; clear HR hB; (try clear hbc hbf hbm hbn); have HR := HR2; clear HR2; obtain ⟨hbc, hbf, hbm, hbn⟩ := bcell HR)
            go_quiet ((go_at_call 29; first | exact quiet_one (k3 _).out | exact quiet_add (k3 _).out | exact (k3 _).out))
            go_wp2_with fail
            go_ret
            exact ⟨rfl, below_drewN (below_step HX.out (Nat.le_refl _) HR) _⟩
          · have b2 : (k == 2) = false := by simpa using c2
            obtain rfl : k = 3 := by omega
            rw [if_neg c2]
            have k3 := fun w => Lib.hid (Ord.RefLess_calls S S' w hS hS')
            generalize Ord.less S.data.toList S'.data.toList = B at *
            go_enter Try.func16, Try.ntmps16
            go_wp2_with (first | (go_at_call 22; (first | with_reducible refine ((K1 _).out).mono ?_ | with_reducible refine ((K2 _).out).mono ?_); rintro e w' ⟨rfl, hB⟩; have HR2 := below_via HR (Nat.le_refl _) (by repeat (first | with_reducible exact Below.refl _ _ | with_reducible refine below_drewN ?_ _ | with_reducible refine below_drew ?_ | with_reducible refine below_alloc ?_ (Nat.le_refl _) _)) hB; clear HR hB; (try clear hbc hbf hbm hbn); have HR := HR2; clear HR2; obtain ⟨hbc, hbf, hbm, hbn⟩ := bcell HR) | (go_at_call 17; (with_reducible refine ((k3 _).out).mono ?_); rintro e w' ⟨rfl, q, rfl⟩))
            go_ret
            exact ⟨rfl, below_drewN (below_step HX.out (Nat.le_refl _) HR) _⟩
      · rw [if_pos hkk]
        have b1 : (k != k') = true := by rw [bne_iff_ne]; exact hkk
        have b2 : ¬ k = k' := hkk
        clear hkk
        unfold I64 at hk hk'
        go_enter Try.func16, Try.ntmps16
        go_wp2_with (go_at_call 22; (first | with_reducible refine ((K1 _).out).mono ?_ | with_reducible refine ((K2 _).out).mono ?_); rintro e w' ⟨rfl, hB⟩; have HR2 := below_via HR (Nat.le_refl _) (by repeat (first | with_reducible exact Below.refl _ _ | with_reducible refine below_drewN ?_ _ | with_reducible refine below_drew ?_ | with_reducible refine below_alloc ?_ (Nat.le_refl _) _)) hB; clear HR hB; (try clear hbc hbf hbm hbn); have HR := HR2; clear HR2; obtain ⟨hbc, hbf, hbm, hbn⟩ := bcell HR)
        go_ret
        exact ⟨rfl, below_step HX.out (Nat.le_refl _) HR⟩
    · rw [if_pos (.inr h2)]
      rw [h1] at k1
      have K1 := fun w => Lib.hid (k1 w)
      clear k1 h1
      have b2 : ¬ errS k' S' = 0 := h2
      generalize errS k' S' = E2 at *
      have K2 := fun w => Lib.hid (k2 w)
      clear k2 h2
      go_enter Try.func16, Try.ntmps16
      go_wp2_with (go_at_call 22; (first | with_reducible refine ((K1 _).out).mono ?_ | with_reducible refine ((K2 _).out).mono ?_); rintro e w' ⟨rfl, hB⟩; have HR2 := below_via HR (Nat.le_refl _) (by repeat (first | with_reducible exact Below.refl _ _ | with_reducible refine below_drewN ?_ _ | with_reducible refine below_drew ?_ | with_reducible refine below_alloc ?_ (Nat.le_refl _) _)) hB; clear HR hB; (try clear hbc hbf hbm hbn); have HR := HR2; clear HR2; obtain ⟨hbc, hbf, hbm, hbn⟩ := bcell HR)
      go_ret
      exact ⟨rfl, below_step HX.out (Nat.le_refl _) HR⟩
  · rw [if_pos (.inl h1)]
    have b1 : ¬ errS k S = 0 := h1
    generalize errS k S = E1 at *
    have K1 := fun w => Lib.hid (k1 w)
    clear k1 k2 h1
    go_enter Try.func16, Try.ntmps16
    go_wp2_with (go_at_call 22; (with_reducible refine ((K1 _).out).mono ?_); rintro e w' ⟨rfl, hB⟩; have HR2 := below_via HR (Nat.le_refl _) (by repeat (first | with_reducible exact Below.refl _ _ | with_reducible refine below_drewN ?_ _ | with_reducible refine below_drew ?_ | with_reducible refine below_alloc ?_ (Nat.le_refl _) _)) hB; clear HR hB; (try clear hbc hbf hbm hbn); have HR := HR2; clear HR2; obtain ⟨hbc, hbf, hbm, hbn⟩ := bcell HR)
    go_ret
    exact ⟨rfl, below_step HX.out (Nat.le_refl _) HR⟩
theorem make0 : mkS 1 0 0 ⟨#[]⟩ = (⟨#[1, 128, 0, 0, 0, 0, 0, 0, 0]⟩, 0) := by decide +kernel
theorem pars0 : psS ⟨#[3, 97, 98]⟩ = ((3, 0, 0, ⟨#[97, 98]⟩), 0) := by decide +kernel
set_option maxHeartbeats 800000 in
theorem works_calls (w : World) : Calls Try.prog 11 #[] w (Fresh (.bool true) w) := by
  have k1 := fun w => Lib.hid (show Calls Try.prog 7 #[.agg #[.int .i64 1, .int .i64 0, .int .u64 0, .string ⟨#[]⟩]] w (Fresh (.tuple #[.string ⟨#[1, 128, 0, 0, 0, 0, 0, 0, 0]⟩, .int .i64 0]) w) from by
    have := Make_calls 1 0 0 ⟨#[]⟩ w (by unfold I64; omega) (by unfold I64; omega) (by unfold U64; omega) (by unfold maxLen; decide)
    rw [make0] at this
    exact this)
  have k2 := fun w => Lib.hid (show Calls Try.prog 13 #[.string ⟨#[3, 97, 98]⟩] w (Fresh (.tuple #[.agg #[.int .i64 3, .int .i64 0, .int .u64 0, .string ⟨#[97, 98]⟩], .int .i64 0]) w) from by
    have := Parse_calls ⟨#[3, 97, 98]⟩ w (by unfold maxLen; decide)
    rw [pars0] at this
    exact this)
  go_enter Try.func11, Try.ntmps11
  go_wp2_with (first | (go_at_call 7; (with_reducible refine ((k1 _).out).mono ?_); rintro e w' ⟨rfl, hB⟩; obtain ⟨hbc, hbf, hbm, hbn⟩ := bcell hB) | (go_at_call 13; (with_reducible refine ((k2 _).out).mono ?_); rintro e w' ⟨rfl, hB⟩; obtain ⟨hbc, hbf, hbm, hbn⟩ := bcell hB))
  go_ret
  exact ⟨rfl, (by repeat (first | with_reducible exact Below.refl _ _ | with_reducible refine below_drewN ?_ _ | with_reducible refine below_alloc ?_ (Nat.le_refl _) _ | (with_reducible refine Below.setCell ?_ ?h _; (case h => first | (dsimp only; omega) | (simp; done) | (simp; omega))) | with_reducible refine below_step ?_ (Nat.le_refl _) (by assumption)))⟩
end Go.Proofs.Ytoeddlcidbmppaa.Co
