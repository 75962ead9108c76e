/- Keys made, and refused. -/
import Derived.Test.YtoeddlcidbmppaaCode
namespace Go.Proofs.Ytoeddlcidbmppaa.Co
open Go.RowKit
open Go.Proofs.Ytoeddlcidbmppaa.Fl (rk)
set_option linter.unusedVariables false
set_option linter.unusedSimpArgs false
def I64 (a : Int) : Prop := -9223372036854775808 ≤ a ∧ a ≤ 9223372036854775807
def U64 (a : Nat) : Prop := a < 18446744073709551616
/-- The key of a value, and its error. -/
def mkS (k N : Int) (F : Nat) (S : ByteArray) : ByteArray × Int :=
  if k = 1 then (⟨#[1]⟩ ++ bytes (low (N + 9223372036854775808).toNat 8), 0)
  else if k = 2 then (⟨#[2]⟩ ++ bytes (low (rk F).toNat 8), 0)
  else if k = 3 then (if 15 < S.size then (⟨#[]⟩, 6) else (⟨#[3]⟩ ++ S, 0))
  else (⟨#[]⟩, 11)
theorem key_size (k : UInt8) (n : Nat) : (⟨#[k]⟩ ++ bytes (low n 8) : ByteArray).size ≤ 9 := by
  rw [ByteArray.size_append, bytes_size, low_len]; show 1 + 8 ≤ 9; omega
set_option maxHeartbeats 1600000 in
theorem Make_calls (k N : Int) (F : Nat) (S : ByteArray) (w : World) (hk : I64 k) (hN : I64 N) (hF : U64 F) (hS : S.size ≤ maxLen) :
    Calls Try.prog 7 #[.agg #[.int .i64 k, .int .i64 N, .int .u64 F, .string S]] w (Fresh (.tuple #[.string (mkS k N F S).1, .int .i64 (mkS k N F S).2]) w) := by
  have e : mkS k N F S = _ := rfl
  unfold I64 at hk hN
  unfold U64 at hF
  unfold maxLen at hS
  conv at e => rhs; unfold mkS
  generalize mkS k N F S = m at *
  by_cases h1 : k = 1
  · subst h1
    rw [if_pos rfl] at e
    obtain ⟨M, hM⟩ := Int.eq_ofNat_of_zero_le (show 0 ≤ N + 9223372036854775808 by omega)
    rw [hM, show ((M : Int)).toNat = M by omega] at e
    have hM2 : M < 18446744073709551616 := by omega
    have k1 := fun w => Lib.hid (numberKey1_calls M w hM2)
    have e1 : IntKind.u64.wrap (IntKind.u64.wrap N + 9223372036854775808) = (M : Int) := by rw [IntKind.wrap_u64, IntKind.wrap_u64]; omega
    subst e
    generalize (⟨#[1]⟩ ++ bytes (low M 8) : ByteArray) = K at *
    clear hM
    go_enter Try.func7, Try.ntmps7
    go_wp2_with (go_at_call 20; (with_reducible refine ((k1 _).out).mono ?_); rintro e w' ⟨rfl, hB⟩; obtain ⟨hbc, hbf, hbm, hbn⟩ := bcell hB)
    go_ret2
    exact ⟨rfl, (by repeat (first | with_reducible exact Below.refl _ _ | with_reducible refine below_drewN ?_ _ | with_reducible refine below_alloc ?_ (Nat.le_refl _) _ | (with_reducible refine Below.setCell ?_ ?h _; (case h => first | (dsimp only; omega) | (simp; done) | (simp; omega))) | with_reducible refine below_step ?_ (Nat.le_refl _) (by assumption)))⟩
  · rw [if_neg h1] at e
    have b1 : (k == 1) = false := by simpa using h1
    by_cases h2 : k = 2
    · subst h2
      rw [if_pos rfl] at e
      have hb := Fl.frombits_run F
      have k2 := fun w => Lib.hid (Fl.Rank_calls F w hF)
      have hr := Fl.rk_ge F hF
      obtain ⟨M, hM⟩ := Int.eq_ofNat_of_zero_le hr.1
      rw [hM] at k2 hr
      rw [hM, show ((M : Int)).toNat = M by omega] at e
      have k1 := fun w => Lib.hid (numberKey2_calls M w (by omega))
      subst e
      generalize (⟨#[2]⟩ ++ bytes (low M 8) : ByteArray) = K at *
      clear hM
      go_enter Try.func7, Try.ntmps7
      go_wp2_with (first | (go_at_call 20; (with_reducible refine ((k1 _).out).mono ?_); rintro e w' ⟨rfl, hB⟩; obtain ⟨hbc, hbf, hbm, hbn⟩ := bcell hB) | (go_at_call 21; (with_reducible refine ((k2 _).out).mono ?_); rintro e w' ⟨rfl, q, rfl⟩))
      go_ret2
      exact ⟨rfl, (by repeat (first | with_reducible exact Below.refl _ _ | with_reducible refine below_drewN ?_ _ | with_reducible refine below_alloc ?_ (Nat.le_refl _) _ | (with_reducible refine Below.setCell ?_ ?h _; (case h => first | (dsimp only; omega) | (simp; done) | (simp; omega))) | with_reducible refine below_step ?_ (Nat.le_refl _) (by assumption)))⟩
    · rw [if_neg h2] at e
      have b2 : (k == 2) = false := by simpa using h2
      by_cases h3 : k = 3
      · subst h3
        rw [if_pos rfl] at e
        by_cases h4 : 15 < S.size
        · rw [if_pos h4] at e
          subst e
          have g : (15 : Int) < (S.size : Int) := by omega
          go_enter Try.func7, Try.ntmps7
          go_wp2
          go_ret2
          exact ⟨rfl, (by repeat (first | with_reducible exact Below.refl _ _ | with_reducible refine below_drewN ?_ _ | with_reducible refine below_alloc ?_ (Nat.le_refl _) _ | (with_reducible refine Below.setCell ?_ ?h _; (case h => first | (dsimp only; omega) | (simp; done) | (simp; omega))) | with_reducible refine below_step ?_ (Nat.le_refl _) (by assumption)))⟩
        · rw [if_neg h4] at e
          subst e
          have g : ¬ (15 : Int) < (S.size : Int) := by omega
          go_enter Try.func7, Try.ntmps7
          go_wp2
          go_ret2
          exact ⟨rfl, (by repeat (first | with_reducible exact Below.refl _ _ | with_reducible refine below_drewN ?_ _ | with_reducible refine below_alloc ?_ (Nat.le_refl _) _ | (with_reducible refine Below.setCell ?_ ?h _; (case h => first | (dsimp only; omega) | (simp; done) | (simp; omega))) | with_reducible refine below_step ?_ (Nat.le_refl _) (by assumption)))⟩
      · rw [if_neg h3] at e
        have b3 : (k == 3) = false := by simpa using h3
        subst e
        go_enter Try.func7, Try.ntmps7
        go_wp2
        go_ret2
        exact ⟨rfl, (by repeat (first | with_reducible exact Below.refl _ _ | with_reducible refine below_drewN ?_ _ | with_reducible refine below_alloc ?_ (Nat.le_refl _) _ | (with_reducible refine Below.setCell ?_ ?h _; (case h => first | (dsimp only; omega) | (simp; done) | (simp; omega))) | with_reducible refine below_step ?_ (Nat.le_refl _) (by assumption)))⟩
def errS (k : Int) (S : ByteArray) : Int := if k < 1 ∨ 3 < k then 11 else if k = 3 ∧ 15 < S.size then 6 else 0
theorem err_mk (k N : Int) (F : Nat) (S : ByteArray) : (mkS k N F S).2 = errS k S ∧ (errS k S ≠ 0 → (mkS k N F S).1 = ⟨#[]⟩) := by
  unfold mkS errS
  by_cases h1 : k = 1
  · subst h1; simp
  · by_cases h2 : k = 2
    · subst h2; simp
    · by_cases h3 : k = 3
      · subst h3
        by_cases h4 : 15 < S.size <;> simp [h4]
      · have : k < 1 ∨ 3 < k := by omega
        simp [h1, h2, h3, this]
set_option maxHeartbeats 800000 in
theorem Err_calls (k N : Int) (F : Nat) (S : ByteArray) (w : World) (hk : I64 k) (hS : S.size ≤ maxLen) :
    Calls Try.prog 22 #[.agg #[.int .i64 k, .int .i64 N, .int .u64 F, .string S]] w (Fresh (.int .i64 (errS k S)) w) := by
  unfold I64 at hk
  unfold maxLen at hS
  unfold errS
  by_cases h0 : k < 1 ∨ 3 < k
  · rw [if_pos h0]
    rcases h0 with h0 | h0
    · go_enter Try.func22, Try.ntmps22
      go_wp2
      go_ret
      exact ⟨rfl, (by repeat (first | with_reducible exact Below.refl _ _ | with_reducible refine below_drewN ?_ _ | with_reducible refine below_alloc ?_ (Nat.le_refl _) _ | (with_reducible refine Below.setCell ?_ ?h _; (case h => first | (dsimp only; omega) | (simp; done) | (simp; omega))) | with_reducible refine below_step ?_ (Nat.le_refl _) (by assumption)))⟩
    · go_enter Try.func22, Try.ntmps22
      go_wp2
      go_ret
      exact ⟨rfl, (by repeat (first | with_reducible exact Below.refl _ _ | with_reducible refine below_drewN ?_ _ | with_reducible refine below_alloc ?_ (Nat.le_refl _) _ | (with_reducible refine Below.setCell ?_ ?h _; (case h => first | (dsimp only; omega) | (simp; done) | (simp; omega))) | with_reducible refine below_step ?_ (Nat.le_refl _) (by assumption)))⟩
  · rw [if_neg h0]
    by_cases h3 : k = 3
    · subst h3
      by_cases h4 : 15 < S.size
      · rw [if_pos ⟨rfl, h4⟩]
        have g : (15 : Int) < (S.size : Int) := by omega
        go_enter Try.func22, Try.ntmps22
        go_wp2
        go_ret
        exact ⟨rfl, (by repeat (first | with_reducible exact Below.refl _ _ | with_reducible refine below_drewN ?_ _ | with_reducible refine below_alloc ?_ (Nat.le_refl _) _ | (with_reducible refine Below.setCell ?_ ?h _; (case h => first | (dsimp only; omega) | (simp; done) | (simp; omega))) | with_reducible refine below_step ?_ (Nat.le_refl _) (by assumption)))⟩
      · rw [if_neg (fun h => h4 h.2)]
        have g : ¬ (15 : Int) < (S.size : Int) := by omega
        go_enter Try.func22, Try.ntmps22
        go_wp2
        go_ret
        exact ⟨rfl, (by repeat (first | with_reducible exact Below.refl _ _ | with_reducible refine below_drewN ?_ _ | with_reducible refine below_alloc ?_ (Nat.le_refl _) _ | (with_reducible refine Below.setCell ?_ ?h _; (case h => first | (dsimp only; omega) | (simp; done) | (simp; omega))) | with_reducible refine below_step ?_ (Nat.le_refl _) (by assumption)))⟩
    · rw [if_neg (fun h => h3 h.1)]
      have b3 : (k == 3) = false := by simpa using h3
      have g1 : ¬ k < 1 := by omega
      have g2 : ¬ 3 < k := by omega
      go_enter Try.func22, Try.ntmps22
      go_wp2
      go_ret
      exact ⟨rfl, (by repeat (first | with_reducible exact Below.refl _ _ | with_reducible refine below_drewN ?_ _ | with_reducible refine below_alloc ?_ (Nat.le_refl _) _ | (with_reducible refine Below.setCell ?_ ?h _; (case h => first | (dsimp only; omega) | (simp; done) | (simp; omega))) | with_reducible refine below_step ?_ (Nat.le_refl _) (by assumption)))⟩
set_option maxHeartbeats 1600000 in
theorem RefMake_calls (k N : Int) (F : Nat) (S : ByteArray) (w : World) (hk : I64 k) (hN : I64 N) (hF : U64 F) (hS : S.size ≤ maxLen) :
    Calls Try.prog 9 #[.agg #[.int .i64 k, .int .i64 N, .int .u64 F, .string S]] w (Fresh (.tuple #[.string (mkS k N F S).1, .int .i64 (mkS k N F S).2]) w) := by
  have e : mkS k N F S = _ := rfl
  obtain ⟨x1, x2⟩ := err_mk k N F S
  have kE := fun w => Err_calls k N F S w hk hS
  unfold I64 at hk hN
  unfold U64 at hF
  unfold maxLen at hS
  conv at e => rhs; unfold mkS
  generalize mkS k N F S = m at *
  by_cases h1 : k = 1
  · subst h1
    rw [if_pos rfl] at e
    have e0 : errS 1 S = 0 := by unfold errS; simp
    rw [e0] at kE
    have KE := fun w => Lib.hid (kE w)
    clear kE x1 x2 e0
    obtain ⟨M, hM⟩ := Int.eq_ofNat_of_zero_le (show 0 ≤ N + 9223372036854775808 by omega)
    rw [hM, show ((M : Int)).toNat = M by omega] at e
    have hM2 : M < 18446744073709551616 := by omega
    have k1 := fun w => Lib.hid (eight_calls M w hM2)
    have e1 : IntKind.u64.wrap (IntKind.u64.wrap N + 9223372036854775808) = (M : Int) := by rw [IntKind.wrap_u64, IntKind.wrap_u64]; omega
    have hs : (bytes (low M 8)).size ≤ 8 := by rw [bytes_size, low_len]; omega
    subst e
    generalize bytes (low M 8) = K at *
    clear hM
    go_enter Try.func9, Try.ntmps9
    go_wp2_with (first | (go_at_call 23; (with_reducible refine ((k1 _).out).mono ?_); rintro e w' ⟨rfl, hB⟩; obtain ⟨hbc, hbf, hbm, hbn⟩ := bcell hB) | (go_at_call 22; (with_reducible refine ((KE _).out).mono ?_); rintro e w' ⟨rfl, hB⟩; obtain ⟨hbc, hbf, hbm, hbn⟩ := bcell hB))
    go_ret2
    exact ⟨rfl, (by repeat (first | with_reducible exact Below.refl _ _ | with_reducible refine below_drewN ?_ _ | with_reducible refine below_alloc ?_ (Nat.le_refl _) _ | (with_reducible refine Below.setCell ?_ ?h _; (case h => first | (dsimp only; omega) | (simp; done) | (simp; omega))) | with_reducible refine below_step ?_ (Nat.le_refl _) (by assumption)))⟩
  · rw [if_neg h1] at e
    have b1 : (k == 1) = false := by simpa using h1
    by_cases h2 : k = 2
    · subst h2
      rw [if_pos rfl] at e
      have e0 : errS 2 S = 0 := by unfold errS; simp
      rw [e0] at kE
      have KE := fun w => Lib.hid (kE w)
      clear kE x1 x2 e0
      have hb := Fl.frombits_run F
      have k2 := fun w => Lib.hid (Fl.RefRank_calls F w hF)
      have hr := Fl.rk_ge F hF
      obtain ⟨M, hM⟩ := Int.eq_ofNat_of_zero_le hr.1
      rw [hM] at k2 hr
      rw [hM, show ((M : Int)).toNat = M by omega] at e
      have k1 := fun w => Lib.hid (eight_calls M w (by omega))
      have hs : (bytes (low M 8)).size ≤ 8 := by rw [bytes_size, low_len]; omega
      subst e
      generalize bytes (low M 8) = K at *
      clear hM
      go_enter Try.func9, Try.ntmps9
      go_wp2_with (first | (go_at_call 23; (with_reducible refine ((k1 _).out).mono ?_); rintro e w' ⟨rfl, hB⟩; obtain ⟨hbc, hbf, hbm, hbn⟩ := bcell hB) | (go_at_call 24; (with_reducible refine ((k2 _).out).mono ?_); rintro e w' ⟨rfl, q, rfl⟩) | (go_at_call 22; (with_reducible refine ((KE _).out).mono ?_); rintro e w' ⟨rfl, hB⟩; obtain ⟨hbc, hbf, hbm, hbn⟩ := bcell hB))
      go_ret2
      exact ⟨rfl, (by repeat (first | with_reducible exact Below.refl _ _ | with_reducible refine below_drewN ?_ _ | with_reducible refine below_alloc ?_ (Nat.le_refl _) _ | (with_reducible refine Below.setCell ?_ ?h _; (case h => first | (dsimp only; omega) | (simp; done) | (simp; omega))) | with_reducible refine below_step ?_ (Nat.le_refl _) (by assumption)))⟩
    · rw [if_neg h2] at e
      have b2 : (k == 2) = false := by simpa using h2
      by_cases h3 : k = 3
      · subst h3
        rw [if_pos rfl] at e
        by_cases h4 : 15 < S.size
        · rw [if_pos h4] at e
          subst e
          have e0 : errS 3 S = 6 := by unfold errS; simp [h4]
          rw [e0] at kE
          have KE := fun w => Lib.hid (kE w)
          clear kE x1 x2 e0
          go_enter Try.func9, Try.ntmps9
          go_wp2_with (go_at_call 22; (with_reducible refine ((KE _).out).mono ?_); rintro e w' ⟨rfl, hB⟩; obtain ⟨hbc, hbf, hbm, hbn⟩ := bcell hB)
          go_ret2
          exact ⟨rfl, (by repeat (first | with_reducible exact Below.refl _ _ | with_reducible refine below_drewN ?_ _ | with_reducible refine below_alloc ?_ (Nat.le_refl _) _ | (with_reducible refine Below.setCell ?_ ?h _; (case h => first | (dsimp only; omega) | (simp; done) | (simp; omega))) | with_reducible refine below_step ?_ (Nat.le_refl _) (by assumption)))⟩
        · rw [if_neg h4] at e
          subst e
          have e0 : errS 3 S = 0 := by unfold errS; simp [h4]
          rw [e0] at kE
          have KE := fun w => Lib.hid (kE w)
          clear kE x1 x2 e0
          have g : S.size ≤ 15 := by omega
          go_enter Try.func9, Try.ntmps9
          go_wp2_with (go_at_call 22; (with_reducible refine ((KE _).out).mono ?_); rintro e w' ⟨rfl, hB⟩; obtain ⟨hbc, hbf, hbm, hbn⟩ := bcell hB)
          go_ret2
          exact ⟨rfl, (by repeat (first | with_reducible exact Below.refl _ _ | with_reducible refine below_drewN ?_ _ | with_reducible refine below_alloc ?_ (Nat.le_refl _) _ | (with_reducible refine Below.setCell ?_ ?h _; (case h => first | (dsimp only; omega) | (simp; done) | (simp; omega))) | with_reducible refine below_step ?_ (Nat.le_refl _) (by assumption)))⟩
      · rw [if_neg h3] at e
        subst e
        have e0 : errS k S = 11 := by unfold errS; rw [if_pos (by omega)]
        rw [e0] at kE
        have KE := fun w => Lib.hid (kE w)
        clear kE x1 x2 e0
        go_enter Try.func9, Try.ntmps9
        go_wp2_with (go_at_call 22; (with_reducible refine ((KE _).out).mono ?_); rintro e w' ⟨rfl, hB⟩; obtain ⟨hbc, hbf, hbm, hbn⟩ := bcell hB)
        go_ret2
        exact ⟨rfl, (by repeat (first | with_reducible exact Below.refl _ _ | with_reducible refine below_drewN ?_ _ | with_reducible refine below_alloc ?_ (Nat.le_refl _) _ | (with_reducible refine Below.setCell ?_ ?h _; (case h => first | (dsimp only; omega) | (simp; done) | (simp; omega))) | with_reducible refine below_step ?_ (Nat.le_refl _) (by assumption)))⟩
end Go.Proofs.Ytoeddlcidbmppaa.Co
