/- Plain and Fits, of every call. -/
import Derived.Test.YtpomikfbklmcoaaDoorPlain
namespace Go.Proofs.YtpomikfbklmcoaaDoor.Conf
open Go.RowKit
set_option linter.unusedVariables false
set_option linter.unusedSimpArgs false
def opB (k : Int) (j : Nat) : Bool := if 1 ≤ k ∧ k ≤ 13 then opUse k.toNat j else false
def plS (k : Int) (j : Nat) (a : ByteArray) : ByteArray := if opB k j then a else ⟨#[]⟩
def plH (k h : Int) : Int := if opB k 3 then h else 0
theorem plS_plS (k : Int) (j : Nat) (a : ByteArray) : plS k j (plS k j a) = plS k j a := by
  unfold plS; cases opB k j <;> rfl
theorem plH_plH (k h : Int) : plH k (plH k h) = plH k h := by
  unfold plH; cases opB k 3 <;> rfl
theorem plS_size (k : Int) (j : Nat) (a : ByteArray) (h : a.size ≤ maxLen) : (plS k j a).size ≤ maxLen := by
  unfold plS; cases opB k j
  · show 0 ≤ _; omega
  · exact h
theorem plH_in (k h : Int) (hh : I64 h) : I64 (plH k h) := by
  unfold plH; cases opB k 3
  · unfold I64; simp
  · exact hh
set_option maxHeartbeats 800000 in
theorem Plain_calls (k : Int) (a b c : ByteArray) (h : Int) (w : World) (T : Tab w) (hk : I64 k) :
    Calls Tryd.prog 13 #[.agg #[.int .i64 k, .string a, .string b, .string c, .int .i64 h]] w (Fresh (.agg #[.int .i64 k, .string (plS k 0 a), .string (plS k 1 b), .string (plS k 2 c), .int .i64 (plH k h)]) w) := by
  by_cases hin : 1 ≤ k ∧ k ≤ 13
  · obtain ⟨n, rfl⟩ := Int.eq_ofNat_of_zero_le (show 0 ≤ k by omega)
    have e : ∀ j, opB (n : Int) j = opUse n j := fun j => by unfold opB; rw [if_pos hin]; rfl
    unfold plS plH
    simp only [e]
    exact Plain_in n a b c h w T (by omega) (by omega) _ _ _ _ rfl rfl rfl rfl
  · have e : ∀ j, opB k j = false := fun j => by unfold opB; rw [if_neg hin]
    unfold plS plH
    simp only [e, Bool.false_eq_true, if_false]
    have k1 : ∀ w, Hid (Calls Tryd.prog 19 #[.int .i64 k] w (Quiet (.bool false) w)) := fun w => by
      have := isOp_calls k w hk
      rw [decide_eq_false hin] at this
      exact hide this
    clear T e hin
    go_enter Tryd.func13, Tryd.ntmps13
    go_wp2_with (go_at_call 19; (with_reducible refine ((k1 _).out).mono ?_); rintro e w' ⟨rfl, q, rfl⟩)
    refine bodyPost_ret (v := .agg #[.int .i64 k, .string ⟨#[]⟩, .string ⟨#[]⟩, .string ⟨#[]⟩, .int .i64 0]) (by simp [results, Tryd.results13, go_sem]) rfl ⟨rfl, ?_⟩
    exact (by repeat (first | with_reducible exact Below.refl _ _ | with_reducible refine below_drewN ?_ _ | with_reducible refine below_alloc ?_ (Nat.le_refl _) _ | (with_reducible refine Below.setCell ?_ ?h _; (case h => first | (dsimp only; omega) | (simp; done) | (simp; omega))) | with_reducible refine below_step ?_ (Nat.le_refl _) (by assumption)))
def ft (ck k : Int) (A B C : ByteArray) (H : Int) : Int :=
  if ¬ (1 ≤ ck ∧ ck ≤ 3) ∨ ¬ (1 ≤ k ∧ k ≤ 13) then 11
  else if k = 6 ∧ ck ≠ 2 then 2
  else if 16 < A.size ∨ 16 < B.size ∨ 16 < C.size then 6
  else if H < 0 then 10 else 0
def fits (ck k : Int) (a b c : ByteArray) (h : Int) : Int := ft ck k (plS k 0 a) (plS k 1 b) (plS k 2 c) (plH k h)
theorem fits_plain (ck k : Int) (a b c : ByteArray) (h : Int) : fits ck k (plS k 0 a) (plS k 1 b) (plS k 2 c) (plH k h) = fits ck k a b c h := by
  unfold fits; rw [plS_plS, plS_plS, plS_plS, plH_plH]
set_option maxHeartbeats 3200000 in
theorem Fits_calls (ck cs ct ch cb k : Int) (a b c : ByteArray) (h : Int) (w : World) (T : Tab w) (h1 : I64 ck) (hk : I64 k) (hh : I64 h) (ha : a.size ≤ maxLen) (hb : b.size ≤ maxLen) (hc : c.size ≤ maxLen) :
    Calls Tryd.prog 12 #[.agg #[.int .i64 ck, .int .i64 cs, .int .i64 ct, .int .i64 ch, .int .i64 cb], .agg #[.int .i64 k, .string a, .string b, .string c, .int .i64 h]] w (Fresh (.int .i64 (fits ck k a b c h)) w) := by
  have k1 := fun w => isMap_calls ck w h1
  have k2 := fun w => isOp_calls k w hk
  have k3 := Lib.hid (Plain_calls k a b c h ((w.alloc (.cells #[.int .i64 ck, .int .i64 cs, .int .i64 ct, .int .i64 ch, .int .i64 cb] 23)).alloc (.cells #[.int .i64 k, .string a, .string b, .string c, .int .i64 h] 30)) (T.below (below_alloc (below_alloc (Below.refl _ w) (Nat.le_refl _) _) (Nat.le_refl _) _)) hk)
  have hA := plS_size k 0 a ha
  have hB := plS_size k 1 b hb
  have hC := plS_size k 2 c hc
  have hH := plH_in k h hh
  unfold fits
  generalize plS k 0 a = A at *
  generalize plS k 1 b = B at *
  generalize plS k 2 c = C at *
  generalize plH k h = H at *
  unfold maxLen at hA hB hC
  unfold I64 at h1 hk hH
  have em : (decide (1 ≤ ck) && decide (ck ≤ 3)) = decide (1 ≤ ck ∧ ck ≤ 3) := by simp
  simp only [em] at k1
  have z1 : w.heap.size < w.heap.size + 1 + 1 := by omega
  have z2 : w.heap.size + 1 < w.heap.size + 1 + 1 := by omega
  clear T em ha hb hc
  by_cases hm : 1 ≤ ck ∧ ck ≤ 3
  · rw [decide_eq_true hm] at k1
    have K1 := fun w => Lib.hid (k1 w)
    by_cases ho : 1 ≤ k ∧ k ≤ 13
    · rw [decide_eq_true ho] at k2
      have K2 := fun w => Lib.hid (k2 w)
      clear k1 k2
      have hft : ft ck k A B C H = if k = 6 ∧ ck ≠ 2 then 2 else if 16 < A.size ∨ 16 < B.size ∨ 16 < C.size then 6 else if H < 0 then 10 else 0 := by
        unfold ft; rw [if_neg (by omega)]
      generalize ft ck k A B C H = F at *
      rcases (show (k = 6 ∧ ck = 2) ∨ (k = 6 ∧ ¬ ck = 2) ∨ ¬ k = 6 by omega) with ⟨rfl, rfl⟩ | ⟨rfl, hn⟩ | hn
      · rw [if_neg (by simp)] at hft
        have HFT := Lib.hid hft
        clear hft
        go_enter Tryd.func12, Tryd.ntmps12
        go_wp2_with fail
        refine k3.out.mono ?_
        rintro e w1 ⟨rfl, hbw⟩
        have HX := Lib.hid (below_step (below_alloc (below_alloc (Below.refl _ w) (Nat.le_refl _) _) (Nat.le_refl _) _) (Nat.le_refl _) hbw)
        obtain ⟨hbc, hbf, hbm, hbn⟩ := bcell hbw
        clear hbw
        go_wp2_with (first | (go_at_call 18; (with_reducible refine ((K1 _).out).mono ?_); rintro e w' ⟨rfl, q, rfl⟩) | (go_at_call 19; (with_reducible refine ((K2 _).out).mono ?_); rintro e w' ⟨rfl, q, rfl⟩))
        all_goals
          go_ret
          exact ⟨ret_int (by rw [HFT.out] <;> ((repeat' split) <;> omega)), below_drewN (below_alloc HX.out (Nat.le_refl _) _) _⟩
      · rw [if_pos ⟨rfl, hn⟩] at hft
        have hn2 : (ck != 2) = true := by rw [bne_iff_ne]; exact hn
        have HFT := Lib.hid hft
        clear hft
        go_enter Tryd.func12, Tryd.ntmps12
        go_wp2_with fail
        refine k3.out.mono ?_
        rintro e w1 ⟨rfl, hbw⟩
        have HX := Lib.hid (below_step (below_alloc (below_alloc (Below.refl _ w) (Nat.le_refl _) _) (Nat.le_refl _) _) (Nat.le_refl _) hbw)
        obtain ⟨hbc, hbf, hbm, hbn⟩ := bcell hbw
        clear hbw
        go_wp2_with (first | (go_at_call 18; (with_reducible refine ((K1 _).out).mono ?_); rintro e w' ⟨rfl, q, rfl⟩) | (go_at_call 19; (with_reducible refine ((K2 _).out).mono ?_); rintro e w' ⟨rfl, q, rfl⟩))
        all_goals
          go_ret
          exact ⟨ret_int (by rw [HFT.out] <;> ((repeat' split) <;> omega)), below_drewN (below_alloc HX.out (Nat.le_refl _) _) _⟩
      · rw [if_neg (fun x => hn x.1)] at hft
        have hn2 : (k == 6) = false := by rw [beq_eq_false_iff_ne]; exact hn
        have HFT := Lib.hid hft
        clear hft
        go_enter Tryd.func12, Tryd.ntmps12
        go_wp2_with fail
        refine k3.out.mono ?_
        rintro e w1 ⟨rfl, hbw⟩
        have HX := Lib.hid (below_step (below_alloc (below_alloc (Below.refl _ w) (Nat.le_refl _) _) (Nat.le_refl _) _) (Nat.le_refl _) hbw)
        obtain ⟨hbc, hbf, hbm, hbn⟩ := bcell hbw
        clear hbw
        go_wp2_with (first | (go_at_call 18; (with_reducible refine ((K1 _).out).mono ?_); rintro e w' ⟨rfl, q, rfl⟩) | (go_at_call 19; (with_reducible refine ((K2 _).out).mono ?_); rintro e w' ⟨rfl, q, rfl⟩))
        all_goals
          go_ret
          exact ⟨ret_int (by rw [HFT.out] <;> ((repeat' split) <;> omega)), below_drewN (below_alloc HX.out (Nat.le_refl _) _) _⟩
    · rw [decide_eq_false ho] at k2
      have K2 := fun w => Lib.hid (k2 w)
      clear k1 k2
      have hft : ft ck k A B C H = 11 := by unfold ft; rw [if_pos (by omega)]
      generalize ft ck k A B C H = F at *
      clear ho hm
      have HFT := Lib.hid hft
      clear hft
      go_enter Tryd.func12, Tryd.ntmps12
      go_wp2_with fail
      refine k3.out.mono ?_
      rintro e w1 ⟨rfl, hbw⟩
      have HX := Lib.hid (below_step (below_alloc (below_alloc (Below.refl _ w) (Nat.le_refl _) _) (Nat.le_refl _) _) (Nat.le_refl _) hbw)
      obtain ⟨hbc, hbf, hbm, hbn⟩ := bcell hbw
      clear hbw
      go_wp2_with (first | (go_at_call 18; (with_reducible refine ((K1 _).out).mono ?_); rintro e w' ⟨rfl, q, rfl⟩) | (go_at_call 19; (with_reducible refine ((K2 _).out).mono ?_); rintro e w' ⟨rfl, q, rfl⟩))
      all_goals
        go_ret
        exact ⟨ret_int (by rw [HFT.out] <;> ((repeat' split) <;> omega)), below_drewN (below_alloc HX.out (Nat.le_refl _) _) _⟩
  · rw [decide_eq_false hm] at k1
    have K1 := fun w => Lib.hid (k1 w)
    have K2 := fun w => Lib.hid (k2 w)
    clear k1 k2
    have hft : ft ck k A B C H = 11 := by unfold ft; rw [if_pos (by omega)]
    generalize ft ck k A B C H = F at *
    clear hm
    have HFT := Lib.hid hft
    clear hft
    go_enter Tryd.func12, Tryd.ntmps12
    go_wp2_with fail
    refine k3.out.mono ?_
    rintro e w1 ⟨rfl, hbw⟩
    have HX := Lib.hid (below_step (below_alloc (below_alloc (Below.refl _ w) (Nat.le_refl _) _) (Nat.le_refl _) _) (Nat.le_refl _) hbw)
    obtain ⟨hbc, hbf, hbm, hbn⟩ := bcell hbw
    clear hbw
    go_wp2_with (first | (go_at_call 18; (with_reducible refine ((K1 _).out).mono ?_); rintro e w' ⟨rfl, q, rfl⟩) | (go_at_call 19; (with_reducible refine ((K2 _).out).mono ?_); rintro e w' ⟨rfl, q, rfl⟩))
    all_goals
      go_ret
      exact ⟨ret_int (by rw [HFT.out] <;> ((repeat' split) <;> omega)), below_drewN (below_alloc HX.out (Nat.le_refl _) _) _⟩
end Go.Proofs.YtpomikfbklmcoaaDoor.Conf
