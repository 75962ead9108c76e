/- Keys read, by the document. -/
import Derived.Test.YtoeddlcidbmppaaCode3
namespace Go.Proofs.Ytoeddlcidbmppaa.Co
open Go.RowKit
open Go.Proofs.Ytoeddlcidbmppaa.Fl (rk uf uok isnan ub)
set_option linter.unusedVariables false
set_option linter.unusedSimpArgs false
theorem nats_rest (s : ByteArray) : nats (s.extract 1 s.size) = (nats s).drop 1 := by
  unfold nats
  rw [← List.map_drop]
  congr 1
  rw [ByteArray.data_extract, Array.toList_extract]
  simp only [List.extract]
  exact List.take_of_length_le (by simp)
theorem val_step (s : ByteArray) (j : Nat) (h1 : 1 ≤ j) (h : j < s.size) : val (((nats s).drop 1).take j) = 256 * val (((nats s).drop 1).take (j - 1)) + s[j].toNat := by
  obtain ⟨i, rfl⟩ : ∃ i, j = i + 1 := ⟨j - 1, by omega⟩
  have hl : i < ((nats s).drop 1).length := by rw [List.length_drop, nats_len]; omega
  rw [List.take_succ_eq_append_getElem hl, val_snoc, Nat.add_sub_cancel]
  congr 1
  rw [List.getElem_drop, ← nats_at s (i + 1) h]
  simp [Nat.add_comm]
theorem val_step_lt (s : ByteArray) (j : Nat) (h8 : j ≤ 8) : val (((nats s).drop 1).take (j - 1)) < 72057594037927936 := by
  have := val_lt (((nats s).drop 1).take (j - 1)) fun d hd => nats_lt s d (List.mem_of_mem_drop (List.mem_of_mem_take hd))
  have h1 : (((nats s).drop 1).take (j - 1)).length ≤ 7 := by rw [List.length_take]; omega
  have h2 : (256 : Nat) ^ (((nats s).drop 1).take (j - 1)).length ≤ 256 ^ 7 := Nat.pow_le_pow_right (by omega) h1
  have h3 : (256 : Nat) ^ 7 = 72057594037927936 := by decide
  omega
set_option maxHeartbeats 3200000 in
theorem RefParse_calls (s : ByteArray) (w : World) (hs : s.size ≤ maxLen) :
    Calls Try.prog 14 #[.string s] w (Fresh (res (psS s)) w) := by
  unfold maxLen at hs
  have e : psS s = _ := rfl
  conv at e => rhs; unfold psS
  generalize psS s = m at *
  unfold res
  by_cases h0 : 0 < s.size
  · rw [dif_pos h0] at e
    have hR := rest_size s
    have hv := val_lt (nats (s.extract 1 s.size)) (nats_lt _)
    rw [nats_len] at hv
    have HV := Lib.hid (val_step s)
    have HL := Lib.hid (val_step_lt s)
    have hN : (nats s).drop 1 = nats (s.extract 1 s.size) := (nats_rest s).symm
    have HX := Lib.hid (show (((nats s).drop 1).take 8 = nats (s.extract 1 s.size)) ∨ s.size ≠ 9 by
      by_cases h9 : s.size = 9
      · left
        rw [← nats_rest s, List.take_of_length_le]
        rw [nats_len, hR]; omega
      · right; exact h9)
    obtain ⟨R, hRR⟩ : ∃ R, R = s.extract 1 s.size := ⟨_, rfl⟩
    rw [← hRR] at hR hv HX e
    have eR : s.extract 1 s.size = R := hRR.symm
    clear hRR hN
    have h0' : (0 : Int) < (s.size : Int) := by omega
    have hb : ((s[0]'h0).toNat : Int) ≤ 255 := by have := (s[0]'h0).toNat_lt; omega
    generalize hB : (s[0]'h0).toNat = b at *
    by_cases c3 : b = 3
    · subst c3
      rw [if_neg (by omega), if_neg (by omega)] at e
      clear hv HX HV HL
      by_cases h16 : s.size ≤ 16
      · rw [if_pos ⟨rfl, h16⟩] at e
        subst e
        go_enter Try.func14, Try.ntmps14
        go_wp2_with fail
        refine bodyPost_ret (v := .tuple #[.agg #[.int .i64 3, .int .i64 0, .int .u64 0, .string R], .int .i64 0]) (by simp [results, Try.results14, go_sem]) rfl ⟨rfl, ?_⟩
        exact (by repeat (first | with_reducible exact Below.refl _ _ | with_reducible refine below_drewN ?_ _ | with_reducible refine below_alloc ?_ (Nat.le_refl _) _ | (with_reducible refine Below.setCell ?_ ?h _; (case h => first | (dsimp only; omega) | (simp; done) | (simp; omega))) | with_reducible refine below_step ?_ (Nat.le_refl _) (by assumption)))
      · rw [if_neg (fun h => h16 h.2)] at e
        subst e
        have g : ¬ (s.size : Int) ≤ 16 := by omega
        have g9 : ((s.size : Int) == 9) = false := by rw [beq_eq_false_iff_ne]; omega
        clear hR
        go_enter Try.func14, Try.ntmps14
        go_wp2_with fail
        refine bodyPost_ret (v := .tuple #[.agg #[.int .i64 0, .int .i64 0, .int .u64 0, .string ⟨#[]⟩], .int .i64 4]) (by simp [results, Try.results14, go_sem]) rfl ⟨rfl, ?_⟩
        exact (by repeat (first | with_reducible exact Below.refl _ _ | with_reducible refine below_drewN ?_ _ | with_reducible refine below_alloc ?_ (Nat.le_refl _) _ | (with_reducible refine Below.setCell ?_ ?h _; (case h => first | (dsimp only; omega) | (simp; done) | (simp; omega))) | with_reducible refine below_step ?_ (Nat.le_refl _) (by assumption)))
    · rw [if_neg (show ¬ (b = 3 ∧ s.size ≤ 16) from fun h => c3 h.1)] at e
      have d3 : ((b : Int) == 3) = false := by rw [beq_eq_false_iff_ne]; omega
      by_cases h9 : s.size = 9
      · by_cases h12 : b = 1 ∨ b = 2
        · have g1 : (1 : Int) ≤ b := by omega
          have g2 : (b : Int) ≤ 2 := by omega
          rw [h9] at eR hR
          have hR8 : R.size = 8 := by omega
          have hp8 : (256 : Nat) ^ 8 = 18446744073709551616 := by decide
          rw [hR8, hp8] at hv
          have HX2 := Lib.hid ((HX.out).resolve_right (fun h => h h9))
          clear hp8 HX hR hR8 h0'
          go_enter Try.func14, Try.ntmps14
          go_wp2_with fail
          go_loopg [4, 5] 8 (fun g x k wr => ∃ j : Nat, k = .int .i64 (j : Int) ∧ 1 ≤ j ∧ j + g = 9 ∧ x = .int .u64 ((val (((nats s).drop 1).take (j - 1)) : Nat) : Int) ∧ wr = w.alloc (.cells #[.int .i64 0, .int .i64 0, .int .u64 0, .string ⟨#[]⟩] 24))
          case atStart => exact ⟨1, rfl, by omega, rfl, rfl, rfl⟩
          case round =>
            obtain ⟨j, rfl, hj1, hj, rfl, rfl⟩ := hrel
            by_cases hlt : j < 9
            · have g3 : (j : Int) < 9 := by omega
              have hjs : j < s.size := by omega
              have h1 := HL.out j (by omega)
              have h2 := HV.out j hj1 hjs
              have hbj := s[j].toNat_lt
              have HV2 := Lib.hid h2
              clear h2
              generalize val (((nats s).drop 1).take (j - 1)) = X at *
              generalize hY : s[j].toNat = Y at *
              go_wp2_with fail
              go_roundg (8 - j)
              case rel => exact ⟨j + 1, by go_num, by omega, by omega, by rw [Nat.add_sub_cancel, HV2.out]; go_num, rfl⟩
              case measure => omega
            · have g3 : ¬ (j : Int) < 9 := by omega
              obtain rfl : j = 9 := by omega
              rw [show 9 - 1 = 8 from rfl, HX2.out]
              generalize val (nats R) = V at *
              rcases h12 with rfl | rfl
              · rw [if_pos ⟨rfl, h9⟩] at e
                have ew : IntKind.i64.wrap (IntKind.u64.wrap ((V : Int) - 9223372036854775808)) = (V : Int) - 9223372036854775808 := by
                  rw [IntKind.wrap_u64, IntKind.wrap_i64]; omega
                subst e
                go_wp2_with fail
                refine bodyPost_ret (v := .tuple #[.agg #[.int .i64 1, .int .i64 ((V : Int) - 9223372036854775808), .int .u64 0, .string ⟨#[]⟩], .int .i64 0]) (by simp [results, Try.results14, go_sem]) rfl ⟨rfl, ?_⟩
                exact (by repeat (first | with_reducible exact Below.refl _ _ | with_reducible refine below_drewN ?_ _ | with_reducible refine below_alloc ?_ (Nat.le_refl _) _ | (with_reducible refine Below.setCell ?_ ?h _; (case h => first | (dsimp only; omega) | (simp; done) | (simp; omega))) | with_reducible refine below_step ?_ (Nat.le_refl _) (by assumption)))
              · rw [if_neg (by omega), if_pos ⟨rfl, h9⟩] at e
                have k1 := fun w => Fl.RefUnrank_calls (V : Int) w (by omega)
                cases hu : uok (V : Int)
                · rw [hu] at k1 e
                  simp only [Bool.false_eq_true, if_false] at e
                  have K1 := fun w => Lib.hid (k1 w)
                  clear k1 hu
                  subst e
                  go_wp2_with (go_at_call 27; (with_reducible refine ((K1 _).out).mono ?_); rintro e w' ⟨rfl, q, rfl⟩)
                  refine bodyPost_ret (v := .tuple #[.agg #[.int .i64 0, .int .i64 0, .int .u64 0, .string ⟨#[]⟩], .int .i64 4]) (by simp [results, Try.results14, go_sem]) rfl ⟨rfl, ?_⟩
                  exact (by repeat (first | with_reducible exact Below.refl _ _ | with_reducible refine below_drewN ?_ _ | with_reducible refine below_alloc ?_ (Nat.le_refl _) _ | (with_reducible refine Below.setCell ?_ ?h _; (case h => first | (dsimp only; omega) | (simp; done) | (simp; omega))) | with_reducible refine below_step ?_ (Nat.le_refl _) (by assumption)))
                · rw [hu] at k1 e
                  simp only [if_true] at e
                  have hb2 := Fl.bits_run (uf (V : Int))
                  by_cases hq : (V : Int) = 18444492273895866369
                  · have hp : pfF (V : Int) = 9221120237041090561 := by unfold pfF; rw [if_pos hq]
                    rw [hp] at e
                    have K1 := fun w => Lib.hid (k1 w)
                    have e9 : ((V : Int) == 18444492273895866369) = true := by rw [beq_iff_eq]; exact hq
                    clear k1 hu hp hq
                    generalize uf (V : Int) = Q at *
                    subst e
                    go_wp2_with (go_at_call 27; (with_reducible refine ((K1 _).out).mono ?_); rintro e w' ⟨rfl, q, rfl⟩)
                    refine bodyPost_ret (v := .tuple #[.agg #[.int .i64 2, .int .i64 0, .int .u64 9221120237041090561, .string ⟨#[]⟩], .int .i64 0]) (by simp [results, Try.results14, go_sem]) rfl ⟨rfl, ?_⟩
                    exact (by repeat (first | with_reducible exact Below.refl _ _ | with_reducible refine below_drewN ?_ _ | with_reducible refine below_alloc ?_ (Nat.le_refl _) _ | (with_reducible refine Below.setCell ?_ ?h _; (case h => first | (dsimp only; omega) | (simp; done) | (simp; omega))) | with_reducible refine below_step ?_ (Nat.le_refl _) (by assumption)))
                  · have hp : pfF (V : Int) = uf (V : Int) := by unfold pfF; rw [if_neg hq]
                    rw [hp] at e
                    have K1 := fun w => Lib.hid (k1 w)
                    have e9 : ((V : Int) == 18444492273895866369) = false := by rw [beq_eq_false_iff_ne]; exact hq
                    clear k1 hu hp hq
                    generalize uf (V : Int) = Q at *
                    subst e
                    go_wp2_with (go_at_call 27; (with_reducible refine ((K1 _).out).mono ?_); rintro e w' ⟨rfl, q, rfl⟩)
                    refine bodyPost_ret (v := .tuple #[.agg #[.int .i64 2, .int .i64 0, .int .u64 (Q : Int), .string ⟨#[]⟩], .int .i64 0]) (by simp [results, Try.results14, go_sem]) rfl ⟨rfl, ?_⟩
                    exact (by repeat (first | with_reducible exact Below.refl _ _ | with_reducible refine below_drewN ?_ _ | with_reducible refine below_alloc ?_ (Nat.le_refl _) _ | (with_reducible refine Below.setCell ?_ ?h _; (case h => first | (dsimp only; omega) | (simp; done) | (simp; omega))) | with_reducible refine below_step ?_ (Nat.le_refl _) (by assumption)))
        · rw [if_neg (by omega), if_neg (by omega)] at e
          subst e
          clear hv HX HV HL hR
          rcases (show b < 1 ∨ 2 < b by omega) with hlt | hgt
          · have g1 : (b : Int) < 1 := by omega
            go_enter Try.func14, Try.ntmps14
            go_wp2_with fail
            refine bodyPost_ret (v := .tuple #[.agg #[.int .i64 0, .int .i64 0, .int .u64 0, .string ⟨#[]⟩], .int .i64 4]) (by simp [results, Try.results14, go_sem]) rfl ⟨rfl, ?_⟩
            exact (by repeat (first | with_reducible exact Below.refl _ _ | with_reducible refine below_drewN ?_ _ | with_reducible refine below_alloc ?_ (Nat.le_refl _) _ | (with_reducible refine Below.setCell ?_ ?h _; (case h => first | (dsimp only; omega) | (simp; done) | (simp; omega))) | with_reducible refine below_step ?_ (Nat.le_refl _) (by assumption)))
          · have g1 : ¬ (b : Int) < 1 := by omega
            have g2 : (2 : Int) < b := by omega
            go_enter Try.func14, Try.ntmps14
            go_wp2_with fail
            refine bodyPost_ret (v := .tuple #[.agg #[.int .i64 0, .int .i64 0, .int .u64 0, .string ⟨#[]⟩], .int .i64 4]) (by simp [results, Try.results14, go_sem]) rfl ⟨rfl, ?_⟩
            exact (by repeat (first | with_reducible exact Below.refl _ _ | with_reducible refine below_drewN ?_ _ | with_reducible refine below_alloc ?_ (Nat.le_refl _) _ | (with_reducible refine Below.setCell ?_ ?h _; (case h => first | (dsimp only; omega) | (simp; done) | (simp; omega))) | with_reducible refine below_step ?_ (Nat.le_refl _) (by assumption)))
      · rw [if_neg (fun h => h9 h.2), if_neg (fun h => h9 h.2)] at e
        subst e
        have g9 : ((s.size : Int) == 9) = false := by rw [beq_eq_false_iff_ne]; omega
        clear hv HX HV HL hR
        go_enter Try.func14, Try.ntmps14
        go_wp2_with fail
        refine bodyPost_ret (v := .tuple #[.agg #[.int .i64 0, .int .i64 0, .int .u64 0, .string ⟨#[]⟩], .int .i64 4]) (by simp [results, Try.results14, go_sem]) rfl ⟨rfl, ?_⟩
        exact (by repeat (first | with_reducible exact Below.refl _ _ | with_reducible refine below_drewN ?_ _ | with_reducible refine below_alloc ?_ (Nat.le_refl _) _ | (with_reducible refine Below.setCell ?_ ?h _; (case h => first | (dsimp only; omega) | (simp; done) | (simp; omega))) | with_reducible refine below_step ?_ (Nat.le_refl _) (by assumption)))
  · rw [dif_neg h0] at e
    subst e
    have hz : s = ⟨#[]⟩ := by
      obtain ⟨⟨l⟩⟩ := s
      cases l with
      | nil => rfl
      | cons a l => exact absurd (Nat.succ_pos _) h0
    subst hz
    go_enter Try.func14, Try.ntmps14
    go_wp2_with fail
    refine bodyPost_ret (v := .tuple #[.agg #[.int .i64 0, .int .i64 0, .int .u64 0, .string ⟨#[]⟩], .int .i64 4]) (by simp [results, Try.results14, go_sem]) rfl ⟨rfl, ?_⟩
    exact (by repeat (first | with_reducible exact Below.refl _ _ | with_reducible refine below_drewN ?_ _ | with_reducible refine below_alloc ?_ (Nat.le_refl _) _ | (with_reducible refine Below.setCell ?_ ?h _; (case h => first | (dsimp only; omega) | (simp; done) | (simp; omega))) | with_reducible refine below_step ?_ (Nat.le_refl _) (by assumption)))
end Go.Proofs.Ytoeddlcidbmppaa.Co
