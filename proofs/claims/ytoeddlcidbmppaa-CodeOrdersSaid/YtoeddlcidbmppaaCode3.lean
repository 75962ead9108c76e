/- Keys read. -/
import Derived.Test.YtoeddlcidbmppaaCode2
namespace Go.Proofs.Ytoeddlcidbmppaa.Co
open Go.RowKit
open Go.Proofs.Ytoeddlcidbmppaa.Fl (rk uf uok isnan ub)
set_option linter.unusedVariables false
set_option linter.unusedSimpArgs false
def nats (s : ByteArray) : List Nat := s.data.toList.map UInt8.toNat
theorem nats_len (s : ByteArray) : (nats s).length = s.size := by simp [nats]
theorem nats_lt (s : ByteArray) : ∀ d ∈ nats s, d < 256 := fun d hd => by
  obtain ⟨b, _, rfl⟩ := List.mem_map.1 hd
  exact b.toNat_lt
theorem nats_at (s : ByteArray) (j : Nat) (h : j < s.size) : (nats s)[j]'(by rw [nats_len]; exact h) = s[j].toNat := by
  simp [nats]; rfl
theorem val_take (s : ByteArray) (j : Nat) (h : j < s.size) : val ((nats s).take (j + 1)) = 256 * val ((nats s).take j) + s[j].toNat := by
  rw [List.take_succ_eq_append_getElem (by rw [nats_len]; exact h), val_snoc, nats_at s j h]
theorem val_take_lt (s : ByteArray) (j : Nat) (h : j ≤ s.size) (h8 : j ≤ 7) : val ((nats s).take j) < 72057594037927936 := by
  have := val_lt ((nats s).take j) fun d hd => nats_lt s d (List.mem_of_mem_take hd)
  rw [List.length_take, nats_len, Nat.min_eq_left h] at this
  have h2 : (256 : Nat) ^ j ≤ 256 ^ 7 := Nat.pow_le_pow_right (by omega) h8
  have h3 : (256 : Nat) ^ 7 = 72057594037927936 := by decide
  omega
theorem or_byte (x b : Nat) (hx : x < 72057594037927936) (hb : b < 256) : bits .or .u64 ((x : Int) * 256) (b : Int) = ((256 * x + b : Nat) : Int) := by
  have e : ((x : Int) * 256) = ((256 * x : Nat) : Int) := by omega
  rw [e, u64_or_nat _ _ (by omega) (by omega)]
  have : 256 * x ||| b = 256 * x + b := by
    have := Nat.two_pow_add_eq_or_of_lt (i := 8) (b := b) hb x
    simpa using this.symm
  rw [this]
set_option maxHeartbeats 800000 in
theorem number_calls (s : ByteArray) (w : World) (hs : s.size = 8) :
    Calls Try.prog 25 #[.string s] w (Quiet (.int .u64 (val (nats s) : Nat)) w) := by
  have HV := Lib.hid (val_take s)
  have HO := Lib.hid or_byte
  have HL := Lib.hid (val_take_lt s)
  have HN := Lib.hid (show (nats s).take 8 = nats s from List.take_of_length_le (by rw [nats_len, hs]; omega))
  go_enter Try.func25, Try.ntmps25
  go_wp2_with fail
  go_loopg [3, 7] 8 (fun g x k wr => ∃ j : Nat, k = .int .i64 (j : Int) ∧ j + g = 8 ∧ x = .int .u64 ((val ((nats s).take j) : Nat) : Int) ∧ wr = w)
  case atStart => exact ⟨0, rfl, rfl, rfl, rfl⟩
  case round =>
    obtain ⟨j, rfl, hj, rfl, rfl⟩ := hrel
    by_cases hlt : j < 8
    · have g1 : (j : Int) < 8 := by omega
      have hjs : j < s.size := by omega
      have h1 := HL.out j (by omega) (by omega)
      have h2 := HV.out j hjs
      have hb := s[j].toNat_lt
      have h3 := HO.out (val ((nats s).take j)) s[j].toNat h1 hb
      rw [← h2] at h3
      obtain ⟨v, hv⟩ : ∃ v, v = val ((nats s).take (j + 1)) := ⟨_, rfl⟩
      rw [← hv] at h3
      have HV2 := Lib.hid hv
      clear hv h2
      generalize val ((nats s).take j) = X at *
      go_wp2_with fail
      go_roundg (7 - j)
      case rel => exact ⟨j + 1, by go_num, by omega, by rw [HV2.out], rfl⟩
      case measure => omega
    · have g1 : ¬ (j : Int) < 8 := by omega
      obtain rfl : j = 8 := by omega
      go_wp2_with fail
      go_ret
      exact ⟨ret_int (by rw [HN.out]), Drawn.refl _⟩
/-- The float's bits of a rank that is one's. -/
def pfF (n : Int) : Nat := if n = 18444492273895866369 then 9221120237041090561 else uf n
theorem ub_q : ub 18444492273895866369 = 9221120237041090561 := by unfold ub; simp
theorem nanq : isnan 9221120237041090561 = true := by kernel_rfl
theorem uf_q : uf 18444492273895866369 = 9221120237041090561 := by unfold uf uok; rw [ub_q]; simp
theorem uf_nan (n : Int) (h : uok n = true) (hn : ¬ n = 18444492273895866369) : isnan (uf n) = false := by
  have hu : uf n = ub n := by unfold uf; rw [h]; rfl
  rw [hu]
  unfold uok at h
  have : (n == 18444492273895866369) = false := by simpa using hn
  rw [this] at h
  simpa using h
theorem uf_lt (n : Int) (h0 : 0 ≤ n ∧ n < 18446744073709551616) : uf n < 18446744073709551616 := by
  unfold uf ub
  split
  · split <;> omega
  · omega
set_option maxHeartbeats 800000 in
theorem parseFloat_calls (n : Int) (w : World) (hn : 0 ≤ n ∧ n < 18446744073709551616) :
    Calls Try.prog 26 #[.int .u64 n] w (Fresh (.tuple #[.agg #[.int .i64 (if uok n then 2 else 0), .int .i64 0, .int .u64 (if uok n then (pfF n : Nat) else (0 : Int)), .string ⟨#[]⟩], .int .i64 (if uok n then 0 else 4)]) w) := by
  have k1 := fun w => Fl.Unrank_calls n w hn
  cases hu : uok n
  · rw [hu] at k1
    have K1 := fun w => Lib.hid (k1 w)
    clear k1 hu
    simp only [Bool.false_eq_true, if_false]
    go_enter Try.func26, Try.ntmps26
    go_wp2_with (go_at_call 32; (with_reducible refine ((K1 _).out).mono ?_); rintro e w' ⟨rfl, q, rfl⟩)
    refine bodyPost_ret (v := .tuple #[.agg #[.int .i64 0, .int .i64 0, .int .u64 0, .string ⟨#[]⟩], .int .i64 4]) (by simp [results, Try.results26, go_sem]) rfl ⟨rfl, ?_⟩
    exact (by repeat (first | with_reducible exact Below.refl _ _ | with_reducible refine below_drewN ?_ _ | with_reducible refine below_alloc ?_ (Nat.le_refl _) _ | (with_reducible refine Below.setCell ?_ ?h _; (case h => first | (dsimp only; omega) | (simp; done) | (simp; omega))) | with_reducible refine below_step ?_ (Nat.le_refl _) (by assumption)))
  · rw [hu] at k1
    simp only [if_true]
    by_cases hq : n = 18444492273895866369
    · have hp : pfF n = 9221120237041090561 := by unfold pfF; rw [if_pos hq]
      have hx : uf n = 9221120237041090561 := by rw [hq, uf_q]
      rw [hp]
      have e := nanq
      unfold isnan at e
      rw [hx] at k1
      have K1 := fun w => Lib.hid (k1 w)
      clear k1 hu hp hx hq
      obtain ⟨Q, hQ⟩ : ∃ Q : Nat, Q = 9221120237041090561 := ⟨_, rfl⟩
      rw [← hQ] at e K1
      clear hQ
      have e2 : (FloatKind.f64.format.order Q Q == some .eq) = false := by simpa using e
      go_enter Try.func26, Try.ntmps26
      go_wp2_with (go_at_call 32; (with_reducible refine ((K1 _).out).mono ?_); rintro e w' ⟨rfl, q, rfl⟩)
      refine bodyPost_ret (v := .tuple #[.agg #[.int .i64 2, .int .i64 0, .int .u64 9221120237041090561, .string ⟨#[]⟩], .int .i64 0]) (by simp [results, Try.results26, go_sem]) rfl ⟨rfl, ?_⟩
      exact (by repeat (first | with_reducible exact Below.refl _ _ | with_reducible refine below_drewN ?_ _ | with_reducible refine below_alloc ?_ (Nat.le_refl _) _ | (with_reducible refine Below.setCell ?_ ?h _; (case h => first | (dsimp only; omega) | (simp; done) | (simp; omega))) | with_reducible refine below_step ?_ (Nat.le_refl _) (by assumption)))
    · have hp : pfF n = uf n := by unfold pfF; rw [if_neg hq]
      have e := uf_nan n hu hq
      unfold isnan at e
      have hb := Fl.bits_run (uf n)
      rw [hp]
      have K1 := fun w => Lib.hid (k1 w)
      clear k1 hu hp hq
      generalize uf n = Q at *
      have e2 : (FloatKind.f64.format.order Q Q == some .eq) = true := by simpa using e
      go_enter Try.func26, Try.ntmps26
      go_wp2_with (go_at_call 32; (with_reducible refine ((K1 _).out).mono ?_); rintro e w' ⟨rfl, q, rfl⟩)
      refine bodyPost_ret (v := .tuple #[.agg #[.int .i64 2, .int .i64 0, .int .u64 Q, .string ⟨#[]⟩], .int .i64 0]) (by simp [results, Try.results26, go_sem]) rfl ⟨rfl, ?_⟩
      exact (by repeat (first | with_reducible exact Below.refl _ _ | with_reducible refine below_drewN ?_ _ | with_reducible refine below_alloc ?_ (Nat.le_refl _) _ | (with_reducible refine Below.setCell ?_ ?h _; (case h => first | (dsimp only; omega) | (simp; done) | (simp; omega))) | with_reducible refine below_step ?_ (Nat.le_refl _) (by assumption)))
/-- What a key is read as. -/
def psS (s : ByteArray) : (Int × Int × Int × ByteArray) × Int :=
  if h : 0 < s.size then
    if (s[0]'h).toNat = 1 ∧ s.size = 9 then ((1, (val (nats (s.extract 1 s.size)) : Int) - 9223372036854775808, 0, ⟨#[]⟩), 0)
    else if (s[0]'h).toNat = 2 ∧ s.size = 9 then
      (if uok (val (nats (s.extract 1 s.size)) : Int) then ((2, 0, (pfF (val (nats (s.extract 1 s.size)) : Int) : Nat), ⟨#[]⟩), 0) else ((0, 0, 0, ⟨#[]⟩), 4))
    else if (s[0]'h).toNat = 3 ∧ s.size ≤ 16 then ((3, 0, 0, s.extract 1 s.size), 0)
    else ((0, 0, 0, ⟨#[]⟩), 4)
  else ((0, 0, 0, ⟨#[]⟩), 4)
def res (m : (Int × Int × Int × ByteArray) × Int) : Value := .tuple #[.agg #[.int .i64 m.1.1, .int .i64 m.1.2.1, .int .u64 m.1.2.2.1, .string m.1.2.2.2], .int .i64 m.2]
theorem rest_size (s : ByteArray) : (s.extract 1 s.size).size = s.size - 1 := by simp
set_option maxHeartbeats 1600000 in
theorem Parse_calls (s : ByteArray) (w : World) (hs : s.size ≤ maxLen) :
    Calls Try.prog 13 #[.string s] w (Fresh (res (psS s)) w) := by
  unfold maxLen at hs
  have e : psS s = _ := rfl
  conv at e => rhs; unfold psS
  generalize psS s = m at *
  unfold res
  by_cases h0 : 0 < s.size
  · rw [dif_pos h0] at e
    have hR := rest_size s
    have hv := val_lt (nats (s.extract 1 s.size)) (nats_lt _)
    rw [nats_len] at hv
    have kn := fun w => number_calls (s.extract 1 s.size) w
    obtain ⟨R, hRR⟩ : ∃ R, R = s.extract 1 s.size := ⟨_, rfl⟩
    rw [← hRR] at hR hv kn e
    have eR : s.extract 1 s.size = R := hRR.symm
    clear hRR
    have hne : s.toList.isEmpty = false := by
      rw [ByteArray.toList_eq]
      cases hl : s.data.toList with
      | nil =>
        have h3 : s.data.toList.length = s.size := by simp
        rw [hl] at h3
        simp at h3
        omega
      | cons _ _ => rfl
    have hb : ((s[0]'h0).toNat : Int) ≤ 255 := by have := (s[0]'h0).toNat_lt; omega
    generalize hB : (s[0]'h0).toNat = b at *
    have h0' : (0 : Int) < (s.size : Int) := by omega
    by_cases h1 : b = 1 ∧ s.size = 9
    · rw [if_pos h1] at e
      obtain ⟨rfl, h9⟩ := h1
      have hR8 : R.size = 8 := by omega
      have kN := fun w => Lib.hid (kn w hR8)
      rw [hR8] at hv
      clear kn
      rw [h9] at eR
      have hp8 : (256 : Nat) ^ 8 = 18446744073709551616 := by decide
      rw [hp8] at hv
      clear hp8
      generalize val (nats R) = V at *
      have ew : IntKind.i64.wrap (IntKind.u64.wrap ((V : Int) - 9223372036854775808)) = (V : Int) - 9223372036854775808 := by
        rw [IntKind.wrap_u64, IntKind.wrap_i64]; omega
      subst e
      go_enter Try.func13, Try.ntmps13
      go_wp2_with fail
      go_quiet (fail)
      go_wp2_with (go_at_call 25; (with_reducible refine ((kN _).out).mono ?_); rintro e w' ⟨rfl, q, rfl⟩)
      refine bodyPost_ret (v := .tuple #[.agg #[.int .i64 1, .int .i64 ((V : Int) - 9223372036854775808), .int .u64 0, .string ⟨#[]⟩], .int .i64 0]) (by simp [results, Try.results13, go_sem]) rfl ⟨rfl, ?_⟩
      exact (by repeat (first | with_reducible exact Below.refl _ _ | with_reducible refine below_drewN ?_ _ | with_reducible refine below_alloc ?_ (Nat.le_refl _) _ | (with_reducible refine Below.setCell ?_ ?h _; (case h => first | (dsimp only; omega) | (simp; done) | (simp; omega))) | with_reducible refine below_step ?_ (Nat.le_refl _) (by assumption)))
    · rw [if_neg h1] at e
      by_cases h2 : b = 2 ∧ s.size = 9
      · rw [if_pos h2] at e
        obtain ⟨rfl, h9⟩ := h2
        have hR8 : R.size = 8 := by omega
        have kN := fun w => Lib.hid (kn w hR8)
        rw [hR8] at hv
        clear kn
        rw [h9] at eR
        have hp8 : (256 : Nat) ^ 8 = 18446744073709551616 := by decide
        rw [hp8] at hv
        clear hp8
        generalize val (nats R) = V at *
        have kF := fun w => parseFloat_calls (V : Int) w (by omega)
        cases hu : uok (V : Int)
        · rw [hu] at kF e
          simp only [Bool.false_eq_true, if_false] at kF e
          have KF := fun w => Lib.hid (kF w)
          clear kF hu
          subst e
          go_enter Try.func13, Try.ntmps13
          go_wp2_with fail
          go_quiet (fail)
          go_wp2_with (first | (go_at_call 25; (with_reducible refine ((kN _).out).mono ?_); rintro e w' ⟨rfl, q, rfl⟩) | (go_at_call 26; (with_reducible refine ((KF _).out).mono ?_); rintro e w' ⟨rfl, hB⟩; obtain ⟨hbc, hbf, hbm, hbn⟩ := bcell hB))
          refine bodyPost_ret (v := .tuple #[.agg #[.int .i64 0, .int .i64 0, .int .u64 0, .string ⟨#[]⟩], .int .i64 4]) (by simp [results, Try.results13, go_sem, hbc]) rfl ⟨rfl, ?_⟩
          exact (by repeat (first | with_reducible exact Below.refl _ _ | with_reducible refine below_drewN ?_ _ | with_reducible refine below_alloc ?_ (Nat.le_refl _) _ | (with_reducible refine Below.setCell ?_ ?h _; (case h => first | (dsimp only; omega) | (simp; done) | (simp; omega))) | with_reducible refine below_step ?_ (Nat.le_refl _) (by assumption)))
        · rw [hu] at kF e
          simp only [if_true] at kF e
          have KF := fun w => Lib.hid (kF w)
          clear kF hu
          generalize pfF (V : Int) = Q at *
          subst e
          go_enter Try.func13, Try.ntmps13
          go_wp2_with fail
          go_quiet (fail)
          go_wp2_with (first | (go_at_call 25; (with_reducible refine ((kN _).out).mono ?_); rintro e w' ⟨rfl, q, rfl⟩) | (go_at_call 26; (with_reducible refine ((KF _).out).mono ?_); rintro e w' ⟨rfl, hB⟩; obtain ⟨hbc, hbf, hbm, hbn⟩ := bcell hB))
          refine bodyPost_ret (v := .tuple #[.agg #[.int .i64 2, .int .i64 0, .int .u64 (Q : Int), .string ⟨#[]⟩], .int .i64 0]) (by simp [results, Try.results13, go_sem, hbc]) rfl ⟨rfl, ?_⟩
          exact (by repeat (first | with_reducible exact Below.refl _ _ | with_reducible refine below_drewN ?_ _ | with_reducible refine below_alloc ?_ (Nat.le_refl _) _ | (with_reducible refine Below.setCell ?_ ?h _; (case h => first | (dsimp only; omega) | (simp; done) | (simp; omega))) | with_reducible refine below_step ?_ (Nat.le_refl _) (by assumption)))
      · rw [if_neg h2] at e
        clear kn hv
        by_cases h3 : b = 3 ∧ s.size ≤ 16
        · rw [if_pos h3] at e
          obtain ⟨rfl, h16⟩ := h3
          subst e
          have hR15 : R.size ≤ 15 := by omega
          clear hR
          go_enter Try.func13, Try.ntmps13
          go_wp2_with fail
          go_quiet (fail)
          go_wp2_with fail
          refine bodyPost_ret (v := .tuple #[.agg #[.int .i64 3, .int .i64 0, .int .u64 0, .string R], .int .i64 0]) (by simp [results, Try.results13, go_sem]) rfl ⟨rfl, ?_⟩
          exact (by repeat (first | with_reducible exact Below.refl _ _ | with_reducible refine below_drewN ?_ _ | with_reducible refine below_alloc ?_ (Nat.le_refl _) _ | (with_reducible refine Below.setCell ?_ ?h _; (case h => first | (dsimp only; omega) | (simp; done) | (simp; omega))) | with_reducible refine below_step ?_ (Nat.le_refl _) (by assumption)))
        · rw [if_neg h3] at e
          subst e
          by_cases c1 : b = 1
          · have hR8 : ((R.size : Int) == 8) = false := by rw [beq_eq_false_iff_ne]; omega
            subst c1
            clear hR h1 h2 h3
            go_enter Try.func13, Try.ntmps13
            go_wp2_with fail
            go_quiet (fail)
            go_wp2_with fail
            refine bodyPost_ret (v := .tuple #[.agg #[.int .i64 0, .int .i64 0, .int .u64 0, .string ⟨#[]⟩], .int .i64 4]) (by simp [results, Try.results13, go_sem]) rfl ⟨rfl, ?_⟩
            exact (by repeat (first | with_reducible exact Below.refl _ _ | with_reducible refine below_drewN ?_ _ | with_reducible refine below_alloc ?_ (Nat.le_refl _) _ | (with_reducible refine Below.setCell ?_ ?h _; (case h => first | (dsimp only; omega) | (simp; done) | (simp; omega))) | with_reducible refine below_step ?_ (Nat.le_refl _) (by assumption)))
          · by_cases c2 : b = 2
            · have hR8 : ((R.size : Int) == 8) = false := by rw [beq_eq_false_iff_ne]; omega
              subst c2
              clear hR h1 h2 h3
              go_enter Try.func13, Try.ntmps13
              go_wp2_with fail
              go_quiet (fail)
              go_wp2_with fail
              refine bodyPost_ret (v := .tuple #[.agg #[.int .i64 0, .int .i64 0, .int .u64 0, .string ⟨#[]⟩], .int .i64 4]) (by simp [results, Try.results13, go_sem]) rfl ⟨rfl, ?_⟩
              exact (by repeat (first | with_reducible exact Below.refl _ _ | with_reducible refine below_drewN ?_ _ | with_reducible refine below_alloc ?_ (Nat.le_refl _) _ | (with_reducible refine Below.setCell ?_ ?h _; (case h => first | (dsimp only; omega) | (simp; done) | (simp; omega))) | with_reducible refine below_step ?_ (Nat.le_refl _) (by assumption)))
            · have d1 : ((b : Int) == 1) = false := by rw [beq_eq_false_iff_ne]; omega
              have d2 : ((b : Int) == 2) = false := by rw [beq_eq_false_iff_ne]; omega
              by_cases c3 : b = 3
              · have hR8 : ¬ (R.size : Int) ≤ 15 := by omega
                subst c3
                clear hR h1 h2 h3
                go_enter Try.func13, Try.ntmps13
                go_wp2_with fail
                go_quiet (fail)
                go_wp2_with fail
                refine bodyPost_ret (v := .tuple #[.agg #[.int .i64 0, .int .i64 0, .int .u64 0, .string ⟨#[]⟩], .int .i64 4]) (by simp [results, Try.results13, go_sem]) rfl ⟨rfl, ?_⟩
                exact (by repeat (first | with_reducible exact Below.refl _ _ | with_reducible refine below_drewN ?_ _ | with_reducible refine below_alloc ?_ (Nat.le_refl _) _ | (with_reducible refine Below.setCell ?_ ?h _; (case h => first | (dsimp only; omega) | (simp; done) | (simp; omega))) | with_reducible refine below_step ?_ (Nat.le_refl _) (by assumption)))
              · have d3 : ((b : Int) == 3) = false := by rw [beq_eq_false_iff_ne]; omega
                clear hR h1 h2 h3 c1 c2 c3
                go_enter Try.func13, Try.ntmps13
                go_wp2_with fail
                go_quiet (fail)
                go_wp2_with fail
                refine bodyPost_ret (v := .tuple #[.agg #[.int .i64 0, .int .i64 0, .int .u64 0, .string ⟨#[]⟩], .int .i64 4]) (by simp [results, Try.results13, go_sem]) rfl ⟨rfl, ?_⟩
                exact (by repeat (first | with_reducible exact Below.refl _ _ | with_reducible refine below_drewN ?_ _ | with_reducible refine below_alloc ?_ (Nat.le_refl _) _ | (with_reducible refine Below.setCell ?_ ?h _; (case h => first | (dsimp only; omega) | (simp; done) | (simp; omega))) | with_reducible refine below_step ?_ (Nat.le_refl _) (by assumption)))
  · rw [dif_neg h0] at e
    subst e
    have hz : s = ⟨#[]⟩ := by
      obtain ⟨⟨l⟩⟩ := s
      cases l with
      | nil => rfl
      | cons a l => exact absurd (Nat.succ_pos _) h0
    subst hz
    go_enter Try.func13, Try.ntmps13
    go_wp2_with fail
    refine bodyPost_ret (v := .tuple #[.agg #[.int .i64 0, .int .i64 0, .int .u64 0, .string ⟨#[]⟩], .int .i64 4]) (by simp [results, Try.results13, go_sem]) rfl ⟨rfl, ?_⟩
    exact (by repeat (first | with_reducible exact Below.refl _ _ | with_reducible refine below_drewN ?_ _ | with_reducible refine below_alloc ?_ (Nat.le_refl _) _ | (with_reducible refine Below.setCell ?_ ?h _; (case h => first | (dsimp only; omega) | (simp; done) | (simp; omega))) | with_reducible refine below_step ?_ (Nat.le_refl _) (by assumption)))
end Go.Proofs.Ytoeddlcidbmppaa.Co
