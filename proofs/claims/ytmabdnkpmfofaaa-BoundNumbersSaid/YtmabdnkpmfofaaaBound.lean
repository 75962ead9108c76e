/- The numbers of a configuration. -/
import Derived.Test.YtmabdnkpmfofaaaCall
import Derived.Test.YtmabdnkpmfofaaaMem
import Derived.Test.YtmabdnkpmfofaaaHash
namespace Go.Proofs.Ytmabdnkpmfofaaa.Conf
open Go.RowKit
open Go.Proofs.Ytmabdnkpmfofaaa.Hash (cl cl_le)
set_option linter.unusedVariables false

/-- A product as it is reckoned: one after the other. -/
def prod (p : Int) : List Int → Int
  | [] => p
  | n :: l => prod (wrap64 (p * n)) l
theorem prod_snoc (p : Int) (l : List Int) (n : Int) : prod p (l ++ [n]) = wrap64 (prod p l * n) := by
  induction l generalizing p with
  | nil => rfl
  | cons m l ih => exact ih _
theorem prod_in (p : Int) (l : List Int) (hp : I64 p) : I64 (prod p l) := by
  induction l generalizing p with
  | nil => exact hp
  | cons m l ih =>
    refine ih _ ?_
    unfold I64 wrap64
    omega
set_option maxHeartbeats 800000 in
theorem product_calls (A : Option Addr) (cap n : Nat) (zs : List Int) (w : World) (hn : zs.length = n) (hz : ∀ z ∈ zs, I64 z) (hr : Rd w w.heap.size A (iv zs)) (hl : n ≤ 1000) :
    Calls Try.prog 16 #[.slice A n cap] w (Quiet (.int .i64 (prod 1 zs)) w) := by
  subst hn
  go_enter Try.func16, Try.ntmps16
  go_wp2_with fail
  go_loopw [3, 8] (fun p i wr => ∃ k : Nat, i = .int .i64 (k : Int) ∧ k ≤ zs.length ∧ p = .int .i64 (prod 1 (zs.take k)) ∧ Drawn w wr) (fun _ i _ => zs.length - (intOf i).toNat)
  case atStart => exact ⟨0, rfl, by omega, rfl, Drawn.refl w⟩
  case round =>
    obtain ⟨k, rfl, hk, rfl, q, rfl⟩ := hrel
    by_cases hlt : k < zs.length
    · obtain ⟨b, off, rfl, hb0, hc0⟩ := hr.spot (by intro e; have := congrArg List.length e; simp [iv] at this; subst this; simp at hlt)
      have hck := hc0 k (by simpa [iv] using hlt)
      rw [iv_at zs k hlt] at hck
      have g1 : (k : Int) < (zs.length : Int) := by omega
      have hx := hz zs[k] (List.getElem_mem hlt)
      have hp := prod_in 1 (zs.take k) (by unfold I64; omega)
      have HS : Hid (prod 1 (zs.take (k + 1)) = wrap64 (prod 1 (zs.take k) * zs[k])) := hide (by rw [List.take_succ_eq_append_getElem hlt, prod_snoc])
      clear hc0
      unfold I64 at hx hp
      generalize prod 1 (zs.take k) = p at *
      generalize zs[k] = x at *
      go_wp2_with fail
      go_roundw
      case rel => exact ⟨k + 1, by go_num, by omega, by rw [HS.out], _, rfl⟩
      case measure => simp [intOf]; omega
    · have e : zs.take k = zs := List.take_of_length_le (by omega)
      rw [e]
      go_wp2_with fail
      go_ret
      exact ⟨rfl, ⟨_, rfl⟩⟩

/-- a, b: what Steps multiplies. -/
def steps (a b : Int) : Int := wrap64 (wrap64 (wrap64 (1000 * a * a) * b) * b)
set_option maxHeartbeats 800000 in
theorem RefSteps_calls (k s t h b : Int) (w : World) (hk : 1 ≤ k ∧ k ≤ 3) (hs : 0 ≤ s ∧ s ≤ 1000) (ht : 1 ≤ t ∧ t ≤ 64) (hh : 0 ≤ h ∧ h ≤ 16) (hb : 0 ≤ b ∧ b ≤ 64) :
    Calls Try.prog 10 #[.agg #[.int .i64 k, .int .i64 s, .int .i64 t, .int .i64 h, .int .i64 b]] w (Fresh (.int .i64 (steps (t + 2) (s + h + t + 10))) w) := by
  go_enter Try.func10, Try.ntmps10
  go_wp2_with fail
  go_quiet (fail)
  go_wp2_with fail
  go_ret
  exact ⟨rfl, (by repeat (first | exact Below.refl _ _ | refine below_drewN ?_ _ | refine below_alloc ?_ (Nat.le_refl _) _ | refine Below.setCell ?_ (by simp) _ | refine below_step ?_ (Nat.le_refl _) (by assumption)))⟩
theorem prod_lit (W : World) (cs : Array Value) (n : Nat) (zs : List Int) (hcs : cs.toList = iv zs) (hn : zs.length = n) (hz : ∀ z ∈ zs, I64 z) (hl : n ≤ 1000) :
    Calls Try.prog 16 #[.slice (some ⟨W.heap.size, 0, none⟩) n n] (W.alloc (.cells cs 3)) (Quiet (.int .i64 (prod 1 zs)) (W.alloc (.cells cs 3))) := by
  have hsz : cs.size = n * 1 := by rw [← Array.length_toList, hcs, iv_len, hn, Nat.mul_one]
  have hown := World.ownsRow_lit (base := W.heap.size) (e := 3) (size := 1) W cs n (Nat.le_refl _) (by simp only [maxLen]; omega) hsz
  rw [hcs] at hown
  exact product_calls _ n n zs _ hn hz (Rd.own hown) hl
theorem steps_prod (a b : Int) (ha : 0 ≤ a ∧ a ≤ 1000) : prod 1 [1000, a, a, b, b] = steps a b := by
  unfold prod prod prod prod prod prod steps
  have e1 : wrap64 (1 * 1000) = 1000 := by unfold wrap64; omega
  have e2 : wrap64 (1000 * a) = 1000 * a := by unfold wrap64; omega
  rw [e1, e2]
set_option maxHeartbeats 800000 in
theorem Steps_calls (k s t h b : Int) (w : World) (hk : 1 ≤ k ∧ k ≤ 3) (hs : 0 ≤ s ∧ s ≤ 1000) (ht : 1 ≤ t ∧ t ≤ 64) (hh : 0 ≤ h ∧ h ≤ 16) (hb : 0 ≤ b ∧ b ≤ 64) (hm : mayE k s t h b = 0) :
    Calls Try.prog 4 #[.agg #[.int .i64 k, .int .i64 s, .int .i64 t, .int .i64 h, .int .i64 b]] w (Fresh (.tuple #[.int .i64 (steps (t + 2) (s + h + t + 10)), .int .i64 0]) w) := by
  have k1 := fun w => May_calls k s t h b w (by unfold I64; omega) (by unfold I64; omega) (by unfold I64; omega) (by unfold I64; omega) (by unfold I64; omega)
  rw [hm] at k1
  have K1 := fun w => Lib.hid (k1 w)
  have k2 : ∀ W : World, Hid (Calls Try.prog 16 #[.slice (some ⟨W.heap.size, 0, none⟩) 5 5] (W.alloc (.cells #[.int .i64 1000, .int .i64 (t + 2), .int .i64 (t + 2), .int .i64 (s + h + t + 10), .int .i64 (s + h + t + 10)] 3)) (Quiet (.int .i64 (steps (t + 2) (s + h + t + 10))) (W.alloc (.cells #[.int .i64 1000, .int .i64 (t + 2), .int .i64 (t + 2), .int .i64 (s + h + t + 10), .int .i64 (s + h + t + 10)] 3)))) := fun W => hide (by
    rw [← steps_prod _ _ (by omega)]
    exact prod_lit W _ 5 [1000, t + 2, t + 2, s + h + t + 10, s + h + t + 10] rfl rfl (fun z hz => by
      unfold I64; simp at hz; omega) (by omega))
  clear k1
  go_enter Try.func4, Try.ntmps4
  go_wp2_with (go_at_call 15; (with_reducible refine ((K1 _).out).mono ?_); rintro e w' ⟨rfl, hB⟩; obtain ⟨hbc, hbf, hbm, hbn⟩ := bcell hB)
  go_quiet (fail)
  go_wp2_with fail
  refine (k2 (_)).out.mono ?_
  rintro e w3 ⟨rfl, q, rfl⟩
  go_wp2_with fail
  go_ret2
  exact ⟨rfl, (by repeat (first | exact Below.refl _ _ | refine below_drewN ?_ _ | refine below_alloc ?_ (Nat.le_refl _) _ | refine Below.setCell ?_ (by simp) _ | refine below_step ?_ (Nat.le_refl _) (by assumption)))⟩
set_option maxHeartbeats 800000 in
theorem Steps_bad (k s t h b : Int) (w : World) (hk : I64 k) (hs : I64 s) (ht : I64 t) (hh : I64 h) (hb : I64 b) (hm : (mayE k s t h b == 0) = false) :
    Calls Try.prog 4 #[.agg #[.int .i64 k, .int .i64 s, .int .i64 t, .int .i64 h, .int .i64 b]] w (Fresh (.tuple #[.int .i64 0, .int .i64 (mayE k s t h b)]) w) := by
  have K1 := fun w => Lib.hid (May_calls k s t h b w hk hs ht hh hb)
  generalize mayE k s t h b = m at *
  go_enter Try.func4, Try.ntmps4
  go_wp2_with (go_at_call 15; (with_reducible refine ((K1 _).out).mono ?_); rintro e w' ⟨rfl, hB⟩; obtain ⟨hbc, hbf, hbm, hbn⟩ := bcell hB)
  go_ret2
  exact ⟨rfl, (by repeat (first | exact Below.refl _ _ | refine below_drewN ?_ _ | refine below_alloc ?_ (Nat.le_refl _) _ | refine Below.setCell ?_ (by simp) _ | refine below_step ?_ (Nat.le_refl _) (by assumption)))⟩
set_option maxHeartbeats 800000 in
theorem Read_calls (k s t h b : Int) (w : World) (hk : 1 ≤ k ∧ k ≤ 3) (hs : 0 ≤ s ∧ s ≤ 1000) (ht : 1 ≤ t ∧ t ≤ 64) (hh : 0 ≤ h ∧ h ≤ 16) (hb : 0 ≤ b ∧ b ≤ 64) (hm : mayE k s t h b = 0) :
    Calls Try.prog 5 #[.agg #[.int .i64 k, .int .i64 s, .int .i64 t, .int .i64 h, .int .i64 b]] w (Fresh (.tuple #[.int .i64 (s + 4), .int .i64 0]) w) := by
  have k1 := fun w => May_calls k s t h b w (by unfold I64; omega) (by unfold I64; omega) (by unfold I64; omega) (by unfold I64; omega) (by unfold I64; omega)
  rw [hm] at k1
  have K1 := fun w => Lib.hid (k1 w)
  clear k1
  go_enter Try.func5, Try.ntmps5
  go_wp2_with (go_at_call 15; (with_reducible refine ((K1 _).out).mono ?_); rintro e w' ⟨rfl, hB⟩; obtain ⟨hbc, hbf, hbm, hbn⟩ := bcell hB)
  go_ret2
  exact ⟨rfl, (by repeat (first | exact Below.refl _ _ | refine below_drewN ?_ _ | refine below_alloc ?_ (Nat.le_refl _) _ | refine Below.setCell ?_ (by simp) _ | refine below_step ?_ (Nat.le_refl _) (by assumption)))⟩
set_option maxHeartbeats 800000 in
theorem Read_bad (k s t h b : Int) (w : World) (hk : I64 k) (hs : I64 s) (ht : I64 t) (hh : I64 h) (hb : I64 b) (hm : (mayE k s t h b == 0) = false) :
    Calls Try.prog 5 #[.agg #[.int .i64 k, .int .i64 s, .int .i64 t, .int .i64 h, .int .i64 b]] w (Fresh (.tuple #[.int .i64 0, .int .i64 (mayE k s t h b)]) w) := by
  have K1 := fun w => Lib.hid (May_calls k s t h b w hk hs ht hh hb)
  generalize mayE k s t h b = m at *
  go_enter Try.func5, Try.ntmps5
  go_wp2_with (go_at_call 15; (with_reducible refine ((K1 _).out).mono ?_); rintro e w' ⟨rfl, hB⟩; obtain ⟨hbc, hbf, hbm, hbn⟩ := bcell hB)
  go_ret2
  exact ⟨rfl, (by repeat (first | exact Below.refl _ _ | refine below_drewN ?_ _ | refine below_alloc ?_ (Nat.le_refl _) _ | refine Below.setCell ?_ (by simp) _ | refine below_step ?_ (Nat.le_refl _) (by assumption)))⟩
set_option maxHeartbeats 800000 in
theorem RefRead_calls (k s t h b : Int) (w : World) (hs : 0 ≤ s ∧ s ≤ 1000) :
    Calls Try.prog 11 #[.agg #[.int .i64 k, .int .i64 s, .int .i64 t, .int .i64 h, .int .i64 b]] w (Fresh (.int .i64 (s + 4)) w) := by
  go_enter Try.func11, Try.ntmps11
  go_wp2_with fail
  go_ret
  exact ⟨rfl, (by repeat (first | exact Below.refl _ _ | refine below_drewN ?_ _ | refine below_alloc ?_ (Nat.le_refl _) _ | refine Below.setCell ?_ (by simp) _ | refine below_step ?_ (Nat.le_refl _) (by assumption)))⟩
/-- The error of a configuration and a number. -/
def errE (m n : Int) : Int := if m = 0 then (if n < 0 ∨ 10000 < n then 2 else 0) else m
set_option maxHeartbeats 800000 in
theorem may_calls (k s t h b n : Int) (w : World) (hk : I64 k) (hs : I64 s) (ht : I64 t) (hh : I64 h) (hb : I64 b) (hn : I64 n) :
    Calls Try.prog 17 #[.agg #[.int .i64 k, .int .i64 s, .int .i64 t, .int .i64 h, .int .i64 b], .int .i64 n] w (Fresh (.int .i64 (errE (mayE k s t h b) n)) w) := by
  have K1 := fun w => Lib.hid (May_calls k s t h b w hk hs ht hh hb)
  generalize mayE k s t h b = m at *
  have e : errE m n = if m = 0 then (if n < 0 ∨ 10000 < n then 2 else 0) else m := rfl
  generalize errE m n = x at *
  unfold I64 at hn
  by_cases hm : m = 0
  · subst hm
    rw [if_pos rfl] at e
    split at e
    · subst e
      go_enter Try.func17, Try.ntmps17
      go_wp2_with (go_at_call 15; (with_reducible refine ((K1 _).out).mono ?_); rintro e w' ⟨rfl, hB⟩; obtain ⟨hbc, hbf, hbm, hbn⟩ := bcell hB)
      all_goals
        go_ret
        exact ⟨by first | rfl | (exfalso; omega), (by repeat (first | exact Below.refl _ _ | refine below_drewN ?_ _ | refine below_alloc ?_ (Nat.le_refl _) _ | refine Below.setCell ?_ (by simp) _ | refine below_step ?_ (Nat.le_refl _) (by assumption)))⟩
    · subst e
      go_enter Try.func17, Try.ntmps17
      go_wp2_with (go_at_call 15; (with_reducible refine ((K1 _).out).mono ?_); rintro e w' ⟨rfl, hB⟩; obtain ⟨hbc, hbf, hbm, hbn⟩ := bcell hB)
      all_goals
        go_ret
        exact ⟨by first | rfl | (exfalso; omega), (by repeat (first | exact Below.refl _ _ | refine below_drewN ?_ _ | refine below_alloc ?_ (Nat.le_refl _) _ | refine Below.setCell ?_ (by simp) _ | refine below_step ?_ (Nat.le_refl _) (by assumption)))⟩
  · rw [if_neg hm] at e
    subst e
    have h4 : (x == 0) = false := by simpa using hm
    go_enter Try.func17, Try.ntmps17
    go_wp2_with (go_at_call 15; (with_reducible refine ((K1 _).out).mono ?_); rintro e w' ⟨rfl, hB⟩; obtain ⟨hbc, hbf, hbm, hbn⟩ := bcell hB)
    go_ret
    exact ⟨rfl, (by repeat (first | exact Below.refl _ _ | refine below_drewN ?_ _ | refine below_alloc ?_ (Nat.le_refl _) _ | refine Below.setCell ?_ (by simp) _ | refine below_step ?_ (Nat.le_refl _) (by assumption)))⟩
set_option maxHeartbeats 800000 in
theorem RefErr_calls (k s t h b n : Int) (w : World) (hk : I64 k) (hs : I64 s) (ht : I64 t) (hh : I64 h) (hb : I64 b) (hn : I64 n) :
    Calls Try.prog 12 #[.agg #[.int .i64 k, .int .i64 s, .int .i64 t, .int .i64 h, .int .i64 b], .int .i64 n] w (Fresh (.int .i64 (errE (mayE k s t h b) n)) w) := by
  have K1 := fun w => Lib.hid (RefMay_calls k s t h b w hk hs ht hh hb)
  generalize mayE k s t h b = m at *
  have e : errE m n = if m = 0 then (if n < 0 ∨ 10000 < n then 2 else 0) else m := rfl
  generalize errE m n = x at *
  unfold I64 at hn
  by_cases hm : m = 0
  · subst hm
    rw [if_pos rfl] at e
    split at e
    · subst e
      go_enter Try.func12, Try.ntmps12
      go_wp2_with (go_at_call 8; (with_reducible refine ((K1 _).out).mono ?_); rintro e w' ⟨rfl, hB⟩; obtain ⟨hbc, hbf, hbm, hbn⟩ := bcell hB)
      all_goals
        go_ret
        exact ⟨by first | rfl | (exfalso; omega), (by repeat (first | exact Below.refl _ _ | refine below_drewN ?_ _ | refine below_alloc ?_ (Nat.le_refl _) _ | refine Below.setCell ?_ (by simp) _ | refine below_step ?_ (Nat.le_refl _) (by assumption)))⟩
    · subst e
      go_enter Try.func12, Try.ntmps12
      go_wp2_with (go_at_call 8; (with_reducible refine ((K1 _).out).mono ?_); rintro e w' ⟨rfl, hB⟩; obtain ⟨hbc, hbf, hbm, hbn⟩ := bcell hB)
      all_goals
        go_ret
        exact ⟨by first | rfl | (exfalso; omega), (by repeat (first | exact Below.refl _ _ | refine below_drewN ?_ _ | refine below_alloc ?_ (Nat.le_refl _) _ | refine Below.setCell ?_ (by simp) _ | refine below_step ?_ (Nat.le_refl _) (by assumption)))⟩
  · rw [if_neg hm] at e
    subst e
    have h4 : (x == 0) = false := by simpa using hm
    go_enter Try.func12, Try.ntmps12
    go_wp2_with (go_at_call 8; (with_reducible refine ((K1 _).out).mono ?_); rintro e w' ⟨rfl, hB⟩; obtain ⟨hbc, hbf, hbm, hbn⟩ := bcell hB)
    go_ret
    exact ⟨rfl, (by repeat (first | exact Below.refl _ _ | refine below_drewN ?_ _ | refine below_alloc ?_ (Nat.le_refl _) _ | refine Below.setCell ?_ (by simp) _ | refine below_step ?_ (Nat.le_refl _) (by assumption)))⟩
end Go.Proofs.Ytmabdnkpmfofaaa.Conf
