/- Contracts of the hashes. -/
import Derived.Test.YtmabdnkpmfofaaaLib
namespace Go.Proofs.Ytmabdnkpmfofaaa.Hash
open Go.RowKit
set_option linter.unusedVariables false

def I64 (a : Int) : Prop := -9223372036854775808 ≤ a ∧ a ≤ 9223372036854775807
/-- The bits that there can be. -/
def cl (b : Int) : Nat := if b < 0 then 0 else if b > 64 then 64 else b.toNat

theorem cl_le (b : Int) : cl b ≤ 64 := by
  unfold cl
  split
  · omega
  · split <;> omega
theorem mask_eq (h c : Nat) (hh : h < 18446744073709551616) (hc : c ≤ 64) : bits .and .u64 (h : Int) (IntKind.u64.wrap (IntKind.u64.wrap (2 ^ c) - 1)) = ((h % 2 ^ c : Nat) : Int) := by
  have e : IntKind.u64.wrap (IntKind.u64.wrap ((2 : Int) ^ c) - 1) = ((2 ^ c - 1 : Nat) : Int) := by
    have h1 : (1 : Nat) ≤ 2 ^ c := Nat.one_le_two_pow
    have h2 : (2 : Nat) ^ c ≤ 2 ^ 64 := Nat.pow_le_pow_right (by decide) hc
    have h3 : ((2 : Int) ^ c) = ((2 ^ c : Nat) : Int) := by norm_cast
    rw [h3]
    generalize (2 : Nat) ^ c = x at *
    simp only [IntKind.wrap, IntKind.bits, IntKind.signed]
    simp
    omega
  rw [e, u64_and_nat _ _ hh (by have h2 : (2 : Nat) ^ c ≤ 2 ^ 64 := Nat.pow_le_pow_right (by decide) hc; omega), Nat.and_two_pow_sub_one_eq_mod]
theorem clamp_calls (b : Int) (w : World) (hb : I64 b) :
    Calls Try.prog 21 #[.int .i64 b] w (Quiet (.int .i64 (cl b)) w) := by
  unfold I64 at hb
  have e : cl b = if b < 0 then 0 else if b > 64 then 64 else b.toNat := rfl
  generalize cl b = c at *
  split at e
  · subst e
    go_enter Try.func21, Try.ntmps21
    go_wp2
    all_goals
      go_ret
      exact ⟨rfl, Drawn.refl _⟩
  · split at e
    · subst e
      go_enter Try.func21, Try.ntmps21
      go_wp2
      all_goals
        go_ret
        exact ⟨rfl, Drawn.refl _⟩
    · go_enter Try.func21, Try.ntmps21
      go_wp2
      all_goals
        go_ret
        exact ⟨ret_int (by omega), Drawn.refl _⟩

theorem Levels_calls (b : Int) (w : World) (hb : I64 b) :
    Calls Try.prog 18 #[.int .i64 b] w (Quiet (.int .i64 (((cl b + 4) / 5 : Nat) : Int)) w) := by
  have k1 := fun w => Lib.hid (clamp_calls b w hb)
  have hc := cl_le b
  generalize cl b = c at *
  go_enter Try.func18, Try.ntmps18
  go_wp2_with (go_at_call 21; (with_reducible refine (k1 _).out.mono ?_); rintro e w' ⟨rfl, q, rfl⟩)
  go_ret
  exact ⟨ret_int (by omega), ⟨_, rfl⟩⟩

def start : Nat := 14695981039346656037
theorem start_val : (14695981039346656037 : Int) = ((start : Nat) : Int) := rfl
def step (h : Nat) (c : UInt8) : Nat := ((h ^^^ c.toNat) * 1099511628211) % 18446744073709551616
def fnv (l : List UInt8) : Nat := l.foldl step start
theorem step_lt (h : Nat) (c : UInt8) : step h c < 18446744073709551616 := by unfold step; omega
theorem fold_lt (l : List UInt8) (h : Nat) (hh : h < 18446744073709551616) : l.foldl step h < 18446744073709551616 := by
  induction l generalizing h with
  | nil => exact hh
  | cons c l ih => exact ih _ (step_lt h c)
theorem start_lt : start < 18446744073709551616 := by unfold start; omega
theorem fnv_def (l : List UInt8) : fnv l = l.foldl step start := by unfold fnv; exact Eq.refl (l.foldl step start)
theorem fnv_lt (l : List UInt8) : fnv l < 18446744073709551616 := by rw [fnv_def]; exact fold_lt l start start_lt
theorem fold_snoc (l : List UInt8) (c : UInt8) (h : Nat) : (l ++ [c]).foldl step h = step (l.foldl step h) c := by
  rw [List.foldl_append, List.foldl_cons, List.foldl_nil]
theorem fnv_snoc (l : List UInt8) (c : UInt8) : fnv (l ++ [c]) = step (fnv l) c := by
  rw [fnv_def, fnv_def, fold_snoc]
theorem step_eq (h : Nat) (c : UInt8) (hh : h < 18446744073709551616) : IntKind.u64.wrap (bits .xor .u64 (h : Int) (IntKind.u64.wrap (c.toNat : Int)) * 1099511628211) = ((step h c : Nat) : Int) := by
  have hw : IntKind.u64.wrap (c.toNat : Int) = (c.toNat : Int) := by have := c.toNat_lt; simp only [IntKind.wrap, IntKind.bits, IntKind.signed]; simp; omega
  rw [hw, u64_xor_nat _ _ hh (by have := c.toNat_lt; omega)]
  unfold step
  generalize (h ^^^ c.toNat) = x
  simp only [IntKind.wrap, IntKind.bits, IntKind.signed]
  simp
theorem take_snoc (s : ByteArray) (k : Nat) (h : k < s.size) : s.data.toList.take (k + 1) = s.data.toList.take k ++ [s[k]] := by
  rw [List.take_succ_eq_append_getElem (by simpa using h)]; rfl
theorem take_all (s : ByteArray) (k : Nat) (h : s.size ≤ k) : s.data.toList.take k = s.data.toList := by
  apply List.take_of_length_le; simpa using h

theorem RefClamp_calls (b : Int) (w : World) (hb : I64 b) :
    Calls Try.prog 22 #[.int .i64 b] w (Quiet (.int .i64 (cl b)) w) := by
  unfold I64 at hb
  have e : cl b = if b < 0 then 0 else if b > 64 then 64 else b.toNat := rfl
  generalize cl b = c at *
  split at e
  · subst e
    go_enter Try.func22, Try.ntmps22
    go_wp2
    all_goals
      go_ret
      exact ⟨rfl, Drawn.refl _⟩
  · split at e
    · subst e
      go_enter Try.func22, Try.ntmps22
      go_wp2
      all_goals
        go_ret
        exact ⟨rfl, Drawn.refl _⟩
    · go_enter Try.func22, Try.ntmps22
      go_wp2
      all_goals
        go_ret
        exact ⟨ret_int (by omega), Drawn.refl _⟩

/-- Behind k rounds: the rest, the low bits, the next power. -/
def Low (H k y z t : Nat) : Prop := y = H / 2 ^ k ∧ z = H % 2 ^ k ∧ t = 2 ^ k % 18446744073709551616
theorem sum_u64 (y z t : Nat) (g4 : z + t * (y % 2) < 18446744073709551616) (g5 : t * (y % 2) < 18446744073709551616) : IntKind.u64.wrap ((z : Int) + IntKind.u64.wrap ((t : Int) * ((y : Int) % 2))) = ((z + t * (y % 2) : Nat) : Int) := by
  have e : ((t : Int) * ((y : Int) % 2)) = ((t * (y % 2) : Nat) : Int) := by norm_cast
  rw [e]
  generalize t * (y % 2) = x at *
  simp only [IntKind.wrap, IntKind.bits, IntKind.signed]
  simp
  omega
theorem dbl_u64 (t : Nat) : IntKind.u64.wrap (2 * (t : Int)) = ((2 * t % 18446744073709551616 : Nat) : Int) := by
  simp only [IntKind.wrap, IntKind.bits, IntKind.signed]
  simp
theorem Low.zero (H : Nat) : Low H 0 H 0 1 := ⟨by simp, by rw [Nat.pow_zero, Nat.mod_one], by decide⟩
theorem pow_le_63 {k : Nat} (h : k < 64) : 2 ^ k ≤ 9223372036854775808 := Nat.le_trans (Nat.pow_le_pow_right (by decide) (show k ≤ 63 by omega)) (by decide)
theorem Low.fits {H k y z t : Nat} (hk : k < 64) (h : Low H k y z t) : t ≤ 9223372036854775808 ∧ z + t * (y % 2) < 18446744073709551616 ∧ t * (y % 2) < 18446744073709551616 := by
  obtain ⟨rfl, rfl, rfl⟩ := h
  have h1 := pow_le_63 hk
  have h2 : H % 2 ^ k < 2 ^ k := Nat.mod_lt _ (Nat.two_pow_pos k)
  generalize 2 ^ k = p at *
  have h3 : p % 18446744073709551616 = p := by omega
  rw [h3]
  have h4 : H / p % 2 = 0 ∨ H / p % 2 = 1 := by omega
  rcases h4 with h4 | h4 <;> rw [h4] <;> simp <;> omega
theorem Low.succ {H k y z t : Nat} (hk : k < 64) (h : Low H k y z t) : Low H (k + 1) (y / 2) (z + t * (y % 2)) (2 * t % 18446744073709551616) := by
  obtain ⟨rfl, rfl, rfl⟩ := h
  have h1 := pow_le_63 hk
  have h3 : 2 ^ k % 18446744073709551616 = 2 ^ k := Nat.mod_eq_of_lt (Nat.lt_of_le_of_lt h1 (by decide))
  rw [h3]
  refine ⟨by rw [Nat.pow_succ, Nat.div_div_eq_div_mul], by rw [Nat.mod_pow_succ], by rw [Nat.pow_succ, Nat.mul_comm]⟩
theorem chunk_eq (h c n : Nat) (hh : h < 18446744073709551616) (hc : c ≤ 64) : wrap64 (bits .and .u64 ((h : Int) % 2 ^ c / 2 ^ (5 * (n : Int)).toNat) 31) = ((h % 2 ^ c / 2 ^ (5 * n) % 32 : Nat) : Int) := by
  have e : ((h : Int) % 2 ^ c / 2 ^ (5 * (n : Int)).toNat) = ((h % 2 ^ c / 2 ^ (5 * n) : Nat) : Int) := by
    have h1 : (5 * (n : Int)).toNat = 5 * n := by omega
    rw [h1]
    norm_cast
  have hb : h % 2 ^ c / 2 ^ (5 * n) < 18446744073709551616 := Nat.lt_of_le_of_lt (Nat.div_le_self _ _) (Nat.lt_of_le_of_lt (Nat.mod_le _ _) hh)
  rw [e]
  generalize h % 2 ^ c / 2 ^ (5 * n) = x at *
  have := u64_and_nat x 31 hb (by decide)
  rw [show ((31 : Nat) : Int) = 31 from rfl] at this
  rw [this, nat_mask5]
  unfold wrap64
  omega
/-- The five bits of h at level l. -/
def chunk (h : Nat) (l : Int) (c : Nat) : Nat := if 0 ≤ l ∧ l < (c + 4) / 5 then h % 2 ^ c / 2 ^ (5 * l.toNat) % 32 else 0
theorem RefLevels_calls (b : Int) (w : World) (hb : I64 b) :
    Calls Try.prog 19 #[.int .i64 b] w (Quiet (.int .i64 (((cl b + 4) / 5 : Nat) : Int)) w) := by
  have kc := fun w => Lib.hid (RefClamp_calls b w hb)
  have hc := cl_le b
  generalize cl b = c at *
  go_enter Try.func19, Try.ntmps19
  go_wp2_with fail
  go_loopw [3] (fun i wr => ∃ k : Nat, i = .int .i64 k ∧ k ≤ (c + 4) / 5 ∧ Drawn w wr) (fun i _ => 100 - (intOf i).toNat)
  case atStart => exact ⟨0, rfl, by omega, Drawn.refl w⟩
  case round =>
    obtain ⟨k, rfl, hk, q, rfl⟩ := hrel
    by_cases hlt : k < (c + 4) / 5
    · have g1 : 5 * (k : Int) < (c : Int) := by omega
      go_wp2_with (go_at_call 22; (with_reducible refine (kc _).out.mono ?_); rintro e w' ⟨rfl, q, rfl⟩)
      go_roundw
      case rel => exact ⟨k + 1, by go_num, by omega, _, rfl⟩
      case measure => simp [intOf]; omega
    · have g1 : ¬ 5 * (k : Int) < (c : Int) := by omega
      go_wp2_with (go_at_call 22; (with_reducible refine (kc _).out.mono ?_); rintro e w' ⟨rfl, q, rfl⟩)
      go_ret
      exact ⟨ret_int (by omega), ⟨_, rfl⟩⟩
end Go.Proofs.Ytmabdnkpmfofaaa.Hash
