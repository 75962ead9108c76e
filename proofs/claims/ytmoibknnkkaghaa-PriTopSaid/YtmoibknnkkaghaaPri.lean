/- Contracts of the priorities. -/
import Derived.Test.YtmoibknnkkaghaaOrd
import Derived.Test.YtmoibknnkkaghaaHash
namespace Go.Proofs.Ytmoibknnkkaghaa.Pri
open Go.RowKit
open Go.Proofs.Ytmoibknnkkaghaa.Hash (fnv fnv_lt I64 cl)
open Go.Proofs.Ytmoibknnkkaghaa.Ord (cmp less)
set_option linter.unusedVariables false

/-- x and x shifted down, mixed and multiplied. -/
def mixed (x d M : Nat) : Nat := (x ^^^ d) * M % 18446744073709551616
theorem mixed_lt (x d M : Nat) : mixed x d M < 18446744073709551616 := by unfold mixed; exact Nat.mod_lt _ (Nat.zero_lt_succ _)
theorem mixed_eq (x d M : Nat) (hx : x < 18446744073709551616) (hd : d < 18446744073709551616) : IntKind.u64.wrap (bits .xor .u64 (x : Int) (d : Int) * (M : Int)) = ((mixed x d M : Nat) : Int) := by
  rw [u64_xor_nat _ _ hx hd]
  unfold mixed
  generalize (x ^^^ d) = y
  have e : ((y : Int) * (M : Int)) = ((y * M : Nat) : Int) := by norm_cast
  rw [e]
  generalize y * M = z
  simp only [IntKind.wrap, IntKind.bits, IntKind.signed]
  simp
/-- The three turns of a priority; the multipliers are handed in. -/
def turns (h A B : Nat) : Nat :=
  mixed (mixed h (h / 1073741824) A) (mixed h (h / 1073741824) A / 134217728) B ^^^ mixed (mixed h (h / 1073741824) A) (mixed h (h / 1073741824) A / 134217728) B / 2147483648
theorem turns_lt (h A B : Nat) : turns h A B < 18446744073709551616 := by
  unfold turns
  have h1 := mixed_lt (mixed h (h / 1073741824) A) (mixed h (h / 1073741824) A / 134217728) B
  generalize mixed (mixed h (h / 1073741824) A) (mixed h (h / 1073741824) A / 134217728) B = x at *
  exact Nat.xor_lt_two_pow (n := 64) h1 (Nat.lt_of_le_of_lt (Nat.div_le_self _ _) h1)
theorem turns_parts (h A B : Nat) (hh : h < 18446744073709551616) : ∃ x y : Nat, x < 18446744073709551616 ∧ y < 18446744073709551616 ∧
    IntKind.u64.wrap (bits .xor .u64 (h : Int) ((h : Int) / 1073741824) * (A : Int)) = (x : Int) ∧
    IntKind.u64.wrap (bits .xor .u64 (x : Int) ((x : Int) / 134217728) * (B : Int)) = (y : Int) ∧
    bits .xor .u64 (y : Int) ((y : Int) / 2147483648) = ((turns h A B : Nat) : Int) := by
  refine ⟨mixed h (h / 1073741824) A, mixed (mixed h (h / 1073741824) A) (mixed h (h / 1073741824) A / 134217728) B, mixed_lt _ _ _, mixed_lt _ _ _, ?_, ?_, ?_⟩
  · have := mixed_eq h (h / 1073741824) A hh (by omega)
    rwa [show ((h / 1073741824 : Nat) : Int) = (h : Int) / 1073741824 by omega] at this
  · have hx := mixed_lt h (h / 1073741824) A
    generalize mixed h (h / 1073741824) A = x at *
    have := mixed_eq x (x / 134217728) B hx (by omega)
    rwa [show ((x / 134217728 : Nat) : Int) = (x : Int) / 134217728 by omega] at this
  · unfold turns
    have hx := mixed_lt (mixed h (h / 1073741824) A) (mixed h (h / 1073741824) A / 134217728) B
    generalize mixed (mixed h (h / 1073741824) A) (mixed h (h / 1073741824) A / 134217728) B = y at *
    have := u64_xor_nat y (y / 2147483648) hx (by omega)
    rwa [show ((y / 2147483648 : Nat) : Int) = (y : Int) / 2147483648 by omega] at this
def A : Nat := 13787848793156543929
def B : Nat := 10723151780598845931
def prio (h : Nat) : Nat := turns h A B
theorem prio_lt (h : Nat) : prio h < 18446744073709551616 := turns_lt h A B
theorem prio_parts (h : Nat) (hh : h < 18446744073709551616) : ∃ x y : Nat, x < 18446744073709551616 ∧ y < 18446744073709551616 ∧
    IntKind.u64.wrap (bits .xor .u64 (h : Int) ((h : Int) / 1073741824) * 13787848793156543929) = (x : Int) ∧
    IntKind.u64.wrap (bits .xor .u64 (x : Int) ((x : Int) / 134217728) * 10723151780598845931) = (y : Int) ∧
    bits .xor .u64 (y : Int) ((y : Int) / 2147483648) = ((prio h : Nat) : Int) := turns_parts h A B hh

set_option maxHeartbeats 400000 in
theorem Of_calls (s : ByteArray) (w : World) (hs : s.size ≤ 100000) :
    Calls Try.prog 7 #[.string s] w (Quiet (.int .u64 ((prio (fnv s.data.toList) : Nat) : Int)) w) := by
  have k1 := fun w => Lib.hid (Hash.Of_calls s 64 w hs (by unfold I64; omega))
  have hf := fnv_lt s.data.toList
  have e : fnv s.data.toList % 2 ^ cl 64 = fnv s.data.toList := Nat.mod_eq_of_lt hf
  rw [e] at k1
  clear e
  obtain ⟨x, y, hx, hy, e1, e2, e3⟩ := prio_parts (fnv s.data.toList) hf
  generalize prio (fnv s.data.toList) = p at *
  generalize fnv s.data.toList = h at *
  go_enter Try.func7, Try.ntmps7
  go_wp2_with (go_at_call 15; (with_reducible refine (k1 _).out.mono ?_); rintro e w' ⟨rfl, q, rfl⟩)
  go_ret
  exact ⟨rfl, ⟨_, rfl⟩⟩

theorem down_calls (h n : Nat) (w : World) (hh : h < 18446744073709551616) (hn : n ≤ 100) :
    Calls Try.prog 17 #[.int .u64 h, .int .i64 n] w (Quiet (.int .u64 ((h / 2 ^ n : Nat) : Int)) w) := by
  go_enter Try.func17, Try.ntmps17
  go_wp2_with fail
  go_loop [0, 5] (fun x j => ∃ k : Nat, j = .int .i64 k ∧ k ≤ n ∧ ∃ y : Nat, y ≤ h ∧ x = .int .u64 (y : Int) ∧ Hid (y = h / 2 ^ k)) (fun _ j => n - (intOf j).toNat)
  case atStart => exact ⟨0, rfl, by omega, h, by omega, rfl, hide (by simp)⟩
  case round =>
    obtain ⟨k, rfl, hk, y, hy, rfl, H⟩ := hrel
    by_cases hlt : k < n
    · have g1 : (k : Int) < (n : Int) := by omega
      go_wp2_with fail
      go_round
      case rel => exact ⟨k + 1, by go_num, by omega, y / 2, by omega, by go_num, hide (by rw [H.out, Nat.pow_succ, Nat.div_div_eq_div_mul])⟩
      case measure => simp [intOf]; omega
    · have e : k = n := by omega
      have H2 : Hid (y = h / 2 ^ n) := by rw [← e]; exact H
      clear H e
      go_wp2_with fail
      go_ret
      exact ⟨ret_int (congrArg (fun n : Nat => (n : Int)) H2.out), Drawn.refl _⟩
theorem down30 (h : Nat) (w : World) (hh : h < 18446744073709551616) : Calls Try.prog 17 #[.int .u64 h, .int .i64 30] w (Quiet (.int .u64 ((h : Int) / 1073741824)) w) := down_calls h 30 w hh (by omega)
theorem down27 (h : Nat) (w : World) (hh : h < 18446744073709551616) : Calls Try.prog 17 #[.int .u64 h, .int .i64 27] w (Quiet (.int .u64 ((h : Int) / 134217728)) w) := down_calls h 27 w hh (by omega)
theorem down31 (h : Nat) (w : World) (hh : h < 18446744073709551616) : Calls Try.prog 17 #[.int .u64 h, .int .i64 31] w (Quiet (.int .u64 ((h : Int) / 2147483648)) w) := down_calls h 31 w hh (by omega)

set_option maxHeartbeats 400000 in
theorem RefOf_calls (s : ByteArray) (w : World) (hs : s.size ≤ 100000) :
    Calls Try.prog 8 #[.string s] w (Quiet (.int .u64 ((prio (fnv s.data.toList) : Nat) : Int)) w) := by
  have k1 := fun w => Lib.hid (Hash.RefOf_calls s 64 w hs (by unfold I64; omega))
  have hf := fnv_lt s.data.toList
  have e : fnv s.data.toList % 2 ^ cl 64 = fnv s.data.toList := Nat.mod_eq_of_lt hf
  rw [e] at k1
  clear e
  obtain ⟨x, y, hx, hy, e1, e2, e3⟩ := prio_parts (fnv s.data.toList) hf
  generalize prio (fnv s.data.toList) = p at *
  generalize fnv s.data.toList = h at *
  have k2 := fun w => Lib.hid (down30 h w hf)
  have k3 := fun w => Lib.hid (down27 x w hx)
  have k4 := fun w => Lib.hid (down31 y w hy)
  go_enter Try.func8, Try.ntmps8
  go_wp2_with (first | (go_at_call 16; (with_reducible refine (k1 _).out.mono ?_); rintro e w' ⟨rfl, q, rfl⟩) | (go_at_call 17; (first | with_reducible refine (k2 _).out.mono ?_ | with_reducible refine (k3 _).out.mono ?_ | with_reducible refine (k4 _).out.mono ?_); rintro e w' ⟨rfl, q, rfl⟩))
  go_ret
  exact ⟨rfl, ⟨_, rfl⟩⟩

/-- Is a above b? -/
def abv (a b : ByteArray) : Bool := decide (prio (fnv a.data.toList) > prio (fnv b.data.toList)) || (decide (prio (fnv a.data.toList) = prio (fnv b.data.toList)) && less a.data.toList b.data.toList)
set_option maxHeartbeats 400000 in
theorem above_calls (p q : Nat) (a b : ByteArray) (w : World) (ha : a.size ≤ maxLen) (hb : b.size ≤ maxLen) (hp : p < 18446744073709551616) (hq : q < 18446744073709551616) :
    Calls Try.prog 18 #[.int .u64 p, .string a, .int .u64 q, .string b] w (Quiet (.bool (decide (p > q) || (decide (p = q) && less a.data.toList b.data.toList))) w) := by
  have k1 := fun w => Lib.hid (Ord.Compare_calls a b w ha hb)
  have e : less a.data.toList b.data.toList = decide (cmp a.data.toList b.data.toList < 0) := by
    unfold less
    rcases Ord.cmp_cases a.data.toList b.data.toList with h | h | h <;> rw [h] <;> rfl
  rw [e]
  clear e
  generalize cmp a.data.toList b.data.toList = c at *
  by_cases h1 : p > q
  · have e1 : decide (p > q) = true := by simpa using h1
    rw [e1]; clear e1
    have g : (q : Int) < (p : Int) := by omega
    go_enter Try.func18, Try.ntmps18
    go_wp2_with fail
    go_ret
    exact ⟨rfl, Drawn.refl _⟩
  by_cases h2 : p = q
  · have e1 : decide (p > q) = false := by simpa using h1
    have e2 : decide (p = q) = true := by simpa using h2
    rw [e1, e2]; clear e1 e2
    subst h2
    go_enter Try.func18, Try.ntmps18
    go_wp2_with (go_at_call 22; (with_reducible refine (k1 _).out.mono ?_); rintro e w' ⟨rfl, q, rfl⟩)
    go_ret
    exact ⟨ret_bool (by simp), ⟨_, rfl⟩⟩
  · have e1 : decide (p > q) = false := by simpa using h1
    have e2 : decide (p = q) = false := by simpa using h2
    rw [e1, e2]; clear e1 e2
    have g : ¬ (q : Int) < (p : Int) := by omega
    have g2 : ((p : Int) == (q : Int)) = false := by simp; omega
    clear h2
    go_enter Try.func18, Try.ntmps18
    go_wp2_with fail
    go_ret
    exact ⟨rfl, Drawn.refl _⟩

set_option maxHeartbeats 400000 in
theorem Above_calls (a b : ByteArray) (w : World) (ha : a.size ≤ 100000) (hb : b.size ≤ 100000) :
    Calls Try.prog 9 #[.string a, .string b] w (Quiet (.bool (abv a b)) w) := by
  have k1 := fun w => Lib.hid (Of_calls a w ha)
  have k2 := fun w => Lib.hid (Of_calls b w hb)
  have ha' : a.size ≤ maxLen := by simp only [maxLen]; omega
  have hb' : b.size ≤ maxLen := by simp only [maxLen]; omega
  have k3 := fun w => Lib.hid (above_calls (prio (fnv a.data.toList)) (prio (fnv b.data.toList)) a b w ha' hb' (prio_lt _) (prio_lt _))
  unfold abv
  generalize prio (fnv a.data.toList) = x at *
  generalize prio (fnv b.data.toList) = y at *
  generalize (decide (x > y) || (decide (x = y) && less a.data.toList b.data.toList)) = z at *
  go_enter Try.func9, Try.ntmps9
  go_wp2_with (first | (go_at_call 7; (first | with_reducible refine (k1 _).out.mono ?_ | with_reducible refine (k2 _).out.mono ?_); rintro e w' ⟨rfl, q, rfl⟩) | (go_at_call 18; (with_reducible refine (k3 _).out.mono ?_); rintro e w' ⟨rfl, q, rfl⟩))
  go_ret
  exact ⟨rfl, ⟨_, rfl⟩⟩

set_option maxHeartbeats 400000 in
theorem RefAbove_calls (a b : ByteArray) (w : World) (ha : a.size ≤ 100000) (hb : b.size ≤ 100000) :
    Calls Try.prog 10 #[.string a, .string b] w (Quiet (.bool (abv a b)) w) := by
  have k1 := fun w => Lib.hid (RefOf_calls a w ha)
  have k2 := fun w => Lib.hid (RefOf_calls b w hb)
  have ha' : a.size ≤ maxLen := by simp only [maxLen]; omega
  have hb' : b.size ≤ maxLen := by simp only [maxLen]; omega
  have k3 := fun w => Lib.hid (Ord.RefLess_calls a b w ha' hb')
  unfold abv
  generalize prio (fnv a.data.toList) = x at *
  generalize prio (fnv b.data.toList) = y at *
  generalize less a.data.toList b.data.toList = z at *
  by_cases hxy : x = y
  · subst hxy
    have e1 : decide (x > x) = false := by simp
    have e2 : decide (x = x) = true := by simp
    rw [e1, e2]; clear e1 e2
    go_enter Try.func10, Try.ntmps10
    go_wp2_with (first | (go_at_call 8; (first | with_reducible refine (k1 _).out.mono ?_ | with_reducible refine (k2 _).out.mono ?_); rintro e w' ⟨rfl, q, rfl⟩) | (go_at_call 19; (with_reducible refine (k3 _).out.mono ?_); rintro e w' ⟨rfl, q, rfl⟩))
    go_ret
    exact ⟨ret_bool (by simp), ⟨_, rfl⟩⟩
  · have e2 : decide (x = y) = false := by simpa using hxy
    rw [e2]; clear e2
    have g2 : ((x : Int) == (y : Int)) = false := by simp; omega
    have g3 : ((x : Int) != (y : Int)) = true := by simp; omega
    clear hxy
    go_enter Try.func10, Try.ntmps10
    go_wp2_with (first | (go_at_call 8; (first | with_reducible refine (k1 _).out.mono ?_ | with_reducible refine (k2 _).out.mono ?_); rintro e w' ⟨rfl, q, rfl⟩) | (go_at_call 19; (with_reducible refine (k3 _).out.mono ?_); rintro e w' ⟨rfl, q, rfl⟩))
    go_ret
    exact ⟨ret_bool (by simp), ⟨_, rfl⟩⟩
end Go.Proofs.Ytmoibknnkkaghaa.Pri
