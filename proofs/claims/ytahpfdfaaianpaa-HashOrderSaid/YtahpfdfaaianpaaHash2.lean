/- Chunks by the document, and which hash is ahead. -/
import Derived.Test.YtahpfdfaaianpaaHash
namespace Go.Proofs.Ytahpfdfaaianpaa.Hash
open Go.RowKit
set_option linter.unusedVariables false

theorem low_bit (h c i : Nat) (hi : i < c) : h % 2 ^ c / 2 ^ i % 2 = h / 2 ^ i % 2 := by
  have e : 2 ^ c = 2 ^ i * 2 ^ (c - i) := by rw [← Nat.pow_add]; congr 1; omega
  rw [e, Nat.mod_mul_right_div_self]
  have e2 : 2 ^ (c - i) = 2 * 2 ^ (c - i - 1) := by rw [← Nat.pow_succ']; congr 1; omega
  rw [e2, Nat.mod_mul_right_mod]
/-- Behind k rounds: the k low bits of the chunk, the next power. -/
def Part (x k z t : Nat) : Prop := z = x % 2 ^ k ∧ t = 2 ^ k
theorem Part.zero (x : Nat) : Part x 0 0 1 := ⟨by rw [Nat.pow_zero, Nat.mod_one], rfl⟩
theorem Part.succ {x k z t : Nat} (h : Part x k z t) : Part x (k + 1) (z + t * (x / 2 ^ k % 2)) (2 * t) := by
  obtain ⟨rfl, rfl⟩ := h
  exact ⟨by rw [Nat.mod_pow_succ], by rw [Nat.pow_succ, Nat.mul_comm]⟩
theorem Part.fits {x k z t : Nat} (hk : k < 5) (h : Part x k z t) : z ≤ 32 ∧ t ≤ 32 ∧ t * (x / 2 ^ k % 2) ≤ 32 := by
  obtain ⟨rfl, rfl⟩ := h
  have h1 : 2 ^ k ≤ 32 := Nat.le_trans (Nat.pow_le_pow_right (by decide) (show k ≤ 5 by omega)) (by decide)
  have h2 : x % 2 ^ k < 2 ^ k := Nat.mod_lt _ (Nat.two_pow_pos k)
  have h4 : x / 2 ^ k % 2 = 0 ∨ x / 2 ^ k % 2 = 1 := by omega
  generalize 2 ^ k = p at *
  rcases h4 with h4 | h4 <;> rw [h4] <;> simp <;> omega
theorem Part.le {x k z t : Nat} (hk : k ≤ 5) (h : Part x k z t) : z ≤ 32 := by
  obtain ⟨rfl, rfl⟩ := h
  have h1 : 2 ^ k ≤ 32 := Nat.le_trans (Nat.pow_le_pow_right (by decide) hk) (by decide)
  have h2 : x % 2 ^ k < 2 ^ k := Nat.mod_lt _ (Nat.two_pow_pos k)
  omega
theorem Part.done {x k z t c l : Nat} (h : Part x k z t) (hx : x < 2 ^ (c - 5 * l)) (hk : k ≤ 5) (hd : k = 5 ∨ 5 * l + k = c) : z = x % 32 := by
  obtain ⟨rfl, rfl⟩ := h
  rcases hd with rfl | hd
  · rfl
  · have e : c - 5 * l = k := by omega
    rw [e] at hx
    rw [Nat.mod_eq_of_lt hx, Nat.mod_eq_of_lt]
    exact Nat.lt_of_lt_of_le hx (Nat.le_trans (Nat.pow_le_pow_right (by decide) hk) (by decide))
theorem high_lt (h c l : Nat) (hl : 5 * l ≤ c) : h % 2 ^ c / 2 ^ (5 * l) < 2 ^ (c - 5 * l) := by
  rw [Nat.div_lt_iff_lt_mul (Nat.two_pow_pos _), ← Nat.pow_add]
  have e : c - 5 * l + 5 * l = c := by omega
  rw [e]
  exact Nat.mod_lt _ (Nat.two_pow_pos c)
theorem high_bit (h c l k : Nat) (hk : 5 * l + k < c) : h % 2 ^ c / 2 ^ (5 * l) / 2 ^ k % 2 = h / 2 ^ (5 * l + k) % 2 := by
  rw [Nat.div_div_eq_div_mul, ← Nat.pow_add, low_bit h c _ hk]

set_option maxHeartbeats 800000 in
theorem RefChunk_calls (h : Nat) (l b : Int) (w : World) (hh : h < 18446744073709551616) (hl : I64 l) (hb : I64 b) :
    Calls Try.prog 13 #[.int .u64 h, .int .i64 l, .int .i64 b] w (Quiet (.int .i64 (chunk h l (cl b))) w) := by
  have k1 := fun w => Lib.hid (RefLevels_calls b w hb)
  have k2 := fun w => Lib.hid (RefClamp_calls b w hb)
  have hc := cl_le b
  unfold I64 at hl
  generalize cl b = c at *
  have e : chunk h l c = if 0 ≤ l ∧ l < (c + 4) / 5 then h % 2 ^ c / 2 ^ (5 * l.toNat) % 32 else 0 := rfl
  by_cases h1 : l < 0
  · rw [if_neg (by omega)] at e
    rw [e]; clear e
    go_enter Try.func13, Try.ntmps13
    go_wp2_with fail
    go_ret
    exact ⟨rfl, Drawn.refl _⟩
  by_cases h2 : l ≥ (((c + 4) / 5 : Nat) : Int)
  · rw [if_neg (by omega)] at e
    rw [e]; clear e
    have h3 : ((c : Int) + 4) / 5 ≤ l := by omega
    go_enter Try.func13, Try.ntmps13
    go_wp2_with (go_at_call 10; (with_reducible refine (k1 _).out.mono ?_); rintro e w' ⟨rfl, q, rfl⟩)
    go_ret
    exact ⟨rfl, ⟨_, rfl⟩⟩
  · rw [if_pos (by omega)] at e
    obtain ⟨n, rfl⟩ := Int.eq_ofNat_of_zero_le (show 0 ≤ l by omega)
    rw [Int.toNat_natCast] at e
    rw [e]
    clear e
    have h3 : (n : Int) < ((c : Int) + 4) / 5 := by omega
    have h4 : 5 * n ≤ c := by omega
    have hx := high_lt h c n h4
    have hy := high_bit h c n
    have h5 : n ≤ 13 := by omega
    generalize h % 2 ^ c / 2 ^ (5 * n) = x at *
    have HX := Lib.hid hx
    have HY := Lib.hid hy
    clear hx hy
    have kb := fun (i : Nat) (hi : i ≤ 100) w => Lib.hid (bit_calls h i w hh hi)
    go_enter Try.func13, Try.ntmps13
    go_wp2_with (go_at_call 10; (with_reducible refine (k1 _).out.mono ?_); rintro e w' ⟨rfl, q, rfl⟩)
    go_loopw [7, 8, 9] (fun o u i wr => ∃ k m z t : Nat, i = .int .i64 (m : Int) ∧ o = .int .i64 (z : Int) ∧ u = .int .i64 (t : Int) ∧ k ≤ 5 ∧ m ≤ c ∧ m ≤ 70 ∧ z ≤ 32 ∧ t ≤ 64 ∧ Hid (m = 5 * n + k ∧ Part x k z t) ∧ Drawn w wr) (fun _ _ i _ => 100 - (intOf i).toNat)
    case atStart => exact ⟨0, 5 * n, 0, 1, by go_num, rfl, rfl, by omega, by omega, by omega, by omega, by omega, hide ⟨rfl, Part.zero x⟩, _, rfl⟩
    case round =>
      obtain ⟨k, m, z, t, rfl, rfl, rfl, hk, hm, hm2, hz, ht, HP, q, rfl⟩ := hrel
      by_cases hlt : k < 5
      · have g1 : (m : Int) < 5 * (n : Int) + 5 := by have := HP.out.1; omega
        by_cases hlc : m < c
        · have g2 : (m : Int) < (c : Int) := by omega
          have hf := HP.out.2.fits hlt
          have hs := HP.out.2.succ
          have hbit : x / 2 ^ k % 2 = h / 2 ^ m % 2 := by have := HY.out k (by have := HP.out.1; omega); rw [HP.out.1]; exact this
          rw [hbit] at hf hs
          have kbm := kb m (by omega)
          clear hbit
          have hb2 : h / 2 ^ m % 2 ≤ 1 := by omega
          generalize h / 2 ^ m % 2 = y at *
          obtain ⟨f1, f2, f3⟩ := hf
          have HS := Lib.hid hs
          clear hs
          go_wp2_with (first | (go_at_call 17; (with_reducible refine (k2 _).out.mono ?_); rintro e w' ⟨rfl, q, rfl⟩) | (go_at_call 19; (with_reducible refine (kbm _).out.mono ?_); rintro e w' ⟨rfl, q, rfl⟩))
          go_roundw
          case rel => exact ⟨k + 1, m + 1, z + t * y, 2 * t, by go_num, int_eq (by norm_cast), int_eq (by norm_cast), by omega, by omega, by omega, HS.out.le (by omega), by omega, hide ⟨by have := HP.out.1; omega, HS.out⟩, _, rfl⟩
          case measure => simp [intOf]; omega
        · have g2 : ¬ (m : Int) < (c : Int) := by omega
          have HD := Lib.hid (HP.out.2.done (c := c) (l := n) HX.out hk (Or.inr (by have := HP.out.1; omega)))
          go_wp2_with (go_at_call 17; (with_reducible refine (k2 _).out.mono ?_); rintro e w' ⟨rfl, q, rfl⟩)
          go_ret
          exact ⟨ret_int (congrArg (fun n : Nat => (n : Int)) HD.out), ⟨_, rfl⟩⟩
      · have g1 : ¬ (m : Int) < 5 * (n : Int) + 5 := by have := HP.out.1; omega
        have HD := Lib.hid (HP.out.2.done (c := c) (l := n) HX.out hk (Or.inl (by omega)))
        go_wp2_with fail
        go_ret
        exact ⟨ret_int (congrArg (fun n : Nat => (n : Int)) HD.out), ⟨_, rfl⟩⟩
/-- From level l on, n levels: is a ahead of b? -/
def befF (a b c : Nat) : Nat → Nat → Bool
  | _, 0 => false
  | l, n + 1 => if chunk a l c = chunk b l c then befF a b c (l + 1) n else decide (chunk a l c < chunk b l c)
def bef (a b c : Nat) : Bool := befF a b c 0 ((c + 4) / 5)
theorem chunk_lt (h : Nat) (l : Int) (c : Nat) : chunk h l c < 32 := by
  unfold chunk; split
  · exact Nat.mod_lt _ (by decide)
  · decide
set_option maxHeartbeats 800000 in
theorem Before_calls (x y : Nat) (b : Int) (w : World) (hx : x < 18446744073709551616) (hy : y < 18446744073709551616) (hb : I64 b) :
    Calls Try.prog 14 #[.int .u64 x, .int .u64 y, .int .i64 b] w (Quiet (.bool (bef x y (cl b))) w) := by
  have k1 := fun w => Lib.hid (Levels_calls b w hb)
  have k2 := fun (l : Int) (hl : I64 l) w => Lib.hid (Chunk_calls x l b w hx hl hb)
  have k3 := fun (l : Int) (hl : I64 l) w => Lib.hid (Chunk_calls y l b w hy hl hb)
  have hc := cl_le b
  generalize cl b = c at *
  go_enter Try.func14, Try.ntmps14
  have hL : (c + 4) / 5 ≤ 13 := by omega
  unfold bef
  generalize (c + 4) / 5 = L at *
  go_wp2_with (go_at_call 9; (with_reducible refine (k1 _).out.mono ?_); rintro e w' ⟨rfl, q, rfl⟩)
  go_loopw [12] (fun i wr => ∃ k n : Nat, i = .int .i64 (k : Int) ∧ k ≤ L ∧ Hid (k + n = L ∧ befF x y c 0 L = befF x y c k n) ∧ Drawn w wr) (fun i _ => 100 - (intOf i).toNat)
  case atStart => exact ⟨0, L, rfl, by omega, hide ⟨by omega, rfl⟩, _, rfl⟩
  case round =>
    obtain ⟨k, n, rfl, hk, HB, q, rfl⟩ := hrel
    by_cases hlt : k < L
    · have g1 : (k : Int) < (L : Int) := by omega
      have c1 := k2 k (by unfold I64; omega)
      have c2 := k3 k (by unfold I64; omega)
      have e1 : befF x y c k n = if chunk x k c = chunk y k c then befF x y c (k + 1) (n - 1) else decide (chunk x k c < chunk y k c) := by
        obtain ⟨m, rfl⟩ : ∃ m, n = m + 1 := ⟨n - 1, by have := HB.out.1; omega⟩
        rfl
      by_cases he : chunk x k c = chunk y k c
      · rw [if_pos he] at e1
        have HB2 : Hid (k + 1 + (n - 1) = L ∧ befF x y c 0 L = befF x y c (k + 1) (n - 1)) := hide ⟨by have := HB.out.1; omega, by rw [← e1]; exact HB.out.2⟩
        rw [he] at c1
        clear e1 he
        generalize chunk y k c = v at *
        go_wp2_with (go_at_call 12; (first | with_reducible refine (c1 _).out.mono ?_ | with_reducible refine (c2 _).out.mono ?_); rintro e w' ⟨rfl, q, rfl⟩)
        go_roundw
        case rel => exact ⟨k + 1, n - 1, by go_num, by omega, HB2, _, rfl⟩
        case measure => simp [intOf]; omega
      · rw [if_neg he] at e1
        have HB2 : Hid (befF x y c 0 L = decide (chunk x k c < chunk y k c)) := hide (by rw [← e1]; exact HB.out.2)
        clear e1
        generalize chunk y k c = v at *
        generalize chunk x k c = u at *
        have e2 : ((u : Int) == (v : Int)) = false := by simp; omega
        have e3 : ((u : Int) != (v : Int)) = true := by simp; omega
        clear he
        go_wp2_with (go_at_call 12; (first | with_reducible refine (c1 _).out.mono ?_ | with_reducible refine (c2 _).out.mono ?_); rintro e w' ⟨rfl, q, rfl⟩)
        go_ret
        exact ⟨ret_bool (by rw [HB2.out]), ⟨_, rfl⟩⟩
    · have g1 : ¬ (k : Int) < (L : Int) := by omega
      have HB2 : Hid (befF x y c 0 L = false) := hide (by
        rw [HB.out.2]
        have : n = 0 := by have := HB.out.1; omega
        subst this
        rfl)
      go_wp2_with fail
      go_ret
      exact ⟨ret_bool (by rw [HB2.out]), ⟨_, rfl⟩⟩
set_option maxHeartbeats 800000 in
theorem RefBefore_calls (x y : Nat) (b : Int) (w : World) (hx : x < 18446744073709551616) (hy : y < 18446744073709551616) (hb : I64 b) :
    Calls Try.prog 15 #[.int .u64 x, .int .u64 y, .int .i64 b] w (Quiet (.bool (bef x y (cl b))) w) := by
  have k1 := fun w => Lib.hid (RefLevels_calls b w hb)
  have k2 := fun (l : Int) (hl : I64 l) w => Lib.hid (RefChunk_calls x l b w hx hl hb)
  have k3 := fun (l : Int) (hl : I64 l) w => Lib.hid (RefChunk_calls y l b w hy hl hb)
  have hc := cl_le b
  generalize cl b = c at *
  go_enter Try.func15, Try.ntmps15
  have hL : (c + 4) / 5 ≤ 13 := by omega
  unfold bef
  generalize (c + 4) / 5 = L at *
  go_wp2_with fail
  go_loopw [7] (fun i wr => ∃ k n : Nat, i = .int .i64 (k : Int) ∧ k ≤ L ∧ Hid (k + n = L ∧ befF x y c 0 L = befF x y c k n) ∧ Drawn w wr) (fun i _ => 100 - (intOf i).toNat)
  case atStart => exact ⟨0, L, rfl, by omega, hide ⟨by omega, rfl⟩, Drawn.refl _⟩
  case round =>
    obtain ⟨k, n, rfl, hk, HB, q, rfl⟩ := hrel
    by_cases hlt : k < L
    · have g1 : (k : Int) < (L : Int) := by omega
      have c1 := k2 k (by unfold I64; omega)
      have c2 := k3 k (by unfold I64; omega)
      have e1 : befF x y c k n = if chunk x k c = chunk y k c then befF x y c (k + 1) (n - 1) else decide (chunk x k c < chunk y k c) := by
        obtain ⟨m, rfl⟩ : ∃ m, n = m + 1 := ⟨n - 1, by have := HB.out.1; omega⟩
        rfl
      by_cases he : chunk x k c = chunk y k c
      · rw [if_pos he] at e1
        have HB2 : Hid (k + 1 + (n - 1) = L ∧ befF x y c 0 L = befF x y c (k + 1) (n - 1)) := hide ⟨by have := HB.out.1; omega, by rw [← e1]; exact HB.out.2⟩
        rw [he] at c1
        clear e1 he
        generalize chunk y k c = v at *
        go_wp2_with (first | (go_at_call 10; (with_reducible refine (k1 _).out.mono ?_); rintro e w' ⟨rfl, q, rfl⟩) | (go_at_call 13; (first | with_reducible refine (c1 _).out.mono ?_ | with_reducible refine (c2 _).out.mono ?_); rintro e w' ⟨rfl, q, rfl⟩))
        go_roundw
        case rel => exact ⟨k + 1, n - 1, by go_num, by omega, HB2, _, rfl⟩
        case measure => simp [intOf]; omega
      · rw [if_neg he] at e1
        have HB2 : Hid (befF x y c 0 L = decide (chunk x k c < chunk y k c)) := hide (by rw [← e1]; exact HB.out.2)
        clear e1
        generalize chunk y k c = v at *
        generalize chunk x k c = u at *
        have e2 : ((u : Int) == (v : Int)) = false := by simp; omega
        have e3 : ((u : Int) != (v : Int)) = true := by simp; omega
        clear he
        go_wp2_with (first | (go_at_call 10; (with_reducible refine (k1 _).out.mono ?_); rintro e w' ⟨rfl, q, rfl⟩) | (go_at_call 13; (first | with_reducible refine (c1 _).out.mono ?_ | with_reducible refine (c2 _).out.mono ?_); rintro e w' ⟨rfl, q, rfl⟩))
        go_ret
        exact ⟨ret_bool (by rw [HB2.out]), ⟨_, rfl⟩⟩
    · have g1 : ¬ (k : Int) < (L : Int) := by omega
      have HB2 : Hid (befF x y c 0 L = false) := hide (by
        rw [HB.out.2]
        have : n = 0 := by have := HB.out.1; omega
        subst this
        rfl)
      go_wp2_with (go_at_call 10; (with_reducible refine (k1 _).out.mono ?_); rintro e w' ⟨rfl, q, rfl⟩)
      go_ret
      exact ⟨ret_bool (by rw [HB2.out]), ⟨_, rfl⟩⟩
end Go.Proofs.Ytahpfdfaaianpaa.Hash
