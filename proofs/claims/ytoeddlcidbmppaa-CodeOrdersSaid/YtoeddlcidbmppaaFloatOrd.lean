/- The order of float64s by their bits. -/
import Derived.Test.YtoeddlcidbmppaaFloat2
namespace Go.Proofs.Ytoeddlcidbmppaa.Fl
open Go.RowKit
open Ieee
set_option linter.unusedVariables false
def rg (a : Nat) : Nat := a % 9223372036854775808
def ng (a : Nat) : Bool := a / 9223372036854775808 % 2 == 1
def mag (r : Nat) : Nat := if r < 4503599627370496 then r else 4503599627370496 + r % 4503599627370496
def exq (r : Nat) : Nat := if r < 4503599627370496 then 0 else r / 4503599627370496 - 1
theorem sw : double.signWeight = 9223372036854775808 := by kernel_rfl
theorem bn : double.binade = 4503599627370496 := by kernel_rfl
theorem inf : double.infRung = 9218868437227405312 := by kernel_rfl
theorem lp : double.leastPlace = -1074 := by kernel_rfl
theorem read_fin (a : Nat) (h : rg a < 9218868437227405312) : double.read a = .number (ng a) (mag (rg a)) (-1074 + (exq (rg a) : Nat)) := by
  unfold Format.read
  simp only [sw, bn, inf, lp]
  change (if rg a < _ then Datum.number (ng a) (rg a) _ else _) = _
  unfold mag exq
  by_cases h1 : rg a < 4503599627370496
  · rw [if_pos h1, if_pos h1, if_pos h1]; rfl
  · rw [if_neg h1, if_neg h1, if_neg h1]
    change (if rg a < _ then _ else _) = _
    rw [if_pos h]
    rfl
theorem read_inf (a : Nat) (h : rg a = 9218868437227405312) : double.read a = .infinity (ng a) := by
  unfold Format.read
  simp only [sw, bn, inf, lp]
  change (if rg a < _ then _ else if rg a < _ then _ else if rg a = _ then Datum.infinity (ng a) else _) = _
  rw [h, if_neg (by omega), if_neg (by omega), if_pos rfl]
theorem read_nan (a : Nat) (h : 9218868437227405312 < rg a) : double.read a = .nan (ng a) (rg a - 9218868437227405312) := by
  unfold Format.read
  simp only [sw, bn, inf, lp]
  change (if rg a < _ then _ else if rg a < _ then _ else if rg a = _ then _ else Datum.nan (ng a) (rg a - _)) = _
  rw [if_neg (by omega), if_neg (by omega), if_neg (by omega)]
theorem mag_exq (r : Nat) : r = mag r + exq r * 4503599627370496 ∧ mag r < 9007199254740992 ∧ (exq r ≠ 0 → 4503599627370496 ≤ mag r) := by
  unfold mag exq
  split <;> omega
/-- the value on a common base -/
def vl (r m : Nat) : Nat := mag r <<< (exq r - m)
theorem vl_lt {r s : Nat} (h : r < s) : vl r (min (exq r) (exq s)) < vl s (min (exq r) (exq s)) := by
  obtain ⟨a1, a2, a3⟩ := mag_exq r
  obtain ⟨b1, b2, b3⟩ := mag_exq s
  unfold vl
  generalize mag r = M at *
  generalize mag s = L at *
  generalize exq r = E at *
  generalize exq s = F at *
  have hEF : E ≤ F := by omega
  rw [Nat.min_eq_left hEF, Nat.sub_self, Nat.shiftLeft_zero, Nat.shiftLeft_eq]
  by_cases he : E = F
  · subst he
    rw [Nat.sub_self, Nat.pow_zero]; omega
  · obtain ⟨k, hk⟩ : ∃ k, F - E = k + 1 := ⟨F - E - 1, by omega⟩
    rw [hk, Nat.pow_succ]
    have h1 : 1 ≤ 2 ^ k := Nat.one_le_two_pow
    have h2 : L * 1 ≤ L * 2 ^ k := Nat.mul_le_mul_left L h1
    rw [← Nat.mul_assoc]
    have := b3 (by omega)
    omega
theorem vl_cmp (r s : Nat) : (vl r (min (exq r) (exq s)) < vl s (min (exq r) (exq s)) ↔ r < s) ∧ (vl s (min (exq r) (exq s)) < vl r (min (exq r) (exq s)) ↔ s < r) := by
  rcases Nat.lt_trichotomy r s with h | h | h
  · have := vl_lt h; omega
  · subst h; simp
  · have := vl_lt h
    rw [Nat.min_comm] at this
    omega
def key (a : Nat) : Int := if ng a then -(rg a : Int) else rg a
theorem vl_zero (r m : Nat) : vl r m = 0 ↔ r = 0 := by
  obtain ⟨a1, a2, a3⟩ := mag_exq r
  unfold vl
  rw [Nat.shiftLeft_eq, Nat.mul_eq_zero]
  have : 2 ^ (exq r - m) ≠ 0 := by exact Nat.ne_of_gt (Nat.two_pow_pos _)
  constructor
  · rintro (h | h)
    · by_cases he : exq r = 0
      · rw [he] at a1; omega
      · have := a3 he; omega
    · exact absurd h this
  · intro h; left; omega
theorem cmp_of {x y u v : Int} (h1 : x < y ↔ u < v) (h2 : x = y ↔ u = v) : compare x y = compare u v := by
  change compareOfLessAndEq x y = compareOfLessAndEq u v
  unfold compareOfLessAndEq
  simp only [h1, h2]
theorem cmp_is_lt {x y : Int} (h : x < y) : some (compare x y) = some Ordering.lt := by
  change some (compareOfLessAndEq x y) = _
  unfold compareOfLessAndEq
  rw [if_pos h]
theorem cmp_is_gt {x y : Int} (h : y < x) : some (compare x y) = some Ordering.gt := by
  change some (compareOfLessAndEq x y) = _
  unfold compareOfLessAndEq
  rw [if_neg (by omega), if_neg (by omega)]
theorem order_num (a b : Nat) (ha : rg a < 9218868437227405312) (hb : rg b < 9218868437227405312) :
    double.order a b = some (compare (key a) (key b)) := by
  unfold Format.order
  rw [read_fin a ha, read_fin b hb]
  unfold Datum.order
  have e : min (-1074 + ((exq (rg a) : Nat) : Int)) (-1074 + ((exq (rg b) : Nat) : Int)) = -1074 + ((min (exq (rg a)) (exq (rg b)) : Nat) : Int) := by omega
  simp only [e]
  have e1 : (-1074 + ((exq (rg a) : Nat) : Int) - (-1074 + ((min (exq (rg a)) (exq (rg b)) : Nat) : Int))).toNat = exq (rg a) - min (exq (rg a)) (exq (rg b)) := by omega
  have e2 : (-1074 + ((exq (rg b) : Nat) : Int) - (-1074 + ((min (exq (rg a)) (exq (rg b)) : Nat) : Int))).toNat = exq (rg b) - min (exq (rg a)) (exq (rg b)) := by omega
  rw [e1, e2]
  congr 1
  unfold signed
  change compare (if ng a = true then -((vl (rg a) (min (exq (rg a)) (exq (rg b))) : Nat) : Int) else ((vl (rg a) (min (exq (rg a)) (exq (rg b))) : Nat) : Int)) (if ng b = true then -((vl (rg b) (min (exq (rg a)) (exq (rg b))) : Nat) : Int) else ((vl (rg b) (min (exq (rg a)) (exq (rg b))) : Nat) : Int)) = _
  obtain ⟨c1, c2⟩ := vl_cmp (rg a) (rg b)
  have z1 := vl_zero (rg a) (min (exq (rg a)) (exq (rg b)))
  have z2 := vl_zero (rg b) (min (exq (rg a)) (exq (rg b)))
  unfold key
  generalize vl (rg a) (min (exq (rg a)) (exq (rg b))) = X at *
  generalize vl (rg b) (min (exq (rg a)) (exq (rg b))) = Y at *
  generalize rg a = r at *
  generalize rg b = s at *
  clear e e1 e2
  cases ng a <;> cases ng b <;> exact cmp_of (by simp; omega) (by simp; omega)
theorem order_key (a b : Nat) (ha : rg a ≤ 9218868437227405312) (hb : rg b ≤ 9218868437227405312) :
    double.order a b = some (compare (key a) (key b)) := by
  by_cases h1 : rg a = 9218868437227405312
  · by_cases h2 : rg b = 9218868437227405312
    · unfold Format.order key
      rw [read_inf a h1, read_inf b h2, h1, h2]
      cases ng a <;> cases ng b <;> rfl
    · unfold Format.order
      rw [read_inf a h1, read_fin b (by omega)]
      show some (if ng a = true then Ordering.lt else Ordering.gt) = _
      unfold key
      rw [h1]
      cases ng a
      · exact (cmp_is_gt (by simp only [Bool.false_eq_true, if_false]; split <;> omega)).symm
      · exact (cmp_is_lt (by simp only [if_true]; split <;> omega)).symm
  · by_cases h2 : rg b = 9218868437227405312
    · unfold Format.order
      rw [read_fin a (by omega), read_inf b h2]
      show some (if ng b = true then Ordering.gt else Ordering.lt) = _
      unfold key
      rw [h2]
      cases ng b
      · exact (cmp_is_lt (by simp only [Bool.false_eq_true, if_false]; split <;> omega)).symm
      · exact (cmp_is_gt (by simp only [if_true]; split <;> omega)).symm
    · exact order_num a b (by omega) (by omega)
theorem order_nan (a : Nat) (ha : 9218868437227405312 < rg a) : double.order a a = none := by
  unfold Format.order
  rw [read_nan a ha]
  rfl
theorem isnan_eq (a : Nat) : isnan a = decide (9218868437227405312 < rg a) := by
  unfold isnan
  change (double.order a a != some .eq) = _
  by_cases h : 9218868437227405312 < rg a
  · rw [order_nan a h, decide_eq_true h]; rfl
  · rw [order_key a a (by omega) (by omega), decide_eq_false h]
    have : compare (key a) (key a) = .eq := by
      change compareOfLessAndEq _ _ = _
      unfold compareOfLessAndEq
      rw [if_neg (by omega), if_pos rfl]
    rw [this]; rfl
theorem cmp_lt (x y : Int) : (some (compare x y) == some Ordering.lt) = decide (x < y) := by
  change (some (compareOfLessAndEq x y) == some Ordering.lt) = _
  unfold compareOfLessAndEq
  by_cases h : x < y
  · rw [if_pos h, decide_eq_true h]; rfl
  · rw [if_neg h, decide_eq_false h]; split <;> rfl
theorem cmp_eq (x y : Int) : (some (compare x y) == some Ordering.eq) = decide (x = y) := by
  change (some (compareOfLessAndEq x y) == some Ordering.eq) = _
  unfold compareOfLessAndEq
  by_cases h : x < y
  · rw [if_pos h, decide_eq_false (by omega)]; rfl
  · rw [if_neg h]
    by_cases h' : x = y
    · rw [if_pos h', decide_eq_true h']; rfl
    · rw [if_neg h', decide_eq_false h']; rfl
theorem lt_rk (a b : Nat) (ha : a < 18446744073709551616) (hb : b < 18446744073709551616) : lt a b = decide (rk a < rk b) := by
  unfold lt rk
  rw [isnan_eq a, isnan_eq b]
  by_cases h1 : 9218868437227405312 < rg a
  · by_cases h2 : 9218868437227405312 < rg b
    · simp [h1, h2]
    · simp only [decide_eq_true h1, decide_eq_false h2]
      simp
      unfold low rg at *
      by_cases hl : 9223372036854775808 ≤ b
      · simp [hl]; omega
      · simp [hl]; omega
  · by_cases h2 : 9218868437227405312 < rg b
    · simp only [decide_eq_false h1, decide_eq_true h2]
      simp
      unfold low rg at *
      by_cases hl : 9223372036854775808 ≤ a
      · simp [hl]; omega
      · simp [hl]; omega
    · simp only [decide_eq_false h1, decide_eq_false h2]
      change (if _ then (_ : Bool) else if (double.order a 0 == some Ordering.eq && double.order b 0 == some Ordering.eq) = true then (_ : Bool) else (double.order a b == some Ordering.lt)) = _
      rw [order_key a 0 (by omega) (by decide), order_key b 0 (by omega) (by decide), order_key a b (by omega) (by omega), cmp_eq, cmp_eq, cmp_lt]
      have k0 : key 0 = 0 := by decide
      rw [k0]
      have na : ng a = low a := by
        unfold ng low
        by_cases hl : 9223372036854775808 ≤ a
        · rw [decide_eq_true hl, beq_iff_eq]; omega
        · rw [decide_eq_false hl, beq_eq_false_iff_ne]; omega
      have nb : ng b = low b := by
        unfold ng low
        by_cases hl : 9223372036854775808 ≤ b
        · rw [decide_eq_true hl, beq_iff_eq]; omega
        · rw [decide_eq_false hl, beq_eq_false_iff_ne]; omega
      unfold key
      rw [na, nb]
      unfold low rg at *
      by_cases hl : 9223372036854775808 ≤ a <;> by_cases hm : 9223372036854775808 ≤ b
      all_goals
        simp only [decide_eq_true, hl, hm]
        simp
      all_goals (rw [Bool.eq_iff_iff]; simp only [Bool.and_eq_true, Bool.or_eq_true, Bool.not_eq_true', decide_eq_true_eq, decide_eq_false_iff_not]; omega)
theorem same_rk (a b : Nat) (ha : a < 18446744073709551616) (hb : b < 18446744073709551616) : (!lt a b && !lt b a) = (rk a == rk b) := by
  rw [lt_rk a b ha hb, lt_rk b a hb ha, Bool.eq_iff_iff]
  simp only [Bool.and_eq_true, Bool.not_eq_true', decide_eq_false_iff_not, beq_iff_eq]
  omega
end Go.Proofs.Ytoeddlcidbmppaa.Fl
