/- Contracts of the references: the program's and the document's answers. -/
import Derived.Test.YtjkpjjmahfoldaaLib
namespace Go.Proofs.Ytjkpjjmahfoldaa.Refs
open Go.RowKit
set_option linter.unusedVariables false

def old (r : Int) : Bool := decide (0 < r ∧ 1 ≤ r % 1024 ∧ r % 1024 ≤ 1000 ∧ 1 ≤ r / 1024 ∧ r / 1024 ≤ 4503599627370496)
def kind (r : Int) : Int := if r = 0 then 0 else if r < 0 then 2 else if old r then 1 else 3
def slot (r : Int) : Int := if old r then r % 1024 else 0
def inc (r : Int) : Int := if old r then r / 1024 else 0
def makeErr (s i : Int) : Int := if s < 1 ∨ s > 1000 then 2 else if i < 1 ∨ i > 4503599627370496 then 8 else 0
def makeRef (s i : Int) : Int := if makeErr s i = 0 then 1024 * i + s else 0
def new (i : Int) : Int := if i < 0 then 0 else -i - 1
def which (r : Int) : Int := if r < 0 then -(r + 1) else 0

theorem Make_calls (s i : Int) (w : World) (hs : -9223372036854775808 ≤ s ∧ s ≤ 9223372036854775807) (hi : -9223372036854775808 ≤ i ∧ i ≤ 9223372036854775807) :
    Calls Try.prog 6 #[.int .i64 s, .int .i64 i] w (Quiet (.tuple #[.int .i64 (makeRef s i), .int .i64 (makeErr s i)]) w) := by
  by_cases h1 : s < 1
  · have e : makeErr s i = 2 := by unfold makeErr; rw [if_pos (Or.inl h1)]
    have f : makeRef s i = 0 := by unfold makeRef; rw [e]; rfl
    rw [e, f]
    go_enter Try.func6, Try.ntmps6
    go_wp2
    go_ret2
    exact ⟨rfl, Drawn.refl _⟩
  by_cases h2 : s > 1000
  · have e : makeErr s i = 2 := by unfold makeErr; rw [if_pos (Or.inr h2)]
    have f : makeRef s i = 0 := by unfold makeRef; rw [e]; rfl
    rw [e, f]
    go_enter Try.func6, Try.ntmps6
    go_wp2
    go_ret2
    exact ⟨rfl, Drawn.refl _⟩
  by_cases h3 : i < 1
  · have e : makeErr s i = 8 := by unfold makeErr; rw [if_neg (by omega), if_pos (by omega)]
    have f : makeRef s i = 0 := by unfold makeRef; rw [e]; rfl
    rw [e, f]
    go_enter Try.func6, Try.ntmps6
    go_wp2
    go_ret2
    exact ⟨rfl, Drawn.refl _⟩
  by_cases h4 : i > 4503599627370496
  · have e : makeErr s i = 8 := by unfold makeErr; rw [if_neg (by omega), if_pos (by omega)]
    have f : makeRef s i = 0 := by unfold makeRef; rw [e]; rfl
    rw [e, f]
    go_enter Try.func6, Try.ntmps6
    go_wp2
    go_ret2
    exact ⟨rfl, Drawn.refl _⟩
  · have e : makeErr s i = 0 := by unfold makeErr; rw [if_neg (by omega), if_neg (by omega)]
    have f : makeRef s i = 1024 * i + s := by unfold makeRef; rw [e]; rfl
    rw [e, f]
    clear e f
    have g1 : 1 ≤ s := by omega
    have g2 : s ≤ 1000 := by omega
    have g3 : 1 ≤ i := by omega
    have g4 : i ≤ 4503599627370496 := by omega
    go_enter Try.func6, Try.ntmps6
    go_wp2
    go_ret2
    exact ⟨rfl, Drawn.refl _⟩
theorem RefMake_calls (s i : Int) (w : World) (hs : -9223372036854775808 ≤ s ∧ s ≤ 9223372036854775807) (hi : -9223372036854775808 ≤ i ∧ i ≤ 9223372036854775807) :
    Calls Try.prog 7 #[.int .i64 s, .int .i64 i] w (Quiet (.tuple #[.int .i64 (makeRef s i), .int .i64 (makeErr s i)]) w) := by
  by_cases h1 : s < 1
  · have e : makeErr s i = 2 := by unfold makeErr; rw [if_pos (Or.inl h1)]
    have f : makeRef s i = 0 := by unfold makeRef; rw [e]; rfl
    rw [e, f]
    go_enter Try.func7, Try.ntmps7
    go_wp2
    go_ret2
    exact ⟨rfl, Drawn.refl _⟩
  by_cases h2 : s > 1000
  · have e : makeErr s i = 2 := by unfold makeErr; rw [if_pos (Or.inr h2)]
    have f : makeRef s i = 0 := by unfold makeRef; rw [e]; rfl
    rw [e, f]
    go_enter Try.func7, Try.ntmps7
    go_wp2
    go_ret2
    exact ⟨rfl, Drawn.refl _⟩
  by_cases h3 : i < 1
  · have e : makeErr s i = 8 := by unfold makeErr; rw [if_neg (by omega), if_pos (by omega)]
    have f : makeRef s i = 0 := by unfold makeRef; rw [e]; rfl
    rw [e, f]
    go_enter Try.func7, Try.ntmps7
    go_wp2
    go_ret2
    exact ⟨rfl, Drawn.refl _⟩
  by_cases h4 : i > 4503599627370496
  · have e : makeErr s i = 8 := by unfold makeErr; rw [if_neg (by omega), if_pos (by omega)]
    have f : makeRef s i = 0 := by unfold makeRef; rw [e]; rfl
    rw [e, f]
    go_enter Try.func7, Try.ntmps7
    go_wp2
    go_ret2
    exact ⟨rfl, Drawn.refl _⟩
  · have e : makeErr s i = 0 := by unfold makeErr; rw [if_neg (by omega), if_neg (by omega)]
    have f : makeRef s i = 1024 * i + s := by unfold makeRef; rw [e]; rfl
    rw [e, f]
    clear e f
    have g1 : 1 ≤ s := by omega
    have g2 : s ≤ 1000 := by omega
    have g3 : 1 ≤ i := by omega
    have g4 : i ≤ 4503599627370496 := by omega
    go_enter Try.func7, Try.ntmps7
    go_wp2
    go_ret2
    exact ⟨rfl, Drawn.refl _⟩
/-- The sign of r and what it is split into, decided. -/
theorem Kind_calls (r : Int) (w : World) (hr : -9223372036854775808 ≤ r ∧ r ≤ 9223372036854775807) :
    Calls Try.prog 13 #[.int .i64 r] w (Quiet (.int .i64 (kind r)) w) := by
  by_cases h0 : r = 0
  · subst h0
    have e : kind 0 = 0 := rfl
    rw [e]
    go_enter Try.func13, Try.ntmps13
    go_wp2
    go_ret
    exact ⟨rfl, Drawn.refl _⟩
  by_cases h1 : r < 0
  · have e : kind r = 2 := by unfold kind; rw [if_neg h0, if_pos h1]
    have e0 : (r == 0) = false := by simpa using h0
    rw [e]
    clear e h0
    go_enter Try.func13, Try.ntmps13
    go_wp2
    go_ret
    exact ⟨rfl, Drawn.refl _⟩
  have e0 : (r == 0) = false := by simpa using h0
  have h2 : 0 ≤ r := by omega
  have k : kind r = if old r then 1 else 3 := by unfold kind; rw [if_neg h0, if_neg h1]
  rw [k]
  clear k
  by_cases c1 : 1 ≤ r % 1024
  · by_cases c2 : r % 1024 ≤ 1000
    · by_cases c3 : 1 ≤ r / 1024
      · by_cases c4 : r / 1024 ≤ 4503599627370496
        · have e : old r = true := by unfold old; rw [decide_eq_true_eq]; exact ⟨by omega, c1, c2, c3, c4⟩
          rw [e]; clear e h0
          go_enter Try.func13, Try.ntmps13
          go_wp2
          go_ret
          exact ⟨rfl, Drawn.refl _⟩
        · have e : old r = false := by unfold old; rw [decide_eq_false_iff_not]; exact fun h => c4 h.2.2.2.2
          rw [e]; clear e h0
          go_enter Try.func13, Try.ntmps13
          go_wp2
          go_ret
          exact ⟨rfl, Drawn.refl _⟩
      · have e : old r = false := by unfold old; rw [decide_eq_false_iff_not]; exact fun h => c3 h.2.2.2.1
        rw [e]; clear e h0
        go_enter Try.func13, Try.ntmps13
        go_wp2
        go_ret
        exact ⟨rfl, Drawn.refl _⟩
    · have e : old r = false := by unfold old; rw [decide_eq_false_iff_not]; exact fun h => c2 h.2.2.1
      rw [e]; clear e h0
      go_enter Try.func13, Try.ntmps13
      go_wp2
      go_ret
      exact ⟨rfl, Drawn.refl _⟩
  · have e : old r = false := by unfold old; rw [decide_eq_false_iff_not]; exact fun h => c1 h.2.1
    rw [e]; clear e h0
    go_enter Try.func13, Try.ntmps13
    go_wp2
    go_ret
    exact ⟨rfl, Drawn.refl _⟩

theorem old_pos {r : Int} (h : old r = true) : 0 < r ∧ 1 ≤ r % 1024 ∧ r % 1024 ≤ 1000 ∧ 1 ≤ r / 1024 ∧ r / 1024 ≤ 4503599627370496 := by
  unfold old at h; exact of_decide_eq_true h
theorem kind_old {r : Int} : (kind r == 1) = old r := by
  unfold kind
  by_cases h0 : r = 0
  · subst h0; rfl
  · rw [if_neg h0]
    by_cases h1 : r < 0
    · rw [if_pos h1]
      have : old r = false := by unfold old; rw [decide_eq_false_iff_not]; omega
      rw [this]; rfl
    · rw [if_neg h1]; cases old r <;> rfl

theorem Slot_calls (r : Int) (w : World) (hr : -9223372036854775808 ≤ r ∧ r ≤ 9223372036854775807) :
    Calls Try.prog 15 #[.int .i64 r] w (Quiet (.int .i64 (slot r)) w) := by
  have hk := fun w => Lib.hid (Kind_calls r w hr)
  have ho := @kind_old r
  generalize kind r = k at *
  cases h : old r
  · have e : slot r = 0 := by unfold slot; rw [h]; rfl
    rw [h] at ho
    rw [e]; clear e h
    go_enter Try.func15, Try.ntmps15
    go_wp2_with fail
    refine (hk _).out.mono ?_
    rintro e w' ⟨rfl, q, rfl⟩
    go_wp2
    go_ret
    exact ⟨rfl, ⟨_, rfl⟩⟩
  · have e : slot r = r % 1024 := by unfold slot; rw [h]; rfl
    have h2 := (old_pos h).1
    have h3 : 0 ≤ r := by omega
    rw [h] at ho
    rw [e]; clear e h
    go_enter Try.func15, Try.ntmps15
    go_wp2_with fail
    refine (hk _).out.mono ?_
    rintro e w' ⟨rfl, q, rfl⟩
    go_wp2
    go_ret
    exact ⟨rfl, ⟨_, rfl⟩⟩

theorem Inc_calls (r : Int) (w : World) (hr : -9223372036854775808 ≤ r ∧ r ≤ 9223372036854775807) :
    Calls Try.prog 17 #[.int .i64 r] w (Quiet (.int .i64 (inc r)) w) := by
  have hk := fun w => Lib.hid (Kind_calls r w hr)
  have ho := @kind_old r
  generalize kind r = k at *
  cases h : old r
  · have e : inc r = 0 := by unfold inc; rw [h]; rfl
    rw [h] at ho
    rw [e]; clear e h
    go_enter Try.func17, Try.ntmps17
    go_wp2_with fail
    refine (hk _).out.mono ?_
    rintro e w' ⟨rfl, q, rfl⟩
    go_wp2
    go_ret
    exact ⟨rfl, ⟨_, rfl⟩⟩
  · have e : inc r = r / 1024 := by unfold inc; rw [h]; rfl
    have h2 := (old_pos h).1
    have h3 : 0 ≤ r := by omega
    rw [h] at ho
    rw [e]; clear e h
    go_enter Try.func17, Try.ntmps17
    go_wp2_with fail
    refine (hk _).out.mono ?_
    rintro e w' ⟨rfl, q, rfl⟩
    go_wp2
    go_ret
    exact ⟨rfl, ⟨_, rfl⟩⟩

theorem tdiv_bounds (r : Int) (hr : -9223372036854775808 ≤ r ∧ r ≤ 9223372036854775807) : -9223372036854775808 ≤ r.tdiv 1024 ∧ r.tdiv 1024 ≤ 9223372036854775807 := by
  by_cases h : 0 ≤ r
  · rw [Int.tdiv_eq_ediv_of_nonneg h]; omega
  · have e : r = -(-r) := by omega
    rw [e, Int.neg_tdiv, Int.tdiv_eq_ediv_of_nonneg (by omega)]; omega
theorem tmod_bounds (r : Int) : -1024 < r.tmod 1024 ∧ r.tmod 1024 < 1024 := ⟨by have := Int.lt_tmod_of_pos r (b := 1024) (by decide); omega, Int.tmod_lt_of_pos r (by decide)⟩
theorem parts_old (r : Int) : old r = (decide (0 < r) && (makeErr (r.tmod 1024) (r.tdiv 1024) == 0)) := by
  unfold old makeErr
  by_cases h : 0 < r
  · rw [Int.tmod_eq_emod_of_nonneg (by omega), Int.tdiv_eq_ediv_of_nonneg (by omega)]
    by_cases c1 : r % 1024 < 1 ∨ r % 1024 > 1000
    · rw [if_pos c1]; simp; omega
    · rw [if_neg c1]
      by_cases c2 : r / 1024 < 1 ∨ r / 1024 > 4503599627370496
      · rw [if_pos c2]; simp; omega
      · rw [if_neg c2]; simp; omega
  · rw [decide_eq_false (by omega), decide_eq_false h]; rfl
theorem parts_calls (r : Int) (w : World) (hr : -9223372036854775808 ≤ r ∧ r ≤ 9223372036854775807) :
    Calls Try.prog 19 #[.int .i64 r] w (Quiet (.tuple #[.int .i64 (r.tmod 1024), .int .i64 (r.tdiv 1024), .bool (old r)]) w) := by
  have hm := tmod_bounds r
  have hd := tdiv_bounds r hr
  have hk := fun w => Lib.hid (RefMake_calls (r.tmod 1024) (r.tdiv 1024) w (by omega) hd)
  have ho := parts_old r
  generalize makeErr (r.tmod 1024) (r.tdiv 1024) = me at *
  generalize makeRef (r.tmod 1024) (r.tdiv 1024) = mr at *
  rw [ho]
  clear ho
  by_cases h : 0 < r
  · rw [Int.tmod_eq_emod_of_nonneg (by omega)] at hk ⊢
    go_enter Try.func19, Try.ntmps19
    go_wp2_with fail
    refine (hk _).out.mono ?_
    rintro e w' ⟨rfl, q, rfl⟩
    go_wp2_with fail
    refine bodyPost_ret (results_tmp3 rfl _ _ _) rfl ?_
    exact ⟨by simp [h], ⟨_, rfl⟩⟩
  · go_enter Try.func19, Try.ntmps19
    go_wp2_with fail
    refine (hk _).out.mono ?_
    rintro e w' ⟨rfl, q, rfl⟩
    go_wp2_with fail
    refine bodyPost_ret (results_tmp3 rfl _ _ _) rfl ?_
    exact ⟨by simp; omega, ⟨_, rfl⟩⟩

theorem RefKind_calls (r : Int) (w : World) (hr : -9223372036854775808 ≤ r ∧ r ≤ 9223372036854775807) :
    Calls Try.prog 14 #[.int .i64 r] w (Quiet (.int .i64 (kind r)) w) := by
  have hk := fun w => Lib.hid (parts_calls r w hr)
  by_cases h0 : r = 0
  · subst h0
    have e : kind 0 = 0 := rfl
    rw [e]
    go_enter Try.func14, Try.ntmps14
    go_wp2_with fail
    go_ret
    exact ⟨rfl, Drawn.refl _⟩
  by_cases h1 : r < 0
  · have e : kind r = 2 := by unfold kind; rw [if_neg h0, if_pos h1]
    have e0 : (r == 0) = false := by simpa using h0
    rw [e]
    clear e h0
    go_enter Try.func14, Try.ntmps14
    go_wp2_with fail
    go_ret
    exact ⟨rfl, Drawn.refl _⟩
  have e0 : (r == 0) = false := by simpa using h0
  have h2 : 0 ≤ r := by omega
  have k : kind r = if old r then 1 else 3 := by unfold kind; rw [if_neg h0, if_neg h1]
  rw [k]
  clear k h0
  generalize r.tmod 1024 = x at *
  generalize r.tdiv 1024 = y at *
  cases h : old r
  all_goals
    rw [h] at hk
    clear h
    go_enter Try.func14, Try.ntmps14
    go_wp2_with fail
    refine (hk _).out.mono ?_
    rintro e w' ⟨rfl, q, rfl⟩
    go_wp2_with fail
    go_ret
    exact ⟨rfl, ⟨_, rfl⟩⟩

theorem RefSlot_calls (r : Int) (w : World) (hr : -9223372036854775808 ≤ r ∧ r ≤ 9223372036854775807) :
    Calls Try.prog 16 #[.int .i64 r] w (Quiet (.int .i64 (slot r)) w) := by
  have hk := fun w => Lib.hid (parts_calls r w hr)
  cases h : old r
  · have e : slot r = 0 := by unfold slot; rw [h]; rfl
    rw [e]
    rw [h] at hk
    clear h e
    go_enter Try.func16, Try.ntmps16
    go_wp2_with fail
    refine (hk _).out.mono ?_
    rintro e w' ⟨rfl, q, rfl⟩
    go_wp2_with fail
    go_ret
    exact ⟨rfl, ⟨_, rfl⟩⟩
  · have e : slot r = r.tmod 1024 := by unfold slot; rw [h, Int.tmod_eq_emod_of_nonneg (by have := old_pos h; omega)]; rfl
    rw [e]
    rw [h] at hk
    clear h e
    generalize r.tmod 1024 = x at *
    go_enter Try.func16, Try.ntmps16
    go_wp2_with fail
    refine (hk _).out.mono ?_
    rintro e w' ⟨rfl, q, rfl⟩
    go_wp2_with fail
    go_ret
    exact ⟨rfl, ⟨_, rfl⟩⟩

theorem RefInc_calls (r : Int) (w : World) (hr : -9223372036854775808 ≤ r ∧ r ≤ 9223372036854775807) :
    Calls Try.prog 18 #[.int .i64 r] w (Quiet (.int .i64 (inc r)) w) := by
  have hk := fun w => Lib.hid (parts_calls r w hr)
  cases h : old r
  · have e : inc r = 0 := by unfold inc; rw [h]; rfl
    rw [e]
    rw [h] at hk
    clear h e
    go_enter Try.func18, Try.ntmps18
    go_wp2_with fail
    refine (hk _).out.mono ?_
    rintro e w' ⟨rfl, q, rfl⟩
    go_wp2_with fail
    go_ret
    exact ⟨rfl, ⟨_, rfl⟩⟩
  · have e : inc r = r.tdiv 1024 := by unfold inc; rw [h, Int.tdiv_eq_ediv_of_nonneg (by have := old_pos h; omega)]; rfl
    rw [e]
    rw [h] at hk
    clear h e
    generalize r.tdiv 1024 = x at *
    go_enter Try.func18, Try.ntmps18
    go_wp2_with fail
    refine (hk _).out.mono ?_
    rintro e w' ⟨rfl, q, rfl⟩
    go_wp2_with fail
    go_ret
    exact ⟨rfl, ⟨_, rfl⟩⟩

theorem not_i64 (i : Int) (hi : -9223372036854775808 ≤ i ∧ i ≤ 9223372036854775807) : bits .xor .i64 (-1) i = -i - 1 := by
  show IntKind.i64.wrap ((BitVec.ofInt 64 (-1) ^^^ BitVec.ofInt 64 i).toNat : Int) = _
  have h1 : BitVec.ofInt 64 (-1) = BitVec.allOnes 64 := by decide
  rw [h1, BitVec.allOnes_xor, BitVec.toNat_not, BitVec.toNat_ofInt]
  simp [IntKind.wrap, IntKind.bits, IntKind.signed]
  omega
theorem New_calls (i : Int) (w : World) (hr : -9223372036854775808 ≤ i ∧ i ≤ 9223372036854775807) :
    Calls Try.prog 8 #[.int .i64 i] w (Quiet (.int .i64 (new i)) w) := by
  by_cases h : i < 0
  · have e : new i = 0 := by unfold new; rw [if_pos h]
    rw [e]; clear e
    go_enter Try.func8, Try.ntmps8
    go_wp2_with fail
    go_ret
    exact ⟨rfl, Drawn.refl _⟩
  · have e : new i = -i - 1 := by unfold new; rw [if_neg h]
    rw [e]; clear e
    go_enter Try.func8, Try.ntmps8
    go_wp2_with fail
    have hx := not_i64 i hr
    go_ret
    exact ⟨ret_int hx, Drawn.refl _⟩

theorem RefNew_calls (i : Int) (w : World) (hr : -9223372036854775808 ≤ i ∧ i ≤ 9223372036854775807) :
    Calls Try.prog 9 #[.int .i64 i] w (Quiet (.int .i64 (new i)) w) := by
  by_cases h : i < 0
  · have e : new i = 0 := by unfold new; rw [if_pos h]
    rw [e]; clear e
    go_enter Try.func9, Try.ntmps9
    go_wp2_with fail
    go_ret
    exact ⟨rfl, Drawn.refl _⟩
  · have e : new i = -i - 1 := by unfold new; rw [if_neg h]
    rw [e]; clear e
    have h2 : 0 ≤ i := by omega
    go_enter Try.func9, Try.ntmps9
    go_wp2_with fail
    go_ret
    exact ⟨rfl, Drawn.refl _⟩

theorem kind_neg {r : Int} : (kind r == 2) = decide (r < 0) := by
  unfold kind
  by_cases h0 : r = 0
  · subst h0; rfl
  · rw [if_neg h0]
    by_cases h1 : r < 0
    · rw [if_pos h1]; simp [h1]
    · rw [if_neg h1]; simp [h1]; cases old r <;> simp

theorem Which_calls (r : Int) (w : World) (hr : -9223372036854775808 ≤ r ∧ r ≤ 9223372036854775807) :
    Calls Try.prog 11 #[.int .i64 r] w (Quiet (.tuple #[.int .i64 (which r), .bool (decide (r < 0))]) w) := by
  have hk := fun w => Lib.hid (Kind_calls r w hr)
  have ho := @kind_neg r
  generalize kind r = k at *
  by_cases h : r < 0
  · have e : which r = -(r + 1) := by unfold which; rw [if_pos h]
    have e2 : decide (r < 0) = true := by simpa using h
    rw [e2] at ho ⊢
    rw [e]; clear e e2
    go_enter Try.func11, Try.ntmps11
    go_wp2_with fail
    refine (hk _).out.mono ?_
    rintro e w' ⟨rfl, q, rfl⟩
    go_wp2_with fail
    have hx := not_i64 r hr
    go_ret2
    exact ⟨congrArg (fun x => Ending.returned (.tuple #[.int .i64 x, .bool true])) (hx.trans (by omega)), ⟨_, rfl⟩⟩
  · have e : which r = 0 := by unfold which; rw [if_neg h]
    have e2 : decide (r < 0) = false := by simpa using h
    rw [e2] at ho ⊢
    rw [e]; clear e e2
    go_enter Try.func11, Try.ntmps11
    go_wp2_with fail
    refine (hk _).out.mono ?_
    rintro e w' ⟨rfl, q, rfl⟩
    go_wp2_with fail
    go_ret2
    exact ⟨rfl, ⟨_, rfl⟩⟩

theorem RefWhich_calls (r : Int) (w : World) (hr : -9223372036854775808 ≤ r ∧ r ≤ 9223372036854775807) :
    Calls Try.prog 12 #[.int .i64 r] w (Quiet (.tuple #[.int .i64 (which r), .bool (decide (r < 0))]) w) := by
  by_cases h : r < 0
  · have e : which r = -(r + 1) := by unfold which; rw [if_pos h]
    have e2 : decide (r < 0) = true := by simpa using h
    rw [e, e2]; clear e e2
    go_enter Try.func12, Try.ntmps12
    go_wp2_with fail
    go_ret2
    exact ⟨rfl, Drawn.refl _⟩
  · have e : which r = 0 := by unfold which; rw [if_neg h]
    have e2 : decide (r < 0) = false := by simpa using h
    rw [e, e2]; clear e e2
    go_enter Try.func12, Try.ntmps12
    go_wp2_with fail
    go_ret2
    exact ⟨rfl, Drawn.refl _⟩
end Go.Proofs.Ytjkpjjmahfoldaa.Refs
