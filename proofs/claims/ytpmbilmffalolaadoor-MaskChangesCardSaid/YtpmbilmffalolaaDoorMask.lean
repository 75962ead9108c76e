/- Contracts of the masks. -/
import Derived.Test.YtpmbilmffalolaaDoorMaskM
import Derived.Test.YtpmbilmffalolaaDoorMem
import Derived.Laws.BitsAllLaws
import Derived.Lib.Tables
namespace Go.Proofs.YtpmbilmffalolaaDoor.Mk
open Go.RowKit
set_option linter.unusedVariables false
set_option linter.unusedSimpArgs false
def I64 (a : Int) : Prop := -9223372036854775808 ≤ a ∧ a ≤ 9223372036854775807
def U32 (m : Nat) : Prop := m < 4294967296
def has (m : Nat) (i : Int) : Bool := decide (0 ≤ i ∧ i < 32) && m.testBit i.toNat
theorem inRange_calls (i : Int) (w : World) (hi : I64 i) : Calls Tryd.prog 22 #[.int .i64 i] w (Quiet (.bool (decide (0 ≤ i ∧ i < 32))) w) := by
  unfold I64 at hi
  by_cases h1 : 0 ≤ i
  · by_cases h2 : i < 32
    · rw [decide_eq_true ⟨h1, h2⟩]
      go_enter Tryd.func22, Tryd.ntmps22
      go_wp2
      all_goals
        go_ret
        exact ⟨rfl, Drawn.refl _⟩
    · rw [decide_eq_false (by omega)]
      go_enter Tryd.func22, Tryd.ntmps22
      go_wp2
      all_goals
        go_ret
        exact ⟨rfl, Drawn.refl _⟩
  · rw [decide_eq_false (by omega)]
    go_enter Tryd.func22, Tryd.ntmps22
    go_wp2
    all_goals
      go_ret
      exact ⟨rfl, Drawn.refl _⟩
theorem bit_and (m k : Nat) (hm : m < 4294967296) : bits .and .u32 ((m : Int) / 2 ^ k) 1 = if m.testBit k then 1 else 0 := by
  have e : ((m : Int) / 2 ^ k) = ((m / 2 ^ k : Nat) : Int) := by rw [Int.natCast_ediv]; norm_cast
  have hd : m / 2 ^ k ≤ m := Nat.div_le_self _ _
  rw [e, show (1 : Int) = ((1 : Nat) : Int) from rfl, u32_and_nat _ _ (by omega) (by omega), Nat.and_one_is_mod, bit_div]
  by_cases h : m / 2 ^ k % 2 = 1
  · rw [h]; simp
  · have : m / 2 ^ k % 2 = 0 := by omega
    rw [this]; simp
theorem Has_calls (m : Nat) (i : Int) (w : World) (hm : U32 m) (hi : I64 i) : Calls Tryd.prog 6 #[.int .u32 m, .int .i64 i] w (Quiet (.bool (has m i)) w) := by
  have k1 := fun w => Lib.hid (inRange_calls i w hi)
  unfold I64 at hi
  unfold U32 at hm
  unfold has
  by_cases h : 0 ≤ i ∧ i < 32
  · rw [decide_eq_true h] at k1 ⊢
    obtain ⟨k, rfl⟩ := Int.eq_ofNat_of_zero_le h.1
    have hk : k < 32 := by omega
    have e := bit_and m k hm
    rw [show ((k : Int)).toNat = k by omega]
    generalize m.testBit k = b at *
    cases b
    · simp only [Bool.false_eq_true, if_false] at e
      go_enter Tryd.func6, Tryd.ntmps6
      go_wp2_with (go_at_call 22; (with_reducible refine ((k1 _).out).mono ?_); rintro e w' ⟨rfl, q, rfl⟩)
      go_ret
      exact ⟨rfl, ⟨_, rfl⟩⟩
    · simp only [if_true] at e
      go_enter Tryd.func6, Tryd.ntmps6
      go_wp2_with (go_at_call 22; (with_reducible refine ((k1 _).out).mono ?_); rintro e w' ⟨rfl, q, rfl⟩)
      go_ret
      exact ⟨rfl, ⟨_, rfl⟩⟩
  · rw [decide_eq_false h] at k1 ⊢
    clear h
    go_enter Tryd.func6, Tryd.ntmps6
    go_wp2_with (go_at_call 22; (with_reducible refine ((k1 _).out).mono ?_); rintro e w' ⟨rfl, q, rfl⟩)
    go_ret
    exact ⟨rfl, ⟨_, rfl⟩⟩
theorem two_sub : ∀ c : Nat, c < 33 → ((2 : Int) ^ c % 4294967296 - 1) % 4294967296 = ((2 ^ c - 1 : Nat) : Int) := by decide +kernel
theorem below_calls (i : Int) (w : World) (hi : I64 i) : Calls Tryd.prog 23 #[.int .i64 i] w (Quiet (.int .u32 ((2 ^ clamp i - 1 : Nat) : Int)) w) := by
  unfold I64 at hi
  rcases Int.lt_or_le i 0 with h | h
  · have e : clamp i = 0 := by unfold clamp; omega
    rw [e]
    go_enter Tryd.func23, Tryd.ntmps23
    go_wp2
    go_ret
    exact ⟨rfl, Drawn.refl _⟩
  rcases Int.lt_or_le 32 i with h2 | h2
  · have e : clamp i = 32 := by unfold clamp; omega
    rw [e]
    go_enter Tryd.func23, Tryd.ntmps23
    go_wp2
    go_ret
    exact ⟨rfl, Drawn.refl _⟩
  · have e : clamp i = i.toNat := by unfold clamp; omega
    rw [e]
    have E := Lib.hid (two_sub i.toNat (by omega))
    clear e
    go_enter Tryd.func23, Tryd.ntmps23
    go_wp2
    go_ret
    exact ⟨ret_int E.out, Drawn.refl _⟩
theorem tab_is : (⟨(([0, 1, 1, 2, 1, 2, 2, 3, 1, 2, 2, 3, 2, 3, 3, 4, 1, 2, 2, 3, 2, 3, 3, 4, 2, 3, 3, 4, 3, 4, 4, 5, 1, 2, 2, 3, 2, 3, 3, 4, 2, 3, 3, 4, 3, 4, 4, 5, 2, 3, 3, 4, 3, 4, 4, 5, 3, 4, 4, 5, 4, 5, 5, 6].append [1, 2, 2, 3, 2, 3, 3, 4, 2, 3, 3, 4, 3, 4, 4, 5, 2, 3, 3, 4, 3, 4, 4, 5, 3, 4, 4, 5, 4, 5, 5, 6, 2, 3, 3, 4, 3, 4, 4, 5, 3, 4, 4, 5, 4, 5, 5, 6, 3, 4, 4, 5, 4, 5, 5, 6, 4, 5, 5, 6, 5, 6, 6, 7]).append ([1, 2, 2, 3, 2, 3, 3, 4, 2, 3, 3, 4, 3, 4, 4, 5, 2, 3, 3, 4, 3, 4, 4, 5, 3, 4, 4, 5, 4, 5, 5, 6, 2, 3, 3, 4, 3, 4, 4, 5, 3, 4, 4, 5, 4, 5, 5, 6, 3, 4, 4, 5, 4, 5, 5, 6, 4, 5, 5, 6, 5, 6, 6, 7].append [2, 3, 3, 4, 3, 4, 4, 5, 3, 4, 4, 5, 4, 5, 5, 6, 3, 4, 4, 5, 4, 5, 5, 6, 4, 5, 5, 6, 5, 6, 6, 7, 3, 4, 4, 5, 4, 5, 5, 6, 4, 5, 5, 6, 5, 6, 6, 7, 4, 5, 5, 6, 5, 6, 6, 7, 5, 6, 6, 7, 6, 7, 7, 8])).toArray⟩ : ByteArray) = Go.Lib.pop8tab := by kernel_rfl
theorem pop_pc : ∀ k : Nat, k < 256 → Go.Lib.pop8 (k : Int) = (pc k : Int) := by decide +kernel
theorem u32_byte (m s : Nat) (hm : m < 4294967296) : bits .and .u32 ((m / s : Nat) : Int) 255 = ((m / s % 256 : Nat) : Int) := by
  have hd : m / s ≤ m := Nat.div_le_self _ _
  rw [show (255 : Int) = ((255 : Nat) : Int) from rfl, u32_and_nat _ _ (by omega) (by omega)]
  rw [show (255 : Nat) = 2 ^ 8 - 1 from rfl, Nat.and_two_pow_sub_one_eq_mod]
set_option maxRecDepth 100000 in
theorem OnesCount_calls (m : Nat) (w : World) (hm : U32 m) : Calls Tryd.prog 26 #[.int .u32 m] w (Quiet (.int .i64 ((all m).length : Nat)) w) := by
  unfold U32 at hm
  have e0 : (m : Int) / 16777216 = ((m / 16777216 % 256 : Nat) : Int) := by omega
  have e1 : bits .and .u32 ((m : Int) / 65536) 255 = ((m / 65536 % 256 : Nat) : Int) := by
    rw [← u32_byte m 65536 hm]; rfl
  have e2 : bits .and .u32 ((m : Int) / 256) 255 = ((m / 256 % 256 : Nat) : Int) := by
    rw [← u32_byte m 256 hm]; rfl
  have e3 : bits .and .u32 (m : Int) 255 = ((m % 256 : Nat) : Int) := by
    have := u32_byte m 1 hm
    rwa [Nat.div_one] at this
  have hp := pop_all m
  have ix : ∀ k : Nat, k < 256 → ∀ w, (Instr.index 9 (.string Go.Lib.pop8tab) (.int .u32 (k : Int))).run Tryd.prog w = .ok (.int .u8 (pc k : Int)) w := fun k hk w => by
    rw [Go.Lib.run_index_pop8tab w _ _ _ Tryd.underlying9 (by omega) (by omega), pop_pc k hk]
  have i0 := ix (m / 16777216 % 256) (Nat.mod_lt _ (by omega))
  have i1 := ix (m / 65536 % 256) (Nat.mod_lt _ (by omega))
  have i2 := ix (m / 256 % 256) (Nat.mod_lt _ (by omega))
  have i3 := ix (m % 256) (Nat.mod_lt _ (by omega))
  have l0 := pc_le (m / 16777216 % 256)
  have l1 := pc_le (m / 65536 % 256)
  have l2 := pc_le (m / 256 % 256)
  have l3 := pc_le (m % 256)
  generalize m / 16777216 % 256 = A at *
  generalize m / 65536 % 256 = B at *
  generalize m / 256 % 256 = C at *
  generalize m % 256 = D at *
  clear ix
  generalize pc A = pA at *
  generalize pc B = pB at *
  generalize pc C = pC at *
  generalize pc D = pD at *
  have HP := Lib.hid hp
  clear hp
  go_enter Tryd.func26, Tryd.ntmps26
  rw [tab_is]
  go_wp2
  go_quiet (fail)
  go_wp2
  go_ret
  exact ⟨ret_int (by rw [HP.out]; omega), ⟨_, rfl⟩⟩
theorem all_len (m : Nat) : (all m).length ≤ 32 := upTo_len m 32
theorem Count_calls (m : Nat) (w : World) (hm : U32 m) : Calls Tryd.prog 19 #[.int .u32 m] w (Quiet (.int .i64 ((all m).length : Nat)) w) := by
  have k1 := fun w => Lib.hid (OnesCount_calls m w hm)
  generalize (all m).length = n at *
  go_enter Tryd.func19, Tryd.ntmps19
  go_wp2_with (go_at_call 26; (with_reducible refine (k1 _).out.mono ?_); rintro e w' ⟨rfl, q, rfl⟩)
  go_ret
  exact ⟨rfl, ⟨_, rfl⟩⟩
theorem Place_calls (m : Nat) (i : Int) (w : World) (hm : U32 m) (hi : I64 i) : Calls Tryd.prog 8 #[.int .u32 m, .int .i64 i] w (Quiet (.int .i64 (place m i : Nat)) w) := by
  have k1 := fun w => Lib.hid (below_calls i w hi)
  have hb : 2 ^ clamp i - 1 < 4294967296 := by
    have := Nat.pow_le_pow_right (n := 2) (by omega) (clamp_le i)
    omega
  have hm2 : m &&& (2 ^ clamp i - 1) < 4294967296 := Nat.lt_of_le_of_lt Nat.and_le_left hm
  have k2 := fun w => Lib.hid (Count_calls (m &&& (2 ^ clamp i - 1)) w hm2)
  have e := u32_and_nat m (2 ^ clamp i - 1) hm hb
  rw [place_low] at k2
  generalize place m i = n at *
  generalize m &&& (2 ^ clamp i - 1) = x at *
  generalize 2 ^ clamp i - 1 = y at *
  unfold U32 at hm
  go_enter Tryd.func8, Tryd.ntmps8
  go_wp2_with (first | (go_at_call 23; (with_reducible refine ((k1 _).out).mono ?_); rintro e w' ⟨rfl, q, rfl⟩) | (go_at_call 19; (with_reducible refine ((k2 _).out).mono ?_); rintro e w' ⟨rfl, q, rfl⟩))
  go_ret
  exact ⟨rfl, ⟨_, rfl⟩⟩
theorem pow_lt (i : Int) (h2 : i < 32) : 2 ^ i.toNat < 4294967296 := by
  have h : 2 ^ i.toNat < 2 ^ 32 := Nat.pow_lt_pow_right (by omega) (by omega)
  exact h
theorem pow_wrap (i : Int) (h2 : i < 32) : ((2 : Int) ^ i.toNat % 4294967296) = ((2 ^ i.toNat : Nat) : Int) := by
  have h := pow_lt i h2
  have e : ((2 : Int) ^ i.toNat) = ((2 ^ i.toNat : Nat) : Int) := by norm_cast
  rw [e]
  generalize 2 ^ i.toNat = x at *
  omega
def with_ (m : Nat) (i : Int) : Nat := if 0 ≤ i ∧ i < 32 then m ||| 2 ^ i.toNat else m
def without (m : Nat) (i : Int) : Nat := if 0 ≤ i ∧ i < 32 then m &&& (4294967295 - 2 ^ i.toNat) else m
theorem With_calls (m : Nat) (i : Int) (w : World) (hm : U32 m) (hi : I64 i) : Calls Tryd.prog 10 #[.int .u32 m, .int .i64 i] w (Quiet (.int .u32 (with_ m i : Nat)) w) := by
  have k1 := fun w => Lib.hid (inRange_calls i w hi)
  unfold with_
  unfold I64 at hi
  unfold U32 at hm
  by_cases h : 0 ≤ i ∧ i < 32
  · rw [decide_eq_true h] at k1
    rw [if_pos h]
    have e := pow_wrap i h.2
    have e2 := u32_or_nat m (2 ^ i.toNat) hm (pow_lt i h.2)
    generalize m ||| 2 ^ i.toNat = x at *
    rw [← e] at e2
    clear e
    obtain ⟨h1, h2⟩ := h
    go_enter Tryd.func10, Tryd.ntmps10
    go_wp2_with (go_at_call 22; (with_reducible refine ((k1 _).out).mono ?_); rintro e w' ⟨rfl, q, rfl⟩)
    go_ret
    exact ⟨rfl, ⟨_, rfl⟩⟩
  · rw [decide_eq_false h] at k1
    rw [if_neg h]
    clear h
    go_enter Tryd.func10, Tryd.ntmps10
    go_wp2_with (go_at_call 22; (with_reducible refine ((k1 _).out).mono ?_); rintro e w' ⟨rfl, q, rfl⟩)
    go_ret
    exact ⟨rfl, ⟨_, rfl⟩⟩
theorem Without_calls (m : Nat) (i : Int) (w : World) (hm : U32 m) (hi : I64 i) : Calls Tryd.prog 12 #[.int .u32 m, .int .i64 i] w (Quiet (.int .u32 (without m i : Nat)) w) := by
  have k1 := fun w => Lib.hid (inRange_calls i w hi)
  unfold without
  unfold I64 at hi
  unfold U32 at hm
  by_cases h : 0 ≤ i ∧ i < 32
  · rw [decide_eq_true h] at k1
    rw [if_pos h]
    have e := pow_wrap i h.2
    have e2 := u32_andNot_nat m (2 ^ i.toNat) hm (pow_lt i h.2)
    generalize m &&& (4294967295 - 2 ^ i.toNat) = x at *
    rw [← e] at e2
    clear e
    obtain ⟨h1, h2⟩ := h
    go_enter Tryd.func12, Tryd.ntmps12
    go_wp2_with (go_at_call 22; (with_reducible refine ((k1 _).out).mono ?_); rintro e w' ⟨rfl, q, rfl⟩)
    go_ret
    exact ⟨rfl, ⟨_, rfl⟩⟩
  · rw [decide_eq_false h] at k1
    rw [if_neg h]
    clear h
    go_enter Tryd.func12, Tryd.ntmps12
    go_wp2_with (go_at_call 22; (with_reducible refine ((k1 _).out).mono ?_); rintro e w' ⟨rfl, q, rfl⟩)
    go_ret
    exact ⟨rfl, ⟨_, rfl⟩⟩
/-- The table, as its initialiser lays it. -/
def Tab (w : World) : Prop := ∀ j, j < 32 → w.cell? ⟨0, j, none⟩ = some (.int .u8 ((Go.Lib.deBruijn32tab.getD j 0 : Nat) : Int))
theorem Tab.below {w w' : World} (h : Tab w) (b : Below w.heap.size w w') : Tab w' := by
  have h0 : 0 < w.heap.size := World.block_lt_of_cell? w _ (h 0 (by omega))
  obtain ⟨c, _, _, _⟩ := bcell b
  intro j hj
  rw [c _ _ h0]
  exact h j hj
theorem tz_core (x k idx : Nat) (w : World) (hx0 : ((x : Int) == 0) = false)
    (key : bits BinOp.and IntKind.u32 (x : Int) (-(x : Int) % 4294967296) * 125613361 % 4294967296 / 134217728 = (idx : Int))
    (hi : idx < 32) (hk : k < 32) (hcell : w.cell? ⟨0, idx, none⟩ = some (.int .u8 (k : Int))) :
    Calls Tryd.prog 25 #[.int .u32 x] w (Quiet (.int .i64 k) w) := by
  go_enter Tryd.func25, Tryd.ntmps25
  go_wp2_with (simp only [key])
  go_ret
  exact ⟨rfl, Drawn.refl _⟩
theorem tz_key (x a : Nat) (hx : x < 4294967296) (hx0 : x ≠ 0) (hlow : x &&& (4294967296 - x) = a) :
    bits BinOp.and IntKind.u32 (x : Int) (-(x : Int) % 4294967296) * 125613361 % 4294967296 / 134217728 = ((a * 125613361 % 4294967296 / 134217728 : Nat) : Int) := by
  have e1 : -(x : Int) % 4294967296 = ((4294967296 - x : Nat) : Int) := by omega
  rw [e1, u32_and_nat x _ hx (by omega), hlow]
  omega
theorem tz_calls (x : Nat) (hx : x < 4294967296) (h0 : x ≠ 0) (w : World) (T : Tab w) : Calls Tryd.prog 25 #[.int .u32 x] w (Quiet (.int .i64 ((Go.Lib.ctz 32 x : Nat) : Int)) w) := by
  obtain ⟨hlow, hk⟩ := Go.Lib.lowest_bit 32 x h0 hx
  obtain ⟨hi, htab⟩ := Go.Lib.deBruijn32_at _ hk
  have hcell := T _ hi
  rw [htab] at hcell
  exact tz_core x _ _ w (by simp; omega) (tz_key x _ hx h0 hlow) hi hk hcell
/-- A number, or none. -/
def opt (o : Option Nat) : Value := .tuple #[.int .i64 ((o.getD 0 : Nat) : Int), .bool o.isSome]
theorem First_calls (m : Nat) (w : World) (hm : U32 m) (T : Tab w) : Calls Tryd.prog 17 #[.int .u32 m] w (Quiet (opt (all m).head?) w) := by
  unfold opt
  by_cases h0 : m = 0
  · subst h0
    rw [all_zero]
    clear T
    go_enter Tryd.func17, Tryd.ntmps17
    go_wp2
    go_ret2
    exact ⟨rfl, Drawn.refl _⟩
  · rw [head_ctz m h0 hm]
    have k1 := Lib.hid (tz_calls m hm h0 w T)
    have e : ((m : Int) == 0) = false := by simp; omega
    clear T h0
    generalize Go.Lib.ctz 32 m = n at *
    unfold U32 at hm
    go_enter Tryd.func17, Tryd.ntmps17
    go_wp2_with (go_at_call 25; (with_reducible refine k1.out.mono ?_); rintro e w' ⟨rfl, q, rfl⟩)
    go_ret2
    exact ⟨rfl, ⟨_, rfl⟩⟩
end Go.Proofs.YtpmbilmffalolaaDoor.Mk
