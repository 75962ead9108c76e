/- The laws of layer 4. -/
import Derived.Test.YtahpfdfaaianpaaHash2
namespace Go.Proofs.Ytahpfdfaaianpaa.Hash
open Go.RowKit
set_option linter.unusedVariables false

theorem extract_ge (a : ByteArray) (n : Nat) (h : a.size ≤ n) : a = a.extract 0 n := by
  apply ByteArray.ext
  rw [ByteArray.data_extract]
  have : a.data.size = a.size := rfl
  exact (Array.extract_eq_self_of_le (by omega)).symm
theorem cut_size (a : ByteArray) (n : Nat) : (a.extract 0 n).size ≤ n := by simp; omega
set_option maxHeartbeats 400000 in
theorem Cut_calls (a : ByteArray) (n : Nat) (w : World) (ha : a.size ≤ maxLen) (hn : n ≤ 10000) :
    Calls Try.prog 6 #[.string a, .int .i64 n] w (Quiet (.string (a.extract 0 n)) w) := by
  unfold maxLen at ha
  by_cases h : a.size ≤ n
  · have H := hide (extract_ge a n h)
    go_enter Try.func6, Try.ntmps6
    go_wp2
    all_goals
      go_ret
      refine ⟨ret_str ?_, Drawn.refl _⟩
      first | exact H.out | rfl
  · go_enter Try.func6, Try.ntmps6
    go_wp2
    all_goals
      go_ret
      exact ⟨rfl, Drawn.refl _⟩

theorem Cut3_calls (a : ByteArray) (w : World) (ha : a.size ≤ maxLen) :
    Calls Try.prog 6 #[.string a, .int .i64 3000] w (Quiet (.string (a.extract 0 3000)) w) := Cut_calls a 3000 w ha (by decide)
theorem of_empty (w : World) : Calls Try.prog 7 #[.string ⟨#[]⟩, .int .i64 64] w (Quiet (.int .u64 14695981039346656037) w) := by
  have h := Of_calls ⟨#[]⟩ 64 w (by decide) (by unfold I64; omega)
  have e : ((fnv (⟨#[]⟩ : ByteArray).data.toList % 2 ^ cl 64 : Nat) : Int) = 14695981039346656037 := by
    rw [fnv_def]
    show ((start % 2 ^ 64 : Nat) : Int) = _
    unfold start
    omega
  rwa [e] at h
theorem works_calls (w : World) : Calls Try.prog 11 #[] w (Quiet (.bool true) w) := by
  have k1 := fun w => Lib.hid (of_empty w)
  have k2 := fun w => Lib.hid (show Calls Try.prog 9 #[.int .i64 64] w (Quiet (.int .i64 13) w) from Levels_calls 64 w (by unfold I64; omega))
  have k3 := fun w => Lib.hid (show Calls Try.prog 12 #[.int .u64 32, .int .i64 1, .int .i64 64] w (Quiet (.int .i64 1) w) from Chunk_calls 32 1 64 w (by decide) (by unfold I64; omega) (by unfold I64; omega))
  have k4 := fun w => Lib.hid (show Calls Try.prog 14 #[.int .u64 1, .int .u64 2, .int .i64 8] w (Quiet (.bool true) w) from Before_calls 1 2 8 w (by decide) (by decide) (by unfold I64; omega))
  go_enter Try.func11, Try.ntmps11
  go_wp2_with (first
    | (go_at_call 7; (with_reducible refine (k1 _).out.mono ?_); rintro e w' ⟨rfl, q, rfl⟩)
    | (go_at_call 9; (with_reducible refine (k2 _).out.mono ?_); rintro e w' ⟨rfl, q, rfl⟩)
    | (go_at_call 12; (with_reducible refine (k3 _).out.mono ?_); rintro e w' ⟨rfl, q, rfl⟩)
    | (go_at_call 14; (with_reducible refine (k4 _).out.mono ?_); rintro e w' ⟨rfl, q, rfl⟩))
  go_ret
  exact ⟨rfl, ⟨_, rfl⟩⟩

set_option maxHeartbeats 800000 in
theorem HashOf_calls (s : ByteArray) (b : Int) (w : World) (hs : s.size ≤ maxLen) (hb : I64 b) :
    Calls Try.prog 3 #[.string s, .int .i64 b] w (Quiet (.bool true) w) := by
  have k0 := fun w => Lib.hid (Cut3_calls s w hs)
  have sa := cut_size s 3000
  generalize s.extract 0 3000 = S at *
  have k1 := fun w => Lib.hid (Of_calls S b w (by omega) hb)
  have k2 := fun w => Lib.hid (RefOf_calls S b w (by omega) hb)
  have k3 := fun w => Lib.hid (Levels_calls b w hb)
  have k4 := fun w => Lib.hid (RefLevels_calls b w hb)
  generalize fnv S.data.toList % 2 ^ cl b = x at *
  generalize (cl b + 4) / 5 = y at *
  go_enter Try.func3, Try.ntmps3
  go_wp2_with (first
    | (go_at_call 6; (with_reducible refine (k0 _).out.mono ?_); rintro e w' ⟨rfl, q, rfl⟩)
    | (go_at_call 7; (with_reducible refine (k1 _).out.mono ?_); rintro e w' ⟨rfl, q, rfl⟩)
    | (go_at_call 8; (with_reducible refine (k2 _).out.mono ?_); rintro e w' ⟨rfl, q, rfl⟩)
    | (go_at_call 9; (with_reducible refine (k3 _).out.mono ?_); rintro e w' ⟨rfl, q, rfl⟩)
    | (go_at_call 10; (with_reducible refine (k4 _).out.mono ?_); rintro e w' ⟨rfl, q, rfl⟩)
    | (go_at_call 11; (with_reducible refine (works_calls _).mono ?_); rintro e w' ⟨rfl, q, rfl⟩))
  go_ret
  exact ⟨rfl, ⟨_, rfl⟩⟩

set_option maxHeartbeats 800000 in
theorem HashChunks_nat (x y : Nat) (l b : Int) (w : World) (hx : x < 18446744073709551616) (hy : y < 18446744073709551616) (hl : I64 l) (hb : I64 b) :
    Calls Try.prog 4 #[.int .u64 x, .int .u64 y, .int .i64 l, .int .i64 b] w (Quiet (.bool true) w) := by
  have k1 := fun w => Lib.hid (Chunk_calls x l b w hx hl hb)
  have k2 := fun w => Lib.hid (RefChunk_calls x l b w hx hl hb)
  have k3 := fun w => Lib.hid (Before_calls x y b w hx hy hb)
  have k4 := fun w => Lib.hid (RefBefore_calls x y b w hx hy hb)
  generalize chunk x l (cl b) = u at *
  generalize bef x y (cl b) = v at *
  go_enter Try.func4, Try.ntmps4
  go_wp2_with (first
    | (go_at_call 12; (with_reducible refine (k1 _).out.mono ?_); rintro e w' ⟨rfl, q, rfl⟩)
    | (go_at_call 13; (with_reducible refine (k2 _).out.mono ?_); rintro e w' ⟨rfl, q, rfl⟩)
    | (go_at_call 14; (with_reducible refine (k3 _).out.mono ?_); rintro e w' ⟨rfl, q, rfl⟩)
    | (go_at_call 15; (with_reducible refine (k4 _).out.mono ?_); rintro e w' ⟨rfl, q, rfl⟩)
    | (go_at_call 11; (with_reducible refine (works_calls _).mono ?_); rintro e w' ⟨rfl, q, rfl⟩))
  go_ret
  exact ⟨ret_bool (by simp), ⟨_, rfl⟩⟩
theorem HashChunks_calls (a c : Int) (l b : Int) (w : World) (ha : 0 ≤ a ∧ a ≤ 18446744073709551615) (hc : 0 ≤ c ∧ c ≤ 18446744073709551615) (hl : I64 l) (hb : I64 b) :
    Calls Try.prog 4 #[.int .u64 a, .int .u64 c, .int .i64 l, .int .i64 b] w (Quiet (.bool true) w) := by
  obtain ⟨x, rfl⟩ := Int.eq_ofNat_of_zero_le ha.1
  obtain ⟨y, rfl⟩ := Int.eq_ofNat_of_zero_le hc.1
  exact HashChunks_nat x y l b w (by omega) (by omega) hl hb

theorem digits_eq (n x y : Nat) (hx : x < 32 ^ n) (hy : y < 32 ^ n) (h : ∀ l, l < n → x / 32 ^ l % 32 = y / 32 ^ l % 32) : x = y := by
  induction n generalizing x y with
  | zero => simp at hx hy; omega
  | succ n ih =>
    have h0 := h 0 (by omega)
    simp at h0
    have hd : x / 32 = y / 32 := by
      refine ih (x / 32) (y / 32) ?_ ?_ (fun l hl => ?_)
      · rw [Nat.div_lt_iff_lt_mul (by decide)]; rwa [Nat.pow_succ] at hx
      · rw [Nat.div_lt_iff_lt_mul (by decide)]; rwa [Nat.pow_succ] at hy
      · have := h (l + 1) (by omega)
        rw [Nat.pow_succ', ← Nat.div_div_eq_div_mul, ← Nat.div_div_eq_div_mul] at this
        exact this
    omega
theorem chunks_eq (c x y : Nat) (hx : x < 2 ^ c) (hy : y < 2 ^ c) (h : ∀ l : Nat, l < (c + 4) / 5 → chunk x l c = chunk y l c) : x = y := by
  have e : (32 : Nat) = 2 ^ 5 := rfl
  have hp : 2 ^ c ≤ 32 ^ ((c + 4) / 5) := by
    rw [e, ← Nat.pow_mul]
    exact Nat.pow_le_pow_right (by decide) (by omega)
  refine digits_eq ((c + 4) / 5) x y (by omega) (by omega) (fun l hl => ?_)
  have := h l hl
  unfold chunk at this
  rw [if_pos (by omega), if_pos (by omega), Int.toNat_natCast, Nat.mod_eq_of_lt hx, Nat.mod_eq_of_lt hy] at this
  rw [e, ← Nat.pow_mul]
  exact this
theorem befF_anti (x y c l n : Nat) : (befF x y c l n || befF y x c l n) = decide (∃ k, k < n ∧ chunk x ((l + k : Nat) : Int) c ≠ chunk y ((l + k : Nat) : Int) c) ∧ (befF x y c l n && befF y x c l n) = false := by
  induction n generalizing l with
  | zero => simp [befF]
  | succ n ih =>
    unfold befF
    by_cases h : chunk x l c = chunk y l c
    · rw [if_pos h, if_pos h.symm]
      obtain ⟨h1, h2⟩ := ih (l + 1)
      rw [h1]
      refine ⟨?_, h2⟩
      congr 1
      apply propext
      constructor
      · rintro ⟨k, hk, hne⟩
        exact ⟨k + 1, by omega, by rw [show l + (k + 1) = l + 1 + k by omega]; exact hne⟩
      · rintro ⟨k, hk, hne⟩
        cases k with
        | zero => exact absurd h hne
        | succ k => exact ⟨k, by omega, by rw [show l + 1 + k = l + (k + 1) by omega]; exact hne⟩
    · rw [if_neg h, if_neg (fun e => h e.symm)]
      refine ⟨?_, ?_⟩
      · rw [decide_eq_true (⟨0, by omega, h⟩ : ∃ k, k < n + 1 ∧ chunk x ((l + k : Nat) : Int) c ≠ chunk y ((l + k : Nat) : Int) c)]
        simp; omega
      · simp; omega
theorem bef_total (c x y : Nat) (hx : x < 2 ^ c) (hy : y < 2 ^ c) : (bef x y c || bef y x c) = !decide (x = y) ∧ (bef x y c && bef y x c) = false := by
  obtain ⟨h1, h2⟩ := befF_anti x y c 0 ((c + 4) / 5)
  refine ⟨?_, h2⟩
  unfold bef
  rw [h1, ← decide_not]
  congr 1
  apply propext
  constructor
  · rintro ⟨k, hk, hne⟩ rfl
    exact hne rfl
  · intro hne
    by_cases hh : ∃ k, k < (c + 4) / 5 ∧ chunk x ((0 + k : Nat) : Int) c ≠ chunk y ((0 + k : Nat) : Int) c
    · exact hh
    · exfalso
      refine hne (chunks_eq c x y hx hy (fun l hl => ?_))
      by_cases e : chunk x l c = chunk y l c
      · exact e
      · exact absurd ⟨l, hl, by rw [Nat.zero_add]; exact e⟩ hh

def AllSame (x y c k : Nat) (S : Bool) : Prop := S = true ↔ ∀ j : Nat, j < k → chunk x j c = chunk y j c
set_option maxHeartbeats 1600000 in
theorem HashOrder_calls (s t : ByteArray) (b : Int) (w : World) (hs : s.size ≤ maxLen) (ht : t.size ≤ maxLen) (hb : I64 b) :
    Calls Try.prog 5 #[.string s, .string t, .int .i64 b] w (Quiet (.bool true) w) := by
  have k0 := fun w => Lib.hid (Cut3_calls s w hs)
  have k1 := fun w => Lib.hid (Cut3_calls t w ht)
  have sa := cut_size s 3000
  have sb := cut_size t 3000
  generalize s.extract 0 3000 = S at *
  generalize t.extract 0 3000 = T at *
  have k2 := fun w => Lib.hid (Of_calls S b w (by omega) hb)
  have k3 := fun w => Lib.hid (Of_calls T b w (by omega) hb)
  have k4 := fun w => Lib.hid (Levels_calls b w hb)
  have hx : fnv S.data.toList % 2 ^ cl b < 2 ^ cl b := Nat.mod_lt _ (Nat.two_pow_pos _)
  have hy : fnv T.data.toList % 2 ^ cl b < 2 ^ cl b := Nat.mod_lt _ (Nat.two_pow_pos _)
  have hx2 : fnv S.data.toList % 2 ^ cl b < 18446744073709551616 := Nat.lt_of_le_of_lt (Nat.mod_le _ _) (fnv_lt _)
  have hy2 : fnv T.data.toList % 2 ^ cl b < 18446744073709551616 := Nat.lt_of_le_of_lt (Nat.mod_le _ _) (fnv_lt _)
  generalize fnv S.data.toList % 2 ^ cl b = x at *
  generalize fnv T.data.toList % 2 ^ cl b = y at *
  have k5 := fun (l : Int) (hl : I64 l) w => Lib.hid (Chunk_calls x l b w hx2 hl hb)
  have k6 := fun (l : Int) (hl : I64 l) w => Lib.hid (Chunk_calls y l b w hy2 hl hb)
  have k7 := fun w => Lib.hid (Before_calls x y b w hx2 hy2 hb)
  have k8 := fun w => Lib.hid (Before_calls y x b w hy2 hx2 hb)
  have HE := Lib.hid (chunks_eq (cl b) x y hx hy)
  have HT := Lib.hid (bef_total (cl b) x y hx hy)
  have hc := cl_le b
  generalize bef x y (cl b) = u at *
  generalize bef y x (cl b) = v at *
  clear hx hy
  generalize cl b = c at *
  have hL : (c + 4) / 5 ≤ 13 := by omega
  generalize (c + 4) / 5 = L at *
  go_enter Try.func5, Try.ntmps5
  go_wp2_with (first
    | (go_at_call 6; (first | with_reducible refine (k0 _).out.mono ?_ | with_reducible refine (k1 _).out.mono ?_); rintro e w' ⟨rfl, q, rfl⟩)
    | (go_at_call 7; (first | with_reducible refine (k2 _).out.mono ?_ | with_reducible refine (k3 _).out.mono ?_); rintro e w' ⟨rfl, q, rfl⟩)
    | (go_at_call 11; (with_reducible refine (works_calls _).mono ?_); rintro e w' ⟨rfl, q, rfl⟩))
  go_loopw [9, 10] (fun m i wr => ∃ (k : Nat) (S : Bool), i = .int .i64 (k : Int) ∧ m = .bool S ∧ k ≤ L ∧ Hid (AllSame x y c k S) ∧ Drawn w wr) (fun _ i _ => 100 - (intOf i).toNat)
  case atStart => exact ⟨0, true, rfl, rfl, by omega, hide ⟨fun _ j h => by omega, fun _ => rfl⟩, _, rfl⟩
  case round =>
    obtain ⟨k, S, rfl, rfl, hk, HS, q, rfl⟩ := hrel
    by_cases hlt : k < L
    · have g1 : (k : Int) < (L : Int) := by omega
      have g2 : (k : Int) < 20 := by omega
      have c1 := k5 k (by unfold I64; omega)
      have c2 := k6 k (by unfold I64; omega)
      cases S
      · have HS2 : Hid (AllSame x y c (k + 1) false) := hide ⟨(fun h => by cases h), fun h => HS.out.2 (fun j hj => h j (by omega))⟩
        go_wp2_with (go_at_call 9; (with_reducible refine (k4 _).out.mono ?_); rintro e w' ⟨rfl, q, rfl⟩)
        go_roundw
        case rel => exact ⟨k + 1, false, by go_num, rfl, by omega, HS2, _, rfl⟩
        case measure => simp [intOf]; omega
      · by_cases he : chunk x k c = chunk y k c
        · have HS2 : Hid (AllSame x y c (k + 1) true) := hide ⟨fun _ j hj => by
            by_cases e : j = k
            · rw [e]; exact he
            · exact HS.out.1 rfl j (by omega), fun _ => rfl⟩
          rw [he] at c1
          clear he
          generalize chunk y k c = z at *
          go_wp2_with (first | (go_at_call 9; (with_reducible refine (k4 _).out.mono ?_); rintro e w' ⟨rfl, q, rfl⟩) | (go_at_call 12; (first | with_reducible refine (c1 _).out.mono ?_ | with_reducible refine (c2 _).out.mono ?_); rintro e w' ⟨rfl, q, rfl⟩))
          go_roundw
          case rel => exact ⟨k + 1, true, by go_num, by simp, by omega, HS2, _, rfl⟩
          case measure => simp [intOf]; omega
        · have HS2 : Hid (AllSame x y c (k + 1) false) := hide ⟨(fun h => by cases h), fun h => absurd (h k (by omega)) he⟩
          generalize chunk y k c = z1 at *
          generalize chunk x k c = z2 at *
          have e2 : ((z2 : Int) == (z1 : Int)) = false := by simp; omega
          clear he
          go_wp2_with (first | (go_at_call 9; (with_reducible refine (k4 _).out.mono ?_); rintro e w' ⟨rfl, q, rfl⟩) | (go_at_call 12; (first | with_reducible refine (c1 _).out.mono ?_ | with_reducible refine (c2 _).out.mono ?_); rintro e w' ⟨rfl, q, rfl⟩))
          go_roundw
          case rel => exact ⟨k + 1, false, by go_num, by simp, by omega, HS2, _, rfl⟩
          case measure => simp [intOf]; omega
    · have g1 : ¬ (k : Int) < (L : Int) := by omega
      have hkL : k = L := by omega
      have hS : S = decide (x = y) := by
        rw [Bool.eq_iff_iff, decide_eq_true_eq, show (S = true ↔ _) from HS.out]
        constructor
        · intro h
          exact HE.out (fun l hl => h l (by omega))
        · rintro rfl j hj; rfl
      obtain ⟨ht1, ht2⟩ := HT.out
      subst hS
      clear HS HE HT k5 k6 k0 k1 k2 k3
      by_cases hxy : x = y
      · have e0 : decide (x = y) = true := by simpa using hxy
        have e1 : ((x : Int) == (y : Int)) = true := by simp; omega
        have e2 : ((x : Int) != (y : Int)) = false := by simp; omega
        rw [e0] at ht1 ⊢
        clear hxy e0
        cases u <;> cases v <;> first | exact absurd ht1 (by decide) | exact absurd ht2 (by decide) | clear ht1 ht2
        all_goals
          go_wp2_with (first | (go_at_call 9; (with_reducible refine (k4 _).out.mono ?_); rintro e w' ⟨rfl, q, rfl⟩) | (go_at_call 14; (first | with_reducible refine (k7 _).out.mono ?_ | with_reducible refine (k8 _).out.mono ?_); rintro e w' ⟨rfl, q, rfl⟩))
          go_ret
          exact ⟨ret_bool (by simp), ⟨_, rfl⟩⟩
      · have e0 : decide (x = y) = false := by simpa using hxy
        have e1 : ((x : Int) == (y : Int)) = false := by simp; omega
        have e2 : ((x : Int) != (y : Int)) = true := by simp; omega
        rw [e0] at ht1 ⊢
        clear hxy e0
        cases u <;> cases v <;> first | exact absurd ht1 (by decide) | exact absurd ht2 (by decide) | clear ht1 ht2
        all_goals
          go_wp2_with (first | (go_at_call 9; (with_reducible refine (k4 _).out.mono ?_); rintro e w' ⟨rfl, q, rfl⟩) | (go_at_call 14; (first | with_reducible refine (k7 _).out.mono ?_ | with_reducible refine (k8 _).out.mono ?_); rintro e w' ⟨rfl, q, rfl⟩))
          go_ret
          exact ⟨ret_bool (by simp), ⟨_, rfl⟩⟩
end Go.Proofs.Ytahpfdfaaianpaa.Hash
