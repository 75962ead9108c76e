/- The laws of layer 1. -/
import Derived.Test.YtkllelalbglfgaaOrd
namespace Go.Proofs.Ytkllelalbglfgaa.Ord
open Go.RowKit
set_option linter.unusedVariables false

theorem mid1 (w : World) : Calls Try.prog 16 #[.string ⟨#[97, 98, 99]⟩, .string ⟨#[98]⟩] w (Quiet (.tuple #[.string ⟨#[98]⟩, .bool true]) w) := by
  have h := Middle_calls ⟨#[97, 98, 99]⟩ ⟨#[98]⟩ w (by decide) (by decide)
  have e : mid ⟨#[97, 98, 99]⟩ ⟨#[98]⟩ = (⟨#[98]⟩, true) := by
    unfold mid; rw [if_pos (by decide)]; rfl
  rwa [e] at h
theorem mid2 (w : World) : Calls Try.prog 16 #[.string ⟨#[97]⟩, .string ⟨#[97, 98, 99]⟩] w (Quiet (.tuple #[.string ⟨#[97, 98]⟩, .bool true]) w) := by
  have h := Middle_calls ⟨#[97]⟩ ⟨#[97, 98, 99]⟩ w (by decide) (by decide)
  have e : mid ⟨#[97]⟩ ⟨#[97, 98, 99]⟩ = (⟨#[97, 98]⟩, true) := by
    unfold mid; rw [if_pos (by decide)]; rfl
  rwa [e] at h
theorem cmp1 (w : World) : Calls Try.prog 8 #[.string ⟨#[97]⟩, .string ⟨#[98]⟩] w (Quiet (.int .i64 (-1)) w) := 
  Compare_calls ⟨#[97]⟩ ⟨#[98]⟩ w (by decide) (by decide)
set_option maxHeartbeats 800000 in
theorem works_calls (w : World) : Calls Try.prog 14 #[] w (Quiet (.bool true) w) := by
  go_enter Try.func14, Try.ntmps14
  go_wp2_with fail
  refine (mid1 _).mono ?_
  rintro e w' ⟨rfl, q, rfl⟩
  go_wp2_with fail
  refine (mid2 _).mono ?_
  rintro e w' ⟨rfl, q2, rfl⟩
  go_wp2_with fail
  refine (cmp1 _).mono ?_
  rintro e w' ⟨rfl, q3, rfl⟩
  go_wp2_with fail
  go_ret
  exact ⟨rfl, ⟨_, rfl⟩⟩

theorem cut_size (a : ByteArray) (n : Nat) : (a.extract 0 n).size ≤ n := by simp; omega
theorem le_max {n : Nat} (m : Nat) (h : n ≤ m) (hm : m ≤ 100000 := by decide) : n ≤ maxLen := by simp only [maxLen]; omega

theorem between_ref (a b c : List UInt8) : (decide (cmp a c ≤ 0) && decide (cmp c b < 0)) = (!less c a && less c b) := by
  unfold less
  rw [cmp_anti a c]
  rcases cmp_cases a c with h | h | h <;> rcases cmp_cases c b with g | g | g <;> simp [h, g]

set_option maxHeartbeats 800000 in
theorem OrderCompares_calls (a b c : ByteArray) (w : World) (ha : a.size ≤ maxLen) (hb : b.size ≤ maxLen) (hc : c.size ≤ maxLen) :
    Calls Try.prog 3 #[.string a, .string b, .string c] w (Quiet (.bool true) w) := by
  have sa := cut_size a 2000
  have sb := cut_size b 2000
  have sc := cut_size c 2000
  go_enter Try.func3, Try.ntmps3
  go_wp2_with fail
  refine (Cut_calls a 2000 _ ha (by decide)).mono ?_
  rintro e w' ⟨rfl, q, rfl⟩
  go_wp2_with fail
  refine (Cut_calls b 2000 _ hb (by decide)).mono ?_
  rintro e w' ⟨rfl, q, rfl⟩
  go_wp2_with fail
  refine (Cut_calls c 2000 _ hc (by decide)).mono ?_
  rintro e w' ⟨rfl, q, rfl⟩
  generalize a.extract 0 2000 = A at *
  generalize b.extract 0 2000 = B at *
  generalize c.extract 0 2000 = C at *
  have hA := le_max 2000 sa
  have hB := le_max 2000 sb
  have hC := le_max 2000 sc
  go_wp2_with fail
  refine (Compare_calls A B _ hA hB).mono ?_
  rintro e w' ⟨rfl, q, rfl⟩
  go_wp2_with fail
  refine (RefCompare_calls A B _ hA hB).mono ?_
  rintro e w' ⟨rfl, q, rfl⟩
  go_wp2_with fail
  refine (Common_calls A B _ hA hB).mono ?_
  rintro e w' ⟨rfl, q, rfl⟩
  go_wp2_with fail
  refine (RefCommon_calls A B _ hA hB).mono ?_
  rintro e w' ⟨rfl, q, rfl⟩
  go_wp2_with fail
  refine (Between_calls A B C _ hA hB hC).mono ?_
  rintro e w' ⟨rfl, q, rfl⟩
  have hbr := between_ref A.data.toList B.data.toList C.data.toList
  generalize (decide (cmp A.data.toList C.data.toList ≤ 0) && decide (cmp C.data.toList B.data.toList < 0)) = X at *
  go_wp2_with fail
  refine (RefLess_calls C A _ hC hA).mono ?_
  rintro e w' ⟨rfl, q, rfl⟩
  generalize less C.data.toList A.data.toList = Y at *
  cases Y
  · go_wp2_with fail
    refine (RefLess_calls C B _ hC hB).mono ?_
    rintro e w' ⟨rfl, q, rfl⟩
    simp only [Bool.not_false, Bool.true_and] at hbr
    subst hbr
    generalize less C.data.toList B.data.toList = Z
    go_wp2_with fail
    refine (works_calls _).mono ?_
    rintro e w' ⟨rfl, q, rfl⟩
    go_wp2_with fail
    go_ret
    exact ⟨rfl, ⟨_, rfl⟩⟩
  · have hX : X = false := by simpa using hbr
    subst hX
    clear hbr
    go_wp2_with fail
    refine (works_calls _).mono ?_
    rintro e w' ⟨rfl, q, rfl⟩
    go_wp2_with fail
    go_ret
    exact ⟨rfl, ⟨_, rfl⟩⟩

set_option maxHeartbeats 800000 in
theorem OrderNext_calls (a b : ByteArray) (w : World) (ha : a.size ≤ maxLen) (hb : b.size ≤ maxLen) :
    Calls Try.prog 4 #[.string a, .string b] w (Quiet (.bool true) w) := by
  have sa := cut_size a 2000
  have sb := cut_size b 2000
  go_enter Try.func4, Try.ntmps4
  go_wp2_with fail
  refine (Cut_calls a 2000 _ ha (by decide)).mono ?_
  rintro e w' ⟨rfl, q, rfl⟩
  go_wp2_with fail
  refine (Cut_calls b 2000 _ hb (by decide)).mono ?_
  rintro e w' ⟨rfl, q, rfl⟩
  generalize a.extract 0 2000 = A at *
  generalize b.extract 0 2000 = B at *
  have hA := le_max 2000 sa
  have hB := le_max 2000 sb
  go_wp2_with fail
  refine (Next_calls A _ (by omega)).mono ?_
  rintro e w' ⟨rfl, q, rfl⟩
  have hC : (A ++ ⟨#[0]⟩).size ≤ maxLen := by simp only [ByteArray.size_append, maxLen]; show A.size + 1 ≤ _; omega
  have hab := cmp_snoc0 A.data.toList B.data.toList
  have hcl : (A ++ ⟨#[0]⟩ : ByteArray).data.toList = A.data.toList ++ [0] := by simp
  rw [← hcl] at hab
  clear hcl
  have Hab := Lib.hid hab
  clear hab
  go_wp2_with fail
  generalize (A ++ ⟨#[0]⟩ : ByteArray) = D at *
  refine (Between_calls A D B _ hA hC hB).mono ?_
  rintro e w' ⟨rfl, q, rfl⟩
  obtain ⟨X, hX⟩ : ∃ X, X = (decide (cmp A.data.toList B.data.toList ≤ 0) && decide (cmp B.data.toList D.data.toList < 0)) := ⟨_, rfl⟩
  rw [← hX]
  by_cases hAB : A = B
  · have hX' : X = true := by
      rw [hX, Bool.and_eq_true, decide_eq_true_eq, decide_eq_true_eq, Hab.out, hAB]
    subst hX'
    subst hAB
    clear hX Hab
    go_wp2_with fail
    refine (works_calls _).mono ?_
    rintro e w' ⟨rfl, q, rfl⟩
    go_wp2_with fail
    go_ret
    exact ⟨rfl, ⟨_, rfl⟩⟩
  · have hX' : X = false := by
      rw [hX, ← Bool.not_eq_true, Bool.and_eq_true, decide_eq_true_eq, decide_eq_true_eq, Hab.out]
      exact fun h => hAB (ext_list h)
    subst hX'
    clear hX Hab
    have hne := str_ne hAB
    go_wp2_with fail
    refine (works_calls _).mono ?_
    rintro e w' ⟨rfl, q, rfl⟩
    go_wp2_with fail
    go_ret
    exact ⟨rfl, ⟨_, rfl⟩⟩

set_option maxHeartbeats 800000 in
theorem OrderMiddle_calls (a b : ByteArray) (w : World) (ha : a.size ≤ maxLen) (hb : b.size ≤ maxLen) :
    Calls Try.prog 5 #[.string a, .string b] w (Quiet (.bool true) w) := by
  have sa := cut_size a 300
  have sb := cut_size b 300
  go_enter Try.func5, Try.ntmps5
  go_wp2_with fail
  refine (Cut_calls a 300 _ ha (by decide)).mono ?_
  rintro e w' ⟨rfl, q, rfl⟩
  go_wp2_with fail
  refine (Cut_calls b 300 _ hb (by decide)).mono ?_
  rintro e w' ⟨rfl, q, rfl⟩
  generalize a.extract 0 300 = A at *
  generalize b.extract 0 300 = B at *
  have hA := le_max 300 sa
  have hB := le_max 300 sb
  go_wp2_with fail
  refine (Middle_calls A B _ hA hB).mono ?_
  rintro e w' ⟨rfl, q, rfl⟩
  go_wp2_with fail
  refine (RefMiddle_calls A B _ hA (by omega)).mono ?_
  rintro e w' ⟨rfl, q, rfl⟩
  generalize mid A B = m at *
  go_wp2_with fail
  refine (works_calls _).mono ?_
  rintro e w' ⟨rfl, q, rfl⟩
  go_wp2_with fail
  go_ret
  exact ⟨ret_bool (by simp), ⟨_, rfl⟩⟩

set_option maxHeartbeats 1600000 in
theorem OrderShort_calls (a b c : ByteArray) (w : World) (ha : a.size ≤ maxLen) (hb : b.size ≤ maxLen) (hc : c.size ≤ maxLen) :
    Calls Try.prog 6 #[.string a, .string b, .string c] w (Quiet (.bool true) w) := by
  have sa := cut_size a 300
  have sb := cut_size b 300
  have sc := cut_size c 300
  go_enter Try.func6, Try.ntmps6
  go_wp2_with fail
  refine (works_calls _).mono ?_
  rintro e w' ⟨rfl, q, rfl⟩
  go_wp2_with fail
  refine (Cut_calls a 300 _ ha (by decide)).mono ?_
  rintro e w' ⟨rfl, q, rfl⟩
  go_wp2_with fail
  refine (Cut_calls b 300 _ hb (by decide)).mono ?_
  rintro e w' ⟨rfl, q, rfl⟩
  go_wp2_with fail
  refine (Cut_calls c 300 _ hc (by decide)).mono ?_
  rintro e w' ⟨rfl, q, rfl⟩
  generalize a.extract 0 300 = A at *
  generalize b.extract 0 300 = B at *
  generalize c.extract 0 300 = C at *
  have hA := le_max 300 sa
  have hB := le_max 300 sb
  have hC := le_max 300 sc
  go_wp2_with fail
  refine (Middle_calls A B _ hA hB).mono ?_
  rintro e w' ⟨rfl, q, rfl⟩
  by_cases hlt : cmp A.data.toList B.data.toList < 0
  · obtain ⟨M, hM⟩ : ∃ M, M = B.extract 0 (com A.data.toList B.data.toList + 1) := ⟨_, rfl⟩
    have hm : mid A B = (M, true) := by unfold mid; rw [if_pos hlt, hM]
    have hMl : M.data.toList = B.data.toList.take (com A.data.toList B.data.toList + 1) := by rw [hM, extract_list]
    have hn := com_lt_of_neg _ _ hlt
    have hMs : M.size = com A.data.toList B.data.toList + 1 := by
      rw [hM]; simp at hn ⊢
      have : B.data.size = B.size := rfl
      omega
    have hMm : M.size ≤ maxLen := by rw [hM]; simp only [ByteArray.size_extract, maxLen] at *; omega
    have k1 := mid_after _ _ hlt
    have k2 := take_le B.data.toList (com A.data.toList B.data.toList + 1)
    have k3 := short A.data.toList B.data.toList C.data.toList
    rw [← hMl] at k1 k2
    rw [← hMs] at k3
    have e3 : C.data.toList.length = C.size := by simp
    rw [e3] at k3
    rw [hm]
    have c1 := fun w => Compare_calls A C w hA hC
    have c2 := fun w => Compare_calls C B w hC hB
    have c3 := fun w => Compare_calls A M w hA hMm
    have c4 := fun w => Compare_calls M B w hMm hB
    generalize cmp A.data.toList C.data.toList = x1 at *
    generalize cmp C.data.toList B.data.toList = x2 at *
    generalize cmp A.data.toList M.data.toList = x3 at *
    generalize cmp M.data.toList B.data.toList = x4 at *
    have C1 := fun w => Lib.hid (c1 w)
    have C2 := fun w => Lib.hid (c2 w)
    have C3 := fun w => Lib.hid (c3 w)
    have C4 := fun w => Lib.hid (c4 w)
    have K3 := Lib.hid k3
    clear c1 c2 c3 c4 k3 hM hm hMl hMs e3 hlt hn
    go_wp2_with fail
    refine (C1 _).out.mono ?_
    rintro e w' ⟨rfl, q, rfl⟩
    by_cases h1 : x1 < 0
    · go_wp2_with fail
      refine (C2 _).out.mono ?_
      rintro e w' ⟨rfl, q, rfl⟩
      by_cases h2 : x2 ≤ 0
      · have K4 := K3.out h1 h2
        go_wp2_with fail
        refine (C3 _).out.mono ?_
        rintro e w' ⟨rfl, q, rfl⟩
        go_wp2_with fail
        refine (C4 _).out.mono ?_
        rintro e w' ⟨rfl, q, rfl⟩
        go_wp2_with fail
        go_ret
        exact ⟨rfl, ⟨_, rfl⟩⟩
      · go_wp2_with fail
        refine (C3 _).out.mono ?_
        rintro e w' ⟨rfl, q, rfl⟩
        go_wp2_with fail
        refine (C4 _).out.mono ?_
        rintro e w' ⟨rfl, q, rfl⟩
        go_wp2_with fail
        go_ret
        exact ⟨rfl, ⟨_, rfl⟩⟩
    · go_wp2_with fail
      refine (C3 _).out.mono ?_
      rintro e w' ⟨rfl, q, rfl⟩
      go_wp2_with fail
      refine (C4 _).out.mono ?_
      rintro e w' ⟨rfl, q, rfl⟩
      go_wp2_with fail
      go_ret
      exact ⟨rfl, ⟨_, rfl⟩⟩
  · have hm : mid A B = (⟨#[]⟩, false) := by unfold mid; rw [if_neg hlt]
    rw [hm]
    have c1 := fun w => Compare_calls A B w hA hB
    generalize cmp A.data.toList B.data.toList = x1 at *
    have C1 := fun w => Lib.hid (c1 w)
    clear c1
    go_wp2_with fail
    refine (C1 _).out.mono ?_
    rintro e w' ⟨rfl, q, rfl⟩
    go_wp2_with fail
    go_ret
    exact ⟨ret_bool (by simp; first | done | omega), ⟨_, rfl⟩⟩

end Go.Proofs.Ytkllelalbglfgaa.Ord
