/- The laws of layer 5. -/
import Derived.Test.YtmoibknnkkaghaaPriTop2
namespace Go.Proofs.Ytmoibknnkkaghaa.Pri
open Go.RowKit
open Go.Proofs.Ytmoibknnkkaghaa.Hash (fnv fnv_lt I64 cl)
open Go.Proofs.Ytmoibknnkkaghaa.Ord (cmp less ext_list)
set_option linter.unusedVariables false

theorem abv_ab : abv ⟨#[97]⟩ ⟨#[98]⟩ = false := by decide +kernel
theorem abv_ba : abv ⟨#[98]⟩ ⟨#[97]⟩ = true := by decide +kernel
theorem top_ab : topOf [⟨#[97]⟩, ⟨#[98]⟩] = (⟨#[98]⟩, true) := by
  show ((if abv ⟨#[98]⟩ ⟨#[97]⟩ then (⟨#[98]⟩ : ByteArray) else ⟨#[97]⟩), true) = _
  rw [abv_ba]; rfl
theorem above_aa (w : World) : Calls Try.prog 9 #[.string ⟨#[97]⟩, .string ⟨#[97]⟩] w (Quiet (.bool false) w) := by
  have h := Above_calls ⟨#[97]⟩ ⟨#[97]⟩ w (by decide) (by decide)
  rwa [abv_irrefl] at h
theorem above_ab (w : World) : Calls Try.prog 9 #[.string ⟨#[97]⟩, .string ⟨#[98]⟩] w (Quiet (.bool false) w) := by
  have h := Above_calls ⟨#[97]⟩ ⟨#[98]⟩ w (by decide) (by decide)
  rwa [abv_ab] at h
theorem above_ba (w : World) : Calls Try.prog 9 #[.string ⟨#[98]⟩, .string ⟨#[97]⟩] w (Quiet (.bool true) w) := by
  have h := Above_calls ⟨#[98]⟩ ⟨#[97]⟩ w (by decide) (by decide)
  rwa [abv_ba] at h
theorem top_calls (w : World) (o : Obj) (ho : o = .cells #[.string ⟨#[97]⟩, .string ⟨#[98]⟩] 9) : Calls Try.prog 12 #[.slice (some ⟨w.heap.size, 0, none⟩) 2 2] (w.alloc o) (Quiet (.tuple #[.string ⟨#[98]⟩, .bool true]) (w.alloc o)) := by
  subst ho
  have hown := World.ownsRow_lit (base := w.heap.size) (e := 9) (size := 1) w #[.string ⟨#[97]⟩, .string ⟨#[98]⟩] 2 (Nat.le_refl _) (by decide) rfl
  have h := Top_calls (some ⟨w.heap.size, 0, none⟩) 2 [⟨#[97]⟩, ⟨#[98]⟩] (w.alloc (.cells #[.string ⟨#[97]⟩, .string ⟨#[98]⟩] 9)) (Rd.own hown) (by decide) (by decide) (by decide) (fun s hs => by
    rcases List.mem_cons.1 hs with rfl | hs
    · decide
    · rcases List.mem_cons.1 hs with rfl | hs
      · decide
      · cases hs)
  rw [top_ab] at h
  exact h
set_option maxHeartbeats 800000 in
theorem works_calls (w : World) : Calls Try.prog 11 #[] w fun e w' => e = .returned (.bool true) ∧ Below w.heap.size w w' := by
  have k1 := Lib.hid (top_calls w _ rfl)
  go_enter Try.func11, Try.ntmps11
  go_wp2_with (first
    | (go_at_call 12; (with_reducible refine k1.out.mono ?_); rintro e w' ⟨rfl, q, rfl⟩)
    | (go_at_call 9; (first | with_reducible refine (above_aa _).mono ?_ | with_reducible refine (above_ab _).mono ?_ | with_reducible refine (above_ba _).mono ?_); rintro e w' ⟨rfl, q, rfl⟩))
  go_ret
  exact ⟨rfl, ((Below.refl _ _).alloc (Nat.le_refl _) _).trans (Drawn.below' ⟨_, rfl⟩)⟩

theorem extract_ge (a : ByteArray) (n : Nat) (h : a.size ≤ n) : a = a.extract 0 n := by
  apply ByteArray.ext
  rw [ByteArray.data_extract]
  have : a.data.size = a.size := rfl
  exact (Array.extract_eq_self_of_le (by omega)).symm
theorem cut_size (a : ByteArray) (n : Nat) : (a.extract 0 n).size ≤ n := by simp; omega
set_option maxHeartbeats 400000 in
theorem Cut_calls (a : ByteArray) (n : Nat) (w : World) (ha : a.size ≤ maxLen) (hn : n ≤ 10000) :
    Calls Try.prog 6 #[.string a, .int .i64 n] w (Quiet (.string (a.extract 0 n)) w) := by
  unfold maxLen at ha
  by_cases h : a.size ≤ n
  · have H := hide (extract_ge a n h)
    go_enter Try.func6, Try.ntmps6
    go_wp2
    all_goals
      go_ret
      refine ⟨ret_str ?_, Drawn.refl _⟩
      first | exact H.out | rfl
  · go_enter Try.func6, Try.ntmps6
    go_wp2
    all_goals
      go_ret
      exact ⟨rfl, Drawn.refl _⟩
theorem Cut3_calls (a : ByteArray) (w : World) (ha : a.size ≤ maxLen) :
    Calls Try.prog 6 #[.string a, .int .i64 3000] w (Quiet (.string (a.extract 0 3000)) w) := Cut_calls a 3000 w ha (by decide)
theorem Cut1_calls (a : ByteArray) (w : World) (ha : a.size ≤ maxLen) :
    Calls Try.prog 6 #[.string a, .int .i64 100] w (Quiet (.string (a.extract 0 100)) w) := Cut_calls a 100 w ha (by decide)

set_option maxHeartbeats 800000 in
theorem PriOf_calls (a b : ByteArray) (w : World) (ha : a.size ≤ maxLen) (hb : b.size ≤ maxLen) :
    Calls Try.prog 3 #[.string a, .string b] w fun e w' => e = .returned (.bool true) ∧ Below w.heap.size w w' := by
  have sa := cut_size a 3000
  have sb := cut_size b 3000
  have k0 := fun w => Lib.hid (Cut3_calls a w ha)
  have k1 := fun w => Lib.hid (Cut3_calls b w hb)
  generalize a.extract 0 3000 = A at *
  generalize b.extract 0 3000 = B at *
  have k2 := fun w => Lib.hid (Of_calls A w (by omega))
  have k3 := fun w => Lib.hid (RefOf_calls A w (by omega))
  have k4 := fun w => Lib.hid (Above_calls A B w (by omega) (by omega))
  have k5 := fun w => Lib.hid (RefAbove_calls A B w (by omega) (by omega))
  generalize prio (fnv A.data.toList) = p at *
  generalize abv A B = t at *
  go_enter Try.func3, Try.ntmps3
  go_wp2_with (first
    | (go_at_call 6; (first | with_reducible refine (k0 _).out.mono ?_ | with_reducible refine (k1 _).out.mono ?_); rintro e w' ⟨rfl, q, rfl⟩)
    | (go_at_call 7; (with_reducible refine (k2 _).out.mono ?_); rintro e w' ⟨rfl, q, rfl⟩)
    | (go_at_call 8; (with_reducible refine (k3 _).out.mono ?_); rintro e w' ⟨rfl, q, rfl⟩)
    | (go_at_call 9; (with_reducible refine (k4 _).out.mono ?_); rintro e w' ⟨rfl, q, rfl⟩)
    | (go_at_call 10; (with_reducible refine (k5 _).out.mono ?_); rintro e w' ⟨rfl, q, rfl⟩)
    | (go_at_call 11; (with_reducible refine (works_calls _).mono ?_); rintro e w' ⟨rfl, hbw⟩))
  go_ret
  exact ⟨rfl, (Drawn.below' ⟨_, rfl⟩).trans hbw⟩

set_option maxHeartbeats 1600000 in
theorem PriTotal_calls (a b c : ByteArray) (w : World) (ha : a.size ≤ maxLen) (hb : b.size ≤ maxLen) (hc : c.size ≤ maxLen) :
    Calls Try.prog 5 #[.string a, .string b, .string c] w fun e w' => e = .returned (.bool true) ∧ Below w.heap.size w w' := by
  have sa := cut_size a 3000
  have sb := cut_size b 3000
  have sc := cut_size c 3000
  have k0 := fun w => Lib.hid (Cut3_calls a w ha)
  have k1 := fun w => Lib.hid (Cut3_calls b w hb)
  have k2 := fun w => Lib.hid (Cut3_calls c w hc)
  generalize a.extract 0 3000 = A at *
  generalize b.extract 0 3000 = B at *
  generalize c.extract 0 3000 = C at *
  have k4 := fun w => Lib.hid (Above_calls A B w (by omega) (by omega))
  have k5 := fun w => Lib.hid (Above_calls B A w (by omega) (by omega))
  have k6 := fun w => Lib.hid (Above_calls B C w (by omega) (by omega))
  have k7 := fun w => Lib.hid (Above_calls A C w (by omega) (by omega))
  have ht := abv_trans A B C
  have hT : if A = B then abv A B = false ∧ abv B A = false else abv A B = !abv B A := by
    by_cases e : A = B
    · rw [if_pos e, e]; exact ⟨abv_irrefl _, abv_irrefl _⟩
    · rw [if_neg e]; exact abv_total A B e
  generalize abv A B = x at *
  generalize abv B A = y at *
  generalize abv B C = z at *
  generalize abv A C = t at *
  by_cases hAB : A = B
  · rw [if_pos hAB] at hT
    obtain ⟨rfl, rfl⟩ := hT
    have e0 := str_eq hAB
    clear hAB ht
    go_enter Try.func5, Try.ntmps5
    go_wp2_with (first
      | (go_at_call 11; (with_reducible refine (works_calls _).mono ?_); rintro e w' ⟨rfl, hbw⟩)
      | (go_at_call 6; (first | with_reducible refine (k0 _).out.mono ?_ | with_reducible refine (k1 _).out.mono ?_ | with_reducible refine (k2 _).out.mono ?_); rintro e w' ⟨rfl, q, rfl⟩)
      | (go_at_call 9; (first | with_reducible refine (k4 _).out.mono ?_ | with_reducible refine (k5 _).out.mono ?_ | with_reducible refine (k6 _).out.mono ?_ | with_reducible refine (k7 _).out.mono ?_); rintro e w' ⟨rfl, q, rfl⟩))
    go_ret
    exact ⟨rfl, hbw.trans (Drawn.below' ⟨_, rfl⟩)⟩
  · rw [if_neg hAB] at hT
    have e0 := str_ne hAB
    clear hAB
    cases y <;> cases z <;> cases t <;> subst hT <;> first | exact absurd (ht rfl rfl) (by decide) | clear ht
    all_goals
      go_enter Try.func5, Try.ntmps5
      go_wp2_with (first
        | (go_at_call 11; (with_reducible refine (works_calls _).mono ?_); rintro e w' ⟨rfl, hbw⟩)
        | (go_at_call 6; (first | with_reducible refine (k0 _).out.mono ?_ | with_reducible refine (k1 _).out.mono ?_ | with_reducible refine (k2 _).out.mono ?_); rintro e w' ⟨rfl, q, rfl⟩)
        | (go_at_call 9; (first | with_reducible refine (k4 _).out.mono ?_ | with_reducible refine (k5 _).out.mono ?_ | with_reducible refine (k6 _).out.mono ?_ | with_reducible refine (k7 _).out.mono ?_); rintro e w' ⟨rfl, q, rfl⟩))
      go_ret
      exact ⟨rfl, hbw.trans (Drawn.below' ⟨_, rfl⟩)⟩
end Go.Proofs.Ytmoibknnkkaghaa.Pri
