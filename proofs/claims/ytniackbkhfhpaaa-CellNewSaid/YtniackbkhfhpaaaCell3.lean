/- The law CellNew. -/
import Derived.Test.YtniackbkhfhpaaaCell2
namespace Go.Proofs.Ytniackbkhfhpaaa.Ce
open Go.RowKit
set_option linter.unusedVariables false
set_option linter.unusedSimpArgs false
set_option maxRecDepth 100000 in
set_option maxHeartbeats 6400000 in
theorem CellNew_calls (n i : Int) (w : World) (hn : I64 n) (hi : I64 i) :
    Calls Try.prog 4 #[.int .i64 n, .int .i64 i] w (Fresh (.bool true) w) := by
  have k1 := fun w => Lib.hid (Load_nil i w hi)
  have k2 := fun x h => Lib.hid (Cas_emp w.heap.size i 0 0 0 0 1 0 x hi h)
  have k3 := fun w => Lib.hid (Swap_nil i 0 1 0 w hi)
  have k4 := fun x h => Lib.hid (Store_emp w.heap.size i 0 0 0 x hi h)
  have k5 := fun w => Lib.hid (Count_nil w)
  have k6 := fun x h => Lib.hid (Count_emp w.heap.size x h)
  have k7 := fun w => Lib.hid (Peek_nil i w hi)
  have k8 := fun x h => Lib.hid (Peek_emp w.heap.size i x hi h)
  have HE : Hid (Em w.heap.size (w.alloc (.cells #[.bool false, .slice none 0 0, .int .i64 0] 45))) := Lib.hid ⟨by simp [go_sem], by simp [go_sem]⟩
  have HR := Lib.hid (Below.refl (w.alloc (.cells #[.bool false, .slice none 0 0, .int .i64 0] 45)).heap.size (w.alloc (.cells #[.bool false, .slice none 0 0, .int .i64 0] 45)))
  go_enter Try.func4, Try.ntmps4
  go_wp2_with fail
  refine (k1 _).out.mono ?_
  rintro e w' ⟨rfl, hB⟩
  have HR2 := Lib.hid (below_via HR.out (Nat.le_refl _) (by repeat (first | with_reducible exact Below.refl _ _ | with_reducible refine below_drewN ?_ _ | with_reducible refine below_alloc ?_ (Nat.le_refl _) _)) hB)
  clear HR hB
  have HR := HR2
  clear HR2
  go_wp2_with fail
  refine (k2 _ (HE.out.below (by repeat (first | with_reducible exact HR.out | with_reducible refine below_drewN ?_ _ | with_reducible refine below_alloc ?_ (Nat.le_refl _) _)))).out.mono ?_
  rintro e w' ⟨rfl, hB⟩
  have HR2 := Lib.hid (below_via HR.out (Nat.le_refl _) (by repeat (first | with_reducible exact Below.refl _ _ | with_reducible refine below_drewN ?_ _ | with_reducible refine below_alloc ?_ (Nat.le_refl _) _)) hB)
  clear HR hB
  have HR := HR2
  clear HR2
  go_wp2_with fail
  refine (k3 _).out.mono ?_
  rintro e w' ⟨rfl, hB⟩
  have HR2 := Lib.hid (below_via HR.out (Nat.le_refl _) (by repeat (first | with_reducible exact Below.refl _ _ | with_reducible refine below_drewN ?_ _ | with_reducible refine below_alloc ?_ (Nat.le_refl _) _)) hB)
  clear HR hB
  have HR := HR2
  clear HR2
  go_wp2_with fail
  refine (k4 _ (HE.out.below (by repeat (first | with_reducible exact HR.out | with_reducible refine below_drewN ?_ _ | with_reducible refine below_alloc ?_ (Nat.le_refl _) _)))).out.mono ?_
  rintro e w' ⟨rfl, hB⟩
  have HR2 := Lib.hid (below_via HR.out (Nat.le_refl _) (by repeat (first | with_reducible exact Below.refl _ _ | with_reducible refine below_drewN ?_ _ | with_reducible refine below_alloc ?_ (Nat.le_refl _) _)) hB)
  clear HR hB
  have HR := HR2
  clear HR2
  go_wp2_with fail
  refine (k5 _).out.mono ?_
  rintro e w' ⟨rfl, q, rfl⟩
  go_wp2_with fail
  refine (k6 _ (HE.out.below (by repeat (first | with_reducible exact HR.out | with_reducible refine below_drewN ?_ _ | with_reducible refine below_alloc ?_ (Nat.le_refl _) _)))).out.mono ?_
  rintro e w' ⟨rfl, q, rfl⟩
  go_wp2_with fail
  refine (k7 _).out.mono ?_
  rintro e w' ⟨rfl, hB⟩
  have HR2 := Lib.hid (below_via HR.out (Nat.le_refl _) (by repeat (first | with_reducible exact Below.refl _ _ | with_reducible refine below_drewN ?_ _ | with_reducible refine below_alloc ?_ (Nat.le_refl _) _)) hB)
  clear HR hB
  have HR := HR2
  clear HR2
  go_wp2_with fail
  refine (k8 _ (HE.out.below (by repeat (first | with_reducible exact HR.out | with_reducible refine below_drewN ?_ _ | with_reducible refine below_alloc ?_ (Nat.le_refl _) _)))).out.mono ?_
  rintro e w' ⟨rfl, hB⟩
  have HR2 := Lib.hid (below_via HR.out (Nat.le_refl _) (by repeat (first | with_reducible exact Below.refl _ _ | with_reducible refine below_drewN ?_ _ | with_reducible refine below_alloc ?_ (Nat.le_refl _) _)) hB)
  clear HR hB
  have HR := HR2
  clear HR2
  clear k1 k2 k3 k4 k5 k6 k7 k8
  go_wp2_with fail
  by_cases hb : n < 0 ∨ 200 < n
  · refine (New_bad n _ hn hb).mono ?_
    rintro e w' ⟨rfl, q, rfl⟩
    have kw := fun w => Lib.hid (works_calls w)
    unfold I64 at hn
    rcases hb with hb | hb
    · go_wp2_with fail
      refine (kw _).out.mono ?_
      rintro e w' ⟨rfl, hB⟩
      have HR2 := Lib.hid (below_via HR.out (Nat.le_refl _) (by repeat (first | with_reducible exact Below.refl _ _ | with_reducible refine below_drewN ?_ _ | with_reducible refine below_alloc ?_ (Nat.le_refl _) _)) hB)
      clear HR hB
      have HR := HR2
      clear HR2
      go_wp2
      refine bodyPost_ret (v := .bool true) (by first | (simp [results, Try.results4, go_sem]; done) | (simp [results, Try.results4, go_sem]; assumption)) rfl ⟨rfl, ?_⟩
      exact below_step (below_alloc (Below.refl _ w) (Nat.le_refl _) (.cells #[.bool false, .slice none 0 0, .int .i64 0] 45)) (Nat.le_refl _) HR.out
    · have hb0 : ¬ n < 0 := by omega
      go_wp2_with fail
      refine (kw _).out.mono ?_
      rintro e w' ⟨rfl, hB⟩
      have HR2 := Lib.hid (below_via HR.out (Nat.le_refl _) (by repeat (first | with_reducible exact Below.refl _ _ | with_reducible refine below_drewN ?_ _ | with_reducible refine below_alloc ?_ (Nat.le_refl _) _)) hB)
      clear HR hB
      have HR := HR2
      clear HR2
      go_wp2
      refine bodyPost_ret (v := .bool true) (by first | (simp [results, Try.results4, go_sem]; done) | (simp [results, Try.results4, go_sem]; assumption)) rfl ⟨rfl, ?_⟩
      exact below_step (below_alloc (Below.refl _ w) (Nat.le_refl _) (.cells #[.bool false, .slice none 0 0, .int .i64 0] 45)) (Nat.le_refl _) HR.out
  · obtain ⟨N, rfl⟩ := Int.eq_ofNat_of_zero_le (show 0 ≤ n by omega)
    have hN : N ≤ 200 := by omega
    have g1 : ¬ (N : Int) < 0 := by omega
    have g2 : ¬ 200 < (N : Int) := by omega
    refine (New_ok N _ hN).mono ?_
    rintro e w9 ⟨b, g, rfl, hb1, hg1, hB1, hC1⟩
    have kw := fun w => Lib.hid (works_calls w)
    have kL := Lib.hid (Load_ok _ b g N 0 i w9 hb1 hB1.size hN (by omega) (by omega) hi hC1)
    unfold code at kL
    clear hC1 hb1 hg1 hb
    unfold I64 at hn hi
    by_cases hc : 0 ≤ i ∧ i < (N : Int)
    · obtain ⟨hc1, hc2⟩ := hc
      rw [if_pos ⟨hc1, hc2⟩] at kL
      go_wp2_with fail
      refine kL.out.mono ?_
      rintro e w' ⟨rfl, hB2⟩
      have hB := hB1.trans hB2
      clear hB1 hB2 kL
      have HR2 := Lib.hid (below_via HR.out (Nat.le_refl _) (by repeat (first | with_reducible exact Below.refl _ _ | with_reducible refine below_drewN ?_ _ | with_reducible refine below_alloc ?_ (Nat.le_refl _) _)) hB)
      clear HR hB
      have HR := HR2
      clear HR2
      go_wp2_with fail
      refine (kw _).out.mono ?_
      rintro e w' ⟨rfl, hB⟩
      have HR2 := Lib.hid (below_via HR.out (Nat.le_refl _) (by repeat (first | with_reducible exact Below.refl _ _ | with_reducible refine below_drewN ?_ _ | with_reducible refine below_alloc ?_ (Nat.le_refl _) _)) hB)
      clear HR hB
      have HR := HR2
      clear HR2
      go_wp2
      refine bodyPost_ret (v := .bool true) (by first | (simp [results, Try.results4, go_sem]; done) | (simp [results, Try.results4, go_sem]; assumption)) rfl ⟨rfl, ?_⟩
      exact below_step (below_alloc (Below.refl _ w) (Nat.le_refl _) (.cells #[.bool false, .slice none 0 0, .int .i64 0] 45)) (Nat.le_refl _) HR.out
    · rw [if_neg hc] at kL
      by_cases hc1 : i < 0
      · have hc3 : ¬ 0 ≤ i := by omega
        clear hc
        go_wp2_with fail
        refine kL.out.mono ?_
        rintro e w' ⟨rfl, hB2⟩
        have hB := hB1.trans hB2
        clear hB1 hB2 kL
        have HR2 := Lib.hid (below_via HR.out (Nat.le_refl _) (by repeat (first | with_reducible exact Below.refl _ _ | with_reducible refine below_drewN ?_ _ | with_reducible refine below_alloc ?_ (Nat.le_refl _) _)) hB)
        clear HR hB
        have HR := HR2
        clear HR2
        go_wp2_with fail
        refine (kw _).out.mono ?_
        rintro e w' ⟨rfl, hB⟩
        have HR2 := Lib.hid (below_via HR.out (Nat.le_refl _) (by repeat (first | with_reducible exact Below.refl _ _ | with_reducible refine below_drewN ?_ _ | with_reducible refine below_alloc ?_ (Nat.le_refl _) _)) hB)
        clear HR hB
        have HR := HR2
        clear HR2
        go_wp2
        refine bodyPost_ret (v := .bool true) (by first | (simp [results, Try.results4, go_sem]; done) | (simp [results, Try.results4, go_sem]; assumption)) rfl ⟨rfl, ?_⟩
        exact below_step (below_alloc (Below.refl _ w) (Nat.le_refl _) (.cells #[.bool false, .slice none 0 0, .int .i64 0] 45)) (Nat.le_refl _) HR.out
      · have hc2 : ¬ i < (N : Int) := by omega
        have hc3 : 0 ≤ i := by omega
        clear hc
        go_wp2_with fail
        refine kL.out.mono ?_
        rintro e w' ⟨rfl, hB2⟩
        have hB := hB1.trans hB2
        clear hB1 hB2 kL
        have HR2 := Lib.hid (below_via HR.out (Nat.le_refl _) (by repeat (first | with_reducible exact Below.refl _ _ | with_reducible refine below_drewN ?_ _ | with_reducible refine below_alloc ?_ (Nat.le_refl _) _)) hB)
        clear HR hB
        have HR := HR2
        clear HR2
        go_wp2_with fail
        refine (kw _).out.mono ?_
        rintro e w' ⟨rfl, hB⟩
        have HR2 := Lib.hid (below_via HR.out (Nat.le_refl _) (by repeat (first | with_reducible exact Below.refl _ _ | with_reducible refine below_drewN ?_ _ | with_reducible refine below_alloc ?_ (Nat.le_refl _) _)) hB)
        clear HR hB
        have HR := HR2
        clear HR2
        go_wp2
        refine bodyPost_ret (v := .bool true) (by first | (simp [results, Try.results4, go_sem]; done) | (simp [results, Try.results4, go_sem]; assumption)) rfl ⟨rfl, ?_⟩
        exact below_step (below_alloc (Below.refl _ w) (Nat.le_refl _) (.cells #[.bool false, .slice none 0 0, .int .i64 0] 45)) (Nat.le_refl _) HR.out
end Go.Proofs.Ytniackbkhfhpaaa.Ce
