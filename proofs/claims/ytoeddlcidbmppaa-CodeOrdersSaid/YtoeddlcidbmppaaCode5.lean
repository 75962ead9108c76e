/- Values given on; the example; the laws of layer 3. -/
import Derived.Test.YtoeddlcidbmppaaCode4
import Derived.Test.YtoeddlcidbmppaaOrd
import Derived.StillTailTactics
import Derived.Deep.RegionHeld3
import Derived.Deep.DrawnRows
import Derived.Deep.RegionWith
namespace Go.Proofs.Ytoeddlcidbmppaa.Co
open Go.RowKit
open Go.Proofs.Ytoeddlcidbmppaa.Fl (rk uf uok isnan ub)
set_option linter.unusedVariables false
set_option linter.unusedSimpArgs false
theorem Cut40_calls (S : ByteArray) (w : World) (hS : S.size ≤ maxLen) : Calls Try.prog 12 #[.string S, .int .i64 40] w (Quiet (.string (S.extract 0 40)) w) := Ord.Cut_calls S 40 w hS (by omega)
set_option maxHeartbeats 400000 in
theorem Cut40_still (S : ByteArray) (w : World) (hS : S.size ≤ maxLen) : Calls Try.prog 12 #[.string S, .int .i64 40] w (fun e w' => e = .returned (.string (S.extract 0 40)) ∧ w' = w) := by
  unfold maxLen at hS
  by_cases h : S.size ≤ 40
  · have H := hide (Ord.extract_ge S 40 h)
    go_enter Try.func12, Try.ntmps12
    go_wp2
    all_goals
      go_ret
      refine ⟨ret_str ?_, rfl⟩
      first | exact H.out | rfl
  · go_enter Try.func12, Try.ntmps12
    go_wp2
    all_goals
      go_ret
      exact ⟨rfl, rfl⟩
set_option maxHeartbeats 800000 in
theorem Give_calls (k N : Int) (F : Nat) (S : ByteArray) (w : World) (hS : S.size ≤ maxLen) :
    Calls Try.prog 8 #[.agg #[.int .i64 k, .int .i64 N, .int .u64 F, .string S]] w (Fresh (.agg #[.int .i64 k, .int .i64 N, .int .u64 F, .string (S.extract 0 40)]) w) := by
  have k1 := fun w => Lib.hid (Cut40_still S w hS)
  generalize S.extract 0 40 = C at *
  obtain ⟨W, hW⟩ : ∃ W, W = (w.alloc (.cells #[.int .i64 k, .int .i64 N, .int .u64 F, .string S] 24)).alloc (.cells #[.int .i64 0, .int .i64 0, .int .u64 0, .string ⟨#[]⟩] 28) := ⟨_, rfl⟩
  have c0 : W.cell? ⟨w.heap.size, 0, none⟩ = some (.int .i64 k) := by rw [hW]; simp [go_sem]
  have c1 : W.cell? ⟨w.heap.size, 1, none⟩ = some (.int .i64 N) := by rw [hW]; simp [go_sem]
  have c2 : W.cell? ⟨w.heap.size, 2, none⟩ = some (.int .u64 F) := by rw [hW]; simp [go_sem]
  have c3 : W.cell? ⟨w.heap.size, 3, none⟩ = some (.string S) := by rw [hW]; simp [go_sem]
  have d0 : W.cell? ⟨w.heap.size + 1, 0, none⟩ = some (.int .i64 0) := by rw [hW]; simp [go_sem]
  have d1 : W.cell? ⟨w.heap.size + 1, 1, none⟩ = some (.int .i64 0) := by rw [hW]; simp [go_sem]
  have d2 : W.cell? ⟨w.heap.size + 1, 2, none⟩ = some (.int .u64 0) := by rw [hW]; simp [go_sem]
  have d3 : W.cell? ⟨w.heap.size + 1, 3, none⟩ = some (.string ⟨#[]⟩) := by rw [hW]; simp [go_sem]
  have f : ∀ o, W.frozen? ⟨w.heap.size + 1, o, none⟩ = false := fun o => by rw [hW]; simp [go_sem]
  have z : w.heap.size + 1 < W.heap.size := by rw [hW]; simp
  have hB : Below w.heap.size w W := by rw [hW]; exact (by repeat (first | with_reducible exact Below.refl _ _ | with_reducible refine below_drewN ?_ _ | with_reducible refine below_alloc ?_ (Nat.le_refl _) _ | (with_reducible refine Below.setCell ?_ ?h _; (case h => first | (dsimp only; omega) | (simp; done) | (simp; omega))) | with_reducible refine below_step ?_ (Nat.le_refl _) (by assumption)))
  have HB := Lib.hid hB
  clear hB
  go_enter Try.func8, Try.ntmps8
  go_wp2_with fail
  rw [← hW]
  clear hW
  go_still_tail 10, (by kernel_rfl)
  still_call (k1 _).out
  repeat still_step
  refine wpStill_nil ?_
  change wpList _ _ _ _ _ (W.drewN 1)
  go_wp2_with fail
  have hB2 := below_drewN HB.out 1
  refine bodyPost_ret (v := .agg #[.int .i64 k, .int .i64 N, .int .u64 F, .string C]) (by simp [results, Try.results8, go_sem, d0, d1, d2, d3]) rfl ⟨rfl, ?_⟩
  exact (((hB2.setCell (by simp) _).setCell (by simp) _).setCell (by simp) _).setCell (by simp) _
set_option maxHeartbeats 800000 in
theorem short_calls (k N : Int) (F : Nat) (S : ByteArray) (w : World) (hS : S.size ≤ maxLen) :
    Calls Try.prog 10 #[.agg #[.int .i64 k, .int .i64 N, .int .u64 F, .string S]] w (Fresh (.agg #[.int .i64 k, .int .i64 N, .int .u64 F, .string (S.extract 0 40)]) w) := by
  have k1 := fun w => Lib.hid (Cut40_calls S w hS)
  generalize S.extract 0 40 = C at *
  go_enter Try.func10, Try.ntmps10
  go_wp2_with (go_at_call 12; (with_reducible refine ((k1 _).out).mono ?_); rintro e w' ⟨rfl, q, rfl⟩)
  refine bodyPost_ret (v := .agg #[.int .i64 k, .int .i64 N, .int .u64 F, .string C]) (by simp [results, Try.results10, go_sem]) rfl ⟨rfl, ?_⟩
  exact (by repeat (first | with_reducible exact Below.refl _ _ | with_reducible refine below_drewN ?_ _ | with_reducible refine below_alloc ?_ (Nat.le_refl _) _ | (with_reducible refine Below.setCell ?_ ?h _; (case h => first | (dsimp only; omega) | (simp; done) | (simp; omega))) | with_reducible refine below_step ?_ (Nat.le_refl _) (by assumption)))
def lessS (m n : ByteArray × Int) : Bool := m.2 == 0 && (n.2 == 0 && Op.bytesLess m.1.toList n.1.toList)
set_option maxHeartbeats 1600000 in
theorem Less_calls (k N k' N' : Int) (F F' : Nat) (S S' : ByteArray) (w : World) (hk : I64 k) (hN : I64 N) (hF : U64 F) (hS : S.size ≤ maxLen) (hk' : I64 k') (hN' : I64 N') (hF' : U64 F') (hS' : S'.size ≤ maxLen) :
    Calls Try.prog 15 #[.agg #[.int .i64 k, .int .i64 N, .int .u64 F, .string S], .agg #[.int .i64 k', .int .i64 N', .int .u64 F', .string S']] w (Fresh (.bool (lessS (mkS k N F S) (mkS k' N' F' S'))) w) := by
  have k1 := fun w => Lib.hid (Make_calls k N F S w hk hN hF hS)
  have k2 := fun w => Lib.hid (Make_calls k' N' F' S' w hk' hN' hF' hS')
  generalize mkS k N F S = m at *
  generalize mkS k' N' F' S' = n at *
  obtain ⟨m1, m2⟩ := m
  obtain ⟨n1, n2⟩ := n
  unfold lessS
  simp only at k1 k2 ⊢
  have HR := Below.refl ((w.alloc (.cells #[.int .i64 k, .int .i64 N, .int .u64 F, .string S] 28)).alloc (.cells #[.int .i64 k', .int .i64 N', .int .u64 F', .string S'] 28)).heap.size ((w.alloc (.cells #[.int .i64 k, .int .i64 N, .int .u64 F, .string S] 28)).alloc (.cells #[.int .i64 k', .int .i64 N', .int .u64 F', .string S'] 28))
  go_enter Try.func15, Try.ntmps15
  go_wp2_with fail
  refine (k1 _).out.mono ?_
  rintro e w1 ⟨rfl, hB⟩
  obtain ⟨hbc, hbf, hbm, hbn⟩ := bcell hB
  go_wp2_with fail
  refine (k2 _).out.mono ?_
  rintro e w2 ⟨rfl, hB2⟩
  have hX : Below w.heap.size w w2 := below_step (below_step (below_alloc (below_alloc (Below.refl _ w) (Nat.le_refl _) _) (Nat.le_refl _) _) (Nat.le_refl _) hB) (Nat.le_refl _) hB2
  clear hbc hbf hbm hbn hB hB2 HR
  go_wp2_with fail
  all_goals
    go_ret
    exact ⟨by first | rfl | simp_all, hX⟩
end Go.Proofs.Ytoeddlcidbmppaa.Co
