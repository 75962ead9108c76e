/- Nodes and Room; the law BoundNumbers. -/
import Derived.Test.YtmabdnkpmfofaaaBound
namespace Go.Proofs.Ytmabdnkpmfofaaa.Conf
open Go.RowKit
open Go.Proofs.Ytmabdnkpmfofaaa.Hash (cl cl_le)
set_option linter.unusedVariables false

def nodesV (k n L : Int) : Int := if k = 1 then wrap64 (n * (L + 1)) else if k = 3 then wrap64 (2 + wrap64 (n * (2 * L + 2))) else n
def roomV (k n L : Int) : Int := if k = 1 then wrap64 (n * (L + 3)) else if k = 3 then wrap64 (2 + wrap64 (wrap64 (n * (n + 4)) * (4 * L + 8))) else wrap64 (n * (n + 2))
theorem prod2 (n m : Int) (hn : 0 ≤ n ∧ n ≤ 10000) : prod 1 [n, m] = wrap64 (n * m) := by
  unfold prod prod prod
  have e1 : wrap64 (1 * n) = n := by unfold wrap64; omega
  rw [e1]
theorem prod3 (n m o : Int) (hn : 0 ≤ n ∧ n ≤ 10000) : prod 1 [n, m, o] = wrap64 (wrap64 (n * m) * o) := by
  unfold prod prod prod prod
  have e1 : wrap64 (1 * n) = n := by unfold wrap64; omega
  rw [e1]
theorem lit2 (W : World) (n m : Int) (hn : 0 ≤ n ∧ n ≤ 10000) (hm : I64 m) :
    Calls Try.prog 16 #[.slice (some ⟨W.heap.size, 0, none⟩) 2 2] (W.alloc (.cells #[.int .i64 n, .int .i64 m] 3)) (Quiet (.int .i64 (wrap64 (n * m))) (W.alloc (.cells #[.int .i64 n, .int .i64 m] 3))) := by
  rw [← prod2 n m hn]
  exact prod_lit W _ 2 [n, m] rfl rfl (fun z hz => by
    rcases List.mem_cons.1 hz with rfl | hz
    · unfold I64; omega
    · rcases List.mem_cons.1 hz with rfl | hz
      · exact hm
      · cases hz) (by omega)
theorem lit3 (W : World) (n m o : Int) (hn : 0 ≤ n ∧ n ≤ 10000) (hm : I64 m) (ho : I64 o) :
    Calls Try.prog 16 #[.slice (some ⟨W.heap.size, 0, none⟩) 3 3] (W.alloc (.cells #[.int .i64 n, .int .i64 m, .int .i64 o] 3)) (Quiet (.int .i64 (wrap64 (wrap64 (n * m) * o))) (W.alloc (.cells #[.int .i64 n, .int .i64 m, .int .i64 o] 3))) := by
  rw [← prod3 n m o hn]
  exact prod_lit W _ 3 [n, m, o] rfl rfl (fun z hz => by
    rcases List.mem_cons.1 hz with rfl | hz
    · unfold I64; omega
    · rcases List.mem_cons.1 hz with rfl | hz
      · exact hm
      · rcases List.mem_cons.1 hz with rfl | hz
        · exact ho
        · cases hz) (by omega)

set_option maxHeartbeats 1600000 in
theorem Nodes_calls (k s t h b n : Int) (L : Nat) (w : World) (hk : 1 ≤ k ∧ k ≤ 3) (hs : I64 s) (ht : I64 t) (hh : I64 h) (hb : I64 b) (hn : 0 ≤ n ∧ n ≤ 10000) (hL : L = (cl b + 4) / 5) (hm : errE (mayE k s t h b) n = 0) :
    Calls Try.prog 6 #[.agg #[.int .i64 k, .int .i64 s, .int .i64 t, .int .i64 h, .int .i64 b], .int .i64 n] w (Fresh (.tuple #[.int .i64 (nodesV k n L), .int .i64 0]) w) := by
  have k1 := fun w => may_calls k s t h b n w (by unfold I64; omega) hs ht hh hb (by unfold I64; omega)
  rw [hm] at k1
  have K1 := fun w => Lib.hid (k1 w)
  have k2 := fun w => Hash.Levels_calls b w hb
  rw [← hL] at k2
  have K2 := fun w => Lib.hid (k2 w)
  have hL2 : L ≤ 13 := by have := cl_le b; omega
  have k3 := fun W => Lib.hid (lit2 W n ((L : Int) + 1) hn (by unfold I64; omega))
  have k4 := fun W => Lib.hid (lit2 W n (2 * (L : Int) + 2) hn (by unfold I64; omega))
  clear k1 k2 hL hm hs ht hh hb
  have e : nodesV k n L = if k = 1 then wrap64 (n * (L + 1)) else if k = 3 then wrap64 (2 + wrap64 (n * (2 * L + 2))) else n := rfl
  generalize nodesV k n L = v at *
  obtain ⟨hk1, hk3⟩ := hk
  have hk : k = 1 ∨ k = 2 ∨ k = 3 := by omega
  rcases hk with rfl | rfl | rfl
  · rw [if_pos rfl] at e
    subst e
    go_enter Try.func6, Try.ntmps6
    go_wp2_with (first | (go_at_call 17; (with_reducible refine ((K1 _).out).mono ?_); rintro e w' ⟨rfl, hB⟩; obtain ⟨hbc, hbf, hbm, hbn⟩ := bcell hB) | (go_at_call 18; (with_reducible refine ((K2 _).out).mono ?_); rintro e w' ⟨rfl, q, rfl⟩) | (go_at_call 16; refine ((k3 _).out).mono ?_; rintro e w' ⟨rfl, q, rfl⟩))
    go_ret2
    exact ⟨rfl, (by repeat (first | exact Below.refl _ _ | refine below_drewN ?_ _ | refine below_alloc ?_ (Nat.le_refl _) _ | refine Below.setCell ?_ (by simp) _ | refine below_step ?_ (Nat.le_refl _) (by assumption)))⟩
  · rw [if_neg (by omega), if_neg (by omega)] at e
    subst e
    go_enter Try.func6, Try.ntmps6
    go_wp2_with (first | (go_at_call 17; (with_reducible refine ((K1 _).out).mono ?_); rintro e w' ⟨rfl, hB⟩; obtain ⟨hbc, hbf, hbm, hbn⟩ := bcell hB) | (go_at_call 18; (with_reducible refine ((K2 _).out).mono ?_); rintro e w' ⟨rfl, q, rfl⟩) | (go_at_call 16; refine ((k3 _).out).mono ?_; rintro e w' ⟨rfl, q, rfl⟩))
    go_ret2
    exact ⟨rfl, (by repeat (first | exact Below.refl _ _ | refine below_drewN ?_ _ | refine below_alloc ?_ (Nat.le_refl _) _ | refine Below.setCell ?_ (by simp) _ | refine below_step ?_ (Nat.le_refl _) (by assumption)))⟩
  · rw [if_neg (by omega), if_pos rfl] at e
    subst e
    go_enter Try.func6, Try.ntmps6
    go_wp2_with (first | (go_at_call 17; (with_reducible refine ((K1 _).out).mono ?_); rintro e w' ⟨rfl, hB⟩; obtain ⟨hbc, hbf, hbm, hbn⟩ := bcell hB) | (go_at_call 18; (with_reducible refine ((K2 _).out).mono ?_); rintro e w' ⟨rfl, q, rfl⟩) | (go_at_call 16; refine ((k4 _).out).mono ?_; rintro e w' ⟨rfl, q, rfl⟩))
    go_ret2
    exact ⟨rfl, (by repeat (first | exact Below.refl _ _ | refine below_drewN ?_ _ | refine below_alloc ?_ (Nat.le_refl _) _ | refine Below.setCell ?_ (by simp) _ | refine below_step ?_ (Nat.le_refl _) (by assumption)))⟩
set_option maxHeartbeats 800000 in
theorem Nodes_bad (k s t h b n : Int) (w : World) (hk : I64 k) (hs : I64 s) (ht : I64 t) (hh : I64 h) (hb : I64 b) (hn : I64 n) (hm : (errE (mayE k s t h b) n == 0) = false) :
    Calls Try.prog 6 #[.agg #[.int .i64 k, .int .i64 s, .int .i64 t, .int .i64 h, .int .i64 b], .int .i64 n] w (Fresh (.tuple #[.int .i64 0, .int .i64 (errE (mayE k s t h b) n)]) w) := by
  have K1 := fun w => Lib.hid (may_calls k s t h b n w hk hs ht hh hb hn)
  generalize errE (mayE k s t h b) n = m at *
  go_enter Try.func6, Try.ntmps6
  go_wp2_with (go_at_call 17; (with_reducible refine ((K1 _).out).mono ?_); rintro e w' ⟨rfl, hB⟩; obtain ⟨hbc, hbf, hbm, hbn⟩ := bcell hB)
  go_ret2
  exact ⟨rfl, (by repeat (first | exact Below.refl _ _ | refine below_drewN ?_ _ | refine below_alloc ?_ (Nat.le_refl _) _ | refine Below.setCell ?_ (by simp) _ | refine below_step ?_ (Nat.le_refl _) (by assumption)))⟩
set_option maxHeartbeats 1600000 in
theorem Room_calls (k s t h b n : Int) (L : Nat) (w : World) (hk : 1 ≤ k ∧ k ≤ 3) (hs : I64 s) (ht : I64 t) (hh : I64 h) (hb : I64 b) (hn : 0 ≤ n ∧ n ≤ 10000) (hL : L = (cl b + 4) / 5) (hm : errE (mayE k s t h b) n = 0) :
    Calls Try.prog 7 #[.agg #[.int .i64 k, .int .i64 s, .int .i64 t, .int .i64 h, .int .i64 b], .int .i64 n] w (Fresh (.tuple #[.int .i64 (roomV k n L), .int .i64 0]) w) := by
  have k1 := fun w => may_calls k s t h b n w (by unfold I64; omega) hs ht hh hb (by unfold I64; omega)
  rw [hm] at k1
  have K1 := fun w => Lib.hid (k1 w)
  have k2 := fun w => Hash.Levels_calls b w hb
  rw [← hL] at k2
  have K2 := fun w => Lib.hid (k2 w)
  have hL2 : L ≤ 13 := by have := cl_le b; omega
  have k3 := fun W => Lib.hid (lit2 W n ((L : Int) + 3) hn (by unfold I64; omega))
  have k4 := fun W => Lib.hid (lit2 W n (n + 2) hn (by unfold I64; omega))
  have k5 := fun W => Lib.hid (lit3 W n (n + 4) (4 * (L : Int) + 8) hn (by unfold I64; omega) (by unfold I64; omega))
  clear k1 k2 hL hm hs ht hh hb
  have e : roomV k n L = if k = 1 then wrap64 (n * (L + 3)) else if k = 3 then wrap64 (2 + wrap64 (wrap64 (n * (n + 4)) * (4 * L + 8))) else wrap64 (n * (n + 2)) := rfl
  generalize roomV k n L = v at *
  obtain ⟨hk1, hk3⟩ := hk
  have hk : k = 1 ∨ k = 2 ∨ k = 3 := by omega
  rcases hk with rfl | rfl | rfl
  · rw [if_pos rfl] at e
    subst e
    go_enter Try.func7, Try.ntmps7
    go_wp2_with (first | (go_at_call 17; (with_reducible refine ((K1 _).out).mono ?_); rintro e w' ⟨rfl, hB⟩; obtain ⟨hbc, hbf, hbm, hbn⟩ := bcell hB) | (go_at_call 18; (with_reducible refine ((K2 _).out).mono ?_); rintro e w' ⟨rfl, q, rfl⟩) | (go_at_call 16; refine ((k3 _).out).mono ?_; rintro e w' ⟨rfl, q, rfl⟩))
    go_ret2
    exact ⟨rfl, (by repeat (first | exact Below.refl _ _ | refine below_drewN ?_ _ | refine below_alloc ?_ (Nat.le_refl _) _ | refine Below.setCell ?_ (by simp) _ | refine below_step ?_ (Nat.le_refl _) (by assumption)))⟩
  · rw [if_neg (by omega), if_neg (by omega)] at e
    subst e
    go_enter Try.func7, Try.ntmps7
    go_wp2_with (first | (go_at_call 17; (with_reducible refine ((K1 _).out).mono ?_); rintro e w' ⟨rfl, hB⟩; obtain ⟨hbc, hbf, hbm, hbn⟩ := bcell hB) | (go_at_call 18; (with_reducible refine ((K2 _).out).mono ?_); rintro e w' ⟨rfl, q, rfl⟩) | (go_at_call 16; refine ((k4 _).out).mono ?_; rintro e w' ⟨rfl, q, rfl⟩))
    go_ret2
    exact ⟨rfl, (by repeat (first | exact Below.refl _ _ | refine below_drewN ?_ _ | refine below_alloc ?_ (Nat.le_refl _) _ | refine Below.setCell ?_ (by simp) _ | refine below_step ?_ (Nat.le_refl _) (by assumption)))⟩
  · rw [if_neg (by omega), if_pos rfl] at e
    subst e
    go_enter Try.func7, Try.ntmps7
    go_wp2_with (first | (go_at_call 17; (with_reducible refine ((K1 _).out).mono ?_); rintro e w' ⟨rfl, hB⟩; obtain ⟨hbc, hbf, hbm, hbn⟩ := bcell hB) | (go_at_call 18; (with_reducible refine ((K2 _).out).mono ?_); rintro e w' ⟨rfl, q, rfl⟩) | (go_at_call 16; refine ((k5 _).out).mono ?_; rintro e w' ⟨rfl, q, rfl⟩))
    go_ret2
    exact ⟨rfl, (by repeat (first | exact Below.refl _ _ | refine below_drewN ?_ _ | refine below_alloc ?_ (Nat.le_refl _) _ | refine Below.setCell ?_ (by simp) _ | refine below_step ?_ (Nat.le_refl _) (by assumption)))⟩
set_option maxHeartbeats 800000 in
theorem Room_bad (k s t h b n : Int) (w : World) (hk : I64 k) (hs : I64 s) (ht : I64 t) (hh : I64 h) (hb : I64 b) (hn : I64 n) (hm : (errE (mayE k s t h b) n == 0) = false) :
    Calls Try.prog 7 #[.agg #[.int .i64 k, .int .i64 s, .int .i64 t, .int .i64 h, .int .i64 b], .int .i64 n] w (Fresh (.tuple #[.int .i64 0, .int .i64 (errE (mayE k s t h b) n)]) w) := by
  have K1 := fun w => Lib.hid (may_calls k s t h b n w hk hs ht hh hb hn)
  generalize errE (mayE k s t h b) n = m at *
  go_enter Try.func7, Try.ntmps7
  go_wp2_with (go_at_call 17; (with_reducible refine ((K1 _).out).mono ?_); rintro e w' ⟨rfl, hB⟩; obtain ⟨hbc, hbf, hbm, hbn⟩ := bcell hB)
  go_ret2
  exact ⟨rfl, (by repeat (first | exact Below.refl _ _ | refine below_drewN ?_ _ | refine below_alloc ?_ (Nat.le_refl _) _ | refine Below.setCell ?_ (by simp) _ | refine below_step ?_ (Nat.le_refl _) (by assumption)))⟩
set_option maxHeartbeats 1600000 in
theorem RefNodes_calls (k s t h b n : Int) (L : Nat) (w : World) (hk : 1 ≤ k ∧ k ≤ 3) (hb : I64 b) (hn : 0 ≤ n ∧ n ≤ 10000) (hL : L = (cl b + 4) / 5) :
    Calls Try.prog 13 #[.agg #[.int .i64 k, .int .i64 s, .int .i64 t, .int .i64 h, .int .i64 b], .int .i64 n] w (Fresh (.int .i64 (nodesV k n L)) w) := by
  have k2 := fun w => Hash.RefLevels_calls b w hb
  rw [← hL] at k2
  have K2 := fun w => Lib.hid (k2 w)
  have hL2 : L ≤ 13 := by have := cl_le b; omega
  clear k2 hL hb
  have e : nodesV k n L = if k = 1 then wrap64 (n * (L + 1)) else if k = 3 then wrap64 (2 + wrap64 (n * (2 * L + 2))) else n := rfl
  generalize nodesV k n L = v at *
  obtain ⟨hk1, hk3⟩ := hk
  have hk : k = 1 ∨ k = 2 ∨ k = 3 := by omega
  rcases hk with rfl | rfl | rfl
  · rw [if_pos rfl] at e
    subst e
    go_enter Try.func13, Try.ntmps13
    go_wp2_with (go_at_call 19; (with_reducible refine ((K2 _).out).mono ?_); rintro e w' ⟨rfl, q, rfl⟩)
    go_ret
    exact ⟨rfl, (by repeat (first | exact Below.refl _ _ | refine below_drewN ?_ _ | refine below_alloc ?_ (Nat.le_refl _) _ | refine Below.setCell ?_ (by simp) _ | refine below_step ?_ (Nat.le_refl _) (by assumption)))⟩
  · rw [if_neg (by omega), if_neg (by omega)] at e
    subst e
    go_enter Try.func13, Try.ntmps13
    go_wp2_with (go_at_call 19; (with_reducible refine ((K2 _).out).mono ?_); rintro e w' ⟨rfl, q, rfl⟩)
    go_ret
    exact ⟨rfl, (by repeat (first | exact Below.refl _ _ | refine below_drewN ?_ _ | refine below_alloc ?_ (Nat.le_refl _) _ | refine Below.setCell ?_ (by simp) _ | refine below_step ?_ (Nat.le_refl _) (by assumption)))⟩
  · rw [if_neg (by omega), if_pos rfl] at e
    subst e
    go_enter Try.func13, Try.ntmps13
    go_wp2_with (go_at_call 19; (with_reducible refine ((K2 _).out).mono ?_); rintro e w' ⟨rfl, q, rfl⟩)
    go_ret
    exact ⟨rfl, (by repeat (first | exact Below.refl _ _ | refine below_drewN ?_ _ | refine below_alloc ?_ (Nat.le_refl _) _ | refine Below.setCell ?_ (by simp) _ | refine below_step ?_ (Nat.le_refl _) (by assumption)))⟩
set_option maxHeartbeats 1600000 in
theorem RefRoom_calls (k s t h b n : Int) (L : Nat) (w : World) (hk : 1 ≤ k ∧ k ≤ 3) (hb : I64 b) (hn : 0 ≤ n ∧ n ≤ 10000) (hL : L = (cl b + 4) / 5) :
    Calls Try.prog 14 #[.agg #[.int .i64 k, .int .i64 s, .int .i64 t, .int .i64 h, .int .i64 b], .int .i64 n] w (Fresh (.int .i64 (roomV k n L)) w) := by
  have k2 := fun w => Hash.RefLevels_calls b w hb
  rw [← hL] at k2
  have K2 := fun w => Lib.hid (k2 w)
  have hL2 : L ≤ 13 := by have := cl_le b; omega
  clear k2 hL hb
  have e : roomV k n L = if k = 1 then wrap64 (n * (L + 3)) else if k = 3 then wrap64 (2 + wrap64 (wrap64 (n * (n + 4)) * (4 * L + 8))) else wrap64 (n * (n + 2)) := rfl
  generalize roomV k n L = v at *
  obtain ⟨hk1, hk3⟩ := hk
  have hk : k = 1 ∨ k = 2 ∨ k = 3 := by omega
  rcases hk with rfl | rfl | rfl
  · rw [if_pos rfl] at e
    subst e
    go_enter Try.func14, Try.ntmps14
    go_wp2_with (go_at_call 19; (with_reducible refine ((K2 _).out).mono ?_); rintro e w' ⟨rfl, q, rfl⟩)
    go_ret
    exact ⟨rfl, (by repeat (first | exact Below.refl _ _ | refine below_drewN ?_ _ | refine below_alloc ?_ (Nat.le_refl _) _ | refine Below.setCell ?_ (by simp) _ | refine below_step ?_ (Nat.le_refl _) (by assumption)))⟩
  · rw [if_neg (by omega), if_neg (by omega)] at e
    subst e
    go_enter Try.func14, Try.ntmps14
    go_wp2_with (go_at_call 19; (with_reducible refine ((K2 _).out).mono ?_); rintro e w' ⟨rfl, q, rfl⟩)
    go_ret
    exact ⟨rfl, (by repeat (first | exact Below.refl _ _ | refine below_drewN ?_ _ | refine below_alloc ?_ (Nat.le_refl _) _ | refine Below.setCell ?_ (by simp) _ | refine below_step ?_ (Nat.le_refl _) (by assumption)))⟩
  · rw [if_neg (by omega), if_pos rfl] at e
    subst e
    go_enter Try.func14, Try.ntmps14
    go_wp2_with (go_at_call 19; (with_reducible refine ((K2 _).out).mono ?_); rintro e w' ⟨rfl, q, rfl⟩)
    go_ret
    exact ⟨rfl, (by repeat (first | exact Below.refl _ _ | refine below_drewN ?_ _ | refine below_alloc ?_ (Nat.le_refl _) _ | refine Below.setCell ?_ (by simp) _ | refine below_step ?_ (Nat.le_refl _) (by assumption)))⟩
end Go.Proofs.Ytmabdnkpmfofaaa.Conf
