/- The law BoundNumbers. -/
import Derived.Test.YtmabdnkpmfofaaaBound2
namespace Go.Proofs.Ytmabdnkpmfofaaa.Conf
open Go.RowKit
open Go.Proofs.Ytmabdnkpmfofaaa.Hash (cl cl_le)
set_option linter.unusedVariables false

set_option maxHeartbeats 800000 in
theorem works_calls (w : World) : Calls Try.prog 9 #[] w (Fresh (.bool true) w) := by
  have k1 := fun w => Lib.hid (show Calls Try.prog 4 #[.agg #[.int .i64 2, .int .i64 9, .int .i64 1, .int .i64 0, .int .i64 4]] w (Fresh (.tuple #[.int .i64 3600000, .int .i64 0]) w) from by
    have h := Steps_calls 2 9 1 0 4 w (by omega) (by omega) (by omega) (by omega) (by omega) rfl
    rwa [show steps (1 + 2) (9 + 0 + 1 + 10) = 3600000 from by unfold steps wrap64; omega] at h)
  have k2 := fun w => Lib.hid (show Calls Try.prog 6 #[.agg #[.int .i64 2, .int .i64 9, .int .i64 1, .int .i64 0, .int .i64 4], .int .i64 3] w (Fresh (.tuple #[.int .i64 3, .int .i64 0]) w) from Nodes_calls 2 9 1 0 4 3 1 w (by omega) (by unfold I64; omega) (by unfold I64; omega) (by unfold I64; omega) (by unfold I64; omega) (by omega) rfl rfl)
  go_enter Try.func9, Try.ntmps9
  go_wp2_with (first | (go_at_call 4; (with_reducible refine ((k1 _).out).mono ?_); rintro e w' ⟨rfl, hB⟩; obtain ⟨hbc, hbf, hbm, hbn⟩ := bcell hB) | (go_at_call 6; (with_reducible refine ((k2 _).out).mono ?_); rintro e w' ⟨rfl, hB⟩; obtain ⟨hbc, hbf, hbm, hbn⟩ := bcell hB))
  go_ret
  exact ⟨rfl, (by repeat (first | exact Below.refl _ _ | refine below_drewN ?_ _ | refine below_alloc ?_ (Nat.le_refl _) _ | refine Below.setCell ?_ (by simp) _ | refine below_step ?_ (Nat.le_refl _) (by assumption)))⟩

theorem mayE_ok {k s t h b : Int} (e : mayE k s t h b = 0) : (1 ≤ k ∧ k ≤ 3) ∧ (0 ≤ s ∧ s ≤ 1000) ∧ (1 ≤ t ∧ t ≤ 64) ∧ (0 ≤ h ∧ h ≤ 16) ∧ (0 ≤ b ∧ b ≤ 64) := by
  unfold mayE at e
  split at e
  · omega
  split at e
  · omega
  · omega

set_option maxHeartbeats 3200000 in
theorem BoundNumbers_calls (k s t h b n : Int) (w : World) (hk : I64 k) (hs : I64 s) (ht : I64 t) (hh : I64 h) (hb : I64 b) (hn : I64 n) :
    Calls Try.prog 3 #[.agg #[.int .i64 k, .int .i64 s, .int .i64 t, .int .i64 h, .int .i64 b], .int .i64 n] w (Fresh (.bool true) w) := by
  have HR : Below (w.alloc (.cells #[.int .i64 k, .int .i64 s, .int .i64 t, .int .i64 h, .int .i64 b] 23)).heap.size (w.alloc (.cells #[.int .i64 k, .int .i64 s, .int .i64 t, .int .i64 h, .int .i64 b] 23)) (w.alloc (.cells #[.int .i64 k, .int .i64 s, .int .i64 t, .int .i64 h, .int .i64 b] 23)) := Below.refl _ _
  have hW : Below w.heap.size w (w.alloc (.cells #[.int .i64 k, .int .i64 s, .int .i64 t, .int .i64 h, .int .i64 b] 23)) := below_alloc (Below.refl _ _) (Nat.le_refl _) _
  have k0 := fun w => Lib.hid (RefMay_calls k s t h b w hk hs ht hh hb)
  by_cases hm : mayE k s t h b = 0
  · have he : errE (mayE k s t h b) n = if n < 0 ∨ 10000 < n then 2 else 0 := by unfold errE; rw [if_pos hm]
    obtain ⟨rk, rs, rt, rh, rb⟩ := mayE_ok hm
    have k1 := fun w => Lib.hid (Steps_calls k s t h b w rk rs rt rh rb hm)
    have k2 := fun w => Lib.hid (Read_calls k s t h b w rk rs rt rh rb hm)
    have k3 := fun w => Lib.hid (RefSteps_calls k s t h b w rk rs rt rh rb)
    have k4 := fun w => Lib.hid (RefRead_calls k s t h b w rs)
    have k5 := fun w => Lib.hid (RefErr_calls k s t h b n w hk hs ht hh hb hn)
    generalize steps (t + 2) (s + h + t + 10) = S at *
    by_cases hne : n < 0 ∨ 10000 < n
    · rw [if_pos hne] at he
      have k6 := fun w => Lib.hid (Nodes_bad k s t h b n w hk hs ht hh hb hn (by rw [he]; rfl))
      have k7 := fun w => Lib.hid (Room_bad k s t h b n w hk hs ht hh hb hn (by rw [he]; rfl))
      rw [he] at k5 k6 k7
      rw [hm] at k0
      clear he hm hne hk hs ht hh hb hn rk rt rh rb
      go_enter Try.func3, Try.ntmps3
      go_wp2_with (first | (go_at_call 4; (with_reducible refine ((k1 _).out).mono ?_); rintro e w' ⟨rfl, hB⟩; have HR2 := below_step (by repeat (first | exact HR | refine below_drewN ?_ _ | refine below_alloc ?_ (Nat.le_refl _) _)) (Nat.le_refl _) hB; clear HR hB; (try clear hbc hbf hbm hbn); have HR := HR2; clear HR2; obtain ⟨hbc, hbf, hbm, hbn⟩ := bcell HR) | (go_at_call 5; (with_reducible refine ((k2 _).out).mono ?_); rintro e w' ⟨rfl, hB⟩; have HR2 := below_step (by repeat (first | exact HR | refine below_drewN ?_ _ | refine below_alloc ?_ (Nat.le_refl _) _)) (Nat.le_refl _) hB; clear HR hB; (try clear hbc hbf hbm hbn); have HR := HR2; clear HR2; obtain ⟨hbc, hbf, hbm, hbn⟩ := bcell HR) | (go_at_call 6; (with_reducible refine ((k6 _).out).mono ?_); rintro e w' ⟨rfl, hB⟩; have HR2 := below_step (by repeat (first | exact HR | refine below_drewN ?_ _ | refine below_alloc ?_ (Nat.le_refl _) _)) (Nat.le_refl _) hB; clear HR hB; (try clear hbc hbf hbm hbn); have HR := HR2; clear HR2; obtain ⟨hbc, hbf, hbm, hbn⟩ := bcell HR) | (go_at_call 7; (with_reducible refine ((k7 _).out).mono ?_); rintro e w' ⟨rfl, hB⟩; have HR2 := below_step (by repeat (first | exact HR | refine below_drewN ?_ _ | refine below_alloc ?_ (Nat.le_refl _) _)) (Nat.le_refl _) hB; clear HR hB; (try clear hbc hbf hbm hbn); have HR := HR2; clear HR2; obtain ⟨hbc, hbf, hbm, hbn⟩ := bcell HR) | (go_at_call 8; (with_reducible refine ((k0 _).out).mono ?_); rintro e w' ⟨rfl, hB⟩; have HR2 := below_step (by repeat (first | exact HR | refine below_drewN ?_ _ | refine below_alloc ?_ (Nat.le_refl _) _)) (Nat.le_refl _) hB; clear HR hB; (try clear hbc hbf hbm hbn); have HR := HR2; clear HR2; obtain ⟨hbc, hbf, hbm, hbn⟩ := bcell HR) | (go_at_call 10; (with_reducible refine ((k3 _).out).mono ?_); rintro e w' ⟨rfl, hB⟩; have HR2 := below_step (by repeat (first | exact HR | refine below_drewN ?_ _ | refine below_alloc ?_ (Nat.le_refl _) _)) (Nat.le_refl _) hB; clear HR hB; (try clear hbc hbf hbm hbn); have HR := HR2; clear HR2; obtain ⟨hbc, hbf, hbm, hbn⟩ := bcell HR) | (go_at_call 11; (with_reducible refine ((k4 _).out).mono ?_); rintro e w' ⟨rfl, hB⟩; have HR2 := below_step (by repeat (first | exact HR | refine below_drewN ?_ _ | refine below_alloc ?_ (Nat.le_refl _) _)) (Nat.le_refl _) hB; clear HR hB; (try clear hbc hbf hbm hbn); have HR := HR2; clear HR2; obtain ⟨hbc, hbf, hbm, hbn⟩ := bcell HR) | (go_at_call 12; (with_reducible refine ((k5 _).out).mono ?_); rintro e w' ⟨rfl, hB⟩; have HR2 := below_step (by repeat (first | exact HR | refine below_drewN ?_ _ | refine below_alloc ?_ (Nat.le_refl _) _)) (Nat.le_refl _) hB; clear HR hB; (try clear hbc hbf hbm hbn); have HR := HR2; clear HR2; obtain ⟨hbc, hbf, hbm, hbn⟩ := bcell HR) | (go_at_call 9; (with_reducible refine (works_calls _).mono ?_); rintro e w' ⟨rfl, hB⟩; have HR2 := below_step (by repeat (first | exact HR | refine below_drewN ?_ _ | refine below_alloc ?_ (Nat.le_refl _) _)) (Nat.le_refl _) hB; clear HR hB; (try clear hbc hbf hbm hbn); have HR := HR2; clear HR2; obtain ⟨hbc, hbf, hbm, hbn⟩ := bcell HR))
      go_ret
      exact ⟨rfl, hW.trans (HR.mono (by simp))⟩
    · rw [if_neg hne] at he
      have rn : 0 ≤ n ∧ n ≤ 10000 := by omega
      have k6 := fun w => Lib.hid (Nodes_calls k s t h b n ((cl b + 4) / 5) w rk hs ht hh hb rn rfl he)
      have k7 := fun w => Lib.hid (Room_calls k s t h b n ((cl b + 4) / 5) w rk hs ht hh hb rn rfl he)
      have k8 := fun w => Lib.hid (RefNodes_calls k s t h b n ((cl b + 4) / 5) w rk hb rn rfl)
      have k9 := fun w => Lib.hid (RefRoom_calls k s t h b n ((cl b + 4) / 5) w rk hb rn rfl)
      rw [he] at k5
      rw [hm] at k0
      generalize nodesV k n ((cl b + 4) / 5 : Nat) = N at *
      generalize roomV k n ((cl b + 4) / 5 : Nat) = R at *
      clear he hm hne hk hs ht hh hb hn rk rt rh rb rn
      go_enter Try.func3, Try.ntmps3
      go_wp2_with (first | (go_at_call 4; (with_reducible refine ((k1 _).out).mono ?_); rintro e w' ⟨rfl, hB⟩; have HR2 := below_step (by repeat (first | exact HR | refine below_drewN ?_ _ | refine below_alloc ?_ (Nat.le_refl _) _)) (Nat.le_refl _) hB; clear HR hB; (try clear hbc hbf hbm hbn); have HR := HR2; clear HR2; obtain ⟨hbc, hbf, hbm, hbn⟩ := bcell HR) | (go_at_call 5; (with_reducible refine ((k2 _).out).mono ?_); rintro e w' ⟨rfl, hB⟩; have HR2 := below_step (by repeat (first | exact HR | refine below_drewN ?_ _ | refine below_alloc ?_ (Nat.le_refl _) _)) (Nat.le_refl _) hB; clear HR hB; (try clear hbc hbf hbm hbn); have HR := HR2; clear HR2; obtain ⟨hbc, hbf, hbm, hbn⟩ := bcell HR) | (go_at_call 6; (with_reducible refine ((k6 _).out).mono ?_); rintro e w' ⟨rfl, hB⟩; have HR2 := below_step (by repeat (first | exact HR | refine below_drewN ?_ _ | refine below_alloc ?_ (Nat.le_refl _) _)) (Nat.le_refl _) hB; clear HR hB; (try clear hbc hbf hbm hbn); have HR := HR2; clear HR2; obtain ⟨hbc, hbf, hbm, hbn⟩ := bcell HR) | (go_at_call 7; (with_reducible refine ((k7 _).out).mono ?_); rintro e w' ⟨rfl, hB⟩; have HR2 := below_step (by repeat (first | exact HR | refine below_drewN ?_ _ | refine below_alloc ?_ (Nat.le_refl _) _)) (Nat.le_refl _) hB; clear HR hB; (try clear hbc hbf hbm hbn); have HR := HR2; clear HR2; obtain ⟨hbc, hbf, hbm, hbn⟩ := bcell HR) | (go_at_call 8; (with_reducible refine ((k0 _).out).mono ?_); rintro e w' ⟨rfl, hB⟩; have HR2 := below_step (by repeat (first | exact HR | refine below_drewN ?_ _ | refine below_alloc ?_ (Nat.le_refl _) _)) (Nat.le_refl _) hB; clear HR hB; (try clear hbc hbf hbm hbn); have HR := HR2; clear HR2; obtain ⟨hbc, hbf, hbm, hbn⟩ := bcell HR) | (go_at_call 10; (with_reducible refine ((k3 _).out).mono ?_); rintro e w' ⟨rfl, hB⟩; have HR2 := below_step (by repeat (first | exact HR | refine below_drewN ?_ _ | refine below_alloc ?_ (Nat.le_refl _) _)) (Nat.le_refl _) hB; clear HR hB; (try clear hbc hbf hbm hbn); have HR := HR2; clear HR2; obtain ⟨hbc, hbf, hbm, hbn⟩ := bcell HR) | (go_at_call 11; (with_reducible refine ((k4 _).out).mono ?_); rintro e w' ⟨rfl, hB⟩; have HR2 := below_step (by repeat (first | exact HR | refine below_drewN ?_ _ | refine below_alloc ?_ (Nat.le_refl _) _)) (Nat.le_refl _) hB; clear HR hB; (try clear hbc hbf hbm hbn); have HR := HR2; clear HR2; obtain ⟨hbc, hbf, hbm, hbn⟩ := bcell HR) | (go_at_call 12; (with_reducible refine ((k5 _).out).mono ?_); rintro e w' ⟨rfl, hB⟩; have HR2 := below_step (by repeat (first | exact HR | refine below_drewN ?_ _ | refine below_alloc ?_ (Nat.le_refl _) _)) (Nat.le_refl _) hB; clear HR hB; (try clear hbc hbf hbm hbn); have HR := HR2; clear HR2; obtain ⟨hbc, hbf, hbm, hbn⟩ := bcell HR) | (go_at_call 13; (with_reducible refine ((k8 _).out).mono ?_); rintro e w' ⟨rfl, hB⟩; have HR2 := below_step (by repeat (first | exact HR | refine below_drewN ?_ _ | refine below_alloc ?_ (Nat.le_refl _) _)) (Nat.le_refl _) hB; clear HR hB; (try clear hbc hbf hbm hbn); have HR := HR2; clear HR2; obtain ⟨hbc, hbf, hbm, hbn⟩ := bcell HR) | (go_at_call 14; (with_reducible refine ((k9 _).out).mono ?_); rintro e w' ⟨rfl, hB⟩; have HR2 := below_step (by repeat (first | exact HR | refine below_drewN ?_ _ | refine below_alloc ?_ (Nat.le_refl _) _)) (Nat.le_refl _) hB; clear HR hB; (try clear hbc hbf hbm hbn); have HR := HR2; clear HR2; obtain ⟨hbc, hbf, hbm, hbn⟩ := bcell HR) | (go_at_call 9; (with_reducible refine (works_calls _).mono ?_); rintro e w' ⟨rfl, hB⟩; have HR2 := below_step (by repeat (first | exact HR | refine below_drewN ?_ _ | refine below_alloc ?_ (Nat.le_refl _) _)) (Nat.le_refl _) hB; clear HR hB; (try clear hbc hbf hbm hbn); have HR := HR2; clear HR2; obtain ⟨hbc, hbf, hbm, hbn⟩ := bcell HR))
      go_ret
      exact ⟨rfl, hW.trans (HR.mono (by simp))⟩
  · have hm0 : (mayE k s t h b == 0) = false := by simpa using hm
    have he : errE (mayE k s t h b) n = mayE k s t h b := by unfold errE; rw [if_neg hm]
    have k1 := fun w => Lib.hid (Steps_bad k s t h b w hk hs ht hh hb hm0)
    have k2 := fun w => Lib.hid (Read_bad k s t h b w hk hs ht hh hb hm0)
    have k6 := fun w => Lib.hid (Nodes_bad k s t h b n w hk hs ht hh hb hn (by rw [he]; exact hm0))
    have k7 := fun w => Lib.hid (Room_bad k s t h b n w hk hs ht hh hb hn (by rw [he]; exact hm0))
    rw [he] at k6 k7
    clear he hm hk hs ht hh hb hn
    generalize mayE k s t h b = m at *
    go_enter Try.func3, Try.ntmps3
    go_wp2_with (first | (go_at_call 4; (with_reducible refine ((k1 _).out).mono ?_); rintro e w' ⟨rfl, hB⟩; have HR2 := below_step (by repeat (first | exact HR | refine below_drewN ?_ _ | refine below_alloc ?_ (Nat.le_refl _) _)) (Nat.le_refl _) hB; clear HR hB; (try clear hbc hbf hbm hbn); have HR := HR2; clear HR2; obtain ⟨hbc, hbf, hbm, hbn⟩ := bcell HR) | (go_at_call 5; (with_reducible refine ((k2 _).out).mono ?_); rintro e w' ⟨rfl, hB⟩; have HR2 := below_step (by repeat (first | exact HR | refine below_drewN ?_ _ | refine below_alloc ?_ (Nat.le_refl _) _)) (Nat.le_refl _) hB; clear HR hB; (try clear hbc hbf hbm hbn); have HR := HR2; clear HR2; obtain ⟨hbc, hbf, hbm, hbn⟩ := bcell HR) | (go_at_call 6; (with_reducible refine ((k6 _).out).mono ?_); rintro e w' ⟨rfl, hB⟩; have HR2 := below_step (by repeat (first | exact HR | refine below_drewN ?_ _ | refine below_alloc ?_ (Nat.le_refl _) _)) (Nat.le_refl _) hB; clear HR hB; (try clear hbc hbf hbm hbn); have HR := HR2; clear HR2; obtain ⟨hbc, hbf, hbm, hbn⟩ := bcell HR) | (go_at_call 7; (with_reducible refine ((k7 _).out).mono ?_); rintro e w' ⟨rfl, hB⟩; have HR2 := below_step (by repeat (first | exact HR | refine below_drewN ?_ _ | refine below_alloc ?_ (Nat.le_refl _) _)) (Nat.le_refl _) hB; clear HR hB; (try clear hbc hbf hbm hbn); have HR := HR2; clear HR2; obtain ⟨hbc, hbf, hbm, hbn⟩ := bcell HR) | (go_at_call 8; (with_reducible refine ((k0 _).out).mono ?_); rintro e w' ⟨rfl, hB⟩; have HR2 := below_step (by repeat (first | exact HR | refine below_drewN ?_ _ | refine below_alloc ?_ (Nat.le_refl _) _)) (Nat.le_refl _) hB; clear HR hB; (try clear hbc hbf hbm hbn); have HR := HR2; clear HR2; obtain ⟨hbc, hbf, hbm, hbn⟩ := bcell HR) | (go_at_call 9; (with_reducible refine (works_calls _).mono ?_); rintro e w' ⟨rfl, hB⟩; have HR2 := below_step (by repeat (first | exact HR | refine below_drewN ?_ _ | refine below_alloc ?_ (Nat.le_refl _) _)) (Nat.le_refl _) hB; clear HR hB; (try clear hbc hbf hbm hbn); have HR := HR2; clear HR2; obtain ⟨hbc, hbf, hbm, hbn⟩ := bcell HR))
    go_ret
    exact ⟨rfl, hW.trans (HR.mono (by simp))⟩
end Go.Proofs.Ytmabdnkpmfofaaa.Conf
