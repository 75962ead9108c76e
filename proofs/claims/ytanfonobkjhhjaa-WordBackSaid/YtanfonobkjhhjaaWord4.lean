/- The law WordBack. -/
import Derived.Test.YtanfonobkjhhjaaWord3
import Derived.Deep.LoopGhost
namespace Go.Proofs.Ytanfonobkjhhjaa.Words
open Go.RowKit
set_option linter.unusedVariables false
set_option linter.unusedSimpArgs false
def nt (e v : Int) : (Int × Int × Int) × Int := if e < 0 ∨ v < -1 ∨ 4611686018427387904 ≤ v then ((0, 0, 0), 2) else ((0, e, v + 1), 0)
theorem Note_calls (ep v : Int) (w : World) (he : I64 ep) (hv : I64 v) :
    Calls Try.prog 18 #[.int .i64 ep, .int .i64 v] w (Fresh (.tuple #[.agg #[.int .i64 (nt ep v).1.1, .int .i64 (nt ep v).1.2.1, .int .i64 (nt ep v).1.2.2], .int .i64 (nt ep v).2]) w) := by
  unfold I64 at he hv
  have e : nt ep v = if ep < 0 ∨ v < -1 ∨ 4611686018427387904 ≤ v then ((0, 0, 0), 2) else ((0, ep, v + 1), 0) := rfl
  generalize nt ep v = m at *
  by_cases h : ep < 0 ∨ v < -1 ∨ 4611686018427387904 ≤ v
  · rw [if_pos h] at e
    subst e
    rcases (show ep < 0 ∨ (0 ≤ ep ∧ v < -1) ∨ (0 ≤ ep ∧ -1 ≤ v ∧ 4611686018427387904 ≤ v) by omega) with h1 | ⟨h1, h2⟩ | ⟨h1, h2, h3⟩
    all_goals
      go_enter Try.func18, Try.ntmps18
      go_wp2
      refine bodyPost_ret (v := .tuple #[.agg #[.int .i64 (0), .int .i64 (0), .int .i64 (0)], .int .i64 2]) (by simp [results, Try.results18, go_sem]) rfl ⟨rfl, ?_⟩
      exact (by repeat (first | with_reducible exact Below.refl _ _ | with_reducible refine below_drewN ?_ _ | with_reducible refine below_alloc ?_ (Nat.le_refl _) _ | (with_reducible refine Below.setCell ?_ ?h _; (case h => first | (dsimp only; omega) | (simp; done) | (simp; omega))) | with_reducible refine below_step ?_ (Nat.le_refl _) (by assumption)))
  · rw [if_neg h] at e
    subst e
    have h1 : ¬ ep < 0 := by omega
    have h2 : ¬ v < -1 := by omega
    have h3 : ¬ 4611686018427387904 ≤ v := by omega
    clear h
    go_enter Try.func18, Try.ntmps18
    go_wp2
    refine bodyPost_ret (v := .tuple #[.agg #[.int .i64 (0), .int .i64 (ep), .int .i64 (v + 1)], .int .i64 0]) (by simp [results, Try.results18, go_sem]) rfl ⟨rfl, ?_⟩
    exact (by repeat (first | with_reducible exact Below.refl _ _ | with_reducible refine below_drewN ?_ _ | with_reducible refine below_alloc ?_ (Nat.le_refl _) _ | (with_reducible refine Below.setCell ?_ ?h _; (case h => first | (dsimp only; omega) | (simp; done) | (simp; omega))) | with_reducible refine below_step ?_ (Nat.le_refl _) (by assumption)))
def ntd (r t i : Int) : Int × Int × Int := if r ≠ 0 ∨ t < 0 ∨ i < 0 ∨ 4611686018427387904 < i then (0, 0, 4) else (t, i - 1, 0)
theorem Noted_calls (r t i : Int) (w : World) (hr : I64 r) (ht : I64 t) (hi : I64 i) :
    Calls Try.prog 19 #[.agg #[.int .i64 (r), .int .i64 (t), .int .i64 (i)]] w (Fresh (.tuple #[.int .i64 (ntd r t i).1, .int .i64 (ntd r t i).2.1, .int .i64 (ntd r t i).2.2]) w) := by
  unfold I64 at hr ht hi
  have e : ntd r t i = if r ≠ 0 ∨ t < 0 ∨ i < 0 ∨ 4611686018427387904 < i then (0, 0, 4) else (t, i - 1, 0) := rfl
  generalize ntd r t i = m at *
  by_cases h : r ≠ 0 ∨ t < 0 ∨ i < 0 ∨ 4611686018427387904 < i
  · rw [if_pos h] at e
    subst e
    by_cases h0 : r = 0
    · subst h0
      rcases (show t < 0 ∨ (0 ≤ t ∧ i < 0) ∨ (0 ≤ t ∧ 0 ≤ i ∧ 4611686018427387904 < i) by omega) with h1 | ⟨h1, h2⟩ | ⟨h1, h2, h3⟩
      all_goals
        go_enter Try.func19, Try.ntmps19
        go_wp2
        go_ret3
        exact ⟨rfl, (by repeat (first | with_reducible exact Below.refl _ _ | with_reducible refine below_drewN ?_ _ | with_reducible refine below_alloc ?_ (Nat.le_refl _) _ | (with_reducible refine Below.setCell ?_ ?h _; (case h => first | (dsimp only; omega) | (simp; done) | (simp; omega))) | with_reducible refine below_step ?_ (Nat.le_refl _) (by assumption)))⟩
    · have b0 : (r != 0) = true := by rw [bne_iff_ne]; exact h0
      have b1 : ¬ r = 0 := h0
      clear h h0
      go_enter Try.func19, Try.ntmps19
      go_wp2
      go_ret3
      exact ⟨rfl, (by repeat (first | with_reducible exact Below.refl _ _ | with_reducible refine below_drewN ?_ _ | with_reducible refine below_alloc ?_ (Nat.le_refl _) _ | (with_reducible refine Below.setCell ?_ ?h _; (case h => first | (dsimp only; omega) | (simp; done) | (simp; omega))) | with_reducible refine below_step ?_ (Nat.le_refl _) (by assumption)))⟩
  · rw [if_neg h] at e
    subst e
    obtain rfl : r = 0 := by omega
    have h1 : ¬ t < 0 := by omega
    have h2 : ¬ i < 0 := by omega
    have h3 : ¬ 4611686018427387904 < i := by omega
    have hw : IntKind.i64.wrap (i - 1) = i - 1 := by rw [IntKind.wrap_i64]; omega
    clear h
    go_enter Try.func19, Try.ntmps19
    go_wp2
    go_quiet (fail)
    go_wp2
    go_ret3
    exact ⟨rfl, (by repeat (first | with_reducible exact Below.refl _ _ | with_reducible refine below_drewN ?_ _ | with_reducible refine below_alloc ?_ (Nat.le_refl _) _ | (with_reducible refine Below.setCell ?_ ?h _; (case h => first | (dsimp only; omega) | (simp; done) | (simp; omega))) | with_reducible refine below_step ?_ (Nat.le_refl _) (by assumption)))⟩
theorem nt_back (ep v : Int) (h : (nt ep v).2 = 0) : nt ep v = ((0, ep, v + 1), 0) ∧ ntd 0 ep (v + 1) = (ep, v, 0) := by
  unfold nt at h ⊢
  split at h
  · cases h
  · rename_i hn
    rw [if_neg hn]
    refine ⟨rfl, ?_⟩
    unfold ntd
    rw [if_neg (by omega)]
    simp
theorem nt_in (ep v : Int) (he : I64 ep) (hv : I64 v) : I64 (nt ep v).1.1 ∧ I64 (nt ep v).1.2.1 ∧ I64 (nt ep v).1.2.2 := by
  unfold nt I64 at *
  split
  · simp
  · rename_i h
    refine ⟨by simp, he, ?_⟩
    show _ ≤ v + 1 ∧ v + 1 ≤ _
    omega
/-- A handle's word of that number. -/
def OK3 (x : Int × Int × Int) (n : Int) : Prop := x.2.2 = n ∧ (wk x.1 x.2.1 x.2.2).2 = 0 ∧ I64 x.1 ∧ I64 x.2.1
theorem ok_hd (j n : Int) (hj : 0 ≤ j ∧ j ≤ 255) (hn : 0 ≤ n) : (hd (1 + j % 3) n 5 j).2 = 0 ∧ OK3 (hd (1 + j % 3) n 5 j).1 n := by
  have hw : ∀ r t : Int, wk r t n = if 0 ≤ t then (3, 0) else if t = -1 ∧ r = 0 then (1, 0) else if t = -2 ∧ r = 0 then (2, 0) else (0, 4) := fun r t => by
    unfold wk; rw [if_neg (show ¬ n < -16 by omega)]
  rcases (show j % 3 = 0 ∨ j % 3 = 1 ∨ j % 3 = 2 by omega) with h | h | h
  · have e : hd (1 + j % 3) n 5 j = ((0, -1, n), 0) := by unfold hd; rw [if_neg (by omega), if_pos (by omega)]
    rw [e]
    exact ⟨rfl, rfl, by show (wk 0 (-1) n).2 = 0; rw [hw]; rfl, by unfold I64; simp, by unfold I64; simp⟩
  · have e : hd (1 + j % 3) n 5 j = ((0, -2, n), 0) := by unfold hd; rw [if_neg (by omega), if_neg (by omega), if_pos (by omega)]
    rw [e]
    exact ⟨rfl, rfl, by show (wk 0 (-2) n).2 = 0; rw [hw]; rfl, by unfold I64; simp, by unfold I64; simp⟩
  · have e : hd (1 + j % 3) n 5 j = ((5, j, n), 0) := by unfold hd; rw [if_neg (by omega), if_neg (by omega), if_neg (by omega), if_pos ⟨by omega, hj.1⟩]
    rw [e]
    exact ⟨rfl, rfl, by show (wk 5 j n).2 = 0; rw [hw, if_pos hj.1], by unfold I64; simp, by unfold I64; show _ ≤ j ∧ j ≤ _; omega⟩
theorem ok_nxt (x : Int × Int × Int) (n h : Int) (ho : OK3 x n) (hR : inR h = true) (hn : n ≤ 5000) (hh : 1 ≤ h ∧ h ≤ 16) : nxt x.1 x.2.1 x.2.2 h = (n + h, 0) := by
  obtain ⟨h1, h2, _, _⟩ := ho
  unfold nxt
  rw [if_pos hR, if_pos h2, h1, if_neg (by omega)]
theorem ok_plc (p k h : Int) (hR : inR h = true) (hp : 0 ≤ p ∧ p < h) (hk : 0 ≤ k) (hn : 0 ≤ p + k * h) : plc (p + k * h) h = (p, true) := by
  unfold plc
  rw [if_pos ⟨hn, hR⟩, Int.add_mul_emod_self_right, Int.emod_eq_of_lt hp.1 hp.2]
theorem ok_fst (at_ h : Int) (h1 : 1 ≤ h) (h2 : h ≤ 16) (h3 : 0 ≤ at_) (h4 : at_ < h) : OK3 (0, -1, at_ - h) (at_ - h) := by
  unfold OK3 wk I64
  simp only
  rw [if_neg (by omega)]
  simp
set_option maxHeartbeats 3200000 in
set_option maxRecDepth 100000 in
theorem WordBack_calls (ep v i hs m : Int) (w : World) (he : I64 ep) (hv : I64 v) (hi : 0 ≤ i ∧ i ≤ 255) (hh : 0 ≤ hs ∧ hs ≤ 255) (hm : 0 ≤ m ∧ m ≤ 255) :
    Calls Try.prog 5 #[.int .i64 ep, .int .i64 v, .int .u8 i, .int .u8 hs, .int .u8 m] w (Fresh (.bool true) w) := by
  have k1 := fun w => Lib.hid (works_calls w)
  have k2 := fun w => Lib.hid (Note_calls ep v w he hv)
  obtain ⟨i1, i2, i3⟩ := nt_in ep v he hv
  have k3 := fun w => Noted_calls (nt ep v).1.1 (nt ep v).1.2.1 (nt ep v).1.2.2 w i1 i2 i3
  obtain ⟨h, hdef⟩ : ∃ h, h = 1 + hs % 16 := ⟨_, rfl⟩
  have r1 : 1 ≤ h ∧ h ≤ 16 := by omega
  obtain ⟨p, pdef⟩ : ∃ p, p = i % h := ⟨_, rfl⟩
  have r2 : 0 ≤ p ∧ p < h := by rw [pdef]; exact ⟨Int.emod_nonneg _ (by omega), Int.emod_lt_of_pos _ (by omega)⟩
  have hR : inR h = true := by unfold inR; simp; omega
  have k4 := fun w => First_calls p h w (by unfold I64; omega) (by unfold I64; omega)
  have e4 : fst_ p h = ((0, -1, p - h), 0) := by unfold fst_; rw [if_pos ⟨hR, r2.1, r2.2⟩]
  rw [e4] at k4
  have K4 := fun w => Lib.hid (k4 w)
  have hx0 := Lib.hid (ok_fst p h r1.1 r1.2 r2.1 r2.2)
  have hz : (h == 0) = false := by rw [beq_eq_false_iff_ne]; omega
  have hmod : (1 + hs % 16) = h := hdef.symm
  have pmod : i % h = p := pdef.symm
  clear k4 e4 hdef pdef
  have hgoal : (nt ep v).2 = 0 ∨ ¬ (nt ep v).2 = 0 := Decidable.em _
  have k3' : ((nt ep v).2 = 0 ∧ (ntd (nt ep v).1.1 (nt ep v).1.2.1 (nt ep v).1.2.2).1 = ep ∧ (ntd (nt ep v).1.1 (nt ep v).1.2.1 (nt ep v).1.2.2).2.1 = v ∧ (ntd (nt ep v).1.1 (nt ep v).1.2.1 (nt ep v).1.2.2).2.2 = 0) ∨ ¬ (nt ep v).2 = 0 := by
    rcases hgoal with h | h
    · obtain ⟨e1, e2⟩ := nt_back ep v h
      rw [e1]
      exact .inl ⟨rfl, by show (ntd 0 ep (v + 1)).1 = ep; rw [e2], by show (ntd 0 ep (v + 1)).2.1 = v; rw [e2], by show (ntd 0 ep (v + 1)).2.2 = 0; rw [e2]⟩
    · exact .inr h
  clear hgoal i1 i2 i3
  generalize (ntd (nt ep v).1.1 (nt ep v).1.2.1 (nt ep v).1.2.2).1 = y1 at *
  generalize (ntd (nt ep v).1.1 (nt ep v).1.2.1 (nt ep v).1.2.2).2.1 = y2 at *
  generalize (ntd (nt ep v).1.1 (nt ep v).1.2.1 (nt ep v).1.2.2).2.2 = y3 at *
  generalize (nt ep v).2 = E at *
  generalize (nt ep v).1.1 = x1 at *
  generalize (nt ep v).1.2.1 = x2 at *
  generalize (nt ep v).1.2.2 = x3 at *
  have KX := Lib.hid ok_nxt
  have KP := Lib.hid ok_plc
  have KH := Lib.hid ok_hd
  unfold I64 at he hv
  rcases k3' with ⟨rfl, rfl, rfl, rfl⟩ | hne
  all_goals
    go_enter Try.func5, Try.ntmps5
    go_wp2_with fail
    refine (k1 _).out.mono ?_
    rintro e w1 ⟨rfl, hb1⟩
    have HB1 := Lib.hid hb1
    clear hb1
    go_wp2_with fail
    refine (k2 _).out.mono ?_
    rintro e w2 ⟨rfl, hb2⟩
    have HB2 := Lib.hid (below_step HB1.out (Nat.le_refl _) hb2)
    clear hb2 HB1
    have k3h := fun w => Lib.hid (k3 w)
    go_wp2_with fail
    refine (k3h _).out.mono ?_
    rintro e w3 ⟨rfl, hb3⟩
    have HB3 := Lib.hid (below_step (below_alloc HB2.out (Nat.le_refl _) _) (Nat.le_refl _) hb3)
    clear hb3 HB2 k3 k3h
    go_wp2_with fail
    refine (K4 _).out.mono ?_
    rintro e w4 ⟨rfl, hb4⟩
    have HB4 := Lib.hid (below_step HB3.out (Nat.le_refl _) hb4)
    clear hb4 HB3
    go_wp2_with fail
    have W4 := Lib.hid (W3.new w4 0 (-1) (p - h) 24)
    have F4 : ∀ o, (w4.alloc (.cells #[.int .i64 0, .int .i64 (-1), .int .i64 (p - h)] 24)).frozen? ⟨w4.heap.size, o, none⟩ = false := fun o => by simp [go_sem]
    have FF := Lib.hid F4
    have LB := Lib.hid HB4.out.size
    have HB5 := Lib.hid (below_alloc HB4.out (Nat.le_refl _) (.cells #[.int .i64 0, .int .i64 (-1), .int .i64 (p - h)] 24))
    clear F4
    obtain ⟨b4, hb4⟩ : ∃ b, b = w4.heap.size := ⟨_, rfl⟩
    rw [← hb4] at W4 FF LB ⊢
    clear hb4
    go_loopg [19, 20] m.toNat (fun g s k wr => ∃ (j : Nat) (x : Int × Int × Int), k = .int .i64 (j : Int) ∧ (j : Int) + (g : Int) = m ∧ s = .int .i64 0 ∧ W3 wr b4 x ∧ OK3 x (p + (j : Int) * h - h) ∧ (∀ o, wr.frozen? ⟨b4, o, none⟩ = false) ∧ Below w.heap.size w wr)
    case atStart => exact ⟨0, (0, -1, p - h), rfl, by omega, rfl, W4.out, by simpa using hx0.out, FF.out, HB5.out⟩
    case round =>
      obtain ⟨j, x, rfl, hj, rfl, hw3, hok, hfz, hbel⟩ := hrel
      obtain ⟨M, hM⟩ : ∃ M, M = (j : Int) * h := ⟨_, rfl⟩
      have hM1 : 0 ≤ M := by rw [hM]; exact Int.mul_nonneg (by omega) (by omega)
      have hM2 : M ≤ 4080 := by
        rw [hM]
        have a := Int.mul_le_mul (show (j : Int) ≤ 255 by omega) (show h ≤ 16 from r1.2) (by omega) (by omega)
        simpa using a
      rw [← hM] at hok
      by_cases hlt : (j : Int) < m
      · have hplc : plc (p + M) h = (p, true) := by rw [hM]; exact KP.out p j h hR r2 (by omega) (by rw [← hM]; omega)
        have hS := Lib.hid (show p + ((j + 1 : Nat) : Int) * h - h = p + M by rw [hM]; push_cast; rw [Int.add_mul]; omega)
        have hmul : (j : Int) * h = M := hM.symm
        have hwr : IntKind.i64.wrap ((j : Int) * h) = M := by rw [hmul, IntKind.wrap_i64]; omega
        have hn := KX.out x (p + M - h) h hok hR (by omega) r1
        rw [show p + M - h + h = p + M by omega] at hn
        have hid := hok.1
        obtain ⟨o1, o2, o3, o4⟩ := hok
        have kN := fun w => Next_calls x.1 x.2.1 x.2.2 h w o3 o4 (by rw [hid]; unfold I64; omega) (by unfold I64; omega)
        rw [hn] at kN
        have kP := fun w => Place_calls (p + M) h w (by unfold I64; omega) (by unfold I64; omega)
        rw [hplc] at kP
        obtain ⟨q1, q2⟩ := KH.out j (p + M) (by omega) (by omega)
        have kH := fun w => Handle_calls (1 + (j : Int) % 3) (p + M) 5 j w (by unfold I64; omega) (by unfold I64; omega) (by unfold I64; omega) (by unfold I64; omega)
        rw [q1] at kH
        have Q2 := Lib.hid q2
        generalize (hd (1 + (j : Int) % 3) (p + M) 5 j).1 = y at *
        have KN := fun w => Lib.hid (kN w)
        have KPl := fun w => Lib.hid (kP w)
        have KHd := fun w => Lib.hid (kH w)
        have HW := Lib.hid hw3
        obtain ⟨x0, x1, x2⟩ := hw3
        clear kN kP kH hn hplc q1 q2 hid o1 o2 o3 o4 hM
        go_wp2_with fail
        (with_reducible refine (KN _).out.mono ?_)
        rintro e wa ⟨rfl, hba⟩
        have HBa := Lib.hid (below_step hbel (Nat.le_refl _) hba)
        have WA := Lib.hid (HW.out.below hba)
        have FA := Lib.hid (show ∀ o, wa.frozen? ⟨b4, o, none⟩ = false from fun o => by
          obtain ⟨_, hf, _, _⟩ := bcell hba
          rw [hf _ _ HW.out.lt]; exact hfz o)
        clear hba hbel HW x0 x1 x2 hfz
        go_wp2_with (go_at_call 16; (with_reducible refine ((KPl _).out).mono ?_); rintro e w' ⟨rfl, q, rfl⟩)
        (with_reducible refine (KHd _).out.mono ?_)
        rintro e wb ⟨rfl, hbb⟩
        have HBb := Lib.hid (below_via HBa.out (Nat.le_refl _) (by repeat (first | with_reducible exact Below.refl _ _ | with_reducible refine below_drewN ?_ _)) hbb)
        have WB := Lib.hid ((WA.out.drewN _).below hbb)
        have FB : ∀ o, wb.frozen? ⟨b4, o, none⟩ = false := fun o => by
          obtain ⟨_, hf, _, _⟩ := bcell hbb
          rw [hf _ _ WA.out.lt]; exact FA.out o
        have FBH := Lib.hid FB
        clear hbb HBa WA FA
        obtain ⟨y0, y1, y2⟩ := WB.out
        go_wp2_with fail
        go_roundg (m.toNat - (j + 1))
        case rel => exact ⟨j + 1, y, by go_num, by omega, rfl, WB.out.own _ _ _, by rw [hS.out]; exact Q2.out, fun o => by simp [go_sem, FBH.out], ((HBb.out.setCell LB.out _).setCell LB.out _).setCell LB.out _⟩
        case measure => omega
      · have g1 : ¬ (j : Int) < m := hlt
        clear hok
        go_wp2_with fail
        go_ret
        exact ⟨rfl, hbel⟩
end Go.Proofs.Ytanfonobkjhhjaa.Words
