/- The law WordHandles. -/
import Derived.Test.YtanfonobkjhhjaaWord2
import Derived.Deep.Cut
namespace Go.Proofs.Ytanfonobkjhhjaa.Words
open Go.RowKit
set_option linter.unusedVariables false
set_option linter.unusedSimpArgs false
theorem hd_err (k i r v : Int) : (if ((hd k i r v).2 == 0) = true then (0 : Int) else 2) = (hd k i r v).2 := by
  unfold hd
  split
  · rfl
  split
  · rfl
  split
  · rfl
  split
  · rfl
  · rfl
theorem wk_err (r t i : Int) : (if decide ((wk r t i).1 > 0) = true then (0 : Int) else 4) = (wk r t i).2 := by
  unfold wk
  split
  · rfl
  split
  · rfl
  split
  · rfl
  split
  · rfl
  · rfl
/-- A word lies in block b. -/
def W3 (w : World) (b : Nat) (x : Int × Int × Int) : Prop := w.cell? ⟨b, 0, none⟩ = some (.int .i64 x.1) ∧ w.cell? ⟨b, 1, none⟩ = some (.int .i64 x.2.1) ∧ w.cell? ⟨b, 2, none⟩ = some (.int .i64 x.2.2)
theorem W3.lt {w : World} {b : Nat} {x : Int × Int × Int} (h : W3 w b x) : b < w.heap.size := World.block_lt_of_cell? w _ h.1
theorem W3.below {w w' : World} {b : Nat} {x : Int × Int × Int} (h : W3 w b x) (hb : Below w.heap.size w w') : W3 w' b x := by
  have l := h.lt
  obtain ⟨c, _, _, _⟩ := bcell hb
  unfold W3
  rw [c _ _ l, c _ _ l, c _ _ l]
  exact h
theorem W3.new (w : World) (x y z : Int) (T : TypeId) : W3 (w.alloc (.cells #[.int .i64 x, .int .i64 y, .int .i64 z] T)) w.heap.size (x, y, z) := by
  unfold W3
  simp [go_sem]
theorem W3.alloc {w : World} {b : Nat} {x : Int × Int × Int} (h : W3 w b x) (o : Obj) : W3 (w.alloc o) b x := h.below (below_alloc (Below.refl _ _) (Nat.le_refl _) o)
theorem W3.drewN {w : World} {b : Nat} {x : Int × Int × Int} (h : W3 w b x) (n : Nat) : W3 (w.drewN n) b x := h
theorem W3.set {w : World} {b : Nat} {x : Int × Int × Int} (h : W3 w b x) {b' o : Nat} (u : Value) (hn : b ≠ b') : W3 (w.setCell ⟨b', o, none⟩ u) b x := by
  have hne : ∀ j, (⟨b', o, none⟩ : Addr) ≠ ⟨b, j, none⟩ := fun j e => hn (by injection e with e1; exact e1.symm)
  unfold W3
  rw [World.cell?_setCell_other w _ _ u (hne 0), World.cell?_setCell_other w _ _ u (hne 1), World.cell?_setCell_other w _ _ u (hne 2)]
  exact h
theorem W3.own {w : World} {b : Nat} {x : Int × Int × Int} (h : W3 w b x) (p q r : Int) :
    W3 (((w.setCell ⟨b, 0, none⟩ (.int .i64 p)).setCell ⟨b, 1, none⟩ (.int .i64 q)).setCell ⟨b, 2, none⟩ (.int .i64 r)) b (p, q, r) := by
  obtain ⟨h0, h1, h2⟩ := h
  have n01 : (⟨b, 1, none⟩ : Addr) ≠ ⟨b, 0, none⟩ := by simp
  have n02 : (⟨b, 2, none⟩ : Addr) ≠ ⟨b, 0, none⟩ := by simp
  have n12 : (⟨b, 2, none⟩ : Addr) ≠ ⟨b, 1, none⟩ := by simp
  have n10 : (⟨b, 0, none⟩ : Addr) ≠ ⟨b, 1, none⟩ := by simp
  have n20 : (⟨b, 0, none⟩ : Addr) ≠ ⟨b, 2, none⟩ := by simp
  have n21 : (⟨b, 1, none⟩ : Addr) ≠ ⟨b, 2, none⟩ := by simp
  refine ⟨?_, ?_, ?_⟩
  · rw [World.cell?_setCell_other _ _ _ _ n02, World.cell?_setCell_other _ _ _ _ n01, World.cell?_setCell_same _ _ _ h0]
  · rw [World.cell?_setCell_other _ _ _ _ n12]
    exact World.cell?_setCell_same _ _ _ (by rw [World.cell?_setCell_other _ _ _ _ n10]; exact h1)
  · exact World.cell?_setCell_same _ _ _ (by rw [World.cell?_setCell_other _ _ _ _ n21, World.cell?_setCell_other _ _ _ _ n20]; exact h2)
set_option maxHeartbeats 3200000 in
theorem WordHandles_no (k id r v a t i : Int) (w : World) (hk : I64 k) (hid : I64 id) (hr : I64 r) (hv : I64 v) (ha : I64 a) (ht : I64 t) (hi : I64 i) (hno : ¬ (inR k = true ∧ 0 ≤ id ∧ id < k)) :
    Calls Try.prog 3 #[.int .i64 k, .int .i64 id, .int .i64 r, .int .i64 v, .agg #[.int .i64 (a), .int .i64 (t), .int .i64 (i)]] w (Fresh (.bool true) w) := by
  have k1 := fun w => Lib.hid (Handle_calls k id r v w hk hid hr hv)
  have k2 := fun w => Lib.hid (RefHandle_calls k id r v w hk hid hr hv)
  have k3 := fun w => Lib.hid (Kind_calls a t i w ha ht hi)
  have k4 := fun w => Lib.hid (RefKind_calls a t i w ha ht hi)
  have k5 := fun w => First_calls id k w hid hk
  have k6 := fun w => err_calls ((hd k id r v).2 == 0) 2 w (by unfold I64; omega)
  have k7 := fun w => err_calls (decide ((wk a t i).1 > 0)) 4 w (by unfold I64; omega)
  have k8 := fun w => Many_calls k w hk
  have e5 : fst_ id k = if inR k = true ∧ 0 ≤ id ∧ id < k then ((0, -1, id - k), 0) else ((0, 0, 0), 2) := rfl
  rw [if_neg hno] at e5
  rw [e5] at k5
  simp only [hd_err] at k6
  simp only [wk_err] at k7
  generalize hd k id r v = p at *
  generalize wk a t i = m at *
  obtain ⟨⟨p1, p2, p3⟩, p4⟩ := p
  obtain ⟨m1, m2⟩ := m
  simp only at k1 k2 k3 k4 k6 k7
  have K5 := fun w => Lib.hid (k5 w)
  have K6 := fun w => Lib.hid (k6 w)
  have K7 := fun w => Lib.hid (k7 w)
  have K8 := fun w => Lib.hid (k8 w)
  have k10 := fun w => err_calls false 2 w (by unfold I64; omega)
  have K10 := fun w => Lib.hid (k10 w)
  have hM : (inR k = true ∧ 0 ≤ id ∧ k ≤ id) ∨ (inR k = true ∧ id < 0) ∨ inR k = false := by
    cases hc : inR k
    · right; right; rfl
    · rw [hc] at hno
      by_cases h0 : 0 ≤ id
      · left; exact ⟨rfl, h0, Int.not_lt.1 fun h => hno ⟨rfl, h0, h⟩⟩
      · right; left; exact ⟨rfl, by omega⟩
  clear k5 k6 k7 k8 k10 e5 hno
  have HB0 := Lib.hid (below_alloc (Below.refl _ w) (Nat.le_refl _) (.cells #[.int .i64 a, .int .i64 t, .int .i64 i] 24))
  have P0 := Lib.hid (W3.new w a t i 24)
  generalize inR k = M at *
  unfold I64 at hk hid hr hv ha ht hi
  rcases hM with ⟨rfl, h1, h2⟩ | ⟨rfl, h1⟩ | rfl
  all_goals
    first | (have gd : decide (id < k) = false := decide_eq_false (by omega)) | skip
    go_enter Try.func3, Try.ntmps3
    go_wp2_with fail
    refine (k1 _).out.mono ?_
    rintro e w1 ⟨rfl, hb1⟩
    have HB1 := Lib.hid (below_step HB0.out (Nat.le_refl _) hb1)
    have P1 := Lib.hid (P0.out.below hb1)
    clear hb1 HB0 P0
    go_wp2_with fail
    refine (k2 _).out.mono ?_
    rintro e w2 ⟨rfl, hb2⟩
    have HB2 := Lib.hid (below_step (below_alloc HB1.out (Nat.le_refl _) _) (Nat.le_refl _) hb2)
    have P2 := Lib.hid ((P1.out.alloc _).below hb2)
    have A2 := Lib.hid ((W3.new w1 p1 p2 p3 24).below hb2)
    have N1 := Lib.hid P1.out.lt
    clear hb2 HB1 P1
    obtain ⟨x0, x1, x2⟩ := (P2.out.alloc (.cells #[.int .i64 p1, .int .i64 p2, .int .i64 p3] 24))
    go_wp2_with fail
    refine (k3 _).out.mono ?_
    rintro e w3 ⟨rfl, hb3⟩
    clear x0 x1 x2
    have HB3 := Lib.hid (below_step (below_alloc HB2.out (Nat.le_refl _) _) (Nat.le_refl _) hb3)
    have P3 := Lib.hid ((P2.out.alloc _).below hb3)
    have A3 := Lib.hid ((A2.out.alloc _).below hb3)
    have B3 := Lib.hid ((W3.new w2 p1 p2 p3 24).below hb3)
    clear hb3 HB2 P2 A2
    go_wp2_with fail
    refine (K5 _).out.mono ?_
    rintro e w4 ⟨rfl, hb4⟩
    have HB4 := Lib.hid (below_step HB3.out (Nat.le_refl _) hb4)
    have P4 := Lib.hid (P3.out.below hb4)
    have A4 := Lib.hid (A3.out.below hb4)
    have B4 := Lib.hid (B3.out.below hb4)
    clear hb4 HB3 P3 A3 B3
    go_wp2_with fail
    refine (K8 _).out.mono ?_
    rintro e w' ⟨rfl, q, rfl⟩
    obtain ⟨W, hW⟩ : ∃ W, W = (((w4.alloc (.cells #[.int .i64 0, .int .i64 0, .int .i64 0] 24)).alloc (.cells #[.int .i64 0, .int .i64 0, .int .i64 0] 24)).drewN q) := ⟨_, rfl⟩
    have HBW := Lib.hid (show Below w.heap.size w W by rw [hW]; exact below_drewN (below_alloc (below_alloc HB4.out (Nat.le_refl _) _) (Nat.le_refl _) _) q)
    have PW : W3 W w.heap.size (a, t, i) := by rw [hW]; exact ((P4.out.alloc _).alloc _).drewN q
    have AW : W3 W w1.heap.size (p1, p2, p3) := by rw [hW]; exact ((A4.out.alloc _).alloc _).drewN q
    have BW : W3 W w2.heap.size (p1, p2, p3) := by rw [hW]; exact ((B4.out.alloc _).alloc _).drewN q
    have CW : W3 W w4.heap.size (0, 0, 0) := by rw [hW]; exact ((W3.new w4 0 0 0 _).alloc _).drewN q
    have DW : W3 W (w4.heap.size + 1) (0, 0, 0) := by
      rw [hW]
      have := W3.new (w4.alloc (.cells #[.int .i64 0, .int .i64 0, .int .i64 0] 24)) 0 0 0 24
      rw [show (w4.alloc (.cells #[.int .i64 0, .int .i64 0, .int .i64 0] 24)).heap.size = w4.heap.size + 1 by simp] at this
      exact this.drewN q
    have z1 := PW.lt
    have z2 := AW.lt
    have z3 := BW.lt
    have z4 := CW.lt
    have z5 := DW.lt
    rw [← hW]
    clear hW HB4 P4 A4 B4 N1
    obtain ⟨c0, c1, c2⟩ := PW
    obtain ⟨d0, d1, d2⟩ := AW
    obtain ⟨e0, e1, e2⟩ := BW
    obtain ⟨f0, f1, f2⟩ := CW
    obtain ⟨g0, g1, g2⟩ := DW
    generalize w1.heap.size = b1 at *
    generalize w2.heap.size = b2 at *
    generalize w4.heap.size = b4 at *
    have HR := Below.refl W.heap.size W
    go_wp2_with (first | (go_at_call 11; (first | with_reducible refine ((K6 _).out).mono ?_ | with_reducible refine ((K7 _).out).mono ?_ | with_reducible refine ((K10 _).out).mono ?_); rintro e w' ⟨rfl, q, rfl⟩) | (go_at_call 12; (with_reducible refine ((k4 _).out).mono ?_); rintro e w' ⟨rfl, hB⟩; have HR2 := below_via HR (Nat.le_refl _) (by repeat (first | with_reducible exact Below.refl _ _ | with_reducible refine below_drewN ?_ _ | with_reducible refine below_drew ?_ | with_reducible refine below_alloc ?_ (Nat.le_refl _) _)) hB; clear HR hB; (try clear hbc hbf hbm hbn); have HR := HR2; clear HR2; obtain ⟨hbc, hbf, hbm, hbn⟩ := bcell HR) | (go_at_call 13; (with_reducible refine (works_calls _).mono ?_); rintro e w' ⟨rfl, hB⟩; have HR2 := below_via HR (Nat.le_refl _) (by repeat (first | with_reducible exact Below.refl _ _ | with_reducible refine below_drewN ?_ _ | with_reducible refine below_drew ?_ | with_reducible refine below_alloc ?_ (Nat.le_refl _) _)) hB; clear HR hB; (try clear hbc hbf hbm hbn); have HR := HR2; clear HR2; obtain ⟨hbc, hbf, hbm, hbn⟩ := bcell HR))
    go_ret
    exact ⟨by first | rfl | exact ret_bool (by simp), below_step HBW.out (Nat.le_refl _) HR⟩
set_option maxHeartbeats 3200000 in
theorem WordHandles_yes (k id r v a t i : Int) (w : World) (hk : I64 k) (hid : I64 id) (hr : I64 r) (hv : I64 v) (ha : I64 a) (ht : I64 t) (hi : I64 i) (hyes : inR k = true ∧ 0 ≤ id ∧ id < k) :
    Calls Try.prog 3 #[.int .i64 k, .int .i64 id, .int .i64 r, .int .i64 v, .agg #[.int .i64 (a), .int .i64 (t), .int .i64 (i)]] w (Fresh (.bool true) w) := by
  have k1 := fun w => Lib.hid (Handle_calls k id r v w hk hid hr hv)
  have k2 := fun w => Lib.hid (RefHandle_calls k id r v w hk hid hr hv)
  have k3 := fun w => Lib.hid (Kind_calls a t i w ha ht hi)
  have k4 := fun w => Lib.hid (RefKind_calls a t i w ha ht hi)
  have k5 := fun w => First_calls id k w hid hk
  have k6 := fun w => err_calls ((hd k id r v).2 == 0) 2 w (by unfold I64; omega)
  have k7 := fun w => err_calls (decide ((wk a t i).1 > 0)) 4 w (by unfold I64; omega)
  have k8 := fun w => Many_calls k w hk
  have e5 : fst_ id k = if inR k = true ∧ 0 ≤ id ∧ id < k then ((0, -1, id - k), 0) else ((0, 0, 0), 2) := rfl
  rw [if_pos hyes] at e5
  rw [e5] at k5
  simp only [hd_err] at k6
  simp only [wk_err] at k7
  generalize hd k id r v = p at *
  generalize wk a t i = m at *
  obtain ⟨⟨p1, p2, p3⟩, p4⟩ := p
  obtain ⟨m1, m2⟩ := m
  simp only at k1 k2 k3 k4 k6 k7
  have K5 := fun w => Lib.hid (k5 w)
  have K6 := fun w => Lib.hid (k6 w)
  have K7 := fun w => Lib.hid (k7 w)
  obtain ⟨h1, h2, h3⟩ := hyes
  obtain ⟨h4, h5⟩ := inR_true h1
  have hd0 : hd 1 (id - k) 0 0 = ((0, -1, id - k), 0) := by unfold hd; rw [if_neg (by omega), if_pos rfl]
  have k9 := fun w => RefHandle_calls 1 (id - k) 0 0 w (by unfold I64; omega) (by unfold I64; omega) (by unfold I64; omega) (by unfold I64; omega)
  rw [hd0] at k9
  have K9 := fun w => Lib.hid (k9 w)
  have k10 := fun w => err_calls true 2 w (by unfold I64; omega)
  have K10 := fun w => Lib.hid (k10 w)
  rw [h1] at k8
  have K8 := fun w => Lib.hid (k8 w)
  clear k5 k6 k7 k8 k9 k10 e5 h1 hd0
  have HB0 := Lib.hid (below_alloc (Below.refl _ w) (Nat.le_refl _) (.cells #[.int .i64 a, .int .i64 t, .int .i64 i] 24))
  have P0 := Lib.hid (W3.new w a t i 24)
  unfold I64 at hk hid hr hv ha ht hi
  go_enter Try.func3, Try.ntmps3
  go_wp2_with fail
  refine (k1 _).out.mono ?_
  rintro e w1 ⟨rfl, hb1⟩
  have HB1 := Lib.hid (below_step HB0.out (Nat.le_refl _) hb1)
  have P1 := Lib.hid (P0.out.below hb1)
  clear hb1 HB0 P0
  go_wp2_with fail
  refine (k2 _).out.mono ?_
  rintro e w2 ⟨rfl, hb2⟩
  have HB2 := Lib.hid (below_step (below_alloc HB1.out (Nat.le_refl _) _) (Nat.le_refl _) hb2)
  have P2 := Lib.hid ((P1.out.alloc _).below hb2)
  have A2 := Lib.hid ((W3.new w1 p1 p2 p3 24).below hb2)
  have N1 := Lib.hid P1.out.lt
  clear hb2 HB1 P1
  obtain ⟨x0, x1, x2⟩ := (P2.out.alloc (.cells #[.int .i64 p1, .int .i64 p2, .int .i64 p3] 24))
  go_wp2_with fail
  refine (k3 _).out.mono ?_
  rintro e w3 ⟨rfl, hb3⟩
  clear x0 x1 x2
  have HB3 := Lib.hid (below_step (below_alloc HB2.out (Nat.le_refl _) _) (Nat.le_refl _) hb3)
  have P3 := Lib.hid ((P2.out.alloc _).below hb3)
  have A3 := Lib.hid ((A2.out.alloc _).below hb3)
  have B3 := Lib.hid ((W3.new w2 p1 p2 p3 24).below hb3)
  clear hb3 HB2 P2 A2
  go_wp2_with fail
  refine (K5 _).out.mono ?_
  rintro e w4 ⟨rfl, hb4⟩
  have HB4 := Lib.hid (below_step HB3.out (Nat.le_refl _) hb4)
  have P4 := Lib.hid (P3.out.below hb4)
  have A4 := Lib.hid (A3.out.below hb4)
  have B4 := Lib.hid (B3.out.below hb4)
  clear hb4 HB3 P3 A3 B3
  go_wp2_with (go_at_call 10; (with_reducible refine ((K8 _).out).mono ?_); rintro e w' ⟨rfl, q, rfl⟩)
  refine (K9 _).out.mono ?_
  rintro e w5 ⟨rfl, hb5⟩
  have HB5 := Lib.hid (below_via HB4.out (Nat.le_refl _) (by repeat (first | with_reducible exact Below.refl _ _ | with_reducible refine below_drewN ?_ _ | with_reducible refine below_alloc ?_ (Nat.le_refl _) _)) hb5)
  have P5 := Lib.hid ((((P4.out.alloc _).alloc _).drewN _).below hb5)
  have A5 := Lib.hid ((((A4.out.alloc _).alloc _).drewN _).below hb5)
  have B5 := Lib.hid ((((B4.out.alloc _).alloc _).drewN _).below hb5)
  have C5 := Lib.hid ((((W3.new w4 0 (-1) (id - k) 24).alloc _).drewN _).below hb5)
  have D5 : Hid (W3 w5 (w4.heap.size + 1) (0, 0, 0)) := hide (by
    have := W3.new (w4.alloc (.cells #[.int .i64 0, .int .i64 (-1), .int .i64 (id - k)] 24)) 0 0 0 24
    rw [show (w4.alloc (.cells #[.int .i64 0, .int .i64 (-1), .int .i64 (id - k)] 24)).heap.size = w4.heap.size + 1 by simp] at this
    exact (this.drewN _).below hb5)
  have NP := Lib.hid P4.out.lt
  have NA := Lib.hid A4.out.lt
  have NB := Lib.hid B4.out.lt
  have FZ : ∀ o, w5.frozen? ⟨w4.heap.size + 1, o, none⟩ = false := by
    obtain ⟨_, hf, _, _⟩ := bcell hb5
    intro o
    rw [hf _ _ (by simp <;> omega)]
    simp [go_sem]
  obtain ⟨g0, g1, g2⟩ := D5.out
  have zz : w4.heap.size + 1 < w5.heap.size := D5.out.lt
  clear hb5 HB4 P4 A4 B4 N1
  go_upto_region 9 with (fail)
  obtain ⟨W, hW⟩ : ∃ W, W = (((w5.setCell ⟨w4.heap.size + 1, 0, none⟩ (.int .i64 0)).setCell ⟨w4.heap.size + 1, 1, none⟩ (.int .i64 (-1))).setCell ⟨w4.heap.size + 1, 2, none⟩ (.int .i64 (id - k))) := ⟨_, rfl⟩
  have hB5 := HB5.out
  have np := NP.out
  have na := NA.out
  have nb := NB.out
  have hws : w.heap.size ≤ w4.heap.size + 1 := by omega
  have HBW := Lib.hid (show Below w.heap.size w W by rw [hW]; exact ((hB5.setCell hws _).setCell hws _).setCell hws _)
  have PW : W3 W w.heap.size (a, t, i) := by rw [hW]; exact ((P5.out.set _ (by omega)).set _ (by omega)).set _ (by omega)
  have AW : W3 W w1.heap.size (p1, p2, p3) := by rw [hW]; exact ((A5.out.set _ (by omega)).set _ (by omega)).set _ (by omega)
  have BW : W3 W w2.heap.size (p1, p2, p3) := by rw [hW]; exact ((B5.out.set _ (by omega)).set _ (by omega)).set _ (by omega)
  have CW : W3 W w4.heap.size (0, -1, id - k) := by rw [hW]; exact ((C5.out.set _ (by omega)).set _ (by omega)).set _ (by omega)
  have DW : W3 W (w4.heap.size + 1) (0, -1, id - k) := by rw [hW]; exact D5.out.own _ _ _
  have z1 := PW.lt
  have z2 := AW.lt
  have z3 := BW.lt
  have z4 := CW.lt
  have z5 := DW.lt
  rw [← hW]
  clear hW HB5 P5 A5 B5 C5 D5 NP NA NB FZ g0 g1 g2 zz hB5 np na nb hws
  obtain ⟨c0, c1, c2⟩ := PW
  obtain ⟨d0, d1, d2⟩ := AW
  obtain ⟨e0, e1, e2⟩ := BW
  obtain ⟨f0, f1, f2⟩ := CW
  obtain ⟨g0, g1, g2⟩ := DW
  generalize w1.heap.size = b1 at *
  generalize w2.heap.size = b2 at *
  generalize w4.heap.size = b4 at *
  have HR := Below.refl W.heap.size W
  go_wp2_with (first | (go_at_call 11; (first | with_reducible refine ((K6 _).out).mono ?_ | with_reducible refine ((K7 _).out).mono ?_ | with_reducible refine ((K10 _).out).mono ?_); rintro e w' ⟨rfl, q, rfl⟩) | (go_at_call 12; (with_reducible refine ((k4 _).out).mono ?_); rintro e w' ⟨rfl, hB⟩; have HR2 := below_via HR (Nat.le_refl _) (by repeat (first | with_reducible exact Below.refl _ _ | with_reducible refine below_drewN ?_ _ | with_reducible refine below_drew ?_ | with_reducible refine below_alloc ?_ (Nat.le_refl _) _)) hB; clear HR hB; (try clear hbc hbf hbm hbn); have HR := HR2; clear HR2; obtain ⟨hbc, hbf, hbm, hbn⟩ := bcell HR) | (go_at_call 13; (with_reducible refine (works_calls _).mono ?_); rintro e w' ⟨rfl, hB⟩; have HR2 := below_via HR (Nat.le_refl _) (by repeat (first | with_reducible exact Below.refl _ _ | with_reducible refine below_drewN ?_ _ | with_reducible refine below_drew ?_ | with_reducible refine below_alloc ?_ (Nat.le_refl _) _)) hB; clear HR hB; (try clear hbc hbf hbm hbn); have HR := HR2; clear HR2; obtain ⟨hbc, hbf, hbm, hbn⟩ := bcell HR))
  go_ret
  exact ⟨by first | rfl | exact ret_bool (by simp), below_step HBW.out (Nat.le_refl _) HR⟩
theorem WordHandles_calls (k id r v a t i : Int) (w : World) (hk : I64 k) (hid : I64 id) (hr : I64 r) (hv : I64 v) (ha : I64 a) (ht : I64 t) (hi : I64 i) :
    Calls Try.prog 3 #[.int .i64 k, .int .i64 id, .int .i64 r, .int .i64 v, .agg #[.int .i64 (a), .int .i64 (t), .int .i64 (i)]] w (Fresh (.bool true) w) := by
  by_cases h : inR k = true ∧ 0 ≤ id ∧ id < k
  · exact WordHandles_yes k id r v a t i w hk hid hr hv ha ht hi h
  · exact WordHandles_no k id r v a t i w hk hid hr hv ha ht hi h
end Go.Proofs.Ytanfonobkjhhjaa.Words
