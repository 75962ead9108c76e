/- Cells that New made. -/
import Derived.Test.YtniackbkhfhpaaaCell
namespace Go.Proofs.Ytniackbkhfhpaaa.Ce
open Go.RowKit
set_option linter.unusedVariables false
set_option linter.unusedSimpArgs false
/-- n cells lie at b, their words at g, each (0, t, 0), c accesses counted. -/
def Cw (b g n : Nat) (c t : Int) (w : World) : Prop :=
  (w.cell? ⟨b, 0, none⟩ = some (.bool true) ∧ w.cell? ⟨b, 1, none⟩ = some (.slice (some ⟨g, 0, none⟩) n n) ∧ w.cell? ⟨b, 2, none⟩ = some (.int .i64 c)) ∧
  (∀ j, w.frozen? ⟨b, j, none⟩ = false) ∧
  (∀ j, j < n → w.cell? ⟨g, j * 3, none⟩ = some (.int .i64 0) ∧ w.cell? ⟨g, j * 3 + 1, none⟩ = some (.int .i64 t) ∧ w.cell? ⟨g, j * 3 + 2, none⟩ = some (.int .i64 0)) ∧
  (∀ j, w.frozen? ⟨g, j, none⟩ = false) ∧ b ≠ g ∧ b < w.heap.size ∧ g < w.heap.size
theorem Cw.below {b g n : Nat} {c t : Int} {w w' : World} (h : Cw b g n c t w) (hb : Below w.heap.size w w') : Cw b g n c t w' := by
  obtain ⟨⟨h0, h1, h2⟩, h3, h4, h5, h6, h7, h8⟩ := h
  obtain ⟨cc, cf, cm, _⟩ := bcell hb
  refine ⟨⟨?_, ?_, ?_⟩, ?_, ?_, ?_, h6, cm _ h7, cm _ h8⟩
  · rw [cc _ _ h7]; exact h0
  · rw [cc _ _ h7]; exact h1
  · rw [cc _ _ h7]; exact h2
  · intro j; rw [cf _ _ h7]; exact h3 j
  · intro j hj; rw [cc _ _ h8, cc _ _ h8, cc _ _ h8]; exact h4 j hj
  · intro j; rw [cf _ _ h8]; exact h5 j
theorem Cw.count {b g n : Nat} {c t : Int} {w : World} (h : Cw b g n c t w) (d : Int) : Cw b g n d t (w.setCell ⟨b, 2, none⟩ (.int .i64 d)) := by
  obtain ⟨⟨h0, h1, h2⟩, h3, h4, h5, h6, h7, h8⟩ := h
  have n0 : (⟨b, 2, none⟩ : Addr) ≠ ⟨b, 0, none⟩ := by simp
  have n1 : (⟨b, 2, none⟩ : Addr) ≠ ⟨b, 1, none⟩ := by simp
  have ng : ∀ j, (⟨b, 2, none⟩ : Addr) ≠ ⟨g, j, none⟩ := fun j e => h6 (by injection e)
  refine ⟨⟨?_, ?_, ?_⟩, ?_, ?_, ?_, h6, by simpa using h7, by simpa using h8⟩
  · rw [World.cell?_setCell_other _ _ _ _ n0]; exact h0
  · rw [World.cell?_setCell_other _ _ _ _ n1]; exact h1
  · exact World.cell?_setCell_same _ _ _ h2
  · intro j; simpa using h3 j
  · intro j hj; rw [World.cell?_setCell_other _ _ _ _ (ng _), World.cell?_setCell_other _ _ _ _ (ng _), World.cell?_setCell_other _ _ _ _ (ng _)]; exact h4 j hj
  · intro j; simpa using h5 j
/-- All blocks but b are as they were. -/
def Kp (b : Nat) (w w' : World) : Prop := (∀ d o, d ≠ b → w'.cell? ⟨d, o, none⟩ = w.cell? ⟨d, o, none⟩) ∧ (∀ d o, w'.frozen? ⟨d, o, none⟩ = w.frozen? ⟨d, o, none⟩) ∧ w'.heap.size = w.heap.size
theorem Kp.drewN (b : Nat) (w : World) (n : Nat) : Kp b w (w.drewN n) := ⟨fun _ _ _ => rfl, fun _ _ => rfl, rfl⟩
theorem Kp.count (b o : Nat) (w : World) (n : Nat) (v : Value) : Kp b w ((w.drewN n).setCell ⟨b, o, none⟩ v) := by
  refine ⟨fun d j h => ?_, fun d j => ?_, ?_⟩
  · rw [World.cell?_setCell_other _ _ _ _ (fun e => h (by injection e with e1; exact e1.symm))]; rfl
  · simp
  · simp
/-- A block's three cells are written, one behind the other. -/
theorem own3 {w : World} {b : Nat} {x0 x1 x2 : Value} (h0 : w.cell? ⟨b, 0, none⟩ = some x0) (h1 : w.cell? ⟨b, 1, none⟩ = some x1) (h2 : w.cell? ⟨b, 2, none⟩ = some x2) (p q r : Value) :
    (w.setCell ⟨b, 0, none⟩ p).cell? ⟨b, 0, none⟩ = some p ∧ ((w.setCell ⟨b, 0, none⟩ p).setCell ⟨b, 1, none⟩ q).cell? ⟨b, 1, none⟩ = some q ∧ (((w.setCell ⟨b, 0, none⟩ p).setCell ⟨b, 1, none⟩ q).setCell ⟨b, 2, none⟩ r).cell? ⟨b, 2, none⟩ = some r := by
  have n10 : (⟨b, 0, none⟩ : Addr) ≠ ⟨b, 1, none⟩ := by simp
  have n20 : (⟨b, 0, none⟩ : Addr) ≠ ⟨b, 2, none⟩ := by simp
  have n21 : (⟨b, 1, none⟩ : Addr) ≠ ⟨b, 2, none⟩ := by simp
  refine ⟨World.cell?_setCell_same _ _ _ h0, World.cell?_setCell_same _ _ _ (by rw [World.cell?_setCell_other _ _ _ _ n10]; exact h1), World.cell?_setCell_same _ _ _ (by rw [World.cell?_setCell_other _ _ _ _ n21, World.cell?_setCell_other _ _ _ _ n20]; exact h2)⟩
def code (n : Nat) (i : Int) : Int := if 0 ≤ i ∧ i < (n : Int) then 0 else 2
theorem may_ok (b g n : Nat) (c t i : Int) (w : World) (hn : n ≤ 200) (hi : I64 i) (h : Cw b g n c t w) :
    Calls Try.prog 17 #[.pointer (some ⟨b, 0, none⟩), .int .i64 i] w (Quiet (.int .i64 (code n i)) w) := by
  unfold I64 at hi
  obtain ⟨⟨h0, h1, h2⟩, h3, h4, h5, h6, h7, h8⟩ := h
  unfold code
  split
  · rename_i hc
    have e1 : ¬ i < 0 := by omega
    have e2 : ¬ (n : Int) ≤ i := by omega
    have e3 : ¬ i ≥ (n : Int) := by omega
    go_enter Try.func17, Try.ntmps17
    go_wp2
    refine bodyPost_ret (v := .int .i64 0) (by simp [results, Try.results17, go_sem]) rfl ⟨rfl, ?_⟩
    first | exact Drawn.refl _ | exact ⟨_, rfl⟩
  · rename_i hc
    by_cases e1 : i < 0
    · go_enter Try.func17, Try.ntmps17
      go_wp2
      refine bodyPost_ret (v := .int .i64 2) (by simp [results, Try.results17, go_sem]) rfl ⟨rfl, ?_⟩
      first | exact Drawn.refl _ | exact ⟨_, rfl⟩
    · have e2 : (n : Int) ≤ i := by omega
      have e3 : i ≥ (n : Int) := by omega
      go_enter Try.func17, Try.ntmps17
      go_wp2
      refine bodyPost_ret (v := .int .i64 2) (by simp [results, Try.results17, go_sem]) rfl ⟨rfl, ?_⟩
      first | exact Drawn.refl _ | exact ⟨_, rfl⟩
theorem access_ok (B b g n : Nat) (c t i : Int) (w : World) (hB : B ≤ b) (hn : n ≤ 200) (hc0 : 0 ≤ c) (hc1 : c ≤ 100) (hi : I64 i) (h : Cw b g n c t w) :
    Calls Try.prog 18 #[.pointer (some ⟨b, 0, none⟩), .int .i64 i] w (fun e w' => e = .returned (.int .i64 (code n i)) ∧ Below B w w' ∧ Cw b g n (if 0 ≤ i ∧ i < (n : Int) then c + 1 else c) t w' ∧ Kp b w w') := by
  have k := fun w h => Lib.hid (may_ok b g n c t i w hn hi h)
  have H := Lib.hid h
  obtain ⟨⟨h0, h1, h2⟩, h3, h4, h5, h6, h7, h8⟩ := h
  clear h1 h4 h5
  unfold I64 at hi
  unfold code at k ⊢
  split
  · rename_i hc
    simp only [if_pos hc] at k
    go_enter Try.func18, Try.ntmps18
    go_wp2_with fail
    refine (k _ (H.out.below (by repeat (first | with_reducible exact Below.refl _ _ | with_reducible refine below_drewN ?_ _ | with_reducible refine below_alloc ?_ (Nat.le_refl _) _ | (with_reducible refine Below.setCell ?_ ?h _; (case h => first | (dsimp only; omega) | (simp; done) | (simp; omega))) | with_reducible refine below_step ?_ (Nat.le_refl _) (by assumption))))).out.mono ?_
    rintro e w1 ⟨rfl, q, rfl⟩
    go_wp2
    refine bodyPost_ret (v := .int .i64 0) (by simp [results, Try.results18, go_sem]) rfl ⟨rfl, ?_, ?_, Kp.count _ _ _ _ _⟩
    · exact (Drawn.below' ⟨_, rfl⟩ : Below B w (w.drewN _)).setCell hB _
    · exact (H.out.below (Drawn.below' ⟨_, rfl⟩ : Below _ w (w.drewN _))).count (c + 1)
  · rename_i hc
    simp only [if_neg hc] at k
    go_enter Try.func18, Try.ntmps18
    go_wp2_with fail
    refine (k _ (H.out.below (by repeat (first | with_reducible exact Below.refl _ _ | with_reducible refine below_drewN ?_ _ | with_reducible refine below_alloc ?_ (Nat.le_refl _) _ | (with_reducible refine Below.setCell ?_ ?h _; (case h => first | (dsimp only; omega) | (simp; done) | (simp; omega))) | with_reducible refine below_step ?_ (Nat.le_refl _) (by assumption))))).out.mono ?_
    rintro e w1 ⟨rfl, q, rfl⟩
    go_wp2
    refine bodyPost_ret (v := .int .i64 2) (by simp [results, Try.results18, go_sem]) rfl ⟨rfl, ?_, ?_, Kp.drewN _ _ _⟩
    · exact Drawn.below' ⟨_, rfl⟩
    · exact H.out.below (Drawn.below' ⟨_, rfl⟩)
theorem Load_ok (B b g n : Nat) (c i : Int) (w : World) (hB : B ≤ b) (hBw : B ≤ w.heap.size) (hn : n ≤ 200) (hc0 : 0 ≤ c) (hc1 : c ≤ 100) (hi : I64 i) (h : Cw b g n c 0 w) :
    Calls Try.prog 13 #[.pointer (some ⟨b, 0, none⟩), .int .i64 i] w (fun e w' => e = .returned (.tuple #[.agg #[.int .i64 (0), .int .i64 (0), .int .i64 (0)], .int .i64 (code n i)]) ∧ Below B w w') := by
  have k := fun w h => Lib.hid (access_ok B b g n c 0 i w hB hn hc0 hc1 hi h)
  have H := Lib.hid h
  have HR := Lib.hid (below_alloc (Below.refl B w) hBw (.cells #[.int .i64 0, .int .i64 0, .int .i64 0] 33))
  have H1 := Lib.hid (h.below (below_alloc (Below.refl _ w) (Nat.le_refl _) (.cells #[.int .i64 0, .int .i64 0, .int .i64 0] 33)))
  unfold I64 at hi
  unfold code at k ⊢
  by_cases hc : 0 ≤ i ∧ i < (n : Int)
  · simp only [if_pos hc] at k ⊢
    obtain ⟨m, rfl⟩ := Int.eq_ofNat_of_zero_le hc.1
    have hm : m < n := by omega
    go_enter Try.func13, Try.ntmps13
    go_wp2_with fail
    refine (k _ H1.out).out.mono ?_
    rintro e w1 ⟨rfl, hb1, h1, kc, kf, ks⟩
    have nb : w.heap.size ≠ b := by have := h.2.2.2.2.2.1; omega
    have l0 : w1.cell? ⟨w.heap.size, 0, none⟩ = some (.int .i64 0) := by rw [kc _ _ nb]; simp [go_sem]
    have l1 : w1.cell? ⟨w.heap.size, 1, none⟩ = some (.int .i64 0) := by rw [kc _ _ nb]; simp [go_sem]
    have l2 : w1.cell? ⟨w.heap.size, 2, none⟩ = some (.int .i64 0) := by rw [kc _ _ nb]; simp [go_sem]
    have lf : ∀ j, w1.frozen? ⟨w.heap.size, j, none⟩ = false := by intro j; rw [kf]; simp [go_sem]
    obtain ⟨s0, s1, s2⟩ := own3 l0 l1 l2 (.int .i64 0) (.int .i64 0) (.int .i64 0)
    clear kc kf
    obtain ⟨⟨a0, a1, a2⟩, a3, a4, a5, a6, a7, a8⟩ := h1
    obtain ⟨x0, x1, x2⟩ := a4 m hm
    go_wp2
    refine bodyPost_ret (v := .tuple #[.agg #[.int .i64 (0), .int .i64 (0), .int .i64 (0)], .int .i64 0]) (by simp [results, Try.results13, s0, s1, s2, go_sem]) rfl ⟨rfl, ?_⟩
    have HB := HR.out.trans hb1
    exact (((HB.setCell (p := ⟨w.heap.size, 0, none⟩) hBw _).setCell (p := ⟨w.heap.size, 1, none⟩) hBw _).setCell (p := ⟨w.heap.size, 2, none⟩) hBw _)
  · simp only [if_neg hc] at k ⊢
    go_enter Try.func13, Try.ntmps13
    go_wp2_with fail
    refine (k _ H1.out).out.mono ?_
    rintro e w1 ⟨rfl, hb1, h1, kc, kf, ks⟩
    have nb : w.heap.size ≠ b := by have := h.2.2.2.2.2.1; omega
    have l0 : w1.cell? ⟨w.heap.size, 0, none⟩ = some (.int .i64 0) := by rw [kc _ _ nb]; simp [go_sem]
    have l1 : w1.cell? ⟨w.heap.size, 1, none⟩ = some (.int .i64 0) := by rw [kc _ _ nb]; simp [go_sem]
    have l2 : w1.cell? ⟨w.heap.size, 2, none⟩ = some (.int .i64 0) := by rw [kc _ _ nb]; simp [go_sem]
    have lf : ∀ j, w1.frozen? ⟨w.heap.size, j, none⟩ = false := by intro j; rw [kf]; simp [go_sem]
    obtain ⟨s0, s1, s2⟩ := own3 l0 l1 l2 (.int .i64 0) (.int .i64 0) (.int .i64 0)
    clear kc kf
    go_wp2
    refine bodyPost_ret (v := .tuple #[.agg #[.int .i64 (0), .int .i64 (0), .int .i64 (0)], .int .i64 2]) (by simp [results, Try.results13, s0, s1, s2, go_sem]) rfl ⟨rfl, ?_⟩
    have HB := HR.out.trans hb1
    exact (((HB.setCell (p := ⟨w.heap.size, 0, none⟩) hBw _).setCell (p := ⟨w.heap.size, 1, none⟩) hBw _).setCell (p := ⟨w.heap.size, 2, none⟩) hBw _)
theorem word_info : (Try.prog.info? 33).map (fun i => (i.zero, i.size, i.bytes)) = some (some (.agg #[.int .i64 0, .int .i64 0, .int .i64 0]), 3, 24) := by kernel_rfl
theorem New_bad (n : Int) (w : World) (hi : I64 n) (h : n < 0 ∨ 200 < n) :
    Calls Try.prog 6 #[.int .i64 n] w (Quiet (.tuple #[.pointer none, .int .i64 2]) w) := by
  unfold I64 at hi
  rcases h with h | h
  · go_enter Try.func6, Try.ntmps6
    go_wp2
    refine bodyPost_ret (v := .tuple #[.pointer none, .int .i64 2]) (by simp [results, Try.results6, go_sem]) rfl ⟨rfl, ?_⟩
    first | exact Drawn.refl _ | exact ⟨_, rfl⟩
  · have h1 : ¬ n < 0 := by omega
    go_enter Try.func6, Try.ntmps6
    go_wp2
    refine bodyPost_ret (v := .tuple #[.pointer none, .int .i64 2]) (by simp [results, Try.results6, go_sem]) rfl ⟨rfl, ?_⟩
    first | exact Drawn.refl _ | exact ⟨_, rfl⟩
theorem made3 (z : Value) (n j : Nat) (hj : j < n * 3) : (madeCells #[z, z, z] (n * 3)).toList[j]? = some z := by
  have h : j % 3 = 0 ∨ j % 3 = 1 ∨ j % 3 = 2 := by omega
  rw [List.getElem?_eq_getElem (by simp [madeCells]; omega)]
  simp only [madeCells, Array.getElem_toList, Array.getElem_map, Array.getElem_range]
  rcases h with h | h | h
  · simp [h]
  · simp [h]
  · simp [h]
theorem New_ok (n : Nat) (w : World) (hn : n ≤ 200) :
    Calls Try.prog 6 #[.int .i64 (n : Int)] w (fun e w' => ∃ b g, e = .returned (.tuple #[.pointer (some ⟨b, 0, none⟩), .int .i64 0]) ∧ w.heap.size ≤ b ∧ w.heap.size ≤ g ∧ Below w.heap.size w w' ∧ Cw b g n 0 0 w') := by
  obtain ⟨i0, hi0, hz0, hz1, hz2⟩ := info_parts word_info
  have e1 : ¬ (n : Int) < 0 := by omega
  have e2 : ¬ 200 < (n : Int) := by omega
  obtain ⟨wm, hmk, hown, hgr⟩ := run_make_full (P := Try.prog) (w := w) w.heap.size 28 33 i0 _ 3 Try.underlying28 hi0 hz0 hz1 .i64 .i64 n (by rw [hz2]; omega) (by unfold maxLen; omega) (Nat.le_refl _)
  have hgl := World.ownsRow.lt hown w.heap.size rfl
  have HB := (Below.refl w.heap.size w).grown hgr (Nat.le_refl _) (by simp)
  have hc := fun j hj => World.ownsRow.cellAt hown j hj
  have hf := fun j => World.ownsRow.frozenAt hown j
  have HC : Cw wm.heap.size w.heap.size n 0 0 (wm.alloc (.cells #[.bool true, .slice (some ⟨w.heap.size, 0, none⟩) n n, .int .i64 0] 45)) := by
    obtain ⟨cc, cf, cm, _⟩ := bcell (below_alloc (Below.refl _ wm) (Nat.le_refl _) (.cells #[.bool true, .slice (some ⟨w.heap.size, 0, none⟩) n n, .int .i64 0] 45))
    refine ⟨⟨by simp [go_sem], by simp [go_sem], by simp [go_sem]⟩, ?_, ?_, ?_, by omega, by simp [go_sem], by simp [go_sem]; omega⟩
    · intro j; simp [go_sem]
    · intro j hj
      rw [cc _ _ hgl.2, cc _ _ hgl.2, cc _ _ hgl.2, hc _ (by omega), hc _ (by omega), hc _ (by omega)]
      exact ⟨made3 _ _ _ (by omega), made3 _ _ _ (by omega), made3 _ _ _ (by omega)⟩
    · intro j; rw [cf _ _ hgl.2]; exact hf j
  clear hc hf
  go_enter Try.func6, Try.ntmps6
  go_wp2
  refine bodyPost_ret (v := .tuple #[.pointer (some ⟨wm.heap.size, 0, none⟩), .int .i64 0]) (by simp [results, Try.results6, go_sem]) rfl ⟨_, rfl, by omega, w.heap.size, Nat.le_refl _, below_alloc HB (Nat.le_refl _) _, HC⟩
theorem Cw.put {b g : Nat} {c t : Int} {w : World} (h : Cw b g 1 c t w) (u : Int) : Cw b g 1 c u (((w.setCell ⟨g, 0, none⟩ (.int .i64 0)).setCell ⟨g, 1, none⟩ (.int .i64 u)).setCell ⟨g, 2, none⟩ (.int .i64 0)) := by
  obtain ⟨⟨h0, h1, h2⟩, h3, h4, h5, h6, h7, h8⟩ := h
  have nb : ∀ i j, (⟨g, i, none⟩ : Addr) ≠ ⟨b, j, none⟩ := fun i j e => h6 (by injection e with e1; exact e1.symm)
  have n01 : (⟨g, 1, none⟩ : Addr) ≠ ⟨g, 0, none⟩ := by simp
  have n02 : (⟨g, 2, none⟩ : Addr) ≠ ⟨g, 0, none⟩ := by simp
  have n12 : (⟨g, 2, none⟩ : Addr) ≠ ⟨g, 1, none⟩ := by simp
  obtain ⟨x0, x1, x2⟩ := h4 0 (by omega)
  obtain ⟨s0, s1, s2⟩ := own3 x0 x1 x2 (.int .i64 0) (.int .i64 u) (.int .i64 0)
  refine ⟨⟨?_, ?_, ?_⟩, ?_, ?_, ?_, h6, by simpa using h7, by simpa using h8⟩
  · rw [World.cell?_setCell_other _ _ _ _ (nb _ _), World.cell?_setCell_other _ _ _ _ (nb _ _), World.cell?_setCell_other _ _ _ _ (nb _ _)]; exact h0
  · rw [World.cell?_setCell_other _ _ _ _ (nb _ _), World.cell?_setCell_other _ _ _ _ (nb _ _), World.cell?_setCell_other _ _ _ _ (nb _ _)]; exact h1
  · rw [World.cell?_setCell_other _ _ _ _ (nb _ _), World.cell?_setCell_other _ _ _ _ (nb _ _), World.cell?_setCell_other _ _ _ _ (nb _ _)]; exact h2
  · intro j; simpa using h3 j
  · intro j hj
    obtain rfl : j = 0 := by omega
    refine ⟨?_, ?_, s2⟩
    · show World.cell? _ ⟨g, 0, none⟩ = _
      rw [World.cell?_setCell_other _ _ _ _ n02, World.cell?_setCell_other _ _ _ _ n01]; exact s0
    · show World.cell? _ ⟨g, 1, none⟩ = _
      rw [World.cell?_setCell_other _ _ _ _ n12]; exact s1
  · intro j; simpa using h5 j
/-- Cas of the only cell, from the zero word to the word with tag 1. -/
theorem Cas_ok (B b g : Nat) (c t : Int) (w : World) (hB : B ≤ b) (hG : B ≤ g) (hBw : B ≤ w.heap.size) (hc0 : 0 ≤ c) (hc1 : c ≤ 100) (ht : t = 0 ∨ t = 1) (h : Cw b g 1 c t w) :
    Calls Try.prog 14 #[.pointer (some ⟨b, 0, none⟩), .int .i64 0, .agg #[.int .i64 (0), .int .i64 (0), .int .i64 (0)], .agg #[.int .i64 (0), .int .i64 (1), .int .i64 (0)]] w (fun e w' => e = .returned (.tuple #[.bool (decide (t = 0)), .int .i64 0]) ∧ Below B w w' ∧ Cw b g 1 (c + 1) 1 w') := by
  have k := fun w h => Lib.hid (access_ok B b g 1 c t 0 w hB (by omega) hc0 hc1 (by unfold I64; omega) h)
  have ec : (0 : Int) ≤ 0 ∧ (0 : Int) < ((1 : Nat) : Int) := by omega
  unfold code at k
  simp only [if_pos ec] at k
  have HR := Lib.hid (below_alloc (below_alloc (Below.refl B w) hBw (.cells #[.int .i64 0, .int .i64 0, .int .i64 0] 33)) hBw (.cells #[.int .i64 0, .int .i64 1, .int .i64 0] 33))
  have H1 := Lib.hid ((h.below (below_alloc (Below.refl _ w) (Nat.le_refl _) (.cells #[.int .i64 0, .int .i64 0, .int .i64 0] 33))).below (below_alloc (Below.refl _ _) (Nat.le_refl _) (.cells #[.int .i64 0, .int .i64 1, .int .i64 0] 33)))
  have nb : w.heap.size ≠ b := by have := h.2.2.2.2.2.1; omega
  have nb' : w.heap.size + 1 ≠ b := by have := h.2.2.2.2.2.1; omega
  clear h ec
  rcases ht with rfl | rfl
  all_goals
    go_enter Try.func14, Try.ntmps14
    go_wp2_with fail
    refine (k _ H1.out).out.mono ?_
    rintro e w1 ⟨rfl, hb1, h1, kc, kf, ks⟩
    have l0 : w1.cell? ⟨w.heap.size, 0, none⟩ = some (.int .i64 0) := by rw [kc _ _ nb]; simp [go_sem]
    have l1 : w1.cell? ⟨w.heap.size, 1, none⟩ = some (.int .i64 0) := by rw [kc _ _ nb]; simp [go_sem]
    have l2 : w1.cell? ⟨w.heap.size, 2, none⟩ = some (.int .i64 0) := by rw [kc _ _ nb]; simp [go_sem]
    have m0 : w1.cell? ⟨w.heap.size + 1, 0, none⟩ = some (.int .i64 0) := by rw [kc _ _ nb']; simp [go_sem]
    have m1 : w1.cell? ⟨w.heap.size + 1, 1, none⟩ = some (.int .i64 1) := by rw [kc _ _ nb']; simp [go_sem]
    have m2 : w1.cell? ⟨w.heap.size + 1, 2, none⟩ = some (.int .i64 0) := by rw [kc _ _ nb']; simp [go_sem]
    clear kc kf
    have HB := Lib.hid (HR.out.trans hb1)
    have H2 := Lib.hid h1
    clear hb1
    obtain ⟨⟨a0, a1, a2⟩, a3, a4, a5, a6, a7, a8⟩ := h1
    obtain ⟨x0, x1, x2⟩ := a4 0 (by omega)
    simp only [Nat.zero_mul, Nat.zero_add] at x0 x1 x2
    clear a0 a2 a3 a4
    go_wp2
    go_region
    go_wp2
  · go_region
    go_wp2
    refine bodyPost_ret (v := .tuple #[.bool true, .int .i64 0]) (by simp [results, Try.results14, go_sem]) rfl ⟨rfl, ?_, ?_⟩
    · exact below_drewN (((HB.out.setCell (p := ⟨g, 0, none⟩) hG _).setCell (p := ⟨g, 1, none⟩) hG _).setCell (p := ⟨g, 2, none⟩) hG _) 2
    · exact (H2.out.put 1).below (Drawn.below' ⟨2, rfl⟩)
  · refine bodyPost_ret (v := .tuple #[.bool false, .int .i64 0]) (by simp [results, Try.results14, go_sem]) rfl ⟨rfl, ?_, ?_⟩
    · exact below_drewN HB.out 1
    · exact H2.out.below (Drawn.below' ⟨1, rfl⟩)
theorem Count_ok (b g n : Nat) (c t : Int) (w : World) (h : Cw b g n c t w) :
    Calls Try.prog 10 #[.pointer (some ⟨b, 0, none⟩)] w (Quiet (.int .i64 c) w) := by
  obtain ⟨⟨h0, h1, h2⟩, h3, h4, h5, h6, h7, h8⟩ := h
  go_enter Try.func10, Try.ntmps10
  go_wp2
  refine bodyPost_ret (v := .int .i64 c) (by simp [results, Try.results10, go_sem]) rfl ⟨rfl, ?_⟩
  first | exact Drawn.refl _ | exact ⟨_, rfl⟩
theorem New_one (w : World) :
    Calls Try.prog 6 #[.int .i64 1] w (fun e w' => ∃ b g, e = .returned (.tuple #[.pointer (some ⟨b, 0, none⟩), .int .i64 0]) ∧ w.heap.size ≤ b ∧ w.heap.size ≤ g ∧ Below w.heap.size w w' ∧ Cw b g 1 0 0 w') := New_ok 1 w (by omega)
set_option maxHeartbeats 3200000 in
theorem works_calls (w : World) : Calls Try.prog 12 #[] w (Fresh (.bool true) w) := by
  have k1 := fun w => Lib.hid (New_one w)
  go_enter Try.func12, Try.ntmps12
  go_wp2_with fail
  refine (k1 _).out.mono ?_
  rintro e w1 ⟨b, g, rfl, hb, hg, hB1, hC1⟩
  have k2 := Lib.hid (Cas_ok w.heap.size b g 0 0 w1 hb hg hB1.size (by omega) (by omega) (.inl rfl) hC1)
  clear hC1
  go_wp2_with fail
  refine k2.out.mono ?_
  rintro e w2 ⟨rfl, hB2, hC2⟩
  have hB2 := hB1.trans hB2
  have k3 := Lib.hid (Cas_ok w.heap.size b g (0 + 1) 1 w2 hb hg hB2.size (by omega) (by omega) (.inr rfl) hC2)
  clear hC2 hB1 k2 k1
  go_wp2_with fail
  refine k3.out.mono ?_
  rintro e w3 ⟨rfl, hB3, hC3⟩
  have hB3 := hB2.trans hB3
  have k4 := fun w h => Lib.hid (Count_ok b g 1 (0 + 1 + 1) 1 w h)
  have H3 := Lib.hid hC3
  clear hC3 hB2 k3
  go_wp2_with fail
  refine (k4 _ H3.out).out.mono ?_
  rintro e w4 ⟨rfl, q, rfl⟩
  go_wp2
  refine bodyPost_ret (v := .bool true) (by simp [results, Try.results12, go_sem]) rfl ⟨rfl, ?_⟩
  exact below_drewN hB3 _
end Go.Proofs.Ytniackbkhfhpaaa.Ce
