/- A call fits as its plain form does; each cell is one thing's. -/
import Derived.Test.YtpomikfbklmcoaaDoorFits
import Derived.Test.YtpomikfbklmcoaaDoorMem
import Derived.Deep.LoopGhost
namespace Go.Proofs.YtpomikfbklmcoaaDoor.Conf
open Go.RowKit
set_option linter.unusedVariables false
set_option linter.unusedSimpArgs false
attribute [local go_sem ↓] Go.wp_at_zero Go.wp_at_succ
theorem int_info : (Tryd.prog.info? 3).map (fun i => (i.zero, i.size, i.bytes)) = some (some (.int .i64 0), 1, 8) := by kernel_rfl
theorem own_below {w w' : World} {base size n : Nat} {e : TypeId} {v : Value} {xs : List Value} (h : w.ownsRow base e size v n xs) (hb : Below w.heap.size w w') : w'.ownsRow base e size v n xs := by
  refine ⟨h.1, ?_⟩
  rcases h.2 with h0 | ⟨g, cap, cur, hv, h1, hh, h3⟩
  · exact .inl h0
  · have hlt : g < w.heap.size := by
      rcases Nat.lt_or_ge g w.heap.size with hl | hl
      · exact hl
      · rw [Array.getElem?_eq_none hl] at hh; cases hh
    exact .inr ⟨g, cap, cur, hv, h1, (hb.block g hlt).trans hh, h3⟩
/-- The first m of n are 1. -/
def firsts (n m : Nat) : List Int := (List.range n).map fun j => if j < m then 1 else 0
theorem firsts_len (n m : Nat) : (firsts n m).length = n := by simp [firsts]
theorem firsts_at (n m j : Nat) (h : j < n) : (firsts n m)[j]'(by rw [firsts_len]; exact h) = if j < m then 1 else 0 := by simp [firsts]
theorem firsts_set (n m : Nat) (h : m < n) : (firsts n m).set m 1 = firsts n (m + 1) := by
  apply List.ext_getElem
  · simp [firsts]
  · intro j h1 h2
    rw [firsts_len] at h2
    rw [List.getElem_set, firsts_at n (m + 1) j h2]
    by_cases e : m = j
    · subst e; simp
    · rw [if_neg e, firsts_at n m j h2]
      by_cases g : j < m
      · rw [if_pos g, if_pos (by omega)]
      · rw [if_neg g, if_neg (by omega)]
theorem firsts_zero (n : Nat) : List.replicate n (Value.int .i64 0) = iv (firsts n 0) := by
  apply List.ext_getElem
  · simp [iv, firsts]
  · intro j h1 h2; simp [iv, firsts]
theorem iv_set (zs : List Int) (m : Nat) (x : Int) : (iv zs).set m (.int .i64 x) = iv (zs.set m x) := by simp [iv, List.map_set]
def Row (B g n m : Nat) (w : World) : Prop := w.ownsRow B 3 1 (.slice (some ⟨g, 0, none⟩) n n) n (iv (firsts n m))
theorem Row.cell {B g n m : Nat} {w : World} (h : Row B g n m w) (j : Nat) (hj : j < n) : w.cell? ⟨g, j, none⟩ = some (.int .i64 (if j < m then 1 else 0)) := by
  have := World.ownsRow.cellAt h j (by omega)
  rw [this, List.getElem?_eq_getElem (by rw [iv_len, firsts_len]; exact hj), iv_at _ _ (by rw [firsts_len]; exact hj), firsts_at n m j hj]
theorem Row.frozen {B g n m : Nat} {w : World} (h : Row B g n m w) (j : Nat) : w.frozen? ⟨g, j, none⟩ = false := World.ownsRow.frozenAt h j
theorem Row.set {B g n m : Nat} {w : World} (h : Row B g n m w) (hm : m < n) : Row B g n (m + 1) (w.setCell ⟨g, m, none⟩ (.int .i64 1)) := by
  have := (World.ownsRow.stored h m (.int .i64 1)).1
  rw [iv_set, firsts_set n m hm] at this
  exact this
theorem Row.below {B g n m : Nat} {w w' : World} (h : Row B g n m w) (hb : Below w.heap.size w w') : Row B g n m w' := own_below h hb
theorem Row.lt {B g n m : Nat} {w : World} (h : Row B g n m w) : B ≤ g ∧ g < w.heap.size := World.ownsRow.lt h g rfl
theorem h11 {a b c d e f g h i j p : Prop} (x : a ∧ b ∧ c ∧ d ∧ e ∧ f ∧ g ∧ h ∧ i ∧ j ∧ p) : p := x.2.2.2.2.2.2.2.2.2.2
theorem held_two {ck cs ct ch cb k h : Int} {a b c : ByteArray} {w x : World} (hb : Below ((w.alloc (.cells #[.int .i64 ck, .int .i64 cs, .int .i64 ct, .int .i64 ch, .int .i64 cb] 23)).alloc (.cells #[.int .i64 k, .string a, .string b, .string c, .int .i64 h] 30)).heap.size ((w.alloc (.cells #[.int .i64 ck, .int .i64 cs, .int .i64 ct, .int .i64 ch, .int .i64 cb] 23)).alloc (.cells #[.int .i64 k, .string a, .string b, .string c, .int .i64 h] 30)) x) : x.cell? ⟨w.heap.size, 0, none⟩ = some (.int .i64 ck) ∧ x.cell? ⟨w.heap.size, 1, none⟩ = some (.int .i64 cs) ∧ x.cell? ⟨w.heap.size, 2, none⟩ = some (.int .i64 ct) ∧ x.cell? ⟨w.heap.size, 3, none⟩ = some (.int .i64 ch) ∧ x.cell? ⟨w.heap.size, 4, none⟩ = some (.int .i64 cb) ∧ x.cell? ⟨w.heap.size + 1, 0, none⟩ = some (.int .i64 k) ∧ x.cell? ⟨w.heap.size + 1, 1, none⟩ = some (.string a) ∧ x.cell? ⟨w.heap.size + 1, 2, none⟩ = some (.string b) ∧ x.cell? ⟨w.heap.size + 1, 3, none⟩ = some (.string c) ∧ x.cell? ⟨w.heap.size + 1, 4, none⟩ = some (.int .i64 h) ∧ Below ((w.alloc (.cells #[.int .i64 ck, .int .i64 cs, .int .i64 ct, .int .i64 ch, .int .i64 cb] 23)).alloc (.cells #[.int .i64 k, .string a, .string b, .string c, .int .i64 h] 30)).heap.size ((w.alloc (.cells #[.int .i64 ck, .int .i64 cs, .int .i64 ct, .int .i64 ch, .int .i64 cb] 23)).alloc (.cells #[.int .i64 k, .string a, .string b, .string c, .int .i64 h] 30)) x := by
  obtain ⟨cc, _, _, _⟩ := bcell hb
  refine ⟨?_, ?_, ?_, ?_, ?_, ?_, ?_, ?_, ?_, ?_, hb⟩
  all_goals
    rw [cc _ _ (by simp <;> omega)]
    simp [go_sem]
set_option maxHeartbeats 6400000 in
set_option maxRecDepth 100000 in
theorem CallApart_calls (ck cs ct ch cb k : Int) (a b c : ByteArray) (h : Int) (w : World) (T : Tab w) (h1 : I64 ck) (h2 : I64 cs) (h3 : I64 ct) (h4 : I64 ch) (h5 : I64 cb) (hk : I64 k) (ha : a.size ≤ maxLen) (hb : b.size ≤ maxLen) (hc : c.size ≤ maxLen) (hh : I64 h) :
    Calls Tryd.prog 4 #[.agg #[.int .i64 ck, .int .i64 cs, .int .i64 ct, .int .i64 ch, .int .i64 cb], .agg #[.int .i64 k, .string a, .string b, .string c, .int .i64 h]] w (Fresh (.bool true) w) := by
  obtain ⟨i0, hi0, hz0, hz1, hz2⟩ := info_parts int_info
  have k1 := fun w T => Lib.hid (Fits_calls ck cs ct ch cb k a b c h w T h1 hk hh ha hb hc)
  have k2 := fun w T => Fits_calls ck cs ct ch cb k (plS k 0 a) (plS k 1 b) (plS k 2 c) (plH k h) w T h1 hk (plH_in k h hh) (plS_size k 0 a ha) (plS_size k 1 b hb) (plS_size k 2 c hc)
  simp only [fits_plain] at k2
  have K2 := fun w T => Lib.hid (k2 w T)
  have k3 := fun w T => Lib.hid (Plain_calls k a b c h w T hk)
  have k4 := fun w T => Plain_calls k (plS k 0 a) (plS k 1 b) (plS k 2 c) (plH k h) w T hk
  simp only [plS_plS, plH_plH] at k4
  have K4 := fun w T => Lib.hid (k4 w T)
  have kM := fun w => May_calls ck cs ct ch cb w h1 h2 h3 h4 h5
  have kC := fun w => Cells_calls ck cs ct ch cb w h1 h2 h3 h4 h5
  have kH := fun i w hi => Handle_calls ck cs ct ch cb i w h1 h2 h3 h4 h5 hi
  have kNt := fun i w hi => Note_calls i w hi
  have T1 := hide (T.below (below_alloc (below_alloc (Below.refl _ w) (Nat.le_refl _) (.cells #[.int .i64 ck, .int .i64 cs, .int .i64 ct, .int .i64 ch, .int .i64 cb] 23)) (Nat.le_refl _) (.cells #[.int .i64 k, .string a, .string b, .string c, .int .i64 h] 30)))
  have HX := Lib.hid (below_alloc (below_alloc (Below.refl _ w) (Nat.le_refl _) (.cells #[.int .i64 ck, .int .i64 cs, .int .i64 ct, .int .i64 ch, .int .i64 cb] 23)) (Nat.le_refl _) (.cells #[.int .i64 k, .string a, .string b, .string c, .int .i64 h] 30))
  have z1 : w.heap.size < w.heap.size + 1 + 1 := by omega
  have z2 : w.heap.size + 1 < w.heap.size + 1 + 1 := by omega
  clear T k2 k4 ha hb hc
  generalize fits ck k a b c h = F at *
  generalize plS k 0 a = A at *
  generalize plS k 1 b = B at *
  generalize plS k 2 c = C at *
  generalize plH k h = H at *
  go_enter Tryd.func4, Tryd.ntmps4
  go_wp2_with fail
  first | (go_region_held3 (fun w' => w'.cell? ⟨w.heap.size, 0, none⟩ = some (.int .i64 ck) ∧ w'.cell? ⟨w.heap.size, 1, none⟩ = some (.int .i64 cs) ∧ w'.cell? ⟨w.heap.size, 2, none⟩ = some (.int .i64 ct) ∧ w'.cell? ⟨w.heap.size, 3, none⟩ = some (.int .i64 ch) ∧ w'.cell? ⟨w.heap.size, 4, none⟩ = some (.int .i64 cb) ∧ w'.cell? ⟨w.heap.size + 1, 0, none⟩ = some (.int .i64 k) ∧ w'.cell? ⟨w.heap.size + 1, 1, none⟩ = some (.string a) ∧ w'.cell? ⟨w.heap.size + 1, 2, none⟩ = some (.string b) ∧ w'.cell? ⟨w.heap.size + 1, 3, none⟩ = some (.string c) ∧ w'.cell? ⟨w.heap.size + 1, 4, none⟩ = some (.int .i64 h) ∧ Below ((w.alloc (.cells #[.int .i64 ck, .int .i64 cs, .int .i64 ct, .int .i64 ch, .int .i64 cb] 23)).alloc (.cells #[.int .i64 k, .string a, .string b, .string c, .int .i64 h] 30)).heap.size ((w.alloc (.cells #[.int .i64 ck, .int .i64 cs, .int .i64 ct, .int .i64 ch, .int .i64 cb] 23)).alloc (.cells #[.int .i64 k, .string a, .string b, .string c, .int .i64 h] 30)) w') ((first | exact held_two (Drawn.refl _).drew.below' | exact held_two (below_step (h11 (by assumption)) (Nat.le_refl _) hB) | exact held_two (below_re (h11 (by assumption)) _) | exact held_two (below_drewN (h11 (by assumption)) _))) (first | (go_at_call 11; (refine (works_calls _ ?_).mono ?_); (exact ((unhide T1).below (h11 (by assumption))).two); rintro e w' ⟨rfl, hB⟩) | (go_at_call 12; (first | (with_reducible refine ((k1 _ ((unhide T1).below (h11 (by assumption)))).out).mono ?_) | (with_reducible refine ((K2 _ ((unhide T1).below (h11 (by assumption)))).out).mono ?_)); rintro e w' ⟨rfl, hB⟩) | (go_at_call 13; (first | (with_reducible refine ((k3 _ ((unhide T1).below (h11 (by assumption)))).out).mono ?_) | (with_reducible refine ((K4 _ ((unhide T1).below (h11 (by assumption)))).out).mono ?_)); rintro e w' ⟨rfl, hB⟩))) | fail
  have HR := h11 (by assumption)
  by_cases eM : mayE ck cs ct ch cb = 0
  · have g0 := may0 eM
    have eC : cellsOf ck cs ct ch cb = 2 + ct + ch := by unfold cellsOf; rw [if_pos eM]
    rw [eM] at kM
    rw [eC] at kC
    obtain ⟨tn, rfl⟩ := Int.eq_ofNat_of_zero_le (show 0 ≤ ct by omega)
    obtain ⟨hn, rfl⟩ := Int.eq_ofNat_of_zero_le (show 0 ≤ ch by omega)
    obtain ⟨N, hN⟩ : ∃ N : Nat, N = 2 + tn + hn := ⟨_, rfl⟩
    have eN : 2 + (tn : Int) + (hn : Int) = (N : Int) := by omega
    rw [eN] at kC
    have NB : 3 ≤ N ∧ N ≤ 82 := by omega
    have HN := Lib.hid hN
    clear hN eN
    have KM := fun w => Lib.hid (kM w)
    have KC := fun w => Lib.hid (kC w)
    clear kM kC eM eC
    go_wp2_with fail
    refine (KM _).out.mono ?_
    rintro e wa ⟨rfl, hBa⟩
    have HRa := below_via HR (Nat.le_refl _) (by repeat (first | with_reducible exact Below.refl _ _ | with_reducible refine below_drewN ?_ _)) hBa
    clear hBa
    obtain ⟨hbc, hbf, hbm, hbn⟩ := bcell HRa
    go_wp2_with fail
    refine (KC _).out.mono ?_
    rintro e wc ⟨rfl, hBc⟩
    have HRc := Lib.hid (below_via HRa (Nat.le_refl _) (Below.refl _ _) hBc)
    clear hBc HRa hbc hbf hbm hbn
    obtain ⟨wm, hmk, hown, hgr⟩ := run_make_full (P := Tryd.prog) (w := wc) ((w.alloc (.cells #[.int .i64 ck, .int .i64 cs, .int .i64 (tn : Int), .int .i64 (hn : Int), .int .i64 cb] 23)).alloc (.cells #[.int .i64 k, .string a, .string b, .string c, .int .i64 h] 30)).heap.size 35 3 i0 _ 1 Tryd.underlying35 hi0 hz0 hz1 .i64 .i64 N (by rw [hz2]; omega) (by unfold maxLen; omega) HRc.out.size
    have HRm := Lib.hid (HRc.out.grown hgr HRc.out.size (by simp))
    have hrow : Row ((w.alloc (.cells #[.int .i64 ck, .int .i64 cs, .int .i64 (tn : Int), .int .i64 (hn : Int), .int .i64 cb] 23)).alloc (.cells #[.int .i64 k, .string a, .string b, .string c, .int .i64 h] 30)).heap.size wc.heap.size N 0 wm := by
      unfold Row
      rw [← firsts_zero, ← toList_madeCells_one]
      simpa [Value.cells] using hown
    obtain ⟨g, hg⟩ : ∃ g, g = wc.heap.size := ⟨_, rfl⟩
    rw [← hg] at hmk hrow
    clear hg hown hgr
    have R0 := Lib.hid hrow
    have c0 := hrow.cell 0 (by omega)
    have c1 := hrow.cell 1 (by omega)
    rw [if_neg (by omega)] at c0 c1
    have fz := hrow.frozen
    have hgl := hrow.lt
    clear hrow
    have e2 : ¬ (N : Int) < 2 := by omega
    have e3 : ¬ 100 < (N : Int) := by omega
    go_wp2_with fail
    have GL := Lib.hid hgl.1
    have HRs := Lib.hid ((HRm.out.setCell hgl.1 (p := ⟨g, 0, none⟩) (.int .i64 1)).setCell hgl.1 (p := ⟨g, 1, none⟩) (.int .i64 1))
    have R2 := Lib.hid ((R0.out.set (by omega)).set (by omega))
    clear c0 c1 fz hgl hmk HRm R0
    have HNt := Lib.hid kNt
    have HHd := Lib.hid kH
    clear kNt kH
    go_loopg [7] tn (fun gh kk wr => ∃ i : Nat, kk = .int .i64 (i : Int) ∧ i + gh = tn ∧ Row ((w.alloc (.cells #[.int .i64 ck, .int .i64 cs, .int .i64 (tn : Int), .int .i64 (hn : Int), .int .i64 cb] 23)).alloc (.cells #[.int .i64 k, .string a, .string b, .string c, .int .i64 h] 30)).heap.size g N (2 + i) wr ∧ Below ((w.alloc (.cells #[.int .i64 ck, .int .i64 cs, .int .i64 (tn : Int), .int .i64 (hn : Int), .int .i64 cb] 23)).alloc (.cells #[.int .i64 k, .string a, .string b, .string c, .int .i64 h] 30)).heap.size ((w.alloc (.cells #[.int .i64 ck, .int .i64 cs, .int .i64 (tn : Int), .int .i64 (hn : Int), .int .i64 cb] 23)).alloc (.cells #[.int .i64 k, .string a, .string b, .string c, .int .i64 h] 30)) wr)
    case atStart => exact ⟨0, rfl, by omega, R2.out, HRs.out⟩
    case round =>
      obtain ⟨i, rfl, hi, hrow, hbr⟩ := hrel
      obtain ⟨hbc, hbf, hbm, hbn⟩ := bcell hbr
      have hNN := HN.out
      by_cases hlt : i < tn
      · have g1 : (i : Int) < (tn : Int) := by omega
        obtain ⟨m, hm⟩ : ∃ m, m = 2 + i := ⟨_, rfl⟩
        have kN := fun w => HNt.out (i : Int) w (by unfold I64; omega)
        rw [show 2 + bnd (i : Int) 0 63 = (m : Int) by unfold bnd; rw [if_neg (by omega)]; omega] at kN
        have KN := fun w => Lib.hid (kN w)
        have hmN : m < N := by omega
        rw [← hm] at hrow
        have cm := hrow.cell m hmN
        rw [if_neg (by omega)] at cm
        have fm := hrow.frozen m
        have RW := Lib.hid hrow
        have HM := Lib.hid hm
        have HBr := Lib.hid hbr
        have q1 : ¬ (m : Int) < 0 := by omega
        have q2 : ¬ (N : Int) ≤ (m : Int) := by omega
        have q3 : (m : Int) < (N : Int) := by omega
        clear kN hrow hbr hm hNN
        go_wp2_with (go_at_call 7; (with_reducible refine ((KN _).out).mono ?_); rintro e w' ⟨rfl, q, rfl⟩)
        go_roundg (tn - (i + 1))
        case rel => exact ⟨i + 1, by go_num, by omega, by have e := HM.out; rw [show 2 + (i + 1) = m + 1 by omega]; exact Row.set (show Row _ g N m (wr.drewN _) from RW.out) hmN, (below_drewN HBr.out _).setCell GL.out _⟩
        case measure => omega
      · have g1 : ¬ (i : Int) < (tn : Int) := by omega
        obtain rfl : tn = i := by omega
        have R3 := Lib.hid hrow
        have H3 := Lib.hid hbr
        clear hrow hbr hNN
        clear hbc hbf hbm hbn
        obtain ⟨hbc, hbf, hbm, hbn⟩ := bcell H3.out
        go_wp2_with fail
        clear hbc hbf hbm hbn
        go_loopg [9] hn (fun gh kk wr => ∃ i : Nat, kk = .int .i64 (i : Int) ∧ i + gh = hn ∧ Row ((w.alloc (.cells #[.int .i64 ck, .int .i64 cs, .int .i64 (tn : Int), .int .i64 (hn : Int), .int .i64 cb] 23)).alloc (.cells #[.int .i64 k, .string a, .string b, .string c, .int .i64 h] 30)).heap.size g N (2 + tn + i) wr ∧ Below ((w.alloc (.cells #[.int .i64 ck, .int .i64 cs, .int .i64 (tn : Int), .int .i64 (hn : Int), .int .i64 cb] 23)).alloc (.cells #[.int .i64 k, .string a, .string b, .string c, .int .i64 h] 30)).heap.size ((w.alloc (.cells #[.int .i64 ck, .int .i64 cs, .int .i64 (tn : Int), .int .i64 (hn : Int), .int .i64 cb] 23)).alloc (.cells #[.int .i64 k, .string a, .string b, .string c, .int .i64 h] 30)) wr)
        case atStart => exact ⟨0, rfl, by omega, R3.out, H3.out⟩
        case round =>
          obtain ⟨i, rfl, hi, hrow, hbr⟩ := hrel
          obtain ⟨hbc, hbf, hbm, hbn⟩ := bcell hbr
          have hNN := HN.out
          by_cases hlt : i < hn
          · have g1 : (i : Int) < (hn : Int) := by omega
            obtain ⟨m, hm⟩ : ∃ m, m = 2 + tn + i := ⟨_, rfl⟩
            have kN := fun w => HHd.out (i : Int) w (by unfold I64; omega)
            rw [show 2 + bnd (tn : Int) 1 64 + bnd (i : Int) 0 63 = (m : Int) by unfold bnd; rw [if_neg (by omega), if_neg (by omega)]; omega] at kN
            have KN := fun w => Lib.hid (kN w)
            have hmN : m < N := by omega
            rw [← hm] at hrow
            have RW := Lib.hid hrow
            have HM := Lib.hid hm
            have HBr := Lib.hid hbr
            have q1 : ¬ (m : Int) < 0 := by omega
            have q2 : ¬ (N : Int) ≤ (m : Int) := by omega
            have q3 : (m : Int) < (N : Int) := by omega
            clear kN hrow hbr hm hNN
            go_wp2_with fail
            refine (KN _).out.mono ?_
            rintro e wa ⟨rfl, hBa⟩
            have HRa := below_via HBr.out (Nat.le_refl _) (by repeat (first | with_reducible exact Below.refl _ _ | with_reducible refine below_drewN ?_ _)) hBa
            have RWa := Lib.hid (RW.out.below (Below.trans (Below.refl _ _) hBa))
            clear hBa hbc hbf hbm hbn RW HBr
            have HBa := Lib.hid HRa
            obtain ⟨hbc, hbf, hbm, hbn⟩ := bcell HRa
            clear HRa
            go_wp2_with fail
            refine (KN _).out.mono ?_
            rintro e wb ⟨rfl, hBb⟩
            have HRb := below_via HBa.out (Nat.le_refl _) (by repeat (first | with_reducible exact Below.refl _ _ | with_reducible refine below_drewN ?_ _)) hBb
            have hrb := RWa.out.below (Below.trans (Below.refl _ _) hBb)
            clear hBb hbc hbf hbm hbn RWa HBa
            have HBb := Lib.hid HRb
            clear HRb
            have cm := hrb.cell m hmN
            rw [if_neg (by omega)] at cm
            have fm := hrb.frozen m
            have RWb := Lib.hid hrb
            clear hrb
            go_wp2_with fail
            go_roundg (hn - (i + 1))
            case rel => exact ⟨i + 1, by go_num, by omega, by have e := HM.out; rw [show 2 + tn + (i + 1) = m + 1 by omega]; exact Row.set RWb.out hmN, HBb.out.setCell GL.out _⟩
            case measure => omega
          · have g1 : ¬ (i : Int) < (hn : Int) := by omega
            obtain rfl : hn = i := by omega
            rw [← hNN] at hrow
            have R4 := Lib.hid hrow
            have H4 := Lib.hid hbr
            clear hrow hbr hNN
            go_wp2_with fail
            clear hbc hbf hbm hbn
            go_loopg [11] N (fun gh kk wr => ∃ i : Nat, kk = .int .i64 (i : Int) ∧ i + gh = N ∧ Row ((w.alloc (.cells #[.int .i64 ck, .int .i64 cs, .int .i64 (tn : Int), .int .i64 (hn : Int), .int .i64 cb] 23)).alloc (.cells #[.int .i64 k, .string a, .string b, .string c, .int .i64 h] 30)).heap.size g N N wr ∧ Below ((w.alloc (.cells #[.int .i64 ck, .int .i64 cs, .int .i64 (tn : Int), .int .i64 (hn : Int), .int .i64 cb] 23)).alloc (.cells #[.int .i64 k, .string a, .string b, .string c, .int .i64 h] 30)).heap.size ((w.alloc (.cells #[.int .i64 ck, .int .i64 cs, .int .i64 (tn : Int), .int .i64 (hn : Int), .int .i64 cb] 23)).alloc (.cells #[.int .i64 k, .string a, .string b, .string c, .int .i64 h] 30)) wr)
            case atStart => exact ⟨0, rfl, by omega, R4.out, H4.out⟩
            case round =>
              obtain ⟨i, rfl, hi, hrow, hbr⟩ := hrel
              by_cases hlt : i < N
              · have g1 : (i : Int) < (N : Int) := by omega
                have cm := hrow.cell i hlt
                rw [if_pos hlt] at cm
                have RW := Lib.hid hrow
                have HBr := Lib.hid hbr
                clear hrow hbr
                go_wp2_with fail
                go_roundg (N - (i + 1))
                case rel => exact ⟨i + 1, by go_num, by omega, RW.out, HBr.out⟩
                case measure => omega
              · have g1 : ¬ (i : Int) < (N : Int) := by omega
                have HBr := Lib.hid hbr
                clear hrow hbr
                go_wp2_with fail
                go_ret
                exact ⟨rfl, below_step HX.out (Nat.le_refl _) HBr.out⟩
  · have eC : cellsOf ck cs ct ch cb = 0 := by unfold cellsOf; rw [if_neg eM]
    rw [eC] at kC
    have KM := fun w => Lib.hid (kM w)
    have KC := fun w => Lib.hid (kC w)
    clear kM kC eC
    generalize mayE ck cs ct ch cb = M at *
    go_wp2_with fail
    refine (KM _).out.mono ?_
    rintro e wa ⟨rfl, hBa⟩
    have HRa := below_via HR (Nat.le_refl _) (by repeat (first | with_reducible exact Below.refl _ _ | with_reducible refine below_drewN ?_ _)) hBa
    clear hBa
    obtain ⟨hbc, hbf, hbm, hbn⟩ := bcell HRa
    go_wp2_with fail
    refine (KC _).out.mono ?_
    rintro e wc ⟨rfl, hBc⟩
    have HRc := Lib.hid (below_via HRa (Nat.le_refl _) (Below.refl _ _) hBc)
    clear hBc HRa hbc hbf hbm hbn
    go_wp2_with fail
    go_ret
    exact ⟨rfl, below_step HX.out (Nat.le_refl _) HRc.out⟩
end Go.Proofs.YtpomikfbklmcoaaDoor.Conf
