/- The chapter's example; the laws of layer 6. -/
import Derived.Test.YtpmbilmffalolaaDoorMask4
namespace Go.Proofs.YtpmbilmffalolaaDoor.Mk
open Go.RowKit
set_option linter.unusedVariables false
set_option linter.unusedSimpArgs false
theorem all9 : ints (all 9) = [0, 3] := by decide
theorem next9 : next 9 0 = some 3 := by decide
theorem place9 : place 9 3 = 1 := by decide
theorem works_calls (w : World) (T : Tab w) : Calls Tryd.prog 14 #[] w (Fresh (.bool true) w) := by
  have k1 := Lib.hid (show Calls Tryd.prog 15 #[.int .u32 9, .int .i64 0] w (Quiet (.tuple #[.int .i64 3, .bool true]) w) from by
    have := Next_calls 9 0 w (by unfold U32; omega) (by unfold I64; omega) T
    rw [next9] at this
    exact this)
  have k2 := fun w => Lib.hid (show Calls Tryd.prog 8 #[.int .u32 9, .int .i64 3] w (Quiet (.int .i64 1) w) from by
    have := Place_calls 9 3 w (by unfold U32; omega) (by unfold I64; omega)
    rw [place9] at this
    exact this)
  have k3 := fun q => Lib.hid (show Calls Tryd.prog 21 #[.int .u32 9] (w.drewN q) (Makes [0, 3] (w.drewN q)) from by
    have := All_calls 9 (w.drewN q) (by unfold U32; omega) (T.below (Drawn.below ⟨q, rfl⟩))
    rw [all9] at this
    exact this)
  clear T
  go_enter Tryd.func14, Tryd.ntmps14
  go_wp2_with (first | (go_at_call 15; (with_reducible refine (k1.out).mono ?_); rintro e w' ⟨rfl, q, rfl⟩) | (go_at_call 8; (with_reducible refine ((k2 _).out).mono ?_); rintro e w' ⟨rfl, q, rfl⟩))
  refine (k3 _).out.mono ?_
  rintro e w1 ⟨v, rfl, hown, hbel⟩
  obtain ⟨A, c, rfl, hc, hm1, hr, hbk⟩ := own_slice hown
  have hr2 := (hr.alloc (Nat.le_refl _) (.cells #[.int .i64 0, .int .i64 3] 3)).mono (show w1.heap.size ≤ (w1.alloc (.cells #[.int .i64 0, .int .i64 3] 3)).heap.size by simp)
  have hlit := Rd.own (World.ownsRow_lit (base := w1.heap.size) (e := 3) (size := 1) w1 #[.int .i64 0, .int .i64 3] 2 (Nat.le_refl _) (by decide) rfl)
  have k4 := Lib.hid (SameInts_calls A (some ⟨w1.heap.size, 0, none⟩) c 2 [0, 3] [0, 3] _ hr2 hlit (by decide) (by decide))
  clear hown hr hr2 hlit k1 k2 k3
  go_wp2_with fail
  refine k4.out.mono ?_
  rintro e w' ⟨rfl, q2, rfl⟩
  go_wp2_with fail
  go_ret
  have hb2 := (hbel.alloc hbel.size (.cells #[.int .i64 0, .int .i64 3] 3)).trans (Drawn.below' ⟨q2, rfl⟩)
  exact ⟨rfl, (Drawn.below ⟨_, rfl⟩).trans hb2⟩
set_option maxHeartbeats 1600000 in
theorem MaskTells_calls (m i : Int) (w : World) (T : Tab w) (h0 : 0 ≤ m ∧ m ≤ 4294967295) (hi : I64 i) :
    Calls Tryd.prog 3 #[.int .u32 m, .int .i64 i] w (Fresh (.bool true) w) := by
  obtain ⟨n, rfl⟩ := Int.eq_ofNat_of_zero_le h0.1
  have hm : U32 n := by unfold U32; omega
  have k1 := fun w => Lib.hid (Has_calls n i w hm hi)
  have k2 := fun w => Lib.hid (RefHas_calls n i w hm hi)
  have k3 := fun w => Lib.hid (Place_calls n i w hm hi)
  have k4 := fun w => Lib.hid (RefPlace_calls n i w hm hi)
  have k5 := fun w => Lib.hid (With_calls n i w hm hi)
  have k6 := fun w => Lib.hid (RefWith_calls n i w hm hi)
  have k7 := fun w => Lib.hid (Without_calls n i w hm hi)
  have k8 := fun w => Lib.hid (RefWithout_calls n i w hm hi)
  generalize has n i = a at *
  generalize place n i = b at *
  generalize with_ n i = c at *
  generalize without n i = d at *
  have T1 := hide T
  have HR := Below.refl w.heap.size w
  clear T h0
  go_enter Tryd.func3, Tryd.ntmps3
  go_wp2_with (first | (go_at_call 6; (with_reducible refine ((k1 _).out).mono ?_); rintro e w' ⟨rfl, q, rfl⟩) | (go_at_call 7; (with_reducible refine ((k2 _).out).mono ?_); rintro e w' ⟨rfl, q, rfl⟩) | (go_at_call 8; (with_reducible refine ((k3 _).out).mono ?_); rintro e w' ⟨rfl, q, rfl⟩) | (go_at_call 9; (with_reducible refine ((k4 _).out).mono ?_); rintro e w' ⟨rfl, hB⟩; have HR2 := below_via HR (Nat.le_refl _) (by repeat (first | with_reducible exact Below.refl _ _ | with_reducible refine below_drewN ?_ _ | with_reducible refine below_alloc ?_ (Nat.le_refl _) _)) hB; clear HR hB; (try clear hbc hbf hbm hbn); have HR := HR2; clear HR2; obtain ⟨hbc, hbf, hbm, hbn⟩ := bcell HR) | (go_at_call 10; (with_reducible refine ((k5 _).out).mono ?_); rintro e w' ⟨rfl, q, rfl⟩) | (go_at_call 11; (with_reducible refine ((k6 _).out).mono ?_); rintro e w' ⟨rfl, hB⟩; have HR2 := below_via HR (Nat.le_refl _) (by repeat (first | with_reducible exact Below.refl _ _ | with_reducible refine below_drewN ?_ _ | with_reducible refine below_alloc ?_ (Nat.le_refl _) _)) hB; clear HR hB; (try clear hbc hbf hbm hbn); have HR := HR2; clear HR2; obtain ⟨hbc, hbf, hbm, hbn⟩ := bcell HR) | (go_at_call 12; (with_reducible refine ((k7 _).out).mono ?_); rintro e w' ⟨rfl, q, rfl⟩) | (go_at_call 13; (with_reducible refine ((k8 _).out).mono ?_); rintro e w' ⟨rfl, hB⟩; have HR2 := below_via HR (Nat.le_refl _) (by repeat (first | with_reducible exact Below.refl _ _ | with_reducible refine below_drewN ?_ _ | with_reducible refine below_alloc ?_ (Nat.le_refl _) _)) hB; clear HR hB; (try clear hbc hbf hbm hbn); have HR := HR2; clear HR2; obtain ⟨hbc, hbf, hbm, hbn⟩ := bcell HR) | (go_at_call 14; (with_reducible refine (works_calls _ ((unhide T1).below (by repeat (first | with_reducible exact HR | with_reducible refine below_drewN ?_ _ | with_reducible refine below_alloc ?_ (Nat.le_refl _) _)))).mono ?_); rintro e w' ⟨rfl, hB⟩; have HR2 := below_via HR (Nat.le_refl _) (by repeat (first | with_reducible exact Below.refl _ _ | with_reducible refine below_drewN ?_ _ | with_reducible refine below_alloc ?_ (Nat.le_refl _) _)) hB; clear HR hB; (try clear hbc hbf hbm hbn); have HR := HR2; clear HR2; obtain ⟨hbc, hbf, hbm, hbn⟩ := bcell HR))
  all_goals
    go_ret
    exact ⟨(by first | rfl | exact ret_bool (by simp; omega)), HR⟩
theorem head_ints (l : List Nat) : (ints l).head? = l.head?.map Int.ofNat := by unfold ints; rw [List.head?_map]
set_option maxHeartbeats 1600000 in
theorem MaskGoes_calls (m i : Int) (w : World) (T : Tab w) (h0 : 0 ≤ m ∧ m ≤ 4294967295) (hi : I64 i) :
    Calls Tryd.prog 4 #[.int .u32 m, .int .i64 i] w (Fresh (.bool true) w) := by
  obtain ⟨n, rfl⟩ := Int.eq_ofNat_of_zero_le h0.1
  have hm : U32 n := by unfold U32; omega
  have k1 := Lib.hid (Next_calls n i w hm hi T)
  have k2 := fun w => Lib.hid (RefNext_calls n i w hm hi)
  have k3 := fun w T => Lib.hid (First_calls n w hm T)
  have k4 := fun w => Lib.hid (RefAll_calls n w hm)
  have k5 := fun w => Lib.hid (Count_calls n w hm)
  have k6 := fun w T => Lib.hid (All_calls n w hm T)
  have hl := all_len n
  unfold opt at k1 k2 k3
  generalize next n i = o at *
  generalize o.getD 0 = d at *
  generalize o.isSome = s at *
  have T1 := hide T
  clear T h0
  have hz : (all n = [] ∧ (all n).head? = none) ∨ ∃ a r, all n = a :: r ∧ (all n).head? = some a := by
    cases all n with
    | nil => left; exact ⟨rfl, rfl⟩
    | cons a r => right; exact ⟨a, r, rfl, rfl⟩
  rcases hz with ⟨hA, hH⟩ | ⟨a, r, hA, hH⟩
  all_goals
    rw [hH] at k3
    clear hH
    rw [hA] at k4 k5 k6 hl
    clear hA
    simp only [Option.getD_none, Option.getD_some, Option.isSome_none, Option.isSome_some] at k3
    go_enter Tryd.func4, Tryd.ntmps4
    go_wp2_with fail
    refine k1.out.mono ?_
    rintro e w0 ⟨rfl, q, rfl⟩
    go_wp2_with fail
    refine (k2 _).out.mono ?_
    rintro e w1 ⟨rfl, hb1⟩
    have hB1 : Below w.heap.size w w1 := below_step (Drawn.below ⟨q, rfl⟩) (Nat.le_refl _) hb1
    clear hb1
    go_wp2_with fail
    refine (k3 _ ((unhide T1).below hB1)).out.mono ?_
    rintro e w' ⟨rfl, q1, rfl⟩
    go_wp2_with fail
    refine (k4 _).out.mono ?_
    rintro e w2 ⟨v, rfl, hown, hb2⟩
    have hB2 : Below w.heap.size w w2 := below_step (below_drewN hB1 q1) (Nat.le_refl _) hb2
    obtain ⟨A, c, rfl, hc, hm1, hr, hbk⟩ := own_slice hown
    clear hown hb2
  · rw [show ints [] = [] from rfl] at k6 hr hc ⊢
    simp only [List.length_nil] at k5 hc ⊢
    go_wp2_with fail
    refine (k5 _).out.mono ?_
    rintro e w' ⟨rfl, q2, rfl⟩
    go_wp2_with fail
    have hB3 : Below w.heap.size w (w2.drewN q2) := below_drewN hB2 q2
    refine (k6 _ ((unhide T1).below hB3)).out.mono ?_
    rintro e w3 ⟨v3, rfl, hown3, hb3⟩
    have hB4 : Below w.heap.size w w3 := below_step hB3 (Nat.le_refl _) hb3
    obtain ⟨A3, c3, rfl, hc3, hm3, hr3, hbk3⟩ := own_slice hown3
    clear hown3
    simp only [List.length_nil]
    have hr2 := ((hr.drewN q2).below hb3).mono hb3.size
    clear hb3
    have k7 := Lib.hid (SameInts_calls A3 A c3 c [] [] w3 hr3 hr2 (by simp) (by simp))
    rw [decide_eq_true rfl] at k7
    simp only [List.length_nil] at k7
    clear hr hr3 hr2
    go_wp2_with fail
    (with_reducible refine k7.out.mono ?_)
    rintro e w' ⟨rfl, q3, rfl⟩
    have hB5 : Below w.heap.size w (w3.drewN q3) := below_drewN hB4 q3
    go_wp2_with fail
    refine (works_calls _ ((unhide T1).below hB5)).mono ?_
    rintro e w5 ⟨rfl, hb5⟩
    go_wp2_with fail
    go_ret
    exact ⟨rfl, below_step hB5 (Nat.le_refl _) hb5⟩
  · obtain ⟨ad, rfl, _, hck⟩ := hr.at_ (k := 0) (by rw [iv_len]; simp [ints])
    rw [iv_at (ints (a :: r)) 0 (by simp [ints])] at hck
    have e0 : (ints (a :: r))[0]'(by simp [ints]) = (a : Int) := by simp [ints]
    rw [e0] at hck
    have ea : ad.add 0 = ad := by simp [Addr.add]
    rw [ea] at hck
    have ep : 0 < (ints (a :: r)).length := by simp [ints]
    rw [show (a :: r).length = (ints (a :: r)).length from (ints_len _).symm] at k5 hl
    clear e0 ea
    generalize ints (a :: r) = zs at *
    have ep2 : (0 : Int) < (zs.length : Int) := by omega
    go_wp2_with fail
    refine (k5 _).out.mono ?_
    rintro e w' ⟨rfl, q2, rfl⟩
    go_wp2_with fail
    have hB3 : Below w.heap.size w (w2.drewN q2) := below_drewN hB2 q2
    refine (k6 _ ((unhide T1).below hB3)).out.mono ?_
    rintro e w3 ⟨v3, rfl, hown3, hb3⟩
    have hB4 : Below w.heap.size w w3 := below_step hB3 (Nat.le_refl _) hb3
    obtain ⟨A3, c3, rfl, hc3, hm3, hr3, hbk3⟩ := own_slice hown3
    clear hown3
    have hr2 := ((hr.drewN q2).below hb3).mono hb3.size
    clear hb3
    have k7 := Lib.hid (SameInts_calls A3 (some ad) c3 c zs zs w3 hr3 hr2 (by omega) (by omega))
    rw [decide_eq_true rfl] at k7
    clear hr hr3 hr2
    go_wp2_with fail
    (with_reducible refine k7.out.mono ?_)
    rintro e w' ⟨rfl, q3, rfl⟩
    have hB5 : Below w.heap.size w (w3.drewN q3) := below_drewN hB4 q3
    go_wp2_with fail
    refine (works_calls _ ((unhide T1).below hB5)).mono ?_
    rintro e w5 ⟨rfl, hb5⟩
    go_wp2_with fail
    go_ret
    exact ⟨rfl, below_step hB5 (Nat.le_refl _) hb5⟩
theorem or_lt (m k : Nat) (hm : m < 4294967296) (hk : k < 32) : m ||| 2 ^ k < 4294967296 := by
  have h1 : m < 2 ^ 32 := hm
  have h2 : 2 ^ k < 2 ^ 32 := Nat.pow_lt_pow_right (by omega) hk
  exact Nat.or_lt_two_pow h1 h2
theorem with_u32 (m k : Nat) (hm : U32 m) (hk : k < 32) : U32 (with_ m k) := by
  unfold with_ U32 at *
  rw [if_pos ⟨by omega, by omega⟩]
  exact or_lt m k hm hk
theorem without_u32 (m : Nat) (i : Int) (hm : U32 m) : U32 (without m i) := by
  unfold without U32 at *
  split
  · exact Nat.lt_of_le_of_lt Nat.and_le_left hm
  · exact hm
theorem has_nat (m k : Nat) (hk : k < 32) : has m k = m.testBit k := by
  unfold has; rw [decide_eq_true (by omega)]; rfl
theorem has_with (m x y : Nat) (hx : x < 32) (hy : y < 32) : has (with_ m x) y = (has m y || x == y) := by
  rw [has_nat _ y hy, has_nat _ y hy]
  unfold with_
  rw [if_pos ⟨by omega, by omega⟩, Nat.testBit_or, show ((x : Int)).toNat = x by omega, Nat.testBit_two_pow]
  rfl
theorem has_without (m x y : Nat) (hx : x < 32) (hy : y < 32) : has (without m x) y = (has m y && !(x == y)) := by
  rw [has_nat _ y hy, has_nat _ y hy]
  unfold without
  have hp : 2 ^ x < 2 ^ 32 := Nat.pow_lt_pow_right (by omega) hx
  have e0 : 4294967295 - 2 ^ x = 2 ^ 32 - (2 ^ x + 1) := by omega
  rw [if_pos ⟨by omega, by omega⟩, show ((x : Int)).toNat = x by omega, e0, Nat.testBit_and, Nat.testBit_two_pow_sub_succ hp, Nat.testBit_two_pow]
  have : decide (y < 32) = true := decide_eq_true hy
  rw [this, Bool.true_and]
  rfl
theorem place_mid (m i : Nat) (pre rest : List Nat) (h : all m = pre ++ i :: rest) : place m i = pre.length := by
  have hs := sorted m 32
  unfold place
  rw [show upTo m 32 = all m from rfl] at hs
  rw [h] at hs ⊢
  rw [List.pairwise_append] at hs
  obtain ⟨_, h2, h3⟩ := hs
  rw [List.pairwise_cons] at h2
  rw [List.countP_append, List.countP_cons]
  have hp : pre.countP (fun k : Nat => decide ((k : Int) < (i : Int))) = pre.length := by
    rw [List.countP_eq_length]
    intro x hx
    have := h3 x hx i (by simp)
    simp; omega
  have hr : rest.countP (fun k : Nat => decide ((k : Int) < (i : Int))) = 0 := by
    rw [List.countP_eq_zero]
    intro x hx
    have := h2.1 x hx
    simp; omega
  rw [hp, hr]
  simp
theorem place_at (m n : Nat) (h : n < (all m).length) : place m ((all m)[n] : Nat) = n := by
  have e : all m = (all m).take n ++ (all m)[n] :: (all m).drop (n + 1) := by
    rw [← List.drop_eq_getElem_cons h, List.take_append_drop]
  rw [place_mid m _ _ _ e]
  simp; omega
theorem has_at (m n : Nat) (h : n < (all m).length) : has m ((all m)[n] : Nat) = true := by
  have := mem_all.1 (List.getElem_mem h)
  rw [has_nat _ _ this.1]
  exact this.2
set_option maxHeartbeats 1600000 in
theorem MaskChanges_calls (m i k : Int) (w : World) (T : Tab w) (h0 : 0 ≤ m ∧ m ≤ 4294967295) (hi : 0 ≤ i ∧ i ≤ 255) (hk : 0 ≤ k ∧ k ≤ 255) :
    Calls Tryd.prog 5 #[.int .u32 m, .int .u8 i, .int .u8 k] w (Fresh (.bool true) w) := by
  obtain ⟨n, rfl⟩ := Int.eq_ofNat_of_zero_le h0.1
  have hm : U32 n := by unfold U32; omega
  obtain ⟨x, hx⟩ := Int.eq_ofNat_of_zero_le (show 0 ≤ i % 32 by omega)
  obtain ⟨y, hy⟩ := Int.eq_ofNat_of_zero_le (show 0 ≤ k % 32 by omega)
  have hx32 : x < 32 := by omega
  have hy32 : y < 32 := by omega
  have xi : I64 x := by unfold I64; omega
  have yi : I64 y := by unfold I64; omega
  have k1 := Lib.hid (works_calls w T)
  have k2 := fun w => Lib.hid (With_calls n x w hm xi)
  have k3 := fun w => Lib.hid (Without_calls n x w hm xi)
  have k4 := fun w => Has_calls (with_ n x) x w (with_u32 n x hm hx32) xi
  have k5 := fun w => Has_calls (without n x) x w (without_u32 n x hm) xi
  have k6 := fun w => Has_calls (with_ n x) y w (with_u32 n x hm hx32) yi
  have k7 := fun w => Has_calls (without n x) y w (without_u32 n x hm) yi
  have k8 := fun w => Has_calls n y w hm yi
  rw [has_with n x x hx32 hx32, beq_self_eq_true, Bool.or_true] at k4
  rw [has_without n x x hx32 hx32, beq_self_eq_true, Bool.not_true, Bool.and_false] at k5
  rw [has_with n x y hx32 hy32] at k6
  rw [has_without n x y hx32 hy32] at k7
  have k9 := fun w T => Lib.hid (All_calls n w hm T)
  have k10 := fun w => Lib.hid (Count_calls n w hm)
  generalize with_ n x = a at *
  generalize without n x = b at *
  generalize has n y = c at *
  have T1 := hide T
  clear T h0
  have hP := Lib.hid (place_at n)
  have hH := Lib.hid (has_at n)
  have k11 := fun i w hi => Lib.hid (Place_calls n i w hm hi)
  have k12 := fun i w hi => Lib.hid (Has_calls n i w hm hi)
  have hl := all_len n
  have hlt := Lib.hid (all_lt n)
  have K4 := fun w => Lib.hid (k4 w)
  have K5 := fun w => Lib.hid (k5 w)
  have K8 := fun w => Lib.hid (k8 w)
  clear k4 k5 k8
  rcases Nat.decEq x y with hxy | hxy
  rotate_left
  · subst hxy
    rw [beq_self_eq_true] at k6 k7
    clear k6 k7
    go_enter Tryd.func5, Tryd.ntmps5
    go_wp2_with fail
    refine k1.out.mono ?_
    rintro e w1 ⟨rfl, hB1⟩
    go_wp2_with (first | (go_at_call 10; (with_reducible refine ((k2 _).out).mono ?_); rintro e w' ⟨rfl, q, rfl⟩) | (go_at_call 12; (with_reducible refine ((k3 _).out).mono ?_); rintro e w' ⟨rfl, q, rfl⟩) | (go_at_call 6; (first | with_reducible refine ((K4 _).out).mono ?_ | with_reducible refine ((K5 _).out).mono ?_); rintro e w' ⟨rfl, q, rfl⟩))
    refine (k9 _ ((unhide T1).below (by repeat (first | with_reducible exact hB1 | with_reducible refine below_drewN ?_ _)))).out.mono ?_
    rintro e w2 ⟨v, rfl, hown, hb2⟩
    have hB2 : Below w.heap.size w w2 := below_via hB1 (Nat.le_refl _) (by repeat (first | with_reducible exact Below.refl _ _ | with_reducible refine below_drewN ?_ _)) hb2
    obtain ⟨A, c2, rfl, hc, hm1, hr, hbk⟩ := own_slice hown
    clear hown hb2 hbk
    rw [ints_len] at hc ⊢
    go_wp2_with fail
    go_loopg [12] (all n).length (fun g j wr => ∃ z : Nat, j = .int .i64 (z : Int) ∧ z + g = (all n).length ∧ Drawn w2 wr)
    case atStart => exact ⟨0, rfl, by omega, Drawn.refl _⟩
    case round =>
      obtain ⟨z, rfl, hz, q, rfl⟩ := hrel
      by_cases hlz : z < (all n).length
      · have g1 : (z : Int) < ((all n).length : Int) := by omega
        obtain ⟨ad, rfl, _, hck⟩ := hr.at_ (k := z) (by rw [iv_len, ints_len]; exact hlz)
        rw [iv_at (ints (all n)) z (by rw [ints_len]; exact hlz)] at hck
        have e3 : (ints (all n))[z]'(by rw [ints_len]; exact hlz) = ((all n)[z] : Nat) := by simp [ints]
        rw [e3] at hck
        have hz32 := hlt.out ((all n)[z] : Nat) (by rw [← e3]; exact List.getElem_mem _)
        have k13 := fun w => k11 ((all n)[z] : Nat) w (by unfold I64; omega)
        have k14 := fun w => k12 ((all n)[z] : Nat) w (by unfold I64; omega)
        rw [hP.out z hlz] at k13
        rw [hH.out z hlz] at k14
        clear e3
        generalize (all n)[z] = s at *
        go_wp2_with (first | (go_at_call 8; (with_reducible refine ((k13 _).out).mono ?_); rintro e w' ⟨rfl, q, rfl⟩) | (go_at_call 6; (with_reducible refine ((k14 _).out).mono ?_); rintro e w' ⟨rfl, q, rfl⟩))
        go_roundg ((all n).length - (z + 1))
        case rel => exact ⟨z + 1, by go_num, by omega, _, rfl⟩
        case measure => omega
      · have g1 : ¬ (z : Int) < ((all n).length : Int) := by omega
        go_wp2_with (first | (go_at_call 19; (with_reducible refine ((k10 _).out).mono ?_); rintro e w' ⟨rfl, q, rfl⟩))
        go_ret
        exact ⟨rfl, below_drewN hB2 _⟩
  · have e1 : (x == y) = false := by rw [beq_eq_false_iff_ne]; exact hxy
    have e2 : ((x : Int) != (y : Int)) = true := by rw [bne_iff_ne]; omega
    have e4 : ¬ (x : Int) = (y : Int) := by omega
    rw [e1, Bool.or_false] at k6
    rw [e1, Bool.not_false, Bool.and_true] at k7
    have K6 := fun w => Lib.hid (k6 w)
    have K7 := fun w => Lib.hid (k7 w)
    clear k6 k7 e1 hxy
    cases c
    all_goals
      go_enter Tryd.func5, Tryd.ntmps5
      go_wp2_with fail
      refine k1.out.mono ?_
      rintro e w1 ⟨rfl, hB1⟩
      go_wp2_with (first | (go_at_call 10; (with_reducible refine ((k2 _).out).mono ?_); rintro e w' ⟨rfl, q, rfl⟩) | (go_at_call 12; (with_reducible refine ((k3 _).out).mono ?_); rintro e w' ⟨rfl, q, rfl⟩) | (go_at_call 6; (first | with_reducible refine ((K4 _).out).mono ?_ | with_reducible refine ((K5 _).out).mono ?_ | with_reducible refine ((K6 _).out).mono ?_ | with_reducible refine ((K7 _).out).mono ?_ | with_reducible refine ((K8 _).out).mono ?_); rintro e w' ⟨rfl, q, rfl⟩))
      refine (k9 _ ((unhide T1).below (by repeat (first | with_reducible exact hB1 | with_reducible refine below_drewN ?_ _)))).out.mono ?_
      rintro e w2 ⟨v, rfl, hown, hb2⟩
      have hB2 : Below w.heap.size w w2 := below_via hB1 (Nat.le_refl _) (by repeat (first | with_reducible exact Below.refl _ _ | with_reducible refine below_drewN ?_ _)) hb2
      obtain ⟨A, c2, rfl, hc, hm1, hr, hbk⟩ := own_slice hown
      clear hown hb2 hbk
      rw [ints_len] at hc ⊢
      go_wp2_with fail
      go_loopg [12] (all n).length (fun g j wr => ∃ z : Nat, j = .int .i64 (z : Int) ∧ z + g = (all n).length ∧ Drawn w2 wr)
      case atStart => exact ⟨0, rfl, by omega, Drawn.refl _⟩
      case round =>
        obtain ⟨z, rfl, hz, q, rfl⟩ := hrel
        by_cases hlz : z < (all n).length
        · have g1 : (z : Int) < ((all n).length : Int) := by omega
          obtain ⟨ad, rfl, _, hck⟩ := hr.at_ (k := z) (by rw [iv_len, ints_len]; exact hlz)
          rw [iv_at (ints (all n)) z (by rw [ints_len]; exact hlz)] at hck
          have e3 : (ints (all n))[z]'(by rw [ints_len]; exact hlz) = ((all n)[z] : Nat) := by simp [ints]
          rw [e3] at hck
          have hz32 := hlt.out ((all n)[z] : Nat) (by rw [← e3]; exact List.getElem_mem _)
          have k13 := fun w => k11 ((all n)[z] : Nat) w (by unfold I64; omega)
          have k14 := fun w => k12 ((all n)[z] : Nat) w (by unfold I64; omega)
          rw [hP.out z hlz] at k13
          rw [hH.out z hlz] at k14
          clear e3
          generalize (all n)[z] = s at *
          go_wp2_with (first | (go_at_call 8; (with_reducible refine ((k13 _).out).mono ?_); rintro e w' ⟨rfl, q, rfl⟩) | (go_at_call 6; (with_reducible refine ((k14 _).out).mono ?_); rintro e w' ⟨rfl, q, rfl⟩))
          go_roundg ((all n).length - (z + 1))
          case rel => exact ⟨z + 1, by go_num, by omega, _, rfl⟩
          case measure => omega
        · have g1 : ¬ (z : Int) < ((all n).length : Int) := by omega
          go_wp2_with (first | (go_at_call 19; (with_reducible refine ((k10 _).out).mono ?_); rintro e w' ⟨rfl, q, rfl⟩))
          go_ret
          exact ⟨rfl, below_drewN hB2 _⟩
end Go.Proofs.YtpmbilmffalolaaDoor.Mk
