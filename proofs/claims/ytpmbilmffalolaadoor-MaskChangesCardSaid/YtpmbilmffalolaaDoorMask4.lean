/- The document's masks with a number, without one; the next one; slices compared. -/
import Derived.Test.YtpmbilmffalolaaDoorMask3
namespace Go.Proofs.YtpmbilmffalolaaDoor.Mk
open Go.RowKit
set_option linter.unusedVariables false
set_option linter.unusedSimpArgs false
theorem mk_u32 (l : List Int) (n : Nat) (hn : n ≤ 32) : mk l n < 4294967296 := by
  have h : 2 ^ n ≤ 2 ^ 32 := Nat.pow_le_pow_right (by omega) hn
  exact Nat.lt_of_lt_of_le (mk_lt l n) h
theorem two_lt (n : Nat) (hn : n < 32) : 2 ^ n < 4294967296 := by
  have h : 2 ^ n < 2 ^ 32 := Nat.pow_lt_pow_right (by omega) hn
  exact h
theorem mem_step (zs : List Int) (j : Nat) (h : j < zs.length) (i : Int) : decide (i ∈ zs.take (j + 1)) = (decide (i ∈ zs.take j) || zs[j] == i) := by
  have e : i ∈ zs.take (j + 1) ↔ i ∈ zs.take j ∨ i = zs[j] := by rw [List.take_succ_eq_append_getElem h, List.mem_append, List.mem_singleton]
  by_cases h1 : i ∈ zs.take j
  · rw [decide_eq_true (e.2 (.inl h1)), decide_eq_true h1]; rfl
  · by_cases h2 : i = zs[j]
    · rw [decide_eq_true (e.2 (.inr h2)), decide_eq_false h1, ← h2]; simp
    · have h3 : (zs[j] == i) = false := by
        rw [beq_eq_false_iff_ne]; exact fun e => h2 e.symm
      rw [decide_eq_false (fun h => (e.1 h).elim h1 h2), decide_eq_false h1, h3]; rfl
set_option maxHeartbeats 1600000 in
theorem Make_calls (A : Option Addr) (cap : Nat) (zs : List Int) (w : World) (hr : Rd w w.heap.size A (iv zs)) (hl : zs.length ≤ 1000) :
    Calls Tryd.prog 24 #[.slice A zs.length cap] w (Quiet (.int .u32 (mk zs 32 : Nat)) w) := by
  go_enter Tryd.func24, Tryd.ntmps24
  go_wp2_with fail
  go_loopg [3, 4, 5] 32 (fun g x o k wr => ∃ n : Nat, k = .int .i64 (n : Int) ∧ n + g = 32 ∧ x = .int .u32 ((mk zs n : Nat) : Int) ∧ o = .int .u32 ((2 ^ n % 4294967296 : Nat) : Int) ∧ wr = w)
  case atStart => exact ⟨0, rfl, rfl, rfl, rfl, rfl⟩
  case round =>
    obtain ⟨n, rfl, hn, rfl, rfl, rfl⟩ := hrel
    by_cases hlt : n < 32
    · have g1 : (n : Int) < 32 := by omega
      have p1 := two_lt n hlt
      have hmk := mk_u32 zs n (by omega)
      have hmk2 := mk_u32 zs (n + 1) (by omega)
      have HM2 := Lib.hid hmk2
      clear hmk2
      have h1 : mk zs (n + 1) = mk zs n + if (n : Int) ∈ zs then 2 ^ n else 0 := rfl
      have h2 : (2 ^ (n + 1) % 4294967296 : Nat) = 2 * (2 ^ n) % 4294967296 := by rw [Nat.pow_succ, Nat.mul_comm]
      rw [Nat.mod_eq_of_lt p1]
      have H1 := Lib.hid h1
      have H2 := Lib.hid h2
      clear h1 h2
      generalize mk zs n = x at *
      generalize 2 ^ n = p at *
      go_wp2_with fail
      obtain ⟨wo, rfl⟩ : ∃ wo : World, wo = wr := ⟨_, rfl⟩
      go_loopg [6, 7] zs.length (fun g t k wr' => ∃ j : Nat, k = .int .i64 (j : Int) ∧ j + g = zs.length ∧ t = .bool (decide ((n : Int) ∈ zs.take j)) ∧ wr' = wo)
      case atStart => exact ⟨0, rfl, by omega, rfl, rfl⟩
      case round =>
        obtain ⟨j, rfl, hj, rfl, rfl⟩ := hrel
        by_cases hj2 : j < zs.length
        · have g2 : (j : Int) < (zs.length : Int) := by omega
          obtain ⟨ad, rfl, _, hck⟩ := hr.at_ (k := j) (by rw [iv_len]; exact hj2)
          rw [iv_at zs j hj2] at hck
          have HS := Lib.hid (mem_step zs j hj2 (n : Int))
          cases hd : decide ((n : Int) ∈ zs.take j)
          · cases he : (zs[j] == (n : Int))
            · rw [hd, he] at HS
              generalize zs[j] = z at *
              clear hd
              go_wp2_with fail
              go_roundg (zs.length - (j + 1))
              case rel => exact ⟨j + 1, by go_num, by omega, by rw [HS.out]; rfl, rfl⟩
              case measure => omega
            · rw [hd, he] at HS
              generalize zs[j] = z at *
              clear hd
              go_wp2_with fail
              go_roundg (zs.length - (j + 1))
              case rel => exact ⟨j + 1, by go_num, by omega, by rw [HS.out]; rfl, rfl⟩
              case measure => omega
          · rw [hd] at HS
            generalize zs[j] = z at *
            clear hd
            go_wp2_with fail
            go_roundg (zs.length - (j + 1))
            case rel => exact ⟨j + 1, by go_num, by omega, by rw [HS.out]; rfl, rfl⟩
            case measure => omega
        · have g2 : ¬ (j : Int) < (zs.length : Int) := by omega
          rw [List.take_of_length_le (show zs.length ≤ j by omega)]
          by_cases hin : (n : Int) ∈ zs
          · have hd : decide ((n : Int) ∈ zs) = true := decide_eq_true hin
            have e1 : mk zs (n + 1) = x + p := by have := H1.out; rwa [if_pos hin] at this
            have hy : x + p < 4294967296 := by rw [← e1]; exact HM2.out
            have E1 := Lib.hid e1
            clear e1 hin
            rw [hd]
            go_wp2_with fail
            go_roundg (31 - n)
            case rel => exact ⟨n + 1, by go_num, by omega, by rw [E1.out]; go_num, by rw [H2.out]; go_num, rfl⟩
            case measure => omega
          · have hd : decide ((n : Int) ∈ zs) = false := decide_eq_false hin
            have e1 : mk zs (n + 1) = x := by have := H1.out; rwa [if_neg hin] at this
            have E1 := Lib.hid e1
            clear e1 hin
            rw [hd]
            go_wp2_with fail
            go_roundg (31 - n)
            case rel => exact ⟨n + 1, by go_num, by omega, by rw [E1.out], by rw [H2.out]; go_num, rfl⟩
            case measure => omega
    · have g1 : ¬ (n : Int) < 32 := by omega
      obtain rfl : n = 32 := by omega
      generalize mk zs 32 = x at *
      go_wp2_with fail
      go_ret
      exact ⟨rfl, Drawn.refl _⟩
theorem with_mk (m : Nat) (hm : U32 m) (i : Int) : mk (ints (all m) ++ [i]) 32 = with_ m i := mk_with m hm i
theorem without_mk (m : Nat) (hm : U32 m) (i : Int) : mk ((ints (all m)).filter fun k => decide (k ≠ i)) 32 = without m i := mk_without m hm i
set_option maxHeartbeats 800000 in
theorem RefWith_calls (m : Nat) (i : Int) (w : World) (hm : U32 m) (hi : I64 i) : Calls Tryd.prog 11 #[.int .u32 m, .int .i64 i] w (Fresh (.int .u32 (with_ m i : Nat)) w) := by
  obtain ⟨i0, hi0, hz0, hz1, hz2⟩ := info_parts int_info
  have k1 := Lib.hid (RefAll_calls m w hm)
  have hl := all_len m
  rw [← with_mk m hm]
  rw [← ints_len] at hl
  generalize ints (all m) = zs at *
  go_enter Tryd.func11, Tryd.ntmps11
  go_wp2_with fail
  refine k1.out.mono ?_
  rintro e w1 ⟨v, rfl, hown, hbel⟩
  obtain ⟨hown1, hnew, hbel1, hblk⟩ := app_pre i hown hbel
  have h63 : zs.length + 1 ≤ maxLen := by simp only [maxLen]; omega
  have h64 : (zs.length + 1) * 8 ≤ 140737488355328 := by omega
  go_wp2_with (at_builtin; refine append_rd _ rfl (.tmp 6) (.tmp 8) 30 rfl w.heap.size 3 i0 _ 1 8 Tryd.underlying30 hi0 hz0 hz1 hz2 rfl (by omega) v zs.length (iv zs) rfl hown1 _ (some ⟨w1.heap.size, 0, none⟩) 1 1 _ rfl rfl hnew (one_cell _) h63 h64 hbel1.size ?_; intro v1 w2 hown2 hg1 hat1)
  have hbel2 := hbel1.grown hg1 hbel1.size hblk
  have ho := own_snoc hown2
  obtain ⟨A, c, rfl, hc, hm1, hr, hbk⟩ := own_slice ho
  refine (Make_calls A c (zs ++ [i]) w2 hr (by simp; omega)).mono ?_
  rintro e w' ⟨rfl, q, rfl⟩
  clear ho hown2 hg1 hat1 hown1 hown hnew hblk hr k1
  generalize mk (zs ++ [i]) 32 = x at *
  go_wp2_with fail
  go_ret
  exact ⟨rfl, hbel2.trans (Drawn.below' ⟨_, rfl⟩)⟩
theorem flt_succ (zs : List Int) (i : Int) (j : Nat) (h : j < zs.length) : (zs.take (j + 1)).filter (fun k => decide (k ≠ i)) = (zs.take j).filter (fun k => decide (k ≠ i)) ++ if zs[j] = i then [] else [zs[j]] := by
  rw [List.take_succ_eq_append_getElem h, List.filter_append]
  congr 1
  by_cases e : zs[j] = i <;> simp [e]
theorem flt_len (zs : List Int) (i : Int) (j : Nat) : ((zs.take j).filter (fun k => decide (k ≠ i))).length ≤ j :=
  Nat.le_trans (List.length_filter_le _ _) (by simp; omega)
set_option maxHeartbeats 1600000 in
theorem RefWithout_calls (m : Nat) (i : Int) (w : World) (hm : U32 m) (hi : I64 i) : Calls Tryd.prog 13 #[.int .u32 m, .int .i64 i] w (Fresh (.int .u32 (without m i : Nat)) w) := by
  obtain ⟨i0, hi0, hz0, hz1, hz2⟩ := info_parts int_info
  have k1 := Lib.hid (RefAll_calls m w hm)
  have hl := all_len m
  have hlt := all_lt m
  rw [← without_mk m hm]
  rw [← ints_len] at hl
  generalize ints (all m) = zs at *
  have HZ := Lib.hid hlt
  clear hlt
  unfold I64 at hi
  go_enter Tryd.func13, Tryd.ntmps13
  go_wp2_with fail
  refine k1.out.mono ?_
  rintro e w1 ⟨v, rfl, hown, hbel⟩
  obtain ⟨A, c, rfl, hc, hm1, hr, hbk⟩ := own_slice hown
  clear hown k1
  unfold maxLen at hm1
  go_wp2_with fail
  go_loopg [6, 7] zs.length (fun g v k wr => ∃ j : Nat, k = .int .i64 (j : Int) ∧ j + g = zs.length ∧ OwnInts w1.heap.size wr v ((zs.take j).filter fun k => decide (k ≠ i)) ∧ Below w1.heap.size w1 wr)
  case atStart => exact ⟨0, rfl, by omega, World.ownsRow_made w1 #[] 0 (Nat.le_refl _) (by simp) rfl, (Below.refl _ _).alloc (Nat.le_refl _) _⟩
  case round =>
    obtain ⟨j, rfl, hj, hown, hbr⟩ := hrel
    by_cases hlt : j < zs.length
    · have g1 : (j : Int) < (zs.length : Int) := by omega
      obtain ⟨ad, rfl, _, hck⟩ := (hr.below hbr).at_ (k := j) (by rw [iv_len]; exact hlt)
      rw [iv_at zs j hlt] at hck
      have hz := HZ.out zs[j] (List.getElem_mem hlt)
      have hs := flt_succ zs i j hlt
      have hle := flt_len zs i j
      by_cases h1 : zs[j] = i
      · have e1 : (zs[j] == i) = true := by rw [beq_iff_eq]; exact h1
        rw [if_pos h1, List.append_nil] at hs
        have HS := Lib.hid hs
        clear hs h1
        generalize zs[j] = z at *
        go_wp2_with fail
        go_roundg (zs.length - (j + 1))
        case rel => exact ⟨j + 1, by go_num, by omega, by rw [HS.out]; exact hown, hbr⟩
        case measure => omega
      · have e1 : (zs[j] == i) = false := by rw [beq_eq_false_iff_ne]; exact h1
        rw [if_neg h1] at hs
        have HS := Lib.hid hs
        clear hs h1
        generalize zs[j] = z at *
        obtain ⟨hown1, hnew, hbel1, hblk⟩ := app_pre (w := w1) z hown hbr
        generalize hY : (zs.take j).filter (fun k => decide (k ≠ i)) = Y at *
        have HY := Lib.hid hY
        clear hY
        have h63 : Y.length + 1 ≤ maxLen := by simp only [maxLen]; omega
        have h64 : (Y.length + 1) * 8 ≤ 140737488355328 := by omega
        go_wp2_with (at_builtin; refine append_rd _ rfl (.tmp 23) (.tmp 28) 30 rfl w1.heap.size 3 i0 _ 1 8 Tryd.underlying30 hi0 hz0 hz1 hz2 rfl (by omega) u6 Y.length (iv Y) rfl hown1 _ (some ⟨wr.heap.size, 0, none⟩) 1 1 _ rfl rfl hnew (one_cell _) h63 h64 hbel1.size ?_; intro v1 w2 hown2 hg1 hat1)
        have hbel2 := hbel1.grown hg1 hbel1.size hblk
        have ho := own_snoc hown2
        clear hown2 hg1 hat1 hown1 hnew hblk
        go_roundg (zs.length - (j + 1))
        case rel => exact ⟨j + 1, by go_num, by omega, by rw [HS.out]; exact ho, hbel2⟩
        case measure => omega
    · have g1 : ¬ (j : Int) < (zs.length : Int) := by omega
      have he : zs.take j = zs := List.take_of_length_le (by omega)
      rw [he] at hown
      have hle := flt_len zs i j
      rw [he] at hle
      obtain ⟨A2, c2, rfl, hc2, hm2, hr2, _⟩ := own_slice hown
      have hmk := Lib.hid (Make_calls A2 c2 (zs.filter fun k => decide (k ≠ i)) wr hr2 (by omega))
      clear he hr2 hown
      obtain ⟨x, hx⟩ : ∃ x, x = mk (zs.filter fun k => decide (k ≠ i)) 32 := ⟨_, rfl⟩
      rw [← hx] at hmk
      have HX := Lib.hid hx
      clear hx
      generalize (zs.filter fun k => decide (k ≠ i)).length = n at *
      go_wp2_with fail
      refine hmk.out.mono ?_
      rintro e w' ⟨rfl, q, rfl⟩
      go_wp2_with fail
      go_ret
      exact ⟨ret_int (by rw [HX.out]), hbel.trans ((hbr.trans (Drawn.below' ⟨_, rfl⟩)).mono hbel.size)⟩
/-- The first of the numbers that is above i. -/
def after (zs : List Int) (i : Int) : Int × Bool := match zs.find? (fun z => decide (i < z)) with | some z => (z, true) | none => (0, false)
theorem after_drop (zs : List Int) (i : Int) (j : Nat) (h : j < zs.length) : after (zs.drop j) i = if i < zs[j] then (zs[j], true) else after (zs.drop (j + 1)) i := by
  unfold after
  rw [List.drop_eq_getElem_cons h, List.find?_cons]
  by_cases g : i < zs[j] <;> simp [g]
theorem after_next (m : Nat) (i : Int) : after (ints (all m)) i = ((((next m i).getD 0 : Nat) : Int), (next m i).isSome) := by
  unfold after next ints
  generalize all m = l
  induction l with
  | nil => rfl
  | cons a l ih =>
    rw [List.map_cons, List.find?_cons, List.find?_cons]
    cases h : decide (i < (Int.ofNat a))
    · exact ih
    · rfl
set_option maxHeartbeats 800000 in
theorem RefNext_calls (m : Nat) (i : Int) (w : World) (hm : U32 m) (hi : I64 i) : Calls Tryd.prog 16 #[.int .u32 m, .int .i64 i] w (Fresh (opt (next m i)) w) := by
  have k1 := Lib.hid (RefAll_calls m w hm)
  have hl := all_len m
  have hlt := all_lt m
  have ho : opt (next m i) = .tuple #[.int .i64 (after (ints (all m)) i).1, .bool (after (ints (all m)) i).2] := by rw [after_next]; rfl
  rw [ho]
  clear ho
  rw [← ints_len] at hl
  generalize ints (all m) = zs at *
  have HZ := Lib.hid hlt
  clear hlt
  unfold I64 at hi
  go_enter Tryd.func16, Tryd.ntmps16
  go_wp2_with fail
  refine k1.out.mono ?_
  rintro e w1 ⟨v, rfl, hown, hbel⟩
  obtain ⟨A, c, rfl, hc, hm1, hr, hbk⟩ := own_slice hown
  clear hown k1
  unfold maxLen at hm1
  go_wp2_with fail
  go_loopg [7] zs.length (fun g k wr => ∃ j : Nat, k = .int .i64 (j : Int) ∧ j + g = zs.length ∧ after zs i = after (zs.drop j) i ∧ wr = w1)
  case atStart => exact ⟨0, rfl, by omega, rfl, rfl⟩
  case round =>
    obtain ⟨j, rfl, hj, ha, rfl⟩ := hrel
    have HA := Lib.hid ha
    clear ha
    by_cases hlt : j < zs.length
    · have g1 : (j : Int) < (zs.length : Int) := by omega
      obtain ⟨ad, rfl, _, hck⟩ := hr.at_ (k := j) (by rw [iv_len]; exact hlt)
      rw [iv_at zs j hlt] at hck
      have hz := HZ.out zs[j] (List.getElem_mem hlt)
      have hs := after_drop zs i j hlt
      by_cases h1 : i < zs[j]
      · rw [if_pos h1] at hs
        have HS := Lib.hid (HA.out.trans hs)
        clear hs HA
        generalize zs[j] = z at *
        go_wp2_with fail
        go_ret2
        exact ⟨by rw [HS.out]; rfl, hbel⟩
      · rw [if_neg h1] at hs
        have HS := Lib.hid (HA.out.trans hs)
        clear hs HA
        generalize zs[j] = z at *
        go_wp2_with fail
        go_roundg (zs.length - (j + 1))
        case rel => exact ⟨j + 1, by go_num, by omega, HS.out, rfl⟩
        case measure => omega
    · have g1 : ¬ (j : Int) < (zs.length : Int) := by omega
      have he : zs.drop j = [] := List.drop_of_length_le (by omega)
      rw [he] at HA
      clear he
      go_wp2_with fail
      go_ret2
      exact ⟨by rw [HA.out]; rfl, hbel⟩
theorem same_take (xs ys : List Int) (j : Nat) (hj : j < xs.length) (hj' : j < ys.length) (hs : xs.take j = ys.take j) : (xs.take (j + 1) = ys.take (j + 1)) ↔ xs[j] = ys[j] := by
  rw [List.take_succ_eq_append_getElem hj, List.take_succ_eq_append_getElem hj', hs, List.append_cancel_left_eq]
  simp only [List.cons.injEq, and_true]
set_option maxHeartbeats 800000 in
theorem SameInts_calls (A A' : Option Addr) (c c' : Nat) (xs ys : List Int) (w : World) (hr : Rd w w.heap.size A (iv xs)) (hr' : Rd w w.heap.size A' (iv ys)) (hl : xs.length ≤ 1000) (hl' : ys.length ≤ 1000) :
    Calls Tryd.prog 20 #[.slice A xs.length c, .slice A' ys.length c'] w (Quiet (.bool (decide (xs = ys))) w) := by
  by_cases hlen : xs.length = ys.length
  · have E0 := Lib.hid (same_take xs ys)
    have HL := Lib.hid hlen
    have EB : (((xs.length : Nat) : Int) == ((ys.length : Nat) : Int)) = true := by rw [beq_iff_eq, hlen]
    rw [← hlen]
    clear hlen EB
    go_enter Tryd.func20, Tryd.ntmps20
    go_wp2_with fail
    go_loopg [5] xs.length (fun g k wr => ∃ j : Nat, k = .int .i64 (j : Int) ∧ j + g = xs.length ∧ xs.take j = ys.take j ∧ Drawn w wr)
    case atStart => exact ⟨0, rfl, by omega, rfl, Drawn.refl _⟩
    case round =>
      obtain ⟨j, rfl, hj, ht, q, rfl⟩ := hrel
      have HT := Lib.hid ht
      clear ht
      by_cases hlt : j < xs.length
      · have g1 : (j : Int) < (xs.length : Int) := by omega
        have hlt' : j < ys.length := by rw [← HL.out]; exact hlt
        obtain ⟨ad, rfl, _, hck⟩ := hr.at_ (k := j) (by rw [iv_len]; exact hlt)
        rw [iv_at xs j hlt] at hck
        obtain ⟨ad', rfl, _, hck'⟩ := hr'.at_ (k := j) (by rw [iv_len]; exact hlt')
        rw [iv_at ys j hlt'] at hck'
        have hs := E0.out j hlt hlt' HT.out
        by_cases h1 : xs[j] = ys[j]
        · have HS := Lib.hid (hs.2 h1)
          have e1 : (xs[j] == ys[j]) = true := by rw [beq_iff_eq]; exact h1
          clear h1 hs
          generalize xs[j] = x at *
          generalize ys[j] = y at *
          go_wp2_with fail
          go_quiet (fail)
          go_wp2_with fail
          go_roundg (xs.length - (j + 1))
          case rel => exact ⟨j + 1, by go_num, by omega, HS.out, _, rfl⟩
          case measure => omega
        · have HS := Lib.hid (show ¬ xs = ys from fun e => h1 (hs.1 (by rw [e])))
          have e1 : (xs[j] == ys[j]) = false := by rw [beq_eq_false_iff_ne]; exact h1
          clear h1 hs
          generalize xs[j] = x at *
          generalize ys[j] = y at *
          go_wp2_with fail
          go_quiet (fail)
          go_wp2_with fail
          go_ret
          exact ⟨ret_bool (decide_eq_false HS.out).symm, by first | exact Drawn.more ⟨q, rfl⟩ _ | exact ⟨_, rfl⟩⟩
      · have g1 : ¬ (j : Int) < (xs.length : Int) := by omega
        have HE := Lib.hid (show xs = ys by
          have := HT.out
          rwa [List.take_of_length_le (by omega), List.take_of_length_le (by have := HL.out; omega)] at this)
        go_wp2_with fail
        go_ret
        exact ⟨ret_bool (decide_eq_true HE.out).symm, _, rfl⟩
  · have EB : (((xs.length : Nat) : Int) == ((ys.length : Nat) : Int)) = false := by rw [beq_eq_false_iff_ne]; omega
    rw [decide_eq_false (fun e => hlen (by rw [e]))]
    clear hlen
    go_enter Tryd.func20, Tryd.ntmps20
    go_wp2_with fail
    go_ret
    exact ⟨rfl, Drawn.refl _⟩
end Go.Proofs.YtpmbilmffalolaaDoor.Mk
