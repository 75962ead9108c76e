/- The document's masks. -/
import Derived.Test.YtpmbilmffalolaaDoorMask2
namespace Go.Proofs.YtpmbilmffalolaaDoor.Mk
open Go.RowKit
set_option linter.unusedVariables false
set_option linter.unusedSimpArgs false
theorem RefHas_calls (m : Nat) (i : Int) (w : World) (hm : U32 m) (hi : I64 i) : Calls Tryd.prog 7 #[.int .u32 m, .int .i64 i] w (Quiet (.bool (has m i)) w) := by
  have key : ∀ k : Nat, k < 32 → has m k = m.testBit k := fun k hk => by
    unfold has; rw [decide_eq_true (by omega)]; rfl
  have out : (∀ j : Nat, j < 32 → (j : Int) = i → m.testBit j = false) → has m i = false := fun h => by
    unfold has
    by_cases hh : 0 ≤ i ∧ i < 32
    · have := h i.toNat (by omega) (by omega)
      rw [this]; simp
    · rw [decide_eq_false hh]; rfl
  have KEY := Lib.hid key
  have OUT := Lib.hid out
  clear key out
  unfold U32 at hm
  unfold I64 at hi
  go_enter Tryd.func7, Tryd.ntmps7
  go_wp2_with fail
  go_loopg [0, 5] 32 (fun g x k wr => ∃ n : Nat, k = .int .i64 (n : Int) ∧ n + g = 32 ∧ x = .int .u32 ((m / 2 ^ n : Nat) : Int) ∧ (∀ j : Nat, j < n → (j : Int) = i → m.testBit j = false) ∧ wr = w)
  case atStart => exact ⟨0, rfl, rfl, by simp, fun j hj => by omega, rfl⟩
  case round =>
    obtain ⟨n, rfl, hn, rfl, hall, rfl⟩ := hrel
    have HALL := Lib.hid hall
    clear hall
    have hd : m / 2 ^ n < 4294967296 := Nat.lt_of_le_of_lt (Nat.div_le_self _ _) hm
    have hs : m / 2 ^ (n + 1) = m / 2 ^ n / 2 := by rw [Nat.pow_succ, Nat.div_div_eq_div_mul]
    have hb := bit_div m n
    have HS := Lib.hid hs
    clear hs
    generalize hX : m / 2 ^ n = X at *
    by_cases hlt : n < 32
    · have g1 : (n : Int) < 32 := by omega
      by_cases h1 : X % 2 = 1
      · have e1 : (((X : Int) % 2) == 1) = true := by rw [beq_iff_eq]; omega
        rw [decide_eq_true h1] at hb
        have HB := Lib.hid hb
        clear hb h1
        by_cases h2 : (n : Int) = i
        · have e2 : ((n : Int) == i) = true := by rw [beq_iff_eq]; exact h2
          have hv : has m i = true := by rw [← h2, KEY.out n hlt, HB.out]
          rw [hv]
          clear h2 hv hX
          go_wp2_with fail
          go_ret
          exact ⟨rfl, Drawn.refl _⟩
        · have e2 : ((n : Int) == i) = false := by rw [beq_eq_false_iff_ne]; exact h2
          have H2 := Lib.hid h2
          clear h2 hX
          go_wp2_with fail
          go_roundg (31 - n)
          case rel => exact ⟨n + 1, by go_num, by omega, by rw [HS.out]; simp, fun j hj e => (by rcases Nat.lt_or_ge j n with h | h; exact HALL.out j h e; exact absurd (by rw [← e]; omega) H2.out), rfl⟩
          case measure => omega
      · have e1 : (((X : Int) % 2) == 1) = false := by rw [beq_eq_false_iff_ne]; omega
        rw [decide_eq_false h1] at hb
        have HB := Lib.hid hb
        clear hb h1 hX
        go_wp2_with fail
        go_roundg (31 - n)
        case rel => exact ⟨n + 1, by go_num, by omega, by rw [HS.out]; simp, fun j hj e => (by rcases Nat.lt_or_ge j n with h | h; exact HALL.out j h e; obtain rfl : j = n := (by omega); exact HB.out), rfl⟩
        case measure => omega
    · have g1 : ¬ (n : Int) < 32 := by omega
      obtain rfl : n = 32 := by omega
      clear hX hb
      go_wp2_with fail
      go_ret
      exact ⟨ret_bool (OUT.out HALL.out).symm, Drawn.refl _⟩
theorem ints_snoc (l : List Nat) (k : Nat) : ints (l ++ [k]) = ints l ++ [(k : Int)] := by unfold ints; rw [List.map_append]; rfl
set_option maxHeartbeats 800000 in
theorem RefAll_calls (m : Nat) (w : World) (hm : U32 m) : Calls Tryd.prog 18 #[.int .u32 m] w (Makes (ints (all m)) w) := by
  obtain ⟨i0, hi0, hz0, hz1, hz2⟩ := info_parts int_info
  have KEY := Lib.hid (show ∀ k : Nat, k < 32 → has m k = m.testBit k from fun k hk => by
    unfold has; rw [decide_eq_true (by omega)]; rfl)
  go_enter Tryd.func18, Tryd.ntmps18
  go_wp2_with fail
  go_loopg [3, 4] 32 (fun g v k wr => ∃ n : Nat, k = .int .i64 (n : Int) ∧ n + g = 32 ∧ OwnInts w.heap.size wr v (ints (upTo m n)) ∧ Below w.heap.size w wr)
  case atStart => exact ⟨0, rfl, rfl, World.ownsRow_made w #[] 0 (Nat.le_refl _) (by simp) rfl, (Below.refl _ _).alloc (Nat.le_refl _) _⟩
  case round =>
    obtain ⟨n, rfl, hn, hown, hbel⟩ := hrel
    by_cases hlt : n < 32
    · have g1 : (n : Int) < 32 := by omega
      have hS := Lib.hid (upTo_succ m n)
      have hl := upTo_len m n
      have k1 := fun w => RefHas_calls m n w hm (by unfold I64; omega)
      rw [KEY.out n hlt] at k1
      cases hb : m.testBit n
      · rw [hb] at k1 hS
        have K1 := fun w => Lib.hid (k1 w)
        clear k1 hb
        go_wp2_with (go_at_call 7; (with_reducible refine ((K1 _).out).mono ?_); rintro e w' ⟨rfl, q, rfl⟩)
        go_roundg (31 - n)
        case rel => exact ⟨n + 1, by go_num, by omega, by rw [hS.out, if_neg (by simp), List.append_nil]; exact hown, hbel.trans (Drawn.below' ⟨_, rfl⟩)⟩
        case measure => omega
      · rw [hb] at k1 hS
        have K1 := fun w => Lib.hid (k1 w)
        clear k1 hb
        go_wp2_with fail
        refine (K1 _).out.mono ?_
        rintro e w' ⟨rfl, q, rfl⟩
        have hbq : Below w.heap.size w (wr.drewN q) := hbel.trans (Drawn.below' ⟨q, rfl⟩)
        obtain ⟨hown1, hnew, hbel1, hblk⟩ := app_pre (w := w) (wr := wr.drewN q) (v := u3) (n : Int) hown hbq
        have h63 : (ints (upTo m n)).length + 1 ≤ maxLen := by rw [ints_len]; simp only [maxLen]; omega
        have h64 : ((ints (upTo m n)).length + 1) * 8 ≤ 140737488355328 := by rw [ints_len]; omega
        go_wp2_with (at_builtin; refine append_rd _ rfl (.tmp 13) (.tmp 15) 30 rfl w.heap.size 3 i0 _ 1 8 Tryd.underlying30 hi0 hz0 hz1 hz2 rfl (by omega) u3 (ints (upTo m n)).length (iv (ints (upTo m n))) rfl hown1 _ (some ⟨wr.heap.size, 0, none⟩) 1 1 _ rfl rfl hnew (one_cell _) h63 h64 hbel1.size ?_; intro v1 w1 hown2 hg1 hat1)
        have hbel2 := hbel1.grown hg1 hbel1.size hblk
        have ho : Hid (OwnInts w.heap.size w1 v1 (ints (upTo m (n + 1)))) := hide (by have := own_snoc hown2; rw [hS.out]; simpa [ints_snoc] using this)
        clear hown2 hg1 hat1 hown1 hnew hblk
        go_roundg (31 - n)
        case rel => exact ⟨n + 1, by go_num, by omega, ho.out, hbel2⟩
        case measure => omega
    · have g1 : ¬ (n : Int) < 32 := by omega
      obtain rfl : n = 32 := by omega
      go_wp2_with fail
      go_ret
      exact ⟨_, rfl, hown, hbel⟩
theorem all_lt (m : Nat) : ∀ z ∈ ints (all m), 0 ≤ z ∧ z < 32 := fun z hz => by
  unfold ints at hz
  obtain ⟨k, hk, rfl⟩ := List.mem_map.1 hz
  have := (mem_all.1 hk).1
  exact ⟨Int.natCast_nonneg k, by show (k : Int) < 32; omega⟩
/-- How many of the first k are below i. -/
def cnt (zs : List Int) (i : Int) : Nat := zs.countP fun z => decide (z < i)
theorem cnt_succ (zs : List Int) (i : Int) (k : Nat) (hk : k < zs.length) : cnt (zs.take (k + 1)) i = cnt (zs.take k) i + if zs[k] < i then 1 else 0 := by
  unfold cnt
  rw [List.take_succ_eq_append_getElem hk, List.countP_append]
  by_cases h : zs[k] < i <;> simp [h]
theorem cnt_le (zs : List Int) (i : Int) : cnt zs i ≤ zs.length := List.countP_le_length
theorem cnt_place (m : Nat) (i : Int) : cnt (ints (all m)) i = place m i := by
  unfold cnt place ints
  rw [List.countP_map]
  rfl
set_option maxHeartbeats 800000 in
theorem RefPlace_calls (m : Nat) (i : Int) (w : World) (hm : U32 m) (hi : I64 i) : Calls Tryd.prog 9 #[.int .u32 m, .int .i64 i] w (Fresh (.int .i64 (place m i : Nat)) w) := by
  have k1 := Lib.hid (RefAll_calls m w hm)
  have hl := all_len m
  have hlt := all_lt m
  rw [← cnt_place]
  rw [← ints_len] at hl
  generalize ints (all m) = zs at *
  have HZ := Lib.hid hlt
  clear hlt
  unfold I64 at hi
  go_enter Tryd.func9, Tryd.ntmps9
  go_wp2_with fail
  refine k1.out.mono ?_
  rintro e w1 ⟨v, rfl, hown, hbel⟩
  obtain ⟨A, c, rfl, hc, hm1, hr, hbk⟩ := own_slice hown
  clear hown k1
  unfold maxLen at hm1
  go_wp2_with fail
  go_loopg [5, 7] zs.length (fun g n k wr => ∃ j : Nat, k = .int .i64 (j : Int) ∧ j + g = zs.length ∧ n = .int .i64 ((cnt (zs.take j) i : Nat) : Int) ∧ wr = w1)
  case atStart => exact ⟨0, rfl, by omega, rfl, rfl⟩
  case round =>
    obtain ⟨j, rfl, hj, rfl, rfl⟩ := hrel
    by_cases hlt : j < zs.length
    · have g1 : (j : Int) < (zs.length : Int) := by omega
      obtain ⟨ad, rfl, _, hck⟩ := hr.at_ (k := j) (by rw [iv_len]; exact hlt)
      rw [iv_at zs j hlt] at hck
      have hz := HZ.out zs[j] (List.getElem_mem hlt)
      have hs := cnt_succ zs i j hlt
      have hle := cnt_le (zs.take j) i
      rw [List.length_take] at hle
      by_cases h1 : zs[j] < i
      · rw [if_pos h1] at hs
        have HS := Lib.hid hs
        clear hs
        generalize zs[j] = z at *
        generalize cnt (zs.take j) i = n at *
        go_wp2_with fail
        go_roundg (zs.length - (j + 1))
        case rel => exact ⟨j + 1, by go_num, by omega, by rw [HS.out]; go_num, rfl⟩
        case measure => omega
      · rw [if_neg h1] at hs
        have HS := Lib.hid hs
        clear hs
        generalize zs[j] = z at *
        generalize cnt (zs.take j) i = n at *
        go_wp2_with fail
        go_roundg (zs.length - (j + 1))
        case rel => exact ⟨j + 1, by go_num, by omega, by rw [HS.out]; go_num, rfl⟩
        case measure => omega
    · have g1 : ¬ (j : Int) < (zs.length : Int) := by omega
      have he : zs.take j = zs := List.take_of_length_le (by omega)
      rw [he]
      go_wp2_with fail
      go_ret
      exact ⟨rfl, hbel⟩
end Go.Proofs.YtpmbilmffalolaaDoor.Mk
