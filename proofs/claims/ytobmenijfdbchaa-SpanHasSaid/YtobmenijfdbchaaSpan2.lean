/- The spans that read a list of versions. -/
import Derived.Test.YtobmenijfdbchaaSpan
import Derived.Test.YtobmenijfdbchaaMem
namespace Go.Proofs.Ytobmenijfdbchaa.Spans
open Go.RowKit
set_option linter.unusedVariables false

theorem int_info : (Try.prog.info? 3).map (fun i => (i.zero, i.size, i.bytes)) = some (some (.int .i64 0), 1, 8) := by kernel_rfl

/-- A slice of ints of the call's own, at or above B. -/
def OwnInts (B : Nat) (w : World) (v : Value) (zs : List Int) : Prop := w.ownsRow B 3 1 v zs.length (iv zs)

set_option maxHeartbeats 800000 in
theorem Ints_calls (A : Option Addr) (cap : Nat) (zs : List Int) (w : World) (hr : Rd w w.heap.size A (iv zs)) (hl : zs.length ≤ 1000) :
    Calls Try.prog 6 #[.slice A zs.length cap] w fun e w' => ∃ v, e = .returned v ∧ OwnInts w.heap.size w' v zs ∧ Below w.heap.size w w' := by
  obtain ⟨i0, hi0, hz0, hz1, hz2⟩ := info_parts int_info
  have h63 : 0 + zs.length ≤ maxLen := by simp only [maxLen]; omega
  have h64 : (0 + zs.length) * 8 ≤ 140737488355328 := by omega
  have own0 := World.ownsRow_made (base := w.heap.size) (e := 3) (size := 1) w #[] 0 (Nat.le_refl _) (by simp) rfl
  have hr1 := hr.alloc (Nat.le_refl _) (.cells #[] 3)
  have hb0 : Below w.heap.size w (w.alloc (.cells #[] 3)) := (Below.refl _ _).alloc (Nat.le_refl _) _
  go_enter Try.func6, Try.ntmps6
  go_wp2_with (at_builtin; refine append_rd _ rfl (.tmp 3) (.tmp 4) 22 rfl w.heap.size 3 i0 _ 1 8 Try.underlying22 hi0 hz0 hz1 hz2 rfl (by omega) (.slice (some ⟨w.heap.size, 0, none⟩) 0 0) 0 [] rfl own0 w.heap.size A zs.length cap (iv zs) rfl (by simp [iv]) hr1 (iv_one zs) h63 h64 (by simp) ?_; intro v1 w1 hown1 hg1 hat1)
  go_ret
  refine ⟨v1, rfl, by simpa [OwnInts] using hown1, hb0.grown hg1 (by simp) (fun k hk => by simp [Value.ownBlock] at hk; omega)⟩

/-- The first version that the span has. -/
def some_ (b d : Int) : List Int → Int × Bool
  | [] => (0, false)
  | x :: l => if has b d x then (x, true) else some_ b d l
theorem some_skip (b d : Int) (zs : List Int) (k : Nat) (h : ∀ j (hj : j < zs.length), j < k → has b d zs[j] = false) (hk : k ≤ zs.length) : some_ b d zs = some_ b d (zs.drop k) := by
  induction k generalizing zs with
  | zero => rfl
  | succ k ih => cases zs with
    | nil => simp at hk
    | cons x l =>
      have h0 := h 0 (by simp) (by omega)
      simp at h0
      rw [some_, h0]
      simp only [List.drop_succ_cons]
      exact ih l (fun j hj hjk => by have := h (j + 1) (by simpa using hj) (by omega); simpa using this) (by simpa using hk)
theorem some_at (b d : Int) (zs : List Int) (k : Nat) (hk : k < zs.length) (h : ∀ j (hj : j < zs.length), j < k → has b d zs[j] = false) (hx : has b d zs[k] = true) : some_ b d zs = (zs[k], true) := by
  rw [some_skip b d zs k h (by omega), List.drop_eq_getElem_cons hk, some_, hx, if_pos rfl]
theorem some_none (b d : Int) (zs : List Int) (h : ∀ j (hj : j < zs.length), j < zs.length → has b d zs[j] = false) : some_ b d zs = (0, false) := by
  rw [some_skip b d zs zs.length h (Nat.le_refl _), List.drop_length, some_]

set_option maxHeartbeats 800000 in
theorem Some_calls (b d : Int) (A : Option Addr) (cap : Nat) (zs : List Int) (w : World) (hb : I64 b) (hd : I64 d) (hz : ∀ z ∈ zs, I64 z) (hr : Rd w w.heap.size A (iv zs)) (hl : zs.length ≤ 1000) :
    Calls Try.prog 7 #[.int .i64 b, .int .i64 d, .slice A zs.length cap] w (Quiet (.tuple #[.int .i64 (some_ b d zs).1, .bool (some_ b d zs).2]) w) := by
  go_enter Try.func7, Try.ntmps7
  go_wp2_with fail
  go_loopw [12] (fun i wr => ∃ k : Nat, i = .int .i64 k ∧ k ≤ zs.length ∧ (∀ j (hj : j < zs.length), j < k → has b d zs[j] = false) ∧ Drawn w wr) (fun i _ => zs.length - (intOf i).toNat)
  case atStart => exact ⟨0, rfl, by omega, fun j _ h => by omega, Drawn.refl w⟩
  case round =>
    obtain ⟨k, rfl, hk, hall, q, rfl⟩ := hrel
    have Hall := Lib.hid hall
    clear hall
    by_cases hlt : k < zs.length
    · obtain ⟨ad, rfl, hbk, hc⟩ := hr.at_ (k := k) (by rw [iv_len]; exact hlt)
      rw [iv_at zs k hlt] at hc
      have g1 : (k : Int) < (zs.length : Int) := by omega
      have hx := hz zs[k] (List.getElem_mem hlt)
      have hcon := fun w => Lib.hid (Has_calls b d zs[k] w hb hd hx)
      cases hv : has b d zs[k]
      · have H2 := Lib.hid (show ∀ j (hj : j < zs.length), j < k + 1 → has b d zs[j] = false from fun j hj h => by
          by_cases e : j = k
          · subst e; exact hv
          · exact Hall.out j hj (by omega))
        rw [hv] at hcon
        clear hv
        generalize zs[k] = x at *
        go_wp2_with (go_at_call 9; (with_reducible refine (hcon _).out.mono ?_); rintro e w' ⟨rfl, q, rfl⟩)
        go_roundw
        case rel => exact ⟨k + 1, by go_num, by omega, H2.out, _, rfl⟩
        case measure => simp [intOf]; omega
      · have H2 := Lib.hid (some_at b d zs k hlt Hall.out hv)
        rw [hv] at hcon
        clear hv
        generalize zs[k] = x at *
        rw [H2.out]
        go_wp2_with (go_at_call 9; (with_reducible refine (hcon _).out.mono ?_); rintro e w' ⟨rfl, q, rfl⟩)
        go_ret2
        exact ⟨rfl, ⟨_, rfl⟩⟩
    · have H2 := Lib.hid (some_none b d zs (fun j hj _ => Hall.out j hj (by omega)))
      go_wp2_with fail
      go_ret2
      exact ⟨(congrArg (fun p : Int × Bool => Ending.returned (.tuple #[.int .i64 p.1, .bool p.2])) H2.out).symm, ⟨_, rfl⟩⟩

set_option maxHeartbeats 800000 in
theorem RefSome_calls (b d : Int) (A : Option Addr) (cap : Nat) (zs : List Int) (w : World) (hb : I64 b) (hd : I64 d) (hz : ∀ z ∈ zs, I64 z) (hr : Rd w w.heap.size A (iv zs)) (hl : zs.length ≤ 1000) :
    Calls Try.prog 8 #[.int .i64 b, .int .i64 d, .slice A zs.length cap] w (Quiet (.tuple #[.int .i64 (some_ b d zs).1, .bool (some_ b d zs).2]) w) := by
  go_enter Try.func8, Try.ntmps8
  go_wp2_with fail
  go_loopw [8] (fun i wr => ∃ k : Nat, i = .int .i64 k ∧ k ≤ zs.length ∧ (∀ j (hj : j < zs.length), j < k → has b d zs[j] = false) ∧ Drawn w wr) (fun i _ => zs.length - (intOf i).toNat)
  case atStart => exact ⟨0, rfl, by omega, fun j _ h => by omega, Drawn.refl w⟩
  case round =>
    obtain ⟨k, rfl, hk, hall, q, rfl⟩ := hrel
    have Hall := Lib.hid hall
    clear hall
    by_cases hlt : k < zs.length
    · obtain ⟨ad, rfl, hbk, hc⟩ := hr.at_ (k := k) (by rw [iv_len]; exact hlt)
      rw [iv_at zs k hlt] at hc
      have g1 : (k : Int) < (zs.length : Int) := by omega
      have hx := hz zs[k] (List.getElem_mem hlt)
      have hcon := fun w => Lib.hid (RefHas_calls b d zs[k] w hb hd hx)
      cases hv : has b d zs[k]
      · have H2 := Lib.hid (show ∀ j (hj : j < zs.length), j < k + 1 → has b d zs[j] = false from fun j hj h => by
          by_cases e : j = k
          · subst e; exact hv
          · exact Hall.out j hj (by omega))
        rw [hv] at hcon
        clear hv
        generalize zs[k] = x at *
        go_wp2_with (go_at_call 10; (with_reducible refine (hcon _).out.mono ?_); rintro e w' ⟨rfl, q, rfl⟩)
        go_roundw
        case rel => exact ⟨k + 1, by go_num, by omega, H2.out, _, rfl⟩
        case measure => simp [intOf]; omega
      · have H2 := Lib.hid (some_at b d zs k hlt Hall.out hv)
        rw [hv] at hcon
        clear hv
        generalize zs[k] = x at *
        rw [H2.out]
        go_wp2_with (go_at_call 10; (with_reducible refine (hcon _).out.mono ?_); rintro e w' ⟨rfl, q, rfl⟩)
        go_ret2
        exact ⟨rfl, ⟨_, rfl⟩⟩
    · have H2 := Lib.hid (some_none b d zs (fun j hj _ => Hall.out j hj (by omega)))
      go_wp2_with fail
      go_ret2
      exact ⟨(congrArg (fun p : Int × Bool => Ending.returned (.tuple #[.int .i64 p.1, .bool p.2])) H2.out).symm, ⟨_, rfl⟩⟩
theorem some_in (b d : Int) (zs : List Int) (hz : ∀ z ∈ zs, I64 z) : I64 (some_ b d zs).1 := by
  induction zs with
  | nil => simp [some_, I64]
  | cons x l ih =>
    unfold some_
    split
    · exact hz x (by simp)
    · exact ih (fun z hm => hz z (by simp [hm]))

theorem Ints_n (A : Option Addr) (cap n : Nat) (zs : List Int) (w : World) (hn : zs.length = n) (hr : Rd w w.heap.size A (iv zs)) (hl : n ≤ 1000) :
    Calls Try.prog 6 #[.slice A n cap] w fun e w' => ∃ v, e = .returned v ∧ OwnInts w.heap.size w' v zs ∧ Below w.heap.size w w' := by
  subst hn
  exact Ints_calls A cap zs w hr hl

theorem works_quiet (w : World) : Calls Try.prog 11 #[] w (Quiet (.bool true) w) := works_calls w

set_option maxHeartbeats 1600000 in
theorem SpanHas_calls (b d v : Int) (A : Option Addr) (cap : Nat) (zs : List Int) (w : World) (hb : I64 b) (hd : I64 d) (hv : I64 v) (hz : ∀ z ∈ zs, I64 z) (hr : Rd w w.heap.size A (iv zs)) (hl : zs.length ≤ cap) (hc : cap ≤ maxLen) :
    Calls Try.prog 3 #[.int .i64 b, .int .i64 d, .int .i64 v, .slice A zs.length cap] w fun e w' => e = .returned (.bool true) ∧ Below w.heap.size w w' := by
  unfold maxLen at hc
  rcases Nat.lt_or_ge 100 zs.length with hlt | hge
  · obtain ⟨ys, hn, hy, hyz⟩ : ∃ ys : List Int, ys.length = 100 ∧ Rd w w.heap.size A (iv ys) ∧ ∀ z ∈ ys, I64 z :=
      ⟨zs.take 100, by simp; omega, by have := hr.take 100; simpa [iv, List.map_take] using this, fun z h => hz z (List.mem_of_mem_take h)⟩
    have Hn := Lib.hid hn
    clear hn hz hr
    have hl2 : 100 ≤ zs.length := by omega
    go_enter Try.func3, Try.ntmps3
    go_wp2_with fail
    refine (Ints_n A cap 100 ys _ Hn.out hy (by omega)).mono ?_
    rintro e w1 ⟨v1, rfl, ho1, hb1⟩
    obtain ⟨A1, c1, rfl, hc1, hm1, hr1, _⟩ := own_slice ho1
    have hys : ys.length ≤ 1000 := by have := Hn.out; omega
    go_wp2_with fail
    refine (Ints_calls A1 c1 ys _ hr1 hys).mono ?_
    rintro e w2 ⟨v2, rfl, ho2, hb2⟩
    obtain ⟨A2, c2, rfl, hc2, hm2, hr2, _⟩ := own_slice ho2
    have hr3 : Rd w2 w2.heap.size A1 (iv ys) := (hr1.below hb2).mono hb2.size
    have k1 := fun w => Lib.hid (Has_calls b d v w hb hd hv)
    have k2 := fun w => Lib.hid (RefHas_calls b d v w hb hd hv)
    have k3 := Lib.hid (Some_calls b d A2 c2 ys w2 hb hd hyz hr2 hys)
    have k4 := fun q => Lib.hid (RefSome_calls b d A1 c1 ys (w2.drewN q) hb hd hyz (hr3.drewN q) hys)
    generalize some_ b d ys = p at *
    generalize has b d v = t at *
    go_wp2_with fail
    refine k3.out.mono ?_
    rintro e w' ⟨rfl, q, rfl⟩
    go_wp2_with fail
    refine (k4 _).out.mono ?_
    rintro e w' ⟨rfl, q, rfl⟩
    go_wp2_with fail
    refine (k1 _).out.mono ?_
    rintro e w' ⟨rfl, q, rfl⟩
    go_wp2_with fail
    refine (k2 _).out.mono ?_
    rintro e w' ⟨rfl, q, rfl⟩
    go_wp2_with fail
    refine (works_calls _).mono ?_
    rintro e w' ⟨rfl, q, rfl⟩
    go_wp2_with fail
    go_ret
    have hb3 : Below w.heap.size w w2 := hb1.trans (hb2.mono hb1.size)
    exact ⟨ret_bool (by simp), hb3.trans (Drawn.below' ⟨_, rfl⟩)⟩
  · obtain ⟨ys, hn, hy, hyz⟩ : ∃ ys : List Int, ys.length = zs.length ∧ Rd w w.heap.size A (iv ys) ∧ ∀ z ∈ ys, I64 z := ⟨zs, rfl, hr, hz⟩
    have Hn := Lib.hid hn
    clear hn hz hr
    have hl2 : zs.length ≤ 100 := by omega
    go_enter Try.func3, Try.ntmps3
    go_wp2_with fail
    refine (Ints_n A cap zs.length ys _ Hn.out hy (by omega)).mono ?_
    rintro e w1 ⟨v1, rfl, ho1, hb1⟩
    obtain ⟨A1, c1, rfl, hc1, hm1, hr1, _⟩ := own_slice ho1
    have hys : ys.length ≤ 1000 := by have := Hn.out; omega
    go_wp2_with fail
    refine (Ints_calls A1 c1 ys _ hr1 hys).mono ?_
    rintro e w2 ⟨v2, rfl, ho2, hb2⟩
    obtain ⟨A2, c2, rfl, hc2, hm2, hr2, _⟩ := own_slice ho2
    have hr3 : Rd w2 w2.heap.size A1 (iv ys) := (hr1.below hb2).mono hb2.size
    have k1 := fun w => Lib.hid (Has_calls b d v w hb hd hv)
    have k2 := fun w => Lib.hid (RefHas_calls b d v w hb hd hv)
    have k3 := Lib.hid (Some_calls b d A2 c2 ys w2 hb hd hyz hr2 hys)
    have k4 := fun q => Lib.hid (RefSome_calls b d A1 c1 ys (w2.drewN q) hb hd hyz (hr3.drewN q) hys)
    generalize some_ b d ys = p at *
    generalize has b d v = t at *
    go_wp2_with fail
    refine k3.out.mono ?_
    rintro e w' ⟨rfl, q, rfl⟩
    go_wp2_with fail
    refine (k4 _).out.mono ?_
    rintro e w' ⟨rfl, q, rfl⟩
    go_wp2_with fail
    refine (k1 _).out.mono ?_
    rintro e w' ⟨rfl, q, rfl⟩
    go_wp2_with fail
    refine (k2 _).out.mono ?_
    rintro e w' ⟨rfl, q, rfl⟩
    go_wp2_with fail
    refine (works_calls _).mono ?_
    rintro e w' ⟨rfl, q, rfl⟩
    go_wp2_with fail
    go_ret
    have hb3 : Below w.heap.size w w2 := hb1.trans (hb2.mono hb1.size)
    exact ⟨ret_bool (by simp), hb3.trans (Drawn.below' ⟨_, rfl⟩)⟩
end Go.Proofs.Ytobmenijfdbchaa.Spans
