/- Masks: the next number, all of them; the document's masks. -/
import Derived.Test.YtpmbilmffalolaaDoorMask
import Derived.Deep.LoopGhost
namespace Go.Proofs.YtpmbilmffalolaaDoor.Mk
open Go.RowKit
set_option linter.unusedVariables false
set_option linter.unusedSimpArgs false
theorem int_info : (Tryd.prog.info? 3).map (fun i => (i.zero, i.size, i.bytes)) = some (some (.int .i64 0), 1, 8) := by kernel_rfl
/-- A slice of ints of the call's own, at or above B. -/
def OwnInts (B : Nat) (w : World) (v : Value) (zs : List Int) : Prop := w.ownsRow B 3 1 v zs.length (iv zs)
/-- The call returns a slice of its own that reads as zs. -/
def Makes (zs : List Int) (w : World) (e : Ending) (w' : World) : Prop := ∃ v, e = .returned v ∧ OwnInts w.heap.size w' v zs ∧ Below w.heap.size w w'
theorem iv_snoc (zs : List Int) (x : Int) : iv zs ++ [.int .i64 x] = iv (zs ++ [x]) := by simp [iv]
theorem one_cell (x : Int) : ∀ u ∈ (#[Value.int .i64 x] : Array Value).toList, u.oneCell' = true := fun u hu => by
  rcases List.mem_cons.1 hu with rfl | hu
  · rfl
  · cases hu
/-- What an append of one int asks. -/
theorem app_pre {w wr : World} {v : Value} {zs : List Int} (x : Int) (hown : OwnInts w.heap.size wr v zs) (hbel : Below w.heap.size w wr) :
    (wr.alloc (.cells #[.int .i64 x] 3)).ownsRow w.heap.size 3 1 v zs.length (iv zs) ∧
    Rd (wr.alloc (.cells #[.int .i64 x] 3)) (wr.alloc (.cells #[.int .i64 x] 3)).heap.size (some ⟨wr.heap.size, 0, none⟩) [.int .i64 x] ∧
    Below w.heap.size w (wr.alloc (.cells #[.int .i64 x] 3)) ∧ (∀ n, v.ownBlock = some n → w.heap.size ≤ n) :=
  ⟨World.ownsRow.alloc hown _, Rd.own (World.ownsRow_lit (base := w.heap.size) (e := 3) (size := 1) wr #[.int .i64 x] 1 hbel.size (by decide) rfl), hbel.alloc hbel.size _, fun n hn => (World.ownsRow.lt hown n hn).1⟩
theorem own_snoc {B : Nat} {w : World} {v : Value} {zs : List Int} {x : Int} (h : w.ownsRow B 3 1 v (zs.length + 1) (iv zs ++ [.int .i64 x])) : OwnInts B w v (zs ++ [x]) := by
  unfold OwnInts
  rw [iv_snoc] at h
  simpa using h
theorem Next_calls (m : Nat) (i : Int) (w : World) (hm : U32 m) (hi : I64 i) (T : Tab w) : Calls Tryd.prog 15 #[.int .u32 m, .int .i64 i] w (Quiet (opt (next m i)) w) := by
  have hc : I64 (min i 32 + 1) := by unfold I64 at *; omega
  have k1 := fun w => Lib.hid (below_calls (min i 32 + 1) w hc)
  have hb : 2 ^ clamp (min i 32 + 1) - 1 < 4294967296 := by
    have := Nat.pow_le_pow_right (n := 2) (by omega) (clamp_le (min i 32 + 1))
    omega
  have hm2 : m &&& (4294967295 - (2 ^ clamp (min i 32 + 1) - 1)) < 4294967296 := Nat.lt_of_le_of_lt Nat.and_le_left hm
  have k2 := fun q => First_calls (m &&& (4294967295 - (2 ^ clamp (min i 32 + 1) - 1))) (w.drewN q) hm2 (T.below (Drawn.below ⟨q, rfl⟩))
  have e := u32_andNot_nat m (2 ^ clamp (min i 32 + 1) - 1) hm hb
  rw [next_high] at k2
  unfold opt at *
  have K2 := fun q => Lib.hid (k2 q)
  clear k2 T
  generalize next m i = o at *
  generalize m &&& (4294967295 - (2 ^ clamp (min i 32 + 1) - 1)) = x at *
  generalize 2 ^ clamp (min i 32 + 1) - 1 = y at *
  unfold U32 at hm
  unfold I64 at hi
  have kk : min i 32 + 1 ≤ 33 := by omega
  by_cases h32 : i ≤ 32
  · have em : min i 32 = i := by omega
    rw [em] at k1
    clear em kk hc hb hm2
    go_enter Tryd.func15, Tryd.ntmps15
    go_wp2_with (first | (go_at_call 23; (with_reducible refine ((k1 _).out).mono ?_); rintro e w' ⟨rfl, q, rfl⟩) | (go_at_call 17; (with_reducible refine ((K2 _).out).mono ?_); rintro e w' ⟨rfl, q, rfl⟩))
    go_ret2
    exact ⟨rfl, ⟨_, rfl⟩⟩
  · have em : min i 32 + 1 = 33 := by omega
    rw [em] at k1
    clear em kk hc hb hm2
    go_enter Tryd.func15, Tryd.ntmps15
    go_wp2_with (first | (go_at_call 23; (with_reducible refine ((k1 _).out).mono ?_); rintro e w' ⟨rfl, q, rfl⟩) | (go_at_call 17; (with_reducible refine ((K2 _).out).mono ?_); rintro e w' ⟨rfl, q, rfl⟩))
    go_ret2
    exact ⟨rfl, ⟨_, rfl⟩⟩
set_option maxHeartbeats 800000 in
theorem All_calls (m : Nat) (w : World) (hm : U32 m) (T : Tab w) : Calls Tryd.prog 21 #[.int .u32 m] w (Makes (ints (all m)) w) := by
  obtain ⟨i0, hi0, hz0, hz1, hz2⟩ := info_parts int_info
  have k1 := Lib.hid (First_calls m w hm T)
  have hl := all_len m
  go_enter Tryd.func21, Tryd.ntmps21
  go_wp2_with fail
  go_step3
  go_wp2_with fail
  unfold opt at k1
  refine (k1.out).mono ?_
  rintro e w' ⟨rfl, q, rfl⟩
  go_wp2_with fail
  go_step3
  go_wp2_with fail
  go_loopg [3, 4, 5] (all m).length (fun g v i o wr => ∃ pre rest : List Nat, all m = pre ++ rest ∧ rest.length = g ∧ i = .int .i64 ((rest.head?.getD 0 : Nat) : Int) ∧ o = .bool rest.head?.isSome ∧ OwnInts w.heap.size wr v (ints pre) ∧ Below w.heap.size w wr)
  case atStart => exact ⟨[], all m, rfl, rfl, rfl, rfl, World.ownsRow_nil _ _ _ _, Drawn.below' ⟨_, rfl⟩⟩
  case round =>
    obtain ⟨pre, rest, he, hg, rfl, rfl, hown, hbel⟩ := hrel
    cases rest with
    | nil =>
      simp only [List.head?_nil, Option.isSome_none]
      go_wp2_with fail
      rw [Exit.noGoto_ret]
      go_ret
      rw [List.append_nil] at he
      rw [he]
      exact ⟨_, rfl, hown, hbel⟩
    | cons i rest =>
      simp only [List.head?_cons, Option.getD_some, Option.isSome_some]
      have hn := next_at m pre rest i he
      have hi32 : i < 32 := (mem_all.1 (by rw [he]; simp)).1
      have hlen : pre.length + (rest.length + 1) ≤ 32 := by rw [he] at hl; simpa using hl
      have HE := Lib.hid he
      clear he hl k1
      obtain ⟨hown1, hnew, hbel1, hblk⟩ := app_pre (i : Int) hown hbel
      have h63 : (ints pre).length + 1 ≤ maxLen := by rw [ints_len]; simp only [maxLen]; omega
      have h64 : ((ints pre).length + 1) * 8 ≤ 140737488355328 := by rw [ints_len]; omega
      have kN : ∀ w1 : World, Below w.heap.size w w1 → Hid (Calls Tryd.prog 15 #[.int .u32 m, .int .i64 (i : Int)] w1 (Quiet (.tuple #[.int .i64 ((rest.head?.getD 0 : Nat) : Int), .bool rest.head?.isSome]) w1)) := fun w1 hb1 => by
        have := Next_calls m i w1 hm (by unfold I64; omega) (T.below hb1)
        rw [hn] at this
        exact hide this
      have hg' : rest.length + 1 = gk := hg
      have HG := Lib.hid hg'
      clear hg hg' hn hlen T
      obtain ⟨hd, hhd⟩ : ∃ z, z = rest.head?.getD 0 := ⟨_, rfl⟩
      obtain ⟨so, hso⟩ : ∃ z, z = rest.head?.isSome := ⟨_, rfl⟩
      rw [← hhd, ← hso] at kN
      have HD := Lib.hid hhd
      have HS := Lib.hid hso
      clear hhd hso
      go_wp2_with (at_builtin; refine append_rd _ rfl (.tmp 13) (.tmp 15) 30 rfl w.heap.size 3 i0 _ 1 8 Tryd.underlying30 hi0 hz0 hz1 hz2 rfl (by omega) u3 (ints pre).length (iv (ints pre)) rfl hown1 _ (some ⟨wr.heap.size, 0, none⟩) 1 1 _ rfl rfl hnew (one_cell _) h63 h64 hbel1.size ?_; intro v1 w1 hown2 hg1 hat1)
      have hbel2 := hbel1.grown hg1 hbel1.size hblk
      refine (kN _ hbel2).out.mono ?_
      rintro e w' ⟨rfl, q2, rfl⟩
      have ho : Hid (OwnInts w.heap.size (w1.drewN q2) v1 (ints (pre ++ [i]))) := hide (by have := own_snoc hown2; unfold ints at this ⊢; rw [List.map_append]; exact this)
      clear hown2 hg1 hat1 hown1 hown hnew hblk
      go_wp2_with fail
      go_roundg rest.length
      case rel => exact ⟨pre ++ [i], rest, by rw [HE.out]; simp, rfl, by rw [HD.out], by rw [HS.out], ho.out, hbel2.trans (Drawn.below' ⟨_, rfl⟩)⟩
      case measure => have := HG.out; omega
end Go.Proofs.YtpmbilmffalolaaDoor.Mk
