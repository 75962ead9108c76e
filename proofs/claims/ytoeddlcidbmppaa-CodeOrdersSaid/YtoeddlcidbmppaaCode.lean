/- Contracts of the keys. -/
import Derived.Test.YtoeddlcidbmppaaCodeM
import Derived.Test.YtoeddlcidbmppaaFloat
import Derived.Test.YtoeddlcidbmppaaMem
import Derived.LoopN
import Derived.Laws.IdiomStrings
import Derived.Deep.LoopGhost
namespace Go.Proofs.Ytoeddlcidbmppaa.Co
open Go.RowKit
open Go.Proofs.Ytoeddlcidbmppaa.Fl (rk)
set_option linter.unusedVariables false
set_option linter.unusedSimpArgs false
/-- What is converted out of a block that is new. -/
theorem conv_made (w : World) (ns : List Int) (T : TypeId) :
    (convert 55 9 (.slice (some ⟨w.heap.size, 0, none⟩) ns.length ns.length)).run Try.prog (w.alloc (.cells (ns.map (Value.int .u8)).toArray T)) = .ok (.string (strOfNums ns)) (w.alloc (.cells (ns.map (Value.int .u8)).toArray T)) := by
  refine run_convert_bytes_arg _ 55 5 Try.underlying55 Try.underlying5 w.heap.size 0 ns.length ns.length ns rfl (fun i hi => ?_) 9 Try.underlying9
  rw [Nat.zero_add]
  have : (w.alloc (.cells (ns.map (Value.int .u8)).toArray T)).cell? ⟨w.heap.size, i, none⟩ = (ns.map (Value.int .u8)).toArray[i]? := World.cell?_alloc_mark w _ T _ i
  rw [this]
  simp [List.getD, List.getElem?_eq_getElem hi]
theorem bytes_nums (l : List Nat) : strOfNums (l.map Int.ofNat) = bytes l := by
  unfold strOfNums bytes
  rw [List.map_map]
  rfl
theorem conv_key (n : Nat) (hn : n < 18446744073709551616) (w : World) :
    (convert 55 9 (.slice (some ⟨w.heap.size, 0, none⟩) 8 8)).run Try.prog (w.alloc (.cells #[.int .u8 ((n : Int) / 72057594037927936), .int .u8 ((n : Int) / 281474976710656 % 256), .int .u8 ((n : Int) / 1099511627776 % 256), .int .u8 ((n : Int) / 4294967296 % 256), .int .u8 ((n : Int) / 16777216 % 256), .int .u8 ((n : Int) / 65536 % 256), .int .u8 ((n : Int) / 256 % 256), .int .u8 ((n : Int) % 256)] 54)) =
    .ok (.string (bytes (low n 8))) (w.alloc (.cells #[.int .u8 ((n : Int) / 72057594037927936), .int .u8 ((n : Int) / 281474976710656 % 256), .int .u8 ((n : Int) / 1099511627776 % 256), .int .u8 ((n : Int) / 4294967296 % 256), .int .u8 ((n : Int) / 16777216 % 256), .int .u8 ((n : Int) / 65536 % 256), .int .u8 ((n : Int) / 256 % 256), .int .u8 ((n : Int) % 256)] 54)) := by
  have h := conv_made w [(n : Int) / 72057594037927936, (n : Int) / 281474976710656 % 256, (n : Int) / 1099511627776 % 256, (n : Int) / 4294967296 % 256, (n : Int) / 16777216 % 256, (n : Int) / 65536 % 256, (n : Int) / 256 % 256, (n : Int) % 256] 54
  have e : [(n : Int) / 72057594037927936, (n : Int) / 281474976710656 % 256, (n : Int) / 1099511627776 % 256, (n : Int) / 4294967296 % 256, (n : Int) / 16777216 % 256, (n : Int) / 65536 % 256, (n : Int) / 256 % 256, (n : Int) % 256] = (low n 8).map Int.ofNat := by
    simp only [low, List.map_cons, List.map_nil, List.cons.injEq, and_true]
    refine ⟨?_, ?_, ?_, ?_, ?_, ?_, ?_, ?_⟩ <;> (simp only [Nat.reducePow, Int.ofNat_eq_natCast]; omega)
  have h2 : strOfNums [(n : Int) / 72057594037927936, (n : Int) / 281474976710656 % 256, (n : Int) / 1099511627776 % 256, (n : Int) / 4294967296 % 256, (n : Int) / 16777216 % 256, (n : Int) / 65536 % 256, (n : Int) / 256 % 256, (n : Int) % 256] = bytes (low n 8) := by rw [e, bytes_nums]
  rw [h2] at h
  exact h
theorem enc1 : Utf8.encode 1 = ⟨#[1]⟩ := by decide +kernel
theorem enc2 : Utf8.encode 2 = ⟨#[2]⟩ := by decide +kernel
set_option maxHeartbeats 1600000 in
theorem numberKey1_calls (n : Nat) (w : World) (hn : n < 18446744073709551616) :
    Calls Try.prog 20 #[.int .u8 1, .int .u64 n] w (Fresh (.string (⟨#[1]⟩ ++ bytes (low n 8))) w) := by
  have hcv := conv_key n hn w
  have he := enc1
  have hs : (bytes (low n 8)).size ≤ 8 := by rw [bytes_size, low_len]; omega
  generalize bytes (low n 8) = K at *
  go_enter Try.func20, Try.ntmps20
  go_wp2
  refine wp_loop_rounds 9 ?_
  rw [rounds_succ]
  go_wp2
  rw [rounds_succ]
  go_wp2
  rw [rounds_succ]
  go_wp2
  rw [rounds_succ]
  go_wp2
  rw [rounds_succ]
  go_wp2
  rw [rounds_succ]
  go_wp2
  rw [rounds_succ]
  go_wp2
  rw [rounds_succ]
  go_wp2
  rw [rounds_succ]
  go_wp2
  go_ret
  exact ⟨rfl, (by repeat (first | with_reducible exact Below.refl _ _ | with_reducible refine below_drewN ?_ _ | with_reducible refine below_alloc ?_ (Nat.le_refl _) _ | (with_reducible refine Below.setCell ?_ ?h _; (case h => first | (dsimp only; omega) | (simp; done) | (simp; omega))) | with_reducible refine below_step ?_ (Nat.le_refl _) (by assumption)))⟩
set_option maxHeartbeats 1600000 in
theorem numberKey2_calls (n : Nat) (w : World) (hn : n < 18446744073709551616) :
    Calls Try.prog 20 #[.int .u8 2, .int .u64 n] w (Fresh (.string (⟨#[2]⟩ ++ bytes (low n 8))) w) := by
  have hcv := conv_key n hn w
  have he := enc2
  have hs : (bytes (low n 8)).size ≤ 8 := by rw [bytes_size, low_len]; omega
  generalize bytes (low n 8) = K at *
  go_enter Try.func20, Try.ntmps20
  go_wp2
  refine wp_loop_rounds 9 ?_
  rw [rounds_succ]
  go_wp2
  rw [rounds_succ]
  go_wp2
  rw [rounds_succ]
  go_wp2
  rw [rounds_succ]
  go_wp2
  rw [rounds_succ]
  go_wp2
  rw [rounds_succ]
  go_wp2
  rw [rounds_succ]
  go_wp2
  rw [rounds_succ]
  go_wp2
  rw [rounds_succ]
  go_wp2
  go_ret
  exact ⟨rfl, (by repeat (first | with_reducible exact Below.refl _ _ | with_reducible refine below_drewN ?_ _ | with_reducible refine below_alloc ?_ (Nat.le_refl _) _ | (with_reducible refine Below.setCell ?_ ?h _; (case h => first | (dsimp only; omega) | (simp; done) | (simp; omega))) | with_reducible refine below_step ?_ (Nat.le_refl _) (by assumption)))⟩
/-- The first k digits are made; the last one is next. -/
theorem iv8_cons (d : Nat) (l : List Nat) : [Value.int .u8 (d : Int)] ++ (l.map Int.ofNat).map (Value.int .u8) = ((d :: l).map Int.ofNat).map (Value.int .u8) := rfl
def u8v (l : List Nat) : List Value := l.map fun d : Nat => .int .u8 (d : Int)
theorem u8v_one (l : List Nat) : ∀ u ∈ u8v l, u.oneCell' = true := fun u hu => by
  obtain ⟨d, _, rfl⟩ := List.mem_map.1 hu
  rfl
theorem u8v_len (l : List Nat) : (u8v l).length = l.length := by simp [u8v]
theorem byte_info : (Try.prog.info? 5).map (fun i => (i.zero, i.size, i.bytes)) = some (some (.int .u8 0), 1, 1) := by kernel_rfl
theorem conv_rd (w : World) (A : Option Addr) (c : Nat) (l : List Nat) (hl : 0 < l.length) (B : Nat) (hr : Rd w B A (u8v l)) :
    (convert 55 9 (.slice A l.length c)).run Try.prog w = .ok (.string (bytes l)) w := by
  obtain ⟨b, off, rfl, _, hc⟩ := hr.spot (by intro e; have := congrArg List.length e; rw [u8v_len] at this; simp at this; rw [this] at hl; simp at hl)
  rw [← bytes_nums]
  refine run_convert_bytes_arg _ 55 5 Try.underlying55 Try.underlying5 b off l.length c (l.map Int.ofNat) (by simp) (fun i hi => ?_) 9 Try.underlying9
  rw [hc i (by rw [u8v_len]; exact hi)]
  simp [u8v, List.getD, List.getElem?_eq_getElem hi]
set_option maxHeartbeats 1600000 in
theorem eight_calls (n : Nat) (w : World) (hn : n < 18446744073709551616) :
    Calls Try.prog 23 #[.int .u64 n] w (Fresh (.string (bytes (low n 8))) w) := by
  obtain ⟨i0, hi0, hz0, hz1, hz2⟩ := info_parts byte_info
  go_enter Try.func23, Try.ntmps23
  go_wp2_with fail
  go_loopg [0, 3, 4] 8 (fun g x v k wr => ∃ j : Nat, k = .int .i64 (j : Int) ∧ j + g = 8 ∧ x = .int .u64 ((n / 256 ^ j : Nat) : Int) ∧ wr.ownsRow w.heap.size 5 1 v j (u8v (low n j)) ∧ Below w.heap.size w wr)
  case atStart => exact ⟨0, rfl, rfl, by simp, by exact World.ownsRow_made (e := 5) (size := 1) w #[] 0 (Nat.le_refl _) (by simp) rfl, (Below.refl _ _).alloc (Nat.le_refl _) _⟩
  case round =>
    obtain ⟨j, rfl, hj, rfl, hown, hbel⟩ := hrel
    by_cases hlt : j < 8
    · have g1 : (j : Int) < 8 := by omega
      have hx : n / 256 ^ j ≤ n := Nat.div_le_self _ _
      have HS := Lib.hid (show n / 256 ^ (j + 1) = n / 256 ^ j / 256 by rw [Nat.pow_succ, Nat.div_div_eq_div_mul])
      have HL := Lib.hid (show low n (j + 1) = (n / 256 ^ j % 256) :: low n j from rfl)
      have hll := low_len n j
      have hll2 := u8v_len (low n j)
      generalize n / 256 ^ j = X at *
      have hown1 := hown.alloc (.cells #[.int .u8 ((X : Int) % 256)] 5)
      obtain ⟨A, c, rfl, hc, hm1, hr, hbk⟩ := own_slice hown1
      have hlit := World.ownsRow_lit (base := w.heap.size) (e := 5) (size := 1) wr #[.int .u8 ((X : Int) % 256)] 1 hbel.size (by decide) rfl
      have hbel1 := hbel.alloc hbel.size (.cells #[.int .u8 ((X : Int) % 256)] 5)
      have h63 : 1 + j ≤ maxLen := by simp only [maxLen]; omega
      have h64 : (1 + j) * 1 ≤ 140737488355328 := by omega
      have hcs : ((X % 256 : Nat) : Int) = (X : Int) % 256 := by omega
      have hb0 : ∀ k, (Value.slice (some ⟨wr.heap.size, 0, none⟩) 1 1).ownBlock = some k → w.heap.size ≤ k := fun k hk => by
        simp [Value.ownBlock] at hk
        have := hbel.size
        omega
      go_wp2_with (at_builtin; refine append_rd _ rfl (.tmp 13) (.tmp 14) 55 rfl w.heap.size 5 i0 _ 1 1 Try.underlying55 hi0 hz0 hz1 hz2 rfl (by omega) (.slice (some ⟨wr.heap.size, 0, none⟩) 1 1) 1 _ rfl hlit _ A j c (u8v (low n j)) rfl (by rw [hll2, hll]; omega) hr (u8v_one _) h63 h64 hbel1.size ?_; intro v1 w1 hown2 hg1 hat1)
      have hbel2 := hbel1.grown hg1 hbel1.size hb0
      have ho : Hid (w1.ownsRow w.heap.size 5 1 v1 (j + 1) (u8v (low n (j + 1)))) := hide (by rw [HL.out, Nat.add_comm]; unfold u8v at *; rw [List.map_cons, hcs]; exact hown2)
      clear hown2 hg1 hat1 hown1 hlit hown hr hb0
      go_roundg (7 - j)
      case rel => exact ⟨j + 1, by go_num, by omega, by rw [HS.out]; go_num, ho.out, hbel2⟩
      case measure => omega
    · have g1 : ¬ (j : Int) < 8 := by omega
      obtain rfl : j = 8 := by omega
      obtain ⟨A, c, rfl, hc, hm1, hr, hbk⟩ := own_slice hown
      have hcv := conv_rd wr A c (low n 8) (by rw [low_len]; omega) _ hr
      rw [low_len] at hcv
      clear hr hown
      obtain ⟨K, hK⟩ : ∃ K, K = bytes (low n 8) := ⟨_, rfl⟩
      rw [← hK] at hcv
      have HK := Lib.hid hK
      clear hK
      go_wp2_with fail
      go_ret
      exact ⟨ret_str HK.out, hbel⟩
end Go.Proofs.Ytoeddlcidbmppaa.Co
