/- Lists of floats; the law FloatBest. -/
import Derived.Test.YtaofmapbecgegaaBest2
namespace Go.Proofs.Ytaofmapbecgegaa.Fl
open Go.RowKit
set_option linter.unusedVariables false
set_option linter.unusedSimpArgs false
theorem float_info : (Try.prog.info? 23).map (fun i => (i.zero, i.size, i.bytes)) = some (some (.float .f64 0), 1, 8) := by kernel_rfl
def uv (ns : List Nat) : List Value := ns.map fun n : Nat => .int .u64 (n : Int)
theorem uv_len (zs : List Nat) : (uv zs).length = zs.length := by simp [uv]
theorem uv_at (zs : List Nat) (k : Nat) (h : k < zs.length) : (uv zs)[k]'(by simpa [uv] using h) = .int .u64 (zs[k] : Int) := by simp [uv]
def MakesF (ns : List Nat) (w : World) (e : Ending) (w' : World) : Prop := ∃ v, e = .returned v ∧ w'.ownsRow w.heap.size 23 1 v ns.length (fv ns) ∧ Below w.heap.size w w'
theorem fv_snoc (zs : List Nat) (x : Nat) : fv zs ++ [.float .f64 x] = fv (zs ++ [x]) := by simp [fv]
set_option maxHeartbeats 1600000 in
theorem List_calls (A : Option Addr) (cap : Nat) (ns : List Nat) (w : World) (hr : Rd w w.heap.size A (uv ns)) (hl : ns.length ≤ 1000) :
    Calls Try.prog 32 #[.slice A ns.length cap] w (MakesF ns w) := by
  obtain ⟨i0, hi0, hz0, hz1, hz2⟩ := info_parts float_info
  have HFB := Lib.hid frombits_run
  go_enter Try.func32, Try.ntmps32
  go_wp2_with fail
  go_loopg [3, 4] ns.length (fun g v k wr => ∃ j : Nat, k = .int .i64 (j : Int) ∧ j + g = ns.length ∧ wr.ownsRow w.heap.size 23 1 v j (fv (ns.take j)) ∧ Below w.heap.size w wr)
  case atStart => exact ⟨0, rfl, by omega, by exact World.ownsRow_made (e := 23) (size := 1) w #[] 0 (Nat.le_refl _) (by simp) rfl, (Below.refl _ _).alloc (Nat.le_refl _) _⟩
  case round =>
    obtain ⟨j, rfl, hj, hown, hbel⟩ := hrel
    by_cases hlt : j < ns.length
    · have g1 : (j : Int) < (ns.length : Int) := by omega
      obtain ⟨ad, rfl, _, hck⟩ := (hr.below hbel).at_ (k := j) (by rw [uv_len]; exact hlt)
      rw [uv_at ns j hlt] at hck
      have HS := Lib.hid (show ns.take (j + 1) = ns.take j ++ [ns[j]] from List.take_succ_eq_append_getElem hlt)
      have hfb := HFB.out ns[j]
      generalize ns[j] = z at *
      have hown1 := hown.alloc (.cells #[.float .f64 z] 23)
      have hnew := Rd.own (World.ownsRow_lit (base := w.heap.size) (e := 23) (size := 1) wr #[.float .f64 z] 1 hbel.size (by decide) rfl)
      have hbel1 := hbel.alloc hbel.size (.cells #[.float .f64 z] 23)
      have h1 : ∀ u ∈ (#[Value.float .f64 z] : Array Value).toList, u.oneCell' = true := fun u hu => by
        rcases List.mem_cons.1 hu with rfl | hu
        · rfl
        · cases hu
      have hblk : ∀ n, u3.ownBlock = some n → w.heap.size ≤ n := fun n hn => (hown.lt n hn).1
      have h63 : j + 1 ≤ maxLen := by simp only [maxLen]; omega
      have h64 : (j + 1) * 8 ≤ 140737488355328 := by omega
      go_wp2_with (at_builtin; refine append_rd _ rfl (.tmp 12) (.tmp 18) 33 rfl w.heap.size 23 i0 _ 1 8 Try.underlying33 hi0 hz0 hz1 hz2 rfl (by omega) u3 j (fv (ns.take j)) rfl hown1 _ (some ⟨wr.heap.size, 0, none⟩) 1 1 _ rfl rfl hnew h1 h63 h64 hbel1.size ?_; intro v1 w1 hown2 hg1 hat1)
      have hbel2 := hbel1.grown hg1 hbel1.size hblk
      have ho : Hid (w1.ownsRow w.heap.size 23 1 v1 (j + 1) (fv (ns.take (j + 1)))) := hide (by rw [HS.out, ← fv_snoc]; exact hown2)
      clear hown2 hg1 hat1 hown1 hnew hown hblk
      go_roundg (ns.length - (j + 1))
      case rel => exact ⟨j + 1, by go_num, by omega, ho.out, hbel2⟩
      case measure => omega
    · have g1 : ¬ (j : Int) < (ns.length : Int) := by omega
      obtain rfl : j = ns.length := by omega
      rw [List.take_length] at hown
      go_wp2_with fail
      go_ret
      exact ⟨_, rfl, hown, hbel⟩
set_option maxHeartbeats 800000 in
theorem few_calls (A : Option Addr) (cap : Nat) (ns : List Nat) (w : World) (hr : Rd w w.heap.size A (uv ns)) (hcap : ns.length ≤ cap) (hcm : cap ≤ maxLen) :
    Calls Try.prog 17 #[.slice A ns.length cap] w (MakesF (ns.take 200) w) := by
  unfold maxLen at hcm
  have ht : Rd w w.heap.size A (uv (ns.take 200)) := by
    have := hr.take 200
    unfold uv at this ⊢
    rwa [List.map_take]
  have k1 := Lib.hid (List_calls A cap (ns.take 200) w ht (by rw [List.length_take]; omega))
  by_cases h : ns.length ≤ 200
  · have e : (ns.take 200).length = ns.length := by rw [List.length_take]; omega
    rw [e] at k1
    have g : (ns.length : Int) ≤ 200 := by omega
    clear e ht hr
    generalize ns.take 200 = ms at *
    go_enter Try.func17, Try.ntmps17
    go_wp2_with fail
    refine k1.out.mono ?_
    rintro e w' ⟨v, rfl, ho, hb⟩
    go_wp2_with fail
    go_ret
    exact ⟨v, rfl, ho, hb⟩
  · have e : (ns.take 200).length = 200 := by rw [List.length_take]; omega
    rw [e] at k1
    have g : ¬ (ns.length : Int) ≤ 200 := by omega
    clear e ht hr
    generalize ns.take 200 = ms at *
    go_enter Try.func17, Try.ntmps17
    go_wp2_with fail
    refine k1.out.mono ?_
    rintro e w' ⟨v, rfl, ho, hb⟩
    go_wp2_with fail
    go_ret
    exact ⟨v, rfl, ho, hb⟩
theorem uv_of (ys : List Int) (h : ∀ z ∈ ys, 0 ≤ z ∧ z ≤ 18446744073709551615) : uv (ys.map Int.toNat) = ys.map (Value.int .u64) := by
  unfold uv
  rw [List.map_map]
  refine List.map_congr_left fun z hz => ?_
  have := h z hz
  show Value.int .u64 ((z.toNat : Nat) : Int) = _
  rw [show ((z.toNat : Nat) : Int) = z by omega]
theorem f64s_of (ys : List Int) (h : ∀ z ∈ ys, 0 ≤ z ∧ z ≤ 18446744073709551615) (n : Nat) : F64s ((ys.map Int.toNat).take n) := fun z hz => by
  obtain ⟨y, hy, rfl⟩ := List.mem_map.1 (List.mem_of_mem_take hz)
  have := h y hy
  omega
end Go.Proofs.Ytaofmapbecgegaa.Fl
