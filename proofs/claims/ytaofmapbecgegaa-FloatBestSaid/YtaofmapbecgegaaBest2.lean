/- The first and the last of floats; lists of floats. -/
import Derived.Test.YtaofmapbecgegaaBest
namespace Go.Proofs.Ytaofmapbecgegaa.Fl
open Go.RowKit
set_option linter.unusedVariables false
set_option linter.unusedSimpArgs false
def minN (zs : List Nat) : Nat → Nat
  | 0 => zs.getD 0 0
  | k + 1 => if rk (zs.getD (k + 1) 0) < rk (minN zs k) then zs.getD (k + 1) 0 else minN zs k
def maxN (zs : List Nat) : Nat → Nat
  | 0 => zs.getD 0 0
  | k + 1 => if rk (maxN zs k) < rk (zs.getD (k + 1) 0) then zs.getD (k + 1) 0 else maxN zs k
def minOf (zs : List Nat) : Nat := if zs = [] then 9218868437227405312 else minN zs (zs.length - 1)
def maxOf (zs : List Nat) : Nat := if zs = [] then 18442240474082181120 else maxN zs (zs.length - 1)
theorem getD_lt {zs : List Nat} (hz : F64s zs) (k : Nat) : zs.getD k 0 < 18446744073709551616 := by
  by_cases h : k < zs.length
  · rw [getD_at zs k 0 h]; exact hz _ (List.getElem_mem h)
  · rw [List.getD_eq_getElem?_getD, List.getElem?_eq_none (by omega)]; show 0 < _; omega
theorem minN_lt {zs : List Nat} (hz : F64s zs) (k : Nat) : minN zs k < 18446744073709551616 := by
  induction k with
  | zero => exact getD_lt hz 0
  | succ k ih =>
    unfold minN
    split
    · exact getD_lt hz _
    · exact ih
theorem maxN_lt {zs : List Nat} (hz : F64s zs) (k : Nat) : maxN zs k < 18446744073709551616 := by
  induction k with
  | zero => exact getD_lt hz 0
  | succ k ih =>
    unfold maxN
    split
    · exact getD_lt hz _
    · exact ih
theorem ninf_rk : rk 18442240474082181120 = 4503599627370495 := by
  unfold rk
  rw [show isnan 18442240474082181120 = false from by kernel_rfl, show low 18442240474082181120 = true from by unfold low; exact decide_eq_true (by omega)]
  simp
theorem ninf_least (x : Nat) (hx : x < 18446744073709551616) (h : ¬ rk 18442240474082181120 < rk x) : x = 18442240474082181120 := by
  rw [ninf_rk] at h
  unfold rk low at h
  cases hn : isnan x
  · rw [isnan_eq] at hn
    unfold rg at hn
    have hn2 := of_decide_eq_false hn
    rw [isnan_eq, show decide (9218868437227405312 < rg x) = false from hn] at h
    simp only [Bool.false_eq_true, if_false] at h
    by_cases hl : 9223372036854775808 ≤ x
    · rw [decide_eq_true hl] at h
      simp only [if_true] at h
      omega
    · rw [decide_eq_false hl] at h
      simp only [Bool.false_eq_true, if_false] at h
      omega
  · rw [hn] at h
    simp only [if_true] at h
    omega
theorem ninf_calls (w : World) : Calls Try.prog 31 #[.int .i64 (-1)] w (Quiet (.float .f64 18442240474082181120) w) := by
  have h3 := fun w => frombits_int 18442240474082181120 18442240474082181120 (by omega) w
  go_enter Try.func31, Try.ntmps31
  go_wp2
  all_goals
    go_ret
    exact ⟨rfl, ⟨0, rfl⟩⟩
set_option maxHeartbeats 1600000 in
theorem RefLeast_calls (A : Option Addr) (cap : Nat) (zs : List Nat) (w : World) (hr : Rd w w.heap.size A (fv zs)) (hl : zs.length ≤ 1000) (hz : F64s zs) :
    Calls Try.prog 19 #[.slice A zs.length cap] w (Quiet (.float .f64 (minOf zs)) w) := by
  have HM := Lib.hid (show (zs = [] → minOf zs = 9218868437227405312) ∧ (¬ zs = [] → minOf zs = minN zs (zs.length - 1)) from ⟨fun h => by unfold minOf; rw [if_pos h], fun h => by unfold minOf; rw [if_neg h]⟩)
  have HZ := Lib.hid hz
  clear hz
  go_enter Try.func19, Try.ntmps19
  go_wp2_with fail
  refine (inf_calls _).mono ?_
  rintro e w' ⟨rfl, q0, rfl⟩
  go_wp2_with fail
  go_loopg [3, 4] zs.length (fun g s k wr => ∃ (j v : Nat), k = .int .i64 (j : Int) ∧ j + g = zs.length ∧ s = .float .f64 v ∧ (j = 0 → v = 9218868437227405312) ∧ (1 ≤ j → v = minN zs (j - 1)) ∧ v < 18446744073709551616 ∧ Drawn w wr)
  case atStart => exact ⟨0, _, rfl, by omega, rfl, fun _ => rfl, fun h => by omega, by omega, _, rfl⟩
  case round =>
    obtain ⟨j, v, rfl, hj, rfl, hv0, hv1, hvl, q, rfl⟩ := hrel
    by_cases hlt : j < zs.length
    · have g1 : (j : Int) < (zs.length : Int) := by omega
      obtain ⟨ad, rfl, _, hck⟩ := hr.at_ (k := j) (by rw [fv_len]; exact hlt)
      rw [fv_at zs j hlt] at hck
      have hzl := HZ.out zs[j] (List.getElem_mem hlt)
      by_cases h0 : j = 0
      · subst h0
        have HN := Lib.hid (show minN zs 0 = zs[0] from getD_at zs 0 0 hlt)
        have ea : ad.add 0 = ad := by simp [Addr.add]
        rw [ea] at hck
        clear hv0 hv1 ea
        generalize zs[0] = z at *
        go_wp2_with fail
        go_roundg (zs.length - 1)
        case rel => exact ⟨1, z, by go_num, by omega, rfl, fun h => by omega, fun _ => HN.out.symm, hzl, _, rfl⟩
        case measure => omega
      · have e0 : ((j : Int) == 0) = false := by rw [beq_eq_false_iff_ne]; omega
        have e1 := hv1 (by omega)
        have kL := fun w => RefLess_calls zs[j] v w
        rw [lt_rk _ _ hzl hvl] at kL
        have HN : Hid (minN zs (j + 1 - 1) = if rk zs[j] < rk v then zs[j] else v) := hide (by
          obtain ⟨i, rfl⟩ : ∃ i, j = i + 1 := ⟨j - 1, by omega⟩
          rw [Nat.add_sub_cancel, minN, getD_at zs (i + 1) 0 hlt, e1, Nat.add_sub_cancel])
        clear hv0 hv1 e1
        generalize zs[j] = z at *
        by_cases hc : rk z < rk v
        · rw [decide_eq_true hc] at kL
          rw [if_pos hc] at HN
          have KL := fun w => Lib.hid (kL w)
          clear kL hc
          go_wp2_with (go_at_call 11; (with_reducible refine ((KL _).out).mono ?_); rintro e w' ⟨rfl, q, rfl⟩)
          go_roundg (zs.length - (j + 1))
          case rel => exact ⟨j + 1, z, by go_num, by omega, rfl, fun h => by omega, fun _ => HN.out.symm, hzl, _, rfl⟩
          case measure => omega
        · rw [decide_eq_false hc] at kL
          rw [if_neg hc] at HN
          have KL := fun w => Lib.hid (kL w)
          clear kL hc
          go_wp2_with (go_at_call 11; (with_reducible refine ((KL _).out).mono ?_); rintro e w' ⟨rfl, q, rfl⟩)
          go_roundg (zs.length - (j + 1))
          case rel => exact ⟨j + 1, v, by go_num, by omega, rfl, fun h => by omega, fun _ => HN.out.symm, hvl, _, rfl⟩
          case measure => omega
    · have g1 : ¬ (j : Int) < (zs.length : Int) := by omega
      have HV : Hid (minOf zs = v) := hide (by
        by_cases h0 : zs = []
        · rw [HM.out.1 h0, hv0 (by rw [h0] at hj; simp at hj; omega)]
        · have := nil_len h0
          rw [HM.out.2 h0, hv1 (by omega), show j = zs.length by omega])
      clear hv0 hv1 hr
      obtain rfl : j = zs.length := by omega
      go_wp2_with fail
      go_ret
      exact ⟨by rw [HV.out]; rfl, _, rfl⟩
set_option maxHeartbeats 1600000 in
theorem RefMost_calls (A : Option Addr) (cap : Nat) (zs : List Nat) (w : World) (hr : Rd w w.heap.size A (fv zs)) (hl : zs.length ≤ 1000) (hz : F64s zs) :
    Calls Try.prog 21 #[.slice A zs.length cap] w (Quiet (.float .f64 (maxOf zs)) w) := by
  have HM := Lib.hid (show (zs = [] → maxOf zs = 18442240474082181120) ∧ (¬ zs = [] → maxOf zs = maxN zs (zs.length - 1)) from ⟨fun h => by unfold maxOf; rw [if_pos h], fun h => by unfold maxOf; rw [if_neg h]⟩)
  have HZ := Lib.hid hz
  clear hz
  go_enter Try.func21, Try.ntmps21
  go_wp2_with fail
  refine (ninf_calls _).mono ?_
  rintro e w' ⟨rfl, q0, rfl⟩
  go_wp2_with fail
  go_loopg [3, 4] zs.length (fun g s k wr => ∃ (j v : Nat), k = .int .i64 (j : Int) ∧ j + g = zs.length ∧ s = .float .f64 v ∧ (j = 0 → v = 18442240474082181120) ∧ (1 ≤ j → v = maxN zs (j - 1)) ∧ v < 18446744073709551616 ∧ Drawn w wr)
  case atStart => exact ⟨0, _, rfl, by omega, rfl, fun _ => rfl, fun h => by omega, by omega, _, rfl⟩
  case round =>
    obtain ⟨j, v, rfl, hj, rfl, hv0, hv1, hvl, q, rfl⟩ := hrel
    by_cases hlt : j < zs.length
    · have g1 : (j : Int) < (zs.length : Int) := by omega
      obtain ⟨ad, rfl, _, hck⟩ := hr.at_ (k := j) (by rw [fv_len]; exact hlt)
      rw [fv_at zs j hlt] at hck
      have hzl := HZ.out zs[j] (List.getElem_mem hlt)
      by_cases h0 : j = 0
      · subst h0
        have HN := Lib.hid (show maxN zs 0 = zs[0] from getD_at zs 0 0 hlt)
        have ea : ad.add 0 = ad := by simp [Addr.add]
        rw [ea] at hck
        clear hv0 hv1 ea
        generalize zs[0] = z at *
        go_wp2_with fail
        go_roundg (zs.length - 1)
        case rel => exact ⟨1, z, by go_num, by omega, rfl, fun h => by omega, fun _ => HN.out.symm, hzl, _, rfl⟩
        case measure => omega
      · have e0 : ((j : Int) == 0) = false := by rw [beq_eq_false_iff_ne]; omega
        have e1 := hv1 (by omega)
        have kL := fun w => RefLess_calls v zs[j] w
        rw [lt_rk _ _ hvl hzl] at kL
        have HN : Hid (maxN zs (j + 1 - 1) = if rk v < rk zs[j] then zs[j] else v) := hide (by
          obtain ⟨i, rfl⟩ : ∃ i, j = i + 1 := ⟨j - 1, by omega⟩
          rw [Nat.add_sub_cancel, maxN, getD_at zs (i + 1) 0 hlt, e1, Nat.add_sub_cancel])
        clear hv0 hv1 e1
        generalize zs[j] = z at *
        by_cases hc : rk v < rk z
        · rw [decide_eq_true hc] at kL
          rw [if_pos hc] at HN
          have KL := fun w => Lib.hid (kL w)
          clear kL hc
          go_wp2_with (go_at_call 11; (with_reducible refine ((KL _).out).mono ?_); rintro e w' ⟨rfl, q, rfl⟩)
          go_roundg (zs.length - (j + 1))
          case rel => exact ⟨j + 1, z, by go_num, by omega, rfl, fun h => by omega, fun _ => HN.out.symm, hzl, _, rfl⟩
          case measure => omega
        · rw [decide_eq_false hc] at kL
          rw [if_neg hc] at HN
          have KL := fun w => Lib.hid (kL w)
          clear kL hc
          go_wp2_with (go_at_call 11; (with_reducible refine ((KL _).out).mono ?_); rintro e w' ⟨rfl, q, rfl⟩)
          go_roundg (zs.length - (j + 1))
          case rel => exact ⟨j + 1, v, by go_num, by omega, rfl, fun h => by omega, fun _ => HN.out.symm, hvl, _, rfl⟩
          case measure => omega
    · have g1 : ¬ (j : Int) < (zs.length : Int) := by omega
      have HV : Hid (maxOf zs = v) := hide (by
        by_cases h0 : zs = []
        · rw [HM.out.1 h0, hv0 (by rw [h0] at hj; simp at hj; omega)]
        · have := nil_len h0
          rw [HM.out.2 h0, hv1 (by omega), show j = zs.length by omega])
      clear hv0 hv1 hr
      obtain rfl : j = zs.length := by omega
      go_wp2_with fail
      go_ret
      exact ⟨by rw [HV.out]; rfl, _, rfl⟩
theorem min_facts (zs : List Nat) : (zs = [] → minOf zs = 9218868437227405312) ∧ (¬ zs = [] → minOf zs = minN zs (zs.length - 1)) := ⟨fun h => by unfold minOf; rw [if_pos h], fun h => by unfold minOf; rw [if_neg h]⟩
theorem max_facts (zs : List Nat) : (zs = [] → maxOf zs = 18442240474082181120) ∧ (¬ zs = [] → maxOf zs = maxN zs (zs.length - 1)) := ⟨fun h => by unfold maxOf; rw [if_pos h], fun h => by unfold maxOf; rw [if_neg h]⟩
set_option maxHeartbeats 1600000 in
theorem Least_calls (A : Option Addr) (cap : Nat) (zs : List Nat) (w : World) (hr : Rd w w.heap.size A (fv zs)) (hl : zs.length ≤ 1000) (hcap : zs.length ≤ cap) (hcm : cap ≤ maxLen) (hz : F64s zs) :
    Calls Try.prog 18 #[.slice A zs.length cap] w (Quiet (.float .f64 (minOf zs)) w) := by
  have HM := Lib.hid (min_facts zs)
  have HZ := Lib.hid hz
  clear hz
  unfold maxLen at hcm
  by_cases h0 : zs = []
  · have HE := Lib.hid (HM.out.1 h0)
    subst h0
    go_enter Try.func18, Try.ntmps18
    go_wp2_with (go_at_call 31; (with_reducible refine (inf_calls _).mono ?_); rintro e w' ⟨rfl, q, rfl⟩)
    go_ret
    exact ⟨by rw [HE.out]; rfl, _, rfl⟩
  · have hp := nil_len h0
    have HE := Lib.hid (HM.out.2 h0)
    obtain ⟨b, off, rfl, hb, hc⟩ := hr.spot (by intro e; apply h0; cases zs with | nil => rfl | cons a l => simp [fv] at e)
    have c0 := hc 0 (by rw [fv_len]; exact hp)
    rw [fv_at zs 0 hp, Nat.add_zero] at c0
    have HC := Lib.hid hc
    have e0 : ((zs.length : Int) == 0) = false := by rw [beq_eq_false_iff_ne]; omega
    have HS := Lib.hid (show minN zs 0 = zs[0] from getD_at zs 0 0 hp)
    have HZ0 := Lib.hid (HZ.out zs[0] (List.getElem_mem hp))
    clear hc h0
    go_enter Try.func18, Try.ntmps18
    go_wp2_with fail
    all_goals
      go_loopg [3, 16] (zs.length - 1) (fun g s k wr => ∃ j : Nat, k = .int .i64 (j : Int) ∧ j + g = zs.length - 1 ∧ s = .float .f64 (minN zs j) ∧ Drawn w wr)
      case atStart => exact ⟨0, rfl, by omega, by rw [HS.out], Drawn.refl _⟩
      case round =>
        obtain ⟨j, rfl, hj, rfl, q, rfl⟩ := hrel
        have hL : ((zs.length - 1 : Nat) : Int) = (zs.length : Int) - 1 := by omega
        by_cases hlt : j + 1 < zs.length
        · have g1 : (j : Int) < ((zs.length - 1 : Nat) : Int) := by omega
          have hck := HC.out (j + 1) (by rw [fv_len]; exact hlt)
          rw [fv_at zs (j + 1) hlt, show off + (j + 1) = off + 1 + j by omega] at hck
          have hzl := HZ.out zs[j + 1] (List.getElem_mem hlt)
          have kL := fun w => Less_calls zs[j + 1] (minN zs j) w hzl (minN_lt HZ.out j)
          have HN : Hid (minN zs (j + 1) = if rk zs[j + 1] < rk (minN zs j) then zs[j + 1] else minN zs j) := hide (by rw [minN, getD_at zs (j + 1) 0 hlt])
          clear hL hzl
          first
          | (exfalso; omega)
          | (generalize zs[j + 1] = z at *
             generalize minN zs j = y at *
             by_cases hc : rk z < rk y
             · rw [decide_eq_true hc] at kL
               rw [if_pos hc] at HN
               have KL := fun w => Lib.hid (kL w)
               clear kL hc
               go_wp2_with (go_at_call 10; (with_reducible refine ((KL _).out).mono ?_); rintro e w' ⟨rfl, q, rfl⟩)
               go_roundg (zs.length - 1 - (j + 1))
               case rel => exact ⟨j + 1, by go_num, by omega, by rw [HN.out], _, rfl⟩
               case measure => omega
             · rw [decide_eq_false hc] at kL
               rw [if_neg hc] at HN
               have KL := fun w => Lib.hid (kL w)
               clear kL hc
               go_wp2_with (go_at_call 10; (with_reducible refine ((KL _).out).mono ?_); rintro e w' ⟨rfl, q, rfl⟩)
               go_roundg (zs.length - 1 - (j + 1))
               case rel => exact ⟨j + 1, by go_num, by omega, by rw [HN.out], _, rfl⟩
               case measure => omega)
        · have g1 : ¬ (j : Int) < ((zs.length - 1 : Nat) : Int) := by omega
          obtain rfl : j = zs.length - 1 := by omega
          clear hL
          go_wp2_with fail
          go_ret
          exact ⟨by rw [HE.out]; rfl, _, rfl⟩
set_option maxHeartbeats 1600000 in
theorem Most_calls (A : Option Addr) (cap : Nat) (zs : List Nat) (w : World) (hr : Rd w w.heap.size A (fv zs)) (hl : zs.length ≤ 1000) (hz : F64s zs) :
    Calls Try.prog 20 #[.slice A zs.length cap] w (Quiet (.float .f64 (maxOf zs)) w) := by
  have HM := Lib.hid (max_facts zs)
  have HZ := Lib.hid hz
  clear hz
  go_enter Try.func20, Try.ntmps20
  go_wp2_with fail
  refine (ninf_calls _).mono ?_
  rintro e w' ⟨rfl, q0, rfl⟩
  go_wp2_with fail
  go_loopg [3, 9] zs.length (fun g s k wr => ∃ (j v : Nat), k = .int .i64 (j : Int) ∧ j + g = zs.length ∧ s = .float .f64 v ∧ (j = 0 → v = 18442240474082181120) ∧ (1 ≤ j → v = maxN zs (j - 1)) ∧ v < 18446744073709551616 ∧ Drawn w wr)
  case atStart => exact ⟨0, _, rfl, by omega, rfl, fun _ => rfl, fun h => by omega, by omega, _, rfl⟩
  case round =>
    obtain ⟨j, v, rfl, hj, rfl, hv0, hv1, hvl, q, rfl⟩ := hrel
    by_cases hlt : j < zs.length
    · have g1 : (j : Int) < (zs.length : Int) := by omega
      obtain ⟨ad, rfl, _, hck⟩ := hr.at_ (k := j) (by rw [fv_len]; exact hlt)
      rw [fv_at zs j hlt] at hck
      have hzl := HZ.out zs[j] (List.getElem_mem hlt)
      have kL := fun w => Less_calls v zs[j] w hvl hzl
      have HN : Hid (maxN zs (j + 1 - 1) = if rk v < rk zs[j] then zs[j] else v) := hide (by
        by_cases h0 : j = 0
        · subst h0
          have e : maxN zs 0 = zs[0] := getD_at zs 0 0 hlt
          rw [show 0 + 1 - 1 = 0 from rfl, e]
          split
          · rfl
          · rename_i hn
            rw [hv0 rfl] at hn ⊢
            exact ninf_least _ hzl hn
        · obtain ⟨i, rfl⟩ : ∃ i, j = i + 1 := ⟨j - 1, by omega⟩
          rw [Nat.add_sub_cancel, maxN, getD_at zs (i + 1) 0 hlt, hv1 (by omega), Nat.add_sub_cancel])
      clear hv0 hv1
      generalize zs[j] = z at *
      by_cases hc : rk v < rk z
      · rw [decide_eq_true hc] at kL
        rw [if_pos hc] at HN
        have KL := fun w => Lib.hid (kL w)
        clear kL hc
        go_wp2_with (go_at_call 10; (with_reducible refine ((KL _).out).mono ?_); rintro e w' ⟨rfl, q, rfl⟩)
        go_roundg (zs.length - (j + 1))
        case rel => exact ⟨j + 1, z, by go_num, by omega, rfl, fun h => by omega, fun _ => HN.out.symm, hzl, _, rfl⟩
        case measure => omega
      · rw [decide_eq_false hc] at kL
        rw [if_neg hc] at HN
        have KL := fun w => Lib.hid (kL w)
        clear kL hc
        go_wp2_with (go_at_call 10; (with_reducible refine ((KL _).out).mono ?_); rintro e w' ⟨rfl, q, rfl⟩)
        go_roundg (zs.length - (j + 1))
        case rel => exact ⟨j + 1, v, by go_num, by omega, rfl, fun h => by omega, fun _ => HN.out.symm, hvl, _, rfl⟩
        case measure => omega
    · have g1 : ¬ (j : Int) < (zs.length : Int) := by omega
      have HV : Hid (maxOf zs = v) := hide (by
        by_cases h0 : zs = []
        · rw [HM.out.1 h0, hv0 (by rw [h0] at hj; simp at hj; omega)]
        · have := nil_len h0
          rw [HM.out.2 h0, hv1 (by omega), show j = zs.length by omega])
      clear hv0 hv1 hr
      obtain rfl : j = zs.length := by omega
      go_wp2_with fail
      go_ret
      exact ⟨by rw [HV.out]; rfl, _, rfl⟩
end Go.Proofs.Ytaofmapbecgegaa.Fl
