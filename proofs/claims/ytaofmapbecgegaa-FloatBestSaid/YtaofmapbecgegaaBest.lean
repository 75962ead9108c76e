/- The first, the last, the sum of floats. -/
import Derived.Test.YtaofmapbecgegaaFloatOrd
import Derived.Test.YtaofmapbecgegaaMem
import Derived.Deep.LoopGhost
namespace Go.Proofs.Ytaofmapbecgegaa.Fl
open Go.RowKit
set_option linter.unusedVariables false
set_option linter.unusedSimpArgs false
def fv (zs : List Nat) : List Value := zs.map (Value.float .f64)
theorem fv_len (zs : List Nat) : (fv zs).length = zs.length := by simp [fv]
theorem fv_at (zs : List Nat) (k : Nat) (h : k < zs.length) : (fv zs)[k]'(by simpa [fv] using h) = .float .f64 zs[k] := by simp [fv]
def F64s (zs : List Nat) : Prop := ∀ z ∈ zs, z < 18446744073709551616
/-- A sum, if it is one. -/
def Rel (o : Option Nat) (v : Nat) : Prop := (∀ r, o = some r → v = r) ∧ (o = none → isnan v = true) ∧ v < 18446744073709551616
theorem nan_read {a : Nat} (h : isnan a = true) : ∃ s p, FloatKind.f64.format.read a = .nan s p := by
  rw [isnan_eq] at h
  exact ⟨_, _, read_nan a (by simpa using h)⟩
theorem add_nan {a b : Nat} (h : isnan a = true) : floatBits .add .f64 a b = none := by
  obtain ⟨s, p, e⟩ := nan_read h
  show (((FloatKind.f64.format.read a).sum (FloatKind.f64.format.read b)).map _) = none
  rw [e]
  cases FloatKind.f64.format.read b <;> rfl
theorem quo_nan {a b : Nat} (h : isnan a = true) : floatBits .quo .f64 a b = none := by
  obtain ⟨s, p, e⟩ := nan_read h
  show (((FloatKind.f64.format.read a).quotient _ (FloatKind.f64.format.read b)).map _) = none
  rw [e]
  cases FloatKind.f64.format.read b <;> rfl
theorem cut_nan (x y t : Nat) : isnan ((Question.nanBits .f64 x y).cut t) = true ∧ (Question.nanBits .f64 x y).cut t < 18446744073709551616 := by
  have e : (Question.nanBits .f64 x y).cut t = (t % 2) * 2 ^ 63 + 0x7ff0000000000000 + 1 + (t / 2) % (2 ^ 52 - 1) := rfl
  rw [e, isnan_eq]
  unfold rg
  have h2 : (t / 2) % (2 ^ 52 - 1) < 2 ^ 52 - 1 := Nat.mod_lt _ (by omega)
  generalize (t / 2) % (2 ^ 52 - 1) = u at *
  refine ⟨decide_eq_true ?_, ?_⟩ <;> omega
theorem arith_step (op : BinOp) (hop : op = .add ∨ op = .quo) (P : Program) (t : TypeId) (o : Option Nat) (v f : Nat) (w : World) (h : Rel o v) :
    ∃ v' n, (binOp op t (.float .f64 v) (.float .f64 f)).run P w = .ok (.float .f64 v') (w.drewN n) ∧ Rel (o.bind fun s => floatBits op .f64 s f) v' := by
  obtain ⟨h1, h2, h3⟩ := h
  have hnone : floatBits op .f64 v f = none → ∃ v' n, (binOp op t (.float .f64 v) (.float .f64 f)).run P w = .ok (.float .f64 v') (w.drewN n) ∧ Rel none v' := by
    intro e
    refine ⟨(Question.nanBits .f64 v f).cut (w.tape w.drawn (.nanBits .f64 v f)), 1, ?_, fun r hr => (by cases hr), fun _ => (cut_nan v f _).1, (cut_nan v f _).2⟩
    unfold floatBits at e
    rcases hop with rfl | rfl
    · simp only at e
      simp [binOp, Op.floatArith, e, Question.forced]
      rfl
    · simp only at e
      simp [binOp, Op.floatArith, e, Question.forced]
      rfl
  cases o with
  | none =>
    have hv := h2 rfl
    exact hnone (by rcases hop with rfl | rfl; exact add_nan hv; exact quo_nan hv)
  | some r =>
    obtain rfl := h1 r rfl
    show ∃ v' n, _ ∧ Rel (floatBits op .f64 v f) v'
    cases e : floatBits op .f64 v f with
    | none => exact hnone e
    | some q =>
      have hwf := floatBits_wf e
      exact ⟨q, 0, run_float_arith w op t .f64 v f q e, fun r hr => (by injection hr), fun hr => (by cases hr), by simpa [Lit.wf] using hwf⟩
theorem rel_same {o : Option Nat} {a b : Nat} (ha : Rel o a) (hb : Rel o b) : (!lt a b && !lt b a) = true := by
  cases o with
  | some r =>
    rw [ha.1 r rfl, hb.1 r rfl, lt_self]; rfl
  | none =>
    have h1 := ha.2.1 rfl
    have h2 := hb.2.1 rfl
    unfold lt
    rw [h1, h2]; rfl
def sumN (zs : List Nat) : Nat → Option Nat
  | 0 => some (zs.getD 0 0)
  | k + 1 => (sumN zs k).bind fun s => floatBits .add .f64 s (zs.getD (k + 1) 0)
def sumOf (zs : List Nat) : Option Nat := if zs = [] then some 0 else sumN zs (zs.length - 1)
def SumIs (o : Option Nat) (w : World) (e : Ending) (w' : World) : Prop := ∃ v, e = .returned (.float .f64 v) ∧ Rel o v ∧ Drawn w w'
theorem getD_at (zs : List Nat) (k d : Nat) (h : k < zs.length) : zs.getD k d = zs[k] := by simp [List.getD, List.getElem?_eq_getElem h]
theorem rel_some {a : Nat} (h : a < 18446744073709551616) : Rel (some a) a := ⟨fun r hr => (by injection hr), fun hr => (by cases hr), h⟩
theorem nil_len {α : Type} {zs : List α} (h : ¬ zs = []) : 0 < zs.length := List.length_pos_iff.2 h
set_option maxHeartbeats 1600000 in
theorem RefSum_calls (A : Option Addr) (cap : Nat) (zs : List Nat) (w : World) (hr : Rd w w.heap.size A (fv zs)) (hl : zs.length ≤ 1000) (hz : F64s zs) :
    Calls Try.prog 23 #[.slice A zs.length cap] w (SumIs (sumOf zs) w) := by
  unfold sumOf
  by_cases h0 : zs = []
  · subst h0
    rw [if_pos rfl]
    go_enter Try.func23, Try.ntmps23
    go_wp2
    go_ret
    exact ⟨0, rfl, rel_some (by omega), Drawn.refl _⟩
  · rw [if_neg h0]
    have hp := nil_len h0
    obtain ⟨b, off, rfl, hb, hc⟩ := hr.spot (by intro e; apply h0; cases zs with | nil => rfl | cons a l => simp [fv] at e)
    have c0 := hc 0 (by rw [fv_len]; exact hp)
    rw [fv_at zs 0 hp, Nat.add_zero] at c0
    have HC := Lib.hid hc
    have e0 : ((zs.length : Int) == 0) = false := by rw [beq_eq_false_iff_ne]; omega
    have HS := Lib.hid (show sumN zs 0 = some zs[0] by show some (zs.getD 0 0) = _; rw [getD_at zs 0 0 hp])
    have HZ0 := Lib.hid (hz zs[0] (List.getElem_mem hp))
    clear hc h0
    go_enter Try.func23, Try.ntmps23
    go_wp2_with fail
    go_loopg [3, 4] (zs.length - 1) (fun g s k wr => ∃ (j v : Nat), k = .int .i64 (j : Int) ∧ 1 ≤ j ∧ j + g = zs.length ∧ s = .float .f64 v ∧ Rel (sumN zs (j - 1)) v ∧ Drawn w wr)
    case atStart => exact ⟨1, zs[0], rfl, by omega, by omega, rfl, by rw [HS.out]; exact rel_some HZ0.out, Drawn.refl _⟩
    case round =>
      obtain ⟨j, v, rfl, hj1, hj, rfl, hrel, q, rfl⟩ := hrel
      by_cases hlt : j < zs.length
      · have g1 : (j : Int) < (zs.length : Int) := by omega
        have hck := HC.out j (by rw [fv_len]; exact hlt)
        rw [fv_at zs j hlt] at hck
        obtain ⟨v', n, hrun, hrel'⟩ := arith_step .add (.inl rfl) Try.prog 23 _ v zs[j] (w.drewN q) hrel
        have HR := Lib.hid (show Rel (sumN zs (j + 1 - 1)) v' by
          obtain ⟨i, rfl⟩ : ∃ i, j = i + 1 := ⟨j - 1, by omega⟩
          rw [Nat.add_sub_cancel, sumN, getD_at zs (i + 1) 0 hlt]
          exact hrel')
        clear hrel hrel'
        generalize zs[j] = z at *
        go_wp2_with fail
        go_roundg (zs.length - (j + 1))
        case rel => exact ⟨j + 1, v', by go_num, by omega, by omega, rfl, HR.out, by first | exact ⟨_, rfl⟩ | exact Drawn.more ⟨q, rfl⟩ _⟩
        case measure => omega
      · have g1 : ¬ (j : Int) < (zs.length : Int) := by omega
        obtain rfl : j = zs.length := by omega
        go_wp2_with fail
        go_ret
        exact ⟨v, rfl, hrel, _, rfl⟩
set_option maxHeartbeats 1600000 in
theorem Sum_calls (A : Option Addr) (cap : Nat) (zs : List Nat) (w : World) (hr : Rd w w.heap.size A (fv zs)) (hl : zs.length ≤ 1000) (hcap : zs.length ≤ cap) (hcm : cap ≤ maxLen) (hz : F64s zs) :
    Calls Try.prog 22 #[.slice A zs.length cap] w (SumIs (sumOf zs) w) := by
  unfold maxLen at hcm
  unfold sumOf
  by_cases h0 : zs = []
  · subst h0
    rw [if_pos rfl]
    go_enter Try.func22, Try.ntmps22
    go_wp2
    go_ret
    exact ⟨0, rfl, rel_some (by omega), Drawn.refl _⟩
  · rw [if_neg h0]
    have hp := nil_len h0
    obtain ⟨b, off, rfl, hb, hc⟩ := hr.spot (by intro e; apply h0; cases zs with | nil => rfl | cons a l => simp [fv] at e)
    have c0 := hc 0 (by rw [fv_len]; exact hp)
    rw [fv_at zs 0 hp, Nat.add_zero] at c0
    have HC := Lib.hid hc
    have e0 : ((zs.length : Int) == 0) = false := by rw [beq_eq_false_iff_ne]; omega
    have HS := Lib.hid (show sumN zs 0 = some zs[0] by show some (zs.getD 0 0) = _; rw [getD_at zs 0 0 hp])
    have HZ0 := Lib.hid (hz zs[0] (List.getElem_mem hp))
    clear hc h0
    go_enter Try.func22, Try.ntmps22
    go_wp2_with fail
    all_goals
      go_loopg [3, 15] (zs.length - 1) (fun g s k wr => ∃ (j v : Nat), k = .int .i64 (j : Int) ∧ j + g = zs.length - 1 ∧ s = .float .f64 v ∧ Rel (sumN zs j) v ∧ Drawn w wr)
      case atStart => exact ⟨0, zs[0], rfl, by omega, rfl, by rw [HS.out]; exact rel_some HZ0.out, Drawn.refl _⟩
      case round =>
        obtain ⟨j, v, rfl, hj, rfl, hrel, q, rfl⟩ := hrel
        have hL : ((zs.length - 1 : Nat) : Int) = (zs.length : Int) - 1 := by omega
        by_cases hlt : j + 1 < zs.length
        · have g1 : (j : Int) < ((zs.length - 1 : Nat) : Int) := by omega
          have hck := HC.out (j + 1) (by rw [fv_len]; exact hlt)
          rw [fv_at zs (j + 1) hlt, show off + (j + 1) = off + 1 + j by omega] at hck
          obtain ⟨v', n, hrun, hrel'⟩ := arith_step .add (.inl rfl) Try.prog 23 _ v zs[j + 1] (w.drewN q) hrel
          have HR := Lib.hid (show Rel (sumN zs (j + 1)) v' by
            rw [sumN, getD_at zs (j + 1) 0 hlt]
            exact hrel')
          clear hrel hrel' hL
          first
          | (exfalso; omega)
          | (generalize zs[j + 1] = z at *
             go_wp2_with fail
             go_roundg (zs.length - 1 - (j + 1))
             case rel => exact ⟨j + 1, v', by go_num, by omega, rfl, HR.out, by first | exact ⟨_, rfl⟩ | exact Drawn.more ⟨q, rfl⟩ _⟩
             case measure => omega)
        · have g1 : ¬ (j : Int) < ((zs.length - 1 : Nat) : Int) := by omega
          obtain rfl : j = zs.length - 1 := by omega
          clear hL
          go_wp2_with fail
          go_ret
          exact ⟨v, rfl, hrel, _, rfl⟩
theorem rel_lt {o : Option Nat} {v : Nat} (h : Rel o v) : v < 18446744073709551616 := h.2.2
def meanOf (zs : List Nat) : Option Nat := (sumOf zs).bind fun s => floatBits .quo .f64 s (floatOfInt .f64 (zs.length : Int))
def MeanIs (zs : List Nat) (w : World) (e : Ending) (w' : World) : Prop := ∃ v, e = .returned (.float .f64 v) ∧ (if zs = [] then v = 9221120237041090561 else Rel (meanOf zs) v) ∧ Drawn w w'
set_option maxHeartbeats 800000 in
theorem Mean_calls (A : Option Addr) (cap : Nat) (zs : List Nat) (w : World) (hr : Rd w w.heap.size A (fv zs)) (hl : zs.length ≤ 1000) (hcap : zs.length ≤ cap) (hcm : cap ≤ maxLen) (hz : F64s zs) :
    Calls Try.prog 24 #[.slice A zs.length cap] w (MeanIs zs w) := by
  have k1 := Lib.hid (Sum_calls A cap zs w hr hl hcap hcm hz)
  by_cases h0 : zs = []
  · have e0 : ((zs.length : Int) == 0) = true := by rw [h0]; rfl
    have H0 := Lib.hid h0
    have ez : zs.length = 0 := by rw [h0]; rfl
    clear h0 k1 hr
    go_enter Try.func24, Try.ntmps24
    go_wp2_with (go_at_call 30; (with_reducible refine (none_calls _).mono ?_); rintro e w' ⟨rfl, q, rfl⟩)
    go_ret
    exact ⟨_, rfl, by rw [if_pos H0.out], _, rfl⟩
  · have hp := nil_len h0
    have e0 : ((zs.length : Int) == 0) = false := by rw [beq_eq_false_iff_ne]; omega
    have H0 := Lib.hid h0
    clear h0
    go_enter Try.func24, Try.ntmps24
    go_wp2_with fail
    refine k1.out.mono ?_
    rintro e w' ⟨v, rfl, hrel, q, rfl⟩
    obtain ⟨v', n, hrun, hrel'⟩ := arith_step .quo (.inr rfl) Try.prog 23 _ v (floatOfInt .f64 (zs.length : Int)) (w.drewN q) hrel
    have HR := Lib.hid hrel'
    clear hrel hrel' hr
    go_wp2_with fail
    go_ret
    exact ⟨v', rfl, by rw [if_neg H0.out]; exact HR.out, by first | exact ⟨_, rfl⟩ | exact Drawn.more ⟨q, rfl⟩ _⟩
set_option maxHeartbeats 800000 in
theorem RefMean_calls (A : Option Addr) (cap : Nat) (zs : List Nat) (w : World) (hr : Rd w w.heap.size A (fv zs)) (hl : zs.length ≤ 1000) (hz : F64s zs) :
    Calls Try.prog 25 #[.slice A zs.length cap] w (MeanIs zs w) := by
  have k1 := Lib.hid (RefSum_calls A cap zs w hr hl hz)
  by_cases h0 : zs = []
  · have e0 : ((zs.length : Int) == 0) = true := by rw [h0]; rfl
    have H0 := Lib.hid h0
    have ez : zs.length = 0 := by rw [h0]; rfl
    clear h0 k1 hr
    go_enter Try.func25, Try.ntmps25
    go_wp2_with (go_at_call 30; (with_reducible refine (none_calls _).mono ?_); rintro e w' ⟨rfl, q, rfl⟩)
    go_ret
    exact ⟨_, rfl, by rw [if_pos H0.out], _, rfl⟩
  · have hp := nil_len h0
    have e0 : ((zs.length : Int) == 0) = false := by rw [beq_eq_false_iff_ne]; omega
    have H0 := Lib.hid h0
    clear h0
    go_enter Try.func25, Try.ntmps25
    go_wp2_with fail
    refine k1.out.mono ?_
    rintro e w' ⟨v, rfl, hrel, q, rfl⟩
    obtain ⟨v', n, hrun, hrel'⟩ := arith_step .quo (.inr rfl) Try.prog 23 _ v (floatOfInt .f64 (zs.length : Int)) (w.drewN q) hrel
    have HR := Lib.hid hrel'
    clear hrel hrel' hr
    go_wp2_with fail
    go_ret
    exact ⟨v', rfl, by rw [if_neg H0.out]; exact HR.out, by first | exact ⟨_, rfl⟩ | exact Drawn.more ⟨q, rfl⟩ _⟩
end Go.Proofs.Ytaofmapbecgegaa.Fl
