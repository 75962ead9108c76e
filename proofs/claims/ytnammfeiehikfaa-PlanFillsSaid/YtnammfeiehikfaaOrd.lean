/- Contracts of the order functions: the program's and the document's answer. -/
import Derived.Test.YtnammfeiehikfaaOrdPlain
import Derived.Test.YtnammfeiehikfaaLib
namespace Go.Proofs.Ytnammfeiehikfaa.Ord
open Go.RowKit
set_option linter.unusedVariables false

theorem com_of (a b : ByteArray) (k : Nat) (ha : k ≤ a.size) (hb : k ≤ b.size) (h : ∀ j (h1 : j < a.size) (h2 : j < b.size), j < k → a[j] = b[j])
    (hn : (∀ (h1 : k < a.size) (h2 : k < b.size), a[k] ≠ b[k])) : com a.data.toList b.data.toList = k := by
  have e1 : a.data.toList.length = a.size := by simp
  have e2 : b.data.toList.length = b.size := by simp
  apply com_eq
  · intro j hj
    have h1 : j < a.size := by omega
    have h2 : j < b.size := by omega
    have := h j h1 h2 hj
    rw [List.getElem?_eq_getElem (by omega), List.getElem?_eq_getElem (by omega)]
    simpa [← ByteArray.getElem_eq_getElem_data] using this
  · omega
  · omega
  · by_cases h1 : k < a.size
    · by_cases h2 : k < b.size
      · left
        have := hn h1 h2
        rw [List.getElem?_eq_getElem (by omega), List.getElem?_eq_getElem (by omega)]
        intro hh; injection hh with hh
        exact this (by simpa [ByteArray.getElem_eq_getElem_data] using hh)
      · right; right; omega
    · right; left; omega

/-- The first k bytes are the same. -/
def Same (a b : ByteArray) (k : Nat) : Prop := k ≤ a.size ∧ k ≤ b.size ∧ ∀ j (h1 : j < a.size) (h2 : j < b.size), j < k → a[j] = b[j]
theorem Same.zero (a b : ByteArray) : Same a b 0 := ⟨by omega, by omega, fun j _ _ h => by omega⟩
theorem Same.succ {a b : ByteArray} {k : Nat} (h : Same a b k) (h1 : k < a.size) (h2 : k < b.size) (e : ((a[k].toNat : Int) != (b[k].toNat : Int)) = false) : Same a b (k + 1) := by
  refine ⟨by omega, by omega, fun j h3 h4 hj => ?_⟩
  by_cases hjk : j = k
  · subst hjk
    apply UInt8.toNat_inj.1
    simp at e
    exact_mod_cast e
  · exact h.2.2 j h3 h4 (by omega)
theorem Same.com_ne {a b : ByteArray} {k : Nat} (h : Same a b k) (h1 : k < a.size) (h2 : k < b.size) (e : ((a[k].toNat : Int) != (b[k].toNat : Int)) = true) : com a.data.toList b.data.toList = k :=
  com_of a b k h.1 h.2.1 h.2.2 (fun _ _ hh => by simp [hh] at e)
theorem Same.com_end {a b : ByteArray} {k : Nat} (h : Same a b k) (hn : ¬(k < a.size ∧ k < b.size)) : com a.data.toList b.data.toList = k :=
  com_of a b k h.1 h.2.1 h.2.2 (fun h1 h2 => absurd ⟨h1, h2⟩ hn)
set_option maxHeartbeats 400000 in
theorem Common_calls (a b : ByteArray) (w : World) (ha : a.size ≤ maxLen) (hb : b.size ≤ maxLen) :
    Calls Try.prog 69 #[.string a, .string b] w (Quiet (.int .i64 (com a.data.toList b.data.toList)) w) := by
  unfold maxLen at ha hb
  go_enter Try.func69, Try.ntmps69
  go_wp2
  all_goals
    go_loopw [11] (fun i wr => ∃ k : Nat, i = .int .i64 k ∧ Same a b k ∧ Drawn w wr) (fun i _ => a.size - (intOf i).toNat)
    case atStart => exact ⟨0, rfl, Same.zero a b, Drawn.refl w⟩
    case round =>
      obtain ⟨k, rfl, hk, n, rfl⟩ := hrel
      have hk1 := hk.1
      have hk2 := hk.2.1
      by_cases hlt : k < a.size ∧ k < b.size
      · obtain ⟨hlt1, hlt2⟩ := hlt
        have g1 : (k : Int) < (a.size : Int) := by omega
        have g2 : (k : Int) < (b.size : Int) := by omega
        go_wp2
        go_quiet (fail)
        go_wp2
        · go_ret
          refine ⟨ret_int ?_, (Drawn.more ⟨n, rfl⟩ _)⟩
          rw [hk.com_ne hlt1 hlt2 (by assumption)]
        · go_roundw
          case rel => exact ⟨k + 1, by go_num, hk.succ hlt1 hlt2 (by assumption), _, rfl⟩
          case measure => simp [intOf]; omega
      · go_wp2
        go_ret
        refine ⟨ret_int ?_, ⟨n, rfl⟩⟩
        rw [hk.com_end hlt]; omega

theorem cmp_at {a b : ByteArray} {n : Nat} {c : Int} (h1 : n < a.size) (h2 : n < b.size) (h : c = if n = a.data.toList.length then (if n = b.data.toList.length then 0 else -1) else if n = b.data.toList.length then 1 else if (a.data.toList.getD n 0) < (b.data.toList.getD n 0) then -1 else 1) :
    c = if (a[n].toNat : Int) < (b[n].toNat : Int) then -1 else 1 := by
  have e1 : a.data.toList.length = a.size := by simp
  have e2 : b.data.toList.length = b.size := by simp
  rw [h, if_neg (by omega), if_neg (by omega)]
  have g1 : a.data.toList.getD n 0 = a[n] := by rw [List.getD_eq_getElem?_getD, List.getElem?_eq_getElem (by omega)]; simp [← ByteArray.getElem_eq_getElem_data]
  have g2 : b.data.toList.getD n 0 = b[n] := by rw [List.getD_eq_getElem?_getD, List.getElem?_eq_getElem (by omega)]; simp [← ByteArray.getElem_eq_getElem_data]
  rw [g1, g2]
  simp [UInt8.lt_iff_toNat_lt]

set_option maxHeartbeats 400000 in
theorem Compare_calls (a b : ByteArray) (w : World) (ha : a.size ≤ maxLen) (hb : b.size ≤ maxLen) :
    Calls Try.prog 60 #[.string a, .string b] w (Quiet (.int .i64 (cmp a.data.toList b.data.toList)) w) := by
  have hc := Common_calls a b w ha hb
  have h1 := com_le_left a.data.toList b.data.toList
  have h2 := com_le_right a.data.toList b.data.toList
  have h3 := cmp_com a.data.toList b.data.toList
  unfold maxLen at ha hb
  generalize com a.data.toList b.data.toList = n at *
  generalize hcmp : cmp a.data.toList b.data.toList = c at *
  have Hc := Lib.hid hc
  have H3 := Lib.hid h3
  clear hc h3 hcmp
  simp at h1 h2
  go_enter Try.func60, Try.ntmps60
  go_wp2_with fail
  refine (Hc.out).mono ?_
  rintro e w' ⟨rfl, q, rfl⟩
  by_cases ca : n = a.size
  · subst ca
    by_cases cb : a.size = b.size
    · have H4 : Hid (c = 0) := hide (by rw [H3.out]; simp [← cb])
      go_wp2
      go_ret
      exact ⟨ret_int (by rw [H4.out]), Drawn.more (Drawn.refl _) _⟩
    · have e1 : ((a.size : Int) == (b.size : Int)) = false := by simp; omega
      have H4 : Hid (c = -1) := hide (by rw [H3.out]; simp [cb])
      go_wp2
      go_ret
      exact ⟨ret_int (by rw [H4.out]), Drawn.more (Drawn.refl _) _⟩
  · by_cases cb : n = b.size
    · subst cb
      have e1 : ((b.size : Int) == (a.size : Int)) = false := by simp; omega
      have H4 : Hid (c = 1) := hide (by rw [H3.out]; simp [ca])
      go_wp2
      go_ret
      exact ⟨ret_int (by rw [H4.out]), Drawn.more (Drawn.refl _) _⟩
    · have e1 : ((n : Int) == (a.size : Int)) = false := by simp; omega
      have e2 : ((n : Int) == (b.size : Int)) = false := by simp; omega
      have l1 : n < a.size := by omega
      have l2 : n < b.size := by omega
      have g1 : (n : Int) < (a.size : Int) := by omega
      have g2 : (n : Int) < (b.size : Int) := by omega
      have H4 := Lib.hid (cmp_at l1 l2 H3.out)
      go_wp2
      go_quiet (fail)
      go_wp2
      · go_ret
        have h : a[n].toNat < b[n].toNat := by assumption
        exact ⟨ret_int (by rw [H4.out, if_pos (by omega)]), Drawn.more (Drawn.more (Drawn.refl _) _) _⟩
      · go_ret
        have h : ¬ a[n].toNat < b[n].toNat := by assumption
        exact ⟨ret_int (by rw [H4.out, if_neg (by omega)]), Drawn.more (Drawn.more (Drawn.refl _) _) _⟩

theorem bool_congr (p q : Prop) [Decidable p] [Decidable q] (h : p ↔ q) : decide p = decide q := by simp [h]

theorem eq_of_bne {x y : UInt8} (h : ((x.toNat : Int) != (y.toNat : Int)) = false) : x = y := by
  apply UInt8.toNat_inj.1
  simp at h
  exact_mod_cast h
theorem less_ne {a b : ByteArray} {k : Nat} (h : Same a b k) (h1 : k < a.size) (h2 : k < b.size) (e : ((a[k].toNat : Int) != (b[k].toNat : Int)) = true) : decide ((a[k].toNat : Int) < (b[k].toNat : Int)) = less a.data.toList b.data.toList := by
  have hc := h.com_ne h1 h2 e
  have h3 := cmp_com a.data.toList b.data.toList
  rw [hc] at h3
  have h4 := cmp_at h1 h2 h3
  unfold less
  rw [h4]
  by_cases hl : (a[k].toNat : Int) < (b[k].toNat : Int)
  · simp [hl]
  · simp [hl]
theorem less_end {a b : ByteArray} {k : Nat} (h : Same a b k) (hn : ¬(k < a.size ∧ k < b.size)) : decide (a.size < b.size) = less a.data.toList b.data.toList := by
  have hc := h.com_end hn
  have h3 := cmp_com a.data.toList b.data.toList
  rw [hc] at h3
  have e1 : a.data.toList.length = a.size := by simp
  have e2 : b.data.toList.length = b.size := by simp
  have := h.1
  have := h.2.1
  unfold less
  rw [h3, e1, e2]
  by_cases c1 : k = a.size
  · by_cases c2 : k = b.size
    · rw [if_pos c1, if_pos c2]; simp; omega
    · rw [if_pos c1, if_neg c2]; simp; omega
  · rw [if_neg c1, if_pos (by omega)]; simp; omega

set_option maxHeartbeats 400000 in
theorem RefLess_calls (a b : ByteArray) (w : World) (ha : a.size ≤ maxLen) (hb : b.size ≤ maxLen) :
    Calls Try.prog 64 #[.string a, .string b] w (Quiet (.bool (less a.data.toList b.data.toList)) w) := by
  unfold maxLen at ha hb
  go_enter Try.func64, Try.ntmps64
  go_wp2
  go_loopw [5] (fun i wr => ∃ k : Nat, i = .int .i64 k ∧ Same a b k ∧ Drawn w wr) (fun i _ => a.size - (intOf i).toNat)
  case atStart => exact ⟨0, rfl, Same.zero a b, Drawn.refl w⟩
  case round =>
    obtain ⟨k, rfl, hk, n, rfl⟩ := hrel
    have hk1 := hk.1
    have hk2 := hk.2.1
    by_cases hlt : k < a.size ∧ k < b.size
    · obtain ⟨hlt1, hlt2⟩ := hlt
      have g1 : (k : Int) < (a.size : Int) := by omega
      have g2 : (k : Int) < (b.size : Int) := by omega
      go_wp2
      go_quiet (fail)
      go_wp2
      · have H := hide (less_ne hk hlt1 hlt2 (by assumption))
        go_quiet (fail)
        go_wp2
        go_ret
        exact ⟨ret_bool (by rw [← H.out]; simp), Drawn.more (Drawn.more ⟨n, rfl⟩ _) _⟩
      · have H := hide (hk.succ hlt1 hlt2 (by assumption))
        go_roundw
        case rel => exact ⟨k + 1, by go_num, H.out, _, rfl⟩
        case measure => simp [intOf]; omega
    · have H := hide (less_end hk hlt)
      by_cases hlt1 : k < a.size
      · have hlt2 : ¬ k < b.size := fun h => hlt ⟨hlt1, h⟩
        go_wp2
        go_ret
        exact ⟨ret_bool (by rw [← H.out]), ⟨n, rfl⟩⟩
      · go_wp2
        go_ret
        exact ⟨ret_bool (by rw [← H.out]), ⟨n, rfl⟩⟩

theorem extract_ge (a : ByteArray) (n : Nat) (h : a.size ≤ n) : a = a.extract 0 n := by
  apply ByteArray.ext
  rw [ByteArray.data_extract]
  have : a.data.size = a.size := rfl
  exact (Array.extract_eq_self_of_le (by omega)).symm

set_option maxHeartbeats 400000 in
theorem Cut_calls (a : ByteArray) (n : Nat) (w : World) (ha : a.size ≤ maxLen) (hn : n ≤ 10000) :
    Calls Try.prog 24 #[.string a, .int .i64 n] w (Quiet (.string (a.extract 0 n)) w) := by
  unfold maxLen at ha
  by_cases h : a.size ≤ n
  · have H := hide (extract_ge a n h)
    go_enter Try.func24, Try.ntmps24
    go_wp2
    all_goals
      go_ret
      refine ⟨ret_str ?_, Drawn.refl _⟩
      first | exact H.out | rfl
  · go_enter Try.func24, Try.ntmps24
    go_wp2
    all_goals
      go_ret
      exact ⟨rfl, Drawn.refl _⟩

/-- What Middle answers. -/
def mid (a b : ByteArray) : ByteArray × Bool := if cmp a.data.toList b.data.toList < 0 then (b.extract 0 (com a.data.toList b.data.toList + 1), true) else (⟨#[]⟩, false)

theorem extract_list (a : ByteArray) (n : Nat) : (a.extract 0 n).data.toList = a.data.toList.take n := by
  simp
theorem ext_list {a b : ByteArray} (h : a.data.toList = b.data.toList) : a = b := by
  apply ByteArray.ext; apply Array.ext'; exact h

end Go.Proofs.Ytnammfeiehikfaa.Ord
