/- Arenas: what they have, by plain mathematics. -/
import Derived.Test.YtjaohiakpajgkaaArnE
namespace Go.Proofs.Ytjaohiakpajgkaa.Sim
open Go.RowKit
set_option maxRecDepth 100000
set_option linter.unusedSimpArgs false
set_option linter.unusedVariables false
/-- All slots, also those that were never taken. -/
def pad (n : Nat) (s : List Sl) : List Sl := s ++ List.replicate (n - s.length) (0, 0, false)
theorem pad_len {n : Nat} {s : List Sl} (h : s.length ≤ n) : (pad n s).length = n := by simp [pad]; omega
theorem pad_get {n : Nat} {s : List Sl} {i : Nat} (h : i < s.length) : (pad n s)[i]? = s[i]? := by unfold pad; rw [List.getElem?_append_left h]
theorem pad_out {n : Nat} {s : List Sl} {i : Nat} (h : s.length ≤ i) {x : Sl} (hx : (pad n s)[i]? = some x) : x = (0, 0, false) := by
  unfold pad at hx
  rw [List.getElem?_append_right h, List.getElem?_replicate] at hx
  split at hx
  · cases hx; rfl
  · cases hx
theorem pad_new {n : Nat} {s : List Sl} (h : s.length < n) : (pad n s)[s.length]? = some (0, 0, false) := by
  unfold pad
  rw [List.getElem?_append_right (Nat.le_refl _), List.getElem?_replicate, if_pos (by omega)]
theorem pad_fnd (n : Nat) (s : List Sl) (r : Int) : fnd (pad n s) r = fnd s r := by
  unfold fnd
  by_cases h : (slotN r - 1).toNat < s.length
  · rw [pad_get h]
  · rw [List.getElem?_eq_none (l := s) (by omega)]
    cases hx : (pad n s)[(slotN r - 1).toNat]? with
    | none => rfl
    | some x =>
      obtain rfl := pad_out (by omega) hx
      simp
theorem pad_set {n : Nat} {s : List Sl} {i : Nat} (h : i < s.length) (x : Sl) : (pad n s).set i x = pad n (s.set i x) := by
  unfold pad; rw [List.set_append_left _ _ h, List.length_set]
theorem pad_snoc {n : Nat} {s : List Sl} (h : s.length < n) (x : Sl) : (pad n s).set s.length x = pad n (s ++ [x]) := by
  unfold pad
  obtain ⟨k, hk⟩ : ∃ k, n - s.length = k + 1 := ⟨n - s.length - 1, by omega⟩
  rw [hk, List.set_append_right _ _ (Nat.le_refl _), Nat.sub_self, List.replicate_succ, List.set_cons_zero, List.append_assoc]
  simp only [List.length_append, List.length_cons, List.length_nil, List.cons_append, List.nil_append]
  rw [show n - (s.length + (0 + 1)) = k by omega]
def cnt (s : List Sl) : Nat := s.countP fun x => x.2.2
theorem cnt_set : ∀ {s : List Sl} {i : Nat} {x y : Sl}, s[i]? = some x → cnt (s.set i y) + (if x.2.2 then 1 else 0) = cnt s + (if y.2.2 then 1 else 0)
  | [], i, x, y, h => by simp at h
  | a :: s, 0, x, y, h => by
    simp at h; subst h
    simp only [cnt, List.set_cons_zero, List.countP_cons]; omega
  | a :: s, i + 1, x, y, h => by
    have := cnt_set (s := s) (i := i) (x := x) (y := y) (by simpa using h)
    simp only [cnt, List.set_cons_succ, List.countP_cons] at this ⊢; omega
theorem cnt_snoc {s : List Sl} {x : Sl} : cnt (s ++ [x]) = cnt s + (if x.2.2 then 1 else 0) := by
  simp [cnt, List.countP_append, List.countP_cons]
theorem cnt_le (s : List Sl) : cnt s ≤ s.length := List.countP_le_length
theorem upR_cnt (s : List Sl) : ∀ k, k ≤ s.length → (upR s k).length = cnt (s.take k)
  | 0, _ => by simp [upR_zero, cnt]
  | k + 1, h => by
    have hx := List.getElem?_eq_getElem (show k < s.length by omega)
    rw [upR_succ hx, List.take_succ_eq_append_getElem (by omega), cnt_snoc, List.length_append, upR_cnt s k (by omega)]
    split <;> rfl
theorem upR_len' (s : List Sl) : (upR s s.length).length = cnt s := by rw [upR_cnt s s.length (Nat.le_refl _), List.take_length]
theorem upR_pad (n : Nat) (s : List Sl) (h : s.length ≤ n) : upR (pad n s) n = upR s s.length := by
  have h1 : ∀ k, k ≤ s.length → upR (pad n s) k = upR s k := fun k => by
    induction k with
    | zero => intro _; rfl
    | succ k ih =>
      intro hk
      have hx := List.getElem?_eq_getElem (show k < s.length by omega)
      rw [upR_succ hx, upR_succ ((pad_get (by omega)).trans hx), ih (by omega)]
  have h2 : ∀ d, s.length + d ≤ n → upR (pad n s) (s.length + d) = upR s s.length := fun d => by
    induction d with
    | zero => intro _; exact h1 _ (Nat.le_refl _)
    | succ d ih =>
      intro hd
      have hl : s.length + d < (pad n s).length := by rw [pad_len h]; omega
      have hx := List.getElem?_eq_getElem hl
      have := pad_out (by omega) hx
      rw [← Nat.add_assoc, upR_succ hx, this, ih (by omega)]
      simp
  have := h2 (n - s.length) (by omega)
  rwa [show s.length + (n - s.length) = n by omega] at this
/-- What an arena has: nothing yet; slots, of which none was freed yet; slots, and those that were freed. -/
inductive Sh where
  | A
  | B (s : List Sl)
  | C (s : List Sl) (f : List Nat) (k : Nat)
def Sh.s : Sh → List Sl
  | .A => []
  | .B s => s
  | .C s _ _ => s
def Sh.fr : Sh → List Nat
  | .A => []
  | .B _ => []
  | .C _ f k => f.take k
def Sh.ok (c : Nat) : Sh → Prop
  | .C _ f k => k ≤ f.length ∧ f.length ≤ c
  | _ => True
/-- Slots, and those that were freed, go together. -/
structure Inv (n c : Nat) (s : List Sl) (fr : List Nat) : Prop where
  len : s.length ≤ n
  inc : ∀ (i : Nat) (x : Sl), s[i]? = some x → 1 ≤ x.2.1 ∧ x.2.1 ≤ c
  off : ∀ i ∈ fr, ∃ x, s[i]? = some x ∧ x.2.2 = false
  nd : fr.Nodup
  cn : cnt s + fr.length = s.length
theorem Inv.mono {n c c' : Nat} {s : List Sl} {fr : List Nat} (h : Inv n c s fr) (hc : c ≤ c') : Inv n c' s fr :=
  ⟨h.len, fun i x hx => ⟨(h.inc i x hx).1, Nat.le_trans (h.inc i x hx).2 hc⟩, h.off, h.nd, h.cn⟩
theorem Inv.new {n c : Nat} {s : List Sl} (h : Inv n c s []) (hs : s.length < n) (v : Int) (hc : 1 ≤ c) : Inv n c (s ++ [(v, 1, true)]) [] := by
  refine ⟨by simp; omega, fun i x hx => ?_, fun i hi => (by cases hi), List.nodup_nil, by rw [cnt_snoc]; have := h.cn; simp at this ⊢; omega⟩
  by_cases hi : i < s.length
  · rw [List.getElem?_append_left hi] at hx; exact h.inc i x hx
  · rw [List.getElem?_append_right (by omega)] at hx
    cases hq : i - s.length with
    | zero => rw [hq] at hx; simp at hx; subst hx; exact ⟨Nat.le_refl _, hc⟩
    | succ q => rw [hq] at hx; simp at hx
theorem set_get {s : List Sl} {i j : Nat} {x y : Sl} (h : (s.set i y)[j]? = some x) : (i = j ∧ x = y ∧ i < s.length) ∨ (i ≠ j ∧ s[j]? = some x) := by
  rw [List.getElem?_set] at h
  split at h
  · rename_i e; split at h
    · cases h; exact .inl ⟨e, rfl, by omega⟩
    · cases h
  · exact .inr ⟨by assumption, h⟩
theorem Inv.pop {n c : Nat} {s : List Sl} {fr : List Nat} {i : Nat} (h : Inv n c s (fr ++ [i])) {x : Sl} (hx : s[i]? = some x) (v : Int) : Inv n (c + 1) (s.set i (v, x.2.1 + 1, true)) fr := by
  have hnd := List.nodup_append.1 h.nd
  have hni : i ∉ fr := fun hi => hnd.2.2 i hi i (by simp) rfl
  refine ⟨by simpa using h.len, fun j y hy => ?_, fun j hj => ?_, hnd.1, ?_⟩
  · rcases set_get hy with ⟨_, rfl, _⟩ | ⟨_, hy⟩
    · have := h.inc i x hx; exact ⟨by simp, by simp; omega⟩
    · have := h.inc j y hy; omega
  · obtain ⟨y, h1, h2⟩ := h.off j (by simp [hj])
    have : i ≠ j := fun e => hni (by rw [e]; exact hj)
    exact ⟨y, by rw [List.getElem?_set, if_neg this]; exact h1, h2⟩
  · obtain ⟨y, h1, h2⟩ := h.off i (by simp)
    rw [hx] at h1; cases h1
    have h3 := cnt_set (y := (v, x.2.1 + 1, true)) hx
    have h4 := h.cn
    rw [h2] at h3
    simp at h3 h4 ⊢; omega
theorem Inv.put {n c : Nat} {s : List Sl} {fr : List Nat} {i : Nat} (h : Inv n c s fr) {x : Sl} (hx : s[i]? = some x) (ht : x.2.2 = true) : Inv n c (s.set i (0, x.2.1, false)) (fr ++ [i]) := by
  have hni : i ∉ fr := fun hi => by
    obtain ⟨y, h1, h2⟩ := h.off i hi
    rw [hx] at h1; cases h1; rw [ht] at h2; cases h2
  obtain ⟨hil, _⟩ := List.getElem?_eq_some_iff.1 hx
  refine ⟨by simpa using h.len, fun j y hy => ?_, fun j hj => ?_, ?_, ?_⟩
  · rcases set_get hy with ⟨_, rfl, _⟩ | ⟨_, hy⟩
    · exact h.inc i x hx
    · exact h.inc j y hy
  · by_cases e : i = j
    · subst e; exact ⟨(0, x.2.1, false), by simp [hil], rfl⟩
    · have hj : j ∈ fr := by
        rcases List.mem_append.1 hj with hj | hj
        · exact hj
        · exact absurd (List.mem_singleton.1 hj).symm e
      obtain ⟨y, h1, h2⟩ := h.off j hj
      exact ⟨y, by rw [List.getElem?_set, if_neg e]; exact h1, h2⟩
  · rw [List.nodup_append]
    exact ⟨h.nd, by simp, fun a ha b hb e => by simp at hb; subst hb; subst e; exact hni ha⟩
  · have h3 := cnt_set (y := (0, x.2.1, false)) hx
    have h4 := h.cn
    rw [ht] at h3
    simp at h3 ⊢; omega
theorem Inv.val {n c : Nat} {s : List Sl} {fr : List Nat} {i : Nat} (h : Inv n c s fr) {x : Sl} (hx : s[i]? = some x) (v : Int) : Inv n c (s.set i (v, x.2)) fr := by
  refine ⟨by simpa using h.len, fun j y hy => ?_, fun j hj => ?_, h.nd, ?_⟩
  · rcases set_get hy with ⟨_, rfl, _⟩ | ⟨_, hy⟩
    · exact h.inc i x hx
    · exact h.inc j y hy
  · obtain ⟨y, h1, h2⟩ := h.off j hj
    by_cases e : i = j
    · subst e
      rw [hx] at h1; cases h1
      obtain ⟨hil, _⟩ := List.getElem?_eq_some_iff.1 hx
      exact ⟨(v, x.2), by simp [hil], h2⟩
    · exact ⟨y, by rw [List.getElem?_set, if_neg e]; exact h1, h2⟩
  · have h3 := cnt_set (y := (v, x.2)) hx
    have h4 := h.cn
    simp at h3 ⊢; omega
theorem take_last {f : List Nat} {k : Nat} (h : k < f.length) : f.take (k + 1) = f.take k ++ [f[k]] := List.take_succ_eq_append_getElem h
theorem Inv.incs {n c : Nat} {s : List Sl} {fr : List Nat} (h : Inv n c s fr) (hc : c ≤ 1000000) : incs s := fun i x hx _ => ⟨(h.inc i x hx).1, by have := (h.inc i x hx).2; omega⟩
theorem pad_incs {n : Nat} {s : List Sl} (h : incs s) : incs (pad n s) := fun i x hx ht => by
  by_cases hi : i < s.length
  · rw [pad_get hi] at hx; exact h i x hx ht
  · obtain rfl := pad_out (by omega) hx; cases ht
theorem pad_pos {n c : Nat} {s : List Sl} {fr : List Nat} (h : Inv n c s fr) (i : Nat) (x : Sl) (hi : i < s.length) (hx : (pad n s)[i]? = some x) : ¬ x.2.1 = 0 := by
  rw [pad_get hi] at hx; have := (h.inc i x hx).1; omega
theorem fnd_at {s : List Sl} {r : Int} {i : Nat} (h : fnd s r = some i) : ∃ x, s[i]? = some x ∧ x.2.2 = true := by
  obtain ⟨hi, _, ht, _⟩ := fnd_lt h
  exact ⟨s[i], List.getElem?_eq_getElem hi, ht⟩
end Go.Proofs.Ytjaohiakpajgkaa.Sim
