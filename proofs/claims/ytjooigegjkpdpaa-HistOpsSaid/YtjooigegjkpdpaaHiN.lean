/- Histories: going over what is open, in any order. -/
import Derived.Test.YtjooigegjkpdpaaHiG
import Derived.Test.YtjooigegjkpdpaaHiL
import Derived.Test.YtjooigegjkpdpaaHiM
namespace Go.Proofs.Ytjooigegjkpdpaa.Sim
open Go.RowKit
set_option linter.unusedVariables false
set_option linter.unusedSimpArgs false
namespace Hi
/-- The stamps of what is open. -/
structure Stm (k : Nat) (s : S) : Prop where
  lt : ∀ p ∈ s.m, p.2.2 < s.clk
  nd : (s.m.map (·.2.2)).Nodup
  ln : s.m.length ≤ k
theorem Stm.stp {n k : Nat} {s s' : S} {e : Ev} (h : Stm k s) (hs : Hi.stp n k s e = .ok s') : Stm (k + 1) s' := by
  unfold Hi.stp at hs
  split at hs
  · cases hs
  · split at hs
    · split at hs
      · split at hs
        · cases hs
          refine ⟨fun p hp => h.lt p (List.mem_of_mem_eraseP hp), h.nd.sublist (List.eraseP_sublist.map _), ?_⟩
          have := List.eraseP_sublist (p := fun p : Int × Nat × Nat => decide (p.1 = e.t)) (l := s.m) |>.length_le
          have := h.ln
          dsimp only; omega
        · cases hs
      · cases hs
    · split at hs
      · cases hs
        refine ⟨fun p hp => ?_, ?_, by have := h.ln; simp; omega⟩
        · rcases List.mem_append.1 hp with hp | hp
          · have := h.lt p hp; dsimp only; omega
          · simp at hp; subst hp; dsimp only; omega
        · simp only [List.map_append, List.map_cons, List.map_nil]
          rw [List.nodup_append]
          refine ⟨h.nd, by simp, fun a ha b hb hab => ?_⟩
          simp at hb
          subst hb; subst hab
          obtain ⟨p, hp, e⟩ := List.mem_map.1 ha
          have := h.lt p hp
          omega
      · cases hs
theorem ent_stm {n : Nat} : ∀ {r : List Ev} {k : Nat} {s s' : S}, Stm k s → ent n k s r = .ok s' → Stm (k + r.length) s'
  | [], k, s, s', h, he => by cases he; exact h
  | e :: r, k, s, s', h, he => by
    simp only [ent] at he
    split at he
    · rename_i s1 hs
      have := ent_stm (h.stp hs) he
      rwa [show k + 1 + r.length = k + (e :: r).length by simp; omega] at this
    · cases he
theorem Stm.zero : Stm 0 S0 := ⟨by simp [S0], by simp [S0], by simp [S0]⟩
/-- What is not seen yet. -/
def uns (sn : List Int) (m : List (Int × Nat × Nat)) : List (Int × Nat × Nat) := m.filter fun p => !sn.contains (p.2.2 : Int)
def stp1 (sn : List (Int × Nat × Nat)) : List Int := sn.map fun p => (p.2.2 : Int)
/-- What is seen. -/
structure Sn (m sn : List (Int × Nat × Nat)) : Prop where
  sub : ∀ q ∈ sn, q ∈ m
  nd : (sn.map (·.1)).Nodup
  ln : sn.length + (uns (stp1 sn) m).length ≤ m.length
theorem key_inj {α : Type} {m : List (Int × Nat × Nat)} {f : Int × Nat × Nat → α} (h : (m.map f).Nodup) {p q : Int × Nat × Nat} (hp : p ∈ m) (hq : q ∈ m) (e : f p = f q) : p = q := by
  induction m with
  | nil => cases hp
  | cons x m ih =>
    rw [List.map_cons, List.nodup_cons] at h
    rcases List.mem_cons.1 hp with rfl | hp' <;> rcases List.mem_cons.1 hq with rfl | hq'
    · rfl
    · exact absurd (by rw [e]; exact List.mem_map_of_mem hq') h.1
    · exact absurd (by rw [← e]; exact List.mem_map_of_mem hp') h.1
    · exact ih h.2 hp' hq'
theorem filter_lt {α : Type} {l : List α} {f g : α → Bool} (h : ∀ x ∈ l, g x = true → f x = true) {p : α} (hp : p ∈ l) (h1 : f p = true) (h2 : g p = false) : (l.filter g).length < (l.filter f).length := by
  induction l with
  | nil => cases hp
  | cons x l ih =>
    have le : (l.filter g).length ≤ (l.filter f).length := by
      clear ih hp
      induction l with
      | nil => simp
      | cons y l ih =>
        have := ih fun x hx => h x (by rcases List.mem_cons.1 hx with rfl | hx <;> simp [*])
        rw [List.filter_cons, List.filter_cons]
        split
        · rename_i hg
          rw [if_pos (h y (by simp) hg)]; simp; omega
        · split <;> simp <;> omega
    rw [List.filter_cons, List.filter_cons]
    rcases List.mem_cons.1 hp with rfl | hp'
    · rw [h1, h2]; simp; omega
    · have := ih (fun x hx => h x (by simp [hx])) hp'
      split
      · rename_i hg
        rw [if_pos (h x (by simp) hg)]; simp; omega
      · split <;> simp <;> omega
theorem Sn.add {m sn : List (Int × Nat × Nat)} (h : Sn m sn) (hk : (m.map (·.1)).Nodup) {p : Int × Nat × Nat} (hp : p ∈ uns (stp1 sn) m) : Sn m (sn ++ [p]) ∧ (uns (stp1 (sn ++ [p])) m).length < (uns (stp1 sn) m).length := by
  unfold uns at hp
  obtain ⟨hm, hc⟩ := List.mem_filter.1 hp
  have hc' : (p.2.2 : Int) ∉ stp1 sn := by simpa using hc
  have lt : (uns (stp1 (sn ++ [p])) m).length < (uns (stp1 sn) m).length := by
    refine filter_lt (fun x hx hg => ?_) hm hc ?_
    · simp [stp1] at hg ⊢
      exact hg.1
    · simp [stp1]
  refine ⟨⟨fun q hq => ?_, ?_, ?_⟩, lt⟩
  · rcases List.mem_append.1 hq with hq | hq
    · exact h.sub q hq
    · simp at hq; subst hq; exact hm
  · simp only [List.map_append, List.map_cons, List.map_nil]
    rw [List.nodup_append]
    refine ⟨h.nd, by simp, fun a ha b hb hab => ?_⟩
    simp at hb
    subst hb; subst hab
    obtain ⟨q, hq, e⟩ := List.mem_map.1 ha
    have := key_inj (f := (·.1)) hk (h.sub q hq) hm e
    subst this
    exact hc' (List.mem_map_of_mem (f := fun p => ((p.2.2 : Nat) : Int)) hq)
  · have := h.ln
    simp; omega
theorem Sn.nil (m : List (Int × Nat × Nat)) : Sn m [] := ⟨by simp, by simp, by simpa [uns] using List.length_filter_le _ m⟩
/-- All seen: the keys, sorted. -/
theorem Sn.done {es : List Ev} {s : S} (h : entR es = .ok s) {sn : List (Int × Nat × Nat)} (hs : Sn s.m sn) (hst : (s.m.map (·.2.2)).Nodup) (hu : uns (stp1 sn) s.m = []) : srt (sn.map (·.1)) = pD es 64 := by
  obtain ⟨lk, hg⟩ := (entR_may es).2 s h
  have hk := ent_keys (s := S0) (by simp [S0]) h
  have mem : ∀ x, x ∈ sn.map (·.1) ↔ x ∈ s.m.map (·.1) := fun x => by
    constructor
    · intro hx
      obtain ⟨p, hp, rfl⟩ := List.mem_map.1 hx
      exact List.mem_map_of_mem (hs.sub p hp)
    · intro hx
      obtain ⟨p, hp, rfl⟩ := List.mem_map.1 hx
      have : p ∉ uns (stp1 sn) s.m := by rw [hu]; simp
      unfold uns at this
      rw [List.mem_filter] at this
      have hc : (p.2.2 : Int) ∈ stp1 sn := by
        refine Classical.byContradiction fun hn => this ⟨hp, by simpa using hn⟩
      unfold stp1 at hc
      obtain ⟨q, hq, e⟩ := List.mem_map.1 hc
      have := key_inj (f := (·.2.2)) hst (hs.sub q hq) hp (by omega)
      subst this
      exact List.mem_map_of_mem hq
  unfold srt
  refine sorted_uniq ?_ ?_ (pD_lt es 64) fun x => ?_
  · have := List.pairwise_mergeSort (le := fun a b : Int => decide (a ≤ b)) (fun a b c h1 h2 => by simp at *; omega) (fun a b => by simp; omega) (sn.map (·.1))
    exact this.imp fun h => by simpa using h
  · exact (List.mergeSort_perm (sn.map (·.1)) _).nodup_iff.2 hs.nd
  · rw [(List.mergeSort_perm (sn.map (·.1)) _).mem_iff, mem, pD_mem, fnd_pn lk, fnd_some_iff]
    constructor
    · intro hx
      obtain ⟨p, hp, rfl⟩ := List.mem_map.1 hx
      have := hk p hp
      exact ⟨this.1, by omega, hx⟩
    · exact fun hx => hx.2.2
end Hi
theorem seen_m (sn : List (Int × Nat × Nat)) : seenA (sn.map fun p => I (p.2.2 : Nat)) = some (Hi.stp1 sn) := by
  induction sn with
  | nil => rfl
  | cons p sn ih => simp only [List.map_cons, seenA, ih]; rfl
theorem nx_m (c : Nat) (seen : List Int) (m : List (Int × Nat × Nat)) (h : ∀ p ∈ m, p.2.2 < c) : nxE false (c : Int) seen (m.map mA) = some ((Hi.uns seen m).map fun p => (I p.1, I (p.2.1 : Nat), (p.2.2 : Int))) := by
  induction m with
  | nil => rfl
  | cons p m ih =>
    have ih := ih fun q hq => h q (by simp [hq])
    have hp := h p (by simp)
    have hlt : (p.2.2 : Int) < (c : Int) := by omega
    simp only [List.map_cons, mA, nxE, unsn, ih, hlt, if_true]
    unfold Hi.uns
    by_cases hc : seen.contains (p.2.2 : Int) = true
    · rw [if_pos hc, List.filter_cons, if_neg (by simp at hc; simp [hc])]
    · rw [if_neg hc, List.filter_cons, if_pos (by simp at hc; simp [hc])]
      simp [valA]
theorem fd_m {m : List (Int × Nat × Nat)} (hn : (m.map (·.2.2)).Nodup) {p : Int × Nat × Nat} (hp : p ∈ m) : fdE false (p.2.2 : Int) (m.map mA) = some (.tup [I p.1, I (p.2.1 : Nat)]) := by
  induction m with
  | nil => cases hp
  | cons q m ih =>
    simp only [List.map_cons, mA, fdE, unsn]
    by_cases e : q.2.2 = p.2.2
    · have := Hi.key_inj (f := (·.2.2)) hn (List.mem_cons_self ..) hp e
      subst this
      simp [valA]
    · rw [if_neg (by omega)]
      rcases List.mem_cons.1 hp with rfl | hp
      · exact absurd rfl e
      · rw [List.map_cons, List.nodup_cons] at hn
        exact ih hn.2 hp
end Go.Proofs.Ytjooigegjkpdpaa.Sim
