/- Histories: the entries are the document's; the pending threads (mathematics). -/
import Derived.Test.YtjooigegjkpdpaaHiF
namespace Go.Proofs.Ytjooigegjkpdpaa.Sim
open Go.RowKit
set_option linter.unusedVariables false
set_option linter.unusedSimpArgs false
namespace Hi
/-- The first response of a thread, from an event on. -/
def fsr (t : Int) : Nat → List Ev → Option (Nat × An)
  | _, [] => none
  | j, e :: r => if e.res = true ∧ e.t = t then some (j, e.a) else fsr t (j + 1) r
def mkOp (n i : Nat) (e : Ev) : Option (Nat × An) → Op
  | some (j, a) => ⟨e.t, e.c, a, true, i, j⟩
  | none => ⟨e.t, e.c, An0, false, i, n⟩
def dO (n : Nat) : Nat → List Ev → List Op
  | _, [] => []
  | i, e :: r => if e.res = true then dO n (i + 1) r else mkOp n i e (fsr e.t (i + 1) r) :: dO n (i + 1) r
def cmp (k : Nat) (r : List Ev) (o : Op) : Op :=
  if o.done = true then o else match fsr o.t k r with | some (j, a) => { o with a := a, done := true, to := j } | none => o
theorem cmp_skip {k : Nat} {r : List Ev} {e : Ev} {o : Op} (h : o.done = true ∨ ¬ (e.res = true ∧ e.t = o.t)) : cmp k (e :: r) o = cmp (k + 1) r o := by
  unfold cmp
  by_cases hd : o.done = true
  · rw [if_pos hd, if_pos hd]
  · rw [if_neg hd, if_neg hd]
    have h' := h.resolve_left hd
    simp only [fsr, if_neg h']
theorem open_uniq {n k : Nat} {s : S} (hg : Good n k s) {t : Int} {i j : Nat} {o : Op} (hf : fnd s.m t = some i) (ho : s.l[j]? = some o) (hd : o.done = false) (ht : o.t = t) : j = i := by
  obtain ⟨p0, hp0, e1, e2⟩ := fnd_mem hf
  obtain ⟨_, _, _, g4⟩ := hg.fr j o ho
  obtain ⟨p, hp, hp1, hp2⟩ := g4 hd
  have hpp : p = p0 := by
    have := hg.nd
    obtain ⟨a, ha⟩ := List.getElem?_of_mem hp
    obtain ⟨b, hb⟩ := List.getElem?_of_mem hp0
    have ea : (s.m.map (·.1))[a]? = some t := by rw [List.getElem?_map, ha]; simp [hp1, ht]
    have eb : (s.m.map (·.1))[b]? = some t := by rw [List.getElem?_map, hb]; simp [e1]
    obtain ⟨la, xa⟩ := List.getElem?_eq_some_iff.1 ea
    obtain ⟨lb, xb⟩ := List.getElem?_eq_some_iff.1 eb
    have hab : a = b := by
      have hpw := List.pairwise_iff_getElem.1 this
      rcases Nat.lt_trichotomy a b with q | q | q
      · exact absurd (xa.trans xb.symm) (hpw a b la lb q)
      · exact q
      · exact absurd (xb.trans xa.symm) (hpw b a lb la q)
    subst hab
    rw [ha] at hb
    exact Option.some.inj hb
  subst hpp
  rw [← hp2, e2]
theorem ent_ops {n : Nat} : ∀ {r : List Ev} {k : Nat} {s s' : S}, Good n k s → ent n k s r = .ok s' → s'.l = s.l.map (cmp k r) ++ dO n k r
  | [], k, s, s', hg, h => by
    cases h
    have : s.l.map (cmp k []) = s.l := by
      conv => rhs; rw [← List.map_id s.l]
      refine List.map_congr_left fun o _ => ?_
      unfold cmp
      split
      · rfl
      · rfl
    rw [this]
    simp [dO]
  | e :: r, k, s, s', hg, h => by
    simp only [ent] at h
    cases hs : Hi.stp n k s e with
    | err c => rw [hs] at h; cases h
    | ok s1 =>
      rw [hs] at h
      simp only at h
      have ih := ent_ops (hg.stp hs) h
      rw [ih]
      unfold Hi.stp at hs
      split at hs
      · cases hs
      · split at hs
        · rename_i i hf
          split at hs
          · rename_i o ho
            split at hs
            · rename_i hc
              cases hs
              obtain ⟨p0, hp0, e1, e2⟩ := fnd_mem hf
              obtain ⟨o', ho', ht, hd⟩ := hg.mt p0 hp0
              rw [e2, ho] at ho'
              cases ho'
              have hto : o.t = e.t := by rw [ht, e1]
              simp only [dO, if_pos hc.1]
              congr 1
              refine List.ext_getElem? fun j => ?_
              rw [List.getElem?_map, List.getElem?_map, List.getElem?_set]
              by_cases hj : i = j
              · subst hj
                have hil : i < s.l.length := (List.getElem?_eq_some_iff.1 ho).1
                simp only [if_true, hil, ho, Option.map_some]
                refine congrArg some ?_
                unfold cmp
                simp only [if_true, hd, Bool.false_eq_true, if_false, fsr, hto, hc.1, and_self]
              · rw [if_neg hj]
                cases hx : s.l[j]? with
                | none => rfl
                | some x =>
                  simp only [Option.map_some]
                  refine congrArg some (cmp_skip ?_).symm
                  cases hxd : x.done with
                  | true => exact .inl rfl
                  | false => exact .inr fun hh => hj (open_uniq hg hf hx hxd hh.2.symm).symm
            · cases hs
          · cases hs
        · rename_i hf
          split at hs
          · rename_i hc
            cases hs
            have hr : ¬ (e.res = true) := by rw [hc.1]; simp
            simp only [dO, if_neg hr, List.map_append, List.map_cons, List.map_nil, List.append_assoc, List.singleton_append]
            congr 1
            · refine List.map_congr_left fun o _ => (cmp_skip (.inr fun hh => hr hh.1)).symm
          · cases hs
theorem entR_ops {es : List Ev} {s : S} (h : entR es = .ok s) : s.l = dO es.length 0 es := by
  have := ent_ops (Good.zero _) h
  rw [this]
  simp [S0]
/-- The keys lie in the threads' bounds. -/
theorem stp_keys {n k : Nat} {s s' : S} {e : Ev} (h : ∀ p ∈ s.m, 0 ≤ p.1 ∧ p.1 < 64) (hs : Hi.stp n k s e = .ok s') : ∀ p ∈ s'.m, 0 ≤ p.1 ∧ p.1 < 64 := by
  unfold Hi.stp at hs
  split at hs
  · cases hs
  · rename_i hr
    split at hs
    · split at hs
      · split at hs
        · cases hs
          exact fun p hp => h p (List.mem_of_mem_eraseP hp)
        · cases hs
      · cases hs
    · split at hs
      · cases hs
        intro p hp
        rcases List.mem_append.1 hp with hp | hp
        · exact h p hp
        · simp at hp; subst hp; dsimp only; omega
      · cases hs
theorem ent_keys {n : Nat} : ∀ {r : List Ev} {k : Nat} {s s' : S}, (∀ p ∈ s.m, 0 ≤ p.1 ∧ p.1 < 64) → ent n k s r = .ok s' → ∀ p ∈ s'.m, 0 ≤ p.1 ∧ p.1 < 64
  | [], k, s, s', h, he => by cases he; exact h
  | e :: r, k, s, s', h, he => by
    simp only [ent] at he
    split at he
    · rename_i s1 hs
      exact ent_keys (stp_keys h hs) he
    · cases he
/-- A thread that is pending, by the document. -/
def pnD (es : List Ev) (t : Int) : Bool := match lst es t es.length with | some j => (match es[j]? with | some f => !f.res | none => false) | none => false
def pD (es : List Ev) : Nat → List Int
  | 0 => []
  | t + 1 => pD es t ++ (if pnD es (t : Int) = true then [(t : Int)] else [])
theorem pD_mem (es : List Ev) : ∀ (n : Nat) (x : Int), x ∈ pD es n ↔ 0 ≤ x ∧ x < n ∧ pnD es x = true
  | 0, x => by simp [pD]; omega
  | n + 1, x => by
    simp only [pD, List.mem_append, pD_mem es n x]
    constructor
    · rintro (⟨a, b, c⟩ | h)
      · exact ⟨a, by omega, c⟩
      · split at h
        · rename_i hp
          simp at h; subst h
          exact ⟨by omega, by omega, hp⟩
        · cases h
    · rintro ⟨a, b, c⟩
      by_cases hx : x = n
      · subst hx; right; rw [if_pos c]; simp
      · left; exact ⟨a, by omega, c⟩
theorem pD_lt (es : List Ev) : ∀ n : Nat, (pD es n).Pairwise (· < ·)
  | 0 => by simp [pD]
  | n + 1 => by
    simp only [pD]
    rw [List.pairwise_append]
    refine ⟨pD_lt es n, ?_, fun a ha b hb => ?_⟩
    · split <;> simp
    · have := (pD_mem es n a).1 ha
      split at hb
      · simp at hb; subst hb; omega
      · cases hb
theorem fnd_pn {es : List Ev} {s : S} (lk : Lk es es.length s) (t : Int) : pnD es t = (fnd s.m t).isSome := by
  unfold pnD
  cases hf : fnd s.m t with
  | some i =>
    obtain ⟨j, f, o, q1, q2, q3, q4, q5⟩ := lk.op t i hf
    rw [q1]; simp [q2, q3]
  | none =>
    cases hl : lst es t es.length with
    | none => rfl
    | some j =>
      obtain ⟨f, q1, q2⟩ := lk.cl t hf j hl
      simp [q1, q2]
theorem fnd_some_iff {m : List (Int × Nat × Nat)} (t : Int) : (fnd m t).isSome = true ↔ t ∈ m.map (·.1) := by
  unfold fnd
  rw [Option.isSome_map, List.find?_isSome]
  simp
theorem sorted_uniq : ∀ {l l' : List Int}, l.Pairwise (· ≤ ·) → l.Nodup → l'.Pairwise (· < ·) → (∀ x, x ∈ l ↔ x ∈ l') → l = l'
  | [], [], _, _, _, _ => rfl
  | [], b :: l', _, _, _, h => by have := (h b).2 (by simp); simp at this
  | a :: l, [], _, _, _, h => by have := (h a).1 (by simp); simp at this
  | a :: l, b :: l', h1, hn, h2, h => by
    rw [List.pairwise_cons] at h1 h2
    rw [List.nodup_cons] at hn
    have hab : a = b := by
      have ha := (h a).1 (by simp)
      have hb := (h b).2 (by simp)
      rcases List.mem_cons.1 ha with e | ha
      · exact e
      · rcases List.mem_cons.1 hb with e | hb
        · exact e.symm
        · have := h2.1 a ha
          have := h1.1 b hb
          omega
    subst hab
    congr 1
    refine sorted_uniq h1.2 hn.2 h2.2 fun x => ?_
    constructor
    · intro hx
      rcases List.mem_cons.1 ((h x).1 (by simp [hx])) with e | hx'
      · subst e; exact absurd hx hn.1
      · exact hx'
    · intro hx
      rcases List.mem_cons.1 ((h x).2 (by simp [hx])) with e | hx'
      · subst e; have := h2.1 x hx; omega
      · exact hx'
/-- The keys, sorted, are the document's threads. -/
theorem pend_eq {es : List Ev} {s : S} (h : entR es = .ok s) {ks : List Int} (hp : ks.Perm (s.m.map (·.1))) : ks.mergeSort = pD es 64 := by
  obtain ⟨lk, hg⟩ := (entR_may es).2 s h
  have hk := ent_keys (s := S0) (by simp [S0]) h
  refine sorted_uniq ?_ ?_ (pD_lt es 64) fun x => ?_
  · have := List.pairwise_mergeSort (le := fun a b : Int => decide (a ≤ b)) (fun a b c h1 h2 => by simp at *; omega) (fun a b => by simp; omega) ks
    exact this.imp fun h => by simpa using h
  · exact (List.mergeSort_perm ks _).nodup_iff.2 (hp.nodup_iff.2 hg.nd)
  · rw [(List.mergeSort_perm ks _).mem_iff, hp.mem_iff, pD_mem, fnd_pn lk, fnd_some_iff]
    constructor
    · intro hx
      obtain ⟨p, hp, rfl⟩ := List.mem_map.1 hx
      have := hk p hp
      exact ⟨this.1, by omega, hx⟩
    · exact fun hx => hx.2.2
end Hi
end Go.Proofs.Ytjooigegjkpdpaa.Sim
