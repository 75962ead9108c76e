/- Histories: events, entries, what the program's loop keeps (mathematics). -/
import Derived.Test.YtjooigegjkpdpaaSimVk
namespace Go.Proofs.Ytjooigegjkpdpaa.Sim
open Go.RowKit
set_option linter.unusedVariables false
set_option linter.unusedSimpArgs false
namespace Hi
structure Cl where
  op : Int
  key : ByteArray
  val : ByteArray
  old : ByteArray
  h : Int
structure An where
  code : Int
  has : Bool
  key : ByteArray
  val : ByteArray
  n : Int
structure Ev where
  res : Bool
  t : Int
  c : Cl
  a : An
structure Op where
  t : Int
  c : Cl
  a : An
  done : Bool
  fr : Int
  to : Int
def eqCl (a b : Cl) : Prop := a.op = b.op ∧ a.key = b.key ∧ a.val = b.val ∧ a.old = b.old ∧ a.h = b.h
instance (a b : Cl) : Decidable (eqCl a b) := by unfold eqCl; infer_instance
theorem eqCl_iff {a b : Cl} : eqCl a b ↔ a = b := by
  cases a; cases b; simp [eqCl]
def noA (a : An) : Prop := a.code = 0 ∧ a.has = false ∧ a.key = ⟨#[]⟩ ∧ a.val = ⟨#[]⟩ ∧ a.n = 0
instance (a : An) : Decidable (noA a) := by unfold noA; infer_instance
def An0 : An := ⟨0, false, ⟨#[]⟩, ⟨#[]⟩, 0⟩
/-- What is kept: the entries, what is open (thread, entry, stamp), the next stamp. -/
structure S where
  l : List Op
  m : List (Int × Nat × Nat)
  clk : Nat
def fnd (m : List (Int × Nat × Nat)) (t : Int) : Option Nat := (m.find? fun p => decide (p.1 = t)).map (·.2.1)
inductive R where
  | ok (s : S)
  | err (c : Int)
/-- One event. -/
def stp (n k : Nat) (s : S) (e : Ev) : R :=
  if e.t < 0 ∨ 64 ≤ e.t then .err 2 else
  match fnd s.m e.t with
  | some i =>
    match s.l[i]? with
    | some o => if e.res = true ∧ eqCl e.c o.c then .ok ⟨s.l.set i { o with a := e.a, done := true, to := k }, s.m.eraseP (fun p => decide (p.1 = e.t)), s.clk⟩ else .err 4
    | none => .err 4
  | none => if e.res = false ∧ noA e.a then .ok ⟨s.l ++ [⟨e.t, e.c, An0, false, k, n⟩], s.m ++ [(e.t, s.l.length, s.clk)], s.clk + 1⟩ else .err 4
def ent (n : Nat) : Nat → S → List Ev → R
  | _, s, [] => .ok s
  | k, s, e :: es => match stp n k s e with | .ok s' => ent n (k + 1) s' es | .err c => .err c
def S0 : S := ⟨[], [], 0⟩
def entR (es : List Ev) : R := ent es.length 0 S0 es
/-- What holds of what is kept. -/
structure Inv (n k : Nat) (s : S) : Prop where
  ix : ∀ p ∈ s.m, p.2.1 < s.l.length
  len : s.l.length ≤ k
  clk : s.clk ≤ k
theorem fnd_mem {m : List (Int × Nat × Nat)} {t : Int} {i : Nat} (h : fnd m t = some i) : ∃ p ∈ m, p.1 = t ∧ p.2.1 = i := by
  unfold fnd at h
  obtain ⟨p, hp, rfl⟩ := Option.map_eq_some_iff.1 h
  exact ⟨p, List.mem_of_find?_eq_some hp, by simpa using List.find?_some hp, rfl⟩
theorem Inv.stp {n k : Nat} {s s' : S} {e : Ev} (h : Inv n k s) (hs : Hi.stp n k s e = .ok s') : Inv n (k + 1) s' := by
  unfold Hi.stp at hs
  split at hs
  · cases hs
  · split at hs
    · split at hs
      · split at hs
        · cases hs
          exact ⟨fun p hp => by simpa using h.ix p (List.mem_of_mem_eraseP hp), by have := h.len; simp; omega, by have := h.clk; simp; omega⟩
        · cases hs
      · cases hs
    · split at hs
      · cases hs
        refine ⟨fun p hp => ?_, by have := h.len; simp; omega, by have := h.clk; simp; omega⟩
        rcases List.mem_append.1 hp with hp | hp
        · have := h.ix p hp; simp; omega
        · simp at hp; subst hp; simp
      · cases hs
/-- Ahead: an entry that is done before another begins. -/
def ahd (a b : Op) : Bool := a.done && decide (a.to < b.fr)
/-- What the entries have. -/
structure Good (n k : Nat) (s : S) : Prop extends Inv n k s where
  fr : ∀ (i : Nat) (o : Op), s.l[i]? = some o → 0 ≤ o.fr ∧ o.fr < k ∧ (o.done = true → o.fr < o.to ∧ o.to < k) ∧ (o.done = false → ∃ p ∈ s.m, p.1 = o.t ∧ p.2.1 = i)
  same : ∀ (i j : Nat) (a b : Op), s.l[i]? = some a → s.l[j]? = some b → i < j → a.t = b.t → ahd a b = true
  mt : ∀ p ∈ s.m, ∃ o, s.l[p.2.1]? = some o ∧ o.t = p.1 ∧ o.done = false
  nd : (s.m.map (·.1)).Nodup
theorem fnd_none {m : List (Int × Nat × Nat)} {t : Int} (h : fnd m t = none) : ∀ p ∈ m, p.1 ≠ t := by
  unfold fnd at h
  rw [Option.map_eq_none_iff, List.find?_eq_none] at h
  intro p hp e
  exact h p hp (by simpa using e)
theorem nodup_erase {m : List (Int × Nat × Nat)} (h : (m.map (·.1)).Nodup) (t : Int) : ((m.eraseP fun p => decide (p.1 = t)).map (·.1)).Nodup ∧ ∀ p, p ∈ m.eraseP (fun p => decide (p.1 = t)) ↔ p ∈ m ∧ p.1 ≠ t := by
  induction m with
  | nil => simp
  | cons x m ih =>
    rw [List.map_cons, List.nodup_cons] at h
    obtain ⟨h1, h2⟩ := h
    rw [List.eraseP_cons]
    by_cases hx : x.1 = t
    · simp only [hx, decide_true, if_true, cond_true]
      refine ⟨h2, fun p => ⟨fun hp => ⟨by simp [hp], fun e => h1 (by rw [hx, ← e]; exact List.mem_map_of_mem hp)⟩, fun ⟨hp, he⟩ => ?_⟩⟩
      rcases List.mem_cons.1 hp with rfl | hp
      · exact absurd hx he
      · exact hp
    · simp only [hx, decide_false, cond_false, Bool.false_eq_true, if_false]
      obtain ⟨i1, i2⟩ := ih h2
      refine ⟨?_, fun p => ?_⟩
      · rw [List.map_cons, List.nodup_cons]
        refine ⟨fun hm => ?_, i1⟩
        obtain ⟨q, hq, e⟩ := List.mem_map.1 hm
        exact h1 (by rw [← e]; exact List.mem_map_of_mem ((i2 q).1 hq).1)
      · rw [List.mem_cons, i2, List.mem_cons]
        constructor
        · rintro (rfl | ⟨h, h'⟩)
          · exact ⟨.inl rfl, hx⟩
          · exact ⟨.inr h, h'⟩
        · rintro ⟨rfl | h, h'⟩
          · exact .inl rfl
          · exact .inr ⟨h, h'⟩
theorem Good.stp {n k : Nat} {s s' : S} {e : Ev} (h : Good n k s) (hs : Hi.stp n k s e = .ok s') : Good n (k + 1) s' := by
  have hi := h.toInv.stp hs
  unfold Hi.stp at hs
  split at hs
  · cases hs
  · split at hs
    · rename_i i hf
      split at hs
      · rename_i o ho
        split at hs
        · rename_i hc
          cases hs
          obtain ⟨p0, hp0, e1, e2⟩ := fnd_mem hf
          obtain ⟨o', ho', ht, hd⟩ := h.mt p0 hp0
          rw [e2, ho] at ho'
          cases ho'
          have hil : i < s.l.length := (List.getElem?_eq_some_iff.1 ho).1
          obtain ⟨n1, n2⟩ := nodup_erase h.nd e.t
          have get : ∀ (j : Nat) (x : Op), (s.l.set i { o with a := e.a, done := true, to := (k : Int) })[j]? = some x → (j = i ∧ x = { o with a := e.a, done := true, to := (k : Int) }) ∨ (j ≠ i ∧ s.l[j]? = some x) := fun j x hx => by
            rw [List.getElem?_set] at hx
            by_cases hj : i = j
            · subst hj; simp [hil] at hx; exact .inl ⟨rfl, hx.symm⟩
            · simp [hj] at hx; exact .inr ⟨fun e => hj e.symm, hx⟩
          obtain ⟨f1, f2, f3, f4⟩ := h.fr i o ho
          refine ⟨hi, fun j x hx => ?_, fun j j' a b ha hb hjj hab => ?_, fun p hp => ?_, n1⟩
          · rcases get j x hx with ⟨rfl, rfl⟩ | ⟨hj, hx⟩
            · exact ⟨f1, by show o.fr < _; omega, fun _ => ⟨by show o.fr < (k : Int); omega, by show (k : Int) < _; omega⟩, fun hd => by cases hd⟩
            · obtain ⟨g1, g2, g3, g4⟩ := h.fr j x hx
              refine ⟨g1, by omega, fun hd => by obtain ⟨q1, q2⟩ := g3 hd; exact ⟨q1, by omega⟩, fun hd => ?_⟩
              obtain ⟨p, hp, hp1, hp2⟩ := g4 hd
              refine ⟨p, (n2 p).2 ⟨hp, fun hpt => ?_⟩, hp1, hp2⟩
              have hpp : p = p0 := by
                have := h.nd
                obtain ⟨a, ha⟩ := List.getElem?_of_mem hp
                obtain ⟨b, hb⟩ := List.getElem?_of_mem hp0
                have ea : (s.m.map (·.1))[a]? = some e.t := by rw [List.getElem?_map, ha]; simp [hpt]
                have eb : (s.m.map (·.1))[b]? = some e.t := by rw [List.getElem?_map, hb]; simp [e1]
                obtain ⟨la, xa⟩ := List.getElem?_eq_some_iff.1 ea
                obtain ⟨lb, xb⟩ := List.getElem?_eq_some_iff.1 eb
                have hab : a = b := by
                  have hpw := List.pairwise_iff_getElem.1 this
                  rcases Nat.lt_trichotomy a b with q | q | q
                  · exact absurd (xa.trans xb.symm) (hpw a b la lb q)
                  · exact q
                  · exact absurd (xb.trans xa.symm) (hpw b a lb la q)
                subst hab
                rw [ha] at hb
                exact Option.some.inj hb
              subst hpp
              exact hj (by rw [← hp2, e2])
          · rcases get j a ha with ⟨rfl, rfl⟩ | ⟨hj, ha1⟩ <;> rcases get j' b hb with ⟨rfl, rfl⟩ | ⟨hj', hb1⟩
            · omega
            · have := h.same _ _ o b ho hb1 hjj hab
              unfold ahd at this
              rw [hd] at this
              simp at this
            · have hh := h.same _ _ a o ha1 ho hjj hab
              unfold ahd at hh ⊢
              exact hh
            · exact h.same _ _ a b ha1 hb1 hjj hab
          · obtain ⟨hp, hpt⟩ := (n2 p).1 hp
            obtain ⟨x, hx, hx1, hx2⟩ := h.mt p hp
            have hne : i ≠ p.2.1 := fun e' => by
              rw [← e', ho] at hx
              cases hx
              exact hpt (by rw [← hx1, ht, e1])
            exact ⟨x, by rw [List.getElem?_set_ne hne]; exact hx, hx1, hx2⟩
        · cases hs
      · cases hs
    · rename_i hf
      split at hs
      · rename_i hc
        cases hs
        have hno := fnd_none hf
        have get : ∀ (j : Nat) (x : Op), (s.l ++ [(⟨e.t, e.c, An0, false, (k : Int), (n : Int)⟩ : Op)])[j]? = some x → (j = s.l.length ∧ x = ⟨e.t, e.c, An0, false, (k : Int), (n : Int)⟩) ∨ s.l[j]? = some x := fun j x hx => by
          rcases Nat.lt_trichotomy j s.l.length with hj | hj | hj
          · rw [List.getElem?_append_left hj] at hx; exact .inr hx
          · subst hj; simp at hx; exact .inl ⟨rfl, hx.symm⟩
          · rw [List.getElem?_eq_none (by simp; omega)] at hx; cases hx
        have up : ∀ (j : Nat) (x : Op), s.l[j]? = some x → (s.l ++ [(⟨e.t, e.c, An0, false, (k : Int), (n : Int)⟩ : Op)])[j]? = some x := fun j x hx => by
          rw [List.getElem?_append_left (List.getElem?_eq_some_iff.1 hx).1]; exact hx
        refine ⟨hi, fun j x hx => ?_, fun j j' a b ha hb hjj hab => ?_, fun p hp => ?_, ?_⟩
        · rcases get j x hx with ⟨rfl, rfl⟩ | hx
          · exact ⟨by show 0 ≤ (k : Int); omega, by show (k : Int) < _; omega, fun hd => (by cases hd), fun _ => ⟨(e.t, s.l.length, s.clk), by simp, rfl, rfl⟩⟩
          · obtain ⟨g1, g2, g3, g4⟩ := h.fr j x hx
            refine ⟨g1, by omega, fun hd => by obtain ⟨q1, q2⟩ := g3 hd; exact ⟨q1, by omega⟩, fun hd => ?_⟩
            obtain ⟨p, hp, q⟩ := g4 hd
            exact ⟨p, by simp [hp], q⟩
        · rcases get j a ha with ⟨rfl, rfl⟩ | ha
          · have hbl := (List.getElem?_eq_some_iff.1 hb).1
            simp at hbl
            omega
          · rcases get j' b hb with ⟨rfl, rfl⟩ | hb
            · obtain ⟨g1, g2, g3, g4⟩ := h.fr j a ha
              have hdone : a.done = true := by
                cases hd : a.done with
                | true => rfl
                | false =>
                  obtain ⟨p, hp, q1, q2⟩ := g4 hd
                  exact absurd (q1.trans hab) (hno p hp)
              unfold ahd
              rw [hdone]
              simp
              exact (g3 hdone).2
            · exact h.same _ _ a b ha hb hjj hab
        · rcases List.mem_append.1 hp with hp | hp
          · obtain ⟨x, hx, q⟩ := h.mt p hp
            exact ⟨x, up _ _ hx, q⟩
          · simp at hp; subst hp
            exact ⟨⟨e.t, e.c, An0, false, (k : Int), (n : Int)⟩, by simp, rfl, rfl⟩
        · simp only [List.map_append, List.map_cons, List.map_nil]
          rw [List.nodup_append]
          refine ⟨h.nd, by simp, fun a ha b hb hab => ?_⟩
          simp at hb
          subst hb; subst hab
          obtain ⟨p, hp, e⟩ := List.mem_map.1 ha
          exact hno p hp e
      · cases hs
theorem Good.zero (n : Nat) : Good n 0 S0 := ⟨⟨fun p hp => by simp [S0] at hp, Nat.zero_le _, Nat.zero_le _⟩, fun i o h => by simp [S0] at h, fun i j a b h => by simp [S0] at h, fun p hp => by simp [S0] at hp, by simp [S0]⟩
theorem ent_good {n : Nat} : ∀ {es : List Ev} {k : Nat} {s s' : S}, Good n k s → ent n k s es = .ok s' → Good n (k + es.length) s'
  | [], k, s, s', h, he => by cases he; exact h
  | e :: es, k, s, s', h, he => by
    simp only [ent] at he
    split at he
    · rename_i s1 hs
      have := ent_good (h.stp hs) he
      rwa [show k + 1 + es.length = k + (e :: es).length by simp; omega] at this
    · cases he
theorem stp_err {n k : Nat} {s : S} {e : Ev} {c : Int} (h : stp n k s e = .err c) : c = 2 ∨ c = 4 := by
  unfold stp at h
  split at h
  · cases h; exact .inl rfl
  · split at h
    · split at h
      · split at h
        · cases h
        · cases h; exact .inr rfl
      · cases h; exact .inr rfl
    · split at h
      · cases h
      · cases h; exact .inr rfl
theorem ent_err {n : Nat} : ∀ {es : List Ev} {k : Nat} {s : S} {c : Int}, ent n k s es = .err c → c = 2 ∨ c = 4
  | [], k, s, c, h => by cases h
  | e :: es, k, s, c, h => by
    simp only [ent] at h
    split at h
    · exact ent_err h
    · rename_i c' hs
      cases h
      exact stp_err hs
theorem ent_len {n : Nat} : ∀ {es : List Ev} {k : Nat} {s s' : S}, Good n k s → ent n k s es = .ok s' → s'.l.length ≤ k + es.length := fun h he => (ent_good h he).len
theorem Good.asym {n k : Nat} {s : S} (h : Good n k s) {i j : Nat} {x y : Op} (hx : s.l[i]? = some x) (hy : s.l[j]? = some y) (ha : ahd x y = true) : ahd y x = false := by
  unfold ahd at ha ⊢
  simp only [Bool.and_eq_true, decide_eq_true_eq] at ha
  cases hd : y.done with
  | false => rfl
  | true =>
    obtain ⟨_, _, g3, _⟩ := h.fr i x hx
    obtain ⟨_, _, f3, _⟩ := h.fr j y hy
    have a1 := g3 ha.1
    have a2 := f3 hd
    simp
    omega
theorem Good.trans {n k : Nat} {s : S} (h : Good n k s) {i j l : Nat} {x y z : Op} (hx : s.l[i]? = some x) (hy : s.l[j]? = some y) (hz : s.l[l]? = some z) (ha : ahd x y = true) (hb : ahd y z = true) : ahd x z = true := by
  unfold ahd at ha hb ⊢
  simp only [Bool.and_eq_true, decide_eq_true_eq] at ha hb ⊢
  obtain ⟨_, _, f3, _⟩ := h.fr j y hy
  have a2 := f3 hb.1
  exact ⟨ha.1, by omega⟩
end Hi
end Go.Proofs.Ytjooigegjkpdpaa.Sim
