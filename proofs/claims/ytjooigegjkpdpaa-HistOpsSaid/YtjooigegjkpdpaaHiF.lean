/- Histories: the document's error of an event, beside what the program keeps (mathematics). -/
import Derived.Test.YtjooigegjkpdpaaHiA
namespace Go.Proofs.Ytjooigegjkpdpaa.Sim
open Go.RowKit
set_option linter.unusedVariables false
set_option linter.unusedSimpArgs false
namespace Hi
/-- The last event of a thread ahead of one. -/
def lst (es : List Ev) (t : Int) : Nat → Option Nat
  | 0 => none
  | k + 1 => match es[k]? with | some e => if e.t = t then some k else lst es t k | none => lst es t k
def errD (es : List Ev) (k : Nat) (e : Ev) : Int :=
  if e.t < 0 ∨ 63 < e.t then 2 else
  match lst es e.t k with
  | some j =>
    match es[j]? with
    | some f => if f.res = false then (if e.res = true ∧ eqCl f.c e.c then 0 else 4) else (if e.res = false ∧ noA e.a then 0 else 4)
    | none => 0
  | none => if e.res = false ∧ noA e.a then 0 else 4
def mayG (es : List Ev) : Nat → List Ev → Int
  | _, [] => 0
  | k, e :: r => if errD es k e = 0 then mayG es (k + 1) r else errD es k e
def mayD (es : List Ev) : Int := mayG es 0 es
def codeR : R → Int | .ok _ => 0 | .err c => c
/-- What is open, by the events. -/
structure Lk (es : List Ev) (k : Nat) (s : S) : Prop where
  op : ∀ t i, fnd s.m t = some i → ∃ j f o, lst es t k = some j ∧ es[j]? = some f ∧ f.res = false ∧ s.l[i]? = some o ∧ o.c = f.c
  cl : ∀ t, fnd s.m t = none → ∀ j, lst es t k = some j → ∃ f, es[j]? = some f ∧ f.res = true
theorem fnd_erase {m : List (Int × Nat × Nat)} (h : (m.map (·.1)).Nodup) (t u : Int) : fnd (m.eraseP fun p => decide (p.1 = t)) u = if u = t then none else fnd m u := by
  induction m with
  | nil => simp [fnd]
  | cons x m ih =>
    rw [List.map_cons, List.nodup_cons] at h
    obtain ⟨h1, h2⟩ := h
    have ih := ih h2
    rw [List.eraseP_cons]
    by_cases hx : x.1 = t
    · simp only [hx, decide_true, cond_true]
      by_cases hu : u = t
      · subst hu
        simp only [if_true]
        unfold fnd
        rw [Option.map_eq_none_iff, List.find?_eq_none]
        intro p hp
        simp
        intro e
        exact h1 (by rw [hx, ← e]; exact List.mem_map_of_mem hp)
      · simp only [hu, if_false]
        have hxu : ¬ x.1 = u := fun e => hu (by rw [← e, hx])
        simp [fnd, hxu]
    · simp only [hx, decide_false, cond_false]
      by_cases hxu : x.1 = u
      · have hut : ¬ u = t := fun e => hx (by rw [hxu, e])
        simp [fnd, hxu, hut]
      · have e1 : ∀ m' : List (Int × Nat × Nat), fnd (x :: m') u = fnd m' u := fun m' => by simp [fnd, hxu]
        rw [e1, e1, ih]
theorem fnd_app {m : List (Int × Nat × Nat)} {t : Int} {i c : Nat} (h : fnd m t = none) (u : Int) : fnd (m ++ [(t, i, c)]) u = if u = t then some i else fnd m u := by
  unfold fnd
  rw [List.find?_append]
  by_cases hu : u = t
  · subst hu
    have : m.find? (fun p => decide (p.1 = u)) = none := by
      unfold fnd at h
      exact Option.map_eq_none_iff.1 h
    rw [this]
    simp
  · simp only [hu, if_false]
    have hut : ¬ t = u := fun e => hu e.symm
    have : ([(t, i, c)] : List (Int × Nat × Nat)).find? (fun p => decide (p.1 = u)) = none := by simp [hut]
    rw [this, Option.or_none]
theorem lst_succ {es : List Ev} {k : Nat} {e : Ev} (he : es[k]? = some e) (t : Int) : lst es t (k + 1) = if e.t = t then some k else lst es t k := by
  simp only [lst, he]
theorem Lk.stp {es : List Ev} {n k : Nat} {s : S} {e : Ev} (hg : Good n k s) (h : Lk es k s) (he : es[k]? = some e) :
    (∀ s', Hi.stp n k s e = .ok s' → errD es k e = 0 ∧ Lk es (k + 1) s') ∧ (∀ c, Hi.stp n k s e = .err c → errD es k e = c ∧ c ≠ 0) := by
  have rng : (e.t < 0 ∨ 64 ≤ e.t) ↔ (e.t < 0 ∨ 63 < e.t) := by omega
  by_cases hr : e.t < 0 ∨ 64 ≤ e.t
  · have e1 : Hi.stp n k s e = .err 2 := by unfold Hi.stp; rw [if_pos hr]
    have e2 : errD es k e = 2 := by unfold errD; rw [if_pos (rng.1 hr)]
    rw [e1]
    exact ⟨fun s' hs => (by cases hs), fun c hc => by cases hc; exact ⟨e2, by omega⟩⟩
  · have hr' : ¬ (e.t < 0 ∨ 63 < e.t) := fun x => hr (rng.2 x)
    cases hf : fnd s.m e.t with
    | some i =>
      obtain ⟨j, f, o, q1, q2, q3, q4, q5⟩ := h.op e.t i hf
      have hd : errD es k e = if e.res = true ∧ eqCl f.c e.c then 0 else 4 := by unfold errD; rw [if_neg hr', q1]; simp only [q2, q3, if_true]
      have hs0 : Hi.stp n k s e = if e.res = true ∧ eqCl e.c o.c then .ok ⟨s.l.set i { o with a := e.a, done := true, to := k }, s.m.eraseP (fun p => decide (p.1 = e.t)), s.clk⟩ else .err 4 := by unfold Hi.stp; rw [if_neg hr, hf]; simp only [q4]
      have hce : eqCl e.c o.c ↔ eqCl f.c e.c := by rw [eqCl_iff, eqCl_iff, q5]; exact eq_comm
      by_cases hc : e.res = true ∧ eqCl f.c e.c
      · rw [hs0, if_pos ⟨hc.1, hce.2 hc.2⟩, hd, if_pos hc]
        refine ⟨fun s' hs => ?_, fun c hc => by cases hc⟩
        cases hs
        refine ⟨rfl, fun t i' hf' => ?_, fun t hf' j' hj' => ?_⟩
        · rw [fnd_erase hg.nd] at hf'
          split at hf'
          · cases hf'
          · rename_i hte
            obtain ⟨j', f', o', p1, p2, p3, p4, p5⟩ := h.op t i' hf'
            refine ⟨j', f', ?_⟩
            rw [lst_succ he, if_neg (fun e' => hte e'.symm)]
            by_cases hii : i = i'
            · subst hii
              obtain ⟨x, hx1, hx2, hx3⟩ := fnd_mem hf
              obtain ⟨y, hy1, hy2, hy3⟩ := fnd_mem hf'
              obtain ⟨ox, ox1, ox2, _⟩ := hg.mt x hx1
              obtain ⟨oy, oy1, oy2, _⟩ := hg.mt y hy1
              rw [hx3] at ox1
              rw [hy3, ox1] at oy1
              cases oy1
              exact absurd (by rw [← hy2, ← oy2, ox2, hx2]) hte
            · exact ⟨o', p1, p2, p3, by simp only; rw [List.getElem?_set_ne hii]; exact p4, p5⟩
        · rw [lst_succ he] at hj'
          split at hj'
          · cases hj'; exact ⟨e, he, hc.1⟩
          · rename_i hte
            rw [fnd_erase hg.nd, if_neg (fun e' => hte e'.symm)] at hf'
            exact h.cl t hf' j' hj'
      · rw [hs0, if_neg (fun x => hc ⟨x.1, hce.1 x.2⟩), hd, if_neg hc]
        exact ⟨fun s' hs => (by cases hs), fun c hc => by cases hc; exact ⟨rfl, by omega⟩⟩
    | none =>
      have hd : errD es k e = if e.res = false ∧ noA e.a then 0 else 4 := by
        unfold errD
        rw [if_neg hr']
        cases hl : lst es e.t k with
        | none => rfl
        | some j =>
          obtain ⟨f, q1, q2⟩ := h.cl e.t hf j hl
          simp only [q1, q2, Bool.true_eq_false, if_false]
      have hs0 : Hi.stp n k s e = if e.res = false ∧ noA e.a then .ok ⟨s.l ++ [⟨e.t, e.c, An0, false, k, n⟩], s.m ++ [(e.t, s.l.length, s.clk)], s.clk + 1⟩ else .err 4 := by unfold Hi.stp; rw [if_neg hr, hf]
      by_cases hc : e.res = false ∧ noA e.a
      · rw [hs0, if_pos hc, hd, if_pos hc]
        refine ⟨fun s' hs => ?_, fun c hc => by cases hc⟩
        cases hs
        refine ⟨rfl, fun t i' hf' => ?_, fun t hf' j' hj' => ?_⟩
        · rw [fnd_app hf] at hf'
          split at hf'
          · rename_i hte
            cases hf'
            refine ⟨k, e, ⟨e.t, e.c, An0, false, k, n⟩, ?_, he, hc.1, by simp, rfl⟩
            rw [lst_succ he, if_pos hte.symm]
          · rename_i hte
            obtain ⟨j', f', o', p1, p2, p3, p4, p5⟩ := h.op t i' hf'
            refine ⟨j', f', o', ?_, p2, p3, ?_, p5⟩
            · rw [lst_succ he, if_neg (fun e' => hte e'.symm)]; exact p1
            · simp only; rw [List.getElem?_append_left (List.getElem?_eq_some_iff.1 p4).1]; exact p4
        · rw [fnd_app hf] at hf'
          split at hf'
          · cases hf'
          · rename_i hte
            rw [lst_succ he, if_neg (fun e' => hte e'.symm)] at hj'
            exact h.cl t hf' j' hj'
      · rw [hs0, if_neg hc, hd, if_neg hc]
        exact ⟨fun s' hs => (by cases hs), fun c hc => by cases hc; exact ⟨rfl, by omega⟩⟩
theorem ent_may {es : List Ev} {n : Nat} : ∀ {r : List Ev} {k : Nat} {s : S}, Good n k s → Lk es k s → es.drop k = r → codeR (ent n k s r) = mayG es k r ∧ ∀ s', ent n k s r = .ok s' → Lk es (k + r.length) s' ∧ Good n (k + r.length) s'
  | [], k, s, hg, h, hd => ⟨rfl, fun s' hs => by cases hs; exact ⟨h, hg⟩⟩
  | e :: r, k, s, hg, h, hd => by
    have he : es[k]? = some e := by
      have := congrArg (fun l => l[0]?) hd
      simpa using this
    have hd' : es.drop (k + 1) = r := by
      have := congrArg List.tail hd
      simpa using this
    obtain ⟨a1, a2⟩ := h.stp hg he
    simp only [ent, mayG]
    cases hs : Hi.stp n k s e with
    | ok s' =>
      obtain ⟨b1, b2⟩ := a1 s' hs
      simp only [b1, if_true]
      obtain ⟨c1, c2⟩ := ent_may (hg.stp hs) b2 hd'
      refine ⟨c1, fun s2 h2 => ?_⟩
      have := c2 s2 h2
      rwa [show k + 1 + r.length = k + (e :: r).length by simp; omega] at this
    | err c =>
      obtain ⟨b1, b2⟩ := a2 c hs
      rw [b1, if_neg b2]
      exact ⟨rfl, fun s2 h2 => by cases h2⟩
theorem Lk.zero (es : List Ev) : Lk es 0 S0 := ⟨fun t i h => by simp [S0, fnd] at h, fun t _ j h => by simp [lst] at h⟩
theorem entR_may (es : List Ev) : codeR (entR es) = mayD es ∧ ∀ s, entR es = .ok s → Lk es es.length s ∧ Good es.length es.length s := by
  have := ent_may (n := es.length) (Good.zero _) (Lk.zero es) (rfl : es.drop 0 = es)
  refine ⟨this.1, fun s hs => ?_⟩
  have := this.2 s hs
  rwa [Nat.zero_add] at this
theorem lst_lt {es : List Ev} {t : Int} : ∀ {k j : Nat}, lst es t k = some j → j < k
  | 0, j, h => by simp [lst] at h
  | k + 1, j, h => by
    simp only [lst] at h
    split at h
    · split at h
      · cases h; omega
      · have := lst_lt h; omega
    · have := lst_lt h; omega
theorem lst_app {es : List Ev} (x : Ev) (t : Int) : ∀ {k : Nat}, k ≤ es.length → lst (es ++ [x]) t k = lst es t k
  | 0, _ => rfl
  | k + 1, h => by
    simp only [lst]
    rw [List.getElem?_append_left (by omega), lst_app x t (by omega : k ≤ es.length)]
theorem errD_app {es : List Ev} (x : Ev) {k : Nat} (hk : k ≤ es.length) (e : Ev) : errD (es ++ [x]) k e = errD es k e := by
  unfold errD
  rw [lst_app x e.t hk]
  cases hl : lst es e.t k with
  | none => rfl
  | some j =>
    have hj := lst_lt hl
    simp only
    rw [List.getElem?_append_left (by omega)]
theorem may_app {es : List Ev} (x : Ev) : ∀ {r : List Ev} {k : Nat}, k + r.length = es.length → mayG (es ++ [x]) k (r ++ [x]) = if mayG es k r = 0 then errD es es.length x else mayG es k r
  | [], k, h => by
    have hk : k = es.length := by simpa using h
    subst hk
    simp only [List.nil_append, mayG, if_true, errD_app x (Nat.le_refl _)]
    split
    · rename_i e; rw [e]
    · rfl
  | e :: r, k, h => by
    have hl : k + 1 + r.length = es.length := by simp at h; omega
    simp only [List.cons_append, mayG, errD_app x (show k ≤ es.length by omega)]
    split
    · exact may_app x hl
    · rename_i he; first | rfl | (rw [if_neg he])
theorem mayD_app (es : List Ev) (x : Ev) : mayD (es ++ [x]) = if mayD es = 0 then errD es es.length x else mayD es := by
  unfold mayD
  exact may_app x (by omega)
def Cl0 : Cl := ⟨0, ⟨#[]⟩, ⟨#[]⟩, ⟨#[]⟩, 0⟩
/-- The call that a response is told to answer: by the program, by the document. -/
def clP (es : List Ev) (t : Int) : Cl := match entR es with | .ok s => (match fnd s.m t with | some i => (match s.l[i]? with | some o => o.c | none => Cl0) | none => Cl0) | .err _ => Cl0
def clD (es : List Ev) (t : Int) : Cl := match lst es t es.length with | some j => (match es[j]? with | some f => f.c | none => Cl0) | none => Cl0
theorem end_same (es : List Ev) (t : Int) (a : An) : mayD (es ++ [⟨true, t, clP es t, a⟩]) = mayD (es ++ [⟨true, t, clD es t, a⟩]) ∧ (mayD (es ++ [⟨true, t, clP es t, a⟩]) = 0 → clP es t = clD es t) := by
  rw [mayD_app, mayD_app]
  obtain ⟨m1, m2⟩ := entR_may es
  by_cases h0 : mayD es = 0
  · rw [if_pos h0, if_pos h0]
    cases hR : entR es with
    | err c =>
      exfalso
      rw [hR] at m1
      have hc : c = 0 := by rw [← h0, ← m1]; rfl
      have := ent_err hR
      omega
    | ok s =>
      obtain ⟨lk, hg⟩ := m2 s hR
      cases hf : fnd s.m t with
      | some i =>
        obtain ⟨j, f, o, q1, q2, q3, q4, q5⟩ := lk.op t i hf
        have e : clP es t = clD es t := by
          unfold clP clD
          rw [hR, q1]
          simp only [hf, q4, q2, q5]
        rw [e]
        exact ⟨rfl, fun _ => rfl⟩
      | none =>
        have key : ∀ c : Cl, errD es es.length ⟨true, t, c, a⟩ = if t < 0 ∨ 63 < t then 2 else 4 := fun c => by
          unfold errD
          by_cases hr : t < 0 ∨ 63 < t
          · simp only [if_pos hr]
          · simp only [if_neg hr]
            cases hl : lst es t es.length with
            | none => simp
            | some j =>
              obtain ⟨f, q1, q2⟩ := lk.cl t hf j hl
              simp [q1, q2]
        rw [key, key]
        refine ⟨rfl, fun h => ?_⟩
        split at h <;> omega
  · rw [if_neg h0, if_neg h0]
    exact ⟨rfl, fun h => absurd h h0⟩
end Hi
end Go.Proofs.Ytjooigegjkpdpaa.Sim
