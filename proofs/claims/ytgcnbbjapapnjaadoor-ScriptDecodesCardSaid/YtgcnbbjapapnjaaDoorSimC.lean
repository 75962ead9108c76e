/- Rows of the call's own: a new one, one that is written, one that moves. -/
import Derived.Test.YtgcnbbjapapnjaaDoorSimB
namespace Go.Proofs.YtgcnbbjapapnjaaDoor.Sim
open Go.RowKit
set_option linter.unusedVariables false
set_option linter.unusedSimpArgs false
theorem Ow.le_push (O : Ow) (d : Ds) : O.le (O ++ [d]) := fun i d' h => ⟨d', by rw [List.getElem?_append_left (List.getElem?_eq_some_iff.1 h).1]; exact h, Nat.le_refl _, fun _ => rfl⟩
theorem Ow.le_set (O : Ow) (i : Nat) (d d' : Ds) (hd : O[i]? = some d) (hg : d.g ≤ d'.g) (he : d.g = d'.g → d' = d) : O.le (O.set i d') := fun j dj h => by
  by_cases hij : i = j
  · subst hij
    rw [hd] at h
    cases h
    exact ⟨d', by rw [List.getElem?_set_self (List.getElem?_eq_some_iff.1 hd).1], hg, he⟩
  · exact ⟨dj, by rw [List.getElem?_set_ne hij]; exact h, Nat.le_refl _, fun _ => rfl⟩
theorem fine_one {a : AV} (h : a.fine = true) : ∀ u ∈ a.cells, u.one = true := by
  cases a with
  | agg cs => exact fun u hu => (List.all_eq_true.1 h) u hu
  | _ =>
    intro u hu
    have : u ∈ [_] := hu
    simp at this
    subst this
    exact h
theorem fine_or {a : AV} (h : a.fine = true) : a.one = true ∨ ∃ cs, a = .agg cs := by
  cases a with
  | agg cs => exact .inr ⟨cs, rfl⟩
  | _ => exact .inl h
/-- A new row. -/
theorem Own.pushG {B : Bd} {w0 w w1 : World} {F0 F : Fz} {O : Ow} {H : Hp} (h : Own B w0 F0 F O H w) (hb : Below w.heap.size w w1) (hs : w1.heap.size = w.heap.size) {e : TypeId} {k C : Nat} {cs : Array Value} {es : List AV} {o : Obj} (ho : ObjIs (some o) e k es.length cs)
    (hC : C ≤ maxLen) (hl : e ≠ mapE → es.length ≤ C) (hz : e ≠ mapE → cs.size = C * k) (hn : ∀ x ∈ es, x.cells.length = k) (h1 : ∀ x ∈ es, ∀ a ∈ x.cells, AV.one a = true)
    (hc : ∀ (n j : Nat) (x a : AV), es[n]? = some x → x.cells[j]? = some a → ∃ c, cs[n * k + j]? = some c ∧ VR F O c a) :
    Own B w0 F0 F (O ++ [⟨w.heap.size, C, 0, k⟩]) (H ++ [⟨e, k, es, 0, 0⟩]) (w1.alloc o) := by
  have hle := Ow.le_push O ⟨w.heap.size, C, 0, k⟩
  have hw1 : Own B w0 F0 F O H w1 := h.keep hb
  have hb2 : Below w1.heap.size w1 (w1.alloc o) := (Below.refl _ _).alloc (Nat.le_refl _) _
  have hw2 := hw1.keep hb2
  refine ⟨by simp [h.len], ?_, ?_, hw2.fr, hw2.le, hw2.new, hw2.below, hw2.size, hw2.kept, hw2.kb⟩
  · intro i d ob hd ho'
    by_cases hi : i < O.length
    · rw [List.getElem?_append_left hi] at hd
      rw [List.getElem?_append_left (by rw [← h.len]; exact hi)] at ho'
      have r := hw2.row i d ob hd ho'
      obtain ⟨cur, q1, q2, q3⟩ := r.cur
      exact { r with cur := ⟨cur, q1, q2, fun n j x a hx ha => by obtain ⟨c, g1, g2⟩ := q3 n j x a hx ha; exact ⟨c, g1, g2.mono (Fz.le_refl F) hle⟩⟩ }
    · have hio : i = O.length := by
        have := (List.getElem?_eq_some_iff.1 hd).1
        simp at this
        omega
      subst hio
      rw [List.getElem?_append_right (Nat.le_refl _)] at hd
      rw [h.len, List.getElem?_append_right (Nat.le_refl _)] at ho'
      simp at hd ho'
      subst hd
      subst ho'
      refine ⟨rfl, rfl, h.okGe (Nat.le_refl _), ⟨cs, ?_, hz, fun n j x a hx ha => ?_⟩, hC, hl, hn, h1, ?_, Nat.zero_le _⟩
      · show ObjIs ((w1.heap.push _)[w.heap.size]?) _ _ _ _
        rw [← hs, Array.getElem?_push_size]
        exact ho
      · obtain ⟨c, g1, g2⟩ := hc n j x a hx ha
        exact ⟨c, g1, g2.mono (Fz.le_refl F) hle⟩
      · intro o v hv
        have := lt_of_cell (h.fr _ _ _ hv)
        simp at this
  · intro i j d d' hd hd' hbb
    have old : ∀ (i : Nat) (d : Ds), i < O.length → (O ++ [⟨w.heap.size, C, 0, k⟩])[i]? = some d → O[i]? = some d ∧ d.b < w.heap.size := fun i d hi hd => by
      rw [List.getElem?_append_left hi] at hd
      have : i < H.length := by rw [← h.len]; exact hi
      exact ⟨hd, (h.row i d _ hd (List.getElem?_eq_getElem this)).lt⟩
    have new : ∀ (i : Nat) (d : Ds), ¬ i < O.length → (O ++ [⟨w.heap.size, C, 0, k⟩])[i]? = some d → i = O.length ∧ d.b = w.heap.size := fun i d hi hd => by
      have h1 := (List.getElem?_eq_some_iff.1 hd).1
      simp at h1
      have hio : i = O.length := by omega
      subst hio
      rw [List.getElem?_append_right (Nat.le_refl _)] at hd
      simp at hd
      subst hd
      exact ⟨rfl, rfl⟩
    by_cases hi : i < O.length
    · obtain ⟨g1, g2⟩ := old i d hi hd
      by_cases hj : j < O.length
      · obtain ⟨g3, g4⟩ := old j d' hj hd'
        exact h.inj i j d d' g1 g3 hbb
      · obtain ⟨g3, g4⟩ := new j d' hj hd'
        omega
    · obtain ⟨g1, g2⟩ := new i d hi hd
      by_cases hj : j < O.length
      · obtain ⟨g3, g4⟩ := old j d' hj hd'
        omega
      · obtain ⟨g3, g4⟩ := new j d' hj hd'
        omega
theorem Own.push {B : Bd} {w0 w w1 : World} {F0 F : Fz} {O : Ow} {H : Hp} (h : Own B w0 F0 F O H w) (hb : Below w.heap.size w w1) (hs : w1.heap.size = w.heap.size) {e : TypeId} (ne : e ≠ mapE) {k C : Nat} {cs : Array Value} {es : List AV}
    (hC : C ≤ maxLen) (hl : es.length ≤ C) (hz : cs.size = C * k) (hn : ∀ x ∈ es, x.cells.length = k) (h1 : ∀ x ∈ es, ∀ a ∈ x.cells, AV.one a = true)
    (hc : ∀ (n j : Nat) (x a : AV), es[n]? = some x → x.cells[j]? = some a → ∃ c, cs[n * k + j]? = some c ∧ VR F O c a) :
    Own B w0 F0 F (O ++ [⟨w.heap.size, C, 0, k⟩]) (H ++ [⟨e, k, es, 0, 0⟩]) (w1.alloc (.cells cs e)) :=
  h.pushG hb hs (.inl ⟨ne, rfl⟩) hC (fun _ => hl) (fun _ => hz) hn h1 hc
theorem below_setRow' {B g : Nat} {w0 w : World} (hb : Below B w0 w) (hBg : B ≤ g) (cs : Array Value) : Below B w0 (w.setRow g cs) :=
  hb.trans ⟨rfl, rfl, rfl, by simp, fun k hk => setRow_other w g k cs (by omega)⟩
/-- A row is changed where it lies, in any way. -/
theorem Own.writeG {B : Bd} {w0 w : World} {F0 F : Fz} {O : Ow} {H : Hp} (h : Own B w0 F0 F O H w) {i : Nat} {ob : OB} {d : Ds} (hi : H[i]? = some ob) (hd : O[i]? = some d) {new : Array Value} {g' : Nat} {es' : List AV} {w' : World} (hoth : ∀ b, b ≠ d.b → w'.heap[b]? = w.heap[b]?) (hbel : Below B.n w0 w') (hws : B.n ≤ w'.heap.size) (hobj : ObjIs (w'.heap[d.b]?) ob.e ob.k es'.length new)
    (hg : ob.g ≤ g') (hl : ob.e ≠ mapE → es'.length ≤ d.C) (hz : ob.e ≠ mapE → new.size = d.C * ob.k) (hn : ∀ x ∈ es', x.cells.length = ob.k) (h1 : ∀ x ∈ es', ∀ a ∈ x.cells, AV.one a = true) (hfz : ob.fz ≤ es'.length)
    (hc : ∀ (n j : Nat) (x a : AV), es'[n]? = some x → x.cells[j]? = some a → ∃ c, new[n * ob.k + j]? = some c ∧ VR F O c a) (hf : ∀ o v, F d.b o = some v → w'.cell? ⟨d.b, o, none⟩ = some v) :
    Own B w0 F0 F (O.set i ⟨d.b, d.C, g', d.k⟩) (H.set i ⟨ob.e, ob.k, es', g', ob.fz⟩) w' ∧ O.le (O.set i ⟨d.b, d.C, g', d.k⟩) := by
  have r := h.row i d ob hd hi
  have hle : O.le (O.set i ⟨d.b, d.C, g', d.k⟩) := Ow.le_set O i d _ hd (by rw [r.hg]; exact hg) (fun e => by
    have e' : d.g = g' := e
    subst e'; rfl)
  have hiO := (List.getElem?_eq_some_iff.1 hd).1
  refine ⟨⟨by simp [h.len], ?_, ?_, ?_, h.le, h.new, hbel, hws, fun b hk => by rw [hoth b (fun e => r.hB.2 (e ▸ hk))]; exact h.kept b hk, h.kb⟩, hle⟩
  · intro j dj obj hdj hoj
    by_cases hij : i = j
    · subst hij
      rw [List.getElem?_set_self hiO] at hdj
      rw [List.getElem?_set_self (by rw [← h.len]; exact hiO)] at hoj
      cases hdj
      cases hoj
      refine ⟨rfl, r.hk, r.hB, ⟨new, hobj, hz, fun n j x a hx ha => ?_⟩, r.hC, hl, hn, h1, r.hf, hfz⟩
      obtain ⟨c, g1, g2⟩ := hc n j x a hx ha
      exact ⟨c, g1, g2.mono (Fz.le_refl F) hle⟩
    · rw [List.getElem?_set_ne hij] at hdj hoj
      have rj := h.row j dj obj hdj hoj
      obtain ⟨cur', q1, q2, q3⟩ := rj.cur
      refine { rj with cur := ⟨cur', ?_, q2, fun n j x a hx ha => by obtain ⟨c, g1, g2⟩ := q3 n j x a hx ha; exact ⟨c, g1, g2.mono (Fz.le_refl F) hle⟩⟩ }
      rw [hoth dj.b (fun e => hij (h.inj i j d dj hd hdj e.symm))]
      exact q1
  · intro a b da db ha hb hab
    have fix : ∀ (a : Nat) (da : Ds), (O.set i ⟨d.b, d.C, g', d.k⟩)[a]? = some da → ∃ d1, O[a]? = some d1 ∧ d1.b = da.b := fun a da ha => by
      by_cases hia : i = a
      · subst hia
        rw [List.getElem?_set_self hiO] at ha
        cases ha
        exact ⟨d, hd, rfl⟩
      · rw [List.getElem?_set_ne hia] at ha
        exact ⟨da, ha, rfl⟩
    obtain ⟨d1, e1, f1⟩ := fix a da ha
    obtain ⟨d2, e2, f2⟩ := fix b db hb
    exact h.inj a b d1 d2 e1 e2 (by rw [f1, f2]; exact hab)
  · intro b o v hv
    by_cases hbb : b = d.b
    · subst hbb
      exact hf o v hv
    · have := h.fr b o v hv
      rw [World.cell?_of_block (w := w) (hoth b hbb)]
      exact this
/-- A row is given up. -/
theorem Own.kill {B : Bd} {w0 w : World} {F0 F : Fz} {O : Ow} {H : Hp} (h : Own B w0 F0 F O H w) {i : Nat} {ob : OB} {d : Ds} (hi : H[i]? = some ob) (hd : O[i]? = some d) (hfz : ob.fz = 0) {w' : World} (hoth : ∀ b, b ≠ d.b → w'.heap[b]? = w.heap[b]?) (hbel : Below B.n w0 w') (hws : B.n ≤ w'.heap.size) (hobj : ∃ c e' fr, w'.heap[d.b]? = some (.cells c e' fr)) :
    Own B w0 F0 F (O.set i ⟨d.b, d.C, ob.g + 1, 0⟩) (H.set i ⟨mapE, 0, [], ob.g + 1, 0⟩) w' ∧ O.le (O.set i ⟨d.b, d.C, ob.g + 1, 0⟩) := by
  have r := h.row i d ob hd hi
  have hle : O.le (O.set i ⟨d.b, d.C, ob.g + 1, 0⟩) := Ow.le_set O i d _ hd (by rw [r.hg]; exact Nat.le_succ _) (fun e => by
    have e' : d.g = ob.g + 1 := e
    rw [r.hg] at e'
    omega)
  have hiO := (List.getElem?_eq_some_iff.1 hd).1
  have hno : ∀ o v, F d.b o = some v → False := fun o v hv => by
    have := r.hf o v hv
    rw [hfz] at this
    omega
  refine ⟨⟨by simp [h.len], ?_, ?_, ?_, h.le, h.new, hbel, hws, fun b hk => by rw [hoth b (fun e => r.hB.2 (e ▸ hk))]; exact h.kept b hk, h.kb⟩, hle⟩
  · intro j dj obj hdj hoj
    by_cases hij : i = j
    · subst hij
      rw [List.getElem?_set_self hiO] at hdj
      rw [List.getElem?_set_self (by rw [← h.len]; exact hiO)] at hoj
      cases hdj
      cases hoj
      exact ⟨rfl, rfl, r.hB, ⟨#[], .inr ⟨rfl, .inr (.inr ⟨rfl, hobj, rfl, rfl⟩)⟩, fun ne => absurd rfl ne, fun n j x a hx => by simp at hx⟩, r.hC, fun ne => absurd rfl ne, fun x hx => by simp at hx, fun x hx => by simp at hx, fun o v hv => (hno o v hv).elim, Nat.zero_le _⟩
    · rw [List.getElem?_set_ne hij] at hdj hoj
      have rj := h.row j dj obj hdj hoj
      obtain ⟨cur', q1, q2, q3⟩ := rj.cur
      refine { rj with cur := ⟨cur', ?_, q2, fun n j x a hx ha => by obtain ⟨c, g1, g2⟩ := q3 n j x a hx ha; exact ⟨c, g1, g2.mono (Fz.le_refl F) hle⟩⟩ }
      rw [hoth dj.b (fun e => hij (h.inj i j d dj hd hdj e.symm))]
      exact q1
  · intro a b da db ha hb hab
    have fix : ∀ (a : Nat) (da : Ds), (O.set i ⟨d.b, d.C, ob.g + 1, 0⟩)[a]? = some da → ∃ d1, O[a]? = some d1 ∧ d1.b = da.b := fun a da ha => by
      by_cases hia : i = a
      · subst hia
        rw [List.getElem?_set_self hiO] at ha
        cases ha
        exact ⟨d, hd, rfl⟩
      · rw [List.getElem?_set_ne hia] at ha
        exact ⟨da, ha, rfl⟩
    obtain ⟨d1, e1, f1⟩ := fix a da ha
    obtain ⟨d2, e2, f2⟩ := fix b db hb
    exact h.inj a b d1 d2 e1 e2 (by rw [f1, f2]; exact hab)
  · intro b o v hv
    by_cases hbb : b = d.b
    · subst hbb
      exact (hno o v hv).elim
    · have := h.fr b o v hv
      rw [World.cell?_of_block (w := w) (hoth b hbb)]
      exact this
/-- A row is written where it lies. -/
theorem Own.write {B : Bd} {w0 w : World} {F0 F : Fz} {O : Ow} {H : Hp} (h : Own B w0 F0 F O H w) {i : Nat} {ob : OB} {d : Ds} (hi : H[i]? = some ob) (ne : ob.e ≠ mapE) (hd : O[i]? = some d) {new : Array Value} {g' : Nat} {es' : List AV}
    (hg : ob.g ≤ g') (hl : es'.length ≤ d.C) (hz : new.size = d.C * ob.k) (hn : ∀ x ∈ es', x.cells.length = ob.k) (h1 : ∀ x ∈ es', ∀ a ∈ x.cells, AV.one a = true) (hfz : ob.fz ≤ es'.length)
    (hc : ∀ (n j : Nat) (x a : AV), es'[n]? = some x → x.cells[j]? = some a → ∃ c, new[n * ob.k + j]? = some c ∧ VR F O c a) (hf : ∀ o v, F d.b o = some v → new[o]? = some v) :
    Own B w0 F0 F (O.set i ⟨d.b, d.C, g', d.k⟩) (H.set i ⟨ob.e, ob.k, es', g', ob.fz⟩) (w.setRow d.b new) ∧ O.le (O.set i ⟨d.b, d.C, g', d.k⟩) := by
  have r := h.row i d ob hd hi
  obtain ⟨cur, hcur, hsz, _⟩ := r.curc ne
  have hrow : (w.setRow d.b new).heap[d.b]? = some (.cells new ob.e (0, 0)) := setRow_heap w d.b cur new ob.e (0, 0) hcur
  exact h.writeG hi hd (fun b hb => setRow_other w d.b b new hb) (below_setRow' h.below r.hB.1 new) (by simpa using h.size) (.inl ⟨ne, hrow⟩) hg (fun _ => hl) (fun _ => hz) hn h1 hfz hc (fun o v hv => by
    have := hf o v hv
    simp [World.cell?, hrow, this])
/-- A row moves to a new block. -/
theorem Own.move {B : Bd} {w0 w w1 : World} {F0 F : Fz} {O : Ow} {H : Hp} (h : Own B w0 F0 F O H w) (hb : Below w.heap.size w w1) (hs : w1.heap.size = w.heap.size) {i : Nat} {ob : OB} {d : Ds} (hi : H[i]? = some ob) (ne : ob.e ≠ mapE) (hd : O[i]? = some d) {new : Array Value} {C : Nat} {es' : List AV}
    (hC : C ≤ maxLen) (hl : es'.length ≤ C) (hz : new.size = C * ob.k) (hn : ∀ x ∈ es', x.cells.length = ob.k) (h1 : ∀ x ∈ es', ∀ a ∈ x.cells, AV.one a = true) (hfz : ob.fz ≤ es'.length)
    (hc : ∀ (n j : Nat) (x a : AV), es'[n]? = some x → x.cells[j]? = some a → ∃ c, new[n * ob.k + j]? = some c ∧ VR F O c a) :
    Own B w0 F0 F (O.set i ⟨w.heap.size, C, ob.g + 1, ob.k⟩) (H.set i ⟨ob.e, ob.k, es', ob.g + 1, ob.fz⟩) (w1.alloc (.cells new ob.e)) ∧ O.le (O.set i ⟨w.heap.size, C, ob.g + 1, ob.k⟩) := by
  have r := h.row i d ob hd hi
  have hle : O.le (O.set i ⟨w.heap.size, C, ob.g + 1, ob.k⟩) := Ow.le_set O i d _ hd (by rw [r.hg]; exact Nat.le_succ _) (fun e => by
    have e' : d.g = ob.g + 1 := e
    rw [r.hg] at e'
    omega)
  have hiO := (List.getElem?_eq_some_iff.1 hd).1
  have hw1 : Own B w0 F0 F O H w1 := h.keep hb
  have hb2 : Below w1.heap.size w1 (w1.alloc (.cells new ob.e)) := (Below.refl _ _).alloc (Nat.le_refl _) _
  have hw2 := hw1.keep hb2
  refine ⟨⟨by simp [h.len], ?_, ?_, hw2.fr, hw2.le, hw2.new, hw2.below, hw2.size, hw2.kept, hw2.kb⟩, hle⟩
  · intro j dj obj hdj hoj
    by_cases hij : i = j
    · subst hij
      rw [List.getElem?_set_self hiO] at hdj
      rw [List.getElem?_set_self (by rw [← h.len]; exact hiO)] at hoj
      cases hdj
      cases hoj
      refine ⟨rfl, rfl, h.okGe (Nat.le_refl _), ⟨new, .inl ⟨ne, ?_⟩, fun _ => hz, fun n j x a hx ha => ?_⟩, hC, fun _ => hl, hn, h1, ?_, hfz⟩
      · show (w1.heap.push _)[w.heap.size]? = _
        rw [← hs, Array.getElem?_push_size]
      · obtain ⟨c, g1, g2⟩ := hc n j x a hx ha
        exact ⟨c, g1, g2.mono (Fz.le_refl F) hle⟩
      · intro o v hv
        have := lt_of_cell (h.fr _ _ _ hv)
        simp at this
    · rw [List.getElem?_set_ne hij] at hdj hoj
      have rj := hw2.row j dj obj hdj hoj
      obtain ⟨cur', q1, q2, q3⟩ := rj.cur
      exact { rj with cur := ⟨cur', q1, q2, fun n j x a hx ha => by obtain ⟨c, g1, g2⟩ := q3 n j x a hx ha; exact ⟨c, g1, g2.mono (Fz.le_refl F) hle⟩⟩ }
  · intro a b da db ha hb' hab
    have fix : ∀ (a : Nat) (da : Ds), a ≠ i → (O.set i ⟨w.heap.size, C, ob.g + 1, ob.k⟩)[a]? = some da → O[a]? = some da ∧ da.b < w.heap.size := fun a da hia ha => by
      rw [List.getElem?_set_ne (fun e => hia e.symm)] at ha
      have : a < H.length := by rw [← h.len]; exact (List.getElem?_eq_some_iff.1 ha).1
      exact ⟨ha, (h.row a da _ ha (List.getElem?_eq_getElem this)).lt⟩
    have same : ∀ (da : Ds), (O.set i ⟨w.heap.size, C, ob.g + 1, ob.k⟩)[i]? = some da → da.b = w.heap.size := fun da ha => by
      rw [List.getElem?_set_self hiO] at ha
      cases ha
      rfl
    by_cases ha' : a = i
    · subst ha'
      by_cases hb2 : b = a
      · exact hb2.symm
      · have := (fix b db hb2 hb').2
        have := same da ha
        omega
    · by_cases hb2 : b = i
      · subst hb2
        have := (fix a da ha' ha).2
        have := same db hb'
        omega
      · exact h.inj a b da db (fix a da ha' ha).1 (fix b db hb2 hb').1 hab
end Go.Proofs.YtgcnbbjapapnjaaDoor.Sim
