/- A call that knows some rows only, by evaluation. -/
import Derived.Test.YtgcnbbjapapnjaaDoorSimVg
namespace Go.Proofs.YtgcnbbjapapnjaaDoor.Sim
open Go.RowKit
set_option linter.unusedVariables false
set_option linter.unusedSimpArgs false
/-- A row's elements, in the greater frame. -/
inductive ObBk (ρ : Nat → Nat) (es : List AV) (k : List AV → Prop) : Prop
  | same (hn : es.all nrB = true) (hk : k es) : ObBk ρ es k
  | lit (es2 : List AV) (h : (es.map fun e => bkM ρ e.cells) = es2.map fun e => some e.cells) (hk : k es2) : ObBk ρ es k
def RB (ρ : Nat → Nat) (ob ob2 : OB) : Prop := ob2.e = ob.e ∧ ob2.k = ob.k ∧ ob2.g = ob.g ∧ ob2.fz = ob.fz ∧ ob2.es.length = ob.es.length ∧ ∀ (n : Nat) (e2 : AV), ob2.es[n]? = some e2 → ∃ e, ob.es[n]? = some e ∧ bkM ρ e.cells = some e2.cells
theorem nrB_bk {ρ : Nat → Nat} {a : AV} (h : nrB a = true) : bkM ρ a.cells = some a.cells := by
  unfold nrB at h
  generalize a.cells = cs at h
  induction cs with
  | nil => rfl
  | cons c cs ih =>
    simp only [List.all_cons, Bool.and_eq_true] at h
    have h1 : bkD ρ c = some c := by
      cases c with
      | v => rfl
      | sl => rfl
      | ad => rfl
      | nl => rfl
      | em => rfl
      | _ => simp at h
    simp [bkM, h1, ih h.2]
def frR (ρ : Nat → Nat) (o : OB) (k : OB → Prop) : Prop :=
  match o with
  | ⟨e, kk, es, g, fz⟩ => ObBk ρ es (fun es' => k ⟨e, kk, es', g, fz⟩)
theorem frR_ok {ρ : Nat → Nat} {o : OB} {k : OB → Prop} (h : frR ρ o k) : ∃ o', RB ρ o o' ∧ k o' := by
  obtain ⟨e, kk, es, g, fz⟩ := o
  rcases h with ⟨hn, hk⟩ | ⟨es2, h, hk⟩
  · exact ⟨_, ⟨rfl, rfl, rfl, rfl, rfl, fun n e2 he => ⟨e2, he, nrB_bk (List.all_eq_true.1 hn e2 (List.mem_of_getElem? he))⟩⟩, hk⟩
  · have hl : es2.length = es.length := by have := congrArg List.length h; simpa using this.symm
    refine ⟨⟨e, kk, es2, g, fz⟩, ⟨rfl, rfl, rfl, rfl, hl, fun n e2 he => ?_⟩, hk⟩
    have hn : n < es.length := by rw [← hl]; exact (List.getElem?_eq_some_iff.1 he).1
    have := congrArg (·[n]?) h
    have he' : es2[n]? = some e2 := he
    simp only [List.getElem?_map, he', List.getElem?_eq_getElem hn, Option.map_some, Option.some.injEq] at this
    exact ⟨es[n], List.getElem?_eq_getElem hn, this⟩
/-- The greater frame behind the call. -/
def frK (ρ : Nat → Nat) : Tb → Hp → Hp → (Hp → Prop) → Prop
  | [], [], Hb, k => k Hb
  | [], o :: Hl, Hb, k => frR ρ o (fun o' => aK Hb nums o' (fun _ H => frK ρ [] Hl H k))
  | (_, i, _) :: T, o :: Hl, Hb, k => frR ρ o (fun o' => rpK Hb i o' (fun H => frK ρ T Hl H k))
  | _ :: _, [], _, _ => False
theorem frK_new {ρ : Nat → Nat} : ∀ {Hl Hb : Hp} {k : Hp → Prop}, frK ρ [] Hl Hb k → ∃ Hb', k Hb' ∧ Hb'.length = Hb.length + Hl.length ∧ (∀ (j : Nat) (ob : OB), Hl[j]? = some ob → ∃ ob2, Hb'[Hb.length + j]? = some ob2 ∧ RB ρ ob ob2) ∧ ∀ J, J < Hb.length → Hb'[J]? = Hb[J]?
  | [], Hb, k, h => ⟨Hb, h, rfl, fun j ob hj => by simp at hj, fun _ _ => rfl⟩
  | o :: Hl, Hb, k, h => by
    obtain ⟨o', h1, h2⟩ := frR_ok h
    have h3 := aK_ok h2
    obtain ⟨Hb', k1, k2, k3, k4⟩ := frK_new (Hl := Hl) h3
    refine ⟨Hb', k1, by rw [k2]; simp; omega, fun j ob hj => ?_, fun J hJ => ?_⟩
    · cases j with
      | zero =>
        simp at hj
        subst hj
        refine ⟨o', ?_, h1⟩
        have := k4 Hb.length (by simp)
        simpa using this
      | succ j =>
        obtain ⟨ob2, q1, q2⟩ := k3 j ob (by simpa using hj)
        refine ⟨ob2, ?_, q2⟩
        rw [← q1]; congr 1; simp; omega
    · rw [k4 J (by simp; omega), List.getElem?_append_left hJ]
theorem frK_ok {ρ : Nat → Nat} : ∀ {T : Tb} {Hl Hb : Hp} {k : Hp → Prop}, frK ρ T Hl Hb k → (∀ p ∈ T, p.2.1 < Hb.length) → (T.map (·.2.1)).Nodup → ∃ Hb', k Hb' ∧ T.length ≤ Hl.length ∧ Hb'.length = Hb.length + (Hl.length - T.length) ∧
    (∀ (j : Nat) (ob : OB), Hl[j]? = some ob → ∃ ob2, Hb'[rho T Hb.length j]? = some ob2 ∧ RB ρ ob ob2) ∧ ∀ J, J < Hb.length → (∀ p ∈ T, p.2.1 ≠ J) → Hb'[J]? = Hb[J]?
  | [], Hl, Hb, k, h, _, _ => by
    obtain ⟨Hb', k1, k2, k3, k4⟩ := frK_new h
    refine ⟨Hb', k1, Nat.zero_le _, by simpa using k2, fun j ob hj => ?_, fun J hJ _ => k4 J hJ⟩
    obtain ⟨ob2, q1, q2⟩ := k3 j ob hj
    exact ⟨ob2, by simpa [rho] using q1, q2⟩
  | (g2, i, g) :: T, [], Hb, k, h, _, _ => by simp [frK] at h
  | (g2, i, g) :: T, o :: Hl, Hb, k, h, hlt, hnd => by
    simp only [frK] at h
    obtain ⟨o', h1, h2⟩ := frR_ok h
    rw [rpK_eq] at h2
    have hi : i < Hb.length := hlt (g2, i, g) (List.mem_cons_self ..)
    simp only [List.map_cons, List.nodup_cons] at hnd
    obtain ⟨Hb', k1, k2, k3, k4, k5⟩ := frK_ok (T := T) h2 (fun p hp => by simpa using hlt p (List.mem_cons_of_mem _ hp)) hnd.2
    simp only [List.length_set] at k3 k4 k5
    refine ⟨Hb', k1, by simpa using k2, by rw [k3]; simp, fun j ob hj => ?_, fun J hJ hn => ?_⟩
    · cases j with
      | zero =>
        simp at hj
        subst hj
        refine ⟨o', ?_, h1⟩
        have := k5 i hi (fun p hp he => hnd.1 (List.mem_map.2 ⟨p, hp, he⟩))
        rw [List.getElem?_set_self hi] at this
        simpa [rho] using this
      | succ j =>
        obtain ⟨ob2, q1, q2⟩ := k4 j ob (by simpa using hj)
        refine ⟨ob2, ?_, q2⟩
        rw [← q1]
        congr 1
        simp [rho]
    · rw [k5 J hJ (fun p hp => hn p (List.mem_cons_of_mem _ hp)), List.getElem?_set_ne]
      exact fun e => hn (g2, i, g) (List.mem_cons_self ..) e
/-- The values that are handed over, as the lesser frame has them. -/
inductive ObAs (T : Tb) (as asl : List AV) (k : Prop) : Prop
  | mk (h : (asl.map fun b => rnB T b) = as.map some) (hk : k) : ObAs T as asl k
inductive ObRs (ρ : Nat → Nat) (r : AV) (k : AV → Prop) : Prop
  | mk (r' : AV) (h : bkB ρ r = some r') (hk : k r') : ObRs ρ r k
section
variable {P : Program} {G : Nat → AV}
theorem ObH.fr {f : FuncId} {as : List AV} {Hb : Hp} {k : KK} (T : Tb) {asl : List AV} {Hl Hl' : Hp} {r : AV} (h : HC P G f asl Hl r Hl') (hn : (T.map (·.2.1)).Nodup) (hid : (T.map (·.1)) = T.map (·.2.2))
    (hlt : ∀ p ∈ T, p.2.1 < Hb.length) (hk : vwK T Hb T Hl (ObAs T as asl (ObRs (rho T Hb.length) r (fun r' => frK (rho T Hb.length) T Hl' Hb (fun H' => k r' H'))))) : ObH P G f as Hb k := by
  have hv : Vw T Hb Hl := Vw.of (by
    have go : ∀ {T0 : Tb} {H : Hp} {T : Tb} {H2 : Hp} {k : Prop}, vwK T0 H T H2 k → vwK T0 H T H2 True := by
      intro T0 H T
      induction T with
      | nil => intro H2 k h; cases H2 <;> first | trivial | exact h.elim
      | cons p T ih =>
        intro H2 k h
        obtain ⟨g2, i, g⟩ := p
        cases H2 with
        | nil => exact h.elim
        | cons o2 H2 =>
          simp only [vwK] at h ⊢
          have rk : ∀ {H : Hp} {i : Nat} {q q' : OB → Prop}, (∀ o, q o → q' o) → rK H i q → rK H i q' := by
            intro H
            induction H with
            | nil => intro i q q' _ h; exact h.elim
            | cons o H ihH =>
              intro i q q' hq h
              cases i with
              | zero => exact hq o h
              | succ i => exact ihH hq h
          refine rk (fun o ho => ?_) h
          obtain ⟨e, kk, es, g', fz⟩ := o
          obtain ⟨e2, kk2, es2, g2', fz2⟩ := o2
          obtain ⟨a1, a2, a3, a4, a5, ho⟩ := ho
          refine ⟨a1, a2, a3, a4, a5, ?_⟩
          rcases ho with ⟨b1, b2, b3⟩ | ⟨b1, b2⟩
          · exact .same b1 b2 (ih b3)
          · exact .lit b1 (ih b2)
    exact go hk) hn
  obtain ⟨_, ha, r', hr, hk⟩ := vwK_ok hk
  obtain ⟨Hb', k1, k2, k3, k4, k5⟩ := frK_ok hk hlt hn
  have hal : as.length = asl.length := by have := congrArg List.length ha; simpa using this.symm
  refine ⟨r', Hb', HC.frame T h hv (fun j g2 i g ht => ?_) hal (fun i b hb => ?_) hr ⟨k2, k3, k4, fun J hJ hJn => k5 J hJ fun p hp he => ?_⟩, k1⟩
  · have := congrArg (·[j]?) hid
    simpa [ht] using this
  · have hi : i < as.length := by rw [hal]; exact (List.getElem?_eq_some_iff.1 hb).1
    have := congrArg (·[i]?) ha
    simp only [List.getElem?_map, hb, List.getElem?_eq_getElem hi, Option.map_some, Option.some.injEq] at this
    exact ⟨as[i], List.getElem?_eq_getElem hi, this⟩
  · obtain ⟨j, hj, rfl⟩ := List.getElem_of_mem hp
    refine hJn j hj ?_
    simp only [rho, List.getElem?_eq_getElem hj]
    exact he
end
end Go.Proofs.YtgcnbbjapapnjaaDoor.Sim
