/- A contract on few rows among many, by a check that the kernel runs. -/
import Derived.Test.YtbpchkfpfcnlhaaGreatDoorSimVn
import Derived.Test.YtbpchkfpfcnlhaaGreatDoorSimVg
namespace Go.Proofs.YtbpchkfpfcnlhaaGreatDoor.Sim
open Go.RowKit
set_option linter.unusedVariables false
set_option linter.unusedSimpArgs false
def bkEs (ρ : Nat → Nat) : List AV → List AV → Bool
  | [], [] => true
  | b :: bs, a :: as => (match bkL ρ a.cells with | some cs => beqL (beqA 40) cs b.cells | none => false) && bkEs ρ bs as
  | _, _ => false
theorem bkEs_ok {ρ : Nat → Nat} : ∀ {bs as : List AV}, bkEs ρ bs as = true → bs.length = as.length ∧ ∀ (n : Nat) (e2 : AV), bs[n]? = some e2 → ∃ e, as[n]? = some e ∧ bkL ρ e.cells = some e2.cells
  | [], [], _ => ⟨rfl, fun n e2 h => by simp at h⟩
  | [], _ :: _, h => by cases h
  | _ :: _, [], h => by cases h
  | b :: bs, a :: as, h => by
    simp only [bkEs, Bool.and_eq_true] at h
    obtain ⟨h1, h2⟩ := h
    obtain ⟨l, k⟩ := bkEs_ok h2
    refine ⟨by simp [l], fun n e2 he => ?_⟩
    cases n with
    | zero =>
      simp at he; subst he
      split at h1
      · rename_i cs hcs
        exact ⟨a, rfl, by rw [hcs, beqL_eq (beqA_eq 40) h1]⟩
      · cases h1
    | succ n => obtain ⟨e, q⟩ := k n e2 (by simpa using he); exact ⟨e, by simpa using q⟩
def bkRow (ρ : Nat → Nat) (o o2 : OB) : Bool := decide (o2.e = o.e) && (decide (o2.k = o.k) && (decide (o2.g = o.g) && (decide (o2.fz = o.fz) && bkEs ρ o2.es o.es)))
def bkRows (ρ : Nat → Nat) (Hb : Hp) : Nat → Hp → Bool
  | _, [] => true
  | j, o :: Hl => (match Hb[ρ j]? with | some o2 => bkRow ρ o o2 | none => false) && bkRows ρ Hb (j + 1) Hl
theorem bkRows_ok {ρ : Nat → Nat} {Hb : Hp} : ∀ {Hl : Hp} {j : Nat}, bkRows ρ Hb j Hl = true → ∀ (i : Nat) (ob : OB), Hl[i]? = some ob → ∃ ob2, Hb[ρ (j + i)]? = some ob2 ∧ ob2.e = ob.e ∧ ob2.k = ob.k ∧ ob2.g = ob.g ∧ ob2.fz = ob.fz ∧ ob2.es.length = ob.es.length ∧ ∀ (n : Nat) (e2 : AV), ob2.es[n]? = some e2 → ∃ e, ob.es[n]? = some e ∧ bkL ρ e.cells = some e2.cells
  | [], j, _, i, ob, h => by simp at h
  | o :: Hl, j, h, i, ob, hi => by
    simp only [bkRows, Bool.and_eq_true] at h
    obtain ⟨h1, h2⟩ := h
    cases i with
    | zero =>
      simp at hi; subst hi
      split at h1
      · rename_i o2 ho
        simp only [bkRow, Bool.and_eq_true, decide_eq_true_eq] at h1
        obtain ⟨a1, a2, a3, a4, a5⟩ := h1
        obtain ⟨b1, b2⟩ := bkEs_ok a5
        exact ⟨o2, ho, a1, a2, a3, a4, b1, b2⟩
      · cases h1
    | succ i =>
      have := bkRows_ok h2 i ob (by simpa using hi)
      rwa [show j + (i + 1) = j + 1 + i by omega]
def restB (T : Tb) : Nat → Hp → Hp → Bool
  | _, [], _ => true
  | _, _ :: _, [] => false
  | J, o :: Hb, o2 :: Hb2 => (T.any (fun p => decide (p.2.1 = J)) || beqO o o2) && restB T (J + 1) Hb Hb2
theorem restB_ok {T : Tb} : ∀ {Hb Hb2 : Hp} {J : Nat}, restB T J Hb Hb2 = true → ∀ i, i < Hb.length → (∀ p ∈ T, p.2.1 ≠ J + i) → Hb2[i]? = Hb[i]?
  | [], _, _, _, i, hi, _ => by simp at hi
  | _ :: _, [], _, h, _, _, _ => by cases h
  | o :: Hb, o2 :: Hb2, J, h, i, hi, hn => by
    simp only [restB, Bool.and_eq_true, Bool.or_eq_true] at h
    obtain ⟨h1, h2⟩ := h
    cases i with
    | zero =>
      rcases h1 with h1 | h1
      · obtain ⟨p, hp, hq⟩ := List.any_eq_true.1 h1
        exact absurd (of_decide_eq_true hq) (hn p hp)
      · rw [beqO_eq h1]; rfl
    | succ i =>
      have := restB_ok h2 i (by simpa using hi) (fun p hp => by have := hn p hp; omega)
      simpa using this
def asB (T : Tb) : List AV → List AV → Bool
  | [], [] => true
  | b :: bs, a :: as => beqOL (rnB T b) a && asB T bs as
  | _, _ => false
theorem asB_ok {T : Tb} : ∀ {bs as : List AV}, asB T bs as = true → as.length = bs.length ∧ ∀ (i : Nat) (b : AV), bs[i]? = some b → ∃ a, as[i]? = some a ∧ rnB T b = some a
  | [], [], _ => ⟨rfl, fun i b h => by simp at h⟩
  | [], _ :: _, h => by cases h
  | _ :: _, [], h => by cases h
  | b :: bs, a :: as, h => by
    simp only [asB, Bool.and_eq_true] at h
    obtain ⟨h1, h2⟩ := h
    obtain ⟨l, k⟩ := asB_ok h2
    refine ⟨by simp [l], fun i c hc => ?_⟩
    cases i with
    | zero =>
      simp at hc; subst hc
      refine ⟨a, rfl, ?_⟩
      unfold beqOL at h1
      split at h1
      · rename_i x hx
        rw [hx, beqA_eq 40 _ _ h1]
      · cases h1
    | succ i => obtain ⟨a', q⟩ := k i c (by simpa using hc); exact ⟨a', by simpa using q⟩
/-- A contract on the rows Hl serves for the call e, whose heap holds these rows where T says. -/
def frB (T : Tb) (asl : List AV) (Hl : Hp) (r : AV) (Hl' : Hp) (e : Me) : Bool :=
  chkRows T e.H T Hl && (decide ((T.map (·.2.1)).Nodup) && (T.all (fun p => decide (p.1 = p.2.2)) && (asB T asl e.as && (beqOL (bkB (rho T e.H.length) r) e.r &&
    (decide (T.length ≤ Hl'.length) && (decide (e.H'.length = e.H.length + (Hl'.length - T.length)) && (bkRows (rho T e.H.length) e.H' 0 Hl' && restB T 0 e.H e.H')))))))
theorem MeOk.fr {P : Program} {G : Nat → AV} {e : Me} {T : Tb} {asl : List AV} {Hl Hl' : Hp} {r : AV} (hb : hasBody P e.f = true) (h : HC P G e.f asl Hl r Hl') (c : frB T asl Hl r Hl' e = true) : MeOk P G e := by
  simp only [frB, Bool.and_eq_true] at c
  obtain ⟨c1, c2, c3, c4, c5, c6, c7, c8, c9⟩ := c
  obtain ⟨b1, b2⟩ := chkRows_ok c1
  have hinj : ∀ (j j' g2 i g g2' g' : Nat), T[j]? = some (g2, i, g) → T[j']? = some (g2', i, g') → j = j' := fun j j' g2 i g g2' g' hj hj' => by
    have h3 := of_decide_eq_true c2
    have e1 : (T.map (·.2.1))[j]? = some i := by rw [List.getElem?_map, hj]; rfl
    have e2 : (T.map (·.2.1))[j']? = some i := by rw [List.getElem?_map, hj']; rfl
    obtain ⟨l1, l1'⟩ := List.getElem?_eq_some_iff.1 e1
    obtain ⟨l2, l2'⟩ := List.getElem?_eq_some_iff.1 e2
    have hp := List.pairwise_iff_getElem.1 h3
    rcases Nat.lt_trichotomy j j' with q | q | q
    · exact absurd (l1'.trans l2'.symm) (hp j j' l1 l2 q)
    · exact q
    · exact absurd (l2'.trans l1'.symm) (hp j' j l2 l1 q)
  obtain ⟨a1, a2⟩ := asB_ok c4
  refine ⟨hb, HC.frame T h ⟨b1, b2, hinj⟩ (fun j g2 i g ht => ?_) a1 a2 ?_ ⟨of_decide_eq_true c6, of_decide_eq_true c7, fun j ob hj => ?_, fun J hJ hn => ?_⟩⟩
  · exact of_decide_eq_true (List.all_eq_true.1 c3 _ (List.mem_of_getElem? ht))
  · unfold beqOL at c5
    split at c5
    · rename_i x hx
      rw [hx, beqA_eq 40 _ _ c5]
    · cases c5
  · have := bkRows_ok c8 j ob hj
    rwa [Nat.zero_add] at this
  · refine restB_ok c9 J hJ fun p hp hpe => ?_
    obtain ⟨j, hj⟩ := List.getElem?_of_mem hp
    have hjl := (List.getElem?_eq_some_iff.1 hj).1
    refine hn j hjl ?_
    have hpe' : p.2.1 = J := by omega
    simp only [rho, hj]
    exact hpe'
end Go.Proofs.YtbpchkfpfcnlhaaGreatDoor.Sim
