/- A function run by the kernel on arguments that are not known: what has to be equal is collected, and shown to be equal afterwards. -/
import Derived.Test.YtiboffcmlikmnaaGreatDoorSimVn
namespace Go.Proofs.YtiboffcmlikmnaaGreatDoor.Sim
open Go.RowKit
set_option linter.unusedVariables false
/-- Pairs that have to be equal. -/
abbrev Pr := List (Value × Value)
def Pr.Ok (L : Pr) : Prop := ∀ p ∈ L, p.1 = p.2
theorem Pr.ok_map : ∀ {L : Pr}, L.map (·.1) = L.map (·.2) → L.Ok
  | [], _ => fun p hp => by simp at hp
  | x :: L, h => fun p hp => by
    simp only [List.map_cons, List.cons.injEq] at h
    rcases List.mem_cons.1 hp with rfl | hp
    · exact h.1
    · exact Pr.ok_map h.2 p hp
def eqL (f : AV → AV → Pr → Option Pr) : List AV → List AV → Pr → Option Pr
  | [], [], L => some L
  | a :: as, b :: bs, L => (match f a b L with | some L' => eqL f as bs L' | none => none)
  | _, _, _ => none
/-- Equal but for values, which are collected. -/
def eqA : Nat → AV → AV → Pr → Option Pr
  | 0, _, _, _ => none
  | n + 1, a, b, L =>
    match a, b with
    | .v x, .v y => some ((x, y) :: L)
    | .agg as, .agg bs => eqL (eqA n) as bs L
    | .tup as, .tup bs => eqL (eqA n) as bs L
    | .sl k es, .sl k' es' => if k = k' then eqL (eqA n) es es' L else none
    | a, b => if beqA 40 a b = true then some L else none
def EqOk {α : Type} (f : α → α → Pr → Option Pr) : Prop := ∀ (a b : α) (L L' : Pr), f a b L = some L' → (∀ p ∈ L, p ∈ L') ∧ (L'.Ok → a = b)
theorem eqL_ok {f : AV → AV → Pr → Option Pr} (hf : EqOk f) : EqOk (eqL f)
  | [], [], L, L', h => by cases h; exact ⟨fun p hp => hp, fun _ => rfl⟩
  | [], _ :: _, L, L', h => by cases h
  | _ :: _, [], L, L', h => by cases h
  | a :: as, b :: bs, L, L', h => by
    simp only [eqL] at h
    split at h
    · rename_i L1 h1
      obtain ⟨a1, a2⟩ := hf _ _ _ _ h1
      obtain ⟨b1, b2⟩ := eqL_ok hf as bs _ _ h
      exact ⟨fun p hp => b1 p (a1 p hp), fun hL => by rw [a2 fun p hp => hL p (b1 p hp), b2 hL]⟩
    · cases h
theorem eqA_ok : ∀ n : Nat, EqOk (eqA n)
  | 0 => fun a b L L' h => by cases h
  | n + 1 => fun a b L L' h => by
    unfold eqA at h
    split at h
    · cases h
      exact ⟨fun p hp => List.mem_cons_of_mem _ hp, fun hL => congrArg AV.v (hL _ List.mem_cons_self)⟩
    · obtain ⟨a1, a2⟩ := eqL_ok (eqA_ok n) _ _ _ _ h
      exact ⟨a1, fun hL => by rw [a2 hL]⟩
    · obtain ⟨a1, a2⟩ := eqL_ok (eqA_ok n) _ _ _ _ h
      exact ⟨a1, fun hL => by rw [a2 hL]⟩
    · split at h
      · rename_i hk
        obtain ⟨a1, a2⟩ := eqL_ok (eqA_ok n) _ _ _ _ h
        exact ⟨a1, fun hL => by rw [a2 hL, hk]⟩
      · cases h
    · split at h
      · rename_i hb
        cases h
        exact ⟨fun p hp => hp, fun _ => beqA_eq 40 _ _ hb⟩
      · cases h
def eqO (a b : OB) (L : Pr) : Option Pr := if (decide (a.e = b.e) && decide (a.k = b.k) && decide (a.g = b.g) && decide (a.fz = b.fz)) = true then eqL (eqA 40) a.es b.es L else none
theorem eqO_ok : EqOk eqO := fun a b L L' h => by
  unfold eqO at h
  split at h
  · rename_i hb
    simp only [Bool.and_eq_true, decide_eq_true_eq] at hb
    obtain ⟨⟨⟨h1, h2⟩, h4⟩, h5⟩ := hb
    obtain ⟨a1, a2⟩ := eqL_ok (eqA_ok 40) _ _ _ _ h
    refine ⟨a1, fun hL => ?_⟩
    have h3 := a2 hL
    cases a; cases b
    simp only at h1 h2 h3 h4 h5
    rw [h1, h2, h3, h4, h5]
  · cases h
def eqH : Hp → Hp → Pr → Option Pr
  | [], [], L => some L
  | a :: as, b :: bs, L => (match eqO a b L with | some L' => eqH as bs L' | none => none)
  | _, _, _ => none
theorem eqH_ok : EqOk eqH
  | [], [], L, L', h => by cases h; exact ⟨fun p hp => hp, fun _ => rfl⟩
  | [], _ :: _, L, L', h => by cases h
  | _ :: _, [], L, L', h => by cases h
  | a :: as, b :: bs, L, L', h => by
    simp only [eqH] at h
    split at h
    · rename_i L1 h1
      obtain ⟨a1, a2⟩ := eqO_ok _ _ _ _ h1
      obtain ⟨b1, b2⟩ := eqH_ok as bs _ _ h
      exact ⟨fun p hp => b1 p (a1 p hp), fun hL => by rw [a2 fun p hp => hL p (b1 p hp), b2 hL]⟩
    · cases h
def eqS (a b : St) (L : Pr) : Option Pr := match eqL (eqA 40) a.s b.s L with | some L' => eqH a.H b.H L' | none => none
theorem eqS_ok : EqOk eqS := fun a b L L' h => by
  unfold eqS at h
  split at h
  · rename_i L1 h1
    obtain ⟨a1, a2⟩ := eqL_ok (eqA_ok 40) _ _ _ _ h1
    obtain ⟨b1, b2⟩ := eqH_ok _ _ _ _ h
    refine ⟨fun p hp => b1 p (a1 p hp), fun hL => ?_⟩
    have q1 := a2 fun p hp => hL p (b1 p hp)
    have q2 := b2 hL
    cases a; cases b
    simp only at q1 q2
    rw [q1, q2]
  · cases h
def chkSlotsP (T : Tb) : List AV → List AV → Pr → Option Pr
  | [], [], L => some L
  | a :: as, b :: bs, L => if isUnk b = true then chkSlotsP T as bs L else (match rnB T b with | some x => (match eqA 40 x a L with | some L' => chkSlotsP T as bs L' | none => none) | none => none)
  | _, _, _ => none
def chkEsP (T : Tb) : List AV → List AV → Pr → Option Pr
  | [], [], L => some L
  | a :: as, b :: bs, L => (match rnL T b.cells with | some cs => (match eqL (eqA 40) cs a.cells L with | some L' => chkEsP T as bs L' | none => none) | none => none)
  | _, _, _ => none
def chkRowP (T : Tb) (H : Hp) (p : Nat × Nat × Nat) (ob2 : OB) (L : Pr) : Option Pr :=
  match H[p.2.1]? with
  | some ob => if (decide (p.1 = ob2.g) && (decide (ob.g = p.2.2) && (decide (ob2.e = ob.e) && (decide (ob2.k = ob.k) && decide (ob2.fz = ob.fz))))) = true then chkEsP T ob.es ob2.es L else none
  | none => none
def chkRowsP (T : Tb) (H : Hp) : Tb → Hp → Pr → Option Pr
  | [], [], L => some L
  | p :: ps, ob :: obs, L => (match chkRowP T H p ob L with | some L' => chkRowsP T H ps obs L' | none => none)
  | _, _, _ => none
def chkNP (m : Nat) (T : Tb) (st st2 : St) (L : Pr) : Option Pr :=
  if (decide (T.map (·.2.1)).Nodup && (List.range m).all fun j => match T[j]? with | some (g2, i, g) => decide (i = j) && decide (g2 = g) | none => false) = true then
    (match chkSlotsP T st.s st2.s L with | some L' => chkRowsP T st.H T st2.H L' | none => none)
  else none
theorem chkSlotsP_ok {T : Tb} : ∀ {as bs : List AV} {L L' : Pr}, chkSlotsP T as bs L = some L' → (∀ p ∈ L, p ∈ L') ∧ (L'.Ok → as.length = bs.length ∧ ∀ (i : Nat) (b : AV), bs[i]? = some b → b = .unk ∨ ∃ a, as[i]? = some a ∧ rnB T b = some a)
  | [], [], L, L', h => by cases h; exact ⟨fun p hp => hp, fun _ => ⟨rfl, fun i b h => by simp at h⟩⟩
  | [], _ :: _, L, L', h => by cases h
  | _ :: _, [], L, L', h => by cases h
  | a :: as, b :: bs, L, L', h => by
    simp only [chkSlotsP] at h
    split at h
    · rename_i hu
      obtain ⟨c1, c2⟩ := chkSlotsP_ok h
      refine ⟨c1, fun hL => ?_⟩
      obtain ⟨q1, q2⟩ := c2 hL
      refine ⟨by simp [q1], fun i c hc => ?_⟩
      cases i with
      | zero =>
        simp at hc
        subst hc
        left
        cases b <;> first | rfl | cases hu
      | succ i => exact q2 i c (by simpa using hc)
    · split at h
      · rename_i x hx
        split at h
        · rename_i L1 h1
          obtain ⟨e1, e2⟩ := eqA_ok 40 _ _ _ _ h1
          obtain ⟨c1, c2⟩ := chkSlotsP_ok h
          refine ⟨fun p hp => c1 p (e1 p hp), fun hL => ?_⟩
          obtain ⟨q1, q2⟩ := c2 hL
          have ex := e2 fun p hp => hL p (c1 p hp)
          refine ⟨by simp [q1], fun i c hc => ?_⟩
          cases i with
          | zero =>
            simp at hc
            subst hc
            exact .inr ⟨a, rfl, by rw [hx, ex]⟩
          | succ i => exact q2 i c (by simpa using hc)
        · cases h
      · cases h
theorem chkEsP_ok {T : Tb} : ∀ {as bs : List AV} {L L' : Pr}, chkEsP T as bs L = some L' → (∀ p ∈ L, p ∈ L') ∧ (L'.Ok → bs.length = as.length ∧ ∀ (n : Nat) (e2 : AV), bs[n]? = some e2 → ∃ e, as[n]? = some e ∧ rnL T e2.cells = some e.cells)
  | [], [], L, L', h => by cases h; exact ⟨fun p hp => hp, fun _ => ⟨rfl, fun i b h => by simp at h⟩⟩
  | [], _ :: _, L, L', h => by cases h
  | _ :: _, [], L, L', h => by cases h
  | a :: as, b :: bs, L, L', h => by
    simp only [chkEsP] at h
    split at h
    · rename_i cs hcs
      split at h
      · rename_i L1 h1
        obtain ⟨e1, e2⟩ := eqL_ok (eqA_ok 40) _ _ _ _ h1
        obtain ⟨c1, c2⟩ := chkEsP_ok h
        refine ⟨fun p hp => c1 p (e1 p hp), fun hL => ?_⟩
        obtain ⟨q1, q2⟩ := c2 hL
        have ex := e2 fun p hp => hL p (c1 p hp)
        refine ⟨by simp [q1], fun i c hc => ?_⟩
        cases i with
        | zero =>
          simp at hc
          subst hc
          exact ⟨a, rfl, by rw [hcs, ex]⟩
        | succ i => exact q2 i c (by simpa using hc)
      · cases h
    · cases h
theorem chkRowsP_ok {T : Tb} {H : Hp} : ∀ {ps : Tb} {obs : Hp} {L L' : Pr}, chkRowsP T H ps obs L = some L' → (∀ p ∈ L, p ∈ L') ∧ (L'.Ok → obs.length = ps.length ∧ ∀ (j : Nat) (ob2 : OB), obs[j]? = some ob2 → ∃ i g ob, ps[j]? = some (ob2.g, i, g) ∧ H[i]? = some ob ∧ ob.g = g ∧ ob2.e = ob.e ∧ ob2.k = ob.k ∧ ob2.fz = ob.fz ∧ ob2.es.length = ob.es.length ∧
    ∀ (n : Nat) (e2 : AV), ob2.es[n]? = some e2 → ∃ e, ob.es[n]? = some e ∧ rnL T e2.cells = some e.cells)
  | [], [], L, L', h => by cases h; exact ⟨fun p hp => hp, fun _ => ⟨rfl, fun i b h => by simp at h⟩⟩
  | [], _ :: _, L, L', h => by cases h
  | _ :: _, [], L, L', h => by cases h
  | p :: ps, ob :: obs, L, L', h => by
    simp only [chkRowsP] at h
    split at h
    · rename_i L1 h1
      unfold chkRowP at h1
      split at h1
      · rename_i o ho
        split at h1
        · rename_i hb
          simp only [Bool.and_eq_true, decide_eq_true_eq] at hb
          obtain ⟨a1, a2, a3, a4, a5⟩ := hb
          obtain ⟨b1, b2⟩ := chkEsP_ok h1
          obtain ⟨c1, c2⟩ := chkRowsP_ok h
          refine ⟨fun x hx => c1 x (b1 x hx), fun hL => ?_⟩
          obtain ⟨d1, d2⟩ := b2 fun x hx => hL x (c1 x hx)
          obtain ⟨q1, q2⟩ := c2 hL
          refine ⟨by simp [q1], fun i c hc => ?_⟩
          cases i with
          | zero =>
            simp at hc
            subst hc
            obtain ⟨p1, p2, p3⟩ := p
            simp only at a1 a2 ho
            subst a1; subst a2
            exact ⟨p2, _, o, rfl, ho, rfl, a3, a4, a5, d1, d2⟩
          | succ i =>
            obtain ⟨i', g, o, r⟩ := q2 i c (by simpa using hc)
            exact ⟨i', g, o, by simpa using r⟩
        · cases h1
      · cases h1
    · cases h
theorem chkNP_ok {m : Nat} {T : Tb} {st st2 : St} {L L' : Pr} (h : chkNP m T st st2 L = some L') : (∀ p ∈ L, p ∈ L') ∧ (L'.Ok → Fg m st st2) := by
  unfold chkNP at h
  split at h
  · rename_i hb
    simp only [Bool.and_eq_true] at hb
    obtain ⟨h3, h4⟩ := hb
    split at h
    · rename_i L1 h1
      obtain ⟨s1, s2⟩ := chkSlotsP_ok h1
      obtain ⟨r1, r2⟩ := chkRowsP_ok h
      refine ⟨fun p hp => r1 p (s1 p hp), fun hL => ?_⟩
      obtain ⟨a1, a2⟩ := s2 fun p hp => hL p (r1 p hp)
      obtain ⟨b1, b2⟩ := r2 hL
      have h3 := of_decide_eq_true h3
      refine .view T a1 a2 ⟨b1, b2, fun j j' g2 i g g2' g' hj hj' => ?_⟩ fun j hj => ?_
      · have e1 : (T.map (·.2.1))[j]? = some i := by rw [List.getElem?_map, hj]; rfl
        have e2 : (T.map (·.2.1))[j']? = some i := by rw [List.getElem?_map, hj']; rfl
        obtain ⟨l1, l1'⟩ := List.getElem?_eq_some_iff.1 e1
        obtain ⟨l2, l2'⟩ := List.getElem?_eq_some_iff.1 e2
        have hp := List.pairwise_iff_getElem.1 h3
        rcases Nat.lt_trichotomy j j' with q | q | q
        · exact absurd (l1'.trans l2'.symm) (hp j j' l1 l2 q)
        · exact q
        · exact absurd (l2'.trans l1'.symm) (hp j' j l2 l1 q)
      · have := List.all_eq_true.1 h4 j (List.mem_range.2 hj)
        split at this
        · rename_i g2 i g ht
          simp only [Bool.and_eq_true, decide_eq_true_eq] at this
          exact ⟨g2, i, g, ht, .inl this⟩
        · cases this
    · cases h
  · cases h
section
variable (run : AI → St → Option St) (as : List AI) (ps : List (List Nat)) (es : List Nat)
def fixesP (v : St) : List Nat → Pr → Option Pr
  | [], L => some L
  | c :: t, L => (match as[c]? with | some o => (match run o v with | some s2 => (match o.dst with | some d => (match eqA 40 (s2.s.getD d .unk) (v.s.getD d .unk) L with | some L' => fixesP v t L' | none => none) | none => none) | none => none) | none => none)
/-- The state in one order of rows, with what was run at once. -/
def viewP (m : Nat) (C : List Nat) (st1 st2 : St) (L : Pr) : Option (St × Pr) :=
  match chkNP m (tbN st2.H (accN m st2)) st1 (unks as C (viewN (accN m st2) st2)) L with | some L' => some (viewN (accN m st2) st2, L') | none => none
def mkNdP (m : Nat) (D E : List Nat) (st : St) (L : Pr) : Option (Nd × Pr) :=
  match closeS run as ps es as.length D [] st with
  | (C, st2) =>
    if ((chainB ps es D C && (closedB ps D && E.all (D.contains ·))) && (((insAll C E).all fun c => (insAll C D).contains c && es.contains c) && closedB ps (insAll C D))) = true then
      match viewP as m C st st2 L with
      | some (v, L1) => (match fixesP run as v (insAll C E) L1 with
        | some L' => some ((insAll C D, insAll C E, v), L')
        | none => none)
      | none => none
    else none
def addP (nd : Nd) : List Nd → Pr → Option (List Nd × Pr)
  | [], L => some ([nd], L)
  | x :: t, L => if x.1 = nd.1 then (if beqNs x.2.1 nd.2.1 = true then (match eqS x.2.2 nd.2.2 L with | some L' => some (x :: t, L') | none => none) else none) else (match addP nd t L with | some (t', L') => some (x :: t', L') | none => none)
def stepsP (m : Nat) (nd : Nd) : List Nat → List Nd → Pr → Option (List Nd × Pr)
  | [], acc, L => some (acc, L)
  | i :: is, acc, L =>
    if readyB ps nd.1 i = true then
      match as[i]? with
      | some o => (match run o nd.2.2 with
        | some st' => (match mkNdP run as ps es m (insN i nd.1) (nd.2.1.filter fun c => !(ps.getD i []).contains c) st' L with
          | some (nd', L1) => (match addP nd' acc L1 with | some (acc', L2) => stepsP m nd is acc' L2 | none => none)
          | none => none)
        | none => none)
      | none => none
    else stepsP m nd is acc L
def nextP (m : Nat) : List Nd → List Nd → Pr → Option (List Nd × Pr)
  | [], acc, L => some (acc, L)
  | nd :: t, acc, L => if (List.range as.length).all (nd.1.contains ·) then none else (match stepsP run as ps es m nd (List.range as.length) acc L with | some (acc', L') => nextP m t acc' L' | none => none)
def runP (m : Nat) : Nat → List Nd → Pr → Option (St × Pr)
  | 0, _, _ => none
  | n + 1, nds, L => (match allS as.length nds with
    | some st => some (st, L)
    | none => (match nextP run as ps es m nds [] L with | some (nds', L') => runP m n nds' L' | none => none))
def setsP (m : Nat) (st : St) (L : Pr) : Option (St × Pr) := match mkNdP run as ps es m [] [] st L with | some (nd, L1) => runP run as ps es m (as.length + 1) [nd] L1 | none => none
end
section
variable {P : Program} {G : Nat → AV} {run : AI → St → Option St} {m : Nat} {as : List AI} {ps : List (List Nat)}
theorem fixesP_sub {v : St} : ∀ {cs : List Nat} {L L' : Pr}, fixesP run as v cs L = some L' → ∀ p ∈ L, p ∈ L'
  | [], L, L', h => by cases h; exact fun p hp => hp
  | c :: t, L, L', h => by
    simp only [fixesP] at h
    split at h
    · split at h
      · split at h
        · split at h
          · rename_i L1 h1
            exact fun p hp => fixesP_sub h p ((eqA_ok 40 _ _ _ _ h1).1 p hp)
          · cases h
        · cases h
      · cases h
    · cases h
theorem fixesP_ok (hrun : ∀ o st st', run o st = some st' → Stp P G o st st') {v : St} : ∀ {cs : List Nat} {L L' : Pr}, (∀ c ∈ cs, c ∈ eagers as ps) → fixesP run as v cs L = some L' → (∀ p ∈ L, p ∈ L') ∧ (L'.Ok → ∀ c ∈ cs, ∃ o, as[c]? = some o ∧ Stp P G o v v)
  | [], L, L', _, h => by cases h; exact ⟨fun p hp => hp, fun _ c hc => by simp at hc⟩
  | c :: t, L, L', he, h => by
    simp only [fixesP] at h
    split at h
    · rename_i o ho
      split at h
      · rename_i s2 hs
        split at h
        · rename_i d hd
          split at h
          · rename_i L1 h1
            obtain ⟨e1, e2⟩ := eqA_ok 40 _ _ _ _ h1
            obtain ⟨a, b⟩ := fixesP_ok hrun (fun c hc => he c (List.mem_cons_of_mem _ hc)) h
            refine ⟨fun p hp => a p (e1 p hp), fun hL x hx => ?_⟩
            rcases List.mem_cons.1 hx with rfl | hx
            · refine ⟨o, ho, ?_⟩
              have h5 := e2 fun p hp => hL p (a p hp)
              have h4 := hrun _ _ _ hs
              obtain ⟨r, hr⟩ := Stp_keep (eagers_cls (he x List.mem_cons_self) ho) h4
              have e : s2 = v := by
                rw [hr, hd]
                rw [hr, hd] at h5
                obtain ⟨s, H⟩ := v
                simp only [St.put] at h5 ⊢
                congr 1
                by_cases hl : d < s.length
                · rw [List.getD_eq_getElem?_getD, List.getElem?_set_self hl, List.getD_eq_getElem?_getD, List.getElem?_eq_getElem hl] at h5
                  simp only [Option.getD_some] at h5
                  rw [h5, List.set_getElem_self]
                · exact List.set_eq_of_length_le (by omega)
              rw [e] at h4
              exact h4
            · exact b hL x hx
          · cases h
        · cases h
      · cases h
    · cases h
theorem mkNdP_ok (hrun : ∀ o st st', run o st = some st' → Stp P G o st st') {D E : List Nat} {st : St} {L L' : Pr} {nd : Nd} (h : mkNdP run as ps (eagers as ps) m D E st L = some (nd, L')) : (∀ p ∈ L, p ∈ L') ∧ (L'.Ok → NdOk P G as ps nd ∧ ∀ (K : St → Prop) (n : Nat), Expl P G m as ps K n nd.2.1 (· ∈ nd.1) nd.2.2 → ∃ n' t, Fg m st t ∧ Expl P G m as ps K n' E (· ∈ D) t) := by
  unfold mkNdP at h
  split at h
  rename_i C st2 hC
  split at h
  · rename_i hb
    simp only [Bool.and_eq_true] at hb
    obtain ⟨⟨b1, b2, b3⟩, b4, b5⟩ := hb
    split at h
    · rename_i v L0 hvw
      split at h
      rotate_left
      · cases h
      rename_i L1 hf
      cases h
      unfold viewP at hvw
      split at hvw
      rotate_left
      · cases hvw
      rename_i L2 hchk
      cases hvw
      obtain ⟨v1, v2⟩ := chkNP_ok hchk
      obtain ⟨a, b⟩ := fixesP_ok hrun (fun c hc => by
        have hc2 := List.all_eq_true.1 b4 c hc
        simp only [Bool.and_eq_true] at hc2
        exact List.contains_iff_mem.1 hc2.2) hf
      refine ⟨fun p hp => a p (v1 p hp), fun hL => ⟨⟨fun c hc => ?_, closedB_ok b5⟩, fun K n hx => ?_⟩⟩
      · have hc2 := List.all_eq_true.1 b4 c hc
        simp only [Bool.and_eq_true] at hc2
        obtain ⟨o, ho, hr⟩ := b hL c hc
        exact ⟨List.contains_iff_mem.1 hc2.1, List.contains_iff_mem.1 hc2.2, o, ho, hr⟩
      · obtain ⟨n', hx'⟩ := Expl.uncloseAll (fun e he => List.contains_iff_mem.1 (List.all_eq_true.1 b3 e he)) (closedB_ok b2) b1 hx
        exact ⟨n', _, v2 fun p hp => hL p (a p hp), hx'⟩
    · cases h
  · cases h
theorem addP_mem {nd : Nd} : ∀ {acc acc' : List Nd} {L L' : Pr}, addP nd acc L = some (acc', L') → (∀ p ∈ L, p ∈ L') ∧ (L'.Ok → nd ∈ acc' ∧ (∀ p ∈ acc, p ∈ acc') ∧ ∀ p ∈ acc', p = nd ∨ p ∈ acc)
  | [], acc', L, L', h => by cases h; exact ⟨fun p hp => hp, fun _ => ⟨by simp, fun p hp => by simp at hp, fun p hp => .inl (by simpa using hp)⟩⟩
  | x :: t, acc', L, L', h => by
    simp only [addP] at h
    split at h
    · rename_i hD
      split at h
      · rename_i hb
        split at h
        rotate_left
        · cases h
        rename_i L1 h1
        cases h
        obtain ⟨q1, q2⟩ := eqS_ok _ _ _ _ h1
        refine ⟨q1, fun hL => ?_⟩
        have e : x.2.2 = nd.2.2 := q2 hL
        simp only [beqNs, decide_eq_true_eq] at hb
        obtain ⟨x1, x2, x3⟩ := x
        obtain ⟨n1, n2, n3⟩ := nd
        simp only at hD hb e
        subst hD; subst hb; subst e
        exact ⟨List.mem_cons_self, fun p hp => hp, fun p hp => .inr hp⟩
      · cases h
    · split at h
      · rename_i t' L1 h2
        cases h
        obtain ⟨a, b⟩ := addP_mem h2
        refine ⟨a, fun hL => ?_⟩
        obtain ⟨c1, c2, c3⟩ := b hL
        refine ⟨List.mem_cons_of_mem _ c1, fun p hp => ?_, fun p hp => ?_⟩
        · rcases List.mem_cons.1 hp with rfl | hp
          · exact List.mem_cons_self
          · exact List.mem_cons_of_mem _ (c2 p hp)
        · rcases List.mem_cons.1 hp with rfl | hp
          · exact .inr List.mem_cons_self
          · exact (c3 p hp).imp id (List.mem_cons_of_mem _)
      · cases h
theorem stepsP_ok (hrun : ∀ o st st', run o st = some st' → Stp P G o st st') {nd : Nd} : ∀ {is : List Nat} {acc acc' : List Nd} {L L' : Pr}, stepsP run as ps (eagers as ps) m nd is acc L = some (acc', L') → (∀ p ∈ L, p ∈ L') ∧ (L'.Ok → (∀ p ∈ acc, NdOk P G as ps p) →
    (∀ p ∈ acc, p ∈ acc') ∧ (∀ p ∈ acc', NdOk P G as ps p) ∧ ∀ i ∈ is, i ∉ nd.1 → (∀ p ∈ ps.getD i [], p ∈ nd.1) → ∃ o st' nd', as[i]? = some o ∧ Stp P G o nd.2.2 st' ∧ (∀ (K : St → Prop) (n : Nat), Expl P G m as ps K n nd'.2.1 (· ∈ nd'.1) nd'.2.2 → ∃ n' t, Fg m st' t ∧ Expl P G m as ps K n' (nd.2.1.filter fun c => !(ps.getD i []).contains c) (· ∈ insN i nd.1) t) ∧ nd' ∈ acc')
  | [], acc, acc', L, L', h => by cases h; exact ⟨fun p hp => hp, fun _ hok => ⟨fun p hp => hp, hok, fun i hi => by simp at hi⟩⟩
  | i :: is, acc, acc', L, L', h => by
    simp only [stepsP] at h
    split at h
    · rename_i hr
      split at h
      · rename_i o ho
        split at h
        · rename_i st' hs
          split at h
          · rename_i nd' L1 hnd
            split at h
            · rename_i acc2 L2 h2
              obtain ⟨m1, m2⟩ := mkNdP_ok (m := m) hrun hnd
              obtain ⟨s1, s2⟩ := addP_mem h2
              obtain ⟨r1, r2⟩ := stepsP_ok hrun h
              refine ⟨fun p hp => r1 p (s1 p (m1 p hp)), fun hL hok => ?_⟩
              have hL2 : Pr.Ok L2 := fun p hp => hL p (r1 p hp)
              have hL1 : Pr.Ok L1 := fun p hp => hL2 p (s1 p hp)
              obtain ⟨c1, c2, c3⟩ := s2 hL2
              obtain ⟨k1, k2⟩ := m2 hL1
              obtain ⟨a, b, c⟩ := r2 hL (fun p hp => by
                rcases c3 p hp with rfl | hp
                · exact k1
                · exact hok p hp)
              refine ⟨fun p hp => a p (c2 p hp), b, fun j hj hjD hjp => ?_⟩
              rcases List.mem_cons.1 hj with rfl | hj
              · exact ⟨o, st', nd', ho, hrun _ _ _ hs, k2, a _ c1⟩
              · exact c j hj hjD hjp
            · cases h
          · cases h
        · cases h
      · cases h
    · rename_i hr
      obtain ⟨r1, r2⟩ := stepsP_ok hrun h
      refine ⟨r1, fun hL hok => ?_⟩
      obtain ⟨a, b, c⟩ := r2 hL hok
      refine ⟨a, b, fun j hj hjD hjp => ?_⟩
      rcases List.mem_cons.1 hj with rfl | hj
      · exfalso
        apply hr
        simp only [readyB, Bool.and_eq_true, Bool.not_eq_true', List.all_eq_true]
        refine ⟨?_, fun p hp => List.contains_iff_mem.2 (hjp p hp)⟩
        cases hq : nd.1.contains j
        · rfl
        · exact absurd (List.contains_iff_mem.1 hq) hjD
      · exact c j hj hjD hjp
theorem nextP_ok (hrun : ∀ o st st', run o st = some st' → Stp P G o st st') : ∀ {nds acc acc' : List Nd} {L L' : Pr}, nextP run as ps (eagers as ps) m nds acc L = some (acc', L') → (∀ p ∈ L, p ∈ L') ∧ (L'.Ok → (∀ p ∈ acc, NdOk P G as ps p) →
    (∀ p ∈ acc, p ∈ acc') ∧ (∀ p ∈ acc', NdOk P G as ps p) ∧ ∀ nd ∈ nds, (¬ ∀ i, i < as.length → i ∈ nd.1) ∧ ∀ i, i < as.length → i ∉ nd.1 → (∀ p ∈ ps.getD i [], p ∈ nd.1) → ∃ o st' nd', as[i]? = some o ∧ Stp P G o nd.2.2 st' ∧ (∀ (K : St → Prop) (n : Nat), Expl P G m as ps K n nd'.2.1 (· ∈ nd'.1) nd'.2.2 → ∃ n' t, Fg m st' t ∧ Expl P G m as ps K n' (nd.2.1.filter fun c => !(ps.getD i []).contains c) (· ∈ insN i nd.1) t) ∧ nd' ∈ acc')
  | [], acc, acc', L, L', h => by cases h; exact ⟨fun p hp => hp, fun _ hok => ⟨fun p hp => hp, hok, fun nd hm => by simp at hm⟩⟩
  | nd :: t, acc, acc', L, L', h => by
    simp only [nextP] at h
    split at h
    · cases h
    · rename_i hfull
      split at h
      · rename_i acc2 L2 h2
        obtain ⟨s1, s2⟩ := stepsP_ok (m := m) hrun h2
        obtain ⟨r1, r2⟩ := nextP_ok hrun h
        refine ⟨fun p hp => r1 p (s1 p hp), fun hL hok => ?_⟩
        obtain ⟨c1, c2, c3⟩ := s2 (fun p hp => hL p (r1 p hp)) hok
        obtain ⟨a, b, c⟩ := r2 hL c2
        refine ⟨fun p hp => a p (c1 p hp), b, fun nd' hm => ?_⟩
        rcases List.mem_cons.1 hm with rfl | hm
        · refine ⟨fun hall => hfull (List.all_eq_true.2 fun i hi => List.contains_iff_mem.2 (hall i (List.mem_range.1 hi))), fun i hi hiD hip => ?_⟩
          obtain ⟨o, s, n2, q1, q2, q3, q4⟩ := c3 i (List.mem_range.2 hi) hiD hip
          exact ⟨o, s, n2, q1, q2, q3, a _ q4⟩
        · exact c nd' hm
      · cases h
theorem runP_ok (hrun : ∀ o st st', run o st = some st' → Stp P G o st st') {stf : St} : ∀ {n : Nat} {nds : List Nd} {L L' : Pr}, runP run as ps (eagers as ps) m n nds L = some (stf, L') → (∀ p ∈ L, p ∈ L') ∧ (L'.Ok → (∀ p ∈ nds, NdOk P G as ps p) → ∀ nd ∈ nds, ∃ k, Expl P G m as ps (· = stf) k nd.2.1 (· ∈ nd.1) nd.2.2)
  | 0, nds, L, L', h => by cases h
  | n + 1, nds, L, L', h => by
    simp only [runP] at h
    split at h
    · rename_i s hs
      cases h
      refine ⟨fun p hp => hp, fun hL hok nd hm => ?_⟩
      unfold allS at hs
      split at hs
      · rename_i nd'
        split at hs
        · rename_i hall
          cases hs
          rcases List.mem_singleton.1 hm with rfl
          have hf := List.all_eq_true.1 hall
          exact ⟨1, (hok nd hm).1, (hok nd hm).2, fun _ => rfl, fun i hi hiD _ => absurd (List.contains_iff_mem.1 (hf i (List.mem_range.2 hi))) hiD⟩
        · cases hs
      · cases hs
    · split at h
      · rename_i nds' L1 hL1
        obtain ⟨s1, s2⟩ := nextP_ok (m := m) hrun hL1
        obtain ⟨r1, r2⟩ := runP_ok hrun h
        refine ⟨fun p hp => r1 p (s1 p hp), fun hL hok nd hm => ?_⟩
        obtain ⟨_, b, c⟩ := s2 (fun p hp => hL p (r1 p hp)) (fun p hp => by simp at hp)
        obtain ⟨hnf, hstep⟩ := c nd hm
        have hall : ∀ i, i < as.length → i ∉ nd.1 → (∀ p ∈ ps.getD i [], p ∈ nd.1) → ∃ o st' t k, as[i]? = some o ∧ Stp P G o nd.2.2 st' ∧ Fg m st' t ∧ Expl P G m as ps (· = stf) k (nd.2.1.filter fun c => !(ps.getD i []).contains c) (fun j => j = i ∨ j ∈ nd.1) t := fun i hi hiD hip => by
          obtain ⟨o, st', nd', q1, q2, q3, q4⟩ := hstep i hi hiD hip
          obtain ⟨k, hk⟩ := r2 hL b nd' q4
          obtain ⟨k', t, f1, f2⟩ := q3 _ k hk
          refine ⟨o, st', t, k', q1, q2, f1, ?_⟩
          have e1 : (fun j => j = i ∨ j ∈ nd.1) = (· ∈ insN i nd.1) := by
            funext j
            exact propext insN_mem.symm
          rw [e1]
          exact f2
        have hbd : ∀ N, ∃ k, ∀ i, i < N → i < as.length → i ∉ nd.1 → (∀ p ∈ ps.getD i [], p ∈ nd.1) → ∃ o st' t, as[i]? = some o ∧ Stp P G o nd.2.2 st' ∧ Fg m st' t ∧ Expl P G m as ps (· = stf) k (nd.2.1.filter fun c => !(ps.getD i []).contains c) (fun j => j = i ∨ j ∈ nd.1) t := fun N => by
          induction N with
          | zero => exact ⟨0, fun i hi => by omega⟩
          | succ N ih =>
            obtain ⟨k, hk⟩ := ih
            by_cases hN : N < as.length ∧ N ∉ nd.1 ∧ ∀ p ∈ ps.getD N [], p ∈ nd.1
            · obtain ⟨o, st', t, k2, q1, q2, q3, q4⟩ := hall N hN.1 hN.2.1 hN.2.2
              refine ⟨max k k2, fun i hi hi2 hiD hip => ?_⟩
              by_cases hiN : i = N
              · subst hiN
                exact ⟨o, st', t, q1, q2, q3, Expl.more (Nat.le_max_right ..) q4⟩
              · obtain ⟨o, st', t, q1, q2, q3, q4⟩ := hk i (by omega) hi2 hiD hip
                exact ⟨o, st', t, q1, q2, q3, Expl.more (Nat.le_max_left ..) q4⟩
            · refine ⟨k, fun i hi hi2 hiD hip => ?_⟩
              by_cases hiN : i = N
              · subst hiN
                exact absurd ⟨hi2, hiD, hip⟩ hN
              · exact hk i (by omega) hi2 hiD hip
        obtain ⟨k, hk⟩ := hbd as.length
        exact ⟨k + 1, (hok nd hm).1, (hok nd hm).2, fun hall => absurd hall hnf, fun i hi hiD hip => hk i hi hi hiD hip⟩
      · cases h
theorem setsP_ok (hrun : ∀ o st st', run o st = some st' → Stp P G o st st') {st stf : St} {L L' : Pr} (h : setsP run as ps (eagers as ps) m st L = some (stf, L')) : (∀ p ∈ L, p ∈ L') ∧ (L'.Ok → ∃ k t, Fg m st t ∧ Expl P G m as ps (· = stf) k [] (· ∈ ([] : List Nat)) t) := by
  unfold setsP at h
  split at h
  · rename_i nd L1 hnd
    obtain ⟨n1, n2⟩ := mkNdP_ok (m := m) hrun hnd
    obtain ⟨r1, r2⟩ := runP_ok (m := m) hrun h
    refine ⟨fun p hp => r1 p (n1 p hp), fun hL => ?_⟩
    obtain ⟨k1, k2⟩ := n2 fun p hp => hL p (r1 p hp)
    obtain ⟨k, hk⟩ := r2 hL (fun p hp => by rcases List.mem_singleton.1 hp with rfl; exact k1) nd (by simp)
    obtain ⟨k', t1, f1, f2⟩ := k2 _ k hk
    exact ⟨k', t1, f1, f2⟩
  · cases h
end
section
variable {run : AI → St → Option St} {m : Nat} {as : List AI} {ps : List (List Nat)} {es : List Nat}
theorem mkNdP_sub {D E : List Nat} {st : St} {L L' : Pr} {nd : Nd} (h : mkNdP run as ps es m D E st L = some (nd, L')) : ∀ p ∈ L, p ∈ L' := by
  unfold mkNdP at h
  split at h
  split at h
  · split at h
    · rename_i v L0 hvw
      split at h
      rotate_left
      · cases h
      rename_i L1 hf
      cases h
      unfold viewP at hvw
      split at hvw
      rotate_left
      · cases hvw
      rename_i L2 hchk
      cases hvw
      exact fun p hp => fixesP_sub hf p ((chkNP_ok hchk).1 p hp)
    · cases h
  · cases h
theorem stepsP_sub {nd : Nd} : ∀ {is : List Nat} {acc acc' : List Nd} {L L' : Pr}, stepsP run as ps es m nd is acc L = some (acc', L') → ∀ p ∈ L, p ∈ L'
  | [], acc, acc', L, L', h => by cases h; exact fun p hp => hp
  | i :: is, acc, acc', L, L', h => by
    simp only [stepsP] at h
    split at h
    · split at h
      · split at h
        · split at h
          · rename_i nd' L1 hnd
            split at h
            · rename_i acc2 L2 h2
              exact fun p hp => stepsP_sub h p ((addP_mem h2).1 p (mkNdP_sub hnd p hp))
            · cases h
          · cases h
        · cases h
      · cases h
    · exact stepsP_sub h
theorem nextP_sub : ∀ {nds acc acc' : List Nd} {L L' : Pr}, nextP run as ps es m nds acc L = some (acc', L') → ∀ p ∈ L, p ∈ L'
  | [], acc, acc', L, L', h => by cases h; exact fun p hp => hp
  | nd :: t, acc, acc', L, L', h => by
    simp only [nextP] at h
    split at h
    · cases h
    · split at h
      · rename_i acc2 L2 h2
        exact fun p hp => nextP_sub h p (stepsP_sub h2 p hp)
      · cases h
theorem runP_sub {stf : St} : ∀ {n : Nat} {nds : List Nd} {L L' : Pr}, runP run as ps es m n nds L = some (stf, L') → ∀ p ∈ L, p ∈ L'
  | 0, nds, L, L', h => by cases h
  | n + 1, nds, L, L', h => by
    simp only [runP] at h
    split at h
    · cases h; exact fun p hp => hp
    · split at h
      · rename_i nds' L1 hL1
        exact fun p hp => runP_sub h p (nextP_sub hL1 p hp)
      · cases h
theorem setsP_sub {st stf : St} {L L' : Pr} (h : setsP run as ps es m st L = some (stf, L')) : ∀ p ∈ L, p ∈ L' := by
  unfold setsP at h
  split at h
  · rename_i nd L1 hnd
    exact fun p hp => runP_sub h p (mkNdP_sub hnd p hp)
  · cases h
end
section
variable (P : Program) (G : Nat → AV) (tab : TM) (n m : Nat)
def repsP (st st' : St) : List (List AI) → Pr → Option Pr
  | [], L => some L
  | R :: Rs, L => (match runDN P G tab (execN P G tab n) st.H.length R st with | some s2 => (match eqS st' s2 L with | some L' => repsP st st' Rs L' | none => none) | none => none)
/-- The top function's code, with what has to be equal. -/
def topP : AC → St → Pr → Option (EX × St × Pr)
  | .seq a b, st, L => (match topP a st L with | some (.n, st', L') => topP b st' L' | r => r)
  | .drawx (R :: Rs), st, L => (match runDN P G tab (execN P G tab n) st.H.length R st with | some st' => (match repsP P G tab n st st' Rs L with | some L' => some (.n, st', L') | none => none) | none => none)
  | .drawq ops q ps es, st, L => (match setsP (runIN P G tab (execN P G tab n)) ops ps es m st L with | some (st', L') => some (.n, st', L') | none => none)
  | c, st, L => (match execN P G tab n m c st with | some (e, st') => some (e, st', L) | none => none)
def resP (ts : List RS) : Option (EX × St × Pr) → Bool
  | some (.x _, _, _) => false
  | some (_, st', _) => (match rsAs st' ts with | some vs => (match purA st'.H vs with | some (rs, _) => (match resOf rs with | .v (.bool true) => true | _ => false) | none => false) | none => false)
  | none => false
def prsP : Option (EX × St × Pr) → Pr
  | some (_, _, L) => L
  | none => []
end
section
variable {P : Program} {G : Nat → AV} {tab : TM} {hs : List FuncId} {n m : Nat}
theorem repsP_ok {st st' : St} : ∀ {Rs : List (List AI)} {L L' : Pr}, repsP P G tab n st st' Rs L = some L' → (∀ p ∈ L, p ∈ L') ∧ (L'.Ok → ∀ R ∈ Rs, runDN P G tab (execN P G tab n) st.H.length R st = some st')
  | [], L, L', h => by cases h; exact ⟨fun p hp => hp, fun _ R hR => by simp at hR⟩
  | R :: Rs, L, L', h => by
    simp only [repsP] at h
    split at h
    · rename_i s2 hs
      split at h
      rotate_left
      · cases h
      rename_i L1 h1
      obtain ⟨q1, q2⟩ := eqS_ok _ _ _ _ h1
      obtain ⟨a, b⟩ := repsP_ok h
      refine ⟨fun p hp => a p (q1 p hp), fun hL R' hR' => ?_⟩
      rcases List.mem_cons.1 hR' with rfl | hR'
      · have e : st' = s2 := q2 fun p hp => hL p (a p hp)
        rw [hs, e]
      · exact b hL R' hR'
    · cases h
theorem copC_seq {c : Code} {x y : AC} (h : copC P hs c = some (.seq x y)) : ∃ cx cy, c = .seq cx cy ∧ copC P hs cx = some x ∧ copC P hs cy = some y := by
  cases c with
  | seq cx cy =>
    simp only [copC] at h
    split at h
    · rename_i p q hp hq
      injection h with h
      injection h with h1 h2
      subst h1; subst h2
      exact ⟨cx, cy, rfl, hp, hq⟩
    · cases h
  | _ =>
    exfalso
    simp only [copC] at h
    first
      | (cases h; done)
      | ((repeat' split at h) <;> (first | (cases h; done) | (simp [badC] at h)))
theorem copC_drawx {c : Code} {reps : List (List AI)} (h : copC P hs c = some (.drawx reps)) : ∃ id ops as, c = .region id ops true ∧ copIs P hs ops ops.toList = some as ∧ drawxOk P ops as = true ∧ reps = drawxReps ops as := by
  cases c with
  | region id ops draw =>
    simp only [copC] at h
    split at h
    · rename_i as has
      cases draw with
      | false => cases h
      | true =>
        simp only [if_true] at h
        split at h
        · cases h
        · split at h
          · rename_i hd
            injection h with h
            injection h with h
            exact ⟨id, ops, as, rfl, has, hd, h.symm⟩
          · split at h <;> cases h
    · cases h
  | _ =>
    exfalso
    simp only [copC] at h
    first
      | (cases h; done)
      | ((repeat' split at h) <;> (first | (cases h; done) | (simp [badC] at h)))
theorem copC_drawq {c : Code} {as : List AI} {q : Bool} {ps : List (List Nat)} {es : List Nat} (h : copC P hs c = some (.drawq as q ps es)) : ∃ id ops, c = .region id ops true ∧ copIs P hs ops ops.toList = some as ∧ setsOk P ops = true ∧ ps = ops.toList.map preds ∧ es = eagers as ps := by
  cases c with
  | region id ops draw =>
    simp only [copC] at h
    split at h
    · rename_i as' has
      cases draw with
      | false => cases h
      | true =>
        simp only [if_true] at h
        split at h
        · cases h
        · split at h
          · cases h
          · split at h
            · rename_i hd
              injection h with h
              injection h with h1 h2 h3 h4
              subst h1; subst h3
              exact ⟨id, ops, rfl, has, hd, rfl, h4.symm⟩
            · cases h
    · cases h
  | _ =>
    exfalso
    simp only [copC] at h
    first
      | (cases h; done)
      | ((repeat' split at h) <;> (first | (cases h; done) | (simp [badC] at h)))
theorem topP_ok (ht : tab.Ok P G hs) : ∀ (ac : AC) (st : St) (L : Pr) (e : EX) (st' : St) (L' : Pr), topP P G tab n m ac st L = some (e, st', L') → (∀ p ∈ L, p ∈ L') ∧ (L'.Ok → ∀ Q : EX → St → Prop, Q e st' → SV P G hs m ac Q st) := by
  have other : ∀ (c : AC) (st : St) (L : Pr) (e : EX) (st' : St) (L' : Pr), (match execN P G tab n m c st with | some (e, st') => some (e, st', L) | none => none) = some (e, st', L') → (∀ p ∈ L, p ∈ L') ∧ (L'.Ok → ∀ Q : EX → St → Prop, Q e st' → SV P G hs m c Q st) := fun c st L e st' L' h => by
    split at h
    · rename_i e1 s1 h1
      cases h
      exact ⟨fun p hp => hp, fun _ Q hQ => execN_ok ht n _ _ _ _ _ h1 Q hQ⟩
    · cases h
  intro ac
  induction ac with
  | seq a b iha ihb =>
    intro st L e st' L' h
    simp only [topP] at h
    split at h
    · rename_i s1 L1 h1
      obtain ⟨a1, a2⟩ := iha _ _ _ _ _ h1
      obtain ⟨b1, b2⟩ := ihb _ _ _ _ _ h
      refine ⟨fun p hp => b1 p (a1 p hp), fun hL Q hQ => ?_⟩
      intro B w0 F0 F1 O1 hm c hc Q' aa w F O hr hK
      obtain ⟨cx, cy, rfl, hx, hy⟩ := copC_seq hc
      refine wp_seq (a2 (fun p hp => hL p (b1 p hp)) (fun e1 s => e1 = .n ∧ s = s1) ⟨rfl, rfl⟩ B w0 F0 F1 O1 hm cx hx _ aa w F O hr fun e2 st2 a' w' F' O' he hr' => ?_)
      obtain ⟨rfl, rfl⟩ := he
      exact b2 hL Q hQ B w0 F0 F1 O1 hm cy hy Q' a' w' F' O' hr' hK
    · rename_i hn
      obtain ⟨a1, a2⟩ := iha _ _ _ _ _ h
      refine ⟨a1, fun hL Q hQ => ?_⟩
      intro B w0 F0 F1 O1 hm c hc Q' aa w F O hr hK
      obtain ⟨cx, cy, rfl, hx, hy⟩ := copC_seq hc
      refine wp_seq (a2 hL (fun e1 s => e1 = e ∧ s = st') ⟨rfl, rfl⟩ B w0 F0 F1 O1 hm cx hx _ aa w F O hr fun e2 st2 a' w' F' O' he hr' => ?_)
      obtain ⟨rfl, rfl⟩ := he
      cases e2 with
      | n => exact (hn _ _ h).elim
      | x id => exact hK (.x id) _ a' w' F' O' hQ hr'
      | r => exact hK .r _ a' w' F' O' hQ hr'
  | drawx reps =>
    intro st L e st' L' h
    cases reps with
    | nil => exact other _ _ _ _ _ _ h
    | cons R Rs =>
      simp only [topP] at h
      split at h
      · rename_i s1 h1
        split at h
        · rename_i L1 h2
          cases h
          obtain ⟨a1, a2⟩ := repsP_ok h2
          refine ⟨a1, fun hL Q hQ => ?_⟩
          intro B w0 F0 F1 O1 hm c hc Q' a w F O hr hK
          obtain ⟨id, ops, as, rfl, has, hd, hreps⟩ := copC_drawx hc
          refine region_draw has (k := fun s => s = st') (fun st2 a' w' F' O' hk hr' => hK .n st2 a' w' F' O' (by rw [hk]; exact hQ) hr') (drawx_orders (copIs_at has).1 hd fun R' hR' => ?_) hr
          rw [← hreps] at hR'
          rcases List.mem_cons.1 hR' with rfl | hR'
          · exact runDN_ok ht (execN_ok ht n) h1 _ rfl
          · exact runDN_ok ht (execN_ok ht n) (a2 hL R' hR') _ rfl
        · cases h
      · cases h
  | drawq as q ps es =>
    intro st L e st' L' h
    simp only [topP] at h
    split at h
    · rename_i s1 L1 h1
      cases h
      have hstp : ∀ o st1 st2, runIN P G tab (execN P G tab n) o st1 = some st2 → Stp P G o st1 st2 := fun o st1 st2 h1 => by
        obtain ⟨s, q1, q2⟩ := AWi_iff.1 (runIN_ok ht (execN_ok ht n) h1 (fun s => s = st2) rfl)
        rw [← q2]
        exact q1
      by_cases hes : es = eagers as ps
      · subst hes
        obtain ⟨a1, a2⟩ := setsP_ok (m := m) hstp h1
        refine ⟨a1, fun hL Q hQ => ?_⟩
        intro B w0 F0 F1 O1 hm c hc Q' a w F O hr hK
        obtain ⟨id, ops, rfl, has, hd, rfl, _⟩ := copC_drawq hc
        obtain ⟨k', t1, f1, f2⟩ := a2 hL
        refine wp_region_draw fun t => ?_
        obtain ⟨p1, p2⟩ := sched_perm hd t
        obtain ⟨O2, hr2⟩ := hr.drew.forget hm f1
        refine Expl.ops hm has (fun s a' w' F' O' hs hr' => hK .n _ a' w' F' O' (by rw [hs]; exact hQ) hr') f2 _ (p1.nodup_iff.2 List.nodup_range) (fun i => by rw [p1.mem_iff]; simp) (fun l1 i l2 e o ho p hp => ?_) a _ F O2 hr2
        right
        have hi : i ∈ Region.schedule (P.follows .mixedOrders) ops t := by rw [e]; simp
        have hsub := p2 i hi o ho p hp
        have hnd : (Region.schedule (P.follows .mixedOrders) ops t).Nodup := p1.nodup_iff.2 List.nodup_range
        rw [e] at hsub hnd
        exact before_mem hnd hsub
      · refine ⟨?_, fun hL Q hQ B w0 F0 F1 O1 hm c hc => ?_⟩
        · exact setsP_sub h1
        · obtain ⟨id, ops, rfl, has, hd, hp, he⟩ := copC_drawq hc
          exact absurd he hes
    · cases h
  | _ => intro st L e st' L' h; exact other _ _ _ _ _ _ h
theorem pcP (ht : tab.Ok P G hs) {f : FuncId} {af : AF} (hf : copF P hs f = some af) {as : List AV} (h : resP af.res (topP P G tab n 0 af.body (St.init af.n as []) []) = true) (hL : (prsP (topP P G tab n 0 af.body (St.init af.n as []) [])).map (·.1) = (prsP (topP P G tab n 0 af.body (St.init af.n as []) [])).map (·.2)) : PC P G f as (.v (.bool true)) := by
  refine SV.pc hf ?_
  have hok := Pr.ok_map hL
  generalize hx : topP P G tab n 0 af.body (St.init af.n as []) [] = x at h hok
  unfold resP at h
  split at h
  · cases h
  · rename_i e st' L hne
    split at h
    · rename_i vs hvs
      split at h
      · rename_i rs H' hp
        split at h
        · rename_i hr
          refine (topP_ok ht _ _ _ _ _ _ hx).2 hok _ ⟨?_, vs, hvs, rs, H', hp, hr⟩
          cases e with
          | n => exact .inl rfl
          | r => exact .inr rfl
          | x i => exact (hne i rfl).elim
        · cases h
      · cases h
    · cases h
  · cases h
end
end Go.Proofs.YtiboffcmlikmnaaGreatDoor.Sim
