/- Operations by evaluation: rows. -/
import Derived.Test.YtgcnbbjapapnjaaDoorSimVb
namespace Go.Proofs.YtgcnbbjapapnjaaDoor.Sim
open Go.RowKit
set_option linter.unusedVariables false
set_option linter.unusedSimpArgs false
section
/-- The cells of an element. -/
def vCells (kk : Nat) (agg : Bool) (off n : Nat) (e : AV) (k : AV → Prop) : Prop :=
  match agg with
  | true => ObD (decide (off + n ≤ kk)) (match decide (off = 0 ∧ n = kk) with
    | true => (match e with | .agg cs => k (.agg cs) | e => k (.agg e.cells))
    | false => dK e.cells off (fun c => tK c n (fun c' => k (.agg c'))))
  | false => nK e.cells off k
theorem vCells_ok {kk : Nat} {agg : Bool} {off n : Nat} {e : AV} {k : AV → Prop} (h : vCells kk agg off n e k) {es : List AV} {i : Nat} (he : es[i]? = some e) : ∃ r, rdA kk es i off agg n = some r ∧ k r := by
  cases agg with
  | true =>
    obtain ⟨h1, h2⟩ := h
    have h1 := of_decide_eq_true h1
    split at h2
    · rename_i hd
      have hd := of_decide_eq_true hd
      have : k (.agg e.cells) := by cases e <;> exact h2
      exact ⟨_, by simp only [rdA, he, if_true, if_pos h1, if_pos hd], this⟩
    · rename_i hd
      have hd := of_decide_eq_false hd
      rw [dK_eq, tK_eq] at h2
      exact ⟨_, by simp only [rdA, he, if_true, if_pos h1, if_neg hd], h2⟩
  | false =>
    obtain ⟨a, h1, h2⟩ := nK_ok h
    exact ⟨a, by simp only [rdA, he, Bool.false_eq_true, if_false]; exact h1, h2⟩
def vLoad (H : Hp) (agg : Bool) (n : Nat) (x : AV) (k : AV → Prop) : Prop :=
  match x with
  | .ad kk es i off => ObR es i (fun e => vCells kk agg off n e k)
  | .oa i g e off => lK H i g (fun _ kk es _ => ObR es e (fun el => vCells kk agg off n el k))
  | _ => False
theorem vLoad_ok {H : Hp} {agg : Bool} {n : Nat} {x : AV} {k : AV → Prop} (h : vLoad H agg n x k) : ∃ r, loadA H agg n x = some r ∧ k r := by
  unfold vLoad at h
  split at h
  · obtain ⟨e, he, h⟩ := h
    exact vCells_ok h he
  · obtain ⟨o, h1, _, h2, _⟩ := lK_ok h
    obtain ⟨e, he, h⟩ := h2
    simp only [loadA, h1]
    exact vCells_ok h he
  · exact h.elim
def vStore (H : Hp) (n : Nat) (p v : AV) (k : Hp → Prop) : Prop :=
  match p with
  | .oa i g e off => lK H i g (fun te kk es fz => ObR es e (fun old => ObN (fz ≤ e) (ObD (decide (off + n ≤ kk) && decide (v.cells.length = n) && v.fine && decide (0 < n))
      (match old with
       | .agg cs => ObD (decide (off + n ≤ cs.length)) (oK cs off v.cells (fun cs' => ObU (es.set e (.agg cs')) (fun es' => rpK H i ⟨te, kk, es', g, fz⟩ k)))
       | _ => (match v.cells with | a :: _ => ObU (es.set e a) (fun es' => rpK H i ⟨te, kk, es', g, fz⟩ k) | [] => False)))))
  | _ => False
theorem vStore_ok {H : Hp} {n : Nat} {p v : AV} {k : Hp → Prop} (h : vStore H n p v k) : ∃ H', storeA H n p v = some H' ∧ k H' := by
  unfold vStore at h
  split at h
  · rename_i i g e off
    obtain ⟨o, h1, _, h2, hg⟩ := lK_ok h
    obtain ⟨old, ho, hf, hc, h⟩ := h2
    simp only [Bool.and_eq_true, decide_eq_true_eq] at hc
    obtain ⟨⟨⟨c1, c2⟩, c3⟩, c4⟩ := hc
    refine ⟨H.set i { o with es := o.es.set e (wrA old off v.cells) }, by simp only [storeA, h1, ho, hf, c1, c2, c3, c4, and_self, if_true], ?_⟩
    have eo : ∀ es', (⟨o.e, o.k, es', g, o.fz⟩ : OB) = { o with es := es' } := fun es' => by subst hg; rfl
    split at h
    · rename_i cs
      obtain ⟨hd, h⟩ := h
      have hd := of_decide_eq_true hd
      rw [oK_eq _ _ _ _ (by rw [c2]; exact hd)] at h
      obtain ⟨es', rfl, h⟩ := h
      rw [rpK_eq, eo] at h
      exact h
    · rename_i hno
      have hw : wrA old off v.cells = v.cells.headD .unk := by
        cases old with
        | agg cs => exact absurd rfl (hno cs)
        | _ => rfl
      rw [hw]
      split at h
      · rename_i a t hv
        obtain ⟨es', rfl, h⟩ := h
        rw [rpK_eq, eo] at h
        rw [hv]
        exact h
      · exact h.elim
  · exact h.elim
def vNil (H : Hp) (x : AV) (k : AV → Prop) : Prop :=
  match x with
  | .ad kk es i off => k (.ad kk es i off)
  | .oa i g e off => lK H i g (fun _ _ _ _ => k (.oa i g e off))
  | _ => False
theorem vNil_ok {H : Hp} {x : AV} {k : AV → Prop} (h : vNil H x k) : ∃ r, nilA H x = some r ∧ k r := by
  unfold vNil at h
  split at h
  · exact ⟨_, rfl, h⟩
  · obtain ⟨o, h1, _, h2, _⟩ := lK_ok h
    exact ⟨_, by simp only [nilA, h1], h2⟩
  · exact h.elim
def vMove (off : Nat) (H : Hp) (x : AV) (k : AV → Prop) : Prop :=
  match x with
  | .ad kk es i o => k (.ad kk es i (o + off))
  | .oa i g e o => lK H i g (fun _ _ _ _ => k (.oa i g e (o + off)))
  | _ => False
/-- What a map has under a key. -/
inductive ObK (o : Option (Option AV)) (k : Option AV → Prop) : Prop
  | mk (r : Option AV) (h : o = some r) (hk : k r) : ObK o k
/-- What an iterator's step may come to. -/
inductive ObNx (o : Option (List (AV × Hp))) (k : AV → Hp → Prop) : Prop
  | mk (l : List (AV × Hp)) (h : o = some l) (hk : ∀ p ∈ l, k p.1 p.2) : ObNx o k
/-- A map's elements behind a change. -/
inductive ObK2 (o : Option (List AV)) (k : List AV → Prop) : Prop
  | mk (r : List AV) (h : o = some r) (hk : k r) : ObK2 o k
def vLkp (H : Hp) (kd : Kd) (c : Bool) (z x key : AV) (k : AV → Prop) : Prop :=
  match x with
  | .mp i g => lMK H i g (fun _ es _ => match rdH es with
    | some (_, ag, _, es') => ObK (lkA kd ag key es') (fun r => match r with
      | some v => (match c with | true => k (.tup [v, .v (.bool true)]) | false => k v)
      | none => (match c with | true => k (.tup [z, .v (.bool false)]) | false => k z))
    | none => False)
  | .v v => (match v with | .map m => (match m with | none => (match c with | true => k (.tup [z, .v (.bool false)]) | false => k z) | some _ => False) | _ => False)
  | _ => False
theorem vLkp_ok {H : Hp} {kd : Kd} {c : Bool} {z x key : AV} {k : AV → Prop} (h : vLkp H kd c z x key k) : ∃ r, lkpA H kd c z x key = some r ∧ k r := by
  cases x with
  | mp i g =>
    simp only [vLkp] at h
    obtain ⟨o, h1, _, h4, _⟩ := lMK_ok h
    split at h4
    · rename_i c' ag r' es' hrd
      obtain ⟨r, h2, h3⟩ := h4
      cases r with
      | some v => cases c <;> exact ⟨_, by simp only [lkpA, h1, hrd, h2]; rfl, h3⟩
      | none => cases c <;> exact ⟨_, by simp only [lkpA, h1, hrd, h2]; rfl, h3⟩
    · exact h4.elim
  | v v =>
    cases v with
    | map m =>
      cases m with
      | none => cases c <;> exact ⟨_, rfl, h⟩
      | some _ => exact h.elim
    | _ => exact h.elim
  | _ => exact h.elim
def vMup (H : Hp) (kd : Kd) (x key val : AV) (k : Hp → Prop) : Prop :=
  match x with
  | .mp i g => lMK H i g (fun kk es fz => ObN (fz = 0) (ObD (isKey kd key && val.cells.all AV.one) (ObK2 (upA kd key val es) (fun es' => rpK H i ⟨4000000000, kk, es', g, fz⟩ k))))
  | _ => False
theorem vMup_ok {H : Hp} {kd : Kd} {x key val : AV} {k : Hp → Prop} (h : vMup H kd x key val k) : ∃ H', mupA H kd x key val = some H' ∧ k H' := by
  cases x with
  | mp i g =>
    simp only [vMup] at h
    obtain ⟨o, h1, h2, ⟨h3, h4, es', h5, h6⟩, h7, h8⟩ := lMK_ok h
    rw [rpK_eq] at h6
    rw [Bool.and_eq_true] at h4
    refine ⟨_, by simp only [mupA, h1, h3, h4.1, h4.2, h5, and_self, if_true]; rfl, ?_⟩
    have e : ({ o with es := es' } : OB) = ⟨4000000000, o.k, es', g, o.fz⟩ := by cases o; simp only at h7 h8; subst h7; subst h8; rfl
    have e2 : ({ o with es := es' } : OB) = ⟨o.e, o.k, es', o.g, 0⟩ := by rw [← h3]
    rw [← e2, e]
    exact h6
  | _ => exact h.elim
def vLnm (H : Hp) (x : AV) (k : AV → Prop) : Prop :=
  match x with
  | .mp i g => lMK H i g (fun _ es _ => match es with | _ :: es' => ObL es'.length (fun m => k (.v (.int .i64 (m : Nat)))) | [] => False)
  | _ => False
theorem vLnm_ok {H : Hp} {x : AV} {k : AV → Prop} (h : vLnm H x k) : ∃ n, lnmA H x = some n ∧ k (.v (.int .i64 (n : Nat))) := by
  cases x with
  | mp i g =>
    simp only [vLnm] at h
    obtain ⟨o, h1, _, h4, _⟩ := lMK_ok h
    split at h4
    · rename_i hes
      obtain ⟨m, h2, h3⟩ := h4
      exact ⟨m, by simp only [lnmA, h1, hes, h2], h3⟩
    · exact h4.elim
  | _ => exact h.elim
/-- What is checked not to be nil, a method of an interface too. -/
def vNilB (P : Program) (H : Hp) (x : AV) (k : AV → Prop) : Prop :=
  match x with
  | .mf nm t i g e off => lK H i g (fun _ _ _ _ => ObN (nahF P t nm = true) (k (.mf nm t i g e off)))
  | x => vNil H x k
theorem vNilB_ok {P : Program} {H : Hp} {x : AV} {k : AV → Prop} (h : vNilB P H x k) : ∃ r, nilB P H x = some r ∧ k r := by
  cases x with
  | mf nm t i g e off =>
    simp only [vNilB] at h
    obtain ⟨o, h1, _, ⟨h2, h3⟩, _⟩ := lK_ok h
    exact ⟨_, by simp only [nilB, h1, h2, if_true], h3⟩
  | _ =>
    simp only [vNilB] at h
    obtain ⟨r, h1, h2⟩ := vNil_ok h
    exact ⟨r, by simpa only [nilB] using h1, h2⟩
def vMki (t : Nat) (H : Hp) (x : AV) (k : AV → Prop) : Prop :=
  match x with
  | .oa i g e o => k (.io t i g e o)
  | .bf f i g e o => k (.ib t f i g e o)
  | _ => False
theorem vMki_ok {t : Nat} {H : Hp} {x : AV} {k : AV → Prop} (h : vMki t H x k) : ∃ r, mkiA t x = some r ∧ k r := by
  cases x with
  | oa i g e o => exact ⟨_, rfl, h⟩
  | bf f i g e o => exact ⟨_, rfl, h⟩
  | _ => exact h.elim
theorem vMove_ok {off : Nat} {H : Hp} {x : AV} {k : AV → Prop} (h : vMove off H x k) : ∃ r, moveA off H x = some r ∧ k r := by
  unfold vMove at h
  split at h
  · exact ⟨_, rfl, h⟩
  · obtain ⟨o, h1, _, h2, _⟩ := lK_ok h
    exact ⟨_, by simp only [moveA, h1], h2⟩
  · exact h.elim
def vFld (agg : Bool) (off n : Nat) (x : AV) (k : AV → Prop) : Prop :=
  match x with
  | .agg cs => (match agg with
    | true => ObD (decide (off + n ≤ cs.length)) (dK cs off (fun c => tK c n (fun c' => k (.agg c'))))
    | false => nK cs off k)
  | _ => False
theorem vFld_ok {agg : Bool} {off n : Nat} {x : AV} {k : AV → Prop} (h : vFld agg off n x k) : ∃ r, partA agg off n x = some r ∧ k r := by
  unfold vFld at h
  split at h
  · split at h
    · obtain ⟨hd, h⟩ := h
      have hd := of_decide_eq_true hd
      rw [dK_eq, tK_eq] at h
      exact ⟨_, by simp only [partA, if_true, if_pos hd], h⟩
    · obtain ⟨a, h1, h2⟩ := nK_ok h
      exact ⟨a, by simp only [partA, Bool.false_eq_true, if_false]; exact h1, h2⟩
  · exact h.elim
def vElem (kk : Nat) (H : Hp) (x i : AV) (k : AV → Prop) : Prop :=
  match i with
  | .v iv => (match iv with
    | .int _ ix => (match x with
      | .sl k' es => ObN (k' = kk) (ObX ix es.length (fun m => k (.ad kk es m 0)))
      | .ol i g n => lK H i g (fun _ k' _ _ => ObN (k' = kk) (ObX ix n (fun m => k (.oa i g m 0))))
      | _ => False)
    | _ => False)
  | _ => False
theorem vElem_ok {kk : Nat} {H : Hp} {x i : AV} {k : AV → Prop} (h : vElem kk H x i k) : ∃ ix r, intA i = some ix ∧ elemA kk H x ix = some r ∧ k r := by
  unfold vElem at h
  split at h
  · split at h
    · rename_i kd ix
      refine ⟨ix, ?_⟩
      split at h
      · obtain ⟨rfl, m, rfl, hm, h⟩ := h
        exact ⟨_, rfl, by simp [elemA, hm], h⟩
      · obtain ⟨o, h1, _, h2, _⟩ := lK_ok h
        obtain ⟨rfl, m, rfl, hm, hk⟩ := h2
        exact ⟨_, rfl, by simp [elemA, h1, hm], hk⟩
      · exact h.elim
    · exact h.elim
  · exact h.elim
/-- The elements that are appended. -/
def vSrc (H : Hp) (kk : Nat) (x : AV) (k : List AV → Prop) : Prop :=
  match x with
  | .nl _ => k []
  | .em _ _ => k []
  | .sl k' es => ObN (k' = kk) (k es)
  | .ol i g n => lK H i g (fun _ k' es _ => ObN (k' = kk) (ObN (n ≤ es.length) (ObU (es.take n) k)))
  | _ => False
theorem vSrc_ok {H : Hp} {kk : Nat} {x : AV} {k : List AV → Prop} (h : vSrc H kk x k) : ∃ news H', srcA H kk x = some (news, H') ∧ k news := by
  unfold vSrc at h
  split at h
  · exact ⟨_, _, rfl, h⟩
  · exact ⟨_, _, rfl, h⟩
  · obtain ⟨rfl, h⟩ := h
    exact ⟨_, _, by simp only [srcA, if_true]; rfl, h⟩
  · obtain ⟨o, h1, _, h2, _⟩ := lK_ok h
    obtain ⟨rfl, hn, es', rfl, h⟩ := h2
    exact ⟨_, _, by simp only [srcA, h1, hn, true_and, if_true]; rfl, h⟩
  · exact h.elim
/-- A list, empty or not. -/
inductive ObW (l : List AV) (a b : Prop) : Prop
  | nil (h : l = []) (hk : a) : ObW l a b
  | cons (h : l ≠ []) (hk : b) : ObW l a b
theorem objB_or {p t f : Prop} (h : ObB p t f) : (p ∧ t) ∨ (¬ p ∧ f) := by
  obtain ⟨h1, h2⟩ := h
  by_cases hp : p
  · exact .inl ⟨hp, h1 hp⟩
  · exact .inr ⟨hp, h2 hp⟩
def vApp (e : TypeId) (kk bytes : Nat) (H : Hp) (s x : AV) (k : KK) : Prop :=
  vSrc H kk x (fun news => match s with
    | .nl _ => ObW news (k (.nl kk) H) (ObN (news.length * bytes ≤ 140737488355328 ∧ news.length ≤ 9223372036854775807) (ObL news.length (fun m => aK H nums ⟨e, kk, news, 0, 0⟩ (fun n H' => k (.ol n 0 m) H'))))
    | .ol i g n => lK H i g (fun te k' es fz => ObN (k' = kk) (ObN (te = e) (ObN (fz ≤ n) (ObN (n ≤ es.length) (ObN ((n + news.length) * bytes ≤ 140737488355328 ∧ n + news.length ≤ 9223372036854775807)
        (ObL (n + news.length) (fun m => ObU (es.take n ++ news) (fun es' => rpK H i ⟨e, kk, es', g + 1, fz⟩ (fun H' => k (.ol i (g + 1) m) H')))))))))
    | .oc i g n c => lK H i g (fun te k' es fz => ObN (k' = kk) (ObN (te = e) (ObN (fz ≤ n) (ObN (n ≤ es.length) (ObN ((n + news.length) * bytes ≤ 140737488355328 ∧ n + news.length ≤ 9223372036854775807)
        (ObL (n + news.length) (fun m => ObU (es.take n ++ news) (fun es' => ObB (m ≤ c) (rpK H i ⟨e, kk, es', g, fz⟩ (fun H' => k (.ol i g m) H')) (aK H nums ⟨e, kk, es', 0, 0⟩ (fun j H' => k (.ol j 0 m) H'))))))))))
    | _ => False)
theorem vApp_ok {e : TypeId} {kk bytes : Nat} {H : Hp} {s x : AV} {k : KK} (h : vApp e kk bytes H s x k) : ∃ r H', appA e kk bytes H s x = some (r, H') ∧ k r H' := by
  obtain ⟨news, H0, hs, h⟩ := vSrc_ok h
  unfold appA
  rw [hs]
  simp only
  split at h
  · rcases h with ⟨rfl, h⟩ | ⟨hn, hz, m, rfl, h⟩
    · exact ⟨_, _, by simp only [if_true], h⟩
    · have := aK_ok h
      refine ⟨_, _, by simp only [if_neg hn, maxLenE, hz, and_self, if_true], this⟩
  · obtain ⟨o, h1, _, h2, _⟩ := lK_ok h
    obtain ⟨rfl, rfl, hf, hn, hz, m, rfl, es', rfl, h⟩ := h2
    rw [rpK_eq] at h
    refine ⟨_, _, by simp only [h1, hf, hn, hz, maxLenE, and_self, true_and, if_true], h⟩
  · rename_i i g n c
    obtain ⟨o, h1, _, h2, _⟩ := lK_ok h
    obtain ⟨rfl, rfl, hf, hn, hz, m, rfl, es', rfl, h⟩ := h2
    rcases objB_or h with ⟨hc, h⟩ | ⟨hc, h⟩
    · rw [rpK_eq] at h
      refine ⟨_, _, by simp only [h1, hf, hn, hz, maxLenE, and_self, true_and, if_true, if_pos hc], h⟩
    · have := aK_ok h
      refine ⟨_, _, by simp only [h1, hf, hn, hz, maxLenE, and_self, true_and, if_true, if_neg hc], this⟩
  · exact h.elim
def vSlo (kk : Nat) (H : Hp) (x i : AV) (k : AV → Prop) : Prop :=
  match i with
  | .v iv => (match iv with
    | .int _ ix => (match x with
      | .ol i g n => lK H i g (fun _ k' _ _ => ObN (k' = kk) (ObY ix n (fun m => k (.os i g m n))))
      | _ => False)
    | _ => False)
  | _ => False
theorem vSlo_ok {kk : Nat} {H : Hp} {x i : AV} {k : AV → Prop} (h : vSlo kk H x i k) : ∃ ix r, intA i = some ix ∧ sloA kk H x ix = some r ∧ k r := by
  unfold vSlo at h
  split at h
  · split at h
    · rename_i kd ix
      refine ⟨ix, ?_⟩
      split at h
      · obtain ⟨o, h1, _, h2, _⟩ := lK_ok h
        obtain ⟨rfl, m, rfl, hm, hk⟩ := h2
        exact ⟨_, rfl, by simp [sloA, h1, hm], hk⟩
      · exact h.elim
    · exact h.elim
  · exact h.elim
def vCpy (kk : Nat) (H : Hp) (d x : AV) (k : KK) : Prop :=
  vSrc H kk x (fun news => match d with
    | .ol i g n => lK H i g (fun te k' es fz => ObN (k' = kk) (ObN (fz = 0) (ObN (n ≤ es.length) (ObL (min news.length n) (fun m => ObU (news.take m ++ es.drop m) (fun es' => rpK H i ⟨te, k', es', g, fz⟩ (fun H' => k (.v (.int .i64 (m : Nat))) H')))))))
    | .os i g lo n => lK H i g (fun te k' es fz => ObN (k' = kk) (ObN (fz = 0) (ObN (lo ≤ n ∧ n ≤ es.length) (ObL (min news.length (n - lo)) (fun m => ObU (es.take lo ++ (news.take m ++ es.drop (lo + m))) (fun es' => rpK H i ⟨te, k', es', g, fz⟩ (fun H' => k (.v (.int .i64 (m : Nat))) H')))))))
    | .sl _ [] => k (.v (.int .i64 0)) H
    | _ => False)
theorem vCpy_ok {kk : Nat} {H : Hp} {d x : AV} {k : KK} (h : vCpy kk H d x k) : ∃ r H', cpyA kk H d x = some (r, H') ∧ k r H' := by
  obtain ⟨news, H0, hs, h⟩ := vSrc_ok h
  unfold cpyA
  rw [hs]
  simp only
  split at h
  · obtain ⟨o, h1, _, h2, hg⟩ := lK_ok h
    obtain ⟨rfl, hf, hn, m, rfl, es', rfl, h⟩ := h2
    rw [rpK_eq] at h
    subst hg
    refine ⟨_, _, by simp only [h1, hf, hn, and_self, true_and, if_true], h⟩
  · obtain ⟨o, h1, _, h2, hg⟩ := lK_ok h
    obtain ⟨rfl, hf, hn, m, rfl, es', rfl, h⟩ := h2
    rw [rpK_eq] at h
    subst hg
    refine ⟨_, _, by simp only [h1, hf, hn, and_self, true_and, if_true], h⟩
  · exact ⟨_, _, rfl, h⟩
  · exact h.elim
def vSlc (kk : Nat) (H : Hp) (x : AV) (lo hi : Option Int) (k : KK) : Prop :=
  match x with
  | .sl k' es => ObN (k' = kk) (ObJ es.length lo hi (fun i j => ObU ((es.take j).drop i) (fun es' => k (.sl kk es') H)))
  | .ol i g n => ObO (ObN (lo.getD 0 = 0) (lK H i g (fun _ _ _ _ => ObY (hi.getD n) n (fun j => k (.ol i g j) H))))
      (ObN (lo.getD 0 ≠ 0) (lK H i g (fun te k' es fz => ObN (k' = kk) (ObN (n ≤ es.length) (ObU (es.take n) (fun ft => ObN (ft.all AV.isP = true) (ObJ ft.length lo hi (fun a b => ObU ((ft.take b).drop a) (fun es' => rpK H i ⟨te, k', es, g, max fz n⟩ (fun H' => k (.sl kk es') H'))))))))))
  | .nl k' => ObN (k' = kk) (ObN (lo.getD 0 = 0 ∧ hi.getD 0 = 0) (k (.nl kk) H))
  | _ => False
theorem vcut_ok {kk : Nat} {es : List AV} {lo hi : Option Int} {k : Nat → Nat → Prop} (h : ObJ es.length lo hi k) : ∃ i j, cut kk es (lo.getD 0) (hi.getD es.length) = some (.sl kk ((es.take j).drop i)) ∧ k i j := by
  obtain ⟨i, j, h1, h2, h3, h4, h⟩ := h
  refine ⟨i, j, ?_, h⟩
  unfold cut
  rw [h1, h2, if_pos ⟨by omega, by omega, by simpa using h4⟩]
  simp
theorem vSlc_ok {kk : Nat} {H : Hp} {x : AV} {lo hi : Option Int} {k : KK} (h : vSlc kk H x lo hi k) : ∃ r H', sliceA kk H x lo hi = some (r, H') ∧ k r H' := by
  unfold vSlc at h
  split at h
  · rename_i k' es
    obtain ⟨hk, h⟩ := h
    subst hk
    obtain ⟨i, j, hc, es', rfl, h⟩ := vcut_ok (kk := k') h
    exact ⟨_, _, by simp only [sliceA, if_true, hc], h⟩
  · rename_i i g n
    rcases h with ⟨h0, h⟩ | ⟨h0, h⟩
    · obtain ⟨o, h1, _, h2, _⟩ := lK_ok h
      obtain ⟨j, hj, hjn, h⟩ := h2
      refine ⟨.ol i g j, H, ?_, h⟩
      simp only [sliceA, h0, if_true, h1]
      rw [hj, if_pos ⟨by omega, by simpa using hjn⟩]
      simp
    · obtain ⟨o, h1, h1', h2, hg⟩ := lK_ok h
      have hne : (o.e == 4000000000) = false := by simpa using live_ne h1
      obtain ⟨rfl, hn, ft, rfl, hp, h⟩ := h2
      obtain ⟨a, b, hc, es', rfl, h⟩ := vcut_ok (kk := o.k) h
      rw [rpK_eq] at h
      have eo : (⟨o.e, o.k, o.es, g, max o.fz n⟩ : OB) = { o with fz := max o.fz n } := by subst hg; rfl
      rw [eo] at h
      refine ⟨_, _, ?_, h⟩
      simp only [sliceA, if_neg h0, purC, h1', hg, hn, hp, hne, and_self, true_and, if_true, hc]
  · obtain ⟨rfl, ⟨h1, h2⟩, h⟩ := h
    exact ⟨_, _, by simp only [sliceA, h1, h2, and_self, if_true], h⟩
  · exact h.elim
end
end Go.Proofs.YtgcnbbjapapnjaaDoor.Sim
