/- Code on plain values run by the kernel, where behind a region in any order rows that nobody reaches are dropped, and the others are put in one order. -/
import Derived.Test.YtgcnbbjapapnjaaDoorSimVf
import Derived.Test.YtgcnbbjapapnjaaDoorSimX
namespace Go.Proofs.YtgcnbbjapapnjaaDoor.Sim
open Go.RowKit
set_option linter.unusedVariables false
set_option linter.unusedSimpArgs false
def cellsN : AV → List AV
  | .agg cs => cs
  | .fn _ cs => cs
  | .tup cs => cs.flatMap fun c => match c with | .agg ds => ds | .fn _ ds => ds | a => [a]
  | a => [a]
/-- The row of a value, if it is of today. -/
def rowN (H : Hp) : AV → Option Nat
  | .ol i g _ | .oa i g _ _ | .mp i g | .io _ i g _ _ | .oc i g _ _ | .mf _ _ i g _ _ | .bf _ i g _ _ | .ib _ _ i g _ _ => (match H[i]? with | some ob => if ob.g = g then some i else none | none => none)
  | _ => none
def addN (H : Hp) (acc : List Nat) (a : AV) : List Nat := match rowN H a with | some i => if acc.contains i then acc else acc ++ [i] | none => acc
def growN (H : Hp) : Nat → Nat → List Nat → List Nat
  | 0, _, acc => acc
  | n + 1, p, acc => match acc[p]? with
    | some i => (match H[i]? with | some ob => growN H n (p + 1) ((ob.es.flatMap cellsN).foldl (addN H) acc) | none => acc)
    | none => acc
def idxN : List Nat → Nat → Nat → Option Nat
  | [], _, _ => none
  | x :: xs, i, k => if x = i then some k else idxN xs i (k + 1)
def renC (H : Hp) (acc : List Nat) (a : AV) : AV :=
  match a with
  | .ol i g n => (match rowN H a with | some _ => (match idxN acc i 0 with | some j => .ol j g n | none => .unk) | none => .unk)
  | .oa i g e off => (match rowN H a with | some _ => (match idxN acc i 0 with | some j => .oa j g e off | none => .unk) | none => .unk)
  | .mp i g => (match rowN H a with | some _ => (match idxN acc i 0 with | some j => .mp j g | none => .unk) | none => .unk)
  | .io t i g e off => (match rowN H a with | some _ => (match idxN acc i 0 with | some j => .io t j g e off | none => .unk) | none => .unk)
  | .oc i g n c => (match rowN H a with | some _ => (match idxN acc i 0 with | some j => .oc j g n c | none => .unk) | none => .unk)
  | .mf nm t i g e off => (match rowN H a with | some _ => (match idxN acc i 0 with | some j => .mf nm t j g e off | none => .unk) | none => .unk)
  | .bf f i g e off => (match rowN H a with | some _ => (match idxN acc i 0 with | some j => .bf f j g e off | none => .unk) | none => .unk)
  | .ib t f i g e off => (match rowN H a with | some _ => (match idxN acc i 0 with | some j => .ib t f j g e off | none => .unk) | none => .unk)
  | .os .. => .unk
  | a => a
def isUnk : AV → Bool
  | .unk => true
  | _ => false
def renA (H : Hp) (acc : List Nat) : AV → AV
  | .agg cs => if (cs.map (renC H acc)).any isUnk then .unk else .agg (cs.map (renC H acc))
  | .fn f cs => if (cs.map (renC H acc)).any isUnk then .unk else .fn f (cs.map (renC H acc))
  | a => renC H acc a
def renB (H : Hp) (acc : List Nat) : AV → AV
  | .tup cs => if (cs.map (renA H acc)).any isUnk then .unk else .tup (cs.map (renA H acc))
  | a => renA H acc a
def accN (m : Nat) (st : St) : List Nat := growN st.H (st.H.length + 1) 0 ((st.s.flatMap cellsN).foldl (addN st.H) (List.range m))
def tbN (H : Hp) (acc : List Nat) : Tb := acc.map fun i => match H[i]? with | some ob => (ob.g, i, ob.g) | none => (0, i, 0)
def viewN (acc : List Nat) (st : St) : St := ⟨st.s.map (renB st.H acc), acc.filterMap fun i => (st.H[i]?).map fun ob => { ob with es := ob.es.map (renA st.H acc) }⟩
def beqOL (a : Option AV) (b : AV) : Bool := match a with | some a => beqA 40 a b | none => false
/-- Is the lesser state a view of the state? -/
def chkSlots (T : Tb) : List AV → List AV → Bool
  | [], [] => true
  | a :: as, b :: bs => (isUnk b || beqOL (rnB T b) a) && chkSlots T as bs
  | _, _ => false
def chkEs (T : Tb) : List AV → List AV → Bool
  | [], [] => true
  | a :: as, b :: bs => (match rnL T b.cells with | some cs => beqL (beqA 40) cs a.cells | none => false) && chkEs T as bs
  | _, _ => false
def chkRow (T : Tb) (H : Hp) (p : Nat × Nat × Nat) (ob2 : OB) : Bool :=
  match H[p.2.1]? with
  | some ob => decide (p.1 = ob2.g) && (decide (ob.g = p.2.2) && (decide (ob2.e = ob.e) && (decide (ob2.k = ob.k) && (decide (ob2.fz = ob.fz) && chkEs T ob.es ob2.es))))
  | none => false
def chkRows (T : Tb) (H : Hp) : Tb → Hp → Bool
  | [], [] => true
  | p :: ps, ob :: obs => chkRow T H p ob && chkRows T H ps obs
  | _, _ => false
def chkN (m : Nat) (T : Tb) (st st2 : St) : Bool :=
  chkSlots T st.s st2.s && (chkRows T st.H T st2.H && (decide (T.map (·.2.1)).Nodup && (List.range m).all fun j => match T[j]? with | some (g2, i, g) => decide (i = j) && decide (g2 = g) | none => false))
theorem chkSlots_ok {T : Tb} : ∀ {as bs : List AV}, chkSlots T as bs = true → as.length = bs.length ∧ ∀ (i : Nat) (b : AV), bs[i]? = some b → b = .unk ∨ ∃ a, as[i]? = some a ∧ rnB T b = some a
  | [], [], _ => ⟨rfl, fun i b h => by simp at h⟩
  | [], _ :: _, h => by cases h
  | _ :: _, [], h => by cases h
  | a :: as, b :: bs, h => by
    simp only [chkSlots, Bool.and_eq_true, Bool.or_eq_true] at h
    obtain ⟨h1, h2⟩ := h
    obtain ⟨q1, q2⟩ := chkSlots_ok h2
    refine ⟨by simp [q1], fun i c hc => ?_⟩
    cases i with
    | zero =>
      simp at hc
      subst hc
      rcases h1 with h1 | h1
      · left
        cases b <;> first | rfl | cases h1
      · right
        unfold beqOL at h1
        split at h1
        · rename_i x hx
          exact ⟨a, rfl, by rw [hx, beqA_eq 40 _ _ h1]⟩
        · cases h1
    | succ i => exact q2 i c (by simpa using hc)
theorem chkEs_ok {T : Tb} : ∀ {as bs : List AV}, chkEs T as bs = true → bs.length = as.length ∧ ∀ (n : Nat) (e2 : AV), bs[n]? = some e2 → ∃ e, as[n]? = some e ∧ rnR T e2.cells = some e.cells
  | [], [], _ => ⟨rfl, fun i b h => by simp at h⟩
  | [], _ :: _, h => by cases h
  | _ :: _, [], h => by cases h
  | a :: as, b :: bs, h => by
    simp only [chkEs, Bool.and_eq_true] at h
    obtain ⟨h1, h2⟩ := h
    obtain ⟨q1, q2⟩ := chkEs_ok h2
    refine ⟨by simp [q1], fun i c hc => ?_⟩
    cases i with
    | zero =>
      simp at hc
      subst hc
      split at h1
      · rename_i cs hcs
        exact ⟨a, rfl, rnL_rnR (by rw [hcs, beqL_eq (beqA_eq 40) h1])⟩
      · cases h1
    | succ i => exact q2 i c (by simpa using hc)
theorem chkRows_ok {T : Tb} {H : Hp} : ∀ {ps : Tb} {obs : Hp}, chkRows T H ps obs = true → obs.length = ps.length ∧ ∀ (j : Nat) (ob2 : OB), obs[j]? = some ob2 → ∃ i g ob, ps[j]? = some (ob2.g, i, g) ∧ H[i]? = some ob ∧ ob.g = g ∧ ob2.e = ob.e ∧ ob2.k = ob.k ∧ ob2.fz = ob.fz ∧ ob2.es.length = ob.es.length ∧
    ∀ (n : Nat) (e2 : AV), ob2.es[n]? = some e2 → ∃ e, ob.es[n]? = some e ∧ rnR T e2.cells = some e.cells
  | [], [], _ => ⟨rfl, fun i b h => by simp at h⟩
  | [], _ :: _, h => by cases h
  | _ :: _, [], h => by cases h
  | p :: ps, ob :: obs, h => by
    simp only [chkRows, Bool.and_eq_true] at h
    obtain ⟨h1, h2⟩ := h
    obtain ⟨q1, q2⟩ := chkRows_ok h2
    refine ⟨by simp [q1], fun i c hc => ?_⟩
    cases i with
    | zero =>
      simp at hc
      subst hc
      unfold chkRow at h1
      split at h1
      · rename_i o ho
        simp only [Bool.and_eq_true, decide_eq_true_eq] at h1
        obtain ⟨a1, a2, a3, a4, a5, a6⟩ := h1
        obtain ⟨b1, b2⟩ := chkEs_ok a6
        obtain ⟨p1, p2, p3⟩ := p
        simp only at a1 a2 ho
        subst a1; subst a2
        exact ⟨p2, _, o, rfl, ho, rfl, a3, a4, a5, b1, b2⟩
      · cases h1
    | succ i =>
      obtain ⟨i', g, o, r⟩ := q2 i c (by simpa using hc)
      exact ⟨i', g, o, by simpa using r⟩
theorem chkN_ok {m : Nat} {T : Tb} {st st2 : St} (h : chkN m T st st2 = true) : Fg m st st2 := by
  simp only [chkN, Bool.and_eq_true] at h
  obtain ⟨h1, h2, h3, h4⟩ := h
  obtain ⟨a1, a2⟩ := chkSlots_ok h1
  obtain ⟨b1, b2⟩ := chkRows_ok h2
  have h3 := of_decide_eq_true h3
  refine .view T a1 a2 ⟨b1, b2, fun j j' g2 i g g2' g' hj hj' => ?_⟩ fun j hj => ?_
  · have e1 : (T.map (·.2.1))[j]? = some i := by rw [List.getElem?_map, hj]; rfl
    have e2 : (T.map (·.2.1))[j']? = some i := by rw [List.getElem?_map, hj']; rfl
    obtain ⟨l1, l1'⟩ := List.getElem?_eq_some_iff.1 e1
    obtain ⟨l2, l2'⟩ := List.getElem?_eq_some_iff.1 e2
    have hp := List.pairwise_iff_getElem.1 h3
    rcases Nat.lt_trichotomy j j' with q | q | q
    · exact absurd (l1'.trans l2'.symm) (hp j j' l1 l2 q)
    · exact q
    · exact absurd (l2'.trans l1'.symm) (hp j' j l2 l1 q)
  · have := List.all_eq_true.1 h4 j (List.mem_range.2 hj)
    split at this
    · rename_i g2 i g ht
      simp only [Bool.and_eq_true, decide_eq_true_eq] at this
      exact ⟨g2, i, g, ht, .inl this⟩
    · cases this
/-- The state with the rows that are reached alone, in one order; where that can't be told, the state. -/
def nrmN (m : Nat) (st : St) : St := if chkN m (tbN st.H (accN m st)) st (viewN (accN m st) st) = true then viewN (accN m st) st else st
theorem nrmN_ok (m : Nat) (st : St) : Fg m st (nrmN m st) := by
  unfold nrmN
  split
  · rename_i h; exact chkN_ok h
  · exact Fg.refl m st
/-! ## Regions in any order, by the sets of operations that are done -/
/-- A node: what is done, what of it may be done again, the state. -/
abbrev Nd := List Nat × List Nat × St
def insN (i : Nat) : List Nat → List Nat
  | [] => [i]
  | x :: xs => if i < x then i :: x :: xs else x :: insN i xs
theorem insN_mem {i j : Nat} : ∀ {D : List Nat}, j ∈ insN i D ↔ j = i ∨ j ∈ D
  | [] => by simp [insN]
  | x :: xs => by
    unfold insN
    split
    · simp
    · rw [List.mem_cons, insN_mem, List.mem_cons]
      constructor
      · rintro (h | h | h)
        · exact .inr (.inl h)
        · exact .inl h
        · exact .inr (.inr h)
      · rintro (h | h | h)
        · exact .inr (.inl h)
        · exact .inl h
        · exact .inr (.inr h)
def insAll : List Nat → List Nat → List Nat
  | [], D => D
  | c :: C, D => insN c (insAll C D)
theorem insAll_mem {j : Nat} {D : List Nat} : ∀ {C : List Nat}, j ∈ insAll C D ↔ j ∈ C ∨ j ∈ D
  | [] => by simp [insAll]
  | c :: C => by rw [insAll, insN_mem, insAll_mem, List.mem_cons]; exact ⟨fun h => by rcases h with h | h | h <;> simp [h], fun h => by rcases h with (h | h) | h <;> simp [h]⟩
def unkS (st : St) (d : Option Nat) : St := st.put d .unk st.H
def unks (as : List AI) : List Nat → St → St
  | [], v => v
  | c :: C, v => unks as C (match as[c]? with | some o => unkS v o.dst | none => v)
section
variable (run : AI → St → Option St) (m : Nat) (as : List AI) (ps : List (List Nat)) (es : List Nat)
def readyB (D : List Nat) (i : Nat) : Bool := !D.contains i && (ps.getD i []).all (D.contains ·)
def fixB (st : St) (c : Nat) : Bool := match as[c]? with | some o => (match run o st with | some s2 => (match o.dst with | some d => beqA 40 (s2.s.getD d .unk) (st.s.getD d .unk) | none => false) | none => false) | none => false
def closedB (D : List Nat) : Bool := D.all fun j => (ps.getD j []).all (D.contains ·)
def nodeB (nd : Nd) : Bool := (nd.2.1.all fun c => nd.1.contains c && (es.contains c && fixB run as nd.2.2 c)) && closedB ps nd.1
def chainB (D : List Nat) : List Nat → Bool
  | [] => true
  | c :: C => chainB D C && (es.contains c && readyB ps (insAll C D) c)
/-- What may be run at once is run. -/
def closeS : Nat → List Nat → List Nat → St → List Nat × St
  | 0, _, C, st => (C, st)
  | n + 1, D, C, st =>
    match es.find? (readyB ps D) with
    | some c => (match as[c]? with | some o => (match run o st with | some st' => closeS n (insN c D) (c :: C) st' | none => (C, st)) | none => (C, st))
    | none => (C, st)
/-- The state with what was run at once. -/
def setS (st1 st2 : St) : List Nat → St
  | [] => st1
  | c :: C => (match as[c]? with | some o => (match o.dst with | some d => (setS st1 st2 C).put (some d) (st2.s.getD d undefA) st1.H | none => setS st1 st2 C) | none => setS st1 st2 C)
def viewOf (nm : Bool) (C : List Nat) (st1 st2 : St) : St :=
  if nm = true then (if chkN m (tbN st2.H (accN m st2)) st1 (unks as C (viewN (accN m st2) st2)) = true then viewN (accN m st2) st2 else setS as st1 st2 C) else setS as st1 st2 C
def mkNd (nm : Bool) (D E : List Nat) (st : St) : Option Nd :=
  match closeS run as ps es as.length D [] st with
  | (C, st2) =>
    if (chainB ps es D C && (closedB ps D && E.all (D.contains ·))) = true then
      (match (insAll C D, insAll C E, viewOf m as nm C st st2) with
      | (D', E', v) => if nodeB run as ps es (D', E', v) = true then some (D', E', v) else none)
    else none
def beqNs (a b : List Nat) : Bool := decide (a = b)
/-- A node, unless its set has another one already. -/
def addS (nd : Nd) : List Nd → Option (List Nd)
  | [] => some [nd]
  | x :: L => if x.1 = nd.1 then (if (beqNs x.2.1 nd.2.1 && beqS x.2.2 nd.2.2) = true then some (x :: L) else none) else (match addS nd L with | some L' => some (x :: L') | none => none)
def stepsS (nm : Bool) (nd : Nd) : List Nat → List Nd → Option (List Nd)
  | [], acc => some acc
  | i :: is, acc =>
    if readyB ps nd.1 i = true then
      match as[i]? with
      | some o => (match run o nd.2.2 with
        | some st' => (match mkNd run m as ps es nm (insN i nd.1) (nd.2.1.filter fun c => !(ps.getD i []).contains c) st' with
          | some nd' => (match addS nd' acc with | some acc' => stepsS nm nd is acc' | none => none)
          | none => none)
        | none => none)
      | none => none
    else stepsS nm nd is acc
def nextS (nm : Bool) : List Nd → List Nd → Option (List Nd)
  | [], acc => some acc
  | nd :: L, acc => if (List.range as.length).all (nd.1.contains ·) then none else (match stepsS run m as ps es nm nd (List.range as.length) acc with | some acc' => nextS nm L acc' | none => none)
/-- The one state of the set of all operations. -/
def allS (n : Nat) : List Nd → Option St
  | [nd] => if (List.range n).all (nd.1.contains ·) then some nd.2.2 else none
  | _ => none
def runS (nm : Bool) : Nat → List Nd → Option St
  | 0, _ => none
  | n + 1, L => (match allS as.length L with
    | some st => some st
    | none => (match nextS run m as ps es nm L [] with | some L' => runS nm n L' | none => none))
def setsS (nm : Bool) (st : St) : Option St := match mkNd run m as ps es nm [] [] st with | some nd => runS run m as ps es nm (as.length + 1) [nd] | none => none
end
section
variable {P : Program} {G : Nat → AV}
theorem put_put {st : St} {d : Option Nat} {x y : AV} {H H' : Hp} : (st.put d x H).put d y H' = st.put d y H' := by
  cases d with
  | none => rfl
  | some d => simp [St.put]
theorem Stp_put {o : AI} {d : Nat} {x : AV} {st st' : St} (h : Stp P G o st st') (hr : d ∉ o.reads) (hd : o.dst ≠ some d) : Stp P G o (st.put (some d) x st.H) (st'.put (some d) x st'.H) := by
  have hev : ∀ y ∈ o.op.xs, AX.ev G st.s y = AX.ev G (st.put (some d) x st.H).s y := fun y hy => (ev_put (fun e he => by cases he; exact hr) y hy).symm
  have hx : ∀ r H', (st.put o.dst r H').put (some d) x H' = (st.put (some d) x st.H).put o.dst r H' := fun r H' => put_comm st r x H' H' st.H (fun e he hn => hd (he.trans hn.symm))
  unfold Stp at *
  cases hg : o.guard with
  | none =>
    rw [hg] at h
    obtain ⟨r, H', h1, rfl⟩ := h
    refine ⟨r, H', Eff_congr hev h1, ?_⟩
    have : (st.put o.dst r H').H = H' := by cases o.dst <;> rfl
    rw [this]
    exact hx r H'
  | some tw =>
    obtain ⟨t, want⟩ := tw
    rw [hg] at h
    have ht : (st.put (some d) x st.H).s.getD t undefA = st.s.getD t undefA := put_getD fun e he hn => by
      cases he
      exact hr (List.mem_append_right _ (by rw [hg]; simp [hn]))
    rcases h with ⟨h0, r, H', h1, rfl⟩ | ⟨b, h0, h1, rfl⟩
    · have : (st.put o.dst r H').H = H' := by cases o.dst <;> rfl
      rw [this]
      exact .inl ⟨by rw [ht]; exact h0, r, H', Eff_congr hev h1, hx r H'⟩
    · have : (st.put o.dst undefA st.H).H = st.H := by cases o.dst <;> rfl
      rw [this]
      exact .inr ⟨b, by rw [ht]; exact h0, h1, hx undefA st.H⟩
theorem Stp_own {o : AI} {d : Nat} {x : AV} {st st' : St} (h : Stp P G o st st') (hr : d ∉ o.reads) (hd : o.dst = some d) : Stp P G o (st.put (some d) x st.H) st' := by
  have hev : ∀ y ∈ o.op.xs, AX.ev G st.s y = AX.ev G (st.put (some d) x st.H).s y := fun y hy => (ev_put (fun e he => by cases he; exact hr) y hy).symm
  unfold Stp at *
  cases hg : o.guard with
  | none =>
    rw [hg] at h
    obtain ⟨r, H', h1, rfl⟩ := h
    exact ⟨r, H', Eff_congr hev h1, by rw [hd, put_put]⟩
  | some tw =>
    obtain ⟨t, want⟩ := tw
    rw [hg] at h
    have ht : (st.put (some d) x st.H).s.getD t undefA = st.s.getD t undefA := put_getD fun e he hn => by
      cases he
      exact hr (List.mem_append_right _ (by rw [hg]; simp [hn]))
    rcases h with ⟨h0, r, H', h1, rfl⟩ | ⟨b, h0, h1, rfl⟩
    · exact .inl ⟨by rw [ht]; exact h0, r, H', Eff_congr hev h1, by rw [hd, put_put]⟩
    · exact .inr ⟨b, by rw [ht]; exact h0, h1, by rw [hd, put_put]; rfl⟩
theorem unkS_slot {st st2 : St} {d : Nat} (len : st.s.length = st2.s.length) {p : Nat → AV → Prop} (h : ∀ (i : Nat) (b : AV), st2.s[i]? = some b → b = AV.unk ∨ p i b) : ∀ (i : Nat) (b : AV), (st2.s.set d AV.unk)[i]? = some b → b = AV.unk ∨ (i ≠ d ∧ p i b) := fun i b hb => by
  by_cases hi : i = d
  · subst hi
    rw [List.getElem?_set] at hb
    simp only [if_true] at hb
    split at hb
    · exact .inl (by simpa using hb.symm)
    · cases hb
  · rw [List.getElem?_set_ne (fun e => hi e.symm)] at hb
    exact (h i b hb).imp id fun q => ⟨hi, q⟩
theorem Fg.unk1 {m : Nat} {st st2 : St} (h : Fg m st st2) (d : Nat) : Fg m (unkS st (some d)) (unkS st2 (some d)) := by
  induction h with
  | same len slots hH =>
    refine .same (by simp [unkS, St.put, len]) (fun i b hb => ?_) hH
    rcases unkS_slot len slots i b hb with q | ⟨q1, q2⟩
    · exact .inl q
    · right
      show (List.set _ d AV.unk)[i]? = _
      rw [List.getElem?_set_ne (fun e => q1 e.symm)]
      exact q2
  | cut H1 hc h ih => exact .cut H1 hc ih
  | view T len slots v hb =>
    refine .view T (by simp [unkS, St.put, len]) (fun i b hb => ?_) v hb
    rcases unkS_slot len slots i b hb with q | ⟨q1, a, q2, q3⟩
    · exact .inl q
    · right
      refine ⟨a, ?_, q3⟩
      show (List.set _ d AV.unk)[i]? = _
      rw [List.getElem?_set_ne (fun e => q1 e.symm)]
      exact q2
/-- All that may come from here on, told of states. -/
def Expl (P : Program) (G : Nat → AV) (m : Nat) (as : List AI) (ps : List (List Nat)) (K : St → Prop) : Nat → List Nat → (Nat → Prop) → St → Prop
  | 0, _, _, _ => False
  | n + 1, E, D, st => (∀ c ∈ E, D c ∧ c ∈ eagers as ps ∧ ∃ o, as[c]? = some o ∧ Stp P G o st st) ∧ (∀ j, D j → ∀ p ∈ ps.getD j [], D p) ∧ ((∀ i, i < as.length → D i) → K st) ∧
    ∀ i, i < as.length → ¬ D i → (∀ p ∈ ps.getD i [], D p) → ∃ o st' t, as[i]? = some o ∧ Stp P G o st st' ∧ Fg m st' t ∧ Expl P G m as ps K n (E.filter fun c => !(ps.getD i []).contains c) (fun j => j = i ∨ D j) t
theorem Expl.mono {m : Nat} {as : List AI} {ps : List (List Nat)} {K : St → Prop} : ∀ {n : Nat} {E E' : List Nat} {D : Nat → Prop} {st : St}, (∀ c ∈ E', c ∈ E) → Expl P G m as ps K n E D st → Expl P G m as ps K n E' D st
  | 0, _, _, _, _, _, h => h.elim
  | n + 1, E, E', D, st, hs, ⟨h1, h2, h3, h4⟩ => ⟨fun c hc => h1 c (hs c hc), h2, h3, fun i hi hD hp => by
      obtain ⟨o, st', t, q1, q2, q3, q4⟩ := h4 i hi hD hp
      refine ⟨o, st', t, q1, q2, q3, Expl.mono (fun c hc => ?_) q4⟩
      obtain ⟨a, b⟩ := List.mem_filter.1 hc
      exact List.mem_filter.2 ⟨hs c a, b⟩⟩
theorem Expl.more {m : Nat} {as : List AI} {ps : List (List Nat)} {K : St → Prop} : ∀ {n n' : Nat} {E : List Nat} {D : Nat → Prop} {st : St}, n ≤ n' → Expl P G m as ps K n E D st → Expl P G m as ps K n' E D st
  | 0, _, _, _, _, _, h => h.elim
  | n + 1, 0, _, _, _, hn, _ => by omega
  | n + 1, n' + 1, E, D, st, hn, ⟨h1, h2, h3, h4⟩ => ⟨h1, h2, h3, fun i hi hD hp => by
      obtain ⟨o, st', t, q1, q2, q3, q4⟩ := h4 i hi hD hp
      exact ⟨o, st', t, q1, q2, q3, Expl.more (by omega) q4⟩⟩
/-- What may be run at once need not be run at once. -/
theorem Expl.unclose {m : Nat} {as : List AI} {ps : List (List Nat)} {K : St → Prop} {c : Nat} {oc : AI} {d : Nat} (hce : c ∈ eagers as ps) (hoc : as[c]? = some oc) (hdst : oc.dst = some d) (hself : d ∉ oc.reads) (hap : ∀ j x, as[j]? = some x → j ≠ c → c ∉ ps.getD j [] → d ∉ x.reads ∧ x.dst ≠ some d) :
    ∀ {n : Nat} {E : List Nat} {D : Nat → Prop} {s : St}, ¬ D c → (∀ p ∈ ps.getD c [], D p) → (∀ e ∈ E, D e) → (∀ j, D j → ∀ p ∈ ps.getD j [], D p) → Expl P G m as ps K n (c :: E) (fun j => j = c ∨ D j) s → Expl P G m as ps K (n + 1) E D (unkS s (some d))
  | 0, _, _, _, _, _, _, _, h => h.elim
  | n + 1, E, D, s, hDc, hpc, hED, hcl, h => by
    have h0 := h
    obtain ⟨h1, h2, h3, h4⟩ := h
    obtain ⟨_, _, o1, ho1, hfix⟩ := h1 c (by simp)
    rw [hoc] at ho1
    cases ho1
    refine ⟨fun e he => ?_, hcl, fun hall => absurd (hall c (List.getElem?_eq_some_iff.1 hoc).1) hDc, fun i hi hDi hpi => ?_⟩
    · obtain ⟨_, a2, oe, a3, a4⟩ := h1 e (by simp [he])
      have hne : e ≠ c := fun q => hDc (q ▸ hED e he)
      obtain ⟨b1, b2⟩ := hap e oe a3 hne fun q => hDc (hcl e (hED e he) c q)
      exact ⟨hED e he, a2, oe, a3, Stp_put a4 b1 b2⟩
    · by_cases hic : i = c
      · subst hic
        exact ⟨oc, s, s, hoc, Stp_own hfix hself hdst, Fg.refl m s, Expl.mono (fun e he => List.mem_cons_of_mem _ (List.mem_filter.1 he).1) h0⟩
      · have hci : c ∉ ps.getD i [] := fun q => hDc (hpi c q)
        obtain ⟨o, st', t, q1, q2, q3, q4⟩ := h4 i hi (fun q => by rcases q with q | q; exact hic q; exact hDi q) fun p hp => .inr (hpi p hp)
        obtain ⟨b1, b2⟩ := hap i o q1 hic hci
        refine ⟨o, _, unkS t (some d), q1, Stp_put q2 b1 b2, q3.unk1 d, Expl.unclose hce hoc hdst hself hap (fun q => ?_) (fun p hp => .inr (hpc p hp)) (fun e he => .inr (hED e (List.mem_filter.1 he).1)) (fun j hj p hp => ?_) ?_⟩
        · rcases q with q | q
          · exact hic q.symm
          · exact hDc q
        · rcases hj with rfl | hj
          · exact .inr (hpi p hp)
          · exact .inr (hcl j hj p hp)
        · have e1 : (fun j => j = i ∨ (j = c ∨ D j)) = (fun j => j = c ∨ (j = i ∨ D j)) := by
            funext j
            exact propext ⟨fun h => by rcases h with h | h | h <;> simp [h], fun h => by rcases h with h | h | h <;> simp [h]⟩
          rw [← e1]
          have e2 : (c :: E).filter (fun x => !(ps.getD i []).contains x) = c :: E.filter (fun x => !(ps.getD i []).contains x) := by
            rw [List.filter_cons_of_pos]
            simpa using hci
          rw [← e2]
          exact q4
theorem closedB_ok {ps : List (List Nat)} {D : List Nat} (h : closedB ps D = true) : ∀ j, j ∈ D → ∀ p ∈ ps.getD j [], p ∈ D := fun j hj p hp => by
  have := List.all_eq_true.1 h j hj
  exact List.contains_iff_mem.1 (List.all_eq_true.1 this p hp)
theorem readyB_ok {ps : List (List Nat)} {D : List Nat} {i : Nat} (h : readyB ps D i = true) : i ∉ D ∧ ∀ p ∈ ps.getD i [], p ∈ D := by
  simp only [readyB, Bool.and_eq_true, Bool.not_eq_true', List.all_eq_true] at h
  obtain ⟨h1, h2⟩ := h
  have h3 : i ∉ D := fun q => by rw [List.contains_iff_mem.2 q] at h1; cases h1
  exact ⟨h3, fun p hp => List.contains_iff_mem.1 (h2 p hp)⟩
theorem Expl.uncloseAll {m : Nat} {as : List AI} {ps : List (List Nat)} {K : St → Prop} {D E : List Nat} (hED : ∀ e ∈ E, e ∈ D) (hcl : ∀ j, j ∈ D → ∀ p ∈ ps.getD j [], p ∈ D) : ∀ {C : List Nat} {n : Nat} {v : St}, chainB ps (eagers as ps) D C = true → Expl P G m as ps K n (insAll C E) (· ∈ insAll C D) v → ∃ n', Expl P G m as ps K n' E (· ∈ D) (unks as C v)
  | [], n, v, _, h => ⟨n, h⟩
  | c :: C, n, v, hch, h => by
    simp only [chainB, Bool.and_eq_true] at hch
    obtain ⟨h1, h2, h3⟩ := hch
    have h2 := List.contains_iff_mem.1 h2
    obtain ⟨o, d, ho, hd, hs, hap⟩ := eagers_mem h2
    obtain ⟨r1, r2⟩ := readyB_ok h3
    have hcl' : ∀ j, j ∈ insAll C D → ∀ p ∈ ps.getD j [], p ∈ insAll C D := by
      clear h r1 r2 h3
      induction C with
      | nil => exact hcl
      | cons x C ih =>
        simp only [chainB, Bool.and_eq_true] at h1
        intro j hj p hp
        rw [insAll, insN_mem] at hj
        rw [insAll, insN_mem]
        rcases hj with rfl | hj
        · exact .inr ((readyB_ok h1.2.2).2 p hp)
        · exact .inr (ih h1.1 j hj p hp)
    have e1 : (fun j => j = c ∨ j ∈ insAll C D) = (· ∈ insAll (c :: C) D) := by
      funext j
      exact propext ⟨fun h => by rw [insAll, insN_mem]; exact h, fun h => by rw [insAll, insN_mem] at h; exact h⟩
    have h5 := Expl.unclose h2 ho hd hs hap (D := (· ∈ insAll C D)) (E := insAll C E) r1 r2 (fun e he => insAll_mem.2 ((insAll_mem.1 he).imp id (hED e))) hcl' (s := v) (by
      rw [e1]
      exact h.mono fun e he => by rw [insAll, insN_mem]; exact List.mem_cons.1 he)
    obtain ⟨n', h6⟩ := Expl.uncloseAll hED hcl h1 h5
    refine ⟨n', ?_⟩
    rw [unks, ho]
    simp only [hd]
    exact h6
end
section
variable {P : Program} {G : Nat → AV} {run : AI → St → Option St} {m : Nat} {as : List AI} {ps : List (List Nat)}
/-- What a node says of itself. -/
def NdOk (P : Program) (G : Nat → AV) (as : List AI) (ps : List (List Nat)) (nd : Nd) : Prop := (∀ c ∈ nd.2.1, c ∈ nd.1 ∧ c ∈ eagers as ps ∧ ∃ o, as[c]? = some o ∧ Stp P G o nd.2.2 nd.2.2) ∧ ∀ j, j ∈ nd.1 → ∀ p ∈ ps.getD j [], p ∈ nd.1
theorem nodeB_ok (hrun : ∀ o st st', run o st = some st' → Stp P G o st st') {nd : Nd} (h : nodeB run as ps (eagers as ps) nd = true) : NdOk P G as ps nd := by
  simp only [nodeB, Bool.and_eq_true, List.all_eq_true] at h
  refine ⟨fun c hc => ?_, closedB_ok h.2⟩
  obtain ⟨h1, h2, h3⟩ := h.1 c hc
  refine ⟨List.contains_iff_mem.1 h1, List.contains_iff_mem.1 h2, ?_⟩
  unfold fixB at h3
  split at h3
  · rename_i o ho
    split at h3
    · rename_i s2 hs
      have h4 := hrun o _ _ hs
      split at h3
      · rename_i d hd
        obtain ⟨r, hr⟩ := Stp_keep (eagers_cls (List.contains_iff_mem.1 h2) ho) h4
        refine ⟨o, ho, ?_⟩
        have e : s2 = nd.2.2 := by
          rw [hr, hd]
          rw [hr, hd] at h3
          have h5 := beqA_eq 40 _ _ h3
          generalize nd.2.2 = st at h5
          obtain ⟨s, H⟩ := st
          simp only [St.put] at h5 ⊢
          congr 1
          by_cases hl : d < s.length
          · rw [List.getD_eq_getElem?_getD, List.getElem?_set_self hl, List.getD_eq_getElem?_getD, List.getElem?_eq_getElem hl] at h5
            simp only [Option.getD_some] at h5
            rw [h5, List.set_getElem_self]
          · exact List.set_eq_of_length_le (by omega)
        rw [e] at h4
        exact h4
      · cases h3
    · cases h3
  · cases h3
theorem unks_ok {st1 : St} : ∀ {C : List Nat} {v : St}, v.H = st1.H → st1.s.length = v.s.length → (∀ (i : Nat) (b : AV), v.s[i]? = some b → b = .unk ∨ (∃ c ∈ C, ∃ o, as[c]? = some o ∧ o.dst = some i) ∨ st1.s[i]? = some b) → Fg m st1 (unks as C v)
  | [], v, hH, hl, h => .same hl (fun i b hb => by
      rcases h i b hb with q | ⟨c, hc, _⟩ | q
      · exact .inl q
      · simp at hc
      · exact .inr q) hH.symm
  | c :: C, v, hH, hl, h => by
    unfold unks
    split
    · rename_i o ho
      refine unks_ok (C := C) (by unfold unkS; cases o.dst <;> exact hH) (by unfold unkS; cases o.dst <;> simpa [St.put] using hl) fun i b hb => ?_
      have hv : v.s[i]? = some b → (o.dst ≠ some i) → b = .unk ∨ (∃ c ∈ C, ∃ o, as[c]? = some o ∧ o.dst = some i) ∨ st1.s[i]? = some b := fun q hd => by
        rcases h i b q with q | ⟨c', hc', o', ho', hd'⟩ | q
        · exact .inl q
        · rcases List.mem_cons.1 hc' with rfl | hc'
          · rw [ho] at ho'
            cases ho'
            exact absurd hd' hd
          · exact .inr (.inl ⟨c', hc', o', ho', hd'⟩)
        · exact .inr (.inr q)
      cases hd : o.dst with
      | none => rw [hd] at hb; exact hv hb (by rw [hd]; simp)
      | some d =>
        rw [hd] at hb
        have hb : (v.s.set d .unk)[i]? = some b := hb
        by_cases hi : i = d
        · subst hi
          rw [List.getElem?_set] at hb
          simp only [if_true] at hb
          split at hb
          · exact .inl (by simpa using hb.symm)
          · cases hb
        · rw [List.getElem?_set_ne (fun e => hi e.symm)] at hb
          exact hv hb (by rw [hd]; simpa using fun e => hi e.symm)
    · rename_i ho
      refine unks_ok (C := C) hH hl fun i b hb => ?_
      rcases h i b hb with q | ⟨c', hc', o', ho', hd'⟩ | q
      · exact .inl q
      · rcases List.mem_cons.1 hc' with rfl | hc'
        · rw [ho] at ho'; cases ho'
        · exact .inr (.inl ⟨c', hc', o', ho', hd'⟩)
      · exact .inr (.inr q)
theorem setS_ok {st1 st2 : St} : ∀ {C : List Nat}, (setS as st1 st2 C).H = st1.H ∧ st1.s.length = (setS as st1 st2 C).s.length ∧ ∀ (i : Nat) (b : AV), (setS as st1 st2 C).s[i]? = some b → b = .unk ∨ (∃ c ∈ C, ∃ o, as[c]? = some o ∧ o.dst = some i) ∨ st1.s[i]? = some b
  | [] => ⟨rfl, rfl, fun i b h => .inr (.inr h)⟩
  | c :: C => by
    obtain ⟨h1, h2, h3⟩ := setS_ok (st1 := st1) (st2 := st2) (C := C)
    have hin : ∀ (i : Nat) (b : AV), (setS as st1 st2 C).s[i]? = some b → b = .unk ∨ (∃ c' ∈ c :: C, ∃ o, as[c']? = some o ∧ o.dst = some i) ∨ st1.s[i]? = some b := fun i b hb => by
      rcases h3 i b hb with q | ⟨c', hc', q⟩ | q
      · exact .inl q
      · exact .inr (.inl ⟨c', List.mem_cons_of_mem _ hc', q⟩)
      · exact .inr (.inr q)
    unfold setS
    split
    · rename_i o ho
      split
      · rename_i d hd
        refine ⟨rfl, by simpa [St.put] using h2, fun i b hb => ?_⟩
        by_cases hi : i = d
        · subst hi
          exact .inr (.inl ⟨c, List.mem_cons_self, o, ho, hd⟩)
        · have hb : ((setS as st1 st2 C).s.set d _)[i]? = some b := hb
          rw [List.getElem?_set_ne (fun e => hi e.symm)] at hb
          exact hin i b hb
      · exact ⟨h1, h2, hin⟩
    · exact ⟨h1, h2, hin⟩
theorem viewOf_ok {nm : Bool} {C : List Nat} {st1 st2 : St} : Fg m st1 (unks as C (viewOf m as nm C st1 st2)) := by
  have hs : Fg m st1 (unks as C (setS as st1 st2 C)) := by
    obtain ⟨h1, h2, h3⟩ := setS_ok (as := as) (st1 := st1) (st2 := st2) (C := C)
    exact unks_ok h1 h2 h3
  unfold viewOf
  split
  · split
    · rename_i h1; exact chkN_ok h1
    · exact hs
  · exact hs
theorem mkNd_ok (hrun : ∀ o st st', run o st = some st' → Stp P G o st st') {nm : Bool} {D E : List Nat} {st : St} {nd : Nd} (h : mkNd run m as ps (eagers as ps) nm D E st = some nd) : NdOk P G as ps nd ∧ ∀ (K : St → Prop) (n : Nat), Expl P G m as ps K n nd.2.1 (· ∈ nd.1) nd.2.2 → ∃ n' t, Fg m st t ∧ Expl P G m as ps K n' E (· ∈ D) t := by
  unfold mkNd at h
  split at h
  rename_i C st2 hC
  split at h
  · rename_i hb
    simp only [Bool.and_eq_true] at hb
    obtain ⟨b1, b2, b3⟩ := hb
    dsimp only at h
    split at h
    · rename_i hn
      cases h
      refine ⟨nodeB_ok hrun hn, fun K n hx => ?_⟩
      obtain ⟨n', hx'⟩ := Expl.uncloseAll (fun e he => List.contains_iff_mem.1 (List.all_eq_true.1 b3 e he)) (closedB_ok b2) b1 hx
      exact ⟨n', _, viewOf_ok, hx'⟩
    · cases h
  · cases h
theorem addS_mem {nd : Nd} : ∀ {L L' : List Nd}, addS nd L = some L' → nd ∈ L' ∧ (∀ p ∈ L, p ∈ L') ∧ ∀ p ∈ L', p = nd ∨ p ∈ L
  | [], L', h => by cases h; exact ⟨by simp, fun p hp => by simp at hp, fun p hp => .inl (by simpa using hp)⟩
  | x :: L, L', h => by
    simp only [addS] at h
    split at h
    · rename_i hD
      split at h
      · rename_i hb
        cases h
        simp only [Bool.and_eq_true, beqNs, decide_eq_true_eq] at hb
        obtain ⟨x1, x2, x3⟩ := x
        obtain ⟨n1, n2, n3⟩ := nd
        simp only at hD hb
        obtain ⟨hb1, hb2⟩ := hb
        have := beqS_eq hb2
        subst hD; subst hb1; subst this
        exact ⟨List.mem_cons_self, fun p hp => hp, fun p hp => .inr hp⟩
      · cases h
    · split at h
      · rename_i L2 h2
        cases h
        obtain ⟨a, b, c⟩ := addS_mem h2
        refine ⟨List.mem_cons_of_mem _ a, fun p hp => ?_, fun p hp => ?_⟩
        · rcases List.mem_cons.1 hp with rfl | hp
          · exact List.mem_cons_self
          · exact List.mem_cons_of_mem _ (b p hp)
        · rcases List.mem_cons.1 hp with rfl | hp
          · exact .inr List.mem_cons_self
          · exact (c p hp).imp id (List.mem_cons_of_mem _)
      · cases h
theorem stepsS_ok (hrun : ∀ o st st', run o st = some st' → Stp P G o st st') {nm : Bool} {nd : Nd} : ∀ {is : List Nat} {acc acc' : List Nd}, stepsS run m as ps (eagers as ps) nm nd is acc = some acc' → (∀ p ∈ acc, NdOk P G as ps p) →
    (∀ p ∈ acc, p ∈ acc') ∧ (∀ p ∈ acc', NdOk P G as ps p) ∧ ∀ i ∈ is, i ∉ nd.1 → (∀ p ∈ ps.getD i [], p ∈ nd.1) → ∃ o st' nd', as[i]? = some o ∧ Stp P G o nd.2.2 st' ∧ mkNd run m as ps (eagers as ps) nm (insN i nd.1) (nd.2.1.filter fun c => !(ps.getD i []).contains c) st' = some nd' ∧ nd' ∈ acc'
  | [], acc, acc', h, hok => by cases h; exact ⟨fun p hp => hp, hok, fun i hi => by simp at hi⟩
  | i :: is, acc, acc', h, hok => by
    simp only [stepsS] at h
    split at h
    · rename_i hr
      split at h
      · rename_i o ho
        split at h
        · rename_i st' hs
          split at h
          · rename_i nd' hnd
            split at h
            · rename_i acc2 h2
              obtain ⟨c1, c2, c3⟩ := addS_mem h2
              obtain ⟨a, b, c⟩ := stepsS_ok hrun h (fun p hp => by
                rcases c3 p hp with rfl | hp
                · exact (mkNd_ok hrun hnd).1
                · exact hok p hp)
              refine ⟨fun p hp => a p (c2 p hp), b, fun j hj hjD hjp => ?_⟩
              rcases List.mem_cons.1 hj with rfl | hj
              · exact ⟨o, st', nd', ho, hrun _ _ _ hs, hnd, a _ c1⟩
              · exact c j hj hjD hjp
            · cases h
          · cases h
        · cases h
      · cases h
    · rename_i hr
      obtain ⟨a, b, c⟩ := stepsS_ok hrun h hok
      refine ⟨a, b, fun j hj hjD hjp => ?_⟩
      rcases List.mem_cons.1 hj with rfl | hj
      · exfalso
        apply hr
        simp only [readyB, Bool.and_eq_true, Bool.not_eq_true', List.all_eq_true]
        refine ⟨?_, fun p hp => List.contains_iff_mem.2 (hjp p hp)⟩
        cases hq : nd.1.contains j
        · rfl
        · exact absurd (List.contains_iff_mem.1 hq) hjD
      · exact c j hj hjD hjp
theorem nextS_ok (hrun : ∀ o st st', run o st = some st' → Stp P G o st st') {nm : Bool} : ∀ {L acc acc' : List Nd}, nextS run m as ps (eagers as ps) nm L acc = some acc' → (∀ p ∈ acc, NdOk P G as ps p) →
    (∀ p ∈ acc, p ∈ acc') ∧ (∀ p ∈ acc', NdOk P G as ps p) ∧ ∀ nd ∈ L, (¬ ∀ i, i < as.length → i ∈ nd.1) ∧ ∀ i, i < as.length → i ∉ nd.1 → (∀ p ∈ ps.getD i [], p ∈ nd.1) → ∃ o st' nd', as[i]? = some o ∧ Stp P G o nd.2.2 st' ∧ mkNd run m as ps (eagers as ps) nm (insN i nd.1) (nd.2.1.filter fun c => !(ps.getD i []).contains c) st' = some nd' ∧ nd' ∈ acc'
  | [], acc, acc', h, hok => by cases h; exact ⟨fun p hp => hp, hok, fun nd hm => by simp at hm⟩
  | nd :: L, acc, acc', h, hok => by
    simp only [nextS] at h
    split at h
    · cases h
    · rename_i hfull
      split at h
      · rename_i acc2 h2
        obtain ⟨c1, c2, c3⟩ := stepsS_ok hrun h2 hok
        obtain ⟨a, b, c⟩ := nextS_ok hrun h c2
        refine ⟨fun p hp => a p (c1 p hp), b, fun nd' hm => ?_⟩
        rcases List.mem_cons.1 hm with rfl | hm
        · refine ⟨fun hall => hfull (List.all_eq_true.2 fun i hi => List.contains_iff_mem.2 (hall i (List.mem_range.1 hi))), fun i hi hiD hip => ?_⟩
          obtain ⟨o, s, n2, q1, q2, q3, q4⟩ := c3 i (List.mem_range.2 hi) hiD hip
          exact ⟨o, s, n2, q1, q2, q3, a _ q4⟩
        · exact c nd' hm
      · cases h
theorem runS_ok (hrun : ∀ o st st', run o st = some st' → Stp P G o st st') {nm : Bool} {stf : St} : ∀ {n : Nat} {L : List Nd}, runS run m as ps (eagers as ps) nm n L = some stf → (∀ p ∈ L, NdOk P G as ps p) → ∀ nd ∈ L, ∃ k, Expl P G m as ps (· = stf) k nd.2.1 (· ∈ nd.1) nd.2.2
  | 0, L, h, _, _, _ => by cases h
  | n + 1, L, h, hok, nd, hm => by
    simp only [runS] at h
    split at h
    · rename_i s hs
      cases h
      unfold allS at hs
      split at hs
      · rename_i nd'
        split at hs
        · rename_i hall
          cases hs
          rcases List.mem_singleton.1 hm with rfl
          have hf := List.all_eq_true.1 hall
          exact ⟨1, (hok nd hm).1, (hok nd hm).2, fun _ => rfl, fun i hi hiD _ => absurd (List.contains_iff_mem.1 (hf i (List.mem_range.2 hi))) hiD⟩
        · cases hs
      · cases hs
    · split at h
      · rename_i L' hL
        obtain ⟨_, b, c⟩ := nextS_ok hrun hL (fun p hp => by simp at hp)
        obtain ⟨hnf, hstep⟩ := c nd hm
        have hall : ∀ i, i < as.length → i ∉ nd.1 → (∀ p ∈ ps.getD i [], p ∈ nd.1) → ∃ o st' t k, as[i]? = some o ∧ Stp P G o nd.2.2 st' ∧ Fg m st' t ∧ Expl P G m as ps (· = stf) k (nd.2.1.filter fun c => !(ps.getD i []).contains c) (fun j => j = i ∨ j ∈ nd.1) t := fun i hi hiD hip => by
          obtain ⟨o, st', nd', q1, q2, q3, q4⟩ := hstep i hi hiD hip
          obtain ⟨k, hk⟩ := runS_ok hrun h b nd' q4
          obtain ⟨k', t, f1, f2⟩ := (mkNd_ok hrun q3).2 _ k hk
          refine ⟨o, st', t, k', q1, q2, f1, ?_⟩
          have e1 : (fun j => j = i ∨ j ∈ nd.1) = (· ∈ insN i nd.1) := by
            funext j
            exact propext insN_mem.symm
          rw [e1]
          exact f2
        have hbd : ∀ N, ∃ k, ∀ i, i < N → i < as.length → i ∉ nd.1 → (∀ p ∈ ps.getD i [], p ∈ nd.1) → ∃ o st' t, as[i]? = some o ∧ Stp P G o nd.2.2 st' ∧ Fg m st' t ∧ Expl P G m as ps (· = stf) k (nd.2.1.filter fun c => !(ps.getD i []).contains c) (fun j => j = i ∨ j ∈ nd.1) t := fun N => by
          induction N with
          | zero => exact ⟨0, fun i hi => by omega⟩
          | succ N ih =>
            obtain ⟨k, hk⟩ := ih
            by_cases hN : N < as.length ∧ N ∉ nd.1 ∧ ∀ p ∈ ps.getD N [], p ∈ nd.1
            · obtain ⟨o, st', t, k2, q1, q2, q3, q4⟩ := hall N hN.1 hN.2.1 hN.2.2
              refine ⟨max k k2, fun i hi hi2 hiD hip => ?_⟩
              by_cases hiN : i = N
              · subst hiN
                exact ⟨o, st', t, q1, q2, q3, Expl.more (Nat.le_max_right ..) q4⟩
              · obtain ⟨o, st', t, q1, q2, q3, q4⟩ := hk i (by omega) hi2 hiD hip
                exact ⟨o, st', t, q1, q2, q3, Expl.more (Nat.le_max_left ..) q4⟩
            · refine ⟨k, fun i hi hi2 hiD hip => ?_⟩
              by_cases hiN : i = N
              · subst hiN
                exact absurd ⟨hi2, hiD, hip⟩ hN
              · exact hk i (by omega) hi2 hiD hip
        obtain ⟨k, hk⟩ := hbd as.length
        refine ⟨k + 1, (hok nd hm).1, (hok nd hm).2, fun hall => absurd hall hnf, fun i hi hiD hip => hk i hi hi hiD hip⟩
      · cases h
theorem setsS_ok (hrun : ∀ o st st', run o st = some st' → Stp P G o st st') {nm : Bool} {st stf : St} (h : setsS run m as ps (eagers as ps) nm st = some stf) : ∃ k t, Fg m st t ∧ Expl P G m as ps (· = stf) k [] (· ∈ ([] : List Nat)) t := by
  unfold setsS at h
  split at h
  · rename_i nd hnd
    obtain ⟨n1, n2⟩ := mkNd_ok hrun hnd
    obtain ⟨k, hk⟩ := runS_ok hrun h (fun p hp => by rcases List.mem_singleton.1 hp with rfl; exact n1) nd (by simp)
    obtain ⟨k', t1, f1, f2⟩ := n2 _ k hk
    exact ⟨k', t1, f1, f2⟩
  · cases h
end
/-- A call that is known. -/
structure Me where
  f : FuncId
  as : List AV
  H : Hp
  r : AV
  H' : Hp
def MeOk (P : Program) (G : Nat → AV) (e : Me) : Prop := hasBody P e.f = true ∧ HC P G e.f e.as e.H e.r e.H'
def Me.get : List Me → Nat → List AV → Hp → Option (AV × Hp)
  | [], _, _, _ => none
  | e :: t, f, as, H => if (decide (e.f = f) && (decide (e.H.length = H.length) && (beqL (beqA 40) e.as as && beqH e.H H))) = true then some (e.r, e.H') else Me.get t f as H
theorem Me.get_ok {P : Program} {G : Nat → AV} : ∀ {mm : List Me}, (∀ e ∈ mm, MeOk P G e) → ∀ {f : Nat} {as : List AV} {H : Hp} {r : AV} {H' : Hp}, Me.get mm f as H = some (r, H') → hasBody P f = true ∧ HC P G f as H r H'
  | [], _, f, as, H, r, H', h => by cases h
  | e :: t, hm, f, as, H, r, H', h => by
    unfold Me.get at h
    split at h
    · rename_i hb
      simp only [Bool.and_eq_true, decide_eq_true_eq] at hb
      obtain ⟨rfl, _, h1, h2⟩ := hb
      cases h
      rw [← beqL_eq (beqA_eq 40) h1, ← beqH_eq h2]
      exact hm e (by simp)
    · exact Me.get_ok (fun e' he => hm e' (by simp [he])) h
/-- Functions, and known calls. -/
structure TM where
  t : Tab
  mm : List Me
def TM.at (x : TM) (f : Nat) : Option AF := x.t.at f
def TM.Ok (P : Program) (G : Nat → AV) (hs : List FuncId) (x : TM) : Prop := x.t.Ok P hs ∧ ∀ e ∈ x.mm, MeOk P G e
theorem TM.ok_all {P : Program} {G : Nat → AV} {hs : List FuncId} {mm : List Me} (h : ∀ e ∈ mm, MeOk P G e) : TM.Ok P G hs ⟨Tab.all P hs, mm⟩ := ⟨Tab.ok_all, h⟩
theorem mmn {P : Program} {G : Nat → AV} : ∀ e ∈ ([] : List Me), MeOk P G e := fun e h => by simp at h
theorem mmc {P : Program} {G : Nat → AV} {e : Me} {mm : List Me} (h : MeOk P G e) (k : ∀ e ∈ mm, MeOk P G e) : ∀ e' ∈ e :: mm, MeOk P G e' := fun e' h' => by
  rcases List.mem_cons.1 h' with rfl | h'
  · exact h
  · exact k e' h'
section
variable (P : Program) (G : Nat → AV) (tab : TM)
def callHN (ih : Nat → AC → St → Option (EX × St)) (f : Nat) (as : List AV) (H : Hp) : Option (AV × Hp) :=
  match Me.get tab.mm f as H with
  | some x => some x
  | none =>
  match tab.at f with
  | some af =>
    match ih H.length af.body (St.init af.n as H) with
    | some (.x _, _) => none
    | some (_, st') => (match rsAs st' af.res with | some vs => some (resOf vs, st'.H) | none => none)
    | none => none
  | none => none
def callPN (ih : Nat → AC → St → Option (EX × St)) (f : Nat) (as : List AV) : Option AV :=
  match tab.at f with
  | some af =>
    match ih 0 af.body (St.init af.n as []) with
    | some (.x _, _) => none
    | some (_, st') => (match rsAs st' af.res with | some vs => (match purA st'.H vs with | some (rs, _) => some (resOf rs) | none => none) | none => none)
    | none => none
  | none => none
def runOpN (ih : Nat → AC → St → Option (EX × St)) (op : AOp) (st : St) : Option (AV × Hp) :=
  match op with
  | .call f xs => (match purA st.H (xs.map (AX.ev G st.s)) with | some (as, H1) => (match callPN tab ih f as with | some r => some (r, H1) | none => none) | none => none)
  | .callh f xs => callHN tab ih f (xs.map (AX.ev G st.s)) st.H
  | .callv x xs => (match cvA st.H (AX.ev G st.s x) (xs.map (AX.ev G st.s)) with | some (f, as) => (if hasBody P f = true then callHN tab ih f as st.H else none) | none => none)
  | .calli nm x xs => (match recvA st.H (AX.ev G st.s x) with | some (t, rc) => (match mthH P t nm with | some f => callHN tab ih f (rc :: xs.map (AX.ev G st.s)) st.H | none => none) | none => none)
  | op => eff P (AX.ev G st.s) st.H op
def runIN (ih : Nat → AC → St → Option (EX × St)) (o : AI) (st : St) : Option St :=
  match o.guard with
  | none => (match runOpN P G tab ih o.op st with | some (r, H') => some (st.put o.dst r H') | none => none)
  | some (t, want) =>
    match st.s.getD t undefA with
    | .v (.bool b) => if b = want then (match runOpN P G tab ih o.op st with | some (r, H') => some (st.put o.dst r H') | none => none) else some (st.put o.dst undefA st.H)
    | .tup [] => some (st.put o.dst undefA st.H)
    | _ => none
def runLN (ih : Nat → AC → St → Option (EX × St)) : List AI → St → Option St
  | [], st => some st
  | o :: os, st => (match runIN P G tab ih o st with | some st' => runLN ih os st' | none => none)
def runDN (ih : Nat → AC → St → Option (EX × St)) (base : Nat) : List AI → St → Option St
  | [], st => some st
  | o :: os, st => if chkB G base o st = true then (match runIN P G tab ih o st with | some st' => runDN ih base os st' | none => none) else none
def runQN (ih : Nat → AC → St → Option (EX × St)) : List AI → St → Option St
  | [], st => some st
  | o :: os, st => (match runIN P G tab ih o st with | some st' => if (decide (o.op.cls ≤ 1) || beqH st'.H st.H) = true then runQN ih os st' else none | none => none)
/-- So many rounds at most. -/
def loopX (run : St → Option (EX × St)) : Nat → St → Option (EX × St)
  | 0, _ => none
  | n + 1, st => (match run st with | some (.n, st') => loopX run n st' | r => r)
def runCN (n : Nat) (ih : Nat → AC → St → Option (EX × St)) (m : Nat) : AC → St → Option (EX × St)
  | .skip, st => some (.n, st)
  | .region ops, st => (match runLN P G tab ih ops st with | some st' => some (.n, st') | none => none)
  | .draw ops, st => (match runDN P G tab ih st.H.length ops st with | some st' => some (.n, st') | none => none)
  | .drawx [], _ => none
  | .drawx (R :: Rs), st => (match runDN P G tab ih st.H.length R st with | some st' => if (Rs.all fun R => match runDN P G tab ih st.H.length R st with | some s2 => beqS st' s2 | none => false) = true then some (.n, st') else if (Rs.all fun R => match runDN P G tab ih st.H.length R st with | some s2 => beqS (nrmN m st') (nrmN m s2) | none => false) = true then some (.n, nrmN m st') else none | none => none)
  | .seq a b, st => (match ih m a st with | some (.n, st') => ih m b st' | r => r)
  | .cond c t e, st => (match c.ev G st.s with | .v (.bool b) => if b = true then ih m t st else ih m e st | _ => none)
  | .block id c, st => (match ih m c st with | some (.x i, st') => if i = id then some (.n, st') else some (.x i, st') | r => r)
  | .loop c, st => loopX (ih m c) n st
  | .scope c, st => ih m c st
  | .exit id, st => some (.x id, st)
  | .ret, st => some (.r, st)
  | .rng .., _ => none
  | .drawq ops q ps es, st => (match (if q = true then runQN P G tab ih ops st else none) with | some st' => some (.n, st') | none => (match setsS (runIN P G tab ih) m ops ps es false st with | some st' => some (.n, st') | none => (match setsS (runIN P G tab ih) m ops ps es true st with | some st' => some (.n, st') | none => none)))
def execN : Nat → Nat → AC → St → Option (EX × St)
  | 0 => fun _ _ _ => none
  | n + 1 => runCN P G tab n (execN n)
end
section
variable {P : Program} {G : Nat → AV} {tab : TM} {hs : List FuncId}
/-- What the code comes to, told of its runs. -/
def SV (P : Program) (G : Nat → AV) (hs : List FuncId) (m : Nat) (ac : AC) (Q : EX → St → Prop) (st : St) : Prop :=
  ∀ (B : Bd) (w0 : World) (F0 F1 : Fz) (O1 : Ow), O1.length ≤ m → ∀ (c : Code), copC P hs c = some ac → ∀ (Q' : Exit → Act → World → Prop) (a : Act) (w : World) (F : Fz) (O : Ow), Rl G B w0 F0 F1 O1 F O st a w →
    (∀ e st' a' w' F' O', Q e st' → Rl G B w0 F0 F1 O1 F' O' st' a' w' → Q' e.out a' w') → c.wp P Q' a w
def GoodN (P : Program) (G : Nat → AV) (hs : List FuncId) (ih : Nat → AC → St → Option (EX × St)) : Prop := ∀ m ac st e st', ih m ac st = some (e, st') → ∀ Q : EX → St → Prop, Q e st' → SV P G hs m ac Q st
theorem SV.hc {f : FuncId} {af : AF} (hf : copF P hs f = some af) {as : List AV} {H : Hp} {r : AV} {H' : Hp} (h : SV P G hs H.length af.body (RetH af.res r H') (St.init af.n as H)) : HC P G f as H r H' := by
  unfold copF at hf
  split at hf
  · rename_i fn hfn
    split at hf
    · rename_i c hc
      split at hf
      · rename_i ts ac hts hac
        cases hf
        intro B w0 F0 F O w xs hown0 hg hl hv
        have hown := hown0.ds []
        have hO : O.length ≤ H.length := by rw [hown.len]; exact Nat.le_refl _
        refine calls_of_wp hfn hc (h _ _ _ _ _ hO c hac _ _ _ F O (init_ok hown hg hl hv) fun e st' a' w' F' O' he hr => ?_)
        obtain ⟨hex, ⟨vs, hvs, hrv⟩, hH⟩ := he
        obtain ⟨ys, y1, y2, y3⟩ := results_run hr hts hvs
        have key : a'.defers = [] ∧ ∃ v, (results fn a'.tmps).run P w' = .ok v w' ∧ ∃ v1, (Ending.returned v) = .returned v1 ∧ Out B w0 F0 F O r H' v1 w' := by
          subst hrv
          subst hH
          exact ⟨hr.defs, _, y1, _, rfl, F', O', resOf_vr y2 y3, hr.own.ds B.ds, hr.leF, hr.leO⟩
        rcases hex with rfl | rfl
        · exact key
        · exact key
      · cases hf
    · cases hf
  · cases hf
theorem SV.pc {f : FuncId} {af : AF} (hf : copF P hs f = some af) {as : List AV} {r : AV} (h : SV P G hs 0 af.body (RetP af.res r) (St.init af.n as [])) : PC P G f as r := by
  unfold copF at hf
  split at hf
  · rename_i fn hfn
    split at hf
    · rename_i c hc
      split at hf
      · rename_i ts ac hts hac
        cases hf
        intro w F xs hfr hg hl hv
        have hown : Own (Bd.of w.heap.size) w F F [] [] w := ⟨rfl, fun i d ob hd => by simp at hd, fun i j d d' hd => by simp at hd, hfr, Fz.le_refl F, fun b o v hv => .inl hv, Below.refl _ _, Nat.le_refl _, fun _ h => h.elim, fun _ h => h.elim⟩
        refine calls_of_wp hfn hc (h _ _ _ _ [] (Nat.le_refl _) c hac _ _ _ F [] (init_ok hown hg hl (fun i c a hc ha => .p (hv i c a hc ha))) fun e st' a' w' F' O' he hr => ?_)
        obtain ⟨hex, vs, hvs, rs, H', hp, hrs⟩ := he
        obtain ⟨ys, y1, y2, y3⟩ := results_run hr hts hvs
        obtain ⟨F2, p1, p2, o2, l2⟩ := purA_ok hr.own y2 y3 hp
        have key : a'.defers = [] ∧ ∃ v, (results fn a'.tmps).run P w' = .ok v w' ∧ ∃ v1 F', (Ending.returned v) = .returned v1 ∧ PV F' v1 r ∧ F.le F' ∧ (∀ b o v, F' b o = some v → w'.cell? ⟨b, o, none⟩ = some v) ∧ (∀ b o v, F' b o = some v → F b o = some v ∨ w.heap.size ≤ b) ∧ Below w.heap.size w w' := by
          refine ⟨hr.defs, _, y1, _, F2, rfl, ?_, Fz.le_trans hr.leF l2, o2.fr, fun b o v hv => (o2.new b o v hv).imp id (·.1), o2.below⟩
          subst hrs
          exact resOf_pv (by omega) p1
        rcases hex with rfl | rfl
        · exact key
        · exact key
      · cases hf
    · cases hf
  · cases hf
theorem callHN_ok {ih : Nat → AC → St → Option (EX × St)} (ht : tab.Ok P G hs) (hg : GoodN P G hs ih) {f : Nat} {as : List AV} {H : Hp} {r : AV} {H' : Hp} (h : callHN tab ih f as H = some (r, H')) : HC P G f as H r H' := by
  unfold callHN at h
  split at h
  · rename_i x hx
    cases h
    exact (Me.get_ok ht.2 hx).2
  split at h
  · rename_i af haf
    obtain ⟨h1, h2⟩ := ht.1 f af haf
    split at h
    · cases h
    · rename_i e st' hne he
      split at h
      · rename_i vs hvs
        cases h
        refine SV.hc h1 (hg _ _ _ _ _ he _ ⟨?_, ⟨vs, hvs, rfl⟩, rfl⟩)
        cases e with
        | n => exact .inl rfl
        | r => exact .inr rfl
        | x i => exact (hne i rfl).elim
      · cases h
    · cases h
  · cases h
theorem callHN_body {ih : Nat → AC → St → Option (EX × St)} (ht : tab.Ok P G hs) {f : Nat} {as : List AV} {H : Hp} {r : AV × Hp} (h : callHN tab ih f as H = some r) : hasBody P f = true := by
  unfold callHN at h
  split at h
  · rename_i x hx
    exact (Me.get_ok ht.2 (r := x.1) (H' := x.2) hx).1
  split at h
  · rename_i af haf
    exact (ht.1 f af haf).2
  · cases h
theorem callPN_ok {ih : Nat → AC → St → Option (EX × St)} (ht : tab.Ok P G hs) (hg : GoodN P G hs ih) {f : Nat} {as : List AV} {r : AV} (h : callPN tab ih f as = some r) : PC P G f as r := by
  unfold callPN at h
  split at h
  · rename_i af haf
    obtain ⟨h1, h2⟩ := ht.1 f af haf
    split at h
    · cases h
    · rename_i e st' hne he
      split at h
      · rename_i vs hvs
        split at h
        · rename_i rs H' hp
          cases h
          refine SV.pc h1 (hg _ _ _ _ _ he _ ⟨?_, vs, hvs, rs, H', hp, rfl⟩)
          cases e with
          | n => exact .inl rfl
          | r => exact .inr rfl
          | x i => exact (hne i rfl).elim
        · cases h
      · cases h
    · cases h
  · cases h
theorem runOpN_ok {ih : Nat → AC → St → Option (EX × St)} (ht : tab.Ok P G hs) (hg : GoodN P G hs ih) {op : AOp} {st : St} {r : AV} {H' : Hp} (h : runOpN P G tab ih op st = some (r, H')) (k : AV → Hp → Prop) (hk : k r H') : AWop P G (AX.ev G st.s) st.H op k := by
  cases op with
  | call f xs =>
    simp only [runOpN] at h
    split at h
    · rename_i as H1 hp
      split at h
      · rename_i r' hr
        cases h
        exact ⟨as, _, _, hp, callPN_ok ht hg hr, hk⟩
      · cases h
    · cases h
  | callh f xs => exact ⟨r, H', callHN_ok ht hg h, hk⟩
  | callv x xs =>
    simp only [runOpN] at h
    split at h
    · rename_i f as hf
      split at h
      · rename_i hb
        exact ⟨f, as, r, H', hf, hb, callHN_ok ht hg h, hk⟩
      · cases h
    · cases h
  | calli nm x xs =>
    simp only [runOpN] at h
    split at h
    · rename_i t rc hx
      split at h
      · rename_i f hf
        exact ⟨t, rc, f, r, H', hx, mthH_ok hf, callHN_ok ht hg h, hk⟩
      · cases h
    · cases h
  | _ => exact AWop_of h hk
theorem runIN_ok {ih : Nat → AC → St → Option (EX × St)} (ht : tab.Ok P G hs) (hg : GoodN P G hs ih) {o : AI} {st st' : St} (h : runIN P G tab ih o st = some st') (k : St → Prop) (hk : k st') : AWi P G o st k := by
  unfold runIN at h
  unfold AWi
  split at h
  · rename_i hgd
    try rw [hgd]
    split at h
    · rename_i r H' he; cases h; exact runOpN_ok ht hg he _ hk
    · cases h
  · rename_i t want hgd
    try rw [hgd]
    try simp only
    split at h
    · rename_i b hb
      try rw [hb]
      try simp only
      split at h
      · rename_i hbw
        try rw [if_pos hbw]
        split at h
        · rename_i r H' he; cases h; exact runOpN_ok ht hg he _ hk
        · cases h
      · rename_i hbw
        try rw [if_neg hbw]
        cases h; exact hk
    · rename_i hb
      try rw [hb]
      cases h; exact hk
    · cases h
theorem runLN_ok {ih : Nat → AC → St → Option (EX × St)} (ht : tab.Ok P G hs) (hg : GoodN P G hs ih) : ∀ {os : List AI} {st st' : St}, runLN P G tab ih os st = some st' → ∀ k : St → Prop, k st' → AWs P G os k st
  | [], st, st', h, k, hk => by cases h; exact hk
  | o :: os, st, st', h, k, hk => by
    simp only [runLN] at h
    split at h
    · rename_i s1 h1
      exact runIN_ok ht hg h1 _ (runLN_ok ht hg h k hk)
    · cases h
theorem runDN_ok {ih : Nat → AC → St → Option (EX × St)} (ht : tab.Ok P G hs) (hg : GoodN P G hs ih) {base : Nat} : ∀ {os : List AI} {st st' : St}, runDN P G tab ih base os st = some st' → ∀ k : St → Prop, k st' → AWd P G base os k st
  | [], st, st', h, k, hk => by cases h; exact hk
  | o :: os, st, st', h, k, hk => by
    simp only [runDN] at h
    split at h
    · rename_i hc
      split at h
      · rename_i s1 h1
        exact ⟨chkB_ok hc, runIN_ok ht hg h1 _ (runDN_ok ht hg h k hk)⟩
      · cases h
    · cases h
theorem runQN_ok {ih : Nat → AC → St → Option (EX × St)} (ht : tab.Ok P G hs) (hg : GoodN P G hs ih) : ∀ {os : List AI} {st st' : St}, runQN P G tab ih os st = some st' → QChain P G st.H os st st'
  | [], st, st', h => by cases h; exact rfl
  | o :: os, st, st', h => by
    simp only [runQN] at h
    split at h
    · rename_i s1 h1
      split at h
      · rename_i hH
        obtain ⟨s2, h2, rfl⟩ := AWi_iff.1 (runIN_ok ht hg h1 (fun s => s = s1) rfl)
        have e : s2.H = st.H := by
          simp only [Bool.or_eq_true, decide_eq_true_eq] at hH
          rcases hH with hH | hH
          · obtain ⟨r, rfl⟩ := Stp_keep hH h2
            cases o.dst <;> rfl
          · exact beqH_eq hH
        have := runQN_ok ht hg h
        rw [e] at this
        exact ⟨_, ⟨rfl, e, h2⟩, this⟩
      · cases h
    · cases h
theorem before_mem {p i : Nat} : ∀ {l1 l2 : List Nat}, (l1 ++ i :: l2).Nodup → List.Sublist [p, i] (l1 ++ i :: l2) → p ∈ l1
  | [], l2, hn, hs => by
    exfalso
    have hn := (List.nodup_cons.1 hn).1
    cases hs with
    | cons _ h => exact hn (h.subset (by simp))
    | cons_cons _ h => exact hn (h.subset (by simp))
  | x :: l1, l2, hn, hs => by
    rw [List.cons_append] at hn hs
    cases hs with
    | cons _ h => exact List.mem_cons_of_mem _ (before_mem (List.nodup_cons.1 hn).2 h)
    | cons_cons _ h => exact List.mem_cons_self
/-- Every order that is left comes to K. -/
theorem Expl.ops {B : Bd} {w0 : World} {F0 F1 : Fz} {O1 : Ow} {m : Nat} (hm : O1.length ≤ m) {ops : Array Oper} {as : List AI} (hc : copIs P hs ops ops.toList = some as) {K : St → Prop} {Q : Exit → Act → World → Prop} (hK : ∀ st a' w' F' O', K st → Rl G B w0 F0 F1 O1 F' O' st a' w' → Q .normal a' w') :
    ∀ {n : Nat} {E : List Nat} {D : Nat → Prop} {st : St}, Expl P G m as (ops.toList.map preds) K n E D st → ∀ l : List Nat, l.Nodup → (∀ i, i ∈ l ↔ i < ops.size ∧ ¬ D i) → (∀ l1 i l2, l = l1 ++ i :: l2 → ∀ o, ops[i]? = some o → ∀ p ∈ preds o, D p ∨ p ∈ l1) →
      ∀ (a : Act) (w : World) (F : Fz) (O : Ow), Rl G B w0 F0 F1 O1 F O st a w → wpOps P ops Q l a w
  | 0, _, _, _, h, _, _, _, _, _, _, _, _, _ => h.elim
  | n + 1, E, D, st, ⟨h1, h2, h3, h4⟩, l, hn, hl, hp, a, w, F, O, hr => by
    obtain ⟨q1, q2⟩ := copIs_at hc
    have hlen : as.length = ops.size := by rw [← q1]; simp
    cases l with
    | nil =>
      refine hK st a w F O (h3 fun i hi => ?_) hr
      refine Classical.byContradiction fun hD => ?_
      have := (hl i).2 ⟨by rw [← hlen]; exact hi, hD⟩
      simp at this
    | cons i l =>
      obtain ⟨hi, hiD⟩ := (hl i).1 (by simp)
      have hop : ops[i]? = some ops[i] := Array.getElem?_eq_getElem hi
      have hps : (ops.toList.map preds).getD i [] = preds ops[i] := by
        simp [List.getD_eq_getElem?_getD, hi]
      obtain ⟨o, st', t, g1, g2, g3, g4⟩ := h4 i (by rw [hlen]; exact hi) hiD fun p hp' => by
        rw [hps] at hp'
        rcases hp [] i l rfl _ hop p hp' with h | h
        · exact h
        · simp at h
      rw [wpOps_cons]
      refine AWi_ok (hs := hs) hop (q2 i _ o (by simp [hi]) g1) hr (AWi_iff.2 ⟨st', g2, rfl⟩) (k := fun s => s = st') fun st1 a' w' F' O' hk' h' => ?_
      subst hk'
      obtain ⟨O2, hr2⟩ := h'.forget hm g3
      refine Expl.ops hm hc hK g4 l (List.nodup_cons.1 hn).2 (fun j => ?_) (fun l1 j l2 e oj hoj p hpj => ?_) a' w' F' O2 hr2
      · have hij : j ∈ l → j ≠ i := fun hj e => (List.nodup_cons.1 hn).1 (e ▸ hj)
        have hjl := hl j
        rw [List.mem_cons] at hjl
        constructor
        · intro hj
          have := hjl.1 (.inr hj)
          exact ⟨this.1, fun h => by rcases h with h | h; exact hij hj h; exact this.2 h⟩
        · rintro ⟨a1, a2⟩
          rcases hjl.2 ⟨a1, fun h => a2 (.inr h)⟩ with h | h
          · exact absurd (.inl h) a2
          · exact h
      · rcases hp (i :: l1) j l2 (by rw [e]; rfl) oj hoj p hpj with h | h
        · exact .inl (.inr h)
        · rcases List.mem_cons.1 h with rfl | h
          · exact .inl (.inl rfl)
          · exact .inr h
theorem runCN_ok {n : Nat} {ih : Nat → AC → St → Option (EX × St)} (ht : tab.Ok P G hs) (hg : GoodN P G hs ih) : GoodN P G hs (runCN P G tab n ih) := by
  intro m ac st e st' h Q hQ B w0 F0 F1 O1 hm c hc Q' a w F O hr hK
  cases c with
  | skip => cases hc; cases h; exact wp_skip (hK .n st a w F O hQ hr)
  | label l => cases hc; cases h; exact wp_label (hK .n st a w F O hQ hr)
  | region id ops draw =>
    simp only [copC] at hc
    split at hc
    · rename_i as has
      cases draw with
      | false =>
        cases hc
        simp only [runCN] at h
        split at h
        · rename_i s1 h1
          cases h
          exact region_text has (k := fun st => Q .n st) (fun st' a' w' F' O' hk hr' => hK .n st' a' w' F' O' hk hr') (runLN_ok ht hg h1 _ hQ) hr
        · cases h
      | true =>
        simp only [if_true] at hc
        split at hc
        · rename_i hd
          cases hc
          simp only [runCN] at h
          split at h
          · rename_i s1 h1
            cases h
            exact region_draw has (k := fun st => Q .n st) (fun st' a' w' F' O' hk hr' => hK .n st' a' w' F' O' hk hr') (draw_orders (copIs_at has).1 hd (runDN_ok ht hg h1 _ hQ)) hr
          · cases h
        · split at hc
          · rename_i hd
            cases hc
            have fin : ∀ (k : St → Prop), (∀ R ∈ drawxReps ops as, AWd P G st.H.length R k st) → (∀ s1, k s1 → ∃ s2, Fg m s1 s2 ∧ Q .n s2) → (Code.region id ops true).wp P Q' a w := fun k hk hv =>
              region_draw has (k := k) (fun st' a' w' F' O' hk hr' => by
                obtain ⟨s2, f1, f2⟩ := hv st' hk
                obtain ⟨O2, hr2⟩ := hr'.forget hm f1
                exact hK .n s2 a' w' F' O2 f2 hr2) (drawx_orders (copIs_at has).1 hd hk) hr
            generalize hreps : drawxReps ops as = reps at h fin
            cases reps with
            | nil => cases h
            | cons R Rs =>
              simp only [runCN] at h
              split at h
              · rename_i s1 h1
                split at h
                · rename_i hall
                  cases h
                  refine fin (fun s => s = st') (fun R' hR' => ?_) (fun s hs => ⟨_, Fg.refl m s, by rw [hs]; exact hQ⟩)
                  rcases List.mem_cons.1 hR' with rfl | hR'
                  · exact runDN_ok ht hg h1 _ rfl
                  · have := (List.all_eq_true.1 hall) R' hR'
                    split at this
                    · rename_i s2 h2
                      exact runDN_ok ht hg h2 _ (beqS_eq this).symm
                    · cases this
                split at h
                · rename_i hall
                  cases h
                  refine fin (fun s => nrmN m s = nrmN m s1) (fun R' hR' => ?_) (fun s hs => ⟨_, nrmN_ok m s, by rw [hs]; exact hQ⟩)
                  rcases List.mem_cons.1 hR' with rfl | hR'
                  · exact runDN_ok ht hg h1 _ rfl
                  · have := (List.all_eq_true.1 hall) R' hR'
                    split at this
                    · rename_i s2 h2
                      exact runDN_ok ht hg h2 _ (beqS_eq this).symm
                    · cases this
                · cases h
              · cases h
          · split at hc
            · rename_i hd
              cases hc
              simp only [runCN] at h
              split at h
              · rename_i s1 h1
                cases h
                split at h1
                · rename_i hq
                  exact region_draw has (k := fun st => Q .n st) (fun st' a' w' F' O' hk hr' => hK .n st' a' w' F' O' hk hr') (draw_ordersQ (copIs_at has).1 hq (runQN_ok ht hg h1) hQ) hr
                · cases h1
              · have key : ∀ nm s2, setsS (runIN P G tab ih) m (as) (ops.toList.map preds) (eagers as (ops.toList.map preds)) nm st = some s2 → Q .n s2 → (Code.region id ops true).wp P Q' a w := fun nm s2 hrun hQ => by
                  have hstp : ∀ o st1 st2, runIN P G tab ih o st1 = some st2 → Stp P G o st1 st2 := fun o st1 st2 h1 => by
                    obtain ⟨s, q1, q2⟩ := AWi_iff.1 (runIN_ok ht hg h1 (fun s => s = st2) rfl)
                    rw [← q2]
                    exact q1
                  obtain ⟨k', t1, f1, f2⟩ := setsS_ok hstp hrun
                  refine wp_region_draw fun t => ?_
                  obtain ⟨p1, p2⟩ := sched_perm hd t
                  obtain ⟨O2, hr2⟩ := hr.drew.forget hm f1
                  refine Expl.ops hm has (fun s a' w' F' O' hs hr' => hK .n _ a' w' F' O' (by rw [hs]; exact hQ) hr') f2 _ (p1.nodup_iff.2 List.nodup_range) (fun i => by rw [p1.mem_iff]; simp) (fun l1 i l2 e o ho p hp => ?_) a _ F O2 hr2
                  right
                  have hi : i ∈ Region.schedule (P.follows .mixedOrders) ops t := by rw [e]; simp
                  have hsub := p2 i hi o ho p hp
                  have hnd : (Region.schedule (P.follows .mixedOrders) ops t).Nodup := p1.nodup_iff.2 List.nodup_range
                  rw [e] at hsub hnd
                  exact before_mem hnd hsub
                split at h
                · rename_i s2 hrun
                  cases h
                  exact key _ _ hrun hQ
                · split at h
                  · rename_i s2 hrun
                    cases h
                    exact key _ _ hrun hQ
                  · cases h
            · cases hc
              cases h
    · cases hc
  | seq x y =>
    simp only [copC] at hc
    split at hc
    · rename_i p q hp hq
      cases hc
      simp only [runCN] at h
      split at h
      · rename_i s1 h1
        refine wp_seq (hg _ _ _ _ _ h1 (fun e1 s => e1 = .n ∧ s = s1) ⟨rfl, rfl⟩ B w0 F0 F1 O1 hm x hp _ a w F O hr fun e2 st2 a' w' F' O' he hr' => ?_)
        obtain ⟨rfl, rfl⟩ := he
        exact hg _ _ _ _ _ h Q hQ B w0 F0 F1 O1 hm y hq Q' a' w' F' O' hr' hK
      · rename_i hn
        refine wp_seq (hg _ _ _ _ _ h (fun e1 s => e1 = e ∧ s = st') ⟨rfl, rfl⟩ B w0 F0 F1 O1 hm x hp _ a w F O hr fun e2 st2 a' w' F' O' he hr' => ?_)
        obtain ⟨rfl, rfl⟩ := he
        cases e2 with
        | n => exact (hn _ h).elim
        | x id => exact hK (.x id) _ a' w' F' O' hQ hr'
        | r => exact hK .r _ a' w' F' O' hQ hr'
    · cases hc
  | cond cd x y =>
    simp only [copC] at hc
    split at hc
    · rename_i p q r hp hq hr'
      cases hc
      have ho := hr.operand 0 cd p hp
      simp only [runCN] at h
      split at h
      · rename_i b hb
        rw [hb] at ho
        have ho := ho.pvC rfl
        have e0 : a.eval cd = .bool b := by generalize a.eval cd = q at ho; cases ho; rfl
        cases b
        · exact wp_cond_false e0 (hg _ _ _ _ _ h Q hQ B w0 F0 F1 O1 hm y hr' Q' a w F O hr hK)
        · exact wp_cond_true e0 (hg _ _ _ _ _ h Q hQ B w0 F0 F1 O1 hm x hq Q' a w F O hr hK)
      · cases h
    · cases hc
  | block id c =>
    simp only [copC] at hc
    split at hc
    · rename_i p hp
      cases hc
      simp only [runCN] at h
      split at h
      · rename_i i s1 h1
        refine wp_block (hg _ _ _ _ _ h1 (fun e1 s => e1 = .x i ∧ s = s1) ⟨rfl, rfl⟩ B w0 F0 F1 O1 hm c hp _ a w F O hr fun e2 st2 a' w' F' O' he hr' => ?_)
        obtain ⟨rfl, rfl⟩ := he
        show (if i = id then Q' .normal a' w' else Q' (.exit i) a' w')
        split at h
        · rename_i hi; cases h; rw [if_pos hi]; exact hK .n _ a' w' F' O' hQ hr'
        · rename_i hi; cases h; rw [if_neg hi]; exact hK (.x i) _ a' w' F' O' hQ hr'
      · rename_i hn
        refine wp_block (hg _ _ _ _ _ h (fun e1 s => e1 = e ∧ s = st') ⟨rfl, rfl⟩ B w0 F0 F1 O1 hm c hp _ a w F O hr fun e2 st2 a' w' F' O' he hr' => ?_)
        obtain ⟨rfl, rfl⟩ := he
        cases e2 with
        | n => exact hK .n _ a' w' F' O' hQ hr'
        | x i => exact (hn _ _ h).elim
        | r => exact hK .r _ a' w' F' O' hQ hr'
    · cases hc
  | loop c =>
    simp only [copC] at hc
    split at hc
    · rename_i p hp
      cases hc
      simp only [runCN] at h
      have key : ∀ (n : Nat) (st : St) (a : Act) (w : World) (F : Fz) (O : Ow), loopX (ih m p) n st = some (e, st') → Rl G B w0 F0 F1 O1 F O st a w → Code.rounds P c Q' n a w := by
        intro n
        induction n with
        | zero => intro st a w F O h; cases h
        | succ n ihn =>
          intro st a w F O h hr
          simp only [loopX] at h
          rw [rounds_succ]
          split at h
          · rename_i s1 h1
            refine hg _ _ _ _ _ h1 (fun e1 s => e1 = .n ∧ s = s1) ⟨rfl, rfl⟩ B w0 F0 F1 O1 hm c hp _ a w F O hr fun e2 st2 a' w' F' O' he hr' => ?_
            obtain ⟨rfl, rfl⟩ := he
            exact ihn _ a' w' F' O' h hr'
          · rename_i hn
            refine hg _ _ _ _ _ h (fun e1 s => e1 = e ∧ s = st') ⟨rfl, rfl⟩ B w0 F0 F1 O1 hm c hp _ a w F O hr fun e2 st2 a' w' F' O' he hr' => ?_
            obtain ⟨rfl, rfl⟩ := he
            cases e2 with
            | n => exact (hn _ h).elim
            | x i => exact hK (.x i) _ a' w' F' O' hQ hr'
            | r => exact hK .r _ a' w' F' O' hQ hr'
      exact wp_loop_rounds n (key n st a w F O h hr)
    · cases hc
  | scope c =>
    simp only [copC] at hc
    split at hc
    · rename_i p hp
      cases hc
      refine wp_scope_straight (hg _ _ _ _ _ h Q hQ B w0 F0 F1 O1 hm c hp _ a w F O hr fun e2 st2 a' w' F' O' he hr' => ?_)
      have := hK e2 st2 a' w' F' O' he hr'
      cases e2 <;> exact this
    · cases hc
  | exit id => cases hc; cases h; exact wp_exit (hK (.x id) st a w F O hQ hr)
  | ret => cases hc; cases h; exact wp_ret (hK .r st a w F O hQ hr)
  | rangeFunc => cases hc
  | goto => cases hc; cases h
  | refuse => cases hc; cases h
theorem execN_ok (ht : tab.Ok P G hs) : ∀ n, GoodN P G hs (execN P G tab n)
  | 0 => fun m c st e st' h => by cases h
  | n + 1 => runCN_ok ht (execN_ok ht n)
/-- What a function comes to, run by the kernel. -/
def runsN (P : Program) (G : Nat → AV) (tab : TM) (n f : Nat) (bs : List AV) : Bool :=
  match callPN tab (execN P G tab n) f bs with
  | some (.v (.bool true)) => true
  | _ => false
theorem runsN_true (ht : tab.Ok P G hs) {n f : Nat} {bs : List AV} (h : runsN P G tab n f bs = true) : PC P G f bs (.v (.bool true)) := by
  unfold runsN at h
  split at h
  · rename_i hr; exact callPN_ok ht (execN_ok ht n) hr
  · cases h
def resN (x : Option (AV × Hp)) (r : AV) (H' : Hp) : Bool := match x with | some (a, H) => beqA 40 a r && beqH H H' | none => false
/-- A call becomes known. -/
theorem hcN (ht : tab.Ok P G hs) {n : Nat} {e : Me} (h : resN (callHN tab (execN P G tab n) e.f e.as e.H) e.r e.H' = true) : MeOk P G e := by
  unfold resN at h
  split at h
  · rename_i a H hr
    simp only [Bool.and_eq_true] at h
    rw [beqA_eq 40 _ _ h.1, beqH_eq h.2] at hr
    exact ⟨callHN_body ht hr, callHN_ok ht (execN_ok ht n) hr⟩
  · cases h
/-- Rows that change, and new ones. -/
def updH (H : Hp) : List (Nat × OB) → Hp
  | [] => H
  | (i, ob) :: t => updH (H.set i ob) t
end
end Go.Proofs.YtgcnbbjapapnjaaDoor.Sim
