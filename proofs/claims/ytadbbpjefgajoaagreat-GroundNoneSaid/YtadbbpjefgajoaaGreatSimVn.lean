/- Code on plain values run by the kernel, where behind a region in any order rows that nobody reaches are dropped, and the others are put in one order. -/
import Derived.Test.YtadbbpjefgajoaaGreatSimVf
import Derived.Test.YtadbbpjefgajoaaGreatSimX
namespace Go.Proofs.YtadbbpjefgajoaaGreat.Sim
open Go.RowKit
set_option linter.unusedVariables false
set_option linter.unusedSimpArgs false
def cellsN : AV → List AV
  | .agg cs => cs
  | .fn _ cs => cs
  | .tup cs => cs.flatMap fun c => match c with | .agg ds => ds | .fn _ ds => ds | a => [a]
  | a => [a]
/-- The row of a value, if it is of today. -/
def rowN (H : Hp) : AV → Option Nat
  | .ol i g _ | .oa i g _ _ | .mp i g | .io _ i g _ _ | .oc i g _ _ | .mf _ _ i g _ _ | .bf _ i g _ _ => (match H[i]? with | some ob => if ob.g = g then some i else none | none => none)
  | _ => none
def addN (H : Hp) (acc : List Nat) (a : AV) : List Nat := match rowN H a with | some i => if acc.contains i then acc else acc ++ [i] | none => acc
def growN (H : Hp) : Nat → Nat → List Nat → List Nat
  | 0, _, acc => acc
  | n + 1, p, acc => match acc[p]? with
    | some i => (match H[i]? with | some ob => growN H n (p + 1) ((ob.es.flatMap cellsN).foldl (addN H) acc) | none => acc)
    | none => acc
def idxN : List Nat → Nat → Nat → Option Nat
  | [], _, _ => none
  | x :: xs, i, k => if x = i then some k else idxN xs i (k + 1)
def renC (H : Hp) (acc : List Nat) (a : AV) : AV :=
  match a with
  | .ol i g n => (match rowN H a with | some _ => (match idxN acc i 0 with | some j => .ol j g n | none => .unk) | none => .unk)
  | .oa i g e off => (match rowN H a with | some _ => (match idxN acc i 0 with | some j => .oa j g e off | none => .unk) | none => .unk)
  | .mp i g => (match rowN H a with | some _ => (match idxN acc i 0 with | some j => .mp j g | none => .unk) | none => .unk)
  | .io t i g e off => (match rowN H a with | some _ => (match idxN acc i 0 with | some j => .io t j g e off | none => .unk) | none => .unk)
  | .oc i g n c => (match rowN H a with | some _ => (match idxN acc i 0 with | some j => .oc j g n c | none => .unk) | none => .unk)
  | .mf nm t i g e off => (match rowN H a with | some _ => (match idxN acc i 0 with | some j => .mf nm t j g e off | none => .unk) | none => .unk)
  | .bf f i g e off => (match rowN H a with | some _ => (match idxN acc i 0 with | some j => .bf f j g e off | none => .unk) | none => .unk)
  | .os .. => .unk
  | a => a
def isUnk : AV → Bool
  | .unk => true
  | _ => false
def renA (H : Hp) (acc : List Nat) : AV → AV
  | .agg cs => if (cs.map (renC H acc)).any isUnk then .unk else .agg (cs.map (renC H acc))
  | .fn f cs => if (cs.map (renC H acc)).any isUnk then .unk else .fn f (cs.map (renC H acc))
  | a => renC H acc a
def renB (H : Hp) (acc : List Nat) : AV → AV
  | .tup cs => if (cs.map (renA H acc)).any isUnk then .unk else .tup (cs.map (renA H acc))
  | a => renA H acc a
def accN (m : Nat) (st : St) : List Nat := growN st.H (st.H.length + 1) 0 ((st.s.flatMap cellsN).foldl (addN st.H) (List.range m))
def tbN (H : Hp) (acc : List Nat) : Tb := acc.map fun i => match H[i]? with | some ob => (ob.g, i, ob.g) | none => (0, i, 0)
def viewN (acc : List Nat) (st : St) : St := ⟨st.s.map (renB st.H acc), acc.filterMap fun i => (st.H[i]?).map fun ob => { ob with es := ob.es.map (renA st.H acc) }⟩
def beqOL (a : Option AV) (b : AV) : Bool := match a with | some a => beqA 40 a b | none => false
/-- Is the lesser state a view of the state? -/
def chkSlots (T : Tb) : List AV → List AV → Bool
  | [], [] => true
  | a :: as, b :: bs => (isUnk b || beqOL (rnB T b) a) && chkSlots T as bs
  | _, _ => false
def chkEs (T : Tb) : List AV → List AV → Bool
  | [], [] => true
  | a :: as, b :: bs => (match rnL T b.cells with | some cs => beqL (beqA 40) cs a.cells | none => false) && chkEs T as bs
  | _, _ => false
def chkRow (T : Tb) (H : Hp) (p : Nat × Nat × Nat) (ob2 : OB) : Bool :=
  match H[p.2.1]? with
  | some ob => decide (p.1 = ob2.g) && (decide (ob.g = p.2.2) && (decide (ob2.e = ob.e) && (decide (ob2.k = ob.k) && (decide (ob2.fz = ob.fz) && chkEs T ob.es ob2.es))))
  | none => false
def chkRows (T : Tb) (H : Hp) : Tb → Hp → Bool
  | [], [] => true
  | p :: ps, ob :: obs => chkRow T H p ob && chkRows T H ps obs
  | _, _ => false
def chkN (m : Nat) (T : Tb) (st st2 : St) : Bool :=
  chkSlots T st.s st2.s && (chkRows T st.H T st2.H && (decide (T.map (·.2.1)).Nodup && (List.range m).all fun j => match T[j]? with | some (g2, i, g) => decide (i = j) && decide (g2 = g) | none => false))
theorem chkSlots_ok {T : Tb} : ∀ {as bs : List AV}, chkSlots T as bs = true → as.length = bs.length ∧ ∀ (i : Nat) (b : AV), bs[i]? = some b → b = .unk ∨ ∃ a, as[i]? = some a ∧ rnB T b = some a
  | [], [], _ => ⟨rfl, fun i b h => by simp at h⟩
  | [], _ :: _, h => by cases h
  | _ :: _, [], h => by cases h
  | a :: as, b :: bs, h => by
    simp only [chkSlots, Bool.and_eq_true, Bool.or_eq_true] at h
    obtain ⟨h1, h2⟩ := h
    obtain ⟨q1, q2⟩ := chkSlots_ok h2
    refine ⟨by simp [q1], fun i c hc => ?_⟩
    cases i with
    | zero =>
      simp at hc
      subst hc
      rcases h1 with h1 | h1
      · left
        cases b <;> first | rfl | cases h1
      · right
        unfold beqOL at h1
        split at h1
        · rename_i x hx
          exact ⟨a, rfl, by rw [hx, beqA_eq 40 _ _ h1]⟩
        · cases h1
    | succ i => exact q2 i c (by simpa using hc)
theorem chkEs_ok {T : Tb} : ∀ {as bs : List AV}, chkEs T as bs = true → bs.length = as.length ∧ ∀ (n : Nat) (e2 : AV), bs[n]? = some e2 → ∃ e, as[n]? = some e ∧ rnL T e2.cells = some e.cells
  | [], [], _ => ⟨rfl, fun i b h => by simp at h⟩
  | [], _ :: _, h => by cases h
  | _ :: _, [], h => by cases h
  | a :: as, b :: bs, h => by
    simp only [chkEs, Bool.and_eq_true] at h
    obtain ⟨h1, h2⟩ := h
    obtain ⟨q1, q2⟩ := chkEs_ok h2
    refine ⟨by simp [q1], fun i c hc => ?_⟩
    cases i with
    | zero =>
      simp at hc
      subst hc
      split at h1
      · rename_i cs hcs
        exact ⟨a, rfl, by rw [hcs, beqL_eq (beqA_eq 40) h1]⟩
      · cases h1
    | succ i => exact q2 i c (by simpa using hc)
theorem chkRows_ok {T : Tb} {H : Hp} : ∀ {ps : Tb} {obs : Hp}, chkRows T H ps obs = true → obs.length = ps.length ∧ ∀ (j : Nat) (ob2 : OB), obs[j]? = some ob2 → ∃ i g ob, ps[j]? = some (ob2.g, i, g) ∧ H[i]? = some ob ∧ ob.g = g ∧ ob2.e = ob.e ∧ ob2.k = ob.k ∧ ob2.fz = ob.fz ∧ ob2.es.length = ob.es.length ∧
    ∀ (n : Nat) (e2 : AV), ob2.es[n]? = some e2 → ∃ e, ob.es[n]? = some e ∧ rnL T e2.cells = some e.cells
  | [], [], _ => ⟨rfl, fun i b h => by simp at h⟩
  | [], _ :: _, h => by cases h
  | _ :: _, [], h => by cases h
  | p :: ps, ob :: obs, h => by
    simp only [chkRows, Bool.and_eq_true] at h
    obtain ⟨h1, h2⟩ := h
    obtain ⟨q1, q2⟩ := chkRows_ok h2
    refine ⟨by simp [q1], fun i c hc => ?_⟩
    cases i with
    | zero =>
      simp at hc
      subst hc
      unfold chkRow at h1
      split at h1
      · rename_i o ho
        simp only [Bool.and_eq_true, decide_eq_true_eq] at h1
        obtain ⟨a1, a2, a3, a4, a5, a6⟩ := h1
        obtain ⟨b1, b2⟩ := chkEs_ok a6
        obtain ⟨p1, p2, p3⟩ := p
        simp only at a1 a2 ho
        subst a1; subst a2
        exact ⟨p2, _, o, rfl, ho, rfl, a3, a4, a5, b1, b2⟩
      · cases h1
    | succ i =>
      obtain ⟨i', g, o, r⟩ := q2 i c (by simpa using hc)
      exact ⟨i', g, o, by simpa using r⟩
theorem chkN_ok {m : Nat} {T : Tb} {st st2 : St} (h : chkN m T st st2 = true) : Fg m st st2 := by
  simp only [chkN, Bool.and_eq_true] at h
  obtain ⟨h1, h2, h3, h4⟩ := h
  obtain ⟨a1, a2⟩ := chkSlots_ok h1
  obtain ⟨b1, b2⟩ := chkRows_ok h2
  have h3 := of_decide_eq_true h3
  refine .view T a1 a2 ⟨b1, b2, fun j j' g2 i g g2' g' hj hj' => ?_⟩ fun j hj => ?_
  · have e1 : (T.map (·.2.1))[j]? = some i := by rw [List.getElem?_map, hj]; rfl
    have e2 : (T.map (·.2.1))[j']? = some i := by rw [List.getElem?_map, hj']; rfl
    obtain ⟨l1, l1'⟩ := List.getElem?_eq_some_iff.1 e1
    obtain ⟨l2, l2'⟩ := List.getElem?_eq_some_iff.1 e2
    have hp := List.pairwise_iff_getElem.1 h3
    rcases Nat.lt_trichotomy j j' with q | q | q
    · exact absurd (l1'.trans l2'.symm) (hp j j' l1 l2 q)
    · exact q
    · exact absurd (l2'.trans l1'.symm) (hp j' j l2 l1 q)
  · have := List.all_eq_true.1 h4 j (List.mem_range.2 hj)
    split at this
    · rename_i g2 i g ht
      simp only [Bool.and_eq_true, decide_eq_true_eq] at this
      exact ⟨g2, i, g, ht, .inl this⟩
    · cases this
/-- The state with the rows that are reached alone, in one order; where that can't be told, the state. -/
def nrmN (m : Nat) (st : St) : St := if chkN m (tbN st.H (accN m st)) st (viewN (accN m st) st) = true then viewN (accN m st) st else st
theorem nrmN_ok (m : Nat) (st : St) : Fg m st (nrmN m st) := by
  unfold nrmN
  split
  · rename_i h; exact chkN_ok h
  · exact Fg.refl m st
section
variable (P : Program) (G : Nat → AV) (tab : Tab)
def callHN (ih : Nat → AC → St → Option (EX × St)) (f : Nat) (as : List AV) (H : Hp) : Option (AV × Hp) :=
  match tab.at f with
  | some af =>
    match ih H.length af.body (St.init af.n as H) with
    | some (.x _, _) => none
    | some (_, st') => (match rsAs st' af.res with | some vs => some (resOf vs, st'.H) | none => none)
    | none => none
  | none => none
def callPN (ih : Nat → AC → St → Option (EX × St)) (f : Nat) (as : List AV) : Option AV :=
  match tab.at f with
  | some af =>
    match ih 0 af.body (St.init af.n as []) with
    | some (.x _, _) => none
    | some (_, st') => (match rsAs st' af.res with | some vs => (match purA st'.H vs with | some (rs, _) => some (resOf rs) | none => none) | none => none)
    | none => none
  | none => none
def runOpN (ih : Nat → AC → St → Option (EX × St)) (op : AOp) (st : St) : Option (AV × Hp) :=
  match op with
  | .call f xs => (match purA st.H (xs.map (AX.ev G st.s)) with | some (as, H1) => (match callPN tab ih f as with | some r => some (r, H1) | none => none) | none => none)
  | .callh f xs => callHN tab ih f (xs.map (AX.ev G st.s)) st.H
  | .callv x xs => (match cvA st.H (AX.ev G st.s x) (xs.map (AX.ev G st.s)) with | some (f, as) => (if hasBody P f = true then callHN tab ih f as st.H else none) | none => none)
  | .calli nm x xs => (match AX.ev G st.s x with | .io t i g e off => (match live st.H i g with | some _ => (match mthF P t nm with | some f => callHN tab ih f (.oa i g e off :: xs.map (AX.ev G st.s)) st.H | none => none) | none => none) | _ => none)
  | op => eff P (AX.ev G st.s) st.H op
def runIN (ih : Nat → AC → St → Option (EX × St)) (o : AI) (st : St) : Option St :=
  match o.guard with
  | none => (match runOpN P G tab ih o.op st with | some (r, H') => some (st.put o.dst r H') | none => none)
  | some (t, want) =>
    match st.s.getD t undefA with
    | .v (.bool b) => if b = want then (match runOpN P G tab ih o.op st with | some (r, H') => some (st.put o.dst r H') | none => none) else some (st.put o.dst undefA st.H)
    | .tup [] => some (st.put o.dst undefA st.H)
    | _ => none
def runLN (ih : Nat → AC → St → Option (EX × St)) : List AI → St → Option St
  | [], st => some st
  | o :: os, st => (match runIN P G tab ih o st with | some st' => runLN ih os st' | none => none)
def runDN (ih : Nat → AC → St → Option (EX × St)) (base : Nat) : List AI → St → Option St
  | [], st => some st
  | o :: os, st => if chkB G base o st = true then (match runIN P G tab ih o st with | some st' => runDN ih base os st' | none => none) else none
/-- So many rounds at most. -/
def loopX (run : St → Option (EX × St)) : Nat → St → Option (EX × St)
  | 0, _ => none
  | n + 1, st => (match run st with | some (.n, st') => loopX run n st' | r => r)
def runCN (n : Nat) (ih : Nat → AC → St → Option (EX × St)) (m : Nat) : AC → St → Option (EX × St)
  | .skip, st => some (.n, st)
  | .region ops, st => (match runLN P G tab ih ops st with | some st' => some (.n, st') | none => none)
  | .draw ops, st => (match runDN P G tab ih st.H.length ops st with | some st' => some (.n, st') | none => none)
  | .drawx [], _ => none
  | .drawx (R :: Rs), st => (match runDN P G tab ih st.H.length R st with | some st' => if (Rs.all fun R => match runDN P G tab ih st.H.length R st with | some s2 => beqS (nrmN m st') (nrmN m s2) | none => false) = true then some (.n, nrmN m st') else none | none => none)
  | .seq a b, st => (match ih m a st with | some (.n, st') => ih m b st' | r => r)
  | .cond c t e, st => (match c.ev G st.s with | .v (.bool b) => if b = true then ih m t st else ih m e st | _ => none)
  | .block id c, st => (match ih m c st with | some (.x i, st') => if i = id then some (.n, st') else some (.x i, st') | r => r)
  | .loop c, st => loopX (ih m c) n st
  | .scope c, st => ih m c st
  | .exit id, st => some (.x id, st)
  | .ret, st => some (.r, st)
  | .rng .., _ => none
def execN : Nat → Nat → AC → St → Option (EX × St)
  | 0 => fun _ _ _ => none
  | n + 1 => runCN P G tab n (execN n)
end
section
variable {P : Program} {G : Nat → AV} {tab : Tab} {hs : List FuncId}
/-- What the code comes to, told of its runs. -/
def SV (P : Program) (G : Nat → AV) (hs : List FuncId) (m : Nat) (ac : AC) (Q : EX → St → Prop) (st : St) : Prop :=
  ∀ (B : Bd) (w0 : World) (F0 F1 : Fz) (O1 : Ow), O1.length ≤ m → ∀ (c : Code), copC P hs c = some ac → ∀ (Q' : Exit → Act → World → Prop) (a : Act) (w : World) (F : Fz) (O : Ow), Rl G B w0 F0 F1 O1 F O st a w →
    (∀ e st' a' w' F' O', Q e st' → Rl G B w0 F0 F1 O1 F' O' st' a' w' → Q' e.out a' w') → c.wp P Q' a w
def GoodN (P : Program) (G : Nat → AV) (hs : List FuncId) (ih : Nat → AC → St → Option (EX × St)) : Prop := ∀ m ac st e st', ih m ac st = some (e, st') → ∀ Q : EX → St → Prop, Q e st' → SV P G hs m ac Q st
theorem SV.hc {f : FuncId} {af : AF} (hf : copF P hs f = some af) {as : List AV} {H : Hp} {r : AV} {H' : Hp} (h : SV P G hs H.length af.body (RetH af.res r H') (St.init af.n as H)) : HC P G f as H r H' := by
  unfold copF at hf
  split at hf
  · rename_i fn hfn
    split at hf
    · rename_i c hc
      split at hf
      · rename_i ts ac hts hac
        cases hf
        intro B w0 F0 F O w xs hown0 hg hl hv
        have hown := hown0.ds []
        have hO : O.length ≤ H.length := by rw [hown.len]; exact Nat.le_refl _
        refine calls_of_wp hfn hc (h _ _ _ _ _ hO c hac _ _ _ F O (init_ok hown hg hl hv) fun e st' a' w' F' O' he hr => ?_)
        obtain ⟨hex, ⟨vs, hvs, hrv⟩, hH⟩ := he
        obtain ⟨ys, y1, y2, y3⟩ := results_run hr hts hvs
        have key : a'.defers = [] ∧ ∃ v, (results fn a'.tmps).run P w' = .ok v w' ∧ ∃ v1, (Ending.returned v) = .returned v1 ∧ Out B w0 F0 F O r H' v1 w' := by
          subst hrv
          subst hH
          exact ⟨hr.defs, _, y1, _, rfl, F', O', resOf_vr y2 y3, hr.own.ds B.ds, hr.leF, hr.leO⟩
        rcases hex with rfl | rfl
        · exact key
        · exact key
      · cases hf
    · cases hf
  · cases hf
theorem SV.pc {f : FuncId} {af : AF} (hf : copF P hs f = some af) {as : List AV} {r : AV} (h : SV P G hs 0 af.body (RetP af.res r) (St.init af.n as [])) : PC P G f as r := by
  unfold copF at hf
  split at hf
  · rename_i fn hfn
    split at hf
    · rename_i c hc
      split at hf
      · rename_i ts ac hts hac
        cases hf
        intro w F xs hfr hg hl hv
        have hown : Own (Bd.of w.heap.size) w F F [] [] w := ⟨rfl, fun i d ob hd => by simp at hd, fun i j d d' hd => by simp at hd, hfr, Fz.le_refl F, fun b o v hv => .inl hv, Below.refl _ _, Nat.le_refl _, fun _ h => h.elim, fun _ h => h.elim⟩
        refine calls_of_wp hfn hc (h _ _ _ _ [] (Nat.le_refl _) c hac _ _ _ F [] (init_ok hown hg hl (fun i c a hc ha => .p (hv i c a hc ha))) fun e st' a' w' F' O' he hr => ?_)
        obtain ⟨hex, vs, hvs, rs, H', hp, hrs⟩ := he
        obtain ⟨ys, y1, y2, y3⟩ := results_run hr hts hvs
        obtain ⟨F2, p1, p2, o2, l2⟩ := purA_ok hr.own y2 y3 hp
        have key : a'.defers = [] ∧ ∃ v, (results fn a'.tmps).run P w' = .ok v w' ∧ ∃ v1 F', (Ending.returned v) = .returned v1 ∧ PV F' v1 r ∧ F.le F' ∧ (∀ b o v, F' b o = some v → w'.cell? ⟨b, o, none⟩ = some v) ∧ (∀ b o v, F' b o = some v → F b o = some v ∨ w.heap.size ≤ b) ∧ Below w.heap.size w w' := by
          refine ⟨hr.defs, _, y1, _, F2, rfl, ?_, Fz.le_trans hr.leF l2, o2.fr, fun b o v hv => (o2.new b o v hv).imp id (·.1), o2.below⟩
          subst hrs
          exact resOf_pv (by omega) p1
        rcases hex with rfl | rfl
        · exact key
        · exact key
      · cases hf
    · cases hf
  · cases hf
theorem callHN_ok {ih : Nat → AC → St → Option (EX × St)} (ht : tab.Ok P hs) (hg : GoodN P G hs ih) {f : Nat} {as : List AV} {H : Hp} {r : AV} {H' : Hp} (h : callHN tab ih f as H = some (r, H')) : HC P G f as H r H' := by
  unfold callHN at h
  split at h
  · rename_i af haf
    obtain ⟨h1, h2⟩ := ht f af haf
    split at h
    · cases h
    · rename_i e st' hne he
      split at h
      · rename_i vs hvs
        cases h
        refine SV.hc h1 (hg _ _ _ _ _ he _ ⟨?_, ⟨vs, hvs, rfl⟩, rfl⟩)
        cases e with
        | n => exact .inl rfl
        | r => exact .inr rfl
        | x i => exact (hne i rfl).elim
      · cases h
    · cases h
  · cases h
theorem callHN_body {ih : Nat → AC → St → Option (EX × St)} (ht : tab.Ok P hs) {f : Nat} {as : List AV} {H : Hp} {r : AV × Hp} (h : callHN tab ih f as H = some r) : hasBody P f = true := by
  unfold callHN at h
  split at h
  · rename_i af haf
    exact (ht f af haf).2
  · cases h
theorem callPN_ok {ih : Nat → AC → St → Option (EX × St)} (ht : tab.Ok P hs) (hg : GoodN P G hs ih) {f : Nat} {as : List AV} {r : AV} (h : callPN tab ih f as = some r) : PC P G f as r := by
  unfold callPN at h
  split at h
  · rename_i af haf
    obtain ⟨h1, h2⟩ := ht f af haf
    split at h
    · cases h
    · rename_i e st' hne he
      split at h
      · rename_i vs hvs
        split at h
        · rename_i rs H' hp
          cases h
          refine SV.pc h1 (hg _ _ _ _ _ he _ ⟨?_, vs, hvs, rs, H', hp, rfl⟩)
          cases e with
          | n => exact .inl rfl
          | r => exact .inr rfl
          | x i => exact (hne i rfl).elim
        · cases h
      · cases h
    · cases h
  · cases h
theorem runOpN_ok {ih : Nat → AC → St → Option (EX × St)} (ht : tab.Ok P hs) (hg : GoodN P G hs ih) {op : AOp} {st : St} {r : AV} {H' : Hp} (h : runOpN P G tab ih op st = some (r, H')) (k : AV → Hp → Prop) (hk : k r H') : AWop P G (AX.ev G st.s) st.H op k := by
  cases op with
  | call f xs =>
    simp only [runOpN] at h
    split at h
    · rename_i as H1 hp
      split at h
      · rename_i r' hr
        cases h
        exact ⟨as, _, _, hp, callPN_ok ht hg hr, hk⟩
      · cases h
    · cases h
  | callh f xs => exact ⟨r, H', callHN_ok ht hg h, hk⟩
  | callv x xs =>
    simp only [runOpN] at h
    split at h
    · rename_i f as hf
      split at h
      · rename_i hb
        exact ⟨f, as, r, H', hf, hb, callHN_ok ht hg h, hk⟩
      · cases h
    · cases h
  | calli nm x xs =>
    simp only [runOpN] at h
    split at h
    · rename_i t i g e off hx
      split at h
      · rename_i ob hl
        split at h
        · rename_i f hf
          exact ⟨t, i, g, e, off, f, r, H', hx, by rw [hl]; rfl, mthF_ok hf, callHN_ok ht hg h, hk⟩
        · cases h
      · cases h
    · cases h
  | _ => exact AWop_of h hk
theorem runIN_ok {ih : Nat → AC → St → Option (EX × St)} (ht : tab.Ok P hs) (hg : GoodN P G hs ih) {o : AI} {st st' : St} (h : runIN P G tab ih o st = some st') (k : St → Prop) (hk : k st') : AWi P G o st k := by
  unfold runIN at h
  unfold AWi
  split at h
  · rename_i hgd
    try rw [hgd]
    split at h
    · rename_i r H' he; cases h; exact runOpN_ok ht hg he _ hk
    · cases h
  · rename_i t want hgd
    try rw [hgd]
    try simp only
    split at h
    · rename_i b hb
      try rw [hb]
      try simp only
      split at h
      · rename_i hbw
        try rw [if_pos hbw]
        split at h
        · rename_i r H' he; cases h; exact runOpN_ok ht hg he _ hk
        · cases h
      · rename_i hbw
        try rw [if_neg hbw]
        cases h; exact hk
    · rename_i hb
      try rw [hb]
      cases h; exact hk
    · cases h
theorem runLN_ok {ih : Nat → AC → St → Option (EX × St)} (ht : tab.Ok P hs) (hg : GoodN P G hs ih) : ∀ {os : List AI} {st st' : St}, runLN P G tab ih os st = some st' → ∀ k : St → Prop, k st' → AWs P G os k st
  | [], st, st', h, k, hk => by cases h; exact hk
  | o :: os, st, st', h, k, hk => by
    simp only [runLN] at h
    split at h
    · rename_i s1 h1
      exact runIN_ok ht hg h1 _ (runLN_ok ht hg h k hk)
    · cases h
theorem runDN_ok {ih : Nat → AC → St → Option (EX × St)} (ht : tab.Ok P hs) (hg : GoodN P G hs ih) {base : Nat} : ∀ {os : List AI} {st st' : St}, runDN P G tab ih base os st = some st' → ∀ k : St → Prop, k st' → AWd P G base os k st
  | [], st, st', h, k, hk => by cases h; exact hk
  | o :: os, st, st', h, k, hk => by
    simp only [runDN] at h
    split at h
    · rename_i hc
      split at h
      · rename_i s1 h1
        exact ⟨chkB_ok hc, runIN_ok ht hg h1 _ (runDN_ok ht hg h k hk)⟩
      · cases h
    · cases h
theorem runCN_ok {n : Nat} {ih : Nat → AC → St → Option (EX × St)} (ht : tab.Ok P hs) (hg : GoodN P G hs ih) : GoodN P G hs (runCN P G tab n ih) := by
  intro m ac st e st' h Q hQ B w0 F0 F1 O1 hm c hc Q' a w F O hr hK
  cases c with
  | skip => cases hc; cases h; exact wp_skip (hK .n st a w F O hQ hr)
  | label l => cases hc; cases h; exact wp_label (hK .n st a w F O hQ hr)
  | region id ops draw =>
    simp only [copC] at hc
    split at hc
    · rename_i as has
      cases draw with
      | false =>
        cases hc
        simp only [runCN] at h
        split at h
        · rename_i s1 h1
          cases h
          exact region_text has (k := fun st => Q .n st) (fun st' a' w' F' O' hk hr' => hK .n st' a' w' F' O' hk hr') (runLN_ok ht hg h1 _ hQ) hr
        · cases h
      | true =>
        simp only [if_true] at hc
        split at hc
        · rename_i hd
          cases hc
          simp only [runCN] at h
          split at h
          · rename_i s1 h1
            cases h
            exact region_draw has (k := fun st => Q .n st) (fun st' a' w' F' O' hk hr' => hK .n st' a' w' F' O' hk hr') (draw_orders (copIs_at has).1 hd (runDN_ok ht hg h1 _ hQ)) hr
          · cases h
        · split at hc
          · rename_i hd
            cases hc
            have fin : ∀ (k : St → Prop), (∀ R ∈ drawxReps ops as, AWd P G st.H.length R k st) → (∀ s1, k s1 → ∃ s2, Fg m s1 s2 ∧ Q .n s2) → (Code.region id ops true).wp P Q' a w := fun k hk hv =>
              region_draw has (k := k) (fun st' a' w' F' O' hk hr' => by
                obtain ⟨s2, f1, f2⟩ := hv st' hk
                obtain ⟨O2, hr2⟩ := hr'.forget hm f1
                exact hK .n s2 a' w' F' O2 f2 hr2) (drawx_orders (copIs_at has).1 hd hk) hr
            generalize hreps : drawxReps ops as = reps at h fin
            cases reps with
            | nil => cases h
            | cons R Rs =>
              simp only [runCN] at h
              split at h
              · rename_i s1 h1
                split at h
                · rename_i hall
                  cases h
                  refine fin (fun s => nrmN m s = nrmN m s1) (fun R' hR' => ?_) (fun s hs => ⟨_, nrmN_ok m s, by rw [hs]; exact hQ⟩)
                  rcases List.mem_cons.1 hR' with rfl | hR'
                  · exact runDN_ok ht hg h1 _ rfl
                  · have := (List.all_eq_true.1 hall) R' hR'
                    split at this
                    · rename_i s2 h2
                      exact runDN_ok ht hg h2 _ (beqS_eq this).symm
                    · cases this
                · cases h
              · cases h
          · cases hc
            cases h
    · cases hc
  | seq x y =>
    simp only [copC] at hc
    split at hc
    · rename_i p q hp hq
      cases hc
      simp only [runCN] at h
      split at h
      · rename_i s1 h1
        refine wp_seq (hg _ _ _ _ _ h1 (fun e1 s => e1 = .n ∧ s = s1) ⟨rfl, rfl⟩ B w0 F0 F1 O1 hm x hp _ a w F O hr fun e2 st2 a' w' F' O' he hr' => ?_)
        obtain ⟨rfl, rfl⟩ := he
        exact hg _ _ _ _ _ h Q hQ B w0 F0 F1 O1 hm y hq Q' a' w' F' O' hr' hK
      · rename_i hn
        refine wp_seq (hg _ _ _ _ _ h (fun e1 s => e1 = e ∧ s = st') ⟨rfl, rfl⟩ B w0 F0 F1 O1 hm x hp _ a w F O hr fun e2 st2 a' w' F' O' he hr' => ?_)
        obtain ⟨rfl, rfl⟩ := he
        cases e2 with
        | n => exact (hn _ h).elim
        | x id => exact hK (.x id) _ a' w' F' O' hQ hr'
        | r => exact hK .r _ a' w' F' O' hQ hr'
    · cases hc
  | cond cd x y =>
    simp only [copC] at hc
    split at hc
    · rename_i p q r hp hq hr'
      cases hc
      have ho := hr.operand 0 cd p hp
      simp only [runCN] at h
      split at h
      · rename_i b hb
        rw [hb] at ho
        have ho := ho.pvC rfl
        have e0 : a.eval cd = .bool b := by generalize a.eval cd = q at ho; cases ho; rfl
        cases b
        · exact wp_cond_false e0 (hg _ _ _ _ _ h Q hQ B w0 F0 F1 O1 hm y hr' Q' a w F O hr hK)
        · exact wp_cond_true e0 (hg _ _ _ _ _ h Q hQ B w0 F0 F1 O1 hm x hq Q' a w F O hr hK)
      · cases h
    · cases hc
  | block id c =>
    simp only [copC] at hc
    split at hc
    · rename_i p hp
      cases hc
      simp only [runCN] at h
      split at h
      · rename_i i s1 h1
        refine wp_block (hg _ _ _ _ _ h1 (fun e1 s => e1 = .x i ∧ s = s1) ⟨rfl, rfl⟩ B w0 F0 F1 O1 hm c hp _ a w F O hr fun e2 st2 a' w' F' O' he hr' => ?_)
        obtain ⟨rfl, rfl⟩ := he
        show (if i = id then Q' .normal a' w' else Q' (.exit i) a' w')
        split at h
        · rename_i hi; cases h; rw [if_pos hi]; exact hK .n _ a' w' F' O' hQ hr'
        · rename_i hi; cases h; rw [if_neg hi]; exact hK (.x i) _ a' w' F' O' hQ hr'
      · rename_i hn
        refine wp_block (hg _ _ _ _ _ h (fun e1 s => e1 = e ∧ s = st') ⟨rfl, rfl⟩ B w0 F0 F1 O1 hm c hp _ a w F O hr fun e2 st2 a' w' F' O' he hr' => ?_)
        obtain ⟨rfl, rfl⟩ := he
        cases e2 with
        | n => exact hK .n _ a' w' F' O' hQ hr'
        | x i => exact (hn _ _ h).elim
        | r => exact hK .r _ a' w' F' O' hQ hr'
    · cases hc
  | loop c =>
    simp only [copC] at hc
    split at hc
    · rename_i p hp
      cases hc
      simp only [runCN] at h
      have key : ∀ (n : Nat) (st : St) (a : Act) (w : World) (F : Fz) (O : Ow), loopX (ih m p) n st = some (e, st') → Rl G B w0 F0 F1 O1 F O st a w → Code.rounds P c Q' n a w := by
        intro n
        induction n with
        | zero => intro st a w F O h; cases h
        | succ n ihn =>
          intro st a w F O h hr
          simp only [loopX] at h
          rw [rounds_succ]
          split at h
          · rename_i s1 h1
            refine hg _ _ _ _ _ h1 (fun e1 s => e1 = .n ∧ s = s1) ⟨rfl, rfl⟩ B w0 F0 F1 O1 hm c hp _ a w F O hr fun e2 st2 a' w' F' O' he hr' => ?_
            obtain ⟨rfl, rfl⟩ := he
            exact ihn _ a' w' F' O' h hr'
          · rename_i hn
            refine hg _ _ _ _ _ h (fun e1 s => e1 = e ∧ s = st') ⟨rfl, rfl⟩ B w0 F0 F1 O1 hm c hp _ a w F O hr fun e2 st2 a' w' F' O' he hr' => ?_
            obtain ⟨rfl, rfl⟩ := he
            cases e2 with
            | n => exact (hn _ h).elim
            | x i => exact hK (.x i) _ a' w' F' O' hQ hr'
            | r => exact hK .r _ a' w' F' O' hQ hr'
      exact wp_loop_rounds n (key n st a w F O h hr)
    · cases hc
  | scope c =>
    simp only [copC] at hc
    split at hc
    · rename_i p hp
      cases hc
      refine wp_scope_straight (hg _ _ _ _ _ h Q hQ B w0 F0 F1 O1 hm c hp _ a w F O hr fun e2 st2 a' w' F' O' he hr' => ?_)
      have := hK e2 st2 a' w' F' O' he hr'
      cases e2 <;> exact this
    · cases hc
  | exit id => cases hc; cases h; exact wp_exit (hK (.x id) st a w F O hQ hr)
  | ret => cases hc; cases h; exact wp_ret (hK .r st a w F O hQ hr)
  | rangeFunc => cases hc
  | goto => cases hc; cases h
  | refuse => cases hc; cases h
theorem execN_ok (ht : tab.Ok P hs) : ∀ n, GoodN P G hs (execN P G tab n)
  | 0 => fun m c st e st' h => by cases h
  | n + 1 => runCN_ok ht (execN_ok ht n)
/-- What a function comes to, run by the kernel. -/
def runsN (P : Program) (G : Nat → AV) (tab : Tab) (n f : Nat) (bs : List AV) : Bool :=
  match callPN tab (execN P G tab n) f bs with
  | some (.v (.bool true)) => true
  | _ => false
theorem runsN_true (ht : tab.Ok P hs) {n f : Nat} {bs : List AV} (h : runsN P G tab n f bs = true) : PC P G f bs (.v (.bool true)) := by
  unfold runsN at h
  split at h
  · rename_i hr; exact callPN_ok ht (execN_ok ht n) hr
  · cases h
end
end Go.Proofs.YtadbbpjefgajoaaGreat.Sim
