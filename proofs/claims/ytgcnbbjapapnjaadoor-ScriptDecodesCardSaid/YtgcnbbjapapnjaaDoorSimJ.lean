/- Code on plain values, contracts, and that the code in the world does the same. -/
import Derived.Test.YtgcnbbjapapnjaaDoorSimI
import Derived.LoopN
import Derived.Scope
namespace Go.Proofs.YtgcnbbjapapnjaaDoor.Sim
open Go.RowKit
set_option linter.unusedVariables false
set_option linter.unusedSimpArgs false
/-- The variables of a frame, and the rows of its own. -/
structure St where
  s : List AV
  H : Hp
def St.put (st : St) (d : Option Nat) (r : AV) (H : Hp) : St :=
  match d with
  | some d => ⟨st.s.set d r, H⟩
  | none => ⟨st.s, H⟩
def undefA : AV := .tup []
inductive EX where
  | n
  | x (id : Nat)
  | r
/-- Where the tables lie. -/
def GOK (G : Nat → AV) (F : Fz) : Prop := ∀ g, VR F [] (.pointer (some ⟨g, 0, none⟩)) (G g)
theorem GOK.mono {G : Nat → AV} {F F' : Fz} (h : GOK G F) (hF : F.le F') : GOK G F' := fun g => (h g).mono hF (Ow.le_refl _)
theorem Ow.le_nil (O : Ow) : Ow.le [] O := fun i d h => by simp at h
/-- A call on values that nobody writes any more: it comes to r. -/
def PC (P : Program) (G : Nat → AV) (f : FuncId) (as : List AV) (r : AV) : Prop :=
  ∀ (w : World) (F : Fz) (xs : List Value), (∀ b o v, F b o = some v → w.cell? ⟨b, o, none⟩ = some v) → GOK G F → xs.length = as.length → (∀ (i : Nat) (c : Value) (a : AV), xs[i]? = some c → as[i]? = some a → PV F c a) →
    Calls P f xs.toArray w (fun e w' => ∃ v F', e = .returned v ∧ PV F' v r ∧ F.le F' ∧ (∀ b o v, F' b o = some v → w'.cell? ⟨b, o, none⟩ = some v) ∧ (∀ b o v, F' b o = some v → F b o = some v ∨ w.heap.size ≤ b) ∧ Below w.heap.size w w')
/-- A call that may write the rows of its caller's own: it comes to r, and the rows are then H'. -/
def HC (P : Program) (G : Nat → AV) (f : FuncId) (as : List AV) (H : Hp) (r : AV) (H' : Hp) : Prop :=
  ∀ (B : Bd) (w0 : World) (F0 F : Fz) (O : Ow) (w : World) (xs : List Value), Own B w0 F0 F O H w → GOK G F → xs.length = as.length → (∀ (i : Nat) (c : Value) (a : AV), xs[i]? = some c → as[i]? = some a → VR F O c a) →
    Calls P f xs.toArray w (fun e w' => ∃ v, e = .returned v ∧ Out B w0 F0 F O r H' v w')
def ltC (base : Nat) : AV → Bool
  | .ol i _ _ => decide (i < base)
  | .os i _ _ _ => decide (i < base)
  | .oa i _ _ _ => decide (i < base)
  | .io _ i _ _ _ => decide (i < base)
  | .mp i _ => decide (i < base)
  | .oc i _ _ _ => decide (i < base)
  | .mf _ _ i _ _ _ => decide (i < base)
  | .bf _ i _ _ _ => decide (i < base)
  | .ib _ _ i _ _ _ => decide (i < base)
  | _ => true
def ltB (base : Nat) : AV → Bool
  | .agg cs => cs.all (ltC base)
  | .fn _ cs => cs.all (ltC base)
  | a => ltC base a
/-- A row of the call's own from base on. -/
def geB (base : Nat) : AV → Bool
  | .ol i _ _ => decide (base ≤ i)
  | _ => false
def AOp.cls : AOp → Nat
  | .mkm2 .. | .mkb .. | .mki .. | .mv _ | .un .. | .cv .. | .pick .. | .ext .. | .bld .. | .fld .. | .idx .. | .ixa .. | .sls .. | .lns _ | .bi .. | .mkf .. | .eqs .. | .len _ => 0
  | .bin .. | .load .. | .nilc _ | .fad .. | .iad .. | .iaa .. | .slo .. | .lkp .. | .lnm _ => 1
  | .slc .. | .call .. => 2
  | .new .. | .bsl .. | .mks .. | .callm .. | .apz .. | .mkm .. => 3
  | .apf .. => 5
  | .store .. | .app .. | .callh .. | .callv .. | .calli .. | .bad | .cpy .. | .mup .. | .aps .. | .cup .. | .cpu .. | .usd .. | .ust .. | .sla .. | .sob .. | .rgm .. | .nxm .. | .enm .. | .mdl .. | .clr .. => 4
def AOp.xs : AOp → List AX
  | .mv x | .un _ x | .cv _ _ x | .ext x _ | .new _ _ x | .load _ _ x | .nilc x | .fad _ x | .fld _ _ _ x | .lns x | .len x | .mki _ x | .lnm x | .mkm2 _ x | .mkb _ x | .rgm x | .cup x | .cpu _ x | .usd x | .sob x | .nxm x | .enm x | .clr _ _ x => [x]
  | .bin _ _ _ _ _ x y | .store _ x y | .iad _ x y | .slo _ x y | .iaa _ _ x y | .idx _ x y | .ixa _ _ _ x y | .mks _ _ _ _ x y | .app _ _ _ x y | .aps _ _ x y | .ust _ x y | .apf _ _ _ x y | .apz _ _ _ _ x y => [x, y]
  | .pick c a b => [c, a, b]
  | .bld _ ps => ps.map (·.2.2)
  | .bsl _ _ xs | .bi _ _ _ _ xs | .call _ xs | .callh _ xs | .callm _ xs | .mkf _ xs => xs
  | .callv x xs => x :: xs
  | .calli _ x xs => x :: xs
  | .eqs _ _ x y | .cpy _ x y | .lkp _ _ _ x y | .mdl _ x y => [x, y]
  | .mup _ x y z => [x, y, z]
  | .bad | .mkm .. => []
  | .sls _ x lo hi | .slc _ x lo hi | .sla _ x lo hi => [x] ++ lo.toList ++ hi.toList
section
variable (P : Program) (G : Nat → AV)
def AWop (ev : AX → AV) (H : Hp) (op : AOp) (k : AV → Hp → Prop) : Prop :=
  match op with
  | .call f xs => ∃ as H1 r, purA H (xs.map ev) = some (as, H1) ∧ PC P G f as r ∧ k r H1
  | .callh f xs => ∃ r H', HC P G f (xs.map ev) H r H' ∧ k r H'
  | .callm f xs => ∃ r Bs, (∀ H2 : Hp, (Bs ≠ [] → H2.length = H.length) → HC P G f (xs.map ev) H2 r (H2 ++ Bs)) ∧ k r (H ++ Bs)
  | .callv x xs => ∃ f as r H', cvA H (ev x) (xs.map ev) = some (f, as) ∧ hasBody P f = true ∧ HC P G f as H r H' ∧ k r H'
  | .calli nm x xs => ∃ t rc f r H', recvA H (ev x) = some (t, rc) ∧ Mth P t nm f ∧ HC P G f (rc :: xs.map ev) H r H' ∧ k r H'
  | op => match eff P ev H op with
    | some (r, H') => k r H'
    | none => False
def AWi (o : AI) (st : St) (k : St → Prop) : Prop :=
  match o.guard with
  | none => AWop P G (AX.ev G st.s) st.H o.op (fun r H' => k (st.put o.dst r H'))
  | some (t, want) =>
    match st.s.getD t undefA with
    | .v (.bool b) => if b = want then AWop P G (AX.ev G st.s) st.H o.op (fun r H' => k (st.put o.dst r H')) else k (st.put o.dst undefA st.H)
    | .tup [] => k (st.put o.dst undefA st.H)
    | _ => False
def AWs : List AI → (St → Prop) → St → Prop
  | [], k, st => k st
  | o :: os, k, st => AWi P G o st (AWs os k)
def chk (base : Nat) (o : AI) (st : St) : Prop := o.op.cls = 0 ∨ (base ≤ st.H.length ∧ (o.op.cls = 1 ∨ o.op.cls = 2 → (o.op.xs.all fun x => ltB base (x.ev G st.s)) = true) ∧ (o.op.cls = 5 → geB base ((o.op.xs.headD (.c .unk)).ev G st.s) = true))
/-- A region's operations in the order of the text, where each looks only at rows that were there. -/
def AWd (base : Nat) : List AI → (St → Prop) → St → Prop
  | [], k, st => k st
  | o :: os, k, st => chk G base o st ∧ AWi P G o st (AWd base os k)
inductive AC where
  | skip
  | region (ops : List AI)
  | draw (ops : List AI)
  | drawx (reps : List (List AI))
  | seq (a b : AC)
  | cond (c : AX) (t e : AC)
  | block (id : Nat) (c : AC)
  | loop (c : AC)
  | scope (c : AC)
  | exit (id : Nat)
  | ret
  | rng (g : AX) (ps : List Nat) (a b : AC)
  /-- in any order, where no operation may change a row -/
  | drawq (ops : List AI) (q : Bool) (ps : List (List Nat)) (es : List Nat)
def IsSt (s' s : St) : Prop := s = s'
def loopN (Wc : (EX → St → Prop) → St → Prop) (Q : EX → St → Prop) : Nat → St → Prop
  | 0, _ => False
  | n + 1, st => Wc (fun e st' => match e with | .n => loopN Wc Q n st' | e => Q e st') st
def thenQ (k : St → Prop) (Q : EX → St → Prop) : EX → St → Prop
  | .n, st => k st
  | e, st => Q e st
def blockQ (id : Nat) (Q : EX → St → Prop) : EX → St → Prop
  | .x id', st => if id' = id then Q .n st else Q (.x id') st
  | e, st => Q e st
def W : AC → (EX → St → Prop) → St → Prop
  | .skip, Q, st => Q .n st
  | .region ops, Q, st => AWs P G ops (Q .n) st
  | .draw ops, Q, st => AWd P G st.H.length ops (Q .n) st
  | .drawx reps, Q, st => ∀ R ∈ reps, AWd P G st.H.length R (Q .n) st
  | .seq a b, Q, st => W a (thenQ (W b Q) Q) st
  | .cond c t e, Q, st =>
    match c.ev G st.s with
    | .v (.bool b) => if b = true then W t Q st else W e Q st
    | _ => False
  | .block id c, Q, st => W c (blockQ id Q) st
  | .loop c, Q, st => ∃ n, loopN (W c) Q n st
  | .scope c, Q, st => W c Q st
  | .exit id, Q, st => Q (.x id) st
  | .ret, Q, st => Q .r st
  | .rng .., _, _ => False
  | .drawq .., _, _ => False
end
/-- A slice that is made in these operations. -/
def freshT (ops : Array Oper) : Nat → Nat → Bool
  | 0, _ => false
  | d + 1, n =>
    match ops.toList.find? (fun o => o.dst == some n) with
    | some o =>
      (match o.op with
       | .buildSlice .. => true
       | .call c => (match c.callee with | .builtin .append => (match c.args.toList with | [.tmp m, _] => freshT ops d m | _ => false) | _ => false)
       | _ => false)
    | none => false
def convF (ops : Array Oper) : AOp → AOp
  | .app e k b (.t n) x => if freshT ops 6 n = true then .apf e k b (.t n) x else .app e k b (.t n) x
  | op => op
theorem convF_ok {P : Program} {G : Nat → AV} {ops : Array Oper} {ev : AX → AV} {H : Hp} {op : AOp} {k : AV → Hp → Prop} (h : AWop P G ev H (convF ops op) k) : AWop P G ev H op k := by
  cases op with
  | app e kk b s x =>
    cases s with
    | t n =>
      simp only [convF] at h
      split at h
      · exact h
      · exact h
    | _ => exact h
  | _ => exact h
/-- A slice that is copied into in these operations. -/
def intoT (ops : Array Oper) (d : Nat) : Bool :=
  ops.toList.any fun o =>
    match o.op with
    | .call c => (match c.callee with | .builtin .copy => (match c.args.toList with | .tmp m :: _ => m == d | _ => false) | _ => false)
    | _ => false
def convG (ops : Array Oper) (d : Option Nat) (op : AOp) : AOp :=
  match op, d with
  | .slc k x (some l) none, some d => if intoT ops d = true then .slo k x l else .slc k x (some l) none
  | op, _ => convF ops op
/-- The text of a program's code. -/
def copI (P : Program) (hs : List FuncId) (ops : Array Oper) (o : Oper) : Option AI :=
  match o.guard with
  | none => some ⟨o.dst, convG ops o.dst (copOpB P hs o), none⟩
  | some (j, want) => (match (ops[j]?).bind (·.dst) with | some t => some ⟨o.dst, convG ops o.dst (copOpB P hs o), some (t, want)⟩ | none => none)
def copIs (P : Program) (hs : List FuncId) (ops : Array Oper) : List Oper → Option (List AI)
  | [] => some []
  | o :: os =>
    match copI P hs ops o, copIs P hs ops os with
    | some a, some as => some (a :: as)
    | _, _ => none
/-- The frame in the world says what the plain one says. -/
structure Rl (G : Nat → AV) (B : Bd) (w0 : World) (F0 F1 : Fz) (O1 : Ow) (F : Fz) (O : Ow) (st : St) (a : Act) (w : World) : Prop where
  own : Own B w0 F0 F O st.H w
  size : a.tmps.size = st.s.length
  slot : ∀ t, VR F O (a.tmps.getD t undef) (st.s.getD t undefA)
  defs : a.defers = B.ds
  gok : GOK G F
  leF : F1.le F
  leO : O1.le O
theorem undef_ok {F : Fz} {O : Ow} : VR F O undef undefA := .p (.tup [] [] rfl fun i c a hc => by simp at hc)
theorem Rl.put {G : Nat → AV} {B : Bd} {w0 : World} {F0 F1 : Fz} {O1 : Ow} {F : Fz} {O : Ow} {st : St} {a : Act} {w : World} (h : Rl G B w0 F0 F1 O1 F O st a w) {d : Option Nat} {r : AV} {H' : Hp} {x : Value} {w' : World} (ho : Out B w0 F0 F O r H' x w') :
    ∃ F' O', Rl G B w0 F0 F1 O1 F' O' (st.put d r H') (a.put d x) w' := by
  obtain ⟨F', O', hv, own, lF, lO⟩ := ho
  refine ⟨F', O', ?_⟩
  cases d with
  | none => exact ⟨own, h.size, fun t => (h.slot t).mono lF lO, h.defs, h.gok.mono lF, Fz.le_trans h.leF lF, Ow.le_trans h.leO lO⟩
  | some d =>
    refine ⟨own, by simpa [Act.put, St.put] using h.size, fun t => ?_, h.defs, h.gok.mono lF, Fz.le_trans h.leF lF, Ow.le_trans h.leO lO⟩
    have hs := (h.slot t).mono lF lO
    simp only [Act.put, St.put]
    by_cases ht : d = t
    · subst ht
      by_cases hd : d < a.tmps.size
      · have e1 : (a.tmps.setIfInBounds d x).getD d undef = x := by
          rw [Array.getD_eq_getD_getElem?, Array.getElem?_setIfInBounds_self_of_lt hd]; rfl
        have e2 : (st.s.set d r).getD d undefA = r := by
          rw [List.getD_eq_getElem?_getD, List.getElem?_set_self (by rw [← h.size]; exact hd)]; rfl
        rw [e1, e2]
        exact hv
      · have e1 : a.tmps.setIfInBounds d x = a.tmps := by
          apply Array.ext' ; simp [List.set_eq_of_length_le (show a.tmps.toList.length ≤ d by simpa using hd)]
        have e2 : st.s.set d r = st.s := List.set_eq_of_length_le (by rw [← h.size]; omega)
        rw [e1, e2]
        exact hs
    · have e1 : (a.tmps.setIfInBounds d x).getD t undef = a.tmps.getD t undef := by
        rw [Array.getD_eq_getD_getElem?, Array.getD_eq_getD_getElem?, Array.getElem?_setIfInBounds_ne ht]
      have e2 : (st.s.set d r).getD t undefA = st.s.getD t undefA := by
        rw [List.getD_eq_getElem?_getD, List.getD_eq_getElem?_getD, List.getElem?_set_ne ht]
      rw [e1, e2]
      exact hs
theorem Rl.operand {P : Program} {G : Nat → AV} {B : Bd} {w0 : World} {F0 F1 : Fz} {O1 : Ow} {F : Fz} {O : Ow} {st : St} {a : Act} {w : World} (h : Rl G B w0 F0 F1 O1 F O st a w) (ty : TypeId) (x : Operand) (ax : AX) (hc : cx P ty x = some ax) : VR F O (a.eval x) (ax.ev G st.s) := by
  cases x with
  | tmp t => cases hc; exact h.slot t
  | const v =>
    simp only [cx] at hc
    split at hc
    · rename_i b hb
      cases hc
      exact (avVal_ok hb F O).1
    · cases hc
  | global g => cases hc; exact (h.gok g).mono (Fz.le_refl F) (Ow.le_nil O)
  | func f => cases hc; exact .p (.v _ rfl)
theorem Rl.guard {G : Nat → AV} {B : Bd} {w0 : World} {F0 F1 : Fz} {O1 : Ow} {F : Fz} {O : Ow} {st : St} {a : Act} {w : World} (h : Rl G B w0 F0 F1 O1 F O st a w) {t : Nat} {b : Bool} (hb : st.s.getD t undefA = .v (.bool b)) : a.tmps[t]? = some (.bool b) := by
  have hs := h.slot t
  rw [hb] at hs
  have hs := hs.pvC rfl
  have e : a.tmps.getD t undef = .bool b := by generalize a.tmps.getD t undef = q at hs; cases hs; rfl
  rw [Array.getD_eq_getD_getElem?] at e
  cases hq : a.tmps[t]? with
  | none => rw [hq] at e; cases e
  | some q => rw [hq] at e; cases e; rfl
theorem Rl.guardU {G : Nat → AV} {B : Bd} {w0 : World} {F0 F1 : Fz} {O1 : Ow} {F : Fz} {O : Ow} {st : St} {a : Act} {w : World} (h : Rl G B w0 F0 F1 O1 F O st a w) {t : Nat} (hb : st.s.getD t undefA = .tup []) : a.tmps.getD t undef = .tuple #[] := by
  have hs := h.slot t
  rw [hb] at hs
  generalize a.tmps.getD t undef = q at hs
  cases hs with
  | p hs => cases hs with
    | tup cs as hl _ => cases cs with | nil => rfl | cons c cs => simp at hl
  | tup cs as hl _ => cases cs with | nil => rfl | cons c cs => simp at hl
section
variable {P : Program} {G : Nat → AV} {hs : List FuncId} {B : Bd} {w0 : World} {F0 F1 : Fz} {O1 : Ow}
theorem call_run {o : Oper} {f : FuncId} {c : Call} (hop : o.op = .call c) (hf : c.callee = .value (.func f)) (hb : hasBody P f = true) (a : Act) (w : World) : (execOp a.eval o).run P w = .ok (.enter f (c.args.map a.eval)) w := by
  unfold hasBody at hb
  split at hb
  · rename_i fn hfn
    simp only [Bool.and_eq_true, bne_iff_ne, ne_eq] at hb
    have hbn : fn.body.isNone = false := by cases hq : fn.body with
      | none => rw [hq] at hb; simp at hb
      | some _ => rfl
    have hnm : (fn.name == "runtime.NumGoroutine") = false := by simpa using hb.2
    simp only [execOp, hop, resolve, hf, Act.eval, Deferred.ofValue, Sem.run_bind, Sem.run_pure, Result.andThen_ok, invoke, callFunc, program, Sem.run, hfn, hnm, hbn, Bool.false_eq_true, if_false]
    simp
  · cases hb
theorem callv_run {o : Oper} {t : Nat} {f : FuncId} {c : Call} (hop : o.op = .call c) (hf : c.callee = .value (.tmp t)) (hb : hasBody P f = true) (a : Act) {ys xs : List Value} (hv : a.tmps.getD t undef = .func (.func f) ys.toArray xs.toArray) (w : World) : (execOp a.eval o).run P w = .ok (.enter f (ys.toArray ++ c.args.map a.eval ++ xs.toArray)) w := by
  unfold hasBody at hb
  split at hb
  · rename_i fn hfn
    simp only [Bool.and_eq_true, bne_iff_ne, ne_eq] at hb
    have hbn : fn.body.isNone = false := by cases hq : fn.body with
      | none => rw [hq] at hb; simp at hb
      | some _ => rfl
    have hnm : (fn.name == "runtime.NumGoroutine") = false := by simpa using hb.2
    have he : a.eval (.tmp t) = .func (.func f) ys.toArray xs.toArray := hv
    simp only [execOp, hop, resolve, hf, he, Deferred.ofValue, Sem.run_bind, Sem.run_pure, Result.andThen_ok, invoke, callFunc, program, Sem.run, hfn, hnm, hbn, Bool.false_eq_true, if_false]
  · cases hb
theorem calli_run {o : Oper} {rc : Operand} {nm : String} {t : Nat} {f : FuncId} {c : Call} (hop : o.op = .call c) (hf : c.callee = .invoke rc nm) (hm : Mth P t nm f) (a : Act) {y : Value} (hv : a.eval rc = .iface t y) (w : World) : (execOp a.eval o).run P w = .ok (.enter f (#[y] ++ c.args.map a.eval)) w := by
  have e0 : (#[Value.iface t y] ++ c.args.map a.eval)[0]? = some (Value.iface t y) := by rw [Array.getElem?_append_left (by simp)]; rfl
  have e1 : (#[Value.iface t y] ++ c.args.map a.eval).extract 1 (#[Value.iface t y] ++ c.args.map a.eval).size = c.args.map a.eval := by apply Array.ext'; simp; exact List.take_of_length_le (by simp)
  simp only [execOp, hop, resolve, hf, hv, Sem.run_bind, Sem.run_pure, Result.andThen_ok, invoke, e0, e1]
  exact hm y _ w
theorem fnA_ok {F : Fz} {O : Ow} {x : Value} {a : AV} {f : FuncId} {cs : List AV} (hx : VR F O x a) (h : fnA a = some (f, cs)) : ∃ xs : List Value, x = .func (.func f) #[] xs.toArray ∧ xs.length = cs.length ∧ ∀ (i : Nat) (c : Value) (u : AV), xs[i]? = some c → cs[i]? = some u → VR F O c u := by
  cases a with
  | fn g as =>
    cases h
    cases hx with
    | p h => cases h with
      | fn f xs as hl h => exact ⟨xs, rfl, hl, fun i c u hc hu => .p (h i c u hc hu)⟩
    | fn f xs as hl h => exact ⟨xs, rfl, hl, h⟩
  | v y =>
    have := hx.pvC rfl
    cases this
    cases x with
    | func fn p q =>
      cases fn with
      | func g =>
        simp only [fnA] at h
        split at h
        · rename_i e
          cases h
          have e1 : p = #[] := Array.eq_empty_of_size_eq_zero e.1
          have e2 : q = #[] := Array.eq_empty_of_size_eq_zero e.2
          subst e1; subst e2
          exact ⟨[], rfl, rfl, fun i c u hc => by simp at hc⟩
        · cases h
      | _ => cases h
    | _ => cases h
  | _ => cases h
set_option maxHeartbeats 2000000 in
/-- One operation. -/
theorem AWop_ok0 {o : Oper} {op : AOp} (hc : copOp P hs o = some op) {st : St} {a : Act} {w : World} {F : Fz} {O : Ow} (h : Rl G B w0 F0 F1 O1 F O st a w) {k : AV → Hp → Prop} (hk : AWop P G (AX.ev G st.s) st.H op k)
    {K : Act → World → Prop} {Q : Exit → Act → World → Prop} (hK : ∀ r H' x w', k r H' → Out B w0 F0 F O r H' x w' → K (a.put o.dst x) w') : o.wp P a w K Q := by
  have gen : (∃ r H', eff P (AX.ev G st.s) st.H op = some (r, H') ∧ k r H') → o.wp P a w K Q := fun ⟨r, H', he, hkr⟩ => by
    obtain ⟨nx, w', hrun, x, hnx, hout⟩ := op_ok (ρ := a.eval) (ev := AX.ev G st.s) hc (fun ty x ax hx => h.operand ty x ax hx) (fun _ => rfl) h.own he
    unfold Oper.wp
    rw [hrun]
    rcases hnx with rfl | ⟨rfl, rfl⟩
    · exact hK r H' x w' hkr hout
    · exact hK r H' undef w' hkr hout
  have calls : ∀ f xs, (op = .call f xs ∨ op = .callh f xs ∨ op = .callm f xs) → ∃ c, o.op = .call c ∧ c.callee = .value (.func f) ∧ hasBody P f = true ∧ (c.args.toList.map a.eval).length = (xs.map (AX.ev G st.s)).length ∧ ∀ (i : Nat) (c' : Value) (a' : AV), (c.args.toList.map a.eval)[i]? = some c' → (xs.map (AX.ev G st.s))[i]? = some a' → VR F O c' a' := fun f xs hop => by
    obtain ⟨dst, op', type, pos, after, guard⟩ := o
    cases op' with
    | call c =>
      obtain ⟨callee, args, ats⟩ := c
      refine ⟨_, rfl, ?_⟩
      simp only [copOp] at hc
      split at hc
      · exfalso
        repeat' (first | (cases hc; rcases hop with hop | hop | hop <;> cases hop; done) | (cases hc; done) | split at hc)
      · rename_i f'
        split at hc
        · rename_i hb
          split at hc
          · rename_i as has
            split at hc
            · rename_i hsz
              obtain ⟨q1, q2⟩ := cxs_ok (F := F) (O := O) (ρ := a.eval) (ev := AX.ev G st.s) (fun ty x ax hx => h.operand ty x ax hx) has (by simpa using hsz)
              cases hc
              (repeat' (split at hop)) <;> rcases hop with hop | hop | hop <;> cases hop <;> exact ⟨rfl, hb, q1, q2⟩
            · cases hc
          · cases hc
        · exfalso
          repeat' (first | (cases hc; rcases hop with hop | hop | hop <;> cases hop; done) | (cases hc; done) | split at hc)
      all_goals (exfalso; repeat' (first | (cases hc; rcases hop with hop | hop | hop <;> cases hop; done) | (cases hc; done) | split at hc))
    | _ =>
      exfalso
      rcases hop with rfl | rfl | rfl <;> simp only [copOp] at hc <;> repeat' (first | contradiction | (cases hc; done) | split at hc)
  have callv : ∀ x xs, op = .callv x xs → ∃ c t, o.op = .call c ∧ c.callee = .value (.tmp t) ∧ x = .t t ∧ (c.args.toList.map a.eval).length = (xs.map (AX.ev G st.s)).length ∧ ∀ (i : Nat) (c' : Value) (a' : AV), (c.args.toList.map a.eval)[i]? = some c' → (xs.map (AX.ev G st.s))[i]? = some a' → VR F O c' a' := fun x xs hop => by
    obtain ⟨dst, op', type, pos, after, guard⟩ := o
    cases op' with
    | call c =>
      obtain ⟨callee, args, ats⟩ := c
      simp only [copOp] at hc
      split at hc
      · rename_i t
        split at hc
        · rename_i as has
          split at hc
          · rename_i hsz
            obtain ⟨q1, q2⟩ := cxs_ok (F := F) (O := O) (ρ := a.eval) (ev := AX.ev G st.s) (fun ty x ax hx => h.operand ty x ax hx) has (by simpa using hsz)
            cases hc
            cases hop
            exact ⟨_, t, rfl, rfl, rfl, q1, q2⟩
          · cases hc
        · cases hc
      all_goals (exfalso; repeat' (first | (cases hc; cases hop; done) | (cases hc; done) | split at hc))
    | _ =>
      exfalso
      subst hop; simp only [copOp] at hc <;> repeat' (first | contradiction | (cases hc; done) | split at hc)
  have calli : ∀ nm x xs, op = .calli nm x xs → ∃ c rc, o.op = .call c ∧ c.callee = .invoke rc nm ∧ cx P 0 rc = some x ∧ (c.args.toList.map a.eval).length = (xs.map (AX.ev G st.s)).length ∧ ∀ (i : Nat) (c' : Value) (a' : AV), (c.args.toList.map a.eval)[i]? = some c' → (xs.map (AX.ev G st.s))[i]? = some a' → VR F O c' a' := fun nm x xs hop => by
    obtain ⟨dst, op', type, pos, after, guard⟩ := o
    cases op' with
    | call c =>
      obtain ⟨callee, args, ats⟩ := c
      cases callee with
      | invoke rc nm' =>
        simp only [copOp] at hc
        split at hc
        · rename_i x' as hx' has
          split at hc
          · rename_i hsz
            obtain ⟨q1, q2⟩ := cxs_ok (F := F) (O := O) (ρ := a.eval) (ev := AX.ev G st.s) (fun ty x ax hx => h.operand ty x ax hx) has (by simpa using hsz)
            cases hc
            cases hop
            exact ⟨_, rc, rfl, rfl, hx', q1, q2⟩
          · cases hc
        · cases hc
      | _ =>
        exfalso
        subst hop
        simp only [copOp] at hc
        repeat' (first | contradiction | (cases hc; done) | split at hc)
    | _ =>
      exfalso
      subst hop; simp only [copOp] at hc <;> repeat' (first | contradiction | (cases hc; done) | split at hc)
  cases op with
  | calli nm x xs =>
    obtain ⟨t, ra, f, r, H', hx, hm, hpc, hkr⟩ := hk
    obtain ⟨c, rc, e1, e2, e3, e4, e5⟩ := calli nm x xs rfl
    obtain ⟨y, hy, hyv⟩ := h.own.recv (h.operand 0 rc x e3) hx
    unfold Oper.wp
    rw [calli_run e1 e2 hm a hy]
    simp only [Oper.upon]
    have hcall := hpc B w0 F0 F O w (y :: c.args.toList.map a.eval) h.own h.gok (by simp only [List.length_cons, e4]) (fun j c' a' hc' ha' => by
      cases j with
      | zero => simp at hc' ha'; subst hc'; subst ha'; exact hyv
      | succ j => exact e5 j c' a' (by simpa using hc') (by simpa using ha'))
    have earr : (y :: c.args.toList.map a.eval).toArray = #[y] ++ c.args.map a.eval := by apply Array.ext'; simp
    rw [earr] at hcall
    refine hcall.mono ?_
    rintro e w' ⟨v, rfl, hout⟩
    exact hK r H' v w' hkr hout
  | callv x xs =>
    obtain ⟨f, as, r, H', hcv, hb, hpc, hkr⟩ := hk
    obtain ⟨c, t, e1, e2, rfl, e4, e5⟩ := callv x xs rfl
    have cv : ∃ y0 ys : List Value, a.tmps.getD t undef = .func (.func f) y0.toArray ys.toArray ∧ (y0 ++ c.args.toList.map a.eval ++ ys).length = as.length ∧ ∀ (i : Nat) (c' : Value) (a' : AV), (y0 ++ c.args.toList.map a.eval ++ ys)[i]? = some c' → as[i]? = some a' → VR F O c' a' := by
      have fnc : ∀ cs, fnA (AX.ev G st.s (.t t)) = some (f, cs) → as = xs.map (AX.ev G st.s) ++ cs → ∃ y0 ys : List Value, a.tmps.getD t undef = .func (.func f) y0.toArray ys.toArray ∧ (y0 ++ c.args.toList.map a.eval ++ ys).length = as.length ∧ ∀ (i : Nat) (c' : Value) (a' : AV), (y0 ++ c.args.toList.map a.eval ++ ys)[i]? = some c' → as[i]? = some a' → VR F O c' a' := fun cs hfn has => by
        subst has
        obtain ⟨ys, y1, y2, y3⟩ := fnA_ok (h.slot t) hfn
        refine ⟨[], ys, y1, by simp only [List.nil_append, List.length_append, e4, y2], fun i c' a' hc' ha' => ?_⟩
        rw [List.nil_append] at hc'
        by_cases hi : i < (xs.map (AX.ev G st.s)).length
        · rw [List.getElem?_append_left (by rw [e4]; exact hi)] at hc'
          rw [List.getElem?_append_left hi] at ha'
          exact e5 i c' a' hc' ha'
        · rw [List.getElem?_append_right (by rw [e4]; omega), e4] at hc'
          rw [List.getElem?_append_right (by omega)] at ha'
          exact y3 _ c' a' hc' ha'
      unfold cvA at hcv
      split at hcv
      · rename_i f' i g e off hx
        split at hcv
        · rename_i ob hl
          cases hcv
          have hv := h.slot t
          rw [show st.s.getD t undefA = .bf f i g e off from hx] at hv
          obtain ⟨y, hy, hyv⟩ := h.own.bf hv hl
          refine ⟨[y], [], hy, by simp only [List.append_nil, List.length_append, List.length_cons, List.length_nil, e4]; omega, fun j c' a' hc' ha' => ?_⟩
          rw [List.append_nil] at hc'
          cases j with
          | zero => simp at hc' ha'; subst hc'; subst ha'; exact hyv
          | succ j => exact e5 j c' a' (by simpa using hc') (by simpa using ha')
        · cases hcv
      · split at hcv
        · rename_i cs hfn
          cases hcv
          exact fnc cs hfn rfl
        · cases hcv
    obtain ⟨y0, ys, y1, y2, y3⟩ := cv
    unfold Oper.wp
    rw [callv_run e1 e2 hb a y1]
    simp only [Oper.upon]
    have hcall := hpc B w0 F0 F O w (y0 ++ c.args.toList.map a.eval ++ ys) h.own h.gok y2 y3
    have earr : (y0 ++ c.args.toList.map a.eval ++ ys).toArray = y0.toArray ++ c.args.map a.eval ++ ys.toArray := by apply Array.ext'; simp
    rw [earr] at hcall
    refine hcall.mono ?_
    rintro e w' ⟨v, rfl, hout⟩
    exact hK r H' v w' hkr hout
  | call f xs =>
    obtain ⟨as, H1, r, hp, hpc, hkr⟩ := hk
    obtain ⟨c, e1, e2, e3, e4, e5⟩ := calls f xs (.inl rfl)
    obtain ⟨F', p1, p2, o1, l1⟩ := purA_ok h.own e4 e5 hp
    unfold Oper.wp
    rw [call_run e1 e2 e3]
    simp only [Oper.upon]
    have hcall := hpc w F' (c.args.toList.map a.eval) o1.fr (h.gok.mono l1) (by rw [e4, p2]) p1
    have earr : (c.args.toList.map a.eval).toArray = c.args.map a.eval := by apply Array.ext'; simp
    rw [earr] at hcall
    refine hcall.mono ?_
    rintro e w' ⟨v, F'', rfl, hv, lF, hfr, hnew, hbel⟩
    refine hK r H1 v w' hkr ⟨F'', O, .p hv, ?_, Fz.le_trans l1 lF, Ow.le_refl O⟩
    have ok := o1.keep hbel
    refine ⟨ok.len, fun i d ob hd ho => ?_, ok.inj, hfr, Fz.le_trans ok.le lF, fun b o v hv => ?_, ok.below, ok.size, ok.kept, ok.kb⟩
    · have rr := ok.row i d ob hd ho
      have rr0 := o1.row i d ob hd ho
      obtain ⟨cur, q1, q2, q3⟩ := rr.cur
      refine { rr with cur := ⟨cur, q1, q2, fun n j x a hx ha => by obtain ⟨c, g1, g2⟩ := q3 n j x a hx ha; exact ⟨c, g1, g2.mono lF (Ow.le_refl O)⟩⟩, hf := fun o v hv => ?_ }
      rcases hnew _ _ _ hv with h1 | h1
      · exact rr.hf o v h1
      · exact absurd rr0.lt (Nat.not_lt.2 h1)
    · rcases hnew _ _ _ hv with h1 | h1
      · exact o1.new b o v h1
      · exact .inr (o1.okGe h1)
  | callh f xs =>
    obtain ⟨r, H', hpc, hkr⟩ := hk
    obtain ⟨c, e1, e2, e3, e4, e5⟩ := calls f xs (.inr (.inl rfl))
    unfold Oper.wp
    rw [call_run e1 e2 e3]
    simp only [Oper.upon]
    have hcall := hpc B w0 F0 F O w (c.args.toList.map a.eval) h.own h.gok e4 e5
    have earr : (c.args.toList.map a.eval).toArray = c.args.map a.eval := by apply Array.ext'; simp
    rw [earr] at hcall
    refine hcall.mono ?_
    rintro e w' ⟨v, rfl, hout⟩
    exact hK r H' v w' hkr hout
  | callm f xs =>
    obtain ⟨r, Bs, hpc0, hkr⟩ := hk
    have hpc := hpc0 st.H (fun _ => rfl)
    obtain ⟨c, e1, e2, e3, e4, e5⟩ := calls f xs (.inr (.inr rfl))
    unfold Oper.wp
    rw [call_run e1 e2 e3]
    simp only [Oper.upon]
    have hcall := hpc B w0 F0 F O w (c.args.toList.map a.eval) h.own h.gok e4 e5
    have earr : (c.args.toList.map a.eval).toArray = c.args.map a.eval := by apply Array.ext'; simp
    rw [earr] at hcall
    refine hcall.mono ?_
    rintro e w' ⟨v, rfl, hout⟩
    exact hK r (st.H ++ Bs) v w' hkr hout
  | _ =>
    refine gen ?_
    simp only [AWop] at hk
    split at hk
    · rename_i r H' he
      exact ⟨r, H', he, hk⟩
    · exact hk.elim
theorem AWop_ok {o : Oper} {op : AOp} (hc : copOpB P hs o = op) {st : St} {a : Act} {w : World} {F : Fz} {O : Ow} (h : Rl G B w0 F0 F1 O1 F O st a w) {k : AV → Hp → Prop} (hk : AWop P G (AX.ev G st.s) st.H op k)
    {K : Act → World → Prop} {Q : Exit → Act → World → Prop} (hK : ∀ r H' x w', k r H' → Out B w0 F0 F O r H' x w' → K (a.put o.dst x) w') : o.wp P a w K Q := by
  unfold copOpB at hc
  cases hq : copOp P hs o with
  | none =>
    rw [hq] at hc
    subst hc
    exact (show False from hk).elim
  | some op' =>
    rw [hq] at hc
    subst hc
    exact AWop_ok0 hq h hk hK
theorem AWop_slo {o : Oper} {k0 : Nat} {ax al : AX} (hc : copOp P hs o = some (.slc k0 ax (some al) none)) {st : St} {a : Act} {w : World} {F : Fz} {O : Ow} (h : Rl G B w0 F0 F1 O1 F O st a w) {k : AV → Hp → Prop} (hk : AWop P G (AX.ev G st.s) st.H (.slo k0 ax al) k)
    {K : Act → World → Prop} {Q : Exit → Act → World → Prop} (hK : ∀ r H' x w', k r H' → Out B w0 F0 F O r H' x w' → K (a.put o.dst x) w') : o.wp P a w K Q := by
  simp only [AWop] at hk
  split at hk
  · rename_i r H' he
    obtain ⟨nx, w', hrun, x, hnx, hout⟩ := slo_ok (ρ := a.eval) (ev := AX.ev G st.s) hc (fun ty x ax hx => h.operand ty x ax hx) h.own he
    unfold Oper.wp
    rw [hrun]
    rcases hnx with rfl | ⟨rfl, rfl⟩
    · exact hK r H' x w' hk hout
    · exact hK r H' undef w' hk hout
  · exact hk.elim
theorem AWop_okG {o : Oper} {ops : Array Oper} {st : St} {a : Act} {w : World} {F : Fz} {O : Ow} (h : Rl G B w0 F0 F1 O1 F O st a w) {k : AV → Hp → Prop} (hk : AWop P G (AX.ev G st.s) st.H (convG ops o.dst (copOpB P hs o)) k)
    {K : Act → World → Prop} {Q : Exit → Act → World → Prop} (hK : ∀ r H' x w', k r H' → Out B w0 F0 F O r H' x w' → K (a.put o.dst x) w') : o.wp P a w K Q := by
  unfold convG at hk
  split at hk
  · rename_i k0 x l d hop hd
    split at hk
    · refine AWop_slo (hs := hs) (k0 := k0) (ax := x) (al := l) ?_ h hk hK
      cases hq : copOp P hs o with
      | none => simp [copOpB, hq] at hop
      | some q => simp [copOpB, hq] at hop; rw [hop]
    · exact AWop_ok (hs := hs) hop h hk hK
  · exact AWop_ok (hs := hs) rfl h (convF_ok hk) hK
set_option maxHeartbeats 1000000 in
/-- A step of an iterator, whatever it comes to. -/
theorem AWop_nx {o : Oper} {ops : Array Oper} {x : AX} (hc : convG ops o.dst (copOpB P hs o) = .nxm x) {st : St} {a : Act} {w : World} {F : Fz} {O : Ow} (h : Rl G B w0 F0 F1 O1 F O st a w) {l : List (AV × Hp)} (hl : nxmA st.H (AX.ev G st.s x) = some l)
    {K : Act → World → Prop} {Q : Exit → Act → World → Prop} (hK : ∀ p ∈ l, ∀ v w', Out B w0 F0 F O p.1 p.2 v w' → K (a.put o.dst v) w') : o.wp P a w K Q := by
  have h1 : copOp P hs o = some (.nxm x) := by
    have h2 : copOpB P hs o = .nxm x := by
      unfold convG at hc
      split at hc
      · split at hc
        · cases hc
        · rename_i hop _ _; rw [← hop] at hc; exact hc
      · generalize copOpB P hs o = q at hc
        unfold convF at hc
        split at hc
        · split at hc <;> cases hc
        · exact hc
    unfold copOpB at h2
    cases hq : copOp P hs o with
    | none => rw [hq] at h2; cases h2
    | some q => rw [hq] at h2; simp only [Option.getD_some] at h2; rw [h2]
  obtain ⟨dst, op', type, pos, after, guard⟩ := o
  cases op' with
  | next x' b =>
    cases b with
    | true => simp [copOp] at h1
    | false =>
      simp only [copOp] at h1
      split at h1
      · rename_i ax hx
        cases h1
        obtain ⟨u, w', p, hp, hrun, hout⟩ := nxm_run (P := P) h.own (h.operand 0 x' _ hx) type hl
        unfold Oper.wp
        have e : (execOp a.eval { dst := dst, op := .next x' false, type := type, pos := pos, after := after, guard := guard }).run P w = .ok (.value u) w' := by simp [execOp, hrun]
        rw [e]
        exact hK p hp u w' hout
      · cases h1
  | _ =>
    exfalso
    simp only [copOp] at h1
    repeat' (first | (cases h1; done) | split at h1)
    all_goals (first | contradiction | (simp_all; done))
end
end Go.Proofs.YtgcnbbjapapnjaaDoor.Sim
