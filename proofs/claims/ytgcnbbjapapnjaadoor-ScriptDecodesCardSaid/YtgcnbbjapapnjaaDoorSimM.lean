/- Code, and functions. -/
import Derived.Test.YtgcnbbjapapnjaaDoorSimL
namespace Go.Proofs.YtgcnbbjapapnjaaDoor.Sim
open Go.RowKit
set_option linter.unusedVariables false
set_option linter.unusedSimpArgs false
/-- Code that is never to be run. -/
def badC : AC := .region [⟨none, .bad, none⟩]
/-- The text of a program's code, on plain values. -/
def copC (P : Program) (hs : List FuncId) : Code → Option AC
  | .skip => some .skip
  | .label _ => some .skip
  | .region _ ops draw =>
    (match copIs P hs ops ops.toList with
     | some as => if draw then (if drawOk P ops as then some (.draw as) else if drawxOk P ops as then some (.drawx (drawxReps ops as)) else if setsOk P ops then some (.drawq as (drawqOk P ops as) (ops.toList.map preds) (eagers as (ops.toList.map preds))) else some badC) else some (.region as)
     | none => none)
  | .seq a b => (match copC P hs a, copC P hs b with | some x, some y => some (.seq x y) | _, _ => none)
  | .cond c t e => (match cx P 0 c, copC P hs t, copC P hs e with | some c, some x, some y => some (.cond c x y) | _, _, _ => none)
  | .block id c => (match copC P hs c with | some x => some (.block id x) | none => none)
  | .loop c => (match copC P hs c with | some x => some (.loop x) | none => none)
  | .scope c => (match copC P hs c with | some x => some (.scope x) | none => none)
  | .exit id => some (.exit id)
  | .ret => some .ret
  | .refuse _ => some badC
  | .goto _ => some badC
  | _ => none
theorem W_bad {P : Program} {G : Nat → AV} {Q : EX → St → Prop} {st : St} (h : W P G badC Q st) : False := by
  have h : AWop P G (AX.ev G st.s) st.H .bad (fun r H' => Q .n (st.put none r H')) := h
  unfold AWop at h
  simp only [eff] at h
def EX.out : EX → Exit
  | .n => .normal
  | .x id => .exit id
  | .r => .ret
section
variable {P : Program} {G : Nat → AV} {hs : List FuncId} {B : Bd} {w0 : World} {F0 F1 : Fz} {O1 : Ow}
theorem loop_rounds {c : Code} {ac : AC} (ih : ∀ (Q : EX → St → Prop) (Q' : Exit → Act → World → Prop) (st : St) (a : Act) (w : World) (F : Fz) (O : Ow), W P G ac Q st → Rl G B w0 F0 F1 O1 F O st a w → (∀ e st' a' w' F' O', Q e st' → Rl G B w0 F0 F1 O1 F' O' st' a' w' → Q' e.out a' w') → c.wp P Q' a w)
    {Q : EX → St → Prop} {Q' : Exit → Act → World → Prop} (hQ : ∀ e st' a' w' F' O', Q e st' → Rl G B w0 F0 F1 O1 F' O' st' a' w' → Q' e.out a' w') :
    ∀ (n : Nat) (st : St) (a : Act) (w : World) (F : Fz) (O : Ow), loopN (W P G ac) Q n st → Rl G B w0 F0 F1 O1 F O st a w → Code.rounds P c Q' n a w
  | 0, _, _, _, _, _, h, _ => h.elim
  | n + 1, st, a, w, F, O, h, hr => by
    rw [rounds_succ]
    refine ih _ _ st a w F O h hr fun e st' a' w' F' O' he hr' => ?_
    cases e with
    | n => exact loop_rounds ih hQ n st' a' w' F' O' he hr'
    | x id => exact hQ (.x id) st' a' w' F' O' he hr'
    | r => exact hQ .r st' a' w' F' O' he hr'
theorem W_ok : ∀ (c : Code) (ac : AC), copC P hs c = some ac → ∀ (Q : EX → St → Prop) (Q' : Exit → Act → World → Prop) (st : St) (a : Act) (w : World) (F : Fz) (O : Ow), W P G ac Q st → Rl G B w0 F0 F1 O1 F O st a w →
    (∀ e st' a' w' F' O', Q e st' → Rl G B w0 F0 F1 O1 F' O' st' a' w' → Q' e.out a' w') → c.wp P Q' a w := by
  intro c
  induction c with
  | skip => intro ac hc Q Q' st a w F O h hr hQ; cases hc; exact wp_skip (hQ .n st a w F O h hr)
  | label l => intro ac hc Q Q' st a w F O h hr hQ; cases hc; exact wp_label (hQ .n st a w F O h hr)
  | region id ops draw =>
    intro ac hc Q Q' st a w F O h hr hQ
    simp only [copC] at hc
    split at hc
    · rename_i as has
      cases draw with
      | false =>
        cases hc
        exact region_text has (k := Q .n) (fun st' a' w' F' O' hk hr' => hQ .n st' a' w' F' O' hk hr') h hr
      | true =>
        simp only [if_true] at hc
        split at hc
        · rename_i hd
          cases hc
          exact region_draw has (k := Q .n) (fun st' a' w' F' O' hk hr' => hQ .n st' a' w' F' O' hk hr') (draw_orders (copIs_at has).1 hd h) hr
        · split at hc
          · rename_i hd
            cases hc
            exact region_draw has (k := Q .n) (fun st' a' w' F' O' hk hr' => hQ .n st' a' w' F' O' hk hr') (drawx_orders (copIs_at has).1 hd h) hr
          · split at hc
            · cases hc; exact h.elim
            · cases hc; exact (W_bad h).elim
    · cases hc
  | seq x y ihx ihy =>
    intro ac hc Q Q' st a w F O h hr hQ
    simp only [copC] at hc
    split at hc
    · rename_i p q hp hq
      cases hc
      refine wp_seq (ihx p hp _ _ st a w F O h hr fun e st' a' w' F' O' he hr' => ?_)
      cases e with
      | n => exact ihy q hq Q Q' st' a' w' F' O' he hr' hQ
      | x id => exact hQ (.x id) st' a' w' F' O' he hr'
      | r => exact hQ .r st' a' w' F' O' he hr'
    · cases hc
  | cond c x y ihx ihy =>
    intro ac hc Q Q' st a w F O h hr hQ
    simp only [copC] at hc
    split at hc
    · rename_i p q r hp hq hr'
      cases hc
      have ho := hr.operand 0 c p hp
      simp only [W] at h
      split at h
      · rename_i b hb
        rw [hb] at ho
        have ho := ho.pvC rfl
        have e : a.eval c = .bool b := by generalize a.eval c = q at ho; cases ho; rfl
        cases b
        · rw [if_neg (by simp)] at h
          exact wp_cond_false e (ihy r hr' Q Q' st a w F O h hr hQ)
        · rw [if_pos rfl] at h
          exact wp_cond_true e (ihx q hq Q Q' st a w F O h hr hQ)
      · exact h.elim
    · cases hc
  | block id c ih =>
    intro ac hc Q Q' st a w F O h hr hQ
    simp only [copC] at hc
    split at hc
    · rename_i p hp
      cases hc
      refine wp_block (ih p hp _ _ st a w F O h hr fun e st' a' w' F' O' he hr' => ?_)
      cases e with
      | n => exact hQ .n st' a' w' F' O' he hr'
      | x id' =>
        simp only [blockQ] at he
        show (if id' = id then Q' .normal a' w' else Q' (.exit id') a' w')
        by_cases hid : id' = id
        · rw [if_pos hid] at he ⊢; exact hQ .n st' a' w' F' O' he hr'
        · rw [if_neg hid] at he ⊢; exact hQ (.x id') st' a' w' F' O' he hr'
      | r => exact hQ .r st' a' w' F' O' he hr'
    · cases hc
  | loop c ih =>
    intro ac hc Q Q' st a w F O h hr hQ
    simp only [copC] at hc
    split at hc
    · rename_i p hp
      cases hc
      obtain ⟨n, hn⟩ := h
      exact wp_loop_rounds n (loop_rounds (ih p hp) hQ n st a w F O hn hr)
    · cases hc
  | scope c ih =>
    intro ac hc Q Q' st a w F O h hr hQ
    simp only [copC] at hc
    split at hc
    · rename_i p hp
      cases hc
      refine wp_scope_straight (ih p hp Q _ st a w F O h hr fun e st' a' w' F' O' he hr' => ?_)
      have := hQ e st' a' w' F' O' he hr'
      cases e <;> exact this
    · cases hc
  | exit id => intro ac hc Q Q' st a w F O h hr hQ; cases hc; exact wp_exit (hQ (.x id) st a w F O h hr)
  | ret => intro ac hc Q Q' st a w F O h hr hQ; cases hc; exact wp_ret (hQ .r st a w F O h hr)
  | rangeFunc => intro ac hc; cases hc
  | goto => intro ac hc Q Q' st a w F O h; cases hc; exact (W_bad h).elim
  | refuse => intro ac hc Q Q' st a w F O h; cases hc; exact (W_bad h).elim
end
/-- The results of a function: slots, or cells that a slot tells the place of. -/
abbrev RS := Nat × Option (Bool × Nat)
def copRes (P : Program) : List ResultVar → Option (List RS)
  | [] => some []
  | .tmp t :: rs => (match copRes P rs with | some ts => some ((t, none) :: ts) | none => none)
  | .cell a t :: rs => (match P.info? t, P.underlying t, copRes P rs with | some i, some d, some ts => some ((a, some (isAggD d, i.size)) :: ts) | _, _, _ => none)
def rsAs (st : St) : List RS → Option (List AV)
  | [] => some []
  | (t, none) :: rs => (match rsAs st rs with | some vs => some (st.s.getD t undefA :: vs) | none => none)
  | (t, some (g, n)) :: rs => (match loadA st.H g n (st.s.getD t undefA), rsAs st rs with | some v, some vs => some (v :: vs) | _, _ => none)
/-- A function's text on plain values: its frame, its results, its code. -/
structure AF where
  n : Nat
  res : List RS
  body : AC
def copF (P : Program) (hs : List FuncId) (f : FuncId) : Option AF :=
  match P.funcs[f]? with
  | some fn =>
    match fn.body with
    | some c => (match copRes P fn.results.toList, copC P hs c with | some ts, some ac => some ⟨fn.ntmps, ts, ac⟩ | _, _ => none)
    | none => none
  | none => none
def resOf : List AV → AV
  | [a] => a
  | as => .tup as
def St.init (n : Nat) (as : List AV) (H : Hp) : St := ⟨as ++ List.replicate (n - as.length) undefA, H⟩
/-- What a function has to come to: its results, written no more, are rs. -/
def RetP (ts : List RS) (r : AV) (e : EX) (st : St) : Prop :=
  (e = .n ∨ e = .r) ∧ ∃ vs, rsAs st ts = some vs ∧ ∃ rs H', purA st.H vs = some (rs, H') ∧ resOf rs = r
def RetH (ts : List RS) (r : AV) (H' : Hp) (e : EX) (st : St) : Prop :=
  (e = .n ∨ e = .r) ∧ (∃ vs, rsAs st ts = some vs ∧ resOf vs = r) ∧ st.H = H'
theorem asAddr_of {P : Program} {t : TypeId} {x y : Value} {w : World} (h : (Instr.loadAt t x).run P w = .ok y w) : (do loadVar t (← asAddr x) : Sem Value).run P w = .ok y w := by
  unfold Instr.loadAt at h
  cases x with
  | pointer p => cases p with
    | some a => exact h
    | none => exact absurd h (by simp [Instr.sureAddr, stuck])
  | _ => exact absurd h (by simp [Instr.sureAddr, stuck])
theorem mapM_rs {P : Program} {G : Nat → AV} {B : Bd} {w0 : World} {F0 F1 : Fz} {O1 : Ow} {F : Fz} {O : Ow} {st : St} {a : Act} {w : World} (h : Rl G B w0 F0 F1 O1 F O st a w)
    (g : ResultVar → Sem Value) (h1 : ∀ t, g (.tmp t) = pure (a.tmps.getD t undef)) (h2 : ∀ x t, g (.cell x t) = (do loadVar t (← asAddr (a.tmps.getD x undef)))) :
    ∀ (rs : List ResultVar) (ts : List RS) (vs : List AV), copRes P rs = some ts → rsAs st ts = some vs →
      ∃ xs, (rs.mapM g).run P w = .ok xs w ∧ xs.length = vs.length ∧ ∀ (i : Nat) (c : Value) (u : AV), xs[i]? = some c → vs[i]? = some u → VR F O c u
  | [], ts, vs, hc, hv => by
    cases hc; cases hv
    exact ⟨[], rfl, rfl, fun i c u hc => by simp at hc⟩
  | .tmp t :: rs, ts, vs, hc, hv => by
    simp only [copRes] at hc
    split at hc
    · rename_i ts' h'
      cases hc
      simp only [rsAs] at hv
      split at hv
      · rename_i vs' hv'
        cases hv
        obtain ⟨xs, e1, e2, e3⟩ := mapM_rs h g h1 h2 rs ts' vs' h' hv'
        refine ⟨a.tmps.getD t undef :: xs, ?_, by simp [e2], fun i c u hc hu => ?_⟩
        · rw [List.mapM_cons, h1]
          simp only [Sem.run_bind, Sem.run_pure, Result.andThen_ok, e1]
        · cases i with
          | zero => cases hc; cases hu; exact h.slot t
          | succ i => exact e3 i c u hc hu
      · cases hv
    · cases hc
  | .cell x t :: rs, ts, vs, hc, hv => by
    simp only [copRes] at hc
    split at hc
    · rename_i inf d ts' hi hd h'
      cases hc
      simp only [rsAs] at hv
      split at hv
      · rename_i v vs' hl hv'
        cases hv
        obtain ⟨xs, e1, e2, e3⟩ := mapM_rs h g h1 h2 rs ts' vs' h' hv'
        obtain ⟨y, y1, y2⟩ := load_run h.own (h.slot x) hi hd hl
        refine ⟨y :: xs, ?_, by simp [e2], fun i c u hc hu => ?_⟩
        · rw [List.mapM_cons, h2, Sem.run_bind, asAddr_of y1]
          simp only [Sem.run_bind, Sem.run_pure, Result.andThen_ok, e1]
        · cases i with
          | zero => cases hc; cases hu; exact y2
          | succ i => exact e3 i c u hc hu
      · cases hv
    · cases hc
theorem results_run {P : Program} {fn : Func} {ts : List RS} {vs : List AV} {G : Nat → AV} {B : Bd} {w0 : World} {F0 F1 : Fz} {O1 : Ow} {F : Fz} {O : Ow} {st : St} {a : Act} {w : World} (hr : Rl G B w0 F0 F1 O1 F O st a w) (h : copRes P fn.results.toList = some ts) (hv : rsAs st ts = some vs) :
    ∃ xs : List Value, (results fn a.tmps).run P w = .ok (if h : xs.length = 1 then xs[0] else .tuple xs.toArray) w ∧ xs.length = vs.length ∧ ∀ (i : Nat) (c : Value) (u : AV), xs[i]? = some c → vs[i]? = some u → VR F O c u := by
  unfold results
  rw [Array.mapM_eq_mapM_toList]
  obtain ⟨xs, e1, e2, e3⟩ := mapM_rs (P := P) hr (fun | .tmp t => pure (a.tmps.getD t undef) | .cell x t => do loadVar t (← asAddr (a.tmps.getD x undef))) (fun t => rfl) (fun x t => rfl) fn.results.toList ts vs h hv
  refine ⟨xs, ?_, e2, e3⟩
  simp only [Sem.run_bind, bind_pure_comp, Sem.run_map]
  refine (congrArg (fun r => (Result.andThen r (fun (a : List Value) w' => Result.ok a.toArray w')).andThen fun (a : Array Value) w' => Result.ok (if h : a.size = 1 then a[0] else Value.tuple a) w') e1).trans ?_
  simp only [Result.andThen_ok]
  by_cases hl : xs.length = 1
  · simp [hl]
  · simp [hl]
section
variable {P : Program} {G : Nat → AV} {hs : List FuncId}
theorem resOf_pv {F : Fz} {xs : List Value} {rs : List AV} (hl : xs.length = rs.length) (hp : ∀ (i : Nat) (c : Value) (a : AV), xs[i]? = some c → rs[i]? = some a → PV F c a) :
    PV F (if h : xs.length = 1 then xs[0] else .tuple xs.toArray) (resOf rs) := by
  by_cases h1 : xs.length = 1
  · rw [dif_pos h1]
    match xs, rs, hl, h1 with
    | [x], [a], _, _ => exact hp 0 x a rfl rfl
  · rw [dif_neg h1]
    have : resOf rs = .tup rs := by
      match rs with
      | [] => rfl
      | [_] => simp at hl; omega
      | _ :: _ :: _ => rfl
    rw [this]
    exact .tup xs rs hl hp
theorem resOf_vr {F : Fz} {O : Ow} {xs : List Value} {rs : List AV} (hl : xs.length = rs.length) (hp : ∀ (i : Nat) (c : Value) (a : AV), xs[i]? = some c → rs[i]? = some a → VR F O c a) :
    VR F O (if h : xs.length = 1 then xs[0] else .tuple xs.toArray) (resOf rs) := by
  by_cases h1 : xs.length = 1
  · rw [dif_pos h1]
    match xs, rs, hl, h1 with
    | [x], [a], _, _ => exact hp 0 x a rfl rfl
  · rw [dif_neg h1]
    have : resOf rs = .tup rs := by
      match rs with
      | [] => rfl
      | [_] => simp at hl; omega
      | _ :: _ :: _ => rfl
    rw [this]
    exact .tup xs rs hl hp
theorem init_ok {B : Bd} {w0 : World} {F0 F : Fz} {O : Ow} {H : Hp} {w : World} (h : Own B w0 F0 F O H w) (hg : GOK G F) {n : Nat} {xs : List Value} {as : List AV} (hl : xs.length = as.length) (hv : ∀ (i : Nat) (c : Value) (a : AV), xs[i]? = some c → as[i]? = some a → VR F O c a) (hB : B.ds = [] := by rfl) :
    Rl G B w0 F0 F O F O (St.init n as H) { tmps := xs.toArray ++ Array.replicate (n - xs.toArray.size) undef, defers := [] } w := by
  refine ⟨h, by simp [St.init, hl], fun t => ?_, hB.symm, hg, Fz.le_refl F, Ow.le_refl O⟩
  simp only [St.init, Array.getD_eq_getD_getElem?, List.getD_eq_getElem?_getD]
  by_cases ht : t < as.length
  · rw [Array.getElem?_append_left (by simpa [hl] using ht), List.getElem?_append_left ht]
    have h1 : xs[t]? = some (xs[t]'(by omega)) := List.getElem?_eq_getElem (by omega)
    have h2 : as[t]? = some as[t] := List.getElem?_eq_getElem ht
    have := hv t _ _ h1 h2
    simpa [h1, h2] using this
  · rw [Array.getElem?_append_right (by simp; omega), List.getElem?_append_right (by omega)]
    by_cases ht2 : t - as.length < n - as.length
    · simp [hl, ht2, undef_ok]
    · simp [hl, ht2, undef_ok]
theorem slots_at {B : Bd} {w0 : World} {F0 F1 : Fz} {O1 : Ow} {F : Fz} {O : Ow} {st : St} {a : Act} {w : World} (h : Rl G B w0 F0 F1 O1 F O st a w) (ts : List Nat) : ∀ (i : Nat) (c : Value) (u : AV), (ts.map fun t => a.tmps.getD t undef)[i]? = some c → (ts.map fun t => st.s.getD t undefA)[i]? = some u → VR F O c u := fun i c u hc hu => by
  rw [List.getElem?_map] at hc hu
  obtain ⟨t, ht, rfl⟩ := Option.map_eq_some_iff.1 hc
  rw [ht] at hu
  cases hu
  exact h.slot t
/-- A function that is handed what nobody writes any more. -/
theorem pc_of {f : FuncId} {af : AF} (hf : copF P hs f = some af) {as : List AV} {r : AV} (h : W P G af.body (RetP af.res r) (St.init af.n as [])) : PC P G f as r := by
  unfold copF at hf
  split at hf
  · rename_i fn hfn
    split at hf
    · rename_i c hc
      split at hf
      · rename_i ts ac hts hac
        cases hf
        intro w F xs hfr hg hl hv
        have hown : Own (Bd.of w.heap.size) w F F [] [] w := ⟨rfl, fun i d ob hd => by simp at hd, fun i j d d' hd => by simp at hd, hfr, Fz.le_refl F, fun b o v hv => .inl hv, Below.refl _ _, Nat.le_refl _, fun _ h => h.elim, fun _ h => h.elim⟩
        refine calls_of_wp hfn hc (W_ok c ac hac _ _ _ _ _ F [] h (init_ok hown hg hl fun i c a hc ha => .p (hv i c a hc ha)) fun e st' a' w' F' O' he hr => ?_)
        obtain ⟨hex, vs, hvs, rs, H', hp, hrs⟩ := he
        obtain ⟨ys, y1, y2, y3⟩ := results_run hr hts hvs
        obtain ⟨F2, p1, p2, o2, l2⟩ := purA_ok hr.own y2 y3 hp
        have key : a'.defers = [] ∧ ∃ v, (results fn a'.tmps).run P w' = .ok v w' ∧ ∃ v1 F', (Ending.returned v) = .returned v1 ∧ PV F' v1 r ∧ F.le F' ∧ (∀ b o v, F' b o = some v → w'.cell? ⟨b, o, none⟩ = some v) ∧ (∀ b o v, F' b o = some v → F b o = some v ∨ w.heap.size ≤ b) ∧ Below w.heap.size w w' := by
          refine ⟨hr.defs, _, y1, _, F2, rfl, ?_, Fz.le_trans hr.leF l2, o2.fr, fun b o v hv => (o2.new b o v hv).imp id (·.1), o2.below⟩
          rw [← hrs]
          exact resOf_pv (by omega) p1
        rcases hex with rfl | rfl <;> exact key
      · cases hf
    · cases hf
  · cases hf
theorem hc_of {f : FuncId} {af : AF} (hf : copF P hs f = some af) {as : List AV} {H : Hp} {r : AV} {H' : Hp} (h : W P G af.body (RetH af.res r H') (St.init af.n as H)) : HC P G f as H r H' := by
  unfold copF at hf
  split at hf
  · rename_i fn hfn
    split at hf
    · rename_i c hc
      split at hf
      · rename_i ts ac hts hac
        cases hf
        intro B w0 F0 F O w xs hown0 hg hl hv
        have hown := hown0.ds []
        refine calls_of_wp hfn hc (W_ok c ac hac _ _ _ _ _ F O h (init_ok hown hg hl hv) fun e st' a' w' F' O' he hr => ?_)
        obtain ⟨hex, ⟨vs, hvs, hrs⟩, hH⟩ := he
        obtain ⟨ys, y1, y2, y3⟩ := results_run hr hts hvs
        have key : a'.defers = [] ∧ ∃ v, (results fn a'.tmps).run P w' = .ok v w' ∧ ∃ v1, (Ending.returned v) = .returned v1 ∧ Out B w0 F0 F O r H' v1 w' := by
          refine ⟨hr.defs, _, y1, _, rfl, F', O', ?_, by rw [← hH]; exact hr.own.ds B.ds, hr.leF, hr.leO⟩
          rw [← hrs]
          exact resOf_vr y2 y3
        rcases hex with rfl | rfl <;> exact key
      · cases hf
    · cases hf
  · cases hf
end
theorem rdTa {α} (l : List α) : Array.mk l = l.toArray := rfl
/-- A function's text, computed. -/
def rdT {x : Option AF} (h : {a : AF // x = some a} := by (refine ⟨?_, ?_⟩; rotate_left; (conv => lhs; reduce; simp only [Int.reduceOfNat, rdTa]); try rfl)) : {a : AF // x = some a} := h
end Go.Proofs.YtgcnbbjapapnjaaDoor.Sim
