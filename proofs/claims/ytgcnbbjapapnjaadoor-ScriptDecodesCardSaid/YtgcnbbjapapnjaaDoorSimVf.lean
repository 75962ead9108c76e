/- Functions by evaluation; rules for what is asked. -/
import Derived.Test.YtgcnbbjapapnjaaDoorSimVe
namespace Go.Proofs.YtgcnbbjapapnjaaDoor.Sim
open Go.RowKit
set_option linter.unusedVariables false
set_option linter.unusedSimpArgs false
inductive ObEq (a b : AV) : Prop
  | mk (h : a = b) : ObEq a b
/-- The end of a call that may write its caller's rows. -/
inductive ObEnd (m : Nat) (v r : AV) : Hp → Hp → Prop
  | eq {H H' : Hp} (h : v = r) (hH : H = H') : ObEnd m v r H H'
  | cut {H H' : Hp} (H1 : Hp) (hc : Ct H H1) (h : ObEnd m v r H1 H') : ObEnd m v r H H'
  | view {H H' : Hp} (T : Tb) (h : rnB T r = some v) (vw : Vw T H H') (hb : Bas m T H) : ObEnd m v r H H'
theorem ObEnd.out {m : Nat} {v r : AV} {H1 H' : Hp} (hx : ObEnd m v r H1 H') {B : Bd} {w0 w : World} {F0 F F1 : Fz} {O O1 : Ow} {y : Value} (own : Own B w0 F0 F O H1 w) (hv : VR F O y v) (hO : O1.length ≤ m) (leO : O1.le O) : ∃ O2, VR F O2 y r ∧ Own B w0 F0 F O2 H' w ∧ O1.le O2 := by
  induction hx with
  | eq h hH => subst h; subst hH; exact ⟨O, hv, own, leO⟩
  | cut H1 hc h ih => exact ih (own.ct hc)
  | view T h vw hb =>
    obtain ⟨O2, own2, hto⟩ := own.view vw
    exact ⟨O2, hv.rnB hto h, own2, leO_view own hO leO hto hb⟩
def rsK (s : List AV) (H : Hp) : List RS → (List AV → Prop) → Prop
  | [], k => k []
  | (t, x) :: rs, k => (match x with
    | none => gK s t (fun a => rsK s H rs (fun vs => k (a :: vs)))
    | some gn => (match gn with | (g, n) => gK s t (fun a => vLoad H g n a (fun v => rsK s H rs (fun vs => k (v :: vs))))))
theorem rsK_ok {s : List AV} {H : Hp} : ∀ {rs : List RS} {k : List AV → Prop}, rsK s H rs k → ∃ vs, rsAs ⟨s, H⟩ rs = some vs ∧ k vs
  | [], _, h => ⟨_, rfl, h⟩
  | (t, none) :: rs, k, h => by
    simp only [rsK, gK_eq] at h
    obtain ⟨vs, h1, h2⟩ := rsK_ok h
    exact ⟨_, by simp only [rsAs, h1]; rfl, h2⟩
  | (t, some (g, n)) :: rs, k, h => by
    simp only [rsK, gK_eq] at h
    obtain ⟨v, h1, h2⟩ := vLoad_ok h
    obtain ⟨vs, h3, h4⟩ := rsK_ok h2
    have h1' : loadA H g n (s.getD t undefA) = some v := h1
    exact ⟨_, by simp only [rsAs, h1', h3], h4⟩
def resK (vs : List AV) (k : AV → Prop) : Prop :=
  match vs with
  | [] => k (.tup [])
  | a :: t => (match t with | [] => k a | b :: t' => k (.tup (a :: b :: t')))
theorem resK_eq (vs : List AV) (k : AV → Prop) : resK vs k = k (resOf vs) := by
  rcases vs with _ | ⟨a, _ | ⟨b, t⟩⟩ <;> rfl
def EndP (ts : List RS) (r : AV) (e : EX) (st : St) : Prop :=
  match e with
  | .x _ => False
  | _ => (match st with | ⟨s, H⟩ => rsK s H ts (fun vs => fzA H vs (fun vs' _ => resK vs' (fun v => ObEq v r))))
def EndH (m : Nat) (ts : List RS) (r : AV) (H' : Hp) (e : EX) (st : St) : Prop :=
  match e with
  | .x _ => False
  | _ => (match st with | ⟨s, H⟩ => rsK s H ts (fun vs => resK vs (fun v => ObEnd m v r H H')))
def initK : List AV → Nat → (List AV → Prop) → Prop
  | as, 0, k => k as
  | [], n + 1, k => initK [] n (fun s => k (undefA :: s))
  | a :: as, n + 1, k => initK as n (fun s => k (a :: s))
theorem initK_eq : ∀ (as : List AV) (n : Nat) (k : List AV → Prop), initK as n k = k (as ++ List.replicate (n - as.length) undefA)
  | as, 0, k => by cases as <;> simp [initK]
  | [], n + 1, k => by rw [initK, initK_eq [] n]; simp [List.replicate_succ]
  | a :: as, n + 1, k => by rw [initK, initK_eq as n]; simp
theorem emV_vr {F : Fz} {x : Value} {k : Nat} (h : PV F x (.sl k [])) : (∃ b, VR F [] x (.em b k)) := by
  cases h with
  | sl A n cap k es hn hc hm hk h1 b o hA f hf h =>
    simp only [List.length_nil] at hn
    subst hn
    exact ⟨!A.isSome, .em A cap _ k (by cases A.isSome <;> rfl) hm⟩
section
variable {P : Program} {G : Nat → AV} {hs : List FuncId}
/-- A function that is handed what nobody writes any more; other values may stand for its arguments. -/
theorem pc_ofV' {f : FuncId} {af : AF} (hf : copF P hs f = some af) {as : List AV} {r : AV}
    (h : ∀ (w : World) (F : Fz) (xs : List Value), xs.length = as.length → (∀ (i : Nat) (c : Value) (a : AV), xs[i]? = some c → as[i]? = some a → PV F c a) → ∃ bs : List AV, bs.length = as.length ∧ (∀ (i : Nat) (c : Value) (a : AV), xs[i]? = some c → bs[i]? = some a → VR F [] c a) ∧ initK bs af.n (fun s => V P G 0 af.body (EndP af.res r) ⟨s, []⟩)) : PC P G f as r := by
  unfold copF at hf
  split at hf
  · rename_i fn hfn
    split at hf
    · rename_i c hc
      split at hf
      · rename_i ts ac hts hac
        cases hf
        intro w F xs hfr hg hl hv
        obtain ⟨bs, hbl, hbv, h⟩ := h w F xs hl hv
        rw [initK_eq] at h
        have hown : Own (Bd.of w.heap.size) w F F [] [] w := ⟨rfl, fun i d ob hd => by simp at hd, fun i j d d' hd => by simp at hd, hfr, Fz.le_refl F, fun b o v hv => .inl hv, Below.refl _ _, Nat.le_refl _, fun _ h => h.elim, fun _ h => h.elim⟩
        refine calls_of_wp hfn hc (V_ok (Nat.le_refl _) c ac hac _ _ _ _ _ F [] h (init_ok hown hg (by rw [hl, hbl]) hbv) fun e st' a' w' F' O' he hr => ?_)
        have key : ∀ {s : List AV} {H : Hp}, st' = ⟨s, H⟩ → rsK s H ts (fun vs => fzA H vs (fun vs' _ => resK vs' (fun v => ObEq v r))) → a'.defers = [] ∧ ∃ v, (results fn a'.tmps).run P w' = .ok v w' ∧ ∃ v1 F', (Ending.returned v) = .returned v1 ∧ PV F' v1 r ∧ F.le F' ∧ (∀ b o v, F' b o = some v → w'.cell? ⟨b, o, none⟩ = some v) ∧ (∀ b o v, F' b o = some v → F b o = some v ∨ w.heap.size ≤ b) ∧ Below w.heap.size w w' := by
          intro s H hst he
          obtain ⟨vs, hvs, he⟩ := rsK_ok he
          obtain ⟨rs, H', hp, he⟩ := fzA_ok he
          rw [resK_eq] at he
          obtain ⟨hrs⟩ := he
          subst hst
          obtain ⟨ys, y1, y2, y3⟩ := results_run hr hts hvs
          obtain ⟨F2, p1, p2, o2, l2⟩ := purA_ok hr.own y2 y3 hp
          refine ⟨hr.defs, _, y1, _, F2, rfl, ?_, Fz.le_trans hr.leF l2, o2.fr, fun b o v hv => (o2.new b o v hv).imp id (·.1), o2.below⟩
          rw [← hrs]
          exact resOf_pv (by omega) p1
        cases e with
        | n => exact key rfl he
        | r => exact key rfl he
        | x id => exact he.elim
      · cases hf
    · cases hf
  · cases hf
theorem pc_ofV {f : FuncId} {af : AF} (hf : copF P hs f = some af) {as : List AV} {r : AV} (h : initK as af.n (fun s => V P G 0 af.body (EndP af.res r) ⟨s, []⟩)) : PC P G f as r :=
  pc_ofV' hf fun w F xs hl hv => ⟨as, rfl, fun i c a hc ha => .p (hv i c a hc ha), h⟩
/-- Lists of values in which slices without elements may be nil or not. -/
inductive EmL : List AV → List AV → Prop
  | nil : EmL [] []
  | same (a : AV) {as bs : List AV} (h : EmL as bs) : EmL (a :: as) (a :: bs)
  | em (b : Bool) (k : Nat) {as bs : List AV} (h : EmL as bs) : EmL (.sl k [] :: as) (.em b k :: bs)
theorem emL_all (F : Fz) (R : List AV → Prop) : ∀ (as : List AV) (xs : List Value) (C : List AV → Prop), (∀ bs, EmL as bs → C bs) → xs.length = as.length → (∀ (i : Nat) (c : Value) (a : AV), xs[i]? = some c → as[i]? = some a → PV F c a) → ∃ bs, C bs ∧ bs.length = as.length ∧ ∀ (i : Nat) (c : Value) (a : AV), xs[i]? = some c → bs[i]? = some a → VR F [] c a
  | [], xs, C, hC, hl, hv => ⟨[], hC _ .nil, rfl, fun i c a _ ha => by simp at ha⟩
  | a :: as, [], C, hC, hl, hv => by simp at hl
  | a :: as, x :: xs, C, hC, hl, hv => by
    have h0 := hv 0 x a rfl rfl
    have step : ∀ b, VR F [] x b → (∀ bs, EmL as bs → EmL (a :: as) (b :: bs)) → ∃ bs, C bs ∧ bs.length = (a :: as).length ∧ ∀ (i : Nat) (c : Value) (u : AV), (x :: xs)[i]? = some c → bs[i]? = some u → VR F [] c u := fun b hb hE => by
      obtain ⟨bs, h1, h2, h3⟩ := emL_all F R as xs (fun bs => C (b :: bs)) (fun bs hbs => hC _ (hE bs hbs)) (by simpa using hl) (fun i c a hc ha => hv (i + 1) c a (by simpa using hc) (by simpa using ha))
      refine ⟨b :: bs, h1, by simp [h2], fun i c u hc hu => ?_⟩
      cases i with
      | zero => simp at hc hu; subst hc; subst hu; exact hb
      | succ i => exact h3 i c u (by simpa using hc) (by simpa using hu)
    by_cases he : ∃ k, a = .sl k []
    · obtain ⟨k, rfl⟩ := he
      obtain ⟨b, hb⟩ := emV_vr h0
      exact step _ hb fun bs hbs => .em b k hbs
    · exact step a (.p h0) fun bs hbs => .same a hbs
theorem pc_emV {f : FuncId} {af : AF} (hf : copF P hs f = some af) {as : List AV} {r : AV} (h : ∀ bs, EmL as bs → initK bs af.n (fun s => V P G 0 af.body (EndP af.res r) ⟨s, []⟩)) : PC P G f as r :=
  pc_ofV' hf fun w F xs hl hv => by
    obtain ⟨bs, h1, h2, h3⟩ := emL_all F (fun _ => True) as xs _ h hl hv
    exact ⟨bs, h2, h3, h1⟩
theorem hc_ofV {f : FuncId} {af : AF} (hf : copF P hs f = some af) {as : List AV} {H : Hp} {r : AV} {H' : Hp} {m : Nat} (hm : H.length = m) (h : initK as af.n (fun s => V P G m af.body (EndH m af.res r H') ⟨s, H⟩)) : HC P G f as H r H' := by
  unfold copF at hf
  split at hf
  · rename_i fn hfn
    split at hf
    · rename_i c hc
      split at hf
      · rename_i ts ac hts hac
        cases hf
        intro B w0 F0 F O w xs hown0 hg hl hv
        have hown := hown0.ds []
        rw [initK_eq] at h
        have hO : O.length ≤ m := by rw [hown.len, hm]; exact Nat.le_refl _
        refine calls_of_wp hfn hc (V_ok hO c ac hac _ _ _ _ _ F O h (init_ok hown hg hl hv) fun e st' a' w' F' O' he hr => ?_)
        have key : ∀ {s : List AV} {H1 : Hp}, st' = ⟨s, H1⟩ → rsK s H1 ts (fun vs => resK vs (fun v => ObEnd m v r H1 H')) → a'.defers = [] ∧ ∃ v, (results fn a'.tmps).run P w' = .ok v w' ∧ ∃ v1, (Ending.returned v) = .returned v1 ∧ Out B w0 F0 F O r H' v1 w' := by
          intro s H1 hst hx
          obtain ⟨vs, hvs, hx⟩ := rsK_ok hx
          rw [resK_eq] at hx
          subst hst
          obtain ⟨ys, y1, y2, y3⟩ := results_run hr hts hvs
          obtain ⟨O2, q1, q2, q3⟩ := hx.out (F1 := F) hr.own (resOf_vr y2 y3) hO hr.leO
          exact ⟨hr.defs, _, y1, _, rfl, F', O2, q1, q2.ds B.ds, hr.leF, q3⟩
        cases e with
        | n => exact key rfl he
        | r => exact key rfl he
        | x id => exact he.elim
      · cases hf
    · cases hf
  · cases hf
end
/-- A frame with other values in some slots: how many to leave, then the value of the next one (none: nobody knows it). -/
def mx : List AV → List (Nat × Option AV) → List AV
  | s, [] => s
  | [], _ :: _ => []
  | _ :: s, (0, v) :: ms => v.getD .unk :: mx s ms
  | a :: s, (g + 1, v) :: ms => a :: mx s ((g, v) :: ms)
def mxK : List AV → List (Nat × Option AV) → (List AV → Prop) → Prop
  | s, [], k => k s
  | [], _ :: _, k => k []
  | _ :: s, (0, v) :: ms, k => (match v with | none => mxK s ms (fun s' => k (.unk :: s')) | some v => mxK s ms (fun s' => k (v :: s')))
  | a :: s, (g + 1, v) :: ms, k => mxK s ((g, v) :: ms) (fun s' => k (a :: s'))
theorem mxK_eq : ∀ (s : List AV) (M : List (Nat × Option AV)) (k : List AV → Prop), mxK s M k = k (mx s M)
  | s, [], k => by cases s <;> simp [mxK, mx]
  | [], _ :: _, k => rfl
  | _ :: s, (0, none) :: ms, k => by simp only [mxK, mx]; rw [mxK_eq s ms]; rfl
  | _ :: s, (0, some v) :: ms, k => by simp only [mxK, mx]; rw [mxK_eq s ms]; rfl
  | a :: s, (g + 1, v) :: ms, k => by simp only [mxK, mx]; rw [mxK_eq s]
inductive ObEqs (a b : List AV) (k : Prop) : Prop
  | mk (h : a = b) (hk : k) : ObEqs a b k
inductive ObEq1 (a b : AV) (k : Prop) : Prop
  | mk (h : a = b) (hk : k) : ObEq1 a b k
/-- The frame s is s0 with other values. -/
def fgM : List AV → List AV → List AV → List AV → List (Nat × Option AV) → Prop
  | as, bs, s, s0, [] => ObEqs as bs (ObEqs s s0 True)
  | as, bs, a :: s, b :: s0, (0, v) :: ms => (match v with
    | none => fgM as bs s s0 ms
    | some v => ObEq1 a v (fgM as bs s s0 ms))
  | as, bs, a :: s, b :: s0, (g + 1, v) :: ms => fgM (a :: as) (b :: bs) s s0 ((g, v) :: ms)
  | _, _, _, _, _ :: _ => False
theorem fgM_ok : ∀ {M : List (Nat × Option AV)} {as bs s s0 : List AV}, fgM as bs s s0 M → as = bs ∧ s.length = (mx s0 M).length ∧ ∀ (i : Nat) (b : AV), (mx s0 M)[i]? = some b → b = .unk ∨ s[i]? = some b
  | [], as, bs, s, s0, h => by
    have h' : ObEqs as bs (ObEqs s s0 True) := by cases s <;> cases s0 <;> exact h
    obtain ⟨h1, h2, _⟩ := h'
    subst h2
    have e : mx s [] = s := by cases s <;> rfl
    rw [e]
    exact ⟨h1, rfl, fun i b hb => .inr hb⟩
  | (0, none) :: ms, as, bs, a :: s, b :: s0, h => by
    obtain ⟨h1, h2, h3⟩ := fgM_ok (M := ms) h
    refine ⟨h1, by simp [mx, h2], fun i c hc => ?_⟩
    cases i with
    | zero => left; simp [mx] at hc; exact hc.symm
    | succ i => simp only [mx, List.getElem?_cons_succ] at hc ⊢; exact h3 i c hc
  | (0, some v) :: ms, as, bs, a :: s, b :: s0, h => by
    obtain ⟨he, h⟩ := h
    obtain ⟨h1, h2, h3⟩ := fgM_ok (M := ms) h
    refine ⟨h1, by simp [mx, h2], fun i c hc => ?_⟩
    cases i with
    | zero => right; simp [mx] at hc; simp [he, hc]
    | succ i => simp only [mx, List.getElem?_cons_succ] at hc ⊢; exact h3 i c hc
  | (g + 1, v) :: ms, as, bs, a :: s, b :: s0, h => by
    obtain ⟨h1, h2, h3⟩ := fgM_ok (M := (g, v) :: ms) (as := a :: as) (bs := b :: bs) (s := s) (s0 := s0) h
    simp only [List.cons.injEq] at h1
    refine ⟨h1.2, by simp [mx, h2], fun i c hc => ?_⟩
    cases i with
    | zero => right; simp [mx] at hc; simp [h1.1, hc]
    | succ i => simp only [mx, List.getElem?_cons_succ] at hc ⊢; exact h3 i c hc
  | _ :: _, _, _, [], _, h => by simp [fgM] at h
  | _ :: _, _, _, _ :: _, [], h => by simp [fgM] at h
theorem Fg.go {m : Nat} {s s0 : List AV} {H H2 : Hp} {M : List (Nat × Option AV)} (h : fgM [] [] s s0 M) (hH : H = H2) : Fg m ⟨s, H⟩ ⟨mx s0 M, H2⟩ := by
  obtain ⟨_, h2, h3⟩ := fgM_ok h
  exact .same h2 h3 hH
/-- A value that is the same for the table. -/
def fxC (T : Tb) (a : AV) (k : Prop) : Prop :=
  match a with
  | .ol j g _ => ObN (T[j]? = some (g, j, g)) k
  | .oa j g _ _ => ObN (T[j]? = some (g, j, g)) k
  | .io _ j g _ _ => ObN (T[j]? = some (g, j, g)) k
  | .oc j g _ _ => ObN (T[j]? = some (g, j, g)) k
  | .mf _ _ j g _ _ => ObN (T[j]? = some (g, j, g)) k
  | .bf _ j g _ _ => ObN (T[j]? = some (g, j, g)) k
  | .ib _ _ j g _ _ => ObN (T[j]? = some (g, j, g)) k
  | .mp j g => ObN (T[j]? = some (g, j, g)) k
  | .agg _ => False
  | .tup _ => False
  | .fn _ _ => False
  | .os .. => False
  | _ => k
theorem fxC_ok {T : Tb} {a : AV} {k : Prop} (h : fxC T a k) : rnC T a = some a ∧ k := by
  cases a with
  | ol j g n => obtain ⟨h1, h2⟩ := h; exact ⟨by simp [rnC, h1], h2⟩
  | oa j g e off => obtain ⟨h1, h2⟩ := h; exact ⟨by simp [rnC, h1], h2⟩
  | io t j g e off => obtain ⟨h1, h2⟩ := h; exact ⟨by simp [rnC, h1], h2⟩
  | oc j g n c => obtain ⟨h1, h2⟩ := h; exact ⟨by simp [rnC, h1], h2⟩
  | mf nm t j g e off => obtain ⟨h1, h2⟩ := h; exact ⟨by simp [rnC, h1], h2⟩
  | bf f j g e off => obtain ⟨h1, h2⟩ := h; exact ⟨by simp [rnC, h1], h2⟩
  | ib t f j g e off => obtain ⟨h1, h2⟩ := h; exact ⟨by simp [rnC, h1], h2⟩
  | mp j g => obtain ⟨h1, h2⟩ := h; exact ⟨by simp [rnC, h1], h2⟩
  | agg => exact h.elim
  | tup => exact h.elim
  | fn => exact h.elim
  | os => exact h.elim
  | _ => exact ⟨rfl, h⟩
def fxL (T : Tb) : List AV → Prop → Prop
  | [], k => k
  | a :: as, k => fxC T a (fxL T as k)
theorem fxL_ok {T : Tb} : ∀ {as : List AV} {k : Prop}, fxL T as k → rnL T as = some as ∧ k
  | [], _, h => ⟨rfl, h⟩
  | a :: as, k, h => by
    obtain ⟨h1, h2⟩ := fxC_ok h
    obtain ⟨h3, h4⟩ := fxL_ok h2
    exact ⟨by simp [rnL, h1, h3], h4⟩
def fxB (T : Tb) (a : AV) (k : Prop) : Prop :=
  match a with
  | .agg cs => fxL T cs k
  | .tup cs => fxL T cs k
  | .fn _ cs => fxL T cs k
  | a => fxC T a k
theorem fxB_ok {T : Tb} {a : AV} {k : Prop} (h : fxB T a k) : rnB T a = some a ∧ k := by
  cases a with
  | agg cs => obtain ⟨h1, h2⟩ := fxL_ok h; exact ⟨by simp [rnB, h1], h2⟩
  | tup cs => obtain ⟨h1, h2⟩ := fxL_ok h; exact ⟨by simp [rnB, rnT_rnL h1], h2⟩
  | fn f cs => obtain ⟨h1, h2⟩ := fxL_ok h; exact ⟨by simp [rnB, h1], h2⟩
  | _ => simp only [fxB] at h; exact fxC_ok h
def fxs (T : Tb) : List AV → Prop → Prop
  | [], k => k
  | a :: as, k => fxB T a (fxs T as k)
theorem fxs_ok {T : Tb} : ∀ {as : List AV} {k : Prop}, fxs T as k → (∀ a ∈ as, rnB T a = some a) ∧ k
  | [], _, h => ⟨fun a ha => (by cases ha), h⟩
  | a :: as, k, h => by
    obtain ⟨h1, h2⟩ := fxB_ok h
    obtain ⟨h3, h4⟩ := fxs_ok h2
    refine ⟨fun b hb => ?_, h4⟩
    rcases List.mem_cons.1 hb with rfl | hb
    · exact h1
    · exact h3 b hb
/-- A value as the table has it. -/
inductive ObRn (T : Tb) (v a : AV) (k : Prop) : Prop
  | mk (h : rnB T v = some a) (hk : k) : ObRn T v a k
/-- The frame s, by a table, is s0 with other values. -/
def fgT (T : Tb) : List AV → List AV → List AV → List AV → List (Nat × Option AV) → Prop
  | as, bs, s, s0, [] => ObEqs as bs (fxs T as (ObEqs s s0 (fxs T s True)))
  | as, bs, a :: s, b :: s0, (0, v) :: ms => (match v with
    | none => fgT T as bs s s0 ms
    | some v => ObRn T v a (fgT T as bs s s0 ms))
  | as, bs, a :: s, b :: s0, (g + 1, v) :: ms => fgT T (a :: as) (b :: bs) s s0 ((g, v) :: ms)
  | _, _, _, _, _ :: _ => False
theorem fgT_ok {T : Tb} : ∀ {M : List (Nat × Option AV)} {as bs s s0 : List AV}, fgT T as bs s s0 M → (as = bs ∧ ∀ a ∈ as, rnB T a = some a) ∧ s.length = (mx s0 M).length ∧ ∀ (i : Nat) (b : AV), (mx s0 M)[i]? = some b → b = .unk ∨ ∃ a, s[i]? = some a ∧ rnB T b = some a
  | [], as, bs, s, s0, h => by
    have h' : ObEqs as bs (fxs T as (ObEqs s s0 (fxs T s True))) := by cases s <;> cases s0 <;> exact h
    obtain ⟨h1, h2⟩ := h'
    obtain ⟨h3, h4, h5⟩ := fxs_ok h2
    obtain ⟨h6, _⟩ := fxs_ok h5
    subst h4
    have e : mx s [] = s := by cases s <;> rfl
    rw [e]
    exact ⟨⟨h1, h3⟩, rfl, fun i b hb => .inr ⟨b, hb, h6 b (List.mem_of_getElem? hb)⟩⟩
  | (0, none) :: ms, as, bs, a :: s, b :: s0, h => by
    obtain ⟨h1, h2, h3⟩ := fgT_ok (M := ms) h
    refine ⟨h1, by simp [mx, h2], fun i c hc => ?_⟩
    cases i with
    | zero => left; simp [mx] at hc; exact hc.symm
    | succ i => simp only [mx, List.getElem?_cons_succ] at hc ⊢; exact h3 i c hc
  | (0, some v) :: ms, as, bs, a :: s, b :: s0, h => by
    obtain ⟨he, h⟩ := h
    obtain ⟨h1, h2, h3⟩ := fgT_ok (M := ms) h
    refine ⟨h1, by simp [mx, h2], fun i c hc => ?_⟩
    cases i with
    | zero => right; simp [mx] at hc; exact ⟨a, rfl, by rw [← hc]; exact he⟩
    | succ i => simp only [mx, List.getElem?_cons_succ] at hc ⊢; exact h3 i c hc
  | (g + 1, v) :: ms, as, bs, a :: s, b :: s0, h => by
    obtain ⟨⟨h1, h1'⟩, h2, h3⟩ := fgT_ok (M := (g, v) :: ms) (as := a :: as) (bs := b :: bs) (s := s) (s0 := s0) h
    simp only [List.cons.injEq] at h1
    refine ⟨⟨h1.2, fun x hx => h1' x (List.mem_cons_of_mem _ hx)⟩, by simp [mx, h2], fun i c hc => ?_⟩
    cases i with
    | zero => right; simp [mx] at hc; exact ⟨a, rfl, by rw [← hc, ← h1.1]; exact h1' a (List.mem_cons_self ..)⟩
    | succ i => simp only [mx, List.getElem?_cons_succ] at hc ⊢; exact h3 i c hc
  | _ :: _, _, _, [], _, h => by simp [fgT] at h
  | _ :: _, _, _, _ :: _, [], h => by simp [fgT] at h
/-- No row is told about. -/
def nrB (a : AV) : Bool := a.cells.all fun c => match c with
  | .v _ => true
  | .sl _ _ => true
  | .ad _ _ _ _ => true
  | .nl _ => true
  | .em _ _ => true
  | _ => false
theorem nrB_ok {T : Tb} {a : AV} (h : nrB a = true) : rnL T a.cells = some a.cells := by
  unfold nrB at h
  generalize a.cells = cs at h
  induction cs with
  | nil => rfl
  | cons c cs ih =>
    simp only [List.all_cons, Bool.and_eq_true] at h
    have h1 : rnC T c = some c := by
      cases c with
      | v => rfl
      | sl => rfl
      | ad => rfl
      | nl => rfl
      | em => rfl
      | _ => simp at h
    simp [rnL, h1, ih h.2]
/-- A row's elements, by the table. -/
inductive ObRow (T : Tb) (es es2 : List AV) (k : Prop) : Prop
  | same (h : es2 = es) (hn : es.all nrB = true) (hk : k) : ObRow T es es2 k
  | lit (h : (es2.map fun e => rnR T e.cells) = es.map fun e => some e.cells) (hk : k) : ObRow T es es2 k
theorem ObRow.ok {T : Tb} {es es2 : List AV} {k : Prop} (h : ObRow T es es2 k) : (es2.length = es.length ∧ ∀ (n : Nat) (e2 : AV), es2[n]? = some e2 → ∃ e, es[n]? = some e ∧ rnR T e2.cells = some e.cells) ∧ k := by
  rcases h with ⟨rfl, hn, hk⟩ | ⟨h, hk⟩
  · exact ⟨⟨rfl, fun n e2 he => ⟨e2, he, rnL_rnR (nrB_ok (List.all_eq_true.1 hn e2 (List.mem_of_getElem? he)))⟩⟩, hk⟩
  · have hl : es2.length = es.length := by have := congrArg List.length h; simpa using this
    refine ⟨⟨hl, fun n e2 he => ?_⟩, hk⟩
    have hn : n < es.length := by rw [← hl]; exact (List.getElem?_eq_some_iff.1 he).1
    have := congrArg (·[n]?) h
    simp only [List.getElem?_map, he, List.getElem?_eq_getElem hn, Option.map_some, Option.some.injEq] at this
    exact ⟨es[n], List.getElem?_eq_getElem hn, this⟩
def vwK (T0 : Tb) (H : Hp) : Tb → Hp → Prop → Prop
  | [], [], k => k
  | (g2, i, g) :: T, o2 :: H2, k => rK H i (fun o => match o with
    | ⟨e, kk, es, g', fz⟩ => (match o2 with
      | ⟨e2, kk2, es2, g2', fz2⟩ => ObN (g2' = g2) (ObN (g' = g) (ObN (e2 = e) (ObN (kk2 = kk) (ObN (fz2 = fz) (ObRow T0 es es2 (vwK T0 H T H2 k))))))))
  | _, _, _ => False
theorem vwK_ok {T0 : Tb} {H : Hp} : ∀ {T : Tb} {H2 : Hp} {k : Prop}, vwK T0 H T H2 k → (H2.length = T.length ∧ ∀ (j : Nat) (ob2 : OB), H2[j]? = some ob2 → ∃ i g ob, T[j]? = some (ob2.g, i, g) ∧ H[i]? = some ob ∧ ob.g = g ∧ ob2.e = ob.e ∧ ob2.k = ob.k ∧ ob2.fz = ob.fz ∧ ob2.es.length = ob.es.length ∧
    ∀ (n : Nat) (e2 : AV), ob2.es[n]? = some e2 → ∃ e, ob.es[n]? = some e ∧ rnR T0 e2.cells = some e.cells) ∧ k
  | [], [], k, h => ⟨⟨rfl, fun j ob2 hj => by simp at hj⟩, h⟩
  | (g2, i, g) :: T, o2 :: H2, k, h => by
    obtain ⟨o, h1, h2⟩ := rK_ok h
    obtain ⟨e, kk, es, g', fz⟩ := o
    obtain ⟨e2, kk2, es2, g2', fz2⟩ := o2
    obtain ⟨rfl, rfl, rfl, rfl, rfl, h2⟩ := h2
    obtain ⟨⟨l1, l2⟩, h2⟩ := h2.ok
    obtain ⟨⟨h3, h4⟩, h5⟩ := vwK_ok h2
    refine ⟨⟨by simp [h3], fun j ob2 hj => ?_⟩, h5⟩
    cases j with
    | zero => simp at hj; subst hj; exact ⟨i, _, _, rfl, h1, rfl, rfl, rfl, rfl, l1, l2⟩
    | succ j => obtain ⟨i', g', ob, q⟩ := h4 j ob2 (by simpa using hj); exact ⟨i', g', ob, by simpa using q⟩
  | [], _ :: _, _, h => h.elim
  | _ :: _, [], _, h => h.elim
theorem Vw.of {T : Tb} {H H2 : Hp} (h : vwK T H T H2 True) (hn : (T.map (·.2.1)).Nodup) : Vw T H H2 := by
  obtain ⟨⟨h1, h2⟩, _⟩ := vwK_ok h
  refine ⟨h1, h2, fun j j' g2 i g g2' g' t1 t2 => ?_⟩
  have e1 : (T.map (·.2.1))[j]? = some i := by simp [t1]
  have e2 : (T.map (·.2.1))[j']? = some i := by simp [t2]
  have hj := List.getElem?_eq_some_iff.1 e1
  have hj' := List.getElem?_eq_some_iff.1 e2
  obtain ⟨q1, q2⟩ := hj
  obtain ⟨q3, q4⟩ := hj'
  have hp := List.pairwise_iff_getElem.1 hn
  rcases Nat.lt_trichotomy j j' with h | h | h
  · exact absurd (q2.trans q4.symm) (hp j j' q1 q3 h)
  · exact h
  · exact absurd (q4.trans q2.symm) (hp j' j q3 q1 h)
def bsK : Nat → List Nat → Tb → Hp → Prop
  | 0, _, _, _ => True
  | m + 1, j :: js, (g2, i, g) :: T, o :: H => ObO (ObN (i = j) (ObN (g2 = g) (bsK m js T H))) (ObN (o.g < g2) (bsK m js T H))
  | _, _, _, _ => False
theorem bsK_aux : ∀ (m q : Nat) (js : List Nat) (T : Tb) (H : Hp), (∀ (i n : Nat), js[i]? = some n → n = q + i) → bsK m js T H → ∀ j, j < m → ∃ g2 i g, T[j]? = some (g2, i, g) ∧ ((i = q + j ∧ g2 = g) ∨ ∃ ob, H[j]? = some ob ∧ ob.g < g2)
  | 0, _, _, _, _, _, _, j, hj => by omega
  | m + 1, q, j0 :: js, (g2, i, g) :: T, o :: H, hn, h, j, hj => by
    have h0 : j0 = q := hn 0 j0 rfl
    have rest : bsK m js T H := by rcases h with ⟨_, _, h⟩ | ⟨_, h⟩ <;> exact h
    cases j with
    | zero =>
      refine ⟨g2, i, g, rfl, ?_⟩
      rcases h with ⟨h1, h2, _⟩ | ⟨h1, _⟩
      · left; exact ⟨by omega, h2⟩
      · right; exact ⟨o, rfl, h1⟩
    | succ j =>
      obtain ⟨a, b, c, h1, h2⟩ := bsK_aux m (q + 1) js T H (fun i n hi => by have := hn (i + 1) n (by simpa using hi); omega) rest j (by omega)
      exact ⟨a, b, c, by simpa using h1, by rcases h2 with ⟨x, y⟩ | h2; exact .inl ⟨by omega, y⟩; exact .inr (by simpa using h2)⟩
theorem Bas.of {m : Nat} {T : Tb} {H : Hp} (h : bsK m nums T H) : Bas m T H := fun j hj => by
  have := bsK_aux m 0 nums T H (fun i n hn => by
    simp only [nums] at hn
    rcases i with _|_|_|_|_|_|_|_|_|_|_|_|_|_|_|_|_|_|_|_|_|_|_|_|_|_|_|_|_|_|_|_|i <;> simp at hn <;> omega) h j hj
  simpa using this
/-- Less is told of the frame, by a table. -/
theorem Fg.vw {m : Nat} {s s0 : List AV} {H H2 : Hp} {M : List (Nat × Option AV)} (T : Tb) (h : fgT T [] [] s s0 M) (v : vwK T H T H2 True) (hn : (T.map (·.2.1)).Nodup) (hb : bsK m nums T H) : Fg m ⟨s, H⟩ ⟨mx s0 M, H2⟩ := by
  obtain ⟨_, h2, h3⟩ := fgT_ok h
  exact .view T h2 h3 (Vw.of v hn) (Bas.of hb)
theorem ObEnd.vw {m : Nat} {v r : AV} {H H' : Hp} (T : Tb) (h : rnB T r = some v) (w : vwK T H T H' True) (hn : (T.map (·.2.1)).Nodup) (hb : bsK m nums T H) : ObEnd m v r H H' := .view T h (Vw.of w hn) (Bas.of hb)
/-- The last elements of a row are forgotten. -/
theorem Fg.ct {m : Nat} {s : List AV} {H : Hp} {st2 : St} (i n : Nat) {ob : OB} {es' : List AV} (hi : H[i]? = some ob) (ne : (ob.e == 4000000000) = false) (hf : ob.fz ≤ n) (hn : n ≤ ob.es.length) (he : ob.es.take n = es') (h : Fg m ⟨s, H.set i ⟨ob.e, ob.k, es', ob.g, ob.fz⟩⟩ st2) : Fg m ⟨s, H⟩ st2 := by
  subst he
  exact .cut _ (Ct.set hi ne hf hn) h
theorem ObEnd.ct {m : Nat} {v r : AV} {H H' : Hp} (i n : Nat) {ob : OB} {es' : List AV} (hi : H[i]? = some ob) (ne : (ob.e == 4000000000) = false) (hf : ob.fz ≤ n) (hn : n ≤ ob.es.length) (he : ob.es.take n = es') (h : ObEnd m v r (H.set i ⟨ob.e, ob.k, es', ob.g, ob.fz⟩) H') : ObEnd m v r H H' := by
  subst he
  exact .cut _ (Ct.set hi ne hf hn) h
/-- A loop: what is known of the slots that it writes, and of the rows. -/
theorem LoopP.go {α : Type} {m : Nat} {Wc : (EX → St → Prop) → St → Prop} {Q : EX → St → Prop} {s : List AV} {H : Hp} (J : α → Prop) (μ : α → Nat) (M : α → List (Nat × Option AV)) (Hc : α → Hp) (a0 : α) (h0 : J a0) (h1 : Fg m ⟨s, H⟩ ⟨mx s (M a0), Hc a0⟩)
    (h2 : ∀ a, J a → mxK s (M a) (fun s' => Wc (thenQ (Again m J μ (fun a => ⟨mx s (M a), Hc a⟩) (μ a)) Q) ⟨s', Hc a⟩)) : LoopP m Wc Q ⟨s, H⟩ :=
  .mk α J μ (fun a => ⟨mx s (M a), Hc a⟩) a0 h0 h1 fun a ha => by have := h2 a ha; rw [mxK_eq] at this; exact this
-- rules
section
variable {t f k : Prop} {p : Prop}
theorem ObB.yes (hp : p) (h : t) : ObB p t f := ⟨fun _ => h, fun hn => absurd hp hn⟩
theorem ObB.no (hp : ¬ p) (h : f) : ObB p t f := ⟨fun h => absurd h hp, fun _ => h⟩
theorem ObT.tt (h : t) : ObT true t f := ⟨fun _ => h, fun h => by cases h⟩
theorem ObT.ff (h : f) : ObT false t f := ⟨fun h => (by cases h), fun _ => h⟩
theorem ObT.yes {b : Bool} (hb : b = true) (h : t) : ObT b t f := ⟨fun _ => h, fun h => by rw [hb] at h; cases h⟩
theorem ObT.no {b : Bool} (hb : b = false) (h : f) : ObT b t f := ⟨fun h => (by rw [hb] at h; cases h), fun _ => h⟩
theorem ObT.dec {p : Prop} [Decidable p] (ht : p → t) (hf : ¬ p → f) : ObT (decide p) t f := ⟨fun h => ht (of_decide_eq_true h), fun h => hf (of_decide_eq_false h)⟩
end
section
variable {k : Int → Prop} {a b n : Nat}
theorem ObI.nn (h : a + b ≤ 9223372036854775807) (hk : k ((a + b : Nat) : Int)) : ObI ((a : Int) + (b : Int)) k := .mk (_) (by simp) (by omega) (by omega) (hk)
theorem ObI.nl (h : a + (OfNat.ofNat n : Nat) ≤ 9223372036854775807) (hk : k ((a + (OfNat.ofNat n : Nat) : Nat) : Int)) : ObI ((a : Int) + (@OfNat.ofNat Int n _)) k := .mk (((a + (OfNat.ofNat n : Nat) : Nat) : Int)) (by rw [Int.natCast_add]; rfl) (by have := Int.natCast_nonneg (a + (OfNat.ofNat n : Nat)); omega) (by generalize (OfNat.ofNat n : Nat) = q at *; omega) (hk)
theorem ObI.sn (h : b ≤ a) (h2 : a ≤ 9223372036854775807) (hk : k ((a - b : Nat) : Int)) : ObI ((a : Int) - (b : Int)) k := .mk (_) (by omega) (by omega) (by omega) (hk)
theorem ObI.sl (h : (OfNat.ofNat n : Nat) ≤ a) (h2 : a ≤ 9223372036854775807) (hk : k ((a - (OfNat.ofNat n : Nat) : Nat) : Int)) : ObI ((a : Int) - (@OfNat.ofNat Int n _)) k := .mk (((a - (OfNat.ofNat n : Nat) : Nat) : Int)) (by rw [Int.natCast_sub h]; rfl) (by have := Int.natCast_nonneg (a - (OfNat.ofNat n : Nat)); omega) (by generalize (OfNat.ofNat n : Nat) = q at *; omega) (hk)
theorem ObZ.ml (hk : k ((a % (OfNat.ofNat n : Nat) : Nat) : Int)) : ObZ (Int.tmod (a : Int) (@OfNat.ofNat Int n _)) k := ⟨((a % (OfNat.ofNat n : Nat) : Nat) : Int), by rw [Int.tmod_eq_emod_of_nonneg (by omega)]; rfl, hk⟩
theorem ObZ.mn (hk : k ((a % b : Nat) : Int)) : ObZ (Int.tmod (a : Int) (b : Int)) k := ⟨((a % b : Nat) : Int), by rw [Int.tmod_eq_emod_of_nonneg (by omega)]; rfl, hk⟩
theorem ObI.dl (h2 : a ≤ 9223372036854775807) (hk : k ((a / (OfNat.ofNat n : Nat) : Nat) : Int)) : ObI (Int.tdiv (a : Int) (@OfNat.ofNat Int n _)) k := .mk (((a / (OfNat.ofNat n : Nat) : Nat) : Int)) (by rw [Int.tdiv_eq_ediv_of_nonneg (by omega)]; rfl) (by have := Int.natCast_nonneg (a / (OfNat.ofNat n : Nat)); omega) (by have := Nat.div_le_self a (OfNat.ofNat n : Nat); omega) (hk)
end
theorem ObEq1.i {kd : IntKind} {x y : Int} {k : Prop} (h : x = y) (hk : k) : ObEq1 (.v (.int kd x)) (.v (.int kd y)) k := ⟨by rw [h], hk⟩
theorem ObEq1.o {i g n n' : Nat} {k : Prop} (h : n = n') (hk : k) : ObEq1 (.ol i g n) (.ol i g n') k := ⟨by rw [h], hk⟩
theorem ObEq.i {kd : IntKind} {x y : Int} (h : x = y) : ObEq (.v (.int kd x)) (.v (.int kd y)) := ⟨by rw [h]⟩
theorem ObZ.wu {n : Nat} {k : Int → Prop} (h : n ≤ 18446744073709551615) (hk : k (n : Int)) : ObZ (IntKind.u64.wrap (n : Int)) k := ⟨(n : Int), IntWalk.u64_in _ (by omega), hk⟩
theorem ObZ.wi {x : Int} {k : Int → Prop} (h : -9223372036854775808 ≤ x) (h' : x ≤ 9223372036854775807) (hk : k x) : ObZ (IntKind.i64.wrap x) k := ⟨x, wrapI h h', hk⟩
theorem ObX.lit {n len : Nat} {k : Nat → Prop} (h : (OfNat.ofNat n : Nat) < len) (hk : k (OfNat.ofNat n : Nat)) : ObX (@OfNat.ofNat Int n _) len k := ⟨(OfNat.ofNat n : Nat), rfl, h, hk⟩
theorem ObX.int {x : Int} {len : Nat} {k : Nat → Prop} (h0 : 0 ≤ x) (h : x.toNat < len) (hk : k x.toNat) : ObX x len k := ⟨x.toNat, by omega, h, hk⟩
theorem ObY.lit {n len : Nat} {k : Nat → Prop} (h : (OfNat.ofNat n : Nat) ≤ len) (hk : k (OfNat.ofNat n : Nat)) : ObY (@OfNat.ofNat Int n _) len k := ⟨(OfNat.ofNat n : Nat), rfl, h, hk⟩
theorem ObY.int {x : Int} {len : Nat} {k : Nat → Prop} (h0 : 0 ≤ x) (h : x.toNat ≤ len) (hk : k x.toNat) : ObY x len k := ⟨x.toNat, by omega, h, hk⟩
theorem ObR.map {α : Type} {l : List α} {g : α → AV} {i : Nat} {k : AV → Prop} (h : i < l.length) (hk : ∀ x, l[i]? = some x → k (g x)) : ObR (l.map g) i k := ⟨g l[i], by simp [h], hk _ (List.getElem?_eq_getElem h)⟩
section
variable {n a b : Nat} {k : Nat → Nat → Prop}
theorem ObJ.zz (hk : k 0 n) : ObJ n none none k := ⟨0, n, rfl, rfl, Nat.zero_le _, Nat.le_refl _, hk⟩
theorem ObJ.nz (h : a ≤ n) (hk : k a n) : ObJ n (some (a : Int)) none k := ⟨a, n, rfl, rfl, h, Nat.le_refl _, hk⟩
theorem ObJ.zn (h : b ≤ n) (hk : k 0 b) : ObJ n none (some (b : Int)) k := ⟨0, b, rfl, rfl, Nat.zero_le _, h, hk⟩
theorem ObJ.nn (h : a ≤ b) (h2 : b ≤ n) (hk : k a b) : ObJ n (some (a : Int)) (some (b : Int)) k := ⟨a, b, rfl, rfl, h, h2, hk⟩
theorem ObJ.lz (h : (OfNat.ofNat a : Nat) ≤ n) (hk : k (OfNat.ofNat a : Nat) n) : ObJ n (some (@OfNat.ofNat Int a _)) none k := ⟨(OfNat.ofNat a : Nat), n, rfl, rfl, h, Nat.le_refl _, hk⟩
theorem ObJ.zl (h : (OfNat.ofNat b : Nat) ≤ n) (hk : k 0 (OfNat.ofNat b : Nat)) : ObJ n none (some (@OfNat.ofNat Int b _)) k := ⟨0, (OfNat.ofNat b : Nat), rfl, rfl, Nat.zero_le _, h, hk⟩
theorem ObJ.nl (h : a ≤ (OfNat.ofNat b : Nat)) (h2 : (OfNat.ofNat b : Nat) ≤ n) (hk : k a (OfNat.ofNat b : Nat)) : ObJ n (some (a : Int)) (some (@OfNat.ofNat Int b _)) k := ⟨a, (OfNat.ofNat b : Nat), rfl, rfl, h, h2, hk⟩
theorem ObJ.ln (h : (OfNat.ofNat a : Nat) ≤ b) (h2 : b ≤ n) (hk : k (OfNat.ofNat a : Nat) b) : ObJ n (some (@OfNat.ofNat Int a _)) (some (b : Int)) k := ⟨(OfNat.ofNat a : Nat), b, rfl, rfl, h, h2, hk⟩
theorem ObJ.ll (h : (OfNat.ofNat a : Nat) ≤ (OfNat.ofNat b : Nat)) (h2 : (OfNat.ofNat b : Nat) ≤ n) (hk : k (OfNat.ofNat a : Nat) (OfNat.ofNat b : Nat)) : ObJ n (some (@OfNat.ofNat Int a _)) (some (@OfNat.ofNat Int b _)) k := ⟨(OfNat.ofNat a : Nat), (OfNat.ofNat b : Nat), rfl, rfl, h, h2, hk⟩
end
section
variable {s : ByteArray} {a b : Nat} {k : ByteArray → Prop}
theorem ObG.nz (h : a ≤ s.size) (s' : ByteArray) (hs : s.extract a s.size = s') (hk : k s') : ObG s (some (a : Int)) none k := ⟨a, s.size, rfl, rfl, h, Nat.le_refl _, s', hs, hk⟩
theorem ObG.zn (h : b ≤ s.size) (s' : ByteArray) (hs : s.extract 0 b = s') (hk : k s') : ObG s none (some (b : Int)) k := ⟨0, b, rfl, rfl, Nat.zero_le _, h, s', hs, hk⟩
theorem ObG.nn (h : a ≤ b) (h2 : b ≤ s.size) (s' : ByteArray) (hs : s.extract a b = s') (hk : k s') : ObG s (some (a : Int)) (some (b : Int)) k := ⟨a, b, rfl, rfl, h, h2, s', hs, hk⟩
theorem ObG.lz (h : (OfNat.ofNat a : Nat) ≤ s.size) (s' : ByteArray) (hs : s.extract (OfNat.ofNat a : Nat) s.size = s') (hk : k s') : ObG s (some (@OfNat.ofNat Int a _)) none k := ⟨(OfNat.ofNat a : Nat), s.size, rfl, rfl, h, Nat.le_refl _, s', hs, hk⟩
theorem ObG.zl (h : (OfNat.ofNat b : Nat) ≤ s.size) (s' : ByteArray) (hs : s.extract 0 (OfNat.ofNat b : Nat) = s') (hk : k s') : ObG s none (some (@OfNat.ofNat Int b _)) k := ⟨0, (OfNat.ofNat b : Nat), rfl, rfl, Nat.zero_le _, h, s', hs, hk⟩
theorem ObG.nl (h : a ≤ (OfNat.ofNat b : Nat)) (h2 : (OfNat.ofNat b : Nat) ≤ s.size) (s' : ByteArray) (hs : s.extract a (OfNat.ofNat b : Nat) = s') (hk : k s') : ObG s (some (a : Int)) (some (@OfNat.ofNat Int b _)) k := ⟨a, (OfNat.ofNat b : Nat), rfl, rfl, h, h2, s', hs, hk⟩
theorem ObG.ln (h : (OfNat.ofNat a : Nat) ≤ b) (h2 : b ≤ s.size) (s' : ByteArray) (hs : s.extract (OfNat.ofNat a : Nat) b = s') (hk : k s') : ObG s (some (@OfNat.ofNat Int a _)) (some (b : Int)) k := ⟨(OfNat.ofNat a : Nat), b, rfl, rfl, h, h2, s', hs, hk⟩
theorem ObG.ll (h : (OfNat.ofNat a : Nat) ≤ (OfNat.ofNat b : Nat)) (h2 : (OfNat.ofNat b : Nat) ≤ s.size) (s' : ByteArray) (hs : s.extract (OfNat.ofNat a : Nat) (OfNat.ofNat b : Nat) = s') (hk : k s') : ObG s (some (@OfNat.ofNat Int a _)) (some (@OfNat.ofNat Int b _)) k := ⟨(OfNat.ofNat a : Nat), (OfNat.ofNat b : Nat), rfl, rfl, h, h2, s', hs, hk⟩
end
section
variable {P : Program} {G : Nat → AV} {as : List AV} {H : Hp}
theorem ObC.f (f : FuncId) {k : AV → Prop} (h : ObC P G f as k) : ObC P G f as k := h
theorem ObH.f (f : FuncId) {k : KK} (h : ObH P G f as H k) : ObH P G f as H k := h
theorem ObM.f (f : FuncId) {k : KK} (h : ObM P G f as H k) : ObM P G f as H k := h
/-- Another kind of number. -/
theorem ObE.cv {s d : TypeId} {e : TypeDesc} {kd kd' : IntKind} {n : Int} {k : KK} (hs : P.underlying s = some e) (hd : P.underlying d = some (.int kd)) (h : ObZ (kd.wrap n) (fun z => k (.v (.int kd z)) H)) : ObE ((ap1 (fun v => pureRun P (convert s d v)) (.v (.int kd' n))).map (·, H)) k := by
  obtain ⟨z, rfl, hk⟩ := h
  exact ⟨_, _, by simp only [ap1, conc, cV_int hs hd]; rfl, hk⟩
theorem ObE.min {ats : Array TypeId} {ty : TypeId} {cs : Array Bool} {x y : Int} {k : KK} (h : ObZ (if y < x then y else x) (fun z => k (.v (.int .i64 z)) H)) : ObE (biE P .min ats ty cs [.v (.int .i64 x), .v (.int .i64 y)] H) k := by
  obtain ⟨z, rfl, hk⟩ := h
  exact ⟨_, _, rfl, hk⟩
theorem ObE.max {ats : Array TypeId} {ty : TypeId} {cs : Array Bool} {x y : Int} {k : KK} (h : ObZ (if x < y then y else x) (fun z => k (.v (.int .i64 z)) H)) : ObE (biE P .max ats ty cs [.v (.int .i64 x), .v (.int .i64 y)] H) k := by
  obtain ⟨z, rfl, hk⟩ := h
  exact ⟨_, _, rfl, hk⟩
end
end Go.Proofs.YtgcnbbjapapnjaaDoor.Sim
