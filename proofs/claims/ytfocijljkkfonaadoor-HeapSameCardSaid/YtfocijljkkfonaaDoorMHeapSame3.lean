/- Texts of this claim, part 3. -/
import Derived.ChangeOld
import Derived.ChangeSame
import Derived.OpenShut
import Derived.Test.YtfocijljkkfonaaDoorMHeapSame2
import Derived.Test.YtfocijljkkfonaaDoorProg
set_option linter.unusedVariables false
set_option linter.unusedSimpArgs false
namespace Go.Proofs.YtfocijljkkfonaaDoor.Sim
open Go.RowKit
def badC:AC:=.region [⟨none,.bad,none⟩]
def ZN (P:Program) (hs:List FuncId):Code->Option AC
 | .skip=>some .skip
 | .label _=>some .skip
 | .region _ ops draw =>
  (match xm P hs ops ops.toList with
   | some as_=>if draw then (if wx P ops as_ then some (.draw as_) else if xf P ops as_ then some (.drawx (yl ops as_)) else if setsOk P ops then some (.drawq as_ (drawqOk P ops as_) (ops.toList.map ZF) (eagers as_ (ops.toList.map ZF))) else some badC) else some (.region as_)
   | none=>none)
 | .seq a b=>(match ZN P hs a,ZN P hs b with|some x,some y=>some (.seq x y)|_,_=>none)
 | .cond c t e=>(match cx P 0 c,ZN P hs t,ZN P hs e with|some c,some x,some y=>some (.cond c x y)|_,_,_=>none)
 | .block id c=>(match ZN P hs c with|some x=>some (.block id x)|none=>none)
 | .loop c=>(match ZN P hs c with|some x=>some (.loop x)|none=>none)
 | .scope c=>(match ZN P hs c with|some x=>some (.scope x)|none=>none)
 | .exit id=>some (.exit id)
 | .ret=>some .ret
 | .refuse _=>some badC
 | .goto _=>some badC
 | _=>none
theorem W_bad {P:Program} {G:Nat->AV} {Q:EX->St->Prop} {st:St} (h:W P G badC Q st):False:=by
 have h:yS P G (AX.ev G st.s) st.H .bad (fun r H'=>Q .n (st.put none r H')):=h
 unfold yS at h
 simp only [eff] at h
def EX.out:EX->Exit
 | .n=>.normal
 | .x id=>.exit id
 | .r=>.ret
section
variable {P:Program} {G:Nat->AV} {hs:List FuncId} {B:Bd} {w0:World} {F0 F1:Fz} {O1:Ow}
theorem loop_rounds {c : Code} {ac : AC} (ih : ∀ (Q : EX -> St -> Prop) (Q' : Exit -> Act -> World -> Prop) (st : St) (a : Act) (w : World) (F : Fz) (O : Ow), W P G ac Q st -> Rl G B w0 F0 F1 O1 F O st a w -> (∀ e st' a' w' F' O', Q e st' -> Rl G B w0 F0 F1 O1 F' O' st' a' w' -> Q' e.out a' w') -> c.wp P Q' a w)
  {Q:EX->St->Prop} {Q':Exit->Act->World->Prop} (hQ:∀ e st' a' w' F' O',Q e st'->Rl G B w0 F0 F1 O1 F' O' st' a' w'->Q' e.out a' w') :
  ∀ (n:Nat) (st:St) (a:Act) (w:World) (F:Fz) (O:Ow),wj (W P G ac) Q n st->Rl G B w0 F0 F1 O1 F O st a w->Code.rounds P c Q' n a w
 | 0,_,_,_,_,_,h,_=>h.elim
 | n+1,st,a,w,F,O,h,hr=>by
  rw [rounds_succ]
  refine ih _ _ st a w F O h hr fun e st' a' w' F' O' he hr'=>?_
  cases e with
  | n=>exact loop_rounds ih hQ n st' a' w' F' O' he hr'
  | x id=>exact hQ (.x id) st' a' w' F' O' he hr'
  | r=>exact hQ .r st' a' w' F' O' he hr'
theorem W_ok : ∀ (c : Code) (ac : AC), ZN P hs c = some ac -> ∀ (Q : EX -> St -> Prop) (Q' : Exit -> Act -> World -> Prop) (st : St) (a : Act) (w : World) (F : Fz) (O : Ow), W P G ac Q st -> Rl G B w0 F0 F1 O1 F O st a w ->
  (∀ e st' a' w' F' O',Q e st'->Rl G B w0 F0 F1 O1 F' O' st' a' w'->Q' e.out a' w')->c.wp P Q' a w:=by
 intro c
 induction c with
 | skip=>intro ac hc Q Q' st a w F O h hr hQ;cases hc;exact wp_skip (hQ .n st a w F O h hr)
 | label l=>intro ac hc Q Q' st a w F O h hr hQ;cases hc;exact wp_label (hQ .n st a w F O h hr)
 | region id ops draw =>
  intro ac hc Q Q' st a w F O h hr hQ
  simp only [ZN] at hc
  split at hc
  ·rename_i as_ has
   cases draw with
   | false =>
    cases hc
    exact region_text has (k:=Q .n) (fun st' a' w' F' O' hk hr'=>hQ .n st' a' w' F' O' hk hr') h hr
   | true =>
    simp only [if_true] at hc
    split at hc
    ·rename_i hd
     cases hc
     exact yT has (k:=Q .n) (fun st' a' w' F' O' hk hr'=>hQ .n st' a' w' F' O' hk hr') (YZ (ZP has).1 hd h) hr
    ·split at hc
     ·rename_i hd
      cases hc
      exact yT has (k:=Q .n) (fun st' a' w' F' O' hk hr'=>hQ .n st' a' w' F' O' hk hr') (drawx_orders (ZP has).1 hd h) hr
     ·split at hc
      ·cases hc;exact h.elim
      ·cases hc;exact (W_bad h).elim
  ·cases hc
 | seq x y ihx ihy =>
  intro ac hc Q Q' st a w F O h hr hQ
  simp only [ZN] at hc
  split at hc
  ·rename_i p q hp hq
   cases hc
   refine wp_seq (ihx p hp _ _ st a w F O h hr fun e st' a' w' F' O' he hr'=>?_)
   cases e with
   | n=>exact ihy q hq Q Q' st' a' w' F' O' he hr' hQ
   | x id=>exact hQ (.x id) st' a' w' F' O' he hr'
   | r=>exact hQ .r st' a' w' F' O' he hr'
  ·cases hc
 | cond c x y ihx ihy =>
  intro ac hc Q Q' st a w F O h hr hQ
  simp only [ZN] at hc
  split at hc
  ·rename_i p q r hp hq hr'
   cases hc
   have ho:=hr.operand 0 c p hp
   simp only [W] at h
   split at h
   ·rename_i b hb
    rw [hb] at ho
    have ho:=ho.pvC rfl
    have e:a.eval c = .bool b:=by generalize a.eval c=q at ho;cases ho;rfl
    cases b
    ·rw [if_neg (by simp)] at h
     exact wp_cond_false e (ihy r hr' Q Q' st a w F O h hr hQ)
    ·rw [if_pos rfl] at h
     exact wp_cond_true e (ihx q hq Q Q' st a w F O h hr hQ)
   ·exact h.elim
  ·cases hc
 | block id c ih =>
  intro ac hc Q Q' st a w F O h hr hQ
  simp only [ZN] at hc
  split at hc
  ·rename_i p hp
   cases hc
   refine wp_block (ih p hp _ _ st a w F O h hr fun e st' a' w' F' O' he hr'=>?_)
   cases e with
   | n=>exact hQ .n st' a' w' F' O' he hr'
   | x id' =>
    simp only [yw] at he
    show (if id'=id then Q' .normal a' w' else Q' (.exit id') a' w')
    by_cases hid:id'=id
    ·rw [if_pos hid] at he ⊢;exact hQ .n st' a' w' F' O' he hr'
    ·rw [if_neg hid] at he ⊢;exact hQ (.x id') st' a' w' F' O' he hr'
   | r=>exact hQ .r st' a' w' F' O' he hr'
  ·cases hc
 | loop c ih =>
  intro ac hc Q Q' st a w F O h hr hQ
  simp only [ZN] at hc
  split at hc
  ·rename_i p hp
   cases hc
   obtain ⟨n,hn⟩:=h
   exact wp_loop_rounds n (loop_rounds (ih p hp) hQ n st a w F O hn hr)
  ·cases hc
 | scope c ih =>
  intro ac hc Q Q' st a w F O h hr hQ
  simp only [ZN] at hc
  split at hc
  ·rename_i p hp
   cases hc
   refine wp_scope_straight (ih p hp Q _ st a w F O h hr fun e st' a' w' F' O' he hr'=>?_)
   have:=hQ e st' a' w' F' O' he hr'
   cases e<;>exact this
  ·cases hc
 | exit id=>intro ac hc Q Q' st a w F O h hr hQ;cases hc;exact wp_exit (hQ (.x id) st a w F O h hr)
 | ret=>intro ac hc Q Q' st a w F O h hr hQ;cases hc;exact wp_ret (hQ .r st a w F O h hr)
 | rangeFunc=>intro ac hc;cases hc
 | goto=>intro ac hc Q Q' st a w F O h;cases hc;exact (W_bad h).elim
 | refuse=>intro ac hc Q Q' st a w F O h;cases hc;exact (W_bad h).elim
end
abbrev RS:=Nat × Option (Bool × Nat)
def Y1 (P:Program):List ResultVar->Option (List RS)
 | []=>some []
 | .tmp t::rs=>(match Y1 P rs with|some ts=>some ((t,none)::ts)|none=>none)
 | .cell a t::rs=>(match P.info? t,P.underlying t,Y1 P rs with|some i,some d,some ts=>some ((a,some (ZW d,i.size))::ts)|_,_,_=>none)
def z6 (st:St):List RS->Option (List AV)
 | []=>some []
 | (t,none)::rs=>(match z6 st rs with|some vs=>some (st.s.getD t zd::vs)|none=>none)
 | (t,some (g,n))::rs=>(match zr st.H g n (st.s.getD t zd),z6 st rs with|some v,some vs=>some (v::vs)|_,_=>none)
structure AF where
 n:Nat
 res:List RS
 body:AC
def zI (P:Program) (hs:List FuncId) (f:FuncId):Option AF :=
 match P.funcs[f]? with
 | some fn =>
  match fn.body with
  | some c=>(match Y1 P fn.results.toList,ZN P hs c with|some ts,some ac=>some ⟨fn.ntmps,ts,ac⟩|_,_=>none)
  | none=>none
 | none=>none
def zp:List AV->AV
 | [a]=>a
 | as_=>.tup as_
def St.init (n:Nat) (as_:List AV) (H:Hp):St:=⟨as_++List.replicate (n - as_.length) zd,H⟩
def RetP (ts:List RS) (r:AV) (e:EX) (st:St):Prop :=
 (e = .n\/e = .r)/\∃ vs,z6 st ts=some vs/\∃ rs H',yv st.H vs=some (rs,H')/\zp rs=r
def RetH (ts:List RS) (r:AV) (H':Hp) (e:EX) (st:St):Prop :=
 (e = .n\/e = .r)/\(∃ vs,z6 st ts=some vs/\zp vs=r)/\st.H=H'
theorem asAddr_of {P:Program} {t:TypeId} {x y:Value} {w:World} (h:(Instr.loadAt t x).run P w = .ok y w):(do loadVar t (<- asAddr x):Sem Value).run P w = .ok y w:=by
 unfold Instr.loadAt at h
 cases x with
 | pointer p=>cases p with
  | some a=>exact h
  | none=>exact absurd h (by simp [Instr.sureAddr,stuck])
 | _=>exact absurd h (by simp [Instr.sureAddr,stuck])
theorem WE {P : Program} {G : Nat -> AV} {B : Bd} {w0 : World} {F0 F1 : Fz} {O1 : Ow} {F : Fz} {O : Ow} {st : St} {a : Act} {w : World} (h : Rl G B w0 F0 F1 O1 F O st a w)
  (g:ResultVar->Sem Value) (h1:∀ t,g (.tmp t)=pure (a.tmps.getD t undef)) (h2:∀ x t,g (.cell x t)=(do loadVar t (<- asAddr (a.tmps.getD x undef)))) :
  ∀ (rs:List ResultVar) (ts:List RS) (vs:List AV),Y1 P rs=some ts->z6 st ts=some vs ->
   ∃ xs,(rs.mapM g).run P w = .ok xs w/\xs.length=vs.length/\∀ (i:Nat) (c:Value) (u:AV),xs[i]? = some c->vs[i]? = some u->VR F O c u
 | [],ts,vs,hc,hv=>by
  cases hc;cases hv
  exact ⟨[],rfl,rfl,fun i c u hc=>by simp at hc⟩
 | .tmp t::rs,ts,vs,hc,hv=>by
  simp only [Y1] at hc
  split at hc
  ·rename_i ts' h'
   cases hc
   simp only [z6] at hv
   split at hv
   ·rename_i vs' hv'
    cases hv
    obtain ⟨xs,e1,e2,e3⟩:=WE h g h1 h2 rs ts' vs' h' hv'
    refine ⟨a.tmps.getD t undef::xs,?_,by simp [e2],fun i c u hc hu=>?_⟩
    ·rw [List.mapM_cons, h1]
     simp only [Sem.run_bind,Sem.run_pure,Result.andThen_ok,e1]
    ·cases i with
     | zero=>cases hc;cases hu;exact h.slot t
     | succ i=>exact e3 i c u hc hu
   ·cases hv
  ·cases hc
 | .cell x t::rs,ts,vs,hc,hv=>by
  simp only [Y1] at hc
  split at hc
  ·rename_i inf d ts' hi hd h'
   cases hc
   simp only [z6] at hv
   split at hv
   ·rename_i v vs' hl hv'
    cases hv
    obtain ⟨xs,e1,e2,e3⟩:=WE h g h1 h2 rs ts' vs' h' hv'
    obtain ⟨y,y1,y2⟩:=load_run h.own (h.slot x) hi hd hl
    refine ⟨y::xs,?_,by simp [e2],fun i c u hc hu=>?_⟩
    ·rw [List.mapM_cons, h2, Sem.run_bind, asAddr_of y1]
     simp only [Sem.run_bind,Sem.run_pure,Result.andThen_ok,e1]
    ·cases i with
     | zero=>cases hc;cases hu;exact y2
     | succ i=>exact e3 i c u hc hu
   ·cases hv
  ·cases hc
theorem yb {P : Program} {fn : Func} {ts : List RS} {vs : List AV} {G : Nat -> AV} {B : Bd} {w0 : World} {F0 F1 : Fz} {O1 : Ow} {F : Fz} {O : Ow} {st : St} {a : Act} {w : World} (hr : Rl G B w0 F0 F1 O1 F O st a w) (h : Y1 P fn.results.toList = some ts) (hv : z6 st ts = some vs) :
  ∃ xs:List Value,(results fn a.tmps).run P w = .ok (if h:xs.length=1 then xs[0] else .tuple xs.toArray) w/\xs.length=vs.length/\∀ (i:Nat) (c:Value) (u:AV),xs[i]? = some c->vs[i]? = some u->VR F O c u:=by
 unfold results
 rw [Array.mapM_eq_mapM_toList]
 obtain ⟨xs,e1,e2,e3⟩:=WE (P:=P) hr (fun|.tmp t=>pure (a.tmps.getD t undef)|.cell x t=>do loadVar t (<- asAddr (a.tmps.getD x undef))) (fun t=>rfl) (fun x t=>rfl) fn.results.toList ts vs h hv
 refine ⟨xs,?_,e2,e3⟩
 simp only [Sem.run_bind,bind_pure_comp,Sem.run_map]
 refine (congrArg (fun r=>(Result.andThen r (fun (a:List Value) w'=>Result.ok a.toArray w')).andThen fun (a:Array Value) w'=>Result.ok (if h:a.size=1 then a[0] else Value.tuple a) w') e1).trans ?_
 simp only [Result.andThen_ok]
 by_cases hl:xs.length=1
 ·simp [hl]
 ·simp [hl]
section
variable {P:Program} {G:Nat->AV} {hs:List FuncId}
theorem xL {F : Fz} {xs : List Value} {rs : List AV} (hl : xs.length = rs.length) (hp : ∀ (i : Nat) (c : Value) (a : AV), xs[i]? = some c -> rs[i]? = some a -> PV F c a) :
  PV F (if h:xs.length=1 then xs[0] else .tuple xs.toArray) (zp rs):=by
 by_cases h1:xs.length=1
 ·rw [dif_pos h1]
  match xs,rs,hl,h1 with
  | [x],[a],_,_=>exact hp 0 x a rfl rfl
 ·rw [dif_neg h1]
  have:zp rs = .tup rs:=by
   match rs with
   | []=>rfl
   | [_]=>simp at hl;omega
   | _::_::_=>rfl
  rw [this]
  exact .tup xs rs hl hp
theorem resOf_vr {F : Fz} {O : Ow} {xs : List Value} {rs : List AV} (hl : xs.length = rs.length) (hp : ∀ (i : Nat) (c : Value) (a : AV), xs[i]? = some c -> rs[i]? = some a -> VR F O c a) :
  VR F O (if h:xs.length=1 then xs[0] else .tuple xs.toArray) (zp rs):=by
 by_cases h1:xs.length=1
 ·rw [dif_pos h1]
  match xs,rs,hl,h1 with
  | [x],[a],_,_=>exact hp 0 x a rfl rfl
 ·rw [dif_neg h1]
  have:zp rs = .tup rs:=by
   match rs with
   | []=>rfl
   | [_]=>simp at hl;omega
   | _::_::_=>rfl
  rw [this]
  exact .tup xs rs hl hp
theorem xe {B : Bd} {w0 : World} {F0 F : Fz} {O : Ow} {H : Hp} {w : World} (h : Own B w0 F0 F O H w) (hg : GOK G F) {n : Nat} {xs : List Value} {as_ : List AV} (hl : xs.length = as_.length) (hv : ∀ (i : Nat) (c : Value) (a : AV), xs[i]? = some c -> as_[i]? = some a -> VR F O c a) (hB : B.ds = [] := by rfl) :
  Rl G B w0 F0 F O F O (St.init n as_ H) { tmps:=xs.toArray++Array.replicate (n - xs.toArray.size) undef,defers:=[] } w:=by
 refine ⟨h,by simp [St.init,hl],fun t=>?_,hB.symm,hg,Fz.le_refl F,Ow.le_refl O⟩
 simp only [St.init,Array.getD_eq_getD_getElem?,List.getD_eq_getElem?_getD]
 by_cases ht:t < as_.length
 ·rw [Array.getElem?_append_left (by simpa [hl] using ht), List.getElem?_append_left ht]
  have h1:xs[t]? = some (xs[t]'(by omega)):=List.getElem?_eq_getElem (by omega)
  have h2:as_[t]? = some as_[t]:=List.getElem?_eq_getElem ht
  have:=hv t _ _ h1 h2
  simpa [h1,h2] using this
 ·rw [Array.getElem?_append_right (by simp; omega), List.getElem?_append_right (by omega)]
  by_cases ht2:t - as_.length < n - as_.length
  ·simp [hl,ht2,yE]
  ·simp [hl,ht2,yE]
theorem xk {f:FuncId} {af:AF} (hf:zI P hs f=some af) {as_:List AV} {r:AV} (h:W P G af.body (RetP af.res r) (St.init af.n as_ [])):PC P G f as_ r:=by
 unfold zI at hf
 split at hf
 ·rename_i fn hfn
  split at hf
  ·rename_i c hc
   split at hf
   ·rename_i ts ac hts hac
    cases hf
    intro w F xs hfr hg hl hv
    have hown:Own (Bd.of w.heap.size) w F F [] [] w:=⟨rfl,fun i d ob hd=>by simp at hd,fun i j d d' hd=>by simp at hd,hfr,Fz.le_refl F,fun b o v hv=>.inl hv,Below.refl _ _,Nat.le_refl _,fun _ h=>h.elim,fun _ h=>h.elim⟩
    refine calls_of_wp hfn hc (W_ok c ac hac _ _ _ _ _ F [] h (xe hown hg hl fun i c a hc ha=>.p (hv i c a hc ha)) fun e st' a' w' F' O' he hr=>?_)
    obtain ⟨hex,vs,hvs,rs,H',hp,hrs⟩:=he
    obtain ⟨ys,y1,y2,y3⟩:=yb hr hts hvs
    obtain ⟨F2,p1,p2,o2,l2⟩:=Y5 hr.own y2 y3 hp
    have key:a'.defers=[]/\∃ v,(results fn a'.tmps).run P w' = .ok v w'/\∃ v1 F',(Ending.returned v) = .returned v1/\PV F' v1 r/\F.le F'/\(∀ b o v,F' b o=some v->w'.cell? ⟨b,o,none⟩=some v)/\(∀ b o v,F' b o=some v->F b o=some v\/w.heap.size<=b)/\Below w.heap.size w w':=by
     refine ⟨hr.defs,_,y1,_,F2,rfl,?_,Fz.le_trans hr.leF l2,o2.fr,fun b o v hv=>(o2.new b o v hv).imp id (·.1),o2.below⟩
     rw [<- hrs]
     exact xL (by omega) p1
    rcases hex with rfl|rfl<;>exact key
   ·cases hf
  ·cases hf
 ·cases hf
theorem Yw {f:FuncId} {af:AF} (hf:zI P hs f=some af) {as_:List AV} {H:Hp} {r:AV} {H':Hp} (h:W P G af.body (RetH af.res r H') (St.init af.n as_ H)):HC P G f as_ H r H':=by
 unfold zI at hf
 split at hf
 ·rename_i fn hfn
  split at hf
  ·rename_i c hc
   split at hf
   ·rename_i ts ac hts hac
    cases hf
    intro B w0 F0 F O w xs hown0 hg hl hv
    have hown:=hown0.ds []
    refine calls_of_wp hfn hc (W_ok c ac hac _ _ _ _ _ F O h (xe hown hg hl hv) fun e st' a' w' F' O' he hr=>?_)
    obtain ⟨hex,⟨vs,hvs,hrs⟩,hH⟩:=he
    obtain ⟨ys,y1,y2,y3⟩:=yb hr hts hvs
    have key:a'.defers=[]/\∃ v,(results fn a'.tmps).run P w' = .ok v w'/\∃ v1,(Ending.returned v) = .returned v1/\Out B w0 F0 F O r H' v1 w':=by
     refine ⟨hr.defs,_,y1,_,rfl,F',O',?_,by rw [<- hH];exact hr.own.ds B.ds,hr.leF,hr.leO⟩
     rw [<- hrs]
     exact resOf_vr y2 y3
    rcases hex with rfl|rfl<;>exact key
   ·cases hf
  ·cases hf
 ·cases hf
end
section
variable {P:Program} {G:Nat->AV} {Q:EX->St->Prop} {k:St->Prop} {st st':St}
def zw (P:Program) (G:Nat->AV) (o:AI) (st:St):Option St :=
 match o.guard with
 | none=>(match eff P (AX.ev G st.s) st.H o.op with|some (r,H')=>some (st.put o.dst r H')|none=>none)
 | some (t,want) =>
  match st.s.getD t zd with
  | .v (.bool b)=>if b=want then (match eff P (AX.ev G st.s) st.H o.op with|some (r,H')=>some (st.put o.dst r H')|none=>none) else some (st.put o.dst zd st.H)
  | .tup []=>some (st.put o.dst zd st.H)
  | _=>none
theorem xh {ev:AX->AV} {H:Hp} {op:AOp} {k:AV->Hp->Prop} {r:AV} {H':Hp} (h:eff P ev H op=some (r,H')) (hk:k r H'):yS P G ev H op k:=by
 cases op with
 | call f xs=>cases h
 | callh f xs=>cases h
 | callm f xs=>cases h
 | callv x xs=>cases h
 | calli nm x xs=>cases h
 | _=>simp only [yS];rw [h];exact hk
theorem AWi_of {o:AI} (h:zw P G o st=some st') (hk:k st'):AWi P G o st k:=by
 unfold zw at h
 unfold AWi
 split at h
 ·rename_i hg
  try rw [hg]
  split at h
  ·rename_i r H' he;cases h;exact xh he hk
  ·cases h
 ·rename_i t want hg
  try rw [hg]
  try simp only
  split at h
  ·rename_i b hb
   try rw [hb]
   try simp only
   split at h
   ·rename_i hbw
    try rw [if_pos hbw]
    split at h
    ·rename_i r H' he;cases h;exact xh he hk
    ·cases h
   ·rename_i hbw
    try rw [if_neg hbw]
    cases h;exact hk
  ·rename_i hb
   try rw [hb]
   cases h;exact hk
  ·cases h
theorem ws {o:AI} {os:List AI} (h:zw P G o st=some st') (hk:AWs P G os k st'):AWs P G (o::os) k st:=AWi_of h hk
theorem wd {o:AI} {os:List AI} {base:Nat} (hc:chk G base o st) (h:zw P G o st=some st') (hk:AWd P G base os k st'):AWd P G base (o::os) k st:=⟨hc,AWi_of h hk⟩
theorem ws_call {d:Option Nat} {f:FuncId} {xs:List AX} {os:List AI} {as_ as':List AV} {H1:Hp} {r:AV} (h0:xs.map (AX.ev G st.s)=as_) (h1:yv st.H as_=some (as',H1)) (h2:PC P G f as' r) (hk:AWs P G os k (st.put d r H1)):AWs P G (⟨d,.call f xs,none⟩::os) k st:=⟨as',H1,r,by rw [h0];exact h1,h2,hk⟩
theorem wd_call {d:Option Nat} {f:FuncId} {xs:List AX} {os:List AI} {base:Nat} {as_ as':List AV} {H1:Hp} {r:AV} (hc:chk G base ⟨d,.call f xs,none⟩ st) (h0:xs.map (AX.ev G st.s)=as_) (h1:yv st.H as_=some (as',H1)) (h2:PC P G f as' r) (hk:AWd P G base os k (st.put d r H1)):AWd P G base (⟨d,.call f xs,none⟩::os) k st:=⟨hc,as',H1,r,by rw [h0];exact h1,h2,hk⟩
theorem ws_callh {d:Option Nat} {f:FuncId} {xs:List AX} {os:List AI} {as_:List AV} {H1:Hp} {r:AV} (h0:xs.map (AX.ev G st.s)=as_) (h2:HC P G f as_ st.H r H1) (hk:AWs P G os k (st.put d r H1)):AWs P G (⟨d,.callh f xs,none⟩::os) k st:=⟨r,H1,by rw [h0];exact h2,hk⟩
theorem zG (h:k st):AWs P G [] k st:=h
theorem ZV {base:Nat} (h:k st):AWd P G base [] k st:=h
theorem Zj {ops:List AI} (h:AWs P G ops (Q .n) st):W P G (.region ops) Q st:=h
theorem Z5 {ops:List AI} (h:AWd P G st.H.length ops (Q .n) st):W P G (.draw ops) Q st:=h
theorem Zn {a b:AC} (h:W P G a (yg (W P G b Q) Q) st):W P G (.seq a b) Q st:=h
theorem Zl {id:Nat} {c:AC} (h:W P G c (yw id Q) st):W P G (.block id c) Q st:=h
theorem ZB (h:Q .n st):W P G .skip Q st:=h
theorem ZY {id:Nat} (h:Q (.x id) st):W P G (.exit id) Q st:=h
theorem yD (h:Q .r st):W P G .ret Q st:=h
theorem zH (h:k st):yg k Q .n st:=h
theorem ZC {id:Nat} (h:Q (.x id) st):yg k Q (.x id) st:=h
theorem y6 (h:Q .r st):yg k Q .r st:=h
theorem Zk {id:Nat} (h:Q .n st):yw id Q .n st:=h
theorem Zu {id:Nat} (h:Q .n st):yw id Q (.x id) st:=by
 show (if id=id then Q .n st else Q (.x id) st)
 rw [if_pos rfl];exact h
theorem ks {o:AI} {os:List AI} (h:∀ K:St->Prop,(∀ s,AWs P G os k s->K s)->(match zw P G o st with|some s=>K s|none=>False)):AWs P G (o::os) k st:=by
 have:=h (AWs P G os k) (fun _ h=>h)
 cases hs:zw P G o st with
 | none=>rw [hs] at this;exact this.elim
 | some s=>rw [hs] at this;exact ws hs this
def Zq (G:Nat->AV) (base:Nat) (o:AI) (st:St):Bool:=o.op.cls == 0 || (decide (base<=st.H.length) && (o.op.cls == 3 || o.op.cls == 4 || (if o.op.cls == 5 then geB base ((o.op.xs.headD (.c .unk)).ev G st.s) else o.op.xs.all fun x=>ltB base (x.ev G st.s))))
theorem yW {base:Nat} {o:AI} (h:Zq G base o st=true):chk G base o st:=by
 simp only [Zq,Bool.or_eq_true,beq_iff_eq,Bool.and_eq_true,decide_eq_true_eq] at h
 rcases h with h|⟨h1,h2⟩
 ·exact .inl h
 ·refine .inr ⟨h1,fun hc=>?_,fun hc=>?_⟩
  ·rcases h2 with (h2 | h2) | h2
   ·omega
   ·omega
   ·rw [if_neg (by omega)] at h2;exact h2
  ·rcases h2 with (h2 | h2) | h2
   ·omega
   ·omega
   ·rw [if_pos hc] at h2;exact h2
theorem kd {o:AI} {os:List AI} {base:Nat} (h:∀ K:St->Prop,(∀ s,AWd P G base os k s->K s)->(Zq G base o st=true/\match zw P G o st with|some s=>K s|none=>False)):AWd P G base (o::os) k st:=by
 obtain ⟨hc,this⟩:=h (AWd P G base os k) (fun _ h=>h)
 cases hs:zw P G o st with
 | none=>rw [hs] at this;exact this.elim
 | some s=>rw [hs] at this;exact wd (yW hc) hs this
theorem kc {c:AX} {t e:AC} (h:∀ K1 K2:Prop,(W P G t Q st->K1)->(W P G e Q st->K2)->(match c.ev G st.s with|.v (.bool b)=>if b=true then K1 else K2|_=>False)):W P G (.cond c t e) Q st:=by
 have:=h _ _ (fun h=>h) (fun h=>h)
 simp only [W]
 exact this
theorem khs (f:FuncId) (r:AV) (H1:Hp) {d:Option Nat} {xs:List AX} {os:List AI} (h1:HC P G f (xs.map (AX.ev G st.s)) st.H r H1) (h2:AWs P G os k (st.put d r H1)):AWs P G (⟨d,.callh f xs,none⟩::os) k st:=ws_callh rfl h1 h2
theorem kps (f:FuncId) (r:AV) {d:Option Nat} {xs:List AX} {os:List AI} (h0:(xs.map (AX.ev G st.s)).all AV.isP=true) (h1:PC P G f (xs.map (AX.ev G st.s)) r) (h2:AWs P G os k (st.put d r st.H)):AWs P G (⟨d,.call f xs,none⟩::os) k st:=ws_call rfl (wa h0) h1 h2
theorem kpd (f:FuncId) (r:AV) {d:Option Nat} {xs:List AX} {os:List AI} {base:Nat} (hc:Zq G base ⟨d,.call f xs,none⟩ st=true) (h0:(xs.map (AX.ev G st.s)).all AV.isP=true) (h1:PC P G f (xs.map (AX.ev G st.s)) r) (h2:AWd P G base os k (st.put d r st.H)):AWd P G base (⟨d,.call f xs,none⟩::os) k st:=wd_call (yW hc) rfl (wa h0) h1 h2
theorem kgs_t {d:Option Nat} {op:AOp} {t:Nat} {want:Bool} {os:List AI} (hb:st.s.getD t zd = .v (.bool want)) (h:AWs P G (⟨d,op,none⟩::os) k st):AWs P G (⟨d,op,some (t,want)⟩::os) k st:=by
 simp only [AWs,AWi] at h ⊢
 simp only [hb,if_true]
 exact h
theorem kgs_f {d:Option Nat} {op:AOp} {t:Nat} {want:Bool} {os:List AI} (hb:st.s.getD t zd = .v (.bool (!want))) (h:AWs P G os k (st.put d zd st.H)):AWs P G (⟨d,op,some (t,want)⟩::os) k st:=by
 simp only [AWs,AWi]
 rw [hb]
 cases want<;>simpa using h
theorem wU {d:Option Nat} {op:AOp} {t:Nat} {want:Bool} {os:List AI} {base:Nat} (hb:st.s.getD t zd = .v (.bool want)) (h:AWd P G base (⟨d,op,none⟩::os) k st):AWd P G base (⟨d,op,some (t,want)⟩::os) k st:=by
 refine ⟨h.1,?_⟩
 have h2:=h.2
 simp only [AWi] at h2 ⊢
 simp only [hb,if_true]
 exact h2
theorem kgd_f {d:Option Nat} {op:AOp} {t:Nat} {want:Bool} {os:List AI} {base:Nat} (hc:Zq G base ⟨d,op,none⟩ st=true) (hb:st.s.getD t zd = .v (.bool (!want))) (h:AWd P G base os k (st.put d zd st.H)):AWd P G base (⟨d,op,some (t,want)⟩::os) k st:=by
 refine ⟨yW hc,?_⟩
 simp only [AWi]
 rw [hb]
 cases want<;>simpa using h
theorem kgd_u {d:Option Nat} {op:AOp} {t:Nat} {want:Bool} {os:List AI} {base:Nat} (hc:Zq G base ⟨d,op,none⟩ st=true) (hb:st.s.getD t zd=zd) (h:AWd P G base os k (st.put d zd st.H)):AWd P G base (⟨d,op,some (t,want)⟩::os) k st:=by
 refine ⟨yW hc,?_⟩
 simp only [AWi]
 rw [hb]
 exact h
theorem XC {ts:List RS} {r:AV} (h:∀ K:Option (List AV)->Prop,(∀ vs,r=zp vs->K (some vs))->K (z6 st ts)):RetH ts r st.H .r st :=
 ⟨.inr rfl,h (fun o=>∃ vs,o=some vs/\zp vs=r) (fun vs hv=>⟨vs,rfl,hv.symm⟩),rfl⟩
theorem XA:∀ (c:AC) {Q Q':EX->St->Prop} {st:St},(∀ e st,Q e st->Q' e st)->W P G c Q st->W P G c Q' st:=by
 have ops:∀ (os:List AI) {k k':St->Prop} {st:St},(∀ st,k st->k' st)->AWs P G os k st->AWs P G os k' st:=by
  intro os
  induction os with
  | nil=>intro k k' st h hh;exact h _ hh
  | cons o os ih =>
   intro k k' st h hh
   obtain ⟨s1,h1,h2⟩:=AWi_iff.1 hh
   exact AWi_iff.2 ⟨s1,h1,ih h h2⟩
 have opd:∀ (base:Nat) (os:List AI) {k k':St->Prop} {st:St},(∀ st,k st->k' st)->AWd P G base os k st->AWd P G base os k' st:=by
  intro base os
  induction os with
  | nil=>intro k k' st h hh;exact h _ hh
  | cons o os ih =>
   intro k k' st h hh
   obtain ⟨s1,h1,h2⟩:=AWi_iff.1 hh.2
   exact ⟨hh.1,AWi_iff.2 ⟨s1,h1,ih h h2⟩⟩
 intro c
 induction c with
 | rng=>intro Q Q' st h hh;exact hh.elim
 | drawq=>intro Q Q' st h hh;exact hh.elim
 | skip=>intro Q Q' st h hh;exact h _ _ hh
 | region os=>intro Q Q' st h hh;exact ops os (fun st=>h .n st) hh
 | draw os=>intro Q Q' st h hh;exact opd _ os (fun st=>h .n st) hh
 | drawx reps=>intro Q Q' st h hh R hR;exact opd _ R (fun st=>h .n st) (hh R hR)
 | seq a b iha ihb =>
  intro Q Q' st h hh
  refine iha (fun e st he=>?_) hh
  cases e with
  | n=>exact ihb h he
  | x id=>exact h _ _ he
  | r=>exact h _ _ he
 | cond c t e iht ihe =>
  intro Q Q' st h hh
  simp only [W] at hh ⊢
  split at hh
  ·rename_i b hb
   split at hh
   ·rename_i hbt;rw [if_pos hbt];exact iht h hh
   ·rename_i hbt;rw [if_neg hbt];exact ihe h hh
  ·exact hh.elim
 | block id c ih =>
  intro Q Q' st h hh
  refine ih (fun e st he=>?_) hh
  cases e with
  | n=>exact h _ _ he
  | x id' =>
   simp only [yw] at he ⊢
   split at he
   ·rename_i e;rw [if_pos e];exact h _ _ he
   ·rename_i e;rw [if_neg e];exact h _ _ he
  | r=>exact h _ _ he
 | loop c ih =>
  intro Q Q' st h hh
  obtain ⟨n,hn⟩:=hh
  refine ⟨n,?_⟩
  induction n generalizing st with
  | zero=>exact hn.elim
  | succ n ihn =>
   refine ih (fun e st he=>?_) hn
   cases e with
   | n=>exact ihn he
   | x id=>exact h _ _ he
   | r=>exact h _ _ he
 | scope c ih=>intro Q Q' st h hh;exact ih h hh
 | exit id=>intro Q Q' st h hh;exact h _ _ hh
 | ret=>intro Q Q' st h hh;exact h _ _ hh
theorem w_loop {c:AC} (I:Nat->St->Prop) (m:Nat) (h0:I m st) (round:∀ m st,I m st->W P G c (yg (fun st'=>∃ m',m' < m/\I m' st') Q) st):W P G (.loop c) Q st:=by
 have key:∀ n m st,m < n->I m st->wj (W P G c) Q n st:=by
  intro n
  induction n with
  | zero=>intro m st h;omega
  | succ n ih =>
   intro m st h hI
   refine XA c (fun e st' he=>?_) (round m st hI)
   cases e with
   | n=>obtain ⟨m',hm,hI'⟩:=he;exact ih m' st' (by omega) hI'
   | x id=>exact he
   | r=>exact he
 exact ⟨m+1,key (m+1) m st (Nat.lt_succ_self m) h0⟩
end
theorem ZQ:maxLen=9223372036854775807:=by decide
abbrev I (n:Int):AV:=.v (.int .i64 n)
abbrev Bo (b:Bool):AV:=.v (.bool b)
abbrev S (s:ByteArray):AV:=.v (.string s)
section
variable {P:Program} {t:TypeId} {xo yo:Operand} {a b:Int}
theorem bV_add:ZX P .add t xo yo (.int .i64 a) (.int .i64 b)=some (.int .i64 (IntKind.i64.wrap (a+b))):=rfl
theorem bV_sub:ZX P .sub t xo yo (.int .i64 a) (.int .i64 b)=some (.int .i64 (IntKind.i64.wrap (a - b))):=rfl
theorem bV_mul:ZX P .mul t xo yo (.int .i64 a) (.int .i64 b)=some (.int .i64 (IntKind.i64.wrap (a * b))):=rfl
theorem bV_eq:ZX P .eql t xo yo (.int .i64 a) (.int .i64 b)=some (.bool (decide (a=b))):=by
 have:(a == b)=decide (a=b):=by by_cases h:a=b<;>simp [h]
 rw [<- this];rfl
theorem bV_ne:ZX P .neq t xo yo (.int .i64 a) (.int .i64 b)=some (.bool (decide (a ≠ b))):=by
 have:(a != b)=decide (a ≠ b):=by by_cases h:a=b<;>simp [h]
 rw [<- this];rfl
theorem bV_lt:ZX P .lss t xo yo (.int .i64 a) (.int .i64 b)=some (.bool (decide (a < b))):=rfl
theorem bV_le:ZX P .leq t xo yo (.int .i64 a) (.int .i64 b)=some (.bool (decide (a<=b))):=rfl
theorem bV_gt:ZX P .gtr t xo yo (.int .i64 a) (.int .i64 b)=some (.bool (decide (b < a))):=rfl
theorem bV_ge:ZX P .geq t xo yo (.int .i64 a) (.int .i64 b)=some (.bool (decide (b<=a))):=rfl
theorem bV_quo (h:b ≠ 0):ZX P .quo t xo yo (.int .i64 a) (.int .i64 b)=some (.int .i64 (IntKind.i64.wrap (a.tdiv b))):=by
 show zh P (do eqGuard .quo t xo yo (.int .i64 a) (.int .i64 b);Op.intDiv .quo .i64 a b)=_
 unfold Op.intDiv
 rw [if_neg h];rfl
theorem bV_rem (h:b ≠ 0):ZX P .rem t xo yo (.int .i64 a) (.int .i64 b)=some (.int .i64 (a.tmod b)):=by
 show zh P (do eqGuard .rem t xo yo (.int .i64 a) (.int .i64 b);Op.intDiv .rem .i64 a b)=_
 unfold Op.intDiv
 rw [if_neg h];rfl
theorem uV_not {x:Bool}:zh P (Op.unary .not (.bool x))=some (.bool (!x)):=rfl
theorem Wp:zh P (Op.unary .neg (.int .i64 a))=some (.int .i64 (IntKind.i64.wrap (0 - a))):=rfl
theorem XX {x:Int} (h : -9223372036854775808<=x) (h':x<=9223372036854775807):IntKind.i64.wrap x=x:=IntWalk.i64_in x (by omega)
theorem scal_bool {b:Bool}:Yx (.bool b)=true:=rfl
theorem scal_int {k:IntKind} {n:Int}:Yx (.int k n)=true:=rfl
theorem scal_string {s:ByteArray}:Yx (.string s)=true:=rfl
theorem scal_float {k:FloatKind} {n:Nat}:Yx (.float k n)=true:=rfl
theorem scal_ptr0:Yx (.pointer none)=true:=rfl
theorem scal_ptr {a:Addr}:Yx (.pointer (some a))=false:=rfl
theorem scal_map0:Yx (.map none)=true:=rfl
theorem scal_nilFunc:Yx .nilFunc=true:=rfl
theorem scal_nilIface:Yx .nilIface=true:=rfl
theorem scal_agg {cs:Array Value}:Yx (.agg cs)=false:=rfl
theorem scal_tuple {cs:Array Value}:Yx (.tuple cs)=false:=rfl
theorem scal_slice {a:Option Addr} {n c:Nat}:Yx (.slice a n c)=false:=rfl
end
section
variable {P:Program} {G:Nat->AV} {Q:EX->St->Prop} {k:St->Prop} {st st':St}
theorem kvd (f:FuncId) (cs:List AV) (r:AV) (H1:Hp) {d:Option Nat} {x:AX} {xs:List AX} {os:List AI} {base:Nat} (hc:Zq G base ⟨d,.callv x xs,none⟩ st=true) (h0:fnA (x.ev G st.s)=some (f,cs)) (hb:zj P f=true) (h1:HC P G f (xs.map (AX.ev G st.s)++cs) st.H r H1) (h2:AWd P G base os k (st.put d r H1)):AWd P G base (⟨d,.callv x xs,none⟩::os) k st :=
 ⟨yW hc,f,_,r,H1,cvA_of h0,hb,h1,h2⟩
theorem draw_mono {base:Nat} {R:List AI} {k k':St->Prop} (h:∀ s,k s->k' s):∀ {st:St},AWd P G base R k st->AWd P G base R k' st:=by
 induction R with
 | nil=>intro st hh;exact h _ hh
 | cons o os ih =>
  intro st hh
  obtain ⟨s1,h1,h2⟩:=AWi_iff.1 hh.2
  exact ⟨hh.1,AWi_iff.2 ⟨s1,h1,ih h2⟩⟩
theorem draw_to {R:List AI} {st':St} (h1:AWd P G st.H.length R (IsSt st') st) (h:Q .n st'):AWd P G st.H.length R (Q .n) st :=
 draw_mono (fun s hs=>by have e:s=st':=hs;rw [e];exact h) h1
theorem xI {R1 R2:List AI} (st':St) (h1:AWd P G st.H.length R1 (IsSt st') st) (h2:AWd P G st.H.length R2 (IsSt st') st) (h:Q .n st'):W P G (.drawx [R1,R2]) Q st:=fun R hR=>by simp at hR;rcases hR with rfl|rfl<;>exact draw_to (by assumption) h
theorem isSt {s:St}:IsSt s s:=rfl
theorem zS {α β:Type} (s:Sem α) (f:α->Sem β):zh P (s >>= f)=(zh P s).bind fun a=>zh P (f a):=by
 show zh P (s.bind f)=_
 induction s with
 | pure b=>rfl
 | program k ih=>exact ih P
 | mark m k ih=>exact ih
 | _=>rfl
theorem Yp {α:Type} (a:α):zh P (pure a:Sem α)=some a:=rfl
theorem ZK {t:TypeId} {d:TypeDesc} (h:P.underlying t=some d):zh P (underlying t)=some d:=by
 unfold underlying
 rw [zS]
 show ((some P).bind fun a=>zh P (match a.underlying t with|some d=>pure d|none=>stuck "no such type"))=_
 simp only [Option.bind_some,h]
 rfl
theorem eqC_int {k:IntKind} {a b:Int}:eqC .i (.v (.int k a)) (.v (.int k b))=some (decide (a=b)):=by simp [eqC]
theorem eqC_str {a b:ByteArray}:eqC .s (.v (.string a)) (.v (.string b))=some (decide (a=b)):=rfl
theorem eqC_bool {a b:Bool}:eqC .b (.v (.bool a)) (.v (.bool b))=some (a == b):=rfl
theorem eqCs_nil:Z9 [] [] []=some true:=rfl
theorem Xt {c:Kd} {ks:List Kd} {a b:AV} {as_ bs:List AV} {x:Bool} (h:eqC c a b=some x):Z9 (c::ks) (a::as_) (b::bs)=(Z9 ks as_ bs).map (x && ·):=by
 simp only [Z9,h]
 cases Z9 ks as_ bs<;>rfl
theorem eqCs_int {ks:List Kd} {k:IntKind} {a b:Int} {as_ bs:List AV}:Z9 (.i::ks) (.v (.int k a)::as_) (.v (.int k b)::bs)=(Z9 ks as_ bs).map (decide (a=b) && ·):=Xt eqC_int
theorem eqCs_str {ks:List Kd} {a b:ByteArray} {as_ bs:List AV}:Z9 (.s::ks) (.v (.string a)::as_) (.v (.string b)::bs)=(Z9 ks as_ bs).map (decide (a=b) && ·):=Xt eqC_str
theorem eqCs_bool {ks:List Kd} {a b:Bool} {as_ bs:List AV}:Z9 (.b::ks) (.v (.bool a)::as_) (.v (.bool b)::bs)=(Z9 ks as_ bs).map ((a == b) && ·):=Xt eqC_bool
theorem eqsA_t {ks:List Kd} {as_ bs:List AV}:wK false ks (.agg as_) (.agg bs)=(Z9 ks as_ bs).map fun r=>.v (.bool r):=by
 simp only [wK];cases Z9 ks as_ bs<;>rfl
theorem eqsA_f {ks:List Kd} {as_ bs:List AV}:wK true ks (.agg as_) (.agg bs)=(Z9 ks as_ bs).map fun r=>.v (.bool (!r)):=by
 simp only [wK];cases Z9 ks as_ bs<;>rfl
variable {t:TypeId} {xo yo:Operand} {a b:ByteArray}
theorem bV_seq:ZX P .eql t xo yo (.string a) (.string b)=some (.bool (decide (a=b))):=by
 show some (Value.bool (a.toList == b.toList))=_
 rw [y9]
theorem bV_sne:ZX P .neq t xo yo (.string a) (.string b)=some (.bool (decide (a ≠ b))):=by
 show some (Value.bool (!(a.toList == b.toList)))=_
 rw [y9]
 simp
theorem bV_slt:ZX P .lss t xo yo (.string a) (.string b)=some (.bool (Op.bytesLess a.toList b.toList)):=rfl
theorem bV_sgt:ZX P .gtr t xo yo (.string a) (.string b)=some (.bool (!(Op.bytesLess a.toList b.toList || decide (a=b)))):=by
 show some (Value.bool (!(Op.bytesLess a.toList b.toList || a.toList == b.toList)))=_
 rw [y9]
theorem bV_sle:ZX P .leq t xo yo (.string a) (.string b)=some (.bool (Op.bytesLess a.toList b.toList || decide (a=b))):=by
 show some (Value.bool (Op.bytesLess a.toList b.toList || a.toList == b.toList))=_
 rw [y9]
theorem bV_sge:ZX P .geq t xo yo (.string a) (.string b)=some (.bool (!Op.bytesLess a.toList b.toList)):=rfl
theorem bV_sadd (h:a.size+b.size<=9223372036854775807):ZX P .add t xo yo (.string a) (.string b)=some (.string (a++b)):=by
 show zh P (Op.stringOp .add a b)=_
 have:¬ (((a.size+b.size:Nat):Int) > IntKind.i64.max):=by
  have:IntKind.i64.max=9223372036854775807:=by decide
  omega
 simp only [Op.stringOp,this,if_false]
 rfl
theorem bV_bool (hu:P.underlying t=some .bool) {x y:Bool}:ZX P .eql t xo yo (.bool x) (.bool y)=some (.bool (x == y)):=by
 show zh P (do pure (.bool (<- Op.equal t (.bool x) (.bool y))):Sem Value)=_
 rw [zS,show Op.equal t (.bool x) (.bool y)=Op.equalIn (9999+1) t (.bool x) (.bool y) from rfl,Op.equalIn,zS,ZK hu]
 rfl
theorem bV_bne (hu:P.underlying t=some .bool) {x y:Bool}:ZX P .neq t xo yo (.bool x) (.bool y)=some (.bool (!(x == y))):=by
 show zh P (do pure (.bool (!(<- Op.equal t (.bool x) (.bool y)))):Sem Value)=_
 rw [zS,show Op.equal t (.bool x) (.bool y)=Op.equalIn (9999+1) t (.bool x) (.bool y) from rfl,Op.equalIn,zS,ZK hu]
 rfl
theorem iV_str (hu:P.underlying t=some .string) {k:IntKind} {i:Int} (h0:0<=i) (h1:i.toNat < a.size):zh P (Instr.index t (.string a) (.int k i))=some (.int .u8 (a[i.toNat]'h1).toNat):=by
 unfold Instr.index
 rw [zS]
 show ((some (k,i)).bind _)=_
 simp only [Option.bind_some,zS,ZK hu]
 simp only [if_pos h0]
 rw [getElem?_pos a i.toNat h1]
 rfl
theorem sV_str (hu:P.underlying t=some .string) {lo hi:Option Int} {k1 k2:IntKind} (h0:0<=lo.getD 0) (h1:lo.getD 0<=hi.getD a.size) (h2:hi.getD a.size<=a.size):zh P (Instr.sliceAt t (.string a) (lo.map (.int k1)) (hi.map (.int k2)) none)=some (.string (a.extract (lo.getD 0).toNat (hi.getD a.size).toNat)):=by
 unfold Instr.sliceAt
 rw [zS,ZK hu]
 simp only [Option.bind_some]
 unfold Instr.slice
 rw [zS,ZK hu]
 simp only [Option.bind_some]
 have bnd:∀ (k:IntKind) (i:Int) (y:Nat) (c:BoundsCode),0<=i->i<=y->zh P (Instr.sliceBound (.int k i) y c)=some i.toNat:=fun k i y c g1 g2=>by
  unfold Instr.sliceBound
  rw [zS]
  show ((some (k,i)).bind _)=_
  simp only [Option.bind_some]
  rw [if_pos ⟨g1,g2⟩]
  rfl
 cases lo<;>cases hi<;>simp only [Option.map_none,Option.map_some,Option.getD_none,Option.getD_some,Option.isSome_none,Bool.false_eq_true,if_false] at *
 ·rfl
 ·rename_i h
  simp only [Instr.sliceBounds,zS,Option.bind_some,Yp,bnd _ _ _ _ h1 h2,Option.isSome_none,Bool.false_eq_true,if_false]
  rfl
 ·rename_i l
  simp only [Instr.sliceBounds,zS,Option.bind_some,Yp,bnd _ _ _ _ h0 h1,Option.isSome_none,Bool.false_eq_true,if_false,Int.toNat_natCast]
 ·rename_i l h
  have e:((h.toNat:Nat):Int)=h:=by omega
  simp only [Instr.sliceBounds,zS,Option.bind_some,Yp,bnd _ _ _ _ (Int.le_trans h0 h1) h2,bnd _ _ h.toNat _ h0 (by rw [e];exact h1),Option.isSome_none,Bool.false_eq_true,if_false]
theorem bi_min {ats:Array TypeId} {ty:TypeId} {cs:Array Bool} {x y:Int}:zh P (builtin .min ats ty cs #[.int .i64 x,.int .i64 y])=some (.value (.int .i64 (if y < x then y else x))):=rfl
theorem bi_max {ats:Array TypeId} {ty:TypeId} {cs:Array Bool} {x y:Int}:zh P (builtin .max ats ty cs #[.int .i64 x,.int .i64 y])=some (.value (.int .i64 (if x < y then y else x))):=rfl
theorem cV_int {s d:TypeId} {e:TypeDesc} {k k':IntKind} {n:Int} (hs:P.underlying s=some e) (hd:P.underlying d=some (.int k)):zh P (convert s d (.int k' n))=some (.int k (k.wrap n)):=by
 unfold convert
 rw [zS,ZK hs]
 simp only [Option.bind_some,zS,ZK hd]
 rfl
theorem w_loop_n {c:AC} {Q:EX->St->Prop} {st:St} (I:Nat->St->Prop) (n:Nat) (h0:I 0 st) (round:∀ i st,i < n->I i st->W P G c (yg (I (i+1)) Q) st) (last:∀ st,I n st->W P G c (yg (fun _=>False) Q) st):W P G (.loop c) Q st:=by
 refine w_loop (fun m st=>∃ i,i+m=n/\I i st) n ⟨0,by omega,h0⟩ ?_
 rintro m st ⟨i,hi,hI⟩
 by_cases hn:i < n
 ·refine XA c (fun e st' he=>?_) (round i st hn hI)
  cases e with
  | n=>exact ⟨m - 1,by omega,i+1,by omega,he⟩
  | x id=>exact he
  | r=>exact he
 ·have : i = n := by omega
  subst this
  refine XA c (fun e st' he=>?_) (last st hI)
  cases e with
  | n=>exact he.elim
  | x id=>exact he
  | r=>exact he
end
def beqV:Value->Value->Bool
 | .bool a,.bool b=>a == b
 | .int k a,.int k' b=>decide (k=k') && decide (a=b)
 | .string a,.string b=>decide (a=b)
 | .float k a,.float k' b=>decide (k=k') && decide (a=b)
 | .pointer none,.pointer none=>true
 | .map none,.map none=>true
 | .nilFunc,.nilFunc=>true
 | .nilIface,.nilIface=>true
 | .func (.func f) a b,.func (.func g) c d=>decide (f=g) && (decide (a.size=0) && decide (b.size=0) && decide (c.size=0) && decide (d.size=0))
 | _,_=>false
theorem beqV_eq {x y:Value} (h:beqV x y=true):x=y:=by
 unfold beqV at h
 split at h
 ·rw [beq_iff_eq.1 h]
 ·simp only [Bool.and_eq_true,decide_eq_true_eq] at h;rw [h.1,h.2]
 ·simp only [decide_eq_true_eq] at h;rw [h]
 ·simp only [Bool.and_eq_true,decide_eq_true_eq] at h;rw [h.1,h.2]
 ·rfl
 ·rfl
 ·rfl
 ·rfl
 ·simp only [Bool.and_eq_true,decide_eq_true_eq] at h
  obtain ⟨rfl,⟨⟨h1,h2⟩,h3⟩,h4⟩:=h
  rw [Array.eq_empty_of_size_eq_zero h1,Array.eq_empty_of_size_eq_zero h2,Array.eq_empty_of_size_eq_zero h3,Array.eq_empty_of_size_eq_zero h4]
 ·cases h
def wN (f:AV->AV->Bool):List AV->List AV->Bool
 | [],[]=>true
 | a::as_,b::bs=>f a b && wN f as_ bs
 | _,_=>false
theorem yX {f:AV->AV->Bool} (hf:∀ a b,f a b=true->a=b):∀ {as_ bs:List AV},wN f as_ bs=true->as_=bs
 | [],[],_=>rfl
 | [],_::_,h=>by cases h
 | _::_,[],h=>by cases h
 | a::as_,b::bs,h=>by
  simp only [wN,Bool.and_eq_true] at h
  rw [hf a b h.1,yX hf h.2]
def beqA:Nat->AV->AV->Bool
 | 0,_,_=>false
 | n+1,a,b =>
  match a,b with
  | .v x,.v y=>beqV x y
  | .agg as_,.agg bs=>wN (beqA n) as_ bs
  | .tup as_,.tup bs=>wN (beqA n) as_ bs
  | .nl k,.nl k'=>decide (k=k')
  | .sl k es,.sl k' es'=>decide (k=k') && wN (beqA n) es es'
  | .ad k es i o,.ad k' es' i' o'=>(decide (k=k') && decide (i=i') && decide (o=o')) && wN (beqA n) es es'
  | .ol i g m,.ol i' g' m'=>decide (i=i') && decide (g=g') && decide (m=m')
  | .oa i g e o,.oa i' g' e' o'=>decide (i=i') && decide (g=g') && decide (e=e') && decide (o=o')
  | .oc i g m c,.oc i' g' m' c'=>decide (i=i') && decide (g=g') && decide (m=m') && decide (c=c')
  | .mp i g,.mp i' g'=>decide (i=i') && decide (g=g')
  | .ib t f i g e o,.ib t' f' i' g' e' o'=>decide (i=i') && decide (g=g') && decide (e=e') && decide (o=o') && decide (f=f') && decide (t=t')
  | .bf f i g e o,.bf f' i' g' e' o'=>decide (i=i') && decide (g=g') && decide (e=e') && decide (o=o') && decide (f=f')
  | .io t i g e o,.io t' i' g' e' o'=>decide (i=i') && decide (g=g') && decide (e=e') && decide (o=o') && decide (t=t')
  | .fn f as_,.fn g bs=>decide (f=g) && wN (beqA n) as_ bs
  | .unk,.unk=>true
  | _,_=>false
theorem Yv:∀ (n:Nat) (a b:AV),beqA n a b=true->a=b
 | 0,_,_,h=>by cases h
 | n+1,a,b,h=>by
  unfold beqA at h
  split at h
  ·rw [beqV_eq h]
  ·rw [yX (Yv n) h]
  ·rw [yX (Yv n) h]
  ·rw [of_decide_eq_true h]
  ·simp only [Bool.and_eq_true,decide_eq_true_eq] at h;rw [h.1,yX (Yv n) h.2]
  ·simp only [Bool.and_eq_true,decide_eq_true_eq] at h;rw [h.1.1.1,h.1.1.2,h.1.2,yX (Yv n) h.2]
  ·simp only [Bool.and_eq_true,decide_eq_true_eq] at h;rw [h.1.1,h.1.2,h.2]
  ·simp only [Bool.and_eq_true,decide_eq_true_eq] at h;rw [h.1.1.1,h.1.1.2,h.1.2,h.2]
  ·simp only [Bool.and_eq_true,decide_eq_true_eq] at h;rw [h.1.1.1,h.1.1.2,h.1.2,h.2]
  ·simp only [Bool.and_eq_true,decide_eq_true_eq] at h;rw [h.1,h.2]
  ·simp only [Bool.and_eq_true,decide_eq_true_eq] at h;rw [h.1.1.1.1.1,h.1.1.1.1.2,h.1.1.1.2,h.1.1.2,h.1.2,h.2]
  ·simp only [Bool.and_eq_true,decide_eq_true_eq] at h;rw [h.1.1.1.1,h.1.1.1.2,h.1.1.2,h.1.2,h.2]
  ·simp only [Bool.and_eq_true,decide_eq_true_eq] at h;rw [h.1.1.1.1,h.1.1.1.2,h.1.1.2,h.1.2,h.2]
  ·simp only [Bool.and_eq_true,decide_eq_true_eq] at h;rw [h.1,yX (Yv n) h.2]
  ·rfl
  ·cases h
def beqO (a b:OB):Bool:=decide (a.e=b.e) && decide (a.k=b.k) && wN (beqA 40) a.es b.es && decide (a.g=b.g) && decide (a.fz=b.fz)
theorem beqO_eq {a b:OB} (h:beqO a b=true):a=b:=by
 simp only [beqO,Bool.and_eq_true,decide_eq_true_eq] at h
 obtain ⟨⟨⟨⟨h1,h2⟩,h3⟩,h4⟩,h5⟩:=h
 cases a;cases b
 simp only at h1 h2 h4 h5 h3
 rw [h1,h2,h4,h5,yX (Yv 40) h3]
def beqH:Hp->Hp->Bool
 | [],[]=>true
 | a::as_,b::bs=>beqO a b && beqH as_ bs
 | _,_=>false
theorem beqH_eq:∀ {as_ bs:Hp},beqH as_ bs=true->as_=bs
 | [],[],_=>rfl
 | [],_::_,h=>by cases h
 | _::_,[],h=>by cases h
 | a::as_,b::bs,h=>by
  simp only [beqH,Bool.and_eq_true] at h
  rw [beqO_eq h.1,beqH_eq h.2]
def beqS (a b:St):Bool:=wN (beqA 40) a.s b.s && beqH a.H b.H
theorem beqS_eq {a b:St} (h:beqS a b=true):a=b:=by
 simp only [beqS,Bool.and_eq_true] at h
 cases a;cases b
 simp only at h
 rw [yX (Yv 40) h.1,beqH_eq h.2]
abbrev Tab:=Nat->Option AF
def Tab.at (t:Tab) (f:Nat):Option AF:=t f
def Tab.of:List (Nat × AF)->Tab
 | [],_=>none
 | (n,a)::t,f=>if n == f then some a else Tab.of t f
def Tab.all (P:Program) (hs:List FuncId):Tab:=fun f=>if zj P f=true then zI P hs f else none
def Tab.Ok (P:Program) (hs:List FuncId) (t:Tab):Prop:=∀ f a,t.at f=some a->zI P hs f=some a/\zj P f=true
theorem Tab.ok_all {P:Program} {hs:List FuncId}:Tab.Ok P hs (Tab.all P hs):=fun f a h=>by
 unfold Tab.at Tab.all at h
 split at h
 ·rename_i hb;exact ⟨h,hb⟩
 ·cases h
theorem Tab.ok_nil {P:Program} {hs:List FuncId}:Tab.Ok P hs (Tab.of []):=fun f a h=>by cases h
theorem Tab.ok_cons {P:Program} {hs:List FuncId} {n:Nat} {a:AF} {t:List (Nat × AF)} (h:zI P hs n=some a) (hb:zj P n=true) (k:Tab.Ok P hs (Tab.of t)):Tab.Ok P hs (Tab.of ((n,a)::t)):=fun f b hf=>by
 simp only [Tab.at,Tab.of] at hf
 split at hf
 ·rename_i e
  cases hf
  have:n=f:=by simpa using e
  subst this
  exact ⟨h,hb⟩
 ·exact k f b hf
def mthF (P:Program) (t:Nat) (nm:String):Option FuncId :=
 match P.info? t,P.underlying t with
 | some inf,some (.pointer _) =>
  (match inf.methods.find? (·.name == nm) with
   | some m=>if m.path = #[] then (match m.func with|some (f,true)=>if zj P f=true then some f else none|_=>none) else none
   | none=>none)
 | _,_=>none
theorem mthF_ok {P:Program} {t:Nat} {nm:String} {f:FuncId} (h:mthF P t nm=some f):Mth P t nm f:=by
 unfold mthF at h
 split at h
 ·rename_i inf el hi hu
  split at h
  ·rename_i m hm
   split at h
   ·rename_i hp
    split at h
    ·rename_i g hf
     split at h
     ·rename_i hb
      cases h
      intro x args w
      unfold zj at hb
      split at hb
      ·rename_i fn hfn
       simp only [Bool.and_eq_true,bne_iff_ne,ne_eq] at hb
       have hbn:fn.body.isNone=false:=by cases hq:fn.body with
        | none=>rw [hq] at hb;simp at hb
        | some _=>rfl
       have hnm:(fn.name == "runtime.NumGoroutine")=false:=by simpa using hb.2
       have hd0:0 < Made.depth:=by decide
       have hpos:∃ k,P.types.size+Made.depth=k+1:=⟨P.types.size+Made.depth - 1,by omega⟩
       obtain ⟨k,hk⟩:=hpos
       simp [callMethod,program,Sem.run,Sem.run_bind,hk,method,typeInfo,hi,hm,hp,hf,follow,receiverAt,run_underlying hu,Place.get,callFunc,hfn,hnm,hbn]
       have hb2:¬ fn.body=none:=fun e=>by rw [e] at hbn;cases hbn
       have hn2:¬ fn.name = "runtime.NumGoroutine" := by simpa using hb.2
       rw [if_neg hn2,if_neg hb2]
      ·cases hb
     ·cases h
    ·cases h
   ·cases h
  ·cases h
 ·cases h
def mthG (P:Program) (t:Nat) (nm:String):Option FuncId :=
 match P.info? t,P.underlying t with
 | some inf,some (.func ..) =>
  (match inf.methods.find? (·.name == nm) with
   | some m=>if m.path = #[] then (match m.func with|some (f,false)=>if zj P f=true then some f else none|_=>none) else none
   | none=>none)
 | _,_=>none
theorem mthG_ok {P:Program} {t:Nat} {nm:String} {f:FuncId} (h:mthG P t nm=some f):Mth P t nm f:=by
 unfold mthG at h
 split at h
 ·rename_i inf ps rs vd hi hu
  split at h
  ·rename_i m hm
   split at h
   ·rename_i hp
    split at h
    ·rename_i g hf
     split at h
     ·rename_i hb
      cases h
      intro x args w
      unfold zj at hb
      split at hb
      ·rename_i fn hfn
       simp only [Bool.and_eq_true,bne_iff_ne,ne_eq] at hb
       have hbn:fn.body.isNone=false:=by cases hq:fn.body with
        | none=>rw [hq] at hb;simp at hb
        | some _=>rfl
       have hnm:(fn.name == "runtime.NumGoroutine")=false:=by simpa using hb.2
       have hd0:0 < Made.depth:=by decide
       have hpos:∃ k,P.types.size+Made.depth=k+1:=⟨P.types.size+Made.depth - 1,by omega⟩
       obtain ⟨k,hk⟩:=hpos
       simp [callMethod,program,Sem.run,Sem.run_bind,hk,method,typeInfo,hi,hm,hp,hf,follow,receiverAt,run_underlying hu,Place.get,callFunc,hfn,hnm,hbn]
       have hb2:¬ fn.body=none:=fun e=>by rw [e] at hbn;cases hbn
       have hn2:¬ fn.name = "runtime.NumGoroutine" := by simpa using hb.2
       rw [if_neg hn2,if_neg hb2]
      ·cases hb
     ·cases h
    ·cases h
   ·cases h
  ·cases h
 ·cases h
def mthH (P:Program) (t:Nat) (nm:String):Option FuncId:=match mthF P t nm with|some f=>some f|none=>mthG P t nm
theorem mthH_ok {P:Program} {t:Nat} {nm:String} {f:FuncId} (h:mthH P t nm=some f):Mth P t nm f:=by
 unfold mthH at h
 split at h
 ·rename_i g hg;cases h;exact mthF_ok hg
 ·exact mthG_ok h
def callH (tab:Tab) (ih:AC->St->Option (EX × St)) (f:Nat) (as_:List AV) (H:Hp):Option (AV × Hp) :=
 match tab.at f with
 | some af =>
  match ih af.body (St.init af.n as_ H) with
  | some (.x _,_)=>none
  | some (_,st')=>(match z6 st' af.res with|some vs=>some (zp vs,st'.H)|none=>none)
  | none=>none
 | none=>none
def callP (tab:Tab) (ih:AC->St->Option (EX × St)) (f:Nat) (as_:List AV):Option AV :=
 match tab.at f with
 | some af =>
  match ih af.body (St.init af.n as_ []) with
  | some (.x _,_)=>none
  | some (_,st')=>(match z6 st' af.res with|some vs=>(match yv st'.H vs with|some (rs,_)=>some (zp rs)|none=>none)|none=>none)
  | none=>none
 | none=>none
section
variable (P:Program) (G:Nat->AV) (tab:Tab)
def wP (ih:AC->St->Option (EX × St)) (op:AOp) (st:St):Option (AV × Hp) :=
 match op with
 | .call f xs=>(match yv st.H (xs.map (AX.ev G st.s)) with|some (as_,H1)=>(match callP tab ih f as_ with|some r=>some (r,H1)|none=>none)|none=>none)
 | .callh f xs=>callH tab ih f (xs.map (AX.ev G st.s)) st.H
 | .callv x xs=>(match cvA st.H (AX.ev G st.s x) (xs.map (AX.ev G st.s)) with|some (f,as_)=>callH tab ih f as_ st.H|none=>none)
 | .calli nm x xs=>(match XD st.H (AX.ev G st.s x) with|some (t,rc)=>(match mthH P t nm with|some f=>callH tab ih f (rc::xs.map (AX.ev G st.s)) st.H|none=>none)|none=>none)
 | op=>eff P (AX.ev G st.s) st.H op
def runI (ih:AC->St->Option (EX × St)) (o:AI) (st:St):Option St :=
 match o.guard with
 | none=>(match wP P G tab ih o.op st with|some (r,H')=>some (st.put o.dst r H')|none=>none)
 | some (t,want) =>
  match st.s.getD t zd with
  | .v (.bool b)=>if b=want then (match wP P G tab ih o.op st with|some (r,H')=>some (st.put o.dst r H')|none=>none) else some (st.put o.dst zd st.H)
  | .tup []=>some (st.put o.dst zd st.H)
  | _=>none
def runL (ih:AC->St->Option (EX × St)):List AI->St->Option St
 | [],st=>some st
 | o::os,st=>(match runI P G tab ih o st with|some st'=>runL ih os st'|none=>none)
def runD (ih:AC->St->Option (EX × St)) (base:Nat):List AI->St->Option St
 | [],st=>some st
 | o::os,st=>if Zq G base o st=true then (match runI P G tab ih o st with|some st'=>runD ih base os st'|none=>none) else none
def Wt (ih:AC->St->Option (EX × St)):AC->St->Option (EX × St)
 | .skip,st=>some (.n,st)
 | .region ops,st=>(match runL P G tab ih ops st with|some st'=>some (.n,st')|none=>none)
 | .draw ops,st=>(match runD P G tab ih st.H.length ops st with|some st'=>some (.n,st')|none=>none)
 | .drawx [],_=>none
 | .drawx (R::Rs),st=>(match runD P G tab ih st.H.length R st with|some st'=>if (Rs.all fun R=>match runD P G tab ih st.H.length R st with|some s2=>beqS st' s2|none=>false)=true then some (.n,st') else none|none=>none)
 | .seq a b,st=>(match ih a st with|some (.n,st')=>ih b st'|r=>r)
 | .cond c t e,st=>(match c.ev G st.s with|.v (.bool b)=>if b=true then ih t st else ih e st|_=>none)
 | .block id c,st=>(match ih c st with|some (.x i,st')=>if i=id then some (.n,st') else some (.x i,st')|r=>r)
 | .loop c,st=>(match ih c st with|some (.n,st')=>ih (.loop c) st'|r=>r)
 | .scope c,st=>ih c st
 | .exit id,st=>some (.x id,st)
 | .ret,st=>some (.r,st)
 | .rng ..,_=>none
 | .drawq ..,_=>none
def exec:Nat->AC->St->Option (EX × St)
 | 0=>fun _ _=>none
 | n+1=>Wt P G tab (exec n)
end
section
variable {P:Program} {G:Nat->AV} {tab:Tab} {hs:List FuncId}
def xY (P:Program) (G:Nat->AV) (ih:AC->St->Option (EX × St)):Prop:=∀ c st e st',ih c st=some (e,st')->∀ Q:EX->St->Prop,Q e st'->W P G c Q st
theorem wB {ih:AC->St->Option (EX × St)} (ht:tab.Ok P hs) (hg:xY P G ih) {f:Nat} {as_:List AV} {H:Hp} {r:AV} {H':Hp} (h:callH tab ih f as_ H=some (r,H')):HC P G f as_ H r H'/\zj P f=true:=by
 unfold callH at h
 split at h
 ·rename_i af haf
  obtain ⟨h1,h2⟩:=ht f af haf
  refine ⟨?_,h2⟩
  split at h
  ·cases h
  ·rename_i e st' hne he
   split at h
   ·rename_i vs hvs
    cases h
    refine Yw h1 (hg _ _ _ _ he _ ⟨?_,⟨vs,hvs,rfl⟩,rfl⟩)
    cases e with
    | n=>exact .inl rfl
    | r=>exact .inr rfl
    | x i=>exact (hne i rfl).elim
   ·cases h
  ·cases h
 ·cases h
theorem callP_ok {ih:AC->St->Option (EX × St)} (ht:tab.Ok P hs) (hg:xY P G ih) {f:Nat} {as_:List AV} {r:AV} (h:callP tab ih f as_=some r):PC P G f as_ r:=by
 unfold callP at h
 split at h
 ·rename_i af haf
  obtain ⟨h1,h2⟩:=ht f af haf
  split at h
  ·cases h
  ·rename_i e st' hne he
   split at h
   ·rename_i vs hvs
    split at h
    ·rename_i rs H' hp
     cases h
     refine xk h1 (hg _ _ _ _ he _ ⟨?_,vs,hvs,rs,H',hp,rfl⟩)
     cases e with
     | n=>exact .inl rfl
     | r=>exact .inr rfl
     | x i=>exact (hne i rfl).elim
    ·cases h
   ·cases h
  ·cases h
 ·cases h
theorem runOp_ok {ih:AC->St->Option (EX × St)} (ht:tab.Ok P hs) (hg:xY P G ih) {op:AOp} {st:St} {r:AV} {H':Hp} (h:wP P G tab ih op st=some (r,H')) (k:AV->Hp->Prop) (hk:k r H'):yS P G (AX.ev G st.s) st.H op k:=by
 cases op with
 | call f xs =>
  simp only [wP] at h
  split at h
  ·rename_i as_ H1 hp
   split at h
   ·rename_i r' hr
    cases h
    exact ⟨as_,H',r,hp,callP_ok ht hg hr,hk⟩
   ·cases h
  ·cases h
 | callh f xs=>exact ⟨r,H',(wB ht hg h).1,hk⟩
 | callv x xs =>
  simp only [wP] at h
  split at h
  ·rename_i f cs hf
   obtain ⟨h1,h2⟩:=wB ht hg h
   exact ⟨f,cs,r,H',hf,h2,h1,hk⟩
  ·cases h
 | calli nm x xs =>
  simp only [wP] at h
  split at h
  ·rename_i t rc hx
   split at h
   ·rename_i f hf
    exact ⟨t,rc,f,r,H',hx,mthH_ok hf,(wB ht hg h).1,hk⟩
   ·cases h
  ·cases h
 | _=>exact xh h hk
theorem runI_ok {ih:AC->St->Option (EX × St)} (ht:tab.Ok P hs) (hg:xY P G ih) {o:AI} {st st':St} (h:runI P G tab ih o st=some st') (k:St->Prop) (hk:k st'):AWi P G o st k:=by
 unfold runI at h
 unfold AWi
 split at h
 ·rename_i hgd
  try rw [hgd]
  split at h
  ·rename_i r H' he;cases h;exact runOp_ok ht hg he _ hk
  ·cases h
 ·rename_i t want hgd
  try rw [hgd]
  try simp only
  split at h
  ·rename_i b hb
   try rw [hb]
   try simp only
   split at h
   ·rename_i hbw
    try rw [if_pos hbw]
    split at h
    ·rename_i r H' he;cases h;exact runOp_ok ht hg he _ hk
    ·cases h
   ·rename_i hbw
    try rw [if_neg hbw]
    cases h;exact hk
  ·rename_i hb
   try rw [hb]
   cases h;exact hk
  ·cases h
theorem runL_ok {ih:AC->St->Option (EX × St)} (ht:tab.Ok P hs) (hg:xY P G ih):∀ {os:List AI} {st st':St},runL P G tab ih os st=some st'->∀ k:St->Prop,k st'->AWs P G os k st
 | [],st,st',h,k,hk=>by cases h;exact hk
 | o::os,st,st',h,k,hk=>by
  simp only [runL] at h
  split at h
  ·rename_i s1 h1
   exact runI_ok ht hg h1 _ (runL_ok ht hg h k hk)
  ·cases h
theorem XO {ih:AC->St->Option (EX × St)} (ht:tab.Ok P hs) (hg:xY P G ih) {base:Nat}:∀ {os:List AI} {st st':St},runD P G tab ih base os st=some st'->∀ k:St->Prop,k st'->AWd P G base os k st
 | [],st,st',h,k,hk=>by cases h;exact hk
 | o::os,st,st',h,k,hk=>by
  simp only [runD] at h
  split at h
  ·rename_i hc
   split at h
   ·rename_i s1 h1
    exact ⟨yW hc,runI_ok ht hg h1 _ (XO ht hg h k hk)⟩
   ·cases h
  ·cases h
theorem runC_ok {ih:AC->St->Option (EX × St)} (ht:tab.Ok P hs) (hg:xY P G ih):xY P G (Wt P G tab ih):=by
 intro c st e st' h Q hQ
 cases c with
 | rng=>cases h
 | drawq=>cases h
 | skip=>cases h;exact hQ
 | region ops =>
  simp only [Wt] at h
  split at h
  ·rename_i s1 h1
   cases h
   exact runL_ok ht hg h1 _ hQ
  ·cases h
 | draw ops =>
  simp only [Wt] at h
  split at h
  ·rename_i s1 h1
   cases h
   exact XO ht hg h1 _ hQ
  ·cases h
 | drawx reps =>
  cases reps with
  | nil=>cases h
  | cons R Rs =>
   simp only [Wt] at h
   split at h
   ·rename_i s1 h1
    split at h
    ·rename_i hall
     cases h
     intro R' hR'
     rcases List.mem_cons.1 hR' with rfl|hR'
     ·exact XO ht hg h1 _ hQ
     ·have := (List.all_eq_true.1 hall) R' hR'
      split at this
      ·rename_i s2 h2
       rw [<- beqS_eq this] at h2
       exact XO ht hg h2 _ hQ
      ·cases this
    ·cases h
   ·cases h
 | seq a b =>
  simp only [Wt] at h
  split at h
  ·rename_i s1 h1
   exact hg _ _ _ _ h1 _ (hg _ _ _ _ h Q hQ)
  ·rename_i hn
   refine hg _ _ _ _ h _ ?_
   cases e with
   | n=>exact (hn _ h).elim
   | x id=>exact hQ
   | r=>exact hQ
 | cond c t f =>
  simp only [Wt] at h
  split at h
  ·rename_i b hb
   simp only [W,hb]
   split at h
   ·rename_i hbt;rw [if_pos hbt];exact hg _ _ _ _ h _ hQ
   ·rename_i hbt;rw [if_neg hbt];exact hg _ _ _ _ h _ hQ
  ·cases h
 | block id c =>
  simp only [Wt] at h
  split at h
  ·rename_i i s1 h1
   refine hg _ _ _ _ h1 _ ?_
   simp only [yw]
   split at h
   ·rename_i hi;cases h;rw [if_pos hi];exact hQ
   ·rename_i hi;cases h;rw [if_neg hi];exact hQ
  ·rename_i hn
   refine hg _ _ _ _ h _ ?_
   cases e with
   | n=>exact hQ
   | x i=>exact (hn _ _ h).elim
   | r=>exact hQ
 | loop c =>
  simp only [Wt] at h
  split at h
  ·rename_i s1 h1
   obtain ⟨n,hn⟩:W P G (.loop c) Q s1:=hg _ _ _ _ h Q hQ
   exact ⟨n+1,hg _ _ _ _ h1 _ hn⟩
  ·rename_i hne
   refine ⟨1,hg _ _ _ _ h _ ?_⟩
   cases e with
   | n=>exact (hne _ h).elim
   | x id=>exact hQ
   | r=>exact hQ
 | scope c=>exact hg c st e st' h Q hQ
 | exit id=>cases h;exact hQ
 | ret=>cases h;exact hQ
theorem exec_ok (ht:tab.Ok P hs):∀ n,xY P G (exec P G tab n)
 | 0=>fun c st e st' h=>by cases h
 | n+1=>runC_ok ht (exec_ok ht n)
def runsTo (P:Program) (tab:Tab) (n f:Nat) (as_:List AV) (t:AV->Bool):Bool :=
 match callP tab (exec P (fun _=>.unk) tab n) f as_ with
 | some r=>t r
 | none=>false
theorem runsTo_pc (ht:tab.Ok P hs) {n f:Nat} {as_:List AV} {t:AV->Bool} (h:runsTo P tab n f as_ t=true):∃ r,t r=true/\PC P G f as_ r:=by
 unfold runsTo at h
 split at h
 ·rename_i r hr
  refine ⟨r,h,?_⟩
  have:=callP_ok (P:=P) (G:=fun _=>.unk) ht (exec_ok ht n) hr
  exact fun w F xs h1 _ h3 h4=>this w F xs h1 (fun g=>.unk _) h3 h4
 ·cases h
end
open Go.RowKit Go.ChangeShapes Go.WideShapes
def Zx (P:Program) (t:TypeId):Bool :=
 match P.underlying t with
 | some (.struct _)|some (.array _ _)=>true
 | _=>false
def mkE (b:Bool) (cs:List AV):AV:=if b then .agg cs else cs.headD .unk
inductive ShC (P:Program):TypeId->List AV->Prop
 | bool {t:TypeId} (ht:P.underlying t=some .bool) (b:Bool):ShC P t [.v (.bool b)]
 | int {t:TypeId} {k:IntKind} (ht:P.underlying t=some (.int k)) (n:Int) (hw:(Lit.int k n).wf=true):ShC P t [.v (.int k n)]
 | float {t:TypeId} {k:FloatKind} (ht:P.underlying t=some (.float k)) (b:Nat) (hw:(Lit.float k b).wf=true):ShC P t [.v (.float k b)]
 | string {t:TypeId} (ht:P.underlying t=some .string) (s:ByteArray) (hs:s.size<=maxLen):ShC P t [.v (.string s)]
 | slice {t e:TypeId} (ht:P.underlying t=some (.slice e)) (css:List (List AV)) (hl:css.length<=maxLen) (h:∀ cs ∈ css,ShC P e cs):ShC P t [.sl (P.cellsOf e) (css.map (mkE (Zx P e)))]
 | struct {t:TypeId} {fs:Array Field} (ht:P.underlying t=some (.struct fs)) (ps:List (List AV)) (hl:ps.length=fs.size) (h:∀ (i:Nat) (f:Field) (p:List AV),fs[i]? = some f->ps[i]? = some p->ShC P f.type p):ShC P t ps.flatten
def Y2 (P:Program):Nat->List Field->Option Nat
 | o,[]=>some o
 | o,f::fs=>if f.offset=o then Y2 P (o+P.cellsOf f.type) fs else none
def okT (P:Program):Nat->TypeId->Bool
 | 0,_=>false
 | d+1,t =>
  match P.underlying t with
  | some .bool|some (.int _)|some (.float _)|some .string=>true
  | some (.slice e)=>okT P d e && decide (0 < P.cellsOf e)
  | some (.struct fs)=>(Y2 P 0 fs.toList == some (P.cellsOf t)) && fs.toList.all fun f=>okT P d f.type
  | _=>false
section
variable {H:Type} {enc:TypeId × Value->H} {P:Program} {w:World} {spare:Nat->Bool} {held:Bool}
theorem DataW_trod_float {fuel:Nat} {t:TypeId} {k:FloatKind} {cs:List Value} {x:DataW H × List MemPlace} {base:Nat} (ht:P.underlying t=some (.float k)) (h:DataW.trod enc P w base spare held fuel t cs=some x):∃ b,cs=[.float k b]/\(Lit.float k b).wf=true:=by
 cases fuel with
 | zero=>simp [DataW.trod] at h
 | succ n =>
  unfold DataW.trod at h
  rw [ht] at h
  split at h<;>simp_all
theorem pieces {F : Fz} (P : Program) (cs : List Value) : ∀ (fs : List Field) (o n : Nat), Y2 P o fs = some n -> cs.length = n ->
  (∀ f ∈ fs,∃ as_:List AV,((cs.drop f.offset).take (P.cellsOf f.type)).length=as_.length/\as_.length=P.cellsOf f.type/\(∀ a ∈ as_,a.one=true)/\(∀ (i:Nat) (c:Value) (a:AV),((cs.drop f.offset).take (P.cellsOf f.type))[i]? = some c->as_[i]? = some a->PV F c a)/\ShC P f.type as_) ->
  ∃ ps:List (List AV),ps.length=fs.length/\(∀ (i:Nat) (f:Field) (p:List AV),fs[i]? = some f->ps[i]? = some p->ShC P f.type p)/\(cs.drop o).length=ps.flatten.length/\(∀ a ∈ ps.flatten,a.one=true)/\∀ (i:Nat) (c:Value) (a:AV),(cs.drop o)[i]? = some c->ps.flatten[i]? = some a->PV F c a
 | [],o,n,hc,hl,_=>by
  cases hc
  exact ⟨[],rfl,fun i f p hf=>by simp at hf,by simp;omega,fun a ha=>by simp at ha,fun i c a _ ha=>by simp at ha⟩
 | f::fs,o,n,hc,hl,h=>by
  simp only [Y2] at hc
  split at hc
  ·rename_i hof
   subst hof
   obtain ⟨as_,l1,l2,o1,p1,s1⟩:=h f (by simp)
   obtain ⟨ps,q1,q2,q3,q4,q5⟩:=pieces (F:=F) P cs fs _ n hc hl (fun g hg=>h g (by simp [hg]))
   have hsplit:cs.drop f.offset=(cs.drop f.offset).take (P.cellsOf f.type)++cs.drop (f.offset+P.cellsOf f.type):=by
    rw [<- List.drop_drop,List.take_append_drop]
   refine ⟨as_::ps,by simp [q1],fun i g p hg hp=>?_,?_,fun a ha=>?_,fun i c a hci hai=>?_⟩
   ·cases i with
    | zero=>simp at hg hp;subst hg;subst hp;exact s1
    | succ i=>exact q2 i g p (by simpa using hg) (by simpa using hp)
   ·rw [hsplit,List.length_append,l1,q3];simp
   ·rw [List.flatten_cons] at ha
    rcases List.mem_append.1 ha with ha|ha
    ·exact o1 a ha
    ·exact q4 a ha
   ·rw [hsplit] at hci
    rw [List.flatten_cons] at hai
    by_cases hi:i < as_.length
    ·rw [List.getElem?_append_left (by omega)] at hci hai
     exact p1 i c a hci hai
    ·rw [List.getElem?_append_right (by omega)] at hci hai
     rw [l1] at hci
     exact q5 _ c a hci hai
  ·cases hc
theorem trod_av : ∀ (n d : Nat) (t : TypeId) (cs : List Value) (x : DataW H × List MemPlace), DataW.trod enc P w 0 spare held n t cs = some x -> okT P d t = true -> cs.length = P.cellsOf t ->
  ∃ as_:List AV,cs.length=as_.length/\(∀ a ∈ as_,a.one=true)/\(∀ (i:Nat) (c:Value) (a:AV),cs[i]? = some c->as_[i]? = some a->PV (fun b o=>w.cell? ⟨b,o,none⟩) c a)/\ShC P t as_:=by
 intro n
 induction n with
 | zero=>intro d t cs x h;simp [DataW.trod] at h
 | succ n ih =>
  intro d t cs x h hok hlen
  cases d with
  | zero=>cases hok
  | succ d =>
   have one:∀ (y:Value) (a:AV),PV (fun b o=>w.cell? ⟨b,o,none⟩) y a->a.one=true->ShC P t [a]->cs=[y]->∃ as_:List AV,cs.length=as_.length/\(∀ a ∈ as_,a.one=true)/\(∀ (i:Nat) (c:Value) (a:AV),cs[i]? = some c->as_[i]? = some a->PV (fun b o=>w.cell? ⟨b,o,none⟩) c a)/\ShC P t as_:=fun y a hp h1 hs e=>by
    subst e
    refine ⟨[a],rfl,fun b hb=>by simp at hb;subst hb;exact h1,fun i c b hc hb=>?_,hs⟩
    cases i with
    | zero=>simp at hc hb;subst hc;subst hb;exact hp
    | succ i=>simp at hc
   simp only [okT] at hok
   split at hok
   ·rename_i ht
    obtain ⟨b,e,_⟩:=DataW.trod_bool ht h
    exact one _ _ (.v _ rfl) rfl (.bool ht b) e
   ·rename_i k ht
    obtain ⟨m,e,_,hw⟩:=DataW.trod_int ht h
    exact one _ _ (.v _ rfl) rfl (.int ht m hw) e
   ·rename_i k ht
    obtain ⟨m,e,hw⟩:=DataW_trod_float ht h
    exact one _ _ (.v _ rfl) rfl (.float ht m hw) e
   ·rename_i ht
    obtain ⟨s,e,_,hs⟩:=DataW.trod_string ht h
    exact one _ _ (.v _ rfl) rfl (.string ht s hs) e
   ·rename_i e ht
    simp only [Bool.and_eq_true,decide_eq_true_eq] at hok
    rcases DataW.trod_slice ht h with ⟨hcs,_⟩|⟨a,len,cap,elems,rest,m,hm,hcs,_,_,hlc,hcm,hel,hel2,_,_⟩
    ·refine one _ (.sl (P.cellsOf e) []) (.sl none 0 0 _ [] rfl (Nat.le_refl _) (Nat.zero_le _) (fun e he=>by cases he) (fun e he=>by cases he) 0 0 (fun h=>absurd h (Nat.lt_irrefl _)) (fun _ _=>undef) (fun i j hi=>absurd hi (Nat.not_lt_zero _)) (fun i j e a he=>by simp at he)) rfl ?_ hcs
     exact .slice ht [] (Nat.zero_le _) (fun cs hcs=>by cases hcs)
    ·obtain rfl : m = n := by omega
     -- the elements
     have each:∀ i,i < len->∃ ci:List Value,∃ as_:List AV,w.cells? 0 (a.add (i * P.cellsOf e)) (P.cellsOf e)=some ci/\ci.length=P.cellsOf e/\ci.length=as_.length/\(∀ a ∈ as_,a.one=true)/\(∀ (i:Nat) (c:Value) (a:AV),ci[i]? = some c->as_[i]? = some a->PV (fun b o=>w.cell? ⟨b,o,none⟩) c a)/\ShC P e as_:=fun i hi=>by
      have h1:=hel2 i hi
      rw [List.getElem?_eq_getElem (by omega:i < elems.length)] at h1
      obtain ⟨ci,hci,htr⟩:=Option.bind_eq_some_iff.1 h1
      have hcl:=(World.cells?_some hci).2.1
      obtain ⟨as_,q1,q2,q3,q4⟩:=ih d e ci _ htr hok.1 hcl
      exact ⟨ci,as_,hci,hcl,q1,q2,q3,q4⟩
     have pick:∃ (C:Nat->List Value) (A:Nat->List AV),∀ i,i < len->w.cells? 0 (a.add (i * P.cellsOf e)) (P.cellsOf e)=some (C i)/\(C i).length=P.cellsOf e/\(C i).length=(A i).length/\(∀ a ∈ A i,a.one=true)/\(∀ (j:Nat) (c:Value) (a:AV),(C i)[j]? = some c->(A i)[j]? = some a->PV (fun b o=>w.cell? ⟨b,o,none⟩) c a)/\ShC P e (A i):=by
      refine ⟨fun i=>if hi:i < len then (each i hi).choose else [],fun i=>if hi:i < len then (each i hi).choose_spec.choose else [],fun i hi=>?_⟩
      simp only [dif_pos hi]
      exact (each i hi).choose_spec.choose_spec
     obtain ⟨C,A,hCA⟩:=pick
     -- an element as_ a value
     have mkc:∀ i,i < len->(mkE (Zx P e) (A i)).cells=A i:=fun i hi=>by
      obtain ⟨_,c2,c3,c4,_,c6⟩:=hCA i hi
      unfold mkE
      cases hag:Zx P e
      ·have single : ∃ u, A i = [u] := by
        generalize A i=q at c6
        cases c6 with
        | bool=>exact ⟨_,rfl⟩
        | int=>exact ⟨_,rfl⟩
        | float=>exact ⟨_,rfl⟩
        | string=>exact ⟨_,rfl⟩
        | slice=>exact ⟨_,rfl⟩
        | struct ht'=>simp [Zx,ht'] at hag
       obtain ⟨u,hu⟩:=single
       rw [hu] at c4 ⊢
       have:=c4 u (by simp)
       simp only [Bool.false_eq_true,if_false,List.headD_cons]
       cases u<;>first|rfl|cases this
      ·rfl
     have hspot:0 < len->∃ b o,a=⟨b,o,none⟩:=fun hpos=>by
      obtain ⟨c1,c2,_⟩:=hCA 0 hpos
      have h0:=(World.cells?_some c1).2.2 0 hok.2
      obtain ⟨b,o,sp⟩:=a
      have hadd:((⟨b,o,sp⟩:Addr).add (0 * P.cellsOf e)).add 0=⟨b,o,sp⟩:=by simp [Addr.add]
      rw [hadd] at h0
      have hs:sp=none:=by
       cases sp with
       | none=>rfl
       | some q =>
        exfalso
        have hne:(C 0)[0]? ≠ none:=by
         rw [List.getElem?_eq_getElem (by rw [c2];exact hok.2)];simp
        simp only [World.cell?,Option.isSome_some,if_true] at h0
        split at h0<;>exact hne h0.symm
      exact ⟨b,o,by rw [hs]⟩
     refine one _ (.sl (P.cellsOf e) ((List.range len).map fun i=>mkE (Zx P e) (A i))) ?_ rfl ?_ hcs
     ·have mem : ∀ x ∈ (List.range len).map (fun i => mkE (Zx P e) (A i)), ∃ i, i < len /\ x = mkE (Zx P e) (A i) := fun x hx => by
       obtain ⟨i,hi,rfl⟩:=List.mem_map.1 hx
       exact ⟨i,List.mem_range.1 hi,rfl⟩
      have at_:∀ (i:Nat) (x:AV),((List.range len).map (fun i=>mkE (Zx P e) (A i)))[i]? = some x->i < len/\x=mkE (Zx P e) (A i):=fun i x hx=>by
       rw [List.getElem?_map] at hx
       obtain ⟨i',hi',rfl⟩:=Option.map_eq_some_iff.1 hx
       have hl:=(List.getElem?_eq_some_iff.1 hi').1
       rw [List.getElem?_range (by simpa using hl)] at hi'
       cases hi'
       exact ⟨by simpa using hl,rfl⟩
      by_cases hpos:0 < len
      ·obtain ⟨b, o, rfl⟩ := hspot hpos
       refine .sl _ len cap (P.cellsOf e) _ (by simp) hlc hcm (fun x hx=>?_) (fun x hx u hu=>?_) b o (fun _=>rfl) (fun i j=>(C i).getD j undef) (fun i j hi hj=>?_) (fun i j x u hx hu=>?_)
       ·obtain ⟨i, hi, rfl⟩ := mem x hx
        rw [mkc i hi,<- (hCA i hi).2.2.1,(hCA i hi).2.1]
       ·obtain ⟨i, hi, rfl⟩ := mem x hx
        rw [mkc i hi] at hu
        exact (hCA i hi).2.2.2.1 u hu
       ·obtain ⟨c1, c2, _⟩ := hCA i hi
        have:=(World.cells?_some c1).2.2 j hj
        rw [ZD,ZD] at this
        rw [this,List.getD_eq_getElem?_getD,List.getElem?_eq_getElem (by rw [c2];exact hj)]
        rfl
       ·obtain ⟨hi, rfl⟩ := at_ i x hx
        rw [mkc i hi] at hu
        have hjl:=(List.getElem?_eq_some_iff.1 hu).1
        rw [<- (hCA i hi).2.2.1] at hjl
        have:=(hCA i hi).2.2.2.2.1 j (C i)[j] u (List.getElem?_eq_getElem hjl) hu
        simpa [List.getD_eq_getElem?_getD,List.getElem?_eq_getElem hjl] using this
      ·obtain rfl : len = 0 := by omega
       exact .sl _ 0 cap (P.cellsOf e) _ rfl hlc hcm (fun x hx=>by simp at hx) (fun x hx=>by simp at hx) 0 0 (fun h=>absurd h (Nat.lt_irrefl _)) (fun _ _=>undef) (fun i j hi=>absurd hi (Nat.not_lt_zero _)) (fun i j x u hx=>by simp at hx)
     ·have := ShC.slice (P := P) ht ((List.range len).map A) (by simp; omega) (fun cs hcs => by
       obtain ⟨i,hi,rfl⟩:=List.mem_map.1 hcs
       exact (hCA i (List.mem_range.1 hi)).2.2.2.2.2)
      rw [List.map_map] at this
      exact this
   ·rename_i fs ht
    simp only [Bool.and_eq_true,beq_iff_eq,List.all_eq_true] at hok
    obtain ⟨xs,m,hm,_,hcl,hxs,hf⟩:=DataW.trod_struct ht h
    obtain rfl:m=n:=by omega
    obtain ⟨ps,q1,q2,q3,q4,q5⟩:=pieces (F:=fun b o=>w.cell? ⟨b,o,none⟩) P cs fs.toList 0 _ hok.1 hcl (fun f hfm=>by
     obtain ⟨i,hi,hfi⟩:=List.getElem_of_mem hfm
     have hia:fs[i]? = some f:=by
      have:fs.toList[i]? = some f:=by rw [List.getElem?_eq_getElem hi,hfi]
      simpa using this
     have h1:=hf i f hia
     rw [List.getElem?_eq_getElem (by rw [hxs];simpa using hi)] at h1
     have hlen2:((cs.drop f.offset).take (P.cellsOf f.type)).length=P.cellsOf f.type:=by
      -- the field lies inside
      have inside:∀ (gs:List Field) (o n:Nat),Y2 P o gs=some n->∀ g ∈ gs,g.offset+P.cellsOf g.type<=n/\o<=n:=by
       intro gs
       induction gs with
       | nil=>intro o n _ g hg;cases hg
       | cons g gs ihg =>
        intro o n hc g' hg'
        simp only [Y2] at hc
        split at hc
        ·rename_i hof
         have le:∀ (gs:List Field) (o n:Nat),Y2 P o gs=some n->o<=n:=by
          intro gs
          induction gs with
          | nil=>intro o n hc;cases hc;exact Nat.le_refl _
          | cons g gs ih2 =>
           intro o n hc
           simp only [Y2] at hc
           split at hc
           ·have:=ih2 _ _ hc;omega
           ·cases hc
         have:=le gs _ _ hc
         rcases List.mem_cons.1 hg' with rfl|hg'
         ·omega
         ·have := ihg _ _ hc g' hg'
          omega
        ·cases hc
      have:=(inside fs.toList 0 _ hok.1 f hfm).1
      simp;omega
     obtain ⟨as_,r1,r2,r3,r4⟩:=ih d f.type _ _ h1 (hok.2 f hfm) hlen2
     exact ⟨as_,r1,by omega,r2,r3,r4⟩)
    rw [List.drop_zero] at q3 q5
    refine ⟨ps.flatten,q3,q4,q5,.struct ht ps (by simpa using q1) fun i f p hfi hpi=>q2 i f p (by simpa using hfi) hpi⟩
   ·cases hok
theorem wE {r : Reach} {b0 : Nat} {t : TypeId} {v : Value} {dd : DataW H} {p : List MemPlace} (hok : okT P 12 t = true) (hval : Value.okWide P w r b0 t v) (hd : DataW.Trod enc P w 0 spare held t v dd p) (hsz : v.cells.size = P.cellsOf t) (hag : Zx P t = true \/ v.oneCell' = true) :
  ∃ as_:List AV,PV (fun b o=>w.cell? ⟨b,o,none⟩) v (mkE (Zx P t) as_)/\ShC P t as_:=by
 obtain ⟨n,hn⟩:=hd
 obtain ⟨as_,q1,q2,q3,q4⟩:=trod_av n 12 t _ _ hn hok (by simpa using hsz)
 refine ⟨as_,?_,q4⟩
 cases hb:Zx P t
 ·have h1 : v.oneCell' = true := hag.resolve_left (by simp [hb])
  have e2:v.cells = #[v]:=by cases v<;>first|rfl|cases h1
  rw [e2] at q1 q3
  match as_,q1 with
  | [a],_=>exact q3 0 v a rfl rfl
 ·have : ∃ cs, v = .agg cs := by
   unfold Zx at hb
   split at hb
   ·rename_i fs ht
    obtain ⟨cs,e,_⟩:=okWide_struct ht hval
    exact ⟨cs,e⟩
   ·rename_i ht
    simp [okT,ht] at hok
   ·cases hb
  obtain ⟨cs,rfl⟩:=this
  have:=PV.agg (F:=fun b o=>w.cell? ⟨b,o,none⟩) cs.toList as_ q1 q2 q3
  simpa [mkE] using this
end
def okN (P:Program) (t:TypeId):Bool :=
 match P.underlying t with
 | some (.struct _)=>true
 | some .bool|some (.int _)|some .string|some (.slice _)=>P.cellsOf t == 1
 | _=>false
section
variable {H:Type} {enc:TypeId × Value->H} {P:Program} {w:World} {spare:Nat->Bool} {held:Bool}
theorem arg_full {r : Reach} {b0 : Nat} {t : TypeId} {v : Value} {dd : DataW H} {p : List MemPlace} (hok : okT P 12 t = true) (hn : okN P t = true) (hval : Value.okWide P w r b0 t v) (hd : DataW.Trod enc P w 0 spare held t v dd p) :
  ∃ as_:List AV,PV (fun b o=>w.cell? ⟨b,o,none⟩) v (mkE (Zx P t) as_)/\ShC P t as_:=by
 unfold okN at hn
 split at hn
 ·rename_i fs ht
  obtain ⟨cs,rfl,hsz⟩:=okWide_struct ht hval
  exact wE hok hval hd hsz (.inl (by simp [Zx,ht]))
 ·rename_i ht
  obtain ⟨b,rfl⟩:=okWide_bool ht hval
  exact wE hok hval hd (beq_iff_eq.1 hn).symm (.inr rfl)
 ·rename_i ht
  obtain ⟨b,rfl⟩:=okWide_int ht hval
  exact wE hok hval hd (beq_iff_eq.1 hn).symm (.inr rfl)
 ·rename_i ht
  obtain ⟨b,rfl⟩:=okWide_string ht hval
  exact wE hok hval hd (beq_iff_eq.1 hn).symm (.inr rfl)
 ·rename_i ht
  obtain ⟨a,l,c,rfl⟩:=okWide_slice ht hval
  exact wE hok hval hd (beq_iff_eq.1 hn).symm (.inr rfl)
 ·cases hn
end
theorem pvs_nil {F:Fz}:∀ (i:Nat) (c:Value) (a:AV),([]:List Value)[i]? = some c->([]:List AV)[i]? = some a->PV F c a:=fun i c a hc=>by simp at hc
theorem pvs_cons {F:Fz} {x:Value} {a:AV} {xs:List Value} {as_:List AV} (h:PV F x a) (k:∀ (i:Nat) (c:Value) (a:AV),xs[i]? = some c->as_[i]? = some a->PV F c a):∀ (i:Nat) (c:Value) (b:AV),(x::xs)[i]? = some c->(a::as_)[i]? = some b->PV F c b:=fun i c b hc hb=>by
 cases i with
 | zero=>simp at hc hb;subst hc;subst hb;exact h
 | succ i=>exact k i c b (by simpa using hc) (by simpa using hb)
section
variable {P:Program}
theorem ShC.int_inv {t:TypeId} {k:IntKind} {as_:List AV} (h:ShC P t as_) (ht:P.underlying t=some (.int k)):∃ n,as_=[.v (.int k n)]/\(Lit.int k n).wf=true:=by
 cases h with
 | bool h=>rw [ht] at h;cases h
 | int h n hw=>rw [ht] at h;cases h;exact ⟨n,rfl,hw⟩
 | float h=>rw [ht] at h;cases h
 | string h=>rw [ht] at h;cases h
 | slice h=>rw [ht] at h;cases h
 | struct h=>rw [ht] at h;cases h
theorem ShC.i64_inv {t:TypeId} {as_:List AV} (h:ShC P t as_) (ht:P.underlying t=some (.int .i64)):∃ n,as_=[I n]/\-9223372036854775808<=n/\n<=9223372036854775807:=by
 obtain ⟨n,e,hw⟩:=h.int_inv ht
 have : -9223372036854775808<=n/\n<=9223372036854775807:=by simpa [Lit.wf,IntKind.min,IntKind.max,IntKind.signed,IntKind.bits] using hw
 exact ⟨n,e,this.1,this.2⟩
theorem ShC.u8_inv {t:TypeId} {as_:List AV} (h:ShC P t as_) (ht:P.underlying t=some (.int .u8)):∃ n,as_=[.v (.int .u8 n)]/\0<=n/\n<=255:=by
 obtain ⟨n,e,hw⟩:=h.int_inv ht
 have:0<=n/\n<=255:=by simpa [Lit.wf,IntKind.min,IntKind.max,IntKind.signed,IntKind.bits] using hw
 exact ⟨n,e,this.1,this.2⟩
theorem ShC.u32_inv {t:TypeId} {as_:List AV} (h:ShC P t as_) (ht:P.underlying t=some (.int .u32)):∃ n,as_=[.v (.int .u32 n)]/\0<=n/\n<=4294967295:=by
 obtain ⟨n,e,hw⟩:=h.int_inv ht
 have:0<=n/\n<=4294967295:=by simpa [Lit.wf,IntKind.min,IntKind.max,IntKind.signed,IntKind.bits] using hw
 exact ⟨n,e,this.1,this.2⟩
theorem ShC.bool_inv {t:TypeId} {as_:List AV} (h:ShC P t as_) (ht:P.underlying t=some .bool):∃ b,as_=[Bo b]:=by
 cases h with
 | bool h b=>exact ⟨b,rfl⟩
 | int h=>rw [ht] at h;cases h
 | float h=>rw [ht] at h;cases h
 | string h=>rw [ht] at h;cases h
 | slice h=>rw [ht] at h;cases h
 | struct h=>rw [ht] at h;cases h
theorem ShC.str_inv {t:TypeId} {as_:List AV} (h:ShC P t as_) (ht:P.underlying t=some .string):∃ s,as_=[S s]/\s.size<=9223372036854775807:=by
 cases h with
 | bool h=>rw [ht] at h;cases h
 | int h=>rw [ht] at h;cases h
 | float h=>rw [ht] at h;cases h
 | string h s hs=>exact ⟨s,rfl,by rw [<- ZQ];exact hs⟩
 | slice h=>rw [ht] at h;cases h
 | struct h=>rw [ht] at h;cases h
theorem ShC.slice_inv {t e:TypeId} {as_:List AV} (h:ShC P t as_) (ht:P.underlying t=some (.slice e)):∃ css:List (List AV),as_=[.sl (P.cellsOf e) (css.map (mkE (Zx P e)))]/\css.length<=9223372036854775807/\∀ cs ∈ css,ShC P e cs:=by
 cases h with
 | bool h=>rw [ht] at h;cases h
 | int h=>rw [ht] at h;cases h
 | float h=>rw [ht] at h;cases h
 | string h=>rw [ht] at h;cases h
 | slice h css hl hh=>rw [ht] at h;cases h;exact ⟨css,rfl,by rw [<- ZQ];exact hl,hh⟩
 | struct h=>rw [ht] at h;cases h
theorem ShC.struct_inv {t:TypeId} {fs:Array Field} {as_:List AV} (h:ShC P t as_) (ht:P.underlying t=some (.struct fs)):∃ ps:List (List AV),as_=ps.flatten/\ps.length=fs.size/\∀ (i:Nat) (f:Field) (p:List AV),fs[i]? = some f->ps[i]? = some p->ShC P f.type p:=by
 cases h with
 | bool h=>rw [ht] at h;cases h
 | int h=>rw [ht] at h;cases h
 | float h=>rw [ht] at h;cases h
 | string h=>rw [ht] at h;cases h
 | slice h=>rw [ht] at h;cases h
 | struct h ps hl hh=>rw [ht] at h;cases h;exact ⟨ps,rfl,hl,hh⟩
def ShFs (P:Program):List TypeId->List AV->Prop
 | [],as_=>as_=[]
 | t::ts,as_=>∃ p q,as_=p++q/\ShC P t p/\ShFs P ts q
theorem ShC.fields {t:TypeId} {fs:Array Field} {as_:List AV} (h:ShC P t as_) (ht:P.underlying t=some (.struct fs)) {ts:List TypeId} (hts:fs.toList.map (·.type)=ts):ShFs P ts as_:=by
 obtain ⟨ps,rfl,hl,hh⟩:=h.struct_inv ht
 subst hts
 have key:∀ (gs:List Field) (ps:List (List AV)),ps.length=gs.length->(∀ (i:Nat) (f:Field) (p:List AV),gs[i]? = some f->ps[i]? = some p->ShC P f.type p)->ShFs P (gs.map (·.type)) ps.flatten:=by
  intro gs
  induction gs with
  | nil=>intro ps hl _;rw [List.eq_nil_of_length_eq_zero hl];rfl
  | cons g gs ih =>
   intro ps hl hh
   match ps,hl with
   | p::ps,hl =>
    exact ⟨p,ps.flatten,rfl,hh 0 g p rfl rfl,ih ps (by simpa using hl) fun i f q hf hq=>hh (i+1) f q (by simpa using hf) (by simpa using hq)⟩
 exact key fs.toList ps (by simpa using hl) fun i f p hf hp=>hh i f p (by simpa using hf) hp
end
end Go.Proofs.YtfocijljkkfonaaDoor.Sim
namespace Go.Proofs.YtfocijljkkfonaaDoor.Sim
set_option maxRecDepth 100000
abbrev YM (d s:Nat):AI:=AI.mk (some d) (AOp.mv (AX.t s)) none
abbrev YL (d:Nat) (b:Bool) (n s:Nat):AI:=AI.mk (some d) (AOp.load b n (AX.t s)) none
abbrev YF (d o s:Nat):AI:=AI.mk (some d) (AOp.fad o (AX.t s)) none
abbrev YI (d k s i:Nat):AI:=AI.mk (some d) (AOp.iad k (AX.t s) (AX.t i)) none
abbrev YE (d s:Nat):AI:=AI.mk (some d) (AOp.len (AX.t s)) none
abbrev YQ (d f s:Nat):AI:=AI.mk (some d) (AOp.call f [(AX.t s)]) none
abbrev YR (d f s s2:Nat):AI:=AI.mk (some d) (AOp.call f [(AX.t s),(AX.t s2)]) none
abbrev YB (d:Nat) (o:BinOp) (t:Nat) (b:Bool) (x y:Nat):AI:=AI.mk (some d) (AOp.bin o t b (Operand.tmp x) (Operand.tmp y) (AX.t x) (AX.t y)) none
abbrev YC (d:Nat) (o:BinOp) (t:Nat) (b:Bool) (x:Nat) (v:Value):AI:=AI.mk (some d) (AOp.bin o t b (Operand.tmp x) (Operand.const v) (AX.t x) (AX.c (AV.v v))) none
abbrev YMg (d s:Nat) (g:Nat) (w:Bool):AI:=AI.mk (some d) (AOp.mv (AX.t s)) (some (g,w))
abbrev YLg (d:Nat) (b:Bool) (n s:Nat) (g:Nat) (w:Bool):AI:=AI.mk (some d) (AOp.load b n (AX.t s)) (some (g,w))
abbrev YFg (d o s:Nat) (g:Nat) (w:Bool):AI:=AI.mk (some d) (AOp.fad o (AX.t s)) (some (g,w))
abbrev YIg (d k s i:Nat) (g:Nat) (w:Bool):AI:=AI.mk (some d) (AOp.iad k (AX.t s) (AX.t i)) (some (g,w))
abbrev YEg (d s:Nat) (g:Nat) (w:Bool):AI:=AI.mk (some d) (AOp.len (AX.t s)) (some (g,w))
abbrev YQg (d f s:Nat) (g:Nat) (w:Bool):AI:=AI.mk (some d) (AOp.call f [(AX.t s)]) (some (g,w))
abbrev YRg (d f s s2:Nat) (g:Nat) (w:Bool):AI:=AI.mk (some d) (AOp.call f [(AX.t s),(AX.t s2)]) (some (g,w))
abbrev YBg (d:Nat) (o:BinOp) (t:Nat) (b:Bool) (x y:Nat) (g:Nat) (w:Bool):AI:=AI.mk (some d) (AOp.bin o t b (Operand.tmp x) (Operand.tmp y) (AX.t x) (AX.t y)) (some (g,w))
abbrev YCg (d:Nat) (o:BinOp) (t:Nat) (b:Bool) (x:Nat) (v:Value) (g:Nat) (w:Bool):AI:=AI.mk (some d) (AOp.bin o t b (Operand.tmp x) (Operand.const v) (AX.t x) (AX.c (AV.v v))) (some (g,w))
abbrev YS (n x y:Nat):AI:=AI.mk none (AOp.store n (AX.t x) (AX.t y)) none
abbrev YPb (d x:Nat) (b:Bool) (z:Nat):AI:=AI.mk (some d) (AOp.pick (AX.t x) (AX.c (AV.v (Value.bool b))) (AX.t z)) none
abbrev YPc (d x y:Nat) (b:Bool):AI:=AI.mk (some d) (AOp.pick (AX.t x) (AX.t y) (AX.c (AV.v (Value.bool b)))) none
abbrev YH (d f s:Nat):AI:=AI.mk (some d) (AOp.callh f [(AX.t s)]) none
abbrev YN (d:Nat) (v:Value):AI:=AI.mk (some d) (AOp.mv (AX.c (AV.v v))) none
def A3:AF:=(AF.mk 29 [(8,none)] (AC.seq (AC.region [(YN 8 (Value.bool false))]) (AC.seq (AC.region [(YM 9 0),(YQ 10 5 9),(YM 11 2),(YQ 12 5 11),(YM 0 10),(YM 2 12)]) (AC.seq (AC.region [(YM 13 0),(YQ 14 5 13),(YM 15 1),(YM 16 2),(YQ 17 5 16),(YM 18 3),(jA 19 (AOp.call 6 [(AX.t 14),(AX.t 15),(AX.t 17),(AX.t 18)])),(YM 20 0),(YM 21 1),(YM 22 2),(YM 23 3),(jA 24 (AOp.call 7 [(AX.t 20),(AX.t 21),(AX.t 22),(AX.t 23)])),(YB 25 .eql 4 false 19 24),(YM 26 25),(jC 27 (AOp.call 8 []) 26 true),(YPc 28 26 27 false),(YM 8 28)]) AC.ret))))
theorem cop3:zI Tryd.prog [16,26,30,34,40,41,43,44,45,48,55,71,72,81,87,88,91,92] 3=some A3:=by kernel_rfl
def A5:AF:=(AF.mk 37 [(2,none)] (AC.seq (AC.region [(jA 2 (AOp.mv (AX.c (AV.nl 9))))]) (AC.seq (AC.region [(jA 7 (AOp.bsl 40 9 [])),(YM 3 7),(YN 4 (Value.int IntKind.i64 1))]) (AC.seq (AC.seq (AC.region [(YN 5 (Value.int IntKind.i64 0))]) (AC.block 0 (AC.loop (AC.seq (AC.seq (AC.region [(YM 8 5),(YM 9 0),(YE 10 9),(YB 11 .lss 3 false 8 10),(YM 12 11),(YMg 13 5 12 true),(YCg 14 .lss 3 false 13 (Value.int IntKind.i64 12) 12 true),(YPc 15 12 14 false)]) (AC.cond (AX.t 15) AC.skip (AC.exit 0))) (AC.seq (AC.block 1 (AC.seq (AC.region [(YM 18 0),(YM 19 5),(YI 20 9 18 19),(YL 21 true 9 20),(YQ 22 13 21),(jA 6 (AOp.new 40 9 (AX.c (AV.agg [(jN 0),(AV.v (Value.string (ByteArray.mk #[]))),(AV.v (Value.string (ByteArray.mk #[]))),(AV.v (Value.int IntKind.u32 0)),(AV.nl 1),(jN 0),(AV.nl 2),(jN 0),(jN 0)])))),(YS 9 6 22)]) (AC.seq (AC.region [(YM 23 4),(YL 24 true 9 6),(YQ 25 14 24),(YE 26 25),(jA 27 (AOp.bi Builtin.max #[3,3] 3 #[false,true] [(AX.t 26),(jI 1)])),(YB 28 .mul 3 false 23 27),(YM 4 28)]) (AC.seq (AC.seq (AC.region [(YM 29 4),(YC 30 .gtr 3 false 29 (Value.int IntKind.i64 3000))]) (AC.cond (AX.t 30) (AC.seq (AC.region [(YM 31 3),(YM 2 31)]) AC.ret) AC.skip)) (AC.region [(YM 32 3),(YL 33 true 9 6),(jA 34 (AOp.bsl 40 9 [(AX.t 33)])),(jA 35 (AOp.app 40 9 120 (AX.t 32) (AX.t 34))),(YM 3 35)]))))) (AC.region [(YM 16 5),(YC 17 .add 3 false 16 (Value.int IntKind.i64 1)),(YM 5 17)])))))) (AC.seq (AC.region [(YM 36 3),(YM 2 36)]) AC.ret)))))
theorem cop5:zI Tryd.prog [16,26,30,34,40,41,43,44,45,48,55,71,72,81,87,88,91,92] 5=some A5:=by kernel_rfl
abbrev xG:AI:=YM 21 0
abbrev xF:AI:=YM 22 1
abbrev xE:AI:=AI.mk (some 23) (AOp.slc 9 (AX.t 21) none (some (AX.t 22))) none
abbrev xD:AI:=YM 24 9
abbrev xC:AI:=AI.mk (some 25) (AOp.callh 16 [(AX.t 23),(AX.t 24)]) none
abbrev xB:AI:=YM 26 1
abbrev xA:AI:=YI 27 1 25 26
abbrev xz:AI:=YL 28 false 1 27
abbrev xy:AI:=YM 29 2
abbrev xx:AI:=YM 30 3
abbrev Yj:AI:=AI.mk (some 31) (AOp.slc 9 (AX.t 29) none (some (AX.t 30))) none
abbrev Yi:AI:=YM 32 9
abbrev Yh:AI:=AI.mk (some 33) (AOp.callh 16 [(AX.t 31),(AX.t 32)]) none
abbrev Yg:AI:=YM 34 3
abbrev Yf:AI:=YI 35 1 33 34
abbrev Ye:AI:=YL 36 false 1 35
abbrev Yd:AI:=YB 37 .eql 3 false 28 36
abbrev Yc:AI:=YM 8 37
def A6:AF:=(AF.mk 38 [(8,none)] (AC.seq (AC.region [(YN 8 (Value.bool false))]) (AC.seq (AC.seq (AC.region [(YM 10 0),(YM 11 1),(YR 12 15 10 11),(YC 13 .neq 28 false 12 (Value.int IntKind.i64 0)),(YM 14 13),(YMg 15 2 14 false),(YMg 16 3 14 false),(YRg 17 15 15 16 14 false),(YCg 18 .neq 28 false 17 (Value.int IntKind.i64 0) 14 false),(YPb 19 14 true 18)]) (AC.cond (AX.t 19) (AC.seq (AC.region [(YN 8 (Value.bool false))]) AC.ret) AC.skip)) (AC.seq (AC.region [(jA 20 (AOp.mkm false 1)),(YM 9 20)]) (AC.seq (AC.drawx [[xG,xF,xE,xD,xC,xB,xA,xz,xy,xx,Yj,Yi,Yh,Yg,Yf,Ye,Yd,Yc],[xG,xF,xE,xD,xC,xB,xA,xy,xx,Yj,xz,Yi,Yh,Yg,Yf,Ye,Yd,Yc],[xG,xF,xE,xD,xC,xB,xA,xy,xx,Yj,Yi,Yh,xz,Yg,Yf,Ye,Yd,Yc],[xG,xF,xE,xD,xC,xB,xy,xx,Yj,xA,xz,Yi,Yh,Yg,Yf,Ye,Yd,Yc],[xG,xF,xE,xD,xC,xB,xy,xx,Yj,xA,Yi,Yh,xz,Yg,Yf,Ye,Yd,Yc],[xG,xF,xE,xD,xC,xB,xy,xx,Yj,Yi,Yh,xA,xz,Yg,Yf,Ye,Yd,Yc],[xG,xF,xE,xD,xB,xy,xx,Yj,xC,xA,xz,Yi,Yh,Yg,Yf,Ye,Yd,Yc],[xG,xF,xE,xD,xB,xy,xx,Yj,xC,xA,Yi,Yh,xz,Yg,Yf,Ye,Yd,Yc],[xG,xF,xE,xD,xB,xy,xx,Yj,xC,Yi,Yh,xA,xz,Yg,Yf,Ye,Yd,Yc]]) AC.ret)))))
theorem cop6:zI Tryd.prog [16,26,30,34,40,41,43,44,45,48,55,71,72,81,87,88,91,92] 6=some A6:=by kernel_rfl
def A7:AF:=(AF.mk 24 [(8,none)] (AC.seq (AC.region [(YN 8 (Value.bool false))]) (AC.seq (AC.region [(YM 9 0),(YM 10 1),(YR 11 17 9 10),(YM 12 11),(YMg 13 2 12 true),(YMg 14 3 12 true),(YRg 15 17 13 14 12 true),(YPc 16 12 15 false),(YM 17 16),(YMg 18 0 17 true),(YMg 19 1 17 true),(YMg 20 2 17 true),(YMg 21 3 17 true),(jC 22 (AOp.call 18 [(AX.t 18),(AX.t 19),(AX.t 20),(AX.t 21)]) 17 true),(YPc 23 17 22 false),(YM 8 23)]) AC.ret)))
theorem cop7:zI Tryd.prog [16,26,30,34,40,41,43,44,45,48,55,71,72,81,87,88,91,92] 7=some A7:=by kernel_rfl
def A8:AF:=(AF.mk 49 [(0,none)] (AC.seq (AC.region [(YN 0 (Value.bool false))]) (AC.seq (AC.region [(jA 8 (AOp.call 19 [(AX.c (AV.v (Value.string (ByteArray.mk #[97])))),(AX.c (AV.v (Value.string (ByteArray.mk #[49]))))])),(jA 9 (AOp.call 20 [(jI 1)])),(jA 10 (AOp.bsl 40 9 [(AX.t 8),(AX.t 9)])),(YM 1 10)]) (AC.seq (AC.region [(YM 12 1),(jA 13 (AOp.call 11 [(AX.t 12),(jI 2)])),(YM 11 13),(jA 14 (AOp.ext (AX.t 11) 0)),(jA 15 (AOp.ext (AX.t 11) 1)),(YM 2 14),(YM 3 15)]) (AC.seq (AC.region [(YM 17 1),(jA 18 (AOp.call 21 [(AX.t 17),(jI 2)])),(YM 16 18),(jA 19 (AOp.ext (AX.t 16) 0)),(jA 20 (AOp.ext (AX.t 16) 1)),(YM 4 19),(YM 5 20)]) (AC.seq (AC.region [(YM 22 1),(jA 23 (AOp.call 10 [(AX.t 22),(jI 2)])),(YM 21 23),(jA 24 (AOp.ext (AX.t 21) 0)),(jA 25 (AOp.ext (AX.t 21) 1)),(YM 6 24),(YM 7 25)]) (AC.seq (AC.region [(YM 26 2),(YC 27 .eql 3 false 26 (Value.int IntKind.i64 2)),(YM 28 27),(YMg 29 3 28 true),(YCg 30 .eql 28 false 29 (Value.int IntKind.i64 0) 28 true),(YPc 31 28 30 false),(YM 32 31),(YMg 33 4 32 true),(YCg 34 .eql 3 false 33 (Value.int IntKind.i64 2) 32 true),(YPc 35 32 34 false),(YM 36 35),(YMg 37 5 36 true),(YCg 38 .eql 28 false 37 (Value.int IntKind.i64 0) 36 true),(YPc 39 36 38 false),(YM 40 39),(YMg 41 6 40 true),(YEg 42 41 40 true),(YCg 43 .eql 3 false 42 (Value.int IntKind.i64 1) 40 true),(YPc 44 40 43 false),(YM 45 44),(YMg 46 7 45 true),(YCg 47 .eql 28 false 46 (Value.int IntKind.i64 0) 45 true),(YPc 48 45 47 false),(YM 0 48)]) AC.ret)))))))
theorem cop8:zI Tryd.prog [16,26,30,34,40,41,43,44,45,48,55,71,72,81,87,88,91,92] 8=some A8:=by kernel_rfl
def A9:AF:=(AF.mk 33 [(2,none)] (AC.seq (AC.region [(YN 2 (Value.int IntKind.i64 0))]) (AC.seq (AC.seq (AC.region [(YM 7 0),(YE 8 7),(YN 9 (Value.int IntKind.i64 0))]) (AC.block 0 (AC.loop (AC.seq (AC.region [(YB 10 .lss 3 false 9 8)]) (AC.seq (AC.cond (AX.t 10) AC.skip (AC.exit 0)) (AC.seq (AC.block 1 (AC.seq (AC.region [(YM 11 9),(YI 12 9 7 9),(YL 13 true 9 12),(jA 4 (AOp.new 40 9 (AX.c (AV.agg [(jN 0),(AV.v (Value.string (ByteArray.mk #[]))),(AV.v (Value.string (ByteArray.mk #[]))),(AV.v (Value.int IntKind.u32 0)),(AV.nl 1),(jN 0),(AV.nl 2),(jN 0),(jN 0)])))),(YM 3 11),(YS 9 4 13)]) (AC.seq (AC.seq (AC.region [(YL 14 true 9 4),(YQ 15 22 14),(YC 16 .neq 28 false 15 (Value.int IntKind.i64 0))]) (AC.cond (AX.t 16) (AC.seq (AC.region [(YN 2 (Value.int IntKind.i64 4))]) AC.ret) AC.skip)) (AC.seq (AC.region [(YL 17 true 9 4),(YQ 18 23 17),(YE 19 18),(YN 20 (Value.int IntKind.i64 0))]) (AC.block 2 (AC.loop (AC.seq (AC.region [(YB 21 .lss 3 false 20 19)]) (AC.seq (AC.cond (AX.t 21) AC.skip (AC.exit 2)) (AC.seq (AC.block 3 (AC.seq (AC.region [(YI 22 1 18 20),(YL 23 false 1 22),(YM 6 23)]) (AC.seq (AC.region [(YM 24 6),(YC 25 .lss 25 false 24 (Value.int IntKind.i64 1)),(YM 26 25),(YMg 27 6 26 false),(YMg 28 3 26 false),(YBg 29 .gtr 25 false 27 28 26 false),(YPb 30 26 true 29)]) (AC.cond (AX.t 30) (AC.seq (AC.region [(YN 2 (Value.int IntKind.i64 4))]) AC.ret) AC.skip)))) (AC.region [(YC 31 .add 3 false 20 (Value.int IntKind.i64 1)),(YM 20 31)])))))))))) (AC.region [(YC 32 .add 3 false 9 (Value.int IntKind.i64 1)),(YM 9 32)]))))))) (AC.seq (AC.region [(YN 2 (Value.int IntKind.i64 0))]) AC.ret))))
theorem cop9:zI Tryd.prog [16,26,30,34,40,41,43,44,45,48,55,71,72,81,87,88,91,92] 9=some A9:=by kernel_rfl
def A10:AF:=(AF.mk 107 [(4,none),(5,none)] (AC.seq (AC.region [(jA 4 (AOp.mv (AX.c (AV.nl 2)))),(YN 5 (Value.int IntKind.i64 0))]) (AC.seq (AC.seq (AC.region [(YM 16 0),(YM 17 1),(YR 18 15 16 17),(YM 6 18)]) (AC.seq (AC.region [(YM 19 6),(YC 20 .neq 28 false 19 (Value.int IntKind.i64 0))]) (AC.cond (AX.t 20) (AC.seq (AC.region [(YM 21 6),(jA 4 (AOp.mv (AX.c (AV.nl 2)))),(YM 5 21)]) AC.ret) AC.skip))) (AC.seq (AC.region [(jA 7 (AOp.mv (AX.c (AV.nl 2))))]) (AC.seq (AC.region [(YM 22 0),(YM 23 1),(jA 24 (AOp.slc 9 (AX.t 22) none (some (AX.t 23)))),(YQ 25 24 24),(YM 8 25)]) (AC.seq (AC.seq (AC.region [(YM 26 1),(jA 27 (AOp.bld [(jN 0),(AV.v (Value.bool false))] [(0,(1,(AX.t 26))),(1,(1,(jS true)))])),(jA 28 (AOp.bsl 54 2 [(AX.t 27)])),(YM 9 28)]) (AC.block 0 (AC.loop (AC.seq (AC.seq (AC.region [(YM 29 9),(YE 30 29),(YC 31 .gtr 3 false 30 (Value.int IntKind.i64 0))]) (AC.cond (AX.t 31) AC.skip (AC.exit 0))) (AC.block 1 (AC.seq (AC.region [(YM 32 9),(YM 33 9),(YE 34 33),(YC 35 .sub 3 false 34 (Value.int IntKind.i64 1)),(YI 36 2 32 35),(YL 37 true 2 36),(jA 10 (AOp.new 54 2 (AX.c (AV.agg [(jN 0),(AV.v (Value.bool false))])))),(YS 2 10 37)]) (AC.seq (AC.region [(YM 38 9),(YM 39 9),(YE 40 39),(YC 41 .sub 3 false 40 (Value.int IntKind.i64 1)),(jA 42 (AOp.slc 2 (AX.t 38) none (some (AX.t 41)))),(YM 9 42)]) (AC.seq (AC.seq (AC.region [(YF 43 0 10),(YL 44 false 1 43),(YC 45 .eql 25 false 44 (Value.int IntKind.i64 0)),(YM 46 45),(YMg 47 8 46 false),(YFg 48 0 10 46 false),(YLg 49 false 1 48 46 false),(YCg 50 .sub 25 false 49 (Value.int IntKind.i64 1) 46 false),(YIg 51 1 47 50 46 false),(YLg 52 false 1 51 46 false),(jC 53 (AOp.un UnOp.not (AX.t 52)) 46 false),(YPb 54 46 true 53)]) (AC.cond (AX.t 54) (AC.exit 1) AC.skip)) (AC.seq (AC.region [(YM 55 0),(YF 56 0 10),(YL 57 false 1 56),(YC 58 .sub 25 false 57 (Value.int IntKind.i64 1)),(YI 59 9 55 58),(YL 60 true 9 59),(jA 11 (AOp.new 40 9 (AX.c (AV.agg [(jN 0),(AV.v (Value.string (ByteArray.mk #[]))),(AV.v (Value.string (ByteArray.mk #[]))),(AV.v (Value.int IntKind.u32 0)),(AV.nl 1),(jN 0),(AV.nl 2),(jN 0),(jN 0)])))),(YS 9 11 60)]) (AC.seq (AC.seq (AC.region [(YF 61 1 10),(YL 62 false 1 61),(jA 63 (AOp.un UnOp.not (AX.t 62)))]) (AC.cond (AX.t 63) (AC.seq (AC.region [(YM 64 7),(YL 65 true 9 11),(YQ 66 25 65),(jA 67 (AOp.app 62 2 32 (AX.t 64) (AX.t 66))),(YM 7 67)]) (AC.exit 1)) AC.skip)) (AC.seq (AC.region [(YF 68 0 10),(YL 69 false 1 68),(jA 70 (AOp.bld [(jN 0),(AV.v (Value.bool false))] [(0,(1,(AX.t 69))),(1,(1,(jS false)))])),(jA 12 (AOp.new 54 2 (AX.c (AV.agg [(jN 0),(AV.v (Value.bool false))])))),(YS 2 12 70)]) (AC.seq (AC.region [(YL 71 true 2 12),(jA 72 (AOp.bsl 54 2 [(AX.t 71)])),(YM 13 72)]) (AC.seq (AC.seq (AC.region [(YL 73 true 9 11),(YQ 74 23 73),(YE 75 74),(YN 76 (Value.int IntKind.i64 0))]) (AC.block 2 (AC.loop (AC.seq (AC.region [(YB 77 .lss 3 false 76 75)]) (AC.seq (AC.cond (AX.t 77) AC.skip (AC.exit 2)) (AC.seq (AC.block 3 (AC.seq (AC.region [(YI 78 1 74 76),(YL 79 false 1 78),(YM 15 79)]) (AC.region [(YM 80 13),(YM 81 15),(jA 82 (AOp.bld [(jN 0),(AV.v (Value.bool false))] [(0,(1,(AX.t 81))),(1,(1,(jS true)))])),(jA 83 (AOp.bsl 54 2 [(AX.t 82)])),(jA 84 (AOp.app 54 2 16 (AX.t 80) (AX.t 83))),(YM 13 84)]))) (AC.region [(YC 85 .add 3 false 76 (Value.int IntKind.i64 1)),(YM 76 85)]))))))) (AC.seq (AC.seq (AC.region [(YF 86 0 11),(YL 87 false 1 86),(YC 88 .eql 3 false 87 (Value.int IntKind.i64 4))]) (AC.cond (AX.t 88) (AC.draw [(YF 89 4 11),(YL 90 false 1 89),(jA 91 (AOp.iad 1 (AX.t 90) (jI 0))),(YL 92 false 1 91),(jA 93 (AOp.bld [(jN 0),(AV.v (Value.bool false))] [(0,(1,(AX.t 92))),(1,(1,(jS true)))])),(YL 94 true 2 12),(YF 95 4 11),(YL 96 false 1 95),(jA 97 (AOp.iad 1 (AX.t 96) (jI 1))),(YL 98 false 1 97),(jA 99 (AOp.bld [(jN 0),(AV.v (Value.bool false))] [(0,(1,(AX.t 98))),(1,(1,(jS true)))])),(jA 100 (AOp.bsl 54 2 [(AX.t 93),(AX.t 94),(AX.t 99)])),(YM 13 100)]) AC.skip)) (AC.seq (AC.region [(YM 101 13),(YH 102 26 101)]) (AC.region [(YM 103 9),(YM 104 13),(jA 105 (AOp.app 54 2 16 (AX.t 103) (AX.t 104))),(YM 9 105)])))))))))))))))) (AC.seq (AC.region [(YM 106 7),(YM 4 106),(YN 5 (Value.int IntKind.i64 0))]) AC.ret)))))))
def A12:AF:=(AF.mk 26 [(4,none)] (AC.seq (AC.region [(YN 4 (Value.bool false))]) (AC.seq (AC.seq (AC.region [(YM 6 0),(YE 7 6),(YM 8 1),(YE 9 8),(YB 10 .neq 3 false 7 9)]) (AC.cond (AX.t 10) (AC.seq (AC.region [(YN 4 (Value.bool false))]) AC.ret) AC.skip)) (AC.seq (AC.seq (AC.region [(YN 5 (Value.int IntKind.i64 0))]) (AC.block 0 (AC.loop (AC.seq (AC.seq (AC.region [(YM 11 5),(YM 12 0),(YE 13 12),(YB 14 .lss 3 false 11 13)]) (AC.cond (AX.t 14) AC.skip (AC.exit 0))) (AC.seq (AC.block 1 (AC.seq (AC.draw [(YM 17 0),(YM 18 5),(YI 19 2 17 18),(YL 20 true 2 19),(YM 21 1),(YM 22 5),(YI 23 2 21 22),(YL 24 true 2 23),(jA 25 (AOp.eqs true [Kd.s,Kd.s] (AX.t 20) (AX.t 24)))]) (AC.cond (AX.t 25) (AC.seq (AC.region [(YN 4 (Value.bool false))]) AC.ret) AC.skip))) (AC.region [(YM 15 5),(YC 16 .add 3 false 15 (Value.int IntKind.i64 1)),(YM 5 16)])))))) (AC.seq (AC.region [(YN 4 (Value.bool true))]) AC.ret)))))
theorem cop12:zI Tryd.prog [16,26,30,34,40,41,43,44,45,48,55,71,72,81,87,88,91,92] 12=some A12:=by kernel_rfl
def A13:AF:=(AF.mk 26 [(2,(some (true,9)))] (AC.seq (AC.region [(AI.mk (some 1) (AOp.new 40 9 (AX.t 0)) none),(AI.mk (some 2) (AOp.new 40 9 (AX.c (AV.agg [(AV.v (Value.int IntKind.i64 0)),(AV.v (Value.string (ByteArray.mk #[]))),(AV.v (Value.string (ByteArray.mk #[]))),(AV.v (Value.int IntKind.u32 0)),(AV.nl 1),(AV.v (Value.int IntKind.i64 0)),(AV.nl 2),(AV.v (Value.int IntKind.i64 0)),(AV.v (Value.int IntKind.i64 0))]))) none)]) (AC.seq (AC.draw [(YF 3 1 1),(YL 4 false 1 3),(AI.mk (some 5) (AOp.call 28 [(AX.t 4),(AX.c (AV.v (Value.int IntKind.i64 40)))]) none),(YF 6 2 1),(YL 7 false 1 6),(AI.mk (some 8) (AOp.call 28 [(AX.t 7),(AX.c (AV.v (Value.int IntKind.i64 40)))]) none),(YF 9 1 1),(YS 1 9 5),(YF 10 2 1),(YS 1 10 8)]) (AC.seq (AC.region [(AI.mk (some 11) (AOp.bsl 25 1 []) none),(YF 12 4 1),(YL 13 false 1 12),(YF 14 4 1),(YL 15 false 1 14),(YE 16 15),(AI.mk (some 17) (AOp.bi Builtin.min #[3,3] 3 #[false,true] [(AX.t 16),(AX.c (AV.v (Value.int IntKind.i64 40)))]) none),(AI.mk (some 18) (AOp.slc 1 (AX.t 13) none (some (AX.t 17))) none),(AI.mk (some 19) (AOp.apf 25 1 8 (AX.t 11) (AX.t 18)) none),(YF 20 4 1),(YS 1 20 19)]) (AC.seq (AC.region [(YF 21 6 1),(YL 22 false 1 21),(YQ 23 29 22),(YF 24 6 1),(YS 1 24 23)]) (AC.seq (AC.region [(YL 25 true 9 1),(YS 9 2 25)]) AC.ret))))))
theorem cop13:zI Tryd.prog [16,26,30,34,40,41,43,44,45,48,55,71,72,81,87,88,91,92] 13=some A13:=by kernel_rfl
def A14:AF:=(AF.mk 36 [(2,none)] (AC.seq (AC.region [(jA 1 (AOp.new 40 9 (AX.t 0))),(jA 2 (AOp.mv (AX.c (AV.nl 1))))]) (AC.seq (AC.region [(jA 5 (AOp.bsl 25 1 [])),(YM 3 5)]) (AC.seq (AC.seq (AC.region [(YN 4 (Value.int IntKind.i64 0))]) (AC.block 0 (AC.loop (AC.seq (AC.seq (AC.region [(YM 6 4),(YF 7 4 1),(YL 8 false 1 7),(YE 9 8),(YB 10 .lss 3 false 6 9)]) (AC.cond (AX.t 10) AC.skip (AC.exit 0))) (AC.seq (AC.block 1 (AC.seq (AC.region [(YF 13 4 1),(YL 14 false 1 13),(YM 15 4),(YI 16 1 14 15),(YL 17 false 1 16),(YC 18 .neq 25 false 17 (Value.int IntKind.i64 0))]) (AC.cond (AX.t 18) (AC.region [(YM 19 3),(YF 20 4 1),(YL 21 false 1 20),(YM 22 4),(YI 23 1 21 22),(YL 24 false 1 23),(jA 25 (AOp.bsl 25 1 [(AX.t 24)])),(jA 26 (AOp.app 25 1 8 (AX.t 19) (AX.t 25))),(YM 3 26)]) AC.skip))) (AC.region [(YM 11 4),(YC 12 .add 3 false 11 (Value.int IntKind.i64 1)),(YM 4 12)])))))) (AC.seq (AC.seq (AC.region [(YF 27 5 1),(YL 28 false 1 27),(YC 29 .neq 25 false 28 (Value.int IntKind.i64 0))]) (AC.cond (AX.t 29) (AC.region [(YM 30 3),(YF 31 5 1),(YL 32 false 1 31),(jA 33 (AOp.bsl 25 1 [(AX.t 32)])),(jA 34 (AOp.app 25 1 8 (AX.t 30) (AX.t 33))),(YM 3 34)]) AC.skip)) (AC.seq (AC.region [(YM 35 3),(YM 2 35)]) AC.ret))))))
theorem cop14:zI Tryd.prog [16,26,30,34,40,41,43,44,45,48,55,71,72,81,87,88,91,92] 14=some A14:=by kernel_rfl
def A15:AF:=(AF.mk 15 [(4,none)] (AC.seq (AC.region [(YN 4 (Value.int IntKind.i64 0))]) (AC.seq (AC.seq (AC.region [(YM 5 1),(YC 6 .lss 25 false 5 (Value.int IntKind.i64 0)),(YM 7 6),(YMg 8 1 7 false),(YMg 9 0 7 false),(YEg 10 9 7 false),(YBg 11 .gtr 25 false 8 10 7 false),(YPb 12 7 true 11)]) (AC.cond (AX.t 12) (AC.seq (AC.region [(YN 4 (Value.int IntKind.i64 4))]) AC.ret) AC.skip)) (AC.seq (AC.region [(YM 13 0),(YQ 14 9 13),(YM 4 14)]) AC.ret))))
theorem cop15:zI Tryd.prog [16,26,30,34,40,41,43,44,45,48,55,71,72,81,87,88,91,92] 15=some A15:=by kernel_rfl
def A16:AF:=(AF.mk 41 [(4,none)] (AC.seq (AC.region [(jA 4 (AOp.mv (AX.c (AV.nl 1))))]) (AC.seq (AC.region [(YM 9 0),(YE 10 9),(YC 11 .add 3 false 10 (Value.int IntKind.i64 1)),(jA 12 (AOp.mks 3 1 8 (jN 0) (AX.t 11) (AX.t 11))),(YM 5 12)]) (AC.seq (AC.seq (AC.region [(YM 13 0),(YE 14 13),(YN 15 (Value.int IntKind.i64 0))]) (AC.block 0 (AC.loop (AC.seq (AC.region [(YB 16 .lss 3 false 15 14)]) (AC.seq (AC.cond (AX.t 16) AC.skip (AC.exit 0)) (AC.seq (AC.block 1 (AC.seq (AC.region [(YM 17 15),(YI 18 9 13 15),(YL 19 true 9 18),(jA 7 (AOp.new 40 9 (AX.c (AV.agg [(jN 0),(AV.v (Value.string (ByteArray.mk #[]))),(AV.v (Value.string (ByteArray.mk #[]))),(AV.v (Value.int IntKind.u32 0)),(AV.nl 1),(jN 0),(AV.nl 2),(jN 0),(jN 0)])))),(YM 6 17),(YS 9 7 19)]) (AC.seq (AC.region [(YL 20 true 9 7),(YM 21 5),(jA 22 (AOp.callh 30 [(AX.t 20),(AX.t 21)])),(YM 8 22)]) (AC.seq (AC.seq (AC.region [(YM 23 1),(YM 24 8),(jA 25 (AOp.lkp Kd.s false (jN 0) (AX.t 23) (AX.t 24))),(YC 26 .eql 3 false 25 (Value.int IntKind.i64 0))]) (AC.cond (AX.t 26) (AC.region [(YM 27 1),(YM 28 8),(YM 29 1),(jA 30 (AOp.lnm (AX.t 29))),(YC 31 .add 3 false 30 (Value.int IntKind.i64 1)),(jB (AOp.mup Kd.s (AX.t 27) (AX.t 28) (AX.t 31)))]) AC.skip)) (AC.region [(YM 32 5),(YM 33 6),(YC 34 .add 3 false 33 (Value.int IntKind.i64 1)),(YM 35 1),(YM 36 8),(jA 37 (AOp.lkp Kd.s false (jN 0) (AX.t 35) (AX.t 36))),(YI 38 1 32 34),(YS 1 38 37)]))))) (AC.region [(YC 39 .add 3 false 15 (Value.int IntKind.i64 1)),(YM 15 39)]))))))) (AC.seq (AC.region [(YM 40 5),(YM 4 40)]) AC.ret)))))
theorem cop16:zI Tryd.prog [16,26,30,34,40,41,43,44,45,48,55,71,72,81,87,88,91,92] 16=some A16:=by kernel_rfl
def A17:AF:=(AF.mk 17 [(4,none)] (AC.seq (AC.region [(YN 4 (Value.bool false))]) (AC.seq (AC.region [(YM 5 1),(YC 6 .geq 25 false 5 (Value.int IntKind.i64 0)),(YM 7 6),(YMg 8 1 7 true),(YMg 9 0 7 true),(YEg 10 9 7 true),(YBg 11 .leq 3 false 8 10 7 true),(YPc 12 7 11 false),(YM 13 12),(YMg 14 0 13 true),(YQg 15 31 14 13 true),(YPc 16 13 15 false),(YM 4 16)]) AC.ret)))
theorem cop17:zI Tryd.prog [16,26,30,34,40,41,43,44,45,48,55,71,72,81,87,88,91,92] 17=some A17:=by kernel_rfl
abbrev Wk:AI:=YN 8 (Value.bool false)
abbrev Zi:AI:=YM 24 0
abbrev Zh:AI:=YM 25 1
abbrev Zg:AI:=YC 26 .sub 25 false 25 (Value.int IntKind.i64 1)
abbrev Zf:AI:=YI 27 9 24 26
abbrev Ze:AI:=YL 28 true 9 27
abbrev Zd:AI:=YM 29 2
abbrev Zc:AI:=YM 30 3
abbrev Zb:AI:=YC 31 .sub 25 false 30 (Value.int IntKind.i64 1)
abbrev Za:AI:=YI 32 9 29 31
abbrev zQ:AI:=YL 33 true 9 32
abbrev zP:AI:=AI.mk (some 9) (AOp.new 40 9 (AX.c (AV.agg [(AV.v (Value.int IntKind.i64 0)),(AV.v (Value.string (ByteArray.mk #[]))),(AV.v (Value.string (ByteArray.mk #[]))),(AV.v (Value.int IntKind.u32 0)),(AV.nl 1),(AV.v (Value.int IntKind.i64 0)),(AV.nl 2),(AV.v (Value.int IntKind.i64 0)),(AV.v (Value.int IntKind.i64 0))]))) none
abbrev zO:AI:=AI.mk (some 10) (AOp.new 40 9 (AX.c (AV.agg [(AV.v (Value.int IntKind.i64 0)),(AV.v (Value.string (ByteArray.mk #[]))),(AV.v (Value.string (ByteArray.mk #[]))),(AV.v (Value.int IntKind.u32 0)),(AV.nl 1),(AV.v (Value.int IntKind.i64 0)),(AV.nl 2),(AV.v (Value.int IntKind.i64 0)),(AV.v (Value.int IntKind.i64 0))]))) none
abbrev zK:AI:=YS 9 9 28
abbrev zJ:AI:=YS 9 10 33
def A18:AF:=(AF.mk 79 [(8,none)] (AC.seq (AC.region [Wk]) (AC.seq (AC.seq (AC.region [(YM 12 1),(YC 13 .eql 25 false 12 (Value.int IntKind.i64 0)),(YM 14 13),(YMg 15 3 14 false),(YCg 16 .eql 25 false 15 (Value.int IntKind.i64 0) 14 false),(YPb 17 14 true 16)]) (AC.cond (AX.t 17) (AC.seq (AC.region [(YM 18 1),(YC 19 .eql 25 false 18 (Value.int IntKind.i64 0)),(YM 20 19),(YMg 21 3 20 true),(YCg 22 .eql 25 false 21 (Value.int IntKind.i64 0) 20 true),(YPc 23 20 22 false),(YM 8 23)]) AC.ret) AC.skip)) (AC.seq (AC.drawx [[Zi,Zh,Zg,Zf,Ze,Zd,Zc,Zb,Za,zQ,zP,zO,zK,zJ],[Zi,Zh,Zg,Zf,Ze,Zd,Zc,Zb,Za,zQ,zO,zP,zK,zJ],[Zi,Zh,Zg,Zf,Ze,Zd,Zc,Zb,Za,zP,zQ,zO,zK,zJ],[Zi,Zh,Zg,Zf,Ze,Zd,Zc,Zb,Za,zP,zO,zQ,zK,zJ],[Zi,Zh,Zg,Zf,Ze,Zd,Zc,Zb,Za,zP,zO,zK,zQ,zJ],[Zi,Zh,Zg,Zf,Ze,Zd,Zc,Zb,Za,zO,zQ,zP,zK,zJ],[Zi,Zh,Zg,Zf,Ze,Zd,Zc,Zb,Za,zO,zP,zQ,zK,zJ],[Zi,Zh,Zg,Zf,Ze,Zd,Zc,Zb,Za,zO,zP,zK,zQ,zJ],[Zi,Zh,Zg,Zf,Ze,Zd,Zc,Zb,zP,Za,zQ,zO,zK,zJ],[Zi,Zh,Zg,Zf,Ze,Zd,Zc,Zb,zP,Za,zO,zQ,zK,zJ],[Zi,Zh,Zg,Zf,Ze,Zd,Zc,Zb,zP,Za,zO,zK,zQ,zJ],[Zi,Zh,Zg,Zf,Ze,Zd,Zc,Zb,zP,zO,Za,zQ,zK,zJ],[Zi,Zh,Zg,Zf,Ze,Zd,Zc,Zb,zP,zO,Za,zK,zQ,zJ],[Zi,Zh,Zg,Zf,Ze,Zd,Zc,Zb,zP,zO,zK,Za,zQ,zJ],[Zi,Zh,Zg,Zf,Ze,Zd,Zc,Zb,zO,Za,zQ,zP,zK,zJ],[Zi,Zh,Zg,Zf,Ze,Zd,Zc,Zb,zO,Za,zP,zQ,zK,zJ],[Zi,Zh,Zg,Zf,Ze,Zd,Zc,Zb,zO,Za,zP,zK,zQ,zJ],[Zi,Zh,Zg,Zf,Ze,Zd,Zc,Zb,zO,zP,Za,zQ,zK,zJ],[Zi,Zh,Zg,Zf,Ze,Zd,Zc,Zb,zO,zP,Za,zK,zQ,zJ],[Zi,Zh,Zg,Zf,Ze,Zd,Zc,Zb,zO,zP,zK,Za,zQ,zJ],[Zi,Zh,Zg,Zf,Ze,Zd,Zc,zP,Zb,Za,zQ,zO,zK,zJ],[Zi,Zh,Zg,Zf,Ze,Zd,Zc,zP,Zb,Za,zO,zQ,zK,zJ],[Zi,Zh,Zg,Zf,Ze,Zd,Zc,zP,Zb,Za,zO,zK,zQ,zJ],[Zi,Zh,Zg,Zf,Ze,Zd,Zc,zP,Zb,zO,Za,zQ,zK,zJ],[Zi,Zh,Zg,Zf,Ze,Zd,Zc,zP,Zb,zO,Za,zK,zQ,zJ],[Zi,Zh,Zg,Zf,Ze,Zd,Zc,zP,Zb,zO,zK,Za,zQ,zJ],[Zi,Zh,Zg,Zf,Ze,Zd,Zc,zP,zO,Zb,Za,zQ,zK,zJ],[Zi,Zh,Zg,Zf,Ze,Zd,Zc,zP,zO,Zb,Za,zK,zQ,zJ],[Zi,Zh,Zg,Zf,Ze,Zd,Zc,zP,zO,Zb,zK,Za,zQ,zJ],[Zi,Zh,Zg,Zf,Ze,Zd,Zc,zP,zO,zK,Zb,Za,zQ,zJ],[Zi,Zh,Zg,Zf,Ze,Zd,Zc,zO,Zb,Za,zQ,zP,zK,zJ],[Zi,Zh,Zg,Zf,Ze,Zd,Zc,zO,Zb,Za,zP,zQ,zK,zJ],[Zi,Zh,Zg,Zf,Ze,Zd,Zc,zO,Zb,Za,zP,zK,zQ,zJ],[Zi,Zh,Zg,Zf,Ze,Zd,Zc,zO,Zb,zP,Za,zQ,zK,zJ],[Zi,Zh,Zg,Zf,Ze,Zd,Zc,zO,Zb,zP,Za,zK,zQ,zJ],[Zi,Zh,Zg,Zf,Ze,Zd,Zc,zO,Zb,zP,zK,Za,zQ,zJ],[Zi,Zh,Zg,Zf,Ze,Zd,Zc,zO,zP,Zb,Za,zQ,zK,zJ],[Zi,Zh,Zg,Zf,Ze,Zd,Zc,zO,zP,Zb,Za,zK,zQ,zJ],[Zi,Zh,Zg,Zf,Ze,Zd,Zc,zO,zP,Zb,zK,Za,zQ,zJ],[Zi,Zh,Zg,Zf,Ze,Zd,Zc,zO,zP,zK,Zb,Za,zQ,zJ]]) (AC.seq (AC.seq (AC.region [(YF 34 4 9),(YL 35 false 1 34),(YE 36 35),(YF 37 4 10),(YL 38 false 1 37),(YE 39 38),(YB 40 .neq 3 false 36 39)]) (AC.cond (AX.t 40) (AC.seq (AC.region [Wk]) AC.ret) AC.skip)) (AC.seq (AC.seq (AC.region [(YN 11 (Value.int IntKind.i64 0))]) (AC.block 0 (AC.loop (AC.seq (AC.seq (AC.region [(YM 41 11),(YF 42 4 9),(YL 43 false 1 42),(YE 44 43),(YB 45 .lss 3 false 41 44)]) (AC.cond (AX.t 45) AC.skip (AC.exit 0))) (AC.seq (AC.block 1 (AC.seq (AC.draw [(YM 48 0),(YF 49 4 9),(YL 50 false 1 49),(YM 51 11),(YI 52 1 50 51),(YL 53 false 1 52),(YM 54 2),(YF 55 4 10),(YL 56 false 1 55),(YM 57 11),(YI 58 1 56 57),(YL 59 false 1 58),(jA 60 (AOp.call 18 [(AX.t 48),(AX.t 53),(AX.t 54),(AX.t 59)])),(jA 61 (AOp.un UnOp.not (AX.t 60)))]) (AC.cond (AX.t 61) (AC.seq (AC.region [Wk]) AC.ret) AC.skip))) (AC.region [(YM 46 11),(YC 47 .add 3 false 46 (Value.int IntKind.i64 1)),(YM 11 47)])))))) (AC.seq (AC.seq (AC.region [(YM 62 0),(YF 63 5 9),(YL 64 false 1 63),(YM 65 2),(YF 66 5 10),(YL 67 false 1 66),(jA 68 (AOp.call 18 [(AX.t 62),(AX.t 64),(AX.t 65),(AX.t 67)])),(jA 69 (AOp.un UnOp.not (AX.t 68)))]) (AC.cond (AX.t 69) (AC.seq (AC.region [Wk]) AC.ret) AC.skip)) (AC.seq (AC.region [(YF 70 4 9),(jB (AOp.store 1 (AX.t 70) (AX.c (AV.nl 1)))),(YF 71 5 9),(jB (AOp.store 1 (AX.t 71) (jI 0))),(YF 72 8 9),(jB (AOp.store 1 (AX.t 72) (jI 0)))]) (AC.seq (AC.region [(YF 73 4 10),(jB (AOp.store 1 (AX.t 73) (AX.c (AV.nl 1)))),(YF 74 5 10),(jB (AOp.store 1 (AX.t 74) (jI 0))),(YF 75 8 10),(jB (AOp.store 1 (AX.t 75) (jI 0)))]) (AC.seq (AC.region [(YL 76 true 9 9),(YL 77 true 9 10),(YR 78 32 76 77),(YM 8 78)]) AC.ret))))))))))
theorem cop18:zI Tryd.prog [16,26,30,34,40,41,43,44,45,48,55,71,72,81,87,88,91,92] 18=some A18:=by kernel_rfl
def A19:AF:=(AF.mk 8 [(4,(some (true,9)))] (AC.seq (AC.region [(jA 4 (AOp.new 40 9 (AX.c (AV.agg [(jN 0),(AV.v (Value.string (ByteArray.mk #[]))),(AV.v (Value.string (ByteArray.mk #[]))),(AV.v (Value.int IntKind.u32 0)),(AV.nl 1),(jN 0),(AV.nl 2),(jN 0),(jN 0)]))))]) (AC.seq (AC.region [(YM 5 0),(YM 6 1),(jA 7 (AOp.bld [(jN 0),(AV.v (Value.string (ByteArray.mk #[]))),(AV.v (Value.string (ByteArray.mk #[]))),(AV.v (Value.int IntKind.u32 0)),(AV.nl 1),(jN 0),(AV.nl 2),(jN 0),(jN 0)] [(0,(1,(jI 1))),(1,(1,(AX.t 5))),(2,(1,(AX.t 6))),(7,(1,(jI 1)))])),(YS 9 4 7)]) AC.ret)))
theorem cop19:zI Tryd.prog [16,26,30,34,40,41,43,44,45,48,55,71,72,81,87,88,91,92] 19=some A19:=by kernel_rfl
def A20:AF:=(AF.mk 5 [(2,(some (true,9)))] (AC.seq (AC.region [(jA 2 (AOp.new 40 9 (AX.c (AV.agg [(jN 0),(AV.v (Value.string (ByteArray.mk #[]))),(AV.v (Value.string (ByteArray.mk #[]))),(AV.v (Value.int IntKind.u32 0)),(AV.nl 1),(jN 0),(AV.nl 2),(jN 0),(jN 0)]))))]) (AC.seq (AC.region [(YM 3 0),(jA 4 (AOp.bld [(jN 0),(AV.v (Value.string (ByteArray.mk #[]))),(AV.v (Value.string (ByteArray.mk #[]))),(AV.v (Value.int IntKind.u32 0)),(AV.nl 1),(jN 0),(AV.nl 2),(jN 0),(jN 0)] [(0,(1,(jI 5))),(5,(1,(AX.t 3)))])),(YS 9 2 4)]) AC.ret)))
theorem cop20:zI Tryd.prog [16,26,30,34,40,41,43,44,45,48,55,71,72,81,87,88,91,92] 20=some A20:=by kernel_rfl
def A21:AF:=(AF.mk 64 [(4,none),(5,none)] (AC.seq (AC.region [(YN 4 (Value.int IntKind.i64 0)),(YN 5 (Value.int IntKind.i64 0))]) (AC.seq (AC.seq (AC.region [(YM 12 0),(YM 13 1),(YR 14 15 12 13),(YM 6 14)]) (AC.seq (AC.region [(YM 15 6),(YC 16 .neq 28 false 15 (Value.int IntKind.i64 0))]) (AC.cond (AX.t 16) (AC.seq (AC.region [(YM 17 6),(YN 4 (Value.int IntKind.i64 0)),(YM 5 17)]) AC.ret) AC.skip))) (AC.seq (AC.region [(YM 18 1),(YC 19 .add 25 false 18 (Value.int IntKind.i64 1)),(jA 20 (AOp.mks 3 1 8 (jN 0) (AX.t 19) (AX.t 19))),(YM 7 20)]) (AC.seq (AC.seq (AC.region [(YM 21 0),(YM 22 1),(jA 23 (AOp.slc 9 (AX.t 21) none (some (AX.t 22)))),(YE 24 23),(YN 25 (Value.int IntKind.i64 0))]) (AC.block 0 (AC.loop (AC.seq (AC.region [(YB 26 .lss 3 false 25 24)]) (AC.seq (AC.cond (AX.t 26) AC.skip (AC.exit 0)) (AC.seq (AC.block 1 (AC.seq (AC.region [(YM 27 25),(YI 28 9 23 25),(YL 29 true 9 28),(jA 9 (AOp.new 40 9 (AX.c (AV.agg [(jN 0),(AV.v (Value.string (ByteArray.mk #[]))),(AV.v (Value.string (ByteArray.mk #[]))),(AV.v (Value.int IntKind.u32 0)),(AV.nl 1),(jN 0),(AV.nl 2),(jN 0),(jN 0)])))),(YM 8 27),(YS 9 9 29)]) (AC.seq (AC.seq (AC.region [(YL 30 true 9 9),(YQ 31 23 30),(YE 32 31),(YN 33 (Value.int IntKind.i64 0))]) (AC.block 2 (AC.loop (AC.seq (AC.region [(YB 34 .lss 3 false 33 32)]) (AC.seq (AC.cond (AX.t 34) AC.skip (AC.exit 2)) (AC.seq (AC.block 3 (AC.seq (AC.region [(YI 35 1 31 33),(YL 36 false 1 35),(YM 11 36)]) (AC.draw [(YM 37 7),(YM 38 8),(YC 39 .add 3 false 38 (Value.int IntKind.i64 1)),(YM 40 7),(YM 41 8),(YC 42 .add 3 false 41 (Value.int IntKind.i64 1)),(YI 43 1 40 42),(YL 44 false 1 43),(YM 45 7),(YM 46 11),(YI 47 1 45 46),(YL 48 false 1 47),(jA 49 (AOp.bi Builtin.max #[3,3] 3 #[false,false] [(AX.t 44),(AX.t 48)])),(YI 50 1 37 39),(YS 1 50 49)]))) (AC.region [(YC 51 .add 3 false 33 (Value.int IntKind.i64 1)),(YM 33 51)]))))))) (AC.region [(YM 52 7),(YM 53 8),(YC 54 .add 3 false 53 (Value.int IntKind.i64 1)),(YI 55 1 52 54),(YL 56 false 1 55),(YC 57 .add 3 false 56 (Value.int IntKind.i64 1)),(YI 58 1 52 54),(YS 1 58 57)])))) (AC.region [(YC 59 .add 3 false 25 (Value.int IntKind.i64 1)),(YM 25 59)]))))))) (AC.seq (AC.region [(YM 60 7),(YM 61 1),(YI 62 1 60 61),(YL 63 false 1 62),(YM 4 63),(YN 5 (Value.int IntKind.i64 0))]) AC.ret))))))
def A22:AF:=(AF.mk 28 [(2,none)] (AC.seq (AC.region [(jA 1 (AOp.new 40 9 (AX.t 0))),(YN 2 (Value.int IntKind.i64 0))]) (AC.seq (AC.block 0 (AC.seq (AC.region [(YF 4 0 1),(YL 5 false 1 4),(YC 6 .lss 3 false 5 (Value.int IntKind.i64 1)),(YM 7 6),(YFg 8 0 1 7 false),(YLg 9 false 1 8 7 false),(YCg 10 .gtr 3 false 9 (Value.int IntKind.i64 6) 7 false),(YPb 11 7 true 10),(YM 3 11)]) (AC.cond (AX.t 3) (AC.seq (AC.region [(YN 2 (Value.int IntKind.i64 11))]) AC.ret) (AC.seq (AC.region [(YF 13 1 1),(YL 14 false 1 13),(YF 15 2 1),(YL 16 false 1 15),(jA 17 (AOp.bld [(AV.v (Value.string (ByteArray.mk #[]))),(AV.v (Value.string (ByteArray.mk #[])))] [(0,(1,(AX.t 14))),(1,(1,(AX.t 16)))])),(YQ 18 33 17),(YM 19 18),(YFg 20 6 1 19 false),(YLg 21 false 1 20 19 false),(jC 22 (AOp.callh 34 [(AX.t 21),(AX.c (AV.v (Value.func (Go.Fn.func 33) #[] #[])))]) 19 false),(YPb 23 19 true 22),(YM 12 23)]) (AC.cond (AX.t 12) (AC.seq (AC.region [(YN 2 (Value.int IntKind.i64 6))]) AC.ret) (AC.seq (AC.region [(YL 25 true 9 1),(YQ 26 35 25),(jA 27 (AOp.un UnOp.not (AX.t 26))),(YM 24 27)]) (AC.cond (AX.t 24) (AC.seq (AC.region [(YN 2 (Value.int IntKind.i64 4))]) AC.ret) AC.skip))))))) (AC.seq (AC.region [(YN 2 (Value.int IntKind.i64 0))]) AC.ret))))
theorem cop22:zI Tryd.prog [16,26,30,34,40,41,43,44,45,48,55,71,72,81,87,88,91,92] 22=some A22:=by kernel_rfl
def A24:AF:=(AF.mk 49 [(2,none)] (AC.seq (AC.region [(jA 2 (AOp.mv (AX.c (AV.nl 1))))]) (AC.seq (AC.region [(YM 8 0),(YE 9 8),(jA 10 (AOp.mks 4 1 1 (AV.v (Value.bool false)) (AX.t 9) (AX.t 9))),(YM 3 10)]) (AC.seq (AC.seq (AC.region [(YM 11 0),(YE 12 11),(YN 13 (Value.int IntKind.i64 0))]) (AC.block 0 (AC.loop (AC.seq (AC.region [(YB 14 .lss 3 false 13 12)]) (AC.seq (AC.cond (AX.t 14) AC.skip (AC.exit 0)) (AC.seq (AC.block 1 (AC.seq (AC.region [(YM 15 13),(YI 16 9 11 13),(YL 17 true 9 16),(jA 5 (AOp.new 40 9 (AX.c (AV.agg [(jN 0),(AV.v (Value.string (ByteArray.mk #[]))),(AV.v (Value.string (ByteArray.mk #[]))),(AV.v (Value.int IntKind.u32 0)),(AV.nl 1),(jN 0),(AV.nl 2),(jN 0),(jN 0)])))),(YM 4 15),(YS 9 5 17)]) (AC.seq (AC.region [(YM 18 3),(YM 19 4),(YL 20 true 9 5),(YQ 21 25 20),(YE 22 21),(YC 23 .gtr 3 false 22 (Value.int IntKind.i64 0)),(YI 24 1 18 19),(YS 1 24 23)]) (AC.seq (AC.region [(YL 25 true 9 5),(YQ 26 23 25),(YE 27 26),(YN 28 (Value.int IntKind.i64 0))]) (AC.block 2 (AC.loop (AC.seq (AC.region [(YB 29 .lss 3 false 28 27)]) (AC.seq (AC.cond (AX.t 29) AC.skip (AC.exit 2)) (AC.seq (AC.block 3 (AC.seq (AC.region [(YI 30 1 26 28),(YL 31 false 1 30),(YM 7 31)]) (AC.region [(YM 32 3),(YM 33 4),(YM 34 3),(YM 35 4),(YI 36 1 34 35),(YL 37 false 1 36),(YM 38 37),(YMg 39 3 38 false),(YMg 40 7 38 false),(YCg 41 .sub 25 false 40 (Value.int IntKind.i64 1) 38 false),(YIg 42 1 39 41 38 false),(YLg 43 false 1 42 38 false),(YPb 44 38 true 43),(YI 45 1 32 33),(YS 1 45 44)]))) (AC.region [(YC 46 .add 3 false 28 (Value.int IntKind.i64 1)),(YM 28 46)])))))))))) (AC.region [(YC 47 .add 3 false 13 (Value.int IntKind.i64 1)),(YM 13 47)]))))))) (AC.seq (AC.region [(YM 48 3),(YM 2 48)]) AC.ret)))))
def A25:AF:=(AF.mk 20 [(2,none)] (AC.seq (AC.region [(jA 1 (AOp.new 40 9 (AX.t 0))),(jA 2 (AOp.mv (AX.c (AV.nl 2))))]) (AC.seq (AC.seq (AC.region [(YF 3 0 1),(YL 4 false 1 3)]) (AC.block 0 (AC.seq (AC.seq (AC.region [(YC 6 .eql 3 false 4 (Value.int IntKind.i64 1)),(YM 5 6)]) (AC.cond (AX.t 5) AC.skip (AC.seq (AC.region [(YC 7 .eql 3 false 4 (Value.int IntKind.i64 6)),(YM 5 7)]) (AC.cond (AX.t 5) AC.skip (AC.region [(YC 8 .eql 3 false 4 (Value.int IntKind.i64 4)),(YM 5 8)]))))) (AC.cond (AX.t 5) (AC.seq (AC.region [(YF 9 1 1),(YL 10 false 1 9),(YF 11 2 1),(YL 12 false 1 11),(jA 13 (AOp.bld [(AV.v (Value.string (ByteArray.mk #[]))),(AV.v (Value.string (ByteArray.mk #[])))] [(0,(1,(AX.t 10))),(1,(1,(AX.t 12)))])),(jA 14 (AOp.bsl 62 2 [(AX.t 13)])),(YM 2 14)]) AC.ret) (AC.seq (AC.region [(YC 16 .eql 3 false 4 (Value.int IntKind.i64 3)),(YM 15 16)]) (AC.cond (AX.t 15) (AC.seq (AC.region [(YF 17 6 1),(YL 18 false 1 17),(YQ 19 37 18),(YM 2 19)]) AC.ret) AC.skip)))))) (AC.seq (AC.region [(jA 2 (AOp.mv (AX.c (AV.nl 2))))]) AC.ret))))
def A26:AF:=(AF.mk 28 [] (AC.seq (AC.region [(YM 4 0),(YE 5 4),(YC 6 .sub 3 false 5 (Value.int IntKind.i64 1)),(YN 2 (Value.int IntKind.i64 0)),(YM 3 6)]) (AC.block 0 (AC.loop (AC.seq (AC.seq (AC.region [(YM 7 2),(YM 8 3),(YB 9 .lss 3 false 7 8)]) (AC.cond (AX.t 9) AC.skip (AC.exit 0))) (AC.seq (AC.block 1 (AC.draw [(YM 14 0),(YM 15 2),(YM 16 0),(YM 17 3),(YM 18 0),(YM 19 3),(YI 20 2 18 19),(YL 21 true 2 20),(YM 22 0),(YM 23 2),(YI 24 2 22 23),(YL 25 true 2 24),(YI 26 2 14 15),(YS 2 26 21),(YI 27 2 16 17),(YS 2 27 25)])) (AC.region [(YM 10 2),(YC 11 .add 3 false 10 (Value.int IntKind.i64 1)),(YM 12 3),(YC 13 .sub 3 false 12 (Value.int IntKind.i64 1)),(YM 2 11),(YM 3 13)])))))))
def A27:AF:=(AF.mk 15 [(4,none)] (AC.seq (AC.region [(YN 4 Value.nilFunc)]) (AC.seq (AC.region [(jA 6 (AOp.bsl 25 1 [])),(jA 5 (AOp.new 38 1 (AX.c (AV.nl 1)))),(YS 1 5 6)]) (AC.seq (AC.seq (AC.region [(YM 7 0),(YM 8 1),(YR 9 15 7 8),(YC 10 .eql 28 false 9 (Value.int IntKind.i64 0))]) (AC.cond (AX.t 10) (AC.region [(YM 11 0),(YM 12 1),(YR 13 38 11 12),(YS 1 5 13)]) AC.skip)) (AC.seq (AC.region [(jA 14 (AOp.mkf 39 [(AX.t 5)])),(YM 4 14)]) AC.ret)))))
def A28:AF:=(AF.mk 11 [(4,none)] (AC.seq (AC.region [(YN 4 (Value.string (ByteArray.mk #[])))]) (AC.seq (AC.region [(YM 5 0),(YM 6 0),(AI.mk (some 7) (AOp.lns (AX.t 6)) none),(YM 8 1),(AI.mk (some 9) (AOp.bi Builtin.min #[3,3] 3 #[false,false] [(AX.t 7),(AX.t 8)]) none),(AI.mk (some 10) (AOp.sls 9 (AX.t 5) none (some (AX.t 9))) none),(YM 4 10)]) AC.ret)))
theorem cop28:zI Tryd.prog [16,26,30,34,40,41,43,44,45,48,55,71,72,81,87,88,91,92] 28=some A28:=by kernel_rfl
def A29:AF:=(AF.mk 33 [(2,none)] (AC.seq (AC.region [(AI.mk (some 2) (AOp.mv (AX.c (AV.nl 2))) none)]) (AC.seq (AC.region [(AI.mk (some 5) (AOp.bsl 62 2 []) none),(YM 3 5)]) (AC.seq (AC.seq (AC.region [(YN 4 (Value.int IntKind.i64 0))]) (AC.block 0 (AC.loop (AC.seq (AC.seq (AC.region [(YM 6 4),(YM 7 0),(YE 8 7),(YB 9 .lss 3 false 6 8),(YM 10 9),(YMg 11 4 10 true),(YCg 12 .lss 3 false 11 (Value.int IntKind.i64 40) 10 true),(YPc 13 10 12 false)]) (AC.cond (AX.t 13) AC.skip (AC.exit 0))) (AC.seq (AC.block 1 (AC.draw [(YM 16 3),(YM 17 0),(YM 18 4),(YI 19 2 17 18),(YF 20 0 19),(YL 21 false 1 20),(AI.mk (some 22) (AOp.call 28 [(AX.t 21),(AX.c (AV.v (Value.int IntKind.i64 40)))]) none),(YM 23 0),(YM 24 4),(YI 25 2 23 24),(YF 26 1 25),(YL 27 false 1 26),(AI.mk (some 28) (AOp.call 28 [(AX.t 27),(AX.c (AV.v (Value.int IntKind.i64 40)))]) none),(AI.mk (some 29) (AOp.bld [(AV.v (Value.string (ByteArray.mk #[]))),(AV.v (Value.string (ByteArray.mk #[])))] [(0,(1,(AX.t 22))),(1,(1,(AX.t 28)))]) none),(AI.mk (some 30) (AOp.bsl 62 2 [(AX.t 29)]) none),(AI.mk (some 31) (AOp.app 62 2 32 (AX.t 16) (AX.t 30)) none),(YM 3 31)])) (AC.region [(YM 14 4),(YC 15 .add 3 false 14 (Value.int IntKind.i64 1)),(YM 4 15)])))))) (AC.seq (AC.region [(YM 32 3),(YM 2 32)]) AC.ret)))))
theorem cop29:zI Tryd.prog [16,26,30,34,40,41,43,44,45,48,55,71,72,81,87,88,91,92] 29=some A29:=by kernel_rfl
def A30:AF:=(AF.mk 78 [(4,none)] (AC.seq (AC.region [(jA 2 (AOp.new 40 9 (AX.t 0))),(YN 4 (Value.string (ByteArray.mk #[])))]) (AC.seq (AC.region [(jA 5 (AOp.new 77 2 (AX.c (AV.agg [(AV.v (Value.pointer none)),(AV.nl 1)]))))]) (AC.seq (AC.region [(jA 12 (AOp.mkf 40 [(AX.t 5)])),(jA 6 (AOp.new 84 1 (AX.c (AV.v Value.nilFunc)))),(YS 1 6 12)]) (AC.seq (AC.region [(jA 13 (AOp.mkf 44 [(AX.t 6),(AX.t 5)])),(YM 7 13)]) (AC.seq (AC.region [(YL 14 false 1 6),(YF 15 0 2),(YL 16 false 1 15),(jA 17 (AOp.callv (AX.t 14) [(AX.t 16)]))]) (AC.seq (AC.region [(YM 18 7),(YF 19 1 2),(YL 20 false 1 19),(jA 21 (AOp.callv (AX.t 18) [(AX.t 20)]))]) (AC.seq (AC.region [(YM 22 7),(YF 23 2 2),(YL 24 false 1 23),(jA 25 (AOp.callv (AX.t 22) [(AX.t 24)]))]) (AC.seq (AC.region [(YL 26 false 1 6),(YF 27 3 2),(YL 28 false 1 27),(jA 29 (AOp.cv 37 3 (AX.t 28))),(jA 30 (AOp.callv (AX.t 26) [(AX.t 29)]))]) (AC.seq (AC.region [(YL 31 false 1 6),(YF 32 7 2),(YL 33 false 1 32),(jA 34 (AOp.callv (AX.t 31) [(AX.t 33)]))]) (AC.seq (AC.region [(YL 35 false 1 6),(YF 36 6 2),(YL 37 false 1 36),(YE 38 37),(jA 39 (AOp.callv (AX.t 35) [(AX.t 38)]))]) (AC.seq (AC.seq (AC.region [(YF 40 6 2),(YL 41 false 1 40),(YE 42 41),(YN 43 (Value.int IntKind.i64 0))]) (AC.block 0 (AC.loop (AC.seq (AC.region [(YB 44 .lss 3 false 43 42)]) (AC.seq (AC.cond (AX.t 44) AC.skip (AC.exit 0)) (AC.seq (AC.block 1 (AC.seq (AC.region [(YI 45 2 41 43),(YL 46 true 2 45),(jA 9 (AOp.new 62 2 (AX.c (AV.agg [(AV.v (Value.string (ByteArray.mk #[]))),(AV.v (Value.string (ByteArray.mk #[])))])))),(YS 2 9 46)]) (AC.seq (AC.region [(YM 47 7),(YF 48 0 9),(YL 49 false 1 48),(jA 50 (AOp.callv (AX.t 47) [(AX.t 49)]))]) (AC.region [(YM 51 7),(YF 52 1 9),(YL 53 false 1 52),(jA 54 (AOp.callv (AX.t 51) [(AX.t 53)]))])))) (AC.region [(YC 55 .add 3 false 43 (Value.int IntKind.i64 1)),(YM 43 55)]))))))) (AC.seq (AC.seq (AC.region [(YF 56 4 2),(YL 57 false 1 56),(YE 58 57),(YN 59 (Value.int IntKind.i64 0))]) (AC.block 2 (AC.loop (AC.seq (AC.region [(YB 60 .lss 3 false 59 58)]) (AC.seq (AC.cond (AX.t 60) AC.skip (AC.exit 2)) (AC.seq (AC.block 3 (AC.seq (AC.region [(YI 61 1 57 59),(YL 62 false 1 61),(YM 11 62)]) (AC.draw [(YL 63 false 1 6),(YM 64 1),(YM 65 11),(YI 66 1 64 65),(YL 67 false 1 66),(jA 68 (AOp.callv (AX.t 63) [(AX.t 67)]))]))) (AC.region [(YC 69 .add 3 false 59 (Value.int IntKind.i64 1)),(YM 59 69)]))))))) (AC.seq (AC.draw [(YL 70 false 1 6),(YM 71 1),(YF 72 5 2),(YL 73 false 1 72),(YI 74 1 71 73),(YL 75 false 1 74),(jA 76 (AOp.callv (AX.t 70) [(AX.t 75)]))]) (AC.seq (AC.region [(YH 77 45 5),(YM 4 77)]) AC.ret)))))))))))))))
theorem cop30:zI Tryd.prog [16,26,30,34,40,41,43,44,45,48,55,71,72,81,87,88,91,92] 30=some A30:=by kernel_rfl
def A31:AF:=(AF.mk 42 [(2,none)] (AC.seq (AC.region [(YN 2 (Value.bool false))]) (AC.seq (AC.seq (AC.region [(YN 3 (Value.int IntKind.i64 0))]) (AC.block 0 (AC.loop (AC.seq (AC.seq (AC.region [(YM 6 3),(YM 7 0),(YE 8 7),(YB 9 .lss 3 false 6 8)]) (AC.cond (AX.t 9) AC.skip (AC.exit 0))) (AC.seq (AC.block 1 (AC.seq (AC.region [(YM 12 0),(YM 13 3),(YI 14 9 12 13),(YL 15 true 9 14),(YQ 16 14 15),(YM 4 16)]) (AC.seq (AC.seq (AC.region [(YN 5 (Value.int IntKind.i64 0))]) (AC.block 2 (AC.loop (AC.seq (AC.seq (AC.region [(YM 17 5),(YM 18 4),(YE 19 18),(YB 20 .lss 3 false 17 19)]) (AC.cond (AX.t 20) AC.skip (AC.exit 2))) (AC.seq (AC.block 3 (AC.seq (AC.region [(YM 23 4),(YM 24 5),(YI 25 1 23 24),(YL 26 false 1 25),(YC 27 .lss 25 false 26 (Value.int IntKind.i64 1)),(YM 28 27),(YMg 29 4 28 false),(YMg 30 5 28 false),(YIg 31 1 29 30 28 false),(YLg 32 false 1 31 28 false),(YMg 33 3 28 false),(YBg 34 .gtr 3 false 32 33 28 false),(YPb 35 28 true 34)]) (AC.cond (AX.t 35) (AC.seq (AC.region [(YN 2 (Value.bool false))]) AC.ret) AC.skip))) (AC.region [(YM 21 5),(YC 22 .add 3 false 21 (Value.int IntKind.i64 1)),(YM 5 22)])))))) (AC.seq (AC.region [(YM 36 0),(YM 37 3),(YI 38 9 36 37),(YL 39 true 9 38),(YQ 40 46 39),(YC 41 .neq 28 false 40 (Value.int IntKind.i64 0))]) (AC.cond (AX.t 41) (AC.seq (AC.region [(YN 2 (Value.bool false))]) AC.ret) AC.skip))))) (AC.region [(YM 10 3),(YC 11 .add 3 false 10 (Value.int IntKind.i64 1)),(YM 3 11)])))))) (AC.seq (AC.region [(YN 2 (Value.bool true))]) AC.ret))))
theorem cop31:zI Tryd.prog [16,26,30,34,40,41,43,44,45,48,55,71,72,81,87,88,91,92] 31=some A31:=by kernel_rfl
def A32:AF:=(AF.mk 64 [(4,none)] (AC.seq (AC.region [(jA 2 (AOp.new 40 9 (AX.t 0))),(jA 3 (AOp.new 40 9 (AX.t 1))),(YN 4 (Value.bool false))]) (AC.seq (AC.seq (AC.region [(YF 5 0 2),(YL 6 false 1 5),(YF 7 0 3),(YL 8 false 1 7),(YB 9 .neq 3 false 6 8),(YM 10 9),(YFg 11 1 2 10 false),(YLg 12 false 1 11 10 false),(YFg 13 1 3 10 false),(YLg 14 false 1 13 10 false),(YBg 15 .neq 9 false 12 14 10 false),(YPb 16 10 true 15),(YM 17 16),(YFg 18 2 2 17 false),(YLg 19 false 1 18 17 false),(YFg 20 2 3 17 false),(YLg 21 false 1 20 17 false),(YBg 22 .neq 9 false 19 21 17 false),(YPb 23 17 true 22),(YM 24 23),(YFg 25 3 2 24 false),(YLg 26 false 1 25 24 false),(YFg 27 3 3 24 false),(YLg 28 false 1 27 24 false),(YBg 29 .neq 37 false 26 28 24 false),(YPb 30 24 true 29),(YM 31 30),(YFg 32 5 2 31 false),(YLg 33 false 1 32 31 false),(YFg 34 5 3 31 false),(YLg 35 false 1 34 31 false),(YBg 36 .neq 25 false 33 35 31 false),(YPb 37 31 true 36),(YM 38 37),(YFg 39 7 2 38 false),(YLg 40 false 1 39 38 false),(YFg 41 7 3 38 false),(YLg 42 false 1 41 38 false),(YBg 43 .neq 3 false 40 42 38 false),(YPb 44 38 true 43),(YM 45 44),(YFg 46 8 2 45 false),(YLg 47 false 1 46 45 false),(YFg 48 8 3 45 false),(YLg 49 false 1 48 45 false),(YBg 50 .neq 3 false 47 49 45 false),(YPb 51 45 true 50)]) (AC.cond (AX.t 51) (AC.seq (AC.region [(YN 4 (Value.bool false))]) AC.ret) AC.skip)) (AC.seq (AC.region [(YF 52 4 2),(YL 53 false 1 52),(YF 54 4 3),(YL 55 false 1 54),(YR 56 47 53 55),(YM 57 56),(YFg 58 6 2 57 true),(YLg 59 false 1 58 57 true),(YFg 60 6 3 57 true),(YLg 61 false 1 60 57 true),(YRg 62 12 59 61 57 true),(YPc 63 57 62 false),(YM 4 63)]) AC.ret))))
theorem wY:zI Tryd.prog [16,26,30,34,40,41,43,44,45,48,55,71,72,81,87,88,91,92] 32=some A32:=by kernel_rfl
def A33:AF:=(AF.mk 13 [(2,none)] (AC.seq (AC.region [(jA 1 (AOp.new 62 2 (AX.t 0))),(YN 2 (Value.bool false))]) (AC.seq (AC.region [(YF 3 0 1),(YL 4 false 1 3),(jA 5 (AOp.lns (AX.t 4))),(YC 6 .gtr 3 false 5 (Value.int IntKind.i64 16)),(YM 7 6),(YFg 8 1 1 7 false),(YLg 9 false 1 8 7 false),(jC 10 (AOp.lns (AX.t 9)) 7 false),(YCg 11 .gtr 3 false 10 (Value.int IntKind.i64 16) 7 false),(YPb 12 7 true 11),(YM 2 12)]) AC.ret)))
theorem cop33:zI Tryd.prog [16,26,30,34,40,41,43,44,45,48,55,71,72,81,87,88,91,92] 33=some A33:=by kernel_rfl
def A34:AF:=(AF.mk 9 [(4,none)] (AC.seq (AC.region [(YN 4 (Value.bool false))]) (AC.seq (AC.region [(YM 5 0),(YM 6 1),(jA 7 (AOp.callh 48 [(AX.t 5),(AX.t 6)])),(YC 8 .geq 3 false 7 (Value.int IntKind.i64 0)),(YM 4 8)]) AC.ret)))
theorem cop34:zI Tryd.prog [16,26,30,34,40,41,43,44,45,48,55,71,72,81,87,88,91,92] 34=some A34:=by kernel_rfl
def A35:AF:=(AF.mk 109 [(2,none)] (AC.seq (AC.region [(jA 1 (AOp.new 40 9 (AX.t 0))),(YN 2 (Value.bool false))]) (AC.seq (AC.region [(jA 3 (AOp.new 40 9 (AX.c (AV.agg [(jN 0),(AV.v (Value.string (ByteArray.mk #[]))),(AV.v (Value.string (ByteArray.mk #[]))),(AV.v (Value.int IntKind.u32 0)),(AV.nl 1),(jN 0),(AV.nl 2),(jN 0),(jN 0)]))))]) (AC.seq (AC.region [(YF 5 8 1),(YL 6 false 1 5),(YC 7 .geq 3 false 6 (Value.int IntKind.i64 0)),(YM 4 7)]) (AC.seq (AC.seq (AC.region [(YF 8 0 1),(YL 9 false 1 8)]) (AC.block 0 (AC.seq (AC.region [(YC 11 .eql 3 false 9 (Value.int IntKind.i64 1)),(YM 10 11)]) (AC.cond (AX.t 10) (AC.region [(YF 12 1 1),(YL 13 false 1 12),(YF 14 2 1),(YL 15 false 1 14),(YR 16 19 13 15),(YS 9 3 16)]) (AC.seq (AC.region [(YC 18 .eql 3 false 9 (Value.int IntKind.i64 6)),(YM 17 18)]) (AC.cond (AX.t 17) (AC.region [(YF 19 1 1),(YL 20 false 1 19),(YF 21 2 1),(YL 22 false 1 21),(YR 23 49 20 22),(YS 9 3 23)]) (AC.seq (AC.region [(YC 25 .eql 3 false 9 (Value.int IntKind.i64 2)),(YM 24 25)]) (AC.cond (AX.t 24) (AC.seq (AC.region [(YF 26 3 1),(YL 27 false 1 26),(YF 28 4 1),(YL 29 false 1 28),(YF 30 7 1),(YL 31 false 1 30),(jA 32 (AOp.call 50 [(AX.t 27),(AX.t 29),(AX.t 31)])),(YS 9 3 32)]) (AC.draw [(YM 33 4),(YM 34 33),(YFg 35 4 1 34 true),(YLg 36 false 1 35 34 true),(YEg 37 36 34 true),(YFg 38 3 1 34 true),(YLg 39 false 1 38 34 true),(YQg 40 51 39 34 true),(YBg 41 .eql 3 false 37 40 34 true),(YPc 42 34 41 false),(YM 43 42),(YFg 44 4 1 43 true),(YLg 45 false 1 44 43 true),(jC 46 (AOp.call 52 [(AX.t 45),(jI 0)]) 43 true),(jC 47 (AOp.un UnOp.not (AX.t 46)) 43 true),(YPc 48 43 47 false),(YM 49 48),(YFg 50 7 1 49 true),(YLg 51 false 1 50 49 true),(YCg 52 .geq 3 false 51 (Value.int IntKind.i64 0) 49 true),(YPc 53 49 52 false),(YM 4 53)])) (AC.seq (AC.region [(YC 55 .eql 3 false 9 (Value.int IntKind.i64 3)),(YM 54 55)]) (AC.cond (AX.t 54) (AC.seq (AC.region [(YF 56 6 1),(YL 57 false 1 56),(YQ 58 53 57),(YS 9 3 58)]) (AC.region [(YM 59 4),(YM 60 59),(YFg 61 6 1 60 true),(YLg 62 false 1 61 60 true),(YEg 63 62 60 true),(YCg 64 .geq 3 false 63 (Value.int IntKind.i64 2) 60 true),(YPc 65 60 64 false),(YM 4 65)])) (AC.seq (AC.region [(YC 67 .eql 3 false 9 (Value.int IntKind.i64 4)),(YM 66 67)]) (AC.cond (AX.t 66) (AC.seq (AC.region [(YF 68 1 1),(YL 69 false 1 68),(YF 70 2 1),(YL 71 false 1 70),(YF 72 4 1),(YL 73 false 1 72),(YF 74 7 1),(YL 75 false 1 74),(jA 76 (AOp.bld [(jN 0),(AV.v (Value.string (ByteArray.mk #[]))),(AV.v (Value.string (ByteArray.mk #[]))),(AV.v (Value.int IntKind.u32 0)),(AV.nl 1),(jN 0),(AV.nl 2),(jN 0),(jN 0)] [(0,(1,(jI 4))),(1,(1,(AX.t 69))),(2,(1,(AX.t 71))),(4,(1,(AX.t 73))),(7,(1,(AX.t 75)))])),(YS 9 3 76)]) (AC.region [(YM 77 4),(YM 78 77),(YFg 79 4 1 78 true),(YLg 80 false 1 79 78 true),(YEg 81 80 78 true),(YCg 82 .eql 3 false 81 (Value.int IntKind.i64 2) 78 true),(YPc 83 78 82 false),(YM 84 83),(YFg 85 7 1 84 true),(YLg 86 false 1 85 84 true),(YCg 87 .geq 3 false 86 (Value.int IntKind.i64 1) 84 true),(YPc 88 84 87 false),(YM 4 88)])) (AC.seq (AC.region [(YC 90 .eql 3 false 9 (Value.int IntKind.i64 5)),(YM 89 90)]) (AC.cond (AX.t 89) (AC.seq (AC.region [(YF 91 5 1),(YL 92 false 1 91),(YQ 93 20 92),(YS 9 3 93)]) (AC.region [(YM 94 4),(YM 95 94),(YFg 96 5 1 95 true),(YLg 97 false 1 96 95 true),(YCg 98 .neq 25 false 97 (Value.int IntKind.i64 0) 95 true),(YPc 99 95 98 false),(YM 4 99)])) AC.skip)))))))))))))) (AC.seq (AC.region [(YF 100 8 1),(YL 101 false 1 100),(YF 102 8 3),(YS 1 102 101)]) (AC.seq (AC.region [(YM 103 4),(YM 104 103),(YLg 105 true 9 1 104 true),(YLg 106 true 9 3 104 true),(YRg 107 54 105 106 104 true),(YPc 108 104 107 false),(YM 2 108)]) AC.ret)))))))
theorem wX:zI Tryd.prog [16,26,30,34,40,41,43,44,45,48,55,71,72,81,87,88,91,92] 35=some A35:=by kernel_rfl
def A36:AF:=(AF.mk 14 [(2,none)] (AC.seq (AC.region [(AI.mk (some 2) (AOp.mv (AX.c (AV.nl 1))) none)]) (AC.seq (AC.seq (AC.region [(YM 4 0),(YE 5 4),(YC 6 .eql 3 false 5 (Value.int IntKind.i64 0))]) (AC.cond (AX.t 6) (AC.seq (AC.region [(AI.mk (some 2) (AOp.mv (AX.c (AV.nl 1))) none)]) AC.ret) AC.skip)) (AC.seq (AC.region [(YM 7 0),(YE 8 7),(AI.mk (some 9) (AOp.mks 25 1 8 (AV.v (Value.int IntKind.i64 0)) (AX.t 8) (AX.t 8)) none),(YM 3 9)]) (AC.seq (AC.region [(YM 10 3),(YM 11 0),(AI.mk (some 12) (AOp.cpy 1 (AX.t 10) (AX.t 11)) none)]) (AC.seq (AC.region [(YM 13 3),(YM 2 13)]) AC.ret))))))
theorem cop36:zI Tryd.prog [16,26,30,34,40,41,43,44,45,48,55,71,72,81,87,88,91,92] 36=some A36:=by kernel_rfl
def A37:AF:=(AF.mk 14 [(2,none)] (AC.seq (AC.region [(jA 2 (AOp.mv (AX.c (AV.nl 2))))]) (AC.seq (AC.seq (AC.region [(YM 4 0),(YE 5 4),(YC 6 .eql 3 false 5 (Value.int IntKind.i64 0))]) (AC.cond (AX.t 6) (AC.seq (AC.region [(jA 2 (AOp.mv (AX.c (AV.nl 2))))]) AC.ret) AC.skip)) (AC.seq (AC.region [(YM 7 0),(YE 8 7),(jA 9 (AOp.mks 62 2 32 (AV.agg [(AV.v (Value.string (ByteArray.mk #[]))),(AV.v (Value.string (ByteArray.mk #[])))]) (AX.t 8) (AX.t 8))),(YM 3 9)]) (AC.seq (AC.region [(YM 10 3),(YM 11 0),(jA 12 (AOp.cpy 2 (AX.t 10) (AX.t 11)))]) (AC.seq (AC.region [(YM 13 3),(YM 2 13)]) AC.ret))))))
def A38:AF:=(AF.mk 46 [(4,none)] (AC.seq (AC.region [(jA 4 (AOp.mv (AX.c (AV.nl 1))))]) (AC.seq (AC.region [(jA 5 (AOp.mv (AX.c (AV.nl 1))))]) (AC.seq (AC.region [(YM 10 1),(YC 11 .add 25 false 10 (Value.int IntKind.i64 1)),(jA 12 (AOp.mks 4 1 1 (AV.v (Value.bool false)) (AX.t 11) (AX.t 11))),(YM 6 12)]) (AC.seq (AC.region [(YM 13 6),(YM 14 1),(YI 15 1 13 14),(jB (AOp.store 1 (AX.t 15) (jS true)))]) (AC.seq (AC.seq (AC.region [(YM 16 1),(YM 7 16)]) (AC.block 0 (AC.loop (AC.seq (AC.seq (AC.region [(YM 17 7),(YC 18 .gtr 25 false 17 (Value.int IntKind.i64 0))]) (AC.cond (AX.t 18) AC.skip (AC.exit 0))) (AC.seq (AC.block 1 (AC.seq (AC.seq (AC.region [(YM 21 6),(YM 22 7),(YI 23 1 21 22),(YL 24 false 1 23),(jA 25 (AOp.un UnOp.not (AX.t 24)))]) (AC.cond (AX.t 25) (AC.exit 1) AC.skip)) (AC.seq (AC.region [(YM 26 5),(YM 27 7),(jA 28 (AOp.bsl 25 1 [(AX.t 27)])),(jA 29 (AOp.app 25 1 8 (AX.t 26) (AX.t 28))),(YM 5 29)]) (AC.seq (AC.region [(YM 30 0),(YM 31 7),(YC 32 .sub 25 false 31 (Value.int IntKind.i64 1)),(YI 33 9 30 32),(YL 34 true 9 33),(YQ 35 23 34),(YE 36 35),(YN 37 (Value.int IntKind.i64 0))]) (AC.block 2 (AC.loop (AC.seq (AC.region [(YB 38 .lss 3 false 37 36)]) (AC.seq (AC.cond (AX.t 38) AC.skip (AC.exit 2)) (AC.seq (AC.block 3 (AC.seq (AC.region [(YI 39 1 35 37),(YL 40 false 1 39),(YM 9 40)]) (AC.region [(YM 41 6),(YM 42 9),(YI 43 1 41 42),(jB (AOp.store 1 (AX.t 43) (jS true)))]))) (AC.region [(YC 44 .add 3 false 37 (Value.int IntKind.i64 1)),(YM 37 44)])))))))))) (AC.region [(YM 19 7),(YC 20 .sub 25 false 19 (Value.int IntKind.i64 1)),(YM 7 20)])))))) (AC.seq (AC.region [(YM 45 5),(YM 4 45)]) AC.ret)))))))
def A40:AF:=(AF.mk 7 [] (AC.seq (AC.region [(YM 3 0),(YQ 4 42 3),(jA 5 (AOp.callh 41 [(AX.t 1),(AX.t 4)]))]) (AC.region [(jA 6 (AOp.callh 43 [(AX.t 1),(AX.c (AV.v (Value.int IntKind.u8 32)))]))])))
theorem cop40:zI Tryd.prog [16,26,30,34,40,41,43,44,45,48,55,71,72,81,87,88,91,92] 40=some A40:=by kernel_rfl
def A41:AF:=(AF.mk 19 [(4,none),(5,none)] (AC.seq (AC.region [(YN 4 (Value.int IntKind.i64 0)),(YN 5 Value.nilIface)]) (AC.seq (AC.region [(YM 6 0),(YH 7 55 6)]) (AC.seq (AC.region [(YM 8 0),(YM 9 0),(jA 10 (AOp.nilc (AX.t 9))),(YF 11 1 10),(YL 12 false 1 11),(YM 13 1),(jA 14 (AOp.aps 5 1 (AX.t 12) (AX.t 13))),(jA 15 (AOp.nilc (AX.t 8))),(YF 16 1 15),(YS 1 16 14)]) (AC.seq (AC.region [(YM 17 1),(jA 18 (AOp.lns (AX.t 17))),(YM 4 18),(YN 5 Value.nilIface)]) AC.ret)))))
theorem cop41:zI Tryd.prog [16,26,30,34,40,41,43,44,45,48,55,71,72,81,87,88,91,92] 41=some A41:=by kernel_rfl
def A42:AF:=(AF.mk 5 [(2,none)] (AC.seq (AC.region [(YN 2 (Value.string (ByteArray.mk #[])))]) (AC.seq (AC.region [(YM 3 0),(YQ 4 56 3),(YM 2 4)]) AC.ret)))
theorem cop42:zI Tryd.prog [16,26,30,34,40,41,43,44,45,48,55,71,72,81,87,88,91,92] 42=some A42:=by kernel_rfl
def A43:AF:=(AF.mk 17 [(4,none)] (AC.seq (AC.region [(YN 4 Value.nilIface)]) (AC.seq (AC.region [(YM 5 0),(YH 6 55 5)]) (AC.seq (AC.region [(YM 7 0),(YM 8 0),(jA 9 (AOp.nilc (AX.t 8))),(YF 10 1 9),(YL 11 false 1 10),(YM 12 1),(jA 13 (AOp.bsl 5 1 [(AX.t 12)])),(jA 14 (AOp.app 5 1 1 (AX.t 11) (AX.t 13))),(jA 15 (AOp.nilc (AX.t 7))),(YF 16 1 15),(YS 1 16 14)]) (AC.seq (AC.region [(YN 4 Value.nilIface)]) AC.ret)))))
theorem cop43:zI Tryd.prog [16,26,30,34,40,41,43,44,45,48,55,71,72,81,87,88,91,92] 43=some A43:=by kernel_rfl
def A44:AF:=(AF.mk 10 [] (AC.seq (AC.region [(YL 4 false 1 1),(YM 5 0),(jA 6 (AOp.lns (AX.t 5))),(jA 7 (AOp.callv (AX.t 4) [(AX.t 6)]))]) (AC.region [(YM 8 0),(jA 9 (AOp.callh 41 [(AX.t 2),(AX.t 8)]))])))
theorem cop44:zI Tryd.prog [16,26,30,34,40,41,43,44,45,48,55,71,72,81,87,88,91,92] 44=some A44:=by kernel_rfl
abbrev Wj:AI:=YM 3 0
abbrev Wi:AI:=AI.mk (some 4) (AOp.nilc (AX.t 3)) none
abbrev Wh:AI:=YF 5 1 4
abbrev Wg:AI:=YL 6 false 1 5
abbrev Wf:AI:=AI.mk (some 7) (AOp.usd (AX.t 6)) none
abbrev We:AI:=YM 8 0
abbrev Wb:AI:=AI.mk (some 9) (AOp.nilc (AX.t 8)) none
abbrev Wa:AI:=YF 10 1 9
abbrev w9:AI:=YL 11 false 1 10
abbrev w8:AI:=YE 12 11
abbrev XH:AI:=AI.mk (some 13) (AOp.ust 5 (AX.t 7) (AX.t 12)) none
abbrev XG:AI:=YM 2 13
def A45:AF:=(AF.mk 14 [(2,none)] (AC.seq (AC.region [(YN 2 (Value.string (ByteArray.mk #[])))]) (AC.seq (AC.drawx [[Wj,Wi,Wh,Wg,Wf,We,Wb,Wa,w9,w8,XH,XG],[Wj,Wi,Wh,Wg,We,Wb,Wf,Wa,w9,w8,XH,XG],[Wj,Wi,Wh,Wg,We,Wb,Wa,Wf,w9,w8,XH,XG],[Wj,Wi,Wh,Wg,We,Wb,Wa,w9,Wf,w8,XH,XG]]) AC.ret)))
theorem cop45:zI Tryd.prog [16,26,30,34,40,41,43,44,45,48,55,71,72,81,87,88,91,92] 45=some A45:=by kernel_rfl
def A46:AF:=(AF.mk 16 [(2,none)] (AC.seq (AC.region [(jA 1 (AOp.new 40 9 (AX.t 0))),(YN 2 (Value.int IntKind.i64 0))]) (AC.seq (AC.seq (AC.region [(YF 3 0 1),(YL 4 false 1 3),(YC 5 .lss 3 false 4 (Value.int IntKind.i64 1)),(YM 6 5),(YFg 7 0 1 6 false),(YLg 8 false 1 7 6 false),(YCg 9 .gtr 3 false 8 (Value.int IntKind.i64 6) 6 false),(YPb 10 6 true 9)]) (AC.cond (AX.t 10) (AC.seq (AC.region [(YN 2 (Value.int IntKind.i64 11))]) AC.ret) AC.skip)) (AC.seq (AC.seq (AC.region [(YL 11 true 9 1),(YQ 12 57 11)]) (AC.cond (AX.t 12) (AC.seq (AC.region [(YN 2 (Value.int IntKind.i64 6))]) AC.ret) AC.skip)) (AC.seq (AC.seq (AC.region [(YL 13 true 9 1),(YQ 14 58 13),(jA 15 (AOp.un UnOp.not (AX.t 14)))]) (AC.cond (AX.t 15) (AC.seq (AC.region [(YN 2 (Value.int IntKind.i64 4))]) AC.ret) AC.skip)) (AC.seq (AC.region [(YN 2 (Value.int IntKind.i64 0))]) AC.ret))))))
theorem cop46:zI Tryd.prog [16,26,30,34,40,41,43,44,45,48,55,71,72,81,87,88,91,92] 46=some A46:=by kernel_rfl
def A47:AF:=(AF.mk 26 [(4,none)] (AC.seq (AC.region [(YN 4 (Value.bool false))]) (AC.seq (AC.seq (AC.region [(YM 6 0),(YE 7 6),(YM 8 1),(YE 9 8),(YB 10 .neq 3 false 7 9)]) (AC.cond (AX.t 10) (AC.seq (AC.region [(YN 4 (Value.bool false))]) AC.ret) AC.skip)) (AC.seq (AC.seq (AC.region [(YN 5 (Value.int IntKind.i64 0))]) (AC.block 0 (AC.loop (AC.seq (AC.seq (AC.region [(YM 11 5),(YM 12 0),(YE 13 12),(YB 14 .lss 3 false 11 13)]) (AC.cond (AX.t 14) AC.skip (AC.exit 0))) (AC.seq (AC.block 1 (AC.seq (AC.draw [(YM 17 0),(YM 18 5),(YI 19 1 17 18),(YL 20 false 1 19),(YM 21 1),(YM 22 5),(YI 23 1 21 22),(YL 24 false 1 23),(YB 25 .neq 25 false 20 24)]) (AC.cond (AX.t 25) (AC.seq (AC.region [(YN 4 (Value.bool false))]) AC.ret) AC.skip))) (AC.region [(YM 15 5),(YC 16 .add 3 false 15 (Value.int IntKind.i64 1)),(YM 5 16)])))))) (AC.seq (AC.region [(YN 4 (Value.bool true))]) AC.ret)))))
theorem cop47:zI Tryd.prog [16,26,30,34,40,41,43,44,45,48,55,71,72,81,87,88,91,92] 47=some A47:=by kernel_rfl
def A48:AF:=(AF.mk 19 [(4,none)] (AC.seq (AC.region [(YN 4 (Value.int IntKind.i64 0))]) (AC.seq (AC.seq (AC.region [(YM 6 0),(YE 7 6),(YN 8 (Value.int IntKind.i64 0))]) (AC.block 0 (AC.loop (AC.seq (AC.region [(YB 9 .lss 3 false 8 7)]) (AC.seq (AC.cond (AX.t 9) AC.skip (AC.exit 0)) (AC.seq (AC.block 1 (AC.seq (AC.region [(YM 10 8),(YM 5 10)]) (AC.seq (AC.region [(YM 11 1),(YM 12 0),(YM 13 5),(YI 14 2 12 13),(YL 15 true 2 14),(jA 16 (AOp.callv (AX.t 11) [(AX.t 15)]))]) (AC.cond (AX.t 16) (AC.seq (AC.region [(YM 17 5),(YM 4 17)]) AC.ret) AC.skip)))) (AC.region [(YC 18 .add 3 false 8 (Value.int IntKind.i64 1)),(YM 8 18)]))))))) (AC.seq (AC.region [(YN 4 (Value.int IntKind.i64 (Int.negSucc 0)))]) AC.ret))))
theorem cop48:zI Tryd.prog [16,26,30,34,40,41,43,44,45,48,55,71,72,81,87,88,91,92] 48=some A48:=by kernel_rfl
def A49:AF:=(AF.mk 8 [(4,(some (true,9)))] (AC.seq (AC.region [(jA 4 (AOp.new 40 9 (AX.c (AV.agg [(jN 0),(AV.v (Value.string (ByteArray.mk #[]))),(AV.v (Value.string (ByteArray.mk #[]))),(AV.v (Value.int IntKind.u32 0)),(AV.nl 1),(jN 0),(AV.nl 2),(jN 0),(jN 0)]))))]) (AC.seq (AC.region [(YM 5 0),(YM 6 1),(jA 7 (AOp.bld [(jN 0),(AV.v (Value.string (ByteArray.mk #[]))),(AV.v (Value.string (ByteArray.mk #[]))),(AV.v (Value.int IntKind.u32 0)),(AV.nl 1),(jN 0),(AV.nl 2),(jN 0),(jN 0)] [(0,(1,(jI 6))),(1,(1,(AX.t 5))),(2,(1,(AX.t 6))),(7,(1,(jI 1)))])),(YS 9 4 7)]) AC.ret)))
theorem cop49:zI Tryd.prog [16,26,30,34,40,41,43,44,45,48,55,71,72,81,87,88,91,92] 49=some A49:=by kernel_rfl
def A50:AF:=(AF.mk 12 [(6,(some (true,9)))] (AC.seq (AC.region [(jA 6 (AOp.new 40 9 (AX.c (AV.agg [(jN 0),(AV.v (Value.string (ByteArray.mk #[]))),(AV.v (Value.string (ByteArray.mk #[]))),(AV.v (Value.int IntKind.u32 0)),(AV.nl 1),(jN 0),(AV.nl 2),(jN 0),(jN 0)]))))]) (AC.seq (AC.region [(YM 7 0),(YM 8 1),(YQ 9 36 8),(YM 10 2),(jA 11 (AOp.bld [(jN 0),(AV.v (Value.string (ByteArray.mk #[]))),(AV.v (Value.string (ByteArray.mk #[]))),(AV.v (Value.int IntKind.u32 0)),(AV.nl 1),(jN 0),(AV.nl 2),(jN 0),(jN 0)] [(0,(1,(jI 2))),(3,(1,(AX.t 7))),(4,(1,(AX.t 9))),(7,(1,(AX.t 10)))])),(YS 9 6 11)]) AC.ret)))
theorem cop50:zI Tryd.prog [16,26,30,34,40,41,43,44,45,48,55,71,72,81,87,88,91,92] 50=some A50:=by kernel_rfl
def A51:AF:=(AF.mk 5 [(2,none)] (AC.seq (AC.region [(YN 2 (Value.int IntKind.i64 0))]) (AC.seq (AC.region [(YM 3 0),(YQ 4 59 3),(YM 2 4)]) AC.ret)))
theorem cop51:zI Tryd.prog [16,26,30,34,40,41,43,44,45,48,55,71,72,81,87,88,91,92] 51=some A51:=by kernel_rfl
def A52:AF:=(AF.mk 9 [(4,none)] (AC.seq (AC.region [(YN 4 (Value.bool false))]) (AC.seq (AC.region [(YM 5 0),(YM 6 1),(YR 7 60 5 6),(YC 8 .geq 3 false 7 (Value.int IntKind.i64 0)),(YM 4 8)]) AC.ret)))
theorem cop52:zI Tryd.prog [16,26,30,34,40,41,43,44,45,48,55,71,72,81,87,88,91,92] 52=some A52:=by kernel_rfl
def A53:AF:=(AF.mk 10 [(2,(some (true,9)))] (AC.seq (AC.region [(jA 2 (AOp.new 40 9 (AX.c (AV.agg [(jN 0),(AV.v (Value.string (ByteArray.mk #[]))),(AV.v (Value.string (ByteArray.mk #[]))),(AV.v (Value.int IntKind.u32 0)),(AV.nl 1),(jN 0),(AV.nl 2),(jN 0),(jN 0)]))))]) (AC.seq (AC.region [(YM 4 0),(YQ 5 61 4),(YM 3 5)]) (AC.seq (AC.region [(YM 6 3),(YM 7 3),(YE 8 7),(jA 9 (AOp.bld [(jN 0),(AV.v (Value.string (ByteArray.mk #[]))),(AV.v (Value.string (ByteArray.mk #[]))),(AV.v (Value.int IntKind.u32 0)),(AV.nl 1),(jN 0),(AV.nl 2),(jN 0),(jN 0)] [(0,(1,(jI 3))),(6,(1,(AX.t 6))),(7,(1,(AX.t 8)))])),(YS 9 2 9)]) AC.ret))))
theorem cop53:zI Tryd.prog [16,26,30,34,40,41,43,44,45,48,55,71,72,81,87,88,91,92] 53=some A53:=by kernel_rfl
def A54:AF:=(AF.mk 68 [(4,none)] (AC.seq (AC.region [(jA 2 (AOp.new 40 9 (AX.t 0))),(jA 3 (AOp.new 40 9 (AX.t 1))),(YN 4 (Value.bool false))]) (AC.seq (AC.region [(YF 5 0 2),(YL 6 false 1 5),(YF 7 0 3),(YL 8 false 1 7),(YB 9 .eql 3 false 6 8),(YM 10 9),(YFg 11 1 2 10 true),(YLg 12 false 1 11 10 true),(YFg 13 1 3 10 true),(YLg 14 false 1 13 10 true),(YRg 15 62 12 14 10 true),(YCg 16 .eql 3 false 15 (Value.int IntKind.i64 0) 10 true),(YPc 17 10 16 false),(YM 18 17),(YFg 19 2 2 18 true),(YLg 20 false 1 19 18 true),(YFg 21 2 3 18 true),(YLg 22 false 1 21 18 true),(YRg 23 62 20 22 18 true),(YCg 24 .eql 3 false 23 (Value.int IntKind.i64 0) 18 true),(YPc 25 18 24 false),(YM 26 25),(YFg 27 3 2 26 true),(YLg 28 false 1 27 26 true),(YFg 29 3 3 26 true),(YLg 30 false 1 29 26 true),(YBg 31 .eql 37 false 28 30 26 true),(YPc 32 26 31 false),(YM 33 32),(YFg 34 4 2 33 true),(YLg 35 false 1 34 33 true),(YFg 36 4 3 33 true),(YLg 37 false 1 36 33 true),(YRg 38 63 35 37 33 true),(YPc 39 33 38 false),(YM 40 39),(YFg 41 5 2 40 true),(YLg 42 false 1 41 40 true),(YFg 43 5 3 40 true),(YLg 44 false 1 43 40 true),(YBg 45 .eql 25 false 42 44 40 true),(YPc 46 40 45 false),(YM 47 46),(YFg 48 6 2 47 true),(YLg 49 false 1 48 47 true),(YFg 50 6 3 47 true),(YLg 51 false 1 50 47 true),(YRg 52 64 49 51 47 true),(YPc 53 47 52 false),(YM 54 53),(YFg 55 7 2 54 true),(YLg 56 false 1 55 54 true),(YFg 57 7 3 54 true),(YLg 58 false 1 57 54 true),(YBg 59 .eql 3 false 56 58 54 true),(YPc 60 54 59 false),(YM 61 60),(YFg 62 8 2 61 true),(YLg 63 false 1 62 61 true),(YFg 64 8 3 61 true),(YLg 65 false 1 64 61 true),(YBg 66 .eql 3 false 63 65 61 true),(YPc 67 61 66 false),(YM 4 67)]) AC.ret)))
theorem xn:zI Tryd.prog [16,26,30,34,40,41,43,44,45,48,55,71,72,81,87,88,91,92] 54=some A54:=by kernel_rfl
def A55:AF:=(AF.mk 20 [] (AC.seq (AC.region [(YM 2 0),(jA 3 (AOp.nilc (AX.t 2))),(YF 4 0 3),(YL 5 false 1 4),(YC 6 .eql 74 true 5 (Value.pointer none))]) (AC.cond (AX.t 6) (AC.region [(YM 7 0),(YM 8 0),(jA 9 (AOp.cup (AX.t 8))),(YM 10 9),(jA 11 (AOp.cpu 77 (AX.t 10))),(jA 12 (AOp.nilc (AX.t 7))),(YF 13 0 12),(YS 1 13 11)]) (AC.seq (AC.region [(YM 14 0),(jA 15 (AOp.nilc (AX.t 14))),(YF 16 0 15),(YL 17 false 1 16),(YM 18 0),(YB 19 .neq 74 true 17 18)]) (AC.cond (AX.t 19) (AC.region [(jB AOp.bad)]) AC.skip)))))
theorem cop55:zI Tryd.prog [16,26,30,34,40,41,43,44,45,48,55,71,72,81,87,88,91,92] 55=some A55:=by kernel_rfl
def A56:AF:=(AF.mk 5 [(2,none)] (AC.seq (AC.region [(YN 2 (Value.string (ByteArray.mk #[])))]) (AC.seq (AC.region [(YM 3 0),(jA 4 (AOp.call 66 [(AX.t 3),(jI 10)])),(YM 2 4)]) AC.ret)))
theorem cop56:zI Tryd.prog [16,26,30,34,40,41,43,44,45,48,55,71,72,81,87,88,91,92] 56=some A56:=by kernel_rfl
def A57:AF:=(AF.mk 44 [(2,none)] (AC.seq (AC.region [(jA 1 (AOp.new 40 9 (AX.t 0))),(YN 2 (Value.bool false))]) (AC.seq (AC.region [(YF 5 1 1),(YL 6 false 1 5),(jA 7 (AOp.lns (AX.t 6))),(YC 8 .gtr 3 false 7 (Value.int IntKind.i64 16)),(YM 9 8),(YFg 10 2 1 9 false),(YLg 11 false 1 10 9 false),(jC 12 (AOp.lns (AX.t 11)) 9 false),(YCg 13 .gtr 3 false 12 (Value.int IntKind.i64 16) 9 false),(YPb 14 9 true 13),(YM 3 14)]) (AC.seq (AC.seq (AC.region [(YN 4 (Value.int IntKind.i64 0))]) (AC.block 0 (AC.loop (AC.seq (AC.seq (AC.region [(YM 15 4),(YF 16 6 1),(YL 17 false 1 16),(YE 18 17),(YB 19 .lss 3 false 15 18)]) (AC.cond (AX.t 19) AC.skip (AC.exit 0))) (AC.seq (AC.block 1 (AC.region [(YM 22 3),(YM 23 22),(YFg 24 6 1 23 false),(YLg 25 false 1 24 23 false),(YMg 26 4 23 false),(YIg 27 2 25 26 23 false),(YFg 28 0 27 23 false),(YLg 29 false 1 28 23 false),(jC 30 (AOp.lns (AX.t 29)) 23 false),(YCg 31 .gtr 3 false 30 (Value.int IntKind.i64 16) 23 false),(YPb 32 23 true 31),(YM 33 32),(YFg 34 6 1 33 false),(YLg 35 false 1 34 33 false),(YMg 36 4 33 false),(YIg 37 2 35 36 33 false),(YFg 38 1 37 33 false),(YLg 39 false 1 38 33 false),(jC 40 (AOp.lns (AX.t 39)) 33 false),(YCg 41 .gtr 3 false 40 (Value.int IntKind.i64 16) 33 false),(YPb 42 33 true 41),(YM 3 42)])) (AC.region [(YM 20 4),(YC 21 .add 3 false 20 (Value.int IntKind.i64 1)),(YM 4 21)])))))) (AC.seq (AC.region [(YM 43 3),(YM 2 43)]) AC.ret)))))
theorem cop57:zI Tryd.prog [16,26,30,34,40,41,43,44,45,48,55,71,72,81,87,88,91,92] 57=some A57:=by kernel_rfl
def A58:AF:=(AF.mk 106 [(2,none)] (AC.seq (AC.region [(jA 1 (AOp.new 40 9 (AX.t 0))),(YN 2 (Value.bool false))]) (AC.seq (AC.seq (AC.region [(YF 4 8 1),(YL 5 false 1 4),(YC 6 .lss 3 false 5 (Value.int IntKind.i64 0))]) (AC.cond (AX.t 6) (AC.seq (AC.region [(YN 2 (Value.bool false))]) AC.ret) AC.skip)) (AC.seq (AC.seq (AC.region [(YF 7 0 1),(YL 8 false 1 7)]) (AC.block 0 (AC.seq (AC.seq (AC.region [(YC 10 .eql 3 false 8 (Value.int IntKind.i64 1)),(YM 9 10)]) (AC.cond (AX.t 9) AC.skip (AC.region [(YC 11 .eql 3 false 8 (Value.int IntKind.i64 6)),(YM 9 11)]))) (AC.cond (AX.t 9) (AC.seq (AC.region [(YF 12 7 1),(YL 13 false 1 12),(YC 14 .eql 3 false 13 (Value.int IntKind.i64 1)),(YM 15 14),(YLg 16 true 9 1 15 true),(jC 17 (AOp.call 67 [(AX.t 16),(jS false),(jS true),(jS true),(jS true)]) 15 true),(YPc 18 15 17 false),(YM 2 18)]) AC.ret) (AC.seq (AC.region [(YC 20 .eql 3 false 8 (Value.int IntKind.i64 2)),(YM 19 20)]) (AC.cond (AX.t 19) (AC.seq (AC.seq (AC.region [(YN 3 (Value.int IntKind.i64 0))]) (AC.block 1 (AC.loop (AC.seq (AC.seq (AC.region [(YM 21 3),(YF 22 4 1),(YL 23 false 1 22),(YE 24 23),(YB 25 .lss 3 false 21 24)]) (AC.cond (AX.t 25) AC.skip (AC.exit 1))) (AC.seq (AC.block 2 (AC.seq (AC.region [(YF 28 4 1),(YL 29 false 1 28),(YM 30 3),(YI 31 1 29 30),(YL 32 false 1 31),(YC 33 .eql 25 false 32 (Value.int IntKind.i64 0))]) (AC.cond (AX.t 33) (AC.seq (AC.region [(YN 2 (Value.bool false))]) AC.ret) AC.skip))) (AC.region [(YM 26 3),(YC 27 .add 3 false 26 (Value.int IntKind.i64 1)),(YM 3 27)])))))) (AC.seq (AC.draw [(YF 34 4 1),(YL 35 false 1 34),(YE 36 35),(YF 37 3 1),(YL 38 false 1 37),(YQ 39 68 38),(YE 40 39),(YB 41 .eql 3 false 36 40),(YM 42 41),(YFg 43 7 1 42 true),(YLg 44 false 1 43 42 true),(YCg 45 .geq 3 false 44 (Value.int IntKind.i64 0) 42 true),(YPc 46 42 45 false),(YM 47 46),(YLg 48 true 9 1 47 true),(jC 49 (AOp.call 67 [(AX.t 48),(jS true),(jS false),(jS true),(jS true)]) 47 true),(YPc 50 47 49 false),(YM 2 50)]) AC.ret)) (AC.seq (AC.region [(YC 52 .eql 3 false 8 (Value.int IntKind.i64 3)),(YM 51 52)]) (AC.cond (AX.t 51) (AC.seq (AC.region [(YF 53 6 1),(YL 54 false 1 53),(YE 55 54),(YC 56 .geq 3 false 55 (Value.int IntKind.i64 2)),(YM 57 56),(YFg 58 6 1 57 true),(YLg 59 false 1 58 57 true),(YQg 60 69 59 57 true),(YPc 61 57 60 false),(YM 62 61),(YFg 63 7 1 62 true),(YLg 64 false 1 63 62 true),(YFg 65 6 1 62 true),(YLg 66 false 1 65 62 true),(YEg 67 66 62 true),(YBg 68 .eql 3 false 64 67 62 true),(YPc 69 62 68 false),(YM 70 69),(YLg 71 true 9 1 70 true),(jC 72 (AOp.call 67 [(AX.t 71),(jS true),(jS true),(jS true),(jS false)]) 70 true),(YPc 73 70 72 false),(YM 2 73)]) AC.ret) (AC.seq (AC.region [(YC 75 .eql 3 false 8 (Value.int IntKind.i64 4)),(YM 74 75)]) (AC.cond (AX.t 74) (AC.seq (AC.region [(YF 76 3 1),(YL 77 false 1 76),(YC 78 .eql 37 false 77 (Value.int IntKind.u32 0)),(YM 79 78),(YFg 80 4 1 79 true),(YLg 81 false 1 80 79 true),(YEg 82 81 79 true),(YCg 83 .eql 3 false 82 (Value.int IntKind.i64 2) 79 true),(YPc 84 79 83 false),(YM 85 84),(YFg 86 7 1 85 true),(YLg 87 false 1 86 85 true),(YCg 88 .geq 3 false 87 (Value.int IntKind.i64 1) 85 true),(YPc 89 85 88 false),(YM 90 89),(YLg 91 true 9 1 90 true),(jC 92 (AOp.call 67 [(AX.t 91),(jS false),(jS false),(jS true),(jS true)]) 90 true),(YPc 93 90 92 false),(YM 2 93)]) AC.ret) AC.skip)))))))))) (AC.seq (AC.region [(YF 94 5 1),(YL 95 false 1 94),(YC 96 .neq 25 false 95 (Value.int IntKind.i64 0)),(YM 97 96),(YFg 98 7 1 97 true),(YLg 99 false 1 98 97 true),(YCg 100 .eql 3 false 99 (Value.int IntKind.i64 0) 97 true),(YPc 101 97 100 false),(YM 102 101),(YLg 103 true 9 1 102 true),(jC 104 (AOp.call 67 [(AX.t 103),(jS true),(jS true),(jS false),(jS true)]) 102 true),(YPc 105 102 104 false),(YM 2 105)]) AC.ret)))))
theorem wz:zI Tryd.prog [16,26,30,34,40,41,43,44,45,48,55,71,72,81,87,88,91,92] 58=some A58:=by kernel_rfl
def A59:AF:=(AF.mk 21 [(2,none)] (AC.seq (AC.region [(YN 2 (Value.int IntKind.i64 0))]) (AC.seq (AC.draw [(YM 3 0),(YC 4 .shr 37 false 3 (Value.int IntKind.u64 24)),(jA 5 (AOp.idx 9 (AX.c (AV.v (Value.string (ByteArray.mk #[0,1,1,2,1,2,2,3,1,2,2,3,2,3,3,4,1,2,2,3,2,3,3,4,2,3,3,4,3,4,4,5,1,2,2,3,2,3,3,4,2,3,3,4,3,4,4,5,2,3,3,4,3,4,4,5,3,4,4,5,4,5,5,6,1,2,2,3,2,3,3,4,2,3,3,4,3,4,4,5,2,3,3,4,3,4,4,5,3,4,4,5,4,5,5,6,2,3,3,4,3,4,4,5,3,4,4,5,4,5,5,6,3,4,4,5,4,5,5,6,4,5,5,6,5,6,6,7,1,2,2,3,2,3,3,4,2,3,3,4,3,4,4,5,2,3,3,4,3,4,4,5,3,4,4,5,4,5,5,6,2,3,3,4,3,4,4,5,3,4,4,5,4,5,5,6,3,4,4,5,4,5,5,6,4,5,5,6,5,6,6,7,2,3,3,4,3,4,4,5,3,4,4,5,4,5,5,6,3,4,4,5,4,5,5,6,4,5,5,6,5,6,6,7,3,4,4,5,4,5,5,6,4,5,5,6,5,6,6,7,4,5,5,6,5,6,6,7,5,6,6,7,6,7,7,8])))) (AX.t 4))),(YM 6 0),(YC 7 .shr 37 false 6 (Value.int IntKind.u64 16)),(YC 8 .and 37 false 7 (Value.int IntKind.u32 255)),(jA 9 (AOp.idx 9 (AX.c (AV.v (Value.string (ByteArray.mk #[0,1,1,2,1,2,2,3,1,2,2,3,2,3,3,4,1,2,2,3,2,3,3,4,2,3,3,4,3,4,4,5,1,2,2,3,2,3,3,4,2,3,3,4,3,4,4,5,2,3,3,4,3,4,4,5,3,4,4,5,4,5,5,6,1,2,2,3,2,3,3,4,2,3,3,4,3,4,4,5,2,3,3,4,3,4,4,5,3,4,4,5,4,5,5,6,2,3,3,4,3,4,4,5,3,4,4,5,4,5,5,6,3,4,4,5,4,5,5,6,4,5,5,6,5,6,6,7,1,2,2,3,2,3,3,4,2,3,3,4,3,4,4,5,2,3,3,4,3,4,4,5,3,4,4,5,4,5,5,6,2,3,3,4,3,4,4,5,3,4,4,5,4,5,5,6,3,4,4,5,4,5,5,6,4,5,5,6,5,6,6,7,2,3,3,4,3,4,4,5,3,4,4,5,4,5,5,6,3,4,4,5,4,5,5,6,4,5,5,6,5,6,6,7,3,4,4,5,4,5,5,6,4,5,5,6,5,6,6,7,4,5,5,6,5,6,6,7,5,6,6,7,6,7,7,8])))) (AX.t 8))),(YB 10 .add 5 false 5 9),(YM 11 0),(YC 12 .shr 37 false 11 (Value.int IntKind.u64 8)),(YC 13 .and 37 false 12 (Value.int IntKind.u32 255)),(jA 14 (AOp.idx 9 (AX.c (AV.v (Value.string (ByteArray.mk #[0,1,1,2,1,2,2,3,1,2,2,3,2,3,3,4,1,2,2,3,2,3,3,4,2,3,3,4,3,4,4,5,1,2,2,3,2,3,3,4,2,3,3,4,3,4,4,5,2,3,3,4,3,4,4,5,3,4,4,5,4,5,5,6,1,2,2,3,2,3,3,4,2,3,3,4,3,4,4,5,2,3,3,4,3,4,4,5,3,4,4,5,4,5,5,6,2,3,3,4,3,4,4,5,3,4,4,5,4,5,5,6,3,4,4,5,4,5,5,6,4,5,5,6,5,6,6,7,1,2,2,3,2,3,3,4,2,3,3,4,3,4,4,5,2,3,3,4,3,4,4,5,3,4,4,5,4,5,5,6,2,3,3,4,3,4,4,5,3,4,4,5,4,5,5,6,3,4,4,5,4,5,5,6,4,5,5,6,5,6,6,7,2,3,3,4,3,4,4,5,3,4,4,5,4,5,5,6,3,4,4,5,4,5,5,6,4,5,5,6,5,6,6,7,3,4,4,5,4,5,5,6,4,5,5,6,5,6,6,7,4,5,5,6,5,6,6,7,5,6,6,7,6,7,7,8])))) (AX.t 13))),(YB 15 .add 5 false 10 14),(YM 16 0),(YC 17 .and 37 false 16 (Value.int IntKind.u32 255)),(jA 18 (AOp.idx 9 (AX.c (AV.v (Value.string (ByteArray.mk #[0,1,1,2,1,2,2,3,1,2,2,3,2,3,3,4,1,2,2,3,2,3,3,4,2,3,3,4,3,4,4,5,1,2,2,3,2,3,3,4,2,3,3,4,3,4,4,5,2,3,3,4,3,4,4,5,3,4,4,5,4,5,5,6,1,2,2,3,2,3,3,4,2,3,3,4,3,4,4,5,2,3,3,4,3,4,4,5,3,4,4,5,4,5,5,6,2,3,3,4,3,4,4,5,3,4,4,5,4,5,5,6,3,4,4,5,4,5,5,6,4,5,5,6,5,6,6,7,1,2,2,3,2,3,3,4,2,3,3,4,3,4,4,5,2,3,3,4,3,4,4,5,3,4,4,5,4,5,5,6,2,3,3,4,3,4,4,5,3,4,4,5,4,5,5,6,3,4,4,5,4,5,5,6,4,5,5,6,5,6,6,7,2,3,3,4,3,4,4,5,3,4,4,5,4,5,5,6,3,4,4,5,4,5,5,6,4,5,5,6,5,6,6,7,3,4,4,5,4,5,5,6,4,5,5,6,5,6,6,7,4,5,5,6,5,6,6,7,5,6,6,7,6,7,7,8])))) (AX.t 17))),(YB 19 .add 5 false 15 18),(jA 20 (AOp.cv 5 3 (AX.t 19))),(YM 2 20)]) AC.ret)))
theorem cop59:zI Tryd.prog [16,26,30,34,40,41,43,44,45,48,55,71,72,81,87,88,91,92] 59=some A59:=by kernel_rfl
def A60:AF:=(AF.mk 19 [(4,none)] (AC.seq (AC.region [(YN 4 (Value.int IntKind.i64 0))]) (AC.seq (AC.seq (AC.region [(YM 6 0),(YE 7 6),(YN 8 (Value.int IntKind.i64 0))]) (AC.block 0 (AC.loop (AC.seq (AC.region [(YB 9 .lss 3 false 8 7)]) (AC.seq (AC.cond (AX.t 9) AC.skip (AC.exit 0)) (AC.seq (AC.block 1 (AC.seq (AC.region [(YM 10 8),(YM 5 10)]) (AC.seq (AC.region [(YM 11 1),(YM 12 0),(YM 13 5),(YI 14 1 12 13),(YL 15 false 1 14),(YB 16 .eql 25 false 11 15)]) (AC.cond (AX.t 16) (AC.seq (AC.region [(YM 17 5),(YM 4 17)]) AC.ret) AC.skip)))) (AC.region [(YC 18 .add 3 false 8 (Value.int IntKind.i64 1)),(YM 8 18)]))))))) (AC.seq (AC.region [(YN 4 (Value.int IntKind.i64 (Int.negSucc 0)))]) AC.ret))))
theorem cop60:zI Tryd.prog [16,26,30,34,40,41,43,44,45,48,55,71,72,81,87,88,91,92] 60=some A60:=by kernel_rfl
def A61:AF:=(AF.mk 44 [(2,none)] (AC.seq (AC.region [(AI.mk (some 2) (AOp.mv (AX.c (AV.nl 2))) none)]) (AC.seq (AC.seq (AC.region [(YM 7 0),(YQ 8 70 7)]) (AC.cond (AX.t 8) (AC.seq (AC.region [(YM 9 0),(YH 10 71 9),(YM 2 10)]) AC.ret) AC.skip)) (AC.seq (AC.region [(YM 11 0),(YH 12 71 11),(YM 3 12)]) (AC.seq (AC.region [(YM 13 3),(AI.mk (some 14) (AOp.callh 72 [(AX.t 13),(AX.c (AV.v (Value.func (Go.Fn.func 73) #[] #[])))]) none)]) (AC.seq (AC.region [(AI.mk (some 4) (AOp.mv (AX.c (AV.nl 2))) none)]) (AC.seq (AC.seq (AC.region [(YM 15 3),(YE 16 15),(YN 17 (Value.int IntKind.i64 0))]) (AC.block 0 (AC.loop (AC.seq (AC.region [(YB 18 .lss 3 false 17 16)]) (AC.seq (AC.cond (AX.t 18) AC.skip (AC.exit 0)) (AC.seq (AC.block 1 (AC.seq (AC.region [(YM 19 17),(YI 20 2 15 17),(YL 21 true 2 20),(AI.mk (some 6) (AOp.new 62 2 (AX.c (AV.agg [(AV.v (Value.string (ByteArray.mk #[]))),(AV.v (Value.string (ByteArray.mk #[])))]))) none),(YM 5 19),(YS 2 6 21)]) (AC.seq (AC.draw [(YM 22 5),(YC 23 .add 3 false 22 (Value.int IntKind.i64 1)),(YM 24 3),(YE 25 24),(YB 26 .eql 3 false 23 25),(YM 27 26),(YMg 28 3 27 false),(YMg 29 5 27 false),(YCg 30 .add 3 false 29 (Value.int IntKind.i64 1) 27 false),(YIg 31 2 28 30 27 false),(YFg 32 0 31 27 false),(YLg 33 false 1 32 27 false),(YFg 34 0 6 27 false),(YLg 35 false 1 34 27 false),(YBg 36 .neq 9 false 33 35 27 false),(YPb 37 27 true 36)]) (AC.cond (AX.t 37) (AC.region [(YM 38 4),(YL 39 true 2 6),(AI.mk (some 40) (AOp.bsl 62 2 [(AX.t 39)]) none),(AI.mk (some 41) (AOp.app 62 2 32 (AX.t 38) (AX.t 40)) none),(YM 4 41)]) AC.skip)))) (AC.region [(YC 42 .add 3 false 17 (Value.int IntKind.i64 1)),(YM 17 42)]))))))) (AC.seq (AC.region [(YM 43 4),(YM 2 43)]) AC.ret))))))))
theorem cop61:zI Tryd.prog [16,26,30,34,40,41,43,44,45,48,55,71,72,81,87,88,91,92] 61=some A61:=by kernel_rfl
def A62:AF:=(AF.mk 38 [(4,none)] (AC.seq (AC.region [(YN 4 (Value.int IntKind.i64 0))]) (AC.seq (AC.region [(YM 6 0),(YM 7 1),(YR 8 74 6 7),(YM 5 8)]) (AC.seq (AC.block 0 (AC.seq (AC.region [(YM 10 5),(YM 11 0),(jA 12 (AOp.lns (AX.t 11))),(YB 13 .eql 3 false 10 12),(YM 14 13),(YMg 15 5 14 true),(YMg 16 1 14 true),(jC 17 (AOp.lns (AX.t 16)) 14 true),(YBg 18 .eql 3 false 15 17 14 true),(YPc 19 14 18 false),(YM 9 19)]) (AC.cond (AX.t 9) (AC.seq (AC.region [(YN 4 (Value.int IntKind.i64 0))]) AC.ret) (AC.seq (AC.region [(YM 21 5),(YM 22 0),(jA 23 (AOp.lns (AX.t 22))),(YB 24 .eql 3 false 21 23),(YM 20 24)]) (AC.cond (AX.t 20) (AC.seq (AC.region [(YN 4 (Value.int IntKind.i64 (Int.negSucc 0)))]) AC.ret) (AC.seq (AC.region [(YM 26 5),(YM 27 1),(jA 28 (AOp.lns (AX.t 27))),(YB 29 .eql 3 false 26 28),(YM 25 29)]) (AC.cond (AX.t 25) (AC.seq (AC.region [(YN 4 (Value.int IntKind.i64 1))]) AC.ret) (AC.seq (AC.draw [(YM 31 0),(YM 32 5),(jA 33 (AOp.idx 9 (AX.t 31) (AX.t 32))),(YM 34 1),(YM 35 5),(jA 36 (AOp.idx 9 (AX.t 34) (AX.t 35))),(YB 37 .lss 5 false 33 36),(YM 30 37)]) (AC.cond (AX.t 30) (AC.seq (AC.region [(YN 4 (Value.int IntKind.i64 (Int.negSucc 0)))]) AC.ret) AC.skip))))))))) (AC.seq (AC.region [(YN 4 (Value.int IntKind.i64 1))]) AC.ret)))))
def A63:AF:=(AF.mk 26 [(4,none)] (AC.seq (AC.region [(YN 4 (Value.bool false))]) (AC.seq (AC.seq (AC.region [(YM 6 0),(YE 7 6),(YM 8 1),(YE 9 8),(YB 10 .neq 3 false 7 9)]) (AC.cond (AX.t 10) (AC.seq (AC.region [(YN 4 (Value.bool false))]) AC.ret) AC.skip)) (AC.seq (AC.seq (AC.region [(YM 11 0),(YE 12 11),(YN 13 (Value.int IntKind.i64 0))]) (AC.block 0 (AC.loop (AC.seq (AC.region [(YB 14 .lss 3 false 13 12)]) (AC.seq (AC.cond (AX.t 14) AC.skip (AC.exit 0)) (AC.seq (AC.block 1 (AC.seq (AC.region [(YM 15 13),(YM 5 15)]) (AC.seq (AC.draw [(YM 16 0),(YM 17 5),(YI 18 1 16 17),(YL 19 false 1 18),(YM 20 1),(YM 21 5),(YI 22 1 20 21),(YL 23 false 1 22),(YB 24 .neq 25 false 19 23)]) (AC.cond (AX.t 24) (AC.seq (AC.region [(YN 4 (Value.bool false))]) AC.ret) AC.skip)))) (AC.region [(YC 25 .add 3 false 13 (Value.int IntKind.i64 1)),(YM 13 25)]))))))) (AC.seq (AC.region [(YN 4 (Value.bool true))]) AC.ret)))))
theorem cop63:zI Tryd.prog [16,26,30,34,40,41,43,44,45,48,55,71,72,81,87,88,91,92] 63=some A63:=by kernel_rfl
def A64:AF:=(AF.mk 26 [(4,none)] (AC.seq (AC.region [(YN 4 (Value.bool false))]) (AC.seq (AC.seq (AC.region [(YM 6 0),(YE 7 6),(YM 8 1),(YE 9 8),(YB 10 .neq 3 false 7 9)]) (AC.cond (AX.t 10) (AC.seq (AC.region [(YN 4 (Value.bool false))]) AC.ret) AC.skip)) (AC.seq (AC.seq (AC.region [(YM 11 0),(YE 12 11),(YN 13 (Value.int IntKind.i64 0))]) (AC.block 0 (AC.loop (AC.seq (AC.region [(YB 14 .lss 3 false 13 12)]) (AC.seq (AC.cond (AX.t 14) AC.skip (AC.exit 0)) (AC.seq (AC.block 1 (AC.seq (AC.region [(YM 15 13),(YM 5 15)]) (AC.seq (AC.draw [(YM 16 0),(YM 17 5),(YI 18 2 16 17),(YL 19 true 2 18),(YM 20 1),(YM 21 5),(YI 22 2 20 21),(YL 23 true 2 22),(jA 24 (AOp.eqs true [Kd.s,Kd.s] (AX.t 19) (AX.t 23)))]) (AC.cond (AX.t 24) (AC.seq (AC.region [(YN 4 (Value.bool false))]) AC.ret) AC.skip)))) (AC.region [(YC 25 .add 3 false 13 (Value.int IntKind.i64 1)),(YM 13 25)]))))))) (AC.seq (AC.region [(YN 4 (Value.bool true))]) AC.ret)))))
theorem cop64:zI Tryd.prog [16,26,30,34,40,41,43,44,45,48,55,71,72,81,87,88,91,92] 64=some A64:=by kernel_rfl
def A67:AF:=(AF.mk 53 [(10,none)] (AC.seq (AC.region [(jA 5 (AOp.new 40 9 (AX.t 0))),(YN 10 (Value.bool false))]) (AC.seq (AC.seq (AC.region [(YM 11 1),(YM 12 11),(YFg 13 1 5 12 true),(YLg 14 false 1 13 12 true),(YCg 15 .neq 9 false 14 (Value.string (ByteArray.mk #[])) 12 true),(YMg 16 15 12 true),(YFg 17 2 5 16 false),(YLg 18 false 1 17 16 false),(YCg 19 .neq 9 false 18 (Value.string (ByteArray.mk #[])) 16 false),(jC 20 (AOp.pick (AX.t 16) (jS true) (AX.t 19)) 12 true),(YPc 21 12 20 false),(YM 22 21),(YMg 23 2 22 false),(YMg 24 23 22 false),(YFg 25 3 5 24 true),(YLg 26 false 1 25 24 true),(YCg 27 .neq 37 false 26 (Value.int IntKind.u32 0) 24 true),(YMg 28 27 24 true),(YFg 29 4 5 28 false),(YLg 30 false 1 29 28 false),(YEg 31 30 28 false),(YCg 32 .gtr 3 false 31 (Value.int IntKind.i64 0) 28 false),(jC 33 (AOp.pick (AX.t 28) (jS true) (AX.t 32)) 24 true),(jC 34 (AOp.pick (AX.t 24) (AX.t 33) (jS false)) 22 false),(YPb 35 22 true 34)]) (AC.cond (AX.t 35) (AC.seq (AC.region [(YN 10 (Value.bool false))]) AC.ret) AC.skip)) (AC.seq (AC.region [(YM 36 3),(jA 37 (AOp.un UnOp.not (AX.t 36))),(YM 38 37),(YFg 39 5 5 38 false),(YLg 40 false 1 39 38 false),(YCg 41 .eql 25 false 40 (Value.int IntKind.i64 0) 38 false),(YPb 42 38 true 41),(YM 43 42),(YMg 44 4 43 true),(jC 45 (AOp.un UnOp.not (AX.t 44)) 43 true),(YMg 46 45 43 true),(YFg 47 6 5 46 false),(YLg 48 false 1 47 46 false),(YEg 49 48 46 false),(YCg 50 .eql 3 false 49 (Value.int IntKind.i64 0) 46 false),(jC 51 (AOp.pick (AX.t 46) (jS true) (AX.t 50)) 43 true),(YPc 52 43 51 false),(YM 10 52)]) AC.ret))))
theorem cop67:zI Tryd.prog [16,26,30,34,40,41,43,44,45,48,55,71,72,81,87,88,91,92] 67=some A67:=by kernel_rfl
def A68:AF:=(AF.mk 18 [(2,none)] (AC.seq (AC.region [(jA 2 (AOp.mv (AX.c (AV.nl 1))))]) (AC.seq (AC.region [(jA 5 (AOp.bsl 3 1 [])),(YM 3 5)]) (AC.seq (AC.seq (AC.region [(YN 4 (Value.int IntKind.i64 0))]) (AC.block 0 (AC.loop (AC.seq (AC.seq (AC.region [(YM 6 4),(YC 7 .lss 3 false 6 (Value.int IntKind.i64 32))]) (AC.cond (AX.t 7) AC.skip (AC.exit 0))) (AC.seq (AC.block 1 (AC.seq (AC.region [(YM 10 0),(YM 11 4),(YR 12 79 10 11)]) (AC.cond (AX.t 12) (AC.region [(YM 13 3),(YM 14 4),(jA 15 (AOp.bsl 3 1 [(AX.t 14)])),(jA 16 (AOp.app 3 1 8 (AX.t 13) (AX.t 15))),(YM 3 16)]) AC.skip))) (AC.region [(YM 8 4),(YC 9 .add 3 false 8 (Value.int IntKind.i64 1)),(YM 4 9)])))))) (AC.seq (AC.region [(YM 17 3),(YM 2 17)]) AC.ret)))))
theorem cop68:zI Tryd.prog [16,26,30,34,40,41,43,44,45,48,55,71,72,81,87,88,91,92] 68=some A68:=by kernel_rfl
def A69:AF:=(AF.mk 23 [(2,none)] (AC.seq (AC.region [(YN 2 (Value.bool false))]) (AC.seq (AC.seq (AC.region [(YN 3 (Value.int IntKind.i64 1))]) (AC.block 0 (AC.loop (AC.seq (AC.seq (AC.region [(YM 4 3),(YM 5 0),(YE 6 5),(YB 7 .lss 3 false 4 6)]) (AC.cond (AX.t 7) AC.skip (AC.exit 0))) (AC.seq (AC.block 1 (AC.seq (AC.draw [(YM 10 0),(YM 11 3),(YC 12 .sub 3 false 11 (Value.int IntKind.i64 1)),(YI 13 2 10 12),(YF 14 0 13),(YL 15 false 1 14),(YM 16 0),(YM 17 3),(YI 18 2 16 17),(YF 19 0 18),(YL 20 false 1 19),(YR 21 80 15 20),(jA 22 (AOp.un UnOp.not (AX.t 21)))]) (AC.cond (AX.t 22) (AC.seq (AC.region [(YN 2 (Value.bool false))]) AC.ret) AC.skip))) (AC.region [(YM 8 3),(YC 9 .add 3 false 8 (Value.int IntKind.i64 1)),(YM 3 9)])))))) (AC.seq (AC.region [(YN 2 (Value.bool true))]) AC.ret))))
theorem cop69:zI Tryd.prog [16,26,30,34,40,41,43,44,45,48,55,71,72,81,87,88,91,92] 69=some A69:=by kernel_rfl
def A70:AF:=(AF.mk 24 [(2,none)] (AC.seq (AC.region [(YN 2 (Value.bool false))]) (AC.seq (AC.seq (AC.region [(YM 4 0),(YE 5 4),(YC 6 .sub 3 false 5 (Value.int IntKind.i64 1)),(YN 7 (Value.int IntKind.i64 0))]) (AC.block 0 (AC.loop (AC.seq (AC.region [(YB 8 .lss 3 false 7 6)]) (AC.seq (AC.cond (AX.t 8) AC.skip (AC.exit 0)) (AC.seq (AC.block 1 (AC.seq (AC.region [(YM 9 7),(YM 3 9)]) (AC.seq (AC.draw [(YM 10 0),(YM 11 3),(YI 12 2 10 11),(YF 13 0 12),(YL 14 false 1 13),(YM 15 0),(YM 16 3),(YC 17 .add 3 false 16 (Value.int IntKind.i64 1)),(YI 18 2 15 17),(YF 19 0 18),(YL 20 false 1 19),(YR 21 62 14 20),(YC 22 .geq 3 false 21 (Value.int IntKind.i64 0))]) (AC.cond (AX.t 22) (AC.seq (AC.region [(YN 2 (Value.bool false))]) AC.ret) AC.skip)))) (AC.region [(YC 23 .add 3 false 7 (Value.int IntKind.i64 1)),(YM 7 23)]))))))) (AC.seq (AC.region [(YN 2 (Value.bool true))]) AC.ret))))
theorem cop70:zI Tryd.prog [16,26,30,34,40,41,43,44,45,48,55,71,72,81,87,88,91,92] 70=some A70:=by kernel_rfl
def A71:AF:=(AF.mk 8 [(2,none)] (AC.seq (AC.region [(AI.mk (some 2) (AOp.mv (AX.c (AV.nl 2))) none)]) (AC.seq (AC.seq (AC.region [(YM 3 0),(AI.mk (some 4) (AOp.bin BinOp.eql 30 false (Operand.tmp 3) (Operand.const (Value.slice none 0 0)) (AX.t 3) (AX.c (AV.nl 2))) none)]) (AC.cond (AX.t 4) (AC.seq (AC.region [(AI.mk (some 2) (AOp.mv (AX.c (AV.nl 2))) none)]) AC.ret) AC.skip)) (AC.seq (AC.region [(AI.mk (some 5) (AOp.bsl 62 2 []) none),(YM 6 0),(AI.mk (some 7) (AOp.apf 62 2 32 (AX.t 5) (AX.t 6)) none),(YM 2 7)]) AC.ret))))
theorem cop71:zI Tryd.prog [16,26,30,34,40,41,43,44,45,48,55,71,72,81,87,88,91,92] 71=some A71:=by kernel_rfl
def A72:AF:=(AF.mk 9 [] (AC.region [(YM 4 0),(YM 5 0),(YE 6 5),(YM 7 1),(AI.mk (some 8) (AOp.callh 81 [(AX.t 4),(AX.t 6),(AX.t 7)]) none)]))
theorem cop72:zI Tryd.prog [16,26,30,34,40,41,43,44,45,48,55,71,72,81,87,88,91,92] 72=some A72:=by kernel_rfl
def A73:AF:=(AF.mk 10 [(4,none)] (AC.seq (AC.region [(AI.mk (some 2) (AOp.new 62 2 (AX.t 0)) none),(AI.mk (some 3) (AOp.new 62 2 (AX.t 1)) none),(YN 4 (Value.int IntKind.i64 0))]) (AC.seq (AC.region [(YF 5 0 2),(YL 6 false 1 5),(YF 7 0 3),(YL 8 false 1 7),(YR 9 62 6 8),(YM 4 9)]) AC.ret)))
theorem cop73:zI Tryd.prog [16,26,30,34,40,41,43,44,45,48,55,71,72,81,87,88,91,92] 73=some A73:=by kernel_rfl
def A74:AF:=(AF.mk 28 [(4,none)] (AC.seq (AC.region [(YN 4 (Value.int IntKind.i64 0))]) (AC.seq (AC.seq (AC.region [(YM 6 0),(jA 7 (AOp.lns (AX.t 6))),(YM 8 1),(jA 9 (AOp.lns (AX.t 8))),(jA 10 (AOp.bi Builtin.min #[3,3] 3 #[false,false] [(AX.t 7),(AX.t 9)])),(YN 11 (Value.int IntKind.i64 0))]) (AC.block 0 (AC.loop (AC.seq (AC.region [(YB 12 .lss 3 false 11 10)]) (AC.seq (AC.cond (AX.t 12) AC.skip (AC.exit 0)) (AC.seq (AC.block 1 (AC.seq (AC.region [(YM 13 11),(YM 5 13)]) (AC.seq (AC.draw [(YM 14 0),(YM 15 5),(jA 16 (AOp.idx 9 (AX.t 14) (AX.t 15))),(YM 17 1),(YM 18 5),(jA 19 (AOp.idx 9 (AX.t 17) (AX.t 18))),(YB 20 .neq 5 false 16 19)]) (AC.cond (AX.t 20) (AC.seq (AC.region [(YM 21 5),(YM 4 21)]) AC.ret) AC.skip)))) (AC.region [(YC 22 .add 3 false 11 (Value.int IntKind.i64 1)),(YM 11 22)]))))))) (AC.seq (AC.region [(YM 23 0),(jA 24 (AOp.lns (AX.t 23))),(YM 25 1),(jA 26 (AOp.lns (AX.t 25))),(jA 27 (AOp.bi Builtin.min #[3,3] 3 #[false,false] [(AX.t 24),(AX.t 26)])),(YM 4 27)]) AC.ret))))
def A79:AF:=(AF.mk 20 [(4,none)] (AC.seq (AC.region [(YN 4 (Value.bool false))]) (AC.seq (AC.seq (AC.region [(YN 5 (Value.int IntKind.i64 0))]) (AC.block 0 (AC.loop (AC.seq (AC.seq (AC.region [(YM 6 5),(YC 7 .lss 3 false 6 (Value.int IntKind.i64 32))]) (AC.cond (AX.t 7) AC.skip (AC.exit 0))) (AC.seq (AC.block 1 (AC.seq (AC.seq (AC.region [(YM 10 0),(YC 11 .rem 37 false 10 (Value.int IntKind.u32 2)),(YC 12 .eql 37 false 11 (Value.int IntKind.u32 1)),(YM 13 12),(YMg 14 5 13 true),(YMg 15 1 13 true),(YBg 16 .eql 3 false 14 15 13 true),(YPc 17 13 16 false)]) (AC.cond (AX.t 17) (AC.seq (AC.region [(YN 4 (Value.bool true))]) AC.ret) AC.skip)) (AC.region [(YM 18 0),(YC 19 .quo 37 false 18 (Value.int IntKind.u32 2)),(YM 0 19)]))) (AC.region [(YM 8 5),(YC 9 .add 3 false 8 (Value.int IntKind.i64 1)),(YM 5 9)])))))) (AC.seq (AC.region [(YN 4 (Value.bool false))]) AC.ret))))
theorem cop79:zI Tryd.prog [16,26,30,34,40,41,43,44,45,48,55,71,72,81,87,88,91,92] 79=some A79:=by kernel_rfl
def A81:AF:=(AF.mk 63 [] (AC.seq (AC.region [(YN 6 (Value.int IntKind.i64 20))]) (AC.seq (AC.region [(YM 10 6),(YN 7 (Value.int IntKind.i64 0)),(YM 8 10)]) (AC.seq (AC.block 0 (AC.loop (AC.seq (AC.seq (AC.region [(YM 11 8),(YM 12 1),(YB 13 .leq 3 false 11 12)]) (AC.cond (AX.t 13) AC.skip (AC.exit 0))) (AC.block 1 (AC.seq (AC.region [(YM 14 0),(YM 15 7),(YM 16 8),(YM 17 2),(AI.mk (some 18) (AOp.callh 87 [(AX.t 14),(AX.t 15),(AX.t 16),(AX.t 17)]) none)]) (AC.seq (AC.region [(YM 19 8),(YM 7 19)]) (AC.region [(YM 20 8),(YM 21 6),(YB 22 .add 3 false 20 21),(YM 8 22)]))))))) (AC.seq (AC.region [(YM 23 0),(YM 24 7),(YM 25 1),(YM 26 2),(AI.mk (some 27) (AOp.callh 87 [(AX.t 23),(AX.t 24),(AX.t 25),(AX.t 26)]) none)]) (AC.block 2 (AC.loop (AC.seq (AC.seq (AC.region [(YM 28 6),(YM 29 1),(YB 30 .lss 3 false 28 29)]) (AC.cond (AX.t 30) AC.skip (AC.exit 2))) (AC.block 3 (AC.seq (AC.region [(YM 31 6),(AI.mk (some 32) (AOp.bin BinOp.mul 3 false (Operand.const (Value.int IntKind.i64 2)) (Operand.tmp 31) (AX.c (AV.v (Value.int IntKind.i64 2))) (AX.t 31)) none),(YN 7 (Value.int IntKind.i64 0)),(YM 8 32)]) (AC.seq (AC.block 4 (AC.loop (AC.seq (AC.seq (AC.region [(YM 33 8),(YM 34 1),(YB 35 .leq 3 false 33 34)]) (AC.cond (AX.t 35) AC.skip (AC.exit 4))) (AC.block 5 (AC.seq (AC.region [(YM 36 0),(YM 37 7),(YM 38 7),(YM 39 6),(YB 40 .add 3 false 38 39),(YM 41 8),(YM 42 2),(AI.mk (some 43) (AOp.callh 88 [(AX.t 36),(AX.t 37),(AX.t 40),(AX.t 41),(AX.t 42)]) none)]) (AC.seq (AC.region [(YM 44 8),(YM 7 44)]) (AC.region [(YM 45 8),(YM 46 6),(AI.mk (some 47) (AOp.bin BinOp.mul 3 false (Operand.const (Value.int IntKind.i64 2)) (Operand.tmp 46) (AX.c (AV.v (Value.int IntKind.i64 2))) (AX.t 46)) none),(YB 48 .add 3 false 45 47),(YM 8 48)]))))))) (AC.seq (AC.seq (AC.region [(YM 49 7),(YM 50 6),(YB 51 .add 3 false 49 50),(YM 9 51)]) (AC.seq (AC.region [(YM 52 9),(YM 53 1),(YB 54 .lss 3 false 52 53)]) (AC.cond (AX.t 54) (AC.region [(YM 55 0),(YM 56 7),(YM 57 9),(YM 58 1),(YM 59 2),(AI.mk (some 60) (AOp.callh 88 [(AX.t 55),(AX.t 56),(AX.t 57),(AX.t 58),(AX.t 59)]) none)]) AC.skip))) (AC.region [(YM 61 6),(YC 62 .mul 3 false 61 (Value.int IntKind.i64 2)),(YM 6 62)])))))))))))))
theorem cop81:zI Tryd.prog [16,26,30,34,40,41,43,44,45,48,55,71,72,81,87,88,91,92] 81=some A81:=by kernel_rfl
abbrev zA87_0:AI:=YC 41 .sub 3 false 40 (Value.int IntKind.i64 1)
abbrev zA87_1:AI:=YC 44 .sub 3 false 43 (Value.int IntKind.i64 1)
def A87:AF:=(AF.mk 53 [] (AC.seq (AC.region [(YM 10 1),(YC 11 .add 3 false 10 (Value.int IntKind.i64 1)),(YM 8 11)]) (AC.block 0 (AC.loop (AC.seq (AC.seq (AC.region [(YM 12 8),(YM 13 2),(YB 14 .lss 3 false 12 13)]) (AC.cond (AX.t 14) AC.skip (AC.exit 0))) (AC.seq (AC.block 1 (AC.seq (AC.region [(YM 17 8),(YM 9 17)]) (AC.block 2 (AC.loop (AC.seq (AC.seq (AC.draw [(YM 18 9),(YM 19 1),(YB 20 .gtr 3 false 18 19),(YM 21 20),(YMg 22 3 21 true),(YMg 23 0 21 true),(YMg 24 9 21 true),(YIg 25 2 23 24 21 true),(YLg 26 true 2 25 21 true),(YMg 27 0 21 true),(YMg 28 9 21 true),(YCg 29 .sub 3 false 28 (Value.int IntKind.i64 1) 21 true),(YIg 30 2 27 29 21 true),(YLg 31 true 2 30 21 true),(AI.mk (some 32) (AOp.callv (AX.t 22) [(AX.t 26),(AX.t 31)]) (some (21,true))),(YCg 33 .lss 3 false 32 (Value.int IntKind.i64 0) 21 true),(YPc 34 21 33 false)]) (AC.cond (AX.t 34) AC.skip (AC.exit 2))) (AC.seq (AC.block 3 (AC.drawx [[(YM 37 0),(YM 38 9),(YM 39 0),(YM 40 9),zA87_0,(YM 42 0),(YM 43 9),zA87_1,(YI 45 2 42 44),(YL 46 true 2 45),(YM 47 0),(YM 48 9),(YI 49 2 47 48),(YL 50 true 2 49),(YI 51 2 37 38),(YS 2 51 46),(YI 52 2 39 41),(YS 2 52 50)],[(YM 37 0),(YM 38 9),(YM 39 0),(YM 40 9),(YM 42 0),(YM 43 9),zA87_1,(YI 45 2 42 44),(YL 46 true 2 45),(YM 47 0),(YM 48 9),(YI 49 2 47 48),(YL 50 true 2 49),(YI 51 2 37 38),(YS 2 51 46),zA87_0,(YI 52 2 39 41),(YS 2 52 50)]])) (AC.region [(YM 35 9),(YC 36 .sub 3 false 35 (Value.int IntKind.i64 1)),(YM 9 36)]))))))) (AC.region [(YM 15 8),(YC 16 .add 3 false 15 (Value.int IntKind.i64 1)),(YM 8 16)])))))))
theorem cop87:zI Tryd.prog [16,26,30,34,40,41,43,44,45,48,55,71,72,81,87,88,91,92] 87=some A87:=by kernel_rfl
abbrev zA88_0:AI:=YC 65 .add 3 false 64 (Value.int IntKind.i64 1)
abbrev zA88_1:AI:=YC 68 .add 3 false 67 (Value.int IntKind.i64 1)
abbrev zA88_2:AI:=YC 117 .sub 3 false 116 (Value.int IntKind.i64 1)
abbrev zA88_3:AI:=YC 120 .sub 3 false 119 (Value.int IntKind.i64 1)
def A88:AF:=(AF.mk 220 [] (AC.seq (AC.seq (AC.region [(YM 25 2),(YM 26 1),(YB 27 .sub 3 false 25 26),(YC 28 .eql 3 false 27 (Value.int IntKind.i64 1))]) (AC.cond (AX.t 28) (AC.seq (AC.region [(YM 29 2),(YM 10 29)]) (AC.seq (AC.region [(YM 30 3),(YM 11 30)]) (AC.seq (AC.block 0 (AC.loop (AC.seq (AC.seq (AC.region [(YM 31 10),(YM 32 11),(YB 33 .lss 3 false 31 32)]) (AC.cond (AX.t 33) AC.skip (AC.exit 0))) (AC.block 1 (AC.seq (AC.region [(YM 34 10),(YM 35 11),(YB 36 .add 3 false 34 35),(AI.mk (some 37) (AOp.cv 3 103 (AX.t 36)) none),(YC 38 .shr 103 false 37 (Value.int IntKind.u64 1)),(AI.mk (some 39) (AOp.cv 103 3 (AX.t 38)) none),(YM 12 39)]) (AC.seq (AC.draw [(YM 40 4),(YM 41 0),(YM 42 12),(YI 43 2 41 42),(YL 44 true 2 43),(YM 45 0),(YM 46 1),(YI 47 2 45 46),(YL 48 true 2 47),(AI.mk (some 49) (AOp.callv (AX.t 40) [(AX.t 44),(AX.t 48)]) none),(YC 50 .lss 3 false 49 (Value.int IntKind.i64 0))]) (AC.cond (AX.t 50) (AC.region [(YM 51 12),(YC 52 .add 3 false 51 (Value.int IntKind.i64 1)),(YM 10 52)]) (AC.region [(YM 53 12),(YM 11 53)])))))))) (AC.seq (AC.seq (AC.region [(YM 54 1),(YM 13 54)]) (AC.block 2 (AC.loop (AC.seq (AC.seq (AC.region [(YM 55 13),(YM 56 10),(YC 57 .sub 3 false 56 (Value.int IntKind.i64 1)),(YB 58 .lss 3 false 55 57)]) (AC.cond (AX.t 58) AC.skip (AC.exit 2))) (AC.seq (AC.block 3 (AC.drawx [[(YM 61 0),(YM 62 13),(YM 63 0),(YM 64 13),zA88_0,(YM 66 0),(YM 67 13),zA88_1,(YI 69 2 66 68),(YL 70 true 2 69),(YM 71 0),(YM 72 13),(YI 73 2 71 72),(YL 74 true 2 73),(YI 75 2 61 62),(YS 2 75 70),(YI 76 2 63 65),(YS 2 76 74)],[(YM 61 0),(YM 62 13),(YM 63 0),(YM 64 13),(YM 66 0),(YM 67 13),zA88_1,(YI 69 2 66 68),(YL 70 true 2 69),(YM 71 0),(YM 72 13),(YI 73 2 71 72),(YL 74 true 2 73),(YI 75 2 61 62),(YS 2 75 70),zA88_0,(YI 76 2 63 65),(YS 2 76 74)]])) (AC.region [(YM 59 13),(YC 60 .add 3 false 59 (Value.int IntKind.i64 1)),(YM 13 60)])))))) AC.ret)))) AC.skip)) (AC.seq (AC.seq (AC.region [(YM 77 3),(YM 78 2),(YB 79 .sub 3 false 77 78),(YC 80 .eql 3 false 79 (Value.int IntKind.i64 1))]) (AC.cond (AX.t 80) (AC.seq (AC.region [(YM 81 1),(YM 14 81)]) (AC.seq (AC.region [(YM 82 2),(YM 15 82)]) (AC.seq (AC.block 4 (AC.loop (AC.seq (AC.seq (AC.region [(YM 83 14),(YM 84 15),(YB 85 .lss 3 false 83 84)]) (AC.cond (AX.t 85) AC.skip (AC.exit 4))) (AC.block 5 (AC.seq (AC.region [(YM 86 14),(YM 87 15),(YB 88 .add 3 false 86 87),(AI.mk (some 89) (AOp.cv 3 103 (AX.t 88)) none),(YC 90 .shr 103 false 89 (Value.int IntKind.u64 1)),(AI.mk (some 91) (AOp.cv 103 3 (AX.t 90)) none),(YM 16 91)]) (AC.seq (AC.draw [(YM 92 4),(YM 93 0),(YM 94 2),(YI 95 2 93 94),(YL 96 true 2 95),(YM 97 0),(YM 98 16),(YI 99 2 97 98),(YL 100 true 2 99),(AI.mk (some 101) (AOp.callv (AX.t 92) [(AX.t 96),(AX.t 100)]) none),(YC 102 .lss 3 false 101 (Value.int IntKind.i64 0)),(AI.mk (some 103) (AOp.un UnOp.not (AX.t 102)) none)]) (AC.cond (AX.t 103) (AC.region [(YM 104 16),(YC 105 .add 3 false 104 (Value.int IntKind.i64 1)),(YM 14 105)]) (AC.region [(YM 106 16),(YM 15 106)])))))))) (AC.seq (AC.seq (AC.region [(YM 107 2),(YM 17 107)]) (AC.block 6 (AC.loop (AC.seq (AC.seq (AC.region [(YM 108 17),(YM 109 14),(YB 110 .gtr 3 false 108 109)]) (AC.cond (AX.t 110) AC.skip (AC.exit 6))) (AC.seq (AC.block 7 (AC.drawx [[(YM 113 0),(YM 114 17),(YM 115 0),(YM 116 17),zA88_2,(YM 118 0),(YM 119 17),zA88_3,(YI 121 2 118 120),(YL 122 true 2 121),(YM 123 0),(YM 124 17),(YI 125 2 123 124),(YL 126 true 2 125),(YI 127 2 113 114),(YS 2 127 122),(YI 128 2 115 117),(YS 2 128 126)],[(YM 113 0),(YM 114 17),(YM 115 0),(YM 116 17),(YM 118 0),(YM 119 17),zA88_3,(YI 121 2 118 120),(YL 122 true 2 121),(YM 123 0),(YM 124 17),(YI 125 2 123 124),(YL 126 true 2 125),(YI 127 2 113 114),(YS 2 127 122),zA88_2,(YI 128 2 115 117),(YS 2 128 126)]])) (AC.region [(YM 111 17),(YC 112 .sub 3 false 111 (Value.int IntKind.i64 1)),(YM 17 112)])))))) AC.ret)))) AC.skip)) (AC.seq (AC.region [(YM 129 1),(YM 130 3),(YB 131 .add 3 false 129 130),(AI.mk (some 132) (AOp.cv 3 103 (AX.t 131)) none),(YC 133 .shr 103 false 132 (Value.int IntKind.u64 1)),(AI.mk (some 134) (AOp.cv 103 3 (AX.t 133)) none),(YM 18 134)]) (AC.seq (AC.region [(YM 135 18),(YM 136 2),(YB 137 .add 3 false 135 136),(YM 19 137)]) (AC.seq (AC.region [(YN 20 (Value.int IntKind.i64 0)),(YN 21 (Value.int IntKind.i64 0))]) (AC.seq (AC.seq (AC.region [(YM 138 2),(YM 139 18),(YB 140 .gtr 3 false 138 139)]) (AC.cond (AX.t 140) (AC.seq (AC.region [(YM 141 19),(YM 142 3),(YB 143 .sub 3 false 141 142),(YM 20 143)]) (AC.region [(YM 144 18),(YM 21 144)])) (AC.seq (AC.region [(YM 145 1),(YM 20 145)]) (AC.region [(YM 146 2),(YM 21 146)])))) (AC.seq (AC.region [(YM 147 19),(YC 148 .sub 3 false 147 (Value.int IntKind.i64 1)),(YM 22 148)]) (AC.seq (AC.block 8 (AC.loop (AC.seq (AC.seq (AC.region [(YM 149 20),(YM 150 21),(YB 151 .lss 3 false 149 150)]) (AC.cond (AX.t 151) AC.skip (AC.exit 8))) (AC.block 9 (AC.seq (AC.region [(YM 152 20),(YM 153 21),(YB 154 .add 3 false 152 153),(AI.mk (some 155) (AOp.cv 3 103 (AX.t 154)) none),(YC 156 .shr 103 false 155 (Value.int IntKind.u64 1)),(AI.mk (some 157) (AOp.cv 103 3 (AX.t 156)) none),(YM 23 157)]) (AC.seq (AC.draw [(YM 158 4),(YM 159 0),(YM 160 22),(YM 161 23),(YB 162 .sub 3 false 160 161),(YI 163 2 159 162),(YL 164 true 2 163),(YM 165 0),(YM 166 23),(YI 167 2 165 166),(YL 168 true 2 167),(AI.mk (some 169) (AOp.callv (AX.t 158) [(AX.t 164),(AX.t 168)]) none),(YC 170 .lss 3 false 169 (Value.int IntKind.i64 0)),(AI.mk (some 171) (AOp.un UnOp.not (AX.t 170)) none)]) (AC.cond (AX.t 171) (AC.region [(YM 172 23),(YC 173 .add 3 false 172 (Value.int IntKind.i64 1)),(YM 20 173)]) (AC.region [(YM 174 23),(YM 21 174)])))))))) (AC.seq (AC.region [(YM 175 19),(YM 176 20),(YB 177 .sub 3 false 175 176),(YM 24 177)]) (AC.seq (AC.seq (AC.region [(YM 178 20),(YM 179 2),(YB 180 .lss 3 false 178 179),(YM 181 180),(YMg 182 2 181 true),(YMg 183 24 181 true),(YBg 184 .lss 3 false 182 183 181 true),(YPc 185 181 184 false)]) (AC.cond (AX.t 185) (AC.region [(YM 186 0),(YM 187 20),(YM 188 2),(YM 189 24),(YM 190 4),(AI.mk (some 191) (AOp.callh 91 [(AX.t 186),(AX.t 187),(AX.t 188),(AX.t 189),(AX.t 190)]) none)]) AC.skip)) (AC.seq (AC.seq (AC.region [(YM 192 1),(YM 193 20),(YB 194 .lss 3 false 192 193),(YM 195 194),(YMg 196 20 195 true),(YMg 197 18 195 true),(YBg 198 .lss 3 false 196 197 195 true),(YPc 199 195 198 false)]) (AC.cond (AX.t 199) (AC.region [(YM 200 0),(YM 201 1),(YM 202 20),(YM 203 18),(YM 204 4),(AI.mk (some 205) (AOp.callh 88 [(AX.t 200),(AX.t 201),(AX.t 202),(AX.t 203),(AX.t 204)]) none)]) AC.skip)) (AC.seq (AC.region [(YM 206 18),(YM 207 24),(YB 208 .lss 3 false 206 207),(YM 209 208),(YMg 210 24 209 true),(YMg 211 3 209 true),(YBg 212 .lss 3 false 210 211 209 true),(YPc 213 209 212 false)]) (AC.cond (AX.t 213) (AC.region [(YM 214 0),(YM 215 18),(YM 216 24),(YM 217 3),(YM 218 4),(AI.mk (some 219) (AOp.callh 88 [(AX.t 214),(AX.t 215),(AX.t 216),(AX.t 217),(AX.t 218)]) none)]) AC.skip))))))))))))))
theorem cop88:zI Tryd.prog [16,26,30,34,40,41,43,44,45,48,55,71,72,81,87,88,91,92] 88=some A88:=by kernel_rfl
def A91:AF:=(AF.mk 58 [] (AC.seq (AC.region [(YM 12 2),(YM 13 1),(YB 14 .sub 3 false 12 13),(YM 10 14)]) (AC.seq (AC.region [(YM 15 3),(YM 16 2),(YB 17 .sub 3 false 15 16),(YM 11 17)]) (AC.seq (AC.block 0 (AC.loop (AC.seq (AC.seq (AC.region [(YM 18 10),(YM 19 11),(YB 20 .neq 3 false 18 19)]) (AC.cond (AX.t 20) AC.skip (AC.exit 0))) (AC.block 1 (AC.seq (AC.region [(YM 21 10),(YM 22 11),(YB 23 .gtr 3 false 21 22)]) (AC.cond (AX.t 23) (AC.seq (AC.region [(YM 24 0),(YM 25 2),(YM 26 10),(YB 27 .sub 3 false 25 26),(YM 28 2),(YM 29 11),(YM 30 4),(AI.mk (some 31) (AOp.callh 92 [(AX.t 24),(AX.t 27),(AX.t 28),(AX.t 29),(AX.t 30)]) none)]) (AC.region [(YM 32 10),(YM 33 11),(YB 34 .sub 3 false 32 33),(YM 10 34)])) (AC.seq (AC.region [(YM 35 0),(YM 36 2),(YM 37 10),(YB 38 .sub 3 false 36 37),(YM 39 2),(YM 40 11),(YB 41 .add 3 false 39 40),(YM 42 10),(YB 43 .sub 3 false 41 42),(YM 44 10),(YM 45 4),(AI.mk (some 46) (AOp.callh 92 [(AX.t 35),(AX.t 38),(AX.t 43),(AX.t 44),(AX.t 45)]) none)]) (AC.region [(YM 47 11),(YM 48 10),(YB 49 .sub 3 false 47 48),(YM 11 49)])))))))) (AC.region [(YM 50 0),(YM 51 2),(YM 52 10),(YB 53 .sub 3 false 51 52),(YM 54 2),(YM 55 10),(YM 56 4),(AI.mk (some 57) (AOp.callh 92 [(AX.t 50),(AX.t 53),(AX.t 54),(AX.t 55),(AX.t 56)]) none)])))))
theorem cop91:zI Tryd.prog [16,26,30,34,40,41,43,44,45,48,55,71,72,81,87,88,91,92] 91=some A91:=by kernel_rfl
abbrev zA92_0:AI:=YB 19 .add 3 false 17 18
abbrev zA92_1:AI:=YB 23 .add 3 false 21 22
abbrev zA92_2:AI:=YB 27 .add 3 false 25 26
abbrev zA92_3:AI:=YB 33 .add 3 false 31 32
def A92:AF:=(AF.mk 38 [] (AC.seq (AC.region [(YN 10 (Value.int IntKind.i64 0))]) (AC.block 0 (AC.loop (AC.seq (AC.seq (AC.region [(YM 11 10),(YM 12 3),(YB 13 .lss 3 false 11 12)]) (AC.cond (AX.t 13) AC.skip (AC.exit 0))) (AC.seq (AC.block 1 (AC.drawx [[(YM 16 0),(YM 17 1),(YM 18 10),zA92_0,(YM 20 0),(YM 21 2),(YM 22 10),zA92_1,(YM 24 0),(YM 25 2),(YM 26 10),zA92_2,(YI 28 2 24 27),(YL 29 true 2 28),(YM 30 0),(YM 31 1),(YM 32 10),zA92_3,(YI 34 2 30 33),(YL 35 true 2 34),(YI 36 2 16 19),(YS 2 36 29),(YI 37 2 20 23),(YS 2 37 35)],[(YM 16 0),(YM 17 1),(YM 18 10),zA92_0,(YM 20 0),(YM 21 2),(YM 22 10),(YM 24 0),(YM 25 2),(YM 26 10),zA92_2,(YI 28 2 24 27),(YL 29 true 2 28),(YM 30 0),(YM 31 1),(YM 32 10),zA92_3,(YI 34 2 30 33),(YL 35 true 2 34),(YI 36 2 16 19),(YS 2 36 29),zA92_1,(YI 37 2 20 23),(YS 2 37 35)]])) (AC.region [(YM 14 10),(YC 15 .add 3 false 14 (Value.int IntKind.i64 1)),(YM 10 15)])))))))
theorem cop92:zI Tryd.prog [16,26,30,34,40,41,43,44,45,48,55,71,72,81,87,88,91,92] 92=some A92:=by kernel_rfl
theorem u_bool:(Tryd.prog).underlying 4=some .bool:=by kernel_rfl
theorem bVb {xo yo:Operand} {x y:Bool}:ZX Tryd.prog .eql 4 xo yo (.bool x) (.bool y)=some (.bool (x == y)):=bV_bool u_bool
theorem bVn {xo yo:Operand} {x y:Bool}:ZX Tryd.prog .neq 4 xo yo (.bool x) (.bool y)=some (.bool (!(x == y))):=bV_bne u_bool
theorem X2:(Tryd.prog).underlying 9=some .string:=by kernel_rfl
theorem hb3:zj Tryd.prog 3=true:=by kernel_rfl
theorem hb9:zj Tryd.prog 9=true:=by kernel_rfl
theorem hb10:zj Tryd.prog 10=true:=by kernel_rfl
theorem hb15:zj Tryd.prog 15=true:=by kernel_rfl
theorem hb19:zj Tryd.prog 19=true:=by kernel_rfl
theorem hb20:zj Tryd.prog 20=true:=by kernel_rfl
theorem hb21:zj Tryd.prog 21=true:=by kernel_rfl
theorem hb22:zj Tryd.prog 22=true:=by kernel_rfl
theorem hb23:zj Tryd.prog 23=true:=by kernel_rfl
theorem hb24:zj Tryd.prog 24=true:=by kernel_rfl
theorem hb25:zj Tryd.prog 25=true:=by kernel_rfl
theorem hb26:zj Tryd.prog 26=true:=by kernel_rfl
theorem hb27:zj Tryd.prog 27=true:=by kernel_rfl
theorem hb33:zj Tryd.prog 33=true:=by kernel_rfl
theorem hb34:zj Tryd.prog 34=true:=by kernel_rfl
theorem hb35:zj Tryd.prog 35=true:=by kernel_rfl
theorem hb36:zj Tryd.prog 36=true:=by kernel_rfl
theorem hb37:zj Tryd.prog 37=true:=by kernel_rfl
theorem hb38:zj Tryd.prog 38=true:=by kernel_rfl
theorem hb39:zj Tryd.prog 39=true:=by kernel_rfl
theorem hb48:zj Tryd.prog 48=true:=by kernel_rfl
theorem hb52:zj Tryd.prog 52=true:=by kernel_rfl
theorem hb54:zj Tryd.prog 54=true:=by kernel_rfl
theorem hb60:zj Tryd.prog 60=true:=by kernel_rfl
theorem hb62:zj Tryd.prog 62=true:=by kernel_rfl
theorem hb63:zj Tryd.prog 63=true:=by kernel_rfl
theorem hb64:zj Tryd.prog 64=true:=by kernel_rfl
theorem hb73:zj Tryd.prog 73=true:=by kernel_rfl
theorem hb74:zj Tryd.prog 74=true:=by kernel_rfl
open Go.RowKit
inductive ObI (x:Int) (k:Int->Prop):Prop
 | mk (z:Int) (hz:x=z) (h1 : -9223372036854775808<=z) (h2:z<=9223372036854775807) (hk:k z):ObI x k
 | wr (hk:k (IntKind.i64.wrap x)):ObI x k
inductive ObZ (x:Int) (k:Int->Prop):Prop
 | mk (z:Int) (hz:x=z) (hk:k z):ObZ x k
inductive ObB (p:Prop) (t f:Prop):Prop
 | mk (ht:p->t) (hf:¬ p->f):ObB p t f
inductive ObT (b:Bool) (t f:Prop):Prop
 | mk (ht:b=true->t) (hf:b=false->f):ObT b t f
inductive ObN (p:Prop) (k:Prop):Prop
 | mk (hp:p) (hk:k):ObN p k
inductive ObD (b:Bool) (k:Prop):Prop
 | mk (hb:b=true) (hk:k):ObD b k
inductive ObR (es:List AV) (i:Nat) (k:AV->Prop):Prop
 | mk (e:AV) (he:es[i]? = some e) (hk:k e):ObR es i k
inductive ObX (x:Int) (n:Nat) (k:Nat->Prop):Prop
 | mk (i:Nat) (hx:x=i) (hi:i < n) (hk:k i):ObX x n k
inductive ObY (x:Int) (n:Nat) (k:Nat->Prop):Prop
 | mk (i:Nat) (hx:x=i) (hi:i<=n) (hk:k i):ObY x n k
inductive ObL (n:Nat) (k:Nat->Prop):Prop
 | mk (m:Nat) (h:n=m) (hk:k m):ObL n k
inductive ObU (es:List AV) (k:List AV->Prop):Prop
 | mk (es':List AV) (h:es=es') (hk:k es'):ObU es k
inductive ObS (s:ByteArray) (k:ByteArray->Prop):Prop
 | mk (s':ByteArray) (h:s=s') (hk:k s'):ObS s k
inductive ObC (P:Program) (G:Nat->AV) (f:FuncId) (as_:List AV) (k:AV->Prop):Prop
 | mk (r:AV) (h:PC P G f as_ r) (hk:k r):ObC P G f as_ k
inductive ObH (P:Program) (G:Nat->AV) (f:FuncId) (as_:List AV) (H:Hp) (k:AV->Hp->Prop):Prop
 | mk (r:AV) (H':Hp) (h:HC P G f as_ H r H') (hk:k r H'):ObH P G f as_ H k
inductive ObM (P:Program) (G:Nat->AV) (f:FuncId) (as_:List AV) (H:Hp) (k:AV->Hp->Prop):Prop
 | mk (r:AV) (Bs:Hp) (h:∀ H2:Hp,(Bs ≠ []->H2.length=H.length)->HC P G f as_ H2 r (H2++Bs)) (hk:k r (H++Bs)):ObM P G f as_ H k
inductive ObE (x:Option (AV × Hp)) (k:AV->Hp->Prop):Prop
 | mk (r:AV) (H':Hp) (h:x=some (r,H')) (hk:k r H'):ObE x k
def gK:List AV->Nat->(AV->Prop)->Prop
 | [],_,k=>k (.tup [])
 | a::_,0,k=>k a
 | _::s,n+1,k=>gK s n k
theorem gK_eq:∀ (s:List AV) (n:Nat) (k:AV->Prop),gK s n k=k (s.getD n (.tup []))
 | [],_,_=>rfl
 | _::_,0,_=>rfl
 | _::s,n+1,k=>by rw [gK,gK_eq s n k];simp
def pK:List AV->Nat->AV->(List AV->Prop)->Prop
 | [],_,_,k=>k []
 | _::s,0,r,k=>k (r::s)
 | a::s,n+1,r,k=>pK s n r (fun s'=>k (a::s'))
theorem pK_eq:∀ (s:List AV) (n:Nat) (r:AV) (k:List AV->Prop),pK s n r k=k (s.set n r)
 | [],_,_,_=>rfl
 | _::_,0,_,_=>rfl
 | a::s,n+1,r,k=>by rw [pK,pK_eq s n r];rfl
section
variable (G:Nat->AV)
def eK (s:List AV):AX->(AV->Prop)->Prop
 | .t n,k=>gK s n k
 | .c a,k=>k a
 | .g n,k=>k (G n)
theorem Zt (s:List AV) (x:AX) (k:AV->Prop):eK G s x k=k (x.ev G s):=by
 cases x with
 | t n=>exact gK_eq s n k
 | c a=>rfl
 | g n=>rfl
def esK (s:List AV):List AX->(List AV->Prop)->Prop
 | [],k=>k []
 | x::xs,k=>eK G s x (fun a=>esK s xs (fun as_=>k (a::as_)))
theorem Yt (s:List AV):∀ (xs:List AX) (k:List AV->Prop),esK G s xs k=k (xs.map (AX.ev G s))
 | [],_=>rfl
 | x::xs,k=>by rw [esK,Zt,Yt s xs];rfl
end
def nK:List AV->Nat->(AV->Prop)->Prop
 | [],_,_=>False
 | a::_,0,k=>k a
 | _::s,n+1,k=>nK s n k
theorem nK_ok:∀ {s:List AV} {n:Nat} {k:AV->Prop},nK s n k->∃ a,s[n]? = some a/\k a
 | [],_,_,h=>h.elim
 | a::_,0,_,h=>⟨a,rfl,h⟩
 | _::s,n+1,_,h=>by obtain ⟨a,h1,h2⟩:=nK_ok (s:=s) h;exact ⟨a,by simpa using h1,h2⟩
def tK:List AV->Nat->(List AV->Prop)->Prop
 | _,0,k=>k []
 | [],_+1,k=>k []
 | a::s,n+1,k=>tK s n (fun t=>k (a::t))
theorem tK_eq:∀ (s:List AV) (n:Nat) (k:List AV->Prop),tK s n k=k (s.take n)
 | _,0,_=>by simp [tK]
 | [],_+1,_=>by simp [tK]
 | a::s,n+1,k=>by rw [tK,tK_eq s n];rfl
def dK:List AV->Nat->(List AV->Prop)->Prop
 | s,0,k=>k s
 | [],_+1,k=>k []
 | _::s,n+1,k=>dK s n k
theorem dK_eq:∀ (s:List AV) (n:Nat) (k:List AV->Prop),dK s n k=k (s.drop n)
 | _,0,_=>by simp [dK]
 | [],_+1,_=>by simp [dK]
 | _::s,n+1,k=>by rw [dK,dK_eq s n];rfl
def oK:List AV->Nat->List AV->(List AV->Prop)->Prop
 | s,_,[],k=>k s
 | s,n,v::vs,k=>pK s n v (fun s'=>oK s' (n+1) vs k)
theorem oK_eq:∀ (vs s:List AV) (n:Nat) (k:List AV->Prop),n+vs.length<=s.length->oK s n vs k=k (s.take n++vs++s.drop (n+vs.length))
 | [],s,n,k,h=>by simp [oK]
 | v::vs,s,n,k,h=>by
  simp only [List.length_cons] at h
  rw [oK,pK_eq,oK_eq vs _ _ _ (by simp;omega)]
  congr 1
  have e1:(s.set n v).take (n+1)=s.take n++[v]:=by
   rw [List.take_add_one,List.take_set,List.getElem?_set_self (by omega),List.set_eq_of_length_le (by simp;omega)]
   simp
  have e2:(s.set n v).drop (n+1+vs.length)=s.drop (n+(v::vs).length):=by
   rw [List.drop_set_of_lt (by omega)];congr 1;simp;omega
  rw [e1,e2];simp
def aK:Hp->List Nat->OB->(Nat->Hp->Prop)->Prop
 | [],n::_,o,k=>k n [o]
 | o'::H,_::ns,o,k=>aK H ns o (fun n H'=>k n (o'::H'))
 | _,[],_,_=>False
def y8:List Nat:=[0,1,2,3,4,5,6,7,8,9,10,11,12,13,14,15,16,17,18,19,20,21,22,23,24,25,26,27,28,29,30,31]
theorem aK_aux:∀ (H:Hp) (m:Nat) (ns:List Nat) (o:OB) (k:Nat->Hp->Prop),(∀ (i n:Nat),ns[i]? = some n->n=m+i)->aK H ns o k->k (m+H.length) (H++[o])
 | [],m,n::ns,o,k,hn,h=>by have:n=m:=hn 0 n rfl;subst this;exact h
 | o'::H,m,n::ns,o,k,hn,h=>by
  have:=aK_aux H (m+1) ns o _ (fun i q hq=>by have:=hn (i+1) q (by simpa using hq);omega) h
  simpa [Nat.add_assoc,Nat.add_comm,Nat.add_left_comm] using this
 | [],_,[],_,_,_,h=>h.elim
 | _::_,_,[],_,_,_,h=>h.elim
theorem wF {H:Hp} {o:OB} {k:Nat->Hp->Prop} (h:aK H y8 o k):k H.length (H++[o]):=by
 have:=aK_aux H 0 y8 o k (fun i n hn=>by
  simp only [y8] at hn
  rcases i with _|_|_|_|_|_|_|_|_|_|_|_|_|_|_|_|_|_|_|_|_|_|_|_|_|_|_|_|_|_|_|_|i<;>simp at hn<;>omega) h
 simpa using this
def rK:Hp->Nat->(OB->Prop)->Prop
 | [],_,_=>False
 | o::_,0,k=>k o
 | _::H,n+1,k=>rK H n k
theorem wQ:∀ {H:Hp} {n:Nat} {k:OB->Prop},rK H n k->∃ o,H[n]? = some o/\k o
 | [],_,_,h=>h.elim
 | o::_,0,_,h=>⟨o,rfl,h⟩
 | _::H,n+1,_,h=>by obtain ⟨a,h1,h2⟩:=wQ (H:=H) h;exact ⟨a,by simpa using h1,h2⟩
def rpK:Hp->Nat->OB->(Hp->Prop)->Prop
 | [],_,_,k=>k []
 | _::s,0,r,k=>k (r::s)
 | a::s,n+1,r,k=>rpK s n r (fun s'=>k (a::s'))
theorem yc:∀ (s:Hp) (n:Nat) (r:OB) (k:Hp->Prop),rpK s n r k=k (s.set n r)
 | [],_,_,_=>rfl
 | _::_,0,_,_=>rfl
 | a::s,n+1,r,k=>by rw [rpK,yc s n r];rfl
theorem beqN (a b:Nat):(a == b)=Nat.beq a b:=by
 cases h:Nat.beq a b with
 | true=>simp [Nat.eq_of_beq_eq_true h]
 | false=>have:=Nat.ne_of_beq_eq_false h;simp [this]
def lK (H:Hp) (i g:Nat) (k:TypeId->Nat->List AV->Nat->Prop):Prop :=
 rK H i (fun o=>match o with|⟨e,kk,es,g',fz⟩=>(match Nat.beq e 4000000000 with|true=>False|false=>ObN (g'=g) (k e kk es fz)))
theorem Z4 {H:Hp} {i g:Nat} {k:TypeId->Nat->List AV->Nat->Prop} (h:lK H i g k):∃ o,live H i g=some o/\H[i]? = some o/\k o.e o.k o.es o.fz/\o.g=g:=by
 obtain ⟨o,h1,h2⟩:=wQ h
 obtain ⟨e,kk,es,g',fz⟩:=o
 simp only at h2
 split at h2
 ·exact h2.elim
 ·rename_i hb
  obtain ⟨h3,h4⟩:=h2
  have hb':(e == 4000000000)=false:=(beqN e _).trans hb
  exact ⟨_,by simp only [live,h1,h3,hb',if_true,Bool.false_eq_true,if_false],h1,h4,h3⟩
def lMK (H:Hp) (i g:Nat) (k:Nat->List AV->Nat->Prop):Prop :=
 rK H i (fun o=>match o with|⟨e,kk,es,g',fz⟩=>(match Nat.beq e 4000000000 && Nat.ble 2 kk with|false=>False|true=>ObN (g'=g) (k kk es fz)))
theorem lMK_ok {H:Hp} {i g:Nat} {k:Nat->List AV->Nat->Prop} (h:lMK H i g k):∃ o,liveM H i g=some o/\H[i]? = some o/\k o.k o.es o.fz/\o.g=g/\o.e=ZM:=by
 obtain ⟨o,h1,h2⟩:=wQ h
 obtain ⟨e,kk,es,g',fz⟩:=o
 simp only at h2
 split at h2
 ·exact h2.elim
 ·rename_i hb
  obtain ⟨h3,h4⟩:=h2
  have hb':(e == 4000000000 && Nat.ble 2 kk)=true:=by rw [beqN];exact hb
  have hb2:=hb'
  rw [Bool.and_eq_true] at hb2
  exact ⟨_,by simp only [liveM,h1,h3,hb',if_true],h1,h4,h3,by simpa using hb2.1⟩
end Go.Proofs.YtfocijljkkfonaaDoor.Sim
