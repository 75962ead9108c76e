/- Texts of this claim, part 2. -/
import Derived.ChangeOld
import Derived.ChangeSame
import Derived.LoopN
import Derived.OpenShut
import Derived.Scope
import Derived.Test.YtdodckipblafmaaGreatDoorMSeekLies1
set_option linter.unusedVariables false
set_option linter.unusedSimpArgs false
namespace Go.Proofs.YtdodckipblafmaaGreatDoor.Sim
open Go.RowKit
structure St where
 s:List AV
 H:Hp
def St.put (st:St) (d:Option Nat) (r:AV) (H:Hp):St :=
 match d with
 | some d=>⟨st.s.set d r,H⟩
 | none=>⟨st.s,H⟩
def zh:AV:=.tup []
inductive EX where
 | n
 | x (id:Nat)
 | r
def GOK (G:Nat->AV) (F:Fz):Prop:=∀ g,VR F [] (.pointer (some ⟨g,0,none⟩)) (G g)
theorem GOK.mono {G:Nat->AV} {F F':Fz} (h:GOK G F) (hF:F.le F'):GOK G F':=fun g=>(h g).mono hF (Ow.le_refl _)
theorem Ow.le_nil (O:Ow):Ow.le [] O:=fun i d h=>by simp at h
def PC (P:Program) (G:Nat->AV) (f:FuncId) (as_:List AV) (r:AV):Prop :=
 ∀ (w:World) (F:Fz) (xs:List Value),(∀ b o v,F b o=some v->w.cell? ⟨b,o,none⟩=some v)->GOK G F->xs.length=as_.length->(∀ (i:Nat) (c:Value) (a:AV),xs[i]? = some c->as_[i]? = some a->PV F c a) ->
  Calls P f xs.toArray w (fun e w'=>∃ v F',e = .returned v/\PV F' v r/\F.le F'/\(∀ b o v,F' b o=some v->w'.cell? ⟨b,o,none⟩=some v)/\(∀ b o v,F' b o=some v->F b o=some v\/w.heap.size<=b)/\Below w.heap.size w w')
def HC (P:Program) (G:Nat->AV) (f:FuncId) (as_:List AV) (H:Hp) (r:AV) (H':Hp):Prop :=
 ∀ (B:Bd) (w0:World) (F0 F:Fz) (O:Ow) (w:World) (xs:List Value),Own B w0 F0 F O H w->GOK G F->xs.length=as_.length->(∀ (i:Nat) (c:Value) (a:AV),xs[i]? = some c->as_[i]? = some a->VR F O c a) ->
  Calls P f xs.toArray w (fun e w'=>∃ v,e = .returned v/\Out B w0 F0 F O r H' v w')
def ltC (base:Nat):AV->Bool
 | .ol i _ _=>decide (i < base)
 | .os i _ _ _=>decide (i < base)
 | .oa i _ _ _=>decide (i < base)
 | .io _ i _ _ _=>decide (i < base)
 | .mp i _=>decide (i < base)
 | .oc i _ _ _=>decide (i < base)
 | .mf _ _ i _ _ _=>decide (i < base)
 | _=>true
def ltB (base:Nat):AV->Bool
 | .agg cs=>cs.all (ltC base)
 | .fn _ cs=>cs.all (ltC base)
 | a=>ltC base a
def geB (base:Nat):AV->Bool
 | .ol i _ _=>decide (base<=i)
 | _=>false
def AOp.cls:AOp->Nat
 | .mkm2 ..|.mv _|.un ..|.cv ..|.pick ..|.ext ..|.bld ..|.fld ..|.idx ..|.ixa ..|.sls ..|.lns _|.bi ..|.mkf ..|.eqs ..|.len _=>0
 | .bin ..|.load ..|.nilc _|.fad ..|.iad ..|.iaa ..|.slo ..|.mki ..|.lkp ..|.lnm _=>1
 | .slc ..|.call ..=>2
 | .new ..|.bsl ..|.mks ..|.callm ..|.apz ..|.mkm=>3
 | .apf ..=>5
 | .store ..|.app ..|.callh ..|.callv ..|.calli ..|.bad|.cpy ..|.mup ..=>4
def AOp.xs:AOp->List AX
 | .mv x|.un _ x|.cv _ _ x|.ext x _|.new _ _ x|.load _ _ x|.nilc x|.fad _ x|.fld _ _ _ x|.lns x|.len x|.mki _ x|.lnm x|.mkm2 _ x=>[x]
 | .bin _ _ _ _ _ x y|.store _ x y|.iad _ x y|.slo _ x y|.iaa _ _ x y|.idx _ x y|.ixa _ _ _ x y|.mks _ _ _ _ x y|.app _ _ _ x y|.apf _ _ _ x y|.apz _ _ _ _ x y=>[x,y]
 | .pick c a b=>[c,a,b]
 | .bld _ ps=>ps.map (·.2.2)
 | .bsl _ _ xs|.bi _ _ _ _ xs|.call _ xs|.callh _ xs|.callm _ xs|.mkf _ xs=>xs
 | .callv x xs=>x::xs
 | .calli _ x xs=>x::xs
 | .eqs _ _ x y|.cpy _ x y|.lkp _ _ _ x y=>[x,y]
 | .mup _ x y z=>[x,y,z]
 | .bad|.mkm=>[]
 | .sls _ x lo hi|.slc _ x lo hi=>[x]++lo.toList++hi.toList
section
variable (P:Program) (G:Nat->AV)
def y0 (ev:AX->AV) (H:Hp) (op:AOp) (k:AV->Hp->Prop):Prop :=
 match op with
 | .call f xs=>∃ as_ H1 r,yi H (xs.map ev)=some (as_,H1)/\PC P G f as_ r/\k r H1
 | .callh f xs=>∃ r H',HC P G f (xs.map ev) H r H'/\k r H'
 | .callm f xs=>∃ r Bs,(∀ H2:Hp,(Bs ≠ []->H2.length=H.length)->HC P G f (xs.map ev) H2 r (H2++Bs))/\k r (H++Bs)
 | .callv x xs=>∃ f cs r H',fnA (ev x)=some (f,cs)/\Zs P f=true/\HC P G f (xs.map ev++cs) H r H'/\k r H'
 | .calli nm x xs=>∃ t i g e off f r H',ev x = .io t i g e off/\(live H i g).isSome=true/\Mth P t nm f/\HC P G f (.oa i g e off::xs.map ev) H r H'/\k r H'
 | op=>match eff P ev H op with
  | some (r,H')=>k r H'
  | none=>False
def AWi (o:AI) (st:St) (k:St->Prop):Prop :=
 match o.guard with
 | none=>y0 P G (AX.ev G st.s) st.H o.op (fun r H'=>k (st.put o.dst r H'))
 | some (t,want) =>
  match st.s.getD t zh with
  | .v (.bool b)=>if b=want then y0 P G (AX.ev G st.s) st.H o.op (fun r H'=>k (st.put o.dst r H')) else k (st.put o.dst zh st.H)
  | .tup []=>k (st.put o.dst zh st.H)
  | _=>False
def AWs:List AI->(St->Prop)->St->Prop
 | [],k,st=>k st
 | o::os,k,st=>AWi P G o st (AWs os k)
def chk (base:Nat) (o:AI) (st:St):Prop:=o.op.cls=0\/(base<=st.H.length/\(o.op.cls=1\/o.op.cls=2->(o.op.xs.all fun x=>ltB base (x.ev G st.s))=true)/\(o.op.cls=5->geB base ((o.op.xs.headD (.c .unk)).ev G st.s)=true))
def AWd (base:Nat):List AI->(St->Prop)->St->Prop
 | [],k,st=>k st
 | o::os,k,st=>chk G base o st/\AWi P G o st (AWd base os k)
inductive AC where
 | skip
 | region (ops:List AI)
 | draw (ops:List AI)
 | drawx (reps:List (List AI))
 | seq (a b:AC)
 | cond (c:AX) (t e:AC)
 | block (id:Nat) (c:AC)
 | loop (c:AC)
 | scope (c:AC)
 | exit (id:Nat)
 | ret
 | rng (g:AX) (p:Nat) (a b:AC)
def IsSt (s' s:St):Prop:=s=s'
def Xd (Wc:(EX->St->Prop)->St->Prop) (Q:EX->St->Prop):Nat->St->Prop
 | 0,_=>False
 | n+1,st=>Wc (fun e st'=>match e with|.n=>Xd Wc Q n st'|e=>Q e st') st
def yf (k:St->Prop) (Q:EX->St->Prop):EX->St->Prop
 | .n,st=>k st
 | e,st=>Q e st
def yq (id:Nat) (Q:EX->St->Prop):EX->St->Prop
 | .x id',st=>if id'=id then Q .n st else Q (.x id') st
 | e,st=>Q e st
def W:AC->(EX->St->Prop)->St->Prop
 | .skip,Q,st=>Q .n st
 | .region ops,Q,st=>AWs P G ops (Q .n) st
 | .draw ops,Q,st=>AWd P G st.H.length ops (Q .n) st
 | .drawx reps,Q,st=>∀ R ∈ reps,AWd P G st.H.length R (Q .n) st
 | .seq a b,Q,st=>W a (yf (W b Q) Q) st
 | .cond c t e,Q,st =>
  match c.ev G st.s with
  | .v (.bool b)=>if b=true then W t Q st else W e Q st
  | _=>False
 | .block id c,Q,st=>W c (yq id Q) st
 | .loop c,Q,st=>∃ n,Xd (W c) Q n st
 | .scope c,Q,st=>W c Q st
 | .exit id,Q,st=>Q (.x id) st
 | .ret,Q,st=>Q .r st
 | .rng ..,_,_=>False
end
def freshT (ops:Array Oper):Nat->Nat->Bool
 | 0,_=>false
 | d+1,n =>
  match ops.toList.find? (fun o=>o.dst == some n) with
  | some o =>
   (match o.op with
    | .buildSlice ..=>true
    | .call c=>(match c.callee with|.builtin .append=>(match c.args.toList with|[.tmp m,_]=>freshT ops d m|_=>false)|_=>false)
    | _=>false)
  | none=>false
def convF (ops:Array Oper):AOp->AOp
 | .app e k b (.t n) x=>if freshT ops 6 n=true then .apf e k b (.t n) x else .app e k b (.t n) x
 | op=>op
theorem convF_ok {P:Program} {G:Nat->AV} {ops:Array Oper} {ev:AX->AV} {H:Hp} {op:AOp} {k:AV->Hp->Prop} (h:y0 P G ev H (convF ops op) k):y0 P G ev H op k:=by
 cases op with
 | app e kk b s x =>
  cases s with
  | t n =>
   simp only [convF] at h
   split at h
   ·exact h
   ·exact h
  | _=>exact h
 | _=>exact h
def intoT (ops:Array Oper) (d:Nat):Bool :=
 ops.toList.any fun o =>
  match o.op with
  | .call c=>(match c.callee with|.builtin .copy=>(match c.args.toList with|.tmp m::_=>m == d|_=>false)|_=>false)
  | _=>false
def w6 (ops:Array Oper) (d:Option Nat) (op:AOp):AOp :=
 match op,d with
 | .slc k x (some l) none,some d=>if intoT ops d=true then .slo k x l else .slc k x (some l) none
 | op,_=>convF ops op
def w4 (P:Program) (hs:List FuncId) (ops:Array Oper) (o:Oper):Option AI :=
 match o.guard with
 | none=>some ⟨o.dst,w6 ops o.dst (yP P hs o),none⟩
 | some (j,want)=>(match (ops[j]?).bind (·.dst) with|some t=>some ⟨o.dst,w6 ops o.dst (yP P hs o),some (t,want)⟩|none=>none)
def xz (P:Program) (hs:List FuncId) (ops:Array Oper):List Oper->Option (List AI)
 | []=>some []
 | o::os =>
  match w4 P hs ops o,xz P hs ops os with
  | some a,some as_=>some (a::as_)
  | _,_=>none
structure Rl (G:Nat->AV) (B:Bd) (w0:World) (F0 F1:Fz) (O1:Ow) (F:Fz) (O:Ow) (st:St) (a:Act) (w:World):Prop where
 own:Own B w0 F0 F O st.H w
 size:a.tmps.size=st.s.length
 slot:∀ t,VR F O (a.tmps.getD t undef) (st.s.getD t zh)
 defs:a.defers=B.ds
 gok:GOK G F
 leF:F1.le F
 leO:O1.le O
theorem yw {F:Fz} {O:Ow}:VR F O undef zh:=.p (.tup [] [] rfl fun i c a hc=>by simp at hc)
theorem Rl.put {G : Nat -> AV} {B : Bd} {w0 : World} {F0 F1 : Fz} {O1 : Ow} {F : Fz} {O : Ow} {st : St} {a : Act} {w : World} (h : Rl G B w0 F0 F1 O1 F O st a w) {d : Option Nat} {r : AV} {H' : Hp} {x : Value} {w' : World} (ho : Out B w0 F0 F O r H' x w') :
  ∃ F' O',Rl G B w0 F0 F1 O1 F' O' (st.put d r H') (a.put d x) w':=by
 obtain ⟨F',O',hv,own,lF,lO⟩:=ho
 refine ⟨F',O',?_⟩
 cases d with
 | none=>exact ⟨own,h.size,fun t=>(h.slot t).mono lF lO,h.defs,h.gok.mono lF,Fz.le_trans h.leF lF,Ow.le_trans h.leO lO⟩
 | some d =>
  refine ⟨own,by simpa [Act.put,St.put] using h.size,fun t=>?_,h.defs,h.gok.mono lF,Fz.le_trans h.leF lF,Ow.le_trans h.leO lO⟩
  have hs:=(h.slot t).mono lF lO
  simp only [Act.put,St.put]
  by_cases ht:d=t
  ·subst ht
   by_cases hd:d < a.tmps.size
   ·have e1 : (a.tmps.setIfInBounds d x).getD d undef = x := by
     rw [Array.getD_eq_getD_getElem?,Array.getElem?_setIfInBounds_self_of_lt hd];rfl
    have e2:(st.s.set d r).getD d zh=r:=by
     rw [List.getD_eq_getElem?_getD,List.getElem?_set_self (by rw [<- h.size];exact hd)];rfl
    rw [e1,e2]
    exact hv
   ·have e1 : a.tmps.setIfInBounds d x = a.tmps := by
     apply Array.ext' ;simp [List.set_eq_of_length_le (show a.tmps.toList.length<=d by simpa using hd)]
    have e2:st.s.set d r=st.s:=List.set_eq_of_length_le (by rw [<- h.size];omega)
    rw [e1,e2]
    exact hs
  ·have e1 : (a.tmps.setIfInBounds d x).getD t undef = a.tmps.getD t undef := by
    rw [Array.getD_eq_getD_getElem?,Array.getD_eq_getD_getElem?,Array.getElem?_setIfInBounds_ne ht]
   have e2:(st.s.set d r).getD t zh=st.s.getD t zh:=by
    rw [List.getD_eq_getElem?_getD,List.getD_eq_getElem?_getD,List.getElem?_set_ne ht]
   rw [e1,e2]
   exact hs
theorem Rl.operand {P:Program} {G:Nat->AV} {B:Bd} {w0:World} {F0 F1:Fz} {O1:Ow} {F:Fz} {O:Ow} {st:St} {a:Act} {w:World} (h:Rl G B w0 F0 F1 O1 F O st a w) (ty:TypeId) (x:Operand) (ax:AX) (hc:cx P ty x=some ax):VR F O (a.eval x) (ax.ev G st.s):=by
 cases x with
 | tmp t=>cases hc;exact h.slot t
 | const v =>
  simp only [cx] at hc
  split at hc
  ·rename_i b hb
   cases hc
   exact (yZ hb F O).1
  ·cases hc
 | global g=>cases hc;exact (h.gok g).mono (Fz.le_refl F) (Ow.le_nil O)
 | func f=>cases hc;exact .p (.v _ rfl)
theorem Rl.guard {G:Nat->AV} {B:Bd} {w0:World} {F0 F1:Fz} {O1:Ow} {F:Fz} {O:Ow} {st:St} {a:Act} {w:World} (h:Rl G B w0 F0 F1 O1 F O st a w) {t:Nat} {b:Bool} (hb:st.s.getD t zh = .v (.bool b)):a.tmps[t]? = some (.bool b):=by
 have hs:=h.slot t
 rw [hb] at hs
 have hs:=hs.pvC rfl
 have e:a.tmps.getD t undef = .bool b:=by generalize a.tmps.getD t undef=q at hs;cases hs;rfl
 rw [Array.getD_eq_getD_getElem?] at e
 cases hq:a.tmps[t]? with
 | none=>rw [hq] at e;cases e
 | some q=>rw [hq] at e;cases e;rfl
theorem Rl.guardU {G:Nat->AV} {B:Bd} {w0:World} {F0 F1:Fz} {O1:Ow} {F:Fz} {O:Ow} {st:St} {a:Act} {w:World} (h:Rl G B w0 F0 F1 O1 F O st a w) {t:Nat} (hb:st.s.getD t zh = .tup []):a.tmps.getD t undef = .tuple #[]:=by
 have hs:=h.slot t
 rw [hb] at hs
 generalize a.tmps.getD t undef=q at hs
 cases hs with
 | p hs=>cases hs with
  | tup cs as_ hl _=>cases cs with|nil=>rfl|cons c cs=>simp at hl
 | tup cs as_ hl _=>cases cs with|nil=>rfl|cons c cs=>simp at hl
section
variable {P:Program} {G:Nat->AV} {hs:List FuncId} {B:Bd} {w0:World} {F0 F1:Fz} {O1:Ow}
theorem Xq {o:Oper} {f:FuncId} {c:Call} (hop:o.op = .call c) (hf:c.callee = .value (.func f)) (hb:Zs P f=true) (a:Act) (w:World):(execOp a.eval o).run P w = .ok (.enter f (c.args.map a.eval)) w:=by
 unfold Zs at hb
 split at hb
 ·rename_i fn hfn
  simp only [Bool.and_eq_true,bne_iff_ne,ne_eq] at hb
  have hbn:fn.body.isNone=false:=by cases hq:fn.body with
   | none=>rw [hq] at hb;simp at hb
   | some _=>rfl
  have hnm:(fn.name == "runtime.NumGoroutine")=false:=by simpa using hb.2
  simp only [execOp,hop,resolve,hf,Act.eval,Deferred.ofValue,Sem.run_bind,Sem.run_pure,Result.andThen_ok,invoke,callFunc,program,Sem.run,hfn,hnm,hbn,Bool.false_eq_true,if_false]
  simp
 ·cases hb
theorem callv_run {o:Oper} {t:Nat} {f:FuncId} {c:Call} (hop:o.op = .call c) (hf:c.callee = .value (.tmp t)) (hb:Zs P f=true) (a:Act) {xs:List Value} (hv:a.tmps.getD t undef = .func (.func f) #[] xs.toArray) (w:World):(execOp a.eval o).run P w = .ok (.enter f (c.args.map a.eval++xs.toArray)) w:=by
 unfold Zs at hb
 split at hb
 ·rename_i fn hfn
  simp only [Bool.and_eq_true,bne_iff_ne,ne_eq] at hb
  have hbn:fn.body.isNone=false:=by cases hq:fn.body with
   | none=>rw [hq] at hb;simp at hb
   | some _=>rfl
  have hnm:(fn.name == "runtime.NumGoroutine")=false:=by simpa using hb.2
  have he:a.eval (.tmp t) = .func (.func f) #[] xs.toArray:=hv
  simp only [execOp,hop,resolve,hf,he,Deferred.ofValue,Sem.run_bind,Sem.run_pure,Result.andThen_ok,invoke,callFunc,program,Sem.run,hfn,hnm,hbn,Bool.false_eq_true,if_false]
  simp
 ·cases hb
theorem calli_run {o:Oper} {rc:Operand} {nm:String} {t:Nat} {f:FuncId} {c:Call} (hop:o.op = .call c) (hf:c.callee = .invoke rc nm) (hm:Mth P t nm f) (a:Act) {y:Value} (hv:a.eval rc = .iface t y) (w:World):(execOp a.eval o).run P w = .ok (.enter f (#[y]++c.args.map a.eval)) w:=by
 have e0:(#[Value.iface t y]++c.args.map a.eval)[0]? = some (Value.iface t y):=by rw [Array.getElem?_append_left (by simp)];rfl
 have e1:(#[Value.iface t y]++c.args.map a.eval).extract 1 (#[Value.iface t y]++c.args.map a.eval).size=c.args.map a.eval:=by apply Array.ext';simp;exact List.take_of_length_le (by simp)
 simp only [execOp,hop,resolve,hf,hv,Sem.run_bind,Sem.run_pure,Result.andThen_ok,invoke,e0,e1]
 exact hm y _ w
theorem fnA_ok {F:Fz} {O:Ow} {x:Value} {a:AV} {f:FuncId} {cs:List AV} (hx:VR F O x a) (h:fnA a=some (f,cs)):∃ xs:List Value,x = .func (.func f) #[] xs.toArray/\xs.length=cs.length/\∀ (i:Nat) (c:Value) (u:AV),xs[i]? = some c->cs[i]? = some u->VR F O c u:=by
 cases a with
 | fn g as_ =>
  cases h
  cases hx with
  | p h=>cases h with
   | fn f xs as_ hl h=>exact ⟨xs,rfl,hl,fun i c u hc hu=>.p (h i c u hc hu)⟩
  | fn f xs as_ hl h=>exact ⟨xs,rfl,hl,h⟩
 | v y =>
  have:=hx.pvC rfl
  cases this
  cases x with
  | func fn p q =>
   cases fn with
   | func g =>
    simp only [fnA] at h
    split at h
    ·rename_i e
     cases h
     have e1:p = #[]:=Array.eq_empty_of_size_eq_zero e.1
     have e2:q = #[]:=Array.eq_empty_of_size_eq_zero e.2
     subst e1;subst e2
     exact ⟨[],rfl,rfl,fun i c u hc=>by simp at hc⟩
    ·cases h
   | _=>cases h
  | _=>cases h
 | _=>cases h
set_option maxHeartbeats 2000000 in
theorem AWop_ok0 {o : Oper} {op : AOp} (hc : Zg P hs o = some op) {st : St} {a : Act} {w : World} {F : Fz} {O : Ow} (h : Rl G B w0 F0 F1 O1 F O st a w) {k : AV -> Hp -> Prop} (hk : y0 P G (AX.ev G st.s) st.H op k)
  {K:Act->World->Prop} {Q:Exit->Act->World->Prop} (hK:∀ r H' x w',k r H'->Out B w0 F0 F O r H' x w'->K (a.put o.dst x) w'):o.wp P a w K Q:=by
 have gen:(∃ r H',eff P (AX.ev G st.s) st.H op=some (r,H')/\k r H')->o.wp P a w K Q:=fun ⟨r,H',he,hkr⟩=>by
  obtain ⟨nx,w',hrun,x,hnx,hout⟩:=op_ok (ρ:=a.eval) (ev:=AX.ev G st.s) hc (fun ty x ax hx=>h.operand ty x ax hx) (fun _=>rfl) h.own he
  unfold Oper.wp
  rw [hrun]
  rcases hnx with rfl|⟨rfl,rfl⟩
  ·exact hK r H' x w' hkr hout
  ·exact hK r H' undef w' hkr hout
 have calls:∀ f xs,(op = .call f xs\/op = .callh f xs\/op = .callm f xs)->∃ c,o.op = .call c/\c.callee = .value (.func f)/\Zs P f=true/\(c.args.toList.map a.eval).length=(xs.map (AX.ev G st.s)).length/\∀ (i:Nat) (c':Value) (a':AV),(c.args.toList.map a.eval)[i]? = some c'->(xs.map (AX.ev G st.s))[i]? = some a'->VR F O c' a':=fun f xs hop=>by
  obtain ⟨dst,op',type,pos,after,guard⟩:=o
  cases op' with
  | call c =>
   obtain ⟨callee,args,ats⟩:=c
   refine ⟨_,rfl,?_⟩
   simp only [Zg] at hc
   split at hc
   ·exfalso
    repeat' (first|(cases hc;rcases hop with hop|hop|hop<;>cases hop;done)|(cases hc;done)|split at hc)
   ·rename_i f'
    split at hc
    ·rename_i hb
     split at hc
     ·rename_i as_ has
      split at hc
      ·rename_i hsz
       obtain ⟨q1,q2⟩:=xn (F:=F) (O:=O) (ρ:=a.eval) (ev:=AX.ev G st.s) (fun ty x ax hx=>h.operand ty x ax hx) has (by simpa using hsz)
       cases hc
       (repeat' (split at hop))<;>rcases hop with hop|hop|hop<;>cases hop<;>exact ⟨rfl,hb,q1,q2⟩
      ·cases hc
     ·cases hc
    ·cases hc
   ·exfalso
    repeat' (first|(cases hc;rcases hop with hop|hop|hop<;>cases hop;done)|(cases hc;done)|split at hc)
   ·exfalso
    repeat' (first|(cases hc;rcases hop with hop|hop|hop<;>cases hop;done)|(cases hc;done)|split at hc)
   ·exfalso
    repeat' (first|(cases hc;rcases hop with hop|hop|hop<;>cases hop;done)|(cases hc;done)|split at hc)
   ·exfalso
    repeat' (first|(cases hc;rcases hop with hop|hop|hop<;>cases hop;done)|(cases hc;done)|split at hc)
   ·exfalso
    repeat' (first|(cases hc;rcases hop with hop|hop|hop<;>cases hop;done)|(cases hc;done)|split at hc)
   ·cases hc
  | _ =>
   exfalso
   rcases hop with rfl|rfl|rfl<;>simp only [Zg] at hc<;>repeat' (first|contradiction|(cases hc;done)|split at hc)
 have callv:∀ x xs,op = .callv x xs->∃ c t,o.op = .call c/\c.callee = .value (.tmp t)/\x = .t t/\(c.args.toList.map a.eval).length=(xs.map (AX.ev G st.s)).length/\∀ (i:Nat) (c':Value) (a':AV),(c.args.toList.map a.eval)[i]? = some c'->(xs.map (AX.ev G st.s))[i]? = some a'->VR F O c' a':=fun x xs hop=>by
  obtain ⟨dst,op',type,pos,after,guard⟩:=o
  cases op' with
  | call c =>
   obtain ⟨callee,args,ats⟩:=c
   simp only [Zg] at hc
   split at hc
   ·rename_i t
    split at hc
    ·rename_i as_ has
     split at hc
     ·rename_i hsz
      obtain ⟨q1,q2⟩:=xn (F:=F) (O:=O) (ρ:=a.eval) (ev:=AX.ev G st.s) (fun ty x ax hx=>h.operand ty x ax hx) has (by simpa using hsz)
      cases hc
      cases hop
      exact ⟨_,t,rfl,rfl,rfl,q1,q2⟩
     ·cases hc
    ·cases hc
   all_goals (exfalso;repeat' (first|(cases hc;cases hop;done)|(cases hc;done)|split at hc))
  | _ =>
   exfalso
   subst hop;simp only [Zg] at hc<;>repeat' (first|contradiction|(cases hc;done)|split at hc)
 have calli:∀ nm x xs,op = .calli nm x xs->∃ c rc,o.op = .call c/\c.callee = .invoke rc nm/\cx P 0 rc=some x/\(c.args.toList.map a.eval).length=(xs.map (AX.ev G st.s)).length/\∀ (i:Nat) (c':Value) (a':AV),(c.args.toList.map a.eval)[i]? = some c'->(xs.map (AX.ev G st.s))[i]? = some a'->VR F O c' a':=fun nm x xs hop=>by
  obtain ⟨dst,op',type,pos,after,guard⟩:=o
  cases op' with
  | call c =>
   obtain ⟨callee,args,ats⟩:=c
   cases callee with
   | invoke rc nm' =>
    simp only [Zg] at hc
    split at hc
    ·rename_i x' as_ hx' has
     split at hc
     ·rename_i hsz
      obtain ⟨q1,q2⟩:=xn (F:=F) (O:=O) (ρ:=a.eval) (ev:=AX.ev G st.s) (fun ty x ax hx=>h.operand ty x ax hx) has (by simpa using hsz)
      cases hc
      cases hop
      exact ⟨_,rc,rfl,rfl,hx',q1,q2⟩
     ·cases hc
    ·cases hc
   | _ =>
    exfalso
    subst hop
    simp only [Zg] at hc
    repeat' (first|contradiction|(cases hc;done)|split at hc)
  | _ =>
   exfalso
   subst hop;simp only [Zg] at hc<;>repeat' (first|contradiction|(cases hc;done)|split at hc)
 cases op with
 | calli nm x xs =>
  obtain ⟨t,i,g,e,off,f,r,H',hx,hl,hm,hpc,hkr⟩:=hk
  obtain ⟨c,rc,e1,e2,e3,e4,e5⟩:=calli nm x xs rfl
  have hv:=h.operand 0 rc x e3
  rw [hx] at hv
  obtain ⟨ob,hl⟩:=Option.isSome_iff_exists.1 hl
  obtain ⟨y,hy,hyv⟩:=h.own.io hv hl
  unfold Oper.wp
  rw [calli_run e1 e2 hm a hy]
  simp only [Oper.upon]
  have hcall:=hpc B w0 F0 F O w (y::c.args.toList.map a.eval) h.own h.gok (by simp only [List.length_cons,e4]) (fun j c' a' hc' ha'=>by
   cases j with
   | zero=>simp at hc' ha';subst hc';subst ha';exact hyv
   | succ j=>exact e5 j c' a' (by simpa using hc') (by simpa using ha'))
  have earr:(y::c.args.toList.map a.eval).toArray = #[y]++c.args.map a.eval:=by apply Array.ext';simp
  rw [earr] at hcall
  refine hcall.mono ?_
  rintro e w' ⟨v,rfl,hout⟩
  exact hK r H' v w' hkr hout
 | callv x xs =>
  obtain ⟨f,cs,r,H',hfn,hb,hpc,hkr⟩:=hk
  obtain ⟨c,t,e1,e2,rfl,e4,e5⟩:=callv x xs rfl
  obtain ⟨ys,y1,y2,y3⟩:=fnA_ok (h.slot t) hfn
  unfold Oper.wp
  rw [callv_run e1 e2 hb a y1]
  simp only [Oper.upon]
  have hcall:=hpc B w0 F0 F O w (c.args.toList.map a.eval++ys) h.own h.gok (by simp only [List.length_append,e4,y2]) (fun i c' a' hc' ha'=>by
   by_cases hi:i < (xs.map (AX.ev G st.s)).length
   ·rw [List.getElem?_append_left (by rw [e4]; exact hi)] at hc'
    rw [List.getElem?_append_left hi] at ha'
    exact e5 i c' a' hc' ha'
   ·rw [List.getElem?_append_right (by rw [e4]; omega), e4] at hc'
    rw [List.getElem?_append_right (by omega)] at ha'
    exact y3 _ c' a' hc' ha')
  have earr:(c.args.toList.map a.eval++ys).toArray=c.args.map a.eval++ys.toArray:=by apply Array.ext';simp
  rw [earr] at hcall
  refine hcall.mono ?_
  rintro e w' ⟨v,rfl,hout⟩
  exact hK r H' v w' hkr hout
 | call f xs =>
  obtain ⟨as_,H1,r,hp,hpc,hkr⟩:=hk
  obtain ⟨c,e1,e2,e3,e4,e5⟩:=calls f xs (.inl rfl)
  obtain ⟨F',p1,p2,o1,l1⟩:=Yw h.own e4 e5 hp
  unfold Oper.wp
  rw [Xq e1 e2 e3]
  simp only [Oper.upon]
  have hcall:=hpc w F' (c.args.toList.map a.eval) o1.fr (h.gok.mono l1) (by rw [e4,p2]) p1
  have earr:(c.args.toList.map a.eval).toArray=c.args.map a.eval:=by apply Array.ext';simp
  rw [earr] at hcall
  refine hcall.mono ?_
  rintro e w' ⟨v,F'',rfl,hv,lF,hfr,hnew,hbel⟩
  refine hK r H1 v w' hkr ⟨F'',O,.p hv,?_,Fz.le_trans l1 lF,Ow.le_refl O⟩
  have ok:=o1.keep hbel
  refine ⟨ok.len,fun i d ob hd ho=>?_,ok.inj,hfr,Fz.le_trans ok.le lF,fun b o v hv=>?_,ok.below,ok.size,ok.kept,ok.kb⟩
  ·have rr := ok.row i d ob hd ho
   have rr0:=o1.row i d ob hd ho
   obtain ⟨cur,q1,q2,q3⟩:=rr.cur
   refine { rr with cur:=⟨cur,q1,q2,fun n j x a hx ha=>by obtain ⟨c,g1,g2⟩:=q3 n j x a hx ha;exact ⟨c,g1,g2.mono lF (Ow.le_refl O)⟩⟩,hf:=fun o v hv=>?_ }
   rcases hnew _ _ _ hv with h1|h1
   ·exact rr.hf o v h1
   ·exact absurd rr0.lt (Nat.not_lt.2 h1)
  ·rcases hnew _ _ _ hv with h1 | h1
   ·exact o1.new b o v h1
   ·exact .inr (o1.okGe h1)
 | callh f xs =>
  obtain ⟨r,H',hpc,hkr⟩:=hk
  obtain ⟨c,e1,e2,e3,e4,e5⟩:=calls f xs (.inr (.inl rfl))
  unfold Oper.wp
  rw [Xq e1 e2 e3]
  simp only [Oper.upon]
  have hcall:=hpc B w0 F0 F O w (c.args.toList.map a.eval) h.own h.gok e4 e5
  have earr:(c.args.toList.map a.eval).toArray=c.args.map a.eval:=by apply Array.ext';simp
  rw [earr] at hcall
  refine hcall.mono ?_
  rintro e w' ⟨v,rfl,hout⟩
  exact hK r H' v w' hkr hout
 | callm f xs =>
  obtain ⟨r,Bs,hpc0,hkr⟩:=hk
  have hpc:=hpc0 st.H (fun _=>rfl)
  obtain ⟨c,e1,e2,e3,e4,e5⟩:=calls f xs (.inr (.inr rfl))
  unfold Oper.wp
  rw [Xq e1 e2 e3]
  simp only [Oper.upon]
  have hcall:=hpc B w0 F0 F O w (c.args.toList.map a.eval) h.own h.gok e4 e5
  have earr:(c.args.toList.map a.eval).toArray=c.args.map a.eval:=by apply Array.ext';simp
  rw [earr] at hcall
  refine hcall.mono ?_
  rintro e w' ⟨v,rfl,hout⟩
  exact hK r (st.H++Bs) v w' hkr hout
 | _ =>
  refine gen ?_
  simp only [y0] at hk
  split at hk
  ·rename_i r H' he
   exact ⟨r,H',he,hk⟩
  ·exact hk.elim
theorem AWop_ok {o : Oper} {op : AOp} (hc : yP P hs o = op) {st : St} {a : Act} {w : World} {F : Fz} {O : Ow} (h : Rl G B w0 F0 F1 O1 F O st a w) {k : AV -> Hp -> Prop} (hk : y0 P G (AX.ev G st.s) st.H op k)
  {K:Act->World->Prop} {Q:Exit->Act->World->Prop} (hK:∀ r H' x w',k r H'->Out B w0 F0 F O r H' x w'->K (a.put o.dst x) w'):o.wp P a w K Q:=by
 unfold yP at hc
 cases hq:Zg P hs o with
 | none =>
  rw [hq] at hc
  subst hc
  exact (show False from hk).elim
 | some op' =>
  rw [hq] at hc
  subst hc
  exact AWop_ok0 hq h hk hK
theorem AWop_slo {o : Oper} {k0 : Nat} {ax al : AX} (hc : Zg P hs o = some (.slc k0 ax (some al) none)) {st : St} {a : Act} {w : World} {F : Fz} {O : Ow} (h : Rl G B w0 F0 F1 O1 F O st a w) {k : AV -> Hp -> Prop} (hk : y0 P G (AX.ev G st.s) st.H (.slo k0 ax al) k)
  {K:Act->World->Prop} {Q:Exit->Act->World->Prop} (hK:∀ r H' x w',k r H'->Out B w0 F0 F O r H' x w'->K (a.put o.dst x) w'):o.wp P a w K Q:=by
 simp only [y0] at hk
 split at hk
 ·rename_i r H' he
  obtain ⟨nx,w',hrun,x,hnx,hout⟩:=slo_ok (ρ:=a.eval) (ev:=AX.ev G st.s) hc (fun ty x ax hx=>h.operand ty x ax hx) h.own he
  unfold Oper.wp
  rw [hrun]
  rcases hnx with rfl|⟨rfl,rfl⟩
  ·exact hK r H' x w' hk hout
  ·exact hK r H' undef w' hk hout
 ·exact hk.elim
theorem Y8 {o : Oper} {ops : Array Oper} {st : St} {a : Act} {w : World} {F : Fz} {O : Ow} (h : Rl G B w0 F0 F1 O1 F O st a w) {k : AV -> Hp -> Prop} (hk : y0 P G (AX.ev G st.s) st.H (w6 ops o.dst (yP P hs o)) k)
  {K:Act->World->Prop} {Q:Exit->Act->World->Prop} (hK:∀ r H' x w',k r H'->Out B w0 F0 F O r H' x w'->K (a.put o.dst x) w'):o.wp P a w K Q:=by
 unfold w6 at hk
 split at hk
 ·rename_i k0 x l d hop hd
  split at hk
  ·refine AWop_slo (hs := hs) (k0 := k0) (ax := x) (al := l) ?_ h hk hK
   cases hq:Zg P hs o with
   | none=>simp [yP,hq] at hop
   | some q=>simp [yP,hq] at hop;rw [hop]
  ·exact AWop_ok (hs:=hs) hop h hk hK
 ·exact AWop_ok (hs:=hs) rfl h (convF_ok hk) hK
end
section
variable {P:Program} {G:Nat->AV} {hs:List FuncId} {B:Bd} {w0:World} {F0 F1:Fz} {O1:Ow}
theorem AWi_ok {ops : Array Oper} {i : Nat} {o : Oper} {ai : AI} (hi : ops[i]? = some o) (hc : w4 P hs ops o = some ai) {st : St} {a : Act} {w : World} {F : Fz} {O : Ow} (h : Rl G B w0 F0 F1 O1 F O st a w) {k : St -> Prop} (hk : AWi P G ai st k)
  {K:Act->World->Prop} {Q:Exit->Act->World->Prop} (hK:∀ st' a' w' F' O',k st'->Rl G B w0 F0 F1 O1 F' O' st' a' w'->K a' w'):wpOp P ops Q i K a w:=by
 unfold wpOp
 simp only [hi]
 simp only [w4] at hc
 split at hc
 ·rename_i hg
  cases hc
  have hw:Region.wanted o (yielded ops a.tmps)=true:=by unfold Region.wanted;rw [hg]
  simp only [hw,if_true]
  simp only [AWi] at hk
  exact .inl (Y8 (hs:=hs) h hk fun r H' x w' hkr hout=>by
   obtain ⟨F',O',h'⟩:=h.put (d:=o.dst) hout
   exact hK _ _ _ F' O' hkr h')
 ·rename_i j want hg
  split at hc
  ·rename_i t ht
   cases hc
   simp only [AWi] at hk
   split at hk
   ·rename_i b hb
    have hy:yielded ops a.tmps j=some b:=by
     unfold yielded
     rw [ht]
     simp only [Option.bind_some,h.guard hb]
    by_cases hbw:b=want
    ·rw [if_pos hbw] at hk
     have hw:Region.wanted o (yielded ops a.tmps)=true:=by unfold Region.wanted;rw [hg];simp [hy,hbw]
     simp only [hw,if_true]
     exact .inl (Y8 (hs:=hs) h hk fun r H' x w' hkr hout=>by
      obtain ⟨F',O',h'⟩:=h.put (d:=o.dst) hout
      exact hK _ _ _ F' O' hkr h')
    ·rw [if_neg hbw] at hk
     have hw:Region.wanted o (yielded ops a.tmps)=false:=by unfold Region.wanted;rw [hg];simp [hy,hbw]
     simp only [hw,Bool.false_eq_true,if_false]
     obtain ⟨F',O',h'⟩:=h.put (d:=o.dst) (r:=zh) (x:=undef) (Out.same h.own yw)
     exact hK _ _ _ F' O' hk h'
   ·rename_i hb
    have hu:=h.guardU hb
    have hy:yielded ops a.tmps j=none:=by
     unfold yielded
     rw [ht]
     simp only [Option.bind_some]
     rw [Array.getD_eq_getD_getElem?] at hu
     cases hq:a.tmps[t]? with
     | none=>rfl
     | some q=>rw [hq] at hu;simp only [Option.getD_some] at hu;subst hu;rfl
    have hw:Region.wanted o (yielded ops a.tmps)=false:=by unfold Region.wanted;rw [hg];simp [hy]
    simp only [hw,Bool.false_eq_true,if_false]
    obtain ⟨F',O',h'⟩:=h.put (d:=o.dst) (r:=zh) (x:=undef) (Out.same h.own yw)
    exact hK _ _ _ F' O' hk h'
   ·exact hk.elim
  ·cases hc
theorem AWs_ok {ops : Array Oper} {Q : Exit -> Act -> World -> Prop} {k : St -> Prop} (hK : ∀ st' a' w' F' O', k st' -> Rl G B w0 F0 F1 O1 F' O' st' a' w' -> Q .normal a' w') :
  ∀ (l:List Nat) (as_:List AI),l.length=as_.length->(∀ (j i:Nat) (ai:AI),l[j]? = some i->as_[j]? = some ai->∃ o,ops[i]? = some o/\w4 P hs ops o=some ai) ->
  ∀ (st:St) (a:Act) (w:World) (F:Fz) (O:Ow),AWs P G as_ k st->Rl G B w0 F0 F1 O1 F O st a w->wpOps P ops Q l a w
 | [],[],_,_,st,a,w,F,O,hk,h=>hK st a w F O hk h
 | [],_::_,hl,_,_,_,_,_,_,_,_=>by simp at hl
 | _::_,[],hl,_,_,_,_,_,_,_,_=>by simp at hl
 | i::l,ai::as_,hl,hop,st,a,w,F,O,hk,h=>by
  rw [wpOps_cons]
  obtain ⟨o,ho,hc⟩:=hop 0 i ai rfl rfl
  simp only [AWs] at hk
  exact AWi_ok ho hc h hk fun st' a' w' F' O' hk' h'=>AWs_ok hK l as_ (by simpa using hl) (fun j i ai hj ha=>hop (j+1) i ai hj ha) st' a' w' F' O' hk' h'
theorem ZW:∀ {os:List Oper} {ops:Array Oper} {as_:List AI},xz P hs ops os=some as_->os.length=as_.length/\∀ (j:Nat) (o:Oper) (ai:AI),os[j]? = some o->as_[j]? = some ai->w4 P hs ops o=some ai
 | [],ops,as_,h=>by cases h;exact ⟨rfl,fun j o ai hj=>by simp at hj⟩
 | o::os,ops,as_,h=>by
  simp only [xz] at h
  split at h
  ·rename_i a as' h1 h2
   cases h
   obtain ⟨q1,q2⟩:=ZW h2
   refine ⟨by simp [q1],fun j o' ai hj ha=>?_⟩
   cases j with
   | zero=>simp at hj ha;subst hj;subst ha;exact h1
   | succ j=>exact q2 j o' ai (by simpa using hj) (by simpa using ha)
  ·cases h
theorem region_text {ops : Array Oper} {id : Nat} {as_ : List AI} (hc : xz P hs ops ops.toList = some as_) {Q : Exit -> Act -> World -> Prop} {k : St -> Prop} (hK : ∀ st' a' w' F' O', k st' -> Rl G B w0 F0 F1 O1 F' O' st' a' w' -> Q .normal a' w')
  {st:St} {a:Act} {w:World} {F:Fz} {O:Ow} (hk:AWs P G as_ k st) (h:Rl G B w0 F0 F1 O1 F O st a w):(Code.region id ops false).wp P Q a w:=by
 obtain ⟨q1,q2⟩:=ZW hc
 refine wp_region (AWs_ok (hs:=hs) hK (List.range ops.size) as_ (by simpa using q1) (fun j i ai hj ha=>?_) st a w F O hk h)
 have hjl:j < ops.size:=by have:=(List.getElem?_eq_some_iff.1 hj).1;simpa using this
 rw [List.getElem?_range hjl] at hj
 cases hj
 exact ⟨ops[j],Array.getElem?_eq_getElem hjl,q2 j _ ai (by simp [hjl]) ha⟩
theorem Rl.drew {st:St} {a:Act} {w:World} {F:Fz} {O:Ow} (h:Rl G B w0 F0 F1 O1 F O st a w):Rl G B w0 F0 F1 O1 F O st a { w with drawn:=w.drawn+1 } :=
 ⟨h.own.keep (Below.refl _ w).drew,h.size,h.slot,h.defs,h.gok,h.leF,h.leO⟩
theorem yJ {ops : Array Oper} {id : Nat} {as_ : List AI} (hc : xz P hs ops ops.toList = some as_) {Q : Exit -> Act -> World -> Prop} {k : St -> Prop} (hK : ∀ st' a' w' F' O', k st' -> Rl G B w0 F0 F1 O1 F' O' st' a' w' -> Q .normal a' w')
  {st:St} {a:Act} {w:World} {F:Fz} {O:Ow} (hk:∀ t,∃ bs:List AI,bs.length=(Region.schedule (P.follows .mixedOrders) ops t).length/\(∀ (j i:Nat) (ai:AI),(Region.schedule (P.follows .mixedOrders) ops t)[j]? = some i->bs[j]? = some ai->as_[i]? = some ai)/\AWs P G bs k st)
  (h:Rl G B w0 F0 F1 O1 F O st a w):(Code.region id ops true).wp P Q a w:=by
 obtain ⟨q1,q2⟩:=ZW hc
 refine wp_region_draw fun t=>?_
 obtain ⟨bs,b1,b2,b3⟩:=hk t
 refine AWs_ok (hs:=hs) hK _ bs b1.symm (fun j i ai hj ha=>?_) st a _ F O b3 h.drew
 have hai:=b2 j i ai hj ha
 have hil:i < ops.size:=by have:=(List.getElem?_eq_some_iff.1 hai).1;rw [<- q1] at this;simpa using this
 exact ⟨ops[i],Array.getElem?_eq_getElem hil,q2 i _ ai (by simp [hil]) hai⟩
end
def fzm (i n:Nat) (H:Hp):Hp:=H.modify i fun ob=>{ ob with fz:=max ob.fz n }
def frz:Hp->List (Nat × Nat)->Hp
 | H,[]=>H
 | H,(i,n)::L=>frz (fzm i n H) L
theorem yG (i n:Nat) (H:Hp) (j:Nat):(fzm i n H)[j]? = (H[j]?).map (fun ob=>if i=j then { ob with fz:=max ob.fz n } else ob):=by
 unfold fzm
 rw [List.getElem?_modify]
 cases H[j]? with
 | none=>rfl
 | some ob=>by_cases h:i=j<;>simp [h]
theorem y9 (i n:Nat) (H:Hp):(fzm i n H).length=H.length:=by simp [fzm]
theorem fzm_comm (i n j m:Nat) (H:Hp):fzm i n (fzm j m H)=fzm j m (fzm i n H):=by
 apply List.ext_getElem?
 intro x
 rw [yG,yG,yG,yG]
 cases H[x]? with
 | none=>rfl
 | some ob =>
  simp only [Option.map_some,Option.some.injEq]
  by_cases h1:i=x<;>by_cases h2:j=x<;>simp [h1,h2,Nat.max_assoc,Nat.max_comm n m]
theorem yu:∀ (L:List (Nat × Nat)) (H:Hp),(frz H L).length=H.length
 | [],H=>rfl
 | (i,n)::L,H=>by rw [frz,yu L,y9]
theorem frz_fzm:∀ (L:List (Nat × Nat)) (i n:Nat) (H:Hp),frz (fzm i n H) L=fzm i n (frz H L)
 | [],i,n,H=>rfl
 | (j,m)::L,i,n,H=>by rw [frz,fzm_comm,frz_fzm L,frz]
theorem frz_comm:∀ (L1 L2:List (Nat × Nat)) (H:Hp),frz (frz H L1) L2=frz (frz H L2) L1
 | [],L2,H=>rfl
 | (i,n)::L1,L2,H=>by
  show frz (frz (fzm i n H) L1) L2=frz (fzm i n (frz H L2)) L1
  rw [frz_comm L1 L2,frz_fzm L2]
theorem Y1:∀ (L1 L2:List (Nat × Nat)) (H:Hp),frz H (L1++L2)=frz (frz H L1) L2
 | [],L2,H=>rfl
 | (i,n)::L1,L2,H=>Y1 L1 L2 (fzm i n H)
theorem Xh:∀ (L:List (Nat × Nat)) (H Bs:Hp),(∀ p ∈ L,p.1 < H.length)->frz (H++Bs) L=frz H L++Bs
 | [],H,Bs,_=>rfl
 | (i,n)::L,H,Bs,h=>by
  have hi:i < H.length:=h (i,n) (by simp)
  have e:fzm i n (H++Bs)=fzm i n H++Bs:=by
   apply List.ext_getElem?
   intro x
   rw [yG]
   by_cases hx:x < H.length
   ·rw [List.getElem?_append_left hx,List.getElem?_append_left (by rw [y9];exact hx),yG]
   ·rw [List.getElem?_append_right (by omega), List.getElem?_append_right (by rw [y9]; omega), y9]
    cases Bs[x - H.length]? with
    | none=>rfl
    | some ob=>simp [show ¬ i=x by omega]
  show frz (fzm i n (H++Bs)) L=frz (fzm i n H) L++Bs
  rw [e]
  exact Xh L _ Bs fun p hp=>by rw [y9];exact h p (by simp [hp])
def SimH (base:Nat) (H H2:Hp):Prop:=∀ i,i < base->∃ ob ob2,H[i]? = some ob/\H2[i]? = some ob2/\ob2 = { ob with fz:=ob2.fz }
theorem SimH.refl {base:Nat} {H:Hp} (h:base<=H.length):SimH base H H:=fun i hi=>⟨H[i],H[i],List.getElem?_eq_getElem (by omega),List.getElem?_eq_getElem (by omega),rfl⟩
theorem SimH.symm {base:Nat} {H H2:Hp} (h:SimH base H H2):SimH base H2 H:=fun i hi=>by
 obtain ⟨ob,ob2,h1,h2,h3⟩:=h i hi
 exact ⟨ob2,ob,h2,h1,by rw [h3]⟩
theorem SimH.trans {base:Nat} {H H2 H3:Hp} (h:SimH base H H2) (k:SimH base H2 H3):SimH base H H3:=fun i hi=>by
 obtain ⟨ob,ob2,h1,h2,h3⟩:=h i hi
 obtain ⟨ob2',ob3,k1,k2,k3⟩:=k i hi
 rw [h2] at k1
 cases k1
 exact ⟨ob,ob3,h1,k2,by rw [k3,h3]⟩
theorem SimH.fzm {base:Nat} {H:Hp} (h:base<=H.length) (i n:Nat):SimH base H (fzm i n H):=fun j hj=>by
 refine ⟨H[j],(if i=j then { H[j] with fz:=max H[j].fz n } else H[j]),List.getElem?_eq_getElem (by omega),?_,?_⟩
 ·rw [yG,List.getElem?_eq_getElem (by omega:j < H.length)];rfl
 ·by_cases hij:i=j<;>simp [hij]
theorem SimH.frz {base:Nat}:∀ (L:List (Nat × Nat)) {H:Hp},base<=H.length->SimH base H (frz H L)
 | [],H,h=>SimH.refl h
 | (i,n)::L,H,h=>(SimH.fzm h i n).trans (SimH.frz L (by rw [y9];exact h))
theorem SimH.push {base:Nat} {H:Hp} (h:base<=H.length) (Bs:Hp):SimH base H (H++Bs):=fun i hi =>
 ⟨H[i],H[i],List.getElem?_eq_getElem (by omega),by rw [List.getElem?_append_left (by omega)];exact List.getElem?_eq_getElem (by omega),rfl⟩
theorem SimH.le {base:Nat} {H H2:Hp} (h:SimH base H H2):base<=H.length:=by
 rcases Nat.eq_zero_or_pos base with h0|h0
 ·omega
 ·obtain ⟨_, _, h1, _⟩ := h (base - 1) (by omega)
  have:=(List.getElem?_eq_some_iff.1 h1).1
  omega
theorem SimH.live {base:Nat} {H H2:Hp} (h:SimH base H H2) {i g:Nat} (hi:i < base):(∃ ob ob2,Sim.live H i g=some ob/\Sim.live H2 i g=some ob2/\ob2 = { ob with fz:=ob2.fz })\/(Sim.live H i g=none/\Sim.live H2 i g=none):=by
 obtain ⟨ob,ob2,h1,h2,h3⟩:=h i hi
 have hg:ob2.g=ob.g:=by rw [h3]
 unfold Sim.live
 rw [h1,h2]
 have he:ob2.e=ob.e:=by rw [h3]
 by_cases hgg:ob.g=g
 ·by_cases hm : (ob.e == 4000000000) = true
  ·right;simp only [hg,he,if_pos hgg,if_pos hm,and_self]
  ·left;exact ⟨ob,ob2,by simp only [if_pos hgg,if_neg hm],by simp only [hg,he,if_pos hgg,if_neg hm],h3⟩
 ·right;simp [hgg,hg]
theorem SimH.liveM {base:Nat} {H H2:Hp} (h:SimH base H H2) {i g:Nat} (hi:i < base):(∃ ob ob2,Sim.liveM H i g=some ob/\Sim.liveM H2 i g=some ob2/\ob2 = { ob with fz:=ob2.fz })\/(Sim.liveM H i g=none/\Sim.liveM H2 i g=none):=by
 obtain ⟨ob,ob2,h1,h2,h3⟩:=h i hi
 have hg:ob2.g=ob.g:=by rw [h3]
 have he:ob2.e=ob.e:=by rw [h3]
 have hk:ob2.k=ob.k:=by rw [h3]
 unfold Sim.liveM
 rw [h1,h2]
 by_cases hgg:ob.g=g
 ·by_cases hm : (ob.e == 4000000000 && ob.k == 2) = true
  ·left;exact ⟨ob,ob2,by simp only [if_pos hgg,if_pos hm],by simp only [hg,he,hk,if_pos hgg,if_pos hm],h3⟩
  ·right;simp only [hg,he,hk,if_pos hgg,if_neg hm,and_self]
 ·right;simp [hgg,hg]
theorem eff_congr {P:Program} {ev ev':AX->AV} {H:Hp} {op:AOp} (h:∀ x ∈ op.xs,ev x=ev' x):eff P ev H op=eff P ev' H op:=by
 cases op<;>simp only [AOp.xs] at h<;>simp only [eff]
 case bld z ps=>rw [show (ps.map fun p=>(p.1,p.2.1,ev p.2.2))=ps.map fun p=>(p.1,p.2.1,ev' p.2.2) from List.map_congr_left fun p hp=>by rw [h _ (List.mem_map.2 ⟨p,hp,rfl⟩)]]
 case bsl e k xs=>rw [List.map_congr_left h]
 case mkf f xs=>rw [List.map_congr_left h]
 case bi b ats ty cs xs=>rw [List.map_congr_left h]
 case sls t x lo hi=>cases lo<;>cases hi<;>simp_all
 case slc k x lo hi=>cases lo<;>cases hi<;>simp_all
 all_goals (first|rfl|(simp_all;done))
section
variable (P:Program) (G:Nat->AV)
def Eff (ev:AX->AV) (H:Hp) (op:AOp) (r:AV) (H':Hp):Prop :=
 match op with
 | .call f xs=>∃ as_,yi H (xs.map ev)=some (as_,H')/\PC P G f as_ r
 | .callh f xs=>HC P G f (xs.map ev) H r H'
 | .callm f xs=>∃ Bs,(∀ H2:Hp,(Bs ≠ []->H2.length=H.length)->HC P G f (xs.map ev) H2 r (H2++Bs))/\H'=H++Bs
 | .callv x xs=>∃ f cs,fnA (ev x)=some (f,cs)/\Zs P f=true/\HC P G f (xs.map ev++cs) H r H'
 | .calli nm x xs=>∃ t i g e off f,ev x = .io t i g e off/\(live H i g).isSome=true/\Mth P t nm f/\HC P G f (.oa i g e off::xs.map ev) H r H'
 | op=>eff P ev H op=some (r,H')
def OffA (w:Bool) (b:AV):Prop:=(∃ c,b = .v (.bool c)/\c ≠ w)\/b = .tup []
def Stp (o:AI) (st st':St):Prop :=
 match o.guard with
 | none=>∃ r H',Eff P G (AX.ev G st.s) st.H o.op r H'/\st'=st.put o.dst r H'
 | some (t,want)=>(st.s.getD t zh = .v (.bool want)/\∃ r H',Eff P G (AX.ev G st.s) st.H o.op r H'/\st'=st.put o.dst r H')\/(∃ b,st.s.getD t zh=b/\OffA want b/\st'=st.put o.dst zh st.H)
end
section
variable {P:Program} {G:Nat->AV}
theorem AWop_iff {ev:AX->AV} {H:Hp} {op:AOp} {k:AV->Hp->Prop}:y0 P G ev H op k↔∃ r H',Eff P G ev H op r H'/\k r H':=by
 cases op with
 | call f xs=>exact ⟨fun ⟨as_,H1,r,h1,h2,h3⟩=>⟨r,H1,⟨as_,h1,h2⟩,h3⟩,fun ⟨r,H',⟨as_,h1,h2⟩,h3⟩=>⟨as_,H',r,h1,h2,h3⟩⟩
 | callh f xs=>exact Iff.rfl
 | callm f xs=>exact ⟨fun ⟨r,Bs,h1,h2⟩=>⟨r,_,⟨Bs,h1,rfl⟩,h2⟩,fun ⟨r,H',⟨Bs,h1,e⟩,h2⟩=>⟨r,Bs,h1,by rw [<- e];exact h2⟩⟩
 | callv x xs=>exact ⟨fun ⟨f,cs,r,H',h1,h2,h3,h4⟩=>⟨r,H',⟨f,cs,h1,h2,h3⟩,h4⟩,fun ⟨r,H',⟨f,cs,h1,h2,h3⟩,h4⟩=>⟨f,cs,r,H',h1,h2,h3,h4⟩⟩
 | calli nm x xs=>exact ⟨fun ⟨t,i,g,e,off,f,r,H',h1,h2,h3,h4,h5⟩=>⟨r,H',⟨t,i,g,e,off,f,h1,h2,h3,h4⟩,h5⟩,fun ⟨r,H',⟨t,i,g,e,off,f,h1,h2,h3,h4⟩,h5⟩=>⟨t,i,g,e,off,f,r,H',h1,h2,h3,h4,h5⟩⟩
 | _ =>
  simp only [y0,Eff]
  constructor
  ·intro h
   split at h
   ·rename_i r H' he;exact ⟨r,H',he,h⟩
   ·exact h.elim
  ·rintro ⟨r, H', he, hk⟩
   rw [he]
   exact hk
theorem AWi_iff {o:AI} {st:St} {k:St->Prop}:AWi P G o st k↔∃ st',Stp P G o st st'/\k st':=by
 unfold AWi Stp
 cases o.guard with
 | none =>
  simp only [AWop_iff]
  exact ⟨fun ⟨r,H',h1,h2⟩=>⟨_,⟨r,H',h1,rfl⟩,h2⟩,fun ⟨st',⟨r,H',h1,h2⟩,h3⟩=>⟨r,H',h1,by rw [<- h2];exact h3⟩⟩
 | some tw =>
  obtain ⟨t,want⟩:=tw
  simp only
  constructor
  ·intro h
   split at h
   ·rename_i b hb
    by_cases hbw:b=want
    ·rw [if_pos hbw, AWop_iff] at h
     obtain ⟨r,H',h1,h2⟩:=h
     subst hbw
     exact ⟨_,.inl ⟨hb,r,H',h1,rfl⟩,h2⟩
    ·rw [if_neg hbw] at h
     exact ⟨_,.inr ⟨_,rfl,.inl ⟨b,hb,hbw⟩,rfl⟩,h⟩
   ·rename_i hb
    exact ⟨_,.inr ⟨_,rfl,.inr hb,rfl⟩,h⟩
   ·exact h.elim
  ·rintro ⟨st', h, hk⟩
   rcases h with ⟨hb,r,H',h1,h2⟩|⟨b,hb,hoff,h2⟩
   ·rw [hb]
    simp only [if_true]
    rw [AWop_iff];exact ⟨r,H',h1,by rw [<- h2];exact hk⟩
   ·rw [hb]
    rcases hoff with ⟨c,rfl,hc⟩|rfl
    ·simp only
     rw [if_neg hc,<- h2];exact hk
    ·simp only
     rw [<- h2];exact hk
theorem lenA_any {H H2:Hp} {a:AV}:zW H a=zW H2 a:=by cases a<;>rfl
theorem cls0 {ev:AX->AV} {H:Hp} {op:AOp} (hc:op.cls=0) {r:AV} {H':Hp} (h:Eff P G ev H op r H'):H'=H/\∀ H2,Eff P G ev H2 op r H2:=by
 have fin:∀ {o:Hp->Option AV},(∀ H2,eff P ev H2 op=(o H2).map (·,H2))->(∀ H2 H3,o H2=o H3)->eff P ev H op=some (r,H')->H'=H/\∀ H2,eff P ev H2 op=some (r,H2):=fun {o} h1 h2 h3=>by
  rw [h1] at h3
  obtain ⟨e1,rfl⟩:=Zf h3
  exact ⟨rfl,fun H2=>by rw [h1,h2 H2 H',e1];rfl⟩
 cases op<;>simp only [AOp.cls] at hc<;>(try omega)<;>simp only [Eff] at h ⊢
 case mv x=>cases h;exact ⟨rfl,fun _=>rfl⟩
 case len x=>exact fin (o:=fun H2=>(match zW H2 (ev x) with|some n=>some (.v (.int .i64 (n:Int)))|none=>none)) (fun H2=>by simp only [eff];cases zW H2 (ev x)<;>rfl) (fun H2 H3=>by rw [lenA_any (H2:=H3)]) h
 case mkf f xs=>cases h;exact ⟨rfl,fun _=>rfl⟩
 case eqs ng ks x y=>exact fin (o:=fun _=>XE ng ks (ev x) (ev y)) (fun _=>rfl) (fun _ _=>rfl) h
 case un op x=>exact fin (o:=fun _=>ap1 (fun v=>zR P (Op.unary op v)) (ev x)) (fun _=>rfl) (fun _ _=>rfl) h
 case mkm2 nm x=>exact fin (o:=fun _=>mk2A nm (ev x)) (fun _=>rfl) (fun _ _=>rfl) h
 case cv s d x=>exact fin (o:=fun _=>ap1 (fun v=>zR P (convert s d v)) (ev x)) (fun _=>rfl) (fun _ _=>rfl) h
 case pick c a b =>
  simp only [eff] at h ⊢
  split at h
  ·rename_i b' hb
   cases h
   exact ⟨rfl,fun H2=>rfl⟩
  ·cases h
 case ext x i =>
  simp only [eff] at h ⊢
  split at h
  ·rename_i cs hcs
   obtain ⟨e1,rfl⟩:=Zf h
   exact ⟨rfl,fun H2=>by rw [e1];rfl⟩
  ·cases h
 case bld z ps =>
  simp only [eff] at h ⊢
  cases hf:zu z (ps.map fun p=>(p.1,p.2.1,ev p.2.2)) with
  | none=>simp [hf] at h
  | some cs=>simp [hf] at h ⊢;exact ⟨h.2.symm,h.1⟩
 case fld agg off n x=>exact fin (o:=fun _=>zm agg off n (ev x)) (fun _=>rfl) (fun _ _=>rfl) h
 case idx t x i=>exact fin (o:=fun _=>ap2 (fun v j=>zR P (Instr.index t v j)) (ev x) (ev i)) (fun _=>rfl) (fun _ _=>rfl) h
 case ixa agg len k x i =>
  simp only [eff] at h ⊢
  split at h
  ·rename_i ix hix
   split at h
   ·rename_i hc2
    obtain ⟨e1,rfl⟩:=Zf h
    exact ⟨rfl,fun H2=>by rw [e1,if_pos hc2];rfl⟩
   ·cases h
  ·cases h
 case sls t x lo hi =>
  simp only [eff] at h ⊢
  split at h
  ·split at h
   ·cases h
   ·cases h
   ·split at h
    ·obtain ⟨e1, rfl⟩ := Zf h
     exact ⟨rfl,fun H2=>by rw [e1];rfl⟩
    ·cases h
  ·cases h
 case lns x =>
  simp only [eff] at h ⊢
  split at h
  ·cases h;exact ⟨rfl,fun _=>rfl⟩
  ·cases h
 case bi b ats ty cs xs =>
  simp only [eff] at h ⊢
  split at h
  ·split at h
   ·obtain ⟨e1, rfl⟩ := Zf h
    exact ⟨rfl,fun H2=>by rw [e1];rfl⟩
   ·cases h
  ·cases h
theorem xH {H:Hp} {i n:Nat} {ob:OB} (h1:H[i]? = some ob):H.set i { ob with fz:=max ob.fz n } = fzm i n H:=by
 apply List.ext_getElem?
 intro x
 rw [yG,List.getElem?_set]
 by_cases hx:i=x
 ·subst hx
  rw [h1]
  simp [(List.getElem?_eq_some_iff.1 h1).1]
 ·simp [hx]
theorem xX {base:Nat} {H:Hp} (hb:base<=H.length) {a a':AV} {H':Hp} (hlt:ltC base a=true) (h:ZE H a=some (a',H')):∃ L:List (Nat × Nat),H'=frz H L/\(∀ p ∈ L,p.1 < base)/\∀ H2,SimH base H H2->ZE H2 a=some (a',frz H2 L):=by
 cases a with
 | ol i g n =>
  have hi:i < base:=by simpa [ltC] using hlt
  have hil:H[i]? = some H[i]:=List.getElem?_eq_getElem (by omega)
  simp only [ZE,hil] at h
  split at h
  ·rename_i hc
   cases h
   refine ⟨[(i,n)],xH hil,fun p hp=>by simp at hp;subst hp;exact hi,fun H2 hs=>?_⟩
   obtain ⟨ob,ob2,h1,h2,h3⟩:=hs i hi
   rw [hil] at h1
   cases h1
   have ek:ob2.k=H[i].k:=by rw [h3]
   have ee:ob2.es=H[i].es:=by rw [h3]
   have eg:ob2.g=H[i].g:=by rw [h3]
   simp only [ZE,h2]
   have eE:ob2.e=H[i].e:=by rw [h3]
   rw [eg,ee,ek,eE,if_pos hc]
   congr 2
   show _=fzm i n H2
   rw [<- xH h2]
   congr 1
   cases ob2
   simp_all
  ·cases h
 | nl k=>cases h;exact ⟨[],rfl,fun p hp=>by simp at hp,fun _ _=>rfl⟩
 | em b k=>cases h;exact ⟨[],rfl,fun p hp=>by simp at hp,fun _ _=>rfl⟩
 | v x=>cases h;exact ⟨[],rfl,fun p hp=>by simp at hp,fun _ _=>rfl⟩
 | sl k es=>cases h;exact ⟨[],rfl,fun p hp=>by simp at hp,fun _ _=>rfl⟩
 | ad k es i off=>cases h;exact ⟨[],rfl,fun p hp=>by simp at hp,fun _ _=>rfl⟩
 | os i g lo n=>cases h
 | agg cs=>cases h
 | tup cs=>cases h
 | io t i g e off=>cases h
 | mp i g=>cases h
 | oc i g n c=>cases h
 | mf nm t i g e off=>cases h
 | oa i g e off =>
  have hi:i < base:=by simpa [ltC] using hlt
  have hil:H[i]? = some H[i]:=List.getElem?_eq_getElem (by omega)
  simp only [ZE,hil] at h
  split at h
  ·rename_i hc
   cases h
   refine ⟨[(i,(H[i]).es.length)],xH hil,fun p hp=>by simp at hp;subst hp;exact hi,fun H2 hs=>?_⟩
   obtain ⟨ob,ob2,h1,h2,h3⟩:=hs i hi
   rw [hil] at h1
   cases h1
   have ek:ob2.k=H[i].k:=by rw [h3]
   have ee:ob2.es=H[i].es:=by rw [h3]
   have eg:ob2.g=H[i].g:=by rw [h3]
   simp only [ZE,h2]
   have eE:ob2.e=H[i].e:=by rw [h3]
   rw [eg,ee,ek,eE,if_pos hc]
   congr 2
   show _=fzm i _ H2
   rw [<- xH h2]
   congr 1
   cases ob2
   simp_all
  ·cases h
 | fn f cs =>
  simp only [ZE] at h
  split at h
  ·rename_i hc
   cases h
   exact ⟨[],rfl,fun p hp=>by simp at hp,fun _ _=>by simp only [ZE,hc,if_true];rfl⟩
  ·cases h
 | unk=>cases h
theorem SimH.frz2 {base:Nat} {H H2:Hp} (hs:SimH base H H2) (L:List (Nat × Nat)):SimH base (Sim.frz H L) (Sim.frz H2 L):=((SimH.frz L hs.le).symm.trans hs).trans (SimH.frz L hs.symm.le)
theorem xW {base:Nat}:∀ {as_ as':List AV} {H H':Hp},base<=H.length->as_.all (ltC base)=true->YG H as_=some (as',H')->∃ L:List (Nat × Nat),H'=frz H L/\(∀ p ∈ L,p.1 < base)/\∀ H2,SimH base H H2->YG H2 as_=some (as',frz H2 L)
 | [],as',H,H',hb,_,h=>by cases h;exact ⟨[],rfl,fun p hp=>by simp at hp,fun _ _=>rfl⟩
 | a::as_,as',H,H',hb,hlt,h=>by
  simp only [List.all_cons,Bool.and_eq_true] at hlt
  simp only [YG] at h
  split at h
  ·rename_i a1 H1 h1
   split at h
   ·rename_i as1 H3 h2
    cases h
    obtain ⟨L1,e1,l1,q1⟩:=xX hb hlt.1 h1
    subst e1
    obtain ⟨L2,e2,l2,q2⟩:=xW (by rw [yu];exact hb) hlt.2 h2
    refine ⟨L1++L2,by rw [Y1,e2],fun p hp=>(List.mem_append.1 hp).elim (l1 p) (l2 p),fun H2 hs=>?_⟩
    simp only [YG,q1 H2 hs,q2 _ (hs.frz2 L1),Y1]
   ·cases h
  ·cases h
theorem pur_frz {base:Nat} {a a':AV} {H H':Hp} (hb:base<=H.length) (hlt:ltB base a=true) (h:pur H a=some (a',H')):∃ L:List (Nat × Nat),H'=frz H L/\(∀ p ∈ L,p.1 < base)/\∀ H2,SimH base H H2->pur H2 a=some (a',frz H2 L):=by
 by_cases hg:∃ cs,a = .agg cs
 ·obtain ⟨cs, rfl⟩ := hg
  simp only [pur] at h ⊢
  split at h
  ·rename_i cs' H1 h1
   cases h
   obtain ⟨L,e,l,q⟩:=xW hb hlt h1
   exact ⟨L,e,l,fun H2 hs=>by rw [q H2 hs]⟩
  ·cases h
 ·by_cases hg2 : ∃ f cs, a = .fn f cs
  ·obtain ⟨f, cs, rfl⟩ := hg2
   simp only [pur] at h ⊢
   split at h
   ·rename_i cs' H1 h1
    cases h
    obtain ⟨L,e,l,q⟩:=xW hb hlt h1
    exact ⟨L,e,l,fun H2 hs=>by rw [q H2 hs]⟩
   ·cases h
  ·have e1:∀ H,pur H a=ZE H a:=fun H=>by cases a<;>first|rfl|exact absurd ⟨_,rfl⟩ hg|exact absurd ⟨_,_,rfl⟩ hg2
   have e2:ltC base a=true:=by cases a<;>first|exact hlt|exact absurd ⟨_,rfl⟩ hg|exact absurd ⟨_,_,rfl⟩ hg2
   rw [e1] at h
   obtain ⟨L,e,l,q⟩:=xX hb e2 h
   exact ⟨L,e,l,fun H2 hs=>by rw [e1];exact q H2 hs⟩
theorem purA_frz {base:Nat}:∀ {as_ as':List AV} {H H':Hp},base<=H.length->as_.all (ltB base)=true->yi H as_=some (as',H')->∃ L:List (Nat × Nat),H'=frz H L/\(∀ p ∈ L,p.1 < base)/\∀ H2,SimH base H H2->yi H2 as_=some (as',frz H2 L)
 | [],as',H,H',hb,_,h=>by cases h;exact ⟨[],rfl,fun p hp=>by simp at hp,fun _ _=>rfl⟩
 | a::as_,as',H,H',hb,hlt,h=>by
  simp only [List.all_cons,Bool.and_eq_true] at hlt
  simp only [yi] at h
  split at h
  ·rename_i a1 H1 h1
   split at h
   ·rename_i as1 H3 h2
    cases h
    obtain ⟨L1,e1,l1,q1⟩:=pur_frz hb hlt.1 h1
    subst e1
    obtain ⟨L2,e2,l2,q2⟩:=purA_frz (by rw [yu];exact hb) hlt.2 h2
    refine ⟨L1++L2,by rw [Y1,e2],fun p hp=>(List.mem_append.1 hp).elim (l1 p) (l2 p),fun H2 hs=>?_⟩
    simp only [yi,q1 H2 hs,q2 _ (hs.frz2 L1),Y1]
   ·cases h
  ·cases h
theorem loadA_sim {base:Nat} {H H2:Hp} (hs:SimH base H H2) {agg:Bool} {n:Nat} {a:AV} (hlt:ltB base a=true):zo H agg n a=zo H2 agg n a:=by
 cases a with
 | oa i g e off =>
  have hi:i < base:=by simpa [ltB,ltC] using hlt
  simp only [zo]
  rcases hs.live (g:=g) hi with ⟨ob,ob2,h1,h2,h3⟩|⟨h1,h2⟩
  ·rw [h1,h2];simp only;rw [h3]
  ·rw [h1,h2]
 | _=>rfl
theorem isPtr_sim {base:Nat} {H H2:Hp} (hs:SimH base H H2) {a:AV} (hlt:ltB base a=true):zk H a=zk H2 a:=by
 cases a with
 | oa i g e off =>
  have hi:i < base:=by simpa [ltB,ltC] using hlt
  simp only [zk]
  rcases hs.live (g:=g) hi with ⟨ob,ob2,h1,h2,h3⟩|⟨h1,h2⟩<;>rw [h1,h2]<;>rfl
 | _=>rfl
theorem isRow_sim {base:Nat} {H H2:Hp} (hs:SimH base H H2) {a:AV} (hlt:ltB base a=true):Yl H a=Yl H2 a:=by
 cases a with
 | ol i g n =>
  have hi:i < base:=by simpa [ltB,ltC] using hlt
  simp only [Yl]
  rcases hs.live (g:=g) hi with ⟨ob,ob2,h1,h2,h3⟩|⟨h1,h2⟩<;>rw [h1,h2]<;>rfl
 | _=>rfl
theorem nilA_sim {base:Nat} {H H2:Hp} (hs:SimH base H H2) {a:AV} (hlt:ltB base a=true):zY H a=zY H2 a:=by
 cases a with
 | oa i g e off =>
  have hi:i < base:=by simpa [ltB,ltC] using hlt
  simp only [zY]
  rcases hs.live (g:=g) hi with ⟨ob,ob2,h1,h2,h3⟩|⟨h1,h2⟩<;>rw [h1,h2]
 | _=>rfl
theorem nilB_sim {base:Nat} {H H2:Hp} (hs:SimH base H H2) {a:AV} (hlt:ltB base a=true):XC P H a=XC P H2 a:=by
 cases a with
 | mf nm t i g e off =>
  have hi:i < base:=by simpa [ltB,ltC] using hlt
  simp only [XC]
  rcases hs.live (g:=g) hi with ⟨ob,ob2,h1,h2,h3⟩|⟨h1,h2⟩
  ·rw [h1,h2]
  ·rw [h1,h2]
 | _=>exact nilA_sim hs hlt
theorem moveA_sim {base:Nat} {H H2:Hp} (hs:SimH base H H2) {off:Nat} {a:AV} (hlt:ltB base a=true):zq off H a=zq off H2 a:=by
 cases a with
 | oa i g e o =>
  have hi:i < base:=by simpa [ltB,ltC] using hlt
  simp only [zq]
  rcases hs.live (g:=g) hi with ⟨ob,ob2,h1,h2,h3⟩|⟨h1,h2⟩<;>rw [h1,h2]
 | _=>rfl
theorem lkpA_sim {base:Nat} {H H2:Hp} (hs:SimH base H H2) {kd:Kd} {c:Bool} {z a b:AV} (hlt:ltB base a=true):XD H kd c z a b=XD H2 kd c z a b:=by
 cases a with
 | mp i g =>
  have hi:i < base:=by simpa [ltB,ltC] using hlt
  simp only [XD]
  rcases hs.liveM (g:=g) hi with ⟨ob,ob2,h1,h2,h3⟩|⟨h1,h2⟩
  ·rw [h1,h2];simp only;rw [h3]
  ·rw [h1,h2]
 | _=>rfl
theorem lnmA_sim {base:Nat} {H H2:Hp} (hs:SimH base H H2) {a:AV} (hlt:ltB base a=true):Xe H a=Xe H2 a:=by
 cases a with
 | mp i g =>
  have hi:i < base:=by simpa [ltB,ltC] using hlt
  simp only [Xe]
  rcases hs.liveM (g:=g) hi with ⟨ob,ob2,h1,h2,h3⟩|⟨h1,h2⟩
  ·rw [h1,h2];simp only;rw [h3]
  ·rw [h1,h2]
 | _=>rfl
theorem mkiA_sim {base:Nat} {H H2:Hp} (hs:SimH base H H2) {t:Nat} {a:AV} (hlt:ltB base a=true):X7 t H a=X7 t H2 a:=by
 cases a with
 | oa i g e o =>
  have hi:i < base:=by simpa [ltB,ltC] using hlt
  simp only [X7]
  rcases hs.live (g:=g) hi with ⟨ob,ob2,h1,h2,h3⟩|⟨h1,h2⟩
  ·rw [h1,h2]
  ·rw [h1,h2]
 | _=>rfl
theorem elemA_sim {base:Nat} {H H2:Hp} (hs:SimH base H H2) {k:Nat} {a:AV} {ix:Int} (hlt:ltB base a=true):zr k H a ix=zr k H2 a ix:=by
 cases a with
 | ol i g n =>
  have hi:i < base:=by simpa [ltB,ltC] using hlt
  simp only [zr]
  rcases hs.live (g:=g) hi with ⟨ob,ob2,h1,h2,h3⟩|⟨h1,h2⟩
  ·rw [h1,h2];simp only;rw [h3]
  ·rw [h1,h2]
 | _=>rfl
theorem sloA_sim {base:Nat} {H H2:Hp} (hs:SimH base H H2) {k:Nat} {a:AV} {ix:Int} (hlt:ltB base a=true):XW k H a ix=XW k H2 a ix:=by
 cases a with
 | ol i g n =>
  have hi:i < base:=by simpa [ltB,ltC] using hlt
  simp only [XW]
  rcases hs.live (g:=g) hi with ⟨ob,ob2,h1,h2,h3⟩|⟨h1,h2⟩
  ·rw [h1,h2];simp only;rw [h3]
  ·rw [h1,h2]
 | _=>rfl
theorem mono {base : Nat} {ev : AX -> AV} {H : Hp} {op : AOp} (hc : op.cls <= 3) (hb : base <= H.length) (hlt : op.cls = 1 \/ op.cls = 2 -> (op.xs.all fun x => ltB base (ev x)) = true) {r : AV} {H' : Hp} (h : Eff P G ev H op r H') :
  ∃ (L:List (Nat × Nat)) (Bs:Hp),H'=frz H L++Bs/\(∀ p ∈ L,p.1 < base)/\(op.cls ≠ 3->Bs=[])/\∀ H2,SimH base H H2->(Bs ≠ []->H2.length=H.length)->Eff P G ev H2 op r (frz H2 L++Bs):=by
 have keep:H'=H->(∀ H2,SimH base H H2->Eff P G ev H2 op r H2)->∃ (L:List (Nat × Nat)) (Bs:Hp),H'=frz H L++Bs/\(∀ p ∈ L,p.1 < base)/\(op.cls ≠ 3->Bs=[])/\∀ H2,SimH base H H2->(Bs ≠ []->H2.length=H.length)->Eff P G ev H2 op r (frz H2 L++Bs):=fun e f =>
  ⟨[],[],by simp [frz,e],fun p hp=>(by simp at hp),fun _=>rfl,fun H2 hs _=>by simpa [frz] using f H2 hs⟩
 by_cases h0:op.cls=0
 ·obtain ⟨e, f⟩ := cls0 h0 h
  exact keep e fun H2 _=>f H2
 have look:∀ {o:Hp->Option AV},(∀ H2,eff P ev H2 op=(o H2).map (·,H2))->(∀ H2,SimH base H H2->o H=o H2)->eff P ev H op=some (r,H')->H'=H/\∀ H2,SimH base H H2->eff P ev H2 op=some (r,H2):=fun {o} h1 h2 h3=>by
  rw [h1] at h3
  obtain ⟨e1,rfl⟩:=Zf h3
  exact ⟨rfl,fun H2 hs=>by rw [h1,<- h2 H2 hs,e1];rfl⟩
 cases op<;>simp only [AOp.cls] at hc h0 hlt<;>(try omega)<;>(try exact absurd trivial h0)<;>(try simp only [AOp.xs,List.all_cons,List.all_nil,Bool.and_true,Bool.and_eq_true,true_or,or_true,forall_const] at hlt)
 case bin op t pt xo yo x y =>
  obtain ⟨e,f⟩:=look (o:=fun H2=>zO P H2 op t pt xo yo (ev x) (ev y)) (fun _=>rfl) (fun H2 hs=>by
   unfold zO Xc
   rw [isPtr_sim hs hlt.1,isPtr_sim hs hlt.2,isRow_sim hs hlt.1,isRow_sim hs hlt.2]) h
  exact keep e f
 case load agg n x =>
  obtain ⟨e,f⟩:=look (o:=fun H2=>zo H2 agg n (ev x)) (fun _=>rfl) (fun H2 hs=>loadA_sim hs hlt) h
  exact keep e f
 case nilc x =>
  obtain ⟨e,f⟩:=look (o:=fun H2=>XC P H2 (ev x)) (fun _=>rfl) (fun H2 hs=>nilB_sim hs hlt) h
  exact keep e f
 case fad off x =>
  obtain ⟨e,f⟩:=look (o:=fun H2=>zq off H2 (ev x)) (fun _=>rfl) (fun H2 hs=>moveA_sim hs hlt) h
  exact keep e f
 case lkp kd c z x i =>
  obtain ⟨e,f⟩:=look (o:=fun H2=>XD H2 kd c z (ev x) (ev i)) (fun _=>rfl) (fun H2 hs=>lkpA_sim hs hlt.1) h
  exact keep e f
 case lnm x =>
  obtain ⟨e,f⟩:=look (o:=fun H2=>(match Xe H2 (ev x) with|some n=>some (.v (.int .i64 (n:Int)))|none=>none)) (fun H2=>by simp only [eff];cases Xe H2 (ev x)<;>rfl) (fun H2 hs=>by rw [lnmA_sim hs hlt]) h
  exact keep e f
 case mki t x =>
  obtain ⟨e,f⟩:=look (o:=fun H2=>X7 t H2 (ev x)) (fun _=>rfl) (fun H2 hs=>mkiA_sim hs hlt) h
  exact keep e f
 case iad k x i =>
  obtain ⟨e,f⟩:=look (o:=fun H2=>(match zI (ev i) with|some ix=>zr k H2 (ev x) ix|none=>none)) (fun H2=>by simp only [eff];cases zI (ev i)<;>rfl) (fun H2 hs=>by
   cases zI (ev i) with
   | none=>rfl
   | some ix=>exact elemA_sim hs hlt.1) h
  exact keep e f
 case slo k x i =>
  obtain ⟨e,f⟩:=look (o:=fun H2=>(match zI (ev i) with|some ix=>XW k H2 (ev x) ix|none=>none)) (fun H2=>by simp only [eff];cases zI (ev i)<;>rfl) (fun H2 hs=>by
   cases zI (ev i) with
   | none=>rfl
   | some ix=>exact sloA_sim hs hlt.1) h
  exact keep e f
 case iaa len k x i =>
  obtain ⟨e,f⟩:=look (o:=fun H2=>(match zI (ev i) with|some ix=>if 0<=ix/\ix.toNat < len then zq (ix.toNat * k) H2 (ev x) else none|none=>none)) (fun H2=>by
   simp only [eff]
   cases zI (ev i) with
   | none=>rfl
   | some ix=>simp only;split<;>rfl) (fun H2 hs=>by
   cases zI (ev i) with
   | none=>rfl
   | some ix=>simp only;rw [moveA_sim hs hlt.1]) h
  exact keep e f
 case slc k x lo hi =>
  simp only [Eff] at h ⊢
  have hx:ltB base (ev x)=true:=by
   have:=hlt
   simp only [List.cons_append,List.nil_append,List.all_cons,Bool.and_eq_true] at this
   exact this.1
  have e0 : ∀ H2, eff P ev H2 (.slc k x lo hi) = (match (lo.map ev).map zI, (hi.map ev).map zI with
    | some none,_|_,some none=>none
    | l,h=>ze k H2 (ev x) (l.bind id) (h.bind id)):=fun _=>rfl
  have key:∀ l' h',ze k H (ev x) l' h'=some (r,H')->∃ (L:List (Nat × Nat)),H'=frz H L/\(∀ p ∈ L,p.1 < base)/\∀ H2,SimH base H H2->ze k H2 (ev x) l' h'=some (r,frz H2 L):=fun l' h' hs=>by
   generalize ev x=a at hs hx
   cases a with
   | nl k' =>
    simp only [ze] at hs ⊢
    split at hs
    ·rename_i hk
     cases hs
     exact ⟨[],rfl,fun p hp=>by simp at hp,fun H2 _=>by rw [if_pos hk];rfl⟩
    ·cases hs
   | sl k' es =>
    simp only [ze] at hs ⊢
    split at hs
    ·rename_i hk
     split at hs
     ·rename_i r' hcut
      cases hs
      exact ⟨[],rfl,fun p hp=>by simp at hp,fun H2 _=>by rw [if_pos hk];rfl⟩
     ·cases hs
    ·cases hs
   | ol i g n =>
    have hi:i < base:=by simpa [ltB,ltC] using hx
    simp only [ze] at hs ⊢
    split at hs
    ·rename_i hl0
     split at hs
     ·rename_i ob hlv
      split at hs
      ·rename_i hcnd
       cases hs
       refine ⟨[],rfl,fun p hp=>by simp at hp,fun H2 hs=>?_⟩
       rcases hs.live (g:=g) hi with ⟨ob1,ob2,h1,h2,h3⟩|⟨h1,h2⟩
       ·rw [if_pos hl0,h2];simp only;rw [if_pos hcnd];rfl
       ·rw [hlv] at h1;cases h1
      ·cases hs
     ·cases hs
    ·rename_i hl0
     split at hs
     ·rename_i k' es H1 hp
      split at hs
      ·rename_i hk
       split at hs
       ·rename_i r' hcut
        cases hs
        have hx':ltC base (.ol i g n)=true:=hx
        obtain ⟨L,e1,l1,q1⟩:=xX hb hx' hp
        refine ⟨L,e1,l1,fun H2 hs=>?_⟩
        rw [if_neg hl0,q1 H2 hs]
        simp only
        rw [if_pos hk,hcut]
       ·cases hs
      ·cases hs
     ·cases hs
   | _=>cases hs
  rw [e0] at h
  split at h
  ·cases h
  ·cases h
  ·rename_i n1 n2
   obtain ⟨L,e1,l1,q1⟩:=key _ _ h
   refine ⟨L,[],by simpa using e1,l1,fun _=>rfl,fun H2 hs _=>?_⟩
   rw [e0,List.append_nil]
   have:=q1 H2 hs
   split
   ·exact (n1 (by assumption)).elim
   ·exact (n2 (by assumption)).elim
   ·exact this
 case call f xs =>
  obtain ⟨as_,hp,hpc⟩:=h
  have hall:(xs.map ev).all (ltB base)=true:=by rw [List.all_map];exact hlt
  obtain ⟨L,e1,l1,q1⟩:=purA_frz hb hall hp
  exact ⟨L,[],by simpa using e1,l1,fun _=>rfl,fun H2 hs _=>⟨as_,by rw [List.append_nil];exact q1 H2 hs,hpc⟩⟩
 case new e k x =>
  simp only [Eff,eff] at h ⊢
  split at h
  ·rename_i hcond
   cases h
   exact ⟨[],[⟨e,k,[ev x],0,0⟩],rfl,fun p hp=>(by simp at hp),fun hn=>absurd rfl hn,fun H2 hs hlen=>by rw [if_pos hcond,hlen (by simp)];rfl⟩
  ·cases h
 case bsl e k xs =>
  simp only [Eff,eff] at h ⊢
  split at h
  ·rename_i hcond
   cases h
   exact ⟨[],[⟨e,k,xs.map ev,0,0⟩],rfl,fun p hp=>(by simp at hp),fun hn=>absurd rfl hn,fun H2 hs hlen=>by rw [if_pos hcond,hlen (by simp)];rfl⟩
  ·cases h
 case callm f xs =>
  obtain ⟨Bs,h1,rfl⟩:=h
  exact ⟨[],Bs,by simp [frz],fun p hp=>(by simp at hp),fun hn=>absurd rfl hn,fun H2 hs hlen=>⟨Bs,fun H3 h3=>h1 H3 fun hne=>by rw [h3 hne,hlen hne],by simp [frz]⟩⟩
 case apz e k bytes z s n =>
  simp only [Eff,eff] at h ⊢
  split at h
  ·rename_i k' m hs hm
   split at h
   ·rename_i hcond
    cases h
    exact ⟨[],[⟨e,k,List.replicate m.toNat z,0,0⟩],rfl,fun p hp=>(by simp at hp),fun hn=>absurd rfl hn,fun H2 hs hlen=>by rw [if_pos hcond,hlen (by simp)];rfl⟩
   ·cases h
  ·cases h
 case mkm =>
  simp only [Eff,eff] at h ⊢
  cases h
  exact ⟨[],[⟨ZZ,2,[],0,0⟩],rfl,fun p hp=>(by simp at hp),fun hn=>absurd rfl hn,fun H2 hs hlen=>by rw [hlen (by simp)];rfl⟩
 case mks e k bytes z len cap =>
  simp only [Eff,eff] at h ⊢
  split at h
  ·rename_i l c hl hc2
   split at h
   ·rename_i hcond
    cases h
    exact ⟨[],[⟨e,k,List.replicate l.toNat z,0,0⟩],rfl,fun p hp=>(by simp at hp),fun hn=>absurd rfl hn,fun H2 hs hlen=>by rw [if_pos hcond,hlen (by simp)];rfl⟩
   ·cases h
  ·cases h
def AI.reads (o:AI):List Nat:=(o.op.xs.filterMap fun|.t n=>some n|_=>none)++(match o.guard with|some (t,_)=>[t]|none=>[])
def apart (x y:AI):Bool :=
 (match x.dst with|some d=>!y.reads.contains d && y.dst != some d|none=>true) && (match y.dst with|some d=>!x.reads.contains d|none=>true)
def Y2 (x y:AI):Bool :=
 apart x y && (x.op.cls == 0 || y.op.cls == 0 || (decide (x.op.cls<=3) && decide (y.op.cls<=3) && !(x.op.cls == 3 && y.op.cls == 3)) || ((x.op.cls == 5 && decide (y.op.cls<=2)) || (y.op.cls == 5 && decide (x.op.cls<=2))))
theorem apart_spec {x y:AI} (h:apart x y=true):(∀ d,x.dst=some d->d ∉ y.reads)/\(∀ d,x.dst=some d->y.dst ≠ some d)/\(∀ d,y.dst=some d->d ∉ x.reads):=by
 refine ⟨fun d hd=>?_,fun d hd=>?_,fun d hd=>?_⟩<;>simp [apart,hd] at h
 ·exact h.1.1
 ·exact h.1.2
 ·exact h.2
theorem yd {st:St} {d:Option Nat} {r:AV} {H:Hp} {t:Nat} (h:∀ e,d=some e->e ≠ t):(st.put d r H).s.getD t zh=st.s.getD t zh:=by
 cases d with
 | none=>rfl
 | some e=>simp only [St.put,List.getD_eq_getElem?_getD,List.getElem?_set_ne (h e rfl)]
theorem xk {o:AI} {st:St} {d:Option Nat} {r:AV} {H:Hp} (h:∀ e,d=some e->e ∉ o.reads):∀ x ∈ o.op.xs,AX.ev G (st.put d r H).s x=AX.ev G st.s x:=fun x hx=>by
 cases x with
 | t n=>exact yd fun e he hn=>h e he (by subst hn;exact List.mem_append_left _ (List.mem_filterMap.2 ⟨.t e,hx,rfl⟩))
 | c a=>rfl
 | g n=>rfl
theorem YU (st:St) {d e:Option Nat} (r q:AV) (H1 H2 H3:Hp) (h:∀ x,d=some x->e ≠ some x):(st.put d r H1).put e q H2=(st.put e q H3).put d r H2:=by
 cases d with
 | none=>cases e<;>rfl
 | some d =>
  cases e with
  | none=>rfl
  | some e =>
   have hne:d ≠ e:=fun he=>h d rfl (he ▸ rfl)
   simp only [St.put]
   rw [List.set_comm _ _ hne]
theorem YB {ev ev':AX->AV} {H H':Hp} {op:AOp} {r:AV} (h:∀ x ∈ op.xs,ev x=ev' x) (he:Eff P G ev H op r H'):Eff P G ev' H op r H':=by
 cases op with
 | call f xs =>
  obtain ⟨as_,h1,h2⟩:=he
  have hm:xs.map ev=xs.map ev':=List.map_congr_left h
  exact ⟨as_,by rw [<- hm];exact h1,h2⟩
 | callm f xs =>
  have hm:xs.map ev=xs.map ev':=List.map_congr_left h
  simp only [Eff] at he ⊢
  rw [<- hm];exact he
 | callh f xs =>
  have hm:xs.map ev=xs.map ev':=List.map_congr_left h
  simp only [Eff] at he ⊢
  rw [<- hm];exact he
 | calli nm x xs =>
  have hm:xs.map ev=xs.map ev':=List.map_congr_left fun y hy=>h y (by simp [AOp.xs,hy])
  have hx:ev x=ev' x:=h x (by simp [AOp.xs])
  obtain ⟨t,i,g,e,off,f,h1,h2,h3,h4⟩:=he
  exact ⟨t,i,g,e,off,f,by rw [<- hx];exact h1,h2,h3,by rw [<- hm];exact h4⟩
 | callv x xs =>
  have hm:xs.map ev=xs.map ev':=List.map_congr_left fun y hy=>h y (by simp [AOp.xs,hy])
  have hx:ev x=ev' x:=h x (by simp [AOp.xs])
  obtain ⟨f,cs,h1,h2,h3⟩:=he
  exact ⟨f,cs,by rw [<- hx];exact h1,h2,by rw [<- hm];exact h3⟩
 | _=>simp only [Eff] at he ⊢;rw [<- eff_congr h];exact he
theorem fzm_set {i n j:Nat} {H:Hp} {ob:OB} (h:i ≠ j):(fzm i n H).set j ob=fzm i n (H.set j ob):=by
 apply List.ext_getElem?
 intro x
 rw [yG,List.getElem?_set,List.getElem?_set,y9,yG]
 by_cases hx:j=x
 ·subst hx
  by_cases hl:j < H.length<;>simp [hl,h]
 ·simp [hx]
theorem live_fzm {i n j g:Nat} {H:Hp}:live (fzm i n H) j g=(live H j g).map fun ob=>if i=j then { ob with fz:=max ob.fz n } else ob:=by
 unfold live
 rw [yG]
 cases H[j]? with
 | none=>rfl
 | some ob =>
  simp only [Option.map_some]
  by_cases hi:i=j
  ·simp only [hi,if_true];by_cases hg:ob.g=g<;>by_cases hm:(ob.e == 4000000000)=true<;>simp only [hg,hm,if_true,if_false,reduceIte,Option.map_some,Option.map_none,Bool.false_eq_true,Bool.not_eq_true]<;>simp_all
  ·simp only [hi,if_false];by_cases hg:ob.g=g<;>by_cases hm:(ob.e == 4000000000)=true<;>simp only [hg,hm,if_true,if_false,reduceIte,Option.map_some,Option.map_none,Bool.false_eq_true,Bool.not_eq_true]<;>simp_all
theorem srcA_fzm {i n k:Nat} {H:Hp} {x:AV}:zV (fzm i n H) k x=(zV H k x).map fun p=>(p.1,fzm i n H):=by
 cases x with
 | ol j g m =>
  simp only [zV,live_fzm]
  cases live H j g with
  | none=>rfl
  | some ob =>
   simp only [Option.map_some]
   by_cases hi:i=j
   ·simp only [hi,if_true];split<;>rfl
   ·simp only [hi,if_false];split<;>rfl
 | nl k'=>rfl
 | em b k'=>rfl
 | sl k' es =>
  simp only [zV]
  by_cases hk:k'=k
  ·simp [hk]
  ·simp [hk]
 | _=>rfl
theorem appA_fzm {i n:Nat} {e:TypeId} {k bytes:Nat} {H:Hp} {j g m:Nat} {x:AV} (h:i ≠ j):zT e k bytes (fzm i n H) (.ol j g m) x=(zT e k bytes H (.ol j g m) x).map fun p=>(p.1,fzm i n p.2):=by
 unfold zT
 rw [srcA_fzm]
 cases zV H k x with
 | none=>rfl
 | some p =>
  obtain ⟨news,H2⟩:=p
  simp only [Option.map_some,live_fzm]
  cases live H j g with
  | none=>rfl
  | some ob =>
   simp only [Option.map_some,if_neg h]
   split
   ·rw [fzm_set h];rfl
   ·rfl
theorem appA_frz {e:TypeId} {k bytes:Nat} {j g m:Nat} {x:AV}:∀ (L:List (Nat × Nat)) {H:Hp},(∀ p ∈ L,p.1 ≠ j)->zT e k bytes (frz H L) (.ol j g m) x=(zT e k bytes H (.ol j g m) x).map fun p=>(p.1,frz p.2 L)
 | [],H,_=>by
  show zT e k bytes H (.ol j g m) x=(zT e k bytes H (.ol j g m) x).map fun p=>(p.1,p.2)
  cases zT e k bytes H (.ol j g m) x<;>rfl
 | (i,n)::L,H,h=>by
  rw [frz,appA_frz L fun p hp=>h p (by simp [hp]),appA_fzm (h (i,n) (by simp))]
  cases zT e k bytes H (.ol j g m) x<;>rfl
theorem appA_set {e:TypeId} {k bytes:Nat} {H H':Hp} {j g m:Nat} {x r:AV} (h:zT e k bytes H (.ol j g m) x=some (r,H')):j < H.length/\∃ ob,H'=H.set j ob:=by
 unfold zT at h
 split at h
 ·simp only at h
  split at h
  ·rename_i ob hl
   have hj:=(ZJ hl).1
   split at h
   ·cases h
    exact ⟨(List.getElem?_eq_some_iff.1 hj).1,_,rfl⟩
   ·cases h
  ·cases h
 ·cases h
theorem wO {base : Nat} {ev : AX -> AV} {H : Hp} {op : AOp} (hc : op.cls = 5) (hg : geB base (ev (op.xs.headD (.c .unk))) = true) :
  ∃ j,base<=j/\(∀ {r:AV} {H':Hp},Eff P G ev H op r H'->j < H.length/\∃ ob,H'=H.set j ob) /\
   (∀ {H:Hp} (L:List (Nat × Nat)),(∀ p ∈ L,p.1 < base)->∀ (r:AV) (H':Hp),Eff P G ev (frz H L) op r H'↔∃ H3,Eff P G ev H op r H3/\H'=frz H3 L):=by
 cases op<;>simp only [AOp.cls] at hc<;>(try omega)
 case apf e k bytes s x =>
  simp only [AOp.xs,List.headD_cons] at hg
  simp only [Eff,eff]
  generalize ev s=a at hg
  cases a with
  | ol j g m =>
   have hj:base<=j:=by simpa [geB] using hg
   refine ⟨j,hj,fun h=>appA_set h,fun {H} L hL r H'=>?_⟩
   rw [appA_frz L fun p hp=>by have:=hL p hp;omega]
   cases zT e k bytes H (.ol j g m) (ev x) with
   | none=>simp
   | some p =>
    obtain ⟨r2,H2⟩:=p
    simp only [Option.map_some,Option.some.injEq,Prod.mk.injEq]
    constructor
    ·rintro ⟨rfl,rfl⟩;exact ⟨H2,⟨rfl,rfl⟩,rfl⟩
    ·rintro ⟨H3,⟨rfl,rfl⟩,rfl⟩;exact ⟨rfl,rfl⟩
  | _=>simp [geB] at hg
theorem SimH.setR {base j:Nat} {H:Hp} {ob:OB} (hb:base<=H.length) (hj:base<=j):SimH base H (H.set j ob):=fun i hi=>by
 refine ⟨H[i],H[i],List.getElem?_eq_getElem (by omega),?_,rfl⟩
 rw [List.getElem?_set_ne (by omega)]
 exact List.getElem?_eq_getElem (by omega)
theorem Eff_swap {base : Nat} {ev1 ev2 : AX -> AV} {H H1 H2 : Hp} {x y : AOp} {r q : AV} (hf : x.cls = 0 \/ y.cls = 0 \/ (x.cls <= 3 /\ y.cls <= 3 /\ ¬(x.cls = 3 /\ y.cls = 3)) \/ (x.cls = 5 /\ y.cls <= 2) \/ (y.cls = 5 /\ x.cls <= 2))
  (hx:x.cls=0\/(base<=H.length/\(x.cls=1\/x.cls=2->(x.xs.all fun a=>ltB base (ev1 a))=true)/\(x.cls=5->geB base (ev1 (x.xs.headD (.c .unk)))=true))) (hy:y.cls=0\/(base<=H1.length/\(y.cls=1\/y.cls=2->(y.xs.all fun a=>ltB base (ev2 a))=true)/\(y.cls=5->geB base (ev2 (y.xs.headD (.c .unk)))=true)))
  (h1:Eff P G ev1 H x r H1) (h2:Eff P G ev2 H1 y q H2):∃ H3,Eff P G ev2 H y q H3/\Eff P G ev1 H3 x r H2/\(y.cls=0\/base<=H.length)/\(x.cls=0\/base<=H3.length):=by
 by_cases hx0:x.cls=0
 ·obtain ⟨rfl, f⟩ := cls0 hx0 h1
  refine ⟨H2,h2,f H2,hy.imp id (·.1),.inl hx0⟩
 ·have hbx := (hx.resolve_left hx0)
  by_cases hy0:y.cls=0
  ·obtain ⟨rfl, f⟩ := cls0 hy0 h2
   exact ⟨H,f H,h1,.inl hy0,.inr hbx.1⟩
  ·have hby := (hy.resolve_left hy0)
   rcases (hf.resolve_left hx0).resolve_left hy0 with ⟨c1,c2,c3⟩|⟨c1,c2⟩|⟨c1,c2⟩
   rotate_left
   ·obtain ⟨j, hj, a1, a2⟩ := wO (P := P) (G := G) (H := H) c1 (hbx.2.2 c1)
    obtain ⟨hjl,ob,e1⟩:=a1 h1
    obtain ⟨L2,B2,e2,l2,n2,f2⟩:=mono (by omega) hby.1 hby.2.1 h2
    obtain rfl:=n2 (by omega)
    rw [List.append_nil] at e2
    subst e2
    have s1:SimH base H1 H:=by rw [e1];exact (SimH.setR hbx.1 hj).symm
    refine ⟨frz H L2,by simpa using f2 H s1 (fun hb=>absurd rfl hb),(a2 L2 l2 r _).2 ⟨H1,h1,rfl⟩,.inr hbx.1,.inr (by rw [yu];exact hbx.1)⟩
   ·obtain ⟨L1, B1, e1, l1, n1, f1⟩ := mono (by omega) hbx.1 hbx.2.1 h1
    obtain rfl:=n1 (by omega)
    rw [List.append_nil] at e1
    subst e1
    obtain ⟨j,hj,a1,a2⟩:=wO (P:=P) (G:=G) (H:=frz H L1) c1 (hby.2.2 c1)
    obtain ⟨H3,k1,k2⟩:=(a2 L1 l1 q H2).1 h2
    obtain ⟨j',hj',b1,_⟩:=wO (P:=P) (G:=G) (H:=H) c1 (hby.2.2 c1)
    obtain ⟨_,ob,e3⟩:=b1 k1
    have s1:SimH base H H3:=by rw [e3];exact SimH.setR hbx.1 hj'
    refine ⟨H3,k1,?_,.inr hbx.1,.inr (by rw [e3];simpa using hbx.1)⟩
    rw [k2]
    simpa using f1 H3 s1 (fun hb=>absurd rfl hb)
   obtain ⟨L1,B1,e1,l1,n1,f1⟩:=mono c1 hbx.1 hbx.2.1 h1
   subst e1
   obtain ⟨L2,B2,e2,l2,n2,f2⟩:=mono c2 hby.1 hby.2.1 h2
   subst e2
   have hlen:base<=(frz H L1).length:=by rw [yu];exact hbx.1
   have s1:SimH base (frz H L1++B1) H:=((SimH.frz L1 hbx.1).trans (SimH.push hlen B1)).symm
   have hor:B1=[]\/B2=[]:=by
    by_cases hx3:x.cls=3
    ·exact .inr (n2 fun hy3=>c3 ⟨hx3,hy3⟩)
    ·exact .inl (n1 hx3)
   have hlen2:base<=(frz H L2).length:=by rw [yu];exact hbx.1
   have s2:SimH base H (frz H L2++B2):=(SimH.frz L2 hbx.1).trans (SimH.push hlen2 B2)
   refine ⟨frz H L2++B2,f2 H s1 (fun hb=>?_),?_,.inr hbx.1,.inr (by simp;omega)⟩
   ·rw [hor.resolve_right hb];simp [yu]
   ·have g1:=f1 (frz H L2++B2) s2 (fun hb=>by rw [hor.resolve_left hb];simp [yu])
    have eq:frz (frz H L1++B1) L2++B2=frz (frz H L2++B2) L1++B1:=by
     rw [Xh L2 _ B1 (fun p hp=>Nat.lt_of_lt_of_le (l2 p hp) hlen),Xh L1 _ B2 (fun p hp=>Nat.lt_of_lt_of_le (l1 p hp) hlen2),frz_comm L1 L2]
     rcases hor with h|h<;>simp [h]
    rw [eq]
    exact g1
theorem ZP {base:Nat} {o:AI} {st st':St} (h:∀ x ∈ o.op.xs,AX.ev G st.s x=AX.ev G st'.s x) (hb:o.op.cls=0\/base<=st'.H.length) (hc:chk G base o st):chk G base o st':=by
 rcases hc with hc|⟨h1,h2⟩
 ·exact .inl hc
 ·rcases hb with hb | hb
  ·exact .inl hb
  ·refine .inr ⟨hb,fun hcls=>?_,fun hcls=>?_⟩
   ·have := h2.1 hcls
    rw [List.all_eq_true] at this ⊢
    exact fun x hx=>by rw [<- h x hx];exact this x hx
   ·have := h2.2 hcls
    cases hxs:o.op.xs with
    | nil=>rw [hxs] at this;simp [AX.ev,geB] at this
    | cons x xs =>
     rw [hxs] at this h
     simp only [List.headD_cons] at this ⊢
     rw [<- h x (by simp)]
     exact this
theorem Stp_swap {base:Nat} {x y:AI} {st s1 s2:St} (hf:Y2 x y=true) (cx:chk G base x st) (h1:Stp P G x st s1) (cy:chk G base y s1) (h2:Stp P G y s1 s2):∃ s3,chk G base y st/\Stp P G y st s3/\chk G base x s3/\Stp P G x s3 s2:=by
 simp only [Y2,Bool.and_eq_true] at hf
 obtain ⟨hap,hcl⟩:=hf
 have hcl':x.op.cls=0\/y.op.cls=0\/(x.op.cls<=3/\y.op.cls<=3/\¬(x.op.cls=3/\y.op.cls=3))\/(x.op.cls=5/\y.op.cls<=2)\/(y.op.cls=5/\x.op.cls<=2):=by
  simp only [Bool.or_eq_true,beq_iff_eq,Bool.and_eq_true,decide_eq_true_eq,Bool.not_eq_true',Bool.and_eq_false_imp,beq_eq_false_iff_ne] at hcl
  rcases hcl with ((h|h)|⟨⟨h1,h2⟩,h3⟩)|h|h
  ·exact .inl h
  ·exact .inr (.inl h)
  ·exact .inr (.inr (.inl ⟨h1,h2,fun ⟨a,b⟩=>h3 a b⟩))
  ·exact .inr (.inr (.inr (.inl h)))
  ·exact .inr (.inr (.inr (.inr h)))
 obtain ⟨a1,a2,a3⟩:=apart_spec hap
 -- the guards' words
 have guardT:∀ {o:AI} {t:Nat} {w:Bool},o.guard=some (t,w)->t ∈ o.reads:=fun {o t w} hg=>by
  unfold AI.reads;rw [hg];simp
 -- what a step is: done, or left out
 have stp:∀ {o:AI} {u v:St},Stp P G o u v↔(∃ r H',(∀ t w,o.guard=some (t,w)->u.s.getD t zh = .v (.bool w))/\Eff P G (AX.ev G u.s) u.H o.op r H'/\v=u.put o.dst r H')\/(∃ t w b,o.guard=some (t,w)/\u.s.getD t zh=b/\OffA w b/\v=u.put o.dst zh u.H):=fun {o u v}=>by
  unfold Stp
  cases hg:o.guard with
  | none =>
   constructor
   ·rintro ⟨r,H',h1,h2⟩;exact .inl ⟨r,H',(fun t w h=>by cases h),h1,h2⟩
   ·rintro (⟨r, H', _, h1, h2⟩ | ⟨t, w, b, h, _⟩)
    ·exact ⟨r,H',h1,h2⟩
    ·cases h
  | some tw =>
   obtain ⟨t,w⟩:=tw
   constructor
   ·rintro (⟨hb, r, H', h1, h2⟩ | ⟨b, hb, hne, h2⟩)
    ·exact .inl ⟨r,H',(fun t' w' h=>by cases h;exact hb),h1,h2⟩
    ·exact .inr ⟨t,w,b,rfl,hb,hne,h2⟩
   ·rintro (⟨r, H', hb, h1, h2⟩ | ⟨t', w', b, h, hb, hne, h2⟩)
    ·exact .inl ⟨hb t w rfl,r,H',h1,h2⟩
    ·cases h;exact .inr ⟨b,hb,hne,h2⟩
 rw [stp] at h1 h2
 rcases h1 with ⟨r,H1,g1,e1,rfl⟩|⟨t1,w1,b1,hg1,hb1,hn1,rfl⟩
 ·have yop:∀ z ∈ y.op.xs,AX.ev G (st.put x.dst r H1).s z=AX.ev G st.s z:=xk (fun d hd=>a1 d hd)
  rcases h2 with ⟨q,H2,g2,e2,rfl⟩|⟨t2,w2,b2,hg2,hb2,hn2,rfl⟩
  ·have e2' := YB yop e2
   have hH:(st.put x.dst r H1).H=H1:=by cases x.dst<;>rfl
   have cy':y.op.cls=0\/(base<=H1.length/\(y.op.cls=1\/y.op.cls=2->(y.op.xs.all fun a=>ltB base (AX.ev G st.s a))=true)/\(y.op.cls=5->geB base (AX.ev G st.s (y.op.xs.headD (.c .unk)))=true)):=by
    have c:=ZP (st':=⟨st.s,H1⟩) yop (by rcases cy with h|⟨h1,h2⟩;exact .inl h;right;rw [hH] at h1;exact h1) cy
    exact c
   rw [hH] at e2'
   obtain ⟨H3,f1,f2,k1,k2⟩:=Eff_swap (base:=base) hcl' cx cy' e1 e2'
   have xop:∀ z ∈ x.op.xs,AX.ev G (st.put y.dst q H3).s z=AX.ev G st.s z:=xk (fun d hd=>a3 d hd)
   have hH3:(st.put y.dst q H3).H=H3:=by cases y.dst<;>rfl
   refine ⟨st.put y.dst q H3,?_,stp.2 (.inl ⟨q,H3,fun t w hg=>?_,f1,rfl⟩),?_,stp.2 (.inl ⟨r,H2,fun t w hg=>?_,?_,?_⟩)⟩
   ·exact ZP yop k1 cy
   ·have := g2 t w hg
    rwa [yd (fun e he hn=>a1 e he (by subst hn;exact guardT hg))] at this
   ·exact ZP (fun z hz=>(xop z hz).symm) (by rw [hH3];exact k2) cx
   ·rw [yd (fun e he hn=>a3 e he (by subst hn;exact guardT hg))]
    exact g1 t w hg
   ·rw [hH3]
    exact YB (fun z hz=>(xop z hz).symm) f2
   ·exact YU st r q H1 H2 H3 a2
  ·have hH : (st.put x.dst r H1).H = H1 := by cases x.dst <;> rfl
   rw [hH]
   have xop:∀ z ∈ x.op.xs,AX.ev G (st.put y.dst zh st.H).s z=AX.ev G st.s z:=xk (fun d hd=>a3 d hd)
   have hH3:(st.put y.dst zh st.H).H=st.H:=by cases y.dst<;>rfl
   refine ⟨st.put y.dst zh st.H,?_,stp.2 (.inr ⟨t2,w2,b2,hg2,?_,hn2,rfl⟩),?_,stp.2 (.inl ⟨r,H1,fun t w hg=>?_,?_,?_⟩)⟩
   ·rcases hcl' with h | h | h3
    ·obtain ⟨e, _⟩ := cls0 h e1
     exact ZP yop (by rcases cy with c|⟨c,_⟩;exact .inl c;right;rw [hH,e] at c;exact c) cy
    ·exact .inl h
    ·rcases cx with c | ⟨c, _⟩
     ·obtain ⟨e, _⟩ := cls0 c e1
      exact ZP yop (by rcases cy with c|⟨c,_⟩;exact .inl c;right;rw [hH,e] at c;exact c) cy
     ·exact ZP yop (.inr c) cy
   ·rwa [yd (fun e he hn=>a1 e he (by subst hn;exact guardT hg2))] at hb2
   ·exact ZP (fun z hz=>(xop z hz).symm) (by rw [hH3];exact cx.imp id (·.1)) cx
   ·rw [yd (fun e he hn=>a3 e he (by subst hn;exact guardT hg))]
    exact g1 t w hg
   ·rw [hH3]
    exact YB (fun z hz=>(xop z hz).symm) e1
   ·exact YU st r zh H1 H1 st.H a2
 ·have hH : (st.put x.dst zh st.H).H = st.H := by cases x.dst <;> rfl
  have yop:∀ z ∈ y.op.xs,AX.ev G (st.put x.dst zh st.H).s z=AX.ev G st.s z:=xk (fun d hd=>a1 d hd)
  have cyst:chk G base y st:=ZP yop (by rcases cy with c|⟨c,_⟩;exact .inl c;right;rw [hH] at c;exact c) cy
  rcases h2 with ⟨q,H2,g2,e2,rfl⟩|⟨t2,w2,b2,hg2,hb2,hn2,rfl⟩
  ·rw [hH] at e2
   have e2':=YB yop e2
   have xop:∀ z ∈ x.op.xs,AX.ev G (st.put y.dst q H2).s z=AX.ev G st.s z:=xk (fun d hd=>a3 d hd)
   have hH3:(st.put y.dst q H2).H=H2:=by cases y.dst<;>rfl
   have grow:x.op.cls=0\/base<=H2.length:=by
    rcases cx with c|⟨c,_⟩
    ·exact .inl c
    ·by_cases hy0 : y.op.cls = 0
     ·obtain ⟨e, _⟩ := cls0 hy0 e2'
      right;rw [e];exact c
     ·obtain ⟨d1, d2, d3⟩ := (cyst.resolve_left hy0)
      have hm:y.op.cls<=3->base<=H2.length:=fun h2=>by
       obtain ⟨L,Bs,e,_⟩:=mono h2 d1 d2 e2'
       rw [e];simp [yu];omega
      rcases hcl' with h|h|⟨h1,h2,h3⟩|⟨h1,h2⟩|⟨h1,h2⟩
      ·exact .inl h
      ·exact absurd h hy0
      ·exact .inr (hm h2)
      ·exact .inr (hm (by omega))
      ·obtain ⟨j, hj, a1, _⟩ := wO (P := P) (G := G) (H := st.H) h1 (d3 h1)
       obtain ⟨_,ob,e3⟩:=a1 e2'
       right;rw [e3];simpa using d1
   refine ⟨st.put y.dst q H2,cyst,stp.2 (.inl ⟨q,H2,fun t w hg=>?_,e2',rfl⟩),?_,stp.2 (.inr ⟨t1,w1,b1,hg1,?_,hn1,?_⟩)⟩
   ·have := g2 t w hg
    rwa [yd (fun e he hn=>a1 e he (by subst hn;exact guardT hg))] at this
   ·exact ZP (fun z hz=>(xop z hz).symm) (by rw [hH3];exact grow) cx
   ·rw [yd (fun e he hn=>a3 e he (by subst hn;exact guardT hg1))]
    exact hb1
   ·rw [hH3];exact YU st zh q st.H H2 H2 a2
  ·rw [hH]
   have xop:∀ z ∈ x.op.xs,AX.ev G (st.put y.dst zh st.H).s z=AX.ev G st.s z:=xk (fun d hd=>a3 d hd)
   have hH3:(st.put y.dst zh st.H).H=st.H:=by cases y.dst<;>rfl
   refine ⟨st.put y.dst zh st.H,cyst,stp.2 (.inr ⟨t2,w2,b2,hg2,?_,hn2,rfl⟩),?_,stp.2 (.inr ⟨t1,w1,b1,hg1,?_,hn1,?_⟩)⟩
   ·rwa [yd (fun e he hn=>a1 e he (by subst hn;exact guardT hg2))] at hb2
   ·exact ZP (fun z hz=>(xop z hz).symm) (by rw [hH3];exact cx.imp id (·.1)) cx
   ·rw [yd (fun e he hn=>a3 e he (by subst hn;exact guardT hg1))]
    exact hb1
   ·rw [hH3];exact YU st zh zh st.H st.H st.H a2
variable (P G) in
def Chain (base:Nat):List AI->St->St->Prop
 | [],st,st'=>st=st'
 | o::os,st,st'=>∃ s1,chk G base o st/\Stp P G o st s1/\Chain base os s1 st'
theorem xv {base:Nat} {k:St->Prop}:∀ {os:List AI} {st:St},AWd P G base os k st->∃ st',Chain P G base os st st'/\k st'
 | [],st,h=>⟨st,rfl,h⟩
 | o::os,st,⟨hc,h⟩=>by
  obtain ⟨s1,h1,h2⟩:=AWi_iff.1 h
  obtain ⟨st',h3,h4⟩:=xv h2
  exact ⟨st',⟨s1,hc,h1,h3⟩,h4⟩
theorem Chain.run {base:Nat} {k:St->Prop}:∀ {os:List AI} {st st':St},Chain P G base os st st'->k st'->AWs P G os k st
 | [],st,st',h,hk=>by cases h;exact hk
 | o::os,st,st',⟨s1,_,h1,h2⟩,hk=>AWi_iff.2 ⟨s1,h1,Chain.run h2 hk⟩
theorem Chain.bubble {base:Nat} {o:AI} {L2:List AI}:∀ {L1:List AI} {st st':St},(∀ x ∈ L1,Y2 x o=true)->Chain P G base (L1++o::L2) st st'->Chain P G base (o::(L1++L2)) st st'
 | [],st,st',_,h=>h
 | x::L1,st,st',hf,⟨s1,hc,hs,h⟩=>by
  obtain ⟨s2,hc2,hs2,h2⟩:=Chain.bubble (fun y hy=>hf y (by simp [hy])) h
  obtain ⟨s3,c1,c2,c3,c4⟩:=Stp_swap (hf x (by simp)) hc hs hc2 hs2
  exact ⟨s3,c1,c2,s2,c3,c4,h2⟩
end
def ZU (o:Oper):List Nat:=(o.after.toList.filter fun e=>Region.binds .any e).map (·.on)
def ancOf (T:List (List Nat)) (ps:List Nat):List Nat:=(ps++ps.flatMap fun p=>T.getD p []).eraseDups
def ancs:List Oper->List (List Nat)->List (List Nat)
 | [],T=>T
 | o::os,T=>ancs os (T++[ancOf T (ZU o)])
def Xl (P:Program) (ops:Array Oper) (as_:List AI):Bool :=
 let ps:=ops.toList.map ZU
 let T:=ancs ops.toList []
 (P.follows .mixedOrders || !Region.departs ops) &&
 (ps.zipIdx.all fun (p,i)=>p.all fun j=>decide (j < i)) &&
 ((List.range ops.size).all fun i=>(T.getD i []).all fun x=>(ps.getD i []).contains x || (ps.getD i []).any fun p=>(T.getD p []).contains x) &&
 ((List.range ops.size).all fun i=>(List.range i).all fun x=>(T.getD i []).contains x ||
  (match as_[x]?,as_[i]? with
   | some a,some b=>Y2 a b
   | _,_=>false))
section
variable {P:Program} {G:Nat->AV}
theorem range_split (n i:Nat) (h:i < n):List.range n=List.range i++i::(List.range (n - (i+1))).map (i+1 + ·):=by
 have:n=i+(1+(n - (i+1))):=by omega
 conv=>lhs;rw [this,List.range_add]
 congr 1
 rw [Nat.add_comm 1,List.range_succ_eq_map]
 simp only [List.map_cons,List.map_map,Nat.add_zero]
 congr 1
 apply List.map_congr_left
 intro x _
 simp only [Function.comp]
 omega
theorem lin_chain {base : Nat} {ops : Array Oper} {as_ : List AI} (hl : ops.toList.length = as_.length) (hd : Xl P ops as_ = true) : ∀ (fuel t : Nat) (listed : Array Bool) (st st' : St),
  listed.size=ops.size ->
  (∀ i,i < ops.size->listed.getD i true=true->∀ o,ops[i]? = some o->∀ p ∈ ZU o,listed.getD p false=true) ->
  ((List.range ops.size).filter fun i=>!listed.getD i true).length<=fuel ->
  Chain P G base (((List.range ops.size).filter fun i=>!listed.getD i true).map fun i=>as_.getD i ⟨none,.mv (.c .unk),none⟩) st st' ->
  Chain P G base ((Region.linearise.go .any ops fuel t listed []).map fun i=>as_.getD i ⟨none,.mv (.c .unk),none⟩) st st'/\∀ i ∈ Region.linearise.go .any ops fuel t listed [],i < ops.size:=by
 simp only [Xl,Bool.and_eq_true,List.all_eq_true,Bool.not_eq_true',decide_eq_true_eq,List.mem_range] at hd
 obtain ⟨⟨⟨d1,d2⟩,d3⟩,d4⟩:=hd
 have psat:∀ i o,ops[i]? = some o->(ops.toList.map ZU).getD i []=ZU o:=fun i o ho=>by
  have:ops.toList[i]? = some o:=by simpa using ho
  simp [List.getD_eq_getElem?_getD,this]
 have plt:∀ i o,ops[i]? = some o->∀ p ∈ ZU o,p < i:=fun i o ho p hp=>by
  have hi:ops.toList[i]? = some o:=by simpa using ho
  have:=d2 (ZU o,i) (by
   rw [List.mem_zipIdx_iff_getElem?]
   simp [hi])
  exact this p hp
 intro fuel
 induction fuel with
 | zero =>
  intro t listed st st' hsz hcl hfu hch
  have he:((List.range ops.size).filter fun i=>!listed.getD i true)=[]:=List.eq_nil_of_length_eq_zero (by omega)
  rw [he] at hch
  exact ⟨by simpa [Region.linearise.go] using hch,fun i hi=>by simp [Region.linearise.go] at hi⟩
 | succ fuel ih =>
  intro t listed st st' hsz hcl hfu hch
  -- what an unlisted operation waits for, at any remove, is not listed before it
  have far:∀ i,i < ops.size->(∀ o,ops[i]? = some o->∀ p ∈ ZU o,listed.getD p false=true)->∀ x ∈ (ancs ops.toList []).getD i [],listed.getD x false=true:=by
   intro i
   induction i using Nat.strongRecOn with
   | _ i ihi =>
    intro hi hready x hx
    have ho:ops[i]? = some ops[i]:=Array.getElem?_eq_getElem hi
    have h3:=d3 i hi x hx
    rw [psat i _ ho] at h3
    rcases Bool.or_eq_true_iff.1 h3 with h3|h3
    ·exact hready _ ho x (by simpa using h3)
    ·obtain ⟨p, hp, hpx⟩ := List.any_eq_true.1 h3
     have hpi:=plt i _ ho p hp
     have hpl:=hready _ ho p hp
     refine ihi p hpi (by omega) (fun o' ho' q hq=>hcl p (by omega) ?_ o' ho' q hq) x (by simpa using hpx)
     have:p < listed.size:=by omega
     simp only [Array.getD_eq_getD_getElem?,Array.getElem?_eq_getElem this,Option.getD_some] at hpl ⊢
     exact hpl
  have hready:Region.ready .any ops listed=(List.range ops.size).filter fun i=>!listed.getD i true && ((ops[i]?).map (·.after.all fun e=>!Region.binds .any e || listed.getD e.on false)).getD false:=rfl
  have rdy:∀ i,i ∈ Region.ready .any ops listed↔i < ops.size/\listed.getD i true=false/\∀ o,ops[i]? = some o->∀ p ∈ ZU o,listed.getD p false=true:=fun i=>by
   rw [hready,List.mem_filter,List.mem_range]
   constructor
   ·rintro ⟨h1, h2⟩
    simp only [Bool.and_eq_true,Bool.not_eq_true'] at h2
    refine ⟨h1,h2.1,fun o ho p hp=>?_⟩
    rw [ho] at h2
    simp only [Option.map_some,Option.getD_some,Array.all_eq_true_iff_forall_mem] at h2
    simp only [ZU,List.mem_map,List.mem_filter] at hp
    obtain ⟨e,⟨he,hb⟩,rfl⟩:=hp
    have:=h2.2 e (by simpa using he)
    simpa [hb] using this
   ·rintro ⟨h1, h2, h3⟩
    refine ⟨h1,?_⟩
    have ho:ops[i]? = some ops[i]:=Array.getElem?_eq_getElem h1
    simp only [Bool.and_eq_true,Bool.not_eq_true',h2,true_and,ho,Option.map_some,Option.getD_some,Array.all_eq_true_iff_forall_mem]
    intro e he
    by_cases hb:Region.binds .any e=true
    ·have := h3 _ ho e.on (by simp only [ZU,List.mem_map,List.mem_filter]; exact ⟨e, ⟨by simpa using he, hb⟩, rfl⟩)
     simp [this]
    ·simp [hb]
  simp only [Region.linearise.go]
  change Chain P G base ((match (Region.ready .any ops listed)[t % (Region.ready .any ops listed).length]? with
   | some i=>Region.linearise.go .any ops fuel (t / (Region.ready .any ops listed).length) (listed.setIfInBounds i true) [i]
   | none=>[].reverse).map _) st st'/\∀ i ∈ (match (Region.ready .any ops listed)[t % (Region.ready .any ops listed).length]? with
   | some i=>Region.linearise.go .any ops fuel (t / (Region.ready .any ops listed).length) (listed.setIfInBounds i true) [i]
   | none=>[].reverse),i < ops.size
  cases hi:(Region.ready .any ops listed)[t % (Region.ready .any ops listed).length]? with
  | none =>
   have hnil:Region.ready .any ops listed=[]:=by
    cases hr:Region.ready .any ops listed with
    | nil=>rfl
    | cons x xs =>
     rw [hr] at hi
     have hlt:t % (x::xs).length < (x::xs).length:=Nat.mod_lt _ (by simp)
     simp at hi
     simp at hlt
     omega
   have he:((List.range ops.size).filter fun i=>!listed.getD i true)=[]:=by
    apply Classical.byContradiction
    intro hne
    -- the least unlisted one is ready
    have hex:∃ i,i < ops.size/\listed.getD i true=false:=by
     obtain ⟨i,hi⟩:=List.exists_mem_of_ne_nil _ hne
     rw [List.mem_filter,List.mem_range] at hi
     exact ⟨i,hi.1,by simpa using hi.2⟩
    have hmin:∀ n,(∃ i,i < n/\i < ops.size/\listed.getD i true=false)->∃ i,i < ops.size/\listed.getD i true=false/\∀ j,j < i->listed.getD j true=true:=by
     intro n
     induction n with
     | zero=>rintro ⟨i,h,_⟩;omega
     | succ n ihn =>
      rintro ⟨i,h,h1,h2⟩
      by_cases hh:∃ i,i < n/\i < ops.size/\listed.getD i true=false
      ·exact ihn hh
      ·refine ⟨i,h1,h2,fun j hj=>?_⟩
       cases hq:listed.getD j true with
       | true=>rfl
       | false=>exact absurd ⟨j,by omega,by omega,hq⟩ hh
    obtain ⟨i0,g1,g2⟩:=hex
    obtain ⟨i,h1,h2,h3⟩:=hmin ops.size ⟨i0,g1,g1,g2⟩
    have:i ∈ Region.ready .any ops listed:=(rdy i).2 ⟨h1,h2,fun o ho p hp=>by
     have hpi:=plt i o ho p hp
     have:=h3 p hpi
     have hps:p < listed.size:=by omega
     simp only [Array.getD_eq_getD_getElem?,Array.getElem?_eq_getElem hps,Option.getD_some] at this ⊢
     exact this⟩
    rw [hnil] at this
    cases this
   rw [he] at hch
   exact ⟨by simpa using hch,fun i hi=>by simp at hi⟩
  | some i =>
   obtain ⟨hio,hiu,hir⟩:=(rdy i).1 (List.mem_of_getElem? hi)
   have hil:i < listed.size:=by omega
   -- the unlisted ones, parted at i
   have hsplit:=range_split ops.size i hio
   have hpi:(fun j=>!listed.getD j true) i=true:=by simp [hiu]
   have hsame:∀ j,j ≠ i->(listed.setIfInBounds i true).getD j true=listed.getD j true:=fun j hj=>by
    rw [Array.getD_eq_getD_getElem?,Array.getD_eq_getD_getElem?,Array.getElem?_setIfInBounds_ne (fun e=>hj e.symm)]
   have hself:(listed.setIfInBounds i true).getD i true=true:=by
    rw [Array.getD_eq_getD_getElem?,Array.getElem?_setIfInBounds_self_of_lt hil];rfl
   have hselfF:(listed.setIfInBounds i true).getD i false=true:=by
    rw [Array.getD_eq_getD_getElem?,Array.getElem?_setIfInBounds_self_of_lt hil];rfl
   have hsameF:∀ j,j ≠ i->(listed.setIfInBounds i true).getD j false=listed.getD j false:=fun j hj=>by
    rw [Array.getD_eq_getD_getElem?,Array.getD_eq_getD_getElem?,Array.getElem?_setIfInBounds_ne (fun e=>hj e.symm)]
   have e1:(List.range ops.size).filter (fun j=>!listed.getD j true)=(List.range i).filter (fun j=>!listed.getD j true)++i::((List.range (ops.size - (i+1))).map (i+1 + ·)).filter (fun j=>!listed.getD j true):=by
    rw [hsplit,List.filter_append,List.filter_cons,if_pos hpi]
   have e2:(List.range ops.size).filter (fun j=>!(listed.setIfInBounds i true).getD j true)=(List.range i).filter (fun j=>!listed.getD j true)++((List.range (ops.size - (i+1))).map (i+1 + ·)).filter (fun j=>!listed.getD j true):=by
    rw [hsplit,List.filter_append,List.filter_cons,hself]
    simp only [Bool.not_true,Bool.false_eq_true,if_false]
    congr 1
    ·apply List.filter_congr
     intro j hj
     rw [hsame j (by have:=List.mem_range.1 hj;omega)]
    ·apply List.filter_congr
     intro j hj
     obtain ⟨q,_,rfl⟩:=List.mem_map.1 hj
     rw [hsame _ (by omega)]
   rw [e1,List.map_append,List.map_cons] at hch
   have hfree:∀ x ∈ ((List.range i).filter (fun j=>!listed.getD j true)).map (fun i=>as_.getD i ⟨none,.mv (.c .unk),none⟩),Y2 x (as_.getD i ⟨none,.mv (.c .unk),none⟩)=true:=fun x hx=>by
    obtain ⟨j,hj,rfl⟩:=List.mem_map.1 hx
    rw [List.mem_filter,List.mem_range] at hj
    have hjn:j < as_.length:=by rw [<- hl];simp;omega
    have hin:i < as_.length:=by rw [<- hl];simpa using hio
    have h4:=d4 i hio j hj.1
    rw [List.getElem?_eq_getElem hjn,List.getElem?_eq_getElem hin] at h4
    have hnot:((ancs ops.toList []).getD i []).contains j=false:=by
     cases hq:((ancs ops.toList []).getD i []).contains j with
     | false=>rfl
     | true =>
      have:=far i hio hir j (by simpa using hq)
      have hjs:j < listed.size:=by omega
      have hu:=hj.2
      simp only [Array.getD_eq_getD_getElem?,Array.getElem?_eq_getElem hjs,Option.getD_some] at this hu
      rw [this] at hu
      cases hu
    rw [hnot] at h4
    simpa [List.getD_eq_getElem?_getD,List.getElem?_eq_getElem hjn,List.getElem?_eq_getElem hin] using h4
   obtain ⟨s1,c1,c2,c3⟩:=Chain.bubble hfree hch
   rw [<- List.map_append,<- e2] at c3
   have hrec := ih (t / (Region.ready .any ops listed).length) (listed.setIfInBounds i true) s1 st' (by simpa using hsz) (fun j hj hlj o ho p hp => by
     by_cases hji:j=i
     ·subst hji
      have hpj:=plt j o ho p hp
      rw [hsameF p (by omega)]
      exact hir o ho p hp
     ·rw [hsame j hji] at hlj
      have:=hcl j hj hlj o ho p hp
      by_cases hpi2:p=i
      ·rw [hpi2];exact hselfF
      ·rw [hsameF p hpi2];exact this) (by
     rw [e2]
     rw [e1] at hfu
     simp only [List.length_append,List.length_cons] at hfu ⊢
     omega) c3
   simp only []
   rw [linearise_go_acc,List.reverse_singleton,List.singleton_append]
   refine ⟨⟨s1,c1,c2,hrec.1⟩,fun j hj=>?_⟩
   rcases List.mem_cons.1 hj with rfl|hj
   ·exact hio
   ·exact hrec.2 j hj
theorem Yp {ops : Array Oper} {as_ : List AI} (hl : ops.toList.length = as_.length) (hd : Xl P ops as_ = true) {k : St -> Prop} {st : St} (h : AWd P G st.H.length as_ k st) (t : Nat) :
  ∃ bs:List AI,bs.length=(Region.schedule (P.follows .mixedOrders) ops t).length/\(∀ (j i:Nat) (ai:AI),(Region.schedule (P.follows .mixedOrders) ops t)[j]? = some i->bs[j]? = some ai->as_[i]? = some ai)/\AWs P G bs k st:=by
 have hdep:(P.follows .mixedOrders || !Region.departs ops)=true:=by
  have:=hd
  simp only [Xl,Bool.and_eq_true] at this
  exact this.1.1.1
 have hs:Region.schedule (P.follows .mixedOrders) ops t=Region.linearise .any ops t:=by
  unfold Region.schedule
  rw [if_pos hdep]
 rw [hs]
 obtain ⟨st',hch,hk⟩:=xv h
 have hfull:((List.range ops.size).filter fun i=>!(Array.replicate ops.size false).getD i true)=List.range ops.size:=by
  rw [List.filter_eq_self]
  intro i hi
  have:=List.mem_range.1 hi
  simp [Array.getD_eq_getD_getElem?,this]
 have hmap:(List.range ops.size).map (fun i=>as_.getD i ⟨none,.mv (.c .unk),none⟩)=as_:=by
  apply List.ext_getElem?
  intro i
  rw [List.getElem?_map]
  by_cases hi:i < ops.size
  ·have hia : i < as_.length := by rw [<- hl]; simpa using hi
   rw [List.getElem?_range hi]
   simp [List.getD_eq_getElem?_getD,List.getElem?_eq_getElem hia]
  ·have hia : as_.length <= i := by rw [<- hl]; simpa using hi
   rw [List.getElem?_eq_none (by simpa using hi),List.getElem?_eq_none hia]
   rfl
 obtain ⟨g1,g2⟩:=lin_chain (P:=P) (G:=G) (base:=st.H.length) hl hd ops.size t (Array.replicate ops.size false) st st' (by simp) (fun i hi hli=>by simp [Array.getD_eq_getD_getElem?,hi] at hli) (by rw [hfull];simp) (by rw [hfull,hmap];exact hch)
 refine ⟨_,?_,?_,Chain.run g1 hk⟩
 ·rw [List.length_map];rfl
 ·intro j i ai hj ha
  have hj':(Region.linearise.go .any ops ops.size t (Array.replicate ops.size false) [])[j]? = some i:=hj
  rw [List.getElem?_map,hj'] at ha
  simp only [Option.map_some,Option.some.injEq] at ha
  have hio:=g2 i (List.mem_of_getElem? hj')
  have hia:i < as_.length:=by rw [<- hl];simpa using hio
  rw [List.getD_eq_getElem?_getD,List.getElem?_eq_getElem hia] at ha
  rw [List.getElem?_eq_getElem hia,<- ha]
  rfl
theorem lin_perm {ops : Array Oper} (d2 : ∀ i o, ops[i]? = some o -> ∀ p ∈ ZU o, p < i) : ∀ (fuel t : Nat) (listed : Array Bool),
  listed.size=ops.size ->
  (∀ i,i < ops.size->listed.getD i true=true->∀ o,ops[i]? = some o->∀ p ∈ ZU o,listed.getD p false=true) ->
  ((List.range ops.size).filter fun i=>!listed.getD i true).length<=fuel ->
  (Region.linearise.go .any ops fuel t listed []).Perm ((List.range ops.size).filter fun i=>!listed.getD i true)/\∀ i ∈ Region.linearise.go .any ops fuel t listed [],∀ o,ops[i]? = some o->∀ p ∈ ZU o,listed.getD p false=true\/List.Sublist [p,i] (Region.linearise.go .any ops fuel t listed []):=by
 intro fuel
 induction fuel with
 | zero =>
  intro t listed hsz hcl hfu
  have he:((List.range ops.size).filter fun i=>!listed.getD i true)=[]:=List.eq_nil_of_length_eq_zero (by omega)
  rw [he]
  exact ⟨by simp [Region.linearise.go],fun i hi=>by simp [Region.linearise.go] at hi⟩
 | succ fuel ih =>
  intro t listed hsz hcl hfu
  have hready:Region.ready .any ops listed=(List.range ops.size).filter fun i=>!listed.getD i true && ((ops[i]?).map (·.after.all fun e=>!Region.binds .any e || listed.getD e.on false)).getD false:=rfl
  have rdy:∀ i,i ∈ Region.ready .any ops listed↔i < ops.size/\listed.getD i true=false/\∀ o,ops[i]? = some o->∀ p ∈ ZU o,listed.getD p false=true:=fun i=>by
   rw [hready,List.mem_filter,List.mem_range]
   constructor
   ·rintro ⟨h1, h2⟩
    simp only [Bool.and_eq_true,Bool.not_eq_true'] at h2
    refine ⟨h1,h2.1,fun o ho p hp=>?_⟩
    rw [ho] at h2
    simp only [Option.map_some,Option.getD_some,Array.all_eq_true_iff_forall_mem] at h2
    simp only [ZU,List.mem_map,List.mem_filter] at hp
    obtain ⟨e,⟨he,hb⟩,rfl⟩:=hp
    have:=h2.2 e (by simpa using he)
    simpa [hb] using this
   ·rintro ⟨h1, h2, h3⟩
    refine ⟨h1,?_⟩
    have ho:ops[i]? = some ops[i]:=Array.getElem?_eq_getElem h1
    simp only [Bool.and_eq_true,Bool.not_eq_true',h2,true_and,ho,Option.map_some,Option.getD_some,Array.all_eq_true_iff_forall_mem]
    intro e he
    by_cases hb:Region.binds .any e=true
    ·have := h3 _ ho e.on (by simp only [ZU,List.mem_map,List.mem_filter]; exact ⟨e, ⟨by simpa using he, hb⟩, rfl⟩)
     simp [this]
    ·simp [hb]
  have hgo:Region.linearise.go .any ops (fuel+1) t listed []=(match (Region.ready .any ops listed)[t % (Region.ready .any ops listed).length]? with
   | some i=>Region.linearise.go .any ops fuel (t / (Region.ready .any ops listed).length) (listed.setIfInBounds i true) [i]
   | none=>[].reverse):=rfl
  rw [hgo]
  cases hi:(Region.ready .any ops listed)[t % (Region.ready .any ops listed).length]? with
  | none =>
   have hnil:Region.ready .any ops listed=[]:=by
    cases hr:Region.ready .any ops listed with
    | nil=>rfl
    | cons x xs =>
     rw [hr] at hi
     have hlt:t % (x::xs).length < (x::xs).length:=Nat.mod_lt _ (by simp)
     simp at hi
     simp at hlt
     omega
   have he:((List.range ops.size).filter fun i=>!listed.getD i true)=[]:=by
    apply Classical.byContradiction
    intro hne
    have hex:∃ i,i < ops.size/\listed.getD i true=false:=by
     obtain ⟨i,hi⟩:=List.exists_mem_of_ne_nil _ hne
     rw [List.mem_filter,List.mem_range] at hi
     exact ⟨i,hi.1,by simpa using hi.2⟩
    have hmin:∀ n,(∃ i,i < n/\i < ops.size/\listed.getD i true=false)->∃ i,i < ops.size/\listed.getD i true=false/\∀ j,j < i->listed.getD j true=true:=by
     intro n
     induction n with
     | zero=>rintro ⟨i,h,_⟩;omega
     | succ n ihn =>
      rintro ⟨i,h,h1,h2⟩
      by_cases hh:∃ i,i < n/\i < ops.size/\listed.getD i true=false
      ·exact ihn hh
      ·refine ⟨i,h1,h2,fun j hj=>?_⟩
       cases hq:listed.getD j true with
       | true=>rfl
       | false=>exact absurd ⟨j,by omega,by omega,hq⟩ hh
    obtain ⟨i0,g1,g2⟩:=hex
    obtain ⟨i,h1,h2,h3⟩:=hmin ops.size ⟨i0,g1,g1,g2⟩
    have:i ∈ Region.ready .any ops listed:=(rdy i).2 ⟨h1,h2,fun o ho p hp=>by
     have hpi:=d2 i o ho p hp
     have:=h3 p hpi
     have hps:p < listed.size:=by omega
     simp only [Array.getD_eq_getD_getElem?,Array.getElem?_eq_getElem hps,Option.getD_some] at this ⊢
     exact this⟩
    rw [hnil] at this
    cases this
   rw [he]
   exact ⟨by simp,fun i hi=>by simp at hi⟩
  | some i =>
   obtain ⟨hio,hiu,hir⟩:=(rdy i).1 (List.mem_of_getElem? hi)
   have hil:i < listed.size:=by omega
   have hsplit:=range_split ops.size i hio
   have hpi:(fun j=>!listed.getD j true) i=true:=by simp [hiu]
   have hsame:∀ j,j ≠ i->(listed.setIfInBounds i true).getD j true=listed.getD j true:=fun j hj=>by
    rw [Array.getD_eq_getD_getElem?,Array.getD_eq_getD_getElem?,Array.getElem?_setIfInBounds_ne (fun e=>hj e.symm)]
   have hself:(listed.setIfInBounds i true).getD i true=true:=by
    rw [Array.getD_eq_getD_getElem?,Array.getElem?_setIfInBounds_self_of_lt hil];rfl
   have hselfF:(listed.setIfInBounds i true).getD i false=true:=by
    rw [Array.getD_eq_getD_getElem?,Array.getElem?_setIfInBounds_self_of_lt hil];rfl
   have hsameF:∀ j,j ≠ i->(listed.setIfInBounds i true).getD j false=listed.getD j false:=fun j hj=>by
    rw [Array.getD_eq_getD_getElem?,Array.getD_eq_getD_getElem?,Array.getElem?_setIfInBounds_ne (fun e=>hj e.symm)]
   have e1:(List.range ops.size).filter (fun j=>!listed.getD j true)=(List.range i).filter (fun j=>!listed.getD j true)++i::((List.range (ops.size - (i+1))).map (i+1 + ·)).filter (fun j=>!listed.getD j true):=by
    rw [hsplit,List.filter_append,List.filter_cons,if_pos hpi]
   have e2:(List.range ops.size).filter (fun j=>!(listed.setIfInBounds i true).getD j true)=(List.range i).filter (fun j=>!listed.getD j true)++((List.range (ops.size - (i+1))).map (i+1 + ·)).filter (fun j=>!listed.getD j true):=by
    rw [hsplit,List.filter_append,List.filter_cons,hself]
    simp only [Bool.not_true,Bool.false_eq_true,if_false]
    congr 1
    ·apply List.filter_congr
     intro j hj
     rw [hsame j (by have:=List.mem_range.1 hj;omega)]
    ·apply List.filter_congr
     intro j hj
     obtain ⟨q,_,rfl⟩:=List.mem_map.1 hj
     rw [hsame _ (by omega)]
   have hrec := ih (t / (Region.ready .any ops listed).length) (listed.setIfInBounds i true) (by simpa using hsz) (fun j hj hlj o ho p hp => by
     by_cases hji:j=i
     ·subst hji
      have hpj:=d2 j o ho p hp
      rw [hsameF p (by omega)]
      exact hir o ho p hp
     ·rw [hsame j hji] at hlj
      have:=hcl j hj hlj o ho p hp
      by_cases hpi2:p=i
      ·rw [hpi2];exact hselfF
      ·rw [hsameF p hpi2];exact this) (by
     rw [e2]
     rw [e1] at hfu
     simp only [List.length_append,List.length_cons] at hfu ⊢
     omega)
   simp only []
   rw [linearise_go_acc,List.reverse_singleton,List.singleton_append]
   refine ⟨?_,fun j hj o ho p hp=>?_⟩
   ·rw [e1]
    exact ((hrec.1.trans (by rw [e2])).cons i).trans List.perm_middle.symm
   ·rcases List.mem_cons.1 hj with rfl | hj
    ·exact .inl (hir o ho p hp)
    ·rcases hrec.2 j hj o ho p hp with h | h
     ·by_cases hpi2 : p = i
      ·subst hpi2
       exact .inr (List.Sublist.cons_cons _ (List.singleton_sublist.2 hj))
      ·rw [hsameF p hpi2] at h;exact .inl h
     ·exact .inr (h.cons i)
theorem Xs:∀ {L:List Nat} {x p i:Nat},L.Nodup->List.Sublist [x,p] L->List.Sublist [p,i] L->List.Sublist [x,i] L
 | [],x,p,i,_,h,_=>by cases h
 | a::L,x,p,i,hn,h,k=>by
  have hn':=List.nodup_cons.1 hn
  cases h with
  | cons _ h =>
   have hp:p ∈ L:=h.subset (by simp)
   cases k with
   | cons _ k=>exact (Xs hn'.2 h k).cons a
   | cons_cons _ k=>exact absurd hp hn'.1
  | cons_cons _ h =>
   have hp:p ∈ L:=List.singleton_sublist.1 h
   cases k with
   | cons _ k=>exact List.Sublist.cons_cons _ (List.singleton_sublist.2 (k.subset (by simp)))
   | cons_cons _ k=>exact absurd hp hn'.1
theorem Xt {L:List Nat} {x i:Nat} (hn:L.Nodup) (h:List.Sublist [x,i] L):¬ List.Sublist [i,x] L:=fun k=>by
 have:=(Xs hn h k)
 have:=this.nodup hn
 simp at this
theorem Chain.perm {base:Nat} {f:Nat->AI}:∀ (L R:List Nat),R.Perm L->(∀ x i,List.Sublist [x,i] R->List.Sublist [i,x] L->Y2 (f x) (f i)=true)->∀ {st st':St},Chain P G base (R.map f) st st'->Chain P G base (L.map f) st st'
 | [],R,hp,_,st,st',h=>by
  rw [hp.eq_nil] at h
  exact h
 | l::L,R,hp,hf,st,st',h=>by
  obtain ⟨R1,R2,rfl⟩:=List.append_of_mem (hp.mem_iff.2 (List.mem_cons_self))
  have hp2:(R1++R2).Perm L:=(List.perm_middle.symm.trans hp).cons_inv
  rw [List.map_append,List.map_cons] at h
  obtain ⟨s1,c1,c2,c3⟩:=Chain.bubble (fun y hy=>by
   obtain ⟨x,hx,rfl⟩:=List.mem_map.1 hy
   refine hf x l ?_ ?_
   ·exact List.Sublist.append (l₁:=[x]) (r₁:=[l]) (List.singleton_sublist.2 hx) (List.Sublist.cons_cons _ (List.nil_sublist _))
   ·exact List.Sublist.cons_cons _ (List.singleton_sublist.2 (hp2.mem_iff.1 (List.mem_append_left _ hx)))) h
  rw [<- List.map_append] at c3
  refine ⟨s1,c1,c2,Chain.perm L (R1++R2) hp2 (fun x i h1 h2=>hf x i (h1.trans ?_) (h2.cons l)) c3⟩
  exact List.Sublist.append (List.Sublist.refl _) (List.sublist_cons_self _ _)
end
def XK:List Nat->List (Nat × Nat)
 | []=>[]
 | x::xs=>xs.map (x,·)++XK xs
theorem mem_pairs:∀ {L:List Nat} {x i:Nat},(x,i) ∈ XK L↔List.Sublist [x,i] L
 | [],x,i=>⟨fun h=>(by cases h),fun h=>(by cases h)⟩
 | a::L,x,i=>by
  simp only [XK,List.mem_append,List.mem_map,Prod.mk.injEq]
  constructor
  ·rintro (⟨y, hy, rfl, rfl⟩ | h)
   ·exact List.Sublist.cons_cons _ (List.singleton_sublist.2 hy)
   ·exact (mem_pairs.1 h).cons a
  ·intro h
   cases h with
   | cons _ h=>exact .inr (mem_pairs.2 h)
   | cons_cons _ h=>exact .inl ⟨i,List.singleton_sublist.1 h,rfl,rfl⟩
def wS:Nat->List Nat->List (List Nat)
 | 0,_=>[[]]
 | n+1,l=>if l=[] then [[]] else l.flatMap fun x=>(wS n (l.erase x)).map (x :: ·)
theorem mem_perms:∀ (n:Nat) (l s:List Nat),l.length<=n->s.Perm l->s ∈ wS n l
 | 0,l,s,hl,hp=>by
  have:l=[]:=List.eq_nil_of_length_eq_zero (by omega)
  subst this
  rw [hp.eq_nil]
  simp [wS]
 | n+1,l,s,hl,hp=>by
  simp only [wS]
  split
  ·rename_i h
   subst h
   rw [hp.eq_nil]
   simp
  ·rename_i h
   cases s with
   | nil=>exact absurd hp.symm.eq_nil h
   | cons x s =>
    have hx:x ∈ l:=hp.mem_iff.1 (by simp)
    refine List.mem_flatMap.2 ⟨x,hx,List.mem_map.2 ⟨s,mem_perms n _ _ ?_ ?_,rfl⟩⟩
    ·rw [List.length_erase_of_mem hx];omega
    ·exact (List.cons_perm_iff_perm_erase.1 hp).2
def y8 (ops:Array Oper) (as_:List AI) (T:List (List Nat)):List Nat :=
 (List.range ops.size).filter fun i=>(List.range ops.size).any fun x=>x != i && !(T.getD i []).contains x && !(T.getD x []).contains i && !(match as_[x]?,as_[i]? with|some a,some b=>Y2 a b && Y2 b a|_,_=>false)
def topo (n:Nat) (T:List (List Nat)) (s:List Nat):Nat->List Nat->List Nat
 | 0,acc=>acc
 | fuel+1,acc =>
  match (List.range n).find? fun i=>!acc.contains i && (T.getD i []).all (acc.contains ·) && (!s.contains i || (s.takeWhile (· != i)).all (acc.contains ·)) with
  | some i=>topo n T s fuel (acc++[i])
  | none=>acc
def badPerm (T:List (List Nat)) (s:List Nat):Bool:=(XK s).any fun (x,i)=>(T.getD x []).contains i
def goodRep (n:Nat) (as_:List AI) (T:List (List Nat)) (s R:List Nat):Bool :=
 R.isPerm (List.range n) && (XK R).all fun (x,i)=>(T.getD i []).contains x || (XK s).contains (x,i) || (match as_[x]?,as_[i]? with|some a,some b=>Y2 a b|_,_=>false)
def xQ (ops:Array Oper):List (List Nat):=ancs ops.toList []
def theS (ops:Array Oper) (as_:List AI):List (List Nat):=(wS (y8 ops as_ (xQ ops)).length (y8 ops as_ (xQ ops))).filter fun s=>!badPerm (xQ ops) s
def theR (ops:Array Oper) (as_:List AI):List (List Nat):=(theS ops as_).map fun s=>topo ops.size (xQ ops) s ops.size []
def uniq:List (List Nat)->List (List Nat)
 | []=>[]
 | x::xs=>if xs.contains x then uniq xs else x::uniq xs
theorem YW:∀ {l:List (List Nat)} {x:List Nat},x ∈ l->x ∈ uniq l
 | y::l,x,h=>by
  simp only [uniq]
  split
  ·rename_i hc
   rcases List.mem_cons.1 h with rfl|h
   ·exact YW (by simpa using hc)
   ·exact YW h
  ·rcases List.mem_cons.1 h with rfl | h
   ·exact List.mem_cons_self
   ·exact List.mem_cons_of_mem _ (YW h)
def aiAt (as_:List AI) (i:Nat):AI:=as_.getD i ⟨none,.mv (.c .unk),none⟩
def xm (ops:Array Oper) (as_:List AI):List (List AI):=(uniq (theR ops as_)).map fun R=>R.map (aiAt as_)
def wA (P:Program) (ops:Array Oper) (as_:List AI):Bool :=
 let ps:=ops.toList.map ZU
 let T:=xQ ops
 decide ((y8 ops as_ T).length<=6) && (P.follows .mixedOrders || !Region.departs ops) &&
 (ps.zipIdx.all fun (p,i)=>p.all fun j=>decide (j < i)) &&
 ((List.range ops.size).all fun i=>(T.getD i []).all fun x=>(ps.getD i []).contains x || (ps.getD i []).any fun p=>(T.getD p []).contains x) &&
 (theS ops as_).all fun s=>goodRep ops.size as_ T s (topo ops.size T s ops.size [])
section
variable {P:Program} {G:Nat->AV}
theorem Yc {ops : Array Oper} {as_ : List AI} (hl : ops.toList.length = as_.length) (hd : wA P ops as_ = true) {k : St -> Prop} {st : St} (h : ∀ R ∈ xm ops as_, AWd P G st.H.length R k st) (t : Nat) :
  ∃ bs:List AI,bs.length=(Region.schedule (P.follows .mixedOrders) ops t).length/\(∀ (j i:Nat) (ai:AI),(Region.schedule (P.follows .mixedOrders) ops t)[j]? = some i->bs[j]? = some ai->as_[i]? = some ai)/\AWs P G bs k st:=by
 simp only [wA,Bool.and_eq_true] at hd
 obtain ⟨⟨⟨⟨_,hdep⟩,d2⟩,d3⟩,d5⟩:=hd
 have hs:Region.schedule (P.follows .mixedOrders) ops t=Region.linearise .any ops t:=by
  unfold Region.schedule
  rw [if_pos hdep]
 rw [hs]
 simp only [List.all_eq_true,decide_eq_true_eq,List.mem_range] at d2 d3 d5
 have psat:∀ i o,ops[i]? = some o->(ops.toList.map ZU).getD i []=ZU o:=fun i o ho=>by
  have:ops.toList[i]? = some o:=by simpa using ho
  simp [List.getD_eq_getElem?_getD,this]
 have plt:∀ i o,ops[i]? = some o->∀ p ∈ ZU o,p < i:=fun i o ho p hp=>by
  have hi:ops.toList[i]? = some o:=by simpa using ho
  have:=d2 (ZU o,i) (by
   rw [List.mem_zipIdx_iff_getElem?]
   simp [hi])
  exact this p hp
 have hfull:((List.range ops.size).filter fun i=>!(Array.replicate ops.size false).getD i true)=List.range ops.size:=by
  rw [List.filter_eq_self]
  intro i hi
  have:=List.mem_range.1 hi
  simp [Array.getD_eq_getD_getElem?,this]
 obtain ⟨L,hL⟩:∃ L,L=Region.linearise.go .any ops ops.size t (Array.replicate ops.size false) []:=⟨_,rfl⟩
 have hlin:Region.linearise .any ops t=L:=hL.symm
 rw [hlin]
 obtain ⟨g1,g2⟩:=lin_perm (ops:=ops) plt ops.size t (Array.replicate ops.size false) (by simp) (fun i hi hli=>by simp [Array.getD_eq_getD_getElem?,hi] at hli) (by rw [hfull];simp)
 rw [<- hL,hfull] at g1
 rw [<- hL] at g2
 have hnd:L.Nodup:=g1.nodup_iff.2 List.nodup_range
 have hpre:∀ i ∈ L,∀ o,ops[i]? = some o->∀ p ∈ ZU o,List.Sublist [p,i] L:=fun i hi o ho p hp=>by
  rcases g2 i hi o ho p hp with h|h
  ·exfalso
   by_cases hq:p < ops.size<;>simp [Array.getD_eq_getD_getElem?,hq] at h
  ·exact h
 have far:∀ i,i ∈ L->∀ x ∈ (xQ ops).getD i [],List.Sublist [x,i] L:=by
  intro i
  induction i using Nat.strongRecOn with
  | _ i ihi =>
   intro hiL x hx
   have hi:i < ops.size:=List.mem_range.1 (g1.mem_iff.1 hiL)
   have ho:ops[i]? = some ops[i]:=Array.getElem?_eq_getElem hi
   have h3:=d3 i hi x hx
   rw [psat i _ ho] at h3
   rcases Bool.or_eq_true_iff.1 h3 with h3|h3
   ·exact hpre i hiL _ ho x (by simpa using h3)
   ·obtain ⟨p, hp, hpx⟩ := List.any_eq_true.1 h3
    have hpi:=hpre i hiL _ ho p hp
    exact Xs hnd (ihi p (plt i _ ho p hp) (hpi.subset (by simp)) x (by simpa using hpx)) hpi
 -- how the schedule has the hard ones
 obtain ⟨s,hsdef⟩:∃ s,s=L.filter fun i=>(y8 ops as_ (xQ ops)).contains i:=⟨_,rfl⟩
 have hsub:List.Sublist s L:=by rw [hsdef];exact List.filter_sublist
 have hsp:s.Perm (y8 ops as_ (xQ ops)):=by
  have h1:=g1.filter (fun i=>(y8 ops as_ (xQ ops)).contains i)
  rw [<- hsdef] at h1
  refine h1.trans (.of_eq ?_)
  unfold y8
  apply List.filter_congr
  intro i hi
  rw [Bool.eq_iff_iff]
  simp only [List.contains_iff_mem,List.mem_filter]
  exact ⟨fun h=>h.2,fun h=>⟨hi,h⟩⟩
 have hsS:s ∈ theS ops as_:=by
  unfold theS
  refine List.mem_filter.2 ⟨mem_perms _ _ _ (Nat.le_refl _) hsp,?_⟩
  rw [Bool.not_eq_true']
  cases hq:badPerm (xQ ops) s with
  | false=>rfl
  | true =>
   exfalso
   obtain ⟨⟨x,i⟩,h1,h2⟩:=List.any_eq_true.1 hq
   have hxi:List.Sublist [x,i] L:=(mem_pairs.1 h1).trans hsub
   exact Xt hnd hxi (far x (hxi.subset (by simp)) i (by simpa using h2))
 have hgood:=d5 s hsS
 simp only [goodRep,Bool.and_eq_true,List.all_eq_true] at hgood
 obtain ⟨hRp,hRf⟩:=hgood
 have hRmem:(topo ops.size (xQ ops) s ops.size []).map (aiAt as_) ∈ xm ops as_ :=
  List.mem_map.2 ⟨_,YW (List.mem_map.2 ⟨s,hsS,rfl⟩),rfl⟩
 obtain ⟨s1,hch,hk⟩:=xv (h _ hRmem)
 have hfin:=Chain.perm (P:=P) (G:=G) (f:=aiAt as_) L _ ((List.isPerm_iff.1 hRp).trans g1.symm) (fun x i hx hi=>by
  have h1:=hRf (x,i) (mem_pairs.2 hx)
  simp only [Bool.or_eq_true] at h1
  rcases h1 with (h1|h1)|h1
  ·exact absurd hi (Xt hnd (far i (hi.subset (by simp)) x (by simpa using h1)))
  ·exact absurd hi (Xt hnd ((mem_pairs.1 (by simpa using h1)).trans hsub))
  ·split at h1
   ·rename_i a b ha hb
    simpa [aiAt,List.getD_eq_getElem?_getD,ha,hb] using h1
   ·cases h1) hch
 refine ⟨L.map (aiAt as_),by simp,fun j i ai hj ha=>?_,Chain.run hfin hk⟩
 rw [List.getElem?_map,hj] at ha
 simp only [Option.map_some,Option.some.injEq] at ha
 have hio:i < ops.size:=List.mem_range.1 (g1.mem_iff.1 (List.mem_of_getElem? hj))
 have hia:i < as_.length:=by rw [<- hl];simpa using hio
 rw [aiAt,List.getD_eq_getElem?_getD,List.getElem?_eq_getElem hia] at ha
 rw [List.getElem?_eq_getElem hia,<- ha]
 rfl
end
def ZK (P:Program) (hs:List FuncId):Code->Option AC
 | .skip=>some .skip
 | .label _=>some .skip
 | .region _ ops draw =>
  (match xz P hs ops ops.toList with
   | some as_=>if draw then (if Xl P ops as_ then some (.draw as_) else if wA P ops as_ then some (.drawx (xm ops as_)) else none) else some (.region as_)
   | none=>none)
 | .seq a b=>(match ZK P hs a,ZK P hs b with|some x,some y=>some (.seq x y)|_,_=>none)
 | .cond c t e=>(match cx P 0 c,ZK P hs t,ZK P hs e with|some c,some x,some y=>some (.cond c x y)|_,_,_=>none)
 | .block id c=>(match ZK P hs c with|some x=>some (.block id x)|none=>none)
 | .loop c=>(match ZK P hs c with|some x=>some (.loop x)|none=>none)
 | .scope c=>(match ZK P hs c with|some x=>some (.scope x)|none=>none)
 | .exit id=>some (.exit id)
 | .ret=>some .ret
 | _=>none
def EX.out:EX->Exit
 | .n=>.normal
 | .x id=>.exit id
 | .r=>.ret
section
variable {P:Program} {G:Nat->AV} {hs:List FuncId} {B:Bd} {w0:World} {F0 F1:Fz} {O1:Ow}
theorem loop_rounds {c : Code} {ac : AC} (ih : ∀ (Q : EX -> St -> Prop) (Q' : Exit -> Act -> World -> Prop) (st : St) (a : Act) (w : World) (F : Fz) (O : Ow), W P G ac Q st -> Rl G B w0 F0 F1 O1 F O st a w -> (∀ e st' a' w' F' O', Q e st' -> Rl G B w0 F0 F1 O1 F' O' st' a' w' -> Q' e.out a' w') -> c.wp P Q' a w)
  {Q:EX->St->Prop} {Q':Exit->Act->World->Prop} (hQ:∀ e st' a' w' F' O',Q e st'->Rl G B w0 F0 F1 O1 F' O' st' a' w'->Q' e.out a' w') :
  ∀ (n:Nat) (st:St) (a:Act) (w:World) (F:Fz) (O:Ow),Xd (W P G ac) Q n st->Rl G B w0 F0 F1 O1 F O st a w->Code.rounds P c Q' n a w
 | 0,_,_,_,_,_,h,_=>h.elim
 | n+1,st,a,w,F,O,h,hr=>by
  rw [rounds_succ]
  refine ih _ _ st a w F O h hr fun e st' a' w' F' O' he hr'=>?_
  cases e with
  | n=>exact loop_rounds ih hQ n st' a' w' F' O' he hr'
  | x id=>exact hQ (.x id) st' a' w' F' O' he hr'
  | r=>exact hQ .r st' a' w' F' O' he hr'
theorem W_ok : ∀ (c : Code) (ac : AC), ZK P hs c = some ac -> ∀ (Q : EX -> St -> Prop) (Q' : Exit -> Act -> World -> Prop) (st : St) (a : Act) (w : World) (F : Fz) (O : Ow), W P G ac Q st -> Rl G B w0 F0 F1 O1 F O st a w ->
  (∀ e st' a' w' F' O',Q e st'->Rl G B w0 F0 F1 O1 F' O' st' a' w'->Q' e.out a' w')->c.wp P Q' a w:=by
 intro c
 induction c with
 | skip=>intro ac hc Q Q' st a w F O h hr hQ;cases hc;exact wp_skip (hQ .n st a w F O h hr)
 | label l=>intro ac hc Q Q' st a w F O h hr hQ;cases hc;exact wp_label (hQ .n st a w F O h hr)
 | region id ops draw =>
  intro ac hc Q Q' st a w F O h hr hQ
  simp only [ZK] at hc
  split at hc
  ·rename_i as_ has
   cases draw with
   | false =>
    cases hc
    exact region_text has (k:=Q .n) (fun st' a' w' F' O' hk hr'=>hQ .n st' a' w' F' O' hk hr') h hr
   | true =>
    simp only [if_true] at hc
    split at hc
    ·rename_i hd
     cases hc
     exact yJ has (k:=Q .n) (fun st' a' w' F' O' hk hr'=>hQ .n st' a' w' F' O' hk hr') (Yp (ZW has).1 hd h) hr
    ·split at hc
     ·rename_i hd
      cases hc
      exact yJ has (k:=Q .n) (fun st' a' w' F' O' hk hr'=>hQ .n st' a' w' F' O' hk hr') (Yc (ZW has).1 hd h) hr
     ·cases hc
  ·cases hc
 | seq x y ihx ihy =>
  intro ac hc Q Q' st a w F O h hr hQ
  simp only [ZK] at hc
  split at hc
  ·rename_i p q hp hq
   cases hc
   refine wp_seq (ihx p hp _ _ st a w F O h hr fun e st' a' w' F' O' he hr'=>?_)
   cases e with
   | n=>exact ihy q hq Q Q' st' a' w' F' O' he hr' hQ
   | x id=>exact hQ (.x id) st' a' w' F' O' he hr'
   | r=>exact hQ .r st' a' w' F' O' he hr'
  ·cases hc
 | cond c x y ihx ihy =>
  intro ac hc Q Q' st a w F O h hr hQ
  simp only [ZK] at hc
  split at hc
  ·rename_i p q r hp hq hr'
   cases hc
   have ho:=hr.operand 0 c p hp
   simp only [W] at h
   split at h
   ·rename_i b hb
    rw [hb] at ho
    have ho:=ho.pvC rfl
    have e:a.eval c = .bool b:=by generalize a.eval c=q at ho;cases ho;rfl
    cases b
    ·rw [if_neg (by simp)] at h
     exact wp_cond_false e (ihy r hr' Q Q' st a w F O h hr hQ)
    ·rw [if_pos rfl] at h
     exact wp_cond_true e (ihx q hq Q Q' st a w F O h hr hQ)
   ·exact h.elim
  ·cases hc
 | block id c ih =>
  intro ac hc Q Q' st a w F O h hr hQ
  simp only [ZK] at hc
  split at hc
  ·rename_i p hp
   cases hc
   refine wp_block (ih p hp _ _ st a w F O h hr fun e st' a' w' F' O' he hr'=>?_)
   cases e with
   | n=>exact hQ .n st' a' w' F' O' he hr'
   | x id' =>
    simp only [yq] at he
    show (if id'=id then Q' .normal a' w' else Q' (.exit id') a' w')
    by_cases hid:id'=id
    ·rw [if_pos hid] at he ⊢;exact hQ .n st' a' w' F' O' he hr'
    ·rw [if_neg hid] at he ⊢;exact hQ (.x id') st' a' w' F' O' he hr'
   | r=>exact hQ .r st' a' w' F' O' he hr'
  ·cases hc
 | loop c ih =>
  intro ac hc Q Q' st a w F O h hr hQ
  simp only [ZK] at hc
  split at hc
  ·rename_i p hp
   cases hc
   obtain ⟨n,hn⟩:=h
   exact wp_loop_rounds n (loop_rounds (ih p hp) hQ n st a w F O hn hr)
  ·cases hc
 | scope c ih =>
  intro ac hc Q Q' st a w F O h hr hQ
  simp only [ZK] at hc
  split at hc
  ·rename_i p hp
   cases hc
   refine wp_scope_straight (ih p hp Q _ st a w F O h hr fun e st' a' w' F' O' he hr'=>?_)
   have:=hQ e st' a' w' F' O' he hr'
   cases e<;>exact this
  ·cases hc
 | exit id=>intro ac hc Q Q' st a w F O h hr hQ;cases hc;exact wp_exit (hQ (.x id) st a w F O h hr)
 | ret=>intro ac hc Q Q' st a w F O h hr hQ;cases hc;exact wp_ret (hQ .r st a w F O h hr)
 | rangeFunc=>intro ac hc;cases hc
 | goto=>intro ac hc;cases hc
 | refuse=>intro ac hc;cases hc
end
abbrev RS:=Nat × Option (Bool × Nat)
def Yq (P:Program):List ResultVar->Option (List RS)
 | []=>some []
 | .tmp t::rs=>(match Yq P rs with|some ts=>some ((t,none)::ts)|none=>none)
 | .cell a t::rs=>(match P.info? t,P.underlying t,Yq P rs with|some i,some d,some ts=>some ((a,some (ZQ d,i.size))::ts)|_,_,_=>none)
def zS (st:St):List RS->Option (List AV)
 | []=>some []
 | (t,none)::rs=>(match zS st rs with|some vs=>some (st.s.getD t zh::vs)|none=>none)
 | (t,some (g,n))::rs=>(match zo st.H g n (st.s.getD t zh),zS st rs with|some v,some vs=>some (v::vs)|_,_=>none)
structure AF where
 n:Nat
 res:List RS
 body:AC
def zJ (P:Program) (hs:List FuncId) (f:FuncId):Option AF :=
 match P.funcs[f]? with
 | some fn =>
  match fn.body with
  | some c=>(match Yq P fn.results.toList,ZK P hs c with|some ts,some ac=>some ⟨fn.ntmps,ts,ac⟩|_,_=>none)
  | none=>none
 | none=>none
def zj:List AV->AV
 | [a]=>a
 | as_=>.tup as_
def St.init (n:Nat) (as_:List AV) (H:Hp):St:=⟨as_++List.replicate (n - as_.length) zh,H⟩
def RetP (ts:List RS) (r:AV) (e:EX) (st:St):Prop :=
 (e = .n\/e = .r)/\∃ vs,zS st ts=some vs/\∃ rs H',yi st.H vs=some (rs,H')/\zj rs=r
def RetH (ts:List RS) (r:AV) (H':Hp) (e:EX) (st:St):Prop :=
 (e = .n\/e = .r)/\(∃ vs,zS st ts=some vs/\zj vs=r)/\st.H=H'
theorem asAddr_of {P:Program} {t:TypeId} {x y:Value} {w:World} (h:(Instr.loadAt t x).run P w = .ok y w):(do loadVar t (<- asAddr x):Sem Value).run P w = .ok y w:=by
 unfold Instr.loadAt at h
 cases x with
 | pointer p=>cases p with
  | some a=>exact h
  | none=>exact absurd h (by simp [Instr.sureAddr,stuck])
 | _=>exact absurd h (by simp [Instr.sureAddr,stuck])
theorem X9 {P : Program} {G : Nat -> AV} {B : Bd} {w0 : World} {F0 F1 : Fz} {O1 : Ow} {F : Fz} {O : Ow} {st : St} {a : Act} {w : World} (h : Rl G B w0 F0 F1 O1 F O st a w)
  (g:ResultVar->Sem Value) (h1:∀ t,g (.tmp t)=pure (a.tmps.getD t undef)) (h2:∀ x t,g (.cell x t)=(do loadVar t (<- asAddr (a.tmps.getD x undef)))) :
  ∀ (rs:List ResultVar) (ts:List RS) (vs:List AV),Yq P rs=some ts->zS st ts=some vs ->
   ∃ xs,(rs.mapM g).run P w = .ok xs w/\xs.length=vs.length/\∀ (i:Nat) (c:Value) (u:AV),xs[i]? = some c->vs[i]? = some u->VR F O c u
 | [],ts,vs,hc,hv=>by
  cases hc;cases hv
  exact ⟨[],rfl,rfl,fun i c u hc=>by simp at hc⟩
 | .tmp t::rs,ts,vs,hc,hv=>by
  simp only [Yq] at hc
  split at hc
  ·rename_i ts' h'
   cases hc
   simp only [zS] at hv
   split at hv
   ·rename_i vs' hv'
    cases hv
    obtain ⟨xs,e1,e2,e3⟩:=X9 h g h1 h2 rs ts' vs' h' hv'
    refine ⟨a.tmps.getD t undef::xs,?_,by simp [e2],fun i c u hc hu=>?_⟩
    ·rw [List.mapM_cons, h1]
     simp only [Sem.run_bind,Sem.run_pure,Result.andThen_ok,e1]
    ·cases i with
     | zero=>cases hc;cases hu;exact h.slot t
     | succ i=>exact e3 i c u hc hu
   ·cases hv
  ·cases hc
 | .cell x t::rs,ts,vs,hc,hv=>by
  simp only [Yq] at hc
  split at hc
  ·rename_i inf d ts' hi hd h'
   cases hc
   simp only [zS] at hv
   split at hv
   ·rename_i v vs' hl hv'
    cases hv
    obtain ⟨xs,e1,e2,e3⟩:=X9 h g h1 h2 rs ts' vs' h' hv'
    obtain ⟨y,y1,y2⟩:=load_run h.own (h.slot x) hi hd hl
    refine ⟨y::xs,?_,by simp [e2],fun i c u hc hu=>?_⟩
    ·rw [List.mapM_cons, h2, Sem.run_bind, asAddr_of y1]
     simp only [Sem.run_bind,Sem.run_pure,Result.andThen_ok,e1]
    ·cases i with
     | zero=>cases hc;cases hu;exact y2
     | succ i=>exact e3 i c u hc hu
   ·cases hv
  ·cases hc
theorem Z9 {P : Program} {fn : Func} {ts : List RS} {vs : List AV} {G : Nat -> AV} {B : Bd} {w0 : World} {F0 F1 : Fz} {O1 : Ow} {F : Fz} {O : Ow} {st : St} {a : Act} {w : World} (hr : Rl G B w0 F0 F1 O1 F O st a w) (h : Yq P fn.results.toList = some ts) (hv : zS st ts = some vs) :
  ∃ xs:List Value,(results fn a.tmps).run P w = .ok (if h:xs.length=1 then xs[0] else .tuple xs.toArray) w/\xs.length=vs.length/\∀ (i:Nat) (c:Value) (u:AV),xs[i]? = some c->vs[i]? = some u->VR F O c u:=by
 unfold results
 rw [Array.mapM_eq_mapM_toList]
 obtain ⟨xs,e1,e2,e3⟩:=X9 (P:=P) hr (fun|.tmp t=>pure (a.tmps.getD t undef)|.cell x t=>do loadVar t (<- asAddr (a.tmps.getD x undef))) (fun t=>rfl) (fun x t=>rfl) fn.results.toList ts vs h hv
 refine ⟨xs,?_,e2,e3⟩
 simp only [Sem.run_bind,bind_pure_comp,Sem.run_map]
 refine (congrArg (fun r=>(Result.andThen r (fun (a:List Value) w'=>Result.ok a.toArray w')).andThen fun (a:Array Value) w'=>Result.ok (if h:a.size=1 then a[0] else Value.tuple a) w') e1).trans ?_
 simp only [Result.andThen_ok]
 by_cases hl:xs.length=1
 ·simp [hl]
 ·simp [hl]
section
variable {P:Program} {G:Nat->AV} {hs:List FuncId}
theorem YT {F : Fz} {xs : List Value} {rs : List AV} (hl : xs.length = rs.length) (hp : ∀ (i : Nat) (c : Value) (a : AV), xs[i]? = some c -> rs[i]? = some a -> PV F c a) :
  PV F (if h:xs.length=1 then xs[0] else .tuple xs.toArray) (zj rs):=by
 by_cases h1:xs.length=1
 ·rw [dif_pos h1]
  match xs,rs,hl,h1 with
  | [x],[a],_,_=>exact hp 0 x a rfl rfl
 ·rw [dif_neg h1]
  have:zj rs = .tup rs:=by
   match rs with
   | []=>rfl
   | [_]=>simp at hl;omega
   | _::_::_=>rfl
  rw [this]
  exact .tup xs rs hl hp
theorem resOf_vr {F : Fz} {O : Ow} {xs : List Value} {rs : List AV} (hl : xs.length = rs.length) (hp : ∀ (i : Nat) (c : Value) (a : AV), xs[i]? = some c -> rs[i]? = some a -> VR F O c a) :
  VR F O (if h:xs.length=1 then xs[0] else .tuple xs.toArray) (zj rs):=by
 by_cases h1:xs.length=1
 ·rw [dif_pos h1]
  match xs,rs,hl,h1 with
  | [x],[a],_,_=>exact hp 0 x a rfl rfl
 ·rw [dif_neg h1]
  have:zj rs = .tup rs:=by
   match rs with
   | []=>rfl
   | [_]=>simp at hl;omega
   | _::_::_=>rfl
  rw [this]
  exact .tup xs rs hl hp
theorem Yy {B : Bd} {w0 : World} {F0 F : Fz} {O : Ow} {H : Hp} {w : World} (h : Own B w0 F0 F O H w) (hg : GOK G F) {n : Nat} {xs : List Value} {as_ : List AV} (hl : xs.length = as_.length) (hv : ∀ (i : Nat) (c : Value) (a : AV), xs[i]? = some c -> as_[i]? = some a -> VR F O c a) (hB : B.ds = [] := by rfl) :
  Rl G B w0 F0 F O F O (St.init n as_ H) { tmps:=xs.toArray++Array.replicate (n - xs.toArray.size) undef,defers:=[] } w:=by
 refine ⟨h,by simp [St.init,hl],fun t=>?_,hB.symm,hg,Fz.le_refl F,Ow.le_refl O⟩
 simp only [St.init,Array.getD_eq_getD_getElem?,List.getD_eq_getElem?_getD]
 by_cases ht:t < as_.length
 ·rw [Array.getElem?_append_left (by simpa [hl] using ht), List.getElem?_append_left ht]
  have h1:xs[t]? = some (xs[t]'(by omega)):=List.getElem?_eq_getElem (by omega)
  have h2:as_[t]? = some as_[t]:=List.getElem?_eq_getElem ht
  have:=hv t _ _ h1 h2
  simpa [h1,h2] using this
 ·rw [Array.getElem?_append_right (by simp; omega), List.getElem?_append_right (by omega)]
  by_cases ht2:t - as_.length < n - as_.length
  ·simp [hl,ht2,yw]
  ·simp [hl,ht2,yw]
theorem yg {f:FuncId} {af:AF} (hf:zJ P hs f=some af) {as_:List AV} {r:AV} (h:W P G af.body (RetP af.res r) (St.init af.n as_ [])):PC P G f as_ r:=by
 unfold zJ at hf
 split at hf
 ·rename_i fn hfn
  split at hf
  ·rename_i c hc
   split at hf
   ·rename_i ts ac hts hac
    cases hf
    intro w F xs hfr hg hl hv
    have hown:Own (Bd.of w.heap.size) w F F [] [] w:=⟨rfl,fun i d ob hd=>by simp at hd,fun i j d d' hd=>by simp at hd,hfr,Fz.le_refl F,fun b o v hv=>.inl hv,Below.refl _ _,Nat.le_refl _,fun _ h=>h.elim,fun _ h=>h.elim⟩
    refine calls_of_wp hfn hc (W_ok c ac hac _ _ _ _ _ F [] h (Yy hown hg hl fun i c a hc ha=>.p (hv i c a hc ha)) fun e st' a' w' F' O' he hr=>?_)
    obtain ⟨hex,vs,hvs,rs,H',hp,hrs⟩:=he
    obtain ⟨ys,y1,y2,y3⟩:=Z9 hr hts hvs
    obtain ⟨F2,p1,p2,o2,l2⟩:=Yw hr.own y2 y3 hp
    have key:a'.defers=[]/\∃ v,(results fn a'.tmps).run P w' = .ok v w'/\∃ v1 F',(Ending.returned v) = .returned v1/\PV F' v1 r/\F.le F'/\(∀ b o v,F' b o=some v->w'.cell? ⟨b,o,none⟩=some v)/\(∀ b o v,F' b o=some v->F b o=some v\/w.heap.size<=b)/\Below w.heap.size w w':=by
     refine ⟨hr.defs,_,y1,_,F2,rfl,?_,Fz.le_trans hr.leF l2,o2.fr,fun b o v hv=>(o2.new b o v hv).imp id (·.1),o2.below⟩
     rw [<- hrs]
     exact YT (by omega) p1
    rcases hex with rfl|rfl<;>exact key
   ·cases hf
  ·cases hf
 ·cases hf
theorem Yo {f:FuncId} {af:AF} (hf:zJ P hs f=some af) {as_:List AV} {H:Hp} {r:AV} {H':Hp} (h:W P G af.body (RetH af.res r H') (St.init af.n as_ H)):HC P G f as_ H r H':=by
 unfold zJ at hf
 split at hf
 ·rename_i fn hfn
  split at hf
  ·rename_i c hc
   split at hf
   ·rename_i ts ac hts hac
    cases hf
    intro B w0 F0 F O w xs hown0 hg hl hv
    have hown:=hown0.ds []
    refine calls_of_wp hfn hc (W_ok c ac hac _ _ _ _ _ F O h (Yy hown hg hl hv) fun e st' a' w' F' O' he hr=>?_)
    obtain ⟨hex,⟨vs,hvs,hrs⟩,hH⟩:=he
    obtain ⟨ys,y1,y2,y3⟩:=Z9 hr hts hvs
    have key:a'.defers=[]/\∃ v,(results fn a'.tmps).run P w' = .ok v w'/\∃ v1,(Ending.returned v) = .returned v1/\Out B w0 F0 F O r H' v1 w':=by
     refine ⟨hr.defs,_,y1,_,rfl,F',O',?_,by rw [<- hH];exact hr.own.ds B.ds,hr.leF,hr.leO⟩
     rw [<- hrs]
     exact resOf_vr y2 y3
    rcases hex with rfl|rfl<;>exact key
   ·cases hf
  ·cases hf
 ·cases hf
end
theorem rdTa {α} (l:List α):Array.mk l=l.toArray:=rfl
def rdT {x:Option AF} (h : {a:AF // x=some a}:=by (refine ⟨?_,?_⟩;rotate_left;(conv=>lhs;reduce;simp only [Int.reduceOfNat,rdTa]);try rfl)) : {a:AF // x=some a}:=h
section
variable {P:Program} {G:Nat->AV} {Q:EX->St->Prop} {k:St->Prop} {st st':St}
def zt (P:Program) (G:Nat->AV) (o:AI) (st:St):Option St :=
 match o.guard with
 | none=>(match eff P (AX.ev G st.s) st.H o.op with|some (r,H')=>some (st.put o.dst r H')|none=>none)
 | some (t,want) =>
  match st.s.getD t zh with
  | .v (.bool b)=>if b=want then (match eff P (AX.ev G st.s) st.H o.op with|some (r,H')=>some (st.put o.dst r H')|none=>none) else some (st.put o.dst zh st.H)
  | .tup []=>some (st.put o.dst zh st.H)
  | _=>none
theorem Y9 {ev:AX->AV} {H:Hp} {op:AOp} {k:AV->Hp->Prop} {r:AV} {H':Hp} (h:eff P ev H op=some (r,H')) (hk:k r H'):y0 P G ev H op k:=by
 cases op with
 | call f xs=>cases h
 | callh f xs=>cases h
 | callm f xs=>cases h
 | callv x xs=>cases h
 | calli nm x xs=>cases h
 | _=>simp only [y0];rw [h];exact hk
theorem AWi_of {o:AI} (h:zt P G o st=some st') (hk:k st'):AWi P G o st k:=by
 unfold zt at h
 unfold AWi
 split at h
 ·rename_i hg
  try rw [hg]
  split at h
  ·rename_i r H' he;cases h;exact Y9 he hk
  ·cases h
 ·rename_i t want hg
  try rw [hg]
  try simp only
  split at h
  ·rename_i b hb
   try rw [hb]
   try simp only
   split at h
   ·rename_i hbw
    try rw [if_pos hbw]
    split at h
    ·rename_i r H' he;cases h;exact Y9 he hk
    ·cases h
   ·rename_i hbw
    try rw [if_neg hbw]
    cases h;exact hk
  ·rename_i hb
   try rw [hb]
   cases h;exact hk
  ·cases h
theorem ws {o:AI} {os:List AI} (h:zt P G o st=some st') (hk:AWs P G os k st'):AWs P G (o::os) k st:=AWi_of h hk
theorem wd {o:AI} {os:List AI} {base:Nat} (hc:chk G base o st) (h:zt P G o st=some st') (hk:AWd P G base os k st'):AWd P G base (o::os) k st:=⟨hc,AWi_of h hk⟩
theorem ws_call {d:Option Nat} {f:FuncId} {xs:List AX} {os:List AI} {as_ as':List AV} {H1:Hp} {r:AV} (h0:xs.map (AX.ev G st.s)=as_) (h1:yi st.H as_=some (as',H1)) (h2:PC P G f as' r) (hk:AWs P G os k (st.put d r H1)):AWs P G (⟨d,.call f xs,none⟩::os) k st:=⟨as',H1,r,by rw [h0];exact h1,h2,hk⟩
theorem wd_call {d:Option Nat} {f:FuncId} {xs:List AX} {os:List AI} {base:Nat} {as_ as':List AV} {H1:Hp} {r:AV} (hc:chk G base ⟨d,.call f xs,none⟩ st) (h0:xs.map (AX.ev G st.s)=as_) (h1:yi st.H as_=some (as',H1)) (h2:PC P G f as' r) (hk:AWd P G base os k (st.put d r H1)):AWd P G base (⟨d,.call f xs,none⟩::os) k st:=⟨hc,as',H1,r,by rw [h0];exact h1,h2,hk⟩
theorem ws_callh {d:Option Nat} {f:FuncId} {xs:List AX} {os:List AI} {as_:List AV} {H1:Hp} {r:AV} (h0:xs.map (AX.ev G st.s)=as_) (h2:HC P G f as_ st.H r H1) (hk:AWs P G os k (st.put d r H1)):AWs P G (⟨d,.callh f xs,none⟩::os) k st:=⟨r,H1,by rw [h0];exact h2,hk⟩
theorem zw (h:k st):AWs P G [] k st:=h
theorem Ze {base:Nat} (h:k st):AWd P G base [] k st:=h
theorem zP {ops:List AI} (h:AWs P G ops (Q .n) st):W P G (.region ops) Q st:=h
theorem Zk {ops:List AI} (h:AWd P G st.H.length ops (Q .n) st):W P G (.draw ops) Q st:=h
theorem zQ {a b:AC} (h:W P G a (yf (W P G b Q) Q) st):W P G (.seq a b) Q st:=h
theorem zZ {id:Nat} {c:AC} (h:W P G c (yq id Q) st):W P G (.block id c) Q st:=h
theorem Zd (h:Q .n st):W P G .skip Q st:=h
theorem Zp {id:Nat} (h:Q (.x id) st):W P G (.exit id) Q st:=h
theorem Zm (h:Q .r st):W P G .ret Q st:=h
theorem zp (h:k st):yf k Q .n st:=h
theorem Zc {id:Nat} (h:Q (.x id) st):yf k Q (.x id) st:=h
theorem ZH (h:Q .r st):yf k Q .r st:=h
theorem z5 {id:Nat} (h:Q .n st):yq id Q .n st:=h
theorem yQ {id:Nat} (h:Q .r st):yq id Q .r st:=h
theorem z6 {id:Nat} (h:Q .n st):yq id Q (.x id) st:=by
 show (if id=id then Q .n st else Q (.x id) st)
 rw [if_pos rfl];exact h
theorem ks {o:AI} {os:List AI} (h:∀ K:St->Prop,(∀ s,AWs P G os k s->K s)->(match zt P G o st with|some s=>K s|none=>False)):AWs P G (o::os) k st:=by
 have:=h (AWs P G os k) (fun _ h=>h)
 cases hs:zt P G o st with
 | none=>rw [hs] at this;exact this.elim
 | some s=>rw [hs] at this;exact ws hs this
def zy (G:Nat->AV) (base:Nat) (o:AI) (st:St):Bool:=o.op.cls == 0 || (decide (base<=st.H.length) && (o.op.cls == 3 || o.op.cls == 4 || (if o.op.cls == 5 then geB base ((o.op.xs.headD (.c .unk)).ev G st.s) else o.op.xs.all fun x=>ltB base (x.ev G st.s))))
theorem YA {base:Nat} {o:AI} (h:zy G base o st=true):chk G base o st:=by
 simp only [zy,Bool.or_eq_true,beq_iff_eq,Bool.and_eq_true,decide_eq_true_eq] at h
 rcases h with h|⟨h1,h2⟩
 ·exact .inl h
 ·refine .inr ⟨h1,fun hc=>?_,fun hc=>?_⟩
  ·rcases h2 with (h2 | h2) | h2
   ·omega
   ·omega
   ·rw [if_neg (by omega)] at h2;exact h2
  ·rcases h2 with (h2 | h2) | h2
   ·omega
   ·omega
   ·rw [if_pos hc] at h2;exact h2
theorem kd {o:AI} {os:List AI} {base:Nat} (h:∀ K:St->Prop,(∀ s,AWd P G base os k s->K s)->(zy G base o st=true/\match zt P G o st with|some s=>K s|none=>False)):AWd P G base (o::os) k st:=by
 obtain ⟨hc,this⟩:=h (AWd P G base os k) (fun _ h=>h)
 cases hs:zt P G o st with
 | none=>rw [hs] at this;exact this.elim
 | some s=>rw [hs] at this;exact wd (YA hc) hs this
theorem kc {c:AX} {t e:AC} (h:∀ K1 K2:Prop,(W P G t Q st->K1)->(W P G e Q st->K2)->(match c.ev G st.s with|.v (.bool b)=>if b=true then K1 else K2|_=>False)):W P G (.cond c t e) Q st:=by
 have:=h _ _ (fun h=>h) (fun h=>h)
 simp only [W]
 exact this
theorem khs (f:FuncId) (r:AV) (H1:Hp) {d:Option Nat} {xs:List AX} {os:List AI} (h1:HC P G f (xs.map (AX.ev G st.s)) st.H r H1) (h2:AWs P G os k (st.put d r H1)):AWs P G (⟨d,.callh f xs,none⟩::os) k st:=ws_callh rfl h1 h2
theorem kps (f:FuncId) (r:AV) {d:Option Nat} {xs:List AX} {os:List AI} (h0:(xs.map (AX.ev G st.s)).all AV.isP=true) (h1:PC P G f (xs.map (AX.ev G st.s)) r) (h2:AWs P G os k (st.put d r st.H)):AWs P G (⟨d,.call f xs,none⟩::os) k st:=ws_call rfl (xY h0) h1 h2
theorem kpd (f:FuncId) (r:AV) {d:Option Nat} {xs:List AX} {os:List AI} {base:Nat} (hc:zy G base ⟨d,.call f xs,none⟩ st=true) (h0:(xs.map (AX.ev G st.s)).all AV.isP=true) (h1:PC P G f (xs.map (AX.ev G st.s)) r) (h2:AWd P G base os k (st.put d r st.H)):AWd P G base (⟨d,.call f xs,none⟩::os) k st:=wd_call (YA hc) rfl (xY h0) h1 h2
theorem yV {d:Option Nat} {op:AOp} {t:Nat} {want:Bool} {os:List AI} (hb:st.s.getD t zh = .v (.bool want)) (h:AWs P G (⟨d,op,none⟩::os) k st):AWs P G (⟨d,op,some (t,want)⟩::os) k st:=by
 simp only [AWs,AWi] at h ⊢
 simp only [hb,if_true]
 exact h
theorem YF {d:Option Nat} {op:AOp} {t:Nat} {want:Bool} {os:List AI} (hb:st.s.getD t zh = .v (.bool (!want))) (h:AWs P G os k (st.put d zh st.H)):AWs P G (⟨d,op,some (t,want)⟩::os) k st:=by
 simp only [AWs,AWi]
 rw [hb]
 cases want<;>simpa using h
theorem YZ {d:Option Nat} {op:AOp} {t:Nat} {want:Bool} {os:List AI} {base:Nat} (hb:st.s.getD t zh = .v (.bool want)) (h:AWd P G base (⟨d,op,none⟩::os) k st):AWd P G base (⟨d,op,some (t,want)⟩::os) k st:=by
 refine ⟨h.1,?_⟩
 have h2:=h.2
 simp only [AWi] at h2 ⊢
 simp only [hb,if_true]
 exact h2
theorem wW {d:Option Nat} {op:AOp} {t:Nat} {want:Bool} {os:List AI} {base:Nat} (hc:zy G base ⟨d,op,none⟩ st=true) (hb:st.s.getD t zh = .v (.bool (!want))) (h:AWd P G base os k (st.put d zh st.H)):AWd P G base (⟨d,op,some (t,want)⟩::os) k st:=by
 refine ⟨YA hc,?_⟩
 simp only [AWi]
 rw [hb]
 cases want<;>simpa using h
theorem wV {d:Option Nat} {op:AOp} {t:Nat} {want:Bool} {os:List AI} {base:Nat} (hc:zy G base ⟨d,op,none⟩ st=true) (hb:st.s.getD t zh=zh) (h:AWd P G base os k (st.put d zh st.H)):AWd P G base (⟨d,op,some (t,want)⟩::os) k st:=by
 refine ⟨YA hc,?_⟩
 simp only [AWi]
 rw [hb]
 exact h
theorem ZC {ts:List RS} {r:AV} (h:∀ K:Option (List AV)->Prop,(∀ vs,r=zj vs->K (some vs))->K (zS st ts)):RetH ts r st.H .r st :=
 ⟨.inr rfl,h (fun o=>∃ vs,o=some vs/\zj vs=r) (fun vs hv=>⟨vs,rfl,hv.symm⟩),rfl⟩
theorem xu:∀ (c:AC) {Q Q':EX->St->Prop} {st:St},(∀ e st,Q e st->Q' e st)->W P G c Q st->W P G c Q' st:=by
 have ops:∀ (os:List AI) {k k':St->Prop} {st:St},(∀ st,k st->k' st)->AWs P G os k st->AWs P G os k' st:=by
  intro os
  induction os with
  | nil=>intro k k' st h hh;exact h _ hh
  | cons o os ih =>
   intro k k' st h hh
   obtain ⟨s1,h1,h2⟩:=AWi_iff.1 hh
   exact AWi_iff.2 ⟨s1,h1,ih h h2⟩
 have opd:∀ (base:Nat) (os:List AI) {k k':St->Prop} {st:St},(∀ st,k st->k' st)->AWd P G base os k st->AWd P G base os k' st:=by
  intro base os
  induction os with
  | nil=>intro k k' st h hh;exact h _ hh
  | cons o os ih =>
   intro k k' st h hh
   obtain ⟨s1,h1,h2⟩:=AWi_iff.1 hh.2
   exact ⟨hh.1,AWi_iff.2 ⟨s1,h1,ih h h2⟩⟩
 intro c
 induction c with
 | rng=>intro Q Q' st h hh;exact hh.elim
 | skip=>intro Q Q' st h hh;exact h _ _ hh
 | region os=>intro Q Q' st h hh;exact ops os (fun st=>h .n st) hh
 | draw os=>intro Q Q' st h hh;exact opd _ os (fun st=>h .n st) hh
 | drawx reps=>intro Q Q' st h hh R hR;exact opd _ R (fun st=>h .n st) (hh R hR)
 | seq a b iha ihb =>
  intro Q Q' st h hh
  refine iha (fun e st he=>?_) hh
  cases e with
  | n=>exact ihb h he
  | x id=>exact h _ _ he
  | r=>exact h _ _ he
 | cond c t e iht ihe =>
  intro Q Q' st h hh
  simp only [W] at hh ⊢
  split at hh
  ·rename_i b hb
   split at hh
   ·rename_i hbt;rw [if_pos hbt];exact iht h hh
   ·rename_i hbt;rw [if_neg hbt];exact ihe h hh
  ·exact hh.elim
 | block id c ih =>
  intro Q Q' st h hh
  refine ih (fun e st he=>?_) hh
  cases e with
  | n=>exact h _ _ he
  | x id' =>
   simp only [yq] at he ⊢
   split at he
   ·rename_i e;rw [if_pos e];exact h _ _ he
   ·rename_i e;rw [if_neg e];exact h _ _ he
  | r=>exact h _ _ he
 | loop c ih =>
  intro Q Q' st h hh
  obtain ⟨n,hn⟩:=hh
  refine ⟨n,?_⟩
  induction n generalizing st with
  | zero=>exact hn.elim
  | succ n ihn =>
   refine ih (fun e st he=>?_) hn
   cases e with
   | n=>exact ihn he
   | x id=>exact h _ _ he
   | r=>exact h _ _ he
 | scope c ih=>intro Q Q' st h hh;exact ih h hh
 | exit id=>intro Q Q' st h hh;exact h _ _ hh
 | ret=>intro Q Q' st h hh;exact h _ _ hh
theorem w_loop {c:AC} (I:Nat->St->Prop) (m:Nat) (h0:I m st) (round:∀ m st,I m st->W P G c (yf (fun st'=>∃ m',m' < m/\I m' st') Q) st):W P G (.loop c) Q st:=by
 have key:∀ n m st,m < n->I m st->Xd (W P G c) Q n st:=by
  intro n
  induction n with
  | zero=>intro m st h;omega
  | succ n ih =>
   intro m st h hI
   refine xu c (fun e st' he=>?_) (round m st hI)
   cases e with
   | n=>obtain ⟨m',hm,hI'⟩:=he;exact ih m' st' (by omega) hI'
   | x id=>exact he
   | r=>exact he
 exact ⟨m+1,key (m+1) m st (Nat.lt_succ_self m) h0⟩
end
theorem ZN:maxLen=9223372036854775807:=by decide
abbrev I (n:Int):AV:=.v (.int .i64 n)
abbrev Bo (b:Bool):AV:=.v (.bool b)
abbrev S (s:ByteArray):AV:=.v (.string s)
section
variable {P:Program} {t:TypeId} {xo yo:Operand} {a b:Int}
theorem wL:ZS P .add t xo yo (.int .i64 a) (.int .i64 b)=some (.int .i64 (IntKind.i64.wrap (a+b))):=rfl
theorem wI:ZS P .sub t xo yo (.int .i64 a) (.int .i64 b)=some (.int .i64 (IntKind.i64.wrap (a - b))):=rfl
theorem wK:ZS P .mul t xo yo (.int .i64 a) (.int .i64 b)=some (.int .i64 (IntKind.i64.wrap (a * b))):=rfl
theorem bV_eq:ZS P .eql t xo yo (.int .i64 a) (.int .i64 b)=some (.bool (decide (a=b))):=by
 have:(a == b)=decide (a=b):=by by_cases h:a=b<;>simp [h]
 rw [<- this];rfl
theorem bV_ne:ZS P .neq t xo yo (.int .i64 a) (.int .i64 b)=some (.bool (decide (a ≠ b))):=by
 have:(a != b)=decide (a ≠ b):=by by_cases h:a=b<;>simp [h]
 rw [<- this];rfl
theorem bV_lt:ZS P .lss t xo yo (.int .i64 a) (.int .i64 b)=some (.bool (decide (a < b))):=rfl
theorem bV_le:ZS P .leq t xo yo (.int .i64 a) (.int .i64 b)=some (.bool (decide (a<=b))):=rfl
theorem bV_gt:ZS P .gtr t xo yo (.int .i64 a) (.int .i64 b)=some (.bool (decide (b < a))):=rfl
theorem bV_ge:ZS P .geq t xo yo (.int .i64 a) (.int .i64 b)=some (.bool (decide (b<=a))):=rfl
theorem wJ (h:b ≠ 0):ZS P .quo t xo yo (.int .i64 a) (.int .i64 b)=some (.int .i64 (IntKind.i64.wrap (a.tdiv b))):=by
 show zR P (do eqGuard .quo t xo yo (.int .i64 a) (.int .i64 b);Op.intDiv .quo .i64 a b)=_
 unfold Op.intDiv
 rw [if_neg h];rfl
theorem bV_rem (h:b ≠ 0):ZS P .rem t xo yo (.int .i64 a) (.int .i64 b)=some (.int .i64 (a.tmod b)):=by
 show zR P (do eqGuard .rem t xo yo (.int .i64 a) (.int .i64 b);Op.intDiv .rem .i64 a b)=_
 unfold Op.intDiv
 rw [if_neg h];rfl
theorem Wf {x:Bool}:zR P (Op.unary .not (.bool x))=some (.bool (!x)):=rfl
theorem XT:zR P (Op.unary .neg (.int .i64 a))=some (.int .i64 (IntKind.i64.wrap (0 - a))):=rfl
theorem XG {x:Int} (h : -9223372036854775808<=x) (h':x<=9223372036854775807):IntKind.i64.wrap x=x:=IntWalk.i64_in x (by omega)
theorem scal_bool {b:Bool}:Ye (.bool b)=true:=rfl
theorem scal_int {k:IntKind} {n:Int}:Ye (.int k n)=true:=rfl
theorem scal_string {s:ByteArray}:Ye (.string s)=true:=rfl
theorem scal_float {k:FloatKind} {n:Nat}:Ye (.float k n)=true:=rfl
theorem scal_ptr0:Ye (.pointer none)=true:=rfl
theorem scal_ptr {a:Addr}:Ye (.pointer (some a))=false:=rfl
theorem scal_map0:Ye (.map none)=true:=rfl
theorem scal_nilFunc:Ye .nilFunc=true:=rfl
theorem scal_nilIface:Ye .nilIface=true:=rfl
theorem scal_agg {cs:Array Value}:Ye (.agg cs)=false:=rfl
theorem scal_tuple {cs:Array Value}:Ye (.tuple cs)=false:=rfl
theorem scal_slice {a:Option Addr} {n c:Nat}:Ye (.slice a n c)=false:=rfl
end
section
variable {P:Program} {G:Nat->AV} {Q:EX->St->Prop} {k:St->Prop} {st st':St}
theorem kvd (f:FuncId) (cs:List AV) (r:AV) (H1:Hp) {d:Option Nat} {x:AX} {xs:List AX} {os:List AI} {base:Nat} (hc:zy G base ⟨d,.callv x xs,none⟩ st=true) (h0:fnA (x.ev G st.s)=some (f,cs)) (hb:Zs P f=true) (h1:HC P G f (xs.map (AX.ev G st.s)++cs) st.H r H1) (h2:AWd P G base os k (st.put d r H1)):AWd P G base (⟨d,.callv x xs,none⟩::os) k st :=
 ⟨YA hc,f,cs,r,H1,h0,hb,h1,h2⟩
theorem draw_mono {base:Nat} {R:List AI} {k k':St->Prop} (h:∀ s,k s->k' s):∀ {st:St},AWd P G base R k st->AWd P G base R k' st:=by
 induction R with
 | nil=>intro st hh;exact h _ hh
 | cons o os ih =>
  intro st hh
  obtain ⟨s1,h1,h2⟩:=AWi_iff.1 hh.2
  exact ⟨hh.1,AWi_iff.2 ⟨s1,h1,ih h2⟩⟩
theorem draw_to {R:List AI} {st':St} (h1:AWd P G st.H.length R (IsSt st') st) (h:Q .n st'):AWd P G st.H.length R (Q .n) st :=
 draw_mono (fun s hs=>by have e:s=st':=hs;rw [e];exact h) h1
theorem YO {R1 R2:List AI} (st':St) (h1:AWd P G st.H.length R1 (IsSt st') st) (h2:AWd P G st.H.length R2 (IsSt st') st) (h:Q .n st'):W P G (.drawx [R1,R2]) Q st:=fun R hR=>by simp at hR;rcases hR with rfl|rfl<;>exact draw_to (by assumption) h
theorem YN {R1 R2 R3:List AI} (h1:AWd P G st.H.length R1 (Q .n) st) (h2:AWd P G st.H.length R2 (Q .n) st) (h3:AWd P G st.H.length R3 (Q .n) st):W P G (.drawx [R1,R2,R3]) Q st:=fun R hR=>by simp at hR;rcases hR with rfl|rfl|rfl<;>assumption
theorem isSt {s:St}:IsSt s s:=rfl
theorem z8 {α β:Type} (s:Sem α) (f:α->Sem β):zR P (s >>= f)=(zR P s).bind fun a=>zR P (f a):=by
 show zR P (s.bind f)=_
 induction s with
 | pure b=>rfl
 | program k ih=>exact ih P
 | mark m k ih=>exact ih
 | _=>rfl
theorem y7 {α:Type} (a:α):zR P (pure a:Sem α)=some a:=rfl
theorem ZI {t:TypeId} {d:TypeDesc} (h:P.underlying t=some d):zR P (underlying t)=some d:=by
 unfold underlying
 rw [z8]
 show ((some P).bind fun a=>zR P (match a.underlying t with|some d=>pure d|none=>stuck "no such type"))=_
 simp only [Option.bind_some,h]
 rfl
theorem eqC_int {k:IntKind} {a b:Int}:eqC .i (.v (.int k a)) (.v (.int k b))=some (decide (a=b)):=by simp [eqC]
theorem eqC_str {a b:ByteArray}:eqC .s (.v (.string a)) (.v (.string b))=some (decide (a=b)):=rfl
theorem eqC_bool {a b:Bool}:eqC .b (.v (.bool a)) (.v (.bool b))=some (a == b):=rfl
theorem eqCs_nil:Z7 [] [] []=some true:=rfl
theorem xl {c:Kd} {ks:List Kd} {a b:AV} {as_ bs:List AV} {x:Bool} (h:eqC c a b=some x):Z7 (c::ks) (a::as_) (b::bs)=(Z7 ks as_ bs).map (x && ·):=by
 simp only [Z7,h]
 cases Z7 ks as_ bs<;>rfl
theorem eqCs_int {ks:List Kd} {k:IntKind} {a b:Int} {as_ bs:List AV}:Z7 (.i::ks) (.v (.int k a)::as_) (.v (.int k b)::bs)=(Z7 ks as_ bs).map (decide (a=b) && ·):=xl eqC_int
theorem eqCs_str {ks:List Kd} {a b:ByteArray} {as_ bs:List AV}:Z7 (.s::ks) (.v (.string a)::as_) (.v (.string b)::bs)=(Z7 ks as_ bs).map (decide (a=b) && ·):=xl eqC_str
theorem eqCs_bool {ks:List Kd} {a b:Bool} {as_ bs:List AV}:Z7 (.b::ks) (.v (.bool a)::as_) (.v (.bool b)::bs)=(Z7 ks as_ bs).map ((a == b) && ·):=xl eqC_bool
theorem eqsA_t {ks:List Kd} {as_ bs:List AV}:XE false ks (.agg as_) (.agg bs)=(Z7 ks as_ bs).map fun r=>.v (.bool r):=by
 simp only [XE];cases Z7 ks as_ bs<;>rfl
theorem eqsA_f {ks:List Kd} {as_ bs:List AV}:XE true ks (.agg as_) (.agg bs)=(Z7 ks as_ bs).map fun r=>.v (.bool (!r)):=by
 simp only [XE];cases Z7 ks as_ bs<;>rfl
variable {t:TypeId} {xo yo:Operand} {a b:ByteArray}
theorem bV_seq:ZS P .eql t xo yo (.string a) (.string b)=some (.bool (decide (a=b))):=by
 show some (Value.bool (a.toList == b.toList))=_
 rw [yY]
theorem bV_sne:ZS P .neq t xo yo (.string a) (.string b)=some (.bool (decide (a ≠ b))):=by
 show some (Value.bool (!(a.toList == b.toList)))=_
 rw [yY]
 simp
theorem bV_slt:ZS P .lss t xo yo (.string a) (.string b)=some (.bool (Op.bytesLess a.toList b.toList)):=rfl
theorem bV_sgt:ZS P .gtr t xo yo (.string a) (.string b)=some (.bool (!(Op.bytesLess a.toList b.toList || decide (a=b)))):=by
 show some (Value.bool (!(Op.bytesLess a.toList b.toList || a.toList == b.toList)))=_
 rw [yY]
theorem bV_sle:ZS P .leq t xo yo (.string a) (.string b)=some (.bool (Op.bytesLess a.toList b.toList || decide (a=b))):=by
 show some (Value.bool (Op.bytesLess a.toList b.toList || a.toList == b.toList))=_
 rw [yY]
theorem bV_sge:ZS P .geq t xo yo (.string a) (.string b)=some (.bool (!Op.bytesLess a.toList b.toList)):=rfl
theorem bV_sadd (h:a.size+b.size<=9223372036854775807):ZS P .add t xo yo (.string a) (.string b)=some (.string (a++b)):=by
 show zR P (Op.stringOp .add a b)=_
 have:¬ (((a.size+b.size:Nat):Int) > IntKind.i64.max):=by
  have:IntKind.i64.max=9223372036854775807:=by decide
  omega
 simp only [Op.stringOp,this,if_false]
 rfl
theorem bV_bool (hu:P.underlying t=some .bool) {x y:Bool}:ZS P .eql t xo yo (.bool x) (.bool y)=some (.bool (x == y)):=by
 show zR P (do pure (.bool (<- Op.equal t (.bool x) (.bool y))):Sem Value)=_
 rw [z8,show Op.equal t (.bool x) (.bool y)=Op.equalIn (9999+1) t (.bool x) (.bool y) from rfl,Op.equalIn,z8,ZI hu]
 rfl
theorem bV_bne (hu:P.underlying t=some .bool) {x y:Bool}:ZS P .neq t xo yo (.bool x) (.bool y)=some (.bool (!(x == y))):=by
 show zR P (do pure (.bool (!(<- Op.equal t (.bool x) (.bool y)))):Sem Value)=_
 rw [z8,show Op.equal t (.bool x) (.bool y)=Op.equalIn (9999+1) t (.bool x) (.bool y) from rfl,Op.equalIn,z8,ZI hu]
 rfl
theorem iV_str (hu:P.underlying t=some .string) {k:IntKind} {i:Int} (h0:0<=i) (h1:i.toNat < a.size):zR P (Instr.index t (.string a) (.int k i))=some (.int .u8 (a[i.toNat]'h1).toNat):=by
 unfold Instr.index
 rw [z8]
 show ((some (k,i)).bind _)=_
 simp only [Option.bind_some,z8,ZI hu]
 simp only [if_pos h0]
 rw [getElem?_pos a i.toNat h1]
 rfl
theorem sV_str (hu:P.underlying t=some .string) {lo hi:Option Int} {k1 k2:IntKind} (h0:0<=lo.getD 0) (h1:lo.getD 0<=hi.getD a.size) (h2:hi.getD a.size<=a.size):zR P (Instr.sliceAt t (.string a) (lo.map (.int k1)) (hi.map (.int k2)) none)=some (.string (a.extract (lo.getD 0).toNat (hi.getD a.size).toNat)):=by
 unfold Instr.sliceAt
 rw [z8,ZI hu]
 simp only [Option.bind_some]
 unfold Instr.slice
 rw [z8,ZI hu]
 simp only [Option.bind_some]
 have bnd:∀ (k:IntKind) (i:Int) (y:Nat) (c:BoundsCode),0<=i->i<=y->zR P (Instr.sliceBound (.int k i) y c)=some i.toNat:=fun k i y c g1 g2=>by
  unfold Instr.sliceBound
  rw [z8]
  show ((some (k,i)).bind _)=_
  simp only [Option.bind_some]
  rw [if_pos ⟨g1,g2⟩]
  rfl
 cases lo<;>cases hi<;>simp only [Option.map_none,Option.map_some,Option.getD_none,Option.getD_some,Option.isSome_none,Bool.false_eq_true,if_false] at *
 ·rfl
 ·rename_i h
  simp only [Instr.sliceBounds,z8,Option.bind_some,y7,bnd _ _ _ _ h1 h2,Option.isSome_none,Bool.false_eq_true,if_false]
  rfl
 ·rename_i l
  simp only [Instr.sliceBounds,z8,Option.bind_some,y7,bnd _ _ _ _ h0 h1,Option.isSome_none,Bool.false_eq_true,if_false,Int.toNat_natCast]
 ·rename_i l h
  have e:((h.toNat:Nat):Int)=h:=by omega
  simp only [Instr.sliceBounds,z8,Option.bind_some,y7,bnd _ _ _ _ (Int.le_trans h0 h1) h2,bnd _ _ h.toNat _ h0 (by rw [e];exact h1),Option.isSome_none,Bool.false_eq_true,if_false]
theorem bi_min {ats:Array TypeId} {ty:TypeId} {cs:Array Bool} {x y:Int}:zR P (builtin .min ats ty cs #[.int .i64 x,.int .i64 y])=some (.value (.int .i64 (if y < x then y else x))):=rfl
theorem bi_max {ats:Array TypeId} {ty:TypeId} {cs:Array Bool} {x y:Int}:zR P (builtin .max ats ty cs #[.int .i64 x,.int .i64 y])=some (.value (.int .i64 (if x < y then y else x))):=rfl
theorem cV_int {s d:TypeId} {e:TypeDesc} {k k':IntKind} {n:Int} (hs:P.underlying s=some e) (hd:P.underlying d=some (.int k)):zR P (convert s d (.int k' n))=some (.int k (k.wrap n)):=by
 unfold convert
 rw [z8,ZI hs]
 simp only [Option.bind_some,z8,ZI hd]
 rfl
theorem YL {c:AC} {Q:EX->St->Prop} {st:St} (I:Nat->St->Prop) (n:Nat) (h0:I 0 st) (round:∀ i st,i < n->I i st->W P G c (yf (I (i+1)) Q) st) (last:∀ st,I n st->W P G c (yf (fun _=>False) Q) st):W P G (.loop c) Q st:=by
 refine w_loop (fun m st=>∃ i,i+m=n/\I i st) n ⟨0,by omega,h0⟩ ?_
 rintro m st ⟨i,hi,hI⟩
 by_cases hn:i < n
 ·refine xu c (fun e st' he=>?_) (round i st hn hI)
  cases e with
  | n=>exact ⟨m - 1,by omega,i+1,by omega,he⟩
  | x id=>exact he
  | r=>exact he
 ·have : i = n := by omega
  subst this
  refine xu c (fun e st' he=>?_) (last st hI)
  cases e with
  | n=>exact he.elim
  | x id=>exact he
  | r=>exact he
end
def beqV:Value->Value->Bool
 | .bool a,.bool b=>a == b
 | .int k a,.int k' b=>decide (k=k') && decide (a=b)
 | .string a,.string b=>decide (a=b)
 | .pointer none,.pointer none=>true
 | .map none,.map none=>true
 | .nilFunc,.nilFunc=>true
 | .nilIface,.nilIface=>true
 | .func (.func f) a b,.func (.func g) c d=>decide (f=g) && (decide (a.size=0) && decide (b.size=0) && decide (c.size=0) && decide (d.size=0))
 | _,_=>false
def w7 (f:AV->AV->Bool):List AV->List AV->Bool
 | [],[]=>true
 | a::as_,b::bs=>f a b && w7 f as_ bs
 | _,_=>false
def beqA:Nat->AV->AV->Bool
 | 0,_,_=>false
 | n+1,a,b =>
  match a,b with
  | .v x,.v y=>beqV x y
  | .agg as_,.agg bs=>w7 (beqA n) as_ bs
  | .tup as_,.tup bs=>w7 (beqA n) as_ bs
  | .nl k,.nl k'=>decide (k=k')
  | .sl k es,.sl k' es'=>decide (k=k') && w7 (beqA n) es es'
  | .ad k es i o,.ad k' es' i' o'=>(decide (k=k') && decide (i=i') && decide (o=o')) && w7 (beqA n) es es'
  | .ol i g m,.ol i' g' m'=>decide (i=i') && decide (g=g') && decide (m=m')
  | .oa i g e o,.oa i' g' e' o'=>decide (i=i') && decide (g=g') && decide (e=e') && decide (o=o')
  | .oc i g m c,.oc i' g' m' c'=>decide (i=i') && decide (g=g') && decide (m=m') && decide (c=c')
  | .mp i g,.mp i' g'=>decide (i=i') && decide (g=g')
  | .io t i g e o,.io t' i' g' e' o'=>decide (i=i') && decide (g=g') && decide (e=e') && decide (o=o') && decide (t=t')
  | .fn f as_,.fn g bs=>decide (f=g) && w7 (beqA n) as_ bs
  | .unk,.unk=>true
  | _,_=>false
def beqO (a b:OB):Bool:=decide (a.e=b.e) && decide (a.k=b.k) && w7 (beqA 40) a.es b.es && decide (a.g=b.g) && decide (a.fz=b.fz)
def beqH:Hp->Hp->Bool
 | [],[]=>true
 | a::as_,b::bs=>beqO a b && beqH as_ bs
 | _,_=>false
def beqS (a b:St):Bool:=w7 (beqA 40) a.s b.s && beqH a.H b.H
abbrev Tab:=List (Nat × AF)
def Tab.at:Tab->Nat->Option AF
 | [],_=>none
 | (n,a)::t,f=>if n == f then some a else Tab.at t f
def Tab.Ok (P:Program) (hs:List FuncId) (t:Tab):Prop:=∀ f a,t.at f=some a->zJ P hs f=some a/\Zs P f=true
def mthF (P:Program) (t:Nat) (nm:String):Option FuncId :=
 match P.info? t,P.underlying t with
 | some inf,some (.pointer _) =>
  (match inf.methods.find? (·.name == nm) with
   | some m=>if m.path = #[] then (match m.func with|some (f,true)=>if Zs P f=true then some f else none|_=>none) else none
   | none=>none)
 | _,_=>none
def callH (tab:Tab) (ih:AC->St->Option (EX × St)) (f:Nat) (as_:List AV) (H:Hp):Option (AV × Hp) :=
 match tab.at f with
 | some af =>
  match ih af.body (St.init af.n as_ H) with
  | some (.x _,_)=>none
  | some (_,st')=>(match zS st' af.res with|some vs=>some (zj vs,st'.H)|none=>none)
  | none=>none
 | none=>none
def callP (tab:Tab) (ih:AC->St->Option (EX × St)) (f:Nat) (as_:List AV):Option AV :=
 match tab.at f with
 | some af =>
  match ih af.body (St.init af.n as_ []) with
  | some (.x _,_)=>none
  | some (_,st')=>(match zS st' af.res with|some vs=>(match yi st'.H vs with|some (rs,_)=>some (zj rs)|none=>none)|none=>none)
  | none=>none
 | none=>none
section
variable (P:Program) (G:Nat->AV) (tab:Tab)
def runOp (ih:AC->St->Option (EX × St)) (op:AOp) (st:St):Option (AV × Hp) :=
 match op with
 | .call f xs=>(match yi st.H (xs.map (AX.ev G st.s)) with|some (as_,H1)=>(match callP tab ih f as_ with|some r=>some (r,H1)|none=>none)|none=>none)
 | .callh f xs=>callH tab ih f (xs.map (AX.ev G st.s)) st.H
 | .callv x xs=>(match fnA (AX.ev G st.s x) with|some (f,cs)=>callH tab ih f (xs.map (AX.ev G st.s)++cs) st.H|none=>none)
 | .calli nm x xs=>(match AX.ev G st.s x with|.io t i g e off=>(match live st.H i g with|some _=>(match mthF P t nm with|some f=>callH tab ih f (.oa i g e off::xs.map (AX.ev G st.s)) st.H|none=>none)|none=>none)|_=>none)
 | op=>eff P (AX.ev G st.s) st.H op
def runI (ih:AC->St->Option (EX × St)) (o:AI) (st:St):Option St :=
 match o.guard with
 | none=>(match runOp P G tab ih o.op st with|some (r,H')=>some (st.put o.dst r H')|none=>none)
 | some (t,want) =>
  match st.s.getD t zh with
  | .v (.bool b)=>if b=want then (match runOp P G tab ih o.op st with|some (r,H')=>some (st.put o.dst r H')|none=>none) else some (st.put o.dst zh st.H)
  | .tup []=>some (st.put o.dst zh st.H)
  | _=>none
def runL (ih:AC->St->Option (EX × St)):List AI->St->Option St
 | [],st=>some st
 | o::os,st=>(match runI P G tab ih o st with|some st'=>runL ih os st'|none=>none)
def runD (ih:AC->St->Option (EX × St)) (base:Nat):List AI->St->Option St
 | [],st=>some st
 | o::os,st=>if zy G base o st=true then (match runI P G tab ih o st with|some st'=>runD ih base os st'|none=>none) else none
def runC (ih:AC->St->Option (EX × St)):AC->St->Option (EX × St)
 | .skip,st=>some (.n,st)
 | .region ops,st=>(match runL P G tab ih ops st with|some st'=>some (.n,st')|none=>none)
 | .draw ops,st=>(match runD P G tab ih st.H.length ops st with|some st'=>some (.n,st')|none=>none)
 | .drawx [],_=>none
 | .drawx (R::Rs),st=>(match runD P G tab ih st.H.length R st with|some st'=>if (Rs.all fun R=>match runD P G tab ih st.H.length R st with|some s2=>beqS st' s2|none=>false)=true then some (.n,st') else none|none=>none)
 | .seq a b,st=>(match ih a st with|some (.n,st')=>ih b st'|r=>r)
 | .cond c t e,st=>(match c.ev G st.s with|.v (.bool b)=>if b=true then ih t st else ih e st|_=>none)
 | .block id c,st=>(match ih c st with|some (.x i,st')=>if i=id then some (.n,st') else some (.x i,st')|r=>r)
 | .loop c,st=>(match ih c st with|some (.n,st')=>ih (.loop c) st'|r=>r)
 | .scope c,st=>ih c st
 | .exit id,st=>some (.x id,st)
 | .ret,st=>some (.r,st)
 | .rng ..,_=>none
def exec:Nat->AC->St->Option (EX × St)
 | 0=>fun _ _=>none
 | n+1=>runC P G tab (exec n)
end
section
variable {P:Program} {G:Nat->AV} {tab:Tab} {hs:List FuncId}
end
open Go.RowKit Go.ChangeShapes Go.WideShapes
def Zn (P:Program) (t:TypeId):Bool :=
 match P.underlying t with
 | some (.struct _)|some (.array _ _)=>true
 | _=>false
def mkE (b:Bool) (cs:List AV):AV:=if b then .agg cs else cs.headD .unk
inductive ShC (P:Program):TypeId->List AV->Prop
 | bool {t:TypeId} (ht:P.underlying t=some .bool) (b:Bool):ShC P t [.v (.bool b)]
 | int {t:TypeId} {k:IntKind} (ht:P.underlying t=some (.int k)) (n:Int) (hw:(Lit.int k n).wf=true):ShC P t [.v (.int k n)]
 | float {t:TypeId} {k:FloatKind} (ht:P.underlying t=some (.float k)) (b:Nat) (hw:(Lit.float k b).wf=true):ShC P t [.v (.float k b)]
 | string {t:TypeId} (ht:P.underlying t=some .string) (s:ByteArray) (hs:s.size<=maxLen):ShC P t [.v (.string s)]
 | slice {t e:TypeId} (ht:P.underlying t=some (.slice e)) (css:List (List AV)) (hl:css.length<=maxLen) (h:∀ cs ∈ css,ShC P e cs):ShC P t [.sl (P.cellsOf e) (css.map (mkE (Zn P e)))]
 | struct {t:TypeId} {fs:Array Field} (ht:P.underlying t=some (.struct fs)) (ps:List (List AV)) (hl:ps.length=fs.size) (h:∀ (i:Nat) (f:Field) (p:List AV),fs[i]? = some f->ps[i]? = some p->ShC P f.type p):ShC P t ps.flatten
def Ys (P:Program):Nat->List Field->Option Nat
 | o,[]=>some o
 | o,f::fs=>if f.offset=o then Ys P (o+P.cellsOf f.type) fs else none
def okT (P:Program):Nat->TypeId->Bool
 | 0,_=>false
 | d+1,t =>
  match P.underlying t with
  | some .bool|some (.int _)|some (.float _)|some .string=>true
  | some (.slice e)=>okT P d e && decide (0 < P.cellsOf e)
  | some (.struct fs)=>(Ys P 0 fs.toList == some (P.cellsOf t)) && fs.toList.all fun f=>okT P d f.type
  | _=>false
section
variable {H:Type} {enc:TypeId × Value->H} {P:Program} {w:World} {spare:Nat->Bool} {held:Bool}
theorem DataW_trod_float {fuel:Nat} {t:TypeId} {k:FloatKind} {cs:List Value} {x:DataW H × List MemPlace} {base:Nat} (ht:P.underlying t=some (.float k)) (h:DataW.trod enc P w base spare held fuel t cs=some x):∃ b,cs=[.float k b]/\(Lit.float k b).wf=true:=by
 cases fuel with
 | zero=>simp [DataW.trod] at h
 | succ n =>
  unfold DataW.trod at h
  rw [ht] at h
  split at h<;>simp_all
theorem pieces {F : Fz} (P : Program) (cs : List Value) : ∀ (fs : List Field) (o n : Nat), Ys P o fs = some n -> cs.length = n ->
  (∀ f ∈ fs,∃ as_:List AV,((cs.drop f.offset).take (P.cellsOf f.type)).length=as_.length/\as_.length=P.cellsOf f.type/\(∀ a ∈ as_,a.one=true)/\(∀ (i:Nat) (c:Value) (a:AV),((cs.drop f.offset).take (P.cellsOf f.type))[i]? = some c->as_[i]? = some a->PV F c a)/\ShC P f.type as_) ->
  ∃ ps:List (List AV),ps.length=fs.length/\(∀ (i:Nat) (f:Field) (p:List AV),fs[i]? = some f->ps[i]? = some p->ShC P f.type p)/\(cs.drop o).length=ps.flatten.length/\(∀ a ∈ ps.flatten,a.one=true)/\∀ (i:Nat) (c:Value) (a:AV),(cs.drop o)[i]? = some c->ps.flatten[i]? = some a->PV F c a
 | [],o,n,hc,hl,_=>by
  cases hc
  exact ⟨[],rfl,fun i f p hf=>by simp at hf,by simp;omega,fun a ha=>by simp at ha,fun i c a _ ha=>by simp at ha⟩
 | f::fs,o,n,hc,hl,h=>by
  simp only [Ys] at hc
  split at hc
  ·rename_i hof
   subst hof
   obtain ⟨as_,l1,l2,o1,p1,s1⟩:=h f (by simp)
   obtain ⟨ps,q1,q2,q3,q4,q5⟩:=pieces (F:=F) P cs fs _ n hc hl (fun g hg=>h g (by simp [hg]))
   have hsplit:cs.drop f.offset=(cs.drop f.offset).take (P.cellsOf f.type)++cs.drop (f.offset+P.cellsOf f.type):=by
    rw [<- List.drop_drop,List.take_append_drop]
   refine ⟨as_::ps,by simp [q1],fun i g p hg hp=>?_,?_,fun a ha=>?_,fun i c a hci hai=>?_⟩
   ·cases i with
    | zero=>simp at hg hp;subst hg;subst hp;exact s1
    | succ i=>exact q2 i g p (by simpa using hg) (by simpa using hp)
   ·rw [hsplit,List.length_append,l1,q3];simp
   ·rw [List.flatten_cons] at ha
    rcases List.mem_append.1 ha with ha|ha
    ·exact o1 a ha
    ·exact q4 a ha
   ·rw [hsplit] at hci
    rw [List.flatten_cons] at hai
    by_cases hi:i < as_.length
    ·rw [List.getElem?_append_left (by omega)] at hci hai
     exact p1 i c a hci hai
    ·rw [List.getElem?_append_right (by omega)] at hci hai
     rw [l1] at hci
     exact q5 _ c a hci hai
  ·cases hc
theorem trod_av : ∀ (n d : Nat) (t : TypeId) (cs : List Value) (x : DataW H × List MemPlace), DataW.trod enc P w 0 spare held n t cs = some x -> okT P d t = true -> cs.length = P.cellsOf t ->
  ∃ as_:List AV,cs.length=as_.length/\(∀ a ∈ as_,a.one=true)/\(∀ (i:Nat) (c:Value) (a:AV),cs[i]? = some c->as_[i]? = some a->PV (fun b o=>w.cell? ⟨b,o,none⟩) c a)/\ShC P t as_:=by
 intro n
 induction n with
 | zero=>intro d t cs x h;simp [DataW.trod] at h
 | succ n ih =>
  intro d t cs x h hok hlen
  cases d with
  | zero=>cases hok
  | succ d =>
   have one:∀ (y:Value) (a:AV),PV (fun b o=>w.cell? ⟨b,o,none⟩) y a->a.one=true->ShC P t [a]->cs=[y]->∃ as_:List AV,cs.length=as_.length/\(∀ a ∈ as_,a.one=true)/\(∀ (i:Nat) (c:Value) (a:AV),cs[i]? = some c->as_[i]? = some a->PV (fun b o=>w.cell? ⟨b,o,none⟩) c a)/\ShC P t as_:=fun y a hp h1 hs e=>by
    subst e
    refine ⟨[a],rfl,fun b hb=>by simp at hb;subst hb;exact h1,fun i c b hc hb=>?_,hs⟩
    cases i with
    | zero=>simp at hc hb;subst hc;subst hb;exact hp
    | succ i=>simp at hc
   simp only [okT] at hok
   split at hok
   ·rename_i ht
    obtain ⟨b,e,_⟩:=DataW.trod_bool ht h
    exact one _ _ (.v _ rfl) rfl (.bool ht b) e
   ·rename_i k ht
    obtain ⟨m,e,_,hw⟩:=DataW.trod_int ht h
    exact one _ _ (.v _ rfl) rfl (.int ht m hw) e
   ·rename_i k ht
    obtain ⟨m,e,hw⟩:=DataW_trod_float ht h
    exact one _ _ (.v _ rfl) rfl (.float ht m hw) e
   ·rename_i ht
    obtain ⟨s,e,_,hs⟩:=DataW.trod_string ht h
    exact one _ _ (.v _ rfl) rfl (.string ht s hs) e
   ·rename_i e ht
    simp only [Bool.and_eq_true,decide_eq_true_eq] at hok
    rcases DataW.trod_slice ht h with ⟨hcs,_⟩|⟨a,len,cap,elems,rest,m,hm,hcs,_,_,hlc,hcm,hel,hel2,_,_⟩
    ·refine one _ (.sl (P.cellsOf e) []) (.sl none 0 0 _ [] rfl (Nat.le_refl _) (Nat.zero_le _) (fun e he=>by cases he) (fun e he=>by cases he) 0 0 (fun h=>absurd h (Nat.lt_irrefl _)) (fun _ _=>undef) (fun i j hi=>absurd hi (Nat.not_lt_zero _)) (fun i j e a he=>by simp at he)) rfl ?_ hcs
     exact .slice ht [] (Nat.zero_le _) (fun cs hcs=>by cases hcs)
    ·obtain rfl : m = n := by omega
     -- the elements
     have each:∀ i,i < len->∃ ci:List Value,∃ as_:List AV,w.cells? 0 (a.add (i * P.cellsOf e)) (P.cellsOf e)=some ci/\ci.length=P.cellsOf e/\ci.length=as_.length/\(∀ a ∈ as_,a.one=true)/\(∀ (i:Nat) (c:Value) (a:AV),ci[i]? = some c->as_[i]? = some a->PV (fun b o=>w.cell? ⟨b,o,none⟩) c a)/\ShC P e as_:=fun i hi=>by
      have h1:=hel2 i hi
      rw [List.getElem?_eq_getElem (by omega:i < elems.length)] at h1
      obtain ⟨ci,hci,htr⟩:=Option.bind_eq_some_iff.1 h1
      have hcl:=(World.cells?_some hci).2.1
      obtain ⟨as_,q1,q2,q3,q4⟩:=ih d e ci _ htr hok.1 hcl
      exact ⟨ci,as_,hci,hcl,q1,q2,q3,q4⟩
     have pick:∃ (C:Nat->List Value) (A:Nat->List AV),∀ i,i < len->w.cells? 0 (a.add (i * P.cellsOf e)) (P.cellsOf e)=some (C i)/\(C i).length=P.cellsOf e/\(C i).length=(A i).length/\(∀ a ∈ A i,a.one=true)/\(∀ (j:Nat) (c:Value) (a:AV),(C i)[j]? = some c->(A i)[j]? = some a->PV (fun b o=>w.cell? ⟨b,o,none⟩) c a)/\ShC P e (A i):=by
      refine ⟨fun i=>if hi:i < len then (each i hi).choose else [],fun i=>if hi:i < len then (each i hi).choose_spec.choose else [],fun i hi=>?_⟩
      simp only [dif_pos hi]
      exact (each i hi).choose_spec.choose_spec
     obtain ⟨C,A,hCA⟩:=pick
     -- an element as_ a value
     have mkc:∀ i,i < len->(mkE (Zn P e) (A i)).cells=A i:=fun i hi=>by
      obtain ⟨_,c2,c3,c4,_,c6⟩:=hCA i hi
      unfold mkE
      cases hag:Zn P e
      ·have single : ∃ u, A i = [u] := by
        generalize A i=q at c6
        cases c6 with
        | bool=>exact ⟨_,rfl⟩
        | int=>exact ⟨_,rfl⟩
        | float=>exact ⟨_,rfl⟩
        | string=>exact ⟨_,rfl⟩
        | slice=>exact ⟨_,rfl⟩
        | struct ht'=>simp [Zn,ht'] at hag
       obtain ⟨u,hu⟩:=single
       rw [hu] at c4 ⊢
       have:=c4 u (by simp)
       simp only [Bool.false_eq_true,if_false,List.headD_cons]
       cases u<;>first|rfl|cases this
      ·rfl
     have hspot:0 < len->∃ b o,a=⟨b,o,none⟩:=fun hpos=>by
      obtain ⟨c1,c2,_⟩:=hCA 0 hpos
      have h0:=(World.cells?_some c1).2.2 0 hok.2
      obtain ⟨b,o,sp⟩:=a
      have hadd:((⟨b,o,sp⟩:Addr).add (0 * P.cellsOf e)).add 0=⟨b,o,sp⟩:=by simp [Addr.add]
      rw [hadd] at h0
      have hs:sp=none:=by
       cases sp with
       | none=>rfl
       | some q =>
        exfalso
        have hne:(C 0)[0]? ≠ none:=by
         rw [List.getElem?_eq_getElem (by rw [c2];exact hok.2)];simp
        simp only [World.cell?,Option.isSome_some,if_true] at h0
        split at h0<;>exact hne h0.symm
      exact ⟨b,o,by rw [hs]⟩
     refine one _ (.sl (P.cellsOf e) ((List.range len).map fun i=>mkE (Zn P e) (A i))) ?_ rfl ?_ hcs
     ·have mem : ∀ x ∈ (List.range len).map (fun i => mkE (Zn P e) (A i)), ∃ i, i < len /\ x = mkE (Zn P e) (A i) := fun x hx => by
       obtain ⟨i,hi,rfl⟩:=List.mem_map.1 hx
       exact ⟨i,List.mem_range.1 hi,rfl⟩
      have at_:∀ (i:Nat) (x:AV),((List.range len).map (fun i=>mkE (Zn P e) (A i)))[i]? = some x->i < len/\x=mkE (Zn P e) (A i):=fun i x hx=>by
       rw [List.getElem?_map] at hx
       obtain ⟨i',hi',rfl⟩:=Option.map_eq_some_iff.1 hx
       have hl:=(List.getElem?_eq_some_iff.1 hi').1
       rw [List.getElem?_range (by simpa using hl)] at hi'
       cases hi'
       exact ⟨by simpa using hl,rfl⟩
      by_cases hpos:0 < len
      ·obtain ⟨b, o, rfl⟩ := hspot hpos
       refine .sl _ len cap (P.cellsOf e) _ (by simp) hlc hcm (fun x hx=>?_) (fun x hx u hu=>?_) b o (fun _=>rfl) (fun i j=>(C i).getD j undef) (fun i j hi hj=>?_) (fun i j x u hx hu=>?_)
       ·obtain ⟨i, hi, rfl⟩ := mem x hx
        rw [mkc i hi,<- (hCA i hi).2.2.1,(hCA i hi).2.1]
       ·obtain ⟨i, hi, rfl⟩ := mem x hx
        rw [mkc i hi] at hu
        exact (hCA i hi).2.2.2.1 u hu
       ·obtain ⟨c1, c2, _⟩ := hCA i hi
        have:=(World.cells?_some c1).2.2 j hj
        rw [ZM,ZM] at this
        rw [this,List.getD_eq_getElem?_getD,List.getElem?_eq_getElem (by rw [c2];exact hj)]
        rfl
       ·obtain ⟨hi, rfl⟩ := at_ i x hx
        rw [mkc i hi] at hu
        have hjl:=(List.getElem?_eq_some_iff.1 hu).1
        rw [<- (hCA i hi).2.2.1] at hjl
        have:=(hCA i hi).2.2.2.2.1 j (C i)[j] u (List.getElem?_eq_getElem hjl) hu
        simpa [List.getD_eq_getElem?_getD,List.getElem?_eq_getElem hjl] using this
      ·obtain rfl : len = 0 := by omega
       exact .sl _ 0 cap (P.cellsOf e) _ rfl hlc hcm (fun x hx=>by simp at hx) (fun x hx=>by simp at hx) 0 0 (fun h=>absurd h (Nat.lt_irrefl _)) (fun _ _=>undef) (fun i j hi=>absurd hi (Nat.not_lt_zero _)) (fun i j x u hx=>by simp at hx)
     ·have := ShC.slice (P := P) ht ((List.range len).map A) (by simp; omega) (fun cs hcs => by
       obtain ⟨i,hi,rfl⟩:=List.mem_map.1 hcs
       exact (hCA i (List.mem_range.1 hi)).2.2.2.2.2)
      rw [List.map_map] at this
      exact this
   ·rename_i fs ht
    simp only [Bool.and_eq_true,beq_iff_eq,List.all_eq_true] at hok
    obtain ⟨xs,m,hm,_,hcl,hxs,hf⟩:=DataW.trod_struct ht h
    obtain rfl:m=n:=by omega
    obtain ⟨ps,q1,q2,q3,q4,q5⟩:=pieces (F:=fun b o=>w.cell? ⟨b,o,none⟩) P cs fs.toList 0 _ hok.1 hcl (fun f hfm=>by
     obtain ⟨i,hi,hfi⟩:=List.getElem_of_mem hfm
     have hia:fs[i]? = some f:=by
      have:fs.toList[i]? = some f:=by rw [List.getElem?_eq_getElem hi,hfi]
      simpa using this
     have h1:=hf i f hia
     rw [List.getElem?_eq_getElem (by rw [hxs];simpa using hi)] at h1
     have hlen2:((cs.drop f.offset).take (P.cellsOf f.type)).length=P.cellsOf f.type:=by
      -- the field lies inside
      have inside:∀ (gs:List Field) (o n:Nat),Ys P o gs=some n->∀ g ∈ gs,g.offset+P.cellsOf g.type<=n/\o<=n:=by
       intro gs
       induction gs with
       | nil=>intro o n _ g hg;cases hg
       | cons g gs ihg =>
        intro o n hc g' hg'
        simp only [Ys] at hc
        split at hc
        ·rename_i hof
         have le:∀ (gs:List Field) (o n:Nat),Ys P o gs=some n->o<=n:=by
          intro gs
          induction gs with
          | nil=>intro o n hc;cases hc;exact Nat.le_refl _
          | cons g gs ih2 =>
           intro o n hc
           simp only [Ys] at hc
           split at hc
           ·have:=ih2 _ _ hc;omega
           ·cases hc
         have:=le gs _ _ hc
         rcases List.mem_cons.1 hg' with rfl|hg'
         ·omega
         ·have := ihg _ _ hc g' hg'
          omega
        ·cases hc
      have:=(inside fs.toList 0 _ hok.1 f hfm).1
      simp;omega
     obtain ⟨as_,r1,r2,r3,r4⟩:=ih d f.type _ _ h1 (hok.2 f hfm) hlen2
     exact ⟨as_,r1,by omega,r2,r3,r4⟩)
    rw [List.drop_zero] at q3 q5
    refine ⟨ps.flatten,q3,q4,q5,.struct ht ps (by simpa using q1) fun i f p hfi hpi=>q2 i f p (by simpa using hfi) hpi⟩
   ·cases hok
theorem Xw {r : Reach} {b0 : Nat} {t : TypeId} {v : Value} {dd : DataW H} {p : List MemPlace} (hok : okT P 12 t = true) (hval : Value.okWide P w r b0 t v) (hd : DataW.Trod enc P w 0 spare held t v dd p) (hsz : v.cells.size = P.cellsOf t) (hag : Zn P t = true \/ v.oneCell' = true) :
  ∃ as_:List AV,PV (fun b o=>w.cell? ⟨b,o,none⟩) v (mkE (Zn P t) as_)/\ShC P t as_:=by
 obtain ⟨n,hn⟩:=hd
 obtain ⟨as_,q1,q2,q3,q4⟩:=trod_av n 12 t _ _ hn hok (by simpa using hsz)
 refine ⟨as_,?_,q4⟩
 cases hb:Zn P t
 ·have h1 : v.oneCell' = true := hag.resolve_left (by simp [hb])
  have e2:v.cells = #[v]:=by cases v<;>first|rfl|cases h1
  rw [e2] at q1 q3
  match as_,q1 with
  | [a],_=>exact q3 0 v a rfl rfl
 ·have : ∃ cs, v = .agg cs := by
   unfold Zn at hb
   split at hb
   ·rename_i fs ht
    obtain ⟨cs,e,_⟩:=okWide_struct ht hval
    exact ⟨cs,e⟩
   ·rename_i ht
    simp [okT,ht] at hok
   ·cases hb
  obtain ⟨cs,rfl⟩:=this
  have:=PV.agg (F:=fun b o=>w.cell? ⟨b,o,none⟩) cs.toList as_ q1 q2 q3
  simpa [mkE] using this
end
def okN (P:Program) (t:TypeId):Bool :=
 match P.underlying t with
 | some (.struct _)=>true
 | some .bool|some (.int _)|some .string|some (.slice _)=>P.cellsOf t == 1
 | _=>false
section
variable {H:Type} {enc:TypeId × Value->H} {P:Program} {w:World} {spare:Nat->Bool} {held:Bool}
theorem arg_full {r : Reach} {b0 : Nat} {t : TypeId} {v : Value} {dd : DataW H} {p : List MemPlace} (hok : okT P 12 t = true) (hn : okN P t = true) (hval : Value.okWide P w r b0 t v) (hd : DataW.Trod enc P w 0 spare held t v dd p) :
  ∃ as_:List AV,PV (fun b o=>w.cell? ⟨b,o,none⟩) v (mkE (Zn P t) as_)/\ShC P t as_:=by
 unfold okN at hn
 split at hn
 ·rename_i fs ht
  obtain ⟨cs,rfl,hsz⟩:=okWide_struct ht hval
  exact Xw hok hval hd hsz (.inl (by simp [Zn,ht]))
 ·rename_i ht
  obtain ⟨b,rfl⟩:=okWide_bool ht hval
  exact Xw hok hval hd (beq_iff_eq.1 hn).symm (.inr rfl)
 ·rename_i ht
  obtain ⟨b,rfl⟩:=okWide_int ht hval
  exact Xw hok hval hd (beq_iff_eq.1 hn).symm (.inr rfl)
 ·rename_i ht
  obtain ⟨b,rfl⟩:=okWide_string ht hval
  exact Xw hok hval hd (beq_iff_eq.1 hn).symm (.inr rfl)
 ·rename_i ht
  obtain ⟨a,l,c,rfl⟩:=okWide_slice ht hval
  exact Xw hok hval hd (beq_iff_eq.1 hn).symm (.inr rfl)
 ·cases hn
end
theorem pvs_nil {F:Fz}:∀ (i:Nat) (c:Value) (a:AV),([]:List Value)[i]? = some c->([]:List AV)[i]? = some a->PV F c a:=fun i c a hc=>by simp at hc
theorem pvs_cons {F:Fz} {x:Value} {a:AV} {xs:List Value} {as_:List AV} (h:PV F x a) (k:∀ (i:Nat) (c:Value) (a:AV),xs[i]? = some c->as_[i]? = some a->PV F c a):∀ (i:Nat) (c:Value) (b:AV),(x::xs)[i]? = some c->(a::as_)[i]? = some b->PV F c b:=fun i c b hc hb=>by
 cases i with
 | zero=>simp at hc hb;subst hc;subst hb;exact h
 | succ i=>exact k i c b (by simpa using hc) (by simpa using hb)
section
variable {P:Program}
theorem ShC.int_inv {t:TypeId} {k:IntKind} {as_:List AV} (h:ShC P t as_) (ht:P.underlying t=some (.int k)):∃ n,as_=[.v (.int k n)]/\(Lit.int k n).wf=true:=by
 cases h with
 | bool h=>rw [ht] at h;cases h
 | int h n hw=>rw [ht] at h;cases h;exact ⟨n,rfl,hw⟩
 | float h=>rw [ht] at h;cases h
 | string h=>rw [ht] at h;cases h
 | slice h=>rw [ht] at h;cases h
 | struct h=>rw [ht] at h;cases h
theorem ShC.i64_inv {t:TypeId} {as_:List AV} (h:ShC P t as_) (ht:P.underlying t=some (.int .i64)):∃ n,as_=[I n]/\-9223372036854775808<=n/\n<=9223372036854775807:=by
 obtain ⟨n,e,hw⟩:=h.int_inv ht
 have : -9223372036854775808<=n/\n<=9223372036854775807:=by simpa [Lit.wf,IntKind.min,IntKind.max,IntKind.signed,IntKind.bits] using hw
 exact ⟨n,e,this.1,this.2⟩
theorem ShC.u32_inv {t:TypeId} {as_:List AV} (h:ShC P t as_) (ht:P.underlying t=some (.int .u32)):∃ n,as_=[.v (.int .u32 n)]/\0<=n/\n<=4294967295:=by
 obtain ⟨n,e,hw⟩:=h.int_inv ht
 have:0<=n/\n<=4294967295:=by simpa [Lit.wf,IntKind.min,IntKind.max,IntKind.signed,IntKind.bits] using hw
 exact ⟨n,e,this.1,this.2⟩
theorem ShC.str_inv {t:TypeId} {as_:List AV} (h:ShC P t as_) (ht:P.underlying t=some .string):∃ s,as_=[S s]/\s.size<=9223372036854775807:=by
 cases h with
 | bool h=>rw [ht] at h;cases h
 | int h=>rw [ht] at h;cases h
 | float h=>rw [ht] at h;cases h
 | string h s hs=>exact ⟨s,rfl,by rw [<- ZN];exact hs⟩
 | slice h=>rw [ht] at h;cases h
 | struct h=>rw [ht] at h;cases h
theorem ShC.slice_inv {t e:TypeId} {as_:List AV} (h:ShC P t as_) (ht:P.underlying t=some (.slice e)):∃ css:List (List AV),as_=[.sl (P.cellsOf e) (css.map (mkE (Zn P e)))]/\css.length<=9223372036854775807/\∀ cs ∈ css,ShC P e cs:=by
 cases h with
 | bool h=>rw [ht] at h;cases h
 | int h=>rw [ht] at h;cases h
 | float h=>rw [ht] at h;cases h
 | string h=>rw [ht] at h;cases h
 | slice h css hl hh=>rw [ht] at h;cases h;exact ⟨css,rfl,by rw [<- ZN];exact hl,hh⟩
 | struct h=>rw [ht] at h;cases h
theorem ShC.struct_inv {t:TypeId} {fs:Array Field} {as_:List AV} (h:ShC P t as_) (ht:P.underlying t=some (.struct fs)):∃ ps:List (List AV),as_=ps.flatten/\ps.length=fs.size/\∀ (i:Nat) (f:Field) (p:List AV),fs[i]? = some f->ps[i]? = some p->ShC P f.type p:=by
 cases h with
 | bool h=>rw [ht] at h;cases h
 | int h=>rw [ht] at h;cases h
 | float h=>rw [ht] at h;cases h
 | string h=>rw [ht] at h;cases h
 | slice h=>rw [ht] at h;cases h
 | struct h ps hl hh=>rw [ht] at h;cases h;exact ⟨ps,rfl,hl,hh⟩
def ShFs (P:Program):List TypeId->List AV->Prop
 | [],as_=>as_=[]
 | t::ts,as_=>∃ p q,as_=p++q/\ShC P t p/\ShFs P ts q
theorem ShC.fields {t:TypeId} {fs:Array Field} {as_:List AV} (h:ShC P t as_) (ht:P.underlying t=some (.struct fs)) {ts:List TypeId} (hts:fs.toList.map (·.type)=ts):ShFs P ts as_:=by
 obtain ⟨ps,rfl,hl,hh⟩:=h.struct_inv ht
 subst hts
 have key:∀ (gs:List Field) (ps:List (List AV)),ps.length=gs.length->(∀ (i:Nat) (f:Field) (p:List AV),gs[i]? = some f->ps[i]? = some p->ShC P f.type p)->ShFs P (gs.map (·.type)) ps.flatten:=by
  intro gs
  induction gs with
  | nil=>intro ps hl _;rw [List.eq_nil_of_length_eq_zero hl];rfl
  | cons g gs ih =>
   intro ps hl hh
   match ps,hl with
   | p::ps,hl =>
    exact ⟨p,ps.flatten,rfl,hh 0 g p rfl rfl,ih ps (by simpa using hl) fun i f q hf hq=>hh (i+1) f q (by simpa using hf) (by simpa using hq)⟩
 exact key fs.toList ps (by simpa using hl) fun i f p hf hp=>hh i f p (by simpa using hf) hp
end
end Go.Proofs.YtdodckipblafmaaGreatDoor.Sim
namespace Go.Proofs.YtdodckipblafmaaGreatDoor.Sim
open Go.RowKit
theorem z7 {α:Type} (L:List α) (x:α):(L++[x]).length=L.length+1:=by simp
theorem zd {α:Type}:∀ {l:List α} {k:Nat},l.length=k+1->∃ a t,l=a::t/\t.length=k
 | a::t,k,h=>⟨a,t,rfl,by simpa using h⟩
theorem ga {α:Type} {L M:List α} {i:Nat}:(L++M)[L.length+i]? = M[i]?:=by rw [List.getElem?_append_right (by omega)];congr 1;omega
theorem sa {α:Type} {L M:List α} {i:Nat} {y:α}:(L++M).set (L.length+i) y=L++M.set i y:=by rw [List.set_append_right _ _ (by omega)];congr 2;omega
theorem Zz {α:Type} {L:List α} {x0:α}:(L++[x0])[L.length]? = some x0:=by simp
theorem Zy {α:Type} {L:List α} {x0 y:α}:(L++[x0]).set (L.length) y=(L++[y]):=by simp
theorem yF {α:Type} {L:List α} {x0 x1:α}:((L++[x0])++[x1])[L.length]? = some x0:=by simp only [List.append_assoc,List.cons_append,List.nil_append];exact (ga (L:=L) (M:=[x0,x1]) (i:=0)).trans rfl
theorem yA {α:Type} {L:List α} {x0 x1 y:α}:((L++[x0])++[x1]).set (L.length) y=((L++[y])++[x1]):=by simp only [List.append_assoc,List.cons_append,List.nil_append];exact (sa (L:=L) (M:=[x0,x1]) (i:=0) (y:=y)).trans rfl
theorem yE {α:Type} {L:List α} {x0 x1:α}:((L++[x0])++[x1])[L.length+1]? = some x1:=by simp only [List.append_assoc,List.cons_append,List.nil_append];exact (ga (L:=L) (M:=[x0,x1]) (i:=1)).trans rfl
theorem yz {α:Type} {L:List α} {x0 x1 y:α}:((L++[x0])++[x1]).set (L.length+1) y=((L++[x0])++[y]):=by simp only [List.append_assoc,List.cons_append,List.nil_append];exact (sa (L:=L) (M:=[x0,x1]) (i:=1) (y:=y)).trans rfl
theorem gj3_0 {α:Type} {L:List α} {x0 x1 x2:α}:(((L++[x0])++[x1])++[x2])[L.length]? = some x0:=by simp only [List.append_assoc,List.cons_append,List.nil_append];exact (ga (L:=L) (M:=[x0,x1,x2]) (i:=0)).trans rfl
theorem sj3_0 {α:Type} {L:List α} {x0 x1 x2 y:α}:(((L++[x0])++[x1])++[x2]).set (L.length) y=(((L++[y])++[x1])++[x2]):=by simp only [List.append_assoc,List.cons_append,List.nil_append];exact (sa (L:=L) (M:=[x0,x1,x2]) (i:=0) (y:=y)).trans rfl
theorem gj3_1 {α:Type} {L:List α} {x0 x1 x2:α}:(((L++[x0])++[x1])++[x2])[L.length+1]? = some x1:=by simp only [List.append_assoc,List.cons_append,List.nil_append];exact (ga (L:=L) (M:=[x0,x1,x2]) (i:=1)).trans rfl
theorem sj3_1 {α:Type} {L:List α} {x0 x1 x2 y:α}:(((L++[x0])++[x1])++[x2]).set (L.length+1) y=(((L++[x0])++[y])++[x2]):=by simp only [List.append_assoc,List.cons_append,List.nil_append];exact (sa (L:=L) (M:=[x0,x1,x2]) (i:=1) (y:=y)).trans rfl
theorem gj3_2 {α:Type} {L:List α} {x0 x1 x2:α}:(((L++[x0])++[x1])++[x2])[L.length+1+1]? = some x2:=by simp only [List.append_assoc,List.cons_append,List.nil_append];exact (ga (L:=L) (M:=[x0,x1,x2]) (i:=2)).trans rfl
theorem sj3_2 {α:Type} {L:List α} {x0 x1 x2 y:α}:(((L++[x0])++[x1])++[x2]).set (L.length+1+1) y=(((L++[x0])++[x1])++[y]):=by simp only [List.append_assoc,List.cons_append,List.nil_append];exact (sa (L:=L) (M:=[x0,x1,x2]) (i:=2) (y:=y)).trans rfl
theorem gj4_0 {α:Type} {L:List α} {x0 x1 x2 x3:α}:((((L++[x0])++[x1])++[x2])++[x3])[L.length]? = some x0:=by simp only [List.append_assoc,List.cons_append,List.nil_append];exact (ga (L:=L) (M:=[x0,x1,x2,x3]) (i:=0)).trans rfl
theorem sj4_0 {α:Type} {L:List α} {x0 x1 x2 x3 y:α}:((((L++[x0])++[x1])++[x2])++[x3]).set (L.length) y=((((L++[y])++[x1])++[x2])++[x3]):=by simp only [List.append_assoc,List.cons_append,List.nil_append];exact (sa (L:=L) (M:=[x0,x1,x2,x3]) (i:=0) (y:=y)).trans rfl
theorem gj4_1 {α:Type} {L:List α} {x0 x1 x2 x3:α}:((((L++[x0])++[x1])++[x2])++[x3])[L.length+1]? = some x1:=by simp only [List.append_assoc,List.cons_append,List.nil_append];exact (ga (L:=L) (M:=[x0,x1,x2,x3]) (i:=1)).trans rfl
theorem sj4_1 {α:Type} {L:List α} {x0 x1 x2 x3 y:α}:((((L++[x0])++[x1])++[x2])++[x3]).set (L.length+1) y=((((L++[x0])++[y])++[x2])++[x3]):=by simp only [List.append_assoc,List.cons_append,List.nil_append];exact (sa (L:=L) (M:=[x0,x1,x2,x3]) (i:=1) (y:=y)).trans rfl
theorem gj4_2 {α:Type} {L:List α} {x0 x1 x2 x3:α}:((((L++[x0])++[x1])++[x2])++[x3])[L.length+1+1]? = some x2:=by simp only [List.append_assoc,List.cons_append,List.nil_append];exact (ga (L:=L) (M:=[x0,x1,x2,x3]) (i:=2)).trans rfl
theorem sj4_2 {α:Type} {L:List α} {x0 x1 x2 x3 y:α}:((((L++[x0])++[x1])++[x2])++[x3]).set (L.length+1+1) y=((((L++[x0])++[x1])++[y])++[x3]):=by simp only [List.append_assoc,List.cons_append,List.nil_append];exact (sa (L:=L) (M:=[x0,x1,x2,x3]) (i:=2) (y:=y)).trans rfl
theorem gj4_3 {α:Type} {L:List α} {x0 x1 x2 x3:α}:((((L++[x0])++[x1])++[x2])++[x3])[L.length+1+1+1]? = some x3:=by simp only [List.append_assoc,List.cons_append,List.nil_append];exact (ga (L:=L) (M:=[x0,x1,x2,x3]) (i:=3)).trans rfl
theorem sj4_3 {α:Type} {L:List α} {x0 x1 x2 x3 y:α}:((((L++[x0])++[x1])++[x2])++[x3]).set (L.length+1+1+1) y=((((L++[x0])++[x1])++[x2])++[y]):=by simp only [List.append_assoc,List.cons_append,List.nil_append];exact (sa (L:=L) (M:=[x0,x1,x2,x3]) (i:=3) (y:=y)).trans rfl
theorem gj5_0 {α:Type} {L:List α} {x0 x1 x2 x3 x4:α}:(((((L++[x0])++[x1])++[x2])++[x3])++[x4])[L.length]? = some x0:=by simp only [List.append_assoc,List.cons_append,List.nil_append];exact (ga (L:=L) (M:=[x0,x1,x2,x3,x4]) (i:=0)).trans rfl
theorem sj5_0 {α:Type} {L:List α} {x0 x1 x2 x3 x4 y:α}:(((((L++[x0])++[x1])++[x2])++[x3])++[x4]).set (L.length) y=(((((L++[y])++[x1])++[x2])++[x3])++[x4]):=by simp only [List.append_assoc,List.cons_append,List.nil_append];exact (sa (L:=L) (M:=[x0,x1,x2,x3,x4]) (i:=0) (y:=y)).trans rfl
theorem gj5_1 {α:Type} {L:List α} {x0 x1 x2 x3 x4:α}:(((((L++[x0])++[x1])++[x2])++[x3])++[x4])[L.length+1]? = some x1:=by simp only [List.append_assoc,List.cons_append,List.nil_append];exact (ga (L:=L) (M:=[x0,x1,x2,x3,x4]) (i:=1)).trans rfl
theorem sj5_1 {α:Type} {L:List α} {x0 x1 x2 x3 x4 y:α}:(((((L++[x0])++[x1])++[x2])++[x3])++[x4]).set (L.length+1) y=(((((L++[x0])++[y])++[x2])++[x3])++[x4]):=by simp only [List.append_assoc,List.cons_append,List.nil_append];exact (sa (L:=L) (M:=[x0,x1,x2,x3,x4]) (i:=1) (y:=y)).trans rfl
theorem gj5_2 {α:Type} {L:List α} {x0 x1 x2 x3 x4:α}:(((((L++[x0])++[x1])++[x2])++[x3])++[x4])[L.length+1+1]? = some x2:=by simp only [List.append_assoc,List.cons_append,List.nil_append];exact (ga (L:=L) (M:=[x0,x1,x2,x3,x4]) (i:=2)).trans rfl
theorem sj5_2 {α:Type} {L:List α} {x0 x1 x2 x3 x4 y:α}:(((((L++[x0])++[x1])++[x2])++[x3])++[x4]).set (L.length+1+1) y=(((((L++[x0])++[x1])++[y])++[x3])++[x4]):=by simp only [List.append_assoc,List.cons_append,List.nil_append];exact (sa (L:=L) (M:=[x0,x1,x2,x3,x4]) (i:=2) (y:=y)).trans rfl
theorem gj5_3 {α:Type} {L:List α} {x0 x1 x2 x3 x4:α}:(((((L++[x0])++[x1])++[x2])++[x3])++[x4])[L.length+1+1+1]? = some x3:=by simp only [List.append_assoc,List.cons_append,List.nil_append];exact (ga (L:=L) (M:=[x0,x1,x2,x3,x4]) (i:=3)).trans rfl
theorem sj5_3 {α:Type} {L:List α} {x0 x1 x2 x3 x4 y:α}:(((((L++[x0])++[x1])++[x2])++[x3])++[x4]).set (L.length+1+1+1) y=(((((L++[x0])++[x1])++[x2])++[y])++[x4]):=by simp only [List.append_assoc,List.cons_append,List.nil_append];exact (sa (L:=L) (M:=[x0,x1,x2,x3,x4]) (i:=3) (y:=y)).trans rfl
theorem gj5_4 {α:Type} {L:List α} {x0 x1 x2 x3 x4:α}:(((((L++[x0])++[x1])++[x2])++[x3])++[x4])[L.length+1+1+1+1]? = some x4:=by simp only [List.append_assoc,List.cons_append,List.nil_append];exact (ga (L:=L) (M:=[x0,x1,x2,x3,x4]) (i:=4)).trans rfl
theorem sj5_4 {α:Type} {L:List α} {x0 x1 x2 x3 x4 y:α}:(((((L++[x0])++[x1])++[x2])++[x3])++[x4]).set (L.length+1+1+1+1) y=(((((L++[x0])++[x1])++[x2])++[x3])++[y]):=by simp only [List.append_assoc,List.cons_append,List.nil_append];exact (sa (L:=L) (M:=[x0,x1,x2,x3,x4]) (i:=4) (y:=y)).trans rfl
theorem gj6_0 {α:Type} {L:List α} {x0 x1 x2 x3 x4 x5:α}:((((((L++[x0])++[x1])++[x2])++[x3])++[x4])++[x5])[L.length]? = some x0:=by simp only [List.append_assoc,List.cons_append,List.nil_append];exact (ga (L:=L) (M:=[x0,x1,x2,x3,x4,x5]) (i:=0)).trans rfl
theorem sj6_0 {α:Type} {L:List α} {x0 x1 x2 x3 x4 x5 y:α}:((((((L++[x0])++[x1])++[x2])++[x3])++[x4])++[x5]).set (L.length) y=((((((L++[y])++[x1])++[x2])++[x3])++[x4])++[x5]):=by simp only [List.append_assoc,List.cons_append,List.nil_append];exact (sa (L:=L) (M:=[x0,x1,x2,x3,x4,x5]) (i:=0) (y:=y)).trans rfl
theorem gj6_1 {α:Type} {L:List α} {x0 x1 x2 x3 x4 x5:α}:((((((L++[x0])++[x1])++[x2])++[x3])++[x4])++[x5])[L.length+1]? = some x1:=by simp only [List.append_assoc,List.cons_append,List.nil_append];exact (ga (L:=L) (M:=[x0,x1,x2,x3,x4,x5]) (i:=1)).trans rfl
theorem sj6_1 {α:Type} {L:List α} {x0 x1 x2 x3 x4 x5 y:α}:((((((L++[x0])++[x1])++[x2])++[x3])++[x4])++[x5]).set (L.length+1) y=((((((L++[x0])++[y])++[x2])++[x3])++[x4])++[x5]):=by simp only [List.append_assoc,List.cons_append,List.nil_append];exact (sa (L:=L) (M:=[x0,x1,x2,x3,x4,x5]) (i:=1) (y:=y)).trans rfl
theorem gj6_2 {α:Type} {L:List α} {x0 x1 x2 x3 x4 x5:α}:((((((L++[x0])++[x1])++[x2])++[x3])++[x4])++[x5])[L.length+1+1]? = some x2:=by simp only [List.append_assoc,List.cons_append,List.nil_append];exact (ga (L:=L) (M:=[x0,x1,x2,x3,x4,x5]) (i:=2)).trans rfl
theorem sj6_2 {α:Type} {L:List α} {x0 x1 x2 x3 x4 x5 y:α}:((((((L++[x0])++[x1])++[x2])++[x3])++[x4])++[x5]).set (L.length+1+1) y=((((((L++[x0])++[x1])++[y])++[x3])++[x4])++[x5]):=by simp only [List.append_assoc,List.cons_append,List.nil_append];exact (sa (L:=L) (M:=[x0,x1,x2,x3,x4,x5]) (i:=2) (y:=y)).trans rfl
theorem gj6_3 {α:Type} {L:List α} {x0 x1 x2 x3 x4 x5:α}:((((((L++[x0])++[x1])++[x2])++[x3])++[x4])++[x5])[L.length+1+1+1]? = some x3:=by simp only [List.append_assoc,List.cons_append,List.nil_append];exact (ga (L:=L) (M:=[x0,x1,x2,x3,x4,x5]) (i:=3)).trans rfl
theorem sj6_3 {α:Type} {L:List α} {x0 x1 x2 x3 x4 x5 y:α}:((((((L++[x0])++[x1])++[x2])++[x3])++[x4])++[x5]).set (L.length+1+1+1) y=((((((L++[x0])++[x1])++[x2])++[y])++[x4])++[x5]):=by simp only [List.append_assoc,List.cons_append,List.nil_append];exact (sa (L:=L) (M:=[x0,x1,x2,x3,x4,x5]) (i:=3) (y:=y)).trans rfl
theorem gj6_4 {α:Type} {L:List α} {x0 x1 x2 x3 x4 x5:α}:((((((L++[x0])++[x1])++[x2])++[x3])++[x4])++[x5])[L.length+1+1+1+1]? = some x4:=by simp only [List.append_assoc,List.cons_append,List.nil_append];exact (ga (L:=L) (M:=[x0,x1,x2,x3,x4,x5]) (i:=4)).trans rfl
theorem sj6_4 {α:Type} {L:List α} {x0 x1 x2 x3 x4 x5 y:α}:((((((L++[x0])++[x1])++[x2])++[x3])++[x4])++[x5]).set (L.length+1+1+1+1) y=((((((L++[x0])++[x1])++[x2])++[x3])++[y])++[x5]):=by simp only [List.append_assoc,List.cons_append,List.nil_append];exact (sa (L:=L) (M:=[x0,x1,x2,x3,x4,x5]) (i:=4) (y:=y)).trans rfl
theorem gj6_5 {α:Type} {L:List α} {x0 x1 x2 x3 x4 x5:α}:((((((L++[x0])++[x1])++[x2])++[x3])++[x4])++[x5])[L.length+1+1+1+1+1]? = some x5:=by simp only [List.append_assoc,List.cons_append,List.nil_append];exact (ga (L:=L) (M:=[x0,x1,x2,x3,x4,x5]) (i:=5)).trans rfl
theorem sj6_5 {α:Type} {L:List α} {x0 x1 x2 x3 x4 x5 y:α}:((((((L++[x0])++[x1])++[x2])++[x3])++[x4])++[x5]).set (L.length+1+1+1+1+1) y=((((((L++[x0])++[x1])++[x2])++[x3])++[x4])++[y]):=by simp only [List.append_assoc,List.cons_append,List.nil_append];exact (sa (L:=L) (M:=[x0,x1,x2,x3,x4,x5]) (i:=5) (y:=y)).trans rfl
theorem gj7_0 {α:Type} {L:List α} {x0 x1 x2 x3 x4 x5 x6:α}:(((((((L++[x0])++[x1])++[x2])++[x3])++[x4])++[x5])++[x6])[L.length]? = some x0:=by simp only [List.append_assoc,List.cons_append,List.nil_append];exact (ga (L:=L) (M:=[x0,x1,x2,x3,x4,x5,x6]) (i:=0)).trans rfl
theorem sj7_0 {α:Type} {L:List α} {x0 x1 x2 x3 x4 x5 x6 y:α}:(((((((L++[x0])++[x1])++[x2])++[x3])++[x4])++[x5])++[x6]).set (L.length) y=(((((((L++[y])++[x1])++[x2])++[x3])++[x4])++[x5])++[x6]):=by simp only [List.append_assoc,List.cons_append,List.nil_append];exact (sa (L:=L) (M:=[x0,x1,x2,x3,x4,x5,x6]) (i:=0) (y:=y)).trans rfl
theorem gj7_1 {α:Type} {L:List α} {x0 x1 x2 x3 x4 x5 x6:α}:(((((((L++[x0])++[x1])++[x2])++[x3])++[x4])++[x5])++[x6])[L.length+1]? = some x1:=by simp only [List.append_assoc,List.cons_append,List.nil_append];exact (ga (L:=L) (M:=[x0,x1,x2,x3,x4,x5,x6]) (i:=1)).trans rfl
theorem sj7_1 {α:Type} {L:List α} {x0 x1 x2 x3 x4 x5 x6 y:α}:(((((((L++[x0])++[x1])++[x2])++[x3])++[x4])++[x5])++[x6]).set (L.length+1) y=(((((((L++[x0])++[y])++[x2])++[x3])++[x4])++[x5])++[x6]):=by simp only [List.append_assoc,List.cons_append,List.nil_append];exact (sa (L:=L) (M:=[x0,x1,x2,x3,x4,x5,x6]) (i:=1) (y:=y)).trans rfl
theorem gj7_2 {α:Type} {L:List α} {x0 x1 x2 x3 x4 x5 x6:α}:(((((((L++[x0])++[x1])++[x2])++[x3])++[x4])++[x5])++[x6])[L.length+1+1]? = some x2:=by simp only [List.append_assoc,List.cons_append,List.nil_append];exact (ga (L:=L) (M:=[x0,x1,x2,x3,x4,x5,x6]) (i:=2)).trans rfl
theorem sj7_2 {α:Type} {L:List α} {x0 x1 x2 x3 x4 x5 x6 y:α}:(((((((L++[x0])++[x1])++[x2])++[x3])++[x4])++[x5])++[x6]).set (L.length+1+1) y=(((((((L++[x0])++[x1])++[y])++[x3])++[x4])++[x5])++[x6]):=by simp only [List.append_assoc,List.cons_append,List.nil_append];exact (sa (L:=L) (M:=[x0,x1,x2,x3,x4,x5,x6]) (i:=2) (y:=y)).trans rfl
theorem gj7_3 {α:Type} {L:List α} {x0 x1 x2 x3 x4 x5 x6:α}:(((((((L++[x0])++[x1])++[x2])++[x3])++[x4])++[x5])++[x6])[L.length+1+1+1]? = some x3:=by simp only [List.append_assoc,List.cons_append,List.nil_append];exact (ga (L:=L) (M:=[x0,x1,x2,x3,x4,x5,x6]) (i:=3)).trans rfl
theorem sj7_3 {α:Type} {L:List α} {x0 x1 x2 x3 x4 x5 x6 y:α}:(((((((L++[x0])++[x1])++[x2])++[x3])++[x4])++[x5])++[x6]).set (L.length+1+1+1) y=(((((((L++[x0])++[x1])++[x2])++[y])++[x4])++[x5])++[x6]):=by simp only [List.append_assoc,List.cons_append,List.nil_append];exact (sa (L:=L) (M:=[x0,x1,x2,x3,x4,x5,x6]) (i:=3) (y:=y)).trans rfl
theorem gj7_4 {α:Type} {L:List α} {x0 x1 x2 x3 x4 x5 x6:α}:(((((((L++[x0])++[x1])++[x2])++[x3])++[x4])++[x5])++[x6])[L.length+1+1+1+1]? = some x4:=by simp only [List.append_assoc,List.cons_append,List.nil_append];exact (ga (L:=L) (M:=[x0,x1,x2,x3,x4,x5,x6]) (i:=4)).trans rfl
theorem sj7_4 {α:Type} {L:List α} {x0 x1 x2 x3 x4 x5 x6 y:α}:(((((((L++[x0])++[x1])++[x2])++[x3])++[x4])++[x5])++[x6]).set (L.length+1+1+1+1) y=(((((((L++[x0])++[x1])++[x2])++[x3])++[y])++[x5])++[x6]):=by simp only [List.append_assoc,List.cons_append,List.nil_append];exact (sa (L:=L) (M:=[x0,x1,x2,x3,x4,x5,x6]) (i:=4) (y:=y)).trans rfl
theorem gj7_5 {α:Type} {L:List α} {x0 x1 x2 x3 x4 x5 x6:α}:(((((((L++[x0])++[x1])++[x2])++[x3])++[x4])++[x5])++[x6])[L.length+1+1+1+1+1]? = some x5:=by simp only [List.append_assoc,List.cons_append,List.nil_append];exact (ga (L:=L) (M:=[x0,x1,x2,x3,x4,x5,x6]) (i:=5)).trans rfl
theorem sj7_5 {α:Type} {L:List α} {x0 x1 x2 x3 x4 x5 x6 y:α}:(((((((L++[x0])++[x1])++[x2])++[x3])++[x4])++[x5])++[x6]).set (L.length+1+1+1+1+1) y=(((((((L++[x0])++[x1])++[x2])++[x3])++[x4])++[y])++[x6]):=by simp only [List.append_assoc,List.cons_append,List.nil_append];exact (sa (L:=L) (M:=[x0,x1,x2,x3,x4,x5,x6]) (i:=5) (y:=y)).trans rfl
theorem gj7_6 {α:Type} {L:List α} {x0 x1 x2 x3 x4 x5 x6:α}:(((((((L++[x0])++[x1])++[x2])++[x3])++[x4])++[x5])++[x6])[L.length+1+1+1+1+1+1]? = some x6:=by simp only [List.append_assoc,List.cons_append,List.nil_append];exact (ga (L:=L) (M:=[x0,x1,x2,x3,x4,x5,x6]) (i:=6)).trans rfl
theorem sj7_6 {α:Type} {L:List α} {x0 x1 x2 x3 x4 x5 x6 y:α}:(((((((L++[x0])++[x1])++[x2])++[x3])++[x4])++[x5])++[x6]).set (L.length+1+1+1+1+1+1) y=(((((((L++[x0])++[x1])++[x2])++[x3])++[x4])++[x5])++[y]):=by simp only [List.append_assoc,List.cons_append,List.nil_append];exact (sa (L:=L) (M:=[x0,x1,x2,x3,x4,x5,x6]) (i:=6) (y:=y)).trans rfl
theorem gj8_0 {α:Type} {L:List α} {x0 x1 x2 x3 x4 x5 x6 x7:α}:((((((((L++[x0])++[x1])++[x2])++[x3])++[x4])++[x5])++[x6])++[x7])[L.length]? = some x0:=by simp only [List.append_assoc,List.cons_append,List.nil_append];exact (ga (L:=L) (M:=[x0,x1,x2,x3,x4,x5,x6,x7]) (i:=0)).trans rfl
theorem sj8_0 {α:Type} {L:List α} {x0 x1 x2 x3 x4 x5 x6 x7 y:α}:((((((((L++[x0])++[x1])++[x2])++[x3])++[x4])++[x5])++[x6])++[x7]).set (L.length) y=((((((((L++[y])++[x1])++[x2])++[x3])++[x4])++[x5])++[x6])++[x7]):=by simp only [List.append_assoc,List.cons_append,List.nil_append];exact (sa (L:=L) (M:=[x0,x1,x2,x3,x4,x5,x6,x7]) (i:=0) (y:=y)).trans rfl
theorem gj8_1 {α:Type} {L:List α} {x0 x1 x2 x3 x4 x5 x6 x7:α}:((((((((L++[x0])++[x1])++[x2])++[x3])++[x4])++[x5])++[x6])++[x7])[L.length+1]? = some x1:=by simp only [List.append_assoc,List.cons_append,List.nil_append];exact (ga (L:=L) (M:=[x0,x1,x2,x3,x4,x5,x6,x7]) (i:=1)).trans rfl
theorem sj8_1 {α:Type} {L:List α} {x0 x1 x2 x3 x4 x5 x6 x7 y:α}:((((((((L++[x0])++[x1])++[x2])++[x3])++[x4])++[x5])++[x6])++[x7]).set (L.length+1) y=((((((((L++[x0])++[y])++[x2])++[x3])++[x4])++[x5])++[x6])++[x7]):=by simp only [List.append_assoc,List.cons_append,List.nil_append];exact (sa (L:=L) (M:=[x0,x1,x2,x3,x4,x5,x6,x7]) (i:=1) (y:=y)).trans rfl
theorem gj8_2 {α:Type} {L:List α} {x0 x1 x2 x3 x4 x5 x6 x7:α}:((((((((L++[x0])++[x1])++[x2])++[x3])++[x4])++[x5])++[x6])++[x7])[L.length+1+1]? = some x2:=by simp only [List.append_assoc,List.cons_append,List.nil_append];exact (ga (L:=L) (M:=[x0,x1,x2,x3,x4,x5,x6,x7]) (i:=2)).trans rfl
theorem sj8_2 {α:Type} {L:List α} {x0 x1 x2 x3 x4 x5 x6 x7 y:α}:((((((((L++[x0])++[x1])++[x2])++[x3])++[x4])++[x5])++[x6])++[x7]).set (L.length+1+1) y=((((((((L++[x0])++[x1])++[y])++[x3])++[x4])++[x5])++[x6])++[x7]):=by simp only [List.append_assoc,List.cons_append,List.nil_append];exact (sa (L:=L) (M:=[x0,x1,x2,x3,x4,x5,x6,x7]) (i:=2) (y:=y)).trans rfl
theorem gj8_3 {α:Type} {L:List α} {x0 x1 x2 x3 x4 x5 x6 x7:α}:((((((((L++[x0])++[x1])++[x2])++[x3])++[x4])++[x5])++[x6])++[x7])[L.length+1+1+1]? = some x3:=by simp only [List.append_assoc,List.cons_append,List.nil_append];exact (ga (L:=L) (M:=[x0,x1,x2,x3,x4,x5,x6,x7]) (i:=3)).trans rfl
theorem sj8_3 {α:Type} {L:List α} {x0 x1 x2 x3 x4 x5 x6 x7 y:α}:((((((((L++[x0])++[x1])++[x2])++[x3])++[x4])++[x5])++[x6])++[x7]).set (L.length+1+1+1) y=((((((((L++[x0])++[x1])++[x2])++[y])++[x4])++[x5])++[x6])++[x7]):=by simp only [List.append_assoc,List.cons_append,List.nil_append];exact (sa (L:=L) (M:=[x0,x1,x2,x3,x4,x5,x6,x7]) (i:=3) (y:=y)).trans rfl
theorem gj8_4 {α:Type} {L:List α} {x0 x1 x2 x3 x4 x5 x6 x7:α}:((((((((L++[x0])++[x1])++[x2])++[x3])++[x4])++[x5])++[x6])++[x7])[L.length+1+1+1+1]? = some x4:=by simp only [List.append_assoc,List.cons_append,List.nil_append];exact (ga (L:=L) (M:=[x0,x1,x2,x3,x4,x5,x6,x7]) (i:=4)).trans rfl
theorem sj8_4 {α:Type} {L:List α} {x0 x1 x2 x3 x4 x5 x6 x7 y:α}:((((((((L++[x0])++[x1])++[x2])++[x3])++[x4])++[x5])++[x6])++[x7]).set (L.length+1+1+1+1) y=((((((((L++[x0])++[x1])++[x2])++[x3])++[y])++[x5])++[x6])++[x7]):=by simp only [List.append_assoc,List.cons_append,List.nil_append];exact (sa (L:=L) (M:=[x0,x1,x2,x3,x4,x5,x6,x7]) (i:=4) (y:=y)).trans rfl
theorem gj8_5 {α:Type} {L:List α} {x0 x1 x2 x3 x4 x5 x6 x7:α}:((((((((L++[x0])++[x1])++[x2])++[x3])++[x4])++[x5])++[x6])++[x7])[L.length+1+1+1+1+1]? = some x5:=by simp only [List.append_assoc,List.cons_append,List.nil_append];exact (ga (L:=L) (M:=[x0,x1,x2,x3,x4,x5,x6,x7]) (i:=5)).trans rfl
theorem sj8_5 {α:Type} {L:List α} {x0 x1 x2 x3 x4 x5 x6 x7 y:α}:((((((((L++[x0])++[x1])++[x2])++[x3])++[x4])++[x5])++[x6])++[x7]).set (L.length+1+1+1+1+1) y=((((((((L++[x0])++[x1])++[x2])++[x3])++[x4])++[y])++[x6])++[x7]):=by simp only [List.append_assoc,List.cons_append,List.nil_append];exact (sa (L:=L) (M:=[x0,x1,x2,x3,x4,x5,x6,x7]) (i:=5) (y:=y)).trans rfl
theorem gj8_6 {α:Type} {L:List α} {x0 x1 x2 x3 x4 x5 x6 x7:α}:((((((((L++[x0])++[x1])++[x2])++[x3])++[x4])++[x5])++[x6])++[x7])[L.length+1+1+1+1+1+1]? = some x6:=by simp only [List.append_assoc,List.cons_append,List.nil_append];exact (ga (L:=L) (M:=[x0,x1,x2,x3,x4,x5,x6,x7]) (i:=6)).trans rfl
theorem sj8_6 {α:Type} {L:List α} {x0 x1 x2 x3 x4 x5 x6 x7 y:α}:((((((((L++[x0])++[x1])++[x2])++[x3])++[x4])++[x5])++[x6])++[x7]).set (L.length+1+1+1+1+1+1) y=((((((((L++[x0])++[x1])++[x2])++[x3])++[x4])++[x5])++[y])++[x7]):=by simp only [List.append_assoc,List.cons_append,List.nil_append];exact (sa (L:=L) (M:=[x0,x1,x2,x3,x4,x5,x6,x7]) (i:=6) (y:=y)).trans rfl
theorem gj8_7 {α:Type} {L:List α} {x0 x1 x2 x3 x4 x5 x6 x7:α}:((((((((L++[x0])++[x1])++[x2])++[x3])++[x4])++[x5])++[x6])++[x7])[L.length+1+1+1+1+1+1+1]? = some x7:=by simp only [List.append_assoc,List.cons_append,List.nil_append];exact (ga (L:=L) (M:=[x0,x1,x2,x3,x4,x5,x6,x7]) (i:=7)).trans rfl
theorem sj8_7 {α:Type} {L:List α} {x0 x1 x2 x3 x4 x5 x6 x7 y:α}:((((((((L++[x0])++[x1])++[x2])++[x3])++[x4])++[x5])++[x6])++[x7]).set (L.length+1+1+1+1+1+1+1) y=((((((((L++[x0])++[x1])++[x2])++[x3])++[x4])++[x5])++[x6])++[y]):=by simp only [List.append_assoc,List.cons_append,List.nil_append];exact (sa (L:=L) (M:=[x0,x1,x2,x3,x4,x5,x6,x7]) (i:=7) (y:=y)).trans rfl
theorem gj9_0 {α:Type} {L:List α} {x0 x1 x2 x3 x4 x5 x6 x7 x8:α}:(((((((((L++[x0])++[x1])++[x2])++[x3])++[x4])++[x5])++[x6])++[x7])++[x8])[L.length]? = some x0:=by simp only [List.append_assoc,List.cons_append,List.nil_append];exact (ga (L:=L) (M:=[x0,x1,x2,x3,x4,x5,x6,x7,x8]) (i:=0)).trans rfl
theorem sj9_0 {α:Type} {L:List α} {x0 x1 x2 x3 x4 x5 x6 x7 x8 y:α}:(((((((((L++[x0])++[x1])++[x2])++[x3])++[x4])++[x5])++[x6])++[x7])++[x8]).set (L.length) y=(((((((((L++[y])++[x1])++[x2])++[x3])++[x4])++[x5])++[x6])++[x7])++[x8]):=by simp only [List.append_assoc,List.cons_append,List.nil_append];exact (sa (L:=L) (M:=[x0,x1,x2,x3,x4,x5,x6,x7,x8]) (i:=0) (y:=y)).trans rfl
theorem gj9_1 {α:Type} {L:List α} {x0 x1 x2 x3 x4 x5 x6 x7 x8:α}:(((((((((L++[x0])++[x1])++[x2])++[x3])++[x4])++[x5])++[x6])++[x7])++[x8])[L.length+1]? = some x1:=by simp only [List.append_assoc,List.cons_append,List.nil_append];exact (ga (L:=L) (M:=[x0,x1,x2,x3,x4,x5,x6,x7,x8]) (i:=1)).trans rfl
theorem sj9_1 {α:Type} {L:List α} {x0 x1 x2 x3 x4 x5 x6 x7 x8 y:α}:(((((((((L++[x0])++[x1])++[x2])++[x3])++[x4])++[x5])++[x6])++[x7])++[x8]).set (L.length+1) y=(((((((((L++[x0])++[y])++[x2])++[x3])++[x4])++[x5])++[x6])++[x7])++[x8]):=by simp only [List.append_assoc,List.cons_append,List.nil_append];exact (sa (L:=L) (M:=[x0,x1,x2,x3,x4,x5,x6,x7,x8]) (i:=1) (y:=y)).trans rfl
theorem gj9_2 {α:Type} {L:List α} {x0 x1 x2 x3 x4 x5 x6 x7 x8:α}:(((((((((L++[x0])++[x1])++[x2])++[x3])++[x4])++[x5])++[x6])++[x7])++[x8])[L.length+1+1]? = some x2:=by simp only [List.append_assoc,List.cons_append,List.nil_append];exact (ga (L:=L) (M:=[x0,x1,x2,x3,x4,x5,x6,x7,x8]) (i:=2)).trans rfl
theorem sj9_2 {α:Type} {L:List α} {x0 x1 x2 x3 x4 x5 x6 x7 x8 y:α}:(((((((((L++[x0])++[x1])++[x2])++[x3])++[x4])++[x5])++[x6])++[x7])++[x8]).set (L.length+1+1) y=(((((((((L++[x0])++[x1])++[y])++[x3])++[x4])++[x5])++[x6])++[x7])++[x8]):=by simp only [List.append_assoc,List.cons_append,List.nil_append];exact (sa (L:=L) (M:=[x0,x1,x2,x3,x4,x5,x6,x7,x8]) (i:=2) (y:=y)).trans rfl
theorem gj9_3 {α:Type} {L:List α} {x0 x1 x2 x3 x4 x5 x6 x7 x8:α}:(((((((((L++[x0])++[x1])++[x2])++[x3])++[x4])++[x5])++[x6])++[x7])++[x8])[L.length+1+1+1]? = some x3:=by simp only [List.append_assoc,List.cons_append,List.nil_append];exact (ga (L:=L) (M:=[x0,x1,x2,x3,x4,x5,x6,x7,x8]) (i:=3)).trans rfl
theorem sj9_3 {α:Type} {L:List α} {x0 x1 x2 x3 x4 x5 x6 x7 x8 y:α}:(((((((((L++[x0])++[x1])++[x2])++[x3])++[x4])++[x5])++[x6])++[x7])++[x8]).set (L.length+1+1+1) y=(((((((((L++[x0])++[x1])++[x2])++[y])++[x4])++[x5])++[x6])++[x7])++[x8]):=by simp only [List.append_assoc,List.cons_append,List.nil_append];exact (sa (L:=L) (M:=[x0,x1,x2,x3,x4,x5,x6,x7,x8]) (i:=3) (y:=y)).trans rfl
theorem gj9_4 {α:Type} {L:List α} {x0 x1 x2 x3 x4 x5 x6 x7 x8:α}:(((((((((L++[x0])++[x1])++[x2])++[x3])++[x4])++[x5])++[x6])++[x7])++[x8])[L.length+1+1+1+1]? = some x4:=by simp only [List.append_assoc,List.cons_append,List.nil_append];exact (ga (L:=L) (M:=[x0,x1,x2,x3,x4,x5,x6,x7,x8]) (i:=4)).trans rfl
theorem sj9_4 {α:Type} {L:List α} {x0 x1 x2 x3 x4 x5 x6 x7 x8 y:α}:(((((((((L++[x0])++[x1])++[x2])++[x3])++[x4])++[x5])++[x6])++[x7])++[x8]).set (L.length+1+1+1+1) y=(((((((((L++[x0])++[x1])++[x2])++[x3])++[y])++[x5])++[x6])++[x7])++[x8]):=by simp only [List.append_assoc,List.cons_append,List.nil_append];exact (sa (L:=L) (M:=[x0,x1,x2,x3,x4,x5,x6,x7,x8]) (i:=4) (y:=y)).trans rfl
theorem gj9_5 {α:Type} {L:List α} {x0 x1 x2 x3 x4 x5 x6 x7 x8:α}:(((((((((L++[x0])++[x1])++[x2])++[x3])++[x4])++[x5])++[x6])++[x7])++[x8])[L.length+1+1+1+1+1]? = some x5:=by simp only [List.append_assoc,List.cons_append,List.nil_append];exact (ga (L:=L) (M:=[x0,x1,x2,x3,x4,x5,x6,x7,x8]) (i:=5)).trans rfl
theorem sj9_5 {α:Type} {L:List α} {x0 x1 x2 x3 x4 x5 x6 x7 x8 y:α}:(((((((((L++[x0])++[x1])++[x2])++[x3])++[x4])++[x5])++[x6])++[x7])++[x8]).set (L.length+1+1+1+1+1) y=(((((((((L++[x0])++[x1])++[x2])++[x3])++[x4])++[y])++[x6])++[x7])++[x8]):=by simp only [List.append_assoc,List.cons_append,List.nil_append];exact (sa (L:=L) (M:=[x0,x1,x2,x3,x4,x5,x6,x7,x8]) (i:=5) (y:=y)).trans rfl
theorem gj9_6 {α:Type} {L:List α} {x0 x1 x2 x3 x4 x5 x6 x7 x8:α}:(((((((((L++[x0])++[x1])++[x2])++[x3])++[x4])++[x5])++[x6])++[x7])++[x8])[L.length+1+1+1+1+1+1]? = some x6:=by simp only [List.append_assoc,List.cons_append,List.nil_append];exact (ga (L:=L) (M:=[x0,x1,x2,x3,x4,x5,x6,x7,x8]) (i:=6)).trans rfl
theorem sj9_6 {α:Type} {L:List α} {x0 x1 x2 x3 x4 x5 x6 x7 x8 y:α}:(((((((((L++[x0])++[x1])++[x2])++[x3])++[x4])++[x5])++[x6])++[x7])++[x8]).set (L.length+1+1+1+1+1+1) y=(((((((((L++[x0])++[x1])++[x2])++[x3])++[x4])++[x5])++[y])++[x7])++[x8]):=by simp only [List.append_assoc,List.cons_append,List.nil_append];exact (sa (L:=L) (M:=[x0,x1,x2,x3,x4,x5,x6,x7,x8]) (i:=6) (y:=y)).trans rfl
theorem gj9_7 {α:Type} {L:List α} {x0 x1 x2 x3 x4 x5 x6 x7 x8:α}:(((((((((L++[x0])++[x1])++[x2])++[x3])++[x4])++[x5])++[x6])++[x7])++[x8])[L.length+1+1+1+1+1+1+1]? = some x7:=by simp only [List.append_assoc,List.cons_append,List.nil_append];exact (ga (L:=L) (M:=[x0,x1,x2,x3,x4,x5,x6,x7,x8]) (i:=7)).trans rfl
theorem sj9_7 {α:Type} {L:List α} {x0 x1 x2 x3 x4 x5 x6 x7 x8 y:α}:(((((((((L++[x0])++[x1])++[x2])++[x3])++[x4])++[x5])++[x6])++[x7])++[x8]).set (L.length+1+1+1+1+1+1+1) y=(((((((((L++[x0])++[x1])++[x2])++[x3])++[x4])++[x5])++[x6])++[y])++[x8]):=by simp only [List.append_assoc,List.cons_append,List.nil_append];exact (sa (L:=L) (M:=[x0,x1,x2,x3,x4,x5,x6,x7,x8]) (i:=7) (y:=y)).trans rfl
theorem gj9_8 {α:Type} {L:List α} {x0 x1 x2 x3 x4 x5 x6 x7 x8:α}:(((((((((L++[x0])++[x1])++[x2])++[x3])++[x4])++[x5])++[x6])++[x7])++[x8])[L.length+1+1+1+1+1+1+1+1]? = some x8:=by simp only [List.append_assoc,List.cons_append,List.nil_append];exact (ga (L:=L) (M:=[x0,x1,x2,x3,x4,x5,x6,x7,x8]) (i:=8)).trans rfl
theorem sj9_8 {α:Type} {L:List α} {x0 x1 x2 x3 x4 x5 x6 x7 x8 y:α}:(((((((((L++[x0])++[x1])++[x2])++[x3])++[x4])++[x5])++[x6])++[x7])++[x8]).set (L.length+1+1+1+1+1+1+1+1) y=(((((((((L++[x0])++[x1])++[x2])++[x3])++[x4])++[x5])++[x6])++[x7])++[y]):=by simp only [List.append_assoc,List.cons_append,List.nil_append];exact (sa (L:=L) (M:=[x0,x1,x2,x3,x4,x5,x6,x7,x8]) (i:=8) (y:=y)).trans rfl
section
variable {P:Program} {G:Nat->AV} {tab:Tab} {hs:List FuncId} {st:St}
theorem Zh {ts:List RS} {r:AV} (h:∀ K:Option (List AV)->Prop,(∀ vs rs H',yi st.H vs=some (rs,H')->r=zj rs->K (some vs))->K (zS st ts)):RetP ts r .r st :=
 ⟨.inr rfl,h (fun o=>∃ vs,o=some vs/\∃ rs H',yi st.H vs=some (rs,H')/\zj rs=r) (fun vs rs H' hp hv=>⟨vs,rfl,rs,H',hp,hv.symm⟩)⟩
theorem Zl {ts:List RS} {r:AV} {H:Hp} (hH:st.H=H) (h:∀ K:Option (List AV)->Prop,(∀ vs,r=zj vs->K (some vs))->K (zS st ts)):RetH ts r H .r st :=
 ⟨.inr rfl,h (fun o=>∃ vs,o=some vs/\zj vs=r) (fun vs hv=>⟨vs,rfl,hv.symm⟩),hH⟩
end
def tysOf (P:Program) (t:TypeId):Option (List TypeId):=match P.underlying t with|some (.struct fs)=>some (fs.toList.map (·.type))|_=>none
theorem ShC.flds {P:Program} {t:TypeId} {ts:List TypeId} {as_:List AV} (h:ShC P t as_) (hts:tysOf P t=some ts):ShFs P ts as_:=by
 unfold tysOf at hts
 split at hts
 ·rename_i fs ht
  cases hts
  exact h.fields ht rfl
 ·cases hts
theorem ShFs.cons {P:Program} {t:TypeId} {ts:List TypeId} {as_:List AV} (h:ShFs P (t::ts) as_):∃ p q,as_=p++q/\ShC P t p/\ShFs P ts q:=h
theorem ShFs.nil {P:Program} {as_:List AV} (h:ShFs P [] as_):as_=[]:=h
section
variable {P:Program} {G:Nat->AV} {Q:EX->St->Prop} {st:St} {c:AC}
theorem xE (n:Nat) (h:Xd (W P G c) Q n st):W P G (.loop c) Q st:=⟨n,h⟩
theorem xD {n:Nat} (h:W P G c (yf (Xd (W P G c) Q n) Q) st):Xd (W P G c) Q (n+1) st :=
 xu c (fun e st' he=>by cases e<;>exact he) h
end
abbrev W3:=Int × Int × Int
theorem Yx {α:Type} {Pc:List AV->Prop} {f:α->List AV} (h:∀ cs,Pc cs->∃ w,cs=f w):∀ css:List (List AV),(∀ cs ∈ css,Pc cs)->∃ l:List α,css=l.map f
 | [],_=>⟨[],rfl⟩
 | cs::css,hh=>by
  obtain ⟨w,rfl⟩:=h cs (hh cs (by simp))
  obtain ⟨l,rfl⟩:=Yx h css fun c hc=>hh c (by simp [hc])
  exact ⟨w::l,rfl⟩
theorem ofVal_pv {F:Fz} {x:Value} {a:AV} (h:zi x=some a):PV F x a:=by
 cases x with
 | agg cs =>
  simp only [zi] at h
  split at h
  ·rename_i as_ h1
   cases h
   obtain ⟨l,o,r⟩:=yR (F:=F) (O:=[]) h1
   have:=PV.agg (F:=F) cs.toList as_ l o r
   simpa using this
  ·cases h
 | tuple cs =>
  simp only [zi] at h
  split at h
  ·rename_i as_ h1
   cases h
   obtain ⟨l,o,r⟩:=yR (F:=F) (O:=[]) h1
   have:=PV.tup (F:=F) cs.toList as_ l r
   simpa using this
  ·cases h
 | _ =>
  simp only [zi] at h
  split at h
  ·rename_i hs
   cases h
   exact .v _ hs
  ·cases h
theorem ZV {P : Program} {G : Nat -> AV} {f : FuncId} {as_ : List AV} {ys : List Value} {v : Value} {r : AV} (hc : zx as_ = some ys) (hr : zi v = some r)
  (h:∀ w,Calls P f ys.toArray w (fun e w'=>e = .returned v/\Below w.heap.size w w')):PC P G f as_ r:=by
 intro w F xs hF hG hl hv
 obtain rfl:xs=ys:=Y6 (F:=F) (O:=[]) hc hl fun i c a hc ha=>.p (hv i c a hc ha)
 refine (h w).mono ?_
 rintro e w' ⟨rfl,hb⟩
 exact ⟨v,F,rfl,ofVal_pv hr,Fz.le_refl F,fun b o v hv=>by rw [hb.cell (p:=⟨b,o,none⟩) (yj (hF b o v hv))];exact hF b o v hv,fun b o v hv=>.inl hv,hb⟩
theorem cutV {P:Program} {t:TypeId} (ht:P.underlying t=some .string) {s:ByteArray} {h:Int} (h0:0<=h) (h1:h<=s.size):zR P (Instr.sliceAt t (.string s) none (some (.int .i64 h)) none)=some (.string (s.extract 0 h.toNat)):=by
 unfold Instr.sliceAt
 show zR P (underlying t >>= _)=_
 rw [z8,ZI ht]
 show zR P (Instr.slice t (.string s) none (some (.int .i64 h)) none)=_
 unfold Instr.slice
 show zR P (underlying t >>= _)=_
 rw [z8,ZI ht]
 show zR P (Instr.sliceBounds false s.size s.size none (some (.int .i64 h)) none >>= _)=_
 rw [z8]
 have e:zR P (Instr.sliceBounds false s.size s.size none (some (.int .i64 h)) none)=some (0,h.toNat,s.size):=by
  unfold Instr.sliceBounds
  show zR P (Instr.sliceBound (.int .i64 h) s.size .sliceAlen >>= _)=_
  rw [z8]
  have e2:zR P (Instr.sliceBound (.int .i64 h) s.size .sliceAlen)=some h.toNat:=by
   unfold Instr.sliceBound
   show zR P (if 0<=h/\h<=s.size then pure h.toNat else _)=_
   rw [if_pos ⟨h0,h1⟩]
   rfl
  rw [e2]
  rfl
 rw [e]
 rfl
def mix (v:Nat->AV):List Nat->Nat->List AV->List AV
 | _,_,[]=>[]
 | [],_,s=>s
 | m::ms,i,a::s=>if i=m then v m::mix v ms (i+1) s else a::mix v (m::ms) (i+1) s
theorem z9 {v:Nat->AV} {i:Nat} {s:List AV}:mix v [] i s=s:=by cases s<;>rfl
theorem Za {v:Nat->AV} {i:Nat} {M:List Nat}:mix v M i []=[]:=by cases M<;>rfl
theorem mix_t {v:Nat->AV} {m:Nat} {ms:List Nat} {a:AV} {s:List AV}:mix v (m::ms) m (a::s)=v m::mix v ms (m+1) s:=by simp [mix]
theorem mix_f {v:Nat->AV} {m i:Nat} {ms:List Nat} {a:AV} {s:List AV} (h:¬ i=m):mix v (m::ms) i (a::s)=a::mix v (m::ms) (i+1) s:=by simp [mix,h]
theorem YV (s0:List AV):∀ (M:List Nat) (i:Nat) (s:List AV),(∀ j,s0.getD (i+j) zh=s.getD j zh)->mix (fun j=>s0.getD j zh) M i s=s
 | _,_,[],_=>Za
 | [],_,_::_,_=>z9
 | m::ms,i,a::s,h=>by
  have h0:s0.getD i zh=a:=by simpa using h 0
  have ht:∀ j,s0.getD (i+1+j) zh=s.getD j zh:=fun j=>by
   have:=h (j+1)
   rw [show i+(j+1)=i+1+j by omega] at this
   simpa using this
  by_cases hm:i=m
  ·subst hm
   rw [mix_t,YV s0 ms (i+1) s ht,h0]
  ·rw [mix_f hm,YV s0 (m::ms) (i+1) s ht]
abbrev at_ (s:List AV):Nat->AV:=fun j=>s.getD j zh
def skp (k:Nat) (f:Nat->AV) (L:List AV):List AV:=(List.range k).map f++L
theorem skp_get {k n:Nat} {f:Nat->AV} {L:List AV} {d:AV}:(skp k f L).getD n d=if k<=n then L.getD (n - k) d else f n:=by
 unfold skp
 rw [List.getD_eq_getElem?_getD]
 by_cases h:k<=n
 ·rw [if_pos h,List.getElem?_append_right (by simpa using h),List.getD_eq_getElem?_getD];simp
 ·rw [if_neg h,List.getElem?_append_left (by simp;omega),List.getElem?_map,List.getElem?_range (by omega)];rfl
theorem skp_set {k n:Nat} {f:Nat->AV} {L:List AV} {r:AV}:(skp k f L).set n r=if k<=n then skp k f (L.set (n - k) r) else skp k (fun i=>if i=n then r else f i) L:=by
 unfold skp
 by_cases h:k<=n
 ·rw [if_pos h,List.set_append_right _ _ (by simpa using h)];simp
 ·rw [if_neg h, List.set_append_left _ _ (by simp; omega)]
  congr 1
  apply List.ext_getElem?
  intro i
  rw [List.getElem?_set,List.getElem?_map,List.getElem?_map]
  by_cases hi:n=i
  ·subst hi
   simp [show n < k by omega]
  ·rw [if_neg hi]
   by_cases hk:i < k
   ·rw [List.getElem?_range hk];simp [Ne.symm hi]
   ·rw [List.getElem?_eq_none (by simpa using hk)];rfl
theorem Zb {v f:Nat->AV} {m i k:Nat} {ms:List Nat} {L:List AV} (h:i+k<=m):mix v (m::ms) i (skp k f L)=skp k f (mix v (m::ms) (i+k) L):=by
 have key:∀ (A:List AV) (i:Nat),i+A.length<=m->mix v (m::ms) i (A++L)=A++mix v (m::ms) (i+A.length) L:=by
  intro A
  induction A with
  | nil=>intro i _;simp
  | cons a A ih =>
   intro i hi
   simp only [List.length_cons] at hi
   rw [List.cons_append,mix_f (by omega),ih (i+1) (by omega),List.cons_append,List.length_cons,show i+1+A.length=i+(A.length+1) by omega]
 unfold skp
 rw [key _ i (by simpa using h)]
 simp
section
variable {P:Program} {G:Nat->AV} {Q:EX->St->Prop}
theorem yh {c:AC} {s:List AV} {H:Hp} (a k:Nat) (hl:a+k<=s.length) (h:∀ f,W P G c Q ⟨s.take a++skp k f (s.drop (a+k)),H⟩):W P G c Q ⟨s,H⟩:=by
 have:=h (fun i=>s.getD (a+i) zh)
 have e:s.take a++skp k (fun i=>s.getD (a+i) zh) (s.drop (a+k))=s:=by
  apply List.ext_getElem?
  intro i
  unfold skp
  by_cases h1:i < a
  ·rw [List.getElem?_append_left (by simp;omega),List.getElem?_take,if_pos h1]
  ·rw [List.getElem?_append_right (by simp; omega)]
   have hta:(s.take a).length=a:=by simp;omega
   rw [hta]
   by_cases h2:i - a < k
   ·rw [List.getElem?_append_left (by simp; exact h2), List.getElem?_map, List.getElem?_range h2]
    simp only [Option.map_some]
    rw [show a+(i - a)=i by omega,List.getD_eq_getElem?_getD,List.getElem?_eq_getElem (by omega)];rfl
   ·rw [List.getElem?_append_right (by simp; omega), List.getElem?_drop]
    simp only [List.length_map,List.length_range]
    congr 1;omega
 rw [e] at this
 exact this
theorem ZT {c : AC} {s : List AV} {H : Hp} (M : List Nat) (I : Nat -> (Nat -> AV) -> Hp -> Prop) (n : Nat) (h0 : I 0 (at_ s) H)
  (round:∀ k v H',k < n->I k v H'->W P G c (yf (fun st'=>st'.s=mix (at_ st'.s) M 0 s/\I (k+1) (at_ st'.s) st'.H) Q) ⟨mix v M 0 s,H'⟩)
  (last:∀ v H',I n v H'->W P G c (yf (fun _=>False) Q) ⟨mix v M 0 s,H'⟩):W P G (.loop c) Q ⟨s,H⟩:=by
 refine YL (fun k st=>∃ v H',st=⟨mix v M 0 s,H'⟩/\I k v H') n ⟨at_ s,H,by rw [YV s M 0 s (fun j=>by rw [Nat.zero_add])],h0⟩ ?_ ?_
 ·rintro k st hk ⟨v, H', rfl, hI⟩
  refine xu c (fun e st' he=>?_) (round k v H' hk hI)
  cases e with
  | n=>exact ⟨at_ st'.s,st'.H,by cases st';simp only [St.mk.injEq,and_true];exact he.1,he.2⟩
  | x id=>exact he
  | r=>exact he
 ·rintro st ⟨v, H', rfl, hI⟩
  exact last v H' hI
theorem YM {c : AC} {s : List AV} {H : Hp} (M : List Nat) (I : Nat -> (Nat -> AV) -> Hp -> Prop) (n : Nat) (h0 : I n (at_ s) H)
  (round:∀ m v H',I m v H'->W P G c (yf (fun st'=>st'.s=mix (at_ st'.s) M 0 s/\∃ m',m' < m/\I m' (at_ st'.s) st'.H) Q) ⟨mix v M 0 s,H'⟩):W P G (.loop c) Q ⟨s,H⟩:=by
 refine w_loop (fun k st=>∃ v H',st=⟨mix v M 0 s,H'⟩/\I k v H') n ⟨at_ s,H,by rw [YV s M 0 s (fun j=>by rw [Nat.zero_add])],h0⟩ ?_
 rintro m st ⟨v,H',rfl,hI⟩
 refine xu c (fun e st' he=>?_) (round m v H' hI)
 cases e with
 | n =>
  obtain ⟨h1,m',hm,h2⟩:=he
  exact ⟨m',hm,at_ st'.s,st'.H,by cases st';simp only [St.mk.injEq,and_true];exact h1,h2⟩
 | x id=>exact he
 | r=>exact he
end
section
variable {P:Program} {G:Nat->AV} {hs:List FuncId}
theorem hc_pc {f:FuncId} {as_:List AV} {r:AV} (hp:as_.all AV.isP=true) (h:PC P G f as_ r) (H:Hp):HC P G f as_ H r H:=by
 intro B w0 F0 F O w xs hown hg hl hv
 have hcall:=h w F xs hown.fr hg hl fun i c a hc ha=>(hv i c a hc ha).pv (List.all_eq_true.1 hp a (List.mem_of_getElem? ha))
 refine hcall.mono ?_
 rintro e w' ⟨v,F'',rfl,hv,lF,hfr,hnew,hbel⟩
 refine ⟨v,rfl,F'',O,.p hv,?_,lF,Ow.le_refl O⟩
 have ok:=hown.keep hbel
 refine ⟨ok.len,fun i d ob hd ho=>?_,ok.inj,hfr,Fz.le_trans ok.le lF,fun b o v hv=>?_,ok.below,ok.size,ok.kept,ok.kb⟩
 ·have rr := ok.row i d ob hd ho
  have rr0:=hown.row i d ob hd ho
  obtain ⟨cur,q1,q2,q3⟩:=rr.cur
  refine { rr with cur:=⟨cur,q1,q2,fun n j x a hx ha=>by obtain ⟨c,g1,g2⟩:=q3 n j x a hx ha;exact ⟨c,g1,g2.mono lF (Ow.le_refl O)⟩⟩,hf:=fun o v hv=>?_ }
  rcases hnew _ _ _ hv with h1|h1
  ·exact rr.hf o v h1
  ·exact absurd rr0.lt (Nat.not_lt.2 h1)
 ·rcases hnew _ _ _ hv with h1 | h1
  ·exact hown.new b o v h1
  ·exact .inr (hown.okGe h1)
theorem YS {H:Hp} {st:St} (h:st.H=H):RetH [] (.tup []) H .n st:=⟨.inl rfl,⟨[],rfl,rfl⟩,h⟩
theorem ret_0r {H:Hp} {st:St} (h:st.H=H):RetH [] (.tup []) H .r st:=⟨.inr rfl,⟨[],rfl,rfl⟩,h⟩
theorem em_vr {F:Fz} {x:Value} {k:Nat} (h:PV F x (.sl k [])):(∃ b,VR F [] x (.em b k)):=by
 cases h with
 | sl A n cap k es hn hc hm hk h1 b o hA f hf h =>
  simp only [List.length_nil] at hn
  subst hn
  exact ⟨!A.isSome,.em A cap _ k (by cases A.isSome<;>rfl) hm⟩
theorem pc_em {f:FuncId} {af:AF} (hf:zJ P hs f=some af) {as_ bs:List AV} {k:Nat} {r:AV} (h:∀ b,W P G af.body (RetP af.res r) (St.init af.n (as_ ++ .em b k::bs) [])):PC P G f (as_ ++ .sl k []::bs) r:=by
 unfold zJ at hf
 split at hf
 ·rename_i fn hfn
  split at hf
  ·rename_i c hc
   split at hf
   ·rename_i ts ac hts hac
    cases hf
    intro w F xs hfr hg hl hv
    have hown:Own (Bd.of w.heap.size) w F F [] [] w:=⟨rfl,fun i d ob hd=>by simp at hd,fun i j d d' hd=>by simp at hd,hfr,Fz.le_refl F,fun b o v hv=>.inl hv,Below.refl _ _,Nat.le_refl _,fun _ h=>h.elim,fun _ h=>h.elim⟩
    have hxl:as_.length < xs.length:=by rw [hl];simp
    obtain ⟨b,hb⟩:=em_vr (hv as_.length xs[as_.length] (.sl k []) (List.getElem?_eq_getElem hxl) (by simp))
    refine calls_of_wp hfn hc (W_ok c ac hac _ _ _ _ _ F [] (h b) (Yy hown hg (by rw [hl];simp) fun i c a hc ha=>?_) fun e st' a' w' F' O' he hr=>?_)
    ·by_cases hi : i = as_.length
     ·subst hi
      rw [List.getElem?_eq_getElem hxl] at hc
      rw [List.getElem?_append_right (Nat.le_refl _)] at ha
      simp at hc ha
      subst hc;subst ha
      exact hb
     ·refine .p (hv i c a hc ?_)
      by_cases hi2:i < as_.length
      ·rw [List.getElem?_append_left hi2] at ha ⊢;exact ha
      ·rw [List.getElem?_append_right (by omega)] at ha ⊢
       obtain ⟨m,hm⟩:∃ m,i - as_.length=m+1:=⟨i - as_.length - 1,by omega⟩
       rw [hm] at ha ⊢
       exact ha
    ·obtain ⟨hex, vs, hvs, rs, H', hp, hrs⟩ := he
     obtain ⟨ys,y1,y2,y3⟩:=Z9 hr hts hvs
     obtain ⟨F2,p1,p2,o2,l2⟩:=Yw hr.own y2 y3 hp
     have key:a'.defers=[]/\∃ v,(results fn a'.tmps).run P w' = .ok v w'/\∃ v1 F',(Ending.returned v) = .returned v1/\PV F' v1 r/\F.le F'/\(∀ b o v,F' b o=some v->w'.cell? ⟨b,o,none⟩=some v)/\(∀ b o v,F' b o=some v->F b o=some v\/w.heap.size<=b)/\Below w.heap.size w w':=by
      refine ⟨hr.defs,_,y1,_,F2,rfl,?_,Fz.le_trans hr.leF l2,o2.fr,fun b o v hv=>(o2.new b o v hv).imp id (·.1),o2.below⟩
      rw [<- hrs]
      exact YT (by omega) p1
     rcases hex with rfl|rfl<;>exact key
   ·cases hf
  ·cases hf
 ·cases hf
end
theorem y5 {k:Nat} {f:Nat->AV} {L:List AV}:(skp k f L).length=k+L.length:=by simp [skp]
theorem yx {k n:Nat} {f:Nat->AV} {L:List AV} (h:k<=n):(skp k f L).take n=skp k f (L.take (n - k)):=by
 unfold skp
 rw [List.take_append,List.take_of_length_le (by simpa using h)];simp
theorem yy {k n:Nat} {f:Nat->AV} {L:List AV} (h:k<=n):(skp k f L).drop n=L.drop (n - k):=by
 unfold skp
 rw [List.drop_append,List.drop_of_length_le (by simpa using h)];simp
theorem y6 {k:Nat} {f:Nat->AV} {L M:List AV}:skp k f L++M=skp k f (L++M):=by simp [skp]
end Go.Proofs.YtdodckipblafmaaGreatDoor.Sim
