/- Texts of this claim, part 5. -/
import Derived.Laws.BitsAllLaws
import Derived.Lib.BitFns
import Derived.Lib.Tables
import Derived.Lib.TrailingZeros
import Derived.Test.YtnammfeiehikfaaMPlanDoes4
import Derived.Test.YtnammfeiehikfaaProg
set_option linter.unusedVariables false
set_option linter.unusedSimpArgs false
namespace Go.Proofs.Ytnammfeiehikfaa.Sim
open Go.RowKit
inductive ObEq (a b:AV):Prop
  | mk (h:a=b):ObEq a b
inductive ObEnd (m:Nat) (v r:AV) (H H':Hp):Prop
  | eq (h:v=r) (hH:H=H'):ObEnd m v r H H'
  | view (T:Tb) (h:rnB T r=some v) (vw:Vw T H H') (hb:Bas m T H):ObEnd m v r H H'
def rsK (s:List AV) (H:Hp):List RS→(List AV→Prop)→Prop
  | [],k=>k []
  | (t,x)::rs,k=>(match x with
    | none=>gK s t (fun a=>rsK s H rs (fun vs=>k (a::vs)))
    | some gn=>(match gn with|(g,n)=>gK s t (fun a=>vLoad H g n a (fun v=>rsK s H rs (fun vs=>k (v::vs))))))
theorem rsK_ok {s:List AV} {H:Hp}:∀ {rs:List RS} {k:List AV→Prop},rsK s H rs k→∃ vs,rsAs ⟨s,H⟩ rs=some vs∧k vs
  | [],_,h=>⟨_,rfl,h⟩
  | (t,none)::rs,k,h=>by
    simp only [rsK,gK_eq] at h
    obtain ⟨vs,h1,h2⟩:=rsK_ok h
    exact ⟨_,by simp only [rsAs,h1];rfl,h2⟩
  | (t,some (g,n))::rs,k,h=>by
    simp only [rsK,gK_eq] at h
    obtain ⟨v,h1,h2⟩:=vLoad_ok h
    obtain ⟨vs,h3,h4⟩:=rsK_ok h2
    have h1':loadA H g n (s.getD t undefA)=some v:=h1
    exact ⟨_,by simp only [rsAs,h1',h3],h4⟩
def resK (vs:List AV) (k:AV→Prop):Prop :=
  match vs with
  | []=>k (.tup [])
  | a::t=>(match t with|[]=>k a|b::t'=>k (.tup (a::b::t')))
theorem resK_eq (vs:List AV) (k:AV→Prop):resK vs k=k (resOf vs):=by
  rcases vs with _|⟨a,_|⟨b,t⟩⟩<;>rfl
def EndP (ts:List RS) (r:AV) (e:EX) (st:St):Prop :=
  match e with
  | .x _=>False
  | _=>(match st with|⟨s,H⟩=>rsK s H ts (fun vs=>fzA H vs (fun vs' _=>resK vs' (fun v=>ObEq v r))))
def EndH (m:Nat) (ts:List RS) (r:AV) (H':Hp) (e:EX) (st:St):Prop :=
  match e with
  | .x _=>False
  | _=>(match st with|⟨s,H⟩=>rsK s H ts (fun vs=>resK vs (fun v=>ObEnd m v r H H')))
def initK:List AV→Nat→(List AV→Prop)→Prop
  | as_,0,k=>k as_
  | [],n+1,k=>initK [] n (fun s=>k (undefA::s))
  | a::as_,n+1,k=>initK as_ n (fun s=>k (a::s))
theorem initK_eq:∀ (as_:List AV) (n:Nat) (k:List AV→Prop),initK as_ n k=k (as_++List.replicate (n - as_.length) undefA)
  | as_,0,k=>by cases as_<;>simp [initK]
  | [],n+1,k=>by rw [initK,initK_eq [] n];simp [List.replicate_succ]
  | a::as_,n+1,k=>by rw [initK,initK_eq as_ n];simp
section
variable {P:Program} {G:Nat→AV} {hs:List FuncId}
theorem pc_ofV' {f : FuncId} {af : AF} (hf : copF P hs f = some af) {as_ : List AV} {r : AV}
    (h:∀ (w:World) (F:Fz) (xs:List Value),xs.length=as_.length→(∀ (i:Nat) (c:Value) (a:AV),xs[i]? = some c→as_[i]? = some a→PV F c a)→∃ bs:List AV,bs.length=as_.length∧(∀ (i:Nat) (c:Value) (a:AV),xs[i]? = some c→bs[i]? = some a→VR F [] c a)∧initK bs af.n (fun s=>V P G 0 af.body (EndP af.res r) ⟨s,[]⟩)):PC P G f as_ r:=by
  unfold copF at hf
  split at hf
  · rename_i fn hfn
    split at hf
    · rename_i c hc
      split at hf
      · rename_i ts ac hts hac
        cases hf
        intro w F xs hfr hg hl hv
        obtain ⟨bs,hbl,hbv,h⟩:=h w F xs hl hv
        rw [initK_eq] at h
        have hown:Own (Bd.of w.heap.size) w F F [] [] w:=⟨rfl,fun i d ob hd=>by simp at hd,fun i j d d' hd=>by simp at hd,hfr,Fz.le_refl F,fun b o v hv=>.inl hv,Below.refl _ _,Nat.le_refl _,fun _ h=>h.elim,fun _ h=>h.elim⟩
        refine calls_of_wp hfn hc (V_ok (Nat.le_refl _) c ac hac _ _ _ _ _ F [] h (init_ok hown hg (by rw [hl,hbl]) hbv) fun e st' a' w' F' O' he hr=>?_)
        have key:∀ {s:List AV} {H:Hp},st'=⟨s,H⟩→rsK s H ts (fun vs=>fzA H vs (fun vs' _=>resK vs' (fun v=>ObEq v r)))→a'.defers=[]∧∃ v,(results fn a'.tmps).run P w' = .ok v w'∧∃ v1 F',(Ending.returned v) = .returned v1∧PV F' v1 r∧F.le F'∧(∀ b o v,F' b o=some v→w'.cell? ⟨b,o,none⟩=some v)∧(∀ b o v,F' b o=some v→F b o=some v∨w.heap.size≤b)∧Below w.heap.size w w':=by
          intro s H hst he
          obtain ⟨vs,hvs,he⟩:=rsK_ok he
          obtain ⟨rs,H',hp,he⟩:=fzA_ok he
          rw [resK_eq] at he
          obtain ⟨hrs⟩:=he
          subst hst
          obtain ⟨ys,y1,y2,y3⟩:=results_run hr hts hvs
          obtain ⟨F2,p1,p2,o2,l2⟩:=purA_ok hr.own y2 y3 hp
          refine ⟨hr.defs,_,y1,_,F2,rfl,?_,Fz.le_trans hr.leF l2,o2.fr,fun b o v hv=>(o2.new b o v hv).imp id (·.1),o2.below⟩
          rw [← hrs]
          exact resOf_pv (by omega) p1
        cases e with
        | n=>exact key rfl he
        | r=>exact key rfl he
        | x id=>exact he.elim
      · cases hf
    · cases hf
  · cases hf
theorem pc_ofV {f:FuncId} {af:AF} (hf:copF P hs f=some af) {as_:List AV} {r:AV} (h:initK as_ af.n (fun s=>V P G 0 af.body (EndP af.res r) ⟨s,[]⟩)):PC P G f as_ r :=
  pc_ofV' hf fun w F xs hl hv=>⟨as_,rfl,fun i c a hc ha=>.p (hv i c a hc ha),h⟩
inductive EmL:List AV→List AV→Prop
  | nil:EmL [] []
  | same (a:AV) {as_ bs:List AV} (h:EmL as_ bs):EmL (a::as_) (a::bs)
  | em (b:Bool) (k:Nat) {as_ bs:List AV} (h:EmL as_ bs):EmL (.sl k []::as_) (.em b k::bs)
theorem hc_ofV {f:FuncId} {af:AF} (hf:copF P hs f=some af) {as_:List AV} {H:Hp} {r:AV} {H':Hp} {m:Nat} (hm:H.length=m) (h:initK as_ af.n (fun s=>V P G m af.body (EndH m af.res r H') ⟨s,H⟩)):HC P G f as_ H r H':=by
  unfold copF at hf
  split at hf
  · rename_i fn hfn
    split at hf
    · rename_i c hc
      split at hf
      · rename_i ts ac hts hac
        cases hf
        intro B w0 F0 F O w xs hown hg hl hv
        rw [initK_eq] at h
        have hO:O.length≤m:=by rw [hown.len,hm];exact Nat.le_refl _
        refine calls_of_wp hfn hc (V_ok hO c ac hac _ _ _ _ _ F O h (init_ok hown hg hl hv) fun e st' a' w' F' O' he hr=>?_)
        have key:∀ {s:List AV} {H1:Hp},st'=⟨s,H1⟩→rsK s H1 ts (fun vs=>resK vs (fun v=>ObEnd m v r H1 H'))→a'.defers=[]∧∃ v,(results fn a'.tmps).run P w' = .ok v w'∧∃ v1,(Ending.returned v) = .returned v1∧Out B w0 F0 F O r H' v1 w':=by
          intro s H1 hst hx
          obtain ⟨vs,hvs,hx⟩:=rsK_ok hx
          rw [resK_eq] at hx
          subst hst
          obtain ⟨ys,y1,y2,y3⟩:=results_run hr hts hvs
          rcases hx with ⟨hrs,hH⟩|⟨T,hrr,vw,hb⟩
          · refine ⟨hr.defs, _, y1, _, rfl, F', O', ?_, by rw [← hH]; exact hr.own, hr.leF, hr.leO⟩
            rw [← hrs]
            exact resOf_vr y2 y3
          · obtain ⟨O2, own, hto⟩ := hr.own.view vw
            exact ⟨hr.defs,_,y1,_,rfl,F',O2,(resOf_vr y2 y3).rnB hto hrr,own,hr.leF,leO_view hr.own hO hr.leO hto hb⟩
        cases e with
        | n=>exact key rfl he
        | r=>exact key rfl he
        | x id=>exact he.elim
      · cases hf
    · cases hf
  · cases hf
end
def mx:List AV→List (Nat × Option AV)→List AV
  | s,[]=>s
  | [],_::_=>[]
  | _::s,(0,v)::ms=>v.getD .unk::mx s ms
  | a::s,(g+1,v)::ms=>a::mx s ((g,v)::ms)
def mxK:List AV→List (Nat × Option AV)→(List AV→Prop)→Prop
  | s,[],k=>k s
  | [],_::_,k=>k []
  | _::s,(0,v)::ms,k=>(match v with|none=>mxK s ms (fun s'=>k (.unk::s'))|some v=>mxK s ms (fun s'=>k (v::s')))
  | a::s,(g+1,v)::ms,k=>mxK s ((g,v)::ms) (fun s'=>k (a::s'))
theorem mxK_eq:∀ (s:List AV) (M:List (Nat × Option AV)) (k:List AV→Prop),mxK s M k=k (mx s M)
  | s,[],k=>by cases s<;>simp [mxK,mx]
  | [],_::_,k=>rfl
  | _::s,(0,none)::ms,k=>by simp only [mxK,mx];rw [mxK_eq s ms];rfl
  | _::s,(0,some v)::ms,k=>by simp only [mxK,mx];rw [mxK_eq s ms];rfl
  | a::s,(g+1,v)::ms,k=>by simp only [mxK,mx];rw [mxK_eq s]
inductive ObEqs (a b:List AV) (k:Prop):Prop
  | mk (h:a=b) (hk:k):ObEqs a b k
inductive ObEq1 (a b:AV) (k:Prop):Prop
  | mk (h:a=b) (hk:k):ObEq1 a b k
def fgM:List AV→List AV→List AV→List AV→List (Nat × Option AV)→Prop
  | as_,bs,s,s0,[]=>ObEqs as_ bs (ObEqs s s0 True)
  | as_,bs,a::s,b::s0,(0,v)::ms=>(match v with
    | none=>fgM as_ bs s s0 ms
    | some v=>ObEq1 a v (fgM as_ bs s s0 ms))
  | as_,bs,a::s,b::s0,(g+1,v)::ms=>fgM (a::as_) (b::bs) s s0 ((g,v)::ms)
  | _,_,_,_,_::_=>False
theorem fgM_ok:∀ {M:List (Nat × Option AV)} {as_ bs s s0:List AV},fgM as_ bs s s0 M→as_=bs∧s.length=(mx s0 M).length∧∀ (i:Nat) (b:AV),(mx s0 M)[i]? = some b→b = .unk∨s[i]? = some b
  | [],as_,bs,s,s0,h=>by
    have h':ObEqs as_ bs (ObEqs s s0 True):=by cases s<;>cases s0<;>exact h
    obtain ⟨h1,h2,_⟩:=h'
    subst h2
    have e:mx s []=s:=by cases s<;>rfl
    rw [e]
    exact ⟨h1,rfl,fun i b hb=>.inr hb⟩
  | (0,none)::ms,as_,bs,a::s,b::s0,h=>by
    obtain ⟨h1,h2,h3⟩:=fgM_ok (M:=ms) h
    refine ⟨h1,by simp [mx,h2],fun i c hc=>?_⟩
    cases i with
    | zero=>left;simp [mx] at hc;exact hc.symm
    | succ i=>simp only [mx,List.getElem?_cons_succ] at hc ⊢;exact h3 i c hc
  | (0,some v)::ms,as_,bs,a::s,b::s0,h=>by
    obtain ⟨he,h⟩:=h
    obtain ⟨h1,h2,h3⟩:=fgM_ok (M:=ms) h
    refine ⟨h1,by simp [mx,h2],fun i c hc=>?_⟩
    cases i with
    | zero=>right;simp [mx] at hc;simp [he,hc]
    | succ i=>simp only [mx,List.getElem?_cons_succ] at hc ⊢;exact h3 i c hc
  | (g+1,v)::ms,as_,bs,a::s,b::s0,h=>by
    obtain ⟨h1,h2,h3⟩:=fgM_ok (M:=(g,v)::ms) (as_:=a::as_) (bs:=b::bs) (s:=s) (s0:=s0) h
    simp only [List.cons.injEq] at h1
    refine ⟨h1.2,by simp [mx,h2],fun i c hc=>?_⟩
    cases i with
    | zero=>right;simp [mx] at hc;simp [h1.1,hc]
    | succ i=>simp only [mx,List.getElem?_cons_succ] at hc ⊢;exact h3 i c hc
  | _::_,_,_,[],_,h=>by simp [fgM] at h
  | _::_,_,_,_::_,[],h=>by simp [fgM] at h
theorem Fg.go {m:Nat} {s s0:List AV} {H H2:Hp} {M:List (Nat × Option AV)} (h:fgM [] [] s s0 M) (hH:H=H2):Fg m ⟨s,H⟩ ⟨mx s0 M,H2⟩:=by
  obtain ⟨_,h2,h3⟩:=fgM_ok h
  exact .same h2 h3 hH
def fxC (T:Tb) (a:AV) (k:Prop):Prop :=
  match a with
  | .ol j g _=>ObN (T[j]? = some (g,j,g)) k
  | .oa j g _ _=>ObN (T[j]? = some (g,j,g)) k
  | .agg _=>False
  | .tup _=>False
  | .fn _ _=>False
  | .os ..=>False
  | _=>k
theorem fxC_ok {T:Tb} {a:AV} {k:Prop} (h:fxC T a k):rnC T a=some a∧k:=by
  cases a with
  | ol j g n=>obtain ⟨h1,h2⟩:=h;exact ⟨by simp [rnC,h1],h2⟩
  | oa j g e off=>obtain ⟨h1,h2⟩:=h;exact ⟨by simp [rnC,h1],h2⟩
  | agg=>exact h.elim
  | tup=>exact h.elim
  | fn=>exact h.elim
  | os=>exact h.elim
  | _=>exact ⟨rfl,h⟩
def fxL (T:Tb):List AV→Prop→Prop
  | [],k=>k
  | a::as_,k=>fxC T a (fxL T as_ k)
theorem fxL_ok {T:Tb}:∀ {as_:List AV} {k:Prop},fxL T as_ k→rnL T as_=some as_∧k
  | [],_,h=>⟨rfl,h⟩
  | a::as_,k,h=>by
    obtain ⟨h1,h2⟩:=fxC_ok h
    obtain ⟨h3,h4⟩:=fxL_ok h2
    exact ⟨by simp [rnL,h1,h3],h4⟩
def fxB (T:Tb) (a:AV) (k:Prop):Prop :=
  match a with
  | .agg cs=>fxL T cs k
  | .tup cs=>fxL T cs k
  | .fn _ cs=>fxL T cs k
  | a=>fxC T a k
theorem fxB_ok {T:Tb} {a:AV} {k:Prop} (h:fxB T a k):rnB T a=some a∧k:=by
  cases a with
  | agg cs=>obtain ⟨h1,h2⟩:=fxL_ok h;exact ⟨by simp [rnB,h1],h2⟩
  | tup cs=>obtain ⟨h1,h2⟩:=fxL_ok h;exact ⟨by simp [rnB,rnT_rnL h1],h2⟩
  | fn f cs=>obtain ⟨h1,h2⟩:=fxL_ok h;exact ⟨by simp [rnB,h1],h2⟩
  | _=>simp only [fxB] at h;exact fxC_ok h
def fxs (T:Tb):List AV→Prop→Prop
  | [],k=>k
  | a::as_,k=>fxB T a (fxs T as_ k)
theorem fxs_ok {T:Tb}:∀ {as_:List AV} {k:Prop},fxs T as_ k→(∀ a ∈ as_,rnB T a=some a)∧k
  | [],_,h=>⟨fun a ha=>(by cases ha),h⟩
  | a::as_,k,h=>by
    obtain ⟨h1,h2⟩:=fxB_ok h
    obtain ⟨h3,h4⟩:=fxs_ok h2
    refine ⟨fun b hb=>?_,h4⟩
    rcases List.mem_cons.1 hb with rfl|hb
    · exact h1
    · exact h3 b hb
inductive ObRn (T:Tb) (v a:AV) (k:Prop):Prop
  | mk (h:rnB T v=some a) (hk:k):ObRn T v a k
def fgT (T:Tb):List AV→List AV→List AV→List AV→List (Nat × Option AV)→Prop
  | as_,bs,s,s0,[]=>ObEqs as_ bs (fxs T as_ (ObEqs s s0 (fxs T s True)))
  | as_,bs,a::s,b::s0,(0,v)::ms=>(match v with
    | none=>fgT T as_ bs s s0 ms
    | some v=>ObRn T v a (fgT T as_ bs s s0 ms))
  | as_,bs,a::s,b::s0,(g+1,v)::ms=>fgT T (a::as_) (b::bs) s s0 ((g,v)::ms)
  | _,_,_,_,_::_=>False
theorem fgT_ok {T:Tb}:∀ {M:List (Nat × Option AV)} {as_ bs s s0:List AV},fgT T as_ bs s s0 M→(as_=bs∧∀ a ∈ as_,rnB T a=some a)∧s.length=(mx s0 M).length∧∀ (i:Nat) (b:AV),(mx s0 M)[i]? = some b→b = .unk∨∃ a,s[i]? = some a∧rnB T b=some a
  | [],as_,bs,s,s0,h=>by
    have h':ObEqs as_ bs (fxs T as_ (ObEqs s s0 (fxs T s True))):=by cases s<;>cases s0<;>exact h
    obtain ⟨h1,h2⟩:=h'
    obtain ⟨h3,h4,h5⟩:=fxs_ok h2
    obtain ⟨h6,_⟩:=fxs_ok h5
    subst h4
    have e:mx s []=s:=by cases s<;>rfl
    rw [e]
    exact ⟨⟨h1,h3⟩,rfl,fun i b hb=>.inr ⟨b,hb,h6 b (List.mem_of_getElem? hb)⟩⟩
  | (0,none)::ms,as_,bs,a::s,b::s0,h=>by
    obtain ⟨h1,h2,h3⟩:=fgT_ok (M:=ms) h
    refine ⟨h1,by simp [mx,h2],fun i c hc=>?_⟩
    cases i with
    | zero=>left;simp [mx] at hc;exact hc.symm
    | succ i=>simp only [mx,List.getElem?_cons_succ] at hc ⊢;exact h3 i c hc
  | (0,some v)::ms,as_,bs,a::s,b::s0,h=>by
    obtain ⟨he,h⟩:=h
    obtain ⟨h1,h2,h3⟩:=fgT_ok (M:=ms) h
    refine ⟨h1,by simp [mx,h2],fun i c hc=>?_⟩
    cases i with
    | zero=>right;simp [mx] at hc;exact ⟨a,rfl,by rw [← hc];exact he⟩
    | succ i=>simp only [mx,List.getElem?_cons_succ] at hc ⊢;exact h3 i c hc
  | (g+1,v)::ms,as_,bs,a::s,b::s0,h=>by
    obtain ⟨⟨h1,h1'⟩,h2,h3⟩:=fgT_ok (M:=(g,v)::ms) (as_:=a::as_) (bs:=b::bs) (s:=s) (s0:=s0) h
    simp only [List.cons.injEq] at h1
    refine ⟨⟨h1.2,fun x hx=>h1' x (List.mem_cons_of_mem _ hx)⟩,by simp [mx,h2],fun i c hc=>?_⟩
    cases i with
    | zero=>right;simp [mx] at hc;exact ⟨a,rfl,by rw [← hc,← h1.1];exact h1' a (List.mem_cons_self ..)⟩
    | succ i=>simp only [mx,List.getElem?_cons_succ] at hc ⊢;exact h3 i c hc
  | _::_,_,_,[],_,h=>by simp [fgT] at h
  | _::_,_,_,_::_,[],h=>by simp [fgT] at h
def nrB (a:AV):Bool:=a.cells.all fun c=>match c with
  | .v _=>true
  | .sl _ _=>true
  | .ad _ _ _ _=>true
  | .nl _=>true
  | .em _ _=>true
  | _=>false
theorem nrB_ok {T:Tb} {a:AV} (h:nrB a=true):rnL T a.cells=some a.cells:=by
  unfold nrB at h
  generalize a.cells=cs at h
  induction cs with
  | nil=>rfl
  | cons c cs ih =>
    simp only [List.all_cons,Bool.and_eq_true] at h
    have h1:rnC T c=some c:=by
      cases c with
      | v=>rfl
      | sl=>rfl
      | ad=>rfl
      | nl=>rfl
      | em=>rfl
      | _=>simp at h
    simp [rnL,h1,ih h.2]
inductive ObRow (T:Tb) (es es2:List AV) (k:Prop):Prop
  | same (h:es2=es) (hn:es.all nrB=true) (hk:k):ObRow T es es2 k
  | lit (h:(es2.map fun e=>rnL T e.cells)=es.map fun e=>some e.cells) (hk:k):ObRow T es es2 k
theorem ObRow.ok {T:Tb} {es es2:List AV} {k:Prop} (h:ObRow T es es2 k):(es2.length=es.length∧∀ (n:Nat) (e2:AV),es2[n]? = some e2→∃ e,es[n]? = some e∧rnL T e2.cells=some e.cells)∧k:=by
  rcases h with ⟨rfl,hn,hk⟩|⟨h,hk⟩
  · exact ⟨⟨rfl,fun n e2 he=>⟨e2,he,nrB_ok (List.all_eq_true.1 hn e2 (List.mem_of_getElem? he))⟩⟩,hk⟩
  · have hl : es2.length = es.length := by have := congrArg List.length h; simpa using this
    refine ⟨⟨hl,fun n e2 he=>?_⟩,hk⟩
    have hn:n < es.length:=by rw [← hl];exact (List.getElem?_eq_some_iff.1 he).1
    have:=congrArg (·[n]?) h
    simp only [List.getElem?_map,he,List.getElem?_eq_getElem hn,Option.map_some,Option.some.injEq] at this
    exact ⟨es[n],List.getElem?_eq_getElem hn,this⟩
def vwK (T0:Tb) (H:Hp):Tb→Hp→Prop→Prop
  | [],[],k=>k
  | (g2,i,g)::T,o2::H2,k=>rK H i (fun o=>match o with
    | ⟨e,kk,es,g',fz⟩=>(match o2 with
      | ⟨e2,kk2,es2,g2',fz2⟩=>ObN (g2'=g2) (ObN (g'=g) (ObN (e2=e) (ObN (kk2=kk) (ObN (fz2=fz) (ObRow T0 es es2 (vwK T0 H T H2 k))))))))
  | _,_,_=>False
theorem vwK_ok {T0 : Tb} {H : Hp} : ∀ {T : Tb} {H2 : Hp} {k : Prop}, vwK T0 H T H2 k → (H2.length = T.length ∧ ∀ (j : Nat) (ob2 : OB), H2[j]? = some ob2 → ∃ i g ob, T[j]? = some (ob2.g, i, g) ∧ H[i]? = some ob ∧ ob.g = g ∧ ob2.e = ob.e ∧ ob2.k = ob.k ∧ ob2.fz = ob.fz ∧ ob2.es.length = ob.es.length ∧
    ∀ (n:Nat) (e2:AV),ob2.es[n]? = some e2→∃ e,ob.es[n]? = some e∧rnL T0 e2.cells=some e.cells)∧k
  | [],[],k,h=>⟨⟨rfl,fun j ob2 hj=>by simp at hj⟩,h⟩
  | (g2,i,g)::T,o2::H2,k,h=>by
    obtain ⟨o,h1,h2⟩:=rK_ok h
    obtain ⟨e,kk,es,g',fz⟩:=o
    obtain ⟨e2,kk2,es2,g2',fz2⟩:=o2
    obtain ⟨rfl,rfl,rfl,rfl,rfl,h2⟩:=h2
    obtain ⟨⟨l1,l2⟩,h2⟩:=h2.ok
    obtain ⟨⟨h3,h4⟩,h5⟩:=vwK_ok h2
    refine ⟨⟨by simp [h3],fun j ob2 hj=>?_⟩,h5⟩
    cases j with
    | zero=>simp at hj;subst hj;exact ⟨i,_,_,rfl,h1,rfl,rfl,rfl,rfl,l1,l2⟩
    | succ j=>obtain ⟨i',g',ob,q⟩:=h4 j ob2 (by simpa using hj);exact ⟨i',g',ob,by simpa using q⟩
  | [],_::_,_,h=>h.elim
  | _::_,[],_,h=>h.elim
theorem Vw.of {T:Tb} {H H2:Hp} (h:vwK T H T H2 True) (hn:(T.map (·.2.1)).Nodup):Vw T H H2:=by
  obtain ⟨⟨h1,h2⟩,_⟩:=vwK_ok h
  refine ⟨h1,h2,fun j j' g2 i g g2' g' t1 t2=>?_⟩
  have e1:(T.map (·.2.1))[j]? = some i:=by simp [t1]
  have e2:(T.map (·.2.1))[j']? = some i:=by simp [t2]
  have hj:=List.getElem?_eq_some_iff.1 e1
  have hj':=List.getElem?_eq_some_iff.1 e2
  obtain ⟨q1,q2⟩:=hj
  obtain ⟨q3,q4⟩:=hj'
  have hp:=List.pairwise_iff_getElem.1 hn
  rcases Nat.lt_trichotomy j j' with h|h|h
  · exact absurd (q2.trans q4.symm) (hp j j' q1 q3 h)
  · exact h
  · exact absurd (q4.trans q2.symm) (hp j' j q3 q1 h)
def bsK:Nat→List Nat→Tb→Hp→Prop
  | 0,_,_,_=>True
  | m+1,j::js,(g2,i,g)::T,o::H=>ObO (ObN (i=j) (ObN (g2=g) (bsK m js T H))) (ObN (o.g < g2) (bsK m js T H))
  | _,_,_,_=>False
theorem bsK_aux:∀ (m q:Nat) (js:List Nat) (T:Tb) (H:Hp),(∀ (i n:Nat),js[i]? = some n→n=q+i)→bsK m js T H→∀ j,j < m→∃ g2 i g,T[j]? = some (g2,i,g)∧((i=q+j∧g2=g)∨∃ ob,H[j]? = some ob∧ob.g < g2)
  | 0,_,_,_,_,_,_,j,hj=>by omega
  | m+1,q,j0::js,(g2,i,g)::T,o::H,hn,h,j,hj=>by
    have h0:j0=q:=hn 0 j0 rfl
    have rest:bsK m js T H:=by rcases h with ⟨_,_,h⟩|⟨_,h⟩<;>exact h
    cases j with
    | zero =>
      refine ⟨g2,i,g,rfl,?_⟩
      rcases h with ⟨h1,h2,_⟩|⟨h1,_⟩
      · left;exact ⟨by omega,h2⟩
      · right;exact ⟨o,rfl,h1⟩
    | succ j =>
      obtain ⟨a,b,c,h1,h2⟩:=bsK_aux m (q+1) js T H (fun i n hi=>by have:=hn (i+1) n (by simpa using hi);omega) rest j (by omega)
      exact ⟨a,b,c,by simpa using h1,by rcases h2 with ⟨x,y⟩|h2;exact .inl ⟨by omega,y⟩;exact .inr (by simpa using h2)⟩
theorem Bas.of {m:Nat} {T:Tb} {H:Hp} (h:bsK m nums T H):Bas m T H:=fun j hj=>by
  have:=bsK_aux m 0 nums T H (fun i n hn=>by
    simp only [nums] at hn
    rcases i with _|_|_|_|_|_|_|_|_|_|_|_|_|_|_|_|_|_|_|_|_|_|_|_|_|_|_|_|_|_|_|_|i<;>simp at hn<;>omega) h j hj
  simpa using this
theorem Fg.vw {m:Nat} {s s0:List AV} {H H2:Hp} {M:List (Nat × Option AV)} (T:Tb) (h:fgT T [] [] s s0 M) (v:vwK T H T H2 True) (hn:(T.map (·.2.1)).Nodup) (hb:bsK m nums T H):Fg m ⟨s,H⟩ ⟨mx s0 M,H2⟩:=by
  obtain ⟨_,h2,h3⟩:=fgT_ok h
  exact .view T h2 h3 (Vw.of v hn) (Bas.of hb)
theorem ObEnd.vw {m:Nat} {v r:AV} {H H':Hp} (T:Tb) (h:rnB T r=some v) (w:vwK T H T H' True) (hn:(T.map (·.2.1)).Nodup) (hb:bsK m nums T H):ObEnd m v r H H':=.view T h (Vw.of w hn) (Bas.of hb)
theorem LoopP.go {α : Type} {m : Nat} {Wc : (EX → St → Prop) → St → Prop} {Q : EX → St → Prop} {s : List AV} {H : Hp} (J : α → Prop) (μ : α → Nat) (M : α → List (Nat × Option AV)) (Hc : α → Hp) (a0 : α) (h0 : J a0) (h1 : Fg m ⟨s, H⟩ ⟨mx s (M a0), Hc a0⟩)
    (h2:∀ a,J a→mxK s (M a) (fun s'=>Wc (thenQ (Again m J μ (fun a=>⟨mx s (M a),Hc a⟩) (μ a)) Q) ⟨s',Hc a⟩)):LoopP m Wc Q ⟨s,H⟩ :=
  .mk α J μ (fun a=>⟨mx s (M a),Hc a⟩) a0 h0 h1 fun a ha=>by have:=h2 a ha;rw [mxK_eq] at this;exact this
-- rules
section
variable {t f k:Prop} {p:Prop}
theorem ObB.yes (hp:p) (h:t):ObB p t f:=⟨fun _=>h,fun hn=>absurd hp hn⟩
theorem ObB.no (hp:¬ p) (h:f):ObB p t f:=⟨fun h=>absurd h hp,fun _=>h⟩
theorem ObT.tt (h:t):ObT true t f:=⟨fun _=>h,fun h=>by cases h⟩
theorem ObT.ff (h:f):ObT false t f:=⟨fun h=>(by cases h),fun _=>h⟩
theorem ObT.yes {b:Bool} (hb:b=true) (h:t):ObT b t f:=⟨fun _=>h,fun h=>by rw [hb] at h;cases h⟩
theorem ObT.no {b:Bool} (hb:b=false) (h:f):ObT b t f:=⟨fun h=>(by rw [hb] at h;cases h),fun _=>h⟩
theorem ObT.dec {p:Prop} [Decidable p] (ht:p→t) (hf:¬ p→f):ObT (decide p) t f:=⟨fun h=>ht (of_decide_eq_true h),fun h=>hf (of_decide_eq_false h)⟩
end
section
variable {k:Int→Prop} {a b n:Nat}
theorem ObI.nn (h:a+b≤9223372036854775807) (hk:k ((a+b:Nat):Int)):ObI ((a:Int)+(b:Int)) k:=.mk (_) (by simp) (by omega) (by omega) (hk)
theorem ObI.nl (h:a+(OfNat.ofNat n:Nat)≤9223372036854775807) (hk:k ((a+(OfNat.ofNat n:Nat):Nat):Int)):ObI ((a:Int)+(@OfNat.ofNat Int n _)) k:=.mk (((a+(OfNat.ofNat n:Nat):Nat):Int)) (by rw [Int.natCast_add];rfl) (by have:=Int.natCast_nonneg (a+(OfNat.ofNat n:Nat));omega) (by generalize (OfNat.ofNat n:Nat)=q at *;omega) (hk)
theorem ObI.sn (h:b≤a) (h2:a≤9223372036854775807) (hk:k ((a - b:Nat):Int)):ObI ((a:Int) - (b:Int)) k:=.mk (_) (by omega) (by omega) (by omega) (hk)
theorem ObI.sl (h:(OfNat.ofNat n:Nat)≤a) (h2:a≤9223372036854775807) (hk:k ((a - (OfNat.ofNat n:Nat):Nat):Int)):ObI ((a:Int) - (@OfNat.ofNat Int n _)) k:=.mk (((a - (OfNat.ofNat n:Nat):Nat):Int)) (by rw [Int.natCast_sub h];rfl) (by have:=Int.natCast_nonneg (a - (OfNat.ofNat n:Nat));omega) (by generalize (OfNat.ofNat n:Nat)=q at *;omega) (hk)
theorem ObZ.ml (hk:k ((a % (OfNat.ofNat n:Nat):Nat):Int)):ObZ (Int.tmod (a:Int) (@OfNat.ofNat Int n _)) k:=⟨((a % (OfNat.ofNat n:Nat):Nat):Int),by rw [Int.tmod_eq_emod_of_nonneg (by omega)];rfl,hk⟩
theorem ObZ.mn (hk:k ((a % b:Nat):Int)):ObZ (Int.tmod (a:Int) (b:Int)) k:=⟨((a % b:Nat):Int),by rw [Int.tmod_eq_emod_of_nonneg (by omega)];rfl,hk⟩
theorem ObI.dl (h2:a≤9223372036854775807) (hk:k ((a / (OfNat.ofNat n:Nat):Nat):Int)):ObI (Int.tdiv (a:Int) (@OfNat.ofNat Int n _)) k:=.mk (((a / (OfNat.ofNat n:Nat):Nat):Int)) (by rw [Int.tdiv_eq_ediv_of_nonneg (by omega)];rfl) (by have:=Int.natCast_nonneg (a / (OfNat.ofNat n:Nat));omega) (by have:=Nat.div_le_self a (OfNat.ofNat n:Nat);omega) (hk)
end
theorem ObEq1.i {kd:IntKind} {x y:Int} {k:Prop} (h:x=y) (hk:k):ObEq1 (.v (.int kd x)) (.v (.int kd y)) k:=⟨by rw [h],hk⟩
theorem ObEq1.o {i g n n':Nat} {k:Prop} (h:n=n') (hk:k):ObEq1 (.ol i g n) (.ol i g n') k:=⟨by rw [h],hk⟩
theorem ObEq.i {kd:IntKind} {x y:Int} (h:x=y):ObEq (.v (.int kd x)) (.v (.int kd y)):=⟨by rw [h]⟩
theorem ObZ.wu {n:Nat} {k:Int→Prop} (h:n≤18446744073709551615) (hk:k (n:Int)):ObZ (IntKind.u64.wrap (n:Int)) k:=⟨(n:Int),IntWalk.u64_in _ (by omega),hk⟩
theorem ObZ.wi {x:Int} {k:Int→Prop} (h : -9223372036854775808≤x) (h':x≤9223372036854775807) (hk:k x):ObZ (IntKind.i64.wrap x) k:=⟨x,wrapI h h',hk⟩
theorem ObX.lit {n len:Nat} {k:Nat→Prop} (h:(OfNat.ofNat n:Nat) < len) (hk:k (OfNat.ofNat n:Nat)):ObX (@OfNat.ofNat Int n _) len k:=⟨(OfNat.ofNat n:Nat),rfl,h,hk⟩
theorem ObX.int {x:Int} {len:Nat} {k:Nat→Prop} (h0:0≤x) (h:x.toNat < len) (hk:k x.toNat):ObX x len k:=⟨x.toNat,by omega,h,hk⟩
theorem ObY.lit {n len:Nat} {k:Nat→Prop} (h:(OfNat.ofNat n:Nat)≤len) (hk:k (OfNat.ofNat n:Nat)):ObY (@OfNat.ofNat Int n _) len k:=⟨(OfNat.ofNat n:Nat),rfl,h,hk⟩
theorem ObY.int {x:Int} {len:Nat} {k:Nat→Prop} (h0:0≤x) (h:x.toNat≤len) (hk:k x.toNat):ObY x len k:=⟨x.toNat,by omega,h,hk⟩
theorem ObR.map {α:Type} {l:List α} {g:α→AV} {i:Nat} {k:AV→Prop} (h:i < l.length) (hk:∀ x,l[i]? = some x→k (g x)):ObR (l.map g) i k:=⟨g l[i],by simp [h],hk _ (List.getElem?_eq_getElem h)⟩
section
variable {n a b:Nat} {k:Nat→Nat→Prop}
theorem ObJ.zz (hk:k 0 n):ObJ n none none k:=⟨0,n,rfl,rfl,Nat.zero_le _,Nat.le_refl _,hk⟩
theorem ObJ.nz (h:a≤n) (hk:k a n):ObJ n (some (a:Int)) none k:=⟨a,n,rfl,rfl,h,Nat.le_refl _,hk⟩
theorem ObJ.zn (h:b≤n) (hk:k 0 b):ObJ n none (some (b:Int)) k:=⟨0,b,rfl,rfl,Nat.zero_le _,h,hk⟩
theorem ObJ.nn (h:a≤b) (h2:b≤n) (hk:k a b):ObJ n (some (a:Int)) (some (b:Int)) k:=⟨a,b,rfl,rfl,h,h2,hk⟩
theorem ObJ.lz (h:(OfNat.ofNat a:Nat)≤n) (hk:k (OfNat.ofNat a:Nat) n):ObJ n (some (@OfNat.ofNat Int a _)) none k:=⟨(OfNat.ofNat a:Nat),n,rfl,rfl,h,Nat.le_refl _,hk⟩
theorem ObJ.zl (h:(OfNat.ofNat b:Nat)≤n) (hk:k 0 (OfNat.ofNat b:Nat)):ObJ n none (some (@OfNat.ofNat Int b _)) k:=⟨0,(OfNat.ofNat b:Nat),rfl,rfl,Nat.zero_le _,h,hk⟩
theorem ObJ.nl (h:a≤(OfNat.ofNat b:Nat)) (h2:(OfNat.ofNat b:Nat)≤n) (hk:k a (OfNat.ofNat b:Nat)):ObJ n (some (a:Int)) (some (@OfNat.ofNat Int b _)) k:=⟨a,(OfNat.ofNat b:Nat),rfl,rfl,h,h2,hk⟩
theorem ObJ.ln (h:(OfNat.ofNat a:Nat)≤b) (h2:b≤n) (hk:k (OfNat.ofNat a:Nat) b):ObJ n (some (@OfNat.ofNat Int a _)) (some (b:Int)) k:=⟨(OfNat.ofNat a:Nat),b,rfl,rfl,h,h2,hk⟩
theorem ObJ.ll (h:(OfNat.ofNat a:Nat)≤(OfNat.ofNat b:Nat)) (h2:(OfNat.ofNat b:Nat)≤n) (hk:k (OfNat.ofNat a:Nat) (OfNat.ofNat b:Nat)):ObJ n (some (@OfNat.ofNat Int a _)) (some (@OfNat.ofNat Int b _)) k:=⟨(OfNat.ofNat a:Nat),(OfNat.ofNat b:Nat),rfl,rfl,h,h2,hk⟩
end
section
variable {s:ByteArray} {a b:Nat} {k:ByteArray→Prop}
theorem ObG.nz (h:a≤s.size) (s':ByteArray) (hs:s.extract a s.size=s') (hk:k s'):ObG s (some (a:Int)) none k:=⟨a,s.size,rfl,rfl,h,Nat.le_refl _,s',hs,hk⟩
theorem ObG.zn (h:b≤s.size) (s':ByteArray) (hs:s.extract 0 b=s') (hk:k s'):ObG s none (some (b:Int)) k:=⟨0,b,rfl,rfl,Nat.zero_le _,h,s',hs,hk⟩
theorem ObG.nn (h:a≤b) (h2:b≤s.size) (s':ByteArray) (hs:s.extract a b=s') (hk:k s'):ObG s (some (a:Int)) (some (b:Int)) k:=⟨a,b,rfl,rfl,h,h2,s',hs,hk⟩
theorem ObG.lz (h:(OfNat.ofNat a:Nat)≤s.size) (s':ByteArray) (hs:s.extract (OfNat.ofNat a:Nat) s.size=s') (hk:k s'):ObG s (some (@OfNat.ofNat Int a _)) none k:=⟨(OfNat.ofNat a:Nat),s.size,rfl,rfl,h,Nat.le_refl _,s',hs,hk⟩
theorem ObG.zl (h:(OfNat.ofNat b:Nat)≤s.size) (s':ByteArray) (hs:s.extract 0 (OfNat.ofNat b:Nat)=s') (hk:k s'):ObG s none (some (@OfNat.ofNat Int b _)) k:=⟨0,(OfNat.ofNat b:Nat),rfl,rfl,Nat.zero_le _,h,s',hs,hk⟩
theorem ObG.nl (h:a≤(OfNat.ofNat b:Nat)) (h2:(OfNat.ofNat b:Nat)≤s.size) (s':ByteArray) (hs:s.extract a (OfNat.ofNat b:Nat)=s') (hk:k s'):ObG s (some (a:Int)) (some (@OfNat.ofNat Int b _)) k:=⟨a,(OfNat.ofNat b:Nat),rfl,rfl,h,h2,s',hs,hk⟩
theorem ObG.ln (h:(OfNat.ofNat a:Nat)≤b) (h2:b≤s.size) (s':ByteArray) (hs:s.extract (OfNat.ofNat a:Nat) b=s') (hk:k s'):ObG s (some (@OfNat.ofNat Int a _)) (some (b:Int)) k:=⟨(OfNat.ofNat a:Nat),b,rfl,rfl,h,h2,s',hs,hk⟩
theorem ObG.ll (h:(OfNat.ofNat a:Nat)≤(OfNat.ofNat b:Nat)) (h2:(OfNat.ofNat b:Nat)≤s.size) (s':ByteArray) (hs:s.extract (OfNat.ofNat a:Nat) (OfNat.ofNat b:Nat)=s') (hk:k s'):ObG s (some (@OfNat.ofNat Int a _)) (some (@OfNat.ofNat Int b _)) k:=⟨(OfNat.ofNat a:Nat),(OfNat.ofNat b:Nat),rfl,rfl,h,h2,s',hs,hk⟩
end
section
variable {P:Program} {G:Nat→AV} {as_:List AV} {H:Hp}
theorem ObC.f (f:FuncId) {k:AV→Prop} (h:ObC P G f as_ k):ObC P G f as_ k:=h
theorem ObH.f (f:FuncId) {k:KK} (h:ObH P G f as_ H k):ObH P G f as_ H k:=h
theorem ObM.f (f:FuncId) {k:KK} (h:ObM P G f as_ H k):ObM P G f as_ H k:=h
theorem ObE.cv {s d:TypeId} {e:TypeDesc} {kd kd':IntKind} {n:Int} {k:KK} (hs:P.underlying s=some e) (hd:P.underlying d=some (.int kd)) (h:ObZ (kd.wrap n) (fun z=>k (.v (.int kd z)) H)):ObE ((ap1 (fun v=>pureRun P (convert s d v)) (.v (.int kd' n))).map (·,H)) k:=by
  obtain ⟨z,rfl,hk⟩:=h
  exact ⟨_,_,by simp only [ap1,conc,cV_int hs hd];rfl,hk⟩
theorem ObE.min {ats:Array TypeId} {ty:TypeId} {cs:Array Bool} {x y:Int} {k:KK} (h:ObZ (if y < x then y else x) (fun z=>k (.v (.int .i64 z)) H)):ObE (biE P .min ats ty cs [.v (.int .i64 x),.v (.int .i64 y)] H) k:=by
  obtain ⟨z,rfl,hk⟩:=h
  exact ⟨_,_,rfl,hk⟩
theorem ObE.max {ats:Array TypeId} {ty:TypeId} {cs:Array Bool} {x y:Int} {k:KK} (h:ObZ (if x < y then y else x) (fun z=>k (.v (.int .i64 z)) H)):ObE (biE P .max ats ty cs [.v (.int .i64 x),.v (.int .i64 y)] H) k:=by
  obtain ⟨z,rfl,hk⟩:=h
  exact ⟨_,_,rfl,hk⟩
end
end Go.Proofs.Ytnammfeiehikfaa.Sim
namespace Go.Proofs.Ytnammfeiehikfaa.Sim
open Go.RowKit
def bkC (ρ:Nat→Nat):AV→Option AV
  | .ol j g n=>some (.ol (ρ j) g n)
  | .os j g lo n=>some (.os (ρ j) g lo n)
  | .oa j g e off=>some (.oa (ρ j) g e off)
  | .agg _|.tup _|.fn _ _=>none
  | a=>some a
def bkL (ρ:Nat→Nat):List AV→Option (List AV)
  | []=>some []
  | a::as_=>(match bkC ρ a,bkL ρ as_ with|some b,some bs=>some (b::bs)|_,_=>none)
def bkA (ρ:Nat→Nat):AV→Option AV
  | .agg cs=>(match bkL ρ cs with|some cs'=>some (.agg cs')|none=>none)
  | a=>bkC ρ a
def bkT (ρ:Nat→Nat):List AV→Option (List AV)
  | []=>some []
  | a::as_=>(match bkA ρ a,bkT ρ as_ with|some b,some bs=>some (b::bs)|_,_=>none)
def bkB (ρ:Nat→Nat):AV→Option AV
  | .agg cs=>(match bkL ρ cs with|some cs'=>some (.agg cs')|none=>none)
  | .tup cs=>(match bkT ρ cs with|some cs'=>some (.tup cs')|none=>none)
  | .fn f cs=>(match bkL ρ cs with|some cs'=>some (.fn f cs')|none=>none)
  | a=>bkC ρ a
def BkO (ρ:Nat→Nat) (O O2:Ow):Prop:=∀ (j:Nat) (d:Ds),O[j]? = some d→O2[ρ j]? = some d
theorem VR.bkC {F:Fz} {O O2:Ow} {ρ:Nat→Nat} (hT:BkO ρ O O2) {x:Value} {a b:AV} (h:VR F O x a) (hb:bkC ρ a=some b):VR F O2 x b:=by
  cases a with
  | agg=>cases hb
  | tup=>cases hb
  | fn=>cases hb
  | ol j g n =>
    cases hb
    cases h with
    | p h=>cases h
    | ol x i g m d hd hg h1 hh=>exact .ol x _ g _ d (hT _ _ hd) hg h1 hh
  | os j g lo n =>
    cases hb
    cases h with
    | p h=>cases h
    | os x i g lo n d hd hg h1 hh=>exact .os x _ g lo n d (hT _ _ hd) hg h1 hh
  | oa j g e off =>
    cases hb
    cases h with
    | p h=>cases h
    | oa x i g e off d hd hg h1 hh=>exact .oa x _ g e off d (hT _ _ hd) hg h1 hh
  | unk=>cases hb;exact .unk x
  | nl k =>
    cases hb
    cases h with
    | p h=>exact .p h
    | nl k=>exact .nl k
  | em q k =>
    cases hb
    cases h with
    | p h=>exact .p h
    | em A c q k hb hm=>exact .em A c q k hb hm
  | v y=>cases hb;exact .p (h.pvC0 rfl)
  | sl k es=>cases hb;exact .p (h.pvC0 rfl)
  | ad k es i off=>cases hb;exact .p (h.pvC0 rfl)
theorem bkL_at {ρ:Nat→Nat}:∀ {as_ bs:List AV},bkL ρ as_=some bs→as_.length=bs.length∧∀ (i:Nat) (b:AV),bs[i]? = some b→∃ a,as_[i]? = some a∧bkC ρ a=some b
  | [],bs,h=>by cases h;exact ⟨rfl,fun i b hb=>by simp at hb⟩
  | a::as_,bs,h=>by
    simp only [bkL] at h
    split at h
    · rename_i b bs' h1 h2
      cases h
      obtain ⟨l,r⟩:=bkL_at h2
      refine ⟨by simp [l],fun i c hc=>?_⟩
      cases i with
      | zero=>simp at hc;subst hc;exact ⟨a,rfl,h1⟩
      | succ i=>obtain ⟨y,q1,q2⟩:=r i c (by simpa using hc);exact ⟨y,by simpa using q1,q2⟩
    · cases h
theorem bkC_one {ρ:Nat→Nat} {a b:AV} (h:bkC ρ a=some b) (ha:a.one=true):b.one=true:=by
  cases a with
  | agg=>cases ha
  | tup=>cases ha
  | unk=>cases ha
  | fn=>cases h
  | _=>cases h;rfl
theorem bkT_at {ρ:Nat→Nat}:∀ {as_ bs:List AV},bkT ρ as_=some bs→as_.length=bs.length∧∀ (i:Nat) (b:AV),bs[i]? = some b→∃ a,as_[i]? = some a∧bkA ρ a=some b
  | [],bs,h=>by cases h;exact ⟨rfl,fun i b hb=>by simp at hb⟩
  | a::as_,bs,h=>by
    simp only [bkT] at h
    split at h
    · rename_i b bs' h1 h2
      cases h
      obtain ⟨l,r⟩:=bkT_at h2
      refine ⟨by simp [l],fun i c hc=>?_⟩
      cases i with
      | zero=>simp at hc;subst hc;exact ⟨a,rfl,h1⟩
      | succ i=>obtain ⟨y,q1,q2⟩:=r i c (by simpa using hc);exact ⟨y,by simpa using q1,q2⟩
    · cases h
theorem VR.bkA {F:Fz} {O O2:Ow} {ρ:Nat→Nat} (hT:BkO ρ O O2) {x:Value} {a b:AV} (h:VR F O x a) (hb:bkA ρ a=some b):VR F O2 x b:=by
  have cells:∀ {cs bs:List AV} {ys:List Value},bkL ρ cs=some bs→(∀ (i:Nat) (c:Value) (a:AV),ys[i]? = some c→cs[i]? = some a→VR F O c a)→∀ (i:Nat) (c:Value) (b:AV),ys[i]? = some c→bs[i]? = some b→VR F O2 c b:=fun hl hv i c b hc hb=>by
    obtain ⟨a,h1,h2⟩:=(bkL_at hl).2 i b hb
    exact (hv i c a hc h1).bkC hT h2
  have one:∀ {cs bs:List AV},bkL ρ cs=some bs→(∀ a ∈ cs,AV.one a=true)→∀ b ∈ bs,AV.one b=true:=fun {cs bs} hl ho b hb=>by
    obtain ⟨i,hi,rfl⟩:=List.getElem_of_mem hb
    obtain ⟨a,h1,h2⟩:=(bkL_at hl).2 i bs[i] (List.getElem?_eq_getElem hi)
    exact bkC_one h2 (ho a (List.mem_of_getElem? h1))
  cases a with
  | agg cs =>
    simp only [Sim.bkA] at hb
    split at hb
    · rename_i bs hl
      cases hb
      cases h with
      | p h =>
        cases h with
        | agg ys cs hl' h1 h=>exact .agg ys bs (by rw [hl',(bkL_at hl).1]) (one hl h1) (cells hl fun i c a hc ha=>.p (h i c a hc ha))
      | agg ys cs hl' h1 h=>exact .agg ys bs (by rw [hl',(bkL_at hl).1]) (one hl h1) (cells hl h)
    · cases hb
  | _=>exact h.bkC hT hb
theorem VR.bkB {F:Fz} {O O2:Ow} {ρ:Nat→Nat} (hT:BkO ρ O O2) {x:Value} {a b:AV} (h:VR F O x a) (hb:bkB ρ a=some b):VR F O2 x b:=by
  have cells:∀ {cs bs:List AV} {ys:List Value},bkL ρ cs=some bs→(∀ (i:Nat) (c:Value) (a:AV),ys[i]? = some c→cs[i]? = some a→VR F O c a)→∀ (i:Nat) (c:Value) (b:AV),ys[i]? = some c→bs[i]? = some b→VR F O2 c b:=fun hl hv i c b hc hb=>by
    obtain ⟨a,h1,h2⟩:=(bkL_at hl).2 i b hb
    exact (hv i c a hc h1).bkC hT h2
  have one:∀ {cs bs:List AV},bkL ρ cs=some bs→(∀ a ∈ cs,AV.one a=true)→∀ b ∈ bs,AV.one b=true:=fun {cs bs} hl ho b hb=>by
    obtain ⟨i,hi,rfl⟩:=List.getElem_of_mem hb
    obtain ⟨a,h1,h2⟩:=(bkL_at hl).2 i bs[i] (List.getElem?_eq_getElem hi)
    exact bkC_one h2 (ho a (List.mem_of_getElem? h1))
  have cellsT:∀ {cs bs:List AV} {ys:List Value},bkT ρ cs=some bs→(∀ (i:Nat) (c:Value) (a:AV),ys[i]? = some c→cs[i]? = some a→VR F O c a)→∀ (i:Nat) (c:Value) (b:AV),ys[i]? = some c→bs[i]? = some b→VR F O2 c b:=fun hl hv i c b hc hb=>by
    obtain ⟨a,h1,h2⟩:=(bkT_at hl).2 i b hb
    exact (hv i c a hc h1).bkA hT h2
  cases a with
  | agg cs=>exact h.bkA hT hb
  | tup cs =>
    simp only [Sim.bkB] at hb
    split at hb
    · rename_i bs hl
      cases hb
      cases h with
      | p h =>
        cases h with
        | tup ys cs hl' h=>exact .tup ys bs (by rw [hl',(bkT_at hl).1]) (cellsT hl fun i c a hc ha=>.p (h i c a hc ha))
      | tup ys cs hl' h=>exact .tup ys bs (by rw [hl',(bkT_at hl).1]) (cellsT hl h)
    · cases hb
  | fn f cs =>
    simp only [Sim.bkB] at hb
    split at hb
    · rename_i bs hl
      cases hb
      cases h with
      | p h =>
        cases h with
        | fn f ys cs hl' h=>exact .fn f ys bs (by rw [hl',(bkL_at hl).1]) (cells hl fun i c a hc ha=>.p (h i c a hc ha))
      | fn f ys cs hl' h=>exact .fn f ys bs (by rw [hl',(bkL_at hl).1]) (cells hl h)
    · cases hb
  | _=>exact h.bkC hT hb
def rho (T:Tb) (N:Nat) (j:Nat):Nat:=match T[j]? with|some (_,i,_)=>i|none=>N+(j - T.length)
structure Bk (T:Tb) (Hb Hl' Hb':Hp):Prop where
  len:T.length≤Hl'.length
  len2:Hb'.length=Hb.length+(Hl'.length - T.length)
  row:∀ (j:Nat) (ob:OB),Hl'[j]? = some ob→∃ ob2,Hb'[rho T Hb.length j]? = some ob2∧ob2.e=ob.e∧ob2.k=ob.k∧ob2.g=ob.g∧ob2.fz=ob.fz∧ob2.es.length=ob.es.length∧∀ (n:Nat) (e2:AV),ob2.es[n]? = some e2→∃ e,ob.es[n]? = some e∧bkL (rho T Hb.length) e.cells=some e2.cells
  rest:∀ J,J < Hb.length→(∀ j,j < T.length→rho T Hb.length j ≠ J)→Hb'[J]? = Hb[J]?
section
variable {P:Program} {G:Nat→AV}
theorem HC.frame {f : FuncId} {asl as_ : List AV} {Hl Hl' Hb Hb' : Hp} {r r' : AV} (T : Tb) (h : HC P G f asl Hl r Hl') (hv : Vw T Hb Hl) (hid : ∀ (j g2 i g : Nat), T[j]? = some (g2, i, g) → g2 = g)
    (hal:as_.length=asl.length) (ha:∀ (i:Nat) (b:AV),asl[i]? = some b→∃ a,as_[i]? = some a∧rnB T b=some a) (hr:bkB (rho T Hb.length) r=some r') (hbk:Bk T Hb Hl' Hb'):HC P G f as_ Hb r' Hb':=by
  intro B w0 F0 F O w xs hown hg hl hvx
  obtain ⟨O2,own2,hto⟩:=hown.view hv
  have hTlt:∀ {j g2 i g:Nat},T[j]? = some (g2,i,g)→i < Hb.length:=fun {j g2 i g} ht=>by
    obtain ⟨d,h1,_⟩:=hto j g2 i g ht
    rw [← hown.len];exact (List.getElem?_eq_some_iff.1 h1).1
  have hTat:∀ {j:Nat},j < T.length→∃ g2 i g,T[j]? = some (g2,i,g)∧rho T Hb.length j=i:=fun {j} hj=>by
    refine ⟨T[j].1,T[j].2.1,T[j].2.2,List.getElem?_eq_getElem hj,?_⟩
    simp only [rho,List.getElem?_eq_getElem hj]
  have rhoNew:∀ {j:Nat},T.length≤j→rho T Hb.length j=Hb.length+(j - T.length):=fun {j} hj=>by
    simp only [rho,List.getElem?_eq_none hj]
  have rhoInj:∀ {j j':Nat},rho T Hb.length j=rho T Hb.length j'→j=j':=fun {j j'} he=>by
    by_cases h1:j < T.length<;>by_cases h2:j' < T.length
    · obtain ⟨a, i, b, t1, e1⟩ := hTat h1
      obtain ⟨a',i',b',t2,e2⟩:=hTat h2
      rw [e1,e2] at he
      subst he
      exact hv.inj j j' _ _ _ _ _ t1 t2
    · obtain ⟨a, i, b, t1, e1⟩ := hTat h1
      rw [e1,rhoNew (by omega)] at he
      have:=hTlt t1
      omega
    · obtain ⟨a, i, b, t1, e1⟩ := hTat h2
      rw [e1,rhoNew (by omega)] at he
      have:=hTlt t1
      omega
    · rw [rhoNew (by omega), rhoNew (by omega)] at he
      omega
  -- the blocks that the call keeps
  have own3:Own ⟨B.n,fun b=>B.K b∨∃ J d,O[J]? = some d∧d.b=b∧∀ j,j < T.length→rho T Hb.length j ≠ J⟩ w F F O2 Hl w:=by
    refine ⟨own2.len,fun j d ob hd ho=>?_,own2.inj,own2.fr,Fz.le_refl F,fun b o v hv=>.inl hv,Below.refl _ _,hown.size,fun _ _=>rfl,fun b hk=>?_⟩
    · have rr := own2.row j d ob hd ho
      refine { rr with hB:=⟨rr.hB.1,?_⟩ }
      rintro (hk|⟨J,d',h1,h2,h3⟩)
      · exact rr.hB.2 hk
      · have hj : j < T.length := by rw [← hv.len]; exact (List.getElem?_eq_some_iff.1 ho).1
        obtain ⟨g2,i,g,t1,e1⟩:=hTat hj
        obtain ⟨d0,q1,q2,q3⟩:=hto j g2 i g t1
        rw [hd] at q3
        cases q3
        have:=hown.inj J i d' d0 h1 q1 h2
        exact h3 j hj (by rw [e1,this])
    · rcases hk with hk | ⟨J, d, h1, rfl, _⟩
      · exact Nat.lt_of_lt_of_le (hown.kb b hk) hown.below.size
      · have hJ : J < Hb.length := by rw [← hown.len]; exact (List.getElem?_eq_some_iff.1 h1).1
        exact (hown.row J d Hb[J] h1 (List.getElem?_eq_getElem hJ)).lt
  have hcall:=h _ w F F O2 w xs own3 hg (by rw [hl,hal]) fun i c b hc hb=>by
    obtain ⟨a,q1,q2⟩:=ha i b hb
    exact (hvx i c a hc q1).rnB hto q2
  refine hcall.mono ?_
  rintro e w' ⟨v,rfl,F',O3,hvr,own4,lF,lO⟩
  refine ⟨v,rfl,F',?_⟩
  have l3:O3.length=Hl'.length:=own4.len
  -- the rows' places
  obtain ⟨O',hO'⟩:∃ O':Ow,O'=(List.range Hb'.length).map fun J=>match (List.range Hl'.length).find? (fun j=>rho T Hb.length j == J) with|some j=>O3.getD j ⟨0,0,0,0⟩|none=>O.getD J ⟨0,0,0,0⟩:=⟨_,rfl⟩
  have lO':O'.length=Hb'.length:=by rw [hO'];simp
  have rhoLt:∀ {j:Nat},j < Hl'.length→rho T Hb.length j < Hb'.length:=fun {j} hj=>by
    by_cases h1:j < T.length
    · obtain ⟨a, i, b, t1, e1⟩ := hTat h1
      rw [e1,hbk.len2]
      have:=hTlt t1
      omega
    · rw [rhoNew (by omega),hbk.len2];omega
  have img:∀ {j:Nat},j < Hl'.length→O'[rho T Hb.length j]? = O3[j]?:=fun {j} hj=>by
    have hf:(List.range Hl'.length).find? (fun j'=>rho T Hb.length j' == rho T Hb.length j)=some j:=by
      cases hq:(List.range Hl'.length).find? (fun j'=>rho T Hb.length j' == rho T Hb.length j) with
      | none =>
        have:=List.find?_eq_none.1 hq j (by simpa using hj)
        simp at this
      | some j' =>
        have:=List.find?_some hq
        have e:j'=j:=rhoInj (by simpa using this)
        rw [e]
    rw [hO',List.getElem?_map,List.getElem?_range (rhoLt hj)]
    simp only [Option.map_some,hf]
    rw [List.getD_eq_getElem?_getD,List.getElem?_eq_getElem (by omega)]
    rfl
  have out:∀ {J:Nat},J < Hb.length→(∀ j,j < T.length→rho T Hb.length j ≠ J)→O'[J]? = O[J]?:=fun {J} hJ hn=>by
    have hf:(List.range Hl'.length).find? (fun j'=>rho T Hb.length j' == J)=none:=by
      rw [List.find?_eq_none]
      intro j hj hh
      have hh:rho T Hb.length j=J:=by simpa using hh
      by_cases h1:j < T.length
      · exact hn j h1 hh
      · rw [rhoNew (by omega)] at hh;omega
    rw [hO',List.getElem?_map,List.getElem?_range (by rw [hbk.len2];omega)]
    simp only [Option.map_some,hf]
    have:J < O.length:=by rw [hown.len];exact hJ
    rw [List.getD_eq_getElem?_getD,List.getElem?_eq_getElem this]
    rfl
  have cases3:∀ J,J < Hb'.length→(∃ j,j < Hl'.length∧rho T Hb.length j=J)∨(J < Hb.length∧∀ j,j < T.length→rho T Hb.length j ≠ J):=fun J hJ=>by
    by_cases hx:∃ j,j < Hl'.length∧rho T Hb.length j=J
    · exact .inl hx
    · right
      have hn:∀ j,j < T.length→rho T Hb.length j ≠ J:=fun j hj he=>hx ⟨j,by have:=hbk.len;omega,he⟩
      refine ⟨?_,hn⟩
      rcases Nat.lt_or_ge J Hb.length with h1|h1
      · exact h1
      · exfalso
        rw [hbk.len2] at hJ
        exact hx ⟨T.length+(J - Hb.length),by omega,by rw [rhoNew (by omega)];omega⟩
  have bo:BkO (rho T Hb.length) O3 O':=fun j d hd=>by
    rw [img (by rw [← l3];exact (List.getElem?_eq_some_iff.1 hd).1)];exact hd
  have leO:O.le O':=fun J d hd=>by
    have hJ:J < Hb.length:=by rw [← hown.len];exact (List.getElem?_eq_some_iff.1 hd).1
    by_cases hx:∃ j,j < T.length∧rho T Hb.length j=J
    · obtain ⟨j, hj, he⟩ := hx
      obtain ⟨g2,i,g,t1,e1⟩:=hTat hj
      obtain ⟨d0,q1,q2,q3⟩:=hto j g2 i g t1
      have:i=J:=by rw [← e1,he]
      subst this
      rw [hd] at q1
      cases q1
      have hid':=hid j g2 i g t1
      subst hid'
      have e3:(⟨d.b,d.C,g2,d.k⟩:Ds)=d:=by rw [← q2]
      rw [e3] at q3
      obtain ⟨d',k1,k2,k3⟩:=lO j d q3
      exact ⟨d',by rw [← he,img (by have:=hbk.len;omega)];exact k1,k2,k3⟩
    · exact ⟨d,by rw [out hJ (fun j hj he=>hx ⟨j,hj,he⟩)];exact hd,Nat.le_refl _,fun _=>rfl⟩
  have inK:∀ {J:Nat} {d:Ds},O[J]? = some d→(∀ j,j < T.length→rho T Hb.length j ≠ J)→B.K d.b∨∃ J' d',O[J']? = some d'∧d'.b=d.b∧∀ j,j < T.length→rho T Hb.length j ≠ J':=fun {J d} hd hn=>.inr ⟨J,d,hd,rfl,hn⟩
  refine ⟨O',hvr.bkB bo hr,⟨lO',fun J d ob2 hd ho=>?_,fun J J' d d' hd hd' hb=>?_,own4.fr,Fz.le_trans hown.le lF,fun b o v hv=>?_,hown.below.trans own4.below,own4.size,fun b hk=>?_,hown.kb⟩,lF,leO⟩
  · have hJ : J < Hb'.length := (List.getElem?_eq_some_iff.1 ho).1
    rcases cases3 J hJ with ⟨j,hj,rfl⟩|⟨hJ2,hn⟩
    · rw [img hj] at hd
      obtain ⟨ob2',k1,k2,k3,k4,k5,k6,k7⟩:=hbk.row j Hl'[j] (List.getElem?_eq_getElem hj)
      rw [ho] at k1
      cases k1
      have rr:=own4.row j d Hl'[j] hd (List.getElem?_eq_getElem hj)
      obtain ⟨cur,c1,c2,c3⟩:=rr.cur
      refine ⟨by rw [k4];exact rr.hg,by rw [k3];exact rr.hk,⟨rr.hB.1,fun hk=>rr.hB.2 (.inl hk)⟩,⟨cur,by rw [k2];exact c1,by rw [k3];exact c2,fun n c e2 a2 he ha=>?_⟩,rr.hC,by rw [k6];exact rr.hl,fun e2 he2=>?_,fun e2 he2 a2 ha2=>?_,by rw [k5,k3];exact rr.hf,by rw [k5,k6];exact rr.hz⟩
      · obtain ⟨e, g1, g2⟩ := k7 n e2 he
        obtain ⟨a,g3,g4⟩:=(bkL_at g2).2 c a2 ha
        obtain ⟨y,q1,q2⟩:=c3 n c e a g1 g3
        exact ⟨y,by rw [k3];exact q1,q2.bkC bo g4⟩
      · obtain ⟨n, hn, rfl⟩ := List.getElem_of_mem he2
        obtain ⟨e,g1,g2⟩:=k7 n _ (List.getElem?_eq_getElem hn)
        rw [← (bkL_at g2).1,k3]
        exact rr.hn e (List.mem_of_getElem? g1)
      · obtain ⟨n, hn, rfl⟩ := List.getElem_of_mem he2
        obtain ⟨e,g1,g2⟩:=k7 n _ (List.getElem?_eq_getElem hn)
        obtain ⟨c,hc,rfl⟩:=List.getElem_of_mem ha2
        obtain ⟨a,g3,g4⟩:=(bkL_at g2).2 c _ (List.getElem?_eq_getElem hc)
        exact bkC_one g4 (rr.h1 e (List.mem_of_getElem? g1) a (List.mem_of_getElem? g3))
    · rw [out hJ2 hn] at hd
      rw [hbk.rest J hJ2 hn] at ho
      have rr:=hown.row J d ob2 hd ho
      have hk:=inK hd hn
      obtain ⟨cur,c1,c2,c3⟩:=rr.cur
      refine { rr with cur:=⟨cur,by rw [own4.kept d.b hk];exact c1,c2,fun n c e a he ha=>by obtain ⟨y,q1,q2⟩:=c3 n c e a he ha;exact ⟨y,q1,q2.mono lF leO⟩⟩,hf:=fun o v hv=>?_ }
      rcases own4.new d.b o v hv with h1|h1
      · exact rr.hf o v h1
      · exact absurd hk h1.2
  · have hJ : J < Hb'.length := by rw [← lO']; exact (List.getElem?_eq_some_iff.1 hd).1
    have hJ':J' < Hb'.length:=by rw [← lO'];exact (List.getElem?_eq_some_iff.1 hd').1
    rcases cases3 J hJ with ⟨j,hj,rfl⟩|⟨hJ2,hn⟩<;>rcases cases3 J' hJ' with ⟨j',hj',rfl⟩|⟨hJ2',hn'⟩
    · rw [img hj] at hd
      rw [img hj'] at hd'
      rw [own4.inj j j' d d' hd hd' hb]
    · rw [img hj] at hd
      rw [out hJ2' hn'] at hd'
      have:=(own4.row j d Hl'[j] hd (List.getElem?_eq_getElem hj)).hB.2
      exact absurd (by rw [hb];exact inK hd' hn') this
    · rw [out hJ2 hn] at hd
      rw [img hj'] at hd'
      have:=(own4.row j' d' Hl'[j'] hd' (List.getElem?_eq_getElem hj')).hB.2
      exact absurd (by rw [← hb];exact inK hd hn) this
    · rw [out hJ2 hn] at hd
      rw [out hJ2' hn'] at hd'
      exact hown.inj J J' d d' hd hd' hb
  · rcases own4.new b o v hv with h1 | h1
    · exact hown.new b o v h1
    · exact .inr ⟨h1.1,fun hk=>h1.2 (.inl hk)⟩
  · rw [own4.kept b (.inl hk)];exact hown.kept b hk
end
end Go.Proofs.Ytnammfeiehikfaa.Sim
namespace Go.Proofs.Ytnammfeiehikfaa.Sim
open Go.RowKit
inductive ObBk (ρ:Nat→Nat) (es:List AV) (k:List AV→Prop):Prop
  | same (hn:es.all nrB=true) (hk:k es):ObBk ρ es k
  | lit (es2:List AV) (h:(es.map fun e=>bkL ρ e.cells)=es2.map fun e=>some e.cells) (hk:k es2):ObBk ρ es k
def RB (ρ:Nat→Nat) (ob ob2:OB):Prop:=ob2.e=ob.e∧ob2.k=ob.k∧ob2.g=ob.g∧ob2.fz=ob.fz∧ob2.es.length=ob.es.length∧∀ (n:Nat) (e2:AV),ob2.es[n]? = some e2→∃ e,ob.es[n]? = some e∧bkL ρ e.cells=some e2.cells
theorem nrB_bk {ρ:Nat→Nat} {a:AV} (h:nrB a=true):bkL ρ a.cells=some a.cells:=by
  unfold nrB at h
  generalize a.cells=cs at h
  induction cs with
  | nil=>rfl
  | cons c cs ih =>
    simp only [List.all_cons,Bool.and_eq_true] at h
    have h1:bkC ρ c=some c:=by
      cases c with
      | v=>rfl
      | sl=>rfl
      | ad=>rfl
      | nl=>rfl
      | em=>rfl
      | _=>simp at h
    simp [bkL,h1,ih h.2]
def frR (ρ:Nat→Nat) (o:OB) (k:OB→Prop):Prop :=
  match o with
  | ⟨e,kk,es,g,fz⟩=>ObBk ρ es (fun es'=>k ⟨e,kk,es',g,fz⟩)
theorem frR_ok {ρ:Nat→Nat} {o:OB} {k:OB→Prop} (h:frR ρ o k):∃ o',RB ρ o o'∧k o':=by
  obtain ⟨e,kk,es,g,fz⟩:=o
  rcases h with ⟨hn,hk⟩|⟨es2,h,hk⟩
  · exact ⟨_,⟨rfl,rfl,rfl,rfl,rfl,fun n e2 he=>⟨e2,he,nrB_bk (List.all_eq_true.1 hn e2 (List.mem_of_getElem? he))⟩⟩,hk⟩
  · have hl : es2.length = es.length := by have := congrArg List.length h; simpa using this.symm
    refine ⟨⟨e,kk,es2,g,fz⟩,⟨rfl,rfl,rfl,rfl,hl,fun n e2 he=>?_⟩,hk⟩
    have hn:n < es.length:=by rw [← hl];exact (List.getElem?_eq_some_iff.1 he).1
    have:=congrArg (·[n]?) h
    have he':es2[n]? = some e2:=he
    simp only [List.getElem?_map,he',List.getElem?_eq_getElem hn,Option.map_some,Option.some.injEq] at this
    exact ⟨es[n],List.getElem?_eq_getElem hn,this⟩
def frK (ρ:Nat→Nat):Tb→Hp→Hp→(Hp→Prop)→Prop
  | [],[],Hb,k=>k Hb
  | [],o::Hl,Hb,k=>frR ρ o (fun o'=>aK Hb nums o' (fun _ H=>frK ρ [] Hl H k))
  | (_,i,_)::T,o::Hl,Hb,k=>frR ρ o (fun o'=>rpK Hb i o' (fun H=>frK ρ T Hl H k))
  | _::_,[],_,_=>False
theorem frK_new {ρ:Nat→Nat}:∀ {Hl Hb:Hp} {k:Hp→Prop},frK ρ [] Hl Hb k→∃ Hb',k Hb'∧Hb'.length=Hb.length+Hl.length∧(∀ (j:Nat) (ob:OB),Hl[j]? = some ob→∃ ob2,Hb'[Hb.length+j]? = some ob2∧RB ρ ob ob2)∧∀ J,J < Hb.length→Hb'[J]? = Hb[J]?
  | [],Hb,k,h=>⟨Hb,h,rfl,fun j ob hj=>by simp at hj,fun _ _=>rfl⟩
  | o::Hl,Hb,k,h=>by
    obtain ⟨o',h1,h2⟩:=frR_ok h
    have h3:=aK_ok h2
    obtain ⟨Hb',k1,k2,k3,k4⟩:=frK_new (Hl:=Hl) h3
    refine ⟨Hb',k1,by rw [k2];simp;omega,fun j ob hj=>?_,fun J hJ=>?_⟩
    · cases j with
      | zero =>
        simp at hj
        subst hj
        refine ⟨o',?_,h1⟩
        have:=k4 Hb.length (by simp)
        simpa using this
      | succ j =>
        obtain ⟨ob2,q1,q2⟩:=k3 j ob (by simpa using hj)
        refine ⟨ob2,?_,q2⟩
        rw [← q1];congr 1;simp;omega
    · rw [k4 J (by simp;omega),List.getElem?_append_left hJ]
theorem frK_ok {ρ : Nat → Nat} : ∀ {T : Tb} {Hl Hb : Hp} {k : Hp → Prop}, frK ρ T Hl Hb k → (∀ p ∈ T, p.2.1 < Hb.length) → (T.map (·.2.1)).Nodup → ∃ Hb', k Hb' ∧ T.length ≤ Hl.length ∧ Hb'.length = Hb.length + (Hl.length - T.length) ∧
    (∀ (j:Nat) (ob:OB),Hl[j]? = some ob→∃ ob2,Hb'[rho T Hb.length j]? = some ob2∧RB ρ ob ob2)∧∀ J,J < Hb.length→(∀ p ∈ T,p.2.1 ≠ J)→Hb'[J]? = Hb[J]?
  | [],Hl,Hb,k,h,_,_=>by
    obtain ⟨Hb',k1,k2,k3,k4⟩:=frK_new h
    refine ⟨Hb',k1,Nat.zero_le _,by simpa using k2,fun j ob hj=>?_,fun J hJ _=>k4 J hJ⟩
    obtain ⟨ob2,q1,q2⟩:=k3 j ob hj
    exact ⟨ob2,by simpa [rho] using q1,q2⟩
  | (g2,i,g)::T,[],Hb,k,h,_,_=>by simp [frK] at h
  | (g2,i,g)::T,o::Hl,Hb,k,h,hlt,hnd=>by
    simp only [frK] at h
    obtain ⟨o',h1,h2⟩:=frR_ok h
    rw [rpK_eq] at h2
    have hi:i < Hb.length:=hlt (g2,i,g) (List.mem_cons_self ..)
    simp only [List.map_cons,List.nodup_cons] at hnd
    obtain ⟨Hb',k1,k2,k3,k4,k5⟩:=frK_ok (T:=T) h2 (fun p hp=>by simpa using hlt p (List.mem_cons_of_mem _ hp)) hnd.2
    simp only [List.length_set] at k3 k4 k5
    refine ⟨Hb',k1,by simpa using k2,by rw [k3];simp,fun j ob hj=>?_,fun J hJ hn=>?_⟩
    · cases j with
      | zero =>
        simp at hj
        subst hj
        refine ⟨o',?_,h1⟩
        have:=k5 i hi (fun p hp he=>hnd.1 (List.mem_map.2 ⟨p,hp,he⟩))
        rw [List.getElem?_set_self hi] at this
        simpa [rho] using this
      | succ j =>
        obtain ⟨ob2,q1,q2⟩:=k4 j ob (by simpa using hj)
        refine ⟨ob2,?_,q2⟩
        rw [← q1]
        congr 1
        simp [rho]
    · rw [k5 J hJ (fun p hp=>hn p (List.mem_cons_of_mem _ hp)),List.getElem?_set_ne]
      exact fun e=>hn (g2,i,g) (List.mem_cons_self ..) e
inductive ObAs (T:Tb) (as_ asl:List AV) (k:Prop):Prop
  | mk (h:(asl.map fun b=>rnB T b)=as_.map some) (hk:k):ObAs T as_ asl k
inductive ObRs (ρ:Nat→Nat) (r:AV) (k:AV→Prop):Prop
  | mk (r':AV) (h:bkB ρ r=some r') (hk:k r'):ObRs ρ r k
section
variable {P:Program} {G:Nat→AV}
theorem ObH.fr {f : FuncId} {as_ : List AV} {Hb : Hp} {k : KK} (T : Tb) {asl : List AV} {Hl Hl' : Hp} {r : AV} (h : HC P G f asl Hl r Hl') (hn : (T.map (·.2.1)).Nodup) (hid : (T.map (·.1)) = T.map (·.2.2))
    (hlt:∀ p ∈ T,p.2.1 < Hb.length) (hk:vwK T Hb T Hl (ObAs T as_ asl (ObRs (rho T Hb.length) r (fun r'=>frK (rho T Hb.length) T Hl' Hb (fun H'=>k r' H'))))):ObH P G f as_ Hb k:=by
  have hv:Vw T Hb Hl:=Vw.of (by
    have go:∀ {T0:Tb} {H:Hp} {T:Tb} {H2:Hp} {k:Prop},vwK T0 H T H2 k→vwK T0 H T H2 True:=by
      intro T0 H T
      induction T with
      | nil=>intro H2 k h;cases H2<;>first|trivial|exact h.elim
      | cons p T ih =>
        intro H2 k h
        obtain ⟨g2,i,g⟩:=p
        cases H2 with
        | nil=>exact h.elim
        | cons o2 H2 =>
          simp only [vwK] at h ⊢
          have rk:∀ {H:Hp} {i:Nat} {q q':OB→Prop},(∀ o,q o→q' o)→rK H i q→rK H i q':=by
            intro H
            induction H with
            | nil=>intro i q q' _ h;exact h.elim
            | cons o H ihH =>
              intro i q q' hq h
              cases i with
              | zero=>exact hq o h
              | succ i=>exact ihH hq h
          refine rk (fun o ho=>?_) h
          obtain ⟨e,kk,es,g',fz⟩:=o
          obtain ⟨e2,kk2,es2,g2',fz2⟩:=o2
          obtain ⟨a1,a2,a3,a4,a5,ho⟩:=ho
          refine ⟨a1,a2,a3,a4,a5,?_⟩
          rcases ho with ⟨b1,b2,b3⟩|⟨b1,b2⟩
          · exact .same b1 b2 (ih b3)
          · exact .lit b1 (ih b2)
    exact go hk) hn
  obtain ⟨_,ha,r',hr,hk⟩:=vwK_ok hk
  obtain ⟨Hb',k1,k2,k3,k4,k5⟩:=frK_ok hk hlt hn
  have hal:as_.length=asl.length:=by have:=congrArg List.length ha;simpa using this.symm
  refine ⟨r',Hb',HC.frame T h hv (fun j g2 i g ht=>?_) hal (fun i b hb=>?_) hr ⟨k2,k3,k4,fun J hJ hJn=>k5 J hJ fun p hp he=>?_⟩,k1⟩
  · have := congrArg (·[j]?) hid
    simpa [ht] using this
  · have hi : i < as_.length := by rw [hal]; exact (List.getElem?_eq_some_iff.1 hb).1
    have:=congrArg (·[i]?) ha
    simp only [List.getElem?_map,hb,List.getElem?_eq_getElem hi,Option.map_some,Option.some.injEq] at this
    exact ⟨as_[i],List.getElem?_eq_getElem hi,this⟩
  · obtain ⟨j, hj, rfl⟩ := List.getElem_of_mem hp
    refine hJn j hj ?_
    simp only [rho,List.getElem?_eq_getElem hj]
    exact he
end
end Go.Proofs.Ytnammfeiehikfaa.Sim
namespace Go.Proofs.Ytnammfeiehikfaa.Sim
open Go.RowKit
section
variable {P:Program} {G:Nat→AV} {m:Nat}
theorem V_cut {α : Type} {a b : AC} {Q : EX → St → Prop} {s : List AV} {H : Hp} (J : α → Prop) (M : α → List (Nat × Option AV)) (Hc : α → Hp)
    (h1:∀ K:St→Prop,(∀ (s':List AV) (H':Hp) (p:α),J p→Fg m ⟨s',H'⟩ ⟨mx s (M p),Hc p⟩→K ⟨s',H'⟩)→V P G m a (thenQ K Q) ⟨s,H⟩)
    (h2:∀ p,J p→V P G m b Q ⟨mx s (M p),Hc p⟩):V P G m (.seq a b) Q ⟨s,H⟩ :=
  h1 _ (fun s' H' p hp hf=>SeqP.fg _ hf (h2 p hp))
theorem V_seq {a b:AC} {Q:EX→St→Prop} {st:St} (h:V P G m a (thenQ (SeqP m (V P G m b Q)) Q) st):V P G m (.seq a b) Q st:=h
end
end Go.Proofs.Ytnammfeiehikfaa.Sim
namespace Go.Proofs.Ytnammfeiehikfaa.Sim
open Go.RowKit
section
variable {P:Program} {G:Nat→AV} {m:Nat}
theorem ObH.frn {f : FuncId} {as_ : List AV} {Hb : Hp} {k : KK} (N : Nat) (hN : Hb.length = N) (T : Tb) {asl : List AV} {Hl Hl' : Hp} {r : AV} (h : HC P G f asl Hl r Hl') (hn : (T.map (·.2.1)).Nodup) (hid : (T.map (·.1)) = T.map (·.2.2))
    (hlt:∀ p ∈ T,p.2.1 < Hb.length) (hk:vwK T Hb T Hl (ObAs T as_ asl (ObRs (rho T N) r (fun r'=>frK (rho T N) T Hl' Hb (fun H'=>k r' H'))))):ObH P G f as_ Hb k:=by
  subst hN
  exact ObH.fr T h hn hid hlt hk
end
end Go.Proofs.Ytnammfeiehikfaa.Sim
namespace Go.Proofs.Ytnammfeiehikfaa.Sim
open Go.RowKit
set_option maxRecDepth 100000
theorem not_val (n:Int) (h1 : -9223372036854775808≤n) (h2:n≤9223372036854775807):pureRun Try.prog (Op.unary .xor (.int .i64 n))=some (.int .i64 (-1 - n)):=by
  have e1:BitVec.ofInt 64 (-1)=BitVec.allOnes 64:=by decide
  have e2:(BitVec.ofInt 64 (-1) ^^^ BitVec.ofInt 64 n).toNat=18446744073709551615 - (n % 18446744073709551616).toNat:=by
    rw [e1,BitVec.allOnes_xor,BitVec.toNat_not,BitVec.toNat_ofInt];rfl
  have e3:IntKind.i64.wrap ((18446744073709551615 - (n % 18446744073709551616).toNat:Nat):Int) = -1 - n:=by
    rcases Int.lt_or_le n 0 with h|h
    · rw [show (18446744073709551615 - (n % 18446744073709551616).toNat : Nat) = (-1 - n).toNat by omega, Int.toNat_of_nonneg (by omega)]
      exact wrapI (by omega) (by omega)
    · rw [show ((18446744073709551615 - (n % 18446744073709551616).toNat : Nat) : Int) = (-1 - n) + 2 ^ IntKind.i64.bits by simp only [IntKind.bits]; omega]
      have hw:IntKind.i64.wrap ((-1 - n)+2 ^ IntKind.i64.bits)=IntKind.i64.wrap (-1 - n):=by
        unfold IntKind.wrap
        rw [Int.add_emod_right]
      rw [hw]
      exact wrapI (by omega) (by omega)
  have h:Op.unary .xor (.int .i64 n)=pure (.int .i64 (IntKind.i64.wrap ((BitVec.ofInt 64 (-1) ^^^ BitVec.ofInt 64 n).toNat:Int))):=rfl
  rw [h,e2,e3];rfl
theorem eNot {H:Hp} {k:KK} {n:Int} (h1 : -9223372036854775808≤n) (h2:n≤9223372036854775807) (hk:k (.v (.int .i64 (-1 - n))) H):ObE ((ap1 (fun v=>pureRun Try.prog (Op.unary .xor v)) (.v (.int .i64 n))).map (·,H)) k :=
  ⟨_,_,by simp only [ap1,conc,not_val n h1 h2];rfl,hk⟩
section
variable (G:Nat→AV)
theorem num31 (n:Int) (h1 : -9223372036854775808≤n) (h2:n≤9223372036854775807):PC Try.prog G 31 [I n] (I (-1 - n)):=by
  refine pc_ofV cop31 ?_
  repeat' ((conv=>whnf);first|(with_reducible refine SeqP.go ?_)|((with_reducible refine (?_:ObE _ _));(refine eNot h1 h2 ?_))|((with_reducible refine ObEq.i ?_);(focus (first|(with_reducible rfl)|omega))))
def refD (r:Int) (to:List Int):Option Int:=if 0≤r then some r else to[(-1 - r).toNat]?
theorem iA_at' {l:List Int} {k:Nat} (h:k < l.length):(l.map iA)[k]? = some (I l[k]):=by simp [h,iA]
theorem ref18 (r:Int) (h1 : -9223372036854775808≤r) (h2:r≤9223372036854775807) (to:List Int) (ht:to.length≤1000):PC Try.prog G 18 [I r,.sl 1 (to.map iA)] (match refD r to with|some x=>.tup [I x,I 0]|none=>.tup [I 0,I 4]):=by
  have hn:=num31 G r h1 h2
  unfold refD
  by_cases h:0≤r
  · rw [if_pos h]
    refine pc_ofV cop18 ?_
    repeat' ((conv=>whnf);first|(with_reducible refine SeqP.go ?_)|((with_reducible refine ObN.mk ?_ ?_);(focus exact zN))|(with_reducible refine ObT.tt ?_)|((with_reducible refine ObB.yes ?_ ?_);(focus (first|assumption|(with_reducible rfl)|omega)))|((with_reducible refine ObC.f 31 ?_);(first|(with_reducible refine ObC.mk _ (hn) ?_)|(refine ObC.mk _ (hn) ?_)))|((with_reducible refine ObEq.mk ?_);(focus (first|rfl|assumption))))
  · rw [if_neg h]
    obtain ⟨k,hk⟩:∃ k:Nat,-1 - r=k:=⟨(-1 - r).toNat,by omega⟩
    rw [hk] at hn
    rw [hk,Int.toNat_natCast]
    by_cases hkt:k < to.length
    · have hq := iA_at' hkt
      rw [List.getElem?_eq_getElem hkt]
      refine pc_ofV cop18 ?_
      repeat' ((conv=>whnf);first|(with_reducible refine SeqP.go ?_)|((with_reducible refine ObN.mk ?_ ?_);(focus exact zN))|(with_reducible refine ObT.ff ?_)|((with_reducible refine ObB.no ?_ ?_);(focus (first|assumption|omega)))|((with_reducible refine ObX.mk _ rfl ?_ ?_);(focus exact zX))|((with_reducible refine (?_:ObL _ _));(refine ObL.mk _ zM ?_))|((with_reducible refine (?_:ObR _ _ _));(first|(refine ObR.mk _ (by assumption) ?_)|(refine ObR.mk _ (by with_reducible rfl) ?_)|(refine ObR.map zX (fun x hx=>?_))|(refine ObR.mk _ rfl ?_)))|((with_reducible refine ObC.f 31 ?_);(first|(with_reducible refine ObC.mk _ (hn) ?_)|(refine ObC.mk _ (hn) ?_)))|((with_reducible refine ObEq.mk ?_);(focus (first|rfl|assumption))))
    · rw [List.getElem?_eq_none (by omega)]
      refine pc_ofV cop18 ?_
      repeat' ((conv=>whnf);first|(with_reducible refine SeqP.go ?_)|((with_reducible refine ObN.mk ?_ ?_);(focus exact zN))|(with_reducible refine ObT.tt ?_)|(with_reducible refine ObT.ff ?_)|((with_reducible refine ObB.yes ?_ ?_);(focus (first|assumption|(with_reducible rfl)|omega)))|((with_reducible refine ObB.no ?_ ?_);(focus (first|assumption|omega)))|((with_reducible refine (?_:ObL _ _));(refine ObL.mk _ zM ?_))|((with_reducible refine ObC.f 31 ?_);(first|(with_reducible refine ObC.mk _ (hn) ?_)|(refine ObC.mk _ (hn) ?_)))|((with_reducible refine ObEq.mk ?_);(focus (first|rfl|assumption))))
end
end Go.Proofs.Ytnammfeiehikfaa.Sim
namespace Go.Proofs.Ytnammfeiehikfaa.Sim
open Go.RowKit
set_option maxRecDepth 100000
def gt (to:List Int) (r:Int):Int:=(refD r to).getD 0
def ok (to:List Int) (r:Int):Bool:=(refD r to).isSome
def eo:Bool→Int|true=>0|false=>4
abbrev zV:AV:=nV 0 ⟨#[]⟩ ⟨#[]⟩ 0 [] 0 [] 0 0
def i64 (r:Int):Prop:=-9223372036854775808≤r∧r≤9223372036854775807
abbrev kR (g:Nat) (l:List Int):OB:=⟨23,1,l.map iA,g,0⟩
theorem p_i (l:List Int):(l.map iA).all AV.isP=true:=by simp [iA,AV.isP,AV.isC,AV.isC0]
theorem nr_i (l:List Int):(l.map iA).all nrB=true:=by simp [iA,nrB,AV.cells]
section
variable (G:Nat→AV)
theorem r18 (r:Int) (h:i64 r) (to:List Int) (ht:to.length≤1000) (o:Bool) (ho:o=ok to r):PC Try.prog G 18 [I r,.sl 1 (to.map iA)] (.tup [I (gt to r),I (eo o)]):=by
  have hh:=ref18 G r h.1 h.2 to ht
  unfold gt;unfold ok at ho
  cases hr:refD r to with
  | some x=>rw [hr] at hh ho;subst ho;exact hh
  | none=>rw [hr] at hh ho;subst ho;exact hh
theorem cpyB (l:List Int) (hl:l.length≤1000) (h0:0 < l.length):HC Try.prog G 39 [.sl 1 (l.map iA)] [] (.ol 0 0 l.length) [kR 0 l]:=by
  have lm:min (l.map iA).length ((l.length:Nat):Int).toNat=l.length:=by simp
  have u1:(l.map iA).take l.length++(List.replicate ((l.length:Nat):Int).toNat (AV.v (.int .i64 0))).drop l.length=l.map iA:=by
    rw [Int.toNat_natCast,List.take_of_length_le (by simp),List.drop_of_length_le (by simp),List.append_nil]
  refine hc_ofV bop39 rfl ?_
  repeat' ((conv=>whnf);first|(with_reducible refine SeqP.go ?_)|((with_reducible refine ObN.mk ?_ ?_);(focus exact zN))|(with_reducible refine ObT.ff ?_)|((with_reducible refine ObB.no ?_ ?_);(focus (first|assumption|omega)))|((with_reducible refine (?_:ObL _ _));(refine ObL.mk _ (by first|exact lm|exact (List.length_map _)|assumption|exact (List.length_map _).trans (by assumption)|exact List.length_map _|rfl) ?_))|((with_reducible refine (?_:ObU _ _));(refine ObU.mk _ (by first|exact u1|assumption|((conv=>lhs;simp only [List.set_cons_zero,List.set_cons_succ,List.take_succ_cons,List.take_zero,List.drop_succ_cons,List.drop_zero,List.nil_append,List.cons_append,List.append_nil,List.take_nil,List.drop_nil]);try rfl)|rfl) ?_))|(exact ObEnd.eq rfl rfl))
theorem cpyB0:HC Try.prog G 39 [.sl 1 []] [] (.nl 1) []:=by
  have l0:([]:List AV).length=0:=rfl
  refine hc_ofV bop39 rfl ?_
  repeat' ((conv=>whnf);first|(with_reducible refine SeqP.go ?_)|((with_reducible refine ObN.mk ?_ ?_);(focus exact zN))|(with_reducible refine ObT.tt ?_)|((with_reducible refine ObB.yes ?_ ?_);(focus (first|assumption|(with_reducible rfl)|omega)))|((with_reducible refine (?_:ObL _ _));(refine ObL.mk _ (by first|exact l0|assumption|exact (List.length_map _).trans (by assumption)|exact List.length_map _|rfl) ?_))|(exact ObEnd.eq rfl rfl))
theorem copyB (kn:Int) (ke va:ByteArray) (mp:Int) (kk:List Int) (mn:Int) (ls:List Pr) (sz bi:Int) (hk:kk.length≤40) (hl:ls.length≤40) (h0:0 < kk.length):HC Try.prog G 28 [nV kn ke va mp kk mn ls sz bi] [] (.agg [I kn,S ke,S va,.v (.int .u32 mp),.ol 0 0 kk.length,I mn,.sl 2 (ls.map pA),I sz,I bi]) [kR 0 kk]:=by
  have h1:=cpyB G kk (by omega) h0
  have h2:=copy38 G ls hl
  have hr:=nr_i kk
  refine hc_ofV bop28 rfl ?_
  repeat' ((conv=>whnf);first|(with_reducible refine SeqP.go ?_)|exact SameP.mk rfl rfl|(with_reducible refine ObAnd.mk ?_ ?_)|(with_reducible refine ObDx.same ?_)|((with_reducible refine ObD.mk ?_ ?_);(focus (first|rfl|(simp;done))))|((with_reducible refine ObN.mk ?_ ?_);(focus exact zN))|((with_reducible refine (?_:ObU _ _));(refine ObU.mk _ zU ?_))|((with_reducible refine (?_:ObR _ _ _));(first|(refine ObR.mk _ (by assumption) ?_)|(refine ObR.mk _ (by with_reducible rfl) ?_)|(refine ObR.map zX (fun x hx=>?_))|(refine ObR.mk _ rfl ?_)))|((with_reducible refine ObH.f 39 ?_);refine ObH.frn _ (by simp only [List.length_cons,List.length_nil,Nat.reduceAdd];rfl) [] (h1) (by simp) rfl (by simp) ?_)|((with_reducible refine ObC.f 40 ?_);(first|(with_reducible refine ObC.mk _ (h2) ?_)|(refine ObC.mk _ (h2) ?_)))|((with_reducible refine ObAs.mk ?_ ?_);(focus (first|rfl|(simp [rnB,rnC,rnL];done))))|((with_reducible refine (?_:ObRs _ _ _));(refine ObRs.mk _ rfl ?_))|((with_reducible refine ObBk.same ?_ ?_);(focus (first|rfl|assumption|(simp;done)))))
  conv=>whnf
  refine ObEnd.vw [(0,2,0)] rfl ?_ (by simp) ?_
  all_goals repeat' ((conv=>whnf);first|((with_reducible refine ObN.mk ?_ ?_);(focus exact zN))|((with_reducible refine ObRow.same ?_ ?_ ?_);(focus (first|rfl|assumption));(focus (first|rfl|assumption|(simp;done))))|exact True.intro)
theorem copyB0 (kn:Int) (ke va:ByteArray) (mp mn:Int) (ls:List Pr) (sz bi:Int) (hl:ls.length≤40):HC Try.prog G 28 [nV kn ke va mp [] mn ls sz bi] [] (.agg [I kn,S ke,S va,.v (.int .u32 mp),.nl 1,I mn,.sl 2 (ls.map pA),I sz,I bi]) []:=by
  have h1:=cpyB0 G
  have h2:=copy38 G ls hl
  refine hc_ofV bop28 rfl ?_
  repeat' ((conv=>whnf);first|(with_reducible refine SeqP.go ?_)|exact SameP.mk rfl rfl|(with_reducible refine ObAnd.mk ?_ ?_)|(with_reducible refine ObDx.same ?_)|((with_reducible refine ObD.mk ?_ ?_);(focus (first|rfl|(simp;done))))|((with_reducible refine ObN.mk ?_ ?_);(focus exact zN))|((with_reducible refine (?_:ObU _ _));(refine ObU.mk _ zU ?_))|((with_reducible refine (?_:ObR _ _ _));(first|(refine ObR.mk _ (by assumption) ?_)|(refine ObR.mk _ (by with_reducible rfl) ?_)|(refine ObR.map zX (fun x hx=>?_))|(refine ObR.mk _ rfl ?_)))|((with_reducible refine ObH.f 39 ?_);refine ObH.frn _ (by simp only [List.length_cons,List.length_nil,Nat.reduceAdd];rfl) [] (h1) (by simp) rfl (by simp) ?_)|((with_reducible refine ObC.f 40 ?_);(first|(with_reducible refine ObC.mk _ (h2) ?_)|(refine ObC.mk _ (h2) ?_)))|((with_reducible refine ObAs.mk ?_ ?_);(focus (first|rfl|(simp [rnB,rnC,rnL];done))))|((with_reducible refine (?_:ObRs _ _ _));(refine ObRs.mk _ rfl ?_)))
  conv=>whnf
  refine ObEnd.vw [] rfl ?_ (by simp) ?_
  all_goals repeat' ((conv=>whnf);first|exact True.intro)
end
def fillC (to kk:List Int) (mn:Int):Bool:=kk.all (ok to) && ok to mn
def fillR (c:Bool) (kn:Int) (ke va:ByteArray) (mp:Int) (kk:List Int) (mn:Int) (ls:List Pr) (sz bi:Int) (to:List Int):AV :=
  match c with
  | true=>nV kn ke va mp (kk.map (gt to)) (gt to mn) ls sz bi
  | false=>zV
theorem all_tk {p:Int→Bool} {l:List Int} {i:Nat} (h:i < l.length) (h0:(l.take i).all p=true) (h1:p l[i]=true):(l.take (i+1)).all p=true:=by
  rw [List.take_succ_eq_append_getElem h,List.all_append,h0];simp [h1]
theorem all_no {p:Int→Bool} {l:List Int} {i:Nat} (h:i < l.length) (h1:p l[i]=false):l.all p=false:=by
  rw [List.all_eq_false];exact ⟨l[i],List.getElem_mem h,by simp [h1]⟩
def mix1 (to kk:List Int) (i:Nat):List Int:=(kk.take i).map (gt to)++kk.drop i
theorem mix1_len (to kk:List Int) {i:Nat} (h:i≤kk.length):(mix1 to kk i).length=kk.length:=by simp [mix1];omega
theorem mix1_at {to kk:List Int} {i:Nat} (h:i < kk.length):((mix1 to kk i).map iA)[i]? = some (I kk[i]):=by
  have hm:min i kk.length=i:=by omega
  simp [mix1,iA,List.getElem?_append,h,hm]
theorem mix1_set {to kk:List Int} {i:Nat} (h:i < kk.length):((mix1 to kk i).map iA).set i (.v (.int .i64 (gt to kk[i])))=(mix1 to kk (i+1)).map iA:=by
  have e1:kk.drop i=kk[i]::kk.drop (i+1):=List.drop_eq_getElem_cons h
  have hl:(((kk.take i).map (gt to)).map iA).length=i:=by simp;omega
  unfold mix1
  rw [e1,List.take_succ_eq_append_getElem h,List.map_append,List.map_cons,List.set_append_right _ _ (by omega),hl,Nat.sub_self,List.set_cons_zero]
  simp only [List.map_append,List.map_cons,List.map_nil,List.append_assoc,List.cons_append,List.nil_append]
  rfl
section
variable (G:Nat→AV)
set_option maxHeartbeats 2000000 in
theorem fill16 (kn : Int) (ke va : ByteArray) (mp : Int) (kk : List Int) (mn : Int) (ls : List Pr) (sz bi : Int) (to : List Int) (hk : kk.length ≤ 40) (hl : ls.length ≤ 40) (ht : to.length ≤ 1000) (hmn : i64 mn) (hkk : ∀ x ∈ kk, i64 x) (c : Bool) (hc : c = fillC to kk mn) :
    PC Try.prog G 16 [nV kn ke va mp kk mn ls sz bi,.sl 1 (to.map iA)] (.tup [fillR c kn ke va mp kk mn ls sz bi to,I (eo c)]):=by
  have hrt:=nr_i to
  rcases Nat.eq_zero_or_pos kk.length with h0|h0
  · obtain rfl := List.eq_nil_of_length_eq_zero h0
    have h1:=copyB0 G kn ke va mp mn ls sz bi hl
    have hm:=r18 G mn hmn to ht c (by rw [hc,fillC];rfl)
    refine pc_ofV bop16 ?_
    repeat' ((conv=>whnf);first|(with_reducible refine SeqP.go ?_)|((with_reducible refine ObD.mk ?_ ?_);(focus (first|rfl|(simp;done))))|((with_reducible refine ObN.mk ?_ ?_);(focus exact zN))|((with_reducible refine (?_:ObU _ _));(refine ObU.mk _ zU ?_))|((with_reducible refine (?_:ObR _ _ _));(first|(refine ObR.mk _ (by assumption) ?_)|(refine ObR.mk _ (by with_reducible rfl) ?_)|(refine ObR.map zX (fun x hx=>?_))|(refine ObR.mk _ rfl ?_)))|((with_reducible refine ObH.f 28 ?_);refine ObH.frn _ (by simp only [List.length_cons,List.length_nil,Nat.reduceAdd];rfl) [] (h1) (by simp) rfl (by simp) ?_)|((with_reducible refine ObAs.mk ?_ ?_);(focus (first|rfl|(simp [rnB,rnC,rnL];done))))|((with_reducible refine (?_:ObRs _ _ _));(refine ObRs.mk _ rfl ?_)))
    conv=>whnf
    refine LoopP.go (α:=Unit) (fun _=>True) (fun _=>0) (fun _=>[(5,some (I 0)),(1,none),(0,none),(0,none),(7,some (I 0)),(0,none),(0,none),(0,none),(0,none),(0,none),(0,none),(0,none),(0,none),(0,none),(0,none),(0,none),(0,none),(0,none),(0,none),(0,none),(0,none),(0,none),(0,none),(0,none),(0,none),(0,none),(0,none)]) (fun _=>[⟨30,9,[nV kn ke va mp [] mn ls sz bi],0,0⟩,⟨30,9,[.agg [I 0,S ⟨#[]⟩,S ⟨#[]⟩,.v (.int .u32 0),.nl 1,I 0,.nl 2,I 0,I 0]],0,0⟩,⟨30,9,[.agg [I kn,S ke,S va,.v (.int .u32 mp),.nl 1,I mn,.sl 2 (ls.map pA),I sz,I bi]],0,0⟩]) () trivial (Fg.go ?_ rfl) ?_
    · repeat' ((conv=>whnf);first|((with_reducible refine ObEqs.mk ?_ ?_);(focus rfl))|((with_reducible refine ObEq1.i ?_ ?_);(focus (first|(with_reducible rfl)|omega)))|exact True.intro)
    rintro ⟨⟩ -
    cases c
    all_goals simp only [eo] at hm ⊢
    all_goals repeat' ((conv=>whnf);first|(with_reducible refine SeqP.go ?_)|((with_reducible refine ObD.mk ?_ ?_);(focus (first|rfl|(simp;done))))|((with_reducible refine ObN.mk ?_ ?_);(focus exact zN))|(with_reducible refine ObT.tt ?_)|(with_reducible refine ObT.ff ?_)|((with_reducible refine ObB.yes ?_ ?_);(focus (first|assumption|(with_reducible rfl)|omega)))|((with_reducible refine ObB.no ?_ ?_);(focus (first|assumption|omega)))|((with_reducible refine (?_:ObU _ _));(refine ObU.mk _ zU ?_))|((with_reducible refine (?_:ObR _ _ _));(first|(refine ObR.mk _ (by assumption) ?_)|(refine ObR.mk _ (by with_reducible rfl) ?_)|(refine ObR.map zX (fun x hx=>?_))|(refine ObR.mk _ rfl ?_)))|((with_reducible refine ObC.f 18 ?_);(first|(with_reducible refine ObC.mk _ (hm) ?_)|(refine ObC.mk _ (hm) ?_)))|((with_reducible refine ObEq.mk ?_);(focus (first|rfl|assumption))))
  · have hrk := nr_i kk
    have h1:=copyB G kn ke va mp kk mn ls sz bi hk hl h0
    refine pc_ofV bop16 ?_
    repeat' ((conv=>whnf);first|(with_reducible refine SeqP.go ?_)|((with_reducible refine ObD.mk ?_ ?_);(focus (first|rfl|(simp;done))))|((with_reducible refine ObN.mk ?_ ?_);(focus exact zN))|((with_reducible refine (?_:ObU _ _));(refine ObU.mk _ zU ?_))|((with_reducible refine (?_:ObR _ _ _));(first|(refine ObR.mk _ (by assumption) ?_)|(refine ObR.mk _ (by with_reducible rfl) ?_)|(refine ObR.map zX (fun x hx=>?_))|(refine ObR.mk _ rfl ?_)))|((with_reducible refine ObH.f 28 ?_);refine ObH.frn _ (by simp only [List.length_cons,List.length_nil,Nat.reduceAdd];rfl) [] (h1) (by simp) rfl (by simp) ?_)|((with_reducible refine ObAs.mk ?_ ?_);(focus (first|rfl|(simp [rnB,rnC,rnL];done))))|((with_reducible refine (?_:ObRs _ _ _));(refine ObRs.mk _ rfl ?_))|((with_reducible refine ObBk.same ?_ ?_);(focus (first|rfl|assumption|(simp;done)))))
    conv=>whnf
    refine LoopP.go (α:=Nat) (fun i=>i≤kk.length∧(kk.take i).all (ok to)=true) (fun i=>kk.length - i) (fun i=>[(5,some (I 0)),(1,none),(0,none),(0,none),(7,some (I i)),(0,none),(0,none),(0,none),(0,none),(0,none),(0,none),(0,none),(0,none),(0,none),(0,none),(0,none),(0,none),(0,none),(0,none),(0,none),(0,none),(0,none),(0,none),(0,none),(0,none),(0,none),(0,none)]) (fun i=>[⟨30,9,[nV kn ke va mp kk mn ls sz bi],0,0⟩,⟨30,9,[.agg [I 0,S ⟨#[]⟩,S ⟨#[]⟩,.v (.int .u32 0),.nl 1,I 0,.nl 2,I 0,I 0]],0,0⟩,kR 0 (mix1 to kk i),⟨30,9,[.agg [I kn,S ke,S va,.v (.int .u32 mp),.ol 2 0 kk.length,I mn,.sl 2 (ls.map pA),I sz,I bi]],0,0⟩]) 0 ⟨Nat.zero_le _,rfl⟩ (Fg.go ?_ rfl) ?_
    · repeat' ((conv=>whnf);first|((with_reducible refine ObEqs.mk ?_ ?_);(focus rfl))|((with_reducible refine ObEq1.i ?_ ?_);(focus (first|(with_reducible rfl)|omega)))|exact True.intro)
    rintro i ⟨hi,hall⟩
    have hml:=mix1_len to kk hi
    by_cases hik:i < kk.length
    · have hq := mix1_at (to := to) hik
      have hu:=mix1_set (to:=to) hik
      have hx:=hkk _ (List.getElem_mem hik)
      have hok:=all_no (p:=ok to) hik
      have hok2:=all_tk (p:=ok to) hik hall
      generalize kk[i]=x at *
      cases ho:ok to x with
      | false =>
        have h18:=r18 G x hx to ht false ho.symm
        simp only [eo] at h18
        obtain rfl:c=false:=by rw [hc,fillC,hok ho];rfl
        simp only [eo]
        repeat' ((conv=>whnf);first|(with_reducible refine SeqP.go ?_)|((with_reducible refine ObD.mk ?_ ?_);(focus (first|rfl|(simp;done))))|((with_reducible refine ObN.mk ?_ ?_);(focus exact zN))|(with_reducible refine ObT.tt ?_)|((with_reducible refine ObB.yes ?_ ?_);(focus (first|assumption|(with_reducible rfl)|omega)))|((with_reducible refine ObB.no ?_ ?_);(focus (first|assumption|omega)))|((with_reducible refine ObX.mk _ rfl ?_ ?_);(focus exact zX))|((with_reducible refine (?_:ObU _ _));(refine ObU.mk _ zU ?_))|((with_reducible refine (?_:ObR _ _ _));(first|(refine ObR.mk _ (by assumption) ?_)|(refine ObR.mk _ (by with_reducible rfl) ?_)|(refine ObR.map zX (fun x hx=>?_))|(refine ObR.mk _ rfl ?_)))|((with_reducible refine ObC.f 18 ?_);(first|(with_reducible refine ObC.mk _ (h18) ?_)|(refine ObC.mk _ (h18) ?_)))|((with_reducible refine ObEq.mk ?_);(focus (first|rfl|assumption))))
      | true =>
        have h18:=r18 G x hx to ht true ho.symm
        simp only [eo] at h18
        repeat' ((conv=>whnf);first|(with_reducible refine SeqP.go ?_)|((with_reducible refine ObD.mk ?_ ?_);(focus (first|rfl|(simp;done))))|((with_reducible refine ObN.mk ?_ ?_);(focus exact zN))|(with_reducible refine ObT.tt ?_)|(with_reducible refine ObT.ff ?_)|((with_reducible refine ObB.yes ?_ ?_);(focus (first|assumption|(with_reducible rfl)|omega)))|((with_reducible refine ObI.nl ?_ ?_);(focus omega))|((with_reducible refine ObX.mk _ rfl ?_ ?_);(focus exact zX))|((with_reducible refine (?_:ObU _ _));(refine ObU.mk _ (by first|exact hu|assumption|((conv=>lhs;simp only [List.set_cons_zero,List.set_cons_succ,List.take_succ_cons,List.take_zero,List.drop_succ_cons,List.drop_zero,List.nil_append,List.cons_append,List.append_nil,List.take_nil,List.drop_nil]);try rfl)|rfl) ?_))|((with_reducible refine (?_:ObR _ _ _));(first|(refine ObR.mk _ (by assumption) ?_)|(refine ObR.mk _ (by with_reducible rfl) ?_)|(refine ObR.map zX (fun x hx=>?_))|(refine ObR.mk _ rfl ?_)))|((with_reducible refine ObC.f 18 ?_);(first|(with_reducible refine ObC.mk _ (h18) ?_)|(refine ObC.mk _ (h18) ?_))))
        conv=>whnf
        refine Again.mk (i+1) ⟨by omega,hok2 ho⟩ ?_ (Fg.go ?_ rfl)
        · omega
        repeat' ((conv=>whnf);first|((with_reducible refine ObEqs.mk ?_ ?_);(focus rfl))|((with_reducible refine ObEq1.i ?_ ?_);(focus (first|(with_reducible rfl)|omega)))|exact True.intro)
    · obtain rfl : i = kk.length := by omega
      rw [List.take_length] at hall
      have hmix:mix1 to kk kk.length=kk.map (gt to):=by simp [mix1]
      have hm:=r18 G mn hmn to ht c (by rw [hc,fillC,hall];rfl)
      have ha:((kk.map (gt to)).map iA).take kk.length=(kk.map (gt to)).map iA:=List.take_of_length_le (by simp)
      have hp:=p_i (kk.map (gt to))
      rw [hmix]
      cases c
      all_goals simp only [eo] at hm ⊢
      all_goals repeat' ((conv=>whnf);first|(with_reducible refine SeqP.go ?_)|((with_reducible refine ObD.mk ?_ ?_);(focus (first|rfl|(simp;done))))|((with_reducible refine ObN.mk ?_ ?_);(focus exact zN))|(with_reducible refine ObT.tt ?_)|(with_reducible refine ObT.ff ?_)|((with_reducible refine ObB.yes ?_ ?_);(focus (first|assumption|(with_reducible rfl)|omega)))|((with_reducible refine ObB.no ?_ ?_);(focus (first|assumption|omega)))|((with_reducible refine (?_:ObU _ _));(refine ObU.mk _ (by first|exact ha|assumption|((conv=>lhs;simp only [List.set_cons_zero,List.set_cons_succ,List.take_succ_cons,List.take_zero,List.drop_succ_cons,List.drop_zero,List.nil_append,List.cons_append,List.append_nil,List.take_nil,List.drop_nil]);try rfl)|rfl) ?_))|((with_reducible refine (?_:ObR _ _ _));(first|(refine ObR.mk _ (by assumption) ?_)|(refine ObR.mk _ (by with_reducible rfl) ?_)|(refine ObR.map zX (fun x hx=>?_))|(refine ObR.mk _ rfl ?_)))|((with_reducible refine ObC.f 18 ?_);(first|(with_reducible refine ObC.mk _ (hm) ?_)|(refine ObC.mk _ (hm) ?_)))|((with_reducible refine ObEq.mk ?_);(focus (first|rfl|assumption))))
end
end Go.Proofs.Ytnammfeiehikfaa.Sim
namespace Go.Proofs.Ytnammfeiehikfaa.Sim
set_option maxRecDepth 100000
def E15:AF:=(AF.mk 35 [(0,none)] (AC.seq (AC.region [(AI.mk (some 0) (AOp.mv (AX.c (AV.v (Value.bool false)))) none)]) (AC.seq (AC.region [(AI.mk (some 5) (AOp.call 34 [(AX.c (AV.v (Value.string (ByteArray.mk #[97])))),(AX.c (AV.v (Value.string (ByteArray.mk #[49]))))]) none),(AI.mk (some 6) (AOp.call 34 [(AX.c (AV.v (Value.string (ByteArray.mk #[98])))),(AX.c (AV.v (Value.string (ByteArray.mk #[50]))))]) none),(AI.mk (some 7) (AOp.bsl 30 9 [(AX.t 5),(AX.t 6)]) none),(AI.mk (some 1) (AOp.mv (AX.t 7)) none)]) (AC.seq (AC.region [(AI.mk (some 9) (AOp.mv (AX.t 1)) none),(AI.mk (some 10) (AOp.call 34 [(AX.c (AV.v (Value.string (ByteArray.mk #[99])))),(AX.c (AV.v (Value.string (ByteArray.mk #[51]))))]) none),(AI.mk (some 11) (AOp.bsl 30 9 [(AX.t 10)]) none),(AI.mk (some 12) (AOp.bld [(AV.nl 9),(AV.v (Value.int IntKind.i64 0)),(AV.nl 1)] [(0,(1,(AX.t 11))),(1,(1,(AX.c (AV.v (Value.int IntKind.i64 (Int.negSucc 0))))))]) none),(AI.mk (some 13) (AOp.call 22 [(AX.t 9),(AX.t 12)]) none),(AI.mk (some 8) (AOp.mv (AX.t 13)) none),(AI.mk (some 14) (AOp.ext (AX.t 8) 0) none),(AI.mk (some 15) (AOp.ext (AX.t 8) 1) none),(AI.mk (some 16) (AOp.ext (AX.t 8) 2) none),(AI.mk (some 2) (AOp.mv (AX.t 14)) none),(AI.mk (some 3) (AOp.mv (AX.t 15)) none),(AI.mk (some 4) (AOp.mv (AX.t 16)) none)]) (AC.seq (AC.region [(AI.mk (some 17) (AOp.mv (AX.t 4)) none),(AI.mk (some 18) (AOp.bin BinOp.eql 37 false (Operand.tmp 17) (Operand.const (Value.int IntKind.i64 0)) (AX.t 17) (AX.c (AV.v (Value.int IntKind.i64 0)))) none),(AI.mk (some 19) (AOp.mv (AX.t 18)) none),(AI.mk (some 20) (AOp.mv (AX.t 3)) (some (19,true))),(AI.mk (some 21) (AOp.bin BinOp.eql 23 false (Operand.tmp 20) (Operand.const (Value.int IntKind.i64 3)) (AX.t 20) (AX.c (AV.v (Value.int IntKind.i64 3)))) (some (19,true))),(AI.mk (some 22) (AOp.pick (AX.t 19) (AX.t 21) (AX.c (AV.v (Value.bool false)))) none),(AI.mk (some 23) (AOp.mv (AX.t 22)) none),(AI.mk (some 24) (AOp.mv (AX.t 2)) (some (23,true))),(AI.mk (some 25) (AOp.len (AX.t 24)) (some (23,true))),(AI.mk (some 26) (AOp.bin BinOp.eql 3 false (Operand.tmp 25) (Operand.const (Value.int IntKind.i64 3)) (AX.t 25) (AX.c (AV.v (Value.int IntKind.i64 3)))) (some (23,true))),(AI.mk (some 27) (AOp.pick (AX.t 23) (AX.t 26) (AX.c (AV.v (Value.bool false)))) none),(AI.mk (some 28) (AOp.mv (AX.t 27)) none),(AI.mk (some 29) (AOp.mv (AX.t 2)) (some (28,true))),(AI.mk (some 30) (AOp.iad 9 (AX.t 29) (AX.c (AV.v (Value.int IntKind.i64 2)))) (some (28,true))),(AI.mk (some 31) (AOp.fad 1 (AX.t 30)) (some (28,true))),(AI.mk (some 32) (AOp.load false 1 (AX.t 31)) (some (28,true))),(AI.mk (some 33) (AOp.bin BinOp.eql 9 false (Operand.tmp 32) (Operand.const (Value.string (ByteArray.mk #[99]))) (AX.t 32) (AX.c (AV.v (Value.string (ByteArray.mk #[99]))))) (some (28,true))),(AI.mk (some 34) (AOp.pick (AX.t 28) (AX.t 33) (AX.c (AV.v (Value.bool false)))) none),(AI.mk (some 0) (AOp.mv (AX.t 34)) none)]) AC.ret)))))
theorem eop15:copF Try.prog [27,39,42,46,66,67,70,71,72,73,74] 15=some E15:=by kernel_rfl
theorem ehb15:hasBody Try.prog 15=true:=by kernel_rfl
theorem eop34:copF Try.prog [27,39,42,46,66,67,70,71,72,73,74] 34=some A34:=by kernel_rfl
theorem ehb34:hasBody Try.prog 34=true:=by kernel_rfl
def E22:AF:=(AF.mk 64 [(4,none),(5,none),(6,none)] (AC.seq (AC.region [(AI.mk (some 3) (AOp.new 32 3 (AX.t 1)) none),(AI.mk (some 4) (AOp.mv (AX.c (AV.nl 9))) none),(AI.mk (some 5) (AOp.mv (AX.c (AV.v (Value.int IntKind.i64 0)))) none),(AI.mk (some 6) (AOp.mv (AX.c (AV.v (Value.int IntKind.i64 0)))) none)]) (AC.seq (AC.seq (AC.region [(AI.mk (some 15) (AOp.load true 3 (AX.t 3)) none),(AI.mk (some 16) (AOp.call 11 [(AX.t 15)]) none),(AI.mk (some 17) (AOp.bin BinOp.neq 37 false (Operand.tmp 16) (Operand.const (Value.int IntKind.i64 0)) (AX.t 16) (AX.c (AV.v (Value.int IntKind.i64 0)))) none),(AI.mk (some 18) (AOp.mv (AX.t 17)) none),(AI.mk (some 19) (AOp.mv (AX.t 0)) (some (18,false))),(AI.mk (some 20) (AOp.call 36 [(AX.t 19)]) (some (18,false))),(AI.mk (some 21) (AOp.bin BinOp.neq 37 false (Operand.tmp 20) (Operand.const (Value.int IntKind.i64 0)) (AX.t 20) (AX.c (AV.v (Value.int IntKind.i64 0)))) (some (18,false))),(AI.mk (some 22) (AOp.pick (AX.t 18) (AX.c (AV.v (Value.bool true))) (AX.t 21)) none),(AI.mk (some 23) (AOp.mv (AX.t 22)) none),(AI.mk (some 24) (AOp.load true 3 (AX.t 3)) (some (23,false))),(AI.mk (some 25) (AOp.call 37 [(AX.t 24)]) (some (23,false))),(AI.mk (some 26) (AOp.mv (AX.t 0)) (some (23,false))),(AI.mk (some 27) (AOp.len (AX.t 26)) (some (23,false))),(AI.mk (some 28) (AOp.bin BinOp.gtr 23 false (Operand.tmp 25) (Operand.tmp 27) (AX.t 25) (AX.t 27)) (some (23,false))),(AI.mk (some 29) (AOp.pick (AX.t 23) (AX.c (AV.v (Value.bool true))) (AX.t 28)) none)]) (AC.cond (AX.t 29) (AC.seq (AC.region [(AI.mk (some 4) (AOp.mv (AX.c (AV.nl 9))) none),(AI.mk (some 5) (AOp.mv (AX.c (AV.v (Value.int IntKind.i64 0)))) none),(AI.mk (some 6) (AOp.mv (AX.c (AV.v (Value.int IntKind.i64 4)))) none)]) AC.ret) AC.skip)) (AC.seq (AC.region [(AI.mk (some 30) (AOp.mv (AX.t 0)) none),(AI.mk (some 31) (AOp.callh 27 [(AX.t 30)]) none),(AI.mk (some 7) (AOp.mv (AX.t 31)) none)]) (AC.seq (AC.region [(AI.mk (some 8) (AOp.mv (AX.c (AV.nl 1))) none)]) (AC.seq (AC.seq (AC.region [(AI.mk (some 32) (AOp.fad 0 (AX.t 3)) none),(AI.mk (some 33) (AOp.load false 1 (AX.t 32)) none),(AI.mk (some 34) (AOp.len (AX.t 33)) none),(AI.mk (some 35) (AOp.mv (AX.c (AV.v (Value.int IntKind.i64 0)))) none)]) (AC.block 0 (AC.loop (AC.seq (AC.region [(AI.mk (some 36) (AOp.bin BinOp.lss 3 false (Operand.tmp 35) (Operand.tmp 34) (AX.t 35) (AX.t 34)) none)]) (AC.seq (AC.cond (AX.t 36) AC.skip (AC.exit 0)) (AC.seq (AC.block 1 (AC.seq (AC.region [(AI.mk (some 37) (AOp.iad 9 (AX.t 33) (AX.t 35)) none),(AI.mk (some 38) (AOp.load true 9 (AX.t 37)) none),(AI.mk (some 10) (AOp.new 30 9 (AX.c (AV.agg [(AV.v (Value.int IntKind.i64 0)),(AV.v (Value.string (ByteArray.mk #[]))),(AV.v (Value.string (ByteArray.mk #[]))),(AV.v (Value.int IntKind.u32 0)),(AV.nl 1),(AV.v (Value.int IntKind.i64 0)),(AV.nl 2),(AV.v (Value.int IntKind.i64 0)),(AV.v (Value.int IntKind.i64 0))]))) none),(AI.mk none (AOp.store 9 (AX.t 10) (AX.t 38)) none)]) (AC.seq (AC.region [(AI.mk (some 40) (AOp.load true 9 (AX.t 10)) none),(AI.mk (some 41) (AOp.mv (AX.t 8)) none),(AI.mk (some 42) (AOp.call 16 [(AX.t 40),(AX.t 41)]) none),(AI.mk (some 39) (AOp.mv (AX.t 42)) none),(AI.mk (some 43) (AOp.ext (AX.t 39) 0) none),(AI.mk (some 44) (AOp.ext (AX.t 39) 1) none),(AI.mk (some 11) (AOp.new 30 9 (AX.c (AV.agg [(AV.v (Value.int IntKind.i64 0)),(AV.v (Value.string (ByteArray.mk #[]))),(AV.v (Value.string (ByteArray.mk #[]))),(AV.v (Value.int IntKind.u32 0)),(AV.nl 1),(AV.v (Value.int IntKind.i64 0)),(AV.nl 2),(AV.v (Value.int IntKind.i64 0)),(AV.v (Value.int IntKind.i64 0))]))) none),(AI.mk none (AOp.store 9 (AX.t 11) (AX.t 43)) none),(AI.mk (some 12) (AOp.mv (AX.t 44)) none)]) (AC.seq (AC.region [(AI.mk (some 45) (AOp.mv (AX.t 7)) none),(AI.mk (some 46) (AOp.load true 9 (AX.t 11)) none),(AI.mk (some 47) (AOp.bsl 30 9 [(AX.t 46)]) none),(AI.mk (some 48) (AOp.app 30 9 120 (AX.t 45) (AX.t 47)) none),(AI.mk (some 7) (AOp.mv (AX.t 48)) none)]) (AC.region [(AI.mk (some 49) (AOp.mv (AX.t 8)) none),(AI.mk (some 50) (AOp.mv (AX.t 7)) none),(AI.mk (some 51) (AOp.len (AX.t 50)) none),(AI.mk (some 52) (AOp.bsl 23 1 [(AX.t 51)]) none),(AI.mk (some 53) (AOp.app 23 1 8 (AX.t 49) (AX.t 52)) none),(AI.mk (some 8) (AOp.mv (AX.t 53)) none)]))))) (AC.region [(AI.mk (some 54) (AOp.bin BinOp.add 3 false (Operand.tmp 35) (Operand.const (Value.int IntKind.i64 1)) (AX.t 35) (AX.c (AV.v (Value.int IntKind.i64 1)))) none),(AI.mk (some 35) (AOp.mv (AX.t 54)) none)]))))))) (AC.seq (AC.region [(AI.mk (some 56) (AOp.fad 1 (AX.t 3)) none),(AI.mk (some 57) (AOp.load false 1 (AX.t 56)) none),(AI.mk (some 58) (AOp.mv (AX.t 8)) none),(AI.mk (some 59) (AOp.call 18 [(AX.t 57),(AX.t 58)]) none),(AI.mk (some 55) (AOp.mv (AX.t 59)) none),(AI.mk (some 60) (AOp.ext (AX.t 55) 0) none),(AI.mk (some 61) (AOp.ext (AX.t 55) 1) none),(AI.mk (some 13) (AOp.mv (AX.t 60)) none),(AI.mk (some 14) (AOp.mv (AX.t 61)) none)]) (AC.seq (AC.region [(AI.mk (some 62) (AOp.mv (AX.t 7)) none),(AI.mk (some 63) (AOp.mv (AX.t 13)) none),(AI.mk (some 4) (AOp.mv (AX.t 62)) none),(AI.mk (some 5) (AOp.mv (AX.t 63)) none),(AI.mk (some 6) (AOp.mv (AX.c (AV.v (Value.int IntKind.i64 0)))) none)]) AC.ret))))))))
theorem eop22:copF Try.prog [27,39,42,46,66,67,70,71,72,73,74] 22=some E22:=by kernel_rfl
theorem ehb22:hasBody Try.prog 22=true:=by kernel_rfl
theorem eop11:copF Try.prog [27,39,42,46,66,67,70,71,72,73,74] 11=some A11:=by kernel_rfl
theorem ehb11:hasBody Try.prog 11=true:=by kernel_rfl
theorem eop29:copF Try.prog [27,39,42,46,66,67,70,71,72,73,74] 29=some A29:=by kernel_rfl
theorem ehb29:hasBody Try.prog 29=true:=by kernel_rfl
theorem eop41:copF Try.prog [27,39,42,46,66,67,70,71,72,73,74] 41=some A41:=by kernel_rfl
theorem ehb41:hasBody Try.prog 41=true:=by kernel_rfl
theorem eop42:copF Try.prog [27,39,42,46,66,67,70,71,72,73,74] 42=some A42:=by kernel_rfl
theorem ehb42:hasBody Try.prog 42=true:=by kernel_rfl
theorem eop46:copF Try.prog [27,39,42,46,66,67,70,71,72,73,74] 46=some A46:=by kernel_rfl
theorem ehb46:hasBody Try.prog 46=true:=by kernel_rfl
theorem eop43:copF Try.prog [27,39,42,46,66,67,70,71,72,73,74] 43=some A43:=by kernel_rfl
theorem ehb43:hasBody Try.prog 43=true:=by kernel_rfl
theorem eop53:copF Try.prog [27,39,42,46,66,67,70,71,72,73,74] 53=some A53:=by kernel_rfl
theorem ehb53:hasBody Try.prog 53=true:=by kernel_rfl
def E60:AF:=(AF.mk 38 [(4,none)] (AC.seq (AC.region [(AI.mk (some 4) (AOp.mv (AX.c (AV.v (Value.int IntKind.i64 0)))) none)]) (AC.seq (AC.region [(AI.mk (some 6) (AOp.mv (AX.t 0)) none),(AI.mk (some 7) (AOp.mv (AX.t 1)) none),(AI.mk (some 8) (AOp.call 69 [(AX.t 6),(AX.t 7)]) none),(AI.mk (some 5) (AOp.mv (AX.t 8)) none)]) (AC.seq (AC.block 0 (AC.seq (AC.region [(AI.mk (some 10) (AOp.mv (AX.t 5)) none),(AI.mk (some 11) (AOp.mv (AX.t 0)) none),(AI.mk (some 12) (AOp.lns (AX.t 11)) none),(AI.mk (some 13) (AOp.bin BinOp.eql 3 false (Operand.tmp 10) (Operand.tmp 12) (AX.t 10) (AX.t 12)) none),(AI.mk (some 14) (AOp.mv (AX.t 13)) none),(AI.mk (some 15) (AOp.mv (AX.t 5)) (some (14,true))),(AI.mk (some 16) (AOp.mv (AX.t 1)) (some (14,true))),(AI.mk (some 17) (AOp.lns (AX.t 16)) (some (14,true))),(AI.mk (some 18) (AOp.bin BinOp.eql 3 false (Operand.tmp 15) (Operand.tmp 17) (AX.t 15) (AX.t 17)) (some (14,true))),(AI.mk (some 19) (AOp.pick (AX.t 14) (AX.t 18) (AX.c (AV.v (Value.bool false)))) none),(AI.mk (some 9) (AOp.mv (AX.t 19)) none)]) (AC.cond (AX.t 9) (AC.seq (AC.region [(AI.mk (some 4) (AOp.mv (AX.c (AV.v (Value.int IntKind.i64 0)))) none)]) AC.ret) (AC.seq (AC.region [(AI.mk (some 21) (AOp.mv (AX.t 5)) none),(AI.mk (some 22) (AOp.mv (AX.t 0)) none),(AI.mk (some 23) (AOp.lns (AX.t 22)) none),(AI.mk (some 24) (AOp.bin BinOp.eql 3 false (Operand.tmp 21) (Operand.tmp 23) (AX.t 21) (AX.t 23)) none),(AI.mk (some 20) (AOp.mv (AX.t 24)) none)]) (AC.cond (AX.t 20) (AC.seq (AC.region [(AI.mk (some 4) (AOp.mv (AX.c (AV.v (Value.int IntKind.i64 (Int.negSucc 0))))) none)]) AC.ret) (AC.seq (AC.region [(AI.mk (some 26) (AOp.mv (AX.t 5)) none),(AI.mk (some 27) (AOp.mv (AX.t 1)) none),(AI.mk (some 28) (AOp.lns (AX.t 27)) none),(AI.mk (some 29) (AOp.bin BinOp.eql 3 false (Operand.tmp 26) (Operand.tmp 28) (AX.t 26) (AX.t 28)) none),(AI.mk (some 25) (AOp.mv (AX.t 29)) none)]) (AC.cond (AX.t 25) (AC.seq (AC.region [(AI.mk (some 4) (AOp.mv (AX.c (AV.v (Value.int IntKind.i64 1)))) none)]) AC.ret) (AC.seq (AC.draw [(AI.mk (some 31) (AOp.mv (AX.t 0)) none),(AI.mk (some 32) (AOp.mv (AX.t 5)) none),(AI.mk (some 33) (AOp.idx 9 (AX.t 31) (AX.t 32)) none),(AI.mk (some 34) (AOp.mv (AX.t 1)) none),(AI.mk (some 35) (AOp.mv (AX.t 5)) none),(AI.mk (some 36) (AOp.idx 9 (AX.t 34) (AX.t 35)) none),(AI.mk (some 37) (AOp.bin BinOp.lss 5 false (Operand.tmp 33) (Operand.tmp 36) (AX.t 33) (AX.t 36)) none),(AI.mk (some 30) (AOp.mv (AX.t 37)) none)]) (AC.cond (AX.t 30) (AC.seq (AC.region [(AI.mk (some 4) (AOp.mv (AX.c (AV.v (Value.int IntKind.i64 (Int.negSucc 0))))) none)]) AC.ret) AC.skip))))))))) (AC.seq (AC.region [(AI.mk (some 4) (AOp.mv (AX.c (AV.v (Value.int IntKind.i64 1)))) none)]) AC.ret)))))
theorem eop60:copF Try.prog [27,39,42,46,66,67,70,71,72,73,74] 60=some E60:=by kernel_rfl
theorem ehb60:hasBody Try.prog 60=true:=by kernel_rfl
def E69:AF:=(AF.mk 28 [(4,none)] (AC.seq (AC.region [(AI.mk (some 4) (AOp.mv (AX.c (AV.v (Value.int IntKind.i64 0)))) none)]) (AC.seq (AC.seq (AC.region [(AI.mk (some 6) (AOp.mv (AX.t 0)) none),(AI.mk (some 7) (AOp.lns (AX.t 6)) none),(AI.mk (some 8) (AOp.mv (AX.t 1)) none),(AI.mk (some 9) (AOp.lns (AX.t 8)) none),(AI.mk (some 10) (AOp.bi Builtin.min #[3,3] 3 #[false,false] [(AX.t 7),(AX.t 9)]) none),(AI.mk (some 11) (AOp.mv (AX.c (AV.v (Value.int IntKind.i64 0)))) none)]) (AC.block 0 (AC.loop (AC.seq (AC.region [(AI.mk (some 12) (AOp.bin BinOp.lss 3 false (Operand.tmp 11) (Operand.tmp 10) (AX.t 11) (AX.t 10)) none)]) (AC.seq (AC.cond (AX.t 12) AC.skip (AC.exit 0)) (AC.seq (AC.block 1 (AC.seq (AC.region [(AI.mk (some 13) (AOp.mv (AX.t 11)) none),(AI.mk (some 5) (AOp.mv (AX.t 13)) none)]) (AC.seq (AC.draw [(AI.mk (some 14) (AOp.mv (AX.t 0)) none),(AI.mk (some 15) (AOp.mv (AX.t 5)) none),(AI.mk (some 16) (AOp.idx 9 (AX.t 14) (AX.t 15)) none),(AI.mk (some 17) (AOp.mv (AX.t 1)) none),(AI.mk (some 18) (AOp.mv (AX.t 5)) none),(AI.mk (some 19) (AOp.idx 9 (AX.t 17) (AX.t 18)) none),(AI.mk (some 20) (AOp.bin BinOp.neq 5 false (Operand.tmp 16) (Operand.tmp 19) (AX.t 16) (AX.t 19)) none)]) (AC.cond (AX.t 20) (AC.seq (AC.region [(AI.mk (some 21) (AOp.mv (AX.t 5)) none),(AI.mk (some 4) (AOp.mv (AX.t 21)) none)]) AC.ret) AC.skip)))) (AC.region [(AI.mk (some 22) (AOp.bin BinOp.add 3 false (Operand.tmp 11) (Operand.const (Value.int IntKind.i64 1)) (AX.t 11) (AX.c (AV.v (Value.int IntKind.i64 1)))) none),(AI.mk (some 11) (AOp.mv (AX.t 22)) none)]))))))) (AC.seq (AC.region [(AI.mk (some 23) (AOp.mv (AX.t 0)) none),(AI.mk (some 24) (AOp.lns (AX.t 23)) none),(AI.mk (some 25) (AOp.mv (AX.t 1)) none),(AI.mk (some 26) (AOp.lns (AX.t 25)) none),(AI.mk (some 27) (AOp.bi Builtin.min #[3,3] 3 #[false,false] [(AX.t 24),(AX.t 26)]) none),(AI.mk (some 4) (AOp.mv (AX.t 27)) none)]) AC.ret))))
theorem eop69:copF Try.prog [27,39,42,46,66,67,70,71,72,73,74] 69=some E69:=by kernel_rfl
theorem ehb69:hasBody Try.prog 69=true:=by kernel_rfl
theorem eop61:copF Try.prog [27,39,42,46,66,67,70,71,72,73,74] 61=some A61:=by kernel_rfl
theorem ehb61:hasBody Try.prog 61=true:=by kernel_rfl
theorem eop62:copF Try.prog [27,39,42,46,66,67,70,71,72,73,74] 62=some A62:=by kernel_rfl
theorem ehb62:hasBody Try.prog 62=true:=by kernel_rfl
def E30:AF:=(AF.mk 26 [(2,none)] (AC.seq (AC.region [(AI.mk (some 1) (AOp.new 30 9 (AX.t 0)) none),(AI.mk (some 2) (AOp.mv (AX.c (AV.nl 1))) none)]) (AC.seq (AC.region [(AI.mk (some 3) (AOp.mv (AX.c (AV.nl 1))) none)]) (AC.seq (AC.seq (AC.drawx [[(AI.mk (some 6) (AOp.fad 4 (AX.t 1)) none),(AI.mk (some 7) (AOp.load false 1 (AX.t 6)) none),(AI.mk (some 8) (AOp.callh 39 [(AX.t 7)]) none),(AI.mk (some 9) (AOp.fad 5 (AX.t 1)) none),(AI.mk (some 10) (AOp.load false 1 (AX.t 9)) none),(AI.mk (some 11) (AOp.bsl 23 1 [(AX.t 10)]) none),(AI.mk (some 12) (AOp.app 23 1 8 (AX.t 8) (AX.t 11)) none),(AI.mk (some 13) (AOp.len (AX.t 12)) none),(AI.mk (some 14) (AOp.mv (AX.c (AV.v (Value.int IntKind.i64 0)))) none)],[(AI.mk (some 6) (AOp.fad 4 (AX.t 1)) none),(AI.mk (some 7) (AOp.load false 1 (AX.t 6)) none),(AI.mk (some 9) (AOp.fad 5 (AX.t 1)) none),(AI.mk (some 8) (AOp.callh 39 [(AX.t 7)]) none),(AI.mk (some 10) (AOp.load false 1 (AX.t 9)) none),(AI.mk (some 11) (AOp.bsl 23 1 [(AX.t 10)]) none),(AI.mk (some 12) (AOp.app 23 1 8 (AX.t 8) (AX.t 11)) none),(AI.mk (some 13) (AOp.len (AX.t 12)) none),(AI.mk (some 14) (AOp.mv (AX.c (AV.v (Value.int IntKind.i64 0)))) none)],[(AI.mk (some 6) (AOp.fad 4 (AX.t 1)) none),(AI.mk (some 7) (AOp.load false 1 (AX.t 6)) none),(AI.mk (some 9) (AOp.fad 5 (AX.t 1)) none),(AI.mk (some 10) (AOp.load false 1 (AX.t 9)) none),(AI.mk (some 8) (AOp.callh 39 [(AX.t 7)]) none),(AI.mk (some 11) (AOp.bsl 23 1 [(AX.t 10)]) none),(AI.mk (some 12) (AOp.app 23 1 8 (AX.t 8) (AX.t 11)) none),(AI.mk (some 13) (AOp.len (AX.t 12)) none),(AI.mk (some 14) (AOp.mv (AX.c (AV.v (Value.int IntKind.i64 0)))) none)],[(AI.mk (some 6) (AOp.fad 4 (AX.t 1)) none),(AI.mk (some 7) (AOp.load false 1 (AX.t 6)) none),(AI.mk (some 9) (AOp.fad 5 (AX.t 1)) none),(AI.mk (some 10) (AOp.load false 1 (AX.t 9)) none),(AI.mk (some 11) (AOp.bsl 23 1 [(AX.t 10)]) none),(AI.mk (some 8) (AOp.callh 39 [(AX.t 7)]) none),(AI.mk (some 12) (AOp.app 23 1 8 (AX.t 8) (AX.t 11)) none),(AI.mk (some 13) (AOp.len (AX.t 12)) none),(AI.mk (some 14) (AOp.mv (AX.c (AV.v (Value.int IntKind.i64 0)))) none)]]) (AC.block 0 (AC.loop (AC.seq (AC.region [(AI.mk (some 15) (AOp.bin BinOp.lss 3 false (Operand.tmp 14) (Operand.tmp 13) (AX.t 14) (AX.t 13)) none)]) (AC.seq (AC.cond (AX.t 15) AC.skip (AC.exit 0)) (AC.seq (AC.block 1 (AC.seq (AC.region [(AI.mk (some 16) (AOp.iad 1 (AX.t 12) (AX.t 14)) none),(AI.mk (some 17) (AOp.load false 1 (AX.t 16)) none),(AI.mk (some 5) (AOp.mv (AX.t 17)) none)]) (AC.seq (AC.region [(AI.mk (some 18) (AOp.mv (AX.t 5)) none),(AI.mk (some 19) (AOp.bin BinOp.neq 23 false (Operand.tmp 18) (Operand.const (Value.int IntKind.i64 0)) (AX.t 18) (AX.c (AV.v (Value.int IntKind.i64 0)))) none)]) (AC.cond (AX.t 19) (AC.region [(AI.mk (some 20) (AOp.mv (AX.t 3)) none),(AI.mk (some 21) (AOp.mv (AX.t 5)) none),(AI.mk (some 22) (AOp.bsl 23 1 [(AX.t 21)]) none),(AI.mk (some 23) (AOp.app 23 1 8 (AX.t 20) (AX.t 22)) none),(AI.mk (some 3) (AOp.mv (AX.t 23)) none)]) AC.skip)))) (AC.region [(AI.mk (some 24) (AOp.bin BinOp.add 3 false (Operand.tmp 14) (Operand.const (Value.int IntKind.i64 1)) (AX.t 14) (AX.c (AV.v (Value.int IntKind.i64 1)))) none),(AI.mk (some 14) (AOp.mv (AX.t 24)) none)]))))))) (AC.seq (AC.region [(AI.mk (some 25) (AOp.mv (AX.t 3)) none),(AI.mk (some 2) (AOp.mv (AX.t 25)) none)]) AC.ret)))))
theorem eop30:copF Try.prog [27,39,42,46,66,67,70,71,72,73,74] 30=some E30:=by kernel_rfl
theorem ehb30:hasBody Try.prog 30=true:=by kernel_rfl
theorem eop39:copF Try.prog [27,39,42,46,66,67,70,71,72,73,74] 39=some A39:=by kernel_rfl
theorem ehb39:hasBody Try.prog 39=true:=by kernel_rfl
theorem eop40:copF Try.prog [27,39,42,46,66,67,70,71,72,73,74] 40=some A40:=by kernel_rfl
theorem ehb40:hasBody Try.prog 40=true:=by kernel_rfl
theorem eop28:copF Try.prog [27,39,42,46,66,67,70,71,72,73,74] 28=some B28:=by kernel_rfl
theorem ehb28:hasBody Try.prog 28=true:=by kernel_rfl
theorem eop31:copF Try.prog [27,39,42,46,66,67,70,71,72,73,74] 31=some A31:=by kernel_rfl
theorem ehb31:hasBody Try.prog 31=true:=by kernel_rfl
theorem eop36:copF Try.prog [27,39,42,46,66,67,70,71,72,73,74] 36=some A36:=by kernel_rfl
theorem ehb36:hasBody Try.prog 36=true:=by kernel_rfl
theorem eop37:copF Try.prog [27,39,42,46,66,67,70,71,72,73,74] 37=some A37:=by kernel_rfl
theorem ehb37:hasBody Try.prog 37=true:=by kernel_rfl
theorem eop27:copF Try.prog [27,39,42,46,66,67,70,71,72,73,74] 27=some A27:=by kernel_rfl
theorem ehb27:hasBody Try.prog 27=true:=by kernel_rfl
def E16:AF:=(AF.mk 54 [(4,(some (true,9))),(5,none)] (AC.seq (AC.region [(AI.mk (some 2) (AOp.new 30 9 (AX.t 0)) none),(AI.mk (some 4) (AOp.new 30 9 (AX.c (AV.agg [(AV.v (Value.int IntKind.i64 0)),(AV.v (Value.string (ByteArray.mk #[]))),(AV.v (Value.string (ByteArray.mk #[]))),(AV.v (Value.int IntKind.u32 0)),(AV.nl 1),(AV.v (Value.int IntKind.i64 0)),(AV.nl 2),(AV.v (Value.int IntKind.i64 0)),(AV.v (Value.int IntKind.i64 0))]))) none),(AI.mk (some 5) (AOp.mv (AX.c (AV.v (Value.int IntKind.i64 0)))) none)]) (AC.seq (AC.region [(AI.mk (some 12) (AOp.load true 9 (AX.t 2)) none),(AI.mk (some 13) (AOp.call 28 [(AX.t 12)]) none),(AI.mk (some 6) (AOp.new 30 9 (AX.c (AV.agg [(AV.v (Value.int IntKind.i64 0)),(AV.v (Value.string (ByteArray.mk #[]))),(AV.v (Value.string (ByteArray.mk #[]))),(AV.v (Value.int IntKind.u32 0)),(AV.nl 1),(AV.v (Value.int IntKind.i64 0)),(AV.nl 2),(AV.v (Value.int IntKind.i64 0)),(AV.v (Value.int IntKind.i64 0))]))) none),(AI.mk none (AOp.store 9 (AX.t 6) (AX.t 13)) none)]) (AC.seq (AC.seq (AC.region [(AI.mk (some 14) (AOp.fad 4 (AX.t 6)) none),(AI.mk (some 15) (AOp.load false 1 (AX.t 14)) none),(AI.mk (some 16) (AOp.len (AX.t 15)) none),(AI.mk (some 17) (AOp.mv (AX.c (AV.v (Value.int IntKind.i64 0)))) none)]) (AC.block 0 (AC.loop (AC.seq (AC.region [(AI.mk (some 18) (AOp.bin BinOp.lss 3 false (Operand.tmp 17) (Operand.tmp 16) (AX.t 17) (AX.t 16)) none)]) (AC.seq (AC.cond (AX.t 18) AC.skip (AC.exit 0)) (AC.seq (AC.block 1 (AC.seq (AC.region [(AI.mk (some 19) (AOp.mv (AX.t 17)) none),(AI.mk (some 7) (AOp.mv (AX.t 19)) none)]) (AC.seq (AC.region [(AI.mk (some 21) (AOp.fad 4 (AX.t 6)) none),(AI.mk (some 22) (AOp.load false 1 (AX.t 21)) none),(AI.mk (some 23) (AOp.mv (AX.t 7)) none),(AI.mk (some 24) (AOp.iad 1 (AX.t 22) (AX.t 23)) none),(AI.mk (some 25) (AOp.load false 1 (AX.t 24)) none),(AI.mk (some 26) (AOp.mv (AX.t 1)) none),(AI.mk (some 27) (AOp.call 18 [(AX.t 25),(AX.t 26)]) none),(AI.mk (some 20) (AOp.mv (AX.t 27)) none),(AI.mk (some 28) (AOp.ext (AX.t 20) 0) none),(AI.mk (some 29) (AOp.ext (AX.t 20) 1) none),(AI.mk (some 8) (AOp.mv (AX.t 28)) none),(AI.mk (some 9) (AOp.mv (AX.t 29)) none)]) (AC.seq (AC.seq (AC.region [(AI.mk (some 30) (AOp.mv (AX.t 9)) none),(AI.mk (some 31) (AOp.bin BinOp.neq 37 false (Operand.tmp 30) (Operand.const (Value.int IntKind.i64 0)) (AX.t 30) (AX.c (AV.v (Value.int IntKind.i64 0)))) none)]) (AC.cond (AX.t 31) (AC.seq (AC.region [(AI.mk (some 32) (AOp.bld [(AV.v (Value.int IntKind.i64 0)),(AV.v (Value.string (ByteArray.mk #[]))),(AV.v (Value.string (ByteArray.mk #[]))),(AV.v (Value.int IntKind.u32 0)),(AV.nl 1),(AV.v (Value.int IntKind.i64 0)),(AV.nl 2),(AV.v (Value.int IntKind.i64 0)),(AV.v (Value.int IntKind.i64 0))] []) none),(AI.mk (some 33) (AOp.mv (AX.t 9)) none),(AI.mk none (AOp.store 9 (AX.t 4) (AX.t 32)) none),(AI.mk (some 5) (AOp.mv (AX.t 33)) none)]) AC.ret) AC.skip)) (AC.region [(AI.mk (some 34) (AOp.fad 4 (AX.t 6)) none),(AI.mk (some 35) (AOp.load false 1 (AX.t 34)) none),(AI.mk (some 36) (AOp.mv (AX.t 7)) none),(AI.mk (some 37) (AOp.mv (AX.t 8)) none),(AI.mk (some 38) (AOp.iad 1 (AX.t 35) (AX.t 36)) none),(AI.mk none (AOp.store 1 (AX.t 38) (AX.t 37)) none)]))))) (AC.region [(AI.mk (some 39) (AOp.bin BinOp.add 3 false (Operand.tmp 17) (Operand.const (Value.int IntKind.i64 1)) (AX.t 17) (AX.c (AV.v (Value.int IntKind.i64 1)))) none),(AI.mk (some 17) (AOp.mv (AX.t 39)) none)]))))))) (AC.seq (AC.region [(AI.mk (some 41) (AOp.fad 5 (AX.t 6)) none),(AI.mk (some 42) (AOp.load false 1 (AX.t 41)) none),(AI.mk (some 43) (AOp.mv (AX.t 1)) none),(AI.mk (some 44) (AOp.call 18 [(AX.t 42),(AX.t 43)]) none),(AI.mk (some 40) (AOp.mv (AX.t 44)) none),(AI.mk (some 45) (AOp.ext (AX.t 40) 0) none),(AI.mk (some 46) (AOp.ext (AX.t 40) 1) none),(AI.mk (some 10) (AOp.mv (AX.t 45)) none),(AI.mk (some 11) (AOp.mv (AX.t 46)) none)]) (AC.seq (AC.seq (AC.region [(AI.mk (some 47) (AOp.mv (AX.t 11)) none),(AI.mk (some 48) (AOp.bin BinOp.neq 37 false (Operand.tmp 47) (Operand.const (Value.int IntKind.i64 0)) (AX.t 47) (AX.c (AV.v (Value.int IntKind.i64 0)))) none)]) (AC.cond (AX.t 48) (AC.seq (AC.region [(AI.mk (some 49) (AOp.bld [(AV.v (Value.int IntKind.i64 0)),(AV.v (Value.string (ByteArray.mk #[]))),(AV.v (Value.string (ByteArray.mk #[]))),(AV.v (Value.int IntKind.u32 0)),(AV.nl 1),(AV.v (Value.int IntKind.i64 0)),(AV.nl 2),(AV.v (Value.int IntKind.i64 0)),(AV.v (Value.int IntKind.i64 0))] []) none),(AI.mk (some 50) (AOp.mv (AX.t 11)) none),(AI.mk none (AOp.store 9 (AX.t 4) (AX.t 49)) none),(AI.mk (some 5) (AOp.mv (AX.t 50)) none)]) AC.ret) AC.skip)) (AC.seq (AC.region [(AI.mk (some 51) (AOp.mv (AX.t 10)) none),(AI.mk (some 52) (AOp.fad 5 (AX.t 6)) none),(AI.mk none (AOp.store 1 (AX.t 52) (AX.t 51)) none)]) (AC.seq (AC.region [(AI.mk (some 53) (AOp.load true 9 (AX.t 6)) none),(AI.mk none (AOp.store 9 (AX.t 4) (AX.t 53)) none),(AI.mk (some 5) (AOp.mv (AX.c (AV.v (Value.int IntKind.i64 0)))) none)]) AC.ret))))))))
theorem eop16:copF Try.prog [27,39,42,46,66,67,70,71,72,73,74] 16=some E16:=by kernel_rfl
theorem ehb16:hasBody Try.prog 16=true:=by kernel_rfl
theorem eop18:copF Try.prog [27,39,42,46,66,67,70,71,72,73,74] 18=some A18:=by kernel_rfl
theorem ehb18:hasBody Try.prog 18=true:=by kernel_rfl
theorem eop26:copF Try.prog [27,39,42,46,66,67,70,71,72,73,74] 26=some A31:=by kernel_rfl
theorem ehb26:hasBody Try.prog 26=true:=by kernel_rfl
def tabE:Tab:=[(15,E15),(34,A34),(22,E22),(11,A11),(29,A29),(41,A41),(42,A42),(46,A46),(43,A43),(53,A53),(60,E60),(69,E69),(61,A61),(62,A62),(30,E30),(39,A39),(40,A40),(28,B28),(31,A31),(36,A36),(37,A37),(27,A27),(16,E16),(18,A18),(26,A31)]
theorem tabE_ok:tabE.Ok Try.prog [27,39,42,46,66,67,70,71,72,73,74]:=Tab.ok_cons eop15 ehb15 (Tab.ok_cons eop34 ehb34 (Tab.ok_cons eop22 ehb22 (Tab.ok_cons eop11 ehb11 (Tab.ok_cons eop29 ehb29 (Tab.ok_cons eop41 ehb41 (Tab.ok_cons eop42 ehb42 (Tab.ok_cons eop46 ehb46 (Tab.ok_cons eop43 ehb43 (Tab.ok_cons eop53 ehb53 (Tab.ok_cons eop60 ehb60 (Tab.ok_cons eop69 ehb69 (Tab.ok_cons eop61 ehb61 (Tab.ok_cons eop62 ehb62 (Tab.ok_cons eop30 ehb30 (Tab.ok_cons eop39 ehb39 (Tab.ok_cons eop40 ehb40 (Tab.ok_cons eop28 ehb28 (Tab.ok_cons eop31 ehb31 (Tab.ok_cons eop36 ehb36 (Tab.ok_cons eop37 ehb37 (Tab.ok_cons eop27 ehb27 (Tab.ok_cons eop16 ehb16 (Tab.ok_cons eop18 ehb18 (Tab.ok_cons eop26 ehb26 (Tab.ok_nil)))))))))))))))))))))))))
end Go.Proofs.Ytnammfeiehikfaa.Sim
namespace Go.Proofs.Ytnammfeiehikfaa.Sim
open Go.RowKit
set_option maxRecDepth 100000
theorem works18 (G:Nat→AV):PC Try.prog G 15 [] (Bo true):=runsTo_true tabE_ok (n:=1000) (by kernel_rfl)
theorem i_snoc {l:List Int} {x:Int}:(l.map iA).take l.length++[.v (.int .i64 x)]=(l++[x]).map iA:=by
  rw [List.take_of_length_le (by simp)];simp [iA]
section
variable (G:Nat→AV)
end
end Go.Proofs.Ytnammfeiehikfaa.Sim
namespace Go.Proofs.Ytnammfeiehikfaa.Sim
open Go.RowKit
set_option maxRecDepth 100000
theorem min20 {n:Nat}:(if (20:Int) < (n:Int) then (20:Int) else (n:Int))=((min n 20:Nat):Int):=by split<;>omega
theorem tk_min {l:List Int}:((l.map iA).take (min l.length 20)).drop 0=(l.take 20).map iA:=by
  rw [List.drop_zero,List.map_take]
  rcases Nat.lt_or_ge 20 l.length with h|h
  · rw [Nat.min_eq_right (by omega)]
  · rw [Nat.min_eq_left h,List.take_of_length_le (by simp),List.take_of_length_le (by simpa using h)]
theorem i_all {l:List Int}:(l.map iA).take l.length=l.map iA:=List.take_of_length_le (by simp)
section
variable (G:Nat→AV)
end
abbrev i64S:={n:Int // i64 n}
end Go.Proofs.Ytnammfeiehikfaa.Sim
namespace Go.Proofs.Ytnammfeiehikfaa.Sim
open Go.RowKit
set_option maxRecDepth 100000
set_option maxHeartbeats 16000000 in
theorem same22 (G : Nat → AV) (kn kn' : Int) (ke ke' va va' : ByteArray) (mp mp' : Int) (kk kk' : List Int) (mn mn' : Int) (ls ls' : List Pr) (sz sz' bi bi' : Int) (hke : ke.size ≤ 9223372036854775807) (hke2 : ke'.size ≤ 9223372036854775807) (hva : va.size ≤ 9223372036854775807) (hva2 : va'.size ≤ 9223372036854775807) (hks : kk.length ≤ 9223372036854775807) (hks2 : kk'.length ≤ 9223372036854775807) (hls : ls.length ≤ 9223372036854775807) (hls2 : ls'.length ≤ 9223372036854775807) (r : Bool)
    (hr:r=decide (kn=kn'∧ke=ke'∧va=va'∧mp=mp'∧kk=kk'∧mn=mn'∧ls=ls'∧sz=sz'∧bi=bi')):PC Try.prog G 53 [nV kn ke va mp kk mn ls sz bi,nV kn' ke' va' mp' kk' mn' ls' sz' bi'] (Bo r):=by
  refine pc_of cop53 ?_
  show W _ _ _ _ ⟨_,_⟩;simp only [A53,List.cons_append,List.nil_append,List.length_cons,List.length_nil,Nat.reduceAdd,Nat.reduceSub,List.replicate]
  by_cases hne:kn=kn'
  case neg =>
    obtain rfl:r=false:=by rw [hr];simp [hne]
    repeat (first|with_reducible refine w_seq ?_|with_reducible refine w_reg ?_|with_reducible refine ws_nil ?_|with_reducible refine q_then ?_|with_reducible refine w_ret ?_|((with_reducible refine kgs_f ?_ ?_);rfl)|((first|with_reducible refine ks fun K hK=>?_|with_reducible refine kd fun K hK=>?_|with_reducible refine kc fun K hK2 hK hK3=>?_);simp (disch:=omega) only [bg0,bg1,bg2,bg3,bg4,stepO,rsAs,eff,AX.ev,St.put,binA,conc,ap1,ofVal,Int.reduceTMod,Int.reduceTDiv,reduceCtorEq,fillA,AV.cells,AV.fine,AV.one,Nat.reduceAdd,Nat.reduceSub,Nat.reduceMul,Nat.reduceLT,Nat.reduceLeDiff,Int.reduceLT,Int.reduceLE,Int.reduceAdd,Int.reduceSub,Int.reduceNeg,Int.reduceMul,Int.reduceEq,Int.reduceToNat,nilA,moveA,live,loadA,rdA,storeA,wrA,intA,elemA,lenA,appA,srcA,isPtr,isNilPtr,partA,resOf,sliceA,cut,id,ap2,reduceIte,concs,chkB,geB,AOp.cls,AOp.xs,ltB,ltC,Nat.reduceBEq,Option.toList,List.cons_append,decide_eq_true,decide_eq_false,if_pos,if_neg,List.length_map,pA_at,iA_at,List.cons_append,bVb,bVn,eq_self,Bool.and_self,BEq.rfl,not_true_eq_false,b32e,b32n,decide_true,decide_false,not_false_eq_true,hne,cB_self];(first|((with_reducible refine hK _ ?_);clear hK K)|((with_reducible refine hK ?_);clear hK hK3 K hK2)|((with_reducible refine hK3 ?_);clear hK hK3 K hK2)))|((first|with_reducible refine ret_h fun K hK=>?_|with_reducible refine ret_hh rfl fun K hK=>?_|with_reducible refine ret_pp fun K hK=>?_);simp (disch:=omega) only [bg0,bg1,bg2,bg3,bg4,stepO,rsAs,eff,AX.ev,St.put,binA,conc,ap1,ofVal,Int.reduceTMod,Int.reduceTDiv,reduceCtorEq,fillA,AV.cells,AV.fine,AV.one,Nat.reduceAdd,Nat.reduceSub,Nat.reduceMul,Nat.reduceLT,Nat.reduceLeDiff,Int.reduceLT,Int.reduceLE,Int.reduceAdd,Int.reduceSub,Int.reduceNeg,Int.reduceMul,Int.reduceEq,Int.reduceToNat,nilA,moveA,live,loadA,rdA,storeA,wrA,intA,elemA,lenA,appA,srcA,isPtr,isNilPtr,partA,resOf,sliceA,cut,id,ap2,reduceIte,concs,chkB,geB,AOp.cls,AOp.xs,ltB,ltC,Nat.reduceBEq,Option.toList,List.cons_append,decide_eq_true,decide_eq_false,if_pos,if_neg,List.length_map,pA_at,iA_at,List.cons_append,bVb,bVn,eq_self,Bool.and_self,BEq.rfl,not_true_eq_false,b32e,b32n,decide_true,decide_false,not_false_eq_true,hne,cB_self];(first|((with_reducible refine hK _ ?_ ?_ ?_ ?_);rotate_left 2;rfl;rfl)|((with_reducible refine hK _ ?_);rfl))))
  subst hne
  by_cases hne:ke=ke'
  case neg =>
    obtain rfl:r=false:=by rw [hr];simp [hne]
    repeat (first|with_reducible refine w_seq ?_|with_reducible refine w_reg ?_|with_reducible refine ws_nil ?_|with_reducible refine q_then ?_|with_reducible refine w_ret ?_|((with_reducible refine kgs_t ?_ ?_);rfl)|((with_reducible refine kgs_f ?_ ?_);rfl)|((first|with_reducible refine ks fun K hK=>?_|with_reducible refine kd fun K hK=>?_|with_reducible refine kc fun K hK2 hK hK3=>?_);simp (disch:=omega) only [bg0,bg1,bg2,bg3,bg4,stepO,rsAs,eff,AX.ev,St.put,binA,conc,ap1,ofVal,Int.reduceTMod,Int.reduceTDiv,reduceCtorEq,fillA,AV.cells,AV.fine,AV.one,Nat.reduceAdd,Nat.reduceSub,Nat.reduceMul,Nat.reduceLT,Nat.reduceLeDiff,Int.reduceLT,Int.reduceLE,Int.reduceAdd,Int.reduceSub,Int.reduceNeg,Int.reduceMul,Int.reduceEq,Int.reduceToNat,nilA,moveA,live,loadA,rdA,storeA,wrA,intA,elemA,lenA,appA,srcA,isPtr,isNilPtr,partA,resOf,sliceA,cut,id,ap2,reduceIte,concs,chkB,geB,AOp.cls,AOp.xs,ltB,ltC,Nat.reduceBEq,Option.toList,List.cons_append,decide_eq_true,decide_eq_false,if_pos,if_neg,List.length_map,pA_at,iA_at,List.cons_append,bVb,bVn,eq_self,Bool.and_self,BEq.rfl,not_true_eq_false,b32e,b32n,decide_true,decide_false,not_false_eq_true,hne,cB_self,cB_ne hne];(first|((with_reducible refine hK _ ?_);clear hK K)|((with_reducible refine hK ?_);clear hK hK3 K hK2)|((with_reducible refine hK3 ?_);clear hK hK3 K hK2)))|((with_reducible refine kps 60 ?_ ?_ ?_ ?_);rotate_left 1;rfl;exact (by refine cmpP G _ _ ?_ ?_<;>assumption))|((first|with_reducible refine ret_h fun K hK=>?_|with_reducible refine ret_hh rfl fun K hK=>?_|with_reducible refine ret_pp fun K hK=>?_);simp (disch:=omega) only [bg0,bg1,bg2,bg3,bg4,stepO,rsAs,eff,AX.ev,St.put,binA,conc,ap1,ofVal,Int.reduceTMod,Int.reduceTDiv,reduceCtorEq,fillA,AV.cells,AV.fine,AV.one,Nat.reduceAdd,Nat.reduceSub,Nat.reduceMul,Nat.reduceLT,Nat.reduceLeDiff,Int.reduceLT,Int.reduceLE,Int.reduceAdd,Int.reduceSub,Int.reduceNeg,Int.reduceMul,Int.reduceEq,Int.reduceToNat,nilA,moveA,live,loadA,rdA,storeA,wrA,intA,elemA,lenA,appA,srcA,isPtr,isNilPtr,partA,resOf,sliceA,cut,id,ap2,reduceIte,concs,chkB,geB,AOp.cls,AOp.xs,ltB,ltC,Nat.reduceBEq,Option.toList,List.cons_append,decide_eq_true,decide_eq_false,if_pos,if_neg,List.length_map,pA_at,iA_at,List.cons_append,bVb,bVn,eq_self,Bool.and_self,BEq.rfl,not_true_eq_false,b32e,b32n,decide_true,decide_false,not_false_eq_true,hne,cB_self,cB_ne hne];(first|((with_reducible refine hK _ ?_ ?_ ?_ ?_);rotate_left 2;rfl;rfl)|((with_reducible refine hK _ ?_);rfl))))
  subst hne
  by_cases hne:va=va'
  case neg =>
    obtain rfl:r=false:=by rw [hr];simp [hne]
    repeat (first|with_reducible refine w_seq ?_|with_reducible refine w_reg ?_|with_reducible refine ws_nil ?_|with_reducible refine q_then ?_|with_reducible refine w_ret ?_|((with_reducible refine kgs_t ?_ ?_);rfl)|((with_reducible refine kgs_f ?_ ?_);rfl)|((first|with_reducible refine ks fun K hK=>?_|with_reducible refine kd fun K hK=>?_|with_reducible refine kc fun K hK2 hK hK3=>?_);simp (disch:=omega) only [bg0,bg1,bg2,bg3,bg4,stepO,rsAs,eff,AX.ev,St.put,binA,conc,ap1,ofVal,Int.reduceTMod,Int.reduceTDiv,reduceCtorEq,fillA,AV.cells,AV.fine,AV.one,Nat.reduceAdd,Nat.reduceSub,Nat.reduceMul,Nat.reduceLT,Nat.reduceLeDiff,Int.reduceLT,Int.reduceLE,Int.reduceAdd,Int.reduceSub,Int.reduceNeg,Int.reduceMul,Int.reduceEq,Int.reduceToNat,nilA,moveA,live,loadA,rdA,storeA,wrA,intA,elemA,lenA,appA,srcA,isPtr,isNilPtr,partA,resOf,sliceA,cut,id,ap2,reduceIte,concs,chkB,geB,AOp.cls,AOp.xs,ltB,ltC,Nat.reduceBEq,Option.toList,List.cons_append,decide_eq_true,decide_eq_false,if_pos,if_neg,List.length_map,pA_at,iA_at,List.cons_append,bVb,bVn,eq_self,Bool.and_self,BEq.rfl,not_true_eq_false,b32e,b32n,decide_true,decide_false,not_false_eq_true,hne,cB_self,cB_ne hne];(first|((with_reducible refine hK _ ?_);clear hK K)|((with_reducible refine hK ?_);clear hK hK3 K hK2)|((with_reducible refine hK3 ?_);clear hK hK3 K hK2)))|((with_reducible refine kps 60 ?_ ?_ ?_ ?_);rotate_left 1;rfl;exact (by refine cmpP G _ _ ?_ ?_<;>assumption))|((first|with_reducible refine ret_h fun K hK=>?_|with_reducible refine ret_hh rfl fun K hK=>?_|with_reducible refine ret_pp fun K hK=>?_);simp (disch:=omega) only [bg0,bg1,bg2,bg3,bg4,stepO,rsAs,eff,AX.ev,St.put,binA,conc,ap1,ofVal,Int.reduceTMod,Int.reduceTDiv,reduceCtorEq,fillA,AV.cells,AV.fine,AV.one,Nat.reduceAdd,Nat.reduceSub,Nat.reduceMul,Nat.reduceLT,Nat.reduceLeDiff,Int.reduceLT,Int.reduceLE,Int.reduceAdd,Int.reduceSub,Int.reduceNeg,Int.reduceMul,Int.reduceEq,Int.reduceToNat,nilA,moveA,live,loadA,rdA,storeA,wrA,intA,elemA,lenA,appA,srcA,isPtr,isNilPtr,partA,resOf,sliceA,cut,id,ap2,reduceIte,concs,chkB,geB,AOp.cls,AOp.xs,ltB,ltC,Nat.reduceBEq,Option.toList,List.cons_append,decide_eq_true,decide_eq_false,if_pos,if_neg,List.length_map,pA_at,iA_at,List.cons_append,bVb,bVn,eq_self,Bool.and_self,BEq.rfl,not_true_eq_false,b32e,b32n,decide_true,decide_false,not_false_eq_true,hne,cB_self,cB_ne hne];(first|((with_reducible refine hK _ ?_ ?_ ?_ ?_);rotate_left 2;rfl;rfl)|((with_reducible refine hK _ ?_);rfl))))
  subst hne
  by_cases hne:mp=mp'
  case neg =>
    obtain rfl:r=false:=by rw [hr];simp [hne]
    repeat (first|with_reducible refine w_seq ?_|with_reducible refine w_reg ?_|with_reducible refine ws_nil ?_|with_reducible refine q_then ?_|with_reducible refine w_ret ?_|((with_reducible refine kgs_t ?_ ?_);rfl)|((with_reducible refine kgs_f ?_ ?_);rfl)|((first|with_reducible refine ks fun K hK=>?_|with_reducible refine kd fun K hK=>?_|with_reducible refine kc fun K hK2 hK hK3=>?_);simp (disch:=omega) only [bg0,bg1,bg2,bg3,bg4,stepO,rsAs,eff,AX.ev,St.put,binA,conc,ap1,ofVal,Int.reduceTMod,Int.reduceTDiv,reduceCtorEq,fillA,AV.cells,AV.fine,AV.one,Nat.reduceAdd,Nat.reduceSub,Nat.reduceMul,Nat.reduceLT,Nat.reduceLeDiff,Int.reduceLT,Int.reduceLE,Int.reduceAdd,Int.reduceSub,Int.reduceNeg,Int.reduceMul,Int.reduceEq,Int.reduceToNat,nilA,moveA,live,loadA,rdA,storeA,wrA,intA,elemA,lenA,appA,srcA,isPtr,isNilPtr,partA,resOf,sliceA,cut,id,ap2,reduceIte,concs,chkB,geB,AOp.cls,AOp.xs,ltB,ltC,Nat.reduceBEq,Option.toList,List.cons_append,decide_eq_true,decide_eq_false,if_pos,if_neg,List.length_map,pA_at,iA_at,List.cons_append,bVb,bVn,eq_self,Bool.and_self,BEq.rfl,not_true_eq_false,b32e,b32n,decide_true,decide_false,not_false_eq_true,hne,cB_self];(first|((with_reducible refine hK _ ?_);clear hK K)|((with_reducible refine hK ?_);clear hK hK3 K hK2)|((with_reducible refine hK3 ?_);clear hK hK3 K hK2)))|((with_reducible refine kps 60 ?_ ?_ ?_ ?_);rotate_left 1;rfl;exact (by refine cmpP G _ _ ?_ ?_<;>assumption))|((first|with_reducible refine ret_h fun K hK=>?_|with_reducible refine ret_hh rfl fun K hK=>?_|with_reducible refine ret_pp fun K hK=>?_);simp (disch:=omega) only [bg0,bg1,bg2,bg3,bg4,stepO,rsAs,eff,AX.ev,St.put,binA,conc,ap1,ofVal,Int.reduceTMod,Int.reduceTDiv,reduceCtorEq,fillA,AV.cells,AV.fine,AV.one,Nat.reduceAdd,Nat.reduceSub,Nat.reduceMul,Nat.reduceLT,Nat.reduceLeDiff,Int.reduceLT,Int.reduceLE,Int.reduceAdd,Int.reduceSub,Int.reduceNeg,Int.reduceMul,Int.reduceEq,Int.reduceToNat,nilA,moveA,live,loadA,rdA,storeA,wrA,intA,elemA,lenA,appA,srcA,isPtr,isNilPtr,partA,resOf,sliceA,cut,id,ap2,reduceIte,concs,chkB,geB,AOp.cls,AOp.xs,ltB,ltC,Nat.reduceBEq,Option.toList,List.cons_append,decide_eq_true,decide_eq_false,if_pos,if_neg,List.length_map,pA_at,iA_at,List.cons_append,bVb,bVn,eq_self,Bool.and_self,BEq.rfl,not_true_eq_false,b32e,b32n,decide_true,decide_false,not_false_eq_true,hne,cB_self];(first|((with_reducible refine hK _ ?_ ?_ ?_ ?_);rotate_left 2;rfl;rfl)|((with_reducible refine hK _ ?_);rfl))))
  subst hne
  by_cases hne:kk=kk'
  case neg =>
    obtain rfl:r=false:=by rw [hr];simp [hne]
    repeat (first|with_reducible refine w_seq ?_|with_reducible refine w_reg ?_|with_reducible refine ws_nil ?_|with_reducible refine q_then ?_|with_reducible refine w_ret ?_|((with_reducible refine kgs_t ?_ ?_);rfl)|((with_reducible refine kgs_f ?_ ?_);rfl)|((first|with_reducible refine ks fun K hK=>?_|with_reducible refine kd fun K hK=>?_|with_reducible refine kc fun K hK2 hK hK3=>?_);simp (disch:=omega) only [bg0,bg1,bg2,bg3,bg4,stepO,rsAs,eff,AX.ev,St.put,binA,conc,ap1,ofVal,Int.reduceTMod,Int.reduceTDiv,reduceCtorEq,fillA,AV.cells,AV.fine,AV.one,Nat.reduceAdd,Nat.reduceSub,Nat.reduceMul,Nat.reduceLT,Nat.reduceLeDiff,Int.reduceLT,Int.reduceLE,Int.reduceAdd,Int.reduceSub,Int.reduceNeg,Int.reduceMul,Int.reduceEq,Int.reduceToNat,nilA,moveA,live,loadA,rdA,storeA,wrA,intA,elemA,lenA,appA,srcA,isPtr,isNilPtr,partA,resOf,sliceA,cut,id,ap2,reduceIte,concs,chkB,geB,AOp.cls,AOp.xs,ltB,ltC,Nat.reduceBEq,Option.toList,List.cons_append,decide_eq_true,decide_eq_false,if_pos,if_neg,List.length_map,pA_at,iA_at,List.cons_append,bVb,bVn,eq_self,Bool.and_self,BEq.rfl,not_true_eq_false,b32e,b32n,decide_true,decide_false,not_false_eq_true,hne,cB_self];(first|((with_reducible refine hK _ ?_);clear hK K)|((with_reducible refine hK ?_);clear hK hK3 K hK2)|((with_reducible refine hK3 ?_);clear hK hK3 K hK2)))|((with_reducible refine kps 60 ?_ ?_ ?_ ?_);rotate_left 1;rfl;exact (by refine cmpP G _ _ ?_ ?_<;>assumption))|((with_reducible refine kps 61 ?_ ?_ ?_ ?_);rotate_left 1;rfl;exact (by refine eq40 G _ _ ?_ ?_ _ rfl<;>assumption))|((first|with_reducible refine ret_h fun K hK=>?_|with_reducible refine ret_hh rfl fun K hK=>?_|with_reducible refine ret_pp fun K hK=>?_);simp (disch:=omega) only [bg0,bg1,bg2,bg3,bg4,stepO,rsAs,eff,AX.ev,St.put,binA,conc,ap1,ofVal,Int.reduceTMod,Int.reduceTDiv,reduceCtorEq,fillA,AV.cells,AV.fine,AV.one,Nat.reduceAdd,Nat.reduceSub,Nat.reduceMul,Nat.reduceLT,Nat.reduceLeDiff,Int.reduceLT,Int.reduceLE,Int.reduceAdd,Int.reduceSub,Int.reduceNeg,Int.reduceMul,Int.reduceEq,Int.reduceToNat,nilA,moveA,live,loadA,rdA,storeA,wrA,intA,elemA,lenA,appA,srcA,isPtr,isNilPtr,partA,resOf,sliceA,cut,id,ap2,reduceIte,concs,chkB,geB,AOp.cls,AOp.xs,ltB,ltC,Nat.reduceBEq,Option.toList,List.cons_append,decide_eq_true,decide_eq_false,if_pos,if_neg,List.length_map,pA_at,iA_at,List.cons_append,bVb,bVn,eq_self,Bool.and_self,BEq.rfl,not_true_eq_false,b32e,b32n,decide_true,decide_false,not_false_eq_true,hne,cB_self];(first|((with_reducible refine hK _ ?_ ?_ ?_ ?_);rotate_left 2;rfl;rfl)|((with_reducible refine hK _ ?_);rfl))))
  subst hne
  by_cases hne:mn=mn'
  case neg =>
    obtain rfl:r=false:=by rw [hr];simp [hne]
    repeat (first|with_reducible refine w_seq ?_|with_reducible refine w_reg ?_|with_reducible refine ws_nil ?_|with_reducible refine q_then ?_|with_reducible refine w_ret ?_|((with_reducible refine kgs_t ?_ ?_);rfl)|((with_reducible refine kgs_f ?_ ?_);rfl)|((first|with_reducible refine ks fun K hK=>?_|with_reducible refine kd fun K hK=>?_|with_reducible refine kc fun K hK2 hK hK3=>?_);simp (disch:=omega) only [bg0,bg1,bg2,bg3,bg4,stepO,rsAs,eff,AX.ev,St.put,binA,conc,ap1,ofVal,Int.reduceTMod,Int.reduceTDiv,reduceCtorEq,fillA,AV.cells,AV.fine,AV.one,Nat.reduceAdd,Nat.reduceSub,Nat.reduceMul,Nat.reduceLT,Nat.reduceLeDiff,Int.reduceLT,Int.reduceLE,Int.reduceAdd,Int.reduceSub,Int.reduceNeg,Int.reduceMul,Int.reduceEq,Int.reduceToNat,nilA,moveA,live,loadA,rdA,storeA,wrA,intA,elemA,lenA,appA,srcA,isPtr,isNilPtr,partA,resOf,sliceA,cut,id,ap2,reduceIte,concs,chkB,geB,AOp.cls,AOp.xs,ltB,ltC,Nat.reduceBEq,Option.toList,List.cons_append,decide_eq_true,decide_eq_false,if_pos,if_neg,List.length_map,pA_at,iA_at,List.cons_append,bVb,bVn,eq_self,Bool.and_self,BEq.rfl,not_true_eq_false,b32e,b32n,decide_true,decide_false,not_false_eq_true,hne,cB_self];(first|((with_reducible refine hK _ ?_);clear hK K)|((with_reducible refine hK ?_);clear hK hK3 K hK2)|((with_reducible refine hK3 ?_);clear hK hK3 K hK2)))|((with_reducible refine kps 60 ?_ ?_ ?_ ?_);rotate_left 1;rfl;exact (by refine cmpP G _ _ ?_ ?_<;>assumption))|((with_reducible refine kps 61 ?_ ?_ ?_ ?_);rotate_left 1;rfl;exact (by refine eq40 G _ _ ?_ ?_ _ rfl<;>assumption))|((first|with_reducible refine ret_h fun K hK=>?_|with_reducible refine ret_hh rfl fun K hK=>?_|with_reducible refine ret_pp fun K hK=>?_);simp (disch:=omega) only [bg0,bg1,bg2,bg3,bg4,stepO,rsAs,eff,AX.ev,St.put,binA,conc,ap1,ofVal,Int.reduceTMod,Int.reduceTDiv,reduceCtorEq,fillA,AV.cells,AV.fine,AV.one,Nat.reduceAdd,Nat.reduceSub,Nat.reduceMul,Nat.reduceLT,Nat.reduceLeDiff,Int.reduceLT,Int.reduceLE,Int.reduceAdd,Int.reduceSub,Int.reduceNeg,Int.reduceMul,Int.reduceEq,Int.reduceToNat,nilA,moveA,live,loadA,rdA,storeA,wrA,intA,elemA,lenA,appA,srcA,isPtr,isNilPtr,partA,resOf,sliceA,cut,id,ap2,reduceIte,concs,chkB,geB,AOp.cls,AOp.xs,ltB,ltC,Nat.reduceBEq,Option.toList,List.cons_append,decide_eq_true,decide_eq_false,if_pos,if_neg,List.length_map,pA_at,iA_at,List.cons_append,bVb,bVn,eq_self,Bool.and_self,BEq.rfl,not_true_eq_false,b32e,b32n,decide_true,decide_false,not_false_eq_true,hne,cB_self];(first|((with_reducible refine hK _ ?_ ?_ ?_ ?_);rotate_left 2;rfl;rfl)|((with_reducible refine hK _ ?_);rfl))))
  subst hne
  by_cases hne:ls=ls'
  case neg =>
    obtain rfl:r=false:=by rw [hr];simp [hne]
    repeat (first|with_reducible refine w_seq ?_|with_reducible refine w_reg ?_|with_reducible refine ws_nil ?_|with_reducible refine q_then ?_|with_reducible refine w_ret ?_|((with_reducible refine kgs_t ?_ ?_);rfl)|((with_reducible refine kgs_f ?_ ?_);rfl)|((first|with_reducible refine ks fun K hK=>?_|with_reducible refine kd fun K hK=>?_|with_reducible refine kc fun K hK2 hK hK3=>?_);simp (disch:=omega) only [bg0,bg1,bg2,bg3,bg4,stepO,rsAs,eff,AX.ev,St.put,binA,conc,ap1,ofVal,Int.reduceTMod,Int.reduceTDiv,reduceCtorEq,fillA,AV.cells,AV.fine,AV.one,Nat.reduceAdd,Nat.reduceSub,Nat.reduceMul,Nat.reduceLT,Nat.reduceLeDiff,Int.reduceLT,Int.reduceLE,Int.reduceAdd,Int.reduceSub,Int.reduceNeg,Int.reduceMul,Int.reduceEq,Int.reduceToNat,nilA,moveA,live,loadA,rdA,storeA,wrA,intA,elemA,lenA,appA,srcA,isPtr,isNilPtr,partA,resOf,sliceA,cut,id,ap2,reduceIte,concs,chkB,geB,AOp.cls,AOp.xs,ltB,ltC,Nat.reduceBEq,Option.toList,List.cons_append,decide_eq_true,decide_eq_false,if_pos,if_neg,List.length_map,pA_at,iA_at,List.cons_append,bVb,bVn,eq_self,Bool.and_self,BEq.rfl,not_true_eq_false,b32e,b32n,decide_true,decide_false,not_false_eq_true,hne,cB_self];(first|((with_reducible refine hK _ ?_);clear hK K)|((with_reducible refine hK ?_);clear hK hK3 K hK2)|((with_reducible refine hK3 ?_);clear hK hK3 K hK2)))|((with_reducible refine kps 60 ?_ ?_ ?_ ?_);rotate_left 1;rfl;exact (by refine cmpP G _ _ ?_ ?_<;>assumption))|((with_reducible refine kps 61 ?_ ?_ ?_ ?_);rotate_left 1;rfl;exact (by refine eq40 G _ _ ?_ ?_ _ rfl<;>assumption))|((with_reducible refine kps 62 ?_ ?_ ?_ ?_);rotate_left 1;rfl;exact (by refine eq41 G _ _ ?_ ?_ _ rfl<;>assumption))|((first|with_reducible refine ret_h fun K hK=>?_|with_reducible refine ret_hh rfl fun K hK=>?_|with_reducible refine ret_pp fun K hK=>?_);simp (disch:=omega) only [bg0,bg1,bg2,bg3,bg4,stepO,rsAs,eff,AX.ev,St.put,binA,conc,ap1,ofVal,Int.reduceTMod,Int.reduceTDiv,reduceCtorEq,fillA,AV.cells,AV.fine,AV.one,Nat.reduceAdd,Nat.reduceSub,Nat.reduceMul,Nat.reduceLT,Nat.reduceLeDiff,Int.reduceLT,Int.reduceLE,Int.reduceAdd,Int.reduceSub,Int.reduceNeg,Int.reduceMul,Int.reduceEq,Int.reduceToNat,nilA,moveA,live,loadA,rdA,storeA,wrA,intA,elemA,lenA,appA,srcA,isPtr,isNilPtr,partA,resOf,sliceA,cut,id,ap2,reduceIte,concs,chkB,geB,AOp.cls,AOp.xs,ltB,ltC,Nat.reduceBEq,Option.toList,List.cons_append,decide_eq_true,decide_eq_false,if_pos,if_neg,List.length_map,pA_at,iA_at,List.cons_append,bVb,bVn,eq_self,Bool.and_self,BEq.rfl,not_true_eq_false,b32e,b32n,decide_true,decide_false,not_false_eq_true,hne,cB_self];(first|((with_reducible refine hK _ ?_ ?_ ?_ ?_);rotate_left 2;rfl;rfl)|((with_reducible refine hK _ ?_);rfl))))
  subst hne
  by_cases hne:sz=sz'
  case neg =>
    obtain rfl:r=false:=by rw [hr];simp [hne]
    repeat (first|with_reducible refine w_seq ?_|with_reducible refine w_reg ?_|with_reducible refine ws_nil ?_|with_reducible refine q_then ?_|with_reducible refine w_ret ?_|((with_reducible refine kgs_t ?_ ?_);rfl)|((with_reducible refine kgs_f ?_ ?_);rfl)|((first|with_reducible refine ks fun K hK=>?_|with_reducible refine kd fun K hK=>?_|with_reducible refine kc fun K hK2 hK hK3=>?_);simp (disch:=omega) only [bg0,bg1,bg2,bg3,bg4,stepO,rsAs,eff,AX.ev,St.put,binA,conc,ap1,ofVal,Int.reduceTMod,Int.reduceTDiv,reduceCtorEq,fillA,AV.cells,AV.fine,AV.one,Nat.reduceAdd,Nat.reduceSub,Nat.reduceMul,Nat.reduceLT,Nat.reduceLeDiff,Int.reduceLT,Int.reduceLE,Int.reduceAdd,Int.reduceSub,Int.reduceNeg,Int.reduceMul,Int.reduceEq,Int.reduceToNat,nilA,moveA,live,loadA,rdA,storeA,wrA,intA,elemA,lenA,appA,srcA,isPtr,isNilPtr,partA,resOf,sliceA,cut,id,ap2,reduceIte,concs,chkB,geB,AOp.cls,AOp.xs,ltB,ltC,Nat.reduceBEq,Option.toList,List.cons_append,decide_eq_true,decide_eq_false,if_pos,if_neg,List.length_map,pA_at,iA_at,List.cons_append,bVb,bVn,eq_self,Bool.and_self,BEq.rfl,not_true_eq_false,b32e,b32n,decide_true,decide_false,not_false_eq_true,hne,cB_self];(first|((with_reducible refine hK _ ?_);clear hK K)|((with_reducible refine hK ?_);clear hK hK3 K hK2)|((with_reducible refine hK3 ?_);clear hK hK3 K hK2)))|((with_reducible refine kps 60 ?_ ?_ ?_ ?_);rotate_left 1;rfl;exact (by refine cmpP G _ _ ?_ ?_<;>assumption))|((with_reducible refine kps 61 ?_ ?_ ?_ ?_);rotate_left 1;rfl;exact (by refine eq40 G _ _ ?_ ?_ _ rfl<;>assumption))|((with_reducible refine kps 62 ?_ ?_ ?_ ?_);rotate_left 1;rfl;exact (by refine eq41 G _ _ ?_ ?_ _ rfl<;>assumption))|((first|with_reducible refine ret_h fun K hK=>?_|with_reducible refine ret_hh rfl fun K hK=>?_|with_reducible refine ret_pp fun K hK=>?_);simp (disch:=omega) only [bg0,bg1,bg2,bg3,bg4,stepO,rsAs,eff,AX.ev,St.put,binA,conc,ap1,ofVal,Int.reduceTMod,Int.reduceTDiv,reduceCtorEq,fillA,AV.cells,AV.fine,AV.one,Nat.reduceAdd,Nat.reduceSub,Nat.reduceMul,Nat.reduceLT,Nat.reduceLeDiff,Int.reduceLT,Int.reduceLE,Int.reduceAdd,Int.reduceSub,Int.reduceNeg,Int.reduceMul,Int.reduceEq,Int.reduceToNat,nilA,moveA,live,loadA,rdA,storeA,wrA,intA,elemA,lenA,appA,srcA,isPtr,isNilPtr,partA,resOf,sliceA,cut,id,ap2,reduceIte,concs,chkB,geB,AOp.cls,AOp.xs,ltB,ltC,Nat.reduceBEq,Option.toList,List.cons_append,decide_eq_true,decide_eq_false,if_pos,if_neg,List.length_map,pA_at,iA_at,List.cons_append,bVb,bVn,eq_self,Bool.and_self,BEq.rfl,not_true_eq_false,b32e,b32n,decide_true,decide_false,not_false_eq_true,hne,cB_self];(first|((with_reducible refine hK _ ?_ ?_ ?_ ?_);rotate_left 2;rfl;rfl)|((with_reducible refine hK _ ?_);rfl))))
  subst hne
  by_cases hne:bi=bi'
  case neg =>
    obtain rfl:r=false:=by rw [hr];simp [hne]
    repeat (first|with_reducible refine w_seq ?_|with_reducible refine w_reg ?_|with_reducible refine ws_nil ?_|with_reducible refine q_then ?_|with_reducible refine w_ret ?_|((with_reducible refine kgs_t ?_ ?_);rfl)|((first|with_reducible refine ks fun K hK=>?_|with_reducible refine kd fun K hK=>?_|with_reducible refine kc fun K hK2 hK hK3=>?_);simp (disch:=omega) only [bg0,bg1,bg2,bg3,bg4,stepO,rsAs,eff,AX.ev,St.put,binA,conc,ap1,ofVal,Int.reduceTMod,Int.reduceTDiv,reduceCtorEq,fillA,AV.cells,AV.fine,AV.one,Nat.reduceAdd,Nat.reduceSub,Nat.reduceMul,Nat.reduceLT,Nat.reduceLeDiff,Int.reduceLT,Int.reduceLE,Int.reduceAdd,Int.reduceSub,Int.reduceNeg,Int.reduceMul,Int.reduceEq,Int.reduceToNat,nilA,moveA,live,loadA,rdA,storeA,wrA,intA,elemA,lenA,appA,srcA,isPtr,isNilPtr,partA,resOf,sliceA,cut,id,ap2,reduceIte,concs,chkB,geB,AOp.cls,AOp.xs,ltB,ltC,Nat.reduceBEq,Option.toList,List.cons_append,decide_eq_true,decide_eq_false,if_pos,if_neg,List.length_map,pA_at,iA_at,List.cons_append,bVb,bVn,eq_self,Bool.and_self,BEq.rfl,not_true_eq_false,b32e,b32n,decide_true,decide_false,not_false_eq_true,hne,cB_self];(first|((with_reducible refine hK _ ?_);clear hK K)|((with_reducible refine hK ?_);clear hK hK3 K hK2)|((with_reducible refine hK3 ?_);clear hK hK3 K hK2)))|((with_reducible refine kps 60 ?_ ?_ ?_ ?_);rotate_left 1;rfl;exact (by refine cmpP G _ _ ?_ ?_<;>assumption))|((with_reducible refine kps 61 ?_ ?_ ?_ ?_);rotate_left 1;rfl;exact (by refine eq40 G _ _ ?_ ?_ _ rfl<;>assumption))|((with_reducible refine kps 62 ?_ ?_ ?_ ?_);rotate_left 1;rfl;exact (by refine eq41 G _ _ ?_ ?_ _ rfl<;>assumption))|((first|with_reducible refine ret_h fun K hK=>?_|with_reducible refine ret_hh rfl fun K hK=>?_|with_reducible refine ret_pp fun K hK=>?_);simp (disch:=omega) only [bg0,bg1,bg2,bg3,bg4,stepO,rsAs,eff,AX.ev,St.put,binA,conc,ap1,ofVal,Int.reduceTMod,Int.reduceTDiv,reduceCtorEq,fillA,AV.cells,AV.fine,AV.one,Nat.reduceAdd,Nat.reduceSub,Nat.reduceMul,Nat.reduceLT,Nat.reduceLeDiff,Int.reduceLT,Int.reduceLE,Int.reduceAdd,Int.reduceSub,Int.reduceNeg,Int.reduceMul,Int.reduceEq,Int.reduceToNat,nilA,moveA,live,loadA,rdA,storeA,wrA,intA,elemA,lenA,appA,srcA,isPtr,isNilPtr,partA,resOf,sliceA,cut,id,ap2,reduceIte,concs,chkB,geB,AOp.cls,AOp.xs,ltB,ltC,Nat.reduceBEq,Option.toList,List.cons_append,decide_eq_true,decide_eq_false,if_pos,if_neg,List.length_map,pA_at,iA_at,List.cons_append,bVb,bVn,eq_self,Bool.and_self,BEq.rfl,not_true_eq_false,b32e,b32n,decide_true,decide_false,not_false_eq_true,hne,cB_self];(first|((with_reducible refine hK _ ?_ ?_ ?_ ?_);rotate_left 2;rfl;rfl)|((with_reducible refine hK _ ?_);rfl))))
  subst hne
  obtain rfl:r=true:=by rw [hr];simp
  repeat (first|with_reducible refine w_seq ?_|with_reducible refine w_reg ?_|with_reducible refine ws_nil ?_|with_reducible refine q_then ?_|with_reducible refine w_ret ?_|((with_reducible refine kgs_t ?_ ?_);rfl)|((first|with_reducible refine ks fun K hK=>?_|with_reducible refine kd fun K hK=>?_|with_reducible refine kc fun K hK2 hK hK3=>?_);simp (disch:=omega) only [bg0,bg1,bg2,bg3,bg4,stepO,rsAs,eff,AX.ev,St.put,binA,conc,ap1,ofVal,Int.reduceTMod,Int.reduceTDiv,reduceCtorEq,fillA,AV.cells,AV.fine,AV.one,Nat.reduceAdd,Nat.reduceSub,Nat.reduceMul,Nat.reduceLT,Nat.reduceLeDiff,Int.reduceLT,Int.reduceLE,Int.reduceAdd,Int.reduceSub,Int.reduceNeg,Int.reduceMul,Int.reduceEq,Int.reduceToNat,nilA,moveA,live,loadA,rdA,storeA,wrA,intA,elemA,lenA,appA,srcA,isPtr,isNilPtr,partA,resOf,sliceA,cut,id,ap2,reduceIte,concs,chkB,geB,AOp.cls,AOp.xs,ltB,ltC,Nat.reduceBEq,Option.toList,List.cons_append,decide_eq_true,decide_eq_false,if_pos,if_neg,List.length_map,pA_at,iA_at,List.cons_append,bVb,bVn,eq_self,Bool.and_self,BEq.rfl,not_true_eq_false,b32e,b32n,decide_true,decide_false,not_false_eq_true,cB_self];(first|((with_reducible refine hK _ ?_);clear hK K)|((with_reducible refine hK ?_);clear hK hK3 K hK2)|((with_reducible refine hK3 ?_);clear hK hK3 K hK2)))|((with_reducible refine kps 60 ?_ ?_ ?_ ?_);rotate_left 1;rfl;exact (by refine cmpP G _ _ ?_ ?_<;>assumption))|((with_reducible refine kps 61 ?_ ?_ ?_ ?_);rotate_left 1;rfl;exact (by refine eq40 G _ _ ?_ ?_ _ rfl<;>assumption))|((with_reducible refine kps 62 ?_ ?_ ?_ ?_);rotate_left 1;rfl;exact (by refine eq41 G _ _ ?_ ?_ _ rfl<;>assumption))|((first|with_reducible refine ret_h fun K hK=>?_|with_reducible refine ret_hh rfl fun K hK=>?_|with_reducible refine ret_pp fun K hK=>?_);simp (disch:=omega) only [bg0,bg1,bg2,bg3,bg4,stepO,rsAs,eff,AX.ev,St.put,binA,conc,ap1,ofVal,Int.reduceTMod,Int.reduceTDiv,reduceCtorEq,fillA,AV.cells,AV.fine,AV.one,Nat.reduceAdd,Nat.reduceSub,Nat.reduceMul,Nat.reduceLT,Nat.reduceLeDiff,Int.reduceLT,Int.reduceLE,Int.reduceAdd,Int.reduceSub,Int.reduceNeg,Int.reduceMul,Int.reduceEq,Int.reduceToNat,nilA,moveA,live,loadA,rdA,storeA,wrA,intA,elemA,lenA,appA,srcA,isPtr,isNilPtr,partA,resOf,sliceA,cut,id,ap2,reduceIte,concs,chkB,geB,AOp.cls,AOp.xs,ltB,ltC,Nat.reduceBEq,Option.toList,List.cons_append,decide_eq_true,decide_eq_false,if_pos,if_neg,List.length_map,pA_at,iA_at,List.cons_append,bVb,bVn,eq_self,Bool.and_self,BEq.rfl,not_true_eq_false,b32e,b32n,decide_true,decide_false,not_false_eq_true,cB_self];(first|((with_reducible refine hK _ ?_ ?_ ?_ ?_);rotate_left 2;rfl;rfl)|((with_reducible refine hK _ ?_);rfl))))
end Go.Proofs.Ytnammfeiehikfaa.Sim
namespace Go.Proofs.Ytnammfeiehikfaa.Sim
open Go.RowKit
set_option maxRecDepth 100000
def lg (p:Pr):Bool:=decide (16 < p.1.size) || decide (16 < p.2.size)
theorem isl29 (G:Nat→AV) (a b:ByteArray):PC Try.prog G 41 [.agg [S a,S b]] (Bo (lg (a,b))):=by
  refine pc_ofV cop41 ?_
  repeat' ((conv=>whnf);first|(with_reducible refine SeqP.go ?_)|((with_reducible refine ObD.mk ?_ ?_);(focus (first|rfl|(simp;done))))|((with_reducible refine ObN.mk ?_ ?_);(focus exact zN))|(with_reducible refine ObT.tt ?_)|(with_reducible refine ObT.ff ?_)|(with_reducible refine ObB.mk (fun h=>?_) (fun h=>?_))|((with_reducible refine (?_:ObL _ _));(refine ObL.mk _ zL ?_))|((with_reducible refine (?_:ObR _ _ _));(first|(refine ObR.mk _ (by assumption) ?_)|(refine ObR.mk _ (by with_reducible rfl) ?_)|(refine ObR.map zX (fun x hx=>?_))|(refine ObR.mk _ rfl ?_)))|((with_reducible refine ObEq.mk ?_);(focus (first|rfl|assumption|exact (by simp [lg];omega)))))
theorem first_or {n:Nat} (p:Nat→Bool):(∀ k,k < n→p k=false)∨∃ i,i < n∧p i=true∧∀ k,k < i→p k=false:=by
  induction n with
  | zero=>left;intro k hk;omega
  | succ n ih =>
    rcases ih with h|⟨i,h1,h2,h3⟩
    · cases hp:p n with
      | false=>left;intro k hk;by_cases e:k=n;subst e;exact hp;exact h k (by omega)
      | true=>right;exact ⟨n,by omega,hp,h⟩
    · right;exact ⟨i,by omega,h2,h3⟩
abbrev cL:AV:=.v (.func (.func 41) #[] #[])
theorem isl29h (G:Nat→AV) (H:Hp) (a b:ByteArray):HC Try.prog G 41 [.agg [S a,S b]] H (Bo (lg (a,b))) H:=hc_pc rfl (isl29 G a b) H
theorem any30 (G:Nat→AV) (l:List Pr) (hl:l.length≤9223372036854775807) (H:Hp):HC Try.prog G 42 [.sl 2 (l.map pA),cL] H (Bo (l.any lg)) H:=by
  rcases first_or (n:=l.length) (fun k=>match l[k]? with|some p=>lg p|none=>false) with h|⟨i0,h1,h2,h3⟩
  · have hx : HC Try.prog G 46 [.sl 2 (l.map pA), cL] H (I (-1)) H := by
      refine hc_ofV cop46 rfl ?_
      repeat' ((conv=>whnf);first|(with_reducible refine SeqP.go ?_)|((with_reducible refine (?_:ObL _ _));(refine ObL.mk _ zL ?_)))
      conv=>whnf
      refine LoopP.go (α:=Nat) (fun i=>i≤l.length) (fun i=>l.length - i) (fun i=>[(4,none),(0,none),(2,some (I i)),(0,none),(0,none),(0,none),(0,none),(0,none),(0,none),(0,none),(0,none),(0,none),(0,none)]) (fun _=>H) 0 (Nat.zero_le _) (Fg.go ?_ rfl) ?_
      · repeat' ((conv=>whnf);first|((with_reducible refine ObEqs.mk ?_ ?_);(focus rfl))|((with_reducible refine ObEq1.i ?_ ?_);(focus (first|(with_reducible rfl)|omega)))|exact True.intro)
      intro i hi
      have hlt:i < l.length∨i=l.length:=by omega
      rcases hlt with hlt|rfl
      · have hq : (l.map pA)[i]? = some (.agg [S l[i].1, S l[i].2]) := pA_at hlt
        have hf:lg (l[i].1,l[i].2)=false:=by have:=h i hlt;simpa [List.getElem?_eq_getElem hlt] using this
        have hc:=isl29h G H l[i].1 l[i].2
        rw [hf] at hc
        repeat' ((conv=>whnf);first|(with_reducible refine SeqP.go ?_)|((with_reducible refine ObD.mk ?_ ?_);(focus (first|rfl|(simp;done))))|((with_reducible refine ObN.mk ?_ ?_);(focus (first|exact hb41|rfl|assumption|omega|(simp only [List.length_map,List.length_append,List.length_cons,List.length_nil];omega)|(simp;done)|(simp;omega))))|(with_reducible refine ObT.tt ?_)|(with_reducible refine ObT.ff ?_)|((with_reducible refine ObB.yes ?_ ?_);(focus (first|assumption|(with_reducible rfl)|omega)))|((with_reducible refine ObI.nl ?_ ?_);(focus omega))|((with_reducible refine ObX.mk _ rfl ?_ ?_);(focus exact zX))|((with_reducible refine (?_:ObU _ _));(refine ObU.mk _ zU ?_))|((with_reducible refine (?_:ObR _ _ _));(first|(refine ObR.mk _ (by assumption) ?_)|(refine ObR.mk _ (by with_reducible rfl) ?_)|(refine ObR.map zX (fun x hx=>?_))|(refine ObR.mk _ rfl ?_)))|((with_reducible refine ObH.f 41 ?_);(first|(with_reducible refine ObH.mk _ _ (hc) ?_)|(refine ObH.mk _ _ (hc) ?_))))
        conv=>whnf
        refine Again.mk (i+1) ?_ ?_ (Fg.go ?_ rfl)
        · omega
        · omega
        repeat' ((conv=>whnf);first|((with_reducible refine ObEqs.mk ?_ ?_);(focus rfl))|((with_reducible refine ObEq1.i ?_ ?_);(focus (first|(with_reducible rfl)|omega)))|exact True.intro)
      repeat' ((conv=>whnf);first|(with_reducible refine SeqP.go ?_)|((with_reducible refine ObN.mk ?_ ?_);(focus exact zN))|(with_reducible refine ObT.ff ?_)|((with_reducible refine ObB.no ?_ ?_);(focus (first|assumption|omega)))|(exact ObEnd.eq rfl rfl))
    have ha:l.any lg=false:=by
      rw [List.any_eq_false]
      intro p hp
      obtain ⟨k,hk,rfl⟩:=List.getElem_of_mem hp
      have:=h k hk
      simpa [List.getElem?_eq_getElem hk] using this
    rw [ha]
    refine hc_ofV cop42 rfl ?_
    repeat' ((conv=>whnf);first|(with_reducible refine SeqP.go ?_)|((with_reducible refine ObN.mk ?_ ?_);(focus exact zN))|((with_reducible refine ObB.no ?_ ?_);(focus (first|assumption|omega)))|((with_reducible refine ObH.f 46 ?_);(first|(with_reducible refine ObH.mk _ _ (hx) ?_)|(refine ObH.mk _ _ (hx) ?_)))|(exact ObEnd.eq rfl rfl))
  · have hx : HC Try.prog G 46 [.sl 2 (l.map pA), cL] H (I i0) H := by
      refine hc_ofV cop46 rfl ?_
      repeat' ((conv=>whnf);first|(with_reducible refine SeqP.go ?_)|((with_reducible refine (?_:ObL _ _));(refine ObL.mk _ zL ?_)))
      conv=>whnf
      refine LoopP.go (α:=Nat) (fun i=>i≤i0) (fun i=>l.length - i) (fun i=>[(4,none),(0,none),(2,some (I i)),(0,none),(0,none),(0,none),(0,none),(0,none),(0,none),(0,none),(0,none),(0,none),(0,none)]) (fun _=>H) 0 (Nat.zero_le _) (Fg.go ?_ rfl) ?_
      · repeat' ((conv=>whnf);first|((with_reducible refine ObEqs.mk ?_ ?_);(focus rfl))|((with_reducible refine ObEq1.i ?_ ?_);(focus (first|(with_reducible rfl)|omega)))|exact True.intro)
      intro i hi
      have hlt:i < l.length:=by omega
      have hq:(l.map pA)[i]? = some (.agg [S l[i].1,S l[i].2]):=pA_at hlt
      have hc:=isl29h G H l[i].1 l[i].2
      by_cases he:i=i0
      · subst he
        have hf:lg (l[i].1,l[i].2)=true:=by simpa [List.getElem?_eq_getElem hlt] using h2
        rw [hf] at hc
        repeat' ((conv=>whnf);first|(with_reducible refine SeqP.go ?_)|((with_reducible refine ObD.mk ?_ ?_);(focus (first|rfl|(simp;done))))|((with_reducible refine ObN.mk ?_ ?_);(focus (first|exact hb41|rfl|assumption|omega|(simp only [List.length_map,List.length_append,List.length_cons,List.length_nil];omega)|(simp;done)|(simp;omega))))|(with_reducible refine ObT.tt ?_)|((with_reducible refine ObB.yes ?_ ?_);(focus (first|assumption|(with_reducible rfl)|omega)))|((with_reducible refine ObX.mk _ rfl ?_ ?_);(focus exact zX))|((with_reducible refine (?_:ObU _ _));(refine ObU.mk _ zU ?_))|((with_reducible refine (?_:ObR _ _ _));(first|(refine ObR.mk _ (by assumption) ?_)|(refine ObR.mk _ (by with_reducible rfl) ?_)|(refine ObR.map zX (fun x hx=>?_))|(refine ObR.mk _ rfl ?_)))|((with_reducible refine ObH.f 41 ?_);(first|(with_reducible refine ObH.mk _ _ (hc) ?_)|(refine ObH.mk _ _ (hc) ?_)))|(exact ObEnd.eq rfl rfl))
      · have hf : lg (l[i].1, l[i].2) = false := by have := h3 i (by omega); simpa [List.getElem?_eq_getElem hlt] using this
        rw [hf] at hc
        repeat' ((conv=>whnf);first|(with_reducible refine SeqP.go ?_)|((with_reducible refine ObD.mk ?_ ?_);(focus (first|rfl|(simp;done))))|((with_reducible refine ObN.mk ?_ ?_);(focus (first|exact hb41|rfl|assumption|omega|(simp only [List.length_map,List.length_append,List.length_cons,List.length_nil];omega)|(simp;done)|(simp;omega))))|(with_reducible refine ObT.tt ?_)|(with_reducible refine ObT.ff ?_)|((with_reducible refine ObB.yes ?_ ?_);(focus (first|assumption|(with_reducible rfl)|omega)))|((with_reducible refine ObI.nl ?_ ?_);(focus omega))|((with_reducible refine ObX.mk _ rfl ?_ ?_);(focus exact zX))|((with_reducible refine (?_:ObU _ _));(refine ObU.mk _ zU ?_))|((with_reducible refine (?_:ObR _ _ _));(first|(refine ObR.mk _ (by assumption) ?_)|(refine ObR.mk _ (by with_reducible rfl) ?_)|(refine ObR.map zX (fun x hx=>?_))|(refine ObR.mk _ rfl ?_)))|((with_reducible refine ObH.f 41 ?_);(first|(with_reducible refine ObH.mk _ _ (hc) ?_)|(refine ObH.mk _ _ (hc) ?_))))
        conv=>whnf
        refine Again.mk (i+1) ?_ ?_ (Fg.go ?_ rfl)
        · omega
        · omega
        repeat' ((conv=>whnf);first|((with_reducible refine ObEqs.mk ?_ ?_);(focus rfl))|((with_reducible refine ObEq1.i ?_ ?_);(focus (first|(with_reducible rfl)|omega)))|exact True.intro)
    have ha:l.any lg=true:=by
      rw [List.any_eq_true]
      exact ⟨l[i0],List.getElem_mem h1,by simpa [List.getElem?_eq_getElem h1] using h2⟩
    rw [ha]
    refine hc_ofV cop42 rfl ?_
    repeat' ((conv=>whnf);first|(with_reducible refine SeqP.go ?_)|((with_reducible refine ObN.mk ?_ ?_);(focus exact zN))|((with_reducible refine ObB.yes ?_ ?_);(focus (first|assumption|(with_reducible rfl)|omega)))|((with_reducible refine ObH.f 46 ?_);(first|(with_reducible refine ObH.mk _ _ (hx) ?_)|(refine ObH.mk _ _ (hx) ?_)))|(exact ObEnd.eq rfl rfl))
end Go.Proofs.Ytnammfeiehikfaa.Sim
namespace Go.Proofs.Ytnammfeiehikfaa.Mk
def upTo (m n:Nat):List Nat:=(List.range n).filter fun k=>m.testBit k
def all (m:Nat):List Nat:=upTo m 32
theorem upTo_len (m n:Nat):(upTo m n).length≤n:=by
  unfold upTo
  have:=List.length_filter_le (fun k=>m.testBit k) (List.range n)
  simpa using this
def place (m:Nat) (i:Int):Nat:=(all m).countP fun k:Nat=>decide ((k:Int) < i)
def mk (l:List Int):Nat→Nat
  | 0=>0
  | n+1=>mk l n+if (n:Int) ∈ l then 2 ^ n else 0
theorem mk_lt (l:List Int) (n:Nat):mk l n < 2 ^ n:=by
  induction n with
  | zero=>simp [mk]
  | succ n ih=>unfold mk;rw [Nat.pow_succ];split<;>omega
def pc (b:Nat):Nat:=((List.range 8).filter fun k=>b.testBit k).length
theorem pc_at (m s:Nat):((List.range 8).filter fun k=>m.testBit (s+k)).length=pc (m / 2 ^ s % 256):=by
  unfold pc
  congr 1
  refine List.filter_congr fun k hk=>?_
  have hk:k < 8:=by simpa using hk
  rw [show (256:Nat)=2 ^ 8 from rfl,Nat.testBit_mod_two_pow,Nat.testBit_div_two_pow]
  simp [hk,Nat.add_comm]
theorem range32:List.range 32=List.range 8++((List.range 8).map (8 + ·)++((List.range 8).map (16 + ·)++(List.range 8).map (24 + ·))):=by decide
theorem pop_all (m:Nat):(all m).length=pc (m / 16777216 % 256)+pc (m / 65536 % 256)+pc (m / 256 % 256)+pc (m % 256):=by
  have h0:=pc_at m 0
  have h1:=pc_at m 8
  have h2:=pc_at m 16
  have h3:=pc_at m 24
  unfold all upTo
  rw [range32]
  simp only [List.filter_append,List.length_append,List.filter_map,List.length_map]
  have g0:((List.range 8).filter fun k=>m.testBit k).length=pc (m % 256):=by simpa using h0
  have g1:((List.range 8).filter ((fun k=>m.testBit k) ∘ fun x=>8+x)).length=pc (m / 256 % 256):=h1
  have g2:((List.range 8).filter ((fun k=>m.testBit k) ∘ fun x=>16+x)).length=pc (m / 65536 % 256):=h2
  have g3:((List.range 8).filter ((fun k=>m.testBit k) ∘ fun x=>24+x)).length=pc (m / 16777216 % 256):=h3
  rw [g0,g1,g2,g3]
  omega
theorem pc_le (b:Nat):pc b≤8:=upTo_len b 8
end Go.Proofs.Ytnammfeiehikfaa.Mk
namespace Go.Proofs.Ytnammfeiehikfaa.Sim
open Go.RowKit
set_option maxRecDepth 100000
theorem has54 (G:Nat→AV) (l:List Int) (hl:l.length≤9223372036854775807) (v:Int):PC Try.prog G 50 [.sl 1 (l.map iA),I v] (Bo (decide (v ∈ l))):=by
  rcases first_or (n:=l.length) (fun k=>decide (l[k]? = some v)) with h|⟨i0,h1,h2,h3⟩
  · have hx : PC Try.prog G 58 [.sl 1 (l.map iA), I v] (I (-1)) := by
      refine pc_ofV cop58 ?_
      repeat' ((conv=>whnf);first|(with_reducible refine SeqP.go ?_)|((with_reducible refine (?_:ObL _ _));(refine ObL.mk _ zL ?_)))
      conv=>whnf
      refine LoopP.go (α:=Nat) (fun i=>i≤l.length) (fun i=>l.length - i) (fun i=>[(4,none),(0,none),(2,some (I i)),(0,none),(0,none),(0,none),(0,none),(0,none),(0,none),(0,none),(0,none),(0,none),(0,none)]) (fun _=>[]) 0 (Nat.zero_le _) (Fg.go ?_ rfl) ?_
      · repeat' ((conv=>whnf);first|((with_reducible refine ObEqs.mk ?_ ?_);(focus rfl))|((with_reducible refine ObEq1.i ?_ ?_);(focus (first|(with_reducible rfl)|omega)))|exact True.intro)
      intro i hi
      have hlt:i < l.length∨i=l.length:=by omega
      rcases hlt with hlt|rfl
      · have hq : (l.map iA)[i]? = some (I l[i]) := iA_at hlt
        have hf:¬ v=l[i]:=fun e=>by have:=h i hlt;simp [List.getElem?_eq_getElem hlt,e] at this
        repeat' ((conv=>whnf);first|(with_reducible refine SeqP.go ?_)|((with_reducible refine ObN.mk ?_ ?_);(focus exact zN))|(with_reducible refine ObT.tt ?_)|(with_reducible refine ObT.ff ?_)|((with_reducible refine ObB.yes ?_ ?_);(focus (first|assumption|(with_reducible rfl)|omega)))|((with_reducible refine ObB.no ?_ ?_);(focus (first|assumption|omega)))|((with_reducible refine ObI.nl ?_ ?_);(focus omega))|((with_reducible refine ObX.mk _ rfl ?_ ?_);(focus exact zX))|((with_reducible refine (?_:ObR _ _ _));(first|(refine ObR.mk _ (by assumption) ?_)|(refine ObR.mk _ (by with_reducible rfl) ?_)|(refine ObR.map zX (fun x hx=>?_))|(refine ObR.mk _ rfl ?_))))
        conv=>whnf
        refine Again.mk (i+1) ?_ ?_ (Fg.go ?_ rfl)
        · omega
        · omega
        repeat' ((conv=>whnf);first|((with_reducible refine ObEqs.mk ?_ ?_);(focus rfl))|((with_reducible refine ObEq1.i ?_ ?_);(focus (first|(with_reducible rfl)|omega)))|exact True.intro)
      repeat' ((conv=>whnf);first|(with_reducible refine SeqP.go ?_)|((with_reducible refine ObN.mk ?_ ?_);(focus exact zN))|(with_reducible refine ObT.ff ?_)|((with_reducible refine ObB.no ?_ ?_);(focus (first|assumption|omega)))|((with_reducible refine ObEq.i ?_);(focus (first|(with_reducible rfl)|omega))))
    have ha:¬ v ∈ l:=fun hm=>by
      obtain ⟨k,hk,e⟩:=List.getElem_of_mem hm
      have:=h k hk
      simp [List.getElem?_eq_getElem hk,e] at this
    rw [decide_eq_false ha]
    refine pc_ofV cop50 ?_
    repeat' ((conv=>whnf);first|(with_reducible refine SeqP.go ?_)|((with_reducible refine ObN.mk ?_ ?_);(focus exact zN))|((with_reducible refine ObB.no ?_ ?_);(focus (first|assumption|omega)))|((with_reducible refine ObC.f 58 ?_);(first|(with_reducible refine ObC.mk _ (hx) ?_)|(refine ObC.mk _ (hx) ?_)))|((with_reducible refine ObEq.mk ?_);(focus (first|rfl|assumption))))
  · have hx : PC Try.prog G 58 [.sl 1 (l.map iA), I v] (I i0) := by
      refine pc_ofV cop58 ?_
      repeat' ((conv=>whnf);first|(with_reducible refine SeqP.go ?_)|((with_reducible refine (?_:ObL _ _));(refine ObL.mk _ zL ?_)))
      conv=>whnf
      refine LoopP.go (α:=Nat) (fun i=>i≤i0) (fun i=>l.length - i) (fun i=>[(4,none),(0,none),(2,some (I i)),(0,none),(0,none),(0,none),(0,none),(0,none),(0,none),(0,none),(0,none),(0,none),(0,none)]) (fun _=>[]) 0 (Nat.zero_le _) (Fg.go ?_ rfl) ?_
      · repeat' ((conv=>whnf);first|((with_reducible refine ObEqs.mk ?_ ?_);(focus rfl))|((with_reducible refine ObEq1.i ?_ ?_);(focus (first|(with_reducible rfl)|omega)))|exact True.intro)
      intro i hi
      have hlt:i < l.length:=by omega
      have hq:(l.map iA)[i]? = some (I l[i]):=iA_at hlt
      by_cases he:i=i0
      · subst he
        have hf:v=l[i]:=by have:=of_decide_eq_true h2;rw [List.getElem?_eq_getElem hlt] at this;exact (Option.some.inj this).symm
        repeat' ((conv=>whnf);first|(with_reducible refine SeqP.go ?_)|((with_reducible refine ObN.mk ?_ ?_);(focus exact zN))|(with_reducible refine ObT.tt ?_)|((with_reducible refine ObB.yes ?_ ?_);(focus (first|assumption|(with_reducible rfl)|omega)))|((with_reducible refine ObX.mk _ rfl ?_ ?_);(focus exact zX))|((with_reducible refine (?_:ObR _ _ _));(first|(refine ObR.mk _ (by assumption) ?_)|(refine ObR.mk _ (by with_reducible rfl) ?_)|(refine ObR.map zX (fun x hx=>?_))|(refine ObR.mk _ rfl ?_)))|((with_reducible refine ObEq.i ?_);(focus (first|(with_reducible rfl)|omega))))
      · have hf:¬ v=l[i]:=fun e=>by have:=h3 i (by omega);simp [List.getElem?_eq_getElem hlt,e] at this
        repeat' ((conv=>whnf);first|(with_reducible refine SeqP.go ?_)|((with_reducible refine ObN.mk ?_ ?_);(focus exact zN))|(with_reducible refine ObT.tt ?_)|(with_reducible refine ObT.ff ?_)|((with_reducible refine ObB.yes ?_ ?_);(focus (first|assumption|(with_reducible rfl)|omega)))|((with_reducible refine ObB.no ?_ ?_);(focus (first|assumption|omega)))|((with_reducible refine ObI.nl ?_ ?_);(focus omega))|((with_reducible refine ObX.mk _ rfl ?_ ?_);(focus exact zX))|((with_reducible refine (?_:ObR _ _ _));(first|(refine ObR.mk _ (by assumption) ?_)|(refine ObR.mk _ (by with_reducible rfl) ?_)|(refine ObR.map zX (fun x hx=>?_))|(refine ObR.mk _ rfl ?_))))
        conv=>whnf
        refine Again.mk (i+1) ?_ ?_ (Fg.go ?_ rfl)
        · omega
        · omega
        repeat' ((conv=>whnf);first|((with_reducible refine ObEqs.mk ?_ ?_);(focus rfl))|((with_reducible refine ObEq1.i ?_ ?_);(focus (first|(with_reducible rfl)|omega)))|exact True.intro)
    have ha:v ∈ l:=by
      have:=of_decide_eq_true h2
      exact List.mem_of_getElem? this
    rw [decide_eq_true ha]
    refine pc_ofV cop50 ?_
    repeat' ((conv=>whnf);first|(with_reducible refine SeqP.go ?_)|((with_reducible refine ObN.mk ?_ ?_);(focus exact zN))|((with_reducible refine ObB.yes ?_ ?_);(focus (first|assumption|(with_reducible rfl)|omega)))|((with_reducible refine ObC.f 58 ?_);(first|(with_reducible refine ObC.mk _ (hx) ?_)|(refine ObC.mk _ (hx) ?_)))|((with_reducible refine ObEq.mk ?_);(focus (first|rfl|assumption))))
end Go.Proofs.Ytnammfeiehikfaa.Sim
namespace Go.Proofs.Ytnammfeiehikfaa.Sim
open Go.RowKit
set_option maxRecDepth 100000
abbrev tb8:ByteArray:=ByteArray.mk #[0,1,1,2,1,2,2,3,1,2,2,3,2,3,3,4,1,2,2,3,2,3,3,4,2,3,3,4,3,4,4,5,1,2,2,3,2,3,3,4,2,3,3,4,3,4,4,5,2,3,3,4,3,4,4,5,3,4,4,5,4,5,5,6,1,2,2,3,2,3,3,4,2,3,3,4,3,4,4,5,2,3,3,4,3,4,4,5,3,4,4,5,4,5,5,6,2,3,3,4,3,4,4,5,3,4,4,5,4,5,5,6,3,4,4,5,4,5,5,6,4,5,5,6,5,6,6,7,1,2,2,3,2,3,3,4,2,3,3,4,3,4,4,5,2,3,3,4,3,4,4,5,3,4,4,5,4,5,5,6,2,3,3,4,3,4,4,5,3,4,4,5,4,5,5,6,3,4,4,5,4,5,5,6,4,5,5,6,5,6,6,7,2,3,3,4,3,4,4,5,3,4,4,5,4,5,5,6,3,4,4,5,4,5,5,6,4,5,5,6,5,6,6,7,3,4,4,5,4,5,5,6,4,5,5,6,5,6,6,7,4,5,5,6,5,6,6,7,5,6,6,7,6,7,7,8]
theorem tb8_pc:∀ k:Fin 256,(tb8[k.1]'(show k.1 < 256 from k.2)).toNat=Mk.pc k.1:=by decide +kernel
theorem tb8_at (k:Nat) (h:k < tb8.size):((tb8[k]'h).toNat:Int)=(Mk.pc k:Nat):=by
  have:=tb8_pc ⟨k,h⟩
  simp only at this
  rw [this]
theorem obq8 {k:Int→Prop} {m:Nat} (h:m < 256) (hk:k ((Mk.pc m:Nat):Int)):ObQ tb8 (m:Int) k:=⟨m,rfl,h,by rw [tb8_at];exact hk⟩
section
variable {P:Program} {H:Hp} {k:KK} {t:TypeId} {xo yo:Operand} {n:Nat}
theorem eS24 (hk:k (.v (.int .u32 ((n / 16777216:Nat):Int))) H):ObE ((binA P H .shr t false xo yo (.v (.int .u32 (n:Int))) (.v (.int .u64 24))).map (·,H)) k:=by
  have e:binV P .shr t xo yo (.int .u32 (n:Int)) (.int .u64 24)=some (.int .u32 ((n / 16777216:Nat):Int)):=by
    show some (Value.int .u32 ((n:Int).fdiv (2 ^ 24)))=_
    rw [Int.fdiv_eq_ediv_of_nonneg _ (by decide)];rfl
  exact ⟨_,_,by simp only [binA,conc,e,Bool.false_eq_true,if_false];rfl,hk⟩
theorem eS16 (hk:k (.v (.int .u32 ((n / 65536:Nat):Int))) H):ObE ((binA P H .shr t false xo yo (.v (.int .u32 (n:Int))) (.v (.int .u64 16))).map (·,H)) k:=by
  have e:binV P .shr t xo yo (.int .u32 (n:Int)) (.int .u64 16)=some (.int .u32 ((n / 65536:Nat):Int)):=by
    show some (Value.int .u32 ((n:Int).fdiv (2 ^ 16)))=_
    rw [Int.fdiv_eq_ediv_of_nonneg _ (by decide)];rfl
  exact ⟨_,_,by simp only [binA,conc,e,Bool.false_eq_true,if_false];rfl,hk⟩
theorem eS8 (hk:k (.v (.int .u32 ((n / 256:Nat):Int))) H):ObE ((binA P H .shr t false xo yo (.v (.int .u32 (n:Int))) (.v (.int .u64 8))).map (·,H)) k:=by
  have e:binV P .shr t xo yo (.int .u32 (n:Int)) (.int .u64 8)=some (.int .u32 ((n / 256:Nat):Int)):=by
    show some (Value.int .u32 ((n:Int).fdiv (2 ^ 8)))=_
    rw [Int.fdiv_eq_ediv_of_nonneg _ (by decide)];rfl
  exact ⟨_,_,by simp only [binA,conc,e,Bool.false_eq_true,if_false];rfl,hk⟩
theorem eAnd (hn:n < 4294967296) (hk:k (.v (.int .u32 ((n % 256:Nat):Int))) H):ObE ((binA P H .and t false xo yo (.v (.int .u32 (n:Int))) (.v (.int .u32 255))).map (·,H)) k:=by
  have e:binV P .and t xo yo (.int .u32 (n:Int)) (.int .u32 255)=some (.int .u32 ((n % 256:Nat):Int)):=by
    show some (Value.int .u32 (bits .and .u32 (n:Int) 255))=_
    rw [show (255:Int)=((255:Nat):Int) from rfl,u32_and_nat _ _ (by omega) (by omega),show (255:Nat)=2 ^ 8 - 1 from rfl,Nat.and_two_pow_sub_one_eq_mod]
  exact ⟨_,_,by simp only [binA,conc,e,Bool.false_eq_true,if_false];rfl,hk⟩
end
theorem pop53 (G:Nat→AV) (m:Nat) (hm:m < 4294967296):PC Try.prog G 57 [.v (.int .u32 (m:Int))] (I ((Mk.all m).length:Nat)):=by
  have hp:=Mk.pop_all m
  have l0:=Mk.pc_le (m / 16777216 % 256)
  have l1:=Mk.pc_le (m / 65536 % 256)
  have l2:=Mk.pc_le (m / 256 % 256)
  have l3:=Mk.pc_le (m % 256)
  have hd:m / 16777216=m / 16777216 % 256:=by omega
  rw [← hd] at hp l0
  have hs:tb8.size=256:=rfl
  have u5:(Try.prog).underlying 5=some (.int .u8):=by kernel_rfl
  have u3:(Try.prog).underlying 3=some (.int .i64):=by kernel_rfl
  refine pc_ofV cop57 ?_
  repeat' ((conv=>whnf);first|(with_reducible refine SeqP.go ?_)|(with_reducible refine eS24 ?_)|(with_reducible refine eS16 ?_)|(with_reducible refine eS8 ?_)|((with_reducible refine eAnd ?_ ?_);(focus omega))|((with_reducible refine (?_:ObE _ _));(refine ObE.cv u5 u3 ?_))|((with_reducible refine (?_:ObQ _ _ _));(refine obq8 ?_ ?_);(focus omega))|((with_reducible refine ObD.mk ?_ ?_);(focus (first|rfl|(simp;done))))|((with_reducible refine ObN.mk ?_ ?_);(focus (first|exact u_str|rfl|assumption|omega|(simp only [List.length_map,List.length_append,List.length_cons,List.length_nil];omega)|(simp;done)|(simp;omega))))|(with_reducible refine ObZ.mk _ rfl ?_)|((with_reducible refine ObEq.mk ?_);(focus (first|rfl|assumption|exact (by rw [hp];congr 2;simp only [IntKind.wrap_u8,IntKind.wrap_i64];omega)))))
end Go.Proofs.Ytnammfeiehikfaa.Sim
namespace Go.Proofs.Ytnammfeiehikfaa.Sim
open Go.RowKit
set_option maxRecDepth 100000
def upI (m i:Nat):List Int:=(Mk.upTo m i).map Int.ofNat
theorem upI_len (m i:Nat):(upI m i).length≤i:=by simp [upI,Mk.upTo_len]
end Go.Proofs.Ytnammfeiehikfaa.Sim
