/- Texts of this claim, part 2. -/
import Derived.LoopN
import Derived.MapKept
import Derived.Maps.RangeRun
import Derived.Scope
import Derived.Test.YtfocijljkkfonaaDoorMHeapSame1
set_option linter.unusedVariables false
set_option linter.unusedSimpArgs false
namespace Go.Proofs.YtfocijljkkfonaaDoor.Sim
open Go.RowKit
section
variable {P:Program} {B:Bd} {w0 w:World} {F0 F:Fz} {O:Ow} {H:Hp}
theorem parts_ok {fs : Array Field} {ρ : Operand -> Value} {ev : AX -> AV} (hρ : ∀ (ty : TypeId) (x : Operand) (ax : AX), cx P ty x = some ax -> VR F O (ρ x) (ev ax)) : ∀ {ps : List (Nat × Operand)} {qs : List (Nat × Nat × AX)} {places : List (Nat × Nat)},
  fs.toList.mapM (fun f=>(P.info? f.type).map fun i=>(f.offset,i.size))=some places->xU P fs ps=some qs->ps.length=qs.length /\
  ∀ (i:Nat) (p:Nat × Operand) (q:Nat × Nat × AX),ps[i]? = some p->qs[i]? = some q->places[p.1]? = some (q.1,q.2.1)/\VR F O (ρ p.2) (ev q.2.2)
 | [],qs,places,_,h=>by cases h;exact ⟨rfl,fun i p q hp=>by simp at hp⟩
 | (j,x)::ps,qs,places,hp,h=>by
  simp only [xU] at h
  split at h
  ·rename_i f hf
   split at h
   ·rename_i fi a qs' h1 h2 h3
    cases h
    obtain ⟨l,r⟩:=parts_ok hρ hp h3
    refine ⟨by simp [l],fun i p q hpi hqi=>?_⟩
    cases i with
    | zero =>
     simp at hpi hqi
     subst hpi
     subst hqi
     refine ⟨?_,hρ _ _ _ h2⟩
     have hf':fs.toList[j]? = some f:=by simpa using hf
     have:=mapM_some_get hp j f (by simpa using hf)
     simpa [h1] using this.symm
    | succ i=>exact r i p q (by simpa using hpi) (by simpa using hqi)
   ·cases h
  ·cases h
theorem row_ok {e : TypeId} {ρ : Operand -> Value} {ev : AX -> AV} (hρ : ∀ (ty : TypeId) (x : Operand) (ax : AX), cx P ty x = some ax -> VR F O (ρ x) (ev ax)) : ∀ {ps : List (Nat × Operand)} {s : Nat} {as_ : List AX}, copRow P e s ps = some as_ ->
  ps.map (fun p=>(p.1,ρ p.2))=((ps.map fun p=>ρ p.2).zipIdx s).map (fun p=>(p.2,p.1))/\ps.length=as_.length/\∀ (i:Nat) (c:Value) (a:AV),(ps.map fun p=>ρ p.2)[i]? = some c->(as_.map ev)[i]? = some a->VR F O c a
 | [],s,as_,h=>by cases h;exact ⟨rfl,rfl,fun i c a hc=>by simp at hc⟩
 | (j,x)::ps,s,as_,h=>by
  simp only [copRow] at h
  split at h
  ·rename_i hj
   subst hj
   split at h
   ·rename_i a as' h1 h2
    cases h
    obtain ⟨q1,q2,q3⟩:=row_ok hρ h2
    refine ⟨by simp only [List.map_cons,List.zipIdx_cons,q1],by simp [q2],fun i c a hc ha=>?_⟩
    cases i with
    | zero=>simp at hc ha;subst hc;subst ha;exact hρ _ _ _ h1
    | succ i=>exact q3 i c a (by simpa using hc) (by simpa using ha)
   ·cases h
  ·cases h
theorem Y0 {t : TypeId} {ρ : Operand -> Value} {ev : AX -> AV} (hρ : ∀ (ty : TypeId) (x : Operand) (ax : AX), cx P ty x = some ax -> VR F O (ρ x) (ev ax)) {x : Option Operand} {a : Option AX} (h : cxo P t x = some a) :
  (x=none/\a=none)\/∃ x' a',x=some x'/\a=some a'/\VR F O (ρ x') (ev a'):=by
 cases x with
 | none=>cases h;exact .inl ⟨rfl,rfl⟩
 | some x =>
  simp only [cxo] at h
  split at h
  ·rename_i a' h1;cases h;exact .inr ⟨x,a',rfl,rfl,hρ _ _ _ h1⟩
  ·cases h
theorem Xw {ρ : Operand -> Value} {ev : AX -> AV} (hρ : ∀ (ty : TypeId) (x : Operand) (ax : AX), cx P ty x = some ax -> VR F O (ρ x) (ev ax)) : ∀ {ts : List TypeId} {xs : List Operand} {as_ : List AX}, cxs P (ts.zip xs) = some as_ -> ts.length = xs.length ->
  (xs.map ρ).length=(as_.map ev).length/\∀ (i:Nat) (c:Value) (a:AV),(xs.map ρ)[i]? = some c->(as_.map ev)[i]? = some a->VR F O c a
 | [],[],as_,h,_=>by cases h;exact ⟨rfl,fun i c a hc=>by simp at hc⟩
 | [],_::_,as_,h,hl=>by simp at hl
 | _::_,[],as_,h,hl=>by simp at hl
 | t::ts,x::xs,as_,h,hl=>by
  simp only [List.zip_cons_cons,cxs] at h
  split at h
  ·rename_i a as' h1 h2
   cases h
   obtain ⟨q1,q2⟩:=Xw hρ h2 (by simpa using hl)
   refine ⟨by simpa using q1,fun i c a hc ha=>?_⟩
   cases i with
   | zero=>simp at hc ha;subst hc;subst ha;exact hρ _ _ _ h1
   | succ i=>exact q2 i c a (by simpa using hc) (by simpa using ha)
  ·cases h
theorem xW:∀ {as_:List AV} {xs ys:List Value},zy as_=some xs->ys.length=as_.length->(∀ (i:Nat) (c:Value) (a:AV),ys[i]? = some c->as_[i]? = some a->VR F O c a)->ys=xs
 | [],xs,ys,h,hl,_=>by cases h;exact List.eq_nil_of_length_eq_zero hl
 | a::as_,xs,[],h,hl,_=>by simp at hl
 | a::as_,xs,y::ys,h,hl,hv=>by
  simp only [zy] at h
  split at h
  ·rename_i x xs' h1 h2
   cases h
   rw [yV (hv 0 y a rfl rfl) h1,xW h2 (by simpa using hl) (fun i c a hc ha=>hv (i+1) c a hc ha)]
  ·cases h
theorem Xy {b : Bool} {n c : Nat} {lo hi : Option Value} {l h : Option Int} (hl : (lo = none /\ l = none) \/ ∃ k i, lo = some (.int k i) /\ l = some i) (hh : (hi = none /\ h = none) \/ ∃ k i, hi = some (.int k i) /\ h = some i)
  (h0:0<=l.getD 0) (h1:l.getD 0<=h.getD n) (h2:h.getD n<=n) (h3:n<=c):(Instr.sliceBounds b n c lo hi none).run P w = .ok ((l.getD 0).toNat,(h.getD n).toNat,c) w:=by
 rcases hl with ⟨rfl,rfl⟩|⟨k,i,rfl,rfl⟩<;>rcases hh with ⟨rfl,rfl⟩|⟨k',i',rfl,rfl⟩<;>simp only [Option.getD_none,Option.getD_some] at h0 h1 h2 ⊢
 ·simp [Instr.sliceBounds]
 ·have : 0 <= i' /\ i' <= (c : Int) := ⟨h1, by omega⟩
  simp [Instr.sliceBounds,Instr.sliceBound,asIntOf,this]
 ·have : 0 <= i /\ i <= (n : Int) := ⟨h0, h1⟩
  simp [Instr.sliceBounds,Instr.sliceBound,asIntOf,this]
 ·have e1 : 0 <= i' /\ i' <= (c : Int) := ⟨by omega, by omega⟩
  have e2:0<=i/\i<=((i'.toNat:Nat):Int):=⟨h0,by omega⟩
  have e3:i<=max i' 0:=by omega
  simp [Instr.sliceBounds,Instr.sliceBound,asIntOf,e1.1,e1.2,h0,e3]
theorem Xk {a:AV} (h:AV.one a=true):a.cells=[a]:=by
 cases a<;>first|rfl|cases h
theorem sla_run (h : Own B w0 F0 F O H w) {t e : TypeId} {n : Nat} {i : TypeInfo} (ht : P.underlying t = some (.array n e)) (hi : P.info? e = some i) (hs1 : i.size = 1) {x : Value} {a : AV} (hx : VR F O x a) {lo hi' : Option Value} {l hh : Option Int}
  (hl:(lo=none/\l=none)\/∃ k i,lo=some (.int k i)/\l=some i) (hhi:(hi'=none/\hh=none)\/∃ k i,hi'=some (.int k i)/\hh=some i) {r:AV} {H':Hp} (hr:slaA n H a l hh=some (r,H')) :
  ∃ y,(Instr.sliceAt t x lo hi' none).run P w = .ok y w/\Out B w0 F0 F O r H' y w:=by
 unfold slaA at hr
 split at hr
 ·rename_i j g
  split at hr
  ·rename_i ob hlv
   split at hr
   ·rename_i cs hes
    split at hr
    ·rename_i hc
     obtain ⟨hk,hcl,hp,hm,h0,h1,h2⟩:=hc
     cases hr
     obtain ⟨hio,hg⟩:=Zz hlv
     subst hg
     obtain ⟨F',p,own,le⟩:=h.freezeA hio (z7 hlv) hp hx
     cases p with
     | ad b o k es i' off hk1 h1' f hf hv =>
      have hb:=Xy (P:=P) (w:=w) (b:=false) (n:=n) (c:=n) hl hhi h0 h1 h2 (Nat.le_refl _)
      refine ⟨.slice (some (if n=(l.getD 0).toNat then ⟨b,o+0 * ob.k+0,none⟩ else (⟨b,o+0 * ob.k+0,none⟩:Addr).add ((l.getD 0).toNat * i.size))) ((hh.getD n).toNat - (l.getD 0).toNat) (n - (l.getD 0).toNat),?_,F',O,.p ?_,own,le,Ow.le_refl O⟩
      ·have hsa:∀ a:Addr,(Instr.sureAddr (.pointer (some a))).run P w = .ok a w:=fun a=>rfl
       simp only [Instr.sliceAt,Sem.run_bind,run_underlying ht,Result.andThen_ok,hsa,hb,ZJ hi]
       rfl
      ·generalize hL : (l.getD 0).toNat = L at *
       generalize hU:(hh.getD n).toNat=U at *
       have hLU:L<=U:=by omega
       have hUn:U<=n:=by omega
       have at_:∀ (q:Nat) (y:AV),((cs.take U).drop L)[q]? = some y->cs[L+q]? = some y/\L+q < U:=fun q y hy=>by
        rw [List.getElem?_drop,List.getElem?_take] at hy
        split at hy
        ·exact ⟨hy,by assumption⟩
        ·cases hy
       have one:∀ y ∈ (cs.take U).drop L,AV.one y=true:=fun y hy=>h1' (.agg cs) (by rw [hes];simp) y (List.mem_of_mem_take (List.mem_of_mem_drop hy))
       refine .sl _ _ _ 1 _ (by simp;omega) (by omega) (by omega) (fun y hy=>by rw [Xk (one y hy)];rfl) (fun y hy u hu=>by
        rw [Xk (one y hy)] at hu
        simp at hu;subst hu
        exact one _ hy) b (o+0 * ob.k+0+L) (fun h=>by
         rw [if_neg (by omega),ZD,hs1,Nat.mul_one]) (fun q _=>f 0 (L+q)) (fun q j' hq hj=>by
         have:=hf 0 (L+q) (by rw [hes];simp) (by omega)
         rw [<- this]
         congr 1
         omega) (fun q j' y u hy hu=>by
         obtain ⟨h3,h4⟩:=at_ q y hy
         rw [Xk (one y (List.mem_of_getElem? hy))] at hu
         cases j' with
         | zero =>
          simp at hu;subst hu
          exact hv 0 (L+q) (.agg cs) y (by rw [hes];rfl) h3
         | succ j'=>simp at hu)
    ·cases hr
   ·cases hr
  ·cases hr
 ·cases hr
theorem slice_run (h : Own B w0 F0 F O H w) {t e : TypeId} {i : TypeInfo} (ht : P.underlying t = some (.slice e)) (hi : P.info? e = some i) {x : Value} {a : AV} (hx : VR F O x a) {lo hi' : Option Value} {l hh : Option Int}
  (hl:(lo=none/\l=none)\/∃ k i,lo=some (.int k i)/\l=some i) (hhi:(hi'=none/\hh=none)\/∃ k i,hi'=some (.int k i)/\hh=some i) {r:AV} {H':Hp} (hr:zg i.size H a l hh=some (r,H')) :
  ∃ y,(Instr.sliceAt t x lo hi' none).run P w = .ok y w/\Out B w0 F0 F O r H' y w:=by
 have front:∀ {A:Option Addr} {n c:Nat},x = .slice A n c->0<=l.getD 0->l.getD 0<=hh.getD n->hh.getD n<=n->n<=c->(Instr.sliceAt t x lo hi' none).run P w = .ok (.slice (if c=(l.getD 0).toNat then A else A.map (·.add ((l.getD 0).toNat * i.size))) ((hh.getD n).toNat - (l.getD 0).toNat) (c - (l.getD 0).toNat)) w:=fun {A n c} e h0 h1 h2 h3=>by
  subst e
  simp only [Instr.sliceAt,Instr.slice,Sem.run_bind,run_underlying ht,Result.andThen_ok,Xy (P:=P) (w:=w) (b:=true) hl hhi h0 h1 h2 h3,ZJ hi]
  rfl
 cases a with
 | nl k =>
  simp only [zg] at hr
  split at hr
  ·rename_i hc
   obtain ⟨rfl,h1,h2⟩:=hc
   cases hr
   cases hx with
   | p h=>cases h
   | nl =>
    have h3:hh.getD ((0:Nat):Int)=0:=h2
    have hf:=front (A:=none) (n:=0) (c:=0) rfl (by omega) (by omega) (by omega) (Nat.le_refl _)
    refine ⟨_,hf,Out.same h ?_⟩
    rw [h1,h3]
    exact .nl _
  ·cases hr
 | sl k es =>
  simp only [zg] at hr
  split at hr
  rotate_left
  ·cases hr
  rename_i hkk
  subst hkk
  split at hr
  ·rename_i r' hcut
   cases hr
   obtain ⟨A,n,c,e1,h0,h1,h2,h3,h4,hp⟩:=cut_ok (hx.pvC rfl) hcut
   subst h4
   exact ⟨_,front e1 h0 h1 h2 h3,Out.same h (.p hp)⟩
  ·cases hr
 | ol j g n =>
  simp only [zg] at hr
  split at hr
  ·rename_i hl0
   split at hr
   ·rename_i ob hlv
    split at hr
    ·rename_i hcond
     cases hr
     obtain ⟨d,hd,hio,rr,hnC,rfl⟩:=h.ol hx hlv
     have hg:=(Zz hlv).2
     have hf:=front rfl (by omega) (by omega) (by omega) hnC
     rw [hl0] at hf
     refine ⟨_,hf,Out.same h ?_⟩
     refine .ol _ j g _ d hd (by rw [rr.hg];omega) ⟨_,_,rfl⟩ fun _=>⟨by omega,?_⟩
     simp [ZD]
    ·cases hr
   ·cases hr
  ·split at hr
   ·rename_i k es H2 hp
    split at hr
    rotate_left
    ·cases hr
    rename_i hkk
    subst hkk
    split at hr
    ·rename_i r' hcut
     cases hr
     obtain ⟨F',p1,o1,l1,_⟩:=Wy h hx hp
     obtain ⟨A,n',c,e1,h0,h1,h2,h3,h4,hpp⟩:=cut_ok p1 hcut
     subst h4
     exact ⟨_,front e1 h0 h1 h2 h3,F',O,.p hpp,o1,l1,Ow.le_refl O⟩
    ·cases hr
   ·cases hr
 | _=>cases hr
theorem slo_run (h : Own B w0 F0 F O H w) {t e : TypeId} {i : TypeInfo} (ht : P.underlying t = some (.slice e)) (hi : P.info? e = some i) {x : Value} {a : AV} (hx : VR F O x a) {kd : IntKind} {ix : Int} {r : AV} (hr : Wr i.size H a ix = some r) :
  ∃ y,(Instr.sliceAt t x (some (.int kd ix)) none none).run P w = .ok y w/\VR F O y r:=by
 cases a with
 | ol j g n =>
  simp only [Wr] at hr
  split at hr
  ·rename_i ob hlv
   split at hr
   ·rename_i hcond
    cases hr
    obtain ⟨hk,h0,h1⟩:=hcond
    obtain ⟨d,hd,hio,rr,hnC,rfl⟩:=h.ol hx hlv
    have hg:=(Zz hlv).2
    have hb:=Xy (P:=P) (w:=w) (b:=true) (n:=n) (c:=d.C) (lo:=some (.int kd ix)) (hi:=none) (l:=some ix) (h:=none) (.inr ⟨kd,ix,rfl,rfl⟩) (.inl ⟨rfl,rfl⟩) h0 (by simp only [Option.getD_some,Option.getD_none];omega) (by simp) hnC
    simp only [Option.getD_some,Option.getD_none,Int.toNat_natCast] at hb
    have hrun:(Instr.sliceAt t (.slice (some ⟨d.b,0,none⟩) n d.C) (some (.int kd ix)) none none).run P w = .ok (.slice (if d.C=ix.toNat then (some ⟨d.b,0,none⟩:Option Addr) else (some ⟨d.b,0,none⟩:Option Addr).map (·.add (ix.toNat * i.size))) (n - ix.toNat) (d.C - ix.toNat)) w:=by
     simp only [Instr.sliceAt,Instr.slice,Sem.run_bind,run_underlying ht,Result.andThen_ok,hb,ZJ hi]
     rfl
    refine ⟨_,hrun,?_⟩
    refine .os _ j g _ _ d hd (by rw [rr.hg];omega) ⟨_,_,rfl⟩ fun _=>⟨h1,hnC,_,rfl,fun hlt=>?_⟩
    rw [if_neg (by omega)]
    have hdk:d.k=i.size:=by rw [<- hk,rr.hk]
    simp [ZD,hdk]
   ·cases hr
  ·cases hr
 | _=>cases hr
end
section
variable {P:Program} {B:Bd} {w0 w:World} {F0 F:Fz} {O:Ow} {H:Hp}
theorem zT {α:Type} {o:Option α} {H H':Hp} {r:α} (h:o.map (·,H)=some (r,H')):o=some r/\H'=H:=by
 cases o with
 | none=>cases h
 | some a=>cases h;exact ⟨rfl,rfl⟩
theorem idx_part {len : Nat} {ix : Int} {t e : TypeId} {ei : TypeInfo} (ht : P.underlying t = some (.array len e)) (he : P.info? e = some ei) {cs : Array Value} {kk : IntKind} (h0 : 0 <= ix) (h1 : ix.toNat < len) {y : Value} (hp : (part e cs (ix.toNat * ei.size)).run P w = .ok y w) :
  (Instr.index t (.agg cs) (.int kk ix)).run P w = .ok y w:=by
 have hc:0<=ix/\ix < (len:Int):=⟨h0,by omega⟩
 simp only [Instr.index,asIntOf,Sem.run_bind,Sem.run_pure,Result.andThen_ok,run_underlying ht]
 simp only [hc,and_self,if_true,Sem.run_bind,ZJ he,Result.andThen_ok]
 exact hp
theorem iad_run {t e:TypeId} {ei:TypeInfo} (ht:P.underlying t=some (.slice e)) (he:P.info? e=some ei) {kk:IntKind} {ix:Int} {ad:Addr} {n c:Nat} (h0:0<=ix) (h1:ix < n):(Instr.indexAt t (.slice (some ad) n c) (.int kk ix)).run P w = .ok (.pointer (some (ad.add (ix.toNat * ei.size)))) w:=by
 simp only [Instr.indexAt,asIntOf,Sem.run_bind,Sem.run_pure,Result.andThen_ok,run_underlying ht,h0,h1,and_self,if_true,ZJ he]
theorem iaa_run {t e:TypeId} {ei:TypeInfo} {len:Nat} (ht:P.underlying t=some (.array len e)) (he:P.info? e=some ei) {kk:IntKind} {ix:Int} {ad:Addr} (h0:0<=ix) (h1:ix.toNat < len):(Instr.indexAt t (.pointer (some ad)) (.int kk ix)).run P w = .ok (.pointer (some (ad.add (ix.toNat * ei.size)))) w:=by
 have h1':ix < (len:Int):=by omega
 simp only [Instr.indexAt,asIntOf,Sem.run_bind,Sem.run_pure,Result.andThen_ok,run_underlying ht,Instr.sureAddr,h0,h1',and_self,if_true,ZJ he]
theorem wrap_id {l:Int} (h0:0<=l) (h1:l<=9223372036854775807):IntKind.i64.wrap l=l:=by
 exact IntWalk.i64_in l (by omega)
theorem zrow {z:Array Value} {k n:Nat} (hz:z.size=k) (h0:n * k ≠ 0) (x:Nat) (hx:x < n * k):((Array.range (n * k)).map (fun j=>z[j % z.size]!))[x]? = z[x % k]?:=by
 have hk:0 < k:=Nat.pos_of_ne_zero fun e=>h0 (by rw [e];rfl)
 have hm:x % k < z.size:=by rw [hz];exact Nat.mod_lt _ hk
 simp only [Array.getElem?_map,Array.getElem?_range,hx,if_true,Option.map_some,hz]
 rw [Array.getElem?_eq_getElem hm]
 simp [hm]
theorem mks_go {t e : TypeId} {i : TypeInfo} {z : Value} (ht : P.underlying t = some (.slice e)) (hi : P.info? e = some i) (hz : i.zero = some z) (hs : z.cells.size = i.size) {kl kc : IntKind} {l c : Int} (h0 : 0 <= l) (h1 : l <= c) (hb : c.toNat * i.bytes <= 140737488355328) (hm : c.toNat <= maxLen) :
  ∃ cs:Array Value,(Instr.makeSlice t (.int kl l) (.int kc c)).run P w = .ok (.slice (some ⟨w.heap.size,0,none⟩) l.toNat c.toNat) (w.alloc (.cells cs e))/\cs.size=c.toNat * i.size/\∀ x,x < c.toNat * i.size->cs[x]? = z.cells[x % i.size]?:=by
 have hc:c<=9223372036854775807:=by simp only [maxLen] at hm;omega
 have wl:=wrap_id h0 (by omega:l<=9223372036854775807)
 have wc:=wrap_id (by omega:0<=c) hc
 have hbi:¬ ((i.bytes:Int) * c > 2 ^ 48):=by
  have e1:(i.bytes:Int) * c=((c.toNat * i.bytes:Nat):Int):=by
   rw [Int.natCast_mul,Int.toNat_of_nonneg (by omega),Int.mul_comm]
  rw [e1]
  have:(2:Int) ^ 48=281474976710656:=by decide
  omega
 have hno:((decide (c < 0) || decide ((i.bytes:Int) * c > 2 ^ 48)) || decide (l < 0) || decide (l > c))=false:=by
  simp only [Bool.or_eq_false_iff,decide_eq_false_iff_not]
  exact ⟨⟨⟨by omega,hbi⟩,by omega⟩,by omega⟩
 have hroom:¬ (c.toNat * i.bytes > roomBytes):=by simp only [roomBytes];omega
 by_cases hn:c.toNat * i.size=0
 ·refine ⟨Array.map (fun x=>(#[]:Array Value)[x % (#[]:Array Value).size]!) (Array.range 0),?_,by simpa using hn.symm,fun x hx=>by omega⟩
  simp only [Instr.makeSlice,Sem.run_bind,run_underlying ht,Result.andThen_ok,asInt,asIntOf,Sem.run_pure,xJ hi,wl,wc,hno,Bool.false_eq_true,if_false,askRoom,hroom,ZJ hi,hn,if_true,newRow,newObj]
  rfl
 ·refine ⟨(Array.range (c.toNat * i.size)).map (fun j=>z.cells[j % z.cells.size]!),?_,by simp,zrow hs hn⟩
  simp only [Instr.makeSlice,Sem.run_bind,run_underlying ht,Result.andThen_ok,asInt,asIntOf,Sem.run_pure,xJ hi,wl,wc,hno,Bool.false_eq_true,if_false,askRoom,hroom,ZJ hi,hn,y4 hi hz,newRow,newObj]
  rfl
theorem bsl_go {t e : TypeId} {i : TypeInfo} {z : Value} (ht : P.underlying t = some (.slice e)) (hi : P.info? e = some i) (hz : i.zero = some z) {vs : List Value} (hk : ∀ v ∈ vs, v.cells.size = i.size) (hm : vs.length * i.size <= 16777216) {ps : Array (Nat × Value)} (hps : ps.toList = (vs.zipIdx 0).map fun p => (p.2, p.1)) :
  ∃ cs:Array Value,(Instr.buildSlice t vs.length ps).run P w = .ok (.slice (some ⟨w.heap.size,0,none⟩) vs.length vs.length) (w.alloc (.cells cs e))/\cs.size=vs.length * i.size/\∀ (j:Nat) (v:Value),vs[j]? = some v->∀ x,x < i.size->cs[j * i.size+x]? = v.cells[x]?:=by
 have hbig:¬ (vs.length * i.size > 2 ^ 24):=by
  have:(2:Nat) ^ 24=16777216:=by decide
  omega
 by_cases hn:vs.length * i.size=0
 ·obtain ⟨out,o1,o2,_,o4⟩:=wt (k:=i.size) vs 0 ((Array.range (vs.length * i.size)).map (fun j=>(#[]:Array Value)[j % (#[]:Array Value).size]!)) hk (by simp)
  refine ⟨out,?_,by rw [o2];simp,fun j v hv x hx=>by have:=o4 j v hv x hx;rwa [Nat.zero_add] at this⟩
  rw [<- hps,hn] at o1
  simp only [Instr.buildSlice,Sem.run_bind,run_underlying ht,Result.andThen_ok,ZJ hi,hn,show ¬ (0 > 2 ^ 24) from by decide,if_false,if_true,Sem.run_pure,pure_bind,o1]
  rfl
 ·obtain ⟨out,o1,o2,_,o4⟩:=wt (k:=i.size) vs 0 ((Array.range (vs.length * i.size)).map (fun j=>z.cells[j % z.cells.size]!)) hk (by simp)
  refine ⟨out,?_,by rw [o2];simp,fun j v hv x hx=>by have:=o4 j v hv x hx;rwa [Nat.zero_add] at this⟩
  rw [<- hps] at o1
  simp only [Instr.buildSlice,Sem.run_bind,run_underlying ht,Result.andThen_ok,ZJ hi,hbig,if_false,hn,y4 hi hz,Sem.run_pure,o1]
  rfl
theorem Y7 {x : Option Operand} {a : Option AX} {ρ : Operand -> Value} {ev : AX -> AV} (h : (x = none /\ a = none) \/ ∃ x' a', x = some x' /\ a = some a' /\ VR F O (ρ x') (ev a')) (hn : (a.map ev).map zR ≠ some none) :
  (x.map ρ=none/\((a.map ev).map zR).bind id=none)\/∃ k i,x.map ρ=some (.int k i)/\((a.map ev).map zR).bind id=some i:=by
 rcases h with ⟨rfl,rfl⟩|⟨x',a',rfl,rfl,hv⟩
 ·exact .inl ⟨rfl,rfl⟩
 ·cases hi:zR (ev a') with
  | none=>simp [hi] at hn
  | some n =>
   obtain ⟨k,hk⟩:=xu hv hi
   exact .inr ⟨k,n,by simp [hk],by simp [hi]⟩
theorem opt_conc {x : Option Operand} {a : Option AX} {ρ : Operand -> Value} {ev : AX -> AV} (h : (x = none /\ a = none) \/ ∃ x' a', x = some x' /\ a = some a' /\ VR F O (ρ x') (ev a')) (hn : (a.map ev).map zW ≠ some none) :
  x.map ρ=((a.map ev).map zW).bind id:=by
 rcases h with ⟨rfl,rfl⟩|⟨x',a',rfl,rfl,hv⟩
 ·rfl
 ·cases hi:zW (ev a') with
  | none=>simp [hi] at hn
  | some y=>simp [hi,yV hv hi]
end
def CellsR (F:Fz) (O:Ow):List Value->List AV->Prop
 | [],[]=>True
 | x::l,a::as_=>VR F O x a/\CellsR F O l as_
 | _,_=>False
theorem CellsR.len {F:Fz} {O:Ow}:∀ {l:List Value} {as_:List AV},CellsR F O l as_->l.length=as_.length
 | [],[],_=>rfl
 | [],_::_,h=>h.elim
 | _::_,[],h=>h.elim
 | x::l,a::as_,h=>by simp [CellsR.len h.2]
theorem CellsR.at {F:Fz} {O:Ow}:∀ {l:List Value} {as_:List AV},CellsR F O l as_->∀ (j:Nat) (a:AV),as_[j]? = some a->∃ c,l[j]? = some c/\VR F O c a
 | [],[],_,j,a,ha=>by simp at ha
 | [],_::_,h,_,_,_=>h.elim
 | _::_,[],h,_,_,_=>h.elim
 | x::l,b::as_,h,0,a,ha=>by simp at ha;subst ha;exact ⟨x,rfl,h.1⟩
 | x::l,b::as_,h,j+1,a,ha=>CellsR.at h.2 j a (by simpa using ha)
theorem CellsR.of {F:Fz} {O:Ow}:∀ {l:List Value} {as_:List AV},l.length=as_.length->(∀ (j:Nat) (a:AV),as_[j]? = some a->∃ c,l[j]? = some c/\VR F O c a)->CellsR F O l as_
 | [],[],_,_=>trivial
 | [],_::_,h,_=>by simp at h
 | _::_,[],h,_=>by simp at h
 | x::l,b::as_,hl,h=>by
  refine ⟨?_,CellsR.of (by simpa using hl) fun j a ha=>?_⟩
  ·obtain ⟨c, h1, h2⟩ := h 0 b rfl
   simp at h1;subst h1;exact h2
  ·obtain ⟨c, h1, h2⟩ := h (j + 1) a (by simpa using ha)
   exact ⟨c,by simpa using h1,h2⟩
theorem CellsR.app {F:Fz} {O:Ow}:∀ {l l2:List Value} {as_ as2:List AV},CellsR F O l as_->CellsR F O l2 as2->CellsR F O (l++l2) (as_++as2)
 | [],_,[],_,_,k=>k
 | [],_,_::_,_,h,_=>h.elim
 | _::_,_,[],_,h,_=>h.elim
 | _::_,_,_::_,_,h,k=>⟨h.1,CellsR.app h.2 k⟩
theorem CellsR.inv {F:Fz} {O:Ow}:∀ {l l2:List Value} {as_ as2:List AV},CellsR F O (l++l2) (as_++as2)->l.length=as_.length->CellsR F O l as_/\CellsR F O l2 as2
 | [],_,[],_,h,_=>⟨trivial,h⟩
 | [],_,_::_,_,_,hl=>by simp at hl
 | _::_,_,[],_,_,hl=>by simp at hl
 | _::_,_,_::_,_,h,hl=>by
  obtain ⟨h1,h2⟩:=CellsR.inv h.2 (by simpa using hl)
  exact ⟨⟨h.1,h1⟩,h2⟩
theorem CellsR.mono {F F':Fz} {O O':Ow} (hF:F.le F') (hO:O.le O'):∀ {l:List Value} {as_:List AV},CellsR F O l as_->CellsR F' O' l as_
 | [],[],_=>trivial
 | [],_::_,h=>h.elim
 | _::_,[],h=>h.elim
 | _::_,_::_,h=>⟨h.1.mono hF hO,CellsR.mono hF hO h.2⟩
theorem Yk:∀ {l x:List AV} {y:AV},wG l=some (x,y)->l=x++[y]
 | [],x,y,h=>by cases h
 | [a],x,y,h=>by cases h;rfl
 | a::b::l,x,y,h=>by
  simp only [wG] at h
  split at h
  ·rename_i x' y' hu
   cases h
   rw [Yk hu];rfl
  ·cases h
def RowsR (F:Fz) (O:Ow):List (List Value)->List AV->Prop
 | [],[]=>True
 | c::l,e::es=>(∃ cs,e = .agg cs/\CellsR F O c cs)/\RowsR F O l es
 | _,_=>False
theorem RowsR.len {F:Fz} {O:Ow}:∀ {l:List (List Value)} {es:List AV},RowsR F O l es->l.length=es.length
 | [],[],_=>rfl
 | [],_::_,h=>h.elim
 | _::_,[],h=>h.elim
 | x::l,a::as_,h=>by simp [RowsR.len h.2]
theorem agg_of2 {e:AV} (h:2<=e.cells.length):∃ cs,e = .agg cs:=by
 cases e with
 | agg cs=>exact ⟨cs,rfl⟩
 | _=>simp [AV.cells] at h
theorem RowsR.mk {F : Fz} {O : Ow} {K : Nat} (hK : 2 <= K) : ∀ {l : List (List Value)} {es : List AV}, l.length = es.length -> (∀ e ∈ es, e.cells.length = K) -> (∀ c ∈ l, c.length = K) ->
  (∀ (n j:Nat) (e a:AV),es[n]? = some e->e.cells[j]? = some a->∃ c,l.flatten[n * K+j]? = some c/\VR F O c a)->RowsR F O l es
 | [],[],_,_,_,_=>trivial
 | [],_::_,h,_,_,_=>by simp at h
 | _::_,[],h,_,_,_=>by simp at h
 | x::l,e::es,h,hk,hx,hc=>by
  have he:=hk e (by simp)
  have hxl:=hx x (by simp)
  obtain ⟨cs,rfl⟩:=agg_of2 (by omega:2<=e.cells.length)
  refine ⟨⟨cs,rfl,CellsR.of (by rw [hxl];exact he.symm) fun j a ha=>?_⟩,RowsR.mk hK (by simpa using h) (fun e' he=>hk e' (by simp [he])) (fun c hc=>hx c (by simp [hc])) fun n j e' u he' hu=>?_⟩
  ·obtain ⟨c, h1, h2⟩ := hc 0 j _ a rfl ha
   have hj:j < cs.length:=(List.getElem?_eq_some_iff.1 ha).1
   have he2:cs.length=K:=he
   rw [Nat.zero_mul,Nat.zero_add,List.flatten_cons,List.getElem?_append_left (by omega)] at h1
   exact ⟨c,h1,h2⟩
  ·obtain ⟨c, h1, h2⟩ := hc (n + 1) j e' u (by simpa using he') hu
   refine ⟨c,?_,h2⟩
   rw [List.flatten_cons,List.getElem?_append_right (by rw [hxl,Nat.add_mul];omega)] at h1
   rw [<- h1]
   congr 1
   rw [hxl,Nat.add_mul]
   omega
theorem RowsR.cells {F:Fz} {O:Ow} {K:Nat}:∀ {l:List (List Value)} {es:List AV},RowsR F O l es->(∀ c ∈ l,c.length=K)->∀ (n j:Nat) (e a:AV),es[n]? = some e->e.cells[j]? = some a->∃ c,l.flatten[n * K+j]? = some c/\VR F O c a
 | [],[],_,_,n,j,e,a,he,_=>by simp at he
 | [],_::_,h,_,_,_,_,_,_,_=>h.elim
 | _::_,[],h,_,_,_,_,_,_,_=>h.elim
 | x::l,e0::es,h,hx,n,j,e,a,he,ha=>by
  obtain ⟨⟨cs,rfl,h1⟩,h3⟩:=h
  have hxl:=hx x (by simp)
  cases n with
  | zero =>
   simp at he
   subst he
   obtain ⟨c,q1,q2⟩:=h1.at j a ha
   have hj:j < x.length:=(List.getElem?_eq_some_iff.1 q1).1
   exact ⟨c,by rw [Nat.zero_mul,Nat.zero_add,List.flatten_cons,List.getElem?_append_left hj];exact q1,q2⟩
  | succ n =>
   obtain ⟨c,q1,q2⟩:=RowsR.cells h3 (fun c hc=>hx c (by simp [hc])) n j e a (by simpa using he) ha
   refine ⟨c,?_,q2⟩
   rw [List.flatten_cons,List.getElem?_append_right (by rw [hxl,Nat.add_mul];omega),<- q1]
   congr 1
   rw [hxl,Nat.add_mul]
   omega
theorem RowsR.app {F:Fz} {O:Ow}:∀ {l l2:List (List Value)} {es es2:List AV},RowsR F O l es->RowsR F O l2 es2->RowsR F O (l++l2) (es++es2)
 | [],_,[],_,_,h=>h
 | [],_,_::_,_,h,_=>h.elim
 | _::_,_,[],_,h,_=>h.elim
 | _::_,_,_::_,_,h,k=>⟨h.1,RowsR.app h.2 k⟩
abbrev yf (F:Fz) (O:Ow) (l:List MapEntry) (es:List AV):Prop:=RowsR F O (l.map ww) es
abbrev hdC (ag:Bool) (m c:Nat):List Value:=Value.int .i64 (c:Int) :: .bool ag::List.replicate m (.bool false)
theorem wo {ag:Bool} {m c:Nat} {es:Array MapEntry}:(wW ag m c es).toList=(hdC ag m c::es.toList.map ww).flatten:=by
 simp [wW,hdC,List.flatMap]
theorem entC_len {ag:Bool} {m:Nat} {x:MapEntry} (h:xi ag m x.val):(ww x).length=m+2:=by
 simp [ww,h.1]
theorem XU {F:Fz} {O:Ow} {x:MapEntry} {k s:AV} {r vs:List AV} (h:CellsR F O (ww x) (k::r)) (hu:wG r=some (vs,s)):VR F O x.key k/\CellsR F O x.val.cells.toList vs/\VR F O (.int .i64 (x.born:Int)) s:=by
 obtain ⟨h1,h2⟩:=h
 rw [Yk hu] at h2
 have hl:=h2.len
 simp at hl
 obtain ⟨h3,h4⟩:=h2.inv (by simpa using hl)
 exact ⟨h1,h3,h4.1⟩
theorem Wn {F:Fz} {O:Ow} {ag:Bool} {m:Nat} {v:Value} {vs:List AV} {a:AV} (hv:xi ag m v) (hc:CellsR F O v.cells.toList vs) (h1:∀ a ∈ vs,AV.one a=true) (h:valA ag vs=some a):VR F O v a:=by
 obtain ⟨_,hv⟩:=hv
 unfold valA at h
 split at h
 ·rename_i hag
  cases h
  rw [if_pos hag] at hv
  obtain ⟨cs,rfl⟩:=hv
  have:=VR.agg (F:=F) (O:=O) cs.toList vs hc.len h1 fun i c a hc' ha=>by
   obtain ⟨c2,q1,q2⟩:=hc.at i a ha
   have:some c2=some c:=q1.symm.trans hc'
   cases this;exact q2
  simpa using this
 ·rename_i hag
  rw [if_neg hag] at hv
  split at h
  ·cases h
   have e2:v.cells = #[v]:=by cases v<;>first|rfl|cases hv
   rw [e2] at hc
   exact hc.1
  ·cases h
theorem valC_ok {F:Fz} {O:Ow} {ag:Bool} {v:Value} {vs:List AV} {a:AV} (hx:VR F O v a) (h1:(a.cells.all AV.one)=true) (h:valC ag a=some vs):xi ag vs.length v/\CellsR F O v.cells.toList vs/\(∀ u ∈ vs,AV.one u=true):=by
 have h1':∀ u ∈ a.cells,AV.one u=true:=fun u hu=>List.all_eq_true.1 h1 u hu
 by_cases hagg:∃ cs,a = .agg cs
 ·obtain ⟨cs, rfl⟩ := hagg
  simp only [valC] at h
  split at h
  ·rename_i hag
   obtain rfl:cs=vs:=by simpa using h
   obtain ⟨q1,q2,q3⟩:=hx.cells (.inr ⟨cs,rfl⟩)
   have q1':v.cells.size=cs.length:=q1
   refine ⟨⟨q1',?_⟩,CellsR.of (by simpa using q1') fun j u hu=>?_,h1'⟩
   ·rw [if_pos hag]
    cases hx with
    | p h=>cases h with|agg cs'=>exact ⟨_,rfl⟩
    | agg cs'=>exact ⟨_,rfl⟩
   ·obtain ⟨c, p1, p2⟩ := q3 j u hu
    exact ⟨c,by simpa using p1,p2⟩
  ·cases h
 ·have hcells : a.cells = [a] := by cases a <;> first | rfl | exact absurd ⟨_, rfl⟩ hagg
  have hone:a.one=true:=h1' a (by rw [hcells];simp)
  have hvs:ag=false/\vs=[a]:=by
   cases a<;>first|(simp only [valC] at h;split at h<;>first|(cases h;done)|(rename_i hag;cases h;exact ⟨by simpa using hag,rfl⟩))|exact absurd ⟨_,rfl⟩ hagg
  obtain ⟨rfl,rfl⟩:=hvs
  have e2:v.cells = #[v]:=by have:=hx.oneCell hone;cases v<;>first|rfl|cases this
  refine ⟨⟨by rw [e2];rfl,by simpa using hx.oneCell hone⟩,by rw [e2];exact ⟨hx,trivial⟩,fun u hu=>?_⟩
  simp at hu;subst hu;exact hone
theorem Yq {F:Fz} {O:Ow} {n:Int} {s:Int} (h:VR F O (.int .i64 n) (.v (.int .i64 s))):n=s:=by
 have:=h.pvC rfl
 cases this;rfl
theorem VR.toV {F:Fz} {O:Ow} {c v:Value} (h:VR F O c (.v v)):c=v:=by
 have:=h.pvC rfl
 cases this;rfl
def Xu (kd:Kd) (d:TypeDesc):Prop :=
 match kd with
 | .i=>∃ k,d = .int k
 | .s=>d = .string
 | .b=>d = .bool
theorem Xm {P:Program} {t:TypeId} {kd:Kd} (h:Z8 P t=some kd):∃ d,P.underlying t=some d/\Xu kd d:=by
 unfold Z8 at h
 split at h
 ·rename_i k hu;cases h;exact ⟨_,hu,⟨k,rfl⟩⟩
 ·rename_i hu;cases h;exact ⟨_,hu,rfl⟩
 ·rename_i hu;cases h;exact ⟨_,hu,rfl⟩
 ·cases h
theorem eqC_now {F:Fz} {O:Ow} {kd:Kd} {d:TypeDesc} (hd:Xu kd d) {a b:AV} {x y:Value} (hx:VR F O x a) (hy:VR F O y b) {r:Bool} (h:eqC kd a b=some r):Instr.sameNow d x y=some r/\(r=true->Instr.sameBits 10000 y x=true):=by
 unfold eqC at h
 split at h
 ·rename_i k m k' n
  have e1:=hx.pvC rfl
  have e2:=hy.pvC rfl
  cases e1;cases e2
  split at h
  ·rename_i hk
   subst hk
   cases h
   obtain ⟨k0,rfl⟩:=hd
   refine ⟨by simp [Instr.sameNow,BEq.beq],fun hr=>?_⟩
   have:=of_decide_eq_true hr
   subst this
   simp [Instr.sameBits]
  ·cases h
 ·rename_i s1 s2
  have e1:=hx.pvC rfl
  have e2:=hy.pvC rfl
  cases e1;cases e2
  cases h
  cases hd
  have hb:(s1 == s2)=decide (s1=s2):=by
   by_cases e:s1=s2
   ·rw [decide_eq_true e];exact (MapKept.bytes_beq _ _).2 e
   ·rw [decide_eq_false e]
    cases hq:(s1 == s2) with
    | false=>rfl
    | true=>exact absurd ((MapKept.bytes_beq _ _).1 hq) e
  refine ⟨by simp only [Instr.sameNow,hb],fun hr=>?_⟩
  have:=of_decide_eq_true hr
  subst this
  simp only [Instr.sameBits]
  exact (MapKept.bytes_beq _ _).2 rfl
 ·rename_i b1 b2
  have e1:=hx.pvC rfl
  have e2:=hy.pvC rfl
  cases e1;cases e2
  cases h
  cases hd
  refine ⟨rfl,fun hr=>?_⟩
  have:=beq_iff_eq.1 hr
  subst this
  simp [Instr.sameBits]
 ·cases h
theorem WF {F : Fz} {O : Ow} {kd : Kd} {d : TypeDesc} {ag : Bool} {m : Nat} (hd : Xu kd d) {key : AV} {x : Value} (hx : VR F O x key) : ∀ {l : List MapEntry} {es : List AV} {r : Option AV} (i : Nat), yf F O l es -> (∀ y ∈ l, xi ag m y.val) -> (∀ e ∈ es, ∀ a ∈ e.cells, AV.one a = true) -> lkA kd ag key es = some r ->
  (r=none/\Instr.findNow d x l i=some none)\/∃ j e va,r=some va/\Instr.findNow d x l i=some (some (i+j,e.val))/\l[j]? = some e/\VR F O e.val va
 | [],[],r,i,_,_,_,h=>by cases h;exact .inl ⟨rfl,rfl⟩
 | [],_::_,_,_,h,_,_,_=>h.elim
 | _::_,[],_,_,h,_,_,_=>h.elim
 | y::l,e0::es,r,i,h,hv,h1,hr=>by
  obtain ⟨⟨cs,rfl,hcs⟩,h3⟩:=h
  cases cs with
  | nil=>exact hcs.elim
  | cons ka rs =>
   simp only [lkA] at hr
   split at hr
   ·rename_i b hb
    obtain ⟨q1,q2⟩:=eqC_now hd hx hcs.1 hb
    cases b with
    | true =>
     simp only [if_true] at hr
     split at hr
     ·rename_i vs s hu
      split at hr
      ·rename_i v hv'
       cases hr
       obtain ⟨p1,p2,p3⟩:=XU hcs hu
       have hva:=Wn (hv y (by simp)) p2 (fun a ha=>h1 (.agg (ka::rs)) (by simp) a (by rw [Yk hu];simp [AV.cells,ha])) hv'
       exact .inr ⟨0,y,v,rfl,by simp [Instr.findNow,q1],rfl,hva⟩
      ·cases hr
     ·cases hr
    | false =>
     simp only [Bool.false_eq_true,if_false] at hr
     rcases WF hd hx (i+1) h3 (fun y hy=>hv y (by simp [hy])) (fun e he=>h1 e (by simp [he])) hr with ⟨rfl,g1⟩|⟨j,e,va',rfl,g1,g2,g3⟩
     ·exact .inl ⟨rfl,by simp [Instr.findNow,q1,g1]⟩
     ·exact .inr ⟨j+1,e,va',rfl,by simp [Instr.findNow,q1,g1];omega,by simpa using g2,g3⟩
   ·cases hr
theorem XQ {F : Fz} {O : Ow} {kd : Kd} {d : TypeDesc} (hd : Xu kd d) {key : AV} {x z : Value} {vs : List AV} (hx : VR F O x key) (hz : CellsR F O z.cells.toList vs) : ∀ {l : List MapEntry} {es : List AV} {r : Option (List AV)} (i : Nat), yf F O l es -> ovA kd key vs es = some r ->
  (r=none/\Instr.findNow d x l i=some none)\/∃ j e es',r=some es'/\Instr.findNow d x l i=some (some (i+j,e.val))/\l[j]? = some e/\Instr.sameBits 10000 e.key x=true/\∀ f:MapEntry->MapEntry,((f e).key=x)->((f e).val=z)->((f e).born=e.born)->yf F O (l.modify j f) es'
 | [],[],r,i,_,h=>by cases h;exact .inl ⟨rfl,rfl⟩
 | [],_::_,_,_,h,_=>h.elim
 | _::_,[],_,_,h,_=>h.elim
 | y::l,e0::es,r,i,h,hr=>by
  obtain ⟨⟨cs,rfl,hcs⟩,h3⟩:=h
  cases cs with
  | nil=>exact hcs.elim
  | cons ka rs =>
   simp only [ovA] at hr
   split at hr
   ·rename_i b hb
    obtain ⟨q1,q2⟩:=eqC_now hd hx hcs.1 hb
    cases b with
    | true =>
     simp only [if_true] at hr
     split at hr
     ·rename_i vs' s hu
      cases hr
      obtain ⟨p1,p2,p3⟩:=XU hcs hu
      refine .inr ⟨0,y,_,rfl,by simp [Instr.findNow,q1],rfl,q2 rfl,fun f f1 f2 f3=>?_⟩
      rw [List.modify_zero_cons]
      refine ⟨⟨_,rfl,?_⟩,h3⟩
      show CellsR F O (ww (f y)) _
      unfold ww
      rw [f1,f2,f3]
      exact ⟨hx,hz.app ⟨p3,trivial⟩⟩
     ·cases hr
    | false =>
     simp only [Bool.false_eq_true,if_false] at hr
     split at hr
     ·rename_i es2 hu
      cases hr
      rcases XQ hd hx hz (i+1) h3 hu with ⟨e,_⟩|⟨j,e,es3,e3,g1,g2,g3,g4⟩
      ·cases e
      ·cases e3
       refine .inr ⟨j+1,e,_,rfl,by simp [Instr.findNow,q1,g1];omega,by simpa using g2,g3,fun f f1 f2 f3=>?_⟩
       rw [List.modify_succ_cons]
       exact ⟨⟨_,rfl,hcs⟩,g4 f f1 f2 f3⟩
     ·rename_i hu
      cases hr
      rcases XQ hd hx hz (i+1) h3 hu with ⟨_,g1⟩|⟨j,e,es3,e3,_⟩
      ·exact .inl ⟨rfl,by simp [Instr.findNow,q1,g1]⟩
      ·cases e3
     ·cases hr
   ·cases hr
theorem ov_one {kd:Kd} {key:AV} {vs:List AV} (hk:key.one=true) (hv:∀ a ∈ vs,AV.one a=true):∀ {es es':List AV},ovA kd key vs es=some (some es')->(∀ e ∈ es,∀ a ∈ e.cells,AV.one a=true)->∀ e ∈ es',∀ a ∈ e.cells,AV.one a=true
 | [],es',h,_=>by cases h
 | e0::es,es',h,h1=>by
  unfold ovA at h
  split at h
  ·rename_i h0;cases h0
  ·rename_i k r es1 heq
   cases heq
   split at h
   ·rename_i b hb
    split at h
    ·split at h
     ·rename_i vs' s hu
      cases h
      intro e he a ha
      rcases List.mem_cons.1 he with rfl|he
      ·have ha' : a = key \/ a ∈ vs \/ a = s := by simpa [AV.cells] using ha
       rcases ha' with rfl|ha'|rfl
       ·exact hk
       ·exact hv a ha'
       ·exact h1 (.agg (k::r)) (by simp) a (by rw [Yk hu];simp [AV.cells])
      ·exact h1 e (by simp [he]) a ha
     ·cases h
    ·split at h
     ·rename_i es2 hu
      cases h
      intro e he a ha
      rcases List.mem_cons.1 he with rfl|he
      ·exact h1 (.agg (k::r)) (by simp) a ha
      ·exact ov_one hk hv hu (fun e1 h'=>h1 e1 (by simp [h'])) e he a ha
     ·cases h
     ·cases h
   ·cases h
  ·cases h
theorem dl_find {F : Fz} {O : Ow} {kd : Kd} {d : TypeDesc} (hd : Xu kd d) {key : AV} {x : Value} (hx : VR F O x key) : ∀ {l : List MapEntry} {es es' : List AV} (i : Nat), yf F O l es -> dlA kd key es = some es' ->
  ((es'=es/\Instr.findNow d x l i=some none)\/∃ j v,Instr.findNow d x l i=some (some (i+j,v))/\yf F O (l.eraseIdx j) es')/\∀ e ∈ es',e ∈ es
 | [],[],es',i,_,h=>by cases h;exact ⟨.inl ⟨rfl,rfl⟩,fun e h=>h⟩
 | [],_::_,_,_,h,_=>h.elim
 | _::_,[],_,_,h,_=>h.elim
 | y::l,e0::es,es',i,h,hr=>by
  obtain ⟨⟨cs,rfl,hcs⟩,h3⟩:=h
  cases cs with
  | nil=>exact hcs.elim
  | cons ka rs =>
   simp only [dlA] at hr
   split at hr
   ·rename_i b hb
    obtain ⟨q1,q2⟩:=eqC_now hd hx hcs.1 hb
    cases b with
    | true =>
     simp only [if_true] at hr
     cases hr
     exact ⟨.inr ⟨0,y.val,by simp [Instr.findNow,q1],h3⟩,fun e he=>by simp [he]⟩
    | false =>
     simp only [Bool.false_eq_true,if_false] at hr
     split at hr
     ·rename_i es2 hu
      cases hr
      obtain ⟨a1,a2⟩:=dl_find hd hx (i+1) h3 hu
      refine ⟨?_,fun e he=>?_⟩
      ·rcases a1 with ⟨rfl, g1⟩ | ⟨j, v, g1, g2⟩
       ·exact .inl ⟨rfl,by simp [Instr.findNow,q1,g1]⟩
       ·exact .inr ⟨j+1,v,by simp [Instr.findNow,q1,g1];omega,⟨⟨_,rfl,hcs⟩,g2⟩⟩
      ·rcases List.mem_cons.1 he with rfl | he
       ·simp
       ·simp [a2 e he]
     ·cases hr
   ·cases hr
theorem rdH_ok {l:List AV} {c:Int} {ag:Bool} {r es:List AV} (h:rdH l=some (c,ag,r,es)):l = .agg (.v (.int .i64 c) :: .v (.bool ag)::r)::es:=by
 unfold rdH at h
 split at h
 ·cases h;rfl
 ·cases h
section
variable {P:Program} {B:Bd} {w0 w:World} {F0 F:Fz} {O:Ow} {H:Hp}
theorem Own.mp (h : Own B w0 F0 F O H w) {x : Value} {i g : Nat} {ob : OB} (hx : VR F O x (.mp i g)) (hl : Sim.liveM H i g = some ob) :
  ∃ d,O[i]? = some d/\H[i]? = some ob/\Row B F O w d ob/\x = .map (some d.b)/\ob.e=ZM/\2<=ob.k:=by
 obtain ⟨hi,hg,he⟩:=liveM_ok hl
 obtain ⟨d,hd,r⟩:=h.get hi
 cases hx with
 | p h=>cases h
 | mp _ _ _ d' hd' hg' h1 hh =>
  rw [hd] at hd'
  cases hd'
  exact ⟨d,hd,hi,r,hh (by rw [r.hg,hg]),he⟩
theorem Row.ents0 {d:Ds} {ob:OB} (r:Row B F O w d ob) (he:ob.e=ZM) (hk:2<=ob.k):∃ ents clock ag m hd es,w.heap[d.b]? = some (.map ents clock)/\ob.k=m+2/\(∀ x ∈ ents.toList,xi ag m x.val)/\ob.es=hd::es/\(∃ cs,hd = .agg cs/\CellsR F O (hdC ag m clock) cs)/\yf F O ents.toList es:=by
 obtain ⟨cur,h1,_,h3⟩:=r.cur
 rcases h1 with ⟨ne,_⟩|⟨_,⟨ents,clock,ag,m,q0,q1,q2,q3,q4⟩|⟨k1,_⟩|⟨k1,_⟩⟩
 ·exact absurd he ne
 rotate_left
 ·omega
 ·omega
 ·have hrows : RowsR F O (hdC ag m clock :: ents.toList.map ww) ob.es := by
   refine RowsR.mk (K:=m+2) (by omega) (by simpa using q3) (fun e he=>by rw [r.hn e he,q0]) (fun c hc=>?_) fun n j e a hx ha=>?_
   ·rcases List.mem_cons.1 hc with rfl | hc
    ·simp [hdC]
    ·obtain ⟨x, hx, rfl⟩ := List.mem_map.1 hc
     exact entC_len (q4 x hx)
   ·obtain ⟨c, g1, g2⟩ := h3 n j e a hx ha
    rw [q0,q2] at g1
    refine ⟨c,?_,g2⟩
    rw [<- wo]
    simpa using g1
  cases hes:ob.es with
  | nil=>rw [hes] at hrows;exact hrows.elim
  | cons hd es =>
   rw [hes] at hrows
   exact ⟨ents,clock,ag,m,hd,es,q1,q0,q4,rfl,hrows.1,hrows.2⟩
theorem Row.ents {d : Ds} {ob : OB} (r : Row B F O w d ob) (he : ob.e = ZM) (hk : 2 <= ob.k) {c : Int} {ag : Bool} {rr es : List AV} (hr : rdH ob.es = some (c, ag, rr, es)) :
  ∃ ents clock,w.heap[d.b]? = some (.map ents clock)/\c=(clock:Int)/\ob.k=rr.length+2/\(∀ x ∈ ents.toList,xi ag rr.length x.val)/\yf F O ents.toList es/\CellsR F O (hdC ag rr.length clock) (.v (.int .i64 c) :: .v (.bool ag)::rr):=by
 obtain ⟨ents,clock,ag',m,hd,es',q1,q2,q3,q4,⟨cs,q5,q6⟩,q7⟩:=r.ents0 he hk
 rw [rdH_ok hr] at q4
 cases q4
 cases q5
 obtain ⟨a1,a2,a3⟩:=q6
 have e1:=Yq a1
 have e2:=a2.toV
 cases e2
 have e3:=a3.len
 simp at e3
 subst e3
 exact ⟨ents,clock,q1,e1.symm,q2,q3,q7,⟨a1,a2,a3⟩⟩
theorem Own.setMap (h : Own B w0 F0 F O H w) {i : Nat} {ob : OB} {ds : Ds} (hi : H[i]? = some ob) (hd : O[i]? = some ds) (he : ob.e = ZM) (hfz : ob.fz = 0) {m : Nat} (hk : ob.k = m + 2) {ag : Bool} {ents' : Array MapEntry} {clock' : Nat} {hcs es' : List AV}
  (hh:CellsR F O (hdC ag m clock') hcs) (hho:∀ a ∈ hcs,AV.one a=true) (hE:yf F O ents'.toList es') (hv:∀ x ∈ ents'.toList,xi ag m x.val) (ho:∀ e ∈ es',∀ a ∈ e.cells,AV.one a=true) :
  ∃ O',Own B w0 F0 F O' (H.set i { ob with es:=.agg hcs::es' }) { w with heap:=w.heap.setIfInBounds ds.b (.map ents' clock') }/\O.le O':=by
 have r':=h.row i ds ob hd hi
 have hlt:=r'.lt
 have hlen:∀ c ∈ hdC ag m clock'::ents'.toList.map ww,c.length=m+2:=fun c hc=>by
  rcases List.mem_cons.1 hc with rfl|hc
  ·simp [hdC]
  ·obtain ⟨x, hx, rfl⟩ := List.mem_map.1 hc
   exact entC_len (hv x hx)
 have hrows:RowsR F O (hdC ag m clock'::ents'.toList.map ww) (.agg hcs::es'):=⟨⟨_,rfl,hh⟩,hE⟩
 have hel:∀ {l:List (List Value)} {es:List AV},RowsR F O l es->(∀ c ∈ l,c.length=m+2)->∀ e ∈ es,e.cells.length=m+2:=by
  intro l
  induction l with
  | nil=>intro es hr _ e he;cases es with
   | nil=>simp at he
   | cons=>exact hr.elim
  | cons c l ih=>intro es hr hc e he;cases es with
   | nil=>simp at he
   | cons e0 es =>
    obtain ⟨⟨cs,rfl,q⟩,q2⟩:=hr
    rcases List.mem_cons.1 he with rfl|he
    ·have := q.len
     rw [hc c (by simp)] at this
     exact this.symm
    ·exact ih q2 (fun c hc'=>hc c (by simp [hc'])) e he
 have hob:H.set i { ob with es:=.agg hcs::es' } = H.set i ⟨ob.e,ob.k,.agg hcs::es',ob.g,ob.fz⟩:=rfl
 rw [hob]
 obtain ⟨a1,a2⟩:=h.writeG (w':={ w with heap:=w.heap.setIfInBounds ds.b (.map ents' clock') }) (new:=wW ag m clock' ents') (g':=ob.g) (es':=.agg hcs::es') hi hd
  (fun b hb=>by simp only;rw [Array.getElem?_setIfInBounds_ne (fun e=>hb e.symm)])
  (h.below.trans ⟨rfl,rfl,rfl,by simp,fun k hk=>by simp only;rw [Array.getElem?_setIfInBounds_ne (fun e=>by have:=r'.hB.1;omega)]⟩)
  (by simpa using h.size)
  (.inr ⟨he,.inl ⟨ents',clock',ag,m,hk,by simp only;rw [Array.getElem?_setIfInBounds_self_of_lt hlt],rfl,by have:=RowsR.len hE;simp at this;simp [this],hv⟩⟩)
  (Nat.le_refl _) (fun ne=>absurd he ne) (fun ne=>absurd he ne) (fun e he'=>by rw [hk];exact hel hrows hlen e he') (fun e he'=>by
   rcases List.mem_cons.1 he' with rfl|he'
   ·exact hho
   ·exact ho e he') (by omega)
  (fun n j e a hx ha=>by
   obtain ⟨c,g1,g2⟩:=hrows.cells hlen n j e a hx ha
   refine ⟨c,?_,g2⟩
   rw [hk]
   rw [<- wo] at g1
   simpa using g1)
  (fun o v hv=>by
   have:=r'.hf o v hv
   rw [hfz] at this
   omega)
 exact ⟨_,a1,a2⟩
theorem yj {t:TypeId} {kd:Kd} {d:TypeDesc} (hu:P.underlying t=some d) (hd:Xu kd d) (v:Value) (b:Bool) (w:World):(Instr.checkKey b 10000 t v).run P w = .ok () w:=by
 unfold Instr.checkKey
 simp only [Sem.run_bind,run_underlying hu,Result.andThen]
 cases kd with
 | i=>obtain ⟨k,rfl⟩:=hd;rfl
 | s=>cases hd;rfl
 | b=>cases hd;rfl
theorem yK {t:TypeId} {d:TypeDesc} (hu:P.underlying t=some d) {v:Value} {l:List MapEntry} {r:Option (Nat × Value)} (h:Instr.findNow d v l 0=some r) (w:World):(Instr.findKey t v l).run P w = .ok r w:=by
 simp [Instr.findKey,run_underlying hu,h]
theorem VR.tup2 {u v:Value} {ua va:AV} (hu:VR F O u ua) (hv:VR F O v va):VR F O (.tuple #[u,v]) (.tup [ua,va]) :=
 VR.tup (F:=F) (O:=O) [u,v] [ua,va] rfl fun i c a hc ha=>by
  match i,hc,ha with
  | 0,hc,ha=>cases hc;cases ha;exact hu
  | 1,hc,ha=>cases hc;cases ha;exact hv
theorem VR.tup3 {u v x:Value} {ua va xa:AV} (hu:VR F O u ua) (hv:VR F O v va) (hx:VR F O x xa):VR F O (.tuple #[u,v,x]) (.tup [ua,va,xa]) :=
 VR.tup (F:=F) (O:=O) [u,v,x] [ua,va,xa] rfl fun i c a hc ha=>by
  match i,hc,ha with
  | 0,hc,ha=>cases hc;cases ha;exact hu
  | 1,hc,ha=>cases hc;cases ha;exact hv
  | 2,hc,ha=>cases hc;cases ha;exact hx
theorem Row.one {d:Ds} {ob:OB} (r:Row B F O w d ob) {c:Int} {ag:Bool} {rr es:List AV} (hr:rdH ob.es=some (c,ag,rr,es)):(∀ e ∈ es,∀ a ∈ e.cells,AV.one a=true)/\∀ a ∈ rr,AV.one a=true:=by
 have h1:=r.h1
 rw [rdH_ok hr] at h1
 exact ⟨fun e he=>h1 e (by simp [he]),fun a ha=>h1 (.agg (.v (.int .i64 c) :: .v (.bool ag)::rr)) (by simp) a (by simp [AV.cells,ha])⟩
theorem lkp_run (h : Own B w0 F0 F O H w) {x y z : Value} {xa ka za r : AV} (hx : VR F O x xa) (hy : VR F O y ka) (hz : VR F O z za) {t kt et : TypeId} {kd : Kd} {inf : TypeInfo} {c : Bool} (ht : P.underlying t = some (.map kt et)) (hk : Z8 P kt = some kd) (hi : P.info? et = some inf) (hzr : inf.zero = some z) (hr : wJ H kd c za xa ka = some r) :
  ∃ u,(Instr.lookup t x y c).run P w = .ok u w/\VR F O u r:=by
 obtain ⟨d,hu,hd⟩:=Xm hk
 unfold wJ at hr
 split at hr
 ·rename_i i g
  split at hr
  ·rename_i ob hl
   obtain ⟨ds,h1,h2,r',rfl,he,hk2⟩:=h.mp hx hl
   split at hr
   ·rename_i c0 ag rr es hrd
    have hzer:(zeroValue et).run P w = .ok z w:=y4 hi hzr w
    obtain ⟨ents,clock,q1,_,_,q3,q2,_⟩:=r'.ents he hk2 hrd
    have hone:=(r'.one hrd).1
    split at hr
    ·rename_i v hv
     rcases WF hd hy 0 q2 q3 hone hv with ⟨e,_⟩|⟨j,e,va,e1,g1,g2,g3⟩
     ·cases e
     ·cases e1
      refine ⟨if c=true then .tuple #[e.val,.bool true] else e.val,?_,?_⟩
      ·cases c<;>simp [Instr.lookup,run_underlying ht,MapKept.run_getObj_map q1,yj hu hd,yK hu g1]
      ·cases c
       ·cases hr;exact g3
       ·cases hr;exact g3.tup2 (.p (.v _ rfl))
    ·rename_i hv
     rcases WF hd hy 0 q2 q3 hone hv with ⟨_,g1⟩|⟨j,e,va,e1,_⟩
     ·refine ⟨if c = true then .tuple #[z, .bool false] else z, ?_, ?_⟩
      ·cases c<;>simp [Instr.lookup,run_underlying ht,MapKept.run_getObj_map q1,yj hu hd,yK hu g1,hzer]
      ·cases c
       ·cases hr;exact hz
       ·cases hr;exact hz.tup2 (.p (.v _ rfl))
     ·cases e1
    ·cases hr
   ·cases hr
  ·cases hr
 ·have hzer : (zeroValue et).run P w = .ok z w := y4 hi hzr w
  have hxm:x = .map none:=hx.toV
  subst hxm
  refine ⟨if c=true then .tuple #[z,.bool false] else z,?_,?_⟩
  ·cases c<;>simp [Instr.lookup,run_underlying ht,yj hu hd,hzer,yK hu (show Instr.findNow d y [] 0=some none from rfl)]
  ·cases c
   ·cases hr;exact hz
   ·cases hr;exact hz.tup2 (.p (.v _ rfl))
 ·cases hr
theorem lnm_run (h:Own B w0 F0 F O H w) {x:Value} {xa:AV} (hx:VR F O x xa) {t ty kt et:TypeId} (ht:P.underlying t=some (.map kt et)) {n:Nat} (hr:wk H xa=some n):(Builtin.len_ #[t] ty #[x]).run P w = .ok (.int .i64 n) w:=by
 unfold wk at hr
 split at hr
 ·rename_i i g
  split at hr
  ·rename_i ob hl
   obtain ⟨ds,h1,h2,r',rfl,he,hk2⟩:=h.mp hx hl
   obtain ⟨ents,clock,ag,m,hd,es,q1,_,_,q4,_,q2⟩:=r'.ents0 he hk2
   rw [q4] at hr
   cases hr
   have:=RowsR.len q2
   simp at this
   simp [Builtin.len_,run_underlying ht,MapKept.run_getObj_map q1,goInt,this]
  ·cases hr
 ·cases hr
theorem mkm_run (h:Own B w0 F0 F O H w) (ag:Bool) (m:Nat):Out B w0 F0 F O (.mp H.length 0) (H++[⟨ZM,m+2,[.agg (.v (.int .i64 0) :: .v (.bool ag)::List.replicate m (.v (.bool false)))],0,0⟩]) (.map (some w.heap.size)) (w.alloc (.map #[] 0)):=by
 have hcr:CellsR F O (hdC ag m 0) (.v (.int .i64 0) :: .v (.bool ag)::List.replicate m (.v (.bool false))):=by
  refine ⟨.p (.v _ rfl),.p (.v _ rfl),?_⟩
  induction m with
  | zero=>trivial
  | succ m ih=>simp only [List.replicate_succ];exact ⟨.p (.v _ rfl),ih⟩
 have hrows:RowsR F O [hdC ag m 0] [.agg (.v (.int .i64 0) :: .v (.bool ag)::List.replicate m (.v (.bool false)))]:=⟨⟨_,rfl,hcr⟩,trivial⟩
 refine ⟨F,O++[⟨w.heap.size,0,0,m+2⟩],?_,h.pushG (w1:=w) (cs:=wW ag m 0 #[]) (o:=.map #[] 0) (Below.refl _ w) rfl (.inr ⟨rfl,.inl ⟨#[],0,ag,m,rfl,rfl,rfl,rfl,fun x hx=>by simp at hx⟩⟩) (Nat.zero_le _) (fun e=>absurd rfl e) (fun e=>absurd rfl e) (fun y hy=>?_) (fun y hy a ha=>?_) (fun n j y u hy hu=>?_),Fz.le_refl F,Ow.le_push O _⟩
 ·exact .mp _ H.length 0 ⟨w.heap.size,0,0,m+2⟩ (by rw [<- h.len];simp) (Nat.le_refl _) rfl fun _=>rfl
 ·simp only [List.mem_singleton] at hy;subst hy;simp [AV.cells]
 ·simp only [List.mem_singleton] at hy; subst hy
  simp only [AV.cells,List.mem_cons,List.mem_replicate] at ha
  rcases ha with rfl|rfl|⟨_,rfl⟩<;>rfl
 ·obtain ⟨c,g1,g2⟩:=hrows.cells (K:=m+2) (fun c hc=>by simp only [List.mem_singleton] at hc;subst hc;simp [hdC]) n j y u hy hu
  refine ⟨c,?_,g2⟩
  have:(wW ag m 0 #[]).toList=[hdC ag m 0].flatten:=by rw [wo];rfl
  rw [<- this] at g1
  simpa using g1
theorem rgm_run (h : Own B w0 F0 F O H w) {x : Value} {xa r : AV} {H' : Hp} (hx : VR F O x xa) {t kt et : TypeId} (ht : P.underlying t = some (.map kt et)) (hr : rgmA H xa = some (r, H')) :
  ∃ u w',(Instr.range t x).run P w = .ok u w'/\Out B w0 F0 F O r H' u w':=by
 unfold rgmA at hr
 split at hr
 ·rename_i i g
  split at hr
  ·rename_i ob hl
   split at hr
   ·rename_i c ag rr es hrd
    cases hr
    obtain ⟨ds,h1,h2,r',rfl,he,hk2⟩:=h.mp hx hl
    obtain ⟨ents,clock,q1,rfl,_⟩:=r'.ents he hk2 hrd
    have hcl:CellsR F O (yt ds.b clock #[] clock).toList [.mp i g,.v (.int .i64 (clock:Int)),.v (.int .i64 (clock:Int))]:=⟨hx,.p (.v _ rfl),.p (.v _ rfl),trivial⟩
    refine ⟨_,w.alloc (.mapIter (some ds.b) clock #[] clock),by simp [Instr.range,run_underlying ht,MapKept.run_getObj_map q1,newObj,Sem.run];rfl,F,O++[⟨w.heap.size,3,0,1⟩],?_,h.pushG (w1:=w) (cs:=yt ds.b clock #[] clock) (o:=.mapIter (some ds.b) clock #[] clock) (Below.refl _ w) rfl (.inr ⟨rfl,.inr (.inl ⟨rfl,ds.b,clock,#[],clock,rfl,rfl,rfl⟩)⟩) (by unfold maxLen;omega) (fun e=>absurd rfl e) (fun e=>absurd rfl e) (fun y hy=>?_) (fun y hy a ha=>?_) (fun n j y u hy hu=>?_),Fz.le_refl F,Ow.le_push O _⟩
    ·refine .oa _ H.length 0 0 0 ⟨w.heap.size,3,0,1⟩ (by rw [<- h.len];simp) (Nat.le_refl _) rfl fun _=>rfl
    ·simp at hy;rcases hy with rfl|rfl<;>rfl
    ·simp at hy;rcases hy with rfl|rfl<;>(simp [AV.cells] at ha;subst ha;rfl)
    ·have hcy : y.cells = [y] := by
      have hm:=List.mem_of_getElem? hy
      simp at hm;rcases hm with rfl|rfl<;>rfl
     rw [hcy] at hu
     cases j with
     | zero =>
      simp at hu;subst hu
      obtain ⟨c,p1,p2⟩:=hcl.at n y hy
      exact ⟨c,by simpa using p1,p2⟩
     | succ j=>simp at hu
   ·cases hr
  ·cases hr
 ·cases hr
theorem seenA_ok:∀ {L:List Nat} {sl:List AV} {q:List Int},CellsR F O (L.map fun (s:Nat)=>Value.int .i64 (s:Int)) sl->wO sl=some q->q=L.map (fun (s:Nat)=>(s:Int))/\∀ e ∈ sl,∃ s,e = .v (.int .i64 s)
 | [],[],q,_,h=>by cases h;exact ⟨rfl,fun e h=>by simp at h⟩
 | [],_::_,_,h,_=>h.elim
 | _::_,[],_,h,_=>h.elim
 | s::L,a::sl,q,h,hq=>by
  unfold wO at hq
  split at hq
  ·rename_i h0;cases h0
  ·rename_i s' l heq
   cases heq
   split at hq
   ·rename_i l' hl'
    cases hq
    obtain ⟨e1,e2⟩:=seenA_ok h.2 hl'
    have:=Yq h.1
    subst this
    exact ⟨by rw [e1];rfl,fun e he=>by
     rcases List.mem_cons.1 he with rfl|he
     ·exact ⟨_,rfl⟩
     ·exact e2 e he⟩
   ·cases hq
  ·cases hq
theorem nxE_ok {ag : Bool} {m : Nat} {since : Int} {seen : List Int} : ∀ {l : List MapEntry} {es : List AV} {L : List (AV × AV × Int)}, yf F O l es -> (∀ y ∈ l, xi ag m y.val) -> (∀ e ∈ es, ∀ a ∈ e.cells, AV.one a = true) -> nxE ag since seen es = some L ->
  (∀ x ∈ l,(x.born:Int) < since)/\(∀ x ∈ l,seen.contains (x.born:Int)=false->∃ p ∈ L,p.2.2=(x.born:Int)/\VR F O x.key p.1/\VR F O x.val p.2.1)/\(L ≠ []->∃ x ∈ l,seen.contains (x.born:Int)=false)
 | [],[],L,_,_,_,h=>by cases h;exact ⟨fun x h=>by simp at h,fun x h=>by simp at h,fun h=>absurd rfl h⟩
 | [],_::_,_,h,_,_,_=>h.elim
 | _::_,[],_,h,_,_,_=>h.elim
 | y::l,e0::es,L,h,hv,h1,hr=>by
  obtain ⟨⟨cs,rfl,hcs⟩,h3⟩:=h
  cases cs with
  | nil=>exact hcs.elim
  | cons ka rs =>
   simp only [nxE] at hr
   split at hr
   ·rename_i vs s l' hu hl'
    obtain ⟨a1,a2,a3⟩:=nxE_ok h3 (fun y hy=>hv y (by simp [hy])) (fun e he=>h1 e (by simp [he])) hl'
    obtain ⟨p1,p2,p3⟩:=XU hcs hu
    have hs:=Yq p3
    subst hs
    split at hr
    ·rename_i hlt
     have b1:∀ x ∈ y::l,(x.born:Int) < since:=fun x hx=>by
      rcases List.mem_cons.1 hx with rfl|hx
      ·exact hlt
      ·exact a1 x hx
     split at hr
     ·rename_i hsn
      cases hr
      refine ⟨b1,fun x hx hn=>?_,fun hne=>?_⟩
      ·rcases List.mem_cons.1 hx with rfl | hx
       ·rw [hsn] at hn;cases hn
       ·exact a2 x hx hn
      ·obtain ⟨x, hx, hn⟩ := a3 hne
       exact ⟨x,by simp [hx],hn⟩
     ·rename_i hsn
      have hsn':seen.contains (y.born:Int)=false:=by simpa using hsn
      split at hr
      ·rename_i v hv'
       cases hr
       have hva:=Wn (hv y (by simp)) p2 (fun a ha=>h1 (.agg (ka::rs)) (by simp) a (by rw [Yk hu];simp [AV.cells,ha])) hv'
       refine ⟨b1,fun x hx hn=>?_,fun _=>⟨y,by simp,hsn'⟩⟩
       rcases List.mem_cons.1 hx with rfl|hx
       ·exact ⟨_,List.mem_cons_self ..,rfl,p1,hva⟩
       ·obtain ⟨p, q1, q2⟩ := a2 x hx hn
        exact ⟨p,by simp [q1],q2⟩
      ·cases hr
    ·cases hr
   ·cases hr
theorem fdE_ok {ag : Bool} {m : Nat} {s : Nat} : ∀ {l : List MapEntry} {es : List AV} {r : AV}, yf F O l es -> (∀ y ∈ l, xi ag m y.val) -> (∀ e ∈ es, ∀ a ∈ e.cells, AV.one a = true) -> fdE ag (s : Int) es = some r ->
  ∃ e,l.find? (fun x=>x.born == s)=some e/\VR F O (.tuple #[e.key,e.val]) r
 | [],[],r,_,_,_,h=>by cases h
 | [],_::_,_,h,_,_,_=>h.elim
 | _::_,[],_,h,_,_,_=>h.elim
 | y::l,e0::es,r,h,hv,h1,hr=>by
  obtain ⟨⟨cs,rfl,hcs⟩,h3⟩:=h
  cases cs with
  | nil=>exact hcs.elim
  | cons ka rs =>
   simp only [fdE] at hr
   split at hr
   ·rename_i vs s' hu
    obtain ⟨p1,p2,p3⟩:=XU hcs hu
    have hs:=Yq p3
    subst hs
    split at hr
    ·rename_i he
     split at hr
     ·rename_i v hv'
      cases hr
      have hva:=Wn (hv y (by simp)) p2 (fun a ha=>h1 (.agg (ka::rs)) (by simp) a (by rw [Yk hu];simp [AV.cells,ha])) hv'
      have:y.born=s:=by omega
      exact ⟨y,by simp [this],p1.tup2 hva⟩
     ·cases hr
    ·rename_i he
     obtain ⟨e,g1,g2⟩:=fdE_ok h3 (fun y hy=>hv y (by simp [hy])) (fun e he=>h1 e (by simp [he])) hr
     have:(y.born == s)=false:=by simp;omega
     exact ⟨e,by rw [List.find?_cons,this];exact g1,g2⟩
   ·cases hr
theorem Row.iter {d:Ds} {ob:OB} (r:Row B F O w d ob) (he:ob.e=ZM) (hk:ob.k=1):∃ b since seen last,w.heap[d.b]? = some (.mapIter (some b) since seen last)/\ob.es.length=seen.size+3/\∀ (n:Nat) (e:AV),ob.es[n]? = some e->e.cells=[e]->∃ c,(yt b since seen last).toList[n]? = some c/\VR F O c e:=by
 obtain ⟨cur,o1,_,o3⟩:=r.cur
 rcases o1 with ⟨ne,_⟩|⟨_,⟨_,_,_,m,k2,_⟩|⟨_,b,since,seen,last,o1,oc,on⟩|⟨k0,_⟩⟩
 ·exact absurd he ne
 ·omega
 rotate_left
 ·omega
 refine ⟨b,since,seen,last,o1,on.symm,fun n e hn hc=>?_⟩
 obtain ⟨c,c1,c2⟩:=o3 n 0 e e hn (by rw [hc];rfl)
 rw [hk,oc] at c1
 exact ⟨c,by simpa using c1,c2⟩
theorem nxm_run (h : Own B w0 F0 F O H w) {x : Value} {xa : AV} {L : List (AV × Hp)} (hx : VR F O x xa) (ty : TypeId) (hr : nxmA H xa = some L) :
  ∃ u w' p,p ∈ L/\(Instr.next x false ty).run P w = .ok u w'/\Out B w0 F0 F O p.1 p.2 u w':=by
 unfold nxmA at hr
 split at hr
 ·rename_i i g
  split at hr
  ·rename_i ob hi
   split at hr
   ·rename_i hc
    obtain ⟨hg,he,hk,hfz⟩:=hc
    split at hr
    ·rename_i j g' since last sl hes
     split at hr
     ·rename_i ob2 seen hl hsn
      split at hr
      ·rename_i c ag rr es hrd
       split at hr
       ·rename_i hsl
        obtain ⟨d,hd,r1⟩:=h.get hi
        obtain ⟨b,since',seen',last',o1,o2,o3⟩:=r1.iter he hk
        rw [hes] at o2 o3
        have hc0:∃ c,(yt b since' seen' last').toList[0]? = some c/\VR F O c (.mp j g'):=o3 0 _ rfl rfl
        obtain ⟨c0,c1,c2⟩:=hc0
        have hcm:c0 = .map (some b):=by simpa [yt] using c1.symm
        subst hcm
        obtain ⟨c1',c3,c4⟩:=o3 1 _ rfl rfl
        have e1:c1' = .int .i64 (since':Int):=by simpa [yt] using c3.symm
        subst e1
        have hsince:=Yq c4
        subst hsince
        obtain ⟨c2',c5,c6⟩:=o3 2 _ rfl rfl
        have e2:c2' = .int .i64 (last':Int):=by simpa [yt] using c5.symm
        subst e2
        have hlast:=Yq c6
        subst hlast
        have hslall:∀ e ∈ sl,∃ s,e = .v (.int .i64 s):=by
         have go:∀ {l:List AV} {q:List Int},wO l=some q->∀ e ∈ l,∃ s,e = .v (.int .i64 s):=by
          intro l
          induction l with
          | nil=>intro q _ e he;simp at he
          | cons a l ih =>
           intro q hq e he
           unfold wO at hq
           split at hq
           ·rename_i h0;cases h0
           ·rename_i s' l2 heq
            cases heq
            split at hq
            ·rename_i l' hl'
             rcases List.mem_cons.1 he with rfl|he
             ·exact ⟨_,rfl⟩
             ·exact ih hl' e he
            ·cases hq
           ·cases hq
         exact go hsn
        have hcs:CellsR F O (seen'.toList.map fun (s:Nat)=>Value.int .i64 (s:Int)) sl:=by
         refine CellsR.of (by simp at o2;simp;omega) fun n a ha=>?_
         obtain ⟨s,rfl⟩:=hslall a (List.mem_of_getElem? ha)
         obtain ⟨c,p1,p2⟩:=o3 (n+3) _ (by simpa using ha) rfl
         exact ⟨c,by simpa [yt] using p1,p2⟩
        obtain ⟨hseen,_⟩:=seenA_ok hcs hsn
        subst hseen
        obtain ⟨ds,h1,h2,r',hm,he2,hk2⟩:=h.mp c2 hl
        injection hm with hm
        injection hm with hm
        subst hm
        obtain ⟨ents,clock,q1,rfl,q5,q3,q2,_⟩:=r'.ents he2 hk2 hrd
        have hxe:x = .pointer (some ⟨d.b,0,none⟩):=by
         cases hx with
         | p h=>cases h
         | oa _ _ _ _ _ d' hd' hg' h1' hh =>
          rw [hd] at hd'
          cases hd'
          have:=hh (by rw [r1.hg,hg])
          simpa using this
        subst hxe
        have hcont:∀ s:Nat,(seen'.toList.map fun (s:Nat)=>(s:Int)).contains (s:Int)=seen'.contains s:=fun s=>by
         rw [Bool.eq_iff_iff]
         simp
         constructor
         ·rintro ⟨a, ha, e⟩; have : a = s := by omega
          subst this;exact ha
         ·intro hs;exact ⟨s,hs,rfl⟩
        have main : ∀ {L' : List (AV × AV × Int)}, nxE ag (since' : Int) (seen'.toList.map fun (s : Nat) => (s : Int)) es = some L' -> (∀ p ∈ L', (.tup [.v (.bool true), p.1, p.2.1], H.set i { ob with es := .mp j g' :: .v (.int .i64 (since' : Int)) :: .v (.int .i64 (clock : Int)) :: (sl ++ [.v (.int .i64 p.2.2)]) }) ∈ L) -> (L' = [] -> (.tup [.v (.bool false)], H) ∈ L) ->
          ∃ u w' p,p ∈ L/\(Instr.next (.pointer (some ⟨d.b,0,none⟩)) false ty).run P w = .ok u w'/\Out B w0 F0 F O p.1 p.2 u w':=fun {L'} hn hL1 hL2=>by
         obtain ⟨n1,n2,n3⟩:=nxE_ok q2 q3 (r'.one hrd).1 hn
         rcases run_next_at (P:=P) w ty d.b ds.b since' last' seen' ents clock o1 q1 (fun x hx=>by have:=n1 x hx;omega) (by omega) with ⟨g1,g2⟩|⟨e,g1,w1,g2,g3⟩
         ·have hnil : L' = [] := by
           cases hL':L' with
           | nil=>rfl
           | cons a t =>
            obtain ⟨y,hy,hyn⟩:=n3 (by rw [hL'];simp)
            rw [hcont] at hyn
            have:y ∈ leftOf ents seen':=by
             unfold leftOf
             rw [Array.mem_filter]
             exact ⟨by simpa using hy,by rw [hyn];rfl⟩
            have h0:leftOf ents seen' = #[]:=Array.eq_empty_of_size_eq_zero g1
            rw [h0] at this
            simp at this
          refine ⟨_,_,_,hL2 hnil,g2,?_⟩
          refine Out.same h ?_
          exact VR.tup [.bool false] [.v (.bool false)] rfl fun i c a hc ha=>by
           match i,hc,ha with
           | 0,hc,ha=>cases hc;cases ha;exact .p (.v _ rfl)
         ·have hmem : e ∈ ents.toList /\ seen'.contains e.born = false := by
           unfold leftOf at g1
           simp only [Array.mem_toList_iff,Array.mem_filter] at g1
           exact ⟨by simpa using g1.1,by simpa using g1.2⟩
          obtain ⟨p,p1,p2,p3,p4⟩:=n2 e hmem.1 (by rw [hcont];exact hmem.2)
          refine ⟨_,_,_,hL1 p p1,g3,?_⟩
          have hbw:Below w.heap.size w w1:=by
           rcases g2 with rfl|rfl
           ·exact Below.refl _ _
           ·exact (Below.refl _ _).drew
          have hw1:=h.keep hbw
          have hheap:w1.heap=w.heap:=by rcases g2 with rfl|rfl<;>rfl
          have r1':=hw1.row i d ob hd hi
          have hlt:=r1'.lt
          have hcl:CellsR F O (yt ds.b since' (seen'.push e.born) clock).toList (.mp j g' :: .v (.int .i64 (since':Int)) :: .v (.int .i64 (clock:Int))::(sl++[.v (.int .i64 p.2.2)])):=by
           have e3:(yt ds.b since' (seen'.push e.born) clock).toList = .map (some ds.b) :: .int .i64 (since':Int) :: .int .i64 (clock:Int)::((seen'.toList.map fun (s:Nat)=>Value.int .i64 (s:Int))++[.int .i64 (e.born:Int)]):=by simp [yt]
           rw [e3,p2]
           exact ⟨c2,.p (.v _ rfl),.p (.v _ rfl),hcs.app ⟨.p (.v _ rfl),trivial⟩⟩
          have hall:∀ y ∈ (.mp j g' :: .v (.int .i64 (since':Int)) :: .v (.int .i64 (clock:Int))::(sl++[.v (.int .i64 p.2.2)]):List AV),y.cells=[y]/\y.one=true:=fun y hy=>by
           simp only [List.mem_cons,List.mem_append,List.mem_singleton,List.not_mem_nil,or_false] at hy
           rcases hy with rfl|rfl|rfl|hy|rfl
           ·exact ⟨rfl,rfl⟩
           ·exact ⟨rfl,rfl⟩
           ·exact ⟨rfl,rfl⟩
           ·obtain ⟨s,rfl⟩:=hslall y hy;exact ⟨rfl,rfl⟩
           ·exact ⟨rfl,rfl⟩
          obtain ⟨a1,a2⟩:=hw1.writeG (w':=ChangeMaps.setBlock w1 d.b (.mapIter (some ds.b) since' (seen'.push e.born) clock)) (new:=yt ds.b since' (seen'.push e.born) clock) (g':=ob.g) (es':=.mp j g' :: .v (.int .i64 (since':Int)) :: .v (.int .i64 (clock:Int))::(sl++[.v (.int .i64 p.2.2)])) hi hd
           (fun b hb=>by simp only [ChangeMaps.setBlock];rw [Array.getElem?_setIfInBounds_ne (fun e=>hb e.symm)])
           (hw1.below.trans ⟨rfl,rfl,rfl,by simp [ChangeMaps.setBlock],fun k hk=>by simp only [ChangeMaps.setBlock];rw [Array.getElem?_setIfInBounds_ne (fun e=>by have:=r1'.hB.1;omega)]⟩)
           (by simpa [ChangeMaps.setBlock] using hw1.size)
           (.inr ⟨he,.inr (.inl ⟨hk,ds.b,since',seen'.push e.born,clock,by simp only [ChangeMaps.setBlock];rw [Array.getElem?_setIfInBounds_self_of_lt hlt],rfl,by simp at o2;simp;omega⟩)⟩)
           (Nat.le_refl _) (fun ne=>absurd he ne) (fun ne=>absurd he ne) (fun y hy=>by rw [(hall y hy).1,hk];rfl) (fun y hy a ha=>by rw [(hall y hy).1] at ha;simp at ha;subst ha;exact (hall _ hy).2) (by omega)
           (fun n jj y a hy ha=>by
            have hcy:=(hall y (List.mem_of_getElem? hy)).1
            rw [hcy] at ha
            cases jj with
            | zero =>
             simp at ha;subst ha
             obtain ⟨cc,z1,z2⟩:=hcl.at n y hy
             exact ⟨cc,by rw [hk];simpa using z1,z2⟩
            | succ jj=>simp at ha)
           (fun o v hv=>by
            have:=r1'.hf o v hv
            rw [hfz] at this
            omega)
          exact ⟨F,_,(VR.tup3 (.p (.v _ rfl)) p3 p4).mono (Fz.le_refl F) a2,a1,Fz.le_refl F,a2⟩
        split at hr
        ·rename_i hn
         cases hr
         exact main hn (fun p hp=>by simp at hp) (fun _=>by simp)
        ·rename_i L' hne hn
         cases hr
         exact main hn (fun p hp=>List.mem_map.2 ⟨p,hp,rfl⟩) (fun hh=>absurd hh (by rintro rfl;exact hne rfl))
        ·cases hr
       ·cases hr
      ·cases hr
     ·cases hr
    ·cases hr
   ·cases hr
  ·cases hr
 ·cases hr
theorem ent_run (h:Own B w0 F0 F O H w) {x:Value} {xa r:AV} (hx:VR F O x xa) (hr:entA H xa=some r):∃ u,(Instr.entry x).run P w = .ok u w/\VR F O u r:=by
 unfold entA at hr
 split at hr
 ·rename_i i g
  split at hr
  ·rename_i ob hi
   split at hr
   ·rename_i hc
    obtain ⟨hg,he,hk⟩:=hc
    split at hr
    ·rename_i j g' a1 last sl hes
     split at hr
     ·rename_i ob2 sl' s hl hsn
      split at hr
      ·rename_i c ag rr es hrd
       split at hr
       ·rename_i hcl
        subst hcl
        obtain ⟨d,hd,r1⟩:=h.get hi
        obtain ⟨b,since',seen',last',o1,o2,o3⟩:=r1.iter he hk
        rw [hes] at o2 o3
        obtain ⟨c0,c1,c2⟩:=o3 0 _ rfl rfl
        have hcm:c0 = .map (some b):=by simpa [yt] using c1.symm
        subst hcm
        obtain ⟨c2',c5,c6⟩:=o3 2 _ rfl rfl
        have e2:c2' = .int .i64 (last':Int):=by simpa [yt] using c5.symm
        subst e2
        have hlast:=Yq c6
        subst hlast
        have hsl:=Yk hsn
        have hlen:sl'.length+1=seen'.size:=by rw [hsl] at o2;simp at o2;omega
        obtain ⟨c3',c7,c8⟩:=o3 (sl'.length+3) (.v (.int .i64 s)) (by rw [hsl];simp) rfl
        obtain ⟨st,hst⟩:∃ st,seen'[sl'.length]? = some st:=⟨seen'[sl'.length]'(by omega),by rw [Array.getElem?_eq_getElem]⟩
        have e3:c3' = .int .i64 (st:Int):=by
         have:(yt b since' seen' last').toList[sl'.length+3]? = some (.int .i64 (st:Int)):=by simp [yt,hst]
         rw [this] at c7;cases c7;rfl
        subst e3
        have hs:=Yq c8
        subst hs
        have hback:seen'.back? = some st:=by rw [Array.back?_eq_getElem?,show seen'.size - 1=sl'.length by omega];exact hst
        obtain ⟨ds,h1,h2,r',hm,he2,hk2⟩:=h.mp c2 hl
        injection hm with hm
        injection hm with hm
        subst hm
        obtain ⟨ents,clock,q1,q6,q5,q3,q2,_⟩:=r'.ents he2 hk2 hrd
        have hcl2:last'=clock:=by omega
        subst hcl2
        obtain ⟨e,g1,g2⟩:=fdE_ok q2 q3 (r'.one hrd).1 hr
        have hxe:x = .pointer (some ⟨d.b,0,none⟩):=by
         cases hx with
         | p h=>cases h
         | oa _ _ _ _ _ d' hd' hg' h1' hh =>
          rw [hd] at hd'
          cases hd'
          have:=hh (by rw [r1.hg,hg])
          simpa using this
        subst hxe
        refine ⟨_,?_,g2⟩
        have hf:ents.find? (fun x=>x.born == st)=some e:=by rw [<- Array.find?_toList];exact g1
        simp only [Instr.entry,getObj,Sem.run_bind,Sem.run,o1,q1,Result.andThen,hback,bne_self_eq_false,Bool.false_eq_true,if_false,hf]
        rfl
       ·cases hr
      ·cases hr
     ·cases hr
    ·cases hr
   ·cases hr
  ·cases hr
 ·cases hr
theorem mup_run (h : Own B w0 F0 F O H w) {x y z : Value} {xa ka va : AV} (hx : VR F O x xa) (hy : VR F O y ka) (hz : VR F O z va) {t kt et : TypeId} {kd : Kd} (ht : P.underlying t = some (.map kt et)) (hk : Z8 P kt = some kd) {H' : Hp} (hr : mupA H kd xa ka va = some H') :
  ∃ w' F' O',(Instr.mapUpdate t x y z).run P w = .ok () w'/\Own B w0 F0 F' O' H' w'/\F.le F'/\O.le O':=by
 obtain ⟨d,hu,hd⟩:=Xm hk
 unfold mupA at hr
 split at hr
 ·rename_i i g
  split at hr
  ·rename_i ob hl
   split at hr
   ·rename_i hcond
    obtain ⟨hfz,hik,hone⟩:=hcond
    split at hr
    ·rename_i es' hup
     cases hr
     obtain ⟨ds,h1,h2,r',rfl,he,hk2⟩:=h.mp hx hl
     have hkone:ka.one=true:=by
      cases ka with
      | v x=>rfl
      | _=>simp [isKey] at hik
     unfold upA at hup
     split at hup
     ·rename_i c ag rr es hrd
      obtain ⟨ents,clock,q1,rfl,q5,q3,q2,q6⟩:=r'.ents he hk2 hrd
      obtain ⟨ho1,ho2⟩:=r'.one hrd
      split at hup
      ·rename_i vs hvs
       obtain ⟨v1,v2,v3⟩:=valC_ok hz hone hvs
       split at hup
       ·rename_i hvl
        rw [hvl] at v1
        split at hup
        ·rename_i es2 hov
         cases hup
         rcases XQ hd hy v2 0 q2 hov with ⟨e,_⟩|⟨j,e,es3,e3,g1,g2,g3,g4⟩
         ·cases e
         ·cases e3
          have hE:=g4 (fun e=>{ e with key:=y,val:=z }) rfl rfl rfl
          obtain ⟨O', a1, a2⟩ := h.setMap (ents' := ents.modify j fun e => { e with key := y, val := z }) (clock' := clock) h2 h1 he hfz q5 q6 (fun a ha => by
            simp only [List.mem_cons] at ha
            rcases ha with rfl|rfl|ha
            ·rfl
            ·rfl
            ·exact ho2 a ha) (by simpa using hE) (fun x hx=>by
            obtain ⟨n,hn⟩:=List.getElem?_of_mem hx
            rw [Array.getElem?_toList,Array.getElem?_modify] at hn
            split at hn
            ·obtain ⟨x0, hx0, rfl⟩ := Option.map_eq_some_iff.1 hn
             exact v1
            ·exact q3 x (List.mem_of_getElem? (by rw [Array.getElem?_toList];exact hn))) (ov_one hkone v3 hov ho1)
          refine ⟨_,F,O',?_,a1,Fz.le_refl F,a2⟩
          have g2':ents[j]? = some e:=by simpa using g2
          simp [Instr.mapUpdate,run_underlying ht,MapKept.run_getObj_map q1,yj hu hd,yK hu g1,MapKept.run_setObj_map _ q1,Instr.keyThatStays,g2',g3]
        ·rename_i hov
         cases hup
         rcases XQ hd hy v2 0 q2 hov with ⟨_,g1⟩|⟨j,e,es3,e3,_⟩
         ·have hent : yf F O [⟨y, z, clock⟩] [.agg (ka :: (vs ++ [.v (.int .i64 (clock : Int))]))] := ⟨⟨_, rfl, hy, v2.app ⟨.p (.v _ rfl), trivial⟩⟩, trivial⟩
          have hE:yf F O (ents.push ⟨y,z,clock⟩).toList (es++[.agg (ka::(vs++[.v (.int .i64 (clock:Int))]))]):=by
           have:=RowsR.app q2 hent
           simpa [yf] using this
          obtain ⟨O', a1, a2⟩ := h.setMap (ents' := ents.push ⟨y, z, clock⟩) (clock' := clock + 1) (hcs := .v (.int .i64 ((clock : Int) + 1)) :: .v (.bool ag) :: rr) h2 h1 he hfz q5 (ag := ag) ⟨by
            have:((clock+1:Nat):Int)=(clock:Int)+1:=by omega
            rw [this];exact .p (.v _ rfl),q6.2⟩ (fun a ha=>by
            simp only [List.mem_cons] at ha
            rcases ha with rfl|rfl|ha
            ·rfl
            ·rfl
            ·exact ho2 a ha) hE (fun x hx=>by
            simp at hx
            rcases hx with hx|rfl
            ·exact q3 x (by simpa using hx)
            ·exact v1) (fun e he' a ha=>by
            rcases List.mem_append.1 he' with he'|he'
            ·exact ho1 e he' a ha
            ·simp only [List.mem_singleton] at he'
             subst he'
             simp only [AV.cells,List.mem_cons,List.mem_append,List.mem_singleton,List.not_mem_nil,or_false] at ha
             rcases ha with rfl|ha|rfl
             ·exact hkone
             ·exact v3 a ha
             ·rfl)
          refine ⟨_,F,O',?_,a1,Fz.le_refl F,a2⟩
          simp [Instr.mapUpdate,run_underlying ht,MapKept.run_getObj_map q1,yj hu hd,yK hu g1,MapKept.run_setObj_map _ q1]
         ·cases e3
        ·cases hup
       ·cases hup
      ·cases hup
     ·cases hup
    ·cases hr
   ·cases hr
  ·cases hr
 ·cases hr
theorem mdl_run (h : Own B w0 F0 F O H w) {x y : Value} {xa ka : AV} (hx : VR F O x xa) (hy : VR F O y ka) {t kt et kt' ty : TypeId} {kd : Kd} (ht : P.underlying t = some (.map kt et)) (hk : Z8 P kt = some kd) {H' : Hp} (hr : mdlA H kd xa ka = some H') :
  ∃ w' F' O',(Builtin.delete_ #[t,kt'] ty #[x,y]).run P w = .ok (.tuple #[]) w'/\Own B w0 F0 F' O' H' w'/\F.le F'/\O.le O':=by
 obtain ⟨d,hu,hd⟩:=Xm hk
 unfold mdlA at hr
 split at hr
 ·rename_i i g
  split at hr
  ·rename_i ob hl
   split at hr
   ·rename_i hfz
    split at hr
    ·rename_i hdv es hes
     split at hr
     ·rename_i es' hdl
      cases hr
      obtain ⟨ds,h1,h2,r',rfl,he,hk2⟩:=h.mp hx hl
      obtain ⟨ents,clock,ag,m,hd',es2,q1,q2,q3,q4,⟨cs,q5,q6⟩,q7⟩:=r'.ents0 he hk2
      rw [hes] at q4
      cases q4
      subst q5
      have ho:∀ e ∈ AV.agg cs::es,∀ a ∈ e.cells,AV.one a=true:=by have:=r'.h1;rw [hes] at this;exact this
      obtain ⟨a1,a2⟩:=dl_find hd hy 0 q7 hdl
      have fin:∀ ents':Array MapEntry,yf F O ents'.toList es'->(∀ x ∈ ents'.toList,x ∈ ents.toList)->∃ O',Own B w0 F0 F O' (H.set i { ob with es:=.agg cs::es' }) { w with heap:=w.heap.setIfInBounds ds.b (.map ents' clock) }/\O.le O':=fun ents' hE hsub =>
       h.setMap h2 h1 he hfz q2 q6 (fun a ha=>ho (.agg cs) (by simp) a ha) hE (fun x hx=>q3 x (hsub x hx)) (fun e he'=>ho e (by simp [a2 e he']))
      rcases a1 with ⟨rfl,g1⟩|⟨j,v,g1,g2⟩
      ·obtain ⟨O',b1,b2⟩:=fin ents q7 (fun x h=>h)
       refine ⟨_,F,O',?_,b1,Fz.le_refl F,b2⟩
       simp [Builtin.delete_,run_underlying ht,MapKept.run_getObj_map q1,yj hu hd,yK hu g1,MapKept.run_setObj_map _ q1]
      ·obtain ⟨O', b1, b2⟩ := fin (ents.eraseIdxIfInBounds j) (by simpa [Array.toList_eraseIdxIfInBounds] using g2) (fun x hx => by
        rw [Array.toList_eraseIdxIfInBounds] at hx
        exact List.mem_of_mem_eraseIdx hx)
       refine ⟨_,F,O',?_,b1,Fz.le_refl F,b2⟩
       simp [Builtin.delete_,run_underlying ht,MapKept.run_getObj_map q1,yj hu hd,yK hu g1,MapKept.run_setObj_map _ q1]
     ·cases hr
    ·cases hr
   ·cases hr
  ·cases hr
 ·cases hr
end
section
variable {P:Program} {B:Bd} {w0 w:World} {F0 F:Fz} {O:Ow} {H:Hp}
set_option maxHeartbeats 1000000 in
theorem op_ok {hs : List FuncId} {o : Oper} {op : AOp} (hc : zZ P hs o = some op) {ρ : Operand -> Value} {ev : AX -> AV} (hρ : ∀ (ty : TypeId) (x : Operand) (ax : AX), cx P ty x = some ax -> VR F O (ρ x) (ev ax))
  (hcv:∀ a,ev (.c a)=a) (h:Own B w0 F0 F O H w) {r:AV} {H':Hp} (he:eff P ev H op=some (r,H')):Good P B w0 F0 F O w (execOp ρ o) r H':=by
 obtain ⟨dst,op',type,pos,after,guard⟩:=o
 cases op' with
 | move x =>
  simp only [zZ] at hc
  split at hc
  ·rename_i a ha
   cases hc
   cases he
   exact ⟨.value (ρ x),w,rfl,ρ x,.inl rfl,Out.same h (hρ _ _ _ ha)⟩
  ·cases hc
 | assign x =>
  simp only [zZ] at hc
  split at hc
  ·rename_i a ha
   cases hc
   cases he
   exact ⟨.value (ρ x),w,rfl,ρ x,.inl rfl,Out.same h (hρ _ _ _ ha)⟩
  ·cases hc
 | pick c a b =>
  simp only [zZ] at hc
  split at hc
  ·rename_i c' a' b' h1 h2 h3
   cases hc
   simp only [eff] at he
   split at he
   ·rename_i bb hbb
    cases he
    have hcv:=(hρ _ _ _ h1).pvC (by rw [hbb];rfl)
    rw [hbb] at hcv
    have hce:ρ c = .bool bb:=by
     generalize ρ c=q at hcv
     cases hcv;rfl
    refine ⟨.value (if bb then ρ a else ρ b),w,by simp [execOp,asBool,hce],_,.inl rfl,Out.same h ?_⟩
    cases bb
    ·exact hρ _ _ _ h3
    ·exact hρ _ _ _ h2
   ·cases he
  ·cases hc
 | alloc e =>
  simp only [zZ] at hc
  split at hc
  ·rename_i i hi
   obtain ⟨hne,hi⟩:=yu hi
   split at hc
   ·rename_i z hz
    split at hc
    ·rename_i a ha
     cases hc
     simp only [eff,AX.ev] at he
     have hav:=yR ha F O
     have hev:VR F O z (ev (.c a)):=by rw [hcv];exact hav.1
     split at he
     ·rename_i hcond
      cases he
      exact ⟨_,_,by simp only [execOp,Instr.alloc,Sem.run_bind,y4 hi hz,Result.andThen_ok,newVar,newRow,newObj];rfl,_,.inl rfl,new_run h hne hev hcond.1 hcond.2⟩
     ·cases he
    ·cases hc
   ·cases hc
  ·cases hc
 | box e x =>
  simp only [zZ] at hc
  split at hc
  ·rename_i i a hi ha
   obtain ⟨hne,hi⟩:=yu hi
   cases hc
   simp only [eff] at he
   split at he
   ·rename_i hcond
    cases he
    exact ⟨_,_,by simp only [execOp,Instr.box,Sem.run_bind,Result.andThen_ok,newVar,newRow,newObj];rfl,_,.inl rfl,new_run h hne (hρ _ _ _ ha) hcond.1 hcond.2⟩
   ·cases he
  ·cases hc
 | build t parts =>
  simp only [zZ] at hc
  split at hc
  ·rename_i fs i ht hi
   split at hc
   ·rename_i z hz
    split at hc
    ·rename_i zc qs pl hzc hqs hpl
     cases hc
     simp only [eff] at he
     cases hfl:zx zc (qs.map fun p=>(p.1,p.2.1,ev p.2.2)) with
     | none=>simp [hfl] at he
     | some cs' =>
      simp [hfl] at he
      obtain ⟨rfl,rfl⟩:=he
      obtain ⟨l1,r1⟩:=parts_ok (F:=F) (O:=O) hρ hpl hqs
      obtain ⟨zv,_⟩:=yR hzc F O
      obtain ⟨zs,rfl,zl,z1,z2⟩:∃ zs:List Value,z = .agg zs.toArray/\zs.length=zc.length/\(∀ a ∈ zc,AV.one a=true)/\∀ (i:Nat) (c:Value) (a:AV),zs[i]? = some c->zc[i]? = some a->VR F O c a:=by
       cases zv with
       | p h=>cases h with
        | agg xs as_ hl h1 h=>exact ⟨xs,rfl,hl,h1,fun i c a hc ha=>.p (h i c a hc ha)⟩
       | agg xs as_ hl h1 h=>exact ⟨xs,rfl,hl,h1,h⟩
      obtain ⟨out,o1,o2,o3,o4⟩:=fill_ok (F:=F) (O:=O) (fun j=>pl[j]?) (parts.toList.map fun p=>(p.1,ρ p.2)) (qs.map fun p=>(p.1,p.2.1,ev p.2.2)) zs.toArray zc cs' (by simpa using l1) (fun j p q hp hq=>by
       rw [List.getElem?_map] at hp hq
       obtain ⟨p',hp',rfl⟩:=Option.map_eq_some_iff.1 hp
       obtain ⟨q',hq',rfl⟩:=Option.map_eq_some_iff.1 hq
       obtain ⟨g1,g2⟩:=r1 j p' q' hp' hq'
       exact ⟨by simpa using g1,g2⟩) (by simpa using zl) z1 (fun j c a hc ha=>z2 j c a (by simpa using hc) ha) hfl
      refine ⟨.value (.agg out),w,?_,.agg out,.inl rfl,Out.same h ?_⟩
      ·simp [execOp,Instr.build,run_underlying ht,typeInfo,zeroValue,hi,hz,Array.mapM_eq_mapM_toList,run_places w _ _ hpl,Value.cells,o1]
      ·have:=VR.agg (F:=F) (O:=O) out.toList cs' (by simpa using o2) o3 (fun j c a hc ha=>o4 j c a (by simpa using hc) ha)
       simpa using this
    ·cases hc
   ·cases hc
  ·cases hc
 | buildSlice t len parts =>
  simp only [zZ] at hc
  split at hc
  ·rename_i e ht
   split at hc
   ·rename_i i as_ hi hrow
    obtain ⟨hne,hi⟩:=yu hi
    split at hc
    ·rename_i z hz
     split at hc
     ·rename_i hlen
      cases hc
      simp only [eff] at he
      split at he
      ·rename_i hcond
       simp only [Bool.and_eq_true,List.all_eq_true,decide_eq_true_eq] at hcond
       obtain ⟨⟨hall,hbig⟩,hmx⟩:=hcond
       cases he
       obtain ⟨q1,q2,q3⟩:=row_ok (F:=F) (O:=O) hρ hrow
       have hlv:(parts.toList.map fun p=>ρ p.2).length=(as_.map ev).length:=by simpa using q2
       have hk:∀ a ∈ as_.map ev,a.cells.length=i.size/\a.fine=true:=fun a ha=>by simpa using hall a ha
       have hkv:∀ v ∈ parts.toList.map fun p=>ρ p.2,v.cells.size=i.size:=fun v hv=>by
        obtain ⟨j,hj,rfl⟩:=List.getElem_of_mem hv
        have hja:j < (as_.map ev).length:=by rw [<- hlv];exact hj
        have hm:=hk _ (List.getElem_mem hja)
        rw [((q3 j _ _ (List.getElem?_eq_getElem hj) (List.getElem?_eq_getElem hja)).cells (yn hm.2)).1]
        exact hm.1
       have hps:(parts.map fun (p:Nat × Operand)=>(p.1,ρ p.2)).toList=((parts.toList.map fun p=>ρ p.2).zipIdx 0).map fun p=>(p.2,p.1):=by
        rw [<- q1];simp
       have hlen2:(parts.toList.map fun p=>ρ p.2).length=len:=by rw [hlen];simp
       have hasl:as_.length=len:=by rw [<- q2,hlen];simp
       have hmax:as_.length<=maxLen:=Nat.le_trans hmx (by simp [maxLen])
       obtain ⟨cs,g1,g2,g3⟩:=bsl_go (P:=P) (w:=w) ht hi hz hkv (by rw [hlen2,<- hasl];exact hbig) hps
       have hrun:=bsl_run (e:=e) (k:=i.size) h hne hlv q3 hk (by simpa using hmax) (by rw [g2,hlv]) g3
       rw [hlen2] at g1
       rw [List.length_map,hasl] at hrun
       rw [hasl]
       exact ZH (s:=Instr.buildSlice t len (parts.map fun (p:Nat × Operand)=>(p.1,ρ p.2))) g1 hrun
      ·cases he
     ·cases hc
    ·cases hc
   ·cases hc
  ·cases hc
 | load t x =>
  simp only [zZ] at hc
  split at hc
  ·rename_i i d a hi hd ha
   cases hc
   obtain ⟨e1,rfl⟩:=zT he
   obtain ⟨y,g1,g2⟩:=load_run h (hρ _ _ _ ha) hi hd e1
   exact ZH (s:=Instr.loadAt t (ρ x)) g1 (Out.same h g2)
  ·cases hc
 | store t x v =>
  simp only [zZ] at hc
  split at hc
  ·rename_i i a b hi ha hb
   cases hc
   simp only [eff] at he
   cases hst:zi H i.size (ev a) (ev b) with
   | none=>simp [hst] at he
   | some H1 =>
    simp [hst] at he
    obtain ⟨rfl,rfl⟩:=he
    obtain ⟨w',F',O',g1,g2,g3,g4⟩:=store_run h (hρ _ _ _ ha) (hρ _ _ _ hb) hi hst
    exact ⟨.skip,w',by simp [execOp,g1],undef,.inr ⟨rfl,rfl⟩,F',O',.p (.tup [] [] rfl fun i c a hc=>by simp at hc),g2,g3,g4⟩
  ·cases hc
 | nilCheck x =>
  simp only [zZ] at hc
  split at hc
  ·rename_i a ha
   cases hc
   obtain ⟨e1,rfl⟩:=zT he
   obtain ⟨rfl,hx⟩:=nilB_ok h (hρ _ _ _ ha) e1
   have hv:=hρ _ _ _ ha
   rcases hx with ⟨ad,hx⟩|⟨nm,t,v,hx,hn⟩
   ·exact ⟨.value (ρ x),w,by simp [execOp,hx],_,.inl rfl,Out.same h hv⟩
   ·refine ⟨.value (ρ x), w, ?_, _, .inl rfl, Out.same h hv⟩
    simp [execOp,hx,run_nah hn,program,Sem.run,Sem.run_bind]
  ·cases hc
 | binOp op t x y u =>
  simp only [zZ] at hc
  split at hc
  ·rename_i a b ha hb
   split at hc
   ·rename_i ng ks hng hks
    cases hc
    obtain ⟨e1,rfl⟩:=zT he
    obtain ⟨z,g1,g2⟩:=eqs_ok (w:=w) (xo:=x) (yo:=y) hng hks (hρ _ _ _ ha) (hρ _ _ _ hb) e1
    exact ZH (s:=(do eqGuard op t x y (ρ x) (ρ y);binOp op t (ρ x) (ρ y))) g1 (Out.same h g2)
   cases hc
   obtain ⟨e1,rfl⟩:=zT he
   obtain ⟨z,g1,g2⟩:=bin_ok h (fun hp=>by
    split at hp
    ·rename_i e ht;exact ⟨e,ht⟩
    ·cases hp) (hρ _ _ _ ha) (hρ _ _ _ hb) e1
   exact ZH (s:=(do eqGuard op t x y (ρ x) (ρ y);binOp op t (ρ x) (ρ y))) g1 (Out.same h g2)
  ·cases hc
 | unOp op t x =>
  simp only [zZ] at hc
  split at hc
  ·rename_i a ha
   cases hc
   obtain ⟨e1,rfl⟩:=zT he
   obtain ⟨z,g1,g2⟩:=ap1_ok (f:=fun v=>Op.unary op v) h (hρ _ _ _ ha) e1
   exact ZH (s:=Op.unary op (ρ x)) g1 (Out.same h g2)
  ·cases hc
 | convert sc d x =>
  simp only [zZ] at hc
  split at hc
  ·rename_i e ht hd
   split at hc
   ·rename_i hte
    split at hc
    ·rename_i a ha
     cases hc
     obtain ⟨e1,rfl⟩:=zT he
     obtain ⟨z,g1,g2⟩:=sob_run (P:=P) h (hρ _ _ _ ha) e1
     have g3:(convert sc d (ρ x)).run P w = .ok z w:=by
      have hxs:∃ A n c,ρ x = .slice A n c:=by
       unfold Conv.bytesToString at g1
       split at g1
       ·exact ⟨_,_,_,by assumption⟩
       ·exact ⟨_,_,_,by assumption⟩
       ·simp at g1
      obtain ⟨A,n,c,hxe⟩:=hxs
      rw [hxe] at g1 ⊢
      cases A<;>simpa [convert,run_underlying ht,run_underlying hd,run_underlying hte] using g1
     exact ZH (s:=convert sc d (ρ x)) g3 (Out.same h g2)
    ·cases hc
   ·cases hc
  ·rename_i t hs hd
   split at hc
   ·rename_i j a hj ha
    split at hc
    ·rename_i hsz
     cases hc
     obtain ⟨e1,rfl⟩:=zT he
     obtain ⟨z,g1,g2⟩:=cup_run (P:=P) h (hρ _ _ _ ha) hs hd hj hsz e1
     exact ZH (s:=convert sc d (ρ x)) g1 (Out.same h g2)
    ·cases hc
   ·cases hc
  ·rename_i u hs hd
   split at hc
   ·rename_i j a hj ha
    cases hc
    obtain ⟨e1,rfl⟩:=zT he
    obtain ⟨z,g1,g2⟩:=cpu_run (P:=P) h (hρ _ _ _ ha) hs hd hj e1
    exact ZH (s:=convert sc d (ρ x)) g1 (Out.same h g2)
   ·cases hc
  split at hc
  ·rename_i a ha
   cases hc
   obtain ⟨e1,rfl⟩:=zT he
   obtain ⟨z,g1,g2⟩:=ap1_ok (f:=fun v=>convert sc d v) h (hρ _ _ _ ha) e1
   exact ZH (s:=convert sc d (ρ x)) g1 (Out.same h g2)
  ·cases hc
 | makeSlice t l c =>
  simp only [zZ] at hc
  split at hc
  ·rename_i e ht
   split at hc
   ·rename_i i l' c' hi hl hcc
    obtain ⟨hne,hi⟩:=yu hi
    split at hc
    ·rename_i z hz
     split at hc
     ·rename_i za hza
      split at hc
      ·rename_i hcond
       cases hc
       simp only [eff] at he
       split at he
       ·rename_i ln cn hln hcn
        split at he
        ·rename_i hb
         obtain ⟨b0,b1,b2,b3⟩:=hb
         cases he
         obtain ⟨kl,el⟩:=xu (hρ _ _ _ hl) hln
         obtain ⟨kc,ec⟩:=xu (hρ _ _ _ hcc) hcn
         have hzv:=(yR hza F O).1
         have hzs:z.cells.size=i.size:=by rw [(hzv.cells (yn hcond.2)).1];exact hcond.1
         obtain ⟨cs,g1,g2,g3⟩:=mks_go (P:=P) (w:=w) (kl:=kl) (kc:=kc) ht hi hz hzs b0 b1 b2 b3
         rw [<- el,<- ec] at g1
         exact ZH (s:=Instr.makeSlice t (ρ l) (ρ c)) g1 (mks_run h hne hzv hcond.1 hcond.2 (by omega) b3 g2 g3)
        ·cases he
       ·cases he
      ·cases hc
     ·cases hc
    ·cases hc
   ·cases hc
  ·cases hc
 | slice t x lo hi mx =>
  cases mx with
  | some m=>simp [zZ] at hc
  | none =>
   simp only [zZ] at hc
   have isStr:∀ {a:AV} {s:ByteArray},VR F O (ρ x) a->a = .v (.string s)->ρ x = .string s:=fun {a s} hv e=>by
    subst e
    have:=hv.pvC rfl
    generalize ρ x=q at this
    cases this;rfl
   split at hc
   ·rename_i ht
    split at hc
    ·rename_i a l hh ha hl hhi
     cases hc
     simp only [eff] at he
     have hv:=hρ _ _ _ ha
     have hlo:=Y0 (F:=F) (O:=O) hρ hl
     have hho:=Y0 (F:=F) (O:=O) hρ hhi
     split at he
     ·rename_i s hs
      split at he
      ·cases he
      ·cases he
      ·rename_i n1 n2
       split at he
       ·rename_i v hpr
        obtain ⟨e1,rfl⟩:=zT he
        have hx:=isStr hv hs
        have c1:=opt_conc hlo (fun e=>n1 e)
        have c2:=opt_conc hho (fun e=>n2 e)
        rw [<- c1,<- c2] at hpr
        refine ZH (s:=Instr.sliceAt t (ρ x) (lo.map ρ) (hi.map ρ) none) (x:=v) ?_ (Out.same h (YT e1))
        rw [hx]
        exact yM _ hpr w
       ·cases he
     ·cases he
    ·cases hc
   ·rename_i e ht
    split at hc
    ·rename_i i a l hh hi' ha hl hhi
     cases hc
     simp only [eff] at he
     have hv:=hρ _ _ _ ha
     have hlo:=Y0 (F:=F) (O:=O) hρ hl
     have hho:=Y0 (F:=F) (O:=O) hρ hhi
     split at he
     ·cases he
     ·cases he
     ·rename_i n1 n2
      obtain ⟨y,g1,g2⟩:=slice_run (P:=P) h ht hi' hv (Y7 hlo (fun e=>n1 e)) (Y7 hho (fun e=>n2 e)) he
      exact ZH (s:=Instr.sliceAt t (ρ x) (lo.map ρ) (hi.map ρ) none) g1 g2
    ·cases hc
   ·rename_i n e ht
    split at hc
    ·rename_i i a l hh hi' ha hl hhi
     split at hc
     ·rename_i hs1
      cases hc
      simp only [eff,slaE] at he
      have hv:=hρ _ _ _ ha
      have hlo:=Y0 (F:=F) (O:=O) hρ hl
      have hho:=Y0 (F:=F) (O:=O) hρ hhi
      split at he
      ·cases he
      ·cases he
      ·rename_i n1 n2
       obtain ⟨y,g1,g2⟩:=sla_run (P:=P) h ht hi' hs1 hv (Y7 hlo (fun e=>n1 e)) (Y7 hho (fun e=>n2 e)) he
       exact ZH (s:=Instr.sliceAt t (ρ x) (lo.map ρ) (hi.map ρ) none) g1 g2
     ·cases hc
    ·cases hc
   ·cases hc
 | fieldAddr sx x f =>
  simp only [zZ] at hc
  split at hc
  ·rename_i fs ht
   split at hc
   ·rename_i fd hfd
    split at hc
    ·rename_i fi a hfi ha
     split at hc
     ·cases hc
     ·rename_i hsz
      cases hc
      obtain ⟨e1,rfl⟩:=zT he
      obtain ⟨ad,hx,hsp,hv⟩:=move_ok h (hρ _ _ _ ha) e1
      refine ZH (s:=Instr.fieldAt sx (ρ x) f) (x:=.pointer (some (ad.add fd.offset))) ?_ (Out.same h hv)
      rw [hx]
      simp only [Instr.fieldAt,Sem.run_bind,run_underlying ht,Result.andThen_ok,hfd,Instr.sureAddr,Sem.run_pure,fieldPlace,ZJ hfi,hsz,if_false]
    ·cases hc
   ·cases hc
  ·cases hc
 | field t x f =>
  simp only [zZ] at hc
  split at hc
  ·rename_i fs ht
   split at hc
   ·rename_i fd hfd
    split at hc
    ·rename_i fi d a hfi hd ha
     cases hc
     obtain ⟨e1,rfl⟩:=zT he
     obtain ⟨cs,hx,y,g1,g2⟩:=XP (w:=w) hfi hd (hρ _ _ _ ha) e1
     refine ZH (s:=Instr.field t (ρ x) f) (x:=y) ?_ (Out.same h g2)
     rw [hx]
     simp only [Instr.field,Sem.run_bind,run_underlying ht,Result.andThen_ok,hfd,asAgg,Sem.run_pure]
     exact g1
    ·cases hc
   ·cases hc
  ·cases hc
 | indexAddr t x i =>
  simp only [zZ] at hc
  split at hc
  ·rename_i e ht
   split at hc
   ·rename_i ei a b hei ha hb
    cases hc
    simp only [eff] at he
    split at he
    ·rename_i ix hix
     obtain ⟨e1,rfl⟩:=zT he
     obtain ⟨kk,hi⟩:=xu (hρ _ _ _ hb) hix
     obtain ⟨ad,n,c,hx,h0,h1,hv⟩:=elem_ok h (hρ _ _ _ ha) e1
     refine ZH (s:=Instr.indexAt t (ρ x) (ρ i)) ?_ (Out.same h hv)
     rw [hx,hi]
     exact iad_run ht hei h0 h1
    ·cases he
   ·cases hc
  ·rename_i len e ht
   split at hc
   ·rename_i ei a b hei ha hb
    cases hc
    simp only [eff] at he
    split at he
    ·rename_i ix hix
     split at he
     ·rename_i hb2
      obtain ⟨e1,rfl⟩:=zT he
      obtain ⟨kk,hi⟩:=xu (hρ _ _ _ hb) hix
      obtain ⟨ad,hx,hsp,hv⟩:=move_ok h (hρ _ _ _ ha) e1
      refine ZH (s:=Instr.indexAt t (ρ x) (ρ i)) ?_ (Out.same h hv)
      rw [hx,hi]
      exact iaa_run ht hei hb2.1 hb2.2
     ·cases he
    ·cases he
   ·cases hc
  ·cases hc
 | index t x i =>
  simp only [zZ] at hc
  split at hc
  ·rename_i ht
   split at hc
   ·rename_i a b ha hb
    cases hc
    obtain ⟨e1,rfl⟩:=zT he
    obtain ⟨z,g1,g2⟩:=ap2_ok (f:=fun v j=>Instr.index t v j) h (hρ _ _ _ ha) (hρ _ _ _ hb) e1
    exact ZH (s:=Instr.index t (ρ x) (ρ i)) g1 (Out.same h g2)
   ·cases hc
  ·rename_i len e ht
   split at hc
   ·rename_i ei d a b hei hd ha hb
    cases hc
    simp only [eff] at he
    split at he
    ·rename_i ix hix
     split at he
     ·rename_i hb2
      obtain ⟨e1,rfl⟩:=zT he
      obtain ⟨kk,hi⟩:=xu (hρ _ _ _ hb) hix
      obtain ⟨cs,hx,y,g1,g2⟩:=XP (w:=w) hei hd (hρ _ _ _ ha) e1
      refine ZH (s:=Instr.index t (ρ x) (ρ i)) (x:=y) ?_ (Out.same h g2)
      rw [hx,hi]
      exact idx_part ht hei hb2.1 hb2.2 g1
     ·cases he
    ·cases he
   ·cases hc
  ·cases hc
 | extract x i =>
  simp only [zZ] at hc
  split at hc
  ·rename_i a ha
   cases hc
   simp only [eff] at he
   split at he
   ·rename_i cs hcs
    obtain ⟨e1,rfl⟩:=zT he
    have hv:=hρ _ _ _ ha
    rw [hcs] at hv
    obtain ⟨xs,hx,hl,hp⟩:∃ xs:List Value,ρ x = .tuple xs.toArray/\xs.length=cs.length/\∀ (i:Nat) (c:Value) (a:AV),xs[i]? = some c->cs[i]? = some a->VR F O c a:=by
     generalize ρ x=q at hv
     cases hv with
     | p h=>cases h with
      | tup xs as_ hl h=>exact ⟨xs,rfl,hl,fun i c a hc ha=>.p (h i c a hc ha)⟩
     | tup xs as_ hl h=>exact ⟨xs,rfl,hl,h⟩
    have hlt:i < xs.length:=by rw [hl];exact (List.getElem?_eq_some_iff.1 e1).1
    refine ZH (s:=Instr.extract (ρ x) i) (x:=xs[i]) ?_ (Out.same h (hp i _ _ (List.getElem?_eq_getElem hlt) e1))
    rw [hx]
    simp [Instr.extract,hlt]
   ·cases he
  ·cases hc
 | makeFunc fn first cap =>
  cases fn with
  | func f =>
   simp only [zZ] at hc
   split at hc
   ·rename_i h0
    split at hc
    ·rename_i as_ has
     cases hc
     cases he
     obtain ⟨q1,q2⟩:=Xw (F:=F) (O:=O) hρ has (by simp)
     have hf:first.map ρ = #[]:=by apply Array.ext';simp [Array.eq_empty_of_size_eq_zero h0]
     refine ⟨.value (.func (.func f) (first.map ρ) (cap.map ρ)),w,by simp [execOp,Instr.makeFunc],_,.inl rfl,Out.same h ?_⟩
     rw [hf]
     have ea:cap.map ρ=(cap.toList.map ρ).toArray:=by apply Array.ext';simp
     rw [ea]
     exact .fn f _ _ q1 q2
    ·cases hc
   ·split at hc
    ·rename_i x hx0 hc0
     split at hc
     ·rename_i a ha
      cases hc
      obtain ⟨e1,rfl⟩:=zT he
      have ef:first.map ρ = #[ρ x]:=by apply Array.ext';simp [hx0]
      have ec:cap.map ρ = #[]:=by apply Array.ext';simp [Array.eq_empty_of_size_eq_zero hc0]
      refine ⟨.value (.func (.func f) (first.map ρ) (cap.map ρ)),w,by simp [execOp,Instr.makeFunc],_,.inl rfl,Out.same h ?_⟩
      rw [ef,ec]
      exact mkb_ok (hρ _ _ _ ha) e1
     ·cases hc
    ·cases hc
  | method nm =>
   simp only [zZ] at hc
   split at hc
   ·rename_i x hx0 hc0
    split at hc
    ·rename_i a ha
     cases hc
     obtain ⟨e1,rfl⟩:=zT he
     have ef:first.map ρ = #[ρ x]:=by apply Array.ext';simp [hx0]
     have ec:cap.map ρ = #[]:=by apply Array.ext';simp [Array.eq_empty_of_size_eq_zero hc0]
     refine ⟨.value (.func (.method nm) (first.map ρ) (cap.map ρ)),w,by simp [execOp,Instr.makeFunc],_,.inl rfl,Out.same h ?_⟩
     rw [ef,ec]
     exact mk2_ok (hρ _ _ _ ha) e1
    ·cases hc
   ·cases hc
  | _=>simp [zZ] at hc
 | call c =>
  obtain ⟨callee,args,ats⟩:=c
  simp only [zZ] at hc
  split at hc
  ·split at hc
   ·split at hc
    ·cases hc;cases he
    ·cases hc
   ·cases hc
  ·rename_i f
   split at hc
   ·split at hc
    ·split at hc
     ·split at hc
      ·cases hc;cases he
      ·split at hc<;>(cases hc;cases he)
     ·cases hc
    ·cases hc
   ·split at hc
    ·rename_i hne
     split at hc
     ·rename_i t x hts hxs
      split at hc
      ·rename_i a ha
       cases hc
       cases he
       have ea:args = #[x]:=by apply Array.ext';simpa using hxs
       subst ea
       have g1:=noEsc_run hne (ρ x) w
       have hf:ρ (.func f) = .func (.func f) #[] #[]:=by
        have hv:=hρ 0 (.func f) (.c (.v (.func (.func f) #[] #[]))) rfl
        rw [hcv] at hv
        generalize ρ (.func f)=q at hv
        cases hv with
        | p h=>cases h;rfl
       exact ⟨.value (ρ x),w,by simp [execOp,resolve,invoke,hf,Deferred.ofValue,g1],ρ x,.inl rfl,Out.same h (hρ _ _ _ ha)⟩
      ·cases hc
     ·cases hc
    ·cases hc
  ·split at hc
   ·rename_i t u s x hts hxs
    split at hc
    ·rename_i htu
     subst htu
     split at hc
     ·rename_i e ht
      split at hc
      ·rename_i i a b hi ha hb
       obtain ⟨hne,hi⟩:=yu hi
       split at hc
       ·rename_i z hz
        split at hc
        ·rename_i hcond
         cases hc
         obtain ⟨y,w',g1,g2⟩:=app_run (P:=P) (ty:=type) h hne (hρ _ _ _ ha) (hρ _ _ _ hb) ht hi hz rfl rfl hcond.1 hcond.2 he
         have ea:args = #[s,x]:=by apply Array.ext';simpa using hxs
         have et:ats = #[t,t]:=by apply Array.ext';simpa using hts
         subst ea
         subst et
         exact ⟨.value y,w',by simp [execOp,resolve,invoke,builtin,g1],y,.inl rfl,g2⟩
        ·cases hc
       ·cases hc
      ·cases hc
     ·cases hc
    ·split at hc
     ·rename_i e kn ht htn
      split at hc
      ·rename_i i a b hi ha hb
       obtain ⟨hne,hi⟩:=yu hi
       split at hc
       ·rename_i z hz
        split at hc
        ·rename_i za hza
         split at hc
         ·rename_i hcond
          cases hc
          simp only [eff] at he
          split at he
          ·rename_i k' m hs hm
           split at he
           ·rename_i hb2
            cases he
            have hv:=hρ _ _ _ ha
            rw [hs] at hv
            have hsv:ρ s = .slice none 0 0:=by
             generalize ρ s=q at hv
             cases hv with
             | p h=>cases h
             | nl=>rfl
            obtain ⟨kx,ex⟩:=xu (hρ _ _ _ hb) hm
            obtain ⟨y,w',g1,g2⟩:=apz_run (P:=P) (ty:=type) (k:=kx) h hne (yR hza F O).1 ht htn hi hz hcond.1 hcond.2.1 hcond.2.2 hb2.1 hb2.2.1 hb2.2.2
            have ea:args = #[s,x]:=by apply Array.ext';simpa using hxs
            have et:ats = #[t,u]:=by apply Array.ext';simpa using hts
            subst ea
            subst et
            exact ⟨.value y,w',by simp [execOp,resolve,invoke,builtin,hsv,ex,g1],y,.inl rfl,g2⟩
           ·cases he
          ·cases he
         ·cases hc
        ·cases hc
       ·cases hc
      ·cases hc
     ·rename_i e ht htn
      split at hc
      ·rename_i i a b hi ha hb
       obtain ⟨hne,hi⟩:=yu hi
       split at hc
       ·rename_i z hz
        split at hc
        ·rename_i hcond
         cases hc
         simp only [eff] at he
         obtain ⟨y,w',g1,g2⟩:=aps_run (P:=P) (ty:=type) h hne (hρ _ _ _ ha) (hρ _ _ _ hb) ht htn hi hz hcond.2 rfl hcond.1 he
         have ea:args = #[s,x]:=by apply Array.ext';simpa using hxs
         have et:ats = #[t,u]:=by apply Array.ext';simpa using hts
         subst ea
         subst et
         exact ⟨.value y,w',by simp [execOp,resolve,invoke,builtin,g1],y,.inl rfl,g2⟩
        ·cases hc
       ·cases hc
      ·cases hc
     ·cases hc
   ·cases hc
  ·split at hc
   ·rename_i t u d x hts hxs
    split at hc
    ·rename_i htu
     subst htu
     split at hc
     ·rename_i e ht
      split at hc
      ·rename_i i a b hi ha hb
       split at hc
       ·rename_i hsz
        cases hc
        obtain ⟨y,w',g1,g2⟩:=cpy_run (P:=P) (ty:=type) h (hρ _ _ _ ha) (hρ _ _ _ hb) ht hi rfl hsz he
        have ea:args = #[d,x]:=by apply Array.ext';simpa using hxs
        have et:ats = #[t,t]:=by apply Array.ext';simpa using hts
        subst ea
        subst et
        exact ⟨.value y,w',by simp [execOp,resolve,invoke,builtin,g1],y,.inl rfl,g2⟩
       ·cases hc
      ·cases hc
     ·cases hc
    ·cases hc
   ·cases hc
  ·split at hc
   ·rename_i t x hts hxs
    split at hc
    ·rename_i a ha
     cases hc
     obtain ⟨e1,rfl⟩:=zT he
     have ea:args = #[x]:=by apply Array.ext';simpa using hxs
     have et:ats = #[t]:=by apply Array.ext';simpa using hts
     subst ea
     subst et
     obtain ⟨y,g1,g2⟩:=usd_run (P:=P) h (hρ _ _ _ ha) e1 #[t] type
     exact ⟨.value y,w,by simp [execOp,resolve,invoke,builtin,g1],y,.inl rfl,Out.same h g2⟩
    ·cases hc
   ·cases hc
  ·split at hc
   ·rename_i t u x n hts hxs
    split at hc
    ·rename_i e ht
     split at hc
     ·rename_i a b ha hb
      split at hc
      ·rename_i hc1
       cases hc
       obtain ⟨y,w',g1,g2⟩:=ust_run (P:=P) (it:=u) (ty:=type) h (hρ _ _ _ ha) (hρ _ _ _ hb) ht hc1 he
       have ea:args = #[x,n]:=by apply Array.ext';simpa using hxs
       have et:ats = #[t,u]:=by apply Array.ext';simpa using hts
       subst ea
       subst et
       exact ⟨.value y,w',by simp [execOp,resolve,invoke,builtin,g1],y,.inl rfl,g2⟩
      ·cases hc
     ·cases hc
    ·cases hc
   ·cases hc
  ·split at hc
   ·rename_i t x hts hxs
    split at hc
    ·rename_i e ht
     split at hc
     ·rename_i i a hi ha
      split at hc
      ·rename_i z hz
       split at hc
       ·rename_i za hza
        split at hc
        ·rename_i hcond
         cases hc
         simp only [eff] at he
         cases hm:clrA i.size za H (ev a) with
         | none=>rw [hm] at he;cases he
         | some H2 =>
          rw [hm] at he
          cases he
          obtain ⟨w',F',O',g1,g2,g3,g4⟩:=clr_run (P:=P) (ty:=type) h (hρ _ _ _ ha) (yR hza F O).1 ht (yu hi).2 hz hcond.1 hcond.2.1 hcond.2.2 hm
          have ea:args = #[x]:=by apply Array.ext';simpa using hxs
          have et:ats = #[t]:=by apply Array.ext';simpa using hts
          subst ea
          subst et
          exact ⟨.value (.tuple #[]),w',by simp [execOp,resolve,invoke,builtin,g1],_,.inl rfl,F',O',.p (.tup [] [] rfl fun i c a hc=>by simp at hc),g2,g3,g4⟩
        ·cases hc
       ·cases hc
      ·cases hc
     ·cases hc
    ·cases hc
   ·cases hc
  ·split at hc
   ·rename_i t kt' x ix hts hxs
    have ea:args = #[x,ix]:=by apply Array.ext';simpa using hxs
    have et:ats = #[t,kt']:=by apply Array.ext';simpa using hts
    subst ea
    subst et
    split at hc
    ·rename_i k e ht
     split at hc
     ·rename_i kd a b hk ha hb
      cases hc
      simp only [eff] at he
      cases hm:mdlA H kd (ev a) (ev b) with
      | none=>rw [hm] at he;cases he
      | some H2 =>
       rw [hm] at he
       cases he
       obtain ⟨w',F',O',g1,g2,g3,g4⟩:=mdl_run (kt':=kt') (ty:=type) h (hρ _ _ _ ha) (hρ _ _ _ hb) ht hk hm
       exact ⟨.value (.tuple #[]),w',by simp [execOp,resolve,invoke,builtin,g1],_,.inl rfl,F',O',.p (.tup [] [] rfl fun i c a hc=>by simp at hc),g2,g3,g4⟩
     ·cases hc
    ·cases hc
   ·cases hc
  ·split at hc
   ·rename_i t x hts hxs
    have ea:args = #[x]:=by apply Array.ext';simpa using hxs
    have et:ats = #[t]:=by apply Array.ext';simpa using hts
    subst ea
    subst et
    split at hc
    ·rename_i a ht ha
     cases hc
     simp only [eff] at he
     split at he
     ·rename_i s hs
      cases he
      have hv:=(hρ _ _ _ ha)
      rw [hs] at hv
      have hv:=hv.pvC rfl
      have hx:ρ x = .string s:=by generalize ρ x=q at hv;cases hv;rfl
      exact ⟨.value (.int .i64 s.size),w,by simp [execOp,resolve,invoke,builtin,Builtin.len_,run_underlying ht,hx,goInt],_,.inl rfl,Out.same h (.p (.v _ rfl))⟩
     ·cases he
    ·rename_i e a ht ha
     cases hc
     simp only [eff] at he
     cases hl:Zp H (ev a) with
     | none=>simp [hl] at he
     | some n =>
      simp [hl] at he
      obtain ⟨rfl,rfl⟩:=he
      obtain ⟨A,c,hx⟩:=len_ok h (hρ _ _ _ ha) hl
      exact ⟨.value (.int .i64 n),w,by simp [execOp,resolve,invoke,builtin,Builtin.len_,run_underlying ht,hx,goInt],_,.inl rfl,Out.same h (.p (.v _ rfl))⟩
    ·rename_i k0 e0 a ht ha
     cases hc
     simp only [eff] at he
     cases hl:wk H (ev a) with
     | none=>simp [hl] at he
     | some n =>
      simp [hl] at he
      obtain ⟨rfl,rfl⟩:=he
      have hlen:=lnm_run (ty:=type) h (hρ _ _ _ ha) ht hl
      exact ⟨.value (.int .i64 n),w,by simp [execOp,resolve,invoke,builtin,hlen],_,.inl rfl,Out.same h (.p (.v _ rfl))⟩
    ·cases hc
   ·cases hc
  ·rename_i b n1 n2
   split at hc
   ·rename_i as_ has
    split at hc
    ·rename_i hsz
     cases hc
     simp only [eff] at he
     split at he
     ·rename_i vs hvs
      split at he
      ·rename_i v hpr
       obtain ⟨e1,rfl⟩:=zT he
       obtain ⟨q1,q2⟩:=Xw (F:=F) (O:=O) hρ has (by simpa using hsz)
       have:=xW hvs q1 q2
       have ea:args.map ρ=vs.toArray:=by apply Array.ext';simpa using this
       refine ⟨.value v,w,?_,v,.inl rfl,Out.same h (YT e1)⟩
       have:=yM _ hpr w
       simp only [execOp,resolve,Sem.run_bind,Sem.run_pure,Result.andThen_ok,invoke,ea]
       exact this
      ·cases he
     ·cases he
    ·cases hc
   ·cases hc
  ·split at hc
   ·split at hc
    ·cases hc
     cases he
    ·cases hc
   ·cases hc
  ·cases hc
 | makeMap t r0 =>
  cases r0 with
  | some x=>simp [zZ] at hc
  | none =>
   simp only [zZ] at hc
   split at hc
   ·rename_i k e ht
    obtain ⟨ag,m,rfl⟩:∃ ag m,op = .mkm ag m:=by
     split at hc
     ·cases hc;exact ⟨_,_,rfl⟩
     ·cases hc;exact ⟨_,_,rfl⟩
     ·cases hc
    cases he
    exact ⟨_,_,by simp only [execOp,Option.map_none,Instr.makeMap,Sem.run_bind,Result.andThen_ok,newObj];rfl,_,.inl rfl,mkm_run h ag m⟩
   ·cases hc
 | lookup t x i c =>
  simp only [zZ] at hc
  split at hc
  ·rename_i k e ht
   split at hc
   ·rename_i kd inf a b hk hi ha hb
    split at hc
    ·rename_i z hz
     split at hc
     ·rename_i za hza
      cases hc
      obtain ⟨e1,rfl⟩:=zT he
      obtain ⟨u,g1,g2⟩:=lkp_run h (hρ _ _ _ ha) (hρ _ _ _ hb) (yR hza F O).1 ht hk hi hz e1
      exact ZH (s:=Instr.lookup t (ρ x) (ρ i) c) g1 (Out.same h g2)
     ·cases hc
    ·cases hc
   ·cases hc
  ·cases hc
 | range t x =>
  simp only [zZ] at hc
  split at hc
  ·rename_i k e ht
   split at hc
   ·rename_i a ha
    cases hc
    obtain ⟨u,w',g1,g2⟩:=rgm_run h (hρ _ _ _ ha) ht he
    exact ⟨.value u,w',by simp [execOp,g1],_,.inl rfl,g2⟩
   ·cases hc
  ·cases hc
 | next x b =>
  cases b with
  | true=>simp [zZ] at hc
  | false =>
   simp only [zZ] at hc
   split at hc
   ·rename_i a ha
    cases hc
    simp only [eff] at he
    split at he
    ·rename_i p hp
     cases he
     obtain ⟨u,w',p',hm,g1,g2⟩:=nxm_run (P:=P) h (hρ _ _ _ ha) type hp
     obtain rfl:p'=_:=by simpa using hm
     exact ⟨.value u,w',by simp [execOp,g1],_,.inl rfl,g2⟩
    ·cases he
   ·cases hc
 | entry x =>
  simp only [zZ] at hc
  split at hc
  ·rename_i a ha
   cases hc
   obtain ⟨e1,rfl⟩:=zT he
   obtain ⟨u,g1,g2⟩:=ent_run (P:=P) h (hρ _ _ _ ha) e1
   exact ⟨.value u,w,by simp [execOp,g1],_,.inl rfl,Out.same h g2⟩
  ·cases hc
 | mapUpdate t x i v =>
  simp only [zZ] at hc
  split at hc
  ·rename_i k e ht
   split at hc
   ·rename_i kd a b c hk ha hb hcv'
    cases hc
    simp only [eff] at he
    cases hm:mupA H kd (ev a) (ev b) (ev c) with
    | none=>rw [hm] at he;cases he
    | some H2 =>
     rw [hm] at he
     cases he
     obtain ⟨w',F',O',g1,g2,g3,g4⟩:=mup_run h (hρ _ _ _ ha) (hρ _ _ _ hb) (hρ _ _ _ hcv') ht hk hm
     exact ⟨.skip,w',by simp [execOp,g1],undef,.inr ⟨rfl,rfl⟩,F',O',.p (.tup [] [] rfl fun i c a hc=>by simp at hc),g2,g3,g4⟩
   ·cases hc
  ·cases hc
 | makeInterface t x =>
  simp only [zZ] at hc
  split at hc
  ·rename_i el ht
   split at hc
   ·rename_i a ha
    cases hc
    obtain ⟨e1,rfl⟩:=zT he
    exact ⟨.value (.iface t (ρ x)),w,by simp [execOp,Instr.makeInterface,run_underlying ht],_,.inl rfl,Out.same h (mki_ok h (hρ _ _ _ ha) e1)⟩
   ·cases hc
  ·rename_i ps rs vd ht
   split at hc
   ·rename_i a ha
    cases hc
    obtain ⟨e1,rfl⟩:=zT he
    exact ⟨.value (.iface t (ρ x)),w,by simp [execOp,Instr.makeInterface,run_underlying ht],_,.inl rfl,Out.same h (mki_ok h (hρ _ _ _ ha) e1)⟩
   ·cases hc
  ·cases hc
 | _=>simp [zZ] at hc
theorem slo_ok {hs : List FuncId} {o : Oper} {k : Nat} {ax al : AX} (hc : zZ P hs o = some (.slc k ax (some al) none)) {ρ : Operand -> Value} {ev : AX -> AV} (hρ : ∀ (ty : TypeId) (x : Operand) (ax : AX), cx P ty x = some ax -> VR F O (ρ x) (ev ax))
  (h:Own B w0 F0 F O H w) {r:AV} {H':Hp} (he:eff P ev H (.slo k ax al)=some (r,H')):Good P B w0 F0 F O w (execOp ρ o) r H':=by
 obtain ⟨dst,op',type,pos,after,guard⟩:=o
 cases op' with
 | slice t x lo hi mx =>
  cases mx with
  | some m=>simp [zZ] at hc
  | none =>
  simp only [zZ] at hc
  split at hc
  ·split at hc<;>cases hc
  ·rename_i e ht
   split at hc
   ·rename_i i a l hh hi' ha hl hhi
    cases hc
    have hv:=hρ _ _ _ ha
    have hlo:=Y0 (F:=F) (O:=O) hρ hl
    have hho:=Y0 (F:=F) (O:=O) hρ hhi
    simp only [eff] at he
    split at he
    ·rename_i ix hix
     obtain ⟨e1,rfl⟩:=zT he
     have q1:=Y7 hlo (by simp [hix])
     have q2:=Y7 hho (by simp)
     simp only [Option.map_some,hix,Option.bind_some,id_eq] at q1
     rcases q1 with ⟨_,q⟩|⟨kd,i',q,q'⟩
     ·cases q
     rcases q2 with ⟨q2,_⟩|⟨_,_,_,q2⟩
     ·cases q'
      obtain ⟨y,g1,g2⟩:=slo_run (P:=P) h ht hi' hv (kd:=kd) e1
      refine ZH (s:=Instr.sliceAt t (ρ x) (lo.map ρ) (hi.map ρ) none) (x:=y) ?_ (Out.same h g2)
      rw [q,q2]
      exact g1
     ·simp at q2
    ·cases he
   ·cases hc
  ·split at hc
   ·split at hc<;>cases hc
   ·cases hc
  ·cases hc
 | _ =>
  exfalso
  simp only [zZ] at hc
  repeat' (first|(cases hc;done)|split at hc)
  all_goals (first|contradiction|(simp_all;done))
end
structure St where
 s:List AV
 H:Hp
def St.put (st:St) (d:Option Nat) (r:AV) (H:Hp):St :=
 match d with
 | some d=>⟨st.s.set d r,H⟩
 | none=>⟨st.s,H⟩
def zd:AV:=.tup []
inductive EX where
 | n
 | x (id:Nat)
 | r
def GOK (G:Nat->AV) (F:Fz):Prop:=∀ g,VR F [] (.pointer (some ⟨g,0,none⟩)) (G g)
theorem GOK.mono {G:Nat->AV} {F F':Fz} (h:GOK G F) (hF:F.le F'):GOK G F':=fun g=>(h g).mono hF (Ow.le_refl _)
theorem Ow.le_nil (O:Ow):Ow.le [] O:=fun i d h=>by simp at h
def PC (P:Program) (G:Nat->AV) (f:FuncId) (as_:List AV) (r:AV):Prop :=
 ∀ (w:World) (F:Fz) (xs:List Value),(∀ b o v,F b o=some v->w.cell? ⟨b,o,none⟩=some v)->GOK G F->xs.length=as_.length->(∀ (i:Nat) (c:Value) (a:AV),xs[i]? = some c->as_[i]? = some a->PV F c a) ->
  Calls P f xs.toArray w (fun e w'=>∃ v F',e = .returned v/\PV F' v r/\F.le F'/\(∀ b o v,F' b o=some v->w'.cell? ⟨b,o,none⟩=some v)/\(∀ b o v,F' b o=some v->F b o=some v\/w.heap.size<=b)/\Below w.heap.size w w')
def HC (P:Program) (G:Nat->AV) (f:FuncId) (as_:List AV) (H:Hp) (r:AV) (H':Hp):Prop :=
 ∀ (B:Bd) (w0:World) (F0 F:Fz) (O:Ow) (w:World) (xs:List Value),Own B w0 F0 F O H w->GOK G F->xs.length=as_.length->(∀ (i:Nat) (c:Value) (a:AV),xs[i]? = some c->as_[i]? = some a->VR F O c a) ->
  Calls P f xs.toArray w (fun e w'=>∃ v,e = .returned v/\Out B w0 F0 F O r H' v w')
def ltC (base:Nat):AV->Bool
 | .ol i _ _=>decide (i < base)
 | .os i _ _ _=>decide (i < base)
 | .oa i _ _ _=>decide (i < base)
 | .io _ i _ _ _=>decide (i < base)
 | .mp i _=>decide (i < base)
 | .oc i _ _ _=>decide (i < base)
 | .mf _ _ i _ _ _=>decide (i < base)
 | .bf _ i _ _ _=>decide (i < base)
 | .ib _ _ i _ _ _=>decide (i < base)
 | _=>true
def ltB (base:Nat):AV->Bool
 | .agg cs=>cs.all (ltC base)
 | .fn _ cs=>cs.all (ltC base)
 | a=>ltC base a
def geB (base:Nat):AV->Bool
 | .ol i _ _=>decide (base<=i)
 | _=>false
def AOp.cls:AOp->Nat
 | .mkm2 ..|.mkb ..|.mki ..|.mv _|.un ..|.cv ..|.pick ..|.ext ..|.bld ..|.fld ..|.idx ..|.ixa ..|.sls ..|.lns _|.bi ..|.mkf ..|.eqs ..|.len _=>0
 | .bin ..|.load ..|.nilc _|.fad ..|.iad ..|.iaa ..|.slo ..|.lkp ..|.lnm _=>1
 | .slc ..|.call ..=>2
 | .new ..|.bsl ..|.mks ..|.callm ..|.apz ..|.mkm ..=>3
 | .apf ..=>5
 | .store ..|.app ..|.callh ..|.callv ..|.calli ..|.bad|.cpy ..|.mup ..|.aps ..|.cup ..|.cpu ..|.usd ..|.ust ..|.sla ..|.sob ..|.rgm ..|.nxm ..|.enm ..|.mdl ..|.clr ..=>4
def AOp.xs:AOp->List AX
 | .mv x|.un _ x|.cv _ _ x|.ext x _|.new _ _ x|.load _ _ x|.nilc x|.fad _ x|.fld _ _ _ x|.lns x|.len x|.mki _ x|.lnm x|.mkm2 _ x|.mkb _ x|.rgm x|.cup x|.cpu _ x|.usd x|.sob x|.nxm x|.enm x|.clr _ _ x=>[x]
 | .bin _ _ _ _ _ x y|.store _ x y|.iad _ x y|.slo _ x y|.iaa _ _ x y|.idx _ x y|.ixa _ _ _ x y|.mks _ _ _ _ x y|.app _ _ _ x y|.aps _ _ x y|.ust _ x y|.apf _ _ _ x y|.apz _ _ _ _ x y=>[x,y]
 | .pick c a b=>[c,a,b]
 | .bld _ ps=>ps.map (·.2.2)
 | .bsl _ _ xs|.bi _ _ _ _ xs|.call _ xs|.callh _ xs|.callm _ xs|.mkf _ xs=>xs
 | .callv x xs=>x::xs
 | .calli _ x xs=>x::xs
 | .eqs _ _ x y|.cpy _ x y|.lkp _ _ _ x y|.mdl _ x y=>[x,y]
 | .mup _ x y z=>[x,y,z]
 | .bad|.mkm ..=>[]
 | .sls _ x lo hi|.slc _ x lo hi|.sla _ x lo hi=>[x]++lo.toList++hi.toList
section
variable (P:Program) (G:Nat->AV)
def yS (ev:AX->AV) (H:Hp) (op:AOp) (k:AV->Hp->Prop):Prop :=
 match op with
 | .call f xs=>∃ as_ H1 r,yv H (xs.map ev)=some (as_,H1)/\PC P G f as_ r/\k r H1
 | .callh f xs=>∃ r H',HC P G f (xs.map ev) H r H'/\k r H'
 | .callm f xs=>∃ r Bs,(∀ H2:Hp,(Bs ≠ []->H2.length=H.length)->HC P G f (xs.map ev) H2 r (H2++Bs))/\k r (H++Bs)
 | .callv x xs=>∃ f as_ r H',cvA H (ev x) (xs.map ev)=some (f,as_)/\zj P f=true/\HC P G f as_ H r H'/\k r H'
 | .calli nm x xs=>∃ t rc f r H',XD H (ev x)=some (t,rc)/\Mth P t nm f/\HC P G f (rc::xs.map ev) H r H'/\k r H'
 | op=>match eff P ev H op with
  | some (r,H')=>k r H'
  | none=>False
def AWi (o:AI) (st:St) (k:St->Prop):Prop :=
 match o.guard with
 | none=>yS P G (AX.ev G st.s) st.H o.op (fun r H'=>k (st.put o.dst r H'))
 | some (t,want) =>
  match st.s.getD t zd with
  | .v (.bool b)=>if b=want then yS P G (AX.ev G st.s) st.H o.op (fun r H'=>k (st.put o.dst r H')) else k (st.put o.dst zd st.H)
  | .tup []=>k (st.put o.dst zd st.H)
  | _=>False
def AWs:List AI->(St->Prop)->St->Prop
 | [],k,st=>k st
 | o::os,k,st=>AWi P G o st (AWs os k)
def chk (base:Nat) (o:AI) (st:St):Prop:=o.op.cls=0\/(base<=st.H.length/\(o.op.cls=1\/o.op.cls=2->(o.op.xs.all fun x=>ltB base (x.ev G st.s))=true)/\(o.op.cls=5->geB base ((o.op.xs.headD (.c .unk)).ev G st.s)=true))
def AWd (base:Nat):List AI->(St->Prop)->St->Prop
 | [],k,st=>k st
 | o::os,k,st=>chk G base o st/\AWi P G o st (AWd base os k)
inductive AC where
 | skip
 | region (ops:List AI)
 | draw (ops:List AI)
 | drawx (reps:List (List AI))
 | seq (a b:AC)
 | cond (c:AX) (t e:AC)
 | block (id:Nat) (c:AC)
 | loop (c:AC)
 | scope (c:AC)
 | exit (id:Nat)
 | ret
 | rng (g:AX) (ps:List Nat) (a b:AC)
 | drawq (ops:List AI) (q:Bool) (ps:List (List Nat)) (es:List Nat)
def IsSt (s' s:St):Prop:=s=s'
def wj (Wc:(EX->St->Prop)->St->Prop) (Q:EX->St->Prop):Nat->St->Prop
 | 0,_=>False
 | n+1,st=>Wc (fun e st'=>match e with|.n=>wj Wc Q n st'|e=>Q e st') st
def yg (k:St->Prop) (Q:EX->St->Prop):EX->St->Prop
 | .n,st=>k st
 | e,st=>Q e st
def yw (id:Nat) (Q:EX->St->Prop):EX->St->Prop
 | .x id',st=>if id'=id then Q .n st else Q (.x id') st
 | e,st=>Q e st
def W:AC->(EX->St->Prop)->St->Prop
 | .skip,Q,st=>Q .n st
 | .region ops,Q,st=>AWs P G ops (Q .n) st
 | .draw ops,Q,st=>AWd P G st.H.length ops (Q .n) st
 | .drawx reps,Q,st=>∀ R ∈ reps,AWd P G st.H.length R (Q .n) st
 | .seq a b,Q,st=>W a (yg (W b Q) Q) st
 | .cond c t e,Q,st =>
  match c.ev G st.s with
  | .v (.bool b)=>if b=true then W t Q st else W e Q st
  | _=>False
 | .block id c,Q,st=>W c (yw id Q) st
 | .loop c,Q,st=>∃ n,wj (W c) Q n st
 | .scope c,Q,st=>W c Q st
 | .exit id,Q,st=>Q (.x id) st
 | .ret,Q,st=>Q .r st
 | .rng ..,_,_=>False
 | .drawq ..,_,_=>False
end
def freshT (ops:Array Oper):Nat->Nat->Bool
 | 0,_=>false
 | d+1,n =>
  match ops.toList.find? (fun o=>o.dst == some n) with
  | some o =>
   (match o.op with
    | .buildSlice ..=>true
    | .call c=>(match c.callee with|.builtin .append=>(match c.args.toList with|[.tmp m,_]=>freshT ops d m|_=>false)|_=>false)
    | _=>false)
  | none=>false
def convF (ops:Array Oper):AOp->AOp
 | .app e k b (.t n) x=>if freshT ops 6 n=true then .apf e k b (.t n) x else .app e k b (.t n) x
 | op=>op
theorem convF_ok {P:Program} {G:Nat->AV} {ops:Array Oper} {ev:AX->AV} {H:Hp} {op:AOp} {k:AV->Hp->Prop} (h:yS P G ev H (convF ops op) k):yS P G ev H op k:=by
 cases op with
 | app e kk b s x =>
  cases s with
  | t n =>
   simp only [convF] at h
   split at h
   ·exact h
   ·exact h
  | _=>exact h
 | _=>exact h
def intoT (ops:Array Oper) (d:Nat):Bool :=
 ops.toList.any fun o =>
  match o.op with
  | .call c=>(match c.callee with|.builtin .copy=>(match c.args.toList with|.tmp m::_=>m == d|_=>false)|_=>false)
  | _=>false
def xV (ops:Array Oper) (d:Option Nat) (op:AOp):AOp :=
 match op,d with
 | .slc k x (some l) none,some d=>if intoT ops d=true then .slo k x l else .slc k x (some l) none
 | op,_=>convF ops op
def wL (P:Program) (hs:List FuncId) (ops:Array Oper) (o:Oper):Option AI :=
 match o.guard with
 | none=>some ⟨o.dst,xV ops o.dst (ZZ P hs o),none⟩
 | some (j,want)=>(match (ops[j]?).bind (·.dst) with|some t=>some ⟨o.dst,xV ops o.dst (ZZ P hs o),some (t,want)⟩|none=>none)
def xm (P:Program) (hs:List FuncId) (ops:Array Oper):List Oper->Option (List AI)
 | []=>some []
 | o::os =>
  match wL P hs ops o,xm P hs ops os with
  | some a,some as_=>some (a::as_)
  | _,_=>none
structure Rl (G:Nat->AV) (B:Bd) (w0:World) (F0 F1:Fz) (O1:Ow) (F:Fz) (O:Ow) (st:St) (a:Act) (w:World):Prop where
 own:Own B w0 F0 F O st.H w
 size:a.tmps.size=st.s.length
 slot:∀ t,VR F O (a.tmps.getD t undef) (st.s.getD t zd)
 defs:a.defers=B.ds
 gok:GOK G F
 leF:F1.le F
 leO:O1.le O
theorem yE {F:Fz} {O:Ow}:VR F O undef zd:=.p (.tup [] [] rfl fun i c a hc=>by simp at hc)
theorem Rl.put {G : Nat -> AV} {B : Bd} {w0 : World} {F0 F1 : Fz} {O1 : Ow} {F : Fz} {O : Ow} {st : St} {a : Act} {w : World} (h : Rl G B w0 F0 F1 O1 F O st a w) {d : Option Nat} {r : AV} {H' : Hp} {x : Value} {w' : World} (ho : Out B w0 F0 F O r H' x w') :
  ∃ F' O',Rl G B w0 F0 F1 O1 F' O' (st.put d r H') (a.put d x) w':=by
 obtain ⟨F',O',hv,own,lF,lO⟩:=ho
 refine ⟨F',O',?_⟩
 cases d with
 | none=>exact ⟨own,h.size,fun t=>(h.slot t).mono lF lO,h.defs,h.gok.mono lF,Fz.le_trans h.leF lF,Ow.le_trans h.leO lO⟩
 | some d =>
  refine ⟨own,by simpa [Act.put,St.put] using h.size,fun t=>?_,h.defs,h.gok.mono lF,Fz.le_trans h.leF lF,Ow.le_trans h.leO lO⟩
  have hs:=(h.slot t).mono lF lO
  simp only [Act.put,St.put]
  by_cases ht:d=t
  ·subst ht
   by_cases hd:d < a.tmps.size
   ·have e1 : (a.tmps.setIfInBounds d x).getD d undef = x := by
     rw [Array.getD_eq_getD_getElem?,Array.getElem?_setIfInBounds_self_of_lt hd];rfl
    have e2:(st.s.set d r).getD d zd=r:=by
     rw [List.getD_eq_getElem?_getD,List.getElem?_set_self (by rw [<- h.size];exact hd)];rfl
    rw [e1,e2]
    exact hv
   ·have e1 : a.tmps.setIfInBounds d x = a.tmps := by
     apply Array.ext' ;simp [List.set_eq_of_length_le (show a.tmps.toList.length<=d by simpa using hd)]
    have e2:st.s.set d r=st.s:=List.set_eq_of_length_le (by rw [<- h.size];omega)
    rw [e1,e2]
    exact hs
  ·have e1 : (a.tmps.setIfInBounds d x).getD t undef = a.tmps.getD t undef := by
    rw [Array.getD_eq_getD_getElem?,Array.getD_eq_getD_getElem?,Array.getElem?_setIfInBounds_ne ht]
   have e2:(st.s.set d r).getD t zd=st.s.getD t zd:=by
    rw [List.getD_eq_getElem?_getD,List.getD_eq_getElem?_getD,List.getElem?_set_ne ht]
   rw [e1,e2]
   exact hs
theorem Rl.operand {P:Program} {G:Nat->AV} {B:Bd} {w0:World} {F0 F1:Fz} {O1:Ow} {F:Fz} {O:Ow} {st:St} {a:Act} {w:World} (h:Rl G B w0 F0 F1 O1 F O st a w) (ty:TypeId) (x:Operand) (ax:AX) (hc:cx P ty x=some ax):VR F O (a.eval x) (ax.ev G st.s):=by
 cases x with
 | tmp t=>cases hc;exact h.slot t
 | const v =>
  simp only [cx] at hc
  split at hc
  ·rename_i b hb
   cases hc
   exact (yR hb F O).1
  ·cases hc
 | global g=>cases hc;exact (h.gok g).mono (Fz.le_refl F) (Ow.le_nil O)
 | func f=>cases hc;exact .p (.v _ rfl)
theorem Rl.guard {G:Nat->AV} {B:Bd} {w0:World} {F0 F1:Fz} {O1:Ow} {F:Fz} {O:Ow} {st:St} {a:Act} {w:World} (h:Rl G B w0 F0 F1 O1 F O st a w) {t:Nat} {b:Bool} (hb:st.s.getD t zd = .v (.bool b)):a.tmps[t]? = some (.bool b):=by
 have hs:=h.slot t
 rw [hb] at hs
 have hs:=hs.pvC rfl
 have e:a.tmps.getD t undef = .bool b:=by generalize a.tmps.getD t undef=q at hs;cases hs;rfl
 rw [Array.getD_eq_getD_getElem?] at e
 cases hq:a.tmps[t]? with
 | none=>rw [hq] at e;cases e
 | some q=>rw [hq] at e;cases e;rfl
theorem Rl.guardU {G:Nat->AV} {B:Bd} {w0:World} {F0 F1:Fz} {O1:Ow} {F:Fz} {O:Ow} {st:St} {a:Act} {w:World} (h:Rl G B w0 F0 F1 O1 F O st a w) {t:Nat} (hb:st.s.getD t zd = .tup []):a.tmps.getD t undef = .tuple #[]:=by
 have hs:=h.slot t
 rw [hb] at hs
 generalize a.tmps.getD t undef=q at hs
 cases hs with
 | p hs=>cases hs with
  | tup cs as_ hl _=>cases cs with|nil=>rfl|cons c cs=>simp at hl
 | tup cs as_ hl _=>cases cs with|nil=>rfl|cons c cs=>simp at hl
section
variable {P:Program} {G:Nat->AV} {hs:List FuncId} {B:Bd} {w0:World} {F0 F1:Fz} {O1:Ow}
theorem wA {o:Oper} {f:FuncId} {c:Call} (hop:o.op = .call c) (hf:c.callee = .value (.func f)) (hb:zj P f=true) (a:Act) (w:World):(execOp a.eval o).run P w = .ok (.enter f (c.args.map a.eval)) w:=by
 unfold zj at hb
 split at hb
 ·rename_i fn hfn
  simp only [Bool.and_eq_true,bne_iff_ne,ne_eq] at hb
  have hbn:fn.body.isNone=false:=by cases hq:fn.body with
   | none=>rw [hq] at hb;simp at hb
   | some _=>rfl
  have hnm:(fn.name == "runtime.NumGoroutine")=false:=by simpa using hb.2
  simp only [execOp,hop,resolve,hf,Act.eval,Deferred.ofValue,Sem.run_bind,Sem.run_pure,Result.andThen_ok,invoke,callFunc,program,Sem.run,hfn,hnm,hbn,Bool.false_eq_true,if_false]
  simp
 ·cases hb
theorem callv_run {o:Oper} {t:Nat} {f:FuncId} {c:Call} (hop:o.op = .call c) (hf:c.callee = .value (.tmp t)) (hb:zj P f=true) (a:Act) {ys xs:List Value} (hv:a.tmps.getD t undef = .func (.func f) ys.toArray xs.toArray) (w:World):(execOp a.eval o).run P w = .ok (.enter f (ys.toArray++c.args.map a.eval++xs.toArray)) w:=by
 unfold zj at hb
 split at hb
 ·rename_i fn hfn
  simp only [Bool.and_eq_true,bne_iff_ne,ne_eq] at hb
  have hbn:fn.body.isNone=false:=by cases hq:fn.body with
   | none=>rw [hq] at hb;simp at hb
   | some _=>rfl
  have hnm:(fn.name == "runtime.NumGoroutine")=false:=by simpa using hb.2
  have he:a.eval (.tmp t) = .func (.func f) ys.toArray xs.toArray:=hv
  simp only [execOp,hop,resolve,hf,he,Deferred.ofValue,Sem.run_bind,Sem.run_pure,Result.andThen_ok,invoke,callFunc,program,Sem.run,hfn,hnm,hbn,Bool.false_eq_true,if_false]
 ·cases hb
theorem calli_run {o:Oper} {rc:Operand} {nm:String} {t:Nat} {f:FuncId} {c:Call} (hop:o.op = .call c) (hf:c.callee = .invoke rc nm) (hm:Mth P t nm f) (a:Act) {y:Value} (hv:a.eval rc = .iface t y) (w:World):(execOp a.eval o).run P w = .ok (.enter f (#[y]++c.args.map a.eval)) w:=by
 have e0:(#[Value.iface t y]++c.args.map a.eval)[0]? = some (Value.iface t y):=by rw [Array.getElem?_append_left (by simp)];rfl
 have e1:(#[Value.iface t y]++c.args.map a.eval).extract 1 (#[Value.iface t y]++c.args.map a.eval).size=c.args.map a.eval:=by apply Array.ext';simp;exact List.take_of_length_le (by simp)
 simp only [execOp,hop,resolve,hf,hv,Sem.run_bind,Sem.run_pure,Result.andThen_ok,invoke,e0,e1]
 exact hm y _ w
theorem fnA_ok {F:Fz} {O:Ow} {x:Value} {a:AV} {f:FuncId} {cs:List AV} (hx:VR F O x a) (h:fnA a=some (f,cs)):∃ xs:List Value,x = .func (.func f) #[] xs.toArray/\xs.length=cs.length/\∀ (i:Nat) (c:Value) (u:AV),xs[i]? = some c->cs[i]? = some u->VR F O c u:=by
 cases a with
 | fn g as_ =>
  cases h
  cases hx with
  | p h=>cases h with
   | fn f xs as_ hl h=>exact ⟨xs,rfl,hl,fun i c u hc hu=>.p (h i c u hc hu)⟩
  | fn f xs as_ hl h=>exact ⟨xs,rfl,hl,h⟩
 | v y =>
  have:=hx.pvC rfl
  cases this
  cases x with
  | func fn p q =>
   cases fn with
   | func g =>
    simp only [fnA] at h
    split at h
    ·rename_i e
     cases h
     have e1:p = #[]:=Array.eq_empty_of_size_eq_zero e.1
     have e2:q = #[]:=Array.eq_empty_of_size_eq_zero e.2
     subst e1;subst e2
     exact ⟨[],rfl,rfl,fun i c u hc=>by simp at hc⟩
    ·cases h
   | _=>cases h
  | _=>cases h
 | _=>cases h
set_option maxHeartbeats 2000000 in
theorem AWop_ok0 {o : Oper} {op : AOp} (hc : zZ P hs o = some op) {st : St} {a : Act} {w : World} {F : Fz} {O : Ow} (h : Rl G B w0 F0 F1 O1 F O st a w) {k : AV -> Hp -> Prop} (hk : yS P G (AX.ev G st.s) st.H op k)
  {K:Act->World->Prop} {Q:Exit->Act->World->Prop} (hK:∀ r H' x w',k r H'->Out B w0 F0 F O r H' x w'->K (a.put o.dst x) w'):o.wp P a w K Q:=by
 have gen:(∃ r H',eff P (AX.ev G st.s) st.H op=some (r,H')/\k r H')->o.wp P a w K Q:=fun ⟨r,H',he,hkr⟩=>by
  obtain ⟨nx,w',hrun,x,hnx,hout⟩:=op_ok (ρ:=a.eval) (ev:=AX.ev G st.s) hc (fun ty x ax hx=>h.operand ty x ax hx) (fun _=>rfl) h.own he
  unfold Oper.wp
  rw [hrun]
  rcases hnx with rfl|⟨rfl,rfl⟩
  ·exact hK r H' x w' hkr hout
  ·exact hK r H' undef w' hkr hout
 have calls:∀ f xs,(op = .call f xs\/op = .callh f xs\/op = .callm f xs)->∃ c,o.op = .call c/\c.callee = .value (.func f)/\zj P f=true/\(c.args.toList.map a.eval).length=(xs.map (AX.ev G st.s)).length/\∀ (i:Nat) (c':Value) (a':AV),(c.args.toList.map a.eval)[i]? = some c'->(xs.map (AX.ev G st.s))[i]? = some a'->VR F O c' a':=fun f xs hop=>by
  obtain ⟨dst,op',type,pos,after,guard⟩:=o
  cases op' with
  | call c =>
   obtain ⟨callee,args,ats⟩:=c
   refine ⟨_,rfl,?_⟩
   simp only [zZ] at hc
   split at hc
   ·exfalso
    repeat' (first|(cases hc;rcases hop with hop|hop|hop<;>cases hop;done)|(cases hc;done)|split at hc)
   ·rename_i f'
    split at hc
    ·rename_i hb
     split at hc
     ·rename_i as_ has
      split at hc
      ·rename_i hsz
       obtain ⟨q1,q2⟩:=Xw (F:=F) (O:=O) (ρ:=a.eval) (ev:=AX.ev G st.s) (fun ty x ax hx=>h.operand ty x ax hx) has (by simpa using hsz)
       cases hc
       (repeat' (split at hop))<;>rcases hop with hop|hop|hop<;>cases hop<;>exact ⟨rfl,hb,q1,q2⟩
      ·cases hc
     ·cases hc
    ·exfalso
     repeat' (first|(cases hc;rcases hop with hop|hop|hop<;>cases hop;done)|(cases hc;done)|split at hc)
   all_goals (exfalso;repeat' (first|(cases hc;rcases hop with hop|hop|hop<;>cases hop;done)|(cases hc;done)|split at hc))
  | _ =>
   exfalso
   rcases hop with rfl|rfl|rfl<;>simp only [zZ] at hc<;>repeat' (first|contradiction|(cases hc;done)|split at hc)
 have callv:∀ x xs,op = .callv x xs->∃ c t,o.op = .call c/\c.callee = .value (.tmp t)/\x = .t t/\(c.args.toList.map a.eval).length=(xs.map (AX.ev G st.s)).length/\∀ (i:Nat) (c':Value) (a':AV),(c.args.toList.map a.eval)[i]? = some c'->(xs.map (AX.ev G st.s))[i]? = some a'->VR F O c' a':=fun x xs hop=>by
  obtain ⟨dst,op',type,pos,after,guard⟩:=o
  cases op' with
  | call c =>
   obtain ⟨callee,args,ats⟩:=c
   simp only [zZ] at hc
   split at hc
   ·rename_i t
    split at hc
    ·rename_i as_ has
     split at hc
     ·rename_i hsz
      obtain ⟨q1,q2⟩:=Xw (F:=F) (O:=O) (ρ:=a.eval) (ev:=AX.ev G st.s) (fun ty x ax hx=>h.operand ty x ax hx) has (by simpa using hsz)
      cases hc
      cases hop
      exact ⟨_,t,rfl,rfl,rfl,q1,q2⟩
     ·cases hc
    ·cases hc
   all_goals (exfalso;repeat' (first|(cases hc;cases hop;done)|(cases hc;done)|split at hc))
  | _ =>
   exfalso
   subst hop;simp only [zZ] at hc<;>repeat' (first|contradiction|(cases hc;done)|split at hc)
 have calli:∀ nm x xs,op = .calli nm x xs->∃ c rc,o.op = .call c/\c.callee = .invoke rc nm/\cx P 0 rc=some x/\(c.args.toList.map a.eval).length=(xs.map (AX.ev G st.s)).length/\∀ (i:Nat) (c':Value) (a':AV),(c.args.toList.map a.eval)[i]? = some c'->(xs.map (AX.ev G st.s))[i]? = some a'->VR F O c' a':=fun nm x xs hop=>by
  obtain ⟨dst,op',type,pos,after,guard⟩:=o
  cases op' with
  | call c =>
   obtain ⟨callee,args,ats⟩:=c
   cases callee with
   | invoke rc nm' =>
    simp only [zZ] at hc
    split at hc
    ·rename_i x' as_ hx' has
     split at hc
     ·rename_i hsz
      obtain ⟨q1,q2⟩:=Xw (F:=F) (O:=O) (ρ:=a.eval) (ev:=AX.ev G st.s) (fun ty x ax hx=>h.operand ty x ax hx) has (by simpa using hsz)
      cases hc
      cases hop
      exact ⟨_,rc,rfl,rfl,hx',q1,q2⟩
     ·cases hc
    ·cases hc
   | _ =>
    exfalso
    subst hop
    simp only [zZ] at hc
    repeat' (first|contradiction|(cases hc;done)|split at hc)
  | _ =>
   exfalso
   subst hop;simp only [zZ] at hc<;>repeat' (first|contradiction|(cases hc;done)|split at hc)
 cases op with
 | calli nm x xs =>
  obtain ⟨t,ra,f,r,H',hx,hm,hpc,hkr⟩:=hk
  obtain ⟨c,rc,e1,e2,e3,e4,e5⟩:=calli nm x xs rfl
  obtain ⟨y,hy,hyv⟩:=h.own.recv (h.operand 0 rc x e3) hx
  unfold Oper.wp
  rw [calli_run e1 e2 hm a hy]
  simp only [Oper.upon]
  have hcall:=hpc B w0 F0 F O w (y::c.args.toList.map a.eval) h.own h.gok (by simp only [List.length_cons,e4]) (fun j c' a' hc' ha'=>by
   cases j with
   | zero=>simp at hc' ha';subst hc';subst ha';exact hyv
   | succ j=>exact e5 j c' a' (by simpa using hc') (by simpa using ha'))
  have earr:(y::c.args.toList.map a.eval).toArray = #[y]++c.args.map a.eval:=by apply Array.ext';simp
  rw [earr] at hcall
  refine hcall.mono ?_
  rintro e w' ⟨v,rfl,hout⟩
  exact hK r H' v w' hkr hout
 | callv x xs =>
  obtain ⟨f,as_,r,H',hcv,hb,hpc,hkr⟩:=hk
  obtain ⟨c,t,e1,e2,rfl,e4,e5⟩:=callv x xs rfl
  have cv:∃ y0 ys:List Value,a.tmps.getD t undef = .func (.func f) y0.toArray ys.toArray/\(y0++c.args.toList.map a.eval++ys).length=as_.length/\∀ (i:Nat) (c':Value) (a':AV),(y0++c.args.toList.map a.eval++ys)[i]? = some c'->as_[i]? = some a'->VR F O c' a':=by
   have fnc:∀ cs,fnA (AX.ev G st.s (.t t))=some (f,cs)->as_=xs.map (AX.ev G st.s)++cs->∃ y0 ys:List Value,a.tmps.getD t undef = .func (.func f) y0.toArray ys.toArray/\(y0++c.args.toList.map a.eval++ys).length=as_.length/\∀ (i:Nat) (c':Value) (a':AV),(y0++c.args.toList.map a.eval++ys)[i]? = some c'->as_[i]? = some a'->VR F O c' a':=fun cs hfn has=>by
    subst has
    obtain ⟨ys,y1,y2,y3⟩:=fnA_ok (h.slot t) hfn
    refine ⟨[],ys,y1,by simp only [List.nil_append,List.length_append,e4,y2],fun i c' a' hc' ha'=>?_⟩
    rw [List.nil_append] at hc'
    by_cases hi:i < (xs.map (AX.ev G st.s)).length
    ·rw [List.getElem?_append_left (by rw [e4]; exact hi)] at hc'
     rw [List.getElem?_append_left hi] at ha'
     exact e5 i c' a' hc' ha'
    ·rw [List.getElem?_append_right (by rw [e4]; omega), e4] at hc'
     rw [List.getElem?_append_right (by omega)] at ha'
     exact y3 _ c' a' hc' ha'
   unfold cvA at hcv
   split at hcv
   ·rename_i f' i g e off hx
    split at hcv
    ·rename_i ob hl
     cases hcv
     have hv:=h.slot t
     rw [show st.s.getD t zd = .bf f i g e off from hx] at hv
     obtain ⟨y,hy,hyv⟩:=h.own.bf hv hl
     refine ⟨[y],[],hy,by simp only [List.append_nil,List.length_append,List.length_cons,List.length_nil,e4];omega,fun j c' a' hc' ha'=>?_⟩
     rw [List.append_nil] at hc'
     cases j with
     | zero=>simp at hc' ha';subst hc';subst ha';exact hyv
     | succ j=>exact e5 j c' a' (by simpa using hc') (by simpa using ha')
    ·cases hcv
   ·split at hcv
    ·rename_i cs hfn
     cases hcv
     exact fnc cs hfn rfl
    ·cases hcv
  obtain ⟨y0,ys,y1,y2,y3⟩:=cv
  unfold Oper.wp
  rw [callv_run e1 e2 hb a y1]
  simp only [Oper.upon]
  have hcall:=hpc B w0 F0 F O w (y0++c.args.toList.map a.eval++ys) h.own h.gok y2 y3
  have earr:(y0++c.args.toList.map a.eval++ys).toArray=y0.toArray++c.args.map a.eval++ys.toArray:=by apply Array.ext';simp
  rw [earr] at hcall
  refine hcall.mono ?_
  rintro e w' ⟨v,rfl,hout⟩
  exact hK r H' v w' hkr hout
 | call f xs =>
  obtain ⟨as_,H1,r,hp,hpc,hkr⟩:=hk
  obtain ⟨c,e1,e2,e3,e4,e5⟩:=calls f xs (.inl rfl)
  obtain ⟨F',p1,p2,o1,l1⟩:=Y5 h.own e4 e5 hp
  unfold Oper.wp
  rw [wA e1 e2 e3]
  simp only [Oper.upon]
  have hcall:=hpc w F' (c.args.toList.map a.eval) o1.fr (h.gok.mono l1) (by rw [e4,p2]) p1
  have earr:(c.args.toList.map a.eval).toArray=c.args.map a.eval:=by apply Array.ext';simp
  rw [earr] at hcall
  refine hcall.mono ?_
  rintro e w' ⟨v,F'',rfl,hv,lF,hfr,hnew,hbel⟩
  refine hK r H1 v w' hkr ⟨F'',O,.p hv,?_,Fz.le_trans l1 lF,Ow.le_refl O⟩
  have ok:=o1.keep hbel
  refine ⟨ok.len,fun i d ob hd ho=>?_,ok.inj,hfr,Fz.le_trans ok.le lF,fun b o v hv=>?_,ok.below,ok.size,ok.kept,ok.kb⟩
  ·have rr := ok.row i d ob hd ho
   have rr0:=o1.row i d ob hd ho
   obtain ⟨cur,q1,q2,q3⟩:=rr.cur
   refine { rr with cur:=⟨cur,q1,q2,fun n j x a hx ha=>by obtain ⟨c,g1,g2⟩:=q3 n j x a hx ha;exact ⟨c,g1,g2.mono lF (Ow.le_refl O)⟩⟩,hf:=fun o v hv=>?_ }
   rcases hnew _ _ _ hv with h1|h1
   ·exact rr.hf o v h1
   ·exact absurd rr0.lt (Nat.not_lt.2 h1)
  ·rcases hnew _ _ _ hv with h1 | h1
   ·exact o1.new b o v h1
   ·exact .inr (o1.okGe h1)
 | callh f xs =>
  obtain ⟨r,H',hpc,hkr⟩:=hk
  obtain ⟨c,e1,e2,e3,e4,e5⟩:=calls f xs (.inr (.inl rfl))
  unfold Oper.wp
  rw [wA e1 e2 e3]
  simp only [Oper.upon]
  have hcall:=hpc B w0 F0 F O w (c.args.toList.map a.eval) h.own h.gok e4 e5
  have earr:(c.args.toList.map a.eval).toArray=c.args.map a.eval:=by apply Array.ext';simp
  rw [earr] at hcall
  refine hcall.mono ?_
  rintro e w' ⟨v,rfl,hout⟩
  exact hK r H' v w' hkr hout
 | callm f xs =>
  obtain ⟨r,Bs,hpc0,hkr⟩:=hk
  have hpc:=hpc0 st.H (fun _=>rfl)
  obtain ⟨c,e1,e2,e3,e4,e5⟩:=calls f xs (.inr (.inr rfl))
  unfold Oper.wp
  rw [wA e1 e2 e3]
  simp only [Oper.upon]
  have hcall:=hpc B w0 F0 F O w (c.args.toList.map a.eval) h.own h.gok e4 e5
  have earr:(c.args.toList.map a.eval).toArray=c.args.map a.eval:=by apply Array.ext';simp
  rw [earr] at hcall
  refine hcall.mono ?_
  rintro e w' ⟨v,rfl,hout⟩
  exact hK r (st.H++Bs) v w' hkr hout
 | _ =>
  refine gen ?_
  simp only [yS] at hk
  split at hk
  ·rename_i r H' he
   exact ⟨r,H',he,hk⟩
  ·exact hk.elim
theorem AWop_ok {o : Oper} {op : AOp} (hc : ZZ P hs o = op) {st : St} {a : Act} {w : World} {F : Fz} {O : Ow} (h : Rl G B w0 F0 F1 O1 F O st a w) {k : AV -> Hp -> Prop} (hk : yS P G (AX.ev G st.s) st.H op k)
  {K:Act->World->Prop} {Q:Exit->Act->World->Prop} (hK:∀ r H' x w',k r H'->Out B w0 F0 F O r H' x w'->K (a.put o.dst x) w'):o.wp P a w K Q:=by
 unfold ZZ at hc
 cases hq:zZ P hs o with
 | none =>
  rw [hq] at hc
  subst hc
  exact (show False from hk).elim
 | some op' =>
  rw [hq] at hc
  subst hc
  exact AWop_ok0 hq h hk hK
theorem AWop_slo {o : Oper} {k0 : Nat} {ax al : AX} (hc : zZ P hs o = some (.slc k0 ax (some al) none)) {st : St} {a : Act} {w : World} {F : Fz} {O : Ow} (h : Rl G B w0 F0 F1 O1 F O st a w) {k : AV -> Hp -> Prop} (hk : yS P G (AX.ev G st.s) st.H (.slo k0 ax al) k)
  {K:Act->World->Prop} {Q:Exit->Act->World->Prop} (hK:∀ r H' x w',k r H'->Out B w0 F0 F O r H' x w'->K (a.put o.dst x) w'):o.wp P a w K Q:=by
 simp only [yS] at hk
 split at hk
 ·rename_i r H' he
  obtain ⟨nx,w',hrun,x,hnx,hout⟩:=slo_ok (ρ:=a.eval) (ev:=AX.ev G st.s) hc (fun ty x ax hx=>h.operand ty x ax hx) h.own he
  unfold Oper.wp
  rw [hrun]
  rcases hnx with rfl|⟨rfl,rfl⟩
  ·exact hK r H' x w' hk hout
  ·exact hK r H' undef w' hk hout
 ·exact hk.elim
theorem x9 {o : Oper} {ops : Array Oper} {st : St} {a : Act} {w : World} {F : Fz} {O : Ow} (h : Rl G B w0 F0 F1 O1 F O st a w) {k : AV -> Hp -> Prop} (hk : yS P G (AX.ev G st.s) st.H (xV ops o.dst (ZZ P hs o)) k)
  {K:Act->World->Prop} {Q:Exit->Act->World->Prop} (hK:∀ r H' x w',k r H'->Out B w0 F0 F O r H' x w'->K (a.put o.dst x) w'):o.wp P a w K Q:=by
 unfold xV at hk
 split at hk
 ·rename_i k0 x l d hop hd
  split at hk
  ·refine AWop_slo (hs := hs) (k0 := k0) (ax := x) (al := l) ?_ h hk hK
   cases hq:zZ P hs o with
   | none=>simp [ZZ,hq] at hop
   | some q=>simp [ZZ,hq] at hop;rw [hop]
  ·exact AWop_ok (hs:=hs) hop h hk hK
 ·exact AWop_ok (hs:=hs) rfl h (convF_ok hk) hK
set_option maxHeartbeats 1000000 in
theorem AWop_nx {o : Oper} {ops : Array Oper} {x : AX} (hc : xV ops o.dst (ZZ P hs o) = .nxm x) {st : St} {a : Act} {w : World} {F : Fz} {O : Ow} (h : Rl G B w0 F0 F1 O1 F O st a w) {l : List (AV × Hp)} (hl : nxmA st.H (AX.ev G st.s x) = some l)
  {K:Act->World->Prop} {Q:Exit->Act->World->Prop} (hK:∀ p ∈ l,∀ v w',Out B w0 F0 F O p.1 p.2 v w'->K (a.put o.dst v) w'):o.wp P a w K Q:=by
 have h1:zZ P hs o=some (.nxm x):=by
  have h2:ZZ P hs o = .nxm x:=by
   unfold xV at hc
   split at hc
   ·split at hc
    ·cases hc
    ·rename_i hop _ _;rw [<- hop] at hc;exact hc
   ·generalize ZZ P hs o = q at hc
    unfold convF at hc
    split at hc
    ·split at hc<;>cases hc
    ·exact hc
  unfold ZZ at h2
  cases hq:zZ P hs o with
  | none=>rw [hq] at h2;cases h2
  | some q=>rw [hq] at h2;simp only [Option.getD_some] at h2;rw [h2]
 obtain ⟨dst,op',type,pos,after,guard⟩:=o
 cases op' with
 | next x' b =>
  cases b with
  | true=>simp [zZ] at h1
  | false =>
   simp only [zZ] at h1
   split at h1
   ·rename_i ax hx
    cases h1
    obtain ⟨u,w',p,hp,hrun,hout⟩:=nxm_run (P:=P) h.own (h.operand 0 x' _ hx) type hl
    unfold Oper.wp
    have e:(execOp a.eval { dst:=dst,op:=.next x' false,type:=type,pos:=pos,after:=after,guard:=guard }).run P w = .ok (.value u) w':=by simp [execOp,hrun]
    rw [e]
    exact hK p hp u w' hout
   ·cases h1
 | _ =>
  exfalso
  simp only [zZ] at h1
  repeat' (first|(cases h1;done)|split at h1)
  all_goals (first|contradiction|(simp_all;done))
end
section
variable {P:Program} {G:Nat->AV} {hs:List FuncId} {B:Bd} {w0:World} {F0 F1:Fz} {O1:Ow}
theorem AWi_ok {ops : Array Oper} {i : Nat} {o : Oper} {ai : AI} (hi : ops[i]? = some o) (hc : wL P hs ops o = some ai) {st : St} {a : Act} {w : World} {F : Fz} {O : Ow} (h : Rl G B w0 F0 F1 O1 F O st a w) {k : St -> Prop} (hk : AWi P G ai st k)
  {K:Act->World->Prop} {Q:Exit->Act->World->Prop} (hK:∀ st' a' w' F' O',k st'->Rl G B w0 F0 F1 O1 F' O' st' a' w'->K a' w'):wpOp P ops Q i K a w:=by
 unfold wpOp
 simp only [hi]
 simp only [wL] at hc
 split at hc
 ·rename_i hg
  cases hc
  have hw:Region.wanted o (yielded ops a.tmps)=true:=by unfold Region.wanted;rw [hg]
  simp only [hw,if_true]
  simp only [AWi] at hk
  exact .inl (x9 (hs:=hs) h hk fun r H' x w' hkr hout=>by
   obtain ⟨F',O',h'⟩:=h.put (d:=o.dst) hout
   exact hK _ _ _ F' O' hkr h')
 ·rename_i j want hg
  split at hc
  ·rename_i t ht
   cases hc
   simp only [AWi] at hk
   split at hk
   ·rename_i b hb
    have hy:yielded ops a.tmps j=some b:=by
     unfold yielded
     rw [ht]
     simp only [Option.bind_some,h.guard hb]
    by_cases hbw:b=want
    ·rw [if_pos hbw] at hk
     have hw:Region.wanted o (yielded ops a.tmps)=true:=by unfold Region.wanted;rw [hg];simp [hy,hbw]
     simp only [hw,if_true]
     exact .inl (x9 (hs:=hs) h hk fun r H' x w' hkr hout=>by
      obtain ⟨F',O',h'⟩:=h.put (d:=o.dst) hout
      exact hK _ _ _ F' O' hkr h')
    ·rw [if_neg hbw] at hk
     have hw:Region.wanted o (yielded ops a.tmps)=false:=by unfold Region.wanted;rw [hg];simp [hy,hbw]
     simp only [hw,Bool.false_eq_true,if_false]
     obtain ⟨F',O',h'⟩:=h.put (d:=o.dst) (r:=zd) (x:=undef) (Out.same h.own yE)
     exact hK _ _ _ F' O' hk h'
   ·rename_i hb
    have hu:=h.guardU hb
    have hy:yielded ops a.tmps j=none:=by
     unfold yielded
     rw [ht]
     simp only [Option.bind_some]
     rw [Array.getD_eq_getD_getElem?] at hu
     cases hq:a.tmps[t]? with
     | none=>rfl
     | some q=>rw [hq] at hu;simp only [Option.getD_some] at hu;subst hu;rfl
    have hw:Region.wanted o (yielded ops a.tmps)=false:=by unfold Region.wanted;rw [hg];simp [hy]
    simp only [hw,Bool.false_eq_true,if_false]
    obtain ⟨F',O',h'⟩:=h.put (d:=o.dst) (r:=zd) (x:=undef) (Out.same h.own yE)
    exact hK _ _ _ F' O' hk h'
   ·exact hk.elim
  ·cases hc
theorem AWs_ok {ops : Array Oper} {Q : Exit -> Act -> World -> Prop} {k : St -> Prop} (hK : ∀ st' a' w' F' O', k st' -> Rl G B w0 F0 F1 O1 F' O' st' a' w' -> Q .normal a' w') :
  ∀ (l:List Nat) (as_:List AI),l.length=as_.length->(∀ (j i:Nat) (ai:AI),l[j]? = some i->as_[j]? = some ai->∃ o,ops[i]? = some o/\wL P hs ops o=some ai) ->
  ∀ (st:St) (a:Act) (w:World) (F:Fz) (O:Ow),AWs P G as_ k st->Rl G B w0 F0 F1 O1 F O st a w->wpOps P ops Q l a w
 | [],[],_,_,st,a,w,F,O,hk,h=>hK st a w F O hk h
 | [],_::_,hl,_,_,_,_,_,_,_,_=>by simp at hl
 | _::_,[],hl,_,_,_,_,_,_,_,_=>by simp at hl
 | i::l,ai::as_,hl,hop,st,a,w,F,O,hk,h=>by
  rw [wpOps_cons]
  obtain ⟨o,ho,hc⟩:=hop 0 i ai rfl rfl
  simp only [AWs] at hk
  exact AWi_ok ho hc h hk fun st' a' w' F' O' hk' h'=>AWs_ok hK l as_ (by simpa using hl) (fun j i ai hj ha=>hop (j+1) i ai hj ha) st' a' w' F' O' hk' h'
theorem ZP:∀ {os:List Oper} {ops:Array Oper} {as_:List AI},xm P hs ops os=some as_->os.length=as_.length/\∀ (j:Nat) (o:Oper) (ai:AI),os[j]? = some o->as_[j]? = some ai->wL P hs ops o=some ai
 | [],ops,as_,h=>by cases h;exact ⟨rfl,fun j o ai hj=>by simp at hj⟩
 | o::os,ops,as_,h=>by
  simp only [xm] at h
  split at h
  ·rename_i a as' h1 h2
   cases h
   obtain ⟨q1,q2⟩:=ZP h2
   refine ⟨by simp [q1],fun j o' ai hj ha=>?_⟩
   cases j with
   | zero=>simp at hj ha;subst hj;subst ha;exact h1
   | succ j=>exact q2 j o' ai (by simpa using hj) (by simpa using ha)
  ·cases h
theorem region_text {ops : Array Oper} {id : Nat} {as_ : List AI} (hc : xm P hs ops ops.toList = some as_) {Q : Exit -> Act -> World -> Prop} {k : St -> Prop} (hK : ∀ st' a' w' F' O', k st' -> Rl G B w0 F0 F1 O1 F' O' st' a' w' -> Q .normal a' w')
  {st:St} {a:Act} {w:World} {F:Fz} {O:Ow} (hk:AWs P G as_ k st) (h:Rl G B w0 F0 F1 O1 F O st a w):(Code.region id ops false).wp P Q a w:=by
 obtain ⟨q1,q2⟩:=ZP hc
 refine wp_region (AWs_ok (hs:=hs) hK (List.range ops.size) as_ (by simpa using q1) (fun j i ai hj ha=>?_) st a w F O hk h)
 have hjl:j < ops.size:=by have:=(List.getElem?_eq_some_iff.1 hj).1;simpa using this
 rw [List.getElem?_range hjl] at hj
 cases hj
 exact ⟨ops[j],Array.getElem?_eq_getElem hjl,q2 j _ ai (by simp [hjl]) ha⟩
def AWx (P:Program) (G:Nat->AV):List AI->(St->Prop)->St->Prop
 | ⟨d,.nxm x,none⟩::os,k,st=>∃ l,nxmA st.H (AX.ev G st.s x)=some l/\∀ p ∈ l,AWs P G os k (st.put d p.1 p.2)
 | os,k,st=>AWs P G os k st
theorem region_textx {ops : Array Oper} {id : Nat} {as_ : List AI} (hc : xm P hs ops ops.toList = some as_) {Q : Exit -> Act -> World -> Prop} {k : St -> Prop} (hK : ∀ st' a' w' F' O', k st' -> Rl G B w0 F0 F1 O1 F' O' st' a' w' -> Q .normal a' w')
  {st:St} {a:Act} {w:World} {F:Fz} {O:Ow} (hk:AWx P G as_ k st) (h:Rl G B w0 F0 F1 O1 F O st a w):(Code.region id ops false).wp P Q a w:=by
 unfold AWx at hk
 split at hk
 ·rename_i _ _ d x os
  obtain ⟨l,hl,hp⟩:=hk
  obtain ⟨q1,q2⟩:=ZP hc
  have hn:ops.size=os.length+1:=by simpa using q1
  refine wp_region ?_
  rw [hn,List.range_succ_eq_map,wpOps_cons]
  have hi:ops[0]? = some (ops[0]'(by omega)):=Array.getElem?_eq_getElem (by omega)
  have hc0:=q2 0 (ops[0]'(by omega)) ⟨d,.nxm x,none⟩ (by rw [Array.getElem?_toList];exact hi) rfl
  generalize ops[0]'(by omega)=o at hi hc0
  unfold wpOp
  simp only [hi]
  simp only [wL] at hc0
  split at hc0
  ·rename_i hg
   injection hc0 with hc0
   injection hc0 with e1 e2 e3
   have hw:Region.wanted o (yielded ops a.tmps)=true:=by unfold Region.wanted;rw [hg]
   simp only [hw,if_true]
   refine .inl (AWop_nx (hs:=hs) e2 h hl fun p hpm v w' hout=>?_)
   obtain ⟨F',O',h'⟩:=h.put (d:=o.dst) hout
   rw [e1] at h'
   refine AWs_ok (hs:=hs) hK _ os (by simp) (fun j i ai hj ha=>?_) _ _ _ F' O' (hp p hpm) (by rw [e1];exact h')
   have hjl:j < os.length:=(List.getElem?_eq_some_iff.1 ha).1
   rw [List.getElem?_map,List.getElem?_range hjl] at hj
   cases hj
   exact ⟨ops[j+1]'(by omega),Array.getElem?_eq_getElem (by omega),q2 (j+1) _ ai (by rw [Array.getElem?_toList];exact Array.getElem?_eq_getElem (by omega)) (by simpa using ha)⟩
  ·split at hc0
   ·injection hc0 with hc0
    injection hc0 with e1 e2 e3
    cases e3
   ·cases hc0
 ·exact region_text hc hK hk h
theorem Rl.drew {st:St} {a:Act} {w:World} {F:Fz} {O:Ow} (h:Rl G B w0 F0 F1 O1 F O st a w):Rl G B w0 F0 F1 O1 F O st a { w with drawn:=w.drawn+1 } :=
 ⟨h.own.keep (Below.refl _ w).drew,h.size,h.slot,h.defs,h.gok,h.leF,h.leO⟩
theorem yT {ops : Array Oper} {id : Nat} {as_ : List AI} (hc : xm P hs ops ops.toList = some as_) {Q : Exit -> Act -> World -> Prop} {k : St -> Prop} (hK : ∀ st' a' w' F' O', k st' -> Rl G B w0 F0 F1 O1 F' O' st' a' w' -> Q .normal a' w')
  {st:St} {a:Act} {w:World} {F:Fz} {O:Ow} (hk:∀ t,∃ bs:List AI,bs.length=(Region.schedule (P.follows .mixedOrders) ops t).length/\(∀ (j i:Nat) (ai:AI),(Region.schedule (P.follows .mixedOrders) ops t)[j]? = some i->bs[j]? = some ai->as_[i]? = some ai)/\AWs P G bs k st)
  (h:Rl G B w0 F0 F1 O1 F O st a w):(Code.region id ops true).wp P Q a w:=by
 obtain ⟨q1,q2⟩:=ZP hc
 refine wp_region_draw fun t=>?_
 obtain ⟨bs,b1,b2,b3⟩:=hk t
 refine AWs_ok (hs:=hs) hK _ bs b1.symm (fun j i ai hj ha=>?_) st a _ F O b3 h.drew
 have hai:=b2 j i ai hj ha
 have hil:i < ops.size:=by have:=(List.getElem?_eq_some_iff.1 hai).1;rw [<- q1] at this;simpa using this
 exact ⟨ops[i],Array.getElem?_eq_getElem hil,q2 i _ ai (by simp [hil]) hai⟩
end
def fzm (i n:Nat) (H:Hp):Hp:=H.modify i fun ob=>{ ob with fz:=max ob.fz n }
def frz:Hp->List (Nat × Nat)->Hp
 | H,[]=>H
 | H,(i,n)::L=>frz (fzm i n H) L
theorem yQ (i n:Nat) (H:Hp) (j:Nat):(fzm i n H)[j]? = (H[j]?).map (fun ob=>if i=j then { ob with fz:=max ob.fz n } else ob):=by
 unfold fzm
 rw [List.getElem?_modify]
 cases H[j]? with
 | none=>rfl
 | some ob=>by_cases h:i=j<;>simp [h]
theorem Yr (i n:Nat) (H:Hp):(fzm i n H).length=H.length:=by simp [fzm]
theorem fzm_comm (i n j m:Nat) (H:Hp):fzm i n (fzm j m H)=fzm j m (fzm i n H):=by
 apply List.ext_getElem?
 intro x
 rw [yQ,yQ,yQ,yQ]
 cases H[x]? with
 | none=>rfl
 | some ob =>
  simp only [Option.map_some,Option.some.injEq]
  by_cases h1:i=x<;>by_cases h2:j=x<;>simp [h1,h2,Nat.max_assoc,Nat.max_comm n m]
theorem ym:∀ (L:List (Nat × Nat)) (H:Hp),(frz H L).length=H.length
 | [],H=>rfl
 | (i,n)::L,H=>by rw [frz,ym L,Yr]
theorem frz_fzm:∀ (L:List (Nat × Nat)) (i n:Nat) (H:Hp),frz (fzm i n H) L=fzm i n (frz H L)
 | [],i,n,H=>rfl
 | (j,m)::L,i,n,H=>by rw [frz,fzm_comm,frz_fzm L,frz]
theorem frz_comm:∀ (L1 L2:List (Nat × Nat)) (H:Hp),frz (frz H L1) L2=frz (frz H L2) L1
 | [],L2,H=>rfl
 | (i,n)::L1,L2,H=>by
  show frz (frz (fzm i n H) L1) L2=frz (fzm i n (frz H L2)) L1
  rw [frz_comm L1 L2,frz_fzm L2]
theorem xS:∀ (L1 L2:List (Nat × Nat)) (H:Hp),frz H (L1++L2)=frz (frz H L1) L2
 | [],L2,H=>rfl
 | (i,n)::L1,L2,H=>xS L1 L2 (fzm i n H)
theorem wn:∀ (L:List (Nat × Nat)) (H Bs:Hp),(∀ p ∈ L,p.1 < H.length)->frz (H++Bs) L=frz H L++Bs
 | [],H,Bs,_=>rfl
 | (i,n)::L,H,Bs,h=>by
  have hi:i < H.length:=h (i,n) (by simp)
  have e:fzm i n (H++Bs)=fzm i n H++Bs:=by
   apply List.ext_getElem?
   intro x
   rw [yQ]
   by_cases hx:x < H.length
   ·rw [List.getElem?_append_left hx,List.getElem?_append_left (by rw [Yr];exact hx),yQ]
   ·rw [List.getElem?_append_right (by omega), List.getElem?_append_right (by rw [Yr]; omega), Yr]
    cases Bs[x - H.length]? with
    | none=>rfl
    | some ob=>simp [show ¬ i=x by omega]
  show frz (fzm i n (H++Bs)) L=frz (fzm i n H) L++Bs
  rw [e]
  exact wn L _ Bs fun p hp=>by rw [Yr];exact h p (by simp [hp])
def SimH (base:Nat) (H H2:Hp):Prop:=∀ i,i < base->∃ ob ob2,H[i]? = some ob/\H2[i]? = some ob2/\ob2 = { ob with fz:=ob2.fz }
theorem SimH.refl {base:Nat} {H:Hp} (h:base<=H.length):SimH base H H:=fun i hi=>⟨H[i],H[i],List.getElem?_eq_getElem (by omega),List.getElem?_eq_getElem (by omega),rfl⟩
theorem SimH.symm {base:Nat} {H H2:Hp} (h:SimH base H H2):SimH base H2 H:=fun i hi=>by
 obtain ⟨ob,ob2,h1,h2,h3⟩:=h i hi
 exact ⟨ob2,ob,h2,h1,by rw [h3]⟩
theorem SimH.trans {base:Nat} {H H2 H3:Hp} (h:SimH base H H2) (k:SimH base H2 H3):SimH base H H3:=fun i hi=>by
 obtain ⟨ob,ob2,h1,h2,h3⟩:=h i hi
 obtain ⟨ob2',ob3,k1,k2,k3⟩:=k i hi
 rw [h2] at k1
 cases k1
 exact ⟨ob,ob3,h1,k2,by rw [k3,h3]⟩
theorem SimH.fzm {base:Nat} {H:Hp} (h:base<=H.length) (i n:Nat):SimH base H (fzm i n H):=fun j hj=>by
 refine ⟨H[j],(if i=j then { H[j] with fz:=max H[j].fz n } else H[j]),List.getElem?_eq_getElem (by omega),?_,?_⟩
 ·rw [yQ,List.getElem?_eq_getElem (by omega:j < H.length)];rfl
 ·by_cases hij:i=j<;>simp [hij]
theorem SimH.frz {base:Nat}:∀ (L:List (Nat × Nat)) {H:Hp},base<=H.length->SimH base H (frz H L)
 | [],H,h=>SimH.refl h
 | (i,n)::L,H,h=>(SimH.fzm h i n).trans (SimH.frz L (by rw [Yr];exact h))
theorem SimH.push {base:Nat} {H:Hp} (h:base<=H.length) (Bs:Hp):SimH base H (H++Bs):=fun i hi =>
 ⟨H[i],H[i],List.getElem?_eq_getElem (by omega),by rw [List.getElem?_append_left (by omega)];exact List.getElem?_eq_getElem (by omega),rfl⟩
theorem SimH.le {base:Nat} {H H2:Hp} (h:SimH base H H2):base<=H.length:=by
 rcases Nat.eq_zero_or_pos base with h0|h0
 ·omega
 ·obtain ⟨_, _, h1, _⟩ := h (base - 1) (by omega)
  have:=(List.getElem?_eq_some_iff.1 h1).1
  omega
theorem SimH.live {base:Nat} {H H2:Hp} (h:SimH base H H2) {i g:Nat} (hi:i < base):(∃ ob ob2,Sim.live H i g=some ob/\Sim.live H2 i g=some ob2/\ob2 = { ob with fz:=ob2.fz })\/(Sim.live H i g=none/\Sim.live H2 i g=none):=by
 obtain ⟨ob,ob2,h1,h2,h3⟩:=h i hi
 have hg:ob2.g=ob.g:=by rw [h3]
 unfold Sim.live
 rw [h1,h2]
 have he:ob2.e=ob.e:=by rw [h3]
 by_cases hgg:ob.g=g
 ·by_cases hm : (ob.e == 4000000000) = true
  ·right;simp only [hg,he,if_pos hgg,if_pos hm,and_self]
  ·left;exact ⟨ob,ob2,by simp only [if_pos hgg,if_neg hm],by simp only [hg,he,if_pos hgg,if_neg hm],h3⟩
 ·right;simp [hgg,hg]
theorem SimH.liveM {base:Nat} {H H2:Hp} (h:SimH base H H2) {i g:Nat} (hi:i < base):(∃ ob ob2,Sim.liveM H i g=some ob/\Sim.liveM H2 i g=some ob2/\ob2 = { ob with fz:=ob2.fz })\/(Sim.liveM H i g=none/\Sim.liveM H2 i g=none):=by
 obtain ⟨ob,ob2,h1,h2,h3⟩:=h i hi
 have hg:ob2.g=ob.g:=by rw [h3]
 have he:ob2.e=ob.e:=by rw [h3]
 have hk:ob2.k=ob.k:=by rw [h3]
 unfold Sim.liveM
 rw [h1,h2]
 by_cases hgg:ob.g=g
 ·by_cases hm : (ob.e == 4000000000 && Nat.ble 2 ob.k) = true
  ·left;exact ⟨ob,ob2,by simp only [if_pos hgg,if_pos hm],by simp only [hg,he,hk,if_pos hgg,if_pos hm],h3⟩
  ·right;simp only [hg,he,hk,if_pos hgg,if_neg hm,and_self]
 ·right;simp [hgg,hg]
theorem eff_congr {P:Program} {ev ev':AX->AV} {H:Hp} {op:AOp} (h:∀ x ∈ op.xs,ev x=ev' x):eff P ev H op=eff P ev' H op:=by
 cases op<;>simp only [AOp.xs] at h<;>simp only [eff]
 case bld z ps=>rw [show (ps.map fun p=>(p.1,p.2.1,ev p.2.2))=ps.map fun p=>(p.1,p.2.1,ev' p.2.2) from List.map_congr_left fun p hp=>by rw [h _ (List.mem_map.2 ⟨p,hp,rfl⟩)]]
 case bsl e k xs=>rw [List.map_congr_left h]
 case mkf f xs=>rw [List.map_congr_left h]
 case bi b ats ty cs xs=>rw [List.map_congr_left h]
 case sls t x lo hi=>cases lo<;>cases hi<;>simp_all
 case slc k x lo hi=>cases lo<;>cases hi<;>simp_all
 case sla n x lo hi=>cases lo<;>cases hi<;>simp_all
 all_goals (first|rfl|(simp_all;done))
section
variable (P:Program) (G:Nat->AV)
def Eff (ev:AX->AV) (H:Hp) (op:AOp) (r:AV) (H':Hp):Prop :=
 match op with
 | .call f xs=>∃ as_,yv H (xs.map ev)=some (as_,H')/\PC P G f as_ r
 | .callh f xs=>HC P G f (xs.map ev) H r H'
 | .callm f xs=>∃ Bs,(∀ H2:Hp,(Bs ≠ []->H2.length=H.length)->HC P G f (xs.map ev) H2 r (H2++Bs))/\H'=H++Bs
 | .callv x xs=>∃ f as_,cvA H (ev x) (xs.map ev)=some (f,as_)/\zj P f=true/\HC P G f as_ H r H'
 | .calli nm x xs=>∃ t rc f,XD H (ev x)=some (t,rc)/\Mth P t nm f/\HC P G f (rc::xs.map ev) H r H'
 | op=>eff P ev H op=some (r,H')
def OffA (w:Bool) (b:AV):Prop:=(∃ c,b = .v (.bool c)/\c ≠ w)\/b = .tup []
def Stp (o:AI) (st st':St):Prop :=
 match o.guard with
 | none=>∃ r H',Eff P G (AX.ev G st.s) st.H o.op r H'/\st'=st.put o.dst r H'
 | some (t,want)=>(st.s.getD t zd = .v (.bool want)/\∃ r H',Eff P G (AX.ev G st.s) st.H o.op r H'/\st'=st.put o.dst r H')\/(∃ b,st.s.getD t zd=b/\OffA want b/\st'=st.put o.dst zd st.H)
end
section
variable {P:Program} {G:Nat->AV}
theorem AWop_iff {ev:AX->AV} {H:Hp} {op:AOp} {k:AV->Hp->Prop}:yS P G ev H op k↔∃ r H',Eff P G ev H op r H'/\k r H':=by
 cases op with
 | call f xs=>exact ⟨fun ⟨as_,H1,r,h1,h2,h3⟩=>⟨r,H1,⟨as_,h1,h2⟩,h3⟩,fun ⟨r,H',⟨as_,h1,h2⟩,h3⟩=>⟨as_,H',r,h1,h2,h3⟩⟩
 | callh f xs=>exact Iff.rfl
 | callm f xs=>exact ⟨fun ⟨r,Bs,h1,h2⟩=>⟨r,_,⟨Bs,h1,rfl⟩,h2⟩,fun ⟨r,H',⟨Bs,h1,e⟩,h2⟩=>⟨r,Bs,h1,by rw [<- e];exact h2⟩⟩
 | callv x xs=>exact ⟨fun ⟨f,cs,r,H',h1,h2,h3,h4⟩=>⟨r,H',⟨f,cs,h1,h2,h3⟩,h4⟩,fun ⟨r,H',⟨f,cs,h1,h2,h3⟩,h4⟩=>⟨f,cs,r,H',h1,h2,h3,h4⟩⟩
 | calli nm x xs=>exact ⟨fun ⟨t,rc,f,r,H',h1,h2,h3,h4⟩=>⟨r,H',⟨t,rc,f,h1,h2,h3⟩,h4⟩,fun ⟨r,H',⟨t,rc,f,h1,h2,h3⟩,h4⟩=>⟨t,rc,f,r,H',h1,h2,h3,h4⟩⟩
 | _ =>
  simp only [yS,Eff]
  constructor
  ·intro h
   split at h
   ·rename_i r H' he;exact ⟨r,H',he,h⟩
   ·exact h.elim
  ·rintro ⟨r, H', he, hk⟩
   rw [he]
   exact hk
theorem AWi_iff {o:AI} {st:St} {k:St->Prop}:AWi P G o st k↔∃ st',Stp P G o st st'/\k st':=by
 unfold AWi Stp
 cases o.guard with
 | none =>
  simp only [AWop_iff]
  exact ⟨fun ⟨r,H',h1,h2⟩=>⟨_,⟨r,H',h1,rfl⟩,h2⟩,fun ⟨st',⟨r,H',h1,h2⟩,h3⟩=>⟨r,H',h1,by rw [<- h2];exact h3⟩⟩
 | some tw =>
  obtain ⟨t,want⟩:=tw
  simp only
  constructor
  ·intro h
   split at h
   ·rename_i b hb
    by_cases hbw:b=want
    ·rw [if_pos hbw, AWop_iff] at h
     obtain ⟨r,H',h1,h2⟩:=h
     subst hbw
     exact ⟨_,.inl ⟨hb,r,H',h1,rfl⟩,h2⟩
    ·rw [if_neg hbw] at h
     exact ⟨_,.inr ⟨_,rfl,.inl ⟨b,hb,hbw⟩,rfl⟩,h⟩
   ·rename_i hb
    exact ⟨_,.inr ⟨_,rfl,.inr hb,rfl⟩,h⟩
   ·exact h.elim
  ·rintro ⟨st', h, hk⟩
   rcases h with ⟨hb,r,H',h1,h2⟩|⟨b,hb,hoff,h2⟩
   ·rw [hb]
    simp only [if_true]
    rw [AWop_iff];exact ⟨r,H',h1,by rw [<- h2];exact hk⟩
   ·rw [hb]
    rcases hoff with ⟨c,rfl,hc⟩|rfl
    ·simp only
     rw [if_neg hc,<- h2];exact hk
    ·simp only
     rw [<- h2];exact hk
theorem lenA_any {H H2:Hp} {a:AV}:Zp H a=Zp H2 a:=by cases a<;>rfl
theorem cls0 {ev:AX->AV} {H:Hp} {op:AOp} (hc:op.cls=0) {r:AV} {H':Hp} (h:Eff P G ev H op r H'):H'=H/\∀ H2,Eff P G ev H2 op r H2:=by
 have fin:∀ {o:Hp->Option AV},(∀ H2,eff P ev H2 op=(o H2).map (·,H2))->(∀ H2 H3,o H2=o H3)->eff P ev H op=some (r,H')->H'=H/\∀ H2,eff P ev H2 op=some (r,H2):=fun {o} h1 h2 h3=>by
  rw [h1] at h3
  obtain ⟨e1,rfl⟩:=zT h3
  exact ⟨rfl,fun H2=>by rw [h1,h2 H2 H',e1];rfl⟩
 cases op<;>simp only [AOp.cls] at hc<;>(try omega)<;>simp only [Eff] at h ⊢
 case mv x=>cases h;exact ⟨rfl,fun _=>rfl⟩
 case len x=>exact fin (o:=fun H2=>(match Zp H2 (ev x) with|some n=>some (.v (.int .i64 (n:Int)))|none=>none)) (fun H2=>by simp only [eff];cases Zp H2 (ev x)<;>rfl) (fun H2 H3=>by rw [lenA_any (H2:=H3)]) h
 case mkf f xs=>cases h;exact ⟨rfl,fun _=>rfl⟩
 case eqs ng ks x y=>exact fin (o:=fun _=>wK ng ks (ev x) (ev y)) (fun _=>rfl) (fun _ _=>rfl) h
 case un op x=>exact fin (o:=fun _=>ap1 (fun v=>zh P (Op.unary op v)) (ev x)) (fun _=>rfl) (fun _ _=>rfl) h
 case mkm2 nm x=>exact fin (o:=fun _=>mk2A nm (ev x)) (fun _=>rfl) (fun _ _=>rfl) h
 case mki t x=>exact fin (o:=fun _=>mkiA t (ev x)) (fun _=>rfl) (fun _ _=>rfl) h
 case mkb f x=>exact fin (o:=fun _=>mkbA f (ev x)) (fun _=>rfl) (fun _ _=>rfl) h
 case cv s d x=>exact fin (o:=fun _=>ap1 (fun v=>zh P (convert s d v)) (ev x)) (fun _=>rfl) (fun _ _=>rfl) h
 case pick c a b =>
  simp only [eff] at h ⊢
  split at h
  ·rename_i b' hb
   cases h
   exact ⟨rfl,fun H2=>rfl⟩
  ·cases h
 case ext x i =>
  simp only [eff] at h ⊢
  split at h
  ·rename_i cs hcs
   obtain ⟨e1,rfl⟩:=zT h
   exact ⟨rfl,fun H2=>by rw [e1];rfl⟩
  ·cases h
 case bld z ps =>
  simp only [eff] at h ⊢
  cases hf:zx z (ps.map fun p=>(p.1,p.2.1,ev p.2.2)) with
  | none=>simp [hf] at h
  | some cs=>simp [hf] at h ⊢;exact ⟨h.2.symm,h.1⟩
 case fld agg off n x=>exact fin (o:=fun _=>zq agg off n (ev x)) (fun _=>rfl) (fun _ _=>rfl) h
 case idx t x i=>exact fin (o:=fun _=>ap2 (fun v j=>zh P (Instr.index t v j)) (ev x) (ev i)) (fun _=>rfl) (fun _ _=>rfl) h
 case ixa agg len k x i =>
  simp only [eff] at h ⊢
  split at h
  ·rename_i ix hix
   split at h
   ·rename_i hc2
    obtain ⟨e1,rfl⟩:=zT h
    exact ⟨rfl,fun H2=>by rw [e1,if_pos hc2];rfl⟩
   ·cases h
  ·cases h
 case sls t x lo hi =>
  simp only [eff] at h ⊢
  split at h
  ·split at h
   ·cases h
   ·cases h
   ·split at h
    ·obtain ⟨e1, rfl⟩ := zT h
     exact ⟨rfl,fun H2=>by rw [e1];rfl⟩
    ·cases h
  ·cases h
 case lns x =>
  simp only [eff] at h ⊢
  split at h
  ·cases h;exact ⟨rfl,fun _=>rfl⟩
  ·cases h
 case bi b ats ty cs xs =>
  simp only [eff] at h ⊢
  split at h
  ·split at h
   ·obtain ⟨e1, rfl⟩ := zT h
    exact ⟨rfl,fun H2=>by rw [e1];rfl⟩
   ·cases h
  ·cases h
theorem XN {H:Hp} {i n:Nat} {ob:OB} (h1:H[i]? = some ob):H.set i { ob with fz:=max ob.fz n } = fzm i n H:=by
 apply List.ext_getElem?
 intro x
 rw [yQ,List.getElem?_set]
 by_cases hx:i=x
 ·subst hx
  rw [h1]
  simp [(List.getElem?_eq_some_iff.1 h1).1]
 ·simp [hx]
theorem X9 {base:Nat} {H:Hp} (hb:base<=H.length) {a a':AV} {H':Hp} (hlt:ltC base a=true) (h:ZL H a=some (a',H')):∃ L:List (Nat × Nat),H'=frz H L/\(∀ p ∈ L,p.1 < base)/\∀ H2,SimH base H H2->ZL H2 a=some (a',frz H2 L):=by
 cases a with
 | ol i g n =>
  have hi:i < base:=by simpa [ltC] using hlt
  have hil:H[i]? = some H[i]:=List.getElem?_eq_getElem (by omega)
  simp only [ZL,hil] at h
  split at h
  ·rename_i hc
   cases h
   refine ⟨[(i,n)],XN hil,fun p hp=>by simp at hp;subst hp;exact hi,fun H2 hs=>?_⟩
   obtain ⟨ob,ob2,h1,h2,h3⟩:=hs i hi
   rw [hil] at h1
   cases h1
   have ek:ob2.k=H[i].k:=by rw [h3]
   have ee:ob2.es=H[i].es:=by rw [h3]
   have eg:ob2.g=H[i].g:=by rw [h3]
   simp only [ZL,h2]
   have eE:ob2.e=H[i].e:=by rw [h3]
   rw [eg,ee,ek,eE,if_pos hc]
   congr 2
   show _=fzm i n H2
   rw [<- XN h2]
   congr 1
   cases ob2
   simp_all
  ·cases h
 | nl k=>cases h;exact ⟨[],rfl,fun p hp=>by simp at hp,fun _ _=>rfl⟩
 | em b k=>cases h;exact ⟨[],rfl,fun p hp=>by simp at hp,fun _ _=>rfl⟩
 | v x=>cases h;exact ⟨[],rfl,fun p hp=>by simp at hp,fun _ _=>rfl⟩
 | sl k es=>cases h;exact ⟨[],rfl,fun p hp=>by simp at hp,fun _ _=>rfl⟩
 | ad k es i off=>cases h;exact ⟨[],rfl,fun p hp=>by simp at hp,fun _ _=>rfl⟩
 | os i g lo n=>cases h
 | agg cs=>cases h
 | tup cs=>cases h
 | io t i g e off=>cases h
 | mp i g=>cases h
 | oc i g n c=>cases h
 | mf nm t i g e off=>cases h
 | bf f i g e off=>cases h
 | ib t f i g e off=>cases h
 | oa i g e off =>
  have hi:i < base:=by simpa [ltC] using hlt
  have hil:H[i]? = some H[i]:=List.getElem?_eq_getElem (by omega)
  simp only [ZL,hil] at h
  split at h
  ·rename_i hc
   cases h
   refine ⟨[(i,(H[i]).es.length)],XN hil,fun p hp=>by simp at hp;subst hp;exact hi,fun H2 hs=>?_⟩
   obtain ⟨ob,ob2,h1,h2,h3⟩:=hs i hi
   rw [hil] at h1
   cases h1
   have ek:ob2.k=H[i].k:=by rw [h3]
   have ee:ob2.es=H[i].es:=by rw [h3]
   have eg:ob2.g=H[i].g:=by rw [h3]
   simp only [ZL,h2]
   have eE:ob2.e=H[i].e:=by rw [h3]
   rw [eg,ee,ek,eE,if_pos hc]
   congr 2
   show _=fzm i _ H2
   rw [<- XN h2]
   congr 1
   cases ob2
   simp_all
  ·cases h
 | fn f cs =>
  simp only [ZL] at h
  split at h
  ·rename_i hc
   cases h
   exact ⟨[],rfl,fun p hp=>by simp at hp,fun _ _=>by simp only [ZL,hc,if_true];rfl⟩
  ·cases h
 | unk=>cases h
theorem SimH.frz2 {base:Nat} {H H2:Hp} (hs:SimH base H H2) (L:List (Nat × Nat)):SimH base (Sim.frz H L) (Sim.frz H2 L):=((SimH.frz L hs.le).symm.trans hs).trans (SimH.frz L hs.symm.le)
theorem X8 {base:Nat}:∀ {as_ as':List AV} {H H':Hp},base<=H.length->as_.all (ltC base)=true->xt H as_=some (as',H')->∃ L:List (Nat × Nat),H'=frz H L/\(∀ p ∈ L,p.1 < base)/\∀ H2,SimH base H H2->xt H2 as_=some (as',frz H2 L)
 | [],as',H,H',hb,_,h=>by cases h;exact ⟨[],rfl,fun p hp=>by simp at hp,fun _ _=>rfl⟩
 | a::as_,as',H,H',hb,hlt,h=>by
  simp only [List.all_cons,Bool.and_eq_true] at hlt
  simp only [xt] at h
  split at h
  ·rename_i a1 H1 h1
   split at h
   ·rename_i as1 H3 h2
    cases h
    obtain ⟨L1,e1,l1,q1⟩:=X9 hb hlt.1 h1
    subst e1
    obtain ⟨L2,e2,l2,q2⟩:=X8 (by rw [ym];exact hb) hlt.2 h2
    refine ⟨L1++L2,by rw [xS,e2],fun p hp=>(List.mem_append.1 hp).elim (l1 p) (l2 p),fun H2 hs=>?_⟩
    simp only [xt,q1 H2 hs,q2 _ (hs.frz2 L1),xS]
   ·cases h
  ·cases h
theorem pur_frz {base:Nat} {a a':AV} {H H':Hp} (hb:base<=H.length) (hlt:ltB base a=true) (h:pur H a=some (a',H')):∃ L:List (Nat × Nat),H'=frz H L/\(∀ p ∈ L,p.1 < base)/\∀ H2,SimH base H H2->pur H2 a=some (a',frz H2 L):=by
 by_cases hg:∃ cs,a = .agg cs
 ·obtain ⟨cs, rfl⟩ := hg
  simp only [pur] at h ⊢
  split at h
  ·rename_i cs' H1 h1
   cases h
   obtain ⟨L,e,l,q⟩:=X8 hb hlt h1
   exact ⟨L,e,l,fun H2 hs=>by rw [q H2 hs]⟩
  ·cases h
 ·by_cases hg2 : ∃ f cs, a = .fn f cs
  ·obtain ⟨f, cs, rfl⟩ := hg2
   simp only [pur] at h ⊢
   split at h
   ·rename_i cs' H1 h1
    cases h
    obtain ⟨L,e,l,q⟩:=X8 hb hlt h1
    exact ⟨L,e,l,fun H2 hs=>by rw [q H2 hs]⟩
   ·cases h
  ·have e1:∀ H,pur H a=ZL H a:=fun H=>by cases a<;>first|rfl|exact absurd ⟨_,rfl⟩ hg|exact absurd ⟨_,_,rfl⟩ hg2
   have e2:ltC base a=true:=by cases a<;>first|exact hlt|exact absurd ⟨_,rfl⟩ hg|exact absurd ⟨_,_,rfl⟩ hg2
   rw [e1] at h
   obtain ⟨L,e,l,q⟩:=X9 hb e2 h
   exact ⟨L,e,l,fun H2 hs=>by rw [e1];exact q H2 hs⟩
theorem purA_frz {base:Nat}:∀ {as_ as':List AV} {H H':Hp},base<=H.length->as_.all (ltB base)=true->yv H as_=some (as',H')->∃ L:List (Nat × Nat),H'=frz H L/\(∀ p ∈ L,p.1 < base)/\∀ H2,SimH base H H2->yv H2 as_=some (as',frz H2 L)
 | [],as',H,H',hb,_,h=>by cases h;exact ⟨[],rfl,fun p hp=>by simp at hp,fun _ _=>rfl⟩
 | a::as_,as',H,H',hb,hlt,h=>by
  simp only [List.all_cons,Bool.and_eq_true] at hlt
  simp only [yv] at h
  split at h
  ·rename_i a1 H1 h1
   split at h
   ·rename_i as1 H3 h2
    cases h
    obtain ⟨L1,e1,l1,q1⟩:=pur_frz hb hlt.1 h1
    subst e1
    obtain ⟨L2,e2,l2,q2⟩:=purA_frz (by rw [ym];exact hb) hlt.2 h2
    refine ⟨L1++L2,by rw [xS,e2],fun p hp=>(List.mem_append.1 hp).elim (l1 p) (l2 p),fun H2 hs=>?_⟩
    simp only [yv,q1 H2 hs,q2 _ (hs.frz2 L1),xS]
   ·cases h
  ·cases h
theorem loadA_sim {base:Nat} {H H2:Hp} (hs:SimH base H H2) {agg:Bool} {n:Nat} {a:AV} (hlt:ltB base a=true):zr H agg n a=zr H2 agg n a:=by
 cases a with
 | oa i g e off =>
  have hi:i < base:=by simpa [ltB,ltC] using hlt
  simp only [zr]
  rcases hs.live (g:=g) hi with ⟨ob,ob2,h1,h2,h3⟩|⟨h1,h2⟩
  ·rw [h1,h2];simp only;rw [h3]
  ·rw [h1,h2]
 | _=>rfl
theorem xd {base:Nat} {H H2:Hp} (hs:SimH base H H2) {a:AV} (hlt:ltB base a=true):zo H a=zo H2 a:=by
 cases a with
 | oa i g e off =>
  have hi:i < base:=by simpa [ltB,ltC] using hlt
  simp only [zo]
  rcases hs.live (g:=g) hi with ⟨ob,ob2,h1,h2,h3⟩|⟨h1,h2⟩<;>rw [h1,h2]<;>rfl
 | _=>rfl
theorem samePt_sim {P:Program} {t:TypeId} {base:Nat} {H H2:Hp} (hs:SimH base H H2) {a b:AV} (h1:ltB base a=true) (h2:ltB base b=true):xr P t H a b=xr P t H2 a b:=by
 unfold xr
 rw [xd hs h1,xd hs h2]
theorem isRow_sim {base:Nat} {H H2:Hp} (hs:SimH base H H2) {a:AV} (hlt:ltB base a=true):YW H a=YW H2 a:=by
 cases a with
 | ol i g n =>
  have hi:i < base:=by simpa [ltB,ltC] using hlt
  simp only [YW]
  rcases hs.live (g:=g) hi with ⟨ob,ob2,h1,h2,h3⟩|⟨h1,h2⟩<;>rw [h1,h2]<;>rfl
 | _=>rfl
theorem isFn_sim {base:Nat} {H H2:Hp} (hs:SimH base H H2) {a:AV} (hlt:ltB base a=true):isFn H a=isFn H2 a:=by
 cases a with
 | bf f i g e off =>
  have hi:i < base:=by simpa [ltB,ltC] using hlt
  simp only [isFn]
  rcases hs.live (g:=g) hi with ⟨ob,ob2,h1,h2,h3⟩|⟨h1,h2⟩<;>rw [h1,h2]<;>rfl
 | _=>rfl
theorem isIf_sim {base:Nat} {H H2:Hp} (hs:SimH base H H2) {a:AV} (hlt:ltB base a=true):WH H a=WH H2 a:=by
 cases a with
 | io t i g e off =>
  have hi:i < base:=by simpa [ltB,ltC] using hlt
  simp only [WH]
  rcases hs.live (g:=g) hi with ⟨ob,ob2,h1,h2,h3⟩|⟨h1,h2⟩<;>rw [h1,h2]<;>rfl
 | ib t f i g e off =>
  have hi:i < base:=by simpa [ltB,ltC] using hlt
  simp only [WH]
  rcases hs.live (g:=g) hi with ⟨ob,ob2,h1,h2,h3⟩|⟨h1,h2⟩<;>rw [h1,h2]<;>rfl
 | _=>rfl
theorem nilA_sim {base:Nat} {H H2:Hp} (hs:SimH base H H2) {a:AV} (hlt:ltB base a=true):Zr H a=Zr H2 a:=by
 cases a with
 | oa i g e off =>
  have hi:i < base:=by simpa [ltB,ltC] using hlt
  simp only [Zr]
  rcases hs.live (g:=g) hi with ⟨ob,ob2,h1,h2,h3⟩|⟨h1,h2⟩<;>rw [h1,h2]
 | _=>rfl
theorem nilB_sim {base:Nat} {H H2:Hp} (hs:SimH base H H2) {a:AV} (hlt:ltB base a=true):wI P H a=wI P H2 a:=by
 cases a with
 | mf nm t i g e off =>
  have hi:i < base:=by simpa [ltB,ltC] using hlt
  simp only [wI]
  rcases hs.live (g:=g) hi with ⟨ob,ob2,h1,h2,h3⟩|⟨h1,h2⟩
  ·rw [h1,h2]
  ·rw [h1,h2]
 | _=>exact nilA_sim hs hlt
theorem moveA_sim {base:Nat} {H H2:Hp} (hs:SimH base H H2) {off:Nat} {a:AV} (hlt:ltB base a=true):zt off H a=zt off H2 a:=by
 cases a with
 | oa i g e o =>
  have hi:i < base:=by simpa [ltB,ltC] using hlt
  simp only [zt]
  rcases hs.live (g:=g) hi with ⟨ob,ob2,h1,h2,h3⟩|⟨h1,h2⟩<;>rw [h1,h2]
 | _=>rfl
theorem lkpA_sim {base:Nat} {H H2:Hp} (hs:SimH base H H2) {kd:Kd} {c:Bool} {z a b:AV} (hlt:ltB base a=true):wJ H kd c z a b=wJ H2 kd c z a b:=by
 cases a with
 | mp i g =>
  have hi:i < base:=by simpa [ltB,ltC] using hlt
  simp only [wJ]
  rcases hs.liveM (g:=g) hi with ⟨ob,ob2,h1,h2,h3⟩|⟨h1,h2⟩
  ·rw [h1,h2];simp only;rw [h3]
  ·rw [h1,h2]
 | v x =>
  cases x with
  | map m=>cases m<;>rfl
  | _=>rfl
 | _=>rfl
theorem lnmA_sim {base:Nat} {H H2:Hp} (hs:SimH base H H2) {a:AV} (hlt:ltB base a=true):wk H a=wk H2 a:=by
 cases a with
 | mp i g =>
  have hi:i < base:=by simpa [ltB,ltC] using hlt
  simp only [wk]
  rcases hs.liveM (g:=g) hi with ⟨ob,ob2,h1,h2,h3⟩|⟨h1,h2⟩
  ·rw [h1,h2];simp only;rw [h3]
  ·rw [h1,h2]
 | _=>rfl
theorem elemA_sim {base:Nat} {H H2:Hp} (hs:SimH base H H2) {k:Nat} {a:AV} {ix:Int} (hlt:ltB base a=true):zu k H a ix=zu k H2 a ix:=by
 cases a with
 | ol i g n =>
  have hi:i < base:=by simpa [ltB,ltC] using hlt
  simp only [zu]
  rcases hs.live (g:=g) hi with ⟨ob,ob2,h1,h2,h3⟩|⟨h1,h2⟩
  ·rw [h1,h2];simp only;rw [h3]
  ·rw [h1,h2]
 | _=>rfl
theorem sloA_sim {base:Nat} {H H2:Hp} (hs:SimH base H H2) {k:Nat} {a:AV} {ix:Int} (hlt:ltB base a=true):Wr k H a ix=Wr k H2 a ix:=by
 cases a with
 | ol i g n =>
  have hi:i < base:=by simpa [ltB,ltC] using hlt
  simp only [Wr]
  rcases hs.live (g:=g) hi with ⟨ob,ob2,h1,h2,h3⟩|⟨h1,h2⟩
  ·rw [h1,h2];simp only;rw [h3]
  ·rw [h1,h2]
 | _=>rfl
theorem mono {base : Nat} {ev : AX -> AV} {H : Hp} {op : AOp} (hc : op.cls <= 3) (hb : base <= H.length) (hlt : op.cls = 1 \/ op.cls = 2 -> (op.xs.all fun x => ltB base (ev x)) = true) {r : AV} {H' : Hp} (h : Eff P G ev H op r H') :
  ∃ (L:List (Nat × Nat)) (Bs:Hp),H'=frz H L++Bs/\(∀ p ∈ L,p.1 < base)/\(op.cls ≠ 3->Bs=[])/\∀ H2,SimH base H H2->(Bs ≠ []->H2.length=H.length)->Eff P G ev H2 op r (frz H2 L++Bs):=by
 have keep:H'=H->(∀ H2,SimH base H H2->Eff P G ev H2 op r H2)->∃ (L:List (Nat × Nat)) (Bs:Hp),H'=frz H L++Bs/\(∀ p ∈ L,p.1 < base)/\(op.cls ≠ 3->Bs=[])/\∀ H2,SimH base H H2->(Bs ≠ []->H2.length=H.length)->Eff P G ev H2 op r (frz H2 L++Bs):=fun e f =>
  ⟨[],[],by simp [frz,e],fun p hp=>(by simp at hp),fun _=>rfl,fun H2 hs _=>by simpa [frz] using f H2 hs⟩
 by_cases h0:op.cls=0
 ·obtain ⟨e, f⟩ := cls0 h0 h
  exact keep e fun H2 _=>f H2
 have look:∀ {o:Hp->Option AV},(∀ H2,eff P ev H2 op=(o H2).map (·,H2))->(∀ H2,SimH base H H2->o H=o H2)->eff P ev H op=some (r,H')->H'=H/\∀ H2,SimH base H H2->eff P ev H2 op=some (r,H2):=fun {o} h1 h2 h3=>by
  rw [h1] at h3
  obtain ⟨e1,rfl⟩:=zT h3
  exact ⟨rfl,fun H2 hs=>by rw [h1,<- h2 H2 hs,e1];rfl⟩
 cases op<;>simp only [AOp.cls] at hc h0 hlt<;>(try omega)<;>(try exact absurd trivial h0)<;>(try simp only [AOp.xs,List.all_cons,List.all_nil,Bool.and_true,Bool.and_eq_true,true_or,or_true,forall_const] at hlt)
 case bin op t pt xo yo x y =>
  obtain ⟨e,f⟩:=look (o:=fun H2=>zY P H2 op t pt xo yo (ev x) (ev y)) (fun _=>rfl) (fun H2 hs=>by
   unfold zY wh fnCmp ifCmp
   rw [samePt_sim hs hlt.1 hlt.2,xd hs hlt.1,xd hs hlt.2,isRow_sim hs hlt.1,isRow_sim hs hlt.2,isFn_sim hs hlt.1,isFn_sim hs hlt.2,isIf_sim hs hlt.1,isIf_sim hs hlt.2]) h
  exact keep e f
 case load agg n x =>
  obtain ⟨e,f⟩:=look (o:=fun H2=>zr H2 agg n (ev x)) (fun _=>rfl) (fun H2 hs=>loadA_sim hs hlt) h
  exact keep e f
 case nilc x =>
  obtain ⟨e,f⟩:=look (o:=fun H2=>wI P H2 (ev x)) (fun _=>rfl) (fun H2 hs=>nilB_sim hs hlt) h
  exact keep e f
 case fad off x =>
  obtain ⟨e,f⟩:=look (o:=fun H2=>zt off H2 (ev x)) (fun _=>rfl) (fun H2 hs=>moveA_sim hs hlt) h
  exact keep e f
 case lkp kd c z x i =>
  obtain ⟨e,f⟩:=look (o:=fun H2=>wJ H2 kd c z (ev x) (ev i)) (fun _=>rfl) (fun H2 hs=>lkpA_sim hs hlt.1) h
  exact keep e f
 case lnm x =>
  obtain ⟨e,f⟩:=look (o:=fun H2=>(match wk H2 (ev x) with|some n=>some (.v (.int .i64 (n:Int)))|none=>none)) (fun H2=>by simp only [eff];cases wk H2 (ev x)<;>rfl) (fun H2 hs=>by rw [lnmA_sim hs hlt]) h
  exact keep e f
 case iad k x i =>
  obtain ⟨e,f⟩:=look (o:=fun H2=>(match zR (ev i) with|some ix=>zu k H2 (ev x) ix|none=>none)) (fun H2=>by simp only [eff];cases zR (ev i)<;>rfl) (fun H2 hs=>by
   cases zR (ev i) with
   | none=>rfl
   | some ix=>exact elemA_sim hs hlt.1) h
  exact keep e f
 case slo k x i =>
  obtain ⟨e,f⟩:=look (o:=fun H2=>(match zR (ev i) with|some ix=>Wr k H2 (ev x) ix|none=>none)) (fun H2=>by simp only [eff];cases zR (ev i)<;>rfl) (fun H2 hs=>by
   cases zR (ev i) with
   | none=>rfl
   | some ix=>exact sloA_sim hs hlt.1) h
  exact keep e f
 case iaa len k x i =>
  obtain ⟨e,f⟩:=look (o:=fun H2=>(match zR (ev i) with|some ix=>if 0<=ix/\ix.toNat < len then zt (ix.toNat * k) H2 (ev x) else none|none=>none)) (fun H2=>by
   simp only [eff]
   cases zR (ev i) with
   | none=>rfl
   | some ix=>simp only;split<;>rfl) (fun H2 hs=>by
   cases zR (ev i) with
   | none=>rfl
   | some ix=>simp only;rw [moveA_sim hs hlt.1]) h
  exact keep e f
 case slc k x lo hi =>
  simp only [Eff] at h ⊢
  have hx:ltB base (ev x)=true:=by
   have:=hlt
   simp only [List.cons_append,List.nil_append,List.all_cons,Bool.and_eq_true] at this
   exact this.1
  have e0 : ∀ H2, eff P ev H2 (.slc k x lo hi) = (match (lo.map ev).map zR, (hi.map ev).map zR with
    | some none,_|_,some none=>none
    | l,h=>zg k H2 (ev x) (l.bind id) (h.bind id)):=fun _=>rfl
  have key:∀ l' h',zg k H (ev x) l' h'=some (r,H')->∃ (L:List (Nat × Nat)),H'=frz H L/\(∀ p ∈ L,p.1 < base)/\∀ H2,SimH base H H2->zg k H2 (ev x) l' h'=some (r,frz H2 L):=fun l' h' hs=>by
   generalize ev x=a at hs hx
   cases a with
   | nl k' =>
    simp only [zg] at hs ⊢
    split at hs
    ·rename_i hk
     cases hs
     exact ⟨[],rfl,fun p hp=>by simp at hp,fun H2 _=>by rw [if_pos hk];rfl⟩
    ·cases hs
   | sl k' es =>
    simp only [zg] at hs ⊢
    split at hs
    ·rename_i hk
     split at hs
     ·rename_i r' hcut
      cases hs
      exact ⟨[],rfl,fun p hp=>by simp at hp,fun H2 _=>by rw [if_pos hk];rfl⟩
     ·cases hs
    ·cases hs
   | ol i g n =>
    have hi:i < base:=by simpa [ltB,ltC] using hx
    simp only [zg] at hs ⊢
    split at hs
    ·rename_i hl0
     split at hs
     ·rename_i ob hlv
      split at hs
      ·rename_i hcnd
       cases hs
       refine ⟨[],rfl,fun p hp=>by simp at hp,fun H2 hs=>?_⟩
       rcases hs.live (g:=g) hi with ⟨ob1,ob2,h1,h2,h3⟩|⟨h1,h2⟩
       ·rw [if_pos hl0,h2];simp only;rw [if_pos hcnd];rfl
       ·rw [hlv] at h1;cases h1
      ·cases hs
     ·cases hs
    ·rename_i hl0
     split at hs
     ·rename_i k' es H1 hp
      split at hs
      ·rename_i hk
       split at hs
       ·rename_i r' hcut
        cases hs
        have hx':ltC base (.ol i g n)=true:=hx
        obtain ⟨L,e1,l1,q1⟩:=X9 hb hx' hp
        refine ⟨L,e1,l1,fun H2 hs=>?_⟩
        rw [if_neg hl0,q1 H2 hs]
        simp only
        rw [if_pos hk,hcut]
       ·cases hs
      ·cases hs
     ·cases hs
   | _=>cases hs
  rw [e0] at h
  split at h
  ·cases h
  ·cases h
  ·rename_i n1 n2
   obtain ⟨L,e1,l1,q1⟩:=key _ _ h
   refine ⟨L,[],by simpa using e1,l1,fun _=>rfl,fun H2 hs _=>?_⟩
   rw [e0,List.append_nil]
   have:=q1 H2 hs
   split
   ·exact (n1 (by assumption)).elim
   ·exact (n2 (by assumption)).elim
   ·exact this
 case call f xs =>
  obtain ⟨as_,hp,hpc⟩:=h
  have hall:(xs.map ev).all (ltB base)=true:=by rw [List.all_map];exact hlt
  obtain ⟨L,e1,l1,q1⟩:=purA_frz hb hall hp
  exact ⟨L,[],by simpa using e1,l1,fun _=>rfl,fun H2 hs _=>⟨as_,by rw [List.append_nil];exact q1 H2 hs,hpc⟩⟩
 case new e k x =>
  simp only [Eff,eff] at h ⊢
  split at h
  ·rename_i hcond
   cases h
   exact ⟨[],[⟨e,k,[ev x],0,0⟩],rfl,fun p hp=>(by simp at hp),fun hn=>absurd rfl hn,fun H2 hs hlen=>by rw [if_pos hcond,hlen (by simp)];rfl⟩
  ·cases h
 case bsl e k xs =>
  simp only [Eff,eff] at h ⊢
  split at h
  ·rename_i hcond
   cases h
   exact ⟨[],[⟨e,k,xs.map ev,0,0⟩],rfl,fun p hp=>(by simp at hp),fun hn=>absurd rfl hn,fun H2 hs hlen=>by rw [if_pos hcond,hlen (by simp)];rfl⟩
  ·cases h
 case callm f xs =>
  obtain ⟨Bs,h1,rfl⟩:=h
  exact ⟨[],Bs,by simp [frz],fun p hp=>(by simp at hp),fun hn=>absurd rfl hn,fun H2 hs hlen=>⟨Bs,fun H3 h3=>h1 H3 fun hne=>by rw [h3 hne,hlen hne],by simp [frz]⟩⟩
 case apz e k bytes z s n =>
  simp only [Eff,eff] at h ⊢
  split at h
  ·rename_i k' m hs hm
   split at h
   ·rename_i hcond
    cases h
    exact ⟨[],[⟨e,k,List.replicate m.toNat z,0,0⟩],rfl,fun p hp=>(by simp at hp),fun hn=>absurd rfl hn,fun H2 hs hlen=>by rw [if_pos hcond,hlen (by simp)];rfl⟩
   ·cases h
  ·cases h
 case mkm ag m =>
  simp only [Eff,eff] at h ⊢
  cases h
  exact ⟨[],[⟨ZM,m+2,[.agg (.v (.int .i64 0) :: .v (.bool ag)::List.replicate m (.v (.bool false)))],0,0⟩],rfl,fun p hp=>(by simp at hp),fun hn=>absurd rfl hn,fun H2 hs hlen=>by rw [hlen (by simp)];rfl⟩
 case mks e k bytes z len cap =>
  simp only [Eff,eff] at h ⊢
  split at h
  ·rename_i l c hl hc2
   split at h
   ·rename_i hcond
    cases h
    exact ⟨[],[⟨e,k,List.replicate l.toNat z,0,0⟩],rfl,fun p hp=>(by simp at hp),fun hn=>absurd rfl hn,fun H2 hs hlen=>by rw [if_pos hcond,hlen (by simp)];rfl⟩
   ·cases h
  ·cases h
def AI.reads (o:AI):List Nat:=(o.op.xs.filterMap fun|.t n=>some n|_=>none)++(match o.guard with|some (t,_)=>[t]|none=>[])
def apart (x y:AI):Bool :=
 (match x.dst with|some d=>!y.reads.contains d && y.dst != some d|none=>true) && (match y.dst with|some d=>!x.reads.contains d|none=>true)
def yU (x y:AI):Bool :=
 apart x y && (x.op.cls == 0 || y.op.cls == 0 || (decide (x.op.cls<=3) && decide (y.op.cls<=3) && !(x.op.cls == 3 && y.op.cls == 3)) || ((x.op.cls == 5 && decide (y.op.cls<=2)) || (y.op.cls == 5 && decide (x.op.cls<=2))))
theorem apart_spec {x y:AI} (h:apart x y=true):(∀ d,x.dst=some d->d ∉ y.reads)/\(∀ d,x.dst=some d->y.dst ≠ some d)/\(∀ d,y.dst=some d->d ∉ x.reads):=by
 refine ⟨fun d hd=>?_,fun d hd=>?_,fun d hd=>?_⟩<;>simp [apart,hd] at h
 ·exact h.1.1
 ·exact h.1.2
 ·exact h.2
theorem Z2 {st:St} {d:Option Nat} {r:AV} {H:Hp} {t:Nat} (h:∀ e,d=some e->e ≠ t):(st.put d r H).s.getD t zd=st.s.getD t zd:=by
 cases d with
 | none=>rfl
 | some e=>simp only [St.put,List.getD_eq_getElem?_getD,List.getElem?_set_ne (h e rfl)]
theorem Xs {o:AI} {st:St} {d:Option Nat} {r:AV} {H:Hp} (h:∀ e,d=some e->e ∉ o.reads):∀ x ∈ o.op.xs,AX.ev G (st.put d r H).s x=AX.ev G st.s x:=fun x hx=>by
 cases x with
 | t n=>exact Z2 fun e he hn=>h e he (by subst hn;exact List.mem_append_left _ (List.mem_filterMap.2 ⟨.t e,hx,rfl⟩))
 | c a=>rfl
 | g n=>rfl
theorem YP (st:St) {d e:Option Nat} (r q:AV) (H1 H2 H3:Hp) (h:∀ x,d=some x->e ≠ some x):(st.put d r H1).put e q H2=(st.put e q H3).put d r H2:=by
 cases d with
 | none=>cases e<;>rfl
 | some d =>
  cases e with
  | none=>rfl
  | some e =>
   have hne:d ≠ e:=fun he=>h d rfl (he ▸ rfl)
   simp only [St.put]
   rw [List.set_comm _ _ hne]
theorem yC {ev ev':AX->AV} {H H':Hp} {op:AOp} {r:AV} (h:∀ x ∈ op.xs,ev x=ev' x) (he:Eff P G ev H op r H'):Eff P G ev' H op r H':=by
 cases op with
 | call f xs =>
  obtain ⟨as_,h1,h2⟩:=he
  have hm:xs.map ev=xs.map ev':=List.map_congr_left h
  exact ⟨as_,by rw [<- hm];exact h1,h2⟩
 | callm f xs =>
  have hm:xs.map ev=xs.map ev':=List.map_congr_left h
  simp only [Eff] at he ⊢
  rw [<- hm];exact he
 | callh f xs =>
  have hm:xs.map ev=xs.map ev':=List.map_congr_left h
  simp only [Eff] at he ⊢
  rw [<- hm];exact he
 | calli nm x xs =>
  have hm:xs.map ev=xs.map ev':=List.map_congr_left fun y hy=>h y (by simp [AOp.xs,hy])
  have hx:ev x=ev' x:=h x (by simp [AOp.xs])
  obtain ⟨t,rc,f,h1,h2,h3⟩:=he
  exact ⟨t,rc,f,by rw [<- hx];exact h1,h2,by rw [<- hm];exact h3⟩
 | callv x xs =>
  have hm:xs.map ev=xs.map ev':=List.map_congr_left fun y hy=>h y (by simp [AOp.xs,hy])
  have hx:ev x=ev' x:=h x (by simp [AOp.xs])
  obtain ⟨f,cs,h1,h2,h3⟩:=he
  exact ⟨f,cs,by rw [<- hx,<- hm];exact h1,h2,h3⟩
 | _=>simp only [Eff] at he ⊢;rw [<- eff_congr h];exact he
theorem fzm_set {i n j:Nat} {H:Hp} {ob:OB} (h:i ≠ j):(fzm i n H).set j ob=fzm i n (H.set j ob):=by
 apply List.ext_getElem?
 intro x
 rw [yQ,List.getElem?_set,List.getElem?_set,Yr,yQ]
 by_cases hx:j=x
 ·subst hx
  by_cases hl:j < H.length<;>simp [hl,h]
 ·simp [hx]
theorem live_fzm {i n j g:Nat} {H:Hp}:live (fzm i n H) j g=(live H j g).map fun ob=>if i=j then { ob with fz:=max ob.fz n } else ob:=by
 unfold live
 rw [yQ]
 cases H[j]? with
 | none=>rfl
 | some ob =>
  simp only [Option.map_some]
  by_cases hi:i=j
  ·simp only [hi,if_true];by_cases hg:ob.g=g<;>by_cases hm:(ob.e == 4000000000)=true<;>simp only [hg,hm,if_true,if_false,reduceIte,Option.map_some,Option.map_none,Bool.false_eq_true,Bool.not_eq_true]<;>simp_all
  ·simp only [hi,if_false];by_cases hg:ob.g=g<;>by_cases hm:(ob.e == 4000000000)=true<;>simp only [hg,hm,if_true,if_false,reduceIte,Option.map_some,Option.map_none,Bool.false_eq_true,Bool.not_eq_true]<;>simp_all
theorem srcA_fzm {i n k:Nat} {H:Hp} {x:AV}:Zm (fzm i n H) k x=(Zm H k x).map fun p=>(p.1,fzm i n H):=by
 cases x with
 | ol j g m =>
  simp only [Zm,live_fzm]
  cases live H j g with
  | none=>rfl
  | some ob =>
   simp only [Option.map_some]
   by_cases hi:i=j
   ·simp only [hi,if_true];split<;>rfl
   ·simp only [hi,if_false];split<;>rfl
 | nl k'=>rfl
 | em b k'=>rfl
 | sl k' es =>
  simp only [Zm]
  by_cases hk:k'=k
  ·simp [hk]
  ·simp [hk]
 | _=>rfl
theorem appA_fzm {i n:Nat} {e:TypeId} {k bytes:Nat} {H:Hp} {j g m:Nat} {x:AV} (h:i ≠ j):z8 e k bytes (fzm i n H) (.ol j g m) x=(z8 e k bytes H (.ol j g m) x).map fun p=>(p.1,fzm i n p.2):=by
 unfold z8
 rw [srcA_fzm]
 cases Zm H k x with
 | none=>rfl
 | some p =>
  obtain ⟨news,H2⟩:=p
  simp only [Option.map_some,live_fzm]
  cases live H j g with
  | none=>rfl
  | some ob =>
   simp only [Option.map_some,if_neg h]
   split
   ·rw [fzm_set h];rfl
   ·rfl
theorem appA_frz {e:TypeId} {k bytes:Nat} {j g m:Nat} {x:AV}:∀ (L:List (Nat × Nat)) {H:Hp},(∀ p ∈ L,p.1 ≠ j)->z8 e k bytes (frz H L) (.ol j g m) x=(z8 e k bytes H (.ol j g m) x).map fun p=>(p.1,frz p.2 L)
 | [],H,_=>by
  show z8 e k bytes H (.ol j g m) x=(z8 e k bytes H (.ol j g m) x).map fun p=>(p.1,p.2)
  cases z8 e k bytes H (.ol j g m) x<;>rfl
 | (i,n)::L,H,h=>by
  rw [frz,appA_frz L fun p hp=>h p (by simp [hp]),appA_fzm (h (i,n) (by simp))]
  cases z8 e k bytes H (.ol j g m) x<;>rfl
theorem appA_set {e:TypeId} {k bytes:Nat} {H H':Hp} {j g m:Nat} {x r:AV} (h:z8 e k bytes H (.ol j g m) x=some (r,H')):j < H.length/\∃ ob,H'=H.set j ob:=by
 unfold z8 at h
 split at h
 ·simp only at h
  split at h
  ·rename_i ob hl
   have hj:=(Zz hl).1
   split at h
   ·cases h
    exact ⟨(List.getElem?_eq_some_iff.1 hj).1,_,rfl⟩
   ·cases h
  ·cases h
 ·cases h
theorem apf_ok {base : Nat} {ev : AX -> AV} {H : Hp} {op : AOp} (hc : op.cls = 5) (hg : geB base (ev (op.xs.headD (.c .unk))) = true) :
  ∃ j,base<=j/\(∀ {r:AV} {H':Hp},Eff P G ev H op r H'->j < H.length/\∃ ob,H'=H.set j ob) /\
   (∀ {H:Hp} (L:List (Nat × Nat)),(∀ p ∈ L,p.1 < base)->∀ (r:AV) (H':Hp),Eff P G ev (frz H L) op r H'↔∃ H3,Eff P G ev H op r H3/\H'=frz H3 L):=by
 cases op<;>simp only [AOp.cls] at hc<;>(try omega)
 case apf e k bytes s x =>
  simp only [AOp.xs,List.headD_cons] at hg
  simp only [Eff,eff]
  generalize ev s=a at hg
  cases a with
  | ol j g m =>
   have hj:base<=j:=by simpa [geB] using hg
   refine ⟨j,hj,fun h=>appA_set h,fun {H} L hL r H'=>?_⟩
   rw [appA_frz L fun p hp=>by have:=hL p hp;omega]
   cases z8 e k bytes H (.ol j g m) (ev x) with
   | none=>simp
   | some p =>
    obtain ⟨r2,H2⟩:=p
    simp only [Option.map_some,Option.some.injEq,Prod.mk.injEq]
    constructor
    ·rintro ⟨rfl,rfl⟩;exact ⟨H2,⟨rfl,rfl⟩,rfl⟩
    ·rintro ⟨H3,⟨rfl,rfl⟩,rfl⟩;exact ⟨rfl,rfl⟩
  | _=>simp [geB] at hg
theorem SimH.setR {base j:Nat} {H:Hp} {ob:OB} (hb:base<=H.length) (hj:base<=j):SimH base H (H.set j ob):=fun i hi=>by
 refine ⟨H[i],H[i],List.getElem?_eq_getElem (by omega),?_,rfl⟩
 rw [List.getElem?_set_ne (by omega)]
 exact List.getElem?_eq_getElem (by omega)
theorem Eff_swap {base : Nat} {ev1 ev2 : AX -> AV} {H H1 H2 : Hp} {x y : AOp} {r q : AV} (hf : x.cls = 0 \/ y.cls = 0 \/ (x.cls <= 3 /\ y.cls <= 3 /\ ¬(x.cls = 3 /\ y.cls = 3)) \/ (x.cls = 5 /\ y.cls <= 2) \/ (y.cls = 5 /\ x.cls <= 2))
  (hx:x.cls=0\/(base<=H.length/\(x.cls=1\/x.cls=2->(x.xs.all fun a=>ltB base (ev1 a))=true)/\(x.cls=5->geB base (ev1 (x.xs.headD (.c .unk)))=true))) (hy:y.cls=0\/(base<=H1.length/\(y.cls=1\/y.cls=2->(y.xs.all fun a=>ltB base (ev2 a))=true)/\(y.cls=5->geB base (ev2 (y.xs.headD (.c .unk)))=true)))
  (h1:Eff P G ev1 H x r H1) (h2:Eff P G ev2 H1 y q H2):∃ H3,Eff P G ev2 H y q H3/\Eff P G ev1 H3 x r H2/\(y.cls=0\/base<=H.length)/\(x.cls=0\/base<=H3.length):=by
 by_cases hx0:x.cls=0
 ·obtain ⟨rfl, f⟩ := cls0 hx0 h1
  refine ⟨H2,h2,f H2,hy.imp id (·.1),.inl hx0⟩
 ·have hbx := (hx.resolve_left hx0)
  by_cases hy0:y.cls=0
  ·obtain ⟨rfl, f⟩ := cls0 hy0 h2
   exact ⟨H,f H,h1,.inl hy0,.inr hbx.1⟩
  ·have hby := (hy.resolve_left hy0)
   rcases (hf.resolve_left hx0).resolve_left hy0 with ⟨c1,c2,c3⟩|⟨c1,c2⟩|⟨c1,c2⟩
   rotate_left
   ·obtain ⟨j, hj, a1, a2⟩ := apf_ok (P := P) (G := G) (H := H) c1 (hbx.2.2 c1)
    obtain ⟨hjl,ob,e1⟩:=a1 h1
    obtain ⟨L2,B2,e2,l2,n2,f2⟩:=mono (by omega) hby.1 hby.2.1 h2
    obtain rfl:=n2 (by omega)
    rw [List.append_nil] at e2
    subst e2
    have s1:SimH base H1 H:=by rw [e1];exact (SimH.setR hbx.1 hj).symm
    refine ⟨frz H L2,by simpa using f2 H s1 (fun hb=>absurd rfl hb),(a2 L2 l2 r _).2 ⟨H1,h1,rfl⟩,.inr hbx.1,.inr (by rw [ym];exact hbx.1)⟩
   ·obtain ⟨L1, B1, e1, l1, n1, f1⟩ := mono (by omega) hbx.1 hbx.2.1 h1
    obtain rfl:=n1 (by omega)
    rw [List.append_nil] at e1
    subst e1
    obtain ⟨j,hj,a1,a2⟩:=apf_ok (P:=P) (G:=G) (H:=frz H L1) c1 (hby.2.2 c1)
    obtain ⟨H3,k1,k2⟩:=(a2 L1 l1 q H2).1 h2
    obtain ⟨j',hj',b1,_⟩:=apf_ok (P:=P) (G:=G) (H:=H) c1 (hby.2.2 c1)
    obtain ⟨_,ob,e3⟩:=b1 k1
    have s1:SimH base H H3:=by rw [e3];exact SimH.setR hbx.1 hj'
    refine ⟨H3,k1,?_,.inr hbx.1,.inr (by rw [e3];simpa using hbx.1)⟩
    rw [k2]
    simpa using f1 H3 s1 (fun hb=>absurd rfl hb)
   obtain ⟨L1,B1,e1,l1,n1,f1⟩:=mono c1 hbx.1 hbx.2.1 h1
   subst e1
   obtain ⟨L2,B2,e2,l2,n2,f2⟩:=mono c2 hby.1 hby.2.1 h2
   subst e2
   have hlen:base<=(frz H L1).length:=by rw [ym];exact hbx.1
   have s1:SimH base (frz H L1++B1) H:=((SimH.frz L1 hbx.1).trans (SimH.push hlen B1)).symm
   have hor:B1=[]\/B2=[]:=by
    by_cases hx3:x.cls=3
    ·exact .inr (n2 fun hy3=>c3 ⟨hx3,hy3⟩)
    ·exact .inl (n1 hx3)
   have hlen2:base<=(frz H L2).length:=by rw [ym];exact hbx.1
   have s2:SimH base H (frz H L2++B2):=(SimH.frz L2 hbx.1).trans (SimH.push hlen2 B2)
   refine ⟨frz H L2++B2,f2 H s1 (fun hb=>?_),?_,.inr hbx.1,.inr (by simp;omega)⟩
   ·rw [hor.resolve_right hb];simp [ym]
   ·have g1:=f1 (frz H L2++B2) s2 (fun hb=>by rw [hor.resolve_left hb];simp [ym])
    have eq:frz (frz H L1++B1) L2++B2=frz (frz H L2++B2) L1++B1:=by
     rw [wn L2 _ B1 (fun p hp=>Nat.lt_of_lt_of_le (l2 p hp) hlen),wn L1 _ B2 (fun p hp=>Nat.lt_of_lt_of_le (l1 p hp) hlen2),frz_comm L1 L2]
     rcases hor with h|h<;>simp [h]
    rw [eq]
    exact g1
theorem ZU {base:Nat} {o:AI} {st st':St} (h:∀ x ∈ o.op.xs,AX.ev G st.s x=AX.ev G st'.s x) (hb:o.op.cls=0\/base<=st'.H.length) (hc:chk G base o st):chk G base o st':=by
 rcases hc with hc|⟨h1,h2⟩
 ·exact .inl hc
 ·rcases hb with hb | hb
  ·exact .inl hb
  ·refine .inr ⟨hb,fun hcls=>?_,fun hcls=>?_⟩
   ·have := h2.1 hcls
    rw [List.all_eq_true] at this ⊢
    exact fun x hx=>by rw [<- h x hx];exact this x hx
   ·have := h2.2 hcls
    cases hxs:o.op.xs with
    | nil=>rw [hxs] at this;simp [AX.ev,geB] at this
    | cons x xs =>
     rw [hxs] at this h
     simp only [List.headD_cons] at this ⊢
     rw [<- h x (by simp)]
     exact this
theorem Stp_swap {base:Nat} {x y:AI} {st s1 s2:St} (hf:yU x y=true) (cx:chk G base x st) (h1:Stp P G x st s1) (cy:chk G base y s1) (h2:Stp P G y s1 s2):∃ s3,chk G base y st/\Stp P G y st s3/\chk G base x s3/\Stp P G x s3 s2:=by
 simp only [yU,Bool.and_eq_true] at hf
 obtain ⟨hap,hcl⟩:=hf
 have hcl':x.op.cls=0\/y.op.cls=0\/(x.op.cls<=3/\y.op.cls<=3/\¬(x.op.cls=3/\y.op.cls=3))\/(x.op.cls=5/\y.op.cls<=2)\/(y.op.cls=5/\x.op.cls<=2):=by
  simp only [Bool.or_eq_true,beq_iff_eq,Bool.and_eq_true,decide_eq_true_eq,Bool.not_eq_true',Bool.and_eq_false_imp,beq_eq_false_iff_ne] at hcl
  rcases hcl with ((h|h)|⟨⟨h1,h2⟩,h3⟩)|h|h
  ·exact .inl h
  ·exact .inr (.inl h)
  ·exact .inr (.inr (.inl ⟨h1,h2,fun ⟨a,b⟩=>h3 a b⟩))
  ·exact .inr (.inr (.inr (.inl h)))
  ·exact .inr (.inr (.inr (.inr h)))
 obtain ⟨a1,a2,a3⟩:=apart_spec hap
 -- the guards' words
 have guardT:∀ {o:AI} {t:Nat} {w:Bool},o.guard=some (t,w)->t ∈ o.reads:=fun {o t w} hg=>by
  unfold AI.reads;rw [hg];simp
 -- what a step is: done, or left out
 have stp:∀ {o:AI} {u v:St},Stp P G o u v↔(∃ r H',(∀ t w,o.guard=some (t,w)->u.s.getD t zd = .v (.bool w))/\Eff P G (AX.ev G u.s) u.H o.op r H'/\v=u.put o.dst r H')\/(∃ t w b,o.guard=some (t,w)/\u.s.getD t zd=b/\OffA w b/\v=u.put o.dst zd u.H):=fun {o u v}=>by
  unfold Stp
  cases hg:o.guard with
  | none =>
   constructor
   ·rintro ⟨r,H',h1,h2⟩;exact .inl ⟨r,H',(fun t w h=>by cases h),h1,h2⟩
   ·rintro (⟨r, H', _, h1, h2⟩ | ⟨t, w, b, h, _⟩)
    ·exact ⟨r,H',h1,h2⟩
    ·cases h
  | some tw =>
   obtain ⟨t,w⟩:=tw
   constructor
   ·rintro (⟨hb, r, H', h1, h2⟩ | ⟨b, hb, hne, h2⟩)
    ·exact .inl ⟨r,H',(fun t' w' h=>by cases h;exact hb),h1,h2⟩
    ·exact .inr ⟨t,w,b,rfl,hb,hne,h2⟩
   ·rintro (⟨r, H', hb, h1, h2⟩ | ⟨t', w', b, h, hb, hne, h2⟩)
    ·exact .inl ⟨hb t w rfl,r,H',h1,h2⟩
    ·cases h;exact .inr ⟨b,hb,hne,h2⟩
 rw [stp] at h1 h2
 rcases h1 with ⟨r,H1,g1,e1,rfl⟩|⟨t1,w1,b1,hg1,hb1,hn1,rfl⟩
 ·have yop:∀ z ∈ y.op.xs,AX.ev G (st.put x.dst r H1).s z=AX.ev G st.s z:=Xs (fun d hd=>a1 d hd)
  rcases h2 with ⟨q,H2,g2,e2,rfl⟩|⟨t2,w2,b2,hg2,hb2,hn2,rfl⟩
  ·have e2' := yC yop e2
   have hH:(st.put x.dst r H1).H=H1:=by cases x.dst<;>rfl
   have cy':y.op.cls=0\/(base<=H1.length/\(y.op.cls=1\/y.op.cls=2->(y.op.xs.all fun a=>ltB base (AX.ev G st.s a))=true)/\(y.op.cls=5->geB base (AX.ev G st.s (y.op.xs.headD (.c .unk)))=true)):=by
    have c:=ZU (st':=⟨st.s,H1⟩) yop (by rcases cy with h|⟨h1,h2⟩;exact .inl h;right;rw [hH] at h1;exact h1) cy
    exact c
   rw [hH] at e2'
   obtain ⟨H3,f1,f2,k1,k2⟩:=Eff_swap (base:=base) hcl' cx cy' e1 e2'
   have xop:∀ z ∈ x.op.xs,AX.ev G (st.put y.dst q H3).s z=AX.ev G st.s z:=Xs (fun d hd=>a3 d hd)
   have hH3:(st.put y.dst q H3).H=H3:=by cases y.dst<;>rfl
   refine ⟨st.put y.dst q H3,?_,stp.2 (.inl ⟨q,H3,fun t w hg=>?_,f1,rfl⟩),?_,stp.2 (.inl ⟨r,H2,fun t w hg=>?_,?_,?_⟩)⟩
   ·exact ZU yop k1 cy
   ·have := g2 t w hg
    rwa [Z2 (fun e he hn=>a1 e he (by subst hn;exact guardT hg))] at this
   ·exact ZU (fun z hz=>(xop z hz).symm) (by rw [hH3];exact k2) cx
   ·rw [Z2 (fun e he hn=>a3 e he (by subst hn;exact guardT hg))]
    exact g1 t w hg
   ·rw [hH3]
    exact yC (fun z hz=>(xop z hz).symm) f2
   ·exact YP st r q H1 H2 H3 a2
  ·have hH : (st.put x.dst r H1).H = H1 := by cases x.dst <;> rfl
   rw [hH]
   have xop:∀ z ∈ x.op.xs,AX.ev G (st.put y.dst zd st.H).s z=AX.ev G st.s z:=Xs (fun d hd=>a3 d hd)
   have hH3:(st.put y.dst zd st.H).H=st.H:=by cases y.dst<;>rfl
   refine ⟨st.put y.dst zd st.H,?_,stp.2 (.inr ⟨t2,w2,b2,hg2,?_,hn2,rfl⟩),?_,stp.2 (.inl ⟨r,H1,fun t w hg=>?_,?_,?_⟩)⟩
   ·rcases hcl' with h | h | h3
    ·obtain ⟨e, _⟩ := cls0 h e1
     exact ZU yop (by rcases cy with c|⟨c,_⟩;exact .inl c;right;rw [hH,e] at c;exact c) cy
    ·exact .inl h
    ·rcases cx with c | ⟨c, _⟩
     ·obtain ⟨e, _⟩ := cls0 c e1
      exact ZU yop (by rcases cy with c|⟨c,_⟩;exact .inl c;right;rw [hH,e] at c;exact c) cy
     ·exact ZU yop (.inr c) cy
   ·rwa [Z2 (fun e he hn=>a1 e he (by subst hn;exact guardT hg2))] at hb2
   ·exact ZU (fun z hz=>(xop z hz).symm) (by rw [hH3];exact cx.imp id (·.1)) cx
   ·rw [Z2 (fun e he hn=>a3 e he (by subst hn;exact guardT hg))]
    exact g1 t w hg
   ·rw [hH3]
    exact yC (fun z hz=>(xop z hz).symm) e1
   ·exact YP st r zd H1 H1 st.H a2
 ·have hH : (st.put x.dst zd st.H).H = st.H := by cases x.dst <;> rfl
  have yop:∀ z ∈ y.op.xs,AX.ev G (st.put x.dst zd st.H).s z=AX.ev G st.s z:=Xs (fun d hd=>a1 d hd)
  have cyst:chk G base y st:=ZU yop (by rcases cy with c|⟨c,_⟩;exact .inl c;right;rw [hH] at c;exact c) cy
  rcases h2 with ⟨q,H2,g2,e2,rfl⟩|⟨t2,w2,b2,hg2,hb2,hn2,rfl⟩
  ·rw [hH] at e2
   have e2':=yC yop e2
   have xop:∀ z ∈ x.op.xs,AX.ev G (st.put y.dst q H2).s z=AX.ev G st.s z:=Xs (fun d hd=>a3 d hd)
   have hH3:(st.put y.dst q H2).H=H2:=by cases y.dst<;>rfl
   have grow:x.op.cls=0\/base<=H2.length:=by
    rcases cx with c|⟨c,_⟩
    ·exact .inl c
    ·by_cases hy0 : y.op.cls = 0
     ·obtain ⟨e, _⟩ := cls0 hy0 e2'
      right;rw [e];exact c
     ·obtain ⟨d1, d2, d3⟩ := (cyst.resolve_left hy0)
      have hm:y.op.cls<=3->base<=H2.length:=fun h2=>by
       obtain ⟨L,Bs,e,_⟩:=mono h2 d1 d2 e2'
       rw [e];simp [ym];omega
      rcases hcl' with h|h|⟨h1,h2,h3⟩|⟨h1,h2⟩|⟨h1,h2⟩
      ·exact .inl h
      ·exact absurd h hy0
      ·exact .inr (hm h2)
      ·exact .inr (hm (by omega))
      ·obtain ⟨j, hj, a1, _⟩ := apf_ok (P := P) (G := G) (H := st.H) h1 (d3 h1)
       obtain ⟨_,ob,e3⟩:=a1 e2'
       right;rw [e3];simpa using d1
   refine ⟨st.put y.dst q H2,cyst,stp.2 (.inl ⟨q,H2,fun t w hg=>?_,e2',rfl⟩),?_,stp.2 (.inr ⟨t1,w1,b1,hg1,?_,hn1,?_⟩)⟩
   ·have := g2 t w hg
    rwa [Z2 (fun e he hn=>a1 e he (by subst hn;exact guardT hg))] at this
   ·exact ZU (fun z hz=>(xop z hz).symm) (by rw [hH3];exact grow) cx
   ·rw [Z2 (fun e he hn=>a3 e he (by subst hn;exact guardT hg1))]
    exact hb1
   ·rw [hH3];exact YP st zd q st.H H2 H2 a2
  ·rw [hH]
   have xop:∀ z ∈ x.op.xs,AX.ev G (st.put y.dst zd st.H).s z=AX.ev G st.s z:=Xs (fun d hd=>a3 d hd)
   have hH3:(st.put y.dst zd st.H).H=st.H:=by cases y.dst<;>rfl
   refine ⟨st.put y.dst zd st.H,cyst,stp.2 (.inr ⟨t2,w2,b2,hg2,?_,hn2,rfl⟩),?_,stp.2 (.inr ⟨t1,w1,b1,hg1,?_,hn1,?_⟩)⟩
   ·rwa [Z2 (fun e he hn=>a1 e he (by subst hn;exact guardT hg2))] at hb2
   ·exact ZU (fun z hz=>(xop z hz).symm) (by rw [hH3];exact cx.imp id (·.1)) cx
   ·rw [Z2 (fun e he hn=>a3 e he (by subst hn;exact guardT hg1))]
    exact hb1
   ·rw [hH3];exact YP st zd zd st.H st.H st.H a2
variable (P G) in
def Chain (base:Nat):List AI->St->St->Prop
 | [],st,st'=>st=st'
 | o::os,st,st'=>∃ s1,chk G base o st/\Stp P G o st s1/\Chain base os s1 st'
theorem XB {base:Nat} {k:St->Prop}:∀ {os:List AI} {st:St},AWd P G base os k st->∃ st',Chain P G base os st st'/\k st'
 | [],st,h=>⟨st,rfl,h⟩
 | o::os,st,⟨hc,h⟩=>by
  obtain ⟨s1,h1,h2⟩:=AWi_iff.1 h
  obtain ⟨st',h3,h4⟩:=XB h2
  exact ⟨st',⟨s1,hc,h1,h3⟩,h4⟩
theorem Chain.run {base:Nat} {k:St->Prop}:∀ {os:List AI} {st st':St},Chain P G base os st st'->k st'->AWs P G os k st
 | [],st,st',h,hk=>by cases h;exact hk
 | o::os,st,st',⟨s1,_,h1,h2⟩,hk=>AWi_iff.2 ⟨s1,h1,Chain.run h2 hk⟩
theorem Chain.bubble {base:Nat} {o:AI} {L2:List AI}:∀ {L1:List AI} {st st':St},(∀ x ∈ L1,yU x o=true)->Chain P G base (L1++o::L2) st st'->Chain P G base (o::(L1++L2)) st st'
 | [],st,st',_,h=>h
 | x::L1,st,st',hf,⟨s1,hc,hs,h⟩=>by
  obtain ⟨s2,hc2,hs2,h2⟩:=Chain.bubble (fun y hy=>hf y (by simp [hy])) h
  obtain ⟨s3,c1,c2,c3,c4⟩:=Stp_swap (hf x (by simp)) hc hs hc2 hs2
  exact ⟨s3,c1,c2,s2,c3,c4,h2⟩
end
def ZF (o:Oper):List Nat:=(o.after.toList.filter fun e=>Region.binds .any e).map (·.on)
def ancOf (T:List (List Nat)) (ps:List Nat):List Nat:=(ps++ps.flatMap fun p=>T.getD p []).eraseDups
def ancs:List Oper->List (List Nat)->List (List Nat)
 | [],T=>T
 | o::os,T=>ancs os (T++[ancOf T (ZF o)])
def wx (P:Program) (ops:Array Oper) (as_:List AI):Bool :=
 let ps:=ops.toList.map ZF
 let T:=ancs ops.toList []
 (P.follows .mixedOrders || !Region.departs ops) &&
 (ps.zipIdx.all fun (p,i)=>p.all fun j=>decide (j < i)) &&
 ((List.range ops.size).all fun i=>(T.getD i []).all fun x=>(ps.getD i []).contains x || (ps.getD i []).any fun p=>(T.getD p []).contains x) &&
 ((List.range ops.size).all fun i=>(List.range i).all fun x=>(T.getD i []).contains x ||
  (match as_[x]?,as_[i]? with
   | some a,some b=>yU a b
   | _,_=>false))
def drawqOk (P:Program) (ops:Array Oper) (as_:List AI):Bool :=
 let ps:=ops.toList.map ZF
 let T:=ancs ops.toList []
 (P.follows .mixedOrders || !Region.departs ops) &&
 (ps.zipIdx.all fun (p,i)=>p.all fun j=>decide (j < i)) &&
 ((List.range ops.size).all fun i=>(T.getD i []).all fun x=>(ps.getD i []).contains x || (ps.getD i []).any fun p=>(T.getD p []).contains x) &&
 ((List.range ops.size).all fun i=>(List.range i).all fun x=>(T.getD i []).contains x ||
  (match as_[x]?,as_[i]? with
   | some a,some b=>apart a b
   | _,_=>false))
section
variable {P:Program} {G:Nat->AV}
theorem range_split (n i:Nat) (h:i < n):List.range n=List.range i++i::(List.range (n - (i+1))).map (i+1 + ·):=by
 have:n=i+(1+(n - (i+1))):=by omega
 conv=>lhs;rw [this,List.range_add]
 congr 1
 rw [Nat.add_comm 1,List.range_succ_eq_map]
 simp only [List.map_cons,List.map_map,Nat.add_zero]
 congr 1
 apply List.map_congr_left
 intro x _
 simp only [Function.comp]
 omega
theorem lin_chain {base : Nat} {ops : Array Oper} {as_ : List AI} (hl : ops.toList.length = as_.length) (hd : wx P ops as_ = true) : ∀ (fuel t : Nat) (listed : Array Bool) (st st' : St),
  listed.size=ops.size ->
  (∀ i,i < ops.size->listed.getD i true=true->∀ o,ops[i]? = some o->∀ p ∈ ZF o,listed.getD p false=true) ->
  ((List.range ops.size).filter fun i=>!listed.getD i true).length<=fuel ->
  Chain P G base (((List.range ops.size).filter fun i=>!listed.getD i true).map fun i=>as_.getD i ⟨none,.mv (.c .unk),none⟩) st st' ->
  Chain P G base ((Region.linearise.go .any ops fuel t listed []).map fun i=>as_.getD i ⟨none,.mv (.c .unk),none⟩) st st'/\∀ i ∈ Region.linearise.go .any ops fuel t listed [],i < ops.size:=by
 simp only [wx,Bool.and_eq_true,List.all_eq_true,Bool.not_eq_true',decide_eq_true_eq,List.mem_range] at hd
 obtain ⟨⟨⟨d1,d2⟩,d3⟩,d4⟩:=hd
 have psat:∀ i o,ops[i]? = some o->(ops.toList.map ZF).getD i []=ZF o:=fun i o ho=>by
  have:ops.toList[i]? = some o:=by simpa using ho
  simp [List.getD_eq_getElem?_getD,this]
 have plt:∀ i o,ops[i]? = some o->∀ p ∈ ZF o,p < i:=fun i o ho p hp=>by
  have hi:ops.toList[i]? = some o:=by simpa using ho
  have:=d2 (ZF o,i) (by
   rw [List.mem_zipIdx_iff_getElem?]
   simp [hi])
  exact this p hp
 intro fuel
 induction fuel with
 | zero =>
  intro t listed st st' hsz hcl hfu hch
  have he:((List.range ops.size).filter fun i=>!listed.getD i true)=[]:=List.eq_nil_of_length_eq_zero (by omega)
  rw [he] at hch
  exact ⟨by simpa [Region.linearise.go] using hch,fun i hi=>by simp [Region.linearise.go] at hi⟩
 | succ fuel ih =>
  intro t listed st st' hsz hcl hfu hch
  -- what an unlisted operation waits for, at any remove, is not listed before it
  have far:∀ i,i < ops.size->(∀ o,ops[i]? = some o->∀ p ∈ ZF o,listed.getD p false=true)->∀ x ∈ (ancs ops.toList []).getD i [],listed.getD x false=true:=by
   intro i
   induction i using Nat.strongRecOn with
   | _ i ihi =>
    intro hi hready x hx
    have ho:ops[i]? = some ops[i]:=Array.getElem?_eq_getElem hi
    have h3:=d3 i hi x hx
    rw [psat i _ ho] at h3
    rcases Bool.or_eq_true_iff.1 h3 with h3|h3
    ·exact hready _ ho x (by simpa using h3)
    ·obtain ⟨p, hp, hpx⟩ := List.any_eq_true.1 h3
     have hpi:=plt i _ ho p hp
     have hpl:=hready _ ho p hp
     refine ihi p hpi (by omega) (fun o' ho' q hq=>hcl p (by omega) ?_ o' ho' q hq) x (by simpa using hpx)
     have:p < listed.size:=by omega
     simp only [Array.getD_eq_getD_getElem?,Array.getElem?_eq_getElem this,Option.getD_some] at hpl ⊢
     exact hpl
  have hready:Region.ready .any ops listed=(List.range ops.size).filter fun i=>!listed.getD i true && ((ops[i]?).map (·.after.all fun e=>!Region.binds .any e || listed.getD e.on false)).getD false:=rfl
  have rdy:∀ i,i ∈ Region.ready .any ops listed↔i < ops.size/\listed.getD i true=false/\∀ o,ops[i]? = some o->∀ p ∈ ZF o,listed.getD p false=true:=fun i=>by
   rw [hready,List.mem_filter,List.mem_range]
   constructor
   ·rintro ⟨h1, h2⟩
    simp only [Bool.and_eq_true,Bool.not_eq_true'] at h2
    refine ⟨h1,h2.1,fun o ho p hp=>?_⟩
    rw [ho] at h2
    simp only [Option.map_some,Option.getD_some,Array.all_eq_true_iff_forall_mem] at h2
    simp only [ZF,List.mem_map,List.mem_filter] at hp
    obtain ⟨e,⟨he,hb⟩,rfl⟩:=hp
    have:=h2.2 e (by simpa using he)
    simpa [hb] using this
   ·rintro ⟨h1, h2, h3⟩
    refine ⟨h1,?_⟩
    have ho:ops[i]? = some ops[i]:=Array.getElem?_eq_getElem h1
    simp only [Bool.and_eq_true,Bool.not_eq_true',h2,true_and,ho,Option.map_some,Option.getD_some,Array.all_eq_true_iff_forall_mem]
    intro e he
    by_cases hb:Region.binds .any e=true
    ·have := h3 _ ho e.on (by simp only [ZF,List.mem_map,List.mem_filter]; exact ⟨e, ⟨by simpa using he, hb⟩, rfl⟩)
     simp [this]
    ·simp [hb]
  simp only [Region.linearise.go]
  change Chain P G base ((match (Region.ready .any ops listed)[t % (Region.ready .any ops listed).length]? with
   | some i=>Region.linearise.go .any ops fuel (t / (Region.ready .any ops listed).length) (listed.setIfInBounds i true) [i]
   | none=>[].reverse).map _) st st'/\∀ i ∈ (match (Region.ready .any ops listed)[t % (Region.ready .any ops listed).length]? with
   | some i=>Region.linearise.go .any ops fuel (t / (Region.ready .any ops listed).length) (listed.setIfInBounds i true) [i]
   | none=>[].reverse),i < ops.size
  cases hi:(Region.ready .any ops listed)[t % (Region.ready .any ops listed).length]? with
  | none =>
   have hnil:Region.ready .any ops listed=[]:=by
    cases hr:Region.ready .any ops listed with
    | nil=>rfl
    | cons x xs =>
     rw [hr] at hi
     have hlt:t % (x::xs).length < (x::xs).length:=Nat.mod_lt _ (by simp)
     simp at hi
     simp at hlt
     omega
   have he:((List.range ops.size).filter fun i=>!listed.getD i true)=[]:=by
    apply Classical.byContradiction
    intro hne
    -- the least unlisted one is ready
    have hex:∃ i,i < ops.size/\listed.getD i true=false:=by
     obtain ⟨i,hi⟩:=List.exists_mem_of_ne_nil _ hne
     rw [List.mem_filter,List.mem_range] at hi
     exact ⟨i,hi.1,by simpa using hi.2⟩
    have hmin:∀ n,(∃ i,i < n/\i < ops.size/\listed.getD i true=false)->∃ i,i < ops.size/\listed.getD i true=false/\∀ j,j < i->listed.getD j true=true:=by
     intro n
     induction n with
     | zero=>rintro ⟨i,h,_⟩;omega
     | succ n ihn =>
      rintro ⟨i,h,h1,h2⟩
      by_cases hh:∃ i,i < n/\i < ops.size/\listed.getD i true=false
      ·exact ihn hh
      ·refine ⟨i,h1,h2,fun j hj=>?_⟩
       cases hq:listed.getD j true with
       | true=>rfl
       | false=>exact absurd ⟨j,by omega,by omega,hq⟩ hh
    obtain ⟨i0,g1,g2⟩:=hex
    obtain ⟨i,h1,h2,h3⟩:=hmin ops.size ⟨i0,g1,g1,g2⟩
    have:i ∈ Region.ready .any ops listed:=(rdy i).2 ⟨h1,h2,fun o ho p hp=>by
     have hpi:=plt i o ho p hp
     have:=h3 p hpi
     have hps:p < listed.size:=by omega
     simp only [Array.getD_eq_getD_getElem?,Array.getElem?_eq_getElem hps,Option.getD_some] at this ⊢
     exact this⟩
    rw [hnil] at this
    cases this
   rw [he] at hch
   exact ⟨by simpa using hch,fun i hi=>by simp at hi⟩
  | some i =>
   obtain ⟨hio,hiu,hir⟩:=(rdy i).1 (List.mem_of_getElem? hi)
   have hil:i < listed.size:=by omega
   -- the unlisted ones, parted at i
   have hsplit:=range_split ops.size i hio
   have hpi:(fun j=>!listed.getD j true) i=true:=by simp [hiu]
   have hsame:∀ j,j ≠ i->(listed.setIfInBounds i true).getD j true=listed.getD j true:=fun j hj=>by
    rw [Array.getD_eq_getD_getElem?,Array.getD_eq_getD_getElem?,Array.getElem?_setIfInBounds_ne (fun e=>hj e.symm)]
   have hself:(listed.setIfInBounds i true).getD i true=true:=by
    rw [Array.getD_eq_getD_getElem?,Array.getElem?_setIfInBounds_self_of_lt hil];rfl
   have hselfF:(listed.setIfInBounds i true).getD i false=true:=by
    rw [Array.getD_eq_getD_getElem?,Array.getElem?_setIfInBounds_self_of_lt hil];rfl
   have hsameF:∀ j,j ≠ i->(listed.setIfInBounds i true).getD j false=listed.getD j false:=fun j hj=>by
    rw [Array.getD_eq_getD_getElem?,Array.getD_eq_getD_getElem?,Array.getElem?_setIfInBounds_ne (fun e=>hj e.symm)]
   have e1:(List.range ops.size).filter (fun j=>!listed.getD j true)=(List.range i).filter (fun j=>!listed.getD j true)++i::((List.range (ops.size - (i+1))).map (i+1 + ·)).filter (fun j=>!listed.getD j true):=by
    rw [hsplit,List.filter_append,List.filter_cons,if_pos hpi]
   have e2:(List.range ops.size).filter (fun j=>!(listed.setIfInBounds i true).getD j true)=(List.range i).filter (fun j=>!listed.getD j true)++((List.range (ops.size - (i+1))).map (i+1 + ·)).filter (fun j=>!listed.getD j true):=by
    rw [hsplit,List.filter_append,List.filter_cons,hself]
    simp only [Bool.not_true,Bool.false_eq_true,if_false]
    congr 1
    ·apply List.filter_congr
     intro j hj
     rw [hsame j (by have:=List.mem_range.1 hj;omega)]
    ·apply List.filter_congr
     intro j hj
     obtain ⟨q,_,rfl⟩:=List.mem_map.1 hj
     rw [hsame _ (by omega)]
   rw [e1,List.map_append,List.map_cons] at hch
   have hfree:∀ x ∈ ((List.range i).filter (fun j=>!listed.getD j true)).map (fun i=>as_.getD i ⟨none,.mv (.c .unk),none⟩),yU x (as_.getD i ⟨none,.mv (.c .unk),none⟩)=true:=fun x hx=>by
    obtain ⟨j,hj,rfl⟩:=List.mem_map.1 hx
    rw [List.mem_filter,List.mem_range] at hj
    have hjn:j < as_.length:=by rw [<- hl];simp;omega
    have hin:i < as_.length:=by rw [<- hl];simpa using hio
    have h4:=d4 i hio j hj.1
    rw [List.getElem?_eq_getElem hjn,List.getElem?_eq_getElem hin] at h4
    have hnot:((ancs ops.toList []).getD i []).contains j=false:=by
     cases hq:((ancs ops.toList []).getD i []).contains j with
     | false=>rfl
     | true =>
      have:=far i hio hir j (by simpa using hq)
      have hjs:j < listed.size:=by omega
      have hu:=hj.2
      simp only [Array.getD_eq_getD_getElem?,Array.getElem?_eq_getElem hjs,Option.getD_some] at this hu
      rw [this] at hu
      cases hu
    rw [hnot] at h4
    simpa [List.getD_eq_getElem?_getD,List.getElem?_eq_getElem hjn,List.getElem?_eq_getElem hin] using h4
   obtain ⟨s1,c1,c2,c3⟩:=Chain.bubble hfree hch
   rw [<- List.map_append,<- e2] at c3
   have hrec := ih (t / (Region.ready .any ops listed).length) (listed.setIfInBounds i true) s1 st' (by simpa using hsz) (fun j hj hlj o ho p hp => by
     by_cases hji:j=i
     ·subst hji
      have hpj:=plt j o ho p hp
      rw [hsameF p (by omega)]
      exact hir o ho p hp
     ·rw [hsame j hji] at hlj
      have:=hcl j hj hlj o ho p hp
      by_cases hpi2:p=i
      ·rw [hpi2];exact hselfF
      ·rw [hsameF p hpi2];exact this) (by
     rw [e2]
     rw [e1] at hfu
     simp only [List.length_append,List.length_cons] at hfu ⊢
     omega) c3
   simp only []
   rw [linearise_go_acc,List.reverse_singleton,List.singleton_append]
   refine ⟨⟨s1,c1,c2,hrec.1⟩,fun j hj=>?_⟩
   rcases List.mem_cons.1 hj with rfl|hj
   ·exact hio
   ·exact hrec.2 j hj
theorem YZ {ops : Array Oper} {as_ : List AI} (hl : ops.toList.length = as_.length) (hd : wx P ops as_ = true) {k : St -> Prop} {st : St} (h : AWd P G st.H.length as_ k st) (t : Nat) :
  ∃ bs:List AI,bs.length=(Region.schedule (P.follows .mixedOrders) ops t).length/\(∀ (j i:Nat) (ai:AI),(Region.schedule (P.follows .mixedOrders) ops t)[j]? = some i->bs[j]? = some ai->as_[i]? = some ai)/\AWs P G bs k st:=by
 have hdep:(P.follows .mixedOrders || !Region.departs ops)=true:=by
  have:=hd
  simp only [wx,Bool.and_eq_true] at this
  exact this.1.1.1
 have hs:Region.schedule (P.follows .mixedOrders) ops t=Region.linearise .any ops t:=by
  unfold Region.schedule
  rw [if_pos hdep]
 rw [hs]
 obtain ⟨st',hch,hk⟩:=XB h
 have hfull:((List.range ops.size).filter fun i=>!(Array.replicate ops.size false).getD i true)=List.range ops.size:=by
  rw [List.filter_eq_self]
  intro i hi
  have:=List.mem_range.1 hi
  simp [Array.getD_eq_getD_getElem?,this]
 have hmap:(List.range ops.size).map (fun i=>as_.getD i ⟨none,.mv (.c .unk),none⟩)=as_:=by
  apply List.ext_getElem?
  intro i
  rw [List.getElem?_map]
  by_cases hi:i < ops.size
  ·have hia : i < as_.length := by rw [<- hl]; simpa using hi
   rw [List.getElem?_range hi]
   simp [List.getD_eq_getElem?_getD,List.getElem?_eq_getElem hia]
  ·have hia : as_.length <= i := by rw [<- hl]; simpa using hi
   rw [List.getElem?_eq_none (by simpa using hi),List.getElem?_eq_none hia]
   rfl
 obtain ⟨g1,g2⟩:=lin_chain (P:=P) (G:=G) (base:=st.H.length) hl hd ops.size t (Array.replicate ops.size false) st st' (by simp) (fun i hi hli=>by simp [Array.getD_eq_getD_getElem?,hi] at hli) (by rw [hfull];simp) (by rw [hfull,hmap];exact hch)
 refine ⟨_,?_,?_,Chain.run g1 hk⟩
 ·rw [List.length_map];rfl
 ·intro j i ai hj ha
  have hj':(Region.linearise.go .any ops ops.size t (Array.replicate ops.size false) [])[j]? = some i:=hj
  rw [List.getElem?_map,hj'] at ha
  simp only [Option.map_some,Option.some.injEq] at ha
  have hio:=g2 i (List.mem_of_getElem? hj')
  have hia:i < as_.length:=by rw [<- hl];simpa using hio
  rw [List.getD_eq_getElem?_getD,List.getElem?_eq_getElem hia] at ha
  rw [List.getElem?_eq_getElem hia,<- ha]
  rfl
def QChain (P:Program) (G:Nat->AV) (H:Hp):List AI->St->St->Prop
 | [],st,st'=>st=st'
 | o::os,st,st'=>∃ s1,(st.H=H/\s1.H=H/\Stp P G o st s1)/\QChain P G H os s1 st'
def QV (P:Program) (G:Nat->AV) (o:AI) (s:List AV) (H:Hp) (r:AV):Prop :=
 match o.guard with
 | none=>Eff P G (AX.ev G s) H o.op r H
 | some (t,want)=>(s.getD t zd = .v (.bool want)/\Eff P G (AX.ev G s) H o.op r H)\/(OffA want (s.getD t zd)/\r=zd)
theorem QV.of {o:AI} {s:List AV} {H:Hp} {s1:St} (h:Stp P G o ⟨s,H⟩ s1) (hH:s1.H=H):∃ r,QV P G o s H r/\s1=(St.mk s H).put o.dst r H:=by
 unfold Stp at h
 unfold QV
 cases hg:o.guard with
 | none =>
  rw [hg] at h
  obtain ⟨r,H',h1,rfl⟩:=h
  have e:H'=H:=by rw [<- hH];cases o.dst<;>rfl
  subst e
  exact ⟨r,h1,rfl⟩
 | some tw =>
  obtain ⟨t,want⟩:=tw
  rw [hg] at h
  rcases h with ⟨h0,r,H',h1,rfl⟩|⟨b,h0,h1,rfl⟩
  ·have e : H' = H := by rw [<- hH]; cases o.dst <;> rfl
   subst e
   exact ⟨r,.inl ⟨h0,h1⟩,rfl⟩
  ·exact ⟨zd,.inr ⟨by rw [show s.getD t zd=b from h0];exact h1,rfl⟩,rfl⟩
theorem QV.stp {o:AI} {s:List AV} {H:Hp} {r:AV} (h:QV P G o s H r):Stp P G o ⟨s,H⟩ ((St.mk s H).put o.dst r H):=by
 unfold QV at h
 unfold Stp
 cases hg:o.guard with
 | none=>rw [hg] at h;exact ⟨r,H,h,rfl⟩
 | some tw =>
  obtain ⟨t,want⟩:=tw
  rw [hg] at h
  rcases h with ⟨h0,h1⟩|⟨h0,rfl⟩
  ·exact .inl ⟨h0,r,H,h1,rfl⟩
  ·exact .inr ⟨_,rfl,h0,rfl⟩
theorem QV.congr {o:AI} {s s':List AV} {H:Hp} {r:AV} (hs:∀ t ∈ o.reads,s'.getD t zd=s.getD t zd) (h:QV P G o s H r):QV P G o s' H r:=by
 have hev:∀ x ∈ o.op.xs,AX.ev G s x=AX.ev G s' x:=fun x hx=>by
  cases x with
  | t n=>exact (hs n (List.mem_append_left _ (List.mem_filterMap.2 ⟨.t n,hx,rfl⟩))).symm
  | c a=>rfl
  | g n=>rfl
 unfold QV at h ⊢
 cases hg:o.guard with
 | none=>rw [hg] at h;exact yC hev h
 | some tw =>
  obtain ⟨t,want⟩:=tw
  rw [hg] at h
  have ht:s'.getD t zd=s.getD t zd:=hs t (List.mem_append_right _ (by rw [hg];simp))
  rcases h with ⟨h0,h1⟩|⟨h0,h1⟩
  ·exact .inl ⟨by rw [ht];exact h0,yC hev h1⟩
  ·exact .inr ⟨by rw [ht];exact h0,h1⟩
theorem QV.put {o:AI} {s:List AV} {H:Hp} {r q:AV} {d:Option Nat} (hd:∀ e,d=some e->e ∉ o.reads):QV P G o ((St.mk s H).put d q H).s H r↔QV P G o s H r:=by
 have hs:∀ t ∈ o.reads,((St.mk s H).put d q H).s.getD t zd=s.getD t zd:=fun t ht=>Z2 (st:=⟨s,H⟩) fun e he hn=>hd e he (by subst hn;exact ht)
 exact ⟨fun h=>QV.congr (fun t ht=>(hs t ht).symm) h,fun h=>QV.congr hs h⟩
theorem QChain.bubble {H:Hp} {o:AI} {L2:List AI}:∀ {L1:List AI} {st st':St},(∀ x ∈ L1,apart x o=true)->QChain P G H (L1++o::L2) st st'->QChain P G H (o::(L1++L2)) st st'
 | [],st,st',_,h=>h
 | x::L1,st,st',hf,⟨s1,⟨a1,a2,a3⟩,h⟩=>by
  obtain ⟨s2,⟨_,b2,b3⟩,h2⟩:=QChain.bubble (fun y hy=>hf y (by simp [hy])) h
  obtain ⟨s,H0⟩:=st
  simp only at a1
  subst a1
  obtain ⟨p1,p2,p3⟩:=apart_spec (hf x (by simp))
  obtain ⟨r,hr,rfl⟩:=QV.of a3 a2
  have e1:(St.mk s H0).put x.dst r H0=⟨((St.mk s H0).put x.dst r H0).s,H0⟩:=by cases x.dst<;>rfl
  rw [e1] at b3
  obtain ⟨q,hq,rfl⟩:=QV.of b3 b2
  rw [QV.put p1] at hq
  have hr':=(QV.put (H:=H0) (q:=q) p3).2 hr
  have e2:(St.mk s H0).put o.dst q H0=⟨((St.mk s H0).put o.dst q H0).s,H0⟩:=by cases o.dst<;>rfl
  have hx:=hr'.stp
  rw [<- e2] at hx
  rw [<- e1,YP (St.mk s H0) r q H0 H0 H0 (fun d hd=>p2 d hd)] at h2
  exact ⟨_,⟨rfl,by cases o.dst<;>rfl,hq.stp⟩,_,⟨by cases o.dst<;>rfl,by cases x.dst<;>cases o.dst<;>rfl,hx⟩,h2⟩
theorem QChain.run {H:Hp} {k:St->Prop}:∀ {os:List AI} {st st':St},QChain P G H os st st'->k st'->AWs P G os k st
 | [],st,st',h,hk=>by cases h;exact hk
 | o::os,st,st',⟨s1,⟨_,_,h1⟩,h2⟩,hk=>AWi_iff.2 ⟨s1,h1,QChain.run h2 hk⟩
theorem lin_perm {ops : Array Oper} (d2 : ∀ i o, ops[i]? = some o -> ∀ p ∈ ZF o, p < i) : ∀ (fuel t : Nat) (listed : Array Bool),
  listed.size=ops.size ->
  (∀ i,i < ops.size->listed.getD i true=true->∀ o,ops[i]? = some o->∀ p ∈ ZF o,listed.getD p false=true) ->
  ((List.range ops.size).filter fun i=>!listed.getD i true).length<=fuel ->
  (Region.linearise.go .any ops fuel t listed []).Perm ((List.range ops.size).filter fun i=>!listed.getD i true)/\∀ i ∈ Region.linearise.go .any ops fuel t listed [],∀ o,ops[i]? = some o->∀ p ∈ ZF o,listed.getD p false=true\/List.Sublist [p,i] (Region.linearise.go .any ops fuel t listed []):=by
 intro fuel
 induction fuel with
 | zero =>
  intro t listed hsz hcl hfu
  have he:((List.range ops.size).filter fun i=>!listed.getD i true)=[]:=List.eq_nil_of_length_eq_zero (by omega)
  rw [he]
  exact ⟨by simp [Region.linearise.go],fun i hi=>by simp [Region.linearise.go] at hi⟩
 | succ fuel ih =>
  intro t listed hsz hcl hfu
  have hready:Region.ready .any ops listed=(List.range ops.size).filter fun i=>!listed.getD i true && ((ops[i]?).map (·.after.all fun e=>!Region.binds .any e || listed.getD e.on false)).getD false:=rfl
  have rdy:∀ i,i ∈ Region.ready .any ops listed↔i < ops.size/\listed.getD i true=false/\∀ o,ops[i]? = some o->∀ p ∈ ZF o,listed.getD p false=true:=fun i=>by
   rw [hready,List.mem_filter,List.mem_range]
   constructor
   ·rintro ⟨h1, h2⟩
    simp only [Bool.and_eq_true,Bool.not_eq_true'] at h2
    refine ⟨h1,h2.1,fun o ho p hp=>?_⟩
    rw [ho] at h2
    simp only [Option.map_some,Option.getD_some,Array.all_eq_true_iff_forall_mem] at h2
    simp only [ZF,List.mem_map,List.mem_filter] at hp
    obtain ⟨e,⟨he,hb⟩,rfl⟩:=hp
    have:=h2.2 e (by simpa using he)
    simpa [hb] using this
   ·rintro ⟨h1, h2, h3⟩
    refine ⟨h1,?_⟩
    have ho:ops[i]? = some ops[i]:=Array.getElem?_eq_getElem h1
    simp only [Bool.and_eq_true,Bool.not_eq_true',h2,true_and,ho,Option.map_some,Option.getD_some,Array.all_eq_true_iff_forall_mem]
    intro e he
    by_cases hb:Region.binds .any e=true
    ·have := h3 _ ho e.on (by simp only [ZF,List.mem_map,List.mem_filter]; exact ⟨e, ⟨by simpa using he, hb⟩, rfl⟩)
     simp [this]
    ·simp [hb]
  have hgo:Region.linearise.go .any ops (fuel+1) t listed []=(match (Region.ready .any ops listed)[t % (Region.ready .any ops listed).length]? with
   | some i=>Region.linearise.go .any ops fuel (t / (Region.ready .any ops listed).length) (listed.setIfInBounds i true) [i]
   | none=>[].reverse):=rfl
  rw [hgo]
  cases hi:(Region.ready .any ops listed)[t % (Region.ready .any ops listed).length]? with
  | none =>
   have hnil:Region.ready .any ops listed=[]:=by
    cases hr:Region.ready .any ops listed with
    | nil=>rfl
    | cons x xs =>
     rw [hr] at hi
     have hlt:t % (x::xs).length < (x::xs).length:=Nat.mod_lt _ (by simp)
     simp at hi
     simp at hlt
     omega
   have he:((List.range ops.size).filter fun i=>!listed.getD i true)=[]:=by
    apply Classical.byContradiction
    intro hne
    have hex:∃ i,i < ops.size/\listed.getD i true=false:=by
     obtain ⟨i,hi⟩:=List.exists_mem_of_ne_nil _ hne
     rw [List.mem_filter,List.mem_range] at hi
     exact ⟨i,hi.1,by simpa using hi.2⟩
    have hmin:∀ n,(∃ i,i < n/\i < ops.size/\listed.getD i true=false)->∃ i,i < ops.size/\listed.getD i true=false/\∀ j,j < i->listed.getD j true=true:=by
     intro n
     induction n with
     | zero=>rintro ⟨i,h,_⟩;omega
     | succ n ihn =>
      rintro ⟨i,h,h1,h2⟩
      by_cases hh:∃ i,i < n/\i < ops.size/\listed.getD i true=false
      ·exact ihn hh
      ·refine ⟨i,h1,h2,fun j hj=>?_⟩
       cases hq:listed.getD j true with
       | true=>rfl
       | false=>exact absurd ⟨j,by omega,by omega,hq⟩ hh
    obtain ⟨i0,g1,g2⟩:=hex
    obtain ⟨i,h1,h2,h3⟩:=hmin ops.size ⟨i0,g1,g1,g2⟩
    have:i ∈ Region.ready .any ops listed:=(rdy i).2 ⟨h1,h2,fun o ho p hp=>by
     have hpi:=d2 i o ho p hp
     have:=h3 p hpi
     have hps:p < listed.size:=by omega
     simp only [Array.getD_eq_getD_getElem?,Array.getElem?_eq_getElem hps,Option.getD_some] at this ⊢
     exact this⟩
    rw [hnil] at this
    cases this
   rw [he]
   exact ⟨by simp,fun i hi=>by simp at hi⟩
  | some i =>
   obtain ⟨hio,hiu,hir⟩:=(rdy i).1 (List.mem_of_getElem? hi)
   have hil:i < listed.size:=by omega
   have hsplit:=range_split ops.size i hio
   have hpi:(fun j=>!listed.getD j true) i=true:=by simp [hiu]
   have hsame:∀ j,j ≠ i->(listed.setIfInBounds i true).getD j true=listed.getD j true:=fun j hj=>by
    rw [Array.getD_eq_getD_getElem?,Array.getD_eq_getD_getElem?,Array.getElem?_setIfInBounds_ne (fun e=>hj e.symm)]
   have hself:(listed.setIfInBounds i true).getD i true=true:=by
    rw [Array.getD_eq_getD_getElem?,Array.getElem?_setIfInBounds_self_of_lt hil];rfl
   have hselfF:(listed.setIfInBounds i true).getD i false=true:=by
    rw [Array.getD_eq_getD_getElem?,Array.getElem?_setIfInBounds_self_of_lt hil];rfl
   have hsameF:∀ j,j ≠ i->(listed.setIfInBounds i true).getD j false=listed.getD j false:=fun j hj=>by
    rw [Array.getD_eq_getD_getElem?,Array.getD_eq_getD_getElem?,Array.getElem?_setIfInBounds_ne (fun e=>hj e.symm)]
   have e1:(List.range ops.size).filter (fun j=>!listed.getD j true)=(List.range i).filter (fun j=>!listed.getD j true)++i::((List.range (ops.size - (i+1))).map (i+1 + ·)).filter (fun j=>!listed.getD j true):=by
    rw [hsplit,List.filter_append,List.filter_cons,if_pos hpi]
   have e2:(List.range ops.size).filter (fun j=>!(listed.setIfInBounds i true).getD j true)=(List.range i).filter (fun j=>!listed.getD j true)++((List.range (ops.size - (i+1))).map (i+1 + ·)).filter (fun j=>!listed.getD j true):=by
    rw [hsplit,List.filter_append,List.filter_cons,hself]
    simp only [Bool.not_true,Bool.false_eq_true,if_false]
    congr 1
    ·apply List.filter_congr
     intro j hj
     rw [hsame j (by have:=List.mem_range.1 hj;omega)]
    ·apply List.filter_congr
     intro j hj
     obtain ⟨q,_,rfl⟩:=List.mem_map.1 hj
     rw [hsame _ (by omega)]
   have hrec := ih (t / (Region.ready .any ops listed).length) (listed.setIfInBounds i true) (by simpa using hsz) (fun j hj hlj o ho p hp => by
     by_cases hji:j=i
     ·subst hji
      have hpj:=d2 j o ho p hp
      rw [hsameF p (by omega)]
      exact hir o ho p hp
     ·rw [hsame j hji] at hlj
      have:=hcl j hj hlj o ho p hp
      by_cases hpi2:p=i
      ·rw [hpi2];exact hselfF
      ·rw [hsameF p hpi2];exact this) (by
     rw [e2]
     rw [e1] at hfu
     simp only [List.length_append,List.length_cons] at hfu ⊢
     omega)
   simp only []
   rw [linearise_go_acc,List.reverse_singleton,List.singleton_append]
   refine ⟨?_,fun j hj o ho p hp=>?_⟩
   ·rw [e1]
    exact ((hrec.1.trans (by rw [e2])).cons i).trans List.perm_middle.symm
   ·rcases List.mem_cons.1 hj with rfl | hj
    ·exact .inl (hir o ho p hp)
    ·rcases hrec.2 j hj o ho p hp with h | h
     ·by_cases hpi2 : p = i
      ·subst hpi2
       exact .inr (List.Sublist.cons_cons _ (List.singleton_sublist.2 hj))
      ·rw [hsameF p hpi2] at h;exact .inl h
     ·exact .inr (h.cons i)
theorem xX:∀ {L:List Nat} {x p i:Nat},L.Nodup->List.Sublist [x,p] L->List.Sublist [p,i] L->List.Sublist [x,i] L
 | [],x,p,i,_,h,_=>by cases h
 | a::L,x,p,i,hn,h,k=>by
  have hn':=List.nodup_cons.1 hn
  cases h with
  | cons _ h =>
   have hp:p ∈ L:=h.subset (by simp)
   cases k with
   | cons _ k=>exact (xX hn'.2 h k).cons a
   | cons_cons _ k=>exact absurd hp hn'.1
  | cons_cons _ h =>
   have hp:p ∈ L:=List.singleton_sublist.1 h
   cases k with
   | cons _ k=>exact List.Sublist.cons_cons _ (List.singleton_sublist.2 (k.subset (by simp)))
   | cons_cons _ k=>exact absurd hp hn'.1
theorem Ya {L:List Nat} {x i:Nat} (hn:L.Nodup) (h:List.Sublist [x,i] L):¬ List.Sublist [i,x] L:=fun k=>by
 have:=(xX hn h k)
 have:=this.nodup hn
 simp at this
theorem Chain.perm {base:Nat} {f:Nat->AI}:∀ (L R:List Nat),R.Perm L->(∀ x i,List.Sublist [x,i] R->List.Sublist [i,x] L->yU (f x) (f i)=true)->∀ {st st':St},Chain P G base (R.map f) st st'->Chain P G base (L.map f) st st'
 | [],R,hp,_,st,st',h=>by
  rw [hp.eq_nil] at h
  exact h
 | l::L,R,hp,hf,st,st',h=>by
  obtain ⟨R1,R2,rfl⟩:=List.append_of_mem (hp.mem_iff.2 (List.mem_cons_self))
  have hp2:(R1++R2).Perm L:=(List.perm_middle.symm.trans hp).cons_inv
  rw [List.map_append,List.map_cons] at h
  obtain ⟨s1,c1,c2,c3⟩:=Chain.bubble (fun y hy=>by
   obtain ⟨x,hx,rfl⟩:=List.mem_map.1 hy
   refine hf x l ?_ ?_
   ·exact List.Sublist.append (l₁:=[x]) (r₁:=[l]) (List.singleton_sublist.2 hx) (List.Sublist.cons_cons _ (List.nil_sublist _))
   ·exact List.Sublist.cons_cons _ (List.singleton_sublist.2 (hp2.mem_iff.1 (List.mem_append_left _ hx)))) h
  rw [<- List.map_append] at c3
  refine ⟨s1,c1,c2,Chain.perm L (R1++R2) hp2 (fun x i h1 h2=>hf x i (h1.trans ?_) (h2.cons l)) c3⟩
  exact List.Sublist.append (List.Sublist.refl _) (List.sublist_cons_self _ _)
end
def wS:List Nat->List (Nat × Nat)
 | []=>[]
 | x::xs=>xs.map (x,·)++wS xs
theorem mem_pairs:∀ {L:List Nat} {x i:Nat},(x,i) ∈ wS L↔List.Sublist [x,i] L
 | [],x,i=>⟨fun h=>(by cases h),fun h=>(by cases h)⟩
 | a::L,x,i=>by
  simp only [wS,List.mem_append,List.mem_map,Prod.mk.injEq]
  constructor
  ·rintro (⟨y, hy, rfl, rfl⟩ | h)
   ·exact List.Sublist.cons_cons _ (List.singleton_sublist.2 hy)
   ·exact (mem_pairs.1 h).cons a
  ·intro h
   cases h with
   | cons _ h=>exact .inr (mem_pairs.2 h)
   | cons_cons _ h=>exact .inl ⟨i,List.singleton_sublist.1 h,rfl,rfl⟩
def perms:Nat->List Nat->List (List Nat)
 | 0,_=>[[]]
 | n+1,l=>if l=[] then [[]] else l.flatMap fun x=>(perms n (l.erase x)).map (x :: ·)
theorem Xl:∀ (n:Nat) (l s:List Nat),l.length<=n->s.Perm l->s ∈ perms n l
 | 0,l,s,hl,hp=>by
  have:l=[]:=List.eq_nil_of_length_eq_zero (by omega)
  subst this
  rw [hp.eq_nil]
  simp [perms]
 | n+1,l,s,hl,hp=>by
  simp only [perms]
  split
  ·rename_i h
   subst h
   rw [hp.eq_nil]
   simp
  ·rename_i h
   cases s with
   | nil=>exact absurd hp.symm.eq_nil h
   | cons x s =>
    have hx:x ∈ l:=hp.mem_iff.1 (by simp)
    refine List.mem_flatMap.2 ⟨x,hx,List.mem_map.2 ⟨s,Xl n _ _ ?_ ?_,rfl⟩⟩
    ·rw [List.length_erase_of_mem hx];omega
    ·exact (List.cons_perm_iff_perm_erase.1 hp).2
def ye (ops:Array Oper) (as_:List AI) (T:List (List Nat)):List Nat :=
 (List.range ops.size).filter fun i=>(List.range ops.size).any fun x=>x != i && !(T.getD i []).contains x && !(T.getD x []).contains i && !(match as_[x]?,as_[i]? with|some a,some b=>yU a b && yU b a|_,_=>false)
def topo (n:Nat) (T:List (List Nat)) (s:List Nat):Nat->List Nat->List Nat
 | 0,acc=>acc
 | fuel+1,acc =>
  match (List.range n).find? fun i=>!acc.contains i && (T.getD i []).all (acc.contains ·) && (!s.contains i || (s.takeWhile (· != i)).all (acc.contains ·)) with
  | some i=>topo n T s fuel (acc++[i])
  | none=>acc
def badPerm (T:List (List Nat)) (s:List Nat):Bool:=(wS s).any fun (x,i)=>(T.getD x []).contains i
def WK (n:Nat) (as_:List AI) (T:List (List Nat)) (s R:List Nat):Bool :=
 R.isPerm (List.range n) && (wS R).all fun (x,i)=>(T.getD i []).contains x || (wS s).contains (x,i) || (match as_[x]?,as_[i]? with|some a,some b=>yU a b|_,_=>false)
def YD (ops:Array Oper):List (List Nat):=ancs ops.toList []
def theS (ops:Array Oper) (as_:List AI):List (List Nat):=(perms (ye ops as_ (YD ops)).length (ye ops as_ (YD ops))).filter fun s=>!badPerm (YD ops) s
def theR (ops:Array Oper) (as_:List AI):List (List Nat):=(theS ops as_).map fun s=>topo ops.size (YD ops) s ops.size []
def uniq:List (List Nat)->List (List Nat)
 | []=>[]
 | x::xs=>if xs.contains x then uniq xs else x::uniq xs
theorem YV:∀ {l:List (List Nat)} {x:List Nat},x ∈ l->x ∈ uniq l
 | y::l,x,h=>by
  simp only [uniq]
  split
  ·rename_i hc
   rcases List.mem_cons.1 h with rfl|h
   ·exact YV (by simpa using hc)
   ·exact YV h
  ·rcases List.mem_cons.1 h with rfl | h
   ·exact List.mem_cons_self
   ·exact List.mem_cons_of_mem _ (YV h)
def XF (as_:List AI) (i:Nat):AI:=as_.getD i ⟨none,.mv (.c .unk),none⟩
def yl (ops:Array Oper) (as_:List AI):List (List AI):=(uniq (theR ops as_)).map fun R=>R.map (XF as_)
def xf (P:Program) (ops:Array Oper) (as_:List AI):Bool :=
 let ps:=ops.toList.map ZF
 let T:=YD ops
 decide ((ye ops as_ T).length<=6) && (P.follows .mixedOrders || !Region.departs ops) &&
 (ps.zipIdx.all fun (p,i)=>p.all fun j=>decide (j < i)) &&
 ((List.range ops.size).all fun i=>(T.getD i []).all fun x=>(ps.getD i []).contains x || (ps.getD i []).any fun p=>(T.getD p []).contains x) &&
 (theS ops as_).all fun s=>WK ops.size as_ T s (topo ops.size T s ops.size [])
section
variable {P:Program} {G:Nat->AV}
theorem drawx_orders {ops : Array Oper} {as_ : List AI} (hl : ops.toList.length = as_.length) (hd : xf P ops as_ = true) {k : St -> Prop} {st : St} (h : ∀ R ∈ yl ops as_, AWd P G st.H.length R k st) (t : Nat) :
  ∃ bs:List AI,bs.length=(Region.schedule (P.follows .mixedOrders) ops t).length/\(∀ (j i:Nat) (ai:AI),(Region.schedule (P.follows .mixedOrders) ops t)[j]? = some i->bs[j]? = some ai->as_[i]? = some ai)/\AWs P G bs k st:=by
 simp only [xf,Bool.and_eq_true] at hd
 obtain ⟨⟨⟨⟨_,hdep⟩,d2⟩,d3⟩,d5⟩:=hd
 have hs:Region.schedule (P.follows .mixedOrders) ops t=Region.linearise .any ops t:=by
  unfold Region.schedule
  rw [if_pos hdep]
 rw [hs]
 simp only [List.all_eq_true,decide_eq_true_eq,List.mem_range] at d2 d3 d5
 have psat:∀ i o,ops[i]? = some o->(ops.toList.map ZF).getD i []=ZF o:=fun i o ho=>by
  have:ops.toList[i]? = some o:=by simpa using ho
  simp [List.getD_eq_getElem?_getD,this]
 have plt:∀ i o,ops[i]? = some o->∀ p ∈ ZF o,p < i:=fun i o ho p hp=>by
  have hi:ops.toList[i]? = some o:=by simpa using ho
  have:=d2 (ZF o,i) (by
   rw [List.mem_zipIdx_iff_getElem?]
   simp [hi])
  exact this p hp
 have hfull:((List.range ops.size).filter fun i=>!(Array.replicate ops.size false).getD i true)=List.range ops.size:=by
  rw [List.filter_eq_self]
  intro i hi
  have:=List.mem_range.1 hi
  simp [Array.getD_eq_getD_getElem?,this]
 obtain ⟨L,hL⟩:∃ L,L=Region.linearise.go .any ops ops.size t (Array.replicate ops.size false) []:=⟨_,rfl⟩
 have hlin:Region.linearise .any ops t=L:=hL.symm
 rw [hlin]
 obtain ⟨g1,g2⟩:=lin_perm (ops:=ops) plt ops.size t (Array.replicate ops.size false) (by simp) (fun i hi hli=>by simp [Array.getD_eq_getD_getElem?,hi] at hli) (by rw [hfull];simp)
 rw [<- hL,hfull] at g1
 rw [<- hL] at g2
 have hnd:L.Nodup:=g1.nodup_iff.2 List.nodup_range
 have hpre:∀ i ∈ L,∀ o,ops[i]? = some o->∀ p ∈ ZF o,List.Sublist [p,i] L:=fun i hi o ho p hp=>by
  rcases g2 i hi o ho p hp with h|h
  ·exfalso
   by_cases hq:p < ops.size<;>simp [Array.getD_eq_getD_getElem?,hq] at h
  ·exact h
 have far:∀ i,i ∈ L->∀ x ∈ (YD ops).getD i [],List.Sublist [x,i] L:=by
  intro i
  induction i using Nat.strongRecOn with
  | _ i ihi =>
   intro hiL x hx
   have hi:i < ops.size:=List.mem_range.1 (g1.mem_iff.1 hiL)
   have ho:ops[i]? = some ops[i]:=Array.getElem?_eq_getElem hi
   have h3:=d3 i hi x hx
   rw [psat i _ ho] at h3
   rcases Bool.or_eq_true_iff.1 h3 with h3|h3
   ·exact hpre i hiL _ ho x (by simpa using h3)
   ·obtain ⟨p, hp, hpx⟩ := List.any_eq_true.1 h3
    have hpi:=hpre i hiL _ ho p hp
    exact xX hnd (ihi p (plt i _ ho p hp) (hpi.subset (by simp)) x (by simpa using hpx)) hpi
 -- how the schedule has the hard ones
 obtain ⟨s,hsdef⟩:∃ s,s=L.filter fun i=>(ye ops as_ (YD ops)).contains i:=⟨_,rfl⟩
 have hsub:List.Sublist s L:=by rw [hsdef];exact List.filter_sublist
 have hsp:s.Perm (ye ops as_ (YD ops)):=by
  have h1:=g1.filter (fun i=>(ye ops as_ (YD ops)).contains i)
  rw [<- hsdef] at h1
  refine h1.trans (.of_eq ?_)
  unfold ye
  apply List.filter_congr
  intro i hi
  rw [Bool.eq_iff_iff]
  simp only [List.contains_iff_mem,List.mem_filter]
  exact ⟨fun h=>h.2,fun h=>⟨hi,h⟩⟩
 have hsS:s ∈ theS ops as_:=by
  unfold theS
  refine List.mem_filter.2 ⟨Xl _ _ _ (Nat.le_refl _) hsp,?_⟩
  rw [Bool.not_eq_true']
  cases hq:badPerm (YD ops) s with
  | false=>rfl
  | true =>
   exfalso
   obtain ⟨⟨x,i⟩,h1,h2⟩:=List.any_eq_true.1 hq
   have hxi:List.Sublist [x,i] L:=(mem_pairs.1 h1).trans hsub
   exact Ya hnd hxi (far x (hxi.subset (by simp)) i (by simpa using h2))
 have hgood:=d5 s hsS
 simp only [WK,Bool.and_eq_true,List.all_eq_true] at hgood
 obtain ⟨hRp,hRf⟩:=hgood
 have hRmem:(topo ops.size (YD ops) s ops.size []).map (XF as_) ∈ yl ops as_ :=
  List.mem_map.2 ⟨_,YV (List.mem_map.2 ⟨s,hsS,rfl⟩),rfl⟩
 obtain ⟨s1,hch,hk⟩:=XB (h _ hRmem)
 have hfin:=Chain.perm (P:=P) (G:=G) (f:=XF as_) L _ ((List.isPerm_iff.1 hRp).trans g1.symm) (fun x i hx hi=>by
  have h1:=hRf (x,i) (mem_pairs.2 hx)
  simp only [Bool.or_eq_true] at h1
  rcases h1 with (h1|h1)|h1
  ·exact absurd hi (Ya hnd (far i (hi.subset (by simp)) x (by simpa using h1)))
  ·exact absurd hi (Ya hnd ((mem_pairs.1 (by simpa using h1)).trans hsub))
  ·split at h1
   ·rename_i a b ha hb
    simpa [XF,List.getD_eq_getElem?_getD,ha,hb] using h1
   ·cases h1) hch
 refine ⟨L.map (XF as_),by simp,fun j i ai hj ha=>?_,Chain.run hfin hk⟩
 rw [List.getElem?_map,hj] at ha
 simp only [Option.map_some,Option.some.injEq] at ha
 have hio:i < ops.size:=List.mem_range.1 (g1.mem_iff.1 (List.mem_of_getElem? hj))
 have hia:i < as_.length:=by rw [<- hl];simpa using hio
 rw [XF,List.getD_eq_getElem?_getD,List.getElem?_eq_getElem hia] at ha
 rw [List.getElem?_eq_getElem hia,<- ha]
 rfl
end
def eagOk (as_:List AI) (ps:List (List Nat)) (i:Nat):Bool :=
 match as_[i]? with
 | some o=>decide (o.op.cls<=1) && (match o.dst with|some d=>!o.reads.contains d && as_.zipIdx.all fun (x,j)=>j == i || ((ps.getD j []).contains i || (!x.reads.contains d && x.dst != some d))|none=>false)
 | none=>false
def eagers (as_:List AI) (ps:List (List Nat)):List Nat:=(List.range as_.length).filter (eagOk as_ ps)
def setsOk (P:Program) (ops:Array Oper):Bool :=
 (P.follows .mixedOrders || !Region.departs ops) && ((ops.toList.map ZF).zipIdx.all fun (p,i)=>p.all fun j=>decide (j < i))
end Go.Proofs.YtfocijljkkfonaaDoor.Sim
