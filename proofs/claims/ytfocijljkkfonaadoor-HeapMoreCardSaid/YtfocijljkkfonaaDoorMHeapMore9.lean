/- Texts of this claim, part 9. -/
import Derived.LaidMore
import Derived.Lay
import Derived.OpenShut
import Derived.Stop.Joined
import Derived.Test.YtfocijljkkfonaaDoorMHeapMore8
import Derived.Test.YtfocijljkkfonaaDoorProg
import Derived.Test.YtfocijljkkfonaaDoorRows
set_option linter.unusedVariables false
set_option linter.unusedSimpArgs false
namespace Go.Proofs.YtfocijljkkfonaaDoor.Sim
open Go.RowKit
set_option maxRecDepth 100000
abbrev Tk:=Int × Bool
def ow' (h:List Nd) (r:Int):List Pr:=match h[(r - 1).toNat]? with|some x=>ow x|none=>[]
def vl (h:List Nd) (t:Tk):List Pr:=if t.2 then B h t.1 else ow' h t.1
def cs (h:List Nd) (t:Tk):Nat:=if t.2 then C h t.1 else 1
theorem cs_pos {h:List Nd} {t:Tk}:1<=cs h t:=by
 unfold cs;split
 ·exact C_pos
 ·exact Nat.le_refl 1
theorem len_cost {h:List Nd} {l:List Tk}:l.length<=(l.map (cs h)).sum:=by
 induction l with
 | nil=>simp
 | cons a t ih =>
  have:=@cs_pos h a
  simp only [List.length_cons,List.map_cons,List.sum_cons];omega
structure Tj (h:List Nd) (n:Nat) (ts:List Tk) (out:List Pr):Prop where
 ok:∀ t ∈ ts,0<=t.1/\t.1<=(n:Int)/\(t.2=false->1<=t.1/\nz h t.1=true)
 out:out++ts.reverse.flatMap (vl h)=B h (n:Int)
 cost:(ts.map (cs h)).sum<=1000000
theorem Tj.skip {h:List Nd} {n:Nat} {ts:List Tk} {t:Tk} {out:List Pr} (hT:Tj h n (ts++[t]) out) (h0:t.1=0\/nz h t.1=false):Tj h n ts out:=by
 have hv:vl h t=[]:=by
  have hk:=hT.ok t (by simp)
  unfold vl
  cases h2:t.2
  ·have := hk.2.2 h2
   rcases h0 with h0|h0
   ·omega
   ·rw [h0] at this;simp at this
  ·rw [if_pos rfl]
   rcases h0 with h0|h0
   ·rw [h0];exact B_0 (Int.le_refl 0)
   ·simpa [nz] using h0
 refine ⟨fun x hx=>hT.ok x (by simp [hx]),?_,?_⟩
 ·have := hT.out
  rw [List.reverse_append] at this
  simpa [hv] using this
 ·have := hT.cost
  simp at this;omega
theorem Tj.own {h:List Nd} {n:Nat} {ts:List Tk} {a:Int} {out:List Pr} (hT:Tj h n (ts++[(a,false)]) out):Tj h n ts (out++ow' h a):=by
 refine ⟨fun x hx=>hT.ok x (by simp [hx]),?_,?_⟩
 ·have := hT.out
  rw [List.reverse_append] at this
  simpa [vl] using this
 ·have := hT.cost
  simp at this;omega
theorem fm_true {h:List Nd} (l:List Int):(l.map fun k=>((k,true):Tk)).flatMap (vl h)=l.flatMap (B h):=by
 induction l with
 | nil=>rfl
 | cons a t ih=>simp only [List.map_cons,List.flatMap_cons,ih];rfl
theorem cs_true {h:List Nd} (l:List Int):((l.map fun k=>((k,true):Tk)).map (cs h)).sum=(l.map (C h)).sum:=by
 induction l with
 | nil=>rfl
 | cons a t ih=>simp only [List.map_cons,List.sum_cons,ih];rfl
theorem Tj.visit {h : List Nd} (hh : aH h h.length = true) {n : Nat} (hn : n <= h.length) {ts : List Tk} {i : Nat} {out : List Pr} (hT : Tj h n (ts ++ [((i : Int) + 1, true)]) out) (hi : i < h.length) (hz : nz h ((i : Int) + 1) = true) :
  Tj h n (ts++(ZW ((i:Int)+1) h[i]).reverse) out/\((ts++(ZW ((i:Int)+1) h[i]).reverse).map (cs h)).sum < ((ts++[((i:Int)+1,true)]).map (cs h)).sum:=by
 have hk:=hT.ok ((i:Int)+1,true) (by simp)
 have ho:=yD hh hi
 have hB:=B_eq hh hi
 have hC:=C_eq hh hi
 have how:ow' h ((i:Int)+1)=ow h[i]:=by
  rw [ow',show ((i:Int)+1 - 1).toNat=i by omega,List.getElem?_eq_getElem hi]
 have hval:(ZW ((i:Int)+1) h[i]).flatMap (vl h)=B h ((i:Int)+1):=by
  rw [hB];unfold ZW
  split
  ·simp [vl,how]
  ·rw [List.flatMap_cons,fm_true];simp [vl,how]
 have hcost:((ZW ((i:Int)+1) h[i]).map (cs h)).sum+1=C h ((i:Int)+1):=by
  rw [hC];unfold ZW
  split
  ·simp [cs];omega
  ·rw [List.map_cons,List.sum_cons,cs_true];simp [cs];omega
 have hsum:((ts++(ZW ((i:Int)+1) h[i]).reverse).map (cs h)).sum+1=((ts++[((i:Int)+1,true)]).map (cs h)).sum:=by
  rw [List.map_append,List.sum_append,List.map_append,List.sum_append,List.map_reverse,List.sum_reverse]
  simp [cs];omega
 refine ⟨⟨fun t ht=>?_,?_,?_⟩,by omega⟩
 ·rcases List.mem_append.1 ht with ht | ht
  ·exact hT.ok t (by simp [ht])
  ·rw [List.mem_reverse] at ht
   have h1:=hk.2.1
   simp only at h1
   unfold ZW at ht
   split at ht
   ·rename_i h4
    obtain ⟨t1,t2,t3⟩:=yu ho h4
    simp only [List.mem_cons,List.not_mem_nil,or_false] at ht
    rcases ht with rfl|rfl|rfl
    ·exact ⟨t1.1,by simp only;omega,fun h=>by cases h⟩
    ·exact ⟨by simp only;omega,h1,fun _=>⟨by simp only;omega,hz⟩⟩
    ·exact ⟨t2.1,by simp only;omega,fun h=>by cases h⟩
   ·rcases List.mem_cons.1 ht with rfl | ht
    ·exact ⟨by simp only;omega,h1,fun _=>⟨by simp only;omega,hz⟩⟩
    ·obtain ⟨k, hk2, rfl⟩ := List.mem_map.1 ht
     have:=yn ho hk2
     exact ⟨by simp only;omega,by simp only;omega,fun h=>by cases h⟩
 ·have := hT.out
  rw [List.reverse_append] at this ⊢
  rw [List.reverse_reverse,List.flatMap_append,hval]
  simpa [vl] using this
 ·have:=hT.cost;omega
def oS (m:Nat) (o:List Pr):AV:=match o with|[]=>.nl 2|x::t=>.ol m 0 (t.length+1)
def oH (o:List Pr):Hp:=match o with|[]=>[]|x::t=>[⟨62,2,(x::t).map pA,0,0⟩]
theorem fuL_get {h:List Nd} {n:Nat} {a:Int} (h1:1<=a) (h2:a<=(n:Int)):(fuL h n)[(a - 1).toNat]? = some (nz h a):=by
 have:(a - 1).toNat < n:=by omega
 simp only [fuL,List.getElem?_map,List.getElem?_range this,Option.map_some]
 congr 2;omega
theorem nz_take {h:List Nd} (hh:aH h h.length=true) {k:Nat} (hk:k<=h.length) {r:Int} (hr:r<=(k:Int)):nz (h.take k) r=nz h r:=by
 unfold nz;rw [B_take hh hk hr]
theorem fuL_take {h:List Nd} (hh:aH h h.length=true) {n:Nat} (hn:n<=h.length):fuL (h.take n) (h.take n).length=fuL h n:=by
 have e:(h.take n).length=n:=by simp;omega
 rw [e];unfold fuL
 refine List.map_congr_left fun k hk=>?_
 rw [List.mem_range] at hk
 exact nz_take hh hn (by omega)
section
variable (G:Nat->AV)
set_option maxHeartbeats 16000000 in
theorem binds6 (h:List Nd) (hl:h.length<=1000) (hx:∀ x ∈ h,x.Ok) (r:Int) (c:Bool) (hc:c=okR h r) (hC:c=true->C h r<=1000000):PC Tryd.prog G 10 [.sl 9 (h.map nA),I r] (.tup [.sl 2 ((if c then B h r else []).map pA),I (eo c)]):=by
 have hm:=may21 G h hl hx r c hc
 cases c
 ·simp only [eo,Bool.false_eq_true,if_false] at hm ⊢
  refine zo cop10 ?_
  repeat' ((conv=>whnf);first|(refine SeqP.go ?_)|((refine ObN.mk ?_ ?_);exact zN)|(refine ObT.tt ?_)|((refine ObB.no ?_ ?_);exact zC)|((refine ObC.f 15 ?_);(refine ObC.mk _ (hm) ?_))|((refine ObEq.mk ?_);exact zE))
 simp only [eo,if_true] at hm ⊢
 replace hC:=hC rfl
 have hc':=hc.symm
 simp only [okR,Bool.and_eq_true,decide_eq_true_eq] at hc'
 obtain ⟨⟨h0,h1⟩,hh⟩:=hc'
 clear hc
 obtain ⟨n,rfl⟩:∃ n:Nat,r=(n:Int):=⟨r.toNat,by omega⟩
 have hnl:n<=h.length:=by omega
 have ut:(h.map nA).take n=(h.take n).map nA:=by rw [List.map_take]
 have hb:=bound22 G (h.take n) (by simp;omega) (fun x hx2=>hx x (List.mem_of_mem_take hx2)) (aH_take hh hnl)
 rw [fuL_take hh hnl] at hb
 have hT0:Tj h n [((n:Int),true)] []:=⟨fun t ht=>by
  obtain rfl:=List.mem_singleton.1 ht
  exact ⟨h0,Int.le_refl _,fun h=>by cases h⟩,by simp [vl],by simpa [cs] using hC⟩
 have hBl:(B h (n:Int)).length<=40000000:=by have:=B_len hx (r:=(n:Int));omega
 have hfu:=fun a h1 h2=>XC (fuL_get (h:=h) (n:=n) (a:=a) h1 h2)
 have hful:(fuL h n).length=n:=xP
 generalize fuL h n=FL at *
 refine zo cop10 ?_
 repeat' ((conv=>whnf);first|(refine SeqP.go ?_)|((refine ObD.mk ?_ ?_);exact zD)|((refine ObN.mk ?_ ?_);exact zN)|(refine ObT.ff ?_)|((refine ObB.yes ?_ ?_);exact zB)|((with_reducible refine (?_:ObU _ _));(refine ObU.mk _ (by first|exact ut|assumption|((conv=>lhs;simp only [List.set_cons_zero,List.set_cons_succ,List.take_succ_cons,List.take_zero,List.drop_succ_cons,List.drop_zero,List.nil_append,List.cons_append,List.append_nil,List.take_nil,List.drop_nil]);try rfl)|rfl) ?_))|((refine ObC.f 15 ?_);(refine ObC.mk _ (hm) ?_))|((refine ObC.f 24 ?_);(refine ObC.mk _ (hb) ?_))|((with_reducible refine ObJ.zn ?_ ?_);exact zX))
 conv=>whnf
 refine LoopP.go (α:=List Tk × List Tk × List Pr) (fun p=>Tj h n p.1 p.2.2) (fun p=>(p.1.map (cs h)).sum) (fun p=>[(7,some (oS 1 p.2.2)),(1,some (.ol 0 0 p.1.length)),(0,none),(0,none),(0,none),(0,none),(1,none),(12,none),(0,none),(0,none),(0,none),(0,none),(0,none),(0,none),(0,none),(0,none),(0,none),(0,none),(0,none),(0,none),(0,none),(0,none),(0,none),(0,none),(0,none),(0,none),(0,none),(0,none),(0,none),(0,none),(0,none),(0,none),(0,none),(0,none),(0,none),(0,none),(0,none),(0,none),(0,none),(0,none),(0,none),(0,none),(0,none),(0,none),(0,none),(0,none),(0,none),(0,none),(0,none),(0,none),(0,none),(0,none),(0,none),(0,none),(0,none),(0,none),(0,none),(0,none),(0,none),(0,none),(0,none),(0,none),(0,none),(0,none),(0,none),(0,none),(0,none),(0,none),(0,none),(0,none),(0,none),(0,none),(0,none),(0,none),(0,none),(0,none),(0,none),(0,none),(0,none),(0,none),(0,none),(0,none),(0,none),(0,none),(0,none)]) (fun p=>[⟨54,2,(p.1++p.2.1).map tA,0,0⟩]++oH p.2.2) ([((n:Int),true)],[],[]) hT0 (Fg.go ?_ rfl) ?_
 ·repeat' ((conv=>whnf);first|((refine ObEqs.mk ?_ ?_);rfl)|((with_reducible refine ObEq1.mk ?_ ?_);exact zE)|exact True.intro)
 rintro ⟨ts,jk,out⟩ hT
 dsimp only at hT ⊢
 have hol:out.length<=40000000:=by
  have:=congrArg List.length hT.out
  rw [List.length_append] at this;omega
 have htl:ts.length<=1000000:=Nat.le_trans len_cost hT.cost
 rcases List.eq_nil_or_concat ts with rfl|⟨ts',t,rfl⟩
 ·have hE : out = B h (n : Int) := by simpa using hT.out
  rw [<- hE,List.length_nil]
  rcases out with _|⟨o0,ot⟩
  ·repeat' ((conv=>whnf);first|(refine SeqP.go ?_)|((refine ObN.mk ?_ ?_);exact zN)|(refine ObT.ff ?_)|((refine ObB.no ?_ ?_);exact zC)|((refine ObEq.mk ?_);exact zE))
  ·have la : ((o0 :: ot).map pA).take (ot.length + 1) = (o0 :: ot).map pA := p_all (l := o0 :: ot)
   have lp:=p_p (o0::ot)
   repeat' ((conv=>whnf);first|(refine SeqP.go ?_)|((refine ObN.mk ?_ ?_);exact zN)|(refine ObT.ff ?_)|((refine ObB.no ?_ ?_);exact zC)|((with_reducible refine (?_:ObU _ _));(refine ObU.mk _ zq7 ?_))|((refine ObEq.mk ?_);exact zE))
 rw [List.concat_eq_append] at hT htl ⊢
 obtain ⟨a,v⟩:=t
 have hok:=hT.ok (a,v) (by simp)
 have hL1:(ts'++[(a,v)]).length=ts'.length+1:=by simp
 rw [hL1] at htl ⊢
 have hrow:(ts'++[(a,v)]++jk)=ts'++((a,v)::jk):=by simp
 rw [hrow]
 have hq:((ts'++((a,v)::jk)).map tA)[ts'.length]? = some (.agg [I a,.v (.bool v)]):=tA_at (t:=(a,v)) (by simp)
 have rn:=YA (ts'++((a,v)::jk))
 have hsum:((ts'.map (cs h)).sum) < ((ts'++[(a,v)]).map (cs h)).sum:=by
  have:=@cs_pos h (a,v)
  simp;omega
 rcases out with _|⟨o0,ot⟩
 ·
  by_cases h0:a=0
  ·have hT2 := hT.skip (.inl h0)
   subst h0
   repeat' ((conv=>whnf);first|(refine SeqP.go ?_)|((refine ObD.mk ?_ ?_);exact zD)|((refine ObN.mk ?_ ?_);exact zN)|(refine ObT.tt ?_)|((refine ObB.yes ?_ ?_);exact zB)|((with_reducible refine ObI.mk ((ts'.length:Int)) ?_ ?_ ?_ ?_);omega;omega;omega)|((refine ObX.mk _ rfl ?_ ?_);exact zX)|((with_reducible refine ObY.mk _ rfl ?_ ?_);exact zX)|((with_reducible refine (?_:ObU _ _));(refine ObU.mk _ zU ?_))|((with_reducible refine (?_:ObR _ _ _));(first|(refine ObR.mk _ zw ?_)|(refine ObR.map zX (fun x hx=>?_))|(refine ObR.mk _ rfl ?_)))|((with_reducible refine ObO.l ?_);(refine ObN.mk ?_ ?_);(exact ZQ)))
   conv=>whnf
   refine Again.mk (ts',(0,v)::jk,[]) hT2 hsum (Fg.vw [(0,0,0)] ?_ ?_ (by simp) ?_)
   all_goals repeat' ((conv=>whnf);first|((refine ObN.mk ?_ ?_);exact zN)|((with_reducible refine ObRn.mk ?_ ?_);(focus (first|rfl|(simp [rnB,rnC,rnL];done))))|((with_reducible refine ObRow.same ?_ ?_ ?_);exact zE;(focus (first|rfl|assumption|(simp;done))))|((refine ObEqs.mk ?_ ?_);rfl)|exact True.intro)
  have ha1:1<=a:=by have:=hok.1;simp only at this;omega
  have hg:=hfu a ha1 hok.2.1
  cases hnz:nz h a
  ·rw [hnz] at hg
   have hT2:=hT.skip (.inr hnz)
   repeat' ((conv=>whnf);first|(refine SeqP.go ?_)|((refine ObD.mk ?_ ?_);exact zD)|((refine ObN.mk ?_ ?_);exact zN)|(with_reducible first|refine ObT.tt ?_|refine ObT.ff ?_)|((refine ObB.yes ?_ ?_);exact zB)|((refine ObB.no ?_ ?_);exact zC)|((with_reducible refine ObI.mk ((ts'.length:Int)) ?_ ?_ ?_ ?_);omega;omega;omega)|((with_reducible refine ObI.mk _ rfl ?_ ?_ ?_);omega;omega)|((refine ObX.mk _ rfl ?_ ?_);exact zX)|((with_reducible refine ObX.int ?_ ?_ ?_);exact zX;exact zX)|((with_reducible refine ObY.mk _ rfl ?_ ?_);exact zX)|((with_reducible refine (?_:ObU _ _));(refine ObU.mk _ zU ?_))|((with_reducible refine (?_:ObR _ _ _));(first|(refine ObR.mk _ zw ?_)|(refine ObR.map zX (fun x hx=>?_))|(refine ObR.mk _ rfl ?_)))|((with_reducible refine ObO.l ?_);(refine ObN.mk ?_ ?_);(exact ZQ)))
   conv=>whnf
   refine Again.mk (ts',(a,v)::jk,[]) hT2 hsum (Fg.vw [(0,0,0)] ?_ ?_ (by simp) ?_)
   all_goals repeat' ((conv=>whnf);first|((refine ObN.mk ?_ ?_);exact zN)|((with_reducible refine ObRn.mk ?_ ?_);(focus (first|rfl|(simp [rnB,rnC,rnL];done))))|((with_reducible refine ObRow.same ?_ ?_ ?_);exact zE;(focus (first|rfl|assumption|(simp;done))))|((refine ObEqs.mk ?_ ?_);rfl)|exact True.intro)
  rw [hnz] at hg
  have hil:(a - 1).toNat < h.length:=by have:=hok.2.1;simp only at this;omega
  have hq2:(h.map nA)[(a - 1).toNat]? = _:=XB hil
  have hxo:=hx _ (List.getElem_mem hil)
  have how:ow' h a=ow h[(a - 1).toNat]:=by rw [ow',List.getElem?_eq_getElem hil]
  have hbd:=bnd23 G h[(a - 1).toNat] hxo
  have hrf:=X4 G h[(a - 1).toNat] hxo
  have hrl:=xm hxo
  have hri:=Wv hxo
  have hol5:=Wz hxo
  have htr:=fun h4=>yu (yD hh hil) h4
  have hvis:v=true->Tj h n (ts'++(ZW a h[(a - 1).toNat]).reverse) []/\((ts'++(ZW a h[(a - 1).toNat]).reverse).map (cs h)).sum < ((ts'++[(a,v)]).map (cs h)).sum:=fun hv=>by
   subst hv
   have ea:(((a - 1).toNat:Nat):Int)+1=a:=by omega
   have:=Tj.visit hh hnl (i:=(a - 1).toNat) (ts:=ts') (out:=[]) (by rw [ea];exact hT) hil (by rw [ea];exact hnz)
   rwa [ea] at this
  generalize h[(a - 1).toNat]=x at *
  cases v
  ·have hT2 := hT.own
   rw [how] at hT2
   clear hvis htr
   rcases hw:ow x with _|⟨w0,wt⟩
   ·rw [hw] at hT2 hbd
    repeat' ((conv=>whnf);first|(refine SeqP.go ?_)|((refine ObD.mk ?_ ?_);exact zD)|((refine ObN.mk ?_ ?_);exact zN)|(with_reducible first|refine ObT.tt ?_|refine ObT.ff ?_)|((refine ObB.yes ?_ ?_);exact zB)|((refine ObB.no ?_ ?_);exact zC)|((with_reducible refine ObI.mk ((ts'.length:Int)) ?_ ?_ ?_ ?_);omega;omega;omega)|((with_reducible refine ObI.mk _ rfl ?_ ?_ ?_);omega;omega)|((refine ObX.mk _ rfl ?_ ?_);exact zX)|((with_reducible refine ObX.int ?_ ?_ ?_);exact zX;exact zX)|((with_reducible refine ObY.mk _ rfl ?_ ?_);exact zX)|((with_reducible refine (?_:ObU _ _));(refine ObU.mk _ zU ?_))|((with_reducible refine (?_:ObR _ _ _));(first|(refine ObR.mk _ zw ?_)|(refine ObR.map zX (fun x hx=>?_))|(refine ObR.mk _ rfl ?_)))|((refine ObC.f 25 ?_);(refine ObC.mk _ (hbd) ?_))|((with_reducible refine ObO.l ?_);(refine ObN.mk ?_ ?_);(exact ZQ))|((with_reducible refine ObW.nil ?_ ?_);exact zE))
    conv=>whnf
    refine Again.mk (ts',(a,false)::jk,[]) hT2 hsum (Fg.vw [(0,0,0)] ?_ ?_ (by simp) ?_)
    all_goals repeat' ((conv=>whnf);first|((refine ObN.mk ?_ ?_);exact zN)|((with_reducible refine ObRn.mk ?_ ?_);(focus (first|rfl|(simp [rnB,rnC,rnL];done))))|((with_reducible refine ObRow.same ?_ ?_ ?_);exact zE;(focus (first|rfl|assumption|(simp;done))))|((refine ObEqs.mk ?_ ?_);rfl)|exact True.intro)
   ·rw [hw] at hT2 hbd hol5
    have rw1:=nr_p (w0::wt)
    have hol6:wt.length+1<=40:=hol5
    repeat' ((conv=>whnf);first|(refine SeqP.go ?_)|((refine ObD.mk ?_ ?_);exact zD)|((refine ObN.mk ?_ ?_);exact zN)|(with_reducible first|refine ObT.tt ?_|refine ObT.ff ?_)|((refine ObB.yes ?_ ?_);exact zB)|((refine ObB.no ?_ ?_);exact zC)|((with_reducible refine ObI.mk ((ts'.length:Int)) ?_ ?_ ?_ ?_);omega;omega;omega)|((with_reducible refine ObI.mk _ rfl ?_ ?_ ?_);omega;omega)|((refine ObX.mk _ rfl ?_ ?_);exact zX)|((with_reducible refine ObX.int ?_ ?_ ?_);exact zX;exact zX)|((with_reducible refine ObY.mk _ rfl ?_ ?_);exact zX)|((with_reducible refine (?_:ObL _ _));(refine ObL.mk _ zM ?_))|((with_reducible refine (?_:ObU _ _));(refine ObU.mk _ zU ?_))|((with_reducible refine (?_:ObR _ _ _));(first|(refine ObR.mk _ zw ?_)|(refine ObR.map zX (fun x hx=>?_))|(refine ObR.mk _ rfl ?_)))|((refine ObC.f 25 ?_);(refine ObC.mk _ (hbd) ?_))|((with_reducible refine ObO.l ?_);(refine ObN.mk ?_ ?_);(exact ZQ))|((with_reducible refine ObW.cons ?_ ?_);(focus (first|assumption|(simp;done)))))
    conv=>whnf
    refine Again.mk (ts',(a,false)::jk,w0::wt) hT2 hsum (Fg.vw [(0,0,0),(0,3,0)] ?_ ?_ (by simp) ?_)
    all_goals repeat' ((conv=>whnf);first|((refine ObN.mk ?_ ?_);exact zN)|((with_reducible refine ObRn.mk ?_ ?_);(focus (first|rfl|(simp [rnB,rnC,rnL];done))))|((with_reducible refine ObRow.same ?_ ?_ ?_);exact zE;(focus (first|rfl|assumption|(simp;done))))|((refine ObEqs.mk ?_ ?_);rfl)|exact True.intro)
  ·obtain ⟨hT2, hlt2⟩ := hvis rfl
   clear hvis
   have rx:[nA x].all nrB=true:=wb [x]
   repeat' ((conv=>whnf);first|(refine SeqP.go ?_)|((refine ObD.mk ?_ ?_);exact zD)|((refine ObN.mk ?_ ?_);exact zN)|(with_reducible first|refine ObT.tt ?_|refine ObT.ff ?_)|((refine ObB.yes ?_ ?_);exact zB)|((refine ObB.no ?_ ?_);exact zC)|((with_reducible refine ObI.mk ((ts'.length:Int)) ?_ ?_ ?_ ?_);omega;omega;omega)|((with_reducible refine ObI.mk _ rfl ?_ ?_ ?_);omega;omega)|((refine ObX.mk _ rfl ?_ ?_);exact zX)|((with_reducible refine ObX.int ?_ ?_ ?_);exact zX;exact zX)|((with_reducible refine ObY.mk _ rfl ?_ ?_);exact zX)|((with_reducible refine (?_:ObL _ _));(refine ObL.mk _ zM ?_))|((with_reducible refine (?_:ObU _ _));(refine ObU.mk _ zU ?_))|((with_reducible refine (?_:ObR _ _ _));(first|(refine ObR.mk _ zw ?_)|(refine ObR.map zX (fun x hx=>?_))|(refine ObR.mk _ rfl ?_)))|((refine ObC.f 23 ?_);(refine ObC.mk _ (hrf) ?_))|((with_reducible refine ObO.l ?_);(refine ObN.mk ?_ ?_);(exact ZQ)))
   conv=>whnf
   refine LoopP.go (α:=Nat) (fun k=>k<=(rfN x).length) (fun k=>(rfN x).length - k) (fun k=>[(13,some (.ol 4 0 (k+1))),(1,none),(56,none),(3,some (I k)),(0,none),(0,none),(0,none),(0,none),(0,none),(0,none),(0,none),(0,none),(0,none)]) (fun k=>[⟨54,2,(ts'++((a,true)::jk)).map tA,0,0⟩,⟨54,2,[.agg [I a,.v (.bool true)]],0,0⟩,⟨40,9,[nA x],0,0⟩,⟨54,2,[.agg [I a,.v (.bool false)]],0,0⟩,⟨54,2,((a,false)::((rfN x).take k).map fun r=>(r,true)).map tA,0,0⟩]) 0 (Nat.zero_le _) (Fg.go ?_ rfl) ?_
   ·repeat' ((conv=>whnf);first|((refine ObEqs.mk ?_ ?_);rfl)|((with_reducible refine ObEq1.i ?_ ?_);exact zF)|((with_reducible refine ObEq1.o ?_ ?_);exact zF)|exact True.intro)
   rintro k hk
   have hkl:(((a,false)::((rfN x).take k).map fun r=>((r,true):Tk)).map tA).length=k+1:=by simp;omega
   have rk:=YA ((a,false)::((rfN x).take k).map fun r=>(r,true))
   by_cases hkr:k < (rfN x).length
   ·have hq3 := Z0 hkr
    have us:(((a,false)::((rfN x).take k).map fun r=>((r,true):Tk)).map tA).take (k+1)++[.agg [I (rfN x)[k],.v (.bool true)]]=((a,false)::((rfN x).take (k+1)).map fun r=>(r,true)).map tA:=by
     rw [List.take_of_length_le (by omega),List.take_succ_eq_append_getElem hkr];simp only [List.map_append,List.map_cons,List.map_nil,List.cons_append];rfl
    have rk2:=YA ((a,false)::((rfN x).take (k+1)).map fun r=>(r,true))
    generalize (rfN x)[k]=c at *
    repeat' ((conv=>whnf);first|(refine SeqP.go ?_)|((refine ObD.mk ?_ ?_);exact zD)|((refine ObN.mk ?_ ?_);exact zN)|(refine ObT.tt ?_)|((refine ObB.yes ?_ ?_);exact zB)|((with_reducible refine ObI.nl ?_ ?_);omega)|((refine ObX.mk _ rfl ?_ ?_);exact zX)|((with_reducible refine (?_:ObL _ _));(refine ObL.mk _ zM ?_))|((with_reducible refine (?_:ObU _ _));(refine ObU.mk _ zq6 ?_))|((with_reducible refine (?_:ObR _ _ _));(first|(refine ObR.mk _ zw ?_)|(refine ObR.map zX (fun x hx=>?_))|(refine ObR.mk _ rfl ?_))))
    conv=>whnf
    refine Again.mk (k+1) (by omega) (by omega) (Fg.vw [(0,0,0),(0,1,0),(0,2,0),(0,3,0),(0,4,1)] ?_ ?_ (by simp) ?_)
    all_goals repeat' ((conv=>whnf);first|((refine ObN.mk ?_ ?_);exact zN)|((with_reducible refine ObRn.mk ?_ ?_);(focus (first|rfl|(simp [rnB,rnC,rnL];done))))|((with_reducible refine ObRow.same ?_ ?_ ?_);exact zE;(focus (first|rfl|assumption|(simp;done))))|((refine ObEqs.mk ?_ ?_);rfl)|exact True.intro)
   obtain rfl:k=(rfN x).length:=by omega
   rw [List.take_length] at hkl rk ⊢
   by_cases h4:x.kn=4
   ·obtain ⟨t1, t2, t3⟩ := htr h4
    have k0:(x.kk.map iA)[0]? = some (I (x.kk.getD 0 0)):=by rw [Z0 (by omega)];simp [List.getD_eq_getElem?_getD,List.getElem?_eq_getElem (show 0 < x.kk.length by omega)]
    have k1:(x.kk.map iA)[1]? = some (I (x.kk.getD 1 0)):=by rw [Z0 (by omega)];simp [List.getD_eq_getElem?_getD,List.getElem?_eq_getElem (show 1 < x.kk.length by omega)]
    have ht:ZW a x=[(x.kk.getD 0 0,true),(a,false),(x.kk.getD 1 0,true)]:=by unfold ZW;rw [if_pos h4]
    rw [ht] at hT2 hlt2
    generalize x.kk.getD 0 0=ka at *
    generalize x.kk.getD 1 0=kb at *
    have hrev:HC Tryd.prog G 26 [.ol 0 0 3] [⟨54,2,[.agg [I ka,.v (.bool true)],.agg [I a,.v (.bool false)],.agg [I kb,.v (.bool true)]],0,0⟩] (.tup []) [⟨54,2,[.agg [I kb,.v (.bool true)],.agg [I a,.v (.bool false)],.agg [I ka,.v (.bool true)]],0,0⟩]:=rev25 G [(ka,true),(a,false),(kb,true)] 0 (by simp) (by simp)
    have uf:((ts'++((a,true)::jk)).map tA).take ts'.length++[.agg [I kb,.v (.bool true)],.agg [I a,.v (.bool false)],.agg [I ka,.v (.bool true)]]=(ts'++[(ka,true),(a,false),(kb,true)].reverse).map tA:=by
     rw [List.map_append,List.take_left' (by simp),List.map_append];rfl
    have lf:ts'.length+3=(ts'++[(ka,true),(a,false),(kb,true)].reverse).length:=by simp
    have rf1:=YA (ts'++[(ka,true),(a,false),(kb,true)].reverse)
    have rlit:([.agg [I ka,.v (.bool true)],.agg [I a,.v (.bool false)],.agg [I kb,.v (.bool true)]]:List AV).all nrB=true:=YA [(ka,true),(a,false),(kb,true)]
    clear hT ht
    repeat' ((conv=>whnf);first|(refine SeqP.go ?_)|((refine ObD.mk ?_ ?_);exact zD)|((refine ObN.mk ?_ ?_);exact zN)|(with_reducible first|refine ObT.tt ?_|refine ObT.ff ?_)|((refine ObB.yes ?_ ?_);exact zB)|((refine ObB.no ?_ ?_);exact zC)|((refine ObX.mk _ rfl ?_ ?_);exact zX)|((with_reducible refine (?_:ObL _ _));(refine ObL.mk _ zq17 ?_))|((with_reducible refine (?_:ObU _ _));(refine ObU.mk _ zq9 ?_))|((with_reducible refine (?_:ObR _ _ _));(first|(refine ObR.mk _ zw ?_)|(refine ObR.map zX (fun x hx=>?_))|(refine ObR.mk _ rfl ?_)))|((refine ObH.f 26 ?_);refine ObH.frn _ yi [(0,5,0)] (hrev) (by simp) rfl (by simp) ?_)|((with_reducible refine ObRow.same ?_ ?_ ?_);exact zE;(focus (first|rfl|assumption|(simp;done))))|((with_reducible refine ObAs.mk ?_ ?_);(focus (first|rfl|(simp [rnB,rnC,rnL];done))))|((with_reducible refine (?_:ObRs _ _ _));(refine ObRs.mk _ rfl ?_))|((with_reducible refine ObBk.same ?_ ?_);(focus (first|rfl|assumption|(simp;done)))))
    conv=>whnf
    refine Again.mk (ts'++[(ka,true),(a,false),(kb,true)].reverse,[],[]) hT2 hlt2 ?_
    rw [List.append_nil]
    refine Fg.vw [(0,0,1)] ?_ ?_ (by simp) ?_
    all_goals repeat' ((conv=>whnf);first|((refine ObN.mk ?_ ?_);exact zN)|((with_reducible refine ObRn.mk ?_ ?_);(focus (first|rfl|(simp [rnB,rnC,rnL];done))))|((with_reducible refine ObRow.same ?_ ?_ ?_);exact zE;(focus (first|rfl|assumption|(simp;done))))|((refine ObEqs.mk ?_ ?_);rfl)|exact True.intro)
   ·have ht:ZW a x=(a,false)::(rfN x).map fun r=>(r,true):=by unfold ZW;rw [if_neg h4]
    rw [ht] at hT2 hlt2
    have hrev:HC Tryd.prog G 26 [.ol 0 0 ((rfN x).length+1)] [⟨54,2,((a,false)::(rfN x).map fun r=>((r,true):Tk)).map tA,0,0⟩] (.tup []) [⟨54,2,((a,false)::(rfN x).map fun r=>((r,true):Tk)).reverse.map tA,0,0⟩]:=by
     have:=rev25 G ((a,false)::(rfN x).map fun r=>(r,true)) 0 (by simp;omega) (by simp)
     rwa [show ((a,false)::(rfN x).map fun r=>((r,true):Tk)).length=(rfN x).length+1 by simp] at this
    have rf2:=YA ((a,false)::(rfN x).map fun r=>((r,true):Tk)).reverse
    have rl2:((a,false)::(rfN x).map fun r=>((r,true):Tk)).reverse.length=(rfN x).length+1:=by simp
    generalize ((a,false)::(rfN x).map fun r=>((r,true):Tk))=nx at *
    have uf:((ts'++((a,true)::jk)).map tA).take ts'.length++(nx.reverse.map tA).take ((rfN x).length+1)=(ts'++nx.reverse).map tA:=by
     rw [List.map_append,List.take_left' (by simp),List.map_append,List.take_of_length_le zq23]
    have uf2:(nx.reverse.map tA).take ((rfN x).length+1)=nx.reverse.map tA:=List.take_of_length_le zq23
    have uf3:((ts'++((a,true)::jk)).map tA).take ts'.length++nx.reverse.map tA=(ts'++nx.reverse).map tA:=by rw [<- uf,uf2]
    have lf:ts'.length+((rfN x).length+1)=(ts'++nx.reverse).length:=by rw [List.length_append,rl2]
    have lf2:ts'.length+(nx.reverse.map tA).length=(ts'++nx.reverse).length:=by simp
    have rf1:=YA (ts'++nx.reverse)
    clear hT ht htr
    repeat' ((conv=>whnf);first|(refine SeqP.go ?_)|((refine ObN.mk ?_ ?_);exact zN)|(refine ObT.ff ?_)|((refine ObB.no ?_ ?_);exact zC)|((with_reducible refine (?_:ObL _ _));(refine ObL.mk _ zq15 ?_))|((with_reducible refine (?_:ObU _ _));(refine ObU.mk _ zq1 ?_))|((with_reducible refine (?_:ObR _ _ _));(first|(refine ObR.mk _ zw ?_)|(refine ObR.map zX (fun x hx=>?_))|(refine ObR.mk _ rfl ?_)))|((refine ObH.f 26 ?_);refine ObH.frn _ yi [(0,4,0)] (hrev) (by simp) rfl (by simp) ?_)|((with_reducible refine ObRow.same ?_ ?_ ?_);exact zE;(focus (first|rfl|assumption|(simp;done))))|((with_reducible refine ObAs.mk ?_ ?_);(focus (first|rfl|(simp [rnB,rnC,rnL];done))))|((with_reducible refine (?_:ObRs _ _ _));(refine ObRs.mk _ rfl ?_))|((with_reducible refine ObBk.same ?_ ?_);(focus (first|rfl|assumption|(simp;done)))))
    conv=>whnf
    refine Again.mk (ts'++nx.reverse,[],[]) hT2 hlt2 ?_
    rw [List.append_nil]
    refine Fg.vw [(0,0,1)] ?_ ?_ (by simp) ?_
    all_goals repeat' ((conv=>whnf);first|((refine ObN.mk ?_ ?_);exact zN)|((with_reducible refine ObRn.mk ?_ ?_);(focus (first|rfl|(simp [rnB,rnC,rnL];done))))|((with_reducible refine ObRow.same ?_ ?_ ?_);exact zE;(focus (first|rfl|assumption|(simp;done))))|((refine ObEqs.mk ?_ ?_);rfl)|exact True.intro)
 ·have ro := nr_p (o0 :: ot)
  by_cases h0:a=0
  ·have hT2 := hT.skip (.inl h0)
   subst h0
   repeat' ((conv=>whnf);first|(refine SeqP.go ?_)|((refine ObD.mk ?_ ?_);exact zD)|((refine ObN.mk ?_ ?_);exact zN)|(refine ObT.tt ?_)|((refine ObB.yes ?_ ?_);exact zB)|((with_reducible refine ObI.mk ((ts'.length:Int)) ?_ ?_ ?_ ?_);omega;omega;omega)|((refine ObX.mk _ rfl ?_ ?_);exact zX)|((with_reducible refine ObY.mk _ rfl ?_ ?_);exact zX)|((with_reducible refine (?_:ObU _ _));(refine ObU.mk _ zU ?_))|((with_reducible refine (?_:ObR _ _ _));(first|(refine ObR.mk _ zw ?_)|(refine ObR.map zX (fun x hx=>?_))|(refine ObR.mk _ rfl ?_)))|((with_reducible refine ObO.l ?_);(refine ObN.mk ?_ ?_);(exact ZQ)))
   conv=>whnf
   refine Again.mk (ts',(0,v)::jk,(o0::ot)) hT2 hsum (Fg.vw [(0,0,0),(0,1,0)] ?_ ?_ (by simp) ?_)
   all_goals repeat' ((conv=>whnf);first|((refine ObN.mk ?_ ?_);exact zN)|((with_reducible refine ObRn.mk ?_ ?_);(focus (first|rfl|(simp [rnB,rnC,rnL];done))))|((with_reducible refine ObRow.same ?_ ?_ ?_);exact zE;(focus (first|rfl|assumption|(simp;done))))|((refine ObEqs.mk ?_ ?_);rfl)|exact True.intro)
  have ha1:1<=a:=by have:=hok.1;simp only at this;omega
  have hg:=hfu a ha1 hok.2.1
  cases hnz:nz h a
  ·rw [hnz] at hg
   have hT2:=hT.skip (.inr hnz)
   repeat' ((conv=>whnf);first|(refine SeqP.go ?_)|((refine ObD.mk ?_ ?_);exact zD)|((refine ObN.mk ?_ ?_);exact zN)|(with_reducible first|refine ObT.tt ?_|refine ObT.ff ?_)|((refine ObB.yes ?_ ?_);exact zB)|((refine ObB.no ?_ ?_);exact zC)|((with_reducible refine ObI.mk ((ts'.length:Int)) ?_ ?_ ?_ ?_);omega;omega;omega)|((with_reducible refine ObI.mk _ rfl ?_ ?_ ?_);omega;omega)|((refine ObX.mk _ rfl ?_ ?_);exact zX)|((with_reducible refine ObX.int ?_ ?_ ?_);exact zX;exact zX)|((with_reducible refine ObY.mk _ rfl ?_ ?_);exact zX)|((with_reducible refine (?_:ObU _ _));(refine ObU.mk _ zU ?_))|((with_reducible refine (?_:ObR _ _ _));(first|(refine ObR.mk _ zw ?_)|(refine ObR.map zX (fun x hx=>?_))|(refine ObR.mk _ rfl ?_)))|((with_reducible refine ObO.l ?_);(refine ObN.mk ?_ ?_);(exact ZQ)))
   conv=>whnf
   refine Again.mk (ts',(a,v)::jk,(o0::ot)) hT2 hsum (Fg.vw [(0,0,0),(0,1,0)] ?_ ?_ (by simp) ?_)
   all_goals repeat' ((conv=>whnf);first|((refine ObN.mk ?_ ?_);exact zN)|((with_reducible refine ObRn.mk ?_ ?_);(focus (first|rfl|(simp [rnB,rnC,rnL];done))))|((with_reducible refine ObRow.same ?_ ?_ ?_);exact zE;(focus (first|rfl|assumption|(simp;done))))|((refine ObEqs.mk ?_ ?_);rfl)|exact True.intro)
  rw [hnz] at hg
  have hil:(a - 1).toNat < h.length:=by have:=hok.2.1;simp only at this;omega
  have hq2:(h.map nA)[(a - 1).toNat]? = _:=XB hil
  have hxo:=hx _ (List.getElem_mem hil)
  have how:ow' h a=ow h[(a - 1).toNat]:=by rw [ow',List.getElem?_eq_getElem hil]
  have hbd:=bnd23 G h[(a - 1).toNat] hxo
  have hrf:=X4 G h[(a - 1).toNat] hxo
  have hrl:=xm hxo
  have hri:=Wv hxo
  have hol5:=Wz hxo
  have htr:=fun h4=>yu (yD hh hil) h4
  have hvis:v=true->Tj h n (ts'++(ZW a h[(a - 1).toNat]).reverse) (o0::ot)/\((ts'++(ZW a h[(a - 1).toNat]).reverse).map (cs h)).sum < ((ts'++[(a,v)]).map (cs h)).sum:=fun hv=>by
   subst hv
   have ea:(((a - 1).toNat:Nat):Int)+1=a:=by omega
   have:=Tj.visit hh hnl (i:=(a - 1).toNat) (ts:=ts') (out:=(o0::ot)) (by rw [ea];exact hT) hil (by rw [ea];exact hnz)
   rwa [ea] at this
  generalize h[(a - 1).toNat]=x at *
  cases v
  ·have hT2 := hT.own
   rw [how] at hT2
   clear hvis htr
   obtain ⟨O,hO⟩:∃ O,O=(o0::ot)++ow x:=⟨_,rfl⟩
   have hO2:O=o0::(ot++ow x):=by rw [hO];rfl
   have uo:((o0::ot).map pA).take (ot.length+1)++(ow x).map pA=O.map pA:=by
    rw [hO,List.map_append];congr 1;exact p_all (l:=o0::ot)
   have lo1:ot.length+1+((ow x).map pA).length=(ot++ow x).length+1:=by simp;omega
   have lo2:(ot++ow x).length+1<=40000040:=by
    have:ot.length+1<=40000000:=hol
    rw [List.length_append];omega
   have rO:=nr_p O
   rw [<- hO] at hT2
   subst hO2
   have hol7:ot.length+1<=40000000:=hol
   repeat' ((conv=>whnf);first|(refine SeqP.go ?_)|((refine ObD.mk ?_ ?_);exact zD)|((refine ObN.mk ?_ ?_);exact zN)|(with_reducible first|refine ObT.tt ?_|refine ObT.ff ?_)|((refine ObB.yes ?_ ?_);exact zB)|((refine ObB.no ?_ ?_);exact zC)|((with_reducible refine ObI.mk ((ts'.length:Int)) ?_ ?_ ?_ ?_);omega;omega;omega)|((with_reducible refine ObI.mk _ rfl ?_ ?_ ?_);omega;omega)|((refine ObX.mk _ rfl ?_ ?_);exact zX)|((with_reducible refine ObX.int ?_ ?_ ?_);exact zX;exact zX)|((with_reducible refine ObY.mk _ rfl ?_ ?_);exact zX)|((with_reducible refine (?_:ObL _ _));(refine ObL.mk _ (by first|exact lo1|exact (List.length_map _)|assumption|exact (List.length_map _).trans (by assumption)|exact List.length_map _|rfl) ?_))|((with_reducible refine (?_:ObU _ _));(refine ObU.mk _ (by first|exact uo|assumption|((conv=>lhs;simp only [List.set_cons_zero,List.set_cons_succ,List.take_succ_cons,List.take_zero,List.drop_succ_cons,List.drop_zero,List.nil_append,List.cons_append,List.append_nil,List.take_nil,List.drop_nil]);try rfl)|rfl) ?_))|((with_reducible refine (?_:ObR _ _ _));(first|(refine ObR.mk _ zw ?_)|(refine ObR.map zX (fun x hx=>?_))|(refine ObR.mk _ rfl ?_)))|((refine ObC.f 25 ?_);(refine ObC.mk _ (hbd) ?_))|((with_reducible refine ObO.l ?_);(refine ObN.mk ?_ ?_);(exact ZQ)))
   conv=>whnf
   refine Again.mk (ts',(a,false)::jk,o0::(ot++ow x)) hT2 hsum (Fg.vw [(0,0,0),(0,1,1)] ?_ ?_ (by simp) ?_)
   all_goals repeat' ((conv=>whnf);first|((refine ObN.mk ?_ ?_);exact zN)|((with_reducible refine ObRn.mk ?_ ?_);(focus (first|rfl|(simp [rnB,rnC,rnL];done))))|((with_reducible refine ObRow.same ?_ ?_ ?_);exact zE;(focus (first|rfl|assumption|(simp;done))))|((refine ObEqs.mk ?_ ?_);rfl)|exact True.intro)
  ·obtain ⟨hT2, hlt2⟩ := hvis rfl
   clear hvis
   have rx:[nA x].all nrB=true:=wb [x]
   repeat' ((conv=>whnf);first|(refine SeqP.go ?_)|((refine ObD.mk ?_ ?_);exact zD)|((refine ObN.mk ?_ ?_);exact zN)|(with_reducible first|refine ObT.tt ?_|refine ObT.ff ?_)|((refine ObB.yes ?_ ?_);exact zB)|((refine ObB.no ?_ ?_);exact zC)|((with_reducible refine ObI.mk ((ts'.length:Int)) ?_ ?_ ?_ ?_);omega;omega;omega)|((with_reducible refine ObI.mk _ rfl ?_ ?_ ?_);omega;omega)|((refine ObX.mk _ rfl ?_ ?_);exact zX)|((with_reducible refine ObX.int ?_ ?_ ?_);exact zX;exact zX)|((with_reducible refine ObY.mk _ rfl ?_ ?_);exact zX)|((with_reducible refine (?_:ObL _ _));(refine ObL.mk _ zM ?_))|((with_reducible refine (?_:ObU _ _));(refine ObU.mk _ zU ?_))|((with_reducible refine (?_:ObR _ _ _));(first|(refine ObR.mk _ zw ?_)|(refine ObR.map zX (fun x hx=>?_))|(refine ObR.mk _ rfl ?_)))|((refine ObC.f 23 ?_);(refine ObC.mk _ (hrf) ?_))|((with_reducible refine ObO.l ?_);(refine ObN.mk ?_ ?_);(exact ZQ)))
   conv=>whnf
   refine LoopP.go (α:=Nat) (fun k=>k<=(rfN x).length) (fun k=>(rfN x).length - k) (fun k=>[(13,some (.ol 5 0 (k+1))),(1,none),(56,none),(3,some (I k)),(0,none),(0,none),(0,none),(0,none),(0,none),(0,none),(0,none),(0,none),(0,none)]) (fun k=>[⟨54,2,(ts'++((a,true)::jk)).map tA,0,0⟩,⟨62,2,(o0::ot).map pA,0,0⟩,⟨54,2,[.agg [I a,.v (.bool true)]],0,0⟩,⟨40,9,[nA x],0,0⟩,⟨54,2,[.agg [I a,.v (.bool false)]],0,0⟩,⟨54,2,((a,false)::((rfN x).take k).map fun r=>(r,true)).map tA,0,0⟩]) 0 (Nat.zero_le _) (Fg.go ?_ rfl) ?_
   ·repeat' ((conv=>whnf);first|((refine ObEqs.mk ?_ ?_);rfl)|((with_reducible refine ObEq1.i ?_ ?_);exact zF)|((with_reducible refine ObEq1.o ?_ ?_);exact zF)|exact True.intro)
   rintro k hk
   have hkl:(((a,false)::((rfN x).take k).map fun r=>((r,true):Tk)).map tA).length=k+1:=by simp;omega
   have rk:=YA ((a,false)::((rfN x).take k).map fun r=>(r,true))
   by_cases hkr:k < (rfN x).length
   ·have hq3 := Z0 hkr
    have us:(((a,false)::((rfN x).take k).map fun r=>((r,true):Tk)).map tA).take (k+1)++[.agg [I (rfN x)[k],.v (.bool true)]]=((a,false)::((rfN x).take (k+1)).map fun r=>(r,true)).map tA:=by
     rw [List.take_of_length_le (by omega),List.take_succ_eq_append_getElem hkr];simp only [List.map_append,List.map_cons,List.map_nil,List.cons_append];rfl
    have rk2:=YA ((a,false)::((rfN x).take (k+1)).map fun r=>(r,true))
    generalize (rfN x)[k]=c at *
    repeat' ((conv=>whnf);first|(refine SeqP.go ?_)|((refine ObD.mk ?_ ?_);exact zD)|((refine ObN.mk ?_ ?_);exact zN)|(refine ObT.tt ?_)|((refine ObB.yes ?_ ?_);exact zB)|((with_reducible refine ObI.nl ?_ ?_);omega)|((refine ObX.mk _ rfl ?_ ?_);exact zX)|((with_reducible refine (?_:ObL _ _));(refine ObL.mk _ zM ?_))|((with_reducible refine (?_:ObU _ _));(refine ObU.mk _ zq6 ?_))|((with_reducible refine (?_:ObR _ _ _));(first|(refine ObR.mk _ zw ?_)|(refine ObR.map zX (fun x hx=>?_))|(refine ObR.mk _ rfl ?_))))
    conv=>whnf
    refine Again.mk (k+1) (by omega) (by omega) (Fg.vw [(0,0,0),(0,1,0),(0,2,0),(0,3,0),(0,4,0),(0,5,1)] ?_ ?_ (by simp) ?_)
    all_goals repeat' ((conv=>whnf);first|((refine ObN.mk ?_ ?_);exact zN)|((with_reducible refine ObRn.mk ?_ ?_);(focus (first|rfl|(simp [rnB,rnC,rnL];done))))|((with_reducible refine ObRow.same ?_ ?_ ?_);exact zE;(focus (first|rfl|assumption|(simp;done))))|((refine ObEqs.mk ?_ ?_);rfl)|exact True.intro)
   obtain rfl:k=(rfN x).length:=by omega
   rw [List.take_length] at hkl rk ⊢
   by_cases h4:x.kn=4
   ·obtain ⟨t1, t2, t3⟩ := htr h4
    have k0:(x.kk.map iA)[0]? = some (I (x.kk.getD 0 0)):=by rw [Z0 (by omega)];simp [List.getD_eq_getElem?_getD,List.getElem?_eq_getElem (show 0 < x.kk.length by omega)]
    have k1:(x.kk.map iA)[1]? = some (I (x.kk.getD 1 0)):=by rw [Z0 (by omega)];simp [List.getD_eq_getElem?_getD,List.getElem?_eq_getElem (show 1 < x.kk.length by omega)]
    have ht:ZW a x=[(x.kk.getD 0 0,true),(a,false),(x.kk.getD 1 0,true)]:=by unfold ZW;rw [if_pos h4]
    rw [ht] at hT2 hlt2
    generalize x.kk.getD 0 0=ka at *
    generalize x.kk.getD 1 0=kb at *
    have hrev:HC Tryd.prog G 26 [.ol 0 0 3] [⟨54,2,[.agg [I ka,.v (.bool true)],.agg [I a,.v (.bool false)],.agg [I kb,.v (.bool true)]],0,0⟩] (.tup []) [⟨54,2,[.agg [I kb,.v (.bool true)],.agg [I a,.v (.bool false)],.agg [I ka,.v (.bool true)]],0,0⟩]:=rev25 G [(ka,true),(a,false),(kb,true)] 0 (by simp) (by simp)
    have uf:((ts'++((a,true)::jk)).map tA).take ts'.length++[.agg [I kb,.v (.bool true)],.agg [I a,.v (.bool false)],.agg [I ka,.v (.bool true)]]=(ts'++[(ka,true),(a,false),(kb,true)].reverse).map tA:=by
     rw [List.map_append,List.take_left' (by simp),List.map_append];rfl
    have lf:ts'.length+3=(ts'++[(ka,true),(a,false),(kb,true)].reverse).length:=by simp
    have rf1:=YA (ts'++[(ka,true),(a,false),(kb,true)].reverse)
    have rlit:([.agg [I ka,.v (.bool true)],.agg [I a,.v (.bool false)],.agg [I kb,.v (.bool true)]]:List AV).all nrB=true:=YA [(ka,true),(a,false),(kb,true)]
    clear hT ht
    repeat' ((conv=>whnf);first|(refine SeqP.go ?_)|((refine ObD.mk ?_ ?_);exact zD)|((refine ObN.mk ?_ ?_);exact zN)|(with_reducible first|refine ObT.tt ?_|refine ObT.ff ?_)|((refine ObB.yes ?_ ?_);exact zB)|((refine ObB.no ?_ ?_);exact zC)|((refine ObX.mk _ rfl ?_ ?_);exact zX)|((with_reducible refine (?_:ObL _ _));(refine ObL.mk _ zq17 ?_))|((with_reducible refine (?_:ObU _ _));(refine ObU.mk _ zq9 ?_))|((with_reducible refine (?_:ObR _ _ _));(first|(refine ObR.mk _ zw ?_)|(refine ObR.map zX (fun x hx=>?_))|(refine ObR.mk _ rfl ?_)))|((refine ObH.f 26 ?_);refine ObH.frn _ yi [(0,6,0)] (hrev) (by simp) rfl (by simp) ?_)|((with_reducible refine ObRow.same ?_ ?_ ?_);exact zE;(focus (first|rfl|assumption|(simp;done))))|((with_reducible refine ObAs.mk ?_ ?_);(focus (first|rfl|(simp [rnB,rnC,rnL];done))))|((with_reducible refine (?_:ObRs _ _ _));(refine ObRs.mk _ rfl ?_))|((with_reducible refine ObBk.same ?_ ?_);(focus (first|rfl|assumption|(simp;done)))))
    conv=>whnf
    refine Again.mk (ts'++[(ka,true),(a,false),(kb,true)].reverse,[],(o0::ot)) hT2 hlt2 ?_
    rw [List.append_nil]
    refine Fg.vw [(0,0,1),(0,1,0)] ?_ ?_ (by simp) ?_
    all_goals repeat' ((conv=>whnf);first|((refine ObN.mk ?_ ?_);exact zN)|((with_reducible refine ObRn.mk ?_ ?_);(focus (first|rfl|(simp [rnB,rnC,rnL];done))))|((with_reducible refine ObRow.same ?_ ?_ ?_);exact zE;(focus (first|rfl|assumption|(simp;done))))|((refine ObEqs.mk ?_ ?_);rfl)|exact True.intro)
   ·have ht:ZW a x=(a,false)::(rfN x).map fun r=>(r,true):=by unfold ZW;rw [if_neg h4]
    rw [ht] at hT2 hlt2
    have hrev:HC Tryd.prog G 26 [.ol 0 0 ((rfN x).length+1)] [⟨54,2,((a,false)::(rfN x).map fun r=>((r,true):Tk)).map tA,0,0⟩] (.tup []) [⟨54,2,((a,false)::(rfN x).map fun r=>((r,true):Tk)).reverse.map tA,0,0⟩]:=by
     have:=rev25 G ((a,false)::(rfN x).map fun r=>(r,true)) 0 (by simp;omega) (by simp)
     rwa [show ((a,false)::(rfN x).map fun r=>((r,true):Tk)).length=(rfN x).length+1 by simp] at this
    have rf2:=YA ((a,false)::(rfN x).map fun r=>((r,true):Tk)).reverse
    have rl2:((a,false)::(rfN x).map fun r=>((r,true):Tk)).reverse.length=(rfN x).length+1:=by simp
    generalize ((a,false)::(rfN x).map fun r=>((r,true):Tk))=nx at *
    have uf:((ts'++((a,true)::jk)).map tA).take ts'.length++(nx.reverse.map tA).take ((rfN x).length+1)=(ts'++nx.reverse).map tA:=by
     rw [List.map_append,List.take_left' (by simp),List.map_append,List.take_of_length_le zq23]
    have uf2:(nx.reverse.map tA).take ((rfN x).length+1)=nx.reverse.map tA:=List.take_of_length_le zq23
    have uf3:((ts'++((a,true)::jk)).map tA).take ts'.length++nx.reverse.map tA=(ts'++nx.reverse).map tA:=by rw [<- uf,uf2]
    have lf:ts'.length+((rfN x).length+1)=(ts'++nx.reverse).length:=by rw [List.length_append,rl2]
    have lf2:ts'.length+(nx.reverse.map tA).length=(ts'++nx.reverse).length:=by simp
    have rf1:=YA (ts'++nx.reverse)
    clear hT ht htr
    repeat' ((conv=>whnf);first|(refine SeqP.go ?_)|((refine ObN.mk ?_ ?_);exact zN)|(refine ObT.ff ?_)|((refine ObB.no ?_ ?_);exact zC)|((with_reducible refine (?_:ObL _ _));(refine ObL.mk _ zq15 ?_))|((with_reducible refine (?_:ObU _ _));(refine ObU.mk _ zq1 ?_))|((with_reducible refine (?_:ObR _ _ _));(first|(refine ObR.mk _ zw ?_)|(refine ObR.map zX (fun x hx=>?_))|(refine ObR.mk _ rfl ?_)))|((refine ObH.f 26 ?_);refine ObH.frn _ yi [(0,5,0)] (hrev) (by simp) rfl (by simp) ?_)|((with_reducible refine ObRow.same ?_ ?_ ?_);exact zE;(focus (first|rfl|assumption|(simp;done))))|((with_reducible refine ObAs.mk ?_ ?_);(focus (first|rfl|(simp [rnB,rnC,rnL];done))))|((with_reducible refine (?_:ObRs _ _ _));(refine ObRs.mk _ rfl ?_))|((with_reducible refine ObBk.same ?_ ?_);(focus (first|rfl|assumption|(simp;done)))))
    conv=>whnf
    refine Again.mk (ts'++nx.reverse,[],(o0::ot)) hT2 hlt2 ?_
    rw [List.append_nil]
    refine Fg.vw [(0,0,1),(0,1,0)] ?_ ?_ (by simp) ?_
    all_goals repeat' ((conv=>whnf);first|((refine ObN.mk ?_ ?_);exact zN)|((with_reducible refine ObRn.mk ?_ ?_);(focus (first|rfl|(simp [rnB,rnC,rnL];done))))|((with_reducible refine ObRow.same ?_ ?_ ?_);exact zE;(focus (first|rfl|assumption|(simp;done))))|((refine ObEqs.mk ?_ ?_);rfl)|exact True.intro)
end
def PW (l:List Nd):Nat:=l.foldr (fun x p=>mw x * p) 1
theorem PW_snoc {l:List Nd} {x:Nd}:PW (l++[x])=PW l * mw x:=by
 induction l with
 | nil=>simp [PW]
 | cons a t ih =>
  have e:∀ l,PW (a::l)=mw a * PW l:=fun l=>rfl
  rw [List.cons_append,e,e,ih,Nat.mul_assoc]
theorem mw_pos {x:Nd}:1<=mw x:=by unfold mw;omega
theorem PW_few:∀ {n w:Nat} {l:List Nd},w<=3000->w * PW (Zf n w l)<=3000:=by
 intro n
 induction n with
 | zero=>intro w l hw;simpa [Zf,PW] using hw
 | succ n ih =>
  intro w l hw
  cases l with
  | nil=>simpa [Zf,PW] using hw
  | cons x t =>
   rw [Zf]
   split
   ·simpa [PW] using hw
   ·rename_i h
    have:=ih (w:=w * mw (yP x)) (l:=t) (by omega)
    show w * (mw (yP x) * PW _)<=3000
    rw [<- Nat.mul_assoc];exact this
theorem C_step {M w c:Nat} {l:List Nat} (hl:l.length<=w) (h:∀ x ∈ l,x<=M):l.sum<=w * M:=by
 have h1:l.sum<=l.length * M:=by
  clear hl
  induction l with
  | nil=>simp
  | cons a t ih =>
   have ha:=h a (List.mem_cons_self ..)
   have:=ih fun x hx=>h x (List.mem_cons_of_mem _ hx)
   simp only [List.sum_cons,List.length_cons,Nat.succ_mul];omega
 exact Nat.le_trans h1 (Nat.mul_le_mul_right _ hl)
theorem C_bd {h:List Nd} (hh:aH h h.length=true):∀ {i:Nat},i<=h.length->∀ r:Int,r<=(i:Int)->C h r<=(4 * i+1) * PW (h.take i):=by
 intro i
 have C0:∀ r:Int,r<=0->C h r=1:=fun r hr=>by
  unfold C;cases h.length with
  | zero=>rfl
  | succ n=>rw [ct,if_pos hr]
 induction i with
 | zero=>intro _ r hr;rw [C0 r (by omega)];simp [PW]
 | succ i ih =>
  intro hi r hr
  have hs:h.take (i+1)=h.take i++[h[i]]:=List.take_succ_eq_append_getElem hi
  have ih:=ih (by omega)
  have hw:=@mw_pos h[i]
  have ho:=yD hh (show i < h.length by omega)
  rw [hs,PW_snoc]
  generalize PW (h.take i)=P at *
  have hP:1<=P:=by
   have:=ih 0 (by omega);rw [C0 0 (by omega)] at this
   rcases Nat.eq_zero_or_pos P with h0|h0
   ·rw [h0] at this;omega
   ·exact h0
  obtain ⟨Q,hQ⟩:∃ Q,Q=P * mw h[i]:=⟨_,rfl⟩
  have hPQ:P<=Q:=by rw [hQ];exact Nat.le_mul_of_pos_right _ hw
  have key:(4 * i+1) * P * mw h[i]=(4 * i+1) * Q:=by rw [hQ,Nat.mul_assoc]
  have e5:(4 * (i+1)+1) * Q=(4 * i+1) * Q+4 * Q:=by rw [show 4 * (i+1)+1=(4 * i+1)+4 by omega,Nat.add_mul]
  rw [<- hQ,e5]
  by_cases hr2:r<=(i:Int)
  ·have h1 := ih r hr2
   have h2:(4 * i+1) * P<=(4 * i+1) * Q:=Nat.mul_le_mul_left _ hPQ
   omega
  obtain rfl:r=(i:Int)+1:=by omega
  rw [C_eq hh (by omega)]
  generalize hM:(4 * i+1) * P=M at *
  have hM1:1<=M:=by have:=ih 0 (by omega);rw [C0 0 (by omega)] at this;exact this
  by_cases h4:h[i].kn=4
  ·rw [if_pos h4]
   obtain ⟨a,b,h1,h2⟩:=Xa (XP ho) h4
   obtain ⟨⟨a0,a1⟩,⟨b0,b1⟩,_⟩:=yu ho h4
   rw [h1] at a0 a1 b0 b1 ⊢
   simp only [List.getD_cons_zero,List.getD_cons_succ] at a0 a1 b0 b1 ⊢
   have ca:=ih a a1
   have cb:=ih b b1
   by_cases ha:a=0
   ·rw [C0 a (by omega)]
    have:M<=(4 * i+1) * Q:=by rw [<- key];exact Nat.le_mul_of_pos_right _ hw
    omega
   by_cases hb:b=0
   ·rw [C0 b (by omega)]
    have:M<=(4 * i+1) * Q:=by rw [<- key];exact Nat.le_mul_of_pos_right _ hw
    omega
   have hw2:2<=mw h[i]:=by
    unfold mw;rw [h2];simp [List.filter_cons,ha,hb]
   have:M * 2<=(4 * i+1) * Q:=by rw [<- key];exact Nat.mul_le_mul_left _ hw2
   omega
  ·rw [if_neg h4]
   have:((rfN h[i]).map (C h)).sum<=mw h[i] * M:=C_step (c:=0) (by rw [List.length_map];unfold mw;omega) fun x hx=>by
    obtain ⟨k,hk,rfl⟩:=List.mem_map.1 hx
    exact ih k (yn ho hk).2
   rw [Nat.mul_comm,key] at this
   omega
theorem C_few {h:List Nd} (hw:∀ x ∈ h,x.Wd) {r:Int} (hh:aH (Zf 12 1 h) (Zf 12 1 h).length=true) (hr:r<=((Zf 12 1 h).length:Int)):C (Zf 12 1 h) r<=1000000:=by
 have h1:=C_bd hh (Nat.le_refl _) r hr
 have h2:=PW_few (n:=12) (w:=1) (l:=h) (by omega)
 rw [Nat.one_mul] at h2
 have h3:(Zf 12 1 h).length<=12:=wq
 rw [List.take_length] at h1
 have h4:(4 * (Zf 12 1 h).length+1) * PW (Zf 12 1 h)<=49 * 3000:=Nat.mul_le_mul (by omega) h2
 omega
section
variable (G:Nat->AV)
set_option maxHeartbeats 4000000 in
theorem samep11 (l:List Pr) (hl:l.length<=100000000):PC Tryd.prog G 12 [.sl 2 (l.map pA),.sl 2 (l.map pA)] (Bo true):=by
 refine zo cop12 ?_
 repeat' ((conv=>whnf);first|(refine SeqP.go ?_)|exact SameP.mk rfl rfl|(with_reducible first|refine ObAnd.mk ?_ ?_|refine ObDx.same ?_)|((refine ObD.mk ?_ ?_);exact zD)|((refine ObN.mk ?_ ?_);exact zN)|(with_reducible first|refine ObT.tt ?_|refine ObT.ff ?_)|((with_reducible refine ObT.yes ?_ ?_);assumption)|((with_reducible refine ObT.no ?_ ?_);assumption)|((with_reducible refine ObT.yes ?_ ?_);(focus (refine decide_eq_true ?_;first|assumption|omega)))|((with_reducible refine ObT.no ?_ ?_);(focus (refine decide_eq_false ?_;first|assumption|omega)))|(with_reducible first|refine ObT.dec (fun h=>?_) (fun h=>?_)|refine ObT.mk (fun h=>?_) (fun h=>?_))|((refine ObB.yes ?_ ?_);exact zB)|((refine ObB.no ?_ ?_);exact zC)|(with_reducible refine ObB.mk (fun h=>?_) (fun h=>?_))|((with_reducible refine ObI.nn ?_ ?_);omega)|((with_reducible refine ObI.nl ?_ ?_);omega)|((with_reducible refine ObI.sn ?_ ?_ ?_);omega;omega)|((with_reducible refine ObI.sl ?_ ?_ ?_);omega;omega)|((with_reducible refine ObI.dl ?_ ?_);omega)|((with_reducible refine ObI.mk _ rfl ?_ ?_ ?_);omega;omega)|((with_reducible refine ObZ.wu ?_ ?_);omega)|((with_reducible refine ObZ.wi ?_ ?_ ?_);omega;omega)|(with_reducible first|refine ObZ.ml ?_|refine ObZ.mn ?_|refine ObZ.mk _ rfl ?_)|((refine ObX.mk _ rfl ?_ ?_);exact zX)|((with_reducible refine ObX.lit ?_ ?_);exact zX)|((with_reducible refine ObX.int ?_ ?_ ?_);exact zX;exact zX)|((with_reducible refine ObY.mk _ rfl ?_ ?_);exact zX)|((with_reducible refine ObY.lit ?_ ?_);exact zX)|((with_reducible refine ObY.int ?_ ?_ ?_);exact zX;exact zX)|((with_reducible refine (?_:ObL _ _));(refine ObL.mk _ zM ?_))|((with_reducible refine (?_:ObU _ _));(refine ObU.mk _ zU ?_))|(with_reducible refine ObS.mk _ rfl ?_)|((with_reducible refine (?_:ObR _ _ _));(first|(refine ObR.mk _ zw ?_)|(refine ObR.map zX (fun x hx=>?_))|(refine ObR.mk _ rfl ?_)))|((with_reducible refine ObO.l ?_);(refine ObN.mk ?_ ?_);(exact ZQ))|((with_reducible refine ObO.r ?_);(refine ObN.mk ?_ ?_);(focus (first|omega|(simp;done))))|((with_reducible refine ObW.nil ?_ ?_);exact zE)|((with_reducible refine ObW.cons ?_ ?_);(focus (first|assumption|(simp;done))))|((with_reducible refine ObJ.zz ?_))|((with_reducible refine ObJ.nz ?_ ?_);exact zX)|((with_reducible refine ObJ.zn ?_ ?_);exact zX)|((with_reducible refine ObJ.nn ?_ ?_ ?_);exact zX;exact zX)|((with_reducible refine ObJ.lz ?_ ?_);exact zX)|((with_reducible refine ObJ.zl ?_ ?_);exact zX)|((with_reducible refine ObJ.nl ?_ ?_ ?_);exact zX;exact zX)|((with_reducible refine ObJ.ln ?_ ?_ ?_);exact zX;exact zX)|((with_reducible refine ObJ.ll ?_ ?_ ?_);exact zX;exact zX)|((with_reducible refine (?_:ObG _ _ _ _));(refine ObG.nz zX _ (by first|rfl) ?_))|((with_reducible refine (?_:ObG _ _ _ _));(refine ObG.zn zX _ (by first|rfl) ?_))|((with_reducible refine (?_:ObG _ _ _ _));(refine ObG.nn zX zX _ (by first|rfl) ?_))|((with_reducible refine (?_:ObG _ _ _ _));(refine ObG.lz zX _ (by first|rfl) ?_))|((with_reducible refine (?_:ObG _ _ _ _));(refine ObG.zl zX _ (by first|rfl) ?_))|((with_reducible refine (?_:ObG _ _ _ _));(refine ObG.nl zX zX _ (by first|rfl) ?_))|((with_reducible refine (?_:ObG _ _ _ _));(refine ObG.ln zX zX _ (by first|rfl) ?_))|((with_reducible refine (?_:ObG _ _ _ _));(refine ObG.ll zX zX _ (by first|rfl) ?_))|((with_reducible refine ObQ.mk _ rfl ?_ ?_);exact zX)|((with_reducible refine ObEq.i ?_);exact zF)|((refine ObEq.mk ?_);exact zE)|(exact ObEnd.eq rfl rfl)|((with_reducible refine ObSt.live ?_ ?_);(focus (first|trivial|(refine ⟨rfl,?_⟩;first|omega|(exact Nat.le_refl _)))))|(with_reducible refine ObSt.stale ?_)|((with_reducible refine ObRn.mk ?_ ?_);(focus (first|rfl|(simp [rnB,rnC,rnL];done))))|((with_reducible refine ObRow.same ?_ ?_ ?_);exact zE;(focus (first|rfl|assumption|(simp;done))))|((with_reducible refine ObRow.lit ?_ ?_);(focus (first|rfl|(simp [rnB,rnC,rnL];done))))|((refine ObEqs.mk ?_ ?_);rfl)|((with_reducible refine ObEq1.i ?_ ?_);exact zF)|((with_reducible refine ObEq1.o ?_ ?_);exact zF)|((with_reducible refine ObEq1.mk ?_ ?_);exact zE)|exact True.intro|(with_reducible first|refine ObE.min ?_|refine ObE.max ?_))
 conv=>whnf
 refine LoopP.go (α:=Nat) (fun i=>i<=l.length) (fun i=>l.length - i) (fun i=>[(4,none),(0,some (I i)),(5,none),(0,none),(0,none),(0,none),(0,none),(0,none),(0,none),(0,none),(0,none),(0,none),(0,none),(0,none),(0,none),(0,none),(0,none)]) (fun _=>[]) 0 (Nat.zero_le _) (Fg.go ?_ rfl) ?_
 ·repeat' ((conv=>whnf);first|(refine SeqP.go ?_)|exact SameP.mk rfl rfl|(with_reducible first|refine ObAnd.mk ?_ ?_|refine ObDx.same ?_)|((refine ObD.mk ?_ ?_);exact zD)|((refine ObN.mk ?_ ?_);exact zN)|(with_reducible first|refine ObT.tt ?_|refine ObT.ff ?_)|((with_reducible refine ObT.yes ?_ ?_);assumption)|((with_reducible refine ObT.no ?_ ?_);assumption)|((with_reducible refine ObT.yes ?_ ?_);(focus (refine decide_eq_true ?_;first|assumption|omega)))|((with_reducible refine ObT.no ?_ ?_);(focus (refine decide_eq_false ?_;first|assumption|omega)))|(with_reducible first|refine ObT.dec (fun h=>?_) (fun h=>?_)|refine ObT.mk (fun h=>?_) (fun h=>?_))|((refine ObB.yes ?_ ?_);exact zB)|((refine ObB.no ?_ ?_);exact zC)|(with_reducible refine ObB.mk (fun h=>?_) (fun h=>?_))|((with_reducible refine ObI.nn ?_ ?_);omega)|((with_reducible refine ObI.nl ?_ ?_);omega)|((with_reducible refine ObI.sn ?_ ?_ ?_);omega;omega)|((with_reducible refine ObI.sl ?_ ?_ ?_);omega;omega)|((with_reducible refine ObI.dl ?_ ?_);omega)|((with_reducible refine ObI.mk _ rfl ?_ ?_ ?_);omega;omega)|((with_reducible refine ObZ.wu ?_ ?_);omega)|((with_reducible refine ObZ.wi ?_ ?_ ?_);omega;omega)|(with_reducible first|refine ObZ.ml ?_|refine ObZ.mn ?_|refine ObZ.mk _ rfl ?_)|((refine ObX.mk _ rfl ?_ ?_);exact zX)|((with_reducible refine ObX.lit ?_ ?_);exact zX)|((with_reducible refine ObX.int ?_ ?_ ?_);exact zX;exact zX)|((with_reducible refine ObY.mk _ rfl ?_ ?_);exact zX)|((with_reducible refine ObY.lit ?_ ?_);exact zX)|((with_reducible refine ObY.int ?_ ?_ ?_);exact zX;exact zX)|((with_reducible refine (?_:ObL _ _));(refine ObL.mk _ zL ?_))|((with_reducible refine (?_:ObU _ _));(refine ObU.mk _ zU ?_))|(with_reducible refine ObS.mk _ rfl ?_)|((with_reducible refine (?_:ObR _ _ _));(first|(refine ObR.mk _ zw ?_)|(refine ObR.map zX (fun x hx=>?_))|(refine ObR.mk _ rfl ?_)))|((with_reducible refine ObO.l ?_);(refine ObN.mk ?_ ?_);(exact ZQ))|((with_reducible refine ObO.r ?_);(refine ObN.mk ?_ ?_);(focus (first|omega|(simp;done))))|((with_reducible refine ObW.nil ?_ ?_);exact zE)|((with_reducible refine ObW.cons ?_ ?_);(focus (first|assumption|(simp;done))))|((with_reducible refine ObJ.zz ?_))|((with_reducible refine ObJ.nz ?_ ?_);exact zX)|((with_reducible refine ObJ.zn ?_ ?_);exact zX)|((with_reducible refine ObJ.nn ?_ ?_ ?_);exact zX;exact zX)|((with_reducible refine ObJ.lz ?_ ?_);exact zX)|((with_reducible refine ObJ.zl ?_ ?_);exact zX)|((with_reducible refine ObJ.nl ?_ ?_ ?_);exact zX;exact zX)|((with_reducible refine ObJ.ln ?_ ?_ ?_);exact zX;exact zX)|((with_reducible refine ObJ.ll ?_ ?_ ?_);exact zX;exact zX)|((with_reducible refine (?_:ObG _ _ _ _));(refine ObG.nz zX _ (by first|rfl) ?_))|((with_reducible refine (?_:ObG _ _ _ _));(refine ObG.zn zX _ (by first|rfl) ?_))|((with_reducible refine (?_:ObG _ _ _ _));(refine ObG.nn zX zX _ (by first|rfl) ?_))|((with_reducible refine (?_:ObG _ _ _ _));(refine ObG.lz zX _ (by first|rfl) ?_))|((with_reducible refine (?_:ObG _ _ _ _));(refine ObG.zl zX _ (by first|rfl) ?_))|((with_reducible refine (?_:ObG _ _ _ _));(refine ObG.nl zX zX _ (by first|rfl) ?_))|((with_reducible refine (?_:ObG _ _ _ _));(refine ObG.ln zX zX _ (by first|rfl) ?_))|((with_reducible refine (?_:ObG _ _ _ _));(refine ObG.ll zX zX _ (by first|rfl) ?_))|((with_reducible refine ObQ.mk _ rfl ?_ ?_);exact zX)|((with_reducible refine ObEq.i ?_);exact zF)|((refine ObEq.mk ?_);exact zE)|(exact ObEnd.eq rfl rfl)|((with_reducible refine ObSt.live ?_ ?_);(focus (first|trivial|(refine ⟨rfl,?_⟩;first|omega|(exact Nat.le_refl _)))))|(with_reducible refine ObSt.stale ?_)|((with_reducible refine ObRn.mk ?_ ?_);(focus (first|rfl|(simp [rnB,rnC,rnL];done))))|((with_reducible refine ObRow.same ?_ ?_ ?_);exact zE;(focus (first|rfl|assumption|(simp;done))))|((with_reducible refine ObRow.lit ?_ ?_);(focus (first|rfl|(simp [rnB,rnC,rnL];done))))|((refine ObEqs.mk ?_ ?_);rfl)|((with_reducible refine ObEq1.i ?_ ?_);exact zF)|((with_reducible refine ObEq1.o ?_ ?_);exact zF)|((with_reducible refine ObEq1.mk ?_ ?_);exact zE)|exact True.intro|(with_reducible first|refine ObE.min ?_|refine ObE.max ?_))
 rintro i hi
 by_cases hil:i < l.length
 ·have hq := Zd hil
  generalize l[i]=x at *
  obtain ⟨a,b⟩:=x
  repeat' ((conv=>whnf);first|(refine SeqP.go ?_)|exact SameP.mk rfl rfl|(with_reducible first|refine ObAnd.mk ?_ ?_|refine ObDx.same ?_)|((refine ObD.mk ?_ ?_);exact zD)|((refine ObN.mk ?_ ?_);exact zN)|(with_reducible first|refine ObT.tt ?_|refine ObT.ff ?_)|((with_reducible refine ObT.yes ?_ ?_);assumption)|((with_reducible refine ObT.no ?_ ?_);assumption)|((with_reducible refine ObT.yes ?_ ?_);(focus (refine decide_eq_true ?_;first|assumption|omega)))|((with_reducible refine ObT.no ?_ ?_);(focus (refine decide_eq_false ?_;first|assumption|omega)))|(with_reducible first|refine ObT.dec (fun h=>?_) (fun h=>?_)|refine ObT.mk (fun h=>?_) (fun h=>?_))|((refine ObB.yes ?_ ?_);exact zB)|((refine ObB.no ?_ ?_);exact zC)|(with_reducible refine ObB.mk (fun h=>?_) (fun h=>?_))|((with_reducible refine ObI.nn ?_ ?_);omega)|((with_reducible refine ObI.nl ?_ ?_);omega)|((with_reducible refine ObI.sn ?_ ?_ ?_);omega;omega)|((with_reducible refine ObI.sl ?_ ?_ ?_);omega;omega)|((with_reducible refine ObI.dl ?_ ?_);omega)|((with_reducible refine ObI.mk _ rfl ?_ ?_ ?_);omega;omega)|((with_reducible refine ObZ.wu ?_ ?_);omega)|((with_reducible refine ObZ.wi ?_ ?_ ?_);omega;omega)|(with_reducible first|refine ObZ.ml ?_|refine ObZ.mn ?_|refine ObZ.mk _ rfl ?_)|((refine ObX.mk _ rfl ?_ ?_);exact zX)|((with_reducible refine ObX.lit ?_ ?_);exact zX)|((with_reducible refine ObX.int ?_ ?_ ?_);exact zX;exact zX)|((with_reducible refine ObY.mk _ rfl ?_ ?_);exact zX)|((with_reducible refine ObY.lit ?_ ?_);exact zX)|((with_reducible refine ObY.int ?_ ?_ ?_);exact zX;exact zX)|((with_reducible refine (?_:ObL _ _));(refine ObL.mk _ zM ?_))|((with_reducible refine (?_:ObU _ _));(refine ObU.mk _ zU ?_))|(with_reducible refine ObS.mk _ rfl ?_)|((with_reducible refine (?_:ObR _ _ _));(first|(refine ObR.mk _ zw ?_)|(refine ObR.map zX (fun x hx=>?_))|(refine ObR.mk _ rfl ?_)))|((with_reducible refine ObO.l ?_);(refine ObN.mk ?_ ?_);(exact ZQ))|((with_reducible refine ObO.r ?_);(refine ObN.mk ?_ ?_);(focus (first|omega|(simp;done))))|((with_reducible refine ObW.nil ?_ ?_);exact zE)|((with_reducible refine ObW.cons ?_ ?_);(focus (first|assumption|(simp;done))))|((with_reducible refine ObJ.zz ?_))|((with_reducible refine ObJ.nz ?_ ?_);exact zX)|((with_reducible refine ObJ.zn ?_ ?_);exact zX)|((with_reducible refine ObJ.nn ?_ ?_ ?_);exact zX;exact zX)|((with_reducible refine ObJ.lz ?_ ?_);exact zX)|((with_reducible refine ObJ.zl ?_ ?_);exact zX)|((with_reducible refine ObJ.nl ?_ ?_ ?_);exact zX;exact zX)|((with_reducible refine ObJ.ln ?_ ?_ ?_);exact zX;exact zX)|((with_reducible refine ObJ.ll ?_ ?_ ?_);exact zX;exact zX)|((with_reducible refine (?_:ObG _ _ _ _));(refine ObG.nz zX _ (by first|rfl) ?_))|((with_reducible refine (?_:ObG _ _ _ _));(refine ObG.zn zX _ (by first|rfl) ?_))|((with_reducible refine (?_:ObG _ _ _ _));(refine ObG.nn zX zX _ (by first|rfl) ?_))|((with_reducible refine (?_:ObG _ _ _ _));(refine ObG.lz zX _ (by first|rfl) ?_))|((with_reducible refine (?_:ObG _ _ _ _));(refine ObG.zl zX _ (by first|rfl) ?_))|((with_reducible refine (?_:ObG _ _ _ _));(refine ObG.nl zX zX _ (by first|rfl) ?_))|((with_reducible refine (?_:ObG _ _ _ _));(refine ObG.ln zX zX _ (by first|rfl) ?_))|((with_reducible refine (?_:ObG _ _ _ _));(refine ObG.ll zX zX _ (by first|rfl) ?_))|((with_reducible refine ObQ.mk _ rfl ?_ ?_);exact zX)|((with_reducible refine ObEq.i ?_);exact zF)|((refine ObEq.mk ?_);exact zE)|(exact ObEnd.eq rfl rfl)|((with_reducible refine ObSt.live ?_ ?_);(focus (first|trivial|(refine ⟨rfl,?_⟩;first|omega|(exact Nat.le_refl _)))))|(with_reducible refine ObSt.stale ?_)|((with_reducible refine ObRn.mk ?_ ?_);(focus (first|rfl|(simp [rnB,rnC,rnL];done))))|((with_reducible refine ObRow.same ?_ ?_ ?_);exact zE;(focus (first|rfl|assumption|(simp;done))))|((with_reducible refine ObRow.lit ?_ ?_);(focus (first|rfl|(simp [rnB,rnC,rnL];done))))|((refine ObEqs.mk ?_ ?_);rfl)|((with_reducible refine ObEq1.i ?_ ?_);exact zF)|((with_reducible refine ObEq1.o ?_ ?_);exact zF)|((with_reducible refine ObEq1.mk ?_ ?_);exact zE)|exact True.intro|(with_reducible first|refine ObE.min ?_|refine ObE.max ?_))
  conv=>whnf
  refine Again.mk (i+1) (by omega) (by omega) (Fg.go ?_ rfl)
  repeat' ((conv=>whnf);first|(refine SeqP.go ?_)|exact SameP.mk rfl rfl|(with_reducible first|refine ObAnd.mk ?_ ?_|refine ObDx.same ?_)|((refine ObD.mk ?_ ?_);exact zD)|((refine ObN.mk ?_ ?_);exact zN)|(with_reducible first|refine ObT.tt ?_|refine ObT.ff ?_)|((with_reducible refine ObT.yes ?_ ?_);assumption)|((with_reducible refine ObT.no ?_ ?_);assumption)|((with_reducible refine ObT.yes ?_ ?_);(focus (refine decide_eq_true ?_;first|assumption|omega)))|((with_reducible refine ObT.no ?_ ?_);(focus (refine decide_eq_false ?_;first|assumption|omega)))|(with_reducible first|refine ObT.dec (fun h=>?_) (fun h=>?_)|refine ObT.mk (fun h=>?_) (fun h=>?_))|((refine ObB.yes ?_ ?_);exact zB)|((refine ObB.no ?_ ?_);exact zC)|(with_reducible refine ObB.mk (fun h=>?_) (fun h=>?_))|((with_reducible refine ObI.nn ?_ ?_);omega)|((with_reducible refine ObI.nl ?_ ?_);omega)|((with_reducible refine ObI.sn ?_ ?_ ?_);omega;omega)|((with_reducible refine ObI.sl ?_ ?_ ?_);omega;omega)|((with_reducible refine ObI.dl ?_ ?_);omega)|((with_reducible refine ObI.mk _ rfl ?_ ?_ ?_);omega;omega)|((with_reducible refine ObZ.wu ?_ ?_);omega)|((with_reducible refine ObZ.wi ?_ ?_ ?_);omega;omega)|(with_reducible first|refine ObZ.ml ?_|refine ObZ.mn ?_|refine ObZ.mk _ rfl ?_)|((refine ObX.mk _ rfl ?_ ?_);exact zX)|((with_reducible refine ObX.lit ?_ ?_);exact zX)|((with_reducible refine ObX.int ?_ ?_ ?_);exact zX;exact zX)|((with_reducible refine ObY.mk _ rfl ?_ ?_);exact zX)|((with_reducible refine ObY.lit ?_ ?_);exact zX)|((with_reducible refine ObY.int ?_ ?_ ?_);exact zX;exact zX)|((with_reducible refine (?_:ObL _ _));(refine ObL.mk _ zL ?_))|((with_reducible refine (?_:ObU _ _));(refine ObU.mk _ zU ?_))|(with_reducible refine ObS.mk _ rfl ?_)|((with_reducible refine (?_:ObR _ _ _));(first|(refine ObR.mk _ zw ?_)|(refine ObR.map zX (fun x hx=>?_))|(refine ObR.mk _ rfl ?_)))|((with_reducible refine ObO.l ?_);(refine ObN.mk ?_ ?_);(exact ZQ))|((with_reducible refine ObO.r ?_);(refine ObN.mk ?_ ?_);(focus (first|omega|(simp;done))))|((with_reducible refine ObW.nil ?_ ?_);exact zE)|((with_reducible refine ObW.cons ?_ ?_);(focus (first|assumption|(simp;done))))|((with_reducible refine ObJ.zz ?_))|((with_reducible refine ObJ.nz ?_ ?_);exact zX)|((with_reducible refine ObJ.zn ?_ ?_);exact zX)|((with_reducible refine ObJ.nn ?_ ?_ ?_);exact zX;exact zX)|((with_reducible refine ObJ.lz ?_ ?_);exact zX)|((with_reducible refine ObJ.zl ?_ ?_);exact zX)|((with_reducible refine ObJ.nl ?_ ?_ ?_);exact zX;exact zX)|((with_reducible refine ObJ.ln ?_ ?_ ?_);exact zX;exact zX)|((with_reducible refine ObJ.ll ?_ ?_ ?_);exact zX;exact zX)|((with_reducible refine (?_:ObG _ _ _ _));(refine ObG.nz zX _ (by first|rfl) ?_))|((with_reducible refine (?_:ObG _ _ _ _));(refine ObG.zn zX _ (by first|rfl) ?_))|((with_reducible refine (?_:ObG _ _ _ _));(refine ObG.nn zX zX _ (by first|rfl) ?_))|((with_reducible refine (?_:ObG _ _ _ _));(refine ObG.lz zX _ (by first|rfl) ?_))|((with_reducible refine (?_:ObG _ _ _ _));(refine ObG.zl zX _ (by first|rfl) ?_))|((with_reducible refine (?_:ObG _ _ _ _));(refine ObG.nl zX zX _ (by first|rfl) ?_))|((with_reducible refine (?_:ObG _ _ _ _));(refine ObG.ln zX zX _ (by first|rfl) ?_))|((with_reducible refine (?_:ObG _ _ _ _));(refine ObG.ll zX zX _ (by first|rfl) ?_))|((with_reducible refine ObQ.mk _ rfl ?_ ?_);exact zX)|((with_reducible refine ObEq.i ?_);exact zF)|((refine ObEq.mk ?_);exact zE)|(exact ObEnd.eq rfl rfl)|((with_reducible refine ObSt.live ?_ ?_);(focus (first|trivial|(refine ⟨rfl,?_⟩;first|omega|(exact Nat.le_refl _)))))|(with_reducible refine ObSt.stale ?_)|((with_reducible refine ObRn.mk ?_ ?_);(focus (first|rfl|(simp [rnB,rnC,rnL];done))))|((with_reducible refine ObRow.same ?_ ?_ ?_);exact zE;(focus (first|rfl|assumption|(simp;done))))|((with_reducible refine ObRow.lit ?_ ?_);(focus (first|rfl|(simp [rnB,rnC,rnL];done))))|((refine ObEqs.mk ?_ ?_);rfl)|((with_reducible refine ObEq1.i ?_ ?_);exact zF)|((with_reducible refine ObEq1.o ?_ ?_);exact zF)|((with_reducible refine ObEq1.mk ?_ ?_);exact zE)|exact True.intro|(with_reducible first|refine ObE.min ?_|refine ObE.max ?_))
  exact (h ⟨rfl,rfl,trivial⟩).elim
 ·obtain rfl : i = l.length := by omega
  repeat' ((conv=>whnf);first|(refine SeqP.go ?_)|exact SameP.mk rfl rfl|(with_reducible first|refine ObAnd.mk ?_ ?_|refine ObDx.same ?_)|((refine ObD.mk ?_ ?_);exact zD)|((refine ObN.mk ?_ ?_);exact zN)|(with_reducible first|refine ObT.tt ?_|refine ObT.ff ?_)|((with_reducible refine ObT.yes ?_ ?_);assumption)|((with_reducible refine ObT.no ?_ ?_);assumption)|((with_reducible refine ObT.yes ?_ ?_);(focus (refine decide_eq_true ?_;first|assumption|omega)))|((with_reducible refine ObT.no ?_ ?_);(focus (refine decide_eq_false ?_;first|assumption|omega)))|(with_reducible first|refine ObT.dec (fun h=>?_) (fun h=>?_)|refine ObT.mk (fun h=>?_) (fun h=>?_))|((refine ObB.yes ?_ ?_);exact zB)|((refine ObB.no ?_ ?_);exact zC)|(with_reducible refine ObB.mk (fun h=>?_) (fun h=>?_))|((with_reducible refine ObI.nn ?_ ?_);omega)|((with_reducible refine ObI.nl ?_ ?_);omega)|((with_reducible refine ObI.sn ?_ ?_ ?_);omega;omega)|((with_reducible refine ObI.sl ?_ ?_ ?_);omega;omega)|((with_reducible refine ObI.dl ?_ ?_);omega)|((with_reducible refine ObI.mk _ rfl ?_ ?_ ?_);omega;omega)|((with_reducible refine ObZ.wu ?_ ?_);omega)|((with_reducible refine ObZ.wi ?_ ?_ ?_);omega;omega)|(with_reducible first|refine ObZ.ml ?_|refine ObZ.mn ?_|refine ObZ.mk _ rfl ?_)|((refine ObX.mk _ rfl ?_ ?_);exact zX)|((with_reducible refine ObX.lit ?_ ?_);exact zX)|((with_reducible refine ObX.int ?_ ?_ ?_);exact zX;exact zX)|((with_reducible refine ObY.mk _ rfl ?_ ?_);exact zX)|((with_reducible refine ObY.lit ?_ ?_);exact zX)|((with_reducible refine ObY.int ?_ ?_ ?_);exact zX;exact zX)|((with_reducible refine (?_:ObL _ _));(refine ObL.mk _ zM ?_))|((with_reducible refine (?_:ObU _ _));(refine ObU.mk _ zU ?_))|(with_reducible refine ObS.mk _ rfl ?_)|((with_reducible refine (?_:ObR _ _ _));(first|(refine ObR.mk _ zw ?_)|(refine ObR.map zX (fun x hx=>?_))|(refine ObR.mk _ rfl ?_)))|((with_reducible refine ObO.l ?_);(refine ObN.mk ?_ ?_);(exact ZQ))|((with_reducible refine ObO.r ?_);(refine ObN.mk ?_ ?_);(focus (first|omega|(simp;done))))|((with_reducible refine ObW.nil ?_ ?_);exact zE)|((with_reducible refine ObW.cons ?_ ?_);(focus (first|assumption|(simp;done))))|((with_reducible refine ObJ.zz ?_))|((with_reducible refine ObJ.nz ?_ ?_);exact zX)|((with_reducible refine ObJ.zn ?_ ?_);exact zX)|((with_reducible refine ObJ.nn ?_ ?_ ?_);exact zX;exact zX)|((with_reducible refine ObJ.lz ?_ ?_);exact zX)|((with_reducible refine ObJ.zl ?_ ?_);exact zX)|((with_reducible refine ObJ.nl ?_ ?_ ?_);exact zX;exact zX)|((with_reducible refine ObJ.ln ?_ ?_ ?_);exact zX;exact zX)|((with_reducible refine ObJ.ll ?_ ?_ ?_);exact zX;exact zX)|((with_reducible refine (?_:ObG _ _ _ _));(refine ObG.nz zX _ (by first|rfl) ?_))|((with_reducible refine (?_:ObG _ _ _ _));(refine ObG.zn zX _ (by first|rfl) ?_))|((with_reducible refine (?_:ObG _ _ _ _));(refine ObG.nn zX zX _ (by first|rfl) ?_))|((with_reducible refine (?_:ObG _ _ _ _));(refine ObG.lz zX _ (by first|rfl) ?_))|((with_reducible refine (?_:ObG _ _ _ _));(refine ObG.zl zX _ (by first|rfl) ?_))|((with_reducible refine (?_:ObG _ _ _ _));(refine ObG.nl zX zX _ (by first|rfl) ?_))|((with_reducible refine (?_:ObG _ _ _ _));(refine ObG.ln zX zX _ (by first|rfl) ?_))|((with_reducible refine (?_:ObG _ _ _ _));(refine ObG.ll zX zX _ (by first|rfl) ?_))|((with_reducible refine ObQ.mk _ rfl ?_ ?_);exact zX)|((with_reducible refine ObEq.i ?_);exact zF)|((refine ObEq.mk ?_);exact zE)|(exact ObEnd.eq rfl rfl)|((with_reducible refine ObSt.live ?_ ?_);(focus (first|trivial|(refine ⟨rfl,?_⟩;first|omega|(exact Nat.le_refl _)))))|(with_reducible refine ObSt.stale ?_)|((with_reducible refine ObRn.mk ?_ ?_);(focus (first|rfl|(simp [rnB,rnC,rnL];done))))|((with_reducible refine ObRow.same ?_ ?_ ?_);exact zE;(focus (first|rfl|assumption|(simp;done))))|((with_reducible refine ObRow.lit ?_ ?_);(focus (first|rfl|(simp [rnB,rnC,rnL];done))))|((refine ObEqs.mk ?_ ?_);rfl)|((with_reducible refine ObEq1.i ?_ ?_);exact zF)|((with_reducible refine ObEq1.o ?_ ?_);exact zF)|((with_reducible refine ObEq1.mk ?_ ?_);exact zE)|exact True.intro|(with_reducible first|refine ObE.min ?_|refine ObE.max ?_))
end
def E4:AF:=(AF.mk 85 [(6,none)] (AC.seq (AC.region [(jA 6 (AOp.mv (jS false)))]) (AC.seq (AC.seq (AC.region [(jA 16 (AOp.call 8 [])),(jA 17 (AOp.un UnOp.not (AX.t 16)))]) (AC.cond (AX.t 17) (AC.seq (AC.region [(jA 6 (AOp.mv (jS false)))]) AC.ret) AC.skip)) (AC.seq (AC.region [(jA 18 (AOp.mv (AX.t 0))),(jA 19 (AOp.callh 5 [(AX.t 18)])),(jA 0 (AOp.mv (AX.t 19)))]) (AC.seq (AC.region [(jA 20 (AOp.mv (AX.t 0))),(jA 21 (AOp.callh 5 [(AX.t 20)])),(jA 22 (AOp.mv (AX.t 1))),(jA 23 (AOp.app 40 9 120 (AX.t 21) (AX.t 22))),(jA 24 (AOp.callh 5 [(AX.t 23)])),(jA 7 (AOp.mv (AX.t 24)))]) (AC.seq (AC.seq (AC.region [(jA 25 (AOp.mv (AX.t 7))),(jA 26 (AOp.call 9 [(AX.t 25)])),(jA 27 (AOp.bin BinOp.neq 28 false (Operand.tmp 26) (Operand.const (Value.int IntKind.i64 0)) (AX.t 26) (jI 0))),(jA 28 (AOp.mv (AX.t 27))),(jC 29 (AOp.mv (AX.t 2)) 28 false),(jC 30 (AOp.bin BinOp.lss 3 false (Operand.tmp 29) (Operand.const (Value.int IntKind.i64 0)) (AX.t 29) (jI 0)) 28 false),(jA 31 (AOp.pick (AX.t 28) (jS true) (AX.t 30))),(jA 32 (AOp.mv (AX.t 31))),(jC 33 (AOp.mv (AX.t 2)) 32 false),(jC 34 (AOp.mv (AX.t 0)) 32 false),(jC 35 (AOp.len (AX.t 34)) 32 false),(jC 36 (AOp.bin BinOp.gtr 3 false (Operand.tmp 33) (Operand.tmp 35) (AX.t 33) (AX.t 35)) 32 false),(jA 37 (AOp.pick (AX.t 32) (jS true) (AX.t 36)))]) (AC.cond (AX.t 37) (AC.seq (AC.region [(jA 6 (AOp.mv (jS true)))]) AC.ret) AC.skip)) (AC.seq (AC.region [(jA 39 (AOp.mv (AX.t 0))),(jA 40 (AOp.mv (AX.t 2))),(jA 41 (AOp.call 10 [(AX.t 39),(AX.t 40)])),(jA 38 (AOp.mv (AX.t 41))),(jA 42 (AOp.ext (AX.t 38) 0)),(jA 43 (AOp.ext (AX.t 38) 1)),(jA 8 (AOp.mv (AX.t 42))),(jA 9 (AOp.mv (AX.t 43)))]) (AC.seq (AC.region [(jA 45 (AOp.mv (AX.t 7))),(jA 46 (AOp.mv (AX.t 2))),(jA 47 (AOp.call 10 [(AX.t 45),(AX.t 46)])),(jA 44 (AOp.mv (AX.t 47))),(jA 48 (AOp.ext (AX.t 44) 0)),(jA 49 (AOp.ext (AX.t 44) 1)),(jA 10 (AOp.mv (AX.t 48))),(jA 11 (AOp.mv (AX.t 49)))]) (AC.seq (AC.region [(jA 51 (AOp.mv (AX.t 0))),(jA 52 (AOp.mv (AX.t 2))),(jA 53 (AOp.call 11 [(AX.t 51),(AX.t 52)])),(jA 50 (AOp.mv (AX.t 53))),(jA 54 (AOp.ext (AX.t 50) 0)),(jA 55 (AOp.ext (AX.t 50) 1)),(jA 12 (AOp.mv (AX.t 54))),(jA 13 (AOp.mv (AX.t 55)))]) (AC.seq (AC.region [(jA 57 (AOp.mv (AX.t 7))),(jA 58 (AOp.mv (AX.t 2))),(jA 59 (AOp.call 11 [(AX.t 57),(AX.t 58)])),(jA 56 (AOp.mv (AX.t 59))),(jA 60 (AOp.ext (AX.t 56) 0)),(jA 61 (AOp.ext (AX.t 56) 1)),(jA 14 (AOp.mv (AX.t 60))),(jA 15 (AOp.mv (AX.t 61)))]) (AC.seq (AC.region [(jA 62 (AOp.mv (AX.t 9))),(jA 63 (AOp.bin BinOp.eql 28 false (Operand.tmp 62) (Operand.const (Value.int IntKind.i64 0)) (AX.t 62) (jI 0))),(jA 64 (AOp.mv (AX.t 63))),(jC 65 (AOp.mv (AX.t 11)) 64 true),(jC 66 (AOp.bin BinOp.eql 28 false (Operand.tmp 65) (Operand.const (Value.int IntKind.i64 0)) (AX.t 65) (jI 0)) 64 true),(jA 67 (AOp.pick (AX.t 64) (AX.t 66) (jS false))),(jA 68 (AOp.mv (AX.t 67))),(jC 69 (AOp.mv (AX.t 8)) 68 true),(jC 70 (AOp.mv (AX.t 10)) 68 true),(jC 71 (AOp.call 12 [(AX.t 69),(AX.t 70)]) 68 true),(jA 72 (AOp.pick (AX.t 68) (AX.t 71) (jS false))),(jA 73 (AOp.mv (AX.t 72))),(jC 74 (AOp.mv (AX.t 12)) 73 true),(jC 75 (AOp.mv (AX.t 14)) 73 true),(jC 76 (AOp.bin BinOp.eql 3 false (Operand.tmp 74) (Operand.tmp 75) (AX.t 74) (AX.t 75)) 73 true),(jA 77 (AOp.pick (AX.t 73) (AX.t 76) (jS false))),(jA 78 (AOp.mv (AX.t 77))),(jC 79 (AOp.mv (AX.t 0)) 78 true),(jC 80 (AOp.mv (AX.t 2)) 78 true),(jC 81 (AOp.mv (AX.t 7)) 78 true),(jC 82 (AOp.mv (AX.t 2)) 78 true),(jC 83 (AOp.call 6 [(AX.t 79),(AX.t 80),(AX.t 81),(AX.t 82)]) 78 true),(jA 84 (AOp.pick (AX.t 78) (AX.t 83) (jS false))),(jA 6 (AOp.mv (AX.t 84)))]) AC.ret)))))))))))
theorem eop4:zO Tryd.prog [5,16,26,30,34,40,41,43,44,45,48,55,71,72,81,87,88,91,92] 4=some E4:=by kernel_rfl
theorem sizes_app {h m:List Nd} (hh:∀ x ∈ h,i64 x.sz) (hm:∀ x ∈ m,i64 x.sz):∀ x ∈ h++m,i64 x.sz:=fun x hx=>by
 rcases List.mem_append.1 hx with q|q
 ·exact hh x q
 ·exact hm x q
section
variable (G:Nat->AV) (hI:ItC G)
include hI
set_option maxHeartbeats 8000000 in
theorem law4 (h0 : List Nd) (hl0 : h0.length <= 9223372036854775807) (hx0 : ∀ x ∈ h0, x.Wd) (hz0 : ∀ x ∈ h0, i64 x.sz) (m0 : List Nd) (ml0 : (m0.length + 12) * 120 <= 140737488355328) (mx0 : ∀ x ∈ m0, x.Wd) (mz0 : ∀ x ∈ m0, i64 x.sz) (r : Int) :
  PC Tryd.prog G 4 [.sl 9 (h0.map nA),.sl 9 (m0.map nA),I r] (Bo true):=by
 have hxF:=fewL_ok (n:=12) (w:=1) hx0
 have hzF:=fewL_sz (n:=12) (w:=1) hz0
 have hlF:=wq (n:=12) (w:=1) (l:=h0)
 have hxW:∀ x ∈ Zf 12 1 h0,x.Wd:=fun x hx=>(hxF x hx).wd
 have hxA:∀ x ∈ Zf 12 1 h0++m0,x.Wd:=fun x hx=>by
  rcases List.mem_append.1 hx with q|q
  ·exact hxW x q
  ·exact mx0 x q
 have hzA:=sizes_app hzF mz0
 have hlA:(Zf 12 1 h0++m0).length<=9223372036854775807:=by rw [List.length_append];omega
 have c1:=few5o G h0 hl0 hx0
 have c2:=few5w G (Zf 12 1 h0) (by omega) hxW 0
 have c3:=few5w G (Zf 12 1 h0++m0) hlA hxA 1
 obtain ⟨t,ht⟩:=fewL_pre (n:=12) (w:=1) (l:=h0) (m:=m0) hx0
 have hC:=C_few (h:=Zf 12 1 h0++m0) (r:=r) hxA
 have hC0:=C_few (h:=h0) (r:=r) hx0
 have hg:=hpq_few hxA hzA
 have hh:=hpq_few hx0 hz0
 rw [fewL_eq hx0] at c2
 generalize hA:Zf 12 1 h0++m0=A at *
 generalize hgd:Zf 12 1 A=g at *
 generalize Zf 12 1 h0=h at *
 have c8:=works8 G
 have c9:=may36 G g hg.l hg.x _ rfl
 have n1:=wb h
 have n2:=wb A
 have n3:=wb g
 have p1:=p_n h
 have p3:=p_n g
 have a1:=wV (l:=h)
 have a3:=wV (l:=g)
 have ua:(h.map nA).take h.length++m0.map nA=A.map nA:=by rw [wV,<- hA,List.map_append]
 have la:h.length+m0.length=A.length:=by rw [<- hA,List.length_append]
 have lm:(m0.map nA).length=m0.length:=by simp
 have la2:h.length+(m0.map nA).length=A.length:=by rw [lm,la]
 cases hm:aH g g.length
 ·rw [hm] at c9
  simp only [eo] at c9
  clear hC hC0 hm
  refine zo eop4 ?_
  repeat' ((conv=>whnf);first|(refine SeqP.go ?_)|((refine ObN.mk ?_ ?_);(exact zq12))|(with_reducible first|refine ObT.tt ?_|refine ObT.ff ?_)|((refine ObB.no ?_ ?_);exact zC)|((with_reducible refine (?_:ObL _ _));(refine ObL.mk _ zq19 ?_))|((with_reducible refine (?_:ObU _ _));(refine ObU.mk _ zq2 ?_))|((refine ObC.f 8 ?_);(refine ObC.mk _ (c8) ?_))|((refine ObH.f 5 ?_);(first|(with_reducible refine ObH.mk _ _ (c1) ?_)|(refine ObH.mk _ _ (c1) ?_)))|((refine ObH.f 5 ?_);(first|(with_reducible refine ObH.mk _ _ (c2) ?_)|(refine ObH.mk _ _ (c2) ?_)))|((refine ObH.f 5 ?_);refine ObH.frn _ yi [(1,1,1)] (c3) (by simp) rfl (by simp) ?_)|((refine ObC.f 9 ?_);(refine ObC.mk _ (c9) ?_))|((refine ObEq.mk ?_);exact zE)|((with_reducible refine ObRow.same ?_ ?_ ?_);exact zE;(focus (first|rfl|assumption|(simp;done))))|((with_reducible refine ObAs.mk ?_ ?_);(focus (first|rfl|(simp [rnB,rnC,rnL];done))))|((with_reducible refine (?_:ObRs _ _ _));(refine ObRs.mk _ rfl ?_))|((with_reducible refine ObBk.same ?_ ?_);(focus (first|rfl|assumption|(simp;done)))))
 ·rw [hm] at c9
  simp only [eo] at c9
  by_cases hr:r < 0
  ·clear hC hC0 hm
   refine zo eop4 ?_
   repeat' ((conv=>whnf);first|(refine SeqP.go ?_)|((refine ObN.mk ?_ ?_);(exact zq12))|(with_reducible first|refine ObT.tt ?_|refine ObT.ff ?_)|((refine ObB.yes ?_ ?_);exact zB)|((with_reducible refine (?_:ObL _ _));(refine ObL.mk _ zq19 ?_))|((with_reducible refine (?_:ObU _ _));(refine ObU.mk _ zq2 ?_))|((refine ObC.f 8 ?_);(refine ObC.mk _ (c8) ?_))|((refine ObH.f 5 ?_);(first|(with_reducible refine ObH.mk _ _ (c1) ?_)|(refine ObH.mk _ _ (c1) ?_)))|((refine ObH.f 5 ?_);(first|(with_reducible refine ObH.mk _ _ (c2) ?_)|(refine ObH.mk _ _ (c2) ?_)))|((refine ObH.f 5 ?_);refine ObH.frn _ yi [(1,1,1)] (c3) (by simp) rfl (by simp) ?_)|((refine ObC.f 9 ?_);(refine ObC.mk _ (c9) ?_))|((refine ObEq.mk ?_);exact zE)|((with_reducible refine ObRow.same ?_ ?_ ?_);exact zE;(focus (first|rfl|assumption|(simp;done))))|((with_reducible refine ObAs.mk ?_ ?_);(focus (first|rfl|(simp [rnB,rnC,rnL];done))))|((with_reducible refine (?_:ObRs _ _ _));(refine ObRs.mk _ rfl ?_))|((with_reducible refine ObBk.same ?_ ?_);(focus (first|rfl|assumption|(simp;done)))))
  by_cases hr2:(h.length:Int) < r
  ·clear hC hC0 hm
   refine zo eop4 ?_
   repeat' ((conv=>whnf);first|(refine SeqP.go ?_)|((refine ObN.mk ?_ ?_);(exact zq12))|(with_reducible first|refine ObT.tt ?_|refine ObT.ff ?_)|((refine ObB.yes ?_ ?_);exact zB)|((refine ObB.no ?_ ?_);exact zC)|((with_reducible refine (?_:ObL _ _));(refine ObL.mk _ zq19 ?_))|((with_reducible refine (?_:ObU _ _));(refine ObU.mk _ zq2 ?_))|((refine ObC.f 8 ?_);(refine ObC.mk _ (c8) ?_))|((refine ObH.f 5 ?_);(first|(with_reducible refine ObH.mk _ _ (c1) ?_)|(refine ObH.mk _ _ (c1) ?_)))|((refine ObH.f 5 ?_);(first|(with_reducible refine ObH.mk _ _ (c2) ?_)|(refine ObH.mk _ _ (c2) ?_)))|((refine ObH.f 5 ?_);refine ObH.frn _ yi [(1,1,1)] (c3) (by simp) rfl (by simp) ?_)|((refine ObC.f 9 ?_);(refine ObC.mk _ (c9) ?_))|((refine ObEq.mk ?_);exact zE)|((with_reducible refine ObRow.same ?_ ?_ ?_);exact zE;(focus (first|rfl|assumption|(simp;done))))|((with_reducible refine ObAs.mk ?_ ?_);(focus (first|rfl|(simp [rnB,rnC,rnL];done))))|((with_reducible refine (?_:ObRs _ _ _));(refine ObRs.mk _ rfl ?_))|((with_reducible refine ObBk.same ?_ ?_);(focus (first|rfl|assumption|(simp;done)))))
  have hlg:h.length<=g.length:=by rw [ht];simp
  have hgt:h=g.take h.length:=by rw [ht];simp
  have hmh:aH h h.length=true:=by
   have:=aH_take hm hlg
   rwa [<- hgt] at this
  have okh:okR h r=true:=by simp only [okR,Bool.and_eq_true,decide_eq_true_eq];exact ⟨⟨by omega,by omega⟩,hmh⟩
  have okg:okR g r=true:=by simp only [okR,Bool.and_eq_true,decide_eq_true_eq];exact ⟨⟨by omega,by omega⟩,hm⟩
  have hCh:=hC0 hmh (by omega)
  have hCg:=hC hm (by omega)
  have b1:=binds6 G h hh.l hh.x r true okh.symm (fun _=>hCh)
  have b2:=binds6 G g hg.l hg.x r true okg.symm (fun _=>hCg)
  have eB:B h r=B g r:=by
   have:=B_take hm hlg (r:=r) (by omega)
   rwa [<- hgt] at this
  have k1:=count13 G h hh.l hh.x r true okh.symm
  have k2:=count13 G g hg.l hg.x r true okg.symm
  have eL:rL h r true=rL g r true:=by
   have:=rl_take hm hlg (r:=r) (by omega) r.toNat
   rw [<- hgt] at this
   simp only [rL,if_true]
   exact this
  have s1:=same6 G hI h g hh hg r r true (by
   unfold sameR
   rw [okh,okg]
   have:=shB_self (okL_of hm) hlg r.toNat r (by omega) (by omega) (by omega)
   rw [<- hgt] at this
   rw [this];rfl)
  have hBl:=B_len hh.x (r:=r)
  simp only [if_true,eo] at b1 b2 k1 k2
  rw [<- eB] at b2
  rw [<- eL] at k2
  have s2:=samep11 G (B h r) (by omega)
  generalize B h r=L at *
  generalize (rL h r true).length=q at *
  clear hC hC0 hm okh okg hmh hgt eB eL hCh hCg hBl
  refine zo eop4 ?_
  repeat' ((conv=>whnf);first|(refine SeqP.go ?_)|((refine ObN.mk ?_ ?_);(exact zq12))|(with_reducible first|refine ObT.tt ?_|refine ObT.ff ?_)|((refine ObB.yes ?_ ?_);exact zB)|((refine ObB.no ?_ ?_);exact zC)|((with_reducible refine (?_:ObL _ _));(refine ObL.mk _ zq19 ?_))|((with_reducible refine (?_:ObU _ _));(refine ObU.mk _ zq2 ?_))|((refine ObC.f 8 ?_);(refine ObC.mk _ (c8) ?_))|((refine ObH.f 5 ?_);(first|(with_reducible refine ObH.mk _ _ (c1) ?_)|(refine ObH.mk _ _ (c1) ?_)))|((refine ObH.f 5 ?_);(first|(with_reducible refine ObH.mk _ _ (c2) ?_)|(refine ObH.mk _ _ (c2) ?_)))|((refine ObH.f 5 ?_);refine ObH.frn _ yi [(1,1,1)] (c3) (by simp) rfl (by simp) ?_)|((refine ObC.f 9 ?_);(refine ObC.mk _ (c9) ?_))|((refine ObC.f 10 ?_);(refine ObC.mk _ (b1) ?_))|((refine ObC.f 10 ?_);(refine ObC.mk _ (b2) ?_))|((refine ObC.f 11 ?_);(refine ObC.mk _ (k1) ?_))|((refine ObC.f 11 ?_);(refine ObC.mk _ (k2) ?_))|((refine ObC.f 12 ?_);(refine ObC.mk _ (s2) ?_))|((refine ObC.f 6 ?_);(refine ObC.mk _ (s1) ?_))|((refine ObEq.mk ?_);exact zE)|((with_reducible refine ObRow.same ?_ ?_ ?_);exact zE;(focus (first|rfl|assumption|(simp;done))))|((with_reducible refine ObAs.mk ?_ ?_);(focus (first|rfl|(simp [rnB,rnC,rnL];done))))|((with_reducible refine (?_:ObRs _ _ _));(refine ObRs.mk _ rfl ?_))|((with_reducible refine ObBk.same ?_ ?_);(focus (first|rfl|assumption|(simp;done)))))
end
theorem size_arg {H : Type} {enc : TypeId × Value -> H} {W : World} {spare : Nat -> Bool} {held : Bool} {v : Value} {d : DataW H} {p : List MemPlace} {F : Fz} {L : List AV} (h : DataW.Trod enc Tryd.prog W 0 spare held 22 v d p) (pv : PV F v (.sl 9 L))
  (hw:∀ elems sp,d = .slice elems sp->(elems.length+sp.length) * 120<=reachBytes):(L.length+12) * 120<=140737488355328:=by
 have hv:∃ A cap,v = .slice A L.length cap:=by
  cases pv with
  | sl A n cap k es hn hc hm hk h1 b o hA f hf h=>exact ⟨A,cap,by rw [hn]⟩
 obtain ⟨A,cap,rfl⟩:=hv
 obtain ⟨m,hm⟩:=h
 rcases DataW.trod_slice (e:=40) (by kernel_rfl) hm with ⟨hc,_⟩|⟨a,len,cap',elems,rest,n,_,hc,hx,_,_,_,hlen,_⟩
 ·have hc' : Value.slice A L.length cap = .slice none 0 0 := (List.cons.inj (show [Value.slice A L.length cap] = _ from hc)).1
  injection hc' with q1 q2 q3
  rw [q2];decide
 ·have hc' : Value.slice A L.length cap = .slice (some a) len cap' := (List.cons.inj (show [Value.slice A L.length cap] = _ from hc)).1
  injection hc' with q1 q2 q3
  have:=hw _ _ (Prod.mk.inj hx).1
  simp only [List.length_map] at this
  have hr:reachBytes=140737488351232:=by decide
  rw [q2,<- hlen]
  omega
theorem HeapMore_calls (as0 as1 as2:List AV) (s0:ShC Tryd.prog 22 as0) (s1:ShC Tryd.prog 22 as1) (s2:ShC Tryd.prog 3 as2) (hz:∀ L,mkE (isAggT Tryd.prog 22) as1 = .sl 9 L->(L.length+12) * 120<=140737488355328):PC Tryd.prog wI 4 [mkE (isAggT Tryd.prog 22) as0,mkE (isAggT Tryd.prog 22) as1,mkE (isAggT Tryd.prog 3) as2] (Bo true):=by
 obtain ⟨h,h0,h6,h7⟩:=heap_inv s0
 obtain ⟨g,g0,g6,g7⟩:=heap_inv s1
 obtain ⟨n,h1,h2⟩:=int_inv s2
 have e1:isAggT Tryd.prog 22=false:=by kernel_rfl
 have e2:isAggT Tryd.prog 3=false:=by kernel_rfl
 rw [e1] at hz
 have hz':=hz _ g0
 rw [List.length_map] at hz'
 rw [e1,e2,h0,h1,g0]
 exact law4 wI itC h h6 (fun x hx=>(h7 x hx).1) (fun x hx=>(h7 x hx).2) g hz' (fun x hx=>(g7 x hx).1) (fun x hx=>(g7 x hx).2) n
open Go.RowKit Go.ChangeShapes Go.WideShapes Go.ChangeAt
theorem laid_pow:(Rows.laid_internal_strconv_uint64pow10:DataW Unit) = .agg (pow10s.map fun z=>.lit (.int .u64 z)):=by
 rfl
theorem tabAll {W:World} (h:laidMetH Tryd.prog [("math/bits.deBruijn32tab",Rows.laid_math_bits_deBruijn32tab),("math/bits.deBruijn64tab",Rows.laid_math_bits_deBruijn64tab),("internal/strconv.uint64pow10",Rows.laid_internal_strconv_uint64pow10)] W):TabP W:=by
 rw [MakeChecks.laidMetH_plain _ _ _ (by kernel_rfl)] at h
 obtain ⟨ps,⟨_,_,_,_,p0,q0,_,_,_,_,⟨_,_,_,_,p1,q1,_,_,_,_,⟨g,t,cs,fuel,p,q,hg,ht,hv,hd,_,_⟩,_⟩,_⟩,_,_⟩:=h
 obtain rfl:=Option.some.inj ((show Tryd.prog.globalNamed "internal/strconv.uint64pow10" = some 0 by kernel_rfl).symm.trans hg)
 obtain rfl:=Option.some.inj ((show (Tryd.prog.globals[0]?).map (·.type)=some 117 by kernel_rfl).symm.trans ht)
 obtain ⟨xs,m,_,ex,_,hl,hel⟩:=DataW.trod_array Tryd.underlying117 hd
 have c5:Tryd.prog.cellsOf 107=1:=by kernel_rfl
 intro i hi
 have hE:=hel i hi
 rw [c5] at hE
 have e3:(xs.map (·.1))[i]? = some (.lit (.int .u64 ((10 ^ i:Nat):Int))):=by
  rw [<- DataW.agg.inj ((Prod.mk.inj ex).1.symm.trans laid_pow).symm,List.getElem?_map,Xj hi]
  rfl
 rw [List.getElem?_map] at e3
 cases hx:xs[i]? with
 | none=>rw [hx] at e3;cases e3
 | some x =>
  rw [hx] at e3 hE
  obtain ⟨b',e1,e2⟩:=DataW.trod_int Tryd.underlying107 hE
  rw [World.var?_cell hg hv i]
  obtain ⟨e2,_⟩:=e2
  subst e2
  have eb:b'=((10 ^ i:Nat):Int):=by
   have:=Option.some.inj e3
   exact (Lit.int.inj (DataW.lit.inj this)).2
  rw [<- eb]
  have h0:(List.take 1 (List.drop (i * 1) cs.toList))[0]? = some (.int .u64 b'):=by rw [e1];rfl
  simpa [List.getElem?_take,List.getElem?_drop] using h0
end Go.Proofs.YtfocijljkkfonaaDoor.Sim
