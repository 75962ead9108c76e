/- Texts of this claim, part 6. -/
import Derived.Test.YtfocijljkkfonaaDoorMHeapSame5
import Derived.Test.YtfocijljkkfonaaDoorProg
set_option linter.unusedVariables false
set_option linter.unusedSimpArgs false
namespace Go.Proofs.YtfocijljkkfonaaDoor.Sim
open Go.RowKit
set_option maxRecDepth 100000
def yh (ke va:ByteArray) (mp:Int) (kk:List Int) (mn:Int) (ls:List Pr) (b c m l:Bool):Prop :=
 (b=true->ke=ByteArray.mk #[]/\va=ByteArray.mk #[])/\(c=true->mp=0/\¬ (0:Int) < (kk.length:Nat))/\(m=true->mn=0)/\(l=true->((ls.length:Nat):Int)=0)
theorem wC (G:Nat->AV) (kn:Int) (ke va:ByteArray) (mp:Int) (kk:List Int) (mn:Int) (ls:List Pr) (sz bi:Int) (b c m l r:Bool) (hr:r=true↔yh ke va mp kk mn ls b c m l) (h1:kk.length<=40) (h2:ls.length<=40):PC Tryd.prog G 67 [nV kn ke va mp kk mn ls sz bi,Bo b,Bo c,Bo m,Bo l] (Bo r):=by
 unfold yh at hr
 refine zf cop67 ?_
 cases b<;>cases c<;>cases m<;>cases l
 all_goals repeat' ((conv=>whnf);first|(refine SeqP.go ?_)|((refine ObD.mk ?_ ?_);exact zD)|((refine ObN.mk ?_ ?_);exact zN)|(with_reducible first|refine ObT.tt ?_|refine ObT.ff ?_|refine ObB.mk (fun h=>?_) (fun h=>?_))|((with_reducible refine (?_:ObL _ _));(refine ObL.mk _ zM ?_))|((with_reducible refine (?_:ObR _ _ _));(first|(refine ObR.mk _ zA ?_)|(refine ObR.map zX (fun x hx=>?_))|(refine ObR.mk _ rfl ?_)))|((refine ObEq.mk ?_);(focus (first|rfl|assumption|exact (by cases r<;>simp_all)))))
def Yb (kn:Int) (ke va:ByteArray) (mp:Nat) (kk:List Int) (mn:Int) (ls:List Pr) (sz bi:Int):Prop :=
 ¬ bi < 0/\(((kn=1\/kn=6)/\sz=1/\yh ke va mp kk mn ls false true true true)\/(kn=2/\¬ (0:Int) ∈ kk/\((kk.length:Nat):Int)=((upI mp 32).length:Nat)/\0<=sz/\yh ke va mp kk mn ls true false true true) \/
  (kn=3/\(2:Int)<=(ls.length:Nat)/\Pr7.SLt ls/\sz=(ls.length:Nat)/\yh ke va mp kk mn ls true true true false)\/(kn=4/\(mp:Int)=0/\((kk.length:Nat):Int)=2/\1<=sz/\yh ke va mp kk mn ls false false true true) \/
  (kn=5/\¬ mn=0/\sz=0/\yh ke va mp kk mn ls true true false true))
theorem tf (p:Prop):∃ q:Bool,(q=true↔p):=⟨@decide p (Classical.propDecidable p),by simp⟩
set_option maxHeartbeats 4000000 in
theorem form33 (G : Nat -> AV) (kn : Int) (ke va : ByteArray) (mp : Nat) (kk : List Int) (mn : Int) (ls : List Pr) (sz bi : Int) (k1 : 1 <= kn) (k6 : kn <= 6) (hm : mp < 4294967296) (hk : kk.length <= 40) (hl : ls.length <= 40) (hs : ∀ p ∈ ls, p.1.size <= 40 /\ p.2.size <= 40) (r : Bool) (hr : r = true ↔ Yb kn ke va mp kk mn ls sz bi) :
  PC Tryd.prog G 58 [nV kn ke va (mp:Int) kk mn ls sz bi] (Bo r):=by
 have hok:Pr7.Okl ls:=⟨by omega,fun p hp=>by have:=hs p hp;omega⟩
 obtain ⟨q1,hq1⟩:=tf (yh ke va mp kk mn ls false true true true)
 obtain ⟨q2,hq2⟩:=tf (yh ke va mp kk mn ls true false true true)
 obtain ⟨q3,hq3⟩:=tf (yh ke va mp kk mn ls true true true false)
 obtain ⟨q4,hq4⟩:=tf (yh ke va mp kk mn ls false false true true)
 obtain ⟨q5,hq5⟩:=tf (yh ke va mp kk mn ls true true false true)
 obtain ⟨q6,hq6⟩:=tf (Pr7.SLt ls)
 have b1:=wC G kn ke va mp kk mn ls sz bi _ _ _ _ q1 hq1 hk hl
 have b2:=wC G kn ke va mp kk mn ls sz bi _ _ _ _ q2 hq2 hk hl
 have b3:=wC G kn ke va mp kk mn ls sz bi _ _ _ _ q3 hq3 hk hl
 have b4:=wC G kn ke va mp kk mn ls sz bi _ _ _ _ q4 hq4 hk hl
 have b5:=wC G kn ke va mp kk mn ls sz bi _ _ _ _ q5 hq5 hk hl
 have b6:PC Tryd.prog G 69 [.sl 2 (ls.map pA)] (Bo q6):=Pr7.is12 G ls hok q6 hq6
 have b7:=all46 G mp hm
 have hu:=Wo mp 32
 by_cases hb:bi < 0
 ·obtain rfl : r = false := by
   cases r with
   | false=>rfl
   | true=>exact absurd hb (hr.1 rfl).1
  refine zf wz ?_
  repeat' ((conv=>whnf);first|(refine SeqP.go ?_)|((refine ObD.mk ?_ ?_);exact zD)|((refine ObN.mk ?_ ?_);exact zN)|(refine ObT.tt ?_)|((refine ObB.yes ?_ ?_);exact zB)|((with_reducible refine (?_:ObR _ _ _));(first|(refine ObR.mk _ zA ?_)|(refine ObR.map zX (fun x hx=>?_))|(refine ObR.mk _ rfl ?_)))|((refine ObEq.mk ?_);exact zE))
 simp only [Yb,<- hq1,<- hq2,<- hq3,<- hq4,<- hq5,<- hq6] at hr
 clear hq1 hq2 hq3 hq4 hq5 hq6
 have hkn:(kn=1\/kn=6)\/kn=2\/kn=3\/kn=4\/kn=5:=by omega
 rcases hkn with hkn|rfl|rfl|rfl|rfl
 ·have hr' : r = true ↔ sz = 1 /\ q1 = true := by rw [hr]; rcases hkn with rfl | rfl <;> simp [hb]
  clear hr
  refine zf wz ?_
  rcases hkn with rfl|rfl
  all_goals repeat' ((conv=>whnf);first|(refine SeqP.go ?_)|((refine ObD.mk ?_ ?_);exact zD)|((refine ObN.mk ?_ ?_);exact zN)|(with_reducible first|refine ObT.tt ?_|refine ObT.ff ?_)|((refine ObB.yes ?_ ?_);exact zB)|((refine ObB.no ?_ ?_);exact zC)|(with_reducible refine ObB.mk (fun h=>?_) (fun h=>?_))|((with_reducible refine (?_:ObR _ _ _));(first|(refine ObR.mk _ zA ?_)|(refine ObR.map zX (fun x hx=>?_))|(refine ObR.mk _ rfl ?_)))|((refine ObC.f 67 ?_);(refine ObC.mk _ (b1) ?_))|((refine ObEq.mk ?_);(focus (first|rfl|assumption|exact (by cases r<;>cases q1<;>first|(simp_all;done)|(simp_all;omega))))))
 ·have hr' : r = true ↔ ¬ (0 : Int) ∈ kk /\ ((kk.length : Nat) : Int) = ((upI mp 32).length : Nat) /\ 0 <= sz /\ q2 = true := by rw [hr]; simp [hb]
  clear hr
  rcases wq (n:=kk.length) (fun k=>decide (kk[k]? = some 0)) with h|⟨i0,h1,h2,h3⟩
  ·have hz : ¬ (0 : Int) ∈ kk := fun hm0 => by
    obtain ⟨k,hk',e⟩:=List.getElem_of_mem hm0
    have:=h k hk'
    simp [List.getElem?_eq_getElem hk',e] at this
   refine zf wz ?_
   repeat' ((conv=>whnf);first|(refine SeqP.go ?_)|((refine ObD.mk ?_ ?_);exact zD)|((refine ObN.mk ?_ ?_);exact zN)|(with_reducible first|refine ObT.tt ?_|refine ObT.ff ?_)|((refine ObB.yes ?_ ?_);exact zB)|((refine ObB.no ?_ ?_);exact zC)|((with_reducible refine (?_:ObR _ _ _));(first|(refine ObR.mk _ zA ?_)|(refine ObR.map zX (fun x hx=>?_))|(refine ObR.mk _ rfl ?_))))
   conv=>whnf
   refine LoopP.go (α:=Nat) (fun i=>i<=kk.length) (fun i=>kk.length - i) (fun i=>[(2,some (Bo false)),(0,some (I i)),(17,none),(0,none),(0,none),(0,none),(0,none),(0,none),(0,none),(0,none),(0,none),(0,none),(0,none),(0,none),(0,none)]) (fun i=>[⟨40,9,[nV 2 ke va mp kk mn ls sz bi],0,0⟩]) 0 (Nat.zero_le _) (Fg.go ?_ rfl) ?_
   ·repeat' ((conv=>whnf);first|((refine ObEqs.mk ?_ ?_);rfl)|((with_reducible refine ObEq1.i ?_ ?_);exact zF)|((with_reducible refine ObEq1.mk ?_ ?_);exact zE)|exact True.intro)
   intro i hi
   have hlt:i < kk.length\/i=kk.length:=by omega
   rcases hlt with hlt|rfl
   ·have hq : (kk.map iA)[i]? = some (I kk[i]) := yd hlt
    have hf:¬ kk[i]=0:=fun e=>by have:=h i hlt;simp [List.getElem?_eq_getElem hlt,e] at this
    repeat' ((conv=>whnf);first|(refine SeqP.go ?_)|((refine ObN.mk ?_ ?_);exact zN)|(with_reducible first|refine ObT.tt ?_|refine ObT.ff ?_)|((refine ObB.yes ?_ ?_);exact zB)|((refine ObB.no ?_ ?_);exact zC)|((with_reducible refine ObI.nl ?_ ?_);omega)|((refine ObX.mk _ rfl ?_ ?_);exact zX)|((with_reducible refine (?_:ObL _ _));(refine ObL.mk _ zL ?_))|((with_reducible refine (?_:ObR _ _ _));(first|(refine ObR.mk _ zA ?_)|(refine ObR.map zX (fun x hx=>?_))|(refine ObR.mk _ rfl ?_))))
    conv=>whnf
    refine Again.mk (i+1) ?_ ?_ (Fg.go ?_ rfl)
    ·omega
    ·omega
    repeat' ((conv=>whnf);first|((refine ObEqs.mk ?_ ?_);rfl)|((with_reducible refine ObEq1.i ?_ ?_);exact zF)|((with_reducible refine ObEq1.mk ?_ ?_);exact zE)|exact True.intro)
   ·repeat' ((conv=>whnf);first|(refine SeqP.go ?_)|((refine ObD.mk ?_ ?_);exact zD)|((refine ObN.mk ?_ ?_);exact zN)|(with_reducible first|refine ObT.tt ?_|refine ObT.ff ?_)|((refine ObB.no ?_ ?_);exact zC)|(with_reducible refine ObB.mk (fun h=>?_) (fun h=>?_))|((with_reducible refine (?_:ObL _ _));(refine ObL.mk _ zL ?_))|((with_reducible refine (?_:ObR _ _ _));(first|(refine ObR.mk _ zA ?_)|(refine ObR.map zX (fun x hx=>?_))|(refine ObR.mk _ rfl ?_)))|((refine ObC.f 68 ?_);(refine ObC.mk _ (b7) ?_))|((refine ObC.f 67 ?_);(refine ObC.mk _ (b2) ?_))|((refine ObEq.mk ?_);(focus (first|rfl|assumption|exact (by cases r<;>cases q2<;>first|(simp_all;done)|(simp_all;omega))))))
  ·have hz : (0 : Int) ∈ kk := List.mem_of_getElem? (of_decide_eq_true h2)
   obtain rfl:r=false:=by
    cases r with
    | false=>rfl
    | true=>exact absurd hz (hr'.1 rfl).1
   refine zf wz ?_
   repeat' ((conv=>whnf);first|(refine SeqP.go ?_)|((refine ObD.mk ?_ ?_);exact zD)|((refine ObN.mk ?_ ?_);exact zN)|(with_reducible first|refine ObT.tt ?_|refine ObT.ff ?_)|((refine ObB.yes ?_ ?_);exact zB)|((refine ObB.no ?_ ?_);exact zC)|((with_reducible refine (?_:ObR _ _ _));(first|(refine ObR.mk _ zA ?_)|(refine ObR.map zX (fun x hx=>?_))|(refine ObR.mk _ rfl ?_))))
   conv=>whnf
   refine LoopP.go (α:=Nat) (fun i=>i<=i0) (fun i=>kk.length - i) (fun i=>[(2,some (Bo false)),(0,some (I i)),(17,none),(0,none),(0,none),(0,none),(0,none),(0,none),(0,none),(0,none),(0,none),(0,none),(0,none),(0,none),(0,none)]) (fun i=>[⟨40,9,[nV 2 ke va mp kk mn ls sz bi],0,0⟩]) 0 (Nat.zero_le _) (Fg.go ?_ rfl) ?_
   ·repeat' ((conv=>whnf);first|((refine ObEqs.mk ?_ ?_);rfl)|((with_reducible refine ObEq1.i ?_ ?_);exact zF)|((with_reducible refine ObEq1.mk ?_ ?_);exact zE)|exact True.intro)
   intro i hi
   have hlt:i < kk.length:=by omega
   have hq:(kk.map iA)[i]? = some (I kk[i]):=yd hlt
   by_cases he:i=i0
   ·subst he
    have hf:kk[i]=0:=by have:=of_decide_eq_true h2;rw [List.getElem?_eq_getElem hlt] at this;exact (Option.some.inj this)
    repeat' ((conv=>whnf);first|(refine SeqP.go ?_)|((refine ObN.mk ?_ ?_);exact zN)|(refine ObT.tt ?_)|((refine ObB.yes ?_ ?_);exact zB)|((refine ObX.mk _ rfl ?_ ?_);exact zX)|((with_reducible refine (?_:ObL _ _));(refine ObL.mk _ zL ?_))|((with_reducible refine (?_:ObR _ _ _));(first|(refine ObR.mk _ zA ?_)|(refine ObR.map zX (fun x hx=>?_))|(refine ObR.mk _ rfl ?_)))|((refine ObEq.mk ?_);exact zE))
   ·have hf:¬ kk[i]=0:=fun e=>by have:=h3 i (by omega);simp [List.getElem?_eq_getElem hlt,e] at this
    repeat' ((conv=>whnf);first|(refine SeqP.go ?_)|((refine ObN.mk ?_ ?_);exact zN)|(with_reducible first|refine ObT.tt ?_|refine ObT.ff ?_)|((refine ObB.yes ?_ ?_);exact zB)|((refine ObB.no ?_ ?_);exact zC)|((with_reducible refine ObI.nl ?_ ?_);omega)|((refine ObX.mk _ rfl ?_ ?_);exact zX)|((with_reducible refine (?_:ObL _ _));(refine ObL.mk _ zL ?_))|((with_reducible refine (?_:ObR _ _ _));(first|(refine ObR.mk _ zA ?_)|(refine ObR.map zX (fun x hx=>?_))|(refine ObR.mk _ rfl ?_))))
    conv=>whnf
    refine Again.mk (i+1) ?_ ?_ (Fg.go ?_ rfl)
    ·omega
    ·omega
    repeat' ((conv=>whnf);first|((refine ObEqs.mk ?_ ?_);rfl)|((with_reducible refine ObEq1.i ?_ ?_);exact zF)|((with_reducible refine ObEq1.mk ?_ ?_);exact zE)|exact True.intro)
 ·have hr' : r = true ↔ (2 : Int) <= (ls.length : Nat) /\ q6 = true /\ sz = (ls.length : Nat) /\ q3 = true := by rw [hr]; simp [hb]
  clear hr
  refine zf wz ?_
  cases q6
  all_goals repeat' ((conv=>whnf);first|(refine SeqP.go ?_)|((refine ObD.mk ?_ ?_);exact zD)|((refine ObN.mk ?_ ?_);exact zN)|(with_reducible first|refine ObT.tt ?_|refine ObT.ff ?_)|((refine ObB.yes ?_ ?_);exact zB)|((refine ObB.no ?_ ?_);exact zC)|(with_reducible refine ObB.mk (fun h=>?_) (fun h=>?_))|((with_reducible refine (?_:ObL _ _));(refine ObL.mk _ zL ?_))|((with_reducible refine (?_:ObR _ _ _));(first|(refine ObR.mk _ zA ?_)|(refine ObR.map zX (fun x hx=>?_))|(refine ObR.mk _ rfl ?_)))|((refine ObC.f 67 ?_);(refine ObC.mk _ (b3) ?_))|((refine ObC.f 69 ?_);(refine ObC.mk _ (b6) ?_))|((refine ObEq.mk ?_);(focus (first|rfl|assumption|exact (by cases r<;>cases q3<;>first|(simp_all;done)|(simp_all;omega))))))
 ·have hr' : r = true ↔ (mp : Int) = 0 /\ ((kk.length : Nat) : Int) = 2 /\ 1 <= sz /\ q4 = true := by rw [hr]; simp [hb]
  clear hr
  refine zf wz ?_
  repeat' ((conv=>whnf);first|(refine SeqP.go ?_)|((refine ObD.mk ?_ ?_);exact zD)|((refine ObN.mk ?_ ?_);exact zN)|(with_reducible first|refine ObT.tt ?_|refine ObT.ff ?_)|((refine ObB.yes ?_ ?_);exact zB)|((refine ObB.no ?_ ?_);exact zC)|(with_reducible refine ObB.mk (fun h=>?_) (fun h=>?_))|((with_reducible refine (?_:ObL _ _));(refine ObL.mk _ zL ?_))|((with_reducible refine (?_:ObR _ _ _));(first|(refine ObR.mk _ zA ?_)|(refine ObR.map zX (fun x hx=>?_))|(refine ObR.mk _ rfl ?_)))|((refine ObC.f 67 ?_);(refine ObC.mk _ (b4) ?_))|((refine ObEq.mk ?_);(focus (first|rfl|assumption|exact (by cases r<;>cases q4<;>first|(simp_all;done)|(simp_all;omega))))))
 ·have hr' : r = true ↔ ¬ mn = 0 /\ sz = 0 /\ q5 = true := by rw [hr]; simp [hb]
  clear hr
  refine zf wz ?_
  repeat' ((conv=>whnf);first|(refine SeqP.go ?_)|((refine ObD.mk ?_ ?_);exact zD)|((refine ObN.mk ?_ ?_);exact zN)|(with_reducible first|refine ObT.tt ?_|refine ObT.ff ?_)|((refine ObB.no ?_ ?_);exact zC)|(with_reducible refine ObB.mk (fun h=>?_) (fun h=>?_))|((with_reducible refine (?_:ObR _ _ _));(first|(refine ObR.mk _ zA ?_)|(refine ObR.map zX (fun x hx=>?_))|(refine ObR.mk _ rfl ?_)))|((refine ObC.f 67 ?_);(refine ObC.mk _ (b5) ?_))|((refine ObEq.mk ?_);(focus (first|rfl|assumption|exact (by cases r<;>cases q5<;>first|(simp_all;done)|(simp_all;omega))))))
end Go.Proofs.YtfocijljkkfonaaDoor.Sim
namespace Go.Proofs.YtfocijljkkfonaaDoor.Sim.Pr7
open Go.RowKit
set_option maxRecDepth 100000
theorem Zs {C:List Pr} {p:Nat} {x:Pr}:(C.map pA).set p (.agg [S x.1,S x.2])=(C.set p x).map pA:=by
 rw [List.map_set];rfl
def px (D:List Pr) (f:Nat->Nat):List Pr:=(List.range D.length).map fun x=>D.getD (f x) default
theorem Xh {D:List Pr} {f:Nat->Nat}:(px D f).length=D.length:=by simp [px]
theorem xj {D:List Pr} {f:Nat->Nat} {x:Nat}:(px D f)[x]? = if x < D.length then some (D.getD (f x) default) else none:=by
 unfold px
 rw [List.getElem?_map]
 by_cases h:x < D.length
 ·rw [List.getElem?_range h,if_pos h];rfl
 ·rw [if_neg h,List.getElem?_eq_none (by simpa using h)];rfl
theorem px_get {D:List Pr} {f:Nat->Nat} {x:Nat} (h:x < (px D f).length):(px D f)[x]=D.getD (f x) default:=by
 have h2:x < D.length:=by rwa [Xh] at h
 have:=xj (D:=D) (f:=f) (x:=x)
 rw [if_pos h2,List.getElem?_eq_getElem h] at this
 exact Option.some.inj this
theorem YO {D:List Pr} {f g:Nat->Nat} (h:∀ x,x < D.length->f x=g x):px D f=px D g:=by
 apply List.ext_getElem?
 intro x
 rw [xj,xj]
 by_cases hx:x < D.length
 ·rw [if_pos hx,if_pos hx,h x hx]
 ·rw [if_neg hx,if_neg hx]
theorem px_id {D:List Pr}:px D (fun x=>x)=D:=by
 apply List.ext_getElem?
 intro x
 rw [xj]
 by_cases hx:x < D.length
 ·rw [if_pos hx,List.getD_eq_getElem?_getD,List.getElem?_eq_getElem hx];rfl
 ·rw [if_neg hx,List.getElem?_eq_none (by omega)]
theorem px_px {D:List Pr} {f g:Nat->Nat} (h:∀ x,x < D.length->g x < D.length):px (px D f) g=px D (fun x=>f (g x)):=by
 apply List.ext_getElem?
 intro x
 rw [xj,xj,Xh]
 by_cases hx:x < D.length
 ·rw [if_pos hx,if_pos hx,List.getD_eq_getElem?_getD,xj,if_pos (h x hx)];rfl
 ·rw [if_neg hx,if_neg hx]
theorem px_set {D : List Pr} {f : Nat -> Nat} {p q : Nat} (hp : p < (px D f).length) (hq : q < (px D f).length) :
  ((px D f).set p (px D f)[q]).set q (px D f)[p]=px D (fun x=>if x=q then f p else if x=p then f q else f x):=by
 apply List.ext_getElem?
 intro x
 rw [List.getElem?_set,List.getElem?_set,xj,xj,px_get hp,px_get hq]
 simp only [List.length_set,Xh] at *
 by_cases h1:q=x
 ·subst h1;simp [hq]
 ·by_cases h2 : p = x
  ·subst h2;simp [hp,h1,Ne.symm h1]
  ·simp [h1,h2,Ne.symm h1,Ne.symm h2]
def swf (a b n x:Nat):Nat:=if a<=x/\x < a+n then b+(x - a) else if b<=x/\x < b+n then a+(x - b) else x
abbrev rw0 (D:List Pr) (g:Nat):OB:=⟨62,2,D.map pA,g,0⟩
theorem X4 {D E:List Pr} {g:Nat} (h:D=E):[rw0 D g]=[rw0 E g]:=by rw [h]
set_option maxHeartbeats 4000000 in
theorem swp46 (G : Nat -> AV) (D : List Pr) (g a b n : Nat) (hN : D.length <= 1000000) (h1 : a + n <= b) (h2 : b + n <= D.length) (cf : AV) :
  HC Tryd.prog G 92 [.ol 0 g D.length,I a,I b,I n,cf] [rw0 D g] (.tup []) [rw0 (px D (swf a b n)) g]:=by
 refine Yw cop92 ?_
 show W _ _ _ _ ⟨_,_⟩;simp only [A92,YB,YC,YI,YL,YM,YN,YS,List.cons_append,List.nil_append,List.length_cons,List.length_nil,Nat.reduceAdd,Nat.reduceSub,List.replicate]
 repeat (first|(with_reducible first|refine Zn ?_|refine Zj ?_|refine Zl ?_|refine zG ?_|refine zH ?_)|((with_reducible first|refine ks fun K hK=>?_|refine kd fun K hK=>?_|refine kc fun K hK2 hK hK3=>?_);simp (disch:=omega) only [bg0,bg1,bg2,bg3,bg4,zw,z6,eff,AX.ev,St.put,zY,zW,ap1,zk,simprocAttr,zx,AV.cells,AV.fine,AV.one,Zr,zt,live,zr,rdA,zi,wrA,zR,zu,Zp,z8,Zm,zo,zb,zq,zp,zg,cut,id,ap2,zy,Zq,geB,AOp.cls,AOp.xs,ltB,ltC,Option.toList,List.cons_append,decide_eq_true,decide_eq_false,if_pos,if_neg,List.length_map,Zo,bVb,bVn,eq_self,Bool.and_self,BEq.rfl,not_true_eq_false,Zs,List.length_set];(with_reducible first|(refine hK _ ?_;clear hK K)|(refine hK ?_;clear hK hK3 K hK2)|(refine hK3 ?_;clear hK hK3 K hK2))))
 refine Yz [10,11,12,13,14,15,16,17,18,19,20,21,22,23,24,25,26,27,28,29,30,31,32,33,34,35,36,37] (fun k v H=>v 10=I k/\H=[rw0 (px D (swf a b k)) g]) n ⟨rfl,?_⟩ ?_ ?_
 ·refine X4 ?_
  have e:px D (swf a b 0)=px D (fun x=>x):=YO fun x _=>by
   simp only [swf]
   repeat' split
   all_goals omega
  rw [e,px_id]
 ·rintro k v H hk ⟨h10, rfl⟩
  have hl:(px D (swf a b k)).length=D.length:=Xh
  have hp:a+k < (px D (swf a b k)).length:=by omega
  have hq:b+k < (px D (swf a b k)).length:=by omega
  have hs:=px_set hp hq
  generalize px D (swf a b k)=C at hl hp hq hs
  have q1:=Zo (l:=C.set (a+k) C[b+k]) (k:=b+k) (by simp;omega)
  have e1:((a:Int)+(k:Int)).toNat=a+k:=by omega
  have e2:((b:Int)+(k:Int)).toNat=b+k:=by omega
  simp only [mix,Zv,Zw,Zy,simprocAttr,if_true,if_false,h10]
  repeat (first|(with_reducible first|refine Zn ?_|refine Zj ?_)|(with_reducible refine xI ?_ ?_ ?_ ?_;rotate_left 1)|(with_reducible first|exact isSt|refine Zl ?_|refine ZB ?_|refine zG ?_|refine ZV ?_|refine zH ?_|refine Zk ?_)|((with_reducible first|refine ks fun K hK=>?_|refine kd fun K hK=>?_|refine kc fun K hK2 hK hK3=>?_);simp (disch:=omega) only [bg0,bg1,bg2,bg3,bg4,zw,z6,eff,AX.ev,St.put,zY,zW,ap1,zk,simprocAttr,zx,AV.cells,AV.fine,AV.one,Zr,zt,live,zr,rdA,zi,wrA,zR,zu,Zp,z8,Zm,zo,zb,zq,zp,zg,cut,id,ap2,zy,Zq,geB,AOp.cls,AOp.xs,ltB,ltC,Option.toList,List.cons_append,decide_eq_true,decide_eq_false,if_pos,if_neg,List.length_map,Zo,bVb,bVn,eq_self,Bool.and_self,BEq.rfl,not_true_eq_false,Zs,List.length_set,e1,e2,q1];(with_reducible first|(refine hK _ ?_;clear hK K)|(refine hK ?_;clear hK hK3 K hK2)|(refine hK3 ?_;clear hK hK3 K hK2))))
  refine ⟨rfl,rfl,X4 (hs.trans (YO fun x hx=>?_))⟩
  simp only [swf]
  repeat' split
  all_goals omega
 ·rintro v H ⟨h10, rfl⟩
  simp only [mix,Zv,Zw,Zy,simprocAttr,if_true,if_false,h10]
  repeat (first|(with_reducible first|refine Zn ?_|refine Zj ?_|refine ZY ?_|refine zG ?_|refine zH ?_|refine ZC ?_|refine Zu ?_)|((with_reducible first|refine ks fun K hK=>?_|refine kd fun K hK=>?_|refine kc fun K hK2 hK hK3=>?_);simp (disch:=omega) only [bg0,bg1,bg2,bg3,bg4,zw,z6,eff,AX.ev,St.put,zY,zW,ap1,zk,simprocAttr,zx,AV.cells,AV.fine,AV.one,Zr,zt,live,zr,rdA,zi,wrA,zR,zu,Zp,z8,Zm,zo,zb,zq,zp,zg,cut,id,ap2,zy,Zq,geB,AOp.cls,AOp.xs,ltB,ltC,Option.toList,List.cons_append,decide_eq_true,decide_eq_false,if_pos,if_neg,List.length_map,Zo,bVb,bVn,eq_self,Bool.and_self,BEq.rfl,not_true_eq_false,Zs,List.length_set];(with_reducible first|(refine hK _ ?_;clear hK K)|(refine hK ?_;clear hK hK3 K hK2)|(refine hK3 ?_;clear hK hK3 K hK2)))|((with_reducible refine xK ?_);try rfl))
def rtf (a m b x:Nat):Nat:=if a<=x/\x < a+(b - m) then m+(x - a) else if a+(b - m)<=x/\x < b then x - (b - m) else x
theorem rtf_lt {a m b x N:Nat} (h1:a<=m) (h2:m<=b) (h3:b<=N) (hx:x < N):rtf a m b x < N:=by
 unfold rtf;repeat' split
 all_goals omega
theorem rt_gt {C:List Pr} {m i j:Nat} (hij:j < i) (hj:0 < j) (hi:i<=m) (hb:m+j<=C.length):px (px C (swf (m - i) m j)) (rtf (m - (i - j)) m (m+j))=px C (rtf (m - i) m (m+j)):=by
 rw [px_px fun x hx=>rtf_lt (by omega) (by omega) hb hx]
 refine YO fun x hx=>?_
 simp only [swf,rtf]
 repeat' split
 all_goals omega
theorem rt_lt {C:List Pr} {m i j:Nat} (hij:i < j) (hi0:0 < i) (hi:i<=m) (hb:m+j<=C.length):px (px C (swf (m - i) (m+j - i) i)) (rtf (m - i) m (m+(j - i)))=px C (rtf (m - i) m (m+j)):=by
 rw [px_px fun x hx=>rtf_lt (by omega) (by omega) (by omega) hx]
 refine YO fun x hx=>?_
 simp only [swf,rtf]
 repeat' split
 all_goals omega
theorem rt_eq {C:List Pr} {m i:Nat} (hi:i<=m) (hb:m+i<=C.length):px C (swf (m - i) m i)=px C (rtf (m - i) m (m+i)):=by
 refine YO fun x hx=>?_
 simp only [swf,rtf]
 repeat' split
 all_goals omega
set_option maxHeartbeats 4000000 in
theorem rot45 (G : Nat -> AV) (D : List Pr) (g a m b : Nat) (hN : D.length <= 1000000) (h1 : a < m) (h2 : m < b) (h3 : b <= D.length) (cf : AV) :
  HC Tryd.prog G 91 [.ol 0 g D.length,I a,I m,I b,cf] [rw0 D g] (.tup []) [rw0 (px D (rtf a m b)) g]:=by
 refine Yw cop91 ?_
 show W _ _ _ _ ⟨_,_⟩;simp only [A91,YB,YM,List.cons_append,List.nil_append,List.length_cons,List.length_nil,Nat.reduceAdd,Nat.reduceSub,List.replicate]
 repeat (first|(with_reducible first|refine Zn ?_|refine Zj ?_|refine Zl ?_|refine zG ?_|refine zH ?_)|((with_reducible first|refine ks fun K hK=>?_|refine kd fun K hK=>?_|refine kc fun K hK2 hK hK3=>?_);simp (disch:=omega) only [bg0,bg1,bg2,bg3,bg4,zw,z6,eff,AX.ev,St.put,zY,zW,ap1,zk,simprocAttr,zx,AV.cells,AV.fine,AV.one,Zr,zt,live,zr,rdA,zi,wrA,zR,zu,Zp,z8,Zm,zo,zb,zq,zp,zg,cut,id,ap2,zy,Zq,geB,AOp.cls,AOp.xs,ltB,ltC,Option.toList,List.cons_append,decide_eq_true,decide_eq_false,if_pos,if_neg,List.length_map,Zo,bVb,bVn,eq_self,Bool.and_self,BEq.rfl,not_true_eq_false,Zs,List.length_set];(with_reducible first|(refine hK _ ?_;clear hK K)|(refine hK ?_;clear hK hK3 K hK2)|(refine hK3 ?_;clear hK hK3 K hK2))))
 refine xH [10,11,18,19,20,21,22,23,24,25,26,27,28,29,30,31,32,33,34,35,36,37,38,39,40,41,42,43,44,45,46,47,48,49] (fun u v H=>∃ (i j:Nat) (C:List Pr),u=i+j/\v 10=I i/\v 11=I j/\H=[rw0 C g]/\C.length=D.length/\0 < i/\0 < j/\i<=m - a/\j<=b - m/\px C (rtf (m - i) m (m+j))=px D (rtf a m b)) (b - a) ⟨m - a,b - m,D,by omega,by simp [at_];omega,by simp [at_];omega,rfl,rfl,by omega,by omega,by omega,by omega,by rw [show m - (m - a)=a by omega,show m+(b - m)=b by omega]⟩ ?_
 rintro u v H ⟨i,j,C,rfl,h10,h11,rfl,hl,hi,hj,hi2,hj2,hpx⟩
 simp only [mix,Zv,Zw,Zy,simprocAttr,if_true,if_false,h10,h11]
 have e1:(m:Int) - (i:Int)=((m - i:Nat):Int):=by omega
 by_cases hij:i=j
 ·subst hij
  rw [<- hpx,<- rt_eq (by omega) (by omega),<- hl]
  repeat (first|(with_reducible first|refine Zn ?_|refine Zj ?_|refine ZY ?_|refine zG ?_|refine zH ?_|refine ZC ?_|refine Zu ?_)|((with_reducible first|refine ks fun K hK=>?_|refine kd fun K hK=>?_|refine kc fun K hK2 hK hK3=>?_);simp (disch:=omega) only [bg0,bg1,bg2,bg3,bg4,zw,z6,eff,AX.ev,St.put,zY,zW,ap1,zk,simprocAttr,zx,AV.cells,AV.fine,AV.one,Zr,zt,live,zr,rdA,zi,wrA,zR,zu,Zp,z8,Zm,zo,zb,zq,zp,zg,cut,id,ap2,zy,Zq,geB,AOp.cls,AOp.xs,ltB,ltC,Option.toList,List.cons_append,decide_eq_true,decide_eq_false,if_pos,if_neg,List.length_map,Zo,bVb,bVn,eq_self,Bool.and_self,BEq.rfl,not_true_eq_false,Zs,List.length_set,e1];(with_reducible first|(refine hK _ ?_;clear hK K)|(refine hK ?_;clear hK hK3 K hK2)|(refine hK3 ?_;clear hK hK3 K hK2)))|((with_reducible refine khs 92 ?_ ?_ ?_ ?_);rotate_left 2;exact (swp46 G C g (m - i) m i (by omega) (by omega) (by omega) cf))|((with_reducible refine xK ?_);try rfl))
 ·by_cases hgt : j < i
  ·have hn : ¬ ((i : Int) = (j : Int)) := by omega
   have hg:(j:Int) < (i:Int):=by omega
   have e2:(i:Int) - (j:Int)=((i - j:Nat):Int):=by omega
   rw [<- hl]
   repeat (first|(with_reducible first|refine Zn ?_|refine Zj ?_|refine Zl ?_|refine ZB ?_|refine zG ?_|refine zH ?_|refine Zk ?_)|((with_reducible first|refine ks fun K hK=>?_|refine kd fun K hK=>?_|refine kc fun K hK2 hK hK3=>?_);simp (disch:=omega) only [bg0,bg1,bg2,bg3,bg4,zw,z6,eff,AX.ev,St.put,zY,zW,ap1,zk,simprocAttr,zx,AV.cells,AV.fine,AV.one,Zr,zt,live,zr,rdA,zi,wrA,zR,zu,Zp,z8,Zm,zo,zb,zq,zp,zg,cut,id,ap2,zy,Zq,geB,AOp.cls,AOp.xs,ltB,ltC,Option.toList,List.cons_append,decide_eq_true,decide_eq_false,if_pos,if_neg,List.length_map,Zo,bVb,bVn,eq_self,Bool.and_self,BEq.rfl,not_true_eq_false,Zs,List.length_set,e1,e2,hn,hg];(with_reducible first|(refine hK _ ?_;clear hK K)|(refine hK ?_;clear hK hK3 K hK2)|(refine hK3 ?_;clear hK hK3 K hK2)))|((with_reducible refine khs 92 ?_ ?_ ?_ ?_);rotate_left 2;exact (swp46 G C g (m - i) m j (by omega) (by omega) (by omega) cf)))
   exact ⟨rfl,i,by omega,i - j,j,_,by omega,rfl,rfl,rfl,by rw [Xh,hl],by omega,hj,by omega,hj2,by rw [rt_gt hgt hj (by omega) (by omega)];exact hpx⟩
  ·have hn : ¬ ((i : Int) = (j : Int)) := by omega
   have hg:¬ (j:Int) < (i:Int):=by omega
   have e2:(j:Int) - (i:Int)=((j - i:Nat):Int):=by omega
   have e3:(m:Int)+(j:Int) - (i:Int)=((m+j - i:Nat):Int):=by omega
   rw [<- hl]
   repeat (first|(with_reducible first|refine Zn ?_|refine Zj ?_|refine Zl ?_|refine ZB ?_|refine zG ?_|refine zH ?_|refine Zk ?_)|((with_reducible first|refine ks fun K hK=>?_|refine kd fun K hK=>?_|refine kc fun K hK2 hK hK3=>?_);simp (disch:=omega) only [bg0,bg1,bg2,bg3,bg4,zw,z6,eff,AX.ev,St.put,zY,zW,ap1,zk,simprocAttr,zx,AV.cells,AV.fine,AV.one,Zr,zt,live,zr,rdA,zi,wrA,zR,zu,Zp,z8,Zm,zo,zb,zq,zp,zg,cut,id,ap2,zy,Zq,geB,AOp.cls,AOp.xs,ltB,ltC,Option.toList,List.cons_append,decide_eq_true,decide_eq_false,if_pos,if_neg,List.length_map,Zo,bVb,bVn,eq_self,Bool.and_self,BEq.rfl,not_true_eq_false,Zs,List.length_set,e1,e2,e3,hn,hg];(with_reducible first|(refine hK _ ?_;clear hK K)|(refine hK ?_;clear hK hK3 K hK2)|(refine hK3 ?_;clear hK hK3 K hK2)))|((with_reducible refine khs 92 ?_ ?_ ?_ ?_);rotate_left 2;exact (swp46 G C g (m - i) (m+j - i) i (by omega) (by omega) (by omega) cf)))
   exact ⟨rfl,j,by omega,i,j - i,_,by omega,rfl,rfl,rfl,by rw [Xh,hl],hi,by omega,hi2,by omega,by rw [rt_lt (by omega) hi (by omega) (by omega)];exact hpx⟩
abbrev cF:AV:=.v (.func (.func 73) #[] #[])
set_option maxHeartbeats 4000000 in
theorem cmp29 (G:Nat->AV) (a b c d:ByteArray) (ha:a.size<=9223372036854775807) (hc:c.size<=9223372036854775807):PC Tryd.prog G 73 [.agg [S a,S b],.agg [S c,S d]] (I (cB a c)):=by
 refine xk cop73 ?_
 show W _ _ _ _ ⟨_,_⟩;simp only [A73,YF,YL,YM,YN,YR,List.cons_append,List.nil_append,List.length_cons,List.length_nil,Nat.reduceAdd,Nat.reduceSub,List.replicate]
 repeat (first|(with_reducible first|refine Zn ?_|refine Zj ?_|refine zG ?_|refine zH ?_|refine yD ?_)|((with_reducible refine kps 62 ?_ ?_ ?_ ?_);rotate_left 1;rfl;exact (by refine cmpP G _ _ ?_ ?_<;>assumption))|((with_reducible first|refine ks fun K hK=>?_|refine kd fun K hK=>?_|refine kc fun K hK2 hK hK3=>?_|refine XC fun K hR=>?_|refine YK rfl fun K hR=>?_|refine yL fun K hR=>?_);simp (disch:=omega) only [bg0,bg1,bg2,bg3,bg4,zw,z6,eff,AX.ev,St.put,zY,zW,ap1,zk,simprocAttr,zx,AV.cells,AV.fine,AV.one,Zr,zt,live,zr,rdA,zi,wrA,zR,zu,Zp,z8,Zm,zo,zb,zq,zp,zg,cut,id,ap2,zy,Zq,geB,AOp.cls,AOp.xs,ltB,ltC,Option.toList,List.cons_append,decide_eq_true,decide_eq_false,if_pos,if_neg,List.length_map,bVb,bVn,eq_self,Bool.and_self,BEq.rfl,not_true_eq_false,Zs,List.length_set];(first|(with_reducible first|(refine hK _ ?_;clear hK K)|(refine hK ?_;clear hK hK3 K hK2)|(refine hK3 ?_;clear hK hK3 K hK2))|((with_reducible refine hR _ ?_ ?_ ?_ ?_);rotate_left 2;rfl;rfl)|((with_reducible refine hR _ ?_);rfl))))
theorem wM (G:Nat->AV) (H:Hp) {p q:Pr} (ha:p.1.size<=9223372036854775807) (hc:q.1.size<=9223372036854775807):HC Tryd.prog G 73 [.agg [S p.1,S p.2],.agg [S q.1,S q.2]] H (I (cB p.1 q.1)) H:=hc_pc rfl (cmp29 G _ _ _ _ ha hc) H
theorem pAq {C:List Pr} {k:Nat} {p:Pr} (h:C[k]? = some p):(C.map pA)[k]? = some (.agg [S p.1,S p.2]):=by rw [List.getElem?_map,h];rfl
theorem ssort_mem {l:List Pr} {x:Pr}:x ∈ zm l↔x ∈ l:=by
 have h1:x ∈ zm l↔x ∈ fk x.1 (zm l):=⟨fun h=>mem_fk.2 ⟨h,rfl⟩,fun h=>(mem_fk.1 h).1⟩
 have h2:x ∈ l↔x ∈ fk x.1 l:=⟨fun h=>mem_fk.2 ⟨h,rfl⟩,fun h=>(mem_fk.1 h).1⟩
 rw [h1,h2,ZI]
theorem ins_len {p:Pr}:∀ {n:List Pr},(ins p n).length=n.length+1
 | []=>rfl
 | q::n=>by unfold ins;split<;>simp [ins_len (n:=n)]
theorem ZO:∀ {l:List Pr},(zm l).length=l.length
 | []=>rfl
 | p::l=>by rw [zm,ins_len,ZO (l:=l)];rfl
theorem ins_at {S S1 S2:List Pr} {x:Pr} {L:List Pr} (hS:S1++S2=zm L) (h1:∀ p ∈ S1,cB p.1 x.1<=0) (h2:∀ q ∈ S2,cB x.1 q.1 < 0):S1++x::S2=zm (L++[x]):=by
 have hle:SLe (S1++S2):=by rw [hS];exact ZA L
 obtain ⟨a1,a2,a3⟩:=List.pairwise_append.1 hle
 refine yq ?_ (ZA _) fun k=>?_
 ·refine List.pairwise_append.2 ⟨a1,List.pairwise_cons.2 ⟨fun q hq=>by have:=h2 q hq;omega,a2⟩,fun p hp q hq=>?_⟩
  rcases List.mem_cons.1 hq with rfl|hq
  ·exact h1 p hp
  ·exact a3 p hp q hq
 ·rw [ZI, ZT, ZT, ZE, ZE, fk_nil, <- ZI L, <- hS, ZT]
  by_cases hx:x.1=k
  ·have : fk k S2 = [] := fk_none.2 fun q hq e => by
    have:=h2 q hq
    rw [e,hx,Z1] at this
    omega
   simp [hx,this]
  ·simp [hx]
theorem xw {P S R:List Pr} {x:Pr} {k:Nat} (hk:k=P.length+S.length):(P++(S++x::R))[k]? = some x:=by
 subst hk
 rw [List.getElem?_append_right (by omega),List.getElem?_append_right (by omega)]
 simp
theorem at_pre {P S R:List Pr} {x y:Pr} {k:Nat} (hk:k=P.length+S.length):(P++(S++[y]++x::R))[k]? = some y:=by
 have:=xw (P:=P) (S:=S) (x:=y) (R:=x::R) hk
 simpa using this
theorem sw_mid {P S R:List Pr} {x y:Pr} {k:Nat} (hk:k=P.length+S.length):((P++(S++[y]++x::R)).set (k+1) y).set k x=P++(S++x::y::R):=by
 subst hk
 have e:P++(S++[y]++x::R)=(P++S)++y::x::R:=by simp
 have e2:P++(S++x::y::R)=(P++S)++x::y::R:=by simp
 rw [e,e2,show P.length+S.length=(P++S).length from (List.length_append).symm,List.set_append_right _ _ (by omega),List.set_append_right _ _ (by omega)]
 simp
def seg (D:List Pr) (a b:Nat):List Pr:=(D.take b).drop a
def srt (D:List Pr) (a b:Nat):List Pr:=D.take a++(zm (seg D a b)++D.drop b)
theorem Wq {D:List Pr} {a b:Nat} (h:b<=a+1) (hb:b<=D.length) (hab:a<=b):srt D a b=D:=by
 have e:zm (seg D a b)=seg D a b:=by
  have:(seg D a b).length<=1:=by simp [seg];omega
  match h:seg D a b,this with
  | [],_=>rfl
  | [p],_=>rfl
 unfold srt
 rw [e]
 unfold seg
 have h1:D.take b=D.take a++(D.take b).drop a:=by
  have:=List.take_append_drop a (D.take b)
  rw [List.take_take,Nat.min_eq_left hab] at this
  exact this.symm
 rw [<- List.append_assoc,<- h1,List.take_append_drop]
theorem seg_succ {D:List Pr} {a i:Nat} (ha:a<=i) (hi:i < D.length):seg D a (i+1)=seg D a i++[D[i]]:=by
 unfold seg
 rw [List.take_add_one,List.getElem?_eq_getElem hi,List.drop_append_of_le_length (by simp;omega)]
 rfl
theorem seg_len {D:List Pr} {a b:Nat} (hb:b<=D.length):(seg D a b).length=b - a:=by simp [seg];omega
theorem seg_mem {D:List Pr} {a b:Nat} {x:Pr} (h:x ∈ seg D a b):x ∈ D:=List.mem_of_mem_take (List.mem_of_mem_drop h)
theorem le_all {S:List Pr} {y:Pr} {x:ByteArray} {R:List Pr} (h:SLe (S++[y]++R)) (hy:cB y.1 x<=0):∀ p ∈ S++[y],cB p.1 x<=0:=by
 intro p hp
 have h1:=(List.pairwise_append.1 h).1
 rcases List.mem_append.1 hp with hp|hp
 ·have := (List.pairwise_append.1 h1).2.2 p hp y (by simp)
  exact wZ this hy
 ·simp at hp;subst hp;exact hy
theorem last_cases {l:List Pr}:l=[]\/∃ S y,l=S++[y]:=by
 rcases List.eq_nil_or_concat l with h|⟨S,y,h⟩
 ·exact .inl h
 ·exact .inr ⟨S,y,by rw [h,List.concat_eq_append]⟩
set_option maxHeartbeats 8000000 in
theorem ins43 (G : Nat -> AV) (D : List Pr) (g a b : Nat) (hN : Okl D) (h1 : a <= b) (h2 : b <= D.length) :
  HC Tryd.prog G 87 [.ol 0 g D.length,I a,I b,cF] [rw0 D g] (.tup []) [rw0 (srt D a b) g]:=by
 have hlen:=hN.len
 refine Yw cop87 ?_
 show W _ _ _ _ ⟨_,_⟩;simp only [A87,YB,YC,YCg,YI,YIg,YL,YLg,YM,YMg,YPc,YS,List.cons_append,List.nil_append,List.length_cons,List.length_nil,Nat.reduceAdd,Nat.reduceSub,List.replicate]
 repeat (first|(with_reducible first|refine Zn ?_|refine Zj ?_|refine Zl ?_|refine zG ?_|refine zH ?_)|((with_reducible first|refine ks fun K hK=>?_|refine kd fun K hK=>?_|refine kc fun K hK2 hK hK3=>?_);simp (disch:=omega) only [bg0,bg1,bg2,bg3,bg4,zw,z6,eff,AX.ev,St.put,zY,zW,ap1,zk,simprocAttr,zx,AV.cells,AV.fine,AV.one,Zr,zt,live,zr,rdA,zi,wrA,zR,zu,Zp,z8,Zm,zo,zb,zq,zp,zg,cut,id,ap2,zy,Zq,geB,AOp.cls,AOp.xs,ltB,ltC,Option.toList,List.cons_append,decide_eq_true,decide_eq_false,if_pos,if_neg,List.length_map,bVb,bVn,eq_self,Bool.and_self,BEq.rfl,not_true_eq_false,Zs,List.length_set];(with_reducible first|(refine hK _ ?_;clear hK K)|(refine hK ?_;clear hK hK3 K hK2)|(refine hK3 ?_;clear hK hK3 K hK2))))
 refine Yz [8,9,12,13,14,15,16,17,18,19,20,21,22,23,24,25,26,27,28,29,30,31,32,33,34,35,36,37,38,39,40,41,42,43,44,45,46,47,48,49,50,51,52] (fun k v H=>v 8=I ((a+1+k:Nat):Int)/\H=[rw0 (srt D a (min b (a+1+k))) g]) (b - (a+1)) ⟨rfl,?_⟩ ?_ ?_
 ·rw [Wq (by omega) (by omega) (by omega)]
 ·rintro k v H hk ⟨h8, rfl⟩
  have hi:a+1+k < D.length:=by omega
  rw [show min b (a+1+k)=a+1+k by omega]
  obtain ⟨i,hI⟩:∃ i,i=a+1+k:=⟨_,rfl⟩
  rw [show min b (a+1+(k+1))=i+1 by omega]
  rw [<- hI] at hi h8 ⊢
  have hd:srt D a i=D.take a++(zm (seg D a i)++D[i]::D.drop (i+1)):=by
   unfold srt;rw [List.drop_eq_getElem_cons hi]
  have hd2:srt D a (i+1)=D.take a++(zm (seg D a i++[D[i]])++D.drop (i+1)):=by
   unfold srt;rw [seg_succ (by omega) hi]
  have hsz:∀ p ∈ seg D a i,p.1.size<=9223372036854775807:=fun p hp=>(hN.sz p (seg_mem hp)).1
  have hx:=(hN.sz _ (List.getElem_mem hi)).1
  have hPl:(D.take a).length=a:=by simp;omega
  have hLl:(zm (seg D a i)).length=i - a:=by rw [ZO,seg_len (by omega)]
  have hN2:(srt D a i).length=D.length:=by rw [hd];simp [hLl];omega
  rw [hd,hd2]
  rw [hd] at hN2
  generalize D[i]=x at *
  generalize seg D a i=L at *
  generalize D.take a=P at *
  generalize D.drop (i+1)=R at *
  simp only [mix,Zv,Zw,Zy,simprocAttr,if_true,if_false,h8]
  repeat (first|(with_reducible first|refine Zn ?_|refine Zj ?_|refine Zl ?_|refine ZB ?_|refine zG ?_|refine zH ?_)|((with_reducible first|refine ks fun K hK=>?_|refine kd fun K hK=>?_|refine kc fun K hK2 hK hK3=>?_);simp (disch:=omega) only [bg0,bg1,bg2,bg3,bg4,zw,z6,eff,AX.ev,St.put,zY,zW,ap1,zk,simprocAttr,zx,AV.cells,AV.fine,AV.one,Zr,zt,live,zr,rdA,zi,wrA,zR,zu,Zp,z8,Zm,zo,zb,zq,zp,zg,cut,id,ap2,zy,Zq,geB,AOp.cls,AOp.xs,ltB,ltC,Option.toList,List.cons_append,decide_eq_true,decide_eq_false,if_pos,if_neg,List.length_map,bVb,bVn,eq_self,Bool.and_self,BEq.rfl,not_true_eq_false,Zs,List.length_set];(with_reducible first|(refine hK _ ?_;clear hK K)|(refine hK ?_;clear hK hK3 K hK2)|(refine hK3 ?_;clear hK hK3 K hK2))))
  refine xH [9,18,19,20,21,22,23,24,25,26,27,28,29,30,31,32,33,34,35,36,37,38,39,40,41,42,43,44,45,46,47,48,49,50,51,52] (fun u v H=>∃ S1 S2,S1++S2=zm L/\u=S1.length/\v 9=I ((a+S1.length:Nat):Int)/\H=[rw0 (P++(S1++x::(S2++R))) g]/\∀ q ∈ S2,cB x.1 q.1 < 0) (i - a) ⟨zm L,[],by simp,hLl.symm,by rw [hLl,show a+(i - a)=i by omega];rfl,rfl,by simp⟩ ?_
  rintro u v2 H ⟨S1,S2,hS,rfl,h9,rfl,hgt⟩
  have hCl:(P++(S1++x::(S2++R))).length=D.length:=by
   rw [<- hN2,<- hS];simp;omega
  have hle:SLe (S1++S2):=by rw [hS];exact ZA L
  rcases last_cases (l:=S1) with rfl|⟨S0,y,rfl⟩
  ·have hfin:=ins_at (S:=S2) hS (fun p hp=>by cases hp) hgt
   have hfin2:P++([]++x::(S2++R))=P++(zm (L++[x])++R):=by rw [<- hfin];simp
   rw [hfin2]
   have e0:a+([]:List Pr).length=a:=rfl
   rw [e0] at h9
   simp only [mix,Zv,Zw,Zy,simprocAttr,if_true,if_false,h9]
   repeat (first|(with_reducible first|refine Zn ?_|refine Zj ?_|refine Z5 ?_|refine ZY ?_|refine zG ?_|refine ZV ?_|refine zH ?_|refine ZC ?_|refine Zk ?_|refine Zu ?_)|((with_reducible first|refine ks fun K hK=>?_|refine kd fun K hK=>?_|refine kc fun K hK2 hK hK3=>?_);simp (disch:=omega) only [bg0,bg1,bg2,bg3,bg4,zw,z6,eff,AX.ev,St.put,zY,zW,ap1,zk,simprocAttr,zx,AV.cells,AV.fine,AV.one,Zr,zt,live,zr,rdA,zi,wrA,zR,zu,Zp,z8,Zm,zo,zb,zq,zp,zg,cut,id,ap2,zy,Zq,geB,AOp.cls,AOp.xs,ltB,ltC,Option.toList,List.cons_append,decide_eq_true,decide_eq_false,if_pos,if_neg,List.length_map,bVb,bVn,eq_self,Bool.and_self,BEq.rfl,not_true_eq_false,Zs,List.length_set];(with_reducible first|(refine hK _ ?_;clear hK K)|(refine hK ?_;clear hK hK3 K hK2)|(refine hK3 ?_;clear hK hK3 K hK2)))|((first|((with_reducible refine kgd_u ?_ ?_ ?_);rotate_left 1;rfl)|((with_reducible refine kgd_f ?_ ?_ ?_);rotate_left 1;rfl));rotate_left 1;(focus (simp (disch:=omega) only [bg0,bg1,bg2,bg3,bg4,zw,z6,eff,AX.ev,St.put,zY,zW,ap1,zk,simprocAttr,zx,AV.cells,AV.fine,AV.one,Zr,zt,live,zr,rdA,zi,wrA,zR,zu,Zp,z8,Zm,zo,zb,zq,zp,zg,cut,id,ap2,zy,Zq,geB,AOp.cls,AOp.xs,ltB,ltC,Option.toList,List.cons_append,decide_eq_true,decide_eq_false,if_pos,if_neg,List.length_map,bVb,bVn,eq_self,Bool.and_self,BEq.rfl,not_true_eq_false,Zs,List.length_set];try rfl))))
   exact ⟨rfl,by simp [at_];omega,rfl⟩
  ·have hj : a + (S0 ++ [y]).length = a + S0.length + 1 := by simp; omega
   rw [hj] at h9
   have q1:=pAq (xw (P:=P) (S:=S0++[y]) (x:=x) (R:=S2++R) (k:=a+S0.length+1) (by simp [hPl];omega))
   have q2:=pAq (at_pre (P:=P) (S:=S0) (x:=x) (y:=y) (R:=S2++R) (k:=a+S0.length) (by omega))
   have hsw:=sw_mid (P:=P) (S:=S0) (x:=x) (y:=y) (R:=S2++R) (k:=a+S0.length) (by omega)
   have hy:y.1.size<=9223372036854775807:=hsz y (by rw [<- ssort_mem,<- hS];simp)
   have hjl:a+S0.length+1 < D.length:=by rw [<- hCl];simp [hPl];omega
   have q3:(((P++(S0++[y]++x::(S2++R))).set (a+S0.length+1) y).map pA)[a+S0.length]? = some (.agg [S y.1,S y.2]):=pAq (by rw [List.getElem?_set_ne (by omega)];exact at_pre (by omega))
   have e1:((a:Int)+(S0.length:Int)+1).toNat=a+S0.length+1:=by omega
   have e2:((a:Int)+(S0.length:Int)).toNat=a+S0.length:=by omega
   have e3:(a:Int) < (a:Int)+(S0.length:Int)+1:=by omega
   by_cases hc:cB x.1 y.1 < 0
   ·generalize P ++ (S0 ++ [y] ++ x :: (S2 ++ R)) = C at *
    simp only [mix,Zv,Zw,Zy,simprocAttr,if_true,if_false,h9]
    repeat (first|(with_reducible first|refine Zn ?_|refine Zj ?_|refine Z5 ?_)|(with_reducible refine xI ?_ ?_ ?_ ?_;rotate_left 1)|(with_reducible first|exact isSt|refine Zl ?_|refine ZB ?_|refine zG ?_|refine ZV ?_|refine zH ?_|refine Zk ?_)|((with_reducible refine wU ?_ ?_);rfl)|((with_reducible first|refine ks fun K hK=>?_|refine kd fun K hK=>?_|refine kc fun K hK2 hK hK3=>?_);simp (disch:=omega) only [bg0,bg1,bg2,bg3,bg4,zw,z6,eff,AX.ev,St.put,zY,zW,ap1,zk,simprocAttr,zx,AV.cells,AV.fine,AV.one,Zr,zt,live,zr,rdA,zi,wrA,zR,zu,Zp,z8,Zm,zo,zb,zq,zp,zg,cut,id,ap2,zy,Zq,geB,AOp.cls,AOp.xs,ltB,ltC,Option.toList,List.cons_append,decide_eq_true,decide_eq_false,if_pos,if_neg,List.length_map,bVb,bVn,eq_self,Bool.and_self,BEq.rfl,not_true_eq_false,Zs,List.length_set,q1,q2,q3,e1,e2,e3,hc];(with_reducible first|(refine hK _ ?_;clear hK K)|(refine hK ?_;clear hK hK3 K hK2)|(refine hK3 ?_;clear hK hK3 K hK2)))|((first|((with_reducible refine kvd 73 ?_ ?_ ?_ ?_ ?_ ?_ ?_ ?_);rotate_left 3));(focus (simp (disch:=omega) only [bg0,bg1,bg2,bg3,bg4,zw,z6,eff,AX.ev,St.put,zY,zW,ap1,zk,simprocAttr,zx,AV.cells,AV.fine,AV.one,Zr,zt,live,zr,rdA,zi,wrA,zR,zu,Zp,z8,Zm,zo,zb,zq,zp,zg,cut,id,ap2,zy,Zq,geB,AOp.cls,AOp.xs,ltB,ltC,Option.toList,List.cons_append,decide_eq_true,decide_eq_false,if_pos,if_neg,List.length_map,bVb,bVn,eq_self,Bool.and_self,BEq.rfl,not_true_eq_false,Zs,List.length_set,q1,q2,q3,e1,e2,e3,hc];try rfl));(first|(rfl;exact hb73;exact (wM G _ hx hy)))))
    refine ⟨rfl,S0.length,by simp,S0,y::S2,by simpa using hS,rfl,rfl,X4 (by simpa using hsw),fun q hq=>?_⟩
    rcases List.mem_cons.1 hq with rfl|hq
    ·exact hc
    ·exact hgt q hq
   ·have hfin := ins_at (S := S2) hS (le_all hle (by rw [yA x.1 y.1]; omega)) hgt
    have hfin2:P++(S0++[y]++x::(S2++R))=P++(zm (L++[x])++R):=by rw [<- hfin];simp
    rw [hfin2] at q1 q2 q3 ⊢
    simp only [mix,Zv,Zw,Zy,simprocAttr,if_true,if_false,h9]
    repeat (first|(with_reducible first|refine Zn ?_|refine Zj ?_|refine Z5 ?_|refine ZY ?_|refine zG ?_|refine ZV ?_|refine zH ?_|refine ZC ?_|refine Zk ?_|refine Zu ?_)|((with_reducible refine wU ?_ ?_);rfl)|((with_reducible first|refine ks fun K hK=>?_|refine kd fun K hK=>?_|refine kc fun K hK2 hK hK3=>?_);simp (disch:=omega) only [bg0,bg1,bg2,bg3,bg4,zw,z6,eff,AX.ev,St.put,zY,zW,ap1,zk,simprocAttr,zx,AV.cells,AV.fine,AV.one,Zr,zt,live,zr,rdA,zi,wrA,zR,zu,Zp,z8,Zm,zo,zb,zq,zp,zg,cut,id,ap2,zy,Zq,geB,AOp.cls,AOp.xs,ltB,ltC,Option.toList,List.cons_append,decide_eq_true,decide_eq_false,if_pos,if_neg,List.length_map,bVb,bVn,eq_self,Bool.and_self,BEq.rfl,not_true_eq_false,Zs,List.length_set,q1,q2,q3,e1,e2,e3,hc];(with_reducible first|(refine hK _ ?_;clear hK K)|(refine hK ?_;clear hK hK3 K hK2)|(refine hK3 ?_;clear hK hK3 K hK2)))|((first|((with_reducible refine kvd 73 ?_ ?_ ?_ ?_ ?_ ?_ ?_ ?_);rotate_left 3));(focus (simp (disch:=omega) only [bg0,bg1,bg2,bg3,bg4,zw,z6,eff,AX.ev,St.put,zY,zW,ap1,zk,simprocAttr,zx,AV.cells,AV.fine,AV.one,Zr,zt,live,zr,rdA,zi,wrA,zR,zu,Zp,z8,Zm,zo,zb,zq,zp,zg,cut,id,ap2,zy,Zq,geB,AOp.cls,AOp.xs,ltB,ltC,Option.toList,List.cons_append,decide_eq_true,decide_eq_false,if_pos,if_neg,List.length_map,bVb,bVn,eq_self,Bool.and_self,BEq.rfl,not_true_eq_false,Zs,List.length_set,q1,q2,q3,e1,e2,e3,hc];try rfl));(first|(rfl;exact hb73;exact (wM G _ hx hy)))))
    exact ⟨rfl,by simp [at_];omega,rfl⟩
 ·rintro v H ⟨h8, rfl⟩
  simp only [mix,Zv,Zw,Zy,simprocAttr,if_true,if_false,h8]
  by_cases hab:a=b
  ·subst hab
   rw [show min a (a+1+(a - (a+1)))=a by omega]
   repeat (first|(with_reducible first|refine Zn ?_|refine Zj ?_|refine ZY ?_|refine zG ?_|refine zH ?_|refine ZC ?_|refine Zu ?_)|((with_reducible first|refine ks fun K hK=>?_|refine kd fun K hK=>?_|refine kc fun K hK2 hK hK3=>?_);simp (disch:=omega) only [bg0,bg1,bg2,bg3,bg4,zw,z6,eff,AX.ev,St.put,zY,zW,ap1,zk,simprocAttr,zx,AV.cells,AV.fine,AV.one,Zr,zt,live,zr,rdA,zi,wrA,zR,zu,Zp,z8,Zm,zo,zb,zq,zp,zg,cut,id,ap2,zy,Zq,geB,AOp.cls,AOp.xs,ltB,ltC,Option.toList,List.cons_append,decide_eq_true,decide_eq_false,if_pos,if_neg,List.length_map,bVb,bVn,eq_self,Bool.and_self,BEq.rfl,not_true_eq_false,Zs,List.length_set];(with_reducible first|(refine hK _ ?_;clear hK K)|(refine hK ?_;clear hK hK3 K hK2)|(refine hK3 ?_;clear hK hK3 K hK2)))|((with_reducible refine xK ?_);try rfl))
  ·rw [show min b (a + 1 + (b - (a + 1))) = b by omega]
   repeat (first|(with_reducible first|refine Zn ?_|refine Zj ?_|refine ZY ?_|refine zG ?_|refine zH ?_|refine ZC ?_|refine Zu ?_)|((with_reducible first|refine ks fun K hK=>?_|refine kd fun K hK=>?_|refine kc fun K hK2 hK hK3=>?_);simp (disch:=omega) only [bg0,bg1,bg2,bg3,bg4,zw,z6,eff,AX.ev,St.put,zY,zW,ap1,zk,simprocAttr,zx,AV.cells,AV.fine,AV.one,Zr,zt,live,zr,rdA,zi,wrA,zR,zu,Zp,z8,Zm,zo,zb,zq,zp,zg,cut,id,ap2,zy,Zq,geB,AOp.cls,AOp.xs,ltB,ltC,Option.toList,List.cons_append,decide_eq_true,decide_eq_false,if_pos,if_neg,List.length_map,bVb,bVn,eq_self,Bool.and_self,BEq.rfl,not_true_eq_false,Zs,List.length_set];(with_reducible first|(refine hK _ ?_;clear hK K)|(refine hK ?_;clear hK hK3 K hK2)|(refine hK3 ?_;clear hK hK3 K hK2)))|((with_reducible refine xK ?_);try rfl))
theorem u64w {n:Int} (h:0<=n) (h2:n<=9223372036854775807):IntKind.u64.wrap n=n:=by
 rw [IntKind.wrap]
 simp only [IntKind.signed,IntKind.bits]
 simp
 omega
theorem cVu {n:Int} (h:0<=n) (h2:n<=9223372036854775807):zh Tryd.prog (convert 3 103 (.int .i64 n))=some (.int .u64 n):=by
 rw [cV_int (e:=.int .i64) (k:=.u64) (by kernel_rfl) (by kernel_rfl),u64w h h2]
theorem cVi {n:Int} (h:0<=n) (h2:n<=9223372036854775807):zh Tryd.prog (convert 103 3 (.int .u64 n))=some (.int .i64 n):=by
 rw [cV_int (e:=.int .u64) (k:=.i64) (by kernel_rfl) (by kernel_rfl),XX (by omega) h2]
theorem YJ {P:Program} {t:TypeId} {xo yo:Operand} {i j:Nat}:ZX P .shr t xo yo (.int .u64 ((i:Int)+(j:Int))) (.int .u64 1)=some (.int .u64 (((i+j) / 2:Nat):Int)):=by
 show some (Value.int .u64 (((i:Int)+(j:Int)).fdiv (2 ^ 1)))=_
 have:((i:Int)+(j:Int)).fdiv (2 ^ 1)=(((i+j) / 2:Nat):Int):=by
  rw [Int.fdiv_eq_ediv_of_nonneg _ (by decide)]
  omega
 rw [this]
theorem ssort_app {X Y:List Pr} (h:∀ x ∈ X,∀ y ∈ Y,cB x.1 y.1<=0):zm (X++Y)=zm X++zm Y:=by
 refine yq (ZA _) (List.pairwise_append.2 ⟨ZA X,ZA Y,fun x hx y hy=>h x (ssort_mem.1 hx) y (ssort_mem.1 hy)⟩) fun k=>?_
 rw [ZI,ZT,ZT,ZI,ZI]
theorem X3 {X:List Pr} (h:SLe X):zm X=X:=yq (ZA X) h fun k=>ZI X
theorem ssort_swap {X A B Y:List Pr} (h:∀ x ∈ A,∀ y ∈ B,cB y.1 x.1 < 0):zm (X++A++B++Y)=zm (X++B++A++Y):=by
 refine yq (ZA _) (ZA _) fun k=>?_
 simp only [ZI,ZT]
 have:fk k A=[]\/fk k B=[]:=by
  by_cases hb:fk k B=[]
  ·exact .inr hb
  ·left
   refine fk_none.2 fun x hx e=>hb (fk_none.2 fun y hy e2=>?_)
   have:=h x hx y hy
   rw [e,e2,Z1] at this
   omega
 rcases this with h|h<;>simp [h]
theorem ssort_merge {A1 A2 B1 B2 : List Pr} (hA : SLe (A1 ++ A2)) (hB : SLe (B1 ++ B2)) (h1 : ∀ x ∈ A2, ∀ y ∈ B1, cB y.1 x.1 < 0) (h2 : ∀ x ∈ A1, ∀ y ∈ B2, cB x.1 y.1 <= 0) :
  zm (A1++A2++(B1++B2))=zm (A1++B1)++zm (A2++B2):=by
 have e1:=ssort_swap (X:=A1) (A:=A2) (B:=B1) (Y:=B2) h1
 rw [show A1++A2++(B1++B2)=A1++A2++B1++B2 by simp,e1,show A1++B1++A2++B2=(A1++B1)++(A2++B2) by simp]
 obtain ⟨_,_,a3⟩:=List.pairwise_append.1 hA
 obtain ⟨_,_,b3⟩:=List.pairwise_append.1 hB
 refine ssort_app fun x hx y hy=>?_
 rcases List.mem_append.1 hx with hx|hx<;>rcases List.mem_append.1 hy with hy|hy
 ·exact a3 x hx y hy
 ·exact h2 x hx y hy
 ·have:=h1 y hy x hx;omega
 ·exact b3 x hx y hy
theorem rot_list {P A B R:List Pr}:px (P++(A++(B++R))) (rtf P.length (P.length+A.length) (P.length+A.length+B.length))=P++(B++(A++R)):=by
 apply List.ext_getElem?
 intro x
 rw [xj]
 have hgd:∀ {L:List Pr} {i:Nat},i < L.length->some (L.getD i default)=L[i]?:=fun {L i} h=>by
  rw [List.getD_eq_getElem?_getD,List.getElem?_eq_getElem h];rfl
 by_cases hx:x < (P++(A++(B++R))).length
 ·rw [if_pos hx, hgd (rtf_lt (by omega) (by omega) (by simp; omega) hx)]
  simp only [List.length_append] at hx
  unfold rtf
  by_cases h1:x < P.length
  ·rw [if_neg (by omega),if_neg (by omega),List.getElem?_append_left h1,List.getElem?_append_left h1]
  ·rw [List.getElem?_append_right (l₁ := P) (l₂ := B ++ (A ++ R)) (by omega)]
   by_cases h2:x < P.length+B.length
   ·rw [if_pos (by omega), List.getElem?_append_right (by omega), List.getElem?_append_right (by omega), List.getElem?_append_left (by omega), List.getElem?_append_left (by omega)]
    congr 1;omega
   ·rw [if_neg (by omega), List.getElem?_append_right (l₁ := B) (by omega)]
    by_cases h3:x < P.length+B.length+A.length
    ·rw [if_pos (by omega), List.getElem?_append_right (by omega), List.getElem?_append_left (by omega), List.getElem?_append_left (by omega)]
     congr 1;omega
    ·rw [if_neg (by omega), List.getElem?_append_right (by omega), List.getElem?_append_right (by omega), List.getElem?_append_right (by omega), List.getElem?_append_right (by omega)]
     congr 1;omega
 ·rw [if_neg hx,List.getElem?_eq_none (by simp at hx ⊢;omega)]
theorem idx_lo {B:List Pr} (h:SLe B) (k:ByteArray) {i:Nat} (hi:i < B.length):cB (B[i]).1 k < 0↔i < (lo B k).length:=by
 have hs:=xO h k
 constructor
 ·intro hc
  rcases Nat.lt_or_ge i (lo B k).length with h|h
  ·exact h
  ·exfalso
   have hm:B[i] ∈ B.filter (fun p=>!decide (cB p.1 k < 0)):=by
    have e:B[i]? = (B.filter (fun p=>!decide (cB p.1 k < 0)))[i - (lo B k).length]?:=by
     conv=>lhs;rw [hs]
     exact List.getElem?_append_right h
    rw [List.getElem?_eq_getElem hi] at e
    exact List.mem_of_getElem? e.symm
   have:=(List.mem_filter.1 hm).2
   simp at this
   omega
 ·intro hl
  have e:B[i]? = (lo B k)[i]?:=by
   conv=>lhs;rw [hs]
   exact List.getElem?_append_left hl
  rw [List.getElem?_eq_getElem hi,List.getElem?_eq_getElem hl] at e
  have e2:=Option.some.inj e
  have:=(List.mem_filter.1 (List.getElem_mem hl)).2
  rw [<- e2] at this
  simpa using this
theorem idx_le {B:List Pr} (h:SLe B) (k:ByteArray) {i:Nat} (hib:i < B.length):cB (B[i]).1 k<=0↔i < (le B k).length:=by
 have hs:=xP h k
 constructor
 ·intro hc
  rcases Nat.lt_or_ge i (le B k).length with h|h
  ·exact h
  ·exfalso
   have hm:B[i] ∈ hi B k:=by
    have e:B[i]? = (hi B k)[i - (le B k).length]?:=by
     conv=>lhs;rw [hs]
     exact List.getElem?_append_right h
    rw [List.getElem?_eq_getElem hib] at e
    exact List.mem_of_getElem? e.symm
   have:=(List.mem_filter.1 hm).2
   simp only [decide_eq_true_eq] at this
   rw [yA (B[i]).1 k] at this
   omega
 ·intro hl
  have e:B[i]? = (le B k)[i]?:=by
   conv=>lhs;rw [hs]
   exact List.getElem?_append_left hl
  rw [List.getElem?_eq_getElem hib,List.getElem?_eq_getElem hl] at e
  have e2:=Option.some.inj e
  have:=(List.mem_filter.1 (List.getElem_mem hl)).2
  rw [<- e2] at this
  simpa using this
theorem lo_take {B:List Pr} (h:SLe B) (k:ByteArray):B.take (lo B k).length=lo B k:=by
 have:=List.take_left (l₁:=lo B k) (l₂:=B.filter (fun p=>!decide (cB p.1 k < 0)))
 rwa [<- xO h k] at this
theorem le_take {B:List Pr} (h:SLe B) (k:ByteArray):B.take (le B k).length=le B k:=by
 have:=List.take_left (l₁:=le B k) (l₂:=hi B k)
 rwa [<- xP h k] at this
theorem hi_drop {B:List Pr} (h:SLe B) (k:ByteArray):B.drop (le B k).length=hi B k:=by
 have:=List.drop_left (l₁:=le B k) (l₂:=hi B k)
 rwa [<- xP h k] at this
theorem lo_len {B:List Pr} {k:ByteArray}:(lo B k).length<=B.length:=List.length_filter_le ..
theorem le_len {B:List Pr} {k:ByteArray}:(le B k).length<=B.length:=List.length_filter_le ..
theorem one_left {B:List Pr} (h:SLe B) (x:Pr):B.take (lo B x.1).length++x::B.drop (lo B x.1).length=zm (x::B):=by
 have hd:B.drop (lo B x.1).length=B.filter (fun p=>!decide (cB p.1 x.1 < 0)):=by
  have:=List.drop_left (l₁:=lo B x.1) (l₂:=B.filter (fun p=>!decide (cB p.1 x.1 < 0)))
  rwa [<- xO h x.1] at this
 rw [lo_take h,hd]
 refine yq ?_ (ZA _) fun k=>?_
 ·refine List.pairwise_append.2 ⟨List.Pairwise.filter _ h,List.pairwise_cons.2 ⟨fun q hq=>?_,List.Pairwise.filter _ h⟩,fun p hp q hq=>?_⟩
  ·have := (List.mem_filter.1 hq).2
   simp at this
   rw [yA q.1 x.1];omega
  ·have h1 : cB p.1 x.1 < 0 := by have := (List.mem_filter.1 hp).2; simpa using this
   rcases List.mem_cons.1 hq with rfl|hq
   ·omega
   ·have := (List.mem_filter.1 hq).2
    simp at this
    exact wZ (b:=x.1) (by omega) (by rw [yA q.1 x.1];omega)
 ·rw [ZI, ZT, ZE, ZE]
  have e:fk k B=fk k (lo B x.1)++fk k (B.filter fun p=>!decide (cB p.1 x.1 < 0)):=by
   rw [<- ZT,<- xO h x.1]
  rw [e]
  by_cases hk:x.1=k
  ·subst hk
   have:fk x.1 (lo B x.1)=[]:=by rw [fk_lo,Z1];simp
   simp [this]
  ·simp [hk]
theorem one_right {A:List Pr} (h:SLe A) (x:Pr):A.take (le A x.1).length++x::A.drop (le A x.1).length=zm (A++[x]):=by
 have hd:A.drop (le A x.1).length=hi A x.1:=hi_drop h x.1
 rw [hd,le_take h]
 have:=ins_at (S:=zm A) (S1:=le A x.1) (S2:=hi A x.1) (x:=x) (L:=A) (by rw [X3 h,<- xP h x.1]) (fun p hp=>by have:=(List.mem_filter.1 hp).2;simpa using this) (fun q hq=>by have:=(List.mem_filter.1 hq).2;simpa using this)
 exact this
theorem sw_fwd {P S R:List Pr} {x y:Pr} {k:Nat} (hk:k=P.length+S.length):((P++(S++x::y::R)).set k y).set (k+1) x=P++(S++[y]++x::R):=by
 subst hk
 have e:P++(S++x::y::R)=(P++S)++x::y::R:=by simp
 have e2:P++(S++[y]++x::R)=(P++S)++y::x::R:=by simp
 rw [e,e2,show P.length+S.length=(P++S).length from (List.length_append).symm,List.set_append_right _ _ (by omega),List.set_append_right _ _ (by omega)]
 simp
theorem at_nx {P S R:List Pr} {x y:Pr} {k:Nat} (hk:k=P.length+S.length):(P++(S++x::y::R))[k+1]? = some y:=by
 have:=xw (P:=P) (S:=S++[x]) (x:=y) (R:=R) (k:=k+1) (by simp;omega)
 simpa using this
theorem gdA {P A R:List Pr} {k:Nat} (h1:P.length<=k) (h2:k < P.length+A.length):(P++(A++R))[k]? = some (A[k - P.length]'(by omega)):=by
 rw [List.getElem?_append_right h1,List.getElem?_append_left (by omega),List.getElem?_eq_getElem]
set_option maxHeartbeats 8000000 in
theorem symL (G : Nat -> AV) (g : Nat) (P B R : List Pr) (x : Pr) (N a m b : Nat) (hN : (P ++ ([x] ++ (B ++ R))).length = N) (hP : P.length = a) (hA : a + 1 = m) (hB : m + B.length = b) (sB : SLe B) (hok : Okl (P ++ ([x] ++ (B ++ R)))) :
  HC Tryd.prog G 88 [.ol 0 g N,I a,I m,I b,cF] [rw0 (P++([x]++(B++R))) g] (.tup []) [rw0 (P++(zm ([x]++B)++R)) g]:=by
 have hlen:=hok.len
 rw [hN] at hlen
 have hbN:b<=N:=by rw [<- hN];simp;omega
 have hx:x.1.size<=9223372036854775807:=(hok.sz x (by simp)).1
 have hsB:∀ p ∈ B,p.1.size<=9223372036854775807:=fun p hp=>(hok.sz p (by simp [hp])).1
 obtain ⟨c,hc⟩:∃ c,c=(lo B x.1).length:=⟨_,rfl⟩
 have hcl:c<=B.length:=by rw [hc];exact lo_len
 have hfin:=one_left sB x
 rw [<- hc] at hfin
 have ema:(m:Int) - (a:Int)=1:=by omega
 refine Yw cop88 ?_
 show W _ _ _ _ ⟨_,_⟩;simp only [A88,YB,YBg,YC,YI,YL,YM,YMg,YN,YPc,YS,List.cons_append,List.nil_append,List.length_cons,List.length_nil,Nat.reduceAdd,Nat.reduceSub,List.replicate]
 (refine yi 77 143 (by simp [Yl]) fun f77=>?_;simp (disch:=omega) only [List.take_succ_cons,List.take_zero,List.drop_succ_cons,List.drop_zero,List.cons_append,List.nil_append,List.take_nil,List.drop_nil,yF,yG,Ym,Nat.reduceSub,Nat.reduceAdd,List.replicate_succ,List.replicate_zero])
 (refine yi 54 23 (by simp [Yl]) fun f54=>?_;simp (disch:=omega) only [List.take_succ_cons,List.take_zero,List.drop_succ_cons,List.drop_zero,List.cons_append,List.nil_append,List.take_nil,List.drop_nil,yF,yG,Ym,Nat.reduceSub,Nat.reduceAdd,List.replicate_succ,List.replicate_zero])
 repeat (first|(with_reducible first|refine Zn ?_|refine Zj ?_|refine Zl ?_|refine zG ?_|refine zH ?_)|((with_reducible first|refine ks fun K hK=>?_|refine kd fun K hK=>?_|refine kc fun K hK2 hK hK3=>?_);simp (disch:=omega) only [bg0,bg1,bg2,bg3,bg4,zw,z6,eff,AX.ev,St.put,zY,zW,ap1,zk,simprocAttr,zx,AV.cells,AV.fine,AV.one,Zr,zt,live,zr,rdA,zi,wrA,zR,zu,Zp,z8,Zm,zo,zb,zq,zp,zg,cut,id,ap2,zy,Zq,geB,AOp.cls,AOp.xs,ltB,ltC,Option.toList,List.cons_append,decide_eq_true,decide_eq_false,if_pos,if_neg,List.length_map,bVb,bVn,eq_self,Bool.and_self,BEq.rfl,not_true_eq_false,Zs,List.length_set,cVu,cVi,YJ,ema];(with_reducible first|(refine hK _ ?_;clear hK K)|(refine hK ?_;clear hK hK3 K hK2)|(refine hK3 ?_;clear hK hK3 K hK2))))
 refine xH [10,11,12,31,32,33,34,35,36,37,38,39,40,41,42,43,44,45,46,47,48,49,50,51,52,53] (fun u v H=>∃ i j:Nat,u=j - i/\v 10=I i/\v 11=I j/\m<=i/\i<=m+c/\m+c<=j/\j<=b/\H=[rw0 (P++([x]++(B++R))) g]) (b - m) ⟨m,b,rfl,rfl,rfl,by omega,by omega,by omega,by omega,rfl⟩ ?_
 rintro u v H ⟨i,j,rfl,h10,h11,i1,i2,i3,i4,rfl⟩
 simp only [mix,Zv,Zw,Zy,simprocAttr,if_true,if_false,h10,h11]
 by_cases hij:i < j
 ·obtain ⟨h, hh⟩ : ∃ h, h = (i + j) / 2 := ⟨_, rfl⟩
  have q1:((P++([x]++(B++R))).map pA)[h]? = some (.agg [S (B[h - m]'(by omega)).1,S (B[h - m]'(by omega)).2]):=pAq (by
   have:=gdA (P:=P++[x]) (A:=B) (R:=R) (k:=h) (by simp;omega) (by simp;omega)
   simp only [List.append_assoc] at this
   rw [this]
   congr 2
   simp;omega)
  have q2:((P++([x]++(B++R))).map pA)[a]? = some (.agg [S x.1,S x.2]):=pAq (xw (S:=[]) (by simp;omega))
  have hy:=hsB _ (List.getElem_mem (l:=B) (n:=h - m) (by omega))
  have hidx:=idx_lo sB x.1 (i:=h - m) (by omega)
  rw [<- hc] at hidx
  generalize B[h - m]'(by omega)=y at *
  have hm:=hh.symm
  have hNl:=hN
  generalize P++([x]++(B++R))=C at *
  by_cases hlt:cB y.1 x.1 < 0
  ·have := hidx.1 hlt
   repeat (first|(with_reducible first|refine Zn ?_|refine Zj ?_|refine Z5 ?_|refine Zl ?_|refine ZB ?_|refine zG ?_|refine ZV ?_|refine zH ?_|refine Zk ?_)|((with_reducible first|refine ks fun K hK=>?_|refine kd fun K hK=>?_|refine kc fun K hK2 hK hK3=>?_);simp (disch:=omega) only [bg0,bg1,bg2,bg3,bg4,zw,z6,eff,AX.ev,St.put,zY,zW,ap1,zk,simprocAttr,zx,AV.cells,AV.fine,AV.one,Zr,zt,live,zr,rdA,zi,wrA,zR,zu,Zp,z8,Zm,zo,zb,zq,zp,zg,cut,id,ap2,zy,Zq,geB,AOp.cls,AOp.xs,ltB,ltC,Option.toList,List.cons_append,decide_eq_true,decide_eq_false,if_pos,if_neg,List.length_map,bVb,bVn,eq_self,Bool.and_self,BEq.rfl,not_true_eq_false,Zs,List.length_set,cVu,cVi,YJ,hm,q1,q2,hlt];(with_reducible first|(refine hK _ ?_;clear hK K)|(refine hK ?_;clear hK hK3 K hK2)|(refine hK3 ?_;clear hK hK3 K hK2)))|((first|((with_reducible refine kvd 73 ?_ ?_ ?_ ?_ ?_ ?_ ?_ ?_);rotate_left 3));(focus (simp (disch:=omega) only [bg0,bg1,bg2,bg3,bg4,zw,z6,eff,AX.ev,St.put,zY,zW,ap1,zk,simprocAttr,zx,AV.cells,AV.fine,AV.one,Zr,zt,live,zr,rdA,zi,wrA,zR,zu,Zp,z8,Zm,zo,zb,zq,zp,zg,cut,id,ap2,zy,Zq,geB,AOp.cls,AOp.xs,ltB,ltC,Option.toList,List.cons_append,decide_eq_true,decide_eq_false,if_pos,if_neg,List.length_map,bVb,bVn,eq_self,Bool.and_self,BEq.rfl,not_true_eq_false,Zs,List.length_set,cVu,cVi,YJ,hm,q1,q2,hlt];try rfl));(first|(rfl;exact hb73;exact (wM G _ hy hx)))))
   exact ⟨rfl,j - (h+1),by omega,h+1,j,rfl,rfl,rfl,by omega,by omega,by omega,by omega,rfl⟩
  ·have:¬ (h - m < c):=fun h=>hlt (hidx.2 h)
   repeat (first|(with_reducible first|refine Zn ?_|refine Zj ?_|refine Z5 ?_|refine Zl ?_|refine ZB ?_|refine zG ?_|refine ZV ?_|refine zH ?_|refine Zk ?_)|((with_reducible first|refine ks fun K hK=>?_|refine kd fun K hK=>?_|refine kc fun K hK2 hK hK3=>?_);simp (disch:=omega) only [bg0,bg1,bg2,bg3,bg4,zw,z6,eff,AX.ev,St.put,zY,zW,ap1,zk,simprocAttr,zx,AV.cells,AV.fine,AV.one,Zr,zt,live,zr,rdA,zi,wrA,zR,zu,Zp,z8,Zm,zo,zb,zq,zp,zg,cut,id,ap2,zy,Zq,geB,AOp.cls,AOp.xs,ltB,ltC,Option.toList,List.cons_append,decide_eq_true,decide_eq_false,if_pos,if_neg,List.length_map,bVb,bVn,eq_self,Bool.and_self,BEq.rfl,not_true_eq_false,Zs,List.length_set,cVu,cVi,YJ,hm,q1,q2,hlt];(with_reducible first|(refine hK _ ?_;clear hK K)|(refine hK ?_;clear hK hK3 K hK2)|(refine hK3 ?_;clear hK hK3 K hK2)))|((first|((with_reducible refine kvd 73 ?_ ?_ ?_ ?_ ?_ ?_ ?_ ?_);rotate_left 3));(focus (simp (disch:=omega) only [bg0,bg1,bg2,bg3,bg4,zw,z6,eff,AX.ev,St.put,zY,zW,ap1,zk,simprocAttr,zx,AV.cells,AV.fine,AV.one,Zr,zt,live,zr,rdA,zi,wrA,zR,zu,Zp,z8,Zm,zo,zb,zq,zp,zg,cut,id,ap2,zy,Zq,geB,AOp.cls,AOp.xs,ltB,ltC,Option.toList,List.cons_append,decide_eq_true,decide_eq_false,if_pos,if_neg,List.length_map,bVb,bVn,eq_self,Bool.and_self,BEq.rfl,not_true_eq_false,Zs,List.length_set,cVu,cVi,YJ,hm,q1,q2,hlt];try rfl));(first|(rfl;exact hb73;exact (wM G _ hy hx)))))
   exact ⟨rfl,h - i,by omega,i,h,rfl,rfl,rfl,by omega,by omega,by omega,by omega,rfl⟩
 ·obtain rfl : i = m + c := by omega
  obtain rfl:j=m+c:=by omega
  (refine yi 25 29 (by simp [Yl]) fun f25=>?_;simp (disch:=omega) only [List.take_succ_cons,List.take_zero,List.drop_succ_cons,List.drop_zero,List.cons_append,List.nil_append,List.take_nil,List.drop_nil,yF,yG,Ym,Nat.reduceSub,Nat.reduceAdd,List.replicate_succ,List.replicate_zero])
  (have ho:∀ (f:Nat->AV) (L:List AV),skp 23 f L=f 0::f 1::f 2::f 3::f 4::f 5::f 6::f 7::f 8::f 9::f 10::f 11::f 12::f 13::f 14::f 15::f 16::f 17::f 18::f 19::f 20::f 21::f 22::L:=fun _ _=>rfl;simp only [ho];clear ho)
  repeat (first|(with_reducible first|refine Zn ?_|refine Zj ?_|refine Zl ?_|refine ZY ?_|refine zG ?_|refine zH ?_|refine ZC ?_|refine Zu ?_)|((with_reducible first|refine ks fun K hK=>?_|refine kd fun K hK=>?_|refine kc fun K hK2 hK hK3=>?_);simp (disch:=omega) only [bg0,bg1,bg2,bg3,bg4,zw,z6,eff,AX.ev,St.put,zY,zW,ap1,zk,simprocAttr,zx,AV.cells,AV.fine,AV.one,Zr,zt,live,zr,rdA,zi,wrA,zR,zu,Zp,z8,Zm,zo,zb,zq,zp,zg,cut,id,ap2,zy,Zq,geB,AOp.cls,AOp.xs,ltB,ltC,Option.toList,List.cons_append,decide_eq_true,decide_eq_false,if_pos,if_neg,List.length_map,bVb,bVn,eq_self,Bool.and_self,BEq.rfl,not_true_eq_false,Zs,List.length_set,cVu,cVi,YJ];(with_reducible first|(refine hK _ ?_;clear hK K)|(refine hK ?_;clear hK hK3 K hK2)|(refine hK3 ?_;clear hK hK3 K hK2))))
  refine Yz [13,55,56,57,58,59,60,61,62,63,64,65,66,67,68,69,70,71,72,73,74,75,76] (fun r v H=>v 13=I ((a+r:Nat):Int)/\H=[rw0 (P++(B.take r++x::(B.drop r++R))) g]) c ⟨by simp [at_],rfl⟩ ?_ ?_
  ·rintro r v2 H hr ⟨h13, rfl⟩
   have hrB:r < B.length:=by omega
   have hSl:(B.take r).length=r:=by simp;omega
   have hdr:B.drop r=B[r]::B.drop (r+1):=List.drop_eq_getElem_cons hrB
   have htk:B.take (r+1)=B.take r++[B[r]]:=by rw [List.take_add_one,List.getElem?_eq_getElem hrB];rfl
   rw [hdr,htk]
   generalize B[r]=y at *
   have q1:=pAq (xw (P:=P) (S:=B.take r) (x:=x) (R:=y::(B.drop (r+1)++R)) (k:=a+r) (by omega))
   have q2:=pAq (at_nx (P:=P) (S:=B.take r) (x:=x) (y:=y) (R:=B.drop (r+1)++R) (k:=a+r) (by omega))
   have q3:(((P++(B.take r++x::y::(B.drop (r+1)++R))).set (a+r) y).map pA)[a+r+1]? = some (.agg [S y.1,S y.2]):=pAq (by rw [List.getElem?_set_ne (by omega)];exact at_nx (by omega))
   have hsw:=sw_fwd (P:=P) (S:=B.take r) (x:=x) (y:=y) (R:=B.drop (r+1)++R) (k:=a+r) (by omega)
   have hCl:(P++(B.take r++x::y::(B.drop (r+1)++R))).length=N:=by
    rw [<- hN];simp [hSl];omega
   simp only [List.cons_append] at *
   generalize P++(B.take r++x::y::(B.drop (r+1)++R))=C at *
   have e1:((a:Int)+(r:Int)+1).toNat=a+r+1:=by omega
   have e2:((a:Int)+(r:Int)).toNat=a+r:=by omega
   have hw3:a+r+1 < N:=by omega
   have hcN:m+c<=N:=by omega
   clear hSl hdr htk hc hfin hB hbN hcl ema i1 i2 i3 i4 hij
   simp only [mix,Zv,Zw,Zy,simprocAttr,if_true,if_false,h13]
   repeat (first|(with_reducible first|refine Zn ?_|refine Zj ?_)|(with_reducible refine xI ?_ ?_ ?_ ?_;rotate_left 1)|(with_reducible first|exact isSt|refine Zl ?_|refine ZB ?_|refine zG ?_|refine ZV ?_|refine zH ?_|refine Zk ?_)|((with_reducible first|refine ks fun K hK=>?_|refine kd fun K hK=>?_|refine kc fun K hK2 hK hK3=>?_);simp (disch:=omega) only [bg0,bg1,bg2,bg3,bg4,zw,z6,eff,AX.ev,St.put,zY,zW,ap1,zk,simprocAttr,zx,AV.cells,AV.fine,AV.one,Zr,zt,live,zr,rdA,zi,wrA,zR,zu,Zp,z8,Zm,zo,zb,zq,zp,zg,cut,id,ap2,zy,Zq,geB,AOp.cls,AOp.xs,ltB,ltC,Option.toList,List.cons_append,decide_eq_true,decide_eq_false,if_pos,if_neg,List.length_map,bVb,bVn,eq_self,Bool.and_self,BEq.rfl,not_true_eq_false,Zs,List.length_set,cVu,cVi,YJ,q1,q2,q3,e1,e2];(with_reducible first|(refine hK _ ?_;clear hK K)|(refine hK ?_;clear hK hK3 K hK2)|(refine hK3 ?_;clear hK hK3 K hK2))))
   exact ⟨rfl,by simp [at_];omega,X4 hsw⟩
  ·rintro v2 H ⟨h13, rfl⟩
   simp only [mix,Zv,Zw,Zy,simprocAttr,if_true,if_false,h13]
   (try simp only [List.cons_append,List.nil_append])
   rw [<- hfin]
   simp only [List.append_assoc,List.cons_append]
   repeat (first|(with_reducible first|refine Zn ?_|refine Zj ?_|refine ZY ?_|refine zG ?_|refine zH ?_|refine ZC ?_|refine Zu ?_|refine yD ?_|refine y6 ?_)|((with_reducible first|refine ks fun K hK=>?_|refine kd fun K hK=>?_|refine kc fun K hK2 hK hK3=>?_);simp (disch:=omega) only [bg0,bg1,bg2,bg3,bg4,zw,z6,eff,AX.ev,St.put,zY,zW,ap1,zk,simprocAttr,zx,AV.cells,AV.fine,AV.one,Zr,zt,live,zr,rdA,zi,wrA,zR,zu,Zp,z8,Zm,zo,zb,zq,zp,zg,cut,id,ap2,zy,Zq,geB,AOp.cls,AOp.xs,ltB,ltC,Option.toList,List.cons_append,decide_eq_true,decide_eq_false,if_pos,if_neg,List.length_map,bVb,bVn,eq_self,Bool.and_self,BEq.rfl,not_true_eq_false,Zs,List.length_set,cVu,cVi,YJ];(with_reducible first|(refine hK _ ?_;clear hK K)|(refine hK ?_;clear hK hK3 K hK2)|(refine hK3 ?_;clear hK hK3 K hK2)))|((with_reducible refine ret_0r ?_);try rfl))
set_option maxHeartbeats 8000000 in
theorem symR (G : Nat -> AV) (g : Nat) (P A R : List Pr) (x : Pr) (N a m b : Nat) (hN : (P ++ (A ++ ([x] ++ R))).length = N) (hP : P.length = a) (hA : a + A.length = m) (hA2 : 2 <= A.length) (hB : m + 1 = b) (sA : SLe A) (hok : Okl (P ++ (A ++ ([x] ++ R)))) :
  HC Tryd.prog G 88 [.ol 0 g N,I a,I m,I b,cF] [rw0 (P++(A++([x]++R))) g] (.tup []) [rw0 (P++(zm (A++[x])++R)) g]:=by
 have hlen:=hok.len
 rw [hN] at hlen
 have hbN:b<=N:=by rw [<- hN];simp;omega
 have hx:x.1.size<=9223372036854775807:=(hok.sz x (by simp)).1
 have hsA:∀ p ∈ A,p.1.size<=9223372036854775807:=fun p hp=>(hok.sz p (by simp [hp])).1
 obtain ⟨c,hc⟩:∃ c,c=(le A x.1).length:=⟨_,rfl⟩
 have hcl:c<=A.length:=by rw [hc];exact le_len
 have hfin:=one_right sA x
 rw [<- hc] at hfin
 have ema:¬ ((m:Int) - (a:Int)=1):=by omega
 have ebm:(b:Int) - (m:Int)=1:=by omega
 refine Yw cop88 ?_
 show W _ _ _ _ ⟨_,_⟩;simp only [A88,YB,YBg,YC,YI,YL,YM,YMg,YN,YPc,YS,List.cons_append,List.nil_append,List.length_cons,List.length_nil,Nat.reduceAdd,Nat.reduceSub,List.replicate]
 (refine yi 129 91 (by simp [Yl]) fun f129=>?_;simp (disch:=omega) only [List.take_succ_cons,List.take_zero,List.drop_succ_cons,List.drop_zero,List.cons_append,List.nil_append,List.take_nil,List.drop_nil,yF,yG,Ym,Nat.reduceSub,Nat.reduceAdd,List.replicate_succ,List.replicate_zero])
 (refine yi 107 22 (by simp [Yl]) fun f107=>?_;simp (disch:=omega) only [List.take_succ_cons,List.take_zero,List.drop_succ_cons,List.drop_zero,List.cons_append,List.nil_append,List.take_nil,List.drop_nil,yF,yG,Ym,Nat.reduceSub,Nat.reduceAdd,List.replicate_succ,List.replicate_zero])
 repeat (first|(with_reducible first|refine Zn ?_|refine Zj ?_|refine Zl ?_|refine ZB ?_|refine zG ?_|refine zH ?_)|((with_reducible first|refine ks fun K hK=>?_|refine kd fun K hK=>?_|refine kc fun K hK2 hK hK3=>?_);simp (disch:=omega) only [bg0,bg1,bg2,bg3,bg4,zw,z6,eff,AX.ev,St.put,zY,zW,ap1,zk,simprocAttr,zx,AV.cells,AV.fine,AV.one,Zr,zt,live,zr,rdA,zi,wrA,zR,zu,Zp,z8,Zm,zo,zb,zq,zp,zg,cut,id,ap2,zy,Zq,geB,AOp.cls,AOp.xs,ltB,ltC,Option.toList,List.cons_append,decide_eq_true,decide_eq_false,if_pos,if_neg,List.length_map,bVb,bVn,eq_self,Bool.and_self,BEq.rfl,not_true_eq_false,Zs,List.length_set,cVu,cVi,YJ,ema,ebm];(with_reducible first|(refine hK _ ?_;clear hK K)|(refine hK ?_;clear hK hK3 K hK2)|(refine hK3 ?_;clear hK hK3 K hK2))))
 (refine yi 25 58 (by simp [Yl]) fun f25=>?_;simp (disch:=omega) only [List.take_succ_cons,List.take_zero,List.drop_succ_cons,List.drop_zero,List.cons_append,List.nil_append,List.take_nil,List.drop_nil,yF,yG,Ym,Nat.reduceSub,Nat.reduceAdd,List.replicate_succ,List.replicate_zero])
 refine xH [14,15,16,83,84,85,86,87,88,89,90,91,92,93,94,95,96,97,98,99,100,101,102,103,104,105,106] (fun u v H=>∃ i j:Nat,u=j - i/\v 14=I i/\v 15=I j/\a<=i/\i<=a+c/\a+c<=j/\j<=m/\H=[rw0 (P++(A++([x]++R))) g]) (m - a) ⟨a,m,rfl,rfl,rfl,by omega,by omega,by omega,by omega,rfl⟩ ?_
 rintro u v H ⟨i,j,rfl,h14,h15,i1,i2,i3,i4,rfl⟩
 simp only [mix,Zv,Zw,Zy,simprocAttr,if_true,if_false,h14,h15]
 by_cases hij:i < j
 ·obtain ⟨h, hh⟩ : ∃ h, h = (i + j) / 2 := ⟨_, rfl⟩
  have q1:((P++(A++([x]++R))).map pA)[h]? = some (.agg [S (A[h - a]'(by omega)).1,S (A[h - a]'(by omega)).2]):=pAq (by
   have:=gdA (P:=P) (A:=A) (R:=[x]++R) (k:=h) (by omega) (by omega)
   rw [this]
   congr 2
   omega)
  have q2:((P++(A++([x]++R))).map pA)[m]? = some (.agg [S x.1,S x.2]):=pAq (xw (S:=A) (by omega))
  have hy:=hsA _ (List.getElem_mem (l:=A) (n:=h - a) (by omega))
  have hidx:=idx_le sA x.1 (i:=h - a) (by omega)
  rw [<- hc] at hidx
  generalize A[h - a]'(by omega)=y at *
  have hm:=hh.symm
  have hNl:=hN
  generalize P++(A++([x]++R))=C at *
  have hanti:=yA y.1 x.1
  by_cases hlt:cB x.1 y.1 < 0
  ·have:¬ (h - a < c):=fun h=>by have:=hidx.2 h;omega
   repeat (first|(with_reducible first|refine Zn ?_|refine Zj ?_|refine Z5 ?_|refine Zl ?_|refine ZB ?_|refine zG ?_|refine ZV ?_|refine zH ?_|refine Zk ?_)|((with_reducible first|refine ks fun K hK=>?_|refine kd fun K hK=>?_|refine kc fun K hK2 hK hK3=>?_);simp (disch:=omega) only [bg0,bg1,bg2,bg3,bg4,zw,z6,eff,AX.ev,St.put,zY,zW,ap1,zk,simprocAttr,zx,AV.cells,AV.fine,AV.one,Zr,zt,live,zr,rdA,zi,wrA,zR,zu,Zp,z8,Zm,zo,zb,zq,zp,zg,cut,id,ap2,zy,Zq,geB,AOp.cls,AOp.xs,ltB,ltC,Option.toList,List.cons_append,decide_eq_true,decide_eq_false,if_pos,if_neg,List.length_map,bVb,bVn,eq_self,Bool.and_self,BEq.rfl,not_true_eq_false,Zs,List.length_set,cVu,cVi,YJ,hm,q1,q2,hlt];(with_reducible first|(refine hK _ ?_;clear hK K)|(refine hK ?_;clear hK hK3 K hK2)|(refine hK3 ?_;clear hK hK3 K hK2)))|((first|((with_reducible refine kvd 73 ?_ ?_ ?_ ?_ ?_ ?_ ?_ ?_);rotate_left 3));(focus (simp (disch:=omega) only [bg0,bg1,bg2,bg3,bg4,zw,z6,eff,AX.ev,St.put,zY,zW,ap1,zk,simprocAttr,zx,AV.cells,AV.fine,AV.one,Zr,zt,live,zr,rdA,zi,wrA,zR,zu,Zp,z8,Zm,zo,zb,zq,zp,zg,cut,id,ap2,zy,Zq,geB,AOp.cls,AOp.xs,ltB,ltC,Option.toList,List.cons_append,decide_eq_true,decide_eq_false,if_pos,if_neg,List.length_map,bVb,bVn,eq_self,Bool.and_self,BEq.rfl,not_true_eq_false,Zs,List.length_set,cVu,cVi,YJ,hm,q1,q2,hlt];try rfl));(first|(rfl;exact hb73;exact (wM G _ hx hy)))))
   exact ⟨rfl,h - i,by omega,i,h,rfl,rfl,rfl,by omega,by omega,by omega,by omega,rfl⟩
  ·have := hidx.1 (by omega)
   repeat (first|(with_reducible first|refine Zn ?_|refine Zj ?_|refine Z5 ?_|refine Zl ?_|refine ZB ?_|refine zG ?_|refine ZV ?_|refine zH ?_|refine Zk ?_)|((with_reducible first|refine ks fun K hK=>?_|refine kd fun K hK=>?_|refine kc fun K hK2 hK hK3=>?_);simp (disch:=omega) only [bg0,bg1,bg2,bg3,bg4,zw,z6,eff,AX.ev,St.put,zY,zW,ap1,zk,simprocAttr,zx,AV.cells,AV.fine,AV.one,Zr,zt,live,zr,rdA,zi,wrA,zR,zu,Zp,z8,Zm,zo,zb,zq,zp,zg,cut,id,ap2,zy,Zq,geB,AOp.cls,AOp.xs,ltB,ltC,Option.toList,List.cons_append,decide_eq_true,decide_eq_false,if_pos,if_neg,List.length_map,bVb,bVn,eq_self,Bool.and_self,BEq.rfl,not_true_eq_false,Zs,List.length_set,cVu,cVi,YJ,hm,q1,q2,hlt];(with_reducible first|(refine hK _ ?_;clear hK K)|(refine hK ?_;clear hK hK3 K hK2)|(refine hK3 ?_;clear hK hK3 K hK2)))|((first|((with_reducible refine kvd 73 ?_ ?_ ?_ ?_ ?_ ?_ ?_ ?_);rotate_left 3));(focus (simp (disch:=omega) only [bg0,bg1,bg2,bg3,bg4,zw,z6,eff,AX.ev,St.put,zY,zW,ap1,zk,simprocAttr,zx,AV.cells,AV.fine,AV.one,Zr,zt,live,zr,rdA,zi,wrA,zR,zu,Zp,z8,Zm,zo,zb,zq,zp,zg,cut,id,ap2,zy,Zq,geB,AOp.cls,AOp.xs,ltB,ltC,Option.toList,List.cons_append,decide_eq_true,decide_eq_false,if_pos,if_neg,List.length_map,bVb,bVn,eq_self,Bool.and_self,BEq.rfl,not_true_eq_false,Zs,List.length_set,cVu,cVi,YJ,hm,q1,q2,hlt];try rfl));(first|(rfl;exact hb73;exact (wM G _ hx hy)))))
   exact ⟨rfl,j - (h+1),by omega,h+1,j,rfl,rfl,rfl,by omega,by omega,by omega,by omega,rfl⟩
 ·obtain rfl : i = a + c := by omega
  obtain rfl:j=a+c:=by omega
  (refine yi 83 24 (by simp [Yl]) fun f83=>?_;simp (disch:=omega) only [List.take_succ_cons,List.take_zero,List.drop_succ_cons,List.drop_zero,List.cons_append,List.nil_append,List.take_nil,List.drop_nil,yF,yG,Ym,Nat.reduceSub,Nat.reduceAdd,List.replicate_succ,List.replicate_zero])
  (have ho:∀ (f:Nat->AV) (L:List AV),skp 22 f L=f 0::f 1::f 2::f 3::f 4::f 5::f 6::f 7::f 8::f 9::f 10::f 11::f 12::f 13::f 14::f 15::f 16::f 17::f 18::f 19::f 20::f 21::L:=fun _ _=>rfl;simp only [ho];clear ho)
  repeat (first|(with_reducible first|refine Zn ?_|refine Zj ?_|refine Zl ?_|refine ZY ?_|refine zG ?_|refine zH ?_|refine ZC ?_|refine Zu ?_)|((with_reducible first|refine ks fun K hK=>?_|refine kd fun K hK=>?_|refine kc fun K hK2 hK hK3=>?_);simp (disch:=omega) only [bg0,bg1,bg2,bg3,bg4,zw,z6,eff,AX.ev,St.put,zY,zW,ap1,zk,simprocAttr,zx,AV.cells,AV.fine,AV.one,Zr,zt,live,zr,rdA,zi,wrA,zR,zu,Zp,z8,Zm,zo,zb,zq,zp,zg,cut,id,ap2,zy,Zq,geB,AOp.cls,AOp.xs,ltB,ltC,Option.toList,List.cons_append,decide_eq_true,decide_eq_false,if_pos,if_neg,List.length_map,bVb,bVn,eq_self,Bool.and_self,BEq.rfl,not_true_eq_false,Zs,List.length_set,cVu,cVi,YJ];(with_reducible first|(refine hK _ ?_;clear hK K)|(refine hK ?_;clear hK hK3 K hK2)|(refine hK3 ?_;clear hK hK3 K hK2))))
  refine Yz [17,108,109,110,111,112,113,114,115,116,117,118,119,120,121,122,123,124,125,126,127,128] (fun r v H=>v 17=I ((m - r:Nat):Int)/\H=[rw0 (P++(A.take (A.length - r)++x::(A.drop (A.length - r)++R))) g]) (A.length - c) ⟨rfl,by simp⟩ ?_ ?_
  ·rintro r v2 H hr ⟨h17, rfl⟩
   obtain ⟨w,hw⟩:∃ w,w+1=A.length - r:=⟨A.length - r - 1,by omega⟩
   have hw2:A.length - (r+1)=w:=by omega
   rw [<- hw,hw2]
   have hwA:w < A.length:=by omega
   have hSl:(A.take w).length=w:=by simp;omega
   have hdr:A.drop w=A[w]::A.drop (w+1):=List.drop_eq_getElem_cons hwA
   have htk:A.take (w+1)=A.take w++[A[w]]:=by rw [List.take_add_one,List.getElem?_eq_getElem hwA];rfl
   rw [hdr,htk]
   generalize A[w]=y at *
   have hmr:m - r=a+w+1:=by omega
   have hmr2:m - (r+1)=a+w:=by omega
   rw [hmr] at h17
   rw [hmr2]
   have q1:=pAq (xw (P:=P) (S:=A.take w++[y]) (x:=x) (R:=A.drop (w+1)++R) (k:=a+w+1) (by simp;omega))
   have q2:=pAq (at_pre (P:=P) (S:=A.take w) (x:=x) (y:=y) (R:=A.drop (w+1)++R) (k:=a+w) (by omega))
   have q3:(((P++(A.take w++[y]++x::(A.drop (w+1)++R))).set (a+w+1) y).map pA)[a+w]? = some (.agg [S y.1,S y.2]):=pAq (by rw [List.getElem?_set_ne (by omega)];exact at_pre (by omega))
   have hsw:=sw_mid (P:=P) (S:=A.take w) (x:=x) (y:=y) (R:=A.drop (w+1)++R) (k:=a+w) (by omega)
   have hCl:(P++(A.take w++[y]++x::(A.drop (w+1)++R))).length=N:=by
    rw [<- hN];simp [hSl];omega
   generalize P++(A.take w++[y]++x::(A.drop (w+1)++R))=C at *
   have e1:((a:Int)+(w:Int)+1).toNat=a+w+1:=by omega
   have e2:((a:Int)+(w:Int)).toNat=a+w:=by omega
   have hw3:a+w+1 < N:=by omega
   have hw4:c<=w:=by omega
   clear hmr hmr2 hw hw2 hr hSl hdr htk hc hfin hA hB hbN hcl ema ebm i1 i2 i3 i4 hij
   simp only [mix,Zv,Zw,Zy,simprocAttr,if_true,if_false,h17]
   repeat (first|(with_reducible first|refine Zn ?_|refine Zj ?_)|(with_reducible refine xI ?_ ?_ ?_ ?_;rotate_left 1)|(with_reducible first|exact isSt|refine Zl ?_|refine ZB ?_|refine zG ?_|refine ZV ?_|refine zH ?_|refine Zk ?_)|((with_reducible first|refine ks fun K hK=>?_|refine kd fun K hK=>?_|refine kc fun K hK2 hK hK3=>?_);simp (disch:=omega) only [bg0,bg1,bg2,bg3,bg4,zw,z6,eff,AX.ev,St.put,zY,zW,ap1,zk,simprocAttr,zx,AV.cells,AV.fine,AV.one,Zr,zt,live,zr,rdA,zi,wrA,zR,zu,Zp,z8,Zm,zo,zb,zq,zp,zg,cut,id,ap2,zy,Zq,geB,AOp.cls,AOp.xs,ltB,ltC,Option.toList,List.cons_append,decide_eq_true,decide_eq_false,if_pos,if_neg,List.length_map,bVb,bVn,eq_self,Bool.and_self,BEq.rfl,not_true_eq_false,Zs,List.length_set,cVu,cVi,YJ,q1,q2,q3,e1,e2];(with_reducible first|(refine hK _ ?_;clear hK K)|(refine hK ?_;clear hK hK3 K hK2)|(refine hK3 ?_;clear hK hK3 K hK2))))
   exact ⟨rfl,by simp [at_],X4 hsw⟩
  ·rintro v2 H ⟨h17, rfl⟩
   rw [show m - (A.length - c)=a+c by omega] at h17
   rw [show A.length - (A.length - c)=c by omega]
   simp only [mix,Zv,Zw,Zy,simprocAttr,if_true,if_false,h17]
   rw [<- hfin]
   simp only [List.append_assoc,List.cons_append]
   repeat (first|(with_reducible first|refine Zn ?_|refine Zj ?_|refine ZY ?_|refine zG ?_|refine zH ?_|refine ZC ?_|refine Zu ?_|refine yD ?_|refine y6 ?_)|((with_reducible first|refine ks fun K hK=>?_|refine kd fun K hK=>?_|refine kc fun K hK2 hK hK3=>?_);simp (disch:=omega) only [bg0,bg1,bg2,bg3,bg4,zw,z6,eff,AX.ev,St.put,zY,zW,ap1,zk,simprocAttr,zx,AV.cells,AV.fine,AV.one,Zr,zt,live,zr,rdA,zi,wrA,zR,zu,Zp,z8,Zm,zo,zb,zq,zp,zg,cut,id,ap2,zy,Zq,geB,AOp.cls,AOp.xs,ltB,ltC,Option.toList,List.cons_append,decide_eq_true,decide_eq_false,if_pos,if_neg,List.length_map,bVb,bVn,eq_self,Bool.and_self,BEq.rfl,not_true_eq_false,Zs,List.length_set,cVu,cVi,YJ];(with_reducible first|(refine hK _ ?_;clear hK K)|(refine hK ?_;clear hK hK3 K hK2)|(refine hK3 ?_;clear hK hK3 K hK2)))|((with_reducible refine ret_0r ?_);try rfl))
def SymOk (G : Nat -> AV) : Prop := ∀ (g n : Nat) (P A B R : List Pr) (N a m b : Nat), A.length + B.length <= n -> (P ++ (A ++ (B ++ R))).length = N -> P.length = a -> a + A.length = m -> m + B.length = b -> 0 < A.length -> 0 < B.length -> SLe A -> SLe B -> Okl (P ++ (A ++ (B ++ R))) ->
  HC Tryd.prog G 88 [.ol 0 g N,I a,I m,I b,cF] [rw0 (P++(A++(B++R))) g] (.tup []) [rw0 (P++(zm (A++B)++R)) g]
theorem srt_all (D:List Pr):srt D 0 D.length=zm D:=by simp [srt,seg]
theorem srt_len {D:List Pr} {a b:Nat} (h:a<=b) (hb:b<=D.length):(srt D a b).length=D.length:=by
 simp [srt,ZO,seg];omega
theorem srt_mem {D:List Pr} {a b:Nat} {x:Pr} (h:x ∈ srt D a b):x ∈ D:=by
 simp only [srt,List.mem_append,ssort_mem] at h
 rcases h with h|h|h
 ·exact List.mem_of_mem_take h
 ·exact seg_mem h
 ·exact List.mem_of_mem_drop h
theorem okl_srt {D:List Pr} {a b:Nat} (hD:Okl D) (h:a<=b) (hb:b<=D.length):Okl (srt D a b):=⟨by rw [srt_len h hb];exact hD.len,fun p hp=>hD.sz p (srt_mem hp)⟩
theorem srt_two {D:List Pr} {c:Nat} (hc:c<=D.length):srt (srt D 0 c) c D.length=zm (D.take c)++(zm (D.drop c)++[]):=by
 have h1:srt D 0 c=zm (D.take c)++D.drop c:=by simp [srt,seg]
 have h2:(zm (D.take c)).length=c:=by rw [ZO];simp;omega
 rw [h1]
 unfold srt seg
 have e1:(zm (D.take c)++D.drop c).take c=zm (D.take c):=by
  have:=List.take_left (l₁:=zm (D.take c)) (l₂:=D.drop c)
  rwa [h2] at this
 have e2:((zm (D.take c)++D.drop c).take D.length).drop c=D.drop c:=by
  rw [List.take_of_length_le (by simp [h2];omega)]
  have:=List.drop_left (l₁:=zm (D.take c)) (l₂:=D.drop c)
  rwa [h2] at this
 have e3:(zm (D.take c)++D.drop c).drop D.length=[]:=List.drop_of_length_le (by simp [h2];omega)
 rw [e1,e2,e3]
theorem ssort_two (X Y:List Pr):zm (zm X++zm Y)=zm (X++Y) :=
 yq (ZA _) (ZA _) fun k=>by simp only [ZI,ZT]
set_option maxHeartbeats 8000000 in
theorem stable37 (G : Nat -> AV) (hS : SymOk G) (D : List Pr) (g : Nat) (hD : Okl D) (h40 : D.length <= 40) :
  HC Tryd.prog G 81 [.ol 0 g D.length,I D.length,cF] [rw0 D g] (.tup []) [rw0 (zm D) g]:=by
 obtain ⟨N,hN⟩:∃ N,N=D.length:=⟨_,rfl⟩
 by_cases h1:N < 20
 ·have i1 := ins43 G D g 0 N hD (by omega) (by omega)
  rw [hN,srt_all] at i1
  rw [<- hN] at i1 ⊢
  refine Yw cop81 ?_
  show W _ _ _ _ ⟨_,_⟩;simp only [A81,YB,YC,YM,YN,List.cons_append,List.nil_append,List.length_cons,List.length_nil,Nat.reduceAdd,Nat.reduceSub,List.replicate]
  clear hD hS
  repeat (first|(with_reducible first|refine Zn ?_|refine Zj ?_|refine Zl ?_|refine ZY ?_|refine zG ?_|refine zH ?_|refine ZC ?_|refine Zu ?_)|(with_reducible first|refine XJ 60 ?_|refine XI ?_)|((with_reducible first|refine ks fun K hK=>?_|refine kd fun K hK=>?_|refine kc fun K hK2 hK hK3=>?_);simp (disch:=omega) only [bg0,bg1,bg2,bg3,bg4,zw,z6,eff,AX.ev,St.put,zY,zW,ap1,zk,simprocAttr,zx,AV.cells,AV.fine,AV.one,Zr,zt,live,zr,rdA,zi,wrA,zR,zu,Zp,z8,Zm,zo,zb,zq,zp,zg,cut,id,ap2,zy,Zq,geB,AOp.cls,AOp.xs,ltB,ltC,Option.toList,List.cons_append,decide_eq_true,decide_eq_false,if_pos,if_neg,List.length_map,Zo,bVb,bVn,eq_self,Bool.and_self,BEq.rfl,not_true_eq_false];(with_reducible first|(refine hK _ ?_;clear hK K)|(refine hK ?_;clear hK hK3 K hK2)|(refine hK3 ?_;clear hK hK3 K hK2)))|((with_reducible refine khs 87 ?_ ?_ ?_ ?_);rotate_left 2;exact i1)|((with_reducible refine xK ?_);try rfl))
 have i1:=ins43 G D g 0 20 hD (by omega) (by omega)
 have l1:=srt_len (D:=D) (a:=0) (b:=20) (by omega) (by omega)
 by_cases h2:N=20
 ·have i2 := ins43 G (srt D 0 20) g 20 20 (okl_srt hD (by omega) (by omega)) (by omega) (by omega)
  rw [Wq (D:=srt D 0 20) (by omega) (by omega) (by omega)] at i2
  have e:srt D 0 20=zm D:=by rw [show 20=D.length by omega];exact srt_all D
  rw [e] at i1 i2 l1
  rw [l1] at i2
  rw [<- hN,h2] at i1 i2 ⊢
  refine Yw cop81 ?_
  show W _ _ _ _ ⟨_,_⟩;simp only [A81,YB,YC,YM,YN,List.cons_append,List.nil_append,List.length_cons,List.length_nil,Nat.reduceAdd,Nat.reduceSub,List.replicate]
  clear hD hS
  repeat (first|(with_reducible first|refine Zn ?_|refine Zj ?_|refine Zl ?_|refine ZB ?_|refine ZY ?_|refine zG ?_|refine zH ?_|refine ZC ?_|refine Zk ?_|refine Zu ?_)|(with_reducible first|refine XJ 60 ?_|refine XI ?_)|((with_reducible first|refine ks fun K hK=>?_|refine kd fun K hK=>?_|refine kc fun K hK2 hK hK3=>?_);simp (disch:=omega) only [bg0,bg1,bg2,bg3,bg4,zw,z6,eff,AX.ev,St.put,zY,zW,ap1,zk,simprocAttr,zx,AV.cells,AV.fine,AV.one,Zr,zt,live,zr,rdA,zi,wrA,zR,zu,Zp,z8,Zm,zo,zb,zq,zp,zg,cut,id,ap2,zy,Zq,geB,AOp.cls,AOp.xs,ltB,ltC,Option.toList,List.cons_append,decide_eq_true,decide_eq_false,if_pos,if_neg,List.length_map,Zo,bVb,bVn,eq_self,Bool.and_self,BEq.rfl,not_true_eq_false];(with_reducible first|(refine hK _ ?_;clear hK K)|(refine hK ?_;clear hK hK3 K hK2)|(refine hK3 ?_;clear hK hK3 K hK2)))|((with_reducible refine khs 87 ?_ ?_ ?_ ?_);rotate_left 2;exact i1)|((with_reducible refine khs 87 ?_ ?_ ?_ ?_);rotate_left 2;exact i2)|((with_reducible refine xK ?_);try rfl))
 have i2:=ins43 G (srt D 0 20) g 20 D.length (okl_srt hD (by omega) (by omega)) (by omega) (by omega)
 rw [srt_two (by omega),l1] at i2
 have s3:=hS g D.length [] (zm (D.take 20)) (zm (D.drop 20)) [] N 0 20 N zq18 zq18 rfl zq18 zq18 zq18 zq18 (ZA _) (ZA _) ⟨by simp [ZO];omega,fun p hp=>by
  simp only [List.nil_append,List.append_nil,List.mem_append,ssort_mem] at hp
  rcases hp with h|h
  ·exact hD.sz p (List.mem_of_mem_take h)
  ·exact hD.sz p (List.mem_of_mem_drop h)⟩
 rw [ssort_two,List.take_append_drop] at s3
 simp only [List.nil_append,List.append_nil] at s3 i2
 have l2:(zm (D.take 20)++zm (D.drop 20)).length=N:=by simp [ZO];omega
 rw [<- hN] at i1 i2 ⊢
 by_cases h3:N < 40
 ·generalize srt D 0 20 = D1 at *
  generalize zm (D.take 20)++zm (D.drop 20)=D2 at *
  generalize zm D=D3 at *
  refine Yw cop81 ?_
  show W _ _ _ _ ⟨_,_⟩;simp only [A81,YB,YC,YM,YN,List.cons_append,List.nil_append,List.length_cons,List.length_nil,Nat.reduceAdd,Nat.reduceSub,List.replicate]
  clear hD hS
  repeat (first|(with_reducible first|refine Zn ?_|refine Zj ?_|refine Zl ?_|refine ZB ?_|refine ZY ?_|refine zG ?_|refine zH ?_|refine ZC ?_|refine Zk ?_|refine Zu ?_)|(with_reducible first|refine XJ 60 ?_|refine XI ?_)|((with_reducible first|refine ks fun K hK=>?_|refine kd fun K hK=>?_|refine kc fun K hK2 hK hK3=>?_);simp (disch:=omega) only [bg0,bg1,bg2,bg3,bg4,zw,z6,eff,AX.ev,St.put,zY,zW,ap1,zk,simprocAttr,zx,AV.cells,AV.fine,AV.one,Zr,zt,live,zr,rdA,zi,wrA,zR,zu,Zp,z8,Zm,zo,zb,zq,zp,zg,cut,id,ap2,zy,Zq,geB,AOp.cls,AOp.xs,ltB,ltC,Option.toList,List.cons_append,decide_eq_true,decide_eq_false,if_pos,if_neg,List.length_map,Zo,bVb,bVn,eq_self,Bool.and_self,BEq.rfl,not_true_eq_false];(with_reducible first|(refine hK _ ?_;clear hK K)|(refine hK ?_;clear hK hK3 K hK2)|(refine hK3 ?_;clear hK hK3 K hK2)))|((with_reducible refine khs 87 ?_ ?_ ?_ ?_);rotate_left 2;exact i1)|((with_reducible refine khs 87 ?_ ?_ ?_ ?_);rotate_left 2;exact i2)|((with_reducible refine khs 88 ?_ ?_ ?_ ?_);rotate_left 2;exact s3)|((with_reducible refine xK ?_);try rfl))
 ·obtain rfl : N = 40 := by omega
  have i3:=ins43 G (zm (D.take 20)++zm (D.drop 20)) g 40 40 ⟨by rw [l2];omega,fun p hp=>by
   simp only [List.mem_append,ssort_mem] at hp
   rcases hp with h|h
   ·exact hD.sz p (List.mem_of_mem_take h)
   ·exact hD.sz p (List.mem_of_mem_drop h)⟩ (by omega) (by omega)
  rw [Wq (by omega) (by omega) (by omega),l2] at i3
  generalize srt D 0 20=D1 at *
  generalize zm (D.take 20)++zm (D.drop 20)=D2 at *
  generalize zm D=D3 at *
  refine Yw cop81 ?_
  show W _ _ _ _ ⟨_,_⟩;simp only [A81,YB,YC,YM,YN,List.cons_append,List.nil_append,List.length_cons,List.length_nil,Nat.reduceAdd,Nat.reduceSub,List.replicate]
  clear hD hS
  repeat (first|(with_reducible first|refine Zn ?_|refine Zj ?_|refine Zl ?_|refine ZB ?_|refine ZY ?_|refine zG ?_|refine zH ?_|refine ZC ?_|refine Zk ?_|refine Zu ?_)|(with_reducible first|refine XJ 60 ?_|refine XI ?_)|((with_reducible first|refine ks fun K hK=>?_|refine kd fun K hK=>?_|refine kc fun K hK2 hK hK3=>?_);simp (disch:=omega) only [bg0,bg1,bg2,bg3,bg4,zw,z6,eff,AX.ev,St.put,zY,zW,ap1,zk,simprocAttr,zx,AV.cells,AV.fine,AV.one,Zr,zt,live,zr,rdA,zi,wrA,zR,zu,Zp,z8,Zm,zo,zb,zq,zp,zg,cut,id,ap2,zy,Zq,geB,AOp.cls,AOp.xs,ltB,ltC,Option.toList,List.cons_append,decide_eq_true,decide_eq_false,if_pos,if_neg,List.length_map,Zo,bVb,bVn,eq_self,Bool.and_self,BEq.rfl,not_true_eq_false];(with_reducible first|(refine hK _ ?_;clear hK K)|(refine hK ?_;clear hK hK3 K hK2)|(refine hK3 ?_;clear hK hK3 K hK2)))|((with_reducible refine khs 87 ?_ ?_ ?_ ?_);rotate_left 2;exact i1)|((with_reducible refine khs 87 ?_ ?_ ?_ ?_);rotate_left 2;exact i2)|((with_reducible refine khs 87 ?_ ?_ ?_ ?_);rotate_left 2;exact i3)|((with_reducible refine khs 88 ?_ ?_ ?_ ?_);rotate_left 2;exact s3)|((with_reducible refine xK ?_);try rfl))
set_option maxHeartbeats 4000000 in
theorem sort28 (G : Nat -> AV) (hS : SymOk G) (D : List Pr) (g : Nat) (hD : Okl D) (h40 : D.length <= 40) :
  HC Tryd.prog G 72 [.ol 0 g D.length,cF] [rw0 D g] (.tup []) [rw0 (zm D) g]:=by
 have h:=stable37 G hS D g hD h40
 refine Yw cop72 ?_
 show W _ _ _ _ ⟨_,_⟩;simp only [A72,YE,YM,List.cons_append,List.nil_append,List.length_cons,List.length_nil,Nat.reduceAdd,Nat.reduceSub,List.replicate]
 repeat (first|(with_reducible first|refine Zj ?_|refine zG ?_)|((with_reducible first|refine ks fun K hK=>?_|refine kd fun K hK=>?_|refine kc fun K hK2 hK hK3=>?_);simp (disch:=omega) only [bg0,bg1,bg2,bg3,bg4,zw,z6,eff,AX.ev,St.put,zY,zW,ap1,zk,simprocAttr,zx,AV.cells,AV.fine,AV.one,Zr,zt,live,zr,rdA,zi,wrA,zR,zu,Zp,z8,Zm,zo,zb,zq,zp,zg,cut,id,ap2,zy,Zq,geB,AOp.cls,AOp.xs,ltB,ltC,Option.toList,List.cons_append,decide_eq_true,decide_eq_false,if_pos,if_neg,List.length_map,Zo,bVb,bVn,eq_self,Bool.and_self,BEq.rfl,not_true_eq_false];(with_reducible first|(refine hK _ ?_;clear hK K)|(refine hK ?_;clear hK hK3 K hK2)|(refine hK3 ?_;clear hK hK3 K hK2)))|((with_reducible refine khs 81 ?_ ?_ ?_ ?_);rotate_left 2;exact h)|((with_reducible refine xK ?_);try rfl))
theorem isl:wm Tryd.prog 30=true:=by kernel_rfl
set_option maxHeartbeats 4000000 in
theorem clone27 (G:Nat->AV) (l:List Pr) (hl:Okl l) (h0:l ≠ []) (H:Hp):HC Tryd.prog G 71 [.sl 2 (l.map pA)] H (.ol H.length 1 l.length) (H++[⟨62,2,l.map pA,1,0⟩]):=by
 have hlen:=hl.len
 have he:(l.map pA).isEmpty=false:=by cases l with|nil=>exact absurd rfl h0|cons=>rfl
 refine Yw cop71 ?_
 show W _ _ _ _ ⟨_,_⟩;simp only [A71,YM,List.cons_append,List.nil_append,List.length_cons,List.length_nil,Nat.reduceAdd,Nat.reduceSub,List.replicate]
 repeat (first|(with_reducible first|refine Zn ?_|refine Zj ?_|refine ZB ?_|refine zG ?_|refine zH ?_|refine yD ?_)|((with_reducible first|refine ks fun K hK=>?_|refine kd fun K hK=>?_|refine kc fun K hK2 hK hK3=>?_|refine XC fun K hR=>?_|refine YK rfl fun K hR=>?_|refine yL fun K hR=>?_);simp (disch:=omega) only [bg0,bg1,bg2,bg3,bg4,zw,z6,eff,AX.ev,St.put,zY,zW,ap1,zk,simprocAttr,zx,AV.cells,AV.fine,AV.one,Zr,zt,live,zr,rdA,zi,wrA,zR,zu,Zp,z8,Zm,zo,zb,zq,zp,zg,cut,id,ap2,zy,Zq,geB,AOp.cls,AOp.xs,ltB,ltC,Option.toList,List.cons_append,decide_eq_true,decide_eq_false,if_pos,if_neg,List.length_map,Zo,bVb,bVn,eq_self,Bool.and_self,BEq.rfl,not_true_eq_false,isl,wh,YW,isNl,he,Bool.not_false];(first|(with_reducible first|(refine hK _ ?_;clear hK K)|(refine hK ?_;clear hK hK3 K hK2)|(refine hK3 ?_;clear hK hK3 K hK2))|((with_reducible refine hR _ ?_ ?_ ?_ ?_);rotate_left 2;rfl;rfl)|((with_reducible refine hR _ ?_);rfl))))
set_option maxHeartbeats 4000000 in
theorem clone27e (G:Nat->AV):PC Tryd.prog G 71 [.sl 2 []] (.sl 2 []):=by
 refine @pc_em _ _ _ _ _ cop71 [] [] 2 _ fun b=>?_
 cases b
 all_goals
  show W _ _ _ _ ⟨_,_⟩
  simp only [A71,YM,List.cons_append,List.nil_append,List.length_cons,List.length_nil,Nat.reduceAdd,Nat.reduceSub,List.replicate]
  repeat (first|(with_reducible first|refine Zn ?_|refine Zj ?_|refine ZB ?_|refine zG ?_|refine zH ?_|refine yD ?_|refine y6 ?_)|((with_reducible first|refine ks fun K hK=>?_|refine kd fun K hK=>?_|refine kc fun K hK2 hK hK3=>?_|refine XC fun K hR=>?_|refine YK rfl fun K hR=>?_|refine yL fun K hR=>?_);simp (disch:=omega) only [bg0,bg1,bg2,bg3,bg4,zw,z6,eff,AX.ev,St.put,zY,zW,ap1,zk,simprocAttr,zx,AV.cells,AV.fine,AV.one,Zr,zt,live,zr,rdA,zi,wrA,zR,zu,Zp,z8,Zm,zo,zb,zq,zp,zg,cut,id,ap2,zy,Zq,geB,AOp.cls,AOp.xs,ltB,ltC,Option.toList,List.cons_append,decide_eq_true,decide_eq_false,if_pos,if_neg,List.length_map,Zo,bVb,bVn,eq_self,Bool.and_self,BEq.rfl,not_true_eq_false,isl,wh,YW,isNi,isNl,Bool.not_false,Bool.not_true];(first|(with_reducible first|(refine hK _ ?_;clear hK K)|(refine hK ?_;clear hK hK3 K hK2)|(refine hK3 ?_;clear hK hK3 K hK2))|((with_reducible refine hR _ ?_ ?_ ?_ ?_);rotate_left 2;rfl;rfl)|((with_reducible refine hR _ ?_);rfl))))
theorem ret_frz {t:Nat} {k:Nat} {es:List AV} {st:St} {i g n:Nat} {e:TypeId} {fz:Nat} (h1:st.s.getD t zd = .ol i g n) (h2:st.H[i]? = some ⟨e,k,es,g,fz⟩) (hn:es.length=n) (hp:es.all AV.isP=true) (he:(e == 4000000000)=false:=by rfl):RetP [(t,none)] (.sl k es) .r st:=by
 subst hn
 refine ⟨.inr rfl,[.ol i g es.length],by simp only [z6,h1],[.sl k es],st.H.set i ⟨e,k,es,g,max fz es.length⟩,?_,rfl⟩
 simp only [yv,pur,ZL,h2,Nat.le_refl,List.take_length,hp,he,and_self,if_true]
def MkOk (G:Nat->AV):Prop:=∀ l:List Pr,l.length<=40->Okl l->PC Tryd.prog G 61 [.sl 2 (l.map pA)] (.sl 2 ((mk l).map pA))
def af (m:List Pr) (k:ByteArray):Option Pr:=m[(le m k).length]?
def fl (m:List Pr) (k:ByteArray):Option Pr:=(le m k).getLast?
section
variable {α:Type} {J K:List α} {o a b y:α}
theorem gR0:(J++o::K)[J.length]? = some o:=by simp
theorem Xq:(J++o::K++[a])[J.length]? = some o:=by simp
theorem Xp:(J++o::K++[a]++[b])[J.length]? = some o:=by simp
theorem sR0:(J++o::K).set J.length y=J++y::K:=by simp
theorem Xg:(J++o::K++[a]).set J.length y=J++y::K++[a]:=by simp
theorem Xf:(J++o::K++[a]++[b]).set J.length y=J++y::K++[a]++[b]:=by simp
theorem lR0:(J++o::K).length=J.length+(K.length+1):=by simp
theorem lR1:(J++o::K++[a]).length=J.length+(K.length+1)+1:=by simp;omega
theorem kR {M:List α} {i:Nat}:(J++o::K++M)[J.length+(K.length+1)+i]? = M[i]?:=by
 have:=ga (L:=J++o::K) (M:=M) (i:=i)
 rwa [lR0] at this
theorem tR {M:List α} {i:Nat}:(J++o::K++M).set (J.length+(K.length+1)+i) y=J++o::K++M.set i y:=by
 have:=sa (L:=J++o::K) (M:=M) (i:=i) (y:=y)
 rwa [lR0] at this
theorem gR1:(J++o::K++[a])[J.length+(K.length+1)]? = some a:=kR (i:=0)
theorem gR2:(J++o::K++[a]++[b])[J.length+(K.length+1)]? = some a:=by rw [List.append_assoc];exact kR (i:=0)
theorem Xo:(J++o::K++[a]++[b])[J.length+(K.length+1)+1]? = some b:=by rw [List.append_assoc];exact kR (i:=1)
theorem sR1:(J++o::K++[a]).set (J.length+(K.length+1)) y=J++o::K++[y]:=tR (i:=0)
theorem sR2:(J++o::K++[a]++[b]).set (J.length+(K.length+1)) y=J++o::K++[y]++[b]:=by simp
theorem Xe:(J++o::K++[a]++[b]).set (J.length+(K.length+1)+1) y=J++o::K++[a]++[y]:=by have h:=tR (J:=J) (K:=K) (o:=o) (M:=[a,b]) (i:=1) (y:=y);simpa using h
end
theorem lasts_drop {l:List Pr} {k:Nat} (h:k < l.length):yr (l.drop k)=if fk (l[k]).1 (l.drop (k+1))=[] then l[k]::yr (l.drop (k+1)) else yr (l.drop (k+1)):=by
 rw [List.drop_eq_getElem_cons h];rfl
theorem sle_at2 {A:List Pr} (h:SLe A) {i j:Nat} (hij:i<=j) (hj:j < A.length):cB (A[i]'(by omega)).1 (A[j]).1<=0:=by
 by_cases e:i=j
 ·subst e;rw [Z1];omega
 ·exact List.pairwise_iff_getElem.1 h i j (by omega) hj (by omega)
theorem lasts_sort {D:List Pr} (h:SLe D) {k:Nat} (hk:k < D.length):fk (D[k]).1 (D.drop (k+1))=[]↔∀ h2:k+1 < D.length,(D[k+1]).1 ≠ (D[k]).1:=by
 rw [fk_none]
 constructor
 ·intro hh h2
  exact hh _ (List.mem_drop_iff_getElem.2 ⟨0,by omega,rfl⟩)
 ·intro hh p hp e
  obtain ⟨i,hi,rfl⟩:=List.mem_drop_iff_getElem.1 hp
  have h2:k+1 < D.length:=by omega
  have g1:=sle_at2 h (i:=k) (j:=k+1) (by omega) h2
  have g2:=sle_at2 h (i:=k+1) (j:=k+1+i) (by omega) (by omega)
  rw [e] at g2
  exact hh h2 (cB_eq g2 g1)
theorem lasts_mk (l:List Pr):yr (zm l)=mk l:=by
 refine eq_mk (le_ne (List.Pairwise.sublist (yB _) (ZA l)) (xQ _)) fun k=>?_
 rw [xc];unfold val;rw [ZI]
set_option maxHeartbeats 8000000 in
theorem make14 (G:Nat->AV) (hS:SymOk G):MkOk G:=by
 intro l h40 hl
 have hlen:=hl.len
 by_cases hs:SLt l
 ·have hi := is11 G l hl true (by simp [hs])
  rw [mk_of hs]
  by_cases h0:l=[]
  ·subst h0
   have hc:=hc_pc rfl (clone27e G) []
   refine xk cop61 ?_
   show W _ _ _ _ ⟨_,_⟩;simp only [A61,YB,YBg,YC,YCg,YE,YFg,YH,YI,YIg,YL,YLg,YM,YMg,YN,YPb,YQ,YS,List.cons_append,List.nil_append,List.length_cons,List.length_nil,Nat.reduceAdd,Nat.reduceSub,List.replicate]
   simp only [List.map_nil] at *
   repeat (first|(with_reducible first|refine Zn ?_|refine Zj ?_|refine zG ?_|refine zH ?_|refine yD ?_|refine y6 ?_)|((with_reducible refine kps 70 ?_ ?_ ?_ ?_);rotate_left 1;rfl;exact hi)|((with_reducible refine khs 71 ?_ ?_ ?_ ?_);rotate_left 2;exact hc)|((with_reducible first|refine ks fun K hK=>?_|refine kd fun K hK=>?_|refine kc fun K hK2 hK hK3=>?_|refine XC fun K hR=>?_|refine YK rfl fun K hR=>?_|refine yL fun K hR=>?_);simp (disch:=omega) only [bg0,bg1,bg2,bg3,bg4,zw,z6,eff,AX.ev,St.put,zY,zW,ap1,zk,simprocAttr,zx,AV.cells,AV.fine,AV.one,Zr,zt,live,zr,rdA,zi,wrA,zR,zu,Zp,z8,Zm,zo,zb,zq,zp,zg,cut,id,ap2,zy,Zq,geB,AOp.cls,AOp.xs,ltB,ltC,Option.toList,List.cons_append,decide_eq_true,decide_eq_false,if_pos,if_neg,List.length_map,Zo,bVb,bVn,eq_self,Bool.and_self,BEq.rfl,not_true_eq_false,gR0,Xq,Xp,sR0,Xg,Xf,lR0,lR1,gR1,gR2,Xo,sR1,sR2,Xe,yP,yJ,yO,yN,yI,yH,ZG];(first|(with_reducible first|(refine hK _ ?_;clear hK K)|(refine hK ?_;clear hK hK3 K hK2)|(refine hK3 ?_;clear hK hK3 K hK2))|((with_reducible refine hR _ ?_ ?_ ?_ ?_);rotate_left 2;rfl;rfl)|((with_reducible refine hR _ ?_);rfl))))
  ·have hc := clone27 G l hl h0 []
   simp only [List.nil_append,List.length_nil] at hc
   refine xk cop61 ?_
   show W _ _ _ _ ⟨_,_⟩;simp only [A61,YB,YBg,YC,YCg,YE,YFg,YH,YI,YIg,YL,YLg,YM,YMg,YN,YPb,YQ,YS,List.cons_append,List.nil_append,List.length_cons,List.length_nil,Nat.reduceAdd,Nat.reduceSub,List.replicate]
   repeat (first|(with_reducible first|refine Zn ?_|refine Zj ?_|refine zG ?_|refine zH ?_|refine yD ?_|refine y6 ?_)|((with_reducible first|refine ks fun K hK=>?_|refine kd fun K hK=>?_|refine kc fun K hK2 hK hK3=>?_);simp (disch:=omega) only [bg0,bg1,bg2,bg3,bg4,zw,z6,eff,AX.ev,St.put,zY,zW,ap1,zk,simprocAttr,zx,AV.cells,AV.fine,AV.one,Zr,zt,live,zr,rdA,zi,wrA,zR,zu,Zp,z8,Zm,zo,zb,zq,zp,zg,cut,id,ap2,zy,Zq,geB,AOp.cls,AOp.xs,ltB,ltC,Option.toList,List.cons_append,decide_eq_true,decide_eq_false,if_pos,if_neg,List.length_map,Zo,bVb,bVn,eq_self,Bool.and_self,BEq.rfl,not_true_eq_false,gR0,Xq,Xp,sR0,Xg,Xf,lR0,lR1,gR1,gR2,Xo,sR1,sR2,Xe,yP,yJ,yO,yN,yI,yH,ZG];(with_reducible first|(refine hK _ ?_;clear hK K)|(refine hK ?_;clear hK hK3 K hK2)|(refine hK3 ?_;clear hK hK3 K hK2)))|((with_reducible refine kps 70 ?_ ?_ ?_ ?_);rotate_left 1;rfl;exact hi)|((with_reducible refine khs 71 ?_ ?_ ?_ ?_);rotate_left 2;exact hc))
   exact ret_frz rfl rfl (by simp) (all_pA _)
 ·have hi := is11 G l hl false (by simp [hs])
  have h0:l ≠ []:=fun e=>hs (by rw [e];exact List.Pairwise.nil)
  have hc:=clone27 G l hl h0 []
  simp only [List.nil_append,List.length_nil] at hc
  have ho:=sort28 G hS l 1 hl h40
  refine xk cop61 ?_
  show W _ _ _ _ ⟨_,_⟩;simp only [A61,YB,YBg,YC,YCg,YE,YFg,YH,YI,YIg,YL,YLg,YM,YMg,YN,YPb,YQ,YS,List.cons_append,List.nil_append,List.length_cons,List.length_nil,Nat.reduceAdd,Nat.reduceSub,List.replicate]
  repeat (first|(with_reducible first|refine Zn ?_|refine Zj ?_|refine Zl ?_|refine ZB ?_|refine zG ?_|refine zH ?_)|((with_reducible first|refine ks fun K hK=>?_|refine kd fun K hK=>?_|refine kc fun K hK2 hK hK3=>?_);simp (disch:=omega) only [bg0,bg1,bg2,bg3,bg4,zw,z6,eff,AX.ev,St.put,zY,zW,ap1,zk,simprocAttr,zx,AV.cells,AV.fine,AV.one,Zr,zt,live,zr,rdA,zi,wrA,zR,zu,Zp,z8,Zm,zo,zb,zq,zp,zg,cut,id,ap2,zy,Zq,geB,AOp.cls,AOp.xs,ltB,ltC,Option.toList,List.cons_append,decide_eq_true,decide_eq_false,if_pos,if_neg,List.length_map,Zo,bVb,bVn,eq_self,Bool.and_self,BEq.rfl,not_true_eq_false,gR0,Xq,Xp,sR0,Xg,Xf,lR0,lR1,gR1,gR2,Xo,sR1,sR2,Xe,yP,yJ,yO,yN,yI,yH,ZG];(with_reducible first|(refine hK _ ?_;clear hK K)|(refine hK ?_;clear hK hK3 K hK2)|(refine hK3 ?_;clear hK hK3 K hK2)))|((with_reducible refine kps 70 ?_ ?_ ?_ ?_);rotate_left 1;rfl;exact hi)|((with_reducible refine khs 71 ?_ ?_ ?_ ?_);rotate_left 2;exact hc)|((with_reducible refine khs 72 ?_ ?_ ?_ ?_);rotate_left 2;exact ho))
  have hml:=lasts_mk l
  have hSl:(zm l).length=l.length:=ZO
  have hSle:=ZA l
  rw [<- hml]
  generalize hD:zm l=D at *
  rw [<- hSl]
  refine Yz [4,5,6,17,18,19,20,21,22,23,24,25,26,27,28,29,30,31,32,33,34,35,36,37,38,39,40,41,42] (fun k v H=>v 17=I k/\∃ pre:List Pr,yr D=pre++yr (D.drop k)/\((pre=[]/\v 4 = .nl 2/\∃ K,H=rw0 D 1::K)\/(pre ≠ []/\∃ (J K:Hp) (g:Nat),v 4 = .ol (J.length+1) g pre.length/\H=rw0 D 1::(J++⟨62,2,pre.map pA,g,0⟩::K)))) D.length ⟨rfl,[],rfl,.inl ⟨rfl,rfl,[],rfl⟩⟩ ?_ ?_
  ·rintro k v H hk ⟨h17, pre, hla, hor⟩
   rw [lasts_drop hk] at hla
   have hkk:=lasts_sort hSle hk
   have hpl:pre.length<=1000000:=by
    have h2:=(yB D).length_le
    rw [hla] at h2
    simp at h2
    omega
   have tp:(pre.map pA).take pre.length=pre.map pA:=List.take_of_length_le (by simp)
   have hend:((k:Int)+1=(D.length:Int))=(k+1=D.length):=by simp;omega
   have hsn:(pre++[D[k]]).map pA=pre.map pA++[.agg [S (D[k]).1,S (D[k]).2]]:=by simp [pA]
   have hne:pre++[D[k]] ≠ []:=by simp
   have hDl:D.length<=1000000:=by omega
   clear hi hc ho hD hml hSl hSle hl hlen h40 h0 hs
   rcases hor with ⟨rfl,h4,K,rfl⟩|⟨hp,J,K,g,h4,rfl⟩
   ·by_cases hr : fk (D[k]).1 (D.drop (k + 1)) = []
    ·rw [if_pos hr] at hla
     have h2:=hkk.1 hr
     by_cases he:k+1=D.length
     ·simp only [mix,Zv,Zw,Zy,simprocAttr,if_true,if_false,h17,h4]
      repeat (first|(with_reducible first|refine Zn ?_|refine Zj ?_|refine Z5 ?_|refine Zl ?_|refine ZB ?_|refine zG ?_|refine ZV ?_|refine zH ?_|refine Zk ?_)|((with_reducible first|refine ks fun K hK=>?_|refine kd fun K hK=>?_|refine kc fun K hK2 hK hK3=>?_);simp (disch:=omega) only [bg0,bg1,bg2,bg3,bg4,zw,z6,eff,AX.ev,St.put,zY,zW,ap1,zk,simprocAttr,zx,AV.cells,AV.fine,AV.one,Zr,zt,live,zr,rdA,zi,wrA,zR,zu,Zp,z8,Zm,zo,zb,zq,zp,zg,cut,id,ap2,zy,Zq,geB,AOp.cls,AOp.xs,ltB,ltC,Option.toList,List.cons_append,decide_eq_true,decide_eq_false,if_pos,if_neg,List.length_map,Zo,bVb,bVn,eq_self,Bool.and_self,BEq.rfl,not_true_eq_false,gR0,Xq,Xp,sR0,Xg,Xf,lR0,lR1,gR1,gR2,Xo,sR1,sR2,Xe,yP,yJ,yO,yN,yI,yH,ZG,hend,he,tp];(with_reducible first|(refine hK _ ?_;clear hK K)|(refine hK ?_;clear hK hK3 K hK2)|(refine hK3 ?_;clear hK hK3 K hK2)))|((first|((with_reducible refine kgd_u ?_ ?_ ?_);rotate_left 1;rfl)|((with_reducible refine kgd_f ?_ ?_ ?_);rotate_left 1;rfl));rotate_left 1;(focus (simp (disch:=omega) only [bg0,bg1,bg2,bg3,bg4,zw,z6,eff,AX.ev,St.put,zY,zW,ap1,zk,simprocAttr,zx,AV.cells,AV.fine,AV.one,Zr,zt,live,zr,rdA,zi,wrA,zR,zu,Zp,z8,Zm,zo,zb,zq,zp,zg,cut,id,ap2,zy,Zq,geB,AOp.cls,AOp.xs,ltB,ltC,Option.toList,List.cons_append,decide_eq_true,decide_eq_false,if_pos,if_neg,List.length_map,Zo,bVb,bVn,eq_self,Bool.and_self,BEq.rfl,not_true_eq_false,gR0,Xq,Xp,sR0,Xg,Xf,lR0,lR1,gR1,gR2,Xo,sR1,sR2,Xe,yP,yJ,yO,yN,yI,yH,ZG,hend,he,tp];try rfl))))
      exact ⟨rfl,rfl,[D[k]],by rw [hla];rfl,.inr ⟨by simp,K++[rw0 [D[k]] 0]++[rw0 [D[k]] 0],[],0,by show AV.ol _ _ _=AV.ol _ _ _;simp,rfl⟩⟩
     ·have h3 := h2 (by omega)
      simp only [mix,Zv,Zw,Zy,simprocAttr,if_true,if_false,h17,h4]
      repeat (first|(with_reducible first|refine Zn ?_|refine Zj ?_|refine Z5 ?_|refine Zl ?_|refine ZB ?_|refine zG ?_|refine ZV ?_|refine zH ?_|refine Zk ?_)|((with_reducible refine wU ?_ ?_);rfl)|((with_reducible first|refine ks fun K hK=>?_|refine kd fun K hK=>?_|refine kc fun K hK2 hK hK3=>?_);simp (disch:=omega) only [bg0,bg1,bg2,bg3,bg4,zw,z6,eff,AX.ev,St.put,zY,zW,ap1,zk,simprocAttr,zx,AV.cells,AV.fine,AV.one,Zr,zt,live,zr,rdA,zi,wrA,zR,zu,Zp,z8,Zm,zo,zb,zq,zp,zg,cut,id,ap2,zy,Zq,geB,AOp.cls,AOp.xs,ltB,ltC,Option.toList,List.cons_append,decide_eq_true,decide_eq_false,if_pos,if_neg,List.length_map,Zo,bVb,bVn,eq_self,Bool.and_self,BEq.rfl,not_true_eq_false,gR0,Xq,Xp,sR0,Xg,Xf,lR0,lR1,gR1,gR2,Xo,sR1,sR2,Xe,yP,yJ,yO,yN,yI,yH,ZG,hend,he,h3,tp];(with_reducible first|(refine hK _ ?_;clear hK K)|(refine hK ?_;clear hK hK3 K hK2)|(refine hK3 ?_;clear hK hK3 K hK2))))
      exact ⟨rfl,rfl,[D[k]],by rw [hla];rfl,.inr ⟨by simp,K++[rw0 [D[k]] 0]++[rw0 [D[k]] 0],[],0,by show AV.ol _ _ _=AV.ol _ _ _;simp,rfl⟩⟩
    ·rw [if_neg hr] at hla
     have hex:∃ h2:k+1 < D.length,(D[k+1]).1=(D[k]).1:=by
      by_cases h2:k+1 < D.length
      ·refine ⟨h2, ?_⟩
       by_cases h3:(D[k+1]).1=(D[k]).1
       ·exact h3
       ·exact absurd (hkk.2 fun _=>h3) hr
      ·exact absurd (hkk.2 fun h=>absurd h h2) hr
     obtain ⟨h2,h3⟩:=hex
     have he:¬ (k+1=D.length):=by omega
     simp only [mix,Zv,Zw,Zy,simprocAttr,if_true,if_false,h17,h4]
     repeat (first|(with_reducible first|refine Zn ?_|refine Zj ?_|refine Z5 ?_|refine Zl ?_|refine ZB ?_|refine zG ?_|refine ZV ?_|refine zH ?_|refine Zk ?_)|((with_reducible refine wU ?_ ?_);rfl)|((with_reducible first|refine ks fun K hK=>?_|refine kd fun K hK=>?_|refine kc fun K hK2 hK hK3=>?_);simp (disch:=omega) only [bg0,bg1,bg2,bg3,bg4,zw,z6,eff,AX.ev,St.put,zY,zW,ap1,zk,simprocAttr,zx,AV.cells,AV.fine,AV.one,Zr,zt,live,zr,rdA,zi,wrA,zR,zu,Zp,z8,Zm,zo,zb,zq,zp,zg,cut,id,ap2,zy,Zq,geB,AOp.cls,AOp.xs,ltB,ltC,Option.toList,List.cons_append,decide_eq_true,decide_eq_false,if_pos,if_neg,List.length_map,Zo,bVb,bVn,eq_self,Bool.and_self,BEq.rfl,not_true_eq_false,gR0,Xq,Xp,sR0,Xg,Xf,lR0,lR1,gR1,gR2,Xo,sR1,sR2,Xe,yP,yJ,yO,yN,yI,yH,ZG,hend,he,h3,tp];(with_reducible first|(refine hK _ ?_;clear hK K)|(refine hK ?_;clear hK hK3 K hK2)|(refine hK3 ?_;clear hK hK3 K hK2))))
     exact ⟨rfl,rfl,[],hla,.inl ⟨rfl,rfl,_,rfl⟩⟩
   ·by_cases hr : fk (D[k]).1 (D.drop (k + 1)) = []
    ·rw [if_pos hr] at hla
     have h2:=hkk.1 hr
     by_cases he:k+1=D.length
     ·simp only [mix,Zv,Zw,Zy,simprocAttr,if_true,if_false,h17,h4]
      repeat (first|(with_reducible first|refine Zn ?_|refine Zj ?_|refine Z5 ?_|refine Zl ?_|refine ZB ?_|refine zG ?_|refine ZV ?_|refine zH ?_|refine Zk ?_)|((with_reducible first|refine ks fun K hK=>?_|refine kd fun K hK=>?_|refine kc fun K hK2 hK hK3=>?_);simp (disch:=omega) only [bg0,bg1,bg2,bg3,bg4,zw,z6,eff,AX.ev,St.put,zY,zW,ap1,zk,simprocAttr,zx,AV.cells,AV.fine,AV.one,Zr,zt,live,zr,rdA,zi,wrA,zR,zu,Zp,z8,Zm,zo,zb,zq,zp,zg,cut,id,ap2,zy,Zq,geB,AOp.cls,AOp.xs,ltB,ltC,Option.toList,List.cons_append,decide_eq_true,decide_eq_false,if_pos,if_neg,List.length_map,Zo,bVb,bVn,eq_self,Bool.and_self,BEq.rfl,not_true_eq_false,gR0,Xq,Xp,sR0,Xg,Xf,lR0,lR1,gR1,gR2,Xo,sR1,sR2,Xe,yP,yJ,yO,yN,yI,yH,ZG,hend,he,tp];(with_reducible first|(refine hK _ ?_;clear hK K)|(refine hK ?_;clear hK hK3 K hK2)|(refine hK3 ?_;clear hK hK3 K hK2)))|((first|((with_reducible refine kgd_u ?_ ?_ ?_);rotate_left 1;rfl)|((with_reducible refine kgd_f ?_ ?_ ?_);rotate_left 1;rfl));rotate_left 1;(focus (simp (disch:=omega) only [bg0,bg1,bg2,bg3,bg4,zw,z6,eff,AX.ev,St.put,zY,zW,ap1,zk,simprocAttr,zx,AV.cells,AV.fine,AV.one,Zr,zt,live,zr,rdA,zi,wrA,zR,zu,Zp,z8,Zm,zo,zb,zq,zp,zg,cut,id,ap2,zy,Zq,geB,AOp.cls,AOp.xs,ltB,ltC,Option.toList,List.cons_append,decide_eq_true,decide_eq_false,if_pos,if_neg,List.length_map,Zo,bVb,bVn,eq_self,Bool.and_self,BEq.rfl,not_true_eq_false,gR0,Xq,Xp,sR0,Xg,Xf,lR0,lR1,gR1,gR2,Xo,sR1,sR2,Xe,yP,yJ,yO,yN,yI,yH,ZG,hend,he,tp];try rfl))))
      exact ⟨rfl,rfl,pre++[D[k]],by rw [hla];simp,.inr ⟨by simp,J,K++[rw0 [D[k]] 0]++[rw0 [D[k]] 0],g+1,by show AV.ol _ _ _=AV.ol _ _ _;simp,by rw [hsn];simp [pA]⟩⟩
     ·have h3 := h2 (by omega)
      simp only [mix,Zv,Zw,Zy,simprocAttr,if_true,if_false,h17,h4]
      repeat (first|(with_reducible first|refine Zn ?_|refine Zj ?_|refine Z5 ?_|refine Zl ?_|refine ZB ?_|refine zG ?_|refine ZV ?_|refine zH ?_|refine Zk ?_)|((with_reducible refine wU ?_ ?_);rfl)|((with_reducible first|refine ks fun K hK=>?_|refine kd fun K hK=>?_|refine kc fun K hK2 hK hK3=>?_);simp (disch:=omega) only [bg0,bg1,bg2,bg3,bg4,zw,z6,eff,AX.ev,St.put,zY,zW,ap1,zk,simprocAttr,zx,AV.cells,AV.fine,AV.one,Zr,zt,live,zr,rdA,zi,wrA,zR,zu,Zp,z8,Zm,zo,zb,zq,zp,zg,cut,id,ap2,zy,Zq,geB,AOp.cls,AOp.xs,ltB,ltC,Option.toList,List.cons_append,decide_eq_true,decide_eq_false,if_pos,if_neg,List.length_map,Zo,bVb,bVn,eq_self,Bool.and_self,BEq.rfl,not_true_eq_false,gR0,Xq,Xp,sR0,Xg,Xf,lR0,lR1,gR1,gR2,Xo,sR1,sR2,Xe,yP,yJ,yO,yN,yI,yH,ZG,hend,he,h3,tp];(with_reducible first|(refine hK _ ?_;clear hK K)|(refine hK ?_;clear hK hK3 K hK2)|(refine hK3 ?_;clear hK hK3 K hK2))))
      exact ⟨rfl,rfl,pre++[D[k]],by rw [hla];simp,.inr ⟨by simp,J,K++[rw0 [D[k]] 0]++[rw0 [D[k]] 0],g+1,by show AV.ol _ _ _=AV.ol _ _ _;simp,by rw [hsn];simp [pA]⟩⟩
    ·rw [if_neg hr] at hla
     have hex:∃ h2:k+1 < D.length,(D[k+1]).1=(D[k]).1:=by
      by_cases h2:k+1 < D.length
      ·refine ⟨h2, ?_⟩
       by_cases h3:(D[k+1]).1=(D[k]).1
       ·exact h3
       ·exact absurd (hkk.2 fun _=>h3) hr
      ·exact absurd (hkk.2 fun h=>absurd h h2) hr
     obtain ⟨h2,h3⟩:=hex
     have he:¬ (k+1=D.length):=by omega
     simp only [mix,Zv,Zw,Zy,simprocAttr,if_true,if_false,h17,h4]
     repeat (first|(with_reducible first|refine Zn ?_|refine Zj ?_|refine Z5 ?_|refine Zl ?_|refine ZB ?_|refine zG ?_|refine ZV ?_|refine zH ?_|refine Zk ?_)|((with_reducible refine wU ?_ ?_);rfl)|((with_reducible first|refine ks fun K hK=>?_|refine kd fun K hK=>?_|refine kc fun K hK2 hK hK3=>?_);simp (disch:=omega) only [bg0,bg1,bg2,bg3,bg4,zw,z6,eff,AX.ev,St.put,zY,zW,ap1,zk,simprocAttr,zx,AV.cells,AV.fine,AV.one,Zr,zt,live,zr,rdA,zi,wrA,zR,zu,Zp,z8,Zm,zo,zb,zq,zp,zg,cut,id,ap2,zy,Zq,geB,AOp.cls,AOp.xs,ltB,ltC,Option.toList,List.cons_append,decide_eq_true,decide_eq_false,if_pos,if_neg,List.length_map,Zo,bVb,bVn,eq_self,Bool.and_self,BEq.rfl,not_true_eq_false,gR0,Xq,Xp,sR0,Xg,Xf,lR0,lR1,gR1,gR2,Xo,sR1,sR2,Xe,yP,yJ,yO,yN,yI,yH,ZG,hend,he,h3,tp];(with_reducible first|(refine hK _ ?_;clear hK K)|(refine hK ?_;clear hK hK3 K hK2)|(refine hK3 ?_;clear hK hK3 K hK2))))
     exact ⟨rfl,rfl,pre,hla,.inr ⟨hp,J,K++[rw0 [D[k]] 0],g,rfl,by simp [pA]⟩⟩
  ·rintro v H ⟨h17, pre, hla, hor⟩
   rw [List.drop_length] at hla
   have hla2:yr D=pre:=by rw [hla];simp [yr]
   rw [hla2]
   rcases hor with ⟨rfl,h4,K,rfl⟩|⟨hp,J,K,g,h4,rfl⟩
   ·simp only [mix,Zv,Zw,Zy,simprocAttr,if_true,if_false,h17,h4]
    repeat (first|(with_reducible first|refine Zn ?_|refine Zj ?_|refine ZY ?_|refine zG ?_|refine zH ?_|refine ZC ?_|refine Zu ?_|refine yD ?_)|((with_reducible first|refine ks fun K hK=>?_|refine kd fun K hK=>?_|refine kc fun K hK2 hK hK3=>?_|refine XC fun K hR=>?_|refine YK rfl fun K hR=>?_|refine yL fun K hR=>?_);simp (disch:=omega) only [bg0,bg1,bg2,bg3,bg4,zw,z6,eff,AX.ev,St.put,zY,zW,ap1,zk,simprocAttr,zx,AV.cells,AV.fine,AV.one,Zr,zt,live,zr,rdA,zi,wrA,zR,zu,Zp,z8,Zm,zo,zb,zq,zp,zg,cut,id,ap2,zy,Zq,geB,AOp.cls,AOp.xs,ltB,ltC,Option.toList,List.cons_append,decide_eq_true,decide_eq_false,if_pos,if_neg,List.length_map,Zo,bVb,bVn,eq_self,Bool.and_self,BEq.rfl,not_true_eq_false,gR0,Xq,Xp,sR0,Xg,Xf,lR0,lR1,gR1,gR2,Xo,sR1,sR2,Xe,yP,yJ,yO,yN,yI,yH,ZG];(first|(with_reducible first|(refine hK _ ?_;clear hK K)|(refine hK ?_;clear hK hK3 K hK2)|(refine hK3 ?_;clear hK hK3 K hK2))|((with_reducible refine hR _ ?_ ?_ ?_ ?_);rotate_left 2;rfl;rfl)|((with_reducible refine hR _ ?_);rfl))))
   ·simp only [mix,Zv,Zw,Zy,simprocAttr,if_true,if_false,h17,h4]
    repeat (first|(with_reducible first|refine Zn ?_|refine Zj ?_|refine ZY ?_|refine zG ?_|refine zH ?_|refine ZC ?_|refine Zu ?_|refine yD ?_)|((with_reducible first|refine ks fun K hK=>?_|refine kd fun K hK=>?_|refine kc fun K hK2 hK hK3=>?_);simp (disch:=omega) only [bg0,bg1,bg2,bg3,bg4,zw,z6,eff,AX.ev,St.put,zY,zW,ap1,zk,simprocAttr,zx,AV.cells,AV.fine,AV.one,Zr,zt,live,zr,rdA,zi,wrA,zR,zu,Zp,z8,Zm,zo,zb,zq,zp,zg,cut,id,ap2,zy,Zq,geB,AOp.cls,AOp.xs,ltB,ltC,Option.toList,List.cons_append,decide_eq_true,decide_eq_false,if_pos,if_neg,List.length_map,Zo,bVb,bVn,eq_self,Bool.and_self,BEq.rfl,not_true_eq_false,gR0,Xq,Xp,sR0,Xg,Xf,lR0,lR1,gR1,gR2,Xo,sR1,sR2,Xe,yP,yJ,yO,yN,yI,yH,ZG];(with_reducible first|(refine hK _ ?_;clear hK K)|(refine hK ?_;clear hK hK3 K hK2)|(refine hK3 ?_;clear hK hK3 K hK2))))
    exact ret_frz rfl (List.getElem?_cons_succ.trans gR0) (by simp) (all_pA _)
theorem Xc {A:List Pr} (h:SLe A) {i j:Nat} (hij:i<=j) (hj:j < A.length):cB (A[i]'(by omega)).1 (A[j]).1<=0:=by
 by_cases e:i=j
 ·subst e;rw [Z1];omega
 ·exact List.pairwise_iff_getElem.1 h i j (by omega) hj (by omega)
theorem hc_row {G:Nat->AV} {f:FuncId} {xs:List AV} {D D' E E':List Pr} {g:Nat} {r:AV} (h:HC Tryd.prog G f xs [rw0 D g] r [rw0 E g]) (e1:D=D') (e2:E=E'):HC Tryd.prog G f xs [rw0 D' g] r [rw0 E' g]:=by
 subst e1;subst e2;exact h
theorem okl_perm {D D':List Pr} (h:Okl D) (hl:D'.length=D.length) (hm:∀ x ∈ D',x ∈ D):Okl D':=⟨by rw [hl];exact h.len,fun p hp=>h.sz p (hm p hp)⟩
theorem mem_take_at {L:List Pr} {n:Nat} {x:Pr} (h:x ∈ L.take n):∃ i,∃ hi:i < L.length,i < n/\L[i]=x:=by
 obtain ⟨i,hi,rfl⟩:=List.mem_take_iff_getElem.1 h
 exact ⟨i,by omega,by omega,rfl⟩
theorem mem_drop_at {L:List Pr} {n:Nat} {x:Pr} (h:x ∈ L.drop n):∃ i,∃ hi:i < L.length,n<=i/\L[i]=x:=by
 obtain ⟨i,hi,rfl⟩:=List.mem_drop_iff_getElem.1 h
 exact ⟨n+i,by omega,by omega,rfl⟩
theorem sym_cut {A B : List Pr} {a s mid m : Nat} (sA : SLe A) (sB : SLe B) (h1 : a <= s) (h2 : s <= m) (h3 : s <= mid) (hA : a + A.length = m) (hb : mid <= s + B.length)
  (hlo:a < s->mid < s+B.length->∀ x y,A[s - 1 - a]? = some x->B[mid - s]? = some y->¬ cB y.1 x.1 < 0)
  (hhi:s < m->s < mid->∀ x y,A[s - a]? = some x->B[mid - 1 - s]? = some y->cB y.1 x.1 < 0) :
  zm (A++B)=zm (A.take (s - a)++B.take (mid - s))++zm (A.drop (s - a)++B.drop (mid - s))/\(∀ x ∈ A.drop (s - a),∀ y ∈ B.take (mid - s),cB y.1 x.1 < 0):=by
 have g1:∀ x ∈ A.drop (s - a),∀ y ∈ B.take (mid - s),cB y.1 x.1 < 0:=fun x hx y hy=>by
  obtain ⟨i,hi,hi2,rfl⟩:=mem_drop_at hx
  obtain ⟨j,hj,hj2,rfl⟩:=mem_take_at hy
  have k1:s - a < A.length:=by omega
  have k2:mid - 1 - s < B.length:=by omega
  have:=hhi (by omega) (by omega) _ _ (List.getElem?_eq_getElem k1) (List.getElem?_eq_getElem k2)
  have c1:=Xc sA (i:=s - a) (j:=i) (by omega) hi
  have c2:=Xc sB (i:=j) (j:=mid - 1 - s) (by omega) k2
  exact cB_lt1 (cB_lt2 c2 this) c1
 refine ⟨?_,g1⟩
 have e1:=List.take_append_drop (s - a) A
 have e2:=List.take_append_drop (mid - s) B
 have:=ssort_merge (A1:=A.take (s - a)) (A2:=A.drop (s - a)) (B1:=B.take (mid - s)) (B2:=B.drop (mid - s)) (by rw [e1];exact sA) (by rw [e2];exact sB) g1 (fun x hx y hy=>by
  obtain ⟨i,hi,hi2,rfl⟩:=mem_take_at hx
  obtain ⟨j,hj,hj2,rfl⟩:=mem_drop_at hy
  have k1:s - 1 - a < A.length:=by omega
  have k2:mid - s < B.length:=by omega
  have:=hlo (by omega) (by omega) _ _ (List.getElem?_eq_getElem k1) (List.getElem?_eq_getElem k2)
  have c1:=Xc sA (i:=i) (j:=s - 1 - a) (by omega) k1
  have c2:=Xc sB (i:=mid - s) (j:=j) (by omega) hj
  refine wZ c1 (wZ ?_ c2)
  rw [yA (B[mid - s]).1];omega)
 rwa [e1,e2] at this
theorem ssort_nil1 {X Y:List Pr} (h:X=[]\/Y=[]) (hX:SLe X) (hY:SLe Y):zm (X++Y)=X++Y:=by
 rcases h with rfl|rfl
 ·exact X3 hY
 ·rw [List.append_nil];exact X3 hX
theorem sym_all {G : Nat -> AV} {g n : Nat} {P A B R : List Pr} {N a m b s mid e : Nat}
  (ih:∀ (P A B R:List Pr) (N a m b:Nat),A.length+B.length<=n->(P++(A++(B++R))).length=N->P.length=a->a+A.length=m->m+B.length=b->0 < A.length->0 < B.length->SLe A->SLe B->Okl (P++(A++(B++R))) ->
   HC Tryd.prog G 88 [.ol 0 g N,I a,I m,I b,cF] [rw0 (P++(A++(B++R))) g] (.tup []) [rw0 (P++(zm (A++B)++R)) g])
  (hn:A.length+B.length<=n+1) (hN:(P++(A++(B++R))).length=N) (hP:P.length=a) (hA:a+A.length=m) (hB:m+B.length=b) (sA:SLe A) (sB:SLe B) (hok:Okl (P++(A++(B++R))))
  (h1:a<=s) (h2:s<=m) (h3:s<=mid) (hb:mid<=s+B.length) (he:e+s=mid+m) (hmb:mid < b) (ham:a < mid)
  (hlo:a < s->mid < s+B.length->∀ x y,A[s - 1 - a]? = some x->B[mid - s]? = some y->¬ cB y.1 x.1 < 0)
  (hhi:s < m->s < mid->∀ x y,A[s - a]? = some x->B[mid - 1 - s]? = some y->cB y.1 x.1 < 0) :
  ∃ D1 D2 D3:List Pr,D3=P++(zm (A++B)++R)/\D1.length=N/\D2.length=N /\
   (s < m->m < e->HC Tryd.prog G 91 [.ol 0 g N,I s,I m,I e,cF] [rw0 (P++(A++(B++R))) g] (.tup []) [rw0 D1 g])/\(¬ (s < m/\m < e)->P++(A++(B++R))=D1) /\
   (a < s->s < mid->HC Tryd.prog G 88 [.ol 0 g N,I a,I s,I mid,cF] [rw0 D1 g] (.tup []) [rw0 D2 g])/\(¬ (a < s/\s < mid)->D1=D2) /\
   (mid < e->e < b->HC Tryd.prog G 88 [.ol 0 g N,I mid,I e,I b,cF] [rw0 D2 g] (.tup []) [rw0 D3 g])/\(¬ (mid < e/\e < b)->D2=D3):=by
 obtain ⟨c1,c2⟩:=sym_cut sA sB h1 h2 h3 hA hb hlo hhi
 have eA:=List.take_append_drop (s - a) A
 have eB:=List.take_append_drop (mid - s) B
 have lA1:(A.take (s - a)).length=s - a:=by simp;omega
 have lA2:(A.drop (s - a)).length=m - s:=by simp;omega
 have lB1:(B.take (mid - s)).length=mid - s:=by simp;omega
 have lB2:(B.drop (mid - s)).length=b - e:=by simp;omega
 have sA1:SLe (A.take (s - a)):=List.Pairwise.sublist (List.take_sublist ..) sA
 have sA2:SLe (A.drop (s - a)):=List.Pairwise.sublist (List.drop_sublist ..) sA
 have sB1:SLe (B.take (mid - s)):=List.Pairwise.sublist (List.take_sublist ..) sB
 have sB2:SLe (B.drop (mid - s)):=List.Pairwise.sublist (List.drop_sublist ..) sB
 rw [c1]
 generalize A.take (s - a)=A1 at *
 generalize A.drop (s - a)=A2 at *
 generalize B.take (mid - s)=B1 at *
 generalize B.drop (mid - s)=B2 at *
 clear hlo hhi c1
 subst eA
 subst eB
 simp only [List.length_append] at hn hA hB hN hb
 have hm1:∀ x,x ∈ P++(A1++(B1++(A2++(B2++R))))->x ∈ P++((A1++A2)++((B1++B2)++R)):=fun x hx=>by
  simp only [List.mem_append] at hx ⊢
  rcases hx with h|h|h|h|h|h<;>simp [h]
 have hm2:∀ x,x ∈ (P++zm (A1++B1))++(A2++(B2++R))->x ∈ P++((A1++A2)++((B1++B2)++R)):=fun x hx=>by
  simp only [List.mem_append,ssort_mem] at hx ⊢
  rcases hx with (h|h|h)|h|h|h<;>simp [h]
 have ok1:Okl (P++(A1++(B1++(A2++(B2++R))))):=okl_perm hok (by simp;omega) hm1
 have ok2:Okl ((P++zm (A1++B1))++(A2++(B2++R))):=okl_perm hok zq18 hm2
 refine ⟨P++(A1++(B1++(A2++(B2++R)))),P++(zm (A1++B1)++(A2++(B2++R))),_,rfl,by simp;omega,by simp [ZO];omega,fun k1 k2=>?_,fun hk=>?_,fun k1 k2=>?_,fun hk=>?_,fun k1 k2=>?_,fun hk=>?_⟩
 ·have hr := rot_list (P := P ++ A1) (A := A2) (B := B1) (R := B2 ++ R)
  have e1:(P++A1).length=s:=by simp;omega
  have e2:(P++A1).length+A2.length=m:=by simp;omega
  have e3:(P++A1).length+A2.length+B1.length=e:=by simp;omega
  rw [e3,e2,e1] at hr
  have hlN:(P++(A1++A2++(B1++B2++R))).length=N:=by simp;omega
  have:=rot45 G (P++(A1++A2++(B1++B2++R))) g s m e hok.len k1 k2 (by rw [hlN];omega) cF
  rw [hlN] at this
  refine hc_row this rfl ?_
  have e4:P++(A1++A2++(B1++B2++R))=P++A1++(A2++(B1++(B2++R))):=by simp
  rw [e4,hr];simp
 ·have : A2 = [] \/ B1 = [] := by
   by_cases hh:s < m
   ·right;exact List.length_eq_zero_iff.1 (by omega)
   ·left;exact List.length_eq_zero_iff.1 (by omega)
  rcases this with rfl|rfl<;>simp
 ·exact ih P A1 B1 (A2++(B2++R)) N a s mid (by omega) (by simp;omega) hP (by omega) (by omega) (by omega) (by omega) sA1 sB1 ok1
 ·rw [ssort_nil1 _ sA1 sB1]
  ·simp
  ·by_cases hh : a < s
   ·right;exact List.length_eq_zero_iff.1 (by omega)
   ·left;exact List.length_eq_zero_iff.1 (by omega)
 ·have := ih (P ++ zm (A1 ++ B1)) A2 B2 R N mid e b (by omega) (by simp [ZO]; omega) (by simp [ZO]; omega) (by omega) (by omega) (by omega) (by omega) sA2 sB2 ok2
  exact hc_row this (by simp) (by simp)
 ·rw [ssort_nil1 (X := A2) _ sA2 sB2]
  ·simp
  ·by_cases hh : mid < e
   ·right;exact List.length_eq_zero_iff.1 (by omega)
   ·left;exact List.length_eq_zero_iff.1 (by omega)
theorem eVu {H:Hp} {k:KK} {n:Nat} (h:n<=9223372036854775807) (hk:k (.v (.int .u64 (n:Int))) H):ObE ((ap1 (fun v=>zh Tryd.prog (convert 3 103 v)) (.v (.int .i64 (n:Int)))).map (·,H)) k :=
 ⟨_,_,by simp only [ap1,zW,cVu (show (0:Int)<=(n:Int) by omega) (show (n:Int)<=9223372036854775807 by omega)];rfl,hk⟩
theorem eVi {H:Hp} {k:KK} {n:Nat} (h:n<=9223372036854775807) (hk:k (.v (.int .i64 (n:Int))) H):ObE ((ap1 (fun v=>zh Tryd.prog (convert 103 3 v)) (.v (.int .u64 (n:Int)))).map (·,H)) k :=
 ⟨_,_,by simp only [ap1,zW,cVi (show (0:Int)<=(n:Int) by omega) (show (n:Int)<=9223372036854775807 by omega)];rfl,hk⟩
theorem eShr {H:Hp} {k:KK} {n:Nat} {t:TypeId} {xo yo:Operand} (hk:k (.v (.int .u64 ((n / 2:Nat):Int))) H):ObE ((zY Tryd.prog H .shr t false xo yo (.v (.int .u64 (n:Int))) (.v (.int .u64 1))).map (·,H)) k:=by
 have:=YJ (P:=Tryd.prog) (t:=t) (xo:=xo) (yo:=yo) (i:=n) (j:=0)
 rw [show ((n:Int)+((0:Nat):Int))=(n:Int) by simp,Nat.add_zero] at this
 exact ⟨_,_,by simp only [zY,zW,this,Bool.false_eq_true,if_false];rfl,hk⟩
set_option maxHeartbeats 40000000 in
theorem sym44 (G : Nat -> AV) (g : Nat) : ∀ (n : Nat) (P A B R : List Pr) (N a m b : Nat), A.length + B.length <= n -> (P ++ (A ++ (B ++ R))).length = N -> P.length = a -> a + A.length = m -> m + B.length = b -> 0 < A.length -> 0 < B.length -> SLe A -> SLe B -> Okl (P ++ (A ++ (B ++ R))) ->
  HC Tryd.prog G 88 [.ol 0 g N,I a,I m,I b,cF] [rw0 (P++(A++(B++R))) g] (.tup []) [rw0 (P++(zm (A++B)++R)) g]
 | 0,P,A,B,R,N,a,m,b,hn,_,_,_,_,hA0,_,_,_,_=>by omega
 | n+1,P,A,B,R,N,a,m,b,hn,hN,hP,hA,hB,hA0,hB0,sA,sB,hok=>by
  by_cases hA1:A.length=1
  ·obtain ⟨x, rfl⟩ := List.length_eq_one_iff.1 hA1
   exact symL G g P B R x N a m b hN hP (by simpa using hA) hB sB hok
  by_cases hB1:B.length=1
  ·obtain ⟨x, rfl⟩ := List.length_eq_one_iff.1 hB1
   exact symR G g P A R x N a m b hN hP hA (by omega) (by simpa using hB) sA hok
  have hlen:=hok.len
  rw [hN] at hlen
  have hbN:b<=N:=by rw [<- hN];simp;omega
  have hsA:∀ p ∈ A,p.1.size<=9223372036854775807:=fun p hp=>(hok.sz p (by simp [hp])).1
  have hsB:∀ p ∈ B,p.1.size<=9223372036854775807:=fun p hp=>(hok.sz p (by simp [hp])).1
  obtain ⟨mid,hmid⟩:∃ mid,mid=(a+b) / 2:=⟨_,rfl⟩
  obtain ⟨s0,hs0⟩:∃ s0,s0=if mid < m then mid+m - b else a:=⟨_,rfl⟩
  obtain ⟨r0,hr0⟩:∃ r0,r0=if mid < m then mid else m:=⟨_,rfl⟩
  have hsr:a<=s0/\s0<=r0/\r0<=m/\r0<=mid/\mid+m<=b+s0/\(s0=a\/mid+m=b+s0)/\(r0=m\/r0=mid)/\mid < b/\a < mid:=by
   rw [hs0,hr0];split<;>omega
  obtain ⟨sr1,sr2,sr3,sr4,sr5,sr6,sr7,sr8,sr9⟩:=hsr
  have ema:¬ ((m:Int) - (a:Int)=1):=by omega
  have ebm:¬ ((b:Int) - (m:Int)=1):=by omega
  have hm:=hmid.symm
  -- the two places that are looked at
  have hq:∀ c,s0<=c->c < r0->∃ x y:Pr,A[c - a]? = some x/\B[mid - 1 - c]? = some y/\((P++(A++(B++R))).map pA)[c]? = some (.agg [S x.1,S x.2])/\((P++(A++(B++R))).map pA)[mid+m - 1 - c]? = some (.agg [S y.1,S y.2])/\x.1.size<=9223372036854775807/\y.1.size<=9223372036854775807:=fun c c1 c2=>by
   have i1:c - a < A.length:=by omega
   have i2:mid - 1 - c < B.length:=by omega
   refine ⟨A[c - a],B[mid - 1 - c],List.getElem?_eq_getElem i1,List.getElem?_eq_getElem i2,pAq ?_,pAq ?_,hsA _ (List.getElem_mem i1),hsB _ (List.getElem_mem i2)⟩
   ·have := gdA (P := P) (A := A) (R := B ++ R) (k := c) (by omega) (by omega)
    rw [this];congr 2;omega
   ·have := gdA (P := P ++ A) (A := B) (R := R) (k := mid + m - 1 - c) (by simp; omega) (by simp; omega)
    rw [List.append_assoc] at this
    rw [this];congr 2;simp;omega
  -- of two such the one further on is smaller
  have hmon:∀ c d x y x' y',s0<=c->c<=d->d < r0->A[c - a]? = some x->B[mid - 1 - c]? = some y->A[d - a]? = some x'->B[mid - 1 - d]? = some y'->cB y.1 x.1 < 0->cB y'.1 x'.1 < 0:=fun c d x y x' y' c1 c2 c3 e1 e2 e3 e4 h=>by
   have i1:c - a < A.length:=by omega
   have i2:mid - 1 - c < B.length:=by omega
   have i3:d - a < A.length:=by omega
   have i4:mid - 1 - d < B.length:=by omega
   rw [List.getElem?_eq_getElem i1] at e1
   rw [List.getElem?_eq_getElem i2] at e2
   rw [List.getElem?_eq_getElem i3] at e3
   rw [List.getElem?_eq_getElem i4] at e4
   cases e1;cases e2;cases e3;cases e4
   have g1:=Xc sA (i:=c - a) (j:=d - a) (by omega) i3
   have g2:=Xc sB (i:=mid - 1 - d) (j:=mid - 1 - c) (by omega) i2
   exact cB_lt1 (cB_lt2 g2 h) g1
  have hfin:=fun (s e:Nat) h1 h2 h3 hb he hlo hhi=>sym_all (G:=G) (g:=g) (s:=s) (mid:=mid) (e:=e) (sym44 G g n) hn hN hP hA hB sA sB hok h1 h2 h3 hb he sr8 sr9 hlo hhi
  generalize hD:P++(A++(B++R))=D at *
  generalize hE:P++(zm (A++B)++R)=E at *
  have hb1:mid+m<=2000000:=by omega
  have hAl:m=a+A.length:=hA.symm
  have hBl:b=m+B.length:=hB.symm
  clear hn hP hsA hsB hA0 hB0 hA1 hB1 hlen hok sA sB
  refine ZR cop88 rfl ?_
  repeat' ((conv=>whnf);first|(refine SeqP.go ?_)|((with_reducible refine eVu ?_ ?_);omega)|((with_reducible refine eVi ?_ ?_);omega)|(with_reducible refine eShr ?_)|((refine ObN.mk ?_ ?_);exact zN)|(with_reducible first|refine ObT.tt ?_|refine ObT.ff ?_)|((refine ObB.no ?_ ?_);exact zC)|(with_reducible refine ObB.mk (fun h=>?_) (fun h=>?_))|((with_reducible refine ObI.nn ?_ ?_);omega)|((with_reducible refine ObI.sn ?_ ?_ ?_);omega;omega)|((with_reducible refine ObI.sl ?_ ?_ ?_);omega;omega))
  all_goals
   conv=>whnf
   simp only [hm]
   refine LoopP.go (α:=Nat × Nat) (fun p=>s0<=p.1/\p.1<=p.2/\p.2<=r0/\(∀ c x y,s0<=c->c < p.1->A[c - a]? = some x->B[mid - 1 - c]? = some y->¬ cB y.1 x.1 < 0)/\(∀ c x y,p.2<=c->c < r0->A[c - a]? = some x->B[mid - 1 - c]? = some y->cB y.1 x.1 < 0)) (fun p=>p.2 - p.1) (fun p=>[(20,some (I p.1)),(0,some (I p.2)),(1,none),(125,none),(0,none),(0,none),(0,none),(0,none),(0,none),(0,none),(0,none),(0,none),(0,none),(0,none),(0,none),(0,none),(0,none),(0,none),(0,none),(0,none),(0,none),(0,none),(0,none),(0,none),(0,none),(0,none),(0,none),(0,none),(0,none)]) (fun _=>[rw0 D g]) (s0,r0) ⟨Nat.le_refl _,sr2,Nat.le_refl _,fun c x y h1 h2=>by omega,fun c x y h1 h2=>by omega⟩ (Fg.go ?_ rfl) ?_
   ·have hs1 := hs0
    have hr1:=hr0
    first|rw [if_pos (by omega)] at hs1 hr1|rw [if_neg (by omega)] at hs1 hr1
    clear hs0 hr0
    repeat' ((conv=>whnf);first|((refine ObEqs.mk ?_ ?_);rfl)|((with_reducible refine ObEq1.i ?_ ?_);exact zF)|exact True.intro)
   rintro ⟨i,j⟩ ⟨i1,i2,i3,hlo,hhi⟩
   dsimp only at i1 i2 i3 hlo hhi ⊢
   clear hmid hs0 hr0 ema ebm
   by_cases hij:i < j
   ·obtain ⟨x, y, ex, ey, q1, q2, hx, hy⟩ := hq ((i + j) / 2) (by omega) (by omega)
    by_cases hlt:cB y.1 x.1 < 0
    ·have hhi2:∀ c x y,(i+j) / 2<=c->c < r0->A[c - a]? = some x->B[mid - 1 - c]? = some y->cB y.1 x.1 < 0:=fun c x' y' c1 c2 e1 e2=>hmon ((i+j) / 2) c x y x' y' (by omega) c1 c2 ex ey e1 e2 hlt
     clear hmon hfin hq hhi
     repeat' ((conv=>whnf);first|(refine SeqP.go ?_)|((with_reducible refine eVu ?_ ?_);omega)|((with_reducible refine eVi ?_ ?_);omega)|(with_reducible refine eShr ?_)|((refine ObD.mk ?_ ?_);(focus (first|rfl|(simp [hN];done))))|((refine ObN.mk ?_ ?_);(exact zq9))|(with_reducible first|refine ObT.tt ?_|refine ObT.ff ?_)|((refine ObB.yes ?_ ?_);exact zB)|((with_reducible refine ObI.nn ?_ ?_);omega)|((with_reducible refine ObI.sn ?_ ?_ ?_);omega;omega)|((refine ObX.mk _ rfl ?_ ?_);(exact zq8))|((with_reducible refine (?_:ObU _ _));(refine ObU.mk _ zq7 ?_))|((with_reducible refine (?_:ObR _ _ _));(first|(refine ObR.mk _ (by assumption) ?_)|(refine ObR.mk _ (by exact (by first|exact q1|exact q2|(refine Eq.trans (congrArg _ ?_) q2;omega))) ?_)|(refine ObR.mk _ yy ?_)|(refine ObR.map zq8 (fun x hx=>?_))|(refine ObR.mk _ rfl ?_)))|((refine ObH.f 73 ?_);(first|(with_reducible refine ObH.mk _ _ ((wM G _ hy hx)) ?_)|(refine ObH.mk _ _ ((wM G _ hy hx)) ?_))))
     conv=>whnf
     refine Again.mk (i,(i+j) / 2) ?_ ?_ (Fg.go ?_ rfl)
     ·exact ⟨i1,by dsimp only;omega,by dsimp only;omega,hlo,hhi2⟩
     ·dsimp only;omega
     repeat' ((conv=>whnf);first|((refine ObEqs.mk ?_ ?_);rfl)|((with_reducible refine ObEq1.i ?_ ?_);exact zF)|exact True.intro)
    ·have hlo2:∀ c x y,s0<=c->c < (i+j) / 2+1->A[c - a]? = some x->B[mid - 1 - c]? = some y->¬ cB y.1 x.1 < 0:=fun c x' y' c1 c2 e1 e2 hQ=>hlt (hmon c ((i+j) / 2) x' y' x y c1 (by omega) (by omega) e1 e2 ex ey hQ)
     clear hmon hfin hq hlo
     repeat' ((conv=>whnf);first|(refine SeqP.go ?_)|((with_reducible refine eVu ?_ ?_);omega)|((with_reducible refine eVi ?_ ?_);omega)|(with_reducible refine eShr ?_)|((refine ObD.mk ?_ ?_);(focus (first|rfl|(simp [hN];done))))|((refine ObN.mk ?_ ?_);(exact zq9))|(with_reducible first|refine ObT.tt ?_|refine ObT.ff ?_)|((refine ObB.yes ?_ ?_);exact zB)|((refine ObB.no ?_ ?_);exact zC)|((with_reducible refine ObI.nn ?_ ?_);omega)|((with_reducible refine ObI.nl ?_ ?_);omega)|((with_reducible refine ObI.sn ?_ ?_ ?_);omega;omega)|((refine ObX.mk _ rfl ?_ ?_);(exact zq8))|((with_reducible refine (?_:ObU _ _));(refine ObU.mk _ zq7 ?_))|((with_reducible refine (?_:ObR _ _ _));(first|(refine ObR.mk _ (by assumption) ?_)|(refine ObR.mk _ (by exact (by first|exact q1|exact q2|(refine Eq.trans (congrArg _ ?_) q2;omega))) ?_)|(refine ObR.mk _ yy ?_)|(refine ObR.map zq8 (fun x hx=>?_))|(refine ObR.mk _ rfl ?_)))|((refine ObH.f 73 ?_);(first|(with_reducible refine ObH.mk _ _ ((wM G _ hy hx)) ?_)|(refine ObH.mk _ _ ((wM G _ hy hx)) ?_))))
     conv=>whnf
     refine Again.mk ((i+j) / 2+1,j) ?_ ?_ (Fg.go ?_ rfl)
     ·exact ⟨by dsimp only;omega,by dsimp only;omega,i3,hlo2,hhi⟩
     ·dsimp only;omega
     repeat' ((conv=>whnf);first|((refine ObEqs.mk ?_ ?_);rfl)|((with_reducible refine ObEq1.i ?_ ?_);exact zF)|exact True.intro)
   ·obtain rfl : j = i := by omega
    obtain ⟨e,he⟩:∃ e,e+j=mid+m:=⟨mid+m - j,by omega⟩
    obtain ⟨D1,D2,D3,hD3,l1,l2,f1,f2,f3,f4,f5,f6⟩:=hfin j e (by omega) (by omega) (by omega) (by omega) he (fun c1 c2 x y e1 e2=>hlo (j - 1) x y (by omega) (by omega) e1 (by rw [show mid - 1 - (j - 1)=mid - j by omega];exact e2)) (fun c1 c2 x y e1 e2=>hhi j x y (by omega) (by omega) e1 e2)
    subst hD3
    have ee:e=mid+m - j:=by omega
    have hja:a<=j/\j<=m/\j<=mid:=by omega
    have heN:e<=b:=by omega
    clear hmon hfin hq hlo hhi i1 i2 i3 sr1 sr2 sr3 sr4 sr5 sr6 sr7 hij he
    obtain ⟨ja,jm,jd⟩:=hja
    subst ee
    by_cases p1:j < m<;>by_cases p3:a < j<;>by_cases p4:j < mid<;>by_cases p6:mid+m - j < b<;>(try (exfalso;omega))
    all_goals
     (first|(have r1:=f1 p1 (by omega))|(have r1:=f2 (by omega);subst r1))
     (first|(have r2:=f3 p3 p4)|(have r2:=f4 (by omega);subst r2))
     (first|(have r3:=f5 (by omega) p6)|(have r3:=f6 (by omega);subst r3))
     clear f1 f2 f3 f4 f5 f6
     repeat' ((conv=>whnf);first|(refine SeqP.go ?_)|((refine ObN.mk ?_ ?_);exact zN)|(with_reducible first|refine ObT.tt ?_|refine ObT.ff ?_)|((refine ObB.yes ?_ ?_);exact zB)|((refine ObB.no ?_ ?_);exact zC)|((with_reducible refine ObI.sn ?_ ?_ ?_);omega;omega)|((refine ObH.f 91 ?_);(first|(with_reducible refine ObH.mk _ _ (r1) ?_)|(refine ObH.mk _ _ (r1) ?_)))|((refine ObH.f 88 ?_);(first|(with_reducible refine ObH.mk _ _ (r2) ?_)|(refine ObH.mk _ _ (r2) ?_)))|((refine ObH.f 88 ?_);(first|(with_reducible refine ObH.mk _ _ (r3) ?_)|(refine ObH.mk _ _ (r3) ?_)))|(exact ObEnd.eq rfl rfl))
end Go.Proofs.YtfocijljkkfonaaDoor.Sim.Pr7
namespace Go.Proofs.YtfocijljkkfonaaDoor.Sim
open Go.RowKit
set_option maxRecDepth 100000
theorem leaf14 (G:Nat->AV) (k v:ByteArray):PC Tryd.prog G 19 [S k,S v] (nV 1 k v 0 [] 0 [] 1 0):=by
 refine zf cop19 ?_
 repeat' ((conv=>whnf);first|(refine SeqP.go ?_)|((refine ObD.mk ?_ ?_);exact zD)|((refine ObN.mk ?_ ?_);exact zN)|((with_reducible refine (?_:ObU _ _));(refine ObU.mk _ zU ?_))|((with_reducible refine (?_:ObR _ _ _));(first|(refine ObR.mk _ zA ?_)|(refine ObR.map zX (fun x hx=>?_))|(refine ObR.mk _ rfl ?_)))|((refine ObEq.mk ?_);exact zE))
theorem tomb15 (G:Nat->AV) (k v:ByteArray):PC Tryd.prog G 49 [S k,S v] (nV 6 k v 0 [] 0 [] 1 0):=by
 refine zf cop49 ?_
 repeat' ((conv=>whnf);first|(refine SeqP.go ?_)|((refine ObD.mk ?_ ?_);exact zD)|((refine ObN.mk ?_ ?_);exact zN)|((with_reducible refine (?_:ObU _ _));(refine ObU.mk _ zU ?_))|((with_reducible refine (?_:ObR _ _ _));(first|(refine ObR.mk _ zA ?_)|(refine ObR.map zX (fun x hx=>?_))|(refine ObR.mk _ rfl ?_)))|((refine ObEq.mk ?_);exact zE))
theorem inner17 (G:Nat->AV) (a:Int):PC Tryd.prog G 20 [I a] (nV 5 ⟨#[]⟩ ⟨#[]⟩ 0 [] a [] 0 0):=by
 refine zf cop20 ?_
 repeat' ((conv=>whnf);first|(refine SeqP.go ?_)|((refine ObD.mk ?_ ?_);exact zD)|((refine ObN.mk ?_ ?_);exact zN)|((with_reducible refine (?_:ObU _ _));(refine ObU.mk _ zU ?_))|((with_reducible refine (?_:ObR _ _ _));(first|(refine ObR.mk _ zA ?_)|(refine ObR.map zX (fun x hx=>?_))|(refine ObR.mk _ rfl ?_)))|((refine ObEq.mk ?_);exact zE))
theorem bucket18 (G:Nat->AV) (l m:List Pr) (h:PC Tryd.prog G 61 [.sl 2 (l.map pA)] (.sl 2 (m.map pA))):PC Tryd.prog G 53 [.sl 2 (l.map pA)] (nV 3 ⟨#[]⟩ ⟨#[]⟩ 0 [] 0 m m.length 0):=by
 refine zf cop53 ?_
 repeat' ((conv=>whnf);first|(refine SeqP.go ?_)|((refine ObD.mk ?_ ?_);exact zD)|((refine ObN.mk ?_ ?_);exact zN)|((with_reducible refine (?_:ObL _ _));(refine ObL.mk _ zM ?_))|((with_reducible refine (?_:ObU _ _));(refine ObU.mk _ zU ?_))|((with_reducible refine (?_:ObR _ _ _));(first|(refine ObR.mk _ zA ?_)|(refine ObR.map zX (fun x hx=>?_))|(refine ObR.mk _ rfl ?_)))|((refine ObC.f 61 ?_);(refine ObC.mk _ (h) ?_))|((refine ObEq.mk ?_);(focus (first|rfl|assumption|exact (by simp [nV])))))
theorem branch20 (G:Nat->AV) (mp:Int) (kk:List Int) (s:Int) (hk:kk.length<=40):PC Tryd.prog G 50 [.v (.int .u32 mp),.sl 1 (kk.map iA),I s] (nV 2 ⟨#[]⟩ ⟨#[]⟩ mp kk 0 [] s 0):=by
 have h:=copy37 G kk hk
 refine zf cop50 ?_
 repeat' ((conv=>whnf);first|(refine SeqP.go ?_)|((refine ObD.mk ?_ ?_);exact zD)|((refine ObN.mk ?_ ?_);exact zN)|((with_reducible refine (?_:ObU _ _));(refine ObU.mk _ zU ?_))|((with_reducible refine (?_:ObR _ _ _));(first|(refine ObR.mk _ zA ?_)|(refine ObR.map zX (fun x hx=>?_))|(refine ObR.mk _ rfl ?_)))|((refine ObC.f 36 ?_);(refine ObC.mk _ (h) ?_))|((refine ObEq.mk ?_);exact zE))
theorem hMake (G:Nat->AV) (L:List Pr) (h40:L.length<=40) (hs:∀ p ∈ L,p.1.size<=40/\p.2.size<=40):(Pr7.mk L).length<=40/\PC Tryd.prog G 61 [.sl 2 (L.map pA)] (.sl 2 ((Pr7.mk L).map pA))/\True:=by
 have hL:Pr7.Okl L:=⟨by omega,fun p hp=>by have:=hs p hp;omega⟩
 have h1:=Pr7.mk_len L
 exact ⟨by omega,Pr7.make14 G (fun g n P A B R N a m b=>Pr7.sym44 _ g n P A B R N a m b) L h40 hL,trivial⟩
theorem cnt43 (G:Nat->AV) (m:Nat) (hm:m < 4294967296):PC Tryd.prog G 51 [.v (.int .u32 (m:Int))] (I ((upI m 32).length:Nat)):=by
 have h:=pop53 G m hm
 have e:(Mk.all m).length=(upI m 32).length:=by simp [upI,Mk.all]
 rw [e] at h
 refine zf cop51 ?_
 repeat' ((conv=>whnf);first|(refine SeqP.go ?_)|((refine ObC.f 59 ?_);(refine ObC.mk _ (h) ?_))|((with_reducible refine ObEq.i ?_);exact zF))
theorem lenP {α:Type} {l:List α}:(0:Int) < (l.length:Nat)↔¬ l=[]:=by cases l<;>simp
theorem lenZ {α:Type} {l:List α}:((l.length:Nat):Int)=0↔l=[]:=by rw [<- List.length_eq_zero_iff];omega
theorem slt_mk {l:List Pr}:Pr7.SLt l↔l=Pr7.mk l:=⟨fun h=>(Pr7.mk_of h).symm,fun h=>by rw [h];exact Pr7.mk_lt l⟩
set_option maxHeartbeats 4000000 in
theorem hasForm31 (G : Nat -> AV) (kn : Int) (ke va : ByteArray) (mp : Nat) (kk : List Int) (mn : Int) (ls : List Pr) (sz bi : Int) (k1 : 1 <= kn) (k6 : kn <= 6) (hm : mp < 4294967296) (hke : ke.size <= 40) (hva : va.size <= 40) (hk : kk.length <= 40) (hl : ls.length <= 40) (hs : ∀ p ∈ ls, p.1.size <= 40 /\ p.2.size <= 40) (r : Bool) (hr : r = true ↔ Yb kn ke va mp kk mn ls sz bi) :
  PC Tryd.prog G 35 [nV kn ke va (mp:Int) kk mn ls sz bi] (Bo r):=by
 have hkn:kn=1\/kn=6\/kn=2\/kn=3\/kn=4\/kn=5:=by omega
 have z0:ByteArray.size (ByteArray.mk #[])<=9223372036854775807:=by decide
 have l0:([]:List Int).length<=9223372036854775807:=by simp
 have l1:([]:List Pr).length<=9223372036854775807:=by simp
 rcases hkn with rfl|rfl|rfl|rfl|rfl|rfl
 ·obtain ⟨q, hq⟩ : ∃ q, q = decide ((1 : Int) = 1 /\ ke = ke /\ va = va /\ (mp : Int) = 0 /\ kk = [] /\ mn = 0 /\ ls = [] /\ sz = 1 /\ bi = bi) := ⟨_, rfl⟩
  have h22:=Xd G 1 1 ke ke va va mp 0 kk [] mn 0 ls [] sz 1 bi bi (by omega) (by omega) (by omega) (by omega) (by omega) l0 (by omega) l1 q hq
  have hr':r=true↔¬ bi < 0/\q=true:=by rw [hr,hq];simp [Yb,yh,lenP,lenZ];intros;constructor<;>(intros;simp_all)
  clear hr hq hs
  refine zf wX ?_
  repeat' ((conv=>whnf);first|(refine SeqP.go ?_)|((refine ObD.mk ?_ ?_);exact zD)|((refine ObN.mk ?_ ?_);exact zN)|(with_reducible first|refine ObT.tt ?_|refine ObT.ff ?_)|((refine ObB.yes ?_ ?_);exact zB)|(with_reducible refine ObB.mk (fun h=>?_) (fun h=>?_))|((with_reducible refine (?_:ObU _ _));(refine ObU.mk _ zU ?_))|((with_reducible refine (?_:ObR _ _ _));(first|(refine ObR.mk _ zA ?_)|(refine ObR.map zX (fun x hx=>?_))|(refine ObR.mk _ rfl ?_)))|((refine ObC.f 19 ?_);(refine ObC.mk _ ((leaf14 G _ _)) ?_))|((refine ObC.f 54 ?_);(refine ObC.mk _ (h22) ?_))|((refine ObEq.mk ?_);(focus (first|rfl|assumption|exact (by cases r<;>cases q<;>first|(simp_all;done)|(simp_all;omega))))))
 ·obtain ⟨q, hq⟩ : ∃ q, q = decide ((6 : Int) = 6 /\ ke = ke /\ va = va /\ (mp : Int) = 0 /\ kk = [] /\ mn = 0 /\ ls = [] /\ sz = 1 /\ bi = bi) := ⟨_, rfl⟩
  have h22:=Xd G 6 6 ke ke va va mp 0 kk [] mn 0 ls [] sz 1 bi bi (by omega) (by omega) (by omega) (by omega) (by omega) l0 (by omega) l1 q hq
  have hr':r=true↔¬ bi < 0/\q=true:=by rw [hr,hq];simp [Yb,yh,lenP,lenZ];intros;constructor<;>(intros;simp_all)
  clear hr hq hs
  refine zf wX ?_
  repeat' ((conv=>whnf);first|(refine SeqP.go ?_)|((refine ObD.mk ?_ ?_);exact zD)|((refine ObN.mk ?_ ?_);exact zN)|(with_reducible first|refine ObT.tt ?_|refine ObT.ff ?_)|((refine ObB.yes ?_ ?_);exact zB)|((refine ObB.no ?_ ?_);exact zC)|(with_reducible refine ObB.mk (fun h=>?_) (fun h=>?_))|((with_reducible refine (?_:ObU _ _));(refine ObU.mk _ zU ?_))|((with_reducible refine (?_:ObR _ _ _));(first|(refine ObR.mk _ zA ?_)|(refine ObR.map zX (fun x hx=>?_))|(refine ObR.mk _ rfl ?_)))|((refine ObC.f 49 ?_);(refine ObC.mk _ ((tomb15 G _ _)) ?_))|((refine ObC.f 54 ?_);(refine ObC.mk _ (h22) ?_))|((refine ObEq.mk ?_);(focus (first|rfl|assumption|exact (by cases r<;>cases q<;>first|(simp_all;done)|(simp_all;omega))))))
 ·obtain ⟨q, hq⟩ : ∃ q, q = decide ((2 : Int) = 2 /\ ke = ByteArray.mk #[] /\ va = ByteArray.mk #[] /\ (mp : Int) = mp /\ kk = kk /\ mn = 0 /\ ls = [] /\ sz = sz /\ bi = bi) := ⟨_, rfl⟩
  have h22:=Xd G 2 2 ke (ByteArray.mk #[]) va (ByteArray.mk #[]) mp mp kk kk mn 0 ls [] sz sz bi bi (by omega) z0 (by omega) z0 (by omega) (by omega) (by omega) l1 q hq
  have h43:=cnt43 G mp hm
  have h44:=has54 G kk (by omega) 0
  obtain ⟨q0,hq0⟩:∃ q0,q0=decide ((0:Int) ∈ kk):=⟨_,rfl⟩
  rw [<- hq0] at h44
  have hr':r=true↔¬ bi < 0/\q0=false/\((kk.length:Nat):Int)=((upI mp 32).length:Nat)/\0<=sz/\q=true:=by rw [hr,hq,hq0];simp [Yb,yh,lenP,lenZ];intros;constructor<;>(intros;simp_all)
  have hu:=Wo mp 32
  clear hr hq hs hq0
  generalize (upI mp 32).length=c at *
  have hr2:((kk.length:Nat):Int)=(c:Nat)->¬ bi < 0->0<=sz->q0=false->r=q:=fun a b d e=>by cases r<;>cases q<;>simp_all
  have hr3:¬ (((kk.length:Nat):Int)=(c:Nat)/\¬ bi < 0/\0<=sz/\q0=false)->r=false:=fun a=>by cases r with|false=>rfl|true=>exact absurd ⟨(hr'.1 rfl).2.2.1,(hr'.1 rfl).1,(hr'.1 rfl).2.2.2.1,(hr'.1 rfl).2.1⟩ a
  clear hr'
  refine zf wX ?_
  repeat' ((conv=>whnf);first|(refine SeqP.go ?_)|((refine ObD.mk ?_ ?_);exact zD)|((refine ObN.mk ?_ ?_);exact zN)|(with_reducible first|refine ObT.tt ?_|refine ObT.ff ?_|refine ObT.mk (fun h=>?_) (fun h=>?_))|((refine ObB.yes ?_ ?_);exact zB)|((refine ObB.no ?_ ?_);exact zC)|(with_reducible refine ObB.mk (fun h=>?_) (fun h=>?_))|((with_reducible refine (?_:ObL _ _));(refine ObL.mk _ zL ?_))|((with_reducible refine (?_:ObU _ _));(refine ObU.mk _ zU ?_))|((with_reducible refine (?_:ObR _ _ _));(first|(refine ObR.mk _ zA ?_)|(refine ObR.map zX (fun x hx=>?_))|(refine ObR.mk _ rfl ?_)))|((refine ObC.f 50 ?_);(refine ObC.mk _ ((branch20 G _ _ _ hk)) ?_))|((refine ObC.f 51 ?_);(refine ObC.mk _ (h43) ?_))|((refine ObC.f 52 ?_);(refine ObC.mk _ (h44) ?_))|((refine ObC.f 54 ?_);(refine ObC.mk _ (h22) ?_))|((refine ObEq.mk ?_);(focus (first|rfl|assumption|exact (by first|(rw [hr2 (by assumption) (by omega) (by omega) (by assumption)];done)|(have hf:r=false:=hr3 (by rintro ⟨h1,h2,h3,h4⟩;first|omega|simp_all);rw [hf]))))))
 ·obtain ⟨q, hq⟩ : ∃ q, q = decide ((3 : Int) = 3 /\ ke = ByteArray.mk #[] /\ va = ByteArray.mk #[] /\ (mp : Int) = 0 /\ kk = [] /\ mn = 0 /\ ls = Pr7.mk ls /\ sz = ((Pr7.mk ls).length : Nat) /\ bi = bi) := ⟨_, rfl⟩
  obtain ⟨m1,h34,h19⟩:=hMake G ls hl hs
  have h22:=Xd G 3 3 ke (ByteArray.mk #[]) va (ByteArray.mk #[]) mp 0 kk [] mn 0 ls (Pr7.mk ls) sz ((Pr7.mk ls).length:Nat) bi bi (by omega) z0 (by omega) z0 (by omega) l0 (by omega) (by omega) q hq
  have h18:=bucket18 G ls (Pr7.mk ls) h34
  have hr':r=true↔¬ bi < 0/\(2:Int)<=(ls.length:Nat)/\q=true:=by
   rw [hr,hq,decide_eq_true_iff]
   unfold Yb yh
   rw [lenP,slt_mk]
   generalize Pr7.mk ls=M
   constructor
   ·rintro ⟨a, h⟩
    rcases h with ⟨h,_⟩|⟨h,_⟩|⟨_,b,c,d,e,f,g,_⟩|⟨h,_⟩|⟨h,_⟩
    ·omega
    ·omega
    ·exact ⟨a,b,rfl,(e rfl).1,(e rfl).2,(f rfl).1,Classical.not_not.1 (f rfl).2,g rfl,c,by rw [d,<- c],rfl⟩
    ·omega
    ·omega
   ·rintro ⟨a, b, _, c, d, e, f, g, i, j, _⟩
    exact ⟨a,.inr (.inr (.inl ⟨rfl,b,i,by rw [j,<- i],fun _=>⟨c,d⟩,fun _=>⟨e,fun h=>h f⟩,fun _=>g,fun h=>by cases h⟩))⟩
  clear hr hq hs h34 h19
  refine zf wX ?_
  repeat' ((conv=>whnf);first|(refine SeqP.go ?_)|((refine ObD.mk ?_ ?_);exact zD)|((refine ObN.mk ?_ ?_);exact zN)|(with_reducible first|refine ObT.tt ?_|refine ObT.ff ?_)|((refine ObB.yes ?_ ?_);exact zB)|((refine ObB.no ?_ ?_);exact zC)|(with_reducible refine ObB.mk (fun h=>?_) (fun h=>?_))|((with_reducible refine (?_:ObL _ _));(refine ObL.mk _ zL ?_))|((with_reducible refine (?_:ObU _ _));(refine ObU.mk _ zU ?_))|((with_reducible refine (?_:ObR _ _ _));(first|(refine ObR.mk _ zA ?_)|(refine ObR.map zX (fun x hx=>?_))|(refine ObR.mk _ rfl ?_)))|((refine ObC.f 53 ?_);(refine ObC.mk _ (h18) ?_))|((refine ObC.f 54 ?_);(refine ObC.mk _ (h22) ?_))|((refine ObEq.mk ?_);(focus (first|rfl|assumption|exact (by cases r<;>cases q<;>first|(simp_all;done)|(simp_all;omega))))))
 ·obtain ⟨q, hq⟩ : ∃ q, q = decide ((4 : Int) = 4 /\ ke = ke /\ va = va /\ (mp : Int) = 0 /\ kk = kk /\ mn = 0 /\ ls = [] /\ sz = sz /\ bi = bi) := ⟨_, rfl⟩
  have h22:=Xd G 4 4 ke ke va va mp 0 kk kk mn 0 ls [] sz sz bi bi (by omega) (by omega) (by omega) (by omega) (by omega) (by omega) (by omega) l1 q hq
  have hr':r=true↔¬ bi < 0/\((kk.length:Nat):Int)=2/\1<=sz/\q=true:=by rw [hr,hq];simp [Yb,yh,lenP,lenZ];intros;constructor<;>(intros;simp_all)
  clear hr hq hs
  refine zf wX ?_
  repeat' ((conv=>whnf);first|(refine SeqP.go ?_)|((refine ObD.mk ?_ ?_);exact zD)|((refine ObN.mk ?_ ?_);exact zN)|(with_reducible first|refine ObT.tt ?_|refine ObT.ff ?_)|((refine ObB.yes ?_ ?_);exact zB)|((refine ObB.no ?_ ?_);exact zC)|(with_reducible refine ObB.mk (fun h=>?_) (fun h=>?_))|((with_reducible refine (?_:ObL _ _));(refine ObL.mk _ zL ?_))|((with_reducible refine (?_:ObU _ _));(refine ObU.mk _ zU ?_))|((with_reducible refine (?_:ObR _ _ _));(first|(refine ObR.mk _ zA ?_)|(refine ObR.map zX (fun x hx=>?_))|(refine ObR.mk _ rfl ?_)))|((refine ObC.f 54 ?_);(refine ObC.mk _ (h22) ?_))|((refine ObEq.mk ?_);(focus (first|rfl|assumption|exact (by cases r<;>cases q<;>first|(simp_all;done)|(simp_all;omega))))))
 ·obtain ⟨q, hq⟩ : ∃ q, q = decide ((5 : Int) = 5 /\ ke = ByteArray.mk #[] /\ va = ByteArray.mk #[] /\ (mp : Int) = 0 /\ kk = [] /\ mn = mn /\ ls = [] /\ sz = 0 /\ bi = bi) := ⟨_, rfl⟩
  have h22:=Xd G 5 5 ke (ByteArray.mk #[]) va (ByteArray.mk #[]) mp 0 kk [] mn mn ls [] sz 0 bi bi (by omega) z0 (by omega) z0 (by omega) l0 (by omega) l1 q hq
  have hr':r=true↔¬ bi < 0/\¬ mn=0/\q=true:=by rw [hr,hq];simp [Yb,yh,lenP,lenZ];intros;constructor<;>(intros;simp_all)
  clear hr hq hs
  refine zf wX ?_
  repeat' ((conv=>whnf);first|(refine SeqP.go ?_)|((refine ObD.mk ?_ ?_);exact zD)|((refine ObN.mk ?_ ?_);exact zN)|(with_reducible first|refine ObT.tt ?_|refine ObT.ff ?_)|((refine ObB.yes ?_ ?_);exact zB)|((refine ObB.no ?_ ?_);exact zC)|(with_reducible refine ObB.mk (fun h=>?_) (fun h=>?_))|((with_reducible refine (?_:ObU _ _));(refine ObU.mk _ zU ?_))|((with_reducible refine (?_:ObR _ _ _));(first|(refine ObR.mk _ zA ?_)|(refine ObR.map zX (fun x hx=>?_))|(refine ObR.mk _ rfl ?_)))|((refine ObC.f 20 ?_);(refine ObC.mk _ ((inner17 G _)) ?_))|((refine ObC.f 54 ?_);(refine ObC.mk _ (h22) ?_))|((refine ObEq.mk ?_);(focus (first|rfl|assumption|exact (by cases r<;>cases q<;>first|(simp_all;done)|(simp_all;omega))))))
def mayE (kn:Int) (lo q:Bool):Int:=if kn < 1 then 11 else if 6 < kn then 11 else if lo=true then 6 else if q=true then 0 else 4
theorem may8 (G : Nat -> AV) (kn : Int) (ke va : ByteArray) (mp : Nat) (kk : List Int) (mn : Int) (ls : List Pr) (sz bi : Int) (hm : mp < 4294967296) (hke : ke.size <= 40) (hva : va.size <= 40) (hk : kk.length <= 40) (hl : ls.length <= 40) (hs : ∀ p ∈ ls, p.1.size <= 40 /\ p.2.size <= 40) (q : Bool) (hq : q = true ↔ Yb kn ke va mp kk mn ls sz bi) :
  PC Tryd.prog G 22 [nV kn ke va (mp:Int) kk mn ls sz bi] (I (mayE kn (lg (ke,va) || ls.any lg) q)):=by
 have h29:=isl29 G ke va
 have h30:=fun H=>any30 G ls (by omega) H
 have h31:=fun k1 k6=>hasForm31 G kn ke va mp kk mn ls sz bi k1 k6 hm hke hva hk hl hs q hq
 clear hq hs
 generalize lg (ke,va)=a at *
 generalize ls.any lg=b at *
 refine zf cop22 ?_
 unfold mayE
 by_cases h1:kn < 1
 ·rw [if_pos h1]
  repeat' ((conv=>whnf);first|(refine SeqP.go ?_)|((refine ObD.mk ?_ ?_);exact zD)|((refine ObN.mk ?_ ?_);exact zN)|(refine ObT.tt ?_)|((refine ObB.yes ?_ ?_);exact zB)|((with_reducible refine (?_:ObR _ _ _));(first|(refine ObR.mk _ zA ?_)|(refine ObR.map zX (fun x hx=>?_))|(refine ObR.mk _ rfl ?_)))|((with_reducible refine ObEq.i ?_);exact zF))
 rw [if_neg h1]
 by_cases h6:6 < kn
 ·rw [if_pos h6]
  repeat' ((conv=>whnf);first|(refine SeqP.go ?_)|((refine ObD.mk ?_ ?_);exact zD)|((refine ObN.mk ?_ ?_);exact zN)|(with_reducible first|refine ObT.tt ?_|refine ObT.ff ?_)|((refine ObB.yes ?_ ?_);exact zB)|((refine ObB.no ?_ ?_);exact zC)|((with_reducible refine (?_:ObR _ _ _));(first|(refine ObR.mk _ zA ?_)|(refine ObR.map zX (fun x hx=>?_))|(refine ObR.mk _ rfl ?_)))|((with_reducible refine ObEq.i ?_);exact zF))
 rw [if_neg h6]
 have h31:=h31 (by omega) (by omega)
 cases a<;>cases b<;>cases q
 all_goals repeat' ((conv=>whnf);first|(refine SeqP.go ?_)|((refine ObD.mk ?_ ?_);exact zD)|((refine ObN.mk ?_ ?_);exact zN)|(with_reducible first|refine ObT.tt ?_|refine ObT.ff ?_)|((refine ObB.no ?_ ?_);exact zC)|((with_reducible refine (?_:ObR _ _ _));(first|(refine ObR.mk _ zA ?_)|(refine ObR.map zX (fun x hx=>?_))|(refine ObR.mk _ rfl ?_)))|((refine ObC.f 33 ?_);(refine ObC.mk _ (h29) ?_))|((refine ObH.f 34 ?_);(first|(with_reducible refine ObH.mk _ _ ((h30 _)) ?_)|(refine ObH.mk _ _ ((h30 _)) ?_)))|((refine ObC.f 35 ?_);(refine ObC.mk _ (h31) ?_))|((refine ObEq.mk ?_);exact zE))
theorem may9 (G : Nat -> AV) (kn : Int) (ke va : ByteArray) (mp : Nat) (kk : List Int) (mn : Int) (ls : List Pr) (sz bi : Int) (hm : mp < 4294967296) (hk : kk.length <= 40) (hl : ls.length <= 40) (hs : ∀ p ∈ ls, p.1.size <= 40 /\ p.2.size <= 40) (q : Bool) (hq : q = true ↔ Yb kn ke va mp kk mn ls sz bi) :
  PC Tryd.prog G 46 [nV kn ke va (mp:Int) kk mn ls sz bi] (I (mayE kn (lg (ke,va) || ls.any lg) q)):=by
 have h32:=long32 G kn ke va mp kk mn ls sz bi (by omega)
 have h33:=fun k1 k6=>form33 G kn ke va mp kk mn ls sz bi k1 k6 hm hk hl hs q hq
 clear hq hs
 generalize (lg (ke,va) || ls.any lg)=a at *
 refine zf cop46 ?_
 unfold mayE
 by_cases h1:kn < 1
 ·rw [if_pos h1]
  repeat' ((conv=>whnf);first|(refine SeqP.go ?_)|((refine ObD.mk ?_ ?_);exact zD)|((refine ObN.mk ?_ ?_);exact zN)|(refine ObT.tt ?_)|((refine ObB.yes ?_ ?_);exact zB)|((with_reducible refine (?_:ObR _ _ _));(first|(refine ObR.mk _ zA ?_)|(refine ObR.map zX (fun x hx=>?_))|(refine ObR.mk _ rfl ?_)))|((with_reducible refine ObEq.i ?_);exact zF))
 rw [if_neg h1]
 by_cases h6:6 < kn
 ·rw [if_pos h6]
  repeat' ((conv=>whnf);first|(refine SeqP.go ?_)|((refine ObD.mk ?_ ?_);exact zD)|((refine ObN.mk ?_ ?_);exact zN)|(with_reducible first|refine ObT.tt ?_|refine ObT.ff ?_)|((refine ObB.yes ?_ ?_);exact zB)|((refine ObB.no ?_ ?_);exact zC)|((with_reducible refine (?_:ObR _ _ _));(first|(refine ObR.mk _ zA ?_)|(refine ObR.map zX (fun x hx=>?_))|(refine ObR.mk _ rfl ?_)))|((with_reducible refine ObEq.i ?_);exact zF))
 rw [if_neg h6]
 have h33:=h33 (by omega) (by omega)
 cases a<;>cases q
 all_goals repeat' ((conv=>whnf);first|(refine SeqP.go ?_)|((refine ObD.mk ?_ ?_);exact zD)|((refine ObN.mk ?_ ?_);exact zN)|(with_reducible first|refine ObT.tt ?_|refine ObT.ff ?_)|((refine ObB.no ?_ ?_);exact zC)|((with_reducible refine (?_:ObR _ _ _));(first|(refine ObR.mk _ zA ?_)|(refine ObR.map zX (fun x hx=>?_))|(refine ObR.mk _ rfl ?_)))|((refine ObC.f 57 ?_);(refine ObC.mk _ (h32) ?_))|((refine ObC.f 58 ?_);(refine ObC.mk _ (h33) ?_))|((refine ObEq.mk ?_);exact zE))
def C23:AF:=(AF.mk 26 [(2,none)] (AC.seq (AC.region [(jA 1 (AOp.new 40 9 (AX.t 0))),(jA 2 (AOp.mv (AX.c (AV.nl 1))))]) (AC.seq (AC.region [(jA 3 (AOp.mv (AX.c (AV.nl 1))))]) (AC.seq (AC.seq (AC.drawx [[(jA 6 (AOp.fad 4 (AX.t 1))),(jA 7 (AOp.load false 1 (AX.t 6))),(jA 8 (AOp.callh 36 [(AX.t 7)])),(jA 9 (AOp.fad 5 (AX.t 1))),(jA 10 (AOp.load false 1 (AX.t 9))),(jA 11 (AOp.bsl 25 1 [(AX.t 10)])),(jA 12 (AOp.app 25 1 8 (AX.t 8) (AX.t 11))),(jA 13 (AOp.len (AX.t 12))),(jA 14 (AOp.mv (jI 0)))],[(jA 6 (AOp.fad 4 (AX.t 1))),(jA 7 (AOp.load false 1 (AX.t 6))),(jA 9 (AOp.fad 5 (AX.t 1))),(jA 8 (AOp.callh 36 [(AX.t 7)])),(jA 10 (AOp.load false 1 (AX.t 9))),(jA 11 (AOp.bsl 25 1 [(AX.t 10)])),(jA 12 (AOp.app 25 1 8 (AX.t 8) (AX.t 11))),(jA 13 (AOp.len (AX.t 12))),(jA 14 (AOp.mv (jI 0)))],[(jA 6 (AOp.fad 4 (AX.t 1))),(jA 7 (AOp.load false 1 (AX.t 6))),(jA 9 (AOp.fad 5 (AX.t 1))),(jA 10 (AOp.load false 1 (AX.t 9))),(jA 8 (AOp.callh 36 [(AX.t 7)])),(jA 11 (AOp.bsl 25 1 [(AX.t 10)])),(jA 12 (AOp.app 25 1 8 (AX.t 8) (AX.t 11))),(jA 13 (AOp.len (AX.t 12))),(jA 14 (AOp.mv (jI 0)))],[(jA 6 (AOp.fad 4 (AX.t 1))),(jA 7 (AOp.load false 1 (AX.t 6))),(jA 9 (AOp.fad 5 (AX.t 1))),(jA 10 (AOp.load false 1 (AX.t 9))),(jA 11 (AOp.bsl 25 1 [(AX.t 10)])),(jA 8 (AOp.callh 36 [(AX.t 7)])),(jA 12 (AOp.app 25 1 8 (AX.t 8) (AX.t 11))),(jA 13 (AOp.len (AX.t 12))),(jA 14 (AOp.mv (jI 0)))]]) (AC.block 0 (AC.loop (AC.seq (AC.region [(jA 15 (AOp.bin BinOp.lss 3 false (Operand.tmp 14) (Operand.tmp 13) (AX.t 14) (AX.t 13)))]) (AC.seq (AC.cond (AX.t 15) AC.skip (AC.exit 0)) (AC.seq (AC.block 1 (AC.seq (AC.region [(jA 16 (AOp.iad 1 (AX.t 12) (AX.t 14))),(jA 17 (AOp.load false 1 (AX.t 16))),(jA 5 (AOp.mv (AX.t 17)))]) (AC.seq (AC.region [(jA 18 (AOp.mv (AX.t 5))),(jA 19 (AOp.bin BinOp.neq 25 false (Operand.tmp 18) (Operand.const (Value.int IntKind.i64 0)) (AX.t 18) (jI 0)))]) (AC.cond (AX.t 19) (AC.region [(jA 20 (AOp.mv (AX.t 3))),(jA 21 (AOp.mv (AX.t 5))),(jA 22 (AOp.bsl 25 1 [(AX.t 21)])),(jA 23 (AOp.app 25 1 8 (AX.t 20) (AX.t 22))),(jA 3 (AOp.mv (AX.t 23)))]) AC.skip)))) (AC.region [(jA 24 (AOp.bin BinOp.add 3 false (Operand.tmp 14) (Operand.const (Value.int IntKind.i64 1)) (AX.t 14) (jI 1))),(jA 14 (AOp.mv (AX.t 24)))]))))))) (AC.seq (AC.region [(jA 25 (AOp.mv (AX.t 3))),(jA 2 (AOp.mv (AX.t 25)))]) AC.ret)))))
theorem dop23:zI Tryd.prog [16,26,30,34,36,40,41,43,44,45,48,55,71,72,81,87,88,91,92] 23=some C23:=by kernel_rfl
structure Nd where
 kn:Int
 ke:ByteArray
 va:ByteArray
 mp:Nat
 kk:List Int
 mn:Int
 ls:List Pr
 sz:Int
 bi:Int
abbrev nA (x:Nd):AV:=nV x.kn x.ke x.va (x.mp:Int) x.kk x.mn x.ls x.sz x.bi
structure Nd.Ok (x:Nd):Prop where
 mp:x.mp < 4294967296
 ke:x.ke.size<=40
 va:x.va.size<=40
 kk:x.kk.length<=40
 ls:x.ls.length<=40
 sz:∀ p ∈ x.ls,p.1.size<=40/\p.2.size<=40
 mn:i64 x.mn
 ks:∀ r ∈ x.kk,i64 r
theorem wT {l:List Nd} {k:Nat} (h:k < l.length):(l.map nA)[k]? = some (.agg [I l[k].kn,S l[k].ke,S l[k].va,.v (.int .u32 (l[k].mp:Int)),.sl 1 (l[k].kk.map iA),I l[k].mn,.sl 2 (l[k].ls.map pA),I l[k].sz,I l[k].bi]):=by simp [h]
noncomputable def WD (x:Nd):Int:=mayE x.kn (lg (x.ke,x.va) || x.ls.any lg) (@decide (Yb x.kn x.ke x.va x.mp x.kk x.mn x.ls x.sz x.bi) (Classical.propDecidable _))
def rfN (x:Nd):List Int:=(x.kk++[x.mn]).filter fun r=>decide (r ≠ 0)
section
variable (G:Nat->AV)
theorem may29 (x:Nd) (h:x.Ok):PC Tryd.prog G 22 [nA x] (I (WD x)):=may8 G x.kn x.ke x.va x.mp x.kk x.mn x.ls x.sz x.bi h.mp h.ke h.va h.kk h.ls h.sz _ (by simp)
theorem may33 (x:Nd) (h:x.Ok):PC Tryd.prog G 46 [nA x] (I (WD x)):=may9 G x.kn x.ke x.va x.mp x.kk x.mn x.ls x.sz x.bi h.mp h.kk h.ls h.sz _ (by simp)
def rS (m:Nat) (a:List Int):AV:=match a with|[]=>.nl 1|x::t=>.ol m 0 (t.length+1)
def rH (a:List Int):Hp:=match a with|[]=>[]|x::t=>[kR 0 (x::t)]
theorem flt_yes {l:List Int} {i:Nat} (h:i < l.length) (h0:l[i] ≠ 0):(l.take (i+1)).filter (fun r=>decide (r ≠ 0))=(l.take i).filter (fun r=>decide (r ≠ 0))++[l[i]]:=by
 rw [List.take_succ_eq_append_getElem h,List.filter_append];simp [h0]
theorem flt_no {l:List Int} {i:Nat} (h:i < l.length) (h0:l[i]=0):(l.take (i+1)).filter (fun r=>decide (r ≠ 0))=(l.take i).filter (fun r=>decide (r ≠ 0)):=by
 rw [List.take_succ_eq_append_getElem h,List.filter_append];simp [h0]
set_option maxHeartbeats 2000000 in
theorem refs30 (x:Nd) (h:x.Ok):PC Tryd.prog G 23 [nA x] (.sl 1 ((rfN x).map iA)):=by
 obtain ⟨kn,ke,va,mp,kk,mn,ls,sz,bi⟩:=x
 have hkl:=h.kk
 clear h
 dsimp only [rfN] at hkl ⊢
 have hr0:=nr_i kk
 obtain ⟨K,hK⟩:∃ K,K=kk++[mn]:=⟨_,rfl⟩
 rw [<- hK]
 have hKl:K.length<=41:=by rw [hK];simp;omega
 refine zf dop23 ?_
 repeat' ((conv=>whnf);first|((refine ObD.mk ?_ ?_);exact zD))
 conv=>whnf
 refine SeqP.go ?_
 skip
 conv=>whnf
 refine SeqP.go ?_
 refine V_seq (V_cut (α:=Unit) (fun _=>True) (fun _=>[(6,none),(0,none),(0,none),(0,none),(0,none),(0,none),(0,some (.ol 1 0 K.length)),(0,some (I K.length)),(0,some (I (0:Nat)))]) (fun _=>[⟨40,9,[nV kn ke va mp kk mn ls sz bi],0,0⟩,kR 0 K]) ?_ ?_)
 ·intro Q hQ
  have hQ1:=fun s' H' (h:s'.getD 12 zd = .ol 1 1 K.length) hf=>hQ s' H' () trivial hf
  have hrK:=nr_i K
  rcases kk with _|⟨k0,kt⟩
  ·have h1 := cpyB0 G
   have hlm:[I mn].length=K.length:=by rw [hK];rfl
   have hKm:K.map iA=[I mn]:=by rw [hK];rfl
   repeat' ((conv=>whnf);first|(with_reducible first|refine ObAnd.mk ?_ ?_|refine ObDx.each ?_)|((refine ObD.mk ?_ ?_);exact zD)|((refine ObN.mk ?_ ?_);exact zN)|((with_reducible refine (?_:ObL _ _));(refine ObL.mk _ zq11 ?_))|((with_reducible refine (?_:ObU _ _));(refine ObU.mk _ zU ?_))|((with_reducible refine (?_:ObR _ _ _));(first|(refine ObR.mk _ zA ?_)|(refine ObR.map zX (fun x hx=>?_))|(refine ObR.mk _ rfl ?_)))|((refine ObH.f 36 ?_);refine ObH.frn _ Yy [] (h1) (by simp) rfl (by simp) ?_)|((with_reducible refine ObW.cons ?_ ?_);(focus (first|assumption|(simp;done))))|((with_reducible refine ObAs.mk ?_ ?_);(focus (first|rfl|(simp [rnB,rnC,rnL];done))))|((with_reducible refine (?_:ObRs _ _ _));(refine ObRs.mk _ rfl ?_)))
   all_goals conv=>whnf
   all_goals refine hQ _ _ () trivial (Fg.vw [(0,0,0),(0,2,0)] ?_ ?_ (by simp) ?_)
   all_goals repeat' ((conv=>whnf);first|((refine ObN.mk ?_ ?_);exact zN)|((with_reducible refine ObRn.mk ?_ ?_);(focus (first|rfl|(simp [rnB,rnC,rnL];done))))|((with_reducible refine ObRow.same ?_ ?_ ?_);exact zE;(focus (first|rfl|assumption|(simp;done))))|((refine ObEqs.mk ?_ ?_);rfl)|exact True.intro)
  ·have h1 := cpyB G (k0 :: kt) (by omega) (by simp)
   have hkl':kt.length+1<=40:=hkl
   have us:((k0::kt).map iA).take (kt.length+1)++[.v (.int .i64 mn)]=K.map iA:=by rw [hK];exact WJ (l:=k0::kt)
   have hlm:((k0::kt).length+[I mn].length)=K.length:=by rw [hK];simp
   repeat' ((conv=>whnf);first|(with_reducible first|refine ObAnd.mk ?_ ?_|refine ObDx.each ?_)|((refine ObD.mk ?_ ?_);exact zD)|((refine ObN.mk ?_ ?_);exact zN)|((with_reducible refine (?_:ObL _ _));(refine ObL.mk _ zq11 ?_))|((with_reducible refine (?_:ObU _ _));(refine ObU.mk _ zq3 ?_))|((with_reducible refine (?_:ObR _ _ _));(first|(refine ObR.mk _ zA ?_)|(refine ObR.map zX (fun x hx=>?_))|(refine ObR.mk _ rfl ?_)))|((refine ObH.f 36 ?_);refine ObH.frn _ Yy [] (h1) (by simp) rfl (by simp) ?_)|((with_reducible refine ObAs.mk ?_ ?_);(focus (first|rfl|(simp [rnB,rnC,rnL];done))))|((with_reducible refine (?_:ObRs _ _ _));(refine ObRs.mk _ rfl ?_))|((with_reducible refine ObBk.same ?_ ?_);(focus (first|rfl|assumption|(simp;done)))))
   all_goals conv=>whnf
   all_goals first|refine hQ1 _ _ rfl (Fg.vw [(0,0,0),(0,1,1)] ?_ ?_ (by simp) ?_)|refine hQ _ _ () trivial (Fg.vw [(0,0,0),(0,2,1)] ?_ ?_ (by simp) ?_)
   all_goals repeat' ((conv=>whnf);first|((refine ObN.mk ?_ ?_);exact zN)|((with_reducible refine ObRn.mk ?_ ?_);(focus (first|rfl|(simp [rnB,rnC,rnL];done))))|((with_reducible refine ObRow.same ?_ ?_ ?_);exact zE;(focus (first|rfl|assumption|(simp;done))))|((refine ObEqs.mk ?_ ?_);rfl)|exact True.intro)
 ·rintro ⟨⟩ -
  skip
  conv=>whnf
  refine LoopP.go (α:=Nat × List Int) (fun p=>p.1<=K.length/\p.2=(K.take p.1).filter (fun r=>decide (r ≠ 0))) (fun p=>K.length - p.1) (fun p=>[(3,some (rS 2 p.2)),(1,none),(8,some (I p.1)),(0,none),(0,none),(0,none),(0,none),(0,none),(0,none),(0,none),(0,none),(0,none),(0,none)]) (fun p=>[⟨40,9,[nV kn ke va mp kk mn ls sz bi],0,0⟩,kR 0 K]++rH p.2) (0,[]) ⟨Nat.zero_le _,rfl⟩ (Fg.go ?_ rfl) ?_
  ·repeat' ((conv=>whnf);first|((refine ObEqs.mk ?_ ?_);rfl)|((with_reducible refine ObEq1.mk ?_ ?_);exact zE)|exact True.intro)
  rintro ⟨i,l⟩ ⟨hi,hl⟩
  dsimp only at hi hl ⊢
  have hll:l.length<=i:=by
   have:=List.length_filter_le (fun r:Int=>decide (r ≠ 0)) (K.take i)
   rw [<- hl,List.length_take] at this;omega
  have hrK:=nr_i K
  by_cases hiK:i < K.length
  ·have hq := Xn hiK
   have f1:=flt_yes hiK
   have f2:=flt_no hiK
   generalize K[i]=x at *
   by_cases hx:x=0
   ·rcases l with _ | ⟨l0, lt⟩
    ·repeat' ((conv=>whnf);first|(refine SeqP.go ?_)|((refine ObN.mk ?_ ?_);exact zN)|(with_reducible first|refine ObT.tt ?_|refine ObT.ff ?_)|((refine ObB.yes ?_ ?_);exact zB)|((with_reducible refine ObI.nl ?_ ?_);omega)|((refine ObX.mk _ rfl ?_ ?_);exact zX)|((with_reducible refine (?_:ObR _ _ _));(first|(refine ObR.mk _ zA ?_)|(refine ObR.map zX (fun x hx=>?_))|(refine ObR.mk _ rfl ?_))))
     conv=>whnf
     refine Again.mk (i+1,[]) ⟨by dsimp only;omega,by dsimp only;rw [f2 hx,<- hl]⟩ ?_ (Fg.vw [(0,0,0),(0,1,0)] ?_ ?_ (by simp) ?_)
     ·dsimp only;omega
     all_goals repeat' ((conv=>whnf);first|((with_reducible refine ObRn.mk ?_ ?_);(focus (simp [rnB,rnC,rS];done)))|((refine ObN.mk ?_ ?_);exact zN)|((with_reducible refine ObRow.same ?_ ?_ ?_);exact zE;(focus (first|rfl|assumption|(simp;done))))|((refine ObEqs.mk ?_ ?_);rfl)|exact True.intro)
    ·have r1 := nr_i (l0 :: lt)
     repeat' ((conv=>whnf);first|(refine SeqP.go ?_)|((refine ObN.mk ?_ ?_);exact zN)|(with_reducible first|refine ObT.tt ?_|refine ObT.ff ?_)|((refine ObB.yes ?_ ?_);exact zB)|((with_reducible refine ObI.nl ?_ ?_);omega)|((refine ObX.mk _ rfl ?_ ?_);exact zX)|((with_reducible refine (?_:ObR _ _ _));(first|(refine ObR.mk _ zA ?_)|(refine ObR.map zX (fun x hx=>?_))|(refine ObR.mk _ rfl ?_))))
     conv=>whnf
     refine Again.mk (i+1,l0::lt) ⟨by dsimp only;omega,by dsimp only;rw [f2 hx,<- hl]⟩ ?_ (Fg.vw [(0,0,0),(0,1,0),(0,2,0)] ?_ ?_ (by simp) ?_)
     ·dsimp only;omega
     all_goals repeat' ((conv=>whnf);first|((with_reducible refine ObRn.mk ?_ ?_);(focus (simp [rnB,rnC,rS];done)))|((refine ObN.mk ?_ ?_);exact zN)|((with_reducible refine ObRow.same ?_ ?_ ?_);exact zE;(focus (first|rfl|assumption|(simp;done))))|((refine ObEqs.mk ?_ ?_);rfl)|exact True.intro)
   ·rcases l with _ | ⟨l0, lt⟩
    ·have r1 := nr_i [x]
     repeat' ((conv=>whnf);first|(refine SeqP.go ?_)|((refine ObD.mk ?_ ?_);exact zD)|((refine ObN.mk ?_ ?_);exact zN)|(refine ObT.tt ?_)|((refine ObB.yes ?_ ?_);exact zB)|((refine ObB.no ?_ ?_);exact zC)|((with_reducible refine ObI.nl ?_ ?_);omega)|((refine ObX.mk _ rfl ?_ ?_);exact zX)|((with_reducible refine (?_:ObL _ _));(refine ObL.mk _ zL ?_))|((with_reducible refine (?_:ObU _ _));(refine ObU.mk _ zU ?_))|((with_reducible refine (?_:ObR _ _ _));(first|(refine ObR.mk _ zA ?_)|(refine ObR.map zX (fun x hx=>?_))|(refine ObR.mk _ rfl ?_)))|((with_reducible refine ObW.cons ?_ ?_);(focus (first|assumption|(simp;done)))))
     conv=>whnf
     refine Again.mk (i+1,[x]) ⟨by dsimp only;omega,by dsimp only;rw [f1 hx,<- hl];rfl⟩ ?_ (Fg.vw [(0,0,0),(0,1,0),(0,3,0)] ?_ ?_ (by simp) ?_)
     ·dsimp only;omega
     all_goals repeat' ((conv=>whnf);first|((with_reducible refine ObRn.mk ?_ ?_);(focus (simp [rnB,rnC,rS];done)))|((refine ObN.mk ?_ ?_);exact zN)|((with_reducible refine ObRow.same ?_ ?_ ?_);exact zE;(focus (first|rfl|assumption|(simp;done))))|((refine ObEqs.mk ?_ ?_);rfl)|exact True.intro)
    ·have hll' : lt.length + 1 <= i := hll
     have r1:=nr_i ((l0::lt)++[x])
     have us:((l0::lt).map iA).take (lt.length+1)++[.v (.int .i64 x)]=((l0::lt)++[x]).map iA:=WJ (l:=l0::lt)
     repeat' ((conv=>whnf);first|(refine SeqP.go ?_)|((refine ObD.mk ?_ ?_);exact zD)|((refine ObN.mk ?_ ?_);exact zN)|(refine ObT.tt ?_)|((refine ObB.yes ?_ ?_);exact zB)|((refine ObB.no ?_ ?_);exact zC)|((with_reducible refine ObI.nl ?_ ?_);omega)|((refine ObX.mk _ rfl ?_ ?_);exact zX)|((with_reducible refine (?_:ObL _ _));(refine ObL.mk _ zL ?_))|((with_reducible refine (?_:ObU _ _));(refine ObU.mk _ zq3 ?_))|((with_reducible refine (?_:ObR _ _ _));(first|(refine ObR.mk _ zA ?_)|(refine ObR.map zX (fun x hx=>?_))|(refine ObR.mk _ rfl ?_))))
     conv=>whnf
     refine Again.mk (i+1,(l0::lt)++[x]) ⟨by dsimp only;omega,by dsimp only;rw [f1 hx,<- hl]⟩ ?_ (Fg.vw [(0,0,0),(0,1,0),(0,2,1)] ?_ ?_ (by simp) ?_)
     ·dsimp only;omega
     all_goals repeat' ((conv=>whnf);first|((with_reducible refine ObRn.mk ?_ ?_);(focus (simp [rnB,rnC,rS];done)))|((refine ObN.mk ?_ ?_);exact zN)|((with_reducible refine ObRow.same ?_ ?_ ?_);exact zE;(focus (first|rfl|assumption|(simp;done))))|((refine ObEqs.mk ?_ ?_);rfl)|exact True.intro)
  ·obtain rfl : i = K.length := by omega
   rw [List.take_length] at hl
   rw [<- hl]
   rcases l with _|⟨l0,lt⟩
   ·repeat' ((conv=>whnf);first|(refine SeqP.go ?_)|((refine ObN.mk ?_ ?_);exact zN)|(refine ObT.ff ?_)|((refine ObB.no ?_ ?_);exact zC)|((refine ObEq.mk ?_);exact zE))
   ·have la : ((l0 :: lt).map iA).take (lt.length + 1) = (l0 :: lt).map iA := i_all (l := l0 :: lt)
    have lp:=p_i (l0::lt)
    repeat' ((conv=>whnf);first|(refine SeqP.go ?_)|((refine ObN.mk ?_ ?_);exact zN)|(refine ObT.ff ?_)|((refine ObB.no ?_ ?_);exact zC)|((with_reducible refine (?_:ObU _ _));(refine ObU.mk _ zq4 ?_))|((refine ObEq.mk ?_);exact zE))
set_option maxHeartbeats 2000000 in
theorem refs32 (x:Nd) (h:x.Ok):PC Tryd.prog G 14 [nA x] (.sl 1 ((rfN x).map iA)):=by
 obtain ⟨kn,ke,va,mp,kk,mn,ls,sz,bi⟩:=x
 have hkl:=h.kk
 clear h
 dsimp only [rfN] at hkl ⊢
 refine zf cop14 ?_
 repeat' ((conv=>whnf);first|(refine SeqP.go ?_)|((refine ObD.mk ?_ ?_);exact zD))
 conv=>whnf
 refine LoopP.go (α:=Nat × List Int) (fun p=>p.1<=kk.length/\p.2=(kk.take p.1).filter (fun r=>decide (r ≠ 0))) (fun p=>kk.length - p.1) (fun p=>[(3,some (.ol 1 0 p.2.length)),(0,some (I p.1)),(0,none),(0,none),(0,none),(0,none),(0,none),(0,none),(0,none),(0,none),(0,none),(0,none),(0,none),(0,none),(0,none),(0,none),(0,none),(0,none),(0,none),(0,none),(0,none),(0,none),(0,none),(0,none)]) (fun p=>[⟨40,9,[nV kn ke va mp kk mn ls sz bi],0,0⟩,kR 0 p.2]) (0,[]) ⟨Nat.zero_le _,rfl⟩ (Fg.go ?_ rfl) ?_
 ·repeat' ((conv=>whnf);first|((refine ObEqs.mk ?_ ?_);rfl)|((with_reducible refine ObEq1.i ?_ ?_);exact zF)|((with_reducible refine ObEq1.mk ?_ ?_);exact zE)|exact True.intro)
 rintro ⟨i,l⟩ ⟨hi,hl⟩
 dsimp only at hi hl ⊢
 have hll:l.length<=i:=by
  have:=List.length_filter_le (fun r:Int=>decide (r ≠ 0)) (kk.take i)
  rw [<- hl,List.length_take] at this;omega
 by_cases hiK:i < kk.length
 ·have hq := Xn hiK
  have f1:=flt_yes hiK
  have f2:=flt_no hiK
  generalize kk[i]=x at *
  by_cases hx:x=0
  ·have r1 := nr_i l
   repeat' ((conv=>whnf);first|(refine SeqP.go ?_)|((refine ObN.mk ?_ ?_);exact zN)|(with_reducible first|refine ObT.tt ?_|refine ObT.ff ?_)|((refine ObB.yes ?_ ?_);exact zB)|((with_reducible refine ObI.nl ?_ ?_);omega)|((refine ObX.mk _ rfl ?_ ?_);exact zX)|((with_reducible refine (?_:ObL _ _));(refine ObL.mk _ zM ?_))|((with_reducible refine (?_:ObR _ _ _));(first|(refine ObR.mk _ zA ?_)|(refine ObR.map zX (fun x hx=>?_))|(refine ObR.mk _ rfl ?_))))
   conv=>whnf
   refine Again.mk (i+1,l) ⟨by dsimp only;omega,by dsimp only;rw [f2 hx,<- hl]⟩ ?_ (Fg.vw [(0,0,0),(0,1,0)] ?_ ?_ (by simp) ?_)
   ·dsimp only;omega
   all_goals repeat' ((conv=>whnf);first|((refine ObN.mk ?_ ?_);exact zN)|((with_reducible refine ObRn.mk ?_ ?_);(focus (first|rfl|(simp [rnB,rnC,rnL];done))))|((with_reducible refine ObRow.same ?_ ?_ ?_);exact zE;(focus (first|rfl|assumption|(simp;done))))|((refine ObEqs.mk ?_ ?_);rfl)|exact True.intro)
  ·have r1 := nr_i (l ++ [x])
   have us:=WJ (l:=l) (x:=x)
   repeat' ((conv=>whnf);first|(refine SeqP.go ?_)|((refine ObD.mk ?_ ?_);exact zD)|((refine ObN.mk ?_ ?_);exact zN)|(refine ObT.tt ?_)|((refine ObB.yes ?_ ?_);exact zB)|((refine ObB.no ?_ ?_);exact zC)|((with_reducible refine ObI.nl ?_ ?_);omega)|((refine ObX.mk _ rfl ?_ ?_);exact zX)|((with_reducible refine (?_:ObL _ _));(refine ObL.mk _ zM ?_))|((with_reducible refine (?_:ObU _ _));(refine ObU.mk _ zq3 ?_))|((with_reducible refine (?_:ObR _ _ _));(first|(refine ObR.mk _ zA ?_)|(refine ObR.map zX (fun x hx=>?_))|(refine ObR.mk _ rfl ?_))))
   conv=>whnf
   refine Again.mk (i+1,l++[x]) ⟨by dsimp only;omega,by dsimp only;rw [f1 hx,<- hl]⟩ ?_ (Fg.vw [(0,0,0),(0,1,1)] ?_ ?_ (by simp) ?_)
   ·dsimp only;omega
   all_goals repeat' ((conv=>whnf);first|((refine ObN.mk ?_ ?_);exact zN)|((with_reducible refine ObRn.mk ?_ ?_);(focus (first|rfl|(simp [rnB,rnC,rnL];done))))|((with_reducible refine ObRow.same ?_ ?_ ?_);exact zE;(focus (first|rfl|assumption|(simp;done))))|((refine ObEqs.mk ?_ ?_);rfl)|exact True.intro)
 ·obtain rfl : i = kk.length := by omega
  rw [List.take_length] at hl
  rw [List.filter_append,<- hl]
  by_cases hm:mn=0
  ·have e:[mn].filter (fun r=>decide (r ≠ 0))=[]:=by simp [hm]
   have la:=i_all (l:=l)
   have lp:=p_i l
   rw [e,List.append_nil]
   repeat' ((conv=>whnf);first|(refine SeqP.go ?_)|((refine ObN.mk ?_ ?_);exact zN)|(refine ObT.ff ?_)|((refine ObB.yes ?_ ?_);exact zB)|((refine ObB.no ?_ ?_);exact zC)|((with_reducible refine (?_:ObL _ _));(refine ObL.mk _ zM ?_))|((with_reducible refine (?_:ObU _ _));(refine ObU.mk _ zq4 ?_))|((with_reducible refine (?_:ObR _ _ _));(first|(refine ObR.mk _ zA ?_)|(refine ObR.map zX (fun x hx=>?_))|(refine ObR.mk _ rfl ?_)))|((refine ObEq.mk ?_);exact zE))
  ·have e:[mn].filter (fun r=>decide (r ≠ 0))=[mn]:=by simp [hm]
   have us:=WJ (l:=l) (x:=mn)
   have hl1:l.length+[I mn].length=(l++[mn]).length:=by simp
   have la:((l++[mn]).map iA).take (l++[mn]).length=(l++[mn]).map iA:=i_all
   have lp:=p_i (l++[mn])
   rw [e]
   repeat' ((conv=>whnf);first|(refine SeqP.go ?_)|((refine ObD.mk ?_ ?_);exact zD)|((refine ObN.mk ?_ ?_);exact zN)|(with_reducible first|refine ObT.tt ?_|refine ObT.ff ?_)|((refine ObB.no ?_ ?_);exact zC)|((with_reducible refine (?_:ObL _ _));(refine ObL.mk _ (by first|exact hl1|exact (List.length_map _)|assumption|exact (List.length_map _).trans (by assumption)|exact List.length_map _|rfl) ?_))|((with_reducible refine (?_:ObU _ _));(refine ObU.mk _ (by first|exact us|exact la|assumption|((conv=>lhs;simp only [List.set_cons_zero,List.set_cons_succ,List.take_succ_cons,List.take_zero,List.drop_succ_cons,List.drop_zero,List.nil_append,List.cons_append,List.append_nil,List.take_nil,List.drop_nil]);try rfl)|rfl) ?_))|((with_reducible refine (?_:ObR _ _ _));(first|(refine ObR.mk _ zA ?_)|(refine ObR.map zX (fun x hx=>?_))|(refine ObR.mk _ rfl ?_)))|((refine ObEq.mk ?_);exact zE))
end
noncomputable def okI (i:Nat) (x:Nd):Bool:=decide (WD x=0) && (rfN x).all fun r=>decide (-1 - r < (i:Int))
noncomputable def aI (l:List Nd) (k:Nat):Bool:=(List.range k).all fun i=>match l[i]? with|some x=>okI i x|none=>true
noncomputable def okP (l:List Nd) (rt:Int) (od:List Int):Bool:=(od.all fun r=>decide (0 < r)) && aI l l.length && decide (-1 - rt < (l.length:Int))
theorem rf_i64 {x:Nd} (h:x.Ok):∀ r ∈ rfN x,i64 r:=fun r hr=>by
 simp only [rfN,List.mem_filter,List.mem_append,List.mem_singleton] at hr
 rcases hr.1 with h1|h1
 ·exact h.ks r h1
 ·rw [h1];exact h.mn
theorem rf_len {x:Nd} (h:x.Ok):(rfN x).length<=41:=by
 have h1:=List.length_filter_le (fun r:Int=>decide (r ≠ 0)) (x.kk++[x.mn])
 have h2:=h.kk
 rw [List.length_append] at h1
 unfold rfN
 simp only [List.length_cons,List.length_nil] at h1
 omega
section
variable (G:Nat->AV)
end
section
variable (G:Nat->AV)
end
structure Nd.Wd (x:Nd):Prop where
 mp:x.mp < 4294967296
 ke:x.ke.size<=9223372036854775807
 va:x.va.size<=9223372036854775807
 kk:x.kk.length<=9223372036854775807
 ls:x.ls.length<=9223372036854775807
 sz:∀ p ∈ x.ls,p.1.size<=9223372036854775807/\p.2.size<=9223372036854775807
 mn:i64 x.mn
 ks:∀ r ∈ x.kk,i64 r
def Xr (x:Nd):Nd:=⟨x.kn,yY x.ke 40,yY x.va 40,x.mp,wv x.kk,x.mn,few x.ls,x.sz,x.bi⟩
theorem fewX_ok {x:Nd} (h:x.Wd):(Xr x).Ok :=
 ⟨h.mp,xg _,xg _,by show (wv x.kk).length<=40;rw [few1_len];omega,few_len _,few_sizes,h.mn,fun r hr=>h.ks r (List.mem_of_mem_take hr)⟩
section
variable (G:Nat->AV)
theorem few9 (x:Nd) (h:x.Wd):PC Tryd.prog G 13 [nA x] (nA (Xr x)):=fewN G x.kn x.ke x.va x.mp x.kk x.mn x.ls x.sz x.bi h.ke h.va h.kk h.ls h.sz
end
theorem Nd.Ok.wd {x:Nd} (h:x.Ok):x.Wd:=⟨h.mp,by have:=h.ke;omega,by have:=h.va;omega,by have:=h.kk;omega,by have:=h.ls;omega,fun p hp=>by have:=h.sz p hp;omega,h.mn,h.ks⟩
theorem fewX_eq {x:Nd} (h:x.Ok):Xr x=x:=by
 obtain ⟨kn,ke,va,mp,kk,mn,ls,sz,bi⟩:=x
 have h1:=h.ke;have h2:=h.va;have h3:=h.kk;have h4:=h.ls;have h5:=h.sz
 dsimp only at h1 h2 h3 h4 h5
 simp only [Xr,Yu h1,Yu h2,few1_short h3,few_short h4 h5]
theorem nr_n (l:List Nd):(l.map nA).all nrB=true:=by simp [nrB,AV.cells]
theorem p_n (l:List Nd):(l.map nA).all AV.isP=true:=by simp [AV.isP,AV.isC,AV.isC0]
theorem n_snoc {l:List Nd} {x:Nd}:(l.map nA).take l.length++[nA x]=(l++[x]).map nA:=by
 rw [List.take_of_length_le (by simp)];simp
theorem n_all {l:List Nd}:(l.map nA).take l.length=l.map nA:=List.take_of_length_le (by simp)
section
variable (G:Nat->AV)
end
end Go.Proofs.YtfocijljkkfonaaDoor.Sim
