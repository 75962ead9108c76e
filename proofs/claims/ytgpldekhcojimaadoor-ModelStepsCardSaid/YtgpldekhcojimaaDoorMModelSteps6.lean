/- Texts of this claim, part 6. -/
import Derived.Test.YtgpldekhcojimaaDoorMModelSteps5
set_option linter.unusedVariables false
set_option linter.unusedSimpArgs false
namespace Go.Proofs.YtgpldekhcojimaaDoor.Sim
open Go.RowKit
set_option maxRecDepth 100000
theorem islH:xc Tryd.prog 37=true:=by kernel_rfl
set_option maxHeartbeats 4000000 in
theorem cl66e (G:Nat→AV):PC Tryd.prog G 66 [.sl 2 []] (.sl 2 []):=by
 refine @pc_em _ _ _ _ _ cop66 [] [] 2 _ fun b=>?_
 cases b
 all_goals
  show W _ _ _ _ ⟨_,_⟩
  simp only [A66,List.cons_append,List.nil_append,List.length_cons,List.length_nil,Nat.reduceAdd,Nat.reduceSub,List.replicate]
  repeat (first|(with_reducible first|refine zJ ?_|refine zI ?_|refine Ze ?_|refine zk ?_|refine zh ?_|refine Zl ?_|refine ZC ?_)|((with_reducible first|refine ks fun K hK=>?_|refine kd fun K hK=>?_|refine kc fun K hK2 hK hK3=>?_|refine Zr fun K hR=>?_|refine Zj rfl fun K hR=>?_|refine Zi fun K hR=>?_);simp (disch:=omega) only [bg0,bg1,bg2,bg3,bg4,zr,zS,eff,AX.ev,St.put,zQ,zP,ap1,zg,Int.reduceTMod,Int.reduceTDiv,reduceCtorEq,zt,AV.cells,AV.fine,AV.one,Nat.reduceAdd,Nat.reduceSub,Nat.reduceMul,Nat.reduceLT,Nat.reduceLeDiff,Int.reduceLT,Int.reduceLE,Int.reduceAdd,Int.reduceSub,Int.reduceNeg,Int.reduceMul,Int.reduceEq,Int.reduceToNat,zW,zp,live,zo,rdA,ze,wrA,zH,zq,zV,zR,zT,zi,zb,zm,zj,zd,cut,id,ap2,reduceIte,zu,zY,geB,AOp.cls,AOp.xs,ltB,ltC,Nat.reduceBEq,Option.toList,List.cons_append,decide_eq_true,decide_eq_false,if_pos,if_neg,List.length_map,List.cons_append,bVb,bVn,eq_self,Bool.and_self,BEq.rfl,not_true_eq_false,islH,Yn,yN,w4,Xe,Bool.not_false,Bool.not_true];(first|(with_reducible first|(refine hK _ ?_;clear hK K)|(refine hK ?_;clear hK hK3 K hK2)|(refine hK3 ?_;clear hK hK3 K hK2))|((with_reducible refine hR _ ?_ ?_ ?_ ?_);rotate_left 2;rfl;rfl)|((with_reducible refine hR _ ?_);rfl))))
set_option maxHeartbeats 4000000 in
theorem cl36e (G:Nat→AV):PC Tryd.prog G 36 [sA [] []] (sA [] []):=by
 have c1:=Pr7.clone27e G
 have c2:=cl66e G
 have z1:([]:List AV).length=0:=rfl
 have z2:([]:List Hd).length=0:=rfl
 have z3:¬ ((0:Int) < (([]:List AV).length:Nat)):=by simp
 have z4:¬ ((0:Int) < (([]:List Hd).length:Nat)):=by simp
 refine zf cop36 ?_
 repeat' ((conv=>whnf);first|(refine SeqP.go ?_)|exact SameP.mk rfl rfl|(with_reducible first|refine ObAnd.mk ?_ ?_|refine ObDx.same ?_)|((refine ObD.mk ?_ ?_);exact zD)|((refine ObN.mk ?_ ?_);exact zN)|((with_reducible refine (?_:ObL _ _));(refine ObL.mk _ zL ?_))|((with_reducible refine (?_:ObU _ _));(refine ObU.mk _ zU ?_))|((with_reducible refine (?_:ObR _ _ _));(first|(refine ObR.mk _ zA ?_)|(refine ObR.map zX (fun x hx=>?_))|(refine ObR.mk _ rfl ?_)))|((refine ObH.f 65 ?_);(first|(with_reducible refine ObH.mk _ _ ((Zz (by rfl) c1 _)) ?_)|(refine ObH.mk _ _ ((Zz (by rfl) c1 _)) ?_)))|((refine ObH.f 66 ?_);(first|(with_reducible refine ObH.mk _ _ ((Zz (by rfl) c2 _)) ?_)|(refine ObH.mk _ _ ((Zz (by rfl) c2 _)) ?_))))
 conv=>whnf
 refine LoopP.go (α:=Unit) (fun _=>True) (fun _=>0) (fun _=>[(4,none),(10,some (I 0)),(0,none),(0,none),(0,none),(0,none),(0,none),(0,none),(0,none),(0,none),(0,none),(0,none),(0,none),(0,none),(0,none),(0,none),(0,none)]) (fun _=>[⟨39,2,[sA [] []],0,0⟩,⟨39,2,[.agg [.nl 2,.nl 2]],0,0⟩,⟨39,2,[sA [] []],0,0⟩]) () trivial (Fg.go ?_ rfl) ?_
 ·repeat' ((conv=>whnf);first|((refine ObEqs.mk ?_ ?_);rfl)|((with_reducible refine ObEq1.i ?_ ?_);exact zF)|exact True.intro)
 rintro ⟨⟩ -
 repeat' ((conv=>whnf);first|(refine SeqP.go ?_)|((refine ObD.mk ?_ ?_);exact zD)|((refine ObN.mk ?_ ?_);exact zN)|(refine ObT.ff ?_)|((refine ObB.no ?_ ?_);exact zC)|((with_reducible refine (?_:ObU _ _));(refine ObU.mk _ zU ?_))|((with_reducible refine (?_:ObR _ _ _));(first|(refine ObR.mk _ zA ?_)|(refine ObR.map zX (fun x hx=>?_))|(refine ObR.mk _ rfl ?_)))|((refine ObEq.mk ?_);exact zE))
end Go.Proofs.YtgpldekhcojimaaDoor.Sim
namespace Go.Proofs.YtgpldekhcojimaaDoor.Sim
open Go.RowKit
set_option maxRecDepth 100000
open Pr7
theorem tk_next {α:Type} {a b:List α} {k:Nat} (hq:a.take k=b.take k) (ha:k < a.length) (hb:k < b.length) (e:a[k]=b[k]):a.take (k+1)=b.take (k+1):=by
 rw [List.take_add_one,List.take_add_one,List.getElem?_eq_getElem ha,List.getElem?_eq_getElem hb,hq,e]
theorem tk_no {α:Type} {a b:List α} {k:Nat} {r:Bool} (hr:r=true↔a=b) (ha:k < a.length) (hb:k < b.length) (e:¬ a[k]=b[k]):r=false:=by
 cases r with
 | false=>rfl
 | true=>obtain rfl:=hr.1 rfl;exact absurd rfl e
theorem ln_no {α:Type} {a b:List α} {r:Bool} (hr:r=true↔a=b) (hn:¬ a.length=b.length):r=false:=by
 cases r with
 | false=>rfl
 | true=>exact absurd (by rw [hr.1 rfl]) hn
theorem tk_all {α:Type} {a b:List α} {r:Bool} (hr:r=true↔a=b) (hn:a.length=b.length) (hq:a.take a.length=b.take a.length):r=true :=
 hr.2 (by rwa [List.take_length,hn,List.take_length] at hq)
section
variable (G:Nat→AV)
def sH (a b:List Hd):Prop:=a.map (fun x=>(x.1,mk x.2))=b.map (fun x=>(x.1,mk x.2))
set_option maxHeartbeats 4000000 in
theorem rsame14 (l m : List Pr) (H K : List Hd) (hH : H.length ≤ 1000000) (hK : K.length ≤ 1000000) (hl : (mk l).length ≤ 1000000) (hm : (mk m).length ≤ 1000000)
  (cl:PC Tryd.prog G 35 [.sl 2 (l.map pA)] (.sl 2 ((mk l).map pA))) (cm:PC Tryd.prog G 35 [.sl 2 (m.map pA)] (.sl 2 ((mk m).map pA)))
  (cH:∀ x ∈ H,PC Tryd.prog G 35 [.sl 2 (x.2.map pA)] (.sl 2 ((mk x.2).map pA))∧(mk x.2).length≤1000000) (cK:∀ x ∈ K,PC Tryd.prog G 35 [.sl 2 (x.2.map pA)] (.sl 2 ((mk x.2).map pA))∧(mk x.2).length≤1000000)
  (r:Bool) (hr:r=true↔(mk l=mk m∧sH H K)):PC Tryd.prog G 14 [sA l H,sA m K] (Bo r):=by
 unfold sH at hr
 by_cases hlm:mk l=mk m
 ·have s1 := XN G (mk l) (mk m) hl hm true (by simp [hlm])
  simp only [hlm,true_and] at hr
  by_cases hn:H.length=K.length
  ·refine zf cop14 ?_
   have hn2:(H.length:Int)=(K.length:Int):=by omega
   repeat' ((conv=>whnf);first|(refine SeqP.go ?_)|((refine ObD.mk ?_ ?_);exact zD)|((refine ObN.mk ?_ ?_);exact zN)|(with_reducible first|refine ObT.tt ?_|refine ObT.ff ?_)|((refine ObB.yes ?_ ?_);exact zB)|((with_reducible refine (?_:ObL _ _));(refine ObL.mk _ zM ?_))|((with_reducible refine (?_:ObR _ _ _));(first|(refine ObR.mk _ zA ?_)|(refine ObR.map zX (fun x hx=>?_))|(refine ObR.mk _ rfl ?_)))|((refine ObC.f 35 ?_);(refine ObC.mk _ (cl) ?_))|((refine ObC.f 35 ?_);(refine ObC.mk _ (cm) ?_))|((refine ObC.f 43 ?_);(refine ObC.mk _ (s1) ?_)))
   conv=>whnf
   refine LoopP.go (α:=Nat) (fun k=>k≤H.length∧(H.map (fun x=>(x.1,mk x.2))).take k=(K.map (fun x=>(x.1,mk x.2))).take k) (fun k=>H.length - k) (fun k=>[(4,some (Bo false)),(0,some (I k)),(17,none),(0,none),(0,none),(0,none),(0,none),(0,none),(0,none),(0,none),(0,none),(0,none),(0,none),(0,none),(0,none),(0,none),(0,none),(0,none),(0,none),(0,none),(0,none),(0,none),(0,none),(0,none),(0,none),(0,none),(0,none),(0,none),(0,none),(0,none),(0,none),(0,none),(0,none),(0,none),(0,none),(0,none),(0,none),(0,none),(0,none),(0,none)]) (fun _=>[⟨27,2,[sA l H],0,0⟩,⟨27,2,[sA m K],0,0⟩]) 0 ⟨Nat.zero_le _,rfl⟩ (Fg.go ?_ rfl) ?_
   ·repeat' ((conv=>whnf);first|((refine ObEqs.mk ?_ ?_);rfl)|((with_reducible refine ObEq1.i ?_ ?_);exact zF)|((with_reducible refine ObEq1.mk ?_ ?_);exact zE)|exact True.intro)
   rintro k ⟨hk,hq⟩
   by_cases hka:k < H.length
   ·have hkb : k < K.length := by omega
    have q1:=Yb hka
    have q2:=Yb hkb
    have f1:=tk_next hq (by simpa using hka) (by simpa using hkb)
    have f2:=tk_no hr (by simpa using hka) (by simpa using hkb)
    simp only [List.getElem_map] at f1 f2
    obtain ⟨c1,n1⟩:=cH _ (List.getElem_mem hka)
    obtain ⟨c2,n2⟩:=cK _ (List.getElem_mem hkb)
    generalize H[k]=x at *
    generalize K[k]=y at *
    by_cases hi:x.1=y.1
    ·by_cases he : mk x.2 = mk y.2
     ·have s2 := XN G (mk x.2) (mk y.2) n1 n2 true (by simp [he])
      repeat' ((conv=>whnf);first|(refine SeqP.go ?_)|((refine ObD.mk ?_ ?_);exact zD)|((refine ObN.mk ?_ ?_);exact zN)|(with_reducible first|refine ObT.tt ?_|refine ObT.ff ?_)|((refine ObB.yes ?_ ?_);exact zB)|((with_reducible refine ObI.nl ?_ ?_);omega)|((refine ObX.mk _ rfl ?_ ?_);exact zX)|((with_reducible refine (?_:ObL _ _));(refine ObL.mk _ zM ?_))|((with_reducible refine (?_:ObR _ _ _));(first|(refine ObR.mk _ (by assumption) ?_)|(refine ObR.mk _ (by exact q1) ?_)|(refine ObR.mk _ (by exact q2) ?_)|(refine ObR.mk _ Zv ?_)|(refine ObR.map zX (fun x hx=>?_))|(refine ObR.mk _ rfl ?_)))|((refine ObC.f 35 ?_);(refine ObC.mk _ (c1) ?_))|((refine ObC.f 35 ?_);(refine ObC.mk _ (c2) ?_))|((refine ObC.f 43 ?_);(refine ObC.mk _ (s2) ?_)))
      conv=>whnf
      refine Again.mk (k+1) ⟨by omega,f1 (by rw [hi,he])⟩ (by omega) (Fg.go ?_ rfl)
      repeat' ((conv=>whnf);first|((refine ObEqs.mk ?_ ?_);rfl)|((with_reducible refine ObEq1.i ?_ ?_);exact zF)|((with_reducible refine ObEq1.mk ?_ ?_);exact zE)|exact True.intro)
     ·have s2 := XN G (mk x.2) (mk y.2) n1 n2 false (by simp [he])
      obtain rfl:=f2 (fun h=>he ((Prod.mk.inj h).2))
      repeat' ((conv=>whnf);first|(refine SeqP.go ?_)|((refine ObD.mk ?_ ?_);exact zD)|((refine ObN.mk ?_ ?_);exact zN)|(with_reducible first|refine ObT.tt ?_|refine ObT.ff ?_)|((refine ObB.yes ?_ ?_);exact zB)|((refine ObX.mk _ rfl ?_ ?_);exact zX)|((with_reducible refine (?_:ObL _ _));(refine ObL.mk _ zM ?_))|((with_reducible refine (?_:ObR _ _ _));(first|(refine ObR.mk _ (by assumption) ?_)|(refine ObR.mk _ (by exact q1) ?_)|(refine ObR.mk _ (by exact q2) ?_)|(refine ObR.mk _ Zv ?_)|(refine ObR.map zX (fun x hx=>?_))|(refine ObR.mk _ rfl ?_)))|((refine ObC.f 35 ?_);(refine ObC.mk _ (c1) ?_))|((refine ObC.f 35 ?_);(refine ObC.mk _ (c2) ?_))|((refine ObC.f 43 ?_);(refine ObC.mk _ (s2) ?_))|((refine ObEq.mk ?_);exact zE))
    ·obtain rfl:=f2 (fun h=>hi ((Prod.mk.inj h).1))
     repeat' ((conv=>whnf);first|(refine SeqP.go ?_)|((refine ObD.mk ?_ ?_);exact zD)|((refine ObN.mk ?_ ?_);exact zN)|(refine ObT.tt ?_)|((refine ObB.yes ?_ ?_);exact zB)|((refine ObB.no ?_ ?_);exact zC)|((refine ObX.mk _ rfl ?_ ?_);exact zX)|((with_reducible refine (?_:ObL _ _));(refine ObL.mk _ zM ?_))|((with_reducible refine (?_:ObR _ _ _));(first|(refine ObR.mk _ (by assumption) ?_)|(refine ObR.mk _ (by exact q1) ?_)|(refine ObR.mk _ (by exact q2) ?_)|(refine ObR.mk _ Zv ?_)|(refine ObR.map zX (fun x hx=>?_))|(refine ObR.mk _ rfl ?_)))|((refine ObEq.mk ?_);exact zE))
   ·obtain rfl : k = H.length := by omega
    obtain rfl:=tk_all hr (by simpa using hn) (by simpa using hq)
    repeat' ((conv=>whnf);first|(refine SeqP.go ?_)|((refine ObN.mk ?_ ?_);exact zN)|(refine ObT.ff ?_)|((refine ObB.no ?_ ?_);exact zC)|((with_reducible refine (?_:ObL _ _));(refine ObL.mk _ zL ?_))|((with_reducible refine (?_:ObR _ _ _));(first|(refine ObR.mk _ zA ?_)|(refine ObR.map zX (fun x hx=>?_))|(refine ObR.mk _ rfl ?_)))|((refine ObEq.mk ?_);exact zE))
  ·obtain rfl := ln_no hr (by simpa using hn)
   have hn2:¬ (H.length:Int)=(K.length:Int):=by omega
   refine zf cop14 ?_
   repeat' ((conv=>whnf);first|(refine SeqP.go ?_)|((refine ObD.mk ?_ ?_);exact zD)|((refine ObN.mk ?_ ?_);exact zN)|(with_reducible first|refine ObT.tt ?_|refine ObT.ff ?_)|((refine ObB.no ?_ ?_);exact zC)|((with_reducible refine (?_:ObL _ _));(refine ObL.mk _ zM ?_))|((with_reducible refine (?_:ObR _ _ _));(first|(refine ObR.mk _ zA ?_)|(refine ObR.map zX (fun x hx=>?_))|(refine ObR.mk _ rfl ?_)))|((refine ObC.f 35 ?_);(refine ObC.mk _ (cl) ?_))|((refine ObC.f 35 ?_);(refine ObC.mk _ (cm) ?_))|((refine ObC.f 43 ?_);(refine ObC.mk _ (s1) ?_))|((refine ObEq.mk ?_);exact zE))
 ·have s1 := XN G (mk l) (mk m) hl hm false (by simp [hlm])
  obtain rfl:r=false:=by
   cases r with
   | false=>rfl
   | true=>exact absurd (hr.1 rfl).1 hlm
  refine zf cop14 ?_
  repeat' ((conv=>whnf);first|(refine SeqP.go ?_)|((refine ObD.mk ?_ ?_);exact zD)|((refine ObN.mk ?_ ?_);exact zN)|(with_reducible first|refine ObT.tt ?_|refine ObT.ff ?_)|((with_reducible refine (?_:ObR _ _ _));(first|(refine ObR.mk _ zA ?_)|(refine ObR.map zX (fun x hx=>?_))|(refine ObR.mk _ rfl ?_)))|((refine ObC.f 35 ?_);(refine ObC.mk _ (cl) ?_))|((refine ObC.f 35 ?_);(refine ObC.mk _ (cm) ?_))|((refine ObC.f 43 ?_);(refine ObC.mk _ (s1) ?_))|((refine ObEq.mk ?_);exact zE))
end
end Go.Proofs.YtgpldekhcojimaaDoor.Sim
namespace Go.Proofs.YtgpldekhcojimaaDoor.Sim
open Go.RowKit
set_option maxRecDepth 100000
open Pr7
def fx (H:List Hd) (id:Int):Option Nat:=H.findIdx? fun x=>decide (x.1=id)
def hix (H:List Hd) (id:Int):Int:=match fx H id with|some i=>(i:Int)|none=>-1
theorem fx_some {H:List Hd} {id:Int} {k:Nat} (hk:k < H.length) (h:∀ (j:Nat) (hj:j < H.length),j < k→¬ H[j].1=id) (e:H[k].1=id):fx H id=some k:=by
 unfold fx
 rw [List.findIdx?_eq_some_iff_getElem]
 exact ⟨hk,by simpa using e,fun j hj=>by simpa using h j (by omega) hj⟩
theorem fx_none {H:List Hd} {id:Int} (h:∀ (j:Nat) (hj:j < H.length),j < H.length→¬ H[j].1=id):fx H id=none:=by
 unfold fx
 rw [List.findIdx?_eq_none_iff]
 intro x hx
 obtain ⟨j,hj,rfl⟩:=List.mem_iff_getElem.1 hx
 simpa using h j hj hj
theorem no_next {H:List Hd} {id:Int} {k:Nat} (hk:k < H.length) (h:∀ (j:Nat) (hj:j < H.length),j < k→¬ H[j].1=id) (e:¬ H[k].1=id):∀ (j:Nat) (hj:j < H.length),j < k+1→¬ H[j].1=id:=by
 intro j hj hl
 by_cases hjk:j=k
 ·subst hjk;exact e
 ·exact h j hj (by omega)
section
variable (G:Nat→AV)
theorem cl70 (x:Hd) (id:Int) (r:Bool) (hr:r=decide (x.1=id)):PC Tryd.prog G 70 [.agg [I x.1,.sl 2 (x.2.map pA)],.ad 1 [I id] 0 0] (Bo r):=by
 subst hr
 by_cases h:x.1=id
 ·rw [decide_eq_true h]
  refine zf cop70 ?_
  repeat' ((conv=>whnf);first|(refine SeqP.go ?_)|((refine ObD.mk ?_ ?_);exact zD)|((refine ObN.mk ?_ ?_);exact zN)|((refine ObB.yes ?_ ?_);exact zB)|((with_reducible refine (?_:ObR _ _ _));(first|(refine ObR.mk _ zA ?_)|(refine ObR.map zX (fun x hx=>?_))|(refine ObR.mk _ rfl ?_)))|((refine ObEq.mk ?_);exact zE))
 ·rw [decide_eq_false h]
  refine zf cop70 ?_
  repeat' ((conv=>whnf);first|(refine SeqP.go ?_)|((refine ObD.mk ?_ ?_);exact zD)|((refine ObN.mk ?_ ?_);exact zN)|((refine ObB.no ?_ ?_);exact zC)|((with_reducible refine (?_:ObR _ _ _));(first|(refine ObR.mk _ zA ?_)|(refine ObR.map zX (fun x hx=>?_))|(refine ObR.mk _ rfl ?_)))|((refine ObEq.mk ?_);exact zE))
set_option maxHeartbeats 2000000 in
theorem if69 (H:List Hd) (hH:H.length≤1000000) (id:Int):PC Tryd.prog G 69 [.sl 2 (H.map hA),.fn 70 [.ad 1 [I id] 0 0]] (I (hix H id)):=by
 refine zf cop69 ?_
 repeat' ((conv=>whnf);first|(refine SeqP.go ?_)|((with_reducible refine (?_:ObL _ _));(refine ObL.mk _ zM ?_)))
 conv=>whnf
 refine LoopP.go (α:=Nat) (fun k=>k≤H.length∧∀ (j:Nat) (hj:j < H.length),j < k→¬ H[j].1=id) (fun k=>H.length - k) (fun k=>[(4,some (I 0)),(0,none),(2,some (I k)),(0,none),(0,none),(0,none),(0,none),(0,none),(0,none),(0,none),(0,none),(0,none),(0,none)]) (fun _=>[]) 0 ⟨Nat.zero_le _,fun j hj h=>by omega⟩ (Fg.go ?_ rfl) ?_
 ·repeat' ((conv=>whnf);first|((refine ObEqs.mk ?_ ?_);rfl)|((with_reducible refine ObEq1.i ?_ ?_);exact zF)|exact True.intro)
 rintro k ⟨hk,hq⟩
 by_cases hkl:k < H.length
 ·have q := Yb hkl
  have f1:=fx_some hkl hq
  have f2:=no_next hkl hq
  generalize H[k]=x at *
  by_cases he:x.1=id
  ·have c := cl70 G x id true (by simp [he])
   have e:hix H id=k:=by unfold hix;rw [f1 he]
   rw [e]
   repeat' ((conv=>whnf);first|(refine SeqP.go ?_)|((refine ObD.mk ?_ ?_);exact zD)|((refine ObN.mk ?_ ?_);exact zN)|(refine ObT.tt ?_)|((refine ObB.yes ?_ ?_);exact zB)|((refine ObX.mk _ rfl ?_ ?_);exact zX)|((with_reducible refine (?_:ObU _ _));(refine ObU.mk _ zU ?_))|((with_reducible refine (?_:ObR _ _ _));(first|(refine ObR.mk _ (by assumption) ?_)|(refine ObR.mk _ (by exact q) ?_)|(refine ObR.mk _ Zv ?_)|(refine ObR.map zX (fun x hx=>?_))|(refine ObR.mk _ rfl ?_)))|((refine ObH.f 70 ?_);(first|(with_reducible refine ObH.mk _ _ ((Zz (by rfl) c _)) ?_)|(refine ObH.mk _ _ ((Zz (by rfl) c _)) ?_)))|((with_reducible refine ObEq.i ?_);exact zF))
  ·have c := cl70 G x id false (by simp [he])
   repeat' ((conv=>whnf);first|(refine SeqP.go ?_)|((refine ObD.mk ?_ ?_);exact zD)|((refine ObN.mk ?_ ?_);exact zN)|(with_reducible first|refine ObT.tt ?_|refine ObT.ff ?_)|((refine ObB.yes ?_ ?_);exact zB)|((with_reducible refine ObI.nl ?_ ?_);omega)|((refine ObX.mk _ rfl ?_ ?_);exact zX)|((with_reducible refine (?_:ObU _ _));(refine ObU.mk _ zU ?_))|((with_reducible refine (?_:ObR _ _ _));(first|(refine ObR.mk _ (by assumption) ?_)|(refine ObR.mk _ (by exact q) ?_)|(refine ObR.mk _ Zv ?_)|(refine ObR.map zX (fun x hx=>?_))|(refine ObR.mk _ rfl ?_)))|((refine ObH.f 70 ?_);(first|(with_reducible refine ObH.mk _ _ ((Zz (by rfl) c _)) ?_)|(refine ObH.mk _ _ ((Zz (by rfl) c _)) ?_))))
   conv=>whnf
   refine Again.mk (k+1) ⟨by omega,f2 he⟩ (by omega) (Fg.go ?_ rfl)
   repeat' ((conv=>whnf);first|((refine ObEqs.mk ?_ ?_);rfl)|((with_reducible refine ObEq1.i ?_ ?_);exact zF)|exact True.intro)
 ·obtain rfl : k = H.length := by omega
  have e:hix H id = -1:=by unfold hix;rw [fx_none hq]
  rw [e]
  repeat' ((conv=>whnf);first|(refine SeqP.go ?_)|((refine ObN.mk ?_ ?_);exact zN)|(refine ObT.ff ?_)|((refine ObB.no ?_ ?_);exact zC)|((with_reducible refine ObEq.i ?_);exact zF))
theorem xJ (l:List Pr) (H:List Hd) (hH:H.length≤1000000) (id:Int):PC Tryd.prog G 40 [sA l H,I id] (I (hix H id)):=by
 have c:=if69 G H hH id
 refine zf cop40 ?_
 repeat' ((conv=>whnf);first|(refine SeqP.go ?_)|((refine ObD.mk ?_ ?_);exact zD)|((refine ObN.mk ?_ ?_);exact zN)|((with_reducible refine (?_:ObR _ _ _));(first|(refine ObR.mk _ zA ?_)|(refine ObR.map zX (fun x hx=>?_))|(refine ObR.mk _ rfl ?_)))|((refine ObC.f 69 ?_);(refine ObC.mk _ (c) ?_))|((with_reducible refine ObEq.i ?_);exact zF))
def atV (H:List Hd) (id:Int):List Pr × Bool:=match fx H id with|some i=>((H.getD i (0,[])).2,true)|none=>([],false)
set_option maxHeartbeats 2000000 in
theorem at23 (l:List Pr) (H:List Hd) (hH:H.length≤1000000) (id:Int):PC Tryd.prog G 23 [sA l H,I id] (.tup [.sl 2 ((atV H id).1.map pA),Bo (atV H id).2]):=by
 refine zf cop23 ?_
 repeat' ((conv=>whnf);first|(refine SeqP.go ?_)|((refine ObD.mk ?_ ?_);exact zD))
 conv=>whnf
 refine LoopP.go (α:=Nat) (fun k=>k≤H.length∧∀ (j:Nat) (hj:j < H.length),j < k→¬ H[j].1=id) (fun k=>H.length - k) (fun k=>[(4,some (.nl 2)),(0,some (Bo false)),(0,some (I k)),(0,none),(0,none),(0,none),(0,none),(0,none),(0,none),(0,none),(0,none),(0,none),(0,none),(0,none),(0,none),(0,none),(0,none),(0,none),(0,none),(0,none),(0,none),(0,none),(0,none),(0,none)]) (fun _=>[⟨27,2,[sA l H],0,0⟩]) 0 ⟨Nat.zero_le _,fun j hj h=>by omega⟩ (Fg.go ?_ rfl) ?_
 ·repeat' ((conv=>whnf);first|((refine ObEqs.mk ?_ ?_);rfl)|((with_reducible refine ObEq1.i ?_ ?_);exact zF)|((with_reducible refine ObEq1.mk ?_ ?_);exact zE)|exact True.intro)
 rintro k ⟨hk,hq⟩
 by_cases hkl:k < H.length
 ·have q := Yb hkl
  have f1:=fx_some hkl hq
  have f2:=no_next hkl hq
  have e:H[k].1=id→atV H id=(H[k].2,true):=fun h=>by
   unfold atV
   rw [f1 h]
   simp [List.getD_eq_getElem?_getD,List.getElem?_eq_getElem hkl]
  generalize H[k]=x at *
  by_cases he:x.1=id
  ·rw [e he]
   repeat' ((conv=>whnf);first|(refine SeqP.go ?_)|((refine ObN.mk ?_ ?_);exact zN)|(refine ObT.tt ?_)|((refine ObB.yes ?_ ?_);exact zB)|((refine ObX.mk _ rfl ?_ ?_);exact zX)|((with_reducible refine (?_:ObL _ _));(refine ObL.mk _ zM ?_))|((with_reducible refine (?_:ObR _ _ _));(first|(refine ObR.mk _ (by assumption) ?_)|(refine ObR.mk _ (by exact q) ?_)|(refine ObR.mk _ Zv ?_)|(refine ObR.map zX (fun x hx=>?_))|(refine ObR.mk _ rfl ?_)))|((refine ObEq.mk ?_);exact zE))
  ·repeat' ((conv=>whnf);first|(refine SeqP.go ?_)|((refine ObN.mk ?_ ?_);exact zN)|(with_reducible first|refine ObT.tt ?_|refine ObT.ff ?_)|((refine ObB.yes ?_ ?_);exact zB)|((refine ObB.no ?_ ?_);exact zC)|((with_reducible refine ObI.nl ?_ ?_);omega)|((refine ObX.mk _ rfl ?_ ?_);exact zX)|((with_reducible refine (?_:ObL _ _));(refine ObL.mk _ zM ?_))|((with_reducible refine (?_:ObR _ _ _));(first|(refine ObR.mk _ (by assumption) ?_)|(refine ObR.mk _ (by exact q) ?_)|(refine ObR.mk _ Zv ?_)|(refine ObR.map zX (fun x hx=>?_))|(refine ObR.mk _ rfl ?_))))
   conv=>whnf
   refine Again.mk (k+1) ⟨by omega,f2 he⟩ (by omega) (Fg.go ?_ rfl)
   repeat' ((conv=>whnf);first|((refine ObEqs.mk ?_ ?_);rfl)|((with_reducible refine ObEq1.i ?_ ?_);exact zF)|((with_reducible refine ObEq1.mk ?_ ?_);exact zE)|exact True.intro)
 ·obtain rfl : k = H.length := by omega
  have e:atV H id=([],false):=by unfold atV;rw [fx_none hq]
  rw [e]
  repeat' ((conv=>whnf);first|(refine SeqP.go ?_)|((refine ObN.mk ?_ ?_);exact zN)|(refine ObT.ff ?_)|((refine ObB.no ?_ ?_);exact zC)|((with_reducible refine (?_:ObL _ _));(refine ObL.mk _ zL ?_))|((with_reducible refine (?_:ObR _ _ _));(first|(refine ObR.mk _ zA ?_)|(refine ObR.map zX (fun x hx=>?_))|(refine ObR.mk _ rfl ?_)))|((refine ObEq.mk ?_);exact zE))
end
theorem wK (G:Nat→AV) (k:ByteArray) (hk:k.size≤9223372036854775807):PC Tryd.prog G 19 [S k,I 40] (S (Ys k 40)):=cutP G k 40 hk
set_option maxHeartbeats 2000000 in
theorem short8 (G:Nat→AV) (o:Int) (x y z:ByteArray) (i:Int) (hx:x.size≤9223372036854775807) (hy:y.size≤9223372036854775807) (hz:z.size≤9223372036854775807):PC Tryd.prog G 8 [.agg [I o,S x,S y,S z,I i]] (.agg [I o,S (Ys x 40),S (Ys y 40),S (Ys z 40),I i]):=by
 have c1:=wK G x hx
 have c2:=wK G y hy
 have c3:=wK G z hz
 refine zf cop8 ?_
 repeat' ((conv=>whnf);first|(refine SeqP.go ?_)|((refine ObD.mk ?_ ?_);exact zD)|((refine ObN.mk ?_ ?_);exact zN)|((with_reducible refine (?_:ObU _ _));(refine ObU.mk _ zU ?_))|((with_reducible refine (?_:ObR _ _ _));(first|(refine ObR.mk _ zA ?_)|(refine ObR.map zX (fun x hx=>?_))|(refine ObR.mk _ rfl ?_)))|((refine ObC.f 19 ?_);(refine ObC.mk _ (c1) ?_))|((refine ObC.f 19 ?_);(refine ObC.mk _ (c2) ?_))|((refine ObC.f 19 ?_);(refine ObC.mk _ (c3) ?_))|((refine ObEq.mk ?_);exact zE))
end Go.Proofs.YtgpldekhcojimaaDoor.Sim
namespace Go.Proofs.YtgpldekhcojimaaDoor.Sim
open Go.RowKit
set_option maxRecDepth 100000
open Pr7
abbrev kA (k s t h b:Int):AV:=.fn 58 [.ad 5 [cA k s t h b] 0 0]
def Yu (lt:ByteArray→ByteArray→Bool) (best p:Pr):Pr:=if lt p.1 best.1=true then p else best
def xe (lt:ByteArray→ByteArray→Bool):List Pr→Option Pr
 | []=>none
 | a::t=>some (t.foldl (Yu lt) a)
def opP (o:Option Pr):AV:=match o with|some p=>.tup [.agg [S p.1,S p.2],Bo true]|none=>.tup [.agg [S ⟨#[]⟩,S ⟨#[]⟩],Bo false]
theorem fold_sz {lt:ByteArray→ByteArray→Bool} {a:Pr}:∀ {u:List Pr},(∀ q ∈ u,q.1.size≤100000)→a.1.size≤100000→(u.foldl (Yu lt) a).1.size≤100000:=by
 intro u
 induction u generalizing a with
 | nil=>intro _ h;exact h
 | cons x t ih =>
  intro hq h
  rw [List.foldl_cons]
  refine ih (fun q hq'=>hq q (by simp [hq'])) ?_
  unfold Yu
  split
  ·exact hq x (by simp)
  ·exact h
theorem fold_take {α β:Type} {f:β→α→β} {a:β} {u:List α} {i:Nat} (h:i < u.length):(u.take (i+1)).foldl f a=f ((u.take i).foldl f a) u[i]:=by
 rw [List.take_succ_eq_append_getElem h,List.foldl_append];rfl
section
variable (G:Nat→AV) (k s t h b:Int) (hb:i64 b)
include hb
theorem cl58 (x y:ByteArray) (hx:x.size≤100000) (hy:y.size≤100000) (r:Bool) (hr:r=bfo k b x y):PC Tryd.prog G 58 [S x,S y,.ad 5 [cA k s t h b] 0 0] (Bo r):=by
 have c:=mb16 G k s t h b x y hx hy hb r hr
 refine zf cop58 ?_
 repeat' ((conv=>whnf);first|(refine SeqP.go ?_)|((refine ObD.mk ?_ ?_);exact zD)|((with_reducible refine (?_:ObR _ _ _));(first|(refine ObR.mk _ zA ?_)|(refine ObR.map zX (fun x hx=>?_))|(refine ObR.mk _ rfl ?_)))|((refine ObC.f 16 ?_);(refine ObC.mk _ (c) ?_))|((refine ObEq.mk ?_);exact zE))
set_option maxHeartbeats 2000000 in
theorem wa (m:List Pr) (hm:m.length≤1000000) (hs:∀ p ∈ m,p.1.size≤100000):PC Tryd.prog G 59 [.sl 2 (m.map pA),kA k s t h b] (opP (xe (bfo k b) m)):=by
 cases m with
 | nil =>
  have z1:((([]:List Pr).length:Nat):Int)=0:=rfl
  refine zf cop59 ?_
  repeat' ((conv=>whnf);first|(refine SeqP.go ?_)|((refine ObD.mk ?_ ?_);exact zD)|((refine ObN.mk ?_ ?_);exact zN)|(refine ObT.tt ?_)|((refine ObB.yes ?_ ?_);exact zB)|((with_reducible refine (?_:ObL _ _));(refine ObL.mk _ zL ?_))|((with_reducible refine (?_:ObU _ _));(refine ObU.mk _ zU ?_))|((with_reducible refine (?_:ObR _ _ _));(first|(refine ObR.mk _ zA ?_)|(refine ObR.map zX (fun x hx=>?_))|(refine ObR.mk _ rfl ?_)))|((refine ObEq.mk ?_);exact zE))
 | cons a u =>
  have hul:u.length+1≤1000000:=hm
  have ha:=hs a (by simp)
  have hu:∀ p ∈ u,p.1.size≤100000:=fun p hp=>hs p (by simp [hp])
  have e1:((a::u).map pA).drop 1=u.map pA:=rfl
  have e2:(((a::u).map pA).take ((a::u).map pA).length).drop 1=u.map pA:=by rw [List.take_length];rfl
  have hne:¬ (((a::u).length:Nat):Int)=0:=by simp;omega
  have q0:((a::u).map pA)[0]? = some (.agg [S a.1,S a.2]):=rfl
  refine zf cop59 ?_
  repeat' ((conv=>whnf);first|(refine SeqP.go ?_)|((refine ObD.mk ?_ ?_);exact zD)|((refine ObN.mk ?_ ?_);exact zN)|(refine ObT.ff ?_)|((refine ObB.no ?_ ?_);exact zC)|((refine ObX.mk _ rfl ?_ ?_);exact zX)|((with_reducible refine (?_:ObL _ _));(refine ObL.mk _ zM ?_))|((with_reducible refine (?_:ObU _ _));(refine ObU.mk _ (by first|exact e1|exact e2|assumption|((conv=>lhs;simp only [List.set_cons_zero,List.set_cons_succ,List.take_succ_cons,List.take_zero,List.drop_succ_cons,List.drop_zero,List.nil_append,List.cons_append,List.append_nil,List.take_nil,List.drop_nil]);try rfl)|rfl) ?_))|((with_reducible refine (?_:ObR _ _ _));(first|(refine ObR.mk _ (by assumption) ?_)|(refine ObR.mk _ (by exact q0) ?_)|(refine ObR.mk _ Zv ?_)|(refine ObR.map zX (fun x hx=>?_))|(refine ObR.mk _ rfl ?_)))|((with_reducible refine ObJ.lz ?_ ?_);exact zX))
  conv=>whnf
  refine LoopP.go (α:=Nat × Pr) (fun p=>p.1≤u.length∧p.2=(u.take p.1).foldl (Yu (bfo k b)) a) (fun p=>u.length - p.1) (fun p=>[(8,none),(10,some (I p.1)),(0,none),(0,none),(0,none),(0,none),(0,none),(0,none),(0,none),(0,none),(0,none),(0,none),(0,none)]) (fun p=>[⟨65,2,[.agg [S ⟨#[]⟩,S ⟨#[]⟩]],0,0⟩,⟨65,2,[.agg [S p.2.1,S p.2.2]],0,0⟩]) (0,a) ⟨Nat.zero_le _,rfl⟩ (Fg.go ?_ rfl) ?_
  ·repeat' ((conv=>whnf);first|((refine ObEqs.mk ?_ ?_);rfl)|((with_reducible refine ObEq1.i ?_ ?_);exact zF)|exact True.intro)
  rintro ⟨i,p⟩ ⟨hi,hp⟩
  dsimp only at hi hp ⊢
  have hps:p.1.size≤100000:=by
   rw [hp];exact fold_sz (fun q hq=>hu q (List.mem_of_mem_take hq)) ha
  by_cases hil:i < u.length
  ·have q := zO hil
   have hqs:=hu _ (List.getElem_mem hil)
   have f:=fold_take (f:=Yu (bfo k b)) (a:=a) hil
   generalize u[i]=x at *
   rw [← hp] at f
   have c:=cl58 G k s t h b hb x.1 p.1 hqs hps _ rfl
   have f':(u.take (i+1)).foldl (Yu (bfo k b)) a=if bfo k b x.1 p.1=true then x else p:=f
   clear f
   generalize bfo k b x.1 p.1=r at *
   cases r
   ·repeat' ((conv=>whnf);first|(refine SeqP.go ?_)|((refine ObD.mk ?_ ?_);exact zD)|((refine ObN.mk ?_ ?_);exact zN)|(with_reducible first|refine ObT.tt ?_|refine ObT.ff ?_)|((refine ObB.yes ?_ ?_);exact zB)|((with_reducible refine ObI.nl ?_ ?_);omega)|((refine ObX.mk _ rfl ?_ ?_);exact zX)|((with_reducible refine (?_:ObU _ _));(refine ObU.mk _ zU ?_))|((with_reducible refine (?_:ObR _ _ _));(first|(refine ObR.mk _ (by assumption) ?_)|(refine ObR.mk _ (by exact q) ?_)|(refine ObR.mk _ Zv ?_)|(refine ObR.map zX (fun x hx=>?_))|(refine ObR.mk _ rfl ?_)))|((refine ObH.f 58 ?_);(first|(with_reducible refine ObH.mk _ _ ((Zz (by rfl) c _)) ?_)|(refine ObH.mk _ _ ((Zz (by rfl) c _)) ?_))))
    conv=>whnf
    refine Again.mk (i+1,p) ⟨by dsimp only;omega,by dsimp only;rw [f'];rfl⟩ ?_ (Fg.vw [(0,0,0),(0,1,0)] ?_ ?_ (by simp) ?_)
    ·dsimp only;omega
    all_goals repeat' ((conv=>whnf);first|((refine ObN.mk ?_ ?_);exact zN)|((with_reducible refine ObRn.mk ?_ ?_);(focus (first|rfl|(simp [rnB,rnC,rnL];done))))|((with_reducible refine ObRow.same ?_ ?_ ?_);exact zE;(focus (first|rfl|assumption|(simp;done))))|((refine ObEqs.mk ?_ ?_);rfl)|exact True.intro)
   ·repeat' ((conv=>whnf);first|(refine SeqP.go ?_)|((refine ObD.mk ?_ ?_);exact zD)|((refine ObN.mk ?_ ?_);exact zN)|(refine ObT.tt ?_)|((refine ObB.yes ?_ ?_);exact zB)|((with_reducible refine ObI.nl ?_ ?_);omega)|((refine ObX.mk _ rfl ?_ ?_);exact zX)|((with_reducible refine (?_:ObU _ _));(refine ObU.mk _ zU ?_))|((with_reducible refine (?_:ObR _ _ _));(first|(refine ObR.mk _ (by assumption) ?_)|(refine ObR.mk _ (by exact q) ?_)|(refine ObR.mk _ Zv ?_)|(refine ObR.map zX (fun x hx=>?_))|(refine ObR.mk _ rfl ?_)))|((refine ObH.f 58 ?_);(first|(with_reducible refine ObH.mk _ _ ((Zz (by rfl) c _)) ?_)|(refine ObH.mk _ _ ((Zz (by rfl) c _)) ?_))))
    conv=>whnf
    refine Again.mk (i+1,x) ⟨by dsimp only;omega,by dsimp only;rw [f'];rfl⟩ ?_ (Fg.vw [(0,0,0),(0,1,0)] ?_ ?_ (by simp) ?_)
    ·dsimp only;omega
    all_goals repeat' ((conv=>whnf);first|((refine ObN.mk ?_ ?_);exact zN)|((with_reducible refine ObRn.mk ?_ ?_);(focus (first|rfl|(simp [rnB,rnC,rnL];done))))|((with_reducible refine ObRow.same ?_ ?_ ?_);exact zE;(focus (first|rfl|assumption|(simp;done))))|((refine ObEqs.mk ?_ ?_);rfl)|exact True.intro)
  ·obtain rfl : i = u.length := by omega
   rw [List.take_length] at hp
   have e:xe (bfo k b) (a::u)=some p:=by rw [hp];rfl
   rw [e]
   repeat' ((conv=>whnf);first|(refine SeqP.go ?_)|((refine ObD.mk ?_ ?_);exact zD)|((refine ObN.mk ?_ ?_);exact zN)|(refine ObT.ff ?_)|((refine ObB.no ?_ ?_);exact zC)|((with_reducible refine (?_:ObU _ _));(refine ObU.mk _ zU ?_))|((with_reducible refine (?_:ObR _ _ _));(first|(refine ObR.mk _ zA ?_)|(refine ObR.map zX (fun x hx=>?_))|(refine ObR.mk _ rfl ?_)))|((refine ObEq.mk ?_);exact zE))
end
end Go.Proofs.YtgpldekhcojimaaDoor.Sim
namespace Go.Proofs.YtgpldekhcojimaaDoor.Sim.Pr7
open Go.RowKit
set_option maxRecDepth 100000
abbrev kfA (f:Nat) (key:ByteArray):AV:=.fn f [.ad 1 [S key] 0 0]
set_option maxHeartbeats 4000000 in
theorem nl33 (G:Nat→AV) (key:ByteArray):PC Tryd.prog G 67 [S key] (kfA 89 key):=by
 refine ZP cop67 ?_
 show W _ _ _ _ ⟨_,_⟩;simp only [A67,List.cons_append,List.nil_append,List.length_cons,List.length_nil,Nat.reduceAdd,Nat.reduceSub,List.replicate]
 repeat (first|(with_reducible first|refine zJ ?_|refine zI ?_|refine zk ?_|refine zh ?_|refine Zl ?_)|((with_reducible first|refine ks fun K hK=>?_|refine kd fun K hK=>?_|refine kc fun K hK2 hK hK3=>?_|refine Zr fun K hR=>?_|refine Zj rfl fun K hR=>?_|refine Zi fun K hR=>?_);simp (disch:=omega) only [bg0,bg1,bg2,bg3,bg4,zr,zS,eff,AX.ev,St.put,zQ,zP,ap1,zg,Int.reduceTMod,Int.reduceTDiv,reduceCtorEq,zt,AV.cells,AV.fine,AV.one,Nat.reduceAdd,Nat.reduceSub,Nat.reduceMul,Nat.reduceLT,Nat.reduceLeDiff,Int.reduceLT,Int.reduceLE,Int.reduceAdd,Int.reduceSub,Int.reduceNeg,Int.reduceMul,Int.reduceEq,Int.reduceToNat,zW,zp,live,zo,rdA,ze,wrA,zH,zq,zV,zR,zT,zi,zb,zm,zj,zd,cut,id,ap2,reduceIte,zu,zY,geB,AOp.cls,AOp.xs,ltB,ltC,Nat.reduceBEq,Option.toList,List.cons_append,decide_eq_true,decide_eq_false,if_pos,if_neg,List.length_map,zO,List.cons_append,bVb,bVn,eq_self,Bool.and_self,BEq.rfl,not_true_eq_false,cVu,cVi,Z8];(first|(with_reducible first|(refine hK _ ?_;clear hK K)|(refine hK ?_;clear hK hK3 K hK2)|(refine hK3 ?_;clear hK hK3 K hK2))|((with_reducible refine hR _ ?_ ?_ ?_ ?_);rotate_left 2;rfl;rfl)|((with_reducible refine hR _ ?_);rfl))))
set_option maxHeartbeats 4000000 in
theorem wI (G:Nat→AV) (key:ByteArray):PC Tryd.prog G 56 [S key] (kfA 86 key):=by
 refine ZP cop56 ?_
 show W _ _ _ _ ⟨_,_⟩;simp only [A56,List.cons_append,List.nil_append,List.length_cons,List.length_nil,Nat.reduceAdd,Nat.reduceSub,List.replicate]
 repeat (first|(with_reducible first|refine zJ ?_|refine zI ?_|refine zk ?_|refine zh ?_|refine Zl ?_)|((with_reducible first|refine ks fun K hK=>?_|refine kd fun K hK=>?_|refine kc fun K hK2 hK hK3=>?_|refine Zr fun K hR=>?_|refine Zj rfl fun K hR=>?_|refine Zi fun K hR=>?_);simp (disch:=omega) only [bg0,bg1,bg2,bg3,bg4,zr,zS,eff,AX.ev,St.put,zQ,zP,ap1,zg,Int.reduceTMod,Int.reduceTDiv,reduceCtorEq,zt,AV.cells,AV.fine,AV.one,Nat.reduceAdd,Nat.reduceSub,Nat.reduceMul,Nat.reduceLT,Nat.reduceLeDiff,Int.reduceLT,Int.reduceLE,Int.reduceAdd,Int.reduceSub,Int.reduceNeg,Int.reduceMul,Int.reduceEq,Int.reduceToNat,zW,zp,live,zo,rdA,ze,wrA,zH,zq,zV,zR,zT,zi,zb,zm,zj,zd,cut,id,ap2,reduceIte,zu,zY,geB,AOp.cls,AOp.xs,ltB,ltC,Nat.reduceBEq,Option.toList,List.cons_append,decide_eq_true,decide_eq_false,if_pos,if_neg,List.length_map,zO,List.cons_append,bVb,bVn,eq_self,Bool.and_self,BEq.rfl,not_true_eq_false,cVu,cVi,Z8];(first|(with_reducible first|(refine hK _ ?_;clear hK K)|(refine hK ?_;clear hK hK3 K hK2)|(refine hK3 ?_;clear hK hK3 K hK2))|((with_reducible refine hR _ ?_ ?_ ?_ ?_);rotate_left 2;rfl;rfl)|((with_reducible refine hR _ ?_);rfl))))
set_option maxHeartbeats 4000000 in
theorem nl40 (G:Nat→AV) (p:Pr) (key:ByteArray) (hp:p.1.size≤9223372036854775807) (hk:key.size≤9223372036854775807):PC Tryd.prog G 89 [.agg [S p.1,S p.2],.ad 1 [S key] 0 0] (Bo (decide (0≤cB p.1 key))):=by
 refine ZP cop89 ?_
 show W _ _ _ _ ⟨_,_⟩;simp only [A89,List.cons_append,List.nil_append,List.length_cons,List.length_nil,Nat.reduceAdd,Nat.reduceSub,List.replicate]
 repeat (first|(with_reducible first|refine zJ ?_|refine zI ?_|refine zk ?_|refine zh ?_|refine Zl ?_)|((with_reducible refine kps 44 ?_ ?_ ?_ ?_);rotate_left 1;rfl;exact (by refine Wh G _ _ ?_ ?_<;>assumption))|((with_reducible first|refine ks fun K hK=>?_|refine kd fun K hK=>?_|refine kc fun K hK2 hK hK3=>?_|refine Zr fun K hR=>?_|refine Zj rfl fun K hR=>?_|refine Zi fun K hR=>?_);simp (disch:=omega) only [bg0,bg1,bg2,bg3,bg4,zr,zS,eff,AX.ev,St.put,zQ,zP,ap1,zg,Int.reduceTMod,Int.reduceTDiv,reduceCtorEq,zt,AV.cells,AV.fine,AV.one,Nat.reduceAdd,Nat.reduceSub,Nat.reduceMul,Nat.reduceLT,Nat.reduceLeDiff,Int.reduceLT,Int.reduceLE,Int.reduceAdd,Int.reduceSub,Int.reduceNeg,Int.reduceMul,Int.reduceEq,Int.reduceToNat,zW,zp,live,zo,rdA,ze,wrA,zH,zq,zV,zR,zT,zi,zb,zm,zj,zd,cut,id,ap2,reduceIte,zu,zY,geB,AOp.cls,AOp.xs,ltB,ltC,Nat.reduceBEq,Option.toList,List.cons_append,decide_eq_true,decide_eq_false,if_pos,if_neg,List.length_map,zO,List.cons_append,bVb,bVn,eq_self,Bool.and_self,BEq.rfl,not_true_eq_false,cVu,cVi,Z8];(first|(with_reducible first|(refine hK _ ?_;clear hK K)|(refine hK ?_;clear hK hK3 K hK2)|(refine hK3 ?_;clear hK hK3 K hK2))|((with_reducible refine hR _ ?_ ?_ ?_ ?_);rotate_left 2;rfl;rfl)|((with_reducible refine hR _ ?_);rfl))))
set_option maxHeartbeats 4000000 in
theorem gr41 (G:Nat→AV) (p:Pr) (key:ByteArray) (hp:p.1.size≤9223372036854775807) (hk:key.size≤9223372036854775807):PC Tryd.prog G 86 [.agg [S p.1,S p.2],.ad 1 [S key] 0 0] (Bo (decide (0 < cB p.1 key))):=by
 refine ZP cop86 ?_
 show W _ _ _ _ ⟨_,_⟩;simp only [A86,List.cons_append,List.nil_append,List.length_cons,List.length_nil,Nat.reduceAdd,Nat.reduceSub,List.replicate]
 repeat (first|(with_reducible first|refine zJ ?_|refine zI ?_|refine zk ?_|refine zh ?_|refine Zl ?_)|((with_reducible refine kps 44 ?_ ?_ ?_ ?_);rotate_left 1;rfl;exact (by refine Wh G _ _ ?_ ?_<;>assumption))|((with_reducible first|refine ks fun K hK=>?_|refine kd fun K hK=>?_|refine kc fun K hK2 hK hK3=>?_|refine Zr fun K hR=>?_|refine Zj rfl fun K hR=>?_|refine Zi fun K hR=>?_);simp (disch:=omega) only [bg0,bg1,bg2,bg3,bg4,zr,zS,eff,AX.ev,St.put,zQ,zP,ap1,zg,Int.reduceTMod,Int.reduceTDiv,reduceCtorEq,zt,AV.cells,AV.fine,AV.one,Nat.reduceAdd,Nat.reduceSub,Nat.reduceMul,Nat.reduceLT,Nat.reduceLeDiff,Int.reduceLT,Int.reduceLE,Int.reduceAdd,Int.reduceSub,Int.reduceNeg,Int.reduceMul,Int.reduceEq,Int.reduceToNat,zW,zp,live,zo,rdA,ze,wrA,zH,zq,zV,zR,zT,zi,zb,zm,zj,zd,cut,id,ap2,reduceIte,zu,zY,geB,AOp.cls,AOp.xs,ltB,ltC,Nat.reduceBEq,Option.toList,List.cons_append,decide_eq_true,decide_eq_false,if_pos,if_neg,List.length_map,zO,List.cons_append,bVb,bVn,eq_self,Bool.and_self,BEq.rfl,not_true_eq_false,cVu,cVi,Z8];(first|(with_reducible first|(refine hK _ ?_;clear hK K)|(refine hK ?_;clear hK hK3 K hK2)|(refine hK3 ?_;clear hK hK3 K hK2))|((with_reducible refine hR _ ?_ ?_ ?_ ?_);rotate_left 2;rfl;rfl)|((with_reducible refine hR _ ?_);rfl))))
set_option maxHeartbeats 1000000 in
theorem at39_40 (G : Nat → AV) (key : ByteArray) (m : List Pr) (i : Nat) (hi : i < m.length) (hm : m.length ≤ 1000000) (r : Bool) (h : PC Tryd.prog G 89 [.agg [S (m[i]).1, S (m[i]).2], .ad 1 [S key] 0 0] (Bo r)) :
  PC Tryd.prog G 85 [I i,.ad 1 [kfA 89 key] 0 0,.ad 1 [.sl 2 (m.map pA)] 0 0] (Bo r):=by
 refine ZP cop85 ?_
 show W _ _ _ _ ⟨_,_⟩;simp only [A85,List.cons_append,List.nil_append,List.length_cons,List.length_nil,Nat.reduceAdd,Nat.reduceSub,List.replicate]
 repeat (first|(with_reducible first|refine zJ ?_|refine zI ?_|refine Zu ?_|refine zk ?_|refine Zm ?_|refine zh ?_|refine Zl ?_)|((first|((with_reducible refine kvd 89 ?_ ?_ ?_ ?_ ?_ ?_ ?_ ?_);rotate_left 3));(focus (simp (disch:=omega) only [bg0,bg1,bg2,bg3,bg4,zr,zS,eff,AX.ev,St.put,zQ,zP,ap1,zg,Int.reduceTMod,Int.reduceTDiv,reduceCtorEq,zt,AV.cells,AV.fine,AV.one,Nat.reduceAdd,Nat.reduceSub,Nat.reduceMul,Nat.reduceLT,Nat.reduceLeDiff,Int.reduceLT,Int.reduceLE,Int.reduceAdd,Int.reduceSub,Int.reduceNeg,Int.reduceMul,Int.reduceEq,Int.reduceToNat,zW,zp,live,zo,rdA,ze,wrA,zH,zq,zV,zR,zT,zi,zb,zm,zj,zd,cut,id,ap2,reduceIte,zu,zY,geB,AOp.cls,AOp.xs,ltB,ltC,Nat.reduceBEq,Option.toList,List.cons_append,decide_eq_true,decide_eq_false,if_pos,if_neg,List.length_map,zO,List.cons_append,bVb,bVn,eq_self,Bool.and_self,BEq.rfl,not_true_eq_false,cVu,cVi,Z8];try rfl));(first|(rfl;exact hb89;exact (Zz rfl h _))))|((with_reducible first|refine ks fun K hK=>?_|refine kd fun K hK=>?_|refine kc fun K hK2 hK hK3=>?_|refine Zr fun K hR=>?_|refine Zj rfl fun K hR=>?_|refine Zi fun K hR=>?_);simp (disch:=omega) only [bg0,bg1,bg2,bg3,bg4,zr,zS,eff,AX.ev,St.put,zQ,zP,ap1,zg,Int.reduceTMod,Int.reduceTDiv,reduceCtorEq,zt,AV.cells,AV.fine,AV.one,Nat.reduceAdd,Nat.reduceSub,Nat.reduceMul,Nat.reduceLT,Nat.reduceLeDiff,Int.reduceLT,Int.reduceLE,Int.reduceAdd,Int.reduceSub,Int.reduceNeg,Int.reduceMul,Int.reduceEq,Int.reduceToNat,zW,zp,live,zo,rdA,ze,wrA,zH,zq,zV,zR,zT,zi,zb,zm,zj,zd,cut,id,ap2,reduceIte,zu,zY,geB,AOp.cls,AOp.xs,ltB,ltC,Nat.reduceBEq,Option.toList,List.cons_append,decide_eq_true,decide_eq_false,if_pos,if_neg,List.length_map,zO,List.cons_append,bVb,bVn,eq_self,Bool.and_self,BEq.rfl,not_true_eq_false,cVu,cVi,Z8];(first|(with_reducible first|(refine hK _ ?_;clear hK K)|(refine hK ?_;clear hK hK3 K hK2)|(refine hK3 ?_;clear hK hK3 K hK2))|((with_reducible refine hR _ ?_ ?_ ?_ ?_);rotate_left 2;rfl;rfl)|((with_reducible refine hR _ ?_);rfl))))
set_option maxHeartbeats 1000000 in
theorem at39_41 (G : Nat → AV) (key : ByteArray) (m : List Pr) (i : Nat) (hi : i < m.length) (hm : m.length ≤ 1000000) (r : Bool) (h : PC Tryd.prog G 86 [.agg [S (m[i]).1, S (m[i]).2], .ad 1 [S key] 0 0] (Bo r)) :
  PC Tryd.prog G 85 [I i,.ad 1 [kfA 86 key] 0 0,.ad 1 [.sl 2 (m.map pA)] 0 0] (Bo r):=by
 refine ZP cop85 ?_
 show W _ _ _ _ ⟨_,_⟩;simp only [A85,List.cons_append,List.nil_append,List.length_cons,List.length_nil,Nat.reduceAdd,Nat.reduceSub,List.replicate]
 repeat (first|(with_reducible first|refine zJ ?_|refine zI ?_|refine Zu ?_|refine zk ?_|refine Zm ?_|refine zh ?_|refine Zl ?_)|((first|((with_reducible refine kvd 86 ?_ ?_ ?_ ?_ ?_ ?_ ?_ ?_);rotate_left 3));(focus (simp (disch:=omega) only [bg0,bg1,bg2,bg3,bg4,zr,zS,eff,AX.ev,St.put,zQ,zP,ap1,zg,Int.reduceTMod,Int.reduceTDiv,reduceCtorEq,zt,AV.cells,AV.fine,AV.one,Nat.reduceAdd,Nat.reduceSub,Nat.reduceMul,Nat.reduceLT,Nat.reduceLeDiff,Int.reduceLT,Int.reduceLE,Int.reduceAdd,Int.reduceSub,Int.reduceNeg,Int.reduceMul,Int.reduceEq,Int.reduceToNat,zW,zp,live,zo,rdA,ze,wrA,zH,zq,zV,zR,zT,zi,zb,zm,zj,zd,cut,id,ap2,reduceIte,zu,zY,geB,AOp.cls,AOp.xs,ltB,ltC,Nat.reduceBEq,Option.toList,List.cons_append,decide_eq_true,decide_eq_false,if_pos,if_neg,List.length_map,zO,List.cons_append,bVb,bVn,eq_self,Bool.and_self,BEq.rfl,not_true_eq_false,cVu,cVi,Z8];try rfl));(first|(rfl;exact hb86;exact (Zz rfl h _))))|((with_reducible first|refine ks fun K hK=>?_|refine kd fun K hK=>?_|refine kc fun K hK2 hK hK3=>?_|refine Zr fun K hR=>?_|refine Zj rfl fun K hR=>?_|refine Zi fun K hR=>?_);simp (disch:=omega) only [bg0,bg1,bg2,bg3,bg4,zr,zS,eff,AX.ev,St.put,zQ,zP,ap1,zg,Int.reduceTMod,Int.reduceTDiv,reduceCtorEq,zt,AV.cells,AV.fine,AV.one,Nat.reduceAdd,Nat.reduceSub,Nat.reduceMul,Nat.reduceLT,Nat.reduceLeDiff,Int.reduceLT,Int.reduceLE,Int.reduceAdd,Int.reduceSub,Int.reduceNeg,Int.reduceMul,Int.reduceEq,Int.reduceToNat,zW,zp,live,zo,rdA,ze,wrA,zH,zq,zV,zR,zT,zi,zb,zm,zj,zd,cut,id,ap2,reduceIte,zu,zY,geB,AOp.cls,AOp.xs,ltB,ltC,Nat.reduceBEq,Option.toList,List.cons_append,decide_eq_true,decide_eq_false,if_pos,if_neg,List.length_map,zO,List.cons_append,bVb,bVn,eq_self,Bool.and_self,BEq.rfl,not_true_eq_false,cVu,cVi,Z8];(first|(with_reducible first|(refine hK _ ?_;clear hK K)|(refine hK ?_;clear hK hK3 K hK2)|(refine hK3 ?_;clear hK hK3 K hK2))|((with_reducible refine hR _ ?_ ?_ ?_ ?_);rotate_left 2;rfl;rfl)|((with_reducible refine hR _ ?_);rfl))))
set_option maxHeartbeats 2000000 in
theorem search38 (G:Nat→AV) (n c:Nat) (hc:c≤n) (hn:n≤1000000) (cs:List AV) (hp:cs.all AV.isP=true) (h:∀ i,i < n→PC Tryd.prog G 85 (I i::cs) (Bo (decide (c≤i)))):PC Tryd.prog G 84 [I n,.fn 85 cs] (I c):=by
 refine ZP cop84 ?_
 show W _ _ _ _ ⟨_,_⟩;simp only [A84,List.cons_append,List.nil_append,List.length_cons,List.length_nil,Nat.reduceAdd,Nat.reduceSub,List.replicate]
 repeat (first|(with_reducible first|refine zJ ?_|refine zI ?_|refine zZ ?_|refine zk ?_|refine zh ?_)|((with_reducible first|refine ks fun K hK=>?_|refine kd fun K hK=>?_|refine kc fun K hK2 hK hK3=>?_);simp (disch:=omega) only [bg0,bg1,bg2,bg3,bg4,zr,zS,eff,AX.ev,St.put,zQ,zP,ap1,zg,Int.reduceTMod,Int.reduceTDiv,reduceCtorEq,zt,AV.cells,AV.fine,AV.one,Nat.reduceAdd,Nat.reduceSub,Nat.reduceMul,Nat.reduceLT,Nat.reduceLeDiff,Int.reduceLT,Int.reduceLE,Int.reduceAdd,Int.reduceSub,Int.reduceNeg,Int.reduceMul,Int.reduceEq,Int.reduceToNat,zW,zp,live,zo,rdA,ze,wrA,zH,zq,zV,zR,zT,zi,zb,zm,zj,zd,cut,id,ap2,reduceIte,zu,zY,geB,AOp.cls,AOp.xs,ltB,ltC,Nat.reduceBEq,Option.toList,List.cons_append,decide_eq_true,decide_eq_false,if_pos,if_neg,List.length_map,zO,List.cons_append,bVb,bVn,eq_self,Bool.and_self,BEq.rfl,not_true_eq_false,cVu,cVi,Z8];(with_reducible first|(refine hK _ ?_;clear hK K)|(refine hK ?_;clear hK hK3 K hK2)|(refine hK3 ?_;clear hK hK3 K hK2))))
 refine Yw [5,6,7,9,10,11,12,13,14,15,16,17,18,19,20,21,22,23,24] (fun u v H=>∃ i j:Nat,u=j - i∧v 5=I i∧v 6=I j∧i≤c∧c≤j∧j≤n∧H=[]) n ⟨0,n,rfl,rfl,rfl,by omega,by omega,by omega,rfl⟩ ?_
 rintro u v H ⟨i,j,rfl,h5,h6,i1,i2,i3,rfl⟩
 simp only [mix,z9,Za,Zc,Nat.reduceEqDiff,Nat.reduceLeDiff,reduceCtorEq,if_true,if_false,reduceIte,Nat.reduceAdd,h5,h6]
 by_cases hij:i < j
 ·obtain ⟨k, hk⟩ : ∃ k, k = (i + j) / 2 := ⟨_, rfl⟩
  have hm:=hk.symm
  have hf:HC Tryd.prog G 85 (I k::cs) [] (Bo (decide (c≤k))) []:=Zz (by simp only [List.all_cons,hp];rfl) (h k (by omega)) _
  by_cases hck:c≤k
  ·repeat (first|(with_reducible first|refine zJ ?_|refine zI ?_|refine zZ ?_|refine Ze ?_|refine zk ?_|refine zh ?_|refine z6 ?_)|((with_reducible first|refine ks fun K hK=>?_|refine kd fun K hK=>?_|refine kc fun K hK2 hK hK3=>?_);simp (disch:=omega) only [bg0,bg1,bg2,bg3,bg4,zr,zS,eff,AX.ev,St.put,zQ,zP,ap1,zg,Int.reduceTMod,Int.reduceTDiv,reduceCtorEq,zt,AV.cells,AV.fine,AV.one,Nat.reduceAdd,Nat.reduceSub,Nat.reduceMul,Nat.reduceLT,Nat.reduceLeDiff,Int.reduceLT,Int.reduceLE,Int.reduceAdd,Int.reduceSub,Int.reduceNeg,Int.reduceMul,Int.reduceEq,Int.reduceToNat,zW,zp,live,zo,rdA,ze,wrA,zH,zq,zV,zR,zT,zi,zb,zm,zj,zd,cut,id,ap2,reduceIte,zu,zY,geB,AOp.cls,AOp.xs,ltB,ltC,Nat.reduceBEq,Option.toList,List.cons_append,decide_eq_true,decide_eq_false,if_pos,if_neg,List.length_map,zO,List.cons_append,bVb,bVn,eq_self,Bool.and_self,BEq.rfl,not_true_eq_false,cVu,cVi,Z8,hm,hck];(with_reducible first|(refine hK _ ?_;clear hK K)|(refine hK ?_;clear hK hK3 K hK2)|(refine hK3 ?_;clear hK hK3 K hK2)))|((with_reducible refine kvs 85 ?_ ?_ ?_ ?_ ?_ ?_ ?_);rotate_left 3;rfl;exact hb85;exact hf))
   exact ⟨rfl,k - i,by omega,i,k,rfl,rfl,rfl,by omega,by omega,by omega,rfl⟩
  ·repeat (first|(with_reducible first|refine zJ ?_|refine zI ?_|refine zZ ?_|refine Ze ?_|refine zk ?_|refine zh ?_|refine z6 ?_)|((with_reducible first|refine ks fun K hK=>?_|refine kd fun K hK=>?_|refine kc fun K hK2 hK hK3=>?_);simp (disch:=omega) only [bg0,bg1,bg2,bg3,bg4,zr,zS,eff,AX.ev,St.put,zQ,zP,ap1,zg,Int.reduceTMod,Int.reduceTDiv,reduceCtorEq,zt,AV.cells,AV.fine,AV.one,Nat.reduceAdd,Nat.reduceSub,Nat.reduceMul,Nat.reduceLT,Nat.reduceLeDiff,Int.reduceLT,Int.reduceLE,Int.reduceAdd,Int.reduceSub,Int.reduceNeg,Int.reduceMul,Int.reduceEq,Int.reduceToNat,zW,zp,live,zo,rdA,ze,wrA,zH,zq,zV,zR,zT,zi,zb,zm,zj,zd,cut,id,ap2,reduceIte,zu,zY,geB,AOp.cls,AOp.xs,ltB,ltC,Nat.reduceBEq,Option.toList,List.cons_append,decide_eq_true,decide_eq_false,if_pos,if_neg,List.length_map,zO,List.cons_append,bVb,bVn,eq_self,Bool.and_self,BEq.rfl,not_true_eq_false,cVu,cVi,Z8,hm,hck];(with_reducible first|(refine hK _ ?_;clear hK K)|(refine hK ?_;clear hK hK3 K hK2)|(refine hK3 ?_;clear hK hK3 K hK2)))|((with_reducible refine kvs 85 ?_ ?_ ?_ ?_ ?_ ?_ ?_);rotate_left 3;rfl;exact hb85;exact hf))
   exact ⟨rfl,j - (k+1),by omega,k+1,j,rfl,rfl,rfl,by omega,by omega,by omega,rfl⟩
 ·obtain rfl : i = c := by omega
  repeat (first|(with_reducible first|refine zJ ?_|refine zI ?_|refine Zp ?_|refine zk ?_|refine zh ?_|refine Zg ?_|refine Zb ?_|refine Zl ?_)|((with_reducible first|refine ks fun K hK=>?_|refine kd fun K hK=>?_|refine kc fun K hK2 hK hK3=>?_|refine Zr fun K hR=>?_|refine Zj rfl fun K hR=>?_|refine Zi fun K hR=>?_);simp (disch:=omega) only [bg0,bg1,bg2,bg3,bg4,zr,zS,eff,AX.ev,St.put,zQ,zP,ap1,zg,Int.reduceTMod,Int.reduceTDiv,reduceCtorEq,zt,AV.cells,AV.fine,AV.one,Nat.reduceAdd,Nat.reduceSub,Nat.reduceMul,Nat.reduceLT,Nat.reduceLeDiff,Int.reduceLT,Int.reduceLE,Int.reduceAdd,Int.reduceSub,Int.reduceNeg,Int.reduceMul,Int.reduceEq,Int.reduceToNat,zW,zp,live,zo,rdA,ze,wrA,zH,zq,zV,zR,zT,zi,zb,zm,zj,zd,cut,id,ap2,reduceIte,zu,zY,geB,AOp.cls,AOp.xs,ltB,ltC,Nat.reduceBEq,Option.toList,List.cons_append,decide_eq_true,decide_eq_false,if_pos,if_neg,List.length_map,zO,List.cons_append,bVb,bVn,eq_self,Bool.and_self,BEq.rfl,not_true_eq_false,cVu,cVi,Z8];(first|(with_reducible first|(refine hK _ ?_;clear hK K)|(refine hK ?_;clear hK hK3 K hK2)|(refine hK3 ?_;clear hK hK3 K hK2))|((with_reducible refine hR _ ?_ ?_ ?_ ?_);rotate_left 2;rfl;rfl)|((with_reducible refine hR _ ?_);rfl))))
theorem lo_idx {m:List Pr} (h:SLe m) (key:ByteArray) (i:Nat) (hi:i < m.length):decide (0≤cB (m[i]).1 key)=decide ((lo m key).length≤i):=by
 have:=w6 h key hi
 by_cases h1:0≤cB (m[i]).1 key
 ·simp [h1];omega
 ·simp [h1];omega
theorem le_idx {m:List Pr} (h:SLe m) (key:ByteArray) (i:Nat) (hi:i < m.length):decide (0 < cB (m[i]).1 key)=decide ((le m key).length≤i):=by
 have:=w7 h key hi
 by_cases h1:0 < cB (m[i]).1 key
 ·simp [h1];omega
 ·simp [h1];omega
set_option maxHeartbeats 2000000 in
theorem idx40 (G:Nat→AV) (m:List Pr) (hs:SLe m) (hm:Okl m) (key:ByteArray) (hk:key.size≤9223372036854775807):PC Tryd.prog G 55 [.sl 2 (m.map pA),kfA 89 key] (I (lo m key).length):=by
 have hlen:=hm.len
 have hc:(lo m key).length≤m.length:=Xb
 have hf:=search38 G m.length (lo m key).length hc hlen [.ad 1 [kfA 89 key] 0 0,.ad 1 [.sl 2 (m.map pA)] 0 0] rfl (fun i hi=>by
  rw [← lo_idx hs key i hi]
  exact at39_40 G key m i hi hlen _ (nl40 G _ key (hm.k hi) hk))
 refine ZP cop55 ?_
 show W _ _ _ _ ⟨_,_⟩;simp only [A55,List.cons_append,List.nil_append,List.length_cons,List.length_nil,Nat.reduceAdd,Nat.reduceSub,List.replicate]
 repeat (first|(with_reducible first|refine zJ ?_|refine zI ?_|refine zk ?_|refine zh ?_|refine Zl ?_)|((with_reducible refine kqs 84 ?_ ?_ ?_ ?_ ?_ ?_);rotate_left 3;rfl;exact hf)|((with_reducible first|refine ks fun K hK=>?_|refine kd fun K hK=>?_|refine kc fun K hK2 hK hK3=>?_|refine Zr fun K hR=>?_|refine Zj rfl fun K hR=>?_|refine Zi fun K hR=>?_);simp (disch:=omega) only [bg0,bg1,bg2,bg3,bg4,zr,zS,eff,AX.ev,St.put,zQ,zP,ap1,zg,Int.reduceTMod,Int.reduceTDiv,reduceCtorEq,zt,AV.cells,AV.fine,AV.one,Nat.reduceAdd,Nat.reduceSub,Nat.reduceMul,Nat.reduceLT,Nat.reduceLeDiff,Int.reduceLT,Int.reduceLE,Int.reduceAdd,Int.reduceSub,Int.reduceNeg,Int.reduceMul,Int.reduceEq,Int.reduceToNat,zW,zp,live,zo,rdA,ze,wrA,zH,zq,zV,zR,zT,zi,zb,zm,zj,zd,cut,id,ap2,reduceIte,zu,zY,geB,AOp.cls,AOp.xs,ltB,ltC,Nat.reduceBEq,Option.toList,List.cons_append,decide_eq_true,decide_eq_false,if_pos,if_neg,List.length_map,zO,List.cons_append,bVb,bVn,eq_self,Bool.and_self,BEq.rfl,not_true_eq_false,cVu,cVi,Z8];(first|(with_reducible first|(refine hK _ ?_;clear hK K)|(refine hK ?_;clear hK hK3 K hK2)|(refine hK3 ?_;clear hK hK3 K hK2))|((with_reducible refine hR _ ?_ ?_ ?_ ?_);rotate_left 2;rfl;rfl)|((with_reducible refine hR _ ?_);rfl))))
set_option maxHeartbeats 2000000 in
theorem idx41 (G:Nat→AV) (m:List Pr) (hs:SLe m) (hm:Okl m) (key:ByteArray) (hk:key.size≤9223372036854775807):PC Tryd.prog G 55 [.sl 2 (m.map pA),kfA 86 key] (I (le m key).length):=by
 have hlen:=hm.len
 have hc:(le m key).length≤m.length:=YP
 have hf:=search38 G m.length (le m key).length hc hlen [.ad 1 [kfA 86 key] 0 0,.ad 1 [.sl 2 (m.map pA)] 0 0] rfl (fun i hi=>by
  rw [← le_idx hs key i hi]
  exact at39_41 G key m i hi hlen _ (gr41 G _ key (hm.k hi) hk))
 refine ZP cop55 ?_
 show W _ _ _ _ ⟨_,_⟩;simp only [A55,List.cons_append,List.nil_append,List.length_cons,List.length_nil,Nat.reduceAdd,Nat.reduceSub,List.replicate]
 repeat (first|(with_reducible first|refine zJ ?_|refine zI ?_|refine zk ?_|refine zh ?_|refine Zl ?_)|((with_reducible refine kqs 84 ?_ ?_ ?_ ?_ ?_ ?_);rotate_left 3;rfl;exact hf)|((with_reducible first|refine ks fun K hK=>?_|refine kd fun K hK=>?_|refine kc fun K hK2 hK hK3=>?_|refine Zr fun K hR=>?_|refine Zj rfl fun K hR=>?_|refine Zi fun K hR=>?_);simp (disch:=omega) only [bg0,bg1,bg2,bg3,bg4,zr,zS,eff,AX.ev,St.put,zQ,zP,ap1,zg,Int.reduceTMod,Int.reduceTDiv,reduceCtorEq,zt,AV.cells,AV.fine,AV.one,Nat.reduceAdd,Nat.reduceSub,Nat.reduceMul,Nat.reduceLT,Nat.reduceLeDiff,Int.reduceLT,Int.reduceLE,Int.reduceAdd,Int.reduceSub,Int.reduceNeg,Int.reduceMul,Int.reduceEq,Int.reduceToNat,zW,zp,live,zo,rdA,ze,wrA,zH,zq,zV,zR,zT,zi,zb,zm,zj,zd,cut,id,ap2,reduceIte,zu,zY,geB,AOp.cls,AOp.xs,ltB,ltC,Nat.reduceBEq,Option.toList,List.cons_append,decide_eq_true,decide_eq_false,if_pos,if_neg,List.length_map,zO,List.cons_append,bVb,bVn,eq_self,Bool.and_self,BEq.rfl,not_true_eq_false,cVu,cVi,Z8];(first|(with_reducible first|(refine hK _ ?_;clear hK K)|(refine hK ?_;clear hK hK3 K hK2)|(refine hK3 ?_;clear hK hK3 K hK2))|((with_reducible refine hR _ ?_ ?_ ?_ ?_);rotate_left 2;rfl;rfl)|((with_reducible refine hR _ ?_);rfl))))
end Go.Proofs.YtgpldekhcojimaaDoor.Sim.Pr7
namespace Go.Proofs.YtgpldekhcojimaaDoor.Sim.Pr7
open Go.RowKit
set_option maxRecDepth 100000
theorem capN {ty:TypeId} {cs:Array Bool}:z5 Tryd.prog (builtin .cap #[24] ty cs #[.slice none 0 0])=some (.value (.int .i64 0)):=bi_cap (e:=65) (by kernel_rfl)
set_option maxHeartbeats 4000000 in
theorem grow42 (G:Nat→AV) (n:Nat) (hn:0 < n) (hm:n≤3000000) (H:Hp):HC Tryd.prog G 90 [.nl 2,I n] H (.ol H.length 0 0) (H++[⟨65,2,List.replicate n (.agg [S ⟨#[]⟩,S ⟨#[]⟩]),0,0⟩]):=by
 have h0:¬ (n:Int) < 0:=by omega
 have h1:(0:Int) < (n:Int):=by omega
 refine yk cop90 ?_
 show W _ _ _ _ ⟨_,_⟩;simp only [A90,List.cons_append,List.nil_append,List.length_cons,List.length_nil,Nat.reduceAdd,Nat.reduceSub,List.replicate]
 repeat (first|(with_reducible first|refine zJ ?_|refine zI ?_|refine Ze ?_|refine zk ?_|refine zh ?_|refine Zl ?_)|((with_reducible first|refine ks fun K hK=>?_|refine kd fun K hK=>?_|refine kc fun K hK2 hK hK3=>?_|refine Zr fun K hR=>?_|refine Zj rfl fun K hR=>?_|refine Zi fun K hR=>?_);simp (disch:=omega) only [bg0,bg1,bg2,bg3,bg4,zr,zS,eff,AX.ev,St.put,zQ,zP,ap1,zg,Int.reduceTMod,Int.reduceTDiv,reduceCtorEq,zt,AV.cells,AV.fine,AV.one,Nat.reduceAdd,Nat.reduceSub,Nat.reduceMul,Nat.reduceLT,Nat.reduceLeDiff,Int.reduceLT,Int.reduceLE,Int.reduceAdd,Int.reduceSub,Int.reduceNeg,Int.reduceMul,Int.reduceEq,Int.reduceToNat,zW,zp,live,zo,rdA,ze,wrA,zH,zq,zV,zR,zT,zi,zb,zm,zj,zd,cut,id,ap2,reduceIte,zu,zY,geB,AOp.cls,AOp.xs,ltB,ltC,Nat.reduceBEq,Option.toList,List.cons_append,decide_eq_true,decide_eq_false,if_pos,if_neg,List.length_map,List.cons_append,bVb,bVn,eq_self,Bool.and_self,BEq.rfl,not_true_eq_false,capN,h0,h1,Int.sub_zero,Int.sub_self];(first|(with_reducible first|(refine hK _ ?_;clear hK K)|(refine hK ?_;clear hK hK3 K hK2)|(refine hK3 ?_;clear hK hK3 K hK2))|((with_reducible refine hR _ ?_ ?_ ?_ ?_);rotate_left 2;rfl;rfl)|((with_reducible refine hR _ ?_);rfl))))
set_option maxHeartbeats 4000000 in
theorem grow0 (G:Nat→AV) (H:Hp):HC Tryd.prog G 90 [.nl 2,I 0] H (.nl 2) H:=by
 refine yk cop90 ?_
 show W _ _ _ _ ⟨_,_⟩;simp only [A90,List.cons_append,List.nil_append,List.length_cons,List.length_nil,Nat.reduceAdd,Nat.reduceSub,List.replicate]
 repeat (first|(with_reducible first|refine zJ ?_|refine zI ?_|refine Ze ?_|refine zk ?_|refine zh ?_|refine Zl ?_)|((with_reducible first|refine ks fun K hK=>?_|refine kd fun K hK=>?_|refine kc fun K hK2 hK hK3=>?_|refine Zr fun K hR=>?_|refine Zj rfl fun K hR=>?_|refine Zi fun K hR=>?_);simp (disch:=omega) only [bg0,bg1,bg2,bg3,bg4,zr,zS,eff,AX.ev,St.put,zQ,zP,ap1,zg,Int.reduceTMod,Int.reduceTDiv,reduceCtorEq,zt,AV.cells,AV.fine,AV.one,Nat.reduceAdd,Nat.reduceSub,Nat.reduceMul,Nat.reduceLT,Nat.reduceLeDiff,Int.reduceLT,Int.reduceLE,Int.reduceAdd,Int.reduceSub,Int.reduceNeg,Int.reduceMul,Int.reduceEq,Int.reduceToNat,zW,zp,live,zo,rdA,ze,wrA,zH,zq,zV,zR,zT,zi,zb,zm,zj,zd,cut,id,ap2,reduceIte,zu,zY,geB,AOp.cls,AOp.xs,ltB,ltC,Nat.reduceBEq,Option.toList,List.cons_append,decide_eq_true,decide_eq_false,if_pos,if_neg,List.length_map,List.cons_append,bVb,bVn,eq_self,Bool.and_self,BEq.rfl,not_true_eq_false,capN,Int.sub_zero,Int.sub_self];(first|(with_reducible first|(refine hK _ ?_;clear hK K)|(refine hK ?_;clear hK hK3 K hK2)|(refine hK3 ?_;clear hK hK3 K hK2))|((with_reducible refine hR _ ?_ ?_ ?_ ?_);rotate_left 2;rfl;rfl)|((with_reducible refine hR _ ?_);rfl))))
set_option maxHeartbeats 4000000 in
theorem cc3 (G : Nat → AV) (A B : List AV) (x : AV) (a b : Nat) (hA : A.length = a) (hB : B.length = b) (ha : a ≤ 1000000) (hb : b ≤ 1000000) :
  HC Tryd.prog G 68 [.ol 1 0 3] [⟨65,2,[x],0,0⟩,⟨24,1,[.sl 2 A,.ol 0 0 1,.sl 2 B],0,0⟩] (.ol 2 3 (a+1+b)) [⟨65,2,[x],0,0⟩,⟨24,1,[.sl 2 A,.ol 0 0 1,.sl 2 B],0,0⟩,⟨65,2,A++[x]++B,3,0⟩]:=by
 have t1:A.take a=A:=List.take_of_length_le (by omega)
 have t2:(A++[x]).take (a+1)=A++[x]:=List.take_of_length_le (by simp;omega)
 have t3:(A++[x]).length=a+1:=by simp;omega
 have h0:¬ ((a:Int)+1+(b:Int)) < 0:=by omega
 have h2:¬ ((a:Int)+1) < 0:=by omega
 have h3:¬ (a:Int) < 0:=by omega
 have hg:=grow42 G (a+1+b) (by omega) (by omega) [⟨65,2,[x],0,0⟩,⟨24,1,[.sl 2 A,.ol 0 0 1,.sl 2 B],0,0⟩]
 have e1:((a+1+b:Nat):Int)=(a:Int)+1+(b:Int):=by omega
 rw [e1] at hg
 refine yk cop68 ?_
 show W _ _ _ _ ⟨_,_⟩;simp only [A68,List.cons_append,List.nil_append,List.length_cons,List.length_nil,Nat.reduceAdd,Nat.reduceSub,List.replicate]
 repeat (first|(with_reducible first|refine zJ ?_|refine zI ?_|refine zZ ?_|refine Ze ?_|refine Zp ?_|refine zk ?_|refine zh ?_|refine Zg ?_|refine z6 ?_|refine Zb ?_|refine Zl ?_)|(with_reducible first|refine Yh 60 ?_|refine Yg ?_)|((with_reducible refine khs 90 ?_ ?_ ?_ ?_);rotate_left 2;exact hg)|((with_reducible first|refine ks fun K hK=>?_|refine kd fun K hK=>?_|refine kc fun K hK2 hK hK3=>?_|refine Zr fun K hR=>?_|refine Zj rfl fun K hR=>?_|refine Zi fun K hR=>?_);simp (disch:=omega) only [bg0,bg1,bg2,bg3,bg4,zr,zS,eff,AX.ev,St.put,zQ,zP,ap1,zg,Int.reduceTMod,Int.reduceTDiv,reduceCtorEq,zt,AV.cells,AV.fine,AV.one,Nat.reduceAdd,Nat.reduceSub,Nat.reduceMul,Nat.reduceLT,Nat.reduceLeDiff,Int.reduceLT,Int.reduceLE,Int.reduceAdd,Int.reduceSub,Int.reduceNeg,Int.reduceMul,Int.reduceEq,Int.reduceToNat,zW,zp,live,zo,rdA,ze,wrA,zH,zq,zV,zR,zT,zi,zb,zm,zj,zd,cut,id,ap2,reduceIte,zu,zY,geB,AOp.cls,AOp.xs,ltB,ltC,Nat.reduceBEq,Option.toList,List.cons_append,decide_eq_true,decide_eq_false,if_pos,if_neg,List.length_map,List.cons_append,bVb,bVn,eq_self,Bool.and_self,BEq.rfl,not_true_eq_false,capN,hA,hB,t1,t2,t3,h0,h2,h3,Int.zero_add];(first|(with_reducible first|(refine hK _ ?_;clear hK K)|(refine hK ?_;clear hK hK3 K hK2)|(refine hK3 ?_;clear hK hK3 K hK2))|((with_reducible refine hR _ ?_ ?_ ?_ ?_);rotate_left 2;rfl;rfl)|((with_reducible refine hR _ ?_);rfl))))
set_option maxHeartbeats 4000000 in
theorem cc2 (G : Nat → AV) (A B : List AV) (a b : Nat) (hA : A.length = a) (hB : B.length = b) (ha : a ≤ 1000000) (hb : b ≤ 1000000) (hab : 0 < a + b) :
  HC Tryd.prog G 68 [.ol 0 0 2] [⟨24,1,[.sl 2 A,.sl 2 B],0,0⟩] (.ol 1 2 (a+b)) [⟨24,1,[.sl 2 A,.sl 2 B],0,0⟩,⟨65,2,A++B,2,0⟩]:=by
 have t1:A.take a=A:=List.take_of_length_le (by omega)
 have h0:¬ ((a:Int)+(b:Int)) < 0:=by omega
 have h3:¬ (a:Int) < 0:=by omega
 have hg:=grow42 G (a+b) (by omega) (by omega) [⟨24,1,[.sl 2 A,.sl 2 B],0,0⟩]
 have e1:((a+b:Nat):Int)=(a:Int)+(b:Int):=by omega
 rw [e1] at hg
 refine yk cop68 ?_
 show W _ _ _ _ ⟨_,_⟩;simp only [A68,List.cons_append,List.nil_append,List.length_cons,List.length_nil,Nat.reduceAdd,Nat.reduceSub,List.replicate]
 repeat (first|(with_reducible first|refine zJ ?_|refine zI ?_|refine zZ ?_|refine Ze ?_|refine Zp ?_|refine zk ?_|refine zh ?_|refine Zg ?_|refine z6 ?_|refine Zb ?_|refine Zl ?_)|(with_reducible first|refine Yh 60 ?_|refine Yg ?_)|((with_reducible refine khs 90 ?_ ?_ ?_ ?_);rotate_left 2;exact hg)|((with_reducible first|refine ks fun K hK=>?_|refine kd fun K hK=>?_|refine kc fun K hK2 hK hK3=>?_|refine Zr fun K hR=>?_|refine Zj rfl fun K hR=>?_|refine Zi fun K hR=>?_);simp (disch:=omega) only [bg0,bg1,bg2,bg3,bg4,zr,zS,eff,AX.ev,St.put,zQ,zP,ap1,zg,Int.reduceTMod,Int.reduceTDiv,reduceCtorEq,zt,AV.cells,AV.fine,AV.one,Nat.reduceAdd,Nat.reduceSub,Nat.reduceMul,Nat.reduceLT,Nat.reduceLeDiff,Int.reduceLT,Int.reduceLE,Int.reduceAdd,Int.reduceSub,Int.reduceNeg,Int.reduceMul,Int.reduceEq,Int.reduceToNat,zW,zp,live,zo,rdA,ze,wrA,zH,zq,zV,zR,zT,zi,zb,zm,zj,zd,cut,id,ap2,reduceIte,zu,zY,geB,AOp.cls,AOp.xs,ltB,ltC,Nat.reduceBEq,Option.toList,List.cons_append,decide_eq_true,decide_eq_false,if_pos,if_neg,List.length_map,List.cons_append,bVb,bVn,eq_self,Bool.and_self,BEq.rfl,not_true_eq_false,capN,hA,hB,t1,h0,h3,Int.zero_add];(first|(with_reducible first|(refine hK _ ?_;clear hK K)|(refine hK ?_;clear hK hK3 K hK2)|(refine hK3 ?_;clear hK hK3 K hK2))|((with_reducible refine hR _ ?_ ?_ ?_ ?_);rotate_left 2;rfl;rfl)|((with_reducible refine hR _ ?_);rfl))))
set_option maxHeartbeats 4000000 in
theorem cc0 (G:Nat→AV):HC Tryd.prog G 68 [.ol 0 0 2] [⟨24,1,[.sl 2 [],.sl 2 []],0,0⟩] (.nl 2) [⟨24,1,[.sl 2 [],.sl 2 []],0,0⟩]:=by
 refine yk cop68 ?_
 show W _ _ _ _ ⟨_,_⟩;simp only [A68,List.cons_append,List.nil_append,List.length_cons,List.length_nil,Nat.reduceAdd,Nat.reduceSub,List.replicate]
 repeat (first|(with_reducible first|refine zJ ?_|refine zI ?_|refine zZ ?_|refine Ze ?_|refine Zp ?_|refine zk ?_|refine zh ?_|refine Zg ?_|refine z6 ?_|refine Zb ?_|refine Zl ?_)|(with_reducible first|refine Yh 60 ?_|refine Yg ?_)|((with_reducible refine khs 90 ?_ ?_ ?_ ?_);rotate_left 2;exact (grow0 G _))|((with_reducible first|refine ks fun K hK=>?_|refine kd fun K hK=>?_|refine kc fun K hK2 hK hK3=>?_|refine Zr fun K hR=>?_|refine Zj rfl fun K hR=>?_|refine Zi fun K hR=>?_);simp (disch:=omega) only [bg0,bg1,bg2,bg3,bg4,zr,zS,eff,AX.ev,St.put,zQ,zP,ap1,zg,Int.reduceTMod,Int.reduceTDiv,reduceCtorEq,zt,AV.cells,AV.fine,AV.one,Nat.reduceAdd,Nat.reduceSub,Nat.reduceMul,Nat.reduceLT,Nat.reduceLeDiff,Int.reduceLT,Int.reduceLE,Int.reduceAdd,Int.reduceSub,Int.reduceNeg,Int.reduceMul,Int.reduceEq,Int.reduceToNat,zW,zp,live,zo,rdA,ze,wrA,zH,zq,zV,zR,zT,zi,zb,zm,zj,zd,cut,id,ap2,reduceIte,zu,zY,geB,AOp.cls,AOp.xs,ltB,ltC,Nat.reduceBEq,Option.toList,List.cons_append,decide_eq_true,decide_eq_false,if_pos,if_neg,List.length_map,List.cons_append,bVb,bVn,eq_self,Bool.and_self,BEq.rfl,not_true_eq_false,capN,Int.zero_add];(first|(with_reducible first|(refine hK _ ?_;clear hK K)|(refine hK ?_;clear hK hK3 K hK2)|(refine hK3 ?_;clear hK hK3 K hK2))|((with_reducible refine hR _ ?_ ?_ ?_ ?_);rotate_left 2;rfl;rfl)|((with_reducible refine hR _ ?_);rfl))))
end Go.Proofs.YtgpldekhcojimaaDoor.Sim.Pr7
namespace Go.Proofs.YtgpldekhcojimaaDoor.Sim.Pr7
open Go.RowKit
set_option maxRecDepth 100000
theorem YK {t:Nat} {k:Nat} {es:List AV} {st:St} {i g n:Nat} {e:TypeId} {fz:Nat} (h1:st.s.getD t zK = .ol i g n) (h2:st.H[i]? = some ⟨e,k,es,g,fz⟩) (hn:es.length=n) (hp:es.all AV.isP=true):RetP [(t,none)] (.sl k es) .r st:=by
 subst hn
 refine ⟨.inr rfl,[.ol i g es.length],by simp only [zS,h1],[.sl k es],st.H.set i ⟨e,k,es,g,max fz es.length⟩,?_,rfl⟩
 simp only [yt,pur,ZV,h2,Nat.le_refl,List.take_length,hp,and_self,if_true]
def Ws (G:Nat→AV):Prop:=∀ l:List Pr,l.length≤40→Okl l→PC Tryd.prog G 48 [.sl 2 (l.map pA)] (.sl 2 ((mk l).map pA))
theorem Ym {l:List Pr} (h:Okl l):Okl (mk l):=⟨by have:=Z5 l;have:=h.len;omega,fun p hp=>h.sz p (w3 hp)⟩
set_option maxHeartbeats 2000000 in
theorem xS (G:Nat→AV) (hM:Ws G) (l:List Pr) (hl:Okl l) (h40:l.length≤40):PC Tryd.prog G 54 [.sl 2 (l.map pA)] (.sl 2 ((mk l).map pA)):=by
 by_cases hs:SLt l
 ·have hi := is11 G l hl true (by simp [hs])
  refine ZP cop54 ?_
  rw [xB hs]
  show W _ _ _ _ ⟨_,_⟩;simp only [A54,List.cons_append,List.nil_append,List.length_cons,List.length_nil,Nat.reduceAdd,Nat.reduceSub,List.replicate]
  repeat (first|(with_reducible first|refine zJ ?_|refine zI ?_|refine zk ?_|refine zh ?_|refine Zl ?_|refine ZC ?_)|((with_reducible refine kps 78 ?_ ?_ ?_ ?_);rotate_left 1;rfl;exact hi)|((with_reducible first|refine ks fun K hK=>?_|refine kd fun K hK=>?_|refine kc fun K hK2 hK hK3=>?_|refine Zr fun K hR=>?_|refine Zj rfl fun K hR=>?_|refine Zi fun K hR=>?_);simp (disch:=omega) only [bg0,bg1,bg2,bg3,bg4,zr,zS,eff,AX.ev,St.put,zQ,zP,ap1,zg,Int.reduceTMod,Int.reduceTDiv,reduceCtorEq,zt,AV.cells,AV.fine,AV.one,Nat.reduceAdd,Nat.reduceSub,Nat.reduceMul,Nat.reduceLT,Nat.reduceLeDiff,Int.reduceLT,Int.reduceLE,Int.reduceAdd,Int.reduceSub,Int.reduceNeg,Int.reduceMul,Int.reduceEq,Int.reduceToNat,zW,zp,live,zo,rdA,ze,wrA,zH,zq,zV,zR,zT,zi,zb,zm,zj,zd,cut,id,ap2,reduceIte,zu,zY,geB,AOp.cls,AOp.xs,ltB,ltC,Nat.reduceBEq,Option.toList,List.cons_append,decide_eq_true,decide_eq_false,if_pos,if_neg,List.length_map,zO,List.cons_append,bVb,bVn,eq_self,Bool.and_self,BEq.rfl,not_true_eq_false,yw];(first|(with_reducible first|(refine hK _ ?_;clear hK K)|(refine hK ?_;clear hK hK3 K hK2)|(refine hK3 ?_;clear hK hK3 K hK2))|((with_reducible refine hR _ ?_ ?_ ?_ ?_);rotate_left 2;rfl;rfl)|((with_reducible refine hR _ ?_);rfl))))
 ·have hi := is11 G l hl false (by simp [hs])
  refine ZP cop54 ?_
  show W _ _ _ _ ⟨_,_⟩;simp only [A54,List.cons_append,List.nil_append,List.length_cons,List.length_nil,Nat.reduceAdd,Nat.reduceSub,List.replicate]
  repeat (first|(with_reducible first|refine zJ ?_|refine zI ?_|refine Ze ?_|refine zk ?_|refine zh ?_|refine Zl ?_)|((with_reducible refine kps 78 ?_ ?_ ?_ ?_);rotate_left 1;rfl;exact hi)|((with_reducible refine kps 48 ?_ ?_ ?_ ?_);rotate_left 1;rfl;exact (hM l h40 hl))|((with_reducible first|refine ks fun K hK=>?_|refine kd fun K hK=>?_|refine kc fun K hK2 hK hK3=>?_|refine Zr fun K hR=>?_|refine Zj rfl fun K hR=>?_|refine Zi fun K hR=>?_);simp (disch:=omega) only [bg0,bg1,bg2,bg3,bg4,zr,zS,eff,AX.ev,St.put,zQ,zP,ap1,zg,Int.reduceTMod,Int.reduceTDiv,reduceCtorEq,zt,AV.cells,AV.fine,AV.one,Nat.reduceAdd,Nat.reduceSub,Nat.reduceMul,Nat.reduceLT,Nat.reduceLeDiff,Int.reduceLT,Int.reduceLE,Int.reduceAdd,Int.reduceSub,Int.reduceNeg,Int.reduceMul,Int.reduceEq,Int.reduceToNat,zW,zp,live,zo,rdA,ze,wrA,zH,zq,zV,zR,zT,zi,zb,zm,zj,zd,cut,id,ap2,reduceIte,zu,zY,geB,AOp.cls,AOp.xs,ltB,ltC,Nat.reduceBEq,Option.toList,List.cons_append,decide_eq_true,decide_eq_false,if_pos,if_neg,List.length_map,zO,List.cons_append,bVb,bVn,eq_self,Bool.and_self,BEq.rfl,not_true_eq_false,yw];(first|(with_reducible first|(refine hK _ ?_;clear hK K)|(refine hK ?_;clear hK hK3 K hK2)|(refine hK3 ?_;clear hK hK3 K hK2))|((with_reducible refine hR _ ?_ ?_ ?_ ?_);rotate_left 2;rfl;rfl)|((with_reducible refine hR _ ?_);rfl))))
abbrev oP (p:Option Pr):AV:=.tup [.agg [S ((p.getD default).1),S ((p.getD default).2)],Bo p.isSome]
theorem dflt:(default:Pr)=(⟨#[]⟩,⟨#[]⟩):=rfl
def af (m:List Pr) (k:ByteArray):Option Pr:=m[(le m k).length]?
def fl (m:List Pr) (k:ByteArray):Option Pr:=(le m k).getLast?
theorem fl_at {m:List Pr} (h:SLe m) (k:ByteArray) (h0:(le m k).length ≠ 0):∃ hi:(le m k).length - 1 < m.length,fl m k=some (m[(le m k).length - 1]):=by
 have hl:=YP (B:=m) (k:=k)
 refine ⟨by omega,?_⟩
 unfold fl
 rw [List.getLast?_eq_getElem?]
 have e:=List.getElem?_append_left (l₁:=le m k) (l₂:=hi m k) (i:=(le m k).length - 1) (by omega)
 rw [← YD h k] at e
 rw [← e,List.getElem?_eq_getElem]
set_option maxHeartbeats 2000000 in
theorem floor23 (G:Nat→AV) (hM:Ws G) (l:List Pr) (hl:Okl l) (h40:l.length≤40) (key:ByteArray) (hk:key.size≤9223372036854775807):PC Tryd.prog G 27 [.sl 2 (l.map pA),S key] (oP (fl (mk l) key)):=by
 have hs:=xS G hM l hl h40
 have hm:=Ym hl
 have hlen:=hm.len
 have hi:=idx41 G (mk l) (ZU l).le hm key hk
 have hll:=YP (B:=mk l) (k:=key)
 have hfl:=fl_at (ZU l).le key
 have hfn:(le (mk l) key).length=0→fl (mk l) key=none:=fun h=>by unfold fl;rw [List.length_eq_zero_iff.1 h];rfl
 refine ZP cop27 ?_
 generalize mk l=m at *
 generalize (le m key).length=c at *
 generalize fl m key=r at *
 show W _ _ _ _ ⟨_,_⟩;simp only [A27,List.cons_append,List.nil_append,List.length_cons,List.length_nil,Nat.reduceAdd,Nat.reduceSub,List.replicate]
 by_cases hc:c=0
 ·rw [hfn hc]
  simp only [oP,Option.getD_none,Option.isSome_none,dflt]
  have e:((c:Int)=0):=by omega
  repeat (first|(with_reducible first|refine zJ ?_|refine zI ?_|refine zk ?_|refine zh ?_|refine Zl ?_|refine ZC ?_)|((with_reducible refine kps 54 ?_ ?_ ?_ ?_);rotate_left 1;rfl;exact hs)|((with_reducible refine kps 56 ?_ ?_ ?_ ?_);rotate_left 1;rfl;exact (wI G key))|((with_reducible refine kps 55 ?_ ?_ ?_ ?_);rotate_left 1;rfl;exact hi)|((with_reducible first|refine ks fun K hK=>?_|refine kd fun K hK=>?_|refine kc fun K hK2 hK hK3=>?_|refine Zr fun K hR=>?_|refine Zj rfl fun K hR=>?_|refine Zi fun K hR=>?_);simp (disch:=omega) only [bg0,bg1,bg2,bg3,bg4,zr,zS,eff,AX.ev,St.put,zQ,zP,ap1,zg,Int.reduceTMod,Int.reduceTDiv,reduceCtorEq,zt,AV.cells,AV.fine,AV.one,Nat.reduceAdd,Nat.reduceSub,Nat.reduceMul,Nat.reduceLT,Nat.reduceLeDiff,Int.reduceLT,Int.reduceLE,Int.reduceAdd,Int.reduceSub,Int.reduceNeg,Int.reduceMul,Int.reduceEq,Int.reduceToNat,zW,zp,live,zo,rdA,ze,wrA,zH,zq,zV,zR,zT,zi,zb,zm,zj,zd,cut,id,ap2,reduceIte,zu,zY,geB,AOp.cls,AOp.xs,ltB,ltC,Nat.reduceBEq,Option.toList,List.cons_append,decide_eq_true,decide_eq_false,if_pos,if_neg,List.length_map,zO,List.cons_append,bVb,bVn,eq_self,Bool.and_self,BEq.rfl,not_true_eq_false,yw,e];(first|(with_reducible first|(refine hK _ ?_;clear hK K)|(refine hK ?_;clear hK hK3 K hK2)|(refine hK3 ?_;clear hK hK3 K hK2))|((with_reducible refine hR _ ?_ ?_ ?_ ?_);rotate_left 2;rfl;rfl)|((with_reducible refine hR _ ?_);rfl))))
 ·obtain ⟨h1, h2⟩ := hfl hc
  rw [h2]
  simp only [oP,Option.getD_some,Option.isSome_some]
  have e:¬ ((c:Int)=0):=by omega
  have e1:(c:Int) - 1=((c - 1:Nat):Int):=by omega
  repeat (first|(with_reducible first|refine zJ ?_|refine zI ?_|refine Ze ?_|refine zk ?_|refine zh ?_|refine Zl ?_)|((with_reducible refine kps 54 ?_ ?_ ?_ ?_);rotate_left 1;rfl;exact hs)|((with_reducible refine kps 56 ?_ ?_ ?_ ?_);rotate_left 1;rfl;exact (wI G key))|((with_reducible refine kps 55 ?_ ?_ ?_ ?_);rotate_left 1;rfl;exact hi)|((with_reducible first|refine ks fun K hK=>?_|refine kd fun K hK=>?_|refine kc fun K hK2 hK hK3=>?_|refine Zr fun K hR=>?_|refine Zj rfl fun K hR=>?_|refine Zi fun K hR=>?_);simp (disch:=omega) only [bg0,bg1,bg2,bg3,bg4,zr,zS,eff,AX.ev,St.put,zQ,zP,ap1,zg,Int.reduceTMod,Int.reduceTDiv,reduceCtorEq,zt,AV.cells,AV.fine,AV.one,Nat.reduceAdd,Nat.reduceSub,Nat.reduceMul,Nat.reduceLT,Nat.reduceLeDiff,Int.reduceLT,Int.reduceLE,Int.reduceAdd,Int.reduceSub,Int.reduceNeg,Int.reduceMul,Int.reduceEq,Int.reduceToNat,zW,zp,live,zo,rdA,ze,wrA,zH,zq,zV,zR,zT,zi,zb,zm,zj,zd,cut,id,ap2,reduceIte,zu,zY,geB,AOp.cls,AOp.xs,ltB,ltC,Nat.reduceBEq,Option.toList,List.cons_append,decide_eq_true,decide_eq_false,if_pos,if_neg,List.length_map,zO,List.cons_append,bVb,bVn,eq_self,Bool.and_self,BEq.rfl,not_true_eq_false,yw,e,e1];(first|(with_reducible first|(refine hK _ ?_;clear hK K)|(refine hK ?_;clear hK hK3 K hK2)|(refine hK3 ?_;clear hK hK3 K hK2))|((with_reducible refine hR _ ?_ ?_ ?_ ?_);rotate_left 2;rfl;rfl)|((with_reducible refine hR _ ?_);rfl))))
set_option maxHeartbeats 2000000 in
theorem get9 (G:Nat→AV) (hM:Ws G) (l:List Pr) (hl:Okl l) (h40:l.length≤40) (key:ByteArray) (hk:key.size≤9223372036854775807):PC Tryd.prog G 37 [.sl 2 (l.map pA),S key] (.tup [S ((val l key).getD ⟨#[]⟩),Bo (val l key).isSome]):=by
 have hf:=floor23 G hM l hl h40 key hk
 have hv:val l key=match fl (mk l) key with|some p=>if p.1=key then some p.2 else none|none=>none:=by
  rw [← y7];exact get_le (ZU l) key
 rw [hv]
 refine ZP cop37 ?_
 generalize fl (mk l) key=r at *
 show W _ _ _ _ ⟨_,_⟩;simp only [A37,List.cons_append,List.nil_append,List.length_cons,List.length_nil,Nat.reduceAdd,Nat.reduceSub,List.replicate]
 cases r with
 | none =>
  simp only [oP,Option.getD_none,Option.isSome_none,dflt] at hf ⊢
  repeat (first|(with_reducible first|refine zJ ?_|refine zI ?_|refine zk ?_|refine zh ?_|refine Zl ?_|refine ZC ?_)|((with_reducible refine kgs_f ?_ ?_);rfl)|((with_reducible refine kps 27 ?_ ?_ ?_ ?_);rotate_left 1;rfl;exact hf)|((with_reducible first|refine ks fun K hK=>?_|refine kd fun K hK=>?_|refine kc fun K hK2 hK hK3=>?_|refine Zr fun K hR=>?_|refine Zj rfl fun K hR=>?_|refine Zi fun K hR=>?_);simp (disch:=omega) only [bg0,bg1,bg2,bg3,bg4,zr,zS,eff,AX.ev,St.put,zQ,zP,ap1,zg,Int.reduceTMod,Int.reduceTDiv,reduceCtorEq,zt,AV.cells,AV.fine,AV.one,Nat.reduceAdd,Nat.reduceSub,Nat.reduceMul,Nat.reduceLT,Nat.reduceLeDiff,Int.reduceLT,Int.reduceLE,Int.reduceAdd,Int.reduceSub,Int.reduceNeg,Int.reduceMul,Int.reduceEq,Int.reduceToNat,zW,zp,live,zo,rdA,ze,wrA,zH,zq,zV,zR,zT,zi,zb,zm,zj,zd,cut,id,ap2,reduceIte,zu,zY,geB,AOp.cls,AOp.xs,ltB,ltC,Nat.reduceBEq,Option.toList,List.cons_append,decide_eq_true,decide_eq_false,if_pos,if_neg,List.length_map,zO,List.cons_append,bVb,bVn,eq_self,Bool.and_self,BEq.rfl,not_true_eq_false,yw];(first|(with_reducible first|(refine hK _ ?_;clear hK K)|(refine hK ?_;clear hK hK3 K hK2)|(refine hK3 ?_;clear hK hK3 K hK2))|((with_reducible refine hR _ ?_ ?_ ?_ ?_);rotate_left 2;rfl;rfl)|((with_reducible refine hR _ ?_);rfl))))
 | some p =>
  simp only [oP,Option.getD_some,Option.isSome_some] at hf ⊢
  by_cases hp:p.1=key
  ·rw [if_pos hp]
   simp only [Option.getD_some,Option.isSome_some]
   repeat (first|(with_reducible first|refine zJ ?_|refine zI ?_|refine Ze ?_|refine zk ?_|refine zh ?_|refine Zl ?_)|((with_reducible refine Wy ?_ ?_);rfl)|((with_reducible refine kps 27 ?_ ?_ ?_ ?_);rotate_left 1;rfl;exact hf)|((with_reducible first|refine ks fun K hK=>?_|refine kd fun K hK=>?_|refine kc fun K hK2 hK hK3=>?_|refine Zr fun K hR=>?_|refine Zj rfl fun K hR=>?_|refine Zi fun K hR=>?_);simp (disch:=omega) only [bg0,bg1,bg2,bg3,bg4,zr,zS,eff,AX.ev,St.put,zQ,zP,ap1,zg,Int.reduceTMod,Int.reduceTDiv,reduceCtorEq,zt,AV.cells,AV.fine,AV.one,Nat.reduceAdd,Nat.reduceSub,Nat.reduceMul,Nat.reduceLT,Nat.reduceLeDiff,Int.reduceLT,Int.reduceLE,Int.reduceAdd,Int.reduceSub,Int.reduceNeg,Int.reduceMul,Int.reduceEq,Int.reduceToNat,zW,zp,live,zo,rdA,ze,wrA,zH,zq,zV,zR,zT,zi,zb,zm,zj,zd,cut,id,ap2,reduceIte,zu,zY,geB,AOp.cls,AOp.xs,ltB,ltC,Nat.reduceBEq,Option.toList,List.cons_append,decide_eq_true,decide_eq_false,if_pos,if_neg,List.length_map,zO,List.cons_append,bVb,bVn,eq_self,Bool.and_self,BEq.rfl,not_true_eq_false,yw,hp];(first|(with_reducible first|(refine hK _ ?_;clear hK K)|(refine hK ?_;clear hK hK3 K hK2)|(refine hK3 ?_;clear hK hK3 K hK2))|((with_reducible refine hR _ ?_ ?_ ?_ ?_);rotate_left 2;rfl;rfl)|((with_reducible refine hR _ ?_);rfl))))
  ·rw [if_neg hp]
   simp only [Option.getD_none,Option.isSome_none]
   repeat (first|(with_reducible first|refine zJ ?_|refine zI ?_|refine zk ?_|refine zh ?_|refine Zl ?_|refine ZC ?_)|((with_reducible refine Wy ?_ ?_);rfl)|((with_reducible refine kps 27 ?_ ?_ ?_ ?_);rotate_left 1;rfl;exact hf)|((with_reducible first|refine ks fun K hK=>?_|refine kd fun K hK=>?_|refine kc fun K hK2 hK hK3=>?_|refine Zr fun K hR=>?_|refine Zj rfl fun K hR=>?_|refine Zi fun K hR=>?_);simp (disch:=omega) only [bg0,bg1,bg2,bg3,bg4,zr,zS,eff,AX.ev,St.put,zQ,zP,ap1,zg,Int.reduceTMod,Int.reduceTDiv,reduceCtorEq,zt,AV.cells,AV.fine,AV.one,Nat.reduceAdd,Nat.reduceSub,Nat.reduceMul,Nat.reduceLT,Nat.reduceLeDiff,Int.reduceLT,Int.reduceLE,Int.reduceAdd,Int.reduceSub,Int.reduceNeg,Int.reduceMul,Int.reduceEq,Int.reduceToNat,zW,zp,live,zo,rdA,ze,wrA,zH,zq,zV,zR,zT,zi,zb,zm,zj,zd,cut,id,ap2,reduceIte,zu,zY,geB,AOp.cls,AOp.xs,ltB,ltC,Nat.reduceBEq,Option.toList,List.cons_append,decide_eq_true,decide_eq_false,if_pos,if_neg,List.length_map,zO,List.cons_append,bVb,bVn,eq_self,Bool.and_self,BEq.rfl,not_true_eq_false,yw,hp];(first|(with_reducible first|(refine hK _ ?_;clear hK K)|(refine hK ?_;clear hK hK3 K hK2)|(refine hK3 ?_;clear hK hK3 K hK2))|((with_reducible refine hR _ ?_ ?_ ?_ ?_);rotate_left 2;rfl;rfl)|((with_reducible refine hR _ ?_);rfl))))
theorem drop_le {m:List Pr} (h:SLe m) (key:ByteArray):m.drop (le m key).length=hi m key:=XZ h key
set_option maxHeartbeats 4000000 in
theorem put17 (G:Nat→AV) (hM:Ws G) (l:List Pr) (hl:Okl l) (h40:l.length≤40) (key v:ByteArray) (hk:key.size≤9223372036854775807):PC Tryd.prog G 38 [.sl 2 (l.map pA),S key,S v] (.sl 2 ((pt (mk l) key v).map pA)):=by
 have hs:=xS G hM l hl h40
 have hm:=Ym hl
 have hlen:=hm.len
 have hi1:=idx40 G (mk l) (ZU l).le hm key hk
 have hi2:=idx41 G (mk l) (ZU l).le hm key hk
 have hl1:=Xb (B:=mk l) (k:=key)
 have hl2:=YP (B:=mk l) (k:=key)
 have hml:=Z5 l
 have t1:=xH (ZU l).le key
 have t2:=drop_le (ZU l).le key
 have hpt:(pt (mk l) key v).map pA=(lo (mk l) key).map pA++[.agg [S key,S v]]++(hi (mk l) key).map pA:=by simp [pt,pA]
 rw [hpt]
 have hhl:(hi (mk l) key).length=(mk l).length - (le (mk l) key).length:=by rw [← t2];simp
 refine ZP cop38 ?_
 generalize mk l=m at *
 have c3:=cc3 G ((lo m key).map pA) ((hi m key).map pA) (.agg [S key,S v]) (lo m key).length (hi m key).length (by simp) (by simp) (by omega) (by omega)
 have s1:(m.map pA).take (lo m key).length=(lo m key).map pA:=by rw [← List.map_take,t1]
 have s2:(m.map pA).drop (le m key).length=(hi m key).map pA:=by rw [← List.map_drop,t2]
 have s3:∀ x:Nat,(m.map pA).take m.length=m.map pA:=fun _=>List.take_of_length_le (by simp)
 have s3:=s3 0
 have pL:=yv (lo m key)
 have pH:=yv (hi m key)
 have lL:((lo m key).map pA).length=(lo m key).length:=by simp
 have lH:((hi m key).map pA).length=(hi m key).length:=by simp
 generalize (lo m key).map pA=LA at *
 generalize (hi m key).map pA=HA at *
 generalize (lo m key).length=c at *
 generalize (le m key).length=d at *
 show W _ _ _ _ ⟨_,_⟩;simp only [A38,List.cons_append,List.nil_append,List.length_cons,List.length_nil,Nat.reduceAdd,Nat.reduceSub,List.replicate]
 repeat (first|(with_reducible first|refine zJ ?_|refine zI ?_|refine Zu ?_|refine zk ?_|refine Zm ?_|refine zh ?_|refine Zl ?_)|((with_reducible first|refine ks fun K hK=>?_|refine kd fun K hK=>?_|refine kc fun K hK2 hK hK3=>?_);simp (disch:=omega) only [bg0,bg1,bg2,bg3,bg4,zr,zS,eff,AX.ev,St.put,zQ,zP,ap1,zg,Int.reduceTMod,Int.reduceTDiv,reduceCtorEq,zt,AV.cells,AV.fine,AV.one,Nat.reduceAdd,Nat.reduceSub,Nat.reduceMul,Nat.reduceLT,Nat.reduceLeDiff,Int.reduceLT,Int.reduceLE,Int.reduceAdd,Int.reduceSub,Int.reduceNeg,Int.reduceMul,Int.reduceEq,Int.reduceToNat,zW,zp,live,zo,rdA,ze,wrA,zH,zq,zV,zR,zT,zi,zb,zm,zj,zd,cut,id,ap2,reduceIte,zu,zY,geB,AOp.cls,AOp.xs,ltB,ltC,Nat.reduceBEq,Option.toList,List.cons_append,decide_eq_true,decide_eq_false,if_pos,if_neg,List.length_map,zO,List.cons_append,bVb,bVn,eq_self,Bool.and_self,BEq.rfl,not_true_eq_false,yw,s1,s2,s3];(with_reducible first|(refine hK _ ?_;clear hK K)|(refine hK ?_;clear hK hK3 K hK2)|(refine hK3 ?_;clear hK hK3 K hK2)))|((with_reducible refine kps 54 ?_ ?_ ?_ ?_);rotate_left 1;rfl;exact hs)|((with_reducible refine kps 67 ?_ ?_ ?_ ?_);rotate_left 1;rfl;exact (nl33 G key))|((with_reducible refine kps 56 ?_ ?_ ?_ ?_);rotate_left 1;rfl;exact (wI G key))|((with_reducible refine kps 55 ?_ ?_ ?_ ?_);rotate_left 1;rfl;exact hi1)|((with_reducible refine kps 55 ?_ ?_ ?_ ?_);rotate_left 1;rfl;exact hi2)|((first|((with_reducible refine kpd 54 ?_ ?_ ?_ ?_ ?_);rotate_left 1)|((with_reducible refine kpd 67 ?_ ?_ ?_ ?_ ?_);rotate_left 1)|((with_reducible refine kpd 56 ?_ ?_ ?_ ?_ ?_);rotate_left 1)|((with_reducible refine kpd 55 ?_ ?_ ?_ ?_ ?_);rotate_left 1)|((with_reducible refine kpd 55 ?_ ?_ ?_ ?_ ?_);rotate_left 1)|((with_reducible refine khd 68 ?_ ?_ ?_ ?_ ?_);rotate_left 2));(focus (simp (disch:=omega) only [bg0,bg1,bg2,bg3,bg4,zr,zS,eff,AX.ev,St.put,zQ,zP,ap1,zg,Int.reduceTMod,Int.reduceTDiv,reduceCtorEq,zt,AV.cells,AV.fine,AV.one,Nat.reduceAdd,Nat.reduceSub,Nat.reduceMul,Nat.reduceLT,Nat.reduceLeDiff,Int.reduceLT,Int.reduceLE,Int.reduceAdd,Int.reduceSub,Int.reduceNeg,Int.reduceMul,Int.reduceEq,Int.reduceToNat,zW,zp,live,zo,rdA,ze,wrA,zH,zq,zV,zR,zT,zi,zb,zm,zj,zd,cut,id,ap2,reduceIte,zu,zY,geB,AOp.cls,AOp.xs,ltB,ltC,Nat.reduceBEq,Option.toList,List.cons_append,decide_eq_true,decide_eq_false,if_pos,if_neg,List.length_map,zO,List.cons_append,bVb,bVn,eq_self,Bool.and_self,BEq.rfl,not_true_eq_false,yw,s1,s2,s3];try rfl));(first|(rfl;exact hs)|(rfl;exact (nl33 G key))|(rfl;exact (wI G key))|(rfl;exact hi1)|(rfl;exact hi2)|(exact c3))))
 exact YK rfl rfl (by simp [lL,lH];omega) (by simp only [List.all_append,pL,pH];rfl)
set_option maxHeartbeats 4000000 in
theorem drop19 (G:Nat→AV) (hM:Ws G) (l:List Pr) (hl:Okl l) (h40:l.length≤40) (key:ByteArray) (hk:key.size≤9223372036854775807):PC Tryd.prog G 39 [.sl 2 (l.map pA),S key] (.sl 2 ((dr (mk l) key).map pA)):=by
 have hs:=xS G hM l hl h40
 have hm:=Ym hl
 have hlen:=hm.len
 have hi1:=idx40 G (mk l) (ZU l).le hm key hk
 have hi2:=idx41 G (mk l) (ZU l).le hm key hk
 have hl1:=Xb (B:=mk l) (k:=key)
 have hl2:=YP (B:=mk l) (k:=key)
 have hml:=Z5 l
 have t1:=xH (ZU l).le key
 have t2:=drop_le (ZU l).le key
 have hpt:(dr (mk l) key).map pA=(lo (mk l) key).map pA++(hi (mk l) key).map pA:=by rw [← dr_eq (ZU l),List.map_append]
 rw [hpt]
 have hhl:(hi (mk l) key).length=(mk l).length - (le (mk l) key).length:=by rw [← t2];simp
 refine ZP cop39 ?_
 generalize mk l=m at *
 have c2:=cc2 G ((lo m key).map pA) ((hi m key).map pA) (lo m key).length (hi m key).length (by simp) (by simp) (by omega) (by omega)
 have s1:(m.map pA).take (lo m key).length=(lo m key).map pA:=by rw [← List.map_take,t1]
 have s2:(m.map pA).drop (le m key).length=(hi m key).map pA:=by rw [← List.map_drop,t2]
 have s3:(m.map pA).take m.length=m.map pA:=List.take_of_length_le (by simp)
 have pL:=yv (lo m key)
 have pH:=yv (hi m key)
 have lL:((lo m key).map pA).length=(lo m key).length:=by simp
 have lH:((hi m key).map pA).length=(hi m key).length:=by simp
 generalize (lo m key).map pA=LA at *
 generalize (hi m key).map pA=HA at *
 generalize (lo m key).length=c at *
 generalize (le m key).length=d at *
 generalize (hi m key).length=e at *
 by_cases h0:0 < c+e
 ·have c2 := c2 h0
  show W _ _ _ _ ⟨_,_⟩;simp only [A39,List.cons_append,List.nil_append,List.length_cons,List.length_nil,Nat.reduceAdd,Nat.reduceSub,List.replicate]
  repeat (first|(with_reducible first|refine zJ ?_|refine zI ?_|refine Zu ?_|refine zk ?_|refine Zm ?_|refine zh ?_|refine Zl ?_)|((with_reducible first|refine ks fun K hK=>?_|refine kd fun K hK=>?_|refine kc fun K hK2 hK hK3=>?_);simp (disch:=omega) only [bg0,bg1,bg2,bg3,bg4,zr,zS,eff,AX.ev,St.put,zQ,zP,ap1,zg,Int.reduceTMod,Int.reduceTDiv,reduceCtorEq,zt,AV.cells,AV.fine,AV.one,Nat.reduceAdd,Nat.reduceSub,Nat.reduceMul,Nat.reduceLT,Nat.reduceLeDiff,Int.reduceLT,Int.reduceLE,Int.reduceAdd,Int.reduceSub,Int.reduceNeg,Int.reduceMul,Int.reduceEq,Int.reduceToNat,zW,zp,live,zo,rdA,ze,wrA,zH,zq,zV,zR,zT,zi,zb,zm,zj,zd,cut,id,ap2,reduceIte,zu,zY,geB,AOp.cls,AOp.xs,ltB,ltC,Nat.reduceBEq,Option.toList,List.cons_append,decide_eq_true,decide_eq_false,if_pos,if_neg,List.length_map,zO,List.cons_append,bVb,bVn,eq_self,Bool.and_self,BEq.rfl,not_true_eq_false,yw,s1,s2,s3];(with_reducible first|(refine hK _ ?_;clear hK K)|(refine hK ?_;clear hK hK3 K hK2)|(refine hK3 ?_;clear hK hK3 K hK2)))|((with_reducible refine kps 54 ?_ ?_ ?_ ?_);rotate_left 1;rfl;exact hs)|((with_reducible refine kps 67 ?_ ?_ ?_ ?_);rotate_left 1;rfl;exact (nl33 G key))|((with_reducible refine kps 56 ?_ ?_ ?_ ?_);rotate_left 1;rfl;exact (wI G key))|((with_reducible refine kps 55 ?_ ?_ ?_ ?_);rotate_left 1;rfl;exact hi1)|((with_reducible refine kps 55 ?_ ?_ ?_ ?_);rotate_left 1;rfl;exact hi2)|((first|((with_reducible refine kpd 54 ?_ ?_ ?_ ?_ ?_);rotate_left 1)|((with_reducible refine kpd 67 ?_ ?_ ?_ ?_ ?_);rotate_left 1)|((with_reducible refine kpd 56 ?_ ?_ ?_ ?_ ?_);rotate_left 1)|((with_reducible refine kpd 55 ?_ ?_ ?_ ?_ ?_);rotate_left 1)|((with_reducible refine kpd 55 ?_ ?_ ?_ ?_ ?_);rotate_left 1)|((with_reducible refine khd 68 ?_ ?_ ?_ ?_ ?_);rotate_left 2));(focus (simp (disch:=omega) only [bg0,bg1,bg2,bg3,bg4,zr,zS,eff,AX.ev,St.put,zQ,zP,ap1,zg,Int.reduceTMod,Int.reduceTDiv,reduceCtorEq,zt,AV.cells,AV.fine,AV.one,Nat.reduceAdd,Nat.reduceSub,Nat.reduceMul,Nat.reduceLT,Nat.reduceLeDiff,Int.reduceLT,Int.reduceLE,Int.reduceAdd,Int.reduceSub,Int.reduceNeg,Int.reduceMul,Int.reduceEq,Int.reduceToNat,zW,zp,live,zo,rdA,ze,wrA,zH,zq,zV,zR,zT,zi,zb,zm,zj,zd,cut,id,ap2,reduceIte,zu,zY,geB,AOp.cls,AOp.xs,ltB,ltC,Nat.reduceBEq,Option.toList,List.cons_append,decide_eq_true,decide_eq_false,if_pos,if_neg,List.length_map,zO,List.cons_append,bVb,bVn,eq_self,Bool.and_self,BEq.rfl,not_true_eq_false,yw,s1,s2,s3];try rfl));(first|(rfl;exact hs)|(rfl;exact (nl33 G key))|(rfl;exact (wI G key))|(rfl;exact hi1)|(rfl;exact hi2)|(exact c2))))
  exact YK rfl rfl (by simp [lL,lH]) (by simp only [List.all_append,pL,pH];rfl)
 ·obtain rfl : c = 0 := by omega
  obtain rfl:e=0:=by omega
  obtain rfl:=List.length_eq_zero_iff.1 lL
  obtain rfl:=List.length_eq_zero_iff.1 lH
  show W _ _ _ _ ⟨_,_⟩;simp only [A39,List.cons_append,List.nil_append,List.length_cons,List.length_nil,Nat.reduceAdd,Nat.reduceSub,List.replicate]
  repeat (first|(with_reducible first|refine zJ ?_|refine zI ?_|refine Zu ?_|refine zk ?_|refine Zm ?_|refine zh ?_|refine Zl ?_)|((with_reducible refine kps 54 ?_ ?_ ?_ ?_);rotate_left 1;rfl;exact hs)|((with_reducible refine kps 67 ?_ ?_ ?_ ?_);rotate_left 1;rfl;exact (nl33 G key))|((with_reducible refine kps 56 ?_ ?_ ?_ ?_);rotate_left 1;rfl;exact (wI G key))|((with_reducible refine kps 55 ?_ ?_ ?_ ?_);rotate_left 1;rfl;exact hi1)|((with_reducible refine kps 55 ?_ ?_ ?_ ?_);rotate_left 1;rfl;exact hi2)|((first|((with_reducible refine kpd 54 ?_ ?_ ?_ ?_ ?_);rotate_left 1)|((with_reducible refine kpd 67 ?_ ?_ ?_ ?_ ?_);rotate_left 1)|((with_reducible refine kpd 56 ?_ ?_ ?_ ?_ ?_);rotate_left 1)|((with_reducible refine kpd 55 ?_ ?_ ?_ ?_ ?_);rotate_left 1)|((with_reducible refine kpd 55 ?_ ?_ ?_ ?_ ?_);rotate_left 1)|((with_reducible refine khd 68 ?_ ?_ ?_ ?_ ?_);rotate_left 2));(focus (simp (disch:=omega) only [bg0,bg1,bg2,bg3,bg4,zr,zS,eff,AX.ev,St.put,zQ,zP,ap1,zg,Int.reduceTMod,Int.reduceTDiv,reduceCtorEq,zt,AV.cells,AV.fine,AV.one,Nat.reduceAdd,Nat.reduceSub,Nat.reduceMul,Nat.reduceLT,Nat.reduceLeDiff,Int.reduceLT,Int.reduceLE,Int.reduceAdd,Int.reduceSub,Int.reduceNeg,Int.reduceMul,Int.reduceEq,Int.reduceToNat,zW,zp,live,zo,rdA,ze,wrA,zH,zq,zV,zR,zT,zi,zb,zm,zj,zd,cut,id,ap2,reduceIte,zu,zY,geB,AOp.cls,AOp.xs,ltB,ltC,Nat.reduceBEq,Option.toList,List.cons_append,decide_eq_true,decide_eq_false,if_pos,if_neg,List.length_map,zO,List.cons_append,bVb,bVn,eq_self,Bool.and_self,BEq.rfl,not_true_eq_false,yw,s1,s2,s3];try rfl));(first|(rfl;exact hs)|(rfl;exact (nl33 G key))|(rfl;exact (wI G key))|(rfl;exact hi1)|(rfl;exact hi2)|(exact (cc0 G))))|((with_reducible first|refine ks fun K hK=>?_|refine kd fun K hK=>?_|refine kc fun K hK2 hK hK3=>?_|refine Zr fun K hR=>?_|refine Zj rfl fun K hR=>?_|refine Zi fun K hR=>?_);simp (disch:=omega) only [bg0,bg1,bg2,bg3,bg4,zr,zS,eff,AX.ev,St.put,zQ,zP,ap1,zg,Int.reduceTMod,Int.reduceTDiv,reduceCtorEq,zt,AV.cells,AV.fine,AV.one,Nat.reduceAdd,Nat.reduceSub,Nat.reduceMul,Nat.reduceLT,Nat.reduceLeDiff,Int.reduceLT,Int.reduceLE,Int.reduceAdd,Int.reduceSub,Int.reduceNeg,Int.reduceMul,Int.reduceEq,Int.reduceToNat,zW,zp,live,zo,rdA,ze,wrA,zH,zq,zV,zR,zT,zi,zb,zm,zj,zd,cut,id,ap2,reduceIte,zu,zY,geB,AOp.cls,AOp.xs,ltB,ltC,Nat.reduceBEq,Option.toList,List.cons_append,decide_eq_true,decide_eq_false,if_pos,if_neg,List.length_map,zO,List.cons_append,bVb,bVn,eq_self,Bool.and_self,BEq.rfl,not_true_eq_false,yw,s1,s2,s3];(first|(with_reducible first|(refine hK _ ?_;clear hK K)|(refine hK ?_;clear hK hK3 K hK2)|(refine hK3 ?_;clear hK hK3 K hK2))|((with_reducible refine hR _ ?_ ?_ ?_ ?_);rotate_left 2;rfl;rfl)|((with_reducible refine hR _ ?_);rfl))))
end Go.Proofs.YtgpldekhcojimaaDoor.Sim.Pr7
namespace Go.Proofs.YtgpldekhcojimaaDoor.Sim.Pr7
open Go.RowKit
set_option maxRecDepth 100000
section
variable {α:Type} {J K:List α} {o a b y:α}
theorem gR0:(J++o::K)[J.length]? = some o:=by simp
theorem ye:(J++o::K++[a])[J.length]? = some o:=by simp
theorem yd:(J++o::K++[a]++[b])[J.length]? = some o:=by simp
theorem sR0:(J++o::K).set J.length y=J++y::K:=by simp
theorem yb:(J++o::K++[a]).set J.length y=J++y::K++[a]:=by simp
theorem ya:(J++o::K++[a]++[b]).set J.length y=J++y::K++[a]++[b]:=by simp
theorem lR0:(J++o::K).length=J.length+(K.length+1):=by simp
theorem lR1:(J++o::K++[a]).length=J.length+(K.length+1)+1:=by simp;omega
theorem kR {M:List α} {i:Nat}:(J++o::K++M)[J.length+(K.length+1)+i]? = M[i]?:=by
 have:=ga (L:=J++o::K) (M:=M) (i:=i)
 rwa [lR0] at this
theorem tR {M:List α} {i:Nat}:(J++o::K++M).set (J.length+(K.length+1)+i) y=J++o::K++M.set i y:=by
 have:=sa (L:=J++o::K) (M:=M) (i:=i) (y:=y)
 rwa [lR0] at this
theorem gR1:(J++o::K++[a])[J.length+(K.length+1)]? = some a:=kR (i:=0)
theorem gR2:(J++o::K++[a]++[b])[J.length+(K.length+1)]? = some a:=by rw [List.append_assoc];exact kR (i:=0)
theorem yc:(J++o::K++[a]++[b])[J.length+(K.length+1)+1]? = some b:=by rw [List.append_assoc];exact kR (i:=1)
theorem sR1:(J++o::K++[a]).set (J.length+(K.length+1)) y=J++o::K++[y]:=tR (i:=0)
theorem sR2:(J++o::K++[a]++[b]).set (J.length+(K.length+1)) y=J++o::K++[y]++[b]:=by simp
theorem Z9:(J++o::K++[a]++[b]).set (J.length+(K.length+1)+1) y=J++o::K++[a]++[y]:=by have h:=tR (J:=J) (K:=K) (o:=o) (M:=[a,b]) (i:=1) (y:=y);simpa using h
end
theorem YQ {l:List Pr} {k:Nat} (h:k < l.length):ZD (l.drop k)=if fk (l[k]).1 (l.drop (k+1))=[] then l[k]::ZD (l.drop (k+1)) else ZD (l.drop (k+1)):=by
 rw [List.drop_eq_getElem_cons h];rfl
theorem mk_snoc {l pre:List Pr} {x:Pr} {rest:List Pr} (h:ZD l=pre++x::rest):(mk pre).take (lo (mk pre) x.1).length++x::(mk pre).drop (lo (mk pre) x.1).length=mk (pre++[x]):=by
 have hne:=YE l
 rw [h] at hne
 have h1:fk x.1 pre=[]:=fk_none.2 fun p hp=>(List.pairwise_append.1 hne).2.2 p hp x (by simp)
 have h2:fk x.1 (mk pre)=[]:=val_none.1 (by rw [y7,val_none];exact h1)
 have h3:=le_lo (ZU pre) x.1
 rw [h2,List.append_nil] at h3
 rw [xH (ZU pre).le,← h3,XZ (ZU pre).le,h3]
 exact pt_mk pre x.1 x.2
theorem fin15 {l pre : List Pr} {k : Nat} {A : Prop} {v : Nat → AV} {H : Hp} (h1 : A) (h2 : ZD l = pre ++ ZD (l.drop k)) (h3 : v 4 = I k) (h4 : ∃ (J K : Hp) (g fz : Nat), v 3 = .ol J.length g (mk pre).length ∧ H = J ++ ⟨65, 2, (mk pre).map pA, g, fz⟩ :: K) :
  A∧∃ (pre:List Pr) (J K:Hp) (g fz:Nat),ZD l=pre++ZD (l.drop k)∧v 4=I k∧v 3 = .ol J.length g (mk pre).length∧H=J++⟨65,2,(mk pre).map pA,g,fz⟩::K:=by
 obtain ⟨J,K,g,fz,a,b⟩:=h4
 exact ⟨h1,pre,J,K,g,fz,h2,h3,a,b⟩
set_option maxHeartbeats 8000000 in
theorem yy (G:Nat→AV) (l:List Pr) (hl:Okl l):PC Tryd.prog G 35 [.sl 2 (l.map pA)] (.sl 2 ((mk l).map pA)):=by
 have hlen:=hl.len
 refine ZP cop35 ?_
 show W _ _ _ _ ⟨_,_⟩;simp only [A35,List.cons_append,List.nil_append,List.length_cons,List.length_nil,Nat.reduceAdd,Nat.reduceSub,List.replicate]
 repeat (first|(with_reducible first|refine zJ ?_|refine zI ?_|refine zZ ?_|refine zk ?_|refine zh ?_)|((with_reducible first|refine ks fun K hK=>?_|refine kd fun K hK=>?_|refine kc fun K hK2 hK hK3=>?_);simp (disch:=omega) only [bg0,bg1,bg2,bg3,bg4,zr,zS,eff,AX.ev,St.put,zQ,zP,ap1,zg,Int.reduceTMod,Int.reduceTDiv,reduceCtorEq,zt,AV.cells,AV.fine,AV.one,Nat.reduceAdd,Nat.reduceSub,Nat.reduceMul,Nat.reduceLT,Nat.reduceLeDiff,Int.reduceLT,Int.reduceLE,Int.reduceAdd,Int.reduceSub,Int.reduceNeg,Int.reduceMul,Int.reduceEq,Int.reduceToNat,zW,zp,live,zo,rdA,ze,wrA,zH,zq,zV,zR,zT,zi,zb,zm,zj,zd,cut,id,ap2,reduceIte,zu,zY,geB,AOp.cls,AOp.xs,ltB,ltC,Nat.reduceBEq,Option.toList,List.cons_append,decide_eq_true,decide_eq_false,if_pos,if_neg,List.length_map,zO,bVb,bVn,eq_self,Bool.and_self,BEq.rfl,not_true_eq_false,gR0,ye,yd,sR0,yb,ya,lR0,lR1,gR1,gR2,yc,sR1,sR2,Z9,geB,ZE,ZB,Zh];(with_reducible first|(refine hK _ ?_;clear hK K)|(refine hK ?_;clear hK hK3 K hK2)|(refine hK3 ?_;clear hK hK3 K hK2))))
 refine ZN [3,4,5,7,8,9,10,11,12,13,14,15,16,17,18,19,20,21,22,23,24,25,26,27,28,29,30,31,32,33,34,35,36,37,38,39,40,41,42,43,44,45,46,47,48,49,50] (fun k v H=>∃ (pre:List Pr) (J K:Hp) (g fz:Nat),ZD l=pre++ZD (l.drop k)∧v 4=I k∧v 3 = .ol J.length g (mk pre).length∧H=J++⟨65,2,(mk pre).map pA,g,fz⟩::K) l.length ⟨[],[],[],0,0,rfl,rfl,rfl,rfl⟩ ?_ ?_
 ·rintro k v H hk ⟨pre, J, K, g, fz, hla, h4, h3, rfl⟩
  simp only [mix,z9,Za,Zc,Nat.reduceEqDiff,Nat.reduceLeDiff,reduceCtorEq,if_true,if_false,reduceIte,Nat.reduceAdd,h3,h4]
  rw [YQ hk] at hla
  have hsub:∀ p ∈ pre,p ∈ l:=fun p hp=>(ZX l).subset (by rw [hla];simp [hp])
  have hkx:=hl.k hk
  have hpl:(mk pre).length≤1000000:=by
   have:=Z5 pre
   have h2:=(ZX l).length_le
   rw [hla] at h2
   simp at h2
   omega
  by_cases hr:fk (l[k]).1 (l.drop (k+1))=[]
  ·rw [if_pos hr] at hla
   have h30:=last30 G l hl k hk true (by simp [hr])
   have hsn:=mk_snoc hla
   have hso:=(ZU pre).le
   have hks:∀ j (h:j < (mk pre).length),((mk pre)[j]).1.size≤9223372036854775807:=fun j h=>(hl.sz _ (hsub _ (w3 (List.getElem_mem h)))).1
   have hx2:l[k]=((l[k]).1,(l[k]).2):=rfl
   have hc:=Xb (B:=mk pre) (k:=(l[k]).1)
   have hidx:=fun j (h:j < (mk pre).length)=>w6 hso (l[k]).1 h
   have pO:=yv (mk pre)
   obtain ⟨c,hcc⟩:∃ c,c=(lo (mk pre) (l[k]).1).length:=⟨_,rfl⟩
   rw [← hcc] at hsn hc hidx
   have hmk:(mk (pre++[l[k]])).map pA=((mk pre).map pA).take c++[.agg [S (l[k]).1,S (l[k]).2]]++((mk pre).map pA).drop c:=by
    rw [← hsn];simp [pA]
   have hml:(mk (pre++[l[k]])).length=(mk pre).length+1:=by rw [← hsn];simp;omega
   have hla2:ZD l=(pre++[l[k]])++ZD (l.drop (k+1)):=by rw [hla];simp
   generalize hM:mk pre=m at *
   repeat (first|(with_reducible first|refine zJ ?_|refine zI ?_|refine zZ ?_|refine Ze ?_|refine zk ?_|refine zh ?_)|((with_reducible first|refine ks fun K hK=>?_|refine kd fun K hK=>?_|refine kc fun K hK2 hK hK3=>?_);simp (disch:=omega) only [bg0,bg1,bg2,bg3,bg4,zr,zS,eff,AX.ev,St.put,zQ,zP,ap1,zg,Int.reduceTMod,Int.reduceTDiv,reduceCtorEq,zt,AV.cells,AV.fine,AV.one,Nat.reduceAdd,Nat.reduceSub,Nat.reduceMul,Nat.reduceLT,Nat.reduceLeDiff,Int.reduceLT,Int.reduceLE,Int.reduceAdd,Int.reduceSub,Int.reduceNeg,Int.reduceMul,Int.reduceEq,Int.reduceToNat,zW,zp,live,zo,rdA,ze,wrA,zH,zq,zV,zR,zT,zi,zb,zm,zj,zd,cut,id,ap2,reduceIte,zu,zY,geB,AOp.cls,AOp.xs,ltB,ltC,Nat.reduceBEq,Option.toList,List.cons_append,decide_eq_true,decide_eq_false,if_pos,if_neg,List.length_map,zO,bVb,bVn,eq_self,Bool.and_self,BEq.rfl,not_true_eq_false,gR0,ye,yd,sR0,yb,ya,lR0,lR1,gR1,gR2,yc,sR1,sR2,Z9,geB,ZE,ZB,Zh];(with_reducible first|(refine hK _ ?_;clear hK K)|(refine hK ?_;clear hK hK3 K hK2)|(refine hK3 ?_;clear hK hK3 K hK2)))|((with_reducible refine kps 64 ?_ ?_ ?_ ?_);rotate_left 1;rfl;exact h30))
   refine ZN [5,17,18,19,20,21,22,23,24,25,26,27,28,29,30,31,32,33,34,35] (fun j v2 H=>v2 5=I j∧H=J++⟨65,2,m.map pA,g,fz⟩::K) c ⟨rfl,rfl⟩ ?_ ?_
   ·rintro j v2 H hj ⟨h5, rfl⟩
    have hjm:j < m.length:=by omega
    have hlt:=(hidx j hjm).2 hj
    have hjs:=hks j hjm
    simp only [mix,z9,Za,Zc,Nat.reduceEqDiff,Nat.reduceLeDiff,reduceCtorEq,if_true,if_false,reduceIte,Nat.reduceAdd,h5]
    repeat (first|(with_reducible first|refine zJ ?_|refine zI ?_|refine Zu ?_|refine zZ ?_|refine Ze ?_|refine zk ?_|refine Zm ?_|refine zh ?_|refine z6 ?_)|((with_reducible refine xb ?_ ?_);rfl)|((with_reducible first|refine ks fun K hK=>?_|refine kd fun K hK=>?_|refine kc fun K hK2 hK hK3=>?_);simp (disch:=omega) only [bg0,bg1,bg2,bg3,bg4,zr,zS,eff,AX.ev,St.put,zQ,zP,ap1,zg,Int.reduceTMod,Int.reduceTDiv,reduceCtorEq,zt,AV.cells,AV.fine,AV.one,Nat.reduceAdd,Nat.reduceSub,Nat.reduceMul,Nat.reduceLT,Nat.reduceLeDiff,Int.reduceLT,Int.reduceLE,Int.reduceAdd,Int.reduceSub,Int.reduceNeg,Int.reduceMul,Int.reduceEq,Int.reduceToNat,zW,zp,live,zo,rdA,ze,wrA,zH,zq,zV,zR,zT,zi,zb,zm,zj,zd,cut,id,ap2,reduceIte,zu,zY,geB,AOp.cls,AOp.xs,ltB,ltC,Nat.reduceBEq,Option.toList,List.cons_append,decide_eq_true,decide_eq_false,if_pos,if_neg,List.length_map,zO,bVb,bVn,eq_self,Bool.and_self,BEq.rfl,not_true_eq_false,gR0,ye,yd,sR0,yb,ya,lR0,lR1,gR1,gR2,yc,sR1,sR2,Z9,geB,ZE,ZB,Zh,hlt];(with_reducible first|(refine hK _ ?_;clear hK K)|(refine hK ?_;clear hK hK3 K hK2)|(refine hK3 ?_;clear hK hK3 K hK2)))|((first|((with_reducible refine kpd 46 ?_ ?_ ?_ ?_ ?_);rotate_left 1));(focus (simp (disch:=omega) only [bg0,bg1,bg2,bg3,bg4,zr,zS,eff,AX.ev,St.put,zQ,zP,ap1,zg,Int.reduceTMod,Int.reduceTDiv,reduceCtorEq,zt,AV.cells,AV.fine,AV.one,Nat.reduceAdd,Nat.reduceSub,Nat.reduceMul,Nat.reduceLT,Nat.reduceLeDiff,Int.reduceLT,Int.reduceLE,Int.reduceAdd,Int.reduceSub,Int.reduceNeg,Int.reduceMul,Int.reduceEq,Int.reduceToNat,zW,zp,live,zo,rdA,ze,wrA,zH,zq,zV,zR,zT,zi,zb,zm,zj,zd,cut,id,ap2,reduceIte,zu,zY,geB,AOp.cls,AOp.xs,ltB,ltC,Nat.reduceBEq,Option.toList,List.cons_append,decide_eq_true,decide_eq_false,if_pos,if_neg,List.length_map,zO,bVb,bVn,eq_self,Bool.and_self,BEq.rfl,not_true_eq_false,gR0,ye,yd,sR0,yb,ya,lR0,lR1,gR1,gR2,yc,sR1,sR2,Z9,geB,ZE,ZB,Zh,hlt];try rfl));(first|(rfl;exact (by refine Xc G _ _ ?_ ?_<;>assumption)))))
    exact ⟨rfl,rfl,rfl⟩
   ·rintro v2 H ⟨h5, rfl⟩
    have s3:(m.map pA).take m.length=m.map pA:=List.take_of_length_le (by simp)
    have lL:((m.map pA).take c).length=c:=by simp;omega
    have lD:((m.map pA).drop c).length=m.length - c:=by simp
    have lT:(((m.map pA).take c).take c)=(m.map pA).take c:=by rw [List.take_take,Nat.min_self]
    have lS:((m.map pA).take c++[AV.agg [S (l[k]).1,S (l[k]).2]]).length=c+1:=by simp;omega
    have lU:((m.map pA).take c++[AV.agg [S (l[k]).1,S (l[k]).2]]).take (c+1)=(m.map pA).take c++[AV.agg [S (l[k]).1,S (l[k]).2]]:=List.take_of_length_le (by rw [lS];omega)
    have hc0:((c:Int)=0)=(c=0):=by simp
    have hcI:(c:Int)≤(m.length:Int):=by omega
    by_cases hz:c=0
    ·subst hz
     simp only [List.take_zero,List.nil_append,List.drop_zero] at hmk
     by_cases hcm:m.length=0
     ·have m0 : m = [] := List.length_eq_zero_iff.1 hcm
      have hm0:m.map pA=[]:=by rw [List.length_eq_zero_iff.1 hcm];rfl
      rw [hm0,List.append_nil] at hmk
      ·simp only [mix, z9, Za, Zc, Nat.reduceEqDiff, Nat.reduceLeDiff, reduceCtorEq, if_true, if_false, reduceIte, Nat.reduceAdd, h5]
       repeat (first|(with_reducible first|refine zJ ?_|refine Zu ?_|refine Zp ?_|refine Zm ?_|refine zh ?_|refine Zg ?_|refine Zb ?_)|((with_reducible first|refine ks fun K hK=>?_|refine kd fun K hK=>?_|refine kc fun K hK2 hK hK3=>?_);simp (disch:=omega) only [bg0,bg1,bg2,bg3,bg4,zr,zS,eff,AX.ev,St.put,zQ,zP,ap1,zg,Int.reduceTMod,Int.reduceTDiv,reduceCtorEq,zt,AV.cells,AV.fine,AV.one,Nat.reduceAdd,Nat.reduceSub,Nat.reduceMul,Nat.reduceLT,Nat.reduceLeDiff,Int.reduceLT,Int.reduceLE,Int.reduceAdd,Int.reduceSub,Int.reduceNeg,Int.reduceMul,Int.reduceEq,Int.reduceToNat,zW,zp,live,zo,rdA,ze,wrA,zH,zq,zV,zR,zT,zi,zb,zm,zj,zd,cut,id,ap2,reduceIte,zu,zY,geB,AOp.cls,AOp.xs,ltB,ltC,Nat.reduceBEq,Option.toList,List.cons_append,decide_eq_true,decide_eq_false,if_pos,if_neg,List.length_map,zO,bVb,bVn,eq_self,Bool.and_self,BEq.rfl,not_true_eq_false,gR0,ye,yd,sR0,yb,ya,lR0,lR1,gR1,gR2,yc,sR1,sR2,Z9,geB,ZE,ZB,Zh,hcm,hc0,s3,pO];(with_reducible first|(refine hK _ ?_;clear hK K)|(refine hK ?_;clear hK hK3 K hK2)|(refine hK3 ?_;clear hK hK3 K hK2)))|((first|((with_reducible refine wF ?_ ?_ ?_);rotate_left 1;rfl)|((with_reducible refine wG ?_ ?_ ?_);rotate_left 1;rfl));rotate_left 1;(focus (simp (disch:=omega) only [bg0,bg1,bg2,bg3,bg4,zr,zS,eff,AX.ev,St.put,zQ,zP,ap1,zg,Int.reduceTMod,Int.reduceTDiv,reduceCtorEq,zt,AV.cells,AV.fine,AV.one,Nat.reduceAdd,Nat.reduceSub,Nat.reduceMul,Nat.reduceLT,Nat.reduceLeDiff,Int.reduceLT,Int.reduceLE,Int.reduceAdd,Int.reduceSub,Int.reduceNeg,Int.reduceMul,Int.reduceEq,Int.reduceToNat,zW,zp,live,zo,rdA,ze,wrA,zH,zq,zV,zR,zT,zi,zb,zm,zj,zd,cut,id,ap2,reduceIte,zu,zY,geB,AOp.cls,AOp.xs,ltB,ltC,Nat.reduceBEq,Option.toList,List.cons_append,decide_eq_true,decide_eq_false,if_pos,if_neg,List.length_map,zO,bVb,bVn,eq_self,Bool.and_self,BEq.rfl,not_true_eq_false,gR0,ye,yd,sR0,yb,ya,lR0,lR1,gR1,gR2,yc,sR1,sR2,Z9,geB,ZE,ZB,Zh,hcm,hc0,s3,pO];try rfl))))
       refine YX ?_ ?_ ?_
       all_goals
        repeat (first|(with_reducible first|refine zI ?_|refine zk ?_|refine Zm ?_|refine zh ?_|refine z6 ?_)|((with_reducible first|refine ks fun K hK=>?_|refine kd fun K hK=>?_|refine kc fun K hK2 hK hK3=>?_);simp (disch:=omega) only [bg0,bg1,bg2,bg3,bg4,zr,zS,eff,AX.ev,St.put,zQ,zP,ap1,zg,Int.reduceTMod,Int.reduceTDiv,reduceCtorEq,zt,AV.cells,AV.fine,AV.one,Nat.reduceAdd,Nat.reduceSub,Nat.reduceMul,Nat.reduceLT,Nat.reduceLeDiff,Int.reduceLT,Int.reduceLE,Int.reduceAdd,Int.reduceSub,Int.reduceNeg,Int.reduceMul,Int.reduceEq,Int.reduceToNat,zW,zp,live,zo,rdA,ze,wrA,zH,zq,zV,zR,zT,zi,zb,zm,zj,zd,cut,id,ap2,reduceIte,zu,zY,geB,AOp.cls,AOp.xs,ltB,ltC,Nat.reduceBEq,Option.toList,List.cons_append,decide_eq_true,decide_eq_false,if_pos,if_neg,List.length_map,zO,bVb,bVn,eq_self,Bool.and_self,BEq.rfl,not_true_eq_false,gR0,ye,yd,sR0,yb,ya,lR0,lR1,gR1,gR2,yc,sR1,sR2,Z9,geB,ZE,ZB,Zh,hcm,hc0,s3,pO];(with_reducible first|(refine hK _ ?_;clear hK K)|(refine hK ?_;clear hK hK3 K hK2)|(refine hK3 ?_;clear hK hK3 K hK2))))
        refine fin15 (l:=l) (pre:=pre++[l[k]]) rfl hla2 rfl ?_
        rw [hmk,hml]
        first|exact ⟨_,_,3,_,by simp [lR0,lR1,m0]<;>omega,List.append_assoc _ _ _⟩|exact ⟨_,_,3,_,by simp [lR0,lR1,m0]<;>omega,rfl⟩
     ·have hlt:¬ cB (m[0]'(by omega)).1 (l[k]).1 < 0:=fun h=>by have:=(hidx 0 (by omega)).1 h;omega
      have hjs:=hks 0 (by omega)
      ·simp only [mix, z9, Za, Zc, Nat.reduceEqDiff, Nat.reduceLeDiff, reduceCtorEq, if_true, if_false, reduceIte, Nat.reduceAdd, h5]
       repeat (first|(with_reducible first|refine zJ ?_|refine Zu ?_|refine Zp ?_|refine Zm ?_|refine zh ?_|refine Zg ?_|refine Zb ?_)|((with_reducible refine xb ?_ ?_);rfl)|((with_reducible first|refine ks fun K hK=>?_|refine kd fun K hK=>?_|refine kc fun K hK2 hK hK3=>?_);simp (disch:=omega) only [bg0,bg1,bg2,bg3,bg4,zr,zS,eff,AX.ev,St.put,zQ,zP,ap1,zg,Int.reduceTMod,Int.reduceTDiv,reduceCtorEq,zt,AV.cells,AV.fine,AV.one,Nat.reduceAdd,Nat.reduceSub,Nat.reduceMul,Nat.reduceLT,Nat.reduceLeDiff,Int.reduceLT,Int.reduceLE,Int.reduceAdd,Int.reduceSub,Int.reduceNeg,Int.reduceMul,Int.reduceEq,Int.reduceToNat,zW,zp,live,zo,rdA,ze,wrA,zH,zq,zV,zR,zT,zi,zb,zm,zj,zd,cut,id,ap2,reduceIte,zu,zY,geB,AOp.cls,AOp.xs,ltB,ltC,Nat.reduceBEq,Option.toList,List.cons_append,decide_eq_true,decide_eq_false,if_pos,if_neg,List.length_map,zO,bVb,bVn,eq_self,Bool.and_self,BEq.rfl,not_true_eq_false,gR0,ye,yd,sR0,yb,ya,lR0,lR1,gR1,gR2,yc,sR1,sR2,Z9,geB,ZE,ZB,Zh,hlt,hc0,s3,pO];(with_reducible first|(refine hK _ ?_;clear hK K)|(refine hK ?_;clear hK hK3 K hK2)|(refine hK3 ?_;clear hK hK3 K hK2)))|((first|((with_reducible refine kpd 46 ?_ ?_ ?_ ?_ ?_);rotate_left 1));(focus (simp (disch:=omega) only [bg0,bg1,bg2,bg3,bg4,zr,zS,eff,AX.ev,St.put,zQ,zP,ap1,zg,Int.reduceTMod,Int.reduceTDiv,reduceCtorEq,zt,AV.cells,AV.fine,AV.one,Nat.reduceAdd,Nat.reduceSub,Nat.reduceMul,Nat.reduceLT,Nat.reduceLeDiff,Int.reduceLT,Int.reduceLE,Int.reduceAdd,Int.reduceSub,Int.reduceNeg,Int.reduceMul,Int.reduceEq,Int.reduceToNat,zW,zp,live,zo,rdA,ze,wrA,zH,zq,zV,zR,zT,zi,zb,zm,zj,zd,cut,id,ap2,reduceIte,zu,zY,geB,AOp.cls,AOp.xs,ltB,ltC,Nat.reduceBEq,Option.toList,List.cons_append,decide_eq_true,decide_eq_false,if_pos,if_neg,List.length_map,zO,bVb,bVn,eq_self,Bool.and_self,BEq.rfl,not_true_eq_false,gR0,ye,yd,sR0,yb,ya,lR0,lR1,gR1,gR2,yc,sR1,sR2,Z9,geB,ZE,ZB,Zh,hlt,hc0,s3,pO];try rfl));(first|(rfl;exact (by refine Xc G _ _ ?_ ?_<;>assumption)))))
       refine YX ?_ ?_ ?_
       all_goals
        repeat (first|(with_reducible first|refine zI ?_|refine zk ?_|refine Zm ?_|refine zh ?_|refine z6 ?_)|((with_reducible first|refine ks fun K hK=>?_|refine kd fun K hK=>?_|refine kc fun K hK2 hK hK3=>?_);simp (disch:=omega) only [bg0,bg1,bg2,bg3,bg4,zr,zS,eff,AX.ev,St.put,zQ,zP,ap1,zg,Int.reduceTMod,Int.reduceTDiv,reduceCtorEq,zt,AV.cells,AV.fine,AV.one,Nat.reduceAdd,Nat.reduceSub,Nat.reduceMul,Nat.reduceLT,Nat.reduceLeDiff,Int.reduceLT,Int.reduceLE,Int.reduceAdd,Int.reduceSub,Int.reduceNeg,Int.reduceMul,Int.reduceEq,Int.reduceToNat,zW,zp,live,zo,rdA,ze,wrA,zH,zq,zV,zR,zT,zi,zb,zm,zj,zd,cut,id,ap2,reduceIte,zu,zY,geB,AOp.cls,AOp.xs,ltB,ltC,Nat.reduceBEq,Option.toList,List.cons_append,decide_eq_true,decide_eq_false,if_pos,if_neg,List.length_map,zO,bVb,bVn,eq_self,Bool.and_self,BEq.rfl,not_true_eq_false,gR0,ye,yd,sR0,yb,ya,lR0,lR1,gR1,gR2,yc,sR1,sR2,Z9,geB,ZE,ZB,Zh,hc0,s3,pO];(with_reducible first|(refine hK _ ?_;clear hK K)|(refine hK ?_;clear hK hK3 K hK2)|(refine hK3 ?_;clear hK hK3 K hK2))))
        refine fin15 (l:=l) (pre:=pre++[l[k]]) rfl hla2 rfl ?_
        rw [hmk,hml]
        first|exact ⟨_,_,3,_,by simp [lR0,lR1]<;>omega,List.append_assoc _ _ _⟩|exact ⟨_,_,3,_,by simp [lR0,lR1]<;>omega,rfl⟩
    ·by_cases hcm : c = m.length
     ·have hlt : ¬ ((c : Int) < (m.length : Int)) := by omega
      ·simp only [mix, z9, Za, Zc, Nat.reduceEqDiff, Nat.reduceLeDiff, reduceCtorEq, if_true, if_false, reduceIte, Nat.reduceAdd, h5]
       repeat (first|(with_reducible first|refine zJ ?_|refine Zu ?_|refine Zp ?_|refine Zm ?_|refine zh ?_|refine Zg ?_|refine Zb ?_)|((with_reducible first|refine ks fun K hK=>?_|refine kd fun K hK=>?_|refine kc fun K hK2 hK hK3=>?_);simp (disch:=omega) only [bg0,bg1,bg2,bg3,bg4,zr,zS,eff,AX.ev,St.put,zQ,zP,ap1,zg,Int.reduceTMod,Int.reduceTDiv,reduceCtorEq,zt,AV.cells,AV.fine,AV.one,Nat.reduceAdd,Nat.reduceSub,Nat.reduceMul,Nat.reduceLT,Nat.reduceLeDiff,Int.reduceLT,Int.reduceLE,Int.reduceAdd,Int.reduceSub,Int.reduceNeg,Int.reduceMul,Int.reduceEq,Int.reduceToNat,zW,zp,live,zo,rdA,ze,wrA,zH,zq,zV,zR,zT,zi,zb,zm,zj,zd,cut,id,ap2,reduceIte,zu,zY,geB,AOp.cls,AOp.xs,ltB,ltC,Nat.reduceBEq,Option.toList,List.cons_append,decide_eq_true,decide_eq_false,if_pos,if_neg,List.length_map,zO,bVb,bVn,eq_self,Bool.and_self,BEq.rfl,not_true_eq_false,gR0,ye,yd,sR0,yb,ya,lR0,lR1,gR1,gR2,yc,sR1,sR2,Z9,geB,ZE,ZB,Zh,hlt,hc0,hz,s3,lL,lD,lT,lS,lU,pO];(with_reducible first|(refine hK _ ?_;clear hK K)|(refine hK ?_;clear hK hK3 K hK2)|(refine hK3 ?_;clear hK hK3 K hK2)))|((first|((with_reducible refine wF ?_ ?_ ?_);rotate_left 1;rfl)|((with_reducible refine wG ?_ ?_ ?_);rotate_left 1;rfl));rotate_left 1;(focus (simp (disch:=omega) only [bg0,bg1,bg2,bg3,bg4,zr,zS,eff,AX.ev,St.put,zQ,zP,ap1,zg,Int.reduceTMod,Int.reduceTDiv,reduceCtorEq,zt,AV.cells,AV.fine,AV.one,Nat.reduceAdd,Nat.reduceSub,Nat.reduceMul,Nat.reduceLT,Nat.reduceLeDiff,Int.reduceLT,Int.reduceLE,Int.reduceAdd,Int.reduceSub,Int.reduceNeg,Int.reduceMul,Int.reduceEq,Int.reduceToNat,zW,zp,live,zo,rdA,ze,wrA,zH,zq,zV,zR,zT,zi,zb,zm,zj,zd,cut,id,ap2,reduceIte,zu,zY,geB,AOp.cls,AOp.xs,ltB,ltC,Nat.reduceBEq,Option.toList,List.cons_append,decide_eq_true,decide_eq_false,if_pos,if_neg,List.length_map,zO,bVb,bVn,eq_self,Bool.and_self,BEq.rfl,not_true_eq_false,gR0,ye,yd,sR0,yb,ya,lR0,lR1,gR1,gR2,yc,sR1,sR2,Z9,geB,ZE,ZB,Zh,hlt,hc0,hz,s3,lL,lD,lT,lS,lU,pO];try rfl))))
       refine YX ?_ ?_ ?_
       all_goals
        repeat (first|(with_reducible first|refine zI ?_|refine zk ?_|refine Zm ?_|refine zh ?_|refine z6 ?_)|((with_reducible first|refine ks fun K hK=>?_|refine kd fun K hK=>?_|refine kc fun K hK2 hK hK3=>?_);simp (disch:=omega) only [bg0,bg1,bg2,bg3,bg4,zr,zS,eff,AX.ev,St.put,zQ,zP,ap1,zg,Int.reduceTMod,Int.reduceTDiv,reduceCtorEq,zt,AV.cells,AV.fine,AV.one,Nat.reduceAdd,Nat.reduceSub,Nat.reduceMul,Nat.reduceLT,Nat.reduceLeDiff,Int.reduceLT,Int.reduceLE,Int.reduceAdd,Int.reduceSub,Int.reduceNeg,Int.reduceMul,Int.reduceEq,Int.reduceToNat,zW,zp,live,zo,rdA,ze,wrA,zH,zq,zV,zR,zT,zi,zb,zm,zj,zd,cut,id,ap2,reduceIte,zu,zY,geB,AOp.cls,AOp.xs,ltB,ltC,Nat.reduceBEq,Option.toList,List.cons_append,decide_eq_true,decide_eq_false,if_pos,if_neg,List.length_map,zO,bVb,bVn,eq_self,Bool.and_self,BEq.rfl,not_true_eq_false,gR0,ye,yd,sR0,yb,ya,lR0,lR1,gR1,gR2,yc,sR1,sR2,Z9,geB,ZE,ZB,Zh,hc0,hz,s3,lL,lD,lT,lS,lU,pO,ZV,Int.natCast_nonneg,hcI];(with_reducible first|(refine hK _ ?_;clear hK K)|(refine hK ?_;clear hK hK3 K hK2)|(refine hK3 ?_;clear hK hK3 K hK2))))
        refine fin15 (l:=l) (pre:=pre++[l[k]]) rfl hla2 rfl ?_
        rw [hmk,hml]
        first|exact ⟨_,_,3,_,by simp [lR0,lR1]<;>omega,List.append_assoc _ _ _⟩|exact ⟨_,_,3,_,by simp [lR0,lR1]<;>omega,rfl⟩
     ·have hlt:¬ cB (m[c]'(by omega)).1 (l[k]).1 < 0:=fun h=>by have:=(hidx c (by omega)).1 h;omega
      have hjs:=hks c (by omega)
      ·simp only [mix, z9, Za, Zc, Nat.reduceEqDiff, Nat.reduceLeDiff, reduceCtorEq, if_true, if_false, reduceIte, Nat.reduceAdd, h5]
       repeat (first|(with_reducible first|refine zJ ?_|refine Zu ?_|refine Zp ?_|refine Zm ?_|refine zh ?_|refine Zg ?_|refine Zb ?_)|((with_reducible refine xb ?_ ?_);rfl)|((with_reducible first|refine ks fun K hK=>?_|refine kd fun K hK=>?_|refine kc fun K hK2 hK hK3=>?_);simp (disch:=omega) only [bg0,bg1,bg2,bg3,bg4,zr,zS,eff,AX.ev,St.put,zQ,zP,ap1,zg,Int.reduceTMod,Int.reduceTDiv,reduceCtorEq,zt,AV.cells,AV.fine,AV.one,Nat.reduceAdd,Nat.reduceSub,Nat.reduceMul,Nat.reduceLT,Nat.reduceLeDiff,Int.reduceLT,Int.reduceLE,Int.reduceAdd,Int.reduceSub,Int.reduceNeg,Int.reduceMul,Int.reduceEq,Int.reduceToNat,zW,zp,live,zo,rdA,ze,wrA,zH,zq,zV,zR,zT,zi,zb,zm,zj,zd,cut,id,ap2,reduceIte,zu,zY,geB,AOp.cls,AOp.xs,ltB,ltC,Nat.reduceBEq,Option.toList,List.cons_append,decide_eq_true,decide_eq_false,if_pos,if_neg,List.length_map,zO,bVb,bVn,eq_self,Bool.and_self,BEq.rfl,not_true_eq_false,gR0,ye,yd,sR0,yb,ya,lR0,lR1,gR1,gR2,yc,sR1,sR2,Z9,geB,ZE,ZB,Zh,hlt,hc0,hz,s3,lL,lD,lT,lS,lU,pO];(with_reducible first|(refine hK _ ?_;clear hK K)|(refine hK ?_;clear hK hK3 K hK2)|(refine hK3 ?_;clear hK hK3 K hK2)))|((first|((with_reducible refine kpd 46 ?_ ?_ ?_ ?_ ?_);rotate_left 1));(focus (simp (disch:=omega) only [bg0,bg1,bg2,bg3,bg4,zr,zS,eff,AX.ev,St.put,zQ,zP,ap1,zg,Int.reduceTMod,Int.reduceTDiv,reduceCtorEq,zt,AV.cells,AV.fine,AV.one,Nat.reduceAdd,Nat.reduceSub,Nat.reduceMul,Nat.reduceLT,Nat.reduceLeDiff,Int.reduceLT,Int.reduceLE,Int.reduceAdd,Int.reduceSub,Int.reduceNeg,Int.reduceMul,Int.reduceEq,Int.reduceToNat,zW,zp,live,zo,rdA,ze,wrA,zH,zq,zV,zR,zT,zi,zb,zm,zj,zd,cut,id,ap2,reduceIte,zu,zY,geB,AOp.cls,AOp.xs,ltB,ltC,Nat.reduceBEq,Option.toList,List.cons_append,decide_eq_true,decide_eq_false,if_pos,if_neg,List.length_map,zO,bVb,bVn,eq_self,Bool.and_self,BEq.rfl,not_true_eq_false,gR0,ye,yd,sR0,yb,ya,lR0,lR1,gR1,gR2,yc,sR1,sR2,Z9,geB,ZE,ZB,Zh,hlt,hc0,hz,s3,lL,lD,lT,lS,lU,pO];try rfl));(first|(rfl;exact (by refine Xc G _ _ ?_ ?_<;>assumption)))))
       refine YX ?_ ?_ ?_
       all_goals
        repeat (first|(with_reducible first|refine zI ?_|refine zk ?_|refine Zm ?_|refine zh ?_|refine z6 ?_)|((with_reducible first|refine ks fun K hK=>?_|refine kd fun K hK=>?_|refine kc fun K hK2 hK hK3=>?_);simp (disch:=omega) only [bg0,bg1,bg2,bg3,bg4,zr,zS,eff,AX.ev,St.put,zQ,zP,ap1,zg,Int.reduceTMod,Int.reduceTDiv,reduceCtorEq,zt,AV.cells,AV.fine,AV.one,Nat.reduceAdd,Nat.reduceSub,Nat.reduceMul,Nat.reduceLT,Nat.reduceLeDiff,Int.reduceLT,Int.reduceLE,Int.reduceAdd,Int.reduceSub,Int.reduceNeg,Int.reduceMul,Int.reduceEq,Int.reduceToNat,zW,zp,live,zo,rdA,ze,wrA,zH,zq,zV,zR,zT,zi,zb,zm,zj,zd,cut,id,ap2,reduceIte,zu,zY,geB,AOp.cls,AOp.xs,ltB,ltC,Nat.reduceBEq,Option.toList,List.cons_append,decide_eq_true,decide_eq_false,if_pos,if_neg,List.length_map,zO,bVb,bVn,eq_self,Bool.and_self,BEq.rfl,not_true_eq_false,gR0,ye,yd,sR0,yb,ya,lR0,lR1,gR1,gR2,yc,sR1,sR2,Z9,geB,ZE,ZB,Zh,hc0,hz,s3,lL,lD,lT,lS,lU,pO,ZV,Int.natCast_nonneg,hcI];(with_reducible first|(refine hK _ ?_;clear hK K)|(refine hK ?_;clear hK hK3 K hK2)|(refine hK3 ?_;clear hK hK3 K hK2))))
        refine fin15 (l:=l) (pre:=pre++[l[k]]) rfl hla2 rfl ?_
        rw [hmk,hml]
        first|exact ⟨_,_,3,_,by simp [lR0,lR1]<;>omega,List.append_assoc _ _ _⟩|exact ⟨_,_,3,_,by simp [lR0,lR1]<;>omega,rfl⟩
  ·rw [if_neg hr] at hla
   have h30:=last30 G l hl k hk false (by simp [hr])
   repeat (first|(with_reducible first|refine zJ ?_|refine zI ?_|refine zZ ?_|refine Ze ?_|refine Zp ?_|refine zk ?_|refine zh ?_|refine Zg ?_|refine Zb ?_)|((with_reducible first|refine ks fun K hK=>?_|refine kd fun K hK=>?_|refine kc fun K hK2 hK hK3=>?_);simp (disch:=omega) only [bg0,bg1,bg2,bg3,bg4,zr,zS,eff,AX.ev,St.put,zQ,zP,ap1,zg,Int.reduceTMod,Int.reduceTDiv,reduceCtorEq,zt,AV.cells,AV.fine,AV.one,Nat.reduceAdd,Nat.reduceSub,Nat.reduceMul,Nat.reduceLT,Nat.reduceLeDiff,Int.reduceLT,Int.reduceLE,Int.reduceAdd,Int.reduceSub,Int.reduceNeg,Int.reduceMul,Int.reduceEq,Int.reduceToNat,zW,zp,live,zo,rdA,ze,wrA,zH,zq,zV,zR,zT,zi,zb,zm,zj,zd,cut,id,ap2,reduceIte,zu,zY,geB,AOp.cls,AOp.xs,ltB,ltC,Nat.reduceBEq,Option.toList,List.cons_append,decide_eq_true,decide_eq_false,if_pos,if_neg,List.length_map,zO,bVb,bVn,eq_self,Bool.and_self,BEq.rfl,not_true_eq_false,gR0,ye,yd,sR0,yb,ya,lR0,lR1,gR1,gR2,yc,sR1,sR2,Z9,geB,ZE,ZB,Zh];(with_reducible first|(refine hK _ ?_;clear hK K)|(refine hK ?_;clear hK hK3 K hK2)|(refine hK3 ?_;clear hK hK3 K hK2)))|((with_reducible refine kps 64 ?_ ?_ ?_ ?_);rotate_left 1;rfl;exact h30))
   exact ⟨rfl,pre,J,K,g,fz,hla,rfl,rfl,rfl⟩
 ·rintro v H ⟨pre, J, K, g, fz, hla, h4, h3, rfl⟩
  simp only [mix,z9,Za,Zc,Nat.reduceEqDiff,Nat.reduceLeDiff,reduceCtorEq,if_true,if_false,reduceIte,Nat.reduceAdd,h3,h4]
  rw [List.drop_length] at hla
  have:mk pre=mk l:=by
   refine eq_mk (ZU pre) fun k=>?_
   rw [y7,← Ya l,hla];simp [ZD]
  rw [this]
  repeat (first|(with_reducible first|refine zJ ?_|refine zI ?_|refine Zp ?_|refine zk ?_|refine zh ?_|refine Zg ?_|refine Zb ?_|refine Zl ?_)|((with_reducible first|refine ks fun K hK=>?_|refine kd fun K hK=>?_|refine kc fun K hK2 hK hK3=>?_);simp (disch:=omega) only [bg0,bg1,bg2,bg3,bg4,zr,zS,eff,AX.ev,St.put,zQ,zP,ap1,zg,Int.reduceTMod,Int.reduceTDiv,reduceCtorEq,zt,AV.cells,AV.fine,AV.one,Nat.reduceAdd,Nat.reduceSub,Nat.reduceMul,Nat.reduceLT,Nat.reduceLeDiff,Int.reduceLT,Int.reduceLE,Int.reduceAdd,Int.reduceSub,Int.reduceNeg,Int.reduceMul,Int.reduceEq,Int.reduceToNat,zW,zp,live,zo,rdA,ze,wrA,zH,zq,zV,zR,zT,zi,zb,zm,zj,zd,cut,id,ap2,reduceIte,zu,zY,geB,AOp.cls,AOp.xs,ltB,ltC,Nat.reduceBEq,Option.toList,List.cons_append,decide_eq_true,decide_eq_false,if_pos,if_neg,List.length_map,zO,bVb,bVn,eq_self,Bool.and_self,BEq.rfl,not_true_eq_false,gR0,ye,yd,sR0,yb,ya,lR0,lR1,gR1,gR2,yc,sR1,sR2,Z9,geB,ZE,ZB,Zh];(with_reducible first|(refine hK _ ?_;clear hK K)|(refine hK ?_;clear hK hK3 K hK2)|(refine hK3 ?_;clear hK hK3 K hK2))))
  exact YK rfl gR0 (by simp) (yv _)
end Go.Proofs.YtgpldekhcojimaaDoor.Sim.Pr7
namespace Go.Proofs.YtgpldekhcojimaaDoor.Sim.Pr7
open Go.RowKit
set_option maxRecDepth 100000
theorem sle_at2 {A:List Pr} (h:SLe A) {i j:Nat} (hij:i≤j) (hj:j < A.length):cB (A[i]'(by omega)).1 (A[j]).1≤0:=by
 by_cases e:i=j
 ·subst e;rw [Z0];omega
 ·exact List.pairwise_iff_getElem.1 h i j (by omega) hj (by omega)
theorem lasts_sort {D:List Pr} (h:SLe D) {k:Nat} (hk:k < D.length):fk (D[k]).1 (D.drop (k+1))=[]↔∀ h2:k+1 < D.length,(D[k+1]).1 ≠ (D[k]).1:=by
 rw [fk_none]
 constructor
 ·intro hh h2
  exact hh _ (List.mem_drop_iff_getElem.2 ⟨0,by omega,rfl⟩)
 ·intro hh p hp e
  obtain ⟨i,hi,rfl⟩:=List.mem_drop_iff_getElem.1 hp
  have h2:k+1 < D.length:=by omega
  have g1:=sle_at2 h (i:=k) (j:=k+1) (by omega) h2
  have g2:=sle_at2 h (i:=k+1) (j:=k+1+i) (by omega) (by omega)
  rw [e] at g2
  exact hh h2 (cB_eq g2 g1)
theorem lasts_mk (l:List Pr):ZD (z7 l)=mk l:=by
 refine eq_mk (le_ne (List.Pairwise.sublist (ZX _) (Zw l)) (YE _)) fun k=>?_
 rw [Ya];unfold val;rw [ZI]
set_option maxHeartbeats 8000000 in
theorem make14 (G:Nat→AV) (hS:SymOk G):Ws G:=by
 intro l h40 hl
 have hlen:=hl.len
 by_cases hs:SLt l
 ·have hi := is11 G l hl true (by simp [hs])
  rw [xB hs]
  by_cases h0:l=[]
  ·subst h0
   have hc:=Zz rfl (clone27e G) []
   refine ZP wL ?_
   show W _ _ _ _ ⟨_,_⟩;simp only [A48,List.cons_append,List.nil_append,List.length_cons,List.length_nil,Nat.reduceAdd,Nat.reduceSub,List.replicate]
   simp only [List.map_nil] at *
   repeat (first|(with_reducible first|refine zJ ?_|refine zI ?_|refine zk ?_|refine zh ?_|refine Zl ?_|refine ZC ?_)|((with_reducible refine kps 78 ?_ ?_ ?_ ?_);rotate_left 1;rfl;exact hi)|((with_reducible refine khs 65 ?_ ?_ ?_ ?_);rotate_left 2;exact hc)|((with_reducible first|refine ks fun K hK=>?_|refine kd fun K hK=>?_|refine kc fun K hK2 hK hK3=>?_|refine Zr fun K hR=>?_|refine Zj rfl fun K hR=>?_|refine Zi fun K hR=>?_);simp (disch:=omega) only [bg0,bg1,bg2,bg3,bg4,zr,zS,eff,AX.ev,St.put,zQ,zP,ap1,zg,Int.reduceTMod,Int.reduceTDiv,reduceCtorEq,zt,AV.cells,AV.fine,AV.one,Nat.reduceAdd,Nat.reduceSub,Nat.reduceMul,Nat.reduceLT,Nat.reduceLeDiff,Int.reduceLT,Int.reduceLE,Int.reduceAdd,Int.reduceSub,Int.reduceNeg,Int.reduceMul,Int.reduceEq,Int.reduceToNat,zW,zp,live,zo,rdA,ze,wrA,zH,zq,zV,zR,zT,zi,zb,zm,zj,zd,cut,id,ap2,reduceIte,zu,zY,geB,AOp.cls,AOp.xs,ltB,ltC,Nat.reduceBEq,Option.toList,List.cons_append,decide_eq_true,decide_eq_false,if_pos,if_neg,List.length_map,zO,bVb,bVn,eq_self,Bool.and_self,BEq.rfl,not_true_eq_false,gR0,ye,yd,sR0,yb,ya,lR0,lR1,gR1,gR2,yc,sR1,sR2,Z9,ZE,ZB,yS,yR,yH,yG,Zh];(first|(with_reducible first|(refine hK _ ?_;clear hK K)|(refine hK ?_;clear hK hK3 K hK2)|(refine hK3 ?_;clear hK hK3 K hK2))|((with_reducible refine hR _ ?_ ?_ ?_ ?_);rotate_left 2;rfl;rfl)|((with_reducible refine hR _ ?_);rfl))))
  ·have hc := wm G l hl h0 []
   simp only [List.nil_append,List.length_nil] at hc
   refine ZP wL ?_
   show W _ _ _ _ ⟨_,_⟩;simp only [A48,List.cons_append,List.nil_append,List.length_cons,List.length_nil,Nat.reduceAdd,Nat.reduceSub,List.replicate]
   repeat (first|(with_reducible first|refine zJ ?_|refine zI ?_|refine zk ?_|refine zh ?_|refine Zl ?_|refine ZC ?_)|((with_reducible first|refine ks fun K hK=>?_|refine kd fun K hK=>?_|refine kc fun K hK2 hK hK3=>?_);simp (disch:=omega) only [bg0,bg1,bg2,bg3,bg4,zr,zS,eff,AX.ev,St.put,zQ,zP,ap1,zg,Int.reduceTMod,Int.reduceTDiv,reduceCtorEq,zt,AV.cells,AV.fine,AV.one,Nat.reduceAdd,Nat.reduceSub,Nat.reduceMul,Nat.reduceLT,Nat.reduceLeDiff,Int.reduceLT,Int.reduceLE,Int.reduceAdd,Int.reduceSub,Int.reduceNeg,Int.reduceMul,Int.reduceEq,Int.reduceToNat,zW,zp,live,zo,rdA,ze,wrA,zH,zq,zV,zR,zT,zi,zb,zm,zj,zd,cut,id,ap2,reduceIte,zu,zY,geB,AOp.cls,AOp.xs,ltB,ltC,Nat.reduceBEq,Option.toList,List.cons_append,decide_eq_true,decide_eq_false,if_pos,if_neg,List.length_map,zO,bVb,bVn,eq_self,Bool.and_self,BEq.rfl,not_true_eq_false,gR0,ye,yd,sR0,yb,ya,lR0,lR1,gR1,gR2,yc,sR1,sR2,Z9,ZE,ZB,yS,yR,yH,yG,Zh];(with_reducible first|(refine hK _ ?_;clear hK K)|(refine hK ?_;clear hK hK3 K hK2)|(refine hK3 ?_;clear hK hK3 K hK2)))|((with_reducible refine kps 78 ?_ ?_ ?_ ?_);rotate_left 1;rfl;exact hi)|((with_reducible refine khs 65 ?_ ?_ ?_ ?_);rotate_left 2;exact hc))
   exact YK rfl rfl (by simp) (yv _)
 ·have hi := is11 G l hl false (by simp [hs])
  have h0:l ≠ []:=fun e=>hs (by rw [e];exact List.Pairwise.nil)
  have hc:=wm G l hl h0 []
  simp only [List.nil_append,List.length_nil] at hc
  have ho:=sort28 G hS l 1 hl h40
  refine ZP wL ?_
  show W _ _ _ _ ⟨_,_⟩;simp only [A48,List.cons_append,List.nil_append,List.length_cons,List.length_nil,Nat.reduceAdd,Nat.reduceSub,List.replicate]
  repeat (first|(with_reducible first|refine zJ ?_|refine zI ?_|refine zZ ?_|refine Ze ?_|refine zk ?_|refine zh ?_)|((with_reducible first|refine ks fun K hK=>?_|refine kd fun K hK=>?_|refine kc fun K hK2 hK hK3=>?_);simp (disch:=omega) only [bg0,bg1,bg2,bg3,bg4,zr,zS,eff,AX.ev,St.put,zQ,zP,ap1,zg,Int.reduceTMod,Int.reduceTDiv,reduceCtorEq,zt,AV.cells,AV.fine,AV.one,Nat.reduceAdd,Nat.reduceSub,Nat.reduceMul,Nat.reduceLT,Nat.reduceLeDiff,Int.reduceLT,Int.reduceLE,Int.reduceAdd,Int.reduceSub,Int.reduceNeg,Int.reduceMul,Int.reduceEq,Int.reduceToNat,zW,zp,live,zo,rdA,ze,wrA,zH,zq,zV,zR,zT,zi,zb,zm,zj,zd,cut,id,ap2,reduceIte,zu,zY,geB,AOp.cls,AOp.xs,ltB,ltC,Nat.reduceBEq,Option.toList,List.cons_append,decide_eq_true,decide_eq_false,if_pos,if_neg,List.length_map,zO,bVb,bVn,eq_self,Bool.and_self,BEq.rfl,not_true_eq_false,gR0,ye,yd,sR0,yb,ya,lR0,lR1,gR1,gR2,yc,sR1,sR2,Z9,ZE,ZB,yS,yR,yH,yG,Zh];(with_reducible first|(refine hK _ ?_;clear hK K)|(refine hK ?_;clear hK hK3 K hK2)|(refine hK3 ?_;clear hK hK3 K hK2)))|((with_reducible refine kps 78 ?_ ?_ ?_ ?_);rotate_left 1;rfl;exact hi)|((with_reducible refine khs 65 ?_ ?_ ?_ ?_);rotate_left 2;exact hc)|((with_reducible refine khs 79 ?_ ?_ ?_ ?_);rotate_left 2;exact ho))
  have hml:=lasts_mk l
  have hSl:(z7 l).length=l.length:=ZM
  have hSle:=Zw l
  rw [← hml]
  generalize hD:z7 l=D at *
  rw [← hSl]
  refine ZN [4,5,6,17,18,19,20,21,22,23,24,25,26,27,28,29,30,31,32,33,34,35,36,37,38,39,40,41,42] (fun k v H=>v 17=I k∧∃ pre:List Pr,ZD D=pre++ZD (D.drop k)∧((pre=[]∧v 4 = .nl 2∧∃ K,H=rw0 D 1::K)∨(pre ≠ []∧∃ (J K:Hp) (g:Nat),v 4 = .ol (J.length+1) g pre.length∧H=rw0 D 1::(J++⟨65,2,pre.map pA,g,0⟩::K)))) D.length ⟨rfl,[],rfl,.inl ⟨rfl,rfl,[],rfl⟩⟩ ?_ ?_
  ·rintro k v H hk ⟨h17, pre, hla, hor⟩
   rw [YQ hk] at hla
   have hkk:=lasts_sort hSle hk
   have hpl:pre.length≤1000000:=by
    have h2:=(ZX D).length_le
    rw [hla] at h2
    simp at h2
    omega
   have tp:(pre.map pA).take pre.length=pre.map pA:=List.take_of_length_le (by simp)
   have hend:((k:Int)+1=(D.length:Int))=(k+1=D.length):=by simp;omega
   have hsn:(pre++[D[k]]).map pA=pre.map pA++[.agg [S (D[k]).1,S (D[k]).2]]:=by simp [pA]
   have hne:pre++[D[k]] ≠ []:=by simp
   have hDl:D.length≤1000000:=by omega
   clear hi hc ho hD hml hSl hSle hl hlen h40 h0 hs
   rcases hor with ⟨rfl,h4,K,rfl⟩|⟨hp,J,K,g,h4,rfl⟩
   ·by_cases hr : fk (D[k]).1 (D.drop (k + 1)) = []
    ·rw [if_pos hr] at hla
     have h2:=hkk.1 hr
     by_cases he:k+1=D.length
     ·simp only [mix, z9, Za, Zc, Nat.reduceEqDiff, Nat.reduceLeDiff, reduceCtorEq, if_true, if_false, reduceIte, Nat.reduceAdd, h17, h4]
      repeat (first|(with_reducible first|refine zJ ?_|refine zI ?_|refine Zu ?_|refine zZ ?_|refine Ze ?_|refine zk ?_|refine Zm ?_|refine zh ?_|refine z6 ?_)|((with_reducible first|refine ks fun K hK=>?_|refine kd fun K hK=>?_|refine kc fun K hK2 hK hK3=>?_);simp (disch:=omega) only [bg0,bg1,bg2,bg3,bg4,zr,zS,eff,AX.ev,St.put,zQ,zP,ap1,zg,Int.reduceTMod,Int.reduceTDiv,reduceCtorEq,zt,AV.cells,AV.fine,AV.one,Nat.reduceAdd,Nat.reduceSub,Nat.reduceMul,Nat.reduceLT,Nat.reduceLeDiff,Int.reduceLT,Int.reduceLE,Int.reduceAdd,Int.reduceSub,Int.reduceNeg,Int.reduceMul,Int.reduceEq,Int.reduceToNat,zW,zp,live,zo,rdA,ze,wrA,zH,zq,zV,zR,zT,zi,zb,zm,zj,zd,cut,id,ap2,reduceIte,zu,zY,geB,AOp.cls,AOp.xs,ltB,ltC,Nat.reduceBEq,Option.toList,List.cons_append,decide_eq_true,decide_eq_false,if_pos,if_neg,List.length_map,zO,bVb,bVn,eq_self,Bool.and_self,BEq.rfl,not_true_eq_false,gR0,ye,yd,sR0,yb,ya,lR0,lR1,gR1,gR2,yc,sR1,sR2,Z9,ZE,ZB,yS,yR,yH,yG,Zh,hend,he,tp];(with_reducible first|(refine hK _ ?_;clear hK K)|(refine hK ?_;clear hK hK3 K hK2)|(refine hK3 ?_;clear hK hK3 K hK2)))|((first|((with_reducible refine wF ?_ ?_ ?_);rotate_left 1;rfl)|((with_reducible refine wG ?_ ?_ ?_);rotate_left 1;rfl));rotate_left 1;(focus (simp (disch:=omega) only [bg0,bg1,bg2,bg3,bg4,zr,zS,eff,AX.ev,St.put,zQ,zP,ap1,zg,Int.reduceTMod,Int.reduceTDiv,reduceCtorEq,zt,AV.cells,AV.fine,AV.one,Nat.reduceAdd,Nat.reduceSub,Nat.reduceMul,Nat.reduceLT,Nat.reduceLeDiff,Int.reduceLT,Int.reduceLE,Int.reduceAdd,Int.reduceSub,Int.reduceNeg,Int.reduceMul,Int.reduceEq,Int.reduceToNat,zW,zp,live,zo,rdA,ze,wrA,zH,zq,zV,zR,zT,zi,zb,zm,zj,zd,cut,id,ap2,reduceIte,zu,zY,geB,AOp.cls,AOp.xs,ltB,ltC,Nat.reduceBEq,Option.toList,List.cons_append,decide_eq_true,decide_eq_false,if_pos,if_neg,List.length_map,zO,bVb,bVn,eq_self,Bool.and_self,BEq.rfl,not_true_eq_false,gR0,ye,yd,sR0,yb,ya,lR0,lR1,gR1,gR2,yc,sR1,sR2,Z9,ZE,ZB,yS,yR,yH,yG,Zh,hend,he,tp];try rfl))))
      exact ⟨rfl,rfl,[D[k]],by rw [hla];rfl,.inr ⟨by simp,K++[rw0 [D[k]] 0]++[rw0 [D[k]] 0],[],0,by show AV.ol _ _ _=AV.ol _ _ _;simp,rfl⟩⟩
     ·have h3 := h2 (by omega)
      simp only [mix,z9,Za,Zc,Nat.reduceEqDiff,Nat.reduceLeDiff,reduceCtorEq,if_true,if_false,reduceIte,Nat.reduceAdd,h17,h4]
      repeat (first|(with_reducible first|refine zJ ?_|refine zI ?_|refine Zu ?_|refine zZ ?_|refine Ze ?_|refine zk ?_|refine Zm ?_|refine zh ?_|refine z6 ?_)|((with_reducible refine xb ?_ ?_);rfl)|((with_reducible first|refine ks fun K hK=>?_|refine kd fun K hK=>?_|refine kc fun K hK2 hK hK3=>?_);simp (disch:=omega) only [bg0,bg1,bg2,bg3,bg4,zr,zS,eff,AX.ev,St.put,zQ,zP,ap1,zg,Int.reduceTMod,Int.reduceTDiv,reduceCtorEq,zt,AV.cells,AV.fine,AV.one,Nat.reduceAdd,Nat.reduceSub,Nat.reduceMul,Nat.reduceLT,Nat.reduceLeDiff,Int.reduceLT,Int.reduceLE,Int.reduceAdd,Int.reduceSub,Int.reduceNeg,Int.reduceMul,Int.reduceEq,Int.reduceToNat,zW,zp,live,zo,rdA,ze,wrA,zH,zq,zV,zR,zT,zi,zb,zm,zj,zd,cut,id,ap2,reduceIte,zu,zY,geB,AOp.cls,AOp.xs,ltB,ltC,Nat.reduceBEq,Option.toList,List.cons_append,decide_eq_true,decide_eq_false,if_pos,if_neg,List.length_map,zO,bVb,bVn,eq_self,Bool.and_self,BEq.rfl,not_true_eq_false,gR0,ye,yd,sR0,yb,ya,lR0,lR1,gR1,gR2,yc,sR1,sR2,Z9,ZE,ZB,yS,yR,yH,yG,Zh,hend,he,h3,tp];(with_reducible first|(refine hK _ ?_;clear hK K)|(refine hK ?_;clear hK hK3 K hK2)|(refine hK3 ?_;clear hK hK3 K hK2))))
      exact ⟨rfl,rfl,[D[k]],by rw [hla];rfl,.inr ⟨by simp,K++[rw0 [D[k]] 0]++[rw0 [D[k]] 0],[],0,by show AV.ol _ _ _=AV.ol _ _ _;simp,rfl⟩⟩
    ·rw [if_neg hr] at hla
     have hex:∃ h2:k+1 < D.length,(D[k+1]).1=(D[k]).1:=by
      by_cases h2:k+1 < D.length
      ·refine ⟨h2, ?_⟩
       by_cases h3:(D[k+1]).1=(D[k]).1
       ·exact h3
       ·exact absurd (hkk.2 fun _=>h3) hr
      ·exact absurd (hkk.2 fun h=>absurd h h2) hr
     obtain ⟨h2,h3⟩:=hex
     have he:¬ (k+1=D.length):=by omega
     simp only [mix,z9,Za,Zc,Nat.reduceEqDiff,Nat.reduceLeDiff,reduceCtorEq,if_true,if_false,reduceIte,Nat.reduceAdd,h17,h4]
     repeat (first|(with_reducible first|refine zJ ?_|refine zI ?_|refine Zu ?_|refine zZ ?_|refine Ze ?_|refine zk ?_|refine Zm ?_|refine zh ?_|refine z6 ?_)|((with_reducible refine xb ?_ ?_);rfl)|((with_reducible first|refine ks fun K hK=>?_|refine kd fun K hK=>?_|refine kc fun K hK2 hK hK3=>?_);simp (disch:=omega) only [bg0,bg1,bg2,bg3,bg4,zr,zS,eff,AX.ev,St.put,zQ,zP,ap1,zg,Int.reduceTMod,Int.reduceTDiv,reduceCtorEq,zt,AV.cells,AV.fine,AV.one,Nat.reduceAdd,Nat.reduceSub,Nat.reduceMul,Nat.reduceLT,Nat.reduceLeDiff,Int.reduceLT,Int.reduceLE,Int.reduceAdd,Int.reduceSub,Int.reduceNeg,Int.reduceMul,Int.reduceEq,Int.reduceToNat,zW,zp,live,zo,rdA,ze,wrA,zH,zq,zV,zR,zT,zi,zb,zm,zj,zd,cut,id,ap2,reduceIte,zu,zY,geB,AOp.cls,AOp.xs,ltB,ltC,Nat.reduceBEq,Option.toList,List.cons_append,decide_eq_true,decide_eq_false,if_pos,if_neg,List.length_map,zO,bVb,bVn,eq_self,Bool.and_self,BEq.rfl,not_true_eq_false,gR0,ye,yd,sR0,yb,ya,lR0,lR1,gR1,gR2,yc,sR1,sR2,Z9,ZE,ZB,yS,yR,yH,yG,Zh,hend,he,h3,tp];(with_reducible first|(refine hK _ ?_;clear hK K)|(refine hK ?_;clear hK hK3 K hK2)|(refine hK3 ?_;clear hK hK3 K hK2))))
     exact ⟨rfl,rfl,[],hla,.inl ⟨rfl,rfl,_,rfl⟩⟩
   ·by_cases hr : fk (D[k]).1 (D.drop (k + 1)) = []
    ·rw [if_pos hr] at hla
     have h2:=hkk.1 hr
     by_cases he:k+1=D.length
     ·simp only [mix, z9, Za, Zc, Nat.reduceEqDiff, Nat.reduceLeDiff, reduceCtorEq, if_true, if_false, reduceIte, Nat.reduceAdd, h17, h4]
      repeat (first|(with_reducible first|refine zJ ?_|refine zI ?_|refine Zu ?_|refine zZ ?_|refine Ze ?_|refine zk ?_|refine Zm ?_|refine zh ?_|refine z6 ?_)|((with_reducible first|refine ks fun K hK=>?_|refine kd fun K hK=>?_|refine kc fun K hK2 hK hK3=>?_);simp (disch:=omega) only [bg0,bg1,bg2,bg3,bg4,zr,zS,eff,AX.ev,St.put,zQ,zP,ap1,zg,Int.reduceTMod,Int.reduceTDiv,reduceCtorEq,zt,AV.cells,AV.fine,AV.one,Nat.reduceAdd,Nat.reduceSub,Nat.reduceMul,Nat.reduceLT,Nat.reduceLeDiff,Int.reduceLT,Int.reduceLE,Int.reduceAdd,Int.reduceSub,Int.reduceNeg,Int.reduceMul,Int.reduceEq,Int.reduceToNat,zW,zp,live,zo,rdA,ze,wrA,zH,zq,zV,zR,zT,zi,zb,zm,zj,zd,cut,id,ap2,reduceIte,zu,zY,geB,AOp.cls,AOp.xs,ltB,ltC,Nat.reduceBEq,Option.toList,List.cons_append,decide_eq_true,decide_eq_false,if_pos,if_neg,List.length_map,zO,bVb,bVn,eq_self,Bool.and_self,BEq.rfl,not_true_eq_false,gR0,ye,yd,sR0,yb,ya,lR0,lR1,gR1,gR2,yc,sR1,sR2,Z9,ZE,ZB,yS,yR,yH,yG,Zh,hend,he,tp];(with_reducible first|(refine hK _ ?_;clear hK K)|(refine hK ?_;clear hK hK3 K hK2)|(refine hK3 ?_;clear hK hK3 K hK2)))|((first|((with_reducible refine wF ?_ ?_ ?_);rotate_left 1;rfl)|((with_reducible refine wG ?_ ?_ ?_);rotate_left 1;rfl));rotate_left 1;(focus (simp (disch:=omega) only [bg0,bg1,bg2,bg3,bg4,zr,zS,eff,AX.ev,St.put,zQ,zP,ap1,zg,Int.reduceTMod,Int.reduceTDiv,reduceCtorEq,zt,AV.cells,AV.fine,AV.one,Nat.reduceAdd,Nat.reduceSub,Nat.reduceMul,Nat.reduceLT,Nat.reduceLeDiff,Int.reduceLT,Int.reduceLE,Int.reduceAdd,Int.reduceSub,Int.reduceNeg,Int.reduceMul,Int.reduceEq,Int.reduceToNat,zW,zp,live,zo,rdA,ze,wrA,zH,zq,zV,zR,zT,zi,zb,zm,zj,zd,cut,id,ap2,reduceIte,zu,zY,geB,AOp.cls,AOp.xs,ltB,ltC,Nat.reduceBEq,Option.toList,List.cons_append,decide_eq_true,decide_eq_false,if_pos,if_neg,List.length_map,zO,bVb,bVn,eq_self,Bool.and_self,BEq.rfl,not_true_eq_false,gR0,ye,yd,sR0,yb,ya,lR0,lR1,gR1,gR2,yc,sR1,sR2,Z9,ZE,ZB,yS,yR,yH,yG,Zh,hend,he,tp];try rfl))))
      exact ⟨rfl,rfl,pre++[D[k]],by rw [hla];simp,.inr ⟨by simp,J,K++[rw0 [D[k]] 0]++[rw0 [D[k]] 0],g+1,by show AV.ol _ _ _=AV.ol _ _ _;simp,by rw [hsn];simp [pA]⟩⟩
     ·have h3 := h2 (by omega)
      simp only [mix,z9,Za,Zc,Nat.reduceEqDiff,Nat.reduceLeDiff,reduceCtorEq,if_true,if_false,reduceIte,Nat.reduceAdd,h17,h4]
      repeat (first|(with_reducible first|refine zJ ?_|refine zI ?_|refine Zu ?_|refine zZ ?_|refine Ze ?_|refine zk ?_|refine Zm ?_|refine zh ?_|refine z6 ?_)|((with_reducible refine xb ?_ ?_);rfl)|((with_reducible first|refine ks fun K hK=>?_|refine kd fun K hK=>?_|refine kc fun K hK2 hK hK3=>?_);simp (disch:=omega) only [bg0,bg1,bg2,bg3,bg4,zr,zS,eff,AX.ev,St.put,zQ,zP,ap1,zg,Int.reduceTMod,Int.reduceTDiv,reduceCtorEq,zt,AV.cells,AV.fine,AV.one,Nat.reduceAdd,Nat.reduceSub,Nat.reduceMul,Nat.reduceLT,Nat.reduceLeDiff,Int.reduceLT,Int.reduceLE,Int.reduceAdd,Int.reduceSub,Int.reduceNeg,Int.reduceMul,Int.reduceEq,Int.reduceToNat,zW,zp,live,zo,rdA,ze,wrA,zH,zq,zV,zR,zT,zi,zb,zm,zj,zd,cut,id,ap2,reduceIte,zu,zY,geB,AOp.cls,AOp.xs,ltB,ltC,Nat.reduceBEq,Option.toList,List.cons_append,decide_eq_true,decide_eq_false,if_pos,if_neg,List.length_map,zO,bVb,bVn,eq_self,Bool.and_self,BEq.rfl,not_true_eq_false,gR0,ye,yd,sR0,yb,ya,lR0,lR1,gR1,gR2,yc,sR1,sR2,Z9,ZE,ZB,yS,yR,yH,yG,Zh,hend,he,h3,tp];(with_reducible first|(refine hK _ ?_;clear hK K)|(refine hK ?_;clear hK hK3 K hK2)|(refine hK3 ?_;clear hK hK3 K hK2))))
      exact ⟨rfl,rfl,pre++[D[k]],by rw [hla];simp,.inr ⟨by simp,J,K++[rw0 [D[k]] 0]++[rw0 [D[k]] 0],g+1,by show AV.ol _ _ _=AV.ol _ _ _;simp,by rw [hsn];simp [pA]⟩⟩
    ·rw [if_neg hr] at hla
     have hex:∃ h2:k+1 < D.length,(D[k+1]).1=(D[k]).1:=by
      by_cases h2:k+1 < D.length
      ·refine ⟨h2, ?_⟩
       by_cases h3:(D[k+1]).1=(D[k]).1
       ·exact h3
       ·exact absurd (hkk.2 fun _=>h3) hr
      ·exact absurd (hkk.2 fun h=>absurd h h2) hr
     obtain ⟨h2,h3⟩:=hex
     have he:¬ (k+1=D.length):=by omega
     simp only [mix,z9,Za,Zc,Nat.reduceEqDiff,Nat.reduceLeDiff,reduceCtorEq,if_true,if_false,reduceIte,Nat.reduceAdd,h17,h4]
     repeat (first|(with_reducible first|refine zJ ?_|refine zI ?_|refine Zu ?_|refine zZ ?_|refine Ze ?_|refine zk ?_|refine Zm ?_|refine zh ?_|refine z6 ?_)|((with_reducible refine xb ?_ ?_);rfl)|((with_reducible first|refine ks fun K hK=>?_|refine kd fun K hK=>?_|refine kc fun K hK2 hK hK3=>?_);simp (disch:=omega) only [bg0,bg1,bg2,bg3,bg4,zr,zS,eff,AX.ev,St.put,zQ,zP,ap1,zg,Int.reduceTMod,Int.reduceTDiv,reduceCtorEq,zt,AV.cells,AV.fine,AV.one,Nat.reduceAdd,Nat.reduceSub,Nat.reduceMul,Nat.reduceLT,Nat.reduceLeDiff,Int.reduceLT,Int.reduceLE,Int.reduceAdd,Int.reduceSub,Int.reduceNeg,Int.reduceMul,Int.reduceEq,Int.reduceToNat,zW,zp,live,zo,rdA,ze,wrA,zH,zq,zV,zR,zT,zi,zb,zm,zj,zd,cut,id,ap2,reduceIte,zu,zY,geB,AOp.cls,AOp.xs,ltB,ltC,Nat.reduceBEq,Option.toList,List.cons_append,decide_eq_true,decide_eq_false,if_pos,if_neg,List.length_map,zO,bVb,bVn,eq_self,Bool.and_self,BEq.rfl,not_true_eq_false,gR0,ye,yd,sR0,yb,ya,lR0,lR1,gR1,gR2,yc,sR1,sR2,Z9,ZE,ZB,yS,yR,yH,yG,Zh,hend,he,h3,tp];(with_reducible first|(refine hK _ ?_;clear hK K)|(refine hK ?_;clear hK hK3 K hK2)|(refine hK3 ?_;clear hK hK3 K hK2))))
     exact ⟨rfl,rfl,pre,hla,.inr ⟨hp,J,K++[rw0 [D[k]] 0],g,rfl,by simp [pA]⟩⟩
  ·rintro v H ⟨h17, pre, hla, hor⟩
   rw [List.drop_length] at hla
   have hla2:ZD D=pre:=by rw [hla];simp [ZD]
   rw [hla2]
   rcases hor with ⟨rfl,h4,K,rfl⟩|⟨hp,J,K,g,h4,rfl⟩
   ·simp only [mix, z9, Za, Zc, Nat.reduceEqDiff, Nat.reduceLeDiff, reduceCtorEq, if_true, if_false, reduceIte, Nat.reduceAdd, h17, h4]
    repeat (first|(with_reducible first|refine zJ ?_|refine zI ?_|refine Zp ?_|refine zk ?_|refine zh ?_|refine Zg ?_|refine Zb ?_|refine Zl ?_)|((with_reducible first|refine ks fun K hK=>?_|refine kd fun K hK=>?_|refine kc fun K hK2 hK hK3=>?_|refine Zr fun K hR=>?_|refine Zj rfl fun K hR=>?_|refine Zi fun K hR=>?_);simp (disch:=omega) only [bg0,bg1,bg2,bg3,bg4,zr,zS,eff,AX.ev,St.put,zQ,zP,ap1,zg,Int.reduceTMod,Int.reduceTDiv,reduceCtorEq,zt,AV.cells,AV.fine,AV.one,Nat.reduceAdd,Nat.reduceSub,Nat.reduceMul,Nat.reduceLT,Nat.reduceLeDiff,Int.reduceLT,Int.reduceLE,Int.reduceAdd,Int.reduceSub,Int.reduceNeg,Int.reduceMul,Int.reduceEq,Int.reduceToNat,zW,zp,live,zo,rdA,ze,wrA,zH,zq,zV,zR,zT,zi,zb,zm,zj,zd,cut,id,ap2,reduceIte,zu,zY,geB,AOp.cls,AOp.xs,ltB,ltC,Nat.reduceBEq,Option.toList,List.cons_append,decide_eq_true,decide_eq_false,if_pos,if_neg,List.length_map,zO,bVb,bVn,eq_self,Bool.and_self,BEq.rfl,not_true_eq_false,gR0,ye,yd,sR0,yb,ya,lR0,lR1,gR1,gR2,yc,sR1,sR2,Z9,ZE,ZB,yS,yR,yH,yG,Zh];(first|(with_reducible first|(refine hK _ ?_;clear hK K)|(refine hK ?_;clear hK hK3 K hK2)|(refine hK3 ?_;clear hK hK3 K hK2))|((with_reducible refine hR _ ?_ ?_ ?_ ?_);rotate_left 2;rfl;rfl)|((with_reducible refine hR _ ?_);rfl))))
   ·simp only [mix, z9, Za, Zc, Nat.reduceEqDiff, Nat.reduceLeDiff, reduceCtorEq, if_true, if_false, reduceIte, Nat.reduceAdd, h17, h4]
    repeat (first|(with_reducible first|refine zJ ?_|refine zI ?_|refine Zp ?_|refine zk ?_|refine zh ?_|refine Zg ?_|refine Zb ?_|refine Zl ?_)|((with_reducible first|refine ks fun K hK=>?_|refine kd fun K hK=>?_|refine kc fun K hK2 hK hK3=>?_);simp (disch:=omega) only [bg0,bg1,bg2,bg3,bg4,zr,zS,eff,AX.ev,St.put,zQ,zP,ap1,zg,Int.reduceTMod,Int.reduceTDiv,reduceCtorEq,zt,AV.cells,AV.fine,AV.one,Nat.reduceAdd,Nat.reduceSub,Nat.reduceMul,Nat.reduceLT,Nat.reduceLeDiff,Int.reduceLT,Int.reduceLE,Int.reduceAdd,Int.reduceSub,Int.reduceNeg,Int.reduceMul,Int.reduceEq,Int.reduceToNat,zW,zp,live,zo,rdA,ze,wrA,zH,zq,zV,zR,zT,zi,zb,zm,zj,zd,cut,id,ap2,reduceIte,zu,zY,geB,AOp.cls,AOp.xs,ltB,ltC,Nat.reduceBEq,Option.toList,List.cons_append,decide_eq_true,decide_eq_false,if_pos,if_neg,List.length_map,zO,bVb,bVn,eq_self,Bool.and_self,BEq.rfl,not_true_eq_false,gR0,ye,yd,sR0,yb,ya,lR0,lR1,gR1,gR2,yc,sR1,sR2,Z9,ZE,ZB,yS,yR,yH,yG,Zh];(with_reducible first|(refine hK _ ?_;clear hK K)|(refine hK ?_;clear hK hK3 K hK2)|(refine hK3 ?_;clear hK hK3 K hK2))))
    exact YK rfl (List.getElem?_cons_succ.trans gR0) (by simp) (yv _)
end Go.Proofs.YtgpldekhcojimaaDoor.Sim.Pr7
namespace Go.Proofs.YtgpldekhcojimaaDoor.Sim
open Go.RowKit
set_option maxRecDepth 100000
open Pr7
theorem fst_snoc {lt:ByteArray→ByteArray→Bool} {l:List Pr} {x:Pr}:xe lt (l++[x])=some (match xe lt l with|none=>x|some p=>if lt x.1 p.1=true then x else p):=by
 cases l with
 | nil=>rfl
 | cons a t =>
  show some ((t++[x]).foldl (Yu lt) a)=some (if lt x.1 (t.foldl (Yu lt) a).1=true then x else t.foldl (Yu lt) a)
  rw [List.foldl_append];rfl
theorem flt_take {f:Pr→Bool} {m:List Pr} {i:Nat} (h:i < m.length):(m.take (i+1)).filter f=(m.take i).filter f++(if f m[i]=true then [m[i]] else []):=by
 rw [List.take_succ_eq_append_getElem h,List.filter_append]
 cases hf:f m[i]<;>simp [hf]
abbrev oA (o:Option Pr):AV:=match o with|some p=>aA 0 true p.1 p.2 0|none=>aA 0 false ⟨#[]⟩ ⟨#[]⟩ 0
theorem fst_sz {lt:ByteArray→ByteArray→Bool} {l:List Pr} {p:Pr} (h:xe lt l=some p) (hs:∀ q ∈ l,q.1.size≤100000):p.1.size≤100000:=by
 cases l with
 | nil=>cases h
 | cons a t =>
  cases h
  exact fold_sz (fun q hq=>hs q (by simp [hq])) (hs a (by simp))
section
variable (G:Nat→AV) (k s t h b:Int) (hb:i64 b)
include hb
set_option maxHeartbeats 4000000 in
theorem next34 (l m : List Pr) (hm : m.length ≤ 1000000) (hs : ∀ p ∈ m, p.1.size ≤ 100000) (c35 : PC Tryd.prog G 35 [.sl 2 (l.map pA)] (.sl 2 (m.map pA))) (key : ByteArray) (hk : key.size ≤ 100000) (q : Bool) (f : Pr → Bool) (hf : ∀ p, f p = (!q || bfo k b key p.1)) :
  PC Tryd.prog G 34 [cA k s t h b,.sl 2 (l.map pA),S key,Bo q] (oA (xe (bfo k b) (m.filter f))):=by
 refine zf cop34 ?_
 repeat' ((conv=>whnf);first|(refine SeqP.go ?_)|((refine ObD.mk ?_ ?_);exact zD)|((refine ObN.mk ?_ ?_);exact zN)|((with_reducible refine (?_:ObU _ _));(refine ObU.mk _ zU ?_))|((with_reducible refine (?_:ObR _ _ _));(first|(refine ObR.mk _ zA ?_)|(refine ObR.map zX (fun x hx=>?_))|(refine ObR.mk _ rfl ?_)))|((refine ObC.f 35 ?_);(refine ObC.mk _ (c35) ?_)))
 conv=>whnf
 refine LoopP.go (α:=Nat × Option Pr) (fun p=>p.1≤m.length∧p.2=xe (bfo k b) ((m.take p.1).filter f)) (fun p=>m.length - p.1) (fun p=>[(11,some (I p.1)),(3,none),(0,none),(0,none),(0,none),(0,none),(0,none),(0,none),(0,none),(0,none),(0,none),(0,none),(0,none),(0,none),(0,none),(0,none),(0,none),(0,none),(0,none),(0,none),(0,none),(0,none),(0,none),(0,none),(0,none),(0,none),(0,none),(0,none),(0,none),(0,none),(0,none),(0,none),(0,none),(0,none),(0,none),(0,none),(0,none),(0,none),(0,none),(0,none),(0,none),(0,none),(0,none),(0,none)]) (fun p=>[⟨23,5,[cA k s t h b],0,0⟩,⟨34,5,[aA 0 false ⟨#[]⟩ ⟨#[]⟩ 0],0,0⟩,⟨34,5,[oA p.2],0,0⟩]) (0,none) ⟨Nat.zero_le _,rfl⟩ (Fg.go ?_ rfl) ?_
 ·repeat' ((conv=>whnf);first|((refine ObEqs.mk ?_ ?_);rfl)|((with_reducible refine ObEq1.i ?_ ?_);exact zF)|exact True.intro)
 rintro ⟨i,o⟩ ⟨hi,ho⟩
 dsimp only at hi ho ⊢
 by_cases him:i < m.length
 ·have r := zO him
  have hxs:=hs _ (List.getElem_mem him)
  have hos:∀ p,o=some p→p.1.size≤100000:=fun p e=>fst_sz (ho.symm.trans e) fun q hq=>hs q (List.mem_of_mem_take (List.mem_filter.1 hq).1)
  have ft:=flt_take (f:=f) him
  have fx:=hf m[i]
  generalize m[i]=x at *
  have c1:=rb17 G k s t h b key x.1 hk hxs hb _ rfl
  generalize bfo k b key x.1=u at *
  by_cases hfx:f x=true
  ·rw [if_pos hfx] at ft
   rw [hfx] at fx
   have fs:=fst_snoc (lt:=bfo k b) (l:=(m.take i).filter f) (x:=x)
   rw [← ft,← ho] at fs
   cases o with
   | none =>
    dsimp only at fs
    cases q
    ·repeat' ((conv=>whnf);first|(refine SeqP.go ?_)|((refine ObD.mk ?_ ?_);exact zD)|((refine ObN.mk ?_ ?_);exact zN)|(with_reducible first|refine ObT.tt ?_|refine ObT.ff ?_)|((refine ObB.yes ?_ ?_);exact zB)|((with_reducible refine ObI.nl ?_ ?_);omega)|((refine ObX.mk _ rfl ?_ ?_);exact zX)|((with_reducible refine (?_:ObL _ _));(refine ObL.mk _ zM ?_))|((with_reducible refine (?_:ObU _ _));(refine ObU.mk _ zU ?_))|((with_reducible refine (?_:ObR _ _ _));(first|(refine ObR.mk _ (by assumption) ?_)|(refine ObR.mk _ (by exact r) ?_)|(refine ObR.mk _ Zv ?_)|(refine ObR.map zX (fun x hx=>?_))|(refine ObR.mk _ rfl ?_))))
     conv=>whnf
     refine Again.mk (i+1,some x) ⟨by dsimp only;omega,by dsimp only;rw [fs]⟩ ?_ (Fg.go ?_ rfl)
     ·dsimp only;omega
     repeat' ((conv=>whnf);first|((refine ObEqs.mk ?_ ?_);rfl)|((with_reducible refine ObEq1.i ?_ ?_);exact zF)|exact True.intro)
    ·obtain rfl : u = true := by simpa using fx.symm
     repeat' ((conv=>whnf);first|(refine SeqP.go ?_)|((refine ObD.mk ?_ ?_);exact zD)|((refine ObN.mk ?_ ?_);exact zN)|(with_reducible first|refine ObT.tt ?_|refine ObT.ff ?_)|((refine ObB.yes ?_ ?_);exact zB)|((with_reducible refine ObI.nl ?_ ?_);omega)|((refine ObX.mk _ rfl ?_ ?_);exact zX)|((with_reducible refine (?_:ObL _ _));(refine ObL.mk _ zM ?_))|((with_reducible refine (?_:ObU _ _));(refine ObU.mk _ zU ?_))|((with_reducible refine (?_:ObR _ _ _));(first|(refine ObR.mk _ (by assumption) ?_)|(refine ObR.mk _ (by exact r) ?_)|(refine ObR.mk _ Zv ?_)|(refine ObR.map zX (fun x hx=>?_))|(refine ObR.mk _ rfl ?_)))|((refine ObC.f 17 ?_);(refine ObC.mk _ (c1) ?_)))
     conv=>whnf
     refine Again.mk (i+1,some x) ⟨by dsimp only;omega,by dsimp only;rw [fs]⟩ ?_ (Fg.go ?_ rfl)
     ·dsimp only;omega
     repeat' ((conv=>whnf);first|((refine ObEqs.mk ?_ ?_);rfl)|((with_reducible refine ObEq1.i ?_ ?_);exact zF)|exact True.intro)
   | some p =>
    have c2:=rb17 G k s t h b x.1 p.1 hxs (hos p rfl) hb _ rfl
    dsimp only at fs
    generalize bfo k b x.1 p.1=v at *
    have fs':xe (bfo k b) ((m.take (i+1)).filter f)=some (if v=true then x else p):=fs
    clear fs
    cases v
    ·cases q
     ·repeat' ((conv=>whnf);first|(refine SeqP.go ?_)|((refine ObD.mk ?_ ?_);exact zD)|((refine ObN.mk ?_ ?_);exact zN)|(with_reducible first|refine ObT.tt ?_|refine ObT.ff ?_)|((refine ObB.yes ?_ ?_);exact zB)|((with_reducible refine ObI.nl ?_ ?_);omega)|((refine ObX.mk _ rfl ?_ ?_);exact zX)|((with_reducible refine (?_:ObL _ _));(refine ObL.mk _ zM ?_))|((with_reducible refine (?_:ObR _ _ _));(first|(refine ObR.mk _ (by assumption) ?_)|(refine ObR.mk _ (by exact r) ?_)|(refine ObR.mk _ Zv ?_)|(refine ObR.map zX (fun x hx=>?_))|(refine ObR.mk _ rfl ?_)))|((refine ObC.f 17 ?_);(refine ObC.mk _ (c2) ?_)))
      conv=>whnf
      refine Again.mk (i+1,some p) ⟨by dsimp only;omega,by dsimp only;rw [fs'];rfl⟩ ?_ (Fg.go ?_ rfl)
      ·dsimp only;omega
      repeat' ((conv=>whnf);first|((refine ObEqs.mk ?_ ?_);rfl)|((with_reducible refine ObEq1.i ?_ ?_);exact zF)|exact True.intro)
     ·obtain rfl : u = true := by simpa using fx.symm
      repeat' ((conv=>whnf);first|(refine SeqP.go ?_)|((refine ObD.mk ?_ ?_);exact zD)|((refine ObN.mk ?_ ?_);exact zN)|(with_reducible first|refine ObT.tt ?_|refine ObT.ff ?_)|((refine ObB.yes ?_ ?_);exact zB)|((with_reducible refine ObI.nl ?_ ?_);omega)|((refine ObX.mk _ rfl ?_ ?_);exact zX)|((with_reducible refine (?_:ObL _ _));(refine ObL.mk _ zM ?_))|((with_reducible refine (?_:ObR _ _ _));(first|(refine ObR.mk _ (by assumption) ?_)|(refine ObR.mk _ (by exact r) ?_)|(refine ObR.mk _ Zv ?_)|(refine ObR.map zX (fun x hx=>?_))|(refine ObR.mk _ rfl ?_)))|((refine ObC.f 17 ?_);(refine ObC.mk _ (c1) ?_))|((refine ObC.f 17 ?_);(refine ObC.mk _ (c2) ?_)))
      conv=>whnf
      refine Again.mk (i+1,some p) ⟨by dsimp only;omega,by dsimp only;rw [fs'];rfl⟩ ?_ (Fg.go ?_ rfl)
      ·dsimp only;omega
      repeat' ((conv=>whnf);first|((refine ObEqs.mk ?_ ?_);rfl)|((with_reducible refine ObEq1.i ?_ ?_);exact zF)|exact True.intro)
    ·cases q
     ·repeat' ((conv=>whnf);first|(refine SeqP.go ?_)|((refine ObD.mk ?_ ?_);exact zD)|((refine ObN.mk ?_ ?_);exact zN)|(with_reducible first|refine ObT.tt ?_|refine ObT.ff ?_)|((refine ObB.yes ?_ ?_);exact zB)|((with_reducible refine ObI.nl ?_ ?_);omega)|((refine ObX.mk _ rfl ?_ ?_);exact zX)|((with_reducible refine (?_:ObL _ _));(refine ObL.mk _ zM ?_))|((with_reducible refine (?_:ObU _ _));(refine ObU.mk _ zU ?_))|((with_reducible refine (?_:ObR _ _ _));(first|(refine ObR.mk _ (by assumption) ?_)|(refine ObR.mk _ (by exact r) ?_)|(refine ObR.mk _ Zv ?_)|(refine ObR.map zX (fun x hx=>?_))|(refine ObR.mk _ rfl ?_)))|((refine ObC.f 17 ?_);(refine ObC.mk _ (c2) ?_)))
      conv=>whnf
      refine Again.mk (i+1,some x) ⟨by dsimp only;omega,by dsimp only;rw [fs'];rfl⟩ ?_ (Fg.go ?_ rfl)
      ·dsimp only;omega
      repeat' ((conv=>whnf);first|((refine ObEqs.mk ?_ ?_);rfl)|((with_reducible refine ObEq1.i ?_ ?_);exact zF)|exact True.intro)
     ·obtain rfl : u = true := by simpa using fx.symm
      repeat' ((conv=>whnf);first|(refine SeqP.go ?_)|((refine ObD.mk ?_ ?_);exact zD)|((refine ObN.mk ?_ ?_);exact zN)|(with_reducible first|refine ObT.tt ?_|refine ObT.ff ?_)|((refine ObB.yes ?_ ?_);exact zB)|((with_reducible refine ObI.nl ?_ ?_);omega)|((refine ObX.mk _ rfl ?_ ?_);exact zX)|((with_reducible refine (?_:ObL _ _));(refine ObL.mk _ zM ?_))|((with_reducible refine (?_:ObU _ _));(refine ObU.mk _ zU ?_))|((with_reducible refine (?_:ObR _ _ _));(first|(refine ObR.mk _ (by assumption) ?_)|(refine ObR.mk _ (by exact r) ?_)|(refine ObR.mk _ Zv ?_)|(refine ObR.map zX (fun x hx=>?_))|(refine ObR.mk _ rfl ?_)))|((refine ObC.f 17 ?_);(refine ObC.mk _ (c1) ?_))|((refine ObC.f 17 ?_);(refine ObC.mk _ (c2) ?_)))
      conv=>whnf
      refine Again.mk (i+1,some x) ⟨by dsimp only;omega,by dsimp only;rw [fs'];rfl⟩ ?_ (Fg.go ?_ rfl)
      ·dsimp only;omega
      repeat' ((conv=>whnf);first|((refine ObEqs.mk ?_ ?_);rfl)|((with_reducible refine ObEq1.i ?_ ?_);exact zF)|exact True.intro)
  ·rw [if_neg hfx, List.append_nil] at ft
   have fx2:f x=false:=by simpa using hfx
   rw [fx2] at fx
   have hq:q=true:=by
    cases q with
    | true=>rfl
    | false=>simp at fx
   have hu:u=false:=by
    rw [hq] at fx
    simpa using fx.symm
   subst hq;subst hu
   repeat' ((conv=>whnf);first|(refine SeqP.go ?_)|((refine ObD.mk ?_ ?_);exact zD)|((refine ObN.mk ?_ ?_);exact zN)|(with_reducible first|refine ObT.tt ?_|refine ObT.ff ?_)|((refine ObB.yes ?_ ?_);exact zB)|((with_reducible refine ObI.nl ?_ ?_);omega)|((refine ObX.mk _ rfl ?_ ?_);exact zX)|((with_reducible refine (?_:ObL _ _));(refine ObL.mk _ zM ?_))|((with_reducible refine (?_:ObR _ _ _));(first|(refine ObR.mk _ (by assumption) ?_)|(refine ObR.mk _ (by exact r) ?_)|(refine ObR.mk _ Zv ?_)|(refine ObR.map zX (fun x hx=>?_))|(refine ObR.mk _ rfl ?_)))|((refine ObC.f 17 ?_);(refine ObC.mk _ (c1) ?_)))
   conv=>whnf
   refine Again.mk (i+1,o) ⟨by dsimp only;omega,by dsimp only;rw [ft];exact ho⟩ ?_ (Fg.go ?_ rfl)
   ·dsimp only;omega
   repeat' ((conv=>whnf);first|((refine ObEqs.mk ?_ ?_);rfl)|((with_reducible refine ObEq1.i ?_ ?_);exact zF)|exact True.intro)
 ·obtain rfl : i = m.length := by omega
  rw [List.take_length] at ho
  rw [← ho]
  cases o
  ·repeat' ((conv=>whnf);first|(refine SeqP.go ?_)|((refine ObD.mk ?_ ?_);exact zD)|((refine ObN.mk ?_ ?_);exact zN)|(refine ObT.ff ?_)|((refine ObB.no ?_ ?_);exact zC)|((with_reducible refine (?_:ObL _ _));(refine ObL.mk _ zL ?_))|((with_reducible refine (?_:ObU _ _));(refine ObU.mk _ zU ?_))|((with_reducible refine (?_:ObR _ _ _));(first|(refine ObR.mk _ zA ?_)|(refine ObR.map zX (fun x hx=>?_))|(refine ObR.mk _ rfl ?_)))|((refine ObEq.mk ?_);exact zE))
  ·repeat' ((conv=>whnf);first|(refine SeqP.go ?_)|((refine ObD.mk ?_ ?_);exact zD)|((refine ObN.mk ?_ ?_);exact zN)|(refine ObT.ff ?_)|((refine ObB.no ?_ ?_);exact zC)|((with_reducible refine (?_:ObL _ _));(refine ObL.mk _ zL ?_))|((with_reducible refine (?_:ObU _ _));(refine ObU.mk _ zU ?_))|((with_reducible refine (?_:ObR _ _ _));(first|(refine ObR.mk _ zA ?_)|(refine ObR.map zX (fun x hx=>?_))|(refine ObR.mk _ rfl ?_)))|((refine ObEq.mk ?_);exact zE))
end
end Go.Proofs.YtgpldekhcojimaaDoor.Sim
namespace Go.Proofs.YtgpldekhcojimaaDoor.Sim.Pr7
open Go.RowKit
set_option maxRecDepth 100000
theorem purA_ol {H:Hp} {i g n k:Nat} {es:List AV} {e:TypeId} {fz:Nat} (h2:H[i]? = some ⟨e,k,es,g,fz⟩) (hn:es.length=n) (hp:es.all AV.isP=true):yt H [.ol i g n]=some ([.sl k es],H.set i ⟨e,k,es,g,max fz n⟩):=by
 subst hn
 simp only [yt,pur,ZV,h2,Nat.le_refl,List.take_length,hp,and_self,if_true]
set_option maxHeartbeats 2000000 in
theorem rput18 (G:Nat→AV) (l:List Pr) (hl:Okl l) (h40:l.length≤40) (key v:ByteArray) (hk:key.size≤9223372036854775807) (hv:v.size≤9223372036854775807):PC Tryd.prog G 71 [.sl 2 (l.map pA),S key,S v] (.sl 2 ((mk (l++[(key,v)])).map pA)):=by
 have hl2:Okl (l++[(key,v)]):=⟨by simp;omega,fun p hp=>by
  rcases List.mem_append.1 hp with hp|hp
  ·exact hl.sz p hp
  ·simp at hp;subst hp;exact ⟨hk,hv⟩⟩
 have hm:=yy G (l++[(key,v)]) hl2
 have e:(l++[(key,v)]).map pA=l.map pA++[AV.agg [S key,S v]]:=by simp [pA]
 rw [e] at hm
 have t1:(l.map pA++[AV.agg [S key,S v]]).take (l.length+1)=l.map pA++[AV.agg [S key,S v]]:=List.take_of_length_le (by simp)
 refine ZP cop71 ?_
 show W _ _ _ _ ⟨_,_⟩;simp only [A71,List.cons_append,List.nil_append,List.length_cons,List.length_nil,Nat.reduceAdd,Nat.reduceSub,List.replicate]
 have t0:(l.map pA).take l.length=l.map pA:=List.take_of_length_le (by simp)
 repeat (first|(with_reducible first|refine zJ ?_|refine zI ?_|refine zk ?_|refine zh ?_)|((with_reducible first|refine ks fun K hK=>?_|refine kd fun K hK=>?_|refine kc fun K hK2 hK hK3=>?_);simp (disch:=omega) only [bg0,bg1,bg2,bg3,bg4,zr,zS,eff,AX.ev,St.put,zQ,zP,ap1,zg,Int.reduceTMod,Int.reduceTDiv,reduceCtorEq,zt,AV.cells,AV.fine,AV.one,Nat.reduceAdd,Nat.reduceSub,Nat.reduceMul,Nat.reduceLT,Nat.reduceLeDiff,Int.reduceLT,Int.reduceLE,Int.reduceAdd,Int.reduceSub,Int.reduceNeg,Int.reduceMul,Int.reduceEq,Int.reduceToNat,zW,zp,live,zo,rdA,ze,wrA,zH,zq,zV,zR,zT,zi,zb,zm,zj,zd,cut,id,ap2,reduceIte,zu,zY,geB,AOp.cls,AOp.xs,ltB,ltC,Nat.reduceBEq,Option.toList,List.cons_append,decide_eq_true,decide_eq_false,if_pos,if_neg,List.length_map,zO,bVb,bVn,eq_self,Bool.and_self,BEq.rfl,not_true_eq_false,List.cons_append,t1,t0];(with_reducible first|(refine hK _ ?_;clear hK K)|(refine hK ?_;clear hK hK3 K hK2)|(refine hK3 ?_;clear hK hK3 K hK2))))
 refine kqs 35 _ _ _ (purA_ol rfl (by simp) (by rw [← e];exact yv _)) hm ?_
 repeat (first|(with_reducible first|refine zk ?_|refine zh ?_|refine Zl ?_)|((with_reducible first|refine ks fun K hK=>?_|refine kd fun K hK=>?_|refine kc fun K hK2 hK hK3=>?_|refine Zr fun K hR=>?_|refine Zj rfl fun K hR=>?_|refine Zi fun K hR=>?_);simp (disch:=omega) only [bg0,bg1,bg2,bg3,bg4,zr,zS,eff,AX.ev,St.put,zQ,zP,ap1,zg,Int.reduceTMod,Int.reduceTDiv,reduceCtorEq,zt,AV.cells,AV.fine,AV.one,Nat.reduceAdd,Nat.reduceSub,Nat.reduceMul,Nat.reduceLT,Nat.reduceLeDiff,Int.reduceLT,Int.reduceLE,Int.reduceAdd,Int.reduceSub,Int.reduceNeg,Int.reduceMul,Int.reduceEq,Int.reduceToNat,zW,zp,live,zo,rdA,ze,wrA,zH,zq,zV,zR,zT,zi,zb,zm,zj,zd,cut,id,ap2,reduceIte,zu,zY,geB,AOp.cls,AOp.xs,ltB,ltC,Nat.reduceBEq,Option.toList,List.cons_append,decide_eq_true,decide_eq_false,if_pos,if_neg,List.length_map,zO,bVb,bVn,eq_self,Bool.and_self,BEq.rfl,not_true_eq_false,List.cons_append];(first|(with_reducible first|(refine hK _ ?_;clear hK K)|(refine hK ?_;clear hK hK3 K hK2)|(refine hK3 ?_;clear hK hK3 K hK2))|((with_reducible refine hR _ ?_ ?_ ?_ ?_);rotate_left 2;rfl;rfl)|((with_reducible refine hR _ ?_);rfl))))
set_option maxHeartbeats 4000000 in
theorem rdrop20 (G:Nat→AV) (l:List Pr) (hl:Okl l) (key:ByteArray) (hk:key.size≤9223372036854775807):PC Tryd.prog G 72 [.sl 2 (l.map pA),S key] (.sl 2 ((dr (mk l) key).map pA)):=by
 have hm:=yy G l hl
 have ho:=Ym hl
 have hlen:=ho.len
 generalize mk l=m at *
 refine ZP cop72 ?_
 show W _ _ _ _ ⟨_,_⟩;simp only [A72,List.cons_append,List.nil_append,List.length_cons,List.length_nil,Nat.reduceAdd,Nat.reduceSub,List.replicate]
 repeat (first|(with_reducible first|refine zJ ?_|refine zI ?_|refine zZ ?_|refine zk ?_|refine zh ?_)|((with_reducible first|refine ks fun K hK=>?_|refine kd fun K hK=>?_|refine kc fun K hK2 hK hK3=>?_);simp (disch:=omega) only [bg0,bg1,bg2,bg3,bg4,zr,zS,eff,AX.ev,St.put,zQ,zP,ap1,zg,Int.reduceTMod,Int.reduceTDiv,reduceCtorEq,zt,AV.cells,AV.fine,AV.one,Nat.reduceAdd,Nat.reduceSub,Nat.reduceMul,Nat.reduceLT,Nat.reduceLeDiff,Int.reduceLT,Int.reduceLE,Int.reduceAdd,Int.reduceSub,Int.reduceNeg,Int.reduceMul,Int.reduceEq,Int.reduceToNat,zW,zp,live,zo,rdA,ze,wrA,zH,zq,zV,zR,zT,zi,zb,zm,zj,zd,cut,id,ap2,reduceIte,zu,zY,geB,AOp.cls,AOp.xs,ltB,ltC,Nat.reduceBEq,Option.toList,List.cons_append,decide_eq_true,decide_eq_false,if_pos,if_neg,List.length_map,zO,bVb,bVn,eq_self,Bool.and_self,BEq.rfl,not_true_eq_false,List.cons_append];(with_reducible first|(refine hK _ ?_;clear hK K)|(refine hK ?_;clear hK hK3 K hK2)|(refine hK3 ?_;clear hK hK3 K hK2)))|((with_reducible refine kps 35 ?_ ?_ ?_ ?_);rotate_left 1;rfl;exact hm))
 refine ZN [6,7,11,12,13,14,15,16,17,18,19,20,21,22,23,24,25,26,27,28,29,30] (fun k v H=>v 7=I k∧∃ (g:Nat) (J:Hp),v 6 = .ol 0 g (dr (m.take k) key).length∧H=⟨65,2,(dr (m.take k) key).map pA,g,0⟩::J) m.length ⟨rfl,0,[],rfl,rfl⟩ ?_ ?_
 ·rintro k v H hk ⟨h7, g, J, h6, rfl⟩
  have hd:dr (m.take (k+1)) key=if (m[k]).1 ≠ key then dr (m.take k) key++[m[k]] else dr (m.take k) key:=by
   unfold dr
   rw [List.take_add_one,List.getElem?_eq_getElem hk,Option.toList_some,List.filter_append,List.filter_cons]
   by_cases h:(m[k]).1=key<;>simp [h]
  have hdl:(dr (m.take k) key).length≤1000000:=by
   have:=List.length_filter_le (fun p=>decide (p.1 ≠ key)) (m.take k)
   unfold dr;simp at this ⊢;omega
  rw [hd]
  have t1:((dr (m.take k) key).map pA).take (dr (m.take k) key).length=(dr (m.take k) key).map pA:=List.take_of_length_le (by simp)
  by_cases hc:(m[k]).1=key
  ·rw [if_neg (by simp [hc])]
   simp only [mix,z9,Za,Zc,Nat.reduceEqDiff,Nat.reduceLeDiff,reduceCtorEq,if_true,if_false,reduceIte,Nat.reduceAdd,h7,h6]
   repeat (first|(with_reducible first|refine zJ ?_|refine zI ?_|refine zZ ?_|refine Ze ?_|refine zk ?_|refine zh ?_|refine z6 ?_)|((with_reducible first|refine ks fun K hK=>?_|refine kd fun K hK=>?_|refine kc fun K hK2 hK hK3=>?_);simp (disch:=omega) only [bg0,bg1,bg2,bg3,bg4,zr,zS,eff,AX.ev,St.put,zQ,zP,ap1,zg,Int.reduceTMod,Int.reduceTDiv,reduceCtorEq,zt,AV.cells,AV.fine,AV.one,Nat.reduceAdd,Nat.reduceSub,Nat.reduceMul,Nat.reduceLT,Nat.reduceLeDiff,Int.reduceLT,Int.reduceLE,Int.reduceAdd,Int.reduceSub,Int.reduceNeg,Int.reduceMul,Int.reduceEq,Int.reduceToNat,zW,zp,live,zo,rdA,ze,wrA,zH,zq,zV,zR,zT,zi,zb,zm,zj,zd,cut,id,ap2,reduceIte,zu,zY,geB,AOp.cls,AOp.xs,ltB,ltC,Nat.reduceBEq,Option.toList,List.cons_append,decide_eq_true,decide_eq_false,if_pos,if_neg,List.length_map,zO,bVb,bVn,eq_self,Bool.and_self,BEq.rfl,not_true_eq_false,List.cons_append,hc];(with_reducible first|(refine hK _ ?_;clear hK K)|(refine hK ?_;clear hK hK3 K hK2)|(refine hK3 ?_;clear hK hK3 K hK2))))
   exact ⟨rfl,rfl,g,J,rfl,rfl⟩
  ·rw [if_pos hc]
   simp only [mix,z9,Za,Zc,Nat.reduceEqDiff,Nat.reduceLeDiff,reduceCtorEq,if_true,if_false,reduceIte,Nat.reduceAdd,h7,h6]
   repeat (first|(with_reducible first|refine zJ ?_|refine zI ?_|refine zZ ?_|refine Ze ?_|refine zk ?_|refine zh ?_|refine z6 ?_)|((with_reducible first|refine ks fun K hK=>?_|refine kd fun K hK=>?_|refine kc fun K hK2 hK hK3=>?_);simp (disch:=omega) only [bg0,bg1,bg2,bg3,bg4,zr,zS,eff,AX.ev,St.put,zQ,zP,ap1,zg,Int.reduceTMod,Int.reduceTDiv,reduceCtorEq,zt,AV.cells,AV.fine,AV.one,Nat.reduceAdd,Nat.reduceSub,Nat.reduceMul,Nat.reduceLT,Nat.reduceLeDiff,Int.reduceLT,Int.reduceLE,Int.reduceAdd,Int.reduceSub,Int.reduceNeg,Int.reduceMul,Int.reduceEq,Int.reduceToNat,zW,zp,live,zo,rdA,ze,wrA,zH,zq,zV,zR,zT,zi,zb,zm,zj,zd,cut,id,ap2,reduceIte,zu,zY,geB,AOp.cls,AOp.xs,ltB,ltC,Nat.reduceBEq,Option.toList,List.cons_append,decide_eq_true,decide_eq_false,if_pos,if_neg,List.length_map,zO,bVb,bVn,eq_self,Bool.and_self,BEq.rfl,not_true_eq_false,List.cons_append,hc,t1];(with_reducible first|(refine hK _ ?_;clear hK K)|(refine hK ?_;clear hK hK3 K hK2)|(refine hK3 ?_;clear hK hK3 K hK2))))
   exact ⟨rfl,rfl,g+1,_,by simp [at_],by simp [pA];rfl⟩
 ·rintro v H ⟨h7, g, J, h6, rfl⟩
  rw [List.take_length] at h6 ⊢
  simp only [mix,z9,Za,Zc,Nat.reduceEqDiff,Nat.reduceLeDiff,reduceCtorEq,if_true,if_false,reduceIte,Nat.reduceAdd,h7,h6]
  repeat (first|(with_reducible first|refine zJ ?_|refine zI ?_|refine Zp ?_|refine zk ?_|refine zh ?_|refine Zg ?_|refine Zb ?_|refine Zl ?_)|((with_reducible first|refine ks fun K hK=>?_|refine kd fun K hK=>?_|refine kc fun K hK2 hK hK3=>?_);simp (disch:=omega) only [bg0,bg1,bg2,bg3,bg4,zr,zS,eff,AX.ev,St.put,zQ,zP,ap1,zg,Int.reduceTMod,Int.reduceTDiv,reduceCtorEq,zt,AV.cells,AV.fine,AV.one,Nat.reduceAdd,Nat.reduceSub,Nat.reduceMul,Nat.reduceLT,Nat.reduceLeDiff,Int.reduceLT,Int.reduceLE,Int.reduceAdd,Int.reduceSub,Int.reduceNeg,Int.reduceMul,Int.reduceEq,Int.reduceToNat,zW,zp,live,zo,rdA,ze,wrA,zH,zq,zV,zR,zT,zi,zb,zm,zj,zd,cut,id,ap2,reduceIte,zu,zY,geB,AOp.cls,AOp.xs,ltB,ltC,Nat.reduceBEq,Option.toList,List.cons_append,decide_eq_true,decide_eq_false,if_pos,if_neg,List.length_map,zO,bVb,bVn,eq_self,Bool.and_self,BEq.rfl,not_true_eq_false,List.cons_append];(with_reducible first|(refine hK _ ?_;clear hK K)|(refine hK ?_;clear hK hK3 K hK2)|(refine hK3 ?_;clear hK hK3 K hK2))))
  exact YK rfl rfl (by simp) (yv _)
set_option maxHeartbeats 4000000 in
theorem rfloor24 (G:Nat→AV) (l:List Pr) (hl:Okl l) (key:ByteArray) (hk:key.size≤9223372036854775807):PC Tryd.prog G 33 [.sl 2 (l.map pA),S key] (oP (fl (mk l) key)):=by
 have hm:=yy G l hl
 have ho:=Ym hl
 have hlen:=ho.len
 have hs:=(ZU l).le
 have hidx:=fun i (h:i < (mk l).length)=>w7 hs key h
 have hll:=YP (B:=mk l) (k:=key)
 have hfl:=fl_at hs key
 have hfn:(le (mk l) key).length=0→fl (mk l) key=none:=fun h=>by unfold fl;rw [List.length_eq_zero_iff.1 h];rfl
 generalize mk l=m at *
 generalize (le m key).length=c at *
 generalize fl m key=r at *
 refine ZP cop33 ?_
 show W _ _ _ _ ⟨_,_⟩;simp only [A33,List.cons_append,List.nil_append,List.length_cons,List.length_nil,Nat.reduceAdd,Nat.reduceSub,List.replicate]
 repeat (first|(with_reducible first|refine zJ ?_|refine zI ?_|refine zZ ?_|refine zk ?_|refine zh ?_)|((with_reducible first|refine ks fun K hK=>?_|refine kd fun K hK=>?_|refine kc fun K hK2 hK hK3=>?_);simp (disch:=omega) only [bg0,bg1,bg2,bg3,bg4,zr,zS,eff,AX.ev,St.put,zQ,zP,ap1,zg,Int.reduceTMod,Int.reduceTDiv,reduceCtorEq,zt,AV.cells,AV.fine,AV.one,Nat.reduceAdd,Nat.reduceSub,Nat.reduceMul,Nat.reduceLT,Nat.reduceLeDiff,Int.reduceLT,Int.reduceLE,Int.reduceAdd,Int.reduceSub,Int.reduceNeg,Int.reduceMul,Int.reduceEq,Int.reduceToNat,zW,zp,live,zo,rdA,ze,wrA,zH,zq,zV,zR,zT,zi,zb,zm,zj,zd,cut,id,ap2,reduceIte,zu,zY,geB,AOp.cls,AOp.xs,ltB,ltC,Nat.reduceBEq,Option.toList,List.cons_append,decide_eq_true,decide_eq_false,if_pos,if_neg,List.length_map,zO,bVb,bVn,eq_self,Bool.and_self,BEq.rfl,not_true_eq_false,List.cons_append];(with_reducible first|(refine hK _ ?_;clear hK K)|(refine hK ?_;clear hK hK3 K hK2)|(refine hK3 ?_;clear hK hK3 K hK2)))|((with_reducible refine kps 35 ?_ ?_ ?_ ?_);rotate_left 1;rfl;exact hm))
 refine ZN [5,7,13,14,15,16,17,18,19,20,21,22,23,24,25,26,27,28] (fun k v H=>v 7=I ((m.length:Int) - 1 - k)∧H=[⟨65,2,[.agg [S ⟨#[]⟩,S ⟨#[]⟩]],0,0⟩]) (m.length - c) ⟨by simp [at_],rfl⟩ ?_ ?_
 ·rintro k v H hk2 ⟨h7, rfl⟩
  obtain ⟨w,hw⟩:∃ w,w=m.length - 1 - k:=⟨_,rfl⟩
  have hkm:w < m.length:=by omega
  have h1:=ho.k hkm
  have hc:cB key (m[w]).1 < 0:=by
   have:=fun h=>(hidx w hkm).1 h
   rw [Z4 (m[w]).1 key];omega
  have e1:(m.length:Int) - 1 - k=(w:Int):=by omega
  have e2:(m.length:Int) - 1 - ((k+1:Nat):Int)=(w:Int) - 1:=by omega
  rw [e2]
  rw [e1] at h7
  clear hw hk2 e1 e2 hfl hfn hidx
  simp only [mix,z9,Za,Zc,Nat.reduceEqDiff,Nat.reduceLeDiff,reduceCtorEq,if_true,if_false,reduceIte,Nat.reduceAdd,h7]
  repeat (first|(with_reducible first|refine zJ ?_|refine zI ?_|refine zZ ?_|refine Ze ?_|refine zk ?_|refine zh ?_|refine z6 ?_)|((with_reducible first|refine ks fun K hK=>?_|refine kd fun K hK=>?_|refine kc fun K hK2 hK hK3=>?_);simp (disch:=omega) only [bg0,bg1,bg2,bg3,bg4,zr,zS,eff,AX.ev,St.put,zQ,zP,ap1,zg,Int.reduceTMod,Int.reduceTDiv,reduceCtorEq,zt,AV.cells,AV.fine,AV.one,Nat.reduceAdd,Nat.reduceSub,Nat.reduceMul,Nat.reduceLT,Nat.reduceLeDiff,Int.reduceLT,Int.reduceLE,Int.reduceAdd,Int.reduceSub,Int.reduceNeg,Int.reduceMul,Int.reduceEq,Int.reduceToNat,zW,zp,live,zo,rdA,ze,wrA,zH,zq,zV,zR,zT,zi,zb,zm,zj,zd,cut,id,ap2,reduceIte,zu,zY,geB,AOp.cls,AOp.xs,ltB,ltC,Nat.reduceBEq,Option.toList,List.cons_append,decide_eq_true,decide_eq_false,if_pos,if_neg,List.length_map,zO,bVb,bVn,eq_self,Bool.and_self,BEq.rfl,not_true_eq_false,List.cons_append,hc];(with_reducible first|(refine hK _ ?_;clear hK K)|(refine hK ?_;clear hK hK3 K hK2)|(refine hK3 ?_;clear hK hK3 K hK2)))|((with_reducible refine kps 46 ?_ ?_ ?_ ?_);rotate_left 1;rfl;exact (by refine Xc G _ _ ?_ ?_<;>assumption)))
  exact ⟨rfl,rfl,rfl⟩
 ·rintro v H ⟨h7, rfl⟩
  have e1:(m.length:Int) - 1 - ((m.length - c:Nat):Int)=(c:Int) - 1:=by omega
  rw [e1] at h7
  by_cases hc0:c=0
  ·subst hc0
   rw [hfn rfl]
   simp only [oP,Option.getD_none,Option.isSome_none,dflt]
   clear e1 hfl hfn hidx
   simp only [mix,z9,Za,Zc,Nat.reduceEqDiff,Nat.reduceLeDiff,reduceCtorEq,if_true,if_false,reduceIte,Nat.reduceAdd,h7]
   repeat (first|(with_reducible first|refine zJ ?_|refine zI ?_|refine Zp ?_|refine zk ?_|refine zh ?_|refine Zg ?_|refine Zb ?_|refine Zl ?_)|((with_reducible first|refine ks fun K hK=>?_|refine kd fun K hK=>?_|refine kc fun K hK2 hK hK3=>?_|refine Zr fun K hR=>?_|refine Zj rfl fun K hR=>?_|refine Zi fun K hR=>?_);simp (disch:=omega) only [bg0,bg1,bg2,bg3,bg4,zr,zS,eff,AX.ev,St.put,zQ,zP,ap1,zg,Int.reduceTMod,Int.reduceTDiv,reduceCtorEq,zt,AV.cells,AV.fine,AV.one,Nat.reduceAdd,Nat.reduceSub,Nat.reduceMul,Nat.reduceLT,Nat.reduceLeDiff,Int.reduceLT,Int.reduceLE,Int.reduceAdd,Int.reduceSub,Int.reduceNeg,Int.reduceMul,Int.reduceEq,Int.reduceToNat,zW,zp,live,zo,rdA,ze,wrA,zH,zq,zV,zR,zT,zi,zb,zm,zj,zd,cut,id,ap2,reduceIte,zu,zY,geB,AOp.cls,AOp.xs,ltB,ltC,Nat.reduceBEq,Option.toList,List.cons_append,decide_eq_true,decide_eq_false,if_pos,if_neg,List.length_map,zO,bVb,bVn,eq_self,Bool.and_self,BEq.rfl,not_true_eq_false,List.cons_append];(first|(with_reducible first|(refine hK _ ?_;clear hK K)|(refine hK ?_;clear hK hK3 K hK2)|(refine hK3 ?_;clear hK hK3 K hK2))|((with_reducible refine hR _ ?_ ?_ ?_ ?_);rotate_left 2;rfl;rfl)|((with_reducible refine hR _ ?_);rfl))))
  ·obtain ⟨h2, h3⟩ := hfl hc0
   have h1:=ho.k h2
   have hc:¬ cB key (m[c - 1]).1 < 0:=by
    have:=(hidx (c - 1) h2).2 (by omega)
    rw [Z4 (m[c - 1]).1 key];omega
   rw [h3]
   simp only [oP,Option.getD_some,Option.isSome_some]
   obtain ⟨w,hw⟩:∃ w,c=w+1:=⟨c - 1,by omega⟩
   subst hw
   have e4:((w+1:Nat):Int) - 1=(w:Int):=by omega
   rw [e4] at h7
   simp only [Nat.add_sub_cancel] at *
   clear e1 e4 hfl hfn hidx
   simp only [mix,z9,Za,Zc,Nat.reduceEqDiff,Nat.reduceLeDiff,reduceCtorEq,if_true,if_false,reduceIte,Nat.reduceAdd,h7]
   repeat (first|(with_reducible first|refine zJ ?_|refine zI ?_|refine zZ ?_|refine Ze ?_|refine zk ?_|refine zh ?_|refine y8 ?_|refine Zl ?_|refine ZC ?_)|((with_reducible refine kps 46 ?_ ?_ ?_ ?_);rotate_left 1;rfl;exact (by refine Xc G _ _ ?_ ?_<;>assumption))|((with_reducible first|refine ks fun K hK=>?_|refine kd fun K hK=>?_|refine kc fun K hK2 hK hK3=>?_|refine Zr fun K hR=>?_|refine Zj rfl fun K hR=>?_|refine Zi fun K hR=>?_);simp (disch:=omega) only [bg0,bg1,bg2,bg3,bg4,zr,zS,eff,AX.ev,St.put,zQ,zP,ap1,zg,Int.reduceTMod,Int.reduceTDiv,reduceCtorEq,zt,AV.cells,AV.fine,AV.one,Nat.reduceAdd,Nat.reduceSub,Nat.reduceMul,Nat.reduceLT,Nat.reduceLeDiff,Int.reduceLT,Int.reduceLE,Int.reduceAdd,Int.reduceSub,Int.reduceNeg,Int.reduceMul,Int.reduceEq,Int.reduceToNat,zW,zp,live,zo,rdA,ze,wrA,zH,zq,zV,zR,zT,zi,zb,zm,zj,zd,cut,id,ap2,reduceIte,zu,zY,geB,AOp.cls,AOp.xs,ltB,ltC,Nat.reduceBEq,Option.toList,List.cons_append,decide_eq_true,decide_eq_false,if_pos,if_neg,List.length_map,zO,bVb,bVn,eq_self,Bool.and_self,BEq.rfl,not_true_eq_false,List.cons_append,hc];(first|(with_reducible first|(refine hK _ ?_;clear hK K)|(refine hK ?_;clear hK hK3 K hK2)|(refine hK3 ?_;clear hK hK3 K hK2))|((with_reducible refine hR _ ?_ ?_ ?_ ?_);rotate_left 2;rfl;rfl)|((with_reducible refine hR _ ?_);rfl))))
end Go.Proofs.YtgpldekhcojimaaDoor.Sim.Pr7
