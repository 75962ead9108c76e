/- Texts of this claim, part 9. -/
import Derived.Test.YtgpldekhcojimaaDoorMModelSteps8
set_option linter.unusedVariables false
set_option linter.unusedSimpArgs false
namespace Go.Proofs.YtgpldekhcojimaaDoor.Sim
open Go.RowKit
set_option maxRecDepth 100000
open Pr7
section
variable (k s t h b:Int) (l:List Pr) (H:List Hd) (o:Int) (x y z:ByteArray) (i:Int) (e:Int) (q:Bool) (u v:ByteArray) (n:Int)
set_option maxHeartbeats 4000000 in
theorem rs21_has (r : An) (he : e = r.e ∧ q = r.h ∧ u = r.k ∧ v = r.v ∧ n = r.n) (ho : ¬ o = 7 ∧ ¬ o = 13) (hf : 2 ≤ o ∧ o ≤ 5 → ¬ e = 7) (c31 : PC Tryd.prog zw 31 [cA k s t h b, xA o x y z i] (Bo true)) (c11 : PC Tryd.prog zw 11 [cA k s t h b, sA l H, xA o x y z i] (.tup [r.A, Bo true])) (L : List Pr) (K : List Hd)
  (c42:PC Tryd.prog zw 42 [sA l H,xA o x y z i] (sA L K)):PC Tryd.prog zw 21 [cA k s t h b,sA l H,xA o x y z i,aA e q u v n] (.tup [sA L K,Bo true]):=by
 obtain ⟨rfl,rfl,rfl,rfl,rfl⟩:=he
 obtain ⟨e,q,u,v,n⟩:=r
 dsimp only [An.A] at *
 obtain ⟨o7,o13⟩:=ho
 have he:n=n∧v=v∧u=u∧q=q∧e=e∧True:=⟨rfl,rfl,rfl,rfl,rfl,trivial⟩
 by_cases h2:2≤o
 ·by_cases h5 : o ≤ 5
  ·have e7 := hf ⟨h2, h5⟩
   clear hf
   refine zf ZL ?_
   repeat' ((conv=>whnf);first|(refine SeqP.go ?_)|((refine ObD.mk ?_ ?_);exact zD)|((refine ObN.mk ?_ ?_);exact zN)|(with_reducible first|refine ObT.tt ?_|refine ObT.ff ?_)|((refine ObB.yes ?_ ?_);exact zB)|((refine ObB.no ?_ ?_);exact zC)|((with_reducible refine (?_:ObU _ _));(refine ObU.mk _ zU ?_))|((with_reducible refine (?_:ObR _ _ _));(first|(refine ObR.mk _ zA ?_)|(refine ObR.map zX (fun x hx=>?_))|(refine ObR.mk _ rfl ?_)))|((refine ObC.f 31 ?_);(refine ObC.mk _ (c31) ?_))|((refine ObC.f 11 ?_);(refine ObC.mk _ (c11) ?_))|((refine ObC.f 42 ?_);(refine ObC.mk _ (c42) ?_))|((refine ObEq.mk ?_);exact zE))
  ·clear hf
   refine zf ZL ?_
   repeat' ((conv=>whnf);first|(refine SeqP.go ?_)|((refine ObD.mk ?_ ?_);exact zD)|((refine ObN.mk ?_ ?_);exact zN)|(with_reducible first|refine ObT.tt ?_|refine ObT.ff ?_)|((refine ObB.yes ?_ ?_);exact zB)|((refine ObB.no ?_ ?_);exact zC)|((with_reducible refine (?_:ObU _ _));(refine ObU.mk _ zU ?_))|((with_reducible refine (?_:ObR _ _ _));(first|(refine ObR.mk _ zA ?_)|(refine ObR.map zX (fun x hx=>?_))|(refine ObR.mk _ rfl ?_)))|((refine ObC.f 31 ?_);(refine ObC.mk _ (c31) ?_))|((refine ObC.f 11 ?_);(refine ObC.mk _ (c11) ?_))|((refine ObC.f 42 ?_);(refine ObC.mk _ (c42) ?_))|((refine ObEq.mk ?_);exact zE))
 ·clear hf
  refine zf ZL ?_
  repeat' ((conv=>whnf);first|(refine SeqP.go ?_)|((refine ObD.mk ?_ ?_);exact zD)|((refine ObN.mk ?_ ?_);exact zN)|(with_reducible first|refine ObT.tt ?_|refine ObT.ff ?_)|((refine ObB.yes ?_ ?_);exact zB)|((refine ObB.no ?_ ?_);exact zC)|((with_reducible refine (?_:ObU _ _));(refine ObU.mk _ zU ?_))|((with_reducible refine (?_:ObR _ _ _));(first|(refine ObR.mk _ zA ?_)|(refine ObR.map zX (fun x hx=>?_))|(refine ObR.mk _ rfl ?_)))|((refine ObC.f 31 ?_);(refine ObC.mk _ (c31) ?_))|((refine ObC.f 11 ?_);(refine ObC.mk _ (c11) ?_))|((refine ObC.f 42 ?_);(refine ObC.mk _ (c42) ?_))|((refine ObEq.mk ?_);exact zE))
set_option maxHeartbeats 4000000 in
theorem rs21_neq (r : An) (he : ¬ (e = r.e ∧ q = r.h ∧ u = r.k ∧ v = r.v ∧ n = r.n)) (ho : ¬ o = 7 ∧ ¬ o = 13) (hf : 2 ≤ o ∧ o ≤ 5 → ¬ e = 7) (c31 : PC Tryd.prog zw 31 [cA k s t h b, xA o x y z i] (Bo true)) (c11 : PC Tryd.prog zw 11 [cA k s t h b, sA l H, xA o x y z i] (.tup [r.A, Bo true])) :
  PC Tryd.prog zw 21 [cA k s t h b,sA l H,xA o x y z i,aA e q u v n] (.tup [sA l H,Bo false]):=by
 obtain ⟨e',q',u',v',n'⟩:=r
 dsimp only [An.A] at *
 obtain ⟨o7,o13⟩:=ho
 have he':¬ (n=n'∧v=v'∧u=u'∧q=q'∧e=e'∧True):=fun ⟨a,b,c,d,e,_⟩=>he ⟨e,d,c,b,a⟩
 clear he
 by_cases h2:2≤o
 ·by_cases h5 : o ≤ 5
  ·have e7 := hf ⟨h2, h5⟩
   clear hf
   refine zf ZL ?_
   repeat' ((conv=>whnf);first|(refine SeqP.go ?_)|((refine ObD.mk ?_ ?_);exact zD)|((refine ObN.mk ?_ ?_);exact zN)|(with_reducible first|refine ObT.tt ?_|refine ObT.ff ?_)|((refine ObB.yes ?_ ?_);exact zB)|((refine ObB.no ?_ ?_);exact zC)|((with_reducible refine (?_:ObU _ _));(refine ObU.mk _ zU ?_))|((with_reducible refine (?_:ObR _ _ _));(first|(refine ObR.mk _ zA ?_)|(refine ObR.map zX (fun x hx=>?_))|(refine ObR.mk _ rfl ?_)))|((refine ObC.f 31 ?_);(refine ObC.mk _ (c31) ?_))|((refine ObC.f 11 ?_);(refine ObC.mk _ (c11) ?_))|((refine ObEq.mk ?_);exact zE))
  ·clear hf
   refine zf ZL ?_
   repeat' ((conv=>whnf);first|(refine SeqP.go ?_)|((refine ObD.mk ?_ ?_);exact zD)|((refine ObN.mk ?_ ?_);exact zN)|(with_reducible first|refine ObT.tt ?_|refine ObT.ff ?_)|((refine ObB.yes ?_ ?_);exact zB)|((refine ObB.no ?_ ?_);exact zC)|((with_reducible refine (?_:ObU _ _));(refine ObU.mk _ zU ?_))|((with_reducible refine (?_:ObR _ _ _));(first|(refine ObR.mk _ zA ?_)|(refine ObR.map zX (fun x hx=>?_))|(refine ObR.mk _ rfl ?_)))|((refine ObC.f 31 ?_);(refine ObC.mk _ (c31) ?_))|((refine ObC.f 11 ?_);(refine ObC.mk _ (c11) ?_))|((refine ObEq.mk ?_);exact zE))
 ·clear hf
  refine zf ZL ?_
  repeat' ((conv=>whnf);first|(refine SeqP.go ?_)|((refine ObD.mk ?_ ?_);exact zD)|((refine ObN.mk ?_ ?_);exact zN)|(with_reducible first|refine ObT.tt ?_|refine ObT.ff ?_)|((refine ObB.no ?_ ?_);exact zC)|((with_reducible refine (?_:ObU _ _));(refine ObU.mk _ zU ?_))|((with_reducible refine (?_:ObR _ _ _));(first|(refine ObR.mk _ zA ?_)|(refine ObR.map zX (fun x hx=>?_))|(refine ObR.mk _ rfl ?_)))|((refine ObC.f 31 ?_);(refine ObC.mk _ (c31) ?_))|((refine ObC.f 11 ?_);(refine ObC.mk _ (c11) ?_))|((refine ObEq.mk ?_);exact zE))
set_option maxHeartbeats 4000000 in
theorem rs21_bad (r : An) (hb : ¬ (e = 0 ∧ q = false ∧ u = ⟨#[]⟩ ∧ v = ⟨#[]⟩ ∧ 0 ≤ n)) (ho : o = 13 ∨ o = 7 ∧ ¬ e = 7) (c31 : PC Tryd.prog zw 31 [cA k s t h b, xA o x y z i] (Bo true)) (c11 : PC Tryd.prog zw 11 [cA k s t h b, sA l H, xA o x y z i] (.tup [r.A, Bo false])) :
  PC Tryd.prog zw 21 [cA k s t h b,sA l H,xA o x y z i,aA e q u v n] (.tup [sA l H,Bo false]):=by
 obtain ⟨e',q',u',v',n'⟩:=r
 dsimp only [An.A] at *
 by_cases e0:e=0
 ·cases q
  ·by_cases hu : u = ⟨#[]⟩
   ·by_cases hv : v = ⟨#[]⟩
    ·have hn : n < 0 := by
      rcases Int.lt_or_le n 0 with hj|hj
      ·exact hj
      ·exact absurd ⟨e0,rfl,hu,hv,hj⟩ hb
     clear hb
     rcases ho with rfl|⟨rfl,e7⟩
     ·refine zf ZL ?_
      repeat' ((conv=>whnf);first|(refine SeqP.go ?_)|((refine ObD.mk ?_ ?_);exact zD)|((refine ObN.mk ?_ ?_);exact zN)|(with_reducible first|refine ObT.tt ?_|refine ObT.ff ?_)|((refine ObB.yes ?_ ?_);exact zB)|((refine ObB.no ?_ ?_);exact zC)|((with_reducible refine (?_:ObU _ _));(refine ObU.mk _ zU ?_))|((with_reducible refine (?_:ObR _ _ _));(first|(refine ObR.mk _ zA ?_)|(refine ObR.map zX (fun x hx=>?_))|(refine ObR.mk _ rfl ?_)))|((refine ObC.f 31 ?_);(refine ObC.mk _ (c31) ?_))|((refine ObC.f 11 ?_);(refine ObC.mk _ (c11) ?_))|((refine ObEq.mk ?_);exact zE))
     ·refine zf ZL ?_
      repeat' ((conv=>whnf);first|(refine SeqP.go ?_)|((refine ObD.mk ?_ ?_);exact zD)|((refine ObN.mk ?_ ?_);exact zN)|(with_reducible first|refine ObT.tt ?_|refine ObT.ff ?_)|((refine ObB.yes ?_ ?_);exact zB)|((refine ObB.no ?_ ?_);exact zC)|((with_reducible refine (?_:ObU _ _));(refine ObU.mk _ zU ?_))|((with_reducible refine (?_:ObR _ _ _));(first|(refine ObR.mk _ zA ?_)|(refine ObR.map zX (fun x hx=>?_))|(refine ObR.mk _ rfl ?_)))|((refine ObC.f 31 ?_);(refine ObC.mk _ (c31) ?_))|((refine ObC.f 11 ?_);(refine ObC.mk _ (c11) ?_))|((refine ObEq.mk ?_);exact zE))
    ·clear hb
     rcases ho with rfl|⟨rfl,e7⟩
     ·refine zf ZL ?_
      repeat' ((conv=>whnf);first|(refine SeqP.go ?_)|((refine ObD.mk ?_ ?_);exact zD)|((refine ObN.mk ?_ ?_);exact zN)|(with_reducible first|refine ObT.tt ?_|refine ObT.ff ?_)|((refine ObB.yes ?_ ?_);exact zB)|((refine ObB.no ?_ ?_);exact zC)|((with_reducible refine (?_:ObU _ _));(refine ObU.mk _ zU ?_))|((with_reducible refine (?_:ObR _ _ _));(first|(refine ObR.mk _ zA ?_)|(refine ObR.map zX (fun x hx=>?_))|(refine ObR.mk _ rfl ?_)))|((refine ObC.f 31 ?_);(refine ObC.mk _ (c31) ?_))|((refine ObC.f 11 ?_);(refine ObC.mk _ (c11) ?_))|((refine ObEq.mk ?_);exact zE))
     ·refine zf ZL ?_
      repeat' ((conv=>whnf);first|(refine SeqP.go ?_)|((refine ObD.mk ?_ ?_);exact zD)|((refine ObN.mk ?_ ?_);exact zN)|(with_reducible first|refine ObT.tt ?_|refine ObT.ff ?_)|((refine ObB.yes ?_ ?_);exact zB)|((refine ObB.no ?_ ?_);exact zC)|((with_reducible refine (?_:ObU _ _));(refine ObU.mk _ zU ?_))|((with_reducible refine (?_:ObR _ _ _));(first|(refine ObR.mk _ zA ?_)|(refine ObR.map zX (fun x hx=>?_))|(refine ObR.mk _ rfl ?_)))|((refine ObC.f 31 ?_);(refine ObC.mk _ (c31) ?_))|((refine ObC.f 11 ?_);(refine ObC.mk _ (c11) ?_))|((refine ObEq.mk ?_);exact zE))
   ·clear hb
    rcases ho with rfl|⟨rfl,e7⟩
    ·refine zf ZL ?_
     repeat' ((conv=>whnf);first|(refine SeqP.go ?_)|((refine ObD.mk ?_ ?_);exact zD)|((refine ObN.mk ?_ ?_);exact zN)|(with_reducible first|refine ObT.tt ?_|refine ObT.ff ?_)|((refine ObB.yes ?_ ?_);exact zB)|((refine ObB.no ?_ ?_);exact zC)|((with_reducible refine (?_:ObU _ _));(refine ObU.mk _ zU ?_))|((with_reducible refine (?_:ObR _ _ _));(first|(refine ObR.mk _ zA ?_)|(refine ObR.map zX (fun x hx=>?_))|(refine ObR.mk _ rfl ?_)))|((refine ObC.f 31 ?_);(refine ObC.mk _ (c31) ?_))|((refine ObC.f 11 ?_);(refine ObC.mk _ (c11) ?_))|((refine ObEq.mk ?_);exact zE))
    ·refine zf ZL ?_
     repeat' ((conv=>whnf);first|(refine SeqP.go ?_)|((refine ObD.mk ?_ ?_);exact zD)|((refine ObN.mk ?_ ?_);exact zN)|(with_reducible first|refine ObT.tt ?_|refine ObT.ff ?_)|((refine ObB.yes ?_ ?_);exact zB)|((refine ObB.no ?_ ?_);exact zC)|((with_reducible refine (?_:ObU _ _));(refine ObU.mk _ zU ?_))|((with_reducible refine (?_:ObR _ _ _));(first|(refine ObR.mk _ zA ?_)|(refine ObR.map zX (fun x hx=>?_))|(refine ObR.mk _ rfl ?_)))|((refine ObC.f 31 ?_);(refine ObC.mk _ (c31) ?_))|((refine ObC.f 11 ?_);(refine ObC.mk _ (c11) ?_))|((refine ObEq.mk ?_);exact zE))
  ·clear hb
   rcases ho with rfl|⟨rfl,e7⟩
   ·refine zf ZL ?_
    repeat' ((conv=>whnf);first|(refine SeqP.go ?_)|((refine ObD.mk ?_ ?_);exact zD)|((refine ObN.mk ?_ ?_);exact zN)|(with_reducible first|refine ObT.tt ?_|refine ObT.ff ?_)|((refine ObB.yes ?_ ?_);exact zB)|((refine ObB.no ?_ ?_);exact zC)|((with_reducible refine (?_:ObU _ _));(refine ObU.mk _ zU ?_))|((with_reducible refine (?_:ObR _ _ _));(first|(refine ObR.mk _ zA ?_)|(refine ObR.map zX (fun x hx=>?_))|(refine ObR.mk _ rfl ?_)))|((refine ObC.f 31 ?_);(refine ObC.mk _ (c31) ?_))|((refine ObC.f 11 ?_);(refine ObC.mk _ (c11) ?_))|((refine ObEq.mk ?_);exact zE))
   ·refine zf ZL ?_
    repeat' ((conv=>whnf);first|(refine SeqP.go ?_)|((refine ObD.mk ?_ ?_);exact zD)|((refine ObN.mk ?_ ?_);exact zN)|(with_reducible first|refine ObT.tt ?_|refine ObT.ff ?_)|((refine ObB.yes ?_ ?_);exact zB)|((refine ObB.no ?_ ?_);exact zC)|((with_reducible refine (?_:ObU _ _));(refine ObU.mk _ zU ?_))|((with_reducible refine (?_:ObR _ _ _));(first|(refine ObR.mk _ zA ?_)|(refine ObR.map zX (fun x hx=>?_))|(refine ObR.mk _ rfl ?_)))|((refine ObC.f 31 ?_);(refine ObC.mk _ (c31) ?_))|((refine ObC.f 11 ?_);(refine ObC.mk _ (c11) ?_))|((refine ObEq.mk ?_);exact zE))
 ·clear hb
  rcases ho with rfl|⟨rfl,e7⟩
  ·refine zf ZL ?_
   repeat' ((conv=>whnf);first|(refine SeqP.go ?_)|((refine ObD.mk ?_ ?_);exact zD)|((refine ObN.mk ?_ ?_);exact zN)|(with_reducible first|refine ObT.tt ?_|refine ObT.ff ?_)|((refine ObB.yes ?_ ?_);exact zB)|((refine ObB.no ?_ ?_);exact zC)|((with_reducible refine (?_:ObU _ _));(refine ObU.mk _ zU ?_))|((with_reducible refine (?_:ObR _ _ _));(first|(refine ObR.mk _ zA ?_)|(refine ObR.map zX (fun x hx=>?_))|(refine ObR.mk _ rfl ?_)))|((refine ObC.f 31 ?_);(refine ObC.mk _ (c31) ?_))|((refine ObC.f 11 ?_);(refine ObC.mk _ (c11) ?_))|((refine ObEq.mk ?_);exact zE))
  ·refine zf ZL ?_
   repeat' ((conv=>whnf);first|(refine SeqP.go ?_)|((refine ObD.mk ?_ ?_);exact zD)|((refine ObN.mk ?_ ?_);exact zN)|(with_reducible first|refine ObT.tt ?_|refine ObT.ff ?_)|((refine ObB.yes ?_ ?_);exact zB)|((refine ObB.no ?_ ?_);exact zC)|((with_reducible refine (?_:ObU _ _));(refine ObU.mk _ zU ?_))|((with_reducible refine (?_:ObR _ _ _));(first|(refine ObR.mk _ zA ?_)|(refine ObR.map zX (fun x hx=>?_))|(refine ObR.mk _ rfl ?_)))|((refine ObC.f 31 ?_);(refine ObC.mk _ (c31) ?_))|((refine ObC.f 11 ?_);(refine ObC.mk _ (c11) ?_))|((refine ObEq.mk ?_);exact zE))
set_option maxHeartbeats 4000000 in
theorem rs21_13 (r : An) (hn : 0 ≤ n) (c31 : PC Tryd.prog zw 31 [cA k s t h b, xA 13 x y z i] (Bo true)) (c11 : PC Tryd.prog zw 11 [cA k s t h b, sA l H, xA 13 x y z i] (.tup [r.A, Bo false])) :
  PC Tryd.prog zw 21 [cA k s t h b,sA l H,xA 13 x y z i,aA 0 false ⟨#[]⟩ ⟨#[]⟩ n] (.tup [sA l H,Bo true]):=by
 obtain ⟨e',q',u',v',n'⟩:=r
 dsimp only [An.A] at *
 refine zf ZL ?_
 repeat' ((conv=>whnf);first|(refine SeqP.go ?_)|((refine ObD.mk ?_ ?_);exact zD)|((refine ObN.mk ?_ ?_);exact zN)|(with_reducible first|refine ObT.tt ?_|refine ObT.ff ?_)|((refine ObB.yes ?_ ?_);exact zB)|((refine ObB.no ?_ ?_);exact zC)|((with_reducible refine (?_:ObU _ _));(refine ObU.mk _ zU ?_))|((with_reducible refine (?_:ObR _ _ _));(first|(refine ObR.mk _ zA ?_)|(refine ObR.map zX (fun x hx=>?_))|(refine ObR.mk _ rfl ?_)))|((refine ObC.f 31 ?_);(refine ObC.mk _ (c31) ?_))|((refine ObC.f 11 ?_);(refine ObC.mk _ (c11) ?_))|((refine ObEq.mk ?_);exact zE))
set_option maxHeartbeats 4000000 in
theorem rs21_at (r : An) (hn : 0 ≤ n) (c31 : PC Tryd.prog zw 31 [cA k s t h b, xA 7 x y z i] (Bo true)) (c11 : PC Tryd.prog zw 11 [cA k s t h b, sA l H, xA 7 x y z i] (.tup [r.A, Bo false])) (L : List Pr) (c23 : PC Tryd.prog zw 23 [sA l H, I n] (.tup [.sl 2 (L.map pA), Bo true])) :
  PC Tryd.prog zw 21 [cA k s t h b,sA l H,xA 7 x y z i,aA 0 false ⟨#[]⟩ ⟨#[]⟩ n] (.tup [sA l H,Bo false]):=by
 obtain ⟨e',q',u',v',n'⟩:=r
 dsimp only [An.A] at *
 refine zf ZL ?_
 repeat' ((conv=>whnf);first|(refine SeqP.go ?_)|((refine ObD.mk ?_ ?_);exact zD)|((refine ObN.mk ?_ ?_);exact zN)|(with_reducible first|refine ObT.tt ?_|refine ObT.ff ?_)|((refine ObB.yes ?_ ?_);exact zB)|((refine ObB.no ?_ ?_);exact zC)|((with_reducible refine (?_:ObU _ _));(refine ObU.mk _ zU ?_))|((with_reducible refine (?_:ObR _ _ _));(first|(refine ObR.mk _ zA ?_)|(refine ObR.map zX (fun x hx=>?_))|(refine ObR.mk _ rfl ?_)))|((refine ObC.f 31 ?_);(refine ObC.mk _ (c31) ?_))|((refine ObC.f 11 ?_);(refine ObC.mk _ (c11) ?_))|((refine ObC.f 23 ?_);(refine ObC.mk _ (c23) ?_))|((refine ObEq.mk ?_);exact zE))
set_option maxHeartbeats 4000000 in
theorem rs21_new (r : An) (hH : H.length ≤ 1000000) (hn : 0 ≤ n) (c31 : PC Tryd.prog zw 31 [cA k s t h b, xA 7 x y z i] (Bo true)) (c11 : PC Tryd.prog zw 11 [cA k s t h b, sA l H, xA 7 x y z i] (.tup [r.A, Bo false])) (L : List Pr) (c23 : PC Tryd.prog zw 23 [sA l H, I n] (.tup [.sl 2 (L.map pA), Bo false])) (c35 : PC Tryd.prog zw 35 [.sl 2 (l.map pA)] (.sl 2 ((mk l).map pA))) :
  PC Tryd.prog zw 21 [cA k s t h b,sA l H,xA 7 x y z i,aA 0 false ⟨#[]⟩ ⟨#[]⟩ n] (.tup [sA l (H++[(n,mk l)]),Bo true]):=by
 obtain ⟨e',q',u',v',n'⟩:=r
 dsimp only [An.A] at *
 have hml:(H.map hA).length=H.length:=List.length_map _
 have ta:(H.map hA).take H.length++[.agg [I n,.sl 2 ((mk l).map pA)]]=(H++[(n,mk l)]).map hA:=by
  rw [List.take_of_length_le (by simp)];simp [hA]
 have tq:((H++[(n,mk l)]).map hA).take (H.length+[AV.agg [I n,AV.sl 2 ((mk l).map pA)]].length)=(H++[(n,mk l)]).map hA:=List.take_of_length_le (by simp)
 have ip2:=p_h (H++[(n,mk l)])
 have ip:(((H++[(n,mk l)]).map hA).take (H.length+[AV.agg [I n,AV.sl 2 ((mk l).map pA)]].length)).all AV.isP=true:=by rw [tq];exact ip2
 have tz:List.take (0+(H.map hA).length) (H.map hA)++[.agg [I n,.sl 2 ((mk l).map pA)]]=(H++[(n,mk l)]).map hA:=by
  rw [Nat.zero_add,hml,ta]
 have tw:List.take (0+(H.map hA).length+[AV.agg [I n,AV.sl 2 ((mk l).map pA)]].length) ((H++[(n,mk l)]).map hA)=(H++[(n,mk l)]).map hA:=by
  rw [Nat.zero_add,hml,tq]
 have iw:(List.take (0+(H.map hA).length+[AV.agg [I n,AV.sl 2 ((mk l).map pA)]].length) ((H++[(n,mk l)]).map hA)).all AV.isP=true:=by rw [tw];exact ip2
 have fin:(AV.tup [.agg [.sl 2 (l.map pA),.sl 2 (List.take (0+(H.map hA).length+[AV.agg [I n,AV.sl 2 ((mk l).map pA)]].length) ((H++[(n,mk l)]).map hA))],Bo true]) = .tup [sA l (H++[(n,mk l)]),Bo true]:=by rw [tw]
 refine zf ZL ?_
 repeat' ((conv=>whnf);first|(refine SeqP.go ?_)|((refine ObD.mk ?_ ?_);exact zD)|((refine ObN.mk ?_ ?_);(focus (first|exact iw|exact ip|exact ip2|rfl|assumption|omega|(simp only [List.length_map,List.length_append,List.length_cons,List.length_nil];omega)|(simp;done)|(simp;omega))))|(with_reducible first|refine ObT.tt ?_|refine ObT.ff ?_)|((refine ObB.yes ?_ ?_);exact zB)|((refine ObB.no ?_ ?_);exact zC)|((with_reducible refine (?_:ObL _ _));(refine ObL.mk _ zq10 ?_))|((with_reducible refine (?_:ObU _ _));(refine ObU.mk _ (by first|exact tz|exact ta|exact tq|assumption|((conv=>lhs;simp only [List.set_cons_zero,List.set_cons_succ,List.take_succ_cons,List.take_zero,List.drop_succ_cons,List.drop_zero,List.nil_append,List.cons_append,List.append_nil,List.take_nil,List.drop_nil]);try rfl)|rfl) ?_))|((with_reducible refine (?_:ObR _ _ _));(first|(refine ObR.mk _ zA ?_)|(refine ObR.map zX (fun x hx=>?_))|(refine ObR.mk _ rfl ?_)))|((refine ObC.f 31 ?_);(refine ObC.mk _ (c31) ?_))|((refine ObC.f 11 ?_);(refine ObC.mk _ (c11) ?_))|((refine ObC.f 23 ?_);(refine ObC.mk _ (c23) ?_))|((refine ObC.f 35 ?_);(refine ObC.mk _ (c35) ?_))|((refine ObEq.mk ?_);(focus (first|rfl|assumption|exact fin))))
end
end Go.Proofs.YtgpldekhcojimaaDoor.Sim
namespace Go.Proofs.YtgpldekhcojimaaDoor.Sim
open Go.RowKit
set_option maxRecDepth 100000
open Pr7
theorem an_2 {k b:Int} {l:List Pr} {H:List Hd} {o:Int} {x:ByteArray} {i:Int}:(an k b l H o x i).2=decide (¬ (o=7∨o=13)):=by
 unfold an
 by_cases h:o=7∨o=13
 ·rw [if_pos h,decide_eq_false (fun e=>e h)]
 ·rw [if_neg h, decide_eq_true h]
  (repeat' split)<;>rfl
theorem an_e {k b:Int} {l:List Pr} {H:List Hd} {o:Int} {x:ByteArray} {i:Int} (h:2≤o∧o≤5):(an k b l H o x i).1.e=0:=by
 unfold an
 rw [if_neg (by omega),if_pos h.2]
 rfl
theorem atV_hix {H:List Hd} {n:Int}:(hix H n < 0↔(atV H n).2=false):=by
 unfold hix atV
 cases fx H n with
 | none=>simp
 | some j=>simp
theorem hix_neg {H:List Hd} {n:Int} (h:hix H n < 0):hix H n = -1:=by
 unfold hix at *
 cases hq:fx H n with
 | none=>rfl
 | some j=>rw [hq] at h;simp at h;omega
theorem Z3 (H:List Hd):sH H H:=rfl
theorem ans_inv {cs:List AV} (h:ShC Tryd.prog 34 cs):∃ (e:Int) (q:Bool) (u v:ByteArray) (n:Int),mkE true cs=aA e q u v n∧i64 e∧i64 n∧u.size≤9223372036854775807∧v.size≤9223372036854775807:=by
 obtain ⟨p0,q,rfl,hp0,h⟩:=(h.flds (ts:=[32,4,9,9,3]) (by kernel_rfl)).cons
 obtain ⟨p1,q,rfl,hp1,h⟩:=h.cons
 obtain ⟨p2,q,rfl,hp2,h⟩:=h.cons
 obtain ⟨p3,q,rfl,hp3,h⟩:=h.cons
 obtain ⟨p4,q,rfl,hp4,h⟩:=h.cons
 obtain rfl:=h.nil
 obtain ⟨e,rfl,h0⟩:=hp0.i64_inv (by kernel_rfl)
 obtain ⟨b,rfl⟩:=hp1.bool_inv (by kernel_rfl)
 obtain ⟨u,rfl,h2⟩:=Y0 hp2
 obtain ⟨v,rfl,h3⟩:=Y0 hp3
 obtain ⟨n,rfl,h4⟩:=int_inv hp4
 exact ⟨e,b,u,v,n,rfl,h0,h4,h2,h3⟩
section
variable (k s t h b:Int) (hk:i64 k) (hs:i64 s) (ht:i64 t) (hh:i64 h) (hb:i64 b) (l:List Pr) (H:List Hd) (ok:Cu l H) (o:Int) (x y z:ByteArray) (i:Int) (ho:i64 o) (hi:i64 i) (hx:x.size≤40) (hy:y.size≤40) (hz:z.size≤40) (e:Int) (q:Bool) (u v:ByteArray) (n:Int)
include hk hs ht hh hb ok ho hi hx hy hz
theorem both_step : ∃ (L : List Pr) (K : List Hd) (M : List Pr) (N : List Hd) (f : Bool), ((L.length ≤ 1000 ∧ Okl L) ∧ (K.length ≤ 1000 ∧ ∀ x ∈ K, x.2.length ≤ 1000 ∧ Okl x.2)) ∧ ((M.length ≤ 1000 ∧ Okl M) ∧ (N.length ≤ 1000 ∧ ∀ x ∈ N, x.2.length ≤ 1000 ∧ Okl x.2)) ∧ (mk L = mk M ∧ sH K N) ∧
  PC Tryd.prog zw 20 [cA k s t h b,sA l H,xA o x y z i,aA e q u v n] (.tup [sA L K,Bo f])∧PC Tryd.prog zw 21 [cA k s t h b,sA l H,xA o x y z i,aA e q u v n] (.tup [sA M N,Bo f]):=by
 have hf:=Wa k s t h b o x y z i hk hs ht hh hb ho hi (by omega) (by omega) (by omega) _ rfl
 have hr:=rfits31 zw k s t h b o x y z i hk hs ht hh hb (by omega) (by omega) (by omega) _ rfl
 have c36:=cl36 l H ok
 have hC:=ok.r
 cases hq:fOk k s t h b o x y z i with
 | false =>
  rw [hq] at hf hr
  exact ⟨l,H,l,H,false,hC,hC,⟨rfl,Z3 H⟩,st20_no k s t h b l H o x y z i e q u v n hf c36,rs21_no k s t h b l H o x y z i e q u v n hr⟩
 | true =>
  rw [hq] at hf hr
  have ho':=fOk_o hq
  have hH:H.length≤1000000:=by have:=ok.h0;omega
  have hl:∀ x ∈ H,x.2.length≤40∧Okl x.2∧∀ p ∈ mk x.2,p.1.size≤100000:=fun x hx=>⟨(ok.h1 x hx).1,(ok.h1 x hx).2,fun p hp=>by have:=ok.sz hx (w3 hp);omega⟩
  have c9:=ans9 k s t h b l H o x y z i hx hf ho' ⟨ok.l0,ok.l1⟩ (fun h1 h2=>by
   by_cases e:o=11
   ·exact held11 k s t h b hb l H o x y z i hx e hH hl
   ·exact held29 k s t h b hb l H o x y z i hx ⟨h1,h2⟩ e hH hl) _ rfl
  have c11:=rans zw k s t h b hb l H o x y z i hx hr ho' ⟨ok.l0,ok.l1⟩ hH (at_mem (P:=fun l=>l.length≤40∧Okl l∧∀ p ∈ mk l,p.1.size≤100000) ⟨by simp,⟨by simp,fun p hp=>by simp at hp⟩,fun p hp=>by simp [xB List.Pairwise.nil] at hp⟩ hl) _ rfl
  have c12:=after_eq k s t h b l H ok o x y z i hx hf _ rfl
  have c42:=rafter42 l H ok o x y z i hx hy zw
  have hA:=aft_cases l H o x y z i
  have bA:=aft_r l H ok o x y z i hx hy
  have a2:=an_2 (k:=k) (b:=b) (l:=l) (H:=H) (o:=o) (x:=x) (i:=i)
  have ae:=an_e (k:=k) (b:=b) (l:=l) (H:=H) (o:=o) (x:=x) (i:=i)
  by_cases h7:o=7∨o=13
  ·rw [decide_eq_false (fun e=>e h7)] at a2
   rw [a2] at c9 c11
   generalize (an k b l H o x i).1=r at *
   rcases h7 with rfl|rfl
   ·-- a snapshot
    have c40:=xJ zw l H hH n
    have c23:=at23 zw l H hH n
    have hx0:=atV_hix (H:=H) (n:=n)
    have c48:=hM zw l ok.l0 ok.l1
    have c35:=yy zw l ok.l1
    have hjm0:hix H n < 0→hix H n = -1:=hix_neg
    generalize hix H n=j at *
    have hjm:j < 0→j = -1:=hjm0
    obtain ⟨⟨L0,b0⟩,hat⟩:∃ p,p=atV H n:=⟨_,rfl⟩
    rw [← hat] at c23 hx0
    dsimp only at c23 hx0
    by_cases hg:0≤n∧e=0∧q=false∧u=⟨#[]⟩∧v=⟨#[]⟩
    ·by_cases hj : j < 0
     ·have hb0 := hx0.1 hj
      rw [hb0] at c23
      obtain ⟨h0,rfl,rfl,rfl,rfl⟩:=hg
      have d21:=rs21_new k s t h b l H x y z i n r hH h0 hr c11 L0 c23 c35
      have bd:(H++[(n,mk l)]).length≤1000∧∀ x ∈ H++[(n,mk l)],x.2.length≤1000∧Okl x.2:=by
       have:=ok.h0
       refine ⟨by simp;omega,fun w hw=>?_⟩
       rcases List.mem_append.1 hw with hw|hw
       ·exact hC.2.2 w hw
       ·obtain rfl := List.mem_singleton.1 hw
        have:=Z5 l
        have:=ok.l0
        exact ⟨by dsimp only;omega,Ym ok.l1⟩
      refine ⟨l,H++[(n,mk l)],l,H++[(n,mk l)],true,⟨hC.1,bd⟩,⟨hC.1,bd⟩,⟨rfl,Z3 _⟩,?_,d21⟩
      by_cases hH0:H=[]
      ·subst hH0
       exact st20_7z k s t h b l x y z i 0 false ⟨#[]⟩ ⟨#[]⟩ n r ok ⟨h0,rfl,rfl,rfl,rfl⟩ hf c9 (by rw [hjm hj] at c40;exact c40) c48
      ·exact st20_7s k s t h b l H x y z i 0 false ⟨#[]⟩ ⟨#[]⟩ n r ok hH0 ⟨h0,rfl,rfl,rfl,rfl⟩ hf c9 (by rw [hjm hj] at c40;exact c40) c48
     ·have hb0 : b0 = true := by cases b0 with | true => rfl | false => exact absurd (hx0.2 rfl) hj
      rw [hb0] at c23
      obtain ⟨h0,rfl,rfl,rfl,rfl⟩:=hg
      refine ⟨l,H,l,H,false,hC,hC,⟨rfl,Z3 H⟩,XL k s t h b l H x y z i 0 false ⟨#[]⟩ ⟨#[]⟩ n r hf c9 c36 j c40 (fun e=>hj e.2.2.2.2.2) false ⟨fun e=>(by cases e),fun e=>absurd e.1 (by omega)⟩,rs21_at k s t h b l H x y z i n r h0 hr c11 L0 c23⟩
    ·by_cases e7 : e = 7
     ·have hD:=fun (f:Bool) hf1=>XL k s t h b l H x y z i e q u v n r hf c9 c36 j c40 (fun w=>hg ⟨w.1,w.2.1,w.2.2.1,w.2.2.2.1,w.2.2.2.2.1⟩) f hf1
      have hE:=fun (f:Bool) hf1=>rs21_full k s t h b l H 7 x y z i e q u v n ⟨.inr rfl,e7⟩ hr f hf1
      by_cases hz:q=false∧u=⟨#[]⟩∧v=⟨#[]⟩∧n=0
      ·exact ⟨l,H,l,H,true,hC,hC,⟨rfl,Z3 H⟩,hD true ⟨fun _=>⟨e7,hz⟩,fun _=>rfl⟩,hE true ⟨fun _=>hz,fun _=>rfl⟩⟩
      ·exact ⟨l,H,l,H,false,hC,hC,⟨rfl,Z3 H⟩,hD false ⟨fun e=>(by cases e),fun e=>absurd e.2 hz⟩,hE false ⟨fun e=>(by cases e),fun e=>absurd e hz⟩⟩
     ·refine ⟨l,H,l,H,false,hC,hC,⟨rfl,Z3 H⟩,XL k s t h b l H x y z i e q u v n r hf c9 c36 j c40 (fun w=>hg ⟨w.1,w.2.1,w.2.2.1,w.2.2.2.1,w.2.2.2.2.1⟩) false ⟨fun e=>(by cases e),fun e=>absurd e.1 e7⟩,?_⟩
      exact rs21_bad k s t h b l H 7 x y z i e q u v n r (fun w=>hg ⟨w.2.2.2.2,w.1,w.2.1,w.2.2.1,w.2.2.2.1⟩) (.inr ⟨rfl,e7⟩) hr c11
   ·-- a sweep
    by_cases hg:0≤n∧e=0∧q=false∧u=⟨#[]⟩∧v=⟨#[]⟩
    ·have d20:=st20_13 k s t h b l H x y z i e q u v n r hf c9 c36 true ⟨fun _=>hg,fun _=>rfl⟩
     obtain ⟨h0,rfl,rfl,rfl,rfl⟩:=hg
     exact ⟨l,H,l,H,true,hC,hC,⟨rfl,Z3 H⟩,d20,rs21_13 k s t h b l H x y z i n r h0 hr c11⟩
    ·exact ⟨l,H,l,H,false,hC,hC,⟨rfl,Z3 H⟩,st20_13 k s t h b l H x y z i e q u v n r hf c9 c36 false ⟨fun e=>(by cases e),fun e=>absurd e hg⟩,rs21_bad k s t h b l H 13 x y z i e q u v n r (fun w=>hg ⟨w.2.2.2.2,w.1,w.2.1,w.2.2.1,w.2.2.2.1⟩) (.inl rfl) hr c11⟩
  ·have o7:¬ o=7:=fun e=>h7 (.inl e)
   have o13:¬ o=13:=fun e=>h7 (.inr e)
   rw [decide_eq_true h7] at a2
   rw [a2] at c9 c11
   generalize (an k b l H o x i).1=r at *
   by_cases he:e=r.e∧q=r.h∧u=r.k∧v=r.v∧n=r.n
   ·have e7:2≤o∧o≤5→¬ e=7:=fun w=>by rw [he.1,ae w];omega
    have d20:=st20_has k s t h b l H o x y z i e q u v n r he hf c9 _ _ _ c12
    have d21:=rs21_has k s t h b l H o x y z i e q u v n r he ⟨o7,o13⟩ e7 hr c11 _ _ c42
    rcases hA with ⟨g1,g2⟩|⟨g1,g2⟩
    ·rw [g2] at d20
     refine ⟨_,_,_,_,true,hC,?_,g1,d20,d21⟩
     have l0:=ok.l0
     have h6:=ok.h0
     refine ⟨?_,?_⟩
     ·split
      ·have h1 := Z5 l
       have h2:(dr (mk l) x).length≤(mk l).length:=List.length_filter_le _ _
       exact ⟨by omega,⟨by have:=ok.l1.len;omega,fun p hp=>(Ym ok.l1).sz p (List.mem_filter.1 hp).1⟩⟩
      ·split
       ·have h1 := Z5 (l ++ [(x, y)])
        rw [List.length_append] at h1
        simp only [List.length_cons,List.length_nil] at h1
        refine ⟨by omega,Ym ⟨by simp;omega,fun p hp=>?_⟩⟩
        rcases List.mem_append.1 hp with hp|hp
        ·exact ok.l1.sz p hp
        ·obtain rfl := List.mem_singleton.1 hp
         exact ⟨by dsimp only;omega,by dsimp only;omega⟩
       ·exact ⟨by omega,ok.l1⟩
     ·have h1 := Y4 (o := o) (i := i) (H := H)
      refine ⟨by omega,fun w hw=>?_⟩
      have hw':w ∈ H:=by
       unfold yn at hw
       split at hw
       ·split at hw
        ·exact List.mem_of_mem_eraseIdx hw
        ·exact hw
       ·exact hw
      exact ⟨by have:=(ok.h1 w hw').1;omega,(ok.h1 w hw').2⟩
    ·rw [g2] at d20 bA
     exact ⟨_,_,_,_,true,bA,bA,⟨rfl,Z3 _⟩,d20,d21⟩
   ·by_cases h25 : 2 ≤ o ∧ o ≤ 5
    ·have hD:=fun (f:Bool) hf1=>st20_upd k s t h b l H o x y z i e q u v n r he h25 hf c9 c36 f hf1
     by_cases e7:e=7
     ·have hE:=fun (f:Bool) hf1=>rs21_full k s t h b l H o x y z i e q u v n ⟨.inl h25,e7⟩ hr f hf1
      by_cases hz:q=false∧u=⟨#[]⟩∧v=⟨#[]⟩∧n=0
      ·exact ⟨l,H,l,H,true,hC,hC,⟨rfl,Z3 H⟩,hD true ⟨fun _=>⟨e7,hz⟩,fun _=>rfl⟩,hE true ⟨fun _=>hz,fun _=>rfl⟩⟩
      ·exact ⟨l,H,l,H,false,hC,hC,⟨rfl,Z3 H⟩,hD false ⟨fun e=>(by cases e),fun e=>absurd e.2 hz⟩,hE false ⟨fun e=>(by cases e),fun e=>absurd e hz⟩⟩
     ·exact ⟨l,H,l,H,false,hC,hC,⟨rfl,Z3 H⟩,hD false ⟨fun e=>(by cases e),fun e=>absurd e.1 e7⟩,rs21_neq k s t h b l H o x y z i e q u v n r he ⟨o7,o13⟩ (fun _=>e7) hr c11⟩
    ·exact ⟨l,H,l,H,false,hC,hC,⟨rfl,Z3 H⟩,st20_oth k s t h b l H o x y z i e q u v n r he ⟨h25,o7,o13⟩ hf c9 c36,rs21_neq k s t h b l H o x y z i e q u v n r he ⟨o7,o13⟩ (fun w=>absurd w h25) hr c11⟩
end
set_option maxHeartbeats 4000000 in
theorem lawSteps (k s t h b : Int) (hk : i64 k) (hs : i64 s) (ht : i64 t) (hh : i64 h) (hb : i64 b) (l : List Pr) (H : List Hd) (ok : SOk l H) (o : Int) (x y z : ByteArray) (i : Int) (ho : i64 o) (hi : i64 i) (hx : x.size ≤ 9223372036854775807) (hy : y.size ≤ 9223372036854775807) (hz : z.size ≤ 9223372036854775807)
  (e:Int) (q:Bool) (u v:ByteArray) (n:Int) (hu:u.size≤9223372036854775807) (hv:v.size≤9223372036854775807):PC Tryd.prog zw 4 [cA k s t h b,sA l H,xA o x y z i,aA e q u v n] (Bo true):=by
 have w:=works18
 have c7:=few7S zw l H ok
 have c8:=short8 zw o x y z i hx hy hz
 have c19u:=wK zw u hu
 have c19v:=wK zw v hv
 have cu:=cu_few l H
 have zx:=yB x
 have zy:=yB y
 have zz:=yB z
 generalize few l=l' at *
 generalize fH (H.take 6)=H' at *
 generalize Ys x 40=x' at *
 generalize Ys y 40=y' at *
 generalize Ys z 40=z' at *
 generalize Ys u 40=u' at *
 generalize Ys v 40=v' at *
 have c10:=give10' zw cu
 obtain ⟨L,K,M,N,f,⟨r1,r2⟩,⟨r3,r4⟩,hq,c20,c21⟩:=both_step k s t h b hk hs ht hh hb l' H' cu o x' y' z' i ho hi zx zy zz e q u' v' n
 have c15:=back15 zw L K (by omega)
 have c14:=rsame zw r1 r3 r2 r4 true ⟨fun _=>hq,fun _=>rfl⟩
 clear cu r1 r2 r3 r4 hq
 cases f
 ·refine zf cop4 ?_
  repeat' ((conv=>whnf);first|(refine SeqP.go ?_)|((refine ObD.mk ?_ ?_);exact zD)|((refine ObN.mk ?_ ?_);exact zN)|(with_reducible first|refine ObT.tt ?_|refine ObT.ff ?_)|((with_reducible refine (?_:ObU _ _));(refine ObU.mk _ zU ?_))|((with_reducible refine (?_:ObR _ _ _));(first|(refine ObR.mk _ zA ?_)|(refine ObR.map zX (fun x hx=>?_))|(refine ObR.mk _ rfl ?_)))|((refine ObC.f 18 ?_);(refine ObC.mk _ (w) ?_))|((refine ObC.f 7 ?_);(refine ObC.mk _ (c7) ?_))|((refine ObC.f 8 ?_);(refine ObC.mk _ (c8) ?_))|((refine ObC.f 19 ?_);(refine ObC.mk _ (c19u) ?_))|((refine ObC.f 19 ?_);(refine ObC.mk _ (c19v) ?_))|((refine ObC.f 10 ?_);(refine ObC.mk _ (c10) ?_))|((refine ObC.f 20 ?_);(refine ObC.mk _ (c20) ?_))|((refine ObC.f 21 ?_);(refine ObC.mk _ (c21) ?_))|((refine ObC.f 15 ?_);(refine ObC.mk _ (c15) ?_))|((refine ObC.f 14 ?_);(refine ObC.mk _ (c14) ?_))|((refine ObEq.mk ?_);exact zE))
 ·refine zf cop4 ?_
  repeat' ((conv=>whnf);first|(refine SeqP.go ?_)|((refine ObD.mk ?_ ?_);exact zD)|((refine ObN.mk ?_ ?_);exact zN)|(refine ObT.tt ?_)|((with_reducible refine (?_:ObU _ _));(refine ObU.mk _ zU ?_))|((with_reducible refine (?_:ObR _ _ _));(first|(refine ObR.mk _ zA ?_)|(refine ObR.map zX (fun x hx=>?_))|(refine ObR.mk _ rfl ?_)))|((refine ObC.f 18 ?_);(refine ObC.mk _ (w) ?_))|((refine ObC.f 7 ?_);(refine ObC.mk _ (c7) ?_))|((refine ObC.f 8 ?_);(refine ObC.mk _ (c8) ?_))|((refine ObC.f 19 ?_);(refine ObC.mk _ (c19u) ?_))|((refine ObC.f 19 ?_);(refine ObC.mk _ (c19v) ?_))|((refine ObC.f 10 ?_);(refine ObC.mk _ (c10) ?_))|((refine ObC.f 20 ?_);(refine ObC.mk _ (c20) ?_))|((refine ObC.f 21 ?_);(refine ObC.mk _ (c21) ?_))|((refine ObC.f 15 ?_);(refine ObC.mk _ (c15) ?_))|((refine ObC.f 14 ?_);(refine ObC.mk _ (c14) ?_))|((refine ObEq.mk ?_);exact zE))
theorem ModelSteps_calls (as0 as1 as2 as3:List AV) (s0:ShC Tryd.prog 23 as0) (s1:ShC Tryd.prog 27 as1) (s2:ShC Tryd.prog 29 as2) (s3:ShC Tryd.prog 34 as3):PC Tryd.prog zw 4 [mkE (Zy Tryd.prog 23) as0,mkE (Zy Tryd.prog 27) as1,mkE (Zy Tryd.prog 29) as2,mkE (Zy Tryd.prog 34) as3] (Bo true):=by
 have e0:Zy Tryd.prog 23=true:=by kernel_rfl
 have e1:Zy Tryd.prog 27=true:=by kernel_rfl
 have e2:Zy Tryd.prog 29=true:=by kernel_rfl
 have e3:Zy Tryd.prog 34=true:=by kernel_rfl
 obtain ⟨k,s,t,h,b,q0,a0,a1,a2,a3,a4⟩:=conf_inv s0
 obtain ⟨l,H,q1,ok⟩:=state_inv s1
 obtain ⟨o,x,y,z,i,q2,b0,b1,b2,b3,b4⟩:=call_inv s2
 obtain ⟨e,q,u,v,n,q3,d0,d1,d2,d3⟩:=ans_inv s3
 rw [e0,e1,e2,e3,q0,q1,q2,q3]
 exact lawSteps k s t h b a0 a1 a2 a3 a4 l H ok o x y z i b0 b1 b2 b3 b4 e q u v n d2 d3
end Go.Proofs.YtgpldekhcojimaaDoor.Sim
