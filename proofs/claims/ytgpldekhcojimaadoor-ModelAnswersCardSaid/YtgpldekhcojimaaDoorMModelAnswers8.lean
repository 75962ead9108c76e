/- Texts of this claim, part 8. -/
import Derived.Test.YtgpldekhcojimaaDoorMModelAnswers7
import Derived.Test.YtgpldekhcojimaaDoorProg
set_option linter.unusedVariables false
set_option linter.unusedSimpArgs false
namespace Go.Proofs.YtgpldekhcojimaaDoor.Sim
open Go.RowKit
set_option maxRecDepth 100000
open Pr7
def ZF (o:Int) (v:Option ByteArray) (z:ByteArray):Bool:=decide (o=2) || (decide (o=3) && !v.isSome) || (decide (o=4) && decide (v=some z))
def aft (l:List Pr) (H:List Hd) (o:Int) (x y z:ByteArray) (i:Int):List Pr × List Hd × Bool :=
 if ZF o (val l x) z=true∧val l x ≠ some y then (pt (mk l) x y,H,true)
 else if o=5∧(val l x).isSome=true then (dr (mk l) x,H,true)
 else match o,fx H i with
  | 8,some j=>(l,H.eraseIdx j,true)
  | _,_=>(l,H,false)
section
variable (k s t h b:Int) (l:List Pr) (H:List Hd) (o:Int) (x y z:ByteArray) (i:Int)
theorem aft_no (hf:PC Tryd.prog z8 25 [cA k s t h b,xA o x y z i] (Bo false)) (c36:PC Tryd.prog z8 36 [sA l H] (sA l H)):PC Tryd.prog z8 12 [cA k s t h b,sA l H,xA o x y z i] (.tup [sA l H,Bo false]):=by
 refine zg yi ?_
 repeat' ((conv=>whnf);first|(with_reducible refine SeqP.go ?_)|((with_reducible refine ObD.mk ?_ ?_);exact zD)|((with_reducible refine ObN.mk ?_ ?_);exact zN)|(with_reducible first|refine ObT.tt ?_|refine ObT.ff ?_)|((with_reducible refine (?_:ObU _ _));(refine ObU.mk _ zU ?_))|((with_reducible refine (?_:ObR _ _ _));(first|(refine ObR.mk _ z6 ?_)|(refine ObR.map zX (fun x hx=>?_))|(refine ObR.mk _ rfl ?_)))|((with_reducible refine ObC.f 25 ?_);(first|(with_reducible refine ObC.mk _ (hf) ?_)|(refine ObC.mk _ (hf) ?_)))|((with_reducible refine ObC.f 36 ?_);(first|(with_reducible refine ObC.mk _ (c36) ?_)|(refine ObC.mk _ (c36) ?_)))|((with_reducible refine ObEq.mk ?_);exact zE))
set_option maxHeartbeats 8000000 in
theorem aft_12 (hf : PC Tryd.prog z8 25 [cA k s t h b, xA o x y z i] (Bo true)) (c36 : PC Tryd.prog z8 36 [sA l H] (sA l H)) (v : Option ByteArray)
  (c37:PC Tryd.prog z8 37 [.sl 2 (l.map pA),S x] (.tup [S (v.getD ⟨#[]⟩),Bo v.isSome])) (P D:List Pr) (c38:PC Tryd.prog z8 38 [.sl 2 (l.map pA),S x,S y] (.sl 2 (P.map pA))) (c39:PC Tryd.prog z8 39 [.sl 2 (l.map pA),S x] (.sl 2 (D.map pA)))
  (c40:o=8→PC Tryd.prog z8 40 [sA l H,I i] (I (-1))) :
  (ZF o v z=true→v ≠ some y→PC Tryd.prog z8 12 [cA k s t h b,sA l H,xA o x y z i] (.tup [sA P H,Bo true]))
  ∧ (o=5→v.isSome=true→PC Tryd.prog z8 12 [cA k s t h b,sA l H,xA o x y z i] (.tup [sA D H,Bo true]))
  ∧ (¬ (ZF o v z=true∧v ≠ some y)→¬ (o=5∧v.isSome=true)→PC Tryd.prog z8 12 [cA k s t h b,sA l H,xA o x y z i] (.tup [sA l H,Bo false])):=by
 have done:∀ {p:Prop},p→p:=id
 refine ⟨fun hp hv=>?_,fun h5 hv=>?_,fun hp h5=>?_⟩
 ·cases v with
  | none =>
   change PC Tryd.prog z8 37 [.sl 2 (l.map pA),S x] (.tup [S ⟨#[]⟩,Bo false]) at c37
   have o23:o=2∨o=3:=by simpa [ZF] using hp
   rcases o23 with rfl|rfl
   all_goals
    refine zg yi ?_
    repeat' ((conv=>whnf);first|(with_reducible refine SeqP.go ?_)|((with_reducible refine ObD.mk ?_ ?_);exact zD)|((with_reducible refine ObN.mk ?_ ?_);exact zN)|(with_reducible first|refine ObT.tt ?_|refine ObT.ff ?_)|((with_reducible refine ObB.yes ?_ ?_);exact zB)|((with_reducible refine ObB.no ?_ ?_);exact zC)|((with_reducible refine (?_:ObU _ _));(refine ObU.mk _ zU ?_))|((with_reducible refine (?_:ObR _ _ _));(first|(refine ObR.mk _ z6 ?_)|(refine ObR.map zX (fun x hx=>?_))|(refine ObR.mk _ rfl ?_)))|((with_reducible refine ObC.f 25 ?_);(first|(with_reducible refine ObC.mk _ (hf) ?_)|(refine ObC.mk _ (hf) ?_)))|((with_reducible refine ObC.f 36 ?_);(first|(with_reducible refine ObC.mk _ (c36) ?_)|(refine ObC.mk _ (c36) ?_)))|((with_reducible refine ObC.f 37 ?_);(first|(with_reducible refine ObC.mk _ (c37) ?_)|(refine ObC.mk _ (c37) ?_)))|((with_reducible refine ObC.f 38 ?_);(first|(with_reducible refine ObC.mk _ (c38) ?_)|(refine ObC.mk _ (c38) ?_)))|((with_reducible refine ObEq.mk ?_);exact zE))
  | some w =>
   change PC Tryd.prog z8 37 [.sl 2 (l.map pA),S x] (.tup [S w,Bo true]) at c37
   have hwy:¬ w=y:=fun e=>hv (by rw [e])
   have o24:o=2∨(o=4∧w=z):=by simpa [ZF] using hp
   rcases o24 with rfl|⟨rfl,rfl⟩
   all_goals
    refine zg yi ?_
    repeat' ((conv=>whnf);first|(with_reducible refine SeqP.go ?_)|((with_reducible refine ObD.mk ?_ ?_);exact zD)|((with_reducible refine ObN.mk ?_ ?_);exact zN)|(with_reducible first|refine ObT.tt ?_|refine ObT.ff ?_)|((with_reducible refine ObB.yes ?_ ?_);exact zB)|((with_reducible refine ObB.no ?_ ?_);exact zC)|((with_reducible refine (?_:ObU _ _));(refine ObU.mk _ zU ?_))|((with_reducible refine (?_:ObR _ _ _));(first|(refine ObR.mk _ z6 ?_)|(refine ObR.map zX (fun x hx=>?_))|(refine ObR.mk _ rfl ?_)))|((with_reducible refine ObC.f 25 ?_);(first|(with_reducible refine ObC.mk _ (hf) ?_)|(refine ObC.mk _ (hf) ?_)))|((with_reducible refine ObC.f 36 ?_);(first|(with_reducible refine ObC.mk _ (c36) ?_)|(refine ObC.mk _ (c36) ?_)))|((with_reducible refine ObC.f 37 ?_);(first|(with_reducible refine ObC.mk _ (c37) ?_)|(refine ObC.mk _ (c37) ?_)))|((with_reducible refine ObC.f 38 ?_);(first|(with_reducible refine ObC.mk _ (c38) ?_)|(refine ObC.mk _ (c38) ?_)))|((with_reducible refine ObEq.mk ?_);exact zE))
 ·subst h5
  cases v with
  | none=>cases hv
  | some w =>
   change PC Tryd.prog z8 37 [.sl 2 (l.map pA),S x] (.tup [S w,Bo true]) at c37
   refine zg yi ?_
   repeat' ((conv=>whnf);first|(with_reducible refine SeqP.go ?_)|((with_reducible refine ObD.mk ?_ ?_);exact zD)|((with_reducible refine ObN.mk ?_ ?_);exact zN)|(with_reducible first|refine ObT.tt ?_|refine ObT.ff ?_)|((with_reducible refine ObB.yes ?_ ?_);exact zB)|((with_reducible refine ObB.no ?_ ?_);exact zC)|((with_reducible refine (?_:ObU _ _));(refine ObU.mk _ zU ?_))|((with_reducible refine (?_:ObR _ _ _));(first|(refine ObR.mk _ z6 ?_)|(refine ObR.map zX (fun x hx=>?_))|(refine ObR.mk _ rfl ?_)))|((with_reducible refine ObC.f 25 ?_);(first|(with_reducible refine ObC.mk _ (hf) ?_)|(refine ObC.mk _ (hf) ?_)))|((with_reducible refine ObC.f 36 ?_);(first|(with_reducible refine ObC.mk _ (c36) ?_)|(refine ObC.mk _ (c36) ?_)))|((with_reducible refine ObC.f 37 ?_);(first|(with_reducible refine ObC.mk _ (c37) ?_)|(refine ObC.mk _ (c37) ?_)))|((with_reducible refine ObC.f 39 ?_);(first|(with_reducible refine ObC.mk _ (c39) ?_)|(refine ObC.mk _ (c39) ?_)))|((with_reducible refine ObEq.mk ?_);exact zE))
 ·cases v with
  | none =>
   change PC Tryd.prog z8 37 [.sl 2 (l.map pA),S x] (.tup [S ⟨#[]⟩,Bo false]) at c37
   have a2:¬ o=2:=fun e=>hp ⟨by simp [ZF,e],by simp⟩
   have a3:¬ o=3:=fun e=>hp ⟨by simp [ZF,e],by simp⟩
   by_cases a4:o=4
   ·subst a4
    refine zg yi ?_
    repeat' ((conv=>whnf);first|(with_reducible refine SeqP.go ?_)|((with_reducible refine ObD.mk ?_ ?_);exact zD)|((with_reducible refine ObN.mk ?_ ?_);exact zN)|(with_reducible first|refine ObT.tt ?_|refine ObT.ff ?_)|((with_reducible refine ObB.yes ?_ ?_);exact zB)|((with_reducible refine ObB.no ?_ ?_);exact zC)|((with_reducible refine (?_:ObU _ _));(refine ObU.mk _ zU ?_))|((with_reducible refine (?_:ObR _ _ _));(first|(refine ObR.mk _ z6 ?_)|(refine ObR.map zX (fun x hx=>?_))|(refine ObR.mk _ rfl ?_)))|((with_reducible refine ObC.f 25 ?_);(first|(with_reducible refine ObC.mk _ (hf) ?_)|(refine ObC.mk _ (hf) ?_)))|((with_reducible refine ObC.f 36 ?_);(first|(with_reducible refine ObC.mk _ (c36) ?_)|(refine ObC.mk _ (c36) ?_)))|((with_reducible refine ObC.f 37 ?_);(first|(with_reducible refine ObC.mk _ (c37) ?_)|(refine ObC.mk _ (c37) ?_)))|((with_reducible refine ObEq.mk ?_);exact zE))
   by_cases a5:o=5
   ·subst a5
    refine zg yi ?_
    repeat' ((conv=>whnf);first|(with_reducible refine SeqP.go ?_)|((with_reducible refine ObD.mk ?_ ?_);exact zD)|((with_reducible refine ObN.mk ?_ ?_);exact zN)|(with_reducible first|refine ObT.tt ?_|refine ObT.ff ?_)|((with_reducible refine ObB.yes ?_ ?_);exact zB)|((with_reducible refine ObB.no ?_ ?_);exact zC)|((with_reducible refine (?_:ObU _ _));(refine ObU.mk _ zU ?_))|((with_reducible refine (?_:ObR _ _ _));(first|(refine ObR.mk _ z6 ?_)|(refine ObR.map zX (fun x hx=>?_))|(refine ObR.mk _ rfl ?_)))|((with_reducible refine ObC.f 25 ?_);(first|(with_reducible refine ObC.mk _ (hf) ?_)|(refine ObC.mk _ (hf) ?_)))|((with_reducible refine ObC.f 36 ?_);(first|(with_reducible refine ObC.mk _ (c36) ?_)|(refine ObC.mk _ (c36) ?_)))|((with_reducible refine ObC.f 37 ?_);(first|(with_reducible refine ObC.mk _ (c37) ?_)|(refine ObC.mk _ (c37) ?_)))|((with_reducible refine ObEq.mk ?_);exact zE))
   by_cases a8:o=8
   ·subst a8
    refine zg yi ?_
    repeat' ((conv=>whnf);first|(with_reducible refine SeqP.go ?_)|((with_reducible refine ObD.mk ?_ ?_);exact zD)|((with_reducible refine ObN.mk ?_ ?_);exact zN)|(with_reducible first|refine ObT.tt ?_|refine ObT.ff ?_)|((with_reducible refine ObB.yes ?_ ?_);exact zB)|((with_reducible refine ObB.no ?_ ?_);exact zC)|((with_reducible refine (?_:ObU _ _));(refine ObU.mk _ zU ?_))|((with_reducible refine (?_:ObR _ _ _));(first|(refine ObR.mk _ z6 ?_)|(refine ObR.map zX (fun x hx=>?_))|(refine ObR.mk _ rfl ?_)))|((with_reducible refine ObC.f 25 ?_);(first|(with_reducible refine ObC.mk _ (hf) ?_)|(refine ObC.mk _ (hf) ?_)))|((with_reducible refine ObC.f 36 ?_);(first|(with_reducible refine ObC.mk _ (c36) ?_)|(refine ObC.mk _ (c36) ?_)))|((with_reducible refine ObC.f 37 ?_);(first|(with_reducible refine ObC.mk _ (c37) ?_)|(refine ObC.mk _ (c37) ?_)))|((with_reducible refine ObC.f 40 ?_);(first|(with_reducible refine ObC.mk _ ((c40 rfl)) ?_)|(refine ObC.mk _ ((c40 rfl)) ?_)))|((with_reducible refine ObEq.mk ?_);exact zE))
   ·refine zg yi ?_
    repeat' ((conv=>whnf);first|(with_reducible refine SeqP.go ?_)|((with_reducible refine ObD.mk ?_ ?_);exact zD)|((with_reducible refine ObN.mk ?_ ?_);exact zN)|(with_reducible first|refine ObT.tt ?_|refine ObT.ff ?_)|((with_reducible refine ObB.no ?_ ?_);exact zC)|((with_reducible refine (?_:ObU _ _));(refine ObU.mk _ zU ?_))|((with_reducible refine (?_:ObR _ _ _));(first|(refine ObR.mk _ z6 ?_)|(refine ObR.map zX (fun x hx=>?_))|(refine ObR.mk _ rfl ?_)))|((with_reducible refine ObC.f 25 ?_);(first|(with_reducible refine ObC.mk _ (hf) ?_)|(refine ObC.mk _ (hf) ?_)))|((with_reducible refine ObC.f 36 ?_);(first|(with_reducible refine ObC.mk _ (c36) ?_)|(refine ObC.mk _ (c36) ?_)))|((with_reducible refine ObC.f 37 ?_);(first|(with_reducible refine ObC.mk _ (c37) ?_)|(refine ObC.mk _ (c37) ?_)))|((with_reducible refine ObEq.mk ?_);exact zE))
  | some w =>
   change PC Tryd.prog z8 37 [.sl 2 (l.map pA),S x] (.tup [S w,Bo true]) at c37
   have a5:¬ o=5:=fun e=>h5 ⟨e,rfl⟩
   by_cases hwy:w=y
   ·subst hwy
    by_cases a2:o=2
    ·subst a2
     refine zg yi ?_
     repeat' ((conv=>whnf);first|(with_reducible refine SeqP.go ?_)|((with_reducible refine ObD.mk ?_ ?_);exact zD)|((with_reducible refine ObN.mk ?_ ?_);exact zN)|(with_reducible first|refine ObT.tt ?_|refine ObT.ff ?_)|((with_reducible refine ObB.yes ?_ ?_);exact zB)|((with_reducible refine ObB.no ?_ ?_);exact zC)|((with_reducible refine (?_:ObU _ _));(refine ObU.mk _ zU ?_))|((with_reducible refine (?_:ObR _ _ _));(first|(refine ObR.mk _ z6 ?_)|(refine ObR.map zX (fun x hx=>?_))|(refine ObR.mk _ rfl ?_)))|((with_reducible refine ObC.f 25 ?_);(first|(with_reducible refine ObC.mk _ (hf) ?_)|(refine ObC.mk _ (hf) ?_)))|((with_reducible refine ObC.f 36 ?_);(first|(with_reducible refine ObC.mk _ (c36) ?_)|(refine ObC.mk _ (c36) ?_)))|((with_reducible refine ObC.f 37 ?_);(first|(with_reducible refine ObC.mk _ (c37) ?_)|(refine ObC.mk _ (c37) ?_)))|((with_reducible refine ObEq.mk ?_);exact zE))
    by_cases a4:o=4
    ·subst a4
     by_cases hwz:w=z
     ·subst hwz
      refine zg yi ?_
      repeat' ((conv=>whnf);first|(with_reducible refine SeqP.go ?_)|((with_reducible refine ObD.mk ?_ ?_);exact zD)|((with_reducible refine ObN.mk ?_ ?_);exact zN)|(with_reducible first|refine ObT.tt ?_|refine ObT.ff ?_)|((with_reducible refine ObB.yes ?_ ?_);exact zB)|((with_reducible refine ObB.no ?_ ?_);exact zC)|((with_reducible refine (?_:ObU _ _));(refine ObU.mk _ zU ?_))|((with_reducible refine (?_:ObR _ _ _));(first|(refine ObR.mk _ z6 ?_)|(refine ObR.map zX (fun x hx=>?_))|(refine ObR.mk _ rfl ?_)))|((with_reducible refine ObC.f 25 ?_);(first|(with_reducible refine ObC.mk _ (hf) ?_)|(refine ObC.mk _ (hf) ?_)))|((with_reducible refine ObC.f 36 ?_);(first|(with_reducible refine ObC.mk _ (c36) ?_)|(refine ObC.mk _ (c36) ?_)))|((with_reducible refine ObC.f 37 ?_);(first|(with_reducible refine ObC.mk _ (c37) ?_)|(refine ObC.mk _ (c37) ?_)))|((with_reducible refine ObEq.mk ?_);exact zE))
     ·refine zg yi ?_
      repeat' ((conv=>whnf);first|(with_reducible refine SeqP.go ?_)|((with_reducible refine ObD.mk ?_ ?_);exact zD)|((with_reducible refine ObN.mk ?_ ?_);exact zN)|(with_reducible first|refine ObT.tt ?_|refine ObT.ff ?_)|((with_reducible refine ObB.yes ?_ ?_);exact zB)|((with_reducible refine ObB.no ?_ ?_);exact zC)|((with_reducible refine (?_:ObU _ _));(refine ObU.mk _ zU ?_))|((with_reducible refine (?_:ObR _ _ _));(first|(refine ObR.mk _ z6 ?_)|(refine ObR.map zX (fun x hx=>?_))|(refine ObR.mk _ rfl ?_)))|((with_reducible refine ObC.f 25 ?_);(first|(with_reducible refine ObC.mk _ (hf) ?_)|(refine ObC.mk _ (hf) ?_)))|((with_reducible refine ObC.f 36 ?_);(first|(with_reducible refine ObC.mk _ (c36) ?_)|(refine ObC.mk _ (c36) ?_)))|((with_reducible refine ObC.f 37 ?_);(first|(with_reducible refine ObC.mk _ (c37) ?_)|(refine ObC.mk _ (c37) ?_)))|((with_reducible refine ObEq.mk ?_);exact zE))
    by_cases a3:o=3
    ·subst a3
     refine zg yi ?_
     repeat' ((conv=>whnf);first|(with_reducible refine SeqP.go ?_)|((with_reducible refine ObD.mk ?_ ?_);exact zD)|((with_reducible refine ObN.mk ?_ ?_);exact zN)|(with_reducible first|refine ObT.tt ?_|refine ObT.ff ?_)|((with_reducible refine ObB.yes ?_ ?_);exact zB)|((with_reducible refine ObB.no ?_ ?_);exact zC)|((with_reducible refine (?_:ObU _ _));(refine ObU.mk _ zU ?_))|((with_reducible refine (?_:ObR _ _ _));(first|(refine ObR.mk _ z6 ?_)|(refine ObR.map zX (fun x hx=>?_))|(refine ObR.mk _ rfl ?_)))|((with_reducible refine ObC.f 25 ?_);(first|(with_reducible refine ObC.mk _ (hf) ?_)|(refine ObC.mk _ (hf) ?_)))|((with_reducible refine ObC.f 36 ?_);(first|(with_reducible refine ObC.mk _ (c36) ?_)|(refine ObC.mk _ (c36) ?_)))|((with_reducible refine ObC.f 37 ?_);(first|(with_reducible refine ObC.mk _ (c37) ?_)|(refine ObC.mk _ (c37) ?_)))|((with_reducible refine ObEq.mk ?_);exact zE))
    by_cases a8:o=8
    ·subst a8
     refine zg yi ?_
     repeat' ((conv=>whnf);first|(with_reducible refine SeqP.go ?_)|((with_reducible refine ObD.mk ?_ ?_);exact zD)|((with_reducible refine ObN.mk ?_ ?_);exact zN)|(with_reducible first|refine ObT.tt ?_|refine ObT.ff ?_)|((with_reducible refine ObB.yes ?_ ?_);exact zB)|((with_reducible refine ObB.no ?_ ?_);exact zC)|((with_reducible refine (?_:ObU _ _));(refine ObU.mk _ zU ?_))|((with_reducible refine (?_:ObR _ _ _));(first|(refine ObR.mk _ z6 ?_)|(refine ObR.map zX (fun x hx=>?_))|(refine ObR.mk _ rfl ?_)))|((with_reducible refine ObC.f 25 ?_);(first|(with_reducible refine ObC.mk _ (hf) ?_)|(refine ObC.mk _ (hf) ?_)))|((with_reducible refine ObC.f 36 ?_);(first|(with_reducible refine ObC.mk _ (c36) ?_)|(refine ObC.mk _ (c36) ?_)))|((with_reducible refine ObC.f 37 ?_);(first|(with_reducible refine ObC.mk _ (c37) ?_)|(refine ObC.mk _ (c37) ?_)))|((with_reducible refine ObC.f 40 ?_);(first|(with_reducible refine ObC.mk _ ((c40 rfl)) ?_)|(refine ObC.mk _ ((c40 rfl)) ?_)))|((with_reducible refine ObEq.mk ?_);exact zE))
    ·refine zg yi ?_
     repeat' ((conv=>whnf);first|(with_reducible refine SeqP.go ?_)|((with_reducible refine ObD.mk ?_ ?_);exact zD)|((with_reducible refine ObN.mk ?_ ?_);exact zN)|(with_reducible first|refine ObT.tt ?_|refine ObT.ff ?_)|((with_reducible refine ObB.no ?_ ?_);exact zC)|((with_reducible refine (?_:ObU _ _));(refine ObU.mk _ zU ?_))|((with_reducible refine (?_:ObR _ _ _));(first|(refine ObR.mk _ z6 ?_)|(refine ObR.map zX (fun x hx=>?_))|(refine ObR.mk _ rfl ?_)))|((with_reducible refine ObC.f 25 ?_);(first|(with_reducible refine ObC.mk _ (hf) ?_)|(refine ObC.mk _ (hf) ?_)))|((with_reducible refine ObC.f 36 ?_);(first|(with_reducible refine ObC.mk _ (c36) ?_)|(refine ObC.mk _ (c36) ?_)))|((with_reducible refine ObC.f 37 ?_);(first|(with_reducible refine ObC.mk _ (c37) ?_)|(refine ObC.mk _ (c37) ?_)))|((with_reducible refine ObEq.mk ?_);exact zE))
   ·have hnp : ZF o (some w) z = false := by
     cases hq:ZF o (some w) z with
     | false=>rfl
     | true=>exact absurd ⟨hq,fun e=>hwy (Option.some.inj e)⟩ hp
    have a2:¬ o=2:=fun e=>by simp [ZF,e] at hnp
    by_cases a4:o=4
    ·subst a4
     have hwz:¬ w=z:=fun e=>by simp [ZF,e] at hnp
     refine zg yi ?_
     repeat' ((conv=>whnf);first|(with_reducible refine SeqP.go ?_)|((with_reducible refine ObD.mk ?_ ?_);exact zD)|((with_reducible refine ObN.mk ?_ ?_);exact zN)|(with_reducible first|refine ObT.tt ?_|refine ObT.ff ?_)|((with_reducible refine ObB.yes ?_ ?_);exact zB)|((with_reducible refine ObB.no ?_ ?_);exact zC)|((with_reducible refine (?_:ObU _ _));(refine ObU.mk _ zU ?_))|((with_reducible refine (?_:ObR _ _ _));(first|(refine ObR.mk _ z6 ?_)|(refine ObR.map zX (fun x hx=>?_))|(refine ObR.mk _ rfl ?_)))|((with_reducible refine ObC.f 25 ?_);(first|(with_reducible refine ObC.mk _ (hf) ?_)|(refine ObC.mk _ (hf) ?_)))|((with_reducible refine ObC.f 36 ?_);(first|(with_reducible refine ObC.mk _ (c36) ?_)|(refine ObC.mk _ (c36) ?_)))|((with_reducible refine ObC.f 37 ?_);(first|(with_reducible refine ObC.mk _ (c37) ?_)|(refine ObC.mk _ (c37) ?_)))|((with_reducible refine ObEq.mk ?_);exact zE))
    by_cases a3:o=3
    ·subst a3
     refine zg yi ?_
     repeat' ((conv=>whnf);first|(with_reducible refine SeqP.go ?_)|((with_reducible refine ObD.mk ?_ ?_);exact zD)|((with_reducible refine ObN.mk ?_ ?_);exact zN)|(with_reducible first|refine ObT.tt ?_|refine ObT.ff ?_)|((with_reducible refine ObB.yes ?_ ?_);exact zB)|((with_reducible refine ObB.no ?_ ?_);exact zC)|((with_reducible refine (?_:ObU _ _));(refine ObU.mk _ zU ?_))|((with_reducible refine (?_:ObR _ _ _));(first|(refine ObR.mk _ z6 ?_)|(refine ObR.map zX (fun x hx=>?_))|(refine ObR.mk _ rfl ?_)))|((with_reducible refine ObC.f 25 ?_);(first|(with_reducible refine ObC.mk _ (hf) ?_)|(refine ObC.mk _ (hf) ?_)))|((with_reducible refine ObC.f 36 ?_);(first|(with_reducible refine ObC.mk _ (c36) ?_)|(refine ObC.mk _ (c36) ?_)))|((with_reducible refine ObC.f 37 ?_);(first|(with_reducible refine ObC.mk _ (c37) ?_)|(refine ObC.mk _ (c37) ?_)))|((with_reducible refine ObEq.mk ?_);exact zE))
    by_cases a8:o=8
    ·subst a8
     refine zg yi ?_
     repeat' ((conv=>whnf);first|(with_reducible refine SeqP.go ?_)|((with_reducible refine ObD.mk ?_ ?_);exact zD)|((with_reducible refine ObN.mk ?_ ?_);exact zN)|(with_reducible first|refine ObT.tt ?_|refine ObT.ff ?_)|((with_reducible refine ObB.yes ?_ ?_);exact zB)|((with_reducible refine ObB.no ?_ ?_);exact zC)|((with_reducible refine (?_:ObU _ _));(refine ObU.mk _ zU ?_))|((with_reducible refine (?_:ObR _ _ _));(first|(refine ObR.mk _ z6 ?_)|(refine ObR.map zX (fun x hx=>?_))|(refine ObR.mk _ rfl ?_)))|((with_reducible refine ObC.f 25 ?_);(first|(with_reducible refine ObC.mk _ (hf) ?_)|(refine ObC.mk _ (hf) ?_)))|((with_reducible refine ObC.f 36 ?_);(first|(with_reducible refine ObC.mk _ (c36) ?_)|(refine ObC.mk _ (c36) ?_)))|((with_reducible refine ObC.f 37 ?_);(first|(with_reducible refine ObC.mk _ (c37) ?_)|(refine ObC.mk _ (c37) ?_)))|((with_reducible refine ObC.f 40 ?_);(first|(with_reducible refine ObC.mk _ ((c40 rfl)) ?_)|(refine ObC.mk _ ((c40 rfl)) ?_)))|((with_reducible refine ObEq.mk ?_);exact zE))
    ·refine zg yi ?_
     repeat' ((conv=>whnf);first|(with_reducible refine SeqP.go ?_)|((with_reducible refine ObD.mk ?_ ?_);exact zD)|((with_reducible refine ObN.mk ?_ ?_);exact zN)|(with_reducible first|refine ObT.tt ?_|refine ObT.ff ?_)|((with_reducible refine ObB.no ?_ ?_);exact zC)|((with_reducible refine (?_:ObU _ _));(refine ObU.mk _ zU ?_))|((with_reducible refine (?_:ObR _ _ _));(first|(refine ObR.mk _ z6 ?_)|(refine ObR.map zX (fun x hx=>?_))|(refine ObR.mk _ rfl ?_)))|((with_reducible refine ObC.f 25 ?_);(first|(with_reducible refine ObC.mk _ (hf) ?_)|(refine ObC.mk _ (hf) ?_)))|((with_reducible refine ObC.f 36 ?_);(first|(with_reducible refine ObC.mk _ (c36) ?_)|(refine ObC.mk _ (c36) ?_)))|((with_reducible refine ObC.f 37 ?_);(first|(with_reducible refine ObC.mk _ (c37) ?_)|(refine ObC.mk _ (c37) ?_)))|((with_reducible refine ObEq.mk ?_);exact zE))
end
end Go.Proofs.YtgpldekhcojimaaDoor.Sim
namespace Go.Proofs.YtgpldekhcojimaaDoor.Sim
set_option maxRecDepth 100000
def C12:AF:=(AF.mk 112 [(6,(some (true,2))),(7,none)] (AC.seq (AC.region [(AI.mk (some 3) (AOp.new 23 5 (AX.t 0)) none),(AI.mk (some 4) (AOp.new 39 2 (AX.t 1)) none),(AI.mk (some 5) (AOp.new 29 5 (AX.t 2)) none),(AI.mk (some 6) (AOp.new 39 2 (AX.c (AV.agg [(AV.nl 2),(AV.nl 2)]))) none),(AI.mk (some 7) (AOp.mv (AX.c (AV.v (Value.bool false)))) none)]) (AC.seq (AC.region [(AI.mk (some 12) (AOp.load true 2 (AX.t 4)) none),(AI.mk (some 13) (AOp.callh 36 [(AX.t 12)]) none),(AI.mk (some 8) (AOp.new 39 2 (AX.c (AV.agg [(AV.nl 2),(AV.nl 2)]))) none),(AI.mk none (AOp.store 2 (AX.t 8) (AX.t 13)) none)]) (AC.seq (AC.seq (AC.region [(AI.mk (some 14) (AOp.load true 5 (AX.t 3)) none),(AI.mk (some 15) (AOp.load true 5 (AX.t 5)) none),(AI.mk (some 16) (AOp.call 25 [(AX.t 14),(AX.t 15)]) none),(AI.mk (some 17) (AOp.un UnOp.not (AX.t 16)) none)]) (AC.cond (AX.t 17) (AC.seq (AC.region [(AI.mk (some 18) (AOp.load true 2 (AX.t 8)) none),(AI.mk none (AOp.store 2 (AX.t 6) (AX.t 18)) none),(AI.mk (some 7) (AOp.mv (AX.c (AV.v (Value.bool false)))) none)]) AC.ret) AC.skip)) (AC.seq (AC.region [(AI.mk (some 20) (AOp.fad 0 (AX.t 4)) none),(AI.mk (some 21) (AOp.load false 1 (AX.t 20)) none),(AI.mk (some 22) (AOp.fad 1 (AX.t 5)) none),(AI.mk (some 23) (AOp.load false 1 (AX.t 22)) none),(AI.mk (some 24) (AOp.call 37 [(AX.t 21),(AX.t 23)]) none),(AI.mk (some 19) (AOp.mv (AX.t 24)) none),(AI.mk (some 25) (AOp.ext (AX.t 19) 0) none),(AI.mk (some 26) (AOp.ext (AX.t 19) 1) none),(AI.mk (some 9) (AOp.mv (AX.t 25)) none),(AI.mk (some 10) (AOp.mv (AX.t 26)) none)]) (AC.seq (AC.region [(AI.mk (some 27) (AOp.fad 0 (AX.t 5)) none),(AI.mk (some 28) (AOp.load false 1 (AX.t 27)) none),(AI.mk (some 29) (AOp.bin BinOp.eql 3 false (Operand.tmp 28) (Operand.const (Value.int IntKind.i64 2)) (AX.t 28) (AX.c (AV.v (Value.int IntKind.i64 2)))) none),(AI.mk (some 30) (AOp.mv (AX.t 29)) none),(AI.mk (some 31) (AOp.fad 0 (AX.t 5)) (some (30,false))),(AI.mk (some 32) (AOp.load false 1 (AX.t 31)) (some (30,false))),(AI.mk (some 33) (AOp.bin BinOp.eql 3 false (Operand.tmp 32) (Operand.const (Value.int IntKind.i64 3)) (AX.t 32) (AX.c (AV.v (Value.int IntKind.i64 3)))) (some (30,false))),(AI.mk (some 34) (AOp.mv (AX.t 33)) (some (30,false))),(AI.mk (some 35) (AOp.mv (AX.t 10)) (some (34,true))),(AI.mk (some 36) (AOp.un UnOp.not (AX.t 35)) (some (34,true))),(AI.mk (some 37) (AOp.pick (AX.t 34) (AX.t 36) (AX.c (AV.v (Value.bool false)))) (some (30,false))),(AI.mk (some 38) (AOp.pick (AX.t 30) (AX.c (AV.v (Value.bool true))) (AX.t 37)) none),(AI.mk (some 39) (AOp.mv (AX.t 38)) none),(AI.mk (some 40) (AOp.fad 0 (AX.t 5)) (some (39,false))),(AI.mk (some 41) (AOp.load false 1 (AX.t 40)) (some (39,false))),(AI.mk (some 42) (AOp.bin BinOp.eql 3 false (Operand.tmp 41) (Operand.const (Value.int IntKind.i64 4)) (AX.t 41) (AX.c (AV.v (Value.int IntKind.i64 4)))) (some (39,false))),(AI.mk (some 43) (AOp.mv (AX.t 42)) (some (39,false))),(AI.mk (some 44) (AOp.mv (AX.t 10)) (some (43,true))),(AI.mk (some 45) (AOp.pick (AX.t 43) (AX.t 44) (AX.c (AV.v (Value.bool false)))) (some (39,false))),(AI.mk (some 46) (AOp.mv (AX.t 45)) (some (39,false))),(AI.mk (some 47) (AOp.mv (AX.t 9)) (some (46,true))),(AI.mk (some 48) (AOp.fad 3 (AX.t 5)) (some (46,true))),(AI.mk (some 49) (AOp.load false 1 (AX.t 48)) (some (46,true))),(AI.mk (some 50) (AOp.bin BinOp.eql 9 false (Operand.tmp 47) (Operand.tmp 49) (AX.t 47) (AX.t 49)) (some (46,true))),(AI.mk (some 51) (AOp.pick (AX.t 46) (AX.t 50) (AX.c (AV.v (Value.bool false)))) (some (39,false))),(AI.mk (some 52) (AOp.pick (AX.t 39) (AX.c (AV.v (Value.bool true))) (AX.t 51)) none),(AI.mk (some 11) (AOp.mv (AX.t 52)) none)]) (AC.seq (AC.block 0 (AC.seq (AC.region [(AI.mk (some 55) (AOp.mv (AX.t 11)) none),(AI.mk (some 56) (AOp.mv (AX.t 55)) none),(AI.mk (some 57) (AOp.mv (AX.t 10)) (some (56,true))),(AI.mk (some 58) (AOp.mv (AX.t 57)) (some (56,true))),(AI.mk (some 59) (AOp.mv (AX.t 9)) (some (58,true))),(AI.mk (some 60) (AOp.fad 2 (AX.t 5)) (some (58,true))),(AI.mk (some 61) (AOp.load false 1 (AX.t 60)) (some (58,true))),(AI.mk (some 62) (AOp.bin BinOp.eql 9 false (Operand.tmp 59) (Operand.tmp 61) (AX.t 59) (AX.t 61)) (some (58,true))),(AI.mk (some 63) (AOp.pick (AX.t 58) (AX.t 62) (AX.c (AV.v (Value.bool false)))) (some (56,true))),(AI.mk (some 64) (AOp.un UnOp.not (AX.t 63)) (some (56,true))),(AI.mk (some 65) (AOp.pick (AX.t 56) (AX.t 64) (AX.c (AV.v (Value.bool false)))) none),(AI.mk (some 54) (AOp.mv (AX.t 65)) none)]) (AC.cond (AX.t 54) (AC.region [(AI.mk (some 66) (AOp.fad 0 (AX.t 4)) none),(AI.mk (some 67) (AOp.load false 1 (AX.t 66)) none),(AI.mk (some 68) (AOp.fad 1 (AX.t 5)) none),(AI.mk (some 69) (AOp.load false 1 (AX.t 68)) none),(AI.mk (some 70) (AOp.fad 2 (AX.t 5)) none),(AI.mk (some 71) (AOp.load false 1 (AX.t 70)) none),(AI.mk (some 72) (AOp.call 38 [(AX.t 67),(AX.t 69),(AX.t 71)]) none),(AI.mk (some 73) (AOp.fad 0 (AX.t 8)) none),(AI.mk none (AOp.store 1 (AX.t 73) (AX.t 72)) none)]) (AC.seq (AC.region [(AI.mk (some 75) (AOp.fad 0 (AX.t 5)) none),(AI.mk (some 76) (AOp.load false 1 (AX.t 75)) none),(AI.mk (some 77) (AOp.bin BinOp.eql 3 false (Operand.tmp 76) (Operand.const (Value.int IntKind.i64 5)) (AX.t 76) (AX.c (AV.v (Value.int IntKind.i64 5)))) none),(AI.mk (some 78) (AOp.mv (AX.t 77)) none),(AI.mk (some 79) (AOp.mv (AX.t 10)) (some (78,true))),(AI.mk (some 80) (AOp.pick (AX.t 78) (AX.t 79) (AX.c (AV.v (Value.bool false)))) none),(AI.mk (some 74) (AOp.mv (AX.t 80)) none)]) (AC.cond (AX.t 74) (AC.region [(AI.mk (some 81) (AOp.fad 0 (AX.t 4)) none),(AI.mk (some 82) (AOp.load false 1 (AX.t 81)) none),(AI.mk (some 83) (AOp.fad 1 (AX.t 5)) none),(AI.mk (some 84) (AOp.load false 1 (AX.t 83)) none),(AI.mk (some 85) (AOp.call 39 [(AX.t 82),(AX.t 84)]) none),(AI.mk (some 86) (AOp.fad 0 (AX.t 8)) none),(AI.mk none (AOp.store 1 (AX.t 86) (AX.t 85)) none)]) (AC.seq (AC.region [(AI.mk (some 88) (AOp.fad 0 (AX.t 5)) none),(AI.mk (some 89) (AOp.load false 1 (AX.t 88)) none),(AI.mk (some 90) (AOp.bin BinOp.eql 3 false (Operand.tmp 89) (Operand.const (Value.int IntKind.i64 8)) (AX.t 89) (AX.c (AV.v (Value.int IntKind.i64 8)))) none),(AI.mk (some 91) (AOp.mv (AX.t 90)) none),(AI.mk (some 92) (AOp.load true 2 (AX.t 4)) (some (91,true))),(AI.mk (some 93) (AOp.fad 4 (AX.t 5)) (some (91,true))),(AI.mk (some 94) (AOp.load false 1 (AX.t 93)) (some (91,true))),(AI.mk (some 95) (AOp.call 40 [(AX.t 92),(AX.t 94)]) (some (91,true))),(AI.mk (some 96) (AOp.bin BinOp.geq 3 false (Operand.tmp 95) (Operand.const (Value.int IntKind.i64 0)) (AX.t 95) (AX.c (AV.v (Value.int IntKind.i64 0)))) (some (91,true))),(AI.mk (some 97) (AOp.pick (AX.t 91) (AX.t 96) (AX.c (AV.v (Value.bool false)))) none),(AI.mk (some 87) (AOp.mv (AX.t 97)) none)]) (AC.cond (AX.t 87) (AC.draw [(AI.mk (some 98) (AOp.fad 1 (AX.t 8)) none),(AI.mk (some 99) (AOp.load false 1 (AX.t 98)) none),(AI.mk (some 100) (AOp.load true 2 (AX.t 4)) none),(AI.mk (some 101) (AOp.fad 4 (AX.t 5)) none),(AI.mk (some 102) (AOp.load false 1 (AX.t 101)) none),(AI.mk (some 103) (AOp.call 40 [(AX.t 100),(AX.t 102)]) none),(AI.mk (some 104) (AOp.load true 2 (AX.t 4)) none),(AI.mk (some 105) (AOp.fad 4 (AX.t 5)) none),(AI.mk (some 106) (AOp.load false 1 (AX.t 105)) none),(AI.mk (some 107) (AOp.call 40 [(AX.t 104),(AX.t 106)]) none),(AI.mk (some 108) (AOp.bin BinOp.add 3 false (Operand.tmp 107) (Operand.const (Value.int IntKind.i64 1)) (AX.t 107) (AX.c (AV.v (Value.int IntKind.i64 1)))) none),(AI.mk (some 109) (AOp.callh 41 [(AX.t 99),(AX.t 103),(AX.t 108)]) none),(AI.mk (some 110) (AOp.fad 1 (AX.t 8)) none),(AI.mk none (AOp.store 1 (AX.t 110) (AX.t 109)) none)]) (AC.seq (AC.region [(AI.mk (some 53) (AOp.load true 2 (AX.t 8)) none),(AI.mk none (AOp.store 2 (AX.t 6) (AX.t 53)) none),(AI.mk (some 7) (AOp.mv (AX.c (AV.v (Value.bool false)))) none)]) AC.ret)))))))) (AC.seq (AC.region [(AI.mk (some 111) (AOp.load true 2 (AX.t 8)) none),(AI.mk none (AOp.store 2 (AX.t 6) (AX.t 111)) none),(AI.mk (some 7) (AOp.mv (AX.c (AV.v (Value.bool true)))) none)]) AC.ret))))))))
theorem kop12:Zk Tryd.prog [36,41,60,65,66,68,79,87,90,97,101,102,103,104] 12=some C12:=by kernel_rfl
end Go.Proofs.YtgpldekhcojimaaDoor.Sim
namespace Go.Proofs.YtgpldekhcojimaaDoor.Sim
open Go.RowKit
set_option maxRecDepth 100000
open Pr7
theorem er_map (H:List Hd) (j:Nat) (hj:j < H.length):((H.map hA).take j++((H.map hA).take H.length).drop (j+1)).take (H.length - 1)=(H.eraseIdx j).map hA:=by
 have e1:(H.map hA).take H.length=H.map hA:=List.take_of_length_le (by simp)
 have e2:((H.map hA).take j++(H.map hA).drop (j+1)).length=H.length - 1:=by simp;omega
 rw [e1,List.take_of_length_le (Nat.le_of_eq e2),List.eraseIdx_eq_take_drop_succ,List.map_append,List.map_take,List.map_drop]
section
variable (k s t h b:Int) (l:List Pr) (H:List Hd) (x y z:ByteArray) (i:Int)
set_option maxHeartbeats 4000000 in
theorem aft_8 (ok : Cu l H) (hf : PC Tryd.prog z8 25 [cA k s t h b, xA 8 x y z i] (Bo true)) (v : Option ByteArray)
  (c37:PC Tryd.prog z8 37 [.sl 2 (l.map pA),S x] (.tup [S (v.getD ⟨#[]⟩),Bo v.isSome])) (j:Nat) (hj:j < H.length) (c40:PC Tryd.prog z8 40 [sA l H,I i] (I j)) :
  PC Tryd.prog z8 12 [cA k s t h b,sA l H,xA 8 x y z i] (.tup [sA l (H.eraseIdx j),Bo true]):=by
 have h6:=ok.h0
 have hH0:H ≠ []:=fun e=>by rw [e] at hj;simp at hj
 have c36:=cl36r z8 l H ok hH0
 have ue:=er_map H j hj
 have up:(((H.map hA).take j++((H.map hA).take H.length).drop (j+1)).take (H.length - 1)).all AV.isP=true:=by rw [ue];exact p_h _
 have up2:=p_h (H.eraseIdx j)
 have ul:((H.map hA).take j++((H.map hA).take H.length).drop (j+1)).length=H.length - 1:=by simp;omega
 have nh:=Z8 H
 have hl1:(H.map hA).length=H.length:=List.length_map _
 have hjm:(0:Int)≤(j:Int):=by omega
 cases v with
 | none =>
  change PC Tryd.prog z8 37 [.sl 2 (l.map pA),S x] (.tup [S ⟨#[]⟩,Bo false]) at c37
  refine zg kop12 ?_
  repeat' ((conv=>whnf);first|(with_reducible refine SeqP.go ?_)|((with_reducible refine ObD.mk ?_ ?_);exact zD)|((with_reducible refine ObN.mk ?_ ?_);exact zN)|(with_reducible first|refine ObT.tt ?_|refine ObT.ff ?_)|((with_reducible refine ObB.yes ?_ ?_);exact zB)|((with_reducible refine ObB.no ?_ ?_);exact zC)|((with_reducible refine ObI.nl ?_ ?_);omega)|((with_reducible refine (?_:ObU _ _));(refine ObU.mk _ zq5 ?_))|((with_reducible refine (?_:ObR _ _ _));(first|(refine ObR.mk _ z6 ?_)|(refine ObR.map zX (fun x hx=>?_))|(refine ObR.mk _ rfl ?_)))|((with_reducible refine ObC.f 25 ?_);(first|(with_reducible refine ObC.mk _ (hf) ?_)|(refine ObC.mk _ (hf) ?_)))|((with_reducible refine ObH.f 36 ?_);refine ObH.frn _ Wx [] (c36) (by simp) rfl (by simp) ?_)|((with_reducible refine ObC.f 37 ?_);(first|(with_reducible refine ObC.mk _ (c37) ?_)|(refine ObC.mk _ (c37) ?_)))|((with_reducible refine ObC.f 40 ?_);(first|(with_reducible refine ObC.mk _ (c40) ?_)|(refine ObC.mk _ (c40) ?_)))|((with_reducible refine ObH.f 41 ?_);(first|(with_reducible refine ObH.mk _ _ ((Wr z8 _ _ _ _ j _ rfl hj (by simp) (by simp;omega))) ?_)|(refine ObH.mk _ _ ((Wr z8 _ _ _ _ j _ rfl hj (by simp) (by simp;omega))) ?_)))|((with_reducible refine ObEq.mk ?_);exact zE)|((with_reducible refine ObAs.mk ?_ ?_);(focus (first|rfl|(simp [rnB,rnC,rnL];done))))|((with_reducible refine (?_:ObRs _ _ _));(refine ObRs.mk _ rfl ?_))|((with_reducible refine ObBk.same ?_ ?_);(focus (first|rfl|assumption|(simp;done)))))
 | some w =>
  change PC Tryd.prog z8 37 [.sl 2 (l.map pA),S x] (.tup [S w,Bo true]) at c37
  refine zg kop12 ?_
  repeat' ((conv=>whnf);first|(with_reducible refine SeqP.go ?_)|((with_reducible refine ObD.mk ?_ ?_);exact zD)|((with_reducible refine ObN.mk ?_ ?_);exact zN)|(with_reducible first|refine ObT.tt ?_|refine ObT.ff ?_)|((with_reducible refine ObB.yes ?_ ?_);exact zB)|((with_reducible refine ObB.no ?_ ?_);exact zC)|((with_reducible refine ObI.nl ?_ ?_);omega)|((with_reducible refine (?_:ObU _ _));(refine ObU.mk _ zq5 ?_))|((with_reducible refine (?_:ObR _ _ _));(first|(refine ObR.mk _ z6 ?_)|(refine ObR.map zX (fun x hx=>?_))|(refine ObR.mk _ rfl ?_)))|((with_reducible refine ObC.f 25 ?_);(first|(with_reducible refine ObC.mk _ (hf) ?_)|(refine ObC.mk _ (hf) ?_)))|((with_reducible refine ObH.f 36 ?_);refine ObH.frn _ Wx [] (c36) (by simp) rfl (by simp) ?_)|((with_reducible refine ObC.f 37 ?_);(first|(with_reducible refine ObC.mk _ (c37) ?_)|(refine ObC.mk _ (c37) ?_)))|((with_reducible refine ObC.f 40 ?_);(first|(with_reducible refine ObC.mk _ (c40) ?_)|(refine ObC.mk _ (c40) ?_)))|((with_reducible refine ObH.f 41 ?_);(first|(with_reducible refine ObH.mk _ _ ((Wr z8 _ _ _ _ j _ rfl hj (by simp) (by simp;omega))) ?_)|(refine ObH.mk _ _ ((Wr z8 _ _ _ _ j _ rfl hj (by simp) (by simp;omega))) ?_)))|((with_reducible refine ObEq.mk ?_);exact zE)|((with_reducible refine ObAs.mk ?_ ?_);(focus (first|rfl|(simp [rnB,rnC,rnL];done))))|((with_reducible refine (?_:ObRs _ _ _));(refine ObRs.mk _ rfl ?_))|((with_reducible refine ObBk.same ?_ ?_);(focus (first|rfl|assumption|(simp;done)))))
end
end Go.Proofs.YtgpldekhcojimaaDoor.Sim
namespace Go.Proofs.YtgpldekhcojimaaDoor.Sim
open Go.RowKit
set_option maxRecDepth 100000
open Pr7
def hOk (x:Hd):Prop:=x.2.length≤9223372036854775807∧∀ p ∈ x.2,p.1.size≤9223372036854775807∧p.2.size≤9223372036854775807
abbrev HdS:={x:Hd // hOk x}
def hC (x:HdS):List AV:=[I x.1.1,.sl 2 (x.1.2.map pA)]
theorem prs_inv {cs:List AV} (h:ShC Tryd.prog 24 cs):∃ l:List Pr,cs=[.sl 2 (l.map pA)]∧l.length≤9223372036854775807∧∀ p ∈ l,p.1.size≤9223372036854775807∧p.2.size≤9223372036854775807:=by
 have e2:Zz Tryd.prog 65=true:=by kernel_rfl
 have e4:(Tryd.prog).cellsOf 65=2:=by kernel_rfl
 obtain ⟨dss,rfl,hl,hll⟩:=h.slice_inv (e:=65) (by kernel_rfl)
 obtain ⟨ls,rfl⟩:=xi (f:=pC) (fun cs h=>pair_inv h) dss hll
 have g2:(List.map pC ls).map (mkE (Zz Tryd.prog 65))=(ls.map Subtype.val).map pA:=by rw [e2,List.map_map,List.map_map];rfl
 refine ⟨ls.map Subtype.val,?_,by simpa using hl,?_⟩
 ·rw [g2,e4]
 ·intro p hp
  obtain ⟨q,_,rfl⟩:=List.mem_map.1 hp
  exact q.2
theorem held_inv {cs:List AV} (h:ShC Tryd.prog 61 cs):∃ x:HdS,cs=hC x:=by
 have i1:(Tryd.prog).underlying 3=some (.int .i64):=by kernel_rfl
 obtain ⟨p0,q,rfl,hp0,h⟩:=(h.flds (ts:=[3,24]) (by kernel_rfl)).cons
 obtain ⟨p1,q,rfl,hp1,h⟩:=h.cons
 obtain rfl:=h.nil
 obtain ⟨n,rfl,_⟩:=hp0.i64_inv i1
 obtain ⟨l,rfl,h1,h2⟩:=prs_inv hp1
 exact ⟨⟨(n,l),h1,h2⟩,rfl⟩
theorem state_inv {cs:List AV} (h:ShC Tryd.prog 27 cs):∃ (l:List Pr) (H:List Hd),mkE true cs=sA l H∧SOk l H:=by
 have e2:Zz Tryd.prog 61=true:=by kernel_rfl
 have e4:(Tryd.prog).cellsOf 61=2:=by kernel_rfl
 obtain ⟨p0,q,rfl,hp0,h⟩:=(h.flds (ts:=[24,25]) (by kernel_rfl)).cons
 obtain ⟨p1,q,rfl,hp1,h⟩:=h.cons
 obtain rfl:=h.nil
 obtain ⟨l,rfl,h1,h2⟩:=prs_inv hp0
 obtain ⟨dss,rfl,hl,hll⟩:=hp1.slice_inv (e:=61) (by kernel_rfl)
 obtain ⟨ls,rfl⟩:=xi (f:=hC) (fun cs h=>held_inv h) dss hll
 have g2:(List.map hC ls).map (mkE (Zz Tryd.prog 61))=(ls.map Subtype.val).map hA:=by rw [e2,List.map_map,List.map_map];rfl
 refine ⟨l,ls.map Subtype.val,?_,h1,h2,by simpa using hl,?_⟩
 ·rw [g2,e4];rfl
 ·intro x hx
  obtain ⟨q,_,rfl⟩:=List.mem_map.1 hx
  exact q.2
end Go.Proofs.YtgpldekhcojimaaDoor.Sim
namespace Go.Proofs.YtgpldekhcojimaaDoor.Sim
open Go.RowKit
set_option maxRecDepth 100000
open Pr7
theorem Wm {H:List Hd} {id:Int} {j:Nat} (h:fx H id=some j):∃ hj:j < H.length,H[j].1=id:=by
 unfold fx at h
 rw [List.findIdx?_eq_some_iff_getElem] at h
 obtain ⟨h1,h2,_⟩:=h
 exact ⟨h1,by simpa using h2⟩
theorem XQ (a:Hd) (t:List Hd) (id:Int):fx (a::t) id=if a.1=id then some 0 else (fx t id).map (· + 1):=by
 unfold fx
 rw [List.findIdx?_cons]
 by_cases h:a.1=id<;>simp [h]
theorem at_mem {H:List Hd} {id:Int} {P:List Pr→Prop} (h0:P []) (h:∀ x ∈ H,P x.2):P (atV H id).1:=by
 unfold atV
 cases hf:fx H id with
 | none=>exact h0
 | some j =>
  obtain ⟨hj,_⟩:=Wm hf
  dsimp only
  rw [List.getD_eq_getElem?_getD,List.getElem?_eq_getElem hj]
  exact h _ (List.getElem_mem hj)
theorem cl36 (l:List Pr) (H:List Hd) (ok:Cu l H):PC Tryd.prog z8 36 [sA l H] (sA l H):=by
 by_cases e:H=[]
 ·subst e;exact cl36b z8 l ok
 ·exact cl36a z8 l H ok e
section
variable (k s t h b:Int) (hk:i64 k) (hs:i64 s) (ht:i64 t) (hh:i64 h) (hb:i64 b) (l:List Pr) (H:List Hd) (ok:Cu l H) (o:Int) (x y z:ByteArray) (i:Int) (ho:i64 o) (hi:i64 i) (hx:x.size≤40) (hy:y.size≤40) (hz:z.size≤40)
include hk hs ht hh hb ok ho hi hx hy hz
end
theorem int_inv {cs:List AV} (h:ShC Tryd.prog 3 cs):∃ n:Int,cs=[I n]∧i64 n:=by
 obtain ⟨n,e,h1,h2⟩:=h.i64_inv (by kernel_rfl)
 exact ⟨n,e,h1,h2⟩
theorem XA {cs:List AV} (h:ShC Tryd.prog 9 cs):∃ s:ByteArray,cs=[S s]∧s.size≤9223372036854775807:=h.str_inv (by kernel_rfl)
theorem conf_inv {cs:List AV} (h:ShC Tryd.prog 23 cs):∃ k s t h b:Int,mkE true cs=cA k s t h b∧i64 k∧i64 s∧i64 t∧i64 h∧i64 b:=by
 obtain ⟨p0,q,rfl,hp0,h⟩:=(h.flds (ts:=[3,3,3,3,3]) (by kernel_rfl)).cons
 obtain ⟨p1,q,rfl,hp1,h⟩:=h.cons
 obtain ⟨p2,q,rfl,hp2,h⟩:=h.cons
 obtain ⟨p3,q,rfl,hp3,h⟩:=h.cons
 obtain ⟨p4,q,rfl,hp4,h⟩:=h.cons
 obtain rfl:=h.nil
 obtain ⟨n0,rfl,h0⟩:=int_inv hp0
 obtain ⟨n1,rfl,h1⟩:=int_inv hp1
 obtain ⟨n2,rfl,h2⟩:=int_inv hp2
 obtain ⟨n3,rfl,h3⟩:=int_inv hp3
 obtain ⟨n4,rfl,h4⟩:=int_inv hp4
 exact ⟨n0,n1,n2,n3,n4,rfl,h0,h1,h2,h3,h4⟩
theorem call_inv {cs:List AV} (h:ShC Tryd.prog 29 cs):∃ (o:Int) (x y z:ByteArray) (i:Int),mkE true cs=xA o x y z i∧i64 o∧i64 i∧x.size≤9223372036854775807∧y.size≤9223372036854775807∧z.size≤9223372036854775807:=by
 obtain ⟨p0,q,rfl,hp0,h⟩:=(h.flds (ts:=[3,9,9,9,3]) (by kernel_rfl)).cons
 obtain ⟨p1,q,rfl,hp1,h⟩:=h.cons
 obtain ⟨p2,q,rfl,hp2,h⟩:=h.cons
 obtain ⟨p3,q,rfl,hp3,h⟩:=h.cons
 obtain ⟨p4,q,rfl,hp4,h⟩:=h.cons
 obtain rfl:=h.nil
 obtain ⟨o,rfl,h0⟩:=int_inv hp0
 obtain ⟨x,rfl,h1⟩:=XA hp1
 obtain ⟨y,rfl,h2⟩:=XA hp2
 obtain ⟨z,rfl,h3⟩:=XA hp3
 obtain ⟨i,rfl,h4⟩:=int_inv hp4
 exact ⟨o,x,y,z,i,rfl,h0,h4,h1,h2,h3⟩
end Go.Proofs.YtgpldekhcojimaaDoor.Sim
namespace Go.Proofs.YtgpldekhcojimaaDoor.Sim
open Go.RowKit
set_option maxRecDepth 100000
open Pr7
def ye (o i:Int) (H:List Hd):List Hd:=if o=8 then (match fx H i with|some j=>H.eraseIdx j|none=>H) else H
def yJ (o i:Int) (H:List Hd):Bool:=decide (o=8) && (fx H i).isSome
theorem fx_snoc (H:List Hd) (x:Hd) (i:Int):fx (H++[x]) i=match fx H i with|some j=>some j|none=>if x.1=i then some H.length else none:=by
 induction H with
 | nil=>simp only [List.nil_append];rw [XQ];by_cases h:x.1=i<;>simp [fx,h]
 | cons a t ih =>
  rw [List.cons_append,XQ,XQ,ih]
  by_cases h:a.1=i
  ·simp [h]
  ·simp only [h, if_false]
   cases fx t i with
   | some j=>rfl
   | none=>by_cases hx:x.1=i<;>simp [hx]
theorem remH_drop {o i:Int} {H:List Hd} {x:Hd} (h:o=8) (hx:x.1=i) (hg:yJ o i H=false):ye o i (H++[x])=ye o i H∧yJ o i (H++[x])=true:=by
 subst h
 unfold yJ at hg ⊢
 have hn:fx H i=none:=by
  cases hq:fx H i with
  | none=>rfl
  | some j=>rw [hq] at hg;simp at hg
 unfold ye
 rw [if_pos rfl,if_pos rfl,fx_snoc,hn]
 simp only [hx,if_true]
 constructor
 ·rw [List.eraseIdx_append_of_length_le (Nat.le_refl _)];simp
 ·rfl
theorem remH_keep {o i:Int} {H:List Hd} {x:Hd} (h:¬ (o=8∧x.1=i∧yJ o i H=false)):ye o i (H++[x])=ye o i H++[x]∧yJ o i (H++[x])=yJ o i H:=by
 unfold yJ ye at *
 by_cases h8:o=8
 ·subst h8
  simp only [if_true,decide_true,Bool.true_and,true_and] at h ⊢
  rw [fx_snoc]
  cases hq:fx H i with
  | some j =>
   obtain ⟨hj,_⟩:=Wm hq
   dsimp only
   exact ⟨List.eraseIdx_append_of_lt_length hj _,rfl⟩
  | none =>
   rw [hq] at h
   have hx:¬ x.1=i:=fun e=>h ⟨e,rfl⟩
   simp [hx]
 ·simp [h8]
theorem YW {o i:Int} {H:List Hd}:(ye o i H).length≤H.length:=by
 unfold ye
 split
 ·split
  ·exact List.length_eraseIdx_le _ _
  ·exact Nat.le_refl _
 ·exact Nat.le_refl _
section
variable (G:Nat→AV)
set_option maxHeartbeats 16000000 in
theorem raftA (l : List Pr) (H : List Hd) (hHl : H.length ≤ 1000000) (o : Int) (x y z : ByteArray) (i : Int) (v : Option ByteArray) (P D : List Pr)
  (c32:PC Tryd.prog G 32 [.sl 2 (l.map pA),S x] (.tup [S (v.getD ⟨#[]⟩),Bo v.isSome])) (c71:PC Tryd.prog G 71 [.sl 2 (l.map pA),S x,S y] (.sl 2 (P.map pA))) (c72:PC Tryd.prog G 72 [.sl 2 (l.map pA),S x] (.sl 2 (D.map pA)))
  (L:List Pr) (key:(o=5∧L=D)∨(¬ o=5∧((v=none∧(o=2∨o=3)∧L=P)∨(∃ w,v=some w∧(o=2∨(o=4∧w=z))∧L=P)))):PC Tryd.prog G 42 [sA l H,xA o x y z i] (sA L (ye o i H)):=by
 have nh:=Z8 H
 rcases key with ⟨o5,rfl⟩|⟨o5,⟨rfl,o2|o3,rfl⟩|⟨w,rfl,o2|⟨o4,wz⟩,rfl⟩⟩
 all_goals try (cases v)
 all_goals simp only [Option.getD_none,Option.isSome_none,Option.getD_some,Option.isSome_some] at c32
 all_goals
  refine zg cop42 ?_
  repeat' ((conv=>whnf);first|((with_reducible refine ObD.mk ?_ ?_);exact zD))
  conv=>whnf
  refine SeqP.go ?_
  repeat' ((conv=>whnf);first|((with_reducible refine ObN.mk ?_ ?_);exact zN)|((with_reducible refine (?_:ObR _ _ _));(first|(refine ObR.mk _ z6 ?_)|(refine ObR.map zX (fun x hx=>?_))|(refine ObR.mk _ rfl ?_)))|((with_reducible refine ObC.f 32 ?_);(first|(with_reducible refine ObC.mk _ (c32) ?_)|(refine ObC.mk _ (c32) ?_))))
  conv=>whnf
  refine SeqP.go ?_
  repeat' ((conv=>whnf);first|((with_reducible refine ObD.mk ?_ ?_);exact zD)|((with_reducible refine ObN.mk ?_ ?_);exact zN)|((with_reducible refine (?_:ObU _ _));(refine ObU.mk _ zU ?_))|((with_reducible refine (?_:ObR _ _ _));(first|(refine ObR.mk _ z6 ?_)|(refine ObR.map zX (fun x hx=>?_))|(refine ObR.mk _ rfl ?_))))
  conv=>whnf
  refine SeqP.go ?_
  repeat' ((conv=>whnf);first|((with_reducible refine ObN.mk ?_ ?_);exact zN)|(with_reducible first|refine ObT.tt ?_|refine ObT.ff ?_)|((with_reducible refine ObB.yes ?_ ?_);exact zB)|((with_reducible refine ObB.no ?_ ?_);exact zC)|((with_reducible refine (?_:ObR _ _ _));(first|(refine ObR.mk _ z6 ?_)|(refine ObR.map zX (fun x hx=>?_))|(refine ObR.mk _ rfl ?_))))
  conv=>whnf
  refine SeqP.go ?_
  repeat' ((conv=>whnf);first|((with_reducible refine ObD.mk ?_ ?_);exact zD)|((with_reducible refine ObN.mk ?_ ?_);exact zN)|(with_reducible first|refine ObT.tt ?_|refine ObT.ff ?_)|((with_reducible refine (?_:ObU _ _));(refine ObU.mk _ zU ?_))|((with_reducible refine (?_:ObR _ _ _));(first|(refine ObR.mk _ z6 ?_)|(refine ObR.map zX (fun x hx=>?_))|(refine ObR.mk _ rfl ?_)))|((with_reducible refine ObC.f 71 ?_);(first|(with_reducible refine ObC.mk _ (c71) ?_)|(refine ObC.mk _ (c71) ?_))))
  conv=>whnf
  refine SeqP.go ?_
  refine (wG (α:=Unit) (fun _=>True) (fun _=>[(5,none),(0,none),(3,none),(0,none),(0,none),(0,none),(0,none),(0,none),(0,none),(0,none),(0,none),(0,none),(0,none),(0,none),(0,none),(0,none),(0,none),(0,none),(0,none),(0,none),(0,none),(0,none),(0,none),(0,none),(0,none),(0,none),(0,none),(0,none),(0,none),(0,none),(0,none),(0,none),(0,none),(0,none),(0,none),(0,none),(0,none),(0,none),(0,none),(0,none),(0,none),(0,none),(0,none),(0,none),(0,none),(0,none),(0,none),(0,none),(0,none),(0,none),(0,none),(0,none),(0,none),(0,none),(0,none),(0,none)]) (fun _=>[⟨27,2,[sA l H],0,0⟩,⟨29,5,[xA o x y z i],0,0⟩,⟨27,2,[.agg [.nl 2,.nl 2]],0,0⟩,⟨27,2,[.agg [.sl 2 (L.map pA),.nl 2]],0,0⟩]) ?_ ?_)
  ·intro Q hQ
   repeat' ((conv=>whnf);first|(with_reducible refine SeqP.go ?_)|((with_reducible refine ObD.mk ?_ ?_);exact zD)|((with_reducible refine ObN.mk ?_ ?_);exact zN)|(with_reducible first|refine ObT.tt ?_|refine ObT.ff ?_)|((with_reducible refine ObB.yes ?_ ?_);exact zB)|((with_reducible refine ObB.no ?_ ?_);exact zC)|((with_reducible refine (?_:ObU _ _));(refine ObU.mk _ zU ?_))|((with_reducible refine (?_:ObR _ _ _));(first|(refine ObR.mk _ z6 ?_)|(refine ObR.map zX (fun x hx=>?_))|(refine ObR.mk _ rfl ?_)))|((with_reducible refine ObC.f 72 ?_);(first|(with_reducible refine ObC.mk _ (c72) ?_)|(refine ObC.mk _ (c72) ?_))))
   conv=>whnf
   refine hQ _ _ () trivial (Fg.go ?_ rfl)
   repeat' ((conv=>whnf);first|((with_reducible refine ObEqs.mk ?_ ?_);rfl)|exact True.intro)
  ·rintro ⟨⟩ -
   repeat' ((conv=>whnf);first|(with_reducible refine SeqP.go ?_))
   conv=>whnf
   refine LoopP.go (α:=Nat × List Hd × Bool) (fun p=>p.1≤H.length∧p.2.1=ye o i (H.take p.1)∧p.2.2=yJ o i (H.take p.1)) (fun p=>H.length - p.1) (fun p=>[(8,some (Bo p.2.2)),(0,some (I p.1)),(54,none),(0,none),(0,none),(0,none),(0,none),(0,none),(0,none),(0,none),(0,none),(0,none),(0,none),(0,none),(0,none),(0,none),(0,none),(0,none),(0,none),(0,none),(0,none),(0,none),(0,none),(0,none),(0,none),(0,none),(0,none),(0,none),(0,none),(0,none),(0,none),(0,none),(0,none),(0,none),(0,none),(0,none),(0,none)]) (fun p=>[⟨27,2,[sA l H],0,0⟩,⟨29,5,[xA o x y z i],0,0⟩,⟨27,2,[.agg [.nl 2,.nl 2]],0,0⟩,⟨27,2,[.agg [.sl 2 (L.map pA),hS 4 p.2.1]],0,0⟩]++hH 61 p.2.1) (0,[],false) ⟨Nat.zero_le _,by simp [ye,fx],by simp [yJ,fx]⟩ (Fg.go ?_ rfl) ?_
   ·repeat' ((conv=>whnf);first|((with_reducible refine ObEqs.mk ?_ ?_);rfl)|((with_reducible refine ObEq1.i ?_ ?_);exact zF)|((with_reducible refine ObEq1.mk ?_ ?_);exact zE)|exact True.intro)
   rintro ⟨n,out,g⟩ ⟨hn,ho,hg⟩
   dsimp only at hn ho hg ⊢
   have hol:out.length≤H.length:=by rw [ho];exact Nat.le_trans YW zq13
   by_cases hnl:n < H.length
   ·have q := y5 hnl
    have ft:=List.take_succ_eq_append_getElem hnl
    generalize H[n]=w at *
    have d1:=fun (h:o=8) (hx:w.1=i) (hg:yJ o i (H.take n)=false)=>remH_drop (x:=w) h hx hg
    have d2:=fun (h:¬ (o=8∧w.1=i∧yJ o i (H.take n)=false))=>remH_keep (x:=w) h
    rw [← ft] at d1 d2
    rw [← ho,← hg] at d1 d2
    by_cases hd:o=8∧w.1=i∧g=false
    ·obtain ⟨h8, hwi, rfl⟩ := hd
     obtain ⟨e1,e2⟩:=d1 h8 hwi rfl
     clear d1 d2
     rcases out with _|⟨o0,ot⟩
     ·repeat' ((conv=>whnf);first|(with_reducible refine SeqP.go ?_)|((with_reducible refine ObD.mk ?_ ?_);exact zD)|((with_reducible refine ObN.mk ?_ ?_);exact zN)|(with_reducible first|refine ObT.tt ?_|refine ObT.ff ?_)|((with_reducible refine ObB.yes ?_ ?_);exact zB)|((with_reducible refine ObI.nl ?_ ?_);omega)|((with_reducible refine ObX.mk _ rfl ?_ ?_);exact zX)|((with_reducible refine (?_:ObL _ _));(refine ObL.mk _ zM ?_))|((with_reducible refine (?_:ObR _ _ _));(first|(refine ObR.mk _ (by assumption) ?_)|(refine ObR.mk _ (by exact q) ?_)|(refine ObR.mk _ Zv ?_)|(refine ObR.map zX (fun x hx=>?_))|(refine ObR.mk _ rfl ?_))))
      all_goals conv=>whnf
      refine Again.mk (n+1,[],true) ⟨by dsimp only;omega,by dsimp only;rw [e1],by dsimp only;rw [e2]⟩ ?_ (Fg.go ?_ rfl)
      ·dsimp only;omega
      repeat' ((conv=>whnf);first|((with_reducible refine ObEqs.mk ?_ ?_);rfl)|((with_reducible refine ObEq1.i ?_ ?_);exact zF)|((with_reducible refine ObEq1.mk ?_ ?_);exact zE)|exact True.intro)
     ·have r2 := Z8 (o0 :: ot)
      repeat' ((conv=>whnf);first|(with_reducible refine SeqP.go ?_)|((with_reducible refine ObD.mk ?_ ?_);exact zD)|((with_reducible refine ObN.mk ?_ ?_);exact zN)|(with_reducible first|refine ObT.tt ?_|refine ObT.ff ?_)|((with_reducible refine ObB.yes ?_ ?_);exact zB)|((with_reducible refine ObI.nl ?_ ?_);omega)|((with_reducible refine ObX.mk _ rfl ?_ ?_);exact zX)|((with_reducible refine (?_:ObL _ _));(refine ObL.mk _ zM ?_))|((with_reducible refine (?_:ObR _ _ _));(first|(refine ObR.mk _ (by assumption) ?_)|(refine ObR.mk _ (by exact q) ?_)|(refine ObR.mk _ Zv ?_)|(refine ObR.map zX (fun x hx=>?_))|(refine ObR.mk _ rfl ?_))))
      all_goals conv=>whnf
      refine Again.mk (n+1,o0::ot,true) ⟨by dsimp only;omega,by dsimp only;rw [e1],by dsimp only;rw [e2]⟩ ?_ (Fg.go ?_ rfl)
      ·dsimp only;omega
      repeat' ((conv=>whnf);first|((with_reducible refine ObEqs.mk ?_ ?_);rfl)|((with_reducible refine ObEq1.i ?_ ?_);exact zF)|((with_reducible refine ObEq1.mk ?_ ?_);exact zE)|exact True.intro)
    ·obtain ⟨e1, e2⟩ := d2 hd
     clear d1 d2
     have h3:¬ o=8∨(o=8∧¬ w.1=i)∨(o=8∧w.1=i∧g=true):=by
      by_cases h8:o=8
      ·by_cases hwi : w.1 = i
       ·refine .inr (.inr ⟨h8, hwi, ?_⟩)
        cases g
        ·exact absurd ⟨h8,hwi,rfl⟩ hd
        ·rfl
       ·exact .inr (.inl ⟨h8,hwi⟩)
      ·exact .inl h8
     clear hd
     cases g
     ·rcases h3 with h8 | ⟨h8, hwi⟩ | ⟨h8, hwi, gt⟩
      rotate_left 2
      ·cases gt
      all_goals try (exfalso;omega)
      all_goals
       rcases out with _|⟨o0,ot⟩
       ·have r1 := Z8 [w]
        repeat' ((conv=>whnf);first|(with_reducible refine SeqP.go ?_)|((with_reducible refine ObD.mk ?_ ?_);exact zD)|((with_reducible refine ObN.mk ?_ ?_);exact zN)|(with_reducible first|refine ObT.tt ?_|refine ObT.ff ?_)|((with_reducible refine ObB.yes ?_ ?_);exact zB)|((with_reducible refine ObB.no ?_ ?_);exact zC)|((with_reducible refine ObI.nl ?_ ?_);omega)|((with_reducible refine ObX.mk _ rfl ?_ ?_);exact zX)|((with_reducible refine (?_:ObL _ _));(refine ObL.mk _ zM ?_))|((with_reducible refine (?_:ObU _ _));(refine ObU.mk _ zU ?_))|((with_reducible refine (?_:ObR _ _ _));(first|(refine ObR.mk _ (by assumption) ?_)|(refine ObR.mk _ (by exact q) ?_)|(refine ObR.mk _ Zv ?_)|(refine ObR.map zX (fun x hx=>?_))|(refine ObR.mk _ rfl ?_)))|((with_reducible refine ObW.cons ?_ ?_);(focus (first|assumption|(simp;done)))))
        all_goals conv=>whnf
        refine Again.mk (n+1,[w],false) ⟨by dsimp only;omega,e1.symm,e2.symm⟩ ?_ (Fg.vw [(0,0,0),(0,1,0),(0,2,0),(0,3,0),(0,5,0)] ?_ ?_ (by simp) ?_)
        ·dsimp only;omega
        all_goals repeat' ((conv=>whnf);first|((with_reducible refine ObRow.lit ?_ ?_);(focus (simp [rnB,rnC,rnL,AV.cells,hS];done)))|((with_reducible refine ObRn.mk ?_ ?_);(focus (simp [rnB,rnC,rnA,rnT,hS];done)))|((with_reducible refine ObN.mk ?_ ?_);exact zN)|((with_reducible refine ObRow.same ?_ ?_ ?_);exact zE;(focus (first|rfl|assumption|(simp;done))))|((with_reducible refine ObEqs.mk ?_ ?_);rfl)|exact True.intro)
       ·have r1 := Z8 ((o0 :: ot) ++ [w])
        have r2:=Z8 (o0::ot)
        have hol2:ot.length+1≤H.length:=hol
        have us:((o0::ot).map hA).take (ot.length+1)++[.agg [I w.1,.sl 2 (w.2.map pA)]]=((o0::ot)++[w]).map hA:=YM (l:=o0::ot) (x:=w)
        repeat' ((conv=>whnf);first|(with_reducible refine SeqP.go ?_)|((with_reducible refine ObD.mk ?_ ?_);exact zD)|((with_reducible refine ObN.mk ?_ ?_);exact zN)|(with_reducible first|refine ObT.tt ?_|refine ObT.ff ?_)|((with_reducible refine ObB.yes ?_ ?_);exact zB)|((with_reducible refine ObB.no ?_ ?_);exact zC)|((with_reducible refine ObI.nl ?_ ?_);omega)|((with_reducible refine ObX.mk _ rfl ?_ ?_);exact zX)|((with_reducible refine (?_:ObL _ _));(refine ObL.mk _ zM ?_))|((with_reducible refine (?_:ObU _ _));(refine ObU.mk _ zq1 ?_))|((with_reducible refine (?_:ObR _ _ _));(first|(refine ObR.mk _ (by assumption) ?_)|(refine ObR.mk _ (by exact q) ?_)|(refine ObR.mk _ Zv ?_)|(refine ObR.map zX (fun x hx=>?_))|(refine ObR.mk _ rfl ?_))))
        all_goals conv=>whnf
        refine Again.mk (n+1,(o0::ot)++[w],false) ⟨by dsimp only;omega,e1.symm,e2.symm⟩ ?_ (Fg.vw [(0,0,0),(0,1,0),(0,2,0),(0,3,0),(0,4,1)] ?_ ?_ (by simp) ?_)
        ·dsimp only;omega
        all_goals repeat' ((conv=>whnf);first|((with_reducible refine ObRow.lit ?_ ?_);(focus (simp [rnB,rnC,rnL,AV.cells,hS];done)))|((with_reducible refine ObRn.mk ?_ ?_);(focus (simp [rnB,rnC,rnA,rnT,hS];done)))|((with_reducible refine ObN.mk ?_ ?_);exact zN)|((with_reducible refine ObRow.same ?_ ?_ ?_);exact zE;(focus (first|rfl|assumption|(simp;done))))|((with_reducible refine ObEqs.mk ?_ ?_);rfl)|exact True.intro)
     ·rcases h3 with h8 | ⟨h8, hwi⟩ | ⟨h8, hwi, gt⟩
      all_goals try (exfalso;omega)
      all_goals
       rcases out with _|⟨o0,ot⟩
       ·have r1 := Z8 [w]
        repeat' ((conv=>whnf);first|(with_reducible refine SeqP.go ?_)|((with_reducible refine ObD.mk ?_ ?_);exact zD)|((with_reducible refine ObN.mk ?_ ?_);exact zN)|(with_reducible first|refine ObT.tt ?_|refine ObT.ff ?_)|((with_reducible refine ObB.yes ?_ ?_);exact zB)|((with_reducible refine ObB.no ?_ ?_);exact zC)|((with_reducible refine ObI.nl ?_ ?_);omega)|((with_reducible refine ObX.mk _ rfl ?_ ?_);exact zX)|((with_reducible refine (?_:ObL _ _));(refine ObL.mk _ zM ?_))|((with_reducible refine (?_:ObU _ _));(refine ObU.mk _ zU ?_))|((with_reducible refine (?_:ObR _ _ _));(first|(refine ObR.mk _ (by assumption) ?_)|(refine ObR.mk _ (by exact q) ?_)|(refine ObR.mk _ Zv ?_)|(refine ObR.map zX (fun x hx=>?_))|(refine ObR.mk _ rfl ?_)))|((with_reducible refine ObW.cons ?_ ?_);(focus (first|assumption|(simp;done)))))
        all_goals conv=>whnf
        refine Again.mk (n+1,[w],true) ⟨by dsimp only;omega,e1.symm,e2.symm⟩ ?_ (Fg.vw [(0,0,0),(0,1,0),(0,2,0),(0,3,0),(0,5,0)] ?_ ?_ (by simp) ?_)
        ·dsimp only;omega
        all_goals repeat' ((conv=>whnf);first|((with_reducible refine ObRow.lit ?_ ?_);(focus (simp [rnB,rnC,rnL,AV.cells,hS];done)))|((with_reducible refine ObRn.mk ?_ ?_);(focus (simp [rnB,rnC,rnA,rnT,hS];done)))|((with_reducible refine ObN.mk ?_ ?_);exact zN)|((with_reducible refine ObRow.same ?_ ?_ ?_);exact zE;(focus (first|rfl|assumption|(simp;done))))|((with_reducible refine ObEqs.mk ?_ ?_);rfl)|exact True.intro)
       ·have r1 := Z8 ((o0 :: ot) ++ [w])
        have r2:=Z8 (o0::ot)
        have hol2:ot.length+1≤H.length:=hol
        have us:((o0::ot).map hA).take (ot.length+1)++[.agg [I w.1,.sl 2 (w.2.map pA)]]=((o0::ot)++[w]).map hA:=YM (l:=o0::ot) (x:=w)
        repeat' ((conv=>whnf);first|(with_reducible refine SeqP.go ?_)|((with_reducible refine ObD.mk ?_ ?_);exact zD)|((with_reducible refine ObN.mk ?_ ?_);exact zN)|(with_reducible first|refine ObT.tt ?_|refine ObT.ff ?_)|((with_reducible refine ObB.yes ?_ ?_);exact zB)|((with_reducible refine ObB.no ?_ ?_);exact zC)|((with_reducible refine ObI.nl ?_ ?_);omega)|((with_reducible refine ObX.mk _ rfl ?_ ?_);exact zX)|((with_reducible refine (?_:ObL _ _));(refine ObL.mk _ zM ?_))|((with_reducible refine (?_:ObU _ _));(refine ObU.mk _ zq1 ?_))|((with_reducible refine (?_:ObR _ _ _));(first|(refine ObR.mk _ (by assumption) ?_)|(refine ObR.mk _ (by exact q) ?_)|(refine ObR.mk _ Zv ?_)|(refine ObR.map zX (fun x hx=>?_))|(refine ObR.mk _ rfl ?_))))
        all_goals conv=>whnf
        refine Again.mk (n+1,(o0::ot)++[w],true) ⟨by dsimp only;omega,e1.symm,e2.symm⟩ ?_ (Fg.vw [(0,0,0),(0,1,0),(0,2,0),(0,3,0),(0,4,1)] ?_ ?_ (by simp) ?_)
        ·dsimp only;omega
        all_goals repeat' ((conv=>whnf);first|((with_reducible refine ObRow.lit ?_ ?_);(focus (simp [rnB,rnC,rnL,AV.cells,hS];done)))|((with_reducible refine ObRn.mk ?_ ?_);(focus (simp [rnB,rnC,rnA,rnT,hS];done)))|((with_reducible refine ObN.mk ?_ ?_);exact zN)|((with_reducible refine ObRow.same ?_ ?_ ?_);exact zE;(focus (first|rfl|assumption|(simp;done))))|((with_reducible refine ObEqs.mk ?_ ?_);rfl)|exact True.intro)
   ·obtain rfl : n = H.length := by omega
    rw [List.take_length] at ho
    rw [← ho]
    clear ho hg
    rcases out with _|⟨o0,ot⟩
    ·repeat' ((conv=>whnf);first|(with_reducible refine SeqP.go ?_)|((with_reducible refine ObD.mk ?_ ?_);exact zD)|((with_reducible refine ObN.mk ?_ ?_);exact zN)|(with_reducible refine ObT.ff ?_)|((with_reducible refine ObB.no ?_ ?_);exact zC)|((with_reducible refine (?_:ObL _ _));(refine ObL.mk _ zL ?_))|((with_reducible refine (?_:ObU _ _));(refine ObU.mk _ zU ?_))|((with_reducible refine (?_:ObR _ _ _));(first|(refine ObR.mk _ z6 ?_)|(refine ObR.map zX (fun x hx=>?_))|(refine ObR.mk _ rfl ?_)))|((with_reducible refine ObEq.mk ?_);exact zE))
    ·have la : ((o0 :: ot).map hA).take (ot.length + 1) = (o0 :: ot).map hA := xX (l := o0 :: ot)
     have lp:=p_h (o0::ot)
     have lq:(((o0::ot).map hA).take (ot.length+1)).all AV.isP=true:=by rw [la];exact lp
     have hol2:ot.length+1≤H.length:=hol
     repeat' ((conv=>whnf);first|(with_reducible refine SeqP.go ?_)|((with_reducible refine ObD.mk ?_ ?_);exact zD)|((with_reducible refine ObN.mk ?_ ?_);exact zN)|(with_reducible refine ObT.ff ?_)|((with_reducible refine ObB.no ?_ ?_);exact zC)|((with_reducible refine (?_:ObL _ _));(refine ObL.mk _ zL ?_))|((with_reducible refine (?_:ObU _ _));(refine ObU.mk _ zq2 ?_))|((with_reducible refine (?_:ObR _ _ _));(first|(refine ObR.mk _ z6 ?_)|(refine ObR.map zX (fun x hx=>?_))|(refine ObR.mk _ rfl ?_)))|((with_reducible refine ObEq.mk ?_);exact zE))
set_option maxHeartbeats 16000000 in
theorem raftB (l : List Pr) (H : List Hd) (hHl : H.length ≤ 1000000) (o : Int) (x y z : ByteArray) (i : Int) (v : Option ByteArray) (P D : List Pr)
  (c32:PC Tryd.prog G 32 [.sl 2 (l.map pA),S x] (.tup [S (v.getD ⟨#[]⟩),Bo v.isSome])) (c71:PC Tryd.prog G 71 [.sl 2 (l.map pA),S x,S y] (.sl 2 (P.map pA))) (c72:PC Tryd.prog G 72 [.sl 2 (l.map pA),S x] (.sl 2 (D.map pA)))
  (o5:¬ o=5) (key:(v=none∧¬ o=2∧¬ o=3)∨(∃ w,v=some w∧¬ o=2∧(¬ o=4∨¬ w=z))):PC Tryd.prog G 42 [sA l H,xA o x y z i] (sA l (ye o i H)):=by
 have nh:=Z8 H
 rcases key with ⟨rfl,o2,o3⟩|⟨w,rfl,o2,o4|wz⟩
 all_goals by_cases o3':o=3
 all_goals by_cases o4':o=4
 all_goals try (exfalso;omega)
 all_goals simp only [Option.getD_none,Option.isSome_none,Option.getD_some,Option.isSome_some] at c32
 all_goals
  refine zg cop42 ?_
  repeat' ((conv=>whnf);first|((with_reducible refine ObD.mk ?_ ?_);exact zD))
  conv=>whnf
  refine SeqP.go ?_
  repeat' ((conv=>whnf);first|((with_reducible refine ObN.mk ?_ ?_);exact zN)|((with_reducible refine (?_:ObR _ _ _));(first|(refine ObR.mk _ z6 ?_)|(refine ObR.map zX (fun x hx=>?_))|(refine ObR.mk _ rfl ?_)))|((with_reducible refine ObC.f 32 ?_);(first|(with_reducible refine ObC.mk _ (c32) ?_)|(refine ObC.mk _ (c32) ?_))))
  conv=>whnf
  refine SeqP.go ?_
  repeat' ((conv=>whnf);first|((with_reducible refine ObD.mk ?_ ?_);exact zD)|((with_reducible refine ObN.mk ?_ ?_);exact zN)|((with_reducible refine (?_:ObU _ _));(refine ObU.mk _ zU ?_))|((with_reducible refine (?_:ObR _ _ _));(first|(refine ObR.mk _ z6 ?_)|(refine ObR.map zX (fun x hx=>?_))|(refine ObR.mk _ rfl ?_))))
  conv=>whnf
  refine SeqP.go ?_
  repeat' ((conv=>whnf);first|((with_reducible refine ObN.mk ?_ ?_);exact zN)|(with_reducible first|refine ObT.tt ?_|refine ObT.ff ?_)|((with_reducible refine ObB.yes ?_ ?_);exact zB)|((with_reducible refine ObB.no ?_ ?_);exact zC)|((with_reducible refine (?_:ObR _ _ _));(first|(refine ObR.mk _ z6 ?_)|(refine ObR.map zX (fun x hx=>?_))|(refine ObR.mk _ rfl ?_))))
  conv=>whnf
  refine SeqP.go ?_
  repeat' ((conv=>whnf);first|(with_reducible refine ObT.ff ?_))
  conv=>whnf
  refine SeqP.go ?_
  refine (wG (α:=Unit) (fun _=>True) (fun _=>[(5,none),(0,none),(3,none),(0,none),(0,none),(0,none),(0,none),(0,none),(0,none),(0,none),(0,none),(0,none),(0,none),(0,none),(0,none),(0,none),(0,none),(0,none),(0,none),(0,none),(0,none),(0,none),(0,none),(0,none),(0,none),(0,none),(0,none),(0,none),(0,none),(0,none),(0,none),(0,none),(0,none),(0,none),(0,none),(0,none),(0,none),(0,none),(0,none),(0,none),(0,none),(0,none),(0,none),(0,none),(0,none),(0,none),(0,none),(0,none),(0,none),(0,none),(0,none),(0,none),(0,none),(0,none),(0,none),(0,none)]) (fun _=>[⟨27,2,[sA l H],0,0⟩,⟨29,5,[xA o x y z i],0,0⟩,⟨27,2,[.agg [.nl 2,.nl 2]],0,0⟩,⟨27,2,[.agg [.sl 2 (l.map pA),.nl 2]],0,0⟩]) ?_ ?_)
  ·intro Q hQ
   repeat' ((conv=>whnf);first|(with_reducible refine SeqP.go ?_)|((with_reducible refine ObN.mk ?_ ?_);exact zN)|(with_reducible refine ObT.ff ?_)|((with_reducible refine ObB.no ?_ ?_);exact zC)|((with_reducible refine (?_:ObR _ _ _));(first|(refine ObR.mk _ z6 ?_)|(refine ObR.map zX (fun x hx=>?_))|(refine ObR.mk _ rfl ?_))))
   conv=>whnf
   refine hQ _ _ () trivial (Fg.go ?_ rfl)
   repeat' ((conv=>whnf);first|((with_reducible refine ObEqs.mk ?_ ?_);rfl)|exact True.intro)
  ·rintro ⟨⟩ -
   repeat' ((conv=>whnf);first|(with_reducible refine SeqP.go ?_))
   conv=>whnf
   refine LoopP.go (α:=Nat × List Hd × Bool) (fun p=>p.1≤H.length∧p.2.1=ye o i (H.take p.1)∧p.2.2=yJ o i (H.take p.1)) (fun p=>H.length - p.1) (fun p=>[(8,some (Bo p.2.2)),(0,some (I p.1)),(54,none),(0,none),(0,none),(0,none),(0,none),(0,none),(0,none),(0,none),(0,none),(0,none),(0,none),(0,none),(0,none),(0,none),(0,none),(0,none),(0,none),(0,none),(0,none),(0,none),(0,none),(0,none),(0,none),(0,none),(0,none),(0,none),(0,none),(0,none),(0,none),(0,none),(0,none),(0,none),(0,none),(0,none),(0,none)]) (fun p=>[⟨27,2,[sA l H],0,0⟩,⟨29,5,[xA o x y z i],0,0⟩,⟨27,2,[.agg [.nl 2,.nl 2]],0,0⟩,⟨27,2,[.agg [.sl 2 (l.map pA),hS 4 p.2.1]],0,0⟩]++hH 61 p.2.1) (0,[],false) ⟨Nat.zero_le _,by simp [ye,fx],by simp [yJ,fx]⟩ (Fg.go ?_ rfl) ?_
   ·repeat' ((conv=>whnf);first|((with_reducible refine ObEqs.mk ?_ ?_);rfl)|((with_reducible refine ObEq1.i ?_ ?_);exact zF)|((with_reducible refine ObEq1.mk ?_ ?_);exact zE)|exact True.intro)
   rintro ⟨n,out,g⟩ ⟨hn,ho,hg⟩
   dsimp only at hn ho hg ⊢
   have hol:out.length≤H.length:=by rw [ho];exact Nat.le_trans YW zq13
   by_cases hnl:n < H.length
   ·have q := y5 hnl
    have ft:=List.take_succ_eq_append_getElem hnl
    generalize H[n]=w at *
    have d1:=fun (h:o=8) (hx:w.1=i) (hg:yJ o i (H.take n)=false)=>remH_drop (x:=w) h hx hg
    have d2:=fun (h:¬ (o=8∧w.1=i∧yJ o i (H.take n)=false))=>remH_keep (x:=w) h
    rw [← ft] at d1 d2
    rw [← ho,← hg] at d1 d2
    by_cases hd:o=8∧w.1=i∧g=false
    ·obtain ⟨h8, hwi, rfl⟩ := hd
     obtain ⟨e1,e2⟩:=d1 h8 hwi rfl
     clear d1 d2
     rcases out with _|⟨o0,ot⟩
     ·repeat' ((conv=>whnf);first|(with_reducible refine SeqP.go ?_)|((with_reducible refine ObD.mk ?_ ?_);exact zD)|((with_reducible refine ObN.mk ?_ ?_);exact zN)|(with_reducible first|refine ObT.tt ?_|refine ObT.ff ?_)|((with_reducible refine ObB.yes ?_ ?_);exact zB)|((with_reducible refine ObI.nl ?_ ?_);omega)|((with_reducible refine ObX.mk _ rfl ?_ ?_);exact zX)|((with_reducible refine (?_:ObL _ _));(refine ObL.mk _ zM ?_))|((with_reducible refine (?_:ObR _ _ _));(first|(refine ObR.mk _ (by assumption) ?_)|(refine ObR.mk _ (by exact q) ?_)|(refine ObR.mk _ Zv ?_)|(refine ObR.map zX (fun x hx=>?_))|(refine ObR.mk _ rfl ?_))))
      all_goals conv=>whnf
      refine Again.mk (n+1,[],true) ⟨by dsimp only;omega,by dsimp only;rw [e1],by dsimp only;rw [e2]⟩ ?_ (Fg.go ?_ rfl)
      ·dsimp only;omega
      repeat' ((conv=>whnf);first|((with_reducible refine ObEqs.mk ?_ ?_);rfl)|((with_reducible refine ObEq1.i ?_ ?_);exact zF)|((with_reducible refine ObEq1.mk ?_ ?_);exact zE)|exact True.intro)
     ·have r2 := Z8 (o0 :: ot)
      repeat' ((conv=>whnf);first|(with_reducible refine SeqP.go ?_)|((with_reducible refine ObD.mk ?_ ?_);exact zD)|((with_reducible refine ObN.mk ?_ ?_);exact zN)|(with_reducible first|refine ObT.tt ?_|refine ObT.ff ?_)|((with_reducible refine ObB.yes ?_ ?_);exact zB)|((with_reducible refine ObI.nl ?_ ?_);omega)|((with_reducible refine ObX.mk _ rfl ?_ ?_);exact zX)|((with_reducible refine (?_:ObL _ _));(refine ObL.mk _ zM ?_))|((with_reducible refine (?_:ObR _ _ _));(first|(refine ObR.mk _ (by assumption) ?_)|(refine ObR.mk _ (by exact q) ?_)|(refine ObR.mk _ Zv ?_)|(refine ObR.map zX (fun x hx=>?_))|(refine ObR.mk _ rfl ?_))))
      all_goals conv=>whnf
      refine Again.mk (n+1,o0::ot,true) ⟨by dsimp only;omega,by dsimp only;rw [e1],by dsimp only;rw [e2]⟩ ?_ (Fg.go ?_ rfl)
      ·dsimp only;omega
      repeat' ((conv=>whnf);first|((with_reducible refine ObEqs.mk ?_ ?_);rfl)|((with_reducible refine ObEq1.i ?_ ?_);exact zF)|((with_reducible refine ObEq1.mk ?_ ?_);exact zE)|exact True.intro)
    ·obtain ⟨e1, e2⟩ := d2 hd
     clear d1 d2
     have h3:¬ o=8∨(o=8∧¬ w.1=i)∨(o=8∧w.1=i∧g=true):=by
      by_cases h8:o=8
      ·by_cases hwi : w.1 = i
       ·refine .inr (.inr ⟨h8, hwi, ?_⟩)
        cases g
        ·exact absurd ⟨h8,hwi,rfl⟩ hd
        ·rfl
       ·exact .inr (.inl ⟨h8,hwi⟩)
      ·exact .inl h8
     clear hd
     cases g
     ·rcases h3 with h8 | ⟨h8, hwi⟩ | ⟨h8, hwi, gt⟩
      rotate_left 2
      ·cases gt
      all_goals try (exfalso;omega)
      all_goals
       rcases out with _|⟨o0,ot⟩
       ·have r1 := Z8 [w]
        repeat' ((conv=>whnf);first|(with_reducible refine SeqP.go ?_)|((with_reducible refine ObD.mk ?_ ?_);exact zD)|((with_reducible refine ObN.mk ?_ ?_);exact zN)|(with_reducible first|refine ObT.tt ?_|refine ObT.ff ?_)|((with_reducible refine ObB.yes ?_ ?_);exact zB)|((with_reducible refine ObB.no ?_ ?_);exact zC)|((with_reducible refine ObI.nl ?_ ?_);omega)|((with_reducible refine ObX.mk _ rfl ?_ ?_);exact zX)|((with_reducible refine (?_:ObL _ _));(refine ObL.mk _ zM ?_))|((with_reducible refine (?_:ObU _ _));(refine ObU.mk _ zU ?_))|((with_reducible refine (?_:ObR _ _ _));(first|(refine ObR.mk _ (by assumption) ?_)|(refine ObR.mk _ (by exact q) ?_)|(refine ObR.mk _ Zv ?_)|(refine ObR.map zX (fun x hx=>?_))|(refine ObR.mk _ rfl ?_)))|((with_reducible refine ObW.cons ?_ ?_);(focus (first|assumption|(simp;done)))))
        all_goals conv=>whnf
        refine Again.mk (n+1,[w],false) ⟨by dsimp only;omega,e1.symm,e2.symm⟩ ?_ (Fg.vw [(0,0,0),(0,1,0),(0,2,0),(0,3,0),(0,5,0)] ?_ ?_ (by simp) ?_)
        ·dsimp only;omega
        all_goals repeat' ((conv=>whnf);first|((with_reducible refine ObRow.lit ?_ ?_);(focus (simp [rnB,rnC,rnL,AV.cells,hS];done)))|((with_reducible refine ObRn.mk ?_ ?_);(focus (simp [rnB,rnC,rnA,rnT,hS];done)))|((with_reducible refine ObN.mk ?_ ?_);exact zN)|((with_reducible refine ObRow.same ?_ ?_ ?_);exact zE;(focus (first|rfl|assumption|(simp;done))))|((with_reducible refine ObEqs.mk ?_ ?_);rfl)|exact True.intro)
       ·have r1 := Z8 ((o0 :: ot) ++ [w])
        have r2:=Z8 (o0::ot)
        have hol2:ot.length+1≤H.length:=hol
        have us:((o0::ot).map hA).take (ot.length+1)++[.agg [I w.1,.sl 2 (w.2.map pA)]]=((o0::ot)++[w]).map hA:=YM (l:=o0::ot) (x:=w)
        repeat' ((conv=>whnf);first|(with_reducible refine SeqP.go ?_)|((with_reducible refine ObD.mk ?_ ?_);exact zD)|((with_reducible refine ObN.mk ?_ ?_);exact zN)|(with_reducible first|refine ObT.tt ?_|refine ObT.ff ?_)|((with_reducible refine ObB.yes ?_ ?_);exact zB)|((with_reducible refine ObB.no ?_ ?_);exact zC)|((with_reducible refine ObI.nl ?_ ?_);omega)|((with_reducible refine ObX.mk _ rfl ?_ ?_);exact zX)|((with_reducible refine (?_:ObL _ _));(refine ObL.mk _ zM ?_))|((with_reducible refine (?_:ObU _ _));(refine ObU.mk _ zq1 ?_))|((with_reducible refine (?_:ObR _ _ _));(first|(refine ObR.mk _ (by assumption) ?_)|(refine ObR.mk _ (by exact q) ?_)|(refine ObR.mk _ Zv ?_)|(refine ObR.map zX (fun x hx=>?_))|(refine ObR.mk _ rfl ?_))))
        all_goals conv=>whnf
        refine Again.mk (n+1,(o0::ot)++[w],false) ⟨by dsimp only;omega,e1.symm,e2.symm⟩ ?_ (Fg.vw [(0,0,0),(0,1,0),(0,2,0),(0,3,0),(0,4,1)] ?_ ?_ (by simp) ?_)
        ·dsimp only;omega
        all_goals repeat' ((conv=>whnf);first|((with_reducible refine ObRow.lit ?_ ?_);(focus (simp [rnB,rnC,rnL,AV.cells,hS];done)))|((with_reducible refine ObRn.mk ?_ ?_);(focus (simp [rnB,rnC,rnA,rnT,hS];done)))|((with_reducible refine ObN.mk ?_ ?_);exact zN)|((with_reducible refine ObRow.same ?_ ?_ ?_);exact zE;(focus (first|rfl|assumption|(simp;done))))|((with_reducible refine ObEqs.mk ?_ ?_);rfl)|exact True.intro)
     ·rcases h3 with h8 | ⟨h8, hwi⟩ | ⟨h8, hwi, gt⟩
      all_goals try (exfalso;omega)
      all_goals
       rcases out with _|⟨o0,ot⟩
       ·have r1 := Z8 [w]
        repeat' ((conv=>whnf);first|(with_reducible refine SeqP.go ?_)|((with_reducible refine ObD.mk ?_ ?_);exact zD)|((with_reducible refine ObN.mk ?_ ?_);exact zN)|(with_reducible first|refine ObT.tt ?_|refine ObT.ff ?_)|((with_reducible refine ObB.yes ?_ ?_);exact zB)|((with_reducible refine ObB.no ?_ ?_);exact zC)|((with_reducible refine ObI.nl ?_ ?_);omega)|((with_reducible refine ObX.mk _ rfl ?_ ?_);exact zX)|((with_reducible refine (?_:ObL _ _));(refine ObL.mk _ zM ?_))|((with_reducible refine (?_:ObU _ _));(refine ObU.mk _ zU ?_))|((with_reducible refine (?_:ObR _ _ _));(first|(refine ObR.mk _ (by assumption) ?_)|(refine ObR.mk _ (by exact q) ?_)|(refine ObR.mk _ Zv ?_)|(refine ObR.map zX (fun x hx=>?_))|(refine ObR.mk _ rfl ?_)))|((with_reducible refine ObW.cons ?_ ?_);(focus (first|assumption|(simp;done)))))
        all_goals conv=>whnf
        refine Again.mk (n+1,[w],true) ⟨by dsimp only;omega,e1.symm,e2.symm⟩ ?_ (Fg.vw [(0,0,0),(0,1,0),(0,2,0),(0,3,0),(0,5,0)] ?_ ?_ (by simp) ?_)
        ·dsimp only;omega
        all_goals repeat' ((conv=>whnf);first|((with_reducible refine ObRow.lit ?_ ?_);(focus (simp [rnB,rnC,rnL,AV.cells,hS];done)))|((with_reducible refine ObRn.mk ?_ ?_);(focus (simp [rnB,rnC,rnA,rnT,hS];done)))|((with_reducible refine ObN.mk ?_ ?_);exact zN)|((with_reducible refine ObRow.same ?_ ?_ ?_);exact zE;(focus (first|rfl|assumption|(simp;done))))|((with_reducible refine ObEqs.mk ?_ ?_);rfl)|exact True.intro)
       ·have r1 := Z8 ((o0 :: ot) ++ [w])
        have r2:=Z8 (o0::ot)
        have hol2:ot.length+1≤H.length:=hol
        have us:((o0::ot).map hA).take (ot.length+1)++[.agg [I w.1,.sl 2 (w.2.map pA)]]=((o0::ot)++[w]).map hA:=YM (l:=o0::ot) (x:=w)
        repeat' ((conv=>whnf);first|(with_reducible refine SeqP.go ?_)|((with_reducible refine ObD.mk ?_ ?_);exact zD)|((with_reducible refine ObN.mk ?_ ?_);exact zN)|(with_reducible first|refine ObT.tt ?_|refine ObT.ff ?_)|((with_reducible refine ObB.yes ?_ ?_);exact zB)|((with_reducible refine ObB.no ?_ ?_);exact zC)|((with_reducible refine ObI.nl ?_ ?_);omega)|((with_reducible refine ObX.mk _ rfl ?_ ?_);exact zX)|((with_reducible refine (?_:ObL _ _));(refine ObL.mk _ zM ?_))|((with_reducible refine (?_:ObU _ _));(refine ObU.mk _ zq1 ?_))|((with_reducible refine (?_:ObR _ _ _));(first|(refine ObR.mk _ (by assumption) ?_)|(refine ObR.mk _ (by exact q) ?_)|(refine ObR.mk _ Zv ?_)|(refine ObR.map zX (fun x hx=>?_))|(refine ObR.mk _ rfl ?_))))
        all_goals conv=>whnf
        refine Again.mk (n+1,(o0::ot)++[w],true) ⟨by dsimp only;omega,e1.symm,e2.symm⟩ ?_ (Fg.vw [(0,0,0),(0,1,0),(0,2,0),(0,3,0),(0,4,1)] ?_ ?_ (by simp) ?_)
        ·dsimp only;omega
        all_goals repeat' ((conv=>whnf);first|((with_reducible refine ObRow.lit ?_ ?_);(focus (simp [rnB,rnC,rnL,AV.cells,hS];done)))|((with_reducible refine ObRn.mk ?_ ?_);(focus (simp [rnB,rnC,rnA,rnT,hS];done)))|((with_reducible refine ObN.mk ?_ ?_);exact zN)|((with_reducible refine ObRow.same ?_ ?_ ?_);exact zE;(focus (first|rfl|assumption|(simp;done))))|((with_reducible refine ObEqs.mk ?_ ?_);rfl)|exact True.intro)
   ·obtain rfl : n = H.length := by omega
    rw [List.take_length] at ho
    rw [← ho]
    clear ho hg
    rcases out with _|⟨o0,ot⟩
    ·repeat' ((conv=>whnf);first|(with_reducible refine SeqP.go ?_)|((with_reducible refine ObD.mk ?_ ?_);exact zD)|((with_reducible refine ObN.mk ?_ ?_);exact zN)|(with_reducible refine ObT.ff ?_)|((with_reducible refine ObB.no ?_ ?_);exact zC)|((with_reducible refine (?_:ObL _ _));(refine ObL.mk _ zL ?_))|((with_reducible refine (?_:ObU _ _));(refine ObU.mk _ zU ?_))|((with_reducible refine (?_:ObR _ _ _));(first|(refine ObR.mk _ z6 ?_)|(refine ObR.map zX (fun x hx=>?_))|(refine ObR.mk _ rfl ?_)))|((with_reducible refine ObEq.mk ?_);exact zE))
    ·have la : ((o0 :: ot).map hA).take (ot.length + 1) = (o0 :: ot).map hA := xX (l := o0 :: ot)
     have lp:=p_h (o0::ot)
     have lq:(((o0::ot).map hA).take (ot.length+1)).all AV.isP=true:=by rw [la];exact lp
     have hol2:ot.length+1≤H.length:=hol
     repeat' ((conv=>whnf);first|(with_reducible refine SeqP.go ?_)|((with_reducible refine ObD.mk ?_ ?_);exact zD)|((with_reducible refine ObN.mk ?_ ?_);exact zN)|(with_reducible refine ObT.ff ?_)|((with_reducible refine ObB.no ?_ ?_);exact zC)|((with_reducible refine (?_:ObL _ _));(refine ObL.mk _ zL ?_))|((with_reducible refine (?_:ObU _ _));(refine ObU.mk _ zq2 ?_))|((with_reducible refine (?_:ObR _ _ _));(first|(refine ObR.mk _ z6 ?_)|(refine ObR.map zX (fun x hx=>?_))|(refine ObR.mk _ rfl ?_)))|((with_reducible refine ObEq.mk ?_);exact zE))
end
end Go.Proofs.YtgpldekhcojimaaDoor.Sim
namespace Go.Proofs.YtgpldekhcojimaaDoor.Sim
open Go.RowKit
set_option maxRecDepth 100000
open Pr7
theorem put_same {l:List Pr} {x y:ByteArray}:mk l=mk (pt (mk l) x y)↔val l x=some y:=by
 rw [xt (pt_lt (ZR l) x y)]
 constructor
 ·intro e
  have:=congrArg (fun m=>val m x) e
  rw [yX,wO,if_pos rfl] at this
  exact this
 ·intro e
  refine XL (ZR l) (pt_lt (ZR l) x y) fun k=>?_
  rw [wO]
  split
  ·rename_i h;subst h;rw [yX,e]
  ·rfl
theorem val_dr {m:List Pr} {k x:ByteArray}:val (dr m k) x=if x=k then none else val m x:=by
 unfold val
 rw [fk_dr]
 by_cases h:x=k<;>simp [h]
theorem drop_same {l:List Pr} {x:ByteArray}:mk l=mk (dr (mk l) x)↔val l x=none:=by
 rw [xt (dr_lt (ZR l) x)]
 constructor
 ·intro e
  have:=congrArg (fun m=>val m x) e
  rw [yX,val_dr,if_pos rfl] at this
  exact this
 ·intro e
  refine XL (ZR l) (dr_lt (ZR l) x) fun k=>?_
  rw [val_dr]
  split
  ·rename_i h;subst h;rw [yX,e]
  ·rfl
theorem erase_ne {H:List Hd} {j:Nat} (hj:j < H.length):¬ sH H (H.eraseIdx j):=by
 intro e
 have:=congrArg List.length e
 simp only [List.length_map,List.length_eraseIdx,if_pos hj] at this
 omega
theorem aft_cases (l : List Pr) (H : List Hd) (o : Int) (x y z : ByteArray) (i : Int) :
  ((mk l=mk (if o=5 then dr (mk l) x else if ZF o (val l x) z=true then mk (l++[(x,y)]) else l)∧sH H (ye o i H))∧aft l H o x y z i=(l,H,false))
  ∨ (¬ (mk l=mk (if o=5 then dr (mk l) x else if ZF o (val l x) z=true then mk (l++[(x,y)]) else l)∧sH H (ye o i H))∧aft l H o x y z i=((if o=5 then dr (mk l) x else if ZF o (val l x) z=true then mk (l++[(x,y)]) else l),ye o i H,true)):=by
 unfold aft
 by_cases o5:o=5
 ·subst o5
  have hp:ZF 5 (val l x) z=false:=by simp [ZF]
  have hr:ye 5 i H=H:=by simp [ye]
  rw [if_pos rfl,hr,if_neg (by simp [hp])]
  by_cases hv:(val l x).isSome=true
  ·rw [if_pos ⟨rfl, hv⟩]
   refine .inr ⟨fun e=>?_,rfl⟩
   rw [drop_same.1 e.1] at hv
   cases hv
  ·rw [if_neg (fun e=>hv e.2)]
   exact .inl ⟨⟨drop_same.2 (by simpa using hv),rfl⟩,rfl⟩
 rw [if_neg o5]
 by_cases hp:ZF o (val l x) z=true
 ·rw [if_pos hp, ← pt_mk]
  have o8:¬ o=8:=fun e=>by subst e;simp [ZF] at hp
  have hr:ye o i H=H:=by simp [ye,o8]
  rw [hr]
  by_cases hv:val l x=some y
  ·rw [if_neg (fun e=>e.2 hv),if_neg (fun e=>o5 e.1)]
   refine .inl ⟨⟨put_same.2 hv,rfl⟩,?_⟩
   split
   ·exact absurd rfl o8
   ·rfl
  ·rw [if_pos ⟨hp, hv⟩]
   exact .inr ⟨fun e=>hv (put_same.1 e.1),rfl⟩
 ·rw [if_neg hp,if_neg (fun e=>hp e.1),if_neg (fun e=>o5 e.1)]
  by_cases o8:o=8
  ·subst o8
   unfold ye
   rw [if_pos rfl]
   cases hf:fx H i with
   | none=>exact .inl ⟨⟨rfl,rfl⟩,rfl⟩
   | some j =>
    obtain ⟨hj,_⟩:=Wm hf
    exact .inr ⟨fun e=>erase_ne hj e.2,rfl⟩
  ·have hr : ye o i H = H := by simp [ye, o8]
   rw [hr]
   refine .inl ⟨⟨rfl,rfl⟩,?_⟩
   split
   ·exact absurd rfl o8
   ·rfl
theorem aft_else (l:List Pr) (H:List Hd) (o:Int) (x y z:ByteArray) (i:Int) (h8:¬ (o=8∧∃ j,fx H i=some j)) (hp:¬ (ZF o (val l x) z=true∧val l x ≠ some y)) (h5:¬ (o=5∧(val l x).isSome=true)):aft l H o x y z i=(l,H,false):=by
 unfold aft
 rw [if_neg hp,if_neg h5]
 by_cases o8:o=8
 ·subst o8
  cases hq:fx H i with
  | none=>rfl
  | some j=>exact absurd ⟨rfl,j,hq⟩ h8
 ·split
  ·exact absurd rfl o8
  ·rfl
section
variable (k s t h b:Int) (l:List Pr) (H:List Hd) (ok:Cu l H) (o:Int) (x y z:ByteArray) (i:Int) (hx:x.size≤40) (hy:y.size≤40)
include ok hx in
theorem after_eq (hf:PC Tryd.prog z8 25 [cA k s t h b,xA o x y z i] (Bo true)) (A:List Pr × List Hd × Bool) (hA:A=aft l H o x y z i):PC Tryd.prog z8 12 [cA k s t h b,sA l H,xA o x y z i] (.tup [sA A.1 A.2.1,Bo A.2.2]):=by
 have c36:=cl36 l H ok
 have hM:=Pr7.hM z8
 have c37:=get9 z8 hM l ok.l1 ok.l0 x (by omega)
 have c38:=put17 z8 hM l ok.l1 ok.l0 x y (by omega)
 have c39:=drop19 z8 hM l ok.l1 ok.l0 x (by omega)
 have c40:=XN z8 l H (by have:=ok.h0;omega) i
 by_cases h8:o=8∧∃ j,fx H i=some j
 ·obtain ⟨rfl, j, hj⟩ := h8
  obtain ⟨hjl,_⟩:=Wm hj
  have e:hix H i=(j:Int):=by unfold hix;rw [hj]
  rw [e] at c40
  unfold aft at hA
  rw [if_neg (by simp [ZF]),if_neg (by omega),hj] at hA
  subst hA
  exact aft_8 k s t h b l H x y z i ok hf _ c37 j hjl c40
 ·have hm:=fun hp h5=>aft_else l H o x y z i h8 hp h5
  have c40':o=8→PC Tryd.prog z8 40 [sA l H,I i] (I (-1)):=fun o8=>by
   have hn:fx H i=none:=by
    cases hq:fx H i with
    | none=>rfl
    | some j=>exact absurd ⟨o8,j,hq⟩ h8
   have e:hix H i = -1:=by unfold hix;rw [hn]
   rwa [e] at c40
  obtain ⟨a1,a2,a3⟩:=aft_12 k s t h b l H o x y z i hf c36 _ c37 _ _ c38 c39 c40'
  by_cases hp:ZF o (val l x) z=true∧val l x ≠ some y
  ·unfold aft at hA
   rw [if_pos hp] at hA
   subst hA
   exact a1 hp.1 hp.2
  ·by_cases h5 : o = 5 ∧ (val l x).isSome = true
   ·unfold aft at hA
    rw [if_neg hp,if_pos h5] at hA
    subst hA
    exact a2 h5.1 h5.2
   ·rw [hm hp h5] at hA
    subst hA
    exact a3 hp h5
variable (G:Nat→AV)
include ok hx hy in
theorem rafter42:PC Tryd.prog G 42 [sA l H,xA o x y z i] (sA (if o=5 then dr (mk l) x else if ZF o (val l x) z=true then mk (l++[(x,y)]) else l) (ye o i H)):=by
 have c32:=Pr7.get10 G l ok.l1 x
 have c71:=rput18 G l ok.l1 ok.l0 x y (by omega) (by omega)
 have c72:=rdrop20 G l ok.l1 x (by omega)
 have hH:H.length≤1000000:=by have:=ok.h0;omega
 by_cases o5:o=5
 ·rw [if_pos o5]
  exact raftA G l H hH o x y z i _ _ _ c32 c71 c72 _ (.inl ⟨o5,rfl⟩)
 rw [if_neg o5]
 generalize val l x=v at *
 by_cases hp:ZF o v z=true
 ·rw [if_pos hp]
  refine raftA G l H hH o x y z i _ _ _ c32 c71 c72 _ (.inr ⟨o5,?_⟩)
  cases v with
  | none=>exact .inl ⟨rfl,by simpa [ZF] using hp,rfl⟩
  | some w=>exact .inr ⟨w,rfl,by simpa [ZF] using hp,rfl⟩
 ·rw [if_neg hp]
  refine raftB G l H hH o x y z i _ _ _ c32 c71 c72 o5 ?_
  cases v with
  | none =>
   refine .inl ⟨rfl,fun e=>hp (by simp [ZF,e]),fun e=>hp (by simp [ZF,e])⟩
  | some w =>
   refine .inr ⟨w,rfl,fun e=>hp (by simp [ZF,e]),?_⟩
   by_cases o4:o=4
   ·exact .inr fun e=>hp (by simp [ZF,o4,e])
   ·exact .inl o4
theorem rafter13_no (c31:PC Tryd.prog G 31 [cA k s t h b,xA o x y z i] (Bo false)):PC Tryd.prog G 13 [cA k s t h b,sA l H,xA o x y z i] (.tup [sA l H,Bo false]):=by
 refine zg cop13 ?_
 repeat' ((conv=>whnf);first|(with_reducible refine SeqP.go ?_)|((with_reducible refine ObD.mk ?_ ?_);exact zD)|((with_reducible refine ObN.mk ?_ ?_);exact zN)|(with_reducible first|refine ObT.tt ?_|refine ObT.ff ?_)|((with_reducible refine (?_:ObU _ _));(refine ObU.mk _ zU ?_))|((with_reducible refine (?_:ObR _ _ _));(first|(refine ObR.mk _ z6 ?_)|(refine ObR.map zX (fun x hx=>?_))|(refine ObR.mk _ rfl ?_)))|((with_reducible refine ObC.f 31 ?_);(first|(with_reducible refine ObC.mk _ (c31) ?_)|(refine ObC.mk _ (c31) ?_)))|((with_reducible refine ObEq.mk ?_);exact zE))
include ok hx hy in
theorem rafter13 (c31:PC Tryd.prog G 31 [cA k s t h b,xA o x y z i] (Bo true)) (A:List Pr × List Hd × Bool) (hA:A=aft l H o x y z i):PC Tryd.prog G 13 [cA k s t h b,sA l H,xA o x y z i] (.tup [sA A.1 A.2.1,Bo A.2.2]):=by
 have c42:=rafter42 l H ok o x y z i hx hy G
 have hc:=aft_cases l H o x y z i
 have l0:=ok.l0
 have h6:=ok.h0
 have hmo:∀ m:List Pr,Okl m→Okl (mk m):=fun m hm=>YH hm
 have hok2:(if o=5 then dr (mk l) x else if ZF o (val l x) z=true then mk (l++[(x,y)]) else l).length≤1000∧Okl (if o=5 then dr (mk l) x else if ZF o (val l x) z=true then mk (l++[(x,y)]) else l):=by
  split
  ·have h1 := Z9 l
   have h2:(dr (mk l) x).length≤(mk l).length:=List.length_filter_le _ _
   exact ⟨by omega,⟨by have:=ok.l1.len;omega,fun p hp=>(hmo l ok.l1).sz p (List.mem_filter.1 hp).1⟩⟩
  ·split
   ·have h1 := Z9 (l ++ [(x, y)])
    rw [List.length_append] at h1
    simp only [List.length_cons,List.length_nil] at h1
    refine ⟨by omega,hmo _ ⟨by simp;omega,fun p hp=>?_⟩⟩
    rcases List.mem_append.1 hp with hp|hp
    ·exact ok.l1.sz p hp
    ·obtain rfl := List.mem_singleton.1 hp
     exact ⟨by dsimp only;omega,by dsimp only;omega⟩
   ·exact ⟨by omega,ok.l1⟩
 have hH2:(ye o i H).length≤1000∧∀ x ∈ ye o i H,x.2.length≤1000∧Okl x.2:=by
  have h1:=YW (o:=o) (i:=i) (H:=H)
  refine ⟨by omega,fun w hw=>?_⟩
  have hw':w ∈ H:=by
   unfold ye at hw
   split at hw
   ·split at hw
    ·exact List.mem_of_mem_eraseIdx hw
    ·exact hw
   ·exact hw
  exact ⟨by have:=(ok.h1 w hw').1;omega,(ok.h1 w hw').2⟩
 generalize (if o=5 then dr (mk l) x else if ZF o (val l x) z=true then mk (l++[(x,y)]) else l)=L at *
 generalize ye o i H=K at *
 rcases hc with ⟨hs,ha⟩|⟨hs,ha⟩
 ·rw [ha] at hA
  subst hA
  have c14:=rsame G ok.r.1 hok2 ok.r.2 hH2 true (by simp [hs])
  refine zg cop13 ?_
  repeat' ((conv=>whnf);first|(with_reducible refine SeqP.go ?_)|((with_reducible refine ObD.mk ?_ ?_);exact zD)|((with_reducible refine ObN.mk ?_ ?_);exact zN)|(with_reducible first|refine ObT.tt ?_|refine ObT.ff ?_)|((with_reducible refine (?_:ObU _ _));(refine ObU.mk _ zU ?_))|((with_reducible refine (?_:ObR _ _ _));(first|(refine ObR.mk _ z6 ?_)|(refine ObR.map zX (fun x hx=>?_))|(refine ObR.mk _ rfl ?_)))|((with_reducible refine ObC.f 31 ?_);(first|(with_reducible refine ObC.mk _ (c31) ?_)|(refine ObC.mk _ (c31) ?_)))|((with_reducible refine ObC.f 42 ?_);(first|(with_reducible refine ObC.mk _ (c42) ?_)|(refine ObC.mk _ (c42) ?_)))|((with_reducible refine ObC.f 14 ?_);(first|(with_reducible refine ObC.mk _ (c14) ?_)|(refine ObC.mk _ (c14) ?_)))|((with_reducible refine ObEq.mk ?_);exact zE))
 ·rw [ha] at hA
  subst hA
  have c14:=rsame G ok.r.1 hok2 ok.r.2 hH2 false (by simpa using hs)
  refine zg cop13 ?_
  repeat' ((conv=>whnf);first|(with_reducible refine SeqP.go ?_)|((with_reducible refine ObD.mk ?_ ?_);exact zD)|((with_reducible refine ObN.mk ?_ ?_);exact zN)|(with_reducible first|refine ObT.tt ?_|refine ObT.ff ?_)|((with_reducible refine (?_:ObU _ _));(refine ObU.mk _ zU ?_))|((with_reducible refine (?_:ObR _ _ _));(first|(refine ObR.mk _ z6 ?_)|(refine ObR.map zX (fun x hx=>?_))|(refine ObR.mk _ rfl ?_)))|((with_reducible refine ObC.f 31 ?_);(first|(with_reducible refine ObC.mk _ (c31) ?_)|(refine ObC.mk _ (c31) ?_)))|((with_reducible refine ObC.f 42 ?_);(first|(with_reducible refine ObC.mk _ (c42) ?_)|(refine ObC.mk _ (c42) ?_)))|((with_reducible refine ObC.f 14 ?_);(first|(with_reducible refine ObC.mk _ (c14) ?_)|(refine ObC.mk _ (c14) ?_)))|((with_reducible refine ObEq.mk ?_);exact zE))
end
end Go.Proofs.YtgpldekhcojimaaDoor.Sim
namespace Go.Proofs.YtgpldekhcojimaaDoor.Sim
open Go.RowKit
set_option maxRecDepth 100000
open Pr7
theorem fOk_o {k s t h b o:Int} {x y z:ByteArray} {i:Int} (e:fOk k s t h b o x y z i=true):1≤o∧o≤13:=by
 unfold fOk at e
 rw [Bool.and_eq_true,decide_eq_true_eq,decide_eq_true_eq] at e
 have e2:=e.2
 unfold Conf.fits Conf.ft at e2
 split at e2
 ·omega
 ·rename_i h;omega
theorem XZ {l:List Pr} {p:Pr} (h:p ∈ few l):p.1.size≤40:=by
 unfold few at h
 obtain ⟨q,_,rfl⟩:=List.mem_map.1 h
 exact yw q.1
theorem aft_r (l : List Pr) (H : List Hd) (ok : Cu l H) (o : Int) (x y z : ByteArray) (i : Int) (hx : x.size ≤ 40) (hy : y.size ≤ 40) :
  ((aft l H o x y z i).1.length≤1000∧Okl (aft l H o x y z i).1)∧((aft l H o x y z i).2.1.length≤1000∧∀ u ∈ (aft l H o x y z i).2.1,u.2.length≤1000∧Okl u.2):=by
 rcases aft_cases l H o x y z i with ⟨_,ha⟩|⟨_,ha⟩
 ·rw [ha];exact ok.r
 ·rw [ha]
  dsimp only
  have l0:=ok.l0
  have h6:=ok.h0
  have hmo:∀ m:List Pr,Okl m→Okl (mk m):=fun m hm=>YH hm
  refine ⟨?_,?_⟩
  ·split
   ·have h1 := Z9 l
    have h2:(dr (mk l) x).length≤(mk l).length:=List.length_filter_le _ _
    exact ⟨by omega,⟨by have:=ok.l1.len;omega,fun p hp=>(hmo l ok.l1).sz p (List.mem_filter.1 hp).1⟩⟩
   ·split
    ·have h1 := Z9 (l ++ [(x, y)])
     rw [List.length_append] at h1
     simp only [List.length_cons,List.length_nil] at h1
     refine ⟨by omega,hmo _ ⟨by simp;omega,fun p hp=>?_⟩⟩
     rcases List.mem_append.1 hp with hp|hp
     ·exact ok.l1.sz p hp
     ·obtain rfl := List.mem_singleton.1 hp
      exact ⟨by dsimp only;omega,by dsimp only;omega⟩
    ·exact ⟨by omega,ok.l1⟩
  ·have h1 := YW (o := o) (i := i) (H := H)
   refine ⟨by omega,fun w hw=>?_⟩
   have hw':w ∈ H:=by
    unfold ye at hw
    split at hw
    ·split at hw
     ·exact List.mem_of_mem_eraseIdx hw
     ·exact hw
    ·exact hw
   exact ⟨by have:=(ok.h1 w hw').1;omega,(ok.h1 w hw').2⟩
theorem Cu.sz {l:List Pr} {H:List Hd} (c:Cu l H) {x:Hd} (hx:x ∈ H) {p:Pr} (hp:p ∈ x.2):p.1.size≤40:=by
 rw [← c.hf] at hx
 obtain ⟨y,e⟩:=fH_mem hx
 rw [e] at hp
 exact XZ hp
section
variable (k s t h b:Int) (hk:i64 k) (hs:i64 s) (ht:i64 t) (hh:i64 h) (hb:i64 b) (l:List Pr) (H:List Hd) (ok:Cu l H) (o:Int) (x y z:ByteArray) (i:Int) (ho:i64 o) (hi:i64 i) (hx:x.size≤40) (hy:y.size≤40) (hz:z.size≤40)
include hk hs ht hh hb ok ho hi hx hy hz
theorem both_ans:∃ (r:An × Bool),PC Tryd.prog z8 9 [cA k s t h b,sA l H,xA o x y z i] (.tup [r.1.A,Bo r.2])∧PC Tryd.prog z8 11 [cA k s t h b,sA l H,xA o x y z i] (.tup [r.1.A,Bo r.2]):=by
 have hf:=XV k s t h b o x y z i hk hs ht hh hb ho hi (by omega) (by omega) (by omega) _ rfl
 have hr:=rfits31 z8 k s t h b o x y z i hk hs ht hh hb (by omega) (by omega) (by omega) _ rfl
 cases hq:fOk k s t h b o x y z i with
 | false =>
  rw [hq] at hf hr
  exact ⟨(an0,false),ans_no k s t h b l H o x y z i hf,rans_no z8 k s t h b l H o x y z i hr⟩
 | true =>
  rw [hq] at hf hr
  have ho':=fOk_o hq
  have hH:H.length≤1000000:=by have:=ok.h0;omega
  have hl:∀ x ∈ H,x.2.length≤40∧Okl x.2∧∀ p ∈ mk x.2,p.1.size≤100000:=fun x hx=>⟨(ok.h1 x hx).1,(ok.h1 x hx).2,fun p hp=>by have:=ok.sz hx (wQ hp);omega⟩
  refine ⟨an k b l H o x i,ans9 k s t h b l H o x y z i hx hf ho' ⟨ok.l0,ok.l1⟩ (fun h1 h2=>?_) _ rfl,rans z8 k s t h b hb l H o x y z i hx hr ho' ⟨ok.l0,ok.l1⟩ hH ?_ _ rfl⟩
  ·by_cases e : o = 11
   ·exact held11 k s t h b hb l H o x y z i hx e hH hl
   ·exact held29 k s t h b hb l H o x y z i hx ⟨h1,h2⟩ e hH hl
  ·exact at_mem (P:=fun l=>l.length≤40∧Okl l∧∀ p ∈ mk l,p.1.size≤100000) ⟨by simp,⟨by simp,fun p hp=>by simp at hp⟩,fun p hp=>by simp [xt List.Pairwise.nil] at hp⟩ hl
theorem both_aft:∃ (L:List Pr) (K:List Hd) (ch:Bool),((L.length≤1000∧Okl L)∧(K.length≤1000∧∀ x ∈ K,x.2.length≤1000∧Okl x.2))∧PC Tryd.prog z8 12 [cA k s t h b,sA l H,xA o x y z i] (.tup [sA L K,Bo ch])∧PC Tryd.prog z8 13 [cA k s t h b,sA l H,xA o x y z i] (.tup [sA L K,Bo ch]):=by
 have hf:=XV k s t h b o x y z i hk hs ht hh hb ho hi (by omega) (by omega) (by omega) _ rfl
 have hr:=rfits31 z8 k s t h b o x y z i hk hs ht hh hb (by omega) (by omega) (by omega) _ rfl
 cases hq:fOk k s t h b o x y z i with
 | false =>
  rw [hq] at hf hr
  exact ⟨l,H,false,ok.r,aft_no k s t h b l H o x y z i hf (cl36 l H ok),rafter13_no k s t h b l H o x y z i z8 hr⟩
 | true =>
  rw [hq] at hf hr
  have c12:=after_eq k s t h b l H ok o x y z i hx hf _ rfl
  have c13:=rafter13 k s t h b l H ok o x y z i hx hy z8 hr _ rfl
  have hr:=aft_r l H ok o x y z i hx hy
  exact ⟨_,_,_,hr,c12,c13⟩
end
set_option maxHeartbeats 4000000 in
theorem lawAnswers (k s t h b:Int) (hk:i64 k) (hs:i64 s) (ht:i64 t) (hh:i64 h) (hb:i64 b) (l:List Pr) (H:List Hd) (ok:SOk l H) (o:Int) (x y z:ByteArray) (i:Int) (ho:i64 o) (hi:i64 i) (hx:x.size≤9223372036854775807) (hy:y.size≤9223372036854775807) (hz:z.size≤9223372036854775807):PC Tryd.prog z8 3 [cA k s t h b,sA l H,xA o x y z i] (Bo true):=by
 have w:=works18
 have c7:=few7S z8 l H ok
 have c8:=short8 z8 o x y z i hx hy hz
 have cu:=cu_few l H
 have zx:=yw x
 have zy:=yw y
 have zz:=yw z
 generalize few l=l' at *
 generalize fH (H.take 6)=H' at *
 generalize YB x 40=x' at *
 generalize YB y 40=y' at *
 generalize YB z 40=z' at *
 have c10:=give10' z8 cu
 obtain ⟨r,c9,c11⟩:=both_ans k s t h b hk hs ht hh hb l' H' cu o x' y' z' i ho hi zx zy zz
 obtain ⟨L,K,ch,⟨r1,r2⟩,c12,c13⟩:=both_aft k s t h b hk hs ht hh hb l' H' cu o x' y' z' i ho hi zx zy zz
 have c15:=back15 z8 L K (by omega)
 have c14:=rsame z8 r1 r1 r2 r2 true (by simp [sH])
 have b16:=mb16 z8 k s t h b x' z' (by omega) (by omega) hb _ rfl
 have b17:=rb17 z8 k s t h b x' z' (by omega) (by omega) hb _ rfl
 generalize bfo k b x' z'=q at *
 obtain ⟨⟨e,f,u,v,n⟩,g⟩:=r
 clear cu r1 r2
 dsimp only [An.A] at c9 c11
 have he:n=n∧v=v∧u=u∧f=f∧e=e∧True:=⟨rfl,rfl,rfl,rfl,rfl,trivial⟩
 refine zg cop3 ?_
 repeat' ((conv=>whnf);first|(with_reducible refine SeqP.go ?_)|((with_reducible refine ObD.mk ?_ ?_);exact zD)|((with_reducible refine ObN.mk ?_ ?_);exact zN)|(with_reducible refine ObT.tt ?_)|((with_reducible refine ObT.yes ?_ ?_);assumption)|((with_reducible refine ObT.no ?_ ?_);assumption)|(with_reducible refine ObT.mk (fun h=>?_) (fun h=>?_))|((with_reducible refine ObB.yes ?_ ?_);exact zB)|((with_reducible refine (?_:ObU _ _));(refine ObU.mk _ zU ?_))|((with_reducible refine (?_:ObR _ _ _));(first|(refine ObR.mk _ z6 ?_)|(refine ObR.map zX (fun x hx=>?_))|(refine ObR.mk _ rfl ?_)))|((with_reducible refine ObC.f 18 ?_);(first|(with_reducible refine ObC.mk _ (w) ?_)|(refine ObC.mk _ (w) ?_)))|((with_reducible refine ObC.f 7 ?_);(first|(with_reducible refine ObC.mk _ (c7) ?_)|(refine ObC.mk _ (c7) ?_)))|((with_reducible refine ObC.f 8 ?_);(first|(with_reducible refine ObC.mk _ (c8) ?_)|(refine ObC.mk _ (c8) ?_)))|((with_reducible refine ObC.f 10 ?_);(first|(with_reducible refine ObC.mk _ (c10) ?_)|(refine ObC.mk _ (c10) ?_)))|((with_reducible refine ObC.f 9 ?_);(first|(with_reducible refine ObC.mk _ (c9) ?_)|(refine ObC.mk _ (c9) ?_)))|((with_reducible refine ObC.f 11 ?_);(first|(with_reducible refine ObC.mk _ (c11) ?_)|(refine ObC.mk _ (c11) ?_)))|((with_reducible refine ObC.f 12 ?_);(first|(with_reducible refine ObC.mk _ (c12) ?_)|(refine ObC.mk _ (c12) ?_)))|((with_reducible refine ObC.f 13 ?_);(first|(with_reducible refine ObC.mk _ (c13) ?_)|(refine ObC.mk _ (c13) ?_)))|((with_reducible refine ObC.f 15 ?_);(first|(with_reducible refine ObC.mk _ (c15) ?_)|(refine ObC.mk _ (c15) ?_)))|((with_reducible refine ObC.f 14 ?_);(first|(with_reducible refine ObC.mk _ (c14) ?_)|(refine ObC.mk _ (c14) ?_)))|((with_reducible refine ObC.f 16 ?_);(first|(with_reducible refine ObC.mk _ (b16) ?_)|(refine ObC.mk _ (b16) ?_)))|((with_reducible refine ObC.f 17 ?_);(first|(with_reducible refine ObC.mk _ (b17) ?_)|(refine ObC.mk _ (b17) ?_)))|((with_reducible refine ObEq.mk ?_);exact zE))
theorem ModelAnswers_calls (as0 as1 as2:List AV) (s0:ShC Tryd.prog 23 as0) (s1:ShC Tryd.prog 27 as1) (s2:ShC Tryd.prog 29 as2):PC Tryd.prog z8 3 [mkE (Zz Tryd.prog 23) as0,mkE (Zz Tryd.prog 27) as1,mkE (Zz Tryd.prog 29) as2] (Bo true):=by
 have e0:Zz Tryd.prog 23=true:=by kernel_rfl
 have e1:Zz Tryd.prog 27=true:=by kernel_rfl
 have e2:Zz Tryd.prog 29=true:=by kernel_rfl
 obtain ⟨k,s,t,h,b,q0,a0,a1,a2,a3,a4⟩:=conf_inv s0
 obtain ⟨l,H,q1,ok⟩:=state_inv s1
 obtain ⟨o,x,y,z,i,q2,b0,b1,b2,b3,b4⟩:=call_inv s2
 rw [e0,e1,e2,q0,q1,q2]
 exact lawAnswers k s t h b a0 a1 a2 a3 a4 l H ok o x y z i b0 b1 b2 b3 b4
end Go.Proofs.YtgpldekhcojimaaDoor.Sim
