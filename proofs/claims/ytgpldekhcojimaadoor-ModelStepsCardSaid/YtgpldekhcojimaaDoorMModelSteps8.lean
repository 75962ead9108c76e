/- Texts of this claim, part 8. -/
import Derived.Test.YtgpldekhcojimaaDoorMModelSteps7
import Derived.Test.YtgpldekhcojimaaDoorProg
set_option linter.unusedVariables false
set_option linter.unusedSimpArgs false
namespace Go.Proofs.YtgpldekhcojimaaDoor.Sim
open Go.RowKit
set_option maxRecDepth 100000
open Pr7
def ZO (o:Int) (v:Option ByteArray) (z:ByteArray):Bool:=decide (o=2) || (decide (o=3) && !v.isSome) || (decide (o=4) && decide (v=some z))
def aft (l:List Pr) (H:List Hd) (o:Int) (x y z:ByteArray) (i:Int):List Pr × List Hd × Bool :=
 if ZO o (val l x) z=true∧val l x ≠ some y then (pt (mk l) x y,H,true)
 else if o=5∧(val l x).isSome=true then (dr (mk l) x,H,true)
 else match o,fx H i with
  | 8,some j=>(l,H.eraseIdx j,true)
  | _,_=>(l,H,false)
section
variable (k s t h b:Int) (l:List Pr) (H:List Hd) (o:Int) (x y z:ByteArray) (i:Int)
set_option maxHeartbeats 8000000 in
theorem aft_12 (hf : PC Tryd.prog zw 25 [cA k s t h b, xA o x y z i] (Bo true)) (c36 : PC Tryd.prog zw 36 [sA l H] (sA l H)) (v : Option ByteArray)
  (c37:PC Tryd.prog zw 37 [.sl 2 (l.map pA),S x] (.tup [S (v.getD ⟨#[]⟩),Bo v.isSome])) (P D:List Pr) (c38:PC Tryd.prog zw 38 [.sl 2 (l.map pA),S x,S y] (.sl 2 (P.map pA))) (c39:PC Tryd.prog zw 39 [.sl 2 (l.map pA),S x] (.sl 2 (D.map pA)))
  (c40:o=8→PC Tryd.prog zw 40 [sA l H,I i] (I (-1))) :
  (ZO o v z=true→v ≠ some y→PC Tryd.prog zw 12 [cA k s t h b,sA l H,xA o x y z i] (.tup [sA P H,Bo true]))
  ∧ (o=5→v.isSome=true→PC Tryd.prog zw 12 [cA k s t h b,sA l H,xA o x y z i] (.tup [sA D H,Bo true]))
  ∧ (¬ (ZO o v z=true∧v ≠ some y)→¬ (o=5∧v.isSome=true)→PC Tryd.prog zw 12 [cA k s t h b,sA l H,xA o x y z i] (.tup [sA l H,Bo false])):=by
 have done:∀ {p:Prop},p→p:=id
 refine ⟨fun hp hv=>?_,fun h5 hv=>?_,fun hp h5=>?_⟩
 ·cases v with
  | none =>
   change PC Tryd.prog zw 37 [.sl 2 (l.map pA),S x] (.tup [S ⟨#[]⟩,Bo false]) at c37
   have o23:o=2∨o=3:=by simpa [ZO] using hp
   rcases o23 with rfl|rfl
   all_goals
    refine zf yl ?_
    repeat' ((conv=>whnf);first|(refine SeqP.go ?_)|((refine ObD.mk ?_ ?_);exact zD)|((refine ObN.mk ?_ ?_);exact zN)|(with_reducible first|refine ObT.tt ?_|refine ObT.ff ?_)|((refine ObB.yes ?_ ?_);exact zB)|((refine ObB.no ?_ ?_);exact zC)|((with_reducible refine (?_:ObU _ _));(refine ObU.mk _ zU ?_))|((with_reducible refine (?_:ObR _ _ _));(first|(refine ObR.mk _ zA ?_)|(refine ObR.map zX (fun x hx=>?_))|(refine ObR.mk _ rfl ?_)))|((refine ObC.f 25 ?_);(refine ObC.mk _ (hf) ?_))|((refine ObC.f 36 ?_);(refine ObC.mk _ (c36) ?_))|((refine ObC.f 37 ?_);(refine ObC.mk _ (c37) ?_))|((refine ObC.f 38 ?_);(refine ObC.mk _ (c38) ?_))|((refine ObEq.mk ?_);exact zE))
  | some w =>
   change PC Tryd.prog zw 37 [.sl 2 (l.map pA),S x] (.tup [S w,Bo true]) at c37
   have hwy:¬ w=y:=fun e=>hv (by rw [e])
   have o24:o=2∨(o=4∧w=z):=by simpa [ZO] using hp
   rcases o24 with rfl|⟨rfl,rfl⟩
   all_goals
    refine zf yl ?_
    repeat' ((conv=>whnf);first|(refine SeqP.go ?_)|((refine ObD.mk ?_ ?_);exact zD)|((refine ObN.mk ?_ ?_);exact zN)|(with_reducible first|refine ObT.tt ?_|refine ObT.ff ?_)|((refine ObB.yes ?_ ?_);exact zB)|((refine ObB.no ?_ ?_);exact zC)|((with_reducible refine (?_:ObU _ _));(refine ObU.mk _ zU ?_))|((with_reducible refine (?_:ObR _ _ _));(first|(refine ObR.mk _ zA ?_)|(refine ObR.map zX (fun x hx=>?_))|(refine ObR.mk _ rfl ?_)))|((refine ObC.f 25 ?_);(refine ObC.mk _ (hf) ?_))|((refine ObC.f 36 ?_);(refine ObC.mk _ (c36) ?_))|((refine ObC.f 37 ?_);(refine ObC.mk _ (c37) ?_))|((refine ObC.f 38 ?_);(refine ObC.mk _ (c38) ?_))|((refine ObEq.mk ?_);exact zE))
 ·subst h5
  cases v with
  | none=>cases hv
  | some w =>
   change PC Tryd.prog zw 37 [.sl 2 (l.map pA),S x] (.tup [S w,Bo true]) at c37
   refine zf yl ?_
   repeat' ((conv=>whnf);first|(refine SeqP.go ?_)|((refine ObD.mk ?_ ?_);exact zD)|((refine ObN.mk ?_ ?_);exact zN)|(with_reducible first|refine ObT.tt ?_|refine ObT.ff ?_)|((refine ObB.yes ?_ ?_);exact zB)|((refine ObB.no ?_ ?_);exact zC)|((with_reducible refine (?_:ObU _ _));(refine ObU.mk _ zU ?_))|((with_reducible refine (?_:ObR _ _ _));(first|(refine ObR.mk _ zA ?_)|(refine ObR.map zX (fun x hx=>?_))|(refine ObR.mk _ rfl ?_)))|((refine ObC.f 25 ?_);(refine ObC.mk _ (hf) ?_))|((refine ObC.f 36 ?_);(refine ObC.mk _ (c36) ?_))|((refine ObC.f 37 ?_);(refine ObC.mk _ (c37) ?_))|((refine ObC.f 39 ?_);(refine ObC.mk _ (c39) ?_))|((refine ObEq.mk ?_);exact zE))
 ·cases v with
  | none =>
   change PC Tryd.prog zw 37 [.sl 2 (l.map pA),S x] (.tup [S ⟨#[]⟩,Bo false]) at c37
   have a2:¬ o=2:=fun e=>hp ⟨by simp [ZO,e],by simp⟩
   have a3:¬ o=3:=fun e=>hp ⟨by simp [ZO,e],by simp⟩
   by_cases a4:o=4
   ·subst a4
    refine zf yl ?_
    repeat' ((conv=>whnf);first|(refine SeqP.go ?_)|((refine ObD.mk ?_ ?_);exact zD)|((refine ObN.mk ?_ ?_);exact zN)|(with_reducible first|refine ObT.tt ?_|refine ObT.ff ?_)|((refine ObB.yes ?_ ?_);exact zB)|((refine ObB.no ?_ ?_);exact zC)|((with_reducible refine (?_:ObU _ _));(refine ObU.mk _ zU ?_))|((with_reducible refine (?_:ObR _ _ _));(first|(refine ObR.mk _ zA ?_)|(refine ObR.map zX (fun x hx=>?_))|(refine ObR.mk _ rfl ?_)))|((refine ObC.f 25 ?_);(refine ObC.mk _ (hf) ?_))|((refine ObC.f 36 ?_);(refine ObC.mk _ (c36) ?_))|((refine ObC.f 37 ?_);(refine ObC.mk _ (c37) ?_))|((refine ObEq.mk ?_);exact zE))
   by_cases a5:o=5
   ·subst a5
    refine zf yl ?_
    repeat' ((conv=>whnf);first|(refine SeqP.go ?_)|((refine ObD.mk ?_ ?_);exact zD)|((refine ObN.mk ?_ ?_);exact zN)|(with_reducible first|refine ObT.tt ?_|refine ObT.ff ?_)|((refine ObB.yes ?_ ?_);exact zB)|((refine ObB.no ?_ ?_);exact zC)|((with_reducible refine (?_:ObU _ _));(refine ObU.mk _ zU ?_))|((with_reducible refine (?_:ObR _ _ _));(first|(refine ObR.mk _ zA ?_)|(refine ObR.map zX (fun x hx=>?_))|(refine ObR.mk _ rfl ?_)))|((refine ObC.f 25 ?_);(refine ObC.mk _ (hf) ?_))|((refine ObC.f 36 ?_);(refine ObC.mk _ (c36) ?_))|((refine ObC.f 37 ?_);(refine ObC.mk _ (c37) ?_))|((refine ObEq.mk ?_);exact zE))
   by_cases a8:o=8
   ·subst a8
    refine zf yl ?_
    repeat' ((conv=>whnf);first|(refine SeqP.go ?_)|((refine ObD.mk ?_ ?_);exact zD)|((refine ObN.mk ?_ ?_);exact zN)|(with_reducible first|refine ObT.tt ?_|refine ObT.ff ?_)|((refine ObB.yes ?_ ?_);exact zB)|((refine ObB.no ?_ ?_);exact zC)|((with_reducible refine (?_:ObU _ _));(refine ObU.mk _ zU ?_))|((with_reducible refine (?_:ObR _ _ _));(first|(refine ObR.mk _ zA ?_)|(refine ObR.map zX (fun x hx=>?_))|(refine ObR.mk _ rfl ?_)))|((refine ObC.f 25 ?_);(refine ObC.mk _ (hf) ?_))|((refine ObC.f 36 ?_);(refine ObC.mk _ (c36) ?_))|((refine ObC.f 37 ?_);(refine ObC.mk _ (c37) ?_))|((refine ObC.f 40 ?_);(refine ObC.mk _ ((c40 rfl)) ?_))|((refine ObEq.mk ?_);exact zE))
   ·refine zf yl ?_
    repeat' ((conv=>whnf);first|(refine SeqP.go ?_)|((refine ObD.mk ?_ ?_);exact zD)|((refine ObN.mk ?_ ?_);exact zN)|(with_reducible first|refine ObT.tt ?_|refine ObT.ff ?_)|((refine ObB.no ?_ ?_);exact zC)|((with_reducible refine (?_:ObU _ _));(refine ObU.mk _ zU ?_))|((with_reducible refine (?_:ObR _ _ _));(first|(refine ObR.mk _ zA ?_)|(refine ObR.map zX (fun x hx=>?_))|(refine ObR.mk _ rfl ?_)))|((refine ObC.f 25 ?_);(refine ObC.mk _ (hf) ?_))|((refine ObC.f 36 ?_);(refine ObC.mk _ (c36) ?_))|((refine ObC.f 37 ?_);(refine ObC.mk _ (c37) ?_))|((refine ObEq.mk ?_);exact zE))
  | some w =>
   change PC Tryd.prog zw 37 [.sl 2 (l.map pA),S x] (.tup [S w,Bo true]) at c37
   have a5:¬ o=5:=fun e=>h5 ⟨e,rfl⟩
   by_cases hwy:w=y
   ·subst hwy
    by_cases a2:o=2
    ·subst a2
     refine zf yl ?_
     repeat' ((conv=>whnf);first|(refine SeqP.go ?_)|((refine ObD.mk ?_ ?_);exact zD)|((refine ObN.mk ?_ ?_);exact zN)|(with_reducible first|refine ObT.tt ?_|refine ObT.ff ?_)|((refine ObB.yes ?_ ?_);exact zB)|((refine ObB.no ?_ ?_);exact zC)|((with_reducible refine (?_:ObU _ _));(refine ObU.mk _ zU ?_))|((with_reducible refine (?_:ObR _ _ _));(first|(refine ObR.mk _ zA ?_)|(refine ObR.map zX (fun x hx=>?_))|(refine ObR.mk _ rfl ?_)))|((refine ObC.f 25 ?_);(refine ObC.mk _ (hf) ?_))|((refine ObC.f 36 ?_);(refine ObC.mk _ (c36) ?_))|((refine ObC.f 37 ?_);(refine ObC.mk _ (c37) ?_))|((refine ObEq.mk ?_);exact zE))
    by_cases a4:o=4
    ·subst a4
     by_cases hwz:w=z
     ·subst hwz
      refine zf yl ?_
      repeat' ((conv=>whnf);first|(refine SeqP.go ?_)|((refine ObD.mk ?_ ?_);exact zD)|((refine ObN.mk ?_ ?_);exact zN)|(with_reducible first|refine ObT.tt ?_|refine ObT.ff ?_)|((refine ObB.yes ?_ ?_);exact zB)|((refine ObB.no ?_ ?_);exact zC)|((with_reducible refine (?_:ObU _ _));(refine ObU.mk _ zU ?_))|((with_reducible refine (?_:ObR _ _ _));(first|(refine ObR.mk _ zA ?_)|(refine ObR.map zX (fun x hx=>?_))|(refine ObR.mk _ rfl ?_)))|((refine ObC.f 25 ?_);(refine ObC.mk _ (hf) ?_))|((refine ObC.f 36 ?_);(refine ObC.mk _ (c36) ?_))|((refine ObC.f 37 ?_);(refine ObC.mk _ (c37) ?_))|((refine ObEq.mk ?_);exact zE))
     ·refine zf yl ?_
      repeat' ((conv=>whnf);first|(refine SeqP.go ?_)|((refine ObD.mk ?_ ?_);exact zD)|((refine ObN.mk ?_ ?_);exact zN)|(with_reducible first|refine ObT.tt ?_|refine ObT.ff ?_)|((refine ObB.yes ?_ ?_);exact zB)|((refine ObB.no ?_ ?_);exact zC)|((with_reducible refine (?_:ObU _ _));(refine ObU.mk _ zU ?_))|((with_reducible refine (?_:ObR _ _ _));(first|(refine ObR.mk _ zA ?_)|(refine ObR.map zX (fun x hx=>?_))|(refine ObR.mk _ rfl ?_)))|((refine ObC.f 25 ?_);(refine ObC.mk _ (hf) ?_))|((refine ObC.f 36 ?_);(refine ObC.mk _ (c36) ?_))|((refine ObC.f 37 ?_);(refine ObC.mk _ (c37) ?_))|((refine ObEq.mk ?_);exact zE))
    by_cases a3:o=3
    ·subst a3
     refine zf yl ?_
     repeat' ((conv=>whnf);first|(refine SeqP.go ?_)|((refine ObD.mk ?_ ?_);exact zD)|((refine ObN.mk ?_ ?_);exact zN)|(with_reducible first|refine ObT.tt ?_|refine ObT.ff ?_)|((refine ObB.yes ?_ ?_);exact zB)|((refine ObB.no ?_ ?_);exact zC)|((with_reducible refine (?_:ObU _ _));(refine ObU.mk _ zU ?_))|((with_reducible refine (?_:ObR _ _ _));(first|(refine ObR.mk _ zA ?_)|(refine ObR.map zX (fun x hx=>?_))|(refine ObR.mk _ rfl ?_)))|((refine ObC.f 25 ?_);(refine ObC.mk _ (hf) ?_))|((refine ObC.f 36 ?_);(refine ObC.mk _ (c36) ?_))|((refine ObC.f 37 ?_);(refine ObC.mk _ (c37) ?_))|((refine ObEq.mk ?_);exact zE))
    by_cases a8:o=8
    ·subst a8
     refine zf yl ?_
     repeat' ((conv=>whnf);first|(refine SeqP.go ?_)|((refine ObD.mk ?_ ?_);exact zD)|((refine ObN.mk ?_ ?_);exact zN)|(with_reducible first|refine ObT.tt ?_|refine ObT.ff ?_)|((refine ObB.yes ?_ ?_);exact zB)|((refine ObB.no ?_ ?_);exact zC)|((with_reducible refine (?_:ObU _ _));(refine ObU.mk _ zU ?_))|((with_reducible refine (?_:ObR _ _ _));(first|(refine ObR.mk _ zA ?_)|(refine ObR.map zX (fun x hx=>?_))|(refine ObR.mk _ rfl ?_)))|((refine ObC.f 25 ?_);(refine ObC.mk _ (hf) ?_))|((refine ObC.f 36 ?_);(refine ObC.mk _ (c36) ?_))|((refine ObC.f 37 ?_);(refine ObC.mk _ (c37) ?_))|((refine ObC.f 40 ?_);(refine ObC.mk _ ((c40 rfl)) ?_))|((refine ObEq.mk ?_);exact zE))
    ·refine zf yl ?_
     repeat' ((conv=>whnf);first|(refine SeqP.go ?_)|((refine ObD.mk ?_ ?_);exact zD)|((refine ObN.mk ?_ ?_);exact zN)|(with_reducible first|refine ObT.tt ?_|refine ObT.ff ?_)|((refine ObB.no ?_ ?_);exact zC)|((with_reducible refine (?_:ObU _ _));(refine ObU.mk _ zU ?_))|((with_reducible refine (?_:ObR _ _ _));(first|(refine ObR.mk _ zA ?_)|(refine ObR.map zX (fun x hx=>?_))|(refine ObR.mk _ rfl ?_)))|((refine ObC.f 25 ?_);(refine ObC.mk _ (hf) ?_))|((refine ObC.f 36 ?_);(refine ObC.mk _ (c36) ?_))|((refine ObC.f 37 ?_);(refine ObC.mk _ (c37) ?_))|((refine ObEq.mk ?_);exact zE))
   ·have hnp : ZO o (some w) z = false := by
     cases hq:ZO o (some w) z with
     | false=>rfl
     | true=>exact absurd ⟨hq,fun e=>hwy (Option.some.inj e)⟩ hp
    have a2:¬ o=2:=fun e=>by simp [ZO,e] at hnp
    by_cases a4:o=4
    ·subst a4
     have hwz:¬ w=z:=fun e=>by simp [ZO,e] at hnp
     refine zf yl ?_
     repeat' ((conv=>whnf);first|(refine SeqP.go ?_)|((refine ObD.mk ?_ ?_);exact zD)|((refine ObN.mk ?_ ?_);exact zN)|(with_reducible first|refine ObT.tt ?_|refine ObT.ff ?_)|((refine ObB.yes ?_ ?_);exact zB)|((refine ObB.no ?_ ?_);exact zC)|((with_reducible refine (?_:ObU _ _));(refine ObU.mk _ zU ?_))|((with_reducible refine (?_:ObR _ _ _));(first|(refine ObR.mk _ zA ?_)|(refine ObR.map zX (fun x hx=>?_))|(refine ObR.mk _ rfl ?_)))|((refine ObC.f 25 ?_);(refine ObC.mk _ (hf) ?_))|((refine ObC.f 36 ?_);(refine ObC.mk _ (c36) ?_))|((refine ObC.f 37 ?_);(refine ObC.mk _ (c37) ?_))|((refine ObEq.mk ?_);exact zE))
    by_cases a3:o=3
    ·subst a3
     refine zf yl ?_
     repeat' ((conv=>whnf);first|(refine SeqP.go ?_)|((refine ObD.mk ?_ ?_);exact zD)|((refine ObN.mk ?_ ?_);exact zN)|(with_reducible first|refine ObT.tt ?_|refine ObT.ff ?_)|((refine ObB.yes ?_ ?_);exact zB)|((refine ObB.no ?_ ?_);exact zC)|((with_reducible refine (?_:ObU _ _));(refine ObU.mk _ zU ?_))|((with_reducible refine (?_:ObR _ _ _));(first|(refine ObR.mk _ zA ?_)|(refine ObR.map zX (fun x hx=>?_))|(refine ObR.mk _ rfl ?_)))|((refine ObC.f 25 ?_);(refine ObC.mk _ (hf) ?_))|((refine ObC.f 36 ?_);(refine ObC.mk _ (c36) ?_))|((refine ObC.f 37 ?_);(refine ObC.mk _ (c37) ?_))|((refine ObEq.mk ?_);exact zE))
    by_cases a8:o=8
    ·subst a8
     refine zf yl ?_
     repeat' ((conv=>whnf);first|(refine SeqP.go ?_)|((refine ObD.mk ?_ ?_);exact zD)|((refine ObN.mk ?_ ?_);exact zN)|(with_reducible first|refine ObT.tt ?_|refine ObT.ff ?_)|((refine ObB.yes ?_ ?_);exact zB)|((refine ObB.no ?_ ?_);exact zC)|((with_reducible refine (?_:ObU _ _));(refine ObU.mk _ zU ?_))|((with_reducible refine (?_:ObR _ _ _));(first|(refine ObR.mk _ zA ?_)|(refine ObR.map zX (fun x hx=>?_))|(refine ObR.mk _ rfl ?_)))|((refine ObC.f 25 ?_);(refine ObC.mk _ (hf) ?_))|((refine ObC.f 36 ?_);(refine ObC.mk _ (c36) ?_))|((refine ObC.f 37 ?_);(refine ObC.mk _ (c37) ?_))|((refine ObC.f 40 ?_);(refine ObC.mk _ ((c40 rfl)) ?_))|((refine ObEq.mk ?_);exact zE))
    ·refine zf yl ?_
     repeat' ((conv=>whnf);first|(refine SeqP.go ?_)|((refine ObD.mk ?_ ?_);exact zD)|((refine ObN.mk ?_ ?_);exact zN)|(with_reducible first|refine ObT.tt ?_|refine ObT.ff ?_)|((refine ObB.no ?_ ?_);exact zC)|((with_reducible refine (?_:ObU _ _));(refine ObU.mk _ zU ?_))|((with_reducible refine (?_:ObR _ _ _));(first|(refine ObR.mk _ zA ?_)|(refine ObR.map zX (fun x hx=>?_))|(refine ObR.mk _ rfl ?_)))|((refine ObC.f 25 ?_);(refine ObC.mk _ (hf) ?_))|((refine ObC.f 36 ?_);(refine ObC.mk _ (c36) ?_))|((refine ObC.f 37 ?_);(refine ObC.mk _ (c37) ?_))|((refine ObEq.mk ?_);exact zE))
end
end Go.Proofs.YtgpldekhcojimaaDoor.Sim
namespace Go.Proofs.YtgpldekhcojimaaDoor.Sim
set_option maxRecDepth 100000
def C12:AF:=(AF.mk 112 [(6,(some (true,2))),(7,none)] (AC.seq (AC.region [(jA 3 (AOp.new 23 5 (AX.t 0))),(jA 4 (AOp.new 39 2 (AX.t 1))),(jA 5 (AOp.new 29 5 (AX.t 2))),(jA 6 (AOp.new 39 2 (AX.c (AV.agg [(AV.nl 2),(AV.nl 2)])))),(jA 7 (AOp.mv (jS false)))]) (AC.seq (AC.region [(jA 12 (AOp.load true 2 (AX.t 4))),(jA 13 (AOp.callh 36 [(AX.t 12)])),(jA 8 (AOp.new 39 2 (AX.c (AV.agg [(AV.nl 2),(AV.nl 2)])))),(jB (AOp.store 2 (AX.t 8) (AX.t 13)))]) (AC.seq (AC.seq (AC.region [(jA 14 (AOp.load true 5 (AX.t 3))),(jA 15 (AOp.load true 5 (AX.t 5))),(jA 16 (AOp.call 25 [(AX.t 14),(AX.t 15)])),(jA 17 (AOp.un UnOp.not (AX.t 16)))]) (AC.cond (AX.t 17) (AC.seq (AC.region [(jA 18 (AOp.load true 2 (AX.t 8))),(jB (AOp.store 2 (AX.t 6) (AX.t 18))),(jA 7 (AOp.mv (jS false)))]) AC.ret) AC.skip)) (AC.seq (AC.region [(jA 20 (AOp.fad 0 (AX.t 4))),(jA 21 (AOp.load false 1 (AX.t 20))),(jA 22 (AOp.fad 1 (AX.t 5))),(jA 23 (AOp.load false 1 (AX.t 22))),(jA 24 (AOp.call 37 [(AX.t 21),(AX.t 23)])),(jA 19 (AOp.mv (AX.t 24))),(jA 25 (AOp.ext (AX.t 19) 0)),(jA 26 (AOp.ext (AX.t 19) 1)),(jA 9 (AOp.mv (AX.t 25))),(jA 10 (AOp.mv (AX.t 26)))]) (AC.seq (AC.region [(jA 27 (AOp.fad 0 (AX.t 5))),(jA 28 (AOp.load false 1 (AX.t 27))),(jA 29 (AOp.bin BinOp.eql 3 false (Operand.tmp 28) (Operand.const (Value.int IntKind.i64 2)) (AX.t 28) (jI 2))),(jA 30 (AOp.mv (AX.t 29))),(jC 31 (AOp.fad 0 (AX.t 5)) 30 false),(jC 32 (AOp.load false 1 (AX.t 31)) 30 false),(jC 33 (AOp.bin BinOp.eql 3 false (Operand.tmp 32) (Operand.const (Value.int IntKind.i64 3)) (AX.t 32) (jI 3)) 30 false),(jC 34 (AOp.mv (AX.t 33)) 30 false),(jC 35 (AOp.mv (AX.t 10)) 34 true),(jC 36 (AOp.un UnOp.not (AX.t 35)) 34 true),(jC 37 (AOp.pick (AX.t 34) (AX.t 36) (jS false)) 30 false),(jA 38 (AOp.pick (AX.t 30) (jS true) (AX.t 37))),(jA 39 (AOp.mv (AX.t 38))),(jC 40 (AOp.fad 0 (AX.t 5)) 39 false),(jC 41 (AOp.load false 1 (AX.t 40)) 39 false),(jC 42 (AOp.bin BinOp.eql 3 false (Operand.tmp 41) (Operand.const (Value.int IntKind.i64 4)) (AX.t 41) (jI 4)) 39 false),(jC 43 (AOp.mv (AX.t 42)) 39 false),(jC 44 (AOp.mv (AX.t 10)) 43 true),(jC 45 (AOp.pick (AX.t 43) (AX.t 44) (jS false)) 39 false),(jC 46 (AOp.mv (AX.t 45)) 39 false),(jC 47 (AOp.mv (AX.t 9)) 46 true),(jC 48 (AOp.fad 3 (AX.t 5)) 46 true),(jC 49 (AOp.load false 1 (AX.t 48)) 46 true),(jC 50 (AOp.bin BinOp.eql 9 false (Operand.tmp 47) (Operand.tmp 49) (AX.t 47) (AX.t 49)) 46 true),(jC 51 (AOp.pick (AX.t 46) (AX.t 50) (jS false)) 39 false),(jA 52 (AOp.pick (AX.t 39) (jS true) (AX.t 51))),(jA 11 (AOp.mv (AX.t 52)))]) (AC.seq (AC.block 0 (AC.seq (AC.region [(jA 55 (AOp.mv (AX.t 11))),(jA 56 (AOp.mv (AX.t 55))),(jC 57 (AOp.mv (AX.t 10)) 56 true),(jC 58 (AOp.mv (AX.t 57)) 56 true),(jC 59 (AOp.mv (AX.t 9)) 58 true),(jC 60 (AOp.fad 2 (AX.t 5)) 58 true),(jC 61 (AOp.load false 1 (AX.t 60)) 58 true),(jC 62 (AOp.bin BinOp.eql 9 false (Operand.tmp 59) (Operand.tmp 61) (AX.t 59) (AX.t 61)) 58 true),(jC 63 (AOp.pick (AX.t 58) (AX.t 62) (jS false)) 56 true),(jC 64 (AOp.un UnOp.not (AX.t 63)) 56 true),(jA 65 (AOp.pick (AX.t 56) (AX.t 64) (jS false))),(jA 54 (AOp.mv (AX.t 65)))]) (AC.cond (AX.t 54) (AC.region [(jA 66 (AOp.fad 0 (AX.t 4))),(jA 67 (AOp.load false 1 (AX.t 66))),(jA 68 (AOp.fad 1 (AX.t 5))),(jA 69 (AOp.load false 1 (AX.t 68))),(jA 70 (AOp.fad 2 (AX.t 5))),(jA 71 (AOp.load false 1 (AX.t 70))),(jA 72 (AOp.call 38 [(AX.t 67),(AX.t 69),(AX.t 71)])),(jA 73 (AOp.fad 0 (AX.t 8))),(jB (AOp.store 1 (AX.t 73) (AX.t 72)))]) (AC.seq (AC.region [(jA 75 (AOp.fad 0 (AX.t 5))),(jA 76 (AOp.load false 1 (AX.t 75))),(jA 77 (AOp.bin BinOp.eql 3 false (Operand.tmp 76) (Operand.const (Value.int IntKind.i64 5)) (AX.t 76) (jI 5))),(jA 78 (AOp.mv (AX.t 77))),(jC 79 (AOp.mv (AX.t 10)) 78 true),(jA 80 (AOp.pick (AX.t 78) (AX.t 79) (jS false))),(jA 74 (AOp.mv (AX.t 80)))]) (AC.cond (AX.t 74) (AC.region [(jA 81 (AOp.fad 0 (AX.t 4))),(jA 82 (AOp.load false 1 (AX.t 81))),(jA 83 (AOp.fad 1 (AX.t 5))),(jA 84 (AOp.load false 1 (AX.t 83))),(jA 85 (AOp.call 39 [(AX.t 82),(AX.t 84)])),(jA 86 (AOp.fad 0 (AX.t 8))),(jB (AOp.store 1 (AX.t 86) (AX.t 85)))]) (AC.seq (AC.region [(jA 88 (AOp.fad 0 (AX.t 5))),(jA 89 (AOp.load false 1 (AX.t 88))),(jA 90 (AOp.bin BinOp.eql 3 false (Operand.tmp 89) (Operand.const (Value.int IntKind.i64 8)) (AX.t 89) (jI 8))),(jA 91 (AOp.mv (AX.t 90))),(jC 92 (AOp.load true 2 (AX.t 4)) 91 true),(jC 93 (AOp.fad 4 (AX.t 5)) 91 true),(jC 94 (AOp.load false 1 (AX.t 93)) 91 true),(jC 95 (AOp.call 40 [(AX.t 92),(AX.t 94)]) 91 true),(jC 96 (AOp.bin BinOp.geq 3 false (Operand.tmp 95) (Operand.const (Value.int IntKind.i64 0)) (AX.t 95) (jI 0)) 91 true),(jA 97 (AOp.pick (AX.t 91) (AX.t 96) (jS false))),(jA 87 (AOp.mv (AX.t 97)))]) (AC.cond (AX.t 87) (AC.draw [(jA 98 (AOp.fad 1 (AX.t 8))),(jA 99 (AOp.load false 1 (AX.t 98))),(jA 100 (AOp.load true 2 (AX.t 4))),(jA 101 (AOp.fad 4 (AX.t 5))),(jA 102 (AOp.load false 1 (AX.t 101))),(jA 103 (AOp.call 40 [(AX.t 100),(AX.t 102)])),(jA 104 (AOp.load true 2 (AX.t 4))),(jA 105 (AOp.fad 4 (AX.t 5))),(jA 106 (AOp.load false 1 (AX.t 105))),(jA 107 (AOp.call 40 [(AX.t 104),(AX.t 106)])),(jA 108 (AOp.bin BinOp.add 3 false (Operand.tmp 107) (Operand.const (Value.int IntKind.i64 1)) (AX.t 107) (jI 1))),(jA 109 (AOp.callh 41 [(AX.t 99),(AX.t 103),(AX.t 108)])),(jA 110 (AOp.fad 1 (AX.t 8))),(jB (AOp.store 1 (AX.t 110) (AX.t 109)))]) (AC.seq (AC.region [(jA 53 (AOp.load true 2 (AX.t 8))),(jB (AOp.store 2 (AX.t 6) (AX.t 53))),(jA 7 (AOp.mv (jS false)))]) AC.ret)))))))) (AC.seq (AC.region [(jA 111 (AOp.load true 2 (AX.t 8))),(jB (AOp.store 2 (AX.t 6) (AX.t 111))),(jA 7 (AOp.mv (jS true)))]) AC.ret))))))))
theorem kop12:Zk Tryd.prog [36,41,60,65,66,68,79,87,90,97,101,102,103,104] 12=some C12:=by kernel_rfl
end Go.Proofs.YtgpldekhcojimaaDoor.Sim
namespace Go.Proofs.YtgpldekhcojimaaDoor.Sim
open Go.RowKit
set_option maxRecDepth 100000
open Pr7
theorem er_map (H:List Hd) (j:Nat) (hj:j < H.length):((H.map hA).take j++((H.map hA).take H.length).drop (j+1)).take (H.length - 1)=(H.eraseIdx j).map hA:=by
 have e1:(H.map hA).take H.length=H.map hA:=List.take_of_length_le (by simp)
 have e2:((H.map hA).take j++(H.map hA).drop (j+1)).length=H.length - 1:=by simp;omega
 rw [e1,List.take_of_length_le (Nat.le_of_eq e2),List.eraseIdx_eq_take_drop_succ,List.map_append,List.map_take,List.map_drop]
section
variable (k s t h b:Int) (l:List Pr) (H:List Hd) (x y z:ByteArray) (i:Int)
set_option maxHeartbeats 4000000 in
theorem aft_8 (ok : Cu l H) (hf : PC Tryd.prog zw 25 [cA k s t h b, xA 8 x y z i] (Bo true)) (v : Option ByteArray)
  (c37:PC Tryd.prog zw 37 [.sl 2 (l.map pA),S x] (.tup [S (v.getD ⟨#[]⟩),Bo v.isSome])) (j:Nat) (hj:j < H.length) (c40:PC Tryd.prog zw 40 [sA l H,I i] (I j)) :
  PC Tryd.prog zw 12 [cA k s t h b,sA l H,xA 8 x y z i] (.tup [sA l (H.eraseIdx j),Bo true]):=by
 have h6:=ok.h0
 have hH0:H ≠ []:=fun e=>by rw [e] at hj;simp at hj
 have c36:=cl36r zw l H ok hH0
 have ue:=er_map H j hj
 have up:(((H.map hA).take j++((H.map hA).take H.length).drop (j+1)).take (H.length - 1)).all AV.isP=true:=by rw [ue];exact p_h _
 have up2:=p_h (H.eraseIdx j)
 have ul:((H.map hA).take j++((H.map hA).take H.length).drop (j+1)).length=H.length - 1:=by simp;omega
 have nh:=Z7 H
 have hl1:(H.map hA).length=H.length:=List.length_map _
 have hjm:(0:Int)≤(j:Int):=by omega
 cases v with
 | none =>
  change PC Tryd.prog zw 37 [.sl 2 (l.map pA),S x] (.tup [S ⟨#[]⟩,Bo false]) at c37
  refine zf kop12 ?_
  repeat' ((conv=>whnf);first|(refine SeqP.go ?_)|((refine ObD.mk ?_ ?_);exact zD)|((refine ObN.mk ?_ ?_);exact zN)|(with_reducible first|refine ObT.tt ?_|refine ObT.ff ?_)|((refine ObB.yes ?_ ?_);exact zB)|((refine ObB.no ?_ ?_);exact zC)|((with_reducible refine ObI.nl ?_ ?_);omega)|((with_reducible refine (?_:ObU _ _));(refine ObU.mk _ zq5 ?_))|((with_reducible refine (?_:ObR _ _ _));(first|(refine ObR.mk _ zA ?_)|(refine ObR.map zX (fun x hx=>?_))|(refine ObR.mk _ rfl ?_)))|((refine ObC.f 25 ?_);(refine ObC.mk _ (hf) ?_))|((refine ObH.f 36 ?_);refine ObH.frn _ xN [] (c36) (by simp) rfl (by simp) ?_)|((refine ObC.f 37 ?_);(refine ObC.mk _ (c37) ?_))|((refine ObC.f 40 ?_);(refine ObC.mk _ (c40) ?_))|((refine ObH.f 41 ?_);(first|(with_reducible refine ObH.mk _ _ ((del41 zw _ _ _ _ j _ rfl hj (by simp) (by simp;omega))) ?_)|(refine ObH.mk _ _ ((del41 zw _ _ _ _ j _ rfl hj (by simp) (by simp;omega))) ?_)))|((refine ObEq.mk ?_);exact zE)|((with_reducible refine ObAs.mk ?_ ?_);(focus (first|rfl|(simp [rnB,rnC,rnL];done))))|((with_reducible refine (?_:ObRs _ _ _));(refine ObRs.mk _ rfl ?_))|((with_reducible refine ObBk.same ?_ ?_);(focus (first|rfl|assumption|(simp;done)))))
 | some w =>
  change PC Tryd.prog zw 37 [.sl 2 (l.map pA),S x] (.tup [S w,Bo true]) at c37
  refine zf kop12 ?_
  repeat' ((conv=>whnf);first|(refine SeqP.go ?_)|((refine ObD.mk ?_ ?_);exact zD)|((refine ObN.mk ?_ ?_);exact zN)|(with_reducible first|refine ObT.tt ?_|refine ObT.ff ?_)|((refine ObB.yes ?_ ?_);exact zB)|((refine ObB.no ?_ ?_);exact zC)|((with_reducible refine ObI.nl ?_ ?_);omega)|((with_reducible refine (?_:ObU _ _));(refine ObU.mk _ zq5 ?_))|((with_reducible refine (?_:ObR _ _ _));(first|(refine ObR.mk _ zA ?_)|(refine ObR.map zX (fun x hx=>?_))|(refine ObR.mk _ rfl ?_)))|((refine ObC.f 25 ?_);(refine ObC.mk _ (hf) ?_))|((refine ObH.f 36 ?_);refine ObH.frn _ xN [] (c36) (by simp) rfl (by simp) ?_)|((refine ObC.f 37 ?_);(refine ObC.mk _ (c37) ?_))|((refine ObC.f 40 ?_);(refine ObC.mk _ (c40) ?_))|((refine ObH.f 41 ?_);(first|(with_reducible refine ObH.mk _ _ ((del41 zw _ _ _ _ j _ rfl hj (by simp) (by simp;omega))) ?_)|(refine ObH.mk _ _ ((del41 zw _ _ _ _ j _ rfl hj (by simp) (by simp;omega))) ?_)))|((refine ObEq.mk ?_);exact zE)|((with_reducible refine ObAs.mk ?_ ?_);(focus (first|rfl|(simp [rnB,rnC,rnL];done))))|((with_reducible refine (?_:ObRs _ _ _));(refine ObRs.mk _ rfl ?_))|((with_reducible refine ObBk.same ?_ ?_);(focus (first|rfl|assumption|(simp;done)))))
end
end Go.Proofs.YtgpldekhcojimaaDoor.Sim
namespace Go.Proofs.YtgpldekhcojimaaDoor.Sim
open Go.RowKit
set_option maxRecDepth 100000
open Pr7
def hOk (x:Hd):Prop:=x.2.length≤9223372036854775807∧∀ p ∈ x.2,p.1.size≤9223372036854775807∧p.2.size≤9223372036854775807
abbrev HdS:={x:Hd // hOk x}
def hC (x:HdS):List AV:=[I x.1.1,.sl 2 (x.1.2.map pA)]
theorem prs_inv {cs:List AV} (h:ShC Tryd.prog 24 cs):∃ l:List Pr,cs=[.sl 2 (l.map pA)]∧l.length≤9223372036854775807∧∀ p ∈ l,p.1.size≤9223372036854775807∧p.2.size≤9223372036854775807:=by
 have e2:Zy Tryd.prog 65=true:=by kernel_rfl
 have e4:(Tryd.prog).cellsOf 65=2:=by kernel_rfl
 obtain ⟨dss,rfl,hl,hll⟩:=h.slice_inv (e:=65) (by kernel_rfl)
 obtain ⟨ls,rfl⟩:=xq (f:=pC) (fun cs h=>pair_inv h) dss hll
 have g2:(List.map pC ls).map (mkE (Zy Tryd.prog 65))=(ls.map Subtype.val).map pA:=by rw [e2,List.map_map,List.map_map];rfl
 refine ⟨ls.map Subtype.val,?_,by simpa using hl,?_⟩
 ·rw [g2,e4]
 ·intro p hp
  obtain ⟨q,_,rfl⟩:=List.mem_map.1 hp
  exact q.2
theorem held_inv {cs:List AV} (h:ShC Tryd.prog 61 cs):∃ x:HdS,cs=hC x:=by
 have i1:(Tryd.prog).underlying 3=some (.int .i64):=by kernel_rfl
 obtain ⟨p0,q,rfl,hp0,h⟩:=(h.flds (ts:=[3,24]) (by kernel_rfl)).cons
 obtain ⟨p1,q,rfl,hp1,h⟩:=h.cons
 obtain rfl:=h.nil
 obtain ⟨n,rfl,_⟩:=hp0.i64_inv i1
 obtain ⟨l,rfl,h1,h2⟩:=prs_inv hp1
 exact ⟨⟨(n,l),h1,h2⟩,rfl⟩
theorem state_inv {cs:List AV} (h:ShC Tryd.prog 27 cs):∃ (l:List Pr) (H:List Hd),mkE true cs=sA l H∧SOk l H:=by
 have e2:Zy Tryd.prog 61=true:=by kernel_rfl
 have e4:(Tryd.prog).cellsOf 61=2:=by kernel_rfl
 obtain ⟨p0,q,rfl,hp0,h⟩:=(h.flds (ts:=[24,25]) (by kernel_rfl)).cons
 obtain ⟨p1,q,rfl,hp1,h⟩:=h.cons
 obtain rfl:=h.nil
 obtain ⟨l,rfl,h1,h2⟩:=prs_inv hp0
 obtain ⟨dss,rfl,hl,hll⟩:=hp1.slice_inv (e:=61) (by kernel_rfl)
 obtain ⟨ls,rfl⟩:=xq (f:=hC) (fun cs h=>held_inv h) dss hll
 have g2:(List.map hC ls).map (mkE (Zy Tryd.prog 61))=(ls.map Subtype.val).map hA:=by rw [e2,List.map_map,List.map_map];rfl
 refine ⟨l,ls.map Subtype.val,?_,h1,h2,by simpa using hl,?_⟩
 ·rw [g2,e4];rfl
 ·intro x hx
  obtain ⟨q,_,rfl⟩:=List.mem_map.1 hx
  exact q.2
end Go.Proofs.YtgpldekhcojimaaDoor.Sim
namespace Go.Proofs.YtgpldekhcojimaaDoor.Sim
open Go.RowKit
set_option maxRecDepth 100000
open Pr7
theorem WA {H:List Hd} {id:Int} {j:Nat} (h:fx H id=some j):∃ hj:j < H.length,H[j].1=id:=by
 unfold fx at h
 rw [List.findIdx?_eq_some_iff_getElem] at h
 obtain ⟨h1,h2,_⟩:=h
 exact ⟨h1,by simpa using h2⟩
theorem X0 (a:Hd) (t:List Hd) (id:Int):fx (a::t) id=if a.1=id then some 0 else (fx t id).map (· + 1):=by
 unfold fx
 rw [List.findIdx?_cons]
 by_cases h:a.1=id<;>simp [h]
theorem at_mem {H:List Hd} {id:Int} {P:List Pr→Prop} (h0:P []) (h:∀ x ∈ H,P x.2):P (atV H id).1:=by
 unfold atV
 cases hf:fx H id with
 | none=>exact h0
 | some j =>
  obtain ⟨hj,_⟩:=WA hf
  dsimp only
  rw [List.getD_eq_getElem?_getD,List.getElem?_eq_getElem hj]
  exact h _ (List.getElem_mem hj)
theorem cl36 (l:List Pr) (H:List Hd) (ok:Cu l H):PC Tryd.prog zw 36 [sA l H] (sA l H):=by
 by_cases e:H=[]
 ·subst e;exact cl36b zw l ok
 ·exact cl36a zw l H ok e
section
variable (k s t h b:Int) (hk:i64 k) (hs:i64 s) (ht:i64 t) (hh:i64 h) (hb:i64 b) (l:List Pr) (H:List Hd) (ok:Cu l H) (o:Int) (x y z:ByteArray) (i:Int) (ho:i64 o) (hi:i64 i) (hx:x.size≤40) (hy:y.size≤40) (hz:z.size≤40)
include hk hs ht hh hb ok ho hi hx hy hz
end
theorem int_inv {cs:List AV} (h:ShC Tryd.prog 3 cs):∃ n:Int,cs=[I n]∧i64 n:=by
 obtain ⟨n,e,h1,h2⟩:=h.i64_inv (by kernel_rfl)
 exact ⟨n,e,h1,h2⟩
theorem Y0 {cs:List AV} (h:ShC Tryd.prog 9 cs):∃ s:ByteArray,cs=[S s]∧s.size≤9223372036854775807:=h.str_inv (by kernel_rfl)
theorem conf_inv {cs:List AV} (h:ShC Tryd.prog 23 cs):∃ k s t h b:Int,mkE true cs=cA k s t h b∧i64 k∧i64 s∧i64 t∧i64 h∧i64 b:=by
 obtain ⟨p0,q,rfl,hp0,h⟩:=(h.flds (ts:=[3,3,3,3,3]) (by kernel_rfl)).cons
 obtain ⟨p1,q,rfl,hp1,h⟩:=h.cons
 obtain ⟨p2,q,rfl,hp2,h⟩:=h.cons
 obtain ⟨p3,q,rfl,hp3,h⟩:=h.cons
 obtain ⟨p4,q,rfl,hp4,h⟩:=h.cons
 obtain rfl:=h.nil
 obtain ⟨n0,rfl,h0⟩:=int_inv hp0
 obtain ⟨n1,rfl,h1⟩:=int_inv hp1
 obtain ⟨n2,rfl,h2⟩:=int_inv hp2
 obtain ⟨n3,rfl,h3⟩:=int_inv hp3
 obtain ⟨n4,rfl,h4⟩:=int_inv hp4
 exact ⟨n0,n1,n2,n3,n4,rfl,h0,h1,h2,h3,h4⟩
theorem call_inv {cs:List AV} (h:ShC Tryd.prog 29 cs):∃ (o:Int) (x y z:ByteArray) (i:Int),mkE true cs=xA o x y z i∧i64 o∧i64 i∧x.size≤9223372036854775807∧y.size≤9223372036854775807∧z.size≤9223372036854775807:=by
 obtain ⟨p0,q,rfl,hp0,h⟩:=(h.flds (ts:=[3,9,9,9,3]) (by kernel_rfl)).cons
 obtain ⟨p1,q,rfl,hp1,h⟩:=h.cons
 obtain ⟨p2,q,rfl,hp2,h⟩:=h.cons
 obtain ⟨p3,q,rfl,hp3,h⟩:=h.cons
 obtain ⟨p4,q,rfl,hp4,h⟩:=h.cons
 obtain rfl:=h.nil
 obtain ⟨o,rfl,h0⟩:=int_inv hp0
 obtain ⟨x,rfl,h1⟩:=Y0 hp1
 obtain ⟨y,rfl,h2⟩:=Y0 hp2
 obtain ⟨z,rfl,h3⟩:=Y0 hp3
 obtain ⟨i,rfl,h4⟩:=int_inv hp4
 exact ⟨o,x,y,z,i,rfl,h0,h4,h1,h2,h3⟩
end Go.Proofs.YtgpldekhcojimaaDoor.Sim
namespace Go.Proofs.YtgpldekhcojimaaDoor.Sim
open Go.RowKit
set_option maxRecDepth 100000
open Pr7
def yn (o i:Int) (H:List Hd):List Hd:=if o=8 then (match fx H i with|some j=>H.eraseIdx j|none=>H) else H
def yQ (o i:Int) (H:List Hd):Bool:=decide (o=8) && (fx H i).isSome
theorem fx_snoc (H:List Hd) (x:Hd) (i:Int):fx (H++[x]) i=match fx H i with|some j=>some j|none=>if x.1=i then some H.length else none:=by
 induction H with
 | nil=>simp only [List.nil_append];rw [X0];by_cases h:x.1=i<;>simp [fx,h]
 | cons a t ih =>
  rw [List.cons_append,X0,X0,ih]
  by_cases h:a.1=i
  ·simp [h]
  ·simp only [h, if_false]
   cases fx t i with
   | some j=>rfl
   | none=>by_cases hx:x.1=i<;>simp [hx]
theorem remH_drop {o i:Int} {H:List Hd} {x:Hd} (h:o=8) (hx:x.1=i) (hg:yQ o i H=false):yn o i (H++[x])=yn o i H∧yQ o i (H++[x])=true:=by
 subst h
 unfold yQ at hg ⊢
 have hn:fx H i=none:=by
  cases hq:fx H i with
  | none=>rfl
  | some j=>rw [hq] at hg;simp at hg
 unfold yn
 rw [if_pos rfl,if_pos rfl,fx_snoc,hn]
 simp only [hx,if_true]
 constructor
 ·rw [List.eraseIdx_append_of_length_le (Nat.le_refl _)];simp
 ·rfl
theorem remH_keep {o i:Int} {H:List Hd} {x:Hd} (h:¬ (o=8∧x.1=i∧yQ o i H=false)):yn o i (H++[x])=yn o i H++[x]∧yQ o i (H++[x])=yQ o i H:=by
 unfold yQ yn at *
 by_cases h8:o=8
 ·subst h8
  simp only [if_true,decide_true,Bool.true_and,true_and] at h ⊢
  rw [fx_snoc]
  cases hq:fx H i with
  | some j =>
   obtain ⟨hj,_⟩:=WA hq
   dsimp only
   exact ⟨List.eraseIdx_append_of_lt_length hj _,rfl⟩
  | none =>
   rw [hq] at h
   have hx:¬ x.1=i:=fun e=>h ⟨e,rfl⟩
   simp [hx]
 ·simp [h8]
theorem Y4 {o i:Int} {H:List Hd}:(yn o i H).length≤H.length:=by
 unfold yn
 split
 ·split
  ·exact List.length_eraseIdx_le _ _
  ·exact Nat.le_refl _
 ·exact Nat.le_refl _
section
variable (G:Nat→AV)
set_option maxHeartbeats 16000000 in
theorem raftA (l : List Pr) (H : List Hd) (hHl : H.length ≤ 1000000) (o : Int) (x y z : ByteArray) (i : Int) (v : Option ByteArray) (P D : List Pr)
  (c32:PC Tryd.prog G 32 [.sl 2 (l.map pA),S x] (.tup [S (v.getD ⟨#[]⟩),Bo v.isSome])) (c71:PC Tryd.prog G 71 [.sl 2 (l.map pA),S x,S y] (.sl 2 (P.map pA))) (c72:PC Tryd.prog G 72 [.sl 2 (l.map pA),S x] (.sl 2 (D.map pA)))
  (L:List Pr) (key:(o=5∧L=D)∨(¬ o=5∧((v=none∧(o=2∨o=3)∧L=P)∨(∃ w,v=some w∧(o=2∨(o=4∧w=z))∧L=P)))):PC Tryd.prog G 42 [sA l H,xA o x y z i] (sA L (yn o i H)):=by
 have nh:=Z7 H
 rcases key with ⟨o5,rfl⟩|⟨o5,⟨rfl,o2|o3,rfl⟩|⟨w,rfl,o2|⟨o4,wz⟩,rfl⟩⟩
 all_goals try (cases v)
 all_goals simp only [Option.getD_none,Option.isSome_none,Option.getD_some,Option.isSome_some] at c32
 all_goals
  refine zf cop42 ?_
  repeat' ((conv=>whnf);first|((refine ObD.mk ?_ ?_);exact zD))
  conv=>whnf
  refine SeqP.go ?_
  repeat' ((conv=>whnf);first|((refine ObN.mk ?_ ?_);exact zN)|((with_reducible refine (?_:ObR _ _ _));(first|(refine ObR.mk _ zA ?_)|(refine ObR.map zX (fun x hx=>?_))|(refine ObR.mk _ rfl ?_)))|((refine ObC.f 32 ?_);(refine ObC.mk _ (c32) ?_)))
  conv=>whnf
  refine SeqP.go ?_
  repeat' ((conv=>whnf);first|((refine ObD.mk ?_ ?_);exact zD)|((refine ObN.mk ?_ ?_);exact zN)|((with_reducible refine (?_:ObU _ _));(refine ObU.mk _ zU ?_))|((with_reducible refine (?_:ObR _ _ _));(first|(refine ObR.mk _ zA ?_)|(refine ObR.map zX (fun x hx=>?_))|(refine ObR.mk _ rfl ?_))))
  conv=>whnf
  refine SeqP.go ?_
  repeat' ((conv=>whnf);first|((refine ObN.mk ?_ ?_);exact zN)|(with_reducible first|refine ObT.tt ?_|refine ObT.ff ?_)|((refine ObB.yes ?_ ?_);exact zB)|((refine ObB.no ?_ ?_);exact zC)|((with_reducible refine (?_:ObR _ _ _));(first|(refine ObR.mk _ zA ?_)|(refine ObR.map zX (fun x hx=>?_))|(refine ObR.mk _ rfl ?_))))
  conv=>whnf
  refine SeqP.go ?_
  repeat' ((conv=>whnf);first|((refine ObD.mk ?_ ?_);exact zD)|((refine ObN.mk ?_ ?_);exact zN)|(with_reducible first|refine ObT.tt ?_|refine ObT.ff ?_)|((with_reducible refine (?_:ObU _ _));(refine ObU.mk _ zU ?_))|((with_reducible refine (?_:ObR _ _ _));(first|(refine ObR.mk _ zA ?_)|(refine ObR.map zX (fun x hx=>?_))|(refine ObR.mk _ rfl ?_)))|((refine ObC.f 71 ?_);(refine ObC.mk _ (c71) ?_)))
  conv=>whnf
  refine SeqP.go ?_
  refine (Xv (α:=Unit) (fun _=>True) (fun _=>[(5,none),(0,none),(3,none),(0,none),(0,none),(0,none),(0,none),(0,none),(0,none),(0,none),(0,none),(0,none),(0,none),(0,none),(0,none),(0,none),(0,none),(0,none),(0,none),(0,none),(0,none),(0,none),(0,none),(0,none),(0,none),(0,none),(0,none),(0,none),(0,none),(0,none),(0,none),(0,none),(0,none),(0,none),(0,none),(0,none),(0,none),(0,none),(0,none),(0,none),(0,none),(0,none),(0,none),(0,none),(0,none),(0,none),(0,none),(0,none),(0,none),(0,none),(0,none),(0,none),(0,none),(0,none),(0,none),(0,none)]) (fun _=>[⟨27,2,[sA l H],0,0⟩,⟨29,5,[xA o x y z i],0,0⟩,⟨27,2,[.agg [.nl 2,.nl 2]],0,0⟩,⟨27,2,[.agg [.sl 2 (L.map pA),.nl 2]],0,0⟩]) ?_ ?_)
  ·intro Q hQ
   repeat' ((conv=>whnf);first|(refine SeqP.go ?_)|((refine ObD.mk ?_ ?_);exact zD)|((refine ObN.mk ?_ ?_);exact zN)|(with_reducible first|refine ObT.tt ?_|refine ObT.ff ?_)|((refine ObB.yes ?_ ?_);exact zB)|((refine ObB.no ?_ ?_);exact zC)|((with_reducible refine (?_:ObU _ _));(refine ObU.mk _ zU ?_))|((with_reducible refine (?_:ObR _ _ _));(first|(refine ObR.mk _ zA ?_)|(refine ObR.map zX (fun x hx=>?_))|(refine ObR.mk _ rfl ?_)))|((refine ObC.f 72 ?_);(refine ObC.mk _ (c72) ?_)))
   conv=>whnf
   refine hQ _ _ () trivial (Fg.go ?_ rfl)
   repeat' ((conv=>whnf);first|((refine ObEqs.mk ?_ ?_);rfl)|exact True.intro)
  ·rintro ⟨⟩ -
   repeat' ((conv=>whnf);first|(refine SeqP.go ?_))
   conv=>whnf
   refine LoopP.go (α:=Nat × List Hd × Bool) (fun p=>p.1≤H.length∧p.2.1=yn o i (H.take p.1)∧p.2.2=yQ o i (H.take p.1)) (fun p=>H.length - p.1) (fun p=>[(8,some (Bo p.2.2)),(0,some (I p.1)),(54,none),(0,none),(0,none),(0,none),(0,none),(0,none),(0,none),(0,none),(0,none),(0,none),(0,none),(0,none),(0,none),(0,none),(0,none),(0,none),(0,none),(0,none),(0,none),(0,none),(0,none),(0,none),(0,none),(0,none),(0,none),(0,none),(0,none),(0,none),(0,none),(0,none),(0,none),(0,none),(0,none),(0,none),(0,none)]) (fun p=>[⟨27,2,[sA l H],0,0⟩,⟨29,5,[xA o x y z i],0,0⟩,⟨27,2,[.agg [.nl 2,.nl 2]],0,0⟩,⟨27,2,[.agg [.sl 2 (L.map pA),hS 4 p.2.1]],0,0⟩]++hH 61 p.2.1) (0,[],false) ⟨Nat.zero_le _,by simp [yn,fx],by simp [yQ,fx]⟩ (Fg.go ?_ rfl) ?_
   ·repeat' ((conv=>whnf);first|((refine ObEqs.mk ?_ ?_);rfl)|((with_reducible refine ObEq1.i ?_ ?_);exact zF)|((with_reducible refine ObEq1.mk ?_ ?_);exact zE)|exact True.intro)
   rintro ⟨n,out,g⟩ ⟨hn,ho,hg⟩
   dsimp only at hn ho hg ⊢
   have hol:out.length≤H.length:=by rw [ho];exact Nat.le_trans Y4 zq14
   by_cases hnl:n < H.length
   ·have q := Yb hnl
    have ft:=List.take_succ_eq_append_getElem hnl
    generalize H[n]=w at *
    have d1:=fun (h:o=8) (hx:w.1=i) (hg:yQ o i (H.take n)=false)=>remH_drop (x:=w) h hx hg
    have d2:=fun (h:¬ (o=8∧w.1=i∧yQ o i (H.take n)=false))=>remH_keep (x:=w) h
    rw [← ft] at d1 d2
    rw [← ho,← hg] at d1 d2
    by_cases hd:o=8∧w.1=i∧g=false
    ·obtain ⟨h8, hwi, rfl⟩ := hd
     obtain ⟨e1,e2⟩:=d1 h8 hwi rfl
     clear d1 d2
     rcases out with _|⟨o0,ot⟩
     ·repeat' ((conv=>whnf);first|(refine SeqP.go ?_)|((refine ObD.mk ?_ ?_);exact zD)|((refine ObN.mk ?_ ?_);exact zN)|(with_reducible first|refine ObT.tt ?_|refine ObT.ff ?_)|((refine ObB.yes ?_ ?_);exact zB)|((with_reducible refine ObI.nl ?_ ?_);omega)|((refine ObX.mk _ rfl ?_ ?_);exact zX)|((with_reducible refine (?_:ObL _ _));(refine ObL.mk _ zM ?_))|((with_reducible refine (?_:ObR _ _ _));(first|(refine ObR.mk _ (by assumption) ?_)|(refine ObR.mk _ (by exact q) ?_)|(refine ObR.mk _ Zv ?_)|(refine ObR.map zX (fun x hx=>?_))|(refine ObR.mk _ rfl ?_))))
      all_goals conv=>whnf
      refine Again.mk (n+1,[],true) ⟨by dsimp only;omega,by dsimp only;rw [e1],by dsimp only;rw [e2]⟩ ?_ (Fg.go ?_ rfl)
      ·dsimp only;omega
      repeat' ((conv=>whnf);first|((refine ObEqs.mk ?_ ?_);rfl)|((with_reducible refine ObEq1.i ?_ ?_);exact zF)|((with_reducible refine ObEq1.mk ?_ ?_);exact zE)|exact True.intro)
     ·have r2 := Z7 (o0 :: ot)
      repeat' ((conv=>whnf);first|(refine SeqP.go ?_)|((refine ObD.mk ?_ ?_);exact zD)|((refine ObN.mk ?_ ?_);exact zN)|(with_reducible first|refine ObT.tt ?_|refine ObT.ff ?_)|((refine ObB.yes ?_ ?_);exact zB)|((with_reducible refine ObI.nl ?_ ?_);omega)|((refine ObX.mk _ rfl ?_ ?_);exact zX)|((with_reducible refine (?_:ObL _ _));(refine ObL.mk _ zM ?_))|((with_reducible refine (?_:ObR _ _ _));(first|(refine ObR.mk _ (by assumption) ?_)|(refine ObR.mk _ (by exact q) ?_)|(refine ObR.mk _ Zv ?_)|(refine ObR.map zX (fun x hx=>?_))|(refine ObR.mk _ rfl ?_))))
      all_goals conv=>whnf
      refine Again.mk (n+1,o0::ot,true) ⟨by dsimp only;omega,by dsimp only;rw [e1],by dsimp only;rw [e2]⟩ ?_ (Fg.go ?_ rfl)
      ·dsimp only;omega
      repeat' ((conv=>whnf);first|((refine ObEqs.mk ?_ ?_);rfl)|((with_reducible refine ObEq1.i ?_ ?_);exact zF)|((with_reducible refine ObEq1.mk ?_ ?_);exact zE)|exact True.intro)
    ·obtain ⟨e1, e2⟩ := d2 hd
     clear d1 d2
     have h3:¬ o=8∨(o=8∧¬ w.1=i)∨(o=8∧w.1=i∧g=true):=by
      by_cases h8:o=8
      ·by_cases hwi : w.1 = i
       ·refine .inr (.inr ⟨h8, hwi, ?_⟩)
        cases g
        ·exact absurd ⟨h8,hwi,rfl⟩ hd
        ·rfl
       ·exact .inr (.inl ⟨h8,hwi⟩)
      ·exact .inl h8
     clear hd
     cases g
     ·rcases h3 with h8 | ⟨h8, hwi⟩ | ⟨h8, hwi, gt⟩
      rotate_left 2
      ·cases gt
      all_goals try (exfalso;omega)
      all_goals
       rcases out with _|⟨o0,ot⟩
       ·have r1 := Z7 [w]
        repeat' ((conv=>whnf);first|(refine SeqP.go ?_)|((refine ObD.mk ?_ ?_);exact zD)|((refine ObN.mk ?_ ?_);exact zN)|(with_reducible first|refine ObT.tt ?_|refine ObT.ff ?_)|((refine ObB.yes ?_ ?_);exact zB)|((refine ObB.no ?_ ?_);exact zC)|((with_reducible refine ObI.nl ?_ ?_);omega)|((refine ObX.mk _ rfl ?_ ?_);exact zX)|((with_reducible refine (?_:ObL _ _));(refine ObL.mk _ zM ?_))|((with_reducible refine (?_:ObU _ _));(refine ObU.mk _ zU ?_))|((with_reducible refine (?_:ObR _ _ _));(first|(refine ObR.mk _ (by assumption) ?_)|(refine ObR.mk _ (by exact q) ?_)|(refine ObR.mk _ Zv ?_)|(refine ObR.map zX (fun x hx=>?_))|(refine ObR.mk _ rfl ?_)))|((with_reducible refine ObW.cons ?_ ?_);(focus (first|assumption|(simp;done)))))
        all_goals conv=>whnf
        refine Again.mk (n+1,[w],false) ⟨by dsimp only;omega,e1.symm,e2.symm⟩ ?_ (Fg.vw [(0,0,0),(0,1,0),(0,2,0),(0,3,0),(0,5,0)] ?_ ?_ (by simp) ?_)
        ·dsimp only;omega
        all_goals repeat' ((conv=>whnf);first|((with_reducible refine ObRow.lit ?_ ?_);(focus (simp [rnB,rnC,rnL,AV.cells,hS];done)))|((with_reducible refine ObRn.mk ?_ ?_);(focus (simp [rnB,rnC,rnA,rnT,hS];done)))|((refine ObN.mk ?_ ?_);exact zN)|((with_reducible refine ObRow.same ?_ ?_ ?_);exact zE;(focus (first|rfl|assumption|(simp;done))))|((refine ObEqs.mk ?_ ?_);rfl)|exact True.intro)
       ·have r1 := Z7 ((o0 :: ot) ++ [w])
        have r2:=Z7 (o0::ot)
        have hol2:ot.length+1≤H.length:=hol
        have us:((o0::ot).map hA).take (ot.length+1)++[.agg [I w.1,.sl 2 (w.2.map pA)]]=((o0::ot)++[w]).map hA:=YT (l:=o0::ot) (x:=w)
        repeat' ((conv=>whnf);first|(refine SeqP.go ?_)|((refine ObD.mk ?_ ?_);exact zD)|((refine ObN.mk ?_ ?_);exact zN)|(with_reducible first|refine ObT.tt ?_|refine ObT.ff ?_)|((refine ObB.yes ?_ ?_);exact zB)|((refine ObB.no ?_ ?_);exact zC)|((with_reducible refine ObI.nl ?_ ?_);omega)|((refine ObX.mk _ rfl ?_ ?_);exact zX)|((with_reducible refine (?_:ObL _ _));(refine ObL.mk _ zM ?_))|((with_reducible refine (?_:ObU _ _));(refine ObU.mk _ zq1 ?_))|((with_reducible refine (?_:ObR _ _ _));(first|(refine ObR.mk _ (by assumption) ?_)|(refine ObR.mk _ (by exact q) ?_)|(refine ObR.mk _ Zv ?_)|(refine ObR.map zX (fun x hx=>?_))|(refine ObR.mk _ rfl ?_))))
        all_goals conv=>whnf
        refine Again.mk (n+1,(o0::ot)++[w],false) ⟨by dsimp only;omega,e1.symm,e2.symm⟩ ?_ (Fg.vw [(0,0,0),(0,1,0),(0,2,0),(0,3,0),(0,4,1)] ?_ ?_ (by simp) ?_)
        ·dsimp only;omega
        all_goals repeat' ((conv=>whnf);first|((with_reducible refine ObRow.lit ?_ ?_);(focus (simp [rnB,rnC,rnL,AV.cells,hS];done)))|((with_reducible refine ObRn.mk ?_ ?_);(focus (simp [rnB,rnC,rnA,rnT,hS];done)))|((refine ObN.mk ?_ ?_);exact zN)|((with_reducible refine ObRow.same ?_ ?_ ?_);exact zE;(focus (first|rfl|assumption|(simp;done))))|((refine ObEqs.mk ?_ ?_);rfl)|exact True.intro)
     ·rcases h3 with h8 | ⟨h8, hwi⟩ | ⟨h8, hwi, gt⟩
      all_goals try (exfalso;omega)
      all_goals
       rcases out with _|⟨o0,ot⟩
       ·have r1 := Z7 [w]
        repeat' ((conv=>whnf);first|(refine SeqP.go ?_)|((refine ObD.mk ?_ ?_);exact zD)|((refine ObN.mk ?_ ?_);exact zN)|(with_reducible first|refine ObT.tt ?_|refine ObT.ff ?_)|((refine ObB.yes ?_ ?_);exact zB)|((refine ObB.no ?_ ?_);exact zC)|((with_reducible refine ObI.nl ?_ ?_);omega)|((refine ObX.mk _ rfl ?_ ?_);exact zX)|((with_reducible refine (?_:ObL _ _));(refine ObL.mk _ zM ?_))|((with_reducible refine (?_:ObU _ _));(refine ObU.mk _ zU ?_))|((with_reducible refine (?_:ObR _ _ _));(first|(refine ObR.mk _ (by assumption) ?_)|(refine ObR.mk _ (by exact q) ?_)|(refine ObR.mk _ Zv ?_)|(refine ObR.map zX (fun x hx=>?_))|(refine ObR.mk _ rfl ?_)))|((with_reducible refine ObW.cons ?_ ?_);(focus (first|assumption|(simp;done)))))
        all_goals conv=>whnf
        refine Again.mk (n+1,[w],true) ⟨by dsimp only;omega,e1.symm,e2.symm⟩ ?_ (Fg.vw [(0,0,0),(0,1,0),(0,2,0),(0,3,0),(0,5,0)] ?_ ?_ (by simp) ?_)
        ·dsimp only;omega
        all_goals repeat' ((conv=>whnf);first|((with_reducible refine ObRow.lit ?_ ?_);(focus (simp [rnB,rnC,rnL,AV.cells,hS];done)))|((with_reducible refine ObRn.mk ?_ ?_);(focus (simp [rnB,rnC,rnA,rnT,hS];done)))|((refine ObN.mk ?_ ?_);exact zN)|((with_reducible refine ObRow.same ?_ ?_ ?_);exact zE;(focus (first|rfl|assumption|(simp;done))))|((refine ObEqs.mk ?_ ?_);rfl)|exact True.intro)
       ·have r1 := Z7 ((o0 :: ot) ++ [w])
        have r2:=Z7 (o0::ot)
        have hol2:ot.length+1≤H.length:=hol
        have us:((o0::ot).map hA).take (ot.length+1)++[.agg [I w.1,.sl 2 (w.2.map pA)]]=((o0::ot)++[w]).map hA:=YT (l:=o0::ot) (x:=w)
        repeat' ((conv=>whnf);first|(refine SeqP.go ?_)|((refine ObD.mk ?_ ?_);exact zD)|((refine ObN.mk ?_ ?_);exact zN)|(with_reducible first|refine ObT.tt ?_|refine ObT.ff ?_)|((refine ObB.yes ?_ ?_);exact zB)|((refine ObB.no ?_ ?_);exact zC)|((with_reducible refine ObI.nl ?_ ?_);omega)|((refine ObX.mk _ rfl ?_ ?_);exact zX)|((with_reducible refine (?_:ObL _ _));(refine ObL.mk _ zM ?_))|((with_reducible refine (?_:ObU _ _));(refine ObU.mk _ zq1 ?_))|((with_reducible refine (?_:ObR _ _ _));(first|(refine ObR.mk _ (by assumption) ?_)|(refine ObR.mk _ (by exact q) ?_)|(refine ObR.mk _ Zv ?_)|(refine ObR.map zX (fun x hx=>?_))|(refine ObR.mk _ rfl ?_))))
        all_goals conv=>whnf
        refine Again.mk (n+1,(o0::ot)++[w],true) ⟨by dsimp only;omega,e1.symm,e2.symm⟩ ?_ (Fg.vw [(0,0,0),(0,1,0),(0,2,0),(0,3,0),(0,4,1)] ?_ ?_ (by simp) ?_)
        ·dsimp only;omega
        all_goals repeat' ((conv=>whnf);first|((with_reducible refine ObRow.lit ?_ ?_);(focus (simp [rnB,rnC,rnL,AV.cells,hS];done)))|((with_reducible refine ObRn.mk ?_ ?_);(focus (simp [rnB,rnC,rnA,rnT,hS];done)))|((refine ObN.mk ?_ ?_);exact zN)|((with_reducible refine ObRow.same ?_ ?_ ?_);exact zE;(focus (first|rfl|assumption|(simp;done))))|((refine ObEqs.mk ?_ ?_);rfl)|exact True.intro)
   ·obtain rfl : n = H.length := by omega
    rw [List.take_length] at ho
    rw [← ho]
    clear ho hg
    rcases out with _|⟨o0,ot⟩
    ·repeat' ((conv=>whnf);first|(refine SeqP.go ?_)|((refine ObD.mk ?_ ?_);exact zD)|((refine ObN.mk ?_ ?_);exact zN)|(refine ObT.ff ?_)|((refine ObB.no ?_ ?_);exact zC)|((with_reducible refine (?_:ObL _ _));(refine ObL.mk _ zL ?_))|((with_reducible refine (?_:ObU _ _));(refine ObU.mk _ zU ?_))|((with_reducible refine (?_:ObR _ _ _));(first|(refine ObR.mk _ zA ?_)|(refine ObR.map zX (fun x hx=>?_))|(refine ObR.mk _ rfl ?_)))|((refine ObEq.mk ?_);exact zE))
    ·have la : ((o0 :: ot).map hA).take (ot.length + 1) = (o0 :: ot).map hA := Xf (l := o0 :: ot)
     have lp:=p_h (o0::ot)
     have lq:(((o0::ot).map hA).take (ot.length+1)).all AV.isP=true:=by rw [la];exact lp
     have hol2:ot.length+1≤H.length:=hol
     repeat' ((conv=>whnf);first|(refine SeqP.go ?_)|((refine ObD.mk ?_ ?_);exact zD)|((refine ObN.mk ?_ ?_);exact zN)|(refine ObT.ff ?_)|((refine ObB.no ?_ ?_);exact zC)|((with_reducible refine (?_:ObL _ _));(refine ObL.mk _ zL ?_))|((with_reducible refine (?_:ObU _ _));(refine ObU.mk _ zq2 ?_))|((with_reducible refine (?_:ObR _ _ _));(first|(refine ObR.mk _ zA ?_)|(refine ObR.map zX (fun x hx=>?_))|(refine ObR.mk _ rfl ?_)))|((refine ObEq.mk ?_);exact zE))
set_option maxHeartbeats 16000000 in
theorem raftB (l : List Pr) (H : List Hd) (hHl : H.length ≤ 1000000) (o : Int) (x y z : ByteArray) (i : Int) (v : Option ByteArray) (P D : List Pr)
  (c32:PC Tryd.prog G 32 [.sl 2 (l.map pA),S x] (.tup [S (v.getD ⟨#[]⟩),Bo v.isSome])) (c71:PC Tryd.prog G 71 [.sl 2 (l.map pA),S x,S y] (.sl 2 (P.map pA))) (c72:PC Tryd.prog G 72 [.sl 2 (l.map pA),S x] (.sl 2 (D.map pA)))
  (o5:¬ o=5) (key:(v=none∧¬ o=2∧¬ o=3)∨(∃ w,v=some w∧¬ o=2∧(¬ o=4∨¬ w=z))):PC Tryd.prog G 42 [sA l H,xA o x y z i] (sA l (yn o i H)):=by
 have nh:=Z7 H
 rcases key with ⟨rfl,o2,o3⟩|⟨w,rfl,o2,o4|wz⟩
 all_goals by_cases o3':o=3
 all_goals by_cases o4':o=4
 all_goals try (exfalso;omega)
 all_goals simp only [Option.getD_none,Option.isSome_none,Option.getD_some,Option.isSome_some] at c32
 all_goals
  refine zf cop42 ?_
  repeat' ((conv=>whnf);first|((refine ObD.mk ?_ ?_);exact zD))
  conv=>whnf
  refine SeqP.go ?_
  repeat' ((conv=>whnf);first|((refine ObN.mk ?_ ?_);exact zN)|((with_reducible refine (?_:ObR _ _ _));(first|(refine ObR.mk _ zA ?_)|(refine ObR.map zX (fun x hx=>?_))|(refine ObR.mk _ rfl ?_)))|((refine ObC.f 32 ?_);(refine ObC.mk _ (c32) ?_)))
  conv=>whnf
  refine SeqP.go ?_
  repeat' ((conv=>whnf);first|((refine ObD.mk ?_ ?_);exact zD)|((refine ObN.mk ?_ ?_);exact zN)|((with_reducible refine (?_:ObU _ _));(refine ObU.mk _ zU ?_))|((with_reducible refine (?_:ObR _ _ _));(first|(refine ObR.mk _ zA ?_)|(refine ObR.map zX (fun x hx=>?_))|(refine ObR.mk _ rfl ?_))))
  conv=>whnf
  refine SeqP.go ?_
  repeat' ((conv=>whnf);first|((refine ObN.mk ?_ ?_);exact zN)|(with_reducible first|refine ObT.tt ?_|refine ObT.ff ?_)|((refine ObB.yes ?_ ?_);exact zB)|((refine ObB.no ?_ ?_);exact zC)|((with_reducible refine (?_:ObR _ _ _));(first|(refine ObR.mk _ zA ?_)|(refine ObR.map zX (fun x hx=>?_))|(refine ObR.mk _ rfl ?_))))
  conv=>whnf
  refine SeqP.go ?_
  repeat' ((conv=>whnf);first|(refine ObT.ff ?_))
  conv=>whnf
  refine SeqP.go ?_
  refine (Xv (α:=Unit) (fun _=>True) (fun _=>[(5,none),(0,none),(3,none),(0,none),(0,none),(0,none),(0,none),(0,none),(0,none),(0,none),(0,none),(0,none),(0,none),(0,none),(0,none),(0,none),(0,none),(0,none),(0,none),(0,none),(0,none),(0,none),(0,none),(0,none),(0,none),(0,none),(0,none),(0,none),(0,none),(0,none),(0,none),(0,none),(0,none),(0,none),(0,none),(0,none),(0,none),(0,none),(0,none),(0,none),(0,none),(0,none),(0,none),(0,none),(0,none),(0,none),(0,none),(0,none),(0,none),(0,none),(0,none),(0,none),(0,none),(0,none),(0,none),(0,none)]) (fun _=>[⟨27,2,[sA l H],0,0⟩,⟨29,5,[xA o x y z i],0,0⟩,⟨27,2,[.agg [.nl 2,.nl 2]],0,0⟩,⟨27,2,[.agg [.sl 2 (l.map pA),.nl 2]],0,0⟩]) ?_ ?_)
  ·intro Q hQ
   repeat' ((conv=>whnf);first|(refine SeqP.go ?_)|((refine ObN.mk ?_ ?_);exact zN)|(refine ObT.ff ?_)|((refine ObB.no ?_ ?_);exact zC)|((with_reducible refine (?_:ObR _ _ _));(first|(refine ObR.mk _ zA ?_)|(refine ObR.map zX (fun x hx=>?_))|(refine ObR.mk _ rfl ?_))))
   conv=>whnf
   refine hQ _ _ () trivial (Fg.go ?_ rfl)
   repeat' ((conv=>whnf);first|((refine ObEqs.mk ?_ ?_);rfl)|exact True.intro)
  ·rintro ⟨⟩ -
   repeat' ((conv=>whnf);first|(refine SeqP.go ?_))
   conv=>whnf
   refine LoopP.go (α:=Nat × List Hd × Bool) (fun p=>p.1≤H.length∧p.2.1=yn o i (H.take p.1)∧p.2.2=yQ o i (H.take p.1)) (fun p=>H.length - p.1) (fun p=>[(8,some (Bo p.2.2)),(0,some (I p.1)),(54,none),(0,none),(0,none),(0,none),(0,none),(0,none),(0,none),(0,none),(0,none),(0,none),(0,none),(0,none),(0,none),(0,none),(0,none),(0,none),(0,none),(0,none),(0,none),(0,none),(0,none),(0,none),(0,none),(0,none),(0,none),(0,none),(0,none),(0,none),(0,none),(0,none),(0,none),(0,none),(0,none),(0,none),(0,none)]) (fun p=>[⟨27,2,[sA l H],0,0⟩,⟨29,5,[xA o x y z i],0,0⟩,⟨27,2,[.agg [.nl 2,.nl 2]],0,0⟩,⟨27,2,[.agg [.sl 2 (l.map pA),hS 4 p.2.1]],0,0⟩]++hH 61 p.2.1) (0,[],false) ⟨Nat.zero_le _,by simp [yn,fx],by simp [yQ,fx]⟩ (Fg.go ?_ rfl) ?_
   ·repeat' ((conv=>whnf);first|((refine ObEqs.mk ?_ ?_);rfl)|((with_reducible refine ObEq1.i ?_ ?_);exact zF)|((with_reducible refine ObEq1.mk ?_ ?_);exact zE)|exact True.intro)
   rintro ⟨n,out,g⟩ ⟨hn,ho,hg⟩
   dsimp only at hn ho hg ⊢
   have hol:out.length≤H.length:=by rw [ho];exact Nat.le_trans Y4 zq14
   by_cases hnl:n < H.length
   ·have q := Yb hnl
    have ft:=List.take_succ_eq_append_getElem hnl
    generalize H[n]=w at *
    have d1:=fun (h:o=8) (hx:w.1=i) (hg:yQ o i (H.take n)=false)=>remH_drop (x:=w) h hx hg
    have d2:=fun (h:¬ (o=8∧w.1=i∧yQ o i (H.take n)=false))=>remH_keep (x:=w) h
    rw [← ft] at d1 d2
    rw [← ho,← hg] at d1 d2
    by_cases hd:o=8∧w.1=i∧g=false
    ·obtain ⟨h8, hwi, rfl⟩ := hd
     obtain ⟨e1,e2⟩:=d1 h8 hwi rfl
     clear d1 d2
     rcases out with _|⟨o0,ot⟩
     ·repeat' ((conv=>whnf);first|(refine SeqP.go ?_)|((refine ObD.mk ?_ ?_);exact zD)|((refine ObN.mk ?_ ?_);exact zN)|(with_reducible first|refine ObT.tt ?_|refine ObT.ff ?_)|((refine ObB.yes ?_ ?_);exact zB)|((with_reducible refine ObI.nl ?_ ?_);omega)|((refine ObX.mk _ rfl ?_ ?_);exact zX)|((with_reducible refine (?_:ObL _ _));(refine ObL.mk _ zM ?_))|((with_reducible refine (?_:ObR _ _ _));(first|(refine ObR.mk _ (by assumption) ?_)|(refine ObR.mk _ (by exact q) ?_)|(refine ObR.mk _ Zv ?_)|(refine ObR.map zX (fun x hx=>?_))|(refine ObR.mk _ rfl ?_))))
      all_goals conv=>whnf
      refine Again.mk (n+1,[],true) ⟨by dsimp only;omega,by dsimp only;rw [e1],by dsimp only;rw [e2]⟩ ?_ (Fg.go ?_ rfl)
      ·dsimp only;omega
      repeat' ((conv=>whnf);first|((refine ObEqs.mk ?_ ?_);rfl)|((with_reducible refine ObEq1.i ?_ ?_);exact zF)|((with_reducible refine ObEq1.mk ?_ ?_);exact zE)|exact True.intro)
     ·have r2 := Z7 (o0 :: ot)
      repeat' ((conv=>whnf);first|(refine SeqP.go ?_)|((refine ObD.mk ?_ ?_);exact zD)|((refine ObN.mk ?_ ?_);exact zN)|(with_reducible first|refine ObT.tt ?_|refine ObT.ff ?_)|((refine ObB.yes ?_ ?_);exact zB)|((with_reducible refine ObI.nl ?_ ?_);omega)|((refine ObX.mk _ rfl ?_ ?_);exact zX)|((with_reducible refine (?_:ObL _ _));(refine ObL.mk _ zM ?_))|((with_reducible refine (?_:ObR _ _ _));(first|(refine ObR.mk _ (by assumption) ?_)|(refine ObR.mk _ (by exact q) ?_)|(refine ObR.mk _ Zv ?_)|(refine ObR.map zX (fun x hx=>?_))|(refine ObR.mk _ rfl ?_))))
      all_goals conv=>whnf
      refine Again.mk (n+1,o0::ot,true) ⟨by dsimp only;omega,by dsimp only;rw [e1],by dsimp only;rw [e2]⟩ ?_ (Fg.go ?_ rfl)
      ·dsimp only;omega
      repeat' ((conv=>whnf);first|((refine ObEqs.mk ?_ ?_);rfl)|((with_reducible refine ObEq1.i ?_ ?_);exact zF)|((with_reducible refine ObEq1.mk ?_ ?_);exact zE)|exact True.intro)
    ·obtain ⟨e1, e2⟩ := d2 hd
     clear d1 d2
     have h3:¬ o=8∨(o=8∧¬ w.1=i)∨(o=8∧w.1=i∧g=true):=by
      by_cases h8:o=8
      ·by_cases hwi : w.1 = i
       ·refine .inr (.inr ⟨h8, hwi, ?_⟩)
        cases g
        ·exact absurd ⟨h8,hwi,rfl⟩ hd
        ·rfl
       ·exact .inr (.inl ⟨h8,hwi⟩)
      ·exact .inl h8
     clear hd
     cases g
     ·rcases h3 with h8 | ⟨h8, hwi⟩ | ⟨h8, hwi, gt⟩
      rotate_left 2
      ·cases gt
      all_goals try (exfalso;omega)
      all_goals
       rcases out with _|⟨o0,ot⟩
       ·have r1 := Z7 [w]
        repeat' ((conv=>whnf);first|(refine SeqP.go ?_)|((refine ObD.mk ?_ ?_);exact zD)|((refine ObN.mk ?_ ?_);exact zN)|(with_reducible first|refine ObT.tt ?_|refine ObT.ff ?_)|((refine ObB.yes ?_ ?_);exact zB)|((refine ObB.no ?_ ?_);exact zC)|((with_reducible refine ObI.nl ?_ ?_);omega)|((refine ObX.mk _ rfl ?_ ?_);exact zX)|((with_reducible refine (?_:ObL _ _));(refine ObL.mk _ zM ?_))|((with_reducible refine (?_:ObU _ _));(refine ObU.mk _ zU ?_))|((with_reducible refine (?_:ObR _ _ _));(first|(refine ObR.mk _ (by assumption) ?_)|(refine ObR.mk _ (by exact q) ?_)|(refine ObR.mk _ Zv ?_)|(refine ObR.map zX (fun x hx=>?_))|(refine ObR.mk _ rfl ?_)))|((with_reducible refine ObW.cons ?_ ?_);(focus (first|assumption|(simp;done)))))
        all_goals conv=>whnf
        refine Again.mk (n+1,[w],false) ⟨by dsimp only;omega,e1.symm,e2.symm⟩ ?_ (Fg.vw [(0,0,0),(0,1,0),(0,2,0),(0,3,0),(0,5,0)] ?_ ?_ (by simp) ?_)
        ·dsimp only;omega
        all_goals repeat' ((conv=>whnf);first|((with_reducible refine ObRow.lit ?_ ?_);(focus (simp [rnB,rnC,rnL,AV.cells,hS];done)))|((with_reducible refine ObRn.mk ?_ ?_);(focus (simp [rnB,rnC,rnA,rnT,hS];done)))|((refine ObN.mk ?_ ?_);exact zN)|((with_reducible refine ObRow.same ?_ ?_ ?_);exact zE;(focus (first|rfl|assumption|(simp;done))))|((refine ObEqs.mk ?_ ?_);rfl)|exact True.intro)
       ·have r1 := Z7 ((o0 :: ot) ++ [w])
        have r2:=Z7 (o0::ot)
        have hol2:ot.length+1≤H.length:=hol
        have us:((o0::ot).map hA).take (ot.length+1)++[.agg [I w.1,.sl 2 (w.2.map pA)]]=((o0::ot)++[w]).map hA:=YT (l:=o0::ot) (x:=w)
        repeat' ((conv=>whnf);first|(refine SeqP.go ?_)|((refine ObD.mk ?_ ?_);exact zD)|((refine ObN.mk ?_ ?_);exact zN)|(with_reducible first|refine ObT.tt ?_|refine ObT.ff ?_)|((refine ObB.yes ?_ ?_);exact zB)|((refine ObB.no ?_ ?_);exact zC)|((with_reducible refine ObI.nl ?_ ?_);omega)|((refine ObX.mk _ rfl ?_ ?_);exact zX)|((with_reducible refine (?_:ObL _ _));(refine ObL.mk _ zM ?_))|((with_reducible refine (?_:ObU _ _));(refine ObU.mk _ zq1 ?_))|((with_reducible refine (?_:ObR _ _ _));(first|(refine ObR.mk _ (by assumption) ?_)|(refine ObR.mk _ (by exact q) ?_)|(refine ObR.mk _ Zv ?_)|(refine ObR.map zX (fun x hx=>?_))|(refine ObR.mk _ rfl ?_))))
        all_goals conv=>whnf
        refine Again.mk (n+1,(o0::ot)++[w],false) ⟨by dsimp only;omega,e1.symm,e2.symm⟩ ?_ (Fg.vw [(0,0,0),(0,1,0),(0,2,0),(0,3,0),(0,4,1)] ?_ ?_ (by simp) ?_)
        ·dsimp only;omega
        all_goals repeat' ((conv=>whnf);first|((with_reducible refine ObRow.lit ?_ ?_);(focus (simp [rnB,rnC,rnL,AV.cells,hS];done)))|((with_reducible refine ObRn.mk ?_ ?_);(focus (simp [rnB,rnC,rnA,rnT,hS];done)))|((refine ObN.mk ?_ ?_);exact zN)|((with_reducible refine ObRow.same ?_ ?_ ?_);exact zE;(focus (first|rfl|assumption|(simp;done))))|((refine ObEqs.mk ?_ ?_);rfl)|exact True.intro)
     ·rcases h3 with h8 | ⟨h8, hwi⟩ | ⟨h8, hwi, gt⟩
      all_goals try (exfalso;omega)
      all_goals
       rcases out with _|⟨o0,ot⟩
       ·have r1 := Z7 [w]
        repeat' ((conv=>whnf);first|(refine SeqP.go ?_)|((refine ObD.mk ?_ ?_);exact zD)|((refine ObN.mk ?_ ?_);exact zN)|(with_reducible first|refine ObT.tt ?_|refine ObT.ff ?_)|((refine ObB.yes ?_ ?_);exact zB)|((refine ObB.no ?_ ?_);exact zC)|((with_reducible refine ObI.nl ?_ ?_);omega)|((refine ObX.mk _ rfl ?_ ?_);exact zX)|((with_reducible refine (?_:ObL _ _));(refine ObL.mk _ zM ?_))|((with_reducible refine (?_:ObU _ _));(refine ObU.mk _ zU ?_))|((with_reducible refine (?_:ObR _ _ _));(first|(refine ObR.mk _ (by assumption) ?_)|(refine ObR.mk _ (by exact q) ?_)|(refine ObR.mk _ Zv ?_)|(refine ObR.map zX (fun x hx=>?_))|(refine ObR.mk _ rfl ?_)))|((with_reducible refine ObW.cons ?_ ?_);(focus (first|assumption|(simp;done)))))
        all_goals conv=>whnf
        refine Again.mk (n+1,[w],true) ⟨by dsimp only;omega,e1.symm,e2.symm⟩ ?_ (Fg.vw [(0,0,0),(0,1,0),(0,2,0),(0,3,0),(0,5,0)] ?_ ?_ (by simp) ?_)
        ·dsimp only;omega
        all_goals repeat' ((conv=>whnf);first|((with_reducible refine ObRow.lit ?_ ?_);(focus (simp [rnB,rnC,rnL,AV.cells,hS];done)))|((with_reducible refine ObRn.mk ?_ ?_);(focus (simp [rnB,rnC,rnA,rnT,hS];done)))|((refine ObN.mk ?_ ?_);exact zN)|((with_reducible refine ObRow.same ?_ ?_ ?_);exact zE;(focus (first|rfl|assumption|(simp;done))))|((refine ObEqs.mk ?_ ?_);rfl)|exact True.intro)
       ·have r1 := Z7 ((o0 :: ot) ++ [w])
        have r2:=Z7 (o0::ot)
        have hol2:ot.length+1≤H.length:=hol
        have us:((o0::ot).map hA).take (ot.length+1)++[.agg [I w.1,.sl 2 (w.2.map pA)]]=((o0::ot)++[w]).map hA:=YT (l:=o0::ot) (x:=w)
        repeat' ((conv=>whnf);first|(refine SeqP.go ?_)|((refine ObD.mk ?_ ?_);exact zD)|((refine ObN.mk ?_ ?_);exact zN)|(with_reducible first|refine ObT.tt ?_|refine ObT.ff ?_)|((refine ObB.yes ?_ ?_);exact zB)|((refine ObB.no ?_ ?_);exact zC)|((with_reducible refine ObI.nl ?_ ?_);omega)|((refine ObX.mk _ rfl ?_ ?_);exact zX)|((with_reducible refine (?_:ObL _ _));(refine ObL.mk _ zM ?_))|((with_reducible refine (?_:ObU _ _));(refine ObU.mk _ zq1 ?_))|((with_reducible refine (?_:ObR _ _ _));(first|(refine ObR.mk _ (by assumption) ?_)|(refine ObR.mk _ (by exact q) ?_)|(refine ObR.mk _ Zv ?_)|(refine ObR.map zX (fun x hx=>?_))|(refine ObR.mk _ rfl ?_))))
        all_goals conv=>whnf
        refine Again.mk (n+1,(o0::ot)++[w],true) ⟨by dsimp only;omega,e1.symm,e2.symm⟩ ?_ (Fg.vw [(0,0,0),(0,1,0),(0,2,0),(0,3,0),(0,4,1)] ?_ ?_ (by simp) ?_)
        ·dsimp only;omega
        all_goals repeat' ((conv=>whnf);first|((with_reducible refine ObRow.lit ?_ ?_);(focus (simp [rnB,rnC,rnL,AV.cells,hS];done)))|((with_reducible refine ObRn.mk ?_ ?_);(focus (simp [rnB,rnC,rnA,rnT,hS];done)))|((refine ObN.mk ?_ ?_);exact zN)|((with_reducible refine ObRow.same ?_ ?_ ?_);exact zE;(focus (first|rfl|assumption|(simp;done))))|((refine ObEqs.mk ?_ ?_);rfl)|exact True.intro)
   ·obtain rfl : n = H.length := by omega
    rw [List.take_length] at ho
    rw [← ho]
    clear ho hg
    rcases out with _|⟨o0,ot⟩
    ·repeat' ((conv=>whnf);first|(refine SeqP.go ?_)|((refine ObD.mk ?_ ?_);exact zD)|((refine ObN.mk ?_ ?_);exact zN)|(refine ObT.ff ?_)|((refine ObB.no ?_ ?_);exact zC)|((with_reducible refine (?_:ObL _ _));(refine ObL.mk _ zL ?_))|((with_reducible refine (?_:ObU _ _));(refine ObU.mk _ zU ?_))|((with_reducible refine (?_:ObR _ _ _));(first|(refine ObR.mk _ zA ?_)|(refine ObR.map zX (fun x hx=>?_))|(refine ObR.mk _ rfl ?_)))|((refine ObEq.mk ?_);exact zE))
    ·have la : ((o0 :: ot).map hA).take (ot.length + 1) = (o0 :: ot).map hA := Xf (l := o0 :: ot)
     have lp:=p_h (o0::ot)
     have lq:(((o0::ot).map hA).take (ot.length+1)).all AV.isP=true:=by rw [la];exact lp
     have hol2:ot.length+1≤H.length:=hol
     repeat' ((conv=>whnf);first|(refine SeqP.go ?_)|((refine ObD.mk ?_ ?_);exact zD)|((refine ObN.mk ?_ ?_);exact zN)|(refine ObT.ff ?_)|((refine ObB.no ?_ ?_);exact zC)|((with_reducible refine (?_:ObL _ _));(refine ObL.mk _ zL ?_))|((with_reducible refine (?_:ObU _ _));(refine ObU.mk _ zq2 ?_))|((with_reducible refine (?_:ObR _ _ _));(first|(refine ObR.mk _ zA ?_)|(refine ObR.map zX (fun x hx=>?_))|(refine ObR.mk _ rfl ?_)))|((refine ObEq.mk ?_);exact zE))
end
end Go.Proofs.YtgpldekhcojimaaDoor.Sim
namespace Go.Proofs.YtgpldekhcojimaaDoor.Sim
open Go.RowKit
set_option maxRecDepth 100000
open Pr7
theorem put_same {l:List Pr} {x y:ByteArray}:mk l=mk (pt (mk l) x y)↔val l x=some y:=by
 rw [xB (pt_lt (ZU l) x y)]
 constructor
 ·intro e
  have:=congrArg (fun m=>val m x) e
  rw [y7,wY,if_pos rfl] at this
  exact this
 ·intro e
  refine XX (ZU l) (pt_lt (ZU l) x y) fun k=>?_
  rw [wY]
  split
  ·rename_i h;subst h;rw [y7,e]
  ·rfl
theorem val_dr {m:List Pr} {k x:ByteArray}:val (dr m k) x=if x=k then none else val m x:=by
 unfold val
 rw [fk_dr]
 by_cases h:x=k<;>simp [h]
theorem drop_same {l:List Pr} {x:ByteArray}:mk l=mk (dr (mk l) x)↔val l x=none:=by
 rw [xB (dr_lt (ZU l) x)]
 constructor
 ·intro e
  have:=congrArg (fun m=>val m x) e
  rw [y7,val_dr,if_pos rfl] at this
  exact this
 ·intro e
  refine XX (ZU l) (dr_lt (ZU l) x) fun k=>?_
  rw [val_dr]
  split
  ·rename_i h;subst h;rw [y7,e]
  ·rfl
theorem erase_ne {H:List Hd} {j:Nat} (hj:j < H.length):¬ sH H (H.eraseIdx j):=by
 intro e
 have:=congrArg List.length e
 simp only [List.length_map,List.length_eraseIdx,if_pos hj] at this
 omega
theorem aft_cases (l : List Pr) (H : List Hd) (o : Int) (x y z : ByteArray) (i : Int) :
  ((mk l=mk (if o=5 then dr (mk l) x else if ZO o (val l x) z=true then mk (l++[(x,y)]) else l)∧sH H (yn o i H))∧aft l H o x y z i=(l,H,false))
  ∨ (¬ (mk l=mk (if o=5 then dr (mk l) x else if ZO o (val l x) z=true then mk (l++[(x,y)]) else l)∧sH H (yn o i H))∧aft l H o x y z i=((if o=5 then dr (mk l) x else if ZO o (val l x) z=true then mk (l++[(x,y)]) else l),yn o i H,true)):=by
 unfold aft
 by_cases o5:o=5
 ·subst o5
  have hp:ZO 5 (val l x) z=false:=by simp [ZO]
  have hr:yn 5 i H=H:=by simp [yn]
  rw [if_pos rfl,hr,if_neg (by simp [hp])]
  by_cases hv:(val l x).isSome=true
  ·rw [if_pos ⟨rfl, hv⟩]
   refine .inr ⟨fun e=>?_,rfl⟩
   rw [drop_same.1 e.1] at hv
   cases hv
  ·rw [if_neg (fun e=>hv e.2)]
   exact .inl ⟨⟨drop_same.2 (by simpa using hv),rfl⟩,rfl⟩
 rw [if_neg o5]
 by_cases hp:ZO o (val l x) z=true
 ·rw [if_pos hp, ← pt_mk]
  have o8:¬ o=8:=fun e=>by subst e;simp [ZO] at hp
  have hr:yn o i H=H:=by simp [yn,o8]
  rw [hr]
  by_cases hv:val l x=some y
  ·rw [if_neg (fun e=>e.2 hv),if_neg (fun e=>o5 e.1)]
   refine .inl ⟨⟨put_same.2 hv,rfl⟩,?_⟩
   split
   ·exact absurd rfl o8
   ·rfl
  ·rw [if_pos ⟨hp, hv⟩]
   exact .inr ⟨fun e=>hv (put_same.1 e.1),rfl⟩
 ·rw [if_neg hp,if_neg (fun e=>hp e.1),if_neg (fun e=>o5 e.1)]
  by_cases o8:o=8
  ·subst o8
   unfold yn
   rw [if_pos rfl]
   cases hf:fx H i with
   | none=>exact .inl ⟨⟨rfl,rfl⟩,rfl⟩
   | some j =>
    obtain ⟨hj,_⟩:=WA hf
    exact .inr ⟨fun e=>erase_ne hj e.2,rfl⟩
  ·have hr : yn o i H = H := by simp [yn, o8]
   rw [hr]
   refine .inl ⟨⟨rfl,rfl⟩,?_⟩
   split
   ·exact absurd rfl o8
   ·rfl
theorem aft_else (l:List Pr) (H:List Hd) (o:Int) (x y z:ByteArray) (i:Int) (h8:¬ (o=8∧∃ j,fx H i=some j)) (hp:¬ (ZO o (val l x) z=true∧val l x ≠ some y)) (h5:¬ (o=5∧(val l x).isSome=true)):aft l H o x y z i=(l,H,false):=by
 unfold aft
 rw [if_neg hp,if_neg h5]
 by_cases o8:o=8
 ·subst o8
  cases hq:fx H i with
  | none=>rfl
  | some j=>exact absurd ⟨rfl,j,hq⟩ h8
 ·split
  ·exact absurd rfl o8
  ·rfl
section
variable (k s t h b:Int) (l:List Pr) (H:List Hd) (ok:Cu l H) (o:Int) (x y z:ByteArray) (i:Int) (hx:x.size≤40) (hy:y.size≤40)
include ok hx in
theorem after_eq (hf:PC Tryd.prog zw 25 [cA k s t h b,xA o x y z i] (Bo true)) (A:List Pr × List Hd × Bool) (hA:A=aft l H o x y z i):PC Tryd.prog zw 12 [cA k s t h b,sA l H,xA o x y z i] (.tup [sA A.1 A.2.1,Bo A.2.2]):=by
 have c36:=cl36 l H ok
 have hM:=Pr7.hM zw
 have c37:=get9 zw hM l ok.l1 ok.l0 x (by omega)
 have c38:=put17 zw hM l ok.l1 ok.l0 x y (by omega)
 have c39:=drop19 zw hM l ok.l1 ok.l0 x (by omega)
 have c40:=xJ zw l H (by have:=ok.h0;omega) i
 by_cases h8:o=8∧∃ j,fx H i=some j
 ·obtain ⟨rfl, j, hj⟩ := h8
  obtain ⟨hjl,_⟩:=WA hj
  have e:hix H i=(j:Int):=by unfold hix;rw [hj]
  rw [e] at c40
  unfold aft at hA
  rw [if_neg (by simp [ZO]),if_neg (by omega),hj] at hA
  subst hA
  exact aft_8 k s t h b l H x y z i ok hf _ c37 j hjl c40
 ·have hm:=fun hp h5=>aft_else l H o x y z i h8 hp h5
  have c40':o=8→PC Tryd.prog zw 40 [sA l H,I i] (I (-1)):=fun o8=>by
   have hn:fx H i=none:=by
    cases hq:fx H i with
    | none=>rfl
    | some j=>exact absurd ⟨o8,j,hq⟩ h8
   have e:hix H i = -1:=by unfold hix;rw [hn]
   rwa [e] at c40
  obtain ⟨a1,a2,a3⟩:=aft_12 k s t h b l H o x y z i hf c36 _ c37 _ _ c38 c39 c40'
  by_cases hp:ZO o (val l x) z=true∧val l x ≠ some y
  ·unfold aft at hA
   rw [if_pos hp] at hA
   subst hA
   exact a1 hp.1 hp.2
  ·by_cases h5 : o = 5 ∧ (val l x).isSome = true
   ·unfold aft at hA
    rw [if_neg hp,if_pos h5] at hA
    subst hA
    exact a2 h5.1 h5.2
   ·rw [hm hp h5] at hA
    subst hA
    exact a3 hp h5
variable (G:Nat→AV)
include ok hx hy in
theorem rafter42:PC Tryd.prog G 42 [sA l H,xA o x y z i] (sA (if o=5 then dr (mk l) x else if ZO o (val l x) z=true then mk (l++[(x,y)]) else l) (yn o i H)):=by
 have c32:=Pr7.get10 G l ok.l1 x
 have c71:=rput18 G l ok.l1 ok.l0 x y (by omega) (by omega)
 have c72:=rdrop20 G l ok.l1 x (by omega)
 have hH:H.length≤1000000:=by have:=ok.h0;omega
 by_cases o5:o=5
 ·rw [if_pos o5]
  exact raftA G l H hH o x y z i _ _ _ c32 c71 c72 _ (.inl ⟨o5,rfl⟩)
 rw [if_neg o5]
 generalize val l x=v at *
 by_cases hp:ZO o v z=true
 ·rw [if_pos hp]
  refine raftA G l H hH o x y z i _ _ _ c32 c71 c72 _ (.inr ⟨o5,?_⟩)
  cases v with
  | none=>exact .inl ⟨rfl,by simpa [ZO] using hp,rfl⟩
  | some w=>exact .inr ⟨w,rfl,by simpa [ZO] using hp,rfl⟩
 ·rw [if_neg hp]
  refine raftB G l H hH o x y z i _ _ _ c32 c71 c72 o5 ?_
  cases v with
  | none =>
   refine .inl ⟨rfl,fun e=>hp (by simp [ZO,e]),fun e=>hp (by simp [ZO,e])⟩
  | some w =>
   refine .inr ⟨w,rfl,fun e=>hp (by simp [ZO,e]),?_⟩
   by_cases o4:o=4
   ·exact .inr fun e=>hp (by simp [ZO,o4,e])
   ·exact .inl o4
include ok hx hy in
end
end Go.Proofs.YtgpldekhcojimaaDoor.Sim
namespace Go.Proofs.YtgpldekhcojimaaDoor.Sim
open Go.RowKit
set_option maxRecDepth 100000
open Pr7
theorem fOk_o {k s t h b o:Int} {x y z:ByteArray} {i:Int} (e:fOk k s t h b o x y z i=true):1≤o∧o≤13:=by
 unfold fOk at e
 rw [Bool.and_eq_true,decide_eq_true_eq,decide_eq_true_eq] at e
 have e2:=e.2
 unfold Conf.fits Conf.ft at e2
 split at e2
 ·omega
 ·rename_i h;omega
theorem wg {l:List Pr} {p:Pr} (h:p ∈ few l):p.1.size≤40:=by
 unfold few at h
 obtain ⟨q,_,rfl⟩:=List.mem_map.1 h
 exact yB q.1
theorem aft_r (l : List Pr) (H : List Hd) (ok : Cu l H) (o : Int) (x y z : ByteArray) (i : Int) (hx : x.size ≤ 40) (hy : y.size ≤ 40) :
  ((aft l H o x y z i).1.length≤1000∧Okl (aft l H o x y z i).1)∧((aft l H o x y z i).2.1.length≤1000∧∀ u ∈ (aft l H o x y z i).2.1,u.2.length≤1000∧Okl u.2):=by
 rcases aft_cases l H o x y z i with ⟨_,ha⟩|⟨_,ha⟩
 ·rw [ha];exact ok.r
 ·rw [ha]
  dsimp only
  have l0:=ok.l0
  have h6:=ok.h0
  have hmo:∀ m:List Pr,Okl m→Okl (mk m):=fun m hm=>Ym hm
  refine ⟨?_,?_⟩
  ·split
   ·have h1 := Z5 l
    have h2:(dr (mk l) x).length≤(mk l).length:=List.length_filter_le _ _
    exact ⟨by omega,⟨by have:=ok.l1.len;omega,fun p hp=>(hmo l ok.l1).sz p (List.mem_filter.1 hp).1⟩⟩
   ·split
    ·have h1 := Z5 (l ++ [(x, y)])
     rw [List.length_append] at h1
     simp only [List.length_cons,List.length_nil] at h1
     refine ⟨by omega,hmo _ ⟨by simp;omega,fun p hp=>?_⟩⟩
     rcases List.mem_append.1 hp with hp|hp
     ·exact ok.l1.sz p hp
     ·obtain rfl := List.mem_singleton.1 hp
      exact ⟨by dsimp only;omega,by dsimp only;omega⟩
    ·exact ⟨by omega,ok.l1⟩
  ·have h1 := Y4 (o := o) (i := i) (H := H)
   refine ⟨by omega,fun w hw=>?_⟩
   have hw':w ∈ H:=by
    unfold yn at hw
    split at hw
    ·split at hw
     ·exact List.mem_of_mem_eraseIdx hw
     ·exact hw
    ·exact hw
   exact ⟨by have:=(ok.h1 w hw').1;omega,(ok.h1 w hw').2⟩
theorem Cu.sz {l:List Pr} {H:List Hd} (c:Cu l H) {x:Hd} (hx:x ∈ H) {p:Pr} (hp:p ∈ x.2):p.1.size≤40:=by
 rw [← c.hf] at hx
 obtain ⟨y,e⟩:=fH_mem hx
 rw [e] at hp
 exact wg hp
section
variable (k s t h b:Int) (hk:i64 k) (hs:i64 s) (ht:i64 t) (hh:i64 h) (hb:i64 b) (l:List Pr) (H:List Hd) (ok:Cu l H) (o:Int) (x y z:ByteArray) (i:Int) (ho:i64 o) (hi:i64 i) (hx:x.size≤40) (hy:y.size≤40) (hz:z.size≤40)
include hk hs ht hh hb ok ho hi hx hy hz
end
end Go.Proofs.YtgpldekhcojimaaDoor.Sim
namespace Go.Proofs.YtgpldekhcojimaaDoor.Sim
open Go.RowKit
set_option maxRecDepth 100000
def wM (G:Nat→AV) (cc:AX) (vx vy:(EX→St→Prop)→St→Prop) (Q:EX→St→Prop) (st:St):Prop :=
 match st with
 | ⟨s,H⟩=>eK G s cc (fun c=>match c with
  | .v v=>(match v with|.bool b=>ObT b (vx Q ⟨s,H⟩) (vy Q ⟨s,H⟩)|_=>False)
  | _=>False)
def xT (m:Nat) (vx vy:(EX→St→Prop)→St→Prop) (Q:EX→St→Prop) (st:St):Prop:=vx (ZR (SeqP m (vy Q)) Q) st
def blockV (id:Nat) (vx:(EX→St→Prop)→St→Prop) (Q:EX→St→Prop) (st:St):Prop:=vx (yV id Q) st
section
variable {P:Program} {G:Nat→AV} {m:Nat} {hs:List FuncId}
theorem OkC.cond {c:Operand} {cc:AX} {x y:Code} {vx vy:(EX→St→Prop)→St→Prop} (hc:cx P 0 c=some cc) (hx:OkC P G m x vx) (hy:OkC P G m y vy):OkC P G m (.cond c x y) (wM G cc vx vy):=by
 intro B w0 F0 F1 O1 hm Q Q' st a w F O h hr hQ
 obtain ⟨s,H⟩:=st
 have ho:=hr.operand 0 c cc hc
 simp only [wM,ZG] at h
 split at h
 ·rename_i v hv
  split at h
  ·rename_i b
   rw [hv] at ho
   have ho:=ho.pvC rfl
   have e:a.eval c = .bool b:=by generalize a.eval c=q at ho;cases ho;rfl
   obtain ⟨h1,h2⟩:=h
   cases b
   ·exact wp_cond_false e (hy B w0 F0 F1 O1 hm Q Q' _ a w F O (h2 rfl) hr hQ)
   ·exact wp_cond_true e (hx B w0 F0 F1 O1 hm Q Q' _ a w F O (h1 rfl) hr hQ)
  ·exact h.elim
 ·exact h.elim
theorem OkC.sq {x y:Code} {vx vy:(EX→St→Prop)→St→Prop} (hx:OkC P G m x vx) (hy:OkC P G m y vy):OkC P G m (.seq x y) (xT m vx vy):=OkC.seq hx hy
theorem OkC.block {id:Nat} {x:Code} {vx:(EX→St→Prop)→St→Prop} (hx:OkC P G m x vx):OkC P G m (.block id x) (blockV id vx):=by
 intro B w0 F0 F1 O1 hm Q Q' st a w F O h hr hQ
 refine wp_block (hx B w0 F0 F1 O1 hm _ _ st a w F O h hr fun e st' a' w' F' O' he hr'=>?_)
 cases e with
 | n=>exact hQ .n st' a' w' F' O' he hr'
 | x id' =>
  simp only [yV] at he
  show (if id'=id then Q' .normal a' w' else Q' (.exit id') a' w')
  by_cases hid:id'=id
  ·rw [if_pos hid] at he ⊢;exact hQ .n st' a' w' F' O' he hr'
  ·rw [if_neg hid] at he ⊢;exact hQ (.x id') st' a' w' F' O' he hr'
 | r=>exact hQ .r st' a' w' F' O' he hr'
end
def bk1:Code→Code|.block _ c=>c|c=>c
def cn1:Code→Code|.cond _ c _=>c|c=>c
def cn2:Code→Code|.cond _ _ c=>c|c=>c
def ab1:AC→AC|.block _ c=>c|c=>c
def ac1:AC→AC|.cond _ c _=>c|c=>c
def ac2:AC→AC|.cond _ _ c=>c|c=>c
noncomputable def Wk:Code:=match (Tryd.prog).funcs[20]? with|some fn=>fn.body.getD .skip|none=>.skip
noncomputable abbrev k0:Code:=sq1 Wk
noncomputable abbrev k1:Code:=sq1 (sq2 Wk)
noncomputable abbrev k2:Code:=sq1 (sq2 (sq2 Wk))
noncomputable abbrev k3:Code:=sq1 (sq2 (sq2 (sq2 Wk)))
noncomputable abbrev k4:Code:=sq2 (sq2 (sq2 (sq2 Wk)))
noncomputable abbrev kX:Code:=bk1 (sq2 k3)
noncomputable abbrev kE:Code:=cn2 (sq2 kX)
noncomputable abbrev kZ:Code:=cn1 (sq2 kE)
noncomputable abbrev kS:Code:=cn1 (sq2 (sq1 kZ))
abbrev g0:AC:=aq1 A20.body
abbrev g1:AC:=aq1 (aq2 A20.body)
abbrev g2:AC:=aq1 (aq2 (aq2 A20.body))
abbrev g3:AC:=aq1 (aq2 (aq2 (aq2 A20.body)))
abbrev g4:AC:=aq2 (aq2 (aq2 (aq2 A20.body)))
abbrev gX:AC:=ab1 (aq2 g3)
abbrev gE:AC:=ac2 (aq2 gX)
abbrev gZ:AC:=ac1 (aq2 gE)
abbrev gS:AC:=ac1 (aq2 (aq1 gZ))
def gC:AC:=(AC.region [(AI.mk (some 73) (AOp.load true 2 (AX.t 5)) none),(AI.mk (some 74) (AOp.callh 36 [(AX.t 73)]) none),(AI.mk (some 14) (AOp.new 39 2 (AX.c (AV.agg [(AV.nl 2),(AV.nl 2)]))) none),(AI.mk none (AOp.store 2 (AX.t 14) (AX.t 74)) none)])
theorem ck0:ZJ Tryd.prog [41,60,65,66,68,79,87,90,97,101,102,103,104] (k0)=some (g0):=by kernel_rfl
theorem ck1:ZJ Tryd.prog [41,60,65,66,68,79,87,90,97,101,102,103,104] (k1)=some (g1):=by kernel_rfl
theorem ck2:ZJ Tryd.prog [41,60,65,66,68,79,87,90,97,101,102,103,104] (k2)=some (g2):=by kernel_rfl
theorem ck4:ZJ Tryd.prog [41,60,65,66,68,79,87,90,97,101,102,103,104] (k4)=some (g4):=by kernel_rfl
theorem ck3a:ZJ Tryd.prog [41,60,65,66,68,79,87,90,97,101,102,103,104] (sq1 k3)=some (aq1 g3):=by kernel_rfl
theorem ckY:ZJ Tryd.prog [41,60,65,66,68,79,87,90,97,101,102,103,104] (sq1 kX)=some (aq1 gX):=by kernel_rfl
theorem ckT:ZJ Tryd.prog [41,60,65,66,68,79,87,90,97,101,102,103,104] (cn1 (sq2 kX))=some (ac1 (aq2 gX)):=by kernel_rfl
theorem ckE1:ZJ Tryd.prog [41,60,65,66,68,79,87,90,97,101,102,103,104] (sq1 kE)=some (aq1 gE):=by kernel_rfl
theorem ckW:ZJ Tryd.prog [41,60,65,66,68,79,87,90,97,101,102,103,104] (cn2 (sq2 kE))=some (ac2 (aq2 gE)):=by kernel_rfl
theorem ckZ1:ZJ Tryd.prog [41,60,65,66,68,79,87,90,97,101,102,103,104] (sq1 (sq1 kZ))=some (aq1 (aq1 gZ)):=by kernel_rfl
theorem ckZ2:ZJ Tryd.prog [41,60,65,66,68,79,87,90,97,101,102,103,104] (sq2 kZ)=some (aq2 gZ):=by kernel_rfl
theorem ckS1:ZJ Tryd.prog [36,41,60,65,66,68,79,87,90,97,101,102,103,104] (sq1 kS)=some (gC):=by kernel_rfl
theorem ckS2:ZJ Tryd.prog [41,60,65,66,68,79,87,90,97,101,102,103,104] (sq2 kS)=some (aq2 gS):=by kernel_rfl
theorem bd20_is:Wk = .seq k0 (.seq k1 (.seq k2 (.seq (.seq (sq1 k3) (.block 0 (.seq (sq1 kX) (.cond (.tmp 44) (cn1 (sq2 kX)) (.seq (sq1 kE) (.cond (.tmp 54) (.seq (.seq (sq1 (sq1 kZ)) (.cond (.tmp 72) (.seq (sq1 kS) (sq2 kS)) .skip)) (sq2 kZ)) (cn2 (sq2 kE)))))))) k4))):=by kernel_rfl
noncomputable def fn20:Func:=((Tryd.prog).funcs[20]?).get (by kernel_rfl)
theorem fn20_is:(Tryd.prog).funcs[20]? = some fn20:=by kernel_rfl
theorem fn20_bd:fn20.body=some Wk:=by kernel_rfl
theorem fn20_nt:fn20.ntmps=108:=by kernel_rfl
theorem fn20_rs:yp Tryd.prog fn20.results.toList=some A20.res:=by kernel_rfl
def V20 (G:Nat→AV) (m:Nat):(EX→St→Prop)→St→Prop :=
 xT m (V Tryd.prog G m g0) (xT m (V Tryd.prog G m g1) (xT m (V Tryd.prog G m g2) (xT m (xT m (V Tryd.prog G m (aq1 g3)) (blockV 0 (xT m (V Tryd.prog G m (aq1 gX)) (wM G (.t 44) (V Tryd.prog G m (ac1 (aq2 gX))) (xT m (V Tryd.prog G m (aq1 gE)) (wM G (.t 54)
  (xT m (xT m (V Tryd.prog G m (aq1 (aq1 gZ))) (wM G (.t 72) (xT m (V Tryd.prog G m gC) (V Tryd.prog G m (aq2 gS))) (V Tryd.prog G m .skip))) (V Tryd.prog G m (aq2 gZ)))
  (V Tryd.prog G m (ac2 (aq2 gE))))))))) (V Tryd.prog G m g4))))
theorem YO {G:Nat→AV} {aS:List AV} {r:AV} (h:yq aS 108 (fun s=>V20 G 0 (wR A20.res r) ⟨s,[]⟩)):PC Tryd.prog G 20 aS r:=by
 refine XR (v:=V20 G 0) fn20_is (fn20_bd.trans (congrArg some bd20_is)) fn20_rs ?_ (by rw [fn20_nt];exact h)
 unfold V20
 exact OkC.sq (OkC.of ck0) (OkC.sq (OkC.of ck1) (OkC.sq (OkC.of ck2) (OkC.sq (OkC.sq (OkC.of ck3a) (OkC.block (OkC.sq (OkC.of ckY) (OkC.cond rfl (OkC.of ckT) (OkC.sq (OkC.of ckE1) (OkC.cond rfl
  (OkC.sq (OkC.sq (OkC.of ckZ1) (OkC.cond rfl (OkC.sq (OkC.of ckS1) (OkC.of ckS2)) (OkC.of (hs:=[]) rfl))) (OkC.of ckZ2)) (OkC.of ckW))))))) (OkC.of ck4))))
end Go.Proofs.YtgpldekhcojimaaDoor.Sim
namespace Go.Proofs.YtgpldekhcojimaaDoor.Sim
open Go.RowKit
set_option maxRecDepth 100000
open Pr7
abbrev sN (l:List Pr):AV:=.agg [.sl 2 (l.map pA),.nl 2]
abbrev sT (l:List Pr):AV:=.agg [.sl 2 (l.map pA),.em true 2]
abbrev sE (l:List Pr):AV:=.agg [.sl 2 (l.map pA),.em false 2]
section
variable (k s t h b:Int) (l:List Pr) (H:List Hd) (o:Int) (x y z:ByteArray) (i:Int) (e:Int) (q:Bool) (u v:ByteArray) (n:Int)
theorem st20_no (c25:PC Tryd.prog zw 25 [cA k s t h b,xA o x y z i] (Bo false)) (c36:PC Tryd.prog zw 36 [sA l H] (sA l H)):PC Tryd.prog zw 20 [cA k s t h b,sA l H,xA o x y z i,aA e q u v n] (.tup [sA l H,Bo false]):=by
 refine YO ?_
 repeat' ((conv=>whnf);first|(refine SeqP.go ?_)|((refine ObD.mk ?_ ?_);exact zD)|((refine ObN.mk ?_ ?_);exact zN)|(with_reducible first|refine ObT.tt ?_|refine ObT.ff ?_)|((with_reducible refine (?_:ObU _ _));(refine ObU.mk _ zU ?_))|((with_reducible refine (?_:ObR _ _ _));(first|(refine ObR.mk _ zA ?_)|(refine ObR.map zX (fun x hx=>?_))|(refine ObR.mk _ rfl ?_)))|((refine ObC.f 25 ?_);(refine ObC.mk _ (c25) ?_))|((refine ObC.f 36 ?_);(refine ObC.mk _ (c36) ?_))|((refine ObEq.mk ?_);exact zE))
theorem st20_has (r : An) (he : e = r.e ∧ q = r.h ∧ u = r.k ∧ v = r.v ∧ n = r.n) (c25 : PC Tryd.prog zw 25 [cA k s t h b, xA o x y z i] (Bo true)) (c9 : PC Tryd.prog zw 9 [cA k s t h b, sA l H, xA o x y z i] (.tup [r.A, Bo true])) (L : List Pr) (K : List Hd) (ch : Bool)
  (c12:PC Tryd.prog zw 12 [cA k s t h b,sA l H,xA o x y z i] (.tup [sA L K,Bo ch])):PC Tryd.prog zw 20 [cA k s t h b,sA l H,xA o x y z i,aA e q u v n] (.tup [sA L K,Bo true]):=by
 obtain ⟨rfl,rfl,rfl,rfl,rfl⟩:=he
 obtain ⟨e,q,u,v,n⟩:=r
 dsimp only [An.A] at *
 have he:n=n∧v=v∧u=u∧q=q∧e=e∧True:=⟨rfl,rfl,rfl,rfl,rfl,trivial⟩
 refine YO ?_
 repeat' ((conv=>whnf);first|(refine SeqP.go ?_)|((refine ObD.mk ?_ ?_);exact zD)|((refine ObN.mk ?_ ?_);exact zN)|(with_reducible first|refine ObT.tt ?_|refine ObT.ff ?_)|((refine ObB.yes ?_ ?_);exact zB)|((with_reducible refine (?_:ObU _ _));(refine ObU.mk _ zU ?_))|((with_reducible refine (?_:ObR _ _ _));(first|(refine ObR.mk _ zA ?_)|(refine ObR.map zX (fun x hx=>?_))|(refine ObR.mk _ rfl ?_)))|((refine ObC.f 25 ?_);(refine ObC.mk _ (c25) ?_))|((refine ObC.f 9 ?_);(refine ObC.mk _ (c9) ?_))|((refine ObC.f 12 ?_);(refine ObC.mk _ (c12) ?_))|((refine ObEq.mk ?_);exact zE))
theorem st20_upd (r : An) (he : ¬ (e = r.e ∧ q = r.h ∧ u = r.k ∧ v = r.v ∧ n = r.n)) (ho : 2 ≤ o ∧ o ≤ 5) (c25 : PC Tryd.prog zw 25 [cA k s t h b, xA o x y z i] (Bo true)) (c9 : PC Tryd.prog zw 9 [cA k s t h b, sA l H, xA o x y z i] (.tup [r.A, Bo true])) (c36 : PC Tryd.prog zw 36 [sA l H] (sA l H))
  (f:Bool) (hf:f=true↔(e=7∧q=false∧u=⟨#[]⟩∧v=⟨#[]⟩∧n=0)):PC Tryd.prog zw 20 [cA k s t h b,sA l H,xA o x y z i,aA e q u v n] (.tup [sA l H,Bo f]):=by
 obtain ⟨e',q',u',v',n'⟩:=r
 dsimp only [An.A] at *
 have he':¬ (n=n'∧v=v'∧u=u'∧q=q'∧e=e'∧True):=fun ⟨a,b,c,d,e,_⟩=>he ⟨e,d,c,b,a⟩
 obtain rfl|rfl|rfl|rfl:o=2∨o=3∨o=4∨o=5:=by omega
 all_goals
  cases f
  ·have hg:¬ (n=0∧v=⟨#[]⟩∧u=⟨#[]⟩∧q=false∧e=7∧True):=fun ⟨a,b,c,d,e,_⟩=>by have:=hf.2 ⟨e,d,c,b,a⟩;cases this
   clear he hf
   refine YO ?_
   repeat' ((conv=>whnf);first|(refine SeqP.go ?_)|exact SameP.mk rfl rfl|(with_reducible first|refine ObAnd.mk ?_ ?_|refine ObDx.same ?_)|((refine ObD.mk ?_ ?_);exact zD)|((refine ObN.mk ?_ ?_);exact zN)|(with_reducible first|refine ObT.tt ?_|refine ObT.ff ?_)|((refine ObB.yes ?_ ?_);exact zB)|((refine ObB.no ?_ ?_);exact zC)|((with_reducible refine (?_:ObU _ _));(refine ObU.mk _ zU ?_))|((with_reducible refine (?_:ObR _ _ _));(first|(refine ObR.mk _ zA ?_)|(refine ObR.map zX (fun x hx=>?_))|(refine ObR.mk _ rfl ?_)))|((refine ObC.f 25 ?_);(refine ObC.mk _ (c25) ?_))|((refine ObC.f 9 ?_);(refine ObC.mk _ (c9) ?_))|((refine ObC.f 36 ?_);(refine ObC.mk _ (c36) ?_))|((refine ObEq.mk ?_);exact zE))
  ·have hg : n = 0 ∧ v = ⟨#[]⟩ ∧ u = ⟨#[]⟩ ∧ q = false ∧ e = 7 ∧ True := by obtain ⟨a, b, c, d, e⟩ := hf.1 rfl; exact ⟨e, d, c, b, a, trivial⟩
   clear he hf
   refine YO ?_
   repeat' ((conv=>whnf);first|(refine SeqP.go ?_)|exact SameP.mk rfl rfl|(with_reducible first|refine ObAnd.mk ?_ ?_|refine ObDx.same ?_)|((refine ObD.mk ?_ ?_);exact zD)|((refine ObN.mk ?_ ?_);exact zN)|(with_reducible first|refine ObT.tt ?_|refine ObT.ff ?_)|((refine ObB.yes ?_ ?_);exact zB)|((refine ObB.no ?_ ?_);exact zC)|((with_reducible refine (?_:ObU _ _));(refine ObU.mk _ zU ?_))|((with_reducible refine (?_:ObR _ _ _));(first|(refine ObR.mk _ zA ?_)|(refine ObR.map zX (fun x hx=>?_))|(refine ObR.mk _ rfl ?_)))|((refine ObC.f 25 ?_);(refine ObC.mk _ (c25) ?_))|((refine ObC.f 9 ?_);(refine ObC.mk _ (c9) ?_))|((refine ObC.f 36 ?_);(refine ObC.mk _ (c36) ?_))|((refine ObEq.mk ?_);exact zE))
theorem st20_oth (r : An) (he : ¬ (e = r.e ∧ q = r.h ∧ u = r.k ∧ v = r.v ∧ n = r.n)) (ho : ¬ (2 ≤ o ∧ o ≤ 5) ∧ ¬ o = 7 ∧ ¬ o = 13) (c25 : PC Tryd.prog zw 25 [cA k s t h b, xA o x y z i] (Bo true)) (c9 : PC Tryd.prog zw 9 [cA k s t h b, sA l H, xA o x y z i] (.tup [r.A, Bo true])) (c36 : PC Tryd.prog zw 36 [sA l H] (sA l H)) :
  PC Tryd.prog zw 20 [cA k s t h b,sA l H,xA o x y z i,aA e q u v n] (.tup [sA l H,Bo false]):=by
 obtain ⟨e',q',u',v',n'⟩:=r
 dsimp only [An.A] at *
 have he':¬ (n=n'∧v=v'∧u=u'∧q=q'∧e=e'∧True):=fun ⟨a,b,c,d,e,_⟩=>he ⟨e,d,c,b,a⟩
 have o2:¬ o=2:=by omega
 have o3:¬ o=3:=by omega
 have o4:¬ o=4:=by omega
 have o5:¬ o=5:=by omega
 have o7:=ho.2.1
 have o13:=ho.2.2
 refine YO ?_
 repeat' ((conv=>whnf);first|(refine SeqP.go ?_)|((refine ObD.mk ?_ ?_);exact zD)|((refine ObN.mk ?_ ?_);exact zN)|(with_reducible first|refine ObT.tt ?_|refine ObT.ff ?_)|((refine ObB.no ?_ ?_);exact zC)|((with_reducible refine (?_:ObU _ _));(refine ObU.mk _ zU ?_))|((with_reducible refine (?_:ObR _ _ _));(first|(refine ObR.mk _ zA ?_)|(refine ObR.map zX (fun x hx=>?_))|(refine ObR.mk _ rfl ?_)))|((refine ObC.f 25 ?_);(refine ObC.mk _ (c25) ?_))|((refine ObC.f 9 ?_);(refine ObC.mk _ (c9) ?_))|((refine ObC.f 36 ?_);(refine ObC.mk _ (c36) ?_))|((refine ObEq.mk ?_);exact zE))
theorem st20_13 (r : An) (c25 : PC Tryd.prog zw 25 [cA k s t h b, xA 13 x y z i] (Bo true)) (c9 : PC Tryd.prog zw 9 [cA k s t h b, sA l H, xA 13 x y z i] (.tup [r.A, Bo false])) (c36 : PC Tryd.prog zw 36 [sA l H] (sA l H))
  (f:Bool) (hf:f=true↔(0≤n∧e=0∧q=false∧u=⟨#[]⟩∧v=⟨#[]⟩)):PC Tryd.prog zw 20 [cA k s t h b,sA l H,xA 13 x y z i,aA e q u v n] (.tup [sA l H,Bo f]):=by
 obtain ⟨e',q',u',v',n'⟩:=r
 dsimp only [An.A] at *
 by_cases hn:0≤n
 ·cases f
  ·have hg:¬ (n=n∧v=⟨#[]⟩∧u=⟨#[]⟩∧q=false∧e=0∧True):=fun ⟨a,b,c,d,e,_⟩=>by have:=hf.2 ⟨hn,e,d,c,b⟩;cases this
   clear hf
   refine YO ?_
   repeat' ((conv=>whnf);first|(refine SeqP.go ?_)|exact SameP.mk rfl rfl|(with_reducible first|refine ObAnd.mk ?_ ?_|refine ObDx.same ?_)|((refine ObD.mk ?_ ?_);exact zD)|((refine ObN.mk ?_ ?_);exact zN)|(with_reducible first|refine ObT.tt ?_|refine ObT.ff ?_)|((refine ObB.yes ?_ ?_);exact zB)|((refine ObB.no ?_ ?_);exact zC)|((with_reducible refine (?_:ObU _ _));(refine ObU.mk _ zU ?_))|((with_reducible refine (?_:ObR _ _ _));(first|(refine ObR.mk _ zA ?_)|(refine ObR.map zX (fun x hx=>?_))|(refine ObR.mk _ rfl ?_)))|((refine ObC.f 25 ?_);(refine ObC.mk _ (c25) ?_))|((refine ObC.f 9 ?_);(refine ObC.mk _ (c9) ?_))|((refine ObC.f 36 ?_);(refine ObC.mk _ (c36) ?_))|((refine ObEq.mk ?_);exact zE))
  ·have hg : n = n ∧ v = ⟨#[]⟩ ∧ u = ⟨#[]⟩ ∧ q = false ∧ e = 0 ∧ True := by obtain ⟨a, b, c, d, e⟩ := hf.1 rfl; exact ⟨rfl, e, d, c, b, trivial⟩
   clear hf
   refine YO ?_
   repeat' ((conv=>whnf);first|(refine SeqP.go ?_)|exact SameP.mk rfl rfl|(with_reducible first|refine ObAnd.mk ?_ ?_|refine ObDx.same ?_)|((refine ObD.mk ?_ ?_);exact zD)|((refine ObN.mk ?_ ?_);exact zN)|(with_reducible first|refine ObT.tt ?_|refine ObT.ff ?_)|((refine ObB.yes ?_ ?_);exact zB)|((refine ObB.no ?_ ?_);exact zC)|((with_reducible refine (?_:ObU _ _));(refine ObU.mk _ zU ?_))|((with_reducible refine (?_:ObR _ _ _));(first|(refine ObR.mk _ zA ?_)|(refine ObR.map zX (fun x hx=>?_))|(refine ObR.mk _ rfl ?_)))|((refine ObC.f 25 ?_);(refine ObC.mk _ (c25) ?_))|((refine ObC.f 9 ?_);(refine ObC.mk _ (c9) ?_))|((refine ObC.f 36 ?_);(refine ObC.mk _ (c36) ?_))|((refine ObEq.mk ?_);exact zE))
 ·obtain rfl : f = false := by
   cases f with
   | false=>rfl
   | true=>exact absurd (hf.1 rfl).1 hn
  have hn':n < 0:=by omega
  refine YO ?_
  repeat' ((conv=>whnf);first|(refine SeqP.go ?_)|exact SameP.mk rfl rfl|(with_reducible first|refine ObAnd.mk ?_ ?_|refine ObDx.same ?_)|((refine ObD.mk ?_ ?_);exact zD)|((refine ObN.mk ?_ ?_);exact zN)|(with_reducible first|refine ObT.tt ?_|refine ObT.ff ?_)|((refine ObB.yes ?_ ?_);exact zB)|((refine ObB.no ?_ ?_);exact zC)|((with_reducible refine (?_:ObU _ _));(refine ObU.mk _ zU ?_))|((with_reducible refine (?_:ObR _ _ _));(first|(refine ObR.mk _ zA ?_)|(refine ObR.map zX (fun x hx=>?_))|(refine ObR.mk _ rfl ?_)))|((refine ObC.f 25 ?_);(refine ObC.mk _ (c25) ?_))|((refine ObC.f 9 ?_);(refine ObC.mk _ (c9) ?_))|((refine ObC.f 36 ?_);(refine ObC.mk _ (c36) ?_))|((refine ObEq.mk ?_);exact zE))
theorem bNN {H:Hp} {xo yo:Operand}:zQ Tryd.prog H .eql 37 false xo yo (.em true 2) (.nl 2)=some (.v (.bool true)):=by kernel_rfl
theorem eNN {H:Hp} {k:KK} {xo yo:Operand} (hk:k (.v (.bool true)) H):ObE ((zQ Tryd.prog H .eql 37 false xo yo (.em true 2) (.nl 2)).map (·,H)) k:=.mk (.v (.bool true)) H (by rw [bNN];rfl) hk
theorem cl36n (ok:Cu l []):HC Tryd.prog zw 36 [sT l] [] (sN l) []:=by
 have hl1:l.length≤40:=ok.l0
 have cl:=Xm zw l (by omega)
 have c66:HC Tryd.prog zw 66 [.em true 2] [] (.nl 2) []:=by
  refine YF cop66 rfl ?_
  repeat' ((conv=>whnf);first|(refine SeqP.go ?_)|((with_reducible refine (?_:ObE _ _));(refine eNN ?_))|(refine ObT.tt ?_)|(exact ObEnd.eq rfl rfl))
 have z3:¬ ((0:Int) < 0):=by omega
 refine YF wN rfl ?_
 repeat' ((conv=>whnf);first|((refine ObD.mk ?_ ?_);exact zD))
 conv=>whnf
 refine SeqP.go ?_
 refine Xv (α:=Unit) (fun _=>True) (fun _=>[(3,some (.oa 2 0 0 0)),(1,none),(0,none),(0,none),(0,none),(0,none),(0,none),(0,none)]) (fun _=>[⟨39,2,[sT l],0,0⟩,⟨39,2,[.agg [.nl 2,.nl 2]],0,0⟩,⟨39,2,[sN l],0,0⟩]) ?_ ?_
 ·intro Q hQ
  have hQ0:=fun s' H' (h:s'.getD 3 zK = .oa 2 0 0 0) hf=>hQ s' H' () trivial hf
  repeat' ((conv=>whnf);first|(with_reducible first|refine ObAnd.mk ?_ ?_|refine ObDx.each ?_)|((refine ObD.mk ?_ ?_);exact zD)|((refine ObN.mk ?_ ?_);exact zN)|((with_reducible refine (?_:ObU _ _));(refine ObU.mk _ zU ?_))|((with_reducible refine (?_:ObR _ _ _));(first|(refine ObR.mk _ zA ?_)|(refine ObR.map zX (fun x hx=>?_))|(refine ObR.mk _ rfl ?_)))|((refine ObC.f 65 ?_);(refine ObC.mk _ (cl) ?_))|((refine ObH.f 66 ?_);refine ObH.frn _ xN [] (c66) (by simp) rfl (by simp) ?_)|((with_reducible refine ObAs.mk ?_ ?_);(focus (first|rfl|(simp [rnB,rnC,rnL];done))))|((with_reducible refine (?_:ObRs _ _ _));(refine ObRs.mk _ rfl ?_)))
  all_goals conv=>whnf
  all_goals first|refine hQ0 _ _ rfl (Fg.vw [(0,0,0),(0,1,0),(0,2,0)] ?_ ?_ (by simp) ?_)
  all_goals repeat' ((conv=>whnf);first|((with_reducible refine ObRow.lit ?_ ?_);(focus (simp [rnB,rnC,rnL,AV.cells];done)))|((refine ObN.mk ?_ ?_);exact zN)|((with_reducible refine ObRn.mk ?_ ?_);(focus (first|rfl|(simp [rnB,rnC,rnL];done))))|((refine ObEqs.mk ?_ ?_);rfl)|exact True.intro)
 ·rintro ⟨⟩ -
  repeat' ((conv=>whnf);first|(refine SeqP.go ?_)|((refine ObN.mk ?_ ?_);exact zN)|((with_reducible refine (?_:ObR _ _ _));(first|(refine ObR.mk _ zA ?_)|(refine ObR.map zX (fun x hx=>?_))|(refine ObR.mk _ rfl ?_))))
  conv=>whnf
  refine LoopP.go (α:=Unit) (fun _=>True) (fun _=>0) (fun _=>[(4,none),(10,some (I 0)),(0,none),(0,none),(0,none),(0,none),(0,none),(0,none),(0,none),(0,none),(0,none),(0,none),(0,none),(0,none),(0,none),(0,none),(0,none)]) (fun _=>[⟨39,2,[sT l],0,0⟩,⟨39,2,[.agg [.nl 2,.nl 2]],0,0⟩,⟨39,2,[sN l],0,0⟩]) () trivial (Fg.go ?_ rfl) ?_
  ·repeat' ((conv=>whnf);first|((refine ObEqs.mk ?_ ?_);rfl)|((with_reducible refine ObEq1.i ?_ ?_);exact zF)|exact True.intro)
  rintro ⟨⟩ -
  repeat' ((conv=>whnf);first|(refine SeqP.go ?_)|((refine ObD.mk ?_ ?_);exact zD)|((refine ObN.mk ?_ ?_);exact zN)|(refine ObT.ff ?_)|((refine ObB.no ?_ ?_);exact zC)|((with_reducible refine (?_:ObU _ _));(refine ObU.mk _ zU ?_))|((with_reducible refine (?_:ObR _ _ _));(first|(refine ObR.mk _ zA ?_)|(refine ObR.map zX (fun x hx=>?_))|(refine ObR.mk _ rfl ?_))))
  all_goals conv=>whnf
  all_goals refine ObEnd.vw [] rfl ?_ (by simp) ?_
  all_goals repeat' ((conv=>whnf);first|exact True.intro)
theorem cl36m (ok:Cu l []):HC Tryd.prog zw 36 [sE l] [] (.agg [.sl 2 (l.map pA),.ol 0 1 0]) [⟨71,2,[],1,0⟩]:=by
 have hl1:l.length≤40:=ok.l0
 have cl:=Xm zw l (by omega)
 have c66:HC Tryd.prog zw 66 [.em false 2] [] (.ol 0 1 0) [⟨71,2,[],1,0⟩]:=by
  refine yk cop66 ?_
  show W _ _ _ _ ⟨_,_⟩;simp only [A66,List.cons_append,List.nil_append,List.length_cons,List.length_nil,Nat.reduceAdd,Nat.reduceSub,List.replicate]
  repeat (first|(with_reducible first|refine zJ ?_|refine zI ?_|refine Ze ?_|refine zk ?_|refine zh ?_|refine Zl ?_)|((with_reducible first|refine ks fun K hK=>?_|refine kd fun K hK=>?_|refine kc fun K hK2 hK hK3=>?_|refine Zr fun K hR=>?_|refine Zj rfl fun K hR=>?_|refine Zi fun K hR=>?_);simp (disch:=omega) only [bg0,bg1,bg2,bg3,bg4,zr,zS,eff,AX.ev,St.put,zQ,zP,ap1,zg,Int.reduceTMod,Int.reduceTDiv,reduceCtorEq,zt,AV.cells,AV.fine,AV.one,Nat.reduceAdd,Nat.reduceSub,Nat.reduceMul,Nat.reduceLT,Nat.reduceLeDiff,Int.reduceLT,Int.reduceLE,Int.reduceAdd,Int.reduceSub,Int.reduceNeg,Int.reduceMul,Int.reduceEq,Int.reduceToNat,zW,zp,live,zo,rdA,ze,wrA,zH,zq,zV,zR,zT,zi,zb,zm,zj,zd,cut,id,ap2,reduceIte,zu,zY,geB,AOp.cls,AOp.xs,ltB,ltC,Nat.reduceBEq,Option.toList,List.cons_append,decide_eq_true,decide_eq_false,if_pos,if_neg,List.length_map,List.cons_append,bVb,bVn,eq_self,Bool.and_self,BEq.rfl,not_true_eq_false,islH,Yn,yN,Xe,w4,Bool.not_false,Bool.false_and,Bool.or_self,Bool.true_or,Bool.or_true,Bool.false_eq_true];(first|(with_reducible first|(refine hK _ ?_;clear hK K)|(refine hK ?_;clear hK hK3 K hK2)|(refine hK3 ?_;clear hK hK3 K hK2))|((with_reducible refine hR _ ?_ ?_ ?_ ?_);rotate_left 2;rfl;rfl)|((with_reducible refine hR _ ?_);rfl))))
 have z3:¬ ((0:Int) < 0):=by omega
 refine YF wN rfl ?_
 repeat' ((conv=>whnf);first|((refine ObD.mk ?_ ?_);exact zD))
 conv=>whnf
 refine SeqP.go ?_
 refine Xv (α:=Unit) (fun _=>True) (fun _=>[(3,some (.oa 2 0 0 0)),(1,none),(0,none),(0,none),(0,none),(0,none),(0,none),(0,none)]) (fun _=>[⟨39,2,[sE l],0,0⟩,⟨39,2,[.agg [.nl 2,.nl 2]],0,0⟩,⟨39,2,[.agg [.sl 2 (l.map pA),.ol 3 1 0]],0,0⟩,⟨71,2,[],1,0⟩]) ?_ ?_
 ·intro Q hQ
  have hQ0:=fun s' H' (h:s'.getD 3 zK = .oa 2 0 0 0) hf=>hQ s' H' () trivial hf
  have hQ1:=fun s' H' (h:s'.getD 3 zK = .oa 3 0 0 0) hf=>hQ s' H' () trivial hf
  repeat' ((conv=>whnf);first|(with_reducible first|refine ObAnd.mk ?_ ?_|refine ObDx.each ?_)|((refine ObD.mk ?_ ?_);exact zD)|((refine ObN.mk ?_ ?_);exact zN)|((with_reducible refine (?_:ObU _ _));(refine ObU.mk _ zU ?_))|((with_reducible refine (?_:ObR _ _ _));(first|(refine ObR.mk _ zA ?_)|(refine ObR.map zX (fun x hx=>?_))|(refine ObR.mk _ rfl ?_)))|((refine ObC.f 65 ?_);(refine ObC.mk _ (cl) ?_))|((refine ObH.f 66 ?_);refine ObH.frn _ xN [] (c66) (by simp) rfl (by simp) ?_)|((with_reducible refine ObAs.mk ?_ ?_);(focus (first|rfl|(simp [rnB,rnC,rnL];done))))|((with_reducible refine (?_:ObRs _ _ _));(refine ObRs.mk _ rfl ?_))|((with_reducible refine ObBk.same ?_ ?_);(focus (first|rfl|assumption|(simp;done)))))
  all_goals conv=>whnf
  all_goals first|refine hQ0 _ _ rfl (Fg.vw [(0,0,0),(0,1,0),(0,2,0),(1,3,1)] ?_ ?_ (by simp) ?_)|refine hQ1 _ _ rfl (Fg.vw [(0,0,0),(0,1,0),(0,3,0),(1,2,1)] ?_ ?_ (by simp) ?_)
  all_goals repeat' ((conv=>whnf);first|((with_reducible refine ObRow.lit ?_ ?_);(focus (simp [rnB,rnC,rnL,AV.cells];done)))|((refine ObN.mk ?_ ?_);exact zN)|((with_reducible refine ObRn.mk ?_ ?_);(focus (first|rfl|(simp [rnB,rnC,rnL];done))))|((with_reducible refine ObRow.lit ?_ ?_);(focus (first|rfl|(simp [rnB,rnC,rnL];done))))|((refine ObEqs.mk ?_ ?_);rfl)|exact True.intro)
 ·rintro ⟨⟩ -
  repeat' ((conv=>whnf);first|(refine SeqP.go ?_)|((refine ObN.mk ?_ ?_);exact zN)|((with_reducible refine (?_:ObR _ _ _));(first|(refine ObR.mk _ zA ?_)|(refine ObR.map zX (fun x hx=>?_))|(refine ObR.mk _ rfl ?_))))
  conv=>whnf
  refine LoopP.go (α:=Unit) (fun _=>True) (fun _=>0) (fun _=>[(4,none),(10,some (I 0)),(0,none),(0,none),(0,none),(0,none),(0,none),(0,none),(0,none),(0,none),(0,none),(0,none),(0,none),(0,none),(0,none),(0,none),(0,none)]) (fun _=>[⟨39,2,[sE l],0,0⟩,⟨39,2,[.agg [.nl 2,.nl 2]],0,0⟩,⟨39,2,[.agg [.sl 2 (l.map pA),.ol 3 1 0]],0,0⟩,⟨71,2,[],1,0⟩]) () trivial (Fg.go ?_ rfl) ?_
  ·repeat' ((conv=>whnf);first|((refine ObEqs.mk ?_ ?_);rfl)|((with_reducible refine ObEq1.i ?_ ?_);exact zF)|exact True.intro)
  rintro ⟨⟩ -
  repeat' ((conv=>whnf);first|(refine SeqP.go ?_)|((refine ObD.mk ?_ ?_);exact zD)|((refine ObN.mk ?_ ?_);exact zN)|(refine ObT.ff ?_)|((refine ObB.no ?_ ?_);exact zC)|((with_reducible refine (?_:ObU _ _));(refine ObU.mk _ zU ?_))|((with_reducible refine (?_:ObR _ _ _));(first|(refine ObR.mk _ zA ?_)|(refine ObR.map zX (fun x hx=>?_))|(refine ObR.mk _ rfl ?_))))
  all_goals conv=>whnf
  all_goals refine ObEnd.vw [(1,3,1)] rfl ?_ (by simp) ?_
  all_goals repeat' ((conv=>whnf);first|((refine ObN.mk ?_ ?_);exact zN)|((with_reducible refine ObRow.same ?_ ?_ ?_);exact zE;(focus (first|rfl|assumption|(simp;done))))|exact True.intro)
theorem st20_7s (r : An) (ok : Cu l H) (hH : H ≠ []) (hn : 0 ≤ n ∧ e = 0 ∧ q = false ∧ u = ⟨#[]⟩ ∧ v = ⟨#[]⟩) (c25 : PC Tryd.prog zw 25 [cA k s t h b, xA 7 x y z i] (Bo true)) (c9 : PC Tryd.prog zw 9 [cA k s t h b, sA l H, xA 7 x y z i] (.tup [r.A, Bo false])) (c40 : PC Tryd.prog zw 40 [sA l H, I n] (I (-1))) (c48 : PC Tryd.prog zw 48 [.sl 2 (l.map pA)] (.sl 2 ((mk l).map pA))) :
  PC Tryd.prog zw 20 [cA k s t h b,sA l H,xA 7 x y z i,aA e q u v n] (.tup [sA l (H++[(n,mk l)]),Bo true]):=by
 obtain ⟨e',q',u',v',n'⟩:=r
 dsimp only [An.A] at *
 obtain ⟨h0,rfl,rfl,rfl,rfl⟩:=hn
 have c36:=cl36r zw l H ok hH
 have nh:=Z7 H
 have hl6:=ok.h0
 have hml:(H.map hA).length=H.length:=List.length_map _
 have ta:(H.map hA).take H.length++[.agg [I n,.sl 2 ((mk l).map pA)]]=(H++[(n,mk l)]).map hA:=by
  rw [List.take_of_length_le (by simp)];simp [hA]
 have hg:n=n∧(⟨#[]⟩:ByteArray)=⟨#[]⟩∧(⟨#[]⟩:ByteArray)=⟨#[]⟩∧false=false∧(0:Int)=0∧True:=⟨rfl,rfl,rfl,rfl,rfl,trivial⟩
 have tq:((H++[(n,mk l)]).map hA).take (H.length+[AV.agg [I n,AV.sl 2 ((mk l).map pA)]].length)=(H++[(n,mk l)]).map hA:=List.take_of_length_le (by simp)
 have ip2:=p_h (H++[(n,mk l)])
 have ip:(((H++[(n,mk l)]).map hA).take (H.length+[AV.agg [I n,AV.sl 2 ((mk l).map pA)]].length)).all AV.isP=true:=by rw [tq];exact ip2
 refine YO ?_
 repeat' ((conv=>whnf);first|(refine SeqP.go ?_)|((refine ObD.mk ?_ ?_);exact zD)|((refine ObN.mk ?_ ?_);(focus (first|exact ip|exact ip2|rfl|assumption|omega|(simp only [List.length_map,List.length_append,List.length_cons,List.length_nil];omega)|(simp;done)|(simp;omega))))|(with_reducible first|refine ObT.tt ?_|refine ObT.ff ?_)|((refine ObB.yes ?_ ?_);exact zB)|((refine ObB.no ?_ ?_);exact zC)|((with_reducible refine (?_:ObL _ _));(refine ObL.mk _ zq10 ?_))|((with_reducible refine (?_:ObU _ _));(refine ObU.mk _ (by first|exact ta|exact tq|assumption|((conv=>lhs;simp only [List.set_cons_zero,List.set_cons_succ,List.take_succ_cons,List.take_zero,List.drop_succ_cons,List.drop_zero,List.nil_append,List.cons_append,List.append_nil,List.take_nil,List.drop_nil]);try rfl)|rfl) ?_))|((with_reducible refine (?_:ObR _ _ _));(first|(refine ObR.mk _ zA ?_)|(refine ObR.map zX (fun x hx=>?_))|(refine ObR.mk _ rfl ?_)))|((refine ObC.f 25 ?_);(refine ObC.mk _ (c25) ?_))|((refine ObC.f 9 ?_);(refine ObC.mk _ (c9) ?_))|((refine ObC.f 40 ?_);(refine ObC.mk _ (c40) ?_))|((refine ObC.f 48 ?_);(refine ObC.mk _ (c48) ?_))|((refine ObH.f 36 ?_);refine ObH.frn _ xN [] (c36) (by simp) rfl (by simp) ?_)|((refine ObEq.mk ?_);exact zE)|((with_reducible refine ObAs.mk ?_ ?_);(focus (first|rfl|(simp [rnB,rnC,rnL];done))))|((with_reducible refine (?_:ObRs _ _ _));(refine ObRs.mk _ rfl ?_))|((with_reducible refine ObBk.same ?_ ?_);(focus (first|rfl|assumption|(simp;done)))))
end
end Go.Proofs.YtgpldekhcojimaaDoor.Sim
namespace Go.Proofs.YtgpldekhcojimaaDoor.Sim
open Go.RowKit
set_option maxRecDepth 100000
open Pr7
section
variable {P:Program} {G:Nat→AV}
theorem pc_ofOkM {f : FuncId} {fn : Func} {c : Code} {ts : List RS} {v : (EX → St → Prop) → St → Prop} (hfn : P.funcs[f]? = some fn) (hc : fn.body = some c) (hts : yp P fn.results.toList = some ts) {aS : List AV} {r : AV} (hv : OkC P G 0 c v)
  (h:∀ (F:Fz) (xs:List Value),xs.length=aS.length→(∀ (i:Nat) (c:Value) (a:AV),xs[i]? = some c→aS[i]? = some a→PV F c a)→∃ bs:List AV,bs.length=aS.length∧(∀ (i:Nat) (c:Value) (a:AV),xs[i]? = some c→bs[i]? = some a→VR F [] c a)∧yq bs fn.ntmps (fun s=>v (wR ts r) ⟨s,[]⟩)):PC P G f aS r:=by
 intro w F xs hfr hg hl hvr
 obtain ⟨bs,hbl,hbv,h⟩:=h F xs hl hvr
 rw [yO] at h
 have hown:Own (Bd.of w.heap.size) w F F [] [] w:=⟨rfl,fun i d ob hd=>by simp at hd,fun i j d d' hd=>by simp at hd,hfr,Fz.le_refl F,fun b o v hv=>.inl hv,Below.refl _ _,Nat.le_refl _,fun _ h=>h.elim,fun _ h=>h.elim⟩
 refine calls_of_wp hfn hc (hv _ _ _ _ _ (Nat.le_refl _) _ _ _ _ _ F [] h (y4 hown hg (by rw [hl,hbl]) hbv) fun e st' a' w' F' O' he hr=>?_)
 have key:∀ {s:List AV} {H:Hp},st'=⟨s,H⟩→rsK s H ts (fun vs=>fzA H vs (fun vs' _=>wC vs' (fun v=>ObEq v r)))→a'.defers=[]∧∃ v,(results fn a'.tmps).run P w' = .ok v w'∧∃ v1 F',(Ending.returned v) = .returned v1∧PV F' v1 r∧F.le F'∧(∀ b o v,F' b o=some v→w'.cell? ⟨b,o,none⟩=some v)∧(∀ b o v,F' b o=some v→F b o=some v∨w.heap.size≤b)∧Below w.heap.size w w':=by
  intro s H hst he
  obtain ⟨vs,hvs,he⟩:=YN he
  obtain ⟨rs,H',hp,he⟩:=Xg he
  rw [Y3] at he
  obtain ⟨hrs⟩:=he
  subst hst
  obtain ⟨ys,y1,y2,y3⟩:=ZT hr hts hvs
  obtain ⟨F2,p1,p2,o2,l2⟩:=yY hr.own y2 y3 hp
  refine ⟨hr.defs,_,y1,_,F2,rfl,?_,Fz.le_trans hr.leF l2,o2.fr,fun b o v hv=>(o2.new b o v hv).imp id (·.1),o2.below⟩
  rw [← hrs]
  exact Yz (by omega) p1
 cases e with
 | n=>exact key rfl he
 | r=>exact key rfl he
 | x id=>exact he.elim
end
theorem pc20e {G:Nat→AV} {c x a:AV} {l:List Pr} {r:AV} (h:∀ b:Bool,yq [c,.agg [.sl 2 (l.map pA),.em b 2],x,a] 108 (fun s=>V20 G 0 (wR A20.res r) ⟨s,[]⟩)):PC Tryd.prog G 20 [c,sA l [],x,a] r:=by
 refine pc_ofOkM (v:=V20 G 0) fn20_is (fn20_bd.trans (congrArg some bd20_is)) fn20_rs ?_ ?_
 ·unfold V20
  exact OkC.sq (OkC.of ck0) (OkC.sq (OkC.of ck1) (OkC.sq (OkC.of ck2) (OkC.sq (OkC.sq (OkC.of ck3a) (OkC.block (OkC.sq (OkC.of ckY) (OkC.cond rfl (OkC.of ckT) (OkC.sq (OkC.of ckE1) (OkC.cond rfl
   (OkC.sq (OkC.sq (OkC.of ckZ1) (OkC.cond rfl (OkC.sq (OkC.of ckS1) (OkC.of ckS2)) (OkC.of (hs:=[]) rfl))) (OkC.of ckZ2)) (OkC.of ckW))))))) (OkC.of ck4))))
 ·intro F xs hl hv
  rw [fn20_nt]
  match xs,hl with
  | [x0,x1,x2,x3],_ =>
   have h1:PV F x1 (sA l []):=hv 1 x1 _ rfl rfl
   cases h1 with
   | agg cs as' hl1 ho1 hc1 =>
    match cs,hl1 with
    | [y0,y1],_ =>
     have p0:PV F y0 (.sl 2 (l.map pA)):=hc1 0 y0 _ rfl rfl
     have p1:PV F y1 (.sl 2 []):=hc1 1 y1 _ rfl rfl
     obtain ⟨b,hb⟩:=emV_vr p1
     refine ⟨[c,.agg [.sl 2 (l.map pA),.em b 2],x,a],rfl,fun i u w hu hw=>?_,h b⟩
     match i,hu,hw with
     | 0,hu,hw=>cases hu;cases hw;exact .p (hv 0 _ _ rfl rfl)
     | 1,hu,hw =>
      cases hu;cases hw
      have:=VR.agg (F:=F) (O:=[]) [y0,y1] [.sl 2 (l.map pA),.em b 2] rfl (fun a ha=>by simp at ha;rcases ha with rfl|rfl<;>rfl) (fun j q e hq he=>by
       match j,hq,he with
       | 0,hq,he=>cases hq;cases he;exact .p p0
       | 1,hq,he=>cases hq;cases he;exact hb)
      exact this
     | 2,hu,hw=>cases hu;cases hw;exact .p (hv 2 _ _ rfl rfl)
     | 3,hu,hw=>cases hu;cases hw;exact .p (hv 3 _ _ rfl rfl)
section
variable (k s t h b:Int) (l:List Pr) (H:List Hd) (o:Int) (x y z:ByteArray) (i:Int) (e:Int) (q:Bool) (u v:ByteArray) (n:Int)
set_option maxHeartbeats 4000000 in
theorem st20_7z (r : An) (ok : Cu l []) (hn : 0 ≤ n ∧ e = 0 ∧ q = false ∧ u = ⟨#[]⟩ ∧ v = ⟨#[]⟩) (c25 : PC Tryd.prog zw 25 [cA k s t h b, xA 7 x y z i] (Bo true)) (c9 : PC Tryd.prog zw 9 [cA k s t h b, sA l [], xA 7 x y z i] (.tup [r.A, Bo false])) (c40 : PC Tryd.prog zw 40 [sA l [], I n] (I (-1))) (c48 : PC Tryd.prog zw 48 [.sl 2 (l.map pA)] (.sl 2 ((mk l).map pA))) :
  PC Tryd.prog zw 20 [cA k s t h b,sA l [],xA 7 x y z i,aA e q u v n] (.tup [sA l [(n,mk l)],Bo true]):=by
 obtain ⟨e',q',u',v',n'⟩:=r
 dsimp only [An.A] at *
 obtain ⟨h0,rfl,rfl,rfl,rfl⟩:=hn
 have d1:=cl36n l ok
 have d2:=cl36m l ok
 have hg:n=n∧(⟨#[]⟩:ByteArray)=⟨#[]⟩∧(⟨#[]⟩:ByteArray)=⟨#[]⟩∧false=false∧(0:Int)=0∧True:=⟨rfl,rfl,rfl,rfl,rfl,trivial⟩
 refine pc20e fun bb=>?_
 cases bb
 ·repeat' ((conv=>whnf);first|(refine SeqP.go ?_)|((refine ObD.mk ?_ ?_);exact zD)|((refine ObN.mk ?_ ?_);exact zN)|(with_reducible first|refine ObT.tt ?_|refine ObT.ff ?_)|((refine ObB.yes ?_ ?_);exact zB)|((refine ObB.no ?_ ?_);exact zC)|((with_reducible refine (?_:ObL _ _));(refine ObL.mk _ zL ?_))|((with_reducible refine (?_:ObU _ _));(refine ObU.mk _ zU ?_))|((with_reducible refine (?_:ObR _ _ _));(first|(refine ObR.mk _ zA ?_)|(refine ObR.map zX (fun x hx=>?_))|(refine ObR.mk _ rfl ?_)))|((refine ObC.f 25 ?_);(refine ObC.mk _ (c25) ?_))|((refine ObC.f 9 ?_);(refine ObC.mk _ (c9) ?_))|((refine ObC.f 40 ?_);(refine ObC.mk _ (c40) ?_))|((refine ObC.f 48 ?_);(refine ObC.mk _ (c48) ?_))|((refine ObH.f 36 ?_);refine ObH.frn _ xN [] (d2) (by simp) rfl (by simp) ?_)|((refine ObEq.mk ?_);exact zE)|((with_reducible refine ObAs.mk ?_ ?_);(focus (first|rfl|(simp [rnB,rnC,rnL];done))))|((with_reducible refine (?_:ObRs _ _ _));(refine ObRs.mk _ rfl ?_))|((with_reducible refine ObBk.same ?_ ?_);(focus (first|rfl|assumption|(simp;done)))))
 ·repeat' ((conv=>whnf);first|(refine SeqP.go ?_)|((refine ObD.mk ?_ ?_);exact zD)|((refine ObN.mk ?_ ?_);exact zN)|(with_reducible first|refine ObT.tt ?_|refine ObT.ff ?_)|((refine ObB.yes ?_ ?_);exact zB)|((refine ObB.no ?_ ?_);exact zC)|((with_reducible refine (?_:ObL _ _));(refine ObL.mk _ zL ?_))|((with_reducible refine (?_:ObU _ _));(refine ObU.mk _ zU ?_))|((with_reducible refine (?_:ObR _ _ _));(first|(refine ObR.mk _ zA ?_)|(refine ObR.map zX (fun x hx=>?_))|(refine ObR.mk _ rfl ?_)))|((refine ObC.f 25 ?_);(refine ObC.mk _ (c25) ?_))|((refine ObC.f 9 ?_);(refine ObC.mk _ (c9) ?_))|((refine ObC.f 40 ?_);(refine ObC.mk _ (c40) ?_))|((refine ObC.f 48 ?_);(refine ObC.mk _ (c48) ?_))|((refine ObH.f 36 ?_);refine ObH.frn _ xN [] (d1) (by simp) rfl (by simp) ?_)|((with_reducible refine ObW.cons ?_ ?_);(focus (first|assumption|(simp;done))))|((refine ObEq.mk ?_);exact zE)|((with_reducible refine ObAs.mk ?_ ?_);(focus (first|rfl|(simp [rnB,rnC,rnL];done))))|((with_reducible refine (?_:ObRs _ _ _));(refine ObRs.mk _ rfl ?_)))
set_option maxHeartbeats 4000000 in
theorem XL (r : An) (c25 : PC Tryd.prog zw 25 [cA k s t h b, xA 7 x y z i] (Bo true)) (c9 : PC Tryd.prog zw 9 [cA k s t h b, sA l H, xA 7 x y z i] (.tup [r.A, Bo false])) (c36 : PC Tryd.prog zw 36 [sA l H] (sA l H)) (j : Int) (c40 : PC Tryd.prog zw 40 [sA l H, I n] (I j))
  (hn:¬ (0≤n∧e=0∧q=false∧u=⟨#[]⟩∧v=⟨#[]⟩∧j < 0)) (f:Bool) (hf:f=true↔(e=7∧q=false∧u=⟨#[]⟩∧v=⟨#[]⟩∧n=0)) :
  PC Tryd.prog zw 20 [cA k s t h b,sA l H,xA 7 x y z i,aA e q u v n] (.tup [sA l H,Bo f]):=by
 obtain ⟨e',q',u',v',n'⟩:=r
 dsimp only [An.A] at *
 have fin:∀ (P:(n=0∧v=⟨#[]⟩∧u=⟨#[]⟩∧q=false∧e=7∧True)∨¬ (n=0∧v=⟨#[]⟩∧u=⟨#[]⟩∧q=false∧e=7∧True)),(f=true∧(n=0∧v=⟨#[]⟩∧u=⟨#[]⟩∧q=false∧e=7∧True))∨(f=false∧¬ (n=0∧v=⟨#[]⟩∧u=⟨#[]⟩∧q=false∧e=7∧True)):=fun P=>by
  rcases P with P|P
  ·exact .inl ⟨hf.2 ⟨P.2.2.2.2.1,P.2.2.2.1,P.2.2.1,P.2.1,P.1⟩,P⟩
  ·refine .inr ⟨?_, P⟩
   cases f with
   | false=>rfl
   | true=>obtain ⟨a,b,c,d,e⟩:=hf.1 rfl;exact absurd ⟨e,d,c,b,a,trivial⟩ P
 have hF:=fin (Classical.em _)
 clear fin hf
 by_cases h0:0≤n
 ·by_cases hg : n = n ∧ v = ⟨#[]⟩ ∧ u = ⟨#[]⟩ ∧ q = false ∧ e = 0 ∧ True
  ·have hj : 0 ≤ j := by
    rcases Int.lt_or_le j 0 with hj|hj
    ·exact absurd ⟨h0,hg.2.2.2.2.1,hg.2.2.2.1,hg.2.2.1,hg.2.1,hj⟩ hn
    ·exact hj
   clear hn
   rcases hF with ⟨rfl,hF⟩|⟨rfl,hF⟩
   ·refine YO ?_
    repeat' ((conv=>whnf);first|(refine SeqP.go ?_)|exact SameP.mk rfl rfl|(with_reducible first|refine ObAnd.mk ?_ ?_|refine ObDx.same ?_)|((refine ObD.mk ?_ ?_);exact zD)|((refine ObN.mk ?_ ?_);exact zN)|(with_reducible first|refine ObT.tt ?_|refine ObT.ff ?_)|((refine ObB.yes ?_ ?_);exact zB)|((with_reducible refine (?_:ObU _ _));(refine ObU.mk _ zU ?_))|((with_reducible refine (?_:ObR _ _ _));(first|(refine ObR.mk _ zA ?_)|(refine ObR.map zX (fun x hx=>?_))|(refine ObR.mk _ rfl ?_)))|((refine ObC.f 25 ?_);(refine ObC.mk _ (c25) ?_))|((refine ObC.f 9 ?_);(refine ObC.mk _ (c9) ?_))|((refine ObC.f 36 ?_);(refine ObC.mk _ (c36) ?_))|((refine ObEq.mk ?_);exact zE))
   ·refine YO ?_
    repeat' ((conv=>whnf);first|(refine SeqP.go ?_)|exact SameP.mk rfl rfl|(with_reducible first|refine ObAnd.mk ?_ ?_|refine ObDx.same ?_)|((refine ObD.mk ?_ ?_);exact zD)|((refine ObN.mk ?_ ?_);exact zN)|(with_reducible first|refine ObT.tt ?_|refine ObT.ff ?_)|((refine ObB.yes ?_ ?_);exact zB)|((refine ObB.no ?_ ?_);exact zC)|((with_reducible refine (?_:ObU _ _));(refine ObU.mk _ zU ?_))|((with_reducible refine (?_:ObR _ _ _));(first|(refine ObR.mk _ zA ?_)|(refine ObR.map zX (fun x hx=>?_))|(refine ObR.mk _ rfl ?_)))|((refine ObC.f 25 ?_);(refine ObC.mk _ (c25) ?_))|((refine ObC.f 9 ?_);(refine ObC.mk _ (c9) ?_))|((refine ObC.f 36 ?_);(refine ObC.mk _ (c36) ?_))|((refine ObC.f 40 ?_);(refine ObC.mk _ (c40) ?_))|((refine ObEq.mk ?_);exact zE))
  ·clear hn
   rcases hF with ⟨rfl,hF⟩|⟨rfl,hF⟩
   ·refine YO ?_
    repeat' ((conv=>whnf);first|(refine SeqP.go ?_)|exact SameP.mk rfl rfl|(with_reducible first|refine ObAnd.mk ?_ ?_|refine ObDx.same ?_)|((refine ObD.mk ?_ ?_);exact zD)|((refine ObN.mk ?_ ?_);exact zN)|(with_reducible first|refine ObT.tt ?_|refine ObT.ff ?_)|((refine ObB.yes ?_ ?_);exact zB)|((refine ObB.no ?_ ?_);exact zC)|((with_reducible refine (?_:ObU _ _));(refine ObU.mk _ zU ?_))|((with_reducible refine (?_:ObR _ _ _));(first|(refine ObR.mk _ zA ?_)|(refine ObR.map zX (fun x hx=>?_))|(refine ObR.mk _ rfl ?_)))|((refine ObC.f 25 ?_);(refine ObC.mk _ (c25) ?_))|((refine ObC.f 9 ?_);(refine ObC.mk _ (c9) ?_))|((refine ObC.f 36 ?_);(refine ObC.mk _ (c36) ?_))|((refine ObEq.mk ?_);exact zE))
   ·refine YO ?_
    repeat' ((conv=>whnf);first|(refine SeqP.go ?_)|exact SameP.mk rfl rfl|(with_reducible first|refine ObAnd.mk ?_ ?_|refine ObDx.same ?_)|((refine ObD.mk ?_ ?_);exact zD)|((refine ObN.mk ?_ ?_);exact zN)|(with_reducible first|refine ObT.tt ?_|refine ObT.ff ?_)|((refine ObB.yes ?_ ?_);exact zB)|((refine ObB.no ?_ ?_);exact zC)|((with_reducible refine (?_:ObU _ _));(refine ObU.mk _ zU ?_))|((with_reducible refine (?_:ObR _ _ _));(first|(refine ObR.mk _ zA ?_)|(refine ObR.map zX (fun x hx=>?_))|(refine ObR.mk _ rfl ?_)))|((refine ObC.f 25 ?_);(refine ObC.mk _ (c25) ?_))|((refine ObC.f 9 ?_);(refine ObC.mk _ (c9) ?_))|((refine ObC.f 36 ?_);(refine ObC.mk _ (c36) ?_))|((refine ObEq.mk ?_);exact zE))
 ·have h0' : n < 0 := by omega
  clear hn
  rcases hF with ⟨rfl,hF⟩|⟨rfl,hF⟩
  ·refine YO ?_
   repeat' ((conv=>whnf);first|(refine SeqP.go ?_)|exact SameP.mk rfl rfl|(with_reducible first|refine ObAnd.mk ?_ ?_|refine ObDx.same ?_)|((refine ObD.mk ?_ ?_);exact zD)|((refine ObN.mk ?_ ?_);exact zN)|(with_reducible first|refine ObT.tt ?_|refine ObT.ff ?_)|((refine ObB.yes ?_ ?_);exact zB)|((with_reducible refine (?_:ObU _ _));(refine ObU.mk _ zU ?_))|((with_reducible refine (?_:ObR _ _ _));(first|(refine ObR.mk _ zA ?_)|(refine ObR.map zX (fun x hx=>?_))|(refine ObR.mk _ rfl ?_)))|((refine ObC.f 25 ?_);(refine ObC.mk _ (c25) ?_))|((refine ObC.f 9 ?_);(refine ObC.mk _ (c9) ?_))|((refine ObC.f 36 ?_);(refine ObC.mk _ (c36) ?_))|((refine ObEq.mk ?_);exact zE))
  ·refine YO ?_
   repeat' ((conv=>whnf);first|(refine SeqP.go ?_)|exact SameP.mk rfl rfl|(with_reducible first|refine ObAnd.mk ?_ ?_|refine ObDx.same ?_)|((refine ObD.mk ?_ ?_);exact zD)|((refine ObN.mk ?_ ?_);exact zN)|(with_reducible first|refine ObT.tt ?_|refine ObT.ff ?_)|((refine ObB.yes ?_ ?_);exact zB)|((refine ObB.no ?_ ?_);exact zC)|((with_reducible refine (?_:ObU _ _));(refine ObU.mk _ zU ?_))|((with_reducible refine (?_:ObR _ _ _));(first|(refine ObR.mk _ zA ?_)|(refine ObR.map zX (fun x hx=>?_))|(refine ObR.mk _ rfl ?_)))|((refine ObC.f 25 ?_);(refine ObC.mk _ (c25) ?_))|((refine ObC.f 9 ?_);(refine ObC.mk _ (c9) ?_))|((refine ObC.f 36 ?_);(refine ObC.mk _ (c36) ?_))|((refine ObEq.mk ?_);exact zE))
theorem rs21_no (c31:PC Tryd.prog zw 31 [cA k s t h b,xA o x y z i] (Bo false)):PC Tryd.prog zw 21 [cA k s t h b,sA l H,xA o x y z i,aA e q u v n] (.tup [sA l H,Bo false]):=by
 refine zf ZL ?_
 repeat' ((conv=>whnf);first|(refine SeqP.go ?_)|((refine ObD.mk ?_ ?_);exact zD)|((refine ObN.mk ?_ ?_);exact zN)|(with_reducible first|refine ObT.tt ?_|refine ObT.ff ?_)|((with_reducible refine (?_:ObU _ _));(refine ObU.mk _ zU ?_))|((with_reducible refine (?_:ObR _ _ _));(first|(refine ObR.mk _ zA ?_)|(refine ObR.map zX (fun x hx=>?_))|(refine ObR.mk _ rfl ?_)))|((refine ObC.f 31 ?_);(refine ObC.mk _ (c31) ?_))|((refine ObEq.mk ?_);exact zE))
set_option maxHeartbeats 4000000 in
theorem rs21_full (he:(2≤o∧o≤5∨o=7)∧e=7) (c31:PC Tryd.prog zw 31 [cA k s t h b,xA o x y z i] (Bo true)) (f:Bool) (hf:f=true↔(q=false∧u=⟨#[]⟩∧v=⟨#[]⟩∧n=0)):PC Tryd.prog zw 21 [cA k s t h b,sA l H,xA o x y z i,aA e q u v n] (.tup [sA l H,Bo f]):=by
 obtain ⟨ho,rfl⟩:=he
 cases q
 ·by_cases hu : u = ⟨#[]⟩
  ·by_cases hv : v = ⟨#[]⟩
   ·by_cases hn : n = 0
    ·obtain rfl : f = true := hf.2 ⟨rfl, hu, hv, hn⟩
     clear hf
     rcases ho with ho|rfl
     ·obtain ⟨ho1, ho2⟩ := ho
      refine zf ZL ?_
      repeat' ((conv=>whnf);first|(refine SeqP.go ?_)|exact SameP.mk rfl rfl|(with_reducible first|refine ObAnd.mk ?_ ?_|refine ObDx.same ?_)|((refine ObD.mk ?_ ?_);exact zD)|((refine ObN.mk ?_ ?_);exact zN)|(with_reducible first|refine ObT.tt ?_|refine ObT.ff ?_)|((refine ObB.yes ?_ ?_);exact zB)|((with_reducible refine (?_:ObU _ _));(refine ObU.mk _ zU ?_))|((with_reducible refine (?_:ObR _ _ _));(first|(refine ObR.mk _ zA ?_)|(refine ObR.map zX (fun x hx=>?_))|(refine ObR.mk _ rfl ?_)))|((refine ObC.f 31 ?_);(refine ObC.mk _ (c31) ?_))|((refine ObEq.mk ?_);exact zE))
     ·refine zf ZL ?_
      repeat' ((conv=>whnf);first|(refine SeqP.go ?_)|exact SameP.mk rfl rfl|(with_reducible first|refine ObAnd.mk ?_ ?_|refine ObDx.same ?_)|((refine ObD.mk ?_ ?_);exact zD)|((refine ObN.mk ?_ ?_);exact zN)|(with_reducible first|refine ObT.tt ?_|refine ObT.ff ?_)|((refine ObB.yes ?_ ?_);exact zB)|((refine ObB.no ?_ ?_);exact zC)|((with_reducible refine (?_:ObU _ _));(refine ObU.mk _ zU ?_))|((with_reducible refine (?_:ObR _ _ _));(first|(refine ObR.mk _ zA ?_)|(refine ObR.map zX (fun x hx=>?_))|(refine ObR.mk _ rfl ?_)))|((refine ObC.f 31 ?_);(refine ObC.mk _ (c31) ?_))|((refine ObEq.mk ?_);exact zE))
    ·obtain rfl : f = false := by cases f with | false => rfl | true => exact absurd (hf.1 rfl).2.2.2 hn
     clear hf
     rcases ho with ho|rfl
     ·obtain ⟨ho1, ho2⟩ := ho
      refine zf ZL ?_
      repeat' ((conv=>whnf);first|(refine SeqP.go ?_)|exact SameP.mk rfl rfl|(with_reducible first|refine ObAnd.mk ?_ ?_|refine ObDx.same ?_)|((refine ObD.mk ?_ ?_);exact zD)|((refine ObN.mk ?_ ?_);exact zN)|(with_reducible first|refine ObT.tt ?_|refine ObT.ff ?_)|((refine ObB.yes ?_ ?_);exact zB)|((refine ObB.no ?_ ?_);exact zC)|((with_reducible refine (?_:ObU _ _));(refine ObU.mk _ zU ?_))|((with_reducible refine (?_:ObR _ _ _));(first|(refine ObR.mk _ zA ?_)|(refine ObR.map zX (fun x hx=>?_))|(refine ObR.mk _ rfl ?_)))|((refine ObC.f 31 ?_);(refine ObC.mk _ (c31) ?_))|((refine ObEq.mk ?_);exact zE))
     ·refine zf ZL ?_
      repeat' ((conv=>whnf);first|(refine SeqP.go ?_)|exact SameP.mk rfl rfl|(with_reducible first|refine ObAnd.mk ?_ ?_|refine ObDx.same ?_)|((refine ObD.mk ?_ ?_);exact zD)|((refine ObN.mk ?_ ?_);exact zN)|(with_reducible first|refine ObT.tt ?_|refine ObT.ff ?_)|((refine ObB.yes ?_ ?_);exact zB)|((refine ObB.no ?_ ?_);exact zC)|((with_reducible refine (?_:ObU _ _));(refine ObU.mk _ zU ?_))|((with_reducible refine (?_:ObR _ _ _));(first|(refine ObR.mk _ zA ?_)|(refine ObR.map zX (fun x hx=>?_))|(refine ObR.mk _ rfl ?_)))|((refine ObC.f 31 ?_);(refine ObC.mk _ (c31) ?_))|((refine ObEq.mk ?_);exact zE))
   ·obtain rfl : f = false := by cases f with | false => rfl | true => exact absurd (hf.1 rfl).2.2.1 hv
    clear hf
    rcases ho with ho|rfl
    ·obtain ⟨ho1, ho2⟩ := ho
     refine zf ZL ?_
     repeat' ((conv=>whnf);first|(refine SeqP.go ?_)|exact SameP.mk rfl rfl|(with_reducible first|refine ObAnd.mk ?_ ?_|refine ObDx.same ?_)|((refine ObD.mk ?_ ?_);exact zD)|((refine ObN.mk ?_ ?_);exact zN)|(with_reducible first|refine ObT.tt ?_|refine ObT.ff ?_)|((refine ObB.yes ?_ ?_);exact zB)|((refine ObB.no ?_ ?_);exact zC)|((with_reducible refine (?_:ObU _ _));(refine ObU.mk _ zU ?_))|((with_reducible refine (?_:ObR _ _ _));(first|(refine ObR.mk _ zA ?_)|(refine ObR.map zX (fun x hx=>?_))|(refine ObR.mk _ rfl ?_)))|((refine ObC.f 31 ?_);(refine ObC.mk _ (c31) ?_))|((refine ObEq.mk ?_);exact zE))
    ·refine zf ZL ?_
     repeat' ((conv=>whnf);first|(refine SeqP.go ?_)|exact SameP.mk rfl rfl|(with_reducible first|refine ObAnd.mk ?_ ?_|refine ObDx.same ?_)|((refine ObD.mk ?_ ?_);exact zD)|((refine ObN.mk ?_ ?_);exact zN)|(with_reducible first|refine ObT.tt ?_|refine ObT.ff ?_)|((refine ObB.yes ?_ ?_);exact zB)|((refine ObB.no ?_ ?_);exact zC)|((with_reducible refine (?_:ObU _ _));(refine ObU.mk _ zU ?_))|((with_reducible refine (?_:ObR _ _ _));(first|(refine ObR.mk _ zA ?_)|(refine ObR.map zX (fun x hx=>?_))|(refine ObR.mk _ rfl ?_)))|((refine ObC.f 31 ?_);(refine ObC.mk _ (c31) ?_))|((refine ObEq.mk ?_);exact zE))
  ·obtain rfl : f = false := by cases f with | false => rfl | true => exact absurd (hf.1 rfl).2.1 hu
   clear hf
   rcases ho with ho|rfl
   ·obtain ⟨ho1, ho2⟩ := ho
    refine zf ZL ?_
    repeat' ((conv=>whnf);first|(refine SeqP.go ?_)|exact SameP.mk rfl rfl|(with_reducible first|refine ObAnd.mk ?_ ?_|refine ObDx.same ?_)|((refine ObD.mk ?_ ?_);exact zD)|((refine ObN.mk ?_ ?_);exact zN)|(with_reducible first|refine ObT.tt ?_|refine ObT.ff ?_)|((refine ObB.yes ?_ ?_);exact zB)|((refine ObB.no ?_ ?_);exact zC)|((with_reducible refine (?_:ObU _ _));(refine ObU.mk _ zU ?_))|((with_reducible refine (?_:ObR _ _ _));(first|(refine ObR.mk _ zA ?_)|(refine ObR.map zX (fun x hx=>?_))|(refine ObR.mk _ rfl ?_)))|((refine ObC.f 31 ?_);(refine ObC.mk _ (c31) ?_))|((refine ObEq.mk ?_);exact zE))
   ·refine zf ZL ?_
    repeat' ((conv=>whnf);first|(refine SeqP.go ?_)|exact SameP.mk rfl rfl|(with_reducible first|refine ObAnd.mk ?_ ?_|refine ObDx.same ?_)|((refine ObD.mk ?_ ?_);exact zD)|((refine ObN.mk ?_ ?_);exact zN)|(with_reducible first|refine ObT.tt ?_|refine ObT.ff ?_)|((refine ObB.yes ?_ ?_);exact zB)|((refine ObB.no ?_ ?_);exact zC)|((with_reducible refine (?_:ObU _ _));(refine ObU.mk _ zU ?_))|((with_reducible refine (?_:ObR _ _ _));(first|(refine ObR.mk _ zA ?_)|(refine ObR.map zX (fun x hx=>?_))|(refine ObR.mk _ rfl ?_)))|((refine ObC.f 31 ?_);(refine ObC.mk _ (c31) ?_))|((refine ObEq.mk ?_);exact zE))
 ·obtain rfl : f = false := by cases f with | false => rfl | true => cases (hf.1 rfl).1
  clear hf
  rcases ho with ho|rfl
  ·obtain ⟨ho1, ho2⟩ := ho
   refine zf ZL ?_
   repeat' ((conv=>whnf);first|(refine SeqP.go ?_)|exact SameP.mk rfl rfl|(with_reducible first|refine ObAnd.mk ?_ ?_|refine ObDx.same ?_)|((refine ObD.mk ?_ ?_);exact zD)|((refine ObN.mk ?_ ?_);exact zN)|(with_reducible first|refine ObT.tt ?_|refine ObT.ff ?_)|((refine ObB.yes ?_ ?_);exact zB)|((with_reducible refine (?_:ObU _ _));(refine ObU.mk _ zU ?_))|((with_reducible refine (?_:ObR _ _ _));(first|(refine ObR.mk _ zA ?_)|(refine ObR.map zX (fun x hx=>?_))|(refine ObR.mk _ rfl ?_)))|((refine ObC.f 31 ?_);(refine ObC.mk _ (c31) ?_))|((refine ObEq.mk ?_);exact zE))
  ·refine zf ZL ?_
   repeat' ((conv=>whnf);first|(refine SeqP.go ?_)|exact SameP.mk rfl rfl|(with_reducible first|refine ObAnd.mk ?_ ?_|refine ObDx.same ?_)|((refine ObD.mk ?_ ?_);exact zD)|((refine ObN.mk ?_ ?_);exact zN)|(with_reducible first|refine ObT.tt ?_|refine ObT.ff ?_)|((refine ObB.yes ?_ ?_);exact zB)|((refine ObB.no ?_ ?_);exact zC)|((with_reducible refine (?_:ObU _ _));(refine ObU.mk _ zU ?_))|((with_reducible refine (?_:ObR _ _ _));(first|(refine ObR.mk _ zA ?_)|(refine ObR.map zX (fun x hx=>?_))|(refine ObR.mk _ rfl ?_)))|((refine ObC.f 31 ?_);(refine ObC.mk _ (c31) ?_))|((refine ObEq.mk ?_);exact zE))
end
end Go.Proofs.YtgpldekhcojimaaDoor.Sim
