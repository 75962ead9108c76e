/- Texts of this claim, part 7. -/
import Derived.LaidMore
import Derived.Lay
import Derived.Lib.ItoaMem
import Derived.LoopIn
import Derived.LoopNIn
import Derived.OpenShut
import Derived.OrdersIn
import Derived.OwnWalkIn
import Derived.RangeFuncRecord
import Derived.Shelf.Abstract
import Derived.Shelf.RegionOpen
import Derived.Shelf.Strconv.Itoa1
import Derived.Shelf.Strconv.Itoa2
import Derived.Shelf.Strconv.Itoa3
import Derived.Stop.Joined
import Derived.TacticsIn
import Derived.TacticsInMore
import Derived.Test.YtfocijljkkfonaaDoorMHeapSame6
import Derived.Test.YtfocijljkkfonaaDoorProg
import Derived.Test.YtfocijljkkfonaaDoorRows
import Derived.WalkKit
set_option linter.unusedVariables false
set_option linter.unusedSimpArgs false
namespace Go.Proofs.YtfocijljkkfonaaDoor.Sim
open Go.RowKit
set_option maxRecDepth 100000
def hR (i:Nat) (r:Int):Bool:=decide (1<=r) && decide (r<=(i:Int))
noncomputable def okH (i:Nat) (x:Nd):Bool:=decide (WD x=0) && (rfN x).all (hR i)
noncomputable def aH (l:List Nd) (k:Nat):Bool:=(List.range k).all fun i=>match l[i]? with|some x=>okH i x|none=>true
theorem aH_succ {l:List Nd} {k:Nat} (h:k < l.length):aH l (k+1)=(aH l k && okH k l[k]):=by
 simp [aH,List.range_succ,List.getElem?_eq_getElem h]
theorem aH_no {l:List Nd} {k n:Nat} (h:k < l.length) (hn:k < n) (h0:okH k l[k]=false):aH l n=false:=by
 rw [aH,List.all_eq_false]
 exact ⟨k,List.mem_range.2 hn,by simp [List.getElem?_eq_getElem h,h0]⟩
theorem hR_yes {i:Nat} {r:Int} (h1:1<=r) (h2:r<=(i:Int)):hR i r=true:=by simp [hR,h1,h2]
theorem hR_no1 {i:Nat} {r:Int} (h1:r < 1):hR i r=false:=by rw [hR,decide_eq_false (by omega),Bool.false_and]
theorem hR_no2 {i:Nat} {r:Int} (h1:(i:Int) < r):hR i r=false:=by rw [hR,decide_eq_false (p:=r<=(i:Int)) (by omega),Bool.and_false]
section
variable (G:Nat->AV)
set_option maxHeartbeats 4000000 in
theorem may36 (l:List Nd) (hl:l.length<=1000) (hx:∀ x ∈ l,x.Ok) (c:Bool) (hc:c=aH l l.length):PC Tryd.prog G 9 [.sl 9 (l.map nA)] (I (eo c)):=by
 refine zf cop9 ?_
 repeat' ((conv=>whnf);first|(refine SeqP.go ?_)|((with_reducible refine (?_:ObL _ _));(refine ObL.mk _ zM ?_)))
 conv=>whnf
 refine LoopP.go (α:=Nat) (fun i=>i<=l.length/\aH l i=true) (fun i=>l.length - i) (fun i=>[(2,some (I 0)),(0,none),(0,none),(1,none),(2,some (I i)),(0,none),(0,none),(0,none),(0,none),(0,none),(0,none),(0,none),(0,none),(0,none),(0,none),(0,none),(0,none),(0,none),(0,none),(0,none),(0,none),(0,none),(0,none),(0,none),(0,none),(0,none),(0,none),(0,none)]) (fun _=>[]) 0 ⟨Nat.zero_le _,rfl⟩ (Fg.go ?_ rfl) ?_
 ·repeat' ((conv=>whnf);first|((refine ObEqs.mk ?_ ?_);rfl)|((with_reducible refine ObEq1.i ?_ ?_);exact zF)|exact True.intro)
 rintro i ⟨hi,hai⟩
 by_cases hil:i < l.length
 ·have hq := wT hil
  have hxo:=hx _ (List.getElem_mem hil)
  have hs:=aH_succ hil
  have hno:=aH_no hil hil
  have hm:=may29 G l[i] hxo
  have hrf:=refs30 G l[i] hxo
  have hri:=rf_i64 hxo
  have hrl:=rf_len hxo
  rw [hai,Bool.true_and] at hs
  generalize l[i]=x at *
  by_cases hmz:WD x=0
  ·rw [hmz] at hm
   repeat' ((conv=>whnf);first|(refine SeqP.go ?_)|((refine ObD.mk ?_ ?_);exact zD)|((refine ObN.mk ?_ ?_);exact zN)|(with_reducible first|refine ObT.tt ?_|refine ObT.ff ?_)|((refine ObB.yes ?_ ?_);exact zB)|((refine ObX.mk _ rfl ?_ ?_);exact zX)|((with_reducible refine (?_:ObL _ _));(refine ObL.mk _ zM ?_))|((with_reducible refine (?_:ObU _ _));(refine ObU.mk _ zU ?_))|((with_reducible refine (?_:ObR _ _ _));(first|(refine ObR.mk _ zA ?_)|(refine ObR.map zX (fun x hx=>?_))|(refine ObR.mk _ rfl ?_)))|((refine ObC.f 22 ?_);(refine ObC.mk _ (hm) ?_))|((refine ObC.f 23 ?_);(refine ObC.mk _ (hrf) ?_)))
   conv=>whnf
   refine LoopP.go (α:=Nat) (fun k=>k<=(rfN x).length/\((rfN x).take k).all (hR i)=true) (fun k=>(rfN x).length - k) (fun k=>[(2,some (I 0)),(1,none),(1,none),(13,some (I k)),(0,none),(0,none),(0,none),(0,none),(0,none),(0,none),(0,none),(0,none),(0,none),(0,none),(0,none)]) (fun _=>[]) 0 ⟨Nat.zero_le _,rfl⟩ (Fg.vw [] (by repeat' ((conv=>whnf);first|((with_reducible refine ObRn.mk ?_ ?_);(focus (first|rfl|(simp [rnB,rnC,rnL];done))))|((refine ObEqs.mk ?_ ?_);rfl)|exact True.intro)) (by repeat' ((conv=>whnf);first|exact True.intro)) (by simp) (by repeat' ((conv=>whnf);first|exact True.intro))) ?_
   rintro k ⟨hk,hk0⟩
   by_cases hkr:k < (rfN x).length
   ·have hq2 := Xn hkr
    have hr2:=hri _ (List.getElem_mem hkr)
    by_cases hz1:(rfN x)[k] < 1
    ·have h1 := all_no (p := hR i) hkr (hR_no1 hz1)
     obtain rfl:c=false:=by rw [hc,hno (by rw [okH,h1,Bool.and_false])]
     simp only [eo]
     repeat' ((conv=>whnf);first|(refine SeqP.go ?_)|((refine ObN.mk ?_ ?_);exact zN)|(refine ObT.tt ?_)|((refine ObB.yes ?_ ?_);exact zB)|((refine ObX.mk _ rfl ?_ ?_);exact zX)|((with_reducible refine (?_:ObR _ _ _));(first|(refine ObR.mk _ zA ?_)|(refine ObR.map zX (fun x hx=>?_))|(refine ObR.mk _ rfl ?_)))|((with_reducible refine ObEq.i ?_);exact zF))
    by_cases hz:(i:Int) < (rfN x)[k]
    ·have h1 := all_no (p := hR i) hkr (hR_no2 hz)
     obtain rfl:c=false:=by rw [hc,hno (by rw [okH,h1,Bool.and_false])]
     simp only [eo]
     repeat' ((conv=>whnf);first|(refine SeqP.go ?_)|((refine ObN.mk ?_ ?_);exact zN)|(with_reducible first|refine ObT.tt ?_|refine ObT.ff ?_)|((refine ObB.yes ?_ ?_);exact zB)|((refine ObB.no ?_ ?_);exact zC)|((refine ObX.mk _ rfl ?_ ?_);exact zX)|((with_reducible refine (?_:ObR _ _ _));(first|(refine ObR.mk _ zA ?_)|(refine ObR.map zX (fun x hx=>?_))|(refine ObR.mk _ rfl ?_)))|((with_reducible refine ObEq.i ?_);exact zF))
    ·have h1 := all_tk (p := hR i) hkr hk0 (hR_yes (by omega) (by omega))
     repeat' ((conv=>whnf);first|(refine SeqP.go ?_)|((refine ObN.mk ?_ ?_);exact zN)|(with_reducible first|refine ObT.tt ?_|refine ObT.ff ?_)|((refine ObB.yes ?_ ?_);exact zB)|((refine ObB.no ?_ ?_);exact zC)|((with_reducible refine ObI.nl ?_ ?_);omega)|((refine ObX.mk _ rfl ?_ ?_);exact zX)|((with_reducible refine (?_:ObR _ _ _));(first|(refine ObR.mk _ zA ?_)|(refine ObR.map zX (fun x hx=>?_))|(refine ObR.mk _ rfl ?_))))
     conv=>whnf
     refine Again.mk (k+1) ⟨by omega,h1⟩ ?_ (Fg.go ?_ rfl)
     ·omega
     repeat' ((conv=>whnf);first|((refine ObEqs.mk ?_ ?_);rfl)|((with_reducible refine ObEq1.i ?_ ?_);exact zF)|exact True.intro)
   ·obtain rfl : k = (rfN x).length := by omega
    rw [List.take_length] at hk0
    have h2:okH i x=true:=by rw [okH,hk0,hmz];rfl
    repeat' ((conv=>whnf);first|(refine SeqP.go ?_)|((refine ObN.mk ?_ ?_);exact zN)|(refine ObT.ff ?_)|((refine ObB.no ?_ ?_);exact zC)|((with_reducible refine ObI.nl ?_ ?_);omega))
    conv=>whnf
    refine Again.mk (i+1) ⟨by omega,by rw [hs,h2]⟩ ?_ (Fg.go ?_ rfl)
    ·omega
    repeat' ((conv=>whnf);first|((refine ObEqs.mk ?_ ?_);rfl)|((with_reducible refine ObEq1.i ?_ ?_);exact zF)|exact True.intro)
  ·obtain rfl : c = false := by rw [hc, hno (by rw [okH, decide_eq_false hmz, Bool.false_and])]
   simp only [eo]
   repeat' ((conv=>whnf);first|(refine SeqP.go ?_)|((refine ObD.mk ?_ ?_);exact zD)|((refine ObN.mk ?_ ?_);exact zN)|(refine ObT.tt ?_)|((refine ObB.yes ?_ ?_);exact zB)|((refine ObB.no ?_ ?_);exact zC)|((refine ObX.mk _ rfl ?_ ?_);exact zX)|((with_reducible refine (?_:ObU _ _));(refine ObU.mk _ zU ?_))|((with_reducible refine (?_:ObR _ _ _));(first|(refine ObR.mk _ zA ?_)|(refine ObR.map zX (fun x hx=>?_))|(refine ObR.mk _ rfl ?_)))|((refine ObC.f 22 ?_);(refine ObC.mk _ (hm) ?_))|((with_reducible refine ObEq.i ?_);exact zF))
 obtain rfl:i=l.length:=by omega
 obtain rfl:c=true:=by rw [hc,hai]
 simp only [eo]
 repeat' ((conv=>whnf);first|(refine SeqP.go ?_)|((refine ObN.mk ?_ ?_);exact zN)|(refine ObT.ff ?_)|((refine ObB.no ?_ ?_);exact zC)|((with_reducible refine ObEq.i ?_);exact zF))
set_option maxHeartbeats 4000000 in
theorem may38 (l:List Nd) (hl:l.length<=1000) (hx:∀ x ∈ l,x.Ok) (c:Bool) (hc:c=aH l l.length):PC Tryd.prog G 31 [.sl 9 (l.map nA)] (Bo c):=by
 refine zf cop31 ?_
 repeat' ((conv=>whnf);first|(refine SeqP.go ?_))
 conv=>whnf
 refine LoopP.go (α:=Nat) (fun i=>i<=l.length/\aH l i=true) (fun i=>l.length - i) (fun i=>[(2,some (Bo false)),(0,some (I i)),(0,none),(0,none),(0,none),(0,none),(0,none),(0,none),(0,none),(0,none),(0,none),(0,none),(0,none),(0,none),(0,none),(0,none),(0,none),(0,none),(0,none),(0,none),(0,none),(0,none),(0,none),(0,none),(0,none),(0,none),(0,none),(0,none),(0,none),(0,none),(0,none),(0,none),(0,none),(0,none),(0,none),(0,none),(0,none),(0,none),(0,none),(0,none)]) (fun _=>[]) 0 ⟨Nat.zero_le _,rfl⟩ (Fg.go ?_ rfl) ?_
 ·repeat' ((conv=>whnf);first|((refine ObEqs.mk ?_ ?_);rfl)|((with_reducible refine ObEq1.i ?_ ?_);exact zF)|((with_reducible refine ObEq1.mk ?_ ?_);exact zE)|exact True.intro)
 rintro i ⟨hi,hai⟩
 by_cases hil:i < l.length
 ·have hq := wT hil
  have hxo:=hx _ (List.getElem_mem hil)
  have hs:=aH_succ hil
  have hno:=aH_no hil hil
  have hm:=may33 G l[i] hxo
  have hrf:=refs32 G l[i] hxo
  have hri:=rf_i64 hxo
  have hrl:=rf_len hxo
  rw [hai,Bool.true_and] at hs
  generalize l[i]=x at *
  repeat' ((conv=>whnf);first|(refine SeqP.go ?_)|((refine ObD.mk ?_ ?_);exact zD)|((refine ObN.mk ?_ ?_);exact zN)|(refine ObT.tt ?_)|((refine ObB.yes ?_ ?_);exact zB)|((refine ObX.mk _ rfl ?_ ?_);exact zX)|((with_reducible refine (?_:ObL _ _));(refine ObL.mk _ zM ?_))|((with_reducible refine (?_:ObR _ _ _));(first|(refine ObR.mk _ zA ?_)|(refine ObR.map zX (fun x hx=>?_))|(refine ObR.mk _ rfl ?_)))|((refine ObC.f 14 ?_);(refine ObC.mk _ (hrf) ?_)))
  conv=>whnf
  refine LoopP.go (α:=Nat) (fun k=>k<=(rfN x).length/\((rfN x).take k).all (hR i)=true) (fun k=>(rfN x).length - k) (fun k=>[(2,some (Bo false)),(2,some (I k)),(11,none),(0,none),(0,none),(0,none),(0,none),(0,none),(0,none),(0,none),(0,none),(0,none),(0,none),(0,none),(0,none),(0,none),(0,none),(0,none),(0,none),(0,none),(0,none)]) (fun _=>[]) 0 ⟨Nat.zero_le _,rfl⟩ (Fg.go ?_ rfl) ?_
  ·repeat' ((conv=>whnf);first|((refine ObEqs.mk ?_ ?_);rfl)|((with_reducible refine ObEq1.i ?_ ?_);exact zF)|((with_reducible refine ObEq1.mk ?_ ?_);exact zE)|exact True.intro)
  rintro k ⟨hk,hk0⟩
  by_cases hkr:k < (rfN x).length
  ·have hq2 := Xn hkr
   by_cases hz1:(rfN x)[k] < 1
   ·have h1 := all_no (p := hR i) hkr (hR_no1 hz1)
    obtain rfl:c=false:=by rw [hc,hno (by rw [okH,h1,Bool.and_false])]
    repeat' ((conv=>whnf);first|(refine SeqP.go ?_)|((refine ObN.mk ?_ ?_);exact zN)|(refine ObT.tt ?_)|((refine ObB.yes ?_ ?_);exact zB)|((refine ObX.mk _ rfl ?_ ?_);exact zX)|((with_reducible refine (?_:ObL _ _));(refine ObL.mk _ zM ?_))|((with_reducible refine (?_:ObR _ _ _));(first|(refine ObR.mk _ zA ?_)|(refine ObR.map zX (fun x hx=>?_))|(refine ObR.mk _ rfl ?_)))|((refine ObEq.mk ?_);exact zE))
   by_cases hz:(i:Int) < (rfN x)[k]
   ·have h1 := all_no (p := hR i) hkr (hR_no2 hz)
    obtain rfl:c=false:=by rw [hc,hno (by rw [okH,h1,Bool.and_false])]
    repeat' ((conv=>whnf);first|(refine SeqP.go ?_)|((refine ObN.mk ?_ ?_);exact zN)|(with_reducible first|refine ObT.tt ?_|refine ObT.ff ?_)|((refine ObB.yes ?_ ?_);exact zB)|((refine ObB.no ?_ ?_);exact zC)|((refine ObX.mk _ rfl ?_ ?_);exact zX)|((with_reducible refine (?_:ObL _ _));(refine ObL.mk _ zM ?_))|((with_reducible refine (?_:ObR _ _ _));(first|(refine ObR.mk _ zA ?_)|(refine ObR.map zX (fun x hx=>?_))|(refine ObR.mk _ rfl ?_)))|((refine ObEq.mk ?_);exact zE))
   ·have h1 := all_tk (p := hR i) hkr hk0 (hR_yes (by omega) (by omega))
    repeat' ((conv=>whnf);first|(refine SeqP.go ?_)|((refine ObN.mk ?_ ?_);exact zN)|(with_reducible first|refine ObT.tt ?_|refine ObT.ff ?_)|((refine ObB.yes ?_ ?_);exact zB)|((refine ObB.no ?_ ?_);exact zC)|((with_reducible refine ObI.nl ?_ ?_);omega)|((refine ObX.mk _ rfl ?_ ?_);exact zX)|((with_reducible refine (?_:ObL _ _));(refine ObL.mk _ zM ?_))|((with_reducible refine (?_:ObR _ _ _));(first|(refine ObR.mk _ zA ?_)|(refine ObR.map zX (fun x hx=>?_))|(refine ObR.mk _ rfl ?_))))
    conv=>whnf
    refine Again.mk (k+1) ⟨by omega,h1⟩ ?_ (Fg.go ?_ rfl)
    ·omega
    repeat' ((conv=>whnf);first|((refine ObEqs.mk ?_ ?_);rfl)|((with_reducible refine ObEq1.i ?_ ?_);exact zF)|((with_reducible refine ObEq1.mk ?_ ?_);exact zE)|exact True.intro)
  ·obtain rfl : k = (rfN x).length := by omega
   rw [List.take_length] at hk0
   by_cases hmz:WD x=0
   ·rw [hmz] at hm
    have h2:okH i x=true:=by rw [okH,hk0,hmz];rfl
    repeat' ((conv=>whnf);first|(refine SeqP.go ?_)|((refine ObD.mk ?_ ?_);exact zD)|((refine ObN.mk ?_ ?_);exact zN)|(refine ObT.ff ?_)|((refine ObB.yes ?_ ?_);exact zB)|((refine ObB.no ?_ ?_);exact zC)|((with_reducible refine ObI.nl ?_ ?_);omega)|((refine ObX.mk _ rfl ?_ ?_);exact zX)|((with_reducible refine (?_:ObL _ _));(refine ObL.mk _ zM ?_))|((with_reducible refine (?_:ObR _ _ _));(first|(refine ObR.mk _ zA ?_)|(refine ObR.map zX (fun x hx=>?_))|(refine ObR.mk _ rfl ?_)))|((refine ObC.f 46 ?_);(refine ObC.mk _ (hm) ?_)))
    conv=>whnf
    refine Again.mk (i+1) ⟨by omega,by rw [hs,h2]⟩ ?_ (Fg.go ?_ rfl)
    ·omega
    repeat' ((conv=>whnf);first|((refine ObEqs.mk ?_ ?_);rfl)|((with_reducible refine ObEq1.i ?_ ?_);exact zF)|((with_reducible refine ObEq1.mk ?_ ?_);exact zE)|exact True.intro)
   ·obtain rfl : c = false := by rw [hc, hno (by rw [okH, decide_eq_false hmz, Bool.false_and])]
    repeat' ((conv=>whnf);first|(refine SeqP.go ?_)|((refine ObD.mk ?_ ?_);exact zD)|((refine ObN.mk ?_ ?_);exact zN)|(with_reducible first|refine ObT.tt ?_|refine ObT.ff ?_)|((refine ObB.no ?_ ?_);exact zC)|((refine ObX.mk _ rfl ?_ ?_);exact zX)|((with_reducible refine (?_:ObL _ _));(refine ObL.mk _ zM ?_))|((with_reducible refine (?_:ObR _ _ _));(first|(refine ObR.mk _ zA ?_)|(refine ObR.map zX (fun x hx=>?_))|(refine ObR.mk _ rfl ?_)))|((refine ObC.f 46 ?_);(refine ObC.mk _ (hm) ?_))|((refine ObEq.mk ?_);exact zE))
 obtain rfl:i=l.length:=by omega
 obtain rfl:c=true:=by rw [hc,hai]
 repeat' ((conv=>whnf);first|(refine SeqP.go ?_)|((refine ObN.mk ?_ ?_);exact zN)|(refine ObT.ff ?_)|((refine ObB.no ?_ ?_);exact zC)|((with_reducible refine (?_:ObL _ _));(refine ObL.mk _ zM ?_))|((refine ObEq.mk ?_);exact zE))
end
section
variable (G:Nat->AV)
end
def ow (x:Nd):List Pr:=if x.kn=1\/x.kn=4\/x.kn=6 then [(x.ke,x.va)] else if x.kn=3 then x.ls else []
section
variable (G:Nat->AV)
noncomputable def okR (h:List Nd) (r:Int):Bool:=decide (0<=r) && decide (r<=(h.length:Int)) && aH h h.length
set_option maxHeartbeats 1000000 in
theorem may21 (h:List Nd) (hl:h.length<=1000) (hx:∀ x ∈ h,x.Ok) (r:Int) (c:Bool) (hc:c=okR h r):PC Tryd.prog G 15 [.sl 9 (h.map nA),I r] (I (eo c)):=by
 have hm:=may36 G h hl hx _ rfl
 unfold okR at hc
 by_cases h1:r < 0
 ·obtain rfl : c = false := by rw [hc, decide_eq_false (by omega)]; rfl
  simp only [eo]
  refine zf cop15 ?_
  repeat' ((conv=>whnf);first|(refine SeqP.go ?_)|((refine ObN.mk ?_ ?_);exact zN)|(refine ObT.tt ?_)|((refine ObB.yes ?_ ?_);exact zB)|((with_reducible refine ObEq.i ?_);exact zF))
 by_cases h2:(h.length:Int) < r
 ·obtain rfl : c = false := by rw [hc, decide_eq_false (p := r <= (h.length : Int)) (by omega), Bool.and_false]; rfl
  simp only [eo]
  refine zf cop15 ?_
  repeat' ((conv=>whnf);first|(refine SeqP.go ?_)|((refine ObN.mk ?_ ?_);exact zN)|(with_reducible first|refine ObT.tt ?_|refine ObT.ff ?_)|((refine ObB.yes ?_ ?_);exact zB)|((refine ObB.no ?_ ?_);exact zC)|((with_reducible refine (?_:ObL _ _));(refine ObL.mk _ zM ?_))|((with_reducible refine ObEq.i ?_);exact zF))
 ·have e : c = aH h h.length := by rw [hc, decide_eq_true (p := 0 <= r) (by omega), decide_eq_true (by omega)]; rfl
  rw [e]
  refine zf cop15 ?_
  repeat' ((conv=>whnf);first|(refine SeqP.go ?_)|((refine ObN.mk ?_ ?_);exact zN)|(refine ObT.ff ?_)|((refine ObB.no ?_ ?_);exact zC)|((with_reducible refine (?_:ObL _ _));(refine ObL.mk _ zM ?_))|((refine ObC.f 9 ?_);(refine ObC.mk _ (hm) ?_))|((with_reducible refine ObEq.i ?_);exact zF))
set_option maxHeartbeats 1000000 in
theorem fits9 (h:List Nd) (hl:h.length<=1000) (hx:∀ x ∈ h,x.Ok) (r:Int) (c:Bool) (hc:c=okR h r):PC Tryd.prog G 17 [.sl 9 (h.map nA),I r] (Bo c):=by
 have hm:=may38 G h hl hx _ rfl
 unfold okR at hc
 by_cases h1:r < 0
 ·obtain rfl : c = false := by rw [hc, decide_eq_false (by omega)]; rfl
  refine zf cop17 ?_
  repeat' ((conv=>whnf);first|(refine SeqP.go ?_)|((refine ObN.mk ?_ ?_);exact zN)|(refine ObT.ff ?_)|((refine ObB.no ?_ ?_);exact zC)|((refine ObEq.mk ?_);exact zE))
 by_cases h2:(h.length:Int) < r
 ·obtain rfl : c = false := by rw [hc, decide_eq_false (p := r <= (h.length : Int)) (by omega), Bool.and_false]; rfl
  refine zf cop17 ?_
  repeat' ((conv=>whnf);first|(refine SeqP.go ?_)|((refine ObN.mk ?_ ?_);exact zN)|(with_reducible first|refine ObT.tt ?_|refine ObT.ff ?_)|((refine ObB.yes ?_ ?_);exact zB)|((refine ObB.no ?_ ?_);exact zC)|((with_reducible refine (?_:ObL _ _));(refine ObL.mk _ zM ?_))|((refine ObEq.mk ?_);exact zE))
 ·have e : c = aH h h.length := by rw [hc, decide_eq_true (p := 0 <= r) (by omega), decide_eq_true (by omega)]; rfl
  rw [e]
  refine zf cop17 ?_
  repeat' ((conv=>whnf);first|(refine SeqP.go ?_)|((refine ObN.mk ?_ ?_);exact zN)|(refine ObT.tt ?_)|((refine ObB.yes ?_ ?_);exact zB)|((with_reducible refine (?_:ObL _ _));(refine ObL.mk _ zM ?_))|((refine ObC.f 31 ?_);(refine ObC.mk _ (hm) ?_))|((refine ObEq.mk ?_);exact zE))
end
def bl (h:List Nd):Nat->Int->List Pr
 | 0,_=>[]
 | n+1,r=>if r<=0 then [] else match h[(r - 1).toNat]? with
  | none=>[]
  | some x=>if x.kn=4 then bl h n (x.kk.getD 0 0)++ow x++bl h n (x.kk.getD 1 0) else ow x++(rfN x).flatMap (bl h n)
def ct (h:List Nd):Nat->Int->Nat
 | 0,_=>1
 | n+1,r=>if r<=0 then 1 else match h[(r - 1).toNat]? with
  | none=>1
  | some x=>if x.kn=4 then 2+ct h n (x.kk.getD 0 0)+ct h n (x.kk.getD 1 0) else 2+((rfN x).map (ct h n)).sum
theorem okH_of {h:List Nd} (hh:aH h h.length=true) {i:Nat} (hi:i < h.length):okH i h[i]=true:=by
 rw [aH,List.all_eq_true] at hh
 have:=hh i (List.mem_range.2 hi)
 simpa [List.getElem?_eq_getElem hi] using this
theorem okH_ref {i:Nat} {x:Nd} (h:okH i x=true) {r:Int} (hr:r ∈ rfN x):1<=r/\r<=(i:Int):=by
 simp only [okH,Bool.and_eq_true,List.all_eq_true] at h
 have:=h.2 r hr
 simpa [hR] using this
theorem okH_may {i:Nat} {x:Nd} (h:okH i x=true):WD x=0:=by
 simp only [okH,Bool.and_eq_true,decide_eq_true_eq] at h
 exact h.1
theorem may_form {x:Nd} (h:WD x=0):Yb x.kn x.ke x.va x.mp x.kk x.mn x.ls x.sz x.bi:=by
 unfold WD mayE at h
 split at h
 ·omega
 ·split at h
  ·omega
  ·split at h
   ·omega
   ·split at h
    ·rename_i h1;simpa using h1
    ·omega
open Go.Proofs.YtfocijljkkfonaaDoor.Dz
def dX (x:Nd) (ids:List Nat):List UInt8:=dsc x.kn.toNat (bL x.ke) (bL x.va) x.mp x.sz.toNat (x.ls.map pl) (x.kk.map (idF ids)) (idF ids x.mn)
theorem bL_inj {s t:ByteArray} (h:bL s=bL t):s=t:=by
 cases s;cases t
 simp only [bL] at h
 congr 1
 exact Array.toList_inj.1 h
theorem pl_inj {l m:List Pr} (h:l.map pl=m.map pl):l=m :=
 List.map_inj_right (f:=pl) (fun p q e=>by
  have:=Prod.mk.inj e
  exact Prod.ext (bL_inj this.1) (bL_inj this.2)) |>.1 h
structure OkN (i:Nat) (x:Nd):Prop where
 kn:0<=x.kn/\x.kn<=6
 sz:0<=x.sz
 kk:∀ r ∈ x.kk,0<=r/\r<=(i:Int)
 mn:0<=x.mn/\x.mn<=(i:Int)
theorem okN_of {i:Nat} {x:Nd} (h:okH i x=true):OkN i x:=by
 have hm:=okH_may h
 have hf:=may_form hm
 have hr:∀ r ∈ x.kk++[x.mn],0<=r/\r<=(i:Int):=fun r hr=>by
  by_cases h0:r=0
  ·subst h0;omega
  ·have := okH_ref h (r := r) (by simp only [rfN,List.mem_filter]; exact ⟨hr, by simpa using h0⟩)
   omega
 refine ⟨?_,?_,fun r h=>hr r (by simp [h]),hr _ (by simp)⟩
 ·obtain ⟨_, hf⟩ := hf
  rcases hf with ⟨h1,_⟩|⟨h1,_⟩|⟨h1,_⟩|⟨h1,_⟩|⟨h1,_⟩<;>omega
 ·obtain ⟨_, hf⟩ := hf
  rcases hf with ⟨_,h1,_⟩|⟨_,_,_,h1,_⟩|⟨_,_,_,h1,_⟩|⟨_,_,_,h1,_⟩|⟨_,_,h1,_⟩<;>omega
abbrev OkL (h:List Nd):Prop:=∀ i (hi:i < h.length),OkN i h[i]
theorem Wz {h:List Nd} (hh:aH h h.length=true):OkL h:=fun i hi=>okN_of (okH_of hh hi)
theorem XS {ids:List Nat} {i v:Nat} {r:Int} (h0:0<=r) (h:r < (i:Int)):idF (ids.set i v) r=idF ids r:=by
 simp only [idF,List.getD_eq_getElem?_getD]
 rw [List.getElem?_set_ne (by omega)]
theorem dX_set {ids:List Nat} {i v:Nat} {x:Nd} (h:OkN i x):dX x (ids.set (i+1) v)=dX x ids:=by
 unfold dX
 rw [XS h.mn.1 (by have:=h.mn.2;omega)]
 congr 1
 exact List.map_congr_left fun r hr=>XS (h.kk r hr).1 (by have:=(h.kk r hr).2;omega)
theorem OkN.mono {i j:Nat} {x:Nd} (h:OkN i x) (hij:i<=j):OkN j x:=⟨h.kn,h.sz,fun r hr=>by have:=h.kk r hr;omega,by have:=h.mn;omega⟩
abbrev Kn:=List (List UInt8)
def nxt (s:Kn × List Nat) (i:Nat) (x:Nd):Kn × List Nat:=(add s.1 (dX x s.2),s.2.set (i+1) (idx (add s.1 (dX x s.2)) (dX x s.2)))
def shS (h:List Nd) (K:Kn):Nat->Kn × List Nat
 | 0=>(K,List.replicate (h.length+1) 0)
 | i+1=>match h[i]? with|some x=>nxt (shS h K i) i x|none=>shS h K i
theorem Y4 {h:List Nd} {K:Kn}:∀ {i:Nat},(shS h K i).2.length=h.length+1
 | 0=>by simp [shS]
 | i+1=>by
  simp only [shS]
  cases h[i]? with
  | none=>exact Y4
  | some x=>simp only [nxt,List.length_set];exact Y4
theorem shS_succ {h:List Nd} {K:Kn} {i:Nat} (hi:i < h.length):shS h K (i+1)=nxt (shS h K i) i h[i]:=by
 simp only [shS,List.getElem?_eq_getElem hi]
structure ShI (h:List Nd) (K:Kn) (i:Nat) (s:Kn × List Nat):Prop where
 z:idF s.2 0=0
 t:∀ j (hj:j < h.length),j < i->dX h[j] s.2 ∈ s.1/\idF s.2 ((j:Int)+1)=idx s.1 (dX h[j] s.2)
 o:∀ x ∈ K,x ∈ s.1/\idx s.1 x=idx K x
 b:s.1.length<=K.length+i
 n:∀ v ∈ s.2,v<=s.1.length
theorem shI {h:List Nd} (hh:OkL h) {K:Kn}:∀ {i:Nat},i<=h.length->ShI h K i (shS h K i)
 | 0,_=>⟨by simp [shS,idF],fun j hj h0=>by omega,fun x hx=>⟨hx,rfl⟩,by simp [shS],fun v hv=>by simp only [shS,List.mem_replicate] at hv;omega⟩
 | i+1,hi=>by
  have hi':i < h.length:=hi
  have ih:=shI hh (K:=K) (i:=i) (by omega)
  have hl:=Y4 (h:=h) (K:=K) (i:=i)
  rw [shS_succ hi']
  generalize shS h K i=s at *
  obtain ⟨K1,ids⟩:=s
  obtain ⟨z,t,o,b,n⟩:=ih
  simp only at z t o b n hl
  have hx:=hh i hi'
  refine ⟨?_,fun j hj hji=>?_,fun x hx=>?_,?_,fun v hv=>?_⟩
  ·simp only [nxt]
   rw [XS (Int.le_refl 0) (by omega)]
   exact z
  ·simp only [nxt]
   have hxj:=(hh j hj).mono (show j<=i by omega)
   rw [dX_set hxj]
   by_cases e:j=i
   ·subst e
    refine ⟨add_mem,?_⟩
    simp only [idF,List.getD_eq_getElem?_getD]
    rw [show ((j:Int)+1).toNat=j+1 by omega,List.getElem?_set_self (by omega)]
    rfl
   ·obtain ⟨q1, q2⟩ := t j hj (by omega)
    refine ⟨add_sub _ q1,?_⟩
    rw [idx_add q1,XS (by omega) (by omega)]
    exact q2
  ·obtain ⟨q1, q2⟩ := o x hx
   exact ⟨add_sub _ q1,by rw [show idx (nxt (K1,ids) i h[i]).1 x=idx K1 x from idx_add q1];exact q2⟩
  ·simp only [nxt]
   have:=add_len (K:=K1) (t:=dX h[i] ids)
   omega
  ·simp only [nxt] at hv ⊢
   rcases List.mem_or_eq_of_mem_set hv with hv|hv
   ·have := n v hv
    have:K1.length<=(add K1 (dX h[i] ids)).length:=by unfold add;split<;>simp
    omega
   ·rw [hv];exact idx_le add_mem
def flq (a b:Nd):Bool:=decide (a.kn=b.kn) && decide (a.ke=b.ke) && decide (a.va=b.va) && decide (a.mp=b.mp) && decide (a.ls=b.ls) && decide (a.sz=b.sz)
def shB (h g:List Nd):Nat->Int->Int->Bool
 | 0,r,s=>decide (r=0) && decide (s=0)
 | n+1,r,s=>if r=0\/s=0 then decide (r=0) && decide (s=0) else
  match h[(r - 1).toNat]?,g[(s - 1).toNat]? with
  | some a,some b=>decide (a.kk.length=b.kk.length) && (List.range a.kk.length).all (fun k=>shB h g n (a.kk.getD k 0) (b.kk.getD k 0)) && shB h g n a.mn b.mn && flq a b
  | _,_=>false
theorem dX_eq {a b:Nd} {i j:Nat} {x y:List Nat} (ha:OkN i a) (hb:OkN j b):dX a x=dX b y↔flq a b=true/\a.kk.map (idF x)=b.kk.map (idF y)/\idF x a.mn=idF y b.mn:=by
 constructor
 ·intro h
  obtain ⟨h1,h2,h3,h4,h5,h6,h7,h8⟩:=dsc_inj h
  have e1:a.kn=b.kn:=by have:=ha.kn.1;have:=hb.kn.1;omega
  have e5:a.sz=b.sz:=by have:=ha.sz;have:=hb.sz;omega
  exact ⟨by simp [flq,e1,bL_inj h2,bL_inj h3,h4,pl_inj h6,e5],h7,h8⟩
 ·rintro ⟨h1, h7, h8⟩
  simp only [flq,Bool.and_eq_true,decide_eq_true_eq] at h1
  obtain ⟨⟨⟨⟨⟨e1,e2⟩,e3⟩,e4⟩,e6⟩,e5⟩:=h1
  unfold dX
  rw [e1,e2,e3,e4,e5,e6,h7,h8]
theorem shB_iff {h g : List Nd} (hh : OkL h) (hg : OkL g) {x y : List Nat} {K : Kn} {R T : Nat} (hR : R <= h.length) (hT : T <= g.length) (x0 : idF x 0 = 0) (y0 : idF y 0 = 0)
  (hx:∀ j (hj:j < h.length),j < R->dX h[j] x ∈ K/\idF x ((j:Int)+1)=idx K (dX h[j] x)) (hy:∀ j (hj:j < g.length),j < T->dX g[j] y ∈ K/\idF y ((j:Int)+1)=idx K (dX g[j] y)) :
  ∀ (n:Nat) (r s:Int),0<=r->r<=(n:Int)->r<=(R:Int)->0<=s->s<=(T:Int)->(shB h g n r s=true↔idF x r=idF y s):=by
 have px:∀ r:Int,0 < r->r<=(R:Int)->0 < idF x r:=fun r h0 h1=>by
  obtain ⟨j,rfl⟩:∃ j:Nat,r=(j:Int)+1:=⟨(r - 1).toNat,by omega⟩
  rw [(hx j (by omega) (by omega)).2];unfold idx;omega
 have py:∀ r:Int,0 < r->r<=(T:Int)->0 < idF y r:=fun r h0 h1=>by
  obtain ⟨j,rfl⟩:∃ j:Nat,r=(j:Int)+1:=⟨(r - 1).toNat,by omega⟩
  rw [(hy j (by omega) (by omega)).2];unfold idx;omega
 have z:∀ r s:Int,0<=r->r<=(R:Int)->0<=s->s<=(T:Int)->(r=0\/s=0)->((decide (r=0) && decide (s=0))=true↔idF x r=idF y s):=fun r s r0 r1 s0 s1 h0=>by
  simp only [Bool.and_eq_true,decide_eq_true_eq]
  constructor
  ·rintro ⟨rfl,rfl⟩;rw [x0,y0]
  ·intro e
   rcases h0 with rfl|rfl
   ·refine ⟨rfl, ?_⟩
    rcases Int.lt_or_eq_of_le s0 with h|h
    ·have:=py s h s1;omega
    ·exact h.symm
   ·refine ⟨?_, rfl⟩
    rcases Int.lt_or_eq_of_le r0 with h|h
    ·have:=px r h r1;omega
    ·exact h.symm
 intro n
 induction n with
 | zero=>intro r s r0 rn r1 s0 s1;exact z r s r0 r1 s0 s1 (.inl (by omega))
 | succ n ih =>
  intro r s r0 rn r1 s0 s1
  by_cases h0:r=0\/s=0
  ·simp only [shB,if_pos h0];exact z r s r0 r1 s0 s1 h0
  ·obtain ⟨i, rfl⟩ : ∃ j : Nat, r = (j : Int) + 1 := ⟨(r - 1).toNat, by omega⟩
   obtain ⟨j,rfl⟩:∃ j:Nat,s=(j:Int)+1:=⟨(s - 1).toNat,by omega⟩
   have hi:i < h.length:=by omega
   have hj:j < g.length:=by omega
   have ei:((i:Int)+1 - 1).toNat=i:=by omega
   have ej:((j:Int)+1 - 1).toNat=j:=by omega
   simp only [shB,if_neg h0,ei,ej,List.getElem?_eq_getElem hi,List.getElem?_eq_getElem hj]
   obtain ⟨m1,e1⟩:=hx i hi (by omega)
   obtain ⟨m2,e2⟩:=hy j hj (by omega)
   have ka:=hh i hi
   have kb:=hg j hj
   rw [e1,e2]
   generalize h[i]=a at *
   generalize g[j]=b at *
   have e3:idx K (dX a x)=idx K (dX b y)↔dX a x=dX b y:=⟨idx_inj m1 m2,fun e=>by rw [e]⟩
   rw [e3,dX_eq ka kb]
   have hm:=ih a.mn b.mn ka.mn.1 (by have:=ka.mn.2;omega) (by have:=ka.mn.2;omega) kb.mn.1 (by have:=kb.mn.2;omega)
   have hk:∀ k (h1:k < a.kk.length) (h2:k < b.kk.length),shB h g n a.kk[k] b.kk[k]=true↔idF x a.kk[k]=idF y b.kk[k]:=fun k h1 h2=>by
    have q1:=ka.kk _ (List.getElem_mem h1)
    have q2:=kb.kk _ (List.getElem_mem h2)
    exact ih _ _ q1.1 (by omega) (by omega) q2.1 (by omega)
   simp only [Bool.and_eq_true,decide_eq_true_eq,hm]
   have hK:(a.kk.length=b.kk.length/\((List.range a.kk.length).all fun k=>shB h g n (a.kk.getD k 0) (b.kk.getD k 0))=true)↔a.kk.map (idF x)=b.kk.map (idF y):=by
    constructor
    ·rintro ⟨l, q⟩
     apply List.ext_getElem (by simpa using l)
     intro k h1 h2
     simp only [List.length_map] at h1 h2
     have:=List.all_eq_true.1 q k (List.mem_range.2 h1)
     simp only [List.getD_eq_getElem?_getD,List.getElem?_eq_getElem h1,List.getElem?_eq_getElem h2,Option.getD_some] at this
     simpa using (hk k h1 h2).1 this
    ·intro q
     have l:a.kk.length=b.kk.length:=by simpa using congrArg List.length q
     refine ⟨l,List.all_eq_true.2 fun k hk'=>?_⟩
     have h1:=List.mem_range.1 hk'
     have h2:k < b.kk.length:=by omega
     simp only [List.getD_eq_getElem?_getD,List.getElem?_eq_getElem h1,List.getElem?_eq_getElem h2,Option.getD_some]
     have:=congrArg (·[k]?) q
     simp only [List.getElem?_map,List.getElem?_eq_getElem h1,List.getElem?_eq_getElem h2,Option.map_some,Option.some.injEq] at this
     exact (hk k h1 h2).2 this
   rw [<- hK]
   constructor
   ·rintro ⟨⟨⟨q1,q2⟩,q3⟩,q4⟩;exact ⟨q4,⟨q1,q2⟩,q3⟩
   ·rintro ⟨q4,⟨q1,q2⟩,q3⟩;exact ⟨⟨⟨q1,q2⟩,q3⟩,q4⟩
end Go.Proofs.YtfocijljkkfonaaDoor.Sim
namespace Go.Proofs.YtfocijljkkfonaaDoor.Sim
open Go.RowKit
set_option maxRecDepth 100000
def fA (kn:Int) (ke va:ByteArray) (mp:Nat) (ls:List Pr) (sz:Int):AV:=.agg [I kn,S ke,S va,.v (.int .u32 (mp:Int)),.sl 1 [],I 0,.sl 2 (ls.map pA),I sz,I 0]
section
variable (G:Nat->AV)
set_option maxHeartbeats 4000000 in
theorem samer1 (l:List Int) (hl:l.length<=1000000):PC Tryd.prog G 47 [.sl 1 (l.map iA),.sl 1 (l.map iA)] (Bo true):=by
 refine zf cop47 ?_
 repeat' ((conv=>whnf);first|(refine SeqP.go ?_)|((refine ObN.mk ?_ ?_);exact zN)|(refine ObT.ff ?_)|((refine ObB.yes ?_ ?_);exact zB)|((with_reducible refine (?_:ObL _ _));(refine ObL.mk _ zM ?_)))
 conv=>whnf
 refine LoopP.go (α:=Nat) (fun i=>i<=l.length) (fun i=>l.length - i) (fun i=>[(4,none),(0,some (I i)),(5,none),(0,none),(0,none),(0,none),(0,none),(0,none),(0,none),(0,none),(0,none),(0,none),(0,none),(0,none),(0,none),(0,none),(0,none)]) (fun _=>[]) 0 (Nat.zero_le _) (Fg.go ?_ rfl) ?_
 ·repeat' ((conv=>whnf);first|((refine ObEqs.mk ?_ ?_);rfl)|((with_reducible refine ObEq1.i ?_ ?_);exact zF)|exact True.intro)
 rintro i hi
 by_cases hil:i < l.length
 ·have hq := yd hil
  generalize l[i]=x at *
  repeat' ((conv=>whnf);first|(refine SeqP.go ?_)|((refine ObD.mk ?_ ?_);exact zD)|((refine ObN.mk ?_ ?_);exact zN)|(with_reducible first|refine ObT.tt ?_|refine ObT.ff ?_)|((refine ObB.yes ?_ ?_);exact zB)|((with_reducible refine ObI.nl ?_ ?_);omega)|((refine ObX.mk _ rfl ?_ ?_);exact zX)|((with_reducible refine (?_:ObL _ _));(refine ObL.mk _ zM ?_))|((with_reducible refine (?_:ObR _ _ _));(first|(refine ObR.mk _ (by assumption) ?_)|(refine ObR.mk _ (by exact hq) ?_)|(refine ObR.mk _ yy ?_)|(refine ObR.map zX (fun x hx=>?_))|(refine ObR.mk _ rfl ?_))))
  conv=>whnf
  refine Again.mk (i+1) (by omega) (by omega) (Fg.go ?_ rfl)
  repeat' ((conv=>whnf);first|((refine ObEqs.mk ?_ ?_);rfl)|((with_reducible refine ObEq1.i ?_ ?_);exact zF)|exact True.intro)
 ·obtain rfl : i = l.length := by omega
  repeat' ((conv=>whnf);first|(refine SeqP.go ?_)|((refine ObN.mk ?_ ?_);exact zN)|(refine ObT.ff ?_)|((refine ObB.no ?_ ?_);exact zC)|((with_reducible refine (?_:ObL _ _));(refine ObL.mk _ zM ?_))|((refine ObEq.mk ?_);exact zE))
theorem samer0:PC Tryd.prog G 47 [.sl 1 [],.sl 1 []] (Bo true):=samer1 G [] (by simp)
set_option maxHeartbeats 4000000 in
theorem same32 (kn kn' : Int) (ke ke' va va' : ByteArray) (mp mp' : Nat) (ls ls' : List Pr) (sz sz' : Int) (hl : ls.length <= 1000) (hl' : ls'.length <= 1000)
  (r:Bool) (hr:r=(decide (kn=kn') && decide (ke=ke') && decide (va=va') && decide (mp=mp') && decide (ls=ls') && decide (sz=sz'))):PC Tryd.prog G 32 [fA kn ke va mp ls sz,fA kn' ke' va' mp' ls' sz'] (Bo r):=by
 unfold fA
 have c47:=samer0 G
 by_cases h0:kn=kn'
 case neg =>
  obtain rfl:r=false:=by rw [hr];simp [h0]
  refine zf wY ?_
  repeat' ((conv=>whnf);first|(refine SeqP.go ?_)|((refine ObD.mk ?_ ?_);exact zD)|((refine ObN.mk ?_ ?_);exact zN)|(refine ObT.tt ?_)|((refine ObB.no ?_ ?_);exact zC)|((with_reducible refine (?_:ObR _ _ _));(first|(refine ObR.mk _ zA ?_)|(refine ObR.map zX (fun x hx=>?_))|(refine ObR.mk _ rfl ?_)))|((refine ObEq.mk ?_);exact zE))
  all_goals (conv=>whnf);trace_state
 subst h0
 by_cases h1:ke=ke'
 case neg =>
  obtain rfl:r=false:=by rw [hr];simp [h1]
  refine zf wY ?_
  repeat' ((conv=>whnf);first|(refine SeqP.go ?_)|((refine ObD.mk ?_ ?_);exact zD)|((refine ObN.mk ?_ ?_);exact zN)|(with_reducible first|refine ObT.tt ?_|refine ObT.ff ?_)|((refine ObB.yes ?_ ?_);exact zB)|((refine ObB.no ?_ ?_);exact zC)|((with_reducible refine (?_:ObR _ _ _));(first|(refine ObR.mk _ zA ?_)|(refine ObR.map zX (fun x hx=>?_))|(refine ObR.mk _ rfl ?_)))|((refine ObEq.mk ?_);exact zE))
  all_goals (conv=>whnf);trace_state
 subst h1
 by_cases h2:va=va'
 case neg =>
  obtain rfl:r=false:=by rw [hr];simp [h2]
  refine zf wY ?_
  repeat' ((conv=>whnf);first|(refine SeqP.go ?_)|((refine ObD.mk ?_ ?_);exact zD)|((refine ObN.mk ?_ ?_);exact zN)|(with_reducible first|refine ObT.tt ?_|refine ObT.ff ?_)|((refine ObB.yes ?_ ?_);exact zB)|((refine ObB.no ?_ ?_);exact zC)|((with_reducible refine (?_:ObR _ _ _));(first|(refine ObR.mk _ zA ?_)|(refine ObR.map zX (fun x hx=>?_))|(refine ObR.mk _ rfl ?_)))|((refine ObEq.mk ?_);exact zE))
  all_goals (conv=>whnf);trace_state
 subst h2
 by_cases h3:mp=mp'
 case neg =>
  obtain rfl:r=false:=by rw [hr];simp [h3]
  have h3':¬ (mp:Int)=(mp':Int):=by omega
  refine zf wY ?_
  repeat' ((conv=>whnf);first|(refine SeqP.go ?_)|((refine ObD.mk ?_ ?_);exact zD)|((refine ObN.mk ?_ ?_);exact zN)|(with_reducible first|refine ObT.tt ?_|refine ObT.ff ?_)|((refine ObB.yes ?_ ?_);exact zB)|((refine ObB.no ?_ ?_);exact zC)|((with_reducible refine (?_:ObR _ _ _));(first|(refine ObR.mk _ zA ?_)|(refine ObR.map zX (fun x hx=>?_))|(refine ObR.mk _ rfl ?_)))|((refine ObEq.mk ?_);exact zE))
  all_goals (conv=>whnf);trace_state
 subst h3
 by_cases h4:sz=sz'
 case neg =>
  obtain rfl:r=false:=by rw [hr];simp [h4]
  refine zf wY ?_
  repeat' ((conv=>whnf);first|(refine SeqP.go ?_)|((refine ObD.mk ?_ ?_);exact zD)|((refine ObN.mk ?_ ?_);exact zN)|(with_reducible first|refine ObT.tt ?_|refine ObT.ff ?_)|((refine ObB.yes ?_ ?_);exact zB)|((refine ObB.no ?_ ?_);exact zC)|((with_reducible refine (?_:ObR _ _ _));(first|(refine ObR.mk _ zA ?_)|(refine ObR.map zX (fun x hx=>?_))|(refine ObR.mk _ rfl ?_)))|((refine ObEq.mk ?_);exact zE))
  all_goals (conv=>whnf);trace_state
 subst h4
 have hr2:r=true↔ls=ls':=by rw [hr];simp
 have c12:=eq26 G ls ls' (by omega) (by omega) r (by rw [hr];simp)
 refine zf wY ?_
 repeat' ((conv=>whnf);first|(refine SeqP.go ?_)|((refine ObD.mk ?_ ?_);exact zD)|((refine ObN.mk ?_ ?_);exact zN)|(with_reducible first|refine ObT.tt ?_|refine ObT.ff ?_)|((refine ObB.yes ?_ ?_);exact zB)|((with_reducible refine (?_:ObR _ _ _));(first|(refine ObR.mk _ zA ?_)|(refine ObR.map zX (fun x hx=>?_))|(refine ObR.mk _ rfl ?_)))|((refine ObC.f 47 ?_);(refine ObC.mk _ (c47) ?_))|((refine ObC.f 12 ?_);(refine ObC.mk _ (c12) ?_))|((refine ObEq.mk ?_);exact zE))
 all_goals (conv=>whnf);trace_state
end
theorem shB_succ {h g:List Nd} {n i j:Nat} (hi:i < h.length) (hj:j < g.length):shB h g (n+1) ((i:Int)+1) ((j:Int)+1)=(decide (h[i].kk.length=g[j].kk.length) && (List.range h[i].kk.length).all (fun k=>shB h g n (h[i].kk.getD k 0) (g[j].kk.getD k 0)) && shB h g n h[i].mn g[j].mn && flq h[i] g[j]):=by
 have ei:((i:Int)+1 - 1).toNat=i:=by omega
 have ej:((j:Int)+1 - 1).toNat=j:=by omega
 have h0:¬ ((i:Int)+1=0\/(j:Int)+1=0):=by omega
 simp only [shB,if_neg h0,ei,ej,List.getElem?_eq_getElem hi,List.getElem?_eq_getElem hj]
section
variable (G:Nat->AV)
set_option maxHeartbeats 1000000 in
theorem shp0 (H K:List AV) (r s:Int) (h0:r=0\/s=0) (b:Bool) (hb:b=(decide (r=0) && decide (s=0))):PC Tryd.prog G 18 [.sl 9 H,I r,.sl 9 K,I s] (Bo b):=by
 by_cases r0:r=0
 ·by_cases s0 : s = 0
  ·obtain rfl : b = true := by rw [hb]; simp [r0, s0]
   refine zf cop18 ?_
   repeat' ((conv=>whnf);first|(refine SeqP.go ?_)|((refine ObN.mk ?_ ?_);exact zN)|(refine ObT.tt ?_)|((refine ObB.yes ?_ ?_);exact zB)|((refine ObEq.mk ?_);exact zE))
  ·obtain rfl : b = false := by rw [hb]; simp [r0, s0]
   refine zf cop18 ?_
   repeat' ((conv=>whnf);first|(refine SeqP.go ?_)|((refine ObN.mk ?_ ?_);exact zN)|(refine ObT.tt ?_)|((refine ObB.yes ?_ ?_);exact zB)|((refine ObB.no ?_ ?_);exact zC)|((refine ObEq.mk ?_);exact zE))
 ·have s0 : s = 0 := by omega
  obtain rfl:b=false:=by rw [hb];simp [r0,s0]
  refine zf cop18 ?_
  repeat' ((conv=>whnf);first|(refine SeqP.go ?_)|((refine ObN.mk ?_ ?_);exact zN)|(with_reducible first|refine ObT.tt ?_|refine ObT.ff ?_)|((refine ObB.yes ?_ ?_);exact zB)|((refine ObB.no ?_ ?_);exact zC)|((refine ObEq.mk ?_);exact zE))
set_option maxHeartbeats 8000000 in
theorem shp18 (h g : List Nd) (hl : h.length <= 1000) (gl : g.length <= 1000) (okh : OkL h) (okg : OkL g) (hx : ∀ x ∈ h, x.Ok) (gx : ∀ x ∈ g, x.Ok) :
  ∀ (N:Nat) (r s:Int),0<=r->r<=(N:Int)->r<=(h.length:Int)->0<=s->s<=(g.length:Int)->PC Tryd.prog G 18 [.sl 9 (h.map nA),I r,.sl 9 (g.map nA),I s] (Bo (shB h g N r s)):=by
 intro N
 induction N with
 | zero=>intro r s r0 rN r1 s0 s1;exact shp0 G _ _ r s (.inl (by omega)) _ rfl
 | succ N ih =>
  intro r s r0 rN r1 s0 s1
  by_cases h0:r=0\/s=0
  ·exact shp0 G _ _ r s h0 _ (by simp only [shB,if_pos h0])
  obtain ⟨i,rfl⟩:∃ j:Nat,r=(j:Int)+1:=⟨(r - 1).toNat,by omega⟩
  obtain ⟨j,rfl⟩:∃ j:Nat,s=(j:Int)+1:=⟨(s - 1).toNat,by omega⟩
  have hi:i < h.length:=by omega
  have hj:j < g.length:=by omega
  obtain ⟨R,hR⟩:∃ R,R=shB h g (N+1) ((i:Int)+1) ((j:Int)+1):=⟨_,rfl⟩
  rw [<- hR]
  rw [shB_succ hi hj] at hR
  have q1:(h.map nA)[((i:Int)+1 - 1).toNat]? = some (nA h[i]):=by rw [show ((i:Int)+1 - 1).toNat=i by omega];exact wT hi
  have q2:(g.map nA)[((j:Int)+1 - 1).toNat]? = some (nA g[j]):=by rw [show ((j:Int)+1 - 1).toNat=j by omega];exact wT hj
  have ka:=okh i hi
  have kb:=okg j hj
  have xa:=hx _ (List.getElem_mem hi)
  have xb:=gx _ (List.getElem_mem hj)
  generalize h[i]=a at *
  generalize g[j]=b at *
  obtain ⟨kn,ke,va,mp,kk,mn,ls,sz,bi⟩:=a
  obtain ⟨kn',ke',va',mp',kk',mn',ls',sz',bi'⟩:=b
  dsimp only at *
  have la:=xa.kk
  have lb:=xb.kk
  have ma:=xa.ls
  have mb:=xb.ls
  dsimp only at la lb ma mb
  obtain ⟨_,_,kk1,km1⟩:=ka
  obtain ⟨_,_,kk2,km2⟩:=kb
  dsimp only at kk1 km1 kk2 km2
  have cm:=ih mn mn' km1.1 (by omega) (by omega) km2.1 (by omega)
  have ck:∀ k (h1:k < kk.length) (h2:k < kk'.length),PC Tryd.prog G 18 [.sl 9 (h.map nA),I kk[k],.sl 9 (g.map nA),I kk'[k]] (Bo (shB h g N kk[k] kk'[k])):=fun k h1 h2=>by
   have e1:=kk1 _ (List.getElem_mem h1)
   have e2:=kk2 _ (List.getElem_mem h2)
   exact ih _ _ e1.1 (by omega) (by omega) e2.1 (by omega)
  have cs:=same32 G kn kn' ke ke' va va' mp mp' ls ls' sz sz' (by omega) (by omega) _ rfl
  unfold fA at cs
  clear xa xb hx gx okh okg ih kk1 kk2 km1 km2
  refine zf cop18 ?_
  skip
  conv=>whnf
  refine SeqP.go ?_
  repeat' ((conv=>whnf);first|((refine ObN.mk ?_ ?_);exact zN)|(refine ObT.ff ?_)|((refine ObB.no ?_ ?_);exact zC))
  conv=>whnf
  refine SeqP.go ?_
  repeat' ((conv=>whnf);first|(refine ObT.ff ?_))
  conv=>whnf
  refine SeqP.go ?_
  refine V_cut (α:=Unit) (fun _=>True) (fun _=>[(9,some (.oa 0 0 0 0)),(0,some (.oa 1 0 0 0)),(13,none),(0,none),(0,none),(0,none),(0,none),(0,none),(0,none),(0,none),(0,none),(0,none)]) (fun _=>[⟨40,9,[nV kn ke va (mp:Int) kk mn ls sz bi],0,0⟩,⟨40,9,[nV kn' ke' va' (mp':Int) kk' mn' ls' sz' bi'],0,0⟩]) ?_ ?_
  ·intro Q hQ
   have hQ1:=fun s' H' (h:s'.getD 9 zd = .oa 0 0 0 0) hf=>hQ s' H' () trivial hf
   have hQ2:=fun s' H' (h:s'.getD 9 zd = .oa 1 0 0 0) hf=>hQ s' H' () trivial hf
   repeat' ((conv=>whnf);first|(with_reducible first|refine ObAnd.mk ?_ ?_|refine ObDx.each ?_)|((refine ObD.mk ?_ ?_);exact zD)|((refine ObN.mk ?_ ?_);exact zN)|((with_reducible refine ObI.mk _ rfl ?_ ?_ ?_);omega;omega)|((with_reducible refine ObX.int ?_ ?_ ?_);exact zX;exact zX)|((with_reducible refine (?_:ObU _ _));(refine ObU.mk _ zU ?_))|((with_reducible refine (?_:ObR _ _ _));(first|(refine ObR.mk _ (by assumption) ?_)|(refine ObR.mk _ (by exact q1) ?_)|(refine ObR.mk _ (by exact q2) ?_)|(refine ObR.mk _ yy ?_)|(refine ObR.map zX (fun x hx=>?_))|(refine ObR.mk _ rfl ?_))))
   all_goals conv=>whnf
   all_goals first
    | refine hQ1 _ _ rfl (Fg.vw [(0,0,0),(0,1,0)] ?_ ?_ (by simp) ?_)
    | refine hQ2 _ _ rfl (Fg.vw [(0,1,0),(0,0,0)] ?_ ?_ (by simp) ?_)
   all_goals repeat' ((conv=>whnf);first|((refine ObN.mk ?_ ?_);exact zN)|((with_reducible refine ObRn.mk ?_ ?_);(focus (first|rfl|(simp [rnB,rnC,rnL];done))))|((with_reducible refine ObRow.same ?_ ?_ ?_);exact zE;(focus (first|rfl|assumption|(simp;done))))|((refine ObEqs.mk ?_ ?_);rfl)|exact True.intro)
  ·intro _ _
   have ml:(kk.map iA).length=kk.length:=by simp
   have ml':(kk'.map iA).length=kk'.length:=by simp
   by_cases hn:kk.length=kk'.length
   case neg =>
    obtain rfl:R=false:=by rw [hR,decide_eq_false hn];simp
    have hn':¬ (kk.length:Int)=(kk'.length:Int):=by omega
    repeat' ((conv=>whnf);first|(refine SeqP.go ?_)|((refine ObN.mk ?_ ?_);exact zN)|(refine ObT.tt ?_)|((refine ObB.no ?_ ?_);exact zC)|((with_reducible refine (?_:ObL _ _));(refine ObL.mk _ zq12 ?_))|((with_reducible refine (?_:ObR _ _ _));(first|(refine ObR.mk _ zA ?_)|(refine ObR.map zX (fun x hx=>?_))|(refine ObR.mk _ rfl ?_)))|((refine ObEq.mk ?_);exact zE))
   rw [decide_eq_true hn,Bool.true_and] at hR
   have hn':(kk.length:Int)=(kk'.length:Int):=by omega
   repeat' ((conv=>whnf);first|(refine SeqP.go ?_)|((refine ObN.mk ?_ ?_);exact zN)|(refine ObT.ff ?_)|((refine ObB.yes ?_ ?_);exact zB)|((with_reducible refine (?_:ObL _ _));(refine ObL.mk _ zq12 ?_))|((with_reducible refine (?_:ObR _ _ _));(first|(refine ObR.mk _ zA ?_)|(refine ObR.map zX (fun x hx=>?_))|(refine ObR.mk _ rfl ?_))))
   conv=>whnf
   refine LoopP.go (α:=Nat) (fun k=>k<=kk.length/\∀ k',k' < k->shB h g N (kk.getD k' 0) (kk'.getD k' 0)=true) (fun k=>kk.length - k) (fun k=>[(8,some (Bo false)),(2,some (I (k:Nat))),(29,none),(0,none),(0,none),(0,none),(0,none),(0,none),(0,none),(0,none),(0,none),(0,none),(0,none),(0,none),(0,none),(0,none),(0,none),(0,none),(0,none),(0,none),(0,none),(0,none),(0,none)]) (fun _=>[⟨40,9,[nV kn ke va (mp:Int) kk mn ls sz bi],0,0⟩,⟨40,9,[nV kn' ke' va' (mp':Int) kk' mn' ls' sz' bi'],0,0⟩]) 0 ⟨Nat.zero_le _,fun k' hk'=>by omega⟩ (Fg.go ?_ rfl) ?_
   ·repeat' ((conv=>whnf);first|((refine ObEqs.mk ?_ ?_);rfl)|((with_reducible refine ObEq1.i ?_ ?_);exact zF)|((with_reducible refine ObEq1.mk ?_ ?_);exact zE)|exact True.intro)
   rintro k ⟨hk,hall⟩
   by_cases hkl:k < kk.length
   ·have hkl' : k < kk'.length := by omega
    have r1:=yd hkl
    have r2:=yd hkl'
    have c:=ck k hkl hkl'
    obtain ⟨v,hv⟩:∃ v,v=shB h g N kk[k] kk'[k]:=⟨_,rfl⟩
    rw [<- hv] at c
    have hv':shB h g N (kk.getD k 0) (kk'.getD k 0)=v:=by
     rw [hv];simp only [List.getD_eq_getElem?_getD,List.getElem?_eq_getElem hkl,List.getElem?_eq_getElem hkl',Option.getD_some]
    cases v
    ·obtain rfl : R = false := by
      rw [hR]
      have:(List.range kk.length).all (fun k=>shB h g N (kk.getD k 0) (kk'.getD k 0))=false:=List.all_eq_false.2 ⟨k,List.mem_range.2 hkl,by rw [hv'];simp⟩
      rw [this];simp
     repeat' ((conv=>whnf);first|(refine SeqP.go ?_)|((refine ObD.mk ?_ ?_);exact zD)|((refine ObN.mk ?_ ?_);exact zN)|(with_reducible first|refine ObT.tt ?_|refine ObT.ff ?_)|((refine ObB.yes ?_ ?_);exact zB)|((refine ObX.mk _ rfl ?_ ?_);exact zX)|((with_reducible refine (?_:ObL _ _));(refine ObL.mk _ zq12 ?_))|((with_reducible refine (?_:ObR _ _ _));(first|(refine ObR.mk _ (by assumption) ?_)|(refine ObR.mk _ (by exact r1) ?_)|(refine ObR.mk _ (by exact r2) ?_)|(refine ObR.mk _ yy ?_)|(refine ObR.map zX (fun x hx=>?_))|(refine ObR.mk _ rfl ?_)))|((refine ObC.f 18 ?_);(refine ObC.mk _ (c) ?_))|((refine ObEq.mk ?_);exact zE))
    ·repeat' ((conv=>whnf);first|(refine SeqP.go ?_)|((refine ObD.mk ?_ ?_);exact zD)|((refine ObN.mk ?_ ?_);exact zN)|(with_reducible first|refine ObT.tt ?_|refine ObT.ff ?_)|((refine ObB.yes ?_ ?_);exact zB)|((with_reducible refine ObI.nl ?_ ?_);omega)|((refine ObX.mk _ rfl ?_ ?_);exact zX)|((with_reducible refine (?_:ObL _ _));(refine ObL.mk _ zq12 ?_))|((with_reducible refine (?_:ObR _ _ _));(first|(refine ObR.mk _ (by assumption) ?_)|(refine ObR.mk _ (by exact r1) ?_)|(refine ObR.mk _ (by exact r2) ?_)|(refine ObR.mk _ yy ?_)|(refine ObR.map zX (fun x hx=>?_))|(refine ObR.mk _ rfl ?_)))|((refine ObC.f 18 ?_);(refine ObC.mk _ (c) ?_)))
     all_goals conv=>whnf
     all_goals refine Again.mk (k+1) ⟨by omega,fun k' hk'=>by rcases Nat.lt_or_eq_of_le (Nat.le_of_lt_succ hk') with h1|h1;exact hall k' h1;rw [h1];exact hv'⟩ (by omega) (Fg.go ?_ rfl)
     all_goals repeat' ((conv=>whnf);first|((refine ObEqs.mk ?_ ?_);rfl)|((with_reducible refine ObEq1.i ?_ ?_);exact zF)|((with_reducible refine ObEq1.mk ?_ ?_);exact zE)|exact True.intro)
   ·obtain rfl : k = kk.length := by omega
    have:(List.range kk.length).all (fun k=>shB h g N (kk.getD k 0) (kk'.getD k 0))=true:=List.all_eq_true.2 fun k' hk'=>hall k' (List.mem_range.1 hk')
    rw [this,Bool.true_and] at hR
    obtain ⟨v,hv⟩:∃ v,v=shB h g N mn mn':=⟨_,rfl⟩
    rw [<- hv] at cm hR
    cases v
    ·obtain rfl : R = false := by rw [hR]; rfl
     repeat' ((conv=>whnf);first|(refine SeqP.go ?_)|((refine ObN.mk ?_ ?_);exact zN)|(with_reducible first|refine ObT.tt ?_|refine ObT.ff ?_)|((refine ObB.no ?_ ?_);exact zC)|((with_reducible refine (?_:ObL _ _));(refine ObL.mk _ zq12 ?_))|((with_reducible refine (?_:ObR _ _ _));(first|(refine ObR.mk _ zA ?_)|(refine ObR.map zX (fun x hx=>?_))|(refine ObR.mk _ rfl ?_)))|((refine ObC.f 18 ?_);(refine ObC.mk _ (cm) ?_))|((refine ObEq.mk ?_);exact zE))
    ·rw [Bool.true_and] at hR
     have cs':PC Tryd.prog G 32 [.agg [I kn,S ke,S va,.v (.int .u32 (mp:Int)),.sl 1 [],I 0,.sl 2 (ls.map pA),I sz,I 0],.agg [I kn',S ke',S va',.v (.int .u32 (mp':Int)),.sl 1 [],I 0,.sl 2 (ls'.map pA),I sz',I 0]] (Bo R):=by rw [hR];exact cs
     repeat' ((conv=>whnf);first|(refine SeqP.go ?_)|((refine ObD.mk ?_ ?_);exact zD)|((refine ObN.mk ?_ ?_);exact zN)|(with_reducible first|refine ObT.tt ?_|refine ObT.ff ?_)|((refine ObB.no ?_ ?_);exact zC)|((with_reducible refine (?_:ObL _ _));(refine ObL.mk _ zq12 ?_))|((with_reducible refine (?_:ObU _ _));(refine ObU.mk _ zU ?_))|((with_reducible refine (?_:ObR _ _ _));(first|(refine ObR.mk _ zA ?_)|(refine ObR.map zX (fun x hx=>?_))|(refine ObR.mk _ rfl ?_)))|((refine ObC.f 18 ?_);(refine ObC.mk _ (cm) ?_))|((refine ObC.f 32 ?_);(refine ObC.mk _ (cs') ?_))|((refine ObEq.mk ?_);exact zE))
     all_goals (conv=>whnf);trace_state
end
open Go.RowKit Go.Shelf Go.Lib Go.Sort
def y5:Ren :=
{f:=fun x=>match x with|171=>42|243=>56|246=>66|283=>75|284=>76|285=>77|286=>78|129=>83|317=>82|318=>84|319=>85|320=>86|337=>89|338=>90|n=>n,
 t:=fun x=>match x with|3=>3|9=>9|2=>2|4=>4|171=>106|0=>0|53=>107|37=>75|5=>5|173=>110|212=>117|51=>37|20=>20|213=>118|46=>103|232=>123|233=>124|n=>n,
 g:=fun x=>match x with|17=>0|18=>1|19=>2|n=>n }
set_option maxRecDepth 100000 in
theorem laysI:LaysM.n171 Tryd.prog y5 :=
{mixed:=rfl,
 f129:=Eq.trans Tryd.func83 (congrArg some (Eq.refl (Body.n129 y5))),
 f171:=Eq.trans Tryd.func42 (congrArg some (Eq.refl (Body.n171 y5))),
 f243:=Eq.trans Tryd.func56 (congrArg some (Eq.refl (Body.n243 y5))),
 f246:=Eq.trans Tryd.func66 (congrArg some (Eq.refl (Body.n246 y5))),
 f283:=Eq.trans Tryd.func75 (congrArg some (Eq.refl (Body.n283 y5))),
 f284:=Eq.trans Tryd.func76 (congrArg some (Eq.refl (Body.n284 y5))),
 f285:=Eq.trans Tryd.func77 (congrArg some (Eq.refl (Body.n285 y5))),
 f286:=Eq.trans Tryd.func78 (congrArg some (Eq.refl (Body.n286 y5))),
 f317:=Eq.trans Tryd.func82 (congrArg some (Eq.refl (Body.n317 y5))),
 f318:=Eq.trans Tryd.func84 (congrArg some (Eq.refl (Body.n318 y5))),
 f319:=Eq.trans Tryd.func85 (congrArg some (Eq.refl (Body.n319 y5))),
 f320:=Eq.trans Tryd.func86 (congrArg some (Eq.refl (Body.n320 y5))),
 f337:=Eq.trans Tryd.func89 (congrArg some (Eq.refl (Body.n337 y5))),
 f338:=Eq.trans Tryd.func90 (congrArg some (Eq.refl (Body.n338 y5))),
 t0:=Tryd.underlying0,
 a0:=Tryd.isAgg0,
 z0:=Tryd.sizeOf0,
 v0:=Tryd.zeroValue0,
 t2:=Tryd.underlying2,
 a2:=Tryd.isAgg2,
 z2:=Tryd.sizeOf2,
 v2:=Tryd.zeroValue2,
 t3:=Tryd.underlying3,
 a3:=Tryd.isAgg3,
 z3:=Tryd.sizeOf3,
 v3:=Tryd.zeroValue3,
 t4:=Tryd.underlying4,
 a4:=Tryd.isAgg4,
 z4:=Tryd.sizeOf4,
 v4:=Tryd.zeroValue4,
 t5:=Tryd.underlying5,
 a5:=Tryd.isAgg5,
 z5:=Tryd.sizeOf5,
 v5:=Tryd.zeroValue5,
 t9:=Tryd.underlying9,
 a9:=Tryd.isAgg9,
 z9:=Tryd.sizeOf9,
 v9:=Tryd.zeroValue9,
 t20:=Tryd.underlying20,
 a20:=Tryd.isAgg20,
 z20:=Tryd.sizeOf20,
 v20:=Tryd.zeroValue20,
 t37:=Tryd.underlying75,
 a37:=Tryd.isAgg75,
 z37:=Tryd.sizeOf75,
 v37:=Tryd.zeroValue75,
 t46:=Tryd.underlying103,
 a46:=Tryd.isAgg103,
 z46:=Tryd.sizeOf103,
 v46:=Tryd.zeroValue103,
 t51:=Tryd.underlying37,
 a51:=Tryd.isAgg37,
 z51:=Tryd.sizeOf37,
 v51:=Tryd.zeroValue37,
 t53:=Tryd.underlying107,
 a53:=Tryd.isAgg107,
 z53:=Tryd.sizeOf107,
 v53:=Tryd.zeroValue107,
 t171:=Tryd.underlying106,
 a171:=Tryd.isAgg106,
 z171:=Tryd.sizeOf106,
 v171:=Tryd.zeroValue106,
 t173:=Tryd.underlying110,
 a173:=Tryd.isAgg110,
 z173:=Tryd.sizeOf110,
 v173:=Tryd.zeroValue110,
 t212:=Tryd.underlying117,
 a212:=Tryd.isAgg117,
 z212:=Tryd.sizeOf117,
 v212:=Tryd.zeroValue117,
 t213:=Tryd.underlying118,
 a213:=Tryd.isAgg118,
 z213:=Tryd.sizeOf118,
 t232:=Tryd.underlying123,
 a232:=Tryd.isAgg123,
 z232:=Tryd.sizeOf123,
 v232:=Tryd.zeroValue123,
 t233:=Tryd.underlying124,
 a233:=Tryd.isAgg124,
 z233:=Tryd.sizeOf124,
 v233:=Tryd.zeroValue124,
 g17:=by kernel_rfl,
 g18:=by kernel_rfl,
 g19:=by kernel_rfl,
 i0:=rfl,
 i2:=rfl,
 i3:=rfl,
 i4:=rfl,
 i5:=rfl,
 i9:=rfl,
 i20:=rfl,
 i37:=rfl,
 i46:=rfl,
 i51:=rfl,
 i53:=rfl,
 i171:=rfl,
 i173:=rfl,
 i212:=rfl,
 i232:=rfl,
 i233:=rfl,
 m17:=by kernel_rfl,
 m18:=by kernel_rfl,
 m19:=by kernel_rfl }
def TabP (w:World):Prop:=∀ j,j < 20->w.cell? ⟨0,j,none⟩=some (.int .u64 ((10 ^ j:Nat):Int))
theorem TabP.below {w w':World} (h:TabP w) (b:Below w.heap.size w w'):TabP w':=fun j hj=>by
 have h0:=yk (h j hj)
 rw [b.cell (p:=⟨0,j,none⟩) h0]
 exact h j hj
abbrev uV (b:UInt8):Value:=.int .u8 (b.toNat:Int)
set_option maxRecDepth 100000 in
set_option maxHeartbeats 2000000 in
theorem nd76 (u : Nat) (h1 : 1 <= u) (h2 : u < 18446744073709551616) (w : World) (T : TabP w) :
  Calls Tryd.prog 76 #[.int .u64 u] w fun e w'=>e = .returned (.int .i64 (nDigits u))/\w'=w:=by
 obtain ⟨hn,h19⟩:=numDigits_eq u h1 h2
 have hb:Lib.bitLen u<=64:=bitLen_le u 64 (Nat.le_refl _) h2
 have c1:∀ w,Calls Tryd.prog 83 #[.int .u64 u] w fun e w'=>e = .returned (.int .i64 (Lib.bitLen u))/\w'=w:=fun w=>by
  have:=Any.bits_Len64 (P:=Tryd.prog) (ρ:=y5) { laysI with } (u:Int) w (by omega) (by omega)
  rwa [Int.toNat_natCast] at this
 have c2:∀ w,Calls Tryd.prog 82 #[.int .i64 (Lib.bitLen u)] w fun e w'=>e = .returned (.int .i64 (l10 (Lib.bitLen u)))/\w'=w:=fun w=>Any.internal_strconv_log10Pow2 (P:=Tryd.prog) (ρ:=y5) { laysI with } (Lib.bitLen u) hb w
 have c3:∀ (b:Bool) w,Calls Tryd.prog 84 #[.bool b] w fun e w'=>e = .returned (.int .i64 (if b then 1 else 0))/\w'=w:=fun b w=>Any.internal_strconv_bool2_int (P:=Tryd.prog) (ρ:=y5) { laysI with } b w
 have hc:=T (l10 (Lib.bitLen u)) (by omega)
 generalize l10 (Lib.bitLen u)=q at *
 generalize Lib.bitLen u=m at *
 generalize 10 ^ q=z at *
 have k1:=Lib.hid c1
 have k2:=Lib.hid c2
 have k3:=Lib.hid c3
 have Hn:=Lib.hid hn
 clear T c1 c2 c3 hn
 go_enter Tryd.func76,Tryd.ntmps76
 go_wp2_with (first
  | (go_at_call 83;(with_reducible refine (k1.out _).mono ?_);rintro e w' ⟨rfl,rfl⟩)
  | (go_at_call 82;(with_reducible refine (k2.out _).mono ?_);rintro e w' ⟨rfl,rfl⟩)
  | (go_at_call 84;(with_reducible refine (k3.out _ _).mono ?_);rintro e w' ⟨rfl,rfl⟩))
 all_goals go_ret
 all_goals (
  refine ⟨?_,rfl⟩
  have hn:=Hn.out
  congr 2
  split at hn<;>simp_all<;>omega)
theorem row_text (u : Nat) (hn : nDigits u <= 20) (w : World) (k v' : Nat) (dk : Array UInt8) (hF : FmtInv (nDigits u) u 0 v' dk) :
  (convert 75 9 (.slice (some ⟨w.heap.size,1,none⟩) (nDigits u) 23)).run Tryd.prog ((putRow uV (w.alloc (.cells zeros24 106)) w.heap.size 1 dk).drewN k) = .ok (.string ⟨(decDigits u).toArray⟩) ((putRow uV (w.alloc (.cells zeros24 106)) w.heap.size 1 dk).drewN k):=by
 have t75:Tryd.prog.underlying 75=some (.slice 5):=by kernel_rfl
 have t5:Tryd.prog.underlying 5=some (.int .u8):=by kernel_rfl
 have t9:Tryd.prog.underlying 9=some .string:=by kernel_rfl
 have hH:=holds_zero w 106 (nDigits u) (by omega)
 have q:=run_convert_bytes_back (P:=Tryd.prog) ((putRow uV (w.alloc (.cells zeros24 106)) w.heap.size 1 dk).drewN k) 75 9 5 ⟨w.heap.size,1,none⟩ 23 (decDigits u) t75 t5 t9 (fun j hj=>by
  have hj':j < nDigits u:=by rwa [decDigits_length] at hj
  rw [row_is_numeral hF j hj,Lib.add_plain,World.cell?_drewN]
  exact cell?_putRow uV _ w.heap.size 1 _ dk hH (by rw [hF.size,Array.size_replicate]) j (by rw [hF.size];exact hj'))
 rwa [decDigits_length] at q
set_option maxRecDepth 100000 in
set_option maxHeartbeats 4000000 in
theorem fmt66 (u : Nat) (h1 : 100 <= u) (h2 : u < 9223372036854775808) (w : World) (T : TabP w) :
  Calls Tryd.prog 66 #[.int .i64 u,.int .i64 10] w fun e w'=>e = .returned (.string ⟨(decDigits u).toArray⟩)/\Below w.heap.size w w':=by
 have hnd:nDigits u<=20:=by have:=numDigits_eq u (by omega) (by omega);split at this<;>omega
 have hl:(decDigits u).length=nDigits u:=decDigits_length u
 have hpow:=lt_pow_nDigits u
 generalize hn:nDigits u=n at *
 have t106:Tryd.prog.underlying 106=some (.array 24 5):=by kernel_rfl
 have t75:Tryd.prog.underlying 75=some (.slice 5):=by kernel_rfl
 have t5:Tryd.prog.underlying 5=some (.int .u8):=by kernel_rfl
 have t9:Tryd.prog.underlying 9=some .string:=by kernel_rfl
 obtain ⟨w1,e1⟩:∃ w1,w1=w.alloc (.cells zeros24 106):=⟨_,rfl⟩
 have T1:TabP w1:=by rw [e1];exact T.below (Go.RowKit.Below.alloc (Go.RowKit.Below.refl _ _) (Nat.le_refl _) _)
 have k1:=Lib.hid (nd76 u (by omega) (by omega) w1 T1)
 have hH:=holds_zero w 106 n (by omega)
 have k2:=Any.internal_strconv_formatBase10 (P:=Tryd.prog) (ρ:=y5) { laysI with } w.heap.size 1 23 u (Array.replicate n 0) w1 (by rw [e1];exact hH) (by rw [Array.size_replicate];exact hpow) (by omega) (by rw [Array.size_replicate];omega)
 rw [Array.size_replicate] at k2
 have e24:Tryd.prog.arrayLen 106=24:=by simp [Program.arrayLen,t106]
 have hsl:∀ W,(Instr.sliceAt 106 (.pointer (some ⟨w.heap.size,0,none⟩)) (some (.int .i64 1)) (some (.int .i64 (1+(n:Int)))) none).run Tryd.prog W = .ok (.slice (some ⟨w.heap.size,1,none⟩) n 23) W:=fun W=>by
  rw [run_sliceAt_array_lh W 106 ⟨w.heap.size,0,none⟩ (by simp [Program.arrayLen,Program.elem,t106]) .i64 .i64 1 (1+(n:Int)) (by omega) (by omega) (by rw [e24];omega)]
  go_simp
  omega
 have k2':=Lib.hid k2
 have h10:(u:Int) % 18446744073709551616=(u:Int):=by omega
 have Hpow:=Lib.hid hpow
 have HH:=Lib.hid hH
 have Hl:=Lib.hid hl
 have Hn:=Lib.hid hn
 rw [hn] at k1
 clear k2 hpow hH hl T T1 hn t75 e24
 subst e1
 go_enter Tryd.func66,Tryd.ntmps66
 go_wp2_with (first
  | (go_at_call 76;refine k1.out.mono ?_;rintro e w' ⟨rfl,rfl⟩)
  | (go_at_call 77;refine k2'.out.mono ?_;rintro e w' ⟨rfl,k,v',dk,rfl,hF⟩;have hcv:=row_text u (by rw [Hn.out];exact hnd) w k v' dk (by rw [Hn.out];exact hF);rw [Hn.out] at hcv))
 go_ret
 obtain ⟨os,eo⟩:=fin_pos w (.cells zeros24 106) dk k
 refine ⟨rfl,?_⟩
 rw [eo]
 have hb:Below w.heap.size w (w.drewN k):=by
  clear eo hF
  induction k with
  | zero=>rw [World.drewN_zero];exact Go.RowKit.Below.refl _ _
  | succ k ih=>exact ⟨rfl,rfl,rfl,Nat.le_refl _,fun _ _=>rfl⟩
 exact ⟨hb.os,hb.tape,hb.output,by rw [size_grow];exact Nat.le_trans hb.size (Nat.le_add_right _ _),fun j hj=>by rw [heap_grow_old _ _ (by exact Nat.lt_of_lt_of_le hj hb.size)];exact hb.block j hj⟩
def pow10s:List Int:=(List.range 20).map fun i=>((10 ^ i:Nat):Int)
def wH (g:Nat):AV:=if g=0 then .ad 20 [.agg (pow10s.map fun z=>.v (.int .u64 z))] 0 0 else .unk
theorem Xj {j:Nat} (h:j < 20):pow10s[j]? = some ((10 ^ j:Nat):Int):=by simp [pow10s,h]
theorem gok {w:World} (hT:TabP w):GOK wH (fun b o=>w.cell? ⟨b,o,none⟩):=by
 intro g
 unfold wH
 split
 ·rename_i hg
  subst hg
  have hl:pow10s.length=20:=by simp [pow10s]
  refine .p (.ad 0 0 20 _ 0 0 (fun e he=>?_) (fun e he a ha=>?_) (fun i j=>.int .u64 ((10 ^ j:Nat):Int)) (fun i j hi hj=>?_) (fun i j e a he ha=>?_))
  ·simp only [List.mem_singleton] at he
   subst he
   simp [AV.cells,hl]
  ·simp only [List.mem_singleton] at he
   subst he
   simp only [AV.cells,List.mem_map] at ha
   obtain ⟨b,_,rfl⟩:=ha
   rfl
  ·have hi' : i < 1 := hi
   obtain rfl:i=0:=by omega
   have:=hT j (by omega)
   rw [show 0+0 * 20+j=j by omega]
   exact this
  ·simp only [List.getElem?_singleton] at he
   split at he
   ·cases he
    simp only [AV.cells,List.getElem?_map] at ha
    obtain ⟨b,hb,rfl⟩:=Option.map_eq_some_iff.1 ha
    have hj:j < 20:=by rw [<- hl];exact (List.getElem?_eq_some_iff.1 hb).1
    rw [Xj hj] at hb
    cases hb
    exact .v _ rfl
   ·cases he
 ·exact .unk _
theorem tab_of {w:World} {F:Fz} (hF:∀ b o v,F b o=some v->w.cell? ⟨b,o,none⟩=some v) (hG:GOK wH F):TabP w:=by
 intro j hj
 have h0:=hG 0
 have e0:wH 0 = .ad 20 [.agg (pow10s.map fun z=>.v (.int .u64 z))] 0 0:=rfl
 rw [e0] at h0
 cases h0 with
 | p h0 =>
  generalize hx:(Value.pointer (some ⟨0,0,none⟩))=x at h0
  generalize hy:AV.ad 20 [.agg (pow10s.map fun z=>.v (.int .u64 z))] 0 0=y at h0
  cases h0 with
  | ad b o k es i' off hk h1 f hf h =>
   injection hy with q1 q2 q3 q4
   subst q1;subst q2;subst q3;subst q4
   injection hx with hx
   injection hx with hx
   injection hx with hx1 hx2
   have o0:o=0:=by omega
   subst o0;subst hx1
   have c:=hf 0 j (by decide) (by omega)
   have e2:(pow10s.map fun z=>AV.v (.int .u64 z))[j]? = some (.v (.int .u64 ((10 ^ j:Nat):Int))):=by
    rw [List.getElem?_map,Xj hj];rfl
   have pv:=h 0 j _ _ rfl (by rw [AV.cells];exact e2)
   have e3:f 0 j = .int .u64 ((10 ^ j:Nat):Int):=by
    generalize f 0 j=z at pv
    cases pv;rfl
   rw [e3] at c
   have:=hF _ _ _ c
   rw [show 0+0 * 20+j=j by omega] at this
   exact this
  | _=>cases hy
theorem law_ofG {P : Program} {w : World} {G : Nat -> AV} {f : FuncId} {bs : List AV} {xs : List Value} (h : PC P G f bs (.v (.bool true))) (hg : GOK G (fun b o => w.cell? ⟨b, o, none⟩)) (hl : xs.length = bs.length) (hv : ∀ (i : Nat) (c : Value) (a : AV), xs[i]? = some c -> bs[i]? = some a -> PV (fun b o => w.cell? ⟨b, o, none⟩) c a) :
  Calls P f xs.toArray w (fun e w'=>e = .returned (.bool true)/\Go.RowKit.Below w.heap.size w w'):=by
 refine (h w (fun b o=>w.cell? ⟨b,o,none⟩) xs (fun _ _ _ h=>h) hg hl hv).mono ?_
 rintro e w' ⟨v,F',rfl,hp,_,_,_,hb⟩
 cases hp
 exact ⟨rfl,hb⟩
theorem pc_callsG {P : Program} {f : FuncId} {bs : List AV} {ys : List Value} {v : Value} {r : AV} (hc : zy bs = some ys) (hr : zk v = some r)
  (h:∀ w,TabP w->Calls P f ys.toArray w (fun e w'=>e = .returned v/\Go.RowKit.Below w.heap.size w w')):PC P wH f bs r:=by
 intro w F xs hF hG hl hv
 obtain rfl:xs=ys:=xW (F:=F) (O:=[]) hc hl fun i c a hc ha=>.p (hv i c a hc ha)
 refine (h w (tab_of hF hG)).mono ?_
 rintro e w' ⟨rfl,hb⟩
 exact ⟨v,F,rfl,ofVal_pv hr,Fz.le_refl F,fun b o v hv=>by rw [hb.cell (p:=⟨b,o,none⟩) (yk (hF b o v hv))];exact hF b o v hv,fun b o v hv=>.inl hv,hb⟩
theorem itC:ItC wH:=fun n hn=>by
 by_cases h:n < 100
 ·refine pc_callsG (ys:=[.int .i64 n]) (v:=.string (Z6 (decDigits n))) rfl rfl fun w T=>(Any.strconv_Itoa_small (P:=Tryd.prog) (ρ:=y5) { laysI with } n h w).mono ?_
  rintro e w' ⟨rfl,rfl⟩
  exact ⟨rfl,Go.RowKit.Below.refl _ _⟩
 ·have c:PC Tryd.prog wH 66 [I n,I 10] (S (Z6 (decDigits n))):=pc_callsG (ys:=[.int .i64 n,.int .i64 10]) (v:=.string (Z6 (decDigits n))) rfl rfl fun w T=>fmt66 n (by omega) hn w T
  have c2:PC Tryd.prog wH 56 [I n] (S (Z6 (decDigits n))):=by
   refine zf cop56 ?_
   repeat' ((conv=>whnf);first|(refine SeqP.go ?_)|((refine ObC.f 66 ?_);(refine ObC.mk _ (c) ?_))|((refine ObEq.mk ?_);exact zE))
  refine zf cop42 ?_
  repeat' ((conv=>whnf);first|(refine SeqP.go ?_)|((refine ObC.f 56 ?_);(refine ObC.mk _ (c2) ?_))|((refine ObEq.mk ?_);exact zE))
end Go.Proofs.YtfocijljkkfonaaDoor.Sim
namespace Go.Proofs.YtfocijljkkfonaaDoor.Sim
open Go.RowKit
set_option maxRecDepth 100000
open Go.Proofs.YtfocijljkkfonaaDoor.Dz
theorem strB_inj {a b:List UInt8} (h:Z6 a=Z6 b):a=b:=by
 have:=congrArg (fun s:ByteArray=>s.data.toList) h
 simpa [Z6] using this
def mE:Nat->Kn->List AV
 | _,[]=>[]
 | n,t::K=>.agg [S (Z6 t),I ((n+1:Nat):Int),I (n:Nat)]::mE (n+1) K
def mR (K:Kn):OB:=⟨4000000000,3,.agg [I (K.length:Nat),Bo false,Bo false]::mE 0 K,0,0⟩
theorem mE_len:∀ {K:Kn} {n:Nat},(mE n K).length=K.length
 | [],_=>rfl
 | t::K,n=>by simp [mE,mE_len (K:=K)]
theorem mE_nr:∀ {K:Kn} {n:Nat},(mE n K).all nrB=true
 | [],_=>rfl
 | t::K,n=>by simp [mE,mE_nr (K:=K),nrB,AV.cells]
theorem mR_nr {K:Kn}:(AV.agg [I (K.length:Nat),Bo false,Bo false]::mE 0 K).all nrB=true:=by
 simp [mE_nr,nrB,AV.cells]
theorem eqS (a b:List UInt8):eqC .s (S (Z6 a)) (S (Z6 b))=some (decide (a=b)):=by
 have:eqC .s (S (Z6 a)) (S (Z6 b))=some (decide (Z6 a=Z6 b)):=by simp [eqC]
 rw [this]
 by_cases h:a=b
 ·simp [h]
 ·have:¬ Z6 a=Z6 b:=fun e=>h (strB_inj e)
  simp [h,this]
theorem lk_m (t:List UInt8):∀ {K:Kn} {n:Nat},lkA .s false (S (Z6 t)) (mE n K)=some (if t ∈ K then some (I ((n+ix K t+1:Nat):Int)) else none)
 | [],_=>rfl
 | a::K,n=>by
  simp only [mE,lkA]
  rw [eqS]
  by_cases h:t=a
  ·subst h
   simp [wG,valA,ix]
  ·have h':¬ a=t:=fun e=>h e.symm
   simp only [h,decide_false,Bool.false_eq_true,if_false]
   rw [lk_m t (K:=K) (n:=n+1)]
   simp only [List.mem_cons,h,false_or,ix,h',if_false]
   rw [show n+(ix K t+1)+1=n+1+ix K t+1 by omega]
theorem lk_yes {K:Kn} {t:List UInt8} (h:t ∈ K):lkA .s false (S (Z6 t)) (mE 0 K)=some (some (I ((idx K t:Nat):Int))):=by
 rw [lk_m,if_pos h,Nat.zero_add];rfl
theorem lk_no {K:Kn} {t:List UInt8} (h:t ∉ K):lkA .s false (S (Z6 t)) (mE 0 K)=some none:=by
 rw [lk_m,if_neg h]
theorem ov_m (t:List UInt8) (vs:List AV):∀ {K:Kn} {n:Nat},t ∉ K->ovA .s (S (Z6 t)) vs (mE n K)=some none
 | [],_,_=>rfl
 | a::K,n,h=>by
  simp only [List.mem_cons,not_or] at h
  simp only [mE,ovA]
  rw [eqS]
  simp only [h.1,decide_false,Bool.false_eq_true,if_false]
  rw [ov_m t vs h.2]
theorem mE_app:∀ {K:Kn} {n:Nat} {t:List UInt8},mE n (K++[t])=mE n K++[.agg [S (Z6 t),I ((n+K.length+1:Nat):Int),I ((n+K.length:Nat):Int)]]
 | [],n,t=>by simp [mE]
 | a::K,n,t=>by
  simp only [List.cons_append,mE,mE_app (K:=K),List.length_cons]
  rw [show n+1+K.length=n+(K.length+1) by omega]
theorem up_m {K:Kn} {t:List UInt8} (h:t ∉ K):upA .s (S (Z6 t)) (I ((K.length:Int)+1)) (.agg [I (K.length:Nat),Bo false,Bo false]::mE 0 K)=some (.agg [I ((K++[t]).length:Nat),Bo false,Bo false]::mE 0 (K++[t])):=by
 have:=ov_m t [I ((K.length:Int)+1)] (K:=K) (n:=0) h
 simp only [upA,rdH,valC,Bool.false_eq_true,if_false,List.length_cons,List.length_nil,if_true,this]
 simp [mE_app]
section
variable (G:Nat->AV) (hI:ItC G)
include hI
theorem dX30 (ids : List Nat) (hil : ids.length <= 100000) (hib : ∀ n ∈ ids, n < 9223372036854775808) (x : Nd) (hx : x.Ok) (i : Nat) (ho : OkN i x) (hi : i < ids.length) (hs : i64 x.sz) :
  HC Tryd.prog G 30 [nA x,.ol 0 0 ids.length] [idR ids 0] (S (Z6 (dX x ids))) [idR ids 0]:=by
 obtain ⟨kn,ke,va,mp,kk,mn,ls,sz,bi⟩:=x
 obtain ⟨h1,h2,h3,h4,h5,h6,h7,h8⟩:=hx
 obtain ⟨o1,o2,o3,o4⟩:=ho
 dsimp only at *
 unfold i64 at hs
 have e1:((kn.toNat:Nat):Int)=kn:=by omega
 have e2:((sz.toNat:Nat):Int)=sz:=by omega
 have c:=dsc30 G hI ids 0 hil hib kn.toNat sz.toNat (by omega) (by omega) ke va (by omega) (by omega) mp h1 kk (by omega) (fun r hr=>by have:=o3 r hr;omega) mn o4.1 (by omega) ls (by omega) (fun p hp=>by have:=h6 p hp;omega) bi
 rw [e1,e2] at c
 exact c
set_option maxHeartbeats 8000000 in
theorem shp16 (h : List Nd) (hl : h.length <= 1000) (okh : OkL h) (hx : ∀ x ∈ h, x.Ok) (hsz : ∀ x ∈ h, i64 x.sz) (K : Kn) (hK : K.length <= 1000) :
  HC Tryd.prog G 16 [.sl 9 (h.map nA),.mp 0 0] [mR K] (.ol 1 0 (h.length+1)) [mR (shS h K h.length).1,idR (shS h K h.length).2 0]:=by
 have hlm:(h.map nA).length=h.length:=by simp
 refine ZR cop16 rfl ?_
 have n0:=mR_nr (K:=K)
 unfold mR
 repeat' ((conv=>whnf);first|(refine SeqP.go ?_)|((refine ObN.mk ?_ ?_);exact zN)|((with_reducible refine ObI.nl ?_ ?_);omega)|((with_reducible refine (?_:ObL _ _));(refine ObL.mk _ (by first|exact hlm|assumption|exact (List.length_map _).trans (by assumption)|exact List.length_map _|rfl) ?_))|((with_reducible refine (?_:ObU _ _));(refine ObU.mk _ zU ?_)))
 conv=>whnf
 have e0:List.replicate (h.length+1) (AV.v (.int .i64 0))=(List.replicate (h.length+1) 0).map (fun n:Nat=>I (n:Int)):=by simp
 refine LoopP.go (α:=Nat) (fun i=>i<=h.length) (fun i=>h.length - i) (fun i=>[(6,none),(0,none),(0,none),(6,some (I (i:Nat))),(0,none),(0,none),(0,none),(0,none),(0,none),(0,none),(0,none),(0,none),(0,none),(0,none),(0,none),(0,none),(0,none),(0,none),(0,none),(0,none),(0,none),(0,none),(0,none),(0,none),(0,none),(0,none),(0,none),(0,none)]) (fun i=>[mR (shS h K i).1,idR (shS h K i).2 0]) 0 (Nat.zero_le _) (Fg.go ?_ ?_) ?_
 ·repeat' ((conv=>whnf);first|((refine ObEqs.mk ?_ ?_);rfl)|((with_reducible refine ObEq1.i ?_ ?_);exact zF)|exact True.intro)
 ·simp only [shS,mR,idR,<- e0,Int.toNat_natCast]
 intro i hi
 have iv:=shI okh (K:=K) hi
 have il:=Y4 (h:=h) (K:=K) (i:=i)
 have m1:=mR_nr (K:=(shS h K i).1)
 have m2:=nr_id (shS h K i).2
 by_cases hil:i < h.length
 ·have q := wT hil
  have ox:=hx _ (List.getElem_mem hil)
  have ss:=shS_succ (K:=K) hil
  have c:=dX30 G hI (shS h K i).2 (by omega) (fun n hn=>by have:=iv.n n hn;have:=iv.b;omega) h[i] ox i (okh i hil) (by omega) (hsz _ (List.getElem_mem hil))
  have ib:=iv.b
  have m3:=mR_nr (K:=(shS h K (i+1)).1)
  have m4:=nr_id (shS h K (i+1)).2
  rw [ss] at m3 m4
  rw [il] at c
  generalize shS h K i=s at *
  obtain ⟨K1,ids⟩:=s
  obtain ⟨z,tt,oo,bb,nn⟩:=iv
  clear tt oo nn z
  dsimp only at *
  simp only [nxt] at m3 m4 ss
  generalize h[i]=x at *
  by_cases hin:dX x ids ∈ K1
  ·have hk := lk_yes hin
   have ea:add K1 (dX x ids)=K1:=by unfold add;rw [if_pos hin]
   rw [ea] at m3 m4 ss
   have hid:¬ (((idx K1 (dX x ids):Nat):Int)=0):=by unfold idx;omega
   generalize dX x ids=T at *
   have st:(ids.map (fun n:Nat=>I (n:Int))).set (i+1) (I ((idx K1 T:Nat):Int))=(ids.set (i+1) (idx K1 T)).map (fun n:Nat=>I (n:Int)):=by rw [List.map_set]
   generalize idx K1 T=v at *
   have lid:(ids.map (fun n:Nat=>I (n:Int))).length=h.length+1:=by rw [List.length_map];exact il
   unfold mR idR at *
   repeat' ((conv=>whnf);first|(refine SeqP.go ?_)|((refine ObD.mk ?_ ?_);exact zD)|((refine ObN.mk ?_ ?_);exact zN)|(with_reducible first|refine ObT.tt ?_|refine ObT.ff ?_)|((refine ObB.yes ?_ ?_);exact zB)|((refine ObB.no ?_ ?_);exact zC)|((with_reducible refine ObI.nl ?_ ?_);omega)|((refine ObX.mk _ rfl ?_ ?_);exact zX)|((with_reducible refine (?_:ObU _ _));(refine ObU.mk _ zq5 ?_))|((with_reducible refine (?_:ObR _ _ _));(first|(refine ObR.mk _ (by assumption) ?_)|(refine ObR.mk _ (by exact q) ?_)|(refine ObR.mk _ yy ?_)|(refine ObR.map zX (fun x hx=>?_))|(refine ObR.mk _ rfl ?_)))|((refine ObH.f 30 ?_);refine ObH.frn _ Yy [(0,1,0)] (c) (by simp) rfl (by simp) ?_)|((with_reducible refine ObRow.same ?_ ?_ ?_);exact zE;(focus (first|rfl|assumption|(simp;done))))|((with_reducible refine ObAs.mk ?_ ?_);(focus (first|rfl|(simp [rnB,rnC,rnL];done))))|((with_reducible refine (?_:ObRs _ _ _));(refine ObRs.mk _ rfl ?_))|((with_reducible refine ObBk.same ?_ ?_);(focus (first|rfl|assumption|(simp;done))))|((with_reducible refine (?_:ObK _ _));(refine ObK.mk _ (hk) ?_)))
   all_goals conv=>whnf
   all_goals refine Again.mk (i+1) (by omega) (by omega) ?_
   all_goals simp only [ss]
   all_goals refine Fg.vw [(0,0,0),(0,1,0)] ?_ ?_ (by simp) ?_
   all_goals repeat' ((conv=>whnf);first|((refine ObN.mk ?_ ?_);exact zN)|((with_reducible refine ObO.l ?_);(refine ObN.mk ?_ ?_);(exact zq20))|((with_reducible refine ObRn.mk ?_ ?_);(focus (first|rfl|(simp [rnB,rnC,rnL];done))))|((with_reducible refine ObRow.same ?_ ?_ ?_);exact zE;(focus (first|rfl|assumption|(simp;done))))|((refine ObEqs.mk ?_ ?_);rfl)|exact True.intro)
  ·have hk := lk_no hin
   have ea:add K1 (dX x ids)=K1++[dX x ids]:=by unfold add;rw [if_neg hin]
   have hv:=idx_new hin
   rw [hv,ea] at ss
   rw [ea] at m3
   rw [hv] at m4
   have hu:=up_m hin
   have hk2:=lk_yes (K:=K1++[dX x ids]) (t:=dX x ids) (by simp)
   rw [<- ea,hv,ea] at hk2
   generalize dX x ids=T at *
   have st:(ids.map (fun n:Nat=>I (n:Int))).set (i+1) (I (((List.length K1+1:Nat)):Int))=(ids.set (i+1) (List.length K1+1)).map (fun n:Nat=>I (n:Int)):=by rw [List.map_set]
   have lid:(ids.map (fun n:Nat=>I (n:Int))).length=h.length+1:=by rw [List.length_map];exact il
   have lme:=mE_len (K:=K1) (n:=0)
   unfold mR idR at *
   repeat' ((conv=>whnf);first|(refine SeqP.go ?_)|((refine ObD.mk ?_ ?_);exact zD)|((refine ObN.mk ?_ ?_);exact zN)|(refine ObT.tt ?_)|((refine ObB.yes ?_ ?_);exact zB)|((with_reducible refine ObI.nl ?_ ?_);omega)|((refine ObX.mk _ rfl ?_ ?_);exact zX)|((with_reducible refine (?_:ObL _ _));(refine ObL.mk _ (by first|exact hlm|exact lid|exact lme|assumption|exact (List.length_map _).trans (by assumption)|exact List.length_map _|rfl) ?_))|((with_reducible refine (?_:ObU _ _));(refine ObU.mk _ zq5 ?_))|((with_reducible refine (?_:ObR _ _ _));(first|(refine ObR.mk _ (by assumption) ?_)|(refine ObR.mk _ (by exact q) ?_)|(refine ObR.mk _ yy ?_)|(refine ObR.map zX (fun x hx=>?_))|(refine ObR.mk _ rfl ?_)))|((refine ObH.f 30 ?_);refine ObH.frn _ Yy [(0,1,0)] (c) (by simp) rfl (by simp) ?_)|((with_reducible refine ObRow.same ?_ ?_ ?_);exact zE;(focus (first|rfl|assumption|(simp;done))))|((with_reducible refine ObAs.mk ?_ ?_);(focus (first|rfl|(simp [rnB,rnC,rnL];done))))|((with_reducible refine (?_:ObRs _ _ _));(refine ObRs.mk _ rfl ?_))|((with_reducible refine ObBk.same ?_ ?_);(focus (first|rfl|assumption|(simp;done))))|((with_reducible refine (?_:ObK _ _));(refine ObK.mk _ (hk) ?_))|((with_reducible refine (?_:ObK _ _));(refine ObK.mk _ (hk2) ?_))|((with_reducible refine (?_:ObK2 _ _));(refine ObK2.mk _ (hu) ?_)))
   all_goals conv=>whnf
   all_goals refine Again.mk (i+1) (by omega) (by omega) ?_
   all_goals simp only [ss]
   all_goals refine Fg.vw [(0,0,0),(0,1,0)] ?_ ?_ (by simp) ?_
   all_goals repeat' ((conv=>whnf);first|((refine ObN.mk ?_ ?_);exact zN)|((with_reducible refine ObO.l ?_);(refine ObN.mk ?_ ?_);(exact zq20))|((with_reducible refine ObRn.mk ?_ ?_);(focus (first|rfl|(simp [rnB,rnC,rnL];done))))|((with_reducible refine ObRow.same ?_ ?_ ?_);exact zE;(focus (first|rfl|assumption|(simp;done))))|((refine ObEqs.mk ?_ ?_);rfl)|exact True.intro)
 ·obtain rfl : i = h.length := by omega
  unfold mR idR at *
  repeat' ((conv=>whnf);first|(refine SeqP.go ?_)|((refine ObN.mk ?_ ?_);exact zN)|(refine ObT.ff ?_)|((refine ObB.no ?_ ?_);exact zC)|(exact ObEnd.eq rfl rfl))
end
end Go.Proofs.YtfocijljkkfonaaDoor.Sim
namespace Go.Proofs.YtfocijljkkfonaaDoor.Sim
open Go.RowKit
set_option maxRecDepth 100000
def mw (x:Nd):Nat:=max (rfN x).length 1
def ZS:Nat->Nat->List Nd->List Nd
 | 0,_,_=>[]
 | _,_,[]=>[]
 | n+1,w,x::t=>if 3000 < w * mw (Xr x) then [] else Xr x::ZS n (w * mw (Xr x)) t
theorem fewL_at {n w:Nat} {l:List Nd} {i:Nat} (h:i < l.length):ZS (n+1) w (l.drop i)=if 3000 < w * mw (Xr l[i]) then [] else Xr l[i]::ZS n (w * mw (Xr l[i])) (l.drop (i+1)):=by
 rw [List.drop_eq_getElem_cons h,ZS]
theorem fewL_ok:∀ {n w:Nat} {l:List Nd},(∀ x ∈ l,x.Wd)->∀ x ∈ ZS n w l,x.Ok:=by
 intro n
 induction n with
 | zero=>intro w l _ x hx;simp [ZS] at hx
 | succ n ih =>
  intro w l hl x hx
  cases l with
  | nil=>simp [ZS] at hx
  | cons y t =>
   rw [ZS] at hx
   split at hx
   ·cases hx
   ·rcases List.mem_cons.1 hx with h | h
    ·rw [h];exact fewX_ok (hl y (List.mem_cons_self ..))
    ·exact ih (fun z hz=>hl z (List.mem_cons_of_mem _ hz)) x h
theorem fewL_len:∀ {n w:Nat} {l:List Nd},(ZS n w l).length<=n:=by
 intro n
 induction n with
 | zero=>intro w l;simp [ZS]
 | succ n ih =>
  intro w l
  cases l with
  | nil=>simp [ZS]
  | cons y t =>
   rw [ZS];split
   ·simp
   ·have:=@ih (w * mw (Xr y)) t;simp only [List.length_cons];omega
theorem fewL_eq:∀ {n w:Nat} {l:List Nd},(∀ x ∈ l,x.Wd)->ZS n w (ZS n w l)=ZS n w l:=by
 intro n
 induction n with
 | zero=>intro w l _;simp [ZS]
 | succ n ih =>
  intro w l hl
  cases l with
  | nil=>simp [ZS]
  | cons y t =>
   have hy:=fewX_eq (fewX_ok (hl y (List.mem_cons_self ..)))
   rw [ZS]
   by_cases h:3000 < w * mw (Xr y)
   ·simp only [if_pos h,ZS]
   ·simp only [if_neg h]
    rw [ZS,hy,if_neg h,ih (fun z hz=>hl z (List.mem_cons_of_mem _ hz))]
section
variable (G:Nat->AV)
set_option maxHeartbeats 4000000 in
theorem few21 (l:List Nd) (hl:l.length<=9223372036854775807) (hx:∀ x ∈ l,x.Wd):PC Tryd.prog G 5 [.sl 9 (l.map nA)] (.sl 9 ((ZS 12 1 l).map nA)):=by
 refine zf cop5 ?_
 repeat' ((conv=>whnf);first|(refine SeqP.go ?_)|((refine ObD.mk ?_ ?_);exact zD))
 conv=>whnf
 refine LoopP.go (α:=Nat × Nat × List Nd) (fun p=>p.1<=l.length/\p.1<=12/\p.2.1<=3000/\p.2.2.length=p.1/\p.2.2++ZS (12 - p.1) p.2.1 (l.drop p.1)=ZS 12 1 l) (fun p=>l.length - p.1) (fun p=>[(2,some (.nl 9)),(0,some (.ol 0 0 p.2.2.length)),(0,some (I p.2.1)),(0,some (I p.1)),(0,none),(0,none),(0,none),(0,none),(0,none),(0,none),(0,none),(0,none),(0,none),(0,none),(0,none),(0,none),(0,none),(0,none),(0,none),(0,none),(0,none),(0,none),(0,none),(0,none),(0,none),(0,none),(0,none),(0,none),(0,none),(0,none),(0,none),(0,none),(0,none),(0,none)]) (fun p=>[⟨40,9,p.2.2.map nA,0,0⟩]) (0,1,[]) ⟨Nat.zero_le _,Nat.zero_le _,by decide,rfl,rfl⟩ (Fg.go ?_ rfl) ?_
 ·repeat' ((conv=>whnf);first|((refine ObEqs.mk ?_ ?_);rfl)|((with_reducible refine ObEq1.i ?_ ?_);exact zF)|((with_reducible refine ObEq1.mk ?_ ?_);exact zE)|exact True.intro)
 rintro ⟨i,w,o⟩ ⟨hi,hi2,hw,hol,he⟩
 dsimp only at hi hi2 hw hol he ⊢
 have oa:=n_all (l:=o)
 have op:=p_n o
 have r0:=nr_n o
 by_cases hil:i < l.length/\i < 12
 ·obtain ⟨hil, hil2⟩ := hil
  have hq:=wT hil
  have hf:=few9 G l[i] (hx _ (List.getElem_mem hil))
  have hok:=fewX_ok (hx _ (List.getElem_mem hil))
  have hat:=fewL_at (n:=11 - i) (w:=w) hil
  rw [show 11 - i+1=12 - i by omega] at hat
  rw [hat] at he
  clear hat
  generalize Xr l[i]=y at *
  generalize l[i]=x at *
  have hrf:=refs32 G y hok
  have hrl:=rf_len hok
  have hmx:(if ((rfN y).length:Int) < 1 then (1:Int) else ((rfN y).length:Int))=((mw y:Nat):Int):=by unfold mw;split<;>omega
  have hml:mw y<=41:=by unfold mw;omega
  obtain ⟨W',hW⟩:∃ W':Nat,W'=w * mw y:=⟨_,rfl⟩
  rw [<- hW] at he
  have hWi:(w:Int) * (mw y:Int)=(W':Int):=by rw [hW];simp
  have hWl:W'<=123000:=by rw [hW];exact Nat.mul_le_mul hw hml
  have r1:=nr_n (o++[y])
  have us:(o.map nA).take o.length++[nA y]=(o++[y]).map nA:=n_snoc (l:=o)
  by_cases hz:3000 < W'
  ·rw [if_pos hz, List.append_nil] at he
   rw [<- he]
   repeat' ((conv=>whnf);first|(with_reducible first|refine SeqP.go ?_|refine ObZ.mk _ hmx ?_)|(rw [hWi])|((refine ObD.mk ?_ ?_);exact zD)|((refine ObN.mk ?_ ?_);exact zN)|(refine ObT.tt ?_)|((refine ObB.yes ?_ ?_);exact zB)|((with_reducible refine ObI.mk _ rfl ?_ ?_ ?_);omega;omega)|((refine ObX.mk _ rfl ?_ ?_);exact zX)|((with_reducible refine (?_:ObL _ _));(refine ObL.mk _ zM ?_))|((with_reducible refine (?_:ObU _ _));(refine ObU.mk _ zq1 ?_))|((with_reducible refine (?_:ObR _ _ _));(first|(refine ObR.mk _ zA ?_)|(refine ObR.map zX (fun x hx=>?_))|(refine ObR.mk _ rfl ?_)))|((refine ObC.f 13 ?_);(refine ObC.mk _ (hf) ?_))|((refine ObC.f 14 ?_);(refine ObC.mk _ (hrf) ?_))|((refine ObEq.mk ?_);exact zE)|(with_reducible refine ObE.max ?_))
  ·rw [if_neg hz] at he
   repeat' ((conv=>whnf);first|(with_reducible first|refine SeqP.go ?_|refine ObZ.mk _ hmx ?_)|(rw [hWi])|((refine ObD.mk ?_ ?_);exact zD)|((refine ObN.mk ?_ ?_);exact zN)|(with_reducible first|refine ObT.tt ?_|refine ObT.ff ?_)|((refine ObB.yes ?_ ?_);exact zB)|((refine ObB.no ?_ ?_);exact zC)|((with_reducible refine ObI.nl ?_ ?_);omega)|((with_reducible refine ObI.mk _ rfl ?_ ?_ ?_);omega;omega)|((refine ObX.mk _ rfl ?_ ?_);exact zX)|((with_reducible refine (?_:ObL _ _));(refine ObL.mk _ zM ?_))|((with_reducible refine (?_:ObU _ _));(refine ObU.mk _ zq1 ?_))|((with_reducible refine (?_:ObR _ _ _));(first|(refine ObR.mk _ zA ?_)|(refine ObR.map zX (fun x hx=>?_))|(refine ObR.mk _ rfl ?_)))|((refine ObC.f 13 ?_);(refine ObC.mk _ (hf) ?_))|((refine ObC.f 14 ?_);(refine ObC.mk _ (hrf) ?_))|(with_reducible refine ObE.max ?_))
   conv=>whnf
   refine Again.mk (i+1,W',o++[y]) ⟨by dsimp only;omega,by dsimp only;omega,by dsimp only;omega,by simp [hol],by dsimp only;rw [List.append_assoc,<- he,show 12 - (i+1)=11 - i by omega];rfl⟩ ?_ (Fg.vw [(0,0,1)] ?_ ?_ (by simp) ?_)
   ·dsimp only;omega
   all_goals repeat' ((conv=>whnf);first|((refine ObN.mk ?_ ?_);exact zN)|((with_reducible refine ObRn.mk ?_ ?_);(focus (first|rfl|(simp [rnB,rnC,rnL];done))))|((with_reducible refine ObRow.same ?_ ?_ ?_);exact zE;(focus (first|rfl|assumption|(simp;done))))|((refine ObEqs.mk ?_ ?_);rfl)|exact True.intro)
 ·have h0 : ZS (12 - i) w (l.drop i) = [] := by
   rcases Nat.lt_or_ge i l.length with h|h
   ·rw [show 12 - i=0 by omega,ZS]
   ·rw [List.drop_eq_nil_of_le h];cases 12 - i<;>rfl
  rw [h0,List.append_nil] at he
  rw [<- he]
  have hor:i=l.length\/(i < l.length/\i=12):=by omega
  rcases hor with hor|⟨hor,hor2⟩
  ·repeat' ((conv=>whnf);first|(refine SeqP.go ?_)|((refine ObN.mk ?_ ?_);exact zN)|(refine ObT.ff ?_)|((refine ObB.no ?_ ?_);exact zC)|((with_reducible refine (?_:ObL _ _));(refine ObL.mk _ zM ?_))|((with_reducible refine (?_:ObU _ _));(refine ObU.mk _ zq6 ?_))|((refine ObEq.mk ?_);exact zE))
  ·repeat' ((conv=>whnf);first|(refine SeqP.go ?_)|((refine ObN.mk ?_ ?_);exact zN)|(with_reducible first|refine ObT.tt ?_|refine ObT.ff ?_)|((refine ObB.yes ?_ ?_);exact zB)|((refine ObB.no ?_ ?_);exact zC)|((with_reducible refine (?_:ObL _ _));(refine ObL.mk _ zM ?_))|((with_reducible refine (?_:ObU _ _));(refine ObU.mk _ zq6 ?_))|((refine ObEq.mk ?_);exact zE))
end
abbrev NdS:={x:Nd // x.Wd/\i64 x.sz}
def ndC (x:NdS):List AV:=[I x.1.kn,S x.1.ke,S x.1.va,.v (.int .u32 (x.1.mp:Int)),.sl 1 (x.1.kk.map iA),I x.1.mn,.sl 2 (x.1.ls.map pA),I x.1.sz,I x.1.bi]
theorem nd_inv {cs:List AV} (h:ShC Tryd.prog 40 cs):∃ x:NdS,cs=ndC x:=by
 have i1:(Tryd.prog).underlying 3=some (.int .i64):=by kernel_rfl
 have i2:(Tryd.prog).underlying 25=some (.int .i64):=by kernel_rfl
 have e1:Zx Tryd.prog 25=false:=by kernel_rfl
 have e2:Zx Tryd.prog 62=true:=by kernel_rfl
 have e3:(Tryd.prog).cellsOf 25=1:=by kernel_rfl
 have e4:(Tryd.prog).cellsOf 62=2:=by kernel_rfl
 obtain ⟨p0,q,rfl,hp0,h⟩:=(h.flds (ts:=[3,9,9,37,38,25,30,3,3]) (by kernel_rfl)).cons
 obtain ⟨p1,q,rfl,hp1,h⟩:=h.cons
 obtain ⟨p2,q,rfl,hp2,h⟩:=h.cons
 obtain ⟨p3,q,rfl,hp3,h⟩:=h.cons
 obtain ⟨p4,q,rfl,hp4,h⟩:=h.cons
 obtain ⟨p5,q,rfl,hp5,h⟩:=h.cons
 obtain ⟨p6,q,rfl,hp6,h⟩:=h.cons
 obtain ⟨p7,q,rfl,hp7,h⟩:=h.cons
 obtain ⟨p8,q,rfl,hp8,h⟩:=h.cons
 obtain rfl:=h.nil
 obtain ⟨kn,rfl,_⟩:=hp0.i64_inv i1
 obtain ⟨ke,rfl,hke⟩:=hp1.str_inv X2
 obtain ⟨va,rfl,hva⟩:=hp2.str_inv X2
 obtain ⟨mp0,rfl,hm0,hm1⟩:=hp3.u32_inv (by kernel_rfl)
 obtain ⟨mp,rfl⟩:=Int.eq_ofNat_of_zero_le hm0
 obtain ⟨css,rfl,hk,hkk⟩:=hp4.slice_inv (e:=25) (by kernel_rfl)
 obtain ⟨kk,rfl⟩:=Y6 (f:=fun n:i64S=>[I n.1]) (fun cs h=>by obtain ⟨n,e,h1,h2⟩:=h.i64_inv i2;exact ⟨⟨n,h1,h2⟩,e⟩) css hkk
 obtain ⟨mn,rfl,hmn⟩:=hp5.i64_inv i2
 obtain ⟨dss,rfl,hl,hll⟩:=hp6.slice_inv (e:=62) (by kernel_rfl)
 obtain ⟨ls,rfl⟩:=Y6 (f:=pC) (fun cs h=>pair_inv h) dss hll
 obtain ⟨sz,rfl,hz1,hz2⟩:=hp7.i64_inv i1
 obtain ⟨bi,rfl,_⟩:=hp8.i64_inv i1
 have g1:(List.map (fun n:i64S=>[I n.1]) kk).map (mkE (Zx Tryd.prog 25))=(kk.map Subtype.val).map iA:=by rw [e1,List.map_map,List.map_map];rfl
 have g2:(List.map pC ls).map (mkE (Zx Tryd.prog 62))=(ls.map Subtype.val).map pA:=by rw [e2,List.map_map,List.map_map];rfl
 refine ⟨⟨⟨kn,ke,va,mp,kk.map Subtype.val,mn,ls.map Subtype.val,sz,bi⟩,⟨⟨by show mp < 4294967296;omega,hke,hva,by simpa using hk,by simpa using hl,fun p hp=>by obtain ⟨q,_,rfl⟩:=List.mem_map.1 hp;exact q.2,hmn,fun r hr=>by obtain ⟨q,_,rfl⟩:=List.mem_map.1 hr;exact q.2⟩,hz1,hz2⟩⟩,?_⟩
 rw [g1,g2,e3,e4];rfl
theorem heap_inv {cs:List AV} (h:ShC Tryd.prog 22 cs):∃ l:List Nd,mkE false cs = .sl 9 (l.map nA)/\l.length<=9223372036854775807/\∀ x ∈ l,x.Wd/\i64 x.sz:=by
 have e2:Zx Tryd.prog 40=true:=by kernel_rfl
 have e4:(Tryd.prog).cellsOf 40=9:=by kernel_rfl
 obtain ⟨nss,rfl,hn,hnn⟩:=h.slice_inv (e:=40) (by kernel_rfl)
 obtain ⟨l,rfl⟩:=Y6 (f:=ndC) (fun cs h=>nd_inv h) nss hnn
 have g2:(List.map ndC l).map (mkE (Zx Tryd.prog 40))=(l.map Subtype.val).map nA:=by rw [e2,List.map_map,List.map_map];rfl
 refine ⟨l.map Subtype.val,by rw [g2,e4];rfl,by simpa using hn,fun x hx=>?_⟩
 obtain ⟨q,_,rfl⟩:=List.mem_map.1 hx
 exact q.2
theorem int_inv {cs:List AV} (h:ShC Tryd.prog 3 cs):∃ n:Int,mkE false cs=I n/\i64 n:=by
 obtain ⟨n,rfl,h1,h2⟩:=h.i64_inv (by kernel_rfl)
 exact ⟨n,rfl,h1,h2⟩
section
variable (G:Nat->AV)
theorem few5 (h:List Nd) (hl:h.length<=9223372036854775807) (hx:∀ x ∈ h,x.Wd):PC Tryd.prog G 5 [.sl 9 (h.map nA)] (.sl 9 ((ZS 12 1 h).map nA)):=few21 G h hl hx
theorem few5b (h:List Nd) (hl:h.length<=9223372036854775807) (hx:∀ x ∈ h,x.Wd):PC Tryd.prog G 5 [.sl 9 ((ZS 12 1 h).map nA)] (.sl 9 ((ZS 12 1 h).map nA)):=by
 have h1:=few21 G (ZS 12 1 h) (by have:=@fewL_len 12 1 h;omega) (fun x hx2=>(fewL_ok hx x hx2).wd)
 rwa [fewL_eq hx] at h1
end
abbrev Fl (lo:Nat):Fence:=Fence.wide.inRound lo
theorem op_in {lo n:Nat} {P:Program} {o:Oper} {a:Act} {w:World} {K:Act->World->Prop} {Q:Exit->Act->World->Prop} (hd:∀ c,o.op ≠ .defer c) (h:o.wp P a w K (fun _ _ _=>False)):o.wpIn (Fl lo) n P a w K Q:=by
 unfold Oper.wp at h
 refine ⟨fun _ _=>trivial,?_⟩
 show o.uponIn (Fl lo) n P a K Q ((o.semAt (some lo) a.eval).run P w)
 rw [Oper.semAt_eq _ _ _ hd]
 generalize (execOp a.eval o).run P w=r at h
 cases r with
 | ok nx w' =>
  cases nx with
  | value v=>exact h
  | skip=>exact h
  | defer d=>exact h
  | enter f args =>
   refine ⟨fun hh=>(by cases hh),?_⟩
   have h2:CallsIn (Fl lo) (n - 1) P f args w' _:=callsIn_wide.2 h
   refine h2.mono fun e w'' he=>?_
   cases e with
   | returned v=>exact he
   | panicked c=>exact he.elim
   | outgrown=>obtain ⟨_,_,hh⟩:=he;exact hh.elim
  | row row args=>exact ⟨fun hh=>(by cases hh),fun c cs _=>let ⟨v,w',r,s⟩:=h c cs;⟨v,w',r,stepsIn_wide.2 s⟩⟩
  | _=>exact h.elim
 | halt hl w'=>cases hl<;>exact h.elim
theorem nodefer {P:Program} {G:Nat->AV} {hs:List FuncId} {ops:Array Oper} {o:Oper} {ev:AX->AV} {H:Hp} {d:Option Nat} {k:AV->Hp->Prop} (h:yS P G ev H (xV ops d (ZZ P hs o)) k):∀ c,o.op ≠ .defer c:=by
 intro c hc
 have h1:ZZ P hs o = .bad:=by unfold ZZ zZ;simp [hc]
 rw [h1] at h
 exact h
theorem nodefer_nx {P:Program} {hs:List FuncId} {ops:Array Oper} {o:Oper} {d:Option Nat} {x:AX} (h:xV ops d (ZZ P hs o) = .nxm x):∀ c,o.op ≠ .defer c:=by
 intro c hc
 have h1:ZZ P hs o = .bad:=by unfold ZZ zZ;simp [hc]
 rw [h1] at h
 simp [xV,convF] at h
section
variable {P:Program} {b:Frame} {a:Act} {k:List Item} {cs:List Frame} {w:World} {c:Code}
theorem ya:step P (lone (b.atR a (.code (.scope c)::k)) cs w) = .next (lone (b.atR a (.code c :: .inScope c::k)) cs w) :=
 step_lone_go (by simp [stepG,stepG.exec,Frame.atR])
theorem stepR_inScope:step P (lone (b.atR a (.inScope c::k)) cs w) = .next (lone (b.atR a k) cs w) :=
 step_lone_go (by simp [stepG,stepG.exec,Frame.atR])
end
theorem wpIn_scope_straight {F:Fence} {n:Nat} {P:Program} {Q:Exit->Act->World->Prop} {a:Act} {w:World} {c:Code} (h:c.wpIn F n P (Exit.noGoto Q) a w):(Code.scope c).wpIn F n P Q a w:=by
 intro b k cs hro hb hr
 have h0:(lone (b.atR a (.code (.scope c)::k)) cs w).fenced P F:=fenced_calm hb hr rfl
 obtain ⟨e,a₁,w₁,hq,harr⟩:=h b (.inScope c::k) cs hro hb hr
 cases e with
 | normal=>exact ⟨.normal,a₁,w₁,hq,.head h0 ya (StepsIn.trans harr (.one (fenced_calm hb hr rfl) stepR_inScope))⟩
 | exit id=>exact ⟨.exit id,a₁,w₁,hq,fun k' hk=>.head h0 ya (harr.1 k' (by simp [exitTo,hk])),fun hr' hk=>let ⟨k₁,h1,h2⟩:=harr.2 hr' (by simp [exitTo,hk]);⟨k₁,h1,.head h0 ya h2⟩⟩
 | goto l=>exact hq.elim
 | ret=>exact ⟨_,a₁,w₁,hq,.of_steps (.one h0 ya) harr⟩
 | panic ch=>exact ⟨_,a₁,w₁,hq,.of_steps (.one h0 ya) harr⟩
 | outgrown=>exact ⟨_,a₁,w₁,hq,.of_steps (.one h0 ya) harr⟩
section
variable {P:Program} {G:Nat->AV} {hs:List FuncId} {B:Bd} {w0:World} {F0 F1:Fz} {O1:Ow} {lo n:Nat}
theorem AWi_okIn {ops : Array Oper} {i : Nat} {o : Oper} {ai : AI} (hi : ops[i]? = some o) (hc : wL P hs ops o = some ai) {st : St} {a : Act} {w : World} {F : Fz} {O : Ow} (h : Rl G B w0 F0 F1 O1 F O st a w) {k : St -> Prop} (hk : AWi P G ai st k)
  {K:Act->World->Prop} {Q:Exit->Act->World->Prop} (hK:∀ st' a' w' F' O',k st'->Rl G B w0 F0 F1 O1 F' O' st' a' w'->K a' w'):wpOpIn (Fl lo) n P ops Q i K a w:=by
 unfold wpOpIn
 simp only [hi]
 simp only [wL] at hc
 split at hc
 ·rename_i hg
  cases hc
  have hw:Region.wanted o (yielded ops a.tmps)=true:=by unfold Region.wanted;rw [hg]
  simp only [hw,if_true]
  simp only [AWi] at hk
  exact op_in (nodefer hk) (x9 (hs:=hs) (Q:=fun _ _ _=>False) h hk fun r H' x w' hkr hout=>by
   obtain ⟨F',O',h'⟩:=h.put (d:=o.dst) hout
   exact hK _ _ _ F' O' hkr h')
 ·rename_i j want hg
  split at hc
  ·rename_i t ht
   cases hc
   simp only [AWi] at hk
   split at hk
   ·rename_i b hb
    have hy:yielded ops a.tmps j=some b:=by
     unfold yielded
     rw [ht]
     simp only [Option.bind_some,h.guard hb]
    by_cases hbw:b=want
    ·rw [if_pos hbw] at hk
     have hw:Region.wanted o (yielded ops a.tmps)=true:=by unfold Region.wanted;rw [hg];simp [hy,hbw]
     simp only [hw,if_true]
     exact op_in (nodefer hk) (x9 (hs:=hs) (Q:=fun _ _ _=>False) h hk fun r H' x w' hkr hout=>by
      obtain ⟨F',O',h'⟩:=h.put (d:=o.dst) hout
      exact hK _ _ _ F' O' hkr h')
    ·rw [if_neg hbw] at hk
     have hw:Region.wanted o (yielded ops a.tmps)=false:=by unfold Region.wanted;rw [hg];simp [hy,hbw]
     simp only [hw,Bool.false_eq_true,if_false]
     obtain ⟨F',O',h'⟩:=h.put (d:=o.dst) (r:=zd) (x:=undef) (Out.same h.own yE)
     exact ⟨fun _ _=>trivial,hK _ _ _ F' O' hk h'⟩
   ·rename_i hb
    have hu:=h.guardU hb
    have hy:yielded ops a.tmps j=none:=by
     unfold yielded
     rw [ht]
     simp only [Option.bind_some]
     rw [Array.getD_eq_getD_getElem?] at hu
     cases hq:a.tmps[t]? with
     | none=>rfl
     | some q=>rw [hq] at hu;simp only [Option.getD_some] at hu;subst hu;rfl
    have hw:Region.wanted o (yielded ops a.tmps)=false:=by unfold Region.wanted;rw [hg];simp [hy]
    simp only [hw,Bool.false_eq_true,if_false]
    obtain ⟨F',O',h'⟩:=h.put (d:=o.dst) (r:=zd) (x:=undef) (Out.same h.own yE)
    exact ⟨fun _ _=>trivial,hK _ _ _ F' O' hk h'⟩
   ·exact hk.elim
  ·cases hc
theorem xZ {ops : Array Oper} {Q : Exit -> Act -> World -> Prop} {k : St -> Prop} (hK : ∀ st' a' w' F' O', k st' -> Rl G B w0 F0 F1 O1 F' O' st' a' w' -> Q .normal a' w') :
  ∀ (l:List Nat) (as_:List AI),l.length=as_.length->(∀ (j i:Nat) (ai:AI),l[j]? = some i->as_[j]? = some ai->∃ o,ops[i]? = some o/\wL P hs ops o=some ai) ->
  ∀ (st:St) (a:Act) (w:World) (F:Fz) (O:Ow),AWs P G as_ k st->Rl G B w0 F0 F1 O1 F O st a w->wpOpsIn (Fl lo) n P ops Q l a w
 | [],[],_,_,st,a,w,F,O,hk,h=>hK st a w F O hk h
 | [],_::_,hl,_,_,_,_,_,_,_,_=>by simp at hl
 | _::_,[],hl,_,_,_,_,_,_,_,_=>by simp at hl
 | i::l,ai::as_,hl,hop,st,a,w,F,O,hk,h=>by
  rw [wpOpsIn_cons]
  obtain ⟨o,ho,hc⟩:=hop 0 i ai rfl rfl
  simp only [AWs] at hk
  exact AWi_okIn ho hc h hk fun st' a' w' F' O' hk' h'=>xZ hK l as_ (by simpa using hl) (fun j i ai hj ha=>hop (j+1) i ai hj ha) st' a' w' F' O' hk' h'
theorem region_textIn {ops : Array Oper} {id : Nat} {as_ : List AI} (hc : xm P hs ops ops.toList = some as_) {Q : Exit -> Act -> World -> Prop} {k : St -> Prop} (hK : ∀ st' a' w' F' O', k st' -> Rl G B w0 F0 F1 O1 F' O' st' a' w' -> Q .normal a' w')
  {st:St} {a:Act} {w:World} {F:Fz} {O:Ow} (hk:AWs P G as_ k st) (h:Rl G B w0 F0 F1 O1 F O st a w):(Code.region id ops false).wpIn (Fl lo) n P Q a w:=by
 obtain ⟨q1,q2⟩:=ZP hc
 refine wpIn_region (xZ (hs:=hs) hK (List.range ops.size) as_ (by simpa using q1) (fun j i ai hj ha=>?_) st a w F O hk h)
 have hjl:j < ops.size:=by have:=(List.getElem?_eq_some_iff.1 hj).1;simpa using this
 rw [List.getElem?_range hjl] at hj
 cases hj
 exact ⟨ops[j],Array.getElem?_eq_getElem hjl,q2 j _ ai (by simp [hjl]) ha⟩
theorem region_textxIn {ops : Array Oper} {id : Nat} {as_ : List AI} (hc : xm P hs ops ops.toList = some as_) {Q : Exit -> Act -> World -> Prop} {k : St -> Prop} (hK : ∀ st' a' w' F' O', k st' -> Rl G B w0 F0 F1 O1 F' O' st' a' w' -> Q .normal a' w')
  {st:St} {a:Act} {w:World} {F:Fz} {O:Ow} (hk:AWx P G as_ k st) (h:Rl G B w0 F0 F1 O1 F O st a w):(Code.region id ops false).wpIn (Fl lo) n P Q a w:=by
 unfold AWx at hk
 split at hk
 ·rename_i _ _ d x os
  obtain ⟨l,hl,hp⟩:=hk
  obtain ⟨q1,q2⟩:=ZP hc
  have hn:ops.size=os.length+1:=by simpa using q1
  refine wpIn_region ?_
  rw [hn,List.range_succ_eq_map,wpOpsIn_cons]
  have hi:ops[0]? = some (ops[0]'(by omega)):=Array.getElem?_eq_getElem (by omega)
  have hc0:=q2 0 (ops[0]'(by omega)) ⟨d,.nxm x,none⟩ (by rw [Array.getElem?_toList];exact hi) rfl
  generalize ops[0]'(by omega)=o at hi hc0
  unfold wpOpIn
  simp only [hi]
  simp only [wL] at hc0
  split at hc0
  ·rename_i hg
   injection hc0 with hc0
   injection hc0 with e1 e2 e3
   have hw:Region.wanted o (yielded ops a.tmps)=true:=by unfold Region.wanted;rw [hg]
   simp only [hw,if_true]
   refine op_in (nodefer_nx e2) (AWop_nx (hs:=hs) (Q:=fun _ _ _=>False) e2 h hl fun p hpm v w' hout=>?_)
   obtain ⟨F',O',h'⟩:=h.put (d:=o.dst) hout
   rw [e1] at h'
   refine xZ (hs:=hs) hK _ os (by simp) (fun j i ai hj ha=>?_) _ _ _ F' O' (hp p hpm) (by rw [e1];exact h')
   have hjl:j < os.length:=(List.getElem?_eq_some_iff.1 ha).1
   rw [List.getElem?_map,List.getElem?_range hjl] at hj
   cases hj
   exact ⟨ops[j+1]'(by omega),Array.getElem?_eq_getElem (by omega),q2 (j+1) _ ai (by rw [Array.getElem?_toList];exact Array.getElem?_eq_getElem (by omega)) (by simpa using ha)⟩
  ·split at hc0
   ·injection hc0 with hc0
    injection hc0 with e1 e2 e3
    cases e3
   ·cases hc0
 ·exact region_textIn hc hK hk h
theorem region_drawIn {ops : Array Oper} {id : Nat} {as_ : List AI} (hc : xm P hs ops ops.toList = some as_) {Q : Exit -> Act -> World -> Prop} {k : St -> Prop} (hK : ∀ st' a' w' F' O', k st' -> Rl G B w0 F0 F1 O1 F' O' st' a' w' -> Q .normal a' w')
  {st:St} {a:Act} {w:World} {F:Fz} {O:Ow} (hk:∀ t,∃ bs:List AI,bs.length=(Region.schedule (P.follows .mixedOrders) ops t).length/\(∀ (j i:Nat) (ai:AI),(Region.schedule (P.follows .mixedOrders) ops t)[j]? = some i->bs[j]? = some ai->as_[i]? = some ai)/\AWs P G bs k st)
  (h:Rl G B w0 F0 F1 O1 F O st a w):(Code.region id ops true).wpIn (Fl lo) n P Q a w:=by
 obtain ⟨q1,q2⟩:=ZP hc
 refine wpIn_region_draw fun t=>?_
 obtain ⟨bs,b1,b2,b3⟩:=hk t
 refine xZ (hs:=hs) hK _ bs b1.symm (fun j i ai hj ha=>?_) st a _ F O b3 h.drew
 have hai:=b2 j i ai hj ha
 have hil:i < ops.size:=by have:=(List.getElem?_eq_some_iff.1 hai).1;rw [<- q1] at this;simpa using this
 exact ⟨ops[i],Array.getElem?_eq_getElem hil,q2 i _ ai (by simp [hil]) hai⟩
end
section
variable {P:Program} {G:Nat->AV} {hs:List FuncId} {B:Bd} {w0:World} {F0 F1:Fz} {O1:Ow} {m lo n:Nat}
theorem V_okIn (hm : O1.length <= m) : ∀ (c : Code) (ac : AC), ZN P hs c = some ac -> ∀ (Q : EX -> St -> Prop) (Q' : Exit -> Act -> World -> Prop) (st : St) (a : Act) (w : World) (F : Fz) (O : Ow), V P G m ac Q st -> Rl G B w0 F0 F1 O1 F O st a w ->
  (∀ e st' a' w' F' O',Q e st'->Rl G B w0 F0 F1 O1 F' O' st' a' w'->Q' e.out a' w')->c.wpIn (Fl lo) n P Q' a w:=by
 intro c
 induction c with
 | skip=>intro ac hc Q Q' st a w F O h hr hQ;cases hc;exact wpIn_skip (hQ .n st a w F O h hr)
 | label l=>intro ac hc Q Q' st a w F O h hr hQ;cases hc;exact wpIn_label (hQ .n st a w F O h hr)
 | region id ops draw =>
  intro ac hc Q Q' st a w F O h hr hQ
  obtain ⟨s,H⟩:=st
  simp only [ZN] at hc
  split at hc
  ·rename_i as_ has
   cases draw with
   | false =>
    cases hc
    exact region_textxIn has (k:=fun st=>Q .n ⟨st.s,st.H⟩) (fun st' a' w' F' O' hk hr'=>hQ .n st' a' w' F' O' hk hr') (vopx_ok P G (k:=fun s' H'=>Q .n ⟨s',H'⟩) h) hr
   | true =>
    simp only [if_true] at hc
    split at hc
    ·rename_i hd
     cases hc
     exact region_drawIn has (k:=fun st=>Q .n ⟨st.s,st.H⟩) (fun st' a' w' F' O' hk hr'=>hQ .n st' a' w' F' O' hk hr') (YZ (ZP has).1 hd (yp P G (k:=fun s' H'=>Q .n ⟨s',H'⟩) h)) hr
    ·split at hc
     ·rename_i hd
      cases hc
      exact region_drawIn has (k:=fun st=>Q .n ⟨st.s,st.H⟩) (fun st' a' w' F' O' hk hr'=>hQ .n st' a' w' F' O' hk hr') (vdx_orders P G (k:=fun s' H'=>Q .n ⟨s',H'⟩) (ZP has).1 hd h) hr
     ·split at hc
      ·cases hc;exact h.elim
      ·cases hc;exact (w6 h).elim
  ·cases hc
 | seq x y ihx ihy =>
  intro ac hc Q Q' st a w F O h hr hQ
  simp only [ZN] at hc
  split at hc
  ·rename_i p q hp hq
   cases hc
   refine wpIn_seq (ihx p hp _ _ st a w F O h hr fun e st' a' w' F' O' he hr'=>?_)
   cases e with
   | n =>
    rcases he with he|⟨st2,hf,he⟩|⟨i,n,cv,he⟩|⟨ss,cv,he⟩|⟨t,i,g,n,h0,hl,he⟩
    ·exact ihy q hq Q Q' st' a' w' F' O' he hr' hQ
    ·obtain ⟨O2, hr2⟩ := hr'.forget hm hf
     exact ihy q hq Q Q' st2 a' w' F' O2 he hr2 hQ
    ·obtain ⟨s', H'⟩ := st'
     obtain ⟨st2,F2,he,hr2⟩:=fzK_ok he hr'
     exact ihy q hq Q Q' st2 a' w' F2 O' he hr2 hQ
    ·obtain ⟨s', H'⟩ := st'
     obtain ⟨st2,he,hr2⟩:=nlK_ok he hr'
     exact ihy q hq Q Q' st2 a' w' F' O' he hr2 hQ
    ·obtain ⟨c, hc, hr2⟩ := ocK_ok h0 hl hr'
     exact ihy q hq Q Q' _ a' w' F' O' (he c hc) hr2 hQ
   | x id=>exact hQ (.x id) st' a' w' F' O' he hr'
   | r=>exact hQ .r st' a' w' F' O' he hr'
  ·cases hc
 | cond c x y ihx ihy =>
  intro ac hc Q Q' st a w F O h hr hQ
  obtain ⟨s,H⟩:=st
  simp only [ZN] at hc
  split at hc
  ·rename_i p q r hp hq hr'
   cases hc
   have ho:=hr.operand 0 c p hp
   simp only [V,Zt] at h
   split at h
   ·rename_i v hv
    split at h
    ·rename_i b
     rw [hv] at ho
     have ho:=ho.pvC rfl
     have e:a.eval c = .bool b:=by generalize a.eval c=q at ho;cases ho;rfl
     obtain ⟨h1,h2⟩:=h
     cases b
     ·exact wpIn_cond_false e (ihy r hr' Q Q' _ a w F O (h2 rfl) hr hQ)
     ·exact wpIn_cond_true e (ihx q hq Q Q' _ a w F O (h1 rfl) hr hQ)
    ·exact h.elim
   ·exact h.elim
  ·cases hc
 | block id c ih =>
  intro ac hc Q Q' st a w F O h hr hQ
  simp only [ZN] at hc
  split at hc
  ·rename_i p hp
   cases hc
   refine wpIn_block (ih p hp _ _ st a w F O h hr fun e st' a' w' F' O' he hr'=>?_)
   cases e with
   | n=>exact hQ .n st' a' w' F' O' he hr'
   | x id' =>
    simp only [yw] at he
    show (if id'=id then Q' .normal a' w' else Q' (.exit id') a' w')
    by_cases hid:id'=id
    ·rw [if_pos hid] at he ⊢;exact hQ .n st' a' w' F' O' he hr'
    ·rw [if_neg hid] at he ⊢;exact hQ (.x id') st' a' w' F' O' he hr'
   | r=>exact hQ .r st' a' w' F' O' he hr'
  ·cases hc
 | loop c ih =>
  intro ac hc Q Q' st a w F O h hr hQ
  simp only [ZN] at hc
  split at hc
  ·rename_i p hp
   cases hc
   obtain ⟨α,J,μ,sc,a0,h0,h1,h2⟩:=h
   have key:∀ (nn:Nat) (x:α) (a:Act) (w:World) (F:Fz) (O:Ow),μ x < nn->J x->Rl G B w0 F0 F1 O1 F O (sc x) a w->Code.roundsIn (Fl lo) n P c Q' nn a w:=by
    intro nn
    induction nn with
    | zero=>intro x a w F O hx;omega
    | succ nn ihn =>
     intro x a w F O hx hJ hr
     rw [roundsIn_succ]
     refine ih p hp _ _ (sc x) a w F O (h2 x hJ) hr fun e st' a' w' F' O' he hr'=>?_
     cases e with
     | n =>
      obtain ⟨x',g1,g2,g3⟩:=he
      obtain ⟨O2,hr2⟩:=hr'.forget hm g3
      exact ihn x' a' w' F' O2 (by omega) g1 hr2
     | x id=>exact hQ (.x id) st' a' w' F' O' he hr'
     | r=>exact hQ .r st' a' w' F' O' he hr'
   obtain ⟨O2,hr2⟩:=hr.forget hm h1
   exact wpIn_loop_rounds (μ a0+1) (key (μ a0+1) a0 a w F O2 (Nat.lt_succ_self _) h0 hr2)
  ·cases hc
 | scope c ih =>
  intro ac hc Q Q' st a w F O h hr hQ
  simp only [ZN] at hc
  split at hc
  ·rename_i p hp
   cases hc
   refine wpIn_scope_straight (ih p hp Q _ st a w F O h hr fun e st' a' w' F' O' he hr'=>?_)
   have:=hQ e st' a' w' F' O' he hr'
   cases e<;>exact this
  ·cases hc
 | exit id=>intro ac hc Q Q' st a w F O h hr hQ;cases hc;exact wpIn_exit (hQ (.x id) st a w F O h hr)
 | ret=>intro ac hc Q Q' st a w F O h hr hQ;cases hc;exact wpIn_ret (hQ .r st a w F O h hr)
 | rangeFunc=>intro ac hc;cases hc
 | goto=>intro ac hc Q Q' st a w F O h;cases hc;exact (w6 h).elim
 | refuse=>intro ac hc Q Q' st a w F O h;cases hc;exact (w6 h).elim
end
def NC (w:World) (b:Nat):Prop:=∃ o,w.heap[b]? = some o/\(match o with|.cells ..=>False|.map ..=>False|.mapIter ..=>False|_=>True)
theorem NC.lt {w:World} {b:Nat} (h:NC w b):b < w.heap.size:=by
 obtain ⟨o,h,_⟩:=h
 rcases Nat.lt_or_ge b w.heap.size with hh|hh
 ·exact hh
 ·rw [Array.getElem?_eq_none hh] at h;cases h
theorem NC.cell {w:World} {b o:Nat} {p v} (h:NC w b) (hc:w.cell? ⟨b,o,p⟩=some v):False:=by
 obtain ⟨ob,h1,h2⟩:=h
 unfold World.cell? at hc
 simp only [h1] at hc
 cases ob<;>simp_all
theorem NC.row {B:Bd} {F:Fz} {O:Ow} {w:World} {d:Ds} {ob:OB} {b:Nat} (h:NC w b) (hr:Row B F O w d ob):d.b ≠ b:=by
 obtain ⟨o,h1,h2⟩:=h
 obtain ⟨cur,hc,_⟩:=hr.cur
 rintro rfl
 rcases hc with ⟨_,hc⟩|⟨_,⟨_,_,_,_,_,hc,_⟩|⟨_,_,_,_,_,hc,_⟩|⟨_,⟨_,_,_,hc⟩,_⟩⟩<;>rw [hc] at h1<;>cases h1<;>exact h2
theorem Row.ok {B B':Bd} {F:Fz} {O:Ow} {w:World} {d:Ds} {ob:OB} (h:Row B F O w d ob) (hb:B'.ok d.b):Row B' F O w d ob:=⟨h.hg,h.hk,hb,h.cur,h.hC,h.hl,h.hn,h.h1,h.hf,h.hz⟩
theorem Own.re {B:Bd} {w0 w:World} {F0 F:Fz} {O:Ow} {H:Hp} (h:Own B w0 F0 F O H w) (K':Nat->Prop) (hK:∀ b,K' b->NC w b) (ds:List Deferred):Own ⟨B.n,fun b=>B.K b\/K' b,ds⟩ w F0 F O H w :=
 ⟨h.len,fun i d ob h1 h2=>have hr:=h.row i d ob h1 h2;hr.ok ⟨hr.hB.1,fun hk=>hk.elim hr.hB.2 fun hk=>(hK _ hk).row hr rfl⟩,h.inj,h.fr,h.le,
  fun b o v hv=>(h.new b o v hv).imp id fun hb=>⟨hb.1,fun hk=>hk.elim hb.2 fun hk=>(hK _ hk).cell (h.fr b o v hv)⟩,Below.refl _ _,h.size,fun _ _=>rfl,
  fun b hk=>hk.elim (fun hk=>Nat.lt_of_lt_of_le (h.kb b hk) h.below.size) fun hk=>(hK b hk).lt⟩
theorem Own.un {B B':Bd} {w0 w w':World} {F0 F F':Fz} {O O':Ow} {H H':Hp} (h0:Own B w0 F0 F O H w) (h:Own B' w F0 F' O' H' w') (hn:B'.n=B.n) (hK:∀ b,B.K b->B'.K b):Own B w0 F0 F' O' H' w' :=
 ⟨h.len,fun i d ob h1 h2=>have hr:=h.row i d ob h1 h2;hr.ok ⟨hn ▸ hr.hB.1,fun hk=>hr.hB.2 (hK _ hk)⟩,h.inj,h.fr,h.le,
  fun b o v hv=>(h.new b o v hv).imp id fun hb=>⟨hn ▸ hb.1,fun hk=>hb.2 (hK _ hk)⟩,h0.below.trans (hn ▸ h.below),hn ▸ h.size,fun b hk=>(h.kept b (hK b hk)).trans (h0.kept b hk),h0.kb⟩
theorem Own.putNC {B:Bd} {w0 w:World} {F0 F:Fz} {O:Ow} {H:Hp} (h:Own B w0 F0 F O H w) {lo:Nat} (o:Obj) (hl:NC w lo) (hn:B.n<=lo) (hk:¬ B.K lo):Own B w0 F0 F O H (w.putObj lo o) :=
 ⟨h.len, fun i d ob h1 h2 => by
   have hr:=h.row i d ob h1 h2
   have hne:=hl.row hr
   obtain ⟨cur,c1,c2,c3⟩:=hr.cur
   exact ⟨hr.hg,hr.hk,hr.hB,⟨cur,by rw [World.putObj_heap_other hne];exact c1,c2,c3⟩,hr.hC,hr.hl,hr.hn,hr.h1,hr.hf,hr.hz⟩,h.inj,
  fun b o' v hv=>(World.cell?_of_block (World.putObj_heap_other fun e=>hl.cell (by have:=h.fr b o' v hv;rw [show b=lo from e] at this;exact this))).trans (h.fr b o' v hv),h.le,h.new,
  h.below.trans ⟨rfl,rfl,rfl,by simp,fun k hlt=>World.putObj_heap_other (by omega)⟩,by simpa using h.size,fun b hb=>(World.putObj_heap_other fun e=>hk (by rw [<- show b=lo from e];exact hb)).trans (h.kept b hb),h.kb⟩
abbrev wy (D:Nat):Deferred:={ target:=.collected D,args:=#[] }
structure Ext (B:Bd) (w0:World) (F0:Fz) (B':Bd) (w0':World):Prop where
 n:B'.n=B.n
 K:∀ b,B.K b->B'.K b
 kept:∀ b,B.K b->w0'.heap[b]? = w0.heap[b]?
 back:∀ F O H w,Own B' w0' F0 F O H w->Own B w0 F0 F O H w
 size:w0.heap.size<=w0'.heap.size
 ds:∃ Ds:List Nat,B'.ds=Ds.map wy++B.ds/\Ds.Nodup/\∀ D ∈ Ds,w0.heap.size<=D/\B.n<=D/\B'.K D/\w0'.heap[D]? = some (.deferred (some []))
theorem Ext.refl (B:Bd) (w0:World) (F0:Fz):Ext B w0 F0 B w0:=⟨rfl,fun _ h=>h,fun _ _=>rfl,fun _ _ _ _ h=>h,Nat.le_refl _,[],rfl,.nil,fun _ h=>by cases h⟩
theorem Ext.trans {B B1 B2:Bd} {w0 w1 w2:World} {F0:Fz} (h:Ext B w0 F0 B1 w1) (k:Ext B1 w1 F0 B2 w2):Ext B w0 F0 B2 w2:=by
 obtain ⟨D1,e1,n1,p1⟩:=h.ds
 obtain ⟨D2,e2,n2,p2⟩:=k.ds
 refine ⟨k.n.trans h.n,fun b hb=>k.K b (h.K b hb),fun b hb=>(k.kept b (h.K b hb)).trans (h.kept b hb),fun F O H w hw=>h.back _ _ _ _ (k.back _ _ _ _ hw),Nat.le_trans h.size k.size,D2++D1,by rw [e2,e1];simp,?_,?_⟩
 ·rw [List.nodup_append]
  refine ⟨n2,n1,fun a ha b hb hab=>?_⟩
  subst hab
  have q1:=(p2 a ha).1
  have q2:=(p1 a hb).2.2.2
  rw [Array.getElem?_eq_none q1] at q2;cases q2
 ·intro D hD
  rcases List.mem_append.1 hD with hD|hD
  ·obtain ⟨q1, q2, q3, q4⟩ := p2 D hD
   exact ⟨Nat.le_trans h.size q1,h.n ▸ q2,q3,q4⟩
  ·obtain ⟨q1, q2, q3, q4⟩ := p1 D hD
   exact ⟨q1,q2,k.K D q3,(k.kept D q3).trans q4⟩
theorem Rl.keepB {G:Nat->AV} {B:Bd} {w0:World} {F0 F1:Fz} {O1:Ow} {F:Fz} {O:Ow} {st:St} {a:Act} {w w':World} (h:Rl G B w0 F0 F1 O1 F O st a w) (hb:Below w.heap.size w w'):Rl G B w0 F0 F1 O1 F O st a w' :=
 ⟨h.own.keep hb,h.size,h.slot,h.defs,h.gok,h.leF,h.leO⟩
def SeqC (P:Program) (G:Nat->AV) (f:FuncId) (cs:List AV) (l:List AV):Prop :=
 zj P f=true/\∀ (n lo:Nat) (F:Fz) (xs:List Value) (J:Nat->World->Prop) (W:World),GOK G F->xs.length=cs.length->(∀ (i:Nat) (c:Value) (a:AV),xs[i]? = some c->cs[i]? = some a->PV F c a) ->
  (∀ k W1,J k W1->∀ b o v,F b o=some v->W1.cell? ⟨b,o,none⟩=some v) ->
  (∀ k W1 W2,J k W1->Below W1.heap.size W1 W2->J k W2) ->
  (∀ k W1 e v n',J k W1->l[k]? = some e->PV F v e->∃ fn tmps assign body,(Instr.yield lo #[v]).run P W1 = .ok (.round lo fn tmps assign body) W1/\RoundIn Fence.wide n' P lo fn tmps assign body W1 fun e W'=>e = .returned (.bool true)/\J (k+1) W') ->
  J 0 W->CallsIn Fence.wide n P f (#[.func (.yield lo) #[] #[]]++xs.toArray) W fun e W'=>(∃ v,e = .returned v)/\J l.length W'
def PVs (F:Fz):List Value->List AV->Prop
 | v::vs,a::as_=>PV F v a/\PVs F vs as_
 | [],[]=>True
 | _,_=>False
theorem PVs.len {F:Fz}:∀ {vs:List Value} {as_:List AV},PVs F vs as_->vs.length=as_.length
 | [],[],_=>rfl
 | _::_,_::_,h=>by simp only [List.length_cons];rw [PVs.len h.2]
def SeqL (P:Program) (G:Nat->AV) (f:FuncId) (cs:List AV) (l:List (List AV)):Prop :=
 zj P f=true/\∀ (n lo:Nat) (F:Fz) (xs:List Value) (J:Nat->World->Prop) (W:World),GOK G F->xs.length=cs.length->(∀ (i:Nat) (c:Value) (a:AV),xs[i]? = some c->cs[i]? = some a->PV F c a) ->
  (∀ k W1,J k W1->∀ b o v,F b o=some v->W1.cell? ⟨b,o,none⟩=some v) ->
  (∀ k W1 W2,J k W1->Below W1.heap.size W1 W2->J k W2) ->
  (∀ k W1 e vs n',J k W1->l[k]? = some e->PVs F vs e->∃ fn tmps assign body,(Instr.yield lo vs.toArray).run P W1 = .ok (.round lo fn tmps assign body) W1/\RoundIn Fence.wide n' P lo fn tmps assign body W1 fun e W'=>e = .returned (.bool true)/\J (k+1) W') ->
  J 0 W->CallsIn Fence.wide n P f (#[.func (.yield lo) #[] #[]]++xs.toArray) W fun e W'=>(∃ v,e = .returned v)/\J l.length W'
theorem SeqC.list {P:Program} {G:Nat->AV} {f:FuncId} {cs l:List AV} (h:SeqC P G f cs l):SeqL P G f cs (l.map fun a=>[a]) :=
 ⟨h.1,fun n lo F xs J W g hl hv hf hb hR h0=>by
  rw [List.length_map]
  refine h.2 n lo F xs J W g hl hv hf hb (fun k W1 e v n' hj he hp=>?_) h0
  exact hR k W1 [e] [v] n' hj (by simp [List.getElem?_map,he]) ⟨hp,trivial⟩⟩
def XE:List Nat->List AV->List AV->List AV
 | p::ps,a::as_,s=>XE ps as_ (s.set p a)
 | _,_,s=>s
theorem setP_len:∀ {ps:List Nat} {as_ s:List AV},(XE ps as_ s).length=s.length
 | [],_,_=>by simp [XE]
 | _::_,[],_=>by simp [XE]
 | p::ps,a::as_,s=>by simp only [XE];rw [setP_len,List.length_set]
def xq:List Nat->List Value->Array Value->Array Value
 | p::ps,v::vs,t=>xq ps vs (t.setIfInBounds p v)
 | _,_,t=>t
theorem setV_eq:∀ {ps:List Nat} {vs:List Value} {t:Array Value},(ps.toArray.zip vs.toArray).foldl (fun tmps (t,a)=>tmps.setIfInBounds t a) t=xq ps vs t:=by
 intro ps vs t
 rw [<- Array.foldl_toList]
 simp only [Array.toList_zip]
 induction ps generalizing vs t with
 | nil=>simp [xq]
 | cons p ps ih=>cases vs with
  | nil=>simp [xq]
  | cons v vs=>simp only [List.zip_cons_cons,List.foldl_cons,xq];exact ih
theorem setV_size:∀ {ps:List Nat} {vs:List Value} {t:Array Value},(xq ps vs t).size=t.size
 | [],_,_=>by simp [xq]
 | _::_,[],_=>by simp [xq]
 | p::ps,a::as_,s=>by simp only [xq];rw [setV_size,Array.size_setIfInBounds]
theorem setP_ok {F':Fz} {O':Ow}:∀ {ps:List Nat} {es:List AV} {vs:List Value} {s:List AV} {t:Array Value},PVs F' vs es->s.length=t.size->(∀ i,VR F' O' (t.getD i undef) (s.getD i zd))->∀ i,VR F' O' ((xq ps vs t).getD i undef) ((XE ps es s).getD i zd):=by
 intro ps
 induction ps with
 | nil=>intro es vs s t _ _ h;simpa [XE,xq] using h
 | cons p ps ih =>
  intro es vs s t hv hl h
  cases es with
  | nil=>cases vs with
   | nil=>simpa [XE,xq] using h
   | cons=>exact hv.elim
  | cons e es=>cases vs with
   | nil=>exact hv.elim
   | cons v vs =>
    simp only [XE,xq]
    refine ih hv.2 (by simp [hl]) fun i=>?_
    have h0:=h i
    rw [Array.getD_eq_getD_getElem?,List.getD_eq_getElem?_getD] at h0 ⊢
    by_cases hpt:p=i
    ·subst hpt
     by_cases hlt:p < s.length
     ·rw [List.getElem?_set_self hlt, Array.getElem?_setIfInBounds_self_of_lt (by omega)]
      exact .p hv.1
     ·rw [List.getElem?_eq_none (by simp; omega), Array.getElem?_eq_none (by simp; omega)]
      exact yE
    ·rw [List.getElem?_set_ne hpt, Array.getElem?_setIfInBounds_ne hpt]
     exact h0
theorem PVs.mono {F F':Fz} (hF:F.le F'):∀ {vs:List Value} {as_:List AV},PVs F vs as_->PVs F' vs as_
 | [],[],_=>trivial
 | _::_,_::_,h=>⟨h.1.mono hF,PVs.mono hF h.2⟩
inductive AgR {α:Type} (m:Nat) (J:Nat->α->Prop) (rows:α->Hp) (s:List AV) (k:Nat) (st:St):Prop
 | mk (a:α) (h1:J k a) (h2:Fg m ⟨s,st.H⟩ ⟨s,rows a⟩):AgR m J rows s k st
def RndQ {α:Type} (m:Nat) (J:Nat->α->Prop) (rows:α->Hp) (s:List AV) (k:Nat):EX->St->Prop
 | .n,st=>AgR m J rows s k st
 | _,_=>False
def asgQ (K:St->Prop):EX->St->Prop
 | .n,st=>K st
 | _,_=>False
section
variable (P:Program) (G:Nat->AV)
inductive RngP (m:Nat) (gv:AV) (ps:List Nat) (x y:AC) (Q:EX->St->Prop) (s:List AV) (H:Hp):Prop
 | gen (f : FuncId) (cs : List AV) (l : List (List AV)) (hg : fnA gv = some (f, cs)) (hp : cs.all AV.isP = true) (hl : ∀ (k : Nat) e, l[k]? = some e -> e.length = ps.length) (hs : SeqL P G f cs l) (α : Type) (J : Nat -> α -> Prop) (rows : α -> Hp) (x0 : α) (h0 : J 0 x0) (s' : List AV) (hH : Fg m ⟨s, H⟩ ⟨s', rows x0⟩)
   (h1:∀ k a e,J k a->l[k]? = some e->V P G (rows a).length x (asgQ (V P G (rows a).length y (RndQ m J rows s' (k+1)))) ⟨XE ps e s',rows a⟩)
   (h2:∀ a,J l.length a->Q .n ⟨s',rows a⟩):RngP m gv ps x y Q s H
end
section
variable {P:Program} {G:Nat->AV} {hs:List FuncId}
theorem enters_body {f:FuncId} (hb:zj P f=true) (args:Array Value) (w:World):(callFunc f args).run P w = .ok (.enter f args) w:=by
 unfold zj at hb
 split at hb
 ·rename_i fn hfn
  simp only [Bool.and_eq_true,bne_iff_ne,ne_eq] at hb
  have hbn:fn.body.isNone=false:=by cases hq:fn.body with
   | none=>rw [hq] at hb;simp at hb
   | some _=>rfl
  have hnm:(fn.name == "runtime.NumGoroutine")=false:=by simpa using hb.2
  simp only [Sem.run_bind,Sem.run_pure,Result.andThen_ok,callFunc,program,Sem.run,hfn,hnm,hbn,Bool.false_eq_true,if_false]
 ·cases hb
set_option maxHeartbeats 1000000 in
theorem rng_ok {B : Bd} {w0 : World} {F0 F1 : Fz} {O1 : Ow} {m : Nat} (hm : O1.length <= m) {g : Operand} {ps : List Nat} {assign body : Code} {x y : AC} (hx : ZN P hs assign = some x) (hy : ZN P hs body = some y) {gv : AV} {s : List AV} {H : Hp} {a : Act} {w : World} {F : Fz} {O : Ow} {Q : EX -> St -> Prop} {Q' : Exit -> Act -> World -> Prop}
  (hr:Rl G B w0 F0 F1 O1 F O ⟨s,H⟩ a w) (hgv:VR F O (a.eval g) gv) (h:RngP P G m gv ps x y Q s H)
  (hQ:∀ st' a' w' F' O' B' w0',Ext B w0 F0 B' w0'->Q .n st'->Rl G B' w0' F0 F1 O1 F' O' st' a' w'->Q' .normal a' w'):(Code.rangeFunc g ps.toArray assign body).wp P Q' a w:=by
 refine (wpIn_wide (n:=0)).1 (wpIn_rangeFunc ?_)
 intro fn hfn
 obtain ⟨f,cs,l,hg,hp,hlen,⟨hbody,hs⟩,α,J,rows,x0,h0,s',hH,h1,h2⟩:=h
 obtain ⟨xs,hxe,hxl,hxv⟩:=fnA_ok hgv hg
 have hxp:∀ (i:Nat) (c:Value) (a:AV),xs[i]? = some c->cs[i]? = some a->PV F c a:=fun i c a h1 h2=>(hxv i c a h1 h2).pv (List.all_eq_true.1 hp a (List.mem_of_getElem? h2))
 obtain ⟨rec,hrec⟩:∃ rec:LoopState->Option Code->Loop,rec=fun st pe=>{ state:=st,pending:=pe,fn,tmps:=a.tmps,params:=ps.toArray,assign,body,defers:=w.heap.size }:=⟨_,rfl⟩
 obtain ⟨W1,hW1⟩:∃ W1,(w.alloc (.deferred (some []))).alloc (.loop (rec .ready none))=W1:=⟨_,rfl⟩
 obtain ⟨D,hD⟩:∃ D,D=w.heap.size:=⟨_,rfl⟩
 obtain ⟨lo,hlo⟩:∃ lo,lo=w.heap.size+1:=⟨_,rfl⟩
 have hL1:W1.heap[lo]? = some (.loop (rec .ready none)):=by
  rw [<- hW1,hlo];have:=World.alloc_heap_new (w.alloc (.deferred (some []))) (.loop (rec .ready none));rwa [World.size_alloc] at this
 have hK1:W1.heap[D]? = some (.deferred (some [])):=by
  rw [<- hW1,hD];exact (Below.heap_alloc _ _ _ (by simp)).trans (World.alloc_heap_new w _)
 have hb1:Below w.heap.size w W1:=by
  rw [<- hW1];exact ((Below.refl _ w).alloc (Nat.le_refl _) _).alloc (by simp) _
 have hBn:B.n<=w.heap.size:=hr.own.size
 have hBK:∀ b,B.K b->b < w.heap.size:=fun b hb=>Nat.lt_of_lt_of_le (hr.own.kb b hb) hr.own.below.size
 have hlK:¬ B.K lo:=fun hk=>by have:=hBK _ hk;omega
 have ncL:∀ {W:World} {r:Loop},W.heap[lo]? = some (.loop r)->NC W lo:=fun h=>⟨_,h,trivial⟩
 have ncD:∀ {W:World},W.heap[D]? = some (.deferred (some []))->NC W D:=fun h=>⟨_,h,trivial⟩
 obtain ⟨J',hJ'⟩:∃ J':Nat->World->Prop,J'=fun k W=>(∃ F' O' x',J k x'/\F.le F'/\Rl G B w0 F0 F1 O1 F' O' ⟨s',rows x'⟩ a W)/\W.heap[lo]? = some (.loop (rec .ready none))/\W.heap[D]? = some (.deferred (some [])):=⟨_,rfl⟩
 refine ⟨lo,[wy D],W1,{ target:=.fn (.func f) xs.toArray,args:=#[.func (.yield lo) #[] #[]] },W1,f,#[.func (.yield lo) #[] #[]]++xs.toArray,W1,?_,?_,fun _ _=>trivial,?_,fun hh=>(by cases hh),?_⟩
 ·rw [<- hW1,hrec,hlo,hD];exact run_enterLoop_outer _ _ _ _ _
 ·simp only [resolve,hxe]
  simp [go_sem]
 ·simp [invoke,go_sem,enters_body hbody]
 refine (hs _ lo F xs J' W1 hr.gok hxl hxp ?_ ?_ ?_ ?_).mono ?_
 ·intro k W hj b o v hv
  rw [hJ'] at hj
  obtain ⟨⟨F',O',x',_,lF,hrl⟩,_⟩:=hj
  exact hrl.own.fr b o v (lF b o v hv)
 ·intro k W W2 hj hb
  rw [hJ'] at hj ⊢
  obtain ⟨⟨F',O',x',hjx,lF,hrl⟩,hl,hd⟩:=hj
  exact ⟨⟨F',O',x',hjx,lF,hrl.keepB hb⟩,(hb.block _ (ncL hl).lt).trans hl,(hb.block _ (ncD hd).lt).trans hd⟩
 ·intro k W e vs n' hj he hv
  rw [hJ'] at hj
  obtain ⟨⟨F',O',x',hjx,lF,hrl⟩,hl,hd⟩:=hj
  have hyl:=run_yield (P:=P) (args:=vs.toArray) hl (by rw [hrec];simp [hv.len,hlen k e he])
  refine ⟨fn,xq ps vs a.tmps,assign,body,by rw [hyl,hrec,<- setV_eq],roundIn_of_wpIn hfn ?_⟩
  have hKK:∀ {W:World} {r:Loop},W.heap[lo]? = some (.loop r)->W.heap[D]? = some (.deferred (some []))->∀ b,(b=lo\/b=D)->NC W b:=fun h1 h2 b hb=>by
   rcases hb with rfl|rfl
   ·exact ncL h1
   ·exact ncD h2
  have own1:=hrl.own.re (fun b=>b=lo\/b=D) (hKK hl hd) []
  have rl1:Rl G _ W F0 F' O' F' O' ⟨XE ps e s',rows x'⟩ { tmps:=xq ps vs a.tmps,defers:=[] } W:=⟨own1,by simp only [setV_size,setP_len];exact hrl.size,setP_ok (hv.mono lF) hrl.size.symm hrl.slot,rfl,hrl.gok,Fz.le_refl _,Ow.le_refl _⟩
  refine V_okIn (m:=(rows x').length) (by rw [hrl.own.len];exact Nat.le_refl _) assign x hx _ _ _ _ _ _ _ (h1 k x' e hjx he) rl1 ?_
  intro ex st1 a1 w1 F2 O2 hq rl2
  cases ex with
  | x id=>exact hq.elim
  | r=>exact hq.elim
  | n =>
   have hl1:w1.heap[lo]? = some (.loop (rec .ready none)):=(rl2.own.kept lo (.inr (.inl rfl))).trans hl
   have hd1:w1.heap[D]? = some (.deferred (some [])):=(rl2.own.kept D (.inr (.inr rfl))).trans hd
   refine ⟨_,run_beginRound hl1 (by rw [hrec]),?_⟩
   obtain ⟨rb,hrb⟩:∃ rb:Loop,rb = { rec .ready none with state:=.busy }:=⟨_,rfl⟩
   rw [<- hrb]
   have own2:=(hrl.own.un rl2.own rfl (fun b hb=>.inl hb)).putNC (.loop rb) (ncL hl1) (by omega) hlK
   have hl2:(w1.putObj lo (.loop rb)).heap[lo]? = some (.loop rb):=World.putObj_heap_same (ncL hl1).lt
   have hd2:(w1.putObj lo (.loop rb)).heap[D]? = some (.deferred (some [])):=(World.putObj_heap_other (by omega)).trans hd1
   have own3:=own2.re (fun b=>b=lo\/b=D) (hKK hl2 hd2) []
   have rl3:Rl G _ (w1.putObj lo (.loop rb)) F0 F' O' F2 O2 st1 a1 (w1.putObj lo (.loop rb)):=⟨own3,rl2.size,rl2.slot,rl2.defs,rl2.gok,rl2.leF,rl2.leO⟩
   refine V_okIn (m:=(rows x').length) (by rw [hrl.own.len];exact Nat.le_refl _) body y hy _ _ _ _ _ _ _ hq rl3 ?_
   intro ex st3 a3 w3 F3 O3 hq3 rl4
   cases ex with
   | x id=>exact hq3.elim
   | r=>exact hq3.elim
   | n =>
    obtain ⟨x2,g1,g2⟩:=hq3
    have hl3:w3.heap[lo]? = some (.loop rb):=(rl4.own.kept lo (.inr (.inl rfl))).trans hl2
    have hd3:w3.heap[D]? = some (.deferred (some [])):=(rl4.own.kept D (.inr (.inr rfl))).trans hd2
    refine ⟨_,_,run_endRound none hl3,rfl,?_⟩
    rw [hJ']
    have hrr:({ rb with state:=if (none:Option Code).isNone=true then LoopState.ready else LoopState.done,pending:=none }:Loop)=rec .ready none:=by rw [hrb,hrec];rfl
    rw [hrr]
    have own4:=(own2.un rl4.own rfl (fun b hb=>.inl hb)).putNC (.loop (rec .ready none)) (ncL hl3) (by omega) hlK
    have rl5:Rl G B w0 F0 F1 O1 F3 O3 ⟨s',st3.H⟩ a (w3.putObj lo (.loop (rec .ready none))):=⟨own4,hrl.size,fun t=>(hrl.slot t).mono rl4.leF rl4.leO,hrl.defs,hrl.gok.mono rl4.leF,Fz.le_trans hrl.leF rl4.leF,Ow.le_trans hrl.leO rl4.leO⟩
    obtain ⟨O5,rl6⟩:=rl5.forget hm g2
    exact ⟨⟨F3,O5,x2,g1,Fz.le_trans lF rl4.leF,rl6⟩,World.putObj_heap_same (ncL hl3).lt,(World.putObj_heap_other (by omega)).trans hd3⟩
 ·rw [hJ']
  obtain ⟨O2,hr2⟩:=(hr.keepB hb1).forget hm hH
  exact ⟨⟨F,O2,x0,h0,Fz.le_refl F,hr2⟩,hL1,hK1⟩
 ·rintro e W2 ⟨⟨v, rfl⟩, hj⟩
  rw [hJ'] at hj
  obtain ⟨⟨F',O',x',hjx,lF,hrl⟩,hl,hd⟩:=hj
  obtain ⟨rx,hend⟩:∃ rx:Loop,(Instr.endLoop lo).run P W2 = .ok none (W2.putObj lo (.loop rx)):=by
   have h:=run_endLoop (P:=P) hl (by rw [hrec];simp)
   rw [hrec] at h
   exact ⟨_,h⟩
  refine ⟨none,_,hend,?_⟩
  show Q' .normal _ _
  have own4:=hrl.own.putNC (.loop rx) (ncL hl) (by omega) hlK
  have hd4:(W2.putObj lo (.loop rx)).heap[D]? = some (.deferred (some [])):=(World.putObj_heap_other (by omega)).trans hd
  have own5:=own4.re (fun b=>b=D) (fun b hb=>by subst hb;exact ncD hd4) (wy D::B.ds)
  refine hQ ⟨s',rows x'⟩ _ _ F' O' ⟨B.n,fun b=>B.K b\/b=D,wy D::B.ds⟩ _ ⟨rfl,fun b hb=>.inl hb,own4.kept,fun F5 O5 H5 w5 h5=>own4.un h5 rfl (fun b hb=>.inl hb),own4.below.size,[D],rfl,by simp,fun D' hD'=>?_⟩ (h2 x' hjx) ⟨own5,hrl.size,hrl.slot,by show wy D::a.defers=wy D::B.ds;rw [hrl.defs],hrl.gok,hrl.leF,hrl.leO⟩
  obtain rfl:D'=D:=by simpa using hD'
  exact ⟨by have:=hr.own.below.size;omega,by omega,.inr rfl,hd4⟩
end
def xT (P:Program) (hs:List FuncId):Code->Option AC
 | .seq a b=>(match xT P hs a,xT P hs b with|some x,some y=>some (.seq x y)|_,_=>none)
 | .cond c t e=>(match cx P 0 c,xT P hs t,xT P hs e with|some c,some x,some y=>some (.cond c x y)|_,_,_=>none)
 | .block id c=>(match xT P hs c with|some x=>some (.block id x)|none=>none)
 | .scope c=>(match xT P hs c with|some x=>some (.scope x)|none=>none)
 | .rangeFunc g ps a b=>(match cx P 0 g,ps.toList,ZN P hs a,ZN P hs b with|some g,ps,some x,some y=>some (.rng g ps x y)|_,_,_,_=>none)
 | .skip=>ZN P hs .skip
 | .label l=>ZN P hs (.label l)
 | .region i ops d=>ZN P hs (.region i ops d)
 | .loop c=>ZN P hs (.loop c)
 | .exit i=>ZN P hs (.exit i)
 | .ret=>ZN P hs .ret
 | _=>none
def fcEX (i g kk n:Nat) (es:List AV):List AV->(List AV->Prop)->Prop
 | [],k=>k []
 | a::as_,k=>(match a with
  | .agg cs=>fcL i g kk n es cs (fun cs'=>fcEX i g kk n es as_ (fun bs=>k (.agg cs'::bs)))
  | .ol j g' n'=>fcC i g kk n es false (.ol j g' n') (fun b=>fcEX i g kk n es as_ (fun bs=>k (b::bs)))
  | a=>fcEX i g kk n es as_ (fun bs=>k (a::bs)))
theorem XT {i g kk n:Nat} {es:List AV}:∀ {as_:List AV} {k:List AV->Prop},fcEX i g kk n es as_ k->∃ bs,k bs/\bs.length=as_.length/\∀ (c:Nat) (b:AV),bs[c]? = some b->∃ a,as_[c]? = some a/\b.cells.length=a.cells.length/\∀ (c:Nat) (y:AV),b.cells[c]? = some y->∃ x,a.cells[c]? = some x/\FzR i g kk n es x y
 | [],_,h=>⟨[],h,rfl,fun c b hb=>by simp at hb⟩
 | a::as_,k,h=>by
  have same:fcEX i g kk n es as_ (fun bs=>k (a::bs))->∃ bs,k bs/\bs.length=(a::as_).length/\∀ (c:Nat) (b:AV),bs[c]? = some b->∃ a',(a::as_)[c]? = some a'/\b.cells.length=a'.cells.length/\∀ (c:Nat) (y:AV),b.cells[c]? = some y->∃ x,a'.cells[c]? = some x/\FzR i g kk n es x y:=fun h=>by
   obtain ⟨bs,h3,h4,h5⟩:=XT h
   refine ⟨a::bs,h3,by simp [h4],fun c x hx=>?_⟩
   cases c with
   | zero=>simp at hx;subst hx;exact ⟨a,rfl,rfl,fun c y hy=>⟨y,hy,.inl rfl⟩⟩
   | succ c=>obtain ⟨y,q1,q2⟩:=h5 c x (by simpa using hx);exact ⟨y,by simpa using q1,q2⟩
  cases a with
  | agg cs =>
   simp only [fcEX] at h
   obtain ⟨cs',h1,h2,h3⟩:=fcL_ok h
   obtain ⟨bs,h4,h5,h6⟩:=XT h1
   refine ⟨.agg cs'::bs,h4,by simp [h5],fun c x hx=>?_⟩
   cases c with
   | zero=>simp at hx;subst hx;exact ⟨_,rfl,h2,h3⟩
   | succ c=>obtain ⟨y,q1,q2⟩:=h6 c x (by simpa using hx);exact ⟨y,by simpa using q1,q2⟩
  | ol j g' n' =>
   simp only [fcEX] at h
   obtain ⟨b,h1,h2⟩:=fcC_ok h
   have hz:FzR i g kk n es (.ol j g' n') b:=h2.resolve_left (by simp)
   obtain ⟨bs,h4,h5,h6⟩:=XT h1
   refine ⟨b::bs,h4,by simp [h5],fun c x hx=>?_⟩
   cases c with
   | zero =>
    simp at hx;subst hx
    have hb:b.cells=[b]:=by rcases hz with rfl|⟨_,_,_,rfl⟩<;>rfl
    refine ⟨_,rfl,by rw [hb];rfl,fun c y hy=>?_⟩
    rw [hb] at hy
    cases c with
    | zero=>simp at hy;subst hy;exact ⟨_,rfl,hz⟩
    | succ c=>simp at hy
   | succ c=>obtain ⟨y,q1,q2⟩:=h6 c x (by simpa using hx);exact ⟨y,by simpa using q1,q2⟩
  | _=>exact same h
def fcHX (i g kk n:Nat) (es:List AV):Hp->List Bool->(Hp->Prop)->Prop
 | H,[],k=>k H
 | [],_::_,k=>k []
 | ob::H,c::cs,k=>(match c with
  | true=>(match ob with|⟨e,kk',es',g',fz⟩=>fcEX i g kk n es es' (fun es2=>fcHX i g kk n es H cs (fun H'=>k (⟨e,kk',es2,g',fz⟩::H'))))
  | false=>fcHX i g kk n es H cs (fun H'=>k (ob::H')))
theorem fcHX_ok {i g kk n : Nat} {es : List AV} : ∀ {cs : List Bool} {H : Hp} {k : Hp -> Prop}, fcHX i g kk n es H cs k -> ∃ H2, k H2 /\ H2.length = H.length /\ ∀ (j : Nat) (ob2 : OB), H2[j]? = some ob2 -> ∃ ob, H[j]? = some ob /\ ob2.e = ob.e /\ ob2.k = ob.k /\ ob2.g = ob.g /\ ob2.fz = ob.fz /\ ob2.es.length = ob.es.length /\
   ∀ (c:Nat) (b:AV),ob2.es[c]? = some b->∃ a,ob.es[c]? = some a/\b.cells.length=a.cells.length/\∀ (c:Nat) (y:AV),b.cells[c]? = some y->∃ x,a.cells[c]? = some x/\FzR i g kk n es x y
 | [],H,k,h=>⟨H,by cases H<;>exact h,rfl,fun j ob2 h=>⟨ob2,h,rfl,rfl,rfl,rfl,rfl,fun c b hb=>⟨b,hb,rfl,fun c y hy=>⟨y,hy,.inl rfl⟩⟩⟩⟩
 | _::_,[],k,h=>⟨[],h,rfl,fun j ob2 h=>by simp at h⟩
 | true::cs,⟨e,kk',es',g',fz⟩::H,k,h=>by
  simp only [fcHX] at h
  obtain ⟨es2,h1,h2,h3⟩:=XT h
  obtain ⟨H',h4,h5,h6⟩:=fcHX_ok h1
  refine ⟨_,h4,by simp [h5],fun j ob2 hj=>?_⟩
  cases j with
  | zero=>simp at hj;subst hj;exact ⟨_,rfl,rfl,rfl,rfl,rfl,h2,h3⟩
  | succ j=>obtain ⟨ob,q1,q2⟩:=h6 j ob2 (by simpa using hj);exact ⟨ob,by simpa using q1,q2⟩
 | false::cs,ob::H,k,h=>by
  simp only [fcHX] at h
  obtain ⟨H',h4,h5,h6⟩:=fcHX_ok h
  refine ⟨_,h4,by simp [h5],fun j ob2 hj=>?_⟩
  cases j with
  | zero=>simp at hj;subst hj;exact ⟨ob,rfl,rfl,rfl,rfl,rfl,rfl,fun c b hb=>⟨b,hb,rfl,fun c y hy=>⟨y,hy,.inl rfl⟩⟩⟩
  | succ j=>obtain ⟨ob',q1,q2⟩:=h6 j ob2 (by simpa using hj);exact ⟨ob',by simpa using q1,q2⟩
def fzKX (i n:Nat) (cv:List Bool) (s:List AV) (H:Hp) (k:St->Prop):Prop :=
 rK H i (fun ob=>match ob with|⟨e,kk,es,g,fz⟩=>(match Nat.beq e 4000000000 with|true=>False|false=>ObN (n<=es.length) (ObN ((es.take n).all AV.isP=true) (rpK H i ⟨e,kk,es,g,max fz n⟩ (fun H1=>fcS i g kk n es s (fun s'=>fcHX i g kk n es H1 cv (fun H'=>k ⟨s',H'⟩)))))))
theorem fzKX_ok {G:Nat->AV} {B:Bd} {w0:World} {F0 F1:Fz} {O1:Ow} {F:Fz} {O:Ow} {s:List AV} {H:Hp} {a:Act} {w:World} {i n:Nat} {cv:List Bool} {k:St->Prop} (hk:fzKX i n cv s H k) (h:Rl G B w0 F0 F1 O1 F O ⟨s,H⟩ a w):∃ st2 F',k st2/\Rl G B w0 F0 F1 O1 F' O st2 a w:=by
 obtain ⟨ob,h1,h2⟩:=wQ hk
 obtain ⟨e,kk,es,g,fz⟩:=ob
 simp only at h2
 split at h2
 ·exact h2.elim
 rename_i hbe
 have hne:(e == 4000000000)=false:=(beqN e _).trans hbe
 obtain ⟨hn,hp,h2⟩:=h2
 rw [yc] at h2
 obtain ⟨s',h3,h4,h5⟩:=fcS_ok h2
 obtain ⟨H',h6,h7,h8⟩:=fcHX_ok h3
 obtain ⟨F',own,lF,hz⟩:=h.own.freezeN h1 (by simpa using hne) hn hp
 refine ⟨_,F',h6,?_,by rw [h.size];exact h4.symm,fun t=>?_,h.defs,h.gok.mono lF,Fz.le_trans h.leF lF,h.leO⟩
 ·refine own.recell (by simpa using h7) fun j ob2 hj=>?_
  obtain ⟨ob1,q1,q2,q3,q4,q5,q6,q7⟩:=h8 j ob2 hj
  refine ⟨ob1,q1,q2,q3,q4,q5,q6,fun c e2 he=>?_⟩
  obtain ⟨e1,p1,p2,p3⟩:=q7 c e2 he
  refine ⟨e1,p1,p2,fun c a2 ha=>?_⟩
  obtain ⟨a1,p4,p5⟩:=p3 c a2 ha
  refine ⟨a1,p4,p5.one,fun x hx=>p5.vr (Fz.le_refl F') (fun x n' hn' hx=>?_) hx⟩
  -- the wR in the row is the same as_ before
  have hx':VR F O x (.ol i g n'):=by
   cases hx with
   | p h=>cases h
   | ol _ _ _ _ d hd hg h1 h=>exact .ol x i g n' d hd hg h1 h
  exact hz x n' hn' hx'
 ·rw [List.getD_eq_getElem?_getD]
  cases hq:s'[t]? with
  | none =>
   have h0:s[t]? = none:=by rw [List.getElem?_eq_none_iff] at hq ⊢;omega
   have:=h.slot t
   rw [List.getD_eq_getElem?_getD] at this
   simp only [h0] at this
   exact this.mono lF (Ow.le_refl O)
  | some b =>
   obtain ⟨a0,q1,q2⟩:=h5 t b hq
   have:=h.slot t
   rw [List.getD_eq_getElem?_getD] at this
   simp only [q1] at this
   exact q2 F F' O lF hz _ this
inductive SeqX (m:Nat) (K:St->Prop) (st:St):Prop
 | sp (h:SeqP m K st):SeqX m K st
 | fe (i n:Nat) (cv:List Bool) (h:fzKX i n cv st.s st.H K):SeqX m K st
section
variable (P:Program) (G:Nat->AV)
def VX (m:Nat):AC->(EX->St->Prop)->St->Prop
 | .seq a b,Q,st=>VX m a (yg (SeqX m (VX m b Q)) Q) st
 | .cond c t e,Q,st=>(match st with|⟨s,H⟩=>eK G s c (fun c=>match c with
  | .v v=>(match v with|.bool b=>ObT b (VX m t Q ⟨s,H⟩) (VX m e Q ⟨s,H⟩)|_=>False)
  | _=>False))
 | .block id c,Q,st=>VX m c (yw id Q) st
 | .scope c,Q,st=>VX m c Q st
 | .drawq ..,_,_=>False
 | .rng g ps x y,Q,st=>(match st with|⟨s,H⟩=>eK G s g (fun gv=>RngP P G m gv ps x y Q s H))
 | .skip,Q,st=>Q .n st
 | .region ops,Q,st=>V P G m (.region ops) Q st
 | .draw ops,Q,st=>V P G m (.draw ops) Q st
 | .drawx reps,Q,st=>V P G m (.drawx reps) Q st
 | .loop c,Q,st=>V P G m (.loop c) Q st
 | .exit id,Q,st=>Q (.x id) st
 | .ret,Q,st=>Q .r st
end
section
variable {P:Program} {G:Nat->AV} {hs:List FuncId} {F0 F1:Fz} {O1:Ow} {m:Nat}
theorem copC_region {i:Nat} {ops:Array Oper} {d:Bool} {ac:AC} (h:ZN P hs (.region i ops d)=some ac):∀ {Q:EX->St->Prop} {st:St},VX P G m ac Q st->V P G m ac Q st:=by
 simp only [ZN] at h
 split at h
 ·split at h
  ·split at h
   ·cases h;exact fun h=>h
   ·split at h
    ·cases h;exact fun h=>h
    ·split at h
     ·cases h;exact fun h=>h
     ·cases h;exact fun h=>h
  ·cases h;exact fun h=>h
 ·cases h
theorem VX_ok (hm : O1.length <= m) : ∀ (c : Code) (ac : AC), xT P hs c = some ac -> ∀ (B : Bd) (w0 : World) (Q : EX -> St -> Prop) (Q' : Exit -> Act -> World -> Prop) (st : St) (a : Act) (w : World) (F : Fz) (O : Ow), VX P G m ac Q st -> Rl G B w0 F0 F1 O1 F O st a w ->
  (∀ e st' a' w' F' O' B' w0',Ext B w0 F0 B' w0'->Q e st'->Rl G B' w0' F0 F1 O1 F' O' st' a' w'->Q' e.out a' w')->c.wp P Q' a w:=by
 intro c
 induction c with
 | skip=>intro ac hc B w0 Q Q' st a w F O h hr hQ;cases hc;exact wp_skip (hQ .n st a w F O B w0 (.refl ..) h hr)
 | label l=>intro ac hc B w0 Q Q' st a w F O h hr hQ;cases hc;exact wp_label (hQ .n st a w F O B w0 (.refl ..) h hr)
 | region id ops draw =>
  intro ac hc B w0 Q Q' st a w F O h hr hQ
  exact V_ok hm _ ac hc Q Q' st a w F O (copC_region hc h) hr fun e st' a' w' F' O' he hr'=>hQ e st' a' w' F' O' B w0 (.refl ..) he hr'
 | loop c _ =>
  intro ac hc B w0 Q Q' st a w F O h hr hQ
  refine V_ok hm _ ac hc Q Q' st a w F O ?_ hr fun e st' a' w' F' O' he hr'=>hQ e st' a' w' F' O' B w0 (.refl ..) he hr'
  simp only [xT,ZN] at hc
  split at hc
  ·cases hc;exact h
  ·cases hc
 | seq x y ihx ihy =>
  intro ac hc B w0 Q Q' st a w F O h hr hQ
  simp only [xT] at hc
  split at hc
  ·rename_i p q hp hq
   cases hc
   refine wp_seq (ihx p hp B w0 _ _ st a w F O h hr fun e st' a' w' F' O' B' w0' hx he hr'=>?_)
   have hQ2:∀ e st' a' w' F' O' B2 w2,Ext B' w0' F0 B2 w2->Q e st'->Rl G B2 w2 F0 F1 O1 F' O' st' a' w'->Q' e.out a' w':=fun e st' a' w' F' O' B2 w2 hx2=>hQ e st' a' w' F' O' B2 w2 (hx.trans hx2)
   cases e with
   | n =>
    rcases he with (he|⟨st2,hf,he⟩|⟨i,n,cv,he⟩|⟨ss,cv,he⟩|⟨t,i,g,n,h0,hl,he⟩)|⟨i,n,cv,he⟩
    ·exact ihy q hq B' w0' Q Q' st' a' w' F' O' he hr' hQ2
    ·obtain ⟨O2, hr2⟩ := hr'.forget hm hf
     exact ihy q hq B' w0' Q Q' st2 a' w' F' O2 he hr2 hQ2
    ·obtain ⟨s', H'⟩ := st'
     obtain ⟨st2,F2,he,hr2⟩:=fzK_ok he hr'
     exact ihy q hq B' w0' Q Q' st2 a' w' F2 O' he hr2 hQ2
    ·obtain ⟨s', H'⟩ := st'
     obtain ⟨st2,he,hr2⟩:=nlK_ok he hr'
     exact ihy q hq B' w0' Q Q' st2 a' w' F' O' he hr2 hQ2
    ·obtain ⟨c, hc, hr2⟩ := ocK_ok h0 hl hr'
     exact ihy q hq B' w0' Q Q' _ a' w' F' O' (he c hc) hr2 hQ2
    ·obtain ⟨s', H'⟩ := st'
     obtain ⟨st2,F2,he,hr2⟩:=fzKX_ok he hr'
     exact ihy q hq B' w0' Q Q' st2 a' w' F2 O' he hr2 hQ2
   | x id=>exact hQ (.x id) st' a' w' F' O' B' w0' hx he hr'
   | r=>exact hQ .r st' a' w' F' O' B' w0' hx he hr'
  ·cases hc
 | cond c x y ihx ihy =>
  intro ac hc B w0 Q Q' st a w F O h hr hQ
  obtain ⟨s,H⟩:=st
  simp only [xT] at hc
  split at hc
  ·rename_i p q r hp hq hr'
   cases hc
   have ho:=hr.operand 0 c p hp
   simp only [VX,Zt] at h
   split at h
   ·rename_i v hv
    split at h
    ·rename_i b
     rw [hv] at ho
     have ho:=ho.pvC rfl
     have e:a.eval c = .bool b:=by generalize a.eval c=q at ho;cases ho;rfl
     obtain ⟨h1,h2⟩:=h
     cases b
     ·exact wp_cond_false e (ihy r hr' B w0 Q Q' _ a w F O (h2 rfl) hr hQ)
     ·exact wp_cond_true e (ihx q hq B w0 Q Q' _ a w F O (h1 rfl) hr hQ)
    ·exact h.elim
   ·exact h.elim
  ·cases hc
 | block id c ih =>
  intro ac hc B w0 Q Q' st a w F O h hr hQ
  simp only [xT] at hc
  split at hc
  ·rename_i p hp
   cases hc
   refine wp_block (ih p hp B w0 _ _ st a w F O h hr fun e st' a' w' F' O' B' w0' hx he hr'=>?_)
   cases e with
   | n=>exact hQ .n st' a' w' F' O' B' w0' hx he hr'
   | x id' =>
    simp only [yw] at he
    show (if id'=id then Q' .normal a' w' else Q' (.exit id') a' w')
    by_cases hid:id'=id
    ·rw [if_pos hid] at he ⊢;exact hQ .n st' a' w' F' O' B' w0' hx he hr'
    ·rw [if_neg hid] at he ⊢;exact hQ (.x id') st' a' w' F' O' B' w0' hx he hr'
   | r=>exact hQ .r st' a' w' F' O' B' w0' hx he hr'
  ·cases hc
 | scope c ih =>
  intro ac hc B w0 Q Q' st a w F O h hr hQ
  simp only [xT] at hc
  split at hc
  ·rename_i p hp
   cases hc
   refine wp_scope_straight (ih p hp B w0 Q _ st a w F O h hr fun e st' a' w' F' O' B' w0' hx he hr'=>?_)
   have:=hQ e st' a' w' F' O' B' w0' hx he hr'
   cases e<;>exact this
  ·cases hc
 | exit id=>intro ac hc B w0 Q Q' st a w F O h hr hQ;cases hc;exact wp_exit (hQ (.x id) st a w F O B w0 (.refl ..) h hr)
 | ret=>intro ac hc B w0 Q Q' st a w F O h hr hQ;cases hc;exact wp_ret (hQ .r st a w F O B w0 (.refl ..) h hr)
 | rangeFunc g ps x y _ _ =>
  intro ac hc B w0 Q Q' st a w F O h hr hQ
  obtain ⟨s,H⟩:=st
  simp only [xT] at hc
  split at hc
  ·rename_i g' x' y' hg hx hy
   cases hc
   simp only [VX,Zt] at h
   exact rng_ok hm hx hy hr (hr.operand 0 g g' hg) h fun st' a' w' F' O' B' w0' hx he hr'=>hQ .n st' a' w' F' O' B' w0' hx he hr'
  ·cases hc
 | goto=>intro ac hc;cases hc
 | refuse=>intro ac hc;cases hc
def copFX (P:Program) (hs:List FuncId) (f:FuncId):Option AF :=
 match P.funcs[f]? with
 | some fn =>
  match fn.body with
  | some c=>(match Y1 P fn.results.toList,xT P hs c with|some ts,some ac=>some ⟨fn.ntmps,ts,ac⟩|_,_=>none)
  | none=>none
 | none=>none
theorem leaves_marks {fn : Func} {tmps : Array Value} {R : Ending -> World -> Prop} {Ds0 : List Nat} (K : World -> Prop) (hK : ∀ w D, D ∈ Ds0 -> K w -> w.heap[D]? = some (.deferred (some [])) -> K (w.putObj D (.deferred none)))
  (hend:∀ w,K w->∃ v,(results fn tmps).run P w = .ok v w/\R (.returned v) w):∀ (Ds:List Nat) (w:World),(∀ D ∈ Ds,D ∈ Ds0)->Ds.Nodup->(∀ D ∈ Ds,w.heap[D]? = some (.deferred (some [])))->K w->LeavesInM Fence.wide 0 P fn tmps R (Ds.map wy) .returning w
 | [],w,_,_,_,h=>hend w h
 | D::t,w,h0,hn,hd,h=>by
  have hD:=hd D (List.mem_cons_self ..)
  rw [List.nodup_cons] at hn
  refine ⟨by simp,.inl ⟨D,_,rfl,run_takeDeferred hD,leaves_marks K hK hend t _ (fun D' h'=>h0 D' (List.mem_cons_of_mem _ h')) hn.2 (fun D' h'=>?_) (hK w D (h0 D (List.mem_cons_self ..)) h hD)⟩⟩
  exact (World.putObj_heap_other fun e=>hn.1 (by rw [<- show D'=D from e];exact h')).trans (hd D' (List.mem_cons_of_mem _ h'))
theorem marks_ok {B B' : Bd} {w0 w0' : World} (hds : B.ds = []) (hx : Ext B w0 F0 B' w0') {F : Fz} {O : Ow} {st : St} {a : Act} {w : World} (hr : Rl G B' w0' F0 F1 O1 F O st a w) {fn : Func} {R : Ending -> World -> Prop}
  (hend:∀ w2,Rl G B w0 F0 F1 O1 F O st { tmps:=a.tmps,defers:=[] } w2->∃ v,(results fn a.tmps).run P w2 = .ok v w2/\R (.returned v) w2):LeavesInM Fence.wide 0 P fn a.tmps R a.defers .returning w:=by
 obtain ⟨Ds,e1,n1,p1⟩:=hx.ds
 rw [hr.defs,e1,hds,List.append_nil]
 refine leaves_marks (Ds0:=Ds) (fun w2=>Own B w0 F0 F O st.H w2) (fun w2 D hD ho hd=>?_) (fun w2 ho=>hend w2 ⟨ho,hr.size,hr.slot,hds.symm,hr.gok,hr.leF,hr.leO⟩) Ds w (fun _ h=>h) n1 (fun D hD=>?_) (hx.back _ _ _ _ hr.own)
 ·obtain ⟨q1, q2, q3, q4⟩ := p1 D hD
  exact ho.putNC _ ⟨_,hd,trivial⟩ q2 fun hk=>by have:=ho.kb _ hk;omega
 ·obtain ⟨q1, q2, q3, q4⟩ := p1 D hD
  exact (hr.own.kept D q3).trans q4
theorem pc_ofX' {f : FuncId} {af : AF} (hf : copFX P hs f = some af) {as_ : List AV} {r : AV}
  (h:∀ (w:World) (F:Fz) (xs:List Value),xs.length=as_.length->(∀ (i:Nat) (c:Value) (a:AV),xs[i]? = some c->as_[i]? = some a->PV F c a)->∃ bs:List AV,bs.length=as_.length/\(∀ (i:Nat) (c:Value) (a:AV),xs[i]? = some c->bs[i]? = some a->VR F [] c a)/\YY bs af.n (fun s=>VX P G 0 af.body (EndP af.res r) ⟨s,[]⟩)):PC P G f as_ r:=by
 unfold copFX at hf
 split at hf
 ·rename_i fn hfn
  split at hf
  ·rename_i c hc
   split at hf
   ·rename_i ts ac hts hac
    cases hf
    intro w F xs hfr hg hl hv
    obtain ⟨bs,hbl,hbv,h⟩:=h w F xs hl hv
    rw [YX] at h
    have hown:Own (Bd.of w.heap.size) w F F [] [] w:=⟨rfl,fun i d ob hd=>by simp at hd,fun i j d d' hd=>by simp at hd,hfr,Fz.le_refl F,fun b o v hv=>.inl hv,Below.refl _ _,Nat.le_refl _,fun _ h=>h.elim,fun _ h=>h.elim⟩
    refine (callsIn_wide (n:=0)).1 (callsIn_of_wp_marks hfn hc trivial (wpIn_wide.2 (VX_ok (Nat.le_refl _) c ac hac (Bd.of w.heap.size) w _ _ _ _ _ F [] h (xe hown hg (by rw [hl,hbl]) hbv) fun e st' a' w' F' O' B' w0' hx he hr=>?_)))
    have key:∀ {s:List AV} {H:Hp},st'=⟨s,H⟩->rsK s H ts (fun vs=>fzA H vs (fun vs' _=>resK vs' (fun v=>ObEq v r)))->LeavesInM Fence.wide 0 P fn a'.tmps (fun e w'=>∃ v F',e = .returned v/\PV F' v r/\F.le F'/\(∀ b o v,F' b o=some v->w'.cell? ⟨b,o,none⟩=some v)/\(∀ b o v,F' b o=some v->F b o=some v\/w.heap.size<=b)/\Below w.heap.size w w') a'.defers .returning w':=by
     intro s H hst he
     obtain ⟨vs,hvs,he⟩:=X5 he
     obtain ⟨rs,H',hp,he⟩:=WL he
     rw [Ww] at he
     obtain ⟨hrs⟩:=he
     subst hst
     refine marks_ok rfl hx hr fun w2 hr2=>?_
     obtain ⟨ys,y1,y2,y3⟩:=yb hr2 hts hvs
     obtain ⟨F2,p1,p2,o2,l2⟩:=Y5 hr2.own y2 y3 hp
     refine ⟨_,y1,_,F2,rfl,?_,Fz.le_trans hr2.leF l2,o2.fr,fun b o v hv=>(o2.new b o v hv).imp id (·.1),o2.below⟩
     rw [<- hrs]
     exact xL (by omega) p1
    cases e with
    | n=>exact key rfl he
    | r=>exact key rfl he
    | x id=>exact he.elim
   ·cases hf
  ·cases hf
 ·cases hf
theorem pc_ofX {f:FuncId} {af:AF} (hf:copFX P hs f=some af) {as_:List AV} {r:AV} (h:YY as_ af.n (fun s=>VX P G 0 af.body (EndP af.res r) ⟨s,[]⟩)):PC P G f as_ r :=
 pc_ofX' hf fun w F xs hl hv=>⟨as_,rfl,fun i c a hc ha=>.p (hv i c a hc ha),h⟩
end
theorem mx_nil (s:List AV):mx s []=s:=by cases s<;>rfl
theorem Fg.goS {m:Nat} {s:List AV} {H H2:Hp} (hH:H=H2):Fg m ⟨s,H⟩ ⟨s,H2⟩:=.same rfl (fun i b h=>.inr h) hH
theorem Fg.vwS {m:Nat} {s:List AV} {H H2:Hp} (T:Tb) (h:fgT T [] [] s s []) (v:vwK T H T H2 True) (hn:(T.map (·.2.1)).Nodup) (hb:bsK m y8 T H):Fg m ⟨s,H⟩ ⟨s,H2⟩:=by
 have:=Fg.vw (M:=[]) T h v hn hb
 rwa [mx_nil] at this
theorem RngP.mk {P : Program} {G : Nat -> AV} {m : Nat} {gv : AV} {p : Nat} {x y : AC} {Q : EX -> St -> Prop} {s : List AV} {H : Hp} (f : FuncId) (cs l : List AV) (hg : fnA gv = some (f, cs)) (hp : cs.all AV.isP = true) (hs : SeqC P G f cs l) (α : Type) (J : Nat -> α -> Prop) (rows : α -> Hp) (x0 : α) (h0 : J 0 x0) (s' : List AV) (hH : Fg m ⟨s, H⟩ ⟨s', rows x0⟩)
  (h1:∀ k a e,J k a->l[k]? = some e->V P G (rows a).length x (asgQ (V P G (rows a).length y (RndQ m J rows s' (k+1)))) ⟨s'.set p e,rows a⟩)
  (h2:∀ a,J l.length a->Q .n ⟨s',rows a⟩):RngP P G m gv [p] x y Q s H :=
 .gen f cs (l.map fun a => [a]) hg hp (fun k e h => by
   simp only [List.getElem?_map,Option.map_eq_some_iff] at h
   obtain ⟨a,_,rfl⟩:=h;rfl) hs.list α J rows x0 h0 s' hH (fun k a e hj h=>by
   simp only [List.getElem?_map,Option.map_eq_some_iff] at h
   obtain ⟨b,hb,rfl⟩:=h
   exact h1 k a b hj hb) (fun a h=>h2 a (by rwa [List.length_map] at h))
theorem RngP.goL {P : Program} {G : Nat -> AV} {m : Nat} {gv : AV} {ps : List Nat} {x y : AC} {Q : EX -> St -> Prop} {s : List AV} {H : Hp} (f : FuncId) (cs : List AV) (l : List (List AV)) (hg : fnA gv = some (f, cs)) (hp : cs.all AV.isP = true) (hl : ∀ (k : Nat) e, l[k]? = some e -> e.length = ps.length) (hs : SeqL P G f cs l) (α : Type) (J : Nat -> α -> Prop) (rows : α -> Hp) (x0 : α) (h0 : J 0 x0) (M : List (Nat × Option AV)) (hH : Fg m ⟨s, H⟩ ⟨mx s M, rows x0⟩)
  (h1:∀ k a e,J k a->l[k]? = some e->mxK s M (fun s'=>V P G (rows a).length x (asgQ (V P G (rows a).length y (RndQ m J rows (mx s M) (k+1)))) ⟨XE ps e s',rows a⟩))
  (h2:∀ a,J l.length a->mxK s M (fun s'=>Q .n ⟨s',rows a⟩)):RngP P G m gv ps x y Q s H :=
 .gen f cs l hg hp hl hs α J rows x0 h0 _ hH (fun k a e hj he=>by have:=h1 k a e hj he;rwa [YU] at this) (fun a hj=>by have:=h2 a hj;rwa [YU] at this)
theorem RngP.go {P : Program} {G : Nat -> AV} {m : Nat} {gv : AV} {p : Nat} {x y : AC} {Q : EX -> St -> Prop} {s : List AV} {H : Hp} (f : FuncId) (cs l : List AV) (hg : fnA gv = some (f, cs)) (hp : cs.all AV.isP = true) (hs : SeqC P G f cs l) (α : Type) (J : Nat -> α -> Prop) (rows : α -> Hp) (x0 : α) (h0 : J 0 x0) (M : List (Nat × Option AV)) (hH : Fg m ⟨s, H⟩ ⟨mx s M, rows x0⟩)
  (h1:∀ k a e,J k a->l[k]? = some e->mxK s M (fun s'=>V P G (rows a).length x (asgQ (V P G (rows a).length y (RndQ m J rows (mx s M) (k+1)))) ⟨s'.set p e,rows a⟩))
  (h2:∀ a,J l.length a->mxK s M (fun s'=>Q .n ⟨s',rows a⟩)):RngP P G m gv [p] x y Q s H :=
 .mk f cs l hg hp hs α J rows x0 h0 _ hH (fun k a e hj he=>by have:=h1 k a e hj he;rwa [YU] at this) (fun a hj=>by have:=h2 a hj;rwa [YU] at this)
def A11:AF:=(AF.mk 17 [(4,none),(5,none)] (AC.seq (AC.region [(jA 4 (AOp.mv (jI 0))),(jA 5 (AOp.mv (jI 0)))]) (AC.seq (AC.region [(jA 6 (AOp.new 3 1 (jI 0))),(jB (AOp.store 1 (AX.t 6) (jI 0)))]) (AC.seq (AC.seq (AC.region [(jA 7 (AOp.mv (AX.t 0))),(jA 8 (AOp.mv (AX.t 1))),(jA 9 (AOp.call 27 [(AX.t 7),(AX.t 8)]))]) (AC.block 0 (AC.rng (AX.t 9) [10] AC.skip (AC.block 1 (AC.region [(jA 11 (AOp.load false 1 (AX.t 6))),(jA 12 (AOp.bin BinOp.add 3 false (Operand.tmp 11) (Operand.const (Value.int IntKind.i64 1)) (AX.t 11) (jI 1))),(jB (AOp.store 1 (AX.t 6) (AX.t 12)))]))))) (AC.seq (AC.draw [(jA 13 (AOp.load false 1 (AX.t 6))),(jA 14 (AOp.mv (AX.t 0))),(jA 15 (AOp.mv (AX.t 1))),(jA 16 (AOp.call 15 [(AX.t 14),(AX.t 15)])),(jA 4 (AOp.mv (AX.t 13))),(jA 5 (AOp.mv (AX.t 16)))]) AC.ret)))))
theorem cop11:copFX Tryd.prog [16,26,30,34,40,41,43,44,45,48,55,71,72,81,87,88,91,92] 11=some A11:=by kernel_rfl
open Go.RowKit Go.Shelf
theorem pv_box {F:Fz} {x:Value} {a:AV} (h:PV F x (.ad 1 [a] 0 0)) (ha:a.cells=[a]):∃ b o v,x = .pointer (some ⟨b,o,none⟩)/\F b o=some v/\PV F v a:=by
 cases h with
 | ad b o k es i off hk h1 f hf h =>
  exact ⟨b,o,f 0 0,rfl,hf 0 0 (by simp) (by omega),h 0 0 a a rfl (by rw [ha];rfl)⟩
theorem pv_ints {F:Fz} {v:Value} {L:List Int} (h:PV F v (.sl 1 (L.map iA))):∃ A cap,v = .slice A L.length cap/\L.length<=cap/\cap<=maxLen/\(L=[]\/∃ b o,A=some ⟨b,o,none⟩/\∀ i (hi:i < L.length),F b (o+i)=some (.int .i64 L[i])):=by
 cases h with
 | sl A n cap k es hn hc hm hk h1 b o hA f hf h =>
  have hn':L.length=n:=by simpa using hn
  refine ⟨A,cap,by rw [hn'],by omega,hm,?_⟩
  rcases Nat.eq_zero_or_pos L.length with h0|h0
  ·exact .inl (List.length_eq_zero_iff.1 h0)
  ·refine .inr ⟨b,o,hA (by omega),fun i hi=>?_⟩
   have h2:=hf i 0 (by omega) (by omega)
   have h3:=h i 0 (I L[i]) (I L[i]) (Xn hi) rfl
   rw [Nat.mul_one,Nat.add_zero] at h2
   rw [h2]
   generalize f i 0=y at h3
   cases h3;rfl
set_option maxHeartbeats 4000000 in
theorem seq32 (G:Nat->AV) (L:List Int) (hL:L.length<=1000000):SeqC Tryd.prog G 39 [.ad 1 [.sl 1 (L.map iA)] 0 0] (L.map iA):=by
 refine ⟨hb39,fun n lo F xs J W hg hxl hxv hfr hbel hY h0=>?_⟩
 obtain ⟨x0,rfl⟩:∃ x0,xs=[x0]:=by
  match xs,hxl with
  | [x],_=>exact ⟨x,rfl⟩
 obtain ⟨b,o,v,rfl,hbv,hv⟩:=pv_box (hxv 0 x0 _ rfl rfl) rfl
 obtain ⟨A,cap,rfl,hc1,hc2,hel⟩:=pv_ints hv
 have hcell:=hfr 0 W h0 b o _ hbv
 refine callsIn_of_wp Tryd.func39 rfl trivial ?_ rfl
 simp only [Tryd.ntmps39,List.size_toArray,List.length_cons,List.length_nil,Nat.reduceAdd,Nat.reduceSub,Array.replicate_succ,Array.replicate_zero,List.push_toArray,List.append_toArray,List.nil_append,List.cons_append]
 gi_wp2
 gi_loopw [7] (fun p wr=>∃ k:Nat,p = .int .i64 k/\k<=L.length/\J k wr) (fun p _=>L.length - (intOf p).toNat)
 case atStart =>
  exact ⟨0,rfl,Nat.zero_le _,h0⟩
 case round =>
  obtain ⟨k,rfl,hk,hJ⟩:=hrel
  by_cases hkl:k < L.length
  ·obtain ⟨b2,o2,rfl,hcells⟩:=hel.resolve_left (fun e=>by rw [e] at hkl;simp at hkl)
   have hc:=hfr k wr hJ b2 (o2+k) _ (hcells k hkl)
   obtain ⟨fn,tmps,assign,body,hy,hR⟩:=hY k wr (I L[k]) (.int .i64 L[k]) (n - 1) hJ (Xn hkl) (.v _ rfl)
   have hlt:(k:Int) < (L.length:Int):=by omega
   gi_wp2
   refine ⟨fun hh=>(by cases hh),hR.mono ?_⟩
   rintro e W3 ⟨rfl,hJ3⟩
   gi_wp2
   go_roundw
   case rel=>exact ⟨k+1,by simp,by omega,hJ3⟩
   case measure=>simp [intOf];omega
  ·obtain rfl : k = L.length := by omega
   gi_wp2
   go_end0
   exact ⟨⟨_,rfl⟩,by rw [List.length_map];exact hJ⟩
end Go.Proofs.YtfocijljkkfonaaDoor.Sim
namespace Go.Proofs.YtfocijljkkfonaaDoor.Sim
open Go.RowKit
set_option maxRecDepth 100000
theorem kop9:zI Tryd.prog [16,26,30,34,36,40,41,43,44,45,48,55,71,72,81,87,88,91,92] 9=some A9:=by kernel_rfl
theorem kop10:zI Tryd.prog [16,26,30,34,36,40,41,43,44,45,48,55,71,72,81,87,88,91,92] 10=some A10:=by kernel_rfl
theorem kop15:zI Tryd.prog [16,26,30,34,36,40,41,43,44,45,48,55,71,72,81,87,88,91,92] 15=some A15:=by kernel_rfl
theorem kop19:zI Tryd.prog [16,26,30,34,36,40,41,43,44,45,48,55,71,72,81,87,88,91,92] 19=some A19:=by kernel_rfl
theorem kop20:zI Tryd.prog [16,26,30,34,36,40,41,43,44,45,48,55,71,72,81,87,88,91,92] 20=some A20:=by kernel_rfl
theorem kop21:zI Tryd.prog [16,26,30,34,36,40,41,43,44,45,48,55,71,72,81,87,88,91,92] 21=some A21:=by kernel_rfl
theorem kop22:zI Tryd.prog [16,26,30,34,36,40,41,43,44,45,48,55,71,72,81,87,88,91,92] 22=some A22:=by kernel_rfl
theorem kop24:zI Tryd.prog [16,26,30,34,36,40,41,43,44,45,48,55,71,72,81,87,88,91,92] 24=some A24:=by kernel_rfl
theorem kop25:zI Tryd.prog [16,26,30,34,36,40,41,43,44,45,48,55,71,72,81,87,88,91,92] 25=some A25:=by kernel_rfl
theorem kop26:zI Tryd.prog [16,26,30,34,36,40,41,43,44,45,48,55,71,72,81,87,88,91,92] 26=some A26:=by kernel_rfl
theorem kop27:zI Tryd.prog [16,26,30,34,36,40,41,43,44,45,48,55,71,72,81,87,88,91,92] 27=some A27:=by kernel_rfl
theorem kop33:zI Tryd.prog [16,26,30,34,36,40,41,43,44,45,48,55,71,72,81,87,88,91,92] 33=some A33:=by kernel_rfl
theorem kop34:zI Tryd.prog [16,26,30,34,36,40,41,43,44,45,48,55,71,72,81,87,88,91,92] 34=some A34:=by kernel_rfl
theorem kop35:zI Tryd.prog [16,26,30,34,36,40,41,43,44,45,48,55,71,72,81,87,88,91,92] 35=some A35:=by kernel_rfl
theorem kop36:zI Tryd.prog [16,26,30,34,36,40,41,43,44,45,48,55,71,72,81,87,88,91,92] 36=some A36:=by kernel_rfl
theorem kop37:zI Tryd.prog [16,26,30,34,36,40,41,43,44,45,48,55,71,72,81,87,88,91,92] 37=some A37:=by kernel_rfl
theorem kop38:zI Tryd.prog [16,26,30,34,36,40,41,43,44,45,48,55,71,72,81,87,88,91,92] 38=some A38:=by kernel_rfl
theorem kop48:zI Tryd.prog [16,26,30,34,36,40,41,43,44,45,48,55,71,72,81,87,88,91,92] 48=some A48:=by kernel_rfl
theorem kop52:zI Tryd.prog [16,26,30,34,36,40,41,43,44,45,48,55,71,72,81,87,88,91,92] 52=some A52:=by kernel_rfl
theorem kop54:zI Tryd.prog [16,26,30,34,36,40,41,43,44,45,48,55,71,72,81,87,88,91,92] 54=some A54:=by kernel_rfl
theorem kop60:zI Tryd.prog [16,26,30,34,36,40,41,43,44,45,48,55,71,72,81,87,88,91,92] 60=some A60:=by kernel_rfl
theorem kop62:zI Tryd.prog [16,26,30,34,36,40,41,43,44,45,48,55,71,72,81,87,88,91,92] 62=some A62:=by kernel_rfl
theorem kop63:zI Tryd.prog [16,26,30,34,36,40,41,43,44,45,48,55,71,72,81,87,88,91,92] 63=some A63:=by kernel_rfl
theorem kop64:zI Tryd.prog [16,26,30,34,36,40,41,43,44,45,48,55,71,72,81,87,88,91,92] 64=some A64:=by kernel_rfl
theorem kop74:zI Tryd.prog [16,26,30,34,36,40,41,43,44,45,48,55,71,72,81,87,88,91,92] 74=some A74:=by kernel_rfl
def tabW:Tab:=Tab.of [(9,A9),(10,A10),(15,A15),(19,A19),(20,A20),(21,A21),(22,A22),(23,C23),(24,A24),(25,A25),(26,A26),(27,A27),(33,A33),(34,A34),(35,A35),(36,A36),(37,A37),(38,A38),(48,A48),(52,A52),(54,A54),(60,A60),(62,A62),(63,A63),(64,A64),(74,A74)]
theorem tabW_ok:tabW.Ok Tryd.prog [16,26,30,34,36,40,41,43,44,45,48,55,71,72,81,87,88,91,92]:=Tab.ok_cons kop9 hb9 (Tab.ok_cons kop10 hb10 (Tab.ok_cons kop15 hb15 (Tab.ok_cons kop19 hb19 (Tab.ok_cons kop20 hb20 (Tab.ok_cons kop21 hb21 (Tab.ok_cons kop22 hb22 (Tab.ok_cons dop23 hb23 (Tab.ok_cons kop24 hb24 (Tab.ok_cons kop25 hb25 (Tab.ok_cons kop26 hb26 (Tab.ok_cons kop27 hb27 (Tab.ok_cons kop33 hb33 (Tab.ok_cons kop34 hb34 (Tab.ok_cons kop35 hb35 (Tab.ok_cons kop36 hb36 (Tab.ok_cons kop37 hb37 (Tab.ok_cons kop38 hb38 (Tab.ok_cons kop48 hb48 (Tab.ok_cons kop52 hb52 (Tab.ok_cons kop54 hb54 (Tab.ok_cons kop60 hb60 (Tab.ok_cons kop62 hb62 (Tab.ok_cons kop63 hb63 (Tab.ok_cons kop64 hb64 (Tab.ok_cons kop74 hb74 (Tab.ok_nil))))))))))))))))))))))))))
def e1N:Nd:=⟨1,⟨#[97]⟩,⟨#[49]⟩,0,[],0,[],1,0⟩
def e2N:Nd:=⟨5,⟨#[]⟩,⟨#[]⟩,0,[],1,[],0,0⟩
def eHp:AV:=.sl 9 [.agg [I 1,S ⟨#[97]⟩,S ⟨#[49]⟩,.v (.int .u32 0),.sl 1 [],I 0,.sl 2 [],I 1,I 0],.agg [I 5,S ⟨#[]⟩,S ⟨#[]⟩,.v (.int .u32 0),.sl 1 [],I 1,.sl 2 [],I 0,I 0]]
section
variable (G:Nat->AV)
def isV (b:AV) (a:AV):Bool:=match a,b with
 | .tup [.v (.int .i64 x),.v (.int .i64 y)],.tup [.v (.int .i64 u),.v (.int .i64 w)]=>decide (x=u) && decide (y=w)
 | .v (.int .i64 x),.v (.int .i64 u)=>decide (x=u)
 | .fn f [.ad 1 [.sl 1 [.v (.int .i64 x),.v (.int .i64 y)]] 0 0],.fn g [.ad 1 [.sl 1 [.v (.int .i64 u),.v (.int .i64 w)]] 0 0]=>decide (f=g) && decide (x=u) && decide (y=w)
 | .tup [.sl 2 [.agg [.v (.string p),.v (.string q)]],.v (.int .i64 y)],.tup [.sl 2 [.agg [.v (.string p'),.v (.string q')]],.v (.int .i64 w)]=>decide (p=p') && decide (q=q') && decide (y=w)
 | _,_=>false
theorem isV_eq {a b:AV} (h:isV b a=true):a=b:=by
 unfold isV at h
 split at h<;>simp_all
theorem Ws {f:Nat} {as_:List AV} {b:AV} (h:runsTo Tryd.prog tabW 60 f as_ (isV b)=true):PC Tryd.prog G f as_ b:=by
 obtain ⟨r,h1,h2⟩:=runsTo_pc (G:=G) tabW_ok h
 rwa [isV_eq h1] at h2
theorem w15:PC Tryd.prog G 15 [eHp,I 2] (I 0):=Ws G (by kernel_rfl)
theorem w27:PC Tryd.prog G 27 [eHp,I 2] (.fn 39 [.ad 1 [.sl 1 [I 2,I 1]] 0 0]):=Ws G (by kernel_rfl)
theorem w21:PC Tryd.prog G 21 [eHp,I 2] (.tup [I 2,I 0]):=Ws G (by kernel_rfl)
theorem w10:PC Tryd.prog G 10 [eHp,I 2] (.tup [.sl 2 [.agg [S ⟨#[97]⟩,S ⟨#[49]⟩]],I 0]):=Ws G (by kernel_rfl)
set_option maxHeartbeats 4000000 in
theorem w11:PC Tryd.prog G 11 [eHp,I 2] (.tup [I 2,I 0]):=by
 have hm:=w15 G
 have hR:=w27 G
 have hS:=seq32 G [2,1] (by decide)
 obtain ⟨L,hL⟩:∃ L:List Int,L=[2,1]:=⟨_,rfl⟩
 have hl:L.length=2:=by rw [hL];rfl
 have eL:[I 2,I 1]=L.map iA:=by rw [hL];rfl
 rw [eL] at hR
 rw [<- hL] at hS
 clear hL eL
 unfold eHp at *
 have hl2:(L.map iA).length=2:=by rw [List.length_map,hl]
 refine pc_ofX cop11 ?_
 repeat' ((conv=>whnf);first|(with_reducible first|refine SeqP.go ?_|refine SeqX.sp ?_)|((refine ObD.mk ?_ ?_);exact zD)|((refine ObN.mk ?_ ?_);exact zN)|((with_reducible refine (?_:ObU _ _));(refine ObU.mk _ zU ?_))|((with_reducible refine (?_:ObR _ _ _));(first|(refine ObR.mk _ zA ?_)|(refine ObR.map zX (fun x hx=>?_))|(refine ObR.mk _ rfl ?_)))|((refine ObC.f 27 ?_);(refine ObC.mk _ (hR) ?_)))
 conv=>whnf
 refine RngP.mk 39 [.ad 1 [.sl 1 (L.map iA)] 0 0] (L.map iA) rfl rfl hS Nat (fun k a=>a=k/\k<=L.length) (fun a=>[⟨3,1,[I (a:Nat)],0,0⟩]) 0 ⟨rfl,Nat.zero_le _⟩ _ (Fg.goS rfl) ?_ ?_
 ·rintro k a e ⟨rfl, hk⟩ he
  have hkl:a < L.length:=by
   have:=(List.getElem?_eq_some_iff.1 he).1
   simpa using this
  repeat' ((conv=>whnf);first|((refine ObD.mk ?_ ?_);exact zD)|((refine ObN.mk ?_ ?_);exact zN)|((with_reducible refine ObI.nl ?_ ?_);omega)|((with_reducible refine (?_:ObU _ _));(refine ObU.mk _ zU ?_))|((with_reducible refine (?_:ObR _ _ _));(first|(refine ObR.mk _ zA ?_)|(refine ObR.map zX (fun x hx=>?_))|(refine ObR.mk _ rfl ?_))))
  conv=>whnf
  refine AgR.mk (a+1) ⟨rfl,by omega⟩ (Fg.goS rfl)
 ·rintro a ⟨ha, _⟩
  rw [hl2] at ha
  subst ha
  repeat' ((conv=>whnf);first|(with_reducible first|refine SeqP.go ?_|refine SeqX.sp ?_)|((refine ObD.mk ?_ ?_);exact zD)|((refine ObN.mk ?_ ?_);exact zN)|((with_reducible refine (?_:ObR _ _ _));(first|(refine ObR.mk _ zA ?_)|(refine ObR.map zX (fun x hx=>?_))|(refine ObR.mk _ rfl ?_)))|((refine ObC.f 15 ?_);(refine ObC.mk _ (hm) ?_))|((refine ObEq.mk ?_);exact zE))
set_option maxHeartbeats 2000000 in
theorem works8:PC Tryd.prog G 8 [] (Bo true):=by
 have h28:PC Tryd.prog G 19 [S ⟨#[97]⟩,S ⟨#[49]⟩] (nA e1N):=by
  refine zf cop19 ?_
  repeat' ((conv=>whnf);first|(refine SeqP.go ?_)|((refine ObD.mk ?_ ?_);exact zD)|((refine ObN.mk ?_ ?_);exact zN)|((with_reducible refine (?_:ObU _ _));(refine ObU.mk _ zU ?_))|((with_reducible refine (?_:ObR _ _ _));(first|(refine ObR.mk _ zA ?_)|(refine ObR.map zX (fun x hx=>?_))|(refine ObR.mk _ rfl ?_)))|((refine ObEq.mk ?_);exact zE))
 have h29:PC Tryd.prog G 20 [I 1] (nA e2N):=by
  refine zf cop20 ?_
  repeat' ((conv=>whnf);first|(refine SeqP.go ?_)|((refine ObD.mk ?_ ?_);exact zD)|((refine ObN.mk ?_ ?_);exact zN)|((with_reducible refine (?_:ObU _ _));(refine ObU.mk _ zU ?_))|((with_reducible refine (?_:ObR _ _ _));(first|(refine ObR.mk _ zA ?_)|(refine ObR.map zX (fun x hx=>?_))|(refine ObR.mk _ rfl ?_)))|((refine ObEq.mk ?_);exact zE))
 have h13:=w11 G
 have h14:=w21 G
 have h6:=w10 G
 have hl1:[AV.agg [S (⟨#[97]⟩:ByteArray),S ⟨#[49]⟩]].length=1:=rfl
 unfold eHp at *
 refine zf cop8 ?_
 repeat' ((conv=>whnf);first|(refine SeqP.go ?_)|((refine ObD.mk ?_ ?_);exact zD)|((refine ObN.mk ?_ ?_);exact zN)|(refine ObT.tt ?_)|((refine ObB.yes ?_ ?_);exact zB)|((with_reducible refine (?_:ObL _ _));(refine ObL.mk _ (by first|exact hl1|assumption|exact (List.length_map _).trans (by assumption)|exact List.length_map _|rfl) ?_))|((with_reducible refine (?_:ObU _ _));(refine ObU.mk _ zU ?_))|((refine ObC.f 19 ?_);(refine ObC.mk _ (h28) ?_))|((refine ObC.f 20 ?_);(refine ObC.mk _ (h29) ?_))|((refine ObC.f 11 ?_);(refine ObC.mk _ (h13) ?_))|((refine ObC.f 21 ?_);(refine ObC.mk _ (h14) ?_))|((refine ObC.f 10 ?_);(refine ObC.mk _ (h6) ?_))|((refine ObEq.mk ?_);exact zE))
end
theorem fewL_sz:∀ {n w:Nat} {l:List Nd},(∀ x ∈ l,i64 x.sz)->∀ x ∈ ZS n w l,i64 x.sz:=by
 intro n
 induction n with
 | zero=>intro w l _ x hx;simp [ZS] at hx
 | succ n ih =>
  intro w l hl x hx
  cases l with
  | nil=>simp [ZS] at hx
  | cons y t =>
   simp only [ZS] at hx
   split at hx
   ·simp at hx
   ·rcases List.mem_cons.1 hx with h | h
    ·rw [h];exact hl y (by simp)
    ·exact ih (fun z hz=>hl z (by simp [hz])) x h
noncomputable def sameR (h:List Nd) (r:Int) (g:List Nd) (s:Int):Bool:=okR h r && okR g s && shB h g r.toNat r s
structure Hpq (h:List Nd):Prop where
 l:h.length<=1000
 x:∀ x ∈ h,x.Ok
 z:∀ x ∈ h,i64 x.sz
theorem xM {h:List Nd} (hh:OkL h) (n:Nat):OkL (h.take n):=fun i hi=>by
 have hi':i < h.length:=by simp at hi;omega
 rw [List.getElem_take]
 exact hh i hi'
section
variable (G:Nat->AV)
set_option maxHeartbeats 4000000 in
theorem dsame7 (h g:List Nd) (hh:Hpq h) (hg:Hpq g) (r s:Int) (R:Bool) (hR:R=sameR h r g s):PC Tryd.prog G 7 [.sl 9 (h.map nA),I r,.sl 9 (g.map nA),I s] (Bo R):=by
 have c1:=fits9 G h hh.l hh.x r _ rfl
 have c2:=fits9 G g hg.l hg.x s _ rfl
 unfold sameR at hR
 cases e1:okR h r
 ·rw [e1] at c1 hR
  obtain rfl:R=false:=by rw [hR];rfl
  refine zf cop7 ?_
  repeat' ((conv=>whnf);first|(with_reducible first|refine SeqP.go ?_|refine ObT.ff ?_)|((refine ObC.f 17 ?_);(refine ObC.mk _ (c1) ?_))|((refine ObEq.mk ?_);exact zE))
 ·cases e2 : okR g s
  ·rw [e1] at c1; rw [e2] at c2
   obtain rfl:R=false:=by rw [hR,e2];simp
   refine zf cop7 ?_
   repeat' ((conv=>whnf);first|(with_reducible first|refine SeqP.go ?_|refine ObT.tt ?_|refine ObT.ff ?_)|((refine ObC.f 17 ?_);(refine ObC.mk _ (c1) ?_))|((refine ObC.f 17 ?_);(refine ObC.mk _ (c2) ?_))|((refine ObEq.mk ?_);exact zE))
  ·rw [e1] at c1; rw [e2] at c2
   rw [e1,e2,Bool.true_and,Bool.true_and] at hR
   simp only [okR,Bool.and_eq_true,decide_eq_true_eq] at e1 e2
   have c3:=shp18 G h g hh.l hg.l (Wz e1.2) (Wz e2.2) hh.x hg.x r.toNat r s e1.1.1 (by omega) e1.1.2 e2.1.1 e2.1.2
   rw [<- hR] at c3
   clear e1 e2 hR
   refine zf cop7 ?_
   repeat' ((conv=>whnf);first|(with_reducible first|refine SeqP.go ?_|refine ObT.tt ?_)|((refine ObC.f 17 ?_);(refine ObC.mk _ (c1) ?_))|((refine ObC.f 17 ?_);(refine ObC.mk _ (c2) ?_))|((refine ObC.f 18 ?_);(refine ObC.mk _ (c3) ?_))|((refine ObEq.mk ?_);exact zE))
variable (hI:ItC G)
include hI
set_option maxHeartbeats 8000000 in
theorem same6 (h g:List Nd) (hh:Hpq h) (hg:Hpq g) (r s:Int) (R:Bool) (hR:R=sameR h r g s):PC Tryd.prog G 6 [.sl 9 (h.map nA),I r,.sl 9 (g.map nA),I s] (Bo R):=by
 have c1:=may21 G h hh.l hh.x r _ rfl
 have c2:=may21 G g hg.l hg.x s _ rfl
 unfold sameR at hR
 cases e1:okR h r
 ·rw [e1] at c1 hR
  obtain rfl:R=false:=by rw [hR];rfl
  simp only [eo] at c1
  refine zf cop6 ?_
  repeat' ((conv=>whnf);first|(refine SeqP.go ?_)|((refine ObN.mk ?_ ?_);exact zN)|(refine ObT.tt ?_)|((refine ObB.no ?_ ?_);exact zC)|((refine ObC.f 15 ?_);(refine ObC.mk _ (c1) ?_))|((refine ObEq.mk ?_);exact zE))
 cases e2:okR g s
 ·rw [e1] at c1; rw [e2] at c2
  obtain rfl:R=false:=by rw [hR,e2];simp
  simp only [eo] at c1 c2
  refine zf cop6 ?_
  repeat' ((conv=>whnf);first|(refine SeqP.go ?_)|((refine ObN.mk ?_ ?_);exact zN)|(with_reducible first|refine ObT.tt ?_|refine ObT.ff ?_)|((refine ObB.yes ?_ ?_);exact zB)|((refine ObB.no ?_ ?_);exact zC)|((refine ObC.f 15 ?_);(refine ObC.mk _ (c1) ?_))|((refine ObC.f 15 ?_);(refine ObC.mk _ (c2) ?_))|((refine ObEq.mk ?_);exact zE))
 rw [e1] at c1;rw [e2] at c2
 rw [e1,e2,Bool.true_and,Bool.true_and] at hR
 simp only [eo] at c1 c2
 simp only [okR,Bool.and_eq_true,decide_eq_true_eq] at e1 e2
 obtain ⟨⟨a0,a1⟩,a2⟩:=e1
 obtain ⟨⟨b0,b1⟩,b2⟩:=e2
 have okh:=Wz a2
 have okg:=Wz b2
 obtain ⟨n,rfl⟩:∃ n:Nat,r=(n:Int):=⟨r.toNat,by omega⟩
 obtain ⟨m,rfl⟩:∃ m:Nat,s=(m:Int):=⟨s.toNat,by omega⟩
 have ln:(h.take n).length=n:=by simp;omega
 have lm:(g.take m).length=m:=by simp;omega
 have hl:=hh.l
 have gl:=hg.l
 have d1:=shp16 G hI (h.take n) (by omega) (xM okh n) (fun x hx=>hh.x x (List.mem_of_mem_take hx)) (fun x hx=>hh.z x (List.mem_of_mem_take hx)) [] (by simp)
 have v1:=shI (xM okh n) (K:=[]) (i:=n) (by omega)
 have w1:=Y4 (h:=h.take n) (K:=[]) (i:=n)
 rw [ln] at d1 w1
 have e0:mR []=⟨4000000000,3,[.agg [I (0:Nat),Bo false,Bo false]],0,0⟩:=rfl
 rw [e0] at d1
 obtain ⟨s1,es1⟩:∃ s1,s1=shS (h.take n) [] n:=⟨_,rfl⟩
 rw [<- es1] at d1 v1 w1
 obtain ⟨K1,x⟩:=s1
 dsimp only at d1 v1 w1
 have kb:=v1.b
 dsimp only [List.length_nil] at kb
 have d2:=shp16 G hI (g.take m) (by omega) (xM okg m) (fun x hx=>hg.x x (List.mem_of_mem_take hx)) (fun x hx=>hg.z x (List.mem_of_mem_take hx)) K1 (by omega)
 have v2:=shI (xM okg m) (K:=K1) (i:=m) (by omega)
 have w2:=Y4 (h:=g.take m) (K:=K1) (i:=m)
 rw [lm] at d2 w2
 obtain ⟨s2,es2⟩:∃ s2,s2=shS (g.take m) K1 m:=⟨_,rfl⟩
 rw [<- es2] at d2 v2 w2
 obtain ⟨K2,y⟩:=s2
 dsimp only at d2 v2 w2
 have hB:=shB_iff okh okg (x:=x) (y:=y) (K:=K2) (R:=n) (T:=m) (by omega) (by omega) v1.z v2.z
  (fun j hj hjn=>by
   obtain ⟨q1,q2⟩:=v1.t j (by omega) hjn
   rw [List.getElem_take] at q1 q2
   dsimp only at q1 q2
   obtain ⟨q3,q4⟩:=v2.o _ q1
   exact ⟨q3,by rw [q2];exact q4.symm⟩)
  (fun j hj hjm=>by
   obtain ⟨q1,q2⟩:=v2.t j (by omega) hjm
   rw [List.getElem_take] at q1 q2
   exact ⟨q1,q2⟩) n n m (by omega) (by omega) (by omega) (by omega) (by omega)
 rw [Int.toNat_natCast] at hR
 rw [<- hR] at hB
 have r1:=id_at (ids:=x) (r:=(n:Int)) (by omega) (by omega)
 have r2:=id_at (ids:=y) (r:=(m:Int)) (by omega) (by omega)
 have u1:(h.map nA).take n=(h.take n).map nA:=by rw [List.map_take]
 have u2:(g.map nA).take m=(g.take m).map nA:=by rw [List.map_take]
 have lx:(x.map (fun n:Nat=>I (n:Int))).length=n+1:=by rw [List.length_map];exact w1
 have ly:(y.map (fun n:Nat=>I (n:Int))).length=m+1:=by rw [List.length_map];exact w2
 have n1:=mR_nr (K:=K1)
 have n2:=mR_nr (K:=K2)
 have n3:=nr_id x
 have n4:=nr_id y
 clear es1 es2 v1 v2 hR okh okg a2 b2 hh hg e0
 generalize idF x (n:Int)=p at *
 generalize idF y (m:Int)=q at *
 have hlm:(h.map nA).length=h.length:=by simp
 have glm:(g.map nA).length=g.length:=by simp
 unfold mR idR at *
 cases R
 ·have hpq : ¬ (p : Int) = (q : Int) := by
   intro e
   have:=hB.2 (by omega)
   cases this
  refine zf cop6 ?_
  repeat' ((conv=>whnf);first|(with_reducible first|refine SeqP.go ?_|refine ObAnd.mk ?_ ?_|refine ObDx.dyn ?_)|((refine ObD.mk ?_ ?_);exact zD)|((refine ObN.mk ?_ ?_);exact zN)|(refine ObT.ff ?_)|((refine ObB.yes ?_ ?_);exact zB)|((refine ObB.no ?_ ?_);exact zC)|((refine ObX.mk _ rfl ?_ ?_);exact zX)|((with_reducible refine (?_:ObU _ _));(refine ObU.mk _ zq2 ?_))|((with_reducible refine (?_:ObR _ _ _));(first|(refine ObR.mk _ (by assumption) ?_)|(refine ObR.mk _ (by exact r1) ?_)|(refine ObR.mk _ (by exact r2) ?_)|(refine ObR.mk _ yy ?_)|(refine ObR.map zX (fun x hx=>?_))|(refine ObR.mk _ rfl ?_)))|((refine ObC.f 15 ?_);(refine ObC.mk _ (c1) ?_))|((refine ObC.f 15 ?_);(refine ObC.mk _ (c2) ?_))|((refine ObH.f 16 ?_);(first|(with_reducible refine ObH.mk _ _ (d1) ?_)|(refine ObH.mk _ _ (d1) ?_)))|((refine ObH.f 16 ?_);refine ObH.frn _ Yy [(0,0,0)] (d2) (by simp) rfl (by simp) ?_)|((with_reducible refine ObJ.zn ?_ ?_);exact zX)|((refine ObEq.mk ?_);exact zE)|((with_reducible refine ObRow.same ?_ ?_ ?_);exact zE;(focus (first|rfl|assumption|(simp;done))))|((with_reducible refine ObAs.mk ?_ ?_);(focus (first|rfl|(simp [rnB,rnC,rnL];done))))|((with_reducible refine (?_:ObRs _ _ _));(refine ObRs.mk _ rfl ?_))|((with_reducible refine ObBk.same ?_ ?_);(focus (first|rfl|assumption|(simp;done)))))
 ·have hpq : (p : Int) = (q : Int) := by
   have:=hB.1 rfl
   omega
  refine zf cop6 ?_
  repeat' ((conv=>whnf);first|(with_reducible first|refine SeqP.go ?_|refine ObAnd.mk ?_ ?_|refine ObDx.dyn ?_)|((refine ObD.mk ?_ ?_);exact zD)|((refine ObN.mk ?_ ?_);exact zN)|(refine ObT.ff ?_)|((refine ObB.yes ?_ ?_);exact zB)|((refine ObX.mk _ rfl ?_ ?_);exact zX)|((with_reducible refine (?_:ObU _ _));(refine ObU.mk _ zq2 ?_))|((with_reducible refine (?_:ObR _ _ _));(first|(refine ObR.mk _ (by assumption) ?_)|(refine ObR.mk _ (by exact r1) ?_)|(refine ObR.mk _ (by exact r2) ?_)|(refine ObR.mk _ yy ?_)|(refine ObR.map zX (fun x hx=>?_))|(refine ObR.mk _ rfl ?_)))|((refine ObC.f 15 ?_);(refine ObC.mk _ (c1) ?_))|((refine ObC.f 15 ?_);(refine ObC.mk _ (c2) ?_))|((refine ObH.f 16 ?_);(first|(with_reducible refine ObH.mk _ _ (d1) ?_)|(refine ObH.mk _ _ (d1) ?_)))|((refine ObH.f 16 ?_);refine ObH.frn _ Yy [(0,0,0)] (d2) (by simp) rfl (by simp) ?_)|((with_reducible refine ObJ.zn ?_ ?_);exact zX)|((refine ObEq.mk ?_);exact zE)|((with_reducible refine ObRow.same ?_ ?_ ?_);exact zE;(focus (first|rfl|assumption|(simp;done))))|((with_reducible refine ObAs.mk ?_ ?_);(focus (first|rfl|(simp [rnB,rnC,rnL];done))))|((with_reducible refine (?_:ObRs _ _ _));(refine ObRs.mk _ rfl ?_))|((with_reducible refine ObBk.same ?_ ?_);(focus (first|rfl|assumption|(simp;done)))))
omit hI in
theorem hpq_few {h0:List Nd} (hx0:∀ x ∈ h0,x.Wd) (hz0:∀ x ∈ h0,i64 x.sz):Hpq (ZS 12 1 h0):=by
 have:=fewL_len (n:=12) (w:=1) (l:=h0)
 exact ⟨by omega,fewL_ok hx0,fewL_sz hz0⟩
set_option maxHeartbeats 4000000 in
theorem law3 (h0 : List Nd) (hl0 : h0.length <= 9223372036854775807) (hx0 : ∀ x ∈ h0, x.Wd) (hz0 : ∀ x ∈ h0, i64 x.sz) (r : Int) (g0 : List Nd) (gl0 : g0.length <= 9223372036854775807) (gx0 : ∀ x ∈ g0, x.Wd) (gz0 : ∀ x ∈ g0, i64 x.sz) (s : Int) :
  PC Tryd.prog G 3 [.sl 9 (h0.map nA),I r,.sl 9 (g0.map nA),I s] (Bo true):=by
 have c5:=few5 G h0 hl0 hx0
 have c5b:=few5b G h0 hl0 hx0
 have d5:=few5 G g0 gl0 gx0
 have d5b:=few5b G g0 gl0 gx0
 have hh:=hpq_few hx0 hz0
 have hg:=hpq_few gx0 gz0
 obtain ⟨R,hR⟩:∃ R,R=sameR (ZS 12 1 h0) r (ZS 12 1 g0) s:=⟨_,rfl⟩
 have c6:=same6 G hI _ _ hh hg r s R hR
 have c7:=dsame7 G _ _ hh hg r s R hR
 have c8:=works8 G
 clear hh hg hR
 generalize ZS 12 1 h0=h at *
 generalize ZS 12 1 g0=g at *
 cases R
 all_goals refine zf cop3 ?_
 all_goals repeat' ((conv=>whnf);first|(refine SeqP.go ?_)|((refine ObN.mk ?_ ?_);exact zN)|(with_reducible first|refine ObT.tt ?_|refine ObT.ff ?_)|((refine ObC.f 5 ?_);(refine ObC.mk _ (c5) ?_))|((refine ObC.f 5 ?_);(refine ObC.mk _ (c5b) ?_))|((refine ObC.f 5 ?_);(refine ObC.mk _ (d5) ?_))|((refine ObC.f 5 ?_);(refine ObC.mk _ (d5b) ?_))|((refine ObC.f 6 ?_);(refine ObC.mk _ (c6) ?_))|((refine ObC.f 7 ?_);(refine ObC.mk _ (c7) ?_))|((refine ObC.f 8 ?_);(refine ObC.mk _ (c8) ?_))|((refine ObEq.mk ?_);exact zE))
end
theorem HeapSame_calls (as0 as1 as2 as3:List AV) (s0:ShC Tryd.prog 22 as0) (s1:ShC Tryd.prog 3 as1) (s2:ShC Tryd.prog 22 as2) (s3:ShC Tryd.prog 3 as3):PC Tryd.prog wH 3 [mkE (Zx Tryd.prog 22) as0,mkE (Zx Tryd.prog 3) as1,mkE (Zx Tryd.prog 22) as2,mkE (Zx Tryd.prog 3) as3] (Bo true):=by
 obtain ⟨h,h0,h6,h7⟩:=heap_inv s0
 obtain ⟨n,h1,h2⟩:=int_inv s1
 obtain ⟨g,g0,g6,g7⟩:=heap_inv s2
 obtain ⟨m,g1,g2⟩:=int_inv s3
 have e1:Zx Tryd.prog 22=false:=by kernel_rfl
 have e2:Zx Tryd.prog 3=false:=by kernel_rfl
 rw [e1,e2,h0,h1,g0,g1]
 exact law3 wH itC h h6 (fun x hx=>(h7 x hx).1) (fun x hx=>(h7 x hx).2) n g g6 (fun x hx=>(g7 x hx).1) (fun x hx=>(g7 x hx).2) m
open Go.RowKit Go.ChangeShapes Go.WideShapes Go.ChangeAt
theorem laid_pow:(Rows.laid_internal_strconv_uint64pow10:DataW Unit) = .agg (pow10s.map fun z=>.lit (.int .u64 z)):=by
 rfl
theorem tabAll {W:World} (h:laidMetH Tryd.prog [("math/bits.deBruijn32tab",Rows.laid_math_bits_deBruijn32tab),("math/bits.deBruijn64tab",Rows.laid_math_bits_deBruijn64tab),("internal/strconv.uint64pow10",Rows.laid_internal_strconv_uint64pow10)] W):TabP W:=by
 rw [MakeChecks.laidMetH_plain _ _ _ (by kernel_rfl)] at h
 obtain ⟨ps,⟨_,_,_,_,p0,q0,_,_,_,_,⟨_,_,_,_,p1,q1,_,_,_,_,⟨g,t,cs,fuel,p,q,hg,ht,hv,hd,_,_⟩,_⟩,_⟩,_,_⟩:=h
 obtain rfl:=Option.some.inj ((show Tryd.prog.globalNamed "internal/strconv.uint64pow10" = some 0 by kernel_rfl).symm.trans hg)
 obtain rfl:=Option.some.inj ((show (Tryd.prog.globals[0]?).map (·.type)=some 117 by kernel_rfl).symm.trans ht)
 obtain ⟨xs,m,_,ex,_,hl,hel⟩:=DataW.trod_array Tryd.underlying117 hd
 have c5:Tryd.prog.cellsOf 107=1:=by kernel_rfl
 intro i hi
 have hE:=hel i hi
 rw [c5] at hE
 have e3:(xs.map (·.1))[i]? = some (.lit (.int .u64 ((10 ^ i:Nat):Int))):=by
  rw [<- DataW.agg.inj ((Prod.mk.inj ex).1.symm.trans laid_pow).symm,List.getElem?_map,Xj hi]
  rfl
 rw [List.getElem?_map] at e3
 cases hx:xs[i]? with
 | none=>rw [hx] at e3;cases e3
 | some x =>
  rw [hx] at e3 hE
  obtain ⟨b',e1,e2⟩:=DataW.trod_int Tryd.underlying107 hE
  rw [World.var?_cell hg hv i]
  obtain ⟨e2,_⟩:=e2
  subst e2
  have eb:b'=((10 ^ i:Nat):Int):=by
   have:=Option.some.inj e3
   exact (Lit.int.inj (DataW.lit.inj this)).2
  rw [<- eb]
  have h0:(List.take 1 (List.drop (i * 1) cs.toList))[0]? = some (.int .u64 b'):=by rw [e1];rfl
  simpa [List.getElem?_take,List.getElem?_drop] using h0
end Go.Proofs.YtfocijljkkfonaaDoor.Sim
