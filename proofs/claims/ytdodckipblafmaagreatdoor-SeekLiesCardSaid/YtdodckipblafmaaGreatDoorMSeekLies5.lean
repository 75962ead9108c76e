/- Texts of this claim, part 5. -/
import Derived.Deep.AppendLies
import Derived.Deep.LoopGhost
import Derived.LaidMore
import Derived.Laws.AppendOwnNone
import Derived.Laws.BitsAllLaws
import Derived.Laws.OwnMore
import Derived.Lay
import Derived.Lib.Tables
import Derived.Lib.TrailingZeros
import Derived.LoopNIn
import Derived.Maps.AppendAt
import Derived.OpenShut
import Derived.OrdersIn
import Derived.OwnWalk
import Derived.RangeFuncRecord
import Derived.RegionTactic
import Derived.Stop.Joined
import Derived.TacticsIn
import Derived.Test.YtdodckipblafmaaGreatDoorMSeekLies4
set_option linter.unusedVariables false
set_option linter.unusedSimpArgs false
namespace Go.Proofs.YtdodckipblafmaaGreatDoor.Sim
open Go.RowKit
set_option maxRecDepth 100000
noncomputable def okc (b:Int) (p:List Nat) (q:Pr):Bool:=(List.range p.length).all fun i=>decide (cN b (i:Int) q.1=p.getD i 0)
noncomputable def bdL (b:Int) (p:List Nat):List Pr->Nat->Bool × Nat
 | [],c=>(true,c)
 | q::l,c=>if okc b p q=true then bdL b p l (c+1) else (false,c+1)
abbrev wR (hv:List AV) (b c:Int):OB:=⟨76,3,[.agg [.sl 9 hv,I b,I c]],0,0⟩
def iN (j:Nat):AV:=I (j:Int)
abbrev pO (p:List Nat):OB:=⟨3,1,p.map iN,0,0⟩
theorem iN_at {p:List Nat} {k:Nat} (h:k < p.length):(p.map iN)[k]? = some (I ((p.getD k 0:Nat):Int)):=by simp [h,iN]
theorem Xb (p:List Nat):(p.map iN).all nrB=true:=by simp [nrB,AV.cells,iN]
theorem okc_nil {b:Int} {q:Pr}:okc b [] q=true:=by simp [okc]
theorem okc_at {b:Int} {p:List Nat} {q:Pr} {i:Nat} (h:i < p.length) (hn:¬ cN b (i:Int) q.1=p.getD i 0):okc b p q=false:=by
 unfold okc
 rw [List.all_eq_false]
 exact ⟨i,List.mem_range.2 h,by simpa using hn⟩
theorem okc_all {b:Int} {p:List Nat} {q:Pr} (h:∀ i,i < p.length->cN b (i:Int) q.1=p.getD i 0):okc b p q=true:=by
 unfold okc
 rw [List.all_eq_true]
 intro i hi
 simpa using h i (List.mem_range.1 hi)
theorem bdL_at {b:Int} {p:List Nat}:∀ {l:List Pr} {k c:Nat},k < l.length->(∀ q ∈ l.take k,okc b p q=true)->bdL b p l c=bdL b p (l.drop k) (c+k)
 | l,0,c,_,_=>by simp
 | [],k+1,c,h,_=>by simp at h
 | q::l,k+1,c,h,hq=>by
  rw [bdL,if_pos (hq q (by simp)),List.drop_succ_cons]
  by_cases hk:k < l.length
  ·rw [bdL_at hk fun q h=>hq q (by simp [h])]
   congr 1;omega
  ·simp at h;omega
theorem wH {b:Int} {p:List Nat}:∀ {l:List Pr} {c:Nat},(∀ q ∈ l,okc b p q=true)->bdL b p l c=(true,c+l.length)
 | [],c,_=>by simp [bdL]
 | q::l,c,h=>by
  rw [bdL,if_pos (h q (by simp)),wH fun q' h'=>h q' (List.mem_cons_of_mem _ h'),List.length_cons]
  congr 1;omega
section
variable (G:Nat->AV)
set_option maxHeartbeats 8000000 in
theorem bnd68 (hv : List AV) (b : Int) (hb : i64 b) (kn : Int) (ke va : ByteArray) (mp : Int) (kk : List Int) (mn : Int) (ls : List Pr) (sz bi : Int) (l : List Pr) (hl : l.length <= 1000000) (hs : ∀ p ∈ l, p.1.size <= 100000) (c57 : PC Tryz.prog G 57 [nV kn ke va mp kk mn ls sz bi] (.sl 2 (l.map pA)))
  (p:List Nat) (h0:p.length ≠ 0) (hp:p.length<=1000) (c:Nat) (hc:c<=1000000000) (r:Bool) (m:Int) (hr:r=(bdL b p l c).1) (hm:m=((bdL b p l c).2:Nat)) :
  HC Tryz.prog G 68 [.oa 0 0 0 0,nV kn ke va mp kk mn ls sz bi,.ol 1 0 p.length] [wR hv b c,pO p] (Bo r) [wR hv b m,pO p]:=by
 have hnr:=Xb p
 refine Zq cop68 rfl ?_
 repeat' ((conv=>whnf);first|(refine SeqP.go ?_)|((refine ObD.mk ?_ ?_);(focus (first|rfl|(simp;done)|(simp [zy,geB,AOp.cls,AOp.xs,ltB,ltC,AX.ev,zh];done))))|((refine ObN.mk ?_ ?_);exact zN)|((with_reducible refine (?_:ObL _ _));(refine ObL.mk _ zM ?_))|((with_reducible refine (?_:ObR _ _ _));(first|(refine ObR.mk _ zG ?_)|(refine ObR.map zX (fun x hx=>?_))|(refine ObR.mk _ rfl ?_)))|((refine ObC.f 57 ?_);(refine ObC.mk _ (c57) ?_)))
 conv=>whnf
 refine LoopP.go (α:=Nat × Int) (fun a=>a.1<=l.length/\a.2=(c:Int)+(a.1:Int)/\∀ q ∈ l.take a.1,okc b p q=true) (fun a=>l.length - a.1) (fun a=>[(6,none),(1,none),(0,none),(0,none),(0,none),(3,some (I a.1)),(0,none),(0,none),(0,none),(0,none),(0,none),(0,none),(0,none),(0,none),(0,none),(0,none),(0,none),(0,none),(0,none),(0,none),(0,none),(0,none),(0,none),(0,none),(0,none),(0,none),(0,none),(0,none),(0,none),(0,none),(0,none),(0,none),(0,none),(0,none),(0,none),(0,none),(0,none),(0,none),(0,none),(0,none),(0,none)]) (fun a=>[wR hv b a.2,pO p,⟨57,9,[nV kn ke va mp kk mn ls sz bi],0,0⟩]) (0,(c:Int)) ⟨Nat.zero_le _,by simp,by simp⟩ (Fg.go ?_ rfl) ?_
 ·repeat' ((conv=>whnf);first|((refine ObEqs.mk ?_ ?_);rfl)|((with_reducible refine ObEq1.i ?_ ?_);exact zF)|exact True.intro)
 rintro ⟨k,n⟩ ⟨hk,hn,hq⟩
 dsimp only at hk hn hq ⊢
 by_cases hkl:k < l.length
 ·have hat := zH hkl
  have hsz:=hs _ (List.getElem_mem hkl)
  have hb1:bdL b p l c=bdL b p (l.drop k) (c+k):=bdL_at hkl hq
  rw [List.drop_eq_getElem_cons hkl,bdL] at hb1
  have htk:l.take (k+1)=l.take k++[l[k]]:=List.take_succ_eq_append_getElem hkl
  generalize l[k]=q at *
  have c36:=of36 G q.1 b (by omega) hb
  have c61:∀ i:Int,i64 i->PC Tryz.prog G 61 [.v (.int .u64 ((hN q.1 b:Nat):Int)),I i,I b] (I (cN b i q.1:Nat)):=fun i hi=>ch61 G _ i b (yX _ _) hi hb
  have hlt:=yX q.1 b
  generalize hN q.1 b=X at *
  repeat' ((conv=>whnf);first|(refine SeqP.go ?_)|((refine ObD.mk ?_ ?_);(focus (first|rfl|(simp;done)|(simp [zy,geB,AOp.cls,AOp.xs,ltB,ltC,AX.ev,zh];done))))|((refine ObN.mk ?_ ?_);exact zN)|(refine ObT.tt ?_)|((refine ObB.yes ?_ ?_);exact zB)|((with_reducible refine ObI.mk _ rfl ?_ ?_ ?_);omega;omega)|((refine ObX.mk _ rfl ?_ ?_);exact zX)|((with_reducible refine (?_:ObU _ _));(refine ObU.mk _ zU ?_))|((with_reducible refine (?_:ObR _ _ _));(first|(refine ObR.mk _ zG ?_)|(refine ObR.map zX (fun x hx=>?_))|(refine ObR.mk _ rfl ?_)))|((refine ObC.f 36 ?_);(refine ObC.mk _ (c36) ?_)))
  conv=>whnf
  refine LoopP.go (α:=Nat) (fun i=>i<=p.length/\∀ j,j < i->cN b (j:Int) q.1=p.getD j 0) (fun i=>p.length - i) (fun i=>[(6,none),(3,none),(0,none),(23,some (I i)),(0,none),(0,none),(0,none),(0,none),(0,none),(0,none),(0,none),(0,none),(0,none),(0,none),(0,none),(0,none),(0,none),(0,none)]) (fun i=>[wR hv b (n+1),pO p,⟨57,9,[nV kn ke va mp kk mn ls sz bi],0,0⟩,⟨31,2,[.agg [S q.1,S q.2]],0,0⟩]) 0 ⟨Nat.zero_le _,fun j hj=>by omega⟩ (Fg.go ?_ rfl) ?_
  ·repeat' ((conv=>whnf);first|((refine ObEqs.mk ?_ ?_);rfl)|((with_reducible refine ObEq1.i ?_ ?_);exact zF)|exact True.intro)
  rintro i ⟨hi,hj⟩
  by_cases hip:i < p.length
  ·have iat := iN_at hip
   have c61i:=c61 i (by unfold i64;omega)
   by_cases hne:cN b (i:Int) q.1=p.getD i 0
   ·rw [hne] at c61i
    have hj':∀ j,j < i+1->cN b (j:Int) q.1=p.getD j 0:=fun j h=>by
     rcases Nat.lt_or_eq_of_le (Nat.lt_succ_iff.1 h) with h|rfl
     ·exact hj j h
     ·exact hne
    generalize p.getD i 0=d at *
    repeat' ((conv=>whnf);first|(refine SeqP.go ?_)|((refine ObN.mk ?_ ?_);exact zN)|(with_reducible first|refine ObT.tt ?_|refine ObT.ff ?_)|((refine ObB.yes ?_ ?_);exact zB)|((with_reducible refine ObI.nl ?_ ?_);omega)|((refine ObX.mk _ rfl ?_ ?_);exact zX)|((with_reducible refine (?_:ObR _ _ _));(first|(refine ObR.mk _ zG ?_)|(refine ObR.map zX (fun x hx=>?_))|(refine ObR.mk _ rfl ?_)))|((refine ObC.f 61 ?_);(refine ObC.mk _ (c61i) ?_)))
    conv=>whnf
    refine Again.mk (i+1) ⟨by omega,hj'⟩ (by omega) (Fg.go ?_ rfl)
    repeat' ((conv=>whnf);first|((refine ObEqs.mk ?_ ?_);rfl)|((with_reducible refine ObEq1.i ?_ ?_);exact zF)|exact True.intro)
   ·rw [okc_at hip hne, if_neg (by simp)] at hb1
    rw [hb1] at hr hm
    obtain rfl:r=false:=hr
    obtain rfl:m=n+1:=by rw [hm,hn];omega
    have hne':¬ ((cN b (i:Int) q.1:Nat):Int)=((p.getD i 0:Nat):Int):=by omega
    generalize p.getD i 0=d at *
    generalize cN b (i:Int) q.1=d' at *
    repeat' ((conv=>whnf);first|(refine SeqP.go ?_)|((refine ObN.mk ?_ ?_);exact zN)|(refine ObT.tt ?_)|((refine ObB.yes ?_ ?_);exact zB)|((refine ObB.no ?_ ?_);exact zC)|((refine ObX.mk _ rfl ?_ ?_);exact zX)|((with_reducible refine (?_:ObR _ _ _));(first|(refine ObR.mk _ zG ?_)|(refine ObR.map zX (fun x hx=>?_))|(refine ObR.mk _ rfl ?_)))|((refine ObC.f 61 ?_);(refine ObC.mk _ (c61i) ?_)))
    all_goals conv=>whnf
    all_goals refine ObEnd.vw [(0,0,0),(0,1,0)] rfl ?_ (by simp) ?_
    all_goals repeat' ((conv=>whnf);first|((refine ObN.mk ?_ ?_);exact zN)|((with_reducible refine ObO.l ?_);(refine ObN.mk ?_ ?_);(exact ZD))|((with_reducible refine ObRow.same ?_ ?_ ?_);exact zE;(focus (first|rfl|assumption|(simp;done))))|exact True.intro)
  ·obtain rfl : i = p.length := by omega
   have hoq:=okc_all hj
   repeat' ((conv=>whnf);first|(refine SeqP.go ?_)|((refine ObN.mk ?_ ?_);exact zN)|(refine ObT.ff ?_)|((refine ObB.no ?_ ?_);exact zC)|((with_reducible refine ObI.nl ?_ ?_);omega))
   conv=>whnf
   refine Again.mk (k+1,n+1) ⟨by dsimp only;omega,by dsimp only;omega,fun q' h=>?_⟩ xB (Fg.vw [(0,0,0),(0,1,0),(0,2,0)] ?_ ?_ (by simp) ?_)
   ·dsimp only at h
    rw [htk] at h
    rcases List.mem_append.1 h with h|h
    ·exact hq q' h
    ·rw [List.mem_singleton.1 h];exact hoq
   all_goals repeat' ((conv=>whnf);first|((refine ObN.mk ?_ ?_);exact zN)|((with_reducible refine ObO.l ?_);(refine ObN.mk ?_ ?_);(exact ZD))|((with_reducible refine ObRn.mk ?_ ?_);(focus (first|rfl|(simp [rnB,rnC,rnL];done))))|((with_reducible refine ObRow.same ?_ ?_ ?_);exact zE;(focus (first|rfl|assumption|(simp;done))))|((refine ObEqs.mk ?_ ?_);rfl)|exact True.intro)
 ·obtain rfl : k = l.length := by omega
  rw [List.take_length] at hq
  have hb1:bdL b p l c=(true,c+l.length):=wH hq
  rw [hb1] at hr hm
  obtain rfl:r=true:=hr
  obtain rfl:m=n:=by rw [hm,hn];omega
  repeat' ((conv=>whnf);first|(refine SeqP.go ?_)|((refine ObN.mk ?_ ?_);exact zN)|(refine ObT.ff ?_)|((refine ObB.no ?_ ?_);exact zC))
  all_goals conv=>whnf
  all_goals refine ObEnd.vw [(0,0,0),(0,1,0)] rfl ?_ (by simp) ?_
  all_goals repeat' ((conv=>whnf);first|((refine ObN.mk ?_ ?_);exact zN)|((with_reducible refine ObO.l ?_);(refine ObN.mk ?_ ?_);(exact ZD))|((with_reducible refine ObRow.same ?_ ?_ ?_);exact zE;(focus (first|rfl|assumption|(simp;done))))|exact True.intro)
set_option maxHeartbeats 8000000 in
theorem bnd68n (hv : List AV) (b : Int) (hb : i64 b) (kn : Int) (ke va : ByteArray) (mp : Int) (kk : List Int) (mn : Int) (ls : List Pr) (sz bi : Int) (l : List Pr) (hl : l.length <= 1000000) (hs : ∀ p ∈ l, p.1.size <= 100000) (c57 : PC Tryz.prog G 57 [nV kn ke va mp kk mn ls sz bi] (.sl 2 (l.map pA)))
  (c:Nat) (hc:c<=1000000000) (r:Bool) (m:Int) (hr:r=(bdL b [] l c).1) (hm:m=((bdL b [] l c).2:Nat)) :
  HC Tryz.prog G 68 [.oa 0 0 0 0,nV kn ke va mp kk mn ls sz bi,.nl 1] [wR hv b c] (Bo r) [wR hv b m]:=by
 rw [wH (p:=[]) fun q _=>okc_nil] at hr hm
 dsimp only at hr hm
 subst hr
 refine Zq cop68 rfl ?_
 repeat' ((conv=>whnf);first|(refine SeqP.go ?_)|((refine ObD.mk ?_ ?_);(focus (first|rfl|(simp;done)|(simp [zy,geB,AOp.cls,AOp.xs,ltB,ltC,AX.ev,zh];done))))|((refine ObN.mk ?_ ?_);exact zN)|((with_reducible refine (?_:ObL _ _));(refine ObL.mk _ zM ?_))|((with_reducible refine (?_:ObR _ _ _));(first|(refine ObR.mk _ zG ?_)|(refine ObR.map zX (fun x hx=>?_))|(refine ObR.mk _ rfl ?_)))|((refine ObC.f 57 ?_);(refine ObC.mk _ (c57) ?_)))
 conv=>whnf
 refine LoopP.go (α:=Nat × Int) (fun a=>a.1<=l.length/\a.2=(c:Int)+(a.1:Int)) (fun a=>l.length - a.1) (fun a=>[(6,none),(1,none),(0,none),(0,none),(0,none),(3,some (I a.1)),(0,none),(0,none),(0,none),(0,none),(0,none),(0,none),(0,none),(0,none),(0,none),(0,none),(0,none),(0,none),(0,none),(0,none),(0,none),(0,none),(0,none),(0,none),(0,none),(0,none),(0,none),(0,none),(0,none),(0,none),(0,none),(0,none),(0,none),(0,none),(0,none),(0,none),(0,none),(0,none),(0,none),(0,none),(0,none)]) (fun a=>[wR hv b a.2,⟨57,9,[nV kn ke va mp kk mn ls sz bi],0,0⟩]) (0,(c:Int)) ⟨Nat.zero_le _,by simp⟩ (Fg.go ?_ rfl) ?_
 ·repeat' ((conv=>whnf);first|((refine ObEqs.mk ?_ ?_);rfl)|((with_reducible refine ObEq1.i ?_ ?_);exact zF)|exact True.intro)
 rintro ⟨k,n⟩ ⟨hk,hn⟩
 dsimp only at hk hn ⊢
 by_cases hkl:k < l.length
 ·have hat := zH hkl
  have hsz:=hs _ (List.getElem_mem hkl)
  generalize l[k]=q at *
  have c36:=of36 G q.1 b (by omega) hb
  have hlt:=yX q.1 b
  generalize hN q.1 b=X at *
  repeat' ((conv=>whnf);first|(refine SeqP.go ?_)|((refine ObD.mk ?_ ?_);(focus (first|rfl|(simp;done)|(simp [zy,geB,AOp.cls,AOp.xs,ltB,ltC,AX.ev,zh];done))))|((refine ObN.mk ?_ ?_);exact zN)|(refine ObT.tt ?_)|((refine ObB.yes ?_ ?_);exact zB)|((with_reducible refine ObI.mk _ rfl ?_ ?_ ?_);omega;omega)|((refine ObX.mk _ rfl ?_ ?_);exact zX)|((with_reducible refine (?_:ObU _ _));(refine ObU.mk _ zU ?_))|((with_reducible refine (?_:ObR _ _ _));(first|(refine ObR.mk _ zG ?_)|(refine ObR.map zX (fun x hx=>?_))|(refine ObR.mk _ rfl ?_)))|((refine ObC.f 36 ?_);(refine ObC.mk _ (c36) ?_)))
  conv=>whnf
  refine LoopP.go (α:=Unit) (fun _=>True) (fun _=>0) (fun _=>[(6,none),(3,none),(0,none),(23,some (I 0)),(0,none),(0,none),(0,none),(0,none),(0,none),(0,none),(0,none),(0,none),(0,none),(0,none),(0,none),(0,none),(0,none),(0,none)]) (fun _=>[wR hv b (n+1),⟨57,9,[nV kn ke va mp kk mn ls sz bi],0,0⟩,⟨31,2,[.agg [S q.1,S q.2]],0,0⟩]) () trivial (Fg.go ?_ rfl) ?_
  ·repeat' ((conv=>whnf);first|((refine ObEqs.mk ?_ ?_);rfl)|((with_reducible refine ObEq1.i ?_ ?_);exact zF)|exact True.intro)
  intro _ _
  repeat' ((conv=>whnf);first|(refine SeqP.go ?_)|((refine ObN.mk ?_ ?_);exact zN)|(refine ObT.ff ?_)|((refine ObB.no ?_ ?_);exact zC)|((with_reducible refine ObI.nl ?_ ?_);omega))
  conv=>whnf
  refine Again.mk (k+1,n+1) ⟨by dsimp only;omega,by dsimp only;omega⟩ xB (Fg.vw [(0,0,0),(0,1,0)] ?_ ?_ (by simp) ?_)
  all_goals repeat' ((conv=>whnf);first|((refine ObN.mk ?_ ?_);exact zN)|((with_reducible refine ObO.l ?_);(refine ObN.mk ?_ ?_);(exact ZD))|((with_reducible refine ObRn.mk ?_ ?_);(focus (first|rfl|(simp [rnB,rnC,rnL];done))))|((with_reducible refine ObRow.same ?_ ?_ ?_);exact zE;(focus (first|rfl|assumption|(simp;done))))|((refine ObEqs.mk ?_ ?_);rfl)|exact True.intro)
 ·obtain rfl : k = l.length := by omega
  obtain rfl:m=n:=by rw [hm,hn];omega
  repeat' ((conv=>whnf);first|(refine SeqP.go ?_)|((refine ObN.mk ?_ ?_);exact zN)|(refine ObT.ff ?_)|((refine ObB.no ?_ ?_);exact zC))
  all_goals conv=>whnf
  all_goals refine ObEnd.vw [(0,0,0)] rfl ?_ (by simp) ?_
  all_goals repeat' ((conv=>whnf);first|((refine ObN.mk ?_ ?_);exact zN)|((with_reducible refine ObO.l ?_);(refine ObN.mk ?_ ?_);(exact ZD))|((with_reducible refine ObRow.same ?_ ?_ ?_);exact zE;(focus (first|rfl|assumption|(simp;done))))|exact True.intro)
end
end Go.Proofs.YtdodckipblafmaaGreatDoor.Sim
namespace Go.Proofs.YtdodckipblafmaaGreatDoor.Mk
def upTo (m n:Nat):List Nat:=(List.range n).filter fun k=>m.testBit k
def all (m:Nat):List Nat:=upTo m 32
theorem upTo_succ (m n:Nat):upTo m (n+1)=upTo m n++if m.testBit n then [n] else []:=by
 unfold upTo
 rw [List.range_succ,List.filter_append]
 cases h:m.testBit n<;>simp [h]
theorem mem_upTo {m n k:Nat}:k ∈ upTo m n↔k < n/\m.testBit k=true:=by
 unfold upTo;simp
theorem mem_all {m k:Nat}:k ∈ all m↔k < 32/\m.testBit k=true:=mem_upTo
theorem upTo_len (m n:Nat):(upTo m n).length<=n:=by
 unfold upTo
 have:=List.length_filter_le (fun k=>m.testBit k) (List.range n)
 simpa using this
theorem sorted (m n:Nat):(upTo m n).Pairwise (· < ·):=by
 unfold upTo
 exact List.Pairwise.filter _ List.pairwise_lt_range
theorem bit_div (m k:Nat):m.testBit k=decide (m / 2 ^ k % 2=1):=Nat.testBit_eq_decide_div_mod_eq
def XJ (m:Nat) (i:Int):Nat:=(all m).countP fun k:Nat=>decide ((k:Int) < i)
def ye (i:Int):Nat:=(min (max i 0) 32).toNat
theorem clamp_le (i:Int):ye i<=32:=by unfold ye;omega
def mk (l:List Int):Nat->Nat
 | 0=>0
 | n+1=>mk l n+if (n:Int) ∈ l then 2 ^ n else 0
theorem mk_lt (l:List Int) (n:Nat):mk l n < 2 ^ n:=by
 induction n with
 | zero=>simp [mk]
 | succ n ih=>unfold mk;rw [Nat.pow_succ];split<;>omega
theorem two_pow_add (n x:Nat) (h:x < 2 ^ n):2 ^ n+x=2 ^ n ||| x:=by
 have:=Nat.two_pow_add_eq_or_of_lt h 1
 simpa using this
theorem mk_bit (l:List Int) (n j:Nat):(mk l n).testBit j=(decide (j < n) && decide ((j:Int) ∈ l)):=by
 induction n with
 | zero=>simp [mk]
 | succ n ih =>
  unfold mk
  by_cases h:(n:Int) ∈ l
  ·rw [if_pos h, Nat.add_comm, two_pow_add _ _ (mk_lt l n), Nat.testBit_or, ih, Nat.testBit_two_pow]
   by_cases e:n=j
   ·subst e;simp [h]
   ·by_cases g : j < n
    ·have : j < n + 1 := by omega
     simp [g,this,e]
    ·have : ¬ j < n + 1 := by omega
     simp [g,this,e]
  ·rw [if_neg h, Nat.add_zero, ih]
   by_cases e:n=j
   ·subst e;simp [h]
   ·by_cases g : j < n
    ·have : j < n + 1 := by omega
     simp [g,this]
    ·have : ¬ j < n + 1 := by omega
     simp [g,this]
theorem big (m:Nat) (hm:m < 4294967296) (j:Nat) (hj:¬ j < 32):m.testBit j=false :=
 Nat.testBit_lt_two_pow (Nat.lt_of_lt_of_le hm (Nat.pow_le_pow_right (n:=2) (by omega) (show 32<=j by omega)))
def next (m:Nat) (i:Int):Option Nat:=(all m).find? fun k:Nat=>decide (i < (k:Int))
theorem find_filter {l:List Nat} {p:Nat->Bool}:(l.filter p).head? = l.find? p:=by
 rw [List.head?_filter]
theorem all_high (m c:Nat) (hc:c<=32):all (m &&& (4294967295 - (2 ^ c - 1)))=(all m).filter fun k=>decide (c<=k):=by
 unfold all upTo
 rw [List.filter_filter]
 refine List.filter_congr fun k hk=>?_
 have hk:k < 32:=by simpa using hk
 have hp:2 ^ c<=2 ^ 32:=Nat.pow_le_pow_right (by omega) hc
 have h0:0 < 2 ^ c:=Nat.two_pow_pos c
 have e0:4294967295 - (2 ^ c - 1)=2 ^ 32 - ((2 ^ c - 1)+1):=by omega
 rw [e0,Nat.testBit_and,Nat.testBit_two_pow_sub_succ (by omega),Nat.testBit_two_pow_sub_one]
 by_cases g:k < c
 ·have : ¬ c <= k := by omega
  simp [g,this]
 ·have : c <= k := by omega
  simp [g,this,hk]
theorem next_high (m:Nat) (i:Int):(all (m &&& (4294967295 - (2 ^ ye (min i 32+1) - 1)))).head? = next m i:=by
 rw [all_high m _ (clamp_le _),find_filter]
 unfold next
 have:∀ l:List Nat,(∀ k ∈ l,k < 32)->l.find? (fun k=>decide (ye (min i 32+1)<=k))=l.find? (fun k:Nat=>decide (i < (k:Int))):=by
  intro l
  induction l with
  | nil=>intro _;rfl
  | cons a l ih =>
   intro h
   have ha:=h a (by simp)
   have e:decide (ye (min i 32+1)<=a)=decide (i < (a:Int)):=decide_eq_decide.2 (by unfold ye;omega)
   rw [List.find?_cons,List.find?_cons,e,ih fun k hk=>h k (by simp [hk])]
 exact this _ fun k hk=>(mem_all.1 hk).1
theorem head_ctz (m:Nat) (h0:m ≠ 0) (hm:m < 4294967296):(all m).head? = some (Go.Lib.ctz 32 m):=by
 obtain ⟨q,hq,hk⟩:=Go.Lib.ctzFrom_spec 32 m (by omega) hm
 have e:Go.Lib.ctz 32 m=Go.Lib.ctzFrom 32 m:=by simp [Go.Lib.ctz,h0]
 rw [e]
 generalize Go.Lib.ctzFrom 32 m=k at *
 have hb:m.testBit k=true:=by
  rw [bit_div,hq,Nat.mul_comm,Nat.mul_div_cancel _ (Nat.two_pow_pos k)]
  simp
 have hlow:∀ j,j < k->m.testBit j=false:=by
  intro j hj
  rw [bit_div]
  have:m / 2 ^ j=2 * (2 ^ (k - j - 1) * (2 * q+1)):=by
   rw [hq,show (2:Nat) ^ k=2 ^ j * (2 * 2 ^ (k - j - 1)) by rw [<- Nat.pow_succ',<- Nat.pow_add];congr 1;omega,Nat.mul_assoc,Nat.mul_div_cancel_left _ (Nat.two_pow_pos j),Nat.mul_assoc]
  rw [this]
  simp
 have h1:upTo m (k+1)=[k]:=by
  rw [upTo_succ,hb]
  have:upTo m k=[]:=by
   rw [List.eq_nil_iff_forall_not_mem]
   intro j hj
   have:=mem_upTo.1 hj
   rw [hlow j this.1] at this
   exact absurd this.2 (by simp)
  rw [this];rfl
 have h2:∀ d,(upTo m (k+1+d)).head? = some k:=by
  intro d
  induction d with
  | zero=>rw [Nat.add_zero,h1];rfl
  | succ d ih=>rw [<- Nat.add_assoc,upTo_succ,List.head?_append,ih];rfl
 have:=h2 (32 - (k+1))
 rwa [show k+1+(32 - (k+1))=32 by omega] at this
theorem all_zero:all 0=[]:=by decide
theorem next_at (m:Nat) (pre rest:List Nat) (i:Nat) (h:all m=pre++i::rest):next m i=rest.head?:=by
 have hs:=sorted m 32
 unfold next
 rw [show upTo m 32=all m from rfl] at hs
 rw [h] at hs ⊢
 rw [List.pairwise_append] at hs
 obtain ⟨_,h2,h3⟩:=hs
 rw [List.pairwise_cons] at h2
 have hp:pre.find? (fun k:Nat=>decide ((i:Int) < (k:Int)))=none:=by
  rw [List.find?_eq_none]
  intro x hx
  have:=h3 x hx i (by simp)
  simp;omega
 rw [List.find?_append,hp]
 have hi:decide ((i:Int) < (i:Int))=false:=by simp
 rw [List.find?_cons,hi]
 cases rest with
 | nil=>rfl
 | cons a r =>
  have:=h2.1 a (by simp)
  have ha:decide ((i:Int) < (a:Int))=true:=by simp;omega
  rw [List.find?_cons,ha];rfl
def pc (b:Nat):Nat:=((List.range 8).filter fun k=>b.testBit k).length
theorem pc_at (m s:Nat):((List.range 8).filter fun k=>m.testBit (s+k)).length=pc (m / 2 ^ s % 256):=by
 unfold pc
 congr 1
 refine List.filter_congr fun k hk=>?_
 have hk:k < 8:=by simpa using hk
 rw [show (256:Nat)=2 ^ 8 from rfl,Nat.testBit_mod_two_pow,Nat.testBit_div_two_pow]
 simp [hk,Nat.add_comm]
theorem range32:List.range 32=List.range 8++((List.range 8).map (8 + ·)++((List.range 8).map (16 + ·)++(List.range 8).map (24 + ·))):=by decide
theorem pop_all (m:Nat):(all m).length=pc (m / 16777216 % 256)+pc (m / 65536 % 256)+pc (m / 256 % 256)+pc (m % 256):=by
 have h0:=pc_at m 0
 have h1:=pc_at m 8
 have h2:=pc_at m 16
 have h3:=pc_at m 24
 unfold all upTo
 rw [range32]
 simp only [List.filter_append,List.length_append,List.filter_map,List.length_map]
 have g0:((List.range 8).filter fun k=>m.testBit k).length=pc (m % 256):=by simpa using h0
 have g1:((List.range 8).filter ((fun k=>m.testBit k) ∘ fun x=>8+x)).length=pc (m / 256 % 256):=h1
 have g2:((List.range 8).filter ((fun k=>m.testBit k) ∘ fun x=>16+x)).length=pc (m / 65536 % 256):=h2
 have g3:((List.range 8).filter ((fun k=>m.testBit k) ∘ fun x=>24+x)).length=pc (m / 16777216 % 256):=h3
 rw [g0,g1,g2,g3]
 omega
theorem pc_le (b:Nat):pc b<=8:=upTo_len b 8
end Go.Proofs.YtdodckipblafmaaGreatDoor.Mk
namespace Go.Proofs.YtdodckipblafmaaGreatDoor
open Go.RowKit
theorem add_block (a:Addr) (n:Nat):(a.add n).block=a.block:=by
 unfold Addr.add;by_cases h:n=0<;>simp [h]
theorem add_add (a:Addr) (i j:Nat):(a.add i).add j=a.add (i+j):=by
 unfold Addr.add
 by_cases hi:i=0
 ·by_cases hj:j=0<;>simp [hi,hj]
 ·by_cases hj:j=0<;>simp [hi,hj,Nat.add_assoc]
def Rd (w:World) (B:Nat) (A:Option Addr) (xs:List Value):Prop :=
 xs ≠ []->∃ ad,A=some ad/\ad.block < B/\∀ (j:Nat) (u:Value),xs[j]? = some u->w.cell? (ad.add j)=some u
section
variable {w w':World} {B B':Nat} {A:Option Addr} {xs:List Value}
theorem Rd.nil:Rd w B A []:=fun h=>absurd rfl h
theorem Rd.at_ (h:Rd w B A xs) {k:Nat} (hk:k < xs.length):∃ ad,A=some ad/\ad.block < B/\w.cell? (ad.add k)=some xs[k]:=by
 obtain ⟨ad,e,hb,hc⟩:=h (fun e=>by simp [e] at hk)
 exact ⟨ad,e,hb,hc k _ (List.getElem?_eq_getElem hk)⟩
theorem Rd.spot (h:Rd w B A xs) (hn:xs ≠ []):∃ b off,A=some ⟨b,off,none⟩/\b < B/\∀ (k:Nat) (hk:k < xs.length),w.cell? ⟨b,off+k,none⟩=some xs[k]:=by
 obtain ⟨⟨b,off,sp⟩,rfl,hb,hc⟩:=h hn
 have h0:0 < xs.length:=List.length_pos_iff.2 hn
 have hs:=World.cell?_spot (hc 0 _ (List.getElem?_eq_getElem h0))
 have hs2:sp=none:=by simpa [Addr.add] using hs
 subst hs2
 refine ⟨b,off,rfl,hb,fun k hk=>?_⟩
 have:=hc k _ (List.getElem?_eq_getElem hk)
 by_cases hk0:k=0
 ·subst hk0;simpa [Addr.add] using this
 ·simpa [Addr.add,hk0] using this
theorem Rd.keep (h:Rd w B A xs) (hk:∀ p:Addr,p.block < B->w'.cell? p=w.cell? p):Rd w' B A xs:=fun hn=>by
 obtain ⟨ad,e,hb,hc⟩:=h hn
 exact ⟨ad,e,hb,fun j u hu=>by rw [hk _ (by rw [add_block];exact hb)];exact hc j u hu⟩
theorem Rd.mono (h:Rd w B A xs) (hB:B<=B'):Rd w B' A xs:=fun hn=>by
 obtain ⟨ad,e,hb,hc⟩:=h hn
 exact ⟨ad,e,Nat.lt_of_lt_of_le hb hB,hc⟩
theorem Rd.below (h:Rd w B A xs) (hb:Below B w w'):Rd w' B A xs:=h.keep fun _ hp=>hb.cell hp
theorem Rd.drewN (h:Rd w B A xs) (k:Nat):Rd (w.drewN k) B A xs:=h
theorem Rd.drawn (h:Rd w B A xs) (hd:Drawn w w'):Rd w' B A xs:=by
 obtain ⟨n,rfl⟩:=hd
 exact h
theorem Rd.alloc (h:Rd w B A xs) (hB:B<=w.heap.size) (o:Obj):Rd (w.alloc o) B A xs :=
 h.keep fun p hp=>World.cell?_alloc_lt w o p (Nat.lt_of_lt_of_le hp hB)
theorem Rd.take (h:Rd w B A xs) (n:Nat):Rd w B A (xs.take n):=fun hn=>by
 obtain ⟨ad,e,hb,hc⟩:=h (fun e=>hn (by simp [e]))
 exact ⟨ad,e,hb,fun j u hu=>hc j u (by
  rw [List.getElem?_take] at hu
  split at hu
  ·exact hu
  ·cases hu)⟩
theorem Rd.drop (h:Rd w B A xs) (n:Nat):Rd w B (A.map (·.add n)) (xs.drop n):=fun hn=>by
 obtain ⟨ad,rfl,hb,hc⟩:=h (fun e=>hn (by simp [e]))
 refine ⟨ad.add n,rfl,by rw [add_block];exact hb,fun j u hu=>?_⟩
 rw [add_add]
 exact hc _ u (by rw [<- hu,List.getElem?_drop])
theorem Rd.own {base size n c:Nat} {e:TypeId} (h:w.ownsRow base e size (.slice A n c) n xs):Rd w w.heap.size A xs:=fun hn=>by
 rcases h.2 with ⟨_,h0⟩|⟨g,cap,cur,hv,_,hheap,_⟩
 ·subst h0
  exact absurd (List.eq_nil_of_length_eq_zero (by simpa using h.1)) hn
 ·have hA : A = some ⟨g, 0, none⟩ := by injection hv
  subst hA
  have hlt:g < w.heap.size:=by
   rcases Nat.lt_or_ge g w.heap.size with hh|hh
   ·exact hh
   ·rw [Array.getElem?_eq_none hh] at hheap;cases hheap
  exact ⟨_,rfl,hlt,h.cells (g:=g) rfl⟩
end
section
variable {P:Program} (w:World)
end
theorem yj {w:World} {a:Addr} {v:Value} (h:w.cell? a=some v):a.block < w.heap.size:=by
 rcases Nat.lt_or_ge a.block w.heap.size with hh|hh
 ·exact hh
 ·unfold World.cell? at h;rw [Array.getElem?_eq_none hh] at h;cases h
def iv (zs:List Int):List Value:=zs.map (Value.int .i64)
end Go.Proofs.YtdodckipblafmaaGreatDoor
namespace Go.Proofs.YtdodckipblafmaaGreatDoor.Mk
open Go.RowKit
def I64 (a:Int):Prop:=-9223372036854775808<=a/\a<=9223372036854775807
def U32 (m:Nat):Prop:=m < 4294967296
def has (m:Nat) (i:Int):Bool:=decide (0<=i/\i < 32) && m.testBit i.toNat
theorem two_sub:∀ c:Nat,c < 33->((2:Int) ^ c % 4294967296 - 1) % 4294967296=((2 ^ c - 1:Nat):Int):=by decide +kernel
theorem below_calls (i:Int) (w:World) (hi:I64 i):Calls Tryz.prog 99 #[.int .i64 i] w (Quiet (.int .u32 ((2 ^ ye i - 1:Nat):Int)) w):=by
 unfold I64 at hi
 rcases Int.lt_or_le i 0 with h|h
 ·have e : ye i = 0 := by unfold ye; omega
  rw [e]
  go_enter Tryz.func99,Tryz.ntmps99
  go_wp2
  go_ret
  exact ⟨rfl,Drawn.refl _⟩
 rcases Int.lt_or_le 32 i with h2|h2
 ·have e : ye i = 32 := by unfold ye; omega
  rw [e]
  go_enter Tryz.func99,Tryz.ntmps99
  go_wp2
  go_ret
  exact ⟨rfl,Drawn.refl _⟩
 ·have e : ye i = i.toNat := by unfold ye; omega
  rw [e]
  have E:=Lib.hid (two_sub i.toNat (by omega))
  clear e
  go_enter Tryz.func99,Tryz.ntmps99
  go_wp2
  go_ret
  exact ⟨ZG E.out,Drawn.refl _⟩
theorem all_len (m:Nat):(all m).length<=32:=upTo_len m 32
def Tab (w:World):Prop:=∀ j,j < 32->w.cell? ⟨0,j,none⟩=some (.int .u8 ((Go.Lib.deBruijn32tab.getD j 0:Nat):Int))
theorem Tab.below {w w':World} (h:Tab w) (b:Below w.heap.size w w'):Tab w':=by
 have h0:0 < w.heap.size:=World.block_lt_of_cell? w _ (h 0 (by omega))
 obtain ⟨c,_,_,_⟩:=bcell b
 intro j hj
 rw [c _ _ h0]
 exact h j hj
theorem tz_core (x k idx : Nat) (w : World) (hx0 : ((x : Int) == 0) = false)
  (key:bits BinOp.and IntKind.u32 (x:Int) (-(x:Int) % 4294967296) * 125613361 % 4294967296 / 134217728=(idx:Int))
  (hi:idx < 32) (hk:k < 32) (hcell:w.cell? ⟨0,idx,none⟩=some (.int .u8 (k:Int))) :
  Calls Tryz.prog 98 #[.int .u32 x] w (Quiet (.int .i64 k) w):=by
 go_enter Tryz.func98,Tryz.ntmps98
 go_wp2_with (simp only [key])
 go_ret
 exact ⟨rfl,Drawn.refl _⟩
theorem tz_key (x a : Nat) (hx : x < 4294967296) (hx0 : x ≠ 0) (hlow : x &&& (4294967296 - x) = a) :
  bits BinOp.and IntKind.u32 (x:Int) (-(x:Int) % 4294967296) * 125613361 % 4294967296 / 134217728=((a * 125613361 % 4294967296 / 134217728:Nat):Int):=by
 have e1 : -(x:Int) % 4294967296=((4294967296 - x:Nat):Int):=by omega
 rw [e1,u32_and_nat x _ hx (by omega),hlow]
 omega
theorem tz_calls (x:Nat) (hx:x < 4294967296) (h0:x ≠ 0) (w:World) (T:Tab w):Calls Tryz.prog 98 #[.int .u32 x] w (Quiet (.int .i64 ((Go.Lib.ctz 32 x:Nat):Int)) w):=by
 obtain ⟨hlow,hk⟩:=Go.Lib.lowest_bit 32 x h0 hx
 obtain ⟨hi,htab⟩:=Go.Lib.deBruijn32_at _ hk
 have hcell:=T _ hi
 rw [htab] at hcell
 exact tz_core x _ _ w (by simp;omega) (tz_key x _ hx h0 hlow) hi hk hcell
def opt (o:Option Nat):Value:=.tuple #[.int .i64 ((o.getD 0:Nat):Int),.bool o.isSome]
theorem First_calls (m:Nat) (w:World) (hm:U32 m) (T:Tab w):Calls Tryz.prog 87 #[.int .u32 m] w (Quiet (opt (all m).head?) w):=by
 unfold opt
 by_cases h0:m=0
 ·subst h0
  rw [all_zero]
  clear T
  go_enter Tryz.func87,Tryz.ntmps87
  go_wp2
  go_ret2
  exact ⟨rfl,Drawn.refl _⟩
 ·rw [head_ctz m h0 hm]
  have k1:=Lib.hid (tz_calls m hm h0 w T)
  have e:((m:Int) == 0)=false:=by simp;omega
  clear T h0
  generalize Go.Lib.ctz 32 m=n at *
  unfold U32 at hm
  go_enter Tryz.func87,Tryz.ntmps87
  go_wp2_with (go_at_call 98;(with_reducible refine k1.out.mono ?_);rintro e w' ⟨rfl,q,rfl⟩)
  go_ret2
  exact ⟨rfl,⟨_,rfl⟩⟩
theorem Next_calls (m:Nat) (i:Int) (w:World) (hm:U32 m) (hi:I64 i) (T:Tab w):Calls Tryz.prog 88 #[.int .u32 m,.int .i64 i] w (Quiet (opt (next m i)) w):=by
 have hc:I64 (min i 32+1):=by unfold I64 at *;omega
 have k1:=fun w=>Lib.hid (below_calls (min i 32+1) w hc)
 have hb:2 ^ ye (min i 32+1) - 1 < 4294967296:=by
  have:=Nat.pow_le_pow_right (n:=2) (by omega) (clamp_le (min i 32+1))
  omega
 have hm2:m &&& (4294967295 - (2 ^ ye (min i 32+1) - 1)) < 4294967296:=Nat.lt_of_le_of_lt Nat.and_le_left hm
 have k2:=fun q=>First_calls (m &&& (4294967295 - (2 ^ ye (min i 32+1) - 1))) (w.drewN q) hm2 (T.below (Drawn.below ⟨q,rfl⟩))
 have e:=u32_andNot_nat m (2 ^ ye (min i 32+1) - 1) hm hb
 rw [next_high] at k2
 unfold opt at *
 have K2:=fun q=>Lib.hid (k2 q)
 clear k2 T
 generalize next m i=o at *
 generalize m &&& (4294967295 - (2 ^ ye (min i 32+1) - 1))=x at *
 generalize 2 ^ ye (min i 32+1) - 1=y at *
 unfold U32 at hm
 unfold I64 at hi
 have kk:min i 32+1<=33:=by omega
 by_cases h32:i<=32
 ·have em : min i 32 = i := by omega
  rw [em] at k1
  clear em kk hc hb hm2
  go_enter Tryz.func88,Tryz.ntmps88
  go_wp2_with (first|(go_at_call 99;(with_reducible refine ((k1 _).out).mono ?_);rintro e w' ⟨rfl,q,rfl⟩)|(go_at_call 87;(with_reducible refine ((K2 _).out).mono ?_);rintro e w' ⟨rfl,q,rfl⟩))
  go_ret2
  exact ⟨rfl,⟨_,rfl⟩⟩
 ·have em : min i 32 + 1 = 33 := by omega
  rw [em] at k1
  clear em kk hc hb hm2
  go_enter Tryz.func88,Tryz.ntmps88
  go_wp2_with (first|(go_at_call 99;(with_reducible refine ((k1 _).out).mono ?_);rintro e w' ⟨rfl,q,rfl⟩)|(go_at_call 87;(with_reducible refine ((K2 _).out).mono ?_);rintro e w' ⟨rfl,q,rfl⟩))
  go_ret2
  exact ⟨rfl,⟨_,rfl⟩⟩
def cnt (zs:List Int) (i:Int):Nat:=zs.countP fun z=>decide (z < i)
def after (zs:List Int) (i:Int):Int × Bool:=match zs.find? (fun z=>decide (i < z)) with|some z=>(z,true)|none=>(0,false)
open Go.RowKit Go.ChangeShapes Go.WideShapes Go.ChangeAt
theorem laid_table:(Rows.laid_math_bits_deBruijn32tab:DataW Unit) = .agg (Go.Lib.deBruijn32tab.map fun b:Nat=>.lit (.int .u8 (b:Int))):=rfl
theorem tabAll {W:World} (h:laidMetH Tryz.prog [("math/bits.deBruijn32tab",Rows.laid_math_bits_deBruijn32tab)] W):Tab W:=by
 rw [MakeChecks.laidMetH_plain _ _ _ (by kernel_rfl)] at h
 obtain ⟨ps,⟨g,t,cs,fuel,p,q,hg,ht,hv,hd,_,_⟩,_,_⟩:=h
 obtain rfl:=Option.some.inj ((show Tryz.prog.globalNamed "math/bits.deBruijn32tab" = some 0 by kernel_rfl).symm.trans hg)
 obtain rfl:=Option.some.inj ((show (Tryz.prog.globals[0]?).map (·.type)=some 140 by kernel_rfl).symm.trans ht)
 obtain ⟨xs,m,_,ex,_,hl,hel⟩:=DataW.trod_array Tryz.underlying140 hd
 have c5:Tryz.prog.cellsOf 5=1:=by kernel_rfl
 intro i hi
 have hE:=hel i hi
 rw [c5] at hE
 have e3:(xs.map (·.1))[i]? = some (.lit (.int .u8 ((Go.Lib.deBruijn32tab.getD i 0:Nat):Int))):=by
  rw [<- DataW.agg.inj ((Prod.mk.inj ex).1.symm.trans laid_table).symm,List.getElem?_map,List.getD,List.getElem?_eq_getElem (show i < Go.Lib.deBruijn32tab.length from hi)]
  rfl
 rw [List.getElem?_map] at e3
 cases hx:xs[i]? with
 | none=>rw [hx] at e3;cases e3
 | some x =>
  rw [hx] at e3 hE
  obtain ⟨b',e1,e2⟩:=DataW.trod_int Tryz.underlying5 hE
  rw [World.var?_cell hg hv i]
  obtain ⟨e2,_⟩:=e2
  subst e2
  have eb:b'=((Go.Lib.deBruijn32tab.getD i 0:Nat):Int):=by
   have:=Option.some.inj e3
   exact (Lit.int.inj (DataW.lit.inj this)).2
  rw [<- eb]
  have h0:(List.take 1 (List.drop (i * 1) cs.toList))[0]? = some (.int .u8 b'):=by rw [e1];rfl
  simpa [List.getElem?_take,List.getElem?_drop] using h0
end Go.Proofs.YtdodckipblafmaaGreatDoor.Mk
namespace Go.Proofs.YtdodckipblafmaaGreatDoor.Sim
open Go.RowKit
def opF:List Nat:=Go.Lib.deBruijn32tab
def Wi:List AV:=[.agg (opF.map fun b:Nat=>AV.v (.int .u8 (b:Int)))]
def Zr (g:Nat):AV:=if g=0 then .ad 32 Wi 0 0 else .unk
theorem opF_at:∀ m:Nat,m < 32->opF[m]? = some (Go.Lib.deBruijn32tab.getD m 0):=by decide
theorem gok {w:World} (hT:Mk.Tab w):GOK Zr (fun b o=>w.cell? ⟨b,o,none⟩):=by
 intro g
 unfold Zr
 split
 ·rename_i hg
  subst hg
  have hl:opF.length=32:=by decide
  refine .p (.ad 0 0 32 Wi 0 0 (fun e he=>?_) (fun e he a ha=>?_) (fun i j=>.int .u8 ((Go.Lib.deBruijn32tab.getD j 0:Nat):Int)) (fun i j hi hj=>?_) (fun i j e a he ha=>?_))
  ·simp only [Wi,List.mem_singleton] at he
   subst he
   simp [AV.cells,hl]
  ·simp only [Wi,List.mem_singleton] at he
   subst he
   simp only [AV.cells,List.mem_map] at ha
   obtain ⟨b,_,rfl⟩:=ha
   rfl
  ·have hi' : i < 1 := hi
   obtain rfl:i=0:=by omega
   have:=hT j (by omega)
   rw [show 0+0 * 32+j=j by omega]
   exact this
  ·simp only [Wi,List.getElem?_singleton] at he
   split at he
   ·cases he
    simp only [AV.cells,List.getElem?_map] at ha
    obtain ⟨b,hb,rfl⟩:=Option.map_eq_some_iff.1 ha
    have hj:j < 32:=by rw [<- hl];exact (List.getElem?_eq_some_iff.1 hb).1
    rw [opF_at j hj] at hb
    cases hb
    exact .v _ rfl
   ·cases he
 ·exact .unk _
theorem law_ofG {P : Program} {w : World} {G : Nat -> AV} {f : FuncId} {bs : List AV} {xs : List Value} (h : PC P G f bs (.v (.bool true))) (hg : GOK G (fun b o => w.cell? ⟨b, o, none⟩)) (hl : xs.length = bs.length) (hv : ∀ (i : Nat) (c : Value) (a : AV), xs[i]? = some c -> bs[i]? = some a -> PV (fun b o => w.cell? ⟨b, o, none⟩) c a) :
  Calls P f xs.toArray w (fun e w'=>e = .returned (.bool true)/\Go.RowKit.Below w.heap.size w w'):=by
 refine (h w (fun b o=>w.cell? ⟨b,o,none⟩) xs (fun _ _ _ h=>h) hg hl hv).mono ?_
 rintro e w' ⟨v,F',rfl,hp,_,_,_,hb⟩
 cases hp
 exact ⟨rfl,hb⟩
theorem tab_of {w:World} {F:Fz} (hF:∀ b o v,F b o=some v->w.cell? ⟨b,o,none⟩=some v) (hG:GOK Zr F):Mk.Tab w:=by
 intro j hj
 have h0:=hG 0
 have e0:Zr 0 = .ad 32 Wi 0 0:=rfl
 rw [e0] at h0
 cases h0 with
 | p h0 =>
  generalize hx:(Value.pointer (some ⟨0,0,none⟩))=x at h0
  generalize hy:AV.ad 32 Wi 0 0=y at h0
  cases h0 with
  | ad b o k es i' off hk h1 f hf h =>
   injection hy with q1 q2 q3 q4
   subst q1;subst q2;subst q3;subst q4
   injection hx with hx
   injection hx with hx
   injection hx with hx1 hx2
   have o0:o=0:=by omega
   subst o0;subst hx1
   have c:=hf 0 j (by decide) (by omega)
   have e2:(opF.map fun b:Nat=>AV.v (.int .u8 (b:Int)))[j]? = some (.v (.int .u8 ((Go.Lib.deBruijn32tab.getD j 0:Nat):Int))):=by
    rw [List.getElem?_map,opF_at _ (by omega)];rfl
   have pv:=h 0 j _ _ rfl (by rw [AV.cells];exact e2)
   have e3:f 0 j = .int .u8 ((Go.Lib.deBruijn32tab.getD j 0:Nat):Int):=by
    generalize f 0 j=z at pv
    cases pv;rfl
   rw [e3] at c
   have:=hF _ _ _ c
   rw [show 0+0 * 32+j=j by omega] at this
   exact this
  | _=>cases hy
theorem pc_callsG {P : Program} {f : FuncId} {bs : List AV} {ys : List Value} {v : Value} {r : AV} (hc : zx bs = some ys) (hr : zi v = some r)
  (h:∀ w,Mk.Tab w->Calls P f ys.toArray w (fun e w'=>e = .returned v/\Below w.heap.size w w')):PC P Zr f bs r:=by
 intro w F xs hF hG hl hv
 obtain rfl:xs=ys:=Y6 (F:=F) (O:=[]) hc hl fun i c a hc ha=>.p (hv i c a hc ha)
 refine (h w (tab_of hF hG)).mono ?_
 rintro e w' ⟨rfl,hb⟩
 exact ⟨v,F,rfl,ofVal_pv hr,Fz.le_refl F,fun b o v hv=>by rw [hb.cell (p:=⟨b,o,none⟩) (yj (hF b o v hv))];exact hF b o v hv,fun b o v hv=>.inl hv,hb⟩
set_option maxRecDepth 100000
abbrev oN (o:Option Nat):AV:=.tup [I ((o.getD 0:Nat):Int),Bo o.isSome]
theorem fst87 (m:Nat) (hm:m < 4294967296):PC Tryz.prog Zr 87 [.v (.int .u32 (m:Int))] (oN (Mk.all m).head?) :=
 pc_callsG (ys:=[.int .u32 m]) rfl rfl fun w T=>(Mk.First_calls m w hm T).mono fun e w' h=>h.fresh
theorem nxt88 (m:Nat) (hm:m < 4294967296) (i:Int) (hi:i64 i):PC Tryz.prog Zr 88 [.v (.int .u32 (m:Int)),I i] (oN (Mk.next m i)) :=
 pc_callsG (ys:=[.int .u32 m,.int .i64 i]) rfl rfl fun w T=>(Mk.Next_calls m i w hm hi T).mono fun e w' h=>h.fresh
theorem iN_end {p:List Nat} {j:Nat}:(p.map iN).take p.length++[I (j:Int)]=(p++[j]).map iN:=by
 rw [List.take_of_length_le (by simp),List.map_append];rfl
theorem iN_all {p:List Nat}:(p.map iN).take p.length=p.map iN:=List.take_of_length_le (by simp)
theorem p_iN (p:List Nat):(p.map iN).all AV.isP=true:=by simp [iN,AV.isP,AV.isC,AV.isC0]
def qS:List Nat->AV
 | []=>.nl 1
 | _::t=>.ol 0 0 (t.length+1)
def qH:List Nat->Hp
 | []=>[]
 | x::t=>[⟨3,1,(x::t).map iN,0,0⟩]
set_option maxHeartbeats 4000000 in
theorem all75 (m:Nat) (hm:m < 4294967296):PC Tryz.prog Zr 75 [.v (.int .u32 (m:Int))] (.sl 1 ((Mk.all m).map iN)):=by
 have c1:=fst87 m hm
 have hll:(Mk.all m).length<=32:=Mk.all_len m
 refine zA cop75 ?_
 repeat' ((conv=>whnf);first|(refine SeqP.go ?_)|((refine ObC.f 87 ?_);(refine ObC.mk _ (c1) ?_)))
 conv=>whnf
 refine LoopP.go (α:=List Nat × List Nat) (fun a=>Mk.all m=a.1++a.2) (fun a=>a.2.length) (fun a=>[(3,some (qS a.1)),(0,some (I ((a.2.head?.getD 0:Nat):Int))),(0,some (Bo a.2.head?.isSome)),(5,none),(0,none),(0,none),(0,none),(0,none),(0,none),(0,none),(0,none),(0,none),(0,none),(0,none),(0,none)]) (fun a=>qH a.1) ([],Mk.all m) rfl (Fg.go ?_ rfl) ?_
 ·repeat' ((conv=>whnf);first|((refine ObEqs.mk ?_ ?_);rfl)|((with_reducible refine ObEq1.i ?_ ?_);exact zF)|((with_reducible refine ObEq1.mk ?_ ?_);exact zE)|exact True.intro)
 rintro ⟨pre,rest⟩ he
 dsimp only at he ⊢
 have hpl:pre.length+rest.length<=32:=by rw [<- List.length_append,<- he];exact hll
 cases rest with
 | nil =>
  rw [List.append_nil] at he
  have e1:=iN_all (p:=pre)
  have e2:=p_iN pre
  rw [he]
  cases pre with
  | nil =>
   simp only [List.head?_nil,List.head?_cons,Option.isSome_none,Option.isSome_some,Option.getD_none,Option.getD_some]
   repeat' ((conv=>whnf);first|(with_reducible first|refine SeqP.go ?_|refine ObT.tt ?_|refine ObT.ff ?_)|((refine ObEq.mk ?_);exact zE))
  | cons x p0 =>
   simp only [qS,qH,List.length_cons,List.head?_nil,List.head?_cons,Option.isSome_none,Option.isSome_some,Option.getD_none,Option.getD_some] at *
   repeat' ((conv=>whnf);first|(refine SeqP.go ?_)|((refine ObN.mk ?_ ?_);exact zN)|(with_reducible first|refine ObT.tt ?_|refine ObT.ff ?_)|((with_reducible refine (?_:ObU _ _));(refine ObU.mk _ (by first|exact e1|assumption|((conv=>lhs;simp only [List.set_cons_zero,List.set_cons_succ,List.take_succ_cons,List.take_zero,List.drop_succ_cons,List.drop_zero,List.nil_append,List.cons_append,List.append_nil,List.take_nil,List.drop_nil]);try rfl)|rfl) ?_))|((refine ObEq.mk ?_);exact zE))
 | cons j t =>
  have hn:=Mk.next_at m pre t j he
  have c2:=nxt88 m hm (j:Int) (by have:=(Mk.mem_all.1 (show j ∈ Mk.all m by rw [he];simp)).1;unfold i64;omega)
  rw [hn] at c2
  cases pre with
  | nil =>
   simp only [qS,qH,List.head?_nil,List.head?_cons,Option.isSome_none,Option.isSome_some,Option.getD_none,Option.getD_some]
   have hnr:=Xb [j]
   repeat' ((conv=>whnf);first|(refine SeqP.go ?_)|((refine ObD.mk ?_ ?_);exact zD)|((refine ObN.mk ?_ ?_);exact zN)|(with_reducible first|refine ObT.tt ?_|refine ObT.ff ?_)|((with_reducible refine (?_:ObL _ _));(refine ObL.mk _ zL ?_))|((with_reducible refine (?_:ObU _ _));(refine ObU.mk _ zU ?_))|((refine ObC.f 88 ?_);(refine ObC.mk _ (c2) ?_))|((with_reducible refine ObW.cons ?_ ?_);(focus (first|assumption|(simp;done)))))
   conv=>whnf
   refine Again.mk ([j],t) (by show Mk.all m=[j]++t;rw [he];simp) (by show t.length < (j::t).length;simp) (Fg.vw [(0,1,0)] ?_ ?_ (by simp) ?_)
   all_goals repeat' ((conv=>whnf);first|((refine ObN.mk ?_ ?_);exact zN)|((with_reducible refine ObRn.mk ?_ ?_);(focus (first|rfl|(simp [rnB,rnC,rnL];done))))|((with_reducible refine ObRow.same ?_ ?_ ?_);exact zE;(focus (first|rfl|assumption|(simp;done))))|((refine ObEqs.mk ?_ ?_);rfl)|exact True.intro)
  | cons x p0 =>
   have u1:((x::p0).map iN).take (p0.length+1)++[I (j:Int)]=(x::(p0++[j])).map iN:=iN_end (p:=x::p0) (j:=j)
   have hnr:=Xb (x::(p0++[j]))
   have hp1:p0.length+2<=32:=by simp at hpl;omega
   have hlen:p0.length+1+1=(p0++[j]).length+1:=by simp
   simp only [qS,qH,List.length_cons,List.head?_nil,List.head?_cons,Option.isSome_none,Option.isSome_some,Option.getD_none,Option.getD_some]
   repeat' ((conv=>whnf);first|(refine SeqP.go ?_)|((refine ObD.mk ?_ ?_);exact zD)|((refine ObN.mk ?_ ?_);exact zN)|(with_reducible first|refine ObT.tt ?_|refine ObT.ff ?_)|((with_reducible refine (?_:ObL _ _));(refine ObL.mk _ zL ?_))|((with_reducible refine (?_:ObU _ _));(refine ObU.mk _ zq4 ?_))|((refine ObC.f 88 ?_);(refine ObC.mk _ (c2) ?_)))
   all_goals conv=>whnf
   all_goals refine Again.mk (x::(p0++[j]),t) (by show Mk.all m=(x::(p0++[j]))++t;rw [he];simp) (by show t.length < (j::t).length;simp) (Fg.vw [(0,0,1)] ?_ ?_ (by simp) ?_)
   all_goals try simp only [qS,qH,<- hlen]
   all_goals repeat' ((conv=>whnf);first|((refine ObN.mk ?_ ?_);exact zN)|((with_reducible refine ObRn.mk ?_ ?_);(focus (first|rfl|(simp [rnB,rnC,rnL];done))))|((with_reducible refine ObRow.same ?_ ?_ ?_);exact zE;(focus (first|rfl|assumption|(simp;done))))|((refine ObEqs.mk ?_ ?_);rfl)|exact True.intro)
abbrev Spt:=Int × Int × Bool
section
variable (G:Nat->AV)
end
abbrev sO (a:Spt) (st:AV) (key:ByteArray) (b:Int) (f:Pr) (q:Bool):OB:=⟨92,9,[.agg [I a.1,I a.2.1,Bo a.2.2,st,S key,I b,S f.1,S f.2,Bo q]],0,0⟩
section
variable (G:Nat->AV)
theorem new22 (r:Int) (key:ByteArray) (b:Int) (R:Hp):HC Tryz.prog G 22 [I r,S key,I b] [] (.oa 0 0 0 0) [sO (r,0,false) (.nl 3) key b (⟨#[]⟩,⟨#[]⟩) false]:=by
 refine Zq cop22 rfl ?_
 repeat' ((conv=>whnf);first|(refine SeqP.go ?_)|((refine ObD.mk ?_ ?_);exact zD)|(exact ObEnd.eq rfl rfl))
theorem fst24 (r:Int):HC Tryz.prog G 24 [I r] [] (.oa 0 0 0 0) [sO (r,0,true) (.nl 3) ⟨#[]⟩ 0 (⟨#[]⟩,⟨#[]⟩) false]:=by
 refine Zq cop24 rfl ?_
 repeat' ((conv=>whnf);first|(refine SeqP.go ?_)|((refine ObD.mk ?_ ?_);exact zD)|(exact ObEnd.eq rfl rfl))
theorem want25 (a:Spt) (st:AV) (key:ByteArray) (b:Int) (f:Pr) (q:Bool) (R:Hp):HC Tryz.prog G 25 [.oa 0 0 0 0] (sO a st key b f q::R) (I a.1) (sO a st key b f q::R):=by
 refine Zq cop25 rfl ?_
 repeat' ((conv=>whnf);first|(refine SeqP.go ?_)|((refine ObN.mk ?_ ?_);exact zN)|(refine ObT.ff ?_)|((with_reducible refine (?_:ObR _ _ _));(first|(refine ObR.mk _ zG ?_)|(refine ObR.map zX (fun x hx=>?_))|(refine ObR.mk _ rfl ?_)))|(exact ObEnd.eq rfl rfl))
theorem ans29 (a:Spt) (key:ByteArray) (b:Int) (f:Pr) (q:Bool):HC Tryz.prog G 29 [.oa 0 0 0 0] [sO a (.nl 3) key b f q] (.tup [.agg [S f.1,S f.2],Bo q]) [sO a (.nl 3) key b f q]:=by
 refine Zq cop29 rfl ?_
 repeat' ((conv=>whnf);first|(refine SeqP.go ?_)|exact SameP.mk rfl rfl|(with_reducible first|refine ObAnd.mk ?_ ?_|refine ObDx.same ?_)|((refine ObD.mk ?_ ?_);(focus (first|rfl|(simp;done)|(simp [zy,geB,AOp.cls,AOp.xs,ltB,ltC,AX.ev,zh];done))))|((refine ObN.mk ?_ ?_);exact zN)|(refine ObT.ff ?_)|((with_reducible refine (?_:ObU _ _));(refine ObU.mk _ zU ?_))|((with_reducible refine (?_:ObR _ _ _));(first|(refine ObR.mk _ zG ?_)|(refine ObR.map zX (fun x hx=>?_))|(refine ObR.mk _ rfl ?_))))
 all_goals conv=>whnf
 all_goals refine ObEnd.vw [(0,0,0)] rfl ?_ (by simp) ?_
 all_goals repeat' ((conv=>whnf);first|((refine ObN.mk ?_ ?_);exact zN)|((with_reducible refine ObO.l ?_);(refine ObN.mk ?_ ?_);(exact ZD))|((with_reducible refine ObRow.same ?_ ?_ ?_);exact zE;(focus (first|rfl|assumption|(simp;done))))|exact True.intro)
theorem nxt58n (a:Spt) (key:ByteArray) (b:Int) (f:Pr) (q:Bool) (R:Hp):HC Tryz.prog G 58 [.oa 0 0 0 0] (sO a (.nl 3) key b f q::R) (.tup []) (sO (0,0,false) (.nl 3) key b f q::R):=by
 refine Zq cop58 rfl ?_
 repeat' ((conv=>whnf);first|(refine SeqP.go ?_)|((refine ObD.mk ?_ ?_);(focus (first|rfl|(simp;done)|(simp [zy,geB,AOp.cls,AOp.xs,ltB,ltC,AX.ev,zh];done))))|((refine ObN.mk ?_ ?_);exact zN)|((with_reducible refine (?_:ObU _ _));(refine ObU.mk _ zU ?_))|((with_reducible refine (?_:ObR _ _ _));(first|(refine ObR.mk _ zG ?_)|(refine ObR.map zX (fun x hx=>?_))|(refine ObR.mk _ rfl ?_))))
 conv=>whnf
 refine LoopP.go (α:=Unit) (fun _=>True) (fun _=>0) (fun _=>[(2,none),(0,none),(4,none),(0,none),(0,none),(0,none),(0,none),(0,none),(0,none),(0,none),(0,none),(0,none),(0,none),(0,none),(0,none),(0,none),(0,none),(0,none),(0,none),(0,none),(0,none),(0,none),(0,none),(0,none),(0,none),(0,none),(0,none),(0,none),(0,none),(0,none),(0,none),(0,none),(0,none),(0,none),(0,none),(0,none),(0,none)]) (fun _=>sO (0,0,false) (.nl 3) key b f q::R) () trivial (Fg.go ?_ rfl) ?_
 ·repeat' ((conv=>whnf);first|((refine ObEqs.mk ?_ ?_);rfl)|exact True.intro)
 intro _ _
 repeat' ((conv=>whnf);first|(refine SeqP.go ?_)|((refine ObN.mk ?_ ?_);exact zN)|(refine ObT.ff ?_)|((refine ObB.no ?_ ?_);exact zC)|((with_reducible refine (?_:ObR _ _ _));(first|(refine ObR.mk _ zG ?_)|(refine ObR.map zX (fun x hx=>?_))|(refine ObR.mk _ rfl ?_)))|(exact ObEnd.eq rfl rfl))
end
def chs (af:Bool) (key:ByteArray) (b:Int) (l:List Pr):Option Pr:=l.find? fun p=>af || bk b key p.1
section
variable (G:Nat->AV)
set_option maxHeartbeats 4000000 in
theorem chs56 (w lv : Int) (af : Bool) (key : ByteArray) (hk : key.size <= 100000) (b : Int) (hb : i64 b) (f : Pr) (q : Bool) (l : List Pr) (hl : l.length <= 1000000) (hs : ∀ p ∈ l, p.1.size <= 100000) (r : Option Pr) (hr : r = chs af key b l) :
  HC Tryz.prog G 56 [.oa 0 0 0 0,.sl 2 (l.map pA)] [sO (w,lv,af) (.nl 3) key b f q] (.tup []) [sO (w,lv,af) (.nl 3) key b (r.getD f) (r.isSome || q)]:=by
 refine Zq cop56 rfl ?_
 repeat' ((conv=>whnf);first|(refine SeqP.go ?_)|((with_reducible refine (?_:ObL _ _));(refine ObL.mk _ zM ?_)))
 conv=>whnf
 refine LoopP.go (α:=Nat) (fun i=>i<=l.length/\r=chs af key b (l.drop i)) (fun i=>l.length - i) (fun i=>[(5,none),(2,some (I i)),(0,none),(0,none),(0,none),(0,none),(0,none),(0,none),(0,none),(0,none),(0,none),(0,none),(0,none),(0,none),(0,none),(0,none),(0,none),(0,none),(0,none),(0,none),(0,none),(0,none),(0,none),(0,none),(0,none),(0,none),(0,none),(0,none),(0,none),(0,none),(0,none),(0,none),(0,none),(0,none)]) (fun i=>[sO (w,lv,af) (.nl 3) key b f q]) 0 ⟨Nat.zero_le _,by rw [hr];rfl⟩ (Fg.go ?_ rfl) ?_
 ·repeat' ((conv=>whnf);first|((refine ObEqs.mk ?_ ?_);rfl)|((with_reducible refine ObEq1.i ?_ ?_);exact zF)|exact True.intro)
 rintro i ⟨hi,hri⟩
 by_cases hil:i < l.length
 ·have hat := zH hil
  have hsz:=hs _ (List.getElem_mem hil)
  rw [List.drop_eq_getElem_cons hil] at hri
  unfold chs at hri
  rw [List.find?_cons] at hri
  generalize l[i]=p at *
  have c10:=sb10 G key p.1 b hk hsz hb _ rfl
  generalize bk b key p.1=u at *
  cases af
  ·cases u
   ·replace hri : r = chs false key b (l.drop (i + 1)) := hri
    repeat' ((conv=>whnf);first|(refine SeqP.go ?_)|((refine ObD.mk ?_ ?_);(focus (first|rfl|(simp;done)|(simp [zy,geB,AOp.cls,AOp.xs,ltB,ltC,AX.ev,zh];done))))|((refine ObN.mk ?_ ?_);exact zN)|(with_reducible first|refine ObT.tt ?_|refine ObT.ff ?_)|((refine ObB.yes ?_ ?_);exact zB)|((with_reducible refine ObI.nl ?_ ?_);omega)|((refine ObX.mk _ rfl ?_ ?_);exact zX)|((with_reducible refine (?_:ObU _ _));(refine ObU.mk _ zU ?_))|((with_reducible refine (?_:ObR _ _ _));(first|(refine ObR.mk _ zG ?_)|(refine ObR.map zX (fun x hx=>?_))|(refine ObR.mk _ rfl ?_)))|((refine ObC.f 10 ?_);(refine ObC.mk _ (c10) ?_)))
    all_goals conv=>whnf
    all_goals refine Again.mk (i+1) ⟨by omega,hri⟩ (by omega) (Fg.vw [(0,0,0)] ?_ ?_ (by simp) ?_)
    all_goals repeat' ((conv=>whnf);first|((refine ObN.mk ?_ ?_);exact zN)|((with_reducible refine ObO.l ?_);(refine ObN.mk ?_ ?_);(exact ZD))|((with_reducible refine ObRn.mk ?_ ?_);(focus (first|rfl|(simp [rnB,rnC,rnL];done))))|((with_reducible refine ObRow.same ?_ ?_ ?_);exact zE;(focus (first|rfl|assumption|(simp;done))))|((refine ObEqs.mk ?_ ?_);rfl)|exact True.intro)
   ·replace hri : r = some p := hri
    subst hri
    repeat' ((conv=>whnf);first|(refine SeqP.go ?_)|((refine ObD.mk ?_ ?_);(focus (first|rfl|(simp;done)|(simp [zy,geB,AOp.cls,AOp.xs,ltB,ltC,AX.ev,zh];done))))|((refine ObN.mk ?_ ?_);exact zN)|(with_reducible first|refine ObT.tt ?_|refine ObT.ff ?_)|((refine ObB.yes ?_ ?_);exact zB)|((refine ObX.mk _ rfl ?_ ?_);exact zX)|((with_reducible refine (?_:ObU _ _));(refine ObU.mk _ zU ?_))|((with_reducible refine (?_:ObR _ _ _));(first|(refine ObR.mk _ zG ?_)|(refine ObR.map zX (fun x hx=>?_))|(refine ObR.mk _ rfl ?_)))|((refine ObC.f 10 ?_);(refine ObC.mk _ (c10) ?_)))
    all_goals conv=>whnf
    all_goals refine ObEnd.vw [(0,0,0)] rfl ?_ (by simp) ?_
    all_goals repeat' ((conv=>whnf);first|((refine ObN.mk ?_ ?_);exact zN)|((with_reducible refine ObO.l ?_);(refine ObN.mk ?_ ?_);(exact ZD))|((with_reducible refine ObRow.same ?_ ?_ ?_);exact zE;(focus (first|rfl|assumption|(simp;done))))|exact True.intro)
  ·replace hri : r = some p := hri
   subst hri
   repeat' ((conv=>whnf);first|(refine SeqP.go ?_)|((refine ObD.mk ?_ ?_);(focus (first|rfl|(simp;done)|(simp [zy,geB,AOp.cls,AOp.xs,ltB,ltC,AX.ev,zh];done))))|((refine ObN.mk ?_ ?_);exact zN)|(refine ObT.tt ?_)|((refine ObB.yes ?_ ?_);exact zB)|((refine ObX.mk _ rfl ?_ ?_);exact zX)|((with_reducible refine (?_:ObU _ _));(refine ObU.mk _ zU ?_))|((with_reducible refine (?_:ObR _ _ _));(first|(refine ObR.mk _ zG ?_)|(refine ObR.map zX (fun x hx=>?_))|(refine ObR.mk _ rfl ?_))))
   all_goals conv=>whnf
   all_goals refine ObEnd.vw [(0,0,0)] rfl ?_ (by simp) ?_
   all_goals repeat' ((conv=>whnf);first|((refine ObN.mk ?_ ?_);exact zN)|((with_reducible refine ObO.l ?_);(refine ObN.mk ?_ ?_);(exact ZD))|((with_reducible refine ObRow.same ?_ ?_ ?_);exact zE;(focus (first|rfl|assumption|(simp;done))))|exact True.intro)
 ·obtain rfl : i = l.length := by omega
  rw [List.drop_length] at hri
  obtain rfl:r=none:=hri
  repeat' ((conv=>whnf);first|(refine SeqP.go ?_)|((refine ObN.mk ?_ ?_);exact zN)|(refine ObT.ff ?_)|((refine ObB.no ?_ ?_);exact zC)|(exact ObEnd.eq rfl rfl))
end
abbrev Fl (lo:Nat):Fence:=Fence.wide.inRound lo
theorem op_in {lo n:Nat} {P:Program} {o:Oper} {a:Act} {w:World} {K:Act->World->Prop} {Q:Exit->Act->World->Prop} (hd:∀ c,o.op ≠ .defer c) (h:o.wp P a w K (fun _ _ _=>False)):o.wpIn (Fl lo) n P a w K Q:=by
 unfold Oper.wp at h
 refine ⟨fun _ _=>trivial,?_⟩
 show o.uponIn (Fl lo) n P a K Q ((o.semAt (some lo) a.eval).run P w)
 rw [Oper.semAt_eq _ _ _ hd]
 generalize (execOp a.eval o).run P w=r at h
 cases r with
 | ok nx w' =>
  cases nx with
  | value v=>exact h
  | skip=>exact h
  | defer d=>exact h
  | enter f args =>
   refine ⟨fun hh=>(by cases hh),?_⟩
   have h2:CallsIn (Fl lo) (n - 1) P f args w' _:=callsIn_wide.2 h
   refine h2.mono fun e w'' he=>?_
   cases e with
   | returned v=>exact he
   | panicked c=>exact he.elim
   | outgrown=>obtain ⟨_,_,hh⟩:=he;exact hh.elim
  | row row args=>exact ⟨fun hh=>(by cases hh),fun c cs _=>let ⟨v,w',r,s⟩:=h c cs;⟨v,w',r,stepsIn_wide.2 s⟩⟩
  | _=>exact h.elim
 | halt hl w'=>cases hl<;>exact h.elim
theorem nodefer {P:Program} {G:Nat->AV} {hs:List FuncId} {ops:Array Oper} {o:Oper} {ev:AX->AV} {H:Hp} {d:Option Nat} {k:AV->Hp->Prop} (h:y0 P G ev H (w6 ops d (yP P hs o)) k):∀ c,o.op ≠ .defer c:=by
 intro c hc
 have h1:yP P hs o = .bad:=by unfold yP Zg;simp [hc]
 rw [h1] at h
 exact h
section
variable {P:Program} {b:Frame} {a:Act} {k:List Item} {cs:List Frame} {w:World} {c:Code}
theorem Z8:step P (lone (b.atR a (.code (.scope c)::k)) cs w) = .next (lone (b.atR a (.code c :: .inScope c::k)) cs w) :=
 step_lone_go (by simp [stepG,stepG.exec,Frame.atR])
theorem stepR_inScope:step P (lone (b.atR a (.inScope c::k)) cs w) = .next (lone (b.atR a k) cs w) :=
 step_lone_go (by simp [stepG,stepG.exec,Frame.atR])
end
theorem wpIn_scope_straight {F:Fence} {n:Nat} {P:Program} {Q:Exit->Act->World->Prop} {a:Act} {w:World} {c:Code} (h:c.wpIn F n P (Exit.noGoto Q) a w):(Code.scope c).wpIn F n P Q a w:=by
 intro b k cs hro hb hr
 have h0:(lone (b.atR a (.code (.scope c)::k)) cs w).fenced P F:=fenced_calm hb hr rfl
 obtain ⟨e,a₁,w₁,hq,harr⟩:=h b (.inScope c::k) cs hro hb hr
 cases e with
 | normal=>exact ⟨.normal,a₁,w₁,hq,.head h0 Z8 (StepsIn.trans harr (.one (fenced_calm hb hr rfl) stepR_inScope))⟩
 | exit id=>exact ⟨.exit id,a₁,w₁,hq,fun k' hk=>.head h0 Z8 (harr.1 k' (by simp [exitTo,hk])),fun hr' hk=>let ⟨k₁,h1,h2⟩:=harr.2 hr' (by simp [exitTo,hk]);⟨k₁,h1,.head h0 Z8 h2⟩⟩
 | goto l=>exact hq.elim
 | ret=>exact ⟨_,a₁,w₁,hq,.of_steps (.one h0 Z8) harr⟩
 | panic ch=>exact ⟨_,a₁,w₁,hq,.of_steps (.one h0 Z8) harr⟩
 | outgrown=>exact ⟨_,a₁,w₁,hq,.of_steps (.one h0 Z8) harr⟩
section
variable {P:Program} {G:Nat->AV} {hs:List FuncId} {B:Bd} {w0:World} {F0 F1:Fz} {O1:Ow} {lo n:Nat}
theorem AWi_okIn {ops : Array Oper} {i : Nat} {o : Oper} {ai : AI} (hi : ops[i]? = some o) (hc : w4 P hs ops o = some ai) {st : St} {a : Act} {w : World} {F : Fz} {O : Ow} (h : Rl G B w0 F0 F1 O1 F O st a w) {k : St -> Prop} (hk : AWi P G ai st k)
  {K:Act->World->Prop} {Q:Exit->Act->World->Prop} (hK:∀ st' a' w' F' O',k st'->Rl G B w0 F0 F1 O1 F' O' st' a' w'->K a' w'):wpOpIn (Fl lo) n P ops Q i K a w:=by
 unfold wpOpIn
 simp only [hi]
 simp only [w4] at hc
 split at hc
 ·rename_i hg
  cases hc
  have hw:Region.wanted o (yielded ops a.tmps)=true:=by unfold Region.wanted;rw [hg]
  simp only [hw,if_true]
  simp only [AWi] at hk
  exact op_in (nodefer hk) (Y8 (hs:=hs) (Q:=fun _ _ _=>False) h hk fun r H' x w' hkr hout=>by
   obtain ⟨F',O',h'⟩:=h.put (d:=o.dst) hout
   exact hK _ _ _ F' O' hkr h')
 ·rename_i j want hg
  split at hc
  ·rename_i t ht
   cases hc
   simp only [AWi] at hk
   split at hk
   ·rename_i b hb
    have hy:yielded ops a.tmps j=some b:=by
     unfold yielded
     rw [ht]
     simp only [Option.bind_some,h.guard hb]
    by_cases hbw:b=want
    ·rw [if_pos hbw] at hk
     have hw:Region.wanted o (yielded ops a.tmps)=true:=by unfold Region.wanted;rw [hg];simp [hy,hbw]
     simp only [hw,if_true]
     exact op_in (nodefer hk) (Y8 (hs:=hs) (Q:=fun _ _ _=>False) h hk fun r H' x w' hkr hout=>by
      obtain ⟨F',O',h'⟩:=h.put (d:=o.dst) hout
      exact hK _ _ _ F' O' hkr h')
    ·rw [if_neg hbw] at hk
     have hw:Region.wanted o (yielded ops a.tmps)=false:=by unfold Region.wanted;rw [hg];simp [hy,hbw]
     simp only [hw,Bool.false_eq_true,if_false]
     obtain ⟨F',O',h'⟩:=h.put (d:=o.dst) (r:=zh) (x:=undef) (Out.same h.own yw)
     exact ⟨fun _ _=>trivial,hK _ _ _ F' O' hk h'⟩
   ·rename_i hb
    have hu:=h.guardU hb
    have hy:yielded ops a.tmps j=none:=by
     unfold yielded
     rw [ht]
     simp only [Option.bind_some]
     rw [Array.getD_eq_getD_getElem?] at hu
     cases hq:a.tmps[t]? with
     | none=>rfl
     | some q=>rw [hq] at hu;simp only [Option.getD_some] at hu;subst hu;rfl
    have hw:Region.wanted o (yielded ops a.tmps)=false:=by unfold Region.wanted;rw [hg];simp [hy]
    simp only [hw,Bool.false_eq_true,if_false]
    obtain ⟨F',O',h'⟩:=h.put (d:=o.dst) (r:=zh) (x:=undef) (Out.same h.own yw)
    exact ⟨fun _ _=>trivial,hK _ _ _ F' O' hk h'⟩
   ·exact hk.elim
  ·cases hc
theorem Xz {ops : Array Oper} {Q : Exit -> Act -> World -> Prop} {k : St -> Prop} (hK : ∀ st' a' w' F' O', k st' -> Rl G B w0 F0 F1 O1 F' O' st' a' w' -> Q .normal a' w') :
  ∀ (l:List Nat) (as_:List AI),l.length=as_.length->(∀ (j i:Nat) (ai:AI),l[j]? = some i->as_[j]? = some ai->∃ o,ops[i]? = some o/\w4 P hs ops o=some ai) ->
  ∀ (st:St) (a:Act) (w:World) (F:Fz) (O:Ow),AWs P G as_ k st->Rl G B w0 F0 F1 O1 F O st a w->wpOpsIn (Fl lo) n P ops Q l a w
 | [],[],_,_,st,a,w,F,O,hk,h=>hK st a w F O hk h
 | [],_::_,hl,_,_,_,_,_,_,_,_=>by simp at hl
 | _::_,[],hl,_,_,_,_,_,_,_,_=>by simp at hl
 | i::l,ai::as_,hl,hop,st,a,w,F,O,hk,h=>by
  rw [wpOpsIn_cons]
  obtain ⟨o,ho,hc⟩:=hop 0 i ai rfl rfl
  simp only [AWs] at hk
  exact AWi_okIn ho hc h hk fun st' a' w' F' O' hk' h'=>Xz hK l as_ (by simpa using hl) (fun j i ai hj ha=>hop (j+1) i ai hj ha) st' a' w' F' O' hk' h'
theorem region_textIn {ops : Array Oper} {id : Nat} {as_ : List AI} (hc : xz P hs ops ops.toList = some as_) {Q : Exit -> Act -> World -> Prop} {k : St -> Prop} (hK : ∀ st' a' w' F' O', k st' -> Rl G B w0 F0 F1 O1 F' O' st' a' w' -> Q .normal a' w')
  {st:St} {a:Act} {w:World} {F:Fz} {O:Ow} (hk:AWs P G as_ k st) (h:Rl G B w0 F0 F1 O1 F O st a w):(Code.region id ops false).wpIn (Fl lo) n P Q a w:=by
 obtain ⟨q1,q2⟩:=ZW hc
 refine wpIn_region (Xz (hs:=hs) hK (List.range ops.size) as_ (by simpa using q1) (fun j i ai hj ha=>?_) st a w F O hk h)
 have hjl:j < ops.size:=by have:=(List.getElem?_eq_some_iff.1 hj).1;simpa using this
 rw [List.getElem?_range hjl] at hj
 cases hj
 exact ⟨ops[j],Array.getElem?_eq_getElem hjl,q2 j _ ai (by simp [hjl]) ha⟩
theorem region_drawIn {ops : Array Oper} {id : Nat} {as_ : List AI} (hc : xz P hs ops ops.toList = some as_) {Q : Exit -> Act -> World -> Prop} {k : St -> Prop} (hK : ∀ st' a' w' F' O', k st' -> Rl G B w0 F0 F1 O1 F' O' st' a' w' -> Q .normal a' w')
  {st:St} {a:Act} {w:World} {F:Fz} {O:Ow} (hk:∀ t,∃ bs:List AI,bs.length=(Region.schedule (P.follows .mixedOrders) ops t).length/\(∀ (j i:Nat) (ai:AI),(Region.schedule (P.follows .mixedOrders) ops t)[j]? = some i->bs[j]? = some ai->as_[i]? = some ai)/\AWs P G bs k st)
  (h:Rl G B w0 F0 F1 O1 F O st a w):(Code.region id ops true).wpIn (Fl lo) n P Q a w:=by
 obtain ⟨q1,q2⟩:=ZW hc
 refine wpIn_region_draw fun t=>?_
 obtain ⟨bs,b1,b2,b3⟩:=hk t
 refine Xz (hs:=hs) hK _ bs b1.symm (fun j i ai hj ha=>?_) st a _ F O b3 h.drew
 have hai:=b2 j i ai hj ha
 have hil:i < ops.size:=by have:=(List.getElem?_eq_some_iff.1 hai).1;rw [<- q1] at this;simpa using this
 exact ⟨ops[i],Array.getElem?_eq_getElem hil,q2 i _ ai (by simp [hil]) hai⟩
end
section
variable {P:Program} {G:Nat->AV} {hs:List FuncId} {B:Bd} {w0:World} {F0 F1:Fz} {O1:Ow} {m lo n:Nat}
theorem V_okIn (hm : O1.length <= m) : ∀ (c : Code) (ac : AC), ZK P hs c = some ac -> ∀ (Q : EX -> St -> Prop) (Q' : Exit -> Act -> World -> Prop) (st : St) (a : Act) (w : World) (F : Fz) (O : Ow), V P G m ac Q st -> Rl G B w0 F0 F1 O1 F O st a w ->
  (∀ e st' a' w' F' O',Q e st'->Rl G B w0 F0 F1 O1 F' O' st' a' w'->Q' e.out a' w')->c.wpIn (Fl lo) n P Q' a w:=by
 intro c
 induction c with
 | skip=>intro ac hc Q Q' st a w F O h hr hQ;cases hc;exact wpIn_skip (hQ .n st a w F O h hr)
 | label l=>intro ac hc Q Q' st a w F O h hr hQ;cases hc;exact wpIn_label (hQ .n st a w F O h hr)
 | region id ops draw =>
  intro ac hc Q Q' st a w F O h hr hQ
  obtain ⟨s,H⟩:=st
  simp only [ZK] at hc
  split at hc
  ·rename_i as_ has
   cases draw with
   | false =>
    cases hc
    exact region_textIn has (k:=fun st=>Q .n ⟨st.s,st.H⟩) (fun st' a' w' F' O' hk hr'=>hQ .n st' a' w' F' O' hk hr') (XQ P G (k:=fun s' H'=>Q .n ⟨s',H'⟩) h) hr
   | true =>
    simp only [if_true] at hc
    split at hc
    ·rename_i hd
     cases hc
     exact region_drawIn has (k:=fun st=>Q .n ⟨st.s,st.H⟩) (fun st' a' w' F' O' hk hr'=>hQ .n st' a' w' F' O' hk hr') (Yp (ZW has).1 hd (yn P G (k:=fun s' H'=>Q .n ⟨s',H'⟩) h)) hr
    ·split at hc
     ·rename_i hd
      cases hc
      exact region_drawIn has (k:=fun st=>Q .n ⟨st.s,st.H⟩) (fun st' a' w' F' O' hk hr'=>hQ .n st' a' w' F' O' hk hr') (Yc (ZW has).1 hd (vdx_ok P G (k:=fun s' H'=>Q .n ⟨s',H'⟩) h)) hr
     ·cases hc
  ·cases hc
 | seq x y ihx ihy =>
  intro ac hc Q Q' st a w F O h hr hQ
  simp only [ZK] at hc
  split at hc
  ·rename_i p q hp hq
   cases hc
   refine wpIn_seq (ihx p hp _ _ st a w F O h hr fun e st' a' w' F' O' he hr'=>?_)
   cases e with
   | n =>
    rcases he with he|⟨st2,hf,he⟩|⟨i,n,cv,he⟩|⟨ss,cv,he⟩|⟨t,i,g,n,h0,hl,he⟩
    ·exact ihy q hq Q Q' st' a' w' F' O' he hr' hQ
    ·obtain ⟨O2, hr2⟩ := hr'.forget hm hf
     exact ihy q hq Q Q' st2 a' w' F' O2 he hr2 hQ
    ·obtain ⟨s', H'⟩ := st'
     obtain ⟨st2,F2,he,hr2⟩:=Ws he hr'
     exact ihy q hq Q Q' st2 a' w' F2 O' he hr2 hQ
    ·obtain ⟨s', H'⟩ := st'
     obtain ⟨st2,he,hr2⟩:=Wl he hr'
     exact ihy q hq Q Q' st2 a' w' F' O' he hr2 hQ
    ·obtain ⟨c, hc, hr2⟩ := Wj h0 hl hr'
     exact ihy q hq Q Q' _ a' w' F' O' (he c hc) hr2 hQ
   | x id=>exact hQ (.x id) st' a' w' F' O' he hr'
   | r=>exact hQ .r st' a' w' F' O' he hr'
  ·cases hc
 | cond c x y ihx ihy =>
  intro ac hc Q Q' st a w F O h hr hQ
  obtain ⟨s,H⟩:=st
  simp only [ZK] at hc
  split at hc
  ·rename_i p q r hp hq hr'
   cases hc
   have ho:=hr.operand 0 c p hp
   simp only [V,Zo] at h
   split at h
   ·rename_i v hv
    split at h
    ·rename_i b
     rw [hv] at ho
     have ho:=ho.pvC rfl
     have e:a.eval c = .bool b:=by generalize a.eval c=q at ho;cases ho;rfl
     obtain ⟨h1,h2⟩:=h
     cases b
     ·exact wpIn_cond_false e (ihy r hr' Q Q' _ a w F O (h2 rfl) hr hQ)
     ·exact wpIn_cond_true e (ihx q hq Q Q' _ a w F O (h1 rfl) hr hQ)
    ·exact h.elim
   ·exact h.elim
  ·cases hc
 | block id c ih =>
  intro ac hc Q Q' st a w F O h hr hQ
  simp only [ZK] at hc
  split at hc
  ·rename_i p hp
   cases hc
   refine wpIn_block (ih p hp _ _ st a w F O h hr fun e st' a' w' F' O' he hr'=>?_)
   cases e with
   | n=>exact hQ .n st' a' w' F' O' he hr'
   | x id' =>
    simp only [yq] at he
    show (if id'=id then Q' .normal a' w' else Q' (.exit id') a' w')
    by_cases hid:id'=id
    ·rw [if_pos hid] at he ⊢;exact hQ .n st' a' w' F' O' he hr'
    ·rw [if_neg hid] at he ⊢;exact hQ (.x id') st' a' w' F' O' he hr'
   | r=>exact hQ .r st' a' w' F' O' he hr'
  ·cases hc
 | loop c ih =>
  intro ac hc Q Q' st a w F O h hr hQ
  simp only [ZK] at hc
  split at hc
  ·rename_i p hp
   cases hc
   obtain ⟨α,J,μ,sc,a0,h0,h1,h2⟩:=h
   have key:∀ (nn:Nat) (x:α) (a:Act) (w:World) (F:Fz) (O:Ow),μ x < nn->J x->Rl G B w0 F0 F1 O1 F O (sc x) a w->Code.roundsIn (Fl lo) n P c Q' nn a w:=by
    intro nn
    induction nn with
    | zero=>intro x a w F O hx;omega
    | succ nn ihn =>
     intro x a w F O hx hJ hr
     rw [roundsIn_succ]
     refine ih p hp _ _ (sc x) a w F O (h2 x hJ) hr fun e st' a' w' F' O' he hr'=>?_
     cases e with
     | n =>
      obtain ⟨x',g1,g2,g3⟩:=he
      obtain ⟨O2,hr2⟩:=hr'.forget hm g3
      exact ihn x' a' w' F' O2 (by omega) g1 hr2
     | x id=>exact hQ (.x id) st' a' w' F' O' he hr'
     | r=>exact hQ .r st' a' w' F' O' he hr'
   obtain ⟨O2,hr2⟩:=hr.forget hm h1
   exact wpIn_loop_rounds (μ a0+1) (key (μ a0+1) a0 a w F O2 (Nat.lt_succ_self _) h0 hr2)
  ·cases hc
 | scope c ih =>
  intro ac hc Q Q' st a w F O h hr hQ
  simp only [ZK] at hc
  split at hc
  ·rename_i p hp
   cases hc
   refine wpIn_scope_straight (ih p hp Q _ st a w F O h hr fun e st' a' w' F' O' he hr'=>?_)
   have:=hQ e st' a' w' F' O' he hr'
   cases e<;>exact this
  ·cases hc
 | exit id=>intro ac hc Q Q' st a w F O h hr hQ;cases hc;exact wpIn_exit (hQ (.x id) st a w F O h hr)
 | ret=>intro ac hc Q Q' st a w F O h hr hQ;cases hc;exact wpIn_ret (hQ .r st a w F O h hr)
 | rangeFunc=>intro ac hc;cases hc
 | goto=>intro ac hc;cases hc
 | refuse=>intro ac hc;cases hc
end
def NC (w:World) (b:Nat):Prop:=∃ o,w.heap[b]? = some o/\(match o with|.cells ..=>False|.map ..=>False|_=>True)
theorem NC.lt {w:World} {b:Nat} (h:NC w b):b < w.heap.size:=by
 obtain ⟨o,h,_⟩:=h
 rcases Nat.lt_or_ge b w.heap.size with hh|hh
 ·exact hh
 ·rw [Array.getElem?_eq_none hh] at h;cases h
theorem NC.cell {w:World} {b o:Nat} {p v} (h:NC w b) (hc:w.cell? ⟨b,o,p⟩=some v):False:=by
 obtain ⟨ob,h1,h2⟩:=h
 unfold World.cell? at hc
 simp only [h1] at hc
 cases ob<;>simp_all
theorem NC.row {B:Bd} {F:Fz} {O:Ow} {w:World} {d:Ds} {ob:OB} {b:Nat} (h:NC w b) (hr:Row B F O w d ob):d.b ≠ b:=by
 obtain ⟨o,h1,h2⟩:=h
 obtain ⟨cur,hc,_⟩:=hr.cur
 rintro rfl
 rcases hc with ⟨_,hc⟩|⟨_,_,_,hc,_⟩<;>rw [hc] at h1<;>cases h1<;>exact h2
theorem Row.ok {B B':Bd} {F:Fz} {O:Ow} {w:World} {d:Ds} {ob:OB} (h:Row B F O w d ob) (hb:B'.ok d.b):Row B' F O w d ob:=⟨h.hg,h.hk,hb,h.cur,h.hC,h.hl,h.hn,h.h1,h.hf,h.hz⟩
theorem Own.re {B:Bd} {w0 w:World} {F0 F:Fz} {O:Ow} {H:Hp} (h:Own B w0 F0 F O H w) (K':Nat->Prop) (hK:∀ b,K' b->NC w b) (ds:List Deferred):Own ⟨B.n,fun b=>B.K b\/K' b,ds⟩ w F0 F O H w :=
 ⟨h.len,fun i d ob h1 h2=>have hr:=h.row i d ob h1 h2;hr.ok ⟨hr.hB.1,fun hk=>hk.elim hr.hB.2 fun hk=>(hK _ hk).row hr rfl⟩,h.inj,h.fr,h.le,
  fun b o v hv=>(h.new b o v hv).imp id fun hb=>⟨hb.1,fun hk=>hk.elim hb.2 fun hk=>(hK _ hk).cell (h.fr b o v hv)⟩,Below.refl _ _,h.size,fun _ _=>rfl,
  fun b hk=>hk.elim (fun hk=>Nat.lt_of_lt_of_le (h.kb b hk) h.below.size) fun hk=>(hK b hk).lt⟩
theorem Own.un {B B':Bd} {w0 w w':World} {F0 F F':Fz} {O O':Ow} {H H':Hp} (h0:Own B w0 F0 F O H w) (h:Own B' w F0 F' O' H' w') (hn:B'.n=B.n) (hK:∀ b,B.K b->B'.K b):Own B w0 F0 F' O' H' w' :=
 ⟨h.len,fun i d ob h1 h2=>have hr:=h.row i d ob h1 h2;hr.ok ⟨hn ▸ hr.hB.1,fun hk=>hr.hB.2 (hK _ hk)⟩,h.inj,h.fr,h.le,
  fun b o v hv=>(h.new b o v hv).imp id fun hb=>⟨hn ▸ hb.1,fun hk=>hb.2 (hK _ hk)⟩,h0.below.trans (hn ▸ h.below),hn ▸ h.size,fun b hk=>(h.kept b (hK b hk)).trans (h0.kept b hk),h0.kb⟩
theorem Own.putNC {B:Bd} {w0 w:World} {F0 F:Fz} {O:Ow} {H:Hp} (h:Own B w0 F0 F O H w) {lo:Nat} (o:Obj) (hl:NC w lo) (hn:B.n<=lo) (hk:¬ B.K lo):Own B w0 F0 F O H (w.putObj lo o) :=
 ⟨h.len, fun i d ob h1 h2 => by
   have hr:=h.row i d ob h1 h2
   have hne:=hl.row hr
   obtain ⟨cur,c1,c2,c3⟩:=hr.cur
   exact ⟨hr.hg,hr.hk,hr.hB,⟨cur,by rw [World.putObj_heap_other hne];exact c1,c2,c3⟩,hr.hC,hr.hl,hr.hn,hr.h1,hr.hf,hr.hz⟩,h.inj,
  fun b o' v hv=>(World.cell?_of_block (World.putObj_heap_other fun e=>hl.cell (by have:=h.fr b o' v hv;rw [show b=lo from e] at this;exact this))).trans (h.fr b o' v hv),h.le,h.new,
  h.below.trans ⟨rfl,rfl,rfl,by simp,fun k hlt=>World.putObj_heap_other (by omega)⟩,by simpa using h.size,fun b hb=>(World.putObj_heap_other fun e=>hk (by rw [<- show b=lo from e];exact hb)).trans (h.kept b hb),h.kb⟩
abbrev Xm (D:Nat):Deferred:={ target:=.collected D,args:=#[] }
structure Ext (B:Bd) (w0:World) (F0:Fz) (B':Bd) (w0':World):Prop where
 n:B'.n=B.n
 K:∀ b,B.K b->B'.K b
 kept:∀ b,B.K b->w0'.heap[b]? = w0.heap[b]?
 back:∀ F O H w,Own B' w0' F0 F O H w->Own B w0 F0 F O H w
 size:w0.heap.size<=w0'.heap.size
 ds:∃ Ds:List Nat,B'.ds=Ds.map Xm++B.ds/\Ds.Nodup/\∀ D ∈ Ds,w0.heap.size<=D/\B.n<=D/\B'.K D/\w0'.heap[D]? = some (.deferred (some []))
theorem Ext.refl (B:Bd) (w0:World) (F0:Fz):Ext B w0 F0 B w0:=⟨rfl,fun _ h=>h,fun _ _=>rfl,fun _ _ _ _ h=>h,Nat.le_refl _,[],rfl,.nil,fun _ h=>by cases h⟩
theorem Ext.trans {B B1 B2:Bd} {w0 w1 w2:World} {F0:Fz} (h:Ext B w0 F0 B1 w1) (k:Ext B1 w1 F0 B2 w2):Ext B w0 F0 B2 w2:=by
 obtain ⟨D1,e1,n1,p1⟩:=h.ds
 obtain ⟨D2,e2,n2,p2⟩:=k.ds
 refine ⟨k.n.trans h.n,fun b hb=>k.K b (h.K b hb),fun b hb=>(k.kept b (h.K b hb)).trans (h.kept b hb),fun F O H w hw=>h.back _ _ _ _ (k.back _ _ _ _ hw),Nat.le_trans h.size k.size,D2++D1,by rw [e2,e1];simp,?_,?_⟩
 ·rw [List.nodup_append]
  refine ⟨n2,n1,fun a ha b hb hab=>?_⟩
  subst hab
  have q1:=(p2 a ha).1
  have q2:=(p1 a hb).2.2.2
  rw [Array.getElem?_eq_none q1] at q2;cases q2
 ·intro D hD
  rcases List.mem_append.1 hD with hD|hD
  ·obtain ⟨q1, q2, q3, q4⟩ := p2 D hD
   exact ⟨Nat.le_trans h.size q1,h.n ▸ q2,q3,q4⟩
  ·obtain ⟨q1, q2, q3, q4⟩ := p1 D hD
   exact ⟨q1,q2,k.K D q3,(k.kept D q3).trans q4⟩
theorem Rl.keepB {G:Nat->AV} {B:Bd} {w0:World} {F0 F1:Fz} {O1:Ow} {F:Fz} {O:Ow} {st:St} {a:Act} {w w':World} (h:Rl G B w0 F0 F1 O1 F O st a w) (hb:Below w.heap.size w w'):Rl G B w0 F0 F1 O1 F O st a w' :=
 ⟨h.own.keep hb,h.size,h.slot,h.defs,h.gok,h.leF,h.leO⟩
def SeqC (P:Program) (G:Nat->AV) (f:FuncId) (cs:List AV) (l:List AV):Prop :=
 Zs P f=true/\∀ (n lo:Nat) (F:Fz) (xs:List Value) (J:Nat->World->Prop) (W:World),GOK G F->xs.length=cs.length->(∀ (i:Nat) (c:Value) (a:AV),xs[i]? = some c->cs[i]? = some a->PV F c a) ->
  (∀ k W1,J k W1->∀ b o v,F b o=some v->W1.cell? ⟨b,o,none⟩=some v) ->
  (∀ k W1 W2,J k W1->Below W1.heap.size W1 W2->J k W2) ->
  (∀ k W1 e v n',J k W1->l[k]? = some e->PV F v e->∃ fn tmps assign body,(Instr.yield lo #[v]).run P W1 = .ok (.round lo fn tmps assign body) W1/\RoundIn Fence.wide n' P lo fn tmps assign body W1 fun e W'=>e = .returned (.bool true)/\J (k+1) W') ->
  J 0 W->CallsIn Fence.wide n P f (#[.func (.yield lo) #[] #[]]++xs.toArray) W fun e W'=>(∃ v,e = .returned v)/\J l.length W'
inductive AgR {α:Type} (m:Nat) (J:Nat->α->Prop) (rows:α->Hp) (s:List AV) (k:Nat) (st:St):Prop
 | mk (a:α) (h1:J k a) (h2:Fg m ⟨s,st.H⟩ ⟨s,rows a⟩):AgR m J rows s k st
def RndQ {α:Type} (m:Nat) (J:Nat->α->Prop) (rows:α->Hp) (s:List AV) (k:Nat):EX->St->Prop
 | .n,st=>AgR m J rows s k st
 | _,_=>False
def asgQ (K:St->Prop):EX->St->Prop
 | .n,st=>K st
 | _,_=>False
section
variable (P:Program) (G:Nat->AV)
inductive RngP (m:Nat) (gv:AV) (p:Nat) (x y:AC) (Q:EX->St->Prop) (s:List AV) (H:Hp):Prop
 | mk (f : FuncId) (cs l : List AV) (hg : fnA gv = some (f, cs)) (hp : cs.all AV.isP = true) (hs : SeqC P G f cs l) (α : Type) (J : Nat -> α -> Prop) (rows : α -> Hp) (x0 : α) (h0 : J 0 x0) (s' : List AV) (hH : Fg m ⟨s, H⟩ ⟨s', rows x0⟩)
   (h1:∀ k a e,J k a->l[k]? = some e->V P G (rows a).length x (asgQ (V P G (rows a).length y (RndQ m J rows s' (k+1)))) ⟨s'.set p e,rows a⟩)
   (h2:∀ a,J l.length a->Q .n ⟨s',rows a⟩):RngP m gv p x y Q s H
end
section
variable {P:Program} {G:Nat->AV} {hs:List FuncId}
theorem enters_body {f:FuncId} (hb:Zs P f=true) (args:Array Value) (w:World):(callFunc f args).run P w = .ok (.enter f args) w:=by
 unfold Zs at hb
 split at hb
 ·rename_i fn hfn
  simp only [Bool.and_eq_true,bne_iff_ne,ne_eq] at hb
  have hbn:fn.body.isNone=false:=by cases hq:fn.body with
   | none=>rw [hq] at hb;simp at hb
   | some _=>rfl
  have hnm:(fn.name == "runtime.NumGoroutine")=false:=by simpa using hb.2
  simp only [Sem.run_bind,Sem.run_pure,Result.andThen_ok,callFunc,program,Sem.run,hfn,hnm,hbn,Bool.false_eq_true,if_false]
 ·cases hb
set_option maxHeartbeats 1000000 in
theorem rng_ok {B : Bd} {w0 : World} {F0 F1 : Fz} {O1 : Ow} {m : Nat} (hm : O1.length <= m) {g : Operand} {p : Nat} {assign body : Code} {x y : AC} (hx : ZK P hs assign = some x) (hy : ZK P hs body = some y) {gv : AV} {s : List AV} {H : Hp} {a : Act} {w : World} {F : Fz} {O : Ow} {Q : EX -> St -> Prop} {Q' : Exit -> Act -> World -> Prop}
  (hr:Rl G B w0 F0 F1 O1 F O ⟨s,H⟩ a w) (hgv:VR F O (a.eval g) gv) (h:RngP P G m gv p x y Q s H)
  (hQ:∀ st' a' w' F' O' B' w0',Ext B w0 F0 B' w0'->Q .n st'->Rl G B' w0' F0 F1 O1 F' O' st' a' w'->Q' .normal a' w'):(Code.rangeFunc g #[p] assign body).wp P Q' a w:=by
 refine (wpIn_wide (n:=0)).1 (wpIn_rangeFunc ?_)
 intro fn hfn
 obtain ⟨f,cs,l,hg,hp,⟨hbody,hs⟩,α,J,rows,x0,h0,s',hH,h1,h2⟩:=h
 obtain ⟨xs,hxe,hxl,hxv⟩:=fnA_ok hgv hg
 have hxp:∀ (i:Nat) (c:Value) (a:AV),xs[i]? = some c->cs[i]? = some a->PV F c a:=fun i c a h1 h2=>(hxv i c a h1 h2).pv (List.all_eq_true.1 hp a (List.mem_of_getElem? h2))
 obtain ⟨rec,hrec⟩:∃ rec:LoopState->Option Code->Loop,rec=fun st pe=>{ state:=st,pending:=pe,fn,tmps:=a.tmps,params:=#[p],assign,body,defers:=w.heap.size }:=⟨_,rfl⟩
 obtain ⟨W1,hW1⟩:∃ W1,(w.alloc (.deferred (some []))).alloc (.loop (rec .ready none))=W1:=⟨_,rfl⟩
 obtain ⟨D,hD⟩:∃ D,D=w.heap.size:=⟨_,rfl⟩
 obtain ⟨lo,hlo⟩:∃ lo,lo=w.heap.size+1:=⟨_,rfl⟩
 have hL1:W1.heap[lo]? = some (.loop (rec .ready none)):=by
  rw [<- hW1,hlo];have:=World.alloc_heap_new (w.alloc (.deferred (some []))) (.loop (rec .ready none));rwa [World.size_alloc] at this
 have hK1:W1.heap[D]? = some (.deferred (some [])):=by
  rw [<- hW1,hD];exact (Below.heap_alloc _ _ _ (by simp)).trans (World.alloc_heap_new w _)
 have hb1:Below w.heap.size w W1:=by
  rw [<- hW1];exact ((Below.refl _ w).alloc (Nat.le_refl _) _).alloc (by simp) _
 have hBn:B.n<=w.heap.size:=hr.own.size
 have hBK:∀ b,B.K b->b < w.heap.size:=fun b hb=>Nat.lt_of_lt_of_le (hr.own.kb b hb) hr.own.below.size
 have hlK:¬ B.K lo:=fun hk=>by have:=hBK _ hk;omega
 have ncL:∀ {W:World} {r:Loop},W.heap[lo]? = some (.loop r)->NC W lo:=fun h=>⟨_,h,trivial⟩
 have ncD:∀ {W:World},W.heap[D]? = some (.deferred (some []))->NC W D:=fun h=>⟨_,h,trivial⟩
 obtain ⟨J',hJ'⟩:∃ J':Nat->World->Prop,J'=fun k W=>(∃ F' O' x',J k x'/\F.le F'/\Rl G B w0 F0 F1 O1 F' O' ⟨s',rows x'⟩ a W)/\W.heap[lo]? = some (.loop (rec .ready none))/\W.heap[D]? = some (.deferred (some [])):=⟨_,rfl⟩
 refine ⟨lo,[Xm D],W1,{ target:=.fn (.func f) xs.toArray,args:=#[.func (.yield lo) #[] #[]] },W1,f,#[.func (.yield lo) #[] #[]]++xs.toArray,W1,?_,?_,fun _ _=>trivial,?_,fun hh=>(by cases hh),?_⟩
 ·rw [<- hW1,hrec,hlo,hD];exact run_enterLoop_outer _ _ _ _ _
 ·simp only [resolve,hxe]
  simp [go_sem]
 ·simp [invoke,go_sem,enters_body hbody]
 refine (hs _ lo F xs J' W1 hr.gok hxl hxp ?_ ?_ ?_ ?_).mono ?_
 ·intro k W hj b o v hv
  rw [hJ'] at hj
  obtain ⟨⟨F',O',x',_,lF,hrl⟩,_⟩:=hj
  exact hrl.own.fr b o v (lF b o v hv)
 ·intro k W W2 hj hb
  rw [hJ'] at hj ⊢
  obtain ⟨⟨F',O',x',hjx,lF,hrl⟩,hl,hd⟩:=hj
  exact ⟨⟨F',O',x',hjx,lF,hrl.keepB hb⟩,(hb.block _ (ncL hl).lt).trans hl,(hb.block _ (ncD hd).lt).trans hd⟩
 ·intro k W e v n' hj he hv
  rw [hJ'] at hj
  obtain ⟨⟨F',O',x',hjx,lF,hrl⟩,hl,hd⟩:=hj
  have hyl:=run_yield (P:=P) (args:=#[v]) hl (by rw [hrec];simp)
  refine ⟨fn,a.tmps.setIfInBounds p v,assign,body,by rw [hyl,hrec];simp,roundIn_of_wpIn hfn ?_⟩
  have hKK:∀ {W:World} {r:Loop},W.heap[lo]? = some (.loop r)->W.heap[D]? = some (.deferred (some []))->∀ b,(b=lo\/b=D)->NC W b:=fun h1 h2 b hb=>by
   rcases hb with rfl|rfl
   ·exact ncL h1
   ·exact ncD h2
  have own1:=hrl.own.re (fun b=>b=lo\/b=D) (hKK hl hd) []
  have rl1 : Rl G _ W F0 F' O' F' O' ⟨s'.set p e, rows x'⟩ { tmps := a.tmps.setIfInBounds p v, defers := [] } W := ⟨own1, by simp only [Array.size_setIfInBounds,List.length_set]; exact hrl.size, fun t => by
    have hsz:=hrl.size
    have h0:=hrl.slot t
    simp only at h0 hsz
    show VR F' O' ((a.tmps.setIfInBounds p v).getD t undef) ((s'.set p e).getD t zh)
    rw [Array.getD_eq_getD_getElem?,List.getD_eq_getElem?_getD] at h0 ⊢
    by_cases hpt:p=t
    ·subst hpt
     by_cases hlt:p < s'.length
     ·rw [List.getElem?_set_self hlt, Array.getElem?_setIfInBounds_self_of_lt (by omega)]
      exact .p (hv.mono lF)
     ·rw [List.getElem?_eq_none (by simp; omega), Array.getElem?_eq_none (by simp; omega)]
      exact yw
    ·rw [List.getElem?_set_ne hpt, Array.getElem?_setIfInBounds_ne hpt]
     exact h0,rfl,hrl.gok,Fz.le_refl _,Ow.le_refl _⟩
  refine V_okIn (m:=(rows x').length) (by rw [hrl.own.len];exact Nat.le_refl _) assign x hx _ _ _ _ _ _ _ (h1 k x' e hjx he) rl1 ?_
  intro ex st1 a1 w1 F2 O2 hq rl2
  cases ex with
  | x id=>exact hq.elim
  | r=>exact hq.elim
  | n =>
   have hl1:w1.heap[lo]? = some (.loop (rec .ready none)):=(rl2.own.kept lo (.inr (.inl rfl))).trans hl
   have hd1:w1.heap[D]? = some (.deferred (some [])):=(rl2.own.kept D (.inr (.inr rfl))).trans hd
   refine ⟨_,run_beginRound hl1 (by rw [hrec]),?_⟩
   obtain ⟨rb,hrb⟩:∃ rb:Loop,rb = { rec .ready none with state:=.busy }:=⟨_,rfl⟩
   rw [<- hrb]
   have own2:=(hrl.own.un rl2.own rfl (fun b hb=>.inl hb)).putNC (.loop rb) (ncL hl1) (by omega) hlK
   have hl2:(w1.putObj lo (.loop rb)).heap[lo]? = some (.loop rb):=World.putObj_heap_same (ncL hl1).lt
   have hd2:(w1.putObj lo (.loop rb)).heap[D]? = some (.deferred (some [])):=(World.putObj_heap_other (by omega)).trans hd1
   have own3:=own2.re (fun b=>b=lo\/b=D) (hKK hl2 hd2) []
   have rl3:Rl G _ (w1.putObj lo (.loop rb)) F0 F' O' F2 O2 st1 a1 (w1.putObj lo (.loop rb)):=⟨own3,rl2.size,rl2.slot,rl2.defs,rl2.gok,rl2.leF,rl2.leO⟩
   refine V_okIn (m:=(rows x').length) (by rw [hrl.own.len];exact Nat.le_refl _) body y hy _ _ _ _ _ _ _ hq rl3 ?_
   intro ex st3 a3 w3 F3 O3 hq3 rl4
   cases ex with
   | x id=>exact hq3.elim
   | r=>exact hq3.elim
   | n =>
    obtain ⟨x2,g1,g2⟩:=hq3
    have hl3:w3.heap[lo]? = some (.loop rb):=(rl4.own.kept lo (.inr (.inl rfl))).trans hl2
    have hd3:w3.heap[D]? = some (.deferred (some [])):=(rl4.own.kept D (.inr (.inr rfl))).trans hd2
    refine ⟨_,_,run_endRound none hl3,rfl,?_⟩
    rw [hJ']
    have hrr:({ rb with state:=if (none:Option Code).isNone=true then LoopState.ready else LoopState.done,pending:=none }:Loop)=rec .ready none:=by rw [hrb,hrec];rfl
    rw [hrr]
    have own4:=(own2.un rl4.own rfl (fun b hb=>.inl hb)).putNC (.loop (rec .ready none)) (ncL hl3) (by omega) hlK
    have rl5:Rl G B w0 F0 F1 O1 F3 O3 ⟨s',st3.H⟩ a (w3.putObj lo (.loop (rec .ready none))):=⟨own4,hrl.size,fun t=>(hrl.slot t).mono rl4.leF rl4.leO,hrl.defs,hrl.gok.mono rl4.leF,Fz.le_trans hrl.leF rl4.leF,Ow.le_trans hrl.leO rl4.leO⟩
    obtain ⟨O5,rl6⟩:=rl5.forget hm g2
    exact ⟨⟨F3,O5,x2,g1,Fz.le_trans lF rl4.leF,rl6⟩,World.putObj_heap_same (ncL hl3).lt,(World.putObj_heap_other (by omega)).trans hd3⟩
 ·rw [hJ']
  obtain ⟨O2,hr2⟩:=(hr.keepB hb1).forget hm hH
  exact ⟨⟨F,O2,x0,h0,Fz.le_refl F,hr2⟩,hL1,hK1⟩
 ·rintro e W2 ⟨⟨v, rfl⟩, hj⟩
  rw [hJ'] at hj
  obtain ⟨⟨F',O',x',hjx,lF,hrl⟩,hl,hd⟩:=hj
  obtain ⟨rx,hend⟩:∃ rx:Loop,(Instr.endLoop lo).run P W2 = .ok none (W2.putObj lo (.loop rx)):=by
   have h:=run_endLoop (P:=P) hl (by rw [hrec];simp)
   rw [hrec] at h
   exact ⟨_,h⟩
  refine ⟨none,_,hend,?_⟩
  show Q' .normal _ _
  have own4:=hrl.own.putNC (.loop rx) (ncL hl) (by omega) hlK
  have hd4:(W2.putObj lo (.loop rx)).heap[D]? = some (.deferred (some [])):=(World.putObj_heap_other (by omega)).trans hd
  have own5:=own4.re (fun b=>b=D) (fun b hb=>by subst hb;exact ncD hd4) (Xm D::B.ds)
  refine hQ ⟨s',rows x'⟩ _ _ F' O' ⟨B.n,fun b=>B.K b\/b=D,Xm D::B.ds⟩ _ ⟨rfl,fun b hb=>.inl hb,own4.kept,fun F5 O5 H5 w5 h5=>own4.un h5 rfl (fun b hb=>.inl hb),own4.below.size,[D],rfl,by simp,fun D' hD'=>?_⟩ (h2 x' hjx) ⟨own5,hrl.size,hrl.slot,by show Xm D::a.defers=Xm D::B.ds;rw [hrl.defs],hrl.gok,hrl.leF,hrl.leO⟩
  obtain rfl:D'=D:=by simpa using hD'
  exact ⟨by have:=hr.own.below.size;omega,by omega,.inr rfl,hd4⟩
end
def Y4 (P:Program) (hs:List FuncId):Code->Option AC
 | .seq a b=>(match Y4 P hs a,Y4 P hs b with|some x,some y=>some (.seq x y)|_,_=>none)
 | .cond c t e=>(match cx P 0 c,Y4 P hs t,Y4 P hs e with|some c,some x,some y=>some (.cond c x y)|_,_,_=>none)
 | .block id c=>(match Y4 P hs c with|some x=>some (.block id x)|none=>none)
 | .scope c=>(match Y4 P hs c with|some x=>some (.scope x)|none=>none)
 | .rangeFunc g ps a b=>(match cx P 0 g,ps.toList,ZK P hs a,ZK P hs b with|some g,[p],some x,some y=>some (.rng g p x y)|_,_,_,_=>none)
 | .skip=>ZK P hs .skip
 | .label l=>ZK P hs (.label l)
 | .region i ops d=>ZK P hs (.region i ops d)
 | .loop c=>ZK P hs (.loop c)
 | .exit i=>ZK P hs (.exit i)
 | .ret=>ZK P hs .ret
 | _=>none
def wZ (i g kk n:Nat) (es:List AV):List AV->(List AV->Prop)->Prop
 | [],k=>k []
 | a::as_,k=>(match a with
  | .agg cs=>fcL i g kk n es cs (fun cs'=>wZ i g kk n es as_ (fun bs=>k (.agg cs'::bs)))
  | .ol j g' n'=>fcC i g kk n es false (.ol j g' n') (fun b=>wZ i g kk n es as_ (fun bs=>k (b::bs)))
  | a=>wZ i g kk n es as_ (fun bs=>k (a::bs)))
theorem xL {i g kk n:Nat} {es:List AV}:∀ {as_:List AV} {k:List AV->Prop},wZ i g kk n es as_ k->∃ bs,k bs/\bs.length=as_.length/\∀ (c:Nat) (b:AV),bs[c]? = some b->∃ a,as_[c]? = some a/\b.cells.length=a.cells.length/\∀ (c:Nat) (y:AV),b.cells[c]? = some y->∃ x,a.cells[c]? = some x/\FzR i g kk n es x y
 | [],_,h=>⟨[],h,rfl,fun c b hb=>by simp at hb⟩
 | a::as_,k,h=>by
  have same:wZ i g kk n es as_ (fun bs=>k (a::bs))->∃ bs,k bs/\bs.length=(a::as_).length/\∀ (c:Nat) (b:AV),bs[c]? = some b->∃ a',(a::as_)[c]? = some a'/\b.cells.length=a'.cells.length/\∀ (c:Nat) (y:AV),b.cells[c]? = some y->∃ x,a'.cells[c]? = some x/\FzR i g kk n es x y:=fun h=>by
   obtain ⟨bs,h3,h4,h5⟩:=xL h
   refine ⟨a::bs,h3,by simp [h4],fun c x hx=>?_⟩
   cases c with
   | zero=>simp at hx;subst hx;exact ⟨a,rfl,rfl,fun c y hy=>⟨y,hy,.inl rfl⟩⟩
   | succ c=>obtain ⟨y,q1,q2⟩:=h5 c x (by simpa using hx);exact ⟨y,by simpa using q1,q2⟩
  cases a with
  | agg cs =>
   simp only [wZ] at h
   obtain ⟨cs',h1,h2,h3⟩:=wy h
   obtain ⟨bs,h4,h5,h6⟩:=xL h1
   refine ⟨.agg cs'::bs,h4,by simp [h5],fun c x hx=>?_⟩
   cases c with
   | zero=>simp at hx;subst hx;exact ⟨_,rfl,h2,h3⟩
   | succ c=>obtain ⟨y,q1,q2⟩:=h6 c x (by simpa using hx);exact ⟨y,by simpa using q1,q2⟩
  | ol j g' n' =>
   simp only [wZ] at h
   obtain ⟨b,h1,h2⟩:=fcC_ok h
   have hz:FzR i g kk n es (.ol j g' n') b:=h2.resolve_left (by simp)
   obtain ⟨bs,h4,h5,h6⟩:=xL h1
   refine ⟨b::bs,h4,by simp [h5],fun c x hx=>?_⟩
   cases c with
   | zero =>
    simp at hx;subst hx
    have hb:b.cells=[b]:=by rcases hz with rfl|⟨_,_,_,rfl⟩<;>rfl
    refine ⟨_,rfl,by rw [hb];rfl,fun c y hy=>?_⟩
    rw [hb] at hy
    cases c with
    | zero=>simp at hy;subst hy;exact ⟨_,rfl,hz⟩
    | succ c=>simp at hy
   | succ c=>obtain ⟨y,q1,q2⟩:=h6 c x (by simpa using hx);exact ⟨y,by simpa using q1,q2⟩
  | _=>exact same h
def fcHX (i g kk n:Nat) (es:List AV):Hp->List Bool->(Hp->Prop)->Prop
 | H,[],k=>k H
 | [],_::_,k=>k []
 | ob::H,c::cs,k=>(match c with
  | true=>(match ob with|⟨e,kk',es',g',fz⟩=>wZ i g kk n es es' (fun es2=>fcHX i g kk n es H cs (fun H'=>k (⟨e,kk',es2,g',fz⟩::H'))))
  | false=>fcHX i g kk n es H cs (fun H'=>k (ob::H')))
theorem wz {i g kk n : Nat} {es : List AV} : ∀ {cs : List Bool} {H : Hp} {k : Hp -> Prop}, fcHX i g kk n es H cs k -> ∃ H2, k H2 /\ H2.length = H.length /\ ∀ (j : Nat) (ob2 : OB), H2[j]? = some ob2 -> ∃ ob, H[j]? = some ob /\ ob2.e = ob.e /\ ob2.k = ob.k /\ ob2.g = ob.g /\ ob2.fz = ob.fz /\ ob2.es.length = ob.es.length /\
   ∀ (c:Nat) (b:AV),ob2.es[c]? = some b->∃ a,ob.es[c]? = some a/\b.cells.length=a.cells.length/\∀ (c:Nat) (y:AV),b.cells[c]? = some y->∃ x,a.cells[c]? = some x/\FzR i g kk n es x y
 | [],H,k,h=>⟨H,by cases H<;>exact h,rfl,fun j ob2 h=>⟨ob2,h,rfl,rfl,rfl,rfl,rfl,fun c b hb=>⟨b,hb,rfl,fun c y hy=>⟨y,hy,.inl rfl⟩⟩⟩⟩
 | _::_,[],k,h=>⟨[],h,rfl,fun j ob2 h=>by simp at h⟩
 | true::cs,⟨e,kk',es',g',fz⟩::H,k,h=>by
  simp only [fcHX] at h
  obtain ⟨es2,h1,h2,h3⟩:=xL h
  obtain ⟨H',h4,h5,h6⟩:=wz h1
  refine ⟨_,h4,by simp [h5],fun j ob2 hj=>?_⟩
  cases j with
  | zero=>simp at hj;subst hj;exact ⟨_,rfl,rfl,rfl,rfl,rfl,h2,h3⟩
  | succ j=>obtain ⟨ob,q1,q2⟩:=h6 j ob2 (by simpa using hj);exact ⟨ob,by simpa using q1,q2⟩
 | false::cs,ob::H,k,h=>by
  simp only [fcHX] at h
  obtain ⟨H',h4,h5,h6⟩:=wz h
  refine ⟨_,h4,by simp [h5],fun j ob2 hj=>?_⟩
  cases j with
  | zero=>simp at hj;subst hj;exact ⟨ob,rfl,rfl,rfl,rfl,rfl,rfl,fun c b hb=>⟨b,hb,rfl,fun c y hy=>⟨y,hy,.inl rfl⟩⟩⟩
  | succ j=>obtain ⟨ob',q1,q2⟩:=h6 j ob2 (by simpa using hj);exact ⟨ob',by simpa using q1,q2⟩
def fzKX (i n:Nat) (cv:List Bool) (s:List AV) (H:Hp) (k:St->Prop):Prop :=
 rK H i (fun ob=>match ob with|⟨e,kk,es,g,fz⟩=>(match Nat.beq e 4000000000 with|true=>False|false=>ObN (n<=es.length) (ObN ((es.take n).all AV.isP=true) (rpK H i ⟨e,kk,es,g,max fz n⟩ (fun H1=>fcS i g kk n es s (fun s'=>fcHX i g kk n es H1 cv (fun H'=>k ⟨s',H'⟩)))))))
theorem fzKX_ok {G:Nat->AV} {B:Bd} {w0:World} {F0 F1:Fz} {O1:Ow} {F:Fz} {O:Ow} {s:List AV} {H:Hp} {a:Act} {w:World} {i n:Nat} {cv:List Bool} {k:St->Prop} (hk:fzKX i n cv s H k) (h:Rl G B w0 F0 F1 O1 F O ⟨s,H⟩ a w):∃ st2 F',k st2/\Rl G B w0 F0 F1 O1 F' O st2 a w:=by
 obtain ⟨ob,h1,h2⟩:=XI hk
 obtain ⟨e,kk,es,g,fz⟩:=ob
 simp only at h2
 split at h2
 ·exact h2.elim
 rename_i hbe
 have hne:(e == 4000000000)=false:=(beqN e _).trans hbe
 obtain ⟨hn,hp,h2⟩:=h2
 rw [yc] at h2
 obtain ⟨s',h3,h4,h5⟩:=fcS_ok h2
 obtain ⟨H',h6,h7,h8⟩:=wz h3
 obtain ⟨F',own,lF,hz⟩:=h.own.freezeN h1 (by simpa using hne) hn hp
 refine ⟨_,F',h6,?_,by rw [h.size];exact h4.symm,fun t=>?_,h.defs,h.gok.mono lF,Fz.le_trans h.leF lF,h.leO⟩
 ·refine own.recell (by simpa using h7) fun j ob2 hj=>?_
  obtain ⟨ob1,q1,q2,q3,q4,q5,q6,q7⟩:=h8 j ob2 hj
  refine ⟨ob1,q1,q2,q3,q4,q5,q6,fun c e2 he=>?_⟩
  obtain ⟨e1,p1,p2,p3⟩:=q7 c e2 he
  refine ⟨e1,p1,p2,fun c a2 ha=>?_⟩
  obtain ⟨a1,p4,p5⟩:=p3 c a2 ha
  refine ⟨a1,p4,p5.one,fun x hx=>p5.vr (Fz.le_refl F') (fun x n' hn' hx=>?_) hx⟩
  -- the XJ in the row is the same as_ before
  have hx':VR F O x (.ol i g n'):=by
   cases hx with
   | p h=>cases h
   | ol _ _ _ _ d hd hg h1 h=>exact .ol x i g n' d hd hg h1 h
  exact hz x n' hn' hx'
 ·rw [List.getD_eq_getElem?_getD]
  cases hq:s'[t]? with
  | none =>
   have h0:s[t]? = none:=by rw [List.getElem?_eq_none_iff] at hq ⊢;omega
   have:=h.slot t
   rw [List.getD_eq_getElem?_getD] at this
   simp only [h0] at this
   exact this.mono lF (Ow.le_refl O)
  | some b =>
   obtain ⟨a0,q1,q2⟩:=h5 t b hq
   have:=h.slot t
   rw [List.getD_eq_getElem?_getD] at this
   simp only [q1] at this
   exact q2 F F' O lF hz _ this
inductive SeqX (m:Nat) (K:St->Prop) (st:St):Prop
 | sp (h:SeqP m K st):SeqX m K st
 | fe (i n:Nat) (cv:List Bool) (h:fzKX i n cv st.s st.H K):SeqX m K st
section
variable (P:Program) (G:Nat->AV)
def VX (m:Nat):AC->(EX->St->Prop)->St->Prop
 | .seq a b,Q,st=>VX m a (yf (SeqX m (VX m b Q)) Q) st
 | .cond c t e,Q,st=>(match st with|⟨s,H⟩=>eK G s c (fun c=>match c with
  | .v v=>(match v with|.bool b=>ObT b (VX m t Q ⟨s,H⟩) (VX m e Q ⟨s,H⟩)|_=>False)
  | _=>False))
 | .block id c,Q,st=>VX m c (yq id Q) st
 | .scope c,Q,st=>VX m c Q st
 | .rng g p x y,Q,st=>(match st with|⟨s,H⟩=>eK G s g (fun gv=>RngP P G m gv p x y Q s H))
 | .skip,Q,st=>Q .n st
 | .region ops,Q,st=>V P G m (.region ops) Q st
 | .draw ops,Q,st=>V P G m (.draw ops) Q st
 | .drawx reps,Q,st=>V P G m (.drawx reps) Q st
 | .loop c,Q,st=>V P G m (.loop c) Q st
 | .exit id,Q,st=>Q (.x id) st
 | .ret,Q,st=>Q .r st
end
section
variable {P:Program} {G:Nat->AV} {hs:List FuncId} {F0 F1:Fz} {O1:Ow} {m:Nat}
theorem copC_region {i:Nat} {ops:Array Oper} {d:Bool} {ac:AC} (h:ZK P hs (.region i ops d)=some ac):∀ {Q:EX->St->Prop} {st:St},VX P G m ac Q st->V P G m ac Q st:=by
 simp only [ZK] at h
 split at h
 ·split at h
  ·split at h
   ·cases h;exact fun h=>h
   ·split at h
    ·cases h;exact fun h=>h
    ·cases h
  ·cases h;exact fun h=>h
 ·cases h
theorem VX_ok (hm : O1.length <= m) : ∀ (c : Code) (ac : AC), Y4 P hs c = some ac -> ∀ (B : Bd) (w0 : World) (Q : EX -> St -> Prop) (Q' : Exit -> Act -> World -> Prop) (st : St) (a : Act) (w : World) (F : Fz) (O : Ow), VX P G m ac Q st -> Rl G B w0 F0 F1 O1 F O st a w ->
  (∀ e st' a' w' F' O' B' w0',Ext B w0 F0 B' w0'->Q e st'->Rl G B' w0' F0 F1 O1 F' O' st' a' w'->Q' e.out a' w')->c.wp P Q' a w:=by
 intro c
 induction c with
 | skip=>intro ac hc B w0 Q Q' st a w F O h hr hQ;cases hc;exact wp_skip (hQ .n st a w F O B w0 (.refl ..) h hr)
 | label l=>intro ac hc B w0 Q Q' st a w F O h hr hQ;cases hc;exact wp_label (hQ .n st a w F O B w0 (.refl ..) h hr)
 | region id ops draw =>
  intro ac hc B w0 Q Q' st a w F O h hr hQ
  exact V_ok hm _ ac hc Q Q' st a w F O (copC_region hc h) hr fun e st' a' w' F' O' he hr'=>hQ e st' a' w' F' O' B w0 (.refl ..) he hr'
 | loop c _ =>
  intro ac hc B w0 Q Q' st a w F O h hr hQ
  refine V_ok hm _ ac hc Q Q' st a w F O ?_ hr fun e st' a' w' F' O' he hr'=>hQ e st' a' w' F' O' B w0 (.refl ..) he hr'
  simp only [Y4,ZK] at hc
  split at hc
  ·cases hc;exact h
  ·cases hc
 | seq x y ihx ihy =>
  intro ac hc B w0 Q Q' st a w F O h hr hQ
  simp only [Y4] at hc
  split at hc
  ·rename_i p q hp hq
   cases hc
   refine wp_seq (ihx p hp B w0 _ _ st a w F O h hr fun e st' a' w' F' O' B' w0' hx he hr'=>?_)
   have hQ2:∀ e st' a' w' F' O' B2 w2,Ext B' w0' F0 B2 w2->Q e st'->Rl G B2 w2 F0 F1 O1 F' O' st' a' w'->Q' e.out a' w':=fun e st' a' w' F' O' B2 w2 hx2=>hQ e st' a' w' F' O' B2 w2 (hx.trans hx2)
   cases e with
   | n =>
    rcases he with (he|⟨st2,hf,he⟩|⟨i,n,cv,he⟩|⟨ss,cv,he⟩|⟨t,i,g,n,h0,hl,he⟩)|⟨i,n,cv,he⟩
    ·exact ihy q hq B' w0' Q Q' st' a' w' F' O' he hr' hQ2
    ·obtain ⟨O2, hr2⟩ := hr'.forget hm hf
     exact ihy q hq B' w0' Q Q' st2 a' w' F' O2 he hr2 hQ2
    ·obtain ⟨s', H'⟩ := st'
     obtain ⟨st2,F2,he,hr2⟩:=Ws he hr'
     exact ihy q hq B' w0' Q Q' st2 a' w' F2 O' he hr2 hQ2
    ·obtain ⟨s', H'⟩ := st'
     obtain ⟨st2,he,hr2⟩:=Wl he hr'
     exact ihy q hq B' w0' Q Q' st2 a' w' F' O' he hr2 hQ2
    ·obtain ⟨c, hc, hr2⟩ := Wj h0 hl hr'
     exact ihy q hq B' w0' Q Q' _ a' w' F' O' (he c hc) hr2 hQ2
    ·obtain ⟨s', H'⟩ := st'
     obtain ⟨st2,F2,he,hr2⟩:=fzKX_ok he hr'
     exact ihy q hq B' w0' Q Q' st2 a' w' F2 O' he hr2 hQ2
   | x id=>exact hQ (.x id) st' a' w' F' O' B' w0' hx he hr'
   | r=>exact hQ .r st' a' w' F' O' B' w0' hx he hr'
  ·cases hc
 | cond c x y ihx ihy =>
  intro ac hc B w0 Q Q' st a w F O h hr hQ
  obtain ⟨s,H⟩:=st
  simp only [Y4] at hc
  split at hc
  ·rename_i p q r hp hq hr'
   cases hc
   have ho:=hr.operand 0 c p hp
   simp only [VX,Zo] at h
   split at h
   ·rename_i v hv
    split at h
    ·rename_i b
     rw [hv] at ho
     have ho:=ho.pvC rfl
     have e:a.eval c = .bool b:=by generalize a.eval c=q at ho;cases ho;rfl
     obtain ⟨h1,h2⟩:=h
     cases b
     ·exact wp_cond_false e (ihy r hr' B w0 Q Q' _ a w F O (h2 rfl) hr hQ)
     ·exact wp_cond_true e (ihx q hq B w0 Q Q' _ a w F O (h1 rfl) hr hQ)
    ·exact h.elim
   ·exact h.elim
  ·cases hc
 | block id c ih =>
  intro ac hc B w0 Q Q' st a w F O h hr hQ
  simp only [Y4] at hc
  split at hc
  ·rename_i p hp
   cases hc
   refine wp_block (ih p hp B w0 _ _ st a w F O h hr fun e st' a' w' F' O' B' w0' hx he hr'=>?_)
   cases e with
   | n=>exact hQ .n st' a' w' F' O' B' w0' hx he hr'
   | x id' =>
    simp only [yq] at he
    show (if id'=id then Q' .normal a' w' else Q' (.exit id') a' w')
    by_cases hid:id'=id
    ·rw [if_pos hid] at he ⊢;exact hQ .n st' a' w' F' O' B' w0' hx he hr'
    ·rw [if_neg hid] at he ⊢;exact hQ (.x id') st' a' w' F' O' B' w0' hx he hr'
   | r=>exact hQ .r st' a' w' F' O' B' w0' hx he hr'
  ·cases hc
 | scope c ih =>
  intro ac hc B w0 Q Q' st a w F O h hr hQ
  simp only [Y4] at hc
  split at hc
  ·rename_i p hp
   cases hc
   refine wp_scope_straight (ih p hp B w0 Q _ st a w F O h hr fun e st' a' w' F' O' B' w0' hx he hr'=>?_)
   have:=hQ e st' a' w' F' O' B' w0' hx he hr'
   cases e<;>exact this
  ·cases hc
 | exit id=>intro ac hc B w0 Q Q' st a w F O h hr hQ;cases hc;exact wp_exit (hQ (.x id) st a w F O B w0 (.refl ..) h hr)
 | ret=>intro ac hc B w0 Q Q' st a w F O h hr hQ;cases hc;exact wp_ret (hQ .r st a w F O B w0 (.refl ..) h hr)
 | rangeFunc g ps x y _ _ =>
  intro ac hc B w0 Q Q' st a w F O h hr hQ
  obtain ⟨s,H⟩:=st
  simp only [Y4] at hc
  split at hc
  ·rename_i g' p x' y' hg hp hx hy
   cases hc
   have hps:ps = #[p]:=by cases ps;simp at hp;simp [hp]
   subst hps
   simp only [VX,Zo] at h
   exact rng_ok hm hx hy hr (hr.operand 0 g g' hg) h fun st' a' w' F' O' B' w0' hx he hr'=>hQ .n st' a' w' F' O' B' w0' hx he hr'
  ·cases hc
 | goto=>intro ac hc;cases hc
 | refuse=>intro ac hc;cases hc
def XN (P:Program) (hs:List FuncId) (f:FuncId):Option AF :=
 match P.funcs[f]? with
 | some fn =>
  match fn.body with
  | some c=>(match Yq P fn.results.toList,Y4 P hs c with|some ts,some ac=>some ⟨fn.ntmps,ts,ac⟩|_,_=>none)
  | none=>none
 | none=>none
theorem leaves_marks {fn : Func} {tmps : Array Value} {R : Ending -> World -> Prop} {Ds0 : List Nat} (K : World -> Prop) (hK : ∀ w D, D ∈ Ds0 -> K w -> w.heap[D]? = some (.deferred (some [])) -> K (w.putObj D (.deferred none)))
  (hend:∀ w,K w->∃ v,(results fn tmps).run P w = .ok v w/\R (.returned v) w):∀ (Ds:List Nat) (w:World),(∀ D ∈ Ds,D ∈ Ds0)->Ds.Nodup->(∀ D ∈ Ds,w.heap[D]? = some (.deferred (some [])))->K w->LeavesInM Fence.wide 0 P fn tmps R (Ds.map Xm) .returning w
 | [],w,_,_,_,h=>hend w h
 | D::t,w,h0,hn,hd,h=>by
  have hD:=hd D (List.mem_cons_self ..)
  rw [List.nodup_cons] at hn
  refine ⟨by simp,.inl ⟨D,_,rfl,run_takeDeferred hD,leaves_marks K hK hend t _ (fun D' h'=>h0 D' (List.mem_cons_of_mem _ h')) hn.2 (fun D' h'=>?_) (hK w D (h0 D (List.mem_cons_self ..)) h hD)⟩⟩
  exact (World.putObj_heap_other fun e=>hn.1 (by rw [<- show D'=D from e];exact h')).trans (hd D' (List.mem_cons_of_mem _ h'))
theorem marks_ok {B B' : Bd} {w0 w0' : World} (hds : B.ds = []) (hx : Ext B w0 F0 B' w0') {F : Fz} {O : Ow} {st : St} {a : Act} {w : World} (hr : Rl G B' w0' F0 F1 O1 F O st a w) {fn : Func} {R : Ending -> World -> Prop}
  (hend:∀ w2,Rl G B w0 F0 F1 O1 F O st { tmps:=a.tmps,defers:=[] } w2->∃ v,(results fn a.tmps).run P w2 = .ok v w2/\R (.returned v) w2):LeavesInM Fence.wide 0 P fn a.tmps R a.defers .returning w:=by
 obtain ⟨Ds,e1,n1,p1⟩:=hx.ds
 rw [hr.defs,e1,hds,List.append_nil]
 refine leaves_marks (Ds0:=Ds) (fun w2=>Own B w0 F0 F O st.H w2) (fun w2 D hD ho hd=>?_) (fun w2 ho=>hend w2 ⟨ho,hr.size,hr.slot,hds.symm,hr.gok,hr.leF,hr.leO⟩) Ds w (fun _ h=>h) n1 (fun D hD=>?_) (hx.back _ _ _ _ hr.own)
 ·obtain ⟨q1, q2, q3, q4⟩ := p1 D hD
  exact ho.putNC _ ⟨_,hd,trivial⟩ q2 fun hk=>by have:=ho.kb _ hk;omega
 ·obtain ⟨q1, q2, q3, q4⟩ := p1 D hD
  exact (hr.own.kept D q3).trans q4
theorem pc_ofX' {f : FuncId} {af : AF} (hf : XN P hs f = some af) {as_ : List AV} {r : AV}
  (h:∀ (w:World) (F:Fz) (xs:List Value),xs.length=as_.length->(∀ (i:Nat) (c:Value) (a:AV),xs[i]? = some c->as_[i]? = some a->PV F c a)->∃ bs:List AV,bs.length=as_.length/\(∀ (i:Nat) (c:Value) (a:AV),xs[i]? = some c->bs[i]? = some a->VR F [] c a)/\Yn bs af.n (fun s=>VX P G 0 af.body (EndP af.res r) ⟨s,[]⟩)):PC P G f as_ r:=by
 unfold XN at hf
 split at hf
 ·rename_i fn hfn
  split at hf
  ·rename_i c hc
   split at hf
   ·rename_i ts ac hts hac
    cases hf
    intro w F xs hfr hg hl hv
    obtain ⟨bs,hbl,hbv,h⟩:=h w F xs hl hv
    rw [Ym] at h
    have hown:Own (Bd.of w.heap.size) w F F [] [] w:=⟨rfl,fun i d ob hd=>by simp at hd,fun i j d d' hd=>by simp at hd,hfr,Fz.le_refl F,fun b o v hv=>.inl hv,Below.refl _ _,Nat.le_refl _,fun _ h=>h.elim,fun _ h=>h.elim⟩
    refine (callsIn_wide (n:=0)).1 (callsIn_of_wp_marks hfn hc trivial (wpIn_wide.2 (VX_ok (Nat.le_refl _) c ac hac (Bd.of w.heap.size) w _ _ _ _ _ F [] h (Yy hown hg (by rw [hl,hbl]) hbv) fun e st' a' w' F' O' B' w0' hx he hr=>?_)))
    have key:∀ {s:List AV} {H:Hp},st'=⟨s,H⟩->rsK s H ts (fun vs=>fzA H vs (fun vs' _=>resK vs' (fun v=>ObEq v r)))->LeavesInM Fence.wide 0 P fn a'.tmps (fun e w'=>∃ v F',e = .returned v/\PV F' v r/\F.le F'/\(∀ b o v,F' b o=some v->w'.cell? ⟨b,o,none⟩=some v)/\(∀ b o v,F' b o=some v->F b o=some v\/w.heap.size<=b)/\Below w.heap.size w w') a'.defers .returning w':=by
     intro s H hst he
     obtain ⟨vs,hvs,he⟩:=xT he
     obtain ⟨rs,H',hp,he⟩:=wg he
     rw [X0] at he
     obtain ⟨hrs⟩:=he
     subst hst
     refine marks_ok rfl hx hr fun w2 hr2=>?_
     obtain ⟨ys,y1,y2,y3⟩:=Z9 hr2 hts hvs
     obtain ⟨F2,p1,p2,o2,l2⟩:=Yw hr2.own y2 y3 hp
     refine ⟨_,y1,_,F2,rfl,?_,Fz.le_trans hr2.leF l2,o2.fr,fun b o v hv=>(o2.new b o v hv).imp id (·.1),o2.below⟩
     rw [<- hrs]
     exact YT (by omega) p1
    cases e with
    | n=>exact key rfl he
    | r=>exact key rfl he
    | x id=>exact he.elim
   ·cases hf
  ·cases hf
 ·cases hf
theorem pc_ofX {f:FuncId} {af:AF} (hf:XN P hs f=some af) {as_:List AV} {r:AV} (h:Yn as_ af.n (fun s=>VX P G 0 af.body (EndP af.res r) ⟨s,[]⟩)):PC P G f as_ r :=
 pc_ofX' hf fun w F xs hl hv=>⟨as_,rfl,fun i c a hc ha=>.p (hv i c a hc ha),h⟩
end
theorem Fg.goS {m:Nat} {s:List AV} {H H2:Hp} (hH:H=H2):Fg m ⟨s,H⟩ ⟨s,H2⟩:=.same rfl (fun i b h=>.inr h) hH
theorem RngP.go {P : Program} {G : Nat -> AV} {m : Nat} {gv : AV} {p : Nat} {x y : AC} {Q : EX -> St -> Prop} {s : List AV} {H : Hp} (f : FuncId) (cs l : List AV) (hg : fnA gv = some (f, cs)) (hp : cs.all AV.isP = true) (hs : SeqC P G f cs l) (α : Type) (J : Nat -> α -> Prop) (rows : α -> Hp) (x0 : α) (h0 : J 0 x0) (M : List (Nat × Option AV)) (hH : Fg m ⟨s, H⟩ ⟨mx s M, rows x0⟩)
  (h1:∀ k a e,J k a->l[k]? = some e->mxK s M (fun s'=>V P G (rows a).length x (asgQ (V P G (rows a).length y (RndQ m J rows (mx s M) (k+1)))) ⟨s'.set p e,rows a⟩))
  (h2:∀ a,J l.length a->mxK s M (fun s'=>Q .n ⟨s',rows a⟩)):RngP P G m gv p x y Q s H :=
 .mk f cs l hg hp hs α J rows x0 h0 _ hH (fun k a e hj he=>by have:=h1 k a e hj he;rwa [xi] at this) (fun a hj=>by have:=h2 a hj;rwa [xi] at this)
def bf (rec:Int->List Nat->Nat->Bool × Nat) (p:List Nat):List (Nat × Int)->Nat->Bool × Nat
 | [],c=>(true,c)
 | e::t,c=>if (rec e.2 (p++[e.1]) c).1=false\/(rec e.2 (p++[e.1]) c).2=c then (false,(rec e.2 (p++[e.1]) c).2) else bf rec p t (rec e.2 (p++[e.1]) c).2
def xd (Nf:Int->Nat) (l:List (Nat × Int)):Nat:=(l.map fun e=>Nf e.2).sum
theorem totN_snoc {Nf:Int->Nat} {l:List (Nat × Int)} {k:Nat} (h:k < l.length):xd Nf (l.take (k+1))=xd Nf (l.take k)+Nf l[k].2:=by
 unfold xd
 rw [List.take_succ_eq_append_getElem h,List.map_append,List.sum_append];simp
theorem xF {Nf:Int->Nat} {l:List (Nat × Int)} {k:Nat}:xd Nf (l.take k)<=xd Nf l:=by
 unfold xd
 conv=>rhs;rw [<- List.take_append_drop k l,List.map_append,List.sum_append]
 omega
theorem i1_at {l:List (Nat × Int)} {k:Nat} (h:k < l.length):(l.map fun e=>I (e.1:Int))[k]? = some (I (l[k].1:Int)):=by simp [h]
theorem i2_at {l:List (Nat × Int)} {k:Nat} (h:k < l.length):((l.map fun e=>e.2).map iA)[k]? = some (I l[k].2):=by simp [h,iA]
theorem iN_snoc {p:List Nat} {j:Nat}:(p.map iN).take p.length++[I (j:Int)]=(p++[j]).map iN:=by
 rw [List.take_of_length_le (by simp),List.map_append];rfl
theorem iN_cut {p:List Nat} {j:Nat}:((p++[j]).map iN).take p.length=p.map iN:=by simp
section
variable (G:Nat->AV)
set_option maxHeartbeats 16000000 in
theorem br69 (hv : List AV) (b : Int) (hb : i64 b) (kn : Int) (ke va : ByteArray) (mp : Int) (kk : List Int) (mn : Int) (ls : List Pr) (sz bi : Int) (l : List (Nat × Int)) (hl : l.length <= 1000) (hj : ∀ e ∈ l, e.1 < 32) (hkk : kk = l.map fun e => e.2) (c75 : PC Tryz.prog G 75 [.v (.int .u32 mp)] (.sl 1 (l.map fun e => I (e.1 : Int))))
  (p:List Nat) (h0:p.length ≠ 0) (hp:p.length<=1000) (rec:Int->List Nat->Nat->Bool × Nat) (Nf:Int->Nat)
  (hle:∀ e ∈ l,∀ c,c<=(rec e.2 (p++[e.1]) c).2/\(rec e.2 (p++[e.1]) c).2<=c+Nf e.2)
  (hcal:∀ e ∈ l,∀ c:Nat,c+Nf e.2<=1000000000->∀ (r:Bool) (m:Int),r=(rec e.2 (p++[e.1]) c).1->m=((rec e.2 (p++[e.1]) c).2:Nat)->HC Tryz.prog G 43 [.oa 0 0 0 0,I e.2,.ol 1 0 (p.length+1)] [wR hv b c,pO (p++[e.1])] (Bo r) [wR hv b m,pO (p++[e.1])])
  (c:Nat) (hc:c+xd Nf l<=1000000000) (r:Bool) (m:Int) (hr:r=((bf rec p l c).1 && decide (sz=0\/sz=((bf rec p l c).2:Int) - (c:Int)))) (hm:m=((bf rec p l c).2:Nat)) :
  HC Tryz.prog G 69 [.oa 0 0 0 0,nV kn ke va mp kk mn ls sz bi,.ol 1 0 p.length] [wR hv b c,pO p] (Bo r) [wR hv b m,pO p]:=by
 have hnr:=Xb p
 have hkl:kk.length=l.length:=by rw [hkk,List.length_map]
 refine Zq cop69 rfl ?_
 repeat' ((conv=>whnf);first|((refine ObD.mk ?_ ?_);(focus (first|rfl|(simp;done)|(simp [zy,geB,AOp.cls,AOp.xs,ltB,ltC,AX.ev,zh];done)))))
 conv=>whnf
 refine SeqP.oc 2 1 0 p.length rfl rfl fun C hC=>?_
 repeat' ((conv=>whnf);first|(refine SeqP.go ?_)|((refine ObN.mk ?_ ?_);exact zN)|((with_reducible refine (?_:ObL _ _));(refine ObL.mk _ zM ?_))|((with_reducible refine (?_:ObR _ _ _));(first|(refine ObR.mk _ zG ?_)|(refine ObR.map zX (fun x hx=>?_))|(refine ObR.mk _ rfl ?_)))|((refine ObC.f 75 ?_);(refine ObC.mk _ (c75) ?_)))
 conv=>whnf
 refine LoopP.go (α:=Nat × Nat) (fun a=>a.1<=l.length/\bf rec p l c=bf rec p (l.drop a.1) a.2/\c<=a.2/\a.2<=c+xd Nf (l.take a.1)) (fun a=>l.length - a.1) (fun a=>[(6,none),(1,none),(0,none),(0,none),(8,some (I a.1)),(0,none),(0,none),(0,none),(0,none),(0,none),(0,none),(0,none),(0,none),(0,none),(0,none),(0,none),(0,none),(0,none),(0,none),(0,none),(0,none),(0,none),(0,none),(0,none),(0,none),(0,none),(0,none),(0,none),(0,none),(0,none),(0,none),(0,none),(0,none),(0,none)]) (fun a=>[wR hv b (a.2:Nat),pO p,⟨57,9,[nV kn ke va mp kk mn ls sz bi],0,0⟩]) (0,c) ⟨Nat.zero_le _,by simp,by simp,by simp⟩ (Fg.go ?_ rfl) ?_
 ·repeat' ((conv=>whnf);first|((refine ObEqs.mk ?_ ?_);rfl)|((with_reducible refine ObEq1.i ?_ ?_);exact zF)|exact True.intro)
 rintro ⟨k,n⟩ ⟨hk,hbf,hcn,hnc⟩
 dsimp only at hk hbf hcn hnc ⊢
 have ht:=xF (Nf:=Nf) (l:=l) (k:=k)
 by_cases hkl2:k < l.length
 ·have h1 := i1_at hkl2
  have h2:=i2_at hkl2
  rw [<- hkk] at h2
  have hmem:=List.getElem_mem hkl2
  have hls:=totN_snoc (Nf:=Nf) hkl2
  have ht':=xF (Nf:=Nf) (l:=l) (k:=k+1)
  rw [List.drop_eq_getElem_cons hkl2,bf] at hbf
  generalize l[k]=e at *
  have hl1:=hle e hmem n
  have hj1:=hj e hmem
  have cc:=hcal e hmem n (by omega) _ _ rfl rfl
  obtain ⟨j,q⟩:=e
  dsimp only at *
  have u1:=iN_snoc (p:=p) (j:=j)
  have u2:=iN_cut (p:=p) (j:=j)
  have hl3:(p++[j]).length=p.length+1:=by simp
  have hnr2:=Xb (p++[j])
  generalize p++[j]=p' at *
  generalize rec q p' n=s at *
  obtain ⟨s1,s2⟩:=s
  dsimp only at *
  by_cases hC1:p.length+1<=C
  ·cases s1
   ·rw [if_pos (by simp)] at hbf
    rw [hbf] at hr hm
    dsimp only at hr hm
    obtain rfl:r=false:=by rw [hr];rfl
    subst hm
    repeat' ((conv=>whnf);first|(refine SeqP.go ?_)|exact SameP.mk rfl rfl|(with_reducible first|refine ObAnd.mk ?_ ?_|refine ObDx.same ?_)|((refine ObD.mk ?_ ?_);(focus (first|rfl|(simp;done)|(simp [zy,geB,AOp.cls,AOp.xs,ltB,ltC,AX.ev,zh];done))))|((refine ObN.mk ?_ ?_);exact zN)|(with_reducible first|refine ObT.tt ?_|refine ObT.ff ?_)|((refine ObB.yes ?_ ?_);exact zB)|((refine ObX.mk _ rfl ?_ ?_);exact zX)|((with_reducible refine (?_:ObL _ _));(refine ObL.mk _ zM ?_))|((with_reducible refine (?_:ObU _ _));(refine ObU.mk _ zq4 ?_))|((with_reducible refine (?_:ObR _ _ _));(first|(refine ObR.mk _ zG ?_)|(refine ObR.map zX (fun x hx=>?_))|(refine ObR.mk _ rfl ?_)))|((refine ObH.f 43 ?_);refine ObH.frn _ ZA [(0,0,0),(0,1,0)] (cc) (by simp) rfl (by simp) ?_)|((with_reducible refine ObRow.same ?_ ?_ ?_);exact zE;(focus (first|rfl|assumption|(simp;done))))|((with_reducible refine ObAs.mk ?_ ?_);(focus (first|rfl|(simp [rnB,rnC,rnL];done))))|((with_reducible refine (?_:ObRs _ _ _));(refine ObRs.mk _ rfl ?_))|((with_reducible refine ObBk.same ?_ ?_);(focus (first|rfl|assumption|(simp;done)))))
    all_goals conv=>whnf
    all_goals refine ObEnd.ct 1 p.length rfl rfl (Nat.zero_le _) (by simp;omega) u2 ?_
    all_goals refine ObEnd.vw [(0,0,0),(0,1,0)] rfl ?_ (by simp) ?_
    all_goals repeat' ((conv=>whnf);first|((refine ObN.mk ?_ ?_);exact zN)|((with_reducible refine ObO.l ?_);(refine ObN.mk ?_ ?_);(exact ZD))|((with_reducible refine ObRow.same ?_ ?_ ?_);exact zE;(focus (first|rfl|assumption|(simp;done))))|exact True.intro)
   ·by_cases hne : s2 = n
    ·rw [if_pos (by simp [hne])] at hbf
     rw [hbf] at hr hm
     dsimp only at hr hm
     obtain rfl:r=false:=by rw [hr];rfl
     subst hm
     subst hne
     repeat' ((conv=>whnf);first|(refine SeqP.go ?_)|exact SameP.mk rfl rfl|(with_reducible first|refine ObAnd.mk ?_ ?_|refine ObDx.same ?_)|((refine ObD.mk ?_ ?_);(focus (first|rfl|(simp;done)|(simp [zy,geB,AOp.cls,AOp.xs,ltB,ltC,AX.ev,zh];done))))|((refine ObN.mk ?_ ?_);exact zN)|(with_reducible first|refine ObT.tt ?_|refine ObT.ff ?_)|((refine ObB.yes ?_ ?_);exact zB)|((refine ObX.mk _ rfl ?_ ?_);exact zX)|((with_reducible refine (?_:ObL _ _));(refine ObL.mk _ zM ?_))|((with_reducible refine (?_:ObU _ _));(refine ObU.mk _ zq4 ?_))|((with_reducible refine (?_:ObR _ _ _));(first|(refine ObR.mk _ zG ?_)|(refine ObR.map zX (fun x hx=>?_))|(refine ObR.mk _ rfl ?_)))|((refine ObH.f 43 ?_);refine ObH.frn _ ZA [(0,0,0),(0,1,0)] (cc) (by simp) rfl (by simp) ?_)|((with_reducible refine ObRow.same ?_ ?_ ?_);exact zE;(focus (first|rfl|assumption|(simp;done))))|((with_reducible refine ObAs.mk ?_ ?_);(focus (first|rfl|(simp [rnB,rnC,rnL];done))))|((with_reducible refine (?_:ObRs _ _ _));(refine ObRs.mk _ rfl ?_))|((with_reducible refine ObBk.same ?_ ?_);(focus (first|rfl|assumption|(simp;done)))))
     all_goals conv=>whnf
     all_goals refine ObEnd.ct 1 p.length rfl rfl (Nat.zero_le _) (by simp;omega) u2 ?_
     all_goals refine ObEnd.vw [(0,0,0),(0,1,0)] rfl ?_ (by simp) ?_
     all_goals repeat' ((conv=>whnf);first|((refine ObN.mk ?_ ?_);exact zN)|((with_reducible refine ObO.l ?_);(refine ObN.mk ?_ ?_);(exact ZD))|((with_reducible refine ObRow.same ?_ ?_ ?_);exact zE;(focus (first|rfl|assumption|(simp;done))))|exact True.intro)
    ·rw [if_neg (by simp [hne])] at hbf
     have hne':¬ (s2:Int)=(n:Int):=by omega
     repeat' ((conv=>whnf);first|(refine SeqP.go ?_)|exact SameP.mk rfl rfl|(with_reducible first|refine ObAnd.mk ?_ ?_|refine ObDx.same ?_)|((refine ObD.mk ?_ ?_);(focus (first|rfl|(simp;done)|(simp [zy,geB,AOp.cls,AOp.xs,ltB,ltC,AX.ev,zh];done))))|((refine ObN.mk ?_ ?_);exact zN)|(with_reducible first|refine ObT.tt ?_|refine ObT.ff ?_)|((refine ObB.yes ?_ ?_);exact zB)|((refine ObB.no ?_ ?_);exact zC)|((with_reducible refine ObI.nl ?_ ?_);omega)|((refine ObX.mk _ rfl ?_ ?_);exact zX)|((with_reducible refine (?_:ObL _ _));(refine ObL.mk _ zM ?_))|((with_reducible refine (?_:ObU _ _));(refine ObU.mk _ zq4 ?_))|((with_reducible refine (?_:ObR _ _ _));(first|(refine ObR.mk _ zG ?_)|(refine ObR.map zX (fun x hx=>?_))|(refine ObR.mk _ rfl ?_)))|((refine ObH.f 43 ?_);refine ObH.frn _ ZA [(0,0,0),(0,1,0)] (cc) (by simp) rfl (by simp) ?_)|((with_reducible refine ObRow.same ?_ ?_ ?_);exact zE;(focus (first|rfl|assumption|(simp;done))))|((with_reducible refine ObAs.mk ?_ ?_);(focus (first|rfl|(simp [rnB,rnC,rnL];done))))|((with_reducible refine (?_:ObRs _ _ _));(refine ObRs.mk _ rfl ?_))|((with_reducible refine ObBk.same ?_ ?_);(focus (first|rfl|assumption|(simp;done)))))
     all_goals conv=>whnf
     all_goals refine Again.mk (k+1,s2) ⟨by dsimp only;omega,hbf,by dsimp only;omega,by dsimp only;omega⟩ xB (Fg.ct 1 p.length rfl rfl (Nat.zero_le _) (by simp;omega) u2 (Fg.vw [(0,0,0),(0,1,0),(0,2,0)] ?_ ?_ (by simp) ?_))
     all_goals repeat' ((conv=>whnf);first|((refine ObN.mk ?_ ?_);exact zN)|((with_reducible refine ObO.l ?_);(refine ObN.mk ?_ ?_);(exact ZD))|((with_reducible refine ObRn.mk ?_ ?_);(focus (first|rfl|(simp [rnB,rnC,rnL];done))))|((with_reducible refine ObRow.same ?_ ?_ ?_);exact zE;(focus (first|rfl|assumption|(simp;done))))|((refine ObEqs.mk ?_ ?_);rfl)|exact True.intro)
  ·cases s1
   ·rw [if_pos (by simp)] at hbf
    rw [hbf] at hr hm
    dsimp only at hr hm
    obtain rfl:r=false:=by rw [hr];rfl
    subst hm
    repeat' ((conv=>whnf);first|(refine SeqP.go ?_)|exact SameP.mk rfl rfl|(with_reducible first|refine ObAnd.mk ?_ ?_|refine ObDx.same ?_)|((refine ObD.mk ?_ ?_);(focus (first|rfl|(simp;done)|(simp [zy,geB,AOp.cls,AOp.xs,ltB,ltC,AX.ev,zh];done))))|((refine ObN.mk ?_ ?_);exact zN)|(with_reducible first|refine ObT.tt ?_|refine ObT.ff ?_)|((refine ObB.yes ?_ ?_);exact zB)|((refine ObB.no ?_ ?_);exact zC)|((refine ObX.mk _ rfl ?_ ?_);exact zX)|((with_reducible refine (?_:ObL _ _));(refine ObL.mk _ zM ?_))|((with_reducible refine (?_:ObU _ _));(refine ObU.mk _ zq4 ?_))|((with_reducible refine (?_:ObR _ _ _));(first|(refine ObR.mk _ zG ?_)|(refine ObR.map zX (fun x hx=>?_))|(refine ObR.mk _ rfl ?_)))|((refine ObH.f 43 ?_);refine ObH.frn _ ZA [(0,0,0),(0,4,0)] (cc) (by simp) rfl (by simp) ?_)|((with_reducible refine ObRow.same ?_ ?_ ?_);exact zE;(focus (first|rfl|assumption|(simp;done))))|((with_reducible refine ObAs.mk ?_ ?_);(focus (first|rfl|(simp [rnB,rnC,rnL];done))))|((with_reducible refine (?_:ObRs _ _ _));(refine ObRs.mk _ rfl ?_))|((with_reducible refine ObBk.same ?_ ?_);(focus (first|rfl|assumption|(simp;done)))))
    all_goals conv=>whnf
    all_goals refine ObEnd.vw [(0,0,0),(0,1,0)] rfl ?_ (by simp) ?_
    all_goals repeat' ((conv=>whnf);first|((refine ObN.mk ?_ ?_);exact zN)|((with_reducible refine ObO.l ?_);(refine ObN.mk ?_ ?_);(exact ZD))|((with_reducible refine ObRow.same ?_ ?_ ?_);exact zE;(focus (first|rfl|assumption|(simp;done))))|exact True.intro)
   ·by_cases hne : s2 = n
    ·rw [if_pos (by simp [hne])] at hbf
     rw [hbf] at hr hm
     dsimp only at hr hm
     obtain rfl:r=false:=by rw [hr];rfl
     subst hm
     subst hne
     repeat' ((conv=>whnf);first|(refine SeqP.go ?_)|exact SameP.mk rfl rfl|(with_reducible first|refine ObAnd.mk ?_ ?_|refine ObDx.same ?_)|((refine ObD.mk ?_ ?_);(focus (first|rfl|(simp;done)|(simp [zy,geB,AOp.cls,AOp.xs,ltB,ltC,AX.ev,zh];done))))|((refine ObN.mk ?_ ?_);exact zN)|(with_reducible first|refine ObT.tt ?_|refine ObT.ff ?_)|((refine ObB.yes ?_ ?_);exact zB)|((refine ObB.no ?_ ?_);exact zC)|((refine ObX.mk _ rfl ?_ ?_);exact zX)|((with_reducible refine (?_:ObL _ _));(refine ObL.mk _ zM ?_))|((with_reducible refine (?_:ObU _ _));(refine ObU.mk _ zq4 ?_))|((with_reducible refine (?_:ObR _ _ _));(first|(refine ObR.mk _ zG ?_)|(refine ObR.map zX (fun x hx=>?_))|(refine ObR.mk _ rfl ?_)))|((refine ObH.f 43 ?_);refine ObH.frn _ ZA [(0,0,0),(0,4,0)] (cc) (by simp) rfl (by simp) ?_)|((with_reducible refine ObRow.same ?_ ?_ ?_);exact zE;(focus (first|rfl|assumption|(simp;done))))|((with_reducible refine ObAs.mk ?_ ?_);(focus (first|rfl|(simp [rnB,rnC,rnL];done))))|((with_reducible refine (?_:ObRs _ _ _));(refine ObRs.mk _ rfl ?_))|((with_reducible refine ObBk.same ?_ ?_);(focus (first|rfl|assumption|(simp;done)))))
     all_goals conv=>whnf
     all_goals refine ObEnd.vw [(0,0,0),(0,1,0)] rfl ?_ (by simp) ?_
     all_goals repeat' ((conv=>whnf);first|((refine ObN.mk ?_ ?_);exact zN)|((with_reducible refine ObO.l ?_);(refine ObN.mk ?_ ?_);(exact ZD))|((with_reducible refine ObRow.same ?_ ?_ ?_);exact zE;(focus (first|rfl|assumption|(simp;done))))|exact True.intro)
    ·rw [if_neg (by simp [hne])] at hbf
     have hne':¬ (s2:Int)=(n:Int):=by omega
     repeat' ((conv=>whnf);first|(refine SeqP.go ?_)|exact SameP.mk rfl rfl|(with_reducible first|refine ObAnd.mk ?_ ?_|refine ObDx.same ?_)|((refine ObD.mk ?_ ?_);(focus (first|rfl|(simp;done)|(simp [zy,geB,AOp.cls,AOp.xs,ltB,ltC,AX.ev,zh];done))))|((refine ObN.mk ?_ ?_);exact zN)|(with_reducible first|refine ObT.tt ?_|refine ObT.ff ?_)|((refine ObB.yes ?_ ?_);exact zB)|((refine ObB.no ?_ ?_);exact zC)|((with_reducible refine ObI.nl ?_ ?_);omega)|((refine ObX.mk _ rfl ?_ ?_);exact zX)|((with_reducible refine (?_:ObL _ _));(refine ObL.mk _ zM ?_))|((with_reducible refine (?_:ObU _ _));(refine ObU.mk _ zq4 ?_))|((with_reducible refine (?_:ObR _ _ _));(first|(refine ObR.mk _ zG ?_)|(refine ObR.map zX (fun x hx=>?_))|(refine ObR.mk _ rfl ?_)))|((refine ObH.f 43 ?_);refine ObH.frn _ ZA [(0,0,0),(0,4,0)] (cc) (by simp) rfl (by simp) ?_)|((with_reducible refine ObRow.same ?_ ?_ ?_);exact zE;(focus (first|rfl|assumption|(simp;done))))|((with_reducible refine ObAs.mk ?_ ?_);(focus (first|rfl|(simp [rnB,rnC,rnL];done))))|((with_reducible refine (?_:ObRs _ _ _));(refine ObRs.mk _ rfl ?_))|((with_reducible refine ObBk.same ?_ ?_);(focus (first|rfl|assumption|(simp;done)))))
     all_goals conv=>whnf
     all_goals refine Again.mk (k+1,s2) ⟨by dsimp only;omega,hbf,by dsimp only;omega,by dsimp only;omega⟩ xB (Fg.vw [(0,0,0),(0,1,0),(0,2,0)] ?_ ?_ (by simp) ?_)
     all_goals repeat' ((conv=>whnf);first|((refine ObN.mk ?_ ?_);exact zN)|((with_reducible refine ObO.l ?_);(refine ObN.mk ?_ ?_);(exact ZD))|((with_reducible refine ObRn.mk ?_ ?_);(focus (first|rfl|(simp [rnB,rnC,rnL];done))))|((with_reducible refine ObRow.same ?_ ?_ ?_);exact zE;(focus (first|rfl|assumption|(simp;done))))|((refine ObEqs.mk ?_ ?_);rfl)|exact True.intro)
 ·obtain rfl : k = l.length := by omega
  rw [List.drop_length,bf] at hbf
  rw [hbf] at hr hm
  dsimp only at hr hm
  subst hm
  by_cases hz:sz=0
  ·obtain rfl : r = true := by rw [hr]; simp [hz]
   repeat' ((conv=>whnf);first|(refine SeqP.go ?_)|((refine ObD.mk ?_ ?_);(focus (first|rfl|(simp;done)|(simp [zy,geB,AOp.cls,AOp.xs,ltB,ltC,AX.ev,zh];done))))|((refine ObN.mk ?_ ?_);exact zN)|(with_reducible first|refine ObT.tt ?_|refine ObT.ff ?_)|((refine ObB.yes ?_ ?_);exact zB)|((refine ObB.no ?_ ?_);exact zC)|((with_reducible refine (?_:ObR _ _ _));(first|(refine ObR.mk _ zG ?_)|(refine ObR.map zX (fun x hx=>?_))|(refine ObR.mk _ rfl ?_))))
   all_goals conv=>whnf
   all_goals refine ObEnd.vw [(0,0,0),(0,1,0)] rfl ?_ (by simp) ?_
   all_goals repeat' ((conv=>whnf);first|((refine ObN.mk ?_ ?_);exact zN)|((with_reducible refine ObO.l ?_);(refine ObN.mk ?_ ?_);(exact ZD))|((with_reducible refine ObRow.same ?_ ?_ ?_);exact zE;(focus (first|rfl|assumption|(simp;done))))|exact True.intro)
  ·by_cases hz2 : sz = (n : Int) - (c : Int)
   ·obtain rfl : r = true := by rw [hr]; simp [hz2]
    repeat' ((conv=>whnf);first|(refine SeqP.go ?_)|((refine ObD.mk ?_ ?_);(focus (first|rfl|(simp;done)|(simp [zy,geB,AOp.cls,AOp.xs,ltB,ltC,AX.ev,zh];done))))|((refine ObN.mk ?_ ?_);exact zN)|(refine ObT.ff ?_)|((refine ObB.yes ?_ ?_);exact zB)|((refine ObB.no ?_ ?_);exact zC)|((with_reducible refine ObI.sn ?_ ?_ ?_);omega;omega)|((with_reducible refine (?_:ObR _ _ _));(first|(refine ObR.mk _ zG ?_)|(refine ObR.map zX (fun x hx=>?_))|(refine ObR.mk _ rfl ?_))))
    all_goals conv=>whnf
    all_goals refine ObEnd.vw [(0,0,0),(0,1,0)] rfl ?_ (by simp) ?_
    all_goals repeat' ((conv=>whnf);first|((refine ObN.mk ?_ ?_);exact zN)|((with_reducible refine ObO.l ?_);(refine ObN.mk ?_ ?_);(exact ZD))|((with_reducible refine ObRow.same ?_ ?_ ?_);exact zE;(focus (first|rfl|assumption|(simp;done))))|exact True.intro)
   ·obtain rfl : r = false := by rw [hr]; simp [hz2, hz]
    repeat' ((conv=>whnf);first|(refine SeqP.go ?_)|((refine ObD.mk ?_ ?_);(focus (first|rfl|(simp;done)|(simp [zy,geB,AOp.cls,AOp.xs,ltB,ltC,AX.ev,zh];done))))|((refine ObN.mk ?_ ?_);exact zN)|(refine ObT.ff ?_)|((refine ObB.no ?_ ?_);exact zC)|((with_reducible refine ObI.sn ?_ ?_ ?_);omega;omega)|((with_reducible refine (?_:ObR _ _ _));(first|(refine ObR.mk _ zG ?_)|(refine ObR.map zX (fun x hx=>?_))|(refine ObR.mk _ rfl ?_))))
    all_goals conv=>whnf
    all_goals refine ObEnd.vw [(0,0,0),(0,1,0)] rfl ?_ (by simp) ?_
    all_goals repeat' ((conv=>whnf);first|((refine ObN.mk ?_ ?_);exact zN)|((with_reducible refine ObO.l ?_);(refine ObN.mk ?_ ?_);(exact ZD))|((with_reducible refine ObRow.same ?_ ?_ ?_);exact zE;(focus (first|rfl|assumption|(simp;done))))|exact True.intro)
set_option maxHeartbeats 16000000 in
theorem br69n (hv : List AV) (b : Int) (hb : i64 b) (kn : Int) (ke va : ByteArray) (mp : Int) (kk : List Int) (mn : Int) (ls : List Pr) (sz bi : Int) (l : List (Nat × Int)) (hl : l.length <= 1000) (hj : ∀ e ∈ l, e.1 < 32) (hkk : kk = l.map fun e => e.2) (c75 : PC Tryz.prog G 75 [.v (.int .u32 mp)] (.sl 1 (l.map fun e => I (e.1 : Int))))
  (rec:Int->List Nat->Nat->Bool × Nat) (Nf:Int->Nat)
  (hle:∀ e ∈ l,∀ c,c<=(rec e.2 [e.1] c).2/\(rec e.2 [e.1] c).2<=c+Nf e.2)
  (hcal:∀ e ∈ l,∀ c:Nat,c+Nf e.2<=1000000000->∀ (r:Bool) (m:Int),r=(rec e.2 [e.1] c).1->m=((rec e.2 [e.1] c).2:Nat)->HC Tryz.prog G 43 [.oa 0 0 0 0,I e.2,.ol 1 0 1] [wR hv b c,pO [e.1]] (Bo r) [wR hv b m,pO [e.1]])
  (c:Nat) (hc:c+xd Nf l<=1000000000) (r:Bool) (m:Int) (hr:r=((bf rec [] l c).1 && decide (sz=0\/sz=((bf rec [] l c).2:Int) - (c:Int)))) (hm:m=((bf rec [] l c).2:Nat)) :
  HC Tryz.prog G 69 [.oa 0 0 0 0,nV kn ke va mp kk mn ls sz bi,.nl 1] [wR hv b c] (Bo r) [wR hv b m]:=by
 have hkl:kk.length=l.length:=by rw [hkk,List.length_map]
 refine Zq cop69 rfl ?_
 repeat' ((conv=>whnf);first|(refine SeqP.go ?_)|((refine ObD.mk ?_ ?_);(focus (first|rfl|(simp;done)|(simp [zy,geB,AOp.cls,AOp.xs,ltB,ltC,AX.ev,zh];done))))|((refine ObN.mk ?_ ?_);exact zN)|((with_reducible refine (?_:ObL _ _));(refine ObL.mk _ zM ?_))|((with_reducible refine (?_:ObR _ _ _));(first|(refine ObR.mk _ zG ?_)|(refine ObR.map zX (fun x hx=>?_))|(refine ObR.mk _ rfl ?_)))|((refine ObC.f 75 ?_);(refine ObC.mk _ (c75) ?_)))
 conv=>whnf
 refine LoopP.go (α:=Nat × Nat) (fun a=>a.1<=l.length/\bf rec [] l c=bf rec [] (l.drop a.1) a.2/\c<=a.2/\a.2<=c+xd Nf (l.take a.1)) (fun a=>l.length - a.1) (fun a=>[(6,none),(1,none),(0,none),(0,none),(8,some (I a.1)),(0,none),(0,none),(0,none),(0,none),(0,none),(0,none),(0,none),(0,none),(0,none),(0,none),(0,none),(0,none),(0,none),(0,none),(0,none),(0,none),(0,none),(0,none),(0,none),(0,none),(0,none),(0,none),(0,none),(0,none),(0,none),(0,none),(0,none),(0,none),(0,none)]) (fun a=>[wR hv b (a.2:Nat),⟨57,9,[nV kn ke va mp kk mn ls sz bi],0,0⟩]) (0,c) ⟨Nat.zero_le _,by simp,by simp,by simp⟩ (Fg.go ?_ rfl) ?_
 ·repeat' ((conv=>whnf);first|((refine ObEqs.mk ?_ ?_);rfl)|((with_reducible refine ObEq1.i ?_ ?_);exact zF)|exact True.intro)
 rintro ⟨k,n⟩ ⟨hk,hbf,hcn,hnc⟩
 dsimp only at hk hbf hcn hnc ⊢
 have ht:=xF (Nf:=Nf) (l:=l) (k:=k)
 by_cases hkl2:k < l.length
 ·have h1 := i1_at hkl2
  have h2:=i2_at hkl2
  rw [<- hkk] at h2
  have hmem:=List.getElem_mem hkl2
  have hls:=totN_snoc (Nf:=Nf) hkl2
  have ht':=xF (Nf:=Nf) (l:=l) (k:=k+1)
  rw [List.drop_eq_getElem_cons hkl2,bf] at hbf
  generalize l[k]=e at *
  have hl1:=hle e hmem n
  have hj1:=hj e hmem
  have cc:=hcal e hmem n (by omega) _ _ rfl rfl
  obtain ⟨j,q⟩:=e
  dsimp only at *
  have u1:([]:List AV)++[I (j:Int)]=[j].map iN:=rfl
  have hnr2:=Xb [j]
  rw [List.nil_append] at hbf
  generalize rec q [j] n=s at *
  obtain ⟨s1,s2⟩:=s
  dsimp only at *
  cases s1
  ·rw [if_pos (by simp)] at hbf
   rw [hbf] at hr hm
   dsimp only at hr hm
   obtain rfl:r=false:=by rw [hr];rfl
   subst hm
   repeat' ((conv=>whnf);first|(refine SeqP.go ?_)|exact SameP.mk rfl rfl|(with_reducible first|refine ObAnd.mk ?_ ?_|refine ObDx.same ?_)|((refine ObD.mk ?_ ?_);(focus (first|rfl|(simp;done)|(simp [zy,geB,AOp.cls,AOp.xs,ltB,ltC,AX.ev,zh];done))))|((refine ObN.mk ?_ ?_);exact zN)|(with_reducible first|refine ObT.tt ?_|refine ObT.ff ?_)|((refine ObB.yes ?_ ?_);exact zB)|((refine ObX.mk _ rfl ?_ ?_);exact zX)|((with_reducible refine (?_:ObL _ _));(refine ObL.mk _ zM ?_))|((with_reducible refine (?_:ObU _ _));(refine ObU.mk _ zq4 ?_))|((with_reducible refine (?_:ObR _ _ _));(first|(refine ObR.mk _ zG ?_)|(refine ObR.map zX (fun x hx=>?_))|(refine ObR.mk _ rfl ?_)))|((refine ObH.f 43 ?_);refine ObH.frn _ ZA [(0,0,0),(0,3,0)] (cc) (by simp) rfl (by simp) ?_)|((with_reducible refine ObW.cons ?_ ?_);(focus (first|assumption|(simp;done))))|((with_reducible refine ObRow.same ?_ ?_ ?_);exact zE;(focus (first|rfl|assumption|(simp;done))))|((with_reducible refine ObAs.mk ?_ ?_);(focus (first|rfl|(simp [rnB,rnC,rnL];done))))|((with_reducible refine (?_:ObRs _ _ _));(refine ObRs.mk _ rfl ?_))|((with_reducible refine ObBk.same ?_ ?_);(focus (first|rfl|assumption|(simp;done)))))
   all_goals conv=>whnf
   all_goals refine ObEnd.vw [(0,0,0)] rfl ?_ (by simp) ?_
   all_goals repeat' ((conv=>whnf);first|((refine ObN.mk ?_ ?_);exact zN)|((with_reducible refine ObO.l ?_);(refine ObN.mk ?_ ?_);(exact ZD))|((with_reducible refine ObRow.same ?_ ?_ ?_);exact zE;(focus (first|rfl|assumption|(simp;done))))|exact True.intro)
  ·by_cases hne : s2 = n
   ·rw [if_pos (by simp [hne])] at hbf
    rw [hbf] at hr hm
    dsimp only at hr hm
    obtain rfl:r=false:=by rw [hr];rfl
    subst hm
    subst hne
    repeat' ((conv=>whnf);first|(refine SeqP.go ?_)|exact SameP.mk rfl rfl|(with_reducible first|refine ObAnd.mk ?_ ?_|refine ObDx.same ?_)|((refine ObD.mk ?_ ?_);(focus (first|rfl|(simp;done)|(simp [zy,geB,AOp.cls,AOp.xs,ltB,ltC,AX.ev,zh];done))))|((refine ObN.mk ?_ ?_);exact zN)|(with_reducible first|refine ObT.tt ?_|refine ObT.ff ?_)|((refine ObB.yes ?_ ?_);exact zB)|((refine ObX.mk _ rfl ?_ ?_);exact zX)|((with_reducible refine (?_:ObL _ _));(refine ObL.mk _ zM ?_))|((with_reducible refine (?_:ObU _ _));(refine ObU.mk _ zq4 ?_))|((with_reducible refine (?_:ObR _ _ _));(first|(refine ObR.mk _ zG ?_)|(refine ObR.map zX (fun x hx=>?_))|(refine ObR.mk _ rfl ?_)))|((refine ObH.f 43 ?_);refine ObH.frn _ ZA [(0,0,0),(0,3,0)] (cc) (by simp) rfl (by simp) ?_)|((with_reducible refine ObW.cons ?_ ?_);(focus (first|assumption|(simp;done))))|((with_reducible refine ObRow.same ?_ ?_ ?_);exact zE;(focus (first|rfl|assumption|(simp;done))))|((with_reducible refine ObAs.mk ?_ ?_);(focus (first|rfl|(simp [rnB,rnC,rnL];done))))|((with_reducible refine (?_:ObRs _ _ _));(refine ObRs.mk _ rfl ?_))|((with_reducible refine ObBk.same ?_ ?_);(focus (first|rfl|assumption|(simp;done)))))
    all_goals conv=>whnf
    all_goals refine ObEnd.vw [(0,0,0)] rfl ?_ (by simp) ?_
    all_goals repeat' ((conv=>whnf);first|((refine ObN.mk ?_ ?_);exact zN)|((with_reducible refine ObO.l ?_);(refine ObN.mk ?_ ?_);(exact ZD))|((with_reducible refine ObRow.same ?_ ?_ ?_);exact zE;(focus (first|rfl|assumption|(simp;done))))|exact True.intro)
   ·rw [if_neg (by simp [hne])] at hbf
    have hne':¬ (s2:Int)=(n:Int):=by omega
    repeat' ((conv=>whnf);first|(refine SeqP.go ?_)|exact SameP.mk rfl rfl|(with_reducible first|refine ObAnd.mk ?_ ?_|refine ObDx.same ?_)|((refine ObD.mk ?_ ?_);(focus (first|rfl|(simp;done)|(simp [zy,geB,AOp.cls,AOp.xs,ltB,ltC,AX.ev,zh];done))))|((refine ObN.mk ?_ ?_);exact zN)|(with_reducible first|refine ObT.tt ?_|refine ObT.ff ?_)|((refine ObB.yes ?_ ?_);exact zB)|((refine ObB.no ?_ ?_);exact zC)|((with_reducible refine ObI.nl ?_ ?_);omega)|((refine ObX.mk _ rfl ?_ ?_);exact zX)|((with_reducible refine (?_:ObL _ _));(refine ObL.mk _ zM ?_))|((with_reducible refine (?_:ObU _ _));(refine ObU.mk _ zq4 ?_))|((with_reducible refine (?_:ObR _ _ _));(first|(refine ObR.mk _ zG ?_)|(refine ObR.map zX (fun x hx=>?_))|(refine ObR.mk _ rfl ?_)))|((refine ObH.f 43 ?_);refine ObH.frn _ ZA [(0,0,0),(0,3,0)] (cc) (by simp) rfl (by simp) ?_)|((with_reducible refine ObW.cons ?_ ?_);(focus (first|assumption|(simp;done))))|((with_reducible refine ObRow.same ?_ ?_ ?_);exact zE;(focus (first|rfl|assumption|(simp;done))))|((with_reducible refine ObAs.mk ?_ ?_);(focus (first|rfl|(simp [rnB,rnC,rnL];done))))|((with_reducible refine (?_:ObRs _ _ _));(refine ObRs.mk _ rfl ?_))|((with_reducible refine ObBk.same ?_ ?_);(focus (first|rfl|assumption|(simp;done)))))
    all_goals conv=>whnf
    all_goals refine Again.mk (k+1,s2) ⟨by dsimp only;omega,hbf,by dsimp only;omega,by dsimp only;omega⟩ xB (Fg.vw [(0,0,0),(0,1,0)] ?_ ?_ (by simp) ?_)
    all_goals repeat' ((conv=>whnf);first|((refine ObN.mk ?_ ?_);exact zN)|((with_reducible refine ObO.l ?_);(refine ObN.mk ?_ ?_);(exact ZD))|((with_reducible refine ObRn.mk ?_ ?_);(focus (first|rfl|(simp [rnB,rnC,rnL];done))))|((with_reducible refine ObRow.same ?_ ?_ ?_);exact zE;(focus (first|rfl|assumption|(simp;done))))|((refine ObEqs.mk ?_ ?_);rfl)|exact True.intro)
 ·obtain rfl : k = l.length := by omega
  rw [List.drop_length,bf] at hbf
  rw [hbf] at hr hm
  dsimp only at hr hm
  subst hm
  by_cases hz:sz=0
  ·obtain rfl : r = true := by rw [hr]; simp [hz]
   repeat' ((conv=>whnf);first|(refine SeqP.go ?_)|((refine ObD.mk ?_ ?_);(focus (first|rfl|(simp;done)|(simp [zy,geB,AOp.cls,AOp.xs,ltB,ltC,AX.ev,zh];done))))|((refine ObN.mk ?_ ?_);exact zN)|(with_reducible first|refine ObT.tt ?_|refine ObT.ff ?_)|((refine ObB.yes ?_ ?_);exact zB)|((refine ObB.no ?_ ?_);exact zC)|((with_reducible refine (?_:ObR _ _ _));(first|(refine ObR.mk _ zG ?_)|(refine ObR.map zX (fun x hx=>?_))|(refine ObR.mk _ rfl ?_))))
   all_goals conv=>whnf
   all_goals refine ObEnd.vw [(0,0,0)] rfl ?_ (by simp) ?_
   all_goals repeat' ((conv=>whnf);first|((refine ObN.mk ?_ ?_);exact zN)|((with_reducible refine ObO.l ?_);(refine ObN.mk ?_ ?_);(exact ZD))|((with_reducible refine ObRow.same ?_ ?_ ?_);exact zE;(focus (first|rfl|assumption|(simp;done))))|exact True.intro)
  ·by_cases hz2 : sz = (n : Int) - (c : Int)
   ·obtain rfl : r = true := by rw [hr]; simp [hz2]
    repeat' ((conv=>whnf);first|(refine SeqP.go ?_)|((refine ObD.mk ?_ ?_);(focus (first|rfl|(simp;done)|(simp [zy,geB,AOp.cls,AOp.xs,ltB,ltC,AX.ev,zh];done))))|((refine ObN.mk ?_ ?_);exact zN)|(refine ObT.ff ?_)|((refine ObB.yes ?_ ?_);exact zB)|((refine ObB.no ?_ ?_);exact zC)|((with_reducible refine ObI.sn ?_ ?_ ?_);omega;omega)|((with_reducible refine (?_:ObR _ _ _));(first|(refine ObR.mk _ zG ?_)|(refine ObR.map zX (fun x hx=>?_))|(refine ObR.mk _ rfl ?_))))
    all_goals conv=>whnf
    all_goals refine ObEnd.vw [(0,0,0)] rfl ?_ (by simp) ?_
    all_goals repeat' ((conv=>whnf);first|((refine ObN.mk ?_ ?_);exact zN)|((with_reducible refine ObO.l ?_);(refine ObN.mk ?_ ?_);(exact ZD))|((with_reducible refine ObRow.same ?_ ?_ ?_);exact zE;(focus (first|rfl|assumption|(simp;done))))|exact True.intro)
   ·obtain rfl : r = false := by rw [hr]; simp [hz2, hz]
    repeat' ((conv=>whnf);first|(refine SeqP.go ?_)|((refine ObD.mk ?_ ?_);(focus (first|rfl|(simp;done)|(simp [zy,geB,AOp.cls,AOp.xs,ltB,ltC,AX.ev,zh];done))))|((refine ObN.mk ?_ ?_);exact zN)|(refine ObT.ff ?_)|((refine ObB.no ?_ ?_);exact zC)|((with_reducible refine ObI.sn ?_ ?_ ?_);omega;omega)|((with_reducible refine (?_:ObR _ _ _));(first|(refine ObR.mk _ zG ?_)|(refine ObR.map zX (fun x hx=>?_))|(refine ObR.mk _ rfl ?_))))
    all_goals conv=>whnf
    all_goals refine ObEnd.vw [(0,0,0)] rfl ?_ (by simp) ?_
    all_goals repeat' ((conv=>whnf);first|((refine ObN.mk ?_ ?_);exact zN)|((with_reducible refine ObO.l ?_);(refine ObN.mk ?_ ?_);(exact ZD))|((with_reducible refine ObRow.same ?_ ?_ ?_);exact zE;(focus (first|rfl|assumption|(simp;done))))|exact True.intro)
end
end Go.Proofs.YtdodckipblafmaaGreatDoor.Sim
