/- Texts of this claim, part 8. -/
import Derived.Test.YtfocijljkkfonaaDoorMHeapMore7
set_option linter.unusedVariables false
set_option linter.unusedSimpArgs false
namespace Go.Proofs.YtfocijljkkfonaaDoor.Sim
open Go.RowKit
set_option maxRecDepth 100000
section
variable (G:Nat->AV)
end
def rfs (h:List Nd) (k:Int):List Int:=match h[(k - 1).toNat]? with|some x=>rfN x|none=>[]
inductive Rch (h:List Nd) (r:Int):Int->Prop
 | base (h0:0 < r):Rch h r r
 | step {k c:Int} (hk:Rch h r k) (hc:c ∈ rfs h k):Rch h r c
theorem Rch.trans {h:List Nd} {r k c:Int} (h1:Rch h r k) (h2:Rch h k c):Rch h r c:=by
 induction h2 with
 | base _=>exact h1
 | step _ hc ih=>exact .step ih hc
theorem Xg {h:List Nd} (hh:aH h h.length=true) {k c:Int} (hc:c ∈ rfs h k):1<=c/\(0 < k->c < k)/\c < (h.length:Int):=by
 unfold rfs at hc
 rcases Nat.lt_or_ge (k - 1).toNat h.length with hi|hi
 ·rw [List.getElem?_eq_getElem hi] at hc
  have:=yn (yD hh hi) hc
  omega
 ·rw [List.getElem?_eq_none hi] at hc;cases hc
theorem Rch.bd {h:List Nd} (hh:aH h h.length=true) {r k:Int} (hk:Rch h r k):0 < k/\k<=r:=by
 induction hk with
 | base h0=>omega
 | step _ hc ih=>have:=Xg hh hc;omega
noncomputable def rc (h:List Nd) (r k:Int):Bool:=@decide (Rch h r k) (Classical.propDecidable _)
theorem rc_iff {h:List Nd} {r k:Int}:rc h r k=true↔Rch h r k:=by simp [rc]
noncomputable def rl (h:List Nd) (r:Int):Nat->List Int
 | 0=>[]
 | n+1=>(if rc h r ((n:Int)+1) then [(n:Int)+1] else [])++rl h r n
noncomputable def rp (h:List Nd) (r:Int) (n:Nat):Nat->List Int
 | 0=>[]
 | j+1=>rp h r n j++(if rc h r ((n:Int) - j) then [(n:Int) - j] else [])
theorem rp_all {h:List Nd} {r:Int}:∀ {n j:Nat},j<=n->rp h r n j++rl h r (n - j)=rl h r n:=by
 intro n j
 induction j with
 | zero=>intro _;simp [rp]
 | succ j ih =>
  intro hj
  rw [<- ih (by omega),rp,List.append_assoc]
  congr 1
  have e:n - j=(n - (j+1))+1:=by omega
  have e2:((n - (j+1):Nat):Int)+1=(n:Int) - j:=by omega
  rw [e,rl,e2]
theorem rp_end {h:List Nd} {r:Int} {n:Nat}:rp h r n n=rl h r n:=by
 have:=rp_all (h:=h) (r:=r) (Nat.le_refl n)
 rw [Nat.sub_self] at this
 simpa [rl] using this
theorem rp_len {h:List Nd} {r:Int} {n:Nat}:∀ {j:Nat},(rp h r n j).length<=j:=by
 intro j
 induction j with
 | zero=>simp [rp]
 | succ j ih=>rw [rp,List.length_append];split<;>simp<;>omega
def mk (h:List Nd):Nat->Int->List Bool->List Bool
 | 0,_,a=>a
 | n+1,r,a=>if r<=0\/a.getD (r - 1).toNat true=true then a else (rfs h r).foldl (fun a k=>mk h n k a) (a.set (r - 1).toNat true)
theorem mk_len {h:List Nd}:∀ {n:Nat} {r:Int} {a:List Bool},(mk h n r a).length=a.length:=by
 intro n
 induction n with
 | zero=>intro r a;rfl
 | succ n ih =>
  intro r a
  rw [mk];split
  ·rfl
  ·have key : ∀ (l : List Int) (a : List Bool), (l.foldl (fun a k => mk h n k a) a).length = a.length := by
    intro l
    induction l with
    | nil=>intro a;rfl
    | cons x t iht=>intro a;rw [List.foldl_cons,iht,ih]
   rw [key,List.length_set]
abbrev on (a:List Bool) (r:Int):Prop:=a.getD (r - 1).toNat false=true
structure MkS (h:List Nd) (a b:List Bool) (rs:List Int):Prop where
 mono:∀ k:Int,0 < k->on a k->on b k
 only:∀ k:Int,0 < k->on b k->on a k\/∃ r ∈ rs,Rch h r k
 clos:∀ k:Int,0 < k->on b k->¬ on a k->∀ c ∈ rfs h k,on b c
 all:∀ r ∈ rs,on b r
theorem mk_all {h:List Nd} (hh:aH h h.length=true) {r:Int} {a b:List Bool} (hs:MkS h a b [r]) (hoffs:∀ k:Int,¬ on a k) {k:Int} (hk:Rch h r k):on b k:=by
 induction hk with
 | base _=>exact hs.all r (List.mem_singleton.2 rfl)
 | step hkk hc ih=>exact hs.clos _ (hkk.bd hh).1 ih (hoffs _) _ hc
section
variable (G:Nat->AV)
end
abbrev fon (F:List Bool) (k:Int):Prop:=F.getD k.toNat false=true
def stL (F:List Bool) (l:List Int):List Bool:=l.foldl (fun F c=>F.set c.toNat true) F
theorem Wo (l:List Int) (F:List Bool):(stL F l).length=F.length:=by
 induction l generalizing F with
 | nil=>rfl
 | cons x t ih=>show (stL (F.set x.toNat true) t).length=_;rw [ih,List.length_set]
theorem stL_snoc {F:List Bool} {l:List Int} {k:Nat} (hk:k < l.length):stL F (l.take (k+1))=(stL F (l.take k)).set (l[k]).toNat true:=by
 rw [List.take_succ_eq_append_getElem hk,stL,List.foldl_append];rfl
theorem stL_on {l:List Int}:∀ {F:List Bool} {k:Int},0<=k->(∀ c ∈ l,0<=c/\c.toNat < F.length)->(fon (stL F l) k↔fon F k\/k ∈ l):=by
 induction l with
 | nil=>intro F k _ _;simp [stL]
 | cons x t ih =>
  intro F k hk hc
  have e:stL F (x::t)=stL (F.set x.toNat true) t:=rfl
  obtain ⟨x0,x1⟩:=hc x (List.mem_cons_self ..)
  rw [e,ih hk fun c hc'=>by rw [List.length_set];exact hc c (List.mem_cons_of_mem _ hc')]
  have:fon (F.set x.toNat true) k↔fon F k\/k=x:=by
   unfold fon
   rw [List.getD_eq_getElem?_getD,List.getD_eq_getElem?_getD]
   by_cases h:k=x
   ·subst h;rw [List.getElem?_set_self x1];simp
   ·rw [List.getElem?_set_ne (by omega)];simp [h]
  rw [this,List.mem_cons,or_assoc]
structure Dj (h:List Nd) (n j:Nat) (F:List Bool) (o:List Int):Prop where
 len:F.length=n+1
 only:∀ k:Int,0 < k->k<=(n:Int)->fon F k->Rch h (n:Int) k
 top:fon F (n:Int)
 clos:∀ k:Int,(n:Int) - j < k->k<=(n:Int)->fon F k->∀ c ∈ rfs h k,fon F c
 out:o=rp h (n:Int) n j
theorem Dj.all {h:List Nd} (hh:aH h h.length=true) {n j:Nat} {F:List Bool} {o:List Int} (hd:Dj h n j F o) {k:Int} (hk:Rch h (n:Int) k):(n:Int) - j<=k->fon F k:=by
 induction hk with
 | base _=>intro _;exact hd.top
 | step hkk hc ih =>
  intro hc2
  have h1:=hkk.bd hh
  have h2:=(Xg hh hc).2.1 h1.1
  exact hd.clos _ (by omega) h1.2 (ih (by omega)) _ hc
theorem Dj.at_ {h:List Nd} (hh:aH h h.length=true) {n j:Nat} {F:List Bool} {o:List Int} (hd:Dj h n j F o) (hj:j < n):F[((n:Int) - j).toNat]? = some (rc h (n:Int) ((n:Int) - j)):=by
 have hl:=hd.len
 rw [List.getElem?_eq_getElem (by omega)]
 congr 1
 rw [Bool.eq_iff_iff,rc_iff]
 have e:fon F ((n:Int) - j)↔F[((n:Int) - j).toNat]=true:=by
  unfold fon;rw [List.getD_eq_getElem?_getD,List.getElem?_eq_getElem (by omega),Option.getD_some]
 rw [<- e]
 exact ⟨hd.only _ (by omega) (by omega),fun h=>hd.all hh h (by omega)⟩
theorem Dj.no {h:List Nd} {n j:Nat} {F:List Bool} {o:List Int} (hd:Dj h n j F o) (hj:j < n) (hc:F[((n:Int) - j).toNat]? = some false) (hr:rc h (n:Int) ((n:Int) - j)=false):Dj h n (j+1) F o:=by
 refine ⟨hd.len,hd.only,hd.top,fun k h1 h2 hf c hcc=>?_,by rw [rp,hr,<- hd.out];simp⟩
 by_cases e:k=(n:Int) - j
 ·subst e
  unfold fon at hf
  rw [List.getD_eq_getElem?_getD,hc] at hf;cases hf
 ·exact hd.clos k (by omega) h2 hf c hcc
theorem Dj.yes {h:List Nd} (hh:aH h h.length=true) {n j:Nat} {F:List Bool} {o:List Int} (hd:Dj h n j F o) (hj:j < n) (hr:rc h (n:Int) ((n:Int) - j)=true):Dj h n (j+1) (stL F (rfs h ((n:Int) - j))) (o++[(n:Int) - j]):=by
 have hl:=hd.len
 have hb:∀ c ∈ rfs h ((n:Int) - j),0<=c/\c.toNat < F.length:=fun c hc=>by
  have:=Xg hh hc
  have:=this.2.1 (by omega)
  omega
 have hon:∀ {k:Int},0<=k->(fon (stL F (rfs h ((n:Int) - j))) k↔fon F k\/k ∈ rfs h ((n:Int) - j)):=fun hk=>stL_on hk hb
 refine ⟨by rw [Wo,hl],fun k h1 h2 hf=>?_,(hon (by omega)).2 (.inl hd.top),fun k h1 h2 hf c hcc=>?_,by rw [rp,hr,<- hd.out];simp⟩
 ·rcases (hon (by omega)).1 hf with h | h
  ·exact hd.only k h1 h2 h
  ·exact .step (rc_iff.1 hr) h
 ·have hc0 := (Xg hh hcc).1
  refine (hon (by omega)).2 ?_
  by_cases e:k=(n:Int) - j
  ·subst e;exact .inr hcc
  ·refine .inl (hd.clos k (by omega) h2 ?_ c hcc)
   rcases (hon (by omega)).1 hf with h|h
   ·exact h
   ·have:=(Xg hh h).2.1 (by omega);omega
section
variable (G:Nat->AV)
set_option maxHeartbeats 8000000 in
theorem desc31 (h:List Nd) (hl:h.length<=1000) (hx:∀ x ∈ h,x.Ok) (hh:aH h h.length=true) (n:Nat) (hn:n<=h.length):PC Tryd.prog G 38 [.sl 9 (h.map nA),I n] (.sl 1 ((rl h (n:Int) n).map iA)):=by
 have ur:List.replicate (n+1) (AV.v (.bool false))=(List.replicate (n+1) false).map bA:=bA_rep
 have us:((List.replicate (n+1) false).map bA).set n (.v (.bool true))=((List.replicate (n+1) false).set n true).map bA:=wD
 obtain ⟨F0,hF0⟩:∃ F0,F0=(List.replicate (n+1) false).set n true:=⟨_,rfl⟩
 have hD0:Dj h n 0 F0 []:=by
  have hon:∀ k:Int,0<=k->(fon F0 k->k=(n:Int)):=fun k hk hf=>by
   unfold fon at hf
   rw [hF0,List.getD_eq_getElem?_getD] at hf
   by_cases e:k=(n:Int)
   ·exact e
   ·rw [List.getElem?_set_ne (by omega), List.getElem?_replicate] at hf
    split at hf<;>simp at hf
  refine ⟨by rw [hF0];simp,fun k h1 h2 hf=>by obtain rfl:=hon k (by omega) hf;exact .base h1,?_,fun k h1 h2=>by omega,rfl⟩
  unfold fon
  rw [hF0,List.getD_eq_getElem?_getD]
  simp
 rw [<- hF0] at us
 have r0:=xd (List.replicate (n+1) false)
 have r1:=xd F0
 have gz:((List.replicate (n+1) false).map bA)[n]? = some (.v (.bool false)):=XC (by rw [List.getElem?_replicate];simp)
 rw [<- rp_end]
 clear hF0
 refine zo cop38 ?_
 repeat' ((conv=>whnf);first|(refine SeqP.go ?_)|((refine ObD.mk ?_ ?_);exact zD)|((refine ObN.mk ?_ ?_);exact zN)|((with_reducible refine ObI.nl ?_ ?_);omega)|((refine ObX.mk _ rfl ?_ ?_);exact zX)|((with_reducible refine (?_:ObL _ _));(refine ObL.mk _ zM ?_))|((with_reducible refine (?_:ObU _ _));(refine ObU.mk _ (by first|exact ur|exact us|assumption|((conv=>lhs;simp only [List.set_cons_zero,List.set_cons_succ,List.take_succ_cons,List.take_zero,List.drop_succ_cons,List.drop_zero,List.nil_append,List.cons_append,List.append_nil,List.take_nil,List.drop_nil]);try rfl)|rfl) ?_))|((with_reducible refine (?_:ObR _ _ _));(first|(refine ObR.mk _ zw ?_)|(refine ObR.map zX (fun x hx=>?_))|(refine ObR.mk _ rfl ?_))))
 conv=>whnf
 refine LoopP.go (α:=Nat × List Bool × List Int) (fun p=>p.1<=n/\Dj h n p.1 p.2.1 p.2.2) (fun p=>n - p.1) (fun p=>[(5,some (rS 1 p.2.2)),(1,some (I ((n:Int) - p.1))),(1,none),(7,none),(0,none),(0,none),(0,none),(0,none),(0,none),(0,none),(0,none),(0,none),(0,none),(0,none),(0,none),(0,none),(0,none),(0,none),(0,none),(0,none),(0,none),(0,none),(0,none),(0,none),(0,none),(0,none),(0,none),(0,none),(0,none),(0,none),(0,none)]) (fun p=>[⟨4,1,p.2.1.map bA,0,0⟩]++rH p.2.2) (0,F0,[]) ⟨Nat.zero_le _,hD0⟩ (Fg.go ?_ rfl) ?_
 ·repeat' ((conv=>whnf);first|((refine ObEqs.mk ?_ ?_);rfl)|((with_reducible refine ObEq1.i ?_ ?_);exact zF)|((with_reducible refine ObEq1.mk ?_ ?_);exact zE)|exact True.intro)
 rintro ⟨j,F,o⟩ ⟨hj,hD⟩
 dsimp only at hj hD ⊢
 have hol:o.length<=j:=by rw [hD.out];exact rp_len
 have hFl:=hD.len
 have rb:=xd F
 by_cases hjn:j < n
 ·obtain ⟨i, hi⟩ : ∃ i : Nat, i + j + 1 = n := ⟨n - 1 - j, by omega⟩
  have ei:(n:Int) - j=(i:Int)+1:=by omega
  have hrc:=hD.at_ hh hjn
  have hno:=hD.no hjn
  have hye:=hD.yes hh hjn
  rw [ei] at hrc hno hye ⊢
  have e2:((i:Int)+1).toNat=i+1:=by omega
  rw [e2] at hrc hno
  have hg:=XC hrc
  have e4:(n:Int) - ((j+1:Nat):Int)=(i:Int):=by omega
  cases hc:rc h (n:Int) ((i:Int)+1)
  ·rw [hc] at hg hrc
   have hD2:=hno hrc hc
   rcases o with _|⟨o0,ot⟩
   all_goals repeat' ((conv=>whnf);first|(refine SeqP.go ?_)|((refine ObN.mk ?_ ?_);exact zN)|(with_reducible first|refine ObT.tt ?_|refine ObT.ff ?_)|((refine ObB.yes ?_ ?_);exact zB)|((with_reducible refine ObI.mk _ rfl ?_ ?_ ?_);omega;omega)|((refine ObX.mk _ rfl ?_ ?_);exact zX)|((with_reducible refine (?_:ObR _ _ _));(first|(refine ObR.mk _ zw ?_)|(refine ObR.map zX (fun x hx=>?_))|(refine ObR.mk _ rfl ?_))))
   all_goals conv=>whnf
   all_goals first|refine Again.mk (j+1,F,[]) ⟨by dsimp only;omega,hD2⟩ (by dsimp only;omega) ?_|refine Again.mk (j+1,F,o0::ot) ⟨by dsimp only;omega,hD2⟩ (by dsimp only;omega) ?_
   all_goals (try dsimp only)
   all_goals rw [e4]
   all_goals refine Fg.go ?_ rfl
   all_goals repeat' ((conv=>whnf);first|((refine ObEqs.mk ?_ ?_);rfl)|((with_reducible refine ObEq1.i ?_ ?_);exact zF)|((with_reducible refine ObEq1.mk ?_ ?_);exact zE)|exact True.intro)
  ·rw [hc] at hg
   have hD2:=hye hc
   have hil:i < h.length:=by omega
   have hq:=XB hil
   have hxo:=hx _ (List.getElem_mem hil)
   have hrf:=X4 G h[i] hxo
   have hrl:=xm hxo
   have hrfs:rfs h ((i:Int)+1)=rfN h[i]:=by
    rw [rfs,show ((i:Int)+1 - 1).toNat=i by omega,List.getElem?_eq_getElem hil]
   have hrr:∀ c ∈ rfs h ((i:Int)+1),1<=c/\c<=(i:Int):=fun c hc=>by
    have:=Xg hh hc
    have:=this.2.1 (by omega)
    omega
   rw [hrfs] at hrr hD2
   generalize h[i]=x at *
   rw [<- show ((i:Int)+1 - 1).toNat=i by omega] at hq
   obtain ⟨O,hO⟩:∃ O,O=o++[(i:Int)+1]:=⟨_,rfl⟩
   rw [<- hO] at hD2
   have hOl:O.length=o.length+1:=by rw [hO];simp
   have rO:=wJ O
   clear hno hye hD hh
   rcases o with _|⟨o0,ot⟩
   ·obtain rfl : O = [(i : Int) + 1] := hO
    repeat' ((conv=>whnf);first|(refine SeqP.go ?_)|((refine ObD.mk ?_ ?_);exact zD)|((refine ObN.mk ?_ ?_);exact zN)|(with_reducible first|refine ObT.tt ?_|refine ObT.ff ?_)|((refine ObB.yes ?_ ?_);exact zB)|((with_reducible refine ObI.mk _ rfl ?_ ?_ ?_);omega;omega)|((refine ObX.mk _ rfl ?_ ?_);exact zX)|((with_reducible refine ObX.int ?_ ?_ ?_);exact zX;exact zX)|((with_reducible refine (?_:ObL _ _));(refine ObL.mk _ zM ?_))|((with_reducible refine (?_:ObU _ _));(refine ObU.mk _ zU ?_))|((with_reducible refine (?_:ObR _ _ _));(first|(refine ObR.mk _ zw ?_)|(refine ObR.map zX (fun x hx=>?_))|(refine ObR.mk _ rfl ?_)))|((refine ObC.f 23 ?_);(refine ObC.mk _ (hrf) ?_))|((with_reducible refine ObW.cons ?_ ?_);(focus (first|assumption|(simp;done)))))
    conv=>whnf
    refine LoopP.go (α:=Nat) (fun k=>k<=(rfN x).length) (fun k=>(rfN x).length - k) (fun k=>[(5,some (.ol 1 0 1)),(3,none),(16,none),(1,none),(0,none),(7,some (I k)),(0,none),(0,none),(0,none),(0,none),(0,none),(0,none),(0,none)]) (fun k=>[⟨4,1,(stL F ((rfN x).take k)).map bA,0,0⟩,kR 0 [(i:Int)+1]]) 0 (Nat.zero_le _) (Fg.vw [(0,0,0),(0,2,0)] (by repeat' ((conv=>whnf);first|((refine ObN.mk ?_ ?_);exact zN)|((with_reducible refine ObRn.mk ?_ ?_);(focus (first|rfl|(simp [rnB,rnC,rnL];done))))|((refine ObEqs.mk ?_ ?_);rfl)|exact True.intro)) (by repeat' ((conv=>whnf);first|((refine ObN.mk ?_ ?_);exact zN)|((with_reducible refine ObRow.same ?_ ?_ ?_);exact zE;(focus (first|rfl|assumption|(simp;done))))|exact True.intro)) (by simp) (by repeat' ((conv=>whnf);first|exact True.intro))) ?_
    rintro k hk
    have hsl:=Wo ((rfN x).take k) F
    by_cases hkr:k < (rfN x).length
    ·have hq2 := Z0 hkr
     have hr1:=hrr _ (List.getElem_mem hkr)
     have hs:=stL_snoc (F:=F) hkr
     generalize stL F ((rfN x).take k)=F2 at *
     generalize (rfN x)[k]=c at *
     have g9:(F2.map bA)[c.toNat]? = some (.v (.bool (F2.getD c.toNat false))):=XC (by rw [List.getD_eq_getElem?_getD,List.getElem?_eq_getElem (by omega)];rfl)
     have us2:(F2.map bA).set c.toNat (.v (.bool true))=(F2.set c.toNat true).map bA:=wD
     have rb2:=xd F2
     have rb3:=xd (F2.set c.toNat true)
     repeat' ((conv=>whnf);first|(refine SeqP.go ?_)|((refine ObD.mk ?_ ?_);exact zD)|((refine ObN.mk ?_ ?_);exact zN)|(refine ObT.tt ?_)|((refine ObB.yes ?_ ?_);exact zB)|((with_reducible refine ObI.nl ?_ ?_);omega)|((refine ObX.mk _ rfl ?_ ?_);exact zX)|((with_reducible refine ObX.int ?_ ?_ ?_);exact zX;exact zX)|((with_reducible refine (?_:ObU _ _));(refine ObU.mk _ zq5 ?_))|((with_reducible refine (?_:ObR _ _ _));(first|(refine ObR.mk _ zw ?_)|(refine ObR.map zX (fun x hx=>?_))|(refine ObR.mk _ rfl ?_))))
     conv=>whnf
     refine Again.mk (k+1) (by omega) (by omega) ?_
     rw [hs]
     refine Fg.vw [(0,0,0),(0,1,0)] ?_ ?_ (by simp) ?_
     all_goals repeat' ((conv=>whnf);first|((refine ObN.mk ?_ ?_);exact zN)|((with_reducible refine ObRn.mk ?_ ?_);(focus (first|rfl|(simp [rnB,rnC,rnL];done))))|((with_reducible refine ObRow.same ?_ ?_ ?_);exact zE;(focus (first|rfl|assumption|(simp;done))))|((refine ObEqs.mk ?_ ?_);rfl)|exact True.intro)
    ·obtain rfl : k = (rfN x).length := by omega
     rw [List.take_length]
     have rb2:=xd (stL F (rfN x))
     repeat' ((conv=>whnf);first|(refine SeqP.go ?_)|((refine ObN.mk ?_ ?_);exact zN)|(refine ObT.ff ?_)|((refine ObB.no ?_ ?_);exact zC)|((with_reducible refine ObI.mk _ rfl ?_ ?_ ?_);omega;omega))
     conv=>whnf
     refine Again.mk (j+1,stL F (rfN x),[(i:Int)+1]) ⟨by dsimp only;omega,hD2⟩ (by dsimp only;omega) ?_
     try dsimp only
     rw [e4]
     refine Fg.vw [(0,0,0),(0,1,0)] ?_ ?_ (by simp) ?_
     all_goals repeat' ((conv=>whnf);first|((with_reducible refine ObRn.mk ?_ ?_);(focus (simp [rnB,rnC,rS];done)))|((refine ObN.mk ?_ ?_);exact zN)|((with_reducible refine ObRow.same ?_ ?_ ?_);exact zE;(focus (first|rfl|assumption|(simp;done))))|((refine ObEqs.mk ?_ ?_);rfl)|exact True.intro)
   ·have us2 : ((o0 :: ot).map iA).take (ot.length + 1) ++ [.v (.int .i64 ((i : Int) + 1))] = O.map iA := by rw [hO]; exact wk (l := o0 :: ot)
    have hl2:ot.length+1+[I ((i:Int)+1)].length=O.length:=by rw [hOl];rfl
    have hO2:O=o0::(ot++[(i:Int)+1]):=by rw [hO];rfl
    have hol':ot.length+1<=j:=hol
    have r5:=wJ (o0::ot)
    repeat' ((conv=>whnf);first|(refine SeqP.go ?_)|((refine ObD.mk ?_ ?_);exact zD)|((refine ObN.mk ?_ ?_);exact zN)|(with_reducible first|refine ObT.tt ?_|refine ObT.ff ?_)|((refine ObB.yes ?_ ?_);exact zB)|((with_reducible refine ObI.mk _ rfl ?_ ?_ ?_);omega;omega)|((refine ObX.mk _ rfl ?_ ?_);exact zX)|((with_reducible refine ObX.int ?_ ?_ ?_);exact zX;exact zX)|((with_reducible refine (?_:ObL _ _));(refine ObL.mk _ (by first|exact hl2|exact (List.length_map _)|assumption|exact (List.length_map _).trans (by assumption)|exact List.length_map _|rfl) ?_))|((with_reducible refine (?_:ObU _ _));(refine ObU.mk _ zq5 ?_))|((with_reducible refine (?_:ObR _ _ _));(first|(refine ObR.mk _ zw ?_)|(refine ObR.map zX (fun x hx=>?_))|(refine ObR.mk _ rfl ?_)))|((refine ObC.f 23 ?_);(refine ObC.mk _ (hrf) ?_)))
    conv=>whnf
    refine LoopP.go (α:=Nat) (fun k=>k<=(rfN x).length) (fun k=>(rfN x).length - k) (fun k=>[(5,some (.ol 1 0 O.length)),(3,none),(16,none),(1,none),(0,none),(7,some (I k)),(0,none),(0,none),(0,none),(0,none),(0,none),(0,none),(0,none)]) (fun k=>[⟨4,1,(stL F ((rfN x).take k)).map bA,0,0⟩,kR 0 O]) 0 (Nat.zero_le _) (Fg.vw [(0,0,0),(0,1,1)] (by repeat' ((conv=>whnf);first|((refine ObN.mk ?_ ?_);exact zN)|((with_reducible refine ObRn.mk ?_ ?_);(focus (first|rfl|(simp [rnB,rnC,rnL];done))))|((refine ObEqs.mk ?_ ?_);rfl)|exact True.intro)) (by repeat' ((conv=>whnf);first|((refine ObN.mk ?_ ?_);exact zN)|((with_reducible refine ObRow.same ?_ ?_ ?_);exact zE;(focus (first|rfl|assumption|(simp;done))))|exact True.intro)) (by simp) (by repeat' ((conv=>whnf);first|exact True.intro))) ?_
    rintro k hk
    have hsl:=Wo ((rfN x).take k) F
    by_cases hkr:k < (rfN x).length
    ·have hq2 := Z0 hkr
     have hr1:=hrr _ (List.getElem_mem hkr)
     have hs:=stL_snoc (F:=F) hkr
     generalize stL F ((rfN x).take k)=F2 at *
     generalize (rfN x)[k]=c at *
     have g9:(F2.map bA)[c.toNat]? = some (.v (.bool (F2.getD c.toNat false))):=XC (by rw [List.getD_eq_getElem?_getD,List.getElem?_eq_getElem (by omega)];rfl)
     have us2:(F2.map bA).set c.toNat (.v (.bool true))=(F2.set c.toNat true).map bA:=wD
     have rb2:=xd F2
     have rb3:=xd (F2.set c.toNat true)
     repeat' ((conv=>whnf);first|(refine SeqP.go ?_)|((refine ObD.mk ?_ ?_);exact zD)|((refine ObN.mk ?_ ?_);exact zN)|(refine ObT.tt ?_)|((refine ObB.yes ?_ ?_);exact zB)|((with_reducible refine ObI.nl ?_ ?_);omega)|((refine ObX.mk _ rfl ?_ ?_);exact zX)|((with_reducible refine ObX.int ?_ ?_ ?_);exact zX;exact zX)|((with_reducible refine (?_:ObU _ _));(refine ObU.mk _ zq5 ?_))|((with_reducible refine (?_:ObR _ _ _));(first|(refine ObR.mk _ zw ?_)|(refine ObR.map zX (fun x hx=>?_))|(refine ObR.mk _ rfl ?_))))
     conv=>whnf
     refine Again.mk (k+1) (by omega) (by omega) ?_
     rw [hs]
     refine Fg.vw [(0,0,0),(0,1,0)] ?_ ?_ (by simp) ?_
     all_goals repeat' ((conv=>whnf);first|((refine ObN.mk ?_ ?_);exact zN)|((with_reducible refine ObRn.mk ?_ ?_);(focus (first|rfl|(simp [rnB,rnC,rnL];done))))|((with_reducible refine ObRow.same ?_ ?_ ?_);exact zE;(focus (first|rfl|assumption|(simp;done))))|((refine ObEqs.mk ?_ ?_);rfl)|exact True.intro)
    ·obtain rfl : k = (rfN x).length := by omega
     rw [List.take_length]
     have rb2:=xd (stL F (rfN x))
     subst hO2
     have hl5:(ot++[(i:Int)+1]).length=ot.length+1:=by simp
     repeat' ((conv=>whnf);first|(refine SeqP.go ?_)|((refine ObN.mk ?_ ?_);exact zN)|(refine ObT.ff ?_)|((refine ObB.no ?_ ?_);exact zC)|((with_reducible refine ObI.mk _ rfl ?_ ?_ ?_);omega;omega))
     conv=>whnf
     refine Again.mk (j+1,stL F (rfN x),o0::(ot++[(i:Int)+1])) ⟨by dsimp only;omega,hD2⟩ (by dsimp only;omega) ?_
     try dsimp only
     rw [e4]
     refine Fg.vw [(0,0,0),(0,1,0)] ?_ ?_ (by simp) ?_
     all_goals repeat' ((conv=>whnf);first|((with_reducible refine ObRn.mk ?_ ?_);(focus (simp [rnB,rnC,rS];done)))|((refine ObN.mk ?_ ?_);exact zN)|((with_reducible refine ObRow.same ?_ ?_ ?_);exact zE;(focus (first|rfl|assumption|(simp;done))))|((refine ObEqs.mk ?_ ?_);rfl)|exact True.intro)
 ·obtain rfl : j = n := by omega
  rw [<- hD.out]
  rcases o with _|⟨o0,ot⟩
  ·repeat' ((conv=>whnf);first|(refine SeqP.go ?_)|((refine ObN.mk ?_ ?_);exact zN)|(refine ObT.ff ?_)|((refine ObB.no ?_ ?_);exact zC)|((refine ObEq.mk ?_);exact zE))
  ·have la : ((o0 :: ot).map iA).take (ot.length + 1) = (o0 :: ot).map iA := i_all (l := o0 :: ot)
   have lp:=p_i (o0::ot)
   repeat' ((conv=>whnf);first|(refine SeqP.go ?_)|((refine ObN.mk ?_ ?_);exact zN)|(refine ObT.ff ?_)|((refine ObB.no ?_ ?_);exact zC)|((with_reducible refine (?_:ObU _ _));(refine ObU.mk _ zq7 ?_))|((refine ObEq.mk ?_);exact zE))
end
noncomputable def rL (h:List Nd) (r:Int) (c:Bool):List Int:=if c then rl h r r.toNat else []
theorem rl_len {h:List Nd} {r:Int}:∀ {n:Nat},(rl h r n).length<=n:=by
 intro n
 induction n with
 | zero=>simp [rl]
 | succ n ih=>rw [rl,List.length_append];split<;>simp<;>omega
theorem rL_len {h:List Nd} {r:Int} {c:Bool} (hc:c=okR h r):(rL h r c).length<=h.length:=by
 unfold rL
 cases c
 ·simp
 ·have hc' := hc.symm
  simp only [okR,Bool.and_eq_true,decide_eq_true_eq] at hc'
  have:=@rl_len h r r.toNat
  rw [if_pos rfl];omega
section
variable (G:Nat->AV)
theorem xop15:copFX Tryd.prog [16,26,30,34,40,41,43,44,45,48,55,71,72,81,87,88,91,92] 27=some A27:=by kernel_rfl
set_option maxHeartbeats 4000000 in
theorem refs15 (h:List Nd) (hl:h.length<=1000) (hx:∀ x ∈ h,x.Ok) (r:Int) (c:Bool) (hc:c=okR h r):PC Tryd.prog G 27 [.sl 9 (h.map nA),I r] (.fn 39 [.ad 1 [.sl 1 ((rL h r c).map iA)] 0 0]):=by
 have hm:=may21 G h hl hx r c hc
 unfold rL
 cases c
 ·simp only [eo,Bool.false_eq_true,if_false] at hm ⊢
  refine pc_ofX xop15 ?_
  repeat' ((conv=>whnf);first|exact SameP.mk rfl rfl|(with_reducible first|refine ObAnd.mk ?_ ?_|refine ObDx.same ?_)|((refine ObD.mk ?_ ?_);exact zD)|((refine ObN.mk ?_ ?_);exact zN)|(with_reducible first|refine ObT.tt ?_|refine ObT.ff ?_)|((with_reducible refine ObT.yes ?_ ?_);assumption)|((with_reducible refine ObT.no ?_ ?_);assumption)|((with_reducible refine ObT.yes ?_ ?_);(focus (refine decide_eq_true ?_;first|assumption|omega)))|((with_reducible refine ObT.no ?_ ?_);(focus (refine decide_eq_false ?_;first|assumption|omega)))|(with_reducible first|refine ObT.dec (fun h=>?_) (fun h=>?_)|refine ObT.mk (fun h=>?_) (fun h=>?_))|((refine ObB.yes ?_ ?_);exact zB)|((refine ObB.no ?_ ?_);exact zC)|(with_reducible refine ObB.mk (fun h=>?_) (fun h=>?_))|((with_reducible refine ObI.nn ?_ ?_);omega)|((with_reducible refine ObI.nl ?_ ?_);omega)|((with_reducible refine ObI.sn ?_ ?_ ?_);omega;omega)|((with_reducible refine ObI.sl ?_ ?_ ?_);omega;omega)|((with_reducible refine ObI.dl ?_ ?_);omega)|((with_reducible refine ObI.mk _ rfl ?_ ?_ ?_);omega;omega)|((with_reducible refine ObZ.wu ?_ ?_);omega)|((with_reducible refine ObZ.wi ?_ ?_ ?_);omega;omega)|(with_reducible first|refine ObZ.ml ?_|refine ObZ.mn ?_|refine ObZ.mk _ rfl ?_)|((refine ObX.mk _ rfl ?_ ?_);exact zX)|((with_reducible refine ObX.lit ?_ ?_);exact zX)|((with_reducible refine ObX.int ?_ ?_ ?_);exact zX;exact zX)|((with_reducible refine ObY.mk _ rfl ?_ ?_);exact zX)|((with_reducible refine ObY.lit ?_ ?_);exact zX)|((with_reducible refine ObY.int ?_ ?_ ?_);exact zX;exact zX)|((with_reducible refine (?_:ObL _ _));(refine ObL.mk _ zM ?_))|((with_reducible refine (?_:ObU _ _));(refine ObU.mk _ zU ?_))|(with_reducible refine ObS.mk _ rfl ?_)|((with_reducible refine (?_:ObR _ _ _));(first|(refine ObR.mk _ zw ?_)|(refine ObR.map zX (fun x hx=>?_))|(refine ObR.mk _ rfl ?_)))|((refine ObC.f 15 ?_);(refine ObC.mk _ (hm) ?_))|((with_reducible refine ObO.l ?_);(refine ObN.mk ?_ ?_);(exact ZQ))|((with_reducible refine ObO.r ?_);(refine ObN.mk ?_ ?_);(focus (first|omega|(simp;done))))|((with_reducible refine ObW.nil ?_ ?_);exact zE)|((with_reducible refine ObW.cons ?_ ?_);(focus (first|assumption|(simp;done))))|((with_reducible refine ObJ.zz ?_))|((with_reducible refine ObJ.nz ?_ ?_);exact zX)|((with_reducible refine ObJ.zn ?_ ?_);exact zX)|((with_reducible refine ObJ.nn ?_ ?_ ?_);exact zX;exact zX)|((with_reducible refine ObJ.lz ?_ ?_);exact zX)|((with_reducible refine ObJ.zl ?_ ?_);exact zX)|((with_reducible refine ObJ.nl ?_ ?_ ?_);exact zX;exact zX)|((with_reducible refine ObJ.ln ?_ ?_ ?_);exact zX;exact zX)|((with_reducible refine ObJ.ll ?_ ?_ ?_);exact zX;exact zX)|((with_reducible refine (?_:ObG _ _ _ _));(refine ObG.nz zX _ (by first|rfl) ?_))|((with_reducible refine (?_:ObG _ _ _ _));(refine ObG.zn zX _ (by first|rfl) ?_))|((with_reducible refine (?_:ObG _ _ _ _));(refine ObG.nn zX zX _ (by first|rfl) ?_))|((with_reducible refine (?_:ObG _ _ _ _));(refine ObG.lz zX _ (by first|rfl) ?_))|((with_reducible refine (?_:ObG _ _ _ _));(refine ObG.zl zX _ (by first|rfl) ?_))|((with_reducible refine (?_:ObG _ _ _ _));(refine ObG.nl zX zX _ (by first|rfl) ?_))|((with_reducible refine (?_:ObG _ _ _ _));(refine ObG.ln zX zX _ (by first|rfl) ?_))|((with_reducible refine (?_:ObG _ _ _ _));(refine ObG.ll zX zX _ (by first|rfl) ?_))|((with_reducible refine ObQ.mk _ rfl ?_ ?_);exact zX)|((with_reducible refine ObEq.i ?_);exact zF)|((refine ObEq.mk ?_);exact zE)|(exact ObEnd.eq rfl rfl)|((with_reducible refine ObSt.live ?_ ?_);(focus (first|trivial|(refine ⟨rfl,?_⟩;first|omega|(exact Nat.le_refl _)))))|(with_reducible refine ObSt.stale ?_)|((with_reducible refine ObRn.mk ?_ ?_);(focus (first|rfl|(simp [rnB,rnC,rnL];done))))|((with_reducible refine ObRow.same ?_ ?_ ?_);exact zE;(focus (first|rfl|assumption|(simp;done))))|((with_reducible refine ObRow.lit ?_ ?_);(focus (first|rfl|(simp [rnB,rnC,rnL];done))))|((refine ObEqs.mk ?_ ?_);rfl)|((with_reducible refine ObEq1.i ?_ ?_);exact zF)|((with_reducible refine ObEq1.o ?_ ?_);exact zF)|((with_reducible refine ObEq1.mk ?_ ?_);exact zE)|exact True.intro|(with_reducible first|refine ObE.min ?_|refine ObE.max ?_))
  conv=>whnf
  refine SeqX.sp (SeqP.go ?_)
  repeat' ((conv=>whnf);first|exact SameP.mk rfl rfl|(with_reducible first|refine ObAnd.mk ?_ ?_|refine ObDx.same ?_)|((refine ObD.mk ?_ ?_);exact zD)|((refine ObN.mk ?_ ?_);exact zN)|(with_reducible first|refine ObT.tt ?_|refine ObT.ff ?_)|((with_reducible refine ObT.yes ?_ ?_);assumption)|((with_reducible refine ObT.no ?_ ?_);assumption)|((with_reducible refine ObT.yes ?_ ?_);(focus (refine decide_eq_true ?_;first|assumption|omega)))|((with_reducible refine ObT.no ?_ ?_);(focus (refine decide_eq_false ?_;first|assumption|omega)))|(with_reducible first|refine ObT.dec (fun h=>?_) (fun h=>?_)|refine ObT.mk (fun h=>?_) (fun h=>?_))|((refine ObB.yes ?_ ?_);exact zB)|((refine ObB.no ?_ ?_);exact zC)|(with_reducible refine ObB.mk (fun h=>?_) (fun h=>?_))|((with_reducible refine ObI.nn ?_ ?_);omega)|((with_reducible refine ObI.nl ?_ ?_);omega)|((with_reducible refine ObI.sn ?_ ?_ ?_);omega;omega)|((with_reducible refine ObI.sl ?_ ?_ ?_);omega;omega)|((with_reducible refine ObI.dl ?_ ?_);omega)|((with_reducible refine ObI.mk _ rfl ?_ ?_ ?_);omega;omega)|((with_reducible refine ObZ.wu ?_ ?_);omega)|((with_reducible refine ObZ.wi ?_ ?_ ?_);omega;omega)|(with_reducible first|refine ObZ.ml ?_|refine ObZ.mn ?_|refine ObZ.mk _ rfl ?_)|((refine ObX.mk _ rfl ?_ ?_);exact zX)|((with_reducible refine ObX.lit ?_ ?_);exact zX)|((with_reducible refine ObX.int ?_ ?_ ?_);exact zX;exact zX)|((with_reducible refine ObY.mk _ rfl ?_ ?_);exact zX)|((with_reducible refine ObY.lit ?_ ?_);exact zX)|((with_reducible refine ObY.int ?_ ?_ ?_);exact zX;exact zX)|((with_reducible refine (?_:ObL _ _));(refine ObL.mk _ zM ?_))|((with_reducible refine (?_:ObU _ _));(refine ObU.mk _ zU ?_))|(with_reducible refine ObS.mk _ rfl ?_)|((with_reducible refine (?_:ObR _ _ _));(first|(refine ObR.mk _ zw ?_)|(refine ObR.map zX (fun x hx=>?_))|(refine ObR.mk _ rfl ?_)))|((refine ObC.f 15 ?_);(refine ObC.mk _ (hm) ?_))|((with_reducible refine ObO.l ?_);(refine ObN.mk ?_ ?_);(exact ZQ))|((with_reducible refine ObO.r ?_);(refine ObN.mk ?_ ?_);(focus (first|omega|(simp;done))))|((with_reducible refine ObW.nil ?_ ?_);exact zE)|((with_reducible refine ObW.cons ?_ ?_);(focus (first|assumption|(simp;done))))|((with_reducible refine ObJ.zz ?_))|((with_reducible refine ObJ.nz ?_ ?_);exact zX)|((with_reducible refine ObJ.zn ?_ ?_);exact zX)|((with_reducible refine ObJ.nn ?_ ?_ ?_);exact zX;exact zX)|((with_reducible refine ObJ.lz ?_ ?_);exact zX)|((with_reducible refine ObJ.zl ?_ ?_);exact zX)|((with_reducible refine ObJ.nl ?_ ?_ ?_);exact zX;exact zX)|((with_reducible refine ObJ.ln ?_ ?_ ?_);exact zX;exact zX)|((with_reducible refine ObJ.ll ?_ ?_ ?_);exact zX;exact zX)|((with_reducible refine (?_:ObG _ _ _ _));(refine ObG.nz zX _ (by first|rfl) ?_))|((with_reducible refine (?_:ObG _ _ _ _));(refine ObG.zn zX _ (by first|rfl) ?_))|((with_reducible refine (?_:ObG _ _ _ _));(refine ObG.nn zX zX _ (by first|rfl) ?_))|((with_reducible refine (?_:ObG _ _ _ _));(refine ObG.lz zX _ (by first|rfl) ?_))|((with_reducible refine (?_:ObG _ _ _ _));(refine ObG.zl zX _ (by first|rfl) ?_))|((with_reducible refine (?_:ObG _ _ _ _));(refine ObG.nl zX zX _ (by first|rfl) ?_))|((with_reducible refine (?_:ObG _ _ _ _));(refine ObG.ln zX zX _ (by first|rfl) ?_))|((with_reducible refine (?_:ObG _ _ _ _));(refine ObG.ll zX zX _ (by first|rfl) ?_))|((with_reducible refine ObQ.mk _ rfl ?_ ?_);exact zX)|((with_reducible refine ObEq.i ?_);exact zF)|((refine ObEq.mk ?_);exact zE)|(exact ObEnd.eq rfl rfl)|((with_reducible refine ObSt.live ?_ ?_);(focus (first|trivial|(refine ⟨rfl,?_⟩;first|omega|(exact Nat.le_refl _)))))|(with_reducible refine ObSt.stale ?_)|((with_reducible refine ObRn.mk ?_ ?_);(focus (first|rfl|(simp [rnB,rnC,rnL];done))))|((with_reducible refine ObRow.same ?_ ?_ ?_);exact zE;(focus (first|rfl|assumption|(simp;done))))|((with_reducible refine ObRow.lit ?_ ?_);(focus (first|rfl|(simp [rnB,rnC,rnL];done))))|((refine ObEqs.mk ?_ ?_);rfl)|((with_reducible refine ObEq1.i ?_ ?_);exact zF)|((with_reducible refine ObEq1.o ?_ ?_);exact zF)|((with_reducible refine ObEq1.mk ?_ ?_);exact zE)|exact True.intro|(with_reducible first|refine ObE.min ?_|refine ObE.max ?_))
  conv=>whnf
  refine SeqX.sp (SeqP.go ?_)
  repeat' ((conv=>whnf);first|exact SameP.mk rfl rfl|(with_reducible first|refine ObAnd.mk ?_ ?_|refine ObDx.same ?_)|((refine ObD.mk ?_ ?_);exact zD)|((refine ObN.mk ?_ ?_);exact zN)|(with_reducible first|refine ObT.tt ?_|refine ObT.ff ?_)|((with_reducible refine ObT.yes ?_ ?_);assumption)|((with_reducible refine ObT.no ?_ ?_);assumption)|((with_reducible refine ObT.yes ?_ ?_);(focus (refine decide_eq_true ?_;first|assumption|omega)))|((with_reducible refine ObT.no ?_ ?_);(focus (refine decide_eq_false ?_;first|assumption|omega)))|(with_reducible first|refine ObT.dec (fun h=>?_) (fun h=>?_)|refine ObT.mk (fun h=>?_) (fun h=>?_))|((refine ObB.yes ?_ ?_);exact zB)|((refine ObB.no ?_ ?_);exact zC)|(with_reducible refine ObB.mk (fun h=>?_) (fun h=>?_))|((with_reducible refine ObI.nn ?_ ?_);omega)|((with_reducible refine ObI.nl ?_ ?_);omega)|((with_reducible refine ObI.sn ?_ ?_ ?_);omega;omega)|((with_reducible refine ObI.sl ?_ ?_ ?_);omega;omega)|((with_reducible refine ObI.dl ?_ ?_);omega)|((with_reducible refine ObI.mk _ rfl ?_ ?_ ?_);omega;omega)|((with_reducible refine ObZ.wu ?_ ?_);omega)|((with_reducible refine ObZ.wi ?_ ?_ ?_);omega;omega)|(with_reducible first|refine ObZ.ml ?_|refine ObZ.mn ?_|refine ObZ.mk _ rfl ?_)|((refine ObX.mk _ rfl ?_ ?_);exact zX)|((with_reducible refine ObX.lit ?_ ?_);exact zX)|((with_reducible refine ObX.int ?_ ?_ ?_);exact zX;exact zX)|((with_reducible refine ObY.mk _ rfl ?_ ?_);exact zX)|((with_reducible refine ObY.lit ?_ ?_);exact zX)|((with_reducible refine ObY.int ?_ ?_ ?_);exact zX;exact zX)|((with_reducible refine (?_:ObL _ _));(refine ObL.mk _ zM ?_))|((with_reducible refine (?_:ObU _ _));(refine ObU.mk _ zU ?_))|(with_reducible refine ObS.mk _ rfl ?_)|((with_reducible refine (?_:ObR _ _ _));(first|(refine ObR.mk _ zw ?_)|(refine ObR.map zX (fun x hx=>?_))|(refine ObR.mk _ rfl ?_)))|((refine ObC.f 15 ?_);(refine ObC.mk _ (hm) ?_))|((with_reducible refine ObO.l ?_);(refine ObN.mk ?_ ?_);(exact ZQ))|((with_reducible refine ObO.r ?_);(refine ObN.mk ?_ ?_);(focus (first|omega|(simp;done))))|((with_reducible refine ObW.nil ?_ ?_);exact zE)|((with_reducible refine ObW.cons ?_ ?_);(focus (first|assumption|(simp;done))))|((with_reducible refine ObJ.zz ?_))|((with_reducible refine ObJ.nz ?_ ?_);exact zX)|((with_reducible refine ObJ.zn ?_ ?_);exact zX)|((with_reducible refine ObJ.nn ?_ ?_ ?_);exact zX;exact zX)|((with_reducible refine ObJ.lz ?_ ?_);exact zX)|((with_reducible refine ObJ.zl ?_ ?_);exact zX)|((with_reducible refine ObJ.nl ?_ ?_ ?_);exact zX;exact zX)|((with_reducible refine ObJ.ln ?_ ?_ ?_);exact zX;exact zX)|((with_reducible refine ObJ.ll ?_ ?_ ?_);exact zX;exact zX)|((with_reducible refine (?_:ObG _ _ _ _));(refine ObG.nz zX _ (by first|rfl) ?_))|((with_reducible refine (?_:ObG _ _ _ _));(refine ObG.zn zX _ (by first|rfl) ?_))|((with_reducible refine (?_:ObG _ _ _ _));(refine ObG.nn zX zX _ (by first|rfl) ?_))|((with_reducible refine (?_:ObG _ _ _ _));(refine ObG.lz zX _ (by first|rfl) ?_))|((with_reducible refine (?_:ObG _ _ _ _));(refine ObG.zl zX _ (by first|rfl) ?_))|((with_reducible refine (?_:ObG _ _ _ _));(refine ObG.nl zX zX _ (by first|rfl) ?_))|((with_reducible refine (?_:ObG _ _ _ _));(refine ObG.ln zX zX _ (by first|rfl) ?_))|((with_reducible refine (?_:ObG _ _ _ _));(refine ObG.ll zX zX _ (by first|rfl) ?_))|((with_reducible refine ObQ.mk _ rfl ?_ ?_);exact zX)|((with_reducible refine ObEq.i ?_);exact zF)|((refine ObEq.mk ?_);exact zE)|(exact ObEnd.eq rfl rfl)|((with_reducible refine ObSt.live ?_ ?_);(focus (first|trivial|(refine ⟨rfl,?_⟩;first|omega|(exact Nat.le_refl _)))))|(with_reducible refine ObSt.stale ?_)|((with_reducible refine ObRn.mk ?_ ?_);(focus (first|rfl|(simp [rnB,rnC,rnL];done))))|((with_reducible refine ObRow.same ?_ ?_ ?_);exact zE;(focus (first|rfl|assumption|(simp;done))))|((with_reducible refine ObRow.lit ?_ ?_);(focus (first|rfl|(simp [rnB,rnC,rnL];done))))|((refine ObEqs.mk ?_ ?_);rfl)|((with_reducible refine ObEq1.i ?_ ?_);exact zF)|((with_reducible refine ObEq1.o ?_ ?_);exact zF)|((with_reducible refine ObEq1.mk ?_ ?_);exact zE)|exact True.intro|(with_reducible first|refine ObE.min ?_|refine ObE.max ?_))
  conv=>whnf
  refine SeqX.sp (SeqP.go ?_)
  repeat' ((conv=>whnf);first|exact SameP.mk rfl rfl|(with_reducible first|refine ObAnd.mk ?_ ?_|refine ObDx.same ?_)|((refine ObD.mk ?_ ?_);exact zD)|((refine ObN.mk ?_ ?_);exact zN)|(with_reducible first|refine ObT.tt ?_|refine ObT.ff ?_)|((with_reducible refine ObT.yes ?_ ?_);assumption)|((with_reducible refine ObT.no ?_ ?_);assumption)|((with_reducible refine ObT.yes ?_ ?_);(focus (refine decide_eq_true ?_;first|assumption|omega)))|((with_reducible refine ObT.no ?_ ?_);(focus (refine decide_eq_false ?_;first|assumption|omega)))|(with_reducible first|refine ObT.dec (fun h=>?_) (fun h=>?_)|refine ObT.mk (fun h=>?_) (fun h=>?_))|((refine ObB.yes ?_ ?_);exact zB)|((refine ObB.no ?_ ?_);exact zC)|(with_reducible refine ObB.mk (fun h=>?_) (fun h=>?_))|((with_reducible refine ObI.nn ?_ ?_);omega)|((with_reducible refine ObI.nl ?_ ?_);omega)|((with_reducible refine ObI.sn ?_ ?_ ?_);omega;omega)|((with_reducible refine ObI.sl ?_ ?_ ?_);omega;omega)|((with_reducible refine ObI.dl ?_ ?_);omega)|((with_reducible refine ObI.mk _ rfl ?_ ?_ ?_);omega;omega)|((with_reducible refine ObZ.wu ?_ ?_);omega)|((with_reducible refine ObZ.wi ?_ ?_ ?_);omega;omega)|(with_reducible first|refine ObZ.ml ?_|refine ObZ.mn ?_|refine ObZ.mk _ rfl ?_)|((refine ObX.mk _ rfl ?_ ?_);exact zX)|((with_reducible refine ObX.lit ?_ ?_);exact zX)|((with_reducible refine ObX.int ?_ ?_ ?_);exact zX;exact zX)|((with_reducible refine ObY.mk _ rfl ?_ ?_);exact zX)|((with_reducible refine ObY.lit ?_ ?_);exact zX)|((with_reducible refine ObY.int ?_ ?_ ?_);exact zX;exact zX)|((with_reducible refine (?_:ObL _ _));(refine ObL.mk _ zM ?_))|((with_reducible refine (?_:ObU _ _));(refine ObU.mk _ zU ?_))|(with_reducible refine ObS.mk _ rfl ?_)|((with_reducible refine (?_:ObR _ _ _));(first|(refine ObR.mk _ zw ?_)|(refine ObR.map zX (fun x hx=>?_))|(refine ObR.mk _ rfl ?_)))|((refine ObC.f 15 ?_);(refine ObC.mk _ (hm) ?_))|((with_reducible refine ObO.l ?_);(refine ObN.mk ?_ ?_);(exact ZQ))|((with_reducible refine ObO.r ?_);(refine ObN.mk ?_ ?_);(focus (first|omega|(simp;done))))|((with_reducible refine ObW.nil ?_ ?_);exact zE)|((with_reducible refine ObW.cons ?_ ?_);(focus (first|assumption|(simp;done))))|((with_reducible refine ObJ.zz ?_))|((with_reducible refine ObJ.nz ?_ ?_);exact zX)|((with_reducible refine ObJ.zn ?_ ?_);exact zX)|((with_reducible refine ObJ.nn ?_ ?_ ?_);exact zX;exact zX)|((with_reducible refine ObJ.lz ?_ ?_);exact zX)|((with_reducible refine ObJ.zl ?_ ?_);exact zX)|((with_reducible refine ObJ.nl ?_ ?_ ?_);exact zX;exact zX)|((with_reducible refine ObJ.ln ?_ ?_ ?_);exact zX;exact zX)|((with_reducible refine ObJ.ll ?_ ?_ ?_);exact zX;exact zX)|((with_reducible refine (?_:ObG _ _ _ _));(refine ObG.nz zX _ (by first|rfl) ?_))|((with_reducible refine (?_:ObG _ _ _ _));(refine ObG.zn zX _ (by first|rfl) ?_))|((with_reducible refine (?_:ObG _ _ _ _));(refine ObG.nn zX zX _ (by first|rfl) ?_))|((with_reducible refine (?_:ObG _ _ _ _));(refine ObG.lz zX _ (by first|rfl) ?_))|((with_reducible refine (?_:ObG _ _ _ _));(refine ObG.zl zX _ (by first|rfl) ?_))|((with_reducible refine (?_:ObG _ _ _ _));(refine ObG.nl zX zX _ (by first|rfl) ?_))|((with_reducible refine (?_:ObG _ _ _ _));(refine ObG.ln zX zX _ (by first|rfl) ?_))|((with_reducible refine (?_:ObG _ _ _ _));(refine ObG.ll zX zX _ (by first|rfl) ?_))|((with_reducible refine ObQ.mk _ rfl ?_ ?_);exact zX)|((with_reducible refine ObEq.i ?_);exact zF)|((refine ObEq.mk ?_);exact zE)|(exact ObEnd.eq rfl rfl)|((with_reducible refine ObSt.live ?_ ?_);(focus (first|trivial|(refine ⟨rfl,?_⟩;first|omega|(exact Nat.le_refl _)))))|(with_reducible refine ObSt.stale ?_)|((with_reducible refine ObRn.mk ?_ ?_);(focus (first|rfl|(simp [rnB,rnC,rnL];done))))|((with_reducible refine ObRow.same ?_ ?_ ?_);exact zE;(focus (first|rfl|assumption|(simp;done))))|((with_reducible refine ObRow.lit ?_ ?_);(focus (first|rfl|(simp [rnB,rnC,rnL];done))))|((refine ObEqs.mk ?_ ?_);rfl)|((with_reducible refine ObEq1.i ?_ ?_);exact zF)|((with_reducible refine ObEq1.o ?_ ?_);exact zF)|((with_reducible refine ObEq1.mk ?_ ?_);exact zE)|exact True.intro|(with_reducible first|refine ObE.min ?_|refine ObE.max ?_))
  conv=>whnf
  refine SeqX.fe 0 0 [false,true] ?_
  repeat' ((conv=>whnf);first|(refine SeqP.go ?_)|exact SameP.mk rfl rfl|(with_reducible first|refine ObAnd.mk ?_ ?_|refine ObDx.same ?_|refine SeqX.sp ?_)|((refine ObD.mk ?_ ?_);exact zD)|((refine ObN.mk ?_ ?_);exact zN)|(with_reducible first|refine ObT.tt ?_|refine ObT.ff ?_)|((with_reducible refine ObT.yes ?_ ?_);assumption)|((with_reducible refine ObT.no ?_ ?_);assumption)|((with_reducible refine ObT.yes ?_ ?_);(focus (refine decide_eq_true ?_;first|assumption|omega)))|((with_reducible refine ObT.no ?_ ?_);(focus (refine decide_eq_false ?_;first|assumption|omega)))|(with_reducible first|refine ObT.dec (fun h=>?_) (fun h=>?_)|refine ObT.mk (fun h=>?_) (fun h=>?_))|((refine ObB.yes ?_ ?_);exact zB)|((refine ObB.no ?_ ?_);exact zC)|(with_reducible refine ObB.mk (fun h=>?_) (fun h=>?_))|((with_reducible refine ObI.nn ?_ ?_);omega)|((with_reducible refine ObI.nl ?_ ?_);omega)|((with_reducible refine ObI.sn ?_ ?_ ?_);omega;omega)|((with_reducible refine ObI.sl ?_ ?_ ?_);omega;omega)|((with_reducible refine ObI.dl ?_ ?_);omega)|((with_reducible refine ObI.mk _ rfl ?_ ?_ ?_);omega;omega)|((with_reducible refine ObZ.wu ?_ ?_);omega)|((with_reducible refine ObZ.wi ?_ ?_ ?_);omega;omega)|(with_reducible first|refine ObZ.ml ?_|refine ObZ.mn ?_|refine ObZ.mk _ rfl ?_)|((refine ObX.mk _ rfl ?_ ?_);exact zX)|((with_reducible refine ObX.lit ?_ ?_);exact zX)|((with_reducible refine ObX.int ?_ ?_ ?_);exact zX;exact zX)|((with_reducible refine ObY.mk _ rfl ?_ ?_);exact zX)|((with_reducible refine ObY.lit ?_ ?_);exact zX)|((with_reducible refine ObY.int ?_ ?_ ?_);exact zX;exact zX)|((with_reducible refine (?_:ObL _ _));(refine ObL.mk _ zM ?_))|((with_reducible refine (?_:ObU _ _));(refine ObU.mk _ zU ?_))|(with_reducible refine ObS.mk _ rfl ?_)|((with_reducible refine (?_:ObR _ _ _));(first|(refine ObR.mk _ zw ?_)|(refine ObR.map zX (fun x hx=>?_))|(refine ObR.mk _ rfl ?_)))|((with_reducible refine ObO.l ?_);(refine ObN.mk ?_ ?_);(exact ZQ))|((with_reducible refine ObO.r ?_);(refine ObN.mk ?_ ?_);(focus (first|omega|(simp;done))))|((with_reducible refine ObW.nil ?_ ?_);exact zE)|((with_reducible refine ObW.cons ?_ ?_);(focus (first|assumption|(simp;done))))|((with_reducible refine ObJ.zz ?_))|((with_reducible refine ObJ.nz ?_ ?_);exact zX)|((with_reducible refine ObJ.zn ?_ ?_);exact zX)|((with_reducible refine ObJ.nn ?_ ?_ ?_);exact zX;exact zX)|((with_reducible refine ObJ.lz ?_ ?_);exact zX)|((with_reducible refine ObJ.zl ?_ ?_);exact zX)|((with_reducible refine ObJ.nl ?_ ?_ ?_);exact zX;exact zX)|((with_reducible refine ObJ.ln ?_ ?_ ?_);exact zX;exact zX)|((with_reducible refine ObJ.ll ?_ ?_ ?_);exact zX;exact zX)|((with_reducible refine (?_:ObG _ _ _ _));(refine ObG.nz zX _ (by first|rfl) ?_))|((with_reducible refine (?_:ObG _ _ _ _));(refine ObG.zn zX _ (by first|rfl) ?_))|((with_reducible refine (?_:ObG _ _ _ _));(refine ObG.nn zX zX _ (by first|rfl) ?_))|((with_reducible refine (?_:ObG _ _ _ _));(refine ObG.lz zX _ (by first|rfl) ?_))|((with_reducible refine (?_:ObG _ _ _ _));(refine ObG.zl zX _ (by first|rfl) ?_))|((with_reducible refine (?_:ObG _ _ _ _));(refine ObG.nl zX zX _ (by first|rfl) ?_))|((with_reducible refine (?_:ObG _ _ _ _));(refine ObG.ln zX zX _ (by first|rfl) ?_))|((with_reducible refine (?_:ObG _ _ _ _));(refine ObG.ll zX zX _ (by first|rfl) ?_))|((with_reducible refine ObQ.mk _ rfl ?_ ?_);exact zX)|((with_reducible refine ObEq.i ?_);exact zF)|((refine ObEq.mk ?_);exact zE)|(exact ObEnd.eq rfl rfl)|((with_reducible refine ObSt.live ?_ ?_);(focus (first|trivial|(refine ⟨rfl,?_⟩;first|omega|(exact Nat.le_refl _)))))|(with_reducible refine ObSt.stale ?_)|((with_reducible refine ObRn.mk ?_ ?_);(focus (first|rfl|(simp [rnB,rnC,rnL];done))))|((with_reducible refine ObRow.same ?_ ?_ ?_);exact zE;(focus (first|rfl|assumption|(simp;done))))|((with_reducible refine ObRow.lit ?_ ?_);(focus (first|rfl|(simp [rnB,rnC,rnL];done))))|((refine ObEqs.mk ?_ ?_);rfl)|((with_reducible refine ObEq1.i ?_ ?_);exact zF)|((with_reducible refine ObEq1.o ?_ ?_);exact zF)|((with_reducible refine ObEq1.mk ?_ ?_);exact zE)|exact True.intro|(with_reducible first|refine ObE.min ?_|refine ObE.max ?_))
 ·have hc' := hc.symm
  simp only [okR,Bool.and_eq_true,decide_eq_true_eq] at hc'
  obtain ⟨⟨h0,h1⟩,hh⟩:=hc'
  obtain ⟨n,rfl⟩:∃ n:Nat,r=(n:Int):=⟨r.toNat,by omega⟩
  have hd:=desc31 G h hl hx hh n (by omega)
  simp only [eo,if_true,Int.toNat_natCast] at hm ⊢
  have hp:=p_i (rl h (n:Int) n)
  refine zo cop27 ?_
  repeat' ((conv=>whnf);first|(refine SeqP.go ?_)|exact SameP.mk rfl rfl|(with_reducible first|refine ObAnd.mk ?_ ?_|refine ObDx.same ?_)|((refine ObD.mk ?_ ?_);exact zD)|((refine ObN.mk ?_ ?_);exact zN)|(with_reducible first|refine ObT.tt ?_|refine ObT.ff ?_)|((with_reducible refine ObT.yes ?_ ?_);assumption)|((with_reducible refine ObT.no ?_ ?_);assumption)|((with_reducible refine ObT.yes ?_ ?_);(focus (refine decide_eq_true ?_;first|assumption|omega)))|((with_reducible refine ObT.no ?_ ?_);(focus (refine decide_eq_false ?_;first|assumption|omega)))|(with_reducible first|refine ObT.dec (fun h=>?_) (fun h=>?_)|refine ObT.mk (fun h=>?_) (fun h=>?_))|((refine ObB.yes ?_ ?_);exact zB)|((refine ObB.no ?_ ?_);exact zC)|(with_reducible refine ObB.mk (fun h=>?_) (fun h=>?_))|((with_reducible refine ObI.nn ?_ ?_);omega)|((with_reducible refine ObI.nl ?_ ?_);omega)|((with_reducible refine ObI.sn ?_ ?_ ?_);omega;omega)|((with_reducible refine ObI.sl ?_ ?_ ?_);omega;omega)|((with_reducible refine ObI.dl ?_ ?_);omega)|((with_reducible refine ObI.mk _ rfl ?_ ?_ ?_);omega;omega)|((with_reducible refine ObZ.wu ?_ ?_);omega)|((with_reducible refine ObZ.wi ?_ ?_ ?_);omega;omega)|(with_reducible first|refine ObZ.ml ?_|refine ObZ.mn ?_|refine ObZ.mk _ rfl ?_)|((refine ObX.mk _ rfl ?_ ?_);exact zX)|((with_reducible refine ObX.lit ?_ ?_);exact zX)|((with_reducible refine ObX.int ?_ ?_ ?_);exact zX;exact zX)|((with_reducible refine ObY.mk _ rfl ?_ ?_);exact zX)|((with_reducible refine ObY.lit ?_ ?_);exact zX)|((with_reducible refine ObY.int ?_ ?_ ?_);exact zX;exact zX)|((with_reducible refine (?_:ObL _ _));(refine ObL.mk _ zM ?_))|((with_reducible refine (?_:ObU _ _));(refine ObU.mk _ zU ?_))|(with_reducible refine ObS.mk _ rfl ?_)|((with_reducible refine (?_:ObR _ _ _));(first|(refine ObR.mk _ zw ?_)|(refine ObR.map zX (fun x hx=>?_))|(refine ObR.mk _ rfl ?_)))|((refine ObC.f 15 ?_);(refine ObC.mk _ (hm) ?_))|((refine ObC.f 38 ?_);(refine ObC.mk _ (hd) ?_))|((with_reducible refine ObO.l ?_);(refine ObN.mk ?_ ?_);(exact ZQ))|((with_reducible refine ObO.r ?_);(refine ObN.mk ?_ ?_);(focus (first|omega|(simp;done))))|((with_reducible refine ObW.nil ?_ ?_);exact zE)|((with_reducible refine ObW.cons ?_ ?_);(focus (first|assumption|(simp;done))))|((with_reducible refine ObJ.zz ?_))|((with_reducible refine ObJ.nz ?_ ?_);exact zX)|((with_reducible refine ObJ.zn ?_ ?_);exact zX)|((with_reducible refine ObJ.nn ?_ ?_ ?_);exact zX;exact zX)|((with_reducible refine ObJ.lz ?_ ?_);exact zX)|((with_reducible refine ObJ.zl ?_ ?_);exact zX)|((with_reducible refine ObJ.nl ?_ ?_ ?_);exact zX;exact zX)|((with_reducible refine ObJ.ln ?_ ?_ ?_);exact zX;exact zX)|((with_reducible refine ObJ.ll ?_ ?_ ?_);exact zX;exact zX)|((with_reducible refine (?_:ObG _ _ _ _));(refine ObG.nz zX _ (by first|rfl) ?_))|((with_reducible refine (?_:ObG _ _ _ _));(refine ObG.zn zX _ (by first|rfl) ?_))|((with_reducible refine (?_:ObG _ _ _ _));(refine ObG.nn zX zX _ (by first|rfl) ?_))|((with_reducible refine (?_:ObG _ _ _ _));(refine ObG.lz zX _ (by first|rfl) ?_))|((with_reducible refine (?_:ObG _ _ _ _));(refine ObG.zl zX _ (by first|rfl) ?_))|((with_reducible refine (?_:ObG _ _ _ _));(refine ObG.nl zX zX _ (by first|rfl) ?_))|((with_reducible refine (?_:ObG _ _ _ _));(refine ObG.ln zX zX _ (by first|rfl) ?_))|((with_reducible refine (?_:ObG _ _ _ _));(refine ObG.ll zX zX _ (by first|rfl) ?_))|((with_reducible refine ObQ.mk _ rfl ?_ ?_);exact zX)|((with_reducible refine ObEq.i ?_);exact zF)|((refine ObEq.mk ?_);exact zE)|(exact ObEnd.eq rfl rfl)|((with_reducible refine ObSt.live ?_ ?_);(focus (first|trivial|(refine ⟨rfl,?_⟩;first|omega|(exact Nat.le_refl _)))))|(with_reducible refine ObSt.stale ?_)|((with_reducible refine ObRn.mk ?_ ?_);(focus (first|rfl|(simp [rnB,rnC,rnL];done))))|((with_reducible refine ObRow.same ?_ ?_ ?_);exact zE;(focus (first|rfl|assumption|(simp;done))))|((with_reducible refine ObRow.lit ?_ ?_);(focus (first|rfl|(simp [rnB,rnC,rnL];done))))|((refine ObEqs.mk ?_ ?_);rfl)|((with_reducible refine ObEq1.i ?_ ?_);exact zF)|((with_reducible refine ObEq1.o ?_ ?_);exact zF)|((with_reducible refine ObEq1.mk ?_ ?_);exact zE)|exact True.intro|(with_reducible first|refine ObE.min ?_|refine ObE.max ?_))
set_option maxHeartbeats 4000000 in
theorem count13 (h:List Nd) (hl:h.length<=1000) (hx:∀ x ∈ h,x.Ok) (r:Int) (c:Bool) (hc:c=okR h r):PC Tryd.prog G 11 [.sl 9 (h.map nA),I r] (.tup [I ((rL h r c).length:Nat),I (eo c)]):=by
 have hm:=may21 G h hl hx r c hc
 have hR:=refs15 G h hl hx r c hc
 have hLl:=rL_len hc
 have hS:=fun hL=>seq32 G (rL h r c) hL
 generalize rL h r c=L at *
 refine pc_ofX cop11 ?_
 repeat' ((conv=>whnf);first|(refine SeqP.go ?_)|exact SameP.mk rfl rfl|(with_reducible first|refine ObAnd.mk ?_ ?_|refine ObDx.same ?_|refine SeqX.sp ?_)|((refine ObD.mk ?_ ?_);exact zD)|((refine ObN.mk ?_ ?_);exact zN)|(with_reducible first|refine ObT.tt ?_|refine ObT.ff ?_)|((with_reducible refine ObT.yes ?_ ?_);assumption)|((with_reducible refine ObT.no ?_ ?_);assumption)|((with_reducible refine ObT.yes ?_ ?_);(focus (refine decide_eq_true ?_;first|assumption|omega)))|((with_reducible refine ObT.no ?_ ?_);(focus (refine decide_eq_false ?_;first|assumption|omega)))|(with_reducible first|refine ObT.dec (fun h=>?_) (fun h=>?_)|refine ObT.mk (fun h=>?_) (fun h=>?_))|((refine ObB.yes ?_ ?_);exact zB)|((refine ObB.no ?_ ?_);exact zC)|(with_reducible refine ObB.mk (fun h=>?_) (fun h=>?_))|((with_reducible refine ObI.nn ?_ ?_);omega)|((with_reducible refine ObI.nl ?_ ?_);omega)|((with_reducible refine ObI.sn ?_ ?_ ?_);omega;omega)|((with_reducible refine ObI.sl ?_ ?_ ?_);omega;omega)|((with_reducible refine ObI.dl ?_ ?_);omega)|((with_reducible refine ObI.mk _ rfl ?_ ?_ ?_);omega;omega)|((with_reducible refine ObZ.wu ?_ ?_);omega)|((with_reducible refine ObZ.wi ?_ ?_ ?_);omega;omega)|(with_reducible first|refine ObZ.ml ?_|refine ObZ.mn ?_|refine ObZ.mk _ rfl ?_)|((refine ObX.mk _ rfl ?_ ?_);exact zX)|((with_reducible refine ObX.lit ?_ ?_);exact zX)|((with_reducible refine ObX.int ?_ ?_ ?_);exact zX;exact zX)|((with_reducible refine ObY.mk _ rfl ?_ ?_);exact zX)|((with_reducible refine ObY.lit ?_ ?_);exact zX)|((with_reducible refine ObY.int ?_ ?_ ?_);exact zX;exact zX)|((with_reducible refine (?_:ObL _ _));(refine ObL.mk _ zM ?_))|((with_reducible refine (?_:ObU _ _));(refine ObU.mk _ zU ?_))|(with_reducible refine ObS.mk _ rfl ?_)|((with_reducible refine (?_:ObR _ _ _));(first|(refine ObR.mk _ zw ?_)|(refine ObR.map zX (fun x hx=>?_))|(refine ObR.mk _ rfl ?_)))|((refine ObC.f 27 ?_);(refine ObC.mk _ (hR) ?_))|((with_reducible refine ObO.l ?_);(refine ObN.mk ?_ ?_);(exact ZQ))|((with_reducible refine ObO.r ?_);(refine ObN.mk ?_ ?_);(focus (first|omega|(simp;done))))|((with_reducible refine ObW.nil ?_ ?_);exact zE)|((with_reducible refine ObW.cons ?_ ?_);(focus (first|assumption|(simp;done))))|((with_reducible refine ObJ.zz ?_))|((with_reducible refine ObJ.nz ?_ ?_);exact zX)|((with_reducible refine ObJ.zn ?_ ?_);exact zX)|((with_reducible refine ObJ.nn ?_ ?_ ?_);exact zX;exact zX)|((with_reducible refine ObJ.lz ?_ ?_);exact zX)|((with_reducible refine ObJ.zl ?_ ?_);exact zX)|((with_reducible refine ObJ.nl ?_ ?_ ?_);exact zX;exact zX)|((with_reducible refine ObJ.ln ?_ ?_ ?_);exact zX;exact zX)|((with_reducible refine ObJ.ll ?_ ?_ ?_);exact zX;exact zX)|((with_reducible refine (?_:ObG _ _ _ _));(refine ObG.nz zX _ (by first|rfl) ?_))|((with_reducible refine (?_:ObG _ _ _ _));(refine ObG.zn zX _ (by first|rfl) ?_))|((with_reducible refine (?_:ObG _ _ _ _));(refine ObG.nn zX zX _ (by first|rfl) ?_))|((with_reducible refine (?_:ObG _ _ _ _));(refine ObG.lz zX _ (by first|rfl) ?_))|((with_reducible refine (?_:ObG _ _ _ _));(refine ObG.zl zX _ (by first|rfl) ?_))|((with_reducible refine (?_:ObG _ _ _ _));(refine ObG.nl zX zX _ (by first|rfl) ?_))|((with_reducible refine (?_:ObG _ _ _ _));(refine ObG.ln zX zX _ (by first|rfl) ?_))|((with_reducible refine (?_:ObG _ _ _ _));(refine ObG.ll zX zX _ (by first|rfl) ?_))|((with_reducible refine ObQ.mk _ rfl ?_ ?_);exact zX)|((with_reducible refine ObEq.i ?_);exact zF)|((refine ObEq.mk ?_);exact zE)|(exact ObEnd.eq rfl rfl)|((with_reducible refine ObSt.live ?_ ?_);(focus (first|trivial|(refine ⟨rfl,?_⟩;first|omega|(exact Nat.le_refl _)))))|(with_reducible refine ObSt.stale ?_)|((with_reducible refine ObRn.mk ?_ ?_);(focus (first|rfl|(simp [rnB,rnC,rnL];done))))|((with_reducible refine ObRow.same ?_ ?_ ?_);exact zE;(focus (first|rfl|assumption|(simp;done))))|((with_reducible refine ObRow.lit ?_ ?_);(focus (first|rfl|(simp [rnB,rnC,rnL];done))))|((refine ObEqs.mk ?_ ?_);rfl)|((with_reducible refine ObEq1.i ?_ ?_);exact zF)|((with_reducible refine ObEq1.o ?_ ?_);exact zF)|((with_reducible refine ObEq1.mk ?_ ?_);exact zE)|exact True.intro|(with_reducible first|refine ObE.min ?_|refine ObE.max ?_))
 conv=>whnf
 refine RngP.mk 39 [.ad 1 [.sl 1 (L.map iA)] 0 0] (L.map iA) rfl rfl (hS (by omega)) Nat (fun k a=>a=k/\k<=L.length) (fun a=>[⟨3,1,[I (a:Nat)],0,0⟩]) 0 ⟨rfl,Nat.zero_le _⟩ _ (Fg.goS rfl) ?_ ?_
 ·rintro k a e ⟨rfl, hk⟩ he
  have hkl:a < L.length:=by
   have:=(List.getElem?_eq_some_iff.1 he).1
   simpa using this
  repeat' ((conv=>whnf);first|(refine SeqP.go ?_)|exact SameP.mk rfl rfl|(with_reducible first|refine ObAnd.mk ?_ ?_|refine ObDx.same ?_)|((refine ObD.mk ?_ ?_);exact zD)|((refine ObN.mk ?_ ?_);exact zN)|(with_reducible first|refine ObT.tt ?_|refine ObT.ff ?_)|((with_reducible refine ObT.yes ?_ ?_);assumption)|((with_reducible refine ObT.no ?_ ?_);assumption)|((with_reducible refine ObT.yes ?_ ?_);(focus (refine decide_eq_true ?_;first|assumption|omega)))|((with_reducible refine ObT.no ?_ ?_);(focus (refine decide_eq_false ?_;first|assumption|omega)))|(with_reducible first|refine ObT.dec (fun h=>?_) (fun h=>?_)|refine ObT.mk (fun h=>?_) (fun h=>?_))|((refine ObB.yes ?_ ?_);exact zB)|((refine ObB.no ?_ ?_);exact zC)|(with_reducible refine ObB.mk (fun h=>?_) (fun h=>?_))|((with_reducible refine ObI.nn ?_ ?_);omega)|((with_reducible refine ObI.nl ?_ ?_);omega)|((with_reducible refine ObI.sn ?_ ?_ ?_);omega;omega)|((with_reducible refine ObI.sl ?_ ?_ ?_);omega;omega)|((with_reducible refine ObI.dl ?_ ?_);omega)|((with_reducible refine ObI.mk _ rfl ?_ ?_ ?_);omega;omega)|((with_reducible refine ObZ.wu ?_ ?_);omega)|((with_reducible refine ObZ.wi ?_ ?_ ?_);omega;omega)|(with_reducible first|refine ObZ.ml ?_|refine ObZ.mn ?_|refine ObZ.mk _ rfl ?_)|((refine ObX.mk _ rfl ?_ ?_);exact zX)|((with_reducible refine ObX.lit ?_ ?_);exact zX)|((with_reducible refine ObX.int ?_ ?_ ?_);exact zX;exact zX)|((with_reducible refine ObY.mk _ rfl ?_ ?_);exact zX)|((with_reducible refine ObY.lit ?_ ?_);exact zX)|((with_reducible refine ObY.int ?_ ?_ ?_);exact zX;exact zX)|((with_reducible refine (?_:ObL _ _));(refine ObL.mk _ zL ?_))|((with_reducible refine (?_:ObU _ _));(refine ObU.mk _ zU ?_))|(with_reducible refine ObS.mk _ rfl ?_)|((with_reducible refine (?_:ObR _ _ _));(first|(refine ObR.mk _ zw ?_)|(refine ObR.map zX (fun x hx=>?_))|(refine ObR.mk _ rfl ?_)))|((with_reducible refine ObO.l ?_);(refine ObN.mk ?_ ?_);(exact ZQ))|((with_reducible refine ObO.r ?_);(refine ObN.mk ?_ ?_);(focus (first|omega|(simp;done))))|((with_reducible refine ObW.nil ?_ ?_);exact zE)|((with_reducible refine ObW.cons ?_ ?_);(focus (first|assumption|(simp;done))))|((with_reducible refine ObJ.zz ?_))|((with_reducible refine ObJ.nz ?_ ?_);exact zX)|((with_reducible refine ObJ.zn ?_ ?_);exact zX)|((with_reducible refine ObJ.nn ?_ ?_ ?_);exact zX;exact zX)|((with_reducible refine ObJ.lz ?_ ?_);exact zX)|((with_reducible refine ObJ.zl ?_ ?_);exact zX)|((with_reducible refine ObJ.nl ?_ ?_ ?_);exact zX;exact zX)|((with_reducible refine ObJ.ln ?_ ?_ ?_);exact zX;exact zX)|((with_reducible refine ObJ.ll ?_ ?_ ?_);exact zX;exact zX)|((with_reducible refine (?_:ObG _ _ _ _));(refine ObG.nz zX _ (by first|rfl) ?_))|((with_reducible refine (?_:ObG _ _ _ _));(refine ObG.zn zX _ (by first|rfl) ?_))|((with_reducible refine (?_:ObG _ _ _ _));(refine ObG.nn zX zX _ (by first|rfl) ?_))|((with_reducible refine (?_:ObG _ _ _ _));(refine ObG.lz zX _ (by first|rfl) ?_))|((with_reducible refine (?_:ObG _ _ _ _));(refine ObG.zl zX _ (by first|rfl) ?_))|((with_reducible refine (?_:ObG _ _ _ _));(refine ObG.nl zX zX _ (by first|rfl) ?_))|((with_reducible refine (?_:ObG _ _ _ _));(refine ObG.ln zX zX _ (by first|rfl) ?_))|((with_reducible refine (?_:ObG _ _ _ _));(refine ObG.ll zX zX _ (by first|rfl) ?_))|((with_reducible refine ObQ.mk _ rfl ?_ ?_);exact zX)|((with_reducible refine ObEq.i ?_);exact zF)|((refine ObEq.mk ?_);exact zE)|(exact ObEnd.eq rfl rfl)|((with_reducible refine ObSt.live ?_ ?_);(focus (first|trivial|(refine ⟨rfl,?_⟩;first|omega|(exact Nat.le_refl _)))))|(with_reducible refine ObSt.stale ?_)|((with_reducible refine ObRn.mk ?_ ?_);(focus (first|rfl|(simp [rnB,rnC,rnL];done))))|((with_reducible refine ObRow.same ?_ ?_ ?_);exact zE;(focus (first|rfl|assumption|(simp;done))))|((with_reducible refine ObRow.lit ?_ ?_);(focus (first|rfl|(simp [rnB,rnC,rnL];done))))|((refine ObEqs.mk ?_ ?_);rfl)|((with_reducible refine ObEq1.i ?_ ?_);exact zF)|((with_reducible refine ObEq1.o ?_ ?_);exact zF)|((with_reducible refine ObEq1.mk ?_ ?_);exact zE)|exact True.intro|(with_reducible first|refine ObE.min ?_|refine ObE.max ?_))
  conv=>whnf
  refine AgR.mk (a+1) ⟨rfl,by omega⟩ (Fg.goS rfl)
 ·rintro a ⟨ha, _⟩
  rw [List.length_map] at ha
  subst ha
  repeat' ((conv=>whnf);first|(refine SeqP.go ?_)|exact SameP.mk rfl rfl|(with_reducible first|refine ObAnd.mk ?_ ?_|refine ObDx.each ?_|refine SeqX.sp ?_)|((refine ObD.mk ?_ ?_);exact zD)|((refine ObN.mk ?_ ?_);exact zN)|(with_reducible first|refine ObT.tt ?_|refine ObT.ff ?_)|((with_reducible refine ObT.yes ?_ ?_);assumption)|((with_reducible refine ObT.no ?_ ?_);assumption)|((with_reducible refine ObT.yes ?_ ?_);(focus (refine decide_eq_true ?_;first|assumption|omega)))|((with_reducible refine ObT.no ?_ ?_);(focus (refine decide_eq_false ?_;first|assumption|omega)))|(with_reducible first|refine ObT.dec (fun h=>?_) (fun h=>?_)|refine ObT.mk (fun h=>?_) (fun h=>?_))|((refine ObB.yes ?_ ?_);exact zB)|((refine ObB.no ?_ ?_);exact zC)|(with_reducible refine ObB.mk (fun h=>?_) (fun h=>?_))|((with_reducible refine ObI.nn ?_ ?_);omega)|((with_reducible refine ObI.nl ?_ ?_);omega)|((with_reducible refine ObI.sn ?_ ?_ ?_);omega;omega)|((with_reducible refine ObI.sl ?_ ?_ ?_);omega;omega)|((with_reducible refine ObI.dl ?_ ?_);omega)|((with_reducible refine ObI.mk _ rfl ?_ ?_ ?_);omega;omega)|((with_reducible refine ObZ.wu ?_ ?_);omega)|((with_reducible refine ObZ.wi ?_ ?_ ?_);omega;omega)|(with_reducible first|refine ObZ.ml ?_|refine ObZ.mn ?_|refine ObZ.mk _ rfl ?_)|((refine ObX.mk _ rfl ?_ ?_);exact zX)|((with_reducible refine ObX.lit ?_ ?_);exact zX)|((with_reducible refine ObX.int ?_ ?_ ?_);exact zX;exact zX)|((with_reducible refine ObY.mk _ rfl ?_ ?_);exact zX)|((with_reducible refine ObY.lit ?_ ?_);exact zX)|((with_reducible refine ObY.int ?_ ?_ ?_);exact zX;exact zX)|((with_reducible refine (?_:ObL _ _));(refine ObL.mk _ zM ?_))|((with_reducible refine (?_:ObU _ _));(refine ObU.mk _ zU ?_))|(with_reducible refine ObS.mk _ rfl ?_)|((with_reducible refine (?_:ObR _ _ _));(first|(refine ObR.mk _ zw ?_)|(refine ObR.map zX (fun x hx=>?_))|(refine ObR.mk _ rfl ?_)))|((refine ObC.f 15 ?_);(refine ObC.mk _ (hm) ?_))|((with_reducible refine ObO.l ?_);(refine ObN.mk ?_ ?_);(exact ZQ))|((with_reducible refine ObO.r ?_);(refine ObN.mk ?_ ?_);(focus (first|omega|(simp;done))))|((with_reducible refine ObW.nil ?_ ?_);exact zE)|((with_reducible refine ObW.cons ?_ ?_);(focus (first|assumption|(simp;done))))|((with_reducible refine ObJ.zz ?_))|((with_reducible refine ObJ.nz ?_ ?_);exact zX)|((with_reducible refine ObJ.zn ?_ ?_);exact zX)|((with_reducible refine ObJ.nn ?_ ?_ ?_);exact zX;exact zX)|((with_reducible refine ObJ.lz ?_ ?_);exact zX)|((with_reducible refine ObJ.zl ?_ ?_);exact zX)|((with_reducible refine ObJ.nl ?_ ?_ ?_);exact zX;exact zX)|((with_reducible refine ObJ.ln ?_ ?_ ?_);exact zX;exact zX)|((with_reducible refine ObJ.ll ?_ ?_ ?_);exact zX;exact zX)|((with_reducible refine (?_:ObG _ _ _ _));(refine ObG.nz zX _ (by first|rfl) ?_))|((with_reducible refine (?_:ObG _ _ _ _));(refine ObG.zn zX _ (by first|rfl) ?_))|((with_reducible refine (?_:ObG _ _ _ _));(refine ObG.nn zX zX _ (by first|rfl) ?_))|((with_reducible refine (?_:ObG _ _ _ _));(refine ObG.lz zX _ (by first|rfl) ?_))|((with_reducible refine (?_:ObG _ _ _ _));(refine ObG.zl zX _ (by first|rfl) ?_))|((with_reducible refine (?_:ObG _ _ _ _));(refine ObG.nl zX zX _ (by first|rfl) ?_))|((with_reducible refine (?_:ObG _ _ _ _));(refine ObG.ln zX zX _ (by first|rfl) ?_))|((with_reducible refine (?_:ObG _ _ _ _));(refine ObG.ll zX zX _ (by first|rfl) ?_))|((with_reducible refine ObQ.mk _ rfl ?_ ?_);exact zX)|((with_reducible refine ObEq.i ?_);exact zF)|((refine ObEq.mk ?_);exact zE)|(exact ObEnd.eq rfl rfl)|((with_reducible refine ObSt.live ?_ ?_);(focus (first|trivial|(refine ⟨rfl,?_⟩;first|omega|(exact Nat.le_refl _)))))|(with_reducible refine ObSt.stale ?_)|((with_reducible refine ObRn.mk ?_ ?_);(focus (first|rfl|(simp [rnB,rnC,rnL];done))))|((with_reducible refine ObRow.same ?_ ?_ ?_);exact zE;(focus (first|rfl|assumption|(simp;done))))|((with_reducible refine ObRow.lit ?_ ?_);(focus (first|rfl|(simp [rnB,rnC,rnL];done))))|((refine ObEqs.mk ?_ ?_);rfl)|((with_reducible refine ObEq1.i ?_ ?_);exact zF)|((with_reducible refine ObEq1.o ?_ ?_);exact zF)|((with_reducible refine ObEq1.mk ?_ ?_);exact zE)|exact True.intro|(with_reducible first|refine ObE.min ?_|refine ObE.max ?_))
end
theorem rfs_take {h:List Nd} {n:Nat} {k:Int} (hk:k<=(n:Int)) (h0:0 < k):rfs (h.take n) k=rfs h k:=by
 unfold rfs
 rw [List.getElem?_take_of_lt (by omega)]
theorem Rch.pos {h:List Nd} {r k:Int} (hh:aH h h.length=true) (hk:Rch h r k):0 < k/\k<=r:=hk.bd hh
theorem Rch_take {h:List Nd} (hh:aH h h.length=true) {n:Nat} (hn:n<=h.length) {r k:Int} (hr:r<=(n:Int)):Rch (h.take n) r k↔Rch h r k:=by
 constructor
 ·intro hk
  induction hk with
  | base h0=>exact .base h0
  | step hk hc ih =>
   have b:=ih.bd hh
   rw [rfs_take (by omega) b.1] at hc
   exact .step ih hc
 ·intro hk
  induction hk with
  | base h0=>exact .base h0
  | step hk hc ih =>
   have b:=hk.bd hh
   refine .step ih ?_
   rw [rfs_take (by omega) b.1]
   exact hc
theorem rl_take {h:List Nd} (hh:aH h h.length=true) {n:Nat} (hn:n<=h.length) {r:Int} (hr:r<=(n:Int)):∀ m:Nat,rl (h.take n) r m=rl h r m:=by
 intro m
 induction m with
 | zero=>rfl
 | succ m ih =>
  have e:rc (h.take n) r ((m:Int)+1)=rc h r ((m:Int)+1):=by
   rw [Bool.eq_iff_iff,rc_iff,rc_iff]
   exact Rch_take hh hn hr
  rw [rl,rl,ih,e]
theorem flq_self (a:Nd):flq a a=true:=by simp [flq]
theorem shB_self {g:List Nd} (hg:OkL g) {m:Nat} (hm:m<=g.length):∀ (n:Nat) (r:Int),0<=r->r<=(n:Int)->r<=(m:Int)->shB (g.take m) g n r r=true:=by
 intro n
 induction n with
 | zero => intro r r0 rn _; obtain rfl : r = 0 := by omega
           rfl
 | succ n ih =>
  intro r r0 rn rm
  by_cases h0:r=0
  ·simp [shB,h0]
  obtain ⟨i,rfl⟩:∃ j:Nat,r=(j:Int)+1:=⟨(r - 1).toNat,by omega⟩
  have ei:((i:Int)+1 - 1).toNat=i:=by omega
  have hi:i < g.length:=by omega
  have h1:¬ ((i:Int)+1=0\/(i:Int)+1=0):=by omega
  simp only [shB,if_neg h1,ei,List.getElem?_take_of_lt (show i < m by omega),List.getElem?_eq_getElem hi]
  have ka:=hg i hi
  generalize g[i]=a at *
  rw [ih a.mn ka.mn.1 (by have:=ka.mn.2;omega) (by have:=ka.mn.2;omega),flq_self]
  have:(List.range a.kk.length).all (fun k=>shB (g.take m) g n (a.kk.getD k 0) (a.kk.getD k 0))=true:=List.all_eq_true.2 fun k hk=>by
   have h2:=List.mem_range.1 hk
   simp only [List.getD_eq_getElem?_getD,List.getElem?_eq_getElem h2,Option.getD_some]
   have:=ka.kk _ (List.getElem_mem h2)
   exact ih _ this.1 (by omega) (by omega)
  rw [this];simp
theorem fewL_pre:∀ {n w:Nat} {l m:List Nd},(∀ x ∈ l,x.Wd)->∃ t,Zf n w (Zf n w l++m)=Zf n w l++t:=by
 intro n
 induction n with
 | zero=>intro w l m _;exact ⟨[],by simp [Zf]⟩
 | succ n ih =>
  intro w l m hl
  cases l with
  | nil=>exact ⟨Zf (n+1) w m,by simp [Zf]⟩
  | cons y l =>
   have hy:yP (yP y)=yP y:=fewX_eq (xR (hl y (by simp)))
   by_cases h:3000 < w * mw (yP y)
   ·refine ⟨Zf (n + 1) w m, ?_⟩
    simp only [Zf,if_pos h,List.nil_append]
   ·obtain ⟨t,ht⟩:=ih (w:=w * mw (yP y)) (l:=l) (m:=m) (fun z hz=>hl z (List.mem_cons_of_mem _ hz))
    refine ⟨t,?_⟩
    simp only [Zf,if_neg h,List.cons_append,hy,ht]
section
variable (G:Nat->AV)
set_option maxHeartbeats 4000000 in
theorem few5o (l:List Nd) (hl:l.length<=9223372036854775807) (hx:∀ x ∈ l,x.Wd):HC Tryd.prog G 5 [.sl 9 (l.map nA)] [] (.ol 0 0 (Zf 12 1 l).length) [⟨40,9,(Zf 12 1 l).map nA,0,0⟩]:=by
 refine Zt cop5 rfl ?_
 repeat' ((conv=>whnf);first|(refine SeqP.go ?_)|((refine ObD.mk ?_ ?_);exact zD))
 conv=>whnf
 refine LoopP.go (α:=Nat × Nat × List Nd) (fun p=>p.1<=l.length/\p.1<=12/\p.2.1<=3000/\p.2.2.length=p.1/\p.2.2++Zf (12 - p.1) p.2.1 (l.drop p.1)=Zf 12 1 l) (fun p=>l.length - p.1) (fun p=>[(2,some (.nl 9)),(0,some (.ol 0 0 p.2.2.length)),(0,some (I p.2.1)),(0,some (I p.1)),(0,none),(0,none),(0,none),(0,none),(0,none),(0,none),(0,none),(0,none),(0,none),(0,none),(0,none),(0,none),(0,none),(0,none),(0,none),(0,none),(0,none),(0,none),(0,none),(0,none),(0,none),(0,none),(0,none),(0,none),(0,none),(0,none),(0,none),(0,none),(0,none),(0,none)]) (fun p=>[⟨40,9,p.2.2.map nA,0,0⟩]) (0,1,[]) ⟨Nat.zero_le _,Nat.zero_le _,by decide,rfl,rfl⟩ (Fg.go ?_ rfl) ?_
 ·repeat' ((conv=>whnf);first|((refine ObEqs.mk ?_ ?_);rfl)|((with_reducible refine ObEq1.i ?_ ?_);exact zF)|((with_reducible refine ObEq1.mk ?_ ?_);exact zE)|exact True.intro)
 rintro ⟨i,w,o⟩ ⟨hi,hi2,hw,hol,he⟩
 dsimp only at hi hi2 hw hol he ⊢
 have oa:=wV (l:=o)
 have op:=p_n o
 have r0:=wb o
 by_cases hil:i < l.length/\i < 12
 ·obtain ⟨hil, hil2⟩ := hil
  have hq:=XB hil
  have hf:=few9 G l[i] (hx _ (List.getElem_mem hil))
  have hok:=xR (hx _ (List.getElem_mem hil))
  have hat:=fewL_at (n:=11 - i) (w:=w) hil
  rw [show 11 - i+1=12 - i by omega] at hat
  rw [hat] at he
  clear hat
  generalize yP l[i]=y at *
  generalize l[i]=x at *
  have hrf:=refs32 G y hok
  have hrl:=xm hok
  have hmx:(if ((rfN y).length:Int) < 1 then (1:Int) else ((rfN y).length:Int))=((mw y:Nat):Int):=by unfold mw;split<;>omega
  have hml:mw y<=41:=by unfold mw;omega
  obtain ⟨W',hW⟩:∃ W':Nat,W'=w * mw y:=⟨_,rfl⟩
  rw [<- hW] at he
  have hWi:(w:Int) * (mw y:Int)=(W':Int):=by rw [hW];simp
  have hWl:W'<=123000:=by rw [hW];exact Nat.mul_le_mul hw hml
  have r1:=wb (o++[y])
  have us:(o.map nA).take o.length++[nA y]=(o++[y]).map nA:=n_snoc (l:=o)
  by_cases hz:3000 < W'
  ·rw [if_pos hz, List.append_nil] at he
   rw [<- he]
   repeat' ((conv=>whnf);first|(with_reducible first|refine SeqP.go ?_|refine ObZ.mk _ hmx ?_)|(rw [hWi])|((refine ObD.mk ?_ ?_);exact zD)|((refine ObN.mk ?_ ?_);exact zN)|(refine ObT.tt ?_)|((refine ObB.yes ?_ ?_);exact zB)|((with_reducible refine ObI.mk _ rfl ?_ ?_ ?_);omega;omega)|((refine ObX.mk _ rfl ?_ ?_);exact zX)|((with_reducible refine (?_:ObL _ _));(refine ObL.mk _ zM ?_))|((with_reducible refine (?_:ObU _ _));(refine ObU.mk _ zq4 ?_))|((with_reducible refine (?_:ObR _ _ _));(first|(refine ObR.mk _ zw ?_)|(refine ObR.map zX (fun x hx=>?_))|(refine ObR.mk _ rfl ?_)))|((refine ObC.f 13 ?_);(refine ObC.mk _ (hf) ?_))|((refine ObC.f 14 ?_);(refine ObC.mk _ (hrf) ?_))|(with_reducible refine ObE.max ?_))
   all_goals conv=>whnf
   all_goals refine ObEnd.vw [(0,0,0)] rfl ?_ (by simp) ?_
   all_goals repeat' ((conv=>whnf);first|((refine ObN.mk ?_ ?_);exact zN)|((with_reducible refine ObRow.same ?_ ?_ ?_);exact zE;(focus (first|rfl|assumption|(simp;done))))|exact True.intro)
  ·rw [if_neg hz] at he
   repeat' ((conv=>whnf);first|(with_reducible first|refine SeqP.go ?_|refine ObZ.mk _ hmx ?_)|(rw [hWi])|((refine ObD.mk ?_ ?_);exact zD)|((refine ObN.mk ?_ ?_);exact zN)|(with_reducible first|refine ObT.tt ?_|refine ObT.ff ?_)|((refine ObB.yes ?_ ?_);exact zB)|((refine ObB.no ?_ ?_);exact zC)|((with_reducible refine ObI.nl ?_ ?_);omega)|((with_reducible refine ObI.mk _ rfl ?_ ?_ ?_);omega;omega)|((refine ObX.mk _ rfl ?_ ?_);exact zX)|((with_reducible refine (?_:ObL _ _));(refine ObL.mk _ zM ?_))|((with_reducible refine (?_:ObU _ _));(refine ObU.mk _ zq4 ?_))|((with_reducible refine (?_:ObR _ _ _));(first|(refine ObR.mk _ zw ?_)|(refine ObR.map zX (fun x hx=>?_))|(refine ObR.mk _ rfl ?_)))|((refine ObC.f 13 ?_);(refine ObC.mk _ (hf) ?_))|((refine ObC.f 14 ?_);(refine ObC.mk _ (hrf) ?_))|(with_reducible refine ObE.max ?_))
   conv=>whnf
   refine Again.mk (i+1,W',o++[y]) ⟨by dsimp only;omega,by dsimp only;omega,by dsimp only;omega,by simp [hol],by dsimp only;rw [List.append_assoc,<- he,show 12 - (i+1)=11 - i by omega];rfl⟩ ?_ (Fg.vw [(0,0,1)] ?_ ?_ (by simp) ?_)
   ·dsimp only;omega
   all_goals repeat' ((conv=>whnf);first|((refine ObN.mk ?_ ?_);exact zN)|((with_reducible refine ObRn.mk ?_ ?_);(focus (first|rfl|(simp [rnB,rnC,rnL];done))))|((with_reducible refine ObRow.same ?_ ?_ ?_);exact zE;(focus (first|rfl|assumption|(simp;done))))|((refine ObEqs.mk ?_ ?_);rfl)|exact True.intro)
 ·have h0 : Zf (12 - i) w (l.drop i) = [] := by
   rcases Nat.lt_or_ge i l.length with h|h
   ·rw [show 12 - i=0 by omega,Zf]
   ·rw [List.drop_eq_nil_of_le h];cases 12 - i<;>rfl
  rw [h0,List.append_nil] at he
  rw [<- he]
  have hor:i=l.length\/(i < l.length/\i=12):=by omega
  rcases hor with hor|⟨hor,hor2⟩
  ·repeat' ((conv => whnf); first | (refine SeqP.go ?_) | ((refine ObN.mk ?_ ?_); exact zN) | (refine ObT.ff ?_) | ((refine ObB.no ?_ ?_); (exact zq22)) | ((with_reducible refine (?_ : ObL _ _)); (refine ObL.mk _ zM ?_)) | (exact ObEnd.eq rfl rfl))
   all_goals conv=>whnf
   all_goals refine ObEnd.vw [(0,0,0)] rfl ?_ (by simp) ?_
   all_goals skip
  ·repeat' ((conv => whnf); first | (refine SeqP.go ?_) | ((refine ObN.mk ?_ ?_); exact zN) | (refine ObT.tt ?_) | (refine ObT.ff ?_) | ((refine ObB.yes ?_ ?_); (focus (first | assumption | (with_reducible rfl) | omega))) | ((refine ObB.no ?_ ?_); (exact zq22)) | ((with_reducible refine (?_ : ObL _ _)); (refine ObL.mk _ zM ?_)) | (exact ObEnd.eq rfl rfl))
   all_goals conv=>whnf
   all_goals refine ObEnd.vw [(0,0,0)] rfl ?_ (by simp) ?_
   all_goals skip
set_option maxHeartbeats 4000000 in
theorem few5w (l:List Nd) (hl:l.length<=9223372036854775807) (hx:∀ x ∈ l,x.Wd) (g:Nat):HC Tryd.prog G 5 [.ol 0 g l.length] [⟨40,9,l.map nA,g,0⟩] (.ol 1 0 (Zf 12 1 l).length) [⟨40,9,l.map nA,g,0⟩,⟨40,9,(Zf 12 1 l).map nA,0,0⟩]:=by
 refine Zt cop5 rfl ?_
 have rl0:=wb l
 have lm0:=wV (l:=l)
 repeat' ((conv=>whnf);first|(refine SeqP.go ?_)|((refine ObD.mk ?_ ?_);exact zD))
 conv=>whnf
 refine LoopP.go (α:=Nat × Nat × List Nd) (fun p=>p.1<=l.length/\p.1<=12/\p.2.1<=3000/\p.2.2.length=p.1/\p.2.2++Zf (12 - p.1) p.2.1 (l.drop p.1)=Zf 12 1 l) (fun p=>l.length - p.1) (fun p=>[(2,some (.nl 9)),(0,some (.ol 1 0 p.2.2.length)),(0,some (I p.2.1)),(0,some (I p.1)),(0,none),(0,none),(0,none),(0,none),(0,none),(0,none),(0,none),(0,none),(0,none),(0,none),(0,none),(0,none),(0,none),(0,none),(0,none),(0,none),(0,none),(0,none),(0,none),(0,none),(0,none),(0,none),(0,none),(0,none),(0,none),(0,none),(0,none),(0,none),(0,none),(0,none)]) (fun p=>[⟨40,9,l.map nA,g,0⟩,⟨40,9,p.2.2.map nA,0,0⟩]) (0,1,[]) ⟨Nat.zero_le _,Nat.zero_le _,by decide,rfl,rfl⟩ (Fg.go ?_ rfl) ?_
 ·repeat' ((conv=>whnf);first|((refine ObEqs.mk ?_ ?_);rfl)|((with_reducible refine ObEq1.i ?_ ?_);exact zF)|((with_reducible refine ObEq1.mk ?_ ?_);exact zE)|exact True.intro)
 rintro ⟨i,w,o⟩ ⟨hi,hi2,hw,hol,he⟩
 dsimp only at hi hi2 hw hol he ⊢
 have oa:=wV (l:=o)
 have op:=p_n o
 have r0:=wb o
 have rl0:=wb l
 by_cases hil:i < l.length/\i < 12
 ·obtain ⟨hil, hil2⟩ := hil
  have hq:=XB hil
  have hf:=few9 G l[i] (hx _ (List.getElem_mem hil))
  have hok:=xR (hx _ (List.getElem_mem hil))
  have hat:=fewL_at (n:=11 - i) (w:=w) hil
  rw [show 11 - i+1=12 - i by omega] at hat
  rw [hat] at he
  clear hat
  generalize yP l[i]=y at *
  generalize l[i]=x at *
  have hrf:=refs32 G y hok
  have hrl:=xm hok
  have hmx:(if ((rfN y).length:Int) < 1 then (1:Int) else ((rfN y).length:Int))=((mw y:Nat):Int):=by unfold mw;split<;>omega
  have hml:mw y<=41:=by unfold mw;omega
  obtain ⟨W',hW⟩:∃ W':Nat,W'=w * mw y:=⟨_,rfl⟩
  rw [<- hW] at he
  have hWi:(w:Int) * (mw y:Int)=(W':Int):=by rw [hW];simp
  have hWl:W'<=123000:=by rw [hW];exact Nat.mul_le_mul hw hml
  have r1:=wb (o++[y])
  have us:(o.map nA).take o.length++[nA y]=(o++[y]).map nA:=n_snoc (l:=o)
  by_cases hz:3000 < W'
  ·rw [if_pos hz, List.append_nil] at he
   rw [<- he]
   repeat' ((conv=>whnf);first|(with_reducible first|refine SeqP.go ?_|refine ObZ.mk _ hmx ?_)|(rw [hWi])|((refine ObD.mk ?_ ?_);exact zD)|((refine ObN.mk ?_ ?_);exact zN)|(refine ObT.tt ?_)|((refine ObB.yes ?_ ?_);exact zB)|((with_reducible refine ObI.mk _ rfl ?_ ?_ ?_);omega;omega)|((refine ObX.mk _ rfl ?_ ?_);exact zX)|((with_reducible refine (?_:ObL _ _));(refine ObL.mk _ zM ?_))|((with_reducible refine (?_:ObU _ _));(refine ObU.mk _ zq4 ?_))|((with_reducible refine (?_:ObR _ _ _));(first|(refine ObR.mk _ zw ?_)|(refine ObR.map zX (fun x hx=>?_))|(refine ObR.mk _ rfl ?_)))|((refine ObC.f 13 ?_);(refine ObC.mk _ (hf) ?_))|((refine ObC.f 14 ?_);(refine ObC.mk _ (hrf) ?_))|(with_reducible refine ObE.max ?_))
   all_goals conv=>whnf
   all_goals refine ObEnd.vw [(g,0,g),(0,1,0)] rfl ?_ (by simp) ?_
   all_goals repeat' ((conv=>whnf);first|((refine ObN.mk ?_ ?_);exact zN)|((with_reducible refine ObO.l ?_);(refine ObN.mk ?_ ?_);(exact ZQ))|((with_reducible refine ObRow.same ?_ ?_ ?_);exact zE;(focus (first|rfl|assumption|(simp;done))))|exact True.intro)
  ·rw [if_neg hz] at he
   repeat' ((conv=>whnf);first|(with_reducible first|refine SeqP.go ?_|refine ObZ.mk _ hmx ?_)|(rw [hWi])|((refine ObD.mk ?_ ?_);exact zD)|((refine ObN.mk ?_ ?_);exact zN)|(with_reducible first|refine ObT.tt ?_|refine ObT.ff ?_)|((refine ObB.yes ?_ ?_);exact zB)|((refine ObB.no ?_ ?_);exact zC)|((with_reducible refine ObI.nl ?_ ?_);omega)|((with_reducible refine ObI.mk _ rfl ?_ ?_ ?_);omega;omega)|((refine ObX.mk _ rfl ?_ ?_);exact zX)|((with_reducible refine (?_:ObL _ _));(refine ObL.mk _ zM ?_))|((with_reducible refine (?_:ObU _ _));(refine ObU.mk _ zq4 ?_))|((with_reducible refine (?_:ObR _ _ _));(first|(refine ObR.mk _ zw ?_)|(refine ObR.map zX (fun x hx=>?_))|(refine ObR.mk _ rfl ?_)))|((refine ObC.f 13 ?_);(refine ObC.mk _ (hf) ?_))|((refine ObC.f 14 ?_);(refine ObC.mk _ (hrf) ?_))|(with_reducible refine ObE.max ?_))
   conv=>whnf
   refine Again.mk (i+1,W',o++[y]) ⟨by dsimp only;omega,by dsimp only;omega,by dsimp only;omega,by simp [hol],by dsimp only;rw [List.append_assoc,<- he,show 12 - (i+1)=11 - i by omega];rfl⟩ ?_ (Fg.vw [(g,0,g),(0,1,1)] ?_ ?_ (by simp) ?_)
   ·dsimp only;omega
   all_goals repeat' ((conv=>whnf);first|((refine ObN.mk ?_ ?_);exact zN)|((with_reducible refine ObO.l ?_);(refine ObN.mk ?_ ?_);(exact ZQ))|((with_reducible refine ObRn.mk ?_ ?_);(focus (first|rfl|(simp [rnB,rnC,rnL];done))))|((with_reducible refine ObRow.same ?_ ?_ ?_);exact zE;(focus (first|rfl|assumption|(simp;done))))|((refine ObEqs.mk ?_ ?_);rfl)|exact True.intro)
 ·have h0 : Zf (12 - i) w (l.drop i) = [] := by
   rcases Nat.lt_or_ge i l.length with h|h
   ·rw [show 12 - i=0 by omega,Zf]
   ·rw [List.drop_eq_nil_of_le h];cases 12 - i<;>rfl
  rw [h0,List.append_nil] at he
  rw [<- he]
  have hor:i=l.length\/(i < l.length/\i=12):=by omega
  rcases hor with hor|⟨hor,hor2⟩
  ·repeat' ((conv => whnf); first | (refine SeqP.go ?_) | ((refine ObN.mk ?_ ?_); exact zN) | (refine ObT.ff ?_) | ((refine ObB.no ?_ ?_); (exact zq22)) | (exact ObEnd.eq rfl rfl))
   all_goals conv=>whnf
   all_goals refine ObEnd.vw [(g,0,g),(0,1,0)] rfl ?_ (by simp) ?_
   all_goals skip
  ·repeat' ((conv => whnf); first | (refine SeqP.go ?_) | ((refine ObN.mk ?_ ?_); exact zN) | (refine ObT.tt ?_) | (refine ObT.ff ?_) | ((refine ObB.yes ?_ ?_); (focus (first | assumption | (with_reducible rfl) | omega))) | ((refine ObB.no ?_ ?_); (exact zq22)) | (exact ObEnd.eq rfl rfl))
   all_goals conv=>whnf
   all_goals refine ObEnd.vw [(g,0,g),(0,1,0)] rfl ?_ (by simp) ?_
   all_goals skip
end
def tA (t:Int × Bool):AV:=.agg [I t.1,.v (.bool t.2)]
theorem tA_at {l:List (Int × Bool)} {k:Nat} {t:Int × Bool} (h:l[k]? = some t):(l.map tA)[k]? = some (.agg [I t.1,.v (.bool t.2)]):=by simp [h,tA]
theorem YA (l:List (Int × Bool)):(l.map tA).all nrB=true:=by simp [tA,nrB,AV.cells]
theorem tA_set {l:List (Int × Bool)} {k:Nat} {t:Int × Bool}:(l.map tA).set k (.agg [I t.1,.v (.bool t.2)])=(l.set k t).map tA:=by simp [tA,List.map_set]
def rvl (l:List (Int × Bool)) (i:Nat):List (Int × Bool):=(List.range l.length).map fun k=>if k < i\/l.length<=k+i then l.getD (l.length - 1 - k) (0,false) else l.getD k (0,false)
theorem Yd {l:List (Int × Bool)} {i:Nat}:(rvl l i).length=l.length:=by simp [rvl]
theorem YZ {l:List (Int × Bool)} {i k:Nat} (hk:k < l.length):(rvl l i)[k]? = some (if k < i\/l.length<=k+i then l.getD (l.length - 1 - k) (0,false) else l.getD k (0,false)):=by
 simp [rvl,hk]
theorem rvl_0 {l:List (Int × Bool)}:rvl l 0=l:=by
 apply List.ext_getElem? ;intro k
 rcases Nat.lt_or_ge k l.length with h|h
 ·rw [YZ h,if_neg (by omega)];simp [List.getElem?_eq_getElem h]
 ·rw [List.getElem?_eq_none (by rw [Yd];exact h),List.getElem?_eq_none h]
theorem rvl_end {l:List (Int × Bool)} {i:Nat} (h:l.length<=2 * i+1):rvl l i=l.reverse:=by
 apply List.ext_getElem? ;intro k
 rcases Nat.lt_or_ge k l.length with hk|hk
 ·rw [YZ hk, List.getElem?_reverse hk]
  by_cases hm:k < i\/l.length<=k+i
  ·rw [if_pos hm,List.getElem?_eq_getElem (by omega)];simp [List.getD_eq_getElem?_getD,List.getElem?_eq_getElem (show l.length - 1 - k < l.length by omega)]
  ·have e : l.length - 1 - k = k := by omega
   rw [if_neg hm,e,List.getElem?_eq_getElem hk];simp [List.getD_eq_getElem?_getD,List.getElem?_eq_getElem hk]
 ·rw [List.getElem?_eq_none (by rw [Yd];exact hk),List.getElem?_eq_none (by simpa using hk)]
theorem rvl_step {l:List (Int × Bool)} {i j:Nat} (hij:i < j) (hj:i+j+1=l.length):((rvl l i).set i (l.getD j (0,false))).set j (l.getD i (0,false))=rvl l (i+1):=by
 apply List.ext_getElem? ;intro k
 rcases Nat.lt_or_ge k l.length with hk|hk
 ·rw [YZ hk]
  by_cases h1:j=k
  ·subst h1
   rw [List.getElem?_set_self (by simp [Yd];omega),if_pos (by omega)]
   congr 2;omega
  ·rw [List.getElem?_set_ne h1]
   by_cases h2:i=k
   ·subst h2
    rw [List.getElem?_set_self (by rw [Yd];omega),if_pos (by omega)]
    congr 2;omega
   ·rw [List.getElem?_set_ne h2, YZ hk]
    congr 1
    by_cases hm:k < i\/l.length<=k+i
    ·rw [if_pos hm,if_pos (by omega)]
    ·rw [if_neg hm,if_neg (by omega)]
 ·rw [List.getElem?_eq_none (by simp [Yd];omega),List.getElem?_eq_none (by rw [Yd];exact hk)]
section
variable (G:Nat->AV)
set_option maxHeartbeats 4000000 in
theorem rev25 (l:List (Int × Bool)) (g:Nat) (hl:l.length<=1000) (h0:0 < l.length):HC Tryd.prog G 26 [.ol 0 g l.length] [⟨54,2,l.map tA,g,0⟩] (.tup []) [⟨54,2,l.reverse.map tA,g,0⟩]:=by
 refine Zt cop26 rfl ?_
 have hn:=YA l
 repeat' ((conv=>whnf);first|(refine SeqP.go ?_)|((refine ObN.mk ?_ ?_);exact zN)|((with_reducible refine ObI.sl ?_ ?_ ?_);omega;omega))
 conv=>whnf
 refine LoopP.go (α:=Nat) (fun i=>2 * i<=l.length) (fun i=>l.length - i) (fun i=>[(2,some (I i)),(0,some (I ((l.length:Int) - 1 - i))),(3,none),(0,none),(0,none),(0,none),(0,none),(0,none),(0,none),(0,none),(0,none),(0,none),(0,none),(0,none),(0,none),(0,none),(0,none),(0,none),(0,none),(0,none),(0,none),(0,none),(0,none)]) (fun i=>[⟨54,2,(rvl l i).map tA,g,0⟩]) 0 (by omega) (Fg.go ?_ (by rw [rvl_0])) ?_
 ·repeat' ((conv=>whnf);first|((refine ObEqs.mk ?_ ?_);rfl)|((with_reducible refine ObEq1.i ?_ ?_);exact zF)|exact True.intro)
 rintro i hi
 have hrl:=Yd (l:=l) (i:=i)
 have rn:=YA (rvl l i)
 by_cases hlt:(i:Int) < (l.length:Int) - 1 - i
 ·obtain ⟨j, hj⟩ : ∃ j : Nat, i + j + 1 = l.length := ⟨l.length - 1 - i, by omega⟩
  have ej:(l.length:Int) - 1 - i=(j:Int):=by omega
  rw [ej] at hlt ⊢
  have hij:i < j:=by omega
  have q1:=tA_at (YZ (l:=l) (i:=i) (k:=i) (by omega))
  have q2:=tA_at (YZ (l:=l) (i:=i) (k:=j) (by omega))
  rw [if_neg (by omega)] at q1 q2
  have hs:=rvl_step hij hj
  generalize l.getD i (0,false)=a at *
  generalize l.getD j (0,false)=b at *
  have u1:((rvl l i).map tA).set i (.agg [I b.1,.v (.bool b.2)])=((rvl l i).set i b).map tA:=tA_set
  have u2:(((rvl l i).set i b).map tA).set j (.agg [I a.1,.v (.bool a.2)])=(rvl l (i+1)).map tA:=by rw [tA_set,hs]
  have rn2:=YA (rvl l (i+1))
  have rn3:=YA ((rvl l i).set i b)
  repeat' ((conv=>whnf);first|(refine SeqP.go ?_)|((refine ObD.mk ?_ ?_);exact zD)|((refine ObN.mk ?_ ?_);exact zN)|(refine ObT.tt ?_)|((refine ObB.yes ?_ ?_);exact zB)|((with_reducible refine ObI.nl ?_ ?_);omega)|((with_reducible refine ObI.sl ?_ ?_ ?_);omega;omega)|((refine ObX.mk _ rfl ?_ ?_);exact zX)|((with_reducible refine (?_:ObU _ _));(refine ObU.mk _ zq3 ?_))|((with_reducible refine (?_:ObR _ _ _));(first|(refine ObR.mk _ zw ?_)|(refine ObR.map zX (fun x hx=>?_))|(refine ObR.mk _ rfl ?_))))
  conv=>whnf
  refine Again.mk (i+1) (by omega) (by omega) (Fg.go ?_ rfl)
  repeat' ((conv=>whnf);first|((refine ObEqs.mk ?_ ?_);rfl)|((with_reducible refine ObEq1.i ?_ ?_);exact zF)|exact True.intro)
 ·have he := rvl_end (l := l) (i := i) (by omega)
  rw [he]
  repeat' ((conv=>whnf);first|(refine SeqP.go ?_)|((refine ObN.mk ?_ ?_);exact zN)|(refine ObT.ff ?_)|((refine ObB.no ?_ ?_);exact zC)|(exact ObEnd.eq rfl rfl))
end
end Go.Proofs.YtfocijljkkfonaaDoor.Sim
