/- Texts of this claim, part 7. -/
import Derived.Deep.LoopGhost
import Derived.Deep.RegionLaw
import Derived.Lib.SliceRun
import Derived.Test.YtgpldekhcojimaaDoorMModelSteps6
import Derived.Test.YtgpldekhcojimaaDoorProg
import Derived.WalkKit
set_option linter.unusedVariables false
set_option linter.unusedSimpArgs false
namespace Go.Proofs.YtgpldekhcojimaaDoor.Sim.Pr7
open Go.RowKit
set_option maxRecDepth 100000
theorem yB (s:ByteArray):(Ys s 40).size≤40:=by simp [Ys];omega
theorem cutB_short {s:ByteArray} (h:s.size≤40):Ys s 40=s:=by
 unfold Ys
 rw [Nat.min_eq_left h]
 exact ByteArray.extract_zero_size
theorem wg {l:List Pr}:∀ p ∈ few l,p.1.size≤40∧p.2.size≤40:=by
 intro p hp
 unfold few at hp
 obtain ⟨q,hq,rfl⟩:=List.mem_map.1 hp
 exact ⟨yB _,yB _⟩
theorem few_few (l:List Pr):few (few l)=few l:=by
 have hl:=xK l
 have hs:=wg (l:=l)
 generalize few l=m at *
 unfold few
 rw [List.take_of_length_le (by omega)]
 refine (List.map_congr_left (g:=id) fun p hp=>?_).trans (List.map_id m)
 rw [cutB_short (hs p hp).1,cutB_short (hs p hp).2]
 rfl
theorem okl_few (l:List Pr):Okl (few l):=⟨by rw [xK];omega,fun p hp=>by have:=wg p hp;omega⟩
abbrev PrS:={p:Pr // p.1.size≤9223372036854775807∧p.2.size≤9223372036854775807}
def pC (p:PrS):List AV:=[S p.1.1,S p.1.2]
theorem pair_inv {cs:List AV} (h:ShC Tryd.prog 65 cs):∃ p:PrS,cs=pC p:=by
 obtain ⟨p0,q,rfl,hp0,h⟩:=(h.flds (ts:=[9,9]) (by kernel_rfl)).cons
 obtain ⟨p1,q,rfl,hp1,h⟩:=h.cons
 obtain rfl:=h.nil
 obtain ⟨a,rfl,ha⟩:=hp0.str_inv yw
 obtain ⟨b,rfl,hb⟩:=hp1.str_inv yw
 exact ⟨⟨(a,b),ha,hb⟩,rfl⟩
end Go.Proofs.YtgpldekhcojimaaDoor.Sim.Pr7
namespace Go.Proofs.YtgpldekhcojimaaDoor.Sim
open Go.RowKit
set_option maxRecDepth 100000
open Pr7
structure An where
 e:Int
 h:Bool
 k:ByteArray
 v:ByteArray
 n:Int
abbrev An.A (a:An):AV:=aA a.e a.h a.k a.v a.n
def anO (o:Option Pr):An:=⟨0,o.isSome,(o.getD (⟨#[]⟩,⟨#[]⟩)).1,(o.getD (⟨#[]⟩,⟨#[]⟩)).2,0⟩
def anG (v:Option ByteArray):An:=⟨0,v.isSome,⟨#[]⟩,v.getD ⟨#[]⟩,0⟩
def an0:An:=⟨0,false,⟨#[]⟩,⟨#[]⟩,0⟩
def anH (k b:Int) (l:List Pr) (o:Int) (x:ByteArray):An :=
 if o=9 then anG (val l x)
 else if o=10 then anO (xe (bfo k b) (mk l))
 else if o=11 then anO (xe (bfo k b) ((mk l).filter fun p=>bfo k b x p.1))
 else if o=12 then ⟨0,false,⟨#[]⟩,⟨#[]⟩,(mk l).length⟩
 else an0
def an (k b:Int) (l:List Pr) (H:List Hd) (o:Int) (x:ByteArray) (i:Int):An × Bool :=
 if o=7∨o=13 then (an0,false)
 else if o≤5 then (anG (val l x),true)
 else if o=6 then (anO (fl (mk l) x),true)
 else if (atV H i).2=true then (anH k b (atV H i).1 o x,true)
 else (⟨10,false,⟨#[]⟩,⟨#[]⟩,0⟩,true)
theorem oA_an (o:Option Pr):oA o=(anO o).A:=by cases o<;>rfl
section
variable (G:Nat→AV) (k s t h b:Int) (hb:i64 b) (l:List Pr) (H:List Hd) (o:Int) (x y z:ByteArray) (i:Int) (hx:x.size≤40)
set_option maxHeartbeats 4000000 in
include hb hx in
theorem rans (c31 : PC Tryd.prog G 31 [cA k s t h b, xA o x y z i] (Bo true)) (ho : 1 ≤ o ∧ o ≤ 13) (hl : l.length ≤ 40 ∧ Okl l) (hH : H.length ≤ 1000000) (hA : (atV H i).1.length ≤ 40 ∧ Okl (atV H i).1 ∧ ∀ p ∈ mk (atV H i).1, p.1.size ≤ 100000) (r : An × Bool) (hr : r = an k b l H o x i) :
  PC Tryd.prog G 11 [cA k s t h b,sA l H,xA o x y z i] (.tup [r.1.A,Bo r.2]):=by
 have c32:=Pr7.get10 G l hl.2 x
 have c33:=rfloor24 G l hl.2 x (by omega)
 have c23:=at23 G l H hH i
 unfold an at hr
 split at hr
 ·rename_i q
  subst hr
  rcases q with rfl|rfl
  ·refine zf YH ?_
   repeat' ((conv=>whnf);first|(refine SeqP.go ?_)|((refine ObD.mk ?_ ?_);exact zD)|((refine ObN.mk ?_ ?_);exact zN)|(with_reducible first|refine ObT.tt ?_|refine ObT.ff ?_)|((refine ObB.yes ?_ ?_);exact zB)|((with_reducible refine (?_:ObU _ _));(refine ObU.mk _ zU ?_))|((with_reducible refine (?_:ObR _ _ _));(first|(refine ObR.mk _ zA ?_)|(refine ObR.map zX (fun x hx=>?_))|(refine ObR.mk _ rfl ?_)))|((refine ObC.f 31 ?_);(refine ObC.mk _ (c31) ?_))|((refine ObEq.mk ?_);exact zE))
  ·refine zf YH ?_
   repeat' ((conv=>whnf);first|(refine SeqP.go ?_)|((refine ObD.mk ?_ ?_);exact zD)|((refine ObN.mk ?_ ?_);exact zN)|(with_reducible first|refine ObT.tt ?_|refine ObT.ff ?_)|((refine ObB.yes ?_ ?_);exact zB)|((refine ObB.no ?_ ?_);exact zC)|((with_reducible refine (?_:ObU _ _));(refine ObU.mk _ zU ?_))|((with_reducible refine (?_:ObR _ _ _));(first|(refine ObR.mk _ zA ?_)|(refine ObR.map zX (fun x hx=>?_))|(refine ObR.mk _ rfl ?_)))|((refine ObC.f 31 ?_);(refine ObC.mk _ (c31) ?_))|((refine ObEq.mk ?_);exact zE))
 rename_i q1
 have n7:¬ o=7:=by omega
 have n13:¬ o=13:=by omega
 split at hr
 ·rename_i q2
  subst hr
  unfold anG
  generalize val l x=v at *
  have q2':o≤5:=q2
  refine zf YH ?_
  repeat' ((conv=>whnf);first|(refine SeqP.go ?_)|((refine ObD.mk ?_ ?_);exact zD)|((refine ObN.mk ?_ ?_);exact zN)|(with_reducible first|refine ObT.tt ?_|refine ObT.ff ?_)|((refine ObB.yes ?_ ?_);exact zB)|((refine ObB.no ?_ ?_);exact zC)|((with_reducible refine (?_:ObU _ _));(refine ObU.mk _ zU ?_))|((with_reducible refine (?_:ObR _ _ _));(first|(refine ObR.mk _ zA ?_)|(refine ObR.map zX (fun x hx=>?_))|(refine ObR.mk _ rfl ?_)))|((refine ObC.f 31 ?_);(refine ObC.mk _ (c31) ?_))|((refine ObC.f 32 ?_);(refine ObC.mk _ (c32) ?_))|((refine ObEq.mk ?_);exact zE))
 rename_i q2
 split at hr
 ·rename_i q3
  subst hr;subst q3
  unfold anO
  generalize fl (mk l) x=v at *
  cases v
  ·refine zf YH ?_
   repeat' ((conv=>whnf);first|(refine SeqP.go ?_)|((refine ObD.mk ?_ ?_);exact zD)|((refine ObN.mk ?_ ?_);exact zN)|(with_reducible first|refine ObT.tt ?_|refine ObT.ff ?_)|((refine ObB.yes ?_ ?_);exact zB)|((refine ObB.no ?_ ?_);exact zC)|((with_reducible refine (?_:ObU _ _));(refine ObU.mk _ zU ?_))|((with_reducible refine (?_:ObR _ _ _));(first|(refine ObR.mk _ zA ?_)|(refine ObR.map zX (fun x hx=>?_))|(refine ObR.mk _ rfl ?_)))|((refine ObC.f 31 ?_);(refine ObC.mk _ (c31) ?_))|((refine ObC.f 33 ?_);(refine ObC.mk _ (c33) ?_))|((refine ObEq.mk ?_);exact zE))
  ·refine zf YH ?_
   repeat' ((conv=>whnf);first|(refine SeqP.go ?_)|((refine ObD.mk ?_ ?_);exact zD)|((refine ObN.mk ?_ ?_);exact zN)|(with_reducible first|refine ObT.tt ?_|refine ObT.ff ?_)|((refine ObB.yes ?_ ?_);exact zB)|((refine ObB.no ?_ ?_);exact zC)|((with_reducible refine (?_:ObU _ _));(refine ObU.mk _ zU ?_))|((with_reducible refine (?_:ObR _ _ _));(first|(refine ObR.mk _ zA ?_)|(refine ObR.map zX (fun x hx=>?_))|(refine ObR.mk _ rfl ?_)))|((refine ObC.f 31 ?_);(refine ObC.mk _ (c31) ?_))|((refine ObC.f 33 ?_);(refine ObC.mk _ (c33) ?_))|((refine ObEq.mk ?_);exact zE))
 rename_i q3
 have hl2:=hA.1
 have c32':=Pr7.get10 G (atV H i).1 hA.2.1 x
 have c35:=yy G (atV H i).1 hA.2.1
 have hml:=Z5 (atV H i).1
 have c34a:=next34 G k s t h b hb (atV H i).1 (mk (atV H i).1) (by omega) hA.2.2 c35 ⟨#[]⟩ (by decide) false (fun _=>true) (fun p=>rfl)
 have c34b:=next34 G k s t h b hb (atV H i).1 (mk (atV H i).1) (by omega) hA.2.2 c35 x (by omega) true (fun p=>bfo k b x p.1) (fun p=>rfl)
 rw [show (mk (atV H i).1).filter (fun _=>true)=mk (atV H i).1 from List.filter_eq_self.2 (fun _ _=>rfl)] at c34a
 rw [oA_an] at c34a c34b
 clear hA hl c32 c33
 generalize atV H i=A at *
 obtain ⟨A1,A2⟩:=A
 dsimp only at *
 cases A2
 ·rw [if_neg (by simp)] at hr
  subst hr
  refine zf YH ?_
  repeat' ((conv=>whnf);first|(refine SeqP.go ?_)|((refine ObD.mk ?_ ?_);exact zD)|((refine ObN.mk ?_ ?_);exact zN)|(with_reducible first|refine ObT.tt ?_|refine ObT.ff ?_)|((refine ObB.no ?_ ?_);exact zC)|((with_reducible refine (?_:ObU _ _));(refine ObU.mk _ zU ?_))|((with_reducible refine (?_:ObR _ _ _));(first|(refine ObR.mk _ zA ?_)|(refine ObR.map zX (fun x hx=>?_))|(refine ObR.mk _ rfl ?_)))|((refine ObC.f 31 ?_);(refine ObC.mk _ (c31) ?_))|((refine ObC.f 23 ?_);(refine ObC.mk _ (c23) ?_))|((refine ObEq.mk ?_);exact zE))
 ·rw [if_pos rfl] at hr
  subst hr
  unfold anH
  dsimp only
  by_cases o9:o=9
  ·subst o9
   rw [if_pos rfl]
   unfold anG
   generalize val A1 x=v at *
   refine zf YH ?_
   repeat' ((conv=>whnf);first|(refine SeqP.go ?_)|((refine ObD.mk ?_ ?_);exact zD)|((refine ObN.mk ?_ ?_);exact zN)|(with_reducible first|refine ObT.tt ?_|refine ObT.ff ?_)|((refine ObB.yes ?_ ?_);exact zB)|((refine ObB.no ?_ ?_);exact zC)|((with_reducible refine (?_:ObU _ _));(refine ObU.mk _ zU ?_))|((with_reducible refine (?_:ObR _ _ _));(first|(refine ObR.mk _ zA ?_)|(refine ObR.map zX (fun x hx=>?_))|(refine ObR.mk _ rfl ?_)))|((refine ObC.f 31 ?_);(refine ObC.mk _ (c31) ?_))|((refine ObC.f 23 ?_);(refine ObC.mk _ (c23) ?_))|((refine ObC.f 32 ?_);(refine ObC.mk _ (c32') ?_))|((refine ObEq.mk ?_);exact zE))
  by_cases o10:o=10
  ·subst o10
   rw [if_neg (by omega),if_pos rfl]
   generalize anO (xe (bfo k b) (mk A1))=v at *
   refine zf YH ?_
   repeat' ((conv=>whnf);first|(refine SeqP.go ?_)|((refine ObD.mk ?_ ?_);exact zD)|((refine ObN.mk ?_ ?_);exact zN)|(with_reducible first|refine ObT.tt ?_|refine ObT.ff ?_)|((refine ObB.yes ?_ ?_);exact zB)|((refine ObB.no ?_ ?_);exact zC)|((with_reducible refine (?_:ObU _ _));(refine ObU.mk _ zU ?_))|((with_reducible refine (?_:ObR _ _ _));(first|(refine ObR.mk _ zA ?_)|(refine ObR.map zX (fun x hx=>?_))|(refine ObR.mk _ rfl ?_)))|((refine ObC.f 31 ?_);(refine ObC.mk _ (c31) ?_))|((refine ObC.f 23 ?_);(refine ObC.mk _ (c23) ?_))|((refine ObC.f 34 ?_);(refine ObC.mk _ (c34a) ?_))|((refine ObEq.mk ?_);exact zE))
  by_cases o11:o=11
  ·subst o11
   rw [if_neg (by omega),if_neg (by omega),if_pos rfl]
   generalize anO (xe (bfo k b) ((mk A1).filter fun p=>bfo k b x p.1))=v at *
   refine zf YH ?_
   repeat' ((conv=>whnf);first|(refine SeqP.go ?_)|((refine ObD.mk ?_ ?_);exact zD)|((refine ObN.mk ?_ ?_);exact zN)|(with_reducible first|refine ObT.tt ?_|refine ObT.ff ?_)|((refine ObB.yes ?_ ?_);exact zB)|((refine ObB.no ?_ ?_);exact zC)|((with_reducible refine (?_:ObU _ _));(refine ObU.mk _ zU ?_))|((with_reducible refine (?_:ObR _ _ _));(first|(refine ObR.mk _ zA ?_)|(refine ObR.map zX (fun x hx=>?_))|(refine ObR.mk _ rfl ?_)))|((refine ObC.f 31 ?_);(refine ObC.mk _ (c31) ?_))|((refine ObC.f 23 ?_);(refine ObC.mk _ (c23) ?_))|((refine ObC.f 34 ?_);(refine ObC.mk _ (c34b) ?_))|((refine ObEq.mk ?_);exact zE))
  by_cases o12:o=12
  ·subst o12
   rw [if_neg (by omega),if_neg (by omega),if_neg (by omega),if_pos rfl]
   generalize mk A1=v at *
   refine zf YH ?_
   repeat' ((conv=>whnf);first|(refine SeqP.go ?_)|((refine ObD.mk ?_ ?_);exact zD)|((refine ObN.mk ?_ ?_);exact zN)|(with_reducible first|refine ObT.tt ?_|refine ObT.ff ?_)|((refine ObB.yes ?_ ?_);exact zB)|((refine ObB.no ?_ ?_);exact zC)|((with_reducible refine (?_:ObL _ _));(refine ObL.mk _ zM ?_))|((with_reducible refine (?_:ObU _ _));(refine ObU.mk _ zU ?_))|((with_reducible refine (?_:ObR _ _ _));(first|(refine ObR.mk _ zA ?_)|(refine ObR.map zX (fun x hx=>?_))|(refine ObR.mk _ rfl ?_)))|((refine ObC.f 31 ?_);(refine ObC.mk _ (c31) ?_))|((refine ObC.f 23 ?_);(refine ObC.mk _ (c23) ?_))|((refine ObC.f 35 ?_);(refine ObC.mk _ (c35) ?_))|((refine ObEq.mk ?_);exact zE))
  ·rw [if_neg o9, if_neg o10, if_neg o11, if_neg o12]
   unfold an0
   refine zf YH ?_
   repeat' ((conv=>whnf);first|(refine SeqP.go ?_)|((refine ObD.mk ?_ ?_);exact zD)|((refine ObN.mk ?_ ?_);exact zN)|(with_reducible first|refine ObT.tt ?_|refine ObT.ff ?_)|((refine ObB.no ?_ ?_);exact zC)|((with_reducible refine (?_:ObU _ _));(refine ObU.mk _ zU ?_))|((with_reducible refine (?_:ObR _ _ _));(first|(refine ObR.mk _ zA ?_)|(refine ObR.map zX (fun x hx=>?_))|(refine ObR.mk _ rfl ?_)))|((refine ObC.f 31 ?_);(refine ObC.mk _ (c31) ?_))|((refine ObC.f 23 ?_);(refine ObC.mk _ (c23) ?_))|((refine ObEq.mk ?_);exact zE))
end
end Go.Proofs.YtgpldekhcojimaaDoor.Sim
namespace Go.Proofs.YtgpldekhcojimaaDoor.Sim.Pr7
open Go.RowKit
set_option maxRecDepth 100000
theorem xn {A:List Pr} (h:SLe A) {i j:Nat} (hij:i≤j) (hj:j < A.length):cB (A[i]'(by omega)).1 (A[j]).1≤0:=by
 by_cases e:i=j
 ·subst e;rw [Z0];omega
 ·exact List.pairwise_iff_getElem.1 h i j (by omega) hj (by omega)
theorem hc_row {G:Nat→AV} {f:FuncId} {xs:List AV} {D D' E E':List Pr} {g:Nat} {r:AV} (h:HC Tryd.prog G f xs [rw0 D g] r [rw0 E g]) (e1:D=D') (e2:E=E'):HC Tryd.prog G f xs [rw0 D' g] r [rw0 E' g]:=by
 subst e1;subst e2;exact h
theorem okl_perm {D D':List Pr} (h:Okl D) (hl:D'.length=D.length) (hm:∀ x ∈ D',x ∈ D):Okl D':=⟨by rw [hl];exact h.len,fun p hp=>h.sz p (hm p hp)⟩
theorem mem_take_at {L:List Pr} {n:Nat} {x:Pr} (h:x ∈ L.take n):∃ i,∃ hi:i < L.length,i < n∧L[i]=x:=by
 obtain ⟨i,hi,rfl⟩:=List.mem_take_iff_getElem.1 h
 exact ⟨i,by omega,by omega,rfl⟩
theorem mem_drop_at {L:List Pr} {n:Nat} {x:Pr} (h:x ∈ L.drop n):∃ i,∃ hi:i < L.length,n≤i∧L[i]=x:=by
 obtain ⟨i,hi,rfl⟩:=List.mem_drop_iff_getElem.1 h
 exact ⟨n+i,by omega,by omega,rfl⟩
theorem sym_cut {A B : List Pr} {a s mid m : Nat} (sA : SLe A) (sB : SLe B) (h1 : a ≤ s) (h2 : s ≤ m) (h3 : s ≤ mid) (hA : a + A.length = m) (hb : mid ≤ s + B.length)
  (hlo:a < s→mid < s+B.length→∀ x y,A[s - 1 - a]? = some x→B[mid - s]? = some y→¬ cB y.1 x.1 < 0)
  (hhi:s < m→s < mid→∀ x y,A[s - a]? = some x→B[mid - 1 - s]? = some y→cB y.1 x.1 < 0) :
  z7 (A++B)=z7 (A.take (s - a)++B.take (mid - s))++z7 (A.drop (s - a)++B.drop (mid - s))∧(∀ x ∈ A.drop (s - a),∀ y ∈ B.take (mid - s),cB y.1 x.1 < 0):=by
 have g1:∀ x ∈ A.drop (s - a),∀ y ∈ B.take (mid - s),cB y.1 x.1 < 0:=fun x hx y hy=>by
  obtain ⟨i,hi,hi2,rfl⟩:=mem_drop_at hx
  obtain ⟨j,hj,hj2,rfl⟩:=mem_take_at hy
  have k1:s - a < A.length:=by omega
  have k2:mid - 1 - s < B.length:=by omega
  have:=hhi (by omega) (by omega) _ _ (List.getElem?_eq_getElem k1) (List.getElem?_eq_getElem k2)
  have c1:=xn sA (i:=s - a) (j:=i) (by omega) hi
  have c2:=xn sB (i:=j) (j:=mid - 1 - s) (by omega) k2
  exact Xo (Wj c2 this) c1
 refine ⟨?_,g1⟩
 have e1:=List.take_append_drop (s - a) A
 have e2:=List.take_append_drop (mid - s) B
 have:=ssort_merge (A1:=A.take (s - a)) (A2:=A.drop (s - a)) (B1:=B.take (mid - s)) (B2:=B.drop (mid - s)) (by rw [e1];exact sA) (by rw [e2];exact sB) g1 (fun x hx y hy=>by
  obtain ⟨i,hi,hi2,rfl⟩:=mem_take_at hx
  obtain ⟨j,hj,hj2,rfl⟩:=mem_drop_at hy
  have k1:s - 1 - a < A.length:=by omega
  have k2:mid - s < B.length:=by omega
  have:=hlo (by omega) (by omega) _ _ (List.getElem?_eq_getElem k1) (List.getElem?_eq_getElem k2)
  have c1:=xn sA (i:=i) (j:=s - 1 - a) (by omega) k1
  have c2:=xn sB (i:=mid - s) (j:=j) (by omega) hj
  refine XG c1 (XG ?_ c2)
  rw [Z4 (B[mid - s]).1];omega)
 rwa [e1,e2] at this
theorem ssort_nil1 {X Y:List Pr} (h:X=[]∨Y=[]) (hX:SLe X) (hY:SLe Y):z7 (X++Y)=X++Y:=by
 rcases h with rfl|rfl
 ·exact xR hY
 ·rw [List.append_nil];exact xR hX
theorem sym_all {G : Nat → AV} {g n : Nat} {P A B R : List Pr} {N a m b s mid e : Nat}
  (ih:∀ (P A B R:List Pr) (N a m b:Nat),A.length+B.length≤n→(P++(A++(B++R))).length=N→P.length=a→a+A.length=m→m+B.length=b→0 < A.length→0 < B.length→SLe A→SLe B→Okl (P++(A++(B++R))) →
   HC Tryd.prog G 102 [.ol 0 g N,I a,I m,I b,cF] [rw0 (P++(A++(B++R))) g] (.tup []) [rw0 (P++(z7 (A++B)++R)) g])
  (hn:A.length+B.length≤n+1) (hN:(P++(A++(B++R))).length=N) (hP:P.length=a) (hA:a+A.length=m) (hB:m+B.length=b) (sA:SLe A) (sB:SLe B) (hok:Okl (P++(A++(B++R))))
  (h1:a≤s) (h2:s≤m) (h3:s≤mid) (hb:mid≤s+B.length) (he:e+s=mid+m) (hmb:mid < b) (ham:a < mid)
  (hlo:a < s→mid < s+B.length→∀ x y,A[s - 1 - a]? = some x→B[mid - s]? = some y→¬ cB y.1 x.1 < 0)
  (hhi:s < m→s < mid→∀ x y,A[s - a]? = some x→B[mid - 1 - s]? = some y→cB y.1 x.1 < 0) :
  ∃ D1 D2 D3:List Pr,D3=P++(z7 (A++B)++R)∧D1.length=N∧D2.length=N ∧
   (s < m→m < e→HC Tryd.prog G 103 [.ol 0 g N,I s,I m,I e,cF] [rw0 (P++(A++(B++R))) g] (.tup []) [rw0 D1 g])∧(¬ (s < m∧m < e)→P++(A++(B++R))=D1) ∧
   (a < s→s < mid→HC Tryd.prog G 102 [.ol 0 g N,I a,I s,I mid,cF] [rw0 D1 g] (.tup []) [rw0 D2 g])∧(¬ (a < s∧s < mid)→D1=D2) ∧
   (mid < e→e < b→HC Tryd.prog G 102 [.ol 0 g N,I mid,I e,I b,cF] [rw0 D2 g] (.tup []) [rw0 D3 g])∧(¬ (mid < e∧e < b)→D2=D3):=by
 obtain ⟨c1,c2⟩:=sym_cut sA sB h1 h2 h3 hA hb hlo hhi
 have eA:=List.take_append_drop (s - a) A
 have eB:=List.take_append_drop (mid - s) B
 have lA1:(A.take (s - a)).length=s - a:=by simp;omega
 have lA2:(A.drop (s - a)).length=m - s:=by simp;omega
 have lB1:(B.take (mid - s)).length=mid - s:=by simp;omega
 have lB2:(B.drop (mid - s)).length=b - e:=by simp;omega
 have sA1:SLe (A.take (s - a)):=List.Pairwise.sublist (List.take_sublist ..) sA
 have sA2:SLe (A.drop (s - a)):=List.Pairwise.sublist (List.drop_sublist ..) sA
 have sB1:SLe (B.take (mid - s)):=List.Pairwise.sublist (List.take_sublist ..) sB
 have sB2:SLe (B.drop (mid - s)):=List.Pairwise.sublist (List.drop_sublist ..) sB
 rw [c1]
 generalize A.take (s - a)=A1 at *
 generalize A.drop (s - a)=A2 at *
 generalize B.take (mid - s)=B1 at *
 generalize B.drop (mid - s)=B2 at *
 clear hlo hhi c1
 subst eA
 subst eB
 simp only [List.length_append] at hn hA hB hN hb
 have hm1:∀ x,x ∈ P++(A1++(B1++(A2++(B2++R))))→x ∈ P++((A1++A2)++((B1++B2)++R)):=fun x hx=>by
  simp only [List.mem_append] at hx ⊢
  rcases hx with h|h|h|h|h|h<;>simp [h]
 have hm2:∀ x,x ∈ (P++z7 (A1++B1))++(A2++(B2++R))→x ∈ P++((A1++A2)++((B1++B2)++R)):=fun x hx=>by
  simp only [List.mem_append,ssort_mem] at hx ⊢
  rcases hx with (h|h|h)|h|h|h<;>simp [h]
 have ok1:Okl (P++(A1++(B1++(A2++(B2++R))))):=okl_perm hok (by simp;omega) hm1
 have ok2:Okl ((P++z7 (A1++B1))++(A2++(B2++R))):=okl_perm hok wS hm2
 refine ⟨P++(A1++(B1++(A2++(B2++R)))),P++(z7 (A1++B1)++(A2++(B2++R))),_,rfl,by simp;omega,by simp [ZM];omega,fun k1 k2=>?_,fun hk=>?_,fun k1 k2=>?_,fun hk=>?_,fun k1 k2=>?_,fun hk=>?_⟩
 ·have hr := rot_list (P := P ++ A1) (A := A2) (B := B1) (R := B2 ++ R)
  have e1:(P++A1).length=s:=by simp;omega
  have e2:(P++A1).length+A2.length=m:=by simp;omega
  have e3:(P++A1).length+A2.length+B1.length=e:=by simp;omega
  rw [e3,e2,e1] at hr
  have hlN:(P++(A1++A2++(B1++B2++R))).length=N:=by simp;omega
  have:=rot45 G (P++(A1++A2++(B1++B2++R))) g s m e hok.len k1 k2 (by rw [hlN];omega) cF
  rw [hlN] at this
  refine hc_row this rfl ?_
  have e4:P++(A1++A2++(B1++B2++R))=P++A1++(A2++(B1++(B2++R))):=by simp
  rw [e4,hr];simp
 ·have : A2 = [] ∨ B1 = [] := by
   by_cases hh:s < m
   ·right;exact List.length_eq_zero_iff.1 (by omega)
   ·left;exact List.length_eq_zero_iff.1 (by omega)
  rcases this with rfl|rfl<;>simp
 ·exact ih P A1 B1 (A2++(B2++R)) N a s mid (by omega) (by simp;omega) hP (by omega) (by omega) (by omega) (by omega) sA1 sB1 ok1
 ·rw [ssort_nil1 _ sA1 sB1]
  ·simp
  ·by_cases hh : a < s
   ·right;exact List.length_eq_zero_iff.1 (by omega)
   ·left;exact List.length_eq_zero_iff.1 (by omega)
 ·have := ih (P ++ z7 (A1 ++ B1)) A2 B2 R N mid e b (by omega) (by simp [ZM]; omega) (by simp [ZM]; omega) (by omega) (by omega) (by omega) (by omega) sA2 sB2 ok2
  exact hc_row this (by simp) (by simp)
 ·rw [ssort_nil1 (X := A2) _ sA2 sB2]
  ·simp
  ·by_cases hh : mid < e
   ·right;exact List.length_eq_zero_iff.1 (by omega)
   ·left;exact List.length_eq_zero_iff.1 (by omega)
theorem eVu {H:Hp} {k:KK} {n:Nat} (h:n≤9223372036854775807) (hk:k (.v (.int .u64 (n:Int))) H):ObE ((ap1 (fun v=>z5 Tryd.prog (convert 3 115 v)) (.v (.int .i64 (n:Int)))).map (·,H)) k :=
 ⟨_,_,by simp only [ap1,zP,cVu (show (0:Int)≤(n:Int) by omega) (show (n:Int)≤9223372036854775807 by omega)];rfl,hk⟩
theorem eVi {H:Hp} {k:KK} {n:Nat} (h:n≤9223372036854775807) (hk:k (.v (.int .i64 (n:Int))) H):ObE ((ap1 (fun v=>z5 Tryd.prog (convert 115 3 v)) (.v (.int .u64 (n:Int)))).map (·,H)) k :=
 ⟨_,_,by simp only [ap1,zP,cVi (show (0:Int)≤(n:Int) by omega) (show (n:Int)≤9223372036854775807 by omega)];rfl,hk⟩
theorem eShr {H:Hp} {k:KK} {n:Nat} {t:TypeId} {xo yo:Operand} (hk:k (.v (.int .u64 ((n / 2:Nat):Int))) H):ObE ((zQ Tryd.prog H .shr t false xo yo (.v (.int .u64 (n:Int))) (.v (.int .u64 1))).map (·,H)) k:=by
 have:=Z8 (P:=Tryd.prog) (t:=t) (xo:=xo) (yo:=yo) (i:=n) (j:=0)
 rw [show ((n:Int)+((0:Nat):Int))=(n:Int) by simp,Nat.add_zero] at this
 exact ⟨_,_,by simp only [zQ,zP,this,Bool.false_eq_true,if_false];rfl,hk⟩
set_option maxHeartbeats 40000000 in
theorem sym44 (G : Nat → AV) (g : Nat) : ∀ (n : Nat) (P A B R : List Pr) (N a m b : Nat), A.length + B.length ≤ n → (P ++ (A ++ (B ++ R))).length = N → P.length = a → a + A.length = m → m + B.length = b → 0 < A.length → 0 < B.length → SLe A → SLe B → Okl (P ++ (A ++ (B ++ R))) →
  HC Tryd.prog G 102 [.ol 0 g N,I a,I m,I b,cF] [rw0 (P++(A++(B++R))) g] (.tup []) [rw0 (P++(z7 (A++B)++R)) g]
 | 0,P,A,B,R,N,a,m,b,hn,_,_,_,_,hA0,_,_,_,_=>by omega
 | n+1,P,A,B,R,N,a,m,b,hn,hN,hP,hA,hB,hA0,hB0,sA,sB,hok=>by
  by_cases hA1:A.length=1
  ·obtain ⟨x, rfl⟩ := List.length_eq_one_iff.1 hA1
   exact symL G g P B R x N a m b hN hP (by simpa using hA) hB sB hok
  by_cases hB1:B.length=1
  ·obtain ⟨x, rfl⟩ := List.length_eq_one_iff.1 hB1
   exact symR G g P A R x N a m b hN hP hA (by omega) (by simpa using hB) sA hok
  have hlen:=hok.len
  rw [hN] at hlen
  have hbN:b≤N:=by rw [← hN];simp;omega
  have hsA:∀ p ∈ A,p.1.size≤9223372036854775807:=fun p hp=>(hok.sz p (by simp [hp])).1
  have hsB:∀ p ∈ B,p.1.size≤9223372036854775807:=fun p hp=>(hok.sz p (by simp [hp])).1
  obtain ⟨mid,hmid⟩:∃ mid,mid=(a+b) / 2:=⟨_,rfl⟩
  obtain ⟨s0,hs0⟩:∃ s0,s0=if mid < m then mid+m - b else a:=⟨_,rfl⟩
  obtain ⟨r0,hr0⟩:∃ r0,r0=if mid < m then mid else m:=⟨_,rfl⟩
  have hsr:a≤s0∧s0≤r0∧r0≤m∧r0≤mid∧mid+m≤b+s0∧(s0=a∨mid+m=b+s0)∧(r0=m∨r0=mid)∧mid < b∧a < mid:=by
   rw [hs0,hr0];split<;>omega
  obtain ⟨sr1,sr2,sr3,sr4,sr5,sr6,sr7,sr8,sr9⟩:=hsr
  have ema:¬ ((m:Int) - (a:Int)=1):=by omega
  have ebm:¬ ((b:Int) - (m:Int)=1):=by omega
  have hm:=hmid.symm
  -- the two places that are looked at
  have hq:∀ c,s0≤c→c < r0→∃ x y:Pr,A[c - a]? = some x∧B[mid - 1 - c]? = some y∧((P++(A++(B++R))).map pA)[c]? = some (.agg [S x.1,S x.2])∧((P++(A++(B++R))).map pA)[mid+m - 1 - c]? = some (.agg [S y.1,S y.2])∧x.1.size≤9223372036854775807∧y.1.size≤9223372036854775807:=fun c c1 c2=>by
   have i1:c - a < A.length:=by omega
   have i2:mid - 1 - c < B.length:=by omega
   refine ⟨A[c - a],B[mid - 1 - c],List.getElem?_eq_getElem i1,List.getElem?_eq_getElem i2,pAq ?_,pAq ?_,hsA _ (List.getElem_mem i1),hsB _ (List.getElem_mem i2)⟩
   ·have := gdA (P := P) (A := A) (R := B ++ R) (k := c) (by omega) (by omega)
    rw [this];congr 2;omega
   ·have := gdA (P := P ++ A) (A := B) (R := R) (k := mid + m - 1 - c) (by simp; omega) (by simp; omega)
    rw [List.append_assoc] at this
    rw [this];congr 2;simp;omega
  -- of two such the one further on is smaller
  have hmon:∀ c d x y x' y',s0≤c→c≤d→d < r0→A[c - a]? = some x→B[mid - 1 - c]? = some y→A[d - a]? = some x'→B[mid - 1 - d]? = some y'→cB y.1 x.1 < 0→cB y'.1 x'.1 < 0:=fun c d x y x' y' c1 c2 c3 e1 e2 e3 e4 h=>by
   have i1:c - a < A.length:=by omega
   have i2:mid - 1 - c < B.length:=by omega
   have i3:d - a < A.length:=by omega
   have i4:mid - 1 - d < B.length:=by omega
   rw [List.getElem?_eq_getElem i1] at e1
   rw [List.getElem?_eq_getElem i2] at e2
   rw [List.getElem?_eq_getElem i3] at e3
   rw [List.getElem?_eq_getElem i4] at e4
   cases e1;cases e2;cases e3;cases e4
   have g1:=xn sA (i:=c - a) (j:=d - a) (by omega) i3
   have g2:=xn sB (i:=mid - 1 - d) (j:=mid - 1 - c) (by omega) i2
   exact Xo (Wj g2 h) g1
  have hfin:=fun (s e:Nat) h1 h2 h3 hb he hlo hhi=>sym_all (G:=G) (g:=g) (s:=s) (mid:=mid) (e:=e) (sym44 G g n) hn hN hP hA hB sA sB hok h1 h2 h3 hb he sr8 sr9 hlo hhi
  generalize hD:P++(A++(B++R))=D at *
  generalize hE:P++(z7 (A++B)++R)=E at *
  have hb1:mid+m≤2000000:=by omega
  have hAl:m=a+A.length:=hA.symm
  have hBl:b=m+B.length:=hB.symm
  clear hn hP hsA hsB hA0 hB0 hA1 hB1 hlen hok sA sB
  refine YF Wg rfl ?_
  repeat' ((conv=>whnf);first|(refine SeqP.go ?_)|((with_reducible refine eVu ?_ ?_);omega)|((with_reducible refine eVi ?_ ?_);omega)|(with_reducible refine eShr ?_)|((refine ObN.mk ?_ ?_);exact zN)|(with_reducible first|refine ObT.tt ?_|refine ObT.ff ?_)|((refine ObB.no ?_ ?_);exact zC)|(with_reducible refine ObB.mk (fun h=>?_) (fun h=>?_))|((with_reducible refine ObI.nn ?_ ?_);omega)|((with_reducible refine ObI.sn ?_ ?_ ?_);omega;omega)|((with_reducible refine ObI.sl ?_ ?_ ?_);omega;omega))
  all_goals
   conv=>whnf
   simp only [hm]
   refine LoopP.go (α:=Nat × Nat) (fun p=>s0≤p.1∧p.1≤p.2∧p.2≤r0∧(∀ c x y,s0≤c→c < p.1→A[c - a]? = some x→B[mid - 1 - c]? = some y→¬ cB y.1 x.1 < 0)∧(∀ c x y,p.2≤c→c < r0→A[c - a]? = some x→B[mid - 1 - c]? = some y→cB y.1 x.1 < 0)) (fun p=>p.2 - p.1) (fun p=>[(20,some (I p.1)),(0,some (I p.2)),(1,none),(125,none),(0,none),(0,none),(0,none),(0,none),(0,none),(0,none),(0,none),(0,none),(0,none),(0,none),(0,none),(0,none),(0,none),(0,none),(0,none),(0,none),(0,none),(0,none),(0,none),(0,none),(0,none),(0,none),(0,none),(0,none),(0,none)]) (fun _=>[rw0 D g]) (s0,r0) ⟨Nat.le_refl _,sr2,Nat.le_refl _,fun c x y h1 h2=>by omega,fun c x y h1 h2=>by omega⟩ (Fg.go ?_ rfl) ?_
   ·have hs1 := hs0
    have hr1:=hr0
    first|rw [if_pos (by omega)] at hs1 hr1|rw [if_neg (by omega)] at hs1 hr1
    clear hs0 hr0
    repeat' ((conv=>whnf);first|((refine ObEqs.mk ?_ ?_);rfl)|((with_reducible refine ObEq1.i ?_ ?_);exact zF)|exact True.intro)
   rintro ⟨i,j⟩ ⟨i1,i2,i3,hlo,hhi⟩
   dsimp only at i1 i2 i3 hlo hhi ⊢
   clear hmid hs0 hr0 ema ebm
   by_cases hij:i < j
   ·obtain ⟨x, y, ex, ey, q1, q2, hx, hy⟩ := hq ((i + j) / 2) (by omega) (by omega)
    by_cases hlt:cB y.1 x.1 < 0
    ·have hhi2:∀ c x y,(i+j) / 2≤c→c < r0→A[c - a]? = some x→B[mid - 1 - c]? = some y→cB y.1 x.1 < 0:=fun c x' y' c1 c2 e1 e2=>hmon ((i+j) / 2) c x y x' y' (by omega) c1 c2 ex ey e1 e2 hlt
     clear hmon hfin hq hhi
     repeat' ((conv=>whnf);first|(refine SeqP.go ?_)|((with_reducible refine eVu ?_ ?_);omega)|((with_reducible refine eVi ?_ ?_);omega)|(with_reducible refine eShr ?_)|((refine ObD.mk ?_ ?_);(focus (first|rfl|(simp [hN];done))))|((refine ObN.mk ?_ ?_);(exact zq8))|(with_reducible first|refine ObT.tt ?_|refine ObT.ff ?_)|((refine ObB.yes ?_ ?_);exact zB)|((with_reducible refine ObI.nn ?_ ?_);omega)|((with_reducible refine ObI.sn ?_ ?_ ?_);omega;omega)|((refine ObX.mk _ rfl ?_ ?_);(exact zq7))|((with_reducible refine (?_:ObU _ _));(refine ObU.mk _ zq6 ?_))|((with_reducible refine (?_:ObR _ _ _));(first|(refine ObR.mk _ (by assumption) ?_)|(refine ObR.mk _ (by exact (by first|exact q1|exact q2|(refine Eq.trans (congrArg _ ?_) q2;omega))) ?_)|(refine ObR.mk _ Zv ?_)|(refine ObR.map zq7 (fun x hx=>?_))|(refine ObR.mk _ rfl ?_)))|((refine ObH.f 80 ?_);(first|(with_reducible refine ObH.mk _ _ ((XA G _ hy hx)) ?_)|(refine ObH.mk _ _ ((XA G _ hy hx)) ?_))))
     conv=>whnf
     refine Again.mk (i,(i+j) / 2) ?_ ?_ (Fg.go ?_ rfl)
     ·exact ⟨i1,by dsimp only;omega,by dsimp only;omega,hlo,hhi2⟩
     ·dsimp only;omega
     repeat' ((conv=>whnf);first|((refine ObEqs.mk ?_ ?_);rfl)|((with_reducible refine ObEq1.i ?_ ?_);exact zF)|exact True.intro)
    ·have hlo2:∀ c x y,s0≤c→c < (i+j) / 2+1→A[c - a]? = some x→B[mid - 1 - c]? = some y→¬ cB y.1 x.1 < 0:=fun c x' y' c1 c2 e1 e2 hQ=>hlt (hmon c ((i+j) / 2) x' y' x y c1 (by omega) (by omega) e1 e2 ex ey hQ)
     clear hmon hfin hq hlo
     repeat' ((conv=>whnf);first|(refine SeqP.go ?_)|((with_reducible refine eVu ?_ ?_);omega)|((with_reducible refine eVi ?_ ?_);omega)|(with_reducible refine eShr ?_)|((refine ObD.mk ?_ ?_);(focus (first|rfl|(simp [hN];done))))|((refine ObN.mk ?_ ?_);(exact zq8))|(with_reducible first|refine ObT.tt ?_|refine ObT.ff ?_)|((refine ObB.yes ?_ ?_);exact zB)|((refine ObB.no ?_ ?_);exact zC)|((with_reducible refine ObI.nn ?_ ?_);omega)|((with_reducible refine ObI.nl ?_ ?_);omega)|((with_reducible refine ObI.sn ?_ ?_ ?_);omega;omega)|((refine ObX.mk _ rfl ?_ ?_);(exact zq7))|((with_reducible refine (?_:ObU _ _));(refine ObU.mk _ zq6 ?_))|((with_reducible refine (?_:ObR _ _ _));(first|(refine ObR.mk _ (by assumption) ?_)|(refine ObR.mk _ (by exact (by first|exact q1|exact q2|(refine Eq.trans (congrArg _ ?_) q2;omega))) ?_)|(refine ObR.mk _ Zv ?_)|(refine ObR.map zq7 (fun x hx=>?_))|(refine ObR.mk _ rfl ?_)))|((refine ObH.f 80 ?_);(first|(with_reducible refine ObH.mk _ _ ((XA G _ hy hx)) ?_)|(refine ObH.mk _ _ ((XA G _ hy hx)) ?_))))
     conv=>whnf
     refine Again.mk ((i+j) / 2+1,j) ?_ ?_ (Fg.go ?_ rfl)
     ·exact ⟨by dsimp only;omega,by dsimp only;omega,i3,hlo2,hhi⟩
     ·dsimp only;omega
     repeat' ((conv=>whnf);first|((refine ObEqs.mk ?_ ?_);rfl)|((with_reducible refine ObEq1.i ?_ ?_);exact zF)|exact True.intro)
   ·obtain rfl : j = i := by omega
    obtain ⟨e,he⟩:∃ e,e+j=mid+m:=⟨mid+m - j,by omega⟩
    obtain ⟨D1,D2,D3,hD3,l1,l2,f1,f2,f3,f4,f5,f6⟩:=hfin j e (by omega) (by omega) (by omega) (by omega) he (fun c1 c2 x y e1 e2=>hlo (j - 1) x y (by omega) (by omega) e1 (by rw [show mid - 1 - (j - 1)=mid - j by omega];exact e2)) (fun c1 c2 x y e1 e2=>hhi j x y (by omega) (by omega) e1 e2)
    subst hD3
    have ee:e=mid+m - j:=by omega
    have hja:a≤j∧j≤m∧j≤mid:=by omega
    have heN:e≤b:=by omega
    clear hmon hfin hq hlo hhi i1 i2 i3 sr1 sr2 sr3 sr4 sr5 sr6 sr7 hij he
    obtain ⟨ja,jm,jd⟩:=hja
    subst ee
    by_cases p1:j < m<;>by_cases p3:a < j<;>by_cases p4:j < mid<;>by_cases p6:mid+m - j < b<;>(try (exfalso;omega))
    all_goals
     (first|(have r1:=f1 p1 (by omega))|(have r1:=f2 (by omega);subst r1))
     (first|(have r2:=f3 p3 p4)|(have r2:=f4 (by omega);subst r2))
     (first|(have r3:=f5 (by omega) p6)|(have r3:=f6 (by omega);subst r3))
     clear f1 f2 f3 f4 f5 f6
     repeat' ((conv=>whnf);first|(refine SeqP.go ?_)|((refine ObN.mk ?_ ?_);exact zN)|(with_reducible first|refine ObT.tt ?_|refine ObT.ff ?_)|((refine ObB.yes ?_ ?_);exact zB)|((refine ObB.no ?_ ?_);exact zC)|((with_reducible refine ObI.sn ?_ ?_ ?_);omega;omega)|((refine ObH.f 103 ?_);(first|(with_reducible refine ObH.mk _ _ (r1) ?_)|(refine ObH.mk _ _ (r1) ?_)))|((refine ObH.f 102 ?_);(first|(with_reducible refine ObH.mk _ _ (r2) ?_)|(refine ObH.mk _ _ (r2) ?_)))|((refine ObH.f 102 ?_);(first|(with_reducible refine ObH.mk _ _ (r3) ?_)|(refine ObH.mk _ _ (r3) ?_)))|(exact ObEnd.eq rfl rfl))
end Go.Proofs.YtgpldekhcojimaaDoor.Sim.Pr7
namespace Go.Proofs.YtgpldekhcojimaaDoor.Sim.Pr7
open Go.RowKit
theorem hM (G:Nat→AV):Ws G:=make14 G (fun g n P A B R N a m b=>sym44 G g n P A B R N a m b)
end Go.Proofs.YtgpldekhcojimaaDoor.Sim.Pr7
namespace Go.Proofs.YtgpldekhcojimaaDoor.Sim
open Go.RowKit
set_option maxRecDepth 100000
section
variable (k s t h b:Int)
set_option maxHeartbeats 2000000 in
theorem ans_got (l:List Pr7.Pr) (H:List Hd) (o:Int) (x y z v:ByteArray) (i:Int) (g:Bool) (c25:PC Tryd.prog zw 25 [cA k s t h b,xA o x y z i] (Bo true)) (ho:i64 o) (o6:¬ o=6) (o7:¬ o=7) (o13:¬ o=13) (oh:Conf.opB o 3=false) (c30:PC Tryd.prog zw 30 [.sl 2 (l.map Pr7.pA),S x] (aA 0 g ⟨#[]⟩ v 0)):PC Tryd.prog zw 9 [cA k s t h b,sA l H,xA o x y z i] (.tup [aA 0 g ⟨#[]⟩ v 0,Bo true]):=by
 have c28:=held28 o ho
 rw [oh] at c28
 refine zf Wf ?_
 repeat' ((conv=>whnf);first|(refine SeqP.go ?_)|((refine ObD.mk ?_ ?_);exact zD)|((refine ObN.mk ?_ ?_);exact zN)|(with_reducible first|refine ObT.tt ?_|refine ObT.ff ?_)|((refine ObB.no ?_ ?_);exact zC)|((with_reducible refine (?_:ObU _ _));(refine ObU.mk _ zU ?_))|((with_reducible refine (?_:ObR _ _ _));(first|(refine ObR.mk _ zA ?_)|(refine ObR.map zX (fun x hx=>?_))|(refine ObR.mk _ rfl ?_)))|((refine ObC.f 25 ?_);(refine ObC.mk _ (c25) ?_))|((refine ObC.f 28 ?_);(refine ObC.mk _ (c28) ?_))|((refine ObC.f 30 ?_);(refine ObC.mk _ (c30) ?_))|((refine ObEq.mk ?_);exact zE))
set_option maxHeartbeats 2000000 in
theorem after_put0 (x y z:ByteArray) (i:Int) (c25:PC Tryd.prog zw 25 [cA k s t h b,xA 2 x y z i] (Bo true)) (c37:PC Tryd.prog zw 37 [.sl 2 [],S x] (.tup [S ⟨#[]⟩,Bo false])) (c38:PC Tryd.prog zw 38 [.sl 2 [],S x,S y] (.sl 2 [.agg [S x,S y]])):PC Tryd.prog zw 12 [cA k s t h b,sA [] [],xA 2 x y z i] (.tup [sA [(x,y)] [],Bo true]):=by
 have c36:=cl36e zw
 refine zf yl ?_
 repeat' ((conv=>whnf);first|(refine SeqP.go ?_)|((refine ObD.mk ?_ ?_);exact zD)|((refine ObN.mk ?_ ?_);exact zN)|(with_reducible first|refine ObT.tt ?_|refine ObT.ff ?_)|((refine ObB.yes ?_ ?_);exact zB)|((with_reducible refine (?_:ObU _ _));(refine ObU.mk _ zU ?_))|((with_reducible refine (?_:ObR _ _ _));(first|(refine ObR.mk _ zA ?_)|(refine ObR.map zX (fun x hx=>?_))|(refine ObR.mk _ rfl ?_)))|((refine ObC.f 25 ?_);(refine ObC.mk _ (c25) ?_))|((refine ObC.f 36 ?_);(refine ObC.mk _ (c36) ?_))|((refine ObC.f 37 ?_);(refine ObC.mk _ (c37) ?_))|((refine ObC.f 38 ?_);(refine ObC.mk _ (c38) ?_))|((refine ObEq.mk ?_);exact zE))
set_option maxHeartbeats 2000000 in
theorem step_put0 (x y z:ByteArray) (i:Int) (c25:PC Tryd.prog zw 25 [cA k s t h b,xA 2 x y z i] (Bo true)) (c9:PC Tryd.prog zw 9 [cA k s t h b,sA [] [],xA 2 x y z i] (.tup [aA 0 false ⟨#[]⟩ ⟨#[]⟩ 0,Bo true])) (c12:PC Tryd.prog zw 12 [cA k s t h b,sA [] [],xA 2 x y z i] (.tup [sA [(x,y)] [],Bo true])):PC Tryd.prog zw 20 [cA k s t h b,sA [] [],xA 2 x y z i,aA 0 false ⟨#[]⟩ ⟨#[]⟩ 0] (.tup [sA [(x,y)] [],Bo true]):=by
 have hx:(0:Int)=0∧(⟨#[]⟩:ByteArray)=⟨#[]⟩∧(⟨#[]⟩:ByteArray)=⟨#[]⟩∧false=false∧(0:Int)=0∧True:=⟨rfl,rfl,rfl,rfl,rfl,trivial⟩
 refine zf cop20 ?_
 repeat' ((conv=>whnf);first|(refine SeqP.go ?_)|((refine ObD.mk ?_ ?_);exact zD)|((refine ObN.mk ?_ ?_);exact zN)|(with_reducible first|refine ObT.tt ?_|refine ObT.ff ?_)|((refine ObB.yes ?_ ?_);exact zB)|((with_reducible refine (?_:ObU _ _));(refine ObU.mk _ zU ?_))|((with_reducible refine (?_:ObR _ _ _));(first|(refine ObR.mk _ zA ?_)|(refine ObR.map zX (fun x hx=>?_))|(refine ObR.mk _ rfl ?_)))|((refine ObC.f 25 ?_);(refine ObC.mk _ (c25) ?_))|((refine ObC.f 9 ?_);(refine ObC.mk _ (c9) ?_))|((refine ObC.f 12 ?_);(refine ObC.mk _ (c12) ?_))|((refine ObEq.mk ?_);exact zE))
end
theorem works18:PC Tryd.prog zw 18 [] (Bo true):=by
 have a0:(⟨#[97]⟩:ByteArray).size≤9223372036854775807:=by decide
 have a1:(⟨#[49]⟩:ByteArray).size≤9223372036854775807:=by decide
 have a2:(⟨#[]⟩:ByteArray).size≤9223372036854775807:=by decide
 have hM:=Pr7.hM zw
 have n0:Pr7.Okl []:=⟨by decide,fun p hp=>by cases hp⟩
 have n1:Pr7.Okl [((⟨#[97]⟩:ByteArray),(⟨#[49]⟩:ByteArray))]:=⟨by decide,fun p hp=>by
  obtain rfl:=List.mem_singleton.1 hp
  exact ⟨a0,a1⟩⟩
 have g0:=Pr7.get9 zw hM [] n0 (by decide) ⟨#[97]⟩ a0
 have g1:=Pr7.get9 zw hM _ n1 (by decide) ⟨#[97]⟩ a0
 have p0:=Pr7.put17 zw hM [] n0 (by decide) ⟨#[97]⟩ ⟨#[49]⟩ a0
 have f2:=Wa 2 9 1 1 4 2 ⟨#[97]⟩ ⟨#[49]⟩ ⟨#[]⟩ 0 (by decide) (by decide) (by decide) (by decide) (by decide) (by decide) (by decide) a0 a1 a2 true (by decide)
 have f1:=Wa 2 9 1 1 4 1 ⟨#[97]⟩ ⟨#[]⟩ ⟨#[]⟩ 0 (by decide) (by decide) (by decide) (by decide) (by decide) (by decide) (by decide) a0 a2 a2 true (by decide)
 have q0:PC Tryd.prog zw 37 [.sl 2 [],S ⟨#[97]⟩] (.tup [S ⟨#[]⟩,Bo false]):=g0
 have q1:PC Tryd.prog zw 37 [.sl 2 [.agg [S ⟨#[97]⟩,S ⟨#[49]⟩]],S ⟨#[97]⟩] (.tup [S ⟨#[49]⟩,Bo true]):=by
  rw [Pr7.val_one,if_pos rfl] at g1
  exact g1
 have q2:PC Tryd.prog zw 38 [.sl 2 [],S ⟨#[97]⟩,S ⟨#[49]⟩] (.sl 2 [.agg [S ⟨#[97]⟩,S ⟨#[49]⟩]]):=p0
 have r0:=Wz zw [] ⟨#[97]⟩ ⟨#[]⟩ false q0
 have r1:=Wz zw [(⟨#[97]⟩,⟨#[49]⟩)] ⟨#[97]⟩ ⟨#[49]⟩ true q1
 have b1:=ans_got 2 9 1 1 4 [] [] 2 ⟨#[97]⟩ ⟨#[49]⟩ ⟨#[]⟩ ⟨#[]⟩ 0 false f2 (by decide) (by decide) (by decide) (by decide) (by decide) r0
 have b2:=ans_got 2 9 1 1 4 [(⟨#[97]⟩,⟨#[49]⟩)] [] 1 ⟨#[97]⟩ ⟨#[]⟩ ⟨#[]⟩ ⟨#[49]⟩ 0 true f1 (by decide) (by decide) (by decide) (by decide) (by decide) r1
 have b3:=after_put0 2 9 1 1 4 ⟨#[97]⟩ ⟨#[49]⟩ ⟨#[]⟩ 0 f2 q0 q2
 have b4:=step_put0 2 9 1 1 4 ⟨#[97]⟩ ⟨#[49]⟩ ⟨#[]⟩ 0 f2 b1 b3
 have hx:(0:Int)=0∧(⟨#[49]⟩:ByteArray)=⟨#[49]⟩∧(⟨#[]⟩:ByteArray)=⟨#[]⟩∧true=true∧(0:Int)=0∧True:=⟨rfl,rfl,rfl,rfl,rfl,trivial⟩
 refine zf cop18 ?_
 repeat' ((conv=>whnf);first|(refine SeqP.go ?_)|((refine ObD.mk ?_ ?_);exact zD)|((refine ObN.mk ?_ ?_);exact zN)|(refine ObT.tt ?_)|((refine ObB.yes ?_ ?_);exact zB)|((with_reducible refine (?_:ObU _ _));(refine ObU.mk _ zU ?_))|((with_reducible refine (?_:ObR _ _ _));(first|(refine ObR.mk _ zA ?_)|(refine ObR.map zX (fun x hx=>?_))|(refine ObR.mk _ rfl ?_)))|((refine ObC.f 20 ?_);(refine ObC.mk _ (b4) ?_))|((refine ObC.f 9 ?_);(refine ObC.mk _ (b2) ?_))|((refine ObEq.mk ?_);exact zE))
end Go.Proofs.YtgpldekhcojimaaDoor.Sim
namespace Go.Proofs.YtgpldekhcojimaaDoor.Sim
open Go.RowKit
set_option maxRecDepth 100000
open Pr7
theorem opB3 {o:Int} (ho:1≤o∧o≤13):Conf.opB o 3=decide (8≤o∧o≤12):=by
 obtain rfl|rfl|rfl|rfl|rfl|rfl|rfl|rfl|rfl|rfl|rfl|rfl|rfl:o=1∨o=2∨o=3∨o=4∨o=5∨o=6∨o=7∨o=8∨o=9∨o=10∨o=11∨o=12∨o=13:=by omega
 all_goals decide
section
variable (k s t h b:Int) (l:List Pr) (H:List Hd) (o:Int) (x y z:ByteArray) (i:Int) (hx:x.size≤40)
include hx in
set_option maxHeartbeats 4000000 in
theorem ans9 (c25 : PC Tryd.prog zw 25 [cA k s t h b, xA o x y z i] (Bo true)) (ho : 1 ≤ o ∧ o ≤ 13) (hl : l.length ≤ 40 ∧ Okl l)
  (c29:8≤o→o≤12→PC Tryd.prog zw 29 [cA k s t h b,sA l H,xA o x y z i] ((an k b l H o x i).1.A)) (r:An × Bool) (hr:r=an k b l H o x i) :
  PC Tryd.prog zw 9 [cA k s t h b,sA l H,xA o x y z i] (.tup [r.1.A,Bo r.2]):=by
 have hM:=Pr7.hM zw
 have c28:=held28 o ⟨by omega,by omega⟩
 rw [opB3 ho] at c28
 by_cases o7:o=7
 ·have e : an k b l H o x i = (an0, false) := by unfold an; rw [if_pos (.inl o7)]
  rw [hr,e]
  unfold an0
  refine zf Wf ?_
  repeat' ((conv=>whnf);first|(refine SeqP.go ?_)|((refine ObD.mk ?_ ?_);exact zD)|((refine ObN.mk ?_ ?_);exact zN)|(with_reducible first|refine ObT.tt ?_|refine ObT.ff ?_)|((refine ObB.yes ?_ ?_);exact zB)|((with_reducible refine (?_:ObU _ _));(refine ObU.mk _ zU ?_))|((with_reducible refine (?_:ObR _ _ _));(first|(refine ObR.mk _ zA ?_)|(refine ObR.map zX (fun x hx=>?_))|(refine ObR.mk _ rfl ?_)))|((refine ObC.f 25 ?_);(refine ObC.mk _ (c25) ?_))|((refine ObEq.mk ?_);exact zE))
 by_cases o13:o=13
 ·have e : an k b l H o x i = (an0, false) := by unfold an; rw [if_pos (.inr o13)]
  rw [hr,e]
  unfold an0
  refine zf Wf ?_
  repeat' ((conv=>whnf);first|(refine SeqP.go ?_)|((refine ObD.mk ?_ ?_);exact zD)|((refine ObN.mk ?_ ?_);exact zN)|(with_reducible first|refine ObT.tt ?_|refine ObT.ff ?_)|((refine ObB.yes ?_ ?_);exact zB)|((refine ObB.no ?_ ?_);exact zC)|((with_reducible refine (?_:ObU _ _));(refine ObU.mk _ zU ?_))|((with_reducible refine (?_:ObR _ _ _));(first|(refine ObR.mk _ zA ?_)|(refine ObR.map zX (fun x hx=>?_))|(refine ObR.mk _ rfl ?_)))|((refine ObC.f 25 ?_);(refine ObC.mk _ (c25) ?_))|((refine ObEq.mk ?_);exact zE))
 by_cases o6:o=6
 ·have e : an k b l H o x i = (anO (fl (mk l) x), true) := by unfold an; rw [if_neg (by omega), if_neg (by omega), if_pos o6]
  have c27:=floor23 zw hM l hl.2 hl.1 x (by omega)
  rw [hr,e]
  unfold anO
  generalize fl (mk l) x=v at *
  cases v with
  | none =>
   have c26:=Yq zw ⟨#[]⟩ ⟨#[]⟩ false
   refine zf Wf ?_
   repeat' ((conv=>whnf);first|(refine SeqP.go ?_)|((refine ObD.mk ?_ ?_);exact zD)|((refine ObN.mk ?_ ?_);exact zN)|(with_reducible first|refine ObT.tt ?_|refine ObT.ff ?_)|((refine ObB.yes ?_ ?_);exact zB)|((refine ObB.no ?_ ?_);exact zC)|((with_reducible refine (?_:ObU _ _));(refine ObU.mk _ zU ?_))|((with_reducible refine (?_:ObR _ _ _));(first|(refine ObR.mk _ zA ?_)|(refine ObR.map zX (fun x hx=>?_))|(refine ObR.mk _ rfl ?_)))|((refine ObC.f 25 ?_);(refine ObC.mk _ (c25) ?_))|((refine ObC.f 27 ?_);(refine ObC.mk _ (c27) ?_))|((refine ObC.f 26 ?_);(refine ObC.mk _ (c26) ?_))|((refine ObEq.mk ?_);exact zE))
  | some p =>
   have c26:=Yq zw p.1 p.2 true
   refine zf Wf ?_
   repeat' ((conv=>whnf);first|(refine SeqP.go ?_)|((refine ObD.mk ?_ ?_);exact zD)|((refine ObN.mk ?_ ?_);exact zN)|(with_reducible first|refine ObT.tt ?_|refine ObT.ff ?_)|((refine ObB.yes ?_ ?_);exact zB)|((refine ObB.no ?_ ?_);exact zC)|((with_reducible refine (?_:ObU _ _));(refine ObU.mk _ zU ?_))|((with_reducible refine (?_:ObR _ _ _));(first|(refine ObR.mk _ zA ?_)|(refine ObR.map zX (fun x hx=>?_))|(refine ObR.mk _ rfl ?_)))|((refine ObC.f 25 ?_);(refine ObC.mk _ (c25) ?_))|((refine ObC.f 27 ?_);(refine ObC.mk _ (c27) ?_))|((refine ObC.f 26 ?_);(refine ObC.mk _ (c26) ?_))|((refine ObEq.mk ?_);exact zE))
 by_cases o5:o≤5
 ·have e : an k b l H o x i = (anG (val l x), true) := by unfold an; rw [if_neg (by omega), if_pos o5]
  have c37:=get9 zw hM l hl.2 hl.1 x (by omega)
  have c30:=Wz zw l x _ _ c37
  rw [hr,e]
  unfold anG
  rw [decide_eq_false (by omega)] at c28
  generalize val l x=v at *
  refine zf Wf ?_
  repeat' ((conv=>whnf);first|(refine SeqP.go ?_)|((refine ObD.mk ?_ ?_);exact zD)|((refine ObN.mk ?_ ?_);exact zN)|(with_reducible first|refine ObT.tt ?_|refine ObT.ff ?_)|((refine ObB.no ?_ ?_);exact zC)|((with_reducible refine (?_:ObU _ _));(refine ObU.mk _ zU ?_))|((with_reducible refine (?_:ObR _ _ _));(first|(refine ObR.mk _ zA ?_)|(refine ObR.map zX (fun x hx=>?_))|(refine ObR.mk _ rfl ?_)))|((refine ObC.f 25 ?_);(refine ObC.mk _ (c25) ?_))|((refine ObC.f 28 ?_);(refine ObC.mk _ (c28) ?_))|((refine ObC.f 30 ?_);(refine ObC.mk _ (c30) ?_))|((refine ObEq.mk ?_);exact zE))
 ·have c := c29 (by omega) (by omega)
  have e:(an k b l H o x i).2=true:=by
   unfold an
   rw [if_neg (by omega),if_neg o5,if_neg o6]
   split<;>rfl
  rw [hr,e]
  rw [decide_eq_true (by omega)] at c28
  generalize (an k b l H o x i).1=v at *
  refine zf Wf ?_
  repeat' ((conv=>whnf);first|(refine SeqP.go ?_)|((refine ObD.mk ?_ ?_);exact zD)|((refine ObN.mk ?_ ?_);exact zN)|(with_reducible first|refine ObT.tt ?_|refine ObT.ff ?_)|((refine ObB.no ?_ ?_);exact zC)|((with_reducible refine (?_:ObU _ _));(refine ObU.mk _ zU ?_))|((with_reducible refine (?_:ObR _ _ _));(first|(refine ObR.mk _ zA ?_)|(refine ObR.map zX (fun x hx=>?_))|(refine ObR.mk _ rfl ?_)))|((refine ObC.f 25 ?_);(refine ObC.mk _ (c25) ?_))|((refine ObC.f 28 ?_);(refine ObC.mk _ (c28) ?_))|((refine ObC.f 29 ?_);(refine ObC.mk _ (c) ?_))|((refine ObEq.mk ?_);exact zE))
end
end Go.Proofs.YtgpldekhcojimaaDoor.Sim
namespace Go.Proofs.YtgpldekhcojimaaDoor.Sim
open Go.RowKit
set_option maxRecDepth 100000
open Pr7
section
variable (k s t h b:Int) (hb:i64 b) (l:List Pr) (H:List Hd) (o:Int) (x y z:ByteArray) (i:Int) (hx:x.size≤40)
include hb hx in
set_option maxHeartbeats 4000000 in
theorem held29 (ho:8≤o∧o≤12) (o11:¬ o=11) (hH:H.length≤1000000) (hl:∀ x ∈ H,x.2.length≤40∧Okl x.2∧∀ p ∈ mk x.2,p.1.size≤100000):PC Tryd.prog zw 29 [cA k s t h b,sA l H,xA o x y z i] ((an k b l H o x i).1.A):=by
 have hM:=Pr7.hM zw
 have c40:=xJ zw l H hH i
 have e0:an k b l H o x i=if (atV H i).2=true then (anH k b (atV H i).1 o x,true) else (⟨10,false,⟨#[]⟩,⟨#[]⟩,0⟩,true):=by
  unfold an
  rw [if_neg (by omega),if_neg (by omega),if_neg (by omega)]
 rw [e0]
 clear e0
 cases hf:fx H i with
 | none =>
  have e:hix H i = -1:=by unfold hix;rw [hf]
  have ea:atV H i=([],false):=by unfold atV;rw [hf]
  rw [e] at c40
  rw [ea]
  refine zf Xl ?_
  repeat' ((conv=>whnf);first|(refine SeqP.go ?_)|((refine ObD.mk ?_ ?_);exact zD)|((refine ObN.mk ?_ ?_);exact zN)|(refine ObT.tt ?_)|((refine ObB.yes ?_ ?_);exact zB)|((with_reducible refine (?_:ObU _ _));(refine ObU.mk _ zU ?_))|((with_reducible refine (?_:ObR _ _ _));(first|(refine ObR.mk _ zA ?_)|(refine ObR.map zX (fun x hx=>?_))|(refine ObR.mk _ rfl ?_)))|((refine ObC.f 40 ?_);(refine ObC.mk _ (c40) ?_))|((refine ObEq.mk ?_);exact zE))
 | some j =>
  obtain ⟨hj,_⟩:∃ hj:j < H.length,H[j].1=i:=by
   unfold fx at hf
   rw [List.findIdx?_eq_some_iff_getElem] at hf
   obtain ⟨h1,h2,_⟩:=hf
   exact ⟨h1,by simpa using h2⟩
  have e:hix H i=(j:Int):=by unfold hix;rw [hf]
  have ea:atV H i=(H[j].2,true):=by
   unfold atV
   rw [hf]
   simp [List.getD_eq_getElem?_getD,List.getElem?_eq_getElem hj]
  rw [e] at c40
  rw [ea,if_pos rfl]
  dsimp only
  have q:=Yb hj
  obtain ⟨l1,l2,l3⟩:=hl _ (List.getElem_mem hj)
  generalize H[j]=w at *
  have hjn:¬ (j:Int) < 0:=by omega
  have hml:=Z5 w.2
  have c37:=get9 zw hM w.2 l2 l1 x (by omega)
  have c30:=Wz zw w.2 x _ _ c37
  have c48:=hM w.2 l1 l2
  have c59:=wa zw k s t h b hb (mk w.2) (by omega) l3
  unfold anH
  by_cases o9:o=9
  ·subst o9
   rw [if_pos rfl]
   unfold anG
   generalize val w.2 x=v at *
   refine zf Xl ?_
   repeat' ((conv=>whnf);first|(refine SeqP.go ?_)|((refine ObD.mk ?_ ?_);exact zD)|((refine ObN.mk ?_ ?_);exact zN)|(with_reducible first|refine ObT.tt ?_|refine ObT.ff ?_)|((refine ObB.yes ?_ ?_);exact zB)|((refine ObB.no ?_ ?_);exact zC)|((refine ObX.mk _ rfl ?_ ?_);exact zX)|((with_reducible refine (?_:ObU _ _));(refine ObU.mk _ zU ?_))|((with_reducible refine (?_:ObR _ _ _));(first|(refine ObR.mk _ (by assumption) ?_)|(refine ObR.mk _ (by exact q) ?_)|(refine ObR.mk _ Zv ?_)|(refine ObR.map zX (fun x hx=>?_))|(refine ObR.mk _ rfl ?_)))|((refine ObC.f 40 ?_);(refine ObC.mk _ (c40) ?_))|((refine ObC.f 30 ?_);(refine ObC.mk _ (c30) ?_))|((refine ObEq.mk ?_);exact zE))
  by_cases o10:o=10
  ·subst o10
   rw [if_neg (by omega),if_pos rfl]
   unfold anO
   generalize xe (bfo k b) (mk w.2)=v at *
   cases v with
   | none =>
    have c26:=Yq zw ⟨#[]⟩ ⟨#[]⟩ false
    refine zf Xl ?_
    repeat' ((conv=>whnf);first|(refine SeqP.go ?_)|((refine ObD.mk ?_ ?_);exact zD)|((refine ObN.mk ?_ ?_);exact zN)|(with_reducible first|refine ObT.tt ?_|refine ObT.ff ?_)|((refine ObB.yes ?_ ?_);exact zB)|((refine ObB.no ?_ ?_);exact zC)|((refine ObX.mk _ rfl ?_ ?_);exact zX)|((with_reducible refine (?_:ObU _ _));(refine ObU.mk _ zU ?_))|((with_reducible refine (?_:ObR _ _ _));(first|(refine ObR.mk _ (by assumption) ?_)|(refine ObR.mk _ (by exact q) ?_)|(refine ObR.mk _ Zv ?_)|(refine ObR.map zX (fun x hx=>?_))|(refine ObR.mk _ rfl ?_)))|((refine ObC.f 40 ?_);(refine ObC.mk _ (c40) ?_))|((refine ObC.f 48 ?_);(refine ObC.mk _ (c48) ?_))|((refine ObC.f 59 ?_);(refine ObC.mk _ (c59) ?_))|((refine ObC.f 26 ?_);(refine ObC.mk _ (c26) ?_))|((refine ObEq.mk ?_);exact zE))
   | some p =>
    have c26:=Yq zw p.1 p.2 true
    refine zf Xl ?_
    repeat' ((conv=>whnf);first|(refine SeqP.go ?_)|((refine ObD.mk ?_ ?_);exact zD)|((refine ObN.mk ?_ ?_);exact zN)|(with_reducible first|refine ObT.tt ?_|refine ObT.ff ?_)|((refine ObB.yes ?_ ?_);exact zB)|((refine ObB.no ?_ ?_);exact zC)|((refine ObX.mk _ rfl ?_ ?_);exact zX)|((with_reducible refine (?_:ObU _ _));(refine ObU.mk _ zU ?_))|((with_reducible refine (?_:ObR _ _ _));(first|(refine ObR.mk _ (by assumption) ?_)|(refine ObR.mk _ (by exact q) ?_)|(refine ObR.mk _ Zv ?_)|(refine ObR.map zX (fun x hx=>?_))|(refine ObR.mk _ rfl ?_)))|((refine ObC.f 40 ?_);(refine ObC.mk _ (c40) ?_))|((refine ObC.f 48 ?_);(refine ObC.mk _ (c48) ?_))|((refine ObC.f 59 ?_);(refine ObC.mk _ (c59) ?_))|((refine ObC.f 26 ?_);(refine ObC.mk _ (c26) ?_))|((refine ObEq.mk ?_);exact zE))
  by_cases o12:o=12
  ·subst o12
   rw [if_neg (by omega),if_neg (by omega),if_neg (by omega),if_pos rfl]
   generalize mk w.2=m at *
   refine zf Xl ?_
   repeat' ((conv=>whnf);first|(refine SeqP.go ?_)|((refine ObD.mk ?_ ?_);exact zD)|((refine ObN.mk ?_ ?_);exact zN)|(with_reducible first|refine ObT.tt ?_|refine ObT.ff ?_)|((refine ObB.yes ?_ ?_);exact zB)|((refine ObB.no ?_ ?_);exact zC)|((refine ObX.mk _ rfl ?_ ?_);exact zX)|((with_reducible refine (?_:ObL _ _));(refine ObL.mk _ zM ?_))|((with_reducible refine (?_:ObU _ _));(refine ObU.mk _ zU ?_))|((with_reducible refine (?_:ObR _ _ _));(first|(refine ObR.mk _ (by assumption) ?_)|(refine ObR.mk _ (by exact q) ?_)|(refine ObR.mk _ Zv ?_)|(refine ObR.map zX (fun x hx=>?_))|(refine ObR.mk _ rfl ?_)))|((refine ObC.f 40 ?_);(refine ObC.mk _ (c40) ?_))|((refine ObC.f 48 ?_);(refine ObC.mk _ (c48) ?_))|((refine ObEq.mk ?_);exact zE))
  ·have o8 : o = 8 := by omega
   subst o8
   rw [if_neg (by omega),if_neg (by omega),if_neg (by omega),if_neg (by omega)]
   unfold an0
   refine zf Xl ?_
   repeat' ((conv=>whnf);first|(refine SeqP.go ?_)|((refine ObD.mk ?_ ?_);exact zD)|((refine ObN.mk ?_ ?_);exact zN)|(refine ObT.ff ?_)|((refine ObB.no ?_ ?_);exact zC)|((refine ObX.mk _ rfl ?_ ?_);exact zX)|((with_reducible refine (?_:ObU _ _));(refine ObU.mk _ zU ?_))|((with_reducible refine (?_:ObR _ _ _));(first|(refine ObR.mk _ (by assumption) ?_)|(refine ObR.mk _ (by exact q) ?_)|(refine ObR.mk _ Zv ?_)|(refine ObR.map zX (fun x hx=>?_))|(refine ObR.mk _ rfl ?_)))|((refine ObC.f 40 ?_);(refine ObC.mk _ (c40) ?_))|((refine ObEq.mk ?_);exact zE))
end
end Go.Proofs.YtgpldekhcojimaaDoor.Sim
namespace Go.Proofs.YtgpldekhcojimaaDoor.Sim
open Go.RowKit Go.Lib
set_option maxRecDepth 100000
theorem step_app_row {P : Program} {ops : Array Oper} {o : Oper} {a : Act} {w : World} {K : Act → World → Prop} {Q : Exit → Act → World → Prop} {E : Prop}
  (hg:o.guard=none) (s x:Operand) (t:TypeId) (hop:o.op=Op.call { callee:=Callee.builtin Builtin.append,args:=#[s,x],argTypes:=#[t,t] })
  (e:TypeId) (i:TypeInfo) (h1:P.underlying t=some (.slice e)) (h2:P.info? e=some i)
  (b n cap:Nat) (cur:Array Value) (hrow:w.heap[b]? = some (.cells cur e (0,0))) (hs:a.eval s = .slice (some ⟨b,0,none⟩) n cap)
  (ad:Addr) (m c:Nat) (news:List Value) (hx:a.eval x = .slice (some ad) m c) (hn:news.length=m * i.size) (hc:∀ j u,news[j]? = some u→w.cell? (ad.add j)=some u) (h1c:∀ u ∈ news,u.oneCell'=true)
  (hroom:n+m≤cap) (hfit:n * i.size+news.length≤cur.size)
  (hK:K (a.put o.dst (.slice (some ⟨b,0,none⟩) (n+m) cap)) (w.setRow b (cur.toList.take (n * i.size)++news++cur.toList.drop (n * i.size+news.length)).toArray)) :
  if Region.wanted o (yielded ops a.tmps)=true then Oper.wp P o a w K Q else E:=by
 have hw:Region.wanted o (yielded ops a.tmps)=true:=by simp [Region.wanted,hg]
 rw [if_pos hw]
 have hrun:=run_append_room (P:=P) w t o.type e i h1 h2 b n cap cur hrow ad m c news hn hc h1c hroom hfit
 unfold Oper.wp
 simp [execOp,hop,resolve,invoke,builtin,hs,hx,hrun,Result.andThen]
 simp only [List.append_assoc] at hK
 exact hK
theorem run_clear_row {P : Program} (w : World) (t e ty : TypeId) (z : Value) (ht : P.underlying t = some (.slice e)) (hv : ∀ w, (zeroValue e).run P w = .ok z w) (b o n c : Nat) (hn : 0 < n) (cur : Array Value) (hrow : w.heap[b]? = some (.cells cur e (0, 0))) (vs : List Value) (hvs : (Builtin.zeroCells z.cells n).toList = vs) (hfit : o + vs.length ≤ cur.size) (h1 : ∀ u ∈ vs, u.oneCell' = true) :
  (Builtin.clear_ #[t] ty #[.slice (some ⟨b,o,none⟩) n c]).run P w = .ok (.tuple #[]) (w.setRow b (cur.toList.take o++vs++cur.toList.drop (o+vs.length)).toArray):=by
 have hst:=run_storeCells_at P b o e vs 0 cur w hrow (by simpa using hfit) h1
 simp only [Nat.add_zero] at hst
 obtain ⟨m,rfl⟩:∃ m,n=m+1:=⟨n - 1,by omega⟩
 simp [Builtin.clear_,run_underlying ht,hv,hvs,hst]
theorem zero71:∃ z:Value,(∀ w,(zeroValue 71).run (Tryd.prog) w = .ok z w)∧(Builtin.zeroCells z.cells 1).toList=[Value.int .i64 0,Value.slice none 0 0]:=by
 refine ⟨.agg #[Value.int .i64 0,Value.slice none 0 0],fun w=>?_,?_⟩
 ·kernel_rfl
 ·simp [Builtin.zeroCells, Value.cells]
  rfl
theorem und37:(Tryd.prog).underlying 37=some (.slice 71):=by kernel_rfl
theorem inf71:∃ i,(Tryd.prog).info? 71=some i∧i.size=2:=by
 obtain ⟨i,hi⟩:∃ i,i=(Tryd.prog).info? 71:=⟨_,rfl⟩
 have h:((Tryd.prog).info? 71).map (·.size)=some 2:=by kernel_rfl
 cases hq:(Tryd.prog).info? 71 with
 | none=>rw [hq] at h;cases h
 | some i=>rw [hq] at h;exact ⟨i,rfl,by simpa using h⟩
set_option maxHeartbeats 4000000 in
theorem del_row (w : World) (b n C a j : Nat) (hj : j = a + 1) (cur : Array Value) (hg : w.heap[b]? = some (.cells cur 71 (0, 0))) (hsz : cur.size = C * 2) (hm : C ≤ 9223372036854775807) (ha : a < n) (hn : n ≤ C) (h1 : ∀ u ∈ cur.toList.take (n * 2), u.oneCell' = true) :
  Calls Tryd.prog 41 #[.slice (some ⟨b,0,none⟩) n C,.int .i64 a,.int .i64 j] w fun e w'=>e = .returned (.slice (some ⟨b,0,none⟩) (n - 1) C)∧∃ new:Array Value,w'=w.drew.setRow b new∧new.size=cur.size∧(∀ j,j < a * 2→new[j]? = cur[j]?)∧(∀ j,a * 2≤j→j < (n - 1) * 2→new[j]? = cur[j+2]?):=by
 obtain ⟨i0,hi0,hz1⟩:=inf71
 have t37:=und37
 have hmaxl:=hm
 obtain ⟨news,hnews⟩:∃ news,news=(cur.toList.drop (j * 2)).take ((n - j) * 2):=⟨_,rfl⟩
 have hlen:news.length=(n - j) * 2:=by
  rw [hnews,List.length_take,List.length_drop,Array.length_toList,hsz];omega
 have hget:∀ t u,news[t]? = some u→t < (n - j) * 2∧cur[j * 2+t]? = some u:=by
  intro t u ht
  rw [hnews,List.getElem?_take] at ht
  split at ht
  ·rw [List.getElem?_drop, Array.getElem?_toList] at ht
   exact ⟨by assumption,ht⟩
  ·cases ht
 have hcell:∀ j u,cur[j]? = some u→w.drew.cell? ⟨b,j,none⟩=some u:=by
  intro j u hj
  show w.cell? ⟨b,j,none⟩=some u
  simp [World.cell?,hg,hj]
 obtain ⟨A,hA,hsrc⟩:∃ A:Addr,(if C=j then some (⟨b,0,none⟩:Addr) else some ⟨b,j * 2,none⟩)=some A∧Hid (∀ t u,news[t]? = some u→w.drew.cell? (A.add t)=some u):=by
  by_cases h:C=j
  ·refine ⟨⟨b,0,none⟩,by simp [h],fun t u hu=>?_⟩
   have:=(hget t u hu).1;omega
  ·refine ⟨⟨b,j * 2,none⟩,by simp [h],fun t u hu=>?_⟩
   rw [Addr.add_lit]
   exact hcell _ _ (hget t u hu).2
 have s1:Hid (news.length=(n - j) * i0.size):=by rw [hz1];exact hlen
 have s2:Hid (∀ u ∈ news,u.oneCell'=true):=by
  intro u hu
  refine h1 u ?_
  rw [hnews] at hu
  obtain ⟨t,ht⟩:=List.mem_iff_getElem?.1 hu
  obtain ⟨h3,h4⟩:=hget t u (by rw [hnews];exact ht)
  rw [← Array.getElem?_toList] at h4
  refine List.mem_of_getElem? (i:=j * 2+t) ?_
  rw [List.getElem?_take,if_pos (by omega)]
  exact h4
 have s3:Hid (w.drew.heap[b]? = some (.cells cur 71 (0,0))):=hg
 have s4:Hid (a * i0.size+news.length≤cur.size):=by rw [hz1,hlen,hsz];show _≤_;omega
 obtain ⟨new1,hnew1⟩:∃ new1,new1=(cur.toList.take (a * i0.size)++news++cur.toList.drop (a * i0.size+news.length)).toArray:=⟨_,rfl⟩
 have n1s:new1.size=cur.size:=by
  rw [hnew1,hz1]
  simp only [List.size_toArray,List.length_append,List.length_take,List.length_drop,Array.length_toList,hlen,hsz];omega
 obtain ⟨W1,hW1⟩:∃ W1,W1=w.drew.setRow b new1:=⟨_,rfl⟩
 have W1r:W1.heap[b]? = some (.cells new1 71 (0,0)):=by rw [hW1];exact setRow_heap w.drew b cur new1 71 (0,0) hg
 obtain ⟨z,hz,hzc⟩:=zero71
 obtain ⟨new2,hnew2⟩:∃ new2,new2=(new1.toList.take ((a+(n - j)) * 2)++[Value.int .i64 0,Value.slice none 0 0]++new1.toList.drop ((a+(n - j)) * 2+2)).toArray:=⟨_,rfl⟩
 obtain ⟨W2,hW2⟩:∃ W2,W2=W1.setRow b new2:=⟨_,rfl⟩
 have e1:n - (a+(n - j))=1:=by omega
 have hcl:∀ ty,(Builtin.clear_ #[37] ty #[.slice (some ⟨b,(a+(n - j)) * 2,none⟩) (n - (a+(n - j))) (C - (a+(n - j)))]).run (Tryd.prog) W1 = .ok (.tuple #[]) W2:=fun ty=>by
  rw [e1,hW2,hnew2]
  exact run_clear_row W1 37 71 ty z und37 hz b _ 1 _ (by omega) new1 W1r _ hzc (by rw [n1s,hsz];simp;omega) (fun u hu=>by simp at hu;rcases hu with rfl|rfl<;>rfl)
 have X1:Aside (new1=(cur.toList.take (a * i0.size)++news++cur.toList.drop (a * i0.size+news.length)).toArray):=hnew1
 have X2:Aside (new2=(new1.toList.take ((a+(n - j)) * 2)++[Value.int .i64 0,Value.slice none 0 0]++new1.toList.drop ((a+(n - j)) * 2+2)).toArray):=hnew2
 have X3:Aside (news=(cur.toList.drop (j * 2)).take ((n - j) * 2)):=hnews
 have hW:Hid (W1=w.drew.setRow b (cur.toList.take (a * i0.size)++news++cur.toList.drop (a * i0.size+news.length)).toArray):=by rw [← hnew1];exact hW1
 have X4':W2=w.drew.setRow b new2:=by rw [hW2,hW1,setRow_setRow]
 have X4:Aside (W2=w.drew.setRow b new2):=X4'
 have X5:Aside (news.length=(n - j) * 2):=hlen
 clear X4' e1 hW2 hW1 hnew1 hnew2 hnews hget hlen hcell W1r n1s hzc hz
 have hic:a≤C:=by omega
 have hjc:j≤C:=by omega
 have hjn:j≤n:=by omega
 have hlt:a < j:=by omega
 have Hj:Hid (j=a+1):=hj
 clear hj
 go_enter Tryd.func41,Tryd.ntmps41
 go_wp2_with fail
 go_region_law (refine step_app_row rfl (.tmp 22) (.tmp 25) 37 rfl 71 i0 t37 hi0 b a C cur s3.out (by simp [Act.eval,Act.put]) A (n - j) (C - j) news (by simp [Act.eval,Act.put]) s1.out hsrc.out s2.out (by omega) s4.out ?_;rw [← hW.out])
 go_wp2
 go_ret
 have hj:j=a+1:=Hj.out
 have x1:=X1.out
 have x2:=X2.out
 have x3:=X3.out
 have x5:=X5.out
 rw [hz1] at x1
 subst hj
 have c1:cur.toList.length=C * 2:=by rw [Array.length_toList,hsz]
 have e1:(a+(n - (a+1))) * 2=(n - 1) * 2:=by omega
 have l1:new1.toList.length=C * 2:=by
  rw [x1]
  simp only [List.length_append,List.length_take,List.length_drop,c1,x5];omega
 have g1:∀ t,t < (n - 1) * 2→new2[t]? = new1[t]?:=by
  intro t ht
  rw [x2,← Array.getElem?_toList,← Array.getElem?_toList (xs:=new1),e1]
  show (new1.toList.take ((n - 1) * 2)++_++_)[t]? = _
  rw [List.append_assoc,List.getElem?_append_left zq14,List.getElem?_take,if_pos ht]
 have l2:(cur.toList.take (a * 2)).length=a * 2:=by rw [List.length_take];omega
 refine ⟨by rw [show a+(n - (a+1))=n - 1 by omega];rfl,new2,X4.out,?_,fun t ht=>?_,fun t h1 h2=>?_⟩
 ·rw [x2]
  simp only [List.size_toArray,List.length_append,List.length_take,List.length_drop,l1,hsz,List.length_cons,List.length_nil];omega
 ·rw [g1 t (by omega), x1, ← Array.getElem?_toList, ← Array.getElem?_toList (xs := cur)]
  show (cur.toList.take (a * 2)++_++_)[t]? = _
  rw [List.append_assoc,List.getElem?_append_left (by omega),List.getElem?_take,if_pos ht]
 ·rw [g1 t h2, x1, ← Array.getElem?_toList, ← Array.getElem?_toList (xs := cur)]
  show (cur.toList.take (a * 2)++news++_)[t]? = _
  rw [List.append_assoc,List.getElem?_append_right (by omega),List.getElem?_append_left (by rw [l2,x5];omega),l2,x3,List.getElem?_take,if_pos (by omega),List.getElem?_drop]
  congr 1;omega
theorem del41 (G : Nat → AV) (H : Hp) (i g n a : Nat) (es : List AV) (hi : H[i]? = some ⟨71, 2, es, g, 0⟩) (ha : a < n) (hn : n ≤ es.length) (hml : es.length ≤ 1000000) :
  HC Tryd.prog G 41 [.ol i g n,I a,I ((a:Int)+1)] H (.ol i (g+1) (n - 1)) (H.set i ⟨71,2,es.take a++(es.take n).drop (a+1),g+1,0⟩):=by
 intro B w0 F0 F O w xs hO hG hl hv
 obtain ⟨x0,x1,x2,rfl⟩:∃ x0 x1 x2,xs=[x0,x1,x2]:=by
  match xs,hl with
  | [x0,x1,x2],_=>exact ⟨x0,x1,x2,rfl⟩
 have v0:=hv 0 x0 _ rfl rfl
 have v1:=hv 1 x1 _ rfl rfl
 have v2:=hv 2 x2 _ rfl rfl
 have k1:x1 = .int .i64 a:=by
  cases v1 with
  | p h=>cases h;rfl
 have k2:x2 = .int .i64 (a+1:Nat):=by
  cases v2 with
  | p h=>cases h;rfl
 subst k1;subst k2
 have hlv:Sim.live H i g=some ⟨71,2,es,g,0⟩:=by
  simp [Sim.live,hi]
 obtain ⟨d,hd,hi',r,hnC,rfl⟩:=hO.ol v0 hlv
 obtain ⟨cur,hcur,hsz,hcc⟩:=r.cur
 dsimp only at hcur hsz hcc
 have hmC:d.C≤9223372036854775807:=by have:=r.hC;rw [ZQ] at this;exact this
 have hone:∀ u ∈ cur.toList.take (n * 2),u.oneCell'=true:=by
  intro u hu
  obtain ⟨t,ht⟩:=List.mem_iff_getElem?.1 hu
  rw [List.getElem?_take] at ht
  split at ht
  ·rename_i htn
   have hp:t / 2 < es.length:=by omega
   have hc2:=r.hn es[t / 2] (List.getElem_mem hp)
   dsimp only at hc2
   have hq:t % 2 < es[t / 2].cells.length:=by rw [hc2];omega
   obtain ⟨c,g1,g2⟩:=hcc (t / 2) (t % 2) _ _ (List.getElem?_eq_getElem hp) (List.getElem?_eq_getElem hq)
   rw [show t / 2 * 2+t % 2=t by omega] at g1
   rw [Array.getElem?_toList,g1] at ht
   cases ht
   exact g2.oneCell (r.h1 _ (List.getElem_mem hp) _ (List.getElem_mem hq))
  ·cases ht
 refine (del_row w d.b n d.C a (a+1) rfl cur hcur hsz hmC ha hnC hone).mono ?_
 rintro e w' ⟨rfl,new,rfl,hns,hlo,hhi⟩
 have hO':Own B w0 F0 F O H w.drew:=hO.keep (Below.refl _ w).drew
 have tl:(es.take a++(es.take n).drop (a+1)).length=n - 1:=by simp;omega
 have sub:∀ x ∈ es.take a++(es.take n).drop (a+1),x ∈ es:=by
  intro x hx
  rcases List.mem_append.1 hx with hx|hx
  ·exact List.mem_of_mem_take hx
  ·exact List.mem_of_mem_take (List.mem_of_mem_drop hx)
 have at_:∀ (p:Nat) (x:AV),(es.take a++(es.take n).drop (a+1))[p]? = some x→p < n - 1∧es[if p < a then p else p+1]? = some x:=by
  intro p x hx
  have hp:p < n - 1:=by rw [← tl];exact (List.getElem?_eq_some_iff.1 hx).1
  refine ⟨hp,?_⟩
  have la:(es.take a).length=a:=by rw [List.length_take];omega
  by_cases hpa:p < a
  ·rw [List.getElem?_append_left (by omega), List.getElem?_take, if_pos hpa] at hx
   rw [if_pos hpa];exact hx
  ·rw [List.getElem?_append_right (by omega), la, List.getElem?_drop, List.getElem?_take, if_pos (by omega)] at hx
   rw [if_neg hpa,← hx];congr 1;omega
 obtain ⟨q1,q2⟩:=hO'.write (i:=i) (ob:=⟨71,2,es,g,0⟩) (d:=d) hi' hd (new:=new) (g':=g+1) (es':=es.take a++(es.take n).drop (a+1)) (Nat.le_succ _) (by rw [tl];omega) (by rw [hns,hsz])
  (fun x hx=>r.hn x (sub x hx)) (fun x hx=>r.h1 x (sub x hx)) (Nat.zero_le _)
  (fun p q x u hx hu=>by
   obtain ⟨hp,he⟩:=at_ p x hx
   have hxc:x.cells.length=2:=r.hn x (sub x (List.mem_of_getElem? hx))
   have hq:q < 2:=by rw [← hxc];exact (List.getElem?_eq_some_iff.1 hu).1
   obtain ⟨c,g1,g2⟩:=hcc _ q x u he hu
   refine ⟨c,?_,g2⟩
   dsimp only
   by_cases hpa:p < a
   ·rw [if_pos hpa] at g1
    rw [hlo _ (by omega)];exact g1
   ·rw [if_neg hpa] at g1
    rw [hhi _ (by omega) (by omega),← g1];congr 1;omega)
  (fun o u hu=>by
   have:=r.hf o u hu
   dsimp only at this
   omega)
 have hd':(O.set i ⟨d.b,d.C,g+1,d.k⟩)[i]? = some ⟨d.b,d.C,g+1,d.k⟩:=by
  rw [List.getElem?_set_self (List.getElem?_eq_some_iff.1 hd).1]
 exact ⟨_,rfl,F,_,.ol _ _ _ _ ⟨d.b,d.C,g+1,d.k⟩ hd' (Nat.le_refl _) ⟨_,_,rfl⟩ (fun _=>⟨by show n - 1≤d.C;omega,rfl⟩),q1,Fz.le_refl F,q2⟩
end Go.Proofs.YtgpldekhcojimaaDoor.Sim
namespace Go.Proofs.YtgpldekhcojimaaDoor.Sim
open Go.RowKit Go.Lib
set_option maxRecDepth 100000
def OkC (P:Program) (G:Nat→AV) (m:Nat) (c:Code) (v:(EX→St→Prop)→St→Prop):Prop :=
 ∀ (B:Bd) (w0:World) (F0 F1:Fz) (O1:Ow),O1.length≤m→∀ (Q:EX→St→Prop) (Q':Exit→Act→World→Prop) (st:St) (a:Act) (w:World) (F:Fz) (O:Ow),v Q st→Rl G B w0 F0 F1 O1 F O st a w →
  (∀ e st' a' w' F' O',Q e st'→Rl G B w0 F0 F1 O1 F' O' st' a' w'→Q' e.out a' w')→c.wp P Q' a w
section
variable {P:Program} {G:Nat→AV} {m N:Nat} {hs:List FuncId}
theorem OkC.of {c:Code} {ac:AC} (h:ZJ P hs c=some ac):OkC P G m c (V P G m ac) :=
 fun B w0 F0 F1 O1 hm Q Q' st a w F O hv hr hQ=>V_ok hm c ac h Q Q' st a w F O hv hr hQ
theorem OkC.seq {x y:Code} {vx vy:(EX→St→Prop)→St→Prop} (hx:OkC P G m x vx) (hy:OkC P G m y vy):OkC P G m (.seq x y) (fun Q st=>vx (ZR (SeqP m (vy Q)) Q) st):=by
 intro B w0 F0 F1 O1 hm Q Q' st a w F O h hr hQ
 refine wp_seq (hx B w0 F0 F1 O1 hm _ _ st a w F O h hr fun e st' a' w' F' O' he hr'=>?_)
 cases e with
 | n =>
  rcases he with he|⟨st2,hf,he⟩|⟨i,n,cv,he⟩|⟨ss,cv,he⟩
  ·exact hy B w0 F0 F1 O1 hm Q Q' st' a' w' F' O' he hr' hQ
  ·obtain ⟨O2, hr2⟩ := hr'.forget hm hf
   exact hy B w0 F0 F1 O1 hm Q Q' st2 a' w' F' O2 he hr2 hQ
  ·obtain ⟨s', H'⟩ := st'
   obtain ⟨st2,F2,he,hr2⟩:=fzK_ok he hr'
   exact hy B w0 F0 F1 O1 hm Q Q' st2 a' w' F2 O' he hr2 hQ
  ·obtain ⟨s', H'⟩ := st'
   obtain ⟨st2,he,hr2⟩:=nlK_ok he hr'
   exact hy B w0 F0 F1 O1 hm Q Q' st2 a' w' F' O' he hr2 hQ
 | x id=>exact hQ (.x id) st' a' w' F' O' he hr'
 | r=>exact hQ .r st' a' w' F' O' he hr'
inductive ObClr (e k s0 s5 d1 d2 d3:Nat) (K:St→Prop) (st:St):Prop
 | mk (i g n lo : Nat) (es : List AV) (fz : Nat) (h1 : st.s.getD s0 zK = .ol i g n) (h2 : st.s.getD s5 zK = .v (.int .i64 lo)) (h3 : st.H[i]? = some ⟨e, k, es, g, fz⟩) (h4 : lo < n) (h5 : n = es.length) (h6 : fz ≤ lo)
   (hk:K ⟨((st.s.set d1 (.ol i g n)).set d2 (.v (.int .i64 lo))).set d3 (.os i g lo n),st.H.set i ⟨e,k,es.take lo,g,fz⟩⟩):ObClr e k s0 s5 d1 d2 d3 K st
theorem clr_wp {o : Oper} {a : Act} {w W2 : World} {K : Act → World → Prop} {Q : Exit → Act → World → Prop} {t ty : Nat} {x : Value} (hop : o.op = Op.call { callee := .builtin .clear, args := #[.tmp t], argTypes := #[ty] }) (hd : o.dst = none)
  (he:a.eval (.tmp t)=x) (hrun:∀ y,(Builtin.clear_ #[ty] y #[x]).run P w = .ok (.tuple #[]) W2) (hK:K a W2):o.wp P a w K Q:=by
 unfold Oper.wp
 simp [execOp,hop,resolve,invoke,builtin,he,hrun,Result.andThen,hd]
 show K (a.put o.dst _) W2
 rw [hd]
 exact hK
theorem clr_row {B : Bd} {w0 : World} {F0 F1 : Fz} {O1 : Ow} {F : Fz} {O : Ow} {st : St} {a : Act} {w : World} (h : Rl G B w0 F0 F1 O1 F O st a w) {e k i g n lo fz d3 : Nat} {es : List AV} {ty : TypeId} (h3 : st.H[i]? = some ⟨e, k, es, g, fz⟩) (h4 : lo < n) (h5 : n = es.length) (h6 : fz ≤ lo)
  (ht:P.underlying ty=some (.slice e)) (z:Value) (hz:∀ w,(zeroValue e).run P w = .ok z w) (hzk:z.cells.size=k) (hz1:∀ u ∈ z.cells.toList,u.oneCell'=true)
  (hs:VR F O (a.tmps.getD d3 undef) (.os i g lo n)) :
  ∃ W2 O2,(∀ y,(Builtin.clear_ #[ty] y #[a.tmps.getD d3 undef]).run P w = .ok (.tuple #[]) W2)∧Rl G B w0 F0 F1 O1 F O2 ⟨st.s,st.H.set i ⟨e,k,es.take lo,g,fz⟩⟩ a W2:=by
 obtain ⟨d,hd,r⟩:=h.own.get h3
 obtain ⟨cur,hcur,hsz,hcc⟩:=r.cur
 dsimp only at hcur hsz hcc
 have hg:g=d.g:=r.hg.symm
 have hk:d.k=k:=r.hk
 have hl:es.length≤d.C:=r.hl
 obtain ⟨hx,-⟩:a.tmps.getD d3 undef = .slice (some ⟨d.b,lo * k,none⟩) (n - lo) (d.C - lo)∧True:=by
  generalize a.tmps.getD d3 undef=y at hs ⊢
  cases hs with
  | p h=>cases h
  | os x _ _ _ _ d' hd' hg' h1 hh =>
   rw [hd] at hd'
   cases hd'
   obtain ⟨_,q2,A,q3,q4⟩:=hh hg
   rw [q3,q4 (by omega),hk]
   exact ⟨rfl,trivial⟩
 obtain ⟨vs,hvs⟩:∃ vs,(Builtin.zeroCells z.cells (n - lo)).toList=vs:=⟨_,rfl⟩
 have hzl:∀ c,(Builtin.zeroCells z.cells c).toList.length=c * k∧∀ u ∈ (Builtin.zeroCells z.cells c).toList,u ∈ z.cells.toList:=by
  intro c
  have e1:(Builtin.zeroCells z.cells c).size=c * k:=by simp [Builtin.zeroCells,hzk]
  refine ⟨by rw [Array.length_toList,e1],fun u hu=>?_⟩
  obtain ⟨x,hx⟩:=List.mem_iff_getElem?.1 hu
  rw [Array.getElem?_toList] at hx
  have hxl:x < c * z.cells.size:=by
   have:=(Array.getElem?_eq_some_iff.1 hx).1
   rw [e1] at this;rw [hzk];exact this
  rw [Yf z.cells c x hxl,← Array.getElem?_toList] at hx
  exact List.mem_of_getElem? hx
 have hvl:vs.length=(n - lo) * k:=by rw [← hvs];exact (hzl _).1
 have hvo:∀ u ∈ vs,u.oneCell'=true:=fun u hu=>hz1 u ((hzl (n - lo)).2 u (by rw [hvs];exact hu))
 have hsum:lo * k+(n - lo) * k=n * k:=by rw [← Nat.add_mul];congr 1;omega
 have hnk:n * k≤d.C * k:=Nat.mul_le_mul_right k (by omega)
 have hrun:∀ y,(Builtin.clear_ #[ty] y #[a.tmps.getD d3 undef]).run P w = .ok (.tuple #[]) (w.setRow d.b (cur.toList.take (lo * k)++vs++cur.toList.drop (lo * k+vs.length)).toArray):=fun y=>by
  rw [hx]
  exact run_clear_row w ty e y z ht hz d.b (lo * k) (n - lo) (d.C - lo) (by omega) cur hcur vs hvs (by rw [hvl,hsz];omega) hvo
 have tl:(cur.toList.take (lo * k)).length=lo * k:=by
  rw [List.length_take,Array.length_toList,hsz];omega
 obtain ⟨q1,q2⟩:=h.own.write (i:=i) (ob:=⟨e,k,es,g,fz⟩) (d:=d) h3 hd (new:=(cur.toList.take (lo * k)++vs++cur.toList.drop (lo * k+vs.length)).toArray) (g':=g) (es':=es.take lo) (Nat.le_refl _) zq14
  (by simp only [List.size_toArray,List.length_append,tl,hvl,List.length_drop,Array.length_toList,hsz];omega)
  (fun x hx=>r.hn x (List.mem_of_mem_take hx)) (fun x hx=>r.h1 x (List.mem_of_mem_take hx)) (by rw [List.length_take];show fz≤_;omega)
  (fun p q x u hxp hu=>by
   rw [List.getElem?_take] at hxp
   split at hxp
   ·rename_i hp
    obtain ⟨c,g1,g2⟩:=hcc p q x u hxp hu
    have hq:q < k:=by
     have:=r.hn x (List.mem_of_getElem? hxp)
     rw [← show x.cells.length=k from this]
     exact (List.getElem?_eq_some_iff.1 hu).1
    have hpq:p * k+q < lo * k:=by
     have:(p+1) * k≤lo * k:=Nat.mul_le_mul_right k hp
     rw [Nat.succ_mul] at this;omega
    refine ⟨c,?_,g2⟩
    dsimp only
    rw [List.getElem?_toArray,List.append_assoc,List.getElem?_append_left (by omega),List.getElem?_take,if_pos hpq,Array.getElem?_toList]
    exact g1
   ·cases hxp)
  (fun o u hu=>by
   have ho:=r.hf o u hu
   dsimp only at ho
   have hc:=h.own.fr _ _ _ hu
   have hf2:fz * k≤lo * k:=Nat.mul_le_mul_right k h6
   rw [List.getElem?_toArray,List.append_assoc,List.getElem?_append_left (by omega),List.getElem?_take,if_pos (by omega),Array.getElem?_toList]
   simpa [World.cell?,hcur] using hc)
 exact ⟨_,_,hrun,q1,h.size,fun t=>(h.slot t).mono (Fz.le_refl F) q2,h.defs,h.gok,h.leF,Ow.le_trans h.leO q2⟩
theorem AWs_okK {ops : Array Oper} {Q : Exit → Act → World → Prop} {B : Bd} {w0 : World} {F0 F1 : Fz} {O1 : Ow} {k : St → Prop} {rest : List Nat} (hK : ∀ st' a' w' F' O', k st' → Rl G B w0 F0 F1 O1 F' O' st' a' w' → wpOps P ops Q rest a' w') :
  ∀ (l:List Nat) (aS:List AI),l.length=aS.length→(∀ (j i:Nat) (ai:AI),l[j]? = some i→aS[j]? = some ai→∃ o,ops[i]? = some o∧Xz P hs ops o=some ai) →
  ∀ (st:St) (a:Act) (w:World) (F:Fz) (O:Ow),AWs P G aS k st→Rl G B w0 F0 F1 O1 F O st a w→wpOps P ops Q (l++rest) a w
 | [],[],_,_,st,a,w,F,O,hk,h=>hK st a w F O hk h
 | [],_::_,hl,_,_,_,_,_,_,_,_=>by simp at hl
 | _::_,[],hl,_,_,_,_,_,_,_,_=>by simp at hl
 | i::l,ai::aS,hl,hop,st,a,w,F,O,hk,h=>by
  rw [List.cons_append,wpOps_cons]
  obtain ⟨o,ho,hc⟩:=hop 0 i ai rfl rfl
  simp only [AWs] at hk
  exact AWi_ok ho hc h hk fun st' a' w' F' O' hk' h'=>AWs_okK hK l aS (by simpa using hl) (fun j i ai hj ha=>hop (j+1) i ai hj ha) st' a' w' F' O' hk' h'
theorem OkC.clr {id : Nat} {ops : Array Oper} {o0 o1 o2 o3 : Oper} {e k s0 s5 d1 d2 d3 ty : Nat} (hops : ops.toList = [o0, o1, o2, o3]) (c0 : Xz P hs ops o0 = some ⟨some d1, .mv (.t s0), none⟩) (c1 : Xz P hs ops o1 = some ⟨some d2, .mv (.t s5), none⟩)
  (c2:Zt P hs o2=some (.slc k (.t d1) (some (.t d2)) none)) (g2:o2.guard=none) (e2:o2.dst=some d3) (g3:o3.guard=none) (e3:o3.dst=none) (c3:o3.op=Op.call { callee:=.builtin .clear,args:=#[.tmp d3],argTypes:=#[ty] })
  (n12:d1 ≠ d2) (n15:d1 ≠ s5) (ht:P.underlying ty=some (.slice e)) (z:Value) (hz:∀ w,(zeroValue e).run P w = .ok z w) (hzk:z.cells.size=k) (hz1:∀ u ∈ z.cells.toList,u.oneCell'=true) (hdl:d1 < N∧d2 < N∧d3 < N) :
  OkC P G m (.region id ops false) (fun Q st=>st.s.length=N∧ObClr e k s0 s5 d1 d2 d3 (Q .n) st):=by
 intro B w0 F0 F1 O1 hm Q Q' st a w F O hv hr hQ
 obtain ⟨hlen,i,g,n,lo,es,fz,h1,h2,h3,h4,h5,h6,hk⟩:=hv
 have hsz:ops.size=4:=by rw [← Array.length_toList,hops];rfl
 have at_:∀ (j:Nat) (o:Oper),[o0,o1,o2,o3][j]? = some o→ops[j]? = some o:=fun j o h=>by rw [← Array.getElem?_toList,hops];exact h
 have E1:((st.s.set d1 (.ol i g n)).set d2 (.v (.int .i64 lo))).getD d1 zK = .ol i g n:=by
  rw [List.getD_eq_getElem?_getD,List.getElem?_set_ne (Ne.symm n12),List.getElem?_set_self (by omega)];rfl
 have E2:((st.s.set d1 (.ol i g n)).set d2 (.v (.int .i64 lo))).getD d2 zK = .v (.int .i64 lo):=by
  rw [List.getD_eq_getElem?_getD,List.getElem?_set_self (by simp;omega)];rfl
 refine wp_region ?_
 rw [hsz]
 show wpOps P ops Q' ([0,1]++[2,3]) a w
 refine AWs_okK (hs:=hs) (G:=G) (k:=fun st'=>st'=⟨(st.s.set d1 (.ol i g n)).set d2 (.v (.int .i64 lo)),st.H⟩) (fun st' a' w' F' O' hk' hr'=>?_) [0,1] [⟨some d1,.mv (.t s0),none⟩,⟨some d2,.mv (.t s5),none⟩] rfl (fun j i ai hj ha=>?_) st a w F O ?_ hr
 ·subst hk'
  rw [wpOps_cons]
  unfold wpOp
  rw [at_ 2 o2 rfl]
  have hw2:Region.wanted o2 (yielded ops a'.tmps)=true:=by simp [Region.wanted,g2]
  simp only [hw2,if_true]
  refine .inl (AWop_slo (hs:=hs) (G:=G) (k:=fun r H'=>r = .os i g lo n∧H'=st.H) c2 hr' ?_ fun r H' x w2 hk2 hout=>?_)
  ·have hv : Sim.live st.H i g = some ⟨e, k, es, g, fz⟩ := by simp [Sim.live, h3]
   unfold zK at E1 E2
   simp only [Ye,eff,AX.ev,E1,E2]
   have hi:zH (.v (.int .i64 lo))=some (lo:Int):=rfl
   simp only [hi,Xw,hv,Int.toNat_natCast]
   rw [if_pos ⟨trivial,by omega,by omega⟩]
   exact ⟨rfl,rfl⟩
  ·obtain ⟨rfl, rfl⟩ := hk2
   obtain ⟨F2,O2,hr2⟩:=hr'.put (d:=o2.dst) hout
   rw [wpOps_cons]
   unfold wpOp
   rw [at_ 3 o3 rfl]
   have hw3:Region.wanted o3 (yielded ops (a'.put o2.dst x).tmps)=true:=by simp [Region.wanted,g3]
   simp only [hw3,if_true]
   refine .inl ?_
   rw [e2] at hr2 ⊢
   have hs3:=hr2.slot d3
   have E3:(St.put ⟨(st.s.set d1 (.ol i g n)).set d2 (.v (.int .i64 lo)),st.H⟩ (some d3) (.os i g lo n) st.H).s.getD d3 zK = .os i g lo n:=by
    show (((st.s.set d1 (.ol i g n)).set d2 (.v (.int .i64 lo))).set d3 (.os i g lo n)).getD d3 zK=_
    rw [List.getD_eq_getElem?_getD,List.getElem?_set_self (by simp;omega)];rfl
   rw [E3] at hs3
   obtain ⟨W2,O3,hrun,hr3⟩:=clr_row hr2 (d3:=d3) h3 h4 h5 h6 ht z hz hzk hz1 hs3
   exact clr_wp c3 e3 rfl hrun (hQ .n _ _ _ _ _ hk hr3)
 ·match j with
  | 0=>cases hj;cases ha;exact ⟨o0,at_ 0 o0 rfl,c0⟩
  | 1=>cases hj;cases ha;exact ⟨o1,at_ 1 o1 rfl,c1⟩
  | _+2=>cases hj
 ·have E0 : (st.s.set d1 (.ol i g n)).getD s5 zK = .v (.int .i64 lo) := by
   rw [List.getD_eq_getElem?_getD,List.getElem?_set_ne n15,← List.getD_eq_getElem?_getD];exact h2
  unfold zK at h1 E0
  show _=_
  simp only [St.put,AX.ev,h1,E0]
theorem hc_ofOk {f : FuncId} {fn : Func} {c : Code} {ts : List RS} {v : (EX → St → Prop) → St → Prop} (hfn : P.funcs[f]? = some fn) (hc : fn.body = some c) (hts : yp P fn.results.toList = some ts) {aS : List AV} {H : Hp} {r : AV} {H' : Hp} (hm : H.length = m) (hv : OkC P G m c v)
  (h:yq aS fn.ntmps (fun s=>v (EndH m ts r H') ⟨s,H⟩)):HC P G f aS H r H':=by
 intro B w0 F0 F O w xs hown0 hg hl hvr
 have hown:=hown0.ds []
 rw [yO] at h
 have hO:O.length≤m:=by rw [hown.len,hm];exact Nat.le_refl _
 refine calls_of_wp hfn hc (hv _ _ _ _ _ hO _ _ _ _ _ F O h (y4 hown hg hl hvr) fun e st' a' w' F' O' he hr=>?_)
 have key:∀ {s:List AV} {H1:Hp},st'=⟨s,H1⟩→rsK s H1 ts (fun vs=>wC vs (fun v=>ObEnd m v r H1 H'))→a'.defers=[]∧∃ v,(results fn a'.tmps).run P w' = .ok v w'∧∃ v1,(Ending.returned v) = .returned v1∧Out B w0 F0 F O r H' v1 w':=by
  intro s H1 hst hx
  obtain ⟨vs,hvs,hx⟩:=YN hx
  rw [Y3] at hx
  subst hst
  obtain ⟨ys,y1,y2,y3⟩:=ZT hr hts hvs
  rcases hx with ⟨hrs,hH⟩|⟨T,hrr,vw,hb⟩
  ·refine ⟨hr.defs, _, y1, _, rfl, F', O', ?_, by rw [← hH]; exact hr.own.ds B.ds, hr.leF, hr.leO⟩
   rw [← hrs]
   exact Yy y2 y3
  ·obtain ⟨O2, own, hto⟩ := hr.own.view vw
   exact ⟨hr.defs,_,y1,_,rfl,F',O2,(Yy y2 y3).rnB hto hrr,own.ds B.ds,hr.leF,Xd hr.own hO hr.leO hto hb⟩
 cases e with
 | n=>exact key rfl he
 | r=>exact key rfl he
 | x id=>exact he.elim
end
end Go.Proofs.YtgpldekhcojimaaDoor.Sim
namespace Go.Proofs.YtgpldekhcojimaaDoor.Sim
open Go.RowKit
set_option maxRecDepth 100000
open Pr7
def pS (m:Nat) (a:List Pr):AV:=match a with|[]=>.nl 2|x::t=>.ol m 0 (t.length+1)
def pH (a:List Pr):Hp:=match a with|[]=>[]|x::t=>[⟨65,2,(x::t).map pA,0,0⟩]
theorem yZ (l:List Pr):(l.map pA).all nrB=true:=by simp [pA,nrB,AV.cells]
theorem p_snocX {l:List Pr} {x:Pr}:(l.map pA).take l.length++[.agg [S x.1,S x.2]]=(l++[x]).map pA:=by
 rw [List.take_of_length_le (by simp)];simp [pA]
theorem mk_ne {l:List Pr} (h:l ≠ []):mk l ≠ []:=by
 intro e
 obtain ⟨l',p,rfl⟩:∃ l' p,l=l'++[p]:=⟨l.dropLast,l.getLast h,(List.dropLast_concat_getLast h).symm⟩
 have h1:=y7 (l'++[p]) p.1
 rw [e,val_nil,Yi,val_one,if_pos rfl] at h1
 cases h1
section
variable (G:Nat→AV)
set_option maxHeartbeats 4000000 in
theorem mkr (l:List Pr) (hl:Okl l) (h40:l.length≤40) (h0:l ≠ []):HC Tryd.prog G 48 [.sl 2 (l.map pA)] [] (.ol 0 1 (mk l).length) [⟨65,2,(mk l).map pA,1,0⟩]:=by
 have hlen:=hl.len
 have hc:=wm G l hl h0 []
 simp only [List.nil_append,List.length_nil] at hc
 have np:=yZ l
 by_cases hs:SLt l
 ·have hi := is11 G l hl true (by simp [hs])
  rw [xB hs]
  refine YF wL rfl ?_
  repeat' ((conv=>whnf);first|(with_reducible first|refine SeqP.go ?_|refine ObT.tt ?_)|((refine ObC.f 78 ?_);(refine ObC.mk _ (hi) ?_))|((refine ObH.f 65 ?_);(first|(with_reducible refine ObH.mk _ _ (hc) ?_)|(refine ObH.mk _ _ (hc) ?_)))|(exact ObEnd.eq rfl rfl))
  all_goals conv=>whnf
  all_goals refine ObEnd.vw [(1,0,1)] rfl ?_ (by simp) ?_
  all_goals skip
 ·have hi := is11 G l hl false (by simp [hs])
  have ho:=sort28 G (fun g n P A B R N a m b=>sym44 G g n P A B R N a m b) l 1 hl h40
  have hml:=lasts_mk l
  have hSl:(z7 l).length=l.length:=ZM
  have hSle:=Zw l
  rw [← hml]
  refine YF wL rfl ?_
  repeat' ((conv=>whnf);first|(with_reducible first|refine SeqP.go ?_|refine ObT.ff ?_)|((refine ObC.f 78 ?_);(refine ObC.mk _ (hi) ?_))|((refine ObH.f 65 ?_);(first|(with_reducible refine ObH.mk _ _ (hc) ?_)|(refine ObH.mk _ _ (hc) ?_)))|((refine ObH.f 79 ?_);(first|(with_reducible refine ObH.mk _ _ (ho) ?_)|(refine ObH.mk _ _ (ho) ?_))))
  conv=>whnf
  have nD:=yZ (z7 l)
  rw [← hSl]
  generalize z7 l=D at *
  have hDl:D.length≤40:=by omega
  refine LoopP.go (α:=Nat × List Pr) (fun p=>p.1≤D.length∧ZD D=p.2++ZD (D.drop p.1)) (fun p=>D.length - p.1) (fun p=>[(4,some (pS 1 p.2)),(0,none),(0,none),(10,some (I p.1)),(0,none),(0,none),(0,none),(0,none),(0,none),(0,none),(0,none),(0,none),(0,none),(0,none),(0,none),(0,none),(0,none),(0,none),(0,none),(0,none),(0,none),(0,none),(0,none),(0,none),(0,none),(0,none),(0,none),(0,none),(0,none)]) (fun p=>[⟨65,2,D.map pA,1,0⟩]++pH p.2) (0,[]) ⟨Nat.zero_le _,rfl⟩ (Fg.go ?_ rfl) ?_
  ·repeat' ((conv=>whnf);first|((refine ObEqs.mk ?_ ?_);rfl)|((with_reducible refine ObEq1.i ?_ ?_);exact zF)|((with_reducible refine ObEq1.mk ?_ ?_);exact zE)|exact True.intro)
  rintro ⟨k,pre⟩ ⟨hk,hla⟩
  dsimp only at hk hla ⊢
  have hpl:pre.length≤40:=by
   have h2:=(ZX D).length_le
   rw [hla,List.length_append] at h2
   omega
  by_cases hkl:k < D.length
  ·have q := zO hkl
   rw [YQ hkl] at hla
   have hkk:=lasts_sort hSle hkl
   by_cases hr:fk (D[k]).1 (D.drop (k+1))=[]
   ·rw [if_pos hr] at hla
    have h2:=hkk.1 hr
    have hla2:ZD D=(pre++[D[k]])++ZD (D.drop (k+1)):=by rw [hla];simp
    by_cases he:k+1=D.length
    ·have he2 : (k : Int) + 1 = (D.length : Int) := by omega
     generalize D[k]=x at *
     rcases pre with _|⟨p0,pt⟩
     ·have r1 := yZ [x]
      repeat' ((conv=>whnf);first|(refine SeqP.go ?_)|((refine ObD.mk ?_ ?_);exact zD)|((refine ObN.mk ?_ ?_);exact zN)|(refine ObT.tt ?_)|((refine ObB.yes ?_ ?_);exact zB)|((with_reducible refine ObI.nl ?_ ?_);omega)|((refine ObX.mk _ rfl ?_ ?_);exact zX)|((with_reducible refine (?_:ObL _ _));(refine ObL.mk _ zM ?_))|((with_reducible refine (?_:ObU _ _));(refine ObU.mk _ zU ?_))|((with_reducible refine (?_:ObR _ _ _));(first|(refine ObR.mk _ (by assumption) ?_)|(refine ObR.mk _ (by exact q) ?_)|(refine ObR.mk _ Zv ?_)|(refine ObR.map zX (fun x hx=>?_))|(refine ObR.mk _ rfl ?_)))|((with_reducible refine ObW.cons ?_ ?_);(focus (first|assumption|(simp;done)))))
      conv=>whnf
      refine Again.mk (k+1,[x]) ⟨by dsimp only;omega,hla2⟩ ?_ (Fg.vw [(1,0,1),(0,3,0)] ?_ ?_ (by simp) ?_)
      ·dsimp only;omega
      all_goals repeat' ((conv=>whnf);first|((with_reducible refine ObRn.mk ?_ ?_);(focus (simp [rnB,rnC,rnA,rnT,pS];done)))|((refine ObN.mk ?_ ?_);exact zN)|((with_reducible refine ObRow.same ?_ ?_ ?_);exact zE;(focus (first|rfl|assumption|(simp;done))))|((refine ObEqs.mk ?_ ?_);rfl)|exact True.intro)
     ·have r1 := yZ ((p0 :: pt) ++ [x])
      have r2:=yZ (p0::pt)
      have hpl2:pt.length+1≤40:=hpl
      have us:((p0::pt).map pA).take (pt.length+1)++[.agg [S x.1,S x.2]]=((p0::pt)++[x]).map pA:=p_snocX (l:=p0::pt)
      repeat' ((conv=>whnf);first|(refine SeqP.go ?_)|((refine ObD.mk ?_ ?_);exact zD)|((refine ObN.mk ?_ ?_);exact zN)|(refine ObT.tt ?_)|((refine ObB.yes ?_ ?_);exact zB)|((with_reducible refine ObI.nl ?_ ?_);omega)|((refine ObX.mk _ rfl ?_ ?_);exact zX)|((with_reducible refine (?_:ObL _ _));(refine ObL.mk _ zM ?_))|((with_reducible refine (?_:ObU _ _));(refine ObU.mk _ zq1 ?_))|((with_reducible refine (?_:ObR _ _ _));(first|(refine ObR.mk _ (by assumption) ?_)|(refine ObR.mk _ (by exact q) ?_)|(refine ObR.mk _ Zv ?_)|(refine ObR.map zX (fun x hx=>?_))|(refine ObR.mk _ rfl ?_))))
      conv=>whnf
      refine Again.mk (k+1,(p0::pt)++[x]) ⟨by dsimp only;omega,hla2⟩ ?_ (Fg.vw [(1,0,1),(0,1,1)] ?_ ?_ (by simp) ?_)
      ·dsimp only;omega
      all_goals repeat' ((conv=>whnf);first|((with_reducible refine ObRn.mk ?_ ?_);(focus (simp [rnB,rnC,rnA,rnT,pS];done)))|((refine ObN.mk ?_ ?_);exact zN)|((with_reducible refine ObRow.same ?_ ?_ ?_);exact zE;(focus (first|rfl|assumption|(simp;done))))|((refine ObEqs.mk ?_ ?_);rfl)|exact True.intro)
    ·have he2 : ¬ (k : Int) + 1 = (D.length : Int) := by omega
     have hk1:k+1 < D.length:=by omega
     have q2:=zO hk1
     have h3:=h2 hk1
     generalize D[k]=x at *
     generalize D[k+1]=w at *
     have h4:¬ w.1=x.1:=h3
     rcases pre with _|⟨p0,pt⟩
     ·have r1 := yZ [x]
      repeat' ((conv=>whnf);first|(refine SeqP.go ?_)|((refine ObD.mk ?_ ?_);exact zD)|((refine ObN.mk ?_ ?_);exact zN)|(with_reducible first|refine ObT.tt ?_|refine ObT.ff ?_)|((refine ObB.yes ?_ ?_);exact zB)|((refine ObB.no ?_ ?_);exact zC)|((with_reducible refine ObI.nl ?_ ?_);omega)|((refine ObX.mk _ rfl ?_ ?_);exact zX)|((with_reducible refine (?_:ObL _ _));(refine ObL.mk _ zM ?_))|((with_reducible refine (?_:ObU _ _));(refine ObU.mk _ zU ?_))|((with_reducible refine (?_:ObR _ _ _));(first|(refine ObR.mk _ (by assumption) ?_)|(refine ObR.mk _ (by exact q) ?_)|(refine ObR.mk _ (by exact q2) ?_)|(refine ObR.mk _ Zv ?_)|(refine ObR.map zX (fun x hx=>?_))|(refine ObR.mk _ rfl ?_)))|((with_reducible refine ObW.cons ?_ ?_);(focus (first|assumption|(simp;done)))))
      conv=>whnf
      refine Again.mk (k+1,[x]) ⟨by dsimp only;omega,hla2⟩ ?_ (Fg.vw [(1,0,1),(0,3,0)] ?_ ?_ (by simp) ?_)
      ·dsimp only;omega
      all_goals repeat' ((conv=>whnf);first|((with_reducible refine ObRn.mk ?_ ?_);(focus (simp [rnB,rnC,rnA,rnT,pS];done)))|((refine ObN.mk ?_ ?_);exact zN)|((with_reducible refine ObRow.same ?_ ?_ ?_);exact zE;(focus (first|rfl|assumption|(simp;done))))|((refine ObEqs.mk ?_ ?_);rfl)|exact True.intro)
     ·have r1 := yZ ((p0 :: pt) ++ [x])
      have r2:=yZ (p0::pt)
      have hpl2:pt.length+1≤40:=hpl
      have us:((p0::pt).map pA).take (pt.length+1)++[.agg [S x.1,S x.2]]=((p0::pt)++[x]).map pA:=p_snocX (l:=p0::pt)
      repeat' ((conv=>whnf);first|(refine SeqP.go ?_)|((refine ObD.mk ?_ ?_);exact zD)|((refine ObN.mk ?_ ?_);exact zN)|(with_reducible first|refine ObT.tt ?_|refine ObT.ff ?_)|((refine ObB.yes ?_ ?_);exact zB)|((refine ObB.no ?_ ?_);exact zC)|((with_reducible refine ObI.nl ?_ ?_);omega)|((refine ObX.mk _ rfl ?_ ?_);exact zX)|((with_reducible refine (?_:ObL _ _));(refine ObL.mk _ zM ?_))|((with_reducible refine (?_:ObU _ _));(refine ObU.mk _ zq1 ?_))|((with_reducible refine (?_:ObR _ _ _));(first|(refine ObR.mk _ (by assumption) ?_)|(refine ObR.mk _ (by exact q) ?_)|(refine ObR.mk _ (by exact q2) ?_)|(refine ObR.mk _ Zv ?_)|(refine ObR.map zX (fun x hx=>?_))|(refine ObR.mk _ rfl ?_))))
      conv=>whnf
      refine Again.mk (k+1,(p0::pt)++[x]) ⟨by dsimp only;omega,hla2⟩ ?_ (Fg.vw [(1,0,1),(0,1,1)] ?_ ?_ (by simp) ?_)
      ·dsimp only;omega
      all_goals repeat' ((conv=>whnf);first|((with_reducible refine ObRn.mk ?_ ?_);(focus (simp [rnB,rnC,rnA,rnT,pS];done)))|((refine ObN.mk ?_ ?_);exact zN)|((with_reducible refine ObRow.same ?_ ?_ ?_);exact zE;(focus (first|rfl|assumption|(simp;done))))|((refine ObEqs.mk ?_ ?_);rfl)|exact True.intro)
   ·rw [if_neg hr] at hla
    have hex:∃ h2:k+1 < D.length,(D[k+1]).1=(D[k]).1:=by
     by_cases h2:k+1 < D.length
     ·refine ⟨h2, ?_⟩
      by_cases h3:(D[k+1]).1=(D[k]).1
      ·exact h3
      ·exact absurd (hkk.2 fun _=>h3) hr
     ·exact absurd (hkk.2 fun h=>absurd h h2) hr
    obtain ⟨hk1,h3⟩:=hex
    have he2:¬ (k:Int)+1=(D.length:Int):=by omega
    have q2:=zO hk1
    clear hkk hr
    generalize D[k]=x at *
    generalize D[k+1]=w at *
    rcases pre with _|⟨p0,pt⟩
    ·repeat' ((conv=>whnf);first|(refine SeqP.go ?_)|((refine ObD.mk ?_ ?_);exact zD)|((refine ObN.mk ?_ ?_);exact zN)|(with_reducible first|refine ObT.tt ?_|refine ObT.ff ?_)|((refine ObB.yes ?_ ?_);exact zB)|((refine ObB.no ?_ ?_);exact zC)|((with_reducible refine ObI.nl ?_ ?_);omega)|((refine ObX.mk _ rfl ?_ ?_);exact zX)|((with_reducible refine (?_:ObU _ _));(refine ObU.mk _ zU ?_))|((with_reducible refine (?_:ObR _ _ _));(first|(refine ObR.mk _ (by assumption) ?_)|(refine ObR.mk _ (by exact q) ?_)|(refine ObR.mk _ (by exact q2) ?_)|(refine ObR.mk _ Zv ?_)|(refine ObR.map zX (fun x hx=>?_))|(refine ObR.mk _ rfl ?_))))
     conv=>whnf
     refine Again.mk (k+1,[]) ⟨by dsimp only;omega,hla⟩ ?_ (Fg.vw [(1,0,1)] ?_ ?_ (by simp) ?_)
     ·dsimp only;omega
     all_goals repeat' ((conv=>whnf);first|((with_reducible refine ObRn.mk ?_ ?_);(focus (simp [rnB,rnC,rnA,rnT,pS];done)))|((refine ObN.mk ?_ ?_);exact zN)|((with_reducible refine ObRow.same ?_ ?_ ?_);exact zE;(focus (first|rfl|assumption|(simp;done))))|((refine ObEqs.mk ?_ ?_);rfl)|exact True.intro)
    ·have r2 := yZ (p0 :: pt)
     repeat' ((conv=>whnf);first|(refine SeqP.go ?_)|((refine ObD.mk ?_ ?_);exact zD)|((refine ObN.mk ?_ ?_);exact zN)|(with_reducible first|refine ObT.tt ?_|refine ObT.ff ?_)|((refine ObB.yes ?_ ?_);exact zB)|((refine ObB.no ?_ ?_);exact zC)|((with_reducible refine ObI.nl ?_ ?_);omega)|((refine ObX.mk _ rfl ?_ ?_);exact zX)|((with_reducible refine (?_:ObU _ _));(refine ObU.mk _ zU ?_))|((with_reducible refine (?_:ObR _ _ _));(first|(refine ObR.mk _ (by assumption) ?_)|(refine ObR.mk _ (by exact q) ?_)|(refine ObR.mk _ (by exact q2) ?_)|(refine ObR.mk _ Zv ?_)|(refine ObR.map zX (fun x hx=>?_))|(refine ObR.mk _ rfl ?_))))
     conv=>whnf
     refine Again.mk (k+1,p0::pt) ⟨by dsimp only;omega,hla⟩ ?_ (Fg.vw [(1,0,1),(0,1,0)] ?_ ?_ (by simp) ?_)
     ·dsimp only;omega
     all_goals repeat' ((conv=>whnf);first|((with_reducible refine ObRn.mk ?_ ?_);(focus (simp [rnB,rnC,rnA,rnT,pS];done)))|((refine ObN.mk ?_ ?_);exact zN)|((with_reducible refine ObRow.same ?_ ?_ ?_);exact zE;(focus (first|rfl|assumption|(simp;done))))|((refine ObEqs.mk ?_ ?_);rfl)|exact True.intro)
  ·obtain rfl : k = D.length := by omega
   rw [List.drop_length] at hla
   have e:ZD D=pre:=by rw [hla];simp [ZD]
   have hne:pre ≠ []:=by
    rw [← e,hml]
    exact mk_ne h0
   rw [e]
   rcases pre with _|⟨p0,pt⟩
   ·exact absurd rfl hne
   ·have r2 := yZ (p0 :: pt)
    repeat' ((conv=>whnf);first|(refine SeqP.go ?_)|((refine ObN.mk ?_ ?_);exact zN)|(refine ObT.ff ?_)|((refine ObB.no ?_ ?_);exact zC))
    all_goals conv=>whnf
    all_goals refine ObEnd.vw [(1,1,0)] rfl ?_ (by simp) ?_
    all_goals repeat' ((conv=>whnf);first|((refine ObN.mk ?_ ?_);exact zN)|((with_reducible refine ObRow.same ?_ ?_ ?_);exact zE;(focus (first|rfl|assumption|(simp;done))))|exact True.intro)
end
end Go.Proofs.YtgpldekhcojimaaDoor.Sim
namespace Go.Proofs.YtgpldekhcojimaaDoor.Sim
open Go.RowKit
set_option maxRecDepth 100000
open Pr7
abbrev nA (k s t h b:Int) (o:Int) (x y z:ByteArray) (i:Int):AV:=.fn 61 [.ad 1 [kA k s t h b] 0 0,.ad 5 [xA o x y z i] 0 0]
theorem filt_split (kp:Pr→Bool) (m:List Pr):∃ F D,m=F++D∧(∀ p ∈ F,kp p=true)∧(∀ p,D.head? = some p→kp p=false):=by
 induction m with
 | nil=>exact ⟨[],[],rfl,by simp,by simp⟩
 | cons a t ih =>
  cases h:kp a with
  | false=>exact ⟨[],a::t,rfl,by simp,by simp [h]⟩
  | true =>
   obtain ⟨F,D,rfl,h1,h2⟩:=ih
   refine ⟨a::F,D,rfl,fun p hp=>?_,h2⟩
   rcases List.mem_cons.1 hp with rfl|hp
   ·exact h
   ·exact h1 p hp
noncomputable def wO:Code:=match (Tryd.prog).funcs[60]? with|some fn=>fn.body.getD .skip|none=>.skip
def sq1:Code→Code|.seq a _=>a|c=>c
def sq2:Code→Code|.seq _ b=>b|c=>c
def rgo:Code→Array Oper|.region _ ops _=>ops|_=>#[]
def rgi:Code→Nat|.region i _ _=>i|_=>0
def aq1:AC→AC|.seq a _=>a|c=>c
def aq2:AC→AC|.seq _ b=>b|c=>c
noncomputable abbrev p60 (n:Nat):Code:=match n with|0=>sq1 wO|1=>sq1 (sq2 wO)|2=>sq1 (sq2 (sq2 wO))|3=>sq1 (sq2 (sq2 (sq2 wO)))|4=>sq1 (sq2 (sq2 (sq2 (sq2 wO))))|_=>sq2 (sq2 (sq2 (sq2 (sq2 wO))))
abbrev q60 (n:Nat):AC:=match n with|0=>aq1 A60.body|1=>aq1 (aq2 A60.body)|2=>aq1 (aq2 (aq2 A60.body))|3=>aq1 (aq2 (aq2 (aq2 A60.body)))|4=>aq1 (aq2 (aq2 (aq2 (aq2 A60.body))))|_=>aq2 (aq2 (aq2 (aq2 (aq2 A60.body))))
theorem bd60_is:wO = .seq (p60 0) (.seq (p60 1) (.seq (p60 2) (.seq (p60 3) (.seq (.region (rgi (p60 4)) (rgo (p60 4)) false) (p60 5))))):=by kernel_rfl
theorem cp60_0:ZJ Tryd.prog [41,60,65,66,68,79,87,90,97,101,102,103,104] (p60 0)=some (q60 0):=by kernel_rfl
theorem cp60_1:ZJ Tryd.prog [41,60,65,66,68,79,87,90,97,101,102,103,104] (p60 1)=some (q60 1):=by kernel_rfl
theorem cp60_2:ZJ Tryd.prog [41,60,65,66,68,79,87,90,97,101,102,103,104] (p60 2)=some (q60 2):=by kernel_rfl
theorem cp60_3:ZJ Tryd.prog [41,60,65,66,68,79,87,90,97,101,102,103,104] (p60 3)=some (q60 3):=by kernel_rfl
theorem cp60_5:ZJ Tryd.prog [41,60,65,66,68,79,87,90,97,101,102,103,104] (p60 5)=some (q60 5):=by kernel_rfl
noncomputable def wE (n:Nat):Oper:=(rgo (p60 4)).getD n ⟨none,.move (.tmp 0),0,default,#[],none⟩
theorem ops60:(rgo (p60 4)).toList=[wE 0,wE 1,wE 2,wE 3]:=by kernel_rfl
theorem o60_0:Xz Tryd.prog [] (rgo (p60 4)) (wE 0)=some ⟨some 36,.mv (.t 0),none⟩:=by kernel_rfl
theorem o60_1:Xz Tryd.prog [] (rgo (p60 4)) (wE 1)=some ⟨some 37,.mv (.t 5),none⟩:=by kernel_rfl
theorem o60_2:Zt Tryd.prog [] (wE 2)=some (.slc 2 (.t 36) (some (.t 37)) none):=by kernel_rfl
theorem o60_3:(wE 3).op=Op.call { callee:=.builtin .clear,args:=#[.tmp 38],argTypes:=#[24] }:=by kernel_rfl
theorem und24:(Tryd.prog).underlying 24=some (.slice 65):=by kernel_rfl
theorem zero65:∀ w,(zeroValue 65).run (Tryd.prog) w = .ok (.agg #[Value.string ⟨#[]⟩,Value.string ⟨#[]⟩]) w:=fun w=>by kernel_rfl
theorem clr60 (G:Nat→AV) (m:Nat):OkC Tryd.prog G m (.region (rgi (p60 4)) (rgo (p60 4)) false) (fun Q st=>st.s.length=42∧ObClr 65 2 0 5 36 37 38 (Q .n) st) :=
 OkC.clr (hs:=[]) ops60 o60_0 o60_1 o60_2 (by kernel_rfl) (by kernel_rfl) (by kernel_rfl) (by kernel_rfl) o60_3 (by omega) (by omega) und24 _ zero65 rfl (fun u hu=>by simp [Value.cells] at hu;subst hu;rfl) (by omega)
noncomputable def fn60:Func:=((Tryd.prog).funcs[60]?).get (by kernel_rfl)
theorem fn60_is:(Tryd.prog).funcs[60]? = some fn60:=by kernel_rfl
theorem fn60_bd:fn60.body=some wO:=by kernel_rfl
theorem fn60_nt:fn60.ntmps=42:=by kernel_rfl
theorem fn60_rs:yp Tryd.prog fn60.results.toList=some [(4,none)]:=by kernel_rfl
def V60 (G:Nat→AV) (m:Nat) (Q:EX→St→Prop) (st:St):Prop :=
 V Tryd.prog G m (q60 0) (ZR (SeqP m (fun st=>V Tryd.prog G m (q60 1) (ZR (SeqP m (fun st=>V Tryd.prog G m (q60 2) (ZR (SeqP m (fun st=>V Tryd.prog G m (q60 3) (ZR (SeqP m (fun st=>st.s.length=42∧ObClr 65 2 0 5 36 37 38 (SeqP m (V Tryd.prog G m (q60 5) Q)) st)) Q) st)) Q) st)) Q) st)) Q) st
theorem hc60 {G:Nat→AV} {aS:List AV} {H:Hp} {r:AV} {H':Hp} {m:Nat} (hm:H.length=m) (h:yq aS 42 (fun s=>V60 G m (EndH m [(4,none)] r H') ⟨s,H⟩)):HC Tryd.prog G 60 aS H r H':=by
 refine hc_ofOk (v:=V60 G m) fn60_is (fn60_bd.trans (congrArg some bd60_is)) fn60_rs hm ?_ (by rw [fn60_nt];exact h)
 exact OkC.seq (OkC.of cp60_0) (OkC.seq (OkC.of cp60_1) (OkC.seq (OkC.of cp60_2) (OkC.seq (OkC.of cp60_3) (OkC.seq (clr60 G m) (OkC.of cp60_5)))))
section
variable (G:Nat→AV) (k s t h b:Int) (hb:i64 b) (o:Int) (x y z:ByteArray) (i:Int) (hx:x.size≤100000)
include hb hx
theorem cl61 (p:Pr) (hp:p.1.size≤100000) (r:Bool) (hr:r=bfo k b x p.1) (r':Bool) (hr':r' = !r):PC Tryd.prog G 61 [.agg [S p.1,S p.2],.ad 1 [kA k s t h b] 0 0,.ad 5 [xA o x y z i] 0 0] (Bo r'):=by
 subst hr'
 have c:=cl58 G k s t h b hb x p.1 hx hp r hr
 clear hr
 cases r
 ·refine zf cop61 ?_
  repeat' ((conv=>whnf);first|(refine SeqP.go ?_)|((refine ObD.mk ?_ ?_);exact zD)|((refine ObN.mk ?_ ?_);exact zN)|(refine ObT.ff ?_)|((with_reducible refine (?_:ObU _ _));(refine ObU.mk _ zU ?_))|((with_reducible refine (?_:ObR _ _ _));(first|(refine ObR.mk _ zA ?_)|(refine ObR.map zX (fun x hx=>?_))|(refine ObR.mk _ rfl ?_)))|((refine ObH.f 58 ?_);(first|(with_reducible refine ObH.mk _ _ ((Zz (by rfl) c _)) ?_)|(refine ObH.mk _ _ ((Zz (by rfl) c _)) ?_)))|((refine ObEq.mk ?_);exact zE))
 ·refine zf cop61 ?_
  repeat' ((conv=>whnf);first|(refine SeqP.go ?_)|((refine ObD.mk ?_ ?_);exact zD)|((refine ObN.mk ?_ ?_);exact zN)|(refine ObT.tt ?_)|((with_reducible refine (?_:ObU _ _));(refine ObU.mk _ zU ?_))|((with_reducible refine (?_:ObR _ _ _));(first|(refine ObR.mk _ zA ?_)|(refine ObR.map zX (fun x hx=>?_))|(refine ObR.mk _ rfl ?_)))|((refine ObH.f 58 ?_);(first|(with_reducible refine ObH.mk _ _ ((Zz (by rfl) c _)) ?_)|(refine ObH.mk _ _ ((Zz (by rfl) c _)) ?_)))|((refine ObEq.mk ?_);exact zE))
set_option maxHeartbeats 2000000 in
theorem ix87 (g : Nat) (F D : List Pr) (hs : ∀ p ∈ F ++ D, p.1.size ≤ 100000) (hl : F.length + D.length ≤ 1000000) (hF : ∀ p ∈ F, bfo k b x p.1 = true) (hD : ∀ p, D.head? = some p → bfo k b x p.1 = false) (r : Int) (hr : r = if D = [] then -1 else (F.length : Int)) (n : Nat) (hn : n = F.length + D.length) :
  HC Tryd.prog G 87 [.ol 0 g n,nA k s t h b o x y z i] [⟨65,2,(F++D).map pA,g,0⟩] (I r) [⟨65,2,(F++D).map pA,g,0⟩]:=by
 have hml:((F++D).map pA).length=n:=by simp [hn]
 refine YF cop87 rfl ?_
 repeat' ((conv=>whnf);first|(refine SeqP.go ?_))
 conv=>whnf
 refine LoopP.go (α:=Nat) (fun k=>k≤F.length) (fun k=>F.length - k) (fun k=>[(4,none),(0,none),(2,some (I k)),(0,none),(0,none),(0,none),(0,none),(0,none),(0,none),(0,none),(0,none),(0,none),(0,none)]) (fun _=>[⟨65,2,(F++D).map pA,g,0⟩]) 0 (Nat.zero_le _) (Fg.go ?_ rfl) ?_
 ·repeat' ((conv=>whnf);first|((refine ObEqs.mk ?_ ?_);rfl)|((with_reducible refine ObEq1.i ?_ ?_);exact zF)|exact True.intro)
 intro j hj
 by_cases hjl:j < F.length
 ·have q : ((F ++ D).map pA)[j]? = some (.agg [S F[j].1, S F[j].2]) := by
   rw [List.getElem?_map,List.getElem?_append_left hjl,List.getElem?_eq_getElem hjl];rfl
  have h1:=hF _ (List.getElem_mem hjl)
  have c:=cl61 G k s t h b hb o x y z i hx F[j] (hs _ (List.mem_append_left _ (List.getElem_mem hjl))) true h1.symm false rfl
  have hjn:(j:Int) < (n:Int):=by omega
  generalize F[j]=u at *
  repeat' ((conv=>whnf);first|(refine SeqP.go ?_)|((refine ObD.mk ?_ ?_);exact zD)|((refine ObN.mk ?_ ?_);exact zN)|(with_reducible first|refine ObT.tt ?_|refine ObT.ff ?_)|((refine ObB.yes ?_ ?_);exact zB)|((with_reducible refine ObI.nl ?_ ?_);omega)|((refine ObX.mk _ rfl ?_ ?_);exact zX)|((with_reducible refine (?_:ObU _ _));(refine ObU.mk _ zU ?_))|((with_reducible refine (?_:ObR _ _ _));(first|(refine ObR.mk _ (by assumption) ?_)|(refine ObR.mk _ (by exact q) ?_)|(refine ObR.mk _ Zv ?_)|(refine ObR.map zX (fun x hx=>?_))|(refine ObR.mk _ rfl ?_)))|((refine ObH.f 61 ?_);(first|(with_reducible refine ObH.mk _ _ ((Zz (by rfl) c _)) ?_)|(refine ObH.mk _ _ ((Zz (by rfl) c _)) ?_))))
  conv=>whnf
  refine Again.mk (j+1) hjl (by omega) (Fg.go ?_ rfl)
  repeat' ((conv=>whnf);first|((refine ObEqs.mk ?_ ?_);rfl)|((with_reducible refine ObEq1.i ?_ ?_);exact zF)|exact True.intro)
 ·obtain rfl : j = F.length := by omega
  cases D with
  | nil =>
   rw [if_pos rfl] at hr
   subst hr
   have hjn:¬ (F.length:Int) < (n:Int):=by simp at hn;omega
   repeat' ((conv=>whnf);first|(refine SeqP.go ?_)|((refine ObN.mk ?_ ?_);exact zN)|(refine ObT.ff ?_)|((refine ObB.no ?_ ?_);exact zC)|(exact ObEnd.eq rfl rfl))
  | cons u D =>
   rw [if_neg (by simp)] at hr
   subst hr
   have q:((F++u::D).map pA)[F.length]? = some (.agg [S u.1,S u.2]):=by
    rw [List.getElem?_map,List.getElem?_append_right (Nat.le_refl _),Nat.sub_self];rfl
   have h1:=hD u rfl
   have c:=cl61 G k s t h b hb o x y z i hx u (hs _ (by simp)) false h1.symm true rfl
   have hjn:(F.length:Int) < (n:Int):=by simp at hn;omega
   repeat' ((conv=>whnf);first|(refine SeqP.go ?_)|((refine ObD.mk ?_ ?_);exact zD)|((refine ObN.mk ?_ ?_);exact zN)|(refine ObT.tt ?_)|((refine ObB.yes ?_ ?_);exact zB)|((refine ObX.mk _ rfl ?_ ?_);exact zX)|((with_reducible refine (?_:ObU _ _));(refine ObU.mk _ zU ?_))|((with_reducible refine (?_:ObR _ _ _));(first|(refine ObR.mk _ (by assumption) ?_)|(refine ObR.mk _ (by exact q) ?_)|(refine ObR.mk _ Zv ?_)|(refine ObR.map zX (fun x hx=>?_))|(refine ObR.mk _ rfl ?_)))|((refine ObH.f 61 ?_);(first|(with_reducible refine ObH.mk _ _ ((Zz (by rfl) c _)) ?_)|(refine ObH.mk _ _ ((Zz (by rfl) c _)) ?_)))|(exact ObEnd.eq rfl rfl))
omit hb hx in
theorem set_keep {F u R:List Pr} {a p:Pr}:((F++((a::u)++p::R)).map pA).set F.length (.agg [S p.1,S p.2])=((F++[p])++((u++[p])++R)).map pA:=by
 simp [List.set_append,pA]
set_option maxHeartbeats 4000000 in
theorem del60 (g : Nat) (m : List Pr) (hs : ∀ p ∈ m, p.1.size ≤ 100000) (hl : m.length ≤ 1000000) (n : Nat) (hn : n = m.length) :
  HC Tryd.prog G 60 [.ol 0 g n,nA k s t h b o x y z i] [⟨65,2,m.map pA,g,0⟩] (.ol 0 g (m.filter fun p=>bfo k b x p.1).length) [⟨65,2,(m.filter fun p=>bfo k b x p.1).map pA,g,0⟩]:=by
 obtain ⟨F,D,rfl,hF,hD⟩:=filt_split (fun p=>bfo k b x p.1) m
 have hl':F.length+D.length≤1000000:=by rw [← List.length_append];exact hl
 have hn':n=F.length+D.length:=by rw [← List.length_append];exact hn
 have hix:=ix87 G k s t h b hb o x y z i hx g F D hs hl' hF hD _ rfl n hn'
 have hFf:F.filter (fun p=>bfo k b x p.1)=F:=List.filter_eq_self.2 hF
 cases D with
 | nil =>
  rw [if_pos rfl] at hix
  rw [List.append_nil] at *
  rw [hFf]
  subst hn
  refine hc60 rfl ?_
  repeat' ((conv=>whnf);first|(refine SeqP.go ?_)|((refine ObN.mk ?_ ?_);exact zN)|(refine ObT.tt ?_)|((refine ObB.yes ?_ ?_);exact zB)|((refine ObH.f 87 ?_);(first|(with_reducible refine ObH.mk _ _ (hix) ?_)|(refine ObH.mk _ _ (hix) ?_)))|(exact ObEnd.eq rfl rfl))
 | cons d D =>
  rw [if_neg (by simp)] at hix
  have hfn:¬ (F.length:Int) = -1:=by omega
  have hff:(F++d::D).filter (fun p=>bfo k b x p.1)=F++D.filter (fun p=>bfo k b x p.1):=by
   rw [List.filter_append,hFf,List.filter_cons,if_neg (by rw [hD d rfl];simp)]
  rw [hff]
  refine hc60 rfl ?_
  repeat' ((conv=>whnf);first|(refine SeqP.go ?_)|((refine ObN.mk ?_ ?_);exact zN)|(refine ObT.ff ?_)|((refine ObB.no ?_ ?_);exact zC)|((with_reducible refine ObI.nl ?_ ?_);omega)|((refine ObH.f 87 ?_);(first|(with_reducible refine ObH.mk _ _ (hix) ?_)|(refine ObH.mk _ _ (hix) ?_))))
  conv=>whnf
  refine LoopP.go (α:=Nat × Nat × List Pr × List Pr × List Pr) (fun (c,j,P,M,R)=>M ≠ []∧c=P.length∧j=c+M.length∧j+R.length=n∧P++R.filter (fun p=>bfo k b x p.1)=F++D.filter (fun p=>bfo k b x p.1)∧∀ q ∈ R,q.1.size≤100000) (fun (c,j,P,M,R)=>R.length)
   (fun p=>[(5,some (I p.1)),(0,some (I p.2.1)),(0,none),(8,none),(0,none),(0,none),(0,none),(0,none),(0,none),(0,none),(0,none),(0,none),(0,none),(0,none),(0,none),(0,none),(0,none),(0,none),(0,none),(0,none),(0,none),(0,none),(0,none)]) (fun p=>[⟨65,2,(p.2.2.1++(p.2.2.2.1++p.2.2.2.2)).map pA,g,0⟩]) (F.length,F.length+1,F,[d],D) ⟨by simp,rfl,rfl,by simp at hn' ⊢;omega,rfl,fun q hq=>hs q (by simp [hq])⟩ (Fg.go ?_ rfl) ?_
  ·repeat' ((conv=>whnf);first|((refine ObEqs.mk ?_ ?_);rfl)|((with_reducible refine ObEq1.i ?_ ?_);exact zF)|exact True.intro)
  rintro ⟨c,j,P,M,R⟩ ⟨hM,hc,hjc,hPn,hPf,hR⟩
  dsimp only at hM hc hjc hPn hPf hR ⊢
  obtain ⟨a,u,rfl⟩:∃ a u,M=a::u:=by cases M with|nil=>exact absurd rfl hM|cons a u=>exact ⟨a,u,rfl⟩
  have hal:(a::u).length=u.length+1:=rfl
  have hml:((P++((a::u)++R)).map pA).length=n:=by simp;omega
  have hnl:n≤1000000:=by omega
  cases R with
  | nil =>
   have hR0:([]:List Pr).length=0:=rfl
   have hj:¬ (j:Int) < (n:Int):=by omega
   have e:((P++((a::u)++[])).map pA).take c=P.map pA:=by subst hc;simp
   rw [List.filter_nil,List.append_nil] at hPf
   rw [← hPf,← hc]
   repeat' ((conv=>whnf);first|(refine SeqP.go ?_)|((refine ObN.mk ?_ ?_);exact zN)|(refine ObT.ff ?_)|((refine ObB.no ?_ ?_);exact zC))
   conv=>whnf
   refine ⟨rfl,ObClr.mk 0 g n c _ 0 rfl rfl rfl (by omega) hml.symm (Nat.zero_le _) ?_⟩
   rw [e]
   repeat' ((conv=>whnf);first|(refine SeqP.go ?_)|((refine ObN.mk ?_ ?_);exact zN)|((with_reducible refine ObY.mk _ rfl ?_ ?_);exact zX)|((with_reducible refine ObO.l ?_);(refine ObN.mk ?_ ?_);(focus (first|rfl|omega)))|(exact ObEnd.eq rfl rfl))
  | cons q R =>
   have hR1:(q::R).length=R.length+1:=rfl
   have hj:(j:Int) < (n:Int):=by omega
   have hq:((P++((a::u)++q::R)).map pA)[j]? = some (.agg [S q.1,S q.2]):=by
    rw [List.getElem?_map,List.getElem?_append_right (by omega),List.getElem?_append_right (by omega),show j - P.length - (a::u).length=0 by omega];rfl
   have hpl:(c:Int) < (n:Int):=by omega
   cases hr:bfo k b x q.1 with
   | false =>
    have c61:=cl61 G k s t h b hb o x y z i hx q (hR q (by simp)) false hr.symm true rfl
    have e:(P++((a::u)++q::R)).map pA=(P++(((a::u)++[q])++R)).map pA:=by simp
    rw [e] at hq hml ⊢
    have h1:j+1=c+((a::u)++[q]).length:=by rw [List.length_append,hjc];rfl
    have h2:j+1+R.length=n:=by omega
    repeat' ((conv=>whnf);first|(refine SeqP.go ?_)|((refine ObD.mk ?_ ?_);exact zD)|((refine ObN.mk ?_ ?_);exact zN)|(with_reducible first|refine ObT.tt ?_|refine ObT.ff ?_)|((refine ObB.yes ?_ ?_);exact zB)|((with_reducible refine ObI.nl ?_ ?_);omega)|((refine ObX.mk _ rfl ?_ ?_);exact zX)|((with_reducible refine (?_:ObU _ _));(refine ObU.mk _ zU ?_))|((with_reducible refine (?_:ObR _ _ _));(first|(refine ObR.mk _ (by assumption) ?_)|(refine ObR.mk _ (by exact hq) ?_)|(refine ObR.mk _ Zv ?_)|(refine ObR.map zX (fun x hx=>?_))|(refine ObR.mk _ rfl ?_)))|((refine ObH.f 61 ?_);(first|(with_reducible refine ObH.mk _ _ ((Zz (by rfl) c61 _)) ?_)|(refine ObH.mk _ _ ((Zz (by rfl) c61 _)) ?_))))
    all_goals conv=>whnf
    all_goals refine Again.mk (c,j+1,P,(a::u)++[q],R) ⟨by simp,hc,h1,h2,?_,fun q hq=>hR q (by simp [hq])⟩ ?_ (Fg.vw [(g,0,g)] ?_ ?_ (by simp) ?_)
    ·rw [← hPf,List.filter_cons,if_neg (by rw [hr];simp)]
    ·show R.length < (q::R).length;omega
    all_goals try dsimp only
    all_goals have nq:=yZ (P++(((a::u)++[q])++R))
    all_goals repeat' ((conv=>whnf);first|((refine ObN.mk ?_ ?_);exact zN)|((with_reducible refine ObO.l ?_);(refine ObN.mk ?_ ?_);(focus (first|rfl|omega)))|((with_reducible refine ObRn.mk ?_ ?_);(focus (first|rfl|(simp [rnB,rnC,rnL];done))))|((with_reducible refine ObRow.same ?_ ?_ ?_);exact zE;(focus (first|rfl|assumption|(simp;done))))|((refine ObEqs.mk ?_ ?_);rfl)|exact True.intro)
   | true =>
    have c61:=cl61 G k s t h b hb o x y z i hx q (hR q (by simp)) true hr.symm false rfl
    have hset:((P++((a::u)++q::R)).map pA).set c (.agg [S q.1,S q.2])=((P++[q])++((u++[q])++R)).map pA:=by rw [hc];exact set_keep
    have h0:c+1=(P++[q]).length:=by rw [List.length_append,hc];rfl
    have h1:j+1=c+1+(u++[q]).length:=by rw [List.length_append,hjc,hal];show _=c+1+(u.length+1);omega
    have h2:j+1+R.length=n:=by omega
    repeat' ((conv=>whnf);first|(refine SeqP.go ?_)|((refine ObD.mk ?_ ?_);exact zD)|((refine ObN.mk ?_ ?_);exact zN)|(with_reducible first|refine ObT.tt ?_|refine ObT.ff ?_)|((refine ObB.yes ?_ ?_);exact zB)|((with_reducible refine ObI.nl ?_ ?_);omega)|((refine ObX.mk _ rfl ?_ ?_);exact zX)|((with_reducible refine (?_:ObU _ _));(refine ObU.mk _ (by first|exact hset|assumption|((conv=>lhs;simp only [List.set_cons_zero,List.set_cons_succ,List.take_succ_cons,List.take_zero,List.drop_succ_cons,List.drop_zero,List.nil_append,List.cons_append,List.append_nil,List.take_nil,List.drop_nil]);try rfl)|rfl) ?_))|((with_reducible refine (?_:ObR _ _ _));(first|(refine ObR.mk _ (by assumption) ?_)|(refine ObR.mk _ (by exact hq) ?_)|(refine ObR.mk _ Zv ?_)|(refine ObR.map zX (fun x hx=>?_))|(refine ObR.mk _ rfl ?_)))|((refine ObH.f 61 ?_);(first|(with_reducible refine ObH.mk _ _ ((Zz (by rfl) c61 _)) ?_)|(refine ObH.mk _ _ ((Zz (by rfl) c61 _)) ?_))))
    all_goals conv=>whnf
    all_goals refine Again.mk (c+1,j+1,P++[q],u++[q],R) ⟨by simp,h0,h1,h2,?_,fun q hq=>hR q (by simp [hq])⟩ ?_ (Fg.vw [(g,0,g)] ?_ ?_ (by simp) ?_)
    ·rw [← hPf,List.filter_cons,if_pos hr];simp
    ·show R.length < (q::R).length;omega
    all_goals try dsimp only
    all_goals have nq:=yZ ((P++[q])++((u++[q])++R))
    all_goals repeat' ((conv=>whnf);first|((refine ObN.mk ?_ ?_);exact zN)|((with_reducible refine ObO.l ?_);(refine ObN.mk ?_ ?_);(focus (first|rfl|omega)))|((with_reducible refine ObRn.mk ?_ ?_);(focus (first|rfl|(simp [rnB,rnC,rnL];done))))|((with_reducible refine ObRow.same ?_ ?_ ?_);exact zE;(focus (first|rfl|assumption|(simp;done))))|((refine ObEqs.mk ?_ ?_);rfl)|exact True.intro)
end
end Go.Proofs.YtgpldekhcojimaaDoor.Sim
namespace Go.Proofs.YtgpldekhcojimaaDoor.Sim
set_option maxRecDepth 100000
def E29:AF:=(AF.mk 61 [(6,(some (true,5)))] (AC.seq (AC.region [(jA 3 (AOp.new 23 5 (AX.t 0))),(jA 4 (AOp.new 39 2 (AX.t 1))),(jA 5 (AOp.new 29 5 (AX.t 2))),(jA 6 (AOp.new 34 5 (AX.c (AV.agg [(jN 0),(AV.v (Value.bool false)),(AV.v (Value.string (ByteArray.mk #[]))),(AV.v (Value.string (ByteArray.mk #[]))),(jN 0)]))))]) (AC.seq (AC.region [(jA 11 (AOp.load true 2 (AX.t 4))),(jA 12 (AOp.fad 4 (AX.t 5))),(jA 13 (AOp.load false 1 (AX.t 12))),(jA 14 (AOp.call 40 [(AX.t 11),(AX.t 13)])),(jA 7 (AOp.mv (AX.t 14)))]) (AC.seq (AC.seq (AC.region [(jA 15 (AOp.mv (AX.t 7))),(jA 16 (AOp.bin BinOp.lss 3 false (Operand.tmp 15) (Operand.const (Value.int IntKind.i64 0)) (AX.t 15) (jI 0)))]) (AC.cond (AX.t 16) (AC.seq (AC.region [(jA 17 (AOp.bld [(jN 0),(AV.v (Value.bool false)),(AV.v (Value.string (ByteArray.mk #[]))),(AV.v (Value.string (ByteArray.mk #[]))),(jN 0)] [(0,(1,(jI 10)))])),(jB (AOp.store 5 (AX.t 6) (AX.t 17)))]) AC.ret) AC.skip)) (AC.seq (AC.region [(jA 18 (AOp.fad 1 (AX.t 4))),(jA 19 (AOp.load false 1 (AX.t 18))),(jA 20 (AOp.mv (AX.t 7))),(jA 21 (AOp.iad 2 (AX.t 19) (AX.t 20))),(jA 22 (AOp.fad 1 (AX.t 21))),(jA 23 (AOp.load false 1 (AX.t 22))),(jA 8 (AOp.mv (AX.t 23)))]) (AC.seq (AC.region [(jA 24 (AOp.mkf 58 [(AX.t 3)])),(jA 9 (AOp.new 84 1 (AX.c (AV.v Value.nilFunc)))),(jB (AOp.store 1 (AX.t 9) (AX.t 24)))]) (AC.seq (AC.seq (AC.region [(jA 25 (AOp.fad 0 (AX.t 5))),(jA 26 (AOp.load false 1 (AX.t 25)))]) (AC.block 0 (AC.seq (AC.region [(jA 28 (AOp.bin BinOp.eql 3 false (Operand.tmp 26) (Operand.const (Value.int IntKind.i64 9)) (AX.t 26) (jI 9))),(jA 27 (AOp.mv (AX.t 28)))]) (AC.cond (AX.t 27) (AC.seq (AC.region [(jA 29 (AOp.mv (AX.t 8))),(jA 30 (AOp.fad 1 (AX.t 5))),(jA 31 (AOp.load false 1 (AX.t 30))),(jA 32 (AOp.call 30 [(AX.t 29),(AX.t 31)])),(jB (AOp.store 5 (AX.t 6) (AX.t 32)))]) AC.ret) (AC.seq (AC.region [(jA 34 (AOp.bin BinOp.eql 3 false (Operand.tmp 26) (Operand.const (Value.int IntKind.i64 10)) (AX.t 26) (jI 10))),(jA 33 (AOp.mv (AX.t 34)))]) (AC.cond (AX.t 33) (AC.seq (AC.drawx [[(jA 35 (AOp.mv (AX.t 8))),(jA 36 (AOp.callh 48 [(AX.t 35)])),(jA 37 (AOp.load false 1 (AX.t 9))),(jA 38 (AOp.call 59 [(AX.t 36),(AX.t 37)])),(jA 39 (AOp.ext (AX.t 38) 0)),(jA 40 (AOp.ext (AX.t 38) 1)),(jA 41 (AOp.call 26 [(AX.t 39),(AX.t 40)])),(jB (AOp.store 5 (AX.t 6) (AX.t 41)))],[(jA 35 (AOp.mv (AX.t 8))),(jA 37 (AOp.load false 1 (AX.t 9))),(jA 36 (AOp.callh 48 [(AX.t 35)])),(jA 38 (AOp.call 59 [(AX.t 36),(AX.t 37)])),(jA 39 (AOp.ext (AX.t 38) 0)),(jA 40 (AOp.ext (AX.t 38) 1)),(jA 41 (AOp.call 26 [(AX.t 39),(AX.t 40)])),(jB (AOp.store 5 (AX.t 6) (AX.t 41)))]]) AC.ret) (AC.seq (AC.region [(jA 43 (AOp.bin BinOp.eql 3 false (Operand.tmp 26) (Operand.const (Value.int IntKind.i64 11)) (AX.t 26) (jI 11))),(jA 42 (AOp.mv (AX.t 43)))]) (AC.cond (AX.t 42) (AC.seq (AC.region [(jA 44 (AOp.mv (AX.t 8))),(jA 45 (AOp.callh 48 [(AX.t 44)])),(jA 46 (AOp.mkf 61 [(AX.t 9),(AX.t 5)])),(jA 47 (AOp.callh 60 [(AX.t 45),(AX.t 46)])),(jA 10 (AOp.mv (AX.t 47)))]) (AC.seq (AC.region [(jA 48 (AOp.mv (AX.t 10))),(jA 49 (AOp.load false 1 (AX.t 9))),(jA 50 (AOp.call 59 [(AX.t 48),(AX.t 49)])),(jA 51 (AOp.ext (AX.t 50) 0)),(jA 52 (AOp.ext (AX.t 50) 1)),(jA 53 (AOp.call 26 [(AX.t 51),(AX.t 52)])),(jB (AOp.store 5 (AX.t 6) (AX.t 53)))]) AC.ret)) (AC.seq (AC.region [(jA 55 (AOp.bin BinOp.eql 3 false (Operand.tmp 26) (Operand.const (Value.int IntKind.i64 12)) (AX.t 26) (jI 12))),(jA 54 (AOp.mv (AX.t 55)))]) (AC.cond (AX.t 54) (AC.seq (AC.region [(jA 56 (AOp.mv (AX.t 8))),(jA 57 (AOp.callh 48 [(AX.t 56)])),(jA 58 (AOp.len (AX.t 57))),(jA 59 (AOp.bld [(jN 0),(AV.v (Value.bool false)),(AV.v (Value.string (ByteArray.mk #[]))),(AV.v (Value.string (ByteArray.mk #[]))),(jN 0)] [(4,(1,(AX.t 58)))])),(jB (AOp.store 5 (AX.t 6) (AX.t 59)))]) AC.ret) AC.skip)))))))))) (AC.seq (AC.region [(jA 60 (AOp.bld [(jN 0),(AV.v (Value.bool false)),(AV.v (Value.string (ByteArray.mk #[]))),(AV.v (Value.string (ByteArray.mk #[]))),(jN 0)] [])),(jB (AOp.store 5 (AX.t 6) (AX.t 60)))]) AC.ret))))))))
end Go.Proofs.YtgpldekhcojimaaDoor.Sim
namespace Go.Proofs.YtgpldekhcojimaaDoor.Sim
open Go.RowKit
set_option maxRecDepth 100000
inductive SeqZ (K:St→Prop):St→Prop
 | go {st:St} (h:K st):SeqZ K st
 | pz {st:St} (t:Nat) (a:AV) (H1:Hp) (h:yt st.H [st.s.getD t zK]=some ([a],H1)) (hk:SeqZ K ⟨st.s.set t a,H1⟩):SeqZ K st
section
variable {P:Program} {G:Nat→AV} {m:Nat} {hs:List FuncId}
theorem SeqZ.ok {K:St→Prop} {st:St} (h:SeqZ K st) {B:Bd} {w0:World} {F0 F1:Fz} {O1:Ow} {F:Fz} {O:Ow} {a:Act} {w:World} (hr:Rl G B w0 F0 F1 O1 F O st a w):∃ st2 F2,K st2∧Rl G B w0 F0 F1 O1 F2 O st2 a w:=by
 induction h generalizing F with
 | go h=>exact ⟨_,F,h,hr⟩
 | @pz st t y H1 hp _ ih =>
  obtain ⟨F',p1,p2,o1,l1⟩:=yY hr.own (xs:=[a.tmps.getD t undef]) rfl (fun i c u hc hu=>by
   match i with
   | 0=>cases hc;cases hu;exact hr.slot t
   | _+1=>simp at hc) hp
  refine ih ⟨o1,by rw [hr.size];simp,fun i=>?_,hr.defs,hr.gok.mono l1,Fz.le_trans hr.leF l1,hr.leO⟩
  have hi:=hr.slot i
  rw [List.getD_eq_getElem?_getD] at hi ⊢
  by_cases hti:t=i
  ·subst hti
   by_cases htl:t < st.s.length
   ·rw [List.getElem?_set_self htl]
    exact .p (p1 0 _ _ rfl rfl)
   ·rw [List.set_eq_of_length_le (by omega)]
    exact hi.mono l1 (Ow.le_refl O)
  ·rw [List.getElem?_set_ne hti]
   exact hi.mono l1 (Ow.le_refl O)
theorem OkC.seqZ {x y:Code} {vx vy:(EX→St→Prop)→St→Prop} (hx:OkC P G m x vx) (hy:OkC P G m y vy):OkC P G m (.seq x y) (fun Q st=>vx (ZR (SeqZ (vy Q)) Q) st):=by
 intro B w0 F0 F1 O1 hm Q Q' st a w F O h hr hQ
 refine wp_seq (hx B w0 F0 F1 O1 hm _ _ st a w F O h hr fun e st' a' w' F' O' he hr'=>?_)
 cases e with
 | n =>
  obtain ⟨st2,F2,he,hr2⟩:=SeqZ.ok he hr'
  exact hy B w0 F0 F1 O1 hm Q Q' st2 a' w' F2 O' he hr2 hQ
 | x id=>exact hQ (.x id) st' a' w' F' O' he hr'
 | r=>exact hQ .r st' a' w' F' O' he hr'
theorem XR {f : FuncId} {fn : Func} {c : Code} {ts : List RS} {v : (EX → St → Prop) → St → Prop} (hfn : P.funcs[f]? = some fn) (hc : fn.body = some c) (hts : yp P fn.results.toList = some ts) {aS : List AV} {r : AV} (hv : OkC P G 0 c v)
  (h:yq aS fn.ntmps (fun s=>v (wR ts r) ⟨s,[]⟩)):PC P G f aS r:=by
 intro w F xs hfr hg hl hvr
 rw [yO] at h
 have hown:Own (Bd.of w.heap.size) w F F [] [] w:=⟨rfl,fun i d ob hd=>by simp at hd,fun i j d d' hd=>by simp at hd,hfr,Fz.le_refl F,fun b o v hv=>.inl hv,Below.refl _ _,Nat.le_refl _,fun _ h=>h.elim,fun _ h=>h.elim⟩
 refine calls_of_wp hfn hc (hv _ _ _ _ _ (Nat.le_refl _) _ _ _ _ _ F [] h (y4 hown hg hl fun i c a hc ha=>.p (hvr i c a hc ha)) fun e st' a' w' F' O' he hr=>?_)
 have key:∀ {s:List AV} {H:Hp},st'=⟨s,H⟩→rsK s H ts (fun vs=>fzA H vs (fun vs' _=>wC vs' (fun v=>ObEq v r)))→a'.defers=[]∧∃ v,(results fn a'.tmps).run P w' = .ok v w'∧∃ v1 F',(Ending.returned v) = .returned v1∧PV F' v1 r∧F.le F'∧(∀ b o v,F' b o=some v→w'.cell? ⟨b,o,none⟩=some v)∧(∀ b o v,F' b o=some v→F b o=some v∨w.heap.size≤b)∧Below w.heap.size w w':=by
  intro s H hst he
  obtain ⟨vs,hvs,he⟩:=YN he
  obtain ⟨rs,H',hp,he⟩:=Xg he
  rw [Y3] at he
  obtain ⟨hrs⟩:=he
  subst hst
  obtain ⟨ys,y1,y2,y3⟩:=ZT hr hts hvs
  obtain ⟨F2,p1,p2,o2,l2⟩:=yY hr.own y2 y3 hp
  refine ⟨hr.defs,_,y1,_,F2,rfl,?_,Fz.le_trans hr.leF l2,o2.fr,fun b o v hv=>(o2.new b o v hv).imp id (·.1),o2.below⟩
  rw [← hrs]
  exact Yz (by omega) p1
 cases e with
 | n=>exact key rfl he
 | r=>exact key rfl he
 | x id=>exact he.elim
end
theorem pc60 {G:Nat→AV} {aS:List AV} {r:AV} (h:yq aS 42 (fun s=>V60 G 0 (wR [(4,none)] r) ⟨s,[]⟩)):PC Tryd.prog G 60 aS r:=by
 refine XR (v:=V60 G 0) fn60_is (fn60_bd.trans (congrArg some bd60_is)) fn60_rs ?_ (by rw [fn60_nt];exact h)
 exact OkC.seq (OkC.of cp60_0) (OkC.seq (OkC.of cp60_1) (OkC.seq (OkC.of cp60_2) (OkC.seq (OkC.of cp60_3) (OkC.seq (clr60 G 0) (OkC.of cp60_5)))))
noncomputable def wP:Code:=match (Tryd.prog).funcs[29]? with|some fn=>fn.body.getD .skip|none=>.skip
noncomputable abbrev p29 (n:Nat):Code:=match n with|0=>sq1 wP|1=>sq1 (sq2 wP)|2=>sq1 (sq2 (sq2 wP))|3=>sq1 (sq2 (sq2 (sq2 wP)))|4=>sq1 (sq2 (sq2 (sq2 (sq2 wP))))|_=>sq2 (sq2 (sq2 (sq2 (sq2 wP))))
abbrev q29 (n:Nat):AC:=match n with|0=>aq1 E29.body|1=>aq1 (aq2 E29.body)|2=>aq1 (aq2 (aq2 E29.body))|3=>aq1 (aq2 (aq2 (aq2 E29.body)))|4=>aq1 (aq2 (aq2 (aq2 (aq2 E29.body))))|_=>aq2 (aq2 (aq2 (aq2 (aq2 E29.body))))
theorem bd29_is:wP = .seq (p29 0) (.seq (p29 1) (.seq (p29 2) (.seq (p29 3) (.seq (p29 4) (p29 5))))):=by kernel_rfl
theorem cp29_0:ZJ Tryd.prog [41,48,60,65,66,68,79,87,90,97,101,102,103,104] (p29 0)=some (q29 0):=by kernel_rfl
theorem cp29_1:ZJ Tryd.prog [41,48,60,65,66,68,79,87,90,97,101,102,103,104] (p29 1)=some (q29 1):=by kernel_rfl
theorem cp29_2:ZJ Tryd.prog [41,48,60,65,66,68,79,87,90,97,101,102,103,104] (p29 2)=some (q29 2):=by kernel_rfl
theorem cp29_3:ZJ Tryd.prog [41,48,60,65,66,68,79,87,90,97,101,102,103,104] (p29 3)=some (q29 3):=by kernel_rfl
theorem cp29_4:ZJ Tryd.prog [41,48,60,65,66,68,79,87,90,97,101,102,103,104] (p29 4)=some (q29 4):=by kernel_rfl
theorem cp29_5:ZJ Tryd.prog [41,48,60,65,66,68,79,87,90,97,101,102,103,104] (p29 5)=some (q29 5):=by kernel_rfl
noncomputable def fn29:Func:=((Tryd.prog).funcs[29]?).get (by kernel_rfl)
theorem fn29_is:(Tryd.prog).funcs[29]? = some fn29:=by kernel_rfl
theorem fn29_bd:fn29.body=some wP:=by kernel_rfl
theorem fn29_nt:fn29.ntmps=61:=by kernel_rfl
theorem fn29_rs:yp Tryd.prog fn29.results.toList=some [(6,some (true,5))]:=by kernel_rfl
def V29 (G:Nat→AV) (m:Nat) (Q:EX→St→Prop) (st:St):Prop :=
 V Tryd.prog G m (q29 0) (ZR (SeqP m (fun st=>V Tryd.prog G m (q29 1) (ZR (SeqP m (fun st=>V Tryd.prog G m (q29 2) (ZR (SeqP m (fun st=>V Tryd.prog G m (q29 3) (ZR (SeqZ (fun st=>V Tryd.prog G m (q29 4) (ZR (SeqZ (V Tryd.prog G m (q29 5) Q)) Q) st)) Q) st)) Q) st)) Q) st)) Q) st
theorem pc29 {G:Nat→AV} {aS:List AV} {r:AV} (h:yq aS 61 (fun s=>V29 G 0 (wR [(6,some (true,5))] r) ⟨s,[]⟩)):PC Tryd.prog G 29 aS r:=by
 refine XR (v:=V29 G 0) fn29_is (fn29_bd.trans (congrArg some bd29_is)) fn29_rs ?_ (by rw [fn29_nt];exact h)
 exact OkC.seq (OkC.of cp29_0) (OkC.seq (OkC.of cp29_1) (OkC.seq (OkC.of cp29_2) (OkC.seqZ (OkC.of cp29_3) (OkC.seqZ (OkC.of cp29_4) (OkC.of cp29_5)))))
open Pr7
theorem p_p (l:List Pr):(l.map pA).all AV.isP=true:=by simp [pA,AV.isP,AV.isC,AV.isC0]
theorem del60e (G:Nat→AV) (k s t h b:Int) (o:Int) (x y z:ByteArray) (i:Int):PC Tryd.prog G 60 [.sl 2 [],nA k s t h b o x y z i] (.sl 2 []):=by
 have c:PC Tryd.prog G 87 [.sl 2 [],nA k s t h b o x y z i] (I (-1)):=by
  refine zf cop87 ?_
  repeat' ((conv=>whnf);first|(refine SeqP.go ?_)|((with_reducible refine (?_:ObL _ _));(refine ObL.mk _ (by first|exact (rfl:([]:List AV).length=0)|assumption|exact (List.length_map _).trans (by assumption)|exact List.length_map _|rfl) ?_)))
  conv=>whnf
  refine LoopP.go (α:=Unit) (fun _=>True) (fun _=>0) (fun _=>[(4,none),(0,none),(2,some (I 0)),(0,none),(0,none),(0,none),(0,none),(0,none),(0,none),(0,none),(0,none),(0,none),(0,none)]) (fun _=>[]) () trivial (Fg.go ?_ rfl) ?_
  ·repeat' ((conv=>whnf);first|((refine ObEqs.mk ?_ ?_);rfl)|((with_reducible refine ObEq1.i ?_ ?_);exact zF)|exact True.intro)
  rintro _ _
  have z0:¬ (0:Int) < ((([]:List AV).length:Nat):Int):=by simp
  repeat' ((conv=>whnf);first|(refine SeqP.go ?_)|((refine ObN.mk ?_ ?_);exact zN)|(refine ObT.ff ?_)|((refine ObB.no ?_ ?_);exact zC)|((with_reducible refine ObEq.i ?_);exact zF))
 refine pc60 ?_
 repeat' ((conv=>whnf);first|(refine SeqP.go ?_)|((refine ObN.mk ?_ ?_);exact zN)|(refine ObT.tt ?_)|((refine ObB.yes ?_ ?_);exact zB)|((refine ObH.f 87 ?_);(first|(with_reducible refine ObH.mk _ _ ((Zz (by rfl) c _)) ?_)|(refine ObH.mk _ _ ((Zz (by rfl) c _)) ?_)))|((refine ObEq.mk ?_);exact zE))
section
variable (k s t h b:Int) (hb:i64 b) (l:List Pr) (H:List Hd) (o:Int) (x y z:ByteArray) (i:Int) (hx:x.size≤40)
include hb hx in
set_option maxHeartbeats 4000000 in
theorem held11 (o11:o=11) (hH:H.length≤1000000) (hl:∀ x ∈ H,x.2.length≤40∧Okl x.2∧∀ p ∈ mk x.2,p.1.size≤100000):PC Tryd.prog zw 29 [cA k s t h b,sA l H,xA o x y z i] ((an k b l H o x i).1.A):=by
 have hM:=Pr7.hM zw
 have c40:=xJ zw l H hH i
 have e0:an k b l H o x i=if (atV H i).2=true then (anH k b (atV H i).1 o x,true) else (⟨10,false,⟨#[]⟩,⟨#[]⟩,0⟩,true):=by
  unfold an
  rw [if_neg (by omega),if_neg (by omega),if_neg (by omega)]
 rw [e0]
 clear e0
 cases hf:fx H i with
 | none =>
  have e:hix H i = -1:=by unfold hix;rw [hf]
  have ea:atV H i=([],false):=by unfold atV;rw [hf]
  rw [e] at c40
  rw [ea]
  refine zf Xl ?_
  repeat' ((conv=>whnf);first|(refine SeqP.go ?_)|((refine ObD.mk ?_ ?_);exact zD)|((refine ObN.mk ?_ ?_);exact zN)|(refine ObT.tt ?_)|((refine ObB.yes ?_ ?_);exact zB)|((with_reducible refine (?_:ObU _ _));(refine ObU.mk _ zU ?_))|((with_reducible refine (?_:ObR _ _ _));(first|(refine ObR.mk _ zA ?_)|(refine ObR.map zX (fun x hx=>?_))|(refine ObR.mk _ rfl ?_)))|((refine ObC.f 40 ?_);(refine ObC.mk _ (c40) ?_))|((refine ObEq.mk ?_);exact zE))
 | some j =>
  obtain ⟨hj,_⟩:∃ hj:j < H.length,H[j].1=i:=by
   unfold fx at hf
   rw [List.findIdx?_eq_some_iff_getElem] at hf
   obtain ⟨h1,h2,_⟩:=hf
   exact ⟨h1,by simpa using h2⟩
  have e:hix H i=(j:Int):=by unfold hix;rw [hf]
  have ea:atV H i=(H[j].2,true):=by
   unfold atV
   rw [hf]
   simp [List.getD_eq_getElem?_getD,List.getElem?_eq_getElem hj]
  rw [e] at c40
  rw [ea,if_pos rfl]
  dsimp only
  have q:=Yb hj
  obtain ⟨l1,l2,l3⟩:=hl _ (List.getElem_mem hj)
  generalize H[j]=w at *
  have hjn:¬ (j:Int) < 0:=by omega
  have hml:=Z5 w.2
  have l0:=l2.len
  subst o11
  unfold anH
  rw [if_neg (by omega),if_neg (by omega),if_pos rfl]
  unfold anO
  by_cases hw:w.2=[]
  ·have em : mk w.2 = [] := by rw [hw]; exact xB List.Pairwise.nil
   have c48:=hM [] (by simp) ⟨by simp,by simp⟩
   rw [xB List.Pairwise.nil] at c48
   have c60:=del60e zw k s t h b 11 x y z i
   have c59:=wa zw k s t h b hb [] (by simp) (by simp)
   have c26:=Yq zw ⟨#[]⟩ ⟨#[]⟩ false
   rw [em,List.filter_nil]
   rw [hw] at q
   refine pc29 ?_
   repeat' ((conv=>whnf);first|(refine SeqP.go ?_)|((refine ObD.mk ?_ ?_);exact zD)|((refine ObN.mk ?_ ?_);exact zN)|(refine ObT.ff ?_)|((refine ObB.no ?_ ?_);exact zC)|((refine ObX.mk _ rfl ?_ ?_);exact zX)|((with_reducible refine (?_:ObR _ _ _));(first|(refine ObR.mk _ (by assumption) ?_)|(refine ObR.mk _ (by exact q) ?_)|(refine ObR.mk _ Zv ?_)|(refine ObR.map zX (fun x hx=>?_))|(refine ObR.mk _ rfl ?_)))|((refine ObC.f 40 ?_);(refine ObC.mk _ (c40) ?_)))
   conv=>whnf
   refine SeqZ.pz 3 _ _ rfl (SeqZ.go ?_)
   repeat' ((conv=>whnf);first|((refine ObD.mk ?_ ?_);exact zD)|((refine ObN.mk ?_ ?_);exact zN)|((with_reducible refine (?_:ObU _ _));(refine ObU.mk _ zU ?_))|((with_reducible refine (?_:ObR _ _ _));(first|(refine ObR.mk _ zA ?_)|(refine ObR.map zX (fun x hx=>?_))|(refine ObR.mk _ rfl ?_))))
   conv=>whnf
   refine SeqZ.pz 9 _ _ rfl ?_
   simp only [List.set_cons_zero,List.set_cons_succ]
   refine SeqZ.pz 5 _ _ rfl (SeqZ.go ?_)
   simp only [List.set_cons_zero,List.set_cons_succ]
   repeat' ((conv=>whnf);first|(refine SeqP.go ?_)|((refine ObD.mk ?_ ?_);exact zD)|((refine ObN.mk ?_ ?_);exact zN)|(with_reducible first|refine ObT.tt ?_|refine ObT.ff ?_)|((refine ObB.yes ?_ ?_);exact zB)|((refine ObB.no ?_ ?_);exact zC)|((with_reducible refine (?_:ObU _ _));(refine ObU.mk _ zU ?_))|((with_reducible refine (?_:ObR _ _ _));(first|(refine ObR.mk _ (by assumption) ?_)|(refine ObR.mk _ (by exact q) ?_)|(refine ObR.mk _ Zv ?_)|(refine ObR.map zX (fun x hx=>?_))|(refine ObR.mk _ rfl ?_)))|((refine ObH.f 48 ?_);(first|(with_reducible refine ObH.mk _ _ ((Zz (by rfl) c48 _)) ?_)|(refine ObH.mk _ _ ((Zz (by rfl) c48 _)) ?_)))|((refine ObH.f 60 ?_);(first|(with_reducible refine ObH.mk _ _ ((Zz (by rfl) c60 _)) ?_)|(refine ObH.mk _ _ ((Zz (by rfl) c60 _)) ?_)))|((refine ObC.f 59 ?_);(refine ObC.mk _ (c59) ?_))|((refine ObC.f 26 ?_);(refine ObC.mk _ (c26) ?_))|((refine ObEq.mk ?_);exact zE))
  ·have c48 := mkr zw w.2 l2 l1 hw
   have c60:=del60 zw k s t h b hb 11 x y z i (by omega) 1 (mk w.2) l3 (by omega) _ rfl
   have c59:=wa zw k s t h b hb ((mk w.2).filter fun p=>bfo k b x p.1) (by have:=List.length_filter_le (fun p:Pr=>bfo k b x p.1) (mk w.2);omega) (fun p hp=>l3 p (List.mem_filter.1 hp).1)
   generalize xe (bfo k b) ((mk w.2).filter fun p=>bfo k b x p.1)=v at *
   generalize mk w.2=m at *
   have np:=yZ m
   generalize (m.filter fun p=>bfo k b x p.1)=f at *
   have nf:=yZ f
   have tf:(f.map pA).take f.length=f.map pA:=List.take_of_length_le (by simp)
   have ip:((f.map pA).take f.length).all AV.isP=true:=by
    rw [tf];exact p_p f
   have ip2:=p_p f
   refine pc29 ?_
   repeat' ((conv=>whnf);first|(refine SeqP.go ?_)|((refine ObD.mk ?_ ?_);exact zD)|((refine ObN.mk ?_ ?_);exact zN)|(refine ObT.ff ?_)|((refine ObB.no ?_ ?_);exact zC)|((refine ObX.mk _ rfl ?_ ?_);exact zX)|((with_reducible refine (?_:ObR _ _ _));(first|(refine ObR.mk _ (by assumption) ?_)|(refine ObR.mk _ (by exact q) ?_)|(refine ObR.mk _ Zv ?_)|(refine ObR.map zX (fun x hx=>?_))|(refine ObR.mk _ rfl ?_)))|((refine ObC.f 40 ?_);(refine ObC.mk _ (c40) ?_)))
   conv=>whnf
   refine SeqZ.pz 3 _ _ rfl (SeqZ.go ?_)
   repeat' ((conv=>whnf);first|((refine ObD.mk ?_ ?_);exact zD)|((refine ObN.mk ?_ ?_);exact zN)|((with_reducible refine (?_:ObU _ _));(refine ObU.mk _ zU ?_))|((with_reducible refine (?_:ObR _ _ _));(first|(refine ObR.mk _ zA ?_)|(refine ObR.map zX (fun x hx=>?_))|(refine ObR.mk _ rfl ?_))))
   conv=>whnf
   refine SeqZ.pz 9 _ _ rfl ?_
   simp only [List.set_cons_zero,List.set_cons_succ]
   refine SeqZ.pz 5 _ _ rfl (SeqZ.go ?_)
   simp only [List.set_cons_zero,List.set_cons_succ]
   cases v with
   | none =>
    have c26:=Yq zw ⟨#[]⟩ ⟨#[]⟩ false
    repeat' ((conv=>whnf);first|(refine SeqP.go ?_)|((refine ObD.mk ?_ ?_);exact zD)|((refine ObN.mk ?_ ?_);(exact zq9))|(with_reducible first|refine ObT.tt ?_|refine ObT.ff ?_)|((refine ObB.yes ?_ ?_);exact zB)|((refine ObB.no ?_ ?_);exact zC)|((with_reducible refine (?_:ObU _ _));(refine ObU.mk _ zq3 ?_))|((with_reducible refine (?_:ObR _ _ _));(first|(refine ObR.mk _ (by assumption) ?_)|(refine ObR.mk _ (by exact q) ?_)|(refine ObR.mk _ Zv ?_)|(refine ObR.map zX (fun x hx=>?_))|(refine ObR.mk _ rfl ?_)))|((refine ObH.f 48 ?_);refine ObH.frn _ xN [] (c48) (by simp) rfl (by simp) ?_)|((refine ObH.f 60 ?_);refine ObH.frn _ xN [(1,5,1)] (c60) (by simp) rfl (by simp) ?_)|((refine ObC.f 59 ?_);(refine ObC.mk _ (c59) ?_))|((refine ObC.f 26 ?_);(refine ObC.mk _ (c26) ?_))|((refine ObEq.mk ?_);exact zE)|((with_reducible refine ObRow.same ?_ ?_ ?_);exact zE;(focus (first|rfl|assumption|(simp;done))))|((with_reducible refine ObAs.mk ?_ ?_);(focus (first|rfl|(simp [rnB,rnC,rnL];done))))|((with_reducible refine (?_:ObRs _ _ _));(refine ObRs.mk _ rfl ?_))|((with_reducible refine ObBk.same ?_ ?_);(focus (first|rfl|assumption|(simp;done)))))
   | some p =>
    have c26:=Yq zw p.1 p.2 true
    repeat' ((conv=>whnf);first|(refine SeqP.go ?_)|((refine ObD.mk ?_ ?_);exact zD)|((refine ObN.mk ?_ ?_);(exact zq9))|(with_reducible first|refine ObT.tt ?_|refine ObT.ff ?_)|((refine ObB.yes ?_ ?_);exact zB)|((refine ObB.no ?_ ?_);exact zC)|((with_reducible refine (?_:ObU _ _));(refine ObU.mk _ zq3 ?_))|((with_reducible refine (?_:ObR _ _ _));(first|(refine ObR.mk _ (by assumption) ?_)|(refine ObR.mk _ (by exact q) ?_)|(refine ObR.mk _ Zv ?_)|(refine ObR.map zX (fun x hx=>?_))|(refine ObR.mk _ rfl ?_)))|((refine ObH.f 48 ?_);refine ObH.frn _ xN [] (c48) (by simp) rfl (by simp) ?_)|((refine ObH.f 60 ?_);refine ObH.frn _ xN [(1,5,1)] (c60) (by simp) rfl (by simp) ?_)|((refine ObC.f 59 ?_);(refine ObC.mk _ (c59) ?_))|((refine ObC.f 26 ?_);(refine ObC.mk _ (c26) ?_))|((refine ObEq.mk ?_);exact zE)|((with_reducible refine ObRow.same ?_ ?_ ?_);exact zE;(focus (first|rfl|assumption|(simp;done))))|((with_reducible refine ObAs.mk ?_ ?_);(focus (first|rfl|(simp [rnB,rnC,rnL];done))))|((with_reducible refine (?_:ObRs _ _ _));(refine ObRs.mk _ rfl ?_))|((with_reducible refine ObBk.same ?_ ?_);(focus (first|rfl|assumption|(simp;done)))))
end
end Go.Proofs.YtgpldekhcojimaaDoor.Sim
namespace Go.Proofs.YtgpldekhcojimaaDoor.Sim
open Go.RowKit
set_option maxRecDepth 100000
open Pr7
theorem fH_fH (H:List Hd):fH (fH H)=fH H:=by
 unfold fH
 rw [List.map_map]
 refine List.map_congr_left fun x _=>?_
 simp only [Function.comp]
 rw [few_few]
theorem fH_mem {H:List Hd} {x:Hd} (h:x ∈ fH H):∃ y,x.2=few y:=by
 obtain ⟨y,_,rfl⟩:=List.mem_map.1 h
 exact ⟨_,rfl⟩
theorem few_40 (l:List Pr):(few l).length≤40:=by rw [xK];omega
structure Cu (l:List Pr) (H:List Hd):Prop where
 l0:l.length≤40
 l1:Okl l
 lf:few l=l
 h0:H.length≤6
 hf:fH H=H
 h1:∀ x ∈ H,x.2.length≤40∧Okl x.2
theorem cu_few (l:List Pr) (H:List Hd):Cu (few l) (fH (H.take 6)) :=
 ⟨few_40 l,okl_few l,few_few l,by rw [wh,List.length_take];omega,fH_fH _,fun x hx=>by
  obtain ⟨y,e⟩:=fH_mem hx
  rw [e];exact ⟨few_40 y,okl_few y⟩⟩
theorem Cu.ok {l:List Pr} {H:List Hd} (c:Cu l H):SOk l H :=
 ⟨by have:=c.l0;omega,c.l1.sz,by have:=c.h0;omega,fun x hx=>⟨by have:=(c.h1 x hx).1;omega,(c.h1 x hx).2.sz⟩⟩
section
variable (G:Nat→AV)
theorem give10' {l:List Pr} {H:List Hd} (c:Cu l H):PC Tryd.prog G 10 [sA l H] (sA l H):=by
 have:=give10 G l H c.ok (by have:=c.h0;omega)
 rwa [c.lf,c.hf] at this
theorem rsame {l m:List Pr} {H K:List Hd} (hl:l.length≤1000∧Okl l) (hm:m.length≤1000∧Okl m) (hH:H.length≤1000∧∀ x ∈ H,x.2.length≤1000∧Okl x.2) (hK:K.length≤1000∧∀ x ∈ K,x.2.length≤1000∧Okl x.2) (r:Bool) (hr:r=true↔(mk l=mk m∧sH H K)):PC Tryd.prog G 14 [sA l H,sA m K] (Bo r) :=
 rsame14 G l m H K (by omega) (by omega) (by have:=Z5 l;omega) (by have:=Z5 m;omega) (yy G l hl.2) (yy G m hm.2) (fun x hx=>⟨yy G _ (hH.2 x hx).2,by have:=Z5 x.2;have:=(hH.2 x hx).1;omega⟩) (fun x hx=>⟨yy G _ (hK.2 x hx).2,by have:=Z5 x.2;have:=(hK.2 x hx).1;omega⟩) r hr
theorem Cu.r {l:List Pr} {H:List Hd} (c:Cu l H):(l.length≤1000∧Okl l)∧(H.length≤1000∧∀ x ∈ H,x.2.length≤1000∧Okl x.2) :=
 ⟨⟨by have:=c.l0;omega,c.l1⟩,⟨by have:=c.h0;omega,fun x hx=>⟨by have:=(c.h1 x hx).1;omega,(c.h1 x hx).2⟩⟩⟩
end
end Go.Proofs.YtgpldekhcojimaaDoor.Sim
namespace Go.Proofs.YtgpldekhcojimaaDoor.Sim
set_option maxRecDepth 100000
def B36:AF:=(AF.mk 32 [(2,(some (true,2)))] (AC.seq (AC.region [(jA 1 (AOp.new 39 2 (AX.t 0))),(jA 2 (AOp.new 39 2 (AX.c (AV.agg [(AV.nl 2),(AV.nl 2)]))))]) (AC.seq (AC.drawx [[(jA 5 (AOp.fad 0 (AX.t 1))),(jA 6 (AOp.load false 1 (AX.t 5))),(jA 7 (AOp.call 65 [(AX.t 6)])),(jA 8 (AOp.fad 1 (AX.t 1))),(jA 9 (AOp.load false 1 (AX.t 8))),(jA 10 (AOp.callh 66 [(AX.t 9)])),(jA 11 (AOp.bld [(AV.nl 2),(AV.nl 2)] [(0,(1,(AX.t 7))),(1,(1,(AX.t 10)))])),(jA 3 (AOp.new 39 2 (AX.c (AV.agg [(AV.nl 2),(AV.nl 2)])))),(jB (AOp.store 2 (AX.t 3) (AX.t 11)))],[(jA 5 (AOp.fad 0 (AX.t 1))),(jA 6 (AOp.load false 1 (AX.t 5))),(jA 7 (AOp.call 65 [(AX.t 6)])),(jA 8 (AOp.fad 1 (AX.t 1))),(jA 9 (AOp.load false 1 (AX.t 8))),(jA 3 (AOp.new 39 2 (AX.c (AV.agg [(AV.nl 2),(AV.nl 2)])))),(jA 10 (AOp.callh 66 [(AX.t 9)])),(jA 11 (AOp.bld [(AV.nl 2),(AV.nl 2)] [(0,(1,(AX.t 7))),(1,(1,(AX.t 10)))])),(jB (AOp.store 2 (AX.t 3) (AX.t 11)))]]) (AC.seq (AC.seq (AC.region [(jA 12 (AOp.fad 1 (AX.t 3))),(jA 13 (AOp.load false 1 (AX.t 12))),(jA 14 (AOp.len (AX.t 13))),(jA 15 (AOp.mv (jI 0)))]) (AC.block 0 (AC.loop (AC.seq (AC.region [(jA 16 (AOp.bin BinOp.lss 3 false (Operand.tmp 15) (Operand.tmp 14) (AX.t 15) (AX.t 14)))]) (AC.seq (AC.cond (AX.t 16) AC.skip (AC.exit 0)) (AC.seq (AC.block 1 (AC.seq (AC.region [(jA 17 (AOp.mv (AX.t 15))),(jA 4 (AOp.mv (AX.t 17)))]) (AC.draw [(jA 18 (AOp.fad 1 (AX.t 3))),(jA 19 (AOp.load false 1 (AX.t 18))),(jA 20 (AOp.mv (AX.t 4))),(jA 21 (AOp.fad 1 (AX.t 3))),(jA 22 (AOp.load false 1 (AX.t 21))),(jA 23 (AOp.mv (AX.t 4))),(jA 24 (AOp.iad 2 (AX.t 22) (AX.t 23))),(jA 25 (AOp.fad 1 (AX.t 24))),(jA 26 (AOp.load false 1 (AX.t 25))),(jA 27 (AOp.call 65 [(AX.t 26)])),(jA 28 (AOp.iad 2 (AX.t 19) (AX.t 20))),(jA 29 (AOp.fad 1 (AX.t 28))),(jB (AOp.store 1 (AX.t 29) (AX.t 27)))]))) (AC.region [(jA 30 (AOp.bin BinOp.add 3 false (Operand.tmp 15) (Operand.const (Value.int IntKind.i64 1)) (AX.t 15) (jI 1))),(jA 15 (AOp.mv (AX.t 30)))]))))))) (AC.seq (AC.region [(jA 31 (AOp.load true 2 (AX.t 3))),(jB (AOp.store 2 (AX.t 2) (AX.t 31)))]) AC.ret)))))
theorem wN:Zk Tryd.prog [41,60,66,68,79,87,90,97,101,102,103,104] 36=some B36:=by kernel_rfl
end Go.Proofs.YtgpldekhcojimaaDoor.Sim
namespace Go.Proofs.YtgpldekhcojimaaDoor.Sim
open Go.RowKit
set_option maxRecDepth 100000
open Pr7
theorem set_hA {H:List Hd} {k:Nat} (h:k < H.length):(H.map hA).set k (.agg [I H[k].1,.sl 2 (H[k].2.map pA)])=H.map hA:=by
 refine List.ext_getElem (by simp) fun i h1 h2=>?_
 rw [List.getElem_set]
 split
 ·rename_i e;subst e;simp [hA]
 ·rfl
section
variable (G:Nat→AV)
set_option maxHeartbeats 4000000 in
theorem cl66 (H:List Hd) (hH:H.length≤1000000) (h0:H ≠ []) (R:Hp):HC Tryd.prog G 66 [.sl 2 (H.map hA)] R (.ol R.length 1 H.length) (R++[⟨71,2,H.map hA,1,0⟩]):=by
 have he:(H.map hA).isEmpty=false:=by cases H with|nil=>exact absurd rfl h0|cons=>rfl
 refine yk cop66 ?_
 show W _ _ _ _ ⟨_,_⟩;simp only [A66,List.cons_append,List.nil_append,List.length_cons,List.length_nil,Nat.reduceAdd,Nat.reduceSub,List.replicate]
 repeat (first|(with_reducible first|refine zJ ?_|refine zI ?_|refine Ze ?_|refine zk ?_|refine zh ?_|refine Zl ?_)|((with_reducible first|refine ks fun K hK=>?_|refine kd fun K hK=>?_|refine kc fun K hK2 hK hK3=>?_|refine Zr fun K hR=>?_|refine Zj rfl fun K hR=>?_|refine Zi fun K hR=>?_);simp (disch:=omega) only [bg0,bg1,bg2,bg3,bg4,zr,zS,eff,AX.ev,St.put,zQ,zP,ap1,zg,Int.reduceTMod,Int.reduceTDiv,reduceCtorEq,zt,AV.cells,AV.fine,AV.one,Nat.reduceAdd,Nat.reduceSub,Nat.reduceMul,Nat.reduceLT,Nat.reduceLeDiff,Int.reduceLT,Int.reduceLE,Int.reduceAdd,Int.reduceSub,Int.reduceNeg,Int.reduceMul,Int.reduceEq,Int.reduceToNat,zW,zp,live,zo,rdA,ze,wrA,zH,zq,zV,zR,zT,zi,zb,zm,zj,zd,cut,id,ap2,reduceIte,zu,zY,geB,AOp.cls,AOp.xs,ltB,ltC,Nat.reduceBEq,Option.toList,List.cons_append,decide_eq_true,decide_eq_false,if_pos,if_neg,List.length_map,List.cons_append,bVb,bVn,eq_self,Bool.and_self,BEq.rfl,not_true_eq_false,islH,Yn,yN,Xe,he,Bool.not_false];(first|(with_reducible first|(refine hK _ ?_;clear hK K)|(refine hK ?_;clear hK hK3 K hK2)|(refine hK3 ?_;clear hK hK3 K hK2))|((with_reducible refine hR _ ?_ ?_ ?_ ?_);rotate_left 2;rfl;rfl)|((with_reducible refine hR _ ?_);rfl))))
theorem eNilP {H:Hp} {k:KK} {xo yo:Operand} {es:List AV} (he:es.isEmpty=false) (hk:k (.v (.bool false)) H):ObE ((zQ Tryd.prog H .eql 24 false xo yo (.sl 2 es) (.nl 2)).map (·,H)) k :=
 ⟨_,_,by simp only [zQ,isl,Yn,yN,Xe,he,Bool.false_eq_true,if_false,if_true,Bool.not_false];rfl,hk⟩
theorem Xm (l:List Pr) (hm:l.length≤1000):PC Tryd.prog G 65 [.sl 2 (l.map pA)] (.sl 2 (l.map pA)):=by
 cases l with
 | nil=>exact clone27e G
 | cons c0 ct =>
  have hl:ct.length+1≤1000:=hm
  have u1:((c0::ct).map pA).take (0+((c0::ct).map pA).length)=(c0::ct).map pA:=List.take_of_length_le (by simp)
  have p1:=yv (c0::ct)
  refine zf cop65 ?_
  have he:((c0::ct).map pA).isEmpty=false:=rfl
  repeat' ((conv=>whnf);first|(refine SeqP.go ?_)|((with_reducible refine (?_:ObE _ _));(refine eNilP he ?_))|((refine ObD.mk ?_ ?_);exact zD)|((refine ObN.mk ?_ ?_);exact zN)|(refine ObT.ff ?_)|((with_reducible refine (?_:ObL _ _));(refine ObL.mk _ zM ?_))|((with_reducible refine (?_:ObU _ _));(refine ObU.mk _ (by first|exact u1|assumption|((conv=>lhs;simp only [List.set_cons_zero,List.set_cons_succ,List.take_succ_cons,List.take_zero,List.drop_succ_cons,List.drop_zero,List.nil_append,List.cons_append,List.append_nil,List.take_nil,List.drop_nil]);try rfl)|rfl) ?_))|((refine ObEq.mk ?_);exact zE))
set_option maxHeartbeats 4000000 in
theorem cl36a (l:List Pr) (H:List Hd) (ok:Cu l H) (hH0:H ≠ []):PC Tryd.prog G 36 [sA l H] (sA l H):=by
 have hl1:l.length≤40:=ok.l0
 have cl:=Xm G l (by omega)
 have hH1:H.length≤1000000:=by have:=ok.h0;omega
 have nh:=Z7 H
 refine zf wN ?_
 repeat' ((conv=>whnf);first|((refine ObD.mk ?_ ?_);exact zD))
 conv=>whnf
 refine SeqP.go ?_
 refine Xv (α:=Unit) (fun _=>True) (fun _=>[(3,some (.oa 2 0 0 0)),(1,none),(0,none),(0,none),(0,none),(0,none),(0,none),(0,none)]) (fun _=>[⟨39,2,[sA l H],0,0⟩,⟨39,2,[.agg [.nl 2,.nl 2]],0,0⟩,⟨39,2,[.agg [.sl 2 (l.map pA),(.ol 3 1 H.length)]],0,0⟩,⟨71,2,H.map hA,1,0⟩]) ?_ ?_
 ·intro Q hQ
  have hQ0:=fun s' H' (h:s'.getD 3 zK = .oa 2 0 0 0) hf=>hQ s' H' () trivial hf
  have hQ1:=fun s' H' (h:s'.getD 3 zK = .oa 3 0 0 0) hf=>hQ s' H' () trivial hf
  repeat' ((conv=>whnf);first|(with_reducible first|refine ObAnd.mk ?_ ?_|refine ObDx.each ?_)|((refine ObD.mk ?_ ?_);exact zD)|((refine ObN.mk ?_ ?_);exact zN)|((with_reducible refine (?_:ObU _ _));(refine ObU.mk _ zU ?_))|((with_reducible refine (?_:ObR _ _ _));(first|(refine ObR.mk _ zA ?_)|(refine ObR.map zX (fun x hx=>?_))|(refine ObR.mk _ rfl ?_)))|((refine ObC.f 65 ?_);(refine ObC.mk _ (cl) ?_))|((refine ObH.f 66 ?_);(first|(with_reducible refine ObH.mk _ _ ((cl66 G H hH1 hH0 _)) ?_)|(refine ObH.mk _ _ ((cl66 G H hH1 hH0 _)) ?_))))
  all_goals conv=>whnf
  all_goals first|refine hQ0 _ _ rfl (Fg.vw [(0,0,0),(0,1,0),(0,2,0),(1,3,1)] ?_ ?_ (by simp) ?_)|refine hQ1 _ _ rfl (Fg.vw [(0,0,0),(0,1,0),(0,3,0),(1,2,1)] ?_ ?_ (by simp) ?_)
  all_goals repeat' ((conv=>whnf);first|((with_reducible refine ObRow.lit ?_ ?_);(focus (simp [rnB,rnC,rnL,AV.cells];done)))|((refine ObN.mk ?_ ?_);exact zN)|((with_reducible refine ObRn.mk ?_ ?_);(focus (first|rfl|(simp [rnB,rnC,rnL];done))))|((with_reducible refine ObRow.same ?_ ?_ ?_);exact zE;(focus (first|rfl|assumption|(simp;done))))|((refine ObEqs.mk ?_ ?_);rfl)|exact True.intro)
 ·rintro ⟨⟩ -
  repeat' ((conv=>whnf);first|(refine SeqP.go ?_)|((refine ObN.mk ?_ ?_);exact zN)|((with_reducible refine (?_:ObR _ _ _));(first|(refine ObR.mk _ zA ?_)|(refine ObR.map zX (fun x hx=>?_))|(refine ObR.mk _ rfl ?_))))
  conv=>whnf
  refine LoopP.go (α:=Nat) (fun k=>k≤H.length) (fun k=>H.length - k) (fun k=>[(4,none),(10,some (I k)),(0,none),(0,none),(0,none),(0,none),(0,none),(0,none),(0,none),(0,none),(0,none),(0,none),(0,none),(0,none),(0,none),(0,none),(0,none)]) (fun _=>[⟨39,2,[sA l H],0,0⟩,⟨39,2,[.agg [.nl 2,.nl 2]],0,0⟩,⟨39,2,[.agg [.sl 2 (l.map pA),(.ol 3 1 H.length)]],0,0⟩,⟨71,2,H.map hA,1,0⟩]) 0 (Nat.zero_le _) (Fg.go ?_ rfl) ?_
  ·repeat' ((conv=>whnf);first|((refine ObEqs.mk ?_ ?_);rfl)|((with_reducible refine ObEq1.i ?_ ?_);exact zF)|exact True.intro)
  rintro k hk
  by_cases hkl:k < H.length
  ·have q := Yb hkl
   have hs:=set_hA hkl
   obtain ⟨x1,x2⟩:=ok.h1 _ (List.getElem_mem hkl)
   generalize H[k]=x at *
   have c:=Xm G x.2 (by omega)
   repeat' ((conv=>whnf);first|(refine SeqP.go ?_)|((refine ObD.mk ?_ ?_);exact zD)|((refine ObN.mk ?_ ?_);exact zN)|(refine ObT.tt ?_)|((refine ObB.yes ?_ ?_);exact zB)|((with_reducible refine ObI.nl ?_ ?_);omega)|((refine ObX.mk _ rfl ?_ ?_);exact zX)|((with_reducible refine (?_:ObU _ _));(refine ObU.mk _ zq4 ?_))|((with_reducible refine (?_:ObR _ _ _));(first|(refine ObR.mk _ (by assumption) ?_)|(refine ObR.mk _ (by exact q) ?_)|(refine ObR.mk _ Zv ?_)|(refine ObR.map zX (fun x hx=>?_))|(refine ObR.mk _ rfl ?_)))|((refine ObC.f 65 ?_);(refine ObC.mk _ (c) ?_)))
   all_goals conv=>whnf
   refine Again.mk (k+1) (by omega) (by omega) (Fg.go ?_ rfl)
   repeat' ((conv=>whnf);first|((refine ObEqs.mk ?_ ?_);rfl)|((with_reducible refine ObEq1.i ?_ ?_);exact zF)|exact True.intro)
  ·obtain rfl : k = H.length := by omega
   have ha:(H.map hA).take H.length=H.map hA:=Xf
   have hp:((H.map hA).take H.length).all AV.isP=true:=by rw [ha];exact p_h _
   have hp2:=p_h H
   repeat' ((conv=>whnf);first|(refine SeqP.go ?_)|((refine ObD.mk ?_ ?_);exact zD)|((refine ObN.mk ?_ ?_);exact zN)|(refine ObT.ff ?_)|((refine ObB.no ?_ ?_);exact zC)|((with_reducible refine (?_:ObU _ _));(refine ObU.mk _ (by first|exact ha|assumption|((conv=>lhs;simp only [List.set_cons_zero,List.set_cons_succ,List.take_succ_cons,List.take_zero,List.drop_succ_cons,List.drop_zero,List.nil_append,List.cons_append,List.append_nil,List.take_nil,List.drop_nil]);try rfl)|rfl) ?_))|((with_reducible refine (?_:ObR _ _ _));(first|(refine ObR.mk _ zA ?_)|(refine ObR.map zX (fun x hx=>?_))|(refine ObR.mk _ rfl ?_)))|((refine ObEq.mk ?_);exact zE))
set_option maxHeartbeats 4000000 in
theorem cl36b (l:List Pr) (ok:Cu l []):PC Tryd.prog G 36 [sA l []] (sA l []):=by
 have hl1:l.length≤40:=ok.l0
 have cl:=Xm G l (by omega)
 have z1:([]:List AV).length=0:=rfl
 have z2:([]:List Hd).length=0:=rfl
 have z3:¬ ((0:Int) < (([]:List AV).length:Nat)):=by simp
 have z4:¬ ((0:Int) < (([]:List Hd).length:Nat)):=by simp
 refine zf wN ?_
 repeat' ((conv=>whnf);first|((refine ObD.mk ?_ ?_);exact zD))
 conv=>whnf
 refine SeqP.go ?_
 refine Xv (α:=Unit) (fun _=>True) (fun _=>[(3,some (.oa 2 0 0 0)),(1,none),(0,none),(0,none),(0,none),(0,none),(0,none),(0,none)]) (fun _=>[⟨39,2,[sA l []],0,0⟩,⟨39,2,[.agg [.nl 2,.nl 2]],0,0⟩,⟨39,2,[.agg [.sl 2 (l.map pA),(.sl 2 [])]],0,0⟩]) ?_ ?_
 ·intro Q hQ
  have hQ0:=fun s' H' (h:s'.getD 3 zK = .oa 2 0 0 0) hf=>hQ s' H' () trivial hf
  repeat' ((conv=>whnf);first|(with_reducible first|refine ObAnd.mk ?_ ?_|refine ObDx.each ?_)|((refine ObD.mk ?_ ?_);exact zD)|((refine ObN.mk ?_ ?_);exact zN)|((with_reducible refine (?_:ObU _ _));(refine ObU.mk _ zU ?_))|((with_reducible refine (?_:ObR _ _ _));(first|(refine ObR.mk _ zA ?_)|(refine ObR.map zX (fun x hx=>?_))|(refine ObR.mk _ rfl ?_)))|((refine ObC.f 65 ?_);(refine ObC.mk _ (cl) ?_))|((refine ObH.f 66 ?_);(first|(with_reducible refine ObH.mk _ _ ((Zz (by rfl) (cl66e G) _)) ?_)|(refine ObH.mk _ _ ((Zz (by rfl) (cl66e G) _)) ?_))))
  all_goals conv=>whnf
  all_goals first|refine hQ0 _ _ rfl (Fg.vw [(0,0,0),(0,1,0),(0,2,0)] ?_ ?_ (by simp) ?_)
  all_goals repeat' ((conv=>whnf);first|((with_reducible refine ObRow.lit ?_ ?_);(focus (simp [rnB,rnC,rnL,AV.cells];done)))|((refine ObN.mk ?_ ?_);exact zN)|((with_reducible refine ObRn.mk ?_ ?_);(focus (first|rfl|(simp [rnB,rnC,rnL];done))))|((refine ObEqs.mk ?_ ?_);rfl)|exact True.intro)
 ·rintro ⟨⟩ -
  repeat' ((conv=>whnf);first|(refine SeqP.go ?_)|((refine ObN.mk ?_ ?_);exact zN)|((with_reducible refine (?_:ObL _ _));(refine ObL.mk _ zM ?_))|((with_reducible refine (?_:ObR _ _ _));(first|(refine ObR.mk _ zA ?_)|(refine ObR.map zX (fun x hx=>?_))|(refine ObR.mk _ rfl ?_))))
  conv=>whnf
  refine LoopP.go (α:=Unit) (fun _=>True) (fun _=>0) (fun _=>[(4,none),(10,some (I 0)),(0,none),(0,none),(0,none),(0,none),(0,none),(0,none),(0,none),(0,none),(0,none),(0,none),(0,none),(0,none),(0,none),(0,none),(0,none)]) (fun _=>[⟨39,2,[sA l []],0,0⟩,⟨39,2,[.agg [.nl 2,.nl 2]],0,0⟩,⟨39,2,[.agg [.sl 2 (l.map pA),(.sl 2 [])]],0,0⟩]) () trivial (Fg.go ?_ rfl) ?_
  ·repeat' ((conv=>whnf);first|((refine ObEqs.mk ?_ ?_);rfl)|((with_reducible refine ObEq1.i ?_ ?_);exact zF)|exact True.intro)
  rintro ⟨⟩ -
  repeat' ((conv=>whnf);first|(refine SeqP.go ?_)|((refine ObD.mk ?_ ?_);exact zD)|((refine ObN.mk ?_ ?_);exact zN)|(refine ObT.ff ?_)|((refine ObB.no ?_ ?_);exact zC)|((with_reducible refine (?_:ObU _ _));(refine ObU.mk _ zU ?_))|((with_reducible refine (?_:ObR _ _ _));(first|(refine ObR.mk _ zA ?_)|(refine ObR.map zX (fun x hx=>?_))|(refine ObR.mk _ rfl ?_)))|((refine ObEq.mk ?_);exact zE))
set_option maxHeartbeats 4000000 in
theorem cl36r (l:List Pr) (H:List Hd) (ok:Cu l H) (hH0:H ≠ []):HC Tryd.prog G 36 [sA l H] [] (.agg [.sl 2 (l.map pA),.ol 0 1 H.length]) [⟨71,2,H.map hA,1,0⟩]:=by
 have hl1:l.length≤40:=ok.l0
 have cl:=Xm G l (by omega)
 have hH1:H.length≤1000000:=by have:=ok.h0;omega
 have nh:=Z7 H
 refine YF wN rfl ?_
 repeat' ((conv=>whnf);first|((refine ObD.mk ?_ ?_);exact zD))
 conv=>whnf
 refine SeqP.go ?_
 refine Xv (α:=Unit) (fun _=>True) (fun _=>[(3,some (.oa 2 0 0 0)),(1,none),(0,none),(0,none),(0,none),(0,none),(0,none),(0,none)]) (fun _=>[⟨39,2,[sA l H],0,0⟩,⟨39,2,[.agg [.nl 2,.nl 2]],0,0⟩,⟨39,2,[.agg [.sl 2 (l.map pA),(.ol 3 1 H.length)]],0,0⟩,⟨71,2,H.map hA,1,0⟩]) ?_ ?_
 ·intro Q hQ
  have hQ0:=fun s' H' (h:s'.getD 3 zK = .oa 2 0 0 0) hf=>hQ s' H' () trivial hf
  have hQ1:=fun s' H' (h:s'.getD 3 zK = .oa 3 0 0 0) hf=>hQ s' H' () trivial hf
  repeat' ((conv=>whnf);first|(with_reducible first|refine ObAnd.mk ?_ ?_|refine ObDx.each ?_)|((refine ObD.mk ?_ ?_);exact zD)|((refine ObN.mk ?_ ?_);exact zN)|((with_reducible refine (?_:ObU _ _));(refine ObU.mk _ zU ?_))|((with_reducible refine (?_:ObR _ _ _));(first|(refine ObR.mk _ zA ?_)|(refine ObR.map zX (fun x hx=>?_))|(refine ObR.mk _ rfl ?_)))|((refine ObC.f 65 ?_);(refine ObC.mk _ (cl) ?_))|((refine ObH.f 66 ?_);(first|(with_reducible refine ObH.mk _ _ ((cl66 G H hH1 hH0 _)) ?_)|(refine ObH.mk _ _ ((cl66 G H hH1 hH0 _)) ?_))))
  all_goals conv=>whnf
  all_goals first|refine hQ0 _ _ rfl (Fg.vw [(0,0,0),(0,1,0),(0,2,0),(1,3,1)] ?_ ?_ (by simp) ?_)|refine hQ1 _ _ rfl (Fg.vw [(0,0,0),(0,1,0),(0,3,0),(1,2,1)] ?_ ?_ (by simp) ?_)
  all_goals repeat' ((conv=>whnf);first|((with_reducible refine ObRow.lit ?_ ?_);(focus (simp [rnB,rnC,rnL,AV.cells];done)))|((refine ObN.mk ?_ ?_);exact zN)|((with_reducible refine ObRn.mk ?_ ?_);(focus (first|rfl|(simp [rnB,rnC,rnL];done))))|((with_reducible refine ObRow.same ?_ ?_ ?_);exact zE;(focus (first|rfl|assumption|(simp;done))))|((refine ObEqs.mk ?_ ?_);rfl)|exact True.intro)
 ·rintro ⟨⟩ -
  repeat' ((conv=>whnf);first|(refine SeqP.go ?_)|((refine ObN.mk ?_ ?_);exact zN)|((with_reducible refine (?_:ObR _ _ _));(first|(refine ObR.mk _ zA ?_)|(refine ObR.map zX (fun x hx=>?_))|(refine ObR.mk _ rfl ?_))))
  conv=>whnf
  refine LoopP.go (α:=Nat) (fun k=>k≤H.length) (fun k=>H.length - k) (fun k=>[(4,none),(10,some (I k)),(0,none),(0,none),(0,none),(0,none),(0,none),(0,none),(0,none),(0,none),(0,none),(0,none),(0,none),(0,none),(0,none),(0,none),(0,none)]) (fun _=>[⟨39,2,[sA l H],0,0⟩,⟨39,2,[.agg [.nl 2,.nl 2]],0,0⟩,⟨39,2,[.agg [.sl 2 (l.map pA),(.ol 3 1 H.length)]],0,0⟩,⟨71,2,H.map hA,1,0⟩]) 0 (Nat.zero_le _) (Fg.go ?_ rfl) ?_
  ·repeat' ((conv=>whnf);first|((refine ObEqs.mk ?_ ?_);rfl)|((with_reducible refine ObEq1.i ?_ ?_);exact zF)|exact True.intro)
  rintro k hk
  by_cases hkl:k < H.length
  ·have q := Yb hkl
   have hs:=set_hA hkl
   obtain ⟨x1,x2⟩:=ok.h1 _ (List.getElem_mem hkl)
   generalize H[k]=x at *
   have c:=Xm G x.2 (by omega)
   repeat' ((conv=>whnf);first|(refine SeqP.go ?_)|((refine ObD.mk ?_ ?_);exact zD)|((refine ObN.mk ?_ ?_);exact zN)|(refine ObT.tt ?_)|((refine ObB.yes ?_ ?_);exact zB)|((with_reducible refine ObI.nl ?_ ?_);omega)|((refine ObX.mk _ rfl ?_ ?_);exact zX)|((with_reducible refine (?_:ObU _ _));(refine ObU.mk _ zq4 ?_))|((with_reducible refine (?_:ObR _ _ _));(first|(refine ObR.mk _ (by assumption) ?_)|(refine ObR.mk _ (by exact q) ?_)|(refine ObR.mk _ Zv ?_)|(refine ObR.map zX (fun x hx=>?_))|(refine ObR.mk _ rfl ?_)))|((refine ObC.f 65 ?_);(refine ObC.mk _ (c) ?_)))
   all_goals conv=>whnf
   refine Again.mk (k+1) (by omega) (by omega) (Fg.go ?_ rfl)
   repeat' ((conv=>whnf);first|((refine ObEqs.mk ?_ ?_);rfl)|((with_reducible refine ObEq1.i ?_ ?_);exact zF)|exact True.intro)
  ·obtain rfl : k = H.length := by omega
   have ha:(H.map hA).take H.length=H.map hA:=Xf
   have hp:((H.map hA).take H.length).all AV.isP=true:=by rw [ha];exact p_h _
   have hp2:=p_h H
   repeat' ((conv=>whnf);first|(refine SeqP.go ?_)|((refine ObD.mk ?_ ?_);exact zD)|((refine ObN.mk ?_ ?_);exact zN)|(refine ObT.ff ?_)|((refine ObB.no ?_ ?_);exact zC)|((with_reducible refine (?_:ObU _ _));(refine ObU.mk _ zU ?_))|((with_reducible refine (?_:ObR _ _ _));(first|(refine ObR.mk _ zA ?_)|(refine ObR.map zX (fun x hx=>?_))|(refine ObR.mk _ rfl ?_))))
   all_goals conv=>whnf
   refine ObEnd.vw [(1,3,1)] rfl ?_ (by simp) ?_
   all_goals repeat' ((conv=>whnf);first|((refine ObN.mk ?_ ?_);exact zN)|((with_reducible refine ObRow.same ?_ ?_ ?_);exact zE;(focus (first|rfl|assumption|(simp;done))))|exact True.intro)
end
end Go.Proofs.YtgpldekhcojimaaDoor.Sim
