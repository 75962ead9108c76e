/- Texts of this claim, part 8. -/
import Derived.LoopIn
import Derived.OwnWalkIn
import Derived.Shelf.Abstract
import Derived.Shelf.RegionOpen
import Derived.TacticsInMore
import Derived.Test.YtdodckipblafmaaGreatDoorMSeekLies7
import Derived.Test.YtdodckipblafmaaGreatDoorProg
import Derived.WalkKit
set_option linter.unusedVariables false
set_option linter.unusedSimpArgs false
namespace Go.Proofs.YtdodckipblafmaaGreatDoor.Sim
open Go.RowKit
set_option maxRecDepth 100000
theorem bl_fuel {h:List Nd} (hh:aH h h.length=true):∀ {n m:Nat} {r:Int},r<=(n:Int)->r<=(m:Int)->bl h n r=bl h m r:=by
 intro n
 induction n with
 | zero =>
  intro m r h1 h2
  cases m with
  | zero=>rfl
  | succ m=>rw [bl,bl,if_pos (by omega)]
 | succ n ih =>
  intro m r h1 h2
  cases m with
  | zero=>rw [bl,bl,if_pos (by omega)]
  | succ m =>
   rw [bl,bl]
   by_cases h0:r<=0
   ·rw [if_pos h0,if_pos h0]
   rw [if_neg h0,if_neg h0]
   rcases Nat.lt_or_ge (r - 1).toNat h.length with hi|hi
   ·have ho := yN hh hi
    rw [List.getElem?_eq_getElem hi]
    dsimp only
    by_cases h4:h[(r - 1).toNat].kn=4
    ·obtain ⟨q1, q2, _⟩ := Yg ho h4
     rw [if_pos h4,if_pos h4,ih (m:=m) (by omega) (by omega),ih (m:=m) (by omega) (by omega)]
    ·rw [if_neg h4, if_neg h4]
     congr 1
     have key:∀ r' ∈ rfN h[(r - 1).toNat],bl h n r'=bl h m r':=fun r' hr'=>by
      have:=yl ho hr'
      exact ih (by omega) (by omega)
     generalize rfN h[(r - 1).toNat]=l at key
     induction l with
     | nil=>rfl
     | cons a t iht =>
      rw [List.flatMap_cons,List.flatMap_cons,key a (List.mem_cons_self ..),iht fun r' hr'=>key r' (List.mem_cons_of_mem _ hr')]
   ·rw [List.getElem?_eq_none hi]
theorem ct_fuel {h:List Nd} (hh:aH h h.length=true):∀ {n m:Nat} {r:Int},r<=(n:Int)->r<=(m:Int)->ct h n r=ct h m r:=by
 intro n
 induction n with
 | zero =>
  intro m r h1 h2
  cases m with
  | zero=>rfl
  | succ m=>rw [ct,ct,if_pos (by omega)]
 | succ n ih =>
  intro m r h1 h2
  cases m with
  | zero=>rw [ct,ct,if_pos (by omega)]
  | succ m =>
   rw [ct,ct]
   by_cases h0:r<=0
   ·rw [if_pos h0,if_pos h0]
   rw [if_neg h0,if_neg h0]
   rcases Nat.lt_or_ge (r - 1).toNat h.length with hi|hi
   ·have ho := yN hh hi
    rw [List.getElem?_eq_getElem hi]
    dsimp only
    by_cases h4:h[(r - 1).toNat].kn=4
    ·obtain ⟨q1, q2, _⟩ := Yg ho h4
     rw [if_pos h4,if_pos h4,ih (m:=m) (by omega) (by omega),ih (m:=m) (by omega) (by omega)]
    ·rw [if_neg h4, if_neg h4]
     congr 2
     refine List.map_congr_left fun r' hr'=>?_
     have:=yl ho hr'
     exact ih (by omega) (by omega)
   ·rw [List.getElem?_eq_none hi]
def B (h:List Nd) (r:Int):List Pr:=bl h h.length r
def C (h:List Nd) (r:Int):Nat:=ct h h.length r
theorem B_0 {h:List Nd} {r:Int} (h0:r<=0):B h r=[]:=by
 unfold B;cases h.length with
 | zero=>rfl
 | succ n=>rw [bl,if_pos h0]
theorem Xy {h:List Nd} (hx:∀ x ∈ h,x.Ok) {r:Int}:(B h r).length<=40 * C h r:=bl_len hx
theorem B_eq {h:List Nd} (hh:aH h h.length=true) {i:Nat} (hi:i < h.length):B h ((i:Int)+1)=if h[i].kn=4 then B h (h[i].kk.getD 0 0)++ow h[i]++B h (h[i].kk.getD 1 0) else ow h[i]++(rfN h[i]).flatMap (B h):=by
 have e:B h ((i:Int)+1)=bl h (h.length+1) ((i:Int)+1):=bl_fuel hh (by omega) (by omega)
 rw [e,bl,if_neg (by omega)]
 have e2:((i:Int)+1 - 1).toNat=i:=by omega
 simp only [e2,List.getElem?_eq_getElem hi]
 rfl
theorem C_eq {h:List Nd} (hh:aH h h.length=true) {i:Nat} (hi:i < h.length):C h ((i:Int)+1)=if h[i].kn=4 then 2+C h (h[i].kk.getD 0 0)+C h (h[i].kk.getD 1 0) else 2+((rfN h[i]).map (C h)).sum:=by
 have e:C h ((i:Int)+1)=ct h (h.length+1) ((i:Int)+1):=ct_fuel hh (by omega) (by omega)
 rw [e,ct,if_neg (by omega)]
 have e2:((i:Int)+1 - 1).toNat=i:=by omega
 simp only [e2,List.getElem?_eq_getElem hi]
 rfl
def bA (b:Bool):AV:=.v (.bool b)
theorem X3 (l:List Bool):(l.map bA).all nrB=true:=by simp [bA,nrB,AV.cells]
theorem bA_at {l:List Bool} {k:Nat} {c:Bool} (h:l[k]? = some c):(l.map bA)[k]? = some (.v (.bool c)):=by simp [h,bA]
theorem bA_set {l:List Bool} {k:Nat} {c:Bool}:(l.map bA).set k (.v (.bool c))=(l.set k c).map bA:=by simp [bA,List.map_set]
theorem bA_rep {n:Nat}:List.replicate n (AV.v (.bool false))=(List.replicate n false).map bA:=by simp [bA]
section
variable (G:Nat->AV)
end
def kds (x:Nd):List (Nat × Int):=(ps (arr x.mp x.kk) 32).map fun j=>(j,(arr x.mp x.kk).getD j 0)
noncomputable def li (h:List Nd) (b:Int):Nat->Int->List Nat->Nat->Bool × Nat
 | 0,_,_,c=>(false,c)
 | n+1,r,p,c=>match h[(r - 1).toNat]? with
  | none=>(false,c)
  | some x => if x.kn = 5 then li h b n x.mn p c
   else if x.kn=1\/x.kn=6 then bdL b p (ow x) c
   else if x.kn=3 then (if lvN b<=p.length then bdL b p (ow x) c else (false,c))
   else if x.kn=2 then (if p.length < lvN b then ((bf (li h b n) p (kds x) c).1 && decide (x.sz=0\/x.sz=((bf (li h b n) p (kds x) c).2:Int) - (c:Int)),(bf (li h b n) p (kds x) c).2) else (false,c))
   else (false,c)
noncomputable def dl (h:List Nd) (b:Int):Nat->Int->Nat->Bool
 | 0,_,_=>false
 | n+1,r,lv=>match h[(r - 1).toNat]? with
  | none=>false
  | some x => if x.kn = 5 then dl h b n x.mn lv
   else if x.kn=3 then decide (lvN b<=lv)
   else if x.kn=2 then decide (lv < lvN b) && decide (x.sz=0\/x.sz=((B h r).length:Int)) && (kds x).all fun e=>(B h e.2).all (fun q=>decide (cN b (lv:Int) q.1=e.1)) && decide (B h e.2 ≠ []) && dl h b n e.2 (lv+1)
   else decide (x.kn ≠ 4)
theorem x9 {b:Int} {p:List Nat} {j:Nat} {q:Pr}:okc b (p++[j]) q=(okc b p q && decide (cN b (p.length:Int) q.1=j)):=by
 unfold okc
 rw [List.length_append,List.length_singleton,List.range_succ,List.all_append]
 congr 1
 ·rw [Bool.eq_iff_iff]
  simp only [List.all_eq_true,List.mem_range]
  constructor<;>intro h i hi
  ·have:=h i hi;rwa [List.getD_eq_getElem?_getD,List.getElem?_append_left hi,<- List.getD_eq_getElem?_getD] at this
  ·have:=h i hi;rwa [List.getD_eq_getElem?_getD,List.getElem?_append_left hi,<- List.getD_eq_getElem?_getD]
 ·simp
structure Sp (s:Bool × Nat) (c:Nat) (L:List Pr) (Q:Prop):Prop where
 iff:s.1=true↔Q
 cnt:s.1=true->s.2=c+L.length
 lo:c<=s.2
 hi:s.2<=c+L.length
theorem bd_sp {b:Int} {p:List Nat}:∀ {l:List Pr} {c:Nat},Sp (bdL b p l c) c l (∀ q ∈ l,okc b p q=true)
 | [],c=>⟨by simp [bdL],by simp [bdL],by simp [bdL],by simp [bdL]⟩
 | q::l,c=>by
  rw [bdL]
  split
  ·rename_i hq
   obtain ⟨h1,h2,h3,h4⟩:=@bd_sp b p l (c+1)
   refine ⟨by rw [h1];simp [hq],fun h=>?_,by omega,?_⟩
   ·rw [h2 h,List.length_cons];omega
   ·rw [List.length_cons];omega
  ·rename_i hq
   exact ⟨by simp [hq],by simp,by simp,by simp⟩
theorem bf_sp {b:Int} {p:List Nat} {rec:Int->List Nat->Nat->Bool × Nat} {Bf:Int->List Pr} {D:Nat × Int->Prop}:∀ {l:List (Nat × Int)} {c:Nat},(∀ e ∈ l,∀ c,Sp (rec e.2 (p++[e.1]) c) c (Bf e.2) (D e))->Sp (bf rec p l c) c (l.flatMap fun e=>Bf e.2) (∀ e ∈ l,D e/\Bf e.2 ≠ [])
 | [],c,_=>⟨by simp [bf],by simp [bf],by simp [bf],by simp [bf]⟩
 | e::t,c,hr=>by
  obtain ⟨a1,a2,a3,a4⟩:=hr e (List.mem_cons_self ..) c
  rw [bf]
  generalize rec e.2 (p++[e.1]) c=s at *
  obtain ⟨s1,s2⟩:=s
  dsimp only at *
  have key:¬ (s1=false\/s2=c)↔D e/\Bf e.2 ≠ []:=by
   constructor
   ·intro h
    have h1:s1=true:=by cases s1<;>simp_all
    have h2:s2 ≠ c:=fun e=>h (.inr e)
    refine ⟨a1.1 h1,fun e0=>?_⟩
    rw [e0] at a4
    simp only [List.length_nil] at a4
    omega
   ·rintro ⟨h1, h2⟩ (h | h)
    ·rw [a1.2 h1] at h;cases h
    ·have := a2 (a1.2 h1)
     have h3:0 < (Bf e.2).length:=List.length_pos_iff.2 h2
     omega
  split
  ·rename_i h
   refine ⟨⟨fun h=>by simp at h,fun hq=>?_⟩,fun h=>by simp at h,a3,?_⟩
   ·exact absurd h (key.2 (hq e (List.mem_cons_self ..)))
   ·simp only [List.flatMap_cons,List.length_append];omega
  ·rename_i h
   obtain ⟨h1,h2,h3,h4⟩:=@bf_sp b p rec Bf D t s2 fun e he=>hr e (List.mem_cons_of_mem _ he)
   have hk:=key.1 h
   have e2:=a2 (a1.2 hk.1)
   refine ⟨?_,fun hh=>?_,by omega,?_⟩
   ·rw [h1]
    constructor
    ·intro hq a ha
     rcases List.mem_cons.1 ha with rfl|ha
     ·exact hk
     ·exact hq a ha
    ·exact fun hq a ha=>hq a (List.mem_cons_of_mem _ ha)
   ·rw [h2 hh];simp only [List.flatMap_cons,List.length_append];omega
   ·simp only [List.flatMap_cons,List.length_append];omega
theorem kzm (a:List Int):∀ n,n<=a.length->kz (a.take n)=(ps a n).map fun i=>a.getD i 0
 | 0,_=>by simp [kz,ps]
 | n+1,h=>by
  rw [wb a n (by omega),ps_succ,List.map_append,kzm a n (by omega)]
  congr 1
  split<;>simp
section
variable {h:List Nd} (hh:aH h h.length=true) (hx:∀ x ∈ h,x.Ok)
theorem br_of {i:Nat} {x:Nd} (ho:okH i x=true) (hx:x.Ok) (h2:x.kn=2):(kds x).map (fun e=>e.2)=x.kk/\(kds x).map (fun e=>e.1)=Mk.all x.mp/\rfN x=x.kk/\ow x=[]/\(∀ e ∈ kds x,1<=e.2/\e.2<=(i:Int)/\e.1 < 32)/\0<=x.sz/\x.kk=kz (arr x.mp x.kk)/\x.mp=bm (arr x.mp x.kk):=by
 obtain ⟨_,hf⟩:=yT (yK ho)
 obtain ⟨h0,hl,hz,hb1,_,hb3,hb4⟩:¬ (0:Int) ∈ x.kk/\((x.kk.length:Nat):Int)=((upI x.mp 32).length:Nat)/\0<=x.sz/\ZX x.ke x.va x.mp x.kk x.mn x.ls true false true true:=by
  rcases hf with ⟨h,_⟩|⟨_,h1,h2,h3,h4⟩|⟨h,_⟩|⟨h,_⟩|⟨h,_⟩
  ·omega
  ·exact ⟨h1,h2,h3,h4⟩
  all_goals omega
 have hm:=hx.mp
 have hkl:x.kk.length=(Mk.all x.mp).length:=by
  have:(upI x.mp 32).length=(Mk.all x.mp).length:=by unfold upI;rw [List.length_map];rfl
  omega
 have e1:=arr_kz hm hkl h0
 have e2:=arr_bm hm hkl h0
 have k0:(kds x).map (fun e=>e.2)=x.kk:=by
  unfold kds
  rw [List.map_map]
  have:=kzm (arr x.mp x.kk) 32 (by rw [Y7];omega)
  rw [List.take_of_length_le (by rw [Y7];omega),<- e1] at this
  exact this.symm
 have k1:rfN x=x.kk:=by
  unfold rfN
  rw [hb3 rfl,List.filter_append]
  have:x.kk.filter (fun r=>decide (r ≠ 0))=x.kk:=List.filter_eq_self.2 fun r hr=>by
   have:r ≠ 0:=fun e=>h0 (e ▸ hr)
   simpa using this
  rw [this];simp
 refine ⟨k0,?_,k1,?_,?_,hz,e1,e2⟩
 ·unfold kds
  rw [List.map_map]
  have:=all_bm (arr x.mp x.kk)
  rw [<- e2] at this
  rw [this];simp [Function.comp_def]
 ·unfold ow;rw [if_neg (by omega),if_neg (by omega)]
 ·intro e he
  have h3:e.2 ∈ rfN x:=by rw [k1,<- k0];exact List.mem_map_of_mem he
  have h4:=yl ho h3
  refine ⟨h4.1,h4.2,?_⟩
  unfold kds at he
  obtain ⟨j,hj,rfl⟩:=List.mem_map.1 he
  exact (mem_ps.1 hj).1
theorem xx {i:Nat} {x:Nd} (ho:okH i x=true) (hk:x.kn=1\/x.kn=6\/x.kn=3):rfN x=[]/\(x.kn=3->Pr7.SLt (ow x))/\(x.kn ≠ 3->ow x=[(x.ke,x.va)]):=by
 obtain ⟨_,hf⟩:=yT (yK ho)
 have key:∀ {b l:Bool},ZX x.ke x.va x.mp x.kk x.mn x.ls b true true l->rfN x=[]:=by
  rintro b l ⟨_,h2,h3,_⟩
  have h4:=(h2 rfl).2
  have h5:x.kk=[]:=List.length_eq_zero_iff.1 (by omega)
  unfold rfN;rw [h5,h3 rfl];simp
 rcases hf with ⟨h,_,hb⟩|⟨h,_⟩|⟨h,_,hs,_,hb⟩|⟨h,_⟩|⟨h,_⟩
 ·refine ⟨key hb,fun h=>by omega,fun _=>?_⟩
  unfold ow;rw [if_pos (by omega)]
 ·omega
 ·refine ⟨key hb,fun _=>?_,fun h=>by omega⟩
  unfold ow;rw [if_neg (by omega),if_pos h];exact hs
 ·omega
 ·omega
theorem in_of {i:Nat} {x:Nd} (ho:okH i x=true) (hk:x.kn=5):rfN x=[x.mn]/\ow x=[]/\1<=x.mn/\x.mn<=(i:Int):=by
 obtain ⟨_,hf⟩:=yT (yK ho)
 rcases hf with ⟨h,_⟩|⟨h,_⟩|⟨h,_⟩|⟨h,_⟩|⟨h,h0,_,hb⟩
 any_goals omega
 obtain ⟨_,h2,_,_⟩:=hb
 have h5:x.kk=[]:=List.length_eq_zero_iff.1 (by have:=(h2 rfl).2;omega)
 have e:rfN x=[x.mn]:=by unfold rfN;rw [h5];simp [h0]
 refine ⟨e,?_,yl ho (by rw [e];simp)⟩
 unfold ow;rw [if_neg (by omega),if_neg (by omega)]
theorem kn_of {i:Nat} {x:Nd} (ho:okH i x=true):x.kn=1\/x.kn=2\/x.kn=3\/x.kn=4\/x.kn=5\/x.kn=6:=by
 obtain ⟨_,hf⟩:=yT (yK ho)
 rcases hf with ⟨h,_⟩|⟨h,_⟩|⟨h,_⟩|⟨h,_⟩|⟨h,_⟩<;>omega
theorem Wu {α:Type} (l:List α) (f:α->Int) (g:Int->List Pr):(l.map f).flatMap g=l.flatMap fun e=>g (f e):=by
 induction l with
 | nil=>rfl
 | cons a t ih=>simp [ih]
include hh hx in
theorem li_sp {b:Int}:∀ {n:Nat} {r:Int} {p:List Nat} {c:Nat},1<=r->r<=(n:Int)->r<=(h.length:Int)->Sp (li h b n r p c) c (B h r) (dl h b n r p.length=true/\∀ q ∈ B h r,okc b p q=true):=by
 intro n
 induction n with
 | zero=>intro r p c h1 h2;omega
 | succ n ih =>
  intro r p c h1 h2 h3
  obtain ⟨i,rfl⟩:∃ i:Nat,r=(i:Int)+1:=⟨(r - 1).toNat,by omega⟩
  have hi:i < h.length:=by omega
  have ho:=yN hh hi
  have hX:=hx _ (List.getElem_mem hi)
  have hB:=B_eq hh hi
  rw [li,dl]
  have e2:((i:Int)+1 - 1).toNat=i:=by omega
  simp only [e2,List.getElem?_eq_getElem hi]
  rcases kn_of ho with k|k|k|k|k|k
  ·obtain ⟨f1, _, f2⟩ := xx ho (.inl k)
   rw [if_neg (by omega),f1,List.flatMap_nil,List.append_nil] at hB
   rw [if_neg (by omega),if_pos (.inl k),if_neg (by omega),if_neg (by omega),if_neg (by omega),hB]
   have:=@bd_sp b p (ow h[i]) c
   refine ⟨this.iff.trans ?_,this.cnt,this.lo,this.hi⟩
   simp [k]
  ·obtain ⟨g1, g2, g3, g4, g5, g6, g7⟩ := br_of ho hX k
   rw [if_neg (by omega),g3,g4,List.nil_append,<- g1,Wu] at hB
   have k5:¬ h[i].kn=5:=by omega
   have k1:¬ (h[i].kn=1\/h[i].kn=6):=by omega
   have k3:¬ h[i].kn=3:=by omega
   rw [if_neg k5,if_neg k1,if_neg k3,if_pos k,if_neg k5,if_neg k3,if_pos k]
   split
   ·rename_i hlv
    have hs:=@bf_sp b p (li h b n) (B h) (fun e=>dl h b n e.2 (p.length+1)=true/\∀ q ∈ B h e.2,okc b (p++[e.1]) q=true) (kds h[i]) c fun e he c=>by
     have:=g5 e he
     have s:=@ih e.2 (p++[e.1]) c this.1 (by omega) (by omega)
     rw [List.length_append,List.length_singleton] at s
     exact s
    rw [<- hB] at hs
    refine ⟨?_,fun hq=>hs.cnt (by simp only [Bool.and_eq_true] at hq;exact hq.1),hs.lo,hs.hi⟩
    simp only [Bool.and_eq_true,decide_eq_true_eq,List.all_eq_true]
    constructor
    ·rintro ⟨a1, a2⟩
     have a3:=hs.iff.1 a1
     have a4:=hs.cnt a1
     rw [a4] at a2
     refine ⟨⟨⟨hlv,by omega⟩,fun e he=>⟨⟨fun q hq=>?_,(a3 e he).2⟩,(a3 e he).1.1⟩⟩,?_⟩
     ·have := (a3 e he).1.2 q hq
      rw [x9,Bool.and_eq_true,decide_eq_true_eq] at this
      exact this.2
     ·intro q hq
      rw [hB] at hq
      obtain ⟨e,he,hq⟩:=List.mem_flatMap.1 hq
      have:=(a3 e he).1.2 q hq
      rw [x9,Bool.and_eq_true] at this
      exact this.1
    ·rintro ⟨⟨⟨_, a1⟩, a2⟩, a3⟩
     have a4:(bf (li h b n) p (kds h[i]) c).1=true:=hs.iff.2 fun e he=>by
      obtain ⟨⟨b1,b2⟩,b3⟩:=a2 e he
      refine ⟨⟨b3,fun q hq=>?_⟩,b2⟩
      rw [x9,Bool.and_eq_true,decide_eq_true_eq]
      exact ⟨a3 q (by rw [hB];exact List.mem_flatMap.2 ⟨e,he,hq⟩),b1 q hq⟩
     exact ⟨a4,by rw [hs.cnt a4];omega⟩
   ·rename_i hlv
    refine ⟨?_,fun h=>by simp at h,by simp,by simp⟩
    simp [hlv]
  ·obtain ⟨f1, _, f2⟩ := xx ho (.inr (.inr k))
   rw [if_neg (by omega),f1,List.flatMap_nil,List.append_nil] at hB
   have k5:¬ h[i].kn=5:=by omega
   have k1:¬ (h[i].kn=1\/h[i].kn=6):=by omega
   rw [if_neg k5,if_neg k1,if_pos k,if_neg k5,if_pos k,hB]
   split
   ·rename_i hlv
    have:=@bd_sp b p (ow h[i]) c
    refine ⟨this.iff.trans ?_,this.cnt,this.lo,this.hi⟩
    simp [hlv]
   ·rename_i hlv
    refine ⟨?_,fun h=>by simp at h,by simp,by simp⟩
    simp [hlv]
  ·rw [if_neg (by omega), if_neg (by omega), if_neg (by omega), if_neg (by omega), if_neg (by omega), if_neg (by omega), if_neg (by omega)]
   refine ⟨?_,fun h=>by simp at h,by simp,by simp⟩
   simp [k]
  ·obtain ⟨f1, f2, f3, f4⟩ := in_of ho k
   rw [if_neg (by omega),f1,f2,List.nil_append,List.flatMap_singleton] at hB
   rw [if_pos k,if_pos k,hB]
   exact ih f3 (by omega) (by omega)
  ·obtain ⟨f1, _, f2⟩ := xx ho (.inr (.inl k))
   rw [if_neg (by omega),f1,List.flatMap_nil,List.append_nil] at hB
   rw [if_neg (by omega),if_pos (.inr k),if_neg (by omega),if_neg (by omega),if_neg (by omega),hB]
   have:=@bd_sp b p (ow h[i]) c
   refine ⟨this.iff.trans ?_,this.cnt,this.lo,this.hi⟩
   simp [k]
include hh hx in
theorem dl_ne {b:Int}:∀ {n:Nat} {r:Int} {lv:Nat},1<=r->r<=(n:Int)->r<=(h.length:Int)->dl h b n r lv=true->(B h r).Pairwise fun p q=>p.1 ≠ q.1:=by
 intro n
 induction n with
 | zero=>intro r lv h1 h2;omega
 | succ n ih =>
  intro r lv h1 h2 h3 hd
  obtain ⟨i,rfl⟩:∃ i:Nat,r=(i:Int)+1:=⟨(r - 1).toNat,by omega⟩
  have hi:i < h.length:=by omega
  have ho:=yN hh hi
  have hX:=hx _ (List.getElem_mem hi)
  have hB:=B_eq hh hi
  rw [dl] at hd
  have e2:((i:Int)+1 - 1).toNat=i:=by omega
  simp only [e2,List.getElem?_eq_getElem hi] at hd
  rcases kn_of ho with k|k|k|k|k|k
  ·obtain ⟨f1, _, f2⟩ := xx ho (.inl k)
   rw [if_neg (by omega),f1,List.flatMap_nil,List.append_nil,f2 (by omega)] at hB
   rw [hB];simp
  ·obtain ⟨g1, g2, g3, g4, g5, g6, g7⟩ := br_of ho hX k
   rw [if_neg (by omega),g3,g4,List.nil_append,<- g1,Wu] at hB
   rw [if_neg (by omega),if_neg (by omega),if_pos k] at hd
   simp only [Bool.and_eq_true,decide_eq_true_eq,List.all_eq_true] at hd
   obtain ⟨_,hd⟩:=hd
   rw [hB,List.pairwise_flatMap]
   refine ⟨fun e he=>?_,?_⟩
   ·have := g5 e he
    exact ih this.1 (by omega) (by omega) (hd e he).2
   ·have hn : (kds h[i]).Pairwise fun a b => a.1 ≠ b.1 := by
     have:(ps (arr h[i].mp h[i].kk) 32).Pairwise (· ≠ ·):=List.Pairwise.sublist List.filter_sublist List.nodup_range
     unfold kds
     rw [List.pairwise_map]
     exact this
    refine hn.imp_of_mem fun {a b} ha hb hab q hq q' hq' e=>hab ?_
    have h1:=(hd a ha).1.1 q hq
    have h2:=(hd b hb).1.1 q' hq'
    rw [<- h1,<- h2,e]
  ·obtain ⟨f1, f2, _⟩ := xx ho (.inr (.inr k))
   rw [if_neg (by omega),f1,List.flatMap_nil,List.append_nil] at hB
   rw [hB]
   exact (f2 k).imp fun {p q} h e=>by rw [e,Pr7.cB_self] at h;omega
  ·rw [if_neg (by omega), if_neg (by omega), if_neg (by omega)] at hd
   simp [k] at hd
  ·obtain ⟨f1, f2, f3, f4⟩ := in_of ho k
   rw [if_neg (by omega),f1,f2,List.nil_append,List.flatMap_singleton] at hB
   rw [if_pos k] at hd
   rw [hB]
   exact ih f3 (by omega) (by omega) hd
  ·obtain ⟨f1, _, f2⟩ := xx ho (.inr (.inl k))
   rw [if_neg (by omega),f1,List.flatMap_nil,List.append_nil,f2 (by omega)] at hB
   rw [hB];simp
end
theorem ow_sz {x:Nd} (h:x.Ok):∀ q ∈ ow x,q.1.size<=100000:=by
 intro q hq
 unfold ow at hq
 split at hq
 ·rw [List.mem_singleton.1 hq];have:=h.ke;dsimp only;omega
 ·split at hq
  ·have:=(h.sz q hq).1;omega
  ·simp at hq
theorem li_at {h : List Nd} {b : Int} {k i : Nat} {x : Nd} {p : List Nat} {c : Nat} (hx : h[i]? = some x) : li h b (k + 1) ((i : Int) + 1) p c = if x.kn = 5 then li h b k x.mn p c
   else if x.kn=1\/x.kn=6 then bdL b p (ow x) c
   else if x.kn=3 then (if lvN b<=p.length then bdL b p (ow x) c else (false,c))
   else if x.kn=2 then (if p.length < lvN b then ((bf (li h b k) p (kds x) c).1 && decide (x.sz=0\/x.sz=((bf (li h b k) p (kds x) c).2:Int) - (c:Int)),(bf (li h b k) p (kds x) c).2) else (false,c))
   else (false,c):=by
 rw [li]
 have e2:((i:Int)+1 - 1).toNat=i:=by omega
 simp only [e2,hx]
theorem nA_q {h:List Nd} {r:Int} {i:Nat} {x:Nd} (hr:r=(i:Int)+1) (hx:h[i]? = some x):(h.map nA)[(r - 1).toNat]? = some (.agg [I x.kn,S x.ke,S x.va,.v (.int .u32 (x.mp:Int)),.sl 1 (x.kk.map iA),I x.mn,.sl 2 (x.ls.map pA),I x.sz,I x.bi]):=by
 rw [show (r - 1).toNat=i by omega,List.getElem?_map,hx];rfl
theorem fm_tot {h:List Nd} (l:List (Nat × Int)):(l.flatMap fun e=>B h e.2).length=xd (fun q=>(B h q).length) l:=by
 unfold xd
 rw [List.length_flatMap]
section
variable {h:List Nd} (hl:h.length<=1000) (hh:aH h h.length=true) (hx:∀ x ∈ h,x.Ok)
include hh hx in
theorem Wk {i:Nat} (hi:i < h.length):(h[i].kn=5->B h ((i:Int)+1)=B h h[i].mn/\1<=h[i].mn/\h[i].mn<=(i:Int))/\(h[i].kn=2->(B h ((i:Int)+1)).length=xd (fun q=>(B h q).length) (kds h[i])/\(∀ e ∈ kds h[i],1<=e.2/\e.2<=(i:Int)/\e.1 < 32)/\h[i].kk=(kds h[i]).map (fun e=>e.2)/\(kds h[i]).map (fun e=>I (e.1:Int))=(Mk.all h[i].mp).map iN/\h[i].mp < 4294967296)/\(h[i].kn=1\/h[i].kn=6\/h[i].kn=3->B h ((i:Int)+1)=ow h[i])/\(h[i].kn=1\/h[i].kn=2\/h[i].kn=3\/h[i].kn=4\/h[i].kn=5\/h[i].kn=6):=by
 have ho:=yN hh hi
 have hX:=hx _ (List.getElem_mem hi)
 have hB:=B_eq hh hi
 refine ⟨fun k=>?_,fun k=>?_,fun k=>?_,kn_of ho⟩
 ·obtain ⟨f1, f2, f3, f4⟩ := in_of ho k
  rw [if_neg (by omega),f1,f2,List.nil_append,List.flatMap_singleton] at hB
  exact ⟨hB,f3,f4⟩
 ·obtain ⟨g1, g2, g3, g4, g5, g6, g7⟩ := br_of ho hX k
  rw [if_neg (by omega),g3,g4,List.nil_append,<- g1,Wu] at hB
  refine ⟨by rw [hB,fm_tot],g5,g1.symm,?_,hX.mp⟩
  rw [<- g2,List.map_map];rfl
 ·obtain ⟨f1, _, _⟩ := xx ho k
  rw [if_neg (by omega),f1,List.flatMap_nil,List.append_nil] at hB
  exact hB
include hl hh hx in
set_option maxHeartbeats 16000000 in
theorem lies43 (b : Int) (hb : i64 b) : ∀ (n : Nat) (r : Int) (p : List Nat) (c : Nat) (rr : Bool) (m : Int), p.length ≠ 0 -> p.length <= lvN b -> 1 <= r -> r <= (n : Int) -> r <= (h.length : Int) -> c + (B h r).length <= 1000000000 -> rr = (li h b n r p c).1 -> m = ((li h b n r p c).2 : Nat) ->
  HC Tryz.prog Zr 43 [.oa 0 0 0 0,I r,.ol 1 0 p.length] [wR (h.map nA) b c,pO p] (Bo rr) [wR (h.map nA) b m,pO p]:=by
 intro n
 induction n using Nat.strongRecOn with
 | _ n ih =>
 intro r p c rr m h0 hp h1 h2 h3 hc hrr hm
 obtain ⟨i0,hr0⟩:∃ i:Nat,r=(i:Int)+1:=⟨(r - 1).toNat,by omega⟩
 have hi0:i0 < h.length:=by omega
 have hnr:=Xb p
 obtain ⟨x0,hx0⟩:∃ x,h[i0]? = some x:=⟨_,List.getElem?_eq_getElem hi0⟩
 have hq:=nA_q hr0 hx0
 have hlv:=Wn (b:=b)
 have c60:=lev60 Zr b hb
 refine Zq cop43 rfl ?_
 repeat' ((conv=>whnf);first|(refine SeqP.go ?_)|((refine ObD.mk ?_ ?_);(focus (first|rfl|(simp;done)|(simp [zy,geB,AOp.cls,AOp.xs,ltB,ltC,AX.ev,zh];done))))|((refine ObN.mk ?_ ?_);exact zN)|((with_reducible refine ObI.mk _ rfl ?_ ?_ ?_);omega;omega)|((with_reducible refine ObX.int ?_ ?_ ?_);exact zX;exact zX)|((with_reducible refine (?_:ObU _ _));(refine ObU.mk _ zU ?_))|((with_reducible refine (?_:ObR _ _ _));(first|(refine ObR.mk _ zG ?_)|(refine ObR.map zX (fun x hx=>?_))|(refine ObR.mk _ rfl ?_))))
 conv=>whnf
 refine LoopP.go (α:=Nat × Nat × Nd) (fun a=>h[a.2.1]? = some a.2.2/\a.2.1 < a.1/\a.1<=n/\li h b n r p c=li h b a.1 ((a.2.1:Int)+1) p c/\(B h r).length=(B h ((a.2.1:Int)+1)).length) (fun a=>a.2.1) (fun a=>[(16,none),(0,none),(0,none),(0,none),(0,none),(0,none),(0,none),(0,none),(0,none),(0,none),(0,none),(0,none)]) (fun a=>[wR (h.map nA) b c,pO p,⟨57,9,[nA a.2.2],0,0⟩]) (n,i0,x0) ⟨hx0,by dsimp only;omega,by simp,by dsimp only;rw [hr0],by dsimp only;rw [hr0]⟩ (Fg.go ?_ rfl) ?_
 ·repeat' ((conv=>whnf);first|((refine ObEqs.mk ?_ ?_);rfl)|exact True.intro)
 rintro ⟨k,i,x⟩ ⟨hix,hik,hkn,hli,hBl⟩
 dsimp only at hix hik hkn hli hBl ⊢
 clear hq
 obtain ⟨hi,hix'⟩:=List.getElem?_eq_some_iff.1 hix
 obtain ⟨k',rfl⟩:∃ k',k=k'+1:=⟨k - 1,by omega⟩
 obtain ⟨n5,n2,n1,nk⟩:=Wk hh hx hi
 have hX:=hx _ (List.getElem_mem hi)
 rw [hix'] at n5 n2 n1 nk hX
 rw [li_at hix] at hli
 have how:=xZ hX
 have hos:=ow_sz hX
 have c57:=bnd23 Zr x hX
 have bd:li h b n r p c=bdL b p (ow x) c->HC Tryz.prog Zr 68 [.oa 0 0 0 0,nA x,.ol 1 0 p.length] [wR (h.map nA) b c,pO p] (Bo rr) [wR (h.map nA) b m,pO p]:=fun e =>
  bnd68 Zr (h.map nA) b hb x.kn x.ke x.va x.mp x.kk x.mn x.ls x.sz x.bi (ow x) (by omega) hos c57 p h0 (by omega) c (by omega) rr m (by rw [hrr,e]) (by rw [hm,e])
 have br:x.kn=2->p.length < lvN b->li h b n r p c=((bf (li h b k') p (kds x) c).1 && decide (x.sz=0\/x.sz=((bf (li h b k') p (kds x) c).2:Int) - (c:Int)),(bf (li h b k') p (kds x) c).2)->HC Tryz.prog Zr 69 [.oa 0 0 0 0,nA x,.ol 1 0 p.length] [wR (h.map nA) b c,pO p] (Bo rr) [wR (h.map nA) b m,pO p]:=fun k2 hlt e=>by
  obtain ⟨m1,m2,m3,m4,m5⟩:=n2 k2
  have c75:=all75 x.mp m5
  rw [<- m4] at c75
  refine br69 Zr (h.map nA) b hb x.kn x.ke x.va x.mp x.kk x.mn x.ls x.sz x.bi (kds x) (by have:=congrArg List.length m3;rw [List.length_map] at this;have:=hX.kk;omega) (fun e he=>(m2 e he).2.2) m3 c75 p h0 (by omega) (li h b k') (fun q=>(B h q).length) (fun e he c=>?_) (fun e he c hc r' m' hr' hm'=>?_) c (by omega) rr m (by rw [hrr,e]) (by rw [hm,e])
  ·have := m2 e he
   have s:=li_sp hh hx (b:=b) (n:=k') (r:=e.2) (p:=p++[e.1]) (c:=c) this.1 (by omega) (by omega)
   exact ⟨s.lo,s.hi⟩
  ·have := m2 e he
   have hl1:(p++[e.1]).length=p.length+1:=by simp
   rw [<- hl1]
   exact ih k' (by omega) e.2 (p++[e.1]) c r' m' (by omega) (by omega) this.1 (by omega) (by omega) hc hr' hm'
 clear ih
 rcases nk with k1|k1|k1|k1|k1|k1
 ·rw [if_neg (by omega), if_pos (.inl k1)] at hli
  have c68:=bd hli
  clear bd br n5 n2 n1
  repeat' ((conv=>whnf);first|(refine SeqP.go ?_)|((refine ObD.mk ?_ ?_);(focus (first|rfl|(simp [k1];done)|(simp [zy,geB,AOp.cls,AOp.xs,ltB,ltC,AX.ev,zh];done))))|((refine ObN.mk ?_ ?_);(exact yI))|(with_reducible first|refine ObT.tt ?_|refine ObT.ff ?_)|((refine ObB.yes ?_ ?_);exact zB)|((refine ObB.no ?_ ?_);exact zC)|((with_reducible refine (?_:ObR _ _ _));(first|(refine ObR.mk _ zG ?_)|(refine ObR.map ZO (fun x hx=>?_))|(refine ObR.mk _ rfl ?_)))|((refine ObH.f 68 ?_);refine ObH.frn _ ZA [(0,0,0),(0,1,0)] (c68) (by simp) rfl (by simp) ?_)|((with_reducible refine ObRow.same ?_ ?_ ?_);exact zE;(focus (first|rfl|assumption|(simp [k1];done))))|((with_reducible refine ObAs.mk ?_ ?_);(focus (first|rfl|(simp [rnB,rnC,rnL];done))))|((with_reducible refine (?_:ObRs _ _ _));(refine ObRs.mk _ rfl ?_))|((with_reducible refine ObBk.same ?_ ?_);(focus (first|rfl|assumption|(simp [k1];done)))))
  all_goals conv=>whnf
  all_goals refine ObEnd.vw [(0,0,0),(0,1,0)] rfl ?_ (by simp) ?_
  all_goals repeat' ((conv=>whnf);first|((refine ObN.mk ?_ ?_);exact zN)|((with_reducible refine ObO.l ?_);(refine ObN.mk ?_ ?_);(exact ZD))|((with_reducible refine ObRow.same ?_ ?_ ?_);exact zE;(focus (first|rfl|assumption|(simp;done))))|exact True.intro)
 ·rw [if_neg (by omega), if_neg (by omega), if_neg (by omega), if_pos k1] at hli
  by_cases hlt:p.length < lvN b
  ·rw [if_pos hlt] at hli
   have c69:=br k1 hlt hli
   clear bd br n5 n2 n1
   repeat' ((conv=>whnf);first|(refine SeqP.go ?_)|((refine ObD.mk ?_ ?_);(focus (first|rfl|(simp [k1];done)|(simp [zy,geB,AOp.cls,AOp.xs,ltB,ltC,AX.ev,zh];done))))|((refine ObN.mk ?_ ?_);(exact yI))|(with_reducible first|refine ObT.tt ?_|refine ObT.ff ?_)|((refine ObB.yes ?_ ?_);exact zB)|((refine ObB.no ?_ ?_);exact zC)|((with_reducible refine (?_:ObR _ _ _));(first|(refine ObR.mk _ zG ?_)|(refine ObR.map ZO (fun x hx=>?_))|(refine ObR.mk _ rfl ?_)))|((refine ObC.f 60 ?_);(refine ObC.mk _ (c60) ?_))|((refine ObH.f 69 ?_);refine ObH.frn _ ZA [(0,0,0),(0,1,0)] (c69) (by simp) rfl (by simp) ?_)|((with_reducible refine ObRow.same ?_ ?_ ?_);exact zE;(focus (first|rfl|assumption|(simp [k1];done))))|((with_reducible refine ObAs.mk ?_ ?_);(focus (first|rfl|(simp [rnB,rnC,rnL];done))))|((with_reducible refine (?_:ObRs _ _ _));(refine ObRs.mk _ rfl ?_))|((with_reducible refine ObBk.same ?_ ?_);(focus (first|rfl|assumption|(simp [k1];done)))))
   all_goals conv=>whnf
   all_goals refine ObEnd.vw [(0,0,0),(0,1,0)] rfl ?_ (by simp) ?_
   all_goals repeat' ((conv=>whnf);first|((refine ObN.mk ?_ ?_);exact zN)|((with_reducible refine ObO.l ?_);(refine ObN.mk ?_ ?_);(exact ZD))|((with_reducible refine ObRow.same ?_ ?_ ?_);exact zE;(focus (first|rfl|assumption|(simp;done))))|exact True.intro)
  ·rw [if_neg hlt] at hli
   rw [hli] at hrr hm
   dsimp only at hrr hm
   subst hrr
   subst hm
   clear bd br n5 n2 n1
   repeat' ((conv=>whnf);first|(refine SeqP.go ?_)|((refine ObN.mk ?_ ?_);(exact yI))|(with_reducible first|refine ObT.tt ?_|refine ObT.ff ?_)|((refine ObB.yes ?_ ?_);exact zB)|((refine ObB.no ?_ ?_);exact zC)|((with_reducible refine (?_:ObR _ _ _));(first|(refine ObR.mk _ zG ?_)|(refine ObR.map ZO (fun x hx=>?_))|(refine ObR.mk _ rfl ?_)))|((refine ObC.f 60 ?_);(refine ObC.mk _ (c60) ?_)))
   all_goals conv=>whnf
   all_goals refine ObEnd.vw [(0,0,0),(0,1,0)] rfl ?_ (by simp) ?_
   all_goals repeat' ((conv=>whnf);first|((refine ObN.mk ?_ ?_);exact zN)|((with_reducible refine ObO.l ?_);(refine ObN.mk ?_ ?_);(exact ZD))|((with_reducible refine ObRow.same ?_ ?_ ?_);exact zE;(focus (first|rfl|assumption|(simp;done))))|exact True.intro)
 ·rw [if_neg (by omega), if_neg (by omega), if_pos k1] at hli
  by_cases hlt:lvN b<=p.length
  ·rw [if_pos hlt] at hli
   have c68:=bd hli
   clear bd br n5 n2 n1
   repeat' ((conv=>whnf);first|(refine SeqP.go ?_)|((refine ObD.mk ?_ ?_);(focus (first|rfl|(simp [k1];done)|(simp [zy,geB,AOp.cls,AOp.xs,ltB,ltC,AX.ev,zh];done))))|((refine ObN.mk ?_ ?_);(exact yI))|(with_reducible first|refine ObT.tt ?_|refine ObT.ff ?_)|((refine ObB.yes ?_ ?_);exact zB)|((refine ObB.no ?_ ?_);exact zC)|((with_reducible refine (?_:ObR _ _ _));(first|(refine ObR.mk _ zG ?_)|(refine ObR.map ZO (fun x hx=>?_))|(refine ObR.mk _ rfl ?_)))|((refine ObC.f 60 ?_);(refine ObC.mk _ (c60) ?_))|((refine ObH.f 68 ?_);refine ObH.frn _ ZA [(0,0,0),(0,1,0)] (c68) (by simp) rfl (by simp) ?_)|((with_reducible refine ObRow.same ?_ ?_ ?_);exact zE;(focus (first|rfl|assumption|(simp [k1];done))))|((with_reducible refine ObAs.mk ?_ ?_);(focus (first|rfl|(simp [rnB,rnC,rnL];done))))|((with_reducible refine (?_:ObRs _ _ _));(refine ObRs.mk _ rfl ?_))|((with_reducible refine ObBk.same ?_ ?_);(focus (first|rfl|assumption|(simp [k1];done)))))
   all_goals conv=>whnf
   all_goals refine ObEnd.vw [(0,0,0),(0,1,0)] rfl ?_ (by simp) ?_
   all_goals repeat' ((conv=>whnf);first|((refine ObN.mk ?_ ?_);exact zN)|((with_reducible refine ObO.l ?_);(refine ObN.mk ?_ ?_);(exact ZD))|((with_reducible refine ObRow.same ?_ ?_ ?_);exact zE;(focus (first|rfl|assumption|(simp;done))))|exact True.intro)
  ·rw [if_neg hlt] at hli
   rw [hli] at hrr hm
   dsimp only at hrr hm
   subst hrr
   subst hm
   clear bd br n5 n2 n1
   repeat' ((conv=>whnf);first|(refine SeqP.go ?_)|((refine ObN.mk ?_ ?_);(exact yI))|(with_reducible first|refine ObT.tt ?_|refine ObT.ff ?_)|((refine ObB.yes ?_ ?_);exact zB)|((refine ObB.no ?_ ?_);exact zC)|((with_reducible refine (?_:ObR _ _ _));(first|(refine ObR.mk _ zG ?_)|(refine ObR.map ZO (fun x hx=>?_))|(refine ObR.mk _ rfl ?_)))|((refine ObC.f 60 ?_);(refine ObC.mk _ (c60) ?_)))
   all_goals conv=>whnf
   all_goals refine ObEnd.vw [(0,0,0),(0,1,0)] rfl ?_ (by simp) ?_
   all_goals repeat' ((conv=>whnf);first|((refine ObN.mk ?_ ?_);exact zN)|((with_reducible refine ObO.l ?_);(refine ObN.mk ?_ ?_);(exact ZD))|((with_reducible refine ObRow.same ?_ ?_ ?_);exact zE;(focus (first|rfl|assumption|(simp;done))))|exact True.intro)
 ·rw [if_neg (by omega), if_neg (by omega), if_neg (by omega), if_neg (by omega)] at hli
  rw [hli] at hrr hm
  dsimp only at hrr hm
  subst hrr
  subst hm
  clear bd br n5 n2 n1
  repeat' ((conv=>whnf);first|(refine SeqP.go ?_)|((refine ObN.mk ?_ ?_);(exact yI))|(refine ObT.ff ?_)|((refine ObB.no ?_ ?_);exact zC)|((with_reducible refine (?_:ObR _ _ _));(first|(refine ObR.mk _ zG ?_)|(refine ObR.map ZO (fun x hx=>?_))|(refine ObR.mk _ rfl ?_))))
  all_goals conv=>whnf
  all_goals refine ObEnd.vw [(0,0,0),(0,1,0)] rfl ?_ (by simp) ?_
  all_goals repeat' ((conv=>whnf);first|((refine ObN.mk ?_ ?_);exact zN)|((with_reducible refine ObO.l ?_);(refine ObN.mk ?_ ?_);(exact ZD))|((with_reducible refine ObRow.same ?_ ?_ ?_);exact zE;(focus (first|rfl|assumption|(simp;done))))|exact True.intro)
 ·rw [if_pos k1] at hli
  obtain ⟨m1,m2,m3⟩:=n5 k1
  obtain ⟨j,hj⟩:∃ j:Nat,x.mn=(j:Int)+1:=⟨(x.mn - 1).toNat,by omega⟩
  have hjl:j < h.length:=by omega
  obtain ⟨y,hy⟩:∃ y,h[j]? = some y:=⟨_,List.getElem?_eq_getElem hjl⟩
  have hq:=nA_q hj hy
  clear bd br n5 n2 n1
  repeat' ((conv=>whnf);first|(refine SeqP.go ?_)|((refine ObD.mk ?_ ?_);(focus (first|rfl|(simp [k1];done)|(simp [zy,geB,AOp.cls,AOp.xs,ltB,ltC,AX.ev,zh];done))))|((refine ObN.mk ?_ ?_);(exact yI))|(refine ObT.tt ?_)|((refine ObB.yes ?_ ?_);exact zB)|((with_reducible refine ObI.mk _ rfl ?_ ?_ ?_);omega;omega)|((with_reducible refine ObX.int ?_ ?_ ?_);(exact ZO);(exact ZO))|((with_reducible refine (?_:ObU _ _));(refine ObU.mk _ zq9 ?_))|((with_reducible refine (?_:ObR _ _ _));(first|(refine ObR.mk _ zG ?_)|(refine ObR.map ZO (fun x hx=>?_))|(refine ObR.mk _ rfl ?_))))
  all_goals conv=>whnf
  all_goals refine Again.mk (k',j,y) ⟨hy,by dsimp only;omega,by dsimp only;omega,by dsimp only;rw [hli,hj],by dsimp only;rw [hBl,m1,hj]⟩ xB (Fg.go ?_ rfl)
  all_goals repeat' ((conv=>whnf);first|((refine ObEqs.mk ?_ ?_);rfl)|exact True.intro)
 ·rw [if_neg (by omega), if_pos (.inr k1)] at hli
  have c68:=bd hli
  clear bd br n5 n2 n1
  repeat' ((conv=>whnf);first|(refine SeqP.go ?_)|((refine ObD.mk ?_ ?_);(focus (first|rfl|(simp [k1];done)|(simp [zy,geB,AOp.cls,AOp.xs,ltB,ltC,AX.ev,zh];done))))|((refine ObN.mk ?_ ?_);(exact yI))|(with_reducible first|refine ObT.tt ?_|refine ObT.ff ?_)|((refine ObB.yes ?_ ?_);exact zB)|((refine ObB.no ?_ ?_);exact zC)|((with_reducible refine (?_:ObR _ _ _));(first|(refine ObR.mk _ zG ?_)|(refine ObR.map ZO (fun x hx=>?_))|(refine ObR.mk _ rfl ?_)))|((refine ObH.f 68 ?_);refine ObH.frn _ ZA [(0,0,0),(0,1,0)] (c68) (by simp) rfl (by simp) ?_)|((with_reducible refine ObRow.same ?_ ?_ ?_);exact zE;(focus (first|rfl|assumption|(simp [k1];done))))|((with_reducible refine ObAs.mk ?_ ?_);(focus (first|rfl|(simp [rnB,rnC,rnL];done))))|((with_reducible refine (?_:ObRs _ _ _));(refine ObRs.mk _ rfl ?_))|((with_reducible refine ObBk.same ?_ ?_);(focus (first|rfl|assumption|(simp [k1];done)))))
  all_goals conv=>whnf
  all_goals refine ObEnd.vw [(0,0,0),(0,1,0)] rfl ?_ (by simp) ?_
  all_goals repeat' ((conv=>whnf);first|((refine ObN.mk ?_ ?_);exact zN)|((with_reducible refine ObO.l ?_);(refine ObN.mk ?_ ?_);(exact ZD))|((with_reducible refine ObRow.same ?_ ?_ ?_);exact zE;(focus (first|rfl|assumption|(simp;done))))|exact True.intro)
end
section
variable {h:List Nd} (hl:h.length<=1000) (hh:aH h h.length=true) (hx:∀ x ∈ h,x.Ok)
include hl hh hx in
set_option maxHeartbeats 16000000 in
theorem lies43n (b : Int) (hb : i64 b) (n : Nat) (r : Int) (c : Nat) (rr : Bool) (m : Int) (h1 : 1 <= r) (h2 : r <= (n : Int)) (h3 : r <= (h.length : Int)) (hc : c + (B h r).length <= 1000000000) (hrr : rr = (li h b n r [] c).1) (hm : m = ((li h b n r [] c).2 : Nat)) :
  HC Tryz.prog Zr 43 [.oa 0 0 0 0,I r,.nl 1] [wR (h.map nA) b c] (Bo rr) [wR (h.map nA) b m]:=by
 obtain ⟨i0,hr0⟩:∃ i:Nat,r=(i:Int)+1:=⟨(r - 1).toNat,by omega⟩
 have hi0:i0 < h.length:=by omega
 obtain ⟨x0,hx0⟩:∃ x,h[i0]? = some x:=⟨_,List.getElem?_eq_getElem hi0⟩
 have hq:=nA_q hr0 hx0
 have hlv:=Wn (b:=b)
 have c60:=lev60 Zr b hb
 refine Zq cop43 rfl ?_
 repeat' ((conv=>whnf);first|(refine SeqP.go ?_)|((refine ObD.mk ?_ ?_);(focus (first|rfl|(simp;done)|(simp [zy,geB,AOp.cls,AOp.xs,ltB,ltC,AX.ev,zh];done))))|((refine ObN.mk ?_ ?_);exact zN)|((with_reducible refine ObI.mk _ rfl ?_ ?_ ?_);omega;omega)|((with_reducible refine ObX.int ?_ ?_ ?_);exact zX;exact zX)|((with_reducible refine (?_:ObU _ _));(refine ObU.mk _ zU ?_))|((with_reducible refine (?_:ObR _ _ _));(first|(refine ObR.mk _ zG ?_)|(refine ObR.map zX (fun x hx=>?_))|(refine ObR.mk _ rfl ?_))))
 conv=>whnf
 refine LoopP.go (α:=Nat × Nat × Nd) (fun a=>h[a.2.1]? = some a.2.2/\a.2.1 < a.1/\a.1<=n/\li h b n r [] c=li h b a.1 ((a.2.1:Int)+1) [] c/\(B h r).length=(B h ((a.2.1:Int)+1)).length) (fun a=>a.2.1) (fun a=>[(16,none),(0,none),(0,none),(0,none),(0,none),(0,none),(0,none),(0,none),(0,none),(0,none),(0,none),(0,none)]) (fun a=>[wR (h.map nA) b c,⟨57,9,[nA a.2.2],0,0⟩]) (n,i0,x0) ⟨hx0,by dsimp only;omega,by simp,by dsimp only;rw [hr0],by dsimp only;rw [hr0]⟩ (Fg.go ?_ rfl) ?_
 ·repeat' ((conv=>whnf);first|((refine ObEqs.mk ?_ ?_);rfl)|exact True.intro)
 rintro ⟨k,i,x⟩ ⟨hix,hik,hkn,hli,hBl⟩
 dsimp only at hix hik hkn hli hBl ⊢
 clear hq
 obtain ⟨hi,hix'⟩:=List.getElem?_eq_some_iff.1 hix
 obtain ⟨k',rfl⟩:∃ k',k=k'+1:=⟨k - 1,by omega⟩
 obtain ⟨n5,n2,n1,nk⟩:=Wk hh hx hi
 have hX:=hx _ (List.getElem_mem hi)
 rw [hix'] at n5 n2 n1 nk hX
 rw [li_at hix] at hli
 simp only [List.length_nil] at hli
 have how:=xZ hX
 have hos:=ow_sz hX
 have c57:=bnd23 Zr x hX
 have bd:li h b n r [] c=bdL b [] (ow x) c->HC Tryz.prog Zr 68 [.oa 0 0 0 0,nA x,.nl 1] [wR (h.map nA) b c] (Bo rr) [wR (h.map nA) b m]:=fun e =>
  bnd68n Zr (h.map nA) b hb x.kn x.ke x.va x.mp x.kk x.mn x.ls x.sz x.bi (ow x) (by omega) hos c57 c (by omega) rr m (by rw [hrr,e]) (by rw [hm,e])
 have br:x.kn=2->0 < lvN b->li h b n r [] c=((bf (li h b k') [] (kds x) c).1 && decide (x.sz=0\/x.sz=((bf (li h b k') [] (kds x) c).2:Int) - (c:Int)),(bf (li h b k') [] (kds x) c).2)->HC Tryz.prog Zr 69 [.oa 0 0 0 0,nA x,.nl 1] [wR (h.map nA) b c] (Bo rr) [wR (h.map nA) b m]:=fun k2 hlt e=>by
  obtain ⟨m1,m2,m3,m4,m5⟩:=n2 k2
  have c75:=all75 x.mp m5
  rw [<- m4] at c75
  refine br69n Zr (h.map nA) b hb x.kn x.ke x.va x.mp x.kk x.mn x.ls x.sz x.bi (kds x) (by have:=congrArg List.length m3;rw [List.length_map] at this;have:=hX.kk;omega) (fun e he=>(m2 e he).2.2) m3 c75 (li h b k') (fun q=>(B h q).length) (fun e he c=>?_) (fun e he c hc r' m' hr' hm'=>?_) c (by omega) rr m (by rw [hrr,e]) (by rw [hm,e])
  ·have := m2 e he
   have s:=li_sp hh hx (b:=b) (n:=k') (r:=e.2) (p:=[e.1]) (c:=c) this.1 (by omega) (by omega)
   exact ⟨s.lo,s.hi⟩
  ·have := m2 e he
   exact lies43 hl hh hx b hb k' e.2 [e.1] c r' m' (by simp) (by simp;omega) this.1 (by omega) (by omega) hc hr' hm'
 rcases nk with k1|k1|k1|k1|k1|k1
 ·rw [if_neg (by omega), if_pos (.inl k1)] at hli
  have c68:=bd hli
  clear bd br n5 n2 n1
  repeat' ((conv=>whnf);first|(refine SeqP.go ?_)|((refine ObD.mk ?_ ?_);(focus (first|rfl|(simp [k1];done)|(simp [zy,geB,AOp.cls,AOp.xs,ltB,ltC,AX.ev,zh];done))))|((refine ObN.mk ?_ ?_);(exact yI))|(with_reducible first|refine ObT.tt ?_|refine ObT.ff ?_)|((refine ObB.yes ?_ ?_);exact zB)|((refine ObB.no ?_ ?_);exact zC)|((with_reducible refine (?_:ObR _ _ _));(first|(refine ObR.mk _ zG ?_)|(refine ObR.map ZO (fun x hx=>?_))|(refine ObR.mk _ rfl ?_)))|((refine ObH.f 68 ?_);refine ObH.frn _ ZA [(0,0,0)] (c68) (by simp) rfl (by simp) ?_)|((with_reducible refine ObRow.same ?_ ?_ ?_);exact zE;(focus (first|rfl|assumption|(simp [k1];done))))|((with_reducible refine ObAs.mk ?_ ?_);(focus (first|rfl|(simp [rnB,rnC,rnL];done))))|((with_reducible refine (?_:ObRs _ _ _));(refine ObRs.mk _ rfl ?_))|((with_reducible refine ObBk.same ?_ ?_);(focus (first|rfl|assumption|(simp [k1];done)))))
  all_goals conv=>whnf
  all_goals refine ObEnd.vw [(0,0,0)] rfl ?_ (by simp) ?_
  all_goals repeat' ((conv=>whnf);first|((refine ObN.mk ?_ ?_);exact zN)|((with_reducible refine ObO.l ?_);(refine ObN.mk ?_ ?_);(exact ZD))|((with_reducible refine ObRow.same ?_ ?_ ?_);exact zE;(focus (first|rfl|assumption|(simp;done))))|exact True.intro)
 ·rw [if_neg (by omega), if_neg (by omega), if_neg (by omega), if_pos k1] at hli
  by_cases hlt:0 < lvN b
  ·rw [if_pos hlt] at hli
   have c69:=br k1 hlt hli
   clear bd br n5 n2 n1
   repeat' ((conv=>whnf);first|(refine SeqP.go ?_)|((refine ObD.mk ?_ ?_);(focus (first|rfl|(simp [k1];done)|(simp [zy,geB,AOp.cls,AOp.xs,ltB,ltC,AX.ev,zh];done))))|((refine ObN.mk ?_ ?_);(exact yI))|(with_reducible first|refine ObT.tt ?_|refine ObT.ff ?_)|((refine ObB.yes ?_ ?_);exact zB)|((refine ObB.no ?_ ?_);exact zC)|((with_reducible refine (?_:ObR _ _ _));(first|(refine ObR.mk _ zG ?_)|(refine ObR.map ZO (fun x hx=>?_))|(refine ObR.mk _ rfl ?_)))|((refine ObC.f 60 ?_);(refine ObC.mk _ (c60) ?_))|((refine ObH.f 69 ?_);refine ObH.frn _ ZA [(0,0,0)] (c69) (by simp) rfl (by simp) ?_)|((with_reducible refine ObRow.same ?_ ?_ ?_);exact zE;(focus (first|rfl|assumption|(simp [k1];done))))|((with_reducible refine ObAs.mk ?_ ?_);(focus (first|rfl|(simp [rnB,rnC,rnL];done))))|((with_reducible refine (?_:ObRs _ _ _));(refine ObRs.mk _ rfl ?_))|((with_reducible refine ObBk.same ?_ ?_);(focus (first|rfl|assumption|(simp [k1];done)))))
   all_goals conv=>whnf
   all_goals refine ObEnd.vw [(0,0,0)] rfl ?_ (by simp) ?_
   all_goals repeat' ((conv=>whnf);first|((refine ObN.mk ?_ ?_);exact zN)|((with_reducible refine ObO.l ?_);(refine ObN.mk ?_ ?_);(exact ZD))|((with_reducible refine ObRow.same ?_ ?_ ?_);exact zE;(focus (first|rfl|assumption|(simp;done))))|exact True.intro)
  ·rw [if_neg hlt] at hli
   rw [hli] at hrr hm
   dsimp only at hrr hm
   subst hrr
   subst hm
   clear bd br n5 n2 n1
   repeat' ((conv=>whnf);first|(refine SeqP.go ?_)|((refine ObN.mk ?_ ?_);(exact yI))|(with_reducible first|refine ObT.tt ?_|refine ObT.ff ?_)|((refine ObB.yes ?_ ?_);exact zB)|((refine ObB.no ?_ ?_);exact zC)|((with_reducible refine (?_:ObR _ _ _));(first|(refine ObR.mk _ zG ?_)|(refine ObR.map ZO (fun x hx=>?_))|(refine ObR.mk _ rfl ?_)))|((refine ObC.f 60 ?_);(refine ObC.mk _ (c60) ?_)))
   all_goals conv=>whnf
   all_goals refine ObEnd.vw [(0,0,0)] rfl ?_ (by simp) ?_
   all_goals repeat' ((conv=>whnf);first|((refine ObN.mk ?_ ?_);exact zN)|((with_reducible refine ObO.l ?_);(refine ObN.mk ?_ ?_);(exact ZD))|((with_reducible refine ObRow.same ?_ ?_ ?_);exact zE;(focus (first|rfl|assumption|(simp;done))))|exact True.intro)
 ·rw [if_neg (by omega), if_neg (by omega), if_pos k1] at hli
  by_cases hlt:lvN b<=0
  ·rw [if_pos hlt] at hli
   have c68:=bd hli
   clear bd br n5 n2 n1
   repeat' ((conv=>whnf);first|(refine SeqP.go ?_)|((refine ObD.mk ?_ ?_);(focus (first|rfl|(simp [k1];done)|(simp [zy,geB,AOp.cls,AOp.xs,ltB,ltC,AX.ev,zh];done))))|((refine ObN.mk ?_ ?_);(exact yI))|(with_reducible first|refine ObT.tt ?_|refine ObT.ff ?_)|((refine ObB.yes ?_ ?_);exact zB)|((refine ObB.no ?_ ?_);exact zC)|((with_reducible refine (?_:ObR _ _ _));(first|(refine ObR.mk _ zG ?_)|(refine ObR.map ZO (fun x hx=>?_))|(refine ObR.mk _ rfl ?_)))|((refine ObC.f 60 ?_);(refine ObC.mk _ (c60) ?_))|((refine ObH.f 68 ?_);refine ObH.frn _ ZA [(0,0,0)] (c68) (by simp) rfl (by simp) ?_)|((with_reducible refine ObRow.same ?_ ?_ ?_);exact zE;(focus (first|rfl|assumption|(simp [k1];done))))|((with_reducible refine ObAs.mk ?_ ?_);(focus (first|rfl|(simp [rnB,rnC,rnL];done))))|((with_reducible refine (?_:ObRs _ _ _));(refine ObRs.mk _ rfl ?_))|((with_reducible refine ObBk.same ?_ ?_);(focus (first|rfl|assumption|(simp [k1];done)))))
   all_goals conv=>whnf
   all_goals refine ObEnd.vw [(0,0,0)] rfl ?_ (by simp) ?_
   all_goals repeat' ((conv=>whnf);first|((refine ObN.mk ?_ ?_);exact zN)|((with_reducible refine ObO.l ?_);(refine ObN.mk ?_ ?_);(exact ZD))|((with_reducible refine ObRow.same ?_ ?_ ?_);exact zE;(focus (first|rfl|assumption|(simp;done))))|exact True.intro)
  ·rw [if_neg hlt] at hli
   rw [hli] at hrr hm
   dsimp only at hrr hm
   subst hrr
   subst hm
   clear bd br n5 n2 n1
   repeat' ((conv=>whnf);first|(refine SeqP.go ?_)|((refine ObN.mk ?_ ?_);(exact yI))|(with_reducible first|refine ObT.tt ?_|refine ObT.ff ?_)|((refine ObB.yes ?_ ?_);exact zB)|((refine ObB.no ?_ ?_);exact zC)|((with_reducible refine (?_:ObR _ _ _));(first|(refine ObR.mk _ zG ?_)|(refine ObR.map ZO (fun x hx=>?_))|(refine ObR.mk _ rfl ?_)))|((refine ObC.f 60 ?_);(refine ObC.mk _ (c60) ?_)))
   all_goals conv=>whnf
   all_goals refine ObEnd.vw [(0,0,0)] rfl ?_ (by simp) ?_
   all_goals repeat' ((conv=>whnf);first|((refine ObN.mk ?_ ?_);exact zN)|((with_reducible refine ObO.l ?_);(refine ObN.mk ?_ ?_);(exact ZD))|((with_reducible refine ObRow.same ?_ ?_ ?_);exact zE;(focus (first|rfl|assumption|(simp;done))))|exact True.intro)
 ·rw [if_neg (by omega), if_neg (by omega), if_neg (by omega), if_neg (by omega)] at hli
  rw [hli] at hrr hm
  dsimp only at hrr hm
  subst hrr
  subst hm
  clear bd br n5 n2 n1
  repeat' ((conv=>whnf);first|(refine SeqP.go ?_)|((refine ObN.mk ?_ ?_);(exact yI))|(refine ObT.ff ?_)|((refine ObB.no ?_ ?_);exact zC)|((with_reducible refine (?_:ObR _ _ _));(first|(refine ObR.mk _ zG ?_)|(refine ObR.map ZO (fun x hx=>?_))|(refine ObR.mk _ rfl ?_))))
  all_goals conv=>whnf
  all_goals refine ObEnd.vw [(0,0,0)] rfl ?_ (by simp) ?_
  all_goals repeat' ((conv=>whnf);first|((refine ObN.mk ?_ ?_);exact zN)|((with_reducible refine ObO.l ?_);(refine ObN.mk ?_ ?_);(exact ZD))|((with_reducible refine ObRow.same ?_ ?_ ?_);exact zE;(focus (first|rfl|assumption|(simp;done))))|exact True.intro)
 ·rw [if_pos k1] at hli
  obtain ⟨m1,m2,m3⟩:=n5 k1
  obtain ⟨j,hj⟩:∃ j:Nat,x.mn=(j:Int)+1:=⟨(x.mn - 1).toNat,by omega⟩
  have hjl:j < h.length:=by omega
  obtain ⟨y,hy⟩:∃ y,h[j]? = some y:=⟨_,List.getElem?_eq_getElem hjl⟩
  have hq:=nA_q hj hy
  clear bd br n5 n2 n1
  repeat' ((conv=>whnf);first|(refine SeqP.go ?_)|((refine ObD.mk ?_ ?_);(focus (first|rfl|(simp [k1];done)|(simp [zy,geB,AOp.cls,AOp.xs,ltB,ltC,AX.ev,zh];done))))|((refine ObN.mk ?_ ?_);(exact yI))|(refine ObT.tt ?_)|((refine ObB.yes ?_ ?_);exact zB)|((with_reducible refine ObI.mk _ rfl ?_ ?_ ?_);omega;omega)|((with_reducible refine ObX.int ?_ ?_ ?_);(exact ZO);(exact ZO))|((with_reducible refine (?_:ObU _ _));(refine ObU.mk _ zq9 ?_))|((with_reducible refine (?_:ObR _ _ _));(first|(refine ObR.mk _ zG ?_)|(refine ObR.map ZO (fun x hx=>?_))|(refine ObR.mk _ rfl ?_))))
  all_goals conv=>whnf
  all_goals refine Again.mk (k',j,y) ⟨hy,by dsimp only;omega,by dsimp only;omega,by dsimp only;rw [hli,hj],by dsimp only;rw [hBl,m1,hj]⟩ xB (Fg.go ?_ rfl)
  all_goals repeat' ((conv=>whnf);first|((refine ObEqs.mk ?_ ?_);rfl)|exact True.intro)
 ·rw [if_neg (by omega), if_pos (.inr k1)] at hli
  have c68:=bd hli
  clear bd br n5 n2 n1
  repeat' ((conv=>whnf);first|(refine SeqP.go ?_)|((refine ObD.mk ?_ ?_);(focus (first|rfl|(simp [k1];done)|(simp [zy,geB,AOp.cls,AOp.xs,ltB,ltC,AX.ev,zh];done))))|((refine ObN.mk ?_ ?_);(exact yI))|(with_reducible first|refine ObT.tt ?_|refine ObT.ff ?_)|((refine ObB.yes ?_ ?_);exact zB)|((refine ObB.no ?_ ?_);exact zC)|((with_reducible refine (?_:ObR _ _ _));(first|(refine ObR.mk _ zG ?_)|(refine ObR.map ZO (fun x hx=>?_))|(refine ObR.mk _ rfl ?_)))|((refine ObH.f 68 ?_);refine ObH.frn _ ZA [(0,0,0)] (c68) (by simp) rfl (by simp) ?_)|((with_reducible refine ObRow.same ?_ ?_ ?_);exact zE;(focus (first|rfl|assumption|(simp [k1];done))))|((with_reducible refine ObAs.mk ?_ ?_);(focus (first|rfl|(simp [rnB,rnC,rnL];done))))|((with_reducible refine (?_:ObRs _ _ _));(refine ObRs.mk _ rfl ?_))|((with_reducible refine ObBk.same ?_ ?_);(focus (first|rfl|assumption|(simp [k1];done)))))
  all_goals conv=>whnf
  all_goals refine ObEnd.vw [(0,0,0)] rfl ?_ (by simp) ?_
  all_goals repeat' ((conv=>whnf);first|((refine ObN.mk ?_ ?_);exact zN)|((with_reducible refine ObO.l ?_);(refine ObN.mk ?_ ?_);(exact ZD))|((with_reducible refine ObRow.same ?_ ?_ ?_);exact zE;(focus (first|rfl|assumption|(simp;done))))|exact True.intro)
end
section
variable (G:Nat->AV)
end
def one:Nat->Int
 | 0=>1
 | n+1=>IntKind.u32.wrap (2 * one n)
abbrev bC (a:List Int) (sz bi:Int):List AV:=a.map iA++[I sz,I bi]
abbrev bV (a:List Int) (sz bi:Int):AV:=.agg (bC a sz bi)
abbrev nB (a:List Int) (sz bi:Int):AV:=nV 2 (ByteArray.mk #[]) (ByteArray.mk #[]) (bm a:Int) (kz a) 0 [] sz bi
section
variable {a:List Int} {sz bi:Int} (ha:a.length=32)
include ha
theorem bC_at {i:Nat} (h:i < 32):(bC a sz bi)[i]? = some (I (a.getD i 0)):=by unfold bC;rw [List.getElem?_append_left (by simp [ha,h])];simp [ha,h,iA]
theorem bC_s32 {z:Int}:(bC a sz bi).set 32 (I z)=bC a z bi:=by unfold bC;rw [List.set_append_right _ _ (by simp [ha])];simp [ha]
theorem bC_s33 {z:Int}:(bC a sz bi).set 33 (I z)=bC a sz z:=by unfold bC;rw [List.set_append_right _ _ (by simp [ha])];simp [ha]
theorem bC_set {i:Nat} (h:i < 32) {z:Int}:(bC a sz bi).set i (I z)=bC (a.set i z) sz bi:=by unfold bC;rw [List.set_append_left _ _ (by simp [ha,h]),List.map_set];rfl
end
theorem bC_cl {a:List Int} {sz bi:Int}:(AV.agg (bC a sz bi)).cells.length=a.length+2:=by simp [AV.cells]
theorem bC_fine {a:List Int} {sz bi:Int}:(AV.agg (bC a sz bi)).fine=true:=by simp [AV.fine,AV.one,iA]
theorem bC_c0 {a:List Int} {sz bi:Int}:(bC a sz bi).all AV.isC0=true:=by simp [AV.isC0,iA]
theorem fzL_p {H:Hp} {xs:List AV} {k:List AV->Hp->Prop} (h:xs.all AV.isC0=true) (hk:k xs H):fzL H xs k:=by
 induction xs generalizing k with
 | nil=>exact hk
 | cons a xs ih =>
  simp only [List.all_cons,Bool.and_eq_true] at h
  have h2:fzL H xs (fun xs' H''=>k (a::xs') H''):=ih h.2 hk
  cases a with
  | v x=>exact h2
  | sl=>exact h2
  | ad=>exact h2
  | _=>simp [AV.isC0] at h
theorem oK_all {s vs:List AV} {k:List AV->Prop} (h:s.length=vs.length) (hk:k vs):oK s 0 vs k:=by
 rw [oK_eq _ _ _ _ (by omega),Nat.zero_add,<- h,List.take_zero,List.drop_length,List.nil_append,List.append_nil]
 exact hk
theorem nK_to {s:List AV} {n:Nat} {k:AV->Prop} (n':Nat) (hn:n=n') {x:AV} (h:s[n']? = some x) (hk:k x):nK s n k:=by
 subst hn
 induction s generalizing n with
 | nil=>simp at h
 | cons y s ih=>cases n with
  | zero=>simp at h;subst h;exact hk
  | succ n=>exact ih (by simpa using h)
theorem pK_to {s:List AV} {n:Nat} {r:AV} {k:List AV->Prop} (n':Nat) (hn:n=n') (s':List AV) (hs:s.set n' r=s') (hk:k s'):pK s n r k:=by subst hn;rw [pK_eq,hs];exact hk
section
variable (G:Nat->AV)
theorem kz_map (a:List Int):∀ n,n<=a.length->kz (a.take n)=(ps a n).map fun i=>a.getD i 0
 | 0,_=>by simp [kz,ps]
 | n+1,h=>by
  rw [wb a n (by omega),ps_succ,List.map_append,kz_map a n (by omega)]
  congr 1
  split<;>simp
def fl (a:List Int) (j:Nat):List Int:=(List.range 32).map fun q=>if q ∈ (ps a 32).take j then a.getD q 0 else 0
theorem wn (a:List Int) (j:Nat):(fl a j).length=32:=by simp [fl]
theorem fl_zero (a:List Int):fl a 0=List.replicate 32 0:=by
 unfold fl
 rw [List.take_zero]
 simp [List.map_const']
theorem fl_all (a:List Int) (ha:a.length=32):fl a (ps a 32).length=a:=by
 apply List.ext_getElem
 ·rw [wn,ha]
 ·intro q h1 h2
  have hq:q < 32:=by rw [wn] at h1;exact h1
  simp only [fl,List.take_length,List.getElem_map,List.getElem_range]
  by_cases h:a.getD q 0=0
  ·rw [if_neg (fun hm=>(mem_ps.1 hm).2 h)]
   have:a.getD q 0=a[q]:=by simp [h2]
   rw [<- this,h]
  ·rw [if_pos (mem_ps.2 ⟨hq,h⟩)];simp [h2]
theorem fl_succ (a:List Int) (j:Nat) (hj:j < (ps a 32).length):(fl a j).set (ps a 32)[j] (a.getD (ps a 32)[j] 0)=fl a (j+1):=by
 have hp:=mem_ps.1 (List.getElem_mem hj)
 apply List.ext_getElem
 ·simp [fl]
 ·intro q h1 h2
  have hq:q < 32:=by rw [wn] at h2;exact h2
  rw [List.getElem_set]
  simp only [fl,List.getElem_map,List.getElem_range,List.take_succ_eq_append_getElem hj,List.mem_append,List.mem_singleton]
  by_cases e:(ps a 32)[j]=q
  ·rw [if_pos e,if_pos (.inr e.symm),e]
  ·rw [if_neg e]
   by_cases h:q ∈ (ps a 32).take j
   ·rw [if_pos h,if_pos (.inl h)]
   ·rw [if_neg h,if_neg (fun hh=>hh.elim h (fun h'=>e h'.symm))]
theorem upI_ps (a:List Int):upI (bm a) 32=(ps a 32).map Int.ofNat:=by unfold upI;rw [up_ps a 32 (Nat.le_refl _)]
abbrev z32:List Int:=[0,0,0,0,0,0,0,0,0,0,0,0,0,0,0,0,0,0,0,0,0,0,0,0,0,0,0,0,0,0,0,0]
theorem fl_z (a:List Int):fl a 0=z32:=by rw [fl_zero];rfl
set_option maxHeartbeats 4000000 in
theorem of7 (a:List Int) (sz bi:Int) (ha:a.length=32) (h21:PC Tryz.prog G 84 [nB a sz bi] (I 0)):PC Tryz.prog G 72 [nB a sz bi] (bV a sz bi):=by
 have h22:=all46 G (bm a) (bm_lt a)
 rw [upI_ps] at h22
 have hl32:(ps a 32).length<=32:=by have:=List.length_filter_le (fun i=>decide (a.getD i 0 ≠ 0)) (List.range 32);simpa [ps] using this
 have hkm:kz a=(ps a 32).map fun i=>a.getD i 0:=by have:=kz_map a 32 (by omega);rwa [List.take_of_length_le (by omega)] at this
 have hkl:(kz a).length=(ps a 32).length:=by rw [hkm,List.length_map]
 refine zA cop72 ?_
 repeat' ((conv=>whnf);first|(refine SeqP.go ?_)|((refine ObD.mk ?_ ?_);exact zD)|((refine ObN.mk ?_ ?_);exact zN)|(refine ObT.ff ?_)|((refine ObB.yes ?_ ?_);exact zB)|((with_reducible refine (?_:ObU _ _));(refine ObU.mk _ zU ?_))|((with_reducible refine (?_:ObR _ _ _));(first|(refine ObR.mk _ zG ?_)|(refine ObR.map zX (fun x hx=>?_))|(refine ObR.mk _ rfl ?_)))|((refine ObC.f 84 ?_);(refine ObC.mk _ (h21) ?_))|((refine ObC.f 85 ?_);(refine ObC.mk _ (h22) ?_)))
 conv=>whnf
 refine LoopP.go (α:=Nat) (fun j=>j<=(ps a 32).length) (fun j=>(ps a 32).length - j) (fun j=>[(5,some (I j)),(13,none),(0,none),(0,none),(0,none),(0,none),(0,none),(0,none),(0,none),(0,none),(0,none),(0,none),(0,none),(0,none),(0,none),(0,none),(0,none),(0,none)]) (fun j=>[⟨57,9,[nB a sz bi],0,0⟩,⟨111,34,[.agg (bC z32 0 0)],0,0⟩,⟨111,34,[.agg (bC (fl a j) 0 0)],0,0⟩]) 0 (Nat.zero_le _) (Fg.go ?_ ?_) ?_
 ·repeat' ((conv=>whnf);first|((refine ObEqs.mk ?_ ?_);rfl)|((with_reducible refine ObEq1.i ?_ ?_);exact zF)|exact True.intro)
 ·rw [fl_z];rfl
 intro j hj
 have hfl:=wn a j
 have hlm:(List.map Int.ofNat (ps a 32)).length=(ps a 32).length:=List.length_map _
 by_cases hlt:j < (ps a 32).length
 ·have hp := mem_ps.1 (List.getElem_mem hlt)
  have hs:=fl_succ a j hlt
  have e1:(((ps a 32).map Int.ofNat).map iA)[j]? = some (I ((ps a 32)[j]:Nat)):=by simp [hlt,iA]
  have e2:((kz a).map iA)[j]? = some (I (a.getD (ps a 32)[j] 0)):=by rw [hkm];simp [hlt,iA]
  have hset:=bC_set (a:=fl a j) (sz:=0) (bi:=0) hfl hp.1 (z:=a.getD (ps a 32)[j] 0)
  rw [hs] at hset
  generalize (ps a 32)[j]=q at *
  generalize a.getD q 0=x at *
  have ha':=ha
  repeat' ((conv=>whnf);first|(refine SeqP.go ?_)|((with_reducible refine (?_:pK _ _ _ _));(refine pK_to q ?_ _ hset ?_);omega)|((refine ObD.mk ?_ ?_);(focus (simp [hfl,AV.cells,AV.fine,AV.one,iA];omega)))|((refine ObD.mk ?_ ?_);(focus (first|rfl|(simp [hfl,AV.cells,AV.fine,AV.one,iA];done))))|((refine ObN.mk ?_ ?_);(focus (first|rfl|assumption|omega|(simp only [List.length_map,List.length_append,List.length_cons,List.length_nil,hfl,AV.cells,AV.fine,AV.one,iA];omega)|(simp [hfl,AV.cells,AV.fine,AV.one,iA];done)|(simp [hfl,AV.cells,AV.fine,AV.one,iA];omega))))|(refine ObT.tt ?_)|((refine ObB.yes ?_ ?_);exact zB)|((with_reducible refine ObI.nl ?_ ?_);omega)|((refine ObX.mk _ rfl ?_ ?_);(exact zq11))|((with_reducible refine (?_:ObL _ _));(refine ObL.mk _ zM ?_))|((with_reducible refine (?_:ObU _ _));(refine ObU.mk _ (by first|assumption|((conv=>lhs;simp only [List.set_cons_zero,List.set_cons_succ,List.take_succ_cons,List.take_zero,List.drop_succ_cons,List.drop_zero,List.nil_append,List.cons_append,List.append_nil,List.take_nil,List.drop_nil,hfl,AV.cells,AV.fine,AV.one,iA]);try rfl)|rfl) ?_))|((with_reducible refine (?_:ObR _ _ _));(first|(refine ObR.mk _ zG ?_)|(refine ObR.map zq11 (fun x hx=>?_))|(refine ObR.mk _ rfl ?_))))
  conv=>whnf
  refine Again.mk (j+1) ?_ ?_ (Fg.go ?_ rfl)
  ·omega
  ·omega
  repeat' ((conv=>whnf);first|((refine ObEqs.mk ?_ ?_);rfl)|((with_reducible refine ObEq1.i ?_ ?_);exact zF)|exact True.intro)
 ·obtain rfl : j = (ps a 32).length := by omega
  rw [fl_all a ha]
  clear hfl
  repeat' ((conv=>whnf);first|(refine SeqP.go ?_)|exact SameP.mk rfl rfl|(with_reducible first|refine ObAnd.mk ?_ ?_|refine ObDx.same ?_)|((with_reducible refine (?_:pK _ _ _ _));(refine pK_to 32 ?_ _ (bC_s32 (by first|exact ha|simp [ha])) ?_);rfl)|((with_reducible refine (?_:pK _ _ _ _));(refine pK_to 33 ?_ _ (bC_s33 (by first|exact ha|simp [ha])) ?_);rfl)|((with_reducible refine (?_:oK _ _ _ _));(refine oK_all (by simp [ha,AV.cells]) ?_))|((with_reducible refine (?_:fzL _ _ _));(refine fzL_p bC_c0 ?_))|((refine ObD.mk ?_ ?_);(focus (simp only [bC_cl,bC_fine,List.length_set,ha];rfl)))|((refine ObD.mk ?_ ?_);(focus (first|rfl|(simp [ha,AV.cells,AV.fine,AV.one,iA];done))))|((refine ObN.mk ?_ ?_);(exact w9))|(refine ObT.ff ?_)|((refine ObB.no ?_ ?_);exact zC)|((with_reducible refine (?_:ObL _ _));(refine ObL.mk _ (by first|exact ((List.length_map _).trans (List.length_map _))|assumption|exact (List.length_map _).trans (by assumption)|exact List.length_map _|rfl) ?_))|((with_reducible refine (?_:ObU _ _));(refine ObU.mk _ zq1 ?_))|((with_reducible refine (?_:ObR _ _ _));(first|(refine ObR.mk _ zG ?_)|(refine ObR.map xC (fun x hx=>?_))|(refine ObR.mk _ rfl ?_)))|((refine ObEq.mk ?_);exact zE))
end
set_option linter.unusedSectionVars false
section
variable (G:Nat->AV)
theorem form2 (ke va:ByteArray) (mp:Nat) (kk:List Int) (mn:Int) (ls:List Pr) (sz bi:Int) (hm:mp < 4294967296) (h:yt 2 ke va mp kk mn ls sz bi):nV 2 ke va (mp:Int) kk mn ls sz bi=nB (arr mp kk) sz bi:=by
 obtain ⟨_,hf⟩:=h
 obtain ⟨h0,hl,hz,hb⟩:¬ (0:Int) ∈ kk/\((kk.length:Nat):Int)=((upI mp 32).length:Nat)/\0<=sz/\ZX ke va mp kk mn ls true false true true:=by
  rcases hf with ⟨h,_⟩|⟨_,h1,h2,h3,h4⟩|⟨h,_⟩|⟨h,_⟩|⟨h,_⟩
  ·omega
  ·exact ⟨h1,h2,h3,h4⟩
  all_goals omega
 obtain ⟨hb1,_,hb3,hb4⟩:=hb
 obtain ⟨rfl,rfl⟩:=hb1 rfl
 obtain rfl:mn=0:=hb3 rfl
 obtain rfl:ls=[]:=lenZ.1 (hb4 rfl)
 have hkl:kk.length=(Mk.all mp).length:=by
  have:(upI mp 32).length=(Mk.all mp).length:=by unfold upI;rw [List.length_map];rfl
  omega
 unfold nB
 rw [<- arr_bm hm hkl h0,<- arr_kz hm hkl h0]
variable {kn:Int} {ke va:ByteArray} {mp:Nat} {kk:List Int} {mn:Int} {ls:List Pr} {sz bi:Int} {a:List Int} {s b:Int} (ha:a.length=32) (h23:PC Tryz.prog G 89 [nV kn ke va (mp:Int) kk mn ls sz bi] (nB a s b))
include ha h23
end
theorem sum_mem {f:Int->Nat} {l:List Int} {r:Int} (h:r ∈ l):f r<=(l.map f).sum:=by
 induction l with
 | nil=>cases h
 | cons a t ih =>
  rw [List.map_cons,List.sum_cons]
  rcases List.mem_cons.1 h with rfl|h
  ·omega
  ·have:=ih h;omega
theorem fm_len {h:List Nd} (hx:∀ x ∈ h,x.Ok) {l:List Int}:(l.flatMap (B h)).length<=40 * (l.map (C h)).sum:=by
 induction l with
 | nil=>simp
 | cons a t ih =>
  have:=Xy hx (r:=a)
  simp only [List.flatMap_cons,List.length_append,List.map_cons,List.sum_cons];omega
theorem fm_snoc {h:List Nd} {l:List Int} {k:Nat} (hk:k < l.length):(l.take (k+1)).flatMap (B h)=(l.take k).flatMap (B h)++B h l[k]:=by
 rw [List.take_succ_eq_append_getElem hk,List.flatMap_append];simp
theorem sum_take {f:Int->Nat} {l:List Int} {k:Nat}:((l.take k).map f).sum<=(l.map f).sum:=by
 conv=>rhs;rw [<- List.take_append_drop k l,List.map_append,List.sum_append]
 omega
theorem wT {l:List Pr}:(l.map pA).take l.length=l.map pA:=List.take_of_length_le (by simp)
theorem p_p (l:List Pr):(l.map pA).all AV.isP=true:=by simp [pA,AV.isP,AV.isC,AV.isC0]
theorem nr_p (l:List Pr):(l.map pA).all nrB=true:=by simp [pA,nrB,AV.cells]
section
variable (G:Nat->AV)
end
section
variable (G:Nat->AV)
set_option maxHeartbeats 1000000 in
theorem bnd30 (x:Nd) (h:x.Ok):PC Tryz.prog G 49 [nA x] (.sl 2 ((ow x).map pA)):=by
 obtain ⟨kn,ke,va,mp,kk,mn,ls,sz,bi⟩:=x
 unfold ow
 dsimp only
 by_cases h1:kn=1\/kn=4\/kn=6
 ·rw [if_pos h1]
  show PC Tryz.prog G 49 _ (.sl 2 [.agg [S ke,S va]])
  rcases h1 with rfl|rfl|rfl<;>refine zA cop49 ?_
  ·repeat' ((conv=>whnf);first|(refine SeqP.go ?_)|((refine ObD.mk ?_ ?_);exact zD)|((refine ObN.mk ?_ ?_);exact zN)|(refine ObT.tt ?_)|((refine ObB.yes ?_ ?_);exact zB)|((with_reducible refine (?_:ObU _ _));(refine ObU.mk _ zU ?_))|((with_reducible refine (?_:ObR _ _ _));(first|(refine ObR.mk _ zG ?_)|(refine ObR.map zX (fun x hx=>?_))|(refine ObR.mk _ rfl ?_)))|((refine ObEq.mk ?_);exact zE))
  ·repeat' ((conv=>whnf);first|(refine SeqP.go ?_)|((refine ObD.mk ?_ ?_);exact zD)|((refine ObN.mk ?_ ?_);exact zN)|(with_reducible first|refine ObT.tt ?_|refine ObT.ff ?_)|((refine ObB.yes ?_ ?_);exact zB)|(with_reducible refine ObB.mk (fun h=>?_) (fun h=>?_))|((with_reducible refine (?_:ObU _ _));(refine ObU.mk _ zU ?_))|((with_reducible refine (?_:ObR _ _ _));(first|(refine ObR.mk _ zG ?_)|(refine ObR.map zX (fun x hx=>?_))|(refine ObR.mk _ rfl ?_)))|((refine ObEq.mk ?_);exact zE))
  ·repeat' ((conv=>whnf);first|(refine SeqP.go ?_)|((refine ObD.mk ?_ ?_);exact zD)|((refine ObN.mk ?_ ?_);exact zN)|(with_reducible first|refine ObT.tt ?_|refine ObT.ff ?_)|((refine ObB.yes ?_ ?_);exact zB)|(with_reducible refine ObB.mk (fun h=>?_) (fun h=>?_))|((with_reducible refine (?_:ObU _ _));(refine ObU.mk _ zU ?_))|((with_reducible refine (?_:ObR _ _ _));(first|(refine ObR.mk _ zG ?_)|(refine ObR.map zX (fun x hx=>?_))|(refine ObR.mk _ rfl ?_)))|((refine ObEq.mk ?_);exact zE))
 ·rw [if_neg h1]
  have a1:¬ kn=1:=fun e=>h1 (.inl e)
  have a4:¬ kn=4:=fun e=>h1 (.inr (.inl e))
  have a6:¬ kn=6:=fun e=>h1 (.inr (.inr e))
  clear h1
  by_cases h3:kn=3
  ·subst h3
   rw [if_pos rfl]
   refine zA cop49 ?_
   repeat' ((conv=>whnf);first|(refine SeqP.go ?_)|((refine ObD.mk ?_ ?_);exact zD)|((refine ObN.mk ?_ ?_);exact zN)|(with_reducible first|refine ObT.tt ?_|refine ObT.ff ?_)|((refine ObB.yes ?_ ?_);exact zB)|((refine ObB.no ?_ ?_);exact zC)|((with_reducible refine (?_:ObR _ _ _));(first|(refine ObR.mk _ zG ?_)|(refine ObR.map zX (fun x hx=>?_))|(refine ObR.mk _ rfl ?_)))|((refine ObEq.mk ?_);exact zE))
  ·rw [if_neg h3]
   refine zA cop49 ?_
   repeat' ((conv=>whnf);first|(refine SeqP.go ?_)|((refine ObD.mk ?_ ?_);exact zD)|((refine ObN.mk ?_ ?_);exact zN)|(refine ObT.ff ?_)|((refine ObB.no ?_ ?_);exact zC)|((with_reducible refine (?_:ObU _ _));(refine ObU.mk _ zU ?_))|((with_reducible refine (?_:ObR _ _ _));(first|(refine ObR.mk _ zG ?_)|(refine ObR.map zX (fun x hx=>?_))|(refine ObR.mk _ rfl ?_)))|((refine ObEq.mk ?_);exact zE))
end
section
variable (G:Nat->AV)
set_option maxHeartbeats 8000000 in
theorem dbinds (h:List Nd) (hl:h.length<=1000) (hx:∀ x ∈ h,x.Ok) (hh:aH h h.length=true):∀ (N:Nat) (r:Int),0<=r->r<=(N:Int)->r<=(h.length:Int)->C h r<=1000000->PC Tryz.prog G 18 [.sl 9 (h.map nA),I r] (.sl 2 ((B h r).map pA)):=by
 intro N
 induction N with
 | zero =>
  intro r h0 h1 h2 hC
  obtain rfl:r=0:=by omega
  rw [B_0 (Int.le_refl 0)]
  refine zA cop18 ?_
  repeat' ((conv=>whnf);first|(refine SeqP.go ?_)|((refine ObD.mk ?_ ?_);exact zD)|((refine ObN.mk ?_ ?_);exact zN)|(refine ObT.tt ?_)|((refine ObB.yes ?_ ?_);exact zB)|((with_reducible refine (?_:ObU _ _));(refine ObU.mk _ zU ?_))|((refine ObEq.mk ?_);exact zE))
 | succ N ih =>
  intro r h0 h1 h2 hC
  by_cases hz:r=0
  ·subst hz
   rw [B_0 (Int.le_refl 0)]
   refine zA cop18 ?_
   repeat' ((conv=>whnf);first|(refine SeqP.go ?_)|((refine ObD.mk ?_ ?_);exact zD)|((refine ObN.mk ?_ ?_);exact zN)|(refine ObT.tt ?_)|((refine ObB.yes ?_ ?_);exact zB)|((with_reducible refine (?_:ObU _ _));(refine ObU.mk _ zU ?_))|((refine ObEq.mk ?_);exact zE))
  obtain ⟨i,rfl⟩:∃ i:Nat,r=(i:Int)+1:=⟨(r - 1).toNat,by omega⟩
  have hil:i < h.length:=by omega
  have hq:=wU hil
  have hxo:=hx _ (List.getElem_mem hil)
  have ho:=yN hh hil
  have hb:=bnd30 G h[i] hxo
  have hrf:=Wh G h[i] hxo
  have hrl:=xU hxo
  have hri:=XY hxo
  have hol:=xZ hxo
  have hB:=B_eq hh hil
  have hCe:=C_eq hh hil
  have hrr:∀ r ∈ rfN h[i],1<=r/\r<=(i:Int):=fun r hr=>yl ho hr
  have htr:=fun h4=>Yg ho h4
  clear ho
  generalize h[i]=x at *
  rw [<- show ((i:Int)+1 - 1).toNat=i by omega] at hq
  by_cases h4:x.kn=4
  ·rw [if_pos h4] at hB hCe
   obtain ⟨t1,t2,t3⟩:=htr h4
   have iha:=ih (x.kk.getD 0 0) t1.1 (by omega) (by omega) (by omega)
   have ihb:=ih (x.kk.getD 1 0) t2.1 (by omega) (by omega) (by omega)
   have la:=Xy hx (r:=x.kk.getD 0 0)
   have lb:=Xy hx (r:=x.kk.getD 1 0)
   rw [hB]
   have k0:(x.kk.map iA)[0]? = some (I (x.kk.getD 0 0)):=by rw [yD (by omega)];simp [List.getD_eq_getElem?_getD,List.getElem?_eq_getElem (show 0 < x.kk.length by omega)]
   have k1:(x.kk.map iA)[1]? = some (I (x.kk.getD 1 0)):=by rw [yD (by omega)];simp [List.getD_eq_getElem?_getD,List.getElem?_eq_getElem (show 1 < x.kk.length by omega)]
   replace la:(B h (x.kk.getD 0 0)).length<=40000000:=by omega
   replace lb:(B h (x.kk.getD 1 0)).length<=40000000:=by omega
   generalize x.kk.getD 0 0=ka at *
   generalize x.kk.getD 1 0=kb at *
   generalize B h ka=L1 at *
   generalize ow x=L2 at *
   generalize B h kb=L3 at *
   have u1:([]:List AV).take 0++L1.map pA=L1.map pA:=by simp
   have u2:(L1.map pA).take L1.length++L2.map pA=(L1++L2).map pA:=by rw [wT,List.map_append]
   have u3:((L1++L2).map pA).take (L1++L2).length++L3.map pA=(L1++L2++L3).map pA:=by rw [wT,<- List.map_append]
   have l1:0+(L1.map pA).length=L1.length:=by simp
   have l2:L1.length+(L2.map pA).length=(L1++L2).length:=by simp
   have l3:(L1++L2).length+(L3.map pA).length=(L1++L2++L3).length:=by simp;omega
   have m1:(L1++L2).length=L1.length+L2.length:=by simp
   have m2:(L1++L2++L3).length=L1.length+L2.length+L3.length:=by simp;omega
   have r1:=nr_p L1
   have r2:=nr_p (L1++L2)
   have r3:=nr_p (L1++L2++L3)
   have a3:=wT (l:=L1++L2++L3)
   have p3:=p_p (L1++L2++L3)
   clear hrr htr hri hB hCe ih
   refine zA cop18 ?_
   repeat' ((conv=>whnf);first|(refine SeqP.go ?_)|((refine ObD.mk ?_ ?_);exact zD)|((refine ObN.mk ?_ ?_);exact zN)|(with_reducible first|refine ObT.tt ?_|refine ObT.ff ?_)|((refine ObB.yes ?_ ?_);exact zB)|((refine ObB.no ?_ ?_);exact zC)|((with_reducible refine ObI.mk _ rfl ?_ ?_ ?_);omega;omega)|((refine ObX.mk _ rfl ?_ ?_);exact zX)|((with_reducible refine ObX.int ?_ ?_ ?_);exact zX;exact zX)|((with_reducible refine (?_:ObL _ _));(refine ObL.mk _ (by first|exact l1|exact l2|exact l3|exact (List.length_map _)|assumption|exact (List.length_map _).trans (by assumption)|exact List.length_map _|rfl) ?_))|((with_reducible refine (?_:ObU _ _));(refine ObU.mk _ (by first|exact u1|exact u2|exact u3|exact a3|assumption|((conv=>lhs;simp only [List.set_cons_zero,List.set_cons_succ,List.take_succ_cons,List.take_zero,List.drop_succ_cons,List.drop_zero,List.nil_append,List.cons_append,List.append_nil,List.take_nil,List.drop_nil]);try rfl)|rfl) ?_))|((with_reducible refine (?_:ObR _ _ _));(first|(refine ObR.mk _ zG ?_)|(refine ObR.map zX (fun x hx=>?_))|(refine ObR.mk _ rfl ?_)))|((refine ObC.f 49 ?_);(refine ObC.mk _ (hb) ?_))|((refine ObC.f 18 ?_);(refine ObC.mk _ (iha) ?_))|((refine ObC.f 18 ?_);(refine ObC.mk _ (ihb) ?_))|((refine ObEq.mk ?_);exact zE))
  ·rw [if_neg h4] at hB hCe
   clear htr
   rw [hB]
   have hfl:=fm_len hx (l:=rfN x)
   refine zA cop18 ?_
   have hsum:∀ r ∈ rfN x,C h r<=999998:=fun r hr=>by have:=sum_mem (f:=C h) hr;omega
   have hflk:∀ k:Nat,(((rfN x).take k).flatMap (B h)).length<=40000000:=fun k=>by
    have h1:=fm_len hx (l:=(rfN x).take k)
    have h2:=sum_take (f:=C h) (l:=rfN x) (k:=k)
    omega
   clear hfl
   generalize ow x=L2 at *
   have u1:([]:List AV).take 0++L2.map pA=L2.map pA:=by simp
   have l1:0+(L2.map pA).length=L2.length:=by simp
   have r1:=nr_p L2
   repeat' ((conv=>whnf);first|(refine SeqP.go ?_)|((refine ObD.mk ?_ ?_);exact zD)|((refine ObN.mk ?_ ?_);exact zN)|(refine ObT.ff ?_)|((refine ObB.no ?_ ?_);exact zC)|((with_reducible refine ObI.mk _ rfl ?_ ?_ ?_);omega;omega)|((with_reducible refine ObX.int ?_ ?_ ?_);exact zX;exact zX)|((with_reducible refine (?_:ObL _ _));(refine ObL.mk _ (by first|exact l1|exact (List.length_map _)|assumption|exact (List.length_map _).trans (by assumption)|exact List.length_map _|rfl) ?_))|((with_reducible refine (?_:ObU _ _));(refine ObU.mk _ zq4 ?_))|((with_reducible refine (?_:ObR _ _ _));(first|(refine ObR.mk _ zG ?_)|(refine ObR.map zX (fun x hx=>?_))|(refine ObR.mk _ rfl ?_)))|((refine ObC.f 49 ?_);(refine ObC.mk _ (hb) ?_))|((refine ObC.f 35 ?_);(refine ObC.mk _ (hrf) ?_)))
   conv=>whnf
   refine LoopP.go (α:=Nat × List Pr) (fun p=>p.1<=(rfN x).length/\p.2=L2++((rfN x).take p.1).flatMap (B h)) (fun p=>(rfN x).length - p.1) (fun p=>[(5,some (.ol 0 0 p.2.length)),(0,none),(1,some (I p.1)),(0,none),(8,none),(22,none),(2,none),(2,none),(0,none),(0,none),(0,none),(0,none),(0,none),(0,none),(0,none),(0,none),(0,none),(0,none),(0,none),(0,none),(0,none)]) (fun p=>[⟨31,2,p.2.map pA,0,0⟩]) (0,L2) ⟨Nat.zero_le _,by simp⟩ (Fg.vw [(0,0,1)] (by repeat' ((conv=>whnf);first|((with_reducible refine ObRn.mk ?_ ?_);(focus (first|rfl|(simp [rnB,rnC,rnL];done))))|((refine ObEqs.mk ?_ ?_);rfl)|exact True.intro)) (by repeat' ((conv=>whnf);first|((refine ObN.mk ?_ ?_);exact zN)|((with_reducible refine ObRow.same ?_ ?_ ?_);exact zE;(focus (first|rfl|assumption|(simp;done))))|exact True.intro)) (by simp) (by repeat' ((conv=>whnf);first|exact True.intro))) ?_
   rintro ⟨k,o⟩ ⟨hk,hoo⟩
   dsimp only at hk hoo ⊢
   have hol2:o.length<=40000040:=by rw [hoo,List.length_append];have:=hflk k;omega
   have ra:=nr_p o
   have oa:=wT (l:=o)
   have op:=p_p o
   by_cases hkr:k < (rfN x).length
   ·have hq2 := yD hkr
    have hmem:=List.getElem_mem hkr
    have hr1:=hrr _ hmem
    have ihr:=ih (rfN x)[k] (by omega) (by omega) (by omega) (by have:=hsum _ hmem;omega)
    have lb:=Xy hx (r:=(rfN x)[k])
    have hcs:=hsum _ hmem
    have hs:=fm_snoc (h:=h) hkr
    generalize (rfN x)[k]=r at *
    generalize B h r=L3 at *
    have u2:(o.map pA).take o.length++L3.map pA=(o++L3).map pA:=by rw [wT,List.map_append]
    have l2:o.length+(L3.map pA).length=(o++L3).length:=by simp
    have m2:(o++L3).length=o.length+L3.length:=by simp
    have r2:=nr_p (o++L3)
    repeat' ((conv=>whnf);first|(refine SeqP.go ?_)|((refine ObN.mk ?_ ?_);exact zN)|(refine ObT.tt ?_)|((refine ObB.yes ?_ ?_);exact zB)|((with_reducible refine ObI.nl ?_ ?_);omega)|((refine ObX.mk _ rfl ?_ ?_);exact zX)|((with_reducible refine (?_:ObL _ _));(refine ObL.mk _ (by first|exact l2|exact (List.length_map _)|assumption|exact (List.length_map _).trans (by assumption)|exact List.length_map _|rfl) ?_))|((with_reducible refine (?_:ObU _ _));(refine ObU.mk _ (by first|exact u2|assumption|((conv=>lhs;simp only [List.set_cons_zero,List.set_cons_succ,List.take_succ_cons,List.take_zero,List.drop_succ_cons,List.drop_zero,List.nil_append,List.cons_append,List.append_nil,List.take_nil,List.drop_nil]);try rfl)|rfl) ?_))|((with_reducible refine (?_:ObR _ _ _));(first|(refine ObR.mk _ zG ?_)|(refine ObR.map zX (fun x hx=>?_))|(refine ObR.mk _ rfl ?_)))|((refine ObC.f 18 ?_);(refine ObC.mk _ (ihr) ?_)))
    conv=>whnf
    refine Again.mk (k+1,o++L3) ⟨by dsimp only;omega,by dsimp only;rw [hs,hoo,List.append_assoc]⟩ xB (Fg.vw [(0,0,1)] ?_ ?_ (by simp) ?_)
    all_goals repeat' ((conv=>whnf);first|((refine ObN.mk ?_ ?_);exact zN)|((with_reducible refine ObRn.mk ?_ ?_);(focus (first|rfl|(simp [rnB,rnC,rnL];done))))|((with_reducible refine ObRow.same ?_ ?_ ?_);exact zE;(focus (first|rfl|assumption|(simp;done))))|((refine ObEqs.mk ?_ ?_);rfl)|exact True.intro)
   ·obtain rfl : k = (rfN x).length := by omega
    rw [List.take_length] at hoo
    rw [<- hoo]
    repeat' ((conv=>whnf);first|(refine SeqP.go ?_)|((refine ObN.mk ?_ ?_);exact zN)|(refine ObT.ff ?_)|((refine ObB.no ?_ ?_);exact zC)|((with_reducible refine (?_:ObL _ _));(refine ObL.mk _ zM ?_))|((with_reducible refine (?_:ObU _ _));(refine ObU.mk _ zq7 ?_))|((refine ObEq.mk ?_);exact zE))
end
theorem bl_sz {h:List Nd} (hx:∀ x ∈ h,x.Ok):∀ {n:Nat} {r:Int} {q:Pr},q ∈ bl h n r->q.1.size<=100000:=by
 intro n
 induction n with
 | zero=>intro r q hq;simp [bl] at hq
 | succ n ih =>
  intro r q hq
  rw [bl] at hq
  split at hq
  ·simp at hq
  ·split at hq
   ·simp at hq
   ·rename_i x hx1
    have ho:=ow_sz (hx x (List.mem_of_getElem? hx1))
    split at hq
    ·simp only [List.mem_append] at hq
     rcases hq with (hq|hq)|hq
     ·exact ih hq
     ·exact ho q hq
     ·exact ih hq
    ·simp only [List.mem_append,List.mem_flatMap] at hq
     rcases hq with hq|⟨r,_,hq⟩
     ·exact ho q hq
     ·exact ih hq
theorem dl_at {h : List Nd} {b : Int} {k i : Nat} {x : Nd} {lv : Nat} (hx : h[i]? = some x) : dl h b (k + 1) ((i : Int) + 1) lv = if x.kn = 5 then dl h b k x.mn lv
   else if x.kn=3 then decide (lvN b<=lv)
   else if x.kn=2 then decide (lv < lvN b) && decide (x.sz=0\/x.sz=((B h ((i:Int)+1)).length:Int)) && (kds x).all fun e=>(B h e.2).all (fun q=>decide (cN b (lv:Int) q.1=e.1)) && decide (B h e.2 ≠ []) && dl h b k e.2 (lv+1)
   else decide (x.kn ≠ 4):=by
 rw [dl]
 have e2:((i:Int)+1 - 1).toNat=i:=by omega
 simp only [e2,hx]
noncomputable def KO (h:List Nd) (b:Int) (n lv:Nat) (j:Nat) (k:Int):Bool:=(B h k).all (fun q=>decide (cN b (lv:Int) q.1=j)) && decide (B h k ≠ []) && dl h b n k (lv+1)
theorem kds_all {x:Nd} {h:List Nd} {b:Int} {n lv:Nat}:((kds x).all fun e=>(B h e.2).all (fun q=>decide (cN b (lv:Int) q.1=e.1)) && decide (B h e.2 ≠ []) && dl h b n e.2 (lv+1))=(ps (arr x.mp x.kk) 32).all fun j=>KO h b n lv j ((arr x.mp x.kk).getD j 0):=by
 unfold kds
 rw [List.all_map];rfl
section
variable {h:List Nd} (hl:h.length<=1000) (hh:aH h h.length=true) (hx:∀ x ∈ h,x.Ok)
include hl hh hx in
set_option maxHeartbeats 16000000 in
theorem dlies46 (G : Nat -> AV) (b : Int) (hb : i64 b) : ∀ (n : Nat) (r : Int) (lv : Nat) (rr : Bool), lv <= 1000 -> 0 <= r -> r <= (n : Int) -> r <= (h.length : Int) -> C h r <= 1000000 -> rr = (decide (r = 0) || dl h b n r lv) ->
  PC Tryz.prog G 46 [.sl 9 (h.map nA),I r,I (lv:Int),I b] (Bo rr):=by
 intro n
 induction n with
 | zero =>
  intro r lv rr h0 h1 h2 h3 hC hrr
  obtain rfl:r=0:=by omega
  obtain rfl:rr=true:=by rw [hrr];simp
  refine zA Yr ?_
  repeat' ((conv=>whnf);first|(refine SeqP.go ?_)|((refine ObN.mk ?_ ?_);exact zN)|(refine ObT.tt ?_)|((refine ObB.yes ?_ ?_);exact zB)|((refine ObEq.mk ?_);exact zE))
 | succ n ih =>
  intro r lv rr h0 h1 h2 h3 hC hrr
  by_cases hz:r=0
  ·subst hz
   obtain rfl:rr=true:=by rw [hrr];simp
   refine zA Yr ?_
   repeat' ((conv=>whnf);first|(refine SeqP.go ?_)|((refine ObN.mk ?_ ?_);exact zN)|(refine ObT.tt ?_)|((refine ObB.yes ?_ ?_);exact zB)|((refine ObEq.mk ?_);exact zE))
  rw [decide_eq_false hz,Bool.false_or] at hrr
  obtain ⟨i,hr0⟩:∃ i:Nat,r=(i:Int)+1:=⟨(r - 1).toNat,by omega⟩
  have hi:i < h.length:=by omega
  obtain ⟨x,hix⟩:∃ x,h[i]? = some x:=⟨_,List.getElem?_eq_getElem hi⟩
  obtain ⟨_,hix'⟩:=List.getElem?_eq_some_iff.1 hix
  have hq:=nA_q hr0 hix
  have hlv:=Wn (b:=b)
  have c64:=lev64 G b hb
  have c18:=dbinds G h hl hx hh h.length r h1 (by omega) h3 hC
  have hlB:=Xy hx (r:=r)
  obtain ⟨n5,n2,n1,nk⟩:=Wk hh hx hi
  have hX:=hx _ (List.getElem_mem hi)
  have ho:=yN hh hi
  have hCe:=C_eq hh hi
  rw [hix'] at n5 n2 n1 nk hX ho hCe
  have hri:=XY hX
  rw [hr0,dl_at hix,<- hr0] at hrr
  rw [<- hr0] at hCe n5 n2 n1
  rcases nk with k1|k1|k1|k1|k1|k1
  ·rw [if_neg (by omega), if_neg (by omega), if_neg (by omega), decide_eq_true (by omega)] at hrr
   subst hrr
   refine zA Yr ?_
   repeat' ((conv=>whnf);first|(refine SeqP.go ?_)|((refine ObD.mk ?_ ?_);(focus (first|rfl|(simp [k1];done))))|((refine ObN.mk ?_ ?_);(exact yI))|(with_reducible first|refine ObT.tt ?_|refine ObT.ff ?_)|((refine ObB.no ?_ ?_);exact zC)|((with_reducible refine ObI.mk _ rfl ?_ ?_ ?_);omega;omega)|((with_reducible refine ObX.int ?_ ?_ ?_);(exact ZO);(exact ZO))|((with_reducible refine (?_:ObU _ _));(refine ObU.mk _ zq9 ?_))|((with_reducible refine (?_:ObR _ _ _));(first|(refine ObR.mk _ zG ?_)|(refine ObR.map ZO (fun x hx=>?_))|(refine ObR.mk _ rfl ?_)))|((refine ObEq.mk ?_);exact zE))
  ·rw [if_neg (by omega), if_neg (by omega), if_pos k1, kds_all] at hrr
   obtain ⟨m1,m2,m3,m4,m5⟩:=n2 k1
   have hmay:=yK ho
   have hform:=yT hmay
   have c84:=may33 G x hX
   rw [hmay] at c84
   obtain ⟨g1,g2,g3,g4,g5,g6,g7⟩:=br_of ho hX k1
   rw [if_neg (by omega),g3] at hCe
   have hkC:∀ q ∈ x.kk,C h q<=1000000:=fun q hq=>by have:=sum_mem (f:=C h) hq;omega
   have hkb:∀ q ∈ x.kk,1<=q/\q<=(i:Int):=fun q hq=>yl ho (by rw [g3];exact hq)
   have hkm:∀ j,j < 32->(arr x.mp x.kk).getD j 0 ≠ 0->(arr x.mp x.kk).getD j 0 ∈ x.kk:=fun j h1 h2=>by
    have h3:(j,(arr x.mp x.kk).getD j 0) ∈ kds x:=by unfold kds;exact List.mem_map.2 ⟨j,mem_ps.2 ⟨h1,h2⟩,rfl⟩
    have h4:=List.mem_map_of_mem (f:=fun e:Nat × Int=>e.2) h3
    rw [g1] at h4
    exact h4
   have ha:=Y7 x.mp x.kk
   clear n5 n1 n2 m1 m2 m3 m4 g1 g2 g3 g4 g5 g7 ho hCe hix hix' hmay
   obtain ⟨kn,ke,va,mp,kk,mn,ls,sz,bi⟩:=x
   dsimp only at *
   subst k1
   have hnB:=form2 ke va mp kk mn ls sz bi m5 hform
   have c72:PC Tryz.prog G 72 [nV 2 ke va (mp:Int) kk mn ls sz bi] (bV (arr mp kk) sz bi):=by
    rw [hnB]
    exact of7 G (arr mp kk) sz bi ha (by rw [<- hnB];exact c84)
   clear hnB c84 hform
   generalize arr mp kk=a at *
   have hBsz:=fun (q:Int) (e:Pr) (he:e ∈ B h q)=>bl_sz hx he
   by_cases hlt:lv < lvN b
   ·rw [decide_eq_true hlt, Bool.true_and] at hrr
    by_cases hs:sz=0\/sz=((B h r).length:Int)
    ·rw [decide_eq_true hs, Bool.true_and] at hrr
     generalize hL:B h r=L at *
     have key:∀ (R:Bool),R=(ps a 32).all (fun j=>KO h b n lv j (a.getD j 0))->PC Tryz.prog G 46 [.sl 9 (h.map nA),I r,I (lv:Int),I b] (Bo R):=by
      intro R hR
      clear hrr hL
      have hLl:L.length<=40000000:=by omega
      have hcs:sz=0\/(¬ sz=0/\sz=((L.length:Nat):Int)):=by omega
      clear hs
      refine zA Yr ?_
      rcases hcs with hs1|⟨hs0,hs1⟩
      all_goals
       repeat' ((conv=>whnf);first|(refine SeqP.go ?_)|((with_reducible refine (?_:oK _ _ _ _));(refine oK_all (by simp [ha,AV.cells]) ?_))|((refine ObD.mk ?_ ?_);(focus (simp only [bC_cl,bC_fine,List.length_set,ha];rfl)))|((refine ObD.mk ?_ ?_);(focus (first|rfl|(simp [ha,AV.cells,AV.fine,AV.one,iA];done))))|((refine ObN.mk ?_ ?_);(exact w9))|(with_reducible first|refine ObT.tt ?_|refine ObT.ff ?_)|((refine ObB.yes ?_ ?_);exact zB)|((refine ObB.no ?_ ?_);exact zC)|((with_reducible refine ObI.mk _ rfl ?_ ?_ ?_);omega;omega)|((with_reducible refine ObX.int ?_ ?_ ?_);(exact xC);(exact xC))|((with_reducible refine (?_:ObL _ _));(refine ObL.mk _ zM ?_))|((with_reducible refine (?_:ObU _ _));(refine ObU.mk _ zq1 ?_))|((with_reducible refine (?_:ObR _ _ _));(first|(refine ObR.mk _ zG ?_)|(refine ObR.map xC (fun x hx=>?_))|(refine ObR.mk _ rfl ?_)))|((refine ObC.f 64 ?_);(refine ObC.mk _ (c64) ?_))|((refine ObC.f 18 ?_);(refine ObC.mk _ (c18) ?_))|((refine ObC.f 72 ?_);(refine ObC.mk _ (c72) ?_)))
       conv=>whnf
       refine LoopP.go (α:=Nat) (fun j=>j<=32/\∀ k,k < j->a.getD k 0 ≠ 0->KO h b n lv k (a.getD k 0)=true) (fun j=>32 - j) (fun j=>[(8,none),(2,some (I j)),(0,none),(0,none),(49,none),(0,none),(0,none),(0,none),(0,none),(0,none),(0,none),(0,none),(0,none),(0,none),(0,none),(0,none),(0,none),(0,none),(0,none),(0,none),(0,none),(0,none),(0,none),(0,none),(0,none),(0,none),(0,none),(0,none),(0,none),(0,none),(0,none),(0,none),(0,none),(0,none),(0,none),(0,none),(0,none),(0,none),(0,none),(0,none),(0,none),(0,none),(0,none),(0,none),(0,none),(0,none),(0,none),(0,none),(0,none),(0,none),(0,none),(0,none)]) (fun j=>[⟨57,9,[nV 2 ke va (mp:Int) kk mn ls sz bi],0,0⟩,⟨111,34,[.agg (bC a sz bi)],0,0⟩]) 0 ⟨Nat.zero_le _,fun k hk=>by omega⟩ (Fg.go ?_ rfl) ?_
       ·repeat' ((conv=>whnf);first|((refine ObEqs.mk ?_ ?_);rfl)|((with_reducible refine ObEq1.i ?_ ?_);exact zF)|exact True.intro)
       rintro j ⟨hj,hall⟩
       by_cases hj32:j < 32
       ·have hkj := hkm j hj32
        have eat:(bC a sz bi)[j]? = some (I (a.getD j 0)):=bC_at ha hj32
        by_cases hz0:a.getD j 0=0
        ·have hall' : ∀ k, k < j + 1 -> a.getD k 0 ≠ 0 -> KO h b n lv k (a.getD k 0) = true := fun k hk hne => by
          rcases Nat.lt_or_eq_of_le (Nat.lt_succ_iff.1 hk) with hk|rfl
          ·exact hall k hk hne
          ·exact absurd hz0 hne
         generalize a.getD j 0=q at *
         repeat' ((conv=>whnf);first|(refine SeqP.go ?_)|((with_reducible refine (?_:nK _ _ _));(refine nK_to j ?_ eat ?_);omega)|((refine ObN.mk ?_ ?_);(exact w9))|(refine ObT.tt ?_)|((refine ObB.yes ?_ ?_);exact zB)|((with_reducible refine ObI.nl ?_ ?_);omega)|((refine ObX.mk _ rfl ?_ ?_);(exact xC))|((with_reducible refine (?_:ObR _ _ _));(first|(refine ObR.mk _ zG ?_)|(refine ObR.map xC (fun x hx=>?_))|(refine ObR.mk _ rfl ?_))))
         conv=>whnf
         refine Again.mk (j+1) ⟨by omega,hall'⟩ (by omega) (Fg.go ?_ rfl)
         repeat' ((conv=>whnf);first|((refine ObEqs.mk ?_ ?_);rfl)|((with_reducible refine ObEq1.i ?_ ?_);exact zF)|exact True.intro)
        ·have hq1 := hkC _ (hkj hz0)
         have hq2:=hkb _ (hkj hz0)
         have c18q:=dbinds G h hl hx hh h.length (a.getD j 0) (by omega) (by omega) (by omega) hq1
         have hlq:=Xy hx (r:=a.getD j 0)
         have hsq:=hBsz (a.getD j 0)
         have c46:=ih (a.getD j 0) (lv+1) (dl h b n (a.getD j 0) (lv+1)) (by omega) (by omega) (by omega) (by omega) hq1 (by rw [decide_eq_false hz0,Bool.false_or])
         have hKO:KO h b n lv j (a.getD j 0)=((B h (a.getD j 0)).all (fun q=>decide (cN b (lv:Int) q.1=j)) && decide (B h (a.getD j 0) ≠ []) && dl h b n (a.getD j 0) (lv+1)):=rfl
         have hfl:KO h b n lv j (a.getD j 0)=false->R=false:=fun e=>by
          rw [hR,List.all_eq_false]
          exact ⟨j,mem_ps.2 ⟨hj32,hz0⟩,by rw [e];simp⟩
         have hall':KO h b n lv j (a.getD j 0)=true->∀ k,k < j+1->a.getD k 0 ≠ 0->KO h b n lv k (a.getD k 0)=true:=fun e k hk hne=>by
          rcases Nat.lt_or_eq_of_le (Nat.lt_succ_iff.1 hk) with hk|rfl
          ·exact hall k hk hne
          ·exact e
         generalize KO h b n lv j (a.getD j 0)=ko at *
         generalize dl h b n (a.getD j 0) (lv+1)=dd at *
         generalize B h (a.getD j 0)=K at *
         generalize a.getD j 0=q at *
         have hK1:K.length<=40000000:=by omega
         repeat' ((conv=>whnf);first|(refine SeqP.go ?_)|((with_reducible refine (?_:nK _ _ _));(refine nK_to j ?_ eat ?_);omega)|((refine ObN.mk ?_ ?_);(exact w9))|(with_reducible first|refine ObT.tt ?_|refine ObT.ff ?_)|((refine ObB.yes ?_ ?_);exact zB)|((refine ObB.no ?_ ?_);exact zC)|((refine ObX.mk _ rfl ?_ ?_);(exact xC))|((with_reducible refine (?_:ObR _ _ _));(first|(refine ObR.mk _ zG ?_)|(refine ObR.map xC (fun x hx=>?_))|(refine ObR.mk _ rfl ?_)))|((refine ObC.f 18 ?_);(refine ObC.mk _ (c18q) ?_)))
         conv=>whnf
         refine LoopP.go (α:=Nat) (fun k=>k<=K.length/\∀ e ∈ K.take k,cN b (lv:Int) e.1=j) (fun k=>K.length - k) (fun k=>[(8,none),(4,some (I k)),(64,none),(0,none),(0,none),(0,none),(0,none),(0,none),(0,none),(0,none),(0,none),(0,none),(0,none),(0,none),(0,none),(0,none),(0,none),(0,none),(0,none),(0,none)]) (fun k=>[⟨57,9,[nV 2 ke va (mp:Int) kk mn ls sz bi],0,0⟩,⟨111,34,[.agg (bC a sz bi)],0,0⟩]) 0 ⟨Nat.zero_le _,by simp⟩ (Fg.go ?_ rfl) ?_
         ·repeat' ((conv=>whnf);first|((refine ObEqs.mk ?_ ?_);rfl)|((with_reducible refine ObEq1.i ?_ ?_);exact zF)|exact True.intro)
         rintro k ⟨hk,hke⟩
         by_cases hkl:k < K.length
         ·have hat := zH hkl
          have hmem:=List.getElem_mem hkl
          have hsz:=hsq _ hmem
          have htk:K.take (k+1)=K.take k++[K[k]]:=List.take_succ_eq_append_getElem hkl
          generalize K[k]=e at *
          have c39:=of39 G e.1 b hsz hb
          have c65:PC Tryz.prog G 65 [.v (.int .u64 ((hN e.1 b:Nat):Int)),I (lv:Int),I b] (I (cN b (lv:Int) e.1:Nat)):=ch65 G _ lv b (yX _ _) (by unfold i64;omega) hb
          have hlt:=yX e.1 b
          generalize hN e.1 b=X at *
          by_cases hc:cN b (lv:Int) e.1=j
          ·rw [hc] at c65
           repeat' ((conv=>whnf);first|(refine SeqP.go ?_)|((refine ObN.mk ?_ ?_);exact zN)|(with_reducible first|refine ObT.tt ?_|refine ObT.ff ?_)|((refine ObB.yes ?_ ?_);exact zB)|((with_reducible refine ObI.nl ?_ ?_);omega)|((refine ObX.mk _ rfl ?_ ?_);exact zX)|((with_reducible refine (?_:ObL _ _));(refine ObL.mk _ zM ?_))|((with_reducible refine (?_:ObR _ _ _));(first|(refine ObR.mk _ zG ?_)|(refine ObR.map zX (fun x hx=>?_))|(refine ObR.mk _ rfl ?_)))|((refine ObC.f 39 ?_);(refine ObC.mk _ (c39) ?_))|((refine ObC.f 65 ?_);(refine ObC.mk _ (c65) ?_)))
           conv=>whnf
           refine Again.mk (k+1) ⟨by omega,fun e' he'=>?_⟩ (by omega) (Fg.go ?_ rfl)
           ·rw [htk] at he'
            rcases List.mem_append.1 he' with h|h
            ·exact hke e' h
            ·rw [List.mem_singleton.1 h];exact hc
           repeat' ((conv=>whnf);first|((refine ObEqs.mk ?_ ?_);rfl)|((with_reducible refine ObEq1.i ?_ ?_);exact zF)|exact True.intro)
          ·have hf:K.all (fun q=>decide (cN b (lv:Int) q.1=j))=false:=List.all_eq_false.2 ⟨e,hmem,by simpa using hc⟩
           rw [hf,Bool.false_and,Bool.false_and] at hKO
           obtain rfl:=hfl hKO
           have hc':¬ ((cN b (lv:Int) e.1:Nat):Int)=(j:Int):=by omega
           generalize cN b (lv:Int) e.1=d at *
           repeat' ((conv=>whnf);first|(refine SeqP.go ?_)|((refine ObN.mk ?_ ?_);exact zN)|(refine ObT.tt ?_)|((refine ObB.yes ?_ ?_);exact zB)|((refine ObB.no ?_ ?_);exact zC)|((refine ObX.mk _ rfl ?_ ?_);exact zX)|((with_reducible refine (?_:ObL _ _));(refine ObL.mk _ zM ?_))|((with_reducible refine (?_:ObR _ _ _));(first|(refine ObR.mk _ zG ?_)|(refine ObR.map zX (fun x hx=>?_))|(refine ObR.mk _ rfl ?_)))|((refine ObC.f 39 ?_);(refine ObC.mk _ (c39) ?_))|((refine ObC.f 65 ?_);(refine ObC.mk _ (c65) ?_))|((refine ObEq.mk ?_);exact zE))
         ·obtain rfl : k = K.length := by omega
          rw [List.take_length] at hke
          have hf:K.all (fun q=>decide (cN b (lv:Int) q.1=j))=true:=List.all_eq_true.2 fun e he=>by simpa using hke e he
          rw [hf,Bool.true_and] at hKO
          by_cases hK0:K.length=0
          ·have hK0' : K = [] := List.length_eq_zero_iff.1 hK0
           rw [decide_eq_false (by rw [hK0'];simp),Bool.false_and] at hKO
           obtain rfl:=hfl hKO
           repeat' ((conv=>whnf);first|(refine SeqP.go ?_)|((refine ObN.mk ?_ ?_);(exact w9))|(with_reducible first|refine ObT.tt ?_|refine ObT.ff ?_)|((refine ObB.yes ?_ ?_);exact zB)|((refine ObB.no ?_ ?_);exact zC)|((with_reducible refine (?_:ObL _ _));(refine ObL.mk _ zM ?_))|((refine ObEq.mk ?_);exact zE))
          ·have hK0':K ≠ []:=fun e=>hK0 (by rw [e];rfl)
           rw [decide_eq_true hK0',Bool.true_and] at hKO
           have hlvc:((lv+1:Nat):Int)=(lv:Int)+1:=by omega
           rw [hlvc] at c46
           cases dd with
           | false =>
            obtain rfl:=hfl hKO
            repeat' ((conv=>whnf);first|(refine SeqP.go ?_)|((with_reducible refine (?_:nK _ _ _));(refine nK_to j ?_ eat ?_);omega)|((refine ObN.mk ?_ ?_);(exact w9))|(with_reducible first|refine ObT.tt ?_|refine ObT.ff ?_)|((refine ObB.no ?_ ?_);exact zC)|((with_reducible refine ObI.nl ?_ ?_);omega)|((refine ObX.mk _ rfl ?_ ?_);(exact xC))|((with_reducible refine (?_:ObL _ _));(refine ObL.mk _ zM ?_))|((with_reducible refine (?_:ObR _ _ _));(first|(refine ObR.mk _ zG ?_)|(refine ObR.map xC (fun x hx=>?_))|(refine ObR.mk _ rfl ?_)))|((refine ObC.f 46 ?_);(refine ObC.mk _ (c46) ?_))|((refine ObEq.mk ?_);exact zE))
           | true =>
            repeat' ((conv=>whnf);first|(refine SeqP.go ?_)|((with_reducible refine (?_:nK _ _ _));(refine nK_to j ?_ eat ?_);omega)|((refine ObN.mk ?_ ?_);(exact w9))|(with_reducible first|refine ObT.tt ?_|refine ObT.ff ?_)|((refine ObB.no ?_ ?_);exact zC)|((with_reducible refine ObI.nl ?_ ?_);omega)|((refine ObX.mk _ rfl ?_ ?_);(exact xC))|((with_reducible refine (?_:ObL _ _));(refine ObL.mk _ zM ?_))|((with_reducible refine (?_:ObR _ _ _));(first|(refine ObR.mk _ zG ?_)|(refine ObR.map xC (fun x hx=>?_))|(refine ObR.mk _ rfl ?_)))|((refine ObC.f 46 ?_);(refine ObC.mk _ (c46) ?_)))
            conv=>whnf
            refine Again.mk (j+1) ⟨by omega,hall' hKO⟩ (by omega) (Fg.go ?_ rfl)
            repeat' ((conv=>whnf);first|((refine ObEqs.mk ?_ ?_);rfl)|((with_reducible refine ObEq1.i ?_ ?_);exact zF)|exact True.intro)
       ·obtain rfl : j = 32 := by omega
        obtain rfl:R=true:=by
         rw [hR,List.all_eq_true]
         intro k hk
         exact hall k (mem_ps.1 hk).1 (mem_ps.1 hk).2
        repeat' ((conv=>whnf);first|(refine SeqP.go ?_)|((refine ObN.mk ?_ ?_);exact zN)|(refine ObT.ff ?_)|((refine ObB.no ?_ ?_);exact zC)|((refine ObEq.mk ?_);exact zE))
     exact key rr hrr
    ·rw [decide_eq_false hs, Bool.false_and] at hrr
     subst hrr
     have hs1:¬ sz=0:=fun e=>hs (.inl e)
     have hs2:¬ sz=((B h r).length:Int):=fun e=>hs (.inr e)
     generalize B h r=L at *
     refine zA Yr ?_
     repeat' ((conv=>whnf);first|(refine SeqP.go ?_)|((refine ObD.mk ?_ ?_);exact zD)|((refine ObN.mk ?_ ?_);exact zN)|(with_reducible first|refine ObT.tt ?_|refine ObT.ff ?_)|((refine ObB.yes ?_ ?_);exact zB)|((refine ObB.no ?_ ?_);exact zC)|((with_reducible refine ObI.mk _ rfl ?_ ?_ ?_);omega;omega)|((with_reducible refine ObX.int ?_ ?_ ?_);exact zX;exact zX)|((with_reducible refine (?_:ObL _ _));(refine ObL.mk _ zM ?_))|((with_reducible refine (?_:ObU _ _));(refine ObU.mk _ zU ?_))|((with_reducible refine (?_:ObR _ _ _));(first|(refine ObR.mk _ zG ?_)|(refine ObR.map zX (fun x hx=>?_))|(refine ObR.mk _ rfl ?_)))|((refine ObC.f 64 ?_);(refine ObC.mk _ (c64) ?_))|((refine ObC.f 18 ?_);(refine ObC.mk _ (c18) ?_))|((refine ObEq.mk ?_);exact zE))
   ·rw [decide_eq_false hlt, Bool.false_and, Bool.false_and] at hrr
    subst hrr
    refine zA Yr ?_
    repeat' ((conv=>whnf);first|(refine SeqP.go ?_)|((refine ObD.mk ?_ ?_);exact zD)|((refine ObN.mk ?_ ?_);exact zN)|(with_reducible first|refine ObT.tt ?_|refine ObT.ff ?_)|((refine ObB.yes ?_ ?_);exact zB)|((refine ObB.no ?_ ?_);exact zC)|((with_reducible refine ObI.mk _ rfl ?_ ?_ ?_);omega;omega)|((with_reducible refine ObX.int ?_ ?_ ?_);exact zX;exact zX)|((with_reducible refine (?_:ObU _ _));(refine ObU.mk _ zU ?_))|((with_reducible refine (?_:ObR _ _ _));(first|(refine ObR.mk _ zG ?_)|(refine ObR.map zX (fun x hx=>?_))|(refine ObR.mk _ rfl ?_)))|((refine ObC.f 64 ?_);(refine ObC.mk _ (c64) ?_))|((refine ObEq.mk ?_);exact zE))
  ·rw [if_neg (by omega), if_pos k1] at hrr
   by_cases hlt:lvN b<=lv
   ·rw [decide_eq_true hlt] at hrr
    subst hrr
    refine zA Yr ?_
    repeat' ((conv=>whnf);first|(refine SeqP.go ?_)|((refine ObD.mk ?_ ?_);(focus (first|rfl|(simp [k1];done))))|((refine ObN.mk ?_ ?_);(exact yI))|(with_reducible first|refine ObT.tt ?_|refine ObT.ff ?_)|((refine ObB.yes ?_ ?_);exact zB)|((refine ObB.no ?_ ?_);exact zC)|((with_reducible refine ObI.mk _ rfl ?_ ?_ ?_);omega;omega)|((with_reducible refine ObX.int ?_ ?_ ?_);(exact ZO);(exact ZO))|((with_reducible refine (?_:ObU _ _));(refine ObU.mk _ zq9 ?_))|((with_reducible refine (?_:ObR _ _ _));(first|(refine ObR.mk _ zG ?_)|(refine ObR.map ZO (fun x hx=>?_))|(refine ObR.mk _ rfl ?_)))|((refine ObC.f 64 ?_);(refine ObC.mk _ (c64) ?_))|((refine ObEq.mk ?_);exact zE))
   ·rw [decide_eq_false hlt] at hrr
    subst hrr
    refine zA Yr ?_
    repeat' ((conv=>whnf);first|(refine SeqP.go ?_)|((refine ObD.mk ?_ ?_);(focus (first|rfl|(simp [k1];done))))|((refine ObN.mk ?_ ?_);(exact yI))|(with_reducible first|refine ObT.tt ?_|refine ObT.ff ?_)|((refine ObB.yes ?_ ?_);exact zB)|((refine ObB.no ?_ ?_);exact zC)|((with_reducible refine ObI.mk _ rfl ?_ ?_ ?_);omega;omega)|((with_reducible refine ObX.int ?_ ?_ ?_);(exact ZO);(exact ZO))|((with_reducible refine (?_:ObU _ _));(refine ObU.mk _ zq9 ?_))|((with_reducible refine (?_:ObR _ _ _));(first|(refine ObR.mk _ zG ?_)|(refine ObR.map ZO (fun x hx=>?_))|(refine ObR.mk _ rfl ?_)))|((refine ObC.f 64 ?_);(refine ObC.mk _ (c64) ?_))|((refine ObEq.mk ?_);exact zE))
  ·rw [if_neg (by omega), if_neg (by omega), if_neg (by omega), decide_eq_false (by omega)] at hrr
   subst hrr
   refine zA Yr ?_
   repeat' ((conv=>whnf);first|(refine SeqP.go ?_)|((refine ObD.mk ?_ ?_);(focus (first|rfl|(simp [k1];done))))|((refine ObN.mk ?_ ?_);(exact yI))|(with_reducible first|refine ObT.tt ?_|refine ObT.ff ?_)|((refine ObB.yes ?_ ?_);exact zB)|((refine ObB.no ?_ ?_);exact zC)|((with_reducible refine ObI.mk _ rfl ?_ ?_ ?_);omega;omega)|((with_reducible refine ObX.int ?_ ?_ ?_);(exact ZO);(exact ZO))|((with_reducible refine (?_:ObU _ _));(refine ObU.mk _ zq9 ?_))|((with_reducible refine (?_:ObR _ _ _));(first|(refine ObR.mk _ zG ?_)|(refine ObR.map ZO (fun x hx=>?_))|(refine ObR.mk _ rfl ?_)))|((refine ObEq.mk ?_);exact zE))
  ·rw [if_pos k1] at hrr
   obtain ⟨m1,m2,m3⟩:=n5 k1
   obtain ⟨f1,_⟩:=in_of ho k1
   rw [if_neg (by omega),f1] at hCe
   simp only [List.map_cons,List.map_nil,List.sum_cons,List.sum_nil] at hCe
   have c46:=ih x.mn lv rr h0 (by omega) (by omega) (by omega) (by omega) (by rw [hrr,decide_eq_false (by omega),Bool.false_or])
   refine zA Yr ?_
   repeat' ((conv=>whnf);first|(refine SeqP.go ?_)|((refine ObD.mk ?_ ?_);(focus (first|rfl|(simp [k1];done))))|((refine ObN.mk ?_ ?_);(exact yI))|(with_reducible first|refine ObT.tt ?_|refine ObT.ff ?_)|((refine ObB.yes ?_ ?_);exact zB)|((refine ObB.no ?_ ?_);exact zC)|((with_reducible refine ObI.mk _ rfl ?_ ?_ ?_);omega;omega)|((with_reducible refine ObX.int ?_ ?_ ?_);(exact ZO);(exact ZO))|((with_reducible refine (?_:ObU _ _));(refine ObU.mk _ zq9 ?_))|((with_reducible refine (?_:ObR _ _ _));(first|(refine ObR.mk _ zG ?_)|(refine ObR.map ZO (fun x hx=>?_))|(refine ObR.mk _ rfl ?_)))|((refine ObC.f 46 ?_);(refine ObC.mk _ (c46) ?_))|((refine ObEq.mk ?_);exact zE))
  ·rw [if_neg (by omega), if_neg (by omega), if_neg (by omega), decide_eq_true (by omega)] at hrr
   subst hrr
   refine zA Yr ?_
   repeat' ((conv=>whnf);first|(refine SeqP.go ?_)|((refine ObD.mk ?_ ?_);(focus (first|rfl|(simp [k1];done))))|((refine ObN.mk ?_ ?_);(exact yI))|(with_reducible first|refine ObT.tt ?_|refine ObT.ff ?_)|((refine ObB.no ?_ ?_);exact zC)|((with_reducible refine ObI.mk _ rfl ?_ ?_ ?_);omega;omega)|((with_reducible refine ObX.int ?_ ?_ ?_);(exact ZO);(exact ZO))|((with_reducible refine (?_:ObU _ _));(refine ObU.mk _ zq9 ?_))|((with_reducible refine (?_:ObR _ _ _));(first|(refine ObR.mk _ zG ?_)|(refine ObR.map ZO (fun x hx=>?_))|(refine ObR.mk _ rfl ?_)))|((refine ObEq.mk ?_);exact zE))
end
section
variable (G:Nat->AV)
end
def rfs (h:List Nd) (k:Int):List Int:=match h[(k - 1).toNat]? with|some x=>rfN x|none=>[]
inductive Rch (h:List Nd) (r:Int):Int->Prop
 | base (h0:0 < r):Rch h r r
 | step {k c:Int} (hk:Rch h r k) (hc:c ∈ rfs h k):Rch h r c
theorem Rch.trans {h:List Nd} {r k c:Int} (h1:Rch h r k) (h2:Rch h k c):Rch h r c:=by
 induction h2 with
 | base _=>exact h1
 | step _ hc ih=>exact .step ih hc
theorem xg {h:List Nd} (hh:aH h h.length=true) {k c:Int} (hc:c ∈ rfs h k):1<=c/\(0 < k->c < k)/\c < (h.length:Int):=by
 unfold rfs at hc
 rcases Nat.lt_or_ge (k - 1).toNat h.length with hi|hi
 ·rw [List.getElem?_eq_getElem hi] at hc
  have:=yl (yN hh hi) hc
  omega
 ·rw [List.getElem?_eq_none hi] at hc;cases hc
theorem Rch.bd {h:List Nd} (hh:aH h h.length=true) {r k:Int} (hk:Rch h r k):0 < k/\k<=r:=by
 induction hk with
 | base h0=>omega
 | step _ hc ih=>have:=xg hh hc;omega
noncomputable def rc (h:List Nd) (r k:Int):Bool:=@decide (Rch h r k) (Classical.propDecidable _)
theorem rc_iff {h:List Nd} {r k:Int}:rc h r k=true↔Rch h r k:=by simp [rc]
noncomputable def rl (h:List Nd) (r:Int):Nat->List Int
 | 0=>[]
 | n+1=>(if rc h r ((n:Int)+1) then [(n:Int)+1] else [])++rl h r n
noncomputable def rp (h:List Nd) (r:Int) (n:Nat):Nat->List Int
 | 0=>[]
 | j+1=>rp h r n j++(if rc h r ((n:Int) - j) then [(n:Int) - j] else [])
theorem rp_all {h:List Nd} {r:Int}:∀ {n j:Nat},j<=n->rp h r n j++rl h r (n - j)=rl h r n:=by
 intro n j
 induction j with
 | zero=>intro _;simp [rp]
 | succ j ih =>
  intro hj
  rw [<- ih (by omega),rp,List.append_assoc]
  congr 1
  have e:n - j=(n - (j+1))+1:=by omega
  have e2:((n - (j+1):Nat):Int)+1=(n:Int) - j:=by omega
  rw [e,rl,e2]
theorem rp_end {h:List Nd} {r:Int} {n:Nat}:rp h r n n=rl h r n:=by
 have:=rp_all (h:=h) (r:=r) (Nat.le_refl n)
 rw [Nat.sub_self] at this
 simpa [rl] using this
theorem rp_len {h:List Nd} {r:Int} {n:Nat}:∀ {j:Nat},(rp h r n j).length<=j:=by
 intro j
 induction j with
 | zero=>simp [rp]
 | succ j ih=>rw [rp,List.length_append];split<;>simp<;>omega
def mk (h:List Nd):Nat->Int->List Bool->List Bool
 | 0,_,a=>a
 | n+1,r,a=>if r<=0\/a.getD (r - 1).toNat true=true then a else (rfs h r).foldl (fun a k=>mk h n k a) (a.set (r - 1).toNat true)
theorem mk_len {h:List Nd}:∀ {n:Nat} {r:Int} {a:List Bool},(mk h n r a).length=a.length:=by
 intro n
 induction n with
 | zero=>intro r a;rfl
 | succ n ih =>
  intro r a
  rw [mk];split
  ·rfl
  ·have key : ∀ (l : List Int) (a : List Bool), (l.foldl (fun a k => mk h n k a) a).length = a.length := by
    intro l
    induction l with
    | nil=>intro a;rfl
    | cons x t iht=>intro a;rw [List.foldl_cons,iht,ih]
   rw [key,List.length_set]
abbrev on (a:List Bool) (r:Int):Prop:=a.getD (r - 1).toNat false=true
structure MkS (h:List Nd) (a b:List Bool) (rs:List Int):Prop where
 mono:∀ k:Int,0 < k->on a k->on b k
 only:∀ k:Int,0 < k->on b k->on a k\/∃ r ∈ rs,Rch h r k
 clos:∀ k:Int,0 < k->on b k->¬ on a k->∀ c ∈ rfs h k,on b c
 all:∀ r ∈ rs,on b r
theorem fold_snoc {h:List Nd} {n:Nat} {l:List Int} {a:List Bool} {k:Nat} (hk:k < l.length):(l.take (k+1)).foldl (fun a k=>mk h n k a) a=mk h n l[k] ((l.take k).foldl (fun a k=>mk h n k a) a):=by
 rw [List.take_succ_eq_append_getElem hk,List.foldl_append];rfl
section
variable (G:Nat->AV)
end
abbrev hsAx22:List FuncId:=[22,23,24,25,26,27,28,29,31,43,47,48,54,55,56,58,68,69,77,106,111,122,123,125,126,127,128,129]
def rA42:=rdT (x:=XN Tryz.prog hsAx22 42)
def A42:AF:=rA42.1
theorem cop42:XN Tryz.prog hsAx22 42=some A42:=rA42.2
abbrev fon (F:List Bool) (k:Int):Prop:=F.getD k.toNat false=true
def stL (F:List Bool) (l:List Int):List Bool:=l.foldl (fun F c=>F.set c.toNat true) F
theorem XU (l:List Int) (F:List Bool):(stL F l).length=F.length:=by
 induction l generalizing F with
 | nil=>rfl
 | cons x t ih=>show (stL (F.set x.toNat true) t).length=_;rw [ih,List.length_set]
theorem stL_snoc {F:List Bool} {l:List Int} {k:Nat} (hk:k < l.length):stL F (l.take (k+1))=(stL F (l.take k)).set (l[k]).toNat true:=by
 rw [List.take_succ_eq_append_getElem hk,stL,List.foldl_append];rfl
theorem stL_on {l:List Int}:∀ {F:List Bool} {k:Int},0<=k->(∀ c ∈ l,0<=c/\c.toNat < F.length)->(fon (stL F l) k↔fon F k\/k ∈ l):=by
 induction l with
 | nil=>intro F k _ _;simp [stL]
 | cons x t ih =>
  intro F k hk hc
  have e:stL F (x::t)=stL (F.set x.toNat true) t:=rfl
  obtain ⟨x0,x1⟩:=hc x (List.mem_cons_self ..)
  rw [e,ih hk fun c hc'=>by rw [List.length_set];exact hc c (List.mem_cons_of_mem _ hc')]
  have:fon (F.set x.toNat true) k↔fon F k\/k=x:=by
   unfold fon
   rw [List.getD_eq_getElem?_getD,List.getD_eq_getElem?_getD]
   by_cases h:k=x
   ·subst h;rw [List.getElem?_set_self x1];simp
   ·rw [List.getElem?_set_ne (by omega)];simp [h]
  rw [this,List.mem_cons,or_assoc]
structure Dj (h:List Nd) (n j:Nat) (F:List Bool) (o:List Int):Prop where
 len:F.length=n+1
 only:∀ k:Int,0 < k->k<=(n:Int)->fon F k->Rch h (n:Int) k
 top:fon F (n:Int)
 clos:∀ k:Int,(n:Int) - j < k->k<=(n:Int)->fon F k->∀ c ∈ rfs h k,fon F c
 out:o=rp h (n:Int) n j
theorem Dj.all {h:List Nd} (hh:aH h h.length=true) {n j:Nat} {F:List Bool} {o:List Int} (hd:Dj h n j F o) {k:Int} (hk:Rch h (n:Int) k):(n:Int) - j<=k->fon F k:=by
 induction hk with
 | base _=>intro _;exact hd.top
 | step hkk hc ih =>
  intro hc2
  have h1:=hkk.bd hh
  have h2:=(xg hh hc).2.1 h1.1
  exact hd.clos _ (by omega) h1.2 (ih (by omega)) _ hc
theorem Dj.at_ {h:List Nd} (hh:aH h h.length=true) {n j:Nat} {F:List Bool} {o:List Int} (hd:Dj h n j F o) (hj:j < n):F[((n:Int) - j).toNat]? = some (rc h (n:Int) ((n:Int) - j)):=by
 have hl:=hd.len
 rw [List.getElem?_eq_getElem (by omega)]
 congr 1
 rw [Bool.eq_iff_iff,rc_iff]
 have e:fon F ((n:Int) - j)↔F[((n:Int) - j).toNat]=true:=by
  unfold fon;rw [List.getD_eq_getElem?_getD,List.getElem?_eq_getElem (by omega),Option.getD_some]
 rw [<- e]
 exact ⟨hd.only _ (by omega) (by omega),fun h=>hd.all hh h (by omega)⟩
theorem Dj.no {h:List Nd} {n j:Nat} {F:List Bool} {o:List Int} (hd:Dj h n j F o) (hj:j < n) (hc:F[((n:Int) - j).toNat]? = some false) (hr:rc h (n:Int) ((n:Int) - j)=false):Dj h n (j+1) F o:=by
 refine ⟨hd.len,hd.only,hd.top,fun k h1 h2 hf c hcc=>?_,by rw [rp,hr,<- hd.out];simp⟩
 by_cases e:k=(n:Int) - j
 ·subst e
  unfold fon at hf
  rw [List.getD_eq_getElem?_getD,hc] at hf;cases hf
 ·exact hd.clos k (by omega) h2 hf c hcc
theorem Dj.yes {h:List Nd} (hh:aH h h.length=true) {n j:Nat} {F:List Bool} {o:List Int} (hd:Dj h n j F o) (hj:j < n) (hr:rc h (n:Int) ((n:Int) - j)=true):Dj h n (j+1) (stL F (rfs h ((n:Int) - j))) (o++[(n:Int) - j]):=by
 have hl:=hd.len
 have hb:∀ c ∈ rfs h ((n:Int) - j),0<=c/\c.toNat < F.length:=fun c hc=>by
  have:=xg hh hc
  have:=this.2.1 (by omega)
  omega
 have hon:∀ {k:Int},0<=k->(fon (stL F (rfs h ((n:Int) - j))) k↔fon F k\/k ∈ rfs h ((n:Int) - j)):=fun hk=>stL_on hk hb
 refine ⟨by rw [XU,hl],fun k h1 h2 hf=>?_,(hon (by omega)).2 (.inl hd.top),fun k h1 h2 hf c hcc=>?_,by rw [rp,hr,<- hd.out];simp⟩
 ·rcases (hon (by omega)).1 hf with h | h
  ·exact hd.only k h1 h2 h
  ·exact .step (rc_iff.1 hr) h
 ·have hc0 := (xg hh hcc).1
  refine (hon (by omega)).2 ?_
  by_cases e:k=(n:Int) - j
  ·subst e;exact .inr hcc
  ·refine .inl (hd.clos k (by omega) h2 ?_ c hcc)
   rcases (hon (by omega)).1 hf with h|h
   ·exact h
   ·have:=(xg hh h).2.1 (by omega);omega
section
variable (G:Nat->AV)
set_option maxHeartbeats 8000000 in
theorem desc31 (h:List Nd) (hl:h.length<=1000) (hx:∀ x ∈ h,x.Ok) (hh:aH h h.length=true) (n:Nat) (hn:n<=h.length):PC Tryz.prog G 81 [.sl 9 (h.map nA),I n] (.sl 1 ((rl h (n:Int) n).map iA)):=by
 have ur:List.replicate (n+1) (AV.v (.bool false))=(List.replicate (n+1) false).map bA:=bA_rep
 have us:((List.replicate (n+1) false).map bA).set n (.v (.bool true))=((List.replicate (n+1) false).set n true).map bA:=bA_set
 obtain ⟨F0,hF0⟩:∃ F0,F0=(List.replicate (n+1) false).set n true:=⟨_,rfl⟩
 have hD0:Dj h n 0 F0 []:=by
  have hon:∀ k:Int,0<=k->(fon F0 k->k=(n:Int)):=fun k hk hf=>by
   unfold fon at hf
   rw [hF0,List.getD_eq_getElem?_getD] at hf
   by_cases e:k=(n:Int)
   ·exact e
   ·rw [List.getElem?_set_ne (by omega), List.getElem?_replicate] at hf
    split at hf<;>simp at hf
  refine ⟨by rw [hF0];simp,fun k h1 h2 hf=>by obtain rfl:=hon k (by omega) hf;exact .base h1,?_,fun k h1 h2=>by omega,rfl⟩
  unfold fon
  rw [hF0,List.getD_eq_getElem?_getD]
  simp
 rw [<- hF0] at us
 have r0:=X3 (List.replicate (n+1) false)
 have r1:=X3 F0
 have gz:((List.replicate (n+1) false).map bA)[n]? = some (.v (.bool false)):=bA_at (by rw [List.getElem?_replicate];simp)
 rw [<- rp_end]
 clear hF0
 refine zA cop81 ?_
 repeat' ((conv=>whnf);first|(refine SeqP.go ?_)|((refine ObD.mk ?_ ?_);exact zD)|((refine ObN.mk ?_ ?_);exact zN)|((with_reducible refine ObI.nl ?_ ?_);omega)|((refine ObX.mk _ rfl ?_ ?_);exact zX)|((with_reducible refine (?_:ObL _ _));(refine ObL.mk _ zM ?_))|((with_reducible refine (?_:ObU _ _));(refine ObU.mk _ (by first|exact ur|exact us|assumption|((conv=>lhs;simp only [List.set_cons_zero,List.set_cons_succ,List.take_succ_cons,List.take_zero,List.drop_succ_cons,List.drop_zero,List.nil_append,List.cons_append,List.append_nil,List.take_nil,List.drop_nil]);try rfl)|rfl) ?_))|((with_reducible refine (?_:ObR _ _ _));(first|(refine ObR.mk _ zG ?_)|(refine ObR.map zX (fun x hx=>?_))|(refine ObR.mk _ rfl ?_))))
 conv=>whnf
 refine LoopP.go (α:=Nat × List Bool × List Int) (fun p=>p.1<=n/\Dj h n p.1 p.2.1 p.2.2) (fun p=>n - p.1) (fun p=>[(5,some (rS 1 p.2.2)),(1,some (I ((n:Int) - p.1))),(1,none),(7,none),(0,none),(0,none),(0,none),(0,none),(0,none),(0,none),(0,none),(0,none),(0,none),(0,none),(0,none),(0,none),(0,none),(0,none),(0,none),(0,none),(0,none),(0,none),(0,none),(0,none),(0,none),(0,none),(0,none),(0,none),(0,none),(0,none),(0,none)]) (fun p=>[⟨4,1,p.2.1.map bA,0,0⟩]++rH p.2.2) (0,F0,[]) ⟨Nat.zero_le _,hD0⟩ (Fg.go ?_ rfl) ?_
 ·repeat' ((conv=>whnf);first|((refine ObEqs.mk ?_ ?_);rfl)|((with_reducible refine ObEq1.i ?_ ?_);exact zF)|((with_reducible refine ObEq1.mk ?_ ?_);exact zE)|exact True.intro)
 rintro ⟨j,F,o⟩ ⟨hj,hD⟩
 dsimp only at hj hD ⊢
 have hol:o.length<=j:=by rw [hD.out];exact rp_len
 have hFl:=hD.len
 have rb:=X3 F
 by_cases hjn:j < n
 ·obtain ⟨i, hi⟩ : ∃ i : Nat, i + j + 1 = n := ⟨n - 1 - j, by omega⟩
  have ei:(n:Int) - j=(i:Int)+1:=by omega
  have hrc:=hD.at_ hh hjn
  have hno:=hD.no hjn
  have hye:=hD.yes hh hjn
  rw [ei] at hrc hno hye ⊢
  have e2:((i:Int)+1).toNat=i+1:=by omega
  rw [e2] at hrc hno
  have hg:=bA_at hrc
  have e4:(n:Int) - ((j+1:Nat):Int)=(i:Int):=by omega
  cases hc:rc h (n:Int) ((i:Int)+1)
  ·rw [hc] at hg hrc
   have hD2:=hno hrc hc
   rcases o with _|⟨o0,ot⟩
   all_goals repeat' ((conv=>whnf);first|(refine SeqP.go ?_)|((refine ObN.mk ?_ ?_);exact zN)|(with_reducible first|refine ObT.tt ?_|refine ObT.ff ?_)|((refine ObB.yes ?_ ?_);exact zB)|((with_reducible refine ObI.mk _ rfl ?_ ?_ ?_);omega;omega)|((refine ObX.mk _ rfl ?_ ?_);exact zX)|((with_reducible refine (?_:ObR _ _ _));(first|(refine ObR.mk _ zG ?_)|(refine ObR.map zX (fun x hx=>?_))|(refine ObR.mk _ rfl ?_))))
   all_goals conv=>whnf
   all_goals first|refine Again.mk (j+1,F,[]) ⟨by dsimp only;omega,hD2⟩ xB ?_|refine Again.mk (j+1,F,o0::ot) ⟨by dsimp only;omega,hD2⟩ xB ?_
   all_goals (try dsimp only)
   all_goals rw [e4]
   all_goals refine Fg.go ?_ rfl
   all_goals repeat' ((conv=>whnf);first|((refine ObEqs.mk ?_ ?_);rfl)|((with_reducible refine ObEq1.i ?_ ?_);exact zF)|((with_reducible refine ObEq1.mk ?_ ?_);exact zE)|exact True.intro)
  ·rw [hc] at hg
   have hD2:=hye hc
   have hil:i < h.length:=by omega
   have hq:=wU hil
   have hxo:=hx _ (List.getElem_mem hil)
   have hrf:=refs30 G h[i] hxo
   have hrl:=xU hxo
   have hrfs:rfs h ((i:Int)+1)=rfN h[i]:=by
    rw [rfs,show ((i:Int)+1 - 1).toNat=i by omega,List.getElem?_eq_getElem hil]
   have hrr:∀ c ∈ rfs h ((i:Int)+1),1<=c/\c<=(i:Int):=fun c hc=>by
    have:=xg hh hc
    have:=this.2.1 (by omega)
    omega
   rw [hrfs] at hrr hD2
   generalize h[i]=x at *
   rw [<- show ((i:Int)+1 - 1).toNat=i by omega] at hq
   obtain ⟨O,hO⟩:∃ O,O=o++[(i:Int)+1]:=⟨_,rfl⟩
   rw [<- hO] at hD2
   have hOl:O.length=o.length+1:=by rw [hO];simp
   have rO:=XB O
   clear hno hye hD hh
   rcases o with _|⟨o0,ot⟩
   ·obtain rfl : O = [(i : Int) + 1] := hO
    repeat' ((conv=>whnf);first|(refine SeqP.go ?_)|((refine ObD.mk ?_ ?_);exact zD)|((refine ObN.mk ?_ ?_);exact zN)|(with_reducible first|refine ObT.tt ?_|refine ObT.ff ?_)|((refine ObB.yes ?_ ?_);exact zB)|((with_reducible refine ObI.mk _ rfl ?_ ?_ ?_);omega;omega)|((refine ObX.mk _ rfl ?_ ?_);exact zX)|((with_reducible refine ObX.int ?_ ?_ ?_);exact zX;exact zX)|((with_reducible refine (?_:ObL _ _));(refine ObL.mk _ zM ?_))|((with_reducible refine (?_:ObU _ _));(refine ObU.mk _ zU ?_))|((with_reducible refine (?_:ObR _ _ _));(first|(refine ObR.mk _ zG ?_)|(refine ObR.map zX (fun x hx=>?_))|(refine ObR.mk _ rfl ?_)))|((refine ObC.f 92 ?_);(refine ObC.mk _ (hrf) ?_))|((with_reducible refine ObW.cons ?_ ?_);(focus (first|assumption|(simp;done)))))
    conv=>whnf
    refine LoopP.go (α:=Nat) (fun k=>k<=(rfN x).length) (fun k=>(rfN x).length - k) (fun k=>[(5,some (.ol 1 0 1)),(3,none),(16,none),(1,none),(0,none),(7,some (I k)),(0,none),(0,none),(0,none),(0,none),(0,none),(0,none),(0,none)]) (fun k=>[⟨4,1,(stL F ((rfN x).take k)).map bA,0,0⟩,kR 0 [(i:Int)+1]]) 0 (Nat.zero_le _) (Fg.vw [(0,0,0),(0,2,0)] (by repeat' ((conv=>whnf);first|((refine ObN.mk ?_ ?_);exact zN)|((with_reducible refine ObRn.mk ?_ ?_);(focus (first|rfl|(simp [rnB,rnC,rnL];done))))|((refine ObEqs.mk ?_ ?_);rfl)|exact True.intro)) (by repeat' ((conv=>whnf);first|((refine ObN.mk ?_ ?_);exact zN)|((with_reducible refine ObRow.same ?_ ?_ ?_);exact zE;(focus (first|rfl|assumption|(simp;done))))|exact True.intro)) (by simp) (by repeat' ((conv=>whnf);first|exact True.intro))) ?_
    rintro k hk
    have hsl:=XU ((rfN x).take k) F
    by_cases hkr:k < (rfN x).length
    ·have hq2 := yD hkr
     have hr1:=hrr _ (List.getElem_mem hkr)
     have hs:=stL_snoc (F:=F) hkr
     generalize stL F ((rfN x).take k)=F2 at *
     generalize (rfN x)[k]=c at *
     have g9:(F2.map bA)[c.toNat]? = some (.v (.bool (F2.getD c.toNat false))):=bA_at (by rw [List.getD_eq_getElem?_getD,List.getElem?_eq_getElem (by omega)];rfl)
     have us2:(F2.map bA).set c.toNat (.v (.bool true))=(F2.set c.toNat true).map bA:=bA_set
     have rb2:=X3 F2
     have rb3:=X3 (F2.set c.toNat true)
     repeat' ((conv=>whnf);first|(refine SeqP.go ?_)|((refine ObD.mk ?_ ?_);exact zD)|((refine ObN.mk ?_ ?_);exact zN)|(refine ObT.tt ?_)|((refine ObB.yes ?_ ?_);exact zB)|((with_reducible refine ObI.nl ?_ ?_);omega)|((refine ObX.mk _ rfl ?_ ?_);exact zX)|((with_reducible refine ObX.int ?_ ?_ ?_);exact zX;exact zX)|((with_reducible refine (?_:ObU _ _));(refine ObU.mk _ zq3 ?_))|((with_reducible refine (?_:ObR _ _ _));(first|(refine ObR.mk _ zG ?_)|(refine ObR.map zX (fun x hx=>?_))|(refine ObR.mk _ rfl ?_))))
     conv=>whnf
     refine Again.mk (k+1) (by omega) (by omega) ?_
     rw [hs]
     refine Fg.vw [(0,0,0),(0,1,0)] ?_ ?_ (by simp) ?_
     all_goals repeat' ((conv=>whnf);first|((refine ObN.mk ?_ ?_);exact zN)|((with_reducible refine ObRn.mk ?_ ?_);(focus (first|rfl|(simp [rnB,rnC,rnL];done))))|((with_reducible refine ObRow.same ?_ ?_ ?_);exact zE;(focus (first|rfl|assumption|(simp;done))))|((refine ObEqs.mk ?_ ?_);rfl)|exact True.intro)
    ·obtain rfl : k = (rfN x).length := by omega
     rw [List.take_length]
     have rb2:=X3 (stL F (rfN x))
     repeat' ((conv=>whnf);first|(refine SeqP.go ?_)|((refine ObN.mk ?_ ?_);exact zN)|(refine ObT.ff ?_)|((refine ObB.no ?_ ?_);exact zC)|((with_reducible refine ObI.mk _ rfl ?_ ?_ ?_);omega;omega))
     conv=>whnf
     refine Again.mk (j+1,stL F (rfN x),[(i:Int)+1]) ⟨by dsimp only;omega,hD2⟩ xB ?_
     try dsimp only
     rw [e4]
     refine Fg.vw [(0,0,0),(0,1,0)] ?_ ?_ (by simp) ?_
     all_goals repeat' ((conv=>whnf);first|((with_reducible refine ObRn.mk ?_ ?_);(focus (simp [rnB,rnC,rS];done)))|((refine ObN.mk ?_ ?_);exact zN)|((with_reducible refine ObRow.same ?_ ?_ ?_);exact zE;(focus (first|rfl|assumption|(simp;done))))|((refine ObEqs.mk ?_ ?_);rfl)|exact True.intro)
   ·have us2 : ((o0 :: ot).map iA).take (ot.length + 1) ++ [.v (.int .i64 ((i : Int) + 1))] = O.map iA := by rw [hO]; exact Xg (l := o0 :: ot)
    have hl2:ot.length+1+[I ((i:Int)+1)].length=O.length:=by rw [hOl];rfl
    have hO2:O=o0::(ot++[(i:Int)+1]):=by rw [hO];rfl
    have hol':ot.length+1<=j:=hol
    have r5:=XB (o0::ot)
    repeat' ((conv=>whnf);first|(refine SeqP.go ?_)|((refine ObD.mk ?_ ?_);exact zD)|((refine ObN.mk ?_ ?_);exact zN)|(with_reducible first|refine ObT.tt ?_|refine ObT.ff ?_)|((refine ObB.yes ?_ ?_);exact zB)|((with_reducible refine ObI.mk _ rfl ?_ ?_ ?_);omega;omega)|((refine ObX.mk _ rfl ?_ ?_);exact zX)|((with_reducible refine ObX.int ?_ ?_ ?_);exact zX;exact zX)|((with_reducible refine (?_:ObL _ _));(refine ObL.mk _ (by first|exact hl2|exact (List.length_map _)|assumption|exact (List.length_map _).trans (by assumption)|exact List.length_map _|rfl) ?_))|((with_reducible refine (?_:ObU _ _));(refine ObU.mk _ zq3 ?_))|((with_reducible refine (?_:ObR _ _ _));(first|(refine ObR.mk _ zG ?_)|(refine ObR.map zX (fun x hx=>?_))|(refine ObR.mk _ rfl ?_)))|((refine ObC.f 92 ?_);(refine ObC.mk _ (hrf) ?_)))
    conv=>whnf
    refine LoopP.go (α:=Nat) (fun k=>k<=(rfN x).length) (fun k=>(rfN x).length - k) (fun k=>[(5,some (.ol 1 0 O.length)),(3,none),(16,none),(1,none),(0,none),(7,some (I k)),(0,none),(0,none),(0,none),(0,none),(0,none),(0,none),(0,none)]) (fun k=>[⟨4,1,(stL F ((rfN x).take k)).map bA,0,0⟩,kR 0 O]) 0 (Nat.zero_le _) (Fg.vw [(0,0,0),(0,1,1)] (by repeat' ((conv=>whnf);first|((refine ObN.mk ?_ ?_);exact zN)|((with_reducible refine ObRn.mk ?_ ?_);(focus (first|rfl|(simp [rnB,rnC,rnL];done))))|((refine ObEqs.mk ?_ ?_);rfl)|exact True.intro)) (by repeat' ((conv=>whnf);first|((refine ObN.mk ?_ ?_);exact zN)|((with_reducible refine ObRow.same ?_ ?_ ?_);exact zE;(focus (first|rfl|assumption|(simp;done))))|exact True.intro)) (by simp) (by repeat' ((conv=>whnf);first|exact True.intro))) ?_
    rintro k hk
    have hsl:=XU ((rfN x).take k) F
    by_cases hkr:k < (rfN x).length
    ·have hq2 := yD hkr
     have hr1:=hrr _ (List.getElem_mem hkr)
     have hs:=stL_snoc (F:=F) hkr
     generalize stL F ((rfN x).take k)=F2 at *
     generalize (rfN x)[k]=c at *
     have g9:(F2.map bA)[c.toNat]? = some (.v (.bool (F2.getD c.toNat false))):=bA_at (by rw [List.getD_eq_getElem?_getD,List.getElem?_eq_getElem (by omega)];rfl)
     have us2:(F2.map bA).set c.toNat (.v (.bool true))=(F2.set c.toNat true).map bA:=bA_set
     have rb2:=X3 F2
     have rb3:=X3 (F2.set c.toNat true)
     repeat' ((conv=>whnf);first|(refine SeqP.go ?_)|((refine ObD.mk ?_ ?_);exact zD)|((refine ObN.mk ?_ ?_);exact zN)|(refine ObT.tt ?_)|((refine ObB.yes ?_ ?_);exact zB)|((with_reducible refine ObI.nl ?_ ?_);omega)|((refine ObX.mk _ rfl ?_ ?_);exact zX)|((with_reducible refine ObX.int ?_ ?_ ?_);exact zX;exact zX)|((with_reducible refine (?_:ObU _ _));(refine ObU.mk _ zq3 ?_))|((with_reducible refine (?_:ObR _ _ _));(first|(refine ObR.mk _ zG ?_)|(refine ObR.map zX (fun x hx=>?_))|(refine ObR.mk _ rfl ?_))))
     conv=>whnf
     refine Again.mk (k+1) (by omega) (by omega) ?_
     rw [hs]
     refine Fg.vw [(0,0,0),(0,1,0)] ?_ ?_ (by simp) ?_
     all_goals repeat' ((conv=>whnf);first|((refine ObN.mk ?_ ?_);exact zN)|((with_reducible refine ObRn.mk ?_ ?_);(focus (first|rfl|(simp [rnB,rnC,rnL];done))))|((with_reducible refine ObRow.same ?_ ?_ ?_);exact zE;(focus (first|rfl|assumption|(simp;done))))|((refine ObEqs.mk ?_ ?_);rfl)|exact True.intro)
    ·obtain rfl : k = (rfN x).length := by omega
     rw [List.take_length]
     have rb2:=X3 (stL F (rfN x))
     subst hO2
     have hl5:(ot++[(i:Int)+1]).length=ot.length+1:=by simp
     repeat' ((conv=>whnf);first|(refine SeqP.go ?_)|((refine ObN.mk ?_ ?_);exact zN)|(refine ObT.ff ?_)|((refine ObB.no ?_ ?_);exact zC)|((with_reducible refine ObI.mk _ rfl ?_ ?_ ?_);omega;omega))
     conv=>whnf
     refine Again.mk (j+1,stL F (rfN x),o0::(ot++[(i:Int)+1])) ⟨by dsimp only;omega,hD2⟩ xB ?_
     try dsimp only
     rw [e4]
     refine Fg.vw [(0,0,0),(0,1,0)] ?_ ?_ (by simp) ?_
     all_goals repeat' ((conv=>whnf);first|((with_reducible refine ObRn.mk ?_ ?_);(focus (simp [rnB,rnC,rS];done)))|((refine ObN.mk ?_ ?_);exact zN)|((with_reducible refine ObRow.same ?_ ?_ ?_);exact zE;(focus (first|rfl|assumption|(simp;done))))|((refine ObEqs.mk ?_ ?_);rfl)|exact True.intro)
 ·obtain rfl : j = n := by omega
  rw [<- hD.out]
  rcases o with _|⟨o0,ot⟩
  ·repeat' ((conv=>whnf);first|(refine SeqP.go ?_)|((refine ObN.mk ?_ ?_);exact zN)|(refine ObT.ff ?_)|((refine ObB.no ?_ ?_);exact zC)|((refine ObEq.mk ?_);exact zE))
  ·have la : ((o0 :: ot).map iA).take (ot.length + 1) = (o0 :: ot).map iA := i_all (l := o0 :: ot)
   have lp:=p_i (o0::ot)
   repeat' ((conv=>whnf);first|(refine SeqP.go ?_)|((refine ObN.mk ?_ ?_);exact zN)|(refine ObT.ff ?_)|((refine ObB.no ?_ ?_);exact zC)|((with_reducible refine (?_:ObU _ _));(refine ObU.mk _ zq6 ?_))|((refine ObEq.mk ?_);exact zE))
end
open Go.RowKit Go.Shelf
theorem pv_box {F:Fz} {x:Value} {a:AV} (h:PV F x (.ad 1 [a] 0 0)) (ha:a.cells=[a]):∃ b o v,x = .pointer (some ⟨b,o,none⟩)/\F b o=some v/\PV F v a:=by
 cases h with
 | ad b o k es i off hk h1 f hf h =>
  exact ⟨b,o,f 0 0,rfl,hf 0 0 (by simp) (by omega),h 0 0 a a rfl (by rw [ha];rfl)⟩
theorem pv_ints {F:Fz} {v:Value} {L:List Int} (h:PV F v (.sl 1 (L.map iA))):∃ A cap,v = .slice A L.length cap/\L.length<=cap/\cap<=maxLen/\(L=[]\/∃ b o,A=some ⟨b,o,none⟩/\∀ i (hi:i < L.length),F b (o+i)=some (.int .i64 L[i])):=by
 cases h with
 | sl A n cap k es hn hc hm hk h1 b o hA f hf h =>
  have hn':L.length=n:=by simpa using hn
  refine ⟨A,cap,by rw [hn'],by omega,hm,?_⟩
  rcases Nat.eq_zero_or_pos L.length with h0|h0
  ·exact .inl (List.length_eq_zero_iff.1 h0)
  ·refine .inr ⟨b,o,hA (by omega),fun i hi=>?_⟩
   have h2:=hf i 0 (by omega) (by omega)
   have h3:=h i 0 (I L[i]) (I L[i]) (yD hi) rfl
   rw [Nat.mul_one,Nat.add_zero] at h2
   rw [h2]
   generalize f i 0=y at h3
   cases h3;rfl
set_option maxHeartbeats 4000000 in
theorem seq54 (G:Nat->AV) (L:List Int) (hL:L.length<=1000000):SeqC Tryz.prog G 82 [.ad 1 [.sl 1 (L.map iA)] 0 0] (L.map iA):=by
 refine ⟨hb82,fun n lo F xs J W hg hxl hxv hfr hbel hY h0=>?_⟩
 obtain ⟨x0,rfl⟩:∃ x0,xs=[x0]:=by
  match xs,hxl with
  | [x],_=>exact ⟨x,rfl⟩
 obtain ⟨b,o,v,rfl,hbv,hv⟩:=pv_box (hxv 0 x0 _ rfl rfl) rfl
 obtain ⟨A,cap,rfl,hc1,hc2,hel⟩:=pv_ints hv
 have hcell:=hfr 0 W h0 b o _ hbv
 refine callsIn_of_wp Tryz.func82 rfl trivial ?_ rfl
 simp only [Tryz.ntmps82,List.size_toArray,List.length_cons,List.length_nil,Nat.reduceAdd,Nat.reduceSub,Array.replicate_succ,Array.replicate_zero,List.push_toArray,List.append_toArray,List.nil_append,List.cons_append]
 gi_wp2
 gi_loopw [7] (fun p wr=>∃ k:Nat,p = .int .i64 k/\k<=L.length/\J k wr) (fun p _=>L.length - (intOf p).toNat)
 case atStart =>
  exact ⟨0,rfl,Nat.zero_le _,h0⟩
 case round =>
  obtain ⟨k,rfl,hk,hJ⟩:=hrel
  by_cases hkl:k < L.length
  ·obtain ⟨b2,o2,rfl,hcells⟩:=hel.resolve_left (fun e=>by rw [e] at hkl;simp at hkl)
   have hc:=hfr k wr hJ b2 (o2+k) _ (hcells k hkl)
   obtain ⟨fn,tmps,assign,body,hy,hR⟩:=hY k wr (I L[k]) (.int .i64 L[k]) (n - 1) hJ (yD hkl) (.v _ rfl)
   have hlt:(k:Int) < (L.length:Int):=by omega
   gi_wp2
   refine ⟨fun hh=>(by cases hh),hR.mono ?_⟩
   rintro e W3 ⟨rfl,hJ3⟩
   gi_wp2
   go_roundw
   case rel=>exact ⟨k+1,by simp,by omega,hJ3⟩
   case measure=>simp [intOf];omega
  ·obtain rfl : k = L.length := by omega
   gi_wp2
   go_end0
   exact ⟨⟨_,rfl⟩,by rw [List.length_map];exact hJ⟩
end Go.Proofs.YtdodckipblafmaaGreatDoor.Sim
namespace Go.Proofs.YtdodckipblafmaaGreatDoor.Sim
open Go.RowKit
set_option maxRecDepth 100000
noncomputable def rL (h:List Nd) (r:Int) (c:Bool):List Int:=if c then rl h r r.toNat else []
theorem rl_len {h:List Nd} {r:Int}:∀ {n:Nat},(rl h r n).length<=n:=by
 intro n
 induction n with
 | zero=>simp [rl]
 | succ n ih=>rw [rl,List.length_append];split<;>simp<;>omega
theorem rL_len {h:List Nd} {r:Int} {c:Bool} (hc:c=okR h r):(rL h r c).length<=h.length:=by
 unfold rL
 cases c
 ·simp
 ·have hc' := hc.symm
  simp only [okR,Bool.and_eq_true,decide_eq_true_eq] at hc'
  have:=@rl_len h r r.toNat
  rw [if_pos rfl];omega
section
variable (G:Nat->AV)
theorem xop66:XN Tryz.prog [22,23,24,25,26,27,28,29,31,43,47,48,54,55,56,58,68,69,77,106,111,122,123,125,126,127,128,129] 66=some A66:=by kernel_rfl
set_option maxHeartbeats 4000000 in
theorem refs15 (h:List Nd) (hl:h.length<=1000) (hx:∀ x ∈ h,x.Ok) (r:Int) (c:Bool) (hc:c=okR h r):PC Tryz.prog G 66 [.sl 9 (h.map nA),I r] (.fn 82 [.ad 1 [.sl 1 ((rL h r c).map iA)] 0 0]):=by
 have hm:=may21 G h hl hx r c hc
 unfold rL
 cases c
 ·simp only [eo,Bool.false_eq_true,if_false] at hm ⊢
  refine pc_ofX xop66 ?_
  skip
  conv=>whnf
  refine SeqX.sp (SeqP.go ?_)
  repeat' ((conv=>whnf);first|((refine ObD.mk ?_ ?_);exact zD)|((refine ObN.mk ?_ ?_);exact zN)|((with_reducible refine (?_:ObU _ _));(refine ObU.mk _ zU ?_))|((with_reducible refine (?_:ObR _ _ _));(first|(refine ObR.mk _ zG ?_)|(refine ObR.map zX (fun x hx=>?_))|(refine ObR.mk _ rfl ?_))))
  conv=>whnf
  refine SeqX.sp (SeqP.go ?_)
  repeat' ((conv=>whnf);first|((refine ObN.mk ?_ ?_);exact zN)|((refine ObB.no ?_ ?_);exact zC)|((refine ObC.f 67 ?_);(refine ObC.mk _ (hm) ?_)))
  conv=>whnf
  refine SeqX.sp (SeqP.go ?_)
  repeat' ((conv=>whnf);first|(refine ObT.ff ?_))
  conv=>whnf
  refine SeqX.fe 0 0 [false,true] ?_
  repeat' ((conv=>whnf);first|(with_reducible first|refine SeqP.go ?_|refine SeqX.sp ?_)|((refine ObN.mk ?_ ?_);exact zN)|((with_reducible refine (?_:ObU _ _));(refine ObU.mk _ zU ?_))|((refine ObEq.mk ?_);exact zE)|((with_reducible refine ObSt.live ?_ ?_);(focus (first|trivial|(refine ⟨rfl,?_⟩;first|omega|(exact Nat.le_refl _))))))
 ·have hc' := hc.symm
  simp only [okR,Bool.and_eq_true,decide_eq_true_eq] at hc'
  obtain ⟨⟨h0,h1⟩,hh⟩:=hc'
  obtain ⟨n,rfl⟩:∃ n:Nat,r=(n:Int):=⟨r.toNat,by omega⟩
  have hd:=desc31 G h hl hx hh n (by omega)
  simp only [eo,if_true,Int.toNat_natCast] at hm ⊢
  have hp:=p_i (rl h (n:Int) n)
  refine zA cop66 ?_
  repeat' ((conv=>whnf);first|(refine SeqP.go ?_)|((refine ObD.mk ?_ ?_);exact zD)|((refine ObN.mk ?_ ?_);exact zN)|(refine ObT.tt ?_)|((refine ObB.yes ?_ ?_);exact zB)|((with_reducible refine (?_:ObU _ _));(refine ObU.mk _ zU ?_))|((with_reducible refine (?_:ObR _ _ _));(first|(refine ObR.mk _ zG ?_)|(refine ObR.map zX (fun x hx=>?_))|(refine ObR.mk _ rfl ?_)))|((refine ObC.f 67 ?_);(refine ObC.mk _ (hm) ?_))|((refine ObC.f 81 ?_);(refine ObC.mk _ (hd) ?_))|((refine ObEq.mk ?_);exact zE))
set_option maxHeartbeats 4000000 in
theorem count13 (h:List Nd) (hl:h.length<=1000) (hx:∀ x ∈ h,x.Ok) (r:Int) (c:Bool) (hc:c=okR h r):PC Tryz.prog G 42 [.sl 9 (h.map nA),I r] (.tup [I ((rL h r c).length:Nat),I (eo c)]):=by
 have hm:=may21 G h hl hx r c hc
 have hR:=refs15 G h hl hx r c hc
 have hLl:=rL_len hc
 have hS:=fun hL=>seq54 G (rL h r c) hL
 generalize rL h r c=L at *
 refine pc_ofX cop42 ?_
 repeat' ((conv=>whnf);first|(with_reducible first|refine SeqP.go ?_|refine SeqX.sp ?_)|((refine ObD.mk ?_ ?_);exact zD)|((refine ObN.mk ?_ ?_);exact zN)|((with_reducible refine (?_:ObU _ _));(refine ObU.mk _ zU ?_))|((with_reducible refine (?_:ObR _ _ _));(first|(refine ObR.mk _ zG ?_)|(refine ObR.map zX (fun x hx=>?_))|(refine ObR.mk _ rfl ?_)))|((refine ObC.f 66 ?_);(refine ObC.mk _ (hR) ?_)))
 conv=>whnf
 refine RngP.mk 82 [.ad 1 [.sl 1 (L.map iA)] 0 0] (L.map iA) rfl rfl (hS (by omega)) Nat (fun k a=>a=k/\k<=L.length) (fun a=>[⟨3,1,[I (a:Nat)],0,0⟩]) 0 ⟨rfl,Nat.zero_le _⟩ _ (Fg.goS rfl) ?_ ?_
 ·rintro k a e ⟨rfl, hk⟩ he
  have hkl:a < L.length:=by
   have:=(List.getElem?_eq_some_iff.1 he).1
   simpa using this
  repeat' ((conv=>whnf);first|((refine ObD.mk ?_ ?_);exact zD)|((refine ObN.mk ?_ ?_);exact zN)|((with_reducible refine ObI.nl ?_ ?_);omega)|((with_reducible refine (?_:ObU _ _));(refine ObU.mk _ zU ?_))|((with_reducible refine (?_:ObR _ _ _));(first|(refine ObR.mk _ zG ?_)|(refine ObR.map zX (fun x hx=>?_))|(refine ObR.mk _ rfl ?_))))
  conv=>whnf
  refine AgR.mk (a+1) ⟨rfl,by omega⟩ (Fg.goS rfl)
 ·rintro a ⟨ha, _⟩
  rw [List.length_map] at ha
  subst ha
  repeat' ((conv=>whnf);first|(with_reducible first|refine SeqP.go ?_|refine SeqX.sp ?_)|((refine ObD.mk ?_ ?_);exact zD)|((refine ObN.mk ?_ ?_);exact zN)|((with_reducible refine (?_:ObR _ _ _));(first|(refine ObR.mk _ zG ?_)|(refine ObR.map zX (fun x hx=>?_))|(refine ObR.mk _ rfl ?_)))|((refine ObC.f 67 ?_);(refine ObC.mk _ (hm) ?_))|((refine ObEq.mk ?_);exact zE))
end
end Go.Proofs.YtdodckipblafmaaGreatDoor.Sim
namespace Go.Proofs.YtdodckipblafmaaGreatDoor.Sim.Pr7
open Go.RowKit
set_option maxRecDepth 100000
set_option maxHeartbeats 4000000 in
theorem last30 (G:Nat->AV) (l:List Pr) (hl:Okl l) (i:Nat) (hi:i < l.length) (r:Bool) (hr:r=true↔fk (l[i]).1 (l.drop (i+1))=[]):PC Tryz.prog G 71 [.sl 2 (l.map pA),I i] (Bo r):=by
 have hlen:=hl.len
 rw [fk_none] at hr
 refine yg cop71 ?_
 show W _ _ _ _ ⟨_,_⟩;simp only [A71,List.cons_append,List.nil_append,List.length_cons,List.length_nil,Nat.reduceAdd,Nat.reduceSub,List.replicate]
 repeat (first|(with_reducible first|refine zQ ?_|refine zP ?_|refine zZ ?_|refine zw ?_|refine zp ?_)|((with_reducible first|refine ks fun K hK=>?_|refine kd fun K hK=>?_|refine kc fun K hK2 hK hK3=>?_);simp (disch:=omega) only [bg0,bg1,bg2,bg3,bg4,zt,zS,eff,AX.ev,St.put,zO,zK,ap1,zi,simprocAttr,zu,AV.cells,AV.fine,AV.one,zY,zq,live,zo,rdA,zg,wrA,zI,zr,zW,zT,zV,zk,zb,zm,zj,ze,cut,id,ap2,zx,zy,geB,AOp.cls,AOp.xs,ltB,ltC,Option.toList,List.cons_append,decide_eq_true,decide_eq_false,if_pos,if_neg,List.length_map,zH,bVb,bVn,eq_self,Bool.and_self,BEq.rfl,not_true_eq_false];(with_reducible first|(refine hK _ ?_;clear hK K)|(refine hK ?_;clear hK hK3 K hK2)|(refine hK3 ?_;clear hK hK3 K hK2))))
 refine ZT [4,5,8,9,10,11,12,13,14,15,16,17,18,19,20,21,22,23,24] (fun k v H=>v 5=I ((i+1+k:Nat):Int)/\H=[]/\∀ j (h:j < l.length),i < j->j < i+1+k->(l[j]).1 ≠ (l[i]).1) (l.length - (i+1)) ⟨rfl,rfl,fun j h h1 h2=>by omega⟩ ?_ ?_
 ·rintro k v H hk ⟨h5, rfl, hq⟩
  simp only [mix,z9,Za,Zb,simprocAttr,if_true,if_false,h5]
  have hk2:i+1+k < l.length:=by omega
  have e2:((i:Int)+1+(k:Int)).toNat=i+1+k:=by omega
  have e3:((i:Int)+1+(k:Int)+1)=((i+1+(k+1):Nat):Int):=by omega
  by_cases hc:(l[i+1+k]).1=(l[i]).1
  ·obtain rfl : r = false := by
    cases r with
    | false=>rfl
    | true=>exact absurd hc (hr.1 rfl _ (by rw [List.mem_drop_iff_getElem];exact ⟨k,by omega,rfl⟩))
   repeat (first|(with_reducible first|refine zQ ?_|refine zP ?_|refine Zk ?_|refine zZ ?_|refine Zd ?_|refine zw ?_|refine Ze ?_|refine zp ?_|refine yQ ?_|refine Zm ?_|refine ZH ?_)|((with_reducible first|refine ks fun K hK=>?_|refine kd fun K hK=>?_|refine kc fun K hK2 hK hK3=>?_|refine ZC fun K hR=>?_|refine Zl rfl fun K hR=>?_|refine Zh fun K hR=>?_);simp (disch:=omega) only [bg0,bg1,bg2,bg3,bg4,zt,zS,eff,AX.ev,St.put,zO,zK,ap1,zi,simprocAttr,zu,AV.cells,AV.fine,AV.one,zY,zq,live,zo,rdA,zg,wrA,zI,zr,zW,zT,zV,zk,zb,zm,zj,ze,cut,id,ap2,zx,zy,geB,AOp.cls,AOp.xs,ltB,ltC,Option.toList,List.cons_append,decide_eq_true,decide_eq_false,if_pos,if_neg,List.length_map,zH,bVb,bVn,eq_self,Bool.and_self,BEq.rfl,not_true_eq_false,hc,e2];(first|(with_reducible first|(refine hK _ ?_;clear hK K)|(refine hK ?_;clear hK hK3 K hK2)|(refine hK3 ?_;clear hK hK3 K hK2))|((with_reducible refine hR _ ?_ ?_ ?_ ?_);rotate_left 2;rfl;rfl)|((with_reducible refine hR _ ?_);rfl))))
  ·repeat (first|(with_reducible first|refine zQ ?_|refine zP ?_|refine Zk ?_|refine zZ ?_|refine Zd ?_|refine zw ?_|refine Ze ?_|refine zp ?_|refine z5 ?_)|((with_reducible first|refine ks fun K hK=>?_|refine kd fun K hK=>?_|refine kc fun K hK2 hK hK3=>?_);simp (disch:=omega) only [bg0,bg1,bg2,bg3,bg4,zt,zS,eff,AX.ev,St.put,zO,zK,ap1,zi,simprocAttr,zu,AV.cells,AV.fine,AV.one,zY,zq,live,zo,rdA,zg,wrA,zI,zr,zW,zT,zV,zk,zb,zm,zj,ze,cut,id,ap2,zx,zy,geB,AOp.cls,AOp.xs,ltB,ltC,Option.toList,List.cons_append,decide_eq_true,decide_eq_false,if_pos,if_neg,List.length_map,zH,bVb,bVn,eq_self,Bool.and_self,BEq.rfl,not_true_eq_false,hc,e2];(with_reducible first|(refine hK _ ?_;clear hK K)|(refine hK ?_;clear hK hK3 K hK2)|(refine hK3 ?_;clear hK hK3 K hK2))))
   refine ⟨rfl,by simp [at_];omega,rfl,fun j h h1 h2=>?_⟩
   by_cases hj:j=i+1+k
   ·subst hj;exact hc
   ·exact hq j h h1 (by omega)
 ·rintro v H ⟨h5, rfl, hq⟩
  simp only [mix,z9,Za,Zb,simprocAttr,if_true,if_false,h5]
  obtain rfl:r=true:=hr.2 fun p hp=>by
   obtain ⟨j,hj,rfl⟩:=List.mem_drop_iff_getElem.1 hp
   exact hq _ (by omega) (by omega) (by omega)
  repeat (first|(with_reducible first|refine zQ ?_|refine zP ?_|refine Zp ?_|refine zw ?_|refine zp ?_|refine Zc ?_|refine z6 ?_|refine Zm ?_)|((with_reducible first|refine ks fun K hK=>?_|refine kd fun K hK=>?_|refine kc fun K hK2 hK hK3=>?_|refine ZC fun K hR=>?_|refine Zl rfl fun K hR=>?_|refine Zh fun K hR=>?_);simp (disch:=omega) only [bg0,bg1,bg2,bg3,bg4,zt,zS,eff,AX.ev,St.put,zO,zK,ap1,zi,simprocAttr,zu,AV.cells,AV.fine,AV.one,zY,zq,live,zo,rdA,zg,wrA,zI,zr,zW,zT,zV,zk,zb,zm,zj,ze,cut,id,ap2,zx,zy,geB,AOp.cls,AOp.xs,ltB,ltC,Option.toList,List.cons_append,decide_eq_true,decide_eq_false,if_pos,if_neg,List.length_map,zH,bVb,bVn,eq_self,Bool.and_self,BEq.rfl,not_true_eq_false];(first|(with_reducible first|(refine hK _ ?_;clear hK K)|(refine hK ?_;clear hK hK3 K hK2)|(refine hK3 ?_;clear hK hK3 K hK2))|((with_reducible refine hR _ ?_ ?_ ?_ ?_);rotate_left 2;rfl;rfl)|((with_reducible refine hR _ ?_);rfl))))
end Go.Proofs.YtdodckipblafmaaGreatDoor.Sim.Pr7
