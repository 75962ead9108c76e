/- Texts of this claim, part 7. -/
import Derived.LoopIn
import Derived.LoopNIn
import Derived.OrdersIn
import Derived.OwnWalkIn
import Derived.RangeFuncRecord
import Derived.Shelf.Abstract
import Derived.Shelf.RegionOpen
import Derived.TacticsIn
import Derived.TacticsInMore
import Derived.Test.YtghbpplcgjeohaaMHeapCounts6
import Derived.Test.YtghbpplcgjeohaaProg
import Derived.WalkKit
set_option linter.unusedVariables false
set_option linter.unusedSimpArgs false
namespace Go.Proofs.Ytghbpplcgjeohaa.Sim
open Go.RowKit
set_option maxRecDepth 100000
abbrev Tk:=Int × Bool
def ow' (h:List Nd) (r:Int):List Pr:=match h[(r - 1).toNat]? with|some x=>ow x|none=>[]
def vl (h:List Nd) (t:Tk):List Pr:=if t.2 then B h t.1 else ow' h t.1
def cs (h:List Nd) (t:Tk):Nat:=if t.2 then C h t.1 else 1
theorem cs_pos {h:List Nd} {t:Tk}:1≤cs h t:=by
  unfold cs;split
  · exact C_pos
  · exact Nat.le_refl 1
theorem len_cost {h:List Nd} {l:List Tk}:l.length≤(l.map (cs h)).sum:=by
  induction l with
  | nil=>simp
  | cons a t ih =>
    have:=@cs_pos h a
    simp only [List.length_cons,List.map_cons,List.sum_cons];omega
structure Tj (h:List Nd) (n:Nat) (ts:List Tk) (out:List Pr):Prop where
  ok:∀ t ∈ ts,0≤t.1∧t.1≤(n:Int)∧(t.2=false→1≤t.1∧nz h t.1=true)
  out:out++ts.reverse.flatMap (vl h)=B h (n:Int)
  cost:(ts.map (cs h)).sum≤1000000
theorem Tj.skip {h:List Nd} {n:Nat} {ts:List Tk} {t:Tk} {out:List Pr} (hT:Tj h n (ts++[t]) out) (h0:t.1=0∨nz h t.1=false):Tj h n ts out:=by
  have hv:vl h t=[]:=by
    have hk:=hT.ok t (by simp)
    unfold vl
    cases h2:t.2
    · have := hk.2.2 h2
      rcases h0 with h0|h0
      · omega
      · rw [h0] at this;simp at this
    · rw [if_pos rfl]
      rcases h0 with h0|h0
      · rw [h0];exact B_0 (Int.le_refl 0)
      · simpa [nz] using h0
  refine ⟨fun x hx=>hT.ok x (by simp [hx]),?_,?_⟩
  · have := hT.out
    rw [List.reverse_append] at this
    simpa [hv] using this
  · have := hT.cost
    simp at this;omega
theorem Tj.own {h:List Nd} {n:Nat} {ts:List Tk} {a:Int} {out:List Pr} (hT:Tj h n (ts++[(a,false)]) out):Tj h n ts (out++ow' h a):=by
  refine ⟨fun x hx=>hT.ok x (by simp [hx]),?_,?_⟩
  · have := hT.out
    rw [List.reverse_append] at this
    simpa [vl] using this
  · have := hT.cost
    simp at this;omega
theorem fm_true {h:List Nd} (l:List Int):(l.map fun k=>((k,true):Tk)).flatMap (vl h)=l.flatMap (B h):=by
  induction l with
  | nil=>rfl
  | cons a t ih=>simp only [List.map_cons,List.flatMap_cons,ih];rfl
theorem cs_true {h:List Nd} (l:List Int):((l.map fun k=>((k,true):Tk)).map (cs h)).sum=(l.map (C h)).sum:=by
  induction l with
  | nil=>rfl
  | cons a t ih=>simp only [List.map_cons,List.sum_cons,ih];rfl
theorem Tj.visit {h : List Nd} (hh : aH h h.length = true) {n : Nat} (hn : n ≤ h.length) {ts : List Tk} {i : Nat} {out : List Pr} (hT : Tj h n (ts ++ [((i : Int) + 1, true)]) out) (hi : i < h.length) (hz : nz h ((i : Int) + 1) = true) :
    Tj h n (ts++(tasks ((i:Int)+1) h[i]).reverse) out∧((ts++(tasks ((i:Int)+1) h[i]).reverse).map (cs h)).sum < ((ts++[((i:Int)+1,true)]).map (cs h)).sum:=by
  have hk:=hT.ok ((i:Int)+1,true) (by simp)
  have ho:=okH_of hh hi
  have hB:=B_eq hh hi
  have hC:=C_eq hh hi
  have how:ow' h ((i:Int)+1)=ow h[i]:=by
    rw [ow',show ((i:Int)+1 - 1).toNat=i by omega,List.getElem?_eq_getElem hi]
  have hval:(tasks ((i:Int)+1) h[i]).flatMap (vl h)=B h ((i:Int)+1):=by
    rw [hB];unfold tasks
    split
    · simp [vl,how]
    · rw [List.flatMap_cons,fm_true];simp [vl,how]
  have hcost:((tasks ((i:Int)+1) h[i]).map (cs h)).sum+1=C h ((i:Int)+1):=by
    rw [hC];unfold tasks
    split
    · simp [cs];omega
    · rw [List.map_cons,List.sum_cons,cs_true];simp [cs];omega
  have hsum:((ts++(tasks ((i:Int)+1) h[i]).reverse).map (cs h)).sum+1=((ts++[((i:Int)+1,true)]).map (cs h)).sum:=by
    rw [List.map_append,List.sum_append,List.map_append,List.sum_append,List.map_reverse,List.sum_reverse]
    simp [cs];omega
  refine ⟨⟨fun t ht=>?_,?_,?_⟩,by omega⟩
  · rcases List.mem_append.1 ht with ht | ht
    · exact hT.ok t (by simp [ht])
    · rw [List.mem_reverse] at ht
      have h1:=hk.2.1
      simp only at h1
      unfold tasks at ht
      split at ht
      · rename_i h4
        obtain ⟨t1,t2,t3⟩:=tree_ref ho h4
        simp only [List.mem_cons,List.not_mem_nil,or_false] at ht
        rcases ht with rfl|rfl|rfl
        · exact ⟨t1.1,by simp only;omega,fun h=>by cases h⟩
        · exact ⟨by simp only;omega,h1,fun _=>⟨by simp only;omega,hz⟩⟩
        · exact ⟨t2.1,by simp only;omega,fun h=>by cases h⟩
      · rcases List.mem_cons.1 ht with rfl | ht
        · exact ⟨by simp only;omega,h1,fun _=>⟨by simp only;omega,hz⟩⟩
        · obtain ⟨k, hk2, rfl⟩ := List.mem_map.1 ht
          have:=okH_ref ho hk2
          exact ⟨by simp only;omega,by simp only;omega,fun h=>by cases h⟩
  · have := hT.out
    rw [List.reverse_append] at this ⊢
    rw [List.reverse_reverse,List.flatMap_append,hval]
    simpa [vl] using this
  · have:=hT.cost;omega
def oS (m:Nat) (o:List Pr):AV:=match o with|[]=>.nl 2|x::t=>.ol m 0 (t.length+1)
def oH (o:List Pr):Hp:=match o with|[]=>[]|x::t=>[⟨62,2,(x::t).map pA,0,0⟩]
theorem fuL_get {h:List Nd} {n:Nat} {a:Int} (h1:1≤a) (h2:a≤(n:Int)):(fuL h n)[(a - 1).toNat]? = some (nz h a):=by
  have:(a - 1).toNat < n:=by omega
  simp only [fuL,List.getElem?_map,List.getElem?_range this,Option.map_some]
  congr 2;omega
theorem nz_take {h:List Nd} (hh:aH h h.length=true) {k:Nat} (hk:k≤h.length) {r:Int} (hr:r≤(k:Int)):nz (h.take k) r=nz h r:=by
  unfold nz;rw [B_take hh hk hr]
theorem fuL_take {h:List Nd} (hh:aH h h.length=true) {n:Nat} (hn:n≤h.length):fuL (h.take n) (h.take n).length=fuL h n:=by
  have e:(h.take n).length=n:=by simp;omega
  rw [e];unfold fuL
  refine List.map_congr_left fun k hk=>?_
  rw [List.mem_range] at hk
  exact nz_take hh hn (by omega)
section
variable (G:Nat→AV)
set_option maxHeartbeats 16000000 in
theorem binds6 (h:List Nd) (hl:h.length≤1000) (hx:∀ x ∈ h,x.Ok) (r:Int) (c:Bool) (hc:c=okR h r) (hC:c=true→C h r≤1000000):PC Try.prog G 6 [.sl 9 (h.map nA),I r] (.tup [.sl 2 ((if c then B h r else []).map pA),I (eo c)]):=by
  have hm:=may21 G h hl hx r c hc
  cases c
  · simp only [eo, Bool.false_eq_true, if_false] at hm ⊢
    refine pc_ofV cop6 ?_
    repeat' ((conv=>whnf);first|(with_reducible refine SeqP.go ?_)|((with_reducible refine ObN.mk ?_ ?_);(focus exact zN))|(with_reducible refine ObT.tt ?_)|((with_reducible refine ObB.no ?_ ?_);(focus (first|assumption|omega)))|((with_reducible refine ObC.f 21 ?_);(first|(with_reducible refine ObC.mk _ (hm) ?_)|(refine ObC.mk _ (hm) ?_)))|((with_reducible refine ObEq.mk ?_);(focus (first|rfl|assumption))))
  simp only [eo,if_true] at hm ⊢
  replace hC:=hC rfl
  have hc':=hc.symm
  simp only [okR,Bool.and_eq_true,decide_eq_true_eq] at hc'
  obtain ⟨⟨h0,h1⟩,hh⟩:=hc'
  clear hc
  obtain ⟨n,rfl⟩:∃ n:Nat,r=(n:Int):=⟨r.toNat,by omega⟩
  have hnl:n≤h.length:=by omega
  have ut:(h.map nA).take n=(h.take n).map nA:=by rw [List.map_take]
  have hb:=bound22 G (h.take n) (by simp;omega) (fun x hx2=>hx x (List.mem_of_mem_take hx2)) (aH_take hh hnl)
  rw [fuL_take hh hnl] at hb
  have hT0:Tj h n [((n:Int),true)] []:=⟨fun t ht=>by
    obtain rfl:=List.mem_singleton.1 ht
    exact ⟨h0,Int.le_refl _,fun h=>by cases h⟩,by simp [vl],by simpa [cs] using hC⟩
  have hBl:(B h (n:Int)).length≤40000000:=by have:=B_len hx (r:=(n:Int));omega
  have hfu:=fun a h1 h2=>bA_at (fuL_get (h:=h) (n:=n) (a:=a) h1 h2)
  have hful:(fuL h n).length=n:=fuL_len
  generalize fuL h n=FL at *
  refine pc_ofV cop6 ?_
  repeat' ((conv=>whnf);first|(with_reducible refine SeqP.go ?_)|((with_reducible refine ObD.mk ?_ ?_);(focus (first|rfl|(simp;done))))|((with_reducible refine ObN.mk ?_ ?_);(focus exact zN))|(with_reducible refine ObT.ff ?_)|((with_reducible refine ObB.yes ?_ ?_);(focus (first|assumption|(with_reducible rfl)|omega)))|((with_reducible refine (?_:ObU _ _));(refine ObU.mk _ (by first|exact ut|assumption|((conv=>lhs;simp only [List.set_cons_zero,List.set_cons_succ,List.take_succ_cons,List.take_zero,List.drop_succ_cons,List.drop_zero,List.nil_append,List.cons_append,List.append_nil,List.take_nil,List.drop_nil]);try rfl)|rfl) ?_))|((with_reducible refine ObC.f 21 ?_);(first|(with_reducible refine ObC.mk _ (hm) ?_)|(refine ObC.mk _ (hm) ?_)))|((with_reducible refine ObC.f 22 ?_);(first|(with_reducible refine ObC.mk _ (hb) ?_)|(refine ObC.mk _ (hb) ?_)))|((with_reducible refine ObJ.zn ?_ ?_);(focus exact zX)))
  conv=>whnf
  refine LoopP.go (α:=List Tk × List Tk × List Pr) (fun p=>Tj h n p.1 p.2.2) (fun p=>(p.1.map (cs h)).sum) (fun p=>[(7,some (oS 1 p.2.2)),(1,some (.ol 0 0 p.1.length)),(0,none),(0,none),(0,none),(0,none),(1,none),(12,none),(0,none),(0,none),(0,none),(0,none),(0,none),(0,none),(0,none),(0,none),(0,none),(0,none),(0,none),(0,none),(0,none),(0,none),(0,none),(0,none),(0,none),(0,none),(0,none),(0,none),(0,none),(0,none),(0,none),(0,none),(0,none),(0,none),(0,none),(0,none),(0,none),(0,none),(0,none),(0,none),(0,none),(0,none),(0,none),(0,none),(0,none),(0,none),(0,none),(0,none),(0,none),(0,none),(0,none),(0,none),(0,none),(0,none),(0,none),(0,none),(0,none),(0,none),(0,none),(0,none),(0,none),(0,none),(0,none),(0,none),(0,none),(0,none),(0,none),(0,none),(0,none),(0,none),(0,none),(0,none),(0,none),(0,none),(0,none),(0,none),(0,none),(0,none),(0,none),(0,none),(0,none),(0,none),(0,none),(0,none),(0,none)]) (fun p=>[⟨54,2,(p.1++p.2.1).map tA,0,0⟩]++oH p.2.2) ([((n:Int),true)],[],[]) hT0 (Fg.go ?_ rfl) ?_
  · repeat' ((conv=>whnf);first|((with_reducible refine ObEqs.mk ?_ ?_);(focus rfl))|((with_reducible refine ObEq1.mk ?_ ?_);(focus (first|rfl|assumption)))|exact True.intro)
  rintro ⟨ts,jk,out⟩ hT
  dsimp only at hT ⊢
  have hol:out.length≤40000000:=by
    have:=congrArg List.length hT.out
    rw [List.length_append] at this;omega
  have htl:ts.length≤1000000:=Nat.le_trans len_cost hT.cost
  rcases List.eq_nil_or_concat ts with rfl|⟨ts',t,rfl⟩
  · have hE : out = B h (n : Int) := by simpa using hT.out
    rw [← hE,List.length_nil]
    rcases out with _|⟨o0,ot⟩
    · repeat' ((conv=>whnf);first|(with_reducible refine SeqP.go ?_)|((with_reducible refine ObN.mk ?_ ?_);(focus exact zN))|(with_reducible refine ObT.ff ?_)|((with_reducible refine ObB.no ?_ ?_);(focus (first|assumption|omega)))|((with_reducible refine ObEq.mk ?_);(focus (first|rfl|assumption))))
    · have la : ((o0 :: ot).map pA).take (ot.length + 1) = (o0 :: ot).map pA := p_all (l := o0 :: ot)
      have lp:=p_p (o0::ot)
      repeat' ((conv=>whnf);first|(with_reducible refine SeqP.go ?_)|((with_reducible refine ObN.mk ?_ ?_);(focus exact zN))|(with_reducible refine ObT.ff ?_)|((with_reducible refine ObB.no ?_ ?_);(focus (first|assumption|omega)))|((with_reducible refine (?_:ObU _ _));(refine ObU.mk _ (by first|exact la|assumption|((conv=>lhs;simp only [List.set_cons_zero,List.set_cons_succ,List.take_succ_cons,List.take_zero,List.drop_succ_cons,List.drop_zero,List.nil_append,List.cons_append,List.append_nil,List.take_nil,List.drop_nil]);try rfl)|rfl) ?_))|((with_reducible refine ObEq.mk ?_);(focus (first|rfl|assumption))))
  rw [List.concat_eq_append] at hT htl ⊢
  obtain ⟨a,v⟩:=t
  have hok:=hT.ok (a,v) (by simp)
  have hL1:(ts'++[(a,v)]).length=ts'.length+1:=by simp
  rw [hL1] at htl ⊢
  have hrow:(ts'++[(a,v)]++jk)=ts'++((a,v)::jk):=by simp
  rw [hrow]
  have hq:((ts'++((a,v)::jk)).map tA)[ts'.length]? = some (.agg [I a,.v (.bool v)]):=tA_at (t:=(a,v)) (by simp)
  have rn:=nr_t (ts'++((a,v)::jk))
  have hsum:((ts'.map (cs h)).sum) < ((ts'++[(a,v)]).map (cs h)).sum:=by
    have:=@cs_pos h (a,v)
    simp;omega
  rcases out with _|⟨o0,ot⟩
  ·
    by_cases h0:a=0
    · have hT2 := hT.skip (.inl h0)
      subst h0
      repeat' ((conv=>whnf);first|(with_reducible refine SeqP.go ?_)|((with_reducible refine ObD.mk ?_ ?_);(focus (first|rfl|(simp;done))))|((with_reducible refine ObN.mk ?_ ?_);(focus exact zN))|(with_reducible refine ObT.tt ?_)|((with_reducible refine ObB.yes ?_ ?_);(focus (first|assumption|(with_reducible rfl)|omega)))|((with_reducible refine ObI.mk ((ts'.length:Int)) ?_ ?_ ?_ ?_);(focus omega);(focus omega);(focus omega))|((with_reducible refine ObX.mk _ rfl ?_ ?_);(focus exact zX))|((with_reducible refine ObY.mk _ rfl ?_ ?_);(focus exact zX))|((with_reducible refine (?_:ObU _ _));(refine ObU.mk _ zU ?_))|((with_reducible refine (?_:ObR _ _ _));(first|(refine ObR.mk _ (by assumption) ?_)|(refine ObR.mk _ (by with_reducible rfl) ?_)|(refine ObR.map zX (fun x hx=>?_))|(refine ObR.mk _ rfl ?_)))|((with_reducible refine ObO.l ?_);(with_reducible refine ObN.mk ?_ ?_);(focus (first|rfl|omega))))
      conv=>whnf
      refine Again.mk (ts',(0,v)::jk,[]) hT2 hsum (Fg.vw [(0,0,0)] ?_ ?_ (by simp) ?_)
      all_goals repeat' ((conv=>whnf);first|((with_reducible refine ObN.mk ?_ ?_);(focus exact zN))|((with_reducible refine ObRn.mk ?_ ?_);(focus (first|rfl|(simp [rnB,rnC,rnL];done))))|((with_reducible refine ObRow.same ?_ ?_ ?_);(focus (first|rfl|assumption));(focus (first|rfl|assumption|(simp;done))))|((with_reducible refine ObEqs.mk ?_ ?_);(focus rfl))|exact True.intro)
    have ha1:1≤a:=by have:=hok.1;simp only at this;omega
    have hg:=hfu a ha1 hok.2.1
    cases hnz:nz h a
    · rw [hnz] at hg
      have hT2:=hT.skip (.inr hnz)
      repeat' ((conv=>whnf);first|(with_reducible refine SeqP.go ?_)|((with_reducible refine ObD.mk ?_ ?_);(focus (first|rfl|(simp;done))))|((with_reducible refine ObN.mk ?_ ?_);(focus exact zN))|(with_reducible refine ObT.tt ?_)|(with_reducible refine ObT.ff ?_)|((with_reducible refine ObB.yes ?_ ?_);(focus (first|assumption|(with_reducible rfl)|omega)))|((with_reducible refine ObB.no ?_ ?_);(focus (first|assumption|omega)))|((with_reducible refine ObI.mk ((ts'.length:Int)) ?_ ?_ ?_ ?_);(focus omega);(focus omega);(focus omega))|((with_reducible refine ObI.mk _ rfl ?_ ?_ ?_);(focus omega);(focus omega))|((with_reducible refine ObX.mk _ rfl ?_ ?_);(focus exact zX))|((with_reducible refine ObX.int ?_ ?_ ?_);(focus exact zX);(focus exact zX))|((with_reducible refine ObY.mk _ rfl ?_ ?_);(focus exact zX))|((with_reducible refine (?_:ObU _ _));(refine ObU.mk _ zU ?_))|((with_reducible refine (?_:ObR _ _ _));(first|(refine ObR.mk _ (by assumption) ?_)|(refine ObR.mk _ (by with_reducible rfl) ?_)|(refine ObR.map zX (fun x hx=>?_))|(refine ObR.mk _ rfl ?_)))|((with_reducible refine ObO.l ?_);(with_reducible refine ObN.mk ?_ ?_);(focus (first|rfl|omega))))
      conv=>whnf
      refine Again.mk (ts',(a,v)::jk,[]) hT2 hsum (Fg.vw [(0,0,0)] ?_ ?_ (by simp) ?_)
      all_goals repeat' ((conv=>whnf);first|((with_reducible refine ObN.mk ?_ ?_);(focus exact zN))|((with_reducible refine ObRn.mk ?_ ?_);(focus (first|rfl|(simp [rnB,rnC,rnL];done))))|((with_reducible refine ObRow.same ?_ ?_ ?_);(focus (first|rfl|assumption));(focus (first|rfl|assumption|(simp;done))))|((with_reducible refine ObEqs.mk ?_ ?_);(focus rfl))|exact True.intro)
    rw [hnz] at hg
    have hil:(a - 1).toNat < h.length:=by have:=hok.2.1;simp only at this;omega
    have hq2:(h.map nA)[(a - 1).toNat]? = _:=nA_at hil
    have hxo:=hx _ (List.getElem_mem hil)
    have how:ow' h a=ow h[(a - 1).toNat]:=by rw [ow',List.getElem?_eq_getElem hil]
    have hbd:=bnd23 G h[(a - 1).toNat] hxo
    have hrf:=refs30 G h[(a - 1).toNat] hxo
    have hrl:=rf_len hxo
    have hri:=rf_i64 hxo
    have hol5:=ow_len hxo
    have htr:=fun h4=>tree_ref (okH_of hh hil) h4
    have hvis:v=true→Tj h n (ts'++(tasks a h[(a - 1).toNat]).reverse) []∧((ts'++(tasks a h[(a - 1).toNat]).reverse).map (cs h)).sum < ((ts'++[(a,v)]).map (cs h)).sum:=fun hv=>by
      subst hv
      have ea:(((a - 1).toNat:Nat):Int)+1=a:=by omega
      have:=Tj.visit hh hnl (i:=(a - 1).toNat) (ts:=ts') (out:=[]) (by rw [ea];exact hT) hil (by rw [ea];exact hnz)
      rwa [ea] at this
    generalize h[(a - 1).toNat]=x at *
    cases v
    · have hT2 := hT.own
      rw [how] at hT2
      clear hvis htr
      rcases hw:ow x with _|⟨w0,wt⟩
      · rw [hw] at hT2 hbd
        repeat' ((conv=>whnf);first|(with_reducible refine SeqP.go ?_)|((with_reducible refine ObD.mk ?_ ?_);(focus (first|rfl|(simp;done))))|((with_reducible refine ObN.mk ?_ ?_);(focus exact zN))|(with_reducible refine ObT.tt ?_)|(with_reducible refine ObT.ff ?_)|((with_reducible refine ObB.yes ?_ ?_);(focus (first|assumption|(with_reducible rfl)|omega)))|((with_reducible refine ObB.no ?_ ?_);(focus (first|assumption|omega)))|((with_reducible refine ObI.mk ((ts'.length:Int)) ?_ ?_ ?_ ?_);(focus omega);(focus omega);(focus omega))|((with_reducible refine ObI.mk _ rfl ?_ ?_ ?_);(focus omega);(focus omega))|((with_reducible refine ObX.mk _ rfl ?_ ?_);(focus exact zX))|((with_reducible refine ObX.int ?_ ?_ ?_);(focus exact zX);(focus exact zX))|((with_reducible refine ObY.mk _ rfl ?_ ?_);(focus exact zX))|((with_reducible refine (?_:ObU _ _));(refine ObU.mk _ zU ?_))|((with_reducible refine (?_:ObR _ _ _));(first|(refine ObR.mk _ (by assumption) ?_)|(refine ObR.mk _ (by with_reducible rfl) ?_)|(refine ObR.map zX (fun x hx=>?_))|(refine ObR.mk _ rfl ?_)))|((with_reducible refine ObC.f 23 ?_);(first|(with_reducible refine ObC.mk _ (hbd) ?_)|(refine ObC.mk _ (hbd) ?_)))|((with_reducible refine ObO.l ?_);(with_reducible refine ObN.mk ?_ ?_);(focus (first|rfl|omega)))|((with_reducible refine ObW.nil ?_ ?_);(focus (first|rfl|assumption))))
        conv=>whnf
        refine Again.mk (ts',(a,false)::jk,[]) hT2 hsum (Fg.vw [(0,0,0)] ?_ ?_ (by simp) ?_)
        all_goals repeat' ((conv=>whnf);first|((with_reducible refine ObN.mk ?_ ?_);(focus exact zN))|((with_reducible refine ObRn.mk ?_ ?_);(focus (first|rfl|(simp [rnB,rnC,rnL];done))))|((with_reducible refine ObRow.same ?_ ?_ ?_);(focus (first|rfl|assumption));(focus (first|rfl|assumption|(simp;done))))|((with_reducible refine ObEqs.mk ?_ ?_);(focus rfl))|exact True.intro)
      · rw [hw] at hT2 hbd hol5
        have rw1:=nr_p (w0::wt)
        have hol6:wt.length+1≤40:=hol5
        repeat' ((conv=>whnf);first|(with_reducible refine SeqP.go ?_)|((with_reducible refine ObD.mk ?_ ?_);(focus (first|rfl|(simp;done))))|((with_reducible refine ObN.mk ?_ ?_);(focus exact zN))|(with_reducible refine ObT.tt ?_)|(with_reducible refine ObT.ff ?_)|((with_reducible refine ObB.yes ?_ ?_);(focus (first|assumption|(with_reducible rfl)|omega)))|((with_reducible refine ObB.no ?_ ?_);(focus (first|assumption|omega)))|((with_reducible refine ObI.mk ((ts'.length:Int)) ?_ ?_ ?_ ?_);(focus omega);(focus omega);(focus omega))|((with_reducible refine ObI.mk _ rfl ?_ ?_ ?_);(focus omega);(focus omega))|((with_reducible refine ObX.mk _ rfl ?_ ?_);(focus exact zX))|((with_reducible refine ObX.int ?_ ?_ ?_);(focus exact zX);(focus exact zX))|((with_reducible refine ObY.mk _ rfl ?_ ?_);(focus exact zX))|((with_reducible refine (?_:ObL _ _));(refine ObL.mk _ zM ?_))|((with_reducible refine (?_:ObU _ _));(refine ObU.mk _ zU ?_))|((with_reducible refine (?_:ObR _ _ _));(first|(refine ObR.mk _ (by assumption) ?_)|(refine ObR.mk _ (by with_reducible rfl) ?_)|(refine ObR.map zX (fun x hx=>?_))|(refine ObR.mk _ rfl ?_)))|((with_reducible refine ObC.f 23 ?_);(first|(with_reducible refine ObC.mk _ (hbd) ?_)|(refine ObC.mk _ (hbd) ?_)))|((with_reducible refine ObO.l ?_);(with_reducible refine ObN.mk ?_ ?_);(focus (first|rfl|omega)))|((with_reducible refine ObW.cons ?_ ?_);(focus (first|assumption|(simp;done)))))
        conv=>whnf
        refine Again.mk (ts',(a,false)::jk,w0::wt) hT2 hsum (Fg.vw [(0,0,0),(0,3,0)] ?_ ?_ (by simp) ?_)
        all_goals repeat' ((conv=>whnf);first|((with_reducible refine ObN.mk ?_ ?_);(focus exact zN))|((with_reducible refine ObRn.mk ?_ ?_);(focus (first|rfl|(simp [rnB,rnC,rnL];done))))|((with_reducible refine ObRow.same ?_ ?_ ?_);(focus (first|rfl|assumption));(focus (first|rfl|assumption|(simp;done))))|((with_reducible refine ObEqs.mk ?_ ?_);(focus rfl))|exact True.intro)
    · obtain ⟨hT2, hlt2⟩ := hvis rfl
      clear hvis
      have rx:[nA x].all nrB=true:=nr_n [x]
      repeat' ((conv=>whnf);first|(with_reducible refine SeqP.go ?_)|((with_reducible refine ObD.mk ?_ ?_);(focus (first|rfl|(simp;done))))|((with_reducible refine ObN.mk ?_ ?_);(focus exact zN))|(with_reducible refine ObT.tt ?_)|(with_reducible refine ObT.ff ?_)|((with_reducible refine ObB.yes ?_ ?_);(focus (first|assumption|(with_reducible rfl)|omega)))|((with_reducible refine ObB.no ?_ ?_);(focus (first|assumption|omega)))|((with_reducible refine ObI.mk ((ts'.length:Int)) ?_ ?_ ?_ ?_);(focus omega);(focus omega);(focus omega))|((with_reducible refine ObI.mk _ rfl ?_ ?_ ?_);(focus omega);(focus omega))|((with_reducible refine ObX.mk _ rfl ?_ ?_);(focus exact zX))|((with_reducible refine ObX.int ?_ ?_ ?_);(focus exact zX);(focus exact zX))|((with_reducible refine ObY.mk _ rfl ?_ ?_);(focus exact zX))|((with_reducible refine (?_:ObL _ _));(refine ObL.mk _ zM ?_))|((with_reducible refine (?_:ObU _ _));(refine ObU.mk _ zU ?_))|((with_reducible refine (?_:ObR _ _ _));(first|(refine ObR.mk _ (by assumption) ?_)|(refine ObR.mk _ (by with_reducible rfl) ?_)|(refine ObR.map zX (fun x hx=>?_))|(refine ObR.mk _ rfl ?_)))|((with_reducible refine ObC.f 24 ?_);(first|(with_reducible refine ObC.mk _ (hrf) ?_)|(refine ObC.mk _ (hrf) ?_)))|((with_reducible refine ObO.l ?_);(with_reducible refine ObN.mk ?_ ?_);(focus (first|rfl|omega))))
      conv=>whnf
      refine LoopP.go (α:=Nat) (fun k=>k≤(rfN x).length) (fun k=>(rfN x).length - k) (fun k=>[(13,some (.ol 4 0 (k+1))),(1,none),(56,none),(3,some (I k)),(0,none),(0,none),(0,none),(0,none),(0,none),(0,none),(0,none),(0,none),(0,none)]) (fun k=>[⟨54,2,(ts'++((a,true)::jk)).map tA,0,0⟩,⟨54,2,[.agg [I a,.v (.bool true)]],0,0⟩,⟨47,9,[nA x],0,0⟩,⟨54,2,[.agg [I a,.v (.bool false)]],0,0⟩,⟨54,2,((a,false)::((rfN x).take k).map fun r=>(r,true)).map tA,0,0⟩]) 0 (Nat.zero_le _) (Fg.go ?_ rfl) ?_
      · repeat' ((conv=>whnf);first|((with_reducible refine ObEqs.mk ?_ ?_);(focus rfl))|((with_reducible refine ObEq1.i ?_ ?_);(focus (first|(with_reducible rfl)|omega)))|((with_reducible refine ObEq1.o ?_ ?_);(focus (first|(with_reducible rfl)|omega)))|exact True.intro)
      rintro k hk
      have hkl:(((a,false)::((rfN x).take k).map fun r=>((r,true):Tk)).map tA).length=k+1:=by simp;omega
      have rk:=nr_t ((a,false)::((rfN x).take k).map fun r=>(r,true))
      by_cases hkr:k < (rfN x).length
      · have hq3 := iA_at' hkr
        have us:(((a,false)::((rfN x).take k).map fun r=>((r,true):Tk)).map tA).take (k+1)++[.agg [I (rfN x)[k],.v (.bool true)]]=((a,false)::((rfN x).take (k+1)).map fun r=>(r,true)).map tA:=by
          rw [List.take_of_length_le (by omega),List.take_succ_eq_append_getElem hkr];simp only [List.map_append,List.map_cons,List.map_nil,List.cons_append];rfl
        have rk2:=nr_t ((a,false)::((rfN x).take (k+1)).map fun r=>(r,true))
        generalize (rfN x)[k]=c at *
        repeat' ((conv=>whnf);first|(with_reducible refine SeqP.go ?_)|((with_reducible refine ObD.mk ?_ ?_);(focus (first|rfl|(simp;done))))|((with_reducible refine ObN.mk ?_ ?_);(focus exact zN))|(with_reducible refine ObT.tt ?_)|((with_reducible refine ObB.yes ?_ ?_);(focus (first|assumption|(with_reducible rfl)|omega)))|((with_reducible refine ObI.nl ?_ ?_);(focus omega))|((with_reducible refine ObX.mk _ rfl ?_ ?_);(focus exact zX))|((with_reducible refine (?_:ObL _ _));(refine ObL.mk _ zM ?_))|((with_reducible refine (?_:ObU _ _));(refine ObU.mk _ (by first|exact us|assumption|((conv=>lhs;simp only [List.set_cons_zero,List.set_cons_succ,List.take_succ_cons,List.take_zero,List.drop_succ_cons,List.drop_zero,List.nil_append,List.cons_append,List.append_nil,List.take_nil,List.drop_nil]);try rfl)|rfl) ?_))|((with_reducible refine (?_:ObR _ _ _));(first|(refine ObR.mk _ (by assumption) ?_)|(refine ObR.mk _ (by with_reducible rfl) ?_)|(refine ObR.map zX (fun x hx=>?_))|(refine ObR.mk _ rfl ?_))))
        conv=>whnf
        refine Again.mk (k+1) (by omega) (by omega) (Fg.vw [(0,0,0),(0,1,0),(0,2,0),(0,3,0),(0,4,1)] ?_ ?_ (by simp) ?_)
        all_goals repeat' ((conv=>whnf);first|((with_reducible refine ObN.mk ?_ ?_);(focus exact zN))|((with_reducible refine ObRn.mk ?_ ?_);(focus (first|rfl|(simp [rnB,rnC,rnL];done))))|((with_reducible refine ObRow.same ?_ ?_ ?_);(focus (first|rfl|assumption));(focus (first|rfl|assumption|(simp;done))))|((with_reducible refine ObEqs.mk ?_ ?_);(focus rfl))|exact True.intro)
      obtain rfl:k=(rfN x).length:=by omega
      rw [List.take_length] at hkl rk ⊢
      by_cases h4:x.kn=4
      · obtain ⟨t1, t2, t3⟩ := htr h4
        have k0:(x.kk.map iA)[0]? = some (I (x.kk.getD 0 0)):=by rw [iA_at' (by omega)];simp [List.getD_eq_getElem?_getD,List.getElem?_eq_getElem (show 0 < x.kk.length by omega)]
        have k1:(x.kk.map iA)[1]? = some (I (x.kk.getD 1 0)):=by rw [iA_at' (by omega)];simp [List.getD_eq_getElem?_getD,List.getElem?_eq_getElem (show 1 < x.kk.length by omega)]
        have ht:tasks a x=[(x.kk.getD 0 0,true),(a,false),(x.kk.getD 1 0,true)]:=by unfold tasks;rw [if_pos h4]
        rw [ht] at hT2 hlt2
        generalize x.kk.getD 0 0=ka at *
        generalize x.kk.getD 1 0=kb at *
        have hrev:HC Try.prog G 25 [.ol 0 0 3] [⟨54,2,[.agg [I ka,.v (.bool true)],.agg [I a,.v (.bool false)],.agg [I kb,.v (.bool true)]],0,0⟩] (.tup []) [⟨54,2,[.agg [I kb,.v (.bool true)],.agg [I a,.v (.bool false)],.agg [I ka,.v (.bool true)]],0,0⟩]:=rev25 G [(ka,true),(a,false),(kb,true)] 0 (by simp) (by simp)
        have uf:((ts'++((a,true)::jk)).map tA).take ts'.length++[.agg [I kb,.v (.bool true)],.agg [I a,.v (.bool false)],.agg [I ka,.v (.bool true)]]=(ts'++[(ka,true),(a,false),(kb,true)].reverse).map tA:=by
          rw [List.map_append,List.take_left' (by simp),List.map_append];rfl
        have lf:ts'.length+3=(ts'++[(ka,true),(a,false),(kb,true)].reverse).length:=by simp
        have rf1:=nr_t (ts'++[(ka,true),(a,false),(kb,true)].reverse)
        have rlit:([.agg [I ka,.v (.bool true)],.agg [I a,.v (.bool false)],.agg [I kb,.v (.bool true)]]:List AV).all nrB=true:=nr_t [(ka,true),(a,false),(kb,true)]
        clear hT ht
        repeat' ((conv=>whnf);first|(with_reducible refine SeqP.go ?_)|((with_reducible refine ObD.mk ?_ ?_);(focus (first|rfl|(simp;done))))|((with_reducible refine ObN.mk ?_ ?_);(focus exact zN))|(with_reducible refine ObT.tt ?_)|(with_reducible refine ObT.ff ?_)|((with_reducible refine ObB.yes ?_ ?_);(focus (first|assumption|(with_reducible rfl)|omega)))|((with_reducible refine ObB.no ?_ ?_);(focus (first|assumption|omega)))|((with_reducible refine ObX.mk _ rfl ?_ ?_);(focus exact zX))|((with_reducible refine (?_:ObL _ _));(refine ObL.mk _ (by first|exact lf|exact (List.length_map _)|assumption|exact (List.length_map _).trans (by assumption)|exact List.length_map _|rfl) ?_))|((with_reducible refine (?_:ObU _ _));(refine ObU.mk _ (by first|exact uf|assumption|((conv=>lhs;simp only [List.set_cons_zero,List.set_cons_succ,List.take_succ_cons,List.take_zero,List.drop_succ_cons,List.drop_zero,List.nil_append,List.cons_append,List.append_nil,List.take_nil,List.drop_nil]);try rfl)|rfl) ?_))|((with_reducible refine (?_:ObR _ _ _));(first|(refine ObR.mk _ (by assumption) ?_)|(refine ObR.mk _ (by with_reducible rfl) ?_)|(refine ObR.map zX (fun x hx=>?_))|(refine ObR.mk _ rfl ?_)))|((with_reducible refine ObH.f 25 ?_);refine ObH.frn _ (by simp only [List.length_cons,List.length_nil,Nat.reduceAdd];rfl) [(0,5,0)] (hrev) (by simp) rfl (by simp) ?_)|((with_reducible refine ObRow.same ?_ ?_ ?_);(focus (first|rfl|assumption));(focus (first|rfl|assumption|(simp;done))))|((with_reducible refine ObAs.mk ?_ ?_);(focus (first|rfl|(simp [rnB,rnC,rnL];done))))|((with_reducible refine (?_:ObRs _ _ _));(refine ObRs.mk _ rfl ?_))|((with_reducible refine ObBk.same ?_ ?_);(focus (first|rfl|assumption|(simp;done)))))
        conv=>whnf
        refine Again.mk (ts'++[(ka,true),(a,false),(kb,true)].reverse,[],[]) hT2 hlt2 ?_
        rw [List.append_nil]
        refine Fg.vw [(0,0,1)] ?_ ?_ (by simp) ?_
        all_goals repeat' ((conv=>whnf);first|((with_reducible refine ObN.mk ?_ ?_);(focus exact zN))|((with_reducible refine ObRn.mk ?_ ?_);(focus (first|rfl|(simp [rnB,rnC,rnL];done))))|((with_reducible refine ObRow.same ?_ ?_ ?_);(focus (first|rfl|assumption));(focus (first|rfl|assumption|(simp;done))))|((with_reducible refine ObEqs.mk ?_ ?_);(focus rfl))|exact True.intro)
      · have ht:tasks a x=(a,false)::(rfN x).map fun r=>(r,true):=by unfold tasks;rw [if_neg h4]
        rw [ht] at hT2 hlt2
        have hrev:HC Try.prog G 25 [.ol 0 0 ((rfN x).length+1)] [⟨54,2,((a,false)::(rfN x).map fun r=>((r,true):Tk)).map tA,0,0⟩] (.tup []) [⟨54,2,((a,false)::(rfN x).map fun r=>((r,true):Tk)).reverse.map tA,0,0⟩]:=by
          have:=rev25 G ((a,false)::(rfN x).map fun r=>(r,true)) 0 (by simp;omega) (by simp)
          rwa [show ((a,false)::(rfN x).map fun r=>((r,true):Tk)).length=(rfN x).length+1 by simp] at this
        have rf2:=nr_t ((a,false)::(rfN x).map fun r=>((r,true):Tk)).reverse
        have rl2:((a,false)::(rfN x).map fun r=>((r,true):Tk)).reverse.length=(rfN x).length+1:=by simp
        generalize ((a,false)::(rfN x).map fun r=>((r,true):Tk))=nx at *
        have uf:((ts'++((a,true)::jk)).map tA).take ts'.length++(nx.reverse.map tA).take ((rfN x).length+1)=(ts'++nx.reverse).map tA:=by
          rw [List.map_append,List.take_left' (by simp),List.map_append,List.take_of_length_le (by rw [List.length_map];omega)]
        have uf2:(nx.reverse.map tA).take ((rfN x).length+1)=nx.reverse.map tA:=List.take_of_length_le (by rw [List.length_map];omega)
        have uf3:((ts'++((a,true)::jk)).map tA).take ts'.length++nx.reverse.map tA=(ts'++nx.reverse).map tA:=by rw [← uf,uf2]
        have lf:ts'.length+((rfN x).length+1)=(ts'++nx.reverse).length:=by rw [List.length_append,rl2]
        have lf2:ts'.length+(nx.reverse.map tA).length=(ts'++nx.reverse).length:=by simp
        have rf1:=nr_t (ts'++nx.reverse)
        clear hT ht htr
        repeat' ((conv=>whnf);first|(with_reducible refine SeqP.go ?_)|((with_reducible refine ObN.mk ?_ ?_);(focus exact zN))|(with_reducible refine ObT.ff ?_)|((with_reducible refine ObB.no ?_ ?_);(focus (first|assumption|omega)))|((with_reducible refine (?_:ObL _ _));(refine ObL.mk _ (by first|exact lf|exact lf2|exact (List.length_map _)|assumption|exact (List.length_map _).trans (by assumption)|exact List.length_map _|rfl) ?_))|((with_reducible refine (?_:ObU _ _));(refine ObU.mk _ (by first|exact uf|exact uf2|exact uf3|assumption|((conv=>lhs;simp only [List.set_cons_zero,List.set_cons_succ,List.take_succ_cons,List.take_zero,List.drop_succ_cons,List.drop_zero,List.nil_append,List.cons_append,List.append_nil,List.take_nil,List.drop_nil]);try rfl)|rfl) ?_))|((with_reducible refine (?_:ObR _ _ _));(first|(refine ObR.mk _ (by assumption) ?_)|(refine ObR.mk _ (by with_reducible rfl) ?_)|(refine ObR.map zX (fun x hx=>?_))|(refine ObR.mk _ rfl ?_)))|((with_reducible refine ObH.f 25 ?_);refine ObH.frn _ (by simp only [List.length_cons,List.length_nil,Nat.reduceAdd];rfl) [(0,4,0)] (hrev) (by simp) rfl (by simp) ?_)|((with_reducible refine ObRow.same ?_ ?_ ?_);(focus (first|rfl|assumption));(focus (first|rfl|assumption|(simp;done))))|((with_reducible refine ObAs.mk ?_ ?_);(focus (first|rfl|(simp [rnB,rnC,rnL];done))))|((with_reducible refine (?_:ObRs _ _ _));(refine ObRs.mk _ rfl ?_))|((with_reducible refine ObBk.same ?_ ?_);(focus (first|rfl|assumption|(simp;done)))))
        conv=>whnf
        refine Again.mk (ts'++nx.reverse,[],[]) hT2 hlt2 ?_
        rw [List.append_nil]
        refine Fg.vw [(0,0,1)] ?_ ?_ (by simp) ?_
        all_goals repeat' ((conv=>whnf);first|((with_reducible refine ObN.mk ?_ ?_);(focus exact zN))|((with_reducible refine ObRn.mk ?_ ?_);(focus (first|rfl|(simp [rnB,rnC,rnL];done))))|((with_reducible refine ObRow.same ?_ ?_ ?_);(focus (first|rfl|assumption));(focus (first|rfl|assumption|(simp;done))))|((with_reducible refine ObEqs.mk ?_ ?_);(focus rfl))|exact True.intro)
  · have ro := nr_p (o0 :: ot)
    by_cases h0:a=0
    · have hT2 := hT.skip (.inl h0)
      subst h0
      repeat' ((conv=>whnf);first|(with_reducible refine SeqP.go ?_)|((with_reducible refine ObD.mk ?_ ?_);(focus (first|rfl|(simp;done))))|((with_reducible refine ObN.mk ?_ ?_);(focus exact zN))|(with_reducible refine ObT.tt ?_)|((with_reducible refine ObB.yes ?_ ?_);(focus (first|assumption|(with_reducible rfl)|omega)))|((with_reducible refine ObI.mk ((ts'.length:Int)) ?_ ?_ ?_ ?_);(focus omega);(focus omega);(focus omega))|((with_reducible refine ObX.mk _ rfl ?_ ?_);(focus exact zX))|((with_reducible refine ObY.mk _ rfl ?_ ?_);(focus exact zX))|((with_reducible refine (?_:ObU _ _));(refine ObU.mk _ zU ?_))|((with_reducible refine (?_:ObR _ _ _));(first|(refine ObR.mk _ (by assumption) ?_)|(refine ObR.mk _ (by with_reducible rfl) ?_)|(refine ObR.map zX (fun x hx=>?_))|(refine ObR.mk _ rfl ?_)))|((with_reducible refine ObO.l ?_);(with_reducible refine ObN.mk ?_ ?_);(focus (first|rfl|omega))))
      conv=>whnf
      refine Again.mk (ts',(0,v)::jk,(o0::ot)) hT2 hsum (Fg.vw [(0,0,0),(0,1,0)] ?_ ?_ (by simp) ?_)
      all_goals repeat' ((conv=>whnf);first|((with_reducible refine ObN.mk ?_ ?_);(focus exact zN))|((with_reducible refine ObRn.mk ?_ ?_);(focus (first|rfl|(simp [rnB,rnC,rnL];done))))|((with_reducible refine ObRow.same ?_ ?_ ?_);(focus (first|rfl|assumption));(focus (first|rfl|assumption|(simp;done))))|((with_reducible refine ObEqs.mk ?_ ?_);(focus rfl))|exact True.intro)
    have ha1:1≤a:=by have:=hok.1;simp only at this;omega
    have hg:=hfu a ha1 hok.2.1
    cases hnz:nz h a
    · rw [hnz] at hg
      have hT2:=hT.skip (.inr hnz)
      repeat' ((conv=>whnf);first|(with_reducible refine SeqP.go ?_)|((with_reducible refine ObD.mk ?_ ?_);(focus (first|rfl|(simp;done))))|((with_reducible refine ObN.mk ?_ ?_);(focus exact zN))|(with_reducible refine ObT.tt ?_)|(with_reducible refine ObT.ff ?_)|((with_reducible refine ObB.yes ?_ ?_);(focus (first|assumption|(with_reducible rfl)|omega)))|((with_reducible refine ObB.no ?_ ?_);(focus (first|assumption|omega)))|((with_reducible refine ObI.mk ((ts'.length:Int)) ?_ ?_ ?_ ?_);(focus omega);(focus omega);(focus omega))|((with_reducible refine ObI.mk _ rfl ?_ ?_ ?_);(focus omega);(focus omega))|((with_reducible refine ObX.mk _ rfl ?_ ?_);(focus exact zX))|((with_reducible refine ObX.int ?_ ?_ ?_);(focus exact zX);(focus exact zX))|((with_reducible refine ObY.mk _ rfl ?_ ?_);(focus exact zX))|((with_reducible refine (?_:ObU _ _));(refine ObU.mk _ zU ?_))|((with_reducible refine (?_:ObR _ _ _));(first|(refine ObR.mk _ (by assumption) ?_)|(refine ObR.mk _ (by with_reducible rfl) ?_)|(refine ObR.map zX (fun x hx=>?_))|(refine ObR.mk _ rfl ?_)))|((with_reducible refine ObO.l ?_);(with_reducible refine ObN.mk ?_ ?_);(focus (first|rfl|omega))))
      conv=>whnf
      refine Again.mk (ts',(a,v)::jk,(o0::ot)) hT2 hsum (Fg.vw [(0,0,0),(0,1,0)] ?_ ?_ (by simp) ?_)
      all_goals repeat' ((conv=>whnf);first|((with_reducible refine ObN.mk ?_ ?_);(focus exact zN))|((with_reducible refine ObRn.mk ?_ ?_);(focus (first|rfl|(simp [rnB,rnC,rnL];done))))|((with_reducible refine ObRow.same ?_ ?_ ?_);(focus (first|rfl|assumption));(focus (first|rfl|assumption|(simp;done))))|((with_reducible refine ObEqs.mk ?_ ?_);(focus rfl))|exact True.intro)
    rw [hnz] at hg
    have hil:(a - 1).toNat < h.length:=by have:=hok.2.1;simp only at this;omega
    have hq2:(h.map nA)[(a - 1).toNat]? = _:=nA_at hil
    have hxo:=hx _ (List.getElem_mem hil)
    have how:ow' h a=ow h[(a - 1).toNat]:=by rw [ow',List.getElem?_eq_getElem hil]
    have hbd:=bnd23 G h[(a - 1).toNat] hxo
    have hrf:=refs30 G h[(a - 1).toNat] hxo
    have hrl:=rf_len hxo
    have hri:=rf_i64 hxo
    have hol5:=ow_len hxo
    have htr:=fun h4=>tree_ref (okH_of hh hil) h4
    have hvis:v=true→Tj h n (ts'++(tasks a h[(a - 1).toNat]).reverse) (o0::ot)∧((ts'++(tasks a h[(a - 1).toNat]).reverse).map (cs h)).sum < ((ts'++[(a,v)]).map (cs h)).sum:=fun hv=>by
      subst hv
      have ea:(((a - 1).toNat:Nat):Int)+1=a:=by omega
      have:=Tj.visit hh hnl (i:=(a - 1).toNat) (ts:=ts') (out:=(o0::ot)) (by rw [ea];exact hT) hil (by rw [ea];exact hnz)
      rwa [ea] at this
    generalize h[(a - 1).toNat]=x at *
    cases v
    · have hT2 := hT.own
      rw [how] at hT2
      clear hvis htr
      obtain ⟨O,hO⟩:∃ O,O=(o0::ot)++ow x:=⟨_,rfl⟩
      have hO2:O=o0::(ot++ow x):=by rw [hO];rfl
      have uo:((o0::ot).map pA).take (ot.length+1)++(ow x).map pA=O.map pA:=by
        rw [hO,List.map_append];congr 1;exact p_all (l:=o0::ot)
      have lo1:ot.length+1+((ow x).map pA).length=(ot++ow x).length+1:=by simp;omega
      have lo2:(ot++ow x).length+1≤40000040:=by
        have:ot.length+1≤40000000:=hol
        rw [List.length_append];omega
      have rO:=nr_p O
      rw [← hO] at hT2
      subst hO2
      have hol7:ot.length+1≤40000000:=hol
      repeat' ((conv=>whnf);first|(with_reducible refine SeqP.go ?_)|((with_reducible refine ObD.mk ?_ ?_);(focus (first|rfl|(simp;done))))|((with_reducible refine ObN.mk ?_ ?_);(focus exact zN))|(with_reducible refine ObT.tt ?_)|(with_reducible refine ObT.ff ?_)|((with_reducible refine ObB.yes ?_ ?_);(focus (first|assumption|(with_reducible rfl)|omega)))|((with_reducible refine ObB.no ?_ ?_);(focus (first|assumption|omega)))|((with_reducible refine ObI.mk ((ts'.length:Int)) ?_ ?_ ?_ ?_);(focus omega);(focus omega);(focus omega))|((with_reducible refine ObI.mk _ rfl ?_ ?_ ?_);(focus omega);(focus omega))|((with_reducible refine ObX.mk _ rfl ?_ ?_);(focus exact zX))|((with_reducible refine ObX.int ?_ ?_ ?_);(focus exact zX);(focus exact zX))|((with_reducible refine ObY.mk _ rfl ?_ ?_);(focus exact zX))|((with_reducible refine (?_:ObL _ _));(refine ObL.mk _ (by first|exact lo1|exact (List.length_map _)|assumption|exact (List.length_map _).trans (by assumption)|exact List.length_map _|rfl) ?_))|((with_reducible refine (?_:ObU _ _));(refine ObU.mk _ (by first|exact uo|assumption|((conv=>lhs;simp only [List.set_cons_zero,List.set_cons_succ,List.take_succ_cons,List.take_zero,List.drop_succ_cons,List.drop_zero,List.nil_append,List.cons_append,List.append_nil,List.take_nil,List.drop_nil]);try rfl)|rfl) ?_))|((with_reducible refine (?_:ObR _ _ _));(first|(refine ObR.mk _ (by assumption) ?_)|(refine ObR.mk _ (by with_reducible rfl) ?_)|(refine ObR.map zX (fun x hx=>?_))|(refine ObR.mk _ rfl ?_)))|((with_reducible refine ObC.f 23 ?_);(first|(with_reducible refine ObC.mk _ (hbd) ?_)|(refine ObC.mk _ (hbd) ?_)))|((with_reducible refine ObO.l ?_);(with_reducible refine ObN.mk ?_ ?_);(focus (first|rfl|omega))))
      conv=>whnf
      refine Again.mk (ts',(a,false)::jk,o0::(ot++ow x)) hT2 hsum (Fg.vw [(0,0,0),(0,1,1)] ?_ ?_ (by simp) ?_)
      all_goals repeat' ((conv=>whnf);first|((with_reducible refine ObN.mk ?_ ?_);(focus exact zN))|((with_reducible refine ObRn.mk ?_ ?_);(focus (first|rfl|(simp [rnB,rnC,rnL];done))))|((with_reducible refine ObRow.same ?_ ?_ ?_);(focus (first|rfl|assumption));(focus (first|rfl|assumption|(simp;done))))|((with_reducible refine ObEqs.mk ?_ ?_);(focus rfl))|exact True.intro)
    · obtain ⟨hT2, hlt2⟩ := hvis rfl
      clear hvis
      have rx:[nA x].all nrB=true:=nr_n [x]
      repeat' ((conv=>whnf);first|(with_reducible refine SeqP.go ?_)|((with_reducible refine ObD.mk ?_ ?_);(focus (first|rfl|(simp;done))))|((with_reducible refine ObN.mk ?_ ?_);(focus exact zN))|(with_reducible refine ObT.tt ?_)|(with_reducible refine ObT.ff ?_)|((with_reducible refine ObB.yes ?_ ?_);(focus (first|assumption|(with_reducible rfl)|omega)))|((with_reducible refine ObB.no ?_ ?_);(focus (first|assumption|omega)))|((with_reducible refine ObI.mk ((ts'.length:Int)) ?_ ?_ ?_ ?_);(focus omega);(focus omega);(focus omega))|((with_reducible refine ObI.mk _ rfl ?_ ?_ ?_);(focus omega);(focus omega))|((with_reducible refine ObX.mk _ rfl ?_ ?_);(focus exact zX))|((with_reducible refine ObX.int ?_ ?_ ?_);(focus exact zX);(focus exact zX))|((with_reducible refine ObY.mk _ rfl ?_ ?_);(focus exact zX))|((with_reducible refine (?_:ObL _ _));(refine ObL.mk _ zM ?_))|((with_reducible refine (?_:ObU _ _));(refine ObU.mk _ zU ?_))|((with_reducible refine (?_:ObR _ _ _));(first|(refine ObR.mk _ (by assumption) ?_)|(refine ObR.mk _ (by with_reducible rfl) ?_)|(refine ObR.map zX (fun x hx=>?_))|(refine ObR.mk _ rfl ?_)))|((with_reducible refine ObC.f 24 ?_);(first|(with_reducible refine ObC.mk _ (hrf) ?_)|(refine ObC.mk _ (hrf) ?_)))|((with_reducible refine ObO.l ?_);(with_reducible refine ObN.mk ?_ ?_);(focus (first|rfl|omega))))
      conv=>whnf
      refine LoopP.go (α:=Nat) (fun k=>k≤(rfN x).length) (fun k=>(rfN x).length - k) (fun k=>[(13,some (.ol 5 0 (k+1))),(1,none),(56,none),(3,some (I k)),(0,none),(0,none),(0,none),(0,none),(0,none),(0,none),(0,none),(0,none),(0,none)]) (fun k=>[⟨54,2,(ts'++((a,true)::jk)).map tA,0,0⟩,⟨62,2,(o0::ot).map pA,0,0⟩,⟨54,2,[.agg [I a,.v (.bool true)]],0,0⟩,⟨47,9,[nA x],0,0⟩,⟨54,2,[.agg [I a,.v (.bool false)]],0,0⟩,⟨54,2,((a,false)::((rfN x).take k).map fun r=>(r,true)).map tA,0,0⟩]) 0 (Nat.zero_le _) (Fg.go ?_ rfl) ?_
      · repeat' ((conv=>whnf);first|((with_reducible refine ObEqs.mk ?_ ?_);(focus rfl))|((with_reducible refine ObEq1.i ?_ ?_);(focus (first|(with_reducible rfl)|omega)))|((with_reducible refine ObEq1.o ?_ ?_);(focus (first|(with_reducible rfl)|omega)))|exact True.intro)
      rintro k hk
      have hkl:(((a,false)::((rfN x).take k).map fun r=>((r,true):Tk)).map tA).length=k+1:=by simp;omega
      have rk:=nr_t ((a,false)::((rfN x).take k).map fun r=>(r,true))
      by_cases hkr:k < (rfN x).length
      · have hq3 := iA_at' hkr
        have us:(((a,false)::((rfN x).take k).map fun r=>((r,true):Tk)).map tA).take (k+1)++[.agg [I (rfN x)[k],.v (.bool true)]]=((a,false)::((rfN x).take (k+1)).map fun r=>(r,true)).map tA:=by
          rw [List.take_of_length_le (by omega),List.take_succ_eq_append_getElem hkr];simp only [List.map_append,List.map_cons,List.map_nil,List.cons_append];rfl
        have rk2:=nr_t ((a,false)::((rfN x).take (k+1)).map fun r=>(r,true))
        generalize (rfN x)[k]=c at *
        repeat' ((conv=>whnf);first|(with_reducible refine SeqP.go ?_)|((with_reducible refine ObD.mk ?_ ?_);(focus (first|rfl|(simp;done))))|((with_reducible refine ObN.mk ?_ ?_);(focus exact zN))|(with_reducible refine ObT.tt ?_)|((with_reducible refine ObB.yes ?_ ?_);(focus (first|assumption|(with_reducible rfl)|omega)))|((with_reducible refine ObI.nl ?_ ?_);(focus omega))|((with_reducible refine ObX.mk _ rfl ?_ ?_);(focus exact zX))|((with_reducible refine (?_:ObL _ _));(refine ObL.mk _ zM ?_))|((with_reducible refine (?_:ObU _ _));(refine ObU.mk _ (by first|exact us|assumption|((conv=>lhs;simp only [List.set_cons_zero,List.set_cons_succ,List.take_succ_cons,List.take_zero,List.drop_succ_cons,List.drop_zero,List.nil_append,List.cons_append,List.append_nil,List.take_nil,List.drop_nil]);try rfl)|rfl) ?_))|((with_reducible refine (?_:ObR _ _ _));(first|(refine ObR.mk _ (by assumption) ?_)|(refine ObR.mk _ (by with_reducible rfl) ?_)|(refine ObR.map zX (fun x hx=>?_))|(refine ObR.mk _ rfl ?_))))
        conv=>whnf
        refine Again.mk (k+1) (by omega) (by omega) (Fg.vw [(0,0,0),(0,1,0),(0,2,0),(0,3,0),(0,4,0),(0,5,1)] ?_ ?_ (by simp) ?_)
        all_goals repeat' ((conv=>whnf);first|((with_reducible refine ObN.mk ?_ ?_);(focus exact zN))|((with_reducible refine ObRn.mk ?_ ?_);(focus (first|rfl|(simp [rnB,rnC,rnL];done))))|((with_reducible refine ObRow.same ?_ ?_ ?_);(focus (first|rfl|assumption));(focus (first|rfl|assumption|(simp;done))))|((with_reducible refine ObEqs.mk ?_ ?_);(focus rfl))|exact True.intro)
      obtain rfl:k=(rfN x).length:=by omega
      rw [List.take_length] at hkl rk ⊢
      by_cases h4:x.kn=4
      · obtain ⟨t1, t2, t3⟩ := htr h4
        have k0:(x.kk.map iA)[0]? = some (I (x.kk.getD 0 0)):=by rw [iA_at' (by omega)];simp [List.getD_eq_getElem?_getD,List.getElem?_eq_getElem (show 0 < x.kk.length by omega)]
        have k1:(x.kk.map iA)[1]? = some (I (x.kk.getD 1 0)):=by rw [iA_at' (by omega)];simp [List.getD_eq_getElem?_getD,List.getElem?_eq_getElem (show 1 < x.kk.length by omega)]
        have ht:tasks a x=[(x.kk.getD 0 0,true),(a,false),(x.kk.getD 1 0,true)]:=by unfold tasks;rw [if_pos h4]
        rw [ht] at hT2 hlt2
        generalize x.kk.getD 0 0=ka at *
        generalize x.kk.getD 1 0=kb at *
        have hrev:HC Try.prog G 25 [.ol 0 0 3] [⟨54,2,[.agg [I ka,.v (.bool true)],.agg [I a,.v (.bool false)],.agg [I kb,.v (.bool true)]],0,0⟩] (.tup []) [⟨54,2,[.agg [I kb,.v (.bool true)],.agg [I a,.v (.bool false)],.agg [I ka,.v (.bool true)]],0,0⟩]:=rev25 G [(ka,true),(a,false),(kb,true)] 0 (by simp) (by simp)
        have uf:((ts'++((a,true)::jk)).map tA).take ts'.length++[.agg [I kb,.v (.bool true)],.agg [I a,.v (.bool false)],.agg [I ka,.v (.bool true)]]=(ts'++[(ka,true),(a,false),(kb,true)].reverse).map tA:=by
          rw [List.map_append,List.take_left' (by simp),List.map_append];rfl
        have lf:ts'.length+3=(ts'++[(ka,true),(a,false),(kb,true)].reverse).length:=by simp
        have rf1:=nr_t (ts'++[(ka,true),(a,false),(kb,true)].reverse)
        have rlit:([.agg [I ka,.v (.bool true)],.agg [I a,.v (.bool false)],.agg [I kb,.v (.bool true)]]:List AV).all nrB=true:=nr_t [(ka,true),(a,false),(kb,true)]
        clear hT ht
        repeat' ((conv=>whnf);first|(with_reducible refine SeqP.go ?_)|((with_reducible refine ObD.mk ?_ ?_);(focus (first|rfl|(simp;done))))|((with_reducible refine ObN.mk ?_ ?_);(focus exact zN))|(with_reducible refine ObT.tt ?_)|(with_reducible refine ObT.ff ?_)|((with_reducible refine ObB.yes ?_ ?_);(focus (first|assumption|(with_reducible rfl)|omega)))|((with_reducible refine ObB.no ?_ ?_);(focus (first|assumption|omega)))|((with_reducible refine ObX.mk _ rfl ?_ ?_);(focus exact zX))|((with_reducible refine (?_:ObL _ _));(refine ObL.mk _ (by first|exact lf|exact (List.length_map _)|assumption|exact (List.length_map _).trans (by assumption)|exact List.length_map _|rfl) ?_))|((with_reducible refine (?_:ObU _ _));(refine ObU.mk _ (by first|exact uf|assumption|((conv=>lhs;simp only [List.set_cons_zero,List.set_cons_succ,List.take_succ_cons,List.take_zero,List.drop_succ_cons,List.drop_zero,List.nil_append,List.cons_append,List.append_nil,List.take_nil,List.drop_nil]);try rfl)|rfl) ?_))|((with_reducible refine (?_:ObR _ _ _));(first|(refine ObR.mk _ (by assumption) ?_)|(refine ObR.mk _ (by with_reducible rfl) ?_)|(refine ObR.map zX (fun x hx=>?_))|(refine ObR.mk _ rfl ?_)))|((with_reducible refine ObH.f 25 ?_);refine ObH.frn _ (by simp only [List.length_cons,List.length_nil,Nat.reduceAdd];rfl) [(0,6,0)] (hrev) (by simp) rfl (by simp) ?_)|((with_reducible refine ObRow.same ?_ ?_ ?_);(focus (first|rfl|assumption));(focus (first|rfl|assumption|(simp;done))))|((with_reducible refine ObAs.mk ?_ ?_);(focus (first|rfl|(simp [rnB,rnC,rnL];done))))|((with_reducible refine (?_:ObRs _ _ _));(refine ObRs.mk _ rfl ?_))|((with_reducible refine ObBk.same ?_ ?_);(focus (first|rfl|assumption|(simp;done)))))
        conv=>whnf
        refine Again.mk (ts'++[(ka,true),(a,false),(kb,true)].reverse,[],(o0::ot)) hT2 hlt2 ?_
        rw [List.append_nil]
        refine Fg.vw [(0,0,1),(0,1,0)] ?_ ?_ (by simp) ?_
        all_goals repeat' ((conv=>whnf);first|((with_reducible refine ObN.mk ?_ ?_);(focus exact zN))|((with_reducible refine ObRn.mk ?_ ?_);(focus (first|rfl|(simp [rnB,rnC,rnL];done))))|((with_reducible refine ObRow.same ?_ ?_ ?_);(focus (first|rfl|assumption));(focus (first|rfl|assumption|(simp;done))))|((with_reducible refine ObEqs.mk ?_ ?_);(focus rfl))|exact True.intro)
      · have ht:tasks a x=(a,false)::(rfN x).map fun r=>(r,true):=by unfold tasks;rw [if_neg h4]
        rw [ht] at hT2 hlt2
        have hrev:HC Try.prog G 25 [.ol 0 0 ((rfN x).length+1)] [⟨54,2,((a,false)::(rfN x).map fun r=>((r,true):Tk)).map tA,0,0⟩] (.tup []) [⟨54,2,((a,false)::(rfN x).map fun r=>((r,true):Tk)).reverse.map tA,0,0⟩]:=by
          have:=rev25 G ((a,false)::(rfN x).map fun r=>(r,true)) 0 (by simp;omega) (by simp)
          rwa [show ((a,false)::(rfN x).map fun r=>((r,true):Tk)).length=(rfN x).length+1 by simp] at this
        have rf2:=nr_t ((a,false)::(rfN x).map fun r=>((r,true):Tk)).reverse
        have rl2:((a,false)::(rfN x).map fun r=>((r,true):Tk)).reverse.length=(rfN x).length+1:=by simp
        generalize ((a,false)::(rfN x).map fun r=>((r,true):Tk))=nx at *
        have uf:((ts'++((a,true)::jk)).map tA).take ts'.length++(nx.reverse.map tA).take ((rfN x).length+1)=(ts'++nx.reverse).map tA:=by
          rw [List.map_append,List.take_left' (by simp),List.map_append,List.take_of_length_le (by rw [List.length_map];omega)]
        have uf2:(nx.reverse.map tA).take ((rfN x).length+1)=nx.reverse.map tA:=List.take_of_length_le (by rw [List.length_map];omega)
        have uf3:((ts'++((a,true)::jk)).map tA).take ts'.length++nx.reverse.map tA=(ts'++nx.reverse).map tA:=by rw [← uf,uf2]
        have lf:ts'.length+((rfN x).length+1)=(ts'++nx.reverse).length:=by rw [List.length_append,rl2]
        have lf2:ts'.length+(nx.reverse.map tA).length=(ts'++nx.reverse).length:=by simp
        have rf1:=nr_t (ts'++nx.reverse)
        clear hT ht htr
        repeat' ((conv=>whnf);first|(with_reducible refine SeqP.go ?_)|((with_reducible refine ObN.mk ?_ ?_);(focus exact zN))|(with_reducible refine ObT.ff ?_)|((with_reducible refine ObB.no ?_ ?_);(focus (first|assumption|omega)))|((with_reducible refine (?_:ObL _ _));(refine ObL.mk _ (by first|exact lf|exact lf2|exact (List.length_map _)|assumption|exact (List.length_map _).trans (by assumption)|exact List.length_map _|rfl) ?_))|((with_reducible refine (?_:ObU _ _));(refine ObU.mk _ (by first|exact uf|exact uf2|exact uf3|assumption|((conv=>lhs;simp only [List.set_cons_zero,List.set_cons_succ,List.take_succ_cons,List.take_zero,List.drop_succ_cons,List.drop_zero,List.nil_append,List.cons_append,List.append_nil,List.take_nil,List.drop_nil]);try rfl)|rfl) ?_))|((with_reducible refine (?_:ObR _ _ _));(first|(refine ObR.mk _ (by assumption) ?_)|(refine ObR.mk _ (by with_reducible rfl) ?_)|(refine ObR.map zX (fun x hx=>?_))|(refine ObR.mk _ rfl ?_)))|((with_reducible refine ObH.f 25 ?_);refine ObH.frn _ (by simp only [List.length_cons,List.length_nil,Nat.reduceAdd];rfl) [(0,5,0)] (hrev) (by simp) rfl (by simp) ?_)|((with_reducible refine ObRow.same ?_ ?_ ?_);(focus (first|rfl|assumption));(focus (first|rfl|assumption|(simp;done))))|((with_reducible refine ObAs.mk ?_ ?_);(focus (first|rfl|(simp [rnB,rnC,rnL];done))))|((with_reducible refine (?_:ObRs _ _ _));(refine ObRs.mk _ rfl ?_))|((with_reducible refine ObBk.same ?_ ?_);(focus (first|rfl|assumption|(simp;done)))))
        conv=>whnf
        refine Again.mk (ts'++nx.reverse,[],(o0::ot)) hT2 hlt2 ?_
        rw [List.append_nil]
        refine Fg.vw [(0,0,1),(0,1,0)] ?_ ?_ (by simp) ?_
        all_goals repeat' ((conv=>whnf);first|((with_reducible refine ObN.mk ?_ ?_);(focus exact zN))|((with_reducible refine ObRn.mk ?_ ?_);(focus (first|rfl|(simp [rnB,rnC,rnL];done))))|((with_reducible refine ObRow.same ?_ ?_ ?_);(focus (first|rfl|assumption));(focus (first|rfl|assumption|(simp;done))))|((with_reducible refine ObEqs.mk ?_ ?_);(focus rfl))|exact True.intro)
end
end Go.Proofs.Ytghbpplcgjeohaa.Sim
namespace Go.Proofs.Ytghbpplcgjeohaa.Sim
open Go.RowKit
set_option maxRecDepth 100000
def dp (h:List Nd):Nat→Int→Int
  | 0,_=>0
  | n+1,r=>if r≤0 then 0 else match h[(r - 1).toNat]? with
    | none=>0
    | some x=>mxL 0 ((rfN x).map (dp h n))+1
theorem mxL_ge {l:List Int}:∀ {a:Int},a≤mxL a l:=by
  induction l with
  | nil=>intro a;exact Int.le_refl a
  | cons x t ih =>
    intro a
    have h:mxL a (x::t)=mxL (mxI a x) t:=rfl
    have h2:=@ih (mxI a x)
    have h3:a≤mxI a x:=by unfold mxI;split<;>omega
    rw [h];omega
theorem dp_bd {h:List Nd}:∀ {n:Nat} {r:Int},0≤dp h n r∧dp h n r≤(n:Int):=by
  intro n
  induction n with
  | zero=>intro r;simp [dp]
  | succ n ih =>
    intro r
    rw [dp];split
    · omega
    · split
      · omega
      · rename_i x hx
        have h1:mxL 0 ((rfN x).map (dp h n))≤(n:Int):=mxL_le.2 ⟨by omega,fun r hr=>by
          obtain ⟨a,_,rfl⟩:=List.mem_map.1 hr
          exact (@ih a).2⟩
        have h2:0≤mxL 0 ((rfN x).map (dp h n)):=mxL_ge
        omega
theorem dp_fuel {h:List Nd} (hh:aH h h.length=true):∀ {n m:Nat} {r:Int},r≤(n:Int)→r≤(m:Int)→dp h n r=dp h m r:=by
  intro n
  induction n with
  | zero =>
    intro m r h1 h2
    cases m with
    | zero=>rfl
    | succ m=>rw [dp,dp,if_pos (by omega)]
  | succ n ih =>
    intro m r h1 h2
    cases m with
    | zero=>rw [dp,dp,if_pos (by omega)]
    | succ m =>
      rw [dp,dp]
      by_cases h0:r≤0
      · rw [if_pos h0,if_pos h0]
      rw [if_neg h0,if_neg h0]
      rcases Nat.lt_or_ge (r - 1).toNat h.length with hi|hi
      · have ho := okH_of hh hi
        rw [List.getElem?_eq_getElem hi]
        dsimp only
        have e:(rfN h[(r - 1).toNat]).map (dp h n)=(rfN h[(r - 1).toNat]).map (dp h m):=List.map_congr_left fun r' hr'=>by
          have:=okH_ref ho hr'
          exact ih (by omega) (by omega)
        rw [e]
      · rw [List.getElem?_eq_none hi]
def Dp (h:List Nd) (r:Int):Int:=dp h h.length r
theorem Dp_0 {h:List Nd} {r:Int} (h0:r≤0):Dp h r=0:=by
  unfold Dp;cases h.length with
  | zero=>rfl
  | succ n=>rw [dp,if_pos h0]
theorem Dp_bd {h:List Nd} {r:Int}:0≤Dp h r∧Dp h r≤(h.length:Int):=dp_bd
theorem Dp_eq {h:List Nd} (hh:aH h h.length=true) {i:Nat} (hi:i < h.length):Dp h ((i:Int)+1)=mxL 0 ((rfN h[i]).map (Dp h))+1:=by
  have e:Dp h ((i:Int)+1)=dp h (h.length+1) ((i:Int)+1):=dp_fuel hh (by omega) (by omega)
  rw [e,dp,if_neg (by omega)]
  have e2:((i:Int)+1 - 1).toNat=i:=by omega
  simp only [e2,List.getElem?_eq_getElem hi]
  rfl
theorem mxm_snoc {f:Int→Int} {l:List Int} {k:Nat} (hk:k < l.length):mxL 0 ((l.take (k+1)).map f)=mxI (mxL 0 ((l.take k).map f)) (f l[k]):=by
  rw [List.take_succ_eq_append_getElem hk,List.map_append,mxL,List.foldl_append];rfl
theorem mxm_bd {h:List Nd} {l:List Int}:0≤mxL 0 (l.map (Dp h))∧mxL 0 (l.map (Dp h))≤(h.length:Int) :=
  ⟨mxL_ge,mxL_le.2 ⟨by omega,fun r hr=>by
    obtain ⟨a,_,rfl⟩:=List.mem_map.1 hr
    exact Dp_bd.2⟩⟩
def dlR (h:List Nd) (n i:Nat):List Int:=((List.range (i+1)).map fun (k:Nat)=>Dp h (k:Int))++List.replicate (n - i) 0
theorem dlR_len {h:List Nd} {n i:Nat} (hi:i≤n):(dlR h n i).length=n+1:=by simp [dlR];omega
theorem dlR_0 {h:List Nd} {n:Nat}:dlR h n 0=List.replicate (n+1) 0:=by
  have e:Dp h ((0:Nat):Int)=0:=Dp_0 (by omega)
  simp [dlR,List.range_succ,List.replicate_succ]
  exact e
theorem dlR_at {h:List Nd} {n i:Nat} {k:Nat} (hk:k≤i):(dlR h n i)[k]? = some (Dp h (k:Int)):=by
  rw [dlR,List.getElem?_append_left (by simp;omega)]
  simp [show k < i+1 by omega]
theorem dlR_z {h:List Nd} {n i:Nat} (hi:i < n):(dlR h n i)[i+1]? = some 0:=by
  rw [dlR,List.getElem?_append_right (by simp)]
  simp [show 0 < n - i by omega]
theorem dlR_set {h:List Nd} {n i:Nat} (hi:i < n) {c:Int} (hc:c=Dp h ((i:Int)+1)):(dlR h n i).set (i+1) c=dlR h n (i+1):=by
  have e:n - i=(n - (i+1))+1:=by omega
  have e3:((List.range (i+1)).map fun (k:Nat)=>Dp h (k:Int)).length=i+1:=by simp
  rw [dlR,dlR,e,List.replicate_succ,List.set_append_right _ _ (by omega),e3,Nat.sub_self,List.set_cons_zero]
  rw [List.range_succ (n:=i+1),List.map_append]
  simp [hc]
theorem iA_set {l:List Int} {k:Nat} {c:Int}:(l.map iA).set k (.v (.int .i64 c))=(l.set k c).map iA:=by simp [iA,List.map_set]
theorem iA_rep {n:Nat}:List.replicate n (AV.v (.int .i64 0))=(List.replicate n (0:Int)).map iA:=by simp [iA]
theorem iA_g {l:List Int} {k:Nat} {c:Int} (h:l[k]? = some c):(l.map iA)[k]? = some (.v (.int .i64 c)):=by simp [h,iA]
section
variable (G:Nat→AV)
set_option maxHeartbeats 8000000 in
theorem ddepth (h:List Nd) (hl:h.length≤1000) (hx:∀ x ∈ h,x.Ok) (hh:aH h h.length=true):∀ (N:Nat) (r:Int),0≤r→r≤(N:Int)→r≤(h.length:Int)→PC Try.prog G 17 [.sl 9 (h.map nA),I r] (I (Dp h r)):=by
  intro N
  induction N with
  | zero =>
    intro r h0 h1 h2
    obtain rfl:r=0:=by omega
    rw [Dp_0 (Int.le_refl 0)]
    refine pc_ofV cop17 ?_
    repeat' ((conv=>whnf);first|(with_reducible refine SeqP.go ?_)|((with_reducible refine ObN.mk ?_ ?_);(focus exact zN))|(with_reducible refine ObT.tt ?_)|((with_reducible refine ObB.yes ?_ ?_);(focus (first|assumption|(with_reducible rfl)|omega)))|((with_reducible refine ObEq.i ?_);(focus (first|(with_reducible rfl)|omega))))
  | succ N ih =>
    intro r h0 h1 h2
    by_cases hz:r=0
    · subst hz
      rw [Dp_0 (Int.le_refl 0)]
      refine pc_ofV cop17 ?_
      repeat' ((conv=>whnf);first|(with_reducible refine SeqP.go ?_)|((with_reducible refine ObN.mk ?_ ?_);(focus exact zN))|(with_reducible refine ObT.tt ?_)|((with_reducible refine ObB.yes ?_ ?_);(focus (first|assumption|(with_reducible rfl)|omega)))|((with_reducible refine ObEq.i ?_);(focus (first|(with_reducible rfl)|omega))))
    obtain ⟨i,rfl⟩:∃ i:Nat,r=(i:Int)+1:=⟨(r - 1).toNat,by omega⟩
    have hil:i < h.length:=by omega
    have hq:=nA_at hil
    have hxo:=hx _ (List.getElem_mem hil)
    have ho:=okH_of hh hil
    have hrf:=refs32 G h[i] hxo
    have hrl:=rf_len hxo
    have hri:=rf_i64 hxo
    have hD:=Dp_eq hh hil
    have hrr:∀ r ∈ rfN h[i],1≤r∧r≤(i:Int):=fun r hr=>okH_ref ho hr
    clear ho
    generalize h[i]=x at *
    rw [← show ((i:Int)+1 - 1).toNat=i by omega] at hq
    rw [hD]
    refine pc_ofV cop17 ?_
    repeat' ((conv=>whnf);first|(with_reducible refine SeqP.go ?_)|((with_reducible refine ObD.mk ?_ ?_);(focus (first|rfl|(simp;done))))|((with_reducible refine ObN.mk ?_ ?_);(focus exact zN))|(with_reducible refine ObT.ff ?_)|((with_reducible refine ObB.no ?_ ?_);(focus (first|assumption|omega)))|((with_reducible refine ObI.mk _ rfl ?_ ?_ ?_);(focus omega);(focus omega))|((with_reducible refine ObX.int ?_ ?_ ?_);(focus exact zX);(focus exact zX))|((with_reducible refine (?_:ObR _ _ _));(first|(refine ObR.mk _ (by assumption) ?_)|(refine ObR.mk _ (by with_reducible rfl) ?_)|(refine ObR.map zX (fun x hx=>?_))|(refine ObR.mk _ rfl ?_)))|((with_reducible refine ObC.f 20 ?_);(first|(with_reducible refine ObC.mk _ (hrf) ?_)|(refine ObC.mk _ (hrf) ?_))))
    conv=>whnf
    refine LoopP.go (α:=Nat × Int) (fun p=>p.1≤(rfN x).length∧p.2=mxL 0 (((rfN x).take p.1).map (Dp h))) (fun p=>(rfN x).length - p.1) (fun p=>[(5,some (I p.2)),(1,some (I p.1)),(8,none),(0,none),(0,none),(0,none),(0,none),(0,none),(0,none),(0,none),(0,none),(0,none),(0,none),(0,none),(0,none),(0,none)]) (fun p=>[]) (0,0) ⟨Nat.zero_le _,rfl⟩ (Fg.go ?_ rfl) ?_
    · repeat' ((conv=>whnf);first|((with_reducible refine ObEqs.mk ?_ ?_);(focus rfl))|((with_reducible refine ObEq1.i ?_ ?_);(focus (first|(with_reducible rfl)|omega)))|exact True.intro)
    rintro ⟨k,d⟩ ⟨hk,hd⟩
    dsimp only at hk hd ⊢
    have hdb:=mxm_bd (h:=h) (l:=(rfN x).take k)
    rw [← hd] at hdb
    by_cases hkr:k < (rfN x).length
    · have hq2 := iA_at' hkr
      have hmem:=List.getElem_mem hkr
      have hr1:=hrr _ hmem
      have ihr:=ih (rfN x)[k] (by omega) (by omega) (by omega)
      have lb:=Dp_bd (h:=h) (r:=(rfN x)[k])
      have hs:=mxm_snoc (f:=Dp h) hkr
      rw [← hd] at hs
      generalize (rfN x)[k]=r at *
      generalize Dp h r=e at *
      have hmx:(if d < e then e else d)=mxI d e:=rfl
      repeat' ((conv=>whnf);first|(with_reducible refine SeqP.go ?_)|(with_reducible refine ObZ.mk _ hmx ?_)|((with_reducible refine ObN.mk ?_ ?_);(focus exact zN))|(with_reducible refine ObT.tt ?_)|((with_reducible refine ObB.yes ?_ ?_);(focus (first|assumption|(with_reducible rfl)|omega)))|((with_reducible refine ObI.nl ?_ ?_);(focus omega))|((with_reducible refine ObX.mk _ rfl ?_ ?_);(focus exact zX))|((with_reducible refine (?_:ObL _ _));(refine ObL.mk _ zM ?_))|((with_reducible refine (?_:ObR _ _ _));(first|(refine ObR.mk _ (by assumption) ?_)|(refine ObR.mk _ (by with_reducible rfl) ?_)|(refine ObR.map zX (fun x hx=>?_))|(refine ObR.mk _ rfl ?_)))|((with_reducible refine ObC.f 17 ?_);(first|(with_reducible refine ObC.mk _ (ihr) ?_)|(refine ObC.mk _ (ihr) ?_)))|(with_reducible refine ObE.max ?_))
      conv=>whnf
      refine Again.mk (k+1,mxI d e) ⟨by dsimp only;omega,by dsimp only;rw [hs]⟩ (by dsimp only;omega) (Fg.go ?_ rfl)
      repeat' ((conv=>whnf);first|((with_reducible refine ObEqs.mk ?_ ?_);(focus rfl))|((with_reducible refine ObEq1.i ?_ ?_);(focus (first|(with_reducible rfl)|omega)))|exact True.intro)
    · obtain rfl : k = (rfN x).length := by omega
      rw [List.take_length] at hd
      rw [← hd]
      repeat' ((conv=>whnf);first|(with_reducible refine SeqP.go ?_)|((with_reducible refine ObN.mk ?_ ?_);(focus exact zN))|(with_reducible refine ObT.ff ?_)|((with_reducible refine ObB.no ?_ ?_);(focus (first|assumption|omega)))|((with_reducible refine ObI.mk _ rfl ?_ ?_ ?_);(focus omega);(focus omega))|((with_reducible refine (?_:ObL _ _));(refine ObL.mk _ zM ?_))|((with_reducible refine ObEq.i ?_);(focus (first|(with_reducible rfl)|omega))))
set_option maxHeartbeats 8000000 in
theorem depth14 (h:List Nd) (hl:h.length≤1000) (hx:∀ x ∈ h,x.Ok) (r:Int) (hr:i64 r) (c:Bool) (hc:c=okR h r):PC Try.prog G 14 [.sl 9 (h.map nA),I r] (.tup [I (if c then Dp h r else 0),I (eo c)]):=by
  have hm:=may21 G h hl hx r c hc
  cases c
  · simp only [eo, Bool.false_eq_true, if_false] at hm ⊢
    refine pc_ofV cop14 ?_
    repeat' ((conv=>whnf);first|(with_reducible refine SeqP.go ?_)|((with_reducible refine ObN.mk ?_ ?_);(focus exact zN))|(with_reducible refine ObT.tt ?_)|((with_reducible refine ObB.no ?_ ?_);(focus (first|assumption|omega)))|((with_reducible refine ObC.f 21 ?_);(first|(with_reducible refine ObC.mk _ (hm) ?_)|(refine ObC.mk _ (hm) ?_)))|((with_reducible refine ObEq.mk ?_);(focus (first|rfl|assumption))))
  · simp only [eo, if_true] at hm ⊢
    have hc':=hc.symm
    simp only [okR,Bool.and_eq_true,decide_eq_true_eq] at hc'
    obtain ⟨⟨h0,h1⟩,hh⟩:=hc'
    clear hc
    obtain ⟨n,rfl⟩:∃ n:Nat,r=(n:Int):=⟨r.toNat,by omega⟩
    have hnl:n≤h.length:=by omega
    have ut:(h.map nA).take n=(h.take n).map nA:=by rw [List.map_take]
    have htl:((h.take n).map nA).length=n:=by simp;omega
    have ur:List.replicate (n+1) (AV.v (.int .i64 0))=(dlR h n 0).map iA:=by rw [dlR_0,iA_rep]
    refine pc_ofV cop14 ?_
    repeat' ((conv=>whnf);first|(with_reducible refine SeqP.go ?_)|((with_reducible refine ObN.mk ?_ ?_);(focus exact zN))|(with_reducible refine ObT.ff ?_)|((with_reducible refine ObB.yes ?_ ?_);(focus (first|assumption|(with_reducible rfl)|omega)))|((with_reducible refine ObI.nl ?_ ?_);(focus omega))|((with_reducible refine (?_:ObL _ _));(refine ObL.mk _ (by first|exact htl|exact (List.length_map _)|assumption|exact (List.length_map _).trans (by assumption)|exact List.length_map _|rfl) ?_))|((with_reducible refine (?_:ObU _ _));(refine ObU.mk _ (by first|exact ut|exact ur|assumption|((conv=>lhs;simp only [List.set_cons_zero,List.set_cons_succ,List.take_succ_cons,List.take_zero,List.drop_succ_cons,List.drop_zero,List.nil_append,List.cons_append,List.append_nil,List.take_nil,List.drop_nil]);try rfl)|rfl) ?_))|((with_reducible refine ObC.f 21 ?_);(first|(with_reducible refine ObC.mk _ (hm) ?_)|(refine ObC.mk _ (hm) ?_)))|((with_reducible refine ObJ.zn ?_ ?_);(focus exact zX)))
    conv=>whnf
    refine LoopP.go (α:=Nat) (fun i=>i≤n) (fun i=>n - i) (fun i=>[(8,none),(0,none),(1,none),(13,some (I i)),(0,none),(0,none),(0,none),(0,none),(0,none),(0,none),(0,none),(0,none),(0,none),(0,none),(0,none),(0,none),(0,none),(0,none),(0,none),(0,none),(0,none),(0,none),(0,none),(0,none),(0,none),(0,none),(0,none),(0,none),(0,none),(0,none),(0,none),(0,none),(0,none),(0,none),(0,none),(0,none),(0,none),(0,none)]) (fun i=>[⟨3,1,(dlR h n i).map iA,0,0⟩]) 0 (Nat.zero_le _) (Fg.go ?_ (by rw [dlR_0,← iA_rep])) ?_
    · repeat' ((conv=>whnf);first|((with_reducible refine ObEqs.mk ?_ ?_);(focus rfl))|((with_reducible refine ObEq1.i ?_ ?_);(focus (first|(with_reducible rfl)|omega)))|exact True.intro)
    rintro i hi
    have hdl:=dlR_len (h:=h) hi
    have rn:=nr_i (dlR h n i)
    by_cases hil:i < n
    · have hil2 : i < h.length := by omega
      have hq:=nA_at hil2
      rw [← List.getElem?_take_of_lt hil,ut] at hq
      have hxo:=hx _ (List.getElem_mem hil2)
      have ho:=okH_of hh hil2
      have hrf:=refs30 G h[i] hxo
      have hrl:=rf_len hxo
      have hri:=rf_i64 hxo
      have hD:=Dp_eq hh hil2
      have hDb:=Dp_bd (h:=h) (r:=(i:Int)+1)
      have hrr:∀ r ∈ rfN h[i],1≤r∧r≤(i:Int):=fun r hr=>okH_ref ho hr
      clear ho
      generalize h[i]=x at *
      have hz:=dlR_z (h:=h) hil
      repeat' ((conv=>whnf);first|(with_reducible refine SeqP.go ?_)|((with_reducible refine ObD.mk ?_ ?_);(focus (first|rfl|(simp;done))))|((with_reducible refine ObN.mk ?_ ?_);(focus exact zN))|(with_reducible refine ObT.tt ?_)|((with_reducible refine ObB.yes ?_ ?_);(focus (first|assumption|(with_reducible rfl)|omega)))|((with_reducible refine ObX.mk _ rfl ?_ ?_);(focus exact zX))|((with_reducible refine (?_:ObL _ _));(refine ObL.mk _ (by first|exact htl|exact (List.length_map _)|assumption|exact (List.length_map _).trans (by assumption)|exact List.length_map _|rfl) ?_))|((with_reducible refine (?_:ObU _ _));(refine ObU.mk _ zU ?_))|((with_reducible refine (?_:ObR _ _ _));(first|(refine ObR.mk _ (by assumption) ?_)|(refine ObR.mk _ (by with_reducible rfl) ?_)|(refine ObR.map zX (fun x hx=>?_))|(refine ObR.mk _ rfl ?_)))|((with_reducible refine ObC.f 24 ?_);(first|(with_reducible refine ObC.mk _ (hrf) ?_)|(refine ObC.mk _ (hrf) ?_))))
      conv=>whnf
      refine LoopP.go (α:=Nat) (fun k=>k≤(rfN x).length) (fun k=>(rfN x).length - k) (fun k=>[(9,none),(1,none),(21,some (I k)),(0,none),(0,none),(0,none),(0,none),(0,none),(0,none),(0,none),(0,none),(0,none),(0,none),(0,none),(0,none),(0,none),(0,none),(0,none),(0,none),(0,none),(0,none)]) (fun k=>[⟨3,1,((dlR h n i).set (i+1) (mxL 0 (((rfN x).take k).map (Dp h)))).map iA,0,0⟩]) 0 (Nat.zero_le _) ?_ ?_
      · have e0 : (dlR h n i).set (i + 1) (mxL 0 (((rfN x).take 0).map (Dp h))) = dlR h n i := by
          apply List.ext_getElem?;intro j
          by_cases hj:i+1=j
          · subst hj
            rw [List.getElem?_set_self (by omega),hz];rfl
          · rw [List.getElem?_set_ne hj]
        rw [e0]
        refine Fg.vw [(0,0,0)] ?_ ?_ (by simp) ?_
        all_goals repeat' ((conv=>whnf);first|((with_reducible refine ObN.mk ?_ ?_);(focus exact zN))|((with_reducible refine ObRn.mk ?_ ?_);(focus (first|rfl|(simp [rnB,rnC,rnL];done))))|((with_reducible refine ObRow.same ?_ ?_ ?_);(focus (first|rfl|assumption));(focus (first|rfl|assumption|(simp;done))))|((with_reducible refine ObEqs.mk ?_ ?_);(focus rfl))|exact True.intro)
      rintro k hk
      obtain ⟨d,hd⟩:∃ d,d=mxL 0 (((rfN x).take k).map (Dp h)):=⟨_,rfl⟩
      have hdb:=mxm_bd (h:=h) (l:=(rfN x).take k)
      rw [← hd] at hdb ⊢
      obtain ⟨R,hR⟩:∃ R:List Int,R=(dlR h n i).set (i+1) d:=⟨_,rfl⟩
      rw [← hR]
      have hRl:R.length=n+1:=by rw [hR];simpa using hdl
      have g1:(R.map iA)[i+1]? = some (.v (.int .i64 d)):=iA_g (by rw [hR];exact List.getElem?_set_self (by omega))
      have rn2:=nr_i R
      by_cases hkr:k < (rfN x).length
      · have hq2 := iA_at' hkr
        have hmem:=List.getElem_mem hkr
        have hr1:=hrr _ hmem
        have lb:=Dp_bd (h:=h) (r:=(rfN x)[k])
        have hs:=mxm_snoc (f:=Dp h) hkr
        rw [← hd] at hs
        generalize (rfN x)[k]=r at *
        have g2:(R.map iA)[r.toNat]? = some (.v (.int .i64 (Dp h r))):=iA_g (by
          rw [hR,List.getElem?_set_ne (by omega),dlR_at (by omega)]
          congr 2;omega)
        generalize Dp h r=e at *
        have hmx:(if d < e then e else d)=mxI d e:=rfl
        have us:(R.map iA).set (i+1) (.v (.int .i64 (mxI d e)))=(R.set (i+1) (mxI d e)).map iA:=iA_set
        have e2:(dlR h n i).set (i+1) (mxL 0 (((rfN x).take (k+1)).map (Dp h)))=R.set (i+1) (mxI d e):=by rw [hs,hR,List.set_set]
        have rn4:=nr_i (R.set (i+1) (mxI d e))
        clear hR hd
        repeat' ((conv=>whnf);first|(with_reducible refine SeqP.go ?_)|(with_reducible refine ObZ.mk _ hmx ?_)|((with_reducible refine ObD.mk ?_ ?_);(focus (first|rfl|(simp;done))))|((with_reducible refine ObN.mk ?_ ?_);(focus exact zN))|(with_reducible refine ObT.tt ?_)|((with_reducible refine ObB.yes ?_ ?_);(focus (first|assumption|(with_reducible rfl)|omega)))|((with_reducible refine ObI.nl ?_ ?_);(focus omega))|((with_reducible refine ObX.mk _ rfl ?_ ?_);(focus exact zX))|((with_reducible refine ObX.int ?_ ?_ ?_);(focus exact zX);(focus exact zX))|((with_reducible refine (?_:ObU _ _));(refine ObU.mk _ (by first|exact us|assumption|((conv=>lhs;simp only [List.set_cons_zero,List.set_cons_succ,List.take_succ_cons,List.take_zero,List.drop_succ_cons,List.drop_zero,List.nil_append,List.cons_append,List.append_nil,List.take_nil,List.drop_nil]);try rfl)|rfl) ?_))|((with_reducible refine (?_:ObR _ _ _));(first|(refine ObR.mk _ (by assumption) ?_)|(refine ObR.mk _ (by with_reducible rfl) ?_)|(refine ObR.map zX (fun x hx=>?_))|(refine ObR.mk _ rfl ?_)))|(with_reducible refine ObE.max ?_))
        conv=>whnf
        refine Again.mk (k+1) (by omega) (by omega) ?_
        rw [e2]
        refine Fg.vw [(0,0,0)] ?_ ?_ (by simp) ?_
        all_goals repeat' ((conv=>whnf);first|((with_reducible refine ObN.mk ?_ ?_);(focus exact zN))|((with_reducible refine ObRn.mk ?_ ?_);(focus (first|rfl|(simp [rnB,rnC,rnL];done))))|((with_reducible refine ObRow.same ?_ ?_ ?_);(focus (first|rfl|assumption));(focus (first|rfl|assumption|(simp;done))))|((with_reducible refine ObEqs.mk ?_ ?_);(focus rfl))|exact True.intro)
      · obtain rfl : k = (rfN x).length := by omega
        rw [List.take_length] at hd
        rw [← hd] at hD
        have us:(R.map iA).set (i+1) (.v (.int .i64 (d+1)))=(dlR h n (i+1)).map iA:=by rw [iA_set,hR,List.set_set,dlR_set hil hD.symm]
        have rn3:=nr_i (dlR h n (i+1))
        clear hR hd
        repeat' ((conv=>whnf);first|(with_reducible refine SeqP.go ?_)|((with_reducible refine ObD.mk ?_ ?_);(focus (first|rfl|(simp;done))))|((with_reducible refine ObN.mk ?_ ?_);(focus exact zN))|(with_reducible refine ObT.ff ?_)|((with_reducible refine ObB.no ?_ ?_);(focus (first|assumption|omega)))|((with_reducible refine ObI.nl ?_ ?_);(focus omega))|((with_reducible refine ObI.mk _ rfl ?_ ?_ ?_);(focus omega);(focus omega))|((with_reducible refine ObX.mk _ rfl ?_ ?_);(focus exact zX))|((with_reducible refine (?_:ObU _ _));(refine ObU.mk _ (by first|exact us|assumption|((conv=>lhs;simp only [List.set_cons_zero,List.set_cons_succ,List.take_succ_cons,List.take_zero,List.drop_succ_cons,List.drop_zero,List.nil_append,List.cons_append,List.append_nil,List.take_nil,List.drop_nil]);try rfl)|rfl) ?_))|((with_reducible refine (?_:ObR _ _ _));(first|(refine ObR.mk _ (by assumption) ?_)|(refine ObR.mk _ (by with_reducible rfl) ?_)|(refine ObR.map zX (fun x hx=>?_))|(refine ObR.mk _ rfl ?_))))
        conv=>whnf
        refine Again.mk (i+1) (by omega) (by omega) (Fg.vw [(0,0,0)] ?_ ?_ (by simp) ?_)
        all_goals repeat' ((conv=>whnf);first|((with_reducible refine ObN.mk ?_ ?_);(focus exact zN))|((with_reducible refine ObRn.mk ?_ ?_);(focus (first|rfl|(simp [rnB,rnC,rnL];done))))|((with_reducible refine ObRow.same ?_ ?_ ?_);(focus (first|rfl|assumption));(focus (first|rfl|assumption|(simp;done))))|((with_reducible refine ObEqs.mk ?_ ?_);(focus rfl))|exact True.intro)
    · obtain rfl : i = n := by omega
      have g3:((dlR h i i).map iA)[i]? = some (.v (.int .i64 (Dp h (i:Int)))):=iA_g (dlR_at (Nat.le_refl _))
      repeat' ((conv=>whnf);first|(with_reducible refine SeqP.go ?_)|((with_reducible refine ObN.mk ?_ ?_);(focus exact zN))|(with_reducible refine ObT.ff ?_)|((with_reducible refine ObB.no ?_ ?_);(focus (first|assumption|omega)))|((with_reducible refine ObX.mk _ rfl ?_ ?_);(focus exact zX))|((with_reducible refine (?_:ObR _ _ _));(first|(refine ObR.mk _ (by assumption) ?_)|(refine ObR.mk _ (by with_reducible rfl) ?_)|(refine ObR.map zX (fun x hx=>?_))|(refine ObR.mk _ rfl ?_)))|((with_reducible refine ObEq.mk ?_);(focus (first|rfl|assumption))))
end
end Go.Proofs.Ytghbpplcgjeohaa.Sim
namespace Go.Proofs.Ytghbpplcgjeohaa.Sim
open Go.RowKit
set_option maxRecDepth 100000
def rfs (h:List Nd) (k:Int):List Int:=match h[(k - 1).toNat]? with|some x=>rfN x|none=>[]
inductive Rch (h:List Nd) (r:Int):Int→Prop
  | base (h0:0 < r):Rch h r r
  | step {k c:Int} (hk:Rch h r k) (hc:c ∈ rfs h k):Rch h r c
theorem Rch.trans {h:List Nd} {r k c:Int} (h1:Rch h r k) (h2:Rch h k c):Rch h r c:=by
  induction h2 with
  | base _=>exact h1
  | step _ hc ih=>exact .step ih hc
theorem rfs_bd {h:List Nd} (hh:aH h h.length=true) {k c:Int} (hc:c ∈ rfs h k):1≤c∧(0 < k→c < k)∧c < (h.length:Int):=by
  unfold rfs at hc
  rcases Nat.lt_or_ge (k - 1).toNat h.length with hi|hi
  · rw [List.getElem?_eq_getElem hi] at hc
    have:=okH_ref (okH_of hh hi) hc
    omega
  · rw [List.getElem?_eq_none hi] at hc;cases hc
theorem Rch.bd {h:List Nd} (hh:aH h h.length=true) {r k:Int} (hk:Rch h r k):0 < k∧k≤r:=by
  induction hk with
  | base h0=>omega
  | step _ hc ih=>have:=rfs_bd hh hc;omega
noncomputable def rc (h:List Nd) (r k:Int):Bool:=@decide (Rch h r k) (Classical.propDecidable _)
theorem rc_iff {h:List Nd} {r k:Int}:rc h r k=true↔Rch h r k:=by simp [rc]
noncomputable def rl (h:List Nd) (r:Int):Nat→List Int
  | 0=>[]
  | n+1=>(if rc h r ((n:Int)+1) then [(n:Int)+1] else [])++rl h r n
theorem rl_up {h:List Nd} (hh:aH h h.length=true) {r n:Nat} (hn:r≤n):rl h (r:Int) n=rl h (r:Int) r:=by
  induction n with
  | zero =>
    obtain rfl:r=0:=by omega
    rfl
  | succ n ih =>
    by_cases e:r=n+1
    · subst e;rfl
    · rw [rl, ih (by omega)]
      have:rc h (r:Int) ((n:Int)+1)=false:=by
        rw [Bool.eq_false_iff];intro hc
        have:=(rc_iff.1 hc).bd hh;omega
      rw [this];rfl
noncomputable def rp (h:List Nd) (r:Int) (n:Nat):Nat→List Int
  | 0=>[]
  | j+1=>rp h r n j++(if rc h r ((n:Int) - j) then [(n:Int) - j] else [])
theorem rp_all {h:List Nd} {r:Int}:∀ {n j:Nat},j≤n→rp h r n j++rl h r (n - j)=rl h r n:=by
  intro n j
  induction j with
  | zero=>intro _;simp [rp]
  | succ j ih =>
    intro hj
    rw [← ih (by omega),rp,List.append_assoc]
    congr 1
    have e:n - j=(n - (j+1))+1:=by omega
    have e2:((n - (j+1):Nat):Int)+1=(n:Int) - j:=by omega
    rw [e,rl,e2]
theorem rp_end {h:List Nd} {r:Int} {n:Nat}:rp h r n n=rl h r n:=by
  have:=rp_all (h:=h) (r:=r) (Nat.le_refl n)
  rw [Nat.sub_self] at this
  simpa [rl] using this
theorem rp_len {h:List Nd} {r:Int} {n:Nat}:∀ {j:Nat},(rp h r n j).length≤j:=by
  intro j
  induction j with
  | zero=>simp [rp]
  | succ j ih=>rw [rp,List.length_append];split<;>simp<;>omega
def mk (h:List Nd):Nat→Int→List Bool→List Bool
  | 0,_,a=>a
  | n+1,r,a=>if r≤0∨a.getD (r - 1).toNat true=true then a else (rfs h r).foldl (fun a k=>mk h n k a) (a.set (r - 1).toNat true)
theorem mk_len {h:List Nd}:∀ {n:Nat} {r:Int} {a:List Bool},(mk h n r a).length=a.length:=by
  intro n
  induction n with
  | zero=>intro r a;rfl
  | succ n ih =>
    intro r a
    rw [mk];split
    · rfl
    · have key : ∀ (l : List Int) (a : List Bool), (l.foldl (fun a k => mk h n k a) a).length = a.length := by
        intro l
        induction l with
        | nil=>intro a;rfl
        | cons x t iht=>intro a;rw [List.foldl_cons,iht,ih]
      rw [key,List.length_set]
theorem fold_len {h:List Nd} {n:Nat} (l:List Int) (a:List Bool):(l.foldl (fun a k=>mk h n k a) a).length=a.length:=by
  induction l generalizing a with
  | nil=>rfl
  | cons x t iht=>rw [List.foldl_cons,iht,mk_len]
abbrev on (a:List Bool) (r:Int):Prop:=a.getD (r - 1).toNat false=true
structure MkS (h:List Nd) (a b:List Bool) (rs:List Int):Prop where
  mono:∀ k:Int,0 < k→on a k→on b k
  only:∀ k:Int,0 < k→on b k→on a k∨∃ r ∈ rs,Rch h r k
  clos:∀ k:Int,0 < k→on b k→¬ on a k→∀ c ∈ rfs h k,on b c
  all:∀ r ∈ rs,on b r
theorem on_set {a:List Bool} {r k:Int} (hr:0 < r) (hk:0 < k) (hl:r≤(a.length:Int)):on (a.set (r - 1).toNat true) k↔k=r∨on a k:=by
  unfold on
  rw [List.getD_eq_getElem?_getD,List.getD_eq_getElem?_getD]
  by_cases e:k=r
  · subst e
    rw [List.getElem?_set_self (by omega)];simp
  · rw [List.getElem?_set_ne (by omega)];simp [e]
theorem mk_spec {h:List Nd} (hh:aH h h.length=true):∀ {n:Nat} {r:Int} {a:List Bool},0 < r→r≤(n:Int)→r≤(h.length:Int)→a.length=h.length→MkS h a (mk h n r a) [r]:=by
  intro n
  induction n with
  | zero=>intro r a h0 h1;omega
  | succ n ih =>
    intro r a h0 h1 h2 hl
    rw [mk]
    by_cases hm:r≤0∨a.getD (r - 1).toNat true=true
    · rw [if_pos hm]
      have hon:on a r:=by
        have:=hm.resolve_left (by omega)
        unfold on
        rw [List.getD_eq_getElem?_getD,List.getElem?_eq_getElem (by omega)] at this ⊢
        exact this
      exact ⟨fun _ _ h=>h,fun k _ h=>.inl h,fun k _ h1 h2=>(h2 h1).elim,fun r' hr=>by obtain rfl:=List.mem_singleton.1 hr;exact hon⟩
    · rw [if_neg hm]
      have key:∀ (l:List Int) (a:List Bool),a.length=h.length→(∀ c ∈ l,0 < c∧c≤(n:Int)∧c≤(h.length:Int))→MkS h a (l.foldl (fun a k=>mk h n k a) a) l:=by
        intro l
        induction l with
        | nil=>intro a _ _;exact ⟨fun _ _ h=>h,fun k _ h=>.inl h,fun k _ h1 h2=>(h2 h1).elim,fun r' hr=>by cases hr⟩
        | cons x t iht =>
          intro a hal hc
          rw [List.foldl_cons]
          obtain ⟨c1,c2,c3⟩:=hc x (List.mem_cons_self ..)
          have s1:=ih (r:=x) (a:=a) c1 c2 c3 hal
          have s2:=iht (mk h n x a) (by rw [mk_len,hal]) fun c hc'=>hc c (List.mem_cons_of_mem _ hc')
          refine ⟨fun k hk h=>s2.mono k hk (s1.mono k hk h),fun k hk hb=>?_,fun k hk hb hna c hc'=>?_,fun r' hr=>?_⟩
          · rcases s2.only k hk hb with h | ⟨r', hr', h⟩
            · rcases s1.only k hk h with h5 | ⟨r', hr', h5⟩
              · exact .inl h5
              · obtain rfl := List.mem_singleton.1 hr'
                exact .inr ⟨_,List.mem_cons_self ..,h5⟩
            · exact .inr ⟨r',List.mem_cons_of_mem _ hr',h⟩
          · have hcp := (rfs_bd hh hc').1
            by_cases hm1:on (mk h n x a) k
            · exact s2.mono c (by omega) (s1.clos k hk hm1 hna c hc')
            · exact s2.clos k hk hb hm1 c hc'
          · rcases List.mem_cons.1 hr with rfl | hr
            · exact s2.mono _ c1 (s1.all _ (List.mem_singleton.2 rfl))
            · exact s2.all r' hr
      have hs:=key (rfs h r) (a.set (r - 1).toNat true) (by rw [List.length_set,hl]) fun c hc=>by
        have:=rfs_bd hh hc
        have:=this.2.1 h0
        omega
      have hset:∀ k:Int,0 < k→(on (a.set (r - 1).toNat true) k↔k=r∨on a k):=fun k hk=>on_set h0 hk (by omega)
      refine ⟨fun k hk h=>hs.mono k hk ((hset k hk).2 (.inr h)),fun k hk hb=>?_,fun k hk hb hna c hc=>?_,fun r' hr=>?_⟩
      · rcases hs.only k hk hb with h | ⟨r', hr', h⟩
        · rcases (hset k hk).1 h with rfl | h
          · exact .inr ⟨_,List.mem_singleton.2 rfl,.base h0⟩
          · exact .inl h
        · exact .inr ⟨r,List.mem_singleton.2 rfl,(Rch.step (.base h0) hr').trans h⟩
      · by_cases e : k = r
        · subst e;exact hs.all c hc
        · exact hs.clos k hk hb (fun h=>((hset k hk).1 h).elim e hna) c hc
      · obtain rfl := List.mem_singleton.1 hr
        exact hs.mono _ h0 ((hset _ h0).2 (.inl rfl))
theorem mk_all {h:List Nd} (hh:aH h h.length=true) {r:Int} {a b:List Bool} (hs:MkS h a b [r]) (hoffs:∀ k:Int,¬ on a k) {k:Int} (hk:Rch h r k):on b k:=by
  induction hk with
  | base _=>exact hs.all r (List.mem_singleton.2 rfl)
  | step hkk hc ih=>exact hs.clos _ (hkk.bd hh).1 ih (hoffs _) _ hc
theorem off_rep {n:Nat} {k:Int}:¬ on (List.replicate n false) k:=by
  unfold on;rw [List.getD_eq_getElem?_getD];simp [List.getElem?_replicate];split<;>simp
theorem mk_rc {h:List Nd} (hh:aH h h.length=true) {r:Int} (h1:r≤(h.length:Int)) {k:Int} (hk:0 < k) (hkl:k≤(h.length:Int)):(mk h h.length r (List.replicate h.length false))[(k - 1).toNat]? = some (rc h r k):=by
  have hln:(mk h h.length r (List.replicate h.length false)).length=h.length:=by rw [mk_len];simp
  have main:on (mk h h.length r (List.replicate h.length false)) k↔Rch h r k:=by
    by_cases h0:0 < r
    · have hs := mk_spec hh (n := h.length) (a := List.replicate h.length false) h0 h1 h1 (by simp)
      constructor
      · intro hb
        rcases hs.only k hk hb with h|⟨r',hr',h⟩
        · exact absurd h off_rep
        · obtain rfl:=List.mem_singleton.1 hr';exact h
      · exact mk_all hh hs fun _=>off_rep
    · constructor
      · intro hb
        have:mk h h.length r (List.replicate h.length false)=List.replicate h.length false:=by
          cases h.length with
          | zero=>rfl
          | succ n=>rw [mk,if_pos (by omega)]
        rw [this] at hb
        exact absurd hb off_rep
      · intro hr;have:=hr.bd hh;omega
  have hi:(k - 1).toNat < (mk h h.length r (List.replicate h.length false)).length:=by omega
  unfold on at main
  rw [List.getD_eq_getElem?_getD,List.getElem?_eq_getElem hi,Option.getD_some] at main
  rw [List.getElem?_eq_getElem hi]
  congr 1
  rw [Bool.eq_iff_iff,main,rc_iff]
end Go.Proofs.Ytghbpplcgjeohaa.Sim
namespace Go.Proofs.Ytghbpplcgjeohaa.Sim
open Go.RowKit
set_option maxRecDepth 100000
theorem fold_snoc {h:List Nd} {n:Nat} {l:List Int} {a:List Bool} {k:Nat} (hk:k < l.length):(l.take (k+1)).foldl (fun a k=>mk h n k a) a=mk h n l[k] ((l.take k).foldl (fun a k=>mk h n k a) a):=by
  rw [List.take_succ_eq_append_getElem hk,List.foldl_append];rfl
section
variable (G:Nat→AV)
set_option maxHeartbeats 8000000 in
theorem mark33 (h : List Nd) (hl : h.length ≤ 1000) (hx : ∀ x ∈ h, x.Ok) (hh : aH h h.length = true) : ∀ (N : Nat) (r : Int) (a : List Bool), 0 ≤ r → r ≤ (N : Int) → r ≤ (h.length : Int) → a.length = h.length →
    HC Try.prog G 33 [.sl 9 (h.map nA),I r,.ol 0 0 h.length] [⟨4,1,a.map bA,0,0⟩] (.tup []) [⟨4,1,(mk h N r a).map bA,0,0⟩]:=by
  intro N
  induction N with
  | zero =>
    intro r a h0 h1 h2 hal
    obtain rfl:r=0:=by omega
    have rn:=nr_b a
    refine hc_ofV cop33 rfl ?_
    repeat' ((conv=>whnf);first|(with_reducible refine SeqP.go ?_)|((with_reducible refine ObN.mk ?_ ?_);(focus exact zN))|(with_reducible refine ObT.tt ?_)|((with_reducible refine ObB.yes ?_ ?_);(focus (first|assumption|(with_reducible rfl)|omega)))|(exact ObEnd.eq rfl rfl))
  | succ N ih =>
    intro r a h0 h1 h2 hal
    have rn:=nr_b a
    rw [mk]
    by_cases hz:r=0
    · subst hz
      rw [if_pos (.inl (Int.le_refl 0))]
      refine hc_ofV cop33 rfl ?_
      repeat' ((conv=>whnf);first|(with_reducible refine SeqP.go ?_)|((with_reducible refine ObN.mk ?_ ?_);(focus exact zN))|(with_reducible refine ObT.tt ?_)|((with_reducible refine ObB.yes ?_ ?_);(focus (first|assumption|(with_reducible rfl)|omega)))|(exact ObEnd.eq rfl rfl))
    have hr1:1≤r:=by omega
    have hil:(r - 1).toNat < h.length:=by omega
    have hg:(a.map bA)[(r - 1).toNat]? = some (.v (.bool (a.getD (r - 1).toNat true))):=bA_at (by rw [List.getD_eq_getElem?_getD,List.getElem?_eq_getElem (by omega)];rfl)
    by_cases hm:a.getD (r - 1).toNat true=true
    · rw [if_pos (.inr hm)]
      rw [hm] at hg
      refine hc_ofV cop33 rfl ?_
      repeat' ((conv=>whnf);first|(with_reducible refine SeqP.go ?_)|((with_reducible refine ObN.mk ?_ ?_);(focus exact zN))|(with_reducible refine ObT.tt ?_)|(with_reducible refine ObT.ff ?_)|((with_reducible refine ObB.no ?_ ?_);(focus (first|assumption|omega)))|((with_reducible refine ObI.mk _ rfl ?_ ?_ ?_);(focus omega);(focus omega))|((with_reducible refine ObX.int ?_ ?_ ?_);(focus exact zX);(focus exact zX))|((with_reducible refine (?_:ObR _ _ _));(first|(refine ObR.mk _ (by assumption) ?_)|(refine ObR.mk _ (by with_reducible rfl) ?_)|(refine ObR.map zX (fun x hx=>?_))|(refine ObR.mk _ rfl ?_)))|(exact ObEnd.eq rfl rfl))
    rw [if_neg fun h5=>h5.elim (fun h6=>by omega) hm]
    rw [Bool.eq_false_iff.2 hm] at hg
    have hq:(h.map nA)[(r - 1).toNat]? = _:=nA_at hil
    have hxo:=hx _ (List.getElem_mem hil)
    have hrf:=refs32 G h[(r - 1).toNat] hxo
    have hrl:=rf_len hxo
    have hrfs:rfs h r=rfN h[(r - 1).toNat]:=by rw [rfs,List.getElem?_eq_getElem hil]
    have hrr:∀ c ∈ rfs h r,1≤c∧c < r∧c < (h.length:Int):=fun c hc=>by
      have:=rfs_bd hh hc
      exact ⟨this.1,this.2.1 (by omega),this.2.2⟩
    rw [hrfs] at hrr ⊢
    generalize h[(r - 1).toNat]=x at *
    obtain ⟨a0,ha0⟩:∃ a0,a0=a.set (r - 1).toNat true:=⟨_,rfl⟩
    have us:(a.map bA).set (r - 1).toNat (.v (.bool true))=a0.map bA:=by rw [bA_set,ha0]
    have hal0:a0.length=h.length:=by rw [ha0,List.length_set,hal]
    have rn0:=nr_b a0
    rw [← ha0]
    clear ha0
    refine hc_ofV cop33 rfl ?_
    repeat' ((conv=>whnf);first|(with_reducible refine SeqP.go ?_)|((with_reducible refine ObD.mk ?_ ?_);(focus (first|rfl|(simp;done))))|((with_reducible refine ObN.mk ?_ ?_);(focus exact zN))|(with_reducible refine ObT.ff ?_)|((with_reducible refine ObB.no ?_ ?_);(focus (first|assumption|omega)))|((with_reducible refine ObI.mk _ rfl ?_ ?_ ?_);(focus omega);(focus omega))|((with_reducible refine ObX.int ?_ ?_ ?_);(focus exact zX);(focus exact zX))|((with_reducible refine (?_:ObU _ _));(refine ObU.mk _ (by first|exact us|assumption|((conv=>lhs;simp only [List.set_cons_zero,List.set_cons_succ,List.take_succ_cons,List.take_zero,List.drop_succ_cons,List.drop_zero,List.nil_append,List.cons_append,List.append_nil,List.take_nil,List.drop_nil]);try rfl)|rfl) ?_))|((with_reducible refine (?_:ObR _ _ _));(first|(refine ObR.mk _ (by assumption) ?_)|(refine ObR.mk _ (by with_reducible rfl) ?_)|(refine ObR.map zX (fun x hx=>?_))|(refine ObR.mk _ rfl ?_)))|((with_reducible refine ObC.f 20 ?_);(first|(with_reducible refine ObC.mk _ (hrf) ?_)|(refine ObC.mk _ (hrf) ?_))))
    conv=>whnf
    refine LoopP.go (α:=Nat) (fun k=>k≤(rfN x).length) (fun k=>(rfN x).length - k) (fun k=>[(7,some (I k)),(19,none),(0,none),(0,none),(0,none),(0,none),(0,none),(0,none),(0,none),(0,none),(0,none),(0,none),(0,none),(0,none)]) (fun k=>[⟨4,1,(((rfN x).take k).foldl (fun a k=>mk h N k a) a0).map bA,0,0⟩]) 0 (Nat.zero_le _) (Fg.go ?_ rfl) ?_
    · repeat' ((conv=>whnf);first|((with_reducible refine ObEqs.mk ?_ ?_);(focus rfl))|((with_reducible refine ObEq1.i ?_ ?_);(focus (first|(with_reducible rfl)|omega)))|exact True.intro)
    rintro k hk
    have hfl:=fold_len (h:=h) (n:=N) ((rfN x).take k) a0
    by_cases hkr:k < (rfN x).length
    · have hq2 := iA_at' hkr
      have hr2:=hrr _ (List.getElem_mem hkr)
      have hs:=fold_snoc (h:=h) (n:=N) (a:=a0) hkr
      generalize ((rfN x).take k).foldl (fun a k=>mk h N k a) a0=b at *
      have ihr:=ih (rfN x)[k] b (by omega) (by omega) (by omega) (by omega)
      generalize (rfN x)[k]=c at *
      have rn2:=nr_b b
      have rn3:=nr_b (mk h N c b)
      repeat' ((conv=>whnf);first|(with_reducible refine SeqP.go ?_)|((with_reducible refine ObN.mk ?_ ?_);(focus exact zN))|(with_reducible refine ObT.tt ?_)|((with_reducible refine ObB.yes ?_ ?_);(focus (first|assumption|(with_reducible rfl)|omega)))|((with_reducible refine ObI.nl ?_ ?_);(focus omega))|((with_reducible refine ObX.mk _ rfl ?_ ?_);(focus exact zX))|((with_reducible refine (?_:ObL _ _));(refine ObL.mk _ zM ?_))|((with_reducible refine (?_:ObR _ _ _));(first|(refine ObR.mk _ (by assumption) ?_)|(refine ObR.mk _ (by with_reducible rfl) ?_)|(refine ObR.map zX (fun x hx=>?_))|(refine ObR.mk _ rfl ?_)))|((with_reducible refine ObH.f 33 ?_);(first|(with_reducible refine ObH.mk _ _ (ihr) ?_)|(refine ObH.mk _ _ (ihr) ?_))))
      conv=>whnf
      refine Again.mk (k+1) (by omega) (by omega) ?_
      rw [hs]
      refine Fg.go ?_ rfl
      repeat' ((conv=>whnf);first|((with_reducible refine ObEqs.mk ?_ ?_);(focus rfl))|((with_reducible refine ObEq1.i ?_ ?_);(focus (first|(with_reducible rfl)|omega)))|exact True.intro)
    · obtain rfl : k = (rfN x).length := by omega
      rw [List.take_length]
      repeat' ((conv=>whnf);first|(with_reducible refine SeqP.go ?_)|((with_reducible refine ObN.mk ?_ ?_);(focus exact zN))|(with_reducible refine ObT.ff ?_)|((with_reducible refine ObB.no ?_ ?_);(focus (first|assumption|omega)))|((with_reducible refine (?_:ObL _ _));(refine ObL.mk _ zM ?_))|(exact ObEnd.eq rfl rfl))
set_option maxHeartbeats 8000000 in
theorem drefs16 (h:List Nd) (hl:h.length≤1000) (hx:∀ x ∈ h,x.Ok) (hh:aH h h.length=true) (r:Int) (h0:0≤r) (h1:r≤(h.length:Int)):PC Try.prog G 16 [.sl 9 (h.map nA),I r] (.sl 1 ((rl h r h.length).map iA)):=by
  have hm:=mark33 G h hl hx hh h.length r (List.replicate h.length false) h0 h1 h1 (by simp)
  have hrc:=fun k=>mk_rc hh h1 (k:=k)
  have hml:(mk h h.length r (List.replicate h.length false)).length=h.length:=by rw [mk_len];simp
  rw [← bA_rep] at hm
  generalize mk h h.length r (List.replicate h.length false)=b at *
  have rb:=nr_b b
  have rr0:(List.replicate h.length (AV.v (.bool false))).all nrB=true:=by rw [bA_rep];exact nr_b _
  rw [← rp_end]
  refine pc_ofV cop16 ?_
  repeat' ((conv=>whnf);first|(with_reducible refine SeqP.go ?_)|(simp only [Int.toNat_natCast])|((with_reducible refine ObD.mk ?_ ?_);(focus (first|rfl|(simp;done))))|((with_reducible refine ObN.mk ?_ ?_);(focus exact zN))|((with_reducible refine ObI.mk _ rfl ?_ ?_ ?_);(focus omega);(focus omega))|((with_reducible refine (?_:ObL _ _));(refine ObL.mk _ zM ?_))|((with_reducible refine (?_:ObU _ _));(refine ObU.mk _ zU ?_))|((with_reducible refine ObH.f 33 ?_);refine ObH.frn _ (by simp only [List.length_cons,List.length_nil,Nat.reduceAdd];rfl) [(0,0,0)] (hm) (by simp) rfl (by simp) ?_)|((with_reducible refine ObRow.same ?_ ?_ ?_);(focus (first|rfl|assumption));(focus (first|rfl|assumption|(simp;done))))|((with_reducible refine ObAs.mk ?_ ?_);(focus (first|rfl|(simp [rnB,rnC,rnL];done))))|((with_reducible refine (?_:ObRs _ _ _));(refine ObRs.mk _ rfl ?_))|((with_reducible refine ObBk.same ?_ ?_);(focus (first|rfl|assumption|(simp;done)))))
  conv=>whnf
  refine LoopP.go (α:=Nat × List Int) (fun p=>p.1≤h.length∧p.2=rp h r h.length p.1) (fun p=>h.length - p.1) (fun p=>[(6,some (.ol 1 0 p.2.length)),(0,some (I ((h.length:Int) - 1 - p.1))),(3,none),(7,none),(0,none),(0,none),(0,none),(0,none),(0,none),(0,none),(0,none),(0,none),(0,none),(0,none),(0,none),(0,none)]) (fun p=>[⟨4,1,b.map bA,0,0⟩,⟨28,1,p.2.map iA,0,0⟩]) (0,[]) ⟨Nat.zero_le _,rfl⟩ (Fg.go ?_ rfl) ?_
  · repeat' ((conv=>whnf);first|((with_reducible refine ObEqs.mk ?_ ?_);(focus rfl))|((with_reducible refine ObEq1.i ?_ ?_);(focus (first|(with_reducible rfl)|omega)))|((with_reducible refine ObEq1.mk ?_ ?_);(focus (first|rfl|assumption)))|exact True.intro)
  rintro ⟨j,o⟩ ⟨hj,ho⟩
  dsimp only at hj ho ⊢
  have hol:o.length≤j:=by rw [ho];exact rp_len
  have ra:=nr_i o
  have oa:=i_all (l:=o)
  have op:=p_i o
  by_cases hjl:j < h.length
  · obtain ⟨i, hi⟩ : ∃ i : Nat, i + j + 1 = h.length := ⟨h.length - 1 - j, by omega⟩
    have ei:(h.length:Int) - 1 - j=(i:Int):=by omega
    have hk:=hrc ((i:Int)+1) (by omega) (by omega)
    have e2:((i:Int)+1 - 1).toNat=i:=by omega
    rw [e2] at hk
    have hg:=bA_at hk
    have e3:(h.length:Int) - j=(i:Int)+1:=by omega
    have hs:rp h r h.length (j+1)=o++(if rc h r ((i:Int)+1) then [(i:Int)+1] else []):=by rw [rp,← ho,e3]
    have e5:(h.length:Int) - 1 - ((j+1:Nat):Int)=(i:Int) - 1:=by omega
    rw [ei]
    cases hc:rc h r ((i:Int)+1)
    · rw [hc] at hg hs
      repeat' ((conv=>whnf);first|(with_reducible refine SeqP.go ?_)|((with_reducible refine ObN.mk ?_ ?_);(focus exact zN))|(with_reducible refine ObT.tt ?_)|(with_reducible refine ObT.ff ?_)|((with_reducible refine ObB.yes ?_ ?_);(focus (first|assumption|(with_reducible rfl)|omega)))|((with_reducible refine ObI.mk _ rfl ?_ ?_ ?_);(focus omega);(focus omega))|((with_reducible refine ObX.mk _ rfl ?_ ?_);(focus exact zX))|((with_reducible refine (?_:ObR _ _ _));(first|(refine ObR.mk _ (by assumption) ?_)|(refine ObR.mk _ (by with_reducible rfl) ?_)|(refine ObR.map zX (fun x hx=>?_))|(refine ObR.mk _ rfl ?_))))
      conv=>whnf
      refine Again.mk (j+1,o) ⟨by dsimp only;omega,by dsimp only;rw [hs];simp⟩ (by dsimp only;omega) (Fg.go ?_ rfl)
      repeat' ((conv=>whnf);first|((with_reducible refine ObEqs.mk ?_ ?_);(focus rfl))|((with_reducible refine ObEq1.i ?_ ?_);(focus (first|(with_reducible rfl)|omega)))|((with_reducible refine ObEq1.o ?_ ?_);(focus (first|(with_reducible rfl)|omega)))|exact True.intro)
    · rw [hc] at hg hs
      have us:(o.map iA).take o.length++[.v (.int .i64 ((i:Int)+1))]=(o++[(i:Int)+1]).map iA:=i_snoc
      have hl2:o.length+[I ((i:Int)+1)].length=(o++[(i:Int)+1]).length:=by simp
      have r2:=nr_i (o++[(i:Int)+1])
      repeat' ((conv=>whnf);first|(with_reducible refine SeqP.go ?_)|((with_reducible refine ObD.mk ?_ ?_);(focus (first|rfl|(simp;done))))|((with_reducible refine ObN.mk ?_ ?_);(focus exact zN))|(with_reducible refine ObT.tt ?_)|((with_reducible refine ObB.yes ?_ ?_);(focus (first|assumption|(with_reducible rfl)|omega)))|((with_reducible refine ObI.nl ?_ ?_);(focus omega))|((with_reducible refine ObI.mk _ rfl ?_ ?_ ?_);(focus omega);(focus omega))|((with_reducible refine ObX.mk _ rfl ?_ ?_);(focus exact zX))|((with_reducible refine (?_:ObL _ _));(refine ObL.mk _ (by first|exact hl2|exact (List.length_map _)|assumption|exact (List.length_map _).trans (by assumption)|exact List.length_map _|rfl) ?_))|((with_reducible refine (?_:ObU _ _));(refine ObU.mk _ (by first|exact us|assumption|((conv=>lhs;simp only [List.set_cons_zero,List.set_cons_succ,List.take_succ_cons,List.take_zero,List.drop_succ_cons,List.drop_zero,List.nil_append,List.cons_append,List.append_nil,List.take_nil,List.drop_nil]);try rfl)|rfl) ?_))|((with_reducible refine (?_:ObR _ _ _));(first|(refine ObR.mk _ (by assumption) ?_)|(refine ObR.mk _ (by with_reducible rfl) ?_)|(refine ObR.map zX (fun x hx=>?_))|(refine ObR.mk _ rfl ?_))))
      conv=>whnf
      refine Again.mk (j+1,o++[(i:Int)+1]) ⟨by dsimp only;omega,by dsimp only;rw [hs];simp⟩ (by dsimp only;omega) ?_
      dsimp only
      rw [e5]
      refine Fg.vw [(0,0,0),(0,1,1)] ?_ ?_ (by simp) ?_
      all_goals repeat' ((conv=>whnf);first|((with_reducible refine ObN.mk ?_ ?_);(focus exact zN))|((with_reducible refine ObRn.mk ?_ ?_);(focus (first|rfl|(simp [rnB,rnC,rnL];done))))|((with_reducible refine ObRow.same ?_ ?_ ?_);(focus (first|rfl|assumption));(focus (first|rfl|assumption|(simp;done))))|((with_reducible refine ObEqs.mk ?_ ?_);(focus rfl))|exact True.intro)
  · obtain rfl : j = h.length := by omega
    rw [← ho]
    repeat' ((conv=>whnf);first|(with_reducible refine SeqP.go ?_)|((with_reducible refine ObN.mk ?_ ?_);(focus exact zN))|(with_reducible refine ObT.ff ?_)|((with_reducible refine ObB.no ?_ ?_);(focus (first|assumption|omega)))|((with_reducible refine (?_:ObU _ _));(refine ObU.mk _ (by first|exact oa|assumption|((conv=>lhs;simp only [List.set_cons_zero,List.set_cons_succ,List.take_succ_cons,List.take_zero,List.drop_succ_cons,List.drop_zero,List.nil_append,List.cons_append,List.append_nil,List.take_nil,List.drop_nil]);try rfl)|rfl) ?_))|((with_reducible refine ObEq.mk ?_);(focus (first|rfl|assumption))))
end
end Go.Proofs.Ytghbpplcgjeohaa.Sim
namespace Go.Proofs.Ytghbpplcgjeohaa.Sim
open Go.RowKit
abbrev Fl (lo:Nat):Fence:=Fence.wide.inRound lo
theorem op_in {lo n:Nat} {P:Program} {o:Oper} {a:Act} {w:World} {K:Act→World→Prop} {Q:Exit→Act→World→Prop} (hd:∀ c,o.op ≠ .defer c) (h:o.wp P a w K (fun _ _ _=>False)):o.wpIn (Fl lo) n P a w K Q:=by
  unfold Oper.wp at h
  refine ⟨fun _ _=>trivial,?_⟩
  show o.uponIn (Fl lo) n P a K Q ((o.semAt (some lo) a.eval).run P w)
  rw [Oper.semAt_eq _ _ _ hd]
  generalize (execOp a.eval o).run P w=r at h
  cases r with
  | ok nx w' =>
    cases nx with
    | value v=>exact h
    | skip=>exact h
    | defer d=>exact h
    | enter f args =>
      refine ⟨fun hh=>(by cases hh),?_⟩
      have h2:CallsIn (Fl lo) (n - 1) P f args w' _:=callsIn_wide.2 h
      refine h2.mono fun e w'' he=>?_
      cases e with
      | returned v=>exact he
      | panicked c=>exact he.elim
      | outgrown=>obtain ⟨_,_,hh⟩:=he;exact hh.elim
    | row row args=>exact ⟨fun hh=>(by cases hh),fun c cs _=>let ⟨v,w',r,s⟩:=h c cs;⟨v,w',r,stepsIn_wide.2 s⟩⟩
    | _=>exact h.elim
  | halt hl w'=>cases hl<;>exact h.elim
theorem nodefer {P:Program} {G:Nat→AV} {hs:List FuncId} {ops:Array Oper} {o:Oper} {ev:AX→AV} {H:Hp} {d:Option Nat} {k:AV→Hp→Prop} (h:AWop P G ev H (convG ops d (copOpB P hs o)) k):∀ c,o.op ≠ .defer c:=by
  intro c hc
  have h1:copOpB P hs o = .bad:=by unfold copOpB copOp;simp [hc]
  rw [h1] at h
  exact h
section
variable {P:Program} {b:Frame} {a:Act} {k:List Item} {cs:List Frame} {w:World} {c:Code}
theorem stepR_scope:step P (lone (b.atR a (.code (.scope c)::k)) cs w) = .next (lone (b.atR a (.code c :: .inScope c::k)) cs w) :=
  step_lone_go (by simp [stepG,stepG.exec,Frame.atR])
theorem stepR_inScope:step P (lone (b.atR a (.inScope c::k)) cs w) = .next (lone (b.atR a k) cs w) :=
  step_lone_go (by simp [stepG,stepG.exec,Frame.atR])
end
theorem wpIn_scope_straight {F:Fence} {n:Nat} {P:Program} {Q:Exit→Act→World→Prop} {a:Act} {w:World} {c:Code} (h:c.wpIn F n P (Exit.noGoto Q) a w):(Code.scope c).wpIn F n P Q a w:=by
  intro b k cs hro hb hr
  have h0:(lone (b.atR a (.code (.scope c)::k)) cs w).fenced P F:=fenced_calm hb hr rfl
  obtain ⟨e,a₁,w₁,hq,harr⟩:=h b (.inScope c::k) cs hro hb hr
  cases e with
  | normal=>exact ⟨.normal,a₁,w₁,hq,.head h0 stepR_scope (StepsIn.trans harr (.one (fenced_calm hb hr rfl) stepR_inScope))⟩
  | exit id=>exact ⟨.exit id,a₁,w₁,hq,fun k' hk=>.head h0 stepR_scope (harr.1 k' (by simp [exitTo,hk])),fun hr' hk=>let ⟨k₁,h1,h2⟩:=harr.2 hr' (by simp [exitTo,hk]);⟨k₁,h1,.head h0 stepR_scope h2⟩⟩
  | goto l=>exact hq.elim
  | ret=>exact ⟨_,a₁,w₁,hq,.of_steps (.one h0 stepR_scope) harr⟩
  | panic ch=>exact ⟨_,a₁,w₁,hq,.of_steps (.one h0 stepR_scope) harr⟩
  | outgrown=>exact ⟨_,a₁,w₁,hq,.of_steps (.one h0 stepR_scope) harr⟩
section
variable {P:Program} {G:Nat→AV} {hs:List FuncId} {B:Bd} {w0:World} {F0 F1:Fz} {O1:Ow} {lo n:Nat}
theorem AWi_okIn {ops : Array Oper} {i : Nat} {o : Oper} {ai : AI} (hi : ops[i]? = some o) (hc : copI P hs ops o = some ai) {st : St} {a : Act} {w : World} {F : Fz} {O : Ow} (h : Rl G B w0 F0 F1 O1 F O st a w) {k : St → Prop} (hk : AWi P G ai st k)
    {K:Act→World→Prop} {Q:Exit→Act→World→Prop} (hK:∀ st' a' w' F' O',k st'→Rl G B w0 F0 F1 O1 F' O' st' a' w'→K a' w'):wpOpIn (Fl lo) n P ops Q i K a w:=by
  unfold wpOpIn
  simp only [hi]
  simp only [copI] at hc
  split at hc
  · rename_i hg
    cases hc
    have hw:Region.wanted o (yielded ops a.tmps)=true:=by unfold Region.wanted;rw [hg]
    simp only [hw,if_true]
    simp only [AWi] at hk
    exact op_in (nodefer hk) (AWop_okG (hs:=hs) (Q:=fun _ _ _=>False) h hk fun r H' x w' hkr hout=>by
      obtain ⟨F',O',h'⟩:=h.put (d:=o.dst) hout
      exact hK _ _ _ F' O' hkr h')
  · rename_i j want hg
    split at hc
    · rename_i t ht
      cases hc
      simp only [AWi] at hk
      split at hk
      · rename_i b hb
        have hy:yielded ops a.tmps j=some b:=by
          unfold yielded
          rw [ht]
          simp only [Option.bind_some,h.guard hb]
        by_cases hbw:b=want
        · rw [if_pos hbw] at hk
          have hw:Region.wanted o (yielded ops a.tmps)=true:=by unfold Region.wanted;rw [hg];simp [hy,hbw]
          simp only [hw,if_true]
          exact op_in (nodefer hk) (AWop_okG (hs:=hs) (Q:=fun _ _ _=>False) h hk fun r H' x w' hkr hout=>by
            obtain ⟨F',O',h'⟩:=h.put (d:=o.dst) hout
            exact hK _ _ _ F' O' hkr h')
        · rw [if_neg hbw] at hk
          have hw:Region.wanted o (yielded ops a.tmps)=false:=by unfold Region.wanted;rw [hg];simp [hy,hbw]
          simp only [hw,Bool.false_eq_true,if_false]
          obtain ⟨F',O',h'⟩:=h.put (d:=o.dst) (r:=undefA) (x:=undef) (Out.same h.own undef_ok)
          exact ⟨fun _ _=>trivial,hK _ _ _ F' O' hk h'⟩
      · rename_i hb
        have hu:=h.guardU hb
        have hy:yielded ops a.tmps j=none:=by
          unfold yielded
          rw [ht]
          simp only [Option.bind_some]
          rw [Array.getD_eq_getD_getElem?] at hu
          cases hq:a.tmps[t]? with
          | none=>rfl
          | some q=>rw [hq] at hu;simp only [Option.getD_some] at hu;subst hu;rfl
        have hw:Region.wanted o (yielded ops a.tmps)=false:=by unfold Region.wanted;rw [hg];simp [hy]
        simp only [hw,Bool.false_eq_true,if_false]
        obtain ⟨F',O',h'⟩:=h.put (d:=o.dst) (r:=undefA) (x:=undef) (Out.same h.own undef_ok)
        exact ⟨fun _ _=>trivial,hK _ _ _ F' O' hk h'⟩
      · exact hk.elim
    · cases hc
theorem AWs_okIn {ops : Array Oper} {Q : Exit → Act → World → Prop} {k : St → Prop} (hK : ∀ st' a' w' F' O', k st' → Rl G B w0 F0 F1 O1 F' O' st' a' w' → Q .normal a' w') :
    ∀ (l:List Nat) (as_:List AI),l.length=as_.length→(∀ (j i:Nat) (ai:AI),l[j]? = some i→as_[j]? = some ai→∃ o,ops[i]? = some o∧copI P hs ops o=some ai) →
    ∀ (st:St) (a:Act) (w:World) (F:Fz) (O:Ow),AWs P G as_ k st→Rl G B w0 F0 F1 O1 F O st a w→wpOpsIn (Fl lo) n P ops Q l a w
  | [],[],_,_,st,a,w,F,O,hk,h=>hK st a w F O hk h
  | [],_::_,hl,_,_,_,_,_,_,_,_=>by simp at hl
  | _::_,[],hl,_,_,_,_,_,_,_,_=>by simp at hl
  | i::l,ai::as_,hl,hop,st,a,w,F,O,hk,h=>by
    rw [wpOpsIn_cons]
    obtain ⟨o,ho,hc⟩:=hop 0 i ai rfl rfl
    simp only [AWs] at hk
    exact AWi_okIn ho hc h hk fun st' a' w' F' O' hk' h'=>AWs_okIn hK l as_ (by simpa using hl) (fun j i ai hj ha=>hop (j+1) i ai hj ha) st' a' w' F' O' hk' h'
theorem region_textIn {ops : Array Oper} {id : Nat} {as_ : List AI} (hc : copIs P hs ops ops.toList = some as_) {Q : Exit → Act → World → Prop} {k : St → Prop} (hK : ∀ st' a' w' F' O', k st' → Rl G B w0 F0 F1 O1 F' O' st' a' w' → Q .normal a' w')
    {st:St} {a:Act} {w:World} {F:Fz} {O:Ow} (hk:AWs P G as_ k st) (h:Rl G B w0 F0 F1 O1 F O st a w):(Code.region id ops false).wpIn (Fl lo) n P Q a w:=by
  obtain ⟨q1,q2⟩:=copIs_at hc
  refine wpIn_region (AWs_okIn (hs:=hs) hK (List.range ops.size) as_ (by simpa using q1) (fun j i ai hj ha=>?_) st a w F O hk h)
  have hjl:j < ops.size:=by have:=(List.getElem?_eq_some_iff.1 hj).1;simpa using this
  rw [List.getElem?_range hjl] at hj
  cases hj
  exact ⟨ops[j],Array.getElem?_eq_getElem hjl,q2 j _ ai (by simp [hjl]) ha⟩
theorem region_drawIn {ops : Array Oper} {id : Nat} {as_ : List AI} (hc : copIs P hs ops ops.toList = some as_) {Q : Exit → Act → World → Prop} {k : St → Prop} (hK : ∀ st' a' w' F' O', k st' → Rl G B w0 F0 F1 O1 F' O' st' a' w' → Q .normal a' w')
    {st:St} {a:Act} {w:World} {F:Fz} {O:Ow} (hk:∀ t,∃ bs:List AI,bs.length=(Region.schedule (P.follows .mixedOrders) ops t).length∧(∀ (j i:Nat) (ai:AI),(Region.schedule (P.follows .mixedOrders) ops t)[j]? = some i→bs[j]? = some ai→as_[i]? = some ai)∧AWs P G bs k st)
    (h:Rl G B w0 F0 F1 O1 F O st a w):(Code.region id ops true).wpIn (Fl lo) n P Q a w:=by
  obtain ⟨q1,q2⟩:=copIs_at hc
  refine wpIn_region_draw fun t=>?_
  obtain ⟨bs,b1,b2,b3⟩:=hk t
  refine AWs_okIn (hs:=hs) hK _ bs b1.symm (fun j i ai hj ha=>?_) st a _ F O b3 h.drew
  have hai:=b2 j i ai hj ha
  have hil:i < ops.size:=by have:=(List.getElem?_eq_some_iff.1 hai).1;rw [← q1] at this;simpa using this
  exact ⟨ops[i],Array.getElem?_eq_getElem hil,q2 i _ ai (by simp [hil]) hai⟩
end
section
variable {P:Program} {G:Nat→AV} {hs:List FuncId} {B:Bd} {w0:World} {F0 F1:Fz} {O1:Ow} {m lo n:Nat}
theorem V_okIn (hm : O1.length ≤ m) : ∀ (c : Code) (ac : AC), copC P hs c = some ac → ∀ (Q : EX → St → Prop) (Q' : Exit → Act → World → Prop) (st : St) (a : Act) (w : World) (F : Fz) (O : Ow), V P G m ac Q st → Rl G B w0 F0 F1 O1 F O st a w →
    (∀ e st' a' w' F' O',Q e st'→Rl G B w0 F0 F1 O1 F' O' st' a' w'→Q' e.out a' w')→c.wpIn (Fl lo) n P Q' a w:=by
  intro c
  induction c with
  | skip=>intro ac hc Q Q' st a w F O h hr hQ;cases hc;exact wpIn_skip (hQ .n st a w F O h hr)
  | label l=>intro ac hc Q Q' st a w F O h hr hQ;cases hc;exact wpIn_label (hQ .n st a w F O h hr)
  | region id ops draw =>
    intro ac hc Q Q' st a w F O h hr hQ
    obtain ⟨s,H⟩:=st
    simp only [copC] at hc
    split at hc
    · rename_i as_ has
      cases draw with
      | false =>
        cases hc
        exact region_textIn has (k:=fun st=>Q .n ⟨st.s,st.H⟩) (fun st' a' w' F' O' hk hr'=>hQ .n st' a' w' F' O' hk hr') (vops_ok P G (k:=fun s' H'=>Q .n ⟨s',H'⟩) h) hr
      | true =>
        simp only [if_true] at hc
        split at hc
        · rename_i hd
          cases hc
          exact region_drawIn has (k:=fun st=>Q .n ⟨st.s,st.H⟩) (fun st' a' w' F' O' hk hr'=>hQ .n st' a' w' F' O' hk hr') (draw_orders (copIs_at has).1 hd (vdops_ok P G (k:=fun s' H'=>Q .n ⟨s',H'⟩) h)) hr
        · split at hc
          · rename_i hd
            cases hc
            exact region_drawIn has (k:=fun st=>Q .n ⟨st.s,st.H⟩) (fun st' a' w' F' O' hk hr'=>hQ .n st' a' w' F' O' hk hr') (drawx_orders (copIs_at has).1 hd (vdx_ok P G (k:=fun s' H'=>Q .n ⟨s',H'⟩) h)) hr
          · cases hc
    · cases hc
  | seq x y ihx ihy =>
    intro ac hc Q Q' st a w F O h hr hQ
    simp only [copC] at hc
    split at hc
    · rename_i p q hp hq
      cases hc
      refine wpIn_seq (ihx p hp _ _ st a w F O h hr fun e st' a' w' F' O' he hr'=>?_)
      cases e with
      | n =>
        rcases he with he|⟨st2,hf,he⟩|⟨i,n,cv,he⟩|⟨ss,cv,he⟩
        · exact ihy q hq Q Q' st' a' w' F' O' he hr' hQ
        · obtain ⟨O2, hr2⟩ := hr'.forget hm hf
          exact ihy q hq Q Q' st2 a' w' F' O2 he hr2 hQ
        · obtain ⟨s', H'⟩ := st'
          obtain ⟨st2,F2,he,hr2⟩:=fzK_ok he hr'
          exact ihy q hq Q Q' st2 a' w' F2 O' he hr2 hQ
        · obtain ⟨s', H'⟩ := st'
          obtain ⟨st2,he,hr2⟩:=nlK_ok he hr'
          exact ihy q hq Q Q' st2 a' w' F' O' he hr2 hQ
      | x id=>exact hQ (.x id) st' a' w' F' O' he hr'
      | r=>exact hQ .r st' a' w' F' O' he hr'
    · cases hc
  | cond c x y ihx ihy =>
    intro ac hc Q Q' st a w F O h hr hQ
    obtain ⟨s,H⟩:=st
    simp only [copC] at hc
    split at hc
    · rename_i p q r hp hq hr'
      cases hc
      have ho:=hr.operand 0 c p hp
      simp only [V,eK_eq] at h
      split at h
      · rename_i v hv
        split at h
        · rename_i b
          rw [hv] at ho
          have ho:=ho.pvC rfl
          have e:a.eval c = .bool b:=by generalize a.eval c=q at ho;cases ho;rfl
          obtain ⟨h1,h2⟩:=h
          cases b
          · exact wpIn_cond_false e (ihy r hr' Q Q' _ a w F O (h2 rfl) hr hQ)
          · exact wpIn_cond_true e (ihx q hq Q Q' _ a w F O (h1 rfl) hr hQ)
        · exact h.elim
      · exact h.elim
    · cases hc
  | block id c ih =>
    intro ac hc Q Q' st a w F O h hr hQ
    simp only [copC] at hc
    split at hc
    · rename_i p hp
      cases hc
      refine wpIn_block (ih p hp _ _ st a w F O h hr fun e st' a' w' F' O' he hr'=>?_)
      cases e with
      | n=>exact hQ .n st' a' w' F' O' he hr'
      | x id' =>
        simp only [blockQ] at he
        show (if id'=id then Q' .normal a' w' else Q' (.exit id') a' w')
        by_cases hid:id'=id
        · rw [if_pos hid] at he ⊢;exact hQ .n st' a' w' F' O' he hr'
        · rw [if_neg hid] at he ⊢;exact hQ (.x id') st' a' w' F' O' he hr'
      | r=>exact hQ .r st' a' w' F' O' he hr'
    · cases hc
  | loop c ih =>
    intro ac hc Q Q' st a w F O h hr hQ
    simp only [copC] at hc
    split at hc
    · rename_i p hp
      cases hc
      obtain ⟨α,J,μ,sc,a0,h0,h1,h2⟩:=h
      have key:∀ (nn:Nat) (x:α) (a:Act) (w:World) (F:Fz) (O:Ow),μ x < nn→J x→Rl G B w0 F0 F1 O1 F O (sc x) a w→Code.roundsIn (Fl lo) n P c Q' nn a w:=by
        intro nn
        induction nn with
        | zero=>intro x a w F O hx;omega
        | succ nn ihn =>
          intro x a w F O hx hJ hr
          rw [roundsIn_succ]
          refine ih p hp _ _ (sc x) a w F O (h2 x hJ) hr fun e st' a' w' F' O' he hr'=>?_
          cases e with
          | n =>
            obtain ⟨x',g1,g2,g3⟩:=he
            obtain ⟨O2,hr2⟩:=hr'.forget hm g3
            exact ihn x' a' w' F' O2 (by omega) g1 hr2
          | x id=>exact hQ (.x id) st' a' w' F' O' he hr'
          | r=>exact hQ .r st' a' w' F' O' he hr'
      obtain ⟨O2,hr2⟩:=hr.forget hm h1
      exact wpIn_loop_rounds (μ a0+1) (key (μ a0+1) a0 a w F O2 (Nat.lt_succ_self _) h0 hr2)
    · cases hc
  | scope c ih =>
    intro ac hc Q Q' st a w F O h hr hQ
    simp only [copC] at hc
    split at hc
    · rename_i p hp
      cases hc
      refine wpIn_scope_straight (ih p hp Q _ st a w F O h hr fun e st' a' w' F' O' he hr'=>?_)
      have:=hQ e st' a' w' F' O' he hr'
      cases e<;>exact this
    · cases hc
  | exit id=>intro ac hc Q Q' st a w F O h hr hQ;cases hc;exact wpIn_exit (hQ (.x id) st a w F O h hr)
  | ret=>intro ac hc Q Q' st a w F O h hr hQ;cases hc;exact wpIn_ret (hQ .r st a w F O h hr)
  | rangeFunc=>intro ac hc;cases hc
  | goto=>intro ac hc;cases hc
  | refuse=>intro ac hc;cases hc
end
def NC (w:World) (b:Nat):Prop:=∃ o,w.heap[b]? = some o∧(match o with|.cells ..=>False|_=>True)
theorem NC.lt {w:World} {b:Nat} (h:NC w b):b < w.heap.size:=by
  obtain ⟨o,h,_⟩:=h
  rcases Nat.lt_or_ge b w.heap.size with hh|hh
  · exact hh
  · rw [Array.getElem?_eq_none hh] at h;cases h
theorem NC.cell {w:World} {b o:Nat} {p v} (h:NC w b) (hc:w.cell? ⟨b,o,p⟩=some v):False:=by
  obtain ⟨ob,h1,h2⟩:=h
  unfold World.cell? at hc
  simp only [h1] at hc
  cases ob<;>simp_all
theorem NC.row {B:Bd} {F:Fz} {O:Ow} {w:World} {d:Ds} {ob:OB} {b:Nat} (h:NC w b) (hr:Row B F O w d ob):d.b ≠ b:=by
  obtain ⟨o,h1,h2⟩:=h
  obtain ⟨cur,hc,_⟩:=hr.cur
  rintro rfl
  rw [hc] at h1;cases h1;exact h2
theorem Row.ok {B B':Bd} {F:Fz} {O:Ow} {w:World} {d:Ds} {ob:OB} (h:Row B F O w d ob) (hb:B'.ok d.b):Row B' F O w d ob:=⟨h.hg,h.hk,hb,h.cur,h.hC,h.hl,h.hn,h.h1,h.hf,h.hz⟩
theorem Own.re {B:Bd} {w0 w:World} {F0 F:Fz} {O:Ow} {H:Hp} (h:Own B w0 F0 F O H w) (K':Nat→Prop) (hK:∀ b,K' b→NC w b) (ds:List Deferred):Own ⟨B.n,fun b=>B.K b∨K' b,ds⟩ w F0 F O H w :=
  ⟨h.len,fun i d ob h1 h2=>have hr:=h.row i d ob h1 h2;hr.ok ⟨hr.hB.1,fun hk=>hk.elim hr.hB.2 fun hk=>(hK _ hk).row hr rfl⟩,h.inj,h.fr,h.le,
    fun b o v hv=>(h.new b o v hv).imp id fun hb=>⟨hb.1,fun hk=>hk.elim hb.2 fun hk=>(hK _ hk).cell (h.fr b o v hv)⟩,Below.refl _ _,h.size,fun _ _=>rfl,
    fun b hk=>hk.elim (fun hk=>Nat.lt_of_lt_of_le (h.kb b hk) h.below.size) fun hk=>(hK b hk).lt⟩
theorem Own.un {B B':Bd} {w0 w w':World} {F0 F F':Fz} {O O':Ow} {H H':Hp} (h0:Own B w0 F0 F O H w) (h:Own B' w F0 F' O' H' w') (hn:B'.n=B.n) (hK:∀ b,B.K b→B'.K b):Own B w0 F0 F' O' H' w' :=
  ⟨h.len,fun i d ob h1 h2=>have hr:=h.row i d ob h1 h2;hr.ok ⟨hn ▸ hr.hB.1,fun hk=>hr.hB.2 (hK _ hk)⟩,h.inj,h.fr,h.le,
    fun b o v hv=>(h.new b o v hv).imp id fun hb=>⟨hn ▸ hb.1,fun hk=>hb.2 (hK _ hk)⟩,h0.below.trans (hn ▸ h.below),hn ▸ h.size,fun b hk=>(h.kept b (hK b hk)).trans (h0.kept b hk),h0.kb⟩
theorem Own.putNC {B:Bd} {w0 w:World} {F0 F:Fz} {O:Ow} {H:Hp} (h:Own B w0 F0 F O H w) {lo:Nat} (o:Obj) (hl:NC w lo) (hn:B.n≤lo) (hk:¬ B.K lo):Own B w0 F0 F O H (w.putObj lo o) :=
  ⟨h.len, fun i d ob h1 h2 => by
      have hr:=h.row i d ob h1 h2
      have hne:=hl.row hr
      obtain ⟨cur,c1,c2,c3⟩:=hr.cur
      exact ⟨hr.hg,hr.hk,hr.hB,⟨cur,(World.putObj_heap_other hne).trans c1,c2,c3⟩,hr.hC,hr.hl,hr.hn,hr.h1,hr.hf,hr.hz⟩,h.inj,
    fun b o' v hv=>(World.cell?_of_block (World.putObj_heap_other fun e=>hl.cell (by have:=h.fr b o' v hv;rw [show b=lo from e] at this;exact this))).trans (h.fr b o' v hv),h.le,h.new,
    h.below.trans ⟨rfl,rfl,rfl,by simp,fun k hlt=>World.putObj_heap_other (by omega)⟩,by simpa using h.size,fun b hb=>(World.putObj_heap_other fun e=>hk (by rw [← show b=lo from e];exact hb)).trans (h.kept b hb),h.kb⟩
abbrev dmark (D:Nat):Deferred:={ target:=.collected D,args:=#[] }
structure Ext (B:Bd) (w0:World) (F0:Fz) (B':Bd) (w0':World):Prop where
  n:B'.n=B.n
  K:∀ b,B.K b→B'.K b
  kept:∀ b,B.K b→w0'.heap[b]? = w0.heap[b]?
  back:∀ F O H w,Own B' w0' F0 F O H w→Own B w0 F0 F O H w
  size:w0.heap.size≤w0'.heap.size
  ds:∃ Ds:List Nat,B'.ds=Ds.map dmark++B.ds∧Ds.Nodup∧∀ D ∈ Ds,w0.heap.size≤D∧B.n≤D∧B'.K D∧w0'.heap[D]? = some (.deferred (some []))
theorem Ext.refl (B:Bd) (w0:World) (F0:Fz):Ext B w0 F0 B w0:=⟨rfl,fun _ h=>h,fun _ _=>rfl,fun _ _ _ _ h=>h,Nat.le_refl _,[],rfl,.nil,fun _ h=>by cases h⟩
theorem Ext.trans {B B1 B2:Bd} {w0 w1 w2:World} {F0:Fz} (h:Ext B w0 F0 B1 w1) (k:Ext B1 w1 F0 B2 w2):Ext B w0 F0 B2 w2:=by
  obtain ⟨D1,e1,n1,p1⟩:=h.ds
  obtain ⟨D2,e2,n2,p2⟩:=k.ds
  refine ⟨k.n.trans h.n,fun b hb=>k.K b (h.K b hb),fun b hb=>(k.kept b (h.K b hb)).trans (h.kept b hb),fun F O H w hw=>h.back _ _ _ _ (k.back _ _ _ _ hw),Nat.le_trans h.size k.size,D2++D1,by rw [e2,e1];simp,?_,?_⟩
  · rw [List.nodup_append]
    refine ⟨n2,n1,fun a ha b hb hab=>?_⟩
    subst hab
    have q1:=(p2 a ha).1
    have q2:=(p1 a hb).2.2.2
    rw [Array.getElem?_eq_none q1] at q2;cases q2
  · intro D hD
    rcases List.mem_append.1 hD with hD|hD
    · obtain ⟨q1, q2, q3, q4⟩ := p2 D hD
      exact ⟨Nat.le_trans h.size q1,h.n ▸ q2,q3,q4⟩
    · obtain ⟨q1, q2, q3, q4⟩ := p1 D hD
      exact ⟨q1,q2,k.K D q3,(k.kept D q3).trans q4⟩
theorem Rl.keepB {G:Nat→AV} {B:Bd} {w0:World} {F0 F1:Fz} {O1:Ow} {F:Fz} {O:Ow} {st:St} {a:Act} {w w':World} (h:Rl G B w0 F0 F1 O1 F O st a w) (hb:Below w.heap.size w w'):Rl G B w0 F0 F1 O1 F O st a w' :=
  ⟨h.own.keep hb,h.size,h.slot,h.defs,h.gok,h.leF,h.leO⟩
def SeqC (P:Program) (G:Nat→AV) (f:FuncId) (cs:List AV) (l:List AV):Prop :=
  hasBody P f=true∧∀ (n lo:Nat) (F:Fz) (xs:List Value) (J:Nat→World→Prop) (W:World),GOK G F→xs.length=cs.length→(∀ (i:Nat) (c:Value) (a:AV),xs[i]? = some c→cs[i]? = some a→PV F c a) →
    (∀ k W1,J k W1→∀ b o v,F b o=some v→W1.cell? ⟨b,o,none⟩=some v) →
    (∀ k W1 W2,J k W1→Below W1.heap.size W1 W2→J k W2) →
    (∀ k W1 e v n',J k W1→l[k]? = some e→PV F v e→∃ fn tmps assign body,(Instr.yield lo #[v]).run P W1 = .ok (.round lo fn tmps assign body) W1∧RoundIn Fence.wide n' P lo fn tmps assign body W1 fun e W'=>e = .returned (.bool true)∧J (k+1) W') →
    J 0 W→CallsIn Fence.wide n P f (#[.func (.yield lo) #[] #[]]++xs.toArray) W fun e W'=>(∃ v,e = .returned v)∧J l.length W'
inductive AgR {α:Type} (m:Nat) (J:Nat→α→Prop) (rows:α→Hp) (s:List AV) (k:Nat) (st:St):Prop
  | mk (a:α) (h1:J k a) (h2:Fg m ⟨s,st.H⟩ ⟨s,rows a⟩):AgR m J rows s k st
def RndQ {α:Type} (m:Nat) (J:Nat→α→Prop) (rows:α→Hp) (s:List AV) (k:Nat):EX→St→Prop
  | .n,st=>AgR m J rows s k st
  | _,_=>False
def asgQ (K:St→Prop):EX→St→Prop
  | .n,st=>K st
  | _,_=>False
section
variable (P:Program) (G:Nat→AV)
inductive RngP (m:Nat) (gv:AV) (p:Nat) (x y:AC) (Q:EX→St→Prop) (s:List AV) (H:Hp):Prop
  | mk (f : FuncId) (cs l : List AV) (hg : fnA gv = some (f, cs)) (hp : cs.all AV.isP = true) (hs : SeqC P G f cs l) (α : Type) (J : Nat → α → Prop) (rows : α → Hp) (x0 : α) (h0 : J 0 x0) (s' : List AV) (hH : Fg m ⟨s, H⟩ ⟨s', rows x0⟩)
      (h1:∀ k a e,J k a→l[k]? = some e→V P G (rows a).length x (asgQ (V P G (rows a).length y (RndQ m J rows s' (k+1)))) ⟨s'.set p e,rows a⟩)
      (h2:∀ a,J l.length a→Q .n ⟨s',rows a⟩):RngP m gv p x y Q s H
end
section
variable {P:Program} {G:Nat→AV} {hs:List FuncId}
theorem enters_body {f:FuncId} (hb:hasBody P f=true) (args:Array Value) (w:World):(callFunc f args).run P w = .ok (.enter f args) w:=by
  unfold hasBody at hb
  split at hb
  · rename_i fn hfn
    simp only [Bool.and_eq_true,bne_iff_ne,ne_eq] at hb
    have hbn:fn.body.isNone=false:=by cases hq:fn.body with
      | none=>rw [hq] at hb;simp at hb
      | some _=>rfl
    have hnm:(fn.name == "runtime.NumGoroutine")=false:=by simpa using hb.2
    simp only [Sem.run_bind,Sem.run_pure,Result.andThen_ok,callFunc,program,Sem.run,hfn,hnm,hbn,Bool.false_eq_true,if_false]
  · cases hb
set_option maxHeartbeats 1000000 in
theorem rng_ok {B : Bd} {w0 : World} {F0 F1 : Fz} {O1 : Ow} {m : Nat} (hm : O1.length ≤ m) {g : Operand} {p : Nat} {assign body : Code} {x y : AC} (hx : copC P hs assign = some x) (hy : copC P hs body = some y) {gv : AV} {s : List AV} {H : Hp} {a : Act} {w : World} {F : Fz} {O : Ow} {Q : EX → St → Prop} {Q' : Exit → Act → World → Prop}
    (hr:Rl G B w0 F0 F1 O1 F O ⟨s,H⟩ a w) (hgv:VR F O (a.eval g) gv) (h:RngP P G m gv p x y Q s H)
    (hQ:∀ st' a' w' F' O' B' w0',Ext B w0 F0 B' w0'→Q .n st'→Rl G B' w0' F0 F1 O1 F' O' st' a' w'→Q' .normal a' w'):(Code.rangeFunc g #[p] assign body).wp P Q' a w:=by
  refine (wpIn_wide (n:=0)).1 (wpIn_rangeFunc ?_)
  intro fn hfn
  obtain ⟨f,cs,l,hg,hp,⟨hbody,hs⟩,α,J,rows,x0,h0,s',hH,h1,h2⟩:=h
  obtain ⟨xs,hxe,hxl,hxv⟩:=fnA_ok hgv hg
  have hxp:∀ (i:Nat) (c:Value) (a:AV),xs[i]? = some c→cs[i]? = some a→PV F c a:=fun i c a h1 h2=>(hxv i c a h1 h2).pv (List.all_eq_true.1 hp a (List.mem_of_getElem? h2))
  obtain ⟨rec,hrec⟩:∃ rec:LoopState→Option Code→Loop,rec=fun st pe=>{ state:=st,pending:=pe,fn,tmps:=a.tmps,params:=#[p],assign,body,defers:=w.heap.size }:=⟨_,rfl⟩
  obtain ⟨W1,hW1⟩:∃ W1,(w.alloc (.deferred (some []))).alloc (.loop (rec .ready none))=W1:=⟨_,rfl⟩
  obtain ⟨D,hD⟩:∃ D,D=w.heap.size:=⟨_,rfl⟩
  obtain ⟨lo,hlo⟩:∃ lo,lo=w.heap.size+1:=⟨_,rfl⟩
  have hL1:W1.heap[lo]? = some (.loop (rec .ready none)):=by
    rw [← hW1,hlo];have:=World.alloc_heap_new (w.alloc (.deferred (some []))) (.loop (rec .ready none));rwa [World.size_alloc] at this
  have hK1:W1.heap[D]? = some (.deferred (some [])):=by
    rw [← hW1,hD];exact (Below.heap_alloc _ _ _ (by simp)).trans (World.alloc_heap_new w _)
  have hb1:Below w.heap.size w W1:=by
    rw [← hW1];exact ((Below.refl _ w).alloc (Nat.le_refl _) _).alloc (by simp) _
  have hBn:B.n≤w.heap.size:=hr.own.size
  have hBK:∀ b,B.K b→b < w.heap.size:=fun b hb=>Nat.lt_of_lt_of_le (hr.own.kb b hb) hr.own.below.size
  have hlK:¬ B.K lo:=fun hk=>by have:=hBK _ hk;omega
  have ncL:∀ {W:World} {r:Loop},W.heap[lo]? = some (.loop r)→NC W lo:=fun h=>⟨_,h,trivial⟩
  have ncD:∀ {W:World},W.heap[D]? = some (.deferred (some []))→NC W D:=fun h=>⟨_,h,trivial⟩
  obtain ⟨J',hJ'⟩:∃ J':Nat→World→Prop,J'=fun k W=>(∃ F' O' x',J k x'∧F.le F'∧Rl G B w0 F0 F1 O1 F' O' ⟨s',rows x'⟩ a W)∧W.heap[lo]? = some (.loop (rec .ready none))∧W.heap[D]? = some (.deferred (some [])):=⟨_,rfl⟩
  refine ⟨lo,[dmark D],W1,{ target:=.fn (.func f) xs.toArray,args:=#[.func (.yield lo) #[] #[]] },W1,f,#[.func (.yield lo) #[] #[]]++xs.toArray,W1,?_,?_,fun _ _=>trivial,?_,fun hh=>(by cases hh),?_⟩
  · rw [← hW1,hrec,hlo,hD];exact run_enterLoop_outer _ _ _ _ _
  · simp only [resolve, hxe]
    simp [go_sem]
  · simp [invoke,go_sem,enters_body hbody]
  refine (hs _ lo F xs J' W1 hr.gok hxl hxp ?_ ?_ ?_ ?_).mono ?_
  · intro k W hj b o v hv
    rw [hJ'] at hj
    obtain ⟨⟨F',O',x',_,lF,hrl⟩,_⟩:=hj
    exact hrl.own.fr b o v (lF b o v hv)
  · intro k W W2 hj hb
    rw [hJ'] at hj ⊢
    obtain ⟨⟨F',O',x',hjx,lF,hrl⟩,hl,hd⟩:=hj
    exact ⟨⟨F',O',x',hjx,lF,hrl.keepB hb⟩,(hb.block _ (ncL hl).lt).trans hl,(hb.block _ (ncD hd).lt).trans hd⟩
  · intro k W e v n' hj he hv
    rw [hJ'] at hj
    obtain ⟨⟨F',O',x',hjx,lF,hrl⟩,hl,hd⟩:=hj
    have hyl:=run_yield (P:=P) (args:=#[v]) hl (by rw [hrec];simp)
    refine ⟨fn,a.tmps.setIfInBounds p v,assign,body,by rw [hyl,hrec];simp,roundIn_of_wpIn hfn ?_⟩
    have hKK:∀ {W:World} {r:Loop},W.heap[lo]? = some (.loop r)→W.heap[D]? = some (.deferred (some []))→∀ b,(b=lo∨b=D)→NC W b:=fun h1 h2 b hb=>by
      rcases hb with rfl|rfl
      · exact ncL h1
      · exact ncD h2
    have own1:=hrl.own.re (fun b=>b=lo∨b=D) (hKK hl hd) []
    have rl1 : Rl G _ W F0 F' O' F' O' ⟨s'.set p e, rows x'⟩ { tmps := a.tmps.setIfInBounds p v, defers := [] } W := ⟨own1, by simp only [Array.size_setIfInBounds, List.length_set]; exact hrl.size, fun t => by
        have hsz:=hrl.size
        have h0:=hrl.slot t
        simp only at h0 hsz
        show VR F' O' ((a.tmps.setIfInBounds p v).getD t undef) ((s'.set p e).getD t undefA)
        rw [Array.getD_eq_getD_getElem?,List.getD_eq_getElem?_getD] at h0 ⊢
        by_cases hpt:p=t
        · subst hpt
          by_cases hlt:p < s'.length
          · rw [List.getElem?_set_self hlt, Array.getElem?_setIfInBounds_self_of_lt (by omega)]
            exact .p (hv.mono lF)
          · rw [List.getElem?_eq_none (by simp; omega), Array.getElem?_eq_none (by simp; omega)]
            exact undef_ok
        · rw [List.getElem?_set_ne hpt, Array.getElem?_setIfInBounds_ne hpt]
          exact h0,rfl,hrl.gok,Fz.le_refl _,Ow.le_refl _⟩
    refine V_okIn (m:=(rows x').length) (by rw [hrl.own.len];exact Nat.le_refl _) assign x hx _ _ _ _ _ _ _ (h1 k x' e hjx he) rl1 ?_
    intro ex st1 a1 w1 F2 O2 hq rl2
    cases ex with
    | x id=>exact hq.elim
    | r=>exact hq.elim
    | n =>
      have hl1:w1.heap[lo]? = some (.loop (rec .ready none)):=(rl2.own.kept lo (.inr (.inl rfl))).trans hl
      have hd1:w1.heap[D]? = some (.deferred (some [])):=(rl2.own.kept D (.inr (.inr rfl))).trans hd
      refine ⟨_,run_beginRound hl1 (by rw [hrec]),?_⟩
      obtain ⟨rb,hrb⟩:∃ rb:Loop,rb = { rec .ready none with state:=.busy }:=⟨_,rfl⟩
      rw [← hrb]
      have own2:=(hrl.own.un rl2.own rfl (fun b hb=>.inl hb)).putNC (.loop rb) (ncL hl1) (by omega) hlK
      have hl2:(w1.putObj lo (.loop rb)).heap[lo]? = some (.loop rb):=World.putObj_heap_same (ncL hl1).lt
      have hd2:(w1.putObj lo (.loop rb)).heap[D]? = some (.deferred (some [])):=(World.putObj_heap_other (by omega)).trans hd1
      have own3:=own2.re (fun b=>b=lo∨b=D) (hKK hl2 hd2) []
      have rl3:Rl G _ (w1.putObj lo (.loop rb)) F0 F' O' F2 O2 st1 a1 (w1.putObj lo (.loop rb)):=⟨own3,rl2.size,rl2.slot,rl2.defs,rl2.gok,rl2.leF,rl2.leO⟩
      refine V_okIn (m:=(rows x').length) (by rw [hrl.own.len];exact Nat.le_refl _) body y hy _ _ _ _ _ _ _ hq rl3 ?_
      intro ex st3 a3 w3 F3 O3 hq3 rl4
      cases ex with
      | x id=>exact hq3.elim
      | r=>exact hq3.elim
      | n =>
        obtain ⟨x2,g1,g2⟩:=hq3
        have hl3:w3.heap[lo]? = some (.loop rb):=(rl4.own.kept lo (.inr (.inl rfl))).trans hl2
        have hd3:w3.heap[D]? = some (.deferred (some [])):=(rl4.own.kept D (.inr (.inr rfl))).trans hd2
        refine ⟨_,_,run_endRound none hl3,rfl,?_⟩
        rw [hJ']
        have hrr:({ rb with state:=if (none:Option Code).isNone=true then LoopState.ready else LoopState.done,pending:=none }:Loop)=rec .ready none:=by rw [hrb,hrec];rfl
        rw [hrr]
        have own4:=(own2.un rl4.own rfl (fun b hb=>.inl hb)).putNC (.loop (rec .ready none)) (ncL hl3) (by omega) hlK
        have rl5:Rl G B w0 F0 F1 O1 F3 O3 ⟨s',st3.H⟩ a (w3.putObj lo (.loop (rec .ready none))):=⟨own4,hrl.size,fun t=>(hrl.slot t).mono rl4.leF rl4.leO,hrl.defs,hrl.gok.mono rl4.leF,Fz.le_trans hrl.leF rl4.leF,Ow.le_trans hrl.leO rl4.leO⟩
        obtain ⟨O5,rl6⟩:=rl5.forget hm g2
        exact ⟨⟨F3,O5,x2,g1,Fz.le_trans lF rl4.leF,rl6⟩,World.putObj_heap_same (ncL hl3).lt,(World.putObj_heap_other (by omega)).trans hd3⟩
  · rw [hJ']
    obtain ⟨O2,hr2⟩:=(hr.keepB hb1).forget hm hH
    exact ⟨⟨F,O2,x0,h0,Fz.le_refl F,hr2⟩,hL1,hK1⟩
  · rintro e W2 ⟨⟨v, rfl⟩, hj⟩
    rw [hJ'] at hj
    obtain ⟨⟨F',O',x',hjx,lF,hrl⟩,hl,hd⟩:=hj
    obtain ⟨rx,hend⟩:∃ rx:Loop,(Instr.endLoop lo).run P W2 = .ok none (W2.putObj lo (.loop rx)):=by
      have h:=run_endLoop (P:=P) hl (by rw [hrec];simp)
      rw [hrec] at h
      exact ⟨_,h⟩
    refine ⟨none,_,hend,?_⟩
    show Q' .normal _ _
    have own4:=hrl.own.putNC (.loop rx) (ncL hl) (by omega) hlK
    have hd4:(W2.putObj lo (.loop rx)).heap[D]? = some (.deferred (some [])):=(World.putObj_heap_other (by omega)).trans hd
    have own5:=own4.re (fun b=>b=D) (fun b hb=>by subst hb;exact ncD hd4) (dmark D::B.ds)
    refine hQ ⟨s',rows x'⟩ _ _ F' O' ⟨B.n,fun b=>B.K b∨b=D,dmark D::B.ds⟩ _ ⟨rfl,fun b hb=>.inl hb,own4.kept,fun F5 O5 H5 w5 h5=>own4.un h5 rfl (fun b hb=>.inl hb),own4.below.size,[D],rfl,by simp,fun D' hD'=>?_⟩ (h2 x' hjx) ⟨own5,hrl.size,hrl.slot,by show dmark D::a.defers=dmark D::B.ds;rw [hrl.defs],hrl.gok,hrl.leF,hrl.leO⟩
    obtain rfl:D'=D:=by simpa using hD'
    exact ⟨by have:=hr.own.below.size;omega,by omega,.inr rfl,hd4⟩
end
def copX (P:Program) (hs:List FuncId):Code→Option AC
  | .seq a b=>(match copX P hs a,copX P hs b with|some x,some y=>some (.seq x y)|_,_=>none)
  | .cond c t e=>(match cx P 0 c,copX P hs t,copX P hs e with|some c,some x,some y=>some (.cond c x y)|_,_,_=>none)
  | .block id c=>(match copX P hs c with|some x=>some (.block id x)|none=>none)
  | .scope c=>(match copX P hs c with|some x=>some (.scope x)|none=>none)
  | .rangeFunc g ps a b=>(match cx P 0 g,ps.toList,copC P hs a,copC P hs b with|some g,[p],some x,some y=>some (.rng g p x y)|_,_,_,_=>none)
  | .skip=>copC P hs .skip
  | .label l=>copC P hs (.label l)
  | .region i ops d=>copC P hs (.region i ops d)
  | .loop c=>copC P hs (.loop c)
  | .exit i=>copC P hs (.exit i)
  | .ret=>copC P hs .ret
  | _=>none
def fcEX (i g kk n:Nat) (es:List AV):List AV→(List AV→Prop)→Prop
  | [],k=>k []
  | a::as_,k=>(match a with
    | .agg cs=>fcL i g kk n es cs (fun cs'=>fcEX i g kk n es as_ (fun bs=>k (.agg cs'::bs)))
    | .ol j g' n'=>fcC i g kk n es false (.ol j g' n') (fun b=>fcEX i g kk n es as_ (fun bs=>k (b::bs)))
    | a=>fcEX i g kk n es as_ (fun bs=>k (a::bs)))
theorem fcEX_ok {i g kk n:Nat} {es:List AV}:∀ {as_:List AV} {k:List AV→Prop},fcEX i g kk n es as_ k→∃ bs,k bs∧bs.length=as_.length∧∀ (c:Nat) (b:AV),bs[c]? = some b→∃ a,as_[c]? = some a∧b.cells.length=a.cells.length∧∀ (c:Nat) (y:AV),b.cells[c]? = some y→∃ x,a.cells[c]? = some x∧FzR i g kk n es x y
  | [],_,h=>⟨[],h,rfl,fun c b hb=>by simp at hb⟩
  | a::as_,k,h=>by
    have same:fcEX i g kk n es as_ (fun bs=>k (a::bs))→∃ bs,k bs∧bs.length=(a::as_).length∧∀ (c:Nat) (b:AV),bs[c]? = some b→∃ a',(a::as_)[c]? = some a'∧b.cells.length=a'.cells.length∧∀ (c:Nat) (y:AV),b.cells[c]? = some y→∃ x,a'.cells[c]? = some x∧FzR i g kk n es x y:=fun h=>by
      obtain ⟨bs,h3,h4,h5⟩:=fcEX_ok h
      refine ⟨a::bs,h3,by simp [h4],fun c x hx=>?_⟩
      cases c with
      | zero=>simp at hx;subst hx;exact ⟨a,rfl,rfl,fun c y hy=>⟨y,hy,.inl rfl⟩⟩
      | succ c=>obtain ⟨y,q1,q2⟩:=h5 c x (by simpa using hx);exact ⟨y,by simpa using q1,q2⟩
    cases a with
    | agg cs =>
      simp only [fcEX] at h
      obtain ⟨cs',h1,h2,h3⟩:=fcL_ok h
      obtain ⟨bs,h4,h5,h6⟩:=fcEX_ok h1
      refine ⟨.agg cs'::bs,h4,by simp [h5],fun c x hx=>?_⟩
      cases c with
      | zero=>simp at hx;subst hx;exact ⟨_,rfl,h2,h3⟩
      | succ c=>obtain ⟨y,q1,q2⟩:=h6 c x (by simpa using hx);exact ⟨y,by simpa using q1,q2⟩
    | ol j g' n' =>
      simp only [fcEX] at h
      obtain ⟨b,h1,h2⟩:=fcC_ok h
      have hz:FzR i g kk n es (.ol j g' n') b:=h2.resolve_left (by simp)
      obtain ⟨bs,h4,h5,h6⟩:=fcEX_ok h1
      refine ⟨b::bs,h4,by simp [h5],fun c x hx=>?_⟩
      cases c with
      | zero =>
        simp at hx;subst hx
        have hb:b.cells=[b]:=by rcases hz with rfl|⟨_,_,_,rfl⟩<;>rfl
        refine ⟨_,rfl,by rw [hb];rfl,fun c y hy=>?_⟩
        rw [hb] at hy
        cases c with
        | zero=>simp at hy;subst hy;exact ⟨_,rfl,hz⟩
        | succ c=>simp at hy
      | succ c=>obtain ⟨y,q1,q2⟩:=h6 c x (by simpa using hx);exact ⟨y,by simpa using q1,q2⟩
    | _=>exact same h
def fcHX (i g kk n:Nat) (es:List AV):Hp→List Bool→(Hp→Prop)→Prop
  | H,[],k=>k H
  | [],_::_,k=>k []
  | ob::H,c::cs,k=>(match c with
    | true=>(match ob with|⟨e,kk',es',g',fz⟩=>fcEX i g kk n es es' (fun es2=>fcHX i g kk n es H cs (fun H'=>k (⟨e,kk',es2,g',fz⟩::H'))))
    | false=>fcHX i g kk n es H cs (fun H'=>k (ob::H')))
theorem fcHX_ok {i g kk n : Nat} {es : List AV} : ∀ {cs : List Bool} {H : Hp} {k : Hp → Prop}, fcHX i g kk n es H cs k → ∃ H2, k H2 ∧ H2.length = H.length ∧ ∀ (j : Nat) (ob2 : OB), H2[j]? = some ob2 → ∃ ob, H[j]? = some ob ∧ ob2.e = ob.e ∧ ob2.k = ob.k ∧ ob2.g = ob.g ∧ ob2.fz = ob.fz ∧ ob2.es.length = ob.es.length ∧
      ∀ (c:Nat) (b:AV),ob2.es[c]? = some b→∃ a,ob.es[c]? = some a∧b.cells.length=a.cells.length∧∀ (c:Nat) (y:AV),b.cells[c]? = some y→∃ x,a.cells[c]? = some x∧FzR i g kk n es x y
  | [],H,k,h=>⟨H,by cases H<;>exact h,rfl,fun j ob2 h=>⟨ob2,h,rfl,rfl,rfl,rfl,rfl,fun c b hb=>⟨b,hb,rfl,fun c y hy=>⟨y,hy,.inl rfl⟩⟩⟩⟩
  | _::_,[],k,h=>⟨[],h,rfl,fun j ob2 h=>by simp at h⟩
  | true::cs,⟨e,kk',es',g',fz⟩::H,k,h=>by
    simp only [fcHX] at h
    obtain ⟨es2,h1,h2,h3⟩:=fcEX_ok h
    obtain ⟨H',h4,h5,h6⟩:=fcHX_ok h1
    refine ⟨_,h4,by simp [h5],fun j ob2 hj=>?_⟩
    cases j with
    | zero=>simp at hj;subst hj;exact ⟨_,rfl,rfl,rfl,rfl,rfl,h2,h3⟩
    | succ j=>obtain ⟨ob,q1,q2⟩:=h6 j ob2 (by simpa using hj);exact ⟨ob,by simpa using q1,q2⟩
  | false::cs,ob::H,k,h=>by
    simp only [fcHX] at h
    obtain ⟨H',h4,h5,h6⟩:=fcHX_ok h
    refine ⟨_,h4,by simp [h5],fun j ob2 hj=>?_⟩
    cases j with
    | zero=>simp at hj;subst hj;exact ⟨ob,rfl,rfl,rfl,rfl,rfl,rfl,fun c b hb=>⟨b,hb,rfl,fun c y hy=>⟨y,hy,.inl rfl⟩⟩⟩
    | succ j=>obtain ⟨ob',q1,q2⟩:=h6 j ob2 (by simpa using hj);exact ⟨ob',by simpa using q1,q2⟩
def fzKX (i n:Nat) (cv:List Bool) (s:List AV) (H:Hp) (k:St→Prop):Prop :=
  rK H i (fun ob=>match ob with|⟨e,kk,es,g,fz⟩=>ObN (n≤es.length) (ObN ((es.take n).all AV.isP=true) (rpK H i ⟨e,kk,es,g,max fz n⟩ (fun H1=>fcS i g kk n es s (fun s'=>fcHX i g kk n es H1 cv (fun H'=>k ⟨s',H'⟩))))))
theorem fzKX_ok {G:Nat→AV} {B:Bd} {w0:World} {F0 F1:Fz} {O1:Ow} {F:Fz} {O:Ow} {s:List AV} {H:Hp} {a:Act} {w:World} {i n:Nat} {cv:List Bool} {k:St→Prop} (hk:fzKX i n cv s H k) (h:Rl G B w0 F0 F1 O1 F O ⟨s,H⟩ a w):∃ st2 F',k st2∧Rl G B w0 F0 F1 O1 F' O st2 a w:=by
  obtain ⟨ob,h1,h2⟩:=rK_ok hk
  obtain ⟨e,kk,es,g,fz⟩:=ob
  obtain ⟨hn,hp,h2⟩:=h2
  rw [rpK_eq] at h2
  obtain ⟨s',h3,h4,h5⟩:=fcS_ok h2
  obtain ⟨H',h6,h7,h8⟩:=fcHX_ok h3
  obtain ⟨F',own,lF,hz⟩:=h.own.freezeN h1 hn hp
  refine ⟨_,F',h6,?_,by rw [h.size];exact h4.symm,fun t=>?_,h.defs,h.gok.mono lF,Fz.le_trans h.leF lF,h.leO⟩
  · refine own.recell (by simpa using h7) fun j ob2 hj=>?_
    obtain ⟨ob1,q1,q2,q3,q4,q5,q6,q7⟩:=h8 j ob2 hj
    refine ⟨ob1,q1,q2,q3,q4,q5,q6,fun c e2 he=>?_⟩
    obtain ⟨e1,p1,p2,p3⟩:=q7 c e2 he
    refine ⟨e1,p1,p2,fun c a2 ha=>?_⟩
    obtain ⟨a1,p4,p5⟩:=p3 c a2 ha
    refine ⟨a1,p4,p5.one,fun x hx=>p5.vr (Fz.le_refl F') (fun x n' hn' hx=>?_) hx⟩
    -- the place in the row is the same as_ before
    have hx':VR F O x (.ol i g n'):=by
      cases hx with
      | p h=>cases h
      | ol _ _ _ _ d hd hg h1 h=>exact .ol x i g n' d hd hg h1 h
    exact hz x n' hn' hx'
  · rw [List.getD_eq_getElem?_getD]
    cases hq:s'[t]? with
    | none =>
      have h0:s[t]? = none:=by rw [List.getElem?_eq_none_iff] at hq ⊢;omega
      have:=h.slot t
      rw [List.getD_eq_getElem?_getD] at this
      simp only [h0] at this
      exact this.mono lF (Ow.le_refl O)
    | some b =>
      obtain ⟨a0,q1,q2⟩:=h5 t b hq
      have:=h.slot t
      rw [List.getD_eq_getElem?_getD] at this
      simp only [q1] at this
      exact q2 F F' O lF hz _ this
inductive SeqX (m:Nat) (K:St→Prop) (st:St):Prop
  | sp (h:SeqP m K st):SeqX m K st
  | fe (i n:Nat) (cv:List Bool) (h:fzKX i n cv st.s st.H K):SeqX m K st
section
variable (P:Program) (G:Nat→AV)
def VX (m:Nat):AC→(EX→St→Prop)→St→Prop
  | .seq a b,Q,st=>VX m a (thenQ (SeqX m (VX m b Q)) Q) st
  | .cond c t e,Q,st=>(match st with|⟨s,H⟩=>eK G s c (fun c=>match c with
    | .v v=>(match v with|.bool b=>ObT b (VX m t Q ⟨s,H⟩) (VX m e Q ⟨s,H⟩)|_=>False)
    | _=>False))
  | .block id c,Q,st=>VX m c (blockQ id Q) st
  | .scope c,Q,st=>VX m c Q st
  | .rng g p x y,Q,st=>(match st with|⟨s,H⟩=>eK G s g (fun gv=>RngP P G m gv p x y Q s H))
  | .skip,Q,st=>Q .n st
  | .region ops,Q,st=>V P G m (.region ops) Q st
  | .draw ops,Q,st=>V P G m (.draw ops) Q st
  | .drawx reps,Q,st=>V P G m (.drawx reps) Q st
  | .loop c,Q,st=>V P G m (.loop c) Q st
  | .exit id,Q,st=>Q (.x id) st
  | .ret,Q,st=>Q .r st
end
section
variable {P:Program} {G:Nat→AV} {hs:List FuncId} {F0 F1:Fz} {O1:Ow} {m:Nat}
theorem copC_region {i:Nat} {ops:Array Oper} {d:Bool} {ac:AC} (h:copC P hs (.region i ops d)=some ac):∀ {Q:EX→St→Prop} {st:St},VX P G m ac Q st→V P G m ac Q st:=by
  simp only [copC] at h
  split at h
  · split at h
    · split at h
      · cases h;exact fun h=>h
      · split at h
        · cases h;exact fun h=>h
        · cases h
    · cases h;exact fun h=>h
  · cases h
theorem VX_ok (hm : O1.length ≤ m) : ∀ (c : Code) (ac : AC), copX P hs c = some ac → ∀ (B : Bd) (w0 : World) (Q : EX → St → Prop) (Q' : Exit → Act → World → Prop) (st : St) (a : Act) (w : World) (F : Fz) (O : Ow), VX P G m ac Q st → Rl G B w0 F0 F1 O1 F O st a w →
    (∀ e st' a' w' F' O' B' w0',Ext B w0 F0 B' w0'→Q e st'→Rl G B' w0' F0 F1 O1 F' O' st' a' w'→Q' e.out a' w')→c.wp P Q' a w:=by
  intro c
  induction c with
  | skip=>intro ac hc B w0 Q Q' st a w F O h hr hQ;cases hc;exact wp_skip (hQ .n st a w F O B w0 (.refl ..) h hr)
  | label l=>intro ac hc B w0 Q Q' st a w F O h hr hQ;cases hc;exact wp_label (hQ .n st a w F O B w0 (.refl ..) h hr)
  | region id ops draw =>
    intro ac hc B w0 Q Q' st a w F O h hr hQ
    exact V_ok hm _ ac hc Q Q' st a w F O (copC_region hc h) hr fun e st' a' w' F' O' he hr'=>hQ e st' a' w' F' O' B w0 (.refl ..) he hr'
  | loop c _ =>
    intro ac hc B w0 Q Q' st a w F O h hr hQ
    refine V_ok hm _ ac hc Q Q' st a w F O ?_ hr fun e st' a' w' F' O' he hr'=>hQ e st' a' w' F' O' B w0 (.refl ..) he hr'
    simp only [copX,copC] at hc
    split at hc
    · cases hc;exact h
    · cases hc
  | seq x y ihx ihy =>
    intro ac hc B w0 Q Q' st a w F O h hr hQ
    simp only [copX] at hc
    split at hc
    · rename_i p q hp hq
      cases hc
      refine wp_seq (ihx p hp B w0 _ _ st a w F O h hr fun e st' a' w' F' O' B' w0' hx he hr'=>?_)
      have hQ2:∀ e st' a' w' F' O' B2 w2,Ext B' w0' F0 B2 w2→Q e st'→Rl G B2 w2 F0 F1 O1 F' O' st' a' w'→Q' e.out a' w':=fun e st' a' w' F' O' B2 w2 hx2=>hQ e st' a' w' F' O' B2 w2 (hx.trans hx2)
      cases e with
      | n =>
        rcases he with (he|⟨st2,hf,he⟩|⟨i,n,cv,he⟩|⟨ss,cv,he⟩)|⟨i,n,cv,he⟩
        · exact ihy q hq B' w0' Q Q' st' a' w' F' O' he hr' hQ2
        · obtain ⟨O2, hr2⟩ := hr'.forget hm hf
          exact ihy q hq B' w0' Q Q' st2 a' w' F' O2 he hr2 hQ2
        · obtain ⟨s', H'⟩ := st'
          obtain ⟨st2,F2,he,hr2⟩:=fzK_ok he hr'
          exact ihy q hq B' w0' Q Q' st2 a' w' F2 O' he hr2 hQ2
        · obtain ⟨s', H'⟩ := st'
          obtain ⟨st2,he,hr2⟩:=nlK_ok he hr'
          exact ihy q hq B' w0' Q Q' st2 a' w' F' O' he hr2 hQ2
        · obtain ⟨s', H'⟩ := st'
          obtain ⟨st2,F2,he,hr2⟩:=fzKX_ok he hr'
          exact ihy q hq B' w0' Q Q' st2 a' w' F2 O' he hr2 hQ2
      | x id=>exact hQ (.x id) st' a' w' F' O' B' w0' hx he hr'
      | r=>exact hQ .r st' a' w' F' O' B' w0' hx he hr'
    · cases hc
  | cond c x y ihx ihy =>
    intro ac hc B w0 Q Q' st a w F O h hr hQ
    obtain ⟨s,H⟩:=st
    simp only [copX] at hc
    split at hc
    · rename_i p q r hp hq hr'
      cases hc
      have ho:=hr.operand 0 c p hp
      simp only [VX,eK_eq] at h
      split at h
      · rename_i v hv
        split at h
        · rename_i b
          rw [hv] at ho
          have ho:=ho.pvC rfl
          have e:a.eval c = .bool b:=by generalize a.eval c=q at ho;cases ho;rfl
          obtain ⟨h1,h2⟩:=h
          cases b
          · exact wp_cond_false e (ihy r hr' B w0 Q Q' _ a w F O (h2 rfl) hr hQ)
          · exact wp_cond_true e (ihx q hq B w0 Q Q' _ a w F O (h1 rfl) hr hQ)
        · exact h.elim
      · exact h.elim
    · cases hc
  | block id c ih =>
    intro ac hc B w0 Q Q' st a w F O h hr hQ
    simp only [copX] at hc
    split at hc
    · rename_i p hp
      cases hc
      refine wp_block (ih p hp B w0 _ _ st a w F O h hr fun e st' a' w' F' O' B' w0' hx he hr'=>?_)
      cases e with
      | n=>exact hQ .n st' a' w' F' O' B' w0' hx he hr'
      | x id' =>
        simp only [blockQ] at he
        show (if id'=id then Q' .normal a' w' else Q' (.exit id') a' w')
        by_cases hid:id'=id
        · rw [if_pos hid] at he ⊢;exact hQ .n st' a' w' F' O' B' w0' hx he hr'
        · rw [if_neg hid] at he ⊢;exact hQ (.x id') st' a' w' F' O' B' w0' hx he hr'
      | r=>exact hQ .r st' a' w' F' O' B' w0' hx he hr'
    · cases hc
  | scope c ih =>
    intro ac hc B w0 Q Q' st a w F O h hr hQ
    simp only [copX] at hc
    split at hc
    · rename_i p hp
      cases hc
      refine wp_scope_straight (ih p hp B w0 Q _ st a w F O h hr fun e st' a' w' F' O' B' w0' hx he hr'=>?_)
      have:=hQ e st' a' w' F' O' B' w0' hx he hr'
      cases e<;>exact this
    · cases hc
  | exit id=>intro ac hc B w0 Q Q' st a w F O h hr hQ;cases hc;exact wp_exit (hQ (.x id) st a w F O B w0 (.refl ..) h hr)
  | ret=>intro ac hc B w0 Q Q' st a w F O h hr hQ;cases hc;exact wp_ret (hQ .r st a w F O B w0 (.refl ..) h hr)
  | rangeFunc g ps x y _ _ =>
    intro ac hc B w0 Q Q' st a w F O h hr hQ
    obtain ⟨s,H⟩:=st
    simp only [copX] at hc
    split at hc
    · rename_i g' p x' y' hg hp hx hy
      cases hc
      have hps:ps = #[p]:=by cases ps;simp at hp;simp [hp]
      subst hps
      simp only [VX,eK_eq] at h
      exact rng_ok hm hx hy hr (hr.operand 0 g g' hg) h fun st' a' w' F' O' B' w0' hx he hr'=>hQ .n st' a' w' F' O' B' w0' hx he hr'
    · cases hc
  | goto=>intro ac hc;cases hc
  | refuse=>intro ac hc;cases hc
def copFX (P:Program) (hs:List FuncId) (f:FuncId):Option AF :=
  match P.funcs[f]? with
  | some fn =>
    match fn.body with
    | some c=>(match copRes P fn.results.toList,copX P hs c with|some ts,some ac=>some ⟨fn.ntmps,ts,ac⟩|_,_=>none)
    | none=>none
  | none=>none
theorem leaves_marks {fn : Func} {tmps : Array Value} {R : Ending → World → Prop} {Ds0 : List Nat} (K : World → Prop) (hK : ∀ w D, D ∈ Ds0 → K w → w.heap[D]? = some (.deferred (some [])) → K (w.putObj D (.deferred none)))
    (hend:∀ w,K w→∃ v,(results fn tmps).run P w = .ok v w∧R (.returned v) w):∀ (Ds:List Nat) (w:World),(∀ D ∈ Ds,D ∈ Ds0)→Ds.Nodup→(∀ D ∈ Ds,w.heap[D]? = some (.deferred (some [])))→K w→LeavesInM Fence.wide 0 P fn tmps R (Ds.map dmark) .returning w
  | [],w,_,_,_,h=>hend w h
  | D::t,w,h0,hn,hd,h=>by
    have hD:=hd D (List.mem_cons_self ..)
    rw [List.nodup_cons] at hn
    refine ⟨by simp,.inl ⟨D,_,rfl,run_takeDeferred hD,leaves_marks K hK hend t _ (fun D' h'=>h0 D' (List.mem_cons_of_mem _ h')) hn.2 (fun D' h'=>?_) (hK w D (h0 D (List.mem_cons_self ..)) h hD)⟩⟩
    exact (World.putObj_heap_other fun e=>hn.1 (by rw [← show D'=D from e];exact h')).trans (hd D' (List.mem_cons_of_mem _ h'))
theorem marks_ok {B B' : Bd} {w0 w0' : World} (hds : B.ds = []) (hx : Ext B w0 F0 B' w0') {F : Fz} {O : Ow} {st : St} {a : Act} {w : World} (hr : Rl G B' w0' F0 F1 O1 F O st a w) {fn : Func} {R : Ending → World → Prop}
    (hend:∀ w2,Rl G B w0 F0 F1 O1 F O st { tmps:=a.tmps,defers:=[] } w2→∃ v,(results fn a.tmps).run P w2 = .ok v w2∧R (.returned v) w2):LeavesInM Fence.wide 0 P fn a.tmps R a.defers .returning w:=by
  obtain ⟨Ds,e1,n1,p1⟩:=hx.ds
  rw [hr.defs,e1,hds,List.append_nil]
  refine leaves_marks (Ds0:=Ds) (fun w2=>Own B w0 F0 F O st.H w2) (fun w2 D hD ho hd=>?_) (fun w2 ho=>hend w2 ⟨ho,hr.size,hr.slot,hds.symm,hr.gok,hr.leF,hr.leO⟩) Ds w (fun _ h=>h) n1 (fun D hD=>?_) (hx.back _ _ _ _ hr.own)
  · obtain ⟨q1, q2, q3, q4⟩ := p1 D hD
    exact ho.putNC _ ⟨_,hd,trivial⟩ q2 fun hk=>by have:=ho.kb _ hk;omega
  · obtain ⟨q1, q2, q3, q4⟩ := p1 D hD
    exact (hr.own.kept D q3).trans q4
theorem pc_ofX' {f : FuncId} {af : AF} (hf : copFX P hs f = some af) {as_ : List AV} {r : AV}
    (h:∀ (w:World) (F:Fz) (xs:List Value),xs.length=as_.length→(∀ (i:Nat) (c:Value) (a:AV),xs[i]? = some c→as_[i]? = some a→PV F c a)→∃ bs:List AV,bs.length=as_.length∧(∀ (i:Nat) (c:Value) (a:AV),xs[i]? = some c→bs[i]? = some a→VR F [] c a)∧initK bs af.n (fun s=>VX P G 0 af.body (EndP af.res r) ⟨s,[]⟩)):PC P G f as_ r:=by
  unfold copFX at hf
  split at hf
  · rename_i fn hfn
    split at hf
    · rename_i c hc
      split at hf
      · rename_i ts ac hts hac
        cases hf
        intro w F xs hfr hg hl hv
        obtain ⟨bs,hbl,hbv,h⟩:=h w F xs hl hv
        rw [initK_eq] at h
        have hown:Own (Bd.of w.heap.size) w F F [] [] w:=⟨rfl,fun i d ob hd=>by simp at hd,fun i j d d' hd=>by simp at hd,hfr,Fz.le_refl F,fun b o v hv=>.inl hv,Below.refl _ _,Nat.le_refl _,fun _ h=>h.elim,fun _ h=>h.elim⟩
        refine (callsIn_wide (n:=0)).1 (callsIn_of_wp_marks hfn hc trivial (wpIn_wide.2 (VX_ok (Nat.le_refl _) c ac hac (Bd.of w.heap.size) w _ _ _ _ _ F [] h (init_ok hown hg (by rw [hl,hbl]) hbv) fun e st' a' w' F' O' B' w0' hx he hr=>?_)))
        have key:∀ {s:List AV} {H:Hp},st'=⟨s,H⟩→rsK s H ts (fun vs=>fzA H vs (fun vs' _=>resK vs' (fun v=>ObEq v r)))→LeavesInM Fence.wide 0 P fn a'.tmps (fun e w'=>∃ v F',e = .returned v∧PV F' v r∧F.le F'∧(∀ b o v,F' b o=some v→w'.cell? ⟨b,o,none⟩=some v)∧(∀ b o v,F' b o=some v→F b o=some v∨w.heap.size≤b)∧Below w.heap.size w w') a'.defers .returning w':=by
          intro s H hst he
          obtain ⟨vs,hvs,he⟩:=rsK_ok he
          obtain ⟨rs,H',hp,he⟩:=fzA_ok he
          rw [resK_eq] at he
          obtain ⟨hrs⟩:=he
          subst hst
          refine marks_ok rfl hx hr fun w2 hr2=>?_
          obtain ⟨ys,y1,y2,y3⟩:=results_run hr2 hts hvs
          obtain ⟨F2,p1,p2,o2,l2⟩:=purA_ok hr2.own y2 y3 hp
          refine ⟨_,y1,_,F2,rfl,?_,Fz.le_trans hr2.leF l2,o2.fr,fun b o v hv=>(o2.new b o v hv).imp id (·.1),o2.below⟩
          rw [← hrs]
          exact resOf_pv (by omega) p1
        cases e with
        | n=>exact key rfl he
        | r=>exact key rfl he
        | x id=>exact he.elim
      · cases hf
    · cases hf
  · cases hf
theorem pc_ofX {f:FuncId} {af:AF} (hf:copFX P hs f=some af) {as_:List AV} {r:AV} (h:initK as_ af.n (fun s=>VX P G 0 af.body (EndP af.res r) ⟨s,[]⟩)):PC P G f as_ r :=
  pc_ofX' hf fun w F xs hl hv=>⟨as_,rfl,fun i c a hc ha=>.p (hv i c a hc ha),h⟩
end
theorem mx_nil (s:List AV):mx s []=s:=by cases s<;>rfl
theorem Fg.goS {m:Nat} {s:List AV} {H H2:Hp} (hH:H=H2):Fg m ⟨s,H⟩ ⟨s,H2⟩:=.same rfl (fun i b h=>.inr h) hH
theorem Fg.vwS {m:Nat} {s:List AV} {H H2:Hp} (T:Tb) (h:fgT T [] [] s s []) (v:vwK T H T H2 True) (hn:(T.map (·.2.1)).Nodup) (hb:bsK m nums T H):Fg m ⟨s,H⟩ ⟨s,H2⟩:=by
  have:=Fg.vw (M:=[]) T h v hn hb
  rwa [mx_nil] at this
theorem RngP.go {P : Program} {G : Nat → AV} {m : Nat} {gv : AV} {p : Nat} {x y : AC} {Q : EX → St → Prop} {s : List AV} {H : Hp} (f : FuncId) (cs l : List AV) (hg : fnA gv = some (f, cs)) (hp : cs.all AV.isP = true) (hs : SeqC P G f cs l) (α : Type) (J : Nat → α → Prop) (rows : α → Hp) (x0 : α) (h0 : J 0 x0) (M : List (Nat × Option AV)) (hH : Fg m ⟨s, H⟩ ⟨mx s M, rows x0⟩)
    (h1:∀ k a e,J k a→l[k]? = some e→mxK s M (fun s'=>V P G (rows a).length x (asgQ (V P G (rows a).length y (RndQ m J rows (mx s M) (k+1)))) ⟨s'.set p e,rows a⟩))
    (h2:∀ a,J l.length a→mxK s M (fun s'=>Q .n ⟨s',rows a⟩)):RngP P G m gv p x y Q s H :=
  .mk f cs l hg hp hs α J rows x0 h0 _ hH (fun k a e hj he=>by have:=h1 k a e hj he;rwa [mxK_eq] at this) (fun a hj=>by have:=h2 a hj;rwa [mxK_eq] at this)
end Go.Proofs.Ytghbpplcgjeohaa.Sim
namespace Go.Proofs.Ytghbpplcgjeohaa.Sim
set_option maxRecDepth 100000
def A4:AF:=(AF.mk 90 [(4,none)] (AC.seq (AC.region [(AI.mk (some 4) (AOp.mv (AX.c (AV.v (Value.bool false)))) none)]) (AC.seq (AC.region [(AI.mk (some 11) (AOp.mv (AX.t 0)) none),(AI.mk (some 12) (AOp.call 5 [(AX.t 11)]) none),(AI.mk (some 0) (AOp.mv (AX.t 12)) none)]) (AC.seq (AC.region [(AI.mk (some 14) (AOp.mv (AX.t 0)) none),(AI.mk (some 15) (AOp.call 5 [(AX.t 14)]) none),(AI.mk (some 16) (AOp.mv (AX.t 1)) none),(AI.mk (some 17) (AOp.call 13 [(AX.t 15),(AX.t 16)]) none),(AI.mk (some 13) (AOp.mv (AX.t 17)) none),(AI.mk (some 18) (AOp.ext (AX.t 13) 0) none),(AI.mk (some 19) (AOp.ext (AX.t 13) 1) none),(AI.mk (some 5) (AOp.mv (AX.t 18)) none),(AI.mk (some 6) (AOp.mv (AX.t 19)) none)]) (AC.seq (AC.region [(AI.mk (some 21) (AOp.mv (AX.t 0)) none),(AI.mk (some 22) (AOp.call 5 [(AX.t 21)]) none),(AI.mk (some 23) (AOp.mv (AX.t 1)) none),(AI.mk (some 24) (AOp.call 14 [(AX.t 22),(AX.t 23)]) none),(AI.mk (some 20) (AOp.mv (AX.t 24)) none),(AI.mk (some 25) (AOp.ext (AX.t 20) 0) none),(AI.mk (some 26) (AOp.ext (AX.t 20) 1) none),(AI.mk (some 7) (AOp.mv (AX.t 25)) none),(AI.mk (some 8) (AOp.mv (AX.t 26)) none)]) (AC.seq (AC.seq (AC.region [(AI.mk (some 27) (AOp.call 10 []) none),(AI.mk (some 28) (AOp.un UnOp.not (AX.t 27)) none)]) (AC.cond (AX.t 28) (AC.seq (AC.region [(AI.mk (some 4) (AOp.mv (AX.c (AV.v (Value.bool false)))) none)]) AC.ret) AC.skip)) (AC.seq (AC.region [(AI.mk (some 29) (AOp.bsl 28 1 []) none),(AI.mk (some 9) (AOp.new 38 1 (AX.c (AV.nl 1))) none),(AI.mk none (AOp.store 1 (AX.t 9) (AX.t 29)) none)]) (AC.seq (AC.seq (AC.region [(AI.mk (some 30) (AOp.mv (AX.t 0)) none),(AI.mk (some 31) (AOp.call 5 [(AX.t 30)]) none),(AI.mk (some 32) (AOp.mv (AX.t 1)) none),(AI.mk (some 33) (AOp.call 15 [(AX.t 31),(AX.t 32)]) none)]) (AC.block 0 (AC.rng (AX.t 33) 34 (AC.region [(AI.mk (some 10) (AOp.mv (AX.t 34)) none)]) (AC.block 1 (AC.region [(AI.mk (some 35) (AOp.load false 1 (AX.t 9)) none),(AI.mk (some 36) (AOp.mv (AX.t 10)) none),(AI.mk (some 37) (AOp.bsl 28 1 [(AX.t 36)]) none),(AI.mk (some 38) (AOp.app 28 1 8 (AX.t 35) (AX.t 37)) none),(AI.mk none (AOp.store 1 (AX.t 9) (AX.t 38)) none)]))))) (AC.seq (AC.seq (AC.region [(AI.mk (some 39) (AOp.mv (AX.t 0)) none),(AI.mk (some 40) (AOp.mv (AX.t 1)) none),(AI.mk (some 41) (AOp.call 9 [(AX.t 39),(AX.t 40)]) none),(AI.mk (some 42) (AOp.un UnOp.not (AX.t 41)) none)]) (AC.cond (AX.t 42) (AC.seq (AC.region [(AI.mk (some 43) (AOp.mv (AX.t 6)) none),(AI.mk (some 44) (AOp.bin BinOp.eql 25 false (Operand.tmp 43) (Operand.const (Value.int IntKind.i64 4)) (AX.t 43) (AX.c (AV.v (Value.int IntKind.i64 4)))) none),(AI.mk (some 45) (AOp.mv (AX.t 44)) none),(AI.mk (some 46) (AOp.mv (AX.t 8)) (some (45,true))),(AI.mk (some 47) (AOp.bin BinOp.eql 25 false (Operand.tmp 46) (Operand.const (Value.int IntKind.i64 4)) (AX.t 46) (AX.c (AV.v (Value.int IntKind.i64 4)))) (some (45,true))),(AI.mk (some 48) (AOp.pick (AX.t 45) (AX.t 47) (AX.c (AV.v (Value.bool false)))) none),(AI.mk (some 49) (AOp.mv (AX.t 48)) none),(AI.mk (some 50) (AOp.mv (AX.t 5)) (some (49,true))),(AI.mk (some 51) (AOp.bin BinOp.eql 3 false (Operand.tmp 50) (Operand.const (Value.int IntKind.i64 0)) (AX.t 50) (AX.c (AV.v (Value.int IntKind.i64 0)))) (some (49,true))),(AI.mk (some 52) (AOp.pick (AX.t 49) (AX.t 51) (AX.c (AV.v (Value.bool false)))) none),(AI.mk (some 53) (AOp.mv (AX.t 52)) none),(AI.mk (some 54) (AOp.mv (AX.t 7)) (some (53,true))),(AI.mk (some 55) (AOp.bin BinOp.eql 3 false (Operand.tmp 54) (Operand.const (Value.int IntKind.i64 0)) (AX.t 54) (AX.c (AV.v (Value.int IntKind.i64 0)))) (some (53,true))),(AI.mk (some 56) (AOp.pick (AX.t 53) (AX.t 55) (AX.c (AV.v (Value.bool false)))) none),(AI.mk (some 57) (AOp.mv (AX.t 56)) none),(AI.mk (some 58) (AOp.load false 1 (AX.t 9)) (some (57,true))),(AI.mk (some 59) (AOp.len (AX.t 58)) (some (57,true))),(AI.mk (some 60) (AOp.bin BinOp.eql 3 false (Operand.tmp 59) (Operand.const (Value.int IntKind.i64 0)) (AX.t 59) (AX.c (AV.v (Value.int IntKind.i64 0)))) (some (57,true))),(AI.mk (some 61) (AOp.pick (AX.t 57) (AX.t 60) (AX.c (AV.v (Value.bool false)))) none),(AI.mk (some 4) (AOp.mv (AX.t 61)) none)]) AC.ret) AC.skip)) (AC.seq (AC.draw [(AI.mk (some 62) (AOp.mv (AX.t 6)) none),(AI.mk (some 63) (AOp.bin BinOp.eql 25 false (Operand.tmp 62) (Operand.const (Value.int IntKind.i64 0)) (AX.t 62) (AX.c (AV.v (Value.int IntKind.i64 0)))) none),(AI.mk (some 64) (AOp.mv (AX.t 63)) none),(AI.mk (some 65) (AOp.mv (AX.t 8)) (some (64,true))),(AI.mk (some 66) (AOp.bin BinOp.eql 25 false (Operand.tmp 65) (Operand.const (Value.int IntKind.i64 0)) (AX.t 65) (AX.c (AV.v (Value.int IntKind.i64 0)))) (some (64,true))),(AI.mk (some 67) (AOp.pick (AX.t 64) (AX.t 66) (AX.c (AV.v (Value.bool false)))) none),(AI.mk (some 68) (AOp.mv (AX.t 67)) none),(AI.mk (some 69) (AOp.mv (AX.t 5)) (some (68,true))),(AI.mk (some 70) (AOp.mv (AX.t 0)) (some (68,true))),(AI.mk (some 71) (AOp.mv (AX.t 1)) (some (68,true))),(AI.mk (some 72) (AOp.call 16 [(AX.t 70),(AX.t 71)]) (some (68,true))),(AI.mk (some 73) (AOp.len (AX.t 72)) (some (68,true))),(AI.mk (some 74) (AOp.bin BinOp.eql 3 false (Operand.tmp 69) (Operand.tmp 73) (AX.t 69) (AX.t 73)) (some (68,true))),(AI.mk (some 75) (AOp.pick (AX.t 68) (AX.t 74) (AX.c (AV.v (Value.bool false)))) none),(AI.mk (some 76) (AOp.mv (AX.t 75)) none),(AI.mk (some 77) (AOp.mv (AX.t 7)) (some (76,true))),(AI.mk (some 78) (AOp.mv (AX.t 0)) (some (76,true))),(AI.mk (some 79) (AOp.mv (AX.t 1)) (some (76,true))),(AI.mk (some 80) (AOp.call 17 [(AX.t 78),(AX.t 79)]) (some (76,true))),(AI.mk (some 81) (AOp.bin BinOp.eql 3 false (Operand.tmp 77) (Operand.tmp 80) (AX.t 77) (AX.t 80)) (some (76,true))),(AI.mk (some 82) (AOp.pick (AX.t 76) (AX.t 81) (AX.c (AV.v (Value.bool false)))) none),(AI.mk (some 83) (AOp.mv (AX.t 82)) none),(AI.mk (some 84) (AOp.load false 1 (AX.t 9)) (some (83,true))),(AI.mk (some 85) (AOp.mv (AX.t 0)) (some (83,true))),(AI.mk (some 86) (AOp.mv (AX.t 1)) (some (83,true))),(AI.mk (some 87) (AOp.call 16 [(AX.t 85),(AX.t 86)]) (some (83,true))),(AI.mk (some 88) (AOp.call 18 [(AX.t 84),(AX.t 87)]) (some (83,true))),(AI.mk (some 89) (AOp.pick (AX.t 83) (AX.t 88) (AX.c (AV.v (Value.bool false)))) none),(AI.mk (some 4) (AOp.mv (AX.t 89)) none)]) AC.ret))))))))))
theorem cop4:copFX Try.prog [25,33,39,43,62,63,66,67,68,69,70] 4=some A4:=by kernel_rfl
def A13:AF:=(AF.mk 17 [(4,none),(5,none)] (AC.seq (AC.region [(AI.mk (some 4) (AOp.mv (AX.c (AV.v (Value.int IntKind.i64 0)))) none),(AI.mk (some 5) (AOp.mv (AX.c (AV.v (Value.int IntKind.i64 0)))) none)]) (AC.seq (AC.region [(AI.mk (some 6) (AOp.new 3 1 (AX.c (AV.v (Value.int IntKind.i64 0)))) none),(AI.mk none (AOp.store 1 (AX.t 6) (AX.c (AV.v (Value.int IntKind.i64 0)))) none)]) (AC.seq (AC.seq (AC.region [(AI.mk (some 7) (AOp.mv (AX.t 0)) none),(AI.mk (some 8) (AOp.mv (AX.t 1)) none),(AI.mk (some 9) (AOp.call 15 [(AX.t 7),(AX.t 8)]) none)]) (AC.block 0 (AC.rng (AX.t 9) 10 AC.skip (AC.block 1 (AC.region [(AI.mk (some 11) (AOp.load false 1 (AX.t 6)) none),(AI.mk (some 12) (AOp.bin BinOp.add 3 false (Operand.tmp 11) (Operand.const (Value.int IntKind.i64 1)) (AX.t 11) (AX.c (AV.v (Value.int IntKind.i64 1)))) none),(AI.mk none (AOp.store 1 (AX.t 6) (AX.t 12)) none)]))))) (AC.seq (AC.draw [(AI.mk (some 13) (AOp.load false 1 (AX.t 6)) none),(AI.mk (some 14) (AOp.mv (AX.t 0)) none),(AI.mk (some 15) (AOp.mv (AX.t 1)) none),(AI.mk (some 16) (AOp.call 21 [(AX.t 14),(AX.t 15)]) none),(AI.mk (some 4) (AOp.mv (AX.t 13)) none),(AI.mk (some 5) (AOp.mv (AX.t 16)) none)]) AC.ret)))))
theorem cop13:copFX Try.prog [25,33,39,43,62,63,66,67,68,69,70] 13=some A13:=by kernel_rfl
end Go.Proofs.Ytghbpplcgjeohaa.Sim
namespace Go.Proofs.Ytghbpplcgjeohaa.Sim
open Go.RowKit
set_option maxRecDepth 100000
abbrev fon (F:List Bool) (k:Int):Prop:=F.getD k.toNat false=true
def stL (F:List Bool) (l:List Int):List Bool:=l.foldl (fun F c=>F.set c.toNat true) F
theorem stL_len (l:List Int) (F:List Bool):(stL F l).length=F.length:=by
  induction l generalizing F with
  | nil=>rfl
  | cons x t ih=>show (stL (F.set x.toNat true) t).length=_;rw [ih,List.length_set]
theorem stL_snoc {F:List Bool} {l:List Int} {k:Nat} (hk:k < l.length):stL F (l.take (k+1))=(stL F (l.take k)).set (l[k]).toNat true:=by
  rw [List.take_succ_eq_append_getElem hk,stL,List.foldl_append];rfl
theorem stL_on {l:List Int}:∀ {F:List Bool} {k:Int},0≤k→(∀ c ∈ l,0≤c∧c.toNat < F.length)→(fon (stL F l) k↔fon F k∨k ∈ l):=by
  induction l with
  | nil=>intro F k _ _;simp [stL]
  | cons x t ih =>
    intro F k hk hc
    have e:stL F (x::t)=stL (F.set x.toNat true) t:=rfl
    obtain ⟨x0,x1⟩:=hc x (List.mem_cons_self ..)
    rw [e,ih hk fun c hc'=>by rw [List.length_set];exact hc c (List.mem_cons_of_mem _ hc')]
    have:fon (F.set x.toNat true) k↔fon F k∨k=x:=by
      unfold fon
      rw [List.getD_eq_getElem?_getD,List.getD_eq_getElem?_getD]
      by_cases h:k=x
      · subst h;rw [List.getElem?_set_self x1];simp
      · rw [List.getElem?_set_ne (by omega)];simp [h]
    rw [this,List.mem_cons,or_assoc]
structure Dj (h:List Nd) (n j:Nat) (F:List Bool) (o:List Int):Prop where
  len:F.length=n+1
  only:∀ k:Int,0 < k→k≤(n:Int)→fon F k→Rch h (n:Int) k
  top:fon F (n:Int)
  clos:∀ k:Int,(n:Int) - j < k→k≤(n:Int)→fon F k→∀ c ∈ rfs h k,fon F c
  out:o=rp h (n:Int) n j
theorem Dj.all {h:List Nd} (hh:aH h h.length=true) {n j:Nat} {F:List Bool} {o:List Int} (hd:Dj h n j F o) {k:Int} (hk:Rch h (n:Int) k):(n:Int) - j≤k→fon F k:=by
  induction hk with
  | base _=>intro _;exact hd.top
  | step hkk hc ih =>
    intro hc2
    have h1:=hkk.bd hh
    have h2:=(rfs_bd hh hc).2.1 h1.1
    exact hd.clos _ (by omega) h1.2 (ih (by omega)) _ hc
theorem Dj.at_ {h:List Nd} (hh:aH h h.length=true) {n j:Nat} {F:List Bool} {o:List Int} (hd:Dj h n j F o) (hj:j < n):F[((n:Int) - j).toNat]? = some (rc h (n:Int) ((n:Int) - j)):=by
  have hl:=hd.len
  rw [List.getElem?_eq_getElem (by omega)]
  congr 1
  rw [Bool.eq_iff_iff,rc_iff]
  have e:fon F ((n:Int) - j)↔F[((n:Int) - j).toNat]=true:=by
    unfold fon;rw [List.getD_eq_getElem?_getD,List.getElem?_eq_getElem (by omega),Option.getD_some]
  rw [← e]
  exact ⟨hd.only _ (by omega) (by omega),fun h=>hd.all hh h (by omega)⟩
theorem Dj.no {h:List Nd} {n j:Nat} {F:List Bool} {o:List Int} (hd:Dj h n j F o) (hj:j < n) (hc:F[((n:Int) - j).toNat]? = some false) (hr:rc h (n:Int) ((n:Int) - j)=false):Dj h n (j+1) F o:=by
  refine ⟨hd.len,hd.only,hd.top,fun k h1 h2 hf c hcc=>?_,by rw [rp,hr,← hd.out];simp⟩
  by_cases e:k=(n:Int) - j
  · subst e
    unfold fon at hf
    rw [List.getD_eq_getElem?_getD,hc] at hf;cases hf
  · exact hd.clos k (by omega) h2 hf c hcc
theorem Dj.yes {h:List Nd} (hh:aH h h.length=true) {n j:Nat} {F:List Bool} {o:List Int} (hd:Dj h n j F o) (hj:j < n) (hr:rc h (n:Int) ((n:Int) - j)=true):Dj h n (j+1) (stL F (rfs h ((n:Int) - j))) (o++[(n:Int) - j]):=by
  have hl:=hd.len
  have hb:∀ c ∈ rfs h ((n:Int) - j),0≤c∧c.toNat < F.length:=fun c hc=>by
    have:=rfs_bd hh hc
    have:=this.2.1 (by omega)
    omega
  have hon:∀ {k:Int},0≤k→(fon (stL F (rfs h ((n:Int) - j))) k↔fon F k∨k ∈ rfs h ((n:Int) - j)):=fun hk=>stL_on hk hb
  refine ⟨by rw [stL_len,hl],fun k h1 h2 hf=>?_,(hon (by omega)).2 (.inl hd.top),fun k h1 h2 hf c hcc=>?_,by rw [rp,hr,← hd.out];simp⟩
  · rcases (hon (by omega)).1 hf with h | h
    · exact hd.only k h1 h2 h
    · exact .step (rc_iff.1 hr) h
  · have hc0 := (rfs_bd hh hcc).1
    refine (hon (by omega)).2 ?_
    by_cases e:k=(n:Int) - j
    · subst e;exact .inr hcc
    · refine .inl (hd.clos k (by omega) h2 ?_ c hcc)
      rcases (hon (by omega)).1 hf with h|h
      · exact h
      · have:=(rfs_bd hh h).2.1 (by omega);omega
section
variable (G:Nat→AV)
set_option maxHeartbeats 8000000 in
theorem desc31 (h:List Nd) (hl:h.length≤1000) (hx:∀ x ∈ h,x.Ok) (hh:aH h h.length=true) (n:Nat) (hn:n≤h.length):PC Try.prog G 31 [.sl 9 (h.map nA),I n] (.sl 1 ((rl h (n:Int) n).map iA)):=by
  have ur:List.replicate (n+1) (AV.v (.bool false))=(List.replicate (n+1) false).map bA:=bA_rep
  have us:((List.replicate (n+1) false).map bA).set n (.v (.bool true))=((List.replicate (n+1) false).set n true).map bA:=bA_set
  obtain ⟨F0,hF0⟩:∃ F0,F0=(List.replicate (n+1) false).set n true:=⟨_,rfl⟩
  have hD0:Dj h n 0 F0 []:=by
    have hon:∀ k:Int,0≤k→(fon F0 k→k=(n:Int)):=fun k hk hf=>by
      unfold fon at hf
      rw [hF0,List.getD_eq_getElem?_getD] at hf
      by_cases e:k=(n:Int)
      · exact e
      · rw [List.getElem?_set_ne (by omega), List.getElem?_replicate] at hf
        split at hf<;>simp at hf
    refine ⟨by rw [hF0];simp,fun k h1 h2 hf=>by obtain rfl:=hon k (by omega) hf;exact .base h1,?_,fun k h1 h2=>by omega,rfl⟩
    unfold fon
    rw [hF0,List.getD_eq_getElem?_getD]
    simp
  rw [← hF0] at us
  have r0:=nr_b (List.replicate (n+1) false)
  have r1:=nr_b F0
  have gz:((List.replicate (n+1) false).map bA)[n]? = some (.v (.bool false)):=bA_at (by rw [List.getElem?_replicate];simp)
  rw [← rp_end]
  clear hF0
  refine pc_ofV cop31 ?_
  repeat' ((conv=>whnf);first|(with_reducible refine SeqP.go ?_)|((with_reducible refine ObD.mk ?_ ?_);(focus (first|rfl|(simp;done))))|((with_reducible refine ObN.mk ?_ ?_);(focus exact zN))|((with_reducible refine ObI.nl ?_ ?_);(focus omega))|((with_reducible refine ObX.mk _ rfl ?_ ?_);(focus exact zX))|((with_reducible refine (?_:ObL _ _));(refine ObL.mk _ zM ?_))|((with_reducible refine (?_:ObU _ _));(refine ObU.mk _ (by first|exact ur|exact us|assumption|((conv=>lhs;simp only [List.set_cons_zero,List.set_cons_succ,List.take_succ_cons,List.take_zero,List.drop_succ_cons,List.drop_zero,List.nil_append,List.cons_append,List.append_nil,List.take_nil,List.drop_nil]);try rfl)|rfl) ?_))|((with_reducible refine (?_:ObR _ _ _));(first|(refine ObR.mk _ (by assumption) ?_)|(refine ObR.mk _ (by with_reducible rfl) ?_)|(refine ObR.map zX (fun x hx=>?_))|(refine ObR.mk _ rfl ?_))))
  conv=>whnf
  refine LoopP.go (α:=Nat × List Bool × List Int) (fun p=>p.1≤n∧Dj h n p.1 p.2.1 p.2.2) (fun p=>n - p.1) (fun p=>[(5,some (rS 1 p.2.2)),(1,some (I ((n:Int) - p.1))),(1,none),(7,none),(0,none),(0,none),(0,none),(0,none),(0,none),(0,none),(0,none),(0,none),(0,none),(0,none),(0,none),(0,none),(0,none),(0,none),(0,none),(0,none),(0,none),(0,none),(0,none),(0,none),(0,none),(0,none),(0,none),(0,none),(0,none),(0,none),(0,none)]) (fun p=>[⟨4,1,p.2.1.map bA,0,0⟩]++rH p.2.2) (0,F0,[]) ⟨Nat.zero_le _,hD0⟩ (Fg.go ?_ rfl) ?_
  · repeat' ((conv=>whnf);first|((with_reducible refine ObEqs.mk ?_ ?_);(focus rfl))|((with_reducible refine ObEq1.i ?_ ?_);(focus (first|(with_reducible rfl)|omega)))|((with_reducible refine ObEq1.mk ?_ ?_);(focus (first|rfl|assumption)))|exact True.intro)
  rintro ⟨j,F,o⟩ ⟨hj,hD⟩
  dsimp only at hj hD ⊢
  have hol:o.length≤j:=by rw [hD.out];exact rp_len
  have hFl:=hD.len
  have rb:=nr_b F
  by_cases hjn:j < n
  · obtain ⟨i, hi⟩ : ∃ i : Nat, i + j + 1 = n := ⟨n - 1 - j, by omega⟩
    have ei:(n:Int) - j=(i:Int)+1:=by omega
    have hrc:=hD.at_ hh hjn
    have hno:=hD.no hjn
    have hye:=hD.yes hh hjn
    rw [ei] at hrc hno hye ⊢
    have e2:((i:Int)+1).toNat=i+1:=by omega
    rw [e2] at hrc hno
    have hg:=bA_at hrc
    have e4:(n:Int) - ((j+1:Nat):Int)=(i:Int):=by omega
    cases hc:rc h (n:Int) ((i:Int)+1)
    · rw [hc] at hg hrc
      have hD2:=hno hrc hc
      rcases o with _|⟨o0,ot⟩
      all_goals repeat' ((conv=>whnf);first|(with_reducible refine SeqP.go ?_)|((with_reducible refine ObN.mk ?_ ?_);(focus exact zN))|(with_reducible refine ObT.tt ?_)|(with_reducible refine ObT.ff ?_)|((with_reducible refine ObB.yes ?_ ?_);(focus (first|assumption|(with_reducible rfl)|omega)))|((with_reducible refine ObI.mk _ rfl ?_ ?_ ?_);(focus omega);(focus omega))|((with_reducible refine ObX.mk _ rfl ?_ ?_);(focus exact zX))|((with_reducible refine (?_:ObR _ _ _));(first|(refine ObR.mk _ (by assumption) ?_)|(refine ObR.mk _ (by with_reducible rfl) ?_)|(refine ObR.map zX (fun x hx=>?_))|(refine ObR.mk _ rfl ?_))))
      all_goals conv=>whnf
      all_goals first|refine Again.mk (j+1,F,[]) ⟨by dsimp only;omega,hD2⟩ (by dsimp only;omega) ?_|refine Again.mk (j+1,F,o0::ot) ⟨by dsimp only;omega,hD2⟩ (by dsimp only;omega) ?_
      all_goals (try dsimp only)
      all_goals rw [e4]
      all_goals refine Fg.go ?_ rfl
      all_goals repeat' ((conv=>whnf);first|((with_reducible refine ObEqs.mk ?_ ?_);(focus rfl))|((with_reducible refine ObEq1.i ?_ ?_);(focus (first|(with_reducible rfl)|omega)))|((with_reducible refine ObEq1.mk ?_ ?_);(focus (first|rfl|assumption)))|exact True.intro)
    · rw [hc] at hg
      have hD2:=hye hc
      have hil:i < h.length:=by omega
      have hq:=nA_at hil
      have hxo:=hx _ (List.getElem_mem hil)
      have hrf:=refs30 G h[i] hxo
      have hrl:=rf_len hxo
      have hrfs:rfs h ((i:Int)+1)=rfN h[i]:=by
        rw [rfs,show ((i:Int)+1 - 1).toNat=i by omega,List.getElem?_eq_getElem hil]
      have hrr:∀ c ∈ rfs h ((i:Int)+1),1≤c∧c≤(i:Int):=fun c hc=>by
        have:=rfs_bd hh hc
        have:=this.2.1 (by omega)
        omega
      rw [hrfs] at hrr hD2
      generalize h[i]=x at *
      rw [← show ((i:Int)+1 - 1).toNat=i by omega] at hq
      obtain ⟨O,hO⟩:∃ O,O=o++[(i:Int)+1]:=⟨_,rfl⟩
      rw [← hO] at hD2
      have hOl:O.length=o.length+1:=by rw [hO];simp
      have rO:=nr_i O
      clear hno hye hD hh
      rcases o with _|⟨o0,ot⟩
      · obtain rfl : O = [(i : Int) + 1] := hO
        repeat' ((conv=>whnf);first|(with_reducible refine SeqP.go ?_)|((with_reducible refine ObD.mk ?_ ?_);(focus (first|rfl|(simp;done))))|((with_reducible refine ObN.mk ?_ ?_);(focus exact zN))|(with_reducible refine ObT.tt ?_)|(with_reducible refine ObT.ff ?_)|((with_reducible refine ObB.yes ?_ ?_);(focus (first|assumption|(with_reducible rfl)|omega)))|((with_reducible refine ObI.mk _ rfl ?_ ?_ ?_);(focus omega);(focus omega))|((with_reducible refine ObX.mk _ rfl ?_ ?_);(focus exact zX))|((with_reducible refine ObX.int ?_ ?_ ?_);(focus exact zX);(focus exact zX))|((with_reducible refine (?_:ObL _ _));(refine ObL.mk _ zM ?_))|((with_reducible refine (?_:ObU _ _));(refine ObU.mk _ zU ?_))|((with_reducible refine (?_:ObR _ _ _));(first|(refine ObR.mk _ (by assumption) ?_)|(refine ObR.mk _ (by with_reducible rfl) ?_)|(refine ObR.map zX (fun x hx=>?_))|(refine ObR.mk _ rfl ?_)))|((with_reducible refine ObC.f 24 ?_);(first|(with_reducible refine ObC.mk _ (hrf) ?_)|(refine ObC.mk _ (hrf) ?_)))|((with_reducible refine ObW.cons ?_ ?_);(focus (first|assumption|(simp;done)))))
        conv=>whnf
        refine LoopP.go (α:=Nat) (fun k=>k≤(rfN x).length) (fun k=>(rfN x).length - k) (fun k=>[(5,some (.ol 1 0 1)),(3,none),(16,none),(1,none),(0,none),(7,some (I k)),(0,none),(0,none),(0,none),(0,none),(0,none),(0,none),(0,none)]) (fun k=>[⟨4,1,(stL F ((rfN x).take k)).map bA,0,0⟩,kR 0 [(i:Int)+1]]) 0 (Nat.zero_le _) (Fg.vw [(0,0,0),(0,2,0)] (by repeat' ((conv=>whnf);first|((with_reducible refine ObN.mk ?_ ?_);(focus exact zN))|((with_reducible refine ObRn.mk ?_ ?_);(focus (first|rfl|(simp [rnB,rnC,rnL];done))))|((with_reducible refine ObEqs.mk ?_ ?_);(focus rfl))|exact True.intro)) (by repeat' ((conv=>whnf);first|((with_reducible refine ObN.mk ?_ ?_);(focus exact zN))|((with_reducible refine ObRow.same ?_ ?_ ?_);(focus (first|rfl|assumption));(focus (first|rfl|assumption|(simp;done))))|exact True.intro)) (by simp) (by repeat' ((conv=>whnf);first|exact True.intro))) ?_
        rintro k hk
        have hsl:=stL_len ((rfN x).take k) F
        by_cases hkr:k < (rfN x).length
        · have hq2 := iA_at' hkr
          have hr1:=hrr _ (List.getElem_mem hkr)
          have hs:=stL_snoc (F:=F) hkr
          generalize stL F ((rfN x).take k)=F2 at *
          generalize (rfN x)[k]=c at *
          have g9:(F2.map bA)[c.toNat]? = some (.v (.bool (F2.getD c.toNat false))):=bA_at (by rw [List.getD_eq_getElem?_getD,List.getElem?_eq_getElem (by omega)];rfl)
          have us2:(F2.map bA).set c.toNat (.v (.bool true))=(F2.set c.toNat true).map bA:=bA_set
          have rb2:=nr_b F2
          have rb3:=nr_b (F2.set c.toNat true)
          repeat' ((conv=>whnf);first|(with_reducible refine SeqP.go ?_)|((with_reducible refine ObD.mk ?_ ?_);(focus (first|rfl|(simp;done))))|((with_reducible refine ObN.mk ?_ ?_);(focus exact zN))|(with_reducible refine ObT.tt ?_)|((with_reducible refine ObB.yes ?_ ?_);(focus (first|assumption|(with_reducible rfl)|omega)))|((with_reducible refine ObI.nl ?_ ?_);(focus omega))|((with_reducible refine ObX.mk _ rfl ?_ ?_);(focus exact zX))|((with_reducible refine ObX.int ?_ ?_ ?_);(focus exact zX);(focus exact zX))|((with_reducible refine (?_:ObU _ _));(refine ObU.mk _ (by first|exact us2|assumption|((conv=>lhs;simp only [List.set_cons_zero,List.set_cons_succ,List.take_succ_cons,List.take_zero,List.drop_succ_cons,List.drop_zero,List.nil_append,List.cons_append,List.append_nil,List.take_nil,List.drop_nil]);try rfl)|rfl) ?_))|((with_reducible refine (?_:ObR _ _ _));(first|(refine ObR.mk _ (by assumption) ?_)|(refine ObR.mk _ (by with_reducible rfl) ?_)|(refine ObR.map zX (fun x hx=>?_))|(refine ObR.mk _ rfl ?_))))
          conv=>whnf
          refine Again.mk (k+1) (by omega) (by omega) ?_
          rw [hs]
          refine Fg.vw [(0,0,0),(0,1,0)] ?_ ?_ (by simp) ?_
          all_goals repeat' ((conv=>whnf);first|((with_reducible refine ObN.mk ?_ ?_);(focus exact zN))|((with_reducible refine ObRn.mk ?_ ?_);(focus (first|rfl|(simp [rnB,rnC,rnL];done))))|((with_reducible refine ObRow.same ?_ ?_ ?_);(focus (first|rfl|assumption));(focus (first|rfl|assumption|(simp;done))))|((with_reducible refine ObEqs.mk ?_ ?_);(focus rfl))|exact True.intro)
        · obtain rfl : k = (rfN x).length := by omega
          rw [List.take_length]
          have rb2:=nr_b (stL F (rfN x))
          repeat' ((conv=>whnf);first|(with_reducible refine SeqP.go ?_)|((with_reducible refine ObN.mk ?_ ?_);(focus exact zN))|(with_reducible refine ObT.ff ?_)|((with_reducible refine ObB.no ?_ ?_);(focus (first|assumption|omega)))|((with_reducible refine ObI.mk _ rfl ?_ ?_ ?_);(focus omega);(focus omega)))
          conv=>whnf
          refine Again.mk (j+1,stL F (rfN x),[(i:Int)+1]) ⟨by dsimp only;omega,hD2⟩ (by dsimp only;omega) ?_
          try dsimp only
          rw [e4]
          refine Fg.vw [(0,0,0),(0,1,0)] ?_ ?_ (by simp) ?_
          all_goals repeat' ((conv=>whnf);first|((with_reducible refine ObRn.mk ?_ ?_);(focus (simp [rnB,rnC,rS];done)))|((with_reducible refine ObN.mk ?_ ?_);(focus exact zN))|((with_reducible refine ObRow.same ?_ ?_ ?_);(focus (first|rfl|assumption));(focus (first|rfl|assumption|(simp;done))))|((with_reducible refine ObEqs.mk ?_ ?_);(focus rfl))|exact True.intro)
      · have us2 : ((o0 :: ot).map iA).take (ot.length + 1) ++ [.v (.int .i64 ((i : Int) + 1))] = O.map iA := by rw [hO]; exact i_snoc (l := o0 :: ot)
        have hl2:ot.length+1+[I ((i:Int)+1)].length=O.length:=by rw [hOl];rfl
        have hO2:O=o0::(ot++[(i:Int)+1]):=by rw [hO];rfl
        have hol':ot.length+1≤j:=hol
        have r5:=nr_i (o0::ot)
        repeat' ((conv=>whnf);first|(with_reducible refine SeqP.go ?_)|((with_reducible refine ObD.mk ?_ ?_);(focus (first|rfl|(simp;done))))|((with_reducible refine ObN.mk ?_ ?_);(focus exact zN))|(with_reducible refine ObT.tt ?_)|(with_reducible refine ObT.ff ?_)|((with_reducible refine ObB.yes ?_ ?_);(focus (first|assumption|(with_reducible rfl)|omega)))|((with_reducible refine ObI.mk _ rfl ?_ ?_ ?_);(focus omega);(focus omega))|((with_reducible refine ObX.mk _ rfl ?_ ?_);(focus exact zX))|((with_reducible refine ObX.int ?_ ?_ ?_);(focus exact zX);(focus exact zX))|((with_reducible refine (?_:ObL _ _));(refine ObL.mk _ (by first|exact hl2|exact (List.length_map _)|assumption|exact (List.length_map _).trans (by assumption)|exact List.length_map _|rfl) ?_))|((with_reducible refine (?_:ObU _ _));(refine ObU.mk _ (by first|exact us2|assumption|((conv=>lhs;simp only [List.set_cons_zero,List.set_cons_succ,List.take_succ_cons,List.take_zero,List.drop_succ_cons,List.drop_zero,List.nil_append,List.cons_append,List.append_nil,List.take_nil,List.drop_nil]);try rfl)|rfl) ?_))|((with_reducible refine (?_:ObR _ _ _));(first|(refine ObR.mk _ (by assumption) ?_)|(refine ObR.mk _ (by with_reducible rfl) ?_)|(refine ObR.map zX (fun x hx=>?_))|(refine ObR.mk _ rfl ?_)))|((with_reducible refine ObC.f 24 ?_);(first|(with_reducible refine ObC.mk _ (hrf) ?_)|(refine ObC.mk _ (hrf) ?_))))
        conv=>whnf
        refine LoopP.go (α:=Nat) (fun k=>k≤(rfN x).length) (fun k=>(rfN x).length - k) (fun k=>[(5,some (.ol 1 0 O.length)),(3,none),(16,none),(1,none),(0,none),(7,some (I k)),(0,none),(0,none),(0,none),(0,none),(0,none),(0,none),(0,none)]) (fun k=>[⟨4,1,(stL F ((rfN x).take k)).map bA,0,0⟩,kR 0 O]) 0 (Nat.zero_le _) (Fg.vw [(0,0,0),(0,1,1)] (by repeat' ((conv=>whnf);first|((with_reducible refine ObN.mk ?_ ?_);(focus exact zN))|((with_reducible refine ObRn.mk ?_ ?_);(focus (first|rfl|(simp [rnB,rnC,rnL];done))))|((with_reducible refine ObEqs.mk ?_ ?_);(focus rfl))|exact True.intro)) (by repeat' ((conv=>whnf);first|((with_reducible refine ObN.mk ?_ ?_);(focus exact zN))|((with_reducible refine ObRow.same ?_ ?_ ?_);(focus (first|rfl|assumption));(focus (first|rfl|assumption|(simp;done))))|exact True.intro)) (by simp) (by repeat' ((conv=>whnf);first|exact True.intro))) ?_
        rintro k hk
        have hsl:=stL_len ((rfN x).take k) F
        by_cases hkr:k < (rfN x).length
        · have hq2 := iA_at' hkr
          have hr1:=hrr _ (List.getElem_mem hkr)
          have hs:=stL_snoc (F:=F) hkr
          generalize stL F ((rfN x).take k)=F2 at *
          generalize (rfN x)[k]=c at *
          have g9:(F2.map bA)[c.toNat]? = some (.v (.bool (F2.getD c.toNat false))):=bA_at (by rw [List.getD_eq_getElem?_getD,List.getElem?_eq_getElem (by omega)];rfl)
          have us2:(F2.map bA).set c.toNat (.v (.bool true))=(F2.set c.toNat true).map bA:=bA_set
          have rb2:=nr_b F2
          have rb3:=nr_b (F2.set c.toNat true)
          repeat' ((conv=>whnf);first|(with_reducible refine SeqP.go ?_)|((with_reducible refine ObD.mk ?_ ?_);(focus (first|rfl|(simp;done))))|((with_reducible refine ObN.mk ?_ ?_);(focus exact zN))|(with_reducible refine ObT.tt ?_)|((with_reducible refine ObB.yes ?_ ?_);(focus (first|assumption|(with_reducible rfl)|omega)))|((with_reducible refine ObI.nl ?_ ?_);(focus omega))|((with_reducible refine ObX.mk _ rfl ?_ ?_);(focus exact zX))|((with_reducible refine ObX.int ?_ ?_ ?_);(focus exact zX);(focus exact zX))|((with_reducible refine (?_:ObU _ _));(refine ObU.mk _ (by first|exact us2|assumption|((conv=>lhs;simp only [List.set_cons_zero,List.set_cons_succ,List.take_succ_cons,List.take_zero,List.drop_succ_cons,List.drop_zero,List.nil_append,List.cons_append,List.append_nil,List.take_nil,List.drop_nil]);try rfl)|rfl) ?_))|((with_reducible refine (?_:ObR _ _ _));(first|(refine ObR.mk _ (by assumption) ?_)|(refine ObR.mk _ (by with_reducible rfl) ?_)|(refine ObR.map zX (fun x hx=>?_))|(refine ObR.mk _ rfl ?_))))
          conv=>whnf
          refine Again.mk (k+1) (by omega) (by omega) ?_
          rw [hs]
          refine Fg.vw [(0,0,0),(0,1,0)] ?_ ?_ (by simp) ?_
          all_goals repeat' ((conv=>whnf);first|((with_reducible refine ObN.mk ?_ ?_);(focus exact zN))|((with_reducible refine ObRn.mk ?_ ?_);(focus (first|rfl|(simp [rnB,rnC,rnL];done))))|((with_reducible refine ObRow.same ?_ ?_ ?_);(focus (first|rfl|assumption));(focus (first|rfl|assumption|(simp;done))))|((with_reducible refine ObEqs.mk ?_ ?_);(focus rfl))|exact True.intro)
        · obtain rfl : k = (rfN x).length := by omega
          rw [List.take_length]
          have rb2:=nr_b (stL F (rfN x))
          subst hO2
          have hl5:(ot++[(i:Int)+1]).length=ot.length+1:=by simp
          repeat' ((conv=>whnf);first|(with_reducible refine SeqP.go ?_)|((with_reducible refine ObN.mk ?_ ?_);(focus exact zN))|(with_reducible refine ObT.ff ?_)|((with_reducible refine ObB.no ?_ ?_);(focus (first|assumption|omega)))|((with_reducible refine ObI.mk _ rfl ?_ ?_ ?_);(focus omega);(focus omega)))
          conv=>whnf
          refine Again.mk (j+1,stL F (rfN x),o0::(ot++[(i:Int)+1])) ⟨by dsimp only;omega,hD2⟩ (by dsimp only;omega) ?_
          try dsimp only
          rw [e4]
          refine Fg.vw [(0,0,0),(0,1,0)] ?_ ?_ (by simp) ?_
          all_goals repeat' ((conv=>whnf);first|((with_reducible refine ObRn.mk ?_ ?_);(focus (simp [rnB,rnC,rS];done)))|((with_reducible refine ObN.mk ?_ ?_);(focus exact zN))|((with_reducible refine ObRow.same ?_ ?_ ?_);(focus (first|rfl|assumption));(focus (first|rfl|assumption|(simp;done))))|((with_reducible refine ObEqs.mk ?_ ?_);(focus rfl))|exact True.intro)
  · obtain rfl : j = n := by omega
    rw [← hD.out]
    rcases o with _|⟨o0,ot⟩
    · repeat' ((conv=>whnf);first|(with_reducible refine SeqP.go ?_)|((with_reducible refine ObN.mk ?_ ?_);(focus exact zN))|(with_reducible refine ObT.ff ?_)|((with_reducible refine ObB.no ?_ ?_);(focus (first|assumption|omega)))|((with_reducible refine ObEq.mk ?_);(focus (first|rfl|assumption))))
    · have la : ((o0 :: ot).map iA).take (ot.length + 1) = (o0 :: ot).map iA := i_all (l := o0 :: ot)
      have lp:=p_i (o0::ot)
      repeat' ((conv=>whnf);first|(with_reducible refine SeqP.go ?_)|((with_reducible refine ObN.mk ?_ ?_);(focus exact zN))|(with_reducible refine ObT.ff ?_)|((with_reducible refine ObB.no ?_ ?_);(focus (first|assumption|omega)))|((with_reducible refine (?_:ObU _ _));(refine ObU.mk _ (by first|exact la|assumption|((conv=>lhs;simp only [List.set_cons_zero,List.set_cons_succ,List.take_succ_cons,List.take_zero,List.drop_succ_cons,List.drop_zero,List.nil_append,List.cons_append,List.append_nil,List.take_nil,List.drop_nil]);try rfl)|rfl) ?_))|((with_reducible refine ObEq.mk ?_);(focus (first|rfl|assumption))))
end
end Go.Proofs.Ytghbpplcgjeohaa.Sim
namespace Go.Proofs.Ytghbpplcgjeohaa.Sim
open Go.RowKit Go.Shelf
set_option maxRecDepth 100000
theorem pv_box {F:Fz} {x:Value} {a:AV} (h:PV F x (.ad 1 [a] 0 0)) (ha:a.cells=[a]):∃ b o v,x = .pointer (some ⟨b,o,none⟩)∧F b o=some v∧PV F v a:=by
  cases h with
  | ad b o k es i off hk h1 f hf h =>
    exact ⟨b,o,f 0 0,rfl,hf 0 0 (by simp) (by omega),h 0 0 a a rfl (by rw [ha];rfl)⟩
theorem pv_ints {F:Fz} {v:Value} {L:List Int} (h:PV F v (.sl 1 (L.map iA))):∃ A cap,v = .slice A L.length cap∧L.length≤cap∧cap≤maxLen∧(L=[]∨∃ b o,A=some ⟨b,o,none⟩∧∀ i (hi:i < L.length),F b (o+i)=some (.int .i64 L[i])):=by
  cases h with
  | sl A n cap k es hn hc hm hk h1 b o hA f hf h =>
    have hn':L.length=n:=by simpa using hn
    refine ⟨A,cap,by rw [hn'],by omega,hm,?_⟩
    rcases Nat.eq_zero_or_pos L.length with h0|h0
    · exact .inl (List.length_eq_zero_iff.1 h0)
    · refine .inr ⟨b,o,hA (by omega),fun i hi=>?_⟩
      have h2:=hf i 0 (by omega) (by omega)
      have h3:=h i 0 (I L[i]) (I L[i]) (iA_at' hi) rfl
      rw [Nat.mul_one,Nat.add_zero] at h2
      rw [h2]
      generalize f i 0=y at h3
      cases h3;rfl
set_option maxHeartbeats 4000000 in
theorem seq32 (G:Nat→AV) (L:List Int) (hL:L.length≤1000000):SeqC Try.prog G 32 [.ad 1 [.sl 1 (L.map iA)] 0 0] (L.map iA):=by
  refine ⟨hb32,fun n lo F xs J W hg hxl hxv hfr hbel hY h0=>?_⟩
  obtain ⟨x0,rfl⟩:∃ x0,xs=[x0]:=by
    match xs,hxl with
    | [x],_=>exact ⟨x,rfl⟩
  obtain ⟨b,o,v,rfl,hbv,hv⟩:=pv_box (hxv 0 x0 _ rfl rfl) rfl
  obtain ⟨A,cap,rfl,hc1,hc2,hel⟩:=pv_ints hv
  have hcell:=hfr 0 W h0 b o _ hbv
  refine callsIn_of_wp Try.func32 rfl trivial ?_ rfl
  simp only [Try.ntmps32,List.size_toArray,List.length_cons,List.length_nil,Nat.reduceAdd,Nat.reduceSub,Array.replicate_succ,Array.replicate_zero,List.push_toArray,List.append_toArray,List.nil_append,List.cons_append]
  gi_wp2
  gi_loopw [7] (fun p wr=>∃ k:Nat,p = .int .i64 k∧k≤L.length∧J k wr) (fun p _=>L.length - (intOf p).toNat)
  case atStart =>
    exact ⟨0,rfl,Nat.zero_le _,h0⟩
  case round =>
    obtain ⟨k,rfl,hk,hJ⟩:=hrel
    by_cases hkl:k < L.length
    · obtain ⟨b2,o2,rfl,hcells⟩:=hel.resolve_left (fun e=>by rw [e] at hkl;simp at hkl)
      have hc:=hfr k wr hJ b2 (o2+k) _ (hcells k hkl)
      obtain ⟨fn,tmps,assign,body,hy,hR⟩:=hY k wr (I L[k]) (.int .i64 L[k]) (n - 1) hJ (iA_at' hkl) (.v _ rfl)
      have hlt:(k:Int) < (L.length:Int):=by omega
      gi_wp2
      refine ⟨fun hh=>(by cases hh),hR.mono ?_⟩
      rintro e W3 ⟨rfl,hJ3⟩
      gi_wp2
      go_roundw
      case rel=>exact ⟨k+1,by simp,by omega,hJ3⟩
      case measure=>simp [intOf];omega
    · obtain rfl : k = L.length := by omega
      gi_wp2
      go_end0
      exact ⟨⟨_,rfl⟩,by rw [List.length_map];exact hJ⟩
end Go.Proofs.Ytghbpplcgjeohaa.Sim
namespace Go.Proofs.Ytghbpplcgjeohaa.Sim
open Go.RowKit
set_option maxRecDepth 100000
noncomputable def rL (h:List Nd) (r:Int) (c:Bool):List Int:=if c then rl h r r.toNat else []
theorem rl_len {h:List Nd} {r:Int}:∀ {n:Nat},(rl h r n).length≤n:=by
  intro n
  induction n with
  | zero=>simp [rl]
  | succ n ih=>rw [rl,List.length_append];split<;>simp<;>omega
theorem rL_len {h:List Nd} {r:Int} {c:Bool} (hc:c=okR h r):(rL h r c).length≤h.length:=by
  unfold rL
  cases c
  · simp
  · have hc' := hc.symm
    simp only [okR,Bool.and_eq_true,decide_eq_true_eq] at hc'
    have:=@rl_len h r r.toNat
    rw [if_pos rfl];omega
section
variable (G:Nat→AV)
theorem xop15:copFX Try.prog [25,33,39,43,62,63,66,67,68,69,70] 15=some A15:=by kernel_rfl
set_option maxHeartbeats 4000000 in
theorem refs15 (h:List Nd) (hl:h.length≤1000) (hx:∀ x ∈ h,x.Ok) (r:Int) (c:Bool) (hc:c=okR h r):PC Try.prog G 15 [.sl 9 (h.map nA),I r] (.fn 32 [.ad 1 [.sl 1 ((rL h r c).map iA)] 0 0]):=by
  have hm:=may21 G h hl hx r c hc
  unfold rL
  cases c
  · simp only [eo, Bool.false_eq_true, if_false] at hm ⊢
    refine pc_ofX xop15 ?_
    skip
    conv=>whnf
    refine SeqX.sp (SeqP.go ?_)
    repeat' ((conv=>whnf);first|((with_reducible refine ObD.mk ?_ ?_);(focus (first|rfl|(simp;done))))|((with_reducible refine ObN.mk ?_ ?_);(focus exact zN))|((with_reducible refine (?_:ObU _ _));(refine ObU.mk _ zU ?_))|((with_reducible refine (?_:ObR _ _ _));(first|(refine ObR.mk _ (by assumption) ?_)|(refine ObR.mk _ (by with_reducible rfl) ?_)|(refine ObR.map zX (fun x hx=>?_))|(refine ObR.mk _ rfl ?_))))
    conv=>whnf
    refine SeqX.sp (SeqP.go ?_)
    repeat' ((conv=>whnf);first|((with_reducible refine ObN.mk ?_ ?_);(focus exact zN))|((with_reducible refine ObB.no ?_ ?_);(focus (first|assumption|omega)))|((with_reducible refine ObC.f 21 ?_);(first|(with_reducible refine ObC.mk _ (hm) ?_)|(refine ObC.mk _ (hm) ?_))))
    conv=>whnf
    refine SeqX.sp (SeqP.go ?_)
    repeat' ((conv=>whnf);first|(with_reducible refine ObT.ff ?_))
    conv=>whnf
    refine SeqX.fe 0 0 [false,true] ?_
    repeat' ((conv=>whnf);first|(with_reducible refine SeqP.go ?_)|(with_reducible refine SeqX.sp ?_)|((with_reducible refine ObN.mk ?_ ?_);(focus exact zN))|((with_reducible refine (?_:ObU _ _));(refine ObU.mk _ zU ?_))|((with_reducible refine ObEq.mk ?_);(focus (first|rfl|assumption)))|((with_reducible refine ObSt.live ?_ ?_);(focus (first|trivial|(refine ⟨rfl,?_⟩;first|omega|(exact Nat.le_refl _))))))
  · have hc' := hc.symm
    simp only [okR,Bool.and_eq_true,decide_eq_true_eq] at hc'
    obtain ⟨⟨h0,h1⟩,hh⟩:=hc'
    obtain ⟨n,rfl⟩:∃ n:Nat,r=(n:Int):=⟨r.toNat,by omega⟩
    have hd:=desc31 G h hl hx hh n (by omega)
    simp only [eo,if_true,Int.toNat_natCast] at hm ⊢
    have hp:=p_i (rl h (n:Int) n)
    refine pc_ofV cop15 ?_
    repeat' ((conv=>whnf);first|(with_reducible refine SeqP.go ?_)|((with_reducible refine ObD.mk ?_ ?_);(focus (first|rfl|(simp;done))))|((with_reducible refine ObN.mk ?_ ?_);(focus exact zN))|(with_reducible refine ObT.tt ?_)|((with_reducible refine ObB.yes ?_ ?_);(focus (first|assumption|(with_reducible rfl)|omega)))|((with_reducible refine (?_:ObU _ _));(refine ObU.mk _ zU ?_))|((with_reducible refine (?_:ObR _ _ _));(first|(refine ObR.mk _ (by assumption) ?_)|(refine ObR.mk _ (by with_reducible rfl) ?_)|(refine ObR.map zX (fun x hx=>?_))|(refine ObR.mk _ rfl ?_)))|((with_reducible refine ObC.f 21 ?_);(first|(with_reducible refine ObC.mk _ (hm) ?_)|(refine ObC.mk _ (hm) ?_)))|((with_reducible refine ObC.f 31 ?_);(first|(with_reducible refine ObC.mk _ (hd) ?_)|(refine ObC.mk _ (hd) ?_)))|((with_reducible refine ObEq.mk ?_);(focus (first|rfl|assumption))))
set_option maxHeartbeats 4000000 in
theorem count13 (h:List Nd) (hl:h.length≤1000) (hx:∀ x ∈ h,x.Ok) (r:Int) (c:Bool) (hc:c=okR h r):PC Try.prog G 13 [.sl 9 (h.map nA),I r] (.tup [I ((rL h r c).length:Nat),I (eo c)]):=by
  have hm:=may21 G h hl hx r c hc
  have hR:=refs15 G h hl hx r c hc
  have hLl:=rL_len hc
  have hS:=fun hL=>seq32 G (rL h r c) hL
  generalize rL h r c=L at *
  refine pc_ofX cop13 ?_
  repeat' ((conv=>whnf);first|(with_reducible refine SeqP.go ?_)|(with_reducible refine SeqX.sp ?_)|((with_reducible refine ObD.mk ?_ ?_);(focus (first|rfl|(simp;done))))|((with_reducible refine ObN.mk ?_ ?_);(focus exact zN))|((with_reducible refine (?_:ObU _ _));(refine ObU.mk _ zU ?_))|((with_reducible refine (?_:ObR _ _ _));(first|(refine ObR.mk _ (by assumption) ?_)|(refine ObR.mk _ (by with_reducible rfl) ?_)|(refine ObR.map zX (fun x hx=>?_))|(refine ObR.mk _ rfl ?_)))|((with_reducible refine ObC.f 15 ?_);(first|(with_reducible refine ObC.mk _ (hR) ?_)|(refine ObC.mk _ (hR) ?_))))
  conv=>whnf
  refine RngP.mk 32 [.ad 1 [.sl 1 (L.map iA)] 0 0] (L.map iA) rfl rfl (hS (by omega)) Nat (fun k a=>a=k∧k≤L.length) (fun a=>[⟨3,1,[I (a:Nat)],0,0⟩]) 0 ⟨rfl,Nat.zero_le _⟩ _ (Fg.goS rfl) ?_ ?_
  · rintro k a e ⟨rfl, hk⟩ he
    have hkl:a < L.length:=by
      have:=(List.getElem?_eq_some_iff.1 he).1
      simpa using this
    repeat' ((conv=>whnf);first|((with_reducible refine ObD.mk ?_ ?_);(focus (first|rfl|(simp;done))))|((with_reducible refine ObN.mk ?_ ?_);(focus exact zN))|((with_reducible refine ObI.nl ?_ ?_);(focus omega))|((with_reducible refine (?_:ObU _ _));(refine ObU.mk _ zU ?_))|((with_reducible refine (?_:ObR _ _ _));(first|(refine ObR.mk _ (by assumption) ?_)|(refine ObR.mk _ (by with_reducible rfl) ?_)|(refine ObR.map zX (fun x hx=>?_))|(refine ObR.mk _ rfl ?_))))
    conv=>whnf
    refine AgR.mk (a+1) ⟨rfl,by omega⟩ (Fg.goS rfl)
  · rintro a ⟨ha, _⟩
    rw [List.length_map] at ha
    subst ha
    repeat' ((conv=>whnf);first|(with_reducible refine SeqP.go ?_)|(with_reducible refine SeqX.sp ?_)|((with_reducible refine ObD.mk ?_ ?_);(focus (first|rfl|(simp;done))))|((with_reducible refine ObN.mk ?_ ?_);(focus exact zN))|((with_reducible refine (?_:ObR _ _ _));(first|(refine ObR.mk _ (by assumption) ?_)|(refine ObR.mk _ (by with_reducible rfl) ?_)|(refine ObR.map zX (fun x hx=>?_))|(refine ObR.mk _ rfl ?_)))|((with_reducible refine ObC.f 21 ?_);(first|(with_reducible refine ObC.mk _ (hm) ?_)|(refine ObC.mk _ (hm) ?_)))|((with_reducible refine ObEq.mk ?_);(focus (first|rfl|assumption))))
end
end Go.Proofs.Ytghbpplcgjeohaa.Sim
namespace Go.Proofs.Ytghbpplcgjeohaa.Sim
open Go.RowKit
set_option maxRecDepth 100000
def mw (x:Nd):Nat:=max (rfN x).length 1
def fewL:Nat→Nat→List Nd→List Nd
  | 0,_,_=>[]
  | _,_,[]=>[]
  | n+1,w,x::t=>if 3000 < w * mw (fewX x) then [] else fewX x::fewL n (w * mw (fewX x)) t
theorem fewL_at {n w:Nat} {l:List Nd} {i:Nat} (h:i < l.length):fewL (n+1) w (l.drop i)=if 3000 < w * mw (fewX l[i]) then [] else fewX l[i]::fewL n (w * mw (fewX l[i])) (l.drop (i+1)):=by
  rw [List.drop_eq_getElem_cons h,fewL]
theorem fewL_ok:∀ {n w:Nat} {l:List Nd},(∀ x ∈ l,x.Wd)→∀ x ∈ fewL n w l,x.Ok:=by
  intro n
  induction n with
  | zero=>intro w l _ x hx;simp [fewL] at hx
  | succ n ih =>
    intro w l hl x hx
    cases l with
    | nil=>simp [fewL] at hx
    | cons y t =>
      rw [fewL] at hx
      split at hx
      · cases hx
      · rcases List.mem_cons.1 hx with h | h
        · rw [h];exact fewX_ok (hl y (List.mem_cons_self ..))
        · exact ih (fun z hz=>hl z (List.mem_cons_of_mem _ hz)) x h
theorem fewL_len:∀ {n w:Nat} {l:List Nd},(fewL n w l).length≤n:=by
  intro n
  induction n with
  | zero=>intro w l;simp [fewL]
  | succ n ih =>
    intro w l
    cases l with
    | nil=>simp [fewL]
    | cons y t =>
      rw [fewL];split
      · simp
      · have:=@ih (w * mw (fewX y)) t;simp only [List.length_cons];omega
theorem fewL_eq:∀ {n w:Nat} {l:List Nd},(∀ x ∈ l,x.Wd)→fewL n w (fewL n w l)=fewL n w l:=by
  intro n
  induction n with
  | zero=>intro w l _;simp [fewL]
  | succ n ih =>
    intro w l hl
    cases l with
    | nil=>simp [fewL]
    | cons y t =>
      have hy:=fewX_eq (fewX_ok (hl y (List.mem_cons_self ..)))
      rw [fewL]
      by_cases h:3000 < w * mw (fewX y)
      · simp only [if_pos h,fewL]
      · simp only [if_neg h]
        rw [fewL,hy,if_neg h,ih (fun z hz=>hl z (List.mem_cons_of_mem _ hz))]
section
variable (G:Nat→AV)
set_option maxHeartbeats 4000000 in
theorem few21 (l:List Nd) (hl:l.length≤9223372036854775807) (hx:∀ x ∈ l,x.Wd):PC Try.prog G 5 [.sl 9 (l.map nA)] (.sl 9 ((fewL 12 1 l).map nA)):=by
  refine pc_ofV cop5 ?_
  repeat' ((conv=>whnf);first|(with_reducible refine SeqP.go ?_)|((with_reducible refine ObD.mk ?_ ?_);(focus (first|rfl|(simp;done)))))
  conv=>whnf
  refine LoopP.go (α:=Nat × Nat × List Nd) (fun p=>p.1≤l.length∧p.1≤12∧p.2.1≤3000∧p.2.2.length=p.1∧p.2.2++fewL (12 - p.1) p.2.1 (l.drop p.1)=fewL 12 1 l) (fun p=>l.length - p.1) (fun p=>[(2,some (.nl 9)),(0,some (.ol 0 0 p.2.2.length)),(0,some (I p.2.1)),(0,some (I p.1)),(0,none),(0,none),(0,none),(0,none),(0,none),(0,none),(0,none),(0,none),(0,none),(0,none),(0,none),(0,none),(0,none),(0,none),(0,none),(0,none),(0,none),(0,none),(0,none),(0,none),(0,none),(0,none),(0,none),(0,none),(0,none),(0,none),(0,none),(0,none),(0,none),(0,none)]) (fun p=>[⟨47,9,p.2.2.map nA,0,0⟩]) (0,1,[]) ⟨Nat.zero_le _,Nat.zero_le _,by decide,rfl,rfl⟩ (Fg.go ?_ rfl) ?_
  · repeat' ((conv=>whnf);first|((with_reducible refine ObEqs.mk ?_ ?_);(focus rfl))|((with_reducible refine ObEq1.i ?_ ?_);(focus (first|(with_reducible rfl)|omega)))|((with_reducible refine ObEq1.mk ?_ ?_);(focus (first|rfl|assumption)))|exact True.intro)
  rintro ⟨i,w,o⟩ ⟨hi,hi2,hw,hol,he⟩
  dsimp only at hi hi2 hw hol he ⊢
  have oa:=n_all (l:=o)
  have op:=p_n o
  have r0:=nr_n o
  by_cases hil:i < l.length∧i < 12
  · obtain ⟨hil, hil2⟩ := hil
    have hq:=nA_at hil
    have hf:=few9 G l[i] (hx _ (List.getElem_mem hil))
    have hok:=fewX_ok (hx _ (List.getElem_mem hil))
    have hat:=fewL_at (n:=11 - i) (w:=w) hil
    rw [show 11 - i+1=12 - i by omega] at hat
    rw [hat] at he
    clear hat
    generalize fewX l[i]=y at *
    generalize l[i]=x at *
    have hrf:=refs32 G y hok
    have hrl:=rf_len hok
    have hmx:(if ((rfN y).length:Int) < 1 then (1:Int) else ((rfN y).length:Int))=((mw y:Nat):Int):=by unfold mw;split<;>omega
    have hml:mw y≤41:=by unfold mw;omega
    obtain ⟨W',hW⟩:∃ W':Nat,W'=w * mw y:=⟨_,rfl⟩
    rw [← hW] at he
    have hWi:(w:Int) * (mw y:Int)=(W':Int):=by rw [hW];simp
    have hWl:W'≤123000:=by rw [hW];exact Nat.mul_le_mul hw hml
    have r1:=nr_n (o++[y])
    have us:(o.map nA).take o.length++[nA y]=(o++[y]).map nA:=n_snoc (l:=o)
    by_cases hz:3000 < W'
    · rw [if_pos hz, List.append_nil] at he
      rw [← he]
      repeat' ((conv=>whnf);first|(with_reducible refine SeqP.go ?_)|(with_reducible refine ObZ.mk _ hmx ?_)|(rw [hWi])|((with_reducible refine ObD.mk ?_ ?_);(focus (first|rfl|(simp;done))))|((with_reducible refine ObN.mk ?_ ?_);(focus exact zN))|(with_reducible refine ObT.tt ?_)|((with_reducible refine ObB.yes ?_ ?_);(focus (first|assumption|(with_reducible rfl)|omega)))|((with_reducible refine ObI.mk _ rfl ?_ ?_ ?_);(focus omega);(focus omega))|((with_reducible refine ObX.mk _ rfl ?_ ?_);(focus exact zX))|((with_reducible refine (?_:ObL _ _));(refine ObL.mk _ zM ?_))|((with_reducible refine (?_:ObU _ _));(refine ObU.mk _ (by first|exact us|exact oa|assumption|((conv=>lhs;simp only [List.set_cons_zero,List.set_cons_succ,List.take_succ_cons,List.take_zero,List.drop_succ_cons,List.drop_zero,List.nil_append,List.cons_append,List.append_nil,List.take_nil,List.drop_nil]);try rfl)|rfl) ?_))|((with_reducible refine (?_:ObR _ _ _));(first|(refine ObR.mk _ (by assumption) ?_)|(refine ObR.mk _ (by with_reducible rfl) ?_)|(refine ObR.map zX (fun x hx=>?_))|(refine ObR.mk _ rfl ?_)))|((with_reducible refine ObC.f 19 ?_);(first|(with_reducible refine ObC.mk _ (hf) ?_)|(refine ObC.mk _ (hf) ?_)))|((with_reducible refine ObC.f 20 ?_);(first|(with_reducible refine ObC.mk _ (hrf) ?_)|(refine ObC.mk _ (hrf) ?_)))|((with_reducible refine ObEq.mk ?_);(focus (first|rfl|assumption)))|(with_reducible refine ObE.max ?_))
    · rw [if_neg hz] at he
      repeat' ((conv=>whnf);first|(with_reducible refine SeqP.go ?_)|(with_reducible refine ObZ.mk _ hmx ?_)|(rw [hWi])|((with_reducible refine ObD.mk ?_ ?_);(focus (first|rfl|(simp;done))))|((with_reducible refine ObN.mk ?_ ?_);(focus exact zN))|(with_reducible refine ObT.tt ?_)|(with_reducible refine ObT.ff ?_)|((with_reducible refine ObB.yes ?_ ?_);(focus (first|assumption|(with_reducible rfl)|omega)))|((with_reducible refine ObB.no ?_ ?_);(focus (first|assumption|omega)))|((with_reducible refine ObI.nl ?_ ?_);(focus omega))|((with_reducible refine ObI.mk _ rfl ?_ ?_ ?_);(focus omega);(focus omega))|((with_reducible refine ObX.mk _ rfl ?_ ?_);(focus exact zX))|((with_reducible refine (?_:ObL _ _));(refine ObL.mk _ zM ?_))|((with_reducible refine (?_:ObU _ _));(refine ObU.mk _ (by first|exact us|exact oa|assumption|((conv=>lhs;simp only [List.set_cons_zero,List.set_cons_succ,List.take_succ_cons,List.take_zero,List.drop_succ_cons,List.drop_zero,List.nil_append,List.cons_append,List.append_nil,List.take_nil,List.drop_nil]);try rfl)|rfl) ?_))|((with_reducible refine (?_:ObR _ _ _));(first|(refine ObR.mk _ (by assumption) ?_)|(refine ObR.mk _ (by with_reducible rfl) ?_)|(refine ObR.map zX (fun x hx=>?_))|(refine ObR.mk _ rfl ?_)))|((with_reducible refine ObC.f 19 ?_);(first|(with_reducible refine ObC.mk _ (hf) ?_)|(refine ObC.mk _ (hf) ?_)))|((with_reducible refine ObC.f 20 ?_);(first|(with_reducible refine ObC.mk _ (hrf) ?_)|(refine ObC.mk _ (hrf) ?_)))|(with_reducible refine ObE.max ?_))
      conv=>whnf
      refine Again.mk (i+1,W',o++[y]) ⟨by dsimp only;omega,by dsimp only;omega,by dsimp only;omega,by simp [hol],by dsimp only;rw [List.append_assoc,← he,show 12 - (i+1)=11 - i by omega];rfl⟩ ?_ (Fg.vw [(0,0,1)] ?_ ?_ (by simp) ?_)
      · dsimp only;omega
      all_goals repeat' ((conv=>whnf);first|((with_reducible refine ObN.mk ?_ ?_);(focus exact zN))|((with_reducible refine ObRn.mk ?_ ?_);(focus (first|rfl|(simp [rnB,rnC,rnL];done))))|((with_reducible refine ObRow.same ?_ ?_ ?_);(focus (first|rfl|assumption));(focus (first|rfl|assumption|(simp;done))))|((with_reducible refine ObEqs.mk ?_ ?_);(focus rfl))|exact True.intro)
  · have h0 : fewL (12 - i) w (l.drop i) = [] := by
      rcases Nat.lt_or_ge i l.length with h|h
      · rw [show 12 - i=0 by omega,fewL]
      · rw [List.drop_eq_nil_of_le h];cases 12 - i<;>rfl
    rw [h0,List.append_nil] at he
    rw [← he]
    have hor:i=l.length∨(i < l.length∧i=12):=by omega
    rcases hor with hor|⟨hor,hor2⟩
    · repeat' ((conv=>whnf);first|(with_reducible refine SeqP.go ?_)|((with_reducible refine ObN.mk ?_ ?_);(focus exact zN))|(with_reducible refine ObT.ff ?_)|((with_reducible refine ObB.no ?_ ?_);(focus (first|assumption|omega)))|((with_reducible refine (?_:ObL _ _));(refine ObL.mk _ zM ?_))|((with_reducible refine (?_:ObU _ _));(refine ObU.mk _ (by first|exact oa|assumption|((conv=>lhs;simp only [List.set_cons_zero,List.set_cons_succ,List.take_succ_cons,List.take_zero,List.drop_succ_cons,List.drop_zero,List.nil_append,List.cons_append,List.append_nil,List.take_nil,List.drop_nil]);try rfl)|rfl) ?_))|((with_reducible refine ObEq.mk ?_);(focus (first|rfl|assumption))))
    · repeat' ((conv=>whnf);first|(with_reducible refine SeqP.go ?_)|((with_reducible refine ObN.mk ?_ ?_);(focus exact zN))|(with_reducible refine ObT.tt ?_)|(with_reducible refine ObT.ff ?_)|((with_reducible refine ObB.yes ?_ ?_);(focus (first|assumption|(with_reducible rfl)|omega)))|((with_reducible refine ObB.no ?_ ?_);(focus (first|assumption|omega)))|((with_reducible refine (?_:ObL _ _));(refine ObL.mk _ zM ?_))|((with_reducible refine (?_:ObU _ _));(refine ObU.mk _ (by first|exact oa|assumption|((conv=>lhs;simp only [List.set_cons_zero,List.set_cons_succ,List.take_succ_cons,List.take_zero,List.drop_succ_cons,List.drop_zero,List.nil_append,List.cons_append,List.append_nil,List.take_nil,List.drop_nil]);try rfl)|rfl) ?_))|((with_reducible refine ObEq.mk ?_);(focus (first|rfl|assumption))))
end
end Go.Proofs.Ytghbpplcgjeohaa.Sim
namespace Go.Proofs.Ytghbpplcgjeohaa.Sim
open Go.RowKit
set_option maxRecDepth 100000
abbrev NdS:={x:Nd // x.Wd}
def ndC (x:NdS):List AV:=[I x.1.kn,S x.1.ke,S x.1.va,.v (.int .u32 (x.1.mp:Int)),.sl 1 (x.1.kk.map iA),I x.1.mn,.sl 2 (x.1.ls.map pA),I x.1.sz,I x.1.bi]
theorem nd_inv {cs:List AV} (h:ShC Try.prog 47 cs):∃ x:NdS,cs=ndC x:=by
  have i1:(Try.prog).underlying 3=some (.int .i64):=by kernel_rfl
  have i2:(Try.prog).underlying 28=some (.int .i64):=by kernel_rfl
  have e1:isAggT Try.prog 28=false:=by kernel_rfl
  have e2:isAggT Try.prog 62=true:=by kernel_rfl
  have e3:(Try.prog).cellsOf 28=1:=by kernel_rfl
  have e4:(Try.prog).cellsOf 62=2:=by kernel_rfl
  obtain ⟨p0,q,rfl,hp0,h⟩:=(h.flds (ts:=[3,9,9,45,38,28,24,3,3]) (by kernel_rfl)).cons
  obtain ⟨p1,q,rfl,hp1,h⟩:=h.cons
  obtain ⟨p2,q,rfl,hp2,h⟩:=h.cons
  obtain ⟨p3,q,rfl,hp3,h⟩:=h.cons
  obtain ⟨p4,q,rfl,hp4,h⟩:=h.cons
  obtain ⟨p5,q,rfl,hp5,h⟩:=h.cons
  obtain ⟨p6,q,rfl,hp6,h⟩:=h.cons
  obtain ⟨p7,q,rfl,hp7,h⟩:=h.cons
  obtain ⟨p8,q,rfl,hp8,h⟩:=h.cons
  obtain rfl:=h.nil
  obtain ⟨kn,rfl,_⟩:=hp0.i64_inv i1
  obtain ⟨ke,rfl,hke⟩:=hp1.str_inv u_str
  obtain ⟨va,rfl,hva⟩:=hp2.str_inv u_str
  obtain ⟨mp0,rfl,hm0,hm1⟩:=hp3.u32_inv (by kernel_rfl)
  obtain ⟨mp,rfl⟩:=Int.eq_ofNat_of_zero_le hm0
  obtain ⟨css,rfl,hk,hkk⟩:=hp4.slice_inv (e:=28) (by kernel_rfl)
  obtain ⟨kk,rfl⟩:=pick_list (f:=fun n:i64S=>[I n.1]) (fun cs h=>by obtain ⟨n,e,h1,h2⟩:=h.i64_inv i2;exact ⟨⟨n,h1,h2⟩,e⟩) css hkk
  obtain ⟨mn,rfl,hmn⟩:=hp5.i64_inv i2
  obtain ⟨dss,rfl,hl,hll⟩:=hp6.slice_inv (e:=62) (by kernel_rfl)
  obtain ⟨ls,rfl⟩:=pick_list (f:=pC) (fun cs h=>pair_inv h) dss hll
  obtain ⟨sz,rfl,_⟩:=hp7.i64_inv i1
  obtain ⟨bi,rfl,_⟩:=hp8.i64_inv i1
  have g1:(List.map (fun n:i64S=>[I n.1]) kk).map (mkE (isAggT Try.prog 28))=(kk.map Subtype.val).map iA:=by rw [e1,List.map_map,List.map_map];rfl
  have g2:(List.map pC ls).map (mkE (isAggT Try.prog 62))=(ls.map Subtype.val).map pA:=by rw [e2,List.map_map,List.map_map];rfl
  refine ⟨⟨⟨kn,ke,va,mp,kk.map Subtype.val,mn,ls.map Subtype.val,sz,bi⟩,⟨by show mp < 4294967296;omega,hke,hva,by simpa using hk,by simpa using hl,fun p hp=>by obtain ⟨q,_,rfl⟩:=List.mem_map.1 hp;exact q.2,hmn,fun r hr=>by obtain ⟨q,_,rfl⟩:=List.mem_map.1 hr;exact q.2⟩⟩,?_⟩
  rw [g1,g2,e3,e4];rfl
theorem heap_inv {cs:List AV} (h:ShC Try.prog 22 cs):∃ l:List Nd,mkE false cs = .sl 9 (l.map nA)∧l.length≤9223372036854775807∧∀ x ∈ l,x.Wd:=by
  have e2:isAggT Try.prog 47=true:=by kernel_rfl
  have e4:(Try.prog).cellsOf 47=9:=by kernel_rfl
  obtain ⟨nss,rfl,hn,hnn⟩:=h.slice_inv (e:=47) (by kernel_rfl)
  obtain ⟨l,rfl⟩:=pick_list (f:=ndC) (fun cs h=>nd_inv h) nss hnn
  have g2:(List.map ndC l).map (mkE (isAggT Try.prog 47))=(l.map Subtype.val).map nA:=by rw [e2,List.map_map,List.map_map];rfl
  refine ⟨l.map Subtype.val,by rw [g2,e4];rfl,by simpa using hn,fun x hx=>?_⟩
  obtain ⟨q,_,rfl⟩:=List.mem_map.1 hx
  exact q.2
theorem int_inv {cs:List AV} (h:ShC Try.prog 3 cs):∃ n:Int,mkE false cs=I n∧i64 n:=by
  obtain ⟨n,rfl,h1,h2⟩:=h.i64_inv (by kernel_rfl)
  exact ⟨n,rfl,h1,h2⟩
section
variable (G:Nat→AV)
set_option maxHeartbeats 4000000 in
theorem samer18 (l:List Int) (hl:l.length≤1000000):PC Try.prog G 18 [.sl 1 (l.map iA),.sl 1 (l.map iA)] (Bo true):=by
  refine pc_ofV cop18 ?_
  repeat' ((conv=>whnf);first|(with_reducible refine SeqP.go ?_)|((with_reducible refine ObN.mk ?_ ?_);(focus exact zN))|(with_reducible refine ObT.ff ?_)|((with_reducible refine ObB.yes ?_ ?_);(focus (first|assumption|(with_reducible rfl)|omega)))|((with_reducible refine (?_:ObL _ _));(refine ObL.mk _ zM ?_)))
  conv=>whnf
  refine LoopP.go (α:=Nat) (fun i=>i≤l.length) (fun i=>l.length - i) (fun i=>[(4,none),(0,some (I i)),(5,none),(0,none),(0,none),(0,none),(0,none),(0,none),(0,none),(0,none),(0,none),(0,none),(0,none),(0,none),(0,none),(0,none),(0,none)]) (fun _=>[]) 0 (Nat.zero_le _) (Fg.go ?_ rfl) ?_
  · repeat' ((conv=>whnf);first|((with_reducible refine ObEqs.mk ?_ ?_);(focus rfl))|((with_reducible refine ObEq1.i ?_ ?_);(focus (first|(with_reducible rfl)|omega)))|exact True.intro)
  rintro i hi
  by_cases hil:i < l.length
  · have hq := iA_at' hil
    generalize l[i]=x at *
    repeat' ((conv=>whnf);first|(with_reducible refine SeqP.go ?_)|((with_reducible refine ObD.mk ?_ ?_);(focus (first|rfl|(simp;done))))|((with_reducible refine ObN.mk ?_ ?_);(focus exact zN))|(with_reducible refine ObT.tt ?_)|(with_reducible refine ObT.ff ?_)|((with_reducible refine ObB.yes ?_ ?_);(focus (first|assumption|(with_reducible rfl)|omega)))|((with_reducible refine ObI.nl ?_ ?_);(focus omega))|((with_reducible refine ObX.mk _ rfl ?_ ?_);(focus exact zX))|((with_reducible refine (?_:ObL _ _));(refine ObL.mk _ zM ?_))|((with_reducible refine (?_:ObR _ _ _));(first|(refine ObR.mk _ (by assumption) ?_)|(refine ObR.mk _ (by with_reducible rfl) ?_)|(refine ObR.map zX (fun x hx=>?_))|(refine ObR.mk _ rfl ?_))))
    conv=>whnf
    refine Again.mk (i+1) (by omega) (by omega) (Fg.go ?_ rfl)
    repeat' ((conv=>whnf);first|((with_reducible refine ObEqs.mk ?_ ?_);(focus rfl))|((with_reducible refine ObEq1.i ?_ ?_);(focus (first|(with_reducible rfl)|omega)))|exact True.intro)
  · obtain rfl : i = l.length := by omega
    repeat' ((conv=>whnf);first|(with_reducible refine SeqP.go ?_)|((with_reducible refine ObN.mk ?_ ?_);(focus exact zN))|(with_reducible refine ObT.ff ?_)|((with_reducible refine ObB.no ?_ ?_);(focus (first|assumption|omega)))|((with_reducible refine (?_:ObL _ _));(refine ObL.mk _ zM ?_))|((with_reducible refine ObEq.mk ?_);(focus (first|rfl|assumption))))
def e1N:Nd:=⟨1,⟨#[97]⟩,⟨#[49]⟩,0,[],0,[],1,0⟩
def e2N:Nd:=⟨5,⟨#[]⟩,⟨#[]⟩,0,[],1,[],0,0⟩
theorem e1_may:mayV e1N=0:=by
  have h1:FormP e1N.kn e1N.ke e1N.va e1N.mp e1N.kk e1N.mn e1N.ls e1N.sz e1N.bi:=⟨by decide,.inl ⟨.inl rfl,rfl,by unfold BareP;simp [e1N]⟩⟩
  unfold mayV
  rw [@decide_eq_true _ (Classical.propDecidable _) h1]
  rfl
theorem e2_may:mayV e2N=0:=by
  have h1:FormP e2N.kn e2N.ke e2N.va e2N.mp e2N.kk e2N.mn e2N.ls e2N.sz e2N.bi:=⟨by decide,.inr (.inr (.inr (.inr ⟨rfl,by decide,rfl,by unfold BareP;simp [e2N]⟩)))⟩
  unfold mayV
  rw [@decide_eq_true _ (Classical.propDecidable _) h1]
  rfl
theorem eH:aH [e1N,e2N] [e1N,e2N].length=true:=by
  have h1:okH 0 e1N=true:=by rw [okH,e1_may];rfl
  have h2:okH 1 e2N=true:=by rw [okH,e2_may];rfl
  simp [aH,List.range_succ,h1,h2]
theorem eOk:∀ x ∈ [e1N,e2N],x.Ok:=by
  intro x hx
  simp only [List.mem_cons,List.not_mem_nil,or_false] at hx
  rcases hx with rfl|rfl
  · exact ⟨by decide,by decide,by decide,by decide,by decide,fun p hp=>(by cases hp),⟨by decide,by decide⟩,fun r hr=>(by cases hr)⟩
  · exact ⟨by decide,by decide,by decide,by decide,by decide,fun p hp=>(by cases hp),⟨by decide,by decide⟩,fun r hr=>(by cases hr)⟩
theorem eR:okR [e1N,e2N] 2=true:=by rw [okR,eH];rfl
theorem eL:(rL [e1N,e2N] 2 true).length=2:=by
  have h2:rc [e1N,e2N] 2 2=true:=rc_iff.2 (.base (by decide))
  have h1:rc [e1N,e2N] 2 1=true:=rc_iff.2 (.step (.base (by decide)) (by decide))
  show (rl [e1N,e2N] 2 2).length=2
  simp only [rl]
  rw [show ((1:Nat):Int)+1=2 by rfl,show ((0:Nat):Int)+1=1 by rfl,h2,h1]
  rfl
set_option maxHeartbeats 2000000 in
theorem works10:PC Try.prog G 10 [] (Bo true):=by
  have h28:PC Try.prog G 28 [S ⟨#[97]⟩,S ⟨#[49]⟩] (nA e1N):=by
    refine pc_ofV cop28 ?_
    repeat' ((conv=>whnf);first|(with_reducible refine SeqP.go ?_)|((with_reducible refine ObD.mk ?_ ?_);(focus (first|rfl|(simp;done))))|((with_reducible refine ObN.mk ?_ ?_);(focus exact zN))|((with_reducible refine (?_:ObU _ _));(refine ObU.mk _ zU ?_))|((with_reducible refine (?_:ObR _ _ _));(first|(refine ObR.mk _ (by assumption) ?_)|(refine ObR.mk _ (by with_reducible rfl) ?_)|(refine ObR.map zX (fun x hx=>?_))|(refine ObR.mk _ rfl ?_)))|((with_reducible refine ObEq.mk ?_);(focus (first|rfl|assumption))))
  have h29:PC Try.prog G 29 [I 1] (nA e2N):=by
    refine pc_ofV cop29 ?_
    repeat' ((conv=>whnf);first|(with_reducible refine SeqP.go ?_)|((with_reducible refine ObD.mk ?_ ?_);(focus (first|rfl|(simp;done))))|((with_reducible refine ObN.mk ?_ ?_);(focus exact zN))|((with_reducible refine (?_:ObU _ _));(refine ObU.mk _ zU ?_))|((with_reducible refine (?_:ObR _ _ _));(first|(refine ObR.mk _ (by assumption) ?_)|(refine ObR.mk _ (by with_reducible rfl) ?_)|(refine ObR.map zX (fun x hx=>?_))|(refine ObR.mk _ rfl ?_)))|((with_reducible refine ObEq.mk ?_);(focus (first|rfl|assumption))))
  have h13:=count13 G [e1N,e2N] (by decide) eOk 2 true eR.symm
  have h14:=depth14 G [e1N,e2N] (by decide) eOk 2 ⟨by decide,by decide⟩ true eR.symm
  have h6:=binds6 G [e1N,e2N] (by decide) eOk 2 true eR.symm (fun _=>by decide)
  rw [eL] at h13
  have hD:Dp [e1N,e2N] 2=2:=by decide
  have hB:B [e1N,e2N] 2=[(⟨#[97]⟩,⟨#[49]⟩)]:=by rfl
  rw [if_pos rfl,hD] at h14
  rw [if_pos rfl,hB] at h6
  simp only [eo,List.map_cons,List.map_nil] at h13 h14 h6
  have hl1:[pA ((⟨#[97]⟩:ByteArray),(⟨#[49]⟩:ByteArray))].length=1:=rfl
  refine pc_ofV cop10 ?_
  repeat' ((conv=>whnf);first|(with_reducible refine SeqP.go ?_)|((with_reducible refine ObD.mk ?_ ?_);(focus (first|rfl|(simp;done))))|((with_reducible refine ObN.mk ?_ ?_);(focus exact zN))|(with_reducible refine ObT.tt ?_)|((with_reducible refine ObB.yes ?_ ?_);(focus (first|assumption|(with_reducible rfl)|omega)))|((with_reducible refine (?_:ObL _ _));(refine ObL.mk _ (by first|exact hl1|exact (List.length_map _)|assumption|exact (List.length_map _).trans (by assumption)|exact List.length_map _|rfl) ?_))|((with_reducible refine (?_:ObU _ _));(refine ObU.mk _ zU ?_))|((with_reducible refine ObC.f 28 ?_);(first|(with_reducible refine ObC.mk _ (h28) ?_)|(refine ObC.mk _ (h28) ?_)))|((with_reducible refine ObC.f 29 ?_);(first|(with_reducible refine ObC.mk _ (h29) ?_)|(refine ObC.mk _ (h29) ?_)))|((with_reducible refine ObC.f 13 ?_);(first|(with_reducible refine ObC.mk _ (h13) ?_)|(refine ObC.mk _ (h13) ?_)))|((with_reducible refine ObC.f 14 ?_);(first|(with_reducible refine ObC.mk _ (h14) ?_)|(refine ObC.mk _ (h14) ?_)))|((with_reducible refine ObC.f 6 ?_);(first|(with_reducible refine ObC.mk _ (h6) ?_)|(refine ObC.mk _ (h6) ?_)))|((with_reducible refine ObEq.mk ?_);(focus (first|rfl|assumption))))
theorem few5 (h:List Nd) (hl:h.length≤9223372036854775807) (hx:∀ x ∈ h,x.Wd):PC Try.prog G 5 [.sl 9 (h.map nA)] (.sl 9 ((fewL 12 1 h).map nA)):=few21 G h hl hx
theorem few5b (h:List Nd) (hl:h.length≤9223372036854775807) (hx:∀ x ∈ h,x.Wd):PC Try.prog G 5 [.sl 9 ((fewL 12 1 h).map nA)] (.sl 9 ((fewL 12 1 h).map nA)):=by
  have h1:=few21 G (fewL 12 1 h) (by have:=@fewL_len 12 1 h;omega) (fun x hx2=>(fewL_ok hx x hx2).wd)
  rwa [fewL_eq hx] at h1
end
end Go.Proofs.Ytghbpplcgjeohaa.Sim
