/- Texts of this claim, part 8. -/
import Derived.Test.YtnammfeiehikfaaMPlanDoes7
set_option linter.unusedVariables false
set_option linter.unusedSimpArgs false
namespace Go.Proofs.Ytnammfeiehikfaa.Sim
open Go.RowKit
set_option maxRecDepth 100000
section
variable (G:Nat→AV)
end
end Go.Proofs.Ytnammfeiehikfaa.Sim
namespace Go.Proofs.Ytnammfeiehikfaa.Sim
open Go.RowKit
set_option maxRecDepth 100000
def mw (x:Nd):Nat:=max (rfN x).length 1
def fewL:Nat→Nat→List Nd→List Nd
  | 0,_,_=>[]
  | _,_,[]=>[]
  | n+1,w,x::t=>if 3000 < w * mw (fewX x) then [] else fewX x::fewL n (w * mw (fewX x)) t
theorem fewL_at {n w:Nat} {l:List Nd} {i:Nat} (h:i < l.length):fewL (n+1) w (l.drop i)=if 3000 < w * mw (fewX l[i]) then [] else fewX l[i]::fewL n (w * mw (fewX l[i])) (l.drop (i+1)):=by
  rw [List.drop_eq_getElem_cons h,fewL]
theorem fewL_ok:∀ {n w:Nat} {l:List Nd},(∀ x ∈ l,x.Wd)→∀ x ∈ fewL n w l,x.Ok:=by
  intro n
  induction n with
  | zero=>intro w l _ x hx;simp [fewL] at hx
  | succ n ih =>
    intro w l hl x hx
    cases l with
    | nil=>simp [fewL] at hx
    | cons y t =>
      rw [fewL] at hx
      split at hx
      · cases hx
      · rcases List.mem_cons.1 hx with h | h
        · rw [h];exact fewX_ok (hl y (List.mem_cons_self ..))
        · exact ih (fun z hz=>hl z (List.mem_cons_of_mem _ hz)) x h
theorem fewL_len:∀ {n w:Nat} {l:List Nd},(fewL n w l).length≤n:=by
  intro n
  induction n with
  | zero=>intro w l;simp [fewL]
  | succ n ih =>
    intro w l
    cases l with
    | nil=>simp [fewL]
    | cons y t =>
      rw [fewL];split
      · simp
      · have:=@ih (w * mw (fewX y)) t;simp only [List.length_cons];omega
theorem fewL_eq:∀ {n w:Nat} {l:List Nd},(∀ x ∈ l,x.Wd)→fewL n w (fewL n w l)=fewL n w l:=by
  intro n
  induction n with
  | zero=>intro w l _;simp [fewL]
  | succ n ih =>
    intro w l hl
    cases l with
    | nil=>simp [fewL]
    | cons y t =>
      have hy:=fewX_eq (fewX_ok (hl y (List.mem_cons_self ..)))
      rw [fewL]
      by_cases h:3000 < w * mw (fewX y)
      · simp only [if_pos h,fewL]
      · simp only [if_neg h]
        rw [fewL,hy,if_neg h,ih (fun z hz=>hl z (List.mem_cons_of_mem _ hz))]
section
variable (G:Nat→AV)
set_option maxHeartbeats 4000000 in
theorem few21 (l:List Nd) (hl:l.length≤9223372036854775807) (hx:∀ x ∈ l,x.Wd):PC Try.prog G 21 [.sl 9 (l.map nA)] (.sl 9 ((fewL 12 1 l).map nA)):=by
  refine pc_ofV cop21 ?_
  repeat' ((conv=>whnf);first|(with_reducible refine SeqP.go ?_)|((with_reducible refine ObD.mk ?_ ?_);(focus (first|rfl|(simp;done)))))
  conv=>whnf
  refine LoopP.go (α:=Nat × Nat × List Nd) (fun p=>p.1≤l.length∧p.1≤12∧p.2.1≤3000∧p.2.2.length=p.1∧p.2.2++fewL (12 - p.1) p.2.1 (l.drop p.1)=fewL 12 1 l) (fun p=>l.length - p.1) (fun p=>[(2,some (.nl 9)),(0,some (.ol 0 0 p.2.2.length)),(0,some (I p.2.1)),(0,some (I p.1)),(0,none),(0,none),(0,none),(0,none),(0,none),(0,none),(0,none),(0,none),(0,none),(0,none),(0,none),(0,none),(0,none),(0,none),(0,none),(0,none),(0,none),(0,none),(0,none),(0,none),(0,none),(0,none),(0,none),(0,none),(0,none),(0,none),(0,none),(0,none),(0,none),(0,none)]) (fun p=>[⟨30,9,p.2.2.map nA,0,0⟩]) (0,1,[]) ⟨Nat.zero_le _,Nat.zero_le _,by decide,rfl,rfl⟩ (Fg.go ?_ rfl) ?_
  · repeat' ((conv=>whnf);first|((with_reducible refine ObEqs.mk ?_ ?_);(focus rfl))|((with_reducible refine ObEq1.i ?_ ?_);(focus (first|(with_reducible rfl)|omega)))|((with_reducible refine ObEq1.mk ?_ ?_);(focus (first|rfl|assumption)))|exact True.intro)
  rintro ⟨i,w,o⟩ ⟨hi,hi2,hw,hol,he⟩
  dsimp only at hi hi2 hw hol he ⊢
  have oa:=n_all (l:=o)
  have op:=p_n o
  have r0:=nr_n o
  by_cases hil:i < l.length∧i < 12
  · obtain ⟨hil, hil2⟩ := hil
    have hq:=nA_at hil
    have hf:=few9 G l[i] (hx _ (List.getElem_mem hil))
    have hok:=fewX_ok (hx _ (List.getElem_mem hil))
    have hat:=fewL_at (n:=11 - i) (w:=w) hil
    rw [show 11 - i+1=12 - i by omega] at hat
    rw [hat] at he
    clear hat
    generalize fewX l[i]=y at *
    generalize l[i]=x at *
    have hrf:=refs32 G y hok
    have hrl:=rf_len hok
    have hmx:(if ((rfN y).length:Int) < 1 then (1:Int) else ((rfN y).length:Int))=((mw y:Nat):Int):=by unfold mw;split<;>omega
    have hml:mw y≤41:=by unfold mw;omega
    obtain ⟨W',hW⟩:∃ W':Nat,W'=w * mw y:=⟨_,rfl⟩
    rw [← hW] at he
    have hWi:(w:Int) * (mw y:Int)=(W':Int):=by rw [hW];simp
    have hWl:W'≤123000:=by rw [hW];exact Nat.mul_le_mul hw hml
    have r1:=nr_n (o++[y])
    have us:(o.map nA).take o.length++[nA y]=(o++[y]).map nA:=n_snoc (l:=o)
    by_cases hz:3000 < W'
    · rw [if_pos hz, List.append_nil] at he
      rw [← he]
      repeat' ((conv=>whnf);first|(with_reducible refine SeqP.go ?_)|(with_reducible refine ObZ.mk _ hmx ?_)|(rw [hWi])|((with_reducible refine ObD.mk ?_ ?_);(focus (first|rfl|(simp;done))))|((with_reducible refine ObN.mk ?_ ?_);(focus exact zN))|(with_reducible refine ObT.tt ?_)|((with_reducible refine ObB.yes ?_ ?_);(focus (first|assumption|(with_reducible rfl)|omega)))|((with_reducible refine ObI.mk _ rfl ?_ ?_ ?_);(focus omega);(focus omega))|((with_reducible refine ObX.mk _ rfl ?_ ?_);(focus exact zX))|((with_reducible refine (?_:ObL _ _));(refine ObL.mk _ zM ?_))|((with_reducible refine (?_:ObU _ _));(refine ObU.mk _ (by first|exact us|exact oa|assumption|((conv=>lhs;simp only [List.set_cons_zero,List.set_cons_succ,List.take_succ_cons,List.take_zero,List.drop_succ_cons,List.drop_zero,List.nil_append,List.cons_append,List.append_nil,List.take_nil,List.drop_nil]);try rfl)|rfl) ?_))|((with_reducible refine (?_:ObR _ _ _));(first|(refine ObR.mk _ (by assumption) ?_)|(refine ObR.mk _ (by with_reducible rfl) ?_)|(refine ObR.map zX (fun x hx=>?_))|(refine ObR.mk _ rfl ?_)))|((with_reducible refine ObC.f 9 ?_);(first|(with_reducible refine ObC.mk _ (hf) ?_)|(refine ObC.mk _ (hf) ?_)))|((with_reducible refine ObC.f 32 ?_);(first|(with_reducible refine ObC.mk _ (hrf) ?_)|(refine ObC.mk _ (hrf) ?_)))|((with_reducible refine ObEq.mk ?_);(focus (first|rfl|assumption)))|(with_reducible refine ObE.max ?_))
    · rw [if_neg hz] at he
      repeat' ((conv=>whnf);first|(with_reducible refine SeqP.go ?_)|(with_reducible refine ObZ.mk _ hmx ?_)|(rw [hWi])|((with_reducible refine ObD.mk ?_ ?_);(focus (first|rfl|(simp;done))))|((with_reducible refine ObN.mk ?_ ?_);(focus exact zN))|(with_reducible refine ObT.tt ?_)|(with_reducible refine ObT.ff ?_)|((with_reducible refine ObB.yes ?_ ?_);(focus (first|assumption|(with_reducible rfl)|omega)))|((with_reducible refine ObB.no ?_ ?_);(focus (first|assumption|omega)))|((with_reducible refine ObI.nl ?_ ?_);(focus omega))|((with_reducible refine ObI.mk _ rfl ?_ ?_ ?_);(focus omega);(focus omega))|((with_reducible refine ObX.mk _ rfl ?_ ?_);(focus exact zX))|((with_reducible refine (?_:ObL _ _));(refine ObL.mk _ zM ?_))|((with_reducible refine (?_:ObU _ _));(refine ObU.mk _ (by first|exact us|exact oa|assumption|((conv=>lhs;simp only [List.set_cons_zero,List.set_cons_succ,List.take_succ_cons,List.take_zero,List.drop_succ_cons,List.drop_zero,List.nil_append,List.cons_append,List.append_nil,List.take_nil,List.drop_nil]);try rfl)|rfl) ?_))|((with_reducible refine (?_:ObR _ _ _));(first|(refine ObR.mk _ (by assumption) ?_)|(refine ObR.mk _ (by with_reducible rfl) ?_)|(refine ObR.map zX (fun x hx=>?_))|(refine ObR.mk _ rfl ?_)))|((with_reducible refine ObC.f 9 ?_);(first|(with_reducible refine ObC.mk _ (hf) ?_)|(refine ObC.mk _ (hf) ?_)))|((with_reducible refine ObC.f 32 ?_);(first|(with_reducible refine ObC.mk _ (hrf) ?_)|(refine ObC.mk _ (hrf) ?_)))|(with_reducible refine ObE.max ?_))
      conv=>whnf
      refine Again.mk (i+1,W',o++[y]) ⟨by dsimp only;omega,by dsimp only;omega,by dsimp only;omega,by simp [hol],by dsimp only;rw [List.append_assoc,← he,show 12 - (i+1)=11 - i by omega];rfl⟩ ?_ (Fg.vw [(0,0,1)] ?_ ?_ (by simp) ?_)
      · dsimp only;omega
      all_goals repeat' ((conv=>whnf);first|((with_reducible refine ObN.mk ?_ ?_);(focus exact zN))|((with_reducible refine ObRn.mk ?_ ?_);(focus (first|rfl|(simp [rnB,rnC,rnL];done))))|((with_reducible refine ObRow.same ?_ ?_ ?_);(focus (first|rfl|assumption));(focus (first|rfl|assumption|(simp;done))))|((with_reducible refine ObEqs.mk ?_ ?_);(focus rfl))|exact True.intro)
  · have h0 : fewL (12 - i) w (l.drop i) = [] := by
      rcases Nat.lt_or_ge i l.length with h|h
      · rw [show 12 - i=0 by omega,fewL]
      · rw [List.drop_eq_nil_of_le h];cases 12 - i<;>rfl
    rw [h0,List.append_nil] at he
    rw [← he]
    have hor:i=l.length∨(i < l.length∧i=12):=by omega
    rcases hor with hor|⟨hor,hor2⟩
    · repeat' ((conv=>whnf);first|(with_reducible refine SeqP.go ?_)|((with_reducible refine ObN.mk ?_ ?_);(focus exact zN))|(with_reducible refine ObT.ff ?_)|((with_reducible refine ObB.no ?_ ?_);(focus (first|assumption|omega)))|((with_reducible refine (?_:ObL _ _));(refine ObL.mk _ zM ?_))|((with_reducible refine (?_:ObU _ _));(refine ObU.mk _ (by first|exact oa|assumption|((conv=>lhs;simp only [List.set_cons_zero,List.set_cons_succ,List.take_succ_cons,List.take_zero,List.drop_succ_cons,List.drop_zero,List.nil_append,List.cons_append,List.append_nil,List.take_nil,List.drop_nil]);try rfl)|rfl) ?_))|((with_reducible refine ObEq.mk ?_);(focus (first|rfl|assumption))))
    · repeat' ((conv=>whnf);first|(with_reducible refine SeqP.go ?_)|((with_reducible refine ObN.mk ?_ ?_);(focus exact zN))|(with_reducible refine ObT.tt ?_)|(with_reducible refine ObT.ff ?_)|((with_reducible refine ObB.yes ?_ ?_);(focus (first|assumption|(with_reducible rfl)|omega)))|((with_reducible refine ObB.no ?_ ?_);(focus (first|assumption|omega)))|((with_reducible refine (?_:ObL _ _));(refine ObL.mk _ zM ?_))|((with_reducible refine (?_:ObU _ _));(refine ObU.mk _ (by first|exact oa|assumption|((conv=>lhs;simp only [List.set_cons_zero,List.set_cons_succ,List.take_succ_cons,List.take_zero,List.drop_succ_cons,List.drop_zero,List.nil_append,List.cons_append,List.append_nil,List.take_nil,List.drop_nil]);try rfl)|rfl) ?_))|((with_reducible refine ObEq.mk ?_);(focus (first|rfl|assumption))))
end
end Go.Proofs.Ytnammfeiehikfaa.Sim
namespace Go.Proofs.Ytnammfeiehikfaa.Sim
open Go.RowKit
set_option maxRecDepth 100000
section
variable (G:Nat→AV)
end
end Go.Proofs.Ytnammfeiehikfaa.Sim
namespace Go.Proofs.Ytnammfeiehikfaa.Sim
open Go.RowKit
set_option maxRecDepth 100000
abbrev NdS:={x:Nd // x.Wd}
def ndC (x:NdS):List AV:=[I x.1.kn,S x.1.ke,S x.1.va,.v (.int .u32 (x.1.mp:Int)),.sl 1 (x.1.kk.map iA),I x.1.mn,.sl 2 (x.1.ls.map pA),I x.1.sz,I x.1.bi]
theorem nd_inv {cs:List AV} (h:ShC Try.prog 30 cs):∃ x:NdS,cs=ndC x:=by
  have i1:(Try.prog).underlying 3=some (.int .i64):=by kernel_rfl
  have i2:(Try.prog).underlying 23=some (.int .i64):=by kernel_rfl
  have e1:isAggT Try.prog 23=false:=by kernel_rfl
  have e2:isAggT Try.prog 72=true:=by kernel_rfl
  have e3:(Try.prog).cellsOf 23=1:=by kernel_rfl
  have e4:(Try.prog).cellsOf 72=2:=by kernel_rfl
  obtain ⟨p0,q,rfl,hp0,h⟩:=(h.flds (ts:=[3,9,9,27,24,23,28,3,3]) (by kernel_rfl)).cons
  obtain ⟨p1,q,rfl,hp1,h⟩:=h.cons
  obtain ⟨p2,q,rfl,hp2,h⟩:=h.cons
  obtain ⟨p3,q,rfl,hp3,h⟩:=h.cons
  obtain ⟨p4,q,rfl,hp4,h⟩:=h.cons
  obtain ⟨p5,q,rfl,hp5,h⟩:=h.cons
  obtain ⟨p6,q,rfl,hp6,h⟩:=h.cons
  obtain ⟨p7,q,rfl,hp7,h⟩:=h.cons
  obtain ⟨p8,q,rfl,hp8,h⟩:=h.cons
  obtain rfl:=h.nil
  obtain ⟨kn,rfl,_⟩:=hp0.i64_inv i1
  obtain ⟨ke,rfl,hke⟩:=hp1.str_inv u_str
  obtain ⟨va,rfl,hva⟩:=hp2.str_inv u_str
  obtain ⟨mp0,rfl,hm0,hm1⟩:=hp3.u32_inv (by kernel_rfl)
  obtain ⟨mp,rfl⟩:=Int.eq_ofNat_of_zero_le hm0
  obtain ⟨css,rfl,hk,hkk⟩:=hp4.slice_inv (e:=23) (by kernel_rfl)
  obtain ⟨kk,rfl⟩:=pick_list (f:=fun n:i64S=>[I n.1]) (fun cs h=>by obtain ⟨n,e,h1,h2⟩:=h.i64_inv i2;exact ⟨⟨n,h1,h2⟩,e⟩) css hkk
  obtain ⟨mn,rfl,hmn⟩:=hp5.i64_inv i2
  obtain ⟨dss,rfl,hl,hll⟩:=hp6.slice_inv (e:=72) (by kernel_rfl)
  obtain ⟨ls,rfl⟩:=pick_list (f:=pC) (fun cs h=>pair_inv h) dss hll
  obtain ⟨sz,rfl,_⟩:=hp7.i64_inv i1
  obtain ⟨bi,rfl,_⟩:=hp8.i64_inv i1
  have g1:(List.map (fun n:i64S=>[I n.1]) kk).map (mkE (isAggT Try.prog 23))=(kk.map Subtype.val).map iA:=by rw [e1,List.map_map,List.map_map];rfl
  have g2:(List.map pC ls).map (mkE (isAggT Try.prog 72))=(ls.map Subtype.val).map pA:=by rw [e2,List.map_map,List.map_map];rfl
  refine ⟨⟨⟨kn,ke,va,mp,kk.map Subtype.val,mn,ls.map Subtype.val,sz,bi⟩,⟨by show mp < 4294967296;omega,hke,hva,by simpa using hk,by simpa using hl,fun p hp=>by obtain ⟨q,_,rfl⟩:=List.mem_map.1 hp;exact q.2,hmn,fun r hr=>by obtain ⟨q,_,rfl⟩:=List.mem_map.1 hr;exact q.2⟩⟩,?_⟩
  rw [g1,g2,e3,e4];rfl
theorem plan_inv {cs:List AV} (h:ShC Try.prog 26 cs):∃ (l:List Nd) (rt:Int) (od:List Int),mkE true cs=plA l rt od∧l.length≤9223372036854775807∧(∀ x ∈ l,x.Wd)∧od.length≤9223372036854775807∧i64 rt:=by
  have i2:(Try.prog).underlying 23=some (.int .i64):=by kernel_rfl
  have e1:isAggT Try.prog 23=false:=by kernel_rfl
  have e2:isAggT Try.prog 30=true:=by kernel_rfl
  have e3:(Try.prog).cellsOf 23=1:=by kernel_rfl
  have e4:(Try.prog).cellsOf 30=9:=by kernel_rfl
  obtain ⟨p0,q,rfl,hp0,h⟩:=(h.flds (ts:=[22,23,24]) (by kernel_rfl)).cons
  obtain ⟨p1,q,rfl,hp1,h⟩:=h.cons
  obtain ⟨p2,q,rfl,hp2,h⟩:=h.cons
  obtain rfl:=h.nil
  obtain ⟨nss,rfl,hn,hnn⟩:=hp0.slice_inv (e:=30) (by kernel_rfl)
  obtain ⟨l,rfl⟩:=pick_list (f:=ndC) (fun cs h=>nd_inv h) nss hnn
  obtain ⟨rt,rfl,hrt⟩:=hp1.i64_inv i2
  obtain ⟨oss,rfl,ho,hoo⟩:=hp2.slice_inv (e:=23) (by kernel_rfl)
  obtain ⟨od,rfl⟩:=pick_list (f:=fun n:Int=>[I n]) (fun cs h=>by obtain ⟨n,e,_⟩:=h.i64_inv i2;exact ⟨n,e⟩) oss hoo
  have g1:(List.map (fun n:Int=>[I n]) od).map (mkE (isAggT Try.prog 23))=od.map iA:=by rw [e1,List.map_map];rfl
  have g2:(List.map ndC l).map (mkE (isAggT Try.prog 30))=(l.map Subtype.val).map nA:=by rw [e2,List.map_map,List.map_map];rfl
  refine ⟨l.map Subtype.val,rt,od,by rw [g1,g2,e3,e4];rfl,by simpa using hn,fun x hx=>?_,by simpa using ho,hrt⟩
  obtain ⟨q,_,rfl⟩:=List.mem_map.1 hx
  exact q.2
end Go.Proofs.Ytnammfeiehikfaa.Sim
namespace Go.Proofs.Ytnammfeiehikfaa.Sim
open Go.RowKit
set_option maxRecDepth 100000
section
variable (G:Nat→AV)
theorem few21b (h:List Nd) (hl:h.length≤9223372036854775807) (hx:∀ x ∈ h,x.Wd):PC Try.prog G 21 [.sl 9 ((fewL 12 1 h).map nA)] (.sl 9 ((fewL 12 1 h).map nA)):=by
  have h1:=few21 G (fewL 12 1 h) (by have:=@fewL_len 12 1 h;omega) (fun x hx2=>(fewL_ok hx x hx2).wd)
  rwa [fewL_eq hx] at h1
set_option maxHeartbeats 8000000 in
theorem staysC (h0 H l0 L : List Nd) (rt : Int) (od0 T : List Int) (hH : H.length ≤ 12) (hHo : ∀ x ∈ H, x.Ok) (hL : L.length ≤ 12) (hLo : ∀ x ∈ L, x.Ok) (hT : T.length ≤ 20) (hr : i64 rt)
    (c21:PC Try.prog G 21 [.sl 9 (h0.map nA)] (.sl 9 (H.map nA))) (c21b:PC Try.prog G 21 [.sl 9 (H.map nA)] (.sl 9 (H.map nA)))
    (c8:PC Try.prog G 8 [plA l0 rt od0] (plA L rt T)) (c:Bool) (hc:c=okD H L rt T):PC Try.prog G 6 [.sl 9 (h0.map nA),plA l0 rt od0] (Bo true):=by
  have c22:=do22 G H L rt T (by omega) hHo (by omega) hLo (by omega) hr c hc
  have c15:=works18 G
  have c13:=heap13 G H (by omega) hHo
  have hOl:(H++fls H.length L).length=H.length+L.length:=by rw [List.length_append,fls_len]
  have htk:((H++fls H.length L).map nA).take H.length=H.map nA:=by rw [List.map_append,List.take_left' (by simp)]
  clear hc
  generalize H++fls H.length L=O at *
  generalize gt (toD H.length L.length) rt=root at *
  have hl0:([]:List AV).length=0:=rfl
  refine pc_ofV cop6 ?_
  cases c
  all_goals simp only [dR] at c22
  all_goals repeat' ((conv=>whnf);first|(with_reducible refine SeqP.go ?_)|((with_reducible refine ObD.mk ?_ ?_);(focus (first|rfl|(simp;done))))|((with_reducible refine ObN.mk ?_ ?_);(focus exact zN))|(with_reducible refine ObT.tt ?_)|(with_reducible refine ObT.ff ?_)|((with_reducible refine ObB.yes ?_ ?_);(focus (first|assumption|(with_reducible rfl)|omega)))|((with_reducible refine ObB.no ?_ ?_);(focus (first|assumption|omega)))|((with_reducible refine ObI.nn ?_ ?_);(focus omega))|((with_reducible refine (?_:ObL _ _));(refine ObL.mk _ (by first|exact hl0|exact (List.length_map _)|assumption|exact (List.length_map _).trans (by assumption)|exact List.length_map _|rfl) ?_))|((with_reducible refine (?_:ObU _ _));(refine ObU.mk _ (by first|exact htk|assumption|((conv=>lhs;simp only [List.set_cons_zero,List.set_cons_succ,List.take_succ_cons,List.take_zero,List.drop_succ_cons,List.drop_zero,List.nil_append,List.cons_append,List.append_nil,List.take_nil,List.drop_nil]);try rfl)|rfl) ?_))|((with_reducible refine (?_:ObR _ _ _));(first|(refine ObR.mk _ (by assumption) ?_)|(refine ObR.mk _ (by with_reducible rfl) ?_)|(refine ObR.map zX (fun x hx=>?_))|(refine ObR.mk _ rfl ?_)))|((with_reducible refine ObC.f 21 ?_);(first|(with_reducible refine ObC.mk _ (c21) ?_)|(refine ObC.mk _ (c21) ?_)))|((with_reducible refine ObC.f 21 ?_);(first|(with_reducible refine ObC.mk _ (c21b) ?_)|(refine ObC.mk _ (c21b) ?_)))|((with_reducible refine ObC.f 8 ?_);(first|(with_reducible refine ObC.mk _ (c8) ?_)|(refine ObC.mk _ (c8) ?_)))|((with_reducible refine ObC.f 22 ?_);(first|(with_reducible refine ObC.mk _ (c22) ?_)|(refine ObC.mk _ (c22) ?_)))|((with_reducible refine ObC.f 13 ?_);(first|(with_reducible refine ObC.mk _ (c13) ?_)|(refine ObC.mk _ (c13) ?_)))|((with_reducible refine ObC.f 15 ?_);(first|(with_reducible refine ObC.mk _ (c15) ?_)|(refine ObC.mk _ (c15) ?_)))|((with_reducible refine ObJ.zn ?_ ?_);(focus exact zX))|((with_reducible refine ObEq.mk ?_);(focus (first|rfl|assumption))))
end
theorem stays (G:Nat→AV) (h l:List Nd) (rt:Int) (od:List Int) (hh:h.length≤9223372036854775807) (hhx:∀ x ∈ h,x.Wd) (hl:l.length≤9223372036854775807) (hx:∀ x ∈ l,x.Wd) (ho:od.length≤9223372036854775807) (hr:i64 rt):PC Try.prog G 6 [.sl 9 (h.map nA),plA l rt od] (Bo true) :=
  staysC G h (fewL 12 1 h) l ((l.take 12).map fewX) rt od (od.take 20) fewL_len (fewL_ok hhx) (by rw [List.length_map,List.length_take];omega) (fun y hy=>by
    obtain ⟨z,hz,rfl⟩:=List.mem_map.1 hy
    exact fewX_ok (hx z (List.mem_of_mem_take hz))) (by rw [List.length_take];omega) hr (few21 G h hh hhx) (few21b G h hh hhx) (give8 G l rt od hl hx ho) _ rfl
theorem heap_inv {cs:List AV} (h:ShC Try.prog 22 cs):∃ l:List Nd,mkE false cs = .sl 9 (l.map nA)∧l.length≤9223372036854775807∧∀ x ∈ l,x.Wd:=by
  have e2:isAggT Try.prog 30=true:=by kernel_rfl
  have e4:(Try.prog).cellsOf 30=9:=by kernel_rfl
  obtain ⟨nss,rfl,hn,hnn⟩:=h.slice_inv (e:=30) (by kernel_rfl)
  obtain ⟨l,rfl⟩:=pick_list (f:=ndC) (fun cs h=>nd_inv h) nss hnn
  have g2:(List.map ndC l).map (mkE (isAggT Try.prog 30))=(l.map Subtype.val).map nA:=by rw [e2,List.map_map,List.map_map];rfl
  refine ⟨l.map Subtype.val,by rw [g2,e4];rfl,by simpa using hn,fun x hx=>?_⟩
  obtain ⟨q,_,rfl⟩:=List.mem_map.1 hx
  exact q.2
theorem PlanStays_calls (as0 as1:List AV) (s0:ShC Try.prog 22 as0) (s1:ShC Try.prog 26 as1):PC Try.prog (fun _=>.unk) 6 [mkE (isAggT Try.prog 22) as0,mkE (isAggT Try.prog 26) as1] (Bo true):=by
  obtain ⟨h,h0,h6,h7⟩:=heap_inv s0
  obtain ⟨l,rt,od,h1,h2,h3,h4,h5⟩:=plan_inv s1
  have e1:isAggT Try.prog 26=true:=by kernel_rfl
  have e2:isAggT Try.prog 22=false:=by kernel_rfl
  rw [e1,e2,h0,h1]
  exact stays _ h l rt od h6 h7 h2 h3 h4 h5
end Go.Proofs.Ytnammfeiehikfaa.Sim
