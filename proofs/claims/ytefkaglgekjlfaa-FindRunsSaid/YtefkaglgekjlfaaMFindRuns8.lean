/- Texts of this claim, part 8. -/
import Derived.Test.YtefkaglgekjlfaaMFindRuns7
set_option linter.unusedVariables false
set_option linter.unusedSimpArgs false
namespace Go.Proofs.Ytefkaglgekjlfaa.Sim
open Go.RowKit
set_option maxRecDepth 100000
abbrev NdS:={x:Nd // x.Wd}
def ndC (x:NdS):List AV:=[I x.1.kn,S x.1.ke,S x.1.va,.v (.int .u32 (x.1.mp:Int)),.sl 1 (x.1.kk.map iA),I x.1.mn,.sl 2 (x.1.ls.map pA),I x.1.sz,I x.1.bi]
theorem nd_inv {cs:List AV} (h:ShC Try.prog 41 cs):∃ x:NdS,cs=ndC x:=by
  have i1:(Try.prog).underlying 3=some (.int .i64):=by kernel_rfl
  have i2:(Try.prog).underlying 27=some (.int .i64):=by kernel_rfl
  have e1:isAggT Try.prog 27=false:=by kernel_rfl
  have e2:isAggT Try.prog 67=true:=by kernel_rfl
  have e3:(Try.prog).cellsOf 27=1:=by kernel_rfl
  have e4:(Try.prog).cellsOf 67=2:=by kernel_rfl
  obtain ⟨p0,q,rfl,hp0,h⟩:=(h.flds (ts:=[3,9,9,37,38,27,39,3,3]) (by kernel_rfl)).cons
  obtain ⟨p1,q,rfl,hp1,h⟩:=h.cons
  obtain ⟨p2,q,rfl,hp2,h⟩:=h.cons
  obtain ⟨p3,q,rfl,hp3,h⟩:=h.cons
  obtain ⟨p4,q,rfl,hp4,h⟩:=h.cons
  obtain ⟨p5,q,rfl,hp5,h⟩:=h.cons
  obtain ⟨p6,q,rfl,hp6,h⟩:=h.cons
  obtain ⟨p7,q,rfl,hp7,h⟩:=h.cons
  obtain ⟨p8,q,rfl,hp8,h⟩:=h.cons
  obtain rfl:=h.nil
  obtain ⟨kn,rfl,_⟩:=hp0.i64_inv i1
  obtain ⟨ke,rfl,hke⟩:=hp1.str_inv u_str
  obtain ⟨va,rfl,hva⟩:=hp2.str_inv u_str
  obtain ⟨mp0,rfl,hm0,hm1⟩:=hp3.u32_inv (by kernel_rfl)
  obtain ⟨mp,rfl⟩:=Int.eq_ofNat_of_zero_le hm0
  obtain ⟨css,rfl,hk,hkk⟩:=hp4.slice_inv (e:=27) (by kernel_rfl)
  obtain ⟨kk,rfl⟩:=pick_list (f:=fun n:i64S=>[I n.1]) (fun cs h=>by obtain ⟨n,e,h1,h2⟩:=h.i64_inv i2;exact ⟨⟨n,h1,h2⟩,e⟩) css hkk
  obtain ⟨mn,rfl,hmn⟩:=hp5.i64_inv i2
  obtain ⟨dss,rfl,hl,hll⟩:=hp6.slice_inv (e:=67) (by kernel_rfl)
  obtain ⟨ls,rfl⟩:=pick_list (f:=pC) (fun cs h=>pair_inv h) dss hll
  obtain ⟨sz,rfl,_⟩:=hp7.i64_inv i1
  obtain ⟨bi,rfl,_⟩:=hp8.i64_inv i1
  have g1:(List.map (fun n:i64S=>[I n.1]) kk).map (mkE (isAggT Try.prog 27))=(kk.map Subtype.val).map iA:=by rw [e1,List.map_map,List.map_map];rfl
  have g2:(List.map pC ls).map (mkE (isAggT Try.prog 67))=(ls.map Subtype.val).map pA:=by rw [e2,List.map_map,List.map_map];rfl
  refine ⟨⟨⟨kn,ke,va,mp,kk.map Subtype.val,mn,ls.map Subtype.val,sz,bi⟩,⟨by show mp < 4294967296;omega,hke,hva,by simpa using hk,by simpa using hl,fun p hp=>by obtain ⟨q,_,rfl⟩:=List.mem_map.1 hp;exact q.2,hmn,fun r hr=>by obtain ⟨q,_,rfl⟩:=List.mem_map.1 hr;exact q.2⟩⟩,?_⟩
  rw [g1,g2,e3,e4];rfl
theorem heap_inv {cs:List AV} (h:ShC Try.prog 22 cs):∃ l:List Nd,mkE false cs = .sl 9 (l.map nA)∧l.length≤9223372036854775807∧∀ x ∈ l,x.Wd:=by
  have e2:isAggT Try.prog 41=true:=by kernel_rfl
  have e4:(Try.prog).cellsOf 41=9:=by kernel_rfl
  obtain ⟨nss,rfl,hn,hnn⟩:=h.slice_inv (e:=41) (by kernel_rfl)
  obtain ⟨l,rfl⟩:=pick_list (f:=ndC) (fun cs h=>nd_inv h) nss hnn
  have g2:(List.map ndC l).map (mkE (isAggT Try.prog 41))=(l.map Subtype.val).map nA:=by rw [e2,List.map_map,List.map_map];rfl
  refine ⟨l.map Subtype.val,by rw [g2,e4];rfl,by simpa using hn,fun x hx=>?_⟩
  obtain ⟨q,_,rfl⟩:=List.mem_map.1 hx
  exact q.2
theorem int_inv {cs:List AV} (h:ShC Try.prog 3 cs):∃ n:Int,mkE false cs=I n∧i64 n:=by
  obtain ⟨n,rfl,h1,h2⟩:=h.i64_inv (by kernel_rfl)
  exact ⟨n,rfl,h1,h2⟩
theorem txt_inv {cs:List AV} (h:ShC Try.prog 9 cs):∃ s:ByteArray,mkE false cs=S s∧s.size≤9223372036854775807:=by
  obtain ⟨s,rfl,hs⟩:=h.str_inv u_str
  exact ⟨s,rfl,hs⟩
section
variable (G:Nat→AV)
def e1N:Nd:=⟨1,⟨#[97]⟩,⟨#[49]⟩,0,[],0,[],1,0⟩
theorem e1_may:mayV e1N=0:=by
  have h1:FormP e1N.kn e1N.ke e1N.va e1N.mp e1N.kk e1N.mn e1N.ls e1N.sz e1N.bi:=⟨by decide,.inl ⟨.inl rfl,rfl,by unfold BareP;simp [e1N]⟩⟩
  unfold mayV
  rw [@decide_eq_true _ (Classical.propDecidable _) h1]
  rfl
theorem eH1:aH [e1N] [e1N].length=true:=by
  have h1:okH 0 e1N=true:=by rw [okH,e1_may];rfl
  simp [aH,List.range_succ,h1]
theorem eOk1:∀ x ∈ [e1N],x.Ok:=by
  intro x hx
  obtain rfl:=List.mem_singleton.1 hx
  exact ⟨by decide,by decide,by decide,by decide,by decide,fun p hp=>(by cases hp),⟨by decide,by decide⟩,fun r hr=>(by cases hr)⟩
theorem eR1:okR [e1N] 1=true:=by rw [okR,eH1];rfl
theorem run_e (k:ByteArray) (hk:k.size≤40):PC Try.prog G 8 [.sl 9 ([e1N].map nA),I 1,S k,I 64] (.tup [S (bdv e1N k).1,Bo (bdv e1N k).2,I 1]):=by
  obtain ⟨N,lk⟩:=lk_of G [e1N] (by decide) eOk1 eH1 (r:=1) (by decide) (by decide) k hk 64 ⟨by decide,by decide⟩
  have h1:stQ [e1N] 1 k 64 1=(0,0,bdv e1N k):=rfl
  have hN:N=1:=by
    rcases Nat.lt_trichotomy N 1 with h|h|h
    · have : N = 0 := by omega
      subst this
      have:=lk.e
      rw [lk.z] at this
      exact absurd this (by decide)
    · exact h
    · obtain ⟨j, e, _⟩ := lk.i 1 h
      rw [h1] at e
      dsimp only at e;omega
  have hc:=count13 G [e1N] (by decide) eOk1 1 true eR1.symm
  have:=run8 G [e1N] (by decide) 1 k 64 lk _ hc
  rw [hN,h1] at this
  exact this
theorem works10:PC Try.prog G 10 [] (Bo true):=by
  have a1:=run_e G ⟨#[97]⟩ (by decide)
  have a2:=run_e G ⟨#[98]⟩ (by decide)
  have e1:bdv e1N ⟨#[97]⟩=(⟨#[49]⟩,true):=by rfl
  have e2:bdv e1N ⟨#[98]⟩=(⟨#[]⟩,false):=by rfl
  rw [e1] at a1
  rw [e2] at a2
  have hl:=leaf14 G ⟨#[97]⟩ ⟨#[49]⟩
  refine pc_ofV cop10 ?_
  repeat' ((conv=>whnf);first|(with_reducible refine SeqP.go ?_)|exact SameP.mk rfl rfl|(with_reducible refine ObAnd.mk ?_ ?_)|(with_reducible refine ObDx.each ?_)|((with_reducible refine ObD.mk ?_ ?_);(focus (first|rfl|(simp;done))))|((with_reducible refine ObN.mk ?_ ?_);(focus exact zN))|(with_reducible refine ObT.tt ?_)|(with_reducible refine ObT.ff ?_)|((with_reducible refine ObT.yes ?_ ?_);(focus assumption))|((with_reducible refine ObT.no ?_ ?_);(focus assumption))|((with_reducible refine ObT.yes ?_ ?_);(focus (refine decide_eq_true ?_;first|assumption|omega)))|((with_reducible refine ObT.no ?_ ?_);(focus (refine decide_eq_false ?_;first|assumption|omega)))|(with_reducible refine ObT.dec (fun h=>?_) (fun h=>?_))|(with_reducible refine ObT.mk (fun h=>?_) (fun h=>?_))|((with_reducible refine ObB.yes ?_ ?_);(focus (first|assumption|(with_reducible rfl)|omega)))|((with_reducible refine ObB.no ?_ ?_);(focus (first|assumption|omega)))|(with_reducible refine ObB.mk (fun h=>?_) (fun h=>?_))|((with_reducible refine ObI.nn ?_ ?_);(focus omega))|((with_reducible refine ObI.nl ?_ ?_);(focus omega))|((with_reducible refine ObI.sn ?_ ?_ ?_);(focus omega);(focus omega))|((with_reducible refine ObI.sl ?_ ?_ ?_);(focus omega);(focus omega))|((with_reducible refine ObI.dl ?_ ?_);(focus omega))|((with_reducible refine ObI.mk _ rfl ?_ ?_ ?_);(focus omega);(focus omega))|((with_reducible refine ObZ.wu ?_ ?_);(focus omega))|((with_reducible refine ObZ.wi ?_ ?_ ?_);(focus omega);(focus omega))|(with_reducible refine ObZ.ml ?_)|(with_reducible refine ObZ.mn ?_)|(with_reducible refine ObZ.mk _ rfl ?_)|((with_reducible refine ObX.mk _ rfl ?_ ?_);(focus exact zX))|((with_reducible refine ObX.lit ?_ ?_);(focus exact zX))|((with_reducible refine ObX.int ?_ ?_ ?_);(focus exact zX);(focus exact zX))|((with_reducible refine ObY.mk _ rfl ?_ ?_);(focus exact zX))|((with_reducible refine ObY.lit ?_ ?_);(focus exact zX))|((with_reducible refine ObY.int ?_ ?_ ?_);(focus exact zX);(focus exact zX))|((with_reducible refine (?_:ObL _ _));(refine ObL.mk _ zL ?_))|((with_reducible refine (?_:ObU _ _));(refine ObU.mk _ zU ?_))|(with_reducible refine ObS.mk _ rfl ?_)|((with_reducible refine (?_:ObR _ _ _));(first|(refine ObR.mk _ (by assumption) ?_)|(refine ObR.mk _ (by with_reducible rfl) ?_)|(refine ObR.map zX (fun x hx=>?_))|(refine ObR.mk _ rfl ?_)))|((with_reducible refine ObC.f 16 ?_);(first|(with_reducible refine ObC.mk _ (hl) ?_)|(refine ObC.mk _ (hl) ?_)))|((with_reducible refine ObC.f 8 ?_);(first|(with_reducible refine ObC.mk _ (a1) ?_)|(refine ObC.mk _ (a1) ?_)))|((with_reducible refine ObC.f 8 ?_);(first|(with_reducible refine ObC.mk _ (a2) ?_)|(refine ObC.mk _ (a2) ?_)))|((with_reducible refine ObO.l ?_);(with_reducible refine ObN.mk ?_ ?_);(focus (first|rfl|omega)))|((with_reducible refine ObO.r ?_);(with_reducible refine ObN.mk ?_ ?_);(focus (first|omega|(simp;done))))|((with_reducible refine ObW.nil ?_ ?_);(focus (first|rfl|assumption)))|((with_reducible refine ObW.cons ?_ ?_);(focus (first|assumption|(simp;done))))|((with_reducible refine ObJ.zz ?_))|((with_reducible refine ObJ.nz ?_ ?_);(focus exact zX))|((with_reducible refine ObJ.zn ?_ ?_);(focus exact zX))|((with_reducible refine ObJ.nn ?_ ?_ ?_);(focus exact zX);(focus exact zX))|((with_reducible refine ObJ.lz ?_ ?_);(focus exact zX))|((with_reducible refine ObJ.zl ?_ ?_);(focus exact zX))|((with_reducible refine ObJ.nl ?_ ?_ ?_);(focus exact zX);(focus exact zX))|((with_reducible refine ObJ.ln ?_ ?_ ?_);(focus exact zX);(focus exact zX))|((with_reducible refine ObJ.ll ?_ ?_ ?_);(focus exact zX);(focus exact zX))|((with_reducible refine (?_:ObG _ _ _ _));(refine ObG.nz zX _ (by first|rfl) ?_))|((with_reducible refine (?_:ObG _ _ _ _));(refine ObG.zn zX _ (by first|rfl) ?_))|((with_reducible refine (?_:ObG _ _ _ _));(refine ObG.nn zX zX _ (by first|rfl) ?_))|((with_reducible refine (?_:ObG _ _ _ _));(refine ObG.lz zX _ (by first|rfl) ?_))|((with_reducible refine (?_:ObG _ _ _ _));(refine ObG.zl zX _ (by first|rfl) ?_))|((with_reducible refine (?_:ObG _ _ _ _));(refine ObG.nl zX zX _ (by first|rfl) ?_))|((with_reducible refine (?_:ObG _ _ _ _));(refine ObG.ln zX zX _ (by first|rfl) ?_))|((with_reducible refine (?_:ObG _ _ _ _));(refine ObG.ll zX zX _ (by first|rfl) ?_))|((with_reducible refine ObQ.mk _ rfl ?_ ?_);(focus exact zX))|((with_reducible refine ObEq.i ?_);(focus (first|(with_reducible rfl)|omega)))|((with_reducible refine ObEq.mk ?_);(focus (first|rfl|assumption)))|(exact ObEnd.eq rfl rfl)|((with_reducible refine ObSt.live ?_ ?_);(focus (first|trivial|(refine ⟨rfl,?_⟩;first|omega|(exact Nat.le_refl _)))))|(with_reducible refine ObSt.stale ?_)|((with_reducible refine ObRn.mk ?_ ?_);(focus (first|rfl|(simp [rnB,rnC,rnL];done))))|((with_reducible refine ObRow.same ?_ ?_ ?_);(focus (first|rfl|assumption));(focus (first|rfl|assumption|(simp;done))))|((with_reducible refine ObRow.lit ?_ ?_);(focus (first|rfl|(simp [rnB,rnC,rnL];done))))|((with_reducible refine ObEqs.mk ?_ ?_);(focus rfl))|((with_reducible refine ObEq1.i ?_ ?_);(focus (first|(with_reducible rfl)|omega)))|((with_reducible refine ObEq1.o ?_ ?_);(focus (first|(with_reducible rfl)|omega)))|((with_reducible refine ObEq1.mk ?_ ?_);(focus (first|rfl|assumption)))|exact True.intro|(with_reducible refine ObE.min ?_)|(with_reducible refine ObE.max ?_))
theorem few5 (h:List Nd) (hl:h.length≤9223372036854775807) (hx:∀ x ∈ h,x.Wd):PC Try.prog G 6 [.sl 9 (h.map nA)] (.sl 9 ((fewL 12 1 h).map nA)):=few21 G h hl hx
theorem few5b (h:List Nd) (hl:h.length≤9223372036854775807) (hx:∀ x ∈ h,x.Wd):PC Try.prog G 6 [.sl 9 ((fewL 12 1 h).map nA)] (.sl 9 ((fewL 12 1 h).map nA)):=by
  have h1:=few21 G (fewL 12 1 h) (by have:=@fewL_len 12 1 h;omega) (fun x hx2=>(fewL_ok hx x hx2).wd)
  rwa [fewL_eq hx] at h1
theorem lawR (h0:List Nd) (hl0:h0.length≤9223372036854775807) (hx0:∀ x ∈ h0,x.Wd) (r:Int) (hr:i64 r) (k0:ByteArray) (hk0:k0.size≤9223372036854775807) (b:Int) (hb:i64 b):PC Try.prog G 3 [.sl 9 (h0.map nA),I r,S k0,I b] (Bo true):=by
  have c6:=few5 G h0 hl0 hx0
  have c6b:=few5b G h0 hl0 hx0
  have hl:(fewL 12 1 h0).length≤12:=fewL_len
  have hx:=fewL_ok (n:=12) (w:=1) hx0
  generalize fewL 12 1 h0=h at *
  have c7:PC Try.prog G 7 [S k0,I 40] (S (cutB k0 40)):=cutP G k0 40 hk0
  have hk:=cutB_size k0
  generalize cutB k0 40=k at *
  obtain ⟨c,hc⟩:∃ c,c=okR h r:=⟨_,rfl⟩
  have c24:=count13 G h (by omega) hx r c hc
  have c13:=fits9 G h (by omega) hx r c hc
  have c10:=works10 G
  cases c
  · simp only [eo] at c24
    have c8:=run8x G h (by omega) r k b _ _ (by decide) c24
    have c9:=run9x G h (by omega) r k b c13
    clear hc
    refine pc_ofV cop3 ?_
    repeat' ((conv=>whnf);first|(with_reducible refine SeqP.go ?_)|exact SameP.mk rfl rfl|(with_reducible refine ObAnd.mk ?_ ?_)|(with_reducible refine ObDx.each ?_)|((with_reducible refine ObD.mk ?_ ?_);(focus (first|rfl|(simp;done))))|((with_reducible refine ObN.mk ?_ ?_);(focus exact zN))|(with_reducible refine ObT.tt ?_)|(with_reducible refine ObT.ff ?_)|((with_reducible refine ObT.yes ?_ ?_);(focus assumption))|((with_reducible refine ObT.no ?_ ?_);(focus assumption))|((with_reducible refine ObT.yes ?_ ?_);(focus (refine decide_eq_true ?_;first|assumption|omega)))|((with_reducible refine ObT.no ?_ ?_);(focus (refine decide_eq_false ?_;first|assumption|omega)))|(with_reducible refine ObT.dec (fun h=>?_) (fun h=>?_))|(with_reducible refine ObT.mk (fun h=>?_) (fun h=>?_))|((with_reducible refine ObB.yes ?_ ?_);(focus (first|assumption|(with_reducible rfl)|omega)))|((with_reducible refine ObB.no ?_ ?_);(focus (first|assumption|omega)))|(with_reducible refine ObB.mk (fun h=>?_) (fun h=>?_))|((with_reducible refine ObI.nn ?_ ?_);(focus omega))|((with_reducible refine ObI.nl ?_ ?_);(focus omega))|((with_reducible refine ObI.sn ?_ ?_ ?_);(focus omega);(focus omega))|((with_reducible refine ObI.sl ?_ ?_ ?_);(focus omega);(focus omega))|((with_reducible refine ObI.dl ?_ ?_);(focus omega))|((with_reducible refine ObI.mk _ rfl ?_ ?_ ?_);(focus omega);(focus omega))|((with_reducible refine ObZ.wu ?_ ?_);(focus omega))|((with_reducible refine ObZ.wi ?_ ?_ ?_);(focus omega);(focus omega))|(with_reducible refine ObZ.ml ?_)|(with_reducible refine ObZ.mn ?_)|(with_reducible refine ObZ.mk _ rfl ?_)|((with_reducible refine ObX.mk _ rfl ?_ ?_);(focus exact zX))|((with_reducible refine ObX.lit ?_ ?_);(focus exact zX))|((with_reducible refine ObX.int ?_ ?_ ?_);(focus exact zX);(focus exact zX))|((with_reducible refine ObY.mk _ rfl ?_ ?_);(focus exact zX))|((with_reducible refine ObY.lit ?_ ?_);(focus exact zX))|((with_reducible refine ObY.int ?_ ?_ ?_);(focus exact zX);(focus exact zX))|((with_reducible refine (?_:ObL _ _));(refine ObL.mk _ zM ?_))|((with_reducible refine (?_:ObU _ _));(refine ObU.mk _ zU ?_))|(with_reducible refine ObS.mk _ rfl ?_)|((with_reducible refine (?_:ObR _ _ _));(first|(refine ObR.mk _ (by assumption) ?_)|(refine ObR.mk _ (by with_reducible rfl) ?_)|(refine ObR.map zX (fun x hx=>?_))|(refine ObR.mk _ rfl ?_)))|((with_reducible refine ObC.f 6 ?_);(first|(with_reducible refine ObC.mk _ (c6) ?_)|(refine ObC.mk _ (c6) ?_)))|((with_reducible refine ObC.f 6 ?_);(first|(with_reducible refine ObC.mk _ (c6b) ?_)|(refine ObC.mk _ (c6b) ?_)))|((with_reducible refine ObC.f 7 ?_);(first|(with_reducible refine ObC.mk _ (c7) ?_)|(refine ObC.mk _ (c7) ?_)))|((with_reducible refine ObC.f 8 ?_);(first|(with_reducible refine ObC.mk _ (c8) ?_)|(refine ObC.mk _ (c8) ?_)))|((with_reducible refine ObC.f 9 ?_);(first|(with_reducible refine ObC.mk _ (c9) ?_)|(refine ObC.mk _ (c9) ?_)))|((with_reducible refine ObC.f 10 ?_);(first|(with_reducible refine ObC.mk _ (c10) ?_)|(refine ObC.mk _ (c10) ?_)))|((with_reducible refine ObO.l ?_);(with_reducible refine ObN.mk ?_ ?_);(focus (first|rfl|omega)))|((with_reducible refine ObO.r ?_);(with_reducible refine ObN.mk ?_ ?_);(focus (first|omega|(simp;done))))|((with_reducible refine ObW.nil ?_ ?_);(focus (first|rfl|assumption)))|((with_reducible refine ObW.cons ?_ ?_);(focus (first|assumption|(simp;done))))|((with_reducible refine ObJ.zz ?_))|((with_reducible refine ObJ.nz ?_ ?_);(focus exact zX))|((with_reducible refine ObJ.zn ?_ ?_);(focus exact zX))|((with_reducible refine ObJ.nn ?_ ?_ ?_);(focus exact zX);(focus exact zX))|((with_reducible refine ObJ.lz ?_ ?_);(focus exact zX))|((with_reducible refine ObJ.zl ?_ ?_);(focus exact zX))|((with_reducible refine ObJ.nl ?_ ?_ ?_);(focus exact zX);(focus exact zX))|((with_reducible refine ObJ.ln ?_ ?_ ?_);(focus exact zX);(focus exact zX))|((with_reducible refine ObJ.ll ?_ ?_ ?_);(focus exact zX);(focus exact zX))|((with_reducible refine (?_:ObG _ _ _ _));(refine ObG.nz zX _ (by first|rfl) ?_))|((with_reducible refine (?_:ObG _ _ _ _));(refine ObG.zn zX _ (by first|rfl) ?_))|((with_reducible refine (?_:ObG _ _ _ _));(refine ObG.nn zX zX _ (by first|rfl) ?_))|((with_reducible refine (?_:ObG _ _ _ _));(refine ObG.lz zX _ (by first|rfl) ?_))|((with_reducible refine (?_:ObG _ _ _ _));(refine ObG.zl zX _ (by first|rfl) ?_))|((with_reducible refine (?_:ObG _ _ _ _));(refine ObG.nl zX zX _ (by first|rfl) ?_))|((with_reducible refine (?_:ObG _ _ _ _));(refine ObG.ln zX zX _ (by first|rfl) ?_))|((with_reducible refine (?_:ObG _ _ _ _));(refine ObG.ll zX zX _ (by first|rfl) ?_))|((with_reducible refine ObQ.mk _ rfl ?_ ?_);(focus exact zX))|((with_reducible refine ObEq.i ?_);(focus (first|(with_reducible rfl)|omega)))|((with_reducible refine ObEq.mk ?_);(focus (first|rfl|assumption)))|(exact ObEnd.eq rfl rfl)|((with_reducible refine ObSt.live ?_ ?_);(focus (first|trivial|(refine ⟨rfl,?_⟩;first|omega|(exact Nat.le_refl _)))))|(with_reducible refine ObSt.stale ?_)|((with_reducible refine ObRn.mk ?_ ?_);(focus (first|rfl|(simp [rnB,rnC,rnL];done))))|((with_reducible refine ObRow.same ?_ ?_ ?_);(focus (first|rfl|assumption));(focus (first|rfl|assumption|(simp;done))))|((with_reducible refine ObRow.lit ?_ ?_);(focus (first|rfl|(simp [rnB,rnC,rnL];done))))|((with_reducible refine ObEqs.mk ?_ ?_);(focus rfl))|((with_reducible refine ObEq1.i ?_ ?_);(focus (first|(with_reducible rfl)|omega)))|((with_reducible refine ObEq1.o ?_ ?_);(focus (first|(with_reducible rfl)|omega)))|((with_reducible refine ObEq1.mk ?_ ?_);(focus (first|rfl|assumption)))|exact True.intro|(with_reducible refine ObE.min ?_)|(with_reducible refine ObE.max ?_))
  · have hc' := hc.symm
    simp only [okR,Bool.and_eq_true,decide_eq_true_eq] at hc'
    obtain ⟨⟨q0,q1⟩,hh⟩:=hc'
    obtain ⟨N,lk⟩:=lk_of G h (by omega) hx hh q0 q1 k hk b hb
    simp only [eo] at c24
    have c8:=run8 G h (by omega) r k b lk _ c24
    have c9:=run9 G h (by omega) r k b lk c13
    clear hc hh
    generalize stQ h r k b N=s at *
    refine pc_ofV cop3 ?_
    repeat' ((conv=>whnf);first|(with_reducible refine SeqP.go ?_)|exact SameP.mk rfl rfl|(with_reducible refine ObAnd.mk ?_ ?_)|(with_reducible refine ObDx.each ?_)|((with_reducible refine ObD.mk ?_ ?_);(focus (first|rfl|(simp;done))))|((with_reducible refine ObN.mk ?_ ?_);(focus exact zN))|(with_reducible refine ObT.tt ?_)|(with_reducible refine ObT.ff ?_)|((with_reducible refine ObT.yes ?_ ?_);(focus assumption))|((with_reducible refine ObT.no ?_ ?_);(focus assumption))|((with_reducible refine ObT.yes ?_ ?_);(focus (refine decide_eq_true ?_;first|assumption|omega)))|((with_reducible refine ObT.no ?_ ?_);(focus (refine decide_eq_false ?_;first|assumption|omega)))|(with_reducible refine ObT.dec (fun h=>?_) (fun h=>?_))|(with_reducible refine ObT.mk (fun h=>?_) (fun h=>?_))|((with_reducible refine ObB.yes ?_ ?_);(focus (first|assumption|(with_reducible rfl)|omega)))|((with_reducible refine ObB.no ?_ ?_);(focus (first|assumption|omega)))|(with_reducible refine ObB.mk (fun h=>?_) (fun h=>?_))|((with_reducible refine ObI.nn ?_ ?_);(focus omega))|((with_reducible refine ObI.nl ?_ ?_);(focus omega))|((with_reducible refine ObI.sn ?_ ?_ ?_);(focus omega);(focus omega))|((with_reducible refine ObI.sl ?_ ?_ ?_);(focus omega);(focus omega))|((with_reducible refine ObI.dl ?_ ?_);(focus omega))|((with_reducible refine ObI.mk _ rfl ?_ ?_ ?_);(focus omega);(focus omega))|((with_reducible refine ObZ.wu ?_ ?_);(focus omega))|((with_reducible refine ObZ.wi ?_ ?_ ?_);(focus omega);(focus omega))|(with_reducible refine ObZ.ml ?_)|(with_reducible refine ObZ.mn ?_)|(with_reducible refine ObZ.mk _ rfl ?_)|((with_reducible refine ObX.mk _ rfl ?_ ?_);(focus exact zX))|((with_reducible refine ObX.lit ?_ ?_);(focus exact zX))|((with_reducible refine ObX.int ?_ ?_ ?_);(focus exact zX);(focus exact zX))|((with_reducible refine ObY.mk _ rfl ?_ ?_);(focus exact zX))|((with_reducible refine ObY.lit ?_ ?_);(focus exact zX))|((with_reducible refine ObY.int ?_ ?_ ?_);(focus exact zX);(focus exact zX))|((with_reducible refine (?_:ObL _ _));(refine ObL.mk _ zM ?_))|((with_reducible refine (?_:ObU _ _));(refine ObU.mk _ zU ?_))|(with_reducible refine ObS.mk _ rfl ?_)|((with_reducible refine (?_:ObR _ _ _));(first|(refine ObR.mk _ (by assumption) ?_)|(refine ObR.mk _ (by with_reducible rfl) ?_)|(refine ObR.map zX (fun x hx=>?_))|(refine ObR.mk _ rfl ?_)))|((with_reducible refine ObC.f 6 ?_);(first|(with_reducible refine ObC.mk _ (c6) ?_)|(refine ObC.mk _ (c6) ?_)))|((with_reducible refine ObC.f 6 ?_);(first|(with_reducible refine ObC.mk _ (c6b) ?_)|(refine ObC.mk _ (c6b) ?_)))|((with_reducible refine ObC.f 7 ?_);(first|(with_reducible refine ObC.mk _ (c7) ?_)|(refine ObC.mk _ (c7) ?_)))|((with_reducible refine ObC.f 8 ?_);(first|(with_reducible refine ObC.mk _ (c8) ?_)|(refine ObC.mk _ (c8) ?_)))|((with_reducible refine ObC.f 9 ?_);(first|(with_reducible refine ObC.mk _ (c9) ?_)|(refine ObC.mk _ (c9) ?_)))|((with_reducible refine ObC.f 10 ?_);(first|(with_reducible refine ObC.mk _ (c10) ?_)|(refine ObC.mk _ (c10) ?_)))|((with_reducible refine ObO.l ?_);(with_reducible refine ObN.mk ?_ ?_);(focus (first|rfl|omega)))|((with_reducible refine ObO.r ?_);(with_reducible refine ObN.mk ?_ ?_);(focus (first|omega|(simp;done))))|((with_reducible refine ObW.nil ?_ ?_);(focus (first|rfl|assumption)))|((with_reducible refine ObW.cons ?_ ?_);(focus (first|assumption|(simp;done))))|((with_reducible refine ObJ.zz ?_))|((with_reducible refine ObJ.nz ?_ ?_);(focus exact zX))|((with_reducible refine ObJ.zn ?_ ?_);(focus exact zX))|((with_reducible refine ObJ.nn ?_ ?_ ?_);(focus exact zX);(focus exact zX))|((with_reducible refine ObJ.lz ?_ ?_);(focus exact zX))|((with_reducible refine ObJ.zl ?_ ?_);(focus exact zX))|((with_reducible refine ObJ.nl ?_ ?_ ?_);(focus exact zX);(focus exact zX))|((with_reducible refine ObJ.ln ?_ ?_ ?_);(focus exact zX);(focus exact zX))|((with_reducible refine ObJ.ll ?_ ?_ ?_);(focus exact zX);(focus exact zX))|((with_reducible refine (?_:ObG _ _ _ _));(refine ObG.nz zX _ (by first|rfl) ?_))|((with_reducible refine (?_:ObG _ _ _ _));(refine ObG.zn zX _ (by first|rfl) ?_))|((with_reducible refine (?_:ObG _ _ _ _));(refine ObG.nn zX zX _ (by first|rfl) ?_))|((with_reducible refine (?_:ObG _ _ _ _));(refine ObG.lz zX _ (by first|rfl) ?_))|((with_reducible refine (?_:ObG _ _ _ _));(refine ObG.zl zX _ (by first|rfl) ?_))|((with_reducible refine (?_:ObG _ _ _ _));(refine ObG.nl zX zX _ (by first|rfl) ?_))|((with_reducible refine (?_:ObG _ _ _ _));(refine ObG.ln zX zX _ (by first|rfl) ?_))|((with_reducible refine (?_:ObG _ _ _ _));(refine ObG.ll zX zX _ (by first|rfl) ?_))|((with_reducible refine ObQ.mk _ rfl ?_ ?_);(focus exact zX))|((with_reducible refine ObEq.i ?_);(focus (first|(with_reducible rfl)|omega)))|((with_reducible refine ObEq.mk ?_);(focus (first|rfl|assumption)))|(exact ObEnd.eq rfl rfl)|((with_reducible refine ObSt.live ?_ ?_);(focus (first|trivial|(refine ⟨rfl,?_⟩;first|omega|(exact Nat.le_refl _)))))|(with_reducible refine ObSt.stale ?_)|((with_reducible refine ObRn.mk ?_ ?_);(focus (first|rfl|(simp [rnB,rnC,rnL];done))))|((with_reducible refine ObRow.same ?_ ?_ ?_);(focus (first|rfl|assumption));(focus (first|rfl|assumption|(simp;done))))|((with_reducible refine ObRow.lit ?_ ?_);(focus (first|rfl|(simp [rnB,rnC,rnL];done))))|((with_reducible refine ObEqs.mk ?_ ?_);(focus rfl))|((with_reducible refine ObEq1.i ?_ ?_);(focus (first|(with_reducible rfl)|omega)))|((with_reducible refine ObEq1.o ?_ ?_);(focus (first|(with_reducible rfl)|omega)))|((with_reducible refine ObEq1.mk ?_ ?_);(focus (first|rfl|assumption)))|exact True.intro|(with_reducible refine ObE.min ?_)|(with_reducible refine ObE.max ?_))
end
theorem FindRuns_calls (as0 as1 as2 as3:List AV) (s0:ShC Try.prog 22 as0) (s1:ShC Try.prog 3 as1) (s2:ShC Try.prog 9 as2) (s3:ShC Try.prog 3 as3):PC Try.prog (fun _=>.unk) 3 [mkE (isAggT Try.prog 22) as0,mkE (isAggT Try.prog 3) as1,mkE (isAggT Try.prog 9) as2,mkE (isAggT Try.prog 3) as3] (Bo true):=by
  obtain ⟨h,h0,h6,h7⟩:=heap_inv s0
  obtain ⟨n,h1,h2⟩:=int_inv s1
  obtain ⟨k,h3,h4⟩:=txt_inv s2
  obtain ⟨b,h5,h8⟩:=int_inv s3
  have e1:isAggT Try.prog 22=false:=by kernel_rfl
  have e2:isAggT Try.prog 3=false:=by kernel_rfl
  have e3:isAggT Try.prog 9=false:=by kernel_rfl
  rw [e1,e2,e3,h0,h1,h3,h5]
  exact lawR _ h h6 h7 n h2 k h4 b h8
end Go.Proofs.Ytefkaglgekjlfaa.Sim
