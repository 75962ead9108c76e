/- Texts of this claim, part 8. -/
import Derived.Test.YtefkaglgekjlfaaMFindTries7
set_option linter.unusedVariables false
set_option linter.unusedSimpArgs false
namespace Go.Proofs.Ytefkaglgekjlfaa.Sim
open Go.RowKit
set_option maxRecDepth 100000
section
variable (G:Nat→AV)
end
theorem int_inv {cs:List AV} (h:ShC Try.prog 3 cs):∃ n:Int,mkE false cs=I n∧i64 n:=by
  obtain ⟨n,rfl,h1,h2⟩:=h.i64_inv (by kernel_rfl)
  exact ⟨n,rfl,h1,h2⟩
theorem txt_inv {cs:List AV} (h:ShC Try.prog 9 cs):∃ s:ByteArray,mkE false cs=S s∧s.size≤9223372036854775807:=by
  obtain ⟨s,rfl,hs⟩:=h.str_inv u_str
  exact ⟨s,rfl,hs⟩
section
variable (G:Nat→AV)
def e1N:Nd:=⟨1,⟨#[97]⟩,⟨#[49]⟩,0,[],0,[],1,0⟩
theorem e1_may:mayV e1N=0:=by
  have h1:FormP e1N.kn e1N.ke e1N.va e1N.mp e1N.kk e1N.mn e1N.ls e1N.sz e1N.bi:=⟨by decide,.inl ⟨.inl rfl,rfl,by unfold BareP;simp [e1N]⟩⟩
  unfold mayV
  rw [@decide_eq_true _ (Classical.propDecidable _) h1]
  rfl
theorem eH1:aH [e1N] [e1N].length=true:=by
  have h1:okH 0 e1N=true:=by rw [okH,e1_may];rfl
  simp [aH,List.range_succ,h1]
theorem eOk1:∀ x ∈ [e1N],x.Ok:=by
  intro x hx
  obtain rfl:=List.mem_singleton.1 hx
  exact ⟨by decide,by decide,by decide,by decide,by decide,fun p hp=>(by cases hp),⟨by decide,by decide⟩,fun r hr=>(by cases hr)⟩
theorem eR1:okR [e1N] 1=true:=by rw [okR,eH1];rfl
theorem run_e (k:ByteArray) (hk:k.size≤40):PC Try.prog G 8 [.sl 9 ([e1N].map nA),I 1,S k,I 64] (.tup [S (bdv e1N k).1,Bo (bdv e1N k).2,I 1]):=by
  obtain ⟨N,lk⟩:=lk_of G [e1N] (by decide) eOk1 eH1 (r:=1) (by decide) (by decide) k hk 64 ⟨by decide,by decide⟩
  have h1:stQ [e1N] 1 k 64 1=(0,0,bdv e1N k):=rfl
  have hN:N=1:=by
    rcases Nat.lt_trichotomy N 1 with h|h|h
    · have : N = 0 := by omega
      subst this
      have:=lk.e
      rw [lk.z] at this
      exact absurd this (by decide)
    · exact h
    · obtain ⟨j, e, _⟩ := lk.i 1 h
      rw [h1] at e
      dsimp only at e;omega
  have hc:=count13 G [e1N] (by decide) eOk1 1 true eR1.symm
  have:=run8 G [e1N] (by decide) 1 k 64 lk _ hc
  rw [hN,h1] at this
  exact this
theorem works10:PC Try.prog G 10 [] (Bo true):=by
  have a1:=run_e G ⟨#[97]⟩ (by decide)
  have a2:=run_e G ⟨#[98]⟩ (by decide)
  have e1:bdv e1N ⟨#[97]⟩=(⟨#[49]⟩,true):=by rfl
  have e2:bdv e1N ⟨#[98]⟩=(⟨#[]⟩,false):=by rfl
  rw [e1] at a1
  rw [e2] at a2
  have hl:=leaf14 G ⟨#[97]⟩ ⟨#[49]⟩
  refine pc_ofV cop10 ?_
  repeat' ((conv=>whnf);first|(with_reducible refine SeqP.go ?_)|((with_reducible refine ObD.mk ?_ ?_);exact zD)|((with_reducible refine ObN.mk ?_ ?_);exact zN)|(with_reducible first|refine ObT.tt ?_|refine ObT.ff ?_)|((with_reducible refine ObB.yes ?_ ?_);exact zB)|((with_reducible refine (?_:ObU _ _));(refine ObU.mk _ zU ?_))|((with_reducible refine ObC.f 16 ?_);(first|(with_reducible refine ObC.mk _ (hl) ?_)|(refine ObC.mk _ (hl) ?_)))|((with_reducible refine ObC.f 8 ?_);(first|(with_reducible refine ObC.mk _ (a1) ?_)|(refine ObC.mk _ (a1) ?_)))|((with_reducible refine ObC.f 8 ?_);(first|(with_reducible refine ObC.mk _ (a2) ?_)|(refine ObC.mk _ (a2) ?_)))|((with_reducible refine ObEq.mk ?_);exact zE))
end
abbrev hA (n:Nat):AV:=.ol 0 n n
abbrev hW (h:List Nd):Hp:=[⟨41,9,h.map nA,h.length,0⟩]
section
variable (G:Nat→AV)
theorem chk52 (k:ByteArray) (hk:k.size≤100000) (lv b:Int) (hl:i64 lv) (hb:i64 b):PC Try.prog G 52 [S k,I lv,I b] (I (cN b lv k:Nat)):=by
  have h1:=of41 G k b hk hb
  have h2:=ch40 G (hN k b) lv b (hN_lt k b) hl hb
  unfold cN
  refine pc_ofV eop52 ?_
  repeat' ((conv=>whnf);first|(with_reducible refine SeqP.go ?_)|((with_reducible refine ObC.f 41 ?_);(first|(with_reducible refine ObC.mk _ (h1) ?_)|(refine ObC.mk _ (h1) ?_)))|((with_reducible refine ObC.f 40 ?_);(first|(with_reducible refine ObC.mk _ (h2) ?_)|(refine ObC.mk _ (h2) ?_)))|((with_reducible refine ObEq.i ?_);exact zF))
theorem mk0 (h:List Nd) (b lv:Int):HC Try.prog G 34 [hA h.length,I b,.sl 2 [],I lv] (hW h) (.tup [hA h.length,I 0]) (hW h):=by
  have h0:([]:List AV).length=0:=rfl
  refine hc_ofV eop34 rfl ?_
  repeat' ((conv=>whnf);first|(with_reducible refine SeqP.go ?_)|((with_reducible refine ObN.mk ?_ ?_);exact zN)|(with_reducible refine ObT.tt ?_)|((with_reducible refine ObB.yes ?_ ?_);exact zB)|((with_reducible refine (?_:ObL _ _));(refine ObL.mk _ (by first|exact h0|assumption|exact (List.length_map _).trans (by assumption)|exact List.length_map _|rfl) ?_))|(exact ObEnd.eq rfl rfl))
theorem mk1 (h:List Nd) (hh:h.length≤100000) (l:List Pr) (p:Pr) (h1:l.length=1) (hp:(l.map pA)[0]? = some (.agg [S p.1,S p.2])) (b lv:Int):HC Try.prog G 34 [hA h.length,I b,.sl 2 (l.map pA),I lv] (hW h) (.tup [hA (h.length+1),I ((h.length+1:Nat):Int)]) [⟨41,9,(h++[lfN p]).map nA,h.length+1,0⟩]:=by
  have e0:¬ ((l.length:Nat):Int)=0:=by omega
  have e1:((l.length:Nat):Int)=1:=by omega
  have us:(h.map nA).take h.length++[.agg [I 1,S p.1,S p.2,.v (.int .u32 0),.sl 1 [],I 0,.sl 2 [],I 1,I 0]]=(h++[lfN p]).map nA:=n_snoc (l:=h) (x:=lfN p)
  refine hc_ofV eop34 rfl ?_
  skip
  conv=>whnf
  refine SeqP.go ?_
  repeat' ((conv=>whnf);first|((with_reducible refine ObN.mk ?_ ?_);(focus (first|rfl|assumption|omega|(simp only [List.length_map,List.length_append,List.length_cons,List.length_nil,e0];omega)|(simp [e0];done)|(simp [e0];omega))))|((with_reducible refine ObB.no ?_ ?_);exact zC)|((with_reducible refine (?_:ObL _ _));(refine ObL.mk _ zM ?_)))
  conv=>whnf
  refine SeqP.go ?_
  repeat' ((conv=>whnf);first|(with_reducible refine ObT.ff ?_))
  conv=>whnf
  refine SeqP.go ?_
  repeat' ((conv=>whnf);first|((with_reducible refine ObD.mk ?_ ?_);exact zD)|((with_reducible refine ObN.mk ?_ ?_);exact zN)|((with_reducible refine (?_:ObU _ _));(refine ObU.mk _ zU ?_))|((with_reducible refine (?_:ObR _ _ _));(first|(refine ObR.mk _ (by first|assumption|with_reducible rfl) ?_)|(refine ObR.map zX (fun x hx=>?_))|(refine ObR.mk _ rfl ?_))))
  conv=>whnf
  refine SeqP.nl [] [false,true] ?_
  repeat' ((conv=>whnf);first|(with_reducible refine SeqP.go ?_)|exact SameP.mk rfl rfl|(with_reducible first|refine ObAnd.mk ?_ ?_|refine ObDx.same ?_)|((with_reducible refine ObD.mk ?_ ?_);(focus (first|rfl|(simp [e1];done))))|((with_reducible refine ObN.mk ?_ ?_);(focus (first|rfl|assumption|omega|(simp only [List.length_map,List.length_append,List.length_cons,List.length_nil,e1];omega)|(simp [e1];done)|(simp [e1];omega))))|(with_reducible refine ObT.tt ?_)|((with_reducible refine ObB.yes ?_ ?_);exact zB)|((with_reducible refine ObX.mk _ rfl ?_ ?_);(focus (first|omega|assumption|(simp only [List.length_map,List.length_append,List.length_cons,List.length_nil,List.length_take,List.length_drop,List.length_set,List.length_replicate,e1];omega))))|((with_reducible refine (?_:ObL _ _));(refine ObL.mk _ zM ?_))|((with_reducible refine (?_:ObU _ _));(refine ObU.mk _ (by first|exact us|assumption|((conv=>lhs;simp only [List.set_cons_zero,List.set_cons_succ,List.take_succ_cons,List.take_zero,List.drop_succ_cons,List.drop_zero,List.nil_append,List.cons_append,List.append_nil,List.take_nil,List.drop_nil,e1]);try rfl)|rfl) ?_))|((with_reducible refine (?_:ObR _ _ _));(first|(refine ObR.mk _ (by assumption) ?_)|(refine ObR.mk _ (by exact hp) ?_)|(refine ObR.mk _ (by with_reducible rfl) ?_)|(refine ObR.map (by (first|omega|assumption|(simp only [List.length_map,List.length_append,List.length_cons,List.length_nil,List.length_take,List.length_drop,List.length_set,List.length_replicate,e1];omega))) (fun x hx=>?_))|(refine ObR.mk _ rfl ?_))))
  all_goals conv=>whnf
  all_goals refine ObEnd.vw [(h.length+1,0,h.length+1)] (by simp [rnB,rnT,rnA,rnC]) ?_ (by simp) ?_
  all_goals repeat' ((conv=>whnf);first|((with_reducible refine ObN.mk ?_ ?_);exact zN)|((with_reducible refine ObO.l ?_);(with_reducible refine ObN.mk ?_ ?_);(focus (first|rfl|omega)))|exact True.intro|((with_reducible refine ObRow.lit ?_ ?_);(focus (simp [rnB,rnC,rnL,AV.cells];done))))
theorem mkB (h:List Nd) (hh:h.length≤100000) (l:List Pr) (hl:l.length≤40) (h2:2≤l.length) (b lv:Int) (L:Nat) (hL:PC Try.prog G 21 [I b] (I (L:Nat))) (hb:¬ lv < (L:Int)):HC Try.prog G 34 [hA h.length,I b,.sl 2 (l.map pA),I lv] (hW h) (.tup [hA (h.length+1),I ((h.length+1:Nat):Int)]) [⟨41,9,(h++[bkN l]).map nA,h.length+1,0⟩]:=by
  have e0:¬ ((l.length:Nat):Int)=0:=by omega
  have e1:¬ ((l.length:Nat):Int)=1:=by omega
  have us:(h.map nA).take h.length++[.agg [I 3,S ⟨#[]⟩,S ⟨#[]⟩,.v (.int .u32 0),.sl 1 [],I 0,.sl 2 (l.map pA),I (l.length:Nat),I 0]]=(h++[bkN l]).map nA:=n_snoc (l:=h) (x:=bkN l)
  refine hc_ofV eop34 rfl ?_
  skip
  conv=>whnf
  refine SeqP.go ?_
  repeat' ((conv=>whnf);first|((with_reducible refine ObN.mk ?_ ?_);(focus (first|rfl|assumption|omega|(simp only [List.length_map,List.length_append,List.length_cons,List.length_nil,e0];omega)|(simp [e0];done)|(simp [e0];omega))))|((with_reducible refine ObB.no ?_ ?_);exact zC)|((with_reducible refine (?_:ObL _ _));(refine ObL.mk _ zM ?_)))
  conv=>whnf
  refine SeqP.go ?_
  repeat' ((conv=>whnf);first|(with_reducible refine ObT.ff ?_))
  conv=>whnf
  refine SeqP.go ?_
  repeat' ((conv=>whnf);first|((with_reducible refine ObD.mk ?_ ?_);(focus (first|rfl|(simp [e1];done))))|((with_reducible refine ObN.mk ?_ ?_);(focus (first|rfl|assumption|omega|(simp only [List.length_map,List.length_append,List.length_cons,List.length_nil,e1];omega)|(simp [e1];done)|(simp [e1];omega))))|((with_reducible refine (?_:ObU _ _));(refine ObU.mk _ (by first|assumption|((conv=>lhs;simp only [List.set_cons_zero,List.set_cons_succ,List.take_succ_cons,List.take_zero,List.drop_succ_cons,List.drop_zero,List.nil_append,List.cons_append,List.append_nil,List.take_nil,List.drop_nil,e1]);try rfl)|rfl) ?_))|((with_reducible refine (?_:ObR _ _ _));(first|(refine ObR.mk _ (by first|assumption|with_reducible rfl) ?_)|(refine ObR.map (by (first|omega|assumption|(simp only [List.length_map,List.length_append,List.length_cons,List.length_nil,List.length_take,List.length_drop,List.length_set,List.length_replicate,e1];omega))) (fun x hx=>?_))|(refine ObR.mk _ rfl ?_))))
  conv=>whnf
  refine SeqP.go ?_
  repeat' ((conv=>whnf);first|((with_reducible refine ObN.mk ?_ ?_);(focus (first|rfl|assumption|omega|(simp only [List.length_map,List.length_append,List.length_cons,List.length_nil,e1];omega)|(simp [e1];done)|(simp [e1];omega))))|((with_reducible refine ObB.no ?_ ?_);exact zC)|((with_reducible refine (?_:ObL _ _));(refine ObL.mk _ zM ?_)))
  conv=>whnf
  refine SeqP.go ?_
  repeat' ((conv=>whnf);first|((with_reducible refine ObN.mk ?_ ?_);exact zN)|(with_reducible refine ObT.ff ?_)|((with_reducible refine ObB.yes ?_ ?_);exact zB)|((with_reducible refine ObC.f 21 ?_);(first|(with_reducible refine ObC.mk _ (hL) ?_)|(refine ObC.mk _ (hL) ?_))))
  conv=>whnf
  refine SeqP.go ?_
  repeat' ((conv=>whnf);first|((with_reducible refine ObD.mk ?_ ?_);exact zD)|((with_reducible refine ObN.mk ?_ ?_);exact zN)|(with_reducible refine ObT.tt ?_)|((with_reducible refine (?_:ObL _ _));(refine ObL.mk _ zM ?_))|((with_reducible refine (?_:ObU _ _));(refine ObU.mk _ zU ?_))|((with_reducible refine (?_:ObR _ _ _));(first|(refine ObR.mk _ (by first|assumption|with_reducible rfl) ?_)|(refine ObR.map zX (fun x hx=>?_))|(refine ObR.mk _ rfl ?_))))
  conv=>whnf
  refine SeqP.nl [] [false,true] ?_
  repeat' ((conv=>whnf);first|(with_reducible refine SeqP.go ?_)|((with_reducible refine ObD.mk ?_ ?_);exact zD)|((with_reducible refine ObN.mk ?_ ?_);exact zN)|((with_reducible refine (?_:ObL _ _));(refine ObL.mk _ zM ?_))|((with_reducible refine (?_:ObU _ _));(refine ObU.mk _ (by first|exact us|assumption|((conv=>lhs;simp only [List.set_cons_zero,List.set_cons_succ,List.take_succ_cons,List.take_zero,List.drop_succ_cons,List.drop_zero,List.nil_append,List.cons_append,List.append_nil,List.take_nil,List.drop_nil]);try rfl)|rfl) ?_))|((with_reducible refine (?_:ObR _ _ _));(first|(refine ObR.mk _ (by first|assumption|with_reducible rfl) ?_)|(refine ObR.map zX (fun x hx=>?_))|(refine ObR.mk _ rfl ?_))))
  all_goals conv=>whnf
  all_goals refine ObEnd.vw [(h.length+1,0,h.length+1)] (by simp [rnB,rnT,rnA,rnC]) ?_ (by simp) ?_
  all_goals repeat' ((conv=>whnf);first|((with_reducible refine ObN.mk ?_ ?_);exact zN)|((with_reducible refine ObO.l ?_);(with_reducible refine ObN.mk ?_ ?_);(focus (first|rfl|omega)))|exact True.intro|((with_reducible refine ObRow.lit ?_ ?_);(focus (simp [rnB,rnC,rnL,AV.cells];done))))
end
section
variable (G:Nat→AV)
theorem long18 (l m:List Pr) (hm:m.length≤1000000) (h33:PC Try.prog G 33 [.sl 2 (l.map pA)] (.sl 2 (m.map pA))) (c:Bool) (hc:c=m.any lg):PC Try.prog G 18 [.sl 2 (l.map pA)] (Bo c):=by
  refine pc_ofV eop18 ?_
  repeat' ((conv=>whnf);first|(with_reducible refine SeqP.go ?_)|((with_reducible refine ObC.f 33 ?_);(first|(with_reducible refine ObC.mk _ (h33) ?_)|(refine ObC.mk _ (h33) ?_))))
  conv=>whnf
  refine LoopP.go (α:=Nat) (fun i=>i≤m.length∧(m.take i).any lg=false) (fun i=>m.length - i) (fun i=>[(2,none),(1,some (I i)),(2,none),(0,none),(0,none),(0,none),(0,none),(0,none),(0,none),(0,none),(0,none),(0,none),(0,none),(0,none),(0,none),(0,none),(0,none),(0,none),(0,none),(0,none),(0,none),(0,none),(0,none),(0,none)]) (fun _=>[]) 0 ⟨Nat.zero_le _,rfl⟩ (Fg.go ?_ rfl) ?_
  · repeat' ((conv=>whnf);first|((with_reducible refine ObEqs.mk ?_ ?_);rfl)|((with_reducible refine ObEq1.i ?_ ?_);exact zF)|exact True.intro)
  rintro i ⟨hi,ha⟩
  by_cases hlt:i < m.length
  · have hat := Pr7.pA_at hlt
    have hs:(m.take (i+1)).any lg=((m.take i).any lg || lg m[i]):=by
      rw [List.take_succ_eq_append_getElem hlt,List.any_append];simp
    by_cases hg:lg m[i]=true
    · have hc2 : c = true := by
        rw [hc,List.any_eq_true];exact ⟨m[i],List.getElem_mem hlt,hg⟩
      subst hc2
      unfold lg at hg
      simp only [Bool.or_eq_true,decide_eq_true_eq] at hg
      by_cases g1:16 < (m[i]).1.size
      · repeat' ((conv=>whnf);first|(with_reducible refine SeqP.go ?_)|((with_reducible refine ObN.mk ?_ ?_);exact zN)|(with_reducible refine ObT.tt ?_)|((with_reducible refine ObB.yes ?_ ?_);exact zB)|((with_reducible refine ObX.mk _ rfl ?_ ?_);exact zX)|((with_reducible refine (?_:ObL _ _));(refine ObL.mk _ zM ?_))|((with_reducible refine (?_:ObR _ _ _));(first|(refine ObR.mk _ (by assumption) ?_)|(refine ObR.mk _ (by exact hat) ?_)|(refine ObR.mk _ (by with_reducible rfl) ?_)|(refine ObR.map zX (fun x hx=>?_))|(refine ObR.mk _ rfl ?_)))|((with_reducible refine ObEq.mk ?_);exact zE))
      · have g2 : 16 < (m[i]).2.size := hg.resolve_left g1
        repeat' ((conv=>whnf);first|(with_reducible refine SeqP.go ?_)|((with_reducible refine ObN.mk ?_ ?_);exact zN)|(with_reducible first|refine ObT.tt ?_|refine ObT.ff ?_)|((with_reducible refine ObB.yes ?_ ?_);exact zB)|((with_reducible refine ObB.no ?_ ?_);exact zC)|((with_reducible refine ObX.mk _ rfl ?_ ?_);exact zX)|((with_reducible refine (?_:ObL _ _));(refine ObL.mk _ zM ?_))|((with_reducible refine (?_:ObR _ _ _));(first|(refine ObR.mk _ (by assumption) ?_)|(refine ObR.mk _ (by exact hat) ?_)|(refine ObR.mk _ (by with_reducible rfl) ?_)|(refine ObR.map zX (fun x hx=>?_))|(refine ObR.mk _ rfl ?_)))|((with_reducible refine ObEq.mk ?_);exact zE))
    · have hg2 : ¬ 16 < (m[i]).1.size ∧ ¬ 16 < (m[i]).2.size := by
        unfold lg at hg
        simp only [Bool.or_eq_true,decide_eq_true_eq,not_or] at hg
        exact hg
      obtain ⟨g1,g2⟩:=hg2
      repeat' ((conv=>whnf);first|(with_reducible refine SeqP.go ?_)|((with_reducible refine ObN.mk ?_ ?_);exact zN)|(with_reducible first|refine ObT.tt ?_|refine ObT.ff ?_)|((with_reducible refine ObB.yes ?_ ?_);exact zB)|((with_reducible refine ObB.no ?_ ?_);exact zC)|((with_reducible refine ObI.nl ?_ ?_);omega)|((with_reducible refine ObX.mk _ rfl ?_ ?_);exact zX)|((with_reducible refine (?_:ObL _ _));(refine ObL.mk _ zM ?_))|((with_reducible refine (?_:ObR _ _ _));(first|(refine ObR.mk _ (by assumption) ?_)|(refine ObR.mk _ (by exact hat) ?_)|(refine ObR.mk _ (by with_reducible rfl) ?_)|(refine ObR.map zX (fun x hx=>?_))|(refine ObR.mk _ rfl ?_))))
      conv=>whnf
      refine Again.mk (i+1) ⟨by omega,by rw [hs,ha];simpa using hg⟩ ?_ (Fg.go ?_ rfl)
      · omega
      repeat' ((conv=>whnf);first|((with_reducible refine ObEqs.mk ?_ ?_);rfl)|((with_reducible refine ObEq1.i ?_ ?_);exact zF)|exact True.intro)
  · obtain rfl : i = m.length := by omega
    rw [List.take_length] at ha
    rw [ha] at hc
    subst hc
    repeat' ((conv=>whnf);first|(with_reducible refine SeqP.go ?_)|((with_reducible refine ObN.mk ?_ ?_);exact zN)|(with_reducible refine ObT.ff ?_)|((with_reducible refine ObB.no ?_ ?_);exact zC)|((with_reducible refine (?_:ObL _ _));(refine ObL.mk _ zM ?_))|((with_reducible refine ObEq.mk ?_);exact zE))
end
section
variable (G:Nat→AV)
theorem rmk19 (l m:List Pr) (b:Int) (H:List Nd) (r:Int) (h33:PC Try.prog G 33 [.sl 2 (l.map pA)] (.sl 2 (m.map pA))) (h34:HC Try.prog G 34 [.ol 0 0 0,I b,.sl 2 (m.map pA),I 0] [⟨41,9,[],0,0⟩] (.tup [hA H.length,I r]) (hW H)):PC Try.prog G 19 [I b,.sl 2 (l.map pA)] (.tup [.sl 9 (H.map nA),I r]):=by
  have oa:=n_all (l:=H)
  have op:=p_n H
  have r0:=nr_n H
  refine pc_ofV eop19 ?_
  repeat' ((conv=>whnf);first|(with_reducible refine SeqP.go ?_)|((with_reducible refine ObD.mk ?_ ?_);exact zD)|((with_reducible refine ObN.mk ?_ ?_);exact zN)|((with_reducible refine (?_:ObU _ _));(refine ObU.mk _ (by first|exact oa|assumption|((conv=>lhs;simp only [List.set_cons_zero,List.set_cons_succ,List.take_succ_cons,List.take_zero,List.drop_succ_cons,List.drop_zero,List.nil_append,List.cons_append,List.append_nil,List.take_nil,List.drop_nil]);try rfl)|rfl) ?_))|((with_reducible refine ObC.f 33 ?_);(first|(with_reducible refine ObC.mk _ (h33) ?_)|(refine ObC.mk _ (h33) ?_)))|((with_reducible refine ObH.f 34 ?_);(first|(with_reducible refine ObH.mk _ _ (h34) ?_)|(refine ObH.mk _ _ (h34) ?_)))|((with_reducible refine ObEq.mk ?_);exact zE))
end
section
variable (G:Nat→AV)
end
def lvN (b:Int):Nat:=(Hash.cl b+4) / 5
theorem lvN_le {b:Int}:lvN b≤13:=by have:=Hash.cl_le b;unfold lvN;omega
theorem lk_n {G:Nat→AV} {h:List Nd} {r:Int} {k:ByteArray} {b:Int} {N:Nat} (lk:LK G h r k b (stQ h r k b) N) {f:Nat} {l:List Pr} (hL:Lk h k b r 0 f l):N≤f+1∧(stQ h r k b N).2.2=((Pr7.val l k).getD ⟨#[]⟩,(Pr7.val l k).isSome):=by
  obtain ⟨n,n1,n2,n3,n4⟩:=hL
  have e:N=n:=by
    rcases Nat.lt_trichotomy N n with h|h|h
    · have := n2 N h
      rw [← st_it] at this
      exact absurd lk.e this
    · exact h
    · obtain ⟨j, e, _⟩ := lk.i n h
      rw [← st_it] at n3
      rw [n3] at e;omega
  subst e
  rw [← st_it] at n4
  exact ⟨n1,n4⟩
theorem tl_mk {l:List Pr} (hl:l.length≤40) (h:(Pr7.mk l).any lg=false):Tl (Pr7.mk l) :=
  ⟨Pr7.mk_lt l,Nat.le_trans (Pr7.mk_len l) hl,fun p hp=>by
    have:=List.any_eq_false.1 h p hp
    unfold lg at this
    simp only [Bool.or_eq_true,decide_eq_true_eq,not_or] at this
    omega⟩
section
variable (G:Nat→AV)
theorem lev21 (b:Int) (hb:i64 b):PC Try.prog G 21 [I b] (I (lvN b:Nat)) :=
  pc_calls (ys:=[.int .i64 b]) rfl rfl fun w=>(Hash.RefLevels_calls b w hb).mono fun e w' h=>h.fresh
set_option maxHeartbeats 4000000 in
theorem law5 (l0 : List Pr) (hl0 : l0.length ≤ 9223372036854775807) (hs0 : ∀ p ∈ l0, p.1.size ≤ 9223372036854775807 ∧ p.2.size ≤ 9223372036854775807) (k0 : ByteArray) (hk0 : k0.size ≤ 9223372036854775807) (b : Int) (hb : i64 b)
    (h33:∀ l,Pr7.Okl l→PC Try.prog G 33 [.sl 2 (l.map pA)] (.sl 2 ((Pr7.mk l).map pA)))
    (h34:∀ m,Tl m→HC Try.prog G 34 [.ol 0 0 0,I b,.sl 2 (m.map pA),I 0] [⟨41,9,[],0,0⟩] (.tup [hA (mkT b (lvN b) 0 m []).1.length,I (mkT b (lvN b) 0 m []).2]) (hW (mkT b (lvN b) 0 m []).1)):PC Try.prog G 5 [I b,.sl 2 (l0.map pA),S k0] (Bo true):=by
  have c17:PC Try.prog G 17 [.sl 2 (l0.map pA)] (.sl 2 ((few l0).map pA)):=few07 G l0 hl0 hs0
  have hl:=few_len l0
  have hs:=few_sizes (l:=l0)
  generalize few l0=l at *
  have c7:PC Try.prog G 7 [S k0,I 40] (S (cutB k0 40)):=cutP G k0 40 hk0
  have hk:=cutB_size k0
  generalize cutB k0 40=k at *
  have hok:Pr7.Okl l:=⟨by omega,fun p hp=>by have:=hs p hp;omega⟩
  have c33:=h33 l hok
  have hml:=Pr7.mk_len l
  have c10:=works10 G
  have c20:=Pr7.get10 G l hok k
  have c21:=lev21 G b hb
  obtain ⟨c,hc⟩:∃ c,c=(Pr7.mk l).any lg:=⟨_,rfl⟩
  have c18:=long18 G l (Pr7.mk l) (by omega) c33 c hc
  cases c
  · have ht := tl_mk hl hc.symm
    have c34:=h34 _ ht
    obtain ⟨h,r,e,hlen,hx,hh,q0,q1,hL⟩:=trie_all (b:=b) (f:=lvN b) lvN_le ht
    rw [← e] at c34
    dsimp only at c34
    have c19:=rmk19 G l (Pr7.mk l) b h r c33 c34
    obtain ⟨N,lk⟩:=lk_of G h (by omega) hx hh q0 q1 k hk b hb
    obtain ⟨n1,n2⟩:=lk_n lk (hL k)
    rw [Pr7.mk_val] at n2
    have hcc:true=okR h r:=by rw [okR,hh,decide_eq_true q0,decide_eq_true q1];rfl
    have c24:=count13 G h (by omega) hx r true hcc
    simp only [eo] at c24
    have c8:=run8 G h (by omega) r k b lk _ c24
    rw [n2] at c8
    dsimp only at c8
    clear hc hh hL lk n2 c34 c24 hcc
    have en:(N:Int)≤(lvN b:Nat)+1:=by omega
    have hL13:=lvN_le (b:=b)
    generalize lvN b=L at *
    refine pc_ofV eop5 ?_
    repeat' ((conv=>whnf);first|(with_reducible refine SeqP.go ?_)|((with_reducible refine ObN.mk ?_ ?_);(focus (first|rfl|assumption|omega|(simp only [List.length_map,List.length_append,List.length_cons,List.length_nil,en];omega)|(simp [en];done)|(simp [en];omega))))|(with_reducible first|refine ObT.tt ?_|refine ObT.ff ?_)|((with_reducible refine ObT.yes ?_ ?_);assumption)|((with_reducible refine ObT.no ?_ ?_);assumption)|(with_reducible refine ObT.mk (fun h=>?_) (fun h=>?_))|((with_reducible refine ObB.yes ?_ ?_);exact zB)|((with_reducible refine ObI.nl ?_ ?_);omega)|((with_reducible refine ObC.f 17 ?_);(first|(with_reducible refine ObC.mk _ (c17) ?_)|(refine ObC.mk _ (c17) ?_)))|((with_reducible refine ObC.f 7 ?_);(first|(with_reducible refine ObC.mk _ (c7) ?_)|(refine ObC.mk _ (c7) ?_)))|((with_reducible refine ObC.f 18 ?_);(first|(with_reducible refine ObC.mk _ (c18) ?_)|(refine ObC.mk _ (c18) ?_)))|((with_reducible refine ObC.f 10 ?_);(first|(with_reducible refine ObC.mk _ (c10) ?_)|(refine ObC.mk _ (c10) ?_)))|((with_reducible refine ObC.f 19 ?_);(first|(with_reducible refine ObC.mk _ (c19) ?_)|(refine ObC.mk _ (c19) ?_)))|((with_reducible refine ObC.f 8 ?_);(first|(with_reducible refine ObC.mk _ (c8) ?_)|(refine ObC.mk _ (c8) ?_)))|((with_reducible refine ObC.f 20 ?_);(first|(with_reducible refine ObC.mk _ (c20) ?_)|(refine ObC.mk _ (c20) ?_)))|((with_reducible refine ObC.f 21 ?_);(first|(with_reducible refine ObC.mk _ (c21) ?_)|(refine ObC.mk _ (c21) ?_)))|((with_reducible refine ObEq.mk ?_);exact zE))
  · refine pc_ofV eop5 ?_
    repeat' ((conv=>whnf);first|(with_reducible first|refine SeqP.go ?_|refine ObT.tt ?_|refine ObT.ff ?_)|((with_reducible refine ObC.f 17 ?_);(first|(with_reducible refine ObC.mk _ (c17) ?_)|(refine ObC.mk _ (c17) ?_)))|((with_reducible refine ObC.f 7 ?_);(first|(with_reducible refine ObC.mk _ (c7) ?_)|(refine ObC.mk _ (c7) ?_)))|((with_reducible refine ObC.f 18 ?_);(first|(with_reducible refine ObC.mk _ (c18) ?_)|(refine ObC.mk _ (c18) ?_)))|((with_reducible refine ObC.f 10 ?_);(first|(with_reducible refine ObC.mk _ (c10) ?_)|(refine ObC.mk _ (c10) ?_)))|((with_reducible refine ObEq.mk ?_);exact zE))
end
section
variable {rec:List Pr→List Nd→List Nd × Int} {g:Nat→List Pr} {h:List Nd}
theorem kT_no {i:Nat} (e:g i=[]):kT rec g h (i+1)=kT rec g h i:=by rw [kT,if_pos e]
theorem kT_yes {i:Nat} (e:g i ≠ []):kT rec g h (i+1)=((rec (g i) (kT rec g h i).1).1,(kT rec g h i).2.1++[(rec (g i) (kT rec g h i).1).2],(kT rec g h i).2.2+2 ^ i):=by rw [kT,if_neg e]
theorem kT_m (n:Nat):(kT rec g h n).2.2 < 2 ^ n∧(kT rec g h n).2.1.length≤n:=by
  induction n with
  | zero=>simp [kT]
  | succ n ih =>
    rw [Nat.pow_succ]
    by_cases e:g n=[]
    · rw [kT_no e];omega
    · rw [kT_yes e];simp;omega
end
theorem grp_yes {b lv:Int} {l:List Pr} {i k:Nat} (h:k < l.length) (e:cN b lv l[k].1=i):grp b lv (l.take (k+1)) i=grp b lv (l.take k) i++[l[k]]:=by
  unfold grp
  rw [List.take_succ_eq_append_getElem h,List.filter_append];simp [e]
theorem grp_no {b lv:Int} {l:List Pr} {i k:Nat} (h:k < l.length) (e:¬ cN b lv l[k].1=i):grp b lv (l.take (k+1)) i=grp b lv (l.take k) i:=by
  unfold grp
  rw [List.take_succ_eq_append_getElem h,List.filter_append];simp [e]
theorem grp_len {b lv:Int} {l:List Pr} {i:Nat}:(grp b lv l i).length≤l.length:=List.length_filter_le _ _
theorem grp_mem {b lv:Int} {l:List Pr} {i:Nat} {p:Pr} (h:p ∈ grp b lv l i):p ∈ l:=(List.mem_filter.1 h).1
theorem kT_bd {b lv:Int} {f:Nat} {l:List Pr} {h:List Nd} (i:Nat):(kT (mkT b f (lv+1)) (grp b lv l) h i).1.length+(grp b lv l i).length * (f+1)≤h.length+l.length * (f+1):=by
  have h1:=kT_len (rec:=mkT b f (lv+1)) (c:=f+1) (fun l h=>mkT_len l h) (grp b lv l) h i
  have h2:=cnt_split l (fun p=>cN b lv p.1) (i+1)
  rw [List.range_succ,List.map_append,List.sum_append] at h2
  have h3:=List.length_filter_le (fun p:Pr=>decide (cN b lv p.1 < i+1)) l
  have h4:((List.range i).map fun i=>(grp b lv l i).length).sum+(grp b lv l i).length≤l.length:=by
    refine Nat.le_trans (Nat.le_of_eq ?_) h3
    rw [← h2];simp [grp]
  have h5:=Nat.mul_le_mul_right (f+1) h4
  rw [Nat.add_mul] at h5;omega
theorem nr_nJ (l:List Nd):(l.map nA).all nrB=true:=by simp [nrB,AV.cells]
theorem p_snocJ {l:List Pr} {x:Pr}:(l.map pA).take l.length++[.agg [S x.1,S x.2]]=(l++[x]).map pA:=by
  rw [List.take_of_length_le (by simp)];simp [pA]
theorem p_allJ {l:List Pr}:(l.map pA).take l.length=l.map pA:=List.take_of_length_le (by simp)
theorem p_pJ (l:List Pr):(l.map pA).all AV.isP=true:=by simp [pA,AV.isP,AV.isC,AV.isC0]
def onN (i:Nat):Int:=((2 ^ i:Nat):Int) % 4294967296
theorem onN_lt {i:Nat} (h:i < 32):onN i=((2 ^ i:Nat):Int):=by
  have:=Nat.pow_le_pow_right (n:=2) (by omega) (show i≤31 by omega)
  have h2:((2 ^ i:Nat):Int)≤2147483648:=Int.ofNat_le.2 this
  have h3:(0:Int)≤((2 ^ i:Nat):Int):=Int.natCast_nonneg _
  unfold onN;generalize ((2 ^ i:Nat):Int)=a at *;omega
theorem onN_s (i:Nat):onN (i+1)=(2 * onN i) % 4294967296:=by
  unfold onN;rw [Nat.pow_succ];omega
abbrev bN (m:Nat) (K:AV) (n:Nat):AV:=.agg [I 2,S ⟨#[]⟩,S ⟨#[]⟩,.v (.int .u32 (m:Int)),K,I 0,.nl 2,I (n:Nat),I 0]
section
variable (G:Nat→AV)
set_option maxHeartbeats 8000000 in
theorem mkR (f : Nat) (b lv : Int) (l : List Pr) (hl : l.length ≤ 40) (h2 : 2 ≤ l.length) (hk : ∀ p ∈ l, p.1.size ≤ 100000) (h : List Nd) (hh : h.length + l.length * (f + 2) ≤ 100000) (hlv : 0 ≤ lv ∧ lv ≤ 1000) (L : Nat) (hL : PC Try.prog G 21 [I b] (I (L : Nat))) (hb : lv < (L : Int)) (c52 : ∀ k : ByteArray, k.size ≤ 100000 → PC Try.prog G 52 [S k, I lv, I b] (I (cN b lv k : Nat)))
    (IH:∀ (m:List Pr) (h:List Nd),m.length≤40→(∀ p ∈ m,p.1.size≤100000)→h.length+m.length * (f+1)≤100000→HC Try.prog G 34 [hA h.length,I b,.sl 2 (m.map pA),I (lv+1)] (hW h) (.tup [hA (mkT b f (lv+1) m h).1.length,I (mkT b f (lv+1) m h).2]) (hW (mkT b f (lv+1) m h).1)) :
    HC Try.prog G 34 [hA h.length,I b,.sl 2 (l.map pA),I lv] (hW h) (.tup [hA (mkT b (f+1) lv l h).1.length,I (mkT b (f+1) lv l h).2]) (hW (mkT b (f+1) lv l h).1):=by
  have e0:¬ ((l.length:Nat):Int)=0:=by omega
  have e1:¬ ((l.length:Nat):Int)=1:=by omega
  have eT:mkT b (f+1) lv l h=((kT (mkT b f (lv+1)) (grp b lv l) h 32).1++[brN (kT (mkT b f (lv+1)) (grp b lv l) h 32).2.2 (kT (mkT b f (lv+1)) (grp b lv l) h 32).2.1 l.length],((kT (mkT b f (lv+1)) (grp b lv l) h 32).1.length:Int)+1):=by
    rw [mkT,if_neg (by omega),if_neg (by omega)]
  rw [eT]
  clear eT
  have hbd:=fun i=>kT_bd (b:=b) (lv:=lv) (f:=f) (l:=l) (h:=h) i
  have hkm:=fun i=>kT_m (rec:=mkT b f (lv+1)) (g:=grp b lv l) (h:=h) i
  have hgl:=fun i=>grp_len (b:=b) (lv:=lv) (l:=l) (i:=i)
  have hgm:=fun i (p:Pr) (hp:p ∈ grp b lv l i)=>hk p (grp_mem hp)
  have hyes:=fun i=>kT_yes (rec:=mkT b f (lv+1)) (g:=grp b lv l) (h:=h) (i:=i)
  have hno:=fun i=>kT_no (rec:=mkT b f (lv+1)) (g:=grp b lv l) (h:=h) (i:=i)
  have h0:kT (mkT b f (lv+1)) (grp b lv l) h 0=(h,[],0):=rfl
  have hh':h.length+l.length * (f+1)+l.length≤100000:=by rw [Nat.mul_succ] at hh;omega
  clear hh
  generalize hT:kT (mkT b f (lv+1)) (grp b lv l) h=T at *
  clear hT
  refine hc_ofV eop34 rfl ?_
  skip
  conv=>whnf
  refine SeqP.go ?_
  repeat' ((conv=>whnf);first|((with_reducible refine ObN.mk ?_ ?_);(focus (first|rfl|assumption|omega|(simp only [List.length_map,List.length_append,List.length_cons,List.length_nil,e0];omega)|(simp [e0];done)|(simp [e0];omega))))|((with_reducible refine ObB.no ?_ ?_);exact zC)|((with_reducible refine (?_:ObL _ _));(refine ObL.mk _ zM ?_)))
  conv=>whnf
  refine SeqP.go ?_
  repeat' ((conv=>whnf);first|(with_reducible refine ObT.ff ?_))
  conv=>whnf
  refine SeqP.go ?_
  repeat' ((conv=>whnf);first|((with_reducible refine ObD.mk ?_ ?_);(focus (first|rfl|(simp [e1];done))))|((with_reducible refine ObN.mk ?_ ?_);(focus (first|rfl|assumption|omega|(simp only [List.length_map,List.length_append,List.length_cons,List.length_nil,e1];omega)|(simp [e1];done)|(simp [e1];omega))))|((with_reducible refine (?_:ObU _ _));(refine ObU.mk _ (by first|assumption|((conv=>lhs;simp only [List.set_cons_zero,List.set_cons_succ,List.take_succ_cons,List.take_zero,List.drop_succ_cons,List.drop_zero,List.nil_append,List.cons_append,List.append_nil,List.take_nil,List.drop_nil,e1]);try rfl)|rfl) ?_))|((with_reducible refine (?_:ObR _ _ _));(first|(refine ObR.mk _ (by first|assumption|with_reducible rfl) ?_)|(refine ObR.map (by (first|omega|assumption|(simp only [List.length_map,List.length_append,List.length_cons,List.length_nil,List.length_take,List.length_drop,List.length_set,List.length_replicate,e1];omega))) (fun x hx=>?_))|(refine ObR.mk _ rfl ?_))))
  conv=>whnf
  refine SeqP.go ?_
  repeat' ((conv=>whnf);first|((with_reducible refine ObN.mk ?_ ?_);(focus (first|rfl|assumption|omega|(simp only [List.length_map,List.length_append,List.length_cons,List.length_nil,e1];omega)|(simp [e1];done)|(simp [e1];omega))))|((with_reducible refine ObB.no ?_ ?_);exact zC)|((with_reducible refine (?_:ObL _ _));(refine ObL.mk _ zM ?_)))
  conv=>whnf
  refine SeqP.go ?_
  repeat' ((conv=>whnf);first|((with_reducible refine ObN.mk ?_ ?_);exact zN)|(with_reducible refine ObT.ff ?_)|((with_reducible refine ObB.no ?_ ?_);exact zC)|((with_reducible refine ObC.f 21 ?_);(first|(with_reducible refine ObC.mk _ (hL) ?_)|(refine ObC.mk _ (hL) ?_))))
  conv=>whnf
  refine SeqP.go ?_
  repeat' ((conv=>whnf);first|((with_reducible refine ObD.mk ?_ ?_);exact zD)|((with_reducible refine ObN.mk ?_ ?_);exact zN)|(with_reducible refine ObT.ff ?_)|((with_reducible refine (?_:ObL _ _));(refine ObL.mk _ zM ?_))|((with_reducible refine (?_:ObU _ _));(refine ObU.mk _ zU ?_))|((with_reducible refine (?_:ObR _ _ _));(first|(refine ObR.mk _ (by first|assumption|with_reducible rfl) ?_)|(refine ObR.map zX (fun x hx=>?_))|(refine ObR.mk _ rfl ?_))))
  conv=>whnf
  refine SeqP.go ?_
  skip
  conv=>whnf
  refine SeqP.go ?_
  repeat' ((conv=>whnf);first|(with_reducible refine SeqP.go ?_))
  conv=>whnf
  refine LoopP.go (α:=Nat × List Nd × List Int × Nat) (fun p=>p.1≤32∧T p.1=p.2) (fun p=>32 - p.1) (fun p=>[(0,some (hA p.2.1.length)),(10,some (.v (.int .u32 (onN p.1)))),(0,some (I p.1)),(0,none),(0,none),(0,none),(0,none),(29,none),(0,none),(0,none),(0,none),(0,none),(0,none),(0,none),(0,none),(0,none),(0,none),(0,none),(0,none),(0,none),(0,none),(0,none),(0,none),(0,none),(0,none),(0,none),(0,none),(0,none),(0,none),(0,none),(0,none),(0,none),(0,none),(0,none),(0,none),(0,none),(0,none),(0,none),(0,none),(0,none),(0,none),(0,none),(0,none),(0,none),(0,none),(0,none),(0,none),(0,none),(0,none),(0,none),(0,none),(0,none),(0,none),(0,none),(0,none),(0,none),(0,none),(0,none),(0,none),(0,none),(0,none)]) (fun p=>[⟨41,9,p.2.1.map nA,p.2.1.length,0⟩,⟨41,9,[bN p.2.2.2 (rS 2 p.2.2.1) l.length],0,0⟩]++rH p.2.2.1) (0,h,[],0) ⟨Nat.zero_le _,h0⟩ (Fg.go ?_ rfl) ?_
  · repeat' ((conv=>whnf);first|((with_reducible refine ObEqs.mk ?_ ?_);rfl)|((with_reducible refine ObEq1.i ?_ ?_);exact zF)|((with_reducible refine ObEq1.o ?_ ?_);exact zF)|((with_reducible refine ObEq1.mk ?_ ?_);exact zE)|exact True.intro)
  rintro ⟨i,hs,ks,m⟩ ⟨hi,hTi⟩
  dsimp only at hi hTi ⊢
  have bd:=hbd i
  have km:=hkm i
  have gl:=hgl i
  have gm:=hgm i
  have y:=hyes i
  have n:=hno i
  rw [hTi] at bd km y n
  dsimp only at bd km y n
  by_cases hi32:i < 32
  · have hpow : 2 ^ i ≤ 2147483648 := by
      have:=Nat.pow_le_pow_right (n:=2) (by omega) (show i≤31 by omega)
      omega
    have hm:m+2 ^ i < 4294967296:=by omega
    have on:onN i=((2 ^ i:Nat):Int):=onN_lt hi32
    generalize 2 ^ i=w at *
    have em:IntKind.u32.wrap ((m:Int)+onN i)=(m:Int)+(w:Int):=by rw [on];show ((m:Int)+(w:Int)) % 4294967296=_;omega
    have on3:IntKind.u32.wrap (2 * onN i)=onN (i+1):=by rw [onN_s i];rfl
    rcases ks with _|⟨k0,kt⟩
    ·
      repeat' ((conv=>whnf);first|(with_reducible refine SeqP.go ?_)|((with_reducible refine ObD.mk ?_ ?_);exact zD)|((with_reducible refine ObN.mk ?_ ?_);exact zN)|(with_reducible refine ObT.tt ?_)|((with_reducible refine ObB.yes ?_ ?_);exact zB))
      conv=>whnf
      refine LoopP.go (α:=Nat × List Pr) (fun p=>p.1≤l.length∧p.2=grp b lv (l.take p.1) i) (fun p=>l.length - p.1) (fun p=>[(13,some (.ol 2 0 p.2.length)),(0,some (I p.1)),(35,none),(0,none),(0,none),(0,none),(0,none),(0,none),(0,none),(0,none),(0,none),(0,none),(0,none),(0,none),(0,none),(0,none),(0,none),(0,none),(0,none),(0,none),(0,none),(0,none),(0,none),(0,none),(0,none),(0,none)]) (fun p=>[⟨41,9,hs.map nA,hs.length,0⟩,⟨41,9,[bN m (.nl 1) l.length],0,0⟩,⟨67,2,p.2.map pA,0,0⟩]) (0,[]) ⟨Nat.zero_le _,by simp [grp]⟩ (Fg.go ?_ rfl) ?_
      · repeat' ((conv=>whnf);first|((with_reducible refine ObEqs.mk ?_ ?_);rfl)|((with_reducible refine ObEq1.i ?_ ?_);exact zF)|((with_reducible refine ObEq1.mk ?_ ?_);exact zE)|exact True.intro)
      rintro ⟨k,so⟩ ⟨hk1,hso⟩
      dsimp only at hk1 hso ⊢
      have rp:=nr_p so
      have rh:=nr_nJ hs
      have sol:so.length≤l.length:=by rw [hso];exact Nat.le_trans grp_len (by rw [List.length_take];omega)
      by_cases hkl:k < l.length
      · have q := pA_at hkl
        have c:=c52 l[k].1 (hk _ (List.getElem_mem hkl))
        have f1:=grp_yes (b:=b) (lv:=lv) (i:=i) hkl
        have f2:=grp_no (b:=b) (lv:=lv) (i:=i) hkl
        generalize l[k]=x at *
        by_cases hc:cN b lv x.1=i
        · have hc2 : ((cN b lv x.1 : Nat) : Int) = (i : Int) := by rw [hc]
          have us:(so.map pA).take so.length++[.agg [S x.1,S x.2]]=(so++[x]).map pA:=p_snocJ
          have rp2:=nr_p (so++[x])
          repeat' ((conv=>whnf);first|(with_reducible refine SeqP.go ?_)|((with_reducible refine ObD.mk ?_ ?_);exact zD)|((with_reducible refine ObN.mk ?_ ?_);exact zN)|(with_reducible refine ObT.tt ?_)|((with_reducible refine ObB.yes ?_ ?_);exact zB)|((with_reducible refine ObI.nl ?_ ?_);omega)|((with_reducible refine ObX.mk _ rfl ?_ ?_);exact zX)|((with_reducible refine (?_:ObL _ _));(refine ObL.mk _ zM ?_))|((with_reducible refine (?_:ObU _ _));(refine ObU.mk _ (by first|exact us|assumption|((conv=>lhs;simp only [List.set_cons_zero,List.set_cons_succ,List.take_succ_cons,List.take_zero,List.drop_succ_cons,List.drop_zero,List.nil_append,List.cons_append,List.append_nil,List.take_nil,List.drop_nil]);try rfl)|rfl) ?_))|((with_reducible refine (?_:ObR _ _ _));(first|(refine ObR.mk _ (by assumption) ?_)|(refine ObR.mk _ (by exact q) ?_)|(refine ObR.mk _ (by with_reducible rfl) ?_)|(refine ObR.map zX (fun x hx=>?_))|(refine ObR.mk _ rfl ?_)))|((with_reducible refine ObC.f 52 ?_);(first|(with_reducible refine ObC.mk _ (c) ?_)|(refine ObC.mk _ (c) ?_))))
          conv=>whnf
          refine Again.mk (k+1,so++[x]) ⟨by dsimp only;omega,by dsimp only;rw [f1 hc,← hso]⟩ ?_ (Fg.vw [(hs.length,0,hs.length),(0,1,0),(0,2,1)] ?_ ?_ (by simp) ?_)
          · dsimp only;omega
          all_goals repeat' ((conv=>whnf);first|((with_reducible refine ObRn.mk ?_ ?_);(focus (simp [rnB,rnC,rnA,rnT,rS];done)))|((with_reducible refine ObN.mk ?_ ?_);exact zN)|((with_reducible refine ObO.l ?_);(with_reducible refine ObN.mk ?_ ?_);(focus (first|rfl|omega)))|((with_reducible refine ObRow.same ?_ ?_ ?_);exact zE;(focus (first|rfl|assumption|(simp;done))))|((with_reducible refine ObEqs.mk ?_ ?_);rfl)|exact True.intro)
        · have hc2 : ¬ ((cN b lv x.1 : Nat) : Int) = (i : Int) := by omega
          repeat' ((conv=>whnf);first|(with_reducible refine SeqP.go ?_)|((with_reducible refine ObN.mk ?_ ?_);exact zN)|(with_reducible first|refine ObT.tt ?_|refine ObT.ff ?_)|((with_reducible refine ObB.yes ?_ ?_);exact zB)|((with_reducible refine ObB.no ?_ ?_);exact zC)|((with_reducible refine ObI.nl ?_ ?_);omega)|((with_reducible refine ObX.mk _ rfl ?_ ?_);exact zX)|((with_reducible refine (?_:ObL _ _));(refine ObL.mk _ zM ?_))|((with_reducible refine (?_:ObR _ _ _));(first|(refine ObR.mk _ (by assumption) ?_)|(refine ObR.mk _ (by exact q) ?_)|(refine ObR.mk _ (by with_reducible rfl) ?_)|(refine ObR.map zX (fun x hx=>?_))|(refine ObR.mk _ rfl ?_)))|((with_reducible refine ObC.f 52 ?_);(first|(with_reducible refine ObC.mk _ (c) ?_)|(refine ObC.mk _ (c) ?_))))
          conv=>whnf
          refine Again.mk (k+1,so) ⟨by dsimp only;omega,by dsimp only;rw [f2 hc,← hso]⟩ ?_ (Fg.vw [(hs.length,0,hs.length),(0,1,0),(0,2,0)] ?_ ?_ (by simp) ?_)
          · dsimp only;omega
          all_goals repeat' ((conv=>whnf);first|((with_reducible refine ObRn.mk ?_ ?_);(focus (simp [rnB,rnC,rnA,rnT,rS];done)))|((with_reducible refine ObN.mk ?_ ?_);exact zN)|((with_reducible refine ObO.l ?_);(with_reducible refine ObN.mk ?_ ?_);(focus (first|rfl|omega)))|((with_reducible refine ObRow.same ?_ ?_ ?_);exact zE;(focus (first|rfl|assumption|(simp;done))))|((with_reducible refine ObEqs.mk ?_ ?_);rfl)|exact True.intro)
      · obtain rfl : k = l.length := by omega
        rw [List.take_length] at hso
        rw [← hso] at bd gl gm y n
        by_cases hs0:so=[]
        · subst hs0
          have n1:=n rfl
          have z0:([]:List AV).length=0:=rfl
          repeat' ((conv=>whnf);first|(with_reducible refine SeqP.go ?_)|((with_reducible refine ObN.mk ?_ ?_);exact zN)|(with_reducible refine ObT.ff ?_)|((with_reducible refine ObB.no ?_ ?_);exact zC)|((with_reducible refine ObI.nl ?_ ?_);omega)|(with_reducible refine ObZ.mk _ rfl ?_)|((with_reducible refine (?_:ObL _ _));(refine ObL.mk _ (by first|exact z0|exact (List.length_map _)|assumption|exact (List.length_map _).trans (by assumption)|exact List.length_map _|rfl) ?_)))
          conv=>whnf
          rw [on3]
          refine Again.mk (i+1,hs,([]:List Int),m) ⟨by dsimp only;omega,by dsimp only;exact n1⟩ ?_ (Fg.vw [(hs.length,0,hs.length),(0,1,0)] ?_ ?_ (by simp) ?_)
          · dsimp only;omega
          all_goals repeat' ((conv=>whnf);first|((with_reducible refine ObRn.mk ?_ ?_);(focus (simp [rnB,rnC,rnA,rnT,rS];done)))|((with_reducible refine ObN.mk ?_ ?_);exact zN)|((with_reducible refine ObO.l ?_);(with_reducible refine ObN.mk ?_ ?_);(focus (first|rfl|omega)))|((with_reducible refine ObRow.same ?_ ?_ ?_);exact zE;(focus (first|rfl|assumption|(simp;done))))|((with_reducible refine ObEqs.mk ?_ ?_);rfl)|exact True.intro)
        · have y1 := y hs0
          have sop:0 < so.length:=List.length_pos_iff.2 hs0
          have ih:=IH so hs (by omega) gm (by omega)
          generalize mkT b f (lv+1) so hs=R at *
          obtain ⟨h2,r⟩:=R
          have rh2:=nr_nJ h2
          dsimp only at ih y1
          have sa:(so.map pA).take so.length=so.map pA:=p_allJ
          have sp:((so.map pA).take so.length).all AV.isP=true:=by rw [sa];exact p_pJ so
          repeat' ((conv=>whnf);first|((with_reducible refine ObN.mk ?_ ?_);exact zN)|((with_reducible refine ObB.no ?_ ?_);exact zC)|((with_reducible refine (?_:ObL _ _));(refine ObL.mk _ zM ?_)))
          conv=>whnf
          refine SeqP.go ?_
          repeat' ((conv=>whnf);first|(with_reducible refine ObT.ff ?_))
          conv=>whnf
          refine SeqP.go ?_
          repeat' ((conv=>whnf);first|((with_reducible refine ObN.mk ?_ ?_);exact zN)|((with_reducible refine ObB.yes ?_ ?_);exact zB))
          conv=>whnf
          refine SeqP.fz 2 so.length [] ?_
          repeat' ((conv=>whnf);first|((with_reducible refine ObN.mk ?_ ?_);exact zN)|(with_reducible refine ObT.tt ?_)|((with_reducible refine ObI.mk _ rfl ?_ ?_ ?_);omega;omega)|((with_reducible refine (?_:ObU _ _));(refine ObU.mk _ (by first|exact sa|assumption|((conv=>lhs;simp only [List.set_cons_zero,List.set_cons_succ,List.take_succ_cons,List.take_zero,List.drop_succ_cons,List.drop_zero,List.nil_append,List.cons_append,List.append_nil,List.take_nil,List.drop_nil]);try rfl)|rfl) ?_))|((with_reducible refine ObSt.live ?_ ?_);(focus (first|trivial|(refine ⟨rfl,?_⟩;first|omega|(exact Nat.le_refl _))))))
          conv=>whnf
          repeat' ((conv=>whnf);first|(with_reducible refine SeqP.go ?_)|((with_reducible refine ObD.mk ?_ ?_);exact zD)|((with_reducible refine ObN.mk ?_ ?_);exact zN)|((with_reducible refine ObI.nl ?_ ?_);omega)|(with_reducible refine ObZ.mk _ rfl ?_)|((with_reducible refine (?_:ObL _ _));(refine ObL.mk _ zM ?_))|((with_reducible refine (?_:ObU _ _));(refine ObU.mk _ zU ?_))|((with_reducible refine (?_:ObR _ _ _));(first|(refine ObR.mk _ (by first|assumption|with_reducible rfl) ?_)|(refine ObR.map zX (fun x hx=>?_))|(refine ObR.mk _ rfl ?_)))|((with_reducible refine ObH.f 34 ?_);refine ObH.frn _ (by simp only [List.length_cons,List.length_nil,Nat.reduceAdd];rfl) [(hs.length,0,hs.length)] (ih) (by simp) rfl (by simp) ?_)|((with_reducible refine ObW.cons ?_ ?_);(focus (first|assumption|(simp;done))))|((with_reducible refine ObRow.same ?_ ?_ ?_);exact zE;(focus (first|rfl|assumption|(simp;done))))|((with_reducible refine ObAs.mk ?_ ?_);(focus (first|rfl|(simp [rnB,rnC,rnL];done))))|((with_reducible refine (?_:ObRs _ _ _));(refine ObRs.mk _ rfl ?_))|((with_reducible refine ObBk.same ?_ ?_);(focus (first|rfl|assumption|(simp;done)))))
          all_goals conv=>whnf
          rw [on3,show rho [(hs.length,0,hs.length)] 3 0=0 from rfl]
          refine Again.mk (i+1,h2,[r],m+w) ⟨by dsimp only;omega,by dsimp only;exact y1⟩ ?_ (Fg.vw [(h2.length,0,h2.length),(0,1,0),(0,4,0)] ?_ ?_ (by simp) ?_)
          · dsimp only;omega
          all_goals repeat' ((conv=>whnf);first|((with_reducible refine ObRow.lit ?_ ?_);(focus (simp [rnB,rnC,rnL,AV.cells,rS,em];done)))|((with_reducible refine ObRn.mk ?_ ?_);(focus (simp [rnB,rnC,rnA,rnT,rS];done)))|((with_reducible refine ObN.mk ?_ ?_);exact zN)|((with_reducible refine ObO.l ?_);(with_reducible refine ObN.mk ?_ ?_);(focus (first|rfl|omega)))|((with_reducible refine ObRow.same ?_ ?_ ?_);exact zE;(focus (first|rfl|assumption|(simp;done))))|((with_reducible refine ObEqs.mk ?_ ?_);rfl)|exact True.intro)
    ·
      have ktl:kt.length+1≤i:=km.2
      have rk:=nr_i (k0::kt)
      repeat' ((conv=>whnf);first|(with_reducible refine SeqP.go ?_)|((with_reducible refine ObD.mk ?_ ?_);exact zD)|((with_reducible refine ObN.mk ?_ ?_);exact zN)|(with_reducible refine ObT.tt ?_)|((with_reducible refine ObB.yes ?_ ?_);exact zB))
      conv=>whnf
      refine LoopP.go (α:=Nat × List Pr) (fun p=>p.1≤l.length∧p.2=grp b lv (l.take p.1) i) (fun p=>l.length - p.1) (fun p=>[(13,some (.ol 3 0 p.2.length)),(0,some (I p.1)),(35,none),(0,none),(0,none),(0,none),(0,none),(0,none),(0,none),(0,none),(0,none),(0,none),(0,none),(0,none),(0,none),(0,none),(0,none),(0,none),(0,none),(0,none),(0,none),(0,none),(0,none),(0,none),(0,none),(0,none)]) (fun p=>[⟨41,9,hs.map nA,hs.length,0⟩,⟨41,9,[bN m (.ol 2 0 (kt.length+1)) l.length],0,0⟩,kR 0 (k0::kt),⟨67,2,p.2.map pA,0,0⟩]) (0,[]) ⟨Nat.zero_le _,by simp [grp]⟩ (Fg.go ?_ rfl) ?_
      · repeat' ((conv=>whnf);first|((with_reducible refine ObEqs.mk ?_ ?_);rfl)|((with_reducible refine ObEq1.i ?_ ?_);exact zF)|((with_reducible refine ObEq1.mk ?_ ?_);exact zE)|exact True.intro)
      rintro ⟨k,so⟩ ⟨hk1,hso⟩
      dsimp only at hk1 hso ⊢
      have rp:=nr_p so
      have rh:=nr_nJ hs
      have sol:so.length≤l.length:=by rw [hso];exact Nat.le_trans grp_len (by rw [List.length_take];omega)
      by_cases hkl:k < l.length
      · have q := pA_at hkl
        have c:=c52 l[k].1 (hk _ (List.getElem_mem hkl))
        have f1:=grp_yes (b:=b) (lv:=lv) (i:=i) hkl
        have f2:=grp_no (b:=b) (lv:=lv) (i:=i) hkl
        generalize l[k]=x at *
        by_cases hc:cN b lv x.1=i
        · have hc2 : ((cN b lv x.1 : Nat) : Int) = (i : Int) := by rw [hc]
          have us:(so.map pA).take so.length++[.agg [S x.1,S x.2]]=(so++[x]).map pA:=p_snocJ
          have rp2:=nr_p (so++[x])
          repeat' ((conv=>whnf);first|(with_reducible refine SeqP.go ?_)|((with_reducible refine ObD.mk ?_ ?_);exact zD)|((with_reducible refine ObN.mk ?_ ?_);exact zN)|(with_reducible refine ObT.tt ?_)|((with_reducible refine ObB.yes ?_ ?_);exact zB)|((with_reducible refine ObI.nl ?_ ?_);omega)|((with_reducible refine ObX.mk _ rfl ?_ ?_);exact zX)|((with_reducible refine (?_:ObL _ _));(refine ObL.mk _ zM ?_))|((with_reducible refine (?_:ObU _ _));(refine ObU.mk _ (by first|exact us|assumption|((conv=>lhs;simp only [List.set_cons_zero,List.set_cons_succ,List.take_succ_cons,List.take_zero,List.drop_succ_cons,List.drop_zero,List.nil_append,List.cons_append,List.append_nil,List.take_nil,List.drop_nil]);try rfl)|rfl) ?_))|((with_reducible refine (?_:ObR _ _ _));(first|(refine ObR.mk _ (by assumption) ?_)|(refine ObR.mk _ (by exact q) ?_)|(refine ObR.mk _ (by with_reducible rfl) ?_)|(refine ObR.map zX (fun x hx=>?_))|(refine ObR.mk _ rfl ?_)))|((with_reducible refine ObC.f 52 ?_);(first|(with_reducible refine ObC.mk _ (c) ?_)|(refine ObC.mk _ (c) ?_))))
          conv=>whnf
          refine Again.mk (k+1,so++[x]) ⟨by dsimp only;omega,by dsimp only;rw [f1 hc,← hso]⟩ ?_ (Fg.vw [(hs.length,0,hs.length),(0,1,0),(0,2,0),(0,3,1)] ?_ ?_ (by simp) ?_)
          · dsimp only;omega
          all_goals repeat' ((conv=>whnf);first|((with_reducible refine ObRn.mk ?_ ?_);(focus (simp [rnB,rnC,rnA,rnT,rS];done)))|((with_reducible refine ObN.mk ?_ ?_);exact zN)|((with_reducible refine ObO.l ?_);(with_reducible refine ObN.mk ?_ ?_);(focus (first|rfl|omega)))|((with_reducible refine ObRow.same ?_ ?_ ?_);exact zE;(focus (first|rfl|assumption|(simp;done))))|((with_reducible refine ObRow.lit ?_ ?_);(focus (first|rfl|(simp [rnB,rnC,rnL];done))))|((with_reducible refine ObEqs.mk ?_ ?_);rfl)|exact True.intro)
        · have hc2 : ¬ ((cN b lv x.1 : Nat) : Int) = (i : Int) := by omega
          repeat' ((conv=>whnf);first|(with_reducible refine SeqP.go ?_)|((with_reducible refine ObN.mk ?_ ?_);exact zN)|(with_reducible first|refine ObT.tt ?_|refine ObT.ff ?_)|((with_reducible refine ObB.yes ?_ ?_);exact zB)|((with_reducible refine ObB.no ?_ ?_);exact zC)|((with_reducible refine ObI.nl ?_ ?_);omega)|((with_reducible refine ObX.mk _ rfl ?_ ?_);exact zX)|((with_reducible refine (?_:ObL _ _));(refine ObL.mk _ zM ?_))|((with_reducible refine (?_:ObR _ _ _));(first|(refine ObR.mk _ (by assumption) ?_)|(refine ObR.mk _ (by exact q) ?_)|(refine ObR.mk _ (by with_reducible rfl) ?_)|(refine ObR.map zX (fun x hx=>?_))|(refine ObR.mk _ rfl ?_)))|((with_reducible refine ObC.f 52 ?_);(first|(with_reducible refine ObC.mk _ (c) ?_)|(refine ObC.mk _ (c) ?_))))
          conv=>whnf
          refine Again.mk (k+1,so) ⟨by dsimp only;omega,by dsimp only;rw [f2 hc,← hso]⟩ ?_ (Fg.vw [(hs.length,0,hs.length),(0,1,0),(0,2,0),(0,3,0)] ?_ ?_ (by simp) ?_)
          · dsimp only;omega
          all_goals repeat' ((conv=>whnf);first|((with_reducible refine ObRn.mk ?_ ?_);(focus (simp [rnB,rnC,rnA,rnT,rS];done)))|((with_reducible refine ObN.mk ?_ ?_);exact zN)|((with_reducible refine ObO.l ?_);(with_reducible refine ObN.mk ?_ ?_);(focus (first|rfl|omega)))|((with_reducible refine ObRow.same ?_ ?_ ?_);exact zE;(focus (first|rfl|assumption|(simp;done))))|((with_reducible refine ObRow.lit ?_ ?_);(focus (first|rfl|(simp [rnB,rnC,rnL];done))))|((with_reducible refine ObEqs.mk ?_ ?_);rfl)|exact True.intro)
      · obtain rfl : k = l.length := by omega
        rw [List.take_length] at hso
        rw [← hso] at bd gl gm y n
        by_cases hs0:so=[]
        · subst hs0
          have n1:=n rfl
          have z0:([]:List AV).length=0:=rfl
          repeat' ((conv=>whnf);first|(with_reducible refine SeqP.go ?_)|((with_reducible refine ObN.mk ?_ ?_);exact zN)|(with_reducible refine ObT.ff ?_)|((with_reducible refine ObB.no ?_ ?_);exact zC)|((with_reducible refine ObI.nl ?_ ?_);omega)|(with_reducible refine ObZ.mk _ rfl ?_)|((with_reducible refine (?_:ObL _ _));(refine ObL.mk _ (by first|exact z0|exact (List.length_map _)|assumption|exact (List.length_map _).trans (by assumption)|exact List.length_map _|rfl) ?_)))
          conv=>whnf
          rw [on3]
          refine Again.mk (i+1,hs,(k0::kt),m) ⟨by dsimp only;omega,by dsimp only;exact n1⟩ ?_ (Fg.vw [(hs.length,0,hs.length),(0,1,0),(0,2,0)] ?_ ?_ (by simp) ?_)
          · dsimp only;omega
          all_goals repeat' ((conv=>whnf);first|((with_reducible refine ObRn.mk ?_ ?_);(focus (simp [rnB,rnC,rnA,rnT,rS];done)))|((with_reducible refine ObN.mk ?_ ?_);exact zN)|((with_reducible refine ObO.l ?_);(with_reducible refine ObN.mk ?_ ?_);(focus (first|rfl|omega)))|((with_reducible refine ObRow.same ?_ ?_ ?_);exact zE;(focus (first|rfl|assumption|(simp;done))))|((with_reducible refine ObRow.lit ?_ ?_);(focus (first|rfl|(simp [rnB,rnC,rnL];done))))|((with_reducible refine ObEqs.mk ?_ ?_);rfl)|exact True.intro)
        · have y1 := y hs0
          have sop:0 < so.length:=List.length_pos_iff.2 hs0
          have ih:=IH so hs (by omega) gm (by omega)
          generalize mkT b f (lv+1) so hs=R at *
          obtain ⟨h2,r⟩:=R
          have rh2:=nr_nJ h2
          dsimp only at ih y1
          have sa:(so.map pA).take so.length=so.map pA:=p_allJ
          have sp:((so.map pA).take so.length).all AV.isP=true:=by rw [sa];exact p_pJ so
          repeat' ((conv=>whnf);first|((with_reducible refine ObN.mk ?_ ?_);exact zN)|((with_reducible refine ObB.no ?_ ?_);exact zC)|((with_reducible refine (?_:ObL _ _));(refine ObL.mk _ zM ?_)))
          conv=>whnf
          refine SeqP.go ?_
          repeat' ((conv=>whnf);first|(with_reducible refine ObT.ff ?_))
          conv=>whnf
          refine SeqP.go ?_
          repeat' ((conv=>whnf);first|((with_reducible refine ObN.mk ?_ ?_);exact zN)|((with_reducible refine ObB.yes ?_ ?_);exact zB))
          conv=>whnf
          refine SeqP.fz 3 so.length [] ?_
          repeat' ((conv=>whnf);first|((with_reducible refine ObN.mk ?_ ?_);exact zN)|(with_reducible refine ObT.tt ?_)|((with_reducible refine ObI.mk _ rfl ?_ ?_ ?_);omega;omega)|((with_reducible refine (?_:ObU _ _));(refine ObU.mk _ (by first|exact sa|assumption|((conv=>lhs;simp only [List.set_cons_zero,List.set_cons_succ,List.take_succ_cons,List.take_zero,List.drop_succ_cons,List.drop_zero,List.nil_append,List.cons_append,List.append_nil,List.take_nil,List.drop_nil]);try rfl)|rfl) ?_))|((with_reducible refine ObSt.live ?_ ?_);(focus (first|trivial|(refine ⟨rfl,?_⟩;first|omega|(exact Nat.le_refl _))))))
          conv=>whnf
          have us:((k0::kt).map iA).take (kt.length+1)++[.v (.int .i64 r)]=((k0::kt)++[r]).map iA:=i_snoc (l:=k0::kt)
          repeat' ((conv=>whnf);first|(with_reducible refine SeqP.go ?_)|((with_reducible refine ObD.mk ?_ ?_);exact zD)|((with_reducible refine ObN.mk ?_ ?_);exact zN)|((with_reducible refine ObI.nl ?_ ?_);omega)|(with_reducible refine ObZ.mk _ rfl ?_)|((with_reducible refine (?_:ObL _ _));(refine ObL.mk _ zM ?_))|((with_reducible refine (?_:ObU _ _));(refine ObU.mk _ (by first|exact us|assumption|((conv=>lhs;simp only [List.set_cons_zero,List.set_cons_succ,List.take_succ_cons,List.take_zero,List.drop_succ_cons,List.drop_zero,List.nil_append,List.cons_append,List.append_nil,List.take_nil,List.drop_nil]);try rfl)|rfl) ?_))|((with_reducible refine (?_:ObR _ _ _));(first|(refine ObR.mk _ (by first|assumption|with_reducible rfl) ?_)|(refine ObR.map zX (fun x hx=>?_))|(refine ObR.mk _ rfl ?_)))|((with_reducible refine ObH.f 34 ?_);refine ObH.frn _ (by simp only [List.length_cons,List.length_nil,Nat.reduceAdd];rfl) [(hs.length,0,hs.length)] (ih) (by simp) rfl (by simp) ?_)|((with_reducible refine ObRow.same ?_ ?_ ?_);exact zE;(focus (first|rfl|assumption|(simp;done))))|((with_reducible refine ObAs.mk ?_ ?_);(focus (first|rfl|(simp [rnB,rnC,rnL];done))))|((with_reducible refine (?_:ObRs _ _ _));(refine ObRs.mk _ rfl ?_))|((with_reducible refine ObBk.same ?_ ?_);(focus (first|rfl|assumption|(simp;done)))))
          all_goals conv=>whnf
          have rk2:=nr_i (k0::kt++[r])
          rw [on3,show rho [(hs.length,0,hs.length)] 4 0=0 from rfl]
          refine Again.mk (i+1,h2,(k0::(kt++[r])),m+w) ⟨by dsimp only;omega,by dsimp only;exact y1⟩ ?_ (Fg.vw [(h2.length,0,h2.length),(0,1,0),(0,2,1)] ?_ ?_ (by simp) ?_)
          · dsimp only;omega
          all_goals repeat' ((conv=>whnf);first|((with_reducible refine ObRow.lit ?_ ?_);(focus (simp [rnB,rnC,rnL,AV.cells,rS,em];done)))|((with_reducible refine ObRn.mk ?_ ?_);(focus (simp [rnB,rnC,rnA,rnT,rS];done)))|((with_reducible refine ObN.mk ?_ ?_);exact zN)|((with_reducible refine ObO.l ?_);(with_reducible refine ObN.mk ?_ ?_);(focus (first|rfl|omega)))|((with_reducible refine ObRow.same ?_ ?_ ?_);exact zE;(focus (first|rfl|assumption|(simp;done))))|((with_reducible refine ObEqs.mk ?_ ?_);rfl)|exact True.intro)
  · obtain rfl : i = 32 := by omega
    rw [hTi]
    dsimp only
    have rh:=nr_nJ hs
    have lh:(hs++[brN m ks l.length]).length=hs.length+1:=by simp
    have us:(hs.map nA).take hs.length++[.agg [I 2,S ⟨#[]⟩,S ⟨#[]⟩,.v (.int .u32 (m:Int)),.sl 1 (ks.map iA),I 0,.sl 2 [],I (l.length:Nat),I 0]]=(hs++[brN m ks l.length]).map nA:=n_snoc (l:=hs) (x:=brN m ks l.length)
    rw [lh]
    clear hbd hkm hgl hgm hyes hno IH gm y n
    rcases ks with _|⟨k0,kt⟩
    · repeat' ((conv => whnf); first | ((with_reducible refine ObN.mk ?_ ?_); exact zN) | ((with_reducible refine ObB.no ?_ ?_); (focus (first | assumption | omega))))
      conv=>whnf
      refine SeqP.go ?_
      repeat' ((conv=>whnf);first|(with_reducible refine ObT.ff ?_))
      conv=>whnf
      refine SeqP.nl [] [false,true] ?_
      repeat' ((conv=>whnf);first|(with_reducible refine SeqP.go ?_)|((with_reducible refine ObD.mk ?_ ?_);exact zD)|((with_reducible refine ObN.mk ?_ ?_);exact zN)|((with_reducible refine (?_:ObL _ _));(refine ObL.mk _ zM ?_))|((with_reducible refine (?_:ObU _ _));(refine ObU.mk _ (by first|exact us|assumption|((conv=>lhs;simp only [List.set_cons_zero,List.set_cons_succ,List.take_succ_cons,List.take_zero,List.drop_succ_cons,List.drop_zero,List.nil_append,List.cons_append,List.append_nil,List.take_nil,List.drop_nil]);try rfl)|rfl) ?_))|((with_reducible refine (?_:ObR _ _ _));(first|(refine ObR.mk _ (by first|assumption|with_reducible rfl) ?_)|(refine ObR.map zX (fun x hx=>?_))|(refine ObR.mk _ rfl ?_))))
      all_goals conv=>whnf
      all_goals refine ObEnd.vw [(hs.length+1,0,hs.length+1)] (by simp [rnB,rnT,rnA,rnC]) ?_ (by simp) ?_
      all_goals repeat' ((conv=>whnf);first|((with_reducible refine ObN.mk ?_ ?_);exact zN)|((with_reducible refine ObO.l ?_);(with_reducible refine ObN.mk ?_ ?_);(focus (first|rfl|omega)))|exact True.intro|((with_reducible refine ObRow.lit ?_ ?_);(focus (simp [rnB,rnC,rnL,AV.cells];done))))
    · have ka : ((k0 :: kt).map iA).take (kt.length + 1) = (k0 :: kt).map iA := i_all (l := k0 :: kt)
      have kp:(((k0::kt).map iA).take (kt.length+1)).all AV.isP=true:=by rw [ka];exact p_i _
      repeat' ((conv=>whnf);first|((with_reducible refine ObN.mk ?_ ?_);exact zN)|((with_reducible refine ObB.no ?_ ?_);exact zC))
      conv=>whnf
      refine SeqP.fz 2 (kt.length+1) [false,true] ?_
      repeat' ((conv=>whnf);first|((with_reducible refine ObN.mk ?_ ?_);exact zN)|(with_reducible refine ObT.ff ?_)|((with_reducible refine (?_:ObU _ _));(refine ObU.mk _ (by first|exact ka|assumption|((conv=>lhs;simp only [List.set_cons_zero,List.set_cons_succ,List.take_succ_cons,List.take_zero,List.drop_succ_cons,List.drop_zero,List.nil_append,List.cons_append,List.append_nil,List.take_nil,List.drop_nil]);try rfl)|rfl) ?_))|((with_reducible refine ObSt.live ?_ ?_);(focus (first|trivial|(refine ⟨rfl,?_⟩;first|omega|(exact Nat.le_refl _))))))
      conv=>whnf
      refine SeqP.nl [] [false,true] ?_
      repeat' ((conv=>whnf);first|(with_reducible refine SeqP.go ?_)|((with_reducible refine ObD.mk ?_ ?_);exact zD)|((with_reducible refine ObN.mk ?_ ?_);exact zN)|((with_reducible refine (?_:ObL _ _));(refine ObL.mk _ zM ?_))|((with_reducible refine (?_:ObU _ _));(refine ObU.mk _ (by first|exact us|assumption|((conv=>lhs;simp only [List.set_cons_zero,List.set_cons_succ,List.take_succ_cons,List.take_zero,List.drop_succ_cons,List.drop_zero,List.nil_append,List.cons_append,List.append_nil,List.take_nil,List.drop_nil]);try rfl)|rfl) ?_))|((with_reducible refine (?_:ObR _ _ _));(first|(refine ObR.mk _ (by first|assumption|with_reducible rfl) ?_)|(refine ObR.map zX (fun x hx=>?_))|(refine ObR.mk _ rfl ?_))))
      all_goals conv=>whnf
      all_goals refine ObEnd.vw [(hs.length+1,0,hs.length+1)] (by simp [rnB,rnT,rnA,rnC]) ?_ (by simp) ?_
      all_goals repeat' ((conv=>whnf);first|((with_reducible refine ObN.mk ?_ ?_);exact zN)|((with_reducible refine ObO.l ?_);(with_reducible refine ObN.mk ?_ ?_);(focus (first|rfl|omega)))|exact True.intro|((with_reducible refine ObRow.lit ?_ ?_);(focus (simp [rnB,rnC,rnL,AV.cells];done))))
end
end Go.Proofs.Ytefkaglgekjlfaa.Sim
namespace Go.Proofs.Ytefkaglgekjlfaa.Sim.Pr7
open Go.RowKit
set_option maxRecDepth 100000
set_option maxHeartbeats 4000000 in
theorem last30 (G:Nat→AV) (l:List Pr) (hl:Okl l) (i:Nat) (hi:i < l.length) (r:Bool) (hr:r=true↔fk (l[i]).1 (l.drop (i+1))=[]):PC Try.prog G 50 [.sl 2 (l.map pA),I i] (Bo r):=by
  have hlen:=hl.len
  rw [fk_none] at hr
  refine pc_of cop50 ?_
  show W _ _ _ _ ⟨_,_⟩;simp only [A50,List.cons_append,List.nil_append,List.length_cons,List.length_nil,Nat.reduceAdd,Nat.reduceSub,List.replicate]
  repeat (first|(with_reducible first|refine w_seq ?_|refine w_reg ?_|refine w_block ?_|refine ws_nil ?_|refine q_then ?_)|((with_reducible first|refine ks fun K hK=>?_|refine kd fun K hK=>?_|refine kc fun K hK2 hK hK3=>?_);simp (disch:=omega) only [bg0,bg1,bg2,bg3,bg4,stepO,rsAs,eff,AX.ev,St.put,binA,conc,ap1,ofVal,Int.reduceTMod,Int.reduceTDiv,reduceCtorEq,fillA,AV.cells,AV.fine,AV.one,Nat.reduceAdd,Nat.reduceSub,Nat.reduceMul,Nat.reduceLT,Nat.reduceLeDiff,Int.reduceLT,Int.reduceLE,Int.reduceAdd,Int.reduceSub,Int.reduceNeg,Int.reduceMul,Int.reduceEq,Int.reduceToNat,nilA,moveA,live,loadA,rdA,storeA,wrA,intA,elemA,lenA,appA,srcA,isPtr,isNilPtr,partA,resOf,sliceA,cut,id,ap2,reduceIte,concs,chkB,geB,AOp.cls,AOp.xs,ltB,ltC,Nat.reduceBEq,Option.toList,List.cons_append,decide_eq_true,decide_eq_false,if_pos,if_neg,List.length_map,pA_at,bVb,bVn,eq_self,Bool.and_self,BEq.rfl,not_true_eq_false];(with_reducible first|(refine hK _ ?_;clear hK K)|(refine hK ?_;clear hK hK3 K hK2)|(refine hK3 ?_;clear hK hK3 K hK2))))
  refine w_loop_m [4,5,8,9,10,11,12,13,14,15,16,17,18,19,20,21,22,23,24] (fun k v H=>v 5=I ((i+1+k:Nat):Int)∧H=[]∧∀ j (h:j < l.length),i < j→j < i+1+k→(l[j]).1 ≠ (l[i]).1) (l.length - (i+1)) ⟨rfl,rfl,fun j h h1 h2=>by omega⟩ ?_ ?_
  · rintro k v H hk ⟨h5, rfl, hq⟩
    simp only [mix,mix_nil,mix_end,mix_skp,Nat.reduceEqDiff,Nat.reduceLeDiff,reduceCtorEq,if_true,if_false,reduceIte,Nat.reduceAdd,h5]
    have hk2:i+1+k < l.length:=by omega
    have e2:((i:Int)+1+(k:Int)).toNat=i+1+k:=by omega
    have e3:((i:Int)+1+(k:Int)+1)=((i+1+(k+1):Nat):Int):=by omega
    by_cases hc:(l[i+1+k]).1=(l[i]).1
    · obtain rfl : r = false := by
        cases r with
        | false=>rfl
        | true=>exact absurd hc (hr.1 rfl _ (by rw [List.mem_drop_iff_getElem];exact ⟨k,by omega,rfl⟩))
      repeat (first|(with_reducible first|refine w_seq ?_|refine w_reg ?_|refine w_draw ?_|refine w_block ?_|refine w_skip ?_|refine ws_nil ?_|refine wd_nil ?_|refine q_then ?_|refine q_block_r ?_|refine w_ret ?_|refine q_then_r ?_)|((with_reducible first|refine ks fun K hK=>?_|refine kd fun K hK=>?_|refine kc fun K hK2 hK hK3=>?_|refine ret_h fun K hR=>?_|refine ret_hh rfl fun K hR=>?_|refine ret_pp fun K hR=>?_);simp (disch:=omega) only [bg0,bg1,bg2,bg3,bg4,stepO,rsAs,eff,AX.ev,St.put,binA,conc,ap1,ofVal,Int.reduceTMod,Int.reduceTDiv,reduceCtorEq,fillA,AV.cells,AV.fine,AV.one,Nat.reduceAdd,Nat.reduceSub,Nat.reduceMul,Nat.reduceLT,Nat.reduceLeDiff,Int.reduceLT,Int.reduceLE,Int.reduceAdd,Int.reduceSub,Int.reduceNeg,Int.reduceMul,Int.reduceEq,Int.reduceToNat,nilA,moveA,live,loadA,rdA,storeA,wrA,intA,elemA,lenA,appA,srcA,isPtr,isNilPtr,partA,resOf,sliceA,cut,id,ap2,reduceIte,concs,chkB,geB,AOp.cls,AOp.xs,ltB,ltC,Nat.reduceBEq,Option.toList,List.cons_append,decide_eq_true,decide_eq_false,if_pos,if_neg,List.length_map,pA_at,bVb,bVn,eq_self,Bool.and_self,BEq.rfl,not_true_eq_false,hc,e2];(first|(with_reducible first|(refine hK _ ?_;clear hK K)|(refine hK ?_;clear hK hK3 K hK2)|(refine hK3 ?_;clear hK hK3 K hK2))|((with_reducible refine hR _ ?_ ?_ ?_ ?_);rotate_left 2;rfl;rfl)|((with_reducible refine hR _ ?_);rfl))))
    · repeat (first|(with_reducible first|refine w_seq ?_|refine w_reg ?_|refine w_draw ?_|refine w_block ?_|refine w_skip ?_|refine ws_nil ?_|refine wd_nil ?_|refine q_then ?_|refine q_block_n ?_)|((with_reducible first|refine ks fun K hK=>?_|refine kd fun K hK=>?_|refine kc fun K hK2 hK hK3=>?_);simp (disch:=omega) only [bg0,bg1,bg2,bg3,bg4,stepO,rsAs,eff,AX.ev,St.put,binA,conc,ap1,ofVal,Int.reduceTMod,Int.reduceTDiv,reduceCtorEq,fillA,AV.cells,AV.fine,AV.one,Nat.reduceAdd,Nat.reduceSub,Nat.reduceMul,Nat.reduceLT,Nat.reduceLeDiff,Int.reduceLT,Int.reduceLE,Int.reduceAdd,Int.reduceSub,Int.reduceNeg,Int.reduceMul,Int.reduceEq,Int.reduceToNat,nilA,moveA,live,loadA,rdA,storeA,wrA,intA,elemA,lenA,appA,srcA,isPtr,isNilPtr,partA,resOf,sliceA,cut,id,ap2,reduceIte,concs,chkB,geB,AOp.cls,AOp.xs,ltB,ltC,Nat.reduceBEq,Option.toList,List.cons_append,decide_eq_true,decide_eq_false,if_pos,if_neg,List.length_map,pA_at,bVb,bVn,eq_self,Bool.and_self,BEq.rfl,not_true_eq_false,hc,e2];(with_reducible first|(refine hK _ ?_;clear hK K)|(refine hK ?_;clear hK hK3 K hK2)|(refine hK3 ?_;clear hK hK3 K hK2))))
      refine ⟨rfl,by simp [at_];omega,rfl,fun j h h1 h2=>?_⟩
      by_cases hj:j=i+1+k
      · subst hj;exact hc
      · exact hq j h h1 (by omega)
  · rintro v H ⟨h5, rfl, hq⟩
    simp only [mix,mix_nil,mix_end,mix_skp,Nat.reduceEqDiff,Nat.reduceLeDiff,reduceCtorEq,if_true,if_false,reduceIte,Nat.reduceAdd,h5]
    obtain rfl:r=true:=hr.2 fun p hp=>by
      obtain ⟨j,hj,rfl⟩:=List.mem_drop_iff_getElem.1 hp
      exact hq _ (by omega) (by omega) (by omega)
    repeat (first|(with_reducible first|refine w_seq ?_|refine w_reg ?_|refine w_exit ?_|refine ws_nil ?_|refine q_then ?_|refine q_then_x ?_|refine q_block_x ?_|refine w_ret ?_)|((with_reducible first|refine ks fun K hK=>?_|refine kd fun K hK=>?_|refine kc fun K hK2 hK hK3=>?_|refine ret_h fun K hR=>?_|refine ret_hh rfl fun K hR=>?_|refine ret_pp fun K hR=>?_);simp (disch:=omega) only [bg0,bg1,bg2,bg3,bg4,stepO,rsAs,eff,AX.ev,St.put,binA,conc,ap1,ofVal,Int.reduceTMod,Int.reduceTDiv,reduceCtorEq,fillA,AV.cells,AV.fine,AV.one,Nat.reduceAdd,Nat.reduceSub,Nat.reduceMul,Nat.reduceLT,Nat.reduceLeDiff,Int.reduceLT,Int.reduceLE,Int.reduceAdd,Int.reduceSub,Int.reduceNeg,Int.reduceMul,Int.reduceEq,Int.reduceToNat,nilA,moveA,live,loadA,rdA,storeA,wrA,intA,elemA,lenA,appA,srcA,isPtr,isNilPtr,partA,resOf,sliceA,cut,id,ap2,reduceIte,concs,chkB,geB,AOp.cls,AOp.xs,ltB,ltC,Nat.reduceBEq,Option.toList,List.cons_append,decide_eq_true,decide_eq_false,if_pos,if_neg,List.length_map,pA_at,bVb,bVn,eq_self,Bool.and_self,BEq.rfl,not_true_eq_false];(first|(with_reducible first|(refine hK _ ?_;clear hK K)|(refine hK ?_;clear hK hK3 K hK2)|(refine hK3 ?_;clear hK hK3 K hK2))|((with_reducible refine hR _ ?_ ?_ ?_ ?_);rotate_left 2;rfl;rfl)|((with_reducible refine hR _ ?_);rfl))))
end Go.Proofs.Ytefkaglgekjlfaa.Sim.Pr7
namespace Go.Proofs.Ytefkaglgekjlfaa.Sim.Pr7
open Go.RowKit
set_option maxRecDepth 100000
set_option maxHeartbeats 8000000 in
theorem rmake15 (G:Nat→AV) (l:List Pr) (hl:Okl l):PC Try.prog G 33 [.sl 2 (l.map pA)] (.sl 2 ((mk l).map pA)):=by
  have hlen:=hl.len
  refine pc_of cop33 ?_
  show W _ _ _ _ ⟨_,_⟩;simp only [A33,List.cons_append,List.nil_append,List.length_cons,List.length_nil,Nat.reduceAdd,Nat.reduceSub,List.replicate]
  repeat (first|(with_reducible first|refine w_seq ?_|refine w_reg ?_|refine w_block ?_|refine ws_nil ?_|refine q_then ?_)|((with_reducible first|refine ks fun K hK=>?_|refine kd fun K hK=>?_|refine kc fun K hK2 hK hK3=>?_);simp (disch:=omega) only [bg0,bg1,bg2,bg3,bg4,stepO,rsAs,eff,AX.ev,St.put,binA,conc,ap1,ofVal,Int.reduceTMod,Int.reduceTDiv,reduceCtorEq,fillA,AV.cells,AV.fine,AV.one,Nat.reduceAdd,Nat.reduceSub,Nat.reduceMul,Nat.reduceLT,Nat.reduceLeDiff,Int.reduceLT,Int.reduceLE,Int.reduceAdd,Int.reduceSub,Int.reduceNeg,Int.reduceMul,Int.reduceEq,Int.reduceToNat,nilA,moveA,live,loadA,rdA,storeA,wrA,intA,elemA,lenA,appA,srcA,isPtr,isNilPtr,partA,resOf,sliceA,cut,id,ap2,reduceIte,concs,chkB,geB,AOp.cls,AOp.xs,ltB,ltC,Nat.reduceBEq,Option.toList,List.cons_append,decide_eq_true,decide_eq_false,if_pos,if_neg,List.length_map,pA_at,bVb,bVn,eq_self,Bool.and_self,BEq.rfl,not_true_eq_false,gR0,gR01,gR02,sR0,sR01,sR02,lR0,lR1,gR1,gR2,gR22,sR1,sR2,sR22,geB,gj1_0,sj1_0,len_last];(with_reducible first|(refine hK _ ?_;clear hK K)|(refine hK ?_;clear hK hK3 K hK2)|(refine hK3 ?_;clear hK hK3 K hK2))))
  refine w_loop_m [3,4,5,7,8,9,10,11,12,13,14,15,16,17,18,19,20,21,22,23,24,25,26,27,28,29,30,31,32,33,34,35,36,37,38,39,40,41,42,43,44,45,46,47,48,49,50] (fun k v H=>∃ (pre:List Pr) (J K:Hp) (g fz:Nat),lasts l=pre++lasts (l.drop k)∧v 4=I k∧v 3 = .ol J.length g (mk pre).length∧H=J++⟨67,2,(mk pre).map pA,g,fz⟩::K) l.length ⟨[],[],[],0,0,rfl,rfl,rfl,rfl⟩ ?_ ?_
  · rintro k v H hk ⟨pre, J, K, g, fz, hla, h4, h3, rfl⟩
    simp only [mix,mix_nil,mix_end,mix_skp,Nat.reduceEqDiff,Nat.reduceLeDiff,reduceCtorEq,if_true,if_false,reduceIte,Nat.reduceAdd,h3,h4]
    rw [lasts_drop hk] at hla
    have hsub:∀ p ∈ pre,p ∈ l:=fun p hp=>(lasts_sub l).subset (by rw [hla];simp [hp])
    have hkx:=hl.k hk
    have hpl:(mk pre).length≤1000000:=by
      have:=mk_len pre
      have h2:=(lasts_sub l).length_le
      rw [hla] at h2
      simp at h2
      omega
    by_cases hr:fk (l[k]).1 (l.drop (k+1))=[]
    · rw [if_pos hr] at hla
      have h30:=last30 G l hl k hk true (by simp [hr])
      have hsn:=mk_snoc hla
      have hso:=(mk_lt pre).le
      have hks:∀ j (h:j < (mk pre).length),((mk pre)[j]).1.size≤9223372036854775807:=fun j h=>(hl.sz _ (hsub _ (mk_mem (List.getElem_mem h)))).1
      have hx2:l[k]=((l[k]).1,(l[k]).2):=rfl
      have hc:=lo_len (B:=mk pre) (k:=(l[k]).1)
      have hidx:=fun j (h:j < (mk pre).length)=>idx_lo hso (l[k]).1 h
      have pO:=all_pA (mk pre)
      obtain ⟨c,hcc⟩:∃ c,c=(lo (mk pre) (l[k]).1).length:=⟨_,rfl⟩
      rw [← hcc] at hsn hc hidx
      have hmk:(mk (pre++[l[k]])).map pA=((mk pre).map pA).take c++[.agg [S (l[k]).1,S (l[k]).2]]++((mk pre).map pA).drop c:=by
        rw [← hsn];simp [pA]
      have hml:(mk (pre++[l[k]])).length=(mk pre).length+1:=by rw [← hsn];simp;omega
      have hla2:lasts l=(pre++[l[k]])++lasts (l.drop (k+1)):=by rw [hla];simp
      generalize hM:mk pre=m at *
      repeat (first|(with_reducible first|refine w_seq ?_|refine w_reg ?_|refine w_block ?_|refine w_skip ?_|refine ws_nil ?_|refine q_then ?_)|((with_reducible first|refine ks fun K hK=>?_|refine kd fun K hK=>?_|refine kc fun K hK2 hK hK3=>?_);simp (disch:=omega) only [bg0,bg1,bg2,bg3,bg4,stepO,rsAs,eff,AX.ev,St.put,binA,conc,ap1,ofVal,Int.reduceTMod,Int.reduceTDiv,reduceCtorEq,fillA,AV.cells,AV.fine,AV.one,Nat.reduceAdd,Nat.reduceSub,Nat.reduceMul,Nat.reduceLT,Nat.reduceLeDiff,Int.reduceLT,Int.reduceLE,Int.reduceAdd,Int.reduceSub,Int.reduceNeg,Int.reduceMul,Int.reduceEq,Int.reduceToNat,nilA,moveA,live,loadA,rdA,storeA,wrA,intA,elemA,lenA,appA,srcA,isPtr,isNilPtr,partA,resOf,sliceA,cut,id,ap2,reduceIte,concs,chkB,geB,AOp.cls,AOp.xs,ltB,ltC,Nat.reduceBEq,Option.toList,List.cons_append,decide_eq_true,decide_eq_false,if_pos,if_neg,List.length_map,pA_at,bVb,bVn,eq_self,Bool.and_self,BEq.rfl,not_true_eq_false,gR0,gR01,gR02,sR0,sR01,sR02,lR0,lR1,gR1,gR2,gR22,sR1,sR2,sR22,geB,gj1_0,sj1_0,len_last];(with_reducible first|(refine hK _ ?_;clear hK K)|(refine hK ?_;clear hK hK3 K hK2)|(refine hK3 ?_;clear hK hK3 K hK2)))|((with_reducible refine kps 50 ?_ ?_ ?_ ?_);rotate_left 1;rfl;exact h30))
      refine w_loop_m [5,17,18,19,20,21,22,23,24,25,26,27,28,29,30,31,32,33,34,35] (fun j v2 H=>v2 5=I j∧H=J++⟨67,2,m.map pA,g,fz⟩::K) c ⟨rfl,rfl⟩ ?_ ?_
      · rintro j v2 H hj ⟨h5, rfl⟩
        have hjm:j < m.length:=by omega
        have hlt:=(hidx j hjm).2 hj
        have hjs:=hks j hjm
        simp only [mix,mix_nil,mix_end,mix_skp,Nat.reduceEqDiff,Nat.reduceLeDiff,reduceCtorEq,if_true,if_false,reduceIte,Nat.reduceAdd,h5]
        repeat (first|(with_reducible first|refine w_seq ?_|refine w_reg ?_|refine w_draw ?_|refine w_block ?_|refine w_skip ?_|refine ws_nil ?_|refine wd_nil ?_|refine q_then ?_|refine q_block_n ?_)|((with_reducible refine kgd_t ?_ ?_);rfl)|((with_reducible first|refine ks fun K hK=>?_|refine kd fun K hK=>?_|refine kc fun K hK2 hK hK3=>?_);simp (disch:=omega) only [bg0,bg1,bg2,bg3,bg4,stepO,rsAs,eff,AX.ev,St.put,binA,conc,ap1,ofVal,Int.reduceTMod,Int.reduceTDiv,reduceCtorEq,fillA,AV.cells,AV.fine,AV.one,Nat.reduceAdd,Nat.reduceSub,Nat.reduceMul,Nat.reduceLT,Nat.reduceLeDiff,Int.reduceLT,Int.reduceLE,Int.reduceAdd,Int.reduceSub,Int.reduceNeg,Int.reduceMul,Int.reduceEq,Int.reduceToNat,nilA,moveA,live,loadA,rdA,storeA,wrA,intA,elemA,lenA,appA,srcA,isPtr,isNilPtr,partA,resOf,sliceA,cut,id,ap2,reduceIte,concs,chkB,geB,AOp.cls,AOp.xs,ltB,ltC,Nat.reduceBEq,Option.toList,List.cons_append,decide_eq_true,decide_eq_false,if_pos,if_neg,List.length_map,pA_at,bVb,bVn,eq_self,Bool.and_self,BEq.rfl,not_true_eq_false,gR0,gR01,gR02,sR0,sR01,sR02,lR0,lR1,gR1,gR2,gR22,sR1,sR2,sR22,geB,gj1_0,sj1_0,len_last,hlt];(with_reducible first|(refine hK _ ?_;clear hK K)|(refine hK ?_;clear hK hK3 K hK2)|(refine hK3 ?_;clear hK hK3 K hK2)))|((first|((with_reducible refine kpd 51 ?_ ?_ ?_ ?_ ?_);rotate_left 1));(focus (simp (disch:=omega) only [bg0,bg1,bg2,bg3,bg4,stepO,rsAs,eff,AX.ev,St.put,binA,conc,ap1,ofVal,Int.reduceTMod,Int.reduceTDiv,reduceCtorEq,fillA,AV.cells,AV.fine,AV.one,Nat.reduceAdd,Nat.reduceSub,Nat.reduceMul,Nat.reduceLT,Nat.reduceLeDiff,Int.reduceLT,Int.reduceLE,Int.reduceAdd,Int.reduceSub,Int.reduceNeg,Int.reduceMul,Int.reduceEq,Int.reduceToNat,nilA,moveA,live,loadA,rdA,storeA,wrA,intA,elemA,lenA,appA,srcA,isPtr,isNilPtr,partA,resOf,sliceA,cut,id,ap2,reduceIte,concs,chkB,geB,AOp.cls,AOp.xs,ltB,ltC,Nat.reduceBEq,Option.toList,List.cons_append,decide_eq_true,decide_eq_false,if_pos,if_neg,List.length_map,pA_at,bVb,bVn,eq_self,Bool.and_self,BEq.rfl,not_true_eq_false,gR0,gR01,gR02,sR0,sR01,sR02,lR0,lR1,gR1,gR2,gR22,sR1,sR2,sR22,geB,gj1_0,sj1_0,len_last,hlt];try rfl));(first|(rfl;exact (by refine lessP G _ _ ?_ ?_<;>assumption)))))
        exact ⟨rfl,rfl,rfl⟩
      · rintro v2 H ⟨h5, rfl⟩
        have s3:(m.map pA).take m.length=m.map pA:=List.take_of_length_le (by simp)
        have lL:((m.map pA).take c).length=c:=by simp;omega
        have lD:((m.map pA).drop c).length=m.length - c:=by simp
        have lT:(((m.map pA).take c).take c)=(m.map pA).take c:=by rw [List.take_take,Nat.min_self]
        have lS:((m.map pA).take c++[AV.agg [S (l[k]).1,S (l[k]).2]]).length=c+1:=by simp;omega
        have lU:((m.map pA).take c++[AV.agg [S (l[k]).1,S (l[k]).2]]).take (c+1)=(m.map pA).take c++[AV.agg [S (l[k]).1,S (l[k]).2]]:=List.take_of_length_le (by rw [lS];omega)
        have hc0:((c:Int)=0)=(c=0):=by simp
        have hcI:(c:Int)≤(m.length:Int):=by omega
        by_cases hz:c=0
        · subst hz
          simp only [List.take_zero,List.nil_append,List.drop_zero] at hmk
          by_cases hcm:m.length=0
          · have m0 : m = [] := List.length_eq_zero_iff.1 hcm
            have hm0:m.map pA=[]:=by rw [List.length_eq_zero_iff.1 hcm];rfl
            rw [hm0,List.append_nil] at hmk
            · simp only [mix, mix_nil, mix_end, mix_skp, Nat.reduceEqDiff, Nat.reduceLeDiff, reduceCtorEq, if_true, if_false, reduceIte, Nat.reduceAdd, h5]
              repeat (first|(with_reducible first|refine w_seq ?_|refine w_draw ?_|refine w_exit ?_|refine wd_nil ?_|refine q_then ?_|refine q_then_x ?_|refine q_block_x ?_)|((with_reducible first|refine ks fun K hK=>?_|refine kd fun K hK=>?_|refine kc fun K hK2 hK hK3=>?_);simp (disch:=omega) only [bg0,bg1,bg2,bg3,bg4,stepO,rsAs,eff,AX.ev,St.put,binA,conc,ap1,ofVal,Int.reduceTMod,Int.reduceTDiv,reduceCtorEq,fillA,AV.cells,AV.fine,AV.one,Nat.reduceAdd,Nat.reduceSub,Nat.reduceMul,Nat.reduceLT,Nat.reduceLeDiff,Int.reduceLT,Int.reduceLE,Int.reduceAdd,Int.reduceSub,Int.reduceNeg,Int.reduceMul,Int.reduceEq,Int.reduceToNat,nilA,moveA,live,loadA,rdA,storeA,wrA,intA,elemA,lenA,appA,srcA,isPtr,isNilPtr,partA,resOf,sliceA,cut,id,ap2,reduceIte,concs,chkB,geB,AOp.cls,AOp.xs,ltB,ltC,Nat.reduceBEq,Option.toList,List.cons_append,decide_eq_true,decide_eq_false,if_pos,if_neg,List.length_map,pA_at,bVb,bVn,eq_self,Bool.and_self,BEq.rfl,not_true_eq_false,gR0,gR01,gR02,sR0,sR01,sR02,lR0,lR1,gR1,gR2,gR22,sR1,sR2,sR22,geB,gj1_0,sj1_0,len_last,hcm,hc0,s3,pO];(with_reducible first|(refine hK _ ?_;clear hK K)|(refine hK ?_;clear hK hK3 K hK2)|(refine hK3 ?_;clear hK hK3 K hK2)))|((first|((with_reducible refine kgd_u ?_ ?_ ?_);rotate_left 1;rfl)|((with_reducible refine kgd_f ?_ ?_ ?_);rotate_left 1;rfl));rotate_left 1;(focus (simp (disch:=omega) only [bg0,bg1,bg2,bg3,bg4,stepO,rsAs,eff,AX.ev,St.put,binA,conc,ap1,ofVal,Int.reduceTMod,Int.reduceTDiv,reduceCtorEq,fillA,AV.cells,AV.fine,AV.one,Nat.reduceAdd,Nat.reduceSub,Nat.reduceMul,Nat.reduceLT,Nat.reduceLeDiff,Int.reduceLT,Int.reduceLE,Int.reduceAdd,Int.reduceSub,Int.reduceNeg,Int.reduceMul,Int.reduceEq,Int.reduceToNat,nilA,moveA,live,loadA,rdA,storeA,wrA,intA,elemA,lenA,appA,srcA,isPtr,isNilPtr,partA,resOf,sliceA,cut,id,ap2,reduceIte,concs,chkB,geB,AOp.cls,AOp.xs,ltB,ltC,Nat.reduceBEq,Option.toList,List.cons_append,decide_eq_true,decide_eq_false,if_pos,if_neg,List.length_map,pA_at,bVb,bVn,eq_self,Bool.and_self,BEq.rfl,not_true_eq_false,gR0,gR01,gR02,sR0,sR01,sR02,lR0,lR1,gR1,gR2,gR22,sR1,sR2,sR22,geB,gj1_0,sj1_0,len_last,hcm,hc0,s3,pO];try rfl))))
              refine w_drawy3 ?_ ?_ ?_
              all_goals
                repeat (first|(with_reducible first|refine w_reg ?_|refine ws_nil ?_|refine wd_nil ?_|refine q_then ?_|refine q_block_n ?_)|((with_reducible first|refine ks fun K hK=>?_|refine kd fun K hK=>?_|refine kc fun K hK2 hK hK3=>?_);simp (disch:=omega) only [bg0,bg1,bg2,bg3,bg4,stepO,rsAs,eff,AX.ev,St.put,binA,conc,ap1,ofVal,Int.reduceTMod,Int.reduceTDiv,reduceCtorEq,fillA,AV.cells,AV.fine,AV.one,Nat.reduceAdd,Nat.reduceSub,Nat.reduceMul,Nat.reduceLT,Nat.reduceLeDiff,Int.reduceLT,Int.reduceLE,Int.reduceAdd,Int.reduceSub,Int.reduceNeg,Int.reduceMul,Int.reduceEq,Int.reduceToNat,nilA,moveA,live,loadA,rdA,storeA,wrA,intA,elemA,lenA,appA,srcA,isPtr,isNilPtr,partA,resOf,sliceA,cut,id,ap2,reduceIte,concs,chkB,geB,AOp.cls,AOp.xs,ltB,ltC,Nat.reduceBEq,Option.toList,List.cons_append,decide_eq_true,decide_eq_false,if_pos,if_neg,List.length_map,pA_at,bVb,bVn,eq_self,Bool.and_self,BEq.rfl,not_true_eq_false,gR0,gR01,gR02,sR0,sR01,sR02,lR0,lR1,gR1,gR2,gR22,sR1,sR2,sR22,geB,gj1_0,sj1_0,len_last,hcm,hc0,s3,pO];(with_reducible first|(refine hK _ ?_;clear hK K)|(refine hK ?_;clear hK hK3 K hK2)|(refine hK3 ?_;clear hK hK3 K hK2))))
                refine fin15 (l:=l) (pre:=pre++[l[k]]) rfl hla2 rfl ?_
                rw [hmk,hml]
                first|exact ⟨_,_,3,_,by simp [lR0,lR1,m0]<;>omega,List.append_assoc _ _ _⟩|exact ⟨_,_,3,_,by simp [lR0,lR1,m0]<;>omega,rfl⟩
          · have hlt:¬ cB (m[0]'(by omega)).1 (l[k]).1 < 0:=fun h=>by have:=(hidx 0 (by omega)).1 h;omega
            have hjs:=hks 0 (by omega)
            · simp only [mix, mix_nil, mix_end, mix_skp, Nat.reduceEqDiff, Nat.reduceLeDiff, reduceCtorEq, if_true, if_false, reduceIte, Nat.reduceAdd, h5]
              repeat (first|(with_reducible first|refine w_seq ?_|refine w_draw ?_|refine w_exit ?_|refine wd_nil ?_|refine q_then ?_|refine q_then_x ?_|refine q_block_x ?_)|((with_reducible refine kgd_t ?_ ?_);rfl)|((with_reducible first|refine ks fun K hK=>?_|refine kd fun K hK=>?_|refine kc fun K hK2 hK hK3=>?_);simp (disch:=omega) only [bg0,bg1,bg2,bg3,bg4,stepO,rsAs,eff,AX.ev,St.put,binA,conc,ap1,ofVal,Int.reduceTMod,Int.reduceTDiv,reduceCtorEq,fillA,AV.cells,AV.fine,AV.one,Nat.reduceAdd,Nat.reduceSub,Nat.reduceMul,Nat.reduceLT,Nat.reduceLeDiff,Int.reduceLT,Int.reduceLE,Int.reduceAdd,Int.reduceSub,Int.reduceNeg,Int.reduceMul,Int.reduceEq,Int.reduceToNat,nilA,moveA,live,loadA,rdA,storeA,wrA,intA,elemA,lenA,appA,srcA,isPtr,isNilPtr,partA,resOf,sliceA,cut,id,ap2,reduceIte,concs,chkB,geB,AOp.cls,AOp.xs,ltB,ltC,Nat.reduceBEq,Option.toList,List.cons_append,decide_eq_true,decide_eq_false,if_pos,if_neg,List.length_map,pA_at,bVb,bVn,eq_self,Bool.and_self,BEq.rfl,not_true_eq_false,gR0,gR01,gR02,sR0,sR01,sR02,lR0,lR1,gR1,gR2,gR22,sR1,sR2,sR22,geB,gj1_0,sj1_0,len_last,hlt,hc0,s3,pO];(with_reducible first|(refine hK _ ?_;clear hK K)|(refine hK ?_;clear hK hK3 K hK2)|(refine hK3 ?_;clear hK hK3 K hK2)))|((first|((with_reducible refine kpd 51 ?_ ?_ ?_ ?_ ?_);rotate_left 1));(focus (simp (disch:=omega) only [bg0,bg1,bg2,bg3,bg4,stepO,rsAs,eff,AX.ev,St.put,binA,conc,ap1,ofVal,Int.reduceTMod,Int.reduceTDiv,reduceCtorEq,fillA,AV.cells,AV.fine,AV.one,Nat.reduceAdd,Nat.reduceSub,Nat.reduceMul,Nat.reduceLT,Nat.reduceLeDiff,Int.reduceLT,Int.reduceLE,Int.reduceAdd,Int.reduceSub,Int.reduceNeg,Int.reduceMul,Int.reduceEq,Int.reduceToNat,nilA,moveA,live,loadA,rdA,storeA,wrA,intA,elemA,lenA,appA,srcA,isPtr,isNilPtr,partA,resOf,sliceA,cut,id,ap2,reduceIte,concs,chkB,geB,AOp.cls,AOp.xs,ltB,ltC,Nat.reduceBEq,Option.toList,List.cons_append,decide_eq_true,decide_eq_false,if_pos,if_neg,List.length_map,pA_at,bVb,bVn,eq_self,Bool.and_self,BEq.rfl,not_true_eq_false,gR0,gR01,gR02,sR0,sR01,sR02,lR0,lR1,gR1,gR2,gR22,sR1,sR2,sR22,geB,gj1_0,sj1_0,len_last,hlt,hc0,s3,pO];try rfl));(first|(rfl;exact (by refine lessP G _ _ ?_ ?_<;>assumption)))))
              refine w_drawy3 ?_ ?_ ?_
              all_goals
                repeat (first|(with_reducible first|refine w_reg ?_|refine ws_nil ?_|refine wd_nil ?_|refine q_then ?_|refine q_block_n ?_)|((with_reducible first|refine ks fun K hK=>?_|refine kd fun K hK=>?_|refine kc fun K hK2 hK hK3=>?_);simp (disch:=omega) only [bg0,bg1,bg2,bg3,bg4,stepO,rsAs,eff,AX.ev,St.put,binA,conc,ap1,ofVal,Int.reduceTMod,Int.reduceTDiv,reduceCtorEq,fillA,AV.cells,AV.fine,AV.one,Nat.reduceAdd,Nat.reduceSub,Nat.reduceMul,Nat.reduceLT,Nat.reduceLeDiff,Int.reduceLT,Int.reduceLE,Int.reduceAdd,Int.reduceSub,Int.reduceNeg,Int.reduceMul,Int.reduceEq,Int.reduceToNat,nilA,moveA,live,loadA,rdA,storeA,wrA,intA,elemA,lenA,appA,srcA,isPtr,isNilPtr,partA,resOf,sliceA,cut,id,ap2,reduceIte,concs,chkB,geB,AOp.cls,AOp.xs,ltB,ltC,Nat.reduceBEq,Option.toList,List.cons_append,decide_eq_true,decide_eq_false,if_pos,if_neg,List.length_map,pA_at,bVb,bVn,eq_self,Bool.and_self,BEq.rfl,not_true_eq_false,gR0,gR01,gR02,sR0,sR01,sR02,lR0,lR1,gR1,gR2,gR22,sR1,sR2,sR22,geB,gj1_0,sj1_0,len_last,hc0,s3,pO];(with_reducible first|(refine hK _ ?_;clear hK K)|(refine hK ?_;clear hK hK3 K hK2)|(refine hK3 ?_;clear hK hK3 K hK2))))
                refine fin15 (l:=l) (pre:=pre++[l[k]]) rfl hla2 rfl ?_
                rw [hmk,hml]
                first|exact ⟨_,_,3,_,by simp [lR0,lR1]<;>omega,List.append_assoc _ _ _⟩|exact ⟨_,_,3,_,by simp [lR0,lR1]<;>omega,rfl⟩
        · by_cases hcm : c = m.length
          · have hlt : ¬ ((c : Int) < (m.length : Int)) := by omega
            · simp only [mix, mix_nil, mix_end, mix_skp, Nat.reduceEqDiff, Nat.reduceLeDiff, reduceCtorEq, if_true, if_false, reduceIte, Nat.reduceAdd, h5]
              repeat (first|(with_reducible first|refine w_seq ?_|refine w_draw ?_|refine w_exit ?_|refine wd_nil ?_|refine q_then ?_|refine q_then_x ?_|refine q_block_x ?_)|((with_reducible first|refine ks fun K hK=>?_|refine kd fun K hK=>?_|refine kc fun K hK2 hK hK3=>?_);simp (disch:=omega) only [bg0,bg1,bg2,bg3,bg4,stepO,rsAs,eff,AX.ev,St.put,binA,conc,ap1,ofVal,Int.reduceTMod,Int.reduceTDiv,reduceCtorEq,fillA,AV.cells,AV.fine,AV.one,Nat.reduceAdd,Nat.reduceSub,Nat.reduceMul,Nat.reduceLT,Nat.reduceLeDiff,Int.reduceLT,Int.reduceLE,Int.reduceAdd,Int.reduceSub,Int.reduceNeg,Int.reduceMul,Int.reduceEq,Int.reduceToNat,nilA,moveA,live,loadA,rdA,storeA,wrA,intA,elemA,lenA,appA,srcA,isPtr,isNilPtr,partA,resOf,sliceA,cut,id,ap2,reduceIte,concs,chkB,geB,AOp.cls,AOp.xs,ltB,ltC,Nat.reduceBEq,Option.toList,List.cons_append,decide_eq_true,decide_eq_false,if_pos,if_neg,List.length_map,pA_at,bVb,bVn,eq_self,Bool.and_self,BEq.rfl,not_true_eq_false,gR0,gR01,gR02,sR0,sR01,sR02,lR0,lR1,gR1,gR2,gR22,sR1,sR2,sR22,geB,gj1_0,sj1_0,len_last,hlt,hc0,hz,s3,lL,lD,lT,lS,lU,pO];(with_reducible first|(refine hK _ ?_;clear hK K)|(refine hK ?_;clear hK hK3 K hK2)|(refine hK3 ?_;clear hK hK3 K hK2)))|((first|((with_reducible refine kgd_u ?_ ?_ ?_);rotate_left 1;rfl)|((with_reducible refine kgd_f ?_ ?_ ?_);rotate_left 1;rfl));rotate_left 1;(focus (simp (disch:=omega) only [bg0,bg1,bg2,bg3,bg4,stepO,rsAs,eff,AX.ev,St.put,binA,conc,ap1,ofVal,Int.reduceTMod,Int.reduceTDiv,reduceCtorEq,fillA,AV.cells,AV.fine,AV.one,Nat.reduceAdd,Nat.reduceSub,Nat.reduceMul,Nat.reduceLT,Nat.reduceLeDiff,Int.reduceLT,Int.reduceLE,Int.reduceAdd,Int.reduceSub,Int.reduceNeg,Int.reduceMul,Int.reduceEq,Int.reduceToNat,nilA,moveA,live,loadA,rdA,storeA,wrA,intA,elemA,lenA,appA,srcA,isPtr,isNilPtr,partA,resOf,sliceA,cut,id,ap2,reduceIte,concs,chkB,geB,AOp.cls,AOp.xs,ltB,ltC,Nat.reduceBEq,Option.toList,List.cons_append,decide_eq_true,decide_eq_false,if_pos,if_neg,List.length_map,pA_at,bVb,bVn,eq_self,Bool.and_self,BEq.rfl,not_true_eq_false,gR0,gR01,gR02,sR0,sR01,sR02,lR0,lR1,gR1,gR2,gR22,sR1,sR2,sR22,geB,gj1_0,sj1_0,len_last,hlt,hc0,hz,s3,lL,lD,lT,lS,lU,pO];try rfl))))
              refine w_drawy3 ?_ ?_ ?_
              all_goals
                repeat (first|(with_reducible first|refine w_reg ?_|refine ws_nil ?_|refine wd_nil ?_|refine q_then ?_|refine q_block_n ?_)|((with_reducible first|refine ks fun K hK=>?_|refine kd fun K hK=>?_|refine kc fun K hK2 hK hK3=>?_);simp (disch:=omega) only [bg0,bg1,bg2,bg3,bg4,stepO,rsAs,eff,AX.ev,St.put,binA,conc,ap1,ofVal,Int.reduceTMod,Int.reduceTDiv,reduceCtorEq,fillA,AV.cells,AV.fine,AV.one,Nat.reduceAdd,Nat.reduceSub,Nat.reduceMul,Nat.reduceLT,Nat.reduceLeDiff,Int.reduceLT,Int.reduceLE,Int.reduceAdd,Int.reduceSub,Int.reduceNeg,Int.reduceMul,Int.reduceEq,Int.reduceToNat,nilA,moveA,live,loadA,rdA,storeA,wrA,intA,elemA,lenA,appA,srcA,isPtr,isNilPtr,partA,resOf,sliceA,cut,id,ap2,reduceIte,concs,chkB,geB,AOp.cls,AOp.xs,ltB,ltC,Nat.reduceBEq,Option.toList,List.cons_append,decide_eq_true,decide_eq_false,if_pos,if_neg,List.length_map,pA_at,bVb,bVn,eq_self,Bool.and_self,BEq.rfl,not_true_eq_false,gR0,gR01,gR02,sR0,sR01,sR02,lR0,lR1,gR1,gR2,gR22,sR1,sR2,sR22,geB,gj1_0,sj1_0,len_last,hc0,hz,s3,lL,lD,lT,lS,lU,pO,purC,Int.natCast_nonneg,hcI];(with_reducible first|(refine hK _ ?_;clear hK K)|(refine hK ?_;clear hK hK3 K hK2)|(refine hK3 ?_;clear hK hK3 K hK2))))
                refine fin15 (l:=l) (pre:=pre++[l[k]]) rfl hla2 rfl ?_
                rw [hmk,hml]
                first|exact ⟨_,_,3,_,by simp [lR0,lR1]<;>omega,List.append_assoc _ _ _⟩|exact ⟨_,_,3,_,by simp [lR0,lR1]<;>omega,rfl⟩
          · have hlt:¬ cB (m[c]'(by omega)).1 (l[k]).1 < 0:=fun h=>by have:=(hidx c (by omega)).1 h;omega
            have hjs:=hks c (by omega)
            · simp only [mix, mix_nil, mix_end, mix_skp, Nat.reduceEqDiff, Nat.reduceLeDiff, reduceCtorEq, if_true, if_false, reduceIte, Nat.reduceAdd, h5]
              repeat (first|(with_reducible first|refine w_seq ?_|refine w_draw ?_|refine w_exit ?_|refine wd_nil ?_|refine q_then ?_|refine q_then_x ?_|refine q_block_x ?_)|((with_reducible refine kgd_t ?_ ?_);rfl)|((with_reducible first|refine ks fun K hK=>?_|refine kd fun K hK=>?_|refine kc fun K hK2 hK hK3=>?_);simp (disch:=omega) only [bg0,bg1,bg2,bg3,bg4,stepO,rsAs,eff,AX.ev,St.put,binA,conc,ap1,ofVal,Int.reduceTMod,Int.reduceTDiv,reduceCtorEq,fillA,AV.cells,AV.fine,AV.one,Nat.reduceAdd,Nat.reduceSub,Nat.reduceMul,Nat.reduceLT,Nat.reduceLeDiff,Int.reduceLT,Int.reduceLE,Int.reduceAdd,Int.reduceSub,Int.reduceNeg,Int.reduceMul,Int.reduceEq,Int.reduceToNat,nilA,moveA,live,loadA,rdA,storeA,wrA,intA,elemA,lenA,appA,srcA,isPtr,isNilPtr,partA,resOf,sliceA,cut,id,ap2,reduceIte,concs,chkB,geB,AOp.cls,AOp.xs,ltB,ltC,Nat.reduceBEq,Option.toList,List.cons_append,decide_eq_true,decide_eq_false,if_pos,if_neg,List.length_map,pA_at,bVb,bVn,eq_self,Bool.and_self,BEq.rfl,not_true_eq_false,gR0,gR01,gR02,sR0,sR01,sR02,lR0,lR1,gR1,gR2,gR22,sR1,sR2,sR22,geB,gj1_0,sj1_0,len_last,hlt,hc0,hz,s3,lL,lD,lT,lS,lU,pO];(with_reducible first|(refine hK _ ?_;clear hK K)|(refine hK ?_;clear hK hK3 K hK2)|(refine hK3 ?_;clear hK hK3 K hK2)))|((first|((with_reducible refine kpd 51 ?_ ?_ ?_ ?_ ?_);rotate_left 1));(focus (simp (disch:=omega) only [bg0,bg1,bg2,bg3,bg4,stepO,rsAs,eff,AX.ev,St.put,binA,conc,ap1,ofVal,Int.reduceTMod,Int.reduceTDiv,reduceCtorEq,fillA,AV.cells,AV.fine,AV.one,Nat.reduceAdd,Nat.reduceSub,Nat.reduceMul,Nat.reduceLT,Nat.reduceLeDiff,Int.reduceLT,Int.reduceLE,Int.reduceAdd,Int.reduceSub,Int.reduceNeg,Int.reduceMul,Int.reduceEq,Int.reduceToNat,nilA,moveA,live,loadA,rdA,storeA,wrA,intA,elemA,lenA,appA,srcA,isPtr,isNilPtr,partA,resOf,sliceA,cut,id,ap2,reduceIte,concs,chkB,geB,AOp.cls,AOp.xs,ltB,ltC,Nat.reduceBEq,Option.toList,List.cons_append,decide_eq_true,decide_eq_false,if_pos,if_neg,List.length_map,pA_at,bVb,bVn,eq_self,Bool.and_self,BEq.rfl,not_true_eq_false,gR0,gR01,gR02,sR0,sR01,sR02,lR0,lR1,gR1,gR2,gR22,sR1,sR2,sR22,geB,gj1_0,sj1_0,len_last,hlt,hc0,hz,s3,lL,lD,lT,lS,lU,pO];try rfl));(first|(rfl;exact (by refine lessP G _ _ ?_ ?_<;>assumption)))))
              refine w_drawy3 ?_ ?_ ?_
              all_goals
                repeat (first|(with_reducible first|refine w_reg ?_|refine ws_nil ?_|refine wd_nil ?_|refine q_then ?_|refine q_block_n ?_)|((with_reducible first|refine ks fun K hK=>?_|refine kd fun K hK=>?_|refine kc fun K hK2 hK hK3=>?_);simp (disch:=omega) only [bg0,bg1,bg2,bg3,bg4,stepO,rsAs,eff,AX.ev,St.put,binA,conc,ap1,ofVal,Int.reduceTMod,Int.reduceTDiv,reduceCtorEq,fillA,AV.cells,AV.fine,AV.one,Nat.reduceAdd,Nat.reduceSub,Nat.reduceMul,Nat.reduceLT,Nat.reduceLeDiff,Int.reduceLT,Int.reduceLE,Int.reduceAdd,Int.reduceSub,Int.reduceNeg,Int.reduceMul,Int.reduceEq,Int.reduceToNat,nilA,moveA,live,loadA,rdA,storeA,wrA,intA,elemA,lenA,appA,srcA,isPtr,isNilPtr,partA,resOf,sliceA,cut,id,ap2,reduceIte,concs,chkB,geB,AOp.cls,AOp.xs,ltB,ltC,Nat.reduceBEq,Option.toList,List.cons_append,decide_eq_true,decide_eq_false,if_pos,if_neg,List.length_map,pA_at,bVb,bVn,eq_self,Bool.and_self,BEq.rfl,not_true_eq_false,gR0,gR01,gR02,sR0,sR01,sR02,lR0,lR1,gR1,gR2,gR22,sR1,sR2,sR22,geB,gj1_0,sj1_0,len_last,hc0,hz,s3,lL,lD,lT,lS,lU,pO,purC,Int.natCast_nonneg,hcI];(with_reducible first|(refine hK _ ?_;clear hK K)|(refine hK ?_;clear hK hK3 K hK2)|(refine hK3 ?_;clear hK hK3 K hK2))))
                refine fin15 (l:=l) (pre:=pre++[l[k]]) rfl hla2 rfl ?_
                rw [hmk,hml]
                first|exact ⟨_,_,3,_,by simp [lR0,lR1]<;>omega,List.append_assoc _ _ _⟩|exact ⟨_,_,3,_,by simp [lR0,lR1]<;>omega,rfl⟩
    · rw [if_neg hr] at hla
      have h30:=last30 G l hl k hk false (by simp [hr])
      repeat (first|(with_reducible first|refine w_seq ?_|refine w_reg ?_|refine w_block ?_|refine w_skip ?_|refine w_exit ?_|refine ws_nil ?_|refine q_then ?_|refine q_then_x ?_|refine q_block_x ?_)|((with_reducible first|refine ks fun K hK=>?_|refine kd fun K hK=>?_|refine kc fun K hK2 hK hK3=>?_);simp (disch:=omega) only [bg0,bg1,bg2,bg3,bg4,stepO,rsAs,eff,AX.ev,St.put,binA,conc,ap1,ofVal,Int.reduceTMod,Int.reduceTDiv,reduceCtorEq,fillA,AV.cells,AV.fine,AV.one,Nat.reduceAdd,Nat.reduceSub,Nat.reduceMul,Nat.reduceLT,Nat.reduceLeDiff,Int.reduceLT,Int.reduceLE,Int.reduceAdd,Int.reduceSub,Int.reduceNeg,Int.reduceMul,Int.reduceEq,Int.reduceToNat,nilA,moveA,live,loadA,rdA,storeA,wrA,intA,elemA,lenA,appA,srcA,isPtr,isNilPtr,partA,resOf,sliceA,cut,id,ap2,reduceIte,concs,chkB,geB,AOp.cls,AOp.xs,ltB,ltC,Nat.reduceBEq,Option.toList,List.cons_append,decide_eq_true,decide_eq_false,if_pos,if_neg,List.length_map,pA_at,bVb,bVn,eq_self,Bool.and_self,BEq.rfl,not_true_eq_false,gR0,gR01,gR02,sR0,sR01,sR02,lR0,lR1,gR1,gR2,gR22,sR1,sR2,sR22,geB,gj1_0,sj1_0,len_last];(with_reducible first|(refine hK _ ?_;clear hK K)|(refine hK ?_;clear hK hK3 K hK2)|(refine hK3 ?_;clear hK hK3 K hK2)))|((with_reducible refine kps 50 ?_ ?_ ?_ ?_);rotate_left 1;rfl;exact h30))
      exact ⟨rfl,pre,J,K,g,fz,hla,rfl,rfl,rfl⟩
  · rintro v H ⟨pre, J, K, g, fz, hla, h4, h3, rfl⟩
    simp only [mix,mix_nil,mix_end,mix_skp,Nat.reduceEqDiff,Nat.reduceLeDiff,reduceCtorEq,if_true,if_false,reduceIte,Nat.reduceAdd,h3,h4]
    rw [List.drop_length] at hla
    have:mk pre=mk l:=by
      refine eq_mk (mk_lt pre) fun k=>?_
      rw [mk_val,← lasts_val l,hla];simp [lasts]
    rw [this]
    repeat (first|(with_reducible first|refine w_seq ?_|refine w_reg ?_|refine w_exit ?_|refine ws_nil ?_|refine q_then ?_|refine q_then_x ?_|refine q_block_x ?_|refine w_ret ?_)|((with_reducible first|refine ks fun K hK=>?_|refine kd fun K hK=>?_|refine kc fun K hK2 hK hK3=>?_);simp (disch:=omega) only [bg0,bg1,bg2,bg3,bg4,stepO,rsAs,eff,AX.ev,St.put,binA,conc,ap1,ofVal,Int.reduceTMod,Int.reduceTDiv,reduceCtorEq,fillA,AV.cells,AV.fine,AV.one,Nat.reduceAdd,Nat.reduceSub,Nat.reduceMul,Nat.reduceLT,Nat.reduceLeDiff,Int.reduceLT,Int.reduceLE,Int.reduceAdd,Int.reduceSub,Int.reduceNeg,Int.reduceMul,Int.reduceEq,Int.reduceToNat,nilA,moveA,live,loadA,rdA,storeA,wrA,intA,elemA,lenA,appA,srcA,isPtr,isNilPtr,partA,resOf,sliceA,cut,id,ap2,reduceIte,concs,chkB,geB,AOp.cls,AOp.xs,ltB,ltC,Nat.reduceBEq,Option.toList,List.cons_append,decide_eq_true,decide_eq_false,if_pos,if_neg,List.length_map,pA_at,bVb,bVn,eq_self,Bool.and_self,BEq.rfl,not_true_eq_false,gR0,gR01,gR02,sR0,sR01,sR02,lR0,lR1,gR1,gR2,gR22,sR1,sR2,sR22,geB,gj1_0,sj1_0,len_last];(with_reducible first|(refine hK _ ?_;clear hK K)|(refine hK ?_;clear hK hK3 K hK2)|(refine hK3 ?_;clear hK hK3 K hK2))))
    exact ret_frz rfl gR0 (by simp) (all_pA _)
end Go.Proofs.Ytefkaglgekjlfaa.Sim.Pr7
namespace Go.Proofs.Ytefkaglgekjlfaa.Sim
open Go.RowKit
set_option maxRecDepth 100000
section
variable (G:Nat→AV)
theorem mk34 (b:Int) (hb:i64 b):∀ (f:Nat) (lv:Int),0≤lv→lv+f=(lvN b:Nat)→∀ (m:List Pr) (h:List Nd),m.length≤40→(∀ p ∈ m,p.1.size≤100000)→h.length+m.length * (f+1)≤100000→HC Try.prog G 34 [hA h.length,I b,.sl 2 (m.map pA),I lv] (hW h) (.tup [hA (mkT b f lv m h).1.length,I (mkT b f lv m h).2]) (hW (mkT b f lv m h).1):=by
  intro f
  induction f with
  | zero =>
    intro lv h0 hlv m h hm hk hh
    by_cases e0:m.length=0
    · have e : mkT b 0 lv m h = (h, 0) := by rw [mkT, if_pos e0]
      rw [e,List.length_eq_zero_iff.1 e0]
      exact mk0 G h b lv
    by_cases e1:m.length=1
    · have e : mkT b 0 lv m h = (h ++ [lfN (m.headD default)], (h.length : Int) + 1) := by rw [mkT, if_neg e0, if_pos e1]
      obtain ⟨p,rfl⟩:=List.length_eq_one_iff.1 e1
      have:=mk1 G h (by simp at hh;omega) [p] p rfl rfl b lv
      have e2:(h++[lfN p]).length=h.length+1:=by simp
      have e3:hW (h++[lfN p])=[⟨41,9,(h++[lfN p]).map nA,h.length+1,0⟩]:=by unfold hW;rw [e2]
      rw [e]
      dsimp only [List.headD_cons]
      rw [e2,e3]
      exact this
    · have e : mkT b 0 lv m h = (h ++ [bkN m], (h.length : Int) + 1) := by rw [mkT, if_neg e0, if_neg e1]
      have:=mkB G h (by omega) m hm (by omega) b lv (lvN b) (lev21 G b hb) (by omega)
      have e2:(h++[bkN m]).length=h.length+1:=by simp
      have e3:hW (h++[bkN m])=[⟨41,9,(h++[bkN m]).map nA,h.length+1,0⟩]:=by unfold hW;rw [e2]
      rw [e]
      dsimp only
      rw [e2,e3]
      exact this
  | succ f ih =>
    intro lv h0 hlv m h hm hk hh
    by_cases e0:m.length=0
    · have e : mkT b (f + 1) lv m h = (h, 0) := by rw [mkT, if_pos e0]
      rw [e,List.length_eq_zero_iff.1 e0]
      exact mk0 G h b lv
    by_cases e1:m.length=1
    · have e : mkT b (f + 1) lv m h = (h ++ [lfN (m.headD default)], (h.length : Int) + 1) := by rw [mkT, if_neg e0, if_pos e1]
      obtain ⟨p,rfl⟩:=List.length_eq_one_iff.1 e1
      have:=mk1 G h (by simp at hh;omega) [p] p rfl rfl b lv
      have e2:(h++[lfN p]).length=h.length+1:=by simp
      have e3:hW (h++[lfN p])=[⟨41,9,(h++[lfN p]).map nA,h.length+1,0⟩]:=by unfold hW;rw [e2]
      rw [e]
      dsimp only [List.headD_cons]
      rw [e2,e3]
      exact this
    · have h13 := lvN_le (b := b)
      exact mkR G f b lv m hm (by omega) hk h hh ⟨h0,by omega⟩ (lvN b) (lev21 G b hb) (by omega) (fun k hk=>chk52 G k hk lv b ⟨by omega,by omega⟩ hb) (fun m h=>ih (lv+1) (by omega) (by omega) m h)
end
theorem prs_inv {cs:List AV} (h:ShC Try.prog 39 cs):∃ l:List Pr,mkE false cs = .sl 2 (l.map pA)∧l.length≤9223372036854775807∧∀ p ∈ l,p.1.size≤9223372036854775807∧p.2.size≤9223372036854775807:=by
  have e2:isAggT Try.prog 67=true:=by kernel_rfl
  have e4:(Try.prog).cellsOf 67=2:=by kernel_rfl
  obtain ⟨dss,rfl,hl,hll⟩:=h.slice_inv (e:=67) (by kernel_rfl)
  obtain ⟨ls,rfl⟩:=pick_list (f:=pC) (fun cs h=>pair_inv h) dss hll
  have g2:(List.map pC ls).map (mkE (isAggT Try.prog 67))=(ls.map Subtype.val).map pA:=by rw [e2,List.map_map,List.map_map];rfl
  refine ⟨ls.map Subtype.val,?_,by simpa using hl,?_⟩
  · rw [g2,e4];rfl
  · intro p hp
    obtain ⟨q,_,rfl⟩:=List.mem_map.1 hp
    exact q.2
theorem FindTries_calls (as0 as1 as2:List AV) (s0:ShC Try.prog 3 as0) (s1:ShC Try.prog 39 as1) (s2:ShC Try.prog 9 as2):PC Try.prog (fun _=>.unk) 5 [mkE (isAggT Try.prog 3) as0,mkE (isAggT Try.prog 39) as1,mkE (isAggT Try.prog 9) as2] (Bo true):=by
  obtain ⟨b,h1,hb⟩:=int_inv s0
  obtain ⟨l,h2,h3,h4⟩:=prs_inv s1
  obtain ⟨k,h5,h6⟩:=txt_inv s2
  have e1:isAggT Try.prog 3=false:=by kernel_rfl
  have e2:isAggT Try.prog 39=false:=by kernel_rfl
  have e3:isAggT Try.prog 9=false:=by kernel_rfl
  rw [e1,e2,e3,h1,h2,h5]
  refine law5 _ l h3 h4 k h6 b hb (fun l h=>Pr7.rmake15 _ l h) (fun m hm=>?_)
  have h13:=lvN_le (b:=b)
  have hml:=hm.le
  exact mk34 _ b hb (lvN b) 0 (by omega) (by omega) m [] hml (fun p hp=>by have:=hm.sz p hp;omega) (by
    have:m.length * (lvN b+1)≤40 * 14:=Nat.mul_le_mul hml (by omega)
    simp;omega)
end Go.Proofs.Ytefkaglgekjlfaa.Sim
