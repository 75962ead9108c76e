/- Texts of this claim, part 8. -/
import Derived.Test.YtghbpplcgjeohaaMHeapCounts7
set_option linter.unusedVariables false
set_option linter.unusedSimpArgs false
namespace Go.Proofs.Ytghbpplcgjeohaa.Sim
open Go.RowKit
set_option maxRecDepth 100000
section
variable (G:Nat→AV)
set_option maxHeartbeats 4000000 in
theorem law4 (h0:List Nd) (hl0:h0.length≤9223372036854775807) (hx0:∀ x ∈ h0,x.Wd) (r:Int) (hr:i64 r):PC Try.prog G 4 [.sl 9 (h0.map nA),I r] (Bo true):=by
  have c5:=few5 G h0 hl0 hx0
  have c5b:=few5b G h0 hl0 hx0
  have hl:(fewL 12 1 h0).length≤12:=fewL_len
  have hx:=fewL_ok (n:=12) (w:=1) hx0
  generalize fewL 12 1 h0=h at *
  obtain ⟨c,hc⟩:∃ c,c=okR h r:=⟨_,rfl⟩
  have c13:=count13 G h (by omega) hx r c hc
  have c14:=depth14 G h (by omega) hx r hr c hc
  have c15:=refs15 G h (by omega) hx r c hc
  have c9:=fits9 G h (by omega) hx r c hc
  have c10:=works10 G
  have hLl:=rL_len hc
  have hS:=fun hL=>seq32 G (rL h r c) hL
  have hfit:c=true→PC Try.prog G 16 [.sl 9 (h.map nA),I r] (.sl 1 ((rL h r c).map iA))∧PC Try.prog G 17 [.sl 9 (h.map nA),I r] (I (Dp h r)):=fun e=>by
    have hc':=hc.symm
    rw [e] at hc'
    simp only [okR,Bool.and_eq_true,decide_eq_true_eq] at hc'
    obtain ⟨⟨q0,q1⟩,hh⟩:=hc'
    refine ⟨?_,ddepth G h (by omega) hx hh h.length r q0 q1 q1⟩
    have h1:=drefs16 G h (by omega) hx hh r q0 q1
    obtain ⟨n,rfl⟩:∃ n:Nat,r=(n:Int):=⟨r.toNat,by omega⟩
    rw [rl_up hh (by omega)] at h1
    rw [e];unfold rL
    rw [if_pos rfl,Int.toNat_natCast]
    exact h1
  have hz:c=false→rL h r c=[]:=fun e=>by rw [e];rfl
  generalize rL h r c=L at *
  have c18:=samer18 G L (by omega)
  have hLl2:L.length≤12:=by omega
  clear hLl hc
  refine pc_ofX cop4 ?_
  repeat' ((conv=>whnf);first|(with_reducible refine SeqP.go ?_)|(with_reducible refine SeqX.sp ?_)|((with_reducible refine ObD.mk ?_ ?_);(focus (first|rfl|(simp;done))))|((with_reducible refine ObN.mk ?_ ?_);(focus exact zN))|(with_reducible refine ObT.tt ?_)|(with_reducible refine ObT.ff ?_)|((with_reducible refine (?_:ObU _ _));(refine ObU.mk _ zU ?_))|((with_reducible refine (?_:ObR _ _ _));(first|(refine ObR.mk _ (by assumption) ?_)|(refine ObR.mk _ (by with_reducible rfl) ?_)|(refine ObR.map zX (fun x hx=>?_))|(refine ObR.mk _ rfl ?_)))|((with_reducible refine ObC.f 5 ?_);(first|(with_reducible refine ObC.mk _ (c5) ?_)|(refine ObC.mk _ (c5) ?_)))|((with_reducible refine ObC.f 5 ?_);(first|(with_reducible refine ObC.mk _ (c5b) ?_)|(refine ObC.mk _ (c5b) ?_)))|((with_reducible refine ObC.f 13 ?_);(first|(with_reducible refine ObC.mk _ (c13) ?_)|(refine ObC.mk _ (c13) ?_)))|((with_reducible refine ObC.f 14 ?_);(first|(with_reducible refine ObC.mk _ (c14) ?_)|(refine ObC.mk _ (c14) ?_)))|((with_reducible refine ObC.f 10 ?_);(first|(with_reducible refine ObC.mk _ (c10) ?_)|(refine ObC.mk _ (c10) ?_)))|((with_reducible refine ObC.f 15 ?_);(first|(with_reducible refine ObC.mk _ (c15) ?_)|(refine ObC.mk _ (c15) ?_))))
  conv=>whnf
  refine RngP.go 32 [.ad 1 [.sl 1 (L.map iA)] 0 0] (L.map iA) rfl rfl (hS (by omega)) Nat (fun k a=>a=k∧k≤L.length) (fun a=>[⟨28,1,(L.take a).map iA,0,0⟩,⟨38,1,[.ol 0 0 a],0,0⟩]) 0 ⟨rfl,Nat.zero_le _⟩ [(29,none)] (Fg.go ?_ rfl) ?_ ?_
  · repeat' ((conv=>whnf);first|((with_reducible refine ObEqs.mk ?_ ?_);(focus rfl))|exact True.intro)
  · rintro k a e ⟨rfl, hk⟩ he
    have hkl:a < L.length:=by
      have:=(List.getElem?_eq_some_iff.1 he).1
      simpa using this
    obtain rfl:e=I L[a]:=by
      rw [iA_at' hkl] at he;cases he;rfl
    have ra:=nr_i (L.take a)
    have us:((L.take a).map iA).take a++[I L[a]]=(L.take (a+1)).map iA:=by
      rw [List.take_of_length_le (by simp;omega),List.take_succ_eq_append_getElem hkl,List.map_append];rfl
    have us2:((L.take a).map iA).take a++[.v (.int .i64 L[a])]=(L.take (a+1)).map iA:=us
    have ra2:=nr_i (L.take (a+1))
    repeat' ((conv=>whnf);first|((with_reducible refine ObD.mk ?_ ?_);(focus (first|rfl|(simp;done))))|((with_reducible refine ObN.mk ?_ ?_);(focus exact zN))|((with_reducible refine (?_:ObL _ _));(refine ObL.mk _ zL ?_))|((with_reducible refine (?_:ObU _ _));(refine ObU.mk _ (by first|exact us|exact us2|assumption|((conv=>lhs;simp only [List.set_cons_zero,List.set_cons_succ,List.take_succ_cons,List.take_zero,List.drop_succ_cons,List.drop_zero,List.nil_append,List.cons_append,List.append_nil,List.take_nil,List.drop_nil]);try rfl)|rfl) ?_))|((with_reducible refine (?_:ObR _ _ _));(first|(refine ObR.mk _ (by assumption) ?_)|(refine ObR.mk _ (by with_reducible rfl) ?_)|(refine ObR.map zX (fun x hx=>?_))|(refine ObR.mk _ rfl ?_))))
    conv=>whnf
    refine AgR.mk (a+1) ⟨rfl,by omega⟩ (Fg.vwS [(0,0,1),(0,1,0)] ?_ ?_ (by simp) ?_)
    all_goals repeat' ((conv=>whnf);first|((with_reducible refine ObN.mk ?_ ?_);(focus exact zN))|((with_reducible refine ObRow.same ?_ ?_ ?_);(focus (first|rfl|assumption));(focus (first|rfl|assumption|(simp;done))))|((with_reducible refine ObRow.lit ?_ ?_);(focus (first|rfl|(simp [rnB,rnC,rnL];done))))|((with_reducible refine ObEqs.mk ?_ ?_);(focus rfl))|exact True.intro)
  · rintro a ⟨ha, _⟩
    rw [List.length_map] at ha
    subst ha
    rw [List.take_length]
    have la:=i_all (l:=L)
    have lp:=p_i L
    have ra:=nr_i L
    cases c
    · obtain rfl := hz rfl
      have hl0':([]:List AV).length=0:=rfl
      simp only [eo,Bool.false_eq_true,if_false,List.length_nil]
      repeat' ((conv=>whnf);first|(with_reducible refine SeqP.go ?_)|(with_reducible refine SeqX.sp ?_)|((with_reducible refine ObN.mk ?_ ?_);(focus exact zN))|(with_reducible refine ObT.tt ?_)|(with_reducible refine ObT.ff ?_)|((with_reducible refine ObB.yes ?_ ?_);(focus (first|assumption|(with_reducible rfl)|omega)))|((with_reducible refine (?_:ObR _ _ _));(first|(refine ObR.mk _ (by assumption) ?_)|(refine ObR.mk _ (by with_reducible rfl) ?_)|(refine ObR.map zX (fun x hx=>?_))|(refine ObR.mk _ rfl ?_)))|((with_reducible refine ObC.f 9 ?_);(first|(with_reducible refine ObC.mk _ (c9) ?_)|(refine ObC.mk _ (c9) ?_)))|((with_reducible refine ObEq.mk ?_);(focus (first|rfl|assumption))))
    · obtain ⟨c16, c17⟩ := hfit rfl
      simp only [eo,if_true]
      repeat' ((conv=>whnf);first|(with_reducible refine SeqP.go ?_)|(with_reducible refine SeqX.sp ?_)|((with_reducible refine ObD.mk ?_ ?_);(focus (first|rfl|(simp;done))))|((with_reducible refine ObN.mk ?_ ?_);(focus exact zN))|(with_reducible refine ObT.tt ?_)|(with_reducible refine ObT.ff ?_)|((with_reducible refine ObB.yes ?_ ?_);(focus (first|assumption|(with_reducible rfl)|omega)))|((with_reducible refine (?_:ObL _ _));(refine ObL.mk _ zM ?_))|((with_reducible refine (?_:ObU _ _));(refine ObU.mk _ (by first|exact la|assumption|((conv=>lhs;simp only [List.set_cons_zero,List.set_cons_succ,List.take_succ_cons,List.take_zero,List.drop_succ_cons,List.drop_zero,List.nil_append,List.cons_append,List.append_nil,List.take_nil,List.drop_nil]);try rfl)|rfl) ?_))|((with_reducible refine (?_:ObR _ _ _));(first|(refine ObR.mk _ (by assumption) ?_)|(refine ObR.mk _ (by with_reducible rfl) ?_)|(refine ObR.map zX (fun x hx=>?_))|(refine ObR.mk _ rfl ?_)))|((with_reducible refine ObC.f 9 ?_);(first|(with_reducible refine ObC.mk _ (c9) ?_)|(refine ObC.mk _ (c9) ?_)))|((with_reducible refine ObC.f 16 ?_);(first|(with_reducible refine ObC.mk _ (c16) ?_)|(refine ObC.mk _ (c16) ?_)))|((with_reducible refine ObC.f 17 ?_);(first|(with_reducible refine ObC.mk _ (c17) ?_)|(refine ObC.mk _ (c17) ?_)))|((with_reducible refine ObC.f 18 ?_);(first|(with_reducible refine ObC.mk _ (c18) ?_)|(refine ObC.mk _ (c18) ?_)))|((with_reducible refine ObEq.mk ?_);(focus (first|rfl|assumption))))
end
theorem HeapCounts_calls (as0 as1:List AV) (s0:ShC Try.prog 22 as0) (s1:ShC Try.prog 3 as1):PC Try.prog (fun _=>.unk) 4 [mkE (isAggT Try.prog 22) as0,mkE (isAggT Try.prog 3) as1] (Bo true):=by
  obtain ⟨h,h0,h6,h7⟩:=heap_inv s0
  obtain ⟨n,h1,h2⟩:=int_inv s1
  have e1:isAggT Try.prog 22=false:=by kernel_rfl
  have e2:isAggT Try.prog 3=false:=by kernel_rfl
  rw [e1,e2,h0,h1]
  exact law4 _ h h6 h7 n h2
end Go.Proofs.Ytghbpplcgjeohaa.Sim
