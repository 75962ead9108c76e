/- Texts of this claim, part 6. -/
import Derived.Test.YtefkaglgekjlfaaMFindTries5
import Derived.Test.YtefkaglgekjlfaaProg
set_option linter.unusedVariables false
set_option linter.unusedSimpArgs false
namespace Go.Proofs.Ytefkaglgekjlfaa.Sim.Pr7
open Go.RowKit
set_option maxRecDepth 100000
abbrev cF:AV:=.v (.func (.func 93) #[] #[])
set_option maxHeartbeats 4000000 in
theorem cmp29 (G:Nat→AV) (a b c d:ByteArray) (ha:a.size≤9223372036854775807) (hc:c.size≤9223372036854775807):PC Try.prog G 93 [.agg [S a,S b],.agg [S c,S d]] (I (cB a c)):=by
  refine pc_of cop93 ?_
  show W _ _ _ _ ⟨_,_⟩;simp only [A93,List.cons_append,List.nil_append,List.length_cons,List.length_nil,Nat.reduceAdd,Nat.reduceSub,List.replicate]
  repeat (first|(with_reducible first|refine w_seq ?_|refine w_reg ?_|refine ws_nil ?_|refine q_then ?_|refine w_ret ?_)|((with_reducible refine kps 84 ?_ ?_ ?_ ?_);rotate_left 1;rfl;exact (by refine cmpP G _ _ ?_ ?_<;>assumption))|((with_reducible first|refine ks fun K hK=>?_|refine kd fun K hK=>?_|refine kc fun K hK2 hK hK3=>?_|refine ret_h fun K hR=>?_|refine ret_hh rfl fun K hR=>?_|refine ret_pp fun K hR=>?_);simp (disch:=omega) only [bg0,bg1,bg2,bg3,bg4,stepO,rsAs,eff,AX.ev,St.put,binA,conc,ap1,ofVal,Int.reduceTMod,Int.reduceTDiv,reduceCtorEq,fillA,AV.cells,AV.fine,AV.one,Nat.reduceAdd,Nat.reduceSub,Nat.reduceMul,Nat.reduceLT,Nat.reduceLeDiff,Int.reduceLT,Int.reduceLE,Int.reduceAdd,Int.reduceSub,Int.reduceNeg,Int.reduceMul,Int.reduceEq,Int.reduceToNat,nilA,moveA,live,loadA,rdA,storeA,wrA,intA,elemA,lenA,appA,srcA,isPtr,isNilPtr,partA,resOf,sliceA,cut,id,ap2,reduceIte,concs,chkB,geB,AOp.cls,AOp.xs,ltB,ltC,Nat.reduceBEq,Option.toList,List.cons_append,decide_eq_true,decide_eq_false,if_pos,if_neg,List.length_map,List.cons_append,bVb,bVn,eq_self,Bool.and_self,BEq.rfl,not_true_eq_false,set_pA,List.length_set];(first|(with_reducible first|(refine hK _ ?_;clear hK K)|(refine hK ?_;clear hK hK3 K hK2)|(refine hK3 ?_;clear hK hK3 K hK2))|((with_reducible refine hR _ ?_ ?_ ?_ ?_);rotate_left 2;rfl;rfl)|((with_reducible refine hR _ ?_);rfl))))
theorem cmpC (G:Nat→AV) (H:Hp) {p q:Pr} (ha:p.1.size≤9223372036854775807) (hc:q.1.size≤9223372036854775807):HC Try.prog G 93 [.agg [S p.1,S p.2],.agg [S q.1,S q.2]] H (I (cB p.1 q.1)) H:=hc_pc rfl (cmp29 G _ _ _ _ ha hc) H
theorem pAq {C:List Pr} {k:Nat} {p:Pr} (h:C[k]? = some p):(C.map pA)[k]? = some (.agg [S p.1,S p.2]):=by rw [List.getElem?_map,h];rfl
theorem ssort_mem {l:List Pr} {x:Pr}:x ∈ ssort l↔x ∈ l:=by
  have h1:x ∈ ssort l↔x ∈ fk x.1 (ssort l):=⟨fun h=>mem_fk.2 ⟨h,rfl⟩,fun h=>(mem_fk.1 h).1⟩
  have h2:x ∈ l↔x ∈ fk x.1 l:=⟨fun h=>mem_fk.2 ⟨h,rfl⟩,fun h=>(mem_fk.1 h).1⟩
  rw [h1,h2,ssort_fk]
theorem ins_len {p:Pr}:∀ {n:List Pr},(ins p n).length=n.length+1
  | []=>rfl
  | q::n=>by unfold ins;split<;>simp [ins_len (n:=n)]
theorem ssort_len:∀ {l:List Pr},(ssort l).length=l.length
  | []=>rfl
  | p::l=>by rw [ssort,ins_len,ssort_len (l:=l)];rfl
theorem ins_at {S S1 S2:List Pr} {x:Pr} {L:List Pr} (hS:S1++S2=ssort L) (h1:∀ p ∈ S1,cB p.1 x.1≤0) (h2:∀ q ∈ S2,cB x.1 q.1 < 0):S1++x::S2=ssort (L++[x]):=by
  have hle:SLe (S1++S2):=by rw [hS];exact ssort_le L
  obtain ⟨a1,a2,a3⟩:=List.pairwise_append.1 hle
  refine srt_uniq ?_ (ssort_le _) fun k=>?_
  · refine List.pairwise_append.2 ⟨a1,List.pairwise_cons.2 ⟨fun q hq=>by have:=h2 q hq;omega,a2⟩,fun p hp q hq=>?_⟩
    rcases List.mem_cons.1 hq with rfl|hq
    · exact h1 p hp
    · exact a3 p hp q hq
  · rw [ssort_fk, fk_append, fk_append, fk_cons, fk_cons, fk_nil, ← ssort_fk L, ← hS, fk_append]
    by_cases hx:x.1=k
    · have : fk k S2 = [] := fk_none.2 fun q hq e => by
        have:=h2 q hq
        rw [e,hx,cB_self] at this
        omega
      simp [hx,this]
    · simp [hx]
theorem at_mid {P S R:List Pr} {x:Pr} {k:Nat} (hk:k=P.length+S.length):(P++(S++x::R))[k]? = some x:=by
  subst hk
  rw [List.getElem?_append_right (by omega),List.getElem?_append_right (by omega)]
  simp
theorem at_pre {P S R:List Pr} {x y:Pr} {k:Nat} (hk:k=P.length+S.length):(P++(S++[y]++x::R))[k]? = some y:=by
  have:=at_mid (P:=P) (S:=S) (x:=y) (R:=x::R) hk
  simpa using this
theorem sw_mid {P S R:List Pr} {x y:Pr} {k:Nat} (hk:k=P.length+S.length):((P++(S++[y]++x::R)).set (k+1) y).set k x=P++(S++x::y::R):=by
  subst hk
  have e:P++(S++[y]++x::R)=(P++S)++y::x::R:=by simp
  have e2:P++(S++x::y::R)=(P++S)++x::y::R:=by simp
  rw [e,e2,show P.length+S.length=(P++S).length from (List.length_append).symm,List.set_append_right _ _ (by omega),List.set_append_right _ _ (by omega)]
  simp
def seg (D:List Pr) (a b:Nat):List Pr:=(D.take b).drop a
def srt (D:List Pr) (a b:Nat):List Pr:=D.take a++(ssort (seg D a b)++D.drop b)
theorem srt_one {D:List Pr} {a b:Nat} (h:b≤a+1) (hb:b≤D.length) (hab:a≤b):srt D a b=D:=by
  have e:ssort (seg D a b)=seg D a b:=by
    have:(seg D a b).length≤1:=by simp [seg];omega
    match h:seg D a b,this with
    | [],_=>rfl
    | [p],_=>rfl
  unfold srt
  rw [e]
  unfold seg
  have h1:D.take b=D.take a++(D.take b).drop a:=by
    have:=List.take_append_drop a (D.take b)
    rw [List.take_take,Nat.min_eq_left hab] at this
    exact this.symm
  rw [← List.append_assoc,← h1,List.take_append_drop]
theorem seg_succ {D:List Pr} {a i:Nat} (ha:a≤i) (hi:i < D.length):seg D a (i+1)=seg D a i++[D[i]]:=by
  unfold seg
  rw [List.take_add_one,List.getElem?_eq_getElem hi,List.drop_append_of_le_length (by simp;omega)]
  rfl
theorem seg_len {D:List Pr} {a b:Nat} (hb:b≤D.length):(seg D a b).length=b - a:=by simp [seg];omega
theorem seg_mem {D:List Pr} {a b:Nat} {x:Pr} (h:x ∈ seg D a b):x ∈ D:=List.mem_of_mem_take (List.mem_of_mem_drop h)
theorem le_all {S:List Pr} {y:Pr} {x:ByteArray} {R:List Pr} (h:SLe (S++[y]++R)) (hy:cB y.1 x≤0):∀ p ∈ S++[y],cB p.1 x≤0:=by
  intro p hp
  have h1:=(List.pairwise_append.1 h).1
  rcases List.mem_append.1 hp with hp|hp
  · have := (List.pairwise_append.1 h1).2.2 p hp y (by simp)
    exact cB_le this hy
  · simp at hp;subst hp;exact hy
theorem last_cases {l:List Pr}:l=[]∨∃ S y,l=S++[y]:=by
  rcases List.eq_nil_or_concat l with h|⟨S,y,h⟩
  · exact .inl h
  · exact .inr ⟨S,y,by rw [h,List.concat_eq_append]⟩
set_option maxHeartbeats 8000000 in
theorem ins43 (G : Nat → AV) (D : List Pr) (g a b : Nat) (hN : Okl D) (h1 : a ≤ b) (h2 : b ≤ D.length) :
    HC Try.prog G 99 [.ol 0 g D.length,I a,I b,cF] [rw0 D g] (.tup []) [rw0 (srt D a b) g]:=by
  have hlen:=hN.len
  refine hc_of cop99 ?_
  show W _ _ _ _ ⟨_,_⟩;simp only [A99,List.cons_append,List.nil_append,List.length_cons,List.length_nil,Nat.reduceAdd,Nat.reduceSub,List.replicate]
  repeat (first|(with_reducible first|refine w_seq ?_|refine w_reg ?_|refine w_block ?_|refine ws_nil ?_|refine q_then ?_)|((with_reducible first|refine ks fun K hK=>?_|refine kd fun K hK=>?_|refine kc fun K hK2 hK hK3=>?_);simp (disch:=omega) only [bg0,bg1,bg2,bg3,bg4,stepO,rsAs,eff,AX.ev,St.put,binA,conc,ap1,ofVal,Int.reduceTMod,Int.reduceTDiv,reduceCtorEq,fillA,AV.cells,AV.fine,AV.one,Nat.reduceAdd,Nat.reduceSub,Nat.reduceMul,Nat.reduceLT,Nat.reduceLeDiff,Int.reduceLT,Int.reduceLE,Int.reduceAdd,Int.reduceSub,Int.reduceNeg,Int.reduceMul,Int.reduceEq,Int.reduceToNat,nilA,moveA,live,loadA,rdA,storeA,wrA,intA,elemA,lenA,appA,srcA,isPtr,isNilPtr,partA,resOf,sliceA,cut,id,ap2,reduceIte,concs,chkB,geB,AOp.cls,AOp.xs,ltB,ltC,Nat.reduceBEq,Option.toList,List.cons_append,decide_eq_true,decide_eq_false,if_pos,if_neg,List.length_map,List.cons_append,bVb,bVn,eq_self,Bool.and_self,BEq.rfl,not_true_eq_false,set_pA,List.length_set];(with_reducible first|(refine hK _ ?_;clear hK K)|(refine hK ?_;clear hK hK3 K hK2)|(refine hK3 ?_;clear hK hK3 K hK2))))
  refine w_loop_m [8,9,12,13,14,15,16,17,18,19,20,21,22,23,24,25,26,27,28,29,30,31,32,33,34,35,36,37,38,39,40,41,42,43,44,45,46,47,48,49,50,51,52] (fun k v H=>v 8=I ((a+1+k:Nat):Int)∧H=[rw0 (srt D a (min b (a+1+k))) g]) (b - (a+1)) ⟨rfl,?_⟩ ?_ ?_
  · rw [srt_one (by omega) (by omega) (by omega)]
  · rintro k v H hk ⟨h8, rfl⟩
    have hi:a+1+k < D.length:=by omega
    rw [show min b (a+1+k)=a+1+k by omega]
    obtain ⟨i,hI⟩:∃ i,i=a+1+k:=⟨_,rfl⟩
    rw [show min b (a+1+(k+1))=i+1 by omega]
    rw [← hI] at hi h8 ⊢
    have hd:srt D a i=D.take a++(ssort (seg D a i)++D[i]::D.drop (i+1)):=by
      unfold srt;rw [List.drop_eq_getElem_cons hi]
    have hd2:srt D a (i+1)=D.take a++(ssort (seg D a i++[D[i]])++D.drop (i+1)):=by
      unfold srt;rw [seg_succ (by omega) hi]
    have hsz:∀ p ∈ seg D a i,p.1.size≤9223372036854775807:=fun p hp=>(hN.sz p (seg_mem hp)).1
    have hx:=(hN.sz _ (List.getElem_mem hi)).1
    have hPl:(D.take a).length=a:=by simp;omega
    have hLl:(ssort (seg D a i)).length=i - a:=by rw [ssort_len,seg_len (by omega)]
    have hN2:(srt D a i).length=D.length:=by rw [hd];simp [hLl];omega
    rw [hd,hd2]
    rw [hd] at hN2
    generalize D[i]=x at *
    generalize seg D a i=L at *
    generalize D.take a=P at *
    generalize D.drop (i+1)=R at *
    simp only [mix,mix_nil,mix_end,mix_skp,Nat.reduceEqDiff,Nat.reduceLeDiff,reduceCtorEq,if_true,if_false,reduceIte,Nat.reduceAdd,h8]
    repeat (first|(with_reducible first|refine w_seq ?_|refine w_reg ?_|refine w_block ?_|refine w_skip ?_|refine ws_nil ?_|refine q_then ?_)|((with_reducible first|refine ks fun K hK=>?_|refine kd fun K hK=>?_|refine kc fun K hK2 hK hK3=>?_);simp (disch:=omega) only [bg0,bg1,bg2,bg3,bg4,stepO,rsAs,eff,AX.ev,St.put,binA,conc,ap1,ofVal,Int.reduceTMod,Int.reduceTDiv,reduceCtorEq,fillA,AV.cells,AV.fine,AV.one,Nat.reduceAdd,Nat.reduceSub,Nat.reduceMul,Nat.reduceLT,Nat.reduceLeDiff,Int.reduceLT,Int.reduceLE,Int.reduceAdd,Int.reduceSub,Int.reduceNeg,Int.reduceMul,Int.reduceEq,Int.reduceToNat,nilA,moveA,live,loadA,rdA,storeA,wrA,intA,elemA,lenA,appA,srcA,isPtr,isNilPtr,partA,resOf,sliceA,cut,id,ap2,reduceIte,concs,chkB,geB,AOp.cls,AOp.xs,ltB,ltC,Nat.reduceBEq,Option.toList,List.cons_append,decide_eq_true,decide_eq_false,if_pos,if_neg,List.length_map,List.cons_append,bVb,bVn,eq_self,Bool.and_self,BEq.rfl,not_true_eq_false,set_pA,List.length_set];(with_reducible first|(refine hK _ ?_;clear hK K)|(refine hK ?_;clear hK hK3 K hK2)|(refine hK3 ?_;clear hK hK3 K hK2))))
    refine w_loop_d [9,18,19,20,21,22,23,24,25,26,27,28,29,30,31,32,33,34,35,36,37,38,39,40,41,42,43,44,45,46,47,48,49,50,51,52] (fun u v H=>∃ S1 S2,S1++S2=ssort L∧u=S1.length∧v 9=I ((a+S1.length:Nat):Int)∧H=[rw0 (P++(S1++x::(S2++R))) g]∧∀ q ∈ S2,cB x.1 q.1 < 0) (i - a) ⟨ssort L,[],by simp,hLl.symm,by rw [hLl,show a+(i - a)=i by omega];rfl,rfl,by simp⟩ ?_
    rintro u v2 H ⟨S1,S2,hS,rfl,h9,rfl,hgt⟩
    have hCl:(P++(S1++x::(S2++R))).length=D.length:=by
      rw [← hN2,← hS];simp;omega
    have hle:SLe (S1++S2):=by rw [hS];exact ssort_le L
    rcases last_cases (l:=S1) with rfl|⟨S0,y,rfl⟩
    · have hfin:=ins_at (S:=S2) hS (fun p hp=>by cases hp) hgt
      have hfin2:P++([]++x::(S2++R))=P++(ssort (L++[x])++R):=by rw [← hfin];simp
      rw [hfin2]
      have e0:a+([]:List Pr).length=a:=rfl
      rw [e0] at h9
      simp only [mix,mix_nil,mix_end,mix_skp,Nat.reduceEqDiff,Nat.reduceLeDiff,reduceCtorEq,if_true,if_false,reduceIte,Nat.reduceAdd,h9]
      repeat (first|(with_reducible first|refine w_seq ?_|refine w_reg ?_|refine w_draw ?_|refine w_exit ?_|refine ws_nil ?_|refine wd_nil ?_|refine q_then ?_|refine q_then_x ?_|refine q_block_n ?_|refine q_block_x ?_)|((with_reducible first|refine ks fun K hK=>?_|refine kd fun K hK=>?_|refine kc fun K hK2 hK hK3=>?_);simp (disch:=omega) only [bg0,bg1,bg2,bg3,bg4,stepO,rsAs,eff,AX.ev,St.put,binA,conc,ap1,ofVal,Int.reduceTMod,Int.reduceTDiv,reduceCtorEq,fillA,AV.cells,AV.fine,AV.one,Nat.reduceAdd,Nat.reduceSub,Nat.reduceMul,Nat.reduceLT,Nat.reduceLeDiff,Int.reduceLT,Int.reduceLE,Int.reduceAdd,Int.reduceSub,Int.reduceNeg,Int.reduceMul,Int.reduceEq,Int.reduceToNat,nilA,moveA,live,loadA,rdA,storeA,wrA,intA,elemA,lenA,appA,srcA,isPtr,isNilPtr,partA,resOf,sliceA,cut,id,ap2,reduceIte,concs,chkB,geB,AOp.cls,AOp.xs,ltB,ltC,Nat.reduceBEq,Option.toList,List.cons_append,decide_eq_true,decide_eq_false,if_pos,if_neg,List.length_map,List.cons_append,bVb,bVn,eq_self,Bool.and_self,BEq.rfl,not_true_eq_false,set_pA,List.length_set];(with_reducible first|(refine hK _ ?_;clear hK K)|(refine hK ?_;clear hK hK3 K hK2)|(refine hK3 ?_;clear hK hK3 K hK2)))|((first|((with_reducible refine kgd_u ?_ ?_ ?_);rotate_left 1;rfl)|((with_reducible refine kgd_f ?_ ?_ ?_);rotate_left 1;rfl));rotate_left 1;(focus (simp (disch:=omega) only [bg0,bg1,bg2,bg3,bg4,stepO,rsAs,eff,AX.ev,St.put,binA,conc,ap1,ofVal,Int.reduceTMod,Int.reduceTDiv,reduceCtorEq,fillA,AV.cells,AV.fine,AV.one,Nat.reduceAdd,Nat.reduceSub,Nat.reduceMul,Nat.reduceLT,Nat.reduceLeDiff,Int.reduceLT,Int.reduceLE,Int.reduceAdd,Int.reduceSub,Int.reduceNeg,Int.reduceMul,Int.reduceEq,Int.reduceToNat,nilA,moveA,live,loadA,rdA,storeA,wrA,intA,elemA,lenA,appA,srcA,isPtr,isNilPtr,partA,resOf,sliceA,cut,id,ap2,reduceIte,concs,chkB,geB,AOp.cls,AOp.xs,ltB,ltC,Nat.reduceBEq,Option.toList,List.cons_append,decide_eq_true,decide_eq_false,if_pos,if_neg,List.length_map,List.cons_append,bVb,bVn,eq_self,Bool.and_self,BEq.rfl,not_true_eq_false,set_pA,List.length_set];try rfl))))
      exact ⟨rfl,by simp [at_];omega,rfl⟩
    · have hj : a + (S0 ++ [y]).length = a + S0.length + 1 := by simp; omega
      rw [hj] at h9
      have q1:=pAq (at_mid (P:=P) (S:=S0++[y]) (x:=x) (R:=S2++R) (k:=a+S0.length+1) (by simp [hPl];omega))
      have q2:=pAq (at_pre (P:=P) (S:=S0) (x:=x) (y:=y) (R:=S2++R) (k:=a+S0.length) (by omega))
      have hsw:=sw_mid (P:=P) (S:=S0) (x:=x) (y:=y) (R:=S2++R) (k:=a+S0.length) (by omega)
      have hy:y.1.size≤9223372036854775807:=hsz y (by rw [← ssort_mem,← hS];simp)
      have hjl:a+S0.length+1 < D.length:=by rw [← hCl];simp [hPl];omega
      have q3:(((P++(S0++[y]++x::(S2++R))).set (a+S0.length+1) y).map pA)[a+S0.length]? = some (.agg [S y.1,S y.2]):=pAq (by rw [List.getElem?_set_ne (by omega)];exact at_pre (by omega))
      have e1:((a:Int)+(S0.length:Int)+1).toNat=a+S0.length+1:=by omega
      have e2:((a:Int)+(S0.length:Int)).toNat=a+S0.length:=by omega
      have e3:(a:Int) < (a:Int)+(S0.length:Int)+1:=by omega
      by_cases hc:cB x.1 y.1 < 0
      · generalize P ++ (S0 ++ [y] ++ x :: (S2 ++ R)) = C at *
        simp only [mix,mix_nil,mix_end,mix_skp,Nat.reduceEqDiff,Nat.reduceLeDiff,reduceCtorEq,if_true,if_false,reduceIte,Nat.reduceAdd,h9]
        repeat (first|(with_reducible first|refine w_seq ?_|refine w_reg ?_|refine w_draw ?_)|(with_reducible refine w_drawx2 ?_ ?_ ?_ ?_;rotate_left 1)|(with_reducible first|exact isSt|refine w_block ?_|refine w_skip ?_|refine ws_nil ?_|refine wd_nil ?_|refine q_then ?_|refine q_block_n ?_)|((with_reducible refine kgd_t ?_ ?_);rfl)|((with_reducible first|refine ks fun K hK=>?_|refine kd fun K hK=>?_|refine kc fun K hK2 hK hK3=>?_);simp (disch:=omega) only [bg0,bg1,bg2,bg3,bg4,stepO,rsAs,eff,AX.ev,St.put,binA,conc,ap1,ofVal,Int.reduceTMod,Int.reduceTDiv,reduceCtorEq,fillA,AV.cells,AV.fine,AV.one,Nat.reduceAdd,Nat.reduceSub,Nat.reduceMul,Nat.reduceLT,Nat.reduceLeDiff,Int.reduceLT,Int.reduceLE,Int.reduceAdd,Int.reduceSub,Int.reduceNeg,Int.reduceMul,Int.reduceEq,Int.reduceToNat,nilA,moveA,live,loadA,rdA,storeA,wrA,intA,elemA,lenA,appA,srcA,isPtr,isNilPtr,partA,resOf,sliceA,cut,id,ap2,reduceIte,concs,chkB,geB,AOp.cls,AOp.xs,ltB,ltC,Nat.reduceBEq,Option.toList,List.cons_append,decide_eq_true,decide_eq_false,if_pos,if_neg,List.length_map,List.cons_append,bVb,bVn,eq_self,Bool.and_self,BEq.rfl,not_true_eq_false,set_pA,List.length_set,q1,q2,q3,e1,e2,e3,hc];(with_reducible first|(refine hK _ ?_;clear hK K)|(refine hK ?_;clear hK hK3 K hK2)|(refine hK3 ?_;clear hK hK3 K hK2)))|((first|((with_reducible refine kvd 93 ?_ ?_ ?_ ?_ ?_ ?_ ?_ ?_);rotate_left 3));(focus (simp (disch:=omega) only [bg0,bg1,bg2,bg3,bg4,stepO,rsAs,eff,AX.ev,St.put,binA,conc,ap1,ofVal,Int.reduceTMod,Int.reduceTDiv,reduceCtorEq,fillA,AV.cells,AV.fine,AV.one,Nat.reduceAdd,Nat.reduceSub,Nat.reduceMul,Nat.reduceLT,Nat.reduceLeDiff,Int.reduceLT,Int.reduceLE,Int.reduceAdd,Int.reduceSub,Int.reduceNeg,Int.reduceMul,Int.reduceEq,Int.reduceToNat,nilA,moveA,live,loadA,rdA,storeA,wrA,intA,elemA,lenA,appA,srcA,isPtr,isNilPtr,partA,resOf,sliceA,cut,id,ap2,reduceIte,concs,chkB,geB,AOp.cls,AOp.xs,ltB,ltC,Nat.reduceBEq,Option.toList,List.cons_append,decide_eq_true,decide_eq_false,if_pos,if_neg,List.length_map,List.cons_append,bVb,bVn,eq_self,Bool.and_self,BEq.rfl,not_true_eq_false,set_pA,List.length_set,q1,q2,q3,e1,e2,e3,hc];try rfl));(first|(rfl;exact hb93;exact (cmpC G _ hx hy)))))
        refine ⟨rfl,S0.length,by simp,S0,y::S2,by simpa using hS,rfl,rfl,rw0_eq (by simpa using hsw),fun q hq=>?_⟩
        rcases List.mem_cons.1 hq with rfl|hq
        · exact hc
        · exact hgt q hq
      · have hfin := ins_at (S := S2) hS (le_all hle (by rw [cB_anti x.1 y.1]; omega)) hgt
        have hfin2:P++(S0++[y]++x::(S2++R))=P++(ssort (L++[x])++R):=by rw [← hfin];simp
        rw [hfin2] at q1 q2 q3 ⊢
        simp only [mix,mix_nil,mix_end,mix_skp,Nat.reduceEqDiff,Nat.reduceLeDiff,reduceCtorEq,if_true,if_false,reduceIte,Nat.reduceAdd,h9]
        repeat (first|(with_reducible first|refine w_seq ?_|refine w_reg ?_|refine w_draw ?_|refine w_exit ?_|refine ws_nil ?_|refine wd_nil ?_|refine q_then ?_|refine q_then_x ?_|refine q_block_n ?_|refine q_block_x ?_)|((with_reducible refine kgd_t ?_ ?_);rfl)|((with_reducible first|refine ks fun K hK=>?_|refine kd fun K hK=>?_|refine kc fun K hK2 hK hK3=>?_);simp (disch:=omega) only [bg0,bg1,bg2,bg3,bg4,stepO,rsAs,eff,AX.ev,St.put,binA,conc,ap1,ofVal,Int.reduceTMod,Int.reduceTDiv,reduceCtorEq,fillA,AV.cells,AV.fine,AV.one,Nat.reduceAdd,Nat.reduceSub,Nat.reduceMul,Nat.reduceLT,Nat.reduceLeDiff,Int.reduceLT,Int.reduceLE,Int.reduceAdd,Int.reduceSub,Int.reduceNeg,Int.reduceMul,Int.reduceEq,Int.reduceToNat,nilA,moveA,live,loadA,rdA,storeA,wrA,intA,elemA,lenA,appA,srcA,isPtr,isNilPtr,partA,resOf,sliceA,cut,id,ap2,reduceIte,concs,chkB,geB,AOp.cls,AOp.xs,ltB,ltC,Nat.reduceBEq,Option.toList,List.cons_append,decide_eq_true,decide_eq_false,if_pos,if_neg,List.length_map,List.cons_append,bVb,bVn,eq_self,Bool.and_self,BEq.rfl,not_true_eq_false,set_pA,List.length_set,q1,q2,q3,e1,e2,e3,hc];(with_reducible first|(refine hK _ ?_;clear hK K)|(refine hK ?_;clear hK hK3 K hK2)|(refine hK3 ?_;clear hK hK3 K hK2)))|((first|((with_reducible refine kvd 93 ?_ ?_ ?_ ?_ ?_ ?_ ?_ ?_);rotate_left 3));(focus (simp (disch:=omega) only [bg0,bg1,bg2,bg3,bg4,stepO,rsAs,eff,AX.ev,St.put,binA,conc,ap1,ofVal,Int.reduceTMod,Int.reduceTDiv,reduceCtorEq,fillA,AV.cells,AV.fine,AV.one,Nat.reduceAdd,Nat.reduceSub,Nat.reduceMul,Nat.reduceLT,Nat.reduceLeDiff,Int.reduceLT,Int.reduceLE,Int.reduceAdd,Int.reduceSub,Int.reduceNeg,Int.reduceMul,Int.reduceEq,Int.reduceToNat,nilA,moveA,live,loadA,rdA,storeA,wrA,intA,elemA,lenA,appA,srcA,isPtr,isNilPtr,partA,resOf,sliceA,cut,id,ap2,reduceIte,concs,chkB,geB,AOp.cls,AOp.xs,ltB,ltC,Nat.reduceBEq,Option.toList,List.cons_append,decide_eq_true,decide_eq_false,if_pos,if_neg,List.length_map,List.cons_append,bVb,bVn,eq_self,Bool.and_self,BEq.rfl,not_true_eq_false,set_pA,List.length_set,q1,q2,q3,e1,e2,e3,hc];try rfl));(first|(rfl;exact hb93;exact (cmpC G _ hx hy)))))
        exact ⟨rfl,by simp [at_];omega,rfl⟩
  · rintro v H ⟨h8, rfl⟩
    simp only [mix,mix_nil,mix_end,mix_skp,Nat.reduceEqDiff,Nat.reduceLeDiff,reduceCtorEq,if_true,if_false,reduceIte,Nat.reduceAdd,h8]
    by_cases hab:a=b
    · subst hab
      rw [show min a (a+1+(a - (a+1)))=a by omega]
      repeat (first|(with_reducible first|refine w_seq ?_|refine w_reg ?_|refine w_exit ?_|refine ws_nil ?_|refine q_then ?_|refine q_then_x ?_|refine q_block_x ?_)|((with_reducible first|refine ks fun K hK=>?_|refine kd fun K hK=>?_|refine kc fun K hK2 hK hK3=>?_);simp (disch:=omega) only [bg0,bg1,bg2,bg3,bg4,stepO,rsAs,eff,AX.ev,St.put,binA,conc,ap1,ofVal,Int.reduceTMod,Int.reduceTDiv,reduceCtorEq,fillA,AV.cells,AV.fine,AV.one,Nat.reduceAdd,Nat.reduceSub,Nat.reduceMul,Nat.reduceLT,Nat.reduceLeDiff,Int.reduceLT,Int.reduceLE,Int.reduceAdd,Int.reduceSub,Int.reduceNeg,Int.reduceMul,Int.reduceEq,Int.reduceToNat,nilA,moveA,live,loadA,rdA,storeA,wrA,intA,elemA,lenA,appA,srcA,isPtr,isNilPtr,partA,resOf,sliceA,cut,id,ap2,reduceIte,concs,chkB,geB,AOp.cls,AOp.xs,ltB,ltC,Nat.reduceBEq,Option.toList,List.cons_append,decide_eq_true,decide_eq_false,if_pos,if_neg,List.length_map,List.cons_append,bVb,bVn,eq_self,Bool.and_self,BEq.rfl,not_true_eq_false,set_pA,List.length_set];(with_reducible first|(refine hK _ ?_;clear hK K)|(refine hK ?_;clear hK hK3 K hK2)|(refine hK3 ?_;clear hK hK3 K hK2)))|((with_reducible refine ret_0 ?_);try rfl))
    · rw [show min b (a + 1 + (b - (a + 1))) = b by omega]
      repeat (first|(with_reducible first|refine w_seq ?_|refine w_reg ?_|refine w_exit ?_|refine ws_nil ?_|refine q_then ?_|refine q_then_x ?_|refine q_block_x ?_)|((with_reducible first|refine ks fun K hK=>?_|refine kd fun K hK=>?_|refine kc fun K hK2 hK hK3=>?_);simp (disch:=omega) only [bg0,bg1,bg2,bg3,bg4,stepO,rsAs,eff,AX.ev,St.put,binA,conc,ap1,ofVal,Int.reduceTMod,Int.reduceTDiv,reduceCtorEq,fillA,AV.cells,AV.fine,AV.one,Nat.reduceAdd,Nat.reduceSub,Nat.reduceMul,Nat.reduceLT,Nat.reduceLeDiff,Int.reduceLT,Int.reduceLE,Int.reduceAdd,Int.reduceSub,Int.reduceNeg,Int.reduceMul,Int.reduceEq,Int.reduceToNat,nilA,moveA,live,loadA,rdA,storeA,wrA,intA,elemA,lenA,appA,srcA,isPtr,isNilPtr,partA,resOf,sliceA,cut,id,ap2,reduceIte,concs,chkB,geB,AOp.cls,AOp.xs,ltB,ltC,Nat.reduceBEq,Option.toList,List.cons_append,decide_eq_true,decide_eq_false,if_pos,if_neg,List.length_map,List.cons_append,bVb,bVn,eq_self,Bool.and_self,BEq.rfl,not_true_eq_false,set_pA,List.length_set];(with_reducible first|(refine hK _ ?_;clear hK K)|(refine hK ?_;clear hK hK3 K hK2)|(refine hK3 ?_;clear hK hK3 K hK2)))|((with_reducible refine ret_0 ?_);try rfl))
end Go.Proofs.Ytefkaglgekjlfaa.Sim.Pr7
namespace Go.Proofs.Ytefkaglgekjlfaa.Sim.Pr7
open Go.RowKit
set_option maxRecDepth 100000
theorem u64w {n:Int} (h:0≤n) (h2:n≤9223372036854775807):IntKind.u64.wrap n=n:=by
  rw [IntKind.wrap]
  simp only [IntKind.signed,IntKind.bits]
  simp
  omega
theorem cVu {n:Int} (h:0≤n) (h2:n≤9223372036854775807):pureRun Try.prog (convert 3 112 (.int .i64 n))=some (.int .u64 n):=by
  rw [cV_int (e:=.int .i64) (k:=.u64) (by kernel_rfl) (by kernel_rfl),u64w h h2]
theorem cVi {n:Int} (h:0≤n) (h2:n≤9223372036854775807):pureRun Try.prog (convert 112 3 (.int .u64 n))=some (.int .i64 n):=by
  rw [cV_int (e:=.int .u64) (k:=.i64) (by kernel_rfl) (by kernel_rfl),wrapI (by omega) h2]
theorem shr1 {P:Program} {t:TypeId} {xo yo:Operand} {i j:Nat}:binV P .shr t xo yo (.int .u64 ((i:Int)+(j:Int))) (.int .u64 1)=some (.int .u64 (((i+j) / 2:Nat):Int)):=by
  show some (Value.int .u64 (((i:Int)+(j:Int)).fdiv (2 ^ 1)))=_
  have:((i:Int)+(j:Int)).fdiv (2 ^ 1)=(((i+j) / 2:Nat):Int):=by
    rw [Int.fdiv_eq_ediv_of_nonneg _ (by decide)]
    omega
  rw [this]
theorem ssort_app {X Y:List Pr} (h:∀ x ∈ X,∀ y ∈ Y,cB x.1 y.1≤0):ssort (X++Y)=ssort X++ssort Y:=by
  refine srt_uniq (ssort_le _) (List.pairwise_append.2 ⟨ssort_le X,ssort_le Y,fun x hx y hy=>h x (ssort_mem.1 hx) y (ssort_mem.1 hy)⟩) fun k=>?_
  rw [ssort_fk,fk_append,fk_append,ssort_fk,ssort_fk]
theorem ssort_of {X:List Pr} (h:SLe X):ssort X=X:=srt_uniq (ssort_le X) h fun k=>ssort_fk X
theorem ssort_swap {X A B Y:List Pr} (h:∀ x ∈ A,∀ y ∈ B,cB y.1 x.1 < 0):ssort (X++A++B++Y)=ssort (X++B++A++Y):=by
  refine srt_uniq (ssort_le _) (ssort_le _) fun k=>?_
  simp only [ssort_fk,fk_append]
  have:fk k A=[]∨fk k B=[]:=by
    by_cases hb:fk k B=[]
    · exact .inr hb
    · left
      refine fk_none.2 fun x hx e=>hb (fk_none.2 fun y hy e2=>?_)
      have:=h x hx y hy
      rw [e,e2,cB_self] at this
      omega
  rcases this with h|h<;>simp [h]
theorem ssort_merge {A1 A2 B1 B2 : List Pr} (hA : SLe (A1 ++ A2)) (hB : SLe (B1 ++ B2)) (h1 : ∀ x ∈ A2, ∀ y ∈ B1, cB y.1 x.1 < 0) (h2 : ∀ x ∈ A1, ∀ y ∈ B2, cB x.1 y.1 ≤ 0) :
    ssort (A1++A2++(B1++B2))=ssort (A1++B1)++ssort (A2++B2):=by
  have e1:=ssort_swap (X:=A1) (A:=A2) (B:=B1) (Y:=B2) h1
  rw [show A1++A2++(B1++B2)=A1++A2++B1++B2 by simp,e1,show A1++B1++A2++B2=(A1++B1)++(A2++B2) by simp]
  obtain ⟨_,_,a3⟩:=List.pairwise_append.1 hA
  obtain ⟨_,_,b3⟩:=List.pairwise_append.1 hB
  refine ssort_app fun x hx y hy=>?_
  rcases List.mem_append.1 hx with hx|hx<;>rcases List.mem_append.1 hy with hy|hy
  · exact a3 x hx y hy
  · exact h2 x hx y hy
  · have:=h1 y hy x hx;omega
  · exact b3 x hx y hy
theorem rot_list {P A B R:List Pr}:px (P++(A++(B++R))) (rtf P.length (P.length+A.length) (P.length+A.length+B.length))=P++(B++(A++R)):=by
  apply List.ext_getElem?
  intro x
  rw [px_at]
  have hgd:∀ {L:List Pr} {i:Nat},i < L.length→some (L.getD i default)=L[i]?:=fun {L i} h=>by
    rw [List.getD_eq_getElem?_getD,List.getElem?_eq_getElem h];rfl
  by_cases hx:x < (P++(A++(B++R))).length
  · rw [if_pos hx, hgd (rtf_lt (by omega) (by omega) (by simp; omega) hx)]
    simp only [List.length_append] at hx
    unfold rtf
    by_cases h1:x < P.length
    · rw [if_neg (by omega),if_neg (by omega),List.getElem?_append_left h1,List.getElem?_append_left h1]
    · rw [List.getElem?_append_right (l₁ := P) (l₂ := B ++ (A ++ R)) (by omega)]
      by_cases h2:x < P.length+B.length
      · rw [if_pos (by omega), List.getElem?_append_right (by omega), List.getElem?_append_right (by omega), List.getElem?_append_left (by omega), List.getElem?_append_left (by omega)]
        congr 1;omega
      · rw [if_neg (by omega), List.getElem?_append_right (l₁ := B) (by omega)]
        by_cases h3:x < P.length+B.length+A.length
        · rw [if_pos (by omega), List.getElem?_append_right (by omega), List.getElem?_append_left (by omega), List.getElem?_append_left (by omega)]
          congr 1;omega
        · rw [if_neg (by omega), List.getElem?_append_right (by omega), List.getElem?_append_right (by omega), List.getElem?_append_right (by omega), List.getElem?_append_right (by omega)]
          congr 1;omega
  · rw [if_neg hx,List.getElem?_eq_none (by simp at hx ⊢;omega)]
theorem idx_lo {B:List Pr} (h:SLe B) (k:ByteArray) {i:Nat} (hi:i < B.length):cB (B[i]).1 k < 0↔i < (lo B k).length:=by
  have hs:=lo_split h k
  constructor
  · intro hc
    rcases Nat.lt_or_ge i (lo B k).length with h|h
    · exact h
    · exfalso
      have hm:B[i] ∈ B.filter (fun p=>!decide (cB p.1 k < 0)):=by
        have e:B[i]? = (B.filter (fun p=>!decide (cB p.1 k < 0)))[i - (lo B k).length]?:=by
          conv=>lhs;rw [hs]
          exact List.getElem?_append_right h
        rw [List.getElem?_eq_getElem hi] at e
        exact List.mem_of_getElem? e.symm
      have:=(List.mem_filter.1 hm).2
      simp at this
      omega
  · intro hl
    have e:B[i]? = (lo B k)[i]?:=by
      conv=>lhs;rw [hs]
      exact List.getElem?_append_left hl
    rw [List.getElem?_eq_getElem hi,List.getElem?_eq_getElem hl] at e
    have e2:=Option.some.inj e
    have:=(List.mem_filter.1 (List.getElem_mem hl)).2
    rw [← e2] at this
    simpa using this
theorem idx_le {B:List Pr} (h:SLe B) (k:ByteArray) {i:Nat} (hib:i < B.length):cB (B[i]).1 k≤0↔i < (le B k).length:=by
  have hs:=le_split h k
  constructor
  · intro hc
    rcases Nat.lt_or_ge i (le B k).length with h|h
    · exact h
    · exfalso
      have hm:B[i] ∈ hi B k:=by
        have e:B[i]? = (hi B k)[i - (le B k).length]?:=by
          conv=>lhs;rw [hs]
          exact List.getElem?_append_right h
        rw [List.getElem?_eq_getElem hib] at e
        exact List.mem_of_getElem? e.symm
      have:=(List.mem_filter.1 hm).2
      simp only [decide_eq_true_eq] at this
      rw [cB_anti (B[i]).1 k] at this
      omega
  · intro hl
    have e:B[i]? = (le B k)[i]?:=by
      conv=>lhs;rw [hs]
      exact List.getElem?_append_left hl
    rw [List.getElem?_eq_getElem hib,List.getElem?_eq_getElem hl] at e
    have e2:=Option.some.inj e
    have:=(List.mem_filter.1 (List.getElem_mem hl)).2
    rw [← e2] at this
    simpa using this
theorem lo_take {B:List Pr} (h:SLe B) (k:ByteArray):B.take (lo B k).length=lo B k:=by
  have:=List.take_left (l₁:=lo B k) (l₂:=B.filter (fun p=>!decide (cB p.1 k < 0)))
  rwa [← lo_split h k] at this
theorem le_take {B:List Pr} (h:SLe B) (k:ByteArray):B.take (le B k).length=le B k:=by
  have:=List.take_left (l₁:=le B k) (l₂:=hi B k)
  rwa [← le_split h k] at this
theorem hi_drop {B:List Pr} (h:SLe B) (k:ByteArray):B.drop (le B k).length=hi B k:=by
  have:=List.drop_left (l₁:=le B k) (l₂:=hi B k)
  rwa [← le_split h k] at this
theorem lo_len {B:List Pr} {k:ByteArray}:(lo B k).length≤B.length:=List.length_filter_le ..
theorem le_len {B:List Pr} {k:ByteArray}:(le B k).length≤B.length:=List.length_filter_le ..
theorem one_left {B:List Pr} (h:SLe B) (x:Pr):B.take (lo B x.1).length++x::B.drop (lo B x.1).length=ssort (x::B):=by
  have hd:B.drop (lo B x.1).length=B.filter (fun p=>!decide (cB p.1 x.1 < 0)):=by
    have:=List.drop_left (l₁:=lo B x.1) (l₂:=B.filter (fun p=>!decide (cB p.1 x.1 < 0)))
    rwa [← lo_split h x.1] at this
  rw [lo_take h,hd]
  refine srt_uniq ?_ (ssort_le _) fun k=>?_
  · refine List.pairwise_append.2 ⟨List.Pairwise.filter _ h,List.pairwise_cons.2 ⟨fun q hq=>?_,List.Pairwise.filter _ h⟩,fun p hp q hq=>?_⟩
    · have := (List.mem_filter.1 hq).2
      simp at this
      rw [cB_anti q.1 x.1];omega
    · have h1 : cB p.1 x.1 < 0 := by have := (List.mem_filter.1 hp).2; simpa using this
      rcases List.mem_cons.1 hq with rfl|hq
      · omega
      · have := (List.mem_filter.1 hq).2
        simp at this
        exact cB_le (b:=x.1) (by omega) (by rw [cB_anti q.1 x.1];omega)
  · rw [ssort_fk, fk_append, fk_cons, fk_cons]
    have e:fk k B=fk k (lo B x.1)++fk k (B.filter fun p=>!decide (cB p.1 x.1 < 0)):=by
      rw [← fk_append,← lo_split h x.1]
    rw [e]
    by_cases hk:x.1=k
    · subst hk
      have:fk x.1 (lo B x.1)=[]:=by rw [fk_lo,cB_self];simp
      simp [this]
    · simp [hk]
theorem one_right {A:List Pr} (h:SLe A) (x:Pr):A.take (le A x.1).length++x::A.drop (le A x.1).length=ssort (A++[x]):=by
  have hd:A.drop (le A x.1).length=hi A x.1:=hi_drop h x.1
  rw [hd,le_take h]
  have:=ins_at (S:=ssort A) (S1:=le A x.1) (S2:=hi A x.1) (x:=x) (L:=A) (by rw [ssort_of h,← le_split h x.1]) (fun p hp=>by have:=(List.mem_filter.1 hp).2;simpa using this) (fun q hq=>by have:=(List.mem_filter.1 hq).2;simpa using this)
  exact this
end Go.Proofs.Ytefkaglgekjlfaa.Sim.Pr7
namespace Go.Proofs.Ytefkaglgekjlfaa.Sim.Pr7
open Go.RowKit
set_option maxRecDepth 100000
theorem sw_fwd {P S R:List Pr} {x y:Pr} {k:Nat} (hk:k=P.length+S.length):((P++(S++x::y::R)).set k y).set (k+1) x=P++(S++[y]++x::R):=by
  subst hk
  have e:P++(S++x::y::R)=(P++S)++x::y::R:=by simp
  have e2:P++(S++[y]++x::R)=(P++S)++y::x::R:=by simp
  rw [e,e2,show P.length+S.length=(P++S).length from (List.length_append).symm,List.set_append_right _ _ (by omega),List.set_append_right _ _ (by omega)]
  simp
theorem at_nx {P S R:List Pr} {x y:Pr} {k:Nat} (hk:k=P.length+S.length):(P++(S++x::y::R))[k+1]? = some y:=by
  have:=at_mid (P:=P) (S:=S++[x]) (x:=y) (R:=R) (k:=k+1) (by simp;omega)
  simpa using this
theorem gdA {P A R:List Pr} {k:Nat} (h1:P.length≤k) (h2:k < P.length+A.length):(P++(A++R))[k]? = some (A[k - P.length]'(by omega)):=by
  rw [List.getElem?_append_right h1,List.getElem?_append_left (by omega),List.getElem?_eq_getElem]
set_option maxHeartbeats 8000000 in
theorem symL (G : Nat → AV) (g : Nat) (P B R : List Pr) (x : Pr) (N a m b : Nat) (hN : (P ++ ([x] ++ (B ++ R))).length = N) (hP : P.length = a) (hA : a + 1 = m) (hB : m + B.length = b) (sB : SLe B) (hok : Okl (P ++ ([x] ++ (B ++ R)))) :
    HC Try.prog G 100 [.ol 0 g N,I a,I m,I b,cF] [rw0 (P++([x]++(B++R))) g] (.tup []) [rw0 (P++(ssort ([x]++B)++R)) g]:=by
  have hlen:=hok.len
  rw [hN] at hlen
  have hbN:b≤N:=by rw [← hN];simp;omega
  have hx:x.1.size≤9223372036854775807:=(hok.sz x (by simp)).1
  have hsB:∀ p ∈ B,p.1.size≤9223372036854775807:=fun p hp=>(hok.sz p (by simp [hp])).1
  obtain ⟨c,hc⟩:∃ c,c=(lo B x.1).length:=⟨_,rfl⟩
  have hcl:c≤B.length:=by rw [hc];exact lo_len
  have hfin:=one_left sB x
  rw [← hc] at hfin
  have ema:(m:Int) - (a:Int)=1:=by omega
  refine hc_of cop100 ?_
  show W _ _ _ _ ⟨_,_⟩;simp only [A100,List.cons_append,List.nil_append,List.length_cons,List.length_nil,Nat.reduceAdd,Nat.reduceSub,List.replicate]
  (refine w_skip_at 77 143 (by simp [skp_len]) fun f77=>?_;simp (disch:=omega) only [List.take_succ_cons,List.take_zero,List.drop_succ_cons,List.drop_zero,List.cons_append,List.nil_append,List.take_nil,List.drop_nil,skp_take,skp_drop,skp_app,Nat.reduceSub,Nat.reduceAdd,List.replicate_succ,List.replicate_zero])
  (refine w_skip_at 54 23 (by simp [skp_len]) fun f54=>?_;simp (disch:=omega) only [List.take_succ_cons,List.take_zero,List.drop_succ_cons,List.drop_zero,List.cons_append,List.nil_append,List.take_nil,List.drop_nil,skp_take,skp_drop,skp_app,Nat.reduceSub,Nat.reduceAdd,List.replicate_succ,List.replicate_zero])
  repeat (first|(with_reducible first|refine w_seq ?_|refine w_reg ?_|refine w_block ?_|refine ws_nil ?_|refine q_then ?_)|((with_reducible first|refine ks fun K hK=>?_|refine kd fun K hK=>?_|refine kc fun K hK2 hK hK3=>?_);simp (disch:=omega) only [bg0,bg1,bg2,bg3,bg4,stepO,rsAs,eff,AX.ev,St.put,binA,conc,ap1,ofVal,Int.reduceTMod,Int.reduceTDiv,reduceCtorEq,fillA,AV.cells,AV.fine,AV.one,Nat.reduceAdd,Nat.reduceSub,Nat.reduceMul,Nat.reduceLT,Nat.reduceLeDiff,Int.reduceLT,Int.reduceLE,Int.reduceAdd,Int.reduceSub,Int.reduceNeg,Int.reduceMul,Int.reduceEq,Int.reduceToNat,nilA,moveA,live,loadA,rdA,storeA,wrA,intA,elemA,lenA,appA,srcA,isPtr,isNilPtr,partA,resOf,sliceA,cut,id,ap2,reduceIte,concs,chkB,geB,AOp.cls,AOp.xs,ltB,ltC,Nat.reduceBEq,Option.toList,List.cons_append,decide_eq_true,decide_eq_false,if_pos,if_neg,List.length_map,List.cons_append,bVb,bVn,eq_self,Bool.and_self,BEq.rfl,not_true_eq_false,set_pA,List.length_set,cVu,cVi,shr1,ema];(with_reducible first|(refine hK _ ?_;clear hK K)|(refine hK ?_;clear hK hK3 K hK2)|(refine hK3 ?_;clear hK hK3 K hK2))))
  refine w_loop_d [10,11,12,31,32,33,34,35,36,37,38,39,40,41,42,43,44,45,46,47,48,49,50,51,52,53] (fun u v H=>∃ i j:Nat,u=j - i∧v 10=I i∧v 11=I j∧m≤i∧i≤m+c∧m+c≤j∧j≤b∧H=[rw0 (P++([x]++(B++R))) g]) (b - m) ⟨m,b,rfl,rfl,rfl,by omega,by omega,by omega,by omega,rfl⟩ ?_
  rintro u v H ⟨i,j,rfl,h10,h11,i1,i2,i3,i4,rfl⟩
  simp only [mix,mix_nil,mix_end,mix_skp,Nat.reduceEqDiff,Nat.reduceLeDiff,reduceCtorEq,if_true,if_false,reduceIte,Nat.reduceAdd,h10,h11]
  by_cases hij:i < j
  · obtain ⟨h, hh⟩ : ∃ h, h = (i + j) / 2 := ⟨_, rfl⟩
    have q1:((P++([x]++(B++R))).map pA)[h]? = some (.agg [S (B[h - m]'(by omega)).1,S (B[h - m]'(by omega)).2]):=pAq (by
      have:=gdA (P:=P++[x]) (A:=B) (R:=R) (k:=h) (by simp;omega) (by simp;omega)
      simp only [List.append_assoc] at this
      rw [this]
      congr 2
      simp;omega)
    have q2:((P++([x]++(B++R))).map pA)[a]? = some (.agg [S x.1,S x.2]):=pAq (at_mid (S:=[]) (by simp;omega))
    have hy:=hsB _ (List.getElem_mem (l:=B) (n:=h - m) (by omega))
    have hidx:=idx_lo sB x.1 (i:=h - m) (by omega)
    rw [← hc] at hidx
    generalize B[h - m]'(by omega)=y at *
    have hm:=hh.symm
    have hNl:=hN
    generalize P++([x]++(B++R))=C at *
    by_cases hlt:cB y.1 x.1 < 0
    · have := hidx.1 hlt
      repeat (first|(with_reducible first|refine w_seq ?_|refine w_reg ?_|refine w_draw ?_|refine w_block ?_|refine w_skip ?_|refine ws_nil ?_|refine wd_nil ?_|refine q_then ?_|refine q_block_n ?_)|((with_reducible first|refine ks fun K hK=>?_|refine kd fun K hK=>?_|refine kc fun K hK2 hK hK3=>?_);simp (disch:=omega) only [bg0,bg1,bg2,bg3,bg4,stepO,rsAs,eff,AX.ev,St.put,binA,conc,ap1,ofVal,Int.reduceTMod,Int.reduceTDiv,reduceCtorEq,fillA,AV.cells,AV.fine,AV.one,Nat.reduceAdd,Nat.reduceSub,Nat.reduceMul,Nat.reduceLT,Nat.reduceLeDiff,Int.reduceLT,Int.reduceLE,Int.reduceAdd,Int.reduceSub,Int.reduceNeg,Int.reduceMul,Int.reduceEq,Int.reduceToNat,nilA,moveA,live,loadA,rdA,storeA,wrA,intA,elemA,lenA,appA,srcA,isPtr,isNilPtr,partA,resOf,sliceA,cut,id,ap2,reduceIte,concs,chkB,geB,AOp.cls,AOp.xs,ltB,ltC,Nat.reduceBEq,Option.toList,List.cons_append,decide_eq_true,decide_eq_false,if_pos,if_neg,List.length_map,List.cons_append,bVb,bVn,eq_self,Bool.and_self,BEq.rfl,not_true_eq_false,set_pA,List.length_set,cVu,cVi,shr1,hm,q1,q2,hlt];(with_reducible first|(refine hK _ ?_;clear hK K)|(refine hK ?_;clear hK hK3 K hK2)|(refine hK3 ?_;clear hK hK3 K hK2)))|((first|((with_reducible refine kvd 93 ?_ ?_ ?_ ?_ ?_ ?_ ?_ ?_);rotate_left 3));(focus (simp (disch:=omega) only [bg0,bg1,bg2,bg3,bg4,stepO,rsAs,eff,AX.ev,St.put,binA,conc,ap1,ofVal,Int.reduceTMod,Int.reduceTDiv,reduceCtorEq,fillA,AV.cells,AV.fine,AV.one,Nat.reduceAdd,Nat.reduceSub,Nat.reduceMul,Nat.reduceLT,Nat.reduceLeDiff,Int.reduceLT,Int.reduceLE,Int.reduceAdd,Int.reduceSub,Int.reduceNeg,Int.reduceMul,Int.reduceEq,Int.reduceToNat,nilA,moveA,live,loadA,rdA,storeA,wrA,intA,elemA,lenA,appA,srcA,isPtr,isNilPtr,partA,resOf,sliceA,cut,id,ap2,reduceIte,concs,chkB,geB,AOp.cls,AOp.xs,ltB,ltC,Nat.reduceBEq,Option.toList,List.cons_append,decide_eq_true,decide_eq_false,if_pos,if_neg,List.length_map,List.cons_append,bVb,bVn,eq_self,Bool.and_self,BEq.rfl,not_true_eq_false,set_pA,List.length_set,cVu,cVi,shr1,hm,q1,q2,hlt];try rfl));(first|(rfl;exact hb93;exact (cmpC G _ hy hx)))))
      exact ⟨rfl,j - (h+1),by omega,h+1,j,rfl,rfl,rfl,by omega,by omega,by omega,by omega,rfl⟩
    · have:¬ (h - m < c):=fun h=>hlt (hidx.2 h)
      repeat (first|(with_reducible first|refine w_seq ?_|refine w_reg ?_|refine w_draw ?_|refine w_block ?_|refine w_skip ?_|refine ws_nil ?_|refine wd_nil ?_|refine q_then ?_|refine q_block_n ?_)|((with_reducible first|refine ks fun K hK=>?_|refine kd fun K hK=>?_|refine kc fun K hK2 hK hK3=>?_);simp (disch:=omega) only [bg0,bg1,bg2,bg3,bg4,stepO,rsAs,eff,AX.ev,St.put,binA,conc,ap1,ofVal,Int.reduceTMod,Int.reduceTDiv,reduceCtorEq,fillA,AV.cells,AV.fine,AV.one,Nat.reduceAdd,Nat.reduceSub,Nat.reduceMul,Nat.reduceLT,Nat.reduceLeDiff,Int.reduceLT,Int.reduceLE,Int.reduceAdd,Int.reduceSub,Int.reduceNeg,Int.reduceMul,Int.reduceEq,Int.reduceToNat,nilA,moveA,live,loadA,rdA,storeA,wrA,intA,elemA,lenA,appA,srcA,isPtr,isNilPtr,partA,resOf,sliceA,cut,id,ap2,reduceIte,concs,chkB,geB,AOp.cls,AOp.xs,ltB,ltC,Nat.reduceBEq,Option.toList,List.cons_append,decide_eq_true,decide_eq_false,if_pos,if_neg,List.length_map,List.cons_append,bVb,bVn,eq_self,Bool.and_self,BEq.rfl,not_true_eq_false,set_pA,List.length_set,cVu,cVi,shr1,hm,q1,q2,hlt];(with_reducible first|(refine hK _ ?_;clear hK K)|(refine hK ?_;clear hK hK3 K hK2)|(refine hK3 ?_;clear hK hK3 K hK2)))|((first|((with_reducible refine kvd 93 ?_ ?_ ?_ ?_ ?_ ?_ ?_ ?_);rotate_left 3));(focus (simp (disch:=omega) only [bg0,bg1,bg2,bg3,bg4,stepO,rsAs,eff,AX.ev,St.put,binA,conc,ap1,ofVal,Int.reduceTMod,Int.reduceTDiv,reduceCtorEq,fillA,AV.cells,AV.fine,AV.one,Nat.reduceAdd,Nat.reduceSub,Nat.reduceMul,Nat.reduceLT,Nat.reduceLeDiff,Int.reduceLT,Int.reduceLE,Int.reduceAdd,Int.reduceSub,Int.reduceNeg,Int.reduceMul,Int.reduceEq,Int.reduceToNat,nilA,moveA,live,loadA,rdA,storeA,wrA,intA,elemA,lenA,appA,srcA,isPtr,isNilPtr,partA,resOf,sliceA,cut,id,ap2,reduceIte,concs,chkB,geB,AOp.cls,AOp.xs,ltB,ltC,Nat.reduceBEq,Option.toList,List.cons_append,decide_eq_true,decide_eq_false,if_pos,if_neg,List.length_map,List.cons_append,bVb,bVn,eq_self,Bool.and_self,BEq.rfl,not_true_eq_false,set_pA,List.length_set,cVu,cVi,shr1,hm,q1,q2,hlt];try rfl));(first|(rfl;exact hb93;exact (cmpC G _ hy hx)))))
      exact ⟨rfl,h - i,by omega,i,h,rfl,rfl,rfl,by omega,by omega,by omega,by omega,rfl⟩
  · obtain rfl : i = m + c := by omega
    obtain rfl:j=m+c:=by omega
    (refine w_skip_at 25 29 (by simp [skp_len]) fun f25=>?_;simp (disch:=omega) only [List.take_succ_cons,List.take_zero,List.drop_succ_cons,List.drop_zero,List.cons_append,List.nil_append,List.take_nil,List.drop_nil,skp_take,skp_drop,skp_app,Nat.reduceSub,Nat.reduceAdd,List.replicate_succ,List.replicate_zero])
    (have ho:∀ (f:Nat→AV) (L:List AV),skp 23 f L=f 0::f 1::f 2::f 3::f 4::f 5::f 6::f 7::f 8::f 9::f 10::f 11::f 12::f 13::f 14::f 15::f 16::f 17::f 18::f 19::f 20::f 21::f 22::L:=fun _ _=>rfl;simp only [ho];clear ho)
    repeat (first|(with_reducible first|refine w_seq ?_|refine w_reg ?_|refine w_block ?_|refine w_exit ?_|refine ws_nil ?_|refine q_then ?_|refine q_then_x ?_|refine q_block_x ?_)|((with_reducible first|refine ks fun K hK=>?_|refine kd fun K hK=>?_|refine kc fun K hK2 hK hK3=>?_);simp (disch:=omega) only [bg0,bg1,bg2,bg3,bg4,stepO,rsAs,eff,AX.ev,St.put,binA,conc,ap1,ofVal,Int.reduceTMod,Int.reduceTDiv,reduceCtorEq,fillA,AV.cells,AV.fine,AV.one,Nat.reduceAdd,Nat.reduceSub,Nat.reduceMul,Nat.reduceLT,Nat.reduceLeDiff,Int.reduceLT,Int.reduceLE,Int.reduceAdd,Int.reduceSub,Int.reduceNeg,Int.reduceMul,Int.reduceEq,Int.reduceToNat,nilA,moveA,live,loadA,rdA,storeA,wrA,intA,elemA,lenA,appA,srcA,isPtr,isNilPtr,partA,resOf,sliceA,cut,id,ap2,reduceIte,concs,chkB,geB,AOp.cls,AOp.xs,ltB,ltC,Nat.reduceBEq,Option.toList,List.cons_append,decide_eq_true,decide_eq_false,if_pos,if_neg,List.length_map,List.cons_append,bVb,bVn,eq_self,Bool.and_self,BEq.rfl,not_true_eq_false,set_pA,List.length_set,cVu,cVi,shr1];(with_reducible first|(refine hK _ ?_;clear hK K)|(refine hK ?_;clear hK hK3 K hK2)|(refine hK3 ?_;clear hK hK3 K hK2))))
    refine w_loop_m [13,55,56,57,58,59,60,61,62,63,64,65,66,67,68,69,70,71,72,73,74,75,76] (fun r v H=>v 13=I ((a+r:Nat):Int)∧H=[rw0 (P++(B.take r++x::(B.drop r++R))) g]) c ⟨by simp [at_],rfl⟩ ?_ ?_
    · rintro r v2 H hr ⟨h13, rfl⟩
      have hrB:r < B.length:=by omega
      have hSl:(B.take r).length=r:=by simp;omega
      have hdr:B.drop r=B[r]::B.drop (r+1):=List.drop_eq_getElem_cons hrB
      have htk:B.take (r+1)=B.take r++[B[r]]:=by rw [List.take_add_one,List.getElem?_eq_getElem hrB];rfl
      rw [hdr,htk]
      generalize B[r]=y at *
      have q1:=pAq (at_mid (P:=P) (S:=B.take r) (x:=x) (R:=y::(B.drop (r+1)++R)) (k:=a+r) (by omega))
      have q2:=pAq (at_nx (P:=P) (S:=B.take r) (x:=x) (y:=y) (R:=B.drop (r+1)++R) (k:=a+r) (by omega))
      have q3:(((P++(B.take r++x::y::(B.drop (r+1)++R))).set (a+r) y).map pA)[a+r+1]? = some (.agg [S y.1,S y.2]):=pAq (by rw [List.getElem?_set_ne (by omega)];exact at_nx (by omega))
      have hsw:=sw_fwd (P:=P) (S:=B.take r) (x:=x) (y:=y) (R:=B.drop (r+1)++R) (k:=a+r) (by omega)
      have hCl:(P++(B.take r++x::y::(B.drop (r+1)++R))).length=N:=by
        rw [← hN];simp [hSl];omega
      simp only [List.cons_append] at *
      generalize P++(B.take r++x::y::(B.drop (r+1)++R))=C at *
      have e1:((a:Int)+(r:Int)+1).toNat=a+r+1:=by omega
      have e2:((a:Int)+(r:Int)).toNat=a+r:=by omega
      have hw3:a+r+1 < N:=by omega
      have hcN:m+c≤N:=by omega
      clear hSl hdr htk hc hfin hB hbN hcl ema i1 i2 i3 i4 hij
      simp only [mix,mix_nil,mix_end,mix_skp,Nat.reduceEqDiff,Nat.reduceLeDiff,reduceCtorEq,if_true,if_false,reduceIte,Nat.reduceAdd,h13]
      repeat (first|(with_reducible first|refine w_seq ?_|refine w_reg ?_)|(with_reducible refine w_drawx2 ?_ ?_ ?_ ?_;rotate_left 1)|(with_reducible first|exact isSt|refine w_block ?_|refine w_skip ?_|refine ws_nil ?_|refine wd_nil ?_|refine q_then ?_|refine q_block_n ?_)|((with_reducible first|refine ks fun K hK=>?_|refine kd fun K hK=>?_|refine kc fun K hK2 hK hK3=>?_);simp (disch:=omega) only [bg0,bg1,bg2,bg3,bg4,stepO,rsAs,eff,AX.ev,St.put,binA,conc,ap1,ofVal,Int.reduceTMod,Int.reduceTDiv,reduceCtorEq,fillA,AV.cells,AV.fine,AV.one,Nat.reduceAdd,Nat.reduceSub,Nat.reduceMul,Nat.reduceLT,Nat.reduceLeDiff,Int.reduceLT,Int.reduceLE,Int.reduceAdd,Int.reduceSub,Int.reduceNeg,Int.reduceMul,Int.reduceEq,Int.reduceToNat,nilA,moveA,live,loadA,rdA,storeA,wrA,intA,elemA,lenA,appA,srcA,isPtr,isNilPtr,partA,resOf,sliceA,cut,id,ap2,reduceIte,concs,chkB,geB,AOp.cls,AOp.xs,ltB,ltC,Nat.reduceBEq,Option.toList,List.cons_append,decide_eq_true,decide_eq_false,if_pos,if_neg,List.length_map,List.cons_append,bVb,bVn,eq_self,Bool.and_self,BEq.rfl,not_true_eq_false,set_pA,List.length_set,cVu,cVi,shr1,q1,q2,q3,e1,e2];(with_reducible first|(refine hK _ ?_;clear hK K)|(refine hK ?_;clear hK hK3 K hK2)|(refine hK3 ?_;clear hK hK3 K hK2))))
      exact ⟨rfl,by simp [at_];omega,rw0_eq hsw⟩
    · rintro v2 H ⟨h13, rfl⟩
      simp only [mix,mix_nil,mix_end,mix_skp,Nat.reduceEqDiff,Nat.reduceLeDiff,reduceCtorEq,if_true,if_false,reduceIte,Nat.reduceAdd,h13]
      (try simp only [List.cons_append,List.nil_append])
      rw [← hfin]
      simp only [List.append_assoc,List.cons_append]
      repeat (first|(with_reducible first|refine w_seq ?_|refine w_reg ?_|refine w_exit ?_|refine ws_nil ?_|refine q_then ?_|refine q_then_x ?_|refine q_block_x ?_|refine w_ret ?_|refine q_then_r ?_)|((with_reducible first|refine ks fun K hK=>?_|refine kd fun K hK=>?_|refine kc fun K hK2 hK hK3=>?_);simp (disch:=omega) only [bg0,bg1,bg2,bg3,bg4,stepO,rsAs,eff,AX.ev,St.put,binA,conc,ap1,ofVal,Int.reduceTMod,Int.reduceTDiv,reduceCtorEq,fillA,AV.cells,AV.fine,AV.one,Nat.reduceAdd,Nat.reduceSub,Nat.reduceMul,Nat.reduceLT,Nat.reduceLeDiff,Int.reduceLT,Int.reduceLE,Int.reduceAdd,Int.reduceSub,Int.reduceNeg,Int.reduceMul,Int.reduceEq,Int.reduceToNat,nilA,moveA,live,loadA,rdA,storeA,wrA,intA,elemA,lenA,appA,srcA,isPtr,isNilPtr,partA,resOf,sliceA,cut,id,ap2,reduceIte,concs,chkB,geB,AOp.cls,AOp.xs,ltB,ltC,Nat.reduceBEq,Option.toList,List.cons_append,decide_eq_true,decide_eq_false,if_pos,if_neg,List.length_map,List.cons_append,bVb,bVn,eq_self,Bool.and_self,BEq.rfl,not_true_eq_false,set_pA,List.length_set,cVu,cVi,shr1];(with_reducible first|(refine hK _ ?_;clear hK K)|(refine hK ?_;clear hK hK3 K hK2)|(refine hK3 ?_;clear hK hK3 K hK2)))|((with_reducible refine ret_0r ?_);try rfl))
set_option maxHeartbeats 8000000 in
theorem symR (G : Nat → AV) (g : Nat) (P A R : List Pr) (x : Pr) (N a m b : Nat) (hN : (P ++ (A ++ ([x] ++ R))).length = N) (hP : P.length = a) (hA : a + A.length = m) (hA2 : 2 ≤ A.length) (hB : m + 1 = b) (sA : SLe A) (hok : Okl (P ++ (A ++ ([x] ++ R)))) :
    HC Try.prog G 100 [.ol 0 g N,I a,I m,I b,cF] [rw0 (P++(A++([x]++R))) g] (.tup []) [rw0 (P++(ssort (A++[x])++R)) g]:=by
  have hlen:=hok.len
  rw [hN] at hlen
  have hbN:b≤N:=by rw [← hN];simp;omega
  have hx:x.1.size≤9223372036854775807:=(hok.sz x (by simp)).1
  have hsA:∀ p ∈ A,p.1.size≤9223372036854775807:=fun p hp=>(hok.sz p (by simp [hp])).1
  obtain ⟨c,hc⟩:∃ c,c=(le A x.1).length:=⟨_,rfl⟩
  have hcl:c≤A.length:=by rw [hc];exact le_len
  have hfin:=one_right sA x
  rw [← hc] at hfin
  have ema:¬ ((m:Int) - (a:Int)=1):=by omega
  have ebm:(b:Int) - (m:Int)=1:=by omega
  refine hc_of cop100 ?_
  show W _ _ _ _ ⟨_,_⟩;simp only [A100,List.cons_append,List.nil_append,List.length_cons,List.length_nil,Nat.reduceAdd,Nat.reduceSub,List.replicate]
  (refine w_skip_at 129 91 (by simp [skp_len]) fun f129=>?_;simp (disch:=omega) only [List.take_succ_cons,List.take_zero,List.drop_succ_cons,List.drop_zero,List.cons_append,List.nil_append,List.take_nil,List.drop_nil,skp_take,skp_drop,skp_app,Nat.reduceSub,Nat.reduceAdd,List.replicate_succ,List.replicate_zero])
  (refine w_skip_at 107 22 (by simp [skp_len]) fun f107=>?_;simp (disch:=omega) only [List.take_succ_cons,List.take_zero,List.drop_succ_cons,List.drop_zero,List.cons_append,List.nil_append,List.take_nil,List.drop_nil,skp_take,skp_drop,skp_app,Nat.reduceSub,Nat.reduceAdd,List.replicate_succ,List.replicate_zero])
  repeat (first|(with_reducible first|refine w_seq ?_|refine w_reg ?_|refine w_block ?_|refine w_skip ?_|refine ws_nil ?_|refine q_then ?_)|((with_reducible first|refine ks fun K hK=>?_|refine kd fun K hK=>?_|refine kc fun K hK2 hK hK3=>?_);simp (disch:=omega) only [bg0,bg1,bg2,bg3,bg4,stepO,rsAs,eff,AX.ev,St.put,binA,conc,ap1,ofVal,Int.reduceTMod,Int.reduceTDiv,reduceCtorEq,fillA,AV.cells,AV.fine,AV.one,Nat.reduceAdd,Nat.reduceSub,Nat.reduceMul,Nat.reduceLT,Nat.reduceLeDiff,Int.reduceLT,Int.reduceLE,Int.reduceAdd,Int.reduceSub,Int.reduceNeg,Int.reduceMul,Int.reduceEq,Int.reduceToNat,nilA,moveA,live,loadA,rdA,storeA,wrA,intA,elemA,lenA,appA,srcA,isPtr,isNilPtr,partA,resOf,sliceA,cut,id,ap2,reduceIte,concs,chkB,geB,AOp.cls,AOp.xs,ltB,ltC,Nat.reduceBEq,Option.toList,List.cons_append,decide_eq_true,decide_eq_false,if_pos,if_neg,List.length_map,List.cons_append,bVb,bVn,eq_self,Bool.and_self,BEq.rfl,not_true_eq_false,set_pA,List.length_set,cVu,cVi,shr1,ema,ebm];(with_reducible first|(refine hK _ ?_;clear hK K)|(refine hK ?_;clear hK hK3 K hK2)|(refine hK3 ?_;clear hK hK3 K hK2))))
  (refine w_skip_at 25 58 (by simp [skp_len]) fun f25=>?_;simp (disch:=omega) only [List.take_succ_cons,List.take_zero,List.drop_succ_cons,List.drop_zero,List.cons_append,List.nil_append,List.take_nil,List.drop_nil,skp_take,skp_drop,skp_app,Nat.reduceSub,Nat.reduceAdd,List.replicate_succ,List.replicate_zero])
  refine w_loop_d [14,15,16,83,84,85,86,87,88,89,90,91,92,93,94,95,96,97,98,99,100,101,102,103,104,105,106] (fun u v H=>∃ i j:Nat,u=j - i∧v 14=I i∧v 15=I j∧a≤i∧i≤a+c∧a+c≤j∧j≤m∧H=[rw0 (P++(A++([x]++R))) g]) (m - a) ⟨a,m,rfl,rfl,rfl,by omega,by omega,by omega,by omega,rfl⟩ ?_
  rintro u v H ⟨i,j,rfl,h14,h15,i1,i2,i3,i4,rfl⟩
  simp only [mix,mix_nil,mix_end,mix_skp,Nat.reduceEqDiff,Nat.reduceLeDiff,reduceCtorEq,if_true,if_false,reduceIte,Nat.reduceAdd,h14,h15]
  by_cases hij:i < j
  · obtain ⟨h, hh⟩ : ∃ h, h = (i + j) / 2 := ⟨_, rfl⟩
    have q1:((P++(A++([x]++R))).map pA)[h]? = some (.agg [S (A[h - a]'(by omega)).1,S (A[h - a]'(by omega)).2]):=pAq (by
      have:=gdA (P:=P) (A:=A) (R:=[x]++R) (k:=h) (by omega) (by omega)
      rw [this]
      congr 2
      omega)
    have q2:((P++(A++([x]++R))).map pA)[m]? = some (.agg [S x.1,S x.2]):=pAq (at_mid (S:=A) (by omega))
    have hy:=hsA _ (List.getElem_mem (l:=A) (n:=h - a) (by omega))
    have hidx:=idx_le sA x.1 (i:=h - a) (by omega)
    rw [← hc] at hidx
    generalize A[h - a]'(by omega)=y at *
    have hm:=hh.symm
    have hNl:=hN
    generalize P++(A++([x]++R))=C at *
    have hanti:=cB_anti y.1 x.1
    by_cases hlt:cB x.1 y.1 < 0
    · have:¬ (h - a < c):=fun h=>by have:=hidx.2 h;omega
      repeat (first|(with_reducible first|refine w_seq ?_|refine w_reg ?_|refine w_draw ?_|refine w_block ?_|refine w_skip ?_|refine ws_nil ?_|refine wd_nil ?_|refine q_then ?_|refine q_block_n ?_)|((with_reducible first|refine ks fun K hK=>?_|refine kd fun K hK=>?_|refine kc fun K hK2 hK hK3=>?_);simp (disch:=omega) only [bg0,bg1,bg2,bg3,bg4,stepO,rsAs,eff,AX.ev,St.put,binA,conc,ap1,ofVal,Int.reduceTMod,Int.reduceTDiv,reduceCtorEq,fillA,AV.cells,AV.fine,AV.one,Nat.reduceAdd,Nat.reduceSub,Nat.reduceMul,Nat.reduceLT,Nat.reduceLeDiff,Int.reduceLT,Int.reduceLE,Int.reduceAdd,Int.reduceSub,Int.reduceNeg,Int.reduceMul,Int.reduceEq,Int.reduceToNat,nilA,moveA,live,loadA,rdA,storeA,wrA,intA,elemA,lenA,appA,srcA,isPtr,isNilPtr,partA,resOf,sliceA,cut,id,ap2,reduceIte,concs,chkB,geB,AOp.cls,AOp.xs,ltB,ltC,Nat.reduceBEq,Option.toList,List.cons_append,decide_eq_true,decide_eq_false,if_pos,if_neg,List.length_map,List.cons_append,bVb,bVn,eq_self,Bool.and_self,BEq.rfl,not_true_eq_false,set_pA,List.length_set,cVu,cVi,shr1,hm,q1,q2,hlt];(with_reducible first|(refine hK _ ?_;clear hK K)|(refine hK ?_;clear hK hK3 K hK2)|(refine hK3 ?_;clear hK hK3 K hK2)))|((first|((with_reducible refine kvd 93 ?_ ?_ ?_ ?_ ?_ ?_ ?_ ?_);rotate_left 3));(focus (simp (disch:=omega) only [bg0,bg1,bg2,bg3,bg4,stepO,rsAs,eff,AX.ev,St.put,binA,conc,ap1,ofVal,Int.reduceTMod,Int.reduceTDiv,reduceCtorEq,fillA,AV.cells,AV.fine,AV.one,Nat.reduceAdd,Nat.reduceSub,Nat.reduceMul,Nat.reduceLT,Nat.reduceLeDiff,Int.reduceLT,Int.reduceLE,Int.reduceAdd,Int.reduceSub,Int.reduceNeg,Int.reduceMul,Int.reduceEq,Int.reduceToNat,nilA,moveA,live,loadA,rdA,storeA,wrA,intA,elemA,lenA,appA,srcA,isPtr,isNilPtr,partA,resOf,sliceA,cut,id,ap2,reduceIte,concs,chkB,geB,AOp.cls,AOp.xs,ltB,ltC,Nat.reduceBEq,Option.toList,List.cons_append,decide_eq_true,decide_eq_false,if_pos,if_neg,List.length_map,List.cons_append,bVb,bVn,eq_self,Bool.and_self,BEq.rfl,not_true_eq_false,set_pA,List.length_set,cVu,cVi,shr1,hm,q1,q2,hlt];try rfl));(first|(rfl;exact hb93;exact (cmpC G _ hx hy)))))
      exact ⟨rfl,h - i,by omega,i,h,rfl,rfl,rfl,by omega,by omega,by omega,by omega,rfl⟩
    · have := hidx.1 (by omega)
      repeat (first|(with_reducible first|refine w_seq ?_|refine w_reg ?_|refine w_draw ?_|refine w_block ?_|refine w_skip ?_|refine ws_nil ?_|refine wd_nil ?_|refine q_then ?_|refine q_block_n ?_)|((with_reducible first|refine ks fun K hK=>?_|refine kd fun K hK=>?_|refine kc fun K hK2 hK hK3=>?_);simp (disch:=omega) only [bg0,bg1,bg2,bg3,bg4,stepO,rsAs,eff,AX.ev,St.put,binA,conc,ap1,ofVal,Int.reduceTMod,Int.reduceTDiv,reduceCtorEq,fillA,AV.cells,AV.fine,AV.one,Nat.reduceAdd,Nat.reduceSub,Nat.reduceMul,Nat.reduceLT,Nat.reduceLeDiff,Int.reduceLT,Int.reduceLE,Int.reduceAdd,Int.reduceSub,Int.reduceNeg,Int.reduceMul,Int.reduceEq,Int.reduceToNat,nilA,moveA,live,loadA,rdA,storeA,wrA,intA,elemA,lenA,appA,srcA,isPtr,isNilPtr,partA,resOf,sliceA,cut,id,ap2,reduceIte,concs,chkB,geB,AOp.cls,AOp.xs,ltB,ltC,Nat.reduceBEq,Option.toList,List.cons_append,decide_eq_true,decide_eq_false,if_pos,if_neg,List.length_map,List.cons_append,bVb,bVn,eq_self,Bool.and_self,BEq.rfl,not_true_eq_false,set_pA,List.length_set,cVu,cVi,shr1,hm,q1,q2,hlt];(with_reducible first|(refine hK _ ?_;clear hK K)|(refine hK ?_;clear hK hK3 K hK2)|(refine hK3 ?_;clear hK hK3 K hK2)))|((first|((with_reducible refine kvd 93 ?_ ?_ ?_ ?_ ?_ ?_ ?_ ?_);rotate_left 3));(focus (simp (disch:=omega) only [bg0,bg1,bg2,bg3,bg4,stepO,rsAs,eff,AX.ev,St.put,binA,conc,ap1,ofVal,Int.reduceTMod,Int.reduceTDiv,reduceCtorEq,fillA,AV.cells,AV.fine,AV.one,Nat.reduceAdd,Nat.reduceSub,Nat.reduceMul,Nat.reduceLT,Nat.reduceLeDiff,Int.reduceLT,Int.reduceLE,Int.reduceAdd,Int.reduceSub,Int.reduceNeg,Int.reduceMul,Int.reduceEq,Int.reduceToNat,nilA,moveA,live,loadA,rdA,storeA,wrA,intA,elemA,lenA,appA,srcA,isPtr,isNilPtr,partA,resOf,sliceA,cut,id,ap2,reduceIte,concs,chkB,geB,AOp.cls,AOp.xs,ltB,ltC,Nat.reduceBEq,Option.toList,List.cons_append,decide_eq_true,decide_eq_false,if_pos,if_neg,List.length_map,List.cons_append,bVb,bVn,eq_self,Bool.and_self,BEq.rfl,not_true_eq_false,set_pA,List.length_set,cVu,cVi,shr1,hm,q1,q2,hlt];try rfl));(first|(rfl;exact hb93;exact (cmpC G _ hx hy)))))
      exact ⟨rfl,j - (h+1),by omega,h+1,j,rfl,rfl,rfl,by omega,by omega,by omega,by omega,rfl⟩
  · obtain rfl : i = a + c := by omega
    obtain rfl:j=a+c:=by omega
    (refine w_skip_at 83 24 (by simp [skp_len]) fun f83=>?_;simp (disch:=omega) only [List.take_succ_cons,List.take_zero,List.drop_succ_cons,List.drop_zero,List.cons_append,List.nil_append,List.take_nil,List.drop_nil,skp_take,skp_drop,skp_app,Nat.reduceSub,Nat.reduceAdd,List.replicate_succ,List.replicate_zero])
    (have ho:∀ (f:Nat→AV) (L:List AV),skp 22 f L=f 0::f 1::f 2::f 3::f 4::f 5::f 6::f 7::f 8::f 9::f 10::f 11::f 12::f 13::f 14::f 15::f 16::f 17::f 18::f 19::f 20::f 21::L:=fun _ _=>rfl;simp only [ho];clear ho)
    repeat (first|(with_reducible first|refine w_seq ?_|refine w_reg ?_|refine w_block ?_|refine w_exit ?_|refine ws_nil ?_|refine q_then ?_|refine q_then_x ?_|refine q_block_x ?_)|((with_reducible first|refine ks fun K hK=>?_|refine kd fun K hK=>?_|refine kc fun K hK2 hK hK3=>?_);simp (disch:=omega) only [bg0,bg1,bg2,bg3,bg4,stepO,rsAs,eff,AX.ev,St.put,binA,conc,ap1,ofVal,Int.reduceTMod,Int.reduceTDiv,reduceCtorEq,fillA,AV.cells,AV.fine,AV.one,Nat.reduceAdd,Nat.reduceSub,Nat.reduceMul,Nat.reduceLT,Nat.reduceLeDiff,Int.reduceLT,Int.reduceLE,Int.reduceAdd,Int.reduceSub,Int.reduceNeg,Int.reduceMul,Int.reduceEq,Int.reduceToNat,nilA,moveA,live,loadA,rdA,storeA,wrA,intA,elemA,lenA,appA,srcA,isPtr,isNilPtr,partA,resOf,sliceA,cut,id,ap2,reduceIte,concs,chkB,geB,AOp.cls,AOp.xs,ltB,ltC,Nat.reduceBEq,Option.toList,List.cons_append,decide_eq_true,decide_eq_false,if_pos,if_neg,List.length_map,List.cons_append,bVb,bVn,eq_self,Bool.and_self,BEq.rfl,not_true_eq_false,set_pA,List.length_set,cVu,cVi,shr1];(with_reducible first|(refine hK _ ?_;clear hK K)|(refine hK ?_;clear hK hK3 K hK2)|(refine hK3 ?_;clear hK hK3 K hK2))))
    refine w_loop_m [17,108,109,110,111,112,113,114,115,116,117,118,119,120,121,122,123,124,125,126,127,128] (fun r v H=>v 17=I ((m - r:Nat):Int)∧H=[rw0 (P++(A.take (A.length - r)++x::(A.drop (A.length - r)++R))) g]) (A.length - c) ⟨rfl,by simp⟩ ?_ ?_
    · rintro r v2 H hr ⟨h17, rfl⟩
      obtain ⟨w,hw⟩:∃ w,w+1=A.length - r:=⟨A.length - r - 1,by omega⟩
      have hw2:A.length - (r+1)=w:=by omega
      rw [← hw,hw2]
      have hwA:w < A.length:=by omega
      have hSl:(A.take w).length=w:=by simp;omega
      have hdr:A.drop w=A[w]::A.drop (w+1):=List.drop_eq_getElem_cons hwA
      have htk:A.take (w+1)=A.take w++[A[w]]:=by rw [List.take_add_one,List.getElem?_eq_getElem hwA];rfl
      rw [hdr,htk]
      generalize A[w]=y at *
      have hmr:m - r=a+w+1:=by omega
      have hmr2:m - (r+1)=a+w:=by omega
      rw [hmr] at h17
      rw [hmr2]
      have q1:=pAq (at_mid (P:=P) (S:=A.take w++[y]) (x:=x) (R:=A.drop (w+1)++R) (k:=a+w+1) (by simp;omega))
      have q2:=pAq (at_pre (P:=P) (S:=A.take w) (x:=x) (y:=y) (R:=A.drop (w+1)++R) (k:=a+w) (by omega))
      have q3:(((P++(A.take w++[y]++x::(A.drop (w+1)++R))).set (a+w+1) y).map pA)[a+w]? = some (.agg [S y.1,S y.2]):=pAq (by rw [List.getElem?_set_ne (by omega)];exact at_pre (by omega))
      have hsw:=sw_mid (P:=P) (S:=A.take w) (x:=x) (y:=y) (R:=A.drop (w+1)++R) (k:=a+w) (by omega)
      have hCl:(P++(A.take w++[y]++x::(A.drop (w+1)++R))).length=N:=by
        rw [← hN];simp [hSl];omega
      generalize P++(A.take w++[y]++x::(A.drop (w+1)++R))=C at *
      have e1:((a:Int)+(w:Int)+1).toNat=a+w+1:=by omega
      have e2:((a:Int)+(w:Int)).toNat=a+w:=by omega
      have hw3:a+w+1 < N:=by omega
      have hw4:c≤w:=by omega
      clear hmr hmr2 hw hw2 hr hSl hdr htk hc hfin hA hB hbN hcl ema ebm i1 i2 i3 i4 hij
      simp only [mix,mix_nil,mix_end,mix_skp,Nat.reduceEqDiff,Nat.reduceLeDiff,reduceCtorEq,if_true,if_false,reduceIte,Nat.reduceAdd,h17]
      repeat (first|(with_reducible first|refine w_seq ?_|refine w_reg ?_)|(with_reducible refine w_drawx2 ?_ ?_ ?_ ?_;rotate_left 1)|(with_reducible first|exact isSt|refine w_block ?_|refine w_skip ?_|refine ws_nil ?_|refine wd_nil ?_|refine q_then ?_|refine q_block_n ?_)|((with_reducible first|refine ks fun K hK=>?_|refine kd fun K hK=>?_|refine kc fun K hK2 hK hK3=>?_);simp (disch:=omega) only [bg0,bg1,bg2,bg3,bg4,stepO,rsAs,eff,AX.ev,St.put,binA,conc,ap1,ofVal,Int.reduceTMod,Int.reduceTDiv,reduceCtorEq,fillA,AV.cells,AV.fine,AV.one,Nat.reduceAdd,Nat.reduceSub,Nat.reduceMul,Nat.reduceLT,Nat.reduceLeDiff,Int.reduceLT,Int.reduceLE,Int.reduceAdd,Int.reduceSub,Int.reduceNeg,Int.reduceMul,Int.reduceEq,Int.reduceToNat,nilA,moveA,live,loadA,rdA,storeA,wrA,intA,elemA,lenA,appA,srcA,isPtr,isNilPtr,partA,resOf,sliceA,cut,id,ap2,reduceIte,concs,chkB,geB,AOp.cls,AOp.xs,ltB,ltC,Nat.reduceBEq,Option.toList,List.cons_append,decide_eq_true,decide_eq_false,if_pos,if_neg,List.length_map,List.cons_append,bVb,bVn,eq_self,Bool.and_self,BEq.rfl,not_true_eq_false,set_pA,List.length_set,cVu,cVi,shr1,q1,q2,q3,e1,e2];(with_reducible first|(refine hK _ ?_;clear hK K)|(refine hK ?_;clear hK hK3 K hK2)|(refine hK3 ?_;clear hK hK3 K hK2))))
      exact ⟨rfl,by simp [at_],rw0_eq hsw⟩
    · rintro v2 H ⟨h17, rfl⟩
      rw [show m - (A.length - c)=a+c by omega] at h17
      rw [show A.length - (A.length - c)=c by omega]
      simp only [mix,mix_nil,mix_end,mix_skp,Nat.reduceEqDiff,Nat.reduceLeDiff,reduceCtorEq,if_true,if_false,reduceIte,Nat.reduceAdd,h17]
      rw [← hfin]
      simp only [List.append_assoc,List.cons_append]
      repeat (first|(with_reducible first|refine w_seq ?_|refine w_reg ?_|refine w_exit ?_|refine ws_nil ?_|refine q_then ?_|refine q_then_x ?_|refine q_block_x ?_|refine w_ret ?_|refine q_then_r ?_)|((with_reducible first|refine ks fun K hK=>?_|refine kd fun K hK=>?_|refine kc fun K hK2 hK hK3=>?_);simp (disch:=omega) only [bg0,bg1,bg2,bg3,bg4,stepO,rsAs,eff,AX.ev,St.put,binA,conc,ap1,ofVal,Int.reduceTMod,Int.reduceTDiv,reduceCtorEq,fillA,AV.cells,AV.fine,AV.one,Nat.reduceAdd,Nat.reduceSub,Nat.reduceMul,Nat.reduceLT,Nat.reduceLeDiff,Int.reduceLT,Int.reduceLE,Int.reduceAdd,Int.reduceSub,Int.reduceNeg,Int.reduceMul,Int.reduceEq,Int.reduceToNat,nilA,moveA,live,loadA,rdA,storeA,wrA,intA,elemA,lenA,appA,srcA,isPtr,isNilPtr,partA,resOf,sliceA,cut,id,ap2,reduceIte,concs,chkB,geB,AOp.cls,AOp.xs,ltB,ltC,Nat.reduceBEq,Option.toList,List.cons_append,decide_eq_true,decide_eq_false,if_pos,if_neg,List.length_map,List.cons_append,bVb,bVn,eq_self,Bool.and_self,BEq.rfl,not_true_eq_false,set_pA,List.length_set,cVu,cVi,shr1];(with_reducible first|(refine hK _ ?_;clear hK K)|(refine hK ?_;clear hK hK3 K hK2)|(refine hK3 ?_;clear hK hK3 K hK2)))|((with_reducible refine ret_0r ?_);try rfl))
end Go.Proofs.Ytefkaglgekjlfaa.Sim.Pr7
namespace Go.Proofs.Ytefkaglgekjlfaa.Sim.Pr7
open Go.RowKit
set_option maxRecDepth 100000
def SymOk (G : Nat → AV) : Prop := ∀ (g n : Nat) (P A B R : List Pr) (N a m b : Nat), A.length + B.length ≤ n → (P ++ (A ++ (B ++ R))).length = N → P.length = a → a + A.length = m → m + B.length = b → 0 < A.length → 0 < B.length → SLe A → SLe B → Okl (P ++ (A ++ (B ++ R))) →
    HC Try.prog G 100 [.ol 0 g N,I a,I m,I b,cF] [rw0 (P++(A++(B++R))) g] (.tup []) [rw0 (P++(ssort (A++B)++R)) g]
theorem srt_all (D:List Pr):srt D 0 D.length=ssort D:=by simp [srt,seg]
theorem srt_len {D:List Pr} {a b:Nat} (h:a≤b) (hb:b≤D.length):(srt D a b).length=D.length:=by
  simp [srt,ssort_len,seg];omega
theorem srt_mem {D:List Pr} {a b:Nat} {x:Pr} (h:x ∈ srt D a b):x ∈ D:=by
  simp only [srt,List.mem_append,ssort_mem] at h
  rcases h with h|h|h
  · exact List.mem_of_mem_take h
  · exact seg_mem h
  · exact List.mem_of_mem_drop h
theorem okl_srt {D:List Pr} {a b:Nat} (hD:Okl D) (h:a≤b) (hb:b≤D.length):Okl (srt D a b):=⟨by rw [srt_len h hb];exact hD.len,fun p hp=>hD.sz p (srt_mem hp)⟩
theorem srt_two {D:List Pr} {c:Nat} (hc:c≤D.length):srt (srt D 0 c) c D.length=ssort (D.take c)++(ssort (D.drop c)++[]):=by
  have h1:srt D 0 c=ssort (D.take c)++D.drop c:=by simp [srt,seg]
  have h2:(ssort (D.take c)).length=c:=by rw [ssort_len];simp;omega
  rw [h1]
  unfold srt seg
  have e1:(ssort (D.take c)++D.drop c).take c=ssort (D.take c):=by
    have:=List.take_left (l₁:=ssort (D.take c)) (l₂:=D.drop c)
    rwa [h2] at this
  have e2:((ssort (D.take c)++D.drop c).take D.length).drop c=D.drop c:=by
    rw [List.take_of_length_le (by simp [h2];omega)]
    have:=List.drop_left (l₁:=ssort (D.take c)) (l₂:=D.drop c)
    rwa [h2] at this
  have e3:(ssort (D.take c)++D.drop c).drop D.length=[]:=List.drop_of_length_le (by simp [h2];omega)
  rw [e1,e2,e3]
theorem ssort_two (X Y:List Pr):ssort (ssort X++ssort Y)=ssort (X++Y) :=
  srt_uniq (ssort_le _) (ssort_le _) fun k=>by simp only [ssort_fk,fk_append]
set_option maxHeartbeats 8000000 in
theorem stable37 (G : Nat → AV) (hS : SymOk G) (D : List Pr) (g : Nat) (hD : Okl D) (h40 : D.length ≤ 40) :
    HC Try.prog G 98 [.ol 0 g D.length,I D.length,cF] [rw0 D g] (.tup []) [rw0 (ssort D) g]:=by
  obtain ⟨N,hN⟩:∃ N,N=D.length:=⟨_,rfl⟩
  by_cases h1:N < 20
  · have i1 := ins43 G D g 0 N hD (by omega) (by omega)
    rw [hN,srt_all] at i1
    rw [← hN] at i1 ⊢
    refine hc_of cop98 ?_
    show W _ _ _ _ ⟨_,_⟩;simp only [A98,List.cons_append,List.nil_append,List.length_cons,List.length_nil,Nat.reduceAdd,Nat.reduceSub,List.replicate]
    clear hD hS
    repeat (first|(with_reducible first|refine w_seq ?_|refine w_reg ?_|refine w_block ?_|refine w_exit ?_|refine ws_nil ?_|refine q_then ?_|refine q_then_x ?_|refine q_block_x ?_)|(with_reducible first|refine w_loopF 60 ?_|refine w_loopS ?_)|((with_reducible first|refine ks fun K hK=>?_|refine kd fun K hK=>?_|refine kc fun K hK2 hK hK3=>?_);simp (disch:=omega) only [bg0,bg1,bg2,bg3,bg4,stepO,rsAs,eff,AX.ev,St.put,binA,conc,ap1,ofVal,Int.reduceTMod,Int.reduceTDiv,reduceCtorEq,fillA,AV.cells,AV.fine,AV.one,Nat.reduceAdd,Nat.reduceSub,Nat.reduceMul,Nat.reduceLT,Nat.reduceLeDiff,Int.reduceLT,Int.reduceLE,Int.reduceAdd,Int.reduceSub,Int.reduceNeg,Int.reduceMul,Int.reduceEq,Int.reduceToNat,nilA,moveA,live,loadA,rdA,storeA,wrA,intA,elemA,lenA,appA,srcA,isPtr,isNilPtr,partA,resOf,sliceA,cut,id,ap2,reduceIte,concs,chkB,geB,AOp.cls,AOp.xs,ltB,ltC,Nat.reduceBEq,Option.toList,List.cons_append,decide_eq_true,decide_eq_false,if_pos,if_neg,List.length_map,pA_at,List.cons_append,bVb,bVn,eq_self,Bool.and_self,BEq.rfl,not_true_eq_false];(with_reducible first|(refine hK _ ?_;clear hK K)|(refine hK ?_;clear hK hK3 K hK2)|(refine hK3 ?_;clear hK hK3 K hK2)))|((with_reducible refine khs 99 ?_ ?_ ?_ ?_);rotate_left 2;exact i1)|((with_reducible refine ret_0 ?_);try rfl))
  have i1:=ins43 G D g 0 20 hD (by omega) (by omega)
  have l1:=srt_len (D:=D) (a:=0) (b:=20) (by omega) (by omega)
  by_cases h2:N=20
  · have i2 := ins43 G (srt D 0 20) g 20 20 (okl_srt hD (by omega) (by omega)) (by omega) (by omega)
    rw [srt_one (D:=srt D 0 20) (by omega) (by omega) (by omega)] at i2
    have e:srt D 0 20=ssort D:=by rw [show 20=D.length by omega];exact srt_all D
    rw [e] at i1 i2 l1
    rw [l1] at i2
    rw [← hN,h2] at i1 i2 ⊢
    refine hc_of cop98 ?_
    show W _ _ _ _ ⟨_,_⟩;simp only [A98,List.cons_append,List.nil_append,List.length_cons,List.length_nil,Nat.reduceAdd,Nat.reduceSub,List.replicate]
    clear hD hS
    repeat (first|(with_reducible first|refine w_seq ?_|refine w_reg ?_|refine w_block ?_|refine w_skip ?_|refine w_exit ?_|refine ws_nil ?_|refine q_then ?_|refine q_then_x ?_|refine q_block_n ?_|refine q_block_x ?_)|(with_reducible first|refine w_loopF 60 ?_|refine w_loopS ?_)|((with_reducible first|refine ks fun K hK=>?_|refine kd fun K hK=>?_|refine kc fun K hK2 hK hK3=>?_);simp (disch:=omega) only [bg0,bg1,bg2,bg3,bg4,stepO,rsAs,eff,AX.ev,St.put,binA,conc,ap1,ofVal,Int.reduceTMod,Int.reduceTDiv,reduceCtorEq,fillA,AV.cells,AV.fine,AV.one,Nat.reduceAdd,Nat.reduceSub,Nat.reduceMul,Nat.reduceLT,Nat.reduceLeDiff,Int.reduceLT,Int.reduceLE,Int.reduceAdd,Int.reduceSub,Int.reduceNeg,Int.reduceMul,Int.reduceEq,Int.reduceToNat,nilA,moveA,live,loadA,rdA,storeA,wrA,intA,elemA,lenA,appA,srcA,isPtr,isNilPtr,partA,resOf,sliceA,cut,id,ap2,reduceIte,concs,chkB,geB,AOp.cls,AOp.xs,ltB,ltC,Nat.reduceBEq,Option.toList,List.cons_append,decide_eq_true,decide_eq_false,if_pos,if_neg,List.length_map,pA_at,List.cons_append,bVb,bVn,eq_self,Bool.and_self,BEq.rfl,not_true_eq_false];(with_reducible first|(refine hK _ ?_;clear hK K)|(refine hK ?_;clear hK hK3 K hK2)|(refine hK3 ?_;clear hK hK3 K hK2)))|((with_reducible refine khs 99 ?_ ?_ ?_ ?_);rotate_left 2;exact i1)|((with_reducible refine khs 99 ?_ ?_ ?_ ?_);rotate_left 2;exact i2)|((with_reducible refine ret_0 ?_);try rfl))
  have i2:=ins43 G (srt D 0 20) g 20 D.length (okl_srt hD (by omega) (by omega)) (by omega) (by omega)
  rw [srt_two (by omega),l1] at i2
  have s3:=hS g D.length [] (ssort (D.take 20)) (ssort (D.drop 20)) [] N 0 20 N (by simp [ssort_len];omega) (by simp [ssort_len];omega) rfl (by simp [ssort_len];omega) (by simp [ssort_len];omega) (by simp [ssort_len];omega) (by simp [ssort_len];omega) (ssort_le _) (ssort_le _) ⟨by simp [ssort_len];omega,fun p hp=>by
    simp only [List.nil_append,List.append_nil,List.mem_append,ssort_mem] at hp
    rcases hp with h|h
    · exact hD.sz p (List.mem_of_mem_take h)
    · exact hD.sz p (List.mem_of_mem_drop h)⟩
  rw [ssort_two,List.take_append_drop] at s3
  simp only [List.nil_append,List.append_nil] at s3 i2
  have l2:(ssort (D.take 20)++ssort (D.drop 20)).length=N:=by simp [ssort_len];omega
  rw [← hN] at i1 i2 ⊢
  by_cases h3:N < 40
  · generalize srt D 0 20 = D1 at *
    generalize ssort (D.take 20)++ssort (D.drop 20)=D2 at *
    generalize ssort D=D3 at *
    refine hc_of cop98 ?_
    show W _ _ _ _ ⟨_,_⟩;simp only [A98,List.cons_append,List.nil_append,List.length_cons,List.length_nil,Nat.reduceAdd,Nat.reduceSub,List.replicate]
    clear hD hS
    repeat (first|(with_reducible first|refine w_seq ?_|refine w_reg ?_|refine w_block ?_|refine w_skip ?_|refine w_exit ?_|refine ws_nil ?_|refine q_then ?_|refine q_then_x ?_|refine q_block_n ?_|refine q_block_x ?_)|(with_reducible first|refine w_loopF 60 ?_|refine w_loopS ?_)|((with_reducible first|refine ks fun K hK=>?_|refine kd fun K hK=>?_|refine kc fun K hK2 hK hK3=>?_);simp (disch:=omega) only [bg0,bg1,bg2,bg3,bg4,stepO,rsAs,eff,AX.ev,St.put,binA,conc,ap1,ofVal,Int.reduceTMod,Int.reduceTDiv,reduceCtorEq,fillA,AV.cells,AV.fine,AV.one,Nat.reduceAdd,Nat.reduceSub,Nat.reduceMul,Nat.reduceLT,Nat.reduceLeDiff,Int.reduceLT,Int.reduceLE,Int.reduceAdd,Int.reduceSub,Int.reduceNeg,Int.reduceMul,Int.reduceEq,Int.reduceToNat,nilA,moveA,live,loadA,rdA,storeA,wrA,intA,elemA,lenA,appA,srcA,isPtr,isNilPtr,partA,resOf,sliceA,cut,id,ap2,reduceIte,concs,chkB,geB,AOp.cls,AOp.xs,ltB,ltC,Nat.reduceBEq,Option.toList,List.cons_append,decide_eq_true,decide_eq_false,if_pos,if_neg,List.length_map,pA_at,List.cons_append,bVb,bVn,eq_self,Bool.and_self,BEq.rfl,not_true_eq_false];(with_reducible first|(refine hK _ ?_;clear hK K)|(refine hK ?_;clear hK hK3 K hK2)|(refine hK3 ?_;clear hK hK3 K hK2)))|((with_reducible refine khs 99 ?_ ?_ ?_ ?_);rotate_left 2;exact i1)|((with_reducible refine khs 99 ?_ ?_ ?_ ?_);rotate_left 2;exact i2)|((with_reducible refine khs 100 ?_ ?_ ?_ ?_);rotate_left 2;exact s3)|((with_reducible refine ret_0 ?_);try rfl))
  · obtain rfl : N = 40 := by omega
    have i3:=ins43 G (ssort (D.take 20)++ssort (D.drop 20)) g 40 40 ⟨by rw [l2];omega,fun p hp=>by
      simp only [List.mem_append,ssort_mem] at hp
      rcases hp with h|h
      · exact hD.sz p (List.mem_of_mem_take h)
      · exact hD.sz p (List.mem_of_mem_drop h)⟩ (by omega) (by omega)
    rw [srt_one (by omega) (by omega) (by omega),l2] at i3
    generalize srt D 0 20=D1 at *
    generalize ssort (D.take 20)++ssort (D.drop 20)=D2 at *
    generalize ssort D=D3 at *
    refine hc_of cop98 ?_
    show W _ _ _ _ ⟨_,_⟩;simp only [A98,List.cons_append,List.nil_append,List.length_cons,List.length_nil,Nat.reduceAdd,Nat.reduceSub,List.replicate]
    clear hD hS
    repeat (first|(with_reducible first|refine w_seq ?_|refine w_reg ?_|refine w_block ?_|refine w_skip ?_|refine w_exit ?_|refine ws_nil ?_|refine q_then ?_|refine q_then_x ?_|refine q_block_n ?_|refine q_block_x ?_)|(with_reducible first|refine w_loopF 60 ?_|refine w_loopS ?_)|((with_reducible first|refine ks fun K hK=>?_|refine kd fun K hK=>?_|refine kc fun K hK2 hK hK3=>?_);simp (disch:=omega) only [bg0,bg1,bg2,bg3,bg4,stepO,rsAs,eff,AX.ev,St.put,binA,conc,ap1,ofVal,Int.reduceTMod,Int.reduceTDiv,reduceCtorEq,fillA,AV.cells,AV.fine,AV.one,Nat.reduceAdd,Nat.reduceSub,Nat.reduceMul,Nat.reduceLT,Nat.reduceLeDiff,Int.reduceLT,Int.reduceLE,Int.reduceAdd,Int.reduceSub,Int.reduceNeg,Int.reduceMul,Int.reduceEq,Int.reduceToNat,nilA,moveA,live,loadA,rdA,storeA,wrA,intA,elemA,lenA,appA,srcA,isPtr,isNilPtr,partA,resOf,sliceA,cut,id,ap2,reduceIte,concs,chkB,geB,AOp.cls,AOp.xs,ltB,ltC,Nat.reduceBEq,Option.toList,List.cons_append,decide_eq_true,decide_eq_false,if_pos,if_neg,List.length_map,pA_at,List.cons_append,bVb,bVn,eq_self,Bool.and_self,BEq.rfl,not_true_eq_false];(with_reducible first|(refine hK _ ?_;clear hK K)|(refine hK ?_;clear hK hK3 K hK2)|(refine hK3 ?_;clear hK hK3 K hK2)))|((with_reducible refine khs 99 ?_ ?_ ?_ ?_);rotate_left 2;exact i1)|((with_reducible refine khs 99 ?_ ?_ ?_ ?_);rotate_left 2;exact i2)|((with_reducible refine khs 99 ?_ ?_ ?_ ?_);rotate_left 2;exact i3)|((with_reducible refine khs 100 ?_ ?_ ?_ ?_);rotate_left 2;exact s3)|((with_reducible refine ret_0 ?_);try rfl))
set_option maxHeartbeats 4000000 in
theorem sort28 (G : Nat → AV) (hS : SymOk G) (D : List Pr) (g : Nat) (hD : Okl D) (h40 : D.length ≤ 40) :
    HC Try.prog G 92 [.ol 0 g D.length,cF] [rw0 D g] (.tup []) [rw0 (ssort D) g]:=by
  have h:=stable37 G hS D g hD h40
  refine hc_of cop92 ?_
  show W _ _ _ _ ⟨_,_⟩;simp only [A92,List.cons_append,List.nil_append,List.length_cons,List.length_nil,Nat.reduceAdd,Nat.reduceSub,List.replicate]
  repeat (first|(with_reducible first|refine w_reg ?_|refine ws_nil ?_)|((with_reducible first|refine ks fun K hK=>?_|refine kd fun K hK=>?_|refine kc fun K hK2 hK hK3=>?_);simp (disch:=omega) only [bg0,bg1,bg2,bg3,bg4,stepO,rsAs,eff,AX.ev,St.put,binA,conc,ap1,ofVal,Int.reduceTMod,Int.reduceTDiv,reduceCtorEq,fillA,AV.cells,AV.fine,AV.one,Nat.reduceAdd,Nat.reduceSub,Nat.reduceMul,Nat.reduceLT,Nat.reduceLeDiff,Int.reduceLT,Int.reduceLE,Int.reduceAdd,Int.reduceSub,Int.reduceNeg,Int.reduceMul,Int.reduceEq,Int.reduceToNat,nilA,moveA,live,loadA,rdA,storeA,wrA,intA,elemA,lenA,appA,srcA,isPtr,isNilPtr,partA,resOf,sliceA,cut,id,ap2,reduceIte,concs,chkB,geB,AOp.cls,AOp.xs,ltB,ltC,Nat.reduceBEq,Option.toList,List.cons_append,decide_eq_true,decide_eq_false,if_pos,if_neg,List.length_map,pA_at,List.cons_append,bVb,bVn,eq_self,Bool.and_self,BEq.rfl,not_true_eq_false];(with_reducible first|(refine hK _ ?_;clear hK K)|(refine hK ?_;clear hK hK3 K hK2)|(refine hK3 ?_;clear hK hK3 K hK2)))|((with_reducible refine khs 98 ?_ ?_ ?_ ?_);rotate_left 2;exact h)|((with_reducible refine ret_0 ?_);try rfl))
theorem isl:isSliceT Try.prog 39=true:=by kernel_rfl
set_option maxHeartbeats 4000000 in
theorem clone27 (G:Nat→AV) (l:List Pr) (hl:Okl l) (h0:l ≠ []) (H:Hp):HC Try.prog G 91 [.sl 2 (l.map pA)] H (.ol H.length 1 l.length) (H++[⟨67,2,l.map pA,1,0⟩]):=by
  have hlen:=hl.len
  have he:(l.map pA).isEmpty=false:=by cases l with|nil=>exact absurd rfl h0|cons=>rfl
  refine hc_of cop91 ?_
  show W _ _ _ _ ⟨_,_⟩;simp only [A91,List.cons_append,List.nil_append,List.length_cons,List.length_nil,Nat.reduceAdd,Nat.reduceSub,List.replicate]
  repeat (first|(with_reducible first|refine w_seq ?_|refine w_reg ?_|refine w_skip ?_|refine ws_nil ?_|refine q_then ?_|refine w_ret ?_)|((with_reducible first|refine ks fun K hK=>?_|refine kd fun K hK=>?_|refine kc fun K hK2 hK hK3=>?_|refine ret_h fun K hR=>?_|refine ret_hh rfl fun K hR=>?_|refine ret_pp fun K hR=>?_);simp (disch:=omega) only [bg0,bg1,bg2,bg3,bg4,stepO,rsAs,eff,AX.ev,St.put,binA,conc,ap1,ofVal,Int.reduceTMod,Int.reduceTDiv,reduceCtorEq,fillA,AV.cells,AV.fine,AV.one,Nat.reduceAdd,Nat.reduceSub,Nat.reduceMul,Nat.reduceLT,Nat.reduceLeDiff,Int.reduceLT,Int.reduceLE,Int.reduceAdd,Int.reduceSub,Int.reduceNeg,Int.reduceMul,Int.reduceEq,Int.reduceToNat,nilA,moveA,live,loadA,rdA,storeA,wrA,intA,elemA,lenA,appA,srcA,isPtr,isNilPtr,partA,resOf,sliceA,cut,id,ap2,reduceIte,concs,chkB,geB,AOp.cls,AOp.xs,ltB,ltC,Nat.reduceBEq,Option.toList,List.cons_append,decide_eq_true,decide_eq_false,if_pos,if_neg,List.length_map,pA_at,List.cons_append,bVb,bVn,eq_self,Bool.and_self,BEq.rfl,not_true_eq_false,isl,nilCmp,isRow,isNl,he,Bool.not_false];(first|(with_reducible first|(refine hK _ ?_;clear hK K)|(refine hK ?_;clear hK hK3 K hK2)|(refine hK3 ?_;clear hK hK3 K hK2))|((with_reducible refine hR _ ?_ ?_ ?_ ?_);rotate_left 2;rfl;rfl)|((with_reducible refine hR _ ?_);rfl))))
set_option maxHeartbeats 4000000 in
theorem clone27e (G:Nat→AV):PC Try.prog G 91 [.sl 2 []] (.sl 2 []):=by
  refine @pc_em _ _ _ _ _ cop91 [] [] 2 _ fun b=>?_
  cases b
  all_goals
    show W _ _ _ _ ⟨_,_⟩
    simp only [A91,List.cons_append,List.nil_append,List.length_cons,List.length_nil,Nat.reduceAdd,Nat.reduceSub,List.replicate]
    repeat (first|(with_reducible first|refine w_seq ?_|refine w_reg ?_|refine w_skip ?_|refine ws_nil ?_|refine q_then ?_|refine w_ret ?_|refine q_then_r ?_)|((with_reducible first|refine ks fun K hK=>?_|refine kd fun K hK=>?_|refine kc fun K hK2 hK hK3=>?_|refine ret_h fun K hR=>?_|refine ret_hh rfl fun K hR=>?_|refine ret_pp fun K hR=>?_);simp (disch:=omega) only [bg0,bg1,bg2,bg3,bg4,stepO,rsAs,eff,AX.ev,St.put,binA,conc,ap1,ofVal,Int.reduceTMod,Int.reduceTDiv,reduceCtorEq,fillA,AV.cells,AV.fine,AV.one,Nat.reduceAdd,Nat.reduceSub,Nat.reduceMul,Nat.reduceLT,Nat.reduceLeDiff,Int.reduceLT,Int.reduceLE,Int.reduceAdd,Int.reduceSub,Int.reduceNeg,Int.reduceMul,Int.reduceEq,Int.reduceToNat,nilA,moveA,live,loadA,rdA,storeA,wrA,intA,elemA,lenA,appA,srcA,isPtr,isNilPtr,partA,resOf,sliceA,cut,id,ap2,reduceIte,concs,chkB,geB,AOp.cls,AOp.xs,ltB,ltC,Nat.reduceBEq,Option.toList,List.cons_append,decide_eq_true,decide_eq_false,if_pos,if_neg,List.length_map,pA_at,List.cons_append,bVb,bVn,eq_self,Bool.and_self,BEq.rfl,not_true_eq_false,isl,nilCmp,isRow,isNi,isNl,Bool.not_false,Bool.not_true];(first|(with_reducible first|(refine hK _ ?_;clear hK K)|(refine hK ?_;clear hK hK3 K hK2)|(refine hK3 ?_;clear hK hK3 K hK2))|((with_reducible refine hR _ ?_ ?_ ?_ ?_);rotate_left 2;rfl;rfl)|((with_reducible refine hR _ ?_);rfl))))
end Go.Proofs.Ytefkaglgekjlfaa.Sim.Pr7
namespace Go.Proofs.Ytefkaglgekjlfaa.Sim.Pr7
open Go.RowKit
set_option maxRecDepth 100000
abbrev kfA (f:Nat) (key:ByteArray):AV:=.fn f [.ad 1 [S key] 0 0]
theorem le_idx {m:List Pr} (h:SLe m) (key:ByteArray) (i:Nat) (hi:i < m.length):decide (0 < cB (m[i]).1 key)=decide ((le m key).length≤i):=by
  have:=idx_le h key hi
  by_cases h1:0 < cB (m[i]).1 key
  · simp [h1];omega
  · simp [h1];omega
end Go.Proofs.Ytefkaglgekjlfaa.Sim.Pr7
namespace Go.Proofs.Ytefkaglgekjlfaa.Sim.Pr7
open Go.RowKit
set_option maxRecDepth 100000
end Go.Proofs.Ytefkaglgekjlfaa.Sim.Pr7
namespace Go.Proofs.Ytefkaglgekjlfaa.Sim.Pr7
open Go.RowKit
set_option maxRecDepth 100000
theorem ret_frz {t:Nat} {k:Nat} {es:List AV} {st:St} {i g n:Nat} {e:TypeId} {fz:Nat} (h1:st.s.getD t undefA = .ol i g n) (h2:st.H[i]? = some ⟨e,k,es,g,fz⟩) (hn:es.length=n) (hp:es.all AV.isP=true):RetP [(t,none)] (.sl k es) .r st:=by
  subst hn
  refine ⟨.inr rfl,[.ol i g es.length],by simp only [rsAs,h1],[.sl k es],st.H.set i ⟨e,k,es,g,max fz es.length⟩,?_,rfl⟩
  simp only [purA,pur,purC,h2,Nat.le_refl,List.take_length,hp,and_self,if_true]
def MkOk (G:Nat→AV):Prop:=∀ l:List Pr,l.length≤40→Okl l→PC Try.prog G 80 [.sl 2 (l.map pA)] (.sl 2 ((mk l).map pA))
theorem okl_mk {l:List Pr} (h:Okl l):Okl (mk l):=⟨by have:=mk_len l;have:=h.len;omega,fun p hp=>h.sz p (mk_mem hp)⟩
abbrev oP (p:Option Pr):AV:=.tup [.agg [S ((p.getD default).1),S ((p.getD default).2)],Bo p.isSome]
theorem dflt:(default:Pr)=(⟨#[]⟩,⟨#[]⟩):=rfl
def af (m:List Pr) (k:ByteArray):Option Pr:=m[(le m k).length]?
def fl (m:List Pr) (k:ByteArray):Option Pr:=(le m k).getLast?
theorem fl_at {m:List Pr} (h:SLe m) (k:ByteArray) (h0:(le m k).length ≠ 0):∃ hi:(le m k).length - 1 < m.length,fl m k=some (m[(le m k).length - 1]):=by
  have hl:=le_len (B:=m) (k:=k)
  refine ⟨by omega,?_⟩
  unfold fl
  rw [List.getLast?_eq_getElem?]
  have e:=List.getElem?_append_left (l₁:=le m k) (l₂:=hi m k) (i:=(le m k).length - 1) (by omega)
  rw [← le_split h k] at e
  rw [← e,List.getElem?_eq_getElem]
end Go.Proofs.Ytefkaglgekjlfaa.Sim.Pr7
namespace Go.Proofs.Ytefkaglgekjlfaa.Sim.Pr7
open Go.RowKit
set_option maxRecDepth 100000
section
variable {α:Type} {J K:List α} {o a b y:α}
theorem gR0:(J++o::K)[J.length]? = some o:=by simp
theorem gR01:(J++o::K++[a])[J.length]? = some o:=by simp
theorem gR02:(J++o::K++[a]++[b])[J.length]? = some o:=by simp
theorem sR0:(J++o::K).set J.length y=J++y::K:=by simp
theorem sR01:(J++o::K++[a]).set J.length y=J++y::K++[a]:=by simp
theorem sR02:(J++o::K++[a]++[b]).set J.length y=J++y::K++[a]++[b]:=by simp
theorem lR0:(J++o::K).length=J.length+(K.length+1):=by simp
theorem lR1:(J++o::K++[a]).length=J.length+(K.length+1)+1:=by simp;omega
theorem kR {M:List α} {i:Nat}:(J++o::K++M)[J.length+(K.length+1)+i]? = M[i]?:=by
  have:=ga (L:=J++o::K) (M:=M) (i:=i)
  rwa [lR0] at this
theorem tR {M:List α} {i:Nat}:(J++o::K++M).set (J.length+(K.length+1)+i) y=J++o::K++M.set i y:=by
  have:=sa (L:=J++o::K) (M:=M) (i:=i) (y:=y)
  rwa [lR0] at this
theorem gR1:(J++o::K++[a])[J.length+(K.length+1)]? = some a:=kR (i:=0)
theorem gR2:(J++o::K++[a]++[b])[J.length+(K.length+1)]? = some a:=by rw [List.append_assoc];exact kR (i:=0)
theorem gR22:(J++o::K++[a]++[b])[J.length+(K.length+1)+1]? = some b:=by rw [List.append_assoc];exact kR (i:=1)
theorem sR1:(J++o::K++[a]).set (J.length+(K.length+1)) y=J++o::K++[y]:=tR (i:=0)
theorem sR2:(J++o::K++[a]++[b]).set (J.length+(K.length+1)) y=J++o::K++[y]++[b]:=by simp
theorem sR22:(J++o::K++[a]++[b]).set (J.length+(K.length+1)+1) y=J++o::K++[a]++[y]:=by have h:=tR (J:=J) (K:=K) (o:=o) (M:=[a,b]) (i:=1) (y:=y);simpa using h
end
theorem lasts_drop {l:List Pr} {k:Nat} (h:k < l.length):lasts (l.drop k)=if fk (l[k]).1 (l.drop (k+1))=[] then l[k]::lasts (l.drop (k+1)) else lasts (l.drop (k+1)):=by
  rw [List.drop_eq_getElem_cons h];rfl
theorem mk_snoc {l pre:List Pr} {x:Pr} {rest:List Pr} (h:lasts l=pre++x::rest):(mk pre).take (lo (mk pre) x.1).length++x::(mk pre).drop (lo (mk pre) x.1).length=mk (pre++[x]):=by
  have hne:=lasts_ne l
  rw [h] at hne
  have h1:fk x.1 pre=[]:=fk_none.2 fun p hp=>(List.pairwise_append.1 hne).2.2 p hp x (by simp)
  have h2:fk x.1 (mk pre)=[]:=val_none.1 (by rw [mk_val,val_none];exact h1)
  have h3:=le_lo (mk_lt pre) x.1
  rw [h2,List.append_nil] at h3
  rw [lo_take (mk_lt pre).le,← h3,hi_drop (mk_lt pre).le,h3]
  exact pt_mk pre x.1 x.2
theorem fin15 {l pre : List Pr} {k : Nat} {A : Prop} {v : Nat → AV} {H : Hp} (h1 : A) (h2 : lasts l = pre ++ lasts (l.drop k)) (h3 : v 4 = I k) (h4 : ∃ (J K : Hp) (g fz : Nat), v 3 = .ol J.length g (mk pre).length ∧ H = J ++ ⟨67, 2, (mk pre).map pA, g, fz⟩ :: K) :
    A∧∃ (pre:List Pr) (J K:Hp) (g fz:Nat),lasts l=pre++lasts (l.drop k)∧v 4=I k∧v 3 = .ol J.length g (mk pre).length∧H=J++⟨67,2,(mk pre).map pA,g,fz⟩::K:=by
  obtain ⟨J,K,g,fz,a,b⟩:=h4
  exact ⟨h1,pre,J,K,g,fz,h2,h3,a,b⟩
end Go.Proofs.Ytefkaglgekjlfaa.Sim.Pr7
namespace Go.Proofs.Ytefkaglgekjlfaa.Sim.Pr7
open Go.RowKit
set_option maxRecDepth 100000
theorem sle_at2 {A:List Pr} (h:SLe A) {i j:Nat} (hij:i≤j) (hj:j < A.length):cB (A[i]'(by omega)).1 (A[j]).1≤0:=by
  by_cases e:i=j
  · subst e;rw [cB_self];omega
  · exact List.pairwise_iff_getElem.1 h i j (by omega) hj (by omega)
theorem lasts_sort {D:List Pr} (h:SLe D) {k:Nat} (hk:k < D.length):fk (D[k]).1 (D.drop (k+1))=[]↔∀ h2:k+1 < D.length,(D[k+1]).1 ≠ (D[k]).1:=by
  rw [fk_none]
  constructor
  · intro hh h2
    exact hh _ (List.mem_drop_iff_getElem.2 ⟨0,by omega,rfl⟩)
  · intro hh p hp e
    obtain ⟨i,hi,rfl⟩:=List.mem_drop_iff_getElem.1 hp
    have h2:k+1 < D.length:=by omega
    have g1:=sle_at2 h (i:=k) (j:=k+1) (by omega) h2
    have g2:=sle_at2 h (i:=k+1) (j:=k+1+i) (by omega) (by omega)
    rw [e] at g2
    exact hh h2 (cB_eq g2 g1)
theorem lasts_mk (l:List Pr):lasts (ssort l)=mk l:=by
  refine eq_mk (le_ne (List.Pairwise.sublist (lasts_sub _) (ssort_le l)) (lasts_ne _)) fun k=>?_
  rw [lasts_val];unfold val;rw [ssort_fk]
set_option maxHeartbeats 8000000 in
theorem make14 (G:Nat→AV) (hS:SymOk G):MkOk G:=by
  intro l h40 hl
  have hlen:=hl.len
  by_cases hs:SLt l
  · have hi := is11 G l hl true (by simp [hs])
    rw [mk_of hs]
    by_cases h0:l=[]
    · subst h0
      have hc:=hc_pc rfl (clone27e G) []
      refine pc_of cop80 ?_
      show W _ _ _ _ ⟨_,_⟩;simp only [A80,List.cons_append,List.nil_append,List.length_cons,List.length_nil,Nat.reduceAdd,Nat.reduceSub,List.replicate]
      simp only [List.map_nil] at *
      repeat (first|(with_reducible first|refine w_seq ?_|refine w_reg ?_|refine ws_nil ?_|refine q_then ?_|refine w_ret ?_|refine q_then_r ?_)|((with_reducible refine kps 79 ?_ ?_ ?_ ?_);rotate_left 1;rfl;exact hi)|((with_reducible refine khs 91 ?_ ?_ ?_ ?_);rotate_left 2;exact hc)|((with_reducible first|refine ks fun K hK=>?_|refine kd fun K hK=>?_|refine kc fun K hK2 hK hK3=>?_|refine ret_h fun K hR=>?_|refine ret_hh rfl fun K hR=>?_|refine ret_pp fun K hR=>?_);simp (disch:=omega) only [bg0,bg1,bg2,bg3,bg4,stepO,rsAs,eff,AX.ev,St.put,binA,conc,ap1,ofVal,Int.reduceTMod,Int.reduceTDiv,reduceCtorEq,fillA,AV.cells,AV.fine,AV.one,Nat.reduceAdd,Nat.reduceSub,Nat.reduceMul,Nat.reduceLT,Nat.reduceLeDiff,Int.reduceLT,Int.reduceLE,Int.reduceAdd,Int.reduceSub,Int.reduceNeg,Int.reduceMul,Int.reduceEq,Int.reduceToNat,nilA,moveA,live,loadA,rdA,storeA,wrA,intA,elemA,lenA,appA,srcA,isPtr,isNilPtr,partA,resOf,sliceA,cut,id,ap2,reduceIte,concs,chkB,geB,AOp.cls,AOp.xs,ltB,ltC,Nat.reduceBEq,Option.toList,List.cons_append,decide_eq_true,decide_eq_false,if_pos,if_neg,List.length_map,pA_at,bVb,bVn,eq_self,Bool.and_self,BEq.rfl,not_true_eq_false,gR0,gR01,gR02,sR0,sR01,sR02,lR0,lR1,gR1,gR2,gR22,sR1,sR2,sR22,gj1_0,sj1_0,gj2_0,gj2_1,sj2_0,sj2_1,len_last];(first|(with_reducible first|(refine hK _ ?_;clear hK K)|(refine hK ?_;clear hK hK3 K hK2)|(refine hK3 ?_;clear hK hK3 K hK2))|((with_reducible refine hR _ ?_ ?_ ?_ ?_);rotate_left 2;rfl;rfl)|((with_reducible refine hR _ ?_);rfl))))
    · have hc := clone27 G l hl h0 []
      simp only [List.nil_append,List.length_nil] at hc
      refine pc_of cop80 ?_
      show W _ _ _ _ ⟨_,_⟩;simp only [A80,List.cons_append,List.nil_append,List.length_cons,List.length_nil,Nat.reduceAdd,Nat.reduceSub,List.replicate]
      repeat (first|(with_reducible first|refine w_seq ?_|refine w_reg ?_|refine ws_nil ?_|refine q_then ?_|refine w_ret ?_|refine q_then_r ?_)|((with_reducible first|refine ks fun K hK=>?_|refine kd fun K hK=>?_|refine kc fun K hK2 hK hK3=>?_);simp (disch:=omega) only [bg0,bg1,bg2,bg3,bg4,stepO,rsAs,eff,AX.ev,St.put,binA,conc,ap1,ofVal,Int.reduceTMod,Int.reduceTDiv,reduceCtorEq,fillA,AV.cells,AV.fine,AV.one,Nat.reduceAdd,Nat.reduceSub,Nat.reduceMul,Nat.reduceLT,Nat.reduceLeDiff,Int.reduceLT,Int.reduceLE,Int.reduceAdd,Int.reduceSub,Int.reduceNeg,Int.reduceMul,Int.reduceEq,Int.reduceToNat,nilA,moveA,live,loadA,rdA,storeA,wrA,intA,elemA,lenA,appA,srcA,isPtr,isNilPtr,partA,resOf,sliceA,cut,id,ap2,reduceIte,concs,chkB,geB,AOp.cls,AOp.xs,ltB,ltC,Nat.reduceBEq,Option.toList,List.cons_append,decide_eq_true,decide_eq_false,if_pos,if_neg,List.length_map,pA_at,bVb,bVn,eq_self,Bool.and_self,BEq.rfl,not_true_eq_false,gR0,gR01,gR02,sR0,sR01,sR02,lR0,lR1,gR1,gR2,gR22,sR1,sR2,sR22,gj1_0,sj1_0,gj2_0,gj2_1,sj2_0,sj2_1,len_last];(with_reducible first|(refine hK _ ?_;clear hK K)|(refine hK ?_;clear hK hK3 K hK2)|(refine hK3 ?_;clear hK hK3 K hK2)))|((with_reducible refine kps 79 ?_ ?_ ?_ ?_);rotate_left 1;rfl;exact hi)|((with_reducible refine khs 91 ?_ ?_ ?_ ?_);rotate_left 2;exact hc))
      exact ret_frz rfl rfl (by simp) (all_pA _)
  · have hi := is11 G l hl false (by simp [hs])
    have h0:l ≠ []:=fun e=>hs (by rw [e];exact List.Pairwise.nil)
    have hc:=clone27 G l hl h0 []
    simp only [List.nil_append,List.length_nil] at hc
    have ho:=sort28 G hS l 1 hl h40
    refine pc_of cop80 ?_
    show W _ _ _ _ ⟨_,_⟩;simp only [A80,List.cons_append,List.nil_append,List.length_cons,List.length_nil,Nat.reduceAdd,Nat.reduceSub,List.replicate]
    repeat (first|(with_reducible first|refine w_seq ?_|refine w_reg ?_|refine w_block ?_|refine w_skip ?_|refine ws_nil ?_|refine q_then ?_)|((with_reducible first|refine ks fun K hK=>?_|refine kd fun K hK=>?_|refine kc fun K hK2 hK hK3=>?_);simp (disch:=omega) only [bg0,bg1,bg2,bg3,bg4,stepO,rsAs,eff,AX.ev,St.put,binA,conc,ap1,ofVal,Int.reduceTMod,Int.reduceTDiv,reduceCtorEq,fillA,AV.cells,AV.fine,AV.one,Nat.reduceAdd,Nat.reduceSub,Nat.reduceMul,Nat.reduceLT,Nat.reduceLeDiff,Int.reduceLT,Int.reduceLE,Int.reduceAdd,Int.reduceSub,Int.reduceNeg,Int.reduceMul,Int.reduceEq,Int.reduceToNat,nilA,moveA,live,loadA,rdA,storeA,wrA,intA,elemA,lenA,appA,srcA,isPtr,isNilPtr,partA,resOf,sliceA,cut,id,ap2,reduceIte,concs,chkB,geB,AOp.cls,AOp.xs,ltB,ltC,Nat.reduceBEq,Option.toList,List.cons_append,decide_eq_true,decide_eq_false,if_pos,if_neg,List.length_map,pA_at,bVb,bVn,eq_self,Bool.and_self,BEq.rfl,not_true_eq_false,gR0,gR01,gR02,sR0,sR01,sR02,lR0,lR1,gR1,gR2,gR22,sR1,sR2,sR22,gj1_0,sj1_0,gj2_0,gj2_1,sj2_0,sj2_1,len_last];(with_reducible first|(refine hK _ ?_;clear hK K)|(refine hK ?_;clear hK hK3 K hK2)|(refine hK3 ?_;clear hK hK3 K hK2)))|((with_reducible refine kps 79 ?_ ?_ ?_ ?_);rotate_left 1;rfl;exact hi)|((with_reducible refine khs 91 ?_ ?_ ?_ ?_);rotate_left 2;exact hc)|((with_reducible refine khs 92 ?_ ?_ ?_ ?_);rotate_left 2;exact ho))
    have hml:=lasts_mk l
    have hSl:(ssort l).length=l.length:=ssort_len
    have hSle:=ssort_le l
    rw [← hml]
    generalize hD:ssort l=D at *
    rw [← hSl]
    refine w_loop_m [4,5,6,17,18,19,20,21,22,23,24,25,26,27,28,29,30,31,32,33,34,35,36,37,38,39,40,41,42] (fun k v H=>v 17=I k∧∃ pre:List Pr,lasts D=pre++lasts (D.drop k)∧((pre=[]∧v 4 = .nl 2∧∃ K,H=rw0 D 1::K)∨(pre ≠ []∧∃ (J K:Hp) (g:Nat),v 4 = .ol (J.length+1) g pre.length∧H=rw0 D 1::(J++⟨67,2,pre.map pA,g,0⟩::K)))) D.length ⟨rfl,[],rfl,.inl ⟨rfl,rfl,[],rfl⟩⟩ ?_ ?_
    · rintro k v H hk ⟨h17, pre, hla, hor⟩
      rw [lasts_drop hk] at hla
      have hkk:=lasts_sort hSle hk
      have hpl:pre.length≤1000000:=by
        have h2:=(lasts_sub D).length_le
        rw [hla] at h2
        simp at h2
        omega
      have tp:(pre.map pA).take pre.length=pre.map pA:=List.take_of_length_le (by simp)
      have hend:((k:Int)+1=(D.length:Int))=(k+1=D.length):=by simp;omega
      have hsn:(pre++[D[k]]).map pA=pre.map pA++[.agg [S (D[k]).1,S (D[k]).2]]:=by simp [pA]
      have hne:pre++[D[k]] ≠ []:=by simp
      have hDl:D.length≤1000000:=by omega
      clear hi hc ho hD hml hSl hSle hl hlen h40 h0 hs
      rcases hor with ⟨rfl,h4,K,rfl⟩|⟨hp,J,K,g,h4,rfl⟩
      · by_cases hr : fk (D[k]).1 (D.drop (k + 1)) = []
        · rw [if_pos hr] at hla
          have h2:=hkk.1 hr
          by_cases he:k+1=D.length
          · simp only [mix, mix_nil, mix_end, mix_skp, Nat.reduceEqDiff, Nat.reduceLeDiff, reduceCtorEq, if_true, if_false, reduceIte, Nat.reduceAdd, h17, h4]
            repeat (first|(with_reducible first|refine w_seq ?_|refine w_reg ?_|refine w_draw ?_|refine w_block ?_|refine w_skip ?_|refine ws_nil ?_|refine wd_nil ?_|refine q_then ?_|refine q_block_n ?_)|((with_reducible first|refine ks fun K hK=>?_|refine kd fun K hK=>?_|refine kc fun K hK2 hK hK3=>?_);simp (disch:=omega) only [bg0,bg1,bg2,bg3,bg4,stepO,rsAs,eff,AX.ev,St.put,binA,conc,ap1,ofVal,Int.reduceTMod,Int.reduceTDiv,reduceCtorEq,fillA,AV.cells,AV.fine,AV.one,Nat.reduceAdd,Nat.reduceSub,Nat.reduceMul,Nat.reduceLT,Nat.reduceLeDiff,Int.reduceLT,Int.reduceLE,Int.reduceAdd,Int.reduceSub,Int.reduceNeg,Int.reduceMul,Int.reduceEq,Int.reduceToNat,nilA,moveA,live,loadA,rdA,storeA,wrA,intA,elemA,lenA,appA,srcA,isPtr,isNilPtr,partA,resOf,sliceA,cut,id,ap2,reduceIte,concs,chkB,geB,AOp.cls,AOp.xs,ltB,ltC,Nat.reduceBEq,Option.toList,List.cons_append,decide_eq_true,decide_eq_false,if_pos,if_neg,List.length_map,pA_at,bVb,bVn,eq_self,Bool.and_self,BEq.rfl,not_true_eq_false,gR0,gR01,gR02,sR0,sR01,sR02,lR0,lR1,gR1,gR2,gR22,sR1,sR2,sR22,gj1_0,sj1_0,gj2_0,gj2_1,sj2_0,sj2_1,len_last,hend,he,tp];(with_reducible first|(refine hK _ ?_;clear hK K)|(refine hK ?_;clear hK hK3 K hK2)|(refine hK3 ?_;clear hK hK3 K hK2)))|((first|((with_reducible refine kgd_u ?_ ?_ ?_);rotate_left 1;rfl)|((with_reducible refine kgd_f ?_ ?_ ?_);rotate_left 1;rfl));rotate_left 1;(focus (simp (disch:=omega) only [bg0,bg1,bg2,bg3,bg4,stepO,rsAs,eff,AX.ev,St.put,binA,conc,ap1,ofVal,Int.reduceTMod,Int.reduceTDiv,reduceCtorEq,fillA,AV.cells,AV.fine,AV.one,Nat.reduceAdd,Nat.reduceSub,Nat.reduceMul,Nat.reduceLT,Nat.reduceLeDiff,Int.reduceLT,Int.reduceLE,Int.reduceAdd,Int.reduceSub,Int.reduceNeg,Int.reduceMul,Int.reduceEq,Int.reduceToNat,nilA,moveA,live,loadA,rdA,storeA,wrA,intA,elemA,lenA,appA,srcA,isPtr,isNilPtr,partA,resOf,sliceA,cut,id,ap2,reduceIte,concs,chkB,geB,AOp.cls,AOp.xs,ltB,ltC,Nat.reduceBEq,Option.toList,List.cons_append,decide_eq_true,decide_eq_false,if_pos,if_neg,List.length_map,pA_at,bVb,bVn,eq_self,Bool.and_self,BEq.rfl,not_true_eq_false,gR0,gR01,gR02,sR0,sR01,sR02,lR0,lR1,gR1,gR2,gR22,sR1,sR2,sR22,gj1_0,sj1_0,gj2_0,gj2_1,sj2_0,sj2_1,len_last,hend,he,tp];try rfl))))
            exact ⟨rfl,rfl,[D[k]],by rw [hla];rfl,.inr ⟨by simp,K++[rw0 [D[k]] 0]++[rw0 [D[k]] 0],[],0,by show AV.ol _ _ _=AV.ol _ _ _;simp,rfl⟩⟩
          · have h3 := h2 (by omega)
            simp only [mix,mix_nil,mix_end,mix_skp,Nat.reduceEqDiff,Nat.reduceLeDiff,reduceCtorEq,if_true,if_false,reduceIte,Nat.reduceAdd,h17,h4]
            repeat (first|(with_reducible first|refine w_seq ?_|refine w_reg ?_|refine w_draw ?_|refine w_block ?_|refine w_skip ?_|refine ws_nil ?_|refine wd_nil ?_|refine q_then ?_|refine q_block_n ?_)|((with_reducible refine kgd_t ?_ ?_);rfl)|((with_reducible first|refine ks fun K hK=>?_|refine kd fun K hK=>?_|refine kc fun K hK2 hK hK3=>?_);simp (disch:=omega) only [bg0,bg1,bg2,bg3,bg4,stepO,rsAs,eff,AX.ev,St.put,binA,conc,ap1,ofVal,Int.reduceTMod,Int.reduceTDiv,reduceCtorEq,fillA,AV.cells,AV.fine,AV.one,Nat.reduceAdd,Nat.reduceSub,Nat.reduceMul,Nat.reduceLT,Nat.reduceLeDiff,Int.reduceLT,Int.reduceLE,Int.reduceAdd,Int.reduceSub,Int.reduceNeg,Int.reduceMul,Int.reduceEq,Int.reduceToNat,nilA,moveA,live,loadA,rdA,storeA,wrA,intA,elemA,lenA,appA,srcA,isPtr,isNilPtr,partA,resOf,sliceA,cut,id,ap2,reduceIte,concs,chkB,geB,AOp.cls,AOp.xs,ltB,ltC,Nat.reduceBEq,Option.toList,List.cons_append,decide_eq_true,decide_eq_false,if_pos,if_neg,List.length_map,pA_at,bVb,bVn,eq_self,Bool.and_self,BEq.rfl,not_true_eq_false,gR0,gR01,gR02,sR0,sR01,sR02,lR0,lR1,gR1,gR2,gR22,sR1,sR2,sR22,gj1_0,sj1_0,gj2_0,gj2_1,sj2_0,sj2_1,len_last,hend,he,h3,tp];(with_reducible first|(refine hK _ ?_;clear hK K)|(refine hK ?_;clear hK hK3 K hK2)|(refine hK3 ?_;clear hK hK3 K hK2))))
            exact ⟨rfl,rfl,[D[k]],by rw [hla];rfl,.inr ⟨by simp,K++[rw0 [D[k]] 0]++[rw0 [D[k]] 0],[],0,by show AV.ol _ _ _=AV.ol _ _ _;simp,rfl⟩⟩
        · rw [if_neg hr] at hla
          have hex:∃ h2:k+1 < D.length,(D[k+1]).1=(D[k]).1:=by
            by_cases h2:k+1 < D.length
            · refine ⟨h2, ?_⟩
              by_cases h3:(D[k+1]).1=(D[k]).1
              · exact h3
              · exact absurd (hkk.2 fun _=>h3) hr
            · exact absurd (hkk.2 fun h=>absurd h h2) hr
          obtain ⟨h2,h3⟩:=hex
          have he:¬ (k+1=D.length):=by omega
          simp only [mix,mix_nil,mix_end,mix_skp,Nat.reduceEqDiff,Nat.reduceLeDiff,reduceCtorEq,if_true,if_false,reduceIte,Nat.reduceAdd,h17,h4]
          repeat (first|(with_reducible first|refine w_seq ?_|refine w_reg ?_|refine w_draw ?_|refine w_block ?_|refine w_skip ?_|refine ws_nil ?_|refine wd_nil ?_|refine q_then ?_|refine q_block_n ?_)|((with_reducible refine kgd_t ?_ ?_);rfl)|((with_reducible first|refine ks fun K hK=>?_|refine kd fun K hK=>?_|refine kc fun K hK2 hK hK3=>?_);simp (disch:=omega) only [bg0,bg1,bg2,bg3,bg4,stepO,rsAs,eff,AX.ev,St.put,binA,conc,ap1,ofVal,Int.reduceTMod,Int.reduceTDiv,reduceCtorEq,fillA,AV.cells,AV.fine,AV.one,Nat.reduceAdd,Nat.reduceSub,Nat.reduceMul,Nat.reduceLT,Nat.reduceLeDiff,Int.reduceLT,Int.reduceLE,Int.reduceAdd,Int.reduceSub,Int.reduceNeg,Int.reduceMul,Int.reduceEq,Int.reduceToNat,nilA,moveA,live,loadA,rdA,storeA,wrA,intA,elemA,lenA,appA,srcA,isPtr,isNilPtr,partA,resOf,sliceA,cut,id,ap2,reduceIte,concs,chkB,geB,AOp.cls,AOp.xs,ltB,ltC,Nat.reduceBEq,Option.toList,List.cons_append,decide_eq_true,decide_eq_false,if_pos,if_neg,List.length_map,pA_at,bVb,bVn,eq_self,Bool.and_self,BEq.rfl,not_true_eq_false,gR0,gR01,gR02,sR0,sR01,sR02,lR0,lR1,gR1,gR2,gR22,sR1,sR2,sR22,gj1_0,sj1_0,gj2_0,gj2_1,sj2_0,sj2_1,len_last,hend,he,h3,tp];(with_reducible first|(refine hK _ ?_;clear hK K)|(refine hK ?_;clear hK hK3 K hK2)|(refine hK3 ?_;clear hK hK3 K hK2))))
          exact ⟨rfl,rfl,[],hla,.inl ⟨rfl,rfl,_,rfl⟩⟩
      · by_cases hr : fk (D[k]).1 (D.drop (k + 1)) = []
        · rw [if_pos hr] at hla
          have h2:=hkk.1 hr
          by_cases he:k+1=D.length
          · simp only [mix, mix_nil, mix_end, mix_skp, Nat.reduceEqDiff, Nat.reduceLeDiff, reduceCtorEq, if_true, if_false, reduceIte, Nat.reduceAdd, h17, h4]
            repeat (first|(with_reducible first|refine w_seq ?_|refine w_reg ?_|refine w_draw ?_|refine w_block ?_|refine w_skip ?_|refine ws_nil ?_|refine wd_nil ?_|refine q_then ?_|refine q_block_n ?_)|((with_reducible first|refine ks fun K hK=>?_|refine kd fun K hK=>?_|refine kc fun K hK2 hK hK3=>?_);simp (disch:=omega) only [bg0,bg1,bg2,bg3,bg4,stepO,rsAs,eff,AX.ev,St.put,binA,conc,ap1,ofVal,Int.reduceTMod,Int.reduceTDiv,reduceCtorEq,fillA,AV.cells,AV.fine,AV.one,Nat.reduceAdd,Nat.reduceSub,Nat.reduceMul,Nat.reduceLT,Nat.reduceLeDiff,Int.reduceLT,Int.reduceLE,Int.reduceAdd,Int.reduceSub,Int.reduceNeg,Int.reduceMul,Int.reduceEq,Int.reduceToNat,nilA,moveA,live,loadA,rdA,storeA,wrA,intA,elemA,lenA,appA,srcA,isPtr,isNilPtr,partA,resOf,sliceA,cut,id,ap2,reduceIte,concs,chkB,geB,AOp.cls,AOp.xs,ltB,ltC,Nat.reduceBEq,Option.toList,List.cons_append,decide_eq_true,decide_eq_false,if_pos,if_neg,List.length_map,pA_at,bVb,bVn,eq_self,Bool.and_self,BEq.rfl,not_true_eq_false,gR0,gR01,gR02,sR0,sR01,sR02,lR0,lR1,gR1,gR2,gR22,sR1,sR2,sR22,gj1_0,sj1_0,gj2_0,gj2_1,sj2_0,sj2_1,len_last,hend,he,tp];(with_reducible first|(refine hK _ ?_;clear hK K)|(refine hK ?_;clear hK hK3 K hK2)|(refine hK3 ?_;clear hK hK3 K hK2)))|((first|((with_reducible refine kgd_u ?_ ?_ ?_);rotate_left 1;rfl)|((with_reducible refine kgd_f ?_ ?_ ?_);rotate_left 1;rfl));rotate_left 1;(focus (simp (disch:=omega) only [bg0,bg1,bg2,bg3,bg4,stepO,rsAs,eff,AX.ev,St.put,binA,conc,ap1,ofVal,Int.reduceTMod,Int.reduceTDiv,reduceCtorEq,fillA,AV.cells,AV.fine,AV.one,Nat.reduceAdd,Nat.reduceSub,Nat.reduceMul,Nat.reduceLT,Nat.reduceLeDiff,Int.reduceLT,Int.reduceLE,Int.reduceAdd,Int.reduceSub,Int.reduceNeg,Int.reduceMul,Int.reduceEq,Int.reduceToNat,nilA,moveA,live,loadA,rdA,storeA,wrA,intA,elemA,lenA,appA,srcA,isPtr,isNilPtr,partA,resOf,sliceA,cut,id,ap2,reduceIte,concs,chkB,geB,AOp.cls,AOp.xs,ltB,ltC,Nat.reduceBEq,Option.toList,List.cons_append,decide_eq_true,decide_eq_false,if_pos,if_neg,List.length_map,pA_at,bVb,bVn,eq_self,Bool.and_self,BEq.rfl,not_true_eq_false,gR0,gR01,gR02,sR0,sR01,sR02,lR0,lR1,gR1,gR2,gR22,sR1,sR2,sR22,gj1_0,sj1_0,gj2_0,gj2_1,sj2_0,sj2_1,len_last,hend,he,tp];try rfl))))
            exact ⟨rfl,rfl,pre++[D[k]],by rw [hla];simp,.inr ⟨by simp,J,K++[rw0 [D[k]] 0]++[rw0 [D[k]] 0],g+1,by show AV.ol _ _ _=AV.ol _ _ _;simp,by rw [hsn];simp [pA]⟩⟩
          · have h3 := h2 (by omega)
            simp only [mix,mix_nil,mix_end,mix_skp,Nat.reduceEqDiff,Nat.reduceLeDiff,reduceCtorEq,if_true,if_false,reduceIte,Nat.reduceAdd,h17,h4]
            repeat (first|(with_reducible first|refine w_seq ?_|refine w_reg ?_|refine w_draw ?_|refine w_block ?_|refine w_skip ?_|refine ws_nil ?_|refine wd_nil ?_|refine q_then ?_|refine q_block_n ?_)|((with_reducible refine kgd_t ?_ ?_);rfl)|((with_reducible first|refine ks fun K hK=>?_|refine kd fun K hK=>?_|refine kc fun K hK2 hK hK3=>?_);simp (disch:=omega) only [bg0,bg1,bg2,bg3,bg4,stepO,rsAs,eff,AX.ev,St.put,binA,conc,ap1,ofVal,Int.reduceTMod,Int.reduceTDiv,reduceCtorEq,fillA,AV.cells,AV.fine,AV.one,Nat.reduceAdd,Nat.reduceSub,Nat.reduceMul,Nat.reduceLT,Nat.reduceLeDiff,Int.reduceLT,Int.reduceLE,Int.reduceAdd,Int.reduceSub,Int.reduceNeg,Int.reduceMul,Int.reduceEq,Int.reduceToNat,nilA,moveA,live,loadA,rdA,storeA,wrA,intA,elemA,lenA,appA,srcA,isPtr,isNilPtr,partA,resOf,sliceA,cut,id,ap2,reduceIte,concs,chkB,geB,AOp.cls,AOp.xs,ltB,ltC,Nat.reduceBEq,Option.toList,List.cons_append,decide_eq_true,decide_eq_false,if_pos,if_neg,List.length_map,pA_at,bVb,bVn,eq_self,Bool.and_self,BEq.rfl,not_true_eq_false,gR0,gR01,gR02,sR0,sR01,sR02,lR0,lR1,gR1,gR2,gR22,sR1,sR2,sR22,gj1_0,sj1_0,gj2_0,gj2_1,sj2_0,sj2_1,len_last,hend,he,h3,tp];(with_reducible first|(refine hK _ ?_;clear hK K)|(refine hK ?_;clear hK hK3 K hK2)|(refine hK3 ?_;clear hK hK3 K hK2))))
            exact ⟨rfl,rfl,pre++[D[k]],by rw [hla];simp,.inr ⟨by simp,J,K++[rw0 [D[k]] 0]++[rw0 [D[k]] 0],g+1,by show AV.ol _ _ _=AV.ol _ _ _;simp,by rw [hsn];simp [pA]⟩⟩
        · rw [if_neg hr] at hla
          have hex:∃ h2:k+1 < D.length,(D[k+1]).1=(D[k]).1:=by
            by_cases h2:k+1 < D.length
            · refine ⟨h2, ?_⟩
              by_cases h3:(D[k+1]).1=(D[k]).1
              · exact h3
              · exact absurd (hkk.2 fun _=>h3) hr
            · exact absurd (hkk.2 fun h=>absurd h h2) hr
          obtain ⟨h2,h3⟩:=hex
          have he:¬ (k+1=D.length):=by omega
          simp only [mix,mix_nil,mix_end,mix_skp,Nat.reduceEqDiff,Nat.reduceLeDiff,reduceCtorEq,if_true,if_false,reduceIte,Nat.reduceAdd,h17,h4]
          repeat (first|(with_reducible first|refine w_seq ?_|refine w_reg ?_|refine w_draw ?_|refine w_block ?_|refine w_skip ?_|refine ws_nil ?_|refine wd_nil ?_|refine q_then ?_|refine q_block_n ?_)|((with_reducible refine kgd_t ?_ ?_);rfl)|((with_reducible first|refine ks fun K hK=>?_|refine kd fun K hK=>?_|refine kc fun K hK2 hK hK3=>?_);simp (disch:=omega) only [bg0,bg1,bg2,bg3,bg4,stepO,rsAs,eff,AX.ev,St.put,binA,conc,ap1,ofVal,Int.reduceTMod,Int.reduceTDiv,reduceCtorEq,fillA,AV.cells,AV.fine,AV.one,Nat.reduceAdd,Nat.reduceSub,Nat.reduceMul,Nat.reduceLT,Nat.reduceLeDiff,Int.reduceLT,Int.reduceLE,Int.reduceAdd,Int.reduceSub,Int.reduceNeg,Int.reduceMul,Int.reduceEq,Int.reduceToNat,nilA,moveA,live,loadA,rdA,storeA,wrA,intA,elemA,lenA,appA,srcA,isPtr,isNilPtr,partA,resOf,sliceA,cut,id,ap2,reduceIte,concs,chkB,geB,AOp.cls,AOp.xs,ltB,ltC,Nat.reduceBEq,Option.toList,List.cons_append,decide_eq_true,decide_eq_false,if_pos,if_neg,List.length_map,pA_at,bVb,bVn,eq_self,Bool.and_self,BEq.rfl,not_true_eq_false,gR0,gR01,gR02,sR0,sR01,sR02,lR0,lR1,gR1,gR2,gR22,sR1,sR2,sR22,gj1_0,sj1_0,gj2_0,gj2_1,sj2_0,sj2_1,len_last,hend,he,h3,tp];(with_reducible first|(refine hK _ ?_;clear hK K)|(refine hK ?_;clear hK hK3 K hK2)|(refine hK3 ?_;clear hK hK3 K hK2))))
          exact ⟨rfl,rfl,pre,hla,.inr ⟨hp,J,K++[rw0 [D[k]] 0],g,rfl,by simp [pA]⟩⟩
    · rintro v H ⟨h17, pre, hla, hor⟩
      rw [List.drop_length] at hla
      have hla2:lasts D=pre:=by rw [hla];simp [lasts]
      rw [hla2]
      rcases hor with ⟨rfl,h4,K,rfl⟩|⟨hp,J,K,g,h4,rfl⟩
      · simp only [mix, mix_nil, mix_end, mix_skp, Nat.reduceEqDiff, Nat.reduceLeDiff, reduceCtorEq, if_true, if_false, reduceIte, Nat.reduceAdd, h17, h4]
        repeat (first|(with_reducible first|refine w_seq ?_|refine w_reg ?_|refine w_exit ?_|refine ws_nil ?_|refine q_then ?_|refine q_then_x ?_|refine q_block_x ?_|refine w_ret ?_)|((with_reducible first|refine ks fun K hK=>?_|refine kd fun K hK=>?_|refine kc fun K hK2 hK hK3=>?_|refine ret_h fun K hR=>?_|refine ret_hh rfl fun K hR=>?_|refine ret_pp fun K hR=>?_);simp (disch:=omega) only [bg0,bg1,bg2,bg3,bg4,stepO,rsAs,eff,AX.ev,St.put,binA,conc,ap1,ofVal,Int.reduceTMod,Int.reduceTDiv,reduceCtorEq,fillA,AV.cells,AV.fine,AV.one,Nat.reduceAdd,Nat.reduceSub,Nat.reduceMul,Nat.reduceLT,Nat.reduceLeDiff,Int.reduceLT,Int.reduceLE,Int.reduceAdd,Int.reduceSub,Int.reduceNeg,Int.reduceMul,Int.reduceEq,Int.reduceToNat,nilA,moveA,live,loadA,rdA,storeA,wrA,intA,elemA,lenA,appA,srcA,isPtr,isNilPtr,partA,resOf,sliceA,cut,id,ap2,reduceIte,concs,chkB,geB,AOp.cls,AOp.xs,ltB,ltC,Nat.reduceBEq,Option.toList,List.cons_append,decide_eq_true,decide_eq_false,if_pos,if_neg,List.length_map,pA_at,bVb,bVn,eq_self,Bool.and_self,BEq.rfl,not_true_eq_false,gR0,gR01,gR02,sR0,sR01,sR02,lR0,lR1,gR1,gR2,gR22,sR1,sR2,sR22,gj1_0,sj1_0,gj2_0,gj2_1,sj2_0,sj2_1,len_last];(first|(with_reducible first|(refine hK _ ?_;clear hK K)|(refine hK ?_;clear hK hK3 K hK2)|(refine hK3 ?_;clear hK hK3 K hK2))|((with_reducible refine hR _ ?_ ?_ ?_ ?_);rotate_left 2;rfl;rfl)|((with_reducible refine hR _ ?_);rfl))))
      · simp only [mix, mix_nil, mix_end, mix_skp, Nat.reduceEqDiff, Nat.reduceLeDiff, reduceCtorEq, if_true, if_false, reduceIte, Nat.reduceAdd, h17, h4]
        repeat (first|(with_reducible first|refine w_seq ?_|refine w_reg ?_|refine w_exit ?_|refine ws_nil ?_|refine q_then ?_|refine q_then_x ?_|refine q_block_x ?_|refine w_ret ?_)|((with_reducible first|refine ks fun K hK=>?_|refine kd fun K hK=>?_|refine kc fun K hK2 hK hK3=>?_);simp (disch:=omega) only [bg0,bg1,bg2,bg3,bg4,stepO,rsAs,eff,AX.ev,St.put,binA,conc,ap1,ofVal,Int.reduceTMod,Int.reduceTDiv,reduceCtorEq,fillA,AV.cells,AV.fine,AV.one,Nat.reduceAdd,Nat.reduceSub,Nat.reduceMul,Nat.reduceLT,Nat.reduceLeDiff,Int.reduceLT,Int.reduceLE,Int.reduceAdd,Int.reduceSub,Int.reduceNeg,Int.reduceMul,Int.reduceEq,Int.reduceToNat,nilA,moveA,live,loadA,rdA,storeA,wrA,intA,elemA,lenA,appA,srcA,isPtr,isNilPtr,partA,resOf,sliceA,cut,id,ap2,reduceIte,concs,chkB,geB,AOp.cls,AOp.xs,ltB,ltC,Nat.reduceBEq,Option.toList,List.cons_append,decide_eq_true,decide_eq_false,if_pos,if_neg,List.length_map,pA_at,bVb,bVn,eq_self,Bool.and_self,BEq.rfl,not_true_eq_false,gR0,gR01,gR02,sR0,sR01,sR02,lR0,lR1,gR1,gR2,gR22,sR1,sR2,sR22,gj1_0,sj1_0,gj2_0,gj2_1,sj2_0,sj2_1,len_last];(with_reducible first|(refine hK _ ?_;clear hK K)|(refine hK ?_;clear hK hK3 K hK2)|(refine hK3 ?_;clear hK hK3 K hK2))))
        exact ret_frz rfl (List.getElem?_cons_succ.trans gR0) (by simp) (all_pA _)
end Go.Proofs.Ytefkaglgekjlfaa.Sim.Pr7
namespace Go.Proofs.Ytefkaglgekjlfaa.Sim.Pr7
open Go.RowKit
set_option maxRecDepth 100000
theorem sle_at {A:List Pr} (h:SLe A) {i j:Nat} (hij:i≤j) (hj:j < A.length):cB (A[i]'(by omega)).1 (A[j]).1≤0:=by
  by_cases e:i=j
  · subst e;rw [cB_self];omega
  · exact List.pairwise_iff_getElem.1 h i j (by omega) hj (by omega)
theorem hc_row {G:Nat→AV} {f:FuncId} {xs:List AV} {D D' E E':List Pr} {g:Nat} {r:AV} (h:HC Try.prog G f xs [rw0 D g] r [rw0 E g]) (e1:D=D') (e2:E=E'):HC Try.prog G f xs [rw0 D' g] r [rw0 E' g]:=by
  subst e1;subst e2;exact h
theorem okl_perm {D D':List Pr} (h:Okl D) (hl:D'.length=D.length) (hm:∀ x ∈ D',x ∈ D):Okl D':=⟨by rw [hl];exact h.len,fun p hp=>h.sz p (hm p hp)⟩
theorem mem_take_at {L:List Pr} {n:Nat} {x:Pr} (h:x ∈ L.take n):∃ i,∃ hi:i < L.length,i < n∧L[i]=x:=by
  obtain ⟨i,hi,rfl⟩:=List.mem_take_iff_getElem.1 h
  exact ⟨i,by omega,by omega,rfl⟩
theorem mem_drop_at {L:List Pr} {n:Nat} {x:Pr} (h:x ∈ L.drop n):∃ i,∃ hi:i < L.length,n≤i∧L[i]=x:=by
  obtain ⟨i,hi,rfl⟩:=List.mem_drop_iff_getElem.1 h
  exact ⟨n+i,by omega,by omega,rfl⟩
theorem sym_cut {A B : List Pr} {a s mid m : Nat} (sA : SLe A) (sB : SLe B) (h1 : a ≤ s) (h2 : s ≤ m) (h3 : s ≤ mid) (hA : a + A.length = m) (hb : mid ≤ s + B.length)
    (hlo:a < s→mid < s+B.length→∀ x y,A[s - 1 - a]? = some x→B[mid - s]? = some y→¬ cB y.1 x.1 < 0)
    (hhi:s < m→s < mid→∀ x y,A[s - a]? = some x→B[mid - 1 - s]? = some y→cB y.1 x.1 < 0) :
    ssort (A++B)=ssort (A.take (s - a)++B.take (mid - s))++ssort (A.drop (s - a)++B.drop (mid - s))∧(∀ x ∈ A.drop (s - a),∀ y ∈ B.take (mid - s),cB y.1 x.1 < 0):=by
  have g1:∀ x ∈ A.drop (s - a),∀ y ∈ B.take (mid - s),cB y.1 x.1 < 0:=fun x hx y hy=>by
    obtain ⟨i,hi,hi2,rfl⟩:=mem_drop_at hx
    obtain ⟨j,hj,hj2,rfl⟩:=mem_take_at hy
    have k1:s - a < A.length:=by omega
    have k2:mid - 1 - s < B.length:=by omega
    have:=hhi (by omega) (by omega) _ _ (List.getElem?_eq_getElem k1) (List.getElem?_eq_getElem k2)
    have c1:=sle_at sA (i:=s - a) (j:=i) (by omega) hi
    have c2:=sle_at sB (i:=j) (j:=mid - 1 - s) (by omega) k2
    exact cB_lt1 (cB_lt2 c2 this) c1
  refine ⟨?_,g1⟩
  have e1:=List.take_append_drop (s - a) A
  have e2:=List.take_append_drop (mid - s) B
  have:=ssort_merge (A1:=A.take (s - a)) (A2:=A.drop (s - a)) (B1:=B.take (mid - s)) (B2:=B.drop (mid - s)) (by rw [e1];exact sA) (by rw [e2];exact sB) g1 (fun x hx y hy=>by
    obtain ⟨i,hi,hi2,rfl⟩:=mem_take_at hx
    obtain ⟨j,hj,hj2,rfl⟩:=mem_drop_at hy
    have k1:s - 1 - a < A.length:=by omega
    have k2:mid - s < B.length:=by omega
    have:=hlo (by omega) (by omega) _ _ (List.getElem?_eq_getElem k1) (List.getElem?_eq_getElem k2)
    have c1:=sle_at sA (i:=i) (j:=s - 1 - a) (by omega) k1
    have c2:=sle_at sB (i:=mid - s) (j:=j) (by omega) hj
    refine cB_le c1 (cB_le ?_ c2)
    rw [cB_anti (B[mid - s]).1];omega)
  rwa [e1,e2] at this
theorem ssort_nil1 {X Y:List Pr} (h:X=[]∨Y=[]) (hX:SLe X) (hY:SLe Y):ssort (X++Y)=X++Y:=by
  rcases h with rfl|rfl
  · exact ssort_of hY
  · rw [List.append_nil];exact ssort_of hX
theorem sym_all {G : Nat → AV} {g n : Nat} {P A B R : List Pr} {N a m b s mid e : Nat}
    (ih:∀ (P A B R:List Pr) (N a m b:Nat),A.length+B.length≤n→(P++(A++(B++R))).length=N→P.length=a→a+A.length=m→m+B.length=b→0 < A.length→0 < B.length→SLe A→SLe B→Okl (P++(A++(B++R))) →
      HC Try.prog G 100 [.ol 0 g N,I a,I m,I b,cF] [rw0 (P++(A++(B++R))) g] (.tup []) [rw0 (P++(ssort (A++B)++R)) g])
    (hn:A.length+B.length≤n+1) (hN:(P++(A++(B++R))).length=N) (hP:P.length=a) (hA:a+A.length=m) (hB:m+B.length=b) (sA:SLe A) (sB:SLe B) (hok:Okl (P++(A++(B++R))))
    (h1:a≤s) (h2:s≤m) (h3:s≤mid) (hb:mid≤s+B.length) (he:e+s=mid+m) (hmb:mid < b) (ham:a < mid)
    (hlo:a < s→mid < s+B.length→∀ x y,A[s - 1 - a]? = some x→B[mid - s]? = some y→¬ cB y.1 x.1 < 0)
    (hhi:s < m→s < mid→∀ x y,A[s - a]? = some x→B[mid - 1 - s]? = some y→cB y.1 x.1 < 0) :
    ∃ D1 D2 D3:List Pr,D3=P++(ssort (A++B)++R)∧D1.length=N∧D2.length=N ∧
      (s < m→m < e→HC Try.prog G 101 [.ol 0 g N,I s,I m,I e,cF] [rw0 (P++(A++(B++R))) g] (.tup []) [rw0 D1 g])∧(¬ (s < m∧m < e)→P++(A++(B++R))=D1) ∧
      (a < s→s < mid→HC Try.prog G 100 [.ol 0 g N,I a,I s,I mid,cF] [rw0 D1 g] (.tup []) [rw0 D2 g])∧(¬ (a < s∧s < mid)→D1=D2) ∧
      (mid < e→e < b→HC Try.prog G 100 [.ol 0 g N,I mid,I e,I b,cF] [rw0 D2 g] (.tup []) [rw0 D3 g])∧(¬ (mid < e∧e < b)→D2=D3):=by
  obtain ⟨c1,c2⟩:=sym_cut sA sB h1 h2 h3 hA hb hlo hhi
  have eA:=List.take_append_drop (s - a) A
  have eB:=List.take_append_drop (mid - s) B
  have lA1:(A.take (s - a)).length=s - a:=by simp;omega
  have lA2:(A.drop (s - a)).length=m - s:=by simp;omega
  have lB1:(B.take (mid - s)).length=mid - s:=by simp;omega
  have lB2:(B.drop (mid - s)).length=b - e:=by simp;omega
  have sA1:SLe (A.take (s - a)):=List.Pairwise.sublist (List.take_sublist ..) sA
  have sA2:SLe (A.drop (s - a)):=List.Pairwise.sublist (List.drop_sublist ..) sA
  have sB1:SLe (B.take (mid - s)):=List.Pairwise.sublist (List.take_sublist ..) sB
  have sB2:SLe (B.drop (mid - s)):=List.Pairwise.sublist (List.drop_sublist ..) sB
  rw [c1]
  generalize A.take (s - a)=A1 at *
  generalize A.drop (s - a)=A2 at *
  generalize B.take (mid - s)=B1 at *
  generalize B.drop (mid - s)=B2 at *
  clear hlo hhi c1
  subst eA
  subst eB
  simp only [List.length_append] at hn hA hB hN hb
  have hm1:∀ x,x ∈ P++(A1++(B1++(A2++(B2++R))))→x ∈ P++((A1++A2)++((B1++B2)++R)):=fun x hx=>by
    simp only [List.mem_append] at hx ⊢
    rcases hx with h|h|h|h|h|h<;>simp [h]
  have hm2:∀ x,x ∈ (P++ssort (A1++B1))++(A2++(B2++R))→x ∈ P++((A1++A2)++((B1++B2)++R)):=fun x hx=>by
    simp only [List.mem_append,ssort_mem] at hx ⊢
    rcases hx with (h|h|h)|h|h|h<;>simp [h]
  have ok1:Okl (P++(A1++(B1++(A2++(B2++R))))):=okl_perm hok (by simp;omega) hm1
  have ok2:Okl ((P++ssort (A1++B1))++(A2++(B2++R))):=okl_perm hok (by simp [ssort_len];omega) hm2
  refine ⟨P++(A1++(B1++(A2++(B2++R)))),P++(ssort (A1++B1)++(A2++(B2++R))),_,rfl,by simp;omega,by simp [ssort_len];omega,fun k1 k2=>?_,fun hk=>?_,fun k1 k2=>?_,fun hk=>?_,fun k1 k2=>?_,fun hk=>?_⟩
  · have hr := rot_list (P := P ++ A1) (A := A2) (B := B1) (R := B2 ++ R)
    have e1:(P++A1).length=s:=by simp;omega
    have e2:(P++A1).length+A2.length=m:=by simp;omega
    have e3:(P++A1).length+A2.length+B1.length=e:=by simp;omega
    rw [e3,e2,e1] at hr
    have hlN:(P++(A1++A2++(B1++B2++R))).length=N:=by simp;omega
    have:=rot45 G (P++(A1++A2++(B1++B2++R))) g s m e hok.len k1 k2 (by rw [hlN];omega) cF
    rw [hlN] at this
    refine hc_row this rfl ?_
    have e4:P++(A1++A2++(B1++B2++R))=P++A1++(A2++(B1++(B2++R))):=by simp
    rw [e4,hr];simp
  · have : A2 = [] ∨ B1 = [] := by
      by_cases hh:s < m
      · right;exact List.length_eq_zero_iff.1 (by omega)
      · left;exact List.length_eq_zero_iff.1 (by omega)
    rcases this with rfl|rfl<;>simp
  · exact ih P A1 B1 (A2++(B2++R)) N a s mid (by omega) (by simp;omega) hP (by omega) (by omega) (by omega) (by omega) sA1 sB1 ok1
  · rw [ssort_nil1 _ sA1 sB1]
    · simp
    · by_cases hh : a < s
      · right;exact List.length_eq_zero_iff.1 (by omega)
      · left;exact List.length_eq_zero_iff.1 (by omega)
  · have := ih (P ++ ssort (A1 ++ B1)) A2 B2 R N mid e b (by omega) (by simp [ssort_len]; omega) (by simp [ssort_len]; omega) (by omega) (by omega) (by omega) (by omega) sA2 sB2 ok2
    exact hc_row this (by simp) (by simp)
  · rw [ssort_nil1 (X := A2) _ sA2 sB2]
    · simp
    · by_cases hh : mid < e
      · right;exact List.length_eq_zero_iff.1 (by omega)
      · left;exact List.length_eq_zero_iff.1 (by omega)
theorem eVu {H:Hp} {k:KK} {n:Nat} (h:n≤9223372036854775807) (hk:k (.v (.int .u64 (n:Int))) H):ObE ((ap1 (fun v=>pureRun Try.prog (convert 3 112 v)) (.v (.int .i64 (n:Int)))).map (·,H)) k :=
  ⟨_,_,by simp only [ap1,conc,cVu (show (0:Int)≤(n:Int) by omega) (show (n:Int)≤9223372036854775807 by omega)];rfl,hk⟩
theorem eVi {H:Hp} {k:KK} {n:Nat} (h:n≤9223372036854775807) (hk:k (.v (.int .i64 (n:Int))) H):ObE ((ap1 (fun v=>pureRun Try.prog (convert 112 3 v)) (.v (.int .u64 (n:Int)))).map (·,H)) k :=
  ⟨_,_,by simp only [ap1,conc,cVi (show (0:Int)≤(n:Int) by omega) (show (n:Int)≤9223372036854775807 by omega)];rfl,hk⟩
theorem eShr {H:Hp} {k:KK} {n:Nat} {t:TypeId} {xo yo:Operand} (hk:k (.v (.int .u64 ((n / 2:Nat):Int))) H):ObE ((binA Try.prog H .shr t false xo yo (.v (.int .u64 (n:Int))) (.v (.int .u64 1))).map (·,H)) k:=by
  have:=shr1 (P:=Try.prog) (t:=t) (xo:=xo) (yo:=yo) (i:=n) (j:=0)
  rw [show ((n:Int)+((0:Nat):Int))=(n:Int) by simp,Nat.add_zero] at this
  exact ⟨_,_,by simp only [binA,conc,this,Bool.false_eq_true,if_false];rfl,hk⟩
set_option maxHeartbeats 40000000 in
theorem sym44 (G : Nat → AV) (g : Nat) : ∀ (n : Nat) (P A B R : List Pr) (N a m b : Nat), A.length + B.length ≤ n → (P ++ (A ++ (B ++ R))).length = N → P.length = a → a + A.length = m → m + B.length = b → 0 < A.length → 0 < B.length → SLe A → SLe B → Okl (P ++ (A ++ (B ++ R))) →
    HC Try.prog G 100 [.ol 0 g N,I a,I m,I b,cF] [rw0 (P++(A++(B++R))) g] (.tup []) [rw0 (P++(ssort (A++B)++R)) g]
  | 0,P,A,B,R,N,a,m,b,hn,_,_,_,_,hA0,_,_,_,_=>by omega
  | n+1,P,A,B,R,N,a,m,b,hn,hN,hP,hA,hB,hA0,hB0,sA,sB,hok=>by
    by_cases hA1:A.length=1
    · obtain ⟨x, rfl⟩ := List.length_eq_one_iff.1 hA1
      exact symL G g P B R x N a m b hN hP (by simpa using hA) hB sB hok
    by_cases hB1:B.length=1
    · obtain ⟨x, rfl⟩ := List.length_eq_one_iff.1 hB1
      exact symR G g P A R x N a m b hN hP hA (by omega) (by simpa using hB) sA hok
    have hlen:=hok.len
    rw [hN] at hlen
    have hbN:b≤N:=by rw [← hN];simp;omega
    have hsA:∀ p ∈ A,p.1.size≤9223372036854775807:=fun p hp=>(hok.sz p (by simp [hp])).1
    have hsB:∀ p ∈ B,p.1.size≤9223372036854775807:=fun p hp=>(hok.sz p (by simp [hp])).1
    obtain ⟨mid,hmid⟩:∃ mid,mid=(a+b) / 2:=⟨_,rfl⟩
    obtain ⟨s0,hs0⟩:∃ s0,s0=if mid < m then mid+m - b else a:=⟨_,rfl⟩
    obtain ⟨r0,hr0⟩:∃ r0,r0=if mid < m then mid else m:=⟨_,rfl⟩
    have hsr:a≤s0∧s0≤r0∧r0≤m∧r0≤mid∧mid+m≤b+s0∧(s0=a∨mid+m=b+s0)∧(r0=m∨r0=mid)∧mid < b∧a < mid:=by
      rw [hs0,hr0];split<;>omega
    obtain ⟨sr1,sr2,sr3,sr4,sr5,sr6,sr7,sr8,sr9⟩:=hsr
    have ema:¬ ((m:Int) - (a:Int)=1):=by omega
    have ebm:¬ ((b:Int) - (m:Int)=1):=by omega
    have hm:=hmid.symm
    -- the two places that are looked at
    have hq:∀ c,s0≤c→c < r0→∃ x y:Pr,A[c - a]? = some x∧B[mid - 1 - c]? = some y∧((P++(A++(B++R))).map pA)[c]? = some (.agg [S x.1,S x.2])∧((P++(A++(B++R))).map pA)[mid+m - 1 - c]? = some (.agg [S y.1,S y.2])∧x.1.size≤9223372036854775807∧y.1.size≤9223372036854775807:=fun c c1 c2=>by
      have i1:c - a < A.length:=by omega
      have i2:mid - 1 - c < B.length:=by omega
      refine ⟨A[c - a],B[mid - 1 - c],List.getElem?_eq_getElem i1,List.getElem?_eq_getElem i2,pAq ?_,pAq ?_,hsA _ (List.getElem_mem i1),hsB _ (List.getElem_mem i2)⟩
      · have := gdA (P := P) (A := A) (R := B ++ R) (k := c) (by omega) (by omega)
        rw [this];congr 2;omega
      · have := gdA (P := P ++ A) (A := B) (R := R) (k := mid + m - 1 - c) (by simp; omega) (by simp; omega)
        rw [List.append_assoc] at this
        rw [this];congr 2;simp;omega
    -- of two such the one further on is smaller
    have hmon:∀ c d x y x' y',s0≤c→c≤d→d < r0→A[c - a]? = some x→B[mid - 1 - c]? = some y→A[d - a]? = some x'→B[mid - 1 - d]? = some y'→cB y.1 x.1 < 0→cB y'.1 x'.1 < 0:=fun c d x y x' y' c1 c2 c3 e1 e2 e3 e4 h=>by
      have i1:c - a < A.length:=by omega
      have i2:mid - 1 - c < B.length:=by omega
      have i3:d - a < A.length:=by omega
      have i4:mid - 1 - d < B.length:=by omega
      rw [List.getElem?_eq_getElem i1] at e1
      rw [List.getElem?_eq_getElem i2] at e2
      rw [List.getElem?_eq_getElem i3] at e3
      rw [List.getElem?_eq_getElem i4] at e4
      cases e1;cases e2;cases e3;cases e4
      have g1:=sle_at sA (i:=c - a) (j:=d - a) (by omega) i3
      have g2:=sle_at sB (i:=mid - 1 - d) (j:=mid - 1 - c) (by omega) i2
      exact cB_lt1 (cB_lt2 g2 h) g1
    have hfin:=fun (s e:Nat) h1 h2 h3 hb he hlo hhi=>sym_all (G:=G) (g:=g) (s:=s) (mid:=mid) (e:=e) (sym44 G g n) hn hN hP hA hB sA sB hok h1 h2 h3 hb he sr8 sr9 hlo hhi
    generalize hD:P++(A++(B++R))=D at *
    generalize hE:P++(ssort (A++B)++R)=E at *
    have hb1:mid+m≤2000000:=by omega
    have hAl:m=a+A.length:=hA.symm
    have hBl:b=m+B.length:=hB.symm
    clear hn hP hsA hsB hA0 hB0 hA1 hB1 hlen hok sA sB
    refine hc_ofV cop100 rfl ?_
    repeat' ((conv=>whnf);first|(with_reducible refine SeqP.go ?_)|((with_reducible refine eVu ?_ ?_);omega)|((with_reducible refine eVi ?_ ?_);omega)|(with_reducible refine eShr ?_)|((with_reducible refine ObN.mk ?_ ?_);exact zN)|(with_reducible first|refine ObT.tt ?_|refine ObT.ff ?_)|((with_reducible refine ObB.no ?_ ?_);exact zC)|(with_reducible refine ObB.mk (fun h=>?_) (fun h=>?_))|((with_reducible refine ObI.nn ?_ ?_);omega)|((with_reducible refine ObI.sn ?_ ?_ ?_);omega;omega)|((with_reducible refine ObI.sl ?_ ?_ ?_);omega;omega))
    all_goals
      conv=>whnf
      simp only [hm]
      refine LoopP.go (α:=Nat × Nat) (fun p=>s0≤p.1∧p.1≤p.2∧p.2≤r0∧(∀ c x y,s0≤c→c < p.1→A[c - a]? = some x→B[mid - 1 - c]? = some y→¬ cB y.1 x.1 < 0)∧(∀ c x y,p.2≤c→c < r0→A[c - a]? = some x→B[mid - 1 - c]? = some y→cB y.1 x.1 < 0)) (fun p=>p.2 - p.1) (fun p=>[(20,some (I p.1)),(0,some (I p.2)),(1,none),(125,none),(0,none),(0,none),(0,none),(0,none),(0,none),(0,none),(0,none),(0,none),(0,none),(0,none),(0,none),(0,none),(0,none),(0,none),(0,none),(0,none),(0,none),(0,none),(0,none),(0,none),(0,none),(0,none),(0,none),(0,none),(0,none)]) (fun _=>[rw0 D g]) (s0,r0) ⟨Nat.le_refl _,sr2,Nat.le_refl _,fun c x y h1 h2=>by omega,fun c x y h1 h2=>by omega⟩ (Fg.go ?_ rfl) ?_
      · have hs1 := hs0
        have hr1:=hr0
        first|rw [if_pos (by omega)] at hs1 hr1|rw [if_neg (by omega)] at hs1 hr1
        clear hs0 hr0
        repeat' ((conv=>whnf);first|((with_reducible refine ObEqs.mk ?_ ?_);rfl)|((with_reducible refine ObEq1.i ?_ ?_);exact zF)|exact True.intro)
      rintro ⟨i,j⟩ ⟨i1,i2,i3,hlo,hhi⟩
      dsimp only at i1 i2 i3 hlo hhi ⊢
      clear hmid hs0 hr0 ema ebm
      by_cases hij:i < j
      · obtain ⟨x, y, ex, ey, q1, q2, hx, hy⟩ := hq ((i + j) / 2) (by omega) (by omega)
        by_cases hlt:cB y.1 x.1 < 0
        · have hhi2:∀ c x y,(i+j) / 2≤c→c < r0→A[c - a]? = some x→B[mid - 1 - c]? = some y→cB y.1 x.1 < 0:=fun c x' y' c1 c2 e1 e2=>hmon ((i+j) / 2) c x y x' y' (by omega) c1 c2 ex ey e1 e2 hlt
          clear hmon hfin hq hhi
          repeat' ((conv=>whnf);first|(with_reducible refine SeqP.go ?_)|((with_reducible refine eVu ?_ ?_);omega)|((with_reducible refine eVi ?_ ?_);omega)|(with_reducible refine eShr ?_)|((with_reducible refine ObD.mk ?_ ?_);(focus (first|rfl|(simp [hN];done))))|((with_reducible refine ObN.mk ?_ ?_);(focus (first|rfl|assumption|omega|(simp only [List.length_map,List.length_append,List.length_cons,List.length_nil,hN];omega)|(simp [hN];done)|(simp [hN];omega))))|(with_reducible first|refine ObT.tt ?_|refine ObT.ff ?_)|((with_reducible refine ObB.yes ?_ ?_);exact zB)|((with_reducible refine ObI.nn ?_ ?_);omega)|((with_reducible refine ObI.sn ?_ ?_ ?_);omega;omega)|((with_reducible refine ObX.mk _ rfl ?_ ?_);(focus (first|omega|assumption|(simp only [List.length_map,List.length_append,List.length_cons,List.length_nil,List.length_take,List.length_drop,List.length_set,List.length_replicate,hN];omega))))|((with_reducible refine (?_:ObU _ _));(refine ObU.mk _ (by first|assumption|((conv=>lhs;simp only [List.set_cons_zero,List.set_cons_succ,List.take_succ_cons,List.take_zero,List.drop_succ_cons,List.drop_zero,List.nil_append,List.cons_append,List.append_nil,List.take_nil,List.drop_nil,hN]);try rfl)|rfl) ?_))|((with_reducible refine (?_:ObR _ _ _));(first|(refine ObR.mk _ (by assumption) ?_)|(refine ObR.mk _ (by exact (by first|exact q1|exact q2|(refine Eq.trans (congrArg _ ?_) q2;omega))) ?_)|(refine ObR.mk _ (by with_reducible rfl) ?_)|(refine ObR.map (by (first|omega|assumption|(simp only [List.length_map,List.length_append,List.length_cons,List.length_nil,List.length_take,List.length_drop,List.length_set,List.length_replicate,hN];omega))) (fun x hx=>?_))|(refine ObR.mk _ rfl ?_)))|((with_reducible refine ObH.f 93 ?_);(first|(with_reducible refine ObH.mk _ _ ((cmpC G _ hy hx)) ?_)|(refine ObH.mk _ _ ((cmpC G _ hy hx)) ?_))))
          conv=>whnf
          refine Again.mk (i,(i+j) / 2) ?_ ?_ (Fg.go ?_ rfl)
          · exact ⟨i1,by dsimp only;omega,by dsimp only;omega,hlo,hhi2⟩
          · dsimp only;omega
          repeat' ((conv=>whnf);first|((with_reducible refine ObEqs.mk ?_ ?_);rfl)|((with_reducible refine ObEq1.i ?_ ?_);exact zF)|exact True.intro)
        · have hlo2:∀ c x y,s0≤c→c < (i+j) / 2+1→A[c - a]? = some x→B[mid - 1 - c]? = some y→¬ cB y.1 x.1 < 0:=fun c x' y' c1 c2 e1 e2 hQ=>hlt (hmon c ((i+j) / 2) x' y' x y c1 (by omega) (by omega) e1 e2 ex ey hQ)
          clear hmon hfin hq hlo
          repeat' ((conv=>whnf);first|(with_reducible refine SeqP.go ?_)|((with_reducible refine eVu ?_ ?_);omega)|((with_reducible refine eVi ?_ ?_);omega)|(with_reducible refine eShr ?_)|((with_reducible refine ObD.mk ?_ ?_);(focus (first|rfl|(simp [hN];done))))|((with_reducible refine ObN.mk ?_ ?_);(focus (first|rfl|assumption|omega|(simp only [List.length_map,List.length_append,List.length_cons,List.length_nil,hN];omega)|(simp [hN];done)|(simp [hN];omega))))|(with_reducible first|refine ObT.tt ?_|refine ObT.ff ?_)|((with_reducible refine ObB.yes ?_ ?_);exact zB)|((with_reducible refine ObB.no ?_ ?_);exact zC)|((with_reducible refine ObI.nn ?_ ?_);omega)|((with_reducible refine ObI.nl ?_ ?_);omega)|((with_reducible refine ObI.sn ?_ ?_ ?_);omega;omega)|((with_reducible refine ObX.mk _ rfl ?_ ?_);(focus (first|omega|assumption|(simp only [List.length_map,List.length_append,List.length_cons,List.length_nil,List.length_take,List.length_drop,List.length_set,List.length_replicate,hN];omega))))|((with_reducible refine (?_:ObU _ _));(refine ObU.mk _ (by first|assumption|((conv=>lhs;simp only [List.set_cons_zero,List.set_cons_succ,List.take_succ_cons,List.take_zero,List.drop_succ_cons,List.drop_zero,List.nil_append,List.cons_append,List.append_nil,List.take_nil,List.drop_nil,hN]);try rfl)|rfl) ?_))|((with_reducible refine (?_:ObR _ _ _));(first|(refine ObR.mk _ (by assumption) ?_)|(refine ObR.mk _ (by exact (by first|exact q1|exact q2|(refine Eq.trans (congrArg _ ?_) q2;omega))) ?_)|(refine ObR.mk _ (by with_reducible rfl) ?_)|(refine ObR.map (by (first|omega|assumption|(simp only [List.length_map,List.length_append,List.length_cons,List.length_nil,List.length_take,List.length_drop,List.length_set,List.length_replicate,hN];omega))) (fun x hx=>?_))|(refine ObR.mk _ rfl ?_)))|((with_reducible refine ObH.f 93 ?_);(first|(with_reducible refine ObH.mk _ _ ((cmpC G _ hy hx)) ?_)|(refine ObH.mk _ _ ((cmpC G _ hy hx)) ?_))))
          conv=>whnf
          refine Again.mk ((i+j) / 2+1,j) ?_ ?_ (Fg.go ?_ rfl)
          · exact ⟨by dsimp only;omega,by dsimp only;omega,i3,hlo2,hhi⟩
          · dsimp only;omega
          repeat' ((conv=>whnf);first|((with_reducible refine ObEqs.mk ?_ ?_);rfl)|((with_reducible refine ObEq1.i ?_ ?_);exact zF)|exact True.intro)
      · obtain rfl : j = i := by omega
        obtain ⟨e,he⟩:∃ e,e+j=mid+m:=⟨mid+m - j,by omega⟩
        obtain ⟨D1,D2,D3,hD3,l1,l2,f1,f2,f3,f4,f5,f6⟩:=hfin j e (by omega) (by omega) (by omega) (by omega) he (fun c1 c2 x y e1 e2=>hlo (j - 1) x y (by omega) (by omega) e1 (by rw [show mid - 1 - (j - 1)=mid - j by omega];exact e2)) (fun c1 c2 x y e1 e2=>hhi j x y (by omega) (by omega) e1 e2)
        subst hD3
        have ee:e=mid+m - j:=by omega
        have hja:a≤j∧j≤m∧j≤mid:=by omega
        have heN:e≤b:=by omega
        clear hmon hfin hq hlo hhi i1 i2 i3 sr1 sr2 sr3 sr4 sr5 sr6 sr7 hij he
        obtain ⟨ja,jm,jd⟩:=hja
        subst ee
        by_cases p1:j < m<;>by_cases p3:a < j<;>by_cases p4:j < mid<;>by_cases p6:mid+m - j < b<;>(try (exfalso;omega))
        all_goals
          (first|(have r1:=f1 p1 (by omega))|(have r1:=f2 (by omega);subst r1))
          (first|(have r2:=f3 p3 p4)|(have r2:=f4 (by omega);subst r2))
          (first|(have r3:=f5 (by omega) p6)|(have r3:=f6 (by omega);subst r3))
          clear f1 f2 f3 f4 f5 f6
          repeat' ((conv=>whnf);first|(with_reducible refine SeqP.go ?_)|((with_reducible refine ObN.mk ?_ ?_);exact zN)|(with_reducible first|refine ObT.tt ?_|refine ObT.ff ?_)|((with_reducible refine ObB.yes ?_ ?_);exact zB)|((with_reducible refine ObB.no ?_ ?_);exact zC)|((with_reducible refine ObI.sn ?_ ?_ ?_);omega;omega)|((with_reducible refine ObH.f 101 ?_);(first|(with_reducible refine ObH.mk _ _ (r1) ?_)|(refine ObH.mk _ _ (r1) ?_)))|((with_reducible refine ObH.f 100 ?_);(first|(with_reducible refine ObH.mk _ _ (r2) ?_)|(refine ObH.mk _ _ (r2) ?_)))|((with_reducible refine ObH.f 100 ?_);(first|(with_reducible refine ObH.mk _ _ (r3) ?_)|(refine ObH.mk _ _ (r3) ?_)))|(exact ObEnd.eq rfl rfl))
end Go.Proofs.Ytefkaglgekjlfaa.Sim.Pr7
namespace Go.Proofs.Ytefkaglgekjlfaa.Sim
open Go.RowKit
set_option maxRecDepth 100000
theorem leaf14 (G:Nat→AV) (k v:ByteArray):PC Try.prog G 16 [S k,S v] (nV 1 k v 0 [] 0 [] 1 0):=by
  refine pc_ofV cop16 ?_
  repeat' ((conv=>whnf);first|(with_reducible refine SeqP.go ?_)|((with_reducible refine ObD.mk ?_ ?_);exact zD)|((with_reducible refine ObN.mk ?_ ?_);exact zN)|((with_reducible refine (?_:ObU _ _));(refine ObU.mk _ zU ?_))|((with_reducible refine (?_:ObR _ _ _));(first|(refine ObR.mk _ (by first|assumption|with_reducible rfl) ?_)|(refine ObR.map zX (fun x hx=>?_))|(refine ObR.mk _ rfl ?_)))|((with_reducible refine ObEq.mk ?_);exact zE))
theorem tomb15 (G:Nat→AV) (k v:ByteArray):PC Try.prog G 86 [S k,S v] (nV 6 k v 0 [] 0 [] 1 0):=by
  refine pc_ofV cop86 ?_
  repeat' ((conv=>whnf);first|(with_reducible refine SeqP.go ?_)|((with_reducible refine ObD.mk ?_ ?_);exact zD)|((with_reducible refine ObN.mk ?_ ?_);exact zN)|((with_reducible refine (?_:ObU _ _));(refine ObU.mk _ zU ?_))|((with_reducible refine (?_:ObR _ _ _));(first|(refine ObR.mk _ (by first|assumption|with_reducible rfl) ?_)|(refine ObR.map zX (fun x hx=>?_))|(refine ObR.mk _ rfl ?_)))|((with_reducible refine ObEq.mk ?_);exact zE))
theorem inner17 (G:Nat→AV) (a:Int):PC Try.prog G 89 [I a] (nV 5 ⟨#[]⟩ ⟨#[]⟩ 0 [] a [] 0 0):=by
  refine pc_ofV cop89 ?_
  repeat' ((conv=>whnf);first|(with_reducible refine SeqP.go ?_)|((with_reducible refine ObD.mk ?_ ?_);exact zD)|((with_reducible refine ObN.mk ?_ ?_);exact zN)|((with_reducible refine (?_:ObU _ _));(refine ObU.mk _ zU ?_))|((with_reducible refine (?_:ObR _ _ _));(first|(refine ObR.mk _ (by first|assumption|with_reducible rfl) ?_)|(refine ObR.map zX (fun x hx=>?_))|(refine ObR.mk _ rfl ?_)))|((with_reducible refine ObEq.mk ?_);exact zE))
theorem bucket18 (G:Nat→AV) (l m:List Pr) (h:PC Try.prog G 80 [.sl 2 (l.map pA)] (.sl 2 (m.map pA))):PC Try.prog G 88 [.sl 2 (l.map pA)] (nV 3 ⟨#[]⟩ ⟨#[]⟩ 0 [] 0 m m.length 0):=by
  refine pc_ofV cop88 ?_
  repeat' ((conv=>whnf);first|(with_reducible refine SeqP.go ?_)|((with_reducible refine ObD.mk ?_ ?_);exact zD)|((with_reducible refine ObN.mk ?_ ?_);exact zN)|((with_reducible refine (?_:ObL _ _));(refine ObL.mk _ zM ?_))|((with_reducible refine (?_:ObU _ _));(refine ObU.mk _ zU ?_))|((with_reducible refine (?_:ObR _ _ _));(first|(refine ObR.mk _ (by first|assumption|with_reducible rfl) ?_)|(refine ObR.map zX (fun x hx=>?_))|(refine ObR.mk _ rfl ?_)))|((with_reducible refine ObC.f 80 ?_);(first|(with_reducible refine ObC.mk _ (h) ?_)|(refine ObC.mk _ (h) ?_)))|((with_reducible refine ObEq.mk ?_);(focus (first|rfl|assumption|exact (by simp [nV])))))
theorem branch20 (G:Nat→AV) (mp:Int) (kk:List Int) (s:Int) (hk:kk.length≤40):PC Try.prog G 61 [.v (.int .u32 mp),.sl 1 (kk.map iA),I s] (nV 2 ⟨#[]⟩ ⟨#[]⟩ mp kk 0 [] s 0):=by
  have h:=copy37 G kk hk
  refine pc_ofV cop61 ?_
  repeat' ((conv=>whnf);first|(with_reducible refine SeqP.go ?_)|((with_reducible refine ObD.mk ?_ ?_);exact zD)|((with_reducible refine ObN.mk ?_ ?_);exact zN)|((with_reducible refine (?_:ObU _ _));(refine ObU.mk _ zU ?_))|((with_reducible refine (?_:ObR _ _ _));(first|(refine ObR.mk _ (by first|assumption|with_reducible rfl) ?_)|(refine ObR.map zX (fun x hx=>?_))|(refine ObR.mk _ rfl ?_)))|((with_reducible refine ObC.f 77 ?_);(first|(with_reducible refine ObC.mk _ (h) ?_)|(refine ObC.mk _ (h) ?_)))|((with_reducible refine ObEq.mk ?_);exact zE))
theorem hMake (G:Nat→AV) (L:List Pr) (h40:L.length≤40) (hs:∀ p ∈ L,p.1.size≤40∧p.2.size≤40):(Pr7.mk L).length≤40∧PC Try.prog G 80 [.sl 2 (L.map pA)] (.sl 2 ((Pr7.mk L).map pA))∧True:=by
  have hL:Pr7.Okl L:=⟨by omega,fun p hp=>by have:=hs p hp;omega⟩
  have h1:=Pr7.mk_len L
  exact ⟨by omega,Pr7.make14 G (fun g n P A B R N a m b=>Pr7.sym44 _ g n P A B R N a m b) L h40 hL,trivial⟩
end Go.Proofs.Ytefkaglgekjlfaa.Sim
namespace Go.Proofs.Ytefkaglgekjlfaa.Sim
open Go.RowKit
set_option maxRecDepth 100000
theorem cnt43 (G:Nat→AV) (m:Nat) (hm:m < 4294967296):PC Try.prog G 64 [.v (.int .u32 (m:Int))] (I ((upI m 32).length:Nat)):=by
  have h:=pop53 G m hm
  have e:(Mk.all m).length=(upI m 32).length:=by simp [upI,Mk.all]
  rw [e] at h
  refine pc_ofV cop64 ?_
  repeat' ((conv=>whnf);first|(with_reducible refine SeqP.go ?_)|((with_reducible refine ObC.f 78 ?_);(first|(with_reducible refine ObC.mk _ (h) ?_)|(refine ObC.mk _ (h) ?_)))|((with_reducible refine ObEq.i ?_);exact zF))
theorem lenP {α:Type} {l:List α}:(0:Int) < (l.length:Nat)↔¬ l=[]:=by cases l<;>simp
theorem lenZ {α:Type} {l:List α}:((l.length:Nat):Int)=0↔l=[]:=by rw [← List.length_eq_zero_iff];omega
theorem slt_mk {l:List Pr}:Pr7.SLt l↔l=Pr7.mk l:=⟨fun h=>(Pr7.mk_of h).symm,fun h=>by rw [h];exact Pr7.mk_lt l⟩
set_option maxHeartbeats 4000000 in
theorem hasForm31 (G : Nat → AV) (kn : Int) (ke va : ByteArray) (mp : Nat) (kk : List Int) (mn : Int) (ls : List Pr) (sz bi : Int) (k1 : 1 ≤ kn) (k6 : kn ≤ 6) (hm : mp < 4294967296) (hke : ke.size ≤ 40) (hva : va.size ≤ 40) (hk : kk.length ≤ 40) (hl : ls.length ≤ 40) (hs : ∀ p ∈ ls, p.1.size ≤ 40 ∧ p.2.size ≤ 40) (r : Bool) (hr : r = true ↔ FormP kn ke va mp kk mn ls sz bi) :
    PC Try.prog G 76 [nV kn ke va (mp:Int) kk mn ls sz bi] (Bo r):=by
  have hkn:kn=1∨kn=6∨kn=2∨kn=3∨kn=4∨kn=5:=by omega
  have z0:ByteArray.size (ByteArray.mk #[])≤9223372036854775807:=by decide
  have l0:([]:List Int).length≤9223372036854775807:=by simp
  have l1:([]:List Pr).length≤9223372036854775807:=by simp
  rcases hkn with rfl|rfl|rfl|rfl|rfl|rfl
  · obtain ⟨q, hq⟩ : ∃ q, q = decide ((1 : Int) = 1 ∧ ke = ke ∧ va = va ∧ (mp : Int) = 0 ∧ kk = [] ∧ mn = 0 ∧ ls = [] ∧ sz = 1 ∧ bi = bi) := ⟨_, rfl⟩
    have h22:=same22 G 1 1 ke ke va va mp 0 kk [] mn 0 ls [] sz 1 bi bi (by omega) (by omega) (by omega) (by omega) (by omega) l0 (by omega) l1 q hq
    have hr':r=true↔¬ bi < 0∧q=true:=by rw [hr,hq];simp [FormP,BareP,lenP,lenZ];intros;constructor<;>(intros;simp_all)
    clear hr hq hs
    refine pc_ofV cop76 ?_
    repeat' ((conv=>whnf);first|(with_reducible refine SeqP.go ?_)|((with_reducible refine ObD.mk ?_ ?_);exact zD)|((with_reducible refine ObN.mk ?_ ?_);exact zN)|(with_reducible first|refine ObT.tt ?_|refine ObT.ff ?_)|((with_reducible refine ObB.yes ?_ ?_);exact zB)|(with_reducible refine ObB.mk (fun h=>?_) (fun h=>?_))|((with_reducible refine (?_:ObU _ _));(refine ObU.mk _ zU ?_))|((with_reducible refine (?_:ObR _ _ _));(first|(refine ObR.mk _ (by first|assumption|with_reducible rfl) ?_)|(refine ObR.map zX (fun x hx=>?_))|(refine ObR.mk _ rfl ?_)))|((with_reducible refine ObC.f 16 ?_);(first|(with_reducible refine ObC.mk _ ((leaf14 G _ _)) ?_)|(refine ObC.mk _ ((leaf14 G _ _)) ?_)))|((with_reducible refine ObC.f 90 ?_);(first|(with_reducible refine ObC.mk _ (h22) ?_)|(refine ObC.mk _ (h22) ?_)))|((with_reducible refine ObEq.mk ?_);(focus (first|rfl|assumption|exact (by cases r<;>cases q<;>first|(simp_all;done)|(simp_all;omega))))))
  · obtain ⟨q, hq⟩ : ∃ q, q = decide ((6 : Int) = 6 ∧ ke = ke ∧ va = va ∧ (mp : Int) = 0 ∧ kk = [] ∧ mn = 0 ∧ ls = [] ∧ sz = 1 ∧ bi = bi) := ⟨_, rfl⟩
    have h22:=same22 G 6 6 ke ke va va mp 0 kk [] mn 0 ls [] sz 1 bi bi (by omega) (by omega) (by omega) (by omega) (by omega) l0 (by omega) l1 q hq
    have hr':r=true↔¬ bi < 0∧q=true:=by rw [hr,hq];simp [FormP,BareP,lenP,lenZ];intros;constructor<;>(intros;simp_all)
    clear hr hq hs
    refine pc_ofV cop76 ?_
    repeat' ((conv=>whnf);first|(with_reducible refine SeqP.go ?_)|((with_reducible refine ObD.mk ?_ ?_);exact zD)|((with_reducible refine ObN.mk ?_ ?_);exact zN)|(with_reducible first|refine ObT.tt ?_|refine ObT.ff ?_)|((with_reducible refine ObB.yes ?_ ?_);exact zB)|((with_reducible refine ObB.no ?_ ?_);exact zC)|(with_reducible refine ObB.mk (fun h=>?_) (fun h=>?_))|((with_reducible refine (?_:ObU _ _));(refine ObU.mk _ zU ?_))|((with_reducible refine (?_:ObR _ _ _));(first|(refine ObR.mk _ (by first|assumption|with_reducible rfl) ?_)|(refine ObR.map zX (fun x hx=>?_))|(refine ObR.mk _ rfl ?_)))|((with_reducible refine ObC.f 86 ?_);(first|(with_reducible refine ObC.mk _ ((tomb15 G _ _)) ?_)|(refine ObC.mk _ ((tomb15 G _ _)) ?_)))|((with_reducible refine ObC.f 90 ?_);(first|(with_reducible refine ObC.mk _ (h22) ?_)|(refine ObC.mk _ (h22) ?_)))|((with_reducible refine ObEq.mk ?_);(focus (first|rfl|assumption|exact (by cases r<;>cases q<;>first|(simp_all;done)|(simp_all;omega))))))
  · obtain ⟨q, hq⟩ : ∃ q, q = decide ((2 : Int) = 2 ∧ ke = ByteArray.mk #[] ∧ va = ByteArray.mk #[] ∧ (mp : Int) = mp ∧ kk = kk ∧ mn = 0 ∧ ls = [] ∧ sz = sz ∧ bi = bi) := ⟨_, rfl⟩
    have h22:=same22 G 2 2 ke (ByteArray.mk #[]) va (ByteArray.mk #[]) mp mp kk kk mn 0 ls [] sz sz bi bi (by omega) z0 (by omega) z0 (by omega) (by omega) (by omega) l1 q hq
    have h43:=cnt43 G mp hm
    have h44:=has54 G kk (by omega) 0
    obtain ⟨q0,hq0⟩:∃ q0,q0=decide ((0:Int) ∈ kk):=⟨_,rfl⟩
    rw [← hq0] at h44
    have hr':r=true↔¬ bi < 0∧q0=false∧((kk.length:Nat):Int)=((upI mp 32).length:Nat)∧0≤sz∧q=true:=by rw [hr,hq,hq0];simp [FormP,BareP,lenP,lenZ];intros;constructor<;>(intros;simp_all)
    have hu:=upI_len mp 32
    clear hr hq hs hq0
    generalize (upI mp 32).length=c at *
    have hr2:((kk.length:Nat):Int)=(c:Nat)→¬ bi < 0→0≤sz→q0=false→r=q:=fun a b d e=>by cases r<;>cases q<;>simp_all
    have hr3:¬ (((kk.length:Nat):Int)=(c:Nat)∧¬ bi < 0∧0≤sz∧q0=false)→r=false:=fun a=>by cases r with|false=>rfl|true=>exact absurd ⟨(hr'.1 rfl).2.2.1,(hr'.1 rfl).1,(hr'.1 rfl).2.2.2.1,(hr'.1 rfl).2.1⟩ a
    clear hr'
    refine pc_ofV cop76 ?_
    repeat' ((conv=>whnf);first|(with_reducible refine SeqP.go ?_)|((with_reducible refine ObD.mk ?_ ?_);exact zD)|((with_reducible refine ObN.mk ?_ ?_);exact zN)|(with_reducible first|refine ObT.tt ?_|refine ObT.ff ?_|refine ObT.mk (fun h=>?_) (fun h=>?_))|((with_reducible refine ObB.yes ?_ ?_);exact zB)|((with_reducible refine ObB.no ?_ ?_);exact zC)|(with_reducible refine ObB.mk (fun h=>?_) (fun h=>?_))|((with_reducible refine (?_:ObL _ _));(refine ObL.mk _ zL ?_))|((with_reducible refine (?_:ObU _ _));(refine ObU.mk _ zU ?_))|((with_reducible refine (?_:ObR _ _ _));(first|(refine ObR.mk _ (by first|assumption|with_reducible rfl) ?_)|(refine ObR.map zX (fun x hx=>?_))|(refine ObR.mk _ rfl ?_)))|((with_reducible refine ObC.f 61 ?_);(first|(with_reducible refine ObC.mk _ ((branch20 G _ _ _ hk)) ?_)|(refine ObC.mk _ ((branch20 G _ _ _ hk)) ?_)))|((with_reducible refine ObC.f 64 ?_);(first|(with_reducible refine ObC.mk _ (h43) ?_)|(refine ObC.mk _ (h43) ?_)))|((with_reducible refine ObC.f 87 ?_);(first|(with_reducible refine ObC.mk _ (h44) ?_)|(refine ObC.mk _ (h44) ?_)))|((with_reducible refine ObC.f 90 ?_);(first|(with_reducible refine ObC.mk _ (h22) ?_)|(refine ObC.mk _ (h22) ?_)))|((with_reducible refine ObEq.mk ?_);(focus (first|rfl|assumption|exact (by first|(rw [hr2 (by assumption) (by omega) (by omega) (by assumption)];done)|(have hf:r=false:=hr3 (by rintro ⟨h1,h2,h3,h4⟩;first|omega|simp_all);rw [hf]))))))
  · obtain ⟨q, hq⟩ : ∃ q, q = decide ((3 : Int) = 3 ∧ ke = ByteArray.mk #[] ∧ va = ByteArray.mk #[] ∧ (mp : Int) = 0 ∧ kk = [] ∧ mn = 0 ∧ ls = Pr7.mk ls ∧ sz = ((Pr7.mk ls).length : Nat) ∧ bi = bi) := ⟨_, rfl⟩
    obtain ⟨m1,h34,h19⟩:=hMake G ls hl hs
    have h22:=same22 G 3 3 ke (ByteArray.mk #[]) va (ByteArray.mk #[]) mp 0 kk [] mn 0 ls (Pr7.mk ls) sz ((Pr7.mk ls).length:Nat) bi bi (by omega) z0 (by omega) z0 (by omega) l0 (by omega) (by omega) q hq
    have h18:=bucket18 G ls (Pr7.mk ls) h34
    have hr':r=true↔¬ bi < 0∧(2:Int)≤(ls.length:Nat)∧q=true:=by
      rw [hr,hq,decide_eq_true_iff]
      unfold FormP BareP
      rw [lenP,slt_mk]
      generalize Pr7.mk ls=M
      constructor
      · rintro ⟨a, h⟩
        rcases h with ⟨h,_⟩|⟨h,_⟩|⟨_,b,c,d,e,f,g,_⟩|⟨h,_⟩|⟨h,_⟩
        · omega
        · omega
        · exact ⟨a,b,rfl,(e rfl).1,(e rfl).2,(f rfl).1,Classical.not_not.1 (f rfl).2,g rfl,c,by rw [d,← c],rfl⟩
        · omega
        · omega
      · rintro ⟨a, b, _, c, d, e, f, g, i, j, _⟩
        exact ⟨a,.inr (.inr (.inl ⟨rfl,b,i,by rw [j,← i],fun _=>⟨c,d⟩,fun _=>⟨e,fun h=>h f⟩,fun _=>g,fun h=>by cases h⟩))⟩
    clear hr hq hs h34 h19
    refine pc_ofV cop76 ?_
    repeat' ((conv=>whnf);first|(with_reducible refine SeqP.go ?_)|((with_reducible refine ObD.mk ?_ ?_);exact zD)|((with_reducible refine ObN.mk ?_ ?_);exact zN)|(with_reducible first|refine ObT.tt ?_|refine ObT.ff ?_)|((with_reducible refine ObB.yes ?_ ?_);exact zB)|((with_reducible refine ObB.no ?_ ?_);exact zC)|(with_reducible refine ObB.mk (fun h=>?_) (fun h=>?_))|((with_reducible refine (?_:ObL _ _));(refine ObL.mk _ zL ?_))|((with_reducible refine (?_:ObU _ _));(refine ObU.mk _ zU ?_))|((with_reducible refine (?_:ObR _ _ _));(first|(refine ObR.mk _ (by first|assumption|with_reducible rfl) ?_)|(refine ObR.map zX (fun x hx=>?_))|(refine ObR.mk _ rfl ?_)))|((with_reducible refine ObC.f 88 ?_);(first|(with_reducible refine ObC.mk _ (h18) ?_)|(refine ObC.mk _ (h18) ?_)))|((with_reducible refine ObC.f 90 ?_);(first|(with_reducible refine ObC.mk _ (h22) ?_)|(refine ObC.mk _ (h22) ?_)))|((with_reducible refine ObEq.mk ?_);(focus (first|rfl|assumption|exact (by cases r<;>cases q<;>first|(simp_all;done)|(simp_all;omega))))))
  · obtain ⟨q, hq⟩ : ∃ q, q = decide ((4 : Int) = 4 ∧ ke = ke ∧ va = va ∧ (mp : Int) = 0 ∧ kk = kk ∧ mn = 0 ∧ ls = [] ∧ sz = sz ∧ bi = bi) := ⟨_, rfl⟩
    have h22:=same22 G 4 4 ke ke va va mp 0 kk kk mn 0 ls [] sz sz bi bi (by omega) (by omega) (by omega) (by omega) (by omega) (by omega) (by omega) l1 q hq
    have hr':r=true↔¬ bi < 0∧((kk.length:Nat):Int)=2∧1≤sz∧q=true:=by rw [hr,hq];simp [FormP,BareP,lenP,lenZ];intros;constructor<;>(intros;simp_all)
    clear hr hq hs
    refine pc_ofV cop76 ?_
    repeat' ((conv=>whnf);first|(with_reducible refine SeqP.go ?_)|((with_reducible refine ObD.mk ?_ ?_);exact zD)|((with_reducible refine ObN.mk ?_ ?_);exact zN)|(with_reducible first|refine ObT.tt ?_|refine ObT.ff ?_)|((with_reducible refine ObB.yes ?_ ?_);exact zB)|((with_reducible refine ObB.no ?_ ?_);exact zC)|(with_reducible refine ObB.mk (fun h=>?_) (fun h=>?_))|((with_reducible refine (?_:ObL _ _));(refine ObL.mk _ zL ?_))|((with_reducible refine (?_:ObU _ _));(refine ObU.mk _ zU ?_))|((with_reducible refine (?_:ObR _ _ _));(first|(refine ObR.mk _ (by first|assumption|with_reducible rfl) ?_)|(refine ObR.map zX (fun x hx=>?_))|(refine ObR.mk _ rfl ?_)))|((with_reducible refine ObC.f 90 ?_);(first|(with_reducible refine ObC.mk _ (h22) ?_)|(refine ObC.mk _ (h22) ?_)))|((with_reducible refine ObEq.mk ?_);(focus (first|rfl|assumption|exact (by cases r<;>cases q<;>first|(simp_all;done)|(simp_all;omega))))))
  · obtain ⟨q, hq⟩ : ∃ q, q = decide ((5 : Int) = 5 ∧ ke = ByteArray.mk #[] ∧ va = ByteArray.mk #[] ∧ (mp : Int) = 0 ∧ kk = [] ∧ mn = mn ∧ ls = [] ∧ sz = 0 ∧ bi = bi) := ⟨_, rfl⟩
    have h22:=same22 G 5 5 ke (ByteArray.mk #[]) va (ByteArray.mk #[]) mp 0 kk [] mn mn ls [] sz 0 bi bi (by omega) z0 (by omega) z0 (by omega) l0 (by omega) l1 q hq
    have hr':r=true↔¬ bi < 0∧¬ mn=0∧q=true:=by rw [hr,hq];simp [FormP,BareP,lenP,lenZ];intros;constructor<;>(intros;simp_all)
    clear hr hq hs
    refine pc_ofV cop76 ?_
    repeat' ((conv=>whnf);first|(with_reducible refine SeqP.go ?_)|((with_reducible refine ObD.mk ?_ ?_);exact zD)|((with_reducible refine ObN.mk ?_ ?_);exact zN)|(with_reducible first|refine ObT.tt ?_|refine ObT.ff ?_)|((with_reducible refine ObB.yes ?_ ?_);exact zB)|((with_reducible refine ObB.no ?_ ?_);exact zC)|(with_reducible refine ObB.mk (fun h=>?_) (fun h=>?_))|((with_reducible refine (?_:ObU _ _));(refine ObU.mk _ zU ?_))|((with_reducible refine (?_:ObR _ _ _));(first|(refine ObR.mk _ (by first|assumption|with_reducible rfl) ?_)|(refine ObR.map zX (fun x hx=>?_))|(refine ObR.mk _ rfl ?_)))|((with_reducible refine ObC.f 89 ?_);(first|(with_reducible refine ObC.mk _ ((inner17 G _)) ?_)|(refine ObC.mk _ ((inner17 G _)) ?_)))|((with_reducible refine ObC.f 90 ?_);(first|(with_reducible refine ObC.mk _ (h22) ?_)|(refine ObC.mk _ (h22) ?_)))|((with_reducible refine ObEq.mk ?_);(focus (first|rfl|assumption|exact (by cases r<;>cases q<;>first|(simp_all;done)|(simp_all;omega))))))
def mayE (kn:Int) (lo q:Bool):Int:=if kn < 1 then 11 else if 6 < kn then 11 else if lo=true then 6 else if q=true then 0 else 4
theorem may8 (G : Nat → AV) (kn : Int) (ke va : ByteArray) (mp : Nat) (kk : List Int) (mn : Int) (ls : List Pr) (sz bi : Int) (hm : mp < 4294967296) (hke : ke.size ≤ 40) (hva : va.size ≤ 40) (hk : kk.length ≤ 40) (hl : ls.length ≤ 40) (hs : ∀ p ∈ ls, p.1.size ≤ 40 ∧ p.2.size ≤ 40) (q : Bool) (hq : q = true ↔ FormP kn ke va mp kk mn ls sz bi) :
    PC Try.prog G 60 [nV kn ke va (mp:Int) kk mn ls sz bi] (I (mayE kn (lg (ke,va) || ls.any lg) q)):=by
  have h29:=isl29 G ke va
  have h30:=fun H=>any30 G ls (by omega) H
  have h31:=fun k1 k6=>hasForm31 G kn ke va mp kk mn ls sz bi k1 k6 hm hke hva hk hl hs q hq
  clear hq hs
  generalize lg (ke,va)=a at *
  generalize ls.any lg=b at *
  refine pc_ofV cop60 ?_
  unfold mayE
  by_cases h1:kn < 1
  · rw [if_pos h1]
    repeat' ((conv=>whnf);first|(with_reducible refine SeqP.go ?_)|((with_reducible refine ObD.mk ?_ ?_);exact zD)|((with_reducible refine ObN.mk ?_ ?_);exact zN)|(with_reducible refine ObT.tt ?_)|((with_reducible refine ObB.yes ?_ ?_);exact zB)|((with_reducible refine (?_:ObR _ _ _));(first|(refine ObR.mk _ (by first|assumption|with_reducible rfl) ?_)|(refine ObR.map zX (fun x hx=>?_))|(refine ObR.mk _ rfl ?_)))|((with_reducible refine ObEq.i ?_);exact zF))
  rw [if_neg h1]
  by_cases h6:6 < kn
  · rw [if_pos h6]
    repeat' ((conv=>whnf);first|(with_reducible refine SeqP.go ?_)|((with_reducible refine ObD.mk ?_ ?_);exact zD)|((with_reducible refine ObN.mk ?_ ?_);exact zN)|(with_reducible first|refine ObT.tt ?_|refine ObT.ff ?_)|((with_reducible refine ObB.yes ?_ ?_);exact zB)|((with_reducible refine ObB.no ?_ ?_);exact zC)|((with_reducible refine (?_:ObR _ _ _));(first|(refine ObR.mk _ (by first|assumption|with_reducible rfl) ?_)|(refine ObR.map zX (fun x hx=>?_))|(refine ObR.mk _ rfl ?_)))|((with_reducible refine ObEq.i ?_);exact zF))
  rw [if_neg h6]
  have h31:=h31 (by omega) (by omega)
  cases a<;>cases b<;>cases q
  all_goals repeat' ((conv=>whnf);first|(with_reducible refine SeqP.go ?_)|((with_reducible refine ObD.mk ?_ ?_);exact zD)|((with_reducible refine ObN.mk ?_ ?_);exact zN)|(with_reducible first|refine ObT.tt ?_|refine ObT.ff ?_)|((with_reducible refine ObB.no ?_ ?_);exact zC)|((with_reducible refine (?_:ObR _ _ _));(first|(refine ObR.mk _ (by first|assumption|with_reducible rfl) ?_)|(refine ObR.map zX (fun x hx=>?_))|(refine ObR.mk _ rfl ?_)))|((with_reducible refine ObC.f 74 ?_);(first|(with_reducible refine ObC.mk _ (h29) ?_)|(refine ObC.mk _ (h29) ?_)))|((with_reducible refine ObH.f 75 ?_);(first|(with_reducible refine ObH.mk _ _ ((h30 _)) ?_)|(refine ObH.mk _ _ ((h30 _)) ?_)))|((with_reducible refine ObC.f 76 ?_);(first|(with_reducible refine ObC.mk _ (h31) ?_)|(refine ObC.mk _ (h31) ?_)))|((with_reducible refine ObEq.mk ?_);exact zE))
theorem may9 (G : Nat → AV) (kn : Int) (ke va : ByteArray) (mp : Nat) (kk : List Int) (mn : Int) (ls : List Pr) (sz bi : Int) (hm : mp < 4294967296) (hk : kk.length ≤ 40) (hl : ls.length ≤ 40) (hs : ∀ p ∈ ls, p.1.size ≤ 40 ∧ p.2.size ≤ 40) (q : Bool) (hq : q = true ↔ FormP kn ke va mp kk mn ls sz bi) :
    PC Try.prog G 42 [nV kn ke va (mp:Int) kk mn ls sz bi] (I (mayE kn (lg (ke,va) || ls.any lg) q)):=by
  have h32:=long32 G kn ke va mp kk mn ls sz bi (by omega)
  have h33:=fun k1 k6=>form33 G kn ke va mp kk mn ls sz bi k1 k6 hm hk hl hs q hq
  clear hq hs
  generalize (lg (ke,va) || ls.any lg)=a at *
  refine pc_ofV cop42 ?_
  unfold mayE
  by_cases h1:kn < 1
  · rw [if_pos h1]
    repeat' ((conv=>whnf);first|(with_reducible refine SeqP.go ?_)|((with_reducible refine ObD.mk ?_ ?_);exact zD)|((with_reducible refine ObN.mk ?_ ?_);exact zN)|(with_reducible refine ObT.tt ?_)|((with_reducible refine ObB.yes ?_ ?_);exact zB)|((with_reducible refine (?_:ObR _ _ _));(first|(refine ObR.mk _ (by first|assumption|with_reducible rfl) ?_)|(refine ObR.map zX (fun x hx=>?_))|(refine ObR.mk _ rfl ?_)))|((with_reducible refine ObEq.i ?_);exact zF))
  rw [if_neg h1]
  by_cases h6:6 < kn
  · rw [if_pos h6]
    repeat' ((conv=>whnf);first|(with_reducible refine SeqP.go ?_)|((with_reducible refine ObD.mk ?_ ?_);exact zD)|((with_reducible refine ObN.mk ?_ ?_);exact zN)|(with_reducible first|refine ObT.tt ?_|refine ObT.ff ?_)|((with_reducible refine ObB.yes ?_ ?_);exact zB)|((with_reducible refine ObB.no ?_ ?_);exact zC)|((with_reducible refine (?_:ObR _ _ _));(first|(refine ObR.mk _ (by first|assumption|with_reducible rfl) ?_)|(refine ObR.map zX (fun x hx=>?_))|(refine ObR.mk _ rfl ?_)))|((with_reducible refine ObEq.i ?_);exact zF))
  rw [if_neg h6]
  have h33:=h33 (by omega) (by omega)
  cases a<;>cases q
  all_goals repeat' ((conv=>whnf);first|(with_reducible refine SeqP.go ?_)|((with_reducible refine ObD.mk ?_ ?_);exact zD)|((with_reducible refine ObN.mk ?_ ?_);exact zN)|(with_reducible first|refine ObT.tt ?_|refine ObT.ff ?_)|((with_reducible refine ObB.no ?_ ?_);exact zC)|((with_reducible refine (?_:ObR _ _ _));(first|(refine ObR.mk _ (by first|assumption|with_reducible rfl) ?_)|(refine ObR.map zX (fun x hx=>?_))|(refine ObR.mk _ rfl ?_)))|((with_reducible refine ObC.f 58 ?_);(first|(with_reducible refine ObC.mk _ (h32) ?_)|(refine ObC.mk _ (h32) ?_)))|((with_reducible refine ObC.f 59 ?_);(first|(with_reducible refine ObC.mk _ (h33) ?_)|(refine ObC.mk _ (h33) ?_)))|((with_reducible refine ObEq.mk ?_);exact zE))
end Go.Proofs.Ytefkaglgekjlfaa.Sim
namespace Go.Proofs.Ytefkaglgekjlfaa.Sim
set_option maxRecDepth 100000
abbrev q0z6:AI:=(AI.mk (some 6) (AOp.fad 4 (AX.t 1)) none)
abbrev q1z6:AI:=(AI.mk (some 7) (AOp.load false 1 (AX.t 6)) none)
abbrev q2z6:AI:=(AI.mk (some 8) (AOp.callh 77 [(AX.t 7)]) none)
abbrev q3z6:AI:=(AI.mk (some 9) (AOp.fad 5 (AX.t 1)) none)
abbrev q4z6:AI:=(AI.mk (some 10) (AOp.load false 1 (AX.t 9)) none)
abbrev q5z6:AI:=(AI.mk (some 11) (AOp.bsl 27 1 [(AX.t 10)]) none)
abbrev q6z6:AI:=(AI.mk (some 12) (AOp.app 27 1 8 (AX.t 8) (AX.t 11)) none)
abbrev q7z6:AI:=(AI.mk (some 13) (AOp.len (AX.t 12)) none)
abbrev q8z6:AI:=(AI.mk (some 14) (AOp.mv (AX.c (AV.v (Value.int IntKind.i64 0)))) none)
def C70:AF:=(AF.mk 26 [(2,none)] (AC.seq (AC.region [(AI.mk (some 1) (AOp.new 41 9 (AX.t 0)) none),(AI.mk (some 2) (AOp.mv (AX.c (AV.nl 1))) none)]) (AC.seq (AC.region [(AI.mk (some 3) (AOp.mv (AX.c (AV.nl 1))) none)]) (AC.seq (AC.seq (AC.drawx [[q0z6,q1z6,q2z6,q3z6,q4z6,q5z6,q6z6,q7z6,q8z6],[q0z6,q1z6,q3z6,q2z6,q4z6,q5z6,q6z6,q7z6,q8z6],[q0z6,q1z6,q3z6,q4z6,q2z6,q5z6,q6z6,q7z6,q8z6],[q0z6,q1z6,q3z6,q4z6,q5z6,q2z6,q6z6,q7z6,q8z6]]) (AC.block 0 (AC.loop (AC.seq (AC.region [(AI.mk (some 15) (AOp.bin BinOp.lss 3 false (Operand.tmp 14) (Operand.tmp 13) (AX.t 14) (AX.t 13)) none)]) (AC.seq (AC.cond (AX.t 15) AC.skip (AC.exit 0)) (AC.seq (AC.block 1 (AC.seq (AC.region [(AI.mk (some 16) (AOp.iad 1 (AX.t 12) (AX.t 14)) none),(AI.mk (some 17) (AOp.load false 1 (AX.t 16)) none),(AI.mk (some 5) (AOp.mv (AX.t 17)) none)]) (AC.seq (AC.region [(AI.mk (some 18) (AOp.mv (AX.t 5)) none),(AI.mk (some 19) (AOp.bin BinOp.neq 27 false (Operand.tmp 18) (Operand.const (Value.int IntKind.i64 0)) (AX.t 18) (AX.c (AV.v (Value.int IntKind.i64 0)))) none)]) (AC.cond (AX.t 19) (AC.region [(AI.mk (some 20) (AOp.mv (AX.t 3)) none),(AI.mk (some 21) (AOp.mv (AX.t 5)) none),(AI.mk (some 22) (AOp.bsl 27 1 [(AX.t 21)]) none),(AI.mk (some 23) (AOp.app 27 1 8 (AX.t 20) (AX.t 22)) none),(AI.mk (some 3) (AOp.mv (AX.t 23)) none)]) AC.skip)))) (AC.region [(AI.mk (some 24) (AOp.bin BinOp.add 3 false (Operand.tmp 14) (Operand.const (Value.int IntKind.i64 1)) (AX.t 14) (AX.c (AV.v (Value.int IntKind.i64 1)))) none),(AI.mk (some 14) (AOp.mv (AX.t 24)) none)]))))))) (AC.seq (AC.region [(AI.mk (some 25) (AOp.mv (AX.t 3)) none),(AI.mk (some 2) (AOp.mv (AX.t 25)) none)]) AC.ret)))))
theorem dop70:copF Try.prog [11,12,14,15,75,77,85,91,92,98,99,100,101,102] 70=some C70:=by kernel_rfl
end Go.Proofs.Ytefkaglgekjlfaa.Sim
namespace Go.Proofs.Ytefkaglgekjlfaa.Sim
open Go.RowKit
set_option maxRecDepth 100000
structure Nd where
  kn:Int
  ke:ByteArray
  va:ByteArray
  mp:Nat
  kk:List Int
  mn:Int
  ls:List Pr
  sz:Int
  bi:Int
abbrev nA (x:Nd):AV:=nV x.kn x.ke x.va (x.mp:Int) x.kk x.mn x.ls x.sz x.bi
structure Nd.Ok (x:Nd):Prop where
  mp:x.mp < 4294967296
  ke:x.ke.size≤40
  va:x.va.size≤40
  kk:x.kk.length≤40
  ls:x.ls.length≤40
  sz:∀ p ∈ x.ls,p.1.size≤40∧p.2.size≤40
  mn:i64 x.mn
  ks:∀ r ∈ x.kk,i64 r
theorem nA_at {l:List Nd} {k:Nat} (h:k < l.length):(l.map nA)[k]? = some (.agg [I l[k].kn,S l[k].ke,S l[k].va,.v (.int .u32 (l[k].mp:Int)),.sl 1 (l[k].kk.map iA),I l[k].mn,.sl 2 (l[k].ls.map pA),I l[k].sz,I l[k].bi]):=by simp [h]
noncomputable def mayV (x:Nd):Int:=mayE x.kn (lg (x.ke,x.va) || x.ls.any lg) (@decide (FormP x.kn x.ke x.va x.mp x.kk x.mn x.ls x.sz x.bi) (Classical.propDecidable _))
def rfN (x:Nd):List Int:=(x.kk++[x.mn]).filter fun r=>decide (r ≠ 0)
section
variable (G:Nat→AV)
theorem may29 (x:Nd) (h:x.Ok):PC Try.prog G 60 [nA x] (I (mayV x)):=may8 G x.kn x.ke x.va x.mp x.kk x.mn x.ls x.sz x.bi h.mp h.ke h.va h.kk h.ls h.sz _ (by simp)
theorem may33 (x:Nd) (h:x.Ok):PC Try.prog G 42 [nA x] (I (mayV x)):=may9 G x.kn x.ke x.va x.mp x.kk x.mn x.ls x.sz x.bi h.mp h.kk h.ls h.sz _ (by simp)
def rS (m:Nat) (a:List Int):AV:=match a with|[]=>.nl 1|x::t=>.ol m 0 (t.length+1)
def rH (a:List Int):Hp:=match a with|[]=>[]|x::t=>[kR 0 (x::t)]
theorem flt_yes {l:List Int} {i:Nat} (h:i < l.length) (h0:l[i] ≠ 0):(l.take (i+1)).filter (fun r=>decide (r ≠ 0))=(l.take i).filter (fun r=>decide (r ≠ 0))++[l[i]]:=by
  rw [List.take_succ_eq_append_getElem h,List.filter_append];simp [h0]
theorem flt_no {l:List Int} {i:Nat} (h:i < l.length) (h0:l[i]=0):(l.take (i+1)).filter (fun r=>decide (r ≠ 0))=(l.take i).filter (fun r=>decide (r ≠ 0)):=by
  rw [List.take_succ_eq_append_getElem h,List.filter_append];simp [h0]
set_option maxHeartbeats 2000000 in
theorem refs30 (x:Nd) (h:x.Ok):PC Try.prog G 70 [nA x] (.sl 1 ((rfN x).map iA)):=by
  obtain ⟨kn,ke,va,mp,kk,mn,ls,sz,bi⟩:=x
  have hkl:=h.kk
  clear h
  dsimp only [rfN] at hkl ⊢
  have hr0:=nr_i kk
  obtain ⟨K,hK⟩:∃ K,K=kk++[mn]:=⟨_,rfl⟩
  rw [← hK]
  have hKl:K.length≤41:=by rw [hK];simp;omega
  refine pc_ofV dop70 ?_
  repeat' ((conv=>whnf);first|((with_reducible refine ObD.mk ?_ ?_);exact zD))
  conv=>whnf
  refine SeqP.go ?_
  skip
  conv=>whnf
  refine SeqP.go ?_
  refine V_seq (V_cut (α:=Unit) (fun _=>True) (fun _=>[(6,none),(0,none),(0,none),(0,none),(0,none),(0,none),(0,some (.ol 1 0 K.length)),(0,some (I K.length)),(0,some (I (0:Nat)))]) (fun _=>[⟨41,9,[nV kn ke va mp kk mn ls sz bi],0,0⟩,kR 0 K]) ?_ ?_)
  · intro Q hQ
    have hQ1:=fun s' H' (h:s'.getD 12 undefA = .ol 1 1 K.length) hf=>hQ s' H' () trivial hf
    have hrK:=nr_i K
    rcases kk with _|⟨k0,kt⟩
    · have h1 := cpyB0 G
      have hlm:[I mn].length=K.length:=by rw [hK];rfl
      have hKm:K.map iA=[I mn]:=by rw [hK];rfl
      repeat' ((conv=>whnf);first|(with_reducible first|refine ObAnd.mk ?_ ?_|refine ObDx.each ?_)|((with_reducible refine ObD.mk ?_ ?_);exact zD)|((with_reducible refine ObN.mk ?_ ?_);exact zN)|((with_reducible refine (?_:ObL _ _));(refine ObL.mk _ (by first|exact (List.length_map _)|exact hlm|assumption|exact (List.length_map _).trans (by assumption)|exact List.length_map _|rfl) ?_))|((with_reducible refine (?_:ObU _ _));(refine ObU.mk _ zU ?_))|((with_reducible refine (?_:ObR _ _ _));(first|(refine ObR.mk _ (by first|assumption|with_reducible rfl) ?_)|(refine ObR.map zX (fun x hx=>?_))|(refine ObR.mk _ rfl ?_)))|((with_reducible refine ObH.f 77 ?_);refine ObH.frn _ (by simp only [List.length_cons,List.length_nil,Nat.reduceAdd];rfl) [] (h1) (by simp) rfl (by simp) ?_)|((with_reducible refine ObW.cons ?_ ?_);(focus (first|assumption|(simp;done))))|((with_reducible refine ObAs.mk ?_ ?_);(focus (first|rfl|(simp [rnB,rnC,rnL];done))))|((with_reducible refine (?_:ObRs _ _ _));(refine ObRs.mk _ rfl ?_)))
      all_goals conv=>whnf
      all_goals refine hQ _ _ () trivial (Fg.vw [(0,0,0),(0,2,0)] ?_ ?_ (by simp) ?_)
      all_goals repeat' ((conv=>whnf);first|((with_reducible refine ObN.mk ?_ ?_);exact zN)|((with_reducible refine ObRn.mk ?_ ?_);(focus (first|rfl|(simp [rnB,rnC,rnL];done))))|((with_reducible refine ObRow.same ?_ ?_ ?_);exact zE;(focus (first|rfl|assumption|(simp;done))))|((with_reducible refine ObEqs.mk ?_ ?_);rfl)|exact True.intro)
    · have h1 := cpyB G (k0 :: kt) (by omega) (by simp)
      have hkl':kt.length+1≤40:=hkl
      have us:((k0::kt).map iA).take (kt.length+1)++[.v (.int .i64 mn)]=K.map iA:=by rw [hK];exact i_snoc (l:=k0::kt)
      have hlm:((k0::kt).length+[I mn].length)=K.length:=by rw [hK];simp
      repeat' ((conv=>whnf);first|(with_reducible first|refine ObAnd.mk ?_ ?_|refine ObDx.each ?_)|((with_reducible refine ObD.mk ?_ ?_);exact zD)|((with_reducible refine ObN.mk ?_ ?_);exact zN)|((with_reducible refine (?_:ObL _ _));(refine ObL.mk _ (by first|exact (List.length_map _)|exact hlm|assumption|exact (List.length_map _).trans (by assumption)|exact List.length_map _|rfl) ?_))|((with_reducible refine (?_:ObU _ _));(refine ObU.mk _ (by first|exact us|assumption|((conv=>lhs;simp only [List.set_cons_zero,List.set_cons_succ,List.take_succ_cons,List.take_zero,List.drop_succ_cons,List.drop_zero,List.nil_append,List.cons_append,List.append_nil,List.take_nil,List.drop_nil]);try rfl)|rfl) ?_))|((with_reducible refine (?_:ObR _ _ _));(first|(refine ObR.mk _ (by first|assumption|with_reducible rfl) ?_)|(refine ObR.map zX (fun x hx=>?_))|(refine ObR.mk _ rfl ?_)))|((with_reducible refine ObH.f 77 ?_);refine ObH.frn _ (by simp only [List.length_cons,List.length_nil,Nat.reduceAdd];rfl) [] (h1) (by simp) rfl (by simp) ?_)|((with_reducible refine ObAs.mk ?_ ?_);(focus (first|rfl|(simp [rnB,rnC,rnL];done))))|((with_reducible refine (?_:ObRs _ _ _));(refine ObRs.mk _ rfl ?_))|((with_reducible refine ObBk.same ?_ ?_);(focus (first|rfl|assumption|(simp;done)))))
      all_goals conv=>whnf
      all_goals first|refine hQ1 _ _ rfl (Fg.vw [(0,0,0),(0,1,1)] ?_ ?_ (by simp) ?_)|refine hQ _ _ () trivial (Fg.vw [(0,0,0),(0,2,1)] ?_ ?_ (by simp) ?_)
      all_goals repeat' ((conv=>whnf);first|((with_reducible refine ObN.mk ?_ ?_);exact zN)|((with_reducible refine ObRn.mk ?_ ?_);(focus (first|rfl|(simp [rnB,rnC,rnL];done))))|((with_reducible refine ObRow.same ?_ ?_ ?_);exact zE;(focus (first|rfl|assumption|(simp;done))))|((with_reducible refine ObEqs.mk ?_ ?_);rfl)|exact True.intro)
  · rintro ⟨⟩ -
    skip
    conv=>whnf
    refine LoopP.go (α:=Nat × List Int) (fun p=>p.1≤K.length∧p.2=(K.take p.1).filter (fun r=>decide (r ≠ 0))) (fun p=>K.length - p.1) (fun p=>[(3,some (rS 2 p.2)),(1,none),(8,some (I p.1)),(0,none),(0,none),(0,none),(0,none),(0,none),(0,none),(0,none),(0,none),(0,none),(0,none)]) (fun p=>[⟨41,9,[nV kn ke va mp kk mn ls sz bi],0,0⟩,kR 0 K]++rH p.2) (0,[]) ⟨Nat.zero_le _,rfl⟩ (Fg.go ?_ rfl) ?_
    · repeat' ((conv=>whnf);first|((with_reducible refine ObEqs.mk ?_ ?_);rfl)|((with_reducible refine ObEq1.mk ?_ ?_);exact zE)|exact True.intro)
    rintro ⟨i,l⟩ ⟨hi,hl⟩
    dsimp only at hi hl ⊢
    have hll:l.length≤i:=by
      have:=List.length_filter_le (fun r:Int=>decide (r ≠ 0)) (K.take i)
      rw [← hl,List.length_take] at this;omega
    have hrK:=nr_i K
    by_cases hiK:i < K.length
    · have hq := iA_at' hiK
      have f1:=flt_yes hiK
      have f2:=flt_no hiK
      generalize K[i]=x at *
      by_cases hx:x=0
      · rcases l with _ | ⟨l0, lt⟩
        · repeat' ((conv=>whnf);first|(with_reducible refine SeqP.go ?_)|((with_reducible refine ObN.mk ?_ ?_);exact zN)|(with_reducible first|refine ObT.tt ?_|refine ObT.ff ?_)|((with_reducible refine ObB.yes ?_ ?_);exact zB)|((with_reducible refine ObI.nl ?_ ?_);omega)|((with_reducible refine ObX.mk _ rfl ?_ ?_);exact zX)|((with_reducible refine (?_:ObR _ _ _));(first|(refine ObR.mk _ (by first|assumption|with_reducible rfl) ?_)|(refine ObR.map zX (fun x hx=>?_))|(refine ObR.mk _ rfl ?_))))
          conv=>whnf
          refine Again.mk (i+1,[]) ⟨by dsimp only;omega,by dsimp only;rw [f2 hx,← hl]⟩ ?_ (Fg.vw [(0,0,0),(0,1,0)] ?_ ?_ (by simp) ?_)
          · dsimp only;omega
          all_goals repeat' ((conv=>whnf);first|((with_reducible refine ObRn.mk ?_ ?_);(focus (simp [rnB,rnC,rS];done)))|((with_reducible refine ObN.mk ?_ ?_);exact zN)|((with_reducible refine ObRow.same ?_ ?_ ?_);exact zE;(focus (first|rfl|assumption|(simp;done))))|((with_reducible refine ObEqs.mk ?_ ?_);rfl)|exact True.intro)
        · have r1 := nr_i (l0 :: lt)
          repeat' ((conv=>whnf);first|(with_reducible refine SeqP.go ?_)|((with_reducible refine ObN.mk ?_ ?_);exact zN)|(with_reducible first|refine ObT.tt ?_|refine ObT.ff ?_)|((with_reducible refine ObB.yes ?_ ?_);exact zB)|((with_reducible refine ObI.nl ?_ ?_);omega)|((with_reducible refine ObX.mk _ rfl ?_ ?_);exact zX)|((with_reducible refine (?_:ObR _ _ _));(first|(refine ObR.mk _ (by first|assumption|with_reducible rfl) ?_)|(refine ObR.map zX (fun x hx=>?_))|(refine ObR.mk _ rfl ?_))))
          conv=>whnf
          refine Again.mk (i+1,l0::lt) ⟨by dsimp only;omega,by dsimp only;rw [f2 hx,← hl]⟩ ?_ (Fg.vw [(0,0,0),(0,1,0),(0,2,0)] ?_ ?_ (by simp) ?_)
          · dsimp only;omega
          all_goals repeat' ((conv=>whnf);first|((with_reducible refine ObRn.mk ?_ ?_);(focus (simp [rnB,rnC,rS];done)))|((with_reducible refine ObN.mk ?_ ?_);exact zN)|((with_reducible refine ObRow.same ?_ ?_ ?_);exact zE;(focus (first|rfl|assumption|(simp;done))))|((with_reducible refine ObEqs.mk ?_ ?_);rfl)|exact True.intro)
      · rcases l with _ | ⟨l0, lt⟩
        · have r1 := nr_i [x]
          repeat' ((conv=>whnf);first|(with_reducible refine SeqP.go ?_)|((with_reducible refine ObD.mk ?_ ?_);exact zD)|((with_reducible refine ObN.mk ?_ ?_);exact zN)|(with_reducible refine ObT.tt ?_)|((with_reducible refine ObB.yes ?_ ?_);exact zB)|((with_reducible refine ObB.no ?_ ?_);exact zC)|((with_reducible refine ObI.nl ?_ ?_);omega)|((with_reducible refine ObX.mk _ rfl ?_ ?_);exact zX)|((with_reducible refine (?_:ObL _ _));(refine ObL.mk _ zL ?_))|((with_reducible refine (?_:ObU _ _));(refine ObU.mk _ zU ?_))|((with_reducible refine (?_:ObR _ _ _));(first|(refine ObR.mk _ (by first|assumption|with_reducible rfl) ?_)|(refine ObR.map zX (fun x hx=>?_))|(refine ObR.mk _ rfl ?_)))|((with_reducible refine ObW.cons ?_ ?_);(focus (first|assumption|(simp;done)))))
          conv=>whnf
          refine Again.mk (i+1,[x]) ⟨by dsimp only;omega,by dsimp only;rw [f1 hx,← hl];rfl⟩ ?_ (Fg.vw [(0,0,0),(0,1,0),(0,3,0)] ?_ ?_ (by simp) ?_)
          · dsimp only;omega
          all_goals repeat' ((conv=>whnf);first|((with_reducible refine ObRn.mk ?_ ?_);(focus (simp [rnB,rnC,rS];done)))|((with_reducible refine ObN.mk ?_ ?_);exact zN)|((with_reducible refine ObRow.same ?_ ?_ ?_);exact zE;(focus (first|rfl|assumption|(simp;done))))|((with_reducible refine ObEqs.mk ?_ ?_);rfl)|exact True.intro)
        · have hll' : lt.length + 1 ≤ i := hll
          have r1:=nr_i ((l0::lt)++[x])
          have us:((l0::lt).map iA).take (lt.length+1)++[.v (.int .i64 x)]=((l0::lt)++[x]).map iA:=i_snoc (l:=l0::lt)
          repeat' ((conv=>whnf);first|(with_reducible refine SeqP.go ?_)|((with_reducible refine ObD.mk ?_ ?_);exact zD)|((with_reducible refine ObN.mk ?_ ?_);exact zN)|(with_reducible refine ObT.tt ?_)|((with_reducible refine ObB.yes ?_ ?_);exact zB)|((with_reducible refine ObB.no ?_ ?_);exact zC)|((with_reducible refine ObI.nl ?_ ?_);omega)|((with_reducible refine ObX.mk _ rfl ?_ ?_);exact zX)|((with_reducible refine (?_:ObL _ _));(refine ObL.mk _ zL ?_))|((with_reducible refine (?_:ObU _ _));(refine ObU.mk _ (by first|exact us|assumption|((conv=>lhs;simp only [List.set_cons_zero,List.set_cons_succ,List.take_succ_cons,List.take_zero,List.drop_succ_cons,List.drop_zero,List.nil_append,List.cons_append,List.append_nil,List.take_nil,List.drop_nil]);try rfl)|rfl) ?_))|((with_reducible refine (?_:ObR _ _ _));(first|(refine ObR.mk _ (by first|assumption|with_reducible rfl) ?_)|(refine ObR.map zX (fun x hx=>?_))|(refine ObR.mk _ rfl ?_))))
          conv=>whnf
          refine Again.mk (i+1,(l0::lt)++[x]) ⟨by dsimp only;omega,by dsimp only;rw [f1 hx,← hl]⟩ ?_ (Fg.vw [(0,0,0),(0,1,0),(0,2,1)] ?_ ?_ (by simp) ?_)
          · dsimp only;omega
          all_goals repeat' ((conv=>whnf);first|((with_reducible refine ObRn.mk ?_ ?_);(focus (simp [rnB,rnC,rS];done)))|((with_reducible refine ObN.mk ?_ ?_);exact zN)|((with_reducible refine ObRow.same ?_ ?_ ?_);exact zE;(focus (first|rfl|assumption|(simp;done))))|((with_reducible refine ObEqs.mk ?_ ?_);rfl)|exact True.intro)
    · obtain rfl : i = K.length := by omega
      rw [List.take_length] at hl
      rw [← hl]
      rcases l with _|⟨l0,lt⟩
      · repeat' ((conv=>whnf);first|(with_reducible refine SeqP.go ?_)|((with_reducible refine ObN.mk ?_ ?_);exact zN)|(with_reducible refine ObT.ff ?_)|((with_reducible refine ObB.no ?_ ?_);exact zC)|((with_reducible refine ObEq.mk ?_);exact zE))
      · have la : ((l0 :: lt).map iA).take (lt.length + 1) = (l0 :: lt).map iA := i_all (l := l0 :: lt)
        have lp:=p_i (l0::lt)
        repeat' ((conv=>whnf);first|(with_reducible refine SeqP.go ?_)|((with_reducible refine ObN.mk ?_ ?_);exact zN)|(with_reducible refine ObT.ff ?_)|((with_reducible refine ObB.no ?_ ?_);exact zC)|((with_reducible refine (?_:ObU _ _));(refine ObU.mk _ (by first|exact la|assumption|((conv=>lhs;simp only [List.set_cons_zero,List.set_cons_succ,List.take_succ_cons,List.take_zero,List.drop_succ_cons,List.drop_zero,List.nil_append,List.cons_append,List.append_nil,List.take_nil,List.drop_nil]);try rfl)|rfl) ?_))|((with_reducible refine ObEq.mk ?_);exact zE))
end
end Go.Proofs.Ytefkaglgekjlfaa.Sim
namespace Go.Proofs.Ytefkaglgekjlfaa.Sim
open Go.RowKit
set_option maxRecDepth 100000
set_option linter.unusedSectionVars false
abbrev LS:=Int × Int × ByteArray × Bool
abbrev fS (s:LS) (b:Int) (k:ByteArray):OB:=fO s.1 s.2.1 b k s.2.2.1 s.2.2.2
structure LK (G:Nat→AV) (h:List Nd) (r:Int) (k:ByteArray) (b:Int) (st:Nat→LS) (N:Nat):Prop where
  z:st 0=(r,0,⟨#[]⟩,false)
  e:(st N).1=0
  l:N≤1000
  a:∀ n,n < N→(st n).2.2=(⟨#[]⟩,false)
  i:∀ n,n < N→∃ j:Nat,(st n).1=(j:Int)+1∧∃ hj:j < h.length,HC Try.prog G 15 [.oa 0 0 0 0,nA h[j]] [fS (st n) b k] (.tup []) [fS (st (n+1)) b k] ∧
    PC Try.prog G 25 [nA h[j],S k] (.tup [S (st (n+1)).2.2.1,Bo (st (n+1)).2.2.2])∧PC Try.prog G 26 [nA h[j],S k,I (st n).2.1,I b] (.tup [I (st (n+1)).1,I (st (n+1)).2.1])
theorem nA_ix {h:List Nd} {w:Int} {j:Nat} (hj:j < h.length) (e:w=(j:Int)+1):(h.map nA)[(w - 1).toNat]? = some (.agg [I h[j].kn,S h[j].ke,S h[j].va,.v (.int .u32 (h[j].mp:Int)),.sl 1 (h[j].kk.map iA),I h[j].mn,.sl 2 (h[j].ls.map pA),I h[j].sz,I h[j].bi]):=by
  rw [show (w - 1).toNat=j by omega];exact nA_at hj
section
variable (G:Nat→AV) (h:List Nd) (hl:h.length≤1000) (r:Int) (k:ByteArray) (b:Int)
include hl
variable {st:Nat→LS} {N:Nat} (lk:LK G h r k b st N)
include lk
set_option maxHeartbeats 2000000 in
theorem run8 (m:Int) (hc:PC Try.prog G 24 [.sl 9 (h.map nA),I r] (.tup [I m,I 0])):PC Try.prog G 8 [.sl 9 (h.map nA),I r,S k,I b] (.tup [S (st N).2.2.1,Bo (st N).2.2.2,I N]):=by
  have hN:=lk.l
  have hz:=lk.z
  have h11:=new11 G r k b
  have h12:=fun w lv v q=>want12 G w lv b k v q []
  refine pc_ofV cop8 ?_
  repeat' ((conv=>whnf);first|(with_reducible refine SeqP.go ?_)|((with_reducible refine ObN.mk ?_ ?_);exact zN)|(with_reducible refine ObT.ff ?_)|((with_reducible refine ObB.yes ?_ ?_);exact zB)|((with_reducible refine ObC.f 24 ?_);(first|(with_reducible refine ObC.mk _ (hc) ?_)|(refine ObC.mk _ (hc) ?_)))|((with_reducible refine ObH.f 11 ?_);(first|(with_reducible refine ObH.mk _ _ (h11) ?_)|(refine ObH.mk _ _ (h11) ?_)))|((with_reducible refine ObH.f 12 ?_);(first|(with_reducible refine ObH.mk _ _ ((h12 _ _ _ _)) ?_)|(refine ObH.mk _ _ ((h12 _ _ _ _)) ?_))))
  conv=>whnf
  refine LoopP.go (α:=Nat) (fun n=>n≤N) (fun n=>N - n) (fun n=>[(14,some (I n)),(0,some (I (st n).1)),(16,none),(0,none),(0,none),(0,none),(0,none),(0,none),(0,none),(0,none),(0,none),(0,none),(0,none),(0,none),(0,none)]) (fun n=>[fS (st n) b k]) 0 (Nat.zero_le _) (Fg.go ?_ (by rw [hz])) ?_
  · rw [hz];repeat' ((conv=>whnf);first|((with_reducible refine ObEqs.mk ?_ ?_);rfl)|((with_reducible refine ObEq1.i ?_ ?_);exact zF)|exact True.intro)
  rintro n hn
  by_cases hlt:n < N
  · obtain ⟨j, e1, hj, f15, f25, f26⟩ := lk.i n hlt
    have hat:=nA_ix hj e1
    have e2:(st n).1 - 1=(j:Int):=by omega
    have e3:(st n).1 ≠ 0:=by omega
    repeat' ((conv=>whnf);first|(with_reducible refine SeqP.go ?_)|((with_reducible refine ObD.mk ?_ ?_);(focus (first|rfl|(simp [e2,e3];done))))|((with_reducible refine ObN.mk ?_ ?_);(focus (first|rfl|assumption|omega|(simp only [List.length_map,List.length_append,List.length_cons,List.length_nil,e2,e3];omega)|(simp [e2,e3];done)|(simp [e2,e3];omega))))|(with_reducible refine ObT.tt ?_)|((with_reducible refine ObB.no ?_ ?_);exact zC)|((with_reducible refine ObI.nl ?_ ?_);omega)|((with_reducible refine ObI.mk _ rfl ?_ ?_ ?_);omega;omega)|((with_reducible refine ObX.int ?_ ?_ ?_);(focus (first|omega|assumption|(simp only [List.length_map,List.length_append,List.length_cons,List.length_nil,List.length_take,List.length_drop,List.length_set,List.length_replicate,e2,e3];omega)));(focus (first|omega|assumption|(simp only [List.length_map,List.length_append,List.length_cons,List.length_nil,List.length_take,List.length_drop,List.length_set,List.length_replicate,e2,e3];omega))))|((with_reducible refine (?_:ObR _ _ _));(first|(refine ObR.mk _ (by assumption) ?_)|(refine ObR.mk _ (by exact hat) ?_)|(refine ObR.mk _ (by with_reducible rfl) ?_)|(refine ObR.map (by (first|omega|assumption|(simp only [List.length_map,List.length_append,List.length_cons,List.length_nil,List.length_take,List.length_drop,List.length_set,List.length_replicate,e2,e3];omega))) (fun x hx=>?_))|(refine ObR.mk _ rfl ?_)))|((with_reducible refine ObH.f 15 ?_);(first|(with_reducible refine ObH.mk _ _ (f15) ?_)|(refine ObH.mk _ _ (f15) ?_)))|((with_reducible refine ObH.f 12 ?_);(first|(with_reducible refine ObH.mk _ _ ((h12 _ _ _ _)) ?_)|(refine ObH.mk _ _ ((h12 _ _ _ _)) ?_))))
    conv=>whnf
    refine Again.mk (n+1) ?_ ?_ (Fg.go ?_ rfl)
    · omega
    · omega
    repeat' ((conv=>whnf);first|((with_reducible refine ObEqs.mk ?_ ?_);rfl)|((with_reducible refine ObEq1.i ?_ ?_);exact zF)|exact True.intro)
  · obtain rfl : n = N := by omega
    have e3:=lk.e
    have h14:=fun w lv v q=>ans14 G w lv b k v q []
    repeat' ((conv=>whnf);first|(with_reducible refine SeqP.go ?_)|((with_reducible refine ObN.mk ?_ ?_);(focus (first|rfl|assumption|omega|(simp only [List.length_map,List.length_append,List.length_cons,List.length_nil,e3];omega)|(simp [e3];done)|(simp [e3];omega))))|(with_reducible refine ObT.ff ?_)|((with_reducible refine ObB.yes ?_ ?_);exact zB)|((with_reducible refine ObH.f 14 ?_);(first|(with_reducible refine ObH.mk _ _ ((h14 _ _ _ _)) ?_)|(refine ObH.mk _ _ ((h14 _ _ _ _)) ?_)))|((with_reducible refine ObEq.mk ?_);exact zE))
end
end Go.Proofs.Ytefkaglgekjlfaa.Sim
namespace Go.Proofs.Ytefkaglgekjlfaa.Sim.Pr7
open Go.RowKit
set_option maxRecDepth 100000
set_option maxHeartbeats 4000000 in
theorem gr34 (G:Nat→AV) (key:ByteArray):PC Try.prog G 69 [S key] (kfA 83 key):=by
  refine pc_of cop69 ?_
  show W _ _ _ _ ⟨_,_⟩;simp only [A69,List.cons_append,List.nil_append,List.length_cons,List.length_nil,Nat.reduceAdd,Nat.reduceSub,List.replicate]
  repeat (first|(with_reducible first|refine w_seq ?_|refine w_reg ?_|refine ws_nil ?_|refine q_then ?_|refine w_ret ?_)|((with_reducible first|refine ks fun K hK=>?_|refine kd fun K hK=>?_|refine kc fun K hK2 hK hK3=>?_|refine ret_h fun K hR=>?_|refine ret_hh rfl fun K hR=>?_|refine ret_pp fun K hR=>?_);simp (disch:=omega) only [bg0,bg1,bg2,bg3,bg4,stepO,rsAs,eff,AX.ev,St.put,binA,conc,ap1,ofVal,Int.reduceTMod,Int.reduceTDiv,reduceCtorEq,fillA,AV.cells,AV.fine,AV.one,Nat.reduceAdd,Nat.reduceSub,Nat.reduceMul,Nat.reduceLT,Nat.reduceLeDiff,Int.reduceLT,Int.reduceLE,Int.reduceAdd,Int.reduceSub,Int.reduceNeg,Int.reduceMul,Int.reduceEq,Int.reduceToNat,nilA,moveA,live,loadA,rdA,storeA,wrA,intA,elemA,lenA,appA,srcA,isPtr,isNilPtr,partA,resOf,sliceA,cut,id,ap2,reduceIte,concs,chkB,geB,AOp.cls,AOp.xs,ltB,ltC,Nat.reduceBEq,Option.toList,List.cons_append,decide_eq_true,decide_eq_false,if_pos,if_neg,List.length_map,pA_at,List.cons_append,bVb,bVn,eq_self,Bool.and_self,BEq.rfl,not_true_eq_false,cVu,cVi,shr1];(first|(with_reducible first|(refine hK _ ?_;clear hK K)|(refine hK ?_;clear hK hK3 K hK2)|(refine hK3 ?_;clear hK hK3 K hK2))|((with_reducible refine hR _ ?_ ?_ ?_ ?_);rotate_left 2;rfl;rfl)|((with_reducible refine hR _ ?_);rfl))))
set_option maxHeartbeats 4000000 in
theorem gr41 (G:Nat→AV) (p:Pr) (key:ByteArray) (hp:p.1.size≤9223372036854775807) (hk:key.size≤9223372036854775807):PC Try.prog G 83 [.agg [S p.1,S p.2],.ad 1 [S key] 0 0] (Bo (decide (0 < cB p.1 key))):=by
  refine pc_of cop83 ?_
  show W _ _ _ _ ⟨_,_⟩;simp only [A83,List.cons_append,List.nil_append,List.length_cons,List.length_nil,Nat.reduceAdd,Nat.reduceSub,List.replicate]
  repeat (first|(with_reducible first|refine w_seq ?_|refine w_reg ?_|refine ws_nil ?_|refine q_then ?_|refine w_ret ?_)|((with_reducible refine kps 84 ?_ ?_ ?_ ?_);rotate_left 1;rfl;exact (by refine cmpP G _ _ ?_ ?_<;>assumption))|((with_reducible first|refine ks fun K hK=>?_|refine kd fun K hK=>?_|refine kc fun K hK2 hK hK3=>?_|refine ret_h fun K hR=>?_|refine ret_hh rfl fun K hR=>?_|refine ret_pp fun K hR=>?_);simp (disch:=omega) only [bg0,bg1,bg2,bg3,bg4,stepO,rsAs,eff,AX.ev,St.put,binA,conc,ap1,ofVal,Int.reduceTMod,Int.reduceTDiv,reduceCtorEq,fillA,AV.cells,AV.fine,AV.one,Nat.reduceAdd,Nat.reduceSub,Nat.reduceMul,Nat.reduceLT,Nat.reduceLeDiff,Int.reduceLT,Int.reduceLE,Int.reduceAdd,Int.reduceSub,Int.reduceNeg,Int.reduceMul,Int.reduceEq,Int.reduceToNat,nilA,moveA,live,loadA,rdA,storeA,wrA,intA,elemA,lenA,appA,srcA,isPtr,isNilPtr,partA,resOf,sliceA,cut,id,ap2,reduceIte,concs,chkB,geB,AOp.cls,AOp.xs,ltB,ltC,Nat.reduceBEq,Option.toList,List.cons_append,decide_eq_true,decide_eq_false,if_pos,if_neg,List.length_map,pA_at,List.cons_append,bVb,bVn,eq_self,Bool.and_self,BEq.rfl,not_true_eq_false,cVu,cVi,shr1];(first|(with_reducible first|(refine hK _ ?_;clear hK K)|(refine hK ?_;clear hK hK3 K hK2)|(refine hK3 ?_;clear hK hK3 K hK2))|((with_reducible refine hR _ ?_ ?_ ?_ ?_);rotate_left 2;rfl;rfl)|((with_reducible refine hR _ ?_);rfl))))
set_option maxHeartbeats 1000000 in
theorem at39_41 (G : Nat → AV) (key : ByteArray) (m : List Pr) (i : Nat) (hi : i < m.length) (hm : m.length ≤ 1000000) (r : Bool) (h : PC Try.prog G 83 [.agg [S (m[i]).1, S (m[i]).2], .ad 1 [S key] 0 0] (Bo r)) :
    PC Try.prog G 82 [I i,.ad 1 [kfA 83 key] 0 0,.ad 1 [.sl 2 (m.map pA)] 0 0] (Bo r):=by
  refine pc_of cop82 ?_
  show W _ _ _ _ ⟨_,_⟩;simp only [A82,List.cons_append,List.nil_append,List.length_cons,List.length_nil,Nat.reduceAdd,Nat.reduceSub,List.replicate]
  repeat (first|(with_reducible first|refine w_seq ?_|refine w_reg ?_|refine w_draw ?_|refine ws_nil ?_|refine wd_nil ?_|refine q_then ?_|refine w_ret ?_)|((first|((with_reducible refine kvd 83 ?_ ?_ ?_ ?_ ?_ ?_ ?_ ?_);rotate_left 3));(focus (simp (disch:=omega) only [bg0,bg1,bg2,bg3,bg4,stepO,rsAs,eff,AX.ev,St.put,binA,conc,ap1,ofVal,Int.reduceTMod,Int.reduceTDiv,reduceCtorEq,fillA,AV.cells,AV.fine,AV.one,Nat.reduceAdd,Nat.reduceSub,Nat.reduceMul,Nat.reduceLT,Nat.reduceLeDiff,Int.reduceLT,Int.reduceLE,Int.reduceAdd,Int.reduceSub,Int.reduceNeg,Int.reduceMul,Int.reduceEq,Int.reduceToNat,nilA,moveA,live,loadA,rdA,storeA,wrA,intA,elemA,lenA,appA,srcA,isPtr,isNilPtr,partA,resOf,sliceA,cut,id,ap2,reduceIte,concs,chkB,geB,AOp.cls,AOp.xs,ltB,ltC,Nat.reduceBEq,Option.toList,List.cons_append,decide_eq_true,decide_eq_false,if_pos,if_neg,List.length_map,pA_at,List.cons_append,bVb,bVn,eq_self,Bool.and_self,BEq.rfl,not_true_eq_false,cVu,cVi,shr1];try rfl));(first|(rfl;exact hb83;exact (hc_pc rfl h _))))|((with_reducible first|refine ks fun K hK=>?_|refine kd fun K hK=>?_|refine kc fun K hK2 hK hK3=>?_|refine ret_h fun K hR=>?_|refine ret_hh rfl fun K hR=>?_|refine ret_pp fun K hR=>?_);simp (disch:=omega) only [bg0,bg1,bg2,bg3,bg4,stepO,rsAs,eff,AX.ev,St.put,binA,conc,ap1,ofVal,Int.reduceTMod,Int.reduceTDiv,reduceCtorEq,fillA,AV.cells,AV.fine,AV.one,Nat.reduceAdd,Nat.reduceSub,Nat.reduceMul,Nat.reduceLT,Nat.reduceLeDiff,Int.reduceLT,Int.reduceLE,Int.reduceAdd,Int.reduceSub,Int.reduceNeg,Int.reduceMul,Int.reduceEq,Int.reduceToNat,nilA,moveA,live,loadA,rdA,storeA,wrA,intA,elemA,lenA,appA,srcA,isPtr,isNilPtr,partA,resOf,sliceA,cut,id,ap2,reduceIte,concs,chkB,geB,AOp.cls,AOp.xs,ltB,ltC,Nat.reduceBEq,Option.toList,List.cons_append,decide_eq_true,decide_eq_false,if_pos,if_neg,List.length_map,pA_at,List.cons_append,bVb,bVn,eq_self,Bool.and_self,BEq.rfl,not_true_eq_false,cVu,cVi,shr1];(first|(with_reducible first|(refine hK _ ?_;clear hK K)|(refine hK ?_;clear hK hK3 K hK2)|(refine hK3 ?_;clear hK hK3 K hK2))|((with_reducible refine hR _ ?_ ?_ ?_ ?_);rotate_left 2;rfl;rfl)|((with_reducible refine hR _ ?_);rfl))))
set_option maxHeartbeats 2000000 in
theorem search38 (G:Nat→AV) (n c:Nat) (hc:c≤n) (hn:n≤1000000) (cs:List AV) (hp:cs.all AV.isP=true) (h:∀ i,i < n→PC Try.prog G 82 (I i::cs) (Bo (decide (c≤i)))):PC Try.prog G 81 [I n,.fn 82 cs] (I c):=by
  refine pc_of cop81 ?_
  show W _ _ _ _ ⟨_,_⟩;simp only [A81,List.cons_append,List.nil_append,List.length_cons,List.length_nil,Nat.reduceAdd,Nat.reduceSub,List.replicate]
  repeat (first|(with_reducible first|refine w_seq ?_|refine w_reg ?_|refine w_block ?_|refine ws_nil ?_|refine q_then ?_)|((with_reducible first|refine ks fun K hK=>?_|refine kd fun K hK=>?_|refine kc fun K hK2 hK hK3=>?_);simp (disch:=omega) only [bg0,bg1,bg2,bg3,bg4,stepO,rsAs,eff,AX.ev,St.put,binA,conc,ap1,ofVal,Int.reduceTMod,Int.reduceTDiv,reduceCtorEq,fillA,AV.cells,AV.fine,AV.one,Nat.reduceAdd,Nat.reduceSub,Nat.reduceMul,Nat.reduceLT,Nat.reduceLeDiff,Int.reduceLT,Int.reduceLE,Int.reduceAdd,Int.reduceSub,Int.reduceNeg,Int.reduceMul,Int.reduceEq,Int.reduceToNat,nilA,moveA,live,loadA,rdA,storeA,wrA,intA,elemA,lenA,appA,srcA,isPtr,isNilPtr,partA,resOf,sliceA,cut,id,ap2,reduceIte,concs,chkB,geB,AOp.cls,AOp.xs,ltB,ltC,Nat.reduceBEq,Option.toList,List.cons_append,decide_eq_true,decide_eq_false,if_pos,if_neg,List.length_map,pA_at,List.cons_append,bVb,bVn,eq_self,Bool.and_self,BEq.rfl,not_true_eq_false,cVu,cVi,shr1];(with_reducible first|(refine hK _ ?_;clear hK K)|(refine hK ?_;clear hK hK3 K hK2)|(refine hK3 ?_;clear hK hK3 K hK2))))
  refine w_loop_d [5,6,7,9,10,11,12,13,14,15,16,17,18,19,20,21,22,23,24] (fun u v H=>∃ i j:Nat,u=j - i∧v 5=I i∧v 6=I j∧i≤c∧c≤j∧j≤n∧H=[]) n ⟨0,n,rfl,rfl,rfl,by omega,by omega,by omega,rfl⟩ ?_
  rintro u v H ⟨i,j,rfl,h5,h6,i1,i2,i3,rfl⟩
  simp only [mix,mix_nil,mix_end,mix_skp,Nat.reduceEqDiff,Nat.reduceLeDiff,reduceCtorEq,if_true,if_false,reduceIte,Nat.reduceAdd,h5,h6]
  by_cases hij:i < j
  · obtain ⟨k, hk⟩ : ∃ k, k = (i + j) / 2 := ⟨_, rfl⟩
    have hm:=hk.symm
    have hf:HC Try.prog G 82 (I k::cs) [] (Bo (decide (c≤k))) []:=hc_pc (by simp only [List.all_cons,hp];rfl) (h k (by omega)) _
    by_cases hck:c≤k
    · repeat (first|(with_reducible first|refine w_seq ?_|refine w_reg ?_|refine w_block ?_|refine w_skip ?_|refine ws_nil ?_|refine q_then ?_|refine q_block_n ?_)|((with_reducible first|refine ks fun K hK=>?_|refine kd fun K hK=>?_|refine kc fun K hK2 hK hK3=>?_);simp (disch:=omega) only [bg0,bg1,bg2,bg3,bg4,stepO,rsAs,eff,AX.ev,St.put,binA,conc,ap1,ofVal,Int.reduceTMod,Int.reduceTDiv,reduceCtorEq,fillA,AV.cells,AV.fine,AV.one,Nat.reduceAdd,Nat.reduceSub,Nat.reduceMul,Nat.reduceLT,Nat.reduceLeDiff,Int.reduceLT,Int.reduceLE,Int.reduceAdd,Int.reduceSub,Int.reduceNeg,Int.reduceMul,Int.reduceEq,Int.reduceToNat,nilA,moveA,live,loadA,rdA,storeA,wrA,intA,elemA,lenA,appA,srcA,isPtr,isNilPtr,partA,resOf,sliceA,cut,id,ap2,reduceIte,concs,chkB,geB,AOp.cls,AOp.xs,ltB,ltC,Nat.reduceBEq,Option.toList,List.cons_append,decide_eq_true,decide_eq_false,if_pos,if_neg,List.length_map,pA_at,List.cons_append,bVb,bVn,eq_self,Bool.and_self,BEq.rfl,not_true_eq_false,cVu,cVi,shr1,hm,hck];(with_reducible first|(refine hK _ ?_;clear hK K)|(refine hK ?_;clear hK hK3 K hK2)|(refine hK3 ?_;clear hK hK3 K hK2)))|((with_reducible refine kvs 82 ?_ ?_ ?_ ?_ ?_ ?_ ?_);rotate_left 3;rfl;exact hb82;exact hf))
      exact ⟨rfl,k - i,by omega,i,k,rfl,rfl,rfl,by omega,by omega,by omega,rfl⟩
    · repeat (first|(with_reducible first|refine w_seq ?_|refine w_reg ?_|refine w_block ?_|refine w_skip ?_|refine ws_nil ?_|refine q_then ?_|refine q_block_n ?_)|((with_reducible first|refine ks fun K hK=>?_|refine kd fun K hK=>?_|refine kc fun K hK2 hK hK3=>?_);simp (disch:=omega) only [bg0,bg1,bg2,bg3,bg4,stepO,rsAs,eff,AX.ev,St.put,binA,conc,ap1,ofVal,Int.reduceTMod,Int.reduceTDiv,reduceCtorEq,fillA,AV.cells,AV.fine,AV.one,Nat.reduceAdd,Nat.reduceSub,Nat.reduceMul,Nat.reduceLT,Nat.reduceLeDiff,Int.reduceLT,Int.reduceLE,Int.reduceAdd,Int.reduceSub,Int.reduceNeg,Int.reduceMul,Int.reduceEq,Int.reduceToNat,nilA,moveA,live,loadA,rdA,storeA,wrA,intA,elemA,lenA,appA,srcA,isPtr,isNilPtr,partA,resOf,sliceA,cut,id,ap2,reduceIte,concs,chkB,geB,AOp.cls,AOp.xs,ltB,ltC,Nat.reduceBEq,Option.toList,List.cons_append,decide_eq_true,decide_eq_false,if_pos,if_neg,List.length_map,pA_at,List.cons_append,bVb,bVn,eq_self,Bool.and_self,BEq.rfl,not_true_eq_false,cVu,cVi,shr1,hm,hck];(with_reducible first|(refine hK _ ?_;clear hK K)|(refine hK ?_;clear hK hK3 K hK2)|(refine hK3 ?_;clear hK hK3 K hK2)))|((with_reducible refine kvs 82 ?_ ?_ ?_ ?_ ?_ ?_ ?_);rotate_left 3;rfl;exact hb82;exact hf))
      exact ⟨rfl,j - (k+1),by omega,k+1,j,rfl,rfl,rfl,by omega,by omega,by omega,rfl⟩
  · obtain rfl : i = c := by omega
    repeat (first|(with_reducible first|refine w_seq ?_|refine w_reg ?_|refine w_exit ?_|refine ws_nil ?_|refine q_then ?_|refine q_then_x ?_|refine q_block_x ?_|refine w_ret ?_)|((with_reducible first|refine ks fun K hK=>?_|refine kd fun K hK=>?_|refine kc fun K hK2 hK hK3=>?_|refine ret_h fun K hR=>?_|refine ret_hh rfl fun K hR=>?_|refine ret_pp fun K hR=>?_);simp (disch:=omega) only [bg0,bg1,bg2,bg3,bg4,stepO,rsAs,eff,AX.ev,St.put,binA,conc,ap1,ofVal,Int.reduceTMod,Int.reduceTDiv,reduceCtorEq,fillA,AV.cells,AV.fine,AV.one,Nat.reduceAdd,Nat.reduceSub,Nat.reduceMul,Nat.reduceLT,Nat.reduceLeDiff,Int.reduceLT,Int.reduceLE,Int.reduceAdd,Int.reduceSub,Int.reduceNeg,Int.reduceMul,Int.reduceEq,Int.reduceToNat,nilA,moveA,live,loadA,rdA,storeA,wrA,intA,elemA,lenA,appA,srcA,isPtr,isNilPtr,partA,resOf,sliceA,cut,id,ap2,reduceIte,concs,chkB,geB,AOp.cls,AOp.xs,ltB,ltC,Nat.reduceBEq,Option.toList,List.cons_append,decide_eq_true,decide_eq_false,if_pos,if_neg,List.length_map,pA_at,List.cons_append,bVb,bVn,eq_self,Bool.and_self,BEq.rfl,not_true_eq_false,cVu,cVi,shr1];(first|(with_reducible first|(refine hK _ ?_;clear hK K)|(refine hK ?_;clear hK hK3 K hK2)|(refine hK3 ?_;clear hK hK3 K hK2))|((with_reducible refine hR _ ?_ ?_ ?_ ?_);rotate_left 2;rfl;rfl)|((with_reducible refine hR _ ?_);rfl))))
set_option maxHeartbeats 2000000 in
theorem idx41 (G:Nat→AV) (m:List Pr) (hs:SLe m) (hm:Okl m) (key:ByteArray) (hk:key.size≤9223372036854775807):PC Try.prog G 68 [.sl 2 (m.map pA),kfA 83 key] (I (le m key).length):=by
  have hlen:=hm.len
  have hc:(le m key).length≤m.length:=le_len
  have hf:=search38 G m.length (le m key).length hc hlen [.ad 1 [kfA 83 key] 0 0,.ad 1 [.sl 2 (m.map pA)] 0 0] rfl (fun i hi=>by
    rw [← le_idx hs key i hi]
    exact at39_41 G key m i hi hlen _ (gr41 G _ key (hm.k hi) hk))
  refine pc_of cop68 ?_
  show W _ _ _ _ ⟨_,_⟩;simp only [A68,List.cons_append,List.nil_append,List.length_cons,List.length_nil,Nat.reduceAdd,Nat.reduceSub,List.replicate]
  repeat (first|(with_reducible first|refine w_seq ?_|refine w_reg ?_|refine ws_nil ?_|refine q_then ?_|refine w_ret ?_)|((with_reducible refine kqs 81 ?_ ?_ ?_ ?_ ?_ ?_);rotate_left 3;rfl;exact hf)|((with_reducible first|refine ks fun K hK=>?_|refine kd fun K hK=>?_|refine kc fun K hK2 hK hK3=>?_|refine ret_h fun K hR=>?_|refine ret_hh rfl fun K hR=>?_|refine ret_pp fun K hR=>?_);simp (disch:=omega) only [bg0,bg1,bg2,bg3,bg4,stepO,rsAs,eff,AX.ev,St.put,binA,conc,ap1,ofVal,Int.reduceTMod,Int.reduceTDiv,reduceCtorEq,fillA,AV.cells,AV.fine,AV.one,Nat.reduceAdd,Nat.reduceSub,Nat.reduceMul,Nat.reduceLT,Nat.reduceLeDiff,Int.reduceLT,Int.reduceLE,Int.reduceAdd,Int.reduceSub,Int.reduceNeg,Int.reduceMul,Int.reduceEq,Int.reduceToNat,nilA,moveA,live,loadA,rdA,storeA,wrA,intA,elemA,lenA,appA,srcA,isPtr,isNilPtr,partA,resOf,sliceA,cut,id,ap2,reduceIte,concs,chkB,geB,AOp.cls,AOp.xs,ltB,ltC,Nat.reduceBEq,Option.toList,List.cons_append,decide_eq_true,decide_eq_false,if_pos,if_neg,List.length_map,pA_at,List.cons_append,bVb,bVn,eq_self,Bool.and_self,BEq.rfl,not_true_eq_false,cVu,cVi,shr1];(first|(with_reducible first|(refine hK _ ?_;clear hK K)|(refine hK ?_;clear hK hK3 K hK2)|(refine hK3 ?_;clear hK hK3 K hK2))|((with_reducible refine hR _ ?_ ?_ ?_ ?_);rotate_left 2;rfl;rfl)|((with_reducible refine hR _ ?_);rfl))))
set_option maxHeartbeats 2000000 in
theorem floor23s (G:Nat→AV) (l:List Pr) (hs:PC Try.prog G 67 [.sl 2 (l.map pA)] (.sl 2 ((mk l).map pA))) (hl:Okl l) (key:ByteArray) (hk:key.size≤9223372036854775807):PC Try.prog G 48 [.sl 2 (l.map pA),S key] (oP (fl (mk l) key)):=by
  have hm:=okl_mk hl
  have hlen:=hm.len
  have hi:=idx41 G (mk l) (mk_lt l).le hm key hk
  have hll:=le_len (B:=mk l) (k:=key)
  have hfl:=fl_at (mk_lt l).le key
  have hfn:(le (mk l) key).length=0→fl (mk l) key=none:=fun h=>by unfold fl;rw [List.length_eq_zero_iff.1 h];rfl
  refine pc_ofV cop48 ?_
  generalize mk l=m at *
  generalize (le m key).length=c at *
  generalize fl m key=r at *
  by_cases hc:c=0
  · rw [hfn hc]
    simp only [oP,Option.getD_none,Option.isSome_none,dflt]
    have e:((c:Int)=0):=by omega
    repeat' ((conv=>whnf);first|(with_reducible refine SeqP.go ?_)|((with_reducible refine ObD.mk ?_ ?_);(focus (first|rfl|(simp [e];done))))|((with_reducible refine ObN.mk ?_ ?_);(focus (first|rfl|assumption|omega|(simp only [List.length_map,List.length_append,List.length_cons,List.length_nil,e];omega)|(simp [e];done)|(simp [e];omega))))|(with_reducible refine ObT.tt ?_)|((with_reducible refine ObB.yes ?_ ?_);(focus (first|assumption|(with_reducible rfl)|omega|(simp;done))))|((with_reducible refine (?_:ObU _ _));(refine ObU.mk _ (by first|assumption|((conv=>lhs;simp only [List.set_cons_zero,List.set_cons_succ,List.take_succ_cons,List.take_zero,List.drop_succ_cons,List.drop_zero,List.nil_append,List.cons_append,List.append_nil,List.take_nil,List.drop_nil,e]);try rfl)|rfl) ?_))|((with_reducible refine (?_:ObR _ _ _));(first|(refine ObR.mk _ (by first|assumption|with_reducible rfl) ?_)|(refine ObR.map (by (first|omega|assumption|(simp only [List.length_map,List.length_append,List.length_cons,List.length_nil,List.length_take,List.length_drop,List.length_set,List.length_replicate,e];omega))) (fun x hx=>?_))|(refine ObR.mk _ rfl ?_)))|((with_reducible refine ObC.f 67 ?_);(first|(with_reducible refine ObC.mk _ (hs) ?_)|(refine ObC.mk _ (hs) ?_)))|((with_reducible refine ObC.f 69 ?_);(first|(with_reducible refine ObC.mk _ ((gr34 G key)) ?_)|(refine ObC.mk _ ((gr34 G key)) ?_)))|((with_reducible refine ObC.f 68 ?_);(first|(with_reducible refine ObC.mk _ (hi) ?_)|(refine ObC.mk _ (hi) ?_)))|((with_reducible refine ObEq.mk ?_);exact zE))
  · obtain ⟨h1, h2⟩ := hfl hc
    rw [h2]
    simp only [oP,Option.getD_some,Option.isSome_some]
    have e:¬ ((c:Int)=0):=by omega
    have e1:(c:Int) - 1=((c - 1:Nat):Int):=by omega
    repeat' ((conv=>whnf);first|(with_reducible refine SeqP.go ?_)|((with_reducible refine ObD.mk ?_ ?_);(focus (first|rfl|(simp [e,e1];done))))|((with_reducible refine ObN.mk ?_ ?_);(focus (first|rfl|assumption|omega|(simp only [List.length_map,List.length_append,List.length_cons,List.length_nil,e,e1];omega)|(simp [e,e1];done)|(simp [e,e1];omega))))|(with_reducible refine ObT.ff ?_)|((with_reducible refine ObB.no ?_ ?_);(focus (first|assumption|omega|(simp;done))))|((with_reducible refine ObI.sl ?_ ?_ ?_);omega;omega)|((with_reducible refine ObX.mk _ rfl ?_ ?_);(focus (first|omega|assumption|(simp only [List.length_map,List.length_append,List.length_cons,List.length_nil,List.length_take,List.length_drop,List.length_set,List.length_replicate,e,e1];omega))))|((with_reducible refine (?_:ObU _ _));(refine ObU.mk _ (by first|assumption|((conv=>lhs;simp only [List.set_cons_zero,List.set_cons_succ,List.take_succ_cons,List.take_zero,List.drop_succ_cons,List.drop_zero,List.nil_append,List.cons_append,List.append_nil,List.take_nil,List.drop_nil,e,e1]);try rfl)|rfl) ?_))|((with_reducible refine (?_:ObR _ _ _));(first|(refine ObR.mk _ (by assumption) ?_)|(refine ObR.mk _ (by exact (pA_at h1)) ?_)|(refine ObR.mk _ (by with_reducible rfl) ?_)|(refine ObR.map (by (first|omega|assumption|(simp only [List.length_map,List.length_append,List.length_cons,List.length_nil,List.length_take,List.length_drop,List.length_set,List.length_replicate,e,e1];omega))) (fun x hx=>?_))|(refine ObR.mk _ rfl ?_)))|((with_reducible refine ObC.f 67 ?_);(first|(with_reducible refine ObC.mk _ (hs) ?_)|(refine ObC.mk _ (hs) ?_)))|((with_reducible refine ObC.f 69 ?_);(first|(with_reducible refine ObC.mk _ ((gr34 G key)) ?_)|(refine ObC.mk _ ((gr34 G key)) ?_)))|((with_reducible refine ObC.f 68 ?_);(first|(with_reducible refine ObC.mk _ (hi) ?_)|(refine ObC.mk _ (hi) ?_)))|((with_reducible refine ObEq.mk ?_);exact zE))
set_option maxHeartbeats 2000000 in
theorem get9s (G:Nat→AV) (l:List Pr) (hs:PC Try.prog G 67 [.sl 2 (l.map pA)] (.sl 2 ((mk l).map pA))) (hl:Okl l) (key:ByteArray) (hk:key.size≤9223372036854775807):PC Try.prog G 31 [.sl 2 (l.map pA),S key] (.tup [S ((val l key).getD ⟨#[]⟩),Bo (val l key).isSome]):=by
  have hf:=floor23s G l hs hl key hk
  have hv:val l key=match fl (mk l) key with|some p=>if p.1=key then some p.2 else none|none=>none:=by
    rw [← mk_val];exact get_le (mk_lt l) key
  rw [hv]
  refine pc_ofV cop31 ?_
  generalize fl (mk l) key=r at *
  cases r with
  | none =>
    simp only [oP,Option.getD_none,Option.isSome_none,dflt] at hf ⊢
    repeat' ((conv=>whnf);first|(with_reducible refine SeqP.go ?_)|((with_reducible refine ObD.mk ?_ ?_);exact zD)|((with_reducible refine ObN.mk ?_ ?_);exact zN)|(with_reducible first|refine ObT.tt ?_|refine ObT.ff ?_)|((with_reducible refine (?_:ObU _ _));(refine ObU.mk _ zU ?_))|((with_reducible refine (?_:ObR _ _ _));(first|(refine ObR.mk _ (by first|assumption|with_reducible rfl) ?_)|(refine ObR.map zX (fun x hx=>?_))|(refine ObR.mk _ rfl ?_)))|((with_reducible refine ObC.f 48 ?_);(first|(with_reducible refine ObC.mk _ (hf) ?_)|(refine ObC.mk _ (hf) ?_)))|((with_reducible refine ObEq.mk ?_);exact zE))
  | some p =>
    simp only [oP,Option.getD_some,Option.isSome_some] at hf ⊢
    by_cases hp:p.1=key
    · rw [if_pos hp]
      simp only [Option.getD_some,Option.isSome_some]
      repeat' ((conv=>whnf);first|(with_reducible refine SeqP.go ?_)|((with_reducible refine ObD.mk ?_ ?_);(focus (first|rfl|(simp [hp];done))))|((with_reducible refine ObN.mk ?_ ?_);(focus (first|rfl|assumption|omega|(simp only [List.length_map,List.length_append,List.length_cons,List.length_nil,hp];omega)|(simp [hp];done)|(simp [hp];omega))))|(with_reducible first|refine ObT.tt ?_|refine ObT.ff ?_)|((with_reducible refine ObB.yes ?_ ?_);(focus (first|assumption|(with_reducible rfl)|omega|(simp;done))))|((with_reducible refine (?_:ObU _ _));(refine ObU.mk _ (by first|assumption|((conv=>lhs;simp only [List.set_cons_zero,List.set_cons_succ,List.take_succ_cons,List.take_zero,List.drop_succ_cons,List.drop_zero,List.nil_append,List.cons_append,List.append_nil,List.take_nil,List.drop_nil,hp]);try rfl)|rfl) ?_))|((with_reducible refine (?_:ObR _ _ _));(first|(refine ObR.mk _ (by first|assumption|with_reducible rfl) ?_)|(refine ObR.map (by (first|omega|assumption|(simp only [List.length_map,List.length_append,List.length_cons,List.length_nil,List.length_take,List.length_drop,List.length_set,List.length_replicate,hp];omega))) (fun x hx=>?_))|(refine ObR.mk _ rfl ?_)))|((with_reducible refine ObC.f 48 ?_);(first|(with_reducible refine ObC.mk _ (hf) ?_)|(refine ObC.mk _ (hf) ?_)))|((with_reducible refine ObEq.mk ?_);exact zE))
    · rw [if_neg hp]
      simp only [Option.getD_none,Option.isSome_none]
      repeat' ((conv=>whnf);first|(with_reducible refine SeqP.go ?_)|((with_reducible refine ObD.mk ?_ ?_);(focus (first|rfl|(simp [hp];done))))|((with_reducible refine ObN.mk ?_ ?_);(focus (first|rfl|assumption|omega|(simp only [List.length_map,List.length_append,List.length_cons,List.length_nil,hp];omega)|(simp [hp];done)|(simp [hp];omega))))|(with_reducible first|refine ObT.tt ?_|refine ObT.ff ?_)|((with_reducible refine ObB.no ?_ ?_);(focus (first|assumption|omega|(simp;done))))|((with_reducible refine (?_:ObU _ _));(refine ObU.mk _ (by first|assumption|((conv=>lhs;simp only [List.set_cons_zero,List.set_cons_succ,List.take_succ_cons,List.take_zero,List.drop_succ_cons,List.drop_zero,List.nil_append,List.cons_append,List.append_nil,List.take_nil,List.drop_nil,hp]);try rfl)|rfl) ?_))|((with_reducible refine (?_:ObR _ _ _));(first|(refine ObR.mk _ (by first|assumption|with_reducible rfl) ?_)|(refine ObR.map (by (first|omega|assumption|(simp only [List.length_map,List.length_append,List.length_cons,List.length_nil,List.length_take,List.length_drop,List.length_set,List.length_replicate,hp];omega))) (fun x hx=>?_))|(refine ObR.mk _ rfl ?_)))|((with_reducible refine ObC.f 48 ?_);(first|(with_reducible refine ObC.mk _ (hf) ?_)|(refine ObC.mk _ (hf) ?_)))|((with_reducible refine ObEq.mk ?_);exact zE))
theorem sorted31s (G:Nat→AV) (l:List Pr) (hl:Okl l) (hs:SLt l):PC Try.prog G 67 [.sl 2 (l.map pA)] (.sl 2 ((mk l).map pA)):=by
  have hi:=is11 G l hl true (by simp [hs])
  refine pc_ofV cop67 ?_
  rw [mk_of hs]
  repeat' ((conv=>whnf);first|(with_reducible first|refine SeqP.go ?_|refine ObT.tt ?_)|((with_reducible refine ObC.f 79 ?_);(first|(with_reducible refine ObC.mk _ (hi) ?_)|(refine ObC.mk _ (hi) ?_)))|((with_reducible refine ObEq.mk ?_);exact zE))
set_option maxHeartbeats 4000000 in
theorem get10 (G:Nat→AV) (l:List Pr) (hl:Okl l) (key:ByteArray):PC Try.prog G 20 [.sl 2 (l.map pA),S key] (.tup [S ((val l key).getD ⟨#[]⟩),Bo (val l key).isSome]):=by
  have hlen:=hl.len
  refine pc_of cop20 ?_
  show W _ _ _ _ ⟨_,_⟩;simp only [A20,List.cons_append,List.nil_append,List.length_cons,List.length_nil,Nat.reduceAdd,Nat.reduceSub,List.replicate]
  repeat (first|(with_reducible first|refine w_seq ?_|refine w_reg ?_|refine w_block ?_|refine ws_nil ?_|refine q_then ?_)|((with_reducible first|refine ks fun K hK=>?_|refine kd fun K hK=>?_|refine kc fun K hK2 hK hK3=>?_);simp (disch:=omega) only [bg0,bg1,bg2,bg3,bg4,stepO,rsAs,eff,AX.ev,St.put,binA,conc,ap1,ofVal,Int.reduceTMod,Int.reduceTDiv,reduceCtorEq,fillA,AV.cells,AV.fine,AV.one,Nat.reduceAdd,Nat.reduceSub,Nat.reduceMul,Nat.reduceLT,Nat.reduceLeDiff,Int.reduceLT,Int.reduceLE,Int.reduceAdd,Int.reduceSub,Int.reduceNeg,Int.reduceMul,Int.reduceEq,Int.reduceToNat,nilA,moveA,live,loadA,rdA,storeA,wrA,intA,elemA,lenA,appA,srcA,isPtr,isNilPtr,partA,resOf,sliceA,cut,id,ap2,reduceIte,concs,chkB,geB,AOp.cls,AOp.xs,ltB,ltC,Nat.reduceBEq,Option.toList,List.cons_append,decide_eq_true,decide_eq_false,if_pos,if_neg,List.length_map,pA_at,List.cons_append,bVb,bVn,eq_self,Bool.and_self,BEq.rfl,not_true_eq_false,cVu,cVi,shr1];(with_reducible first|(refine hK _ ?_;clear hK K)|(refine hK ?_;clear hK hK3 K hK2)|(refine hK3 ?_;clear hK hK3 K hK2))))
  refine w_loop_m [4,5,6,10,11,12,13,14,15,16,17,18,19,20,21,22,23,24,25] (fun k v H=>v 6=I ((l.length:Int) - 1 - k)∧H=[]∧val l key=val (l.take (l.length - k)) key) l.length ⟨by simp [at_],rfl,by simp⟩ ?_ ?_
  · rintro k v H hk ⟨h6, rfl, hq⟩
    simp only [mix,mix_nil,mix_end,mix_skp,Nat.reduceEqDiff,Nat.reduceLeDiff,reduceCtorEq,if_true,if_false,reduceIte,Nat.reduceAdd,h6]
    have hk2:l.length - 1 - k < l.length:=by omega
    have e1:(l.length:Int) - 1 - k=((l.length - 1 - k:Nat):Int):=by omega
    rw [show l.length - k=l.length - 1 - k+1 by omega,val_take hk2] at hq
    by_cases hc:(l[l.length - 1 - k]).1=key
    · rw [if_pos hc] at hq
      simp only [hq,Option.getD_some,Option.isSome_some]
      repeat (first|(with_reducible first|refine w_seq ?_|refine w_reg ?_|refine w_block ?_|refine w_skip ?_|refine ws_nil ?_|refine q_then ?_|refine q_block_r ?_|refine w_ret ?_|refine q_then_r ?_)|((with_reducible first|refine ks fun K hK=>?_|refine kd fun K hK=>?_|refine kc fun K hK2 hK hK3=>?_|refine ret_h fun K hR=>?_|refine ret_hh rfl fun K hR=>?_|refine ret_pp fun K hR=>?_);simp (disch:=omega) only [bg0,bg1,bg2,bg3,bg4,stepO,rsAs,eff,AX.ev,St.put,binA,conc,ap1,ofVal,Int.reduceTMod,Int.reduceTDiv,reduceCtorEq,fillA,AV.cells,AV.fine,AV.one,Nat.reduceAdd,Nat.reduceSub,Nat.reduceMul,Nat.reduceLT,Nat.reduceLeDiff,Int.reduceLT,Int.reduceLE,Int.reduceAdd,Int.reduceSub,Int.reduceNeg,Int.reduceMul,Int.reduceEq,Int.reduceToNat,nilA,moveA,live,loadA,rdA,storeA,wrA,intA,elemA,lenA,appA,srcA,isPtr,isNilPtr,partA,resOf,sliceA,cut,id,ap2,reduceIte,concs,chkB,geB,AOp.cls,AOp.xs,ltB,ltC,Nat.reduceBEq,Option.toList,List.cons_append,decide_eq_true,decide_eq_false,if_pos,if_neg,List.length_map,pA_at,List.cons_append,bVb,bVn,eq_self,Bool.and_self,BEq.rfl,not_true_eq_false,cVu,cVi,shr1,hc,e1];(first|(with_reducible first|(refine hK _ ?_;clear hK K)|(refine hK ?_;clear hK hK3 K hK2)|(refine hK3 ?_;clear hK hK3 K hK2))|((with_reducible refine hR _ ?_ ?_ ?_ ?_);rotate_left 2;rfl;rfl)|((with_reducible refine hR _ ?_);rfl))))
    · rw [if_neg hc] at hq
      repeat (first|(with_reducible first|refine w_seq ?_|refine w_reg ?_|refine w_block ?_|refine w_skip ?_|refine ws_nil ?_|refine q_then ?_|refine q_block_n ?_)|((with_reducible first|refine ks fun K hK=>?_|refine kd fun K hK=>?_|refine kc fun K hK2 hK hK3=>?_);simp (disch:=omega) only [bg0,bg1,bg2,bg3,bg4,stepO,rsAs,eff,AX.ev,St.put,binA,conc,ap1,ofVal,Int.reduceTMod,Int.reduceTDiv,reduceCtorEq,fillA,AV.cells,AV.fine,AV.one,Nat.reduceAdd,Nat.reduceSub,Nat.reduceMul,Nat.reduceLT,Nat.reduceLeDiff,Int.reduceLT,Int.reduceLE,Int.reduceAdd,Int.reduceSub,Int.reduceNeg,Int.reduceMul,Int.reduceEq,Int.reduceToNat,nilA,moveA,live,loadA,rdA,storeA,wrA,intA,elemA,lenA,appA,srcA,isPtr,isNilPtr,partA,resOf,sliceA,cut,id,ap2,reduceIte,concs,chkB,geB,AOp.cls,AOp.xs,ltB,ltC,Nat.reduceBEq,Option.toList,List.cons_append,decide_eq_true,decide_eq_false,if_pos,if_neg,List.length_map,pA_at,List.cons_append,bVb,bVn,eq_self,Bool.and_self,BEq.rfl,not_true_eq_false,cVu,cVi,shr1,hc,e1];(with_reducible first|(refine hK _ ?_;clear hK K)|(refine hK ?_;clear hK hK3 K hK2)|(refine hK3 ?_;clear hK hK3 K hK2))))
      refine ⟨rfl,by simp [at_];omega,rfl,?_⟩
      rw [hq,show l.length - (k+1)=l.length - 1 - k by omega]
  · rintro v H ⟨h6, rfl, hq⟩
    simp only [mix,mix_nil,mix_end,mix_skp,Nat.reduceEqDiff,Nat.reduceLeDiff,reduceCtorEq,if_true,if_false,reduceIte,Nat.reduceAdd,h6]
    rw [Nat.sub_self,List.take_zero,val_nil] at hq
    simp only [hq,Option.getD_none,Option.isSome_none]
    repeat (first|(with_reducible first|refine w_seq ?_|refine w_reg ?_|refine w_exit ?_|refine ws_nil ?_|refine q_then ?_|refine q_then_x ?_|refine q_block_x ?_|refine w_ret ?_)|((with_reducible first|refine ks fun K hK=>?_|refine kd fun K hK=>?_|refine kc fun K hK2 hK hK3=>?_|refine ret_h fun K hR=>?_|refine ret_hh rfl fun K hR=>?_|refine ret_pp fun K hR=>?_);simp (disch:=omega) only [bg0,bg1,bg2,bg3,bg4,stepO,rsAs,eff,AX.ev,St.put,binA,conc,ap1,ofVal,Int.reduceTMod,Int.reduceTDiv,reduceCtorEq,fillA,AV.cells,AV.fine,AV.one,Nat.reduceAdd,Nat.reduceSub,Nat.reduceMul,Nat.reduceLT,Nat.reduceLeDiff,Int.reduceLT,Int.reduceLE,Int.reduceAdd,Int.reduceSub,Int.reduceNeg,Int.reduceMul,Int.reduceEq,Int.reduceToNat,nilA,moveA,live,loadA,rdA,storeA,wrA,intA,elemA,lenA,appA,srcA,isPtr,isNilPtr,partA,resOf,sliceA,cut,id,ap2,reduceIte,concs,chkB,geB,AOp.cls,AOp.xs,ltB,ltC,Nat.reduceBEq,Option.toList,List.cons_append,decide_eq_true,decide_eq_false,if_pos,if_neg,List.length_map,pA_at,List.cons_append,bVb,bVn,eq_self,Bool.and_self,BEq.rfl,not_true_eq_false,cVu,cVi,shr1];(first|(with_reducible first|(refine hK _ ?_;clear hK K)|(refine hK ?_;clear hK hK3 K hK2)|(refine hK3 ?_;clear hK hK3 K hK2))|((with_reducible refine hR _ ?_ ?_ ?_ ?_);rotate_left 2;rfl;rfl)|((with_reducible refine hR _ ?_);rfl))))
end Go.Proofs.Ytefkaglgekjlfaa.Sim.Pr7
namespace Go.Proofs.Ytefkaglgekjlfaa.Sim
open Go.RowKit
set_option maxRecDepth 100000
theorem copyN (G:Nat→AV) (kn:Int) (ke va:ByteArray) (mp:Int) (kk:List Int) (mn:Int) (ls:List Pr) (sz bi:Int) (hk:kk.length≤40) (hl:ls.length≤40):PC Try.prog G 62 [nV kn ke va mp kk mn ls sz bi] (nV kn ke va mp kk mn ls sz bi):=by
  have h1:=copy37 G kk hk
  have h2:=copy38 G ls hl
  refine pc_ofV cop62 ?_
  repeat' ((conv=>whnf);first|(with_reducible refine SeqP.go ?_)|((with_reducible refine ObD.mk ?_ ?_);exact zD)|((with_reducible refine ObN.mk ?_ ?_);exact zN)|((with_reducible refine (?_:ObU _ _));(refine ObU.mk _ zU ?_))|((with_reducible refine (?_:ObR _ _ _));(first|(refine ObR.mk _ (by first|assumption|with_reducible rfl) ?_)|(refine ObR.map zX (fun x hx=>?_))|(refine ObR.mk _ rfl ?_)))|((with_reducible refine ObC.f 77 ?_);(first|(with_reducible refine ObC.mk _ (h1) ?_)|(refine ObC.mk _ (h1) ?_)))|((with_reducible refine ObC.f 49 ?_);(first|(with_reducible refine ObC.mk _ (h2) ?_)|(refine ObC.mk _ (h2) ?_)))|((with_reducible refine ObEq.mk ?_);exact zE))
end Go.Proofs.Ytefkaglgekjlfaa.Sim
