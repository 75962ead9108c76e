/- Texts of this claim, part 6. -/
import Derived.Test.YtghbpplcgjeohaaMHeapCounts5
import Derived.Test.YtghbpplcgjeohaaProg
set_option linter.unusedVariables false
set_option linter.unusedSimpArgs false
namespace Go.Proofs.Ytghbpplcgjeohaa.Sim.Pr7
open Go.RowKit
set_option maxRecDepth 100000
theorem sle_at2 {A:List Pr} (h:SLe A) {i j:Nat} (hij:i≤j) (hj:j < A.length):cB (A[i]'(by omega)).1 (A[j]).1≤0:=by
  by_cases e:i=j
  · subst e;rw [cB_self];omega
  · exact List.pairwise_iff_getElem.1 h i j (by omega) hj (by omega)
theorem lasts_sort {D:List Pr} (h:SLe D) {k:Nat} (hk:k < D.length):fk (D[k]).1 (D.drop (k+1))=[]↔∀ h2:k+1 < D.length,(D[k+1]).1 ≠ (D[k]).1:=by
  rw [fk_none]
  constructor
  · intro hh h2
    exact hh _ (List.mem_drop_iff_getElem.2 ⟨0,by omega,rfl⟩)
  · intro hh p hp e
    obtain ⟨i,hi,rfl⟩:=List.mem_drop_iff_getElem.1 hp
    have h2:k+1 < D.length:=by omega
    have g1:=sle_at2 h (i:=k) (j:=k+1) (by omega) h2
    have g2:=sle_at2 h (i:=k+1) (j:=k+1+i) (by omega) (by omega)
    rw [e] at g2
    exact hh h2 (cB_eq g2 g1)
theorem lasts_mk (l:List Pr):lasts (ssort l)=mk l:=by
  refine eq_mk (le_ne (List.Pairwise.sublist (lasts_sub _) (ssort_le l)) (lasts_ne _)) fun k=>?_
  rw [lasts_val];unfold val;rw [ssort_fk]
set_option maxHeartbeats 8000000 in
theorem make14 (G:Nat→AV) (hS:SymOk G):MkOk G:=by
  intro l h40 hl
  have hlen:=hl.len
  by_cases hs:SLt l
  · have hi := is11 G l hl true (by simp [hs])
    rw [mk_of hs]
    by_cases h0:l=[]
    · subst h0
      have hc:=hc_pc rfl (clone27e G) []
      refine pc_of cop55 ?_
      show W _ _ _ _ ⟨_,_⟩;simp only [A55,List.cons_append,List.nil_append,List.length_cons,List.length_nil,Nat.reduceAdd,Nat.reduceSub,List.replicate]
      simp only [List.map_nil] at *
      repeat (first|with_reducible refine w_seq ?_|with_reducible refine w_reg ?_|with_reducible refine ws_nil ?_|with_reducible refine q_then ?_|with_reducible refine w_ret ?_|with_reducible refine q_then_r ?_|((first|with_reducible refine ks fun K hK=>?_|with_reducible refine kd fun K hK=>?_|with_reducible refine kc fun K hK2 hK hK3=>?_);simp (disch:=omega) only [bg0,bg1,bg2,bg3,bg4,stepO,rsAs,eff,AX.ev,St.put,binA,conc,ap1,ofVal,Int.reduceTMod,Int.reduceTDiv,reduceCtorEq,fillA,AV.cells,AV.fine,AV.one,Nat.reduceAdd,Nat.reduceSub,Nat.reduceMul,Nat.reduceLT,Nat.reduceLeDiff,Int.reduceLT,Int.reduceLE,Int.reduceAdd,Int.reduceSub,Int.reduceNeg,Int.reduceMul,Int.reduceEq,Int.reduceToNat,nilA,moveA,live,loadA,rdA,storeA,wrA,intA,elemA,lenA,appA,srcA,isPtr,isNilPtr,partA,resOf,sliceA,cut,id,ap2,reduceIte,concs,chkB,geB,AOp.cls,AOp.xs,ltB,ltC,Nat.reduceBEq,Option.toList,List.cons_append,decide_eq_true,decide_eq_false,if_pos,if_neg,List.length_map,pA_at,bVb,bVn,eq_self,Bool.and_self,BEq.rfl,not_true_eq_false,gR0,gR01,gR02,sR0,sR01,sR02,lR0,lR1,gR1,gR2,gR22,sR1,sR2,sR22,gj1_0,sj1_0,gj2_0,gj2_1,sj2_0,sj2_1,len_last];(first|((with_reducible refine hK _ ?_);clear hK K)|((with_reducible refine hK ?_);clear hK hK3 K hK2)|((with_reducible refine hK3 ?_);clear hK hK3 K hK2)))|((with_reducible refine kps 61 ?_ ?_ ?_ ?_);rotate_left 1;rfl;exact hi)|((with_reducible refine khs 62 ?_ ?_ ?_ ?_);rotate_left 2;exact hc)|((first|with_reducible refine ret_h fun K hK=>?_|with_reducible refine ret_hh rfl fun K hK=>?_|with_reducible refine ret_pp fun K hK=>?_);simp (disch:=omega) only [bg0,bg1,bg2,bg3,bg4,stepO,rsAs,eff,AX.ev,St.put,binA,conc,ap1,ofVal,Int.reduceTMod,Int.reduceTDiv,reduceCtorEq,fillA,AV.cells,AV.fine,AV.one,Nat.reduceAdd,Nat.reduceSub,Nat.reduceMul,Nat.reduceLT,Nat.reduceLeDiff,Int.reduceLT,Int.reduceLE,Int.reduceAdd,Int.reduceSub,Int.reduceNeg,Int.reduceMul,Int.reduceEq,Int.reduceToNat,nilA,moveA,live,loadA,rdA,storeA,wrA,intA,elemA,lenA,appA,srcA,isPtr,isNilPtr,partA,resOf,sliceA,cut,id,ap2,reduceIte,concs,chkB,geB,AOp.cls,AOp.xs,ltB,ltC,Nat.reduceBEq,Option.toList,List.cons_append,decide_eq_true,decide_eq_false,if_pos,if_neg,List.length_map,pA_at,bVb,bVn,eq_self,Bool.and_self,BEq.rfl,not_true_eq_false,gR0,gR01,gR02,sR0,sR01,sR02,lR0,lR1,gR1,gR2,gR22,sR1,sR2,sR22,gj1_0,sj1_0,gj2_0,gj2_1,sj2_0,sj2_1,len_last];(first|((with_reducible refine hK _ ?_ ?_ ?_ ?_);rotate_left 2;rfl;rfl)|((with_reducible refine hK _ ?_);rfl))))
    · have hc := clone27 G l hl h0 []
      simp only [List.nil_append,List.length_nil] at hc
      refine pc_of cop55 ?_
      show W _ _ _ _ ⟨_,_⟩;simp only [A55,List.cons_append,List.nil_append,List.length_cons,List.length_nil,Nat.reduceAdd,Nat.reduceSub,List.replicate]
      repeat (first|with_reducible refine w_seq ?_|with_reducible refine w_reg ?_|with_reducible refine ws_nil ?_|with_reducible refine q_then ?_|with_reducible refine w_ret ?_|with_reducible refine q_then_r ?_|((first|with_reducible refine ks fun K hK=>?_|with_reducible refine kd fun K hK=>?_|with_reducible refine kc fun K hK2 hK hK3=>?_);simp (disch:=omega) only [bg0,bg1,bg2,bg3,bg4,stepO,rsAs,eff,AX.ev,St.put,binA,conc,ap1,ofVal,Int.reduceTMod,Int.reduceTDiv,reduceCtorEq,fillA,AV.cells,AV.fine,AV.one,Nat.reduceAdd,Nat.reduceSub,Nat.reduceMul,Nat.reduceLT,Nat.reduceLeDiff,Int.reduceLT,Int.reduceLE,Int.reduceAdd,Int.reduceSub,Int.reduceNeg,Int.reduceMul,Int.reduceEq,Int.reduceToNat,nilA,moveA,live,loadA,rdA,storeA,wrA,intA,elemA,lenA,appA,srcA,isPtr,isNilPtr,partA,resOf,sliceA,cut,id,ap2,reduceIte,concs,chkB,geB,AOp.cls,AOp.xs,ltB,ltC,Nat.reduceBEq,Option.toList,List.cons_append,decide_eq_true,decide_eq_false,if_pos,if_neg,List.length_map,pA_at,bVb,bVn,eq_self,Bool.and_self,BEq.rfl,not_true_eq_false,gR0,gR01,gR02,sR0,sR01,sR02,lR0,lR1,gR1,gR2,gR22,sR1,sR2,sR22,gj1_0,sj1_0,gj2_0,gj2_1,sj2_0,sj2_1,len_last];(first|((with_reducible refine hK _ ?_);clear hK K)|((with_reducible refine hK ?_);clear hK hK3 K hK2)|((with_reducible refine hK3 ?_);clear hK hK3 K hK2)))|((with_reducible refine kps 61 ?_ ?_ ?_ ?_);rotate_left 1;rfl;exact hi)|((with_reducible refine khs 62 ?_ ?_ ?_ ?_);rotate_left 2;exact hc))
      exact ret_frz rfl rfl (by simp) (all_pA _)
  · have hi := is11 G l hl false (by simp [hs])
    have h0:l ≠ []:=fun e=>hs (by rw [e];exact List.Pairwise.nil)
    have hc:=clone27 G l hl h0 []
    simp only [List.nil_append,List.length_nil] at hc
    have ho:=sort28 G hS l 1 hl h40
    refine pc_of cop55 ?_
    show W _ _ _ _ ⟨_,_⟩;simp only [A55,List.cons_append,List.nil_append,List.length_cons,List.length_nil,Nat.reduceAdd,Nat.reduceSub,List.replicate]
    repeat (first|with_reducible refine w_seq ?_|with_reducible refine w_reg ?_|with_reducible refine w_block ?_|with_reducible refine w_skip ?_|with_reducible refine ws_nil ?_|with_reducible refine q_then ?_|((first|with_reducible refine ks fun K hK=>?_|with_reducible refine kd fun K hK=>?_|with_reducible refine kc fun K hK2 hK hK3=>?_);simp (disch:=omega) only [bg0,bg1,bg2,bg3,bg4,stepO,rsAs,eff,AX.ev,St.put,binA,conc,ap1,ofVal,Int.reduceTMod,Int.reduceTDiv,reduceCtorEq,fillA,AV.cells,AV.fine,AV.one,Nat.reduceAdd,Nat.reduceSub,Nat.reduceMul,Nat.reduceLT,Nat.reduceLeDiff,Int.reduceLT,Int.reduceLE,Int.reduceAdd,Int.reduceSub,Int.reduceNeg,Int.reduceMul,Int.reduceEq,Int.reduceToNat,nilA,moveA,live,loadA,rdA,storeA,wrA,intA,elemA,lenA,appA,srcA,isPtr,isNilPtr,partA,resOf,sliceA,cut,id,ap2,reduceIte,concs,chkB,geB,AOp.cls,AOp.xs,ltB,ltC,Nat.reduceBEq,Option.toList,List.cons_append,decide_eq_true,decide_eq_false,if_pos,if_neg,List.length_map,pA_at,bVb,bVn,eq_self,Bool.and_self,BEq.rfl,not_true_eq_false,gR0,gR01,gR02,sR0,sR01,sR02,lR0,lR1,gR1,gR2,gR22,sR1,sR2,sR22,gj1_0,sj1_0,gj2_0,gj2_1,sj2_0,sj2_1,len_last];(first|((with_reducible refine hK _ ?_);clear hK K)|((with_reducible refine hK ?_);clear hK hK3 K hK2)|((with_reducible refine hK3 ?_);clear hK hK3 K hK2)))|((with_reducible refine kps 61 ?_ ?_ ?_ ?_);rotate_left 1;rfl;exact hi)|((with_reducible refine khs 62 ?_ ?_ ?_ ?_);rotate_left 2;exact hc)|((with_reducible refine khs 63 ?_ ?_ ?_ ?_);rotate_left 2;exact ho))
    have hml:=lasts_mk l
    have hSl:(ssort l).length=l.length:=ssort_len
    have hSle:=ssort_le l
    rw [← hml]
    generalize hD:ssort l=D at *
    rw [← hSl]
    refine w_loop_m [4,5,6,17,18,19,20,21,22,23,24,25,26,27,28,29,30,31,32,33,34,35,36,37,38,39,40,41,42] (fun k v H=>v 17=I k∧∃ pre:List Pr,lasts D=pre++lasts (D.drop k)∧((pre=[]∧v 4 = .nl 2∧∃ K,H=rw0 D 1::K)∨(pre ≠ []∧∃ (J K:Hp) (g:Nat),v 4 = .ol (J.length+1) g pre.length∧H=rw0 D 1::(J++⟨62,2,pre.map pA,g,0⟩::K)))) D.length ⟨rfl,[],rfl,.inl ⟨rfl,rfl,[],rfl⟩⟩ ?_ ?_
    · rintro k v H hk ⟨h17, pre, hla, hor⟩
      rw [lasts_drop hk] at hla
      have hkk:=lasts_sort hSle hk
      have hpl:pre.length≤1000000:=by
        have h2:=(lasts_sub D).length_le
        rw [hla] at h2
        simp at h2
        omega
      have tp:(pre.map pA).take pre.length=pre.map pA:=List.take_of_length_le (by simp)
      have hend:((k:Int)+1=(D.length:Int))=(k+1=D.length):=by simp;omega
      have hsn:(pre++[D[k]]).map pA=pre.map pA++[.agg [S (D[k]).1,S (D[k]).2]]:=by simp [pA]
      have hne:pre++[D[k]] ≠ []:=by simp
      have hDl:D.length≤1000000:=by omega
      clear hi hc ho hD hml hSl hSle hl hlen h40 h0 hs
      rcases hor with ⟨rfl,h4,K,rfl⟩|⟨hp,J,K,g,h4,rfl⟩
      · by_cases hr : fk (D[k]).1 (D.drop (k + 1)) = []
        · rw [if_pos hr] at hla
          have h2:=hkk.1 hr
          by_cases he:k+1=D.length
          · simp only [mix, mix_nil, mix_end, mix_skp, Nat.reduceEqDiff, Nat.reduceLeDiff, reduceCtorEq, if_true, if_false, reduceIte, Nat.reduceAdd, h17, h4]
            repeat (first|with_reducible refine w_seq ?_|with_reducible refine w_reg ?_|with_reducible refine w_draw ?_|with_reducible refine w_block ?_|with_reducible refine w_skip ?_|with_reducible refine ws_nil ?_|with_reducible refine wd_nil ?_|with_reducible refine q_then ?_|with_reducible refine q_block_n ?_|((first|with_reducible refine ks fun K hK=>?_|with_reducible refine kd fun K hK=>?_|with_reducible refine kc fun K hK2 hK hK3=>?_);simp (disch:=omega) only [bg0,bg1,bg2,bg3,bg4,stepO,rsAs,eff,AX.ev,St.put,binA,conc,ap1,ofVal,Int.reduceTMod,Int.reduceTDiv,reduceCtorEq,fillA,AV.cells,AV.fine,AV.one,Nat.reduceAdd,Nat.reduceSub,Nat.reduceMul,Nat.reduceLT,Nat.reduceLeDiff,Int.reduceLT,Int.reduceLE,Int.reduceAdd,Int.reduceSub,Int.reduceNeg,Int.reduceMul,Int.reduceEq,Int.reduceToNat,nilA,moveA,live,loadA,rdA,storeA,wrA,intA,elemA,lenA,appA,srcA,isPtr,isNilPtr,partA,resOf,sliceA,cut,id,ap2,reduceIte,concs,chkB,geB,AOp.cls,AOp.xs,ltB,ltC,Nat.reduceBEq,Option.toList,List.cons_append,decide_eq_true,decide_eq_false,if_pos,if_neg,List.length_map,pA_at,bVb,bVn,eq_self,Bool.and_self,BEq.rfl,not_true_eq_false,gR0,gR01,gR02,sR0,sR01,sR02,lR0,lR1,gR1,gR2,gR22,sR1,sR2,sR22,gj1_0,sj1_0,gj2_0,gj2_1,sj2_0,sj2_1,len_last,hend,he,tp];(first|((with_reducible refine hK _ ?_);clear hK K)|((with_reducible refine hK ?_);clear hK hK3 K hK2)|((with_reducible refine hK3 ?_);clear hK hK3 K hK2)))|((first|((with_reducible refine kgd_u ?_ ?_ ?_);rotate_left 1;rfl)|((with_reducible refine kgd_f ?_ ?_ ?_);rotate_left 1;rfl));rotate_left 1;(focus (simp (disch:=omega) only [bg0,bg1,bg2,bg3,bg4,stepO,rsAs,eff,AX.ev,St.put,binA,conc,ap1,ofVal,Int.reduceTMod,Int.reduceTDiv,reduceCtorEq,fillA,AV.cells,AV.fine,AV.one,Nat.reduceAdd,Nat.reduceSub,Nat.reduceMul,Nat.reduceLT,Nat.reduceLeDiff,Int.reduceLT,Int.reduceLE,Int.reduceAdd,Int.reduceSub,Int.reduceNeg,Int.reduceMul,Int.reduceEq,Int.reduceToNat,nilA,moveA,live,loadA,rdA,storeA,wrA,intA,elemA,lenA,appA,srcA,isPtr,isNilPtr,partA,resOf,sliceA,cut,id,ap2,reduceIte,concs,chkB,geB,AOp.cls,AOp.xs,ltB,ltC,Nat.reduceBEq,Option.toList,List.cons_append,decide_eq_true,decide_eq_false,if_pos,if_neg,List.length_map,pA_at,bVb,bVn,eq_self,Bool.and_self,BEq.rfl,not_true_eq_false,gR0,gR01,gR02,sR0,sR01,sR02,lR0,lR1,gR1,gR2,gR22,sR1,sR2,sR22,gj1_0,sj1_0,gj2_0,gj2_1,sj2_0,sj2_1,len_last,hend,he,tp];try rfl))))
            exact ⟨rfl,rfl,[D[k]],by rw [hla];rfl,.inr ⟨by simp,K++[rw0 [D[k]] 0]++[rw0 [D[k]] 0],[],0,by show AV.ol _ _ _=AV.ol _ _ _;simp,rfl⟩⟩
          · have h3 := h2 (by omega)
            simp only [mix,mix_nil,mix_end,mix_skp,Nat.reduceEqDiff,Nat.reduceLeDiff,reduceCtorEq,if_true,if_false,reduceIte,Nat.reduceAdd,h17,h4]
            repeat (first|with_reducible refine w_seq ?_|with_reducible refine w_reg ?_|with_reducible refine w_draw ?_|with_reducible refine w_block ?_|with_reducible refine w_skip ?_|with_reducible refine ws_nil ?_|with_reducible refine wd_nil ?_|with_reducible refine q_then ?_|with_reducible refine q_block_n ?_|((with_reducible refine kgd_t ?_ ?_);rfl)|((first|with_reducible refine ks fun K hK=>?_|with_reducible refine kd fun K hK=>?_|with_reducible refine kc fun K hK2 hK hK3=>?_);simp (disch:=omega) only [bg0,bg1,bg2,bg3,bg4,stepO,rsAs,eff,AX.ev,St.put,binA,conc,ap1,ofVal,Int.reduceTMod,Int.reduceTDiv,reduceCtorEq,fillA,AV.cells,AV.fine,AV.one,Nat.reduceAdd,Nat.reduceSub,Nat.reduceMul,Nat.reduceLT,Nat.reduceLeDiff,Int.reduceLT,Int.reduceLE,Int.reduceAdd,Int.reduceSub,Int.reduceNeg,Int.reduceMul,Int.reduceEq,Int.reduceToNat,nilA,moveA,live,loadA,rdA,storeA,wrA,intA,elemA,lenA,appA,srcA,isPtr,isNilPtr,partA,resOf,sliceA,cut,id,ap2,reduceIte,concs,chkB,geB,AOp.cls,AOp.xs,ltB,ltC,Nat.reduceBEq,Option.toList,List.cons_append,decide_eq_true,decide_eq_false,if_pos,if_neg,List.length_map,pA_at,bVb,bVn,eq_self,Bool.and_self,BEq.rfl,not_true_eq_false,gR0,gR01,gR02,sR0,sR01,sR02,lR0,lR1,gR1,gR2,gR22,sR1,sR2,sR22,gj1_0,sj1_0,gj2_0,gj2_1,sj2_0,sj2_1,len_last,hend,he,h3,tp];(first|((with_reducible refine hK _ ?_);clear hK K)|((with_reducible refine hK ?_);clear hK hK3 K hK2)|((with_reducible refine hK3 ?_);clear hK hK3 K hK2))))
            exact ⟨rfl,rfl,[D[k]],by rw [hla];rfl,.inr ⟨by simp,K++[rw0 [D[k]] 0]++[rw0 [D[k]] 0],[],0,by show AV.ol _ _ _=AV.ol _ _ _;simp,rfl⟩⟩
        · rw [if_neg hr] at hla
          have hex:∃ h2:k+1 < D.length,(D[k+1]).1=(D[k]).1:=by
            by_cases h2:k+1 < D.length
            · refine ⟨h2, ?_⟩
              by_cases h3:(D[k+1]).1=(D[k]).1
              · exact h3
              · exact absurd (hkk.2 fun _=>h3) hr
            · exact absurd (hkk.2 fun h=>absurd h h2) hr
          obtain ⟨h2,h3⟩:=hex
          have he:¬ (k+1=D.length):=by omega
          simp only [mix,mix_nil,mix_end,mix_skp,Nat.reduceEqDiff,Nat.reduceLeDiff,reduceCtorEq,if_true,if_false,reduceIte,Nat.reduceAdd,h17,h4]
          repeat (first|with_reducible refine w_seq ?_|with_reducible refine w_reg ?_|with_reducible refine w_draw ?_|with_reducible refine w_block ?_|with_reducible refine w_skip ?_|with_reducible refine ws_nil ?_|with_reducible refine wd_nil ?_|with_reducible refine q_then ?_|with_reducible refine q_block_n ?_|((with_reducible refine kgd_t ?_ ?_);rfl)|((first|with_reducible refine ks fun K hK=>?_|with_reducible refine kd fun K hK=>?_|with_reducible refine kc fun K hK2 hK hK3=>?_);simp (disch:=omega) only [bg0,bg1,bg2,bg3,bg4,stepO,rsAs,eff,AX.ev,St.put,binA,conc,ap1,ofVal,Int.reduceTMod,Int.reduceTDiv,reduceCtorEq,fillA,AV.cells,AV.fine,AV.one,Nat.reduceAdd,Nat.reduceSub,Nat.reduceMul,Nat.reduceLT,Nat.reduceLeDiff,Int.reduceLT,Int.reduceLE,Int.reduceAdd,Int.reduceSub,Int.reduceNeg,Int.reduceMul,Int.reduceEq,Int.reduceToNat,nilA,moveA,live,loadA,rdA,storeA,wrA,intA,elemA,lenA,appA,srcA,isPtr,isNilPtr,partA,resOf,sliceA,cut,id,ap2,reduceIte,concs,chkB,geB,AOp.cls,AOp.xs,ltB,ltC,Nat.reduceBEq,Option.toList,List.cons_append,decide_eq_true,decide_eq_false,if_pos,if_neg,List.length_map,pA_at,bVb,bVn,eq_self,Bool.and_self,BEq.rfl,not_true_eq_false,gR0,gR01,gR02,sR0,sR01,sR02,lR0,lR1,gR1,gR2,gR22,sR1,sR2,sR22,gj1_0,sj1_0,gj2_0,gj2_1,sj2_0,sj2_1,len_last,hend,he,h3,tp];(first|((with_reducible refine hK _ ?_);clear hK K)|((with_reducible refine hK ?_);clear hK hK3 K hK2)|((with_reducible refine hK3 ?_);clear hK hK3 K hK2))))
          exact ⟨rfl,rfl,[],hla,.inl ⟨rfl,rfl,_,rfl⟩⟩
      · by_cases hr : fk (D[k]).1 (D.drop (k + 1)) = []
        · rw [if_pos hr] at hla
          have h2:=hkk.1 hr
          by_cases he:k+1=D.length
          · simp only [mix, mix_nil, mix_end, mix_skp, Nat.reduceEqDiff, Nat.reduceLeDiff, reduceCtorEq, if_true, if_false, reduceIte, Nat.reduceAdd, h17, h4]
            repeat (first|with_reducible refine w_seq ?_|with_reducible refine w_reg ?_|with_reducible refine w_draw ?_|with_reducible refine w_block ?_|with_reducible refine w_skip ?_|with_reducible refine ws_nil ?_|with_reducible refine wd_nil ?_|with_reducible refine q_then ?_|with_reducible refine q_block_n ?_|((first|with_reducible refine ks fun K hK=>?_|with_reducible refine kd fun K hK=>?_|with_reducible refine kc fun K hK2 hK hK3=>?_);simp (disch:=omega) only [bg0,bg1,bg2,bg3,bg4,stepO,rsAs,eff,AX.ev,St.put,binA,conc,ap1,ofVal,Int.reduceTMod,Int.reduceTDiv,reduceCtorEq,fillA,AV.cells,AV.fine,AV.one,Nat.reduceAdd,Nat.reduceSub,Nat.reduceMul,Nat.reduceLT,Nat.reduceLeDiff,Int.reduceLT,Int.reduceLE,Int.reduceAdd,Int.reduceSub,Int.reduceNeg,Int.reduceMul,Int.reduceEq,Int.reduceToNat,nilA,moveA,live,loadA,rdA,storeA,wrA,intA,elemA,lenA,appA,srcA,isPtr,isNilPtr,partA,resOf,sliceA,cut,id,ap2,reduceIte,concs,chkB,geB,AOp.cls,AOp.xs,ltB,ltC,Nat.reduceBEq,Option.toList,List.cons_append,decide_eq_true,decide_eq_false,if_pos,if_neg,List.length_map,pA_at,bVb,bVn,eq_self,Bool.and_self,BEq.rfl,not_true_eq_false,gR0,gR01,gR02,sR0,sR01,sR02,lR0,lR1,gR1,gR2,gR22,sR1,sR2,sR22,gj1_0,sj1_0,gj2_0,gj2_1,sj2_0,sj2_1,len_last,hend,he,tp];(first|((with_reducible refine hK _ ?_);clear hK K)|((with_reducible refine hK ?_);clear hK hK3 K hK2)|((with_reducible refine hK3 ?_);clear hK hK3 K hK2)))|((first|((with_reducible refine kgd_u ?_ ?_ ?_);rotate_left 1;rfl)|((with_reducible refine kgd_f ?_ ?_ ?_);rotate_left 1;rfl));rotate_left 1;(focus (simp (disch:=omega) only [bg0,bg1,bg2,bg3,bg4,stepO,rsAs,eff,AX.ev,St.put,binA,conc,ap1,ofVal,Int.reduceTMod,Int.reduceTDiv,reduceCtorEq,fillA,AV.cells,AV.fine,AV.one,Nat.reduceAdd,Nat.reduceSub,Nat.reduceMul,Nat.reduceLT,Nat.reduceLeDiff,Int.reduceLT,Int.reduceLE,Int.reduceAdd,Int.reduceSub,Int.reduceNeg,Int.reduceMul,Int.reduceEq,Int.reduceToNat,nilA,moveA,live,loadA,rdA,storeA,wrA,intA,elemA,lenA,appA,srcA,isPtr,isNilPtr,partA,resOf,sliceA,cut,id,ap2,reduceIte,concs,chkB,geB,AOp.cls,AOp.xs,ltB,ltC,Nat.reduceBEq,Option.toList,List.cons_append,decide_eq_true,decide_eq_false,if_pos,if_neg,List.length_map,pA_at,bVb,bVn,eq_self,Bool.and_self,BEq.rfl,not_true_eq_false,gR0,gR01,gR02,sR0,sR01,sR02,lR0,lR1,gR1,gR2,gR22,sR1,sR2,sR22,gj1_0,sj1_0,gj2_0,gj2_1,sj2_0,sj2_1,len_last,hend,he,tp];try rfl))))
            exact ⟨rfl,rfl,pre++[D[k]],by rw [hla];simp,.inr ⟨by simp,J,K++[rw0 [D[k]] 0]++[rw0 [D[k]] 0],g+1,by show AV.ol _ _ _=AV.ol _ _ _;simp,by rw [hsn];simp [pA]⟩⟩
          · have h3 := h2 (by omega)
            simp only [mix,mix_nil,mix_end,mix_skp,Nat.reduceEqDiff,Nat.reduceLeDiff,reduceCtorEq,if_true,if_false,reduceIte,Nat.reduceAdd,h17,h4]
            repeat (first|with_reducible refine w_seq ?_|with_reducible refine w_reg ?_|with_reducible refine w_draw ?_|with_reducible refine w_block ?_|with_reducible refine w_skip ?_|with_reducible refine ws_nil ?_|with_reducible refine wd_nil ?_|with_reducible refine q_then ?_|with_reducible refine q_block_n ?_|((with_reducible refine kgd_t ?_ ?_);rfl)|((first|with_reducible refine ks fun K hK=>?_|with_reducible refine kd fun K hK=>?_|with_reducible refine kc fun K hK2 hK hK3=>?_);simp (disch:=omega) only [bg0,bg1,bg2,bg3,bg4,stepO,rsAs,eff,AX.ev,St.put,binA,conc,ap1,ofVal,Int.reduceTMod,Int.reduceTDiv,reduceCtorEq,fillA,AV.cells,AV.fine,AV.one,Nat.reduceAdd,Nat.reduceSub,Nat.reduceMul,Nat.reduceLT,Nat.reduceLeDiff,Int.reduceLT,Int.reduceLE,Int.reduceAdd,Int.reduceSub,Int.reduceNeg,Int.reduceMul,Int.reduceEq,Int.reduceToNat,nilA,moveA,live,loadA,rdA,storeA,wrA,intA,elemA,lenA,appA,srcA,isPtr,isNilPtr,partA,resOf,sliceA,cut,id,ap2,reduceIte,concs,chkB,geB,AOp.cls,AOp.xs,ltB,ltC,Nat.reduceBEq,Option.toList,List.cons_append,decide_eq_true,decide_eq_false,if_pos,if_neg,List.length_map,pA_at,bVb,bVn,eq_self,Bool.and_self,BEq.rfl,not_true_eq_false,gR0,gR01,gR02,sR0,sR01,sR02,lR0,lR1,gR1,gR2,gR22,sR1,sR2,sR22,gj1_0,sj1_0,gj2_0,gj2_1,sj2_0,sj2_1,len_last,hend,he,h3,tp];(first|((with_reducible refine hK _ ?_);clear hK K)|((with_reducible refine hK ?_);clear hK hK3 K hK2)|((with_reducible refine hK3 ?_);clear hK hK3 K hK2))))
            exact ⟨rfl,rfl,pre++[D[k]],by rw [hla];simp,.inr ⟨by simp,J,K++[rw0 [D[k]] 0]++[rw0 [D[k]] 0],g+1,by show AV.ol _ _ _=AV.ol _ _ _;simp,by rw [hsn];simp [pA]⟩⟩
        · rw [if_neg hr] at hla
          have hex:∃ h2:k+1 < D.length,(D[k+1]).1=(D[k]).1:=by
            by_cases h2:k+1 < D.length
            · refine ⟨h2, ?_⟩
              by_cases h3:(D[k+1]).1=(D[k]).1
              · exact h3
              · exact absurd (hkk.2 fun _=>h3) hr
            · exact absurd (hkk.2 fun h=>absurd h h2) hr
          obtain ⟨h2,h3⟩:=hex
          have he:¬ (k+1=D.length):=by omega
          simp only [mix,mix_nil,mix_end,mix_skp,Nat.reduceEqDiff,Nat.reduceLeDiff,reduceCtorEq,if_true,if_false,reduceIte,Nat.reduceAdd,h17,h4]
          repeat (first|with_reducible refine w_seq ?_|with_reducible refine w_reg ?_|with_reducible refine w_draw ?_|with_reducible refine w_block ?_|with_reducible refine w_skip ?_|with_reducible refine ws_nil ?_|with_reducible refine wd_nil ?_|with_reducible refine q_then ?_|with_reducible refine q_block_n ?_|((with_reducible refine kgd_t ?_ ?_);rfl)|((first|with_reducible refine ks fun K hK=>?_|with_reducible refine kd fun K hK=>?_|with_reducible refine kc fun K hK2 hK hK3=>?_);simp (disch:=omega) only [bg0,bg1,bg2,bg3,bg4,stepO,rsAs,eff,AX.ev,St.put,binA,conc,ap1,ofVal,Int.reduceTMod,Int.reduceTDiv,reduceCtorEq,fillA,AV.cells,AV.fine,AV.one,Nat.reduceAdd,Nat.reduceSub,Nat.reduceMul,Nat.reduceLT,Nat.reduceLeDiff,Int.reduceLT,Int.reduceLE,Int.reduceAdd,Int.reduceSub,Int.reduceNeg,Int.reduceMul,Int.reduceEq,Int.reduceToNat,nilA,moveA,live,loadA,rdA,storeA,wrA,intA,elemA,lenA,appA,srcA,isPtr,isNilPtr,partA,resOf,sliceA,cut,id,ap2,reduceIte,concs,chkB,geB,AOp.cls,AOp.xs,ltB,ltC,Nat.reduceBEq,Option.toList,List.cons_append,decide_eq_true,decide_eq_false,if_pos,if_neg,List.length_map,pA_at,bVb,bVn,eq_self,Bool.and_self,BEq.rfl,not_true_eq_false,gR0,gR01,gR02,sR0,sR01,sR02,lR0,lR1,gR1,gR2,gR22,sR1,sR2,sR22,gj1_0,sj1_0,gj2_0,gj2_1,sj2_0,sj2_1,len_last,hend,he,h3,tp];(first|((with_reducible refine hK _ ?_);clear hK K)|((with_reducible refine hK ?_);clear hK hK3 K hK2)|((with_reducible refine hK3 ?_);clear hK hK3 K hK2))))
          exact ⟨rfl,rfl,pre,hla,.inr ⟨hp,J,K++[rw0 [D[k]] 0],g,rfl,by simp [pA]⟩⟩
    · rintro v H ⟨h17, pre, hla, hor⟩
      rw [List.drop_length] at hla
      have hla2:lasts D=pre:=by rw [hla];simp [lasts]
      rw [hla2]
      rcases hor with ⟨rfl,h4,K,rfl⟩|⟨hp,J,K,g,h4,rfl⟩
      · simp only [mix, mix_nil, mix_end, mix_skp, Nat.reduceEqDiff, Nat.reduceLeDiff, reduceCtorEq, if_true, if_false, reduceIte, Nat.reduceAdd, h17, h4]
        repeat (first|with_reducible refine w_seq ?_|with_reducible refine w_reg ?_|with_reducible refine w_exit ?_|with_reducible refine ws_nil ?_|with_reducible refine q_then ?_|with_reducible refine q_then_x ?_|with_reducible refine q_block_x ?_|with_reducible refine w_ret ?_|((first|with_reducible refine ks fun K hK=>?_|with_reducible refine kd fun K hK=>?_|with_reducible refine kc fun K hK2 hK hK3=>?_);simp (disch:=omega) only [bg0,bg1,bg2,bg3,bg4,stepO,rsAs,eff,AX.ev,St.put,binA,conc,ap1,ofVal,Int.reduceTMod,Int.reduceTDiv,reduceCtorEq,fillA,AV.cells,AV.fine,AV.one,Nat.reduceAdd,Nat.reduceSub,Nat.reduceMul,Nat.reduceLT,Nat.reduceLeDiff,Int.reduceLT,Int.reduceLE,Int.reduceAdd,Int.reduceSub,Int.reduceNeg,Int.reduceMul,Int.reduceEq,Int.reduceToNat,nilA,moveA,live,loadA,rdA,storeA,wrA,intA,elemA,lenA,appA,srcA,isPtr,isNilPtr,partA,resOf,sliceA,cut,id,ap2,reduceIte,concs,chkB,geB,AOp.cls,AOp.xs,ltB,ltC,Nat.reduceBEq,Option.toList,List.cons_append,decide_eq_true,decide_eq_false,if_pos,if_neg,List.length_map,pA_at,bVb,bVn,eq_self,Bool.and_self,BEq.rfl,not_true_eq_false,gR0,gR01,gR02,sR0,sR01,sR02,lR0,lR1,gR1,gR2,gR22,sR1,sR2,sR22,gj1_0,sj1_0,gj2_0,gj2_1,sj2_0,sj2_1,len_last];(first|((with_reducible refine hK _ ?_);clear hK K)|((with_reducible refine hK ?_);clear hK hK3 K hK2)|((with_reducible refine hK3 ?_);clear hK hK3 K hK2)))|((first|with_reducible refine ret_h fun K hK=>?_|with_reducible refine ret_hh rfl fun K hK=>?_|with_reducible refine ret_pp fun K hK=>?_);simp (disch:=omega) only [bg0,bg1,bg2,bg3,bg4,stepO,rsAs,eff,AX.ev,St.put,binA,conc,ap1,ofVal,Int.reduceTMod,Int.reduceTDiv,reduceCtorEq,fillA,AV.cells,AV.fine,AV.one,Nat.reduceAdd,Nat.reduceSub,Nat.reduceMul,Nat.reduceLT,Nat.reduceLeDiff,Int.reduceLT,Int.reduceLE,Int.reduceAdd,Int.reduceSub,Int.reduceNeg,Int.reduceMul,Int.reduceEq,Int.reduceToNat,nilA,moveA,live,loadA,rdA,storeA,wrA,intA,elemA,lenA,appA,srcA,isPtr,isNilPtr,partA,resOf,sliceA,cut,id,ap2,reduceIte,concs,chkB,geB,AOp.cls,AOp.xs,ltB,ltC,Nat.reduceBEq,Option.toList,List.cons_append,decide_eq_true,decide_eq_false,if_pos,if_neg,List.length_map,pA_at,bVb,bVn,eq_self,Bool.and_self,BEq.rfl,not_true_eq_false,gR0,gR01,gR02,sR0,sR01,sR02,lR0,lR1,gR1,gR2,gR22,sR1,sR2,sR22,gj1_0,sj1_0,gj2_0,gj2_1,sj2_0,sj2_1,len_last];(first|((with_reducible refine hK _ ?_ ?_ ?_ ?_);rotate_left 2;rfl;rfl)|((with_reducible refine hK _ ?_);rfl))))
      · simp only [mix, mix_nil, mix_end, mix_skp, Nat.reduceEqDiff, Nat.reduceLeDiff, reduceCtorEq, if_true, if_false, reduceIte, Nat.reduceAdd, h17, h4]
        repeat (first|with_reducible refine w_seq ?_|with_reducible refine w_reg ?_|with_reducible refine w_exit ?_|with_reducible refine ws_nil ?_|with_reducible refine q_then ?_|with_reducible refine q_then_x ?_|with_reducible refine q_block_x ?_|with_reducible refine w_ret ?_|((first|with_reducible refine ks fun K hK=>?_|with_reducible refine kd fun K hK=>?_|with_reducible refine kc fun K hK2 hK hK3=>?_);simp (disch:=omega) only [bg0,bg1,bg2,bg3,bg4,stepO,rsAs,eff,AX.ev,St.put,binA,conc,ap1,ofVal,Int.reduceTMod,Int.reduceTDiv,reduceCtorEq,fillA,AV.cells,AV.fine,AV.one,Nat.reduceAdd,Nat.reduceSub,Nat.reduceMul,Nat.reduceLT,Nat.reduceLeDiff,Int.reduceLT,Int.reduceLE,Int.reduceAdd,Int.reduceSub,Int.reduceNeg,Int.reduceMul,Int.reduceEq,Int.reduceToNat,nilA,moveA,live,loadA,rdA,storeA,wrA,intA,elemA,lenA,appA,srcA,isPtr,isNilPtr,partA,resOf,sliceA,cut,id,ap2,reduceIte,concs,chkB,geB,AOp.cls,AOp.xs,ltB,ltC,Nat.reduceBEq,Option.toList,List.cons_append,decide_eq_true,decide_eq_false,if_pos,if_neg,List.length_map,pA_at,bVb,bVn,eq_self,Bool.and_self,BEq.rfl,not_true_eq_false,gR0,gR01,gR02,sR0,sR01,sR02,lR0,lR1,gR1,gR2,gR22,sR1,sR2,sR22,gj1_0,sj1_0,gj2_0,gj2_1,sj2_0,sj2_1,len_last];(first|((with_reducible refine hK _ ?_);clear hK K)|((with_reducible refine hK ?_);clear hK hK3 K hK2)|((with_reducible refine hK3 ?_);clear hK hK3 K hK2))))
        exact ret_frz rfl (List.getElem?_cons_succ.trans gR0) (by simp) (all_pA _)
end Go.Proofs.Ytghbpplcgjeohaa.Sim.Pr7
namespace Go.Proofs.Ytghbpplcgjeohaa.Sim.Pr7
open Go.RowKit
set_option maxRecDepth 100000
theorem sle_at {A:List Pr} (h:SLe A) {i j:Nat} (hij:i≤j) (hj:j < A.length):cB (A[i]'(by omega)).1 (A[j]).1≤0:=by
  by_cases e:i=j
  · subst e;rw [cB_self];omega
  · exact List.pairwise_iff_getElem.1 h i j (by omega) hj (by omega)
theorem hc_row {G:Nat→AV} {f:FuncId} {xs:List AV} {D D' E E':List Pr} {g:Nat} {r:AV} (h:HC Try.prog G f xs [rw0 D g] r [rw0 E g]) (e1:D=D') (e2:E=E'):HC Try.prog G f xs [rw0 D' g] r [rw0 E' g]:=by
  subst e1;subst e2;exact h
theorem okl_perm {D D':List Pr} (h:Okl D) (hl:D'.length=D.length) (hm:∀ x ∈ D',x ∈ D):Okl D':=⟨by rw [hl];exact h.len,fun p hp=>h.sz p (hm p hp)⟩
theorem mem_take_at {L:List Pr} {n:Nat} {x:Pr} (h:x ∈ L.take n):∃ i,∃ hi:i < L.length,i < n∧L[i]=x:=by
  obtain ⟨i,hi,rfl⟩:=List.mem_take_iff_getElem.1 h
  exact ⟨i,by omega,by omega,rfl⟩
theorem mem_drop_at {L:List Pr} {n:Nat} {x:Pr} (h:x ∈ L.drop n):∃ i,∃ hi:i < L.length,n≤i∧L[i]=x:=by
  obtain ⟨i,hi,rfl⟩:=List.mem_drop_iff_getElem.1 h
  exact ⟨n+i,by omega,by omega,rfl⟩
theorem sym_cut {A B : List Pr} {a s mid m : Nat} (sA : SLe A) (sB : SLe B) (h1 : a ≤ s) (h2 : s ≤ m) (h3 : s ≤ mid) (hA : a + A.length = m) (hb : mid ≤ s + B.length)
    (hlo:a < s→mid < s+B.length→∀ x y,A[s - 1 - a]? = some x→B[mid - s]? = some y→¬ cB y.1 x.1 < 0)
    (hhi:s < m→s < mid→∀ x y,A[s - a]? = some x→B[mid - 1 - s]? = some y→cB y.1 x.1 < 0) :
    ssort (A++B)=ssort (A.take (s - a)++B.take (mid - s))++ssort (A.drop (s - a)++B.drop (mid - s))∧(∀ x ∈ A.drop (s - a),∀ y ∈ B.take (mid - s),cB y.1 x.1 < 0):=by
  have g1:∀ x ∈ A.drop (s - a),∀ y ∈ B.take (mid - s),cB y.1 x.1 < 0:=fun x hx y hy=>by
    obtain ⟨i,hi,hi2,rfl⟩:=mem_drop_at hx
    obtain ⟨j,hj,hj2,rfl⟩:=mem_take_at hy
    have k1:s - a < A.length:=by omega
    have k2:mid - 1 - s < B.length:=by omega
    have:=hhi (by omega) (by omega) _ _ (List.getElem?_eq_getElem k1) (List.getElem?_eq_getElem k2)
    have c1:=sle_at sA (i:=s - a) (j:=i) (by omega) hi
    have c2:=sle_at sB (i:=j) (j:=mid - 1 - s) (by omega) k2
    exact cB_lt1 (cB_lt2 c2 this) c1
  refine ⟨?_,g1⟩
  have e1:=List.take_append_drop (s - a) A
  have e2:=List.take_append_drop (mid - s) B
  have:=ssort_merge (A1:=A.take (s - a)) (A2:=A.drop (s - a)) (B1:=B.take (mid - s)) (B2:=B.drop (mid - s)) (by rw [e1];exact sA) (by rw [e2];exact sB) g1 (fun x hx y hy=>by
    obtain ⟨i,hi,hi2,rfl⟩:=mem_take_at hx
    obtain ⟨j,hj,hj2,rfl⟩:=mem_drop_at hy
    have k1:s - 1 - a < A.length:=by omega
    have k2:mid - s < B.length:=by omega
    have:=hlo (by omega) (by omega) _ _ (List.getElem?_eq_getElem k1) (List.getElem?_eq_getElem k2)
    have c1:=sle_at sA (i:=i) (j:=s - 1 - a) (by omega) k1
    have c2:=sle_at sB (i:=mid - s) (j:=j) (by omega) hj
    refine cB_le c1 (cB_le ?_ c2)
    rw [cB_anti (B[mid - s]).1];omega)
  rwa [e1,e2] at this
theorem ssort_nil1 {X Y:List Pr} (h:X=[]∨Y=[]) (hX:SLe X) (hY:SLe Y):ssort (X++Y)=X++Y:=by
  rcases h with rfl|rfl
  · exact ssort_of hY
  · rw [List.append_nil];exact ssort_of hX
theorem sym_all {G : Nat → AV} {g n : Nat} {P A B R : List Pr} {N a m b s mid e : Nat}
    (ih:∀ (P A B R:List Pr) (N a m b:Nat),A.length+B.length≤n→(P++(A++(B++R))).length=N→P.length=a→a+A.length=m→m+B.length=b→0 < A.length→0 < B.length→SLe A→SLe B→Okl (P++(A++(B++R))) →
      HC Try.prog G 68 [.ol 0 g N,I a,I m,I b,cF] [rw0 (P++(A++(B++R))) g] (.tup []) [rw0 (P++(ssort (A++B)++R)) g])
    (hn:A.length+B.length≤n+1) (hN:(P++(A++(B++R))).length=N) (hP:P.length=a) (hA:a+A.length=m) (hB:m+B.length=b) (sA:SLe A) (sB:SLe B) (hok:Okl (P++(A++(B++R))))
    (h1:a≤s) (h2:s≤m) (h3:s≤mid) (hb:mid≤s+B.length) (he:e+s=mid+m) (hmb:mid < b) (ham:a < mid)
    (hlo:a < s→mid < s+B.length→∀ x y,A[s - 1 - a]? = some x→B[mid - s]? = some y→¬ cB y.1 x.1 < 0)
    (hhi:s < m→s < mid→∀ x y,A[s - a]? = some x→B[mid - 1 - s]? = some y→cB y.1 x.1 < 0) :
    ∃ D1 D2 D3:List Pr,D3=P++(ssort (A++B)++R)∧D1.length=N∧D2.length=N ∧
      (s < m→m < e→HC Try.prog G 69 [.ol 0 g N,I s,I m,I e,cF] [rw0 (P++(A++(B++R))) g] (.tup []) [rw0 D1 g])∧(¬ (s < m∧m < e)→P++(A++(B++R))=D1) ∧
      (a < s→s < mid→HC Try.prog G 68 [.ol 0 g N,I a,I s,I mid,cF] [rw0 D1 g] (.tup []) [rw0 D2 g])∧(¬ (a < s∧s < mid)→D1=D2) ∧
      (mid < e→e < b→HC Try.prog G 68 [.ol 0 g N,I mid,I e,I b,cF] [rw0 D2 g] (.tup []) [rw0 D3 g])∧(¬ (mid < e∧e < b)→D2=D3):=by
  obtain ⟨c1,c2⟩:=sym_cut sA sB h1 h2 h3 hA hb hlo hhi
  have eA:=List.take_append_drop (s - a) A
  have eB:=List.take_append_drop (mid - s) B
  have lA1:(A.take (s - a)).length=s - a:=by simp;omega
  have lA2:(A.drop (s - a)).length=m - s:=by simp;omega
  have lB1:(B.take (mid - s)).length=mid - s:=by simp;omega
  have lB2:(B.drop (mid - s)).length=b - e:=by simp;omega
  have sA1:SLe (A.take (s - a)):=List.Pairwise.sublist (List.take_sublist ..) sA
  have sA2:SLe (A.drop (s - a)):=List.Pairwise.sublist (List.drop_sublist ..) sA
  have sB1:SLe (B.take (mid - s)):=List.Pairwise.sublist (List.take_sublist ..) sB
  have sB2:SLe (B.drop (mid - s)):=List.Pairwise.sublist (List.drop_sublist ..) sB
  rw [c1]
  generalize A.take (s - a)=A1 at *
  generalize A.drop (s - a)=A2 at *
  generalize B.take (mid - s)=B1 at *
  generalize B.drop (mid - s)=B2 at *
  clear hlo hhi c1
  subst eA
  subst eB
  simp only [List.length_append] at hn hA hB hN hb
  have hm1:∀ x,x ∈ P++(A1++(B1++(A2++(B2++R))))→x ∈ P++((A1++A2)++((B1++B2)++R)):=fun x hx=>by
    simp only [List.mem_append] at hx ⊢
    rcases hx with h|h|h|h|h|h<;>simp [h]
  have hm2:∀ x,x ∈ (P++ssort (A1++B1))++(A2++(B2++R))→x ∈ P++((A1++A2)++((B1++B2)++R)):=fun x hx=>by
    simp only [List.mem_append,ssort_mem] at hx ⊢
    rcases hx with (h|h|h)|h|h|h<;>simp [h]
  have ok1:Okl (P++(A1++(B1++(A2++(B2++R))))):=okl_perm hok (by simp;omega) hm1
  have ok2:Okl ((P++ssort (A1++B1))++(A2++(B2++R))):=okl_perm hok (by simp [ssort_len];omega) hm2
  refine ⟨P++(A1++(B1++(A2++(B2++R)))),P++(ssort (A1++B1)++(A2++(B2++R))),_,rfl,by simp;omega,by simp [ssort_len];omega,fun k1 k2=>?_,fun hk=>?_,fun k1 k2=>?_,fun hk=>?_,fun k1 k2=>?_,fun hk=>?_⟩
  · have hr := rot_list (P := P ++ A1) (A := A2) (B := B1) (R := B2 ++ R)
    have e1:(P++A1).length=s:=by simp;omega
    have e2:(P++A1).length+A2.length=m:=by simp;omega
    have e3:(P++A1).length+A2.length+B1.length=e:=by simp;omega
    rw [e3,e2,e1] at hr
    have hlN:(P++(A1++A2++(B1++B2++R))).length=N:=by simp;omega
    have:=rot45 G (P++(A1++A2++(B1++B2++R))) g s m e hok.len k1 k2 (by rw [hlN];omega) cF
    rw [hlN] at this
    refine hc_row this rfl ?_
    have e4:P++(A1++A2++(B1++B2++R))=P++A1++(A2++(B1++(B2++R))):=by simp
    rw [e4,hr];simp
  · have : A2 = [] ∨ B1 = [] := by
      by_cases hh:s < m
      · right;exact List.length_eq_zero_iff.1 (by omega)
      · left;exact List.length_eq_zero_iff.1 (by omega)
    rcases this with rfl|rfl<;>simp
  · exact ih P A1 B1 (A2++(B2++R)) N a s mid (by omega) (by simp;omega) hP (by omega) (by omega) (by omega) (by omega) sA1 sB1 ok1
  · rw [ssort_nil1 _ sA1 sB1]
    · simp
    · by_cases hh : a < s
      · right;exact List.length_eq_zero_iff.1 (by omega)
      · left;exact List.length_eq_zero_iff.1 (by omega)
  · have := ih (P ++ ssort (A1 ++ B1)) A2 B2 R N mid e b (by omega) (by simp [ssort_len]; omega) (by simp [ssort_len]; omega) (by omega) (by omega) (by omega) (by omega) sA2 sB2 ok2
    exact hc_row this (by simp) (by simp)
  · rw [ssort_nil1 (X := A2) _ sA2 sB2]
    · simp
    · by_cases hh : mid < e
      · right;exact List.length_eq_zero_iff.1 (by omega)
      · left;exact List.length_eq_zero_iff.1 (by omega)
theorem eVu {H:Hp} {k:KK} {n:Nat} (h:n≤9223372036854775807) (hk:k (.v (.int .u64 (n:Int))) H):ObE ((ap1 (fun v=>pureRun Try.prog (convert 3 86 v)) (.v (.int .i64 (n:Int)))).map (·,H)) k :=
  ⟨_,_,by simp only [ap1,conc,cVu (show (0:Int)≤(n:Int) by omega) (show (n:Int)≤9223372036854775807 by omega)];rfl,hk⟩
theorem eVi {H:Hp} {k:KK} {n:Nat} (h:n≤9223372036854775807) (hk:k (.v (.int .i64 (n:Int))) H):ObE ((ap1 (fun v=>pureRun Try.prog (convert 86 3 v)) (.v (.int .u64 (n:Int)))).map (·,H)) k :=
  ⟨_,_,by simp only [ap1,conc,cVi (show (0:Int)≤(n:Int) by omega) (show (n:Int)≤9223372036854775807 by omega)];rfl,hk⟩
theorem eShr {H:Hp} {k:KK} {n:Nat} {t:TypeId} {xo yo:Operand} (hk:k (.v (.int .u64 ((n / 2:Nat):Int))) H):ObE ((binA Try.prog H .shr t false xo yo (.v (.int .u64 (n:Int))) (.v (.int .u64 1))).map (·,H)) k:=by
  have:=shr1 (P:=Try.prog) (t:=t) (xo:=xo) (yo:=yo) (i:=n) (j:=0)
  rw [show ((n:Int)+((0:Nat):Int))=(n:Int) by simp,Nat.add_zero] at this
  exact ⟨_,_,by simp only [binA,conc,this,Bool.false_eq_true,if_false];rfl,hk⟩
set_option maxHeartbeats 40000000 in
theorem sym44 (G : Nat → AV) (g : Nat) : ∀ (n : Nat) (P A B R : List Pr) (N a m b : Nat), A.length + B.length ≤ n → (P ++ (A ++ (B ++ R))).length = N → P.length = a → a + A.length = m → m + B.length = b → 0 < A.length → 0 < B.length → SLe A → SLe B → Okl (P ++ (A ++ (B ++ R))) →
    HC Try.prog G 68 [.ol 0 g N,I a,I m,I b,cF] [rw0 (P++(A++(B++R))) g] (.tup []) [rw0 (P++(ssort (A++B)++R)) g]
  | 0,P,A,B,R,N,a,m,b,hn,_,_,_,_,hA0,_,_,_,_=>by omega
  | n+1,P,A,B,R,N,a,m,b,hn,hN,hP,hA,hB,hA0,hB0,sA,sB,hok=>by
    by_cases hA1:A.length=1
    · obtain ⟨x, rfl⟩ := List.length_eq_one_iff.1 hA1
      exact symL G g P B R x N a m b hN hP (by simpa using hA) hB sB hok
    by_cases hB1:B.length=1
    · obtain ⟨x, rfl⟩ := List.length_eq_one_iff.1 hB1
      exact symR G g P A R x N a m b hN hP hA (by omega) (by simpa using hB) sA hok
    have hlen:=hok.len
    rw [hN] at hlen
    have hbN:b≤N:=by rw [← hN];simp;omega
    have hsA:∀ p ∈ A,p.1.size≤9223372036854775807:=fun p hp=>(hok.sz p (by simp [hp])).1
    have hsB:∀ p ∈ B,p.1.size≤9223372036854775807:=fun p hp=>(hok.sz p (by simp [hp])).1
    obtain ⟨mid,hmid⟩:∃ mid,mid=(a+b) / 2:=⟨_,rfl⟩
    obtain ⟨s0,hs0⟩:∃ s0,s0=if mid < m then mid+m - b else a:=⟨_,rfl⟩
    obtain ⟨r0,hr0⟩:∃ r0,r0=if mid < m then mid else m:=⟨_,rfl⟩
    have hsr:a≤s0∧s0≤r0∧r0≤m∧r0≤mid∧mid+m≤b+s0∧(s0=a∨mid+m=b+s0)∧(r0=m∨r0=mid)∧mid < b∧a < mid:=by
      rw [hs0,hr0];split<;>omega
    obtain ⟨sr1,sr2,sr3,sr4,sr5,sr6,sr7,sr8,sr9⟩:=hsr
    have ema:¬ ((m:Int) - (a:Int)=1):=by omega
    have ebm:¬ ((b:Int) - (m:Int)=1):=by omega
    have hm:=hmid.symm
    -- the two places that are looked at
    have hq:∀ c,s0≤c→c < r0→∃ x y:Pr,A[c - a]? = some x∧B[mid - 1 - c]? = some y∧((P++(A++(B++R))).map pA)[c]? = some (.agg [S x.1,S x.2])∧((P++(A++(B++R))).map pA)[mid+m - 1 - c]? = some (.agg [S y.1,S y.2])∧x.1.size≤9223372036854775807∧y.1.size≤9223372036854775807:=fun c c1 c2=>by
      have i1:c - a < A.length:=by omega
      have i2:mid - 1 - c < B.length:=by omega
      refine ⟨A[c - a],B[mid - 1 - c],List.getElem?_eq_getElem i1,List.getElem?_eq_getElem i2,pAq ?_,pAq ?_,hsA _ (List.getElem_mem i1),hsB _ (List.getElem_mem i2)⟩
      · have := gdA (P := P) (A := A) (R := B ++ R) (k := c) (by omega) (by omega)
        rw [this];congr 2;omega
      · have := gdA (P := P ++ A) (A := B) (R := R) (k := mid + m - 1 - c) (by simp; omega) (by simp; omega)
        rw [List.append_assoc] at this
        rw [this];congr 2;simp;omega
    -- of two such the one further on is smaller
    have hmon:∀ c d x y x' y',s0≤c→c≤d→d < r0→A[c - a]? = some x→B[mid - 1 - c]? = some y→A[d - a]? = some x'→B[mid - 1 - d]? = some y'→cB y.1 x.1 < 0→cB y'.1 x'.1 < 0:=fun c d x y x' y' c1 c2 c3 e1 e2 e3 e4 h=>by
      have i1:c - a < A.length:=by omega
      have i2:mid - 1 - c < B.length:=by omega
      have i3:d - a < A.length:=by omega
      have i4:mid - 1 - d < B.length:=by omega
      rw [List.getElem?_eq_getElem i1] at e1
      rw [List.getElem?_eq_getElem i2] at e2
      rw [List.getElem?_eq_getElem i3] at e3
      rw [List.getElem?_eq_getElem i4] at e4
      cases e1;cases e2;cases e3;cases e4
      have g1:=sle_at sA (i:=c - a) (j:=d - a) (by omega) i3
      have g2:=sle_at sB (i:=mid - 1 - d) (j:=mid - 1 - c) (by omega) i2
      exact cB_lt1 (cB_lt2 g2 h) g1
    have hfin:=fun (s e:Nat) h1 h2 h3 hb he hlo hhi=>sym_all (G:=G) (g:=g) (s:=s) (mid:=mid) (e:=e) (sym44 G g n) hn hN hP hA hB sA sB hok h1 h2 h3 hb he sr8 sr9 hlo hhi
    generalize hD:P++(A++(B++R))=D at *
    generalize hE:P++(ssort (A++B)++R)=E at *
    have hb1:mid+m≤2000000:=by omega
    have hAl:m=a+A.length:=hA.symm
    have hBl:b=m+B.length:=hB.symm
    clear hn hP hsA hsB hA0 hB0 hA1 hB1 hlen hok sA sB
    refine hc_ofV cop68 rfl ?_
    repeat' ((conv=>whnf);first|(with_reducible refine SeqP.go ?_)|((with_reducible refine eVu ?_ ?_);(focus omega))|((with_reducible refine eVi ?_ ?_);(focus omega))|(with_reducible refine eShr ?_)|((with_reducible refine ObN.mk ?_ ?_);(focus exact zN))|(with_reducible refine ObT.tt ?_)|(with_reducible refine ObT.ff ?_)|((with_reducible refine ObB.no ?_ ?_);(focus (first|assumption|omega)))|(with_reducible refine ObB.mk (fun h=>?_) (fun h=>?_))|((with_reducible refine ObI.nn ?_ ?_);(focus omega))|((with_reducible refine ObI.sn ?_ ?_ ?_);(focus omega);(focus omega))|((with_reducible refine ObI.sl ?_ ?_ ?_);(focus omega);(focus omega)))
    all_goals
      conv=>whnf
      simp only [hm]
      refine LoopP.go (α:=Nat × Nat) (fun p=>s0≤p.1∧p.1≤p.2∧p.2≤r0∧(∀ c x y,s0≤c→c < p.1→A[c - a]? = some x→B[mid - 1 - c]? = some y→¬ cB y.1 x.1 < 0)∧(∀ c x y,p.2≤c→c < r0→A[c - a]? = some x→B[mid - 1 - c]? = some y→cB y.1 x.1 < 0)) (fun p=>p.2 - p.1) (fun p=>[(20,some (I p.1)),(0,some (I p.2)),(1,none),(125,none),(0,none),(0,none),(0,none),(0,none),(0,none),(0,none),(0,none),(0,none),(0,none),(0,none),(0,none),(0,none),(0,none),(0,none),(0,none),(0,none),(0,none),(0,none),(0,none),(0,none),(0,none),(0,none),(0,none),(0,none),(0,none)]) (fun _=>[rw0 D g]) (s0,r0) ⟨Nat.le_refl _,sr2,Nat.le_refl _,fun c x y h1 h2=>by omega,fun c x y h1 h2=>by omega⟩ (Fg.go ?_ rfl) ?_
      · have hs1 := hs0
        have hr1:=hr0
        first|rw [if_pos (by omega)] at hs1 hr1|rw [if_neg (by omega)] at hs1 hr1
        clear hs0 hr0
        repeat' ((conv=>whnf);first|((with_reducible refine ObEqs.mk ?_ ?_);(focus rfl))|((with_reducible refine ObEq1.i ?_ ?_);(focus (first|(with_reducible rfl)|omega)))|exact True.intro)
      rintro ⟨i,j⟩ ⟨i1,i2,i3,hlo,hhi⟩
      dsimp only at i1 i2 i3 hlo hhi ⊢
      clear hmid hs0 hr0 ema ebm
      by_cases hij:i < j
      · obtain ⟨x, y, ex, ey, q1, q2, hx, hy⟩ := hq ((i + j) / 2) (by omega) (by omega)
        by_cases hlt:cB y.1 x.1 < 0
        · have hhi2:∀ c x y,(i+j) / 2≤c→c < r0→A[c - a]? = some x→B[mid - 1 - c]? = some y→cB y.1 x.1 < 0:=fun c x' y' c1 c2 e1 e2=>hmon ((i+j) / 2) c x y x' y' (by omega) c1 c2 ex ey e1 e2 hlt
          clear hmon hfin hq hhi
          repeat' ((conv=>whnf);first|(with_reducible refine SeqP.go ?_)|((with_reducible refine eVu ?_ ?_);(focus omega))|((with_reducible refine eVi ?_ ?_);(focus omega))|(with_reducible refine eShr ?_)|((with_reducible refine ObD.mk ?_ ?_);(focus (first|rfl|(simp [hN];done))))|((with_reducible refine ObN.mk ?_ ?_);(focus (first|rfl|assumption|omega|(simp only [List.length_map,List.length_append,List.length_cons,List.length_nil,hN];omega)|(simp [hN];done)|(simp [hN];omega))))|(with_reducible refine ObT.tt ?_)|(with_reducible refine ObT.ff ?_)|((with_reducible refine ObB.yes ?_ ?_);(focus (first|assumption|(with_reducible rfl)|omega)))|((with_reducible refine ObI.nn ?_ ?_);(focus omega))|((with_reducible refine ObI.sn ?_ ?_ ?_);(focus omega);(focus omega))|((with_reducible refine ObX.mk _ rfl ?_ ?_);(focus (first|omega|assumption|(simp only [List.length_map,List.length_append,List.length_cons,List.length_nil,List.length_take,List.length_drop,List.length_set,List.length_replicate,hN];omega))))|((with_reducible refine (?_:ObU _ _));(refine ObU.mk _ (by first|assumption|((conv=>lhs;simp only [List.set_cons_zero,List.set_cons_succ,List.take_succ_cons,List.take_zero,List.drop_succ_cons,List.drop_zero,List.nil_append,List.cons_append,List.append_nil,List.take_nil,List.drop_nil,hN]);try rfl)|rfl) ?_))|((with_reducible refine (?_:ObR _ _ _));(first|(refine ObR.mk _ (by assumption) ?_)|(refine ObR.mk _ (by exact (by first|exact q1|exact q2|(refine Eq.trans (congrArg _ ?_) q2;omega))) ?_)|(refine ObR.mk _ (by with_reducible rfl) ?_)|(refine ObR.map (by (first|omega|assumption|(simp only [List.length_map,List.length_append,List.length_cons,List.length_nil,List.length_take,List.length_drop,List.length_set,List.length_replicate,hN];omega))) (fun x hx=>?_))|(refine ObR.mk _ rfl ?_)))|((with_reducible refine ObH.f 64 ?_);(first|(with_reducible refine ObH.mk _ _ ((cmpC G _ hy hx)) ?_)|(refine ObH.mk _ _ ((cmpC G _ hy hx)) ?_))))
          conv=>whnf
          refine Again.mk (i,(i+j) / 2) ?_ ?_ (Fg.go ?_ rfl)
          · exact ⟨i1,by dsimp only;omega,by dsimp only;omega,hlo,hhi2⟩
          · dsimp only;omega
          repeat' ((conv=>whnf);first|((with_reducible refine ObEqs.mk ?_ ?_);(focus rfl))|((with_reducible refine ObEq1.i ?_ ?_);(focus (first|(with_reducible rfl)|omega)))|exact True.intro)
        · have hlo2:∀ c x y,s0≤c→c < (i+j) / 2+1→A[c - a]? = some x→B[mid - 1 - c]? = some y→¬ cB y.1 x.1 < 0:=fun c x' y' c1 c2 e1 e2 hQ=>hlt (hmon c ((i+j) / 2) x' y' x y c1 (by omega) (by omega) e1 e2 ex ey hQ)
          clear hmon hfin hq hlo
          repeat' ((conv=>whnf);first|(with_reducible refine SeqP.go ?_)|((with_reducible refine eVu ?_ ?_);(focus omega))|((with_reducible refine eVi ?_ ?_);(focus omega))|(with_reducible refine eShr ?_)|((with_reducible refine ObD.mk ?_ ?_);(focus (first|rfl|(simp [hN];done))))|((with_reducible refine ObN.mk ?_ ?_);(focus (first|rfl|assumption|omega|(simp only [List.length_map,List.length_append,List.length_cons,List.length_nil,hN];omega)|(simp [hN];done)|(simp [hN];omega))))|(with_reducible refine ObT.tt ?_)|(with_reducible refine ObT.ff ?_)|((with_reducible refine ObB.yes ?_ ?_);(focus (first|assumption|(with_reducible rfl)|omega)))|((with_reducible refine ObB.no ?_ ?_);(focus (first|assumption|omega)))|((with_reducible refine ObI.nn ?_ ?_);(focus omega))|((with_reducible refine ObI.nl ?_ ?_);(focus omega))|((with_reducible refine ObI.sn ?_ ?_ ?_);(focus omega);(focus omega))|((with_reducible refine ObX.mk _ rfl ?_ ?_);(focus (first|omega|assumption|(simp only [List.length_map,List.length_append,List.length_cons,List.length_nil,List.length_take,List.length_drop,List.length_set,List.length_replicate,hN];omega))))|((with_reducible refine (?_:ObU _ _));(refine ObU.mk _ (by first|assumption|((conv=>lhs;simp only [List.set_cons_zero,List.set_cons_succ,List.take_succ_cons,List.take_zero,List.drop_succ_cons,List.drop_zero,List.nil_append,List.cons_append,List.append_nil,List.take_nil,List.drop_nil,hN]);try rfl)|rfl) ?_))|((with_reducible refine (?_:ObR _ _ _));(first|(refine ObR.mk _ (by assumption) ?_)|(refine ObR.mk _ (by exact (by first|exact q1|exact q2|(refine Eq.trans (congrArg _ ?_) q2;omega))) ?_)|(refine ObR.mk _ (by with_reducible rfl) ?_)|(refine ObR.map (by (first|omega|assumption|(simp only [List.length_map,List.length_append,List.length_cons,List.length_nil,List.length_take,List.length_drop,List.length_set,List.length_replicate,hN];omega))) (fun x hx=>?_))|(refine ObR.mk _ rfl ?_)))|((with_reducible refine ObH.f 64 ?_);(first|(with_reducible refine ObH.mk _ _ ((cmpC G _ hy hx)) ?_)|(refine ObH.mk _ _ ((cmpC G _ hy hx)) ?_))))
          conv=>whnf
          refine Again.mk ((i+j) / 2+1,j) ?_ ?_ (Fg.go ?_ rfl)
          · exact ⟨by dsimp only;omega,by dsimp only;omega,i3,hlo2,hhi⟩
          · dsimp only;omega
          repeat' ((conv=>whnf);first|((with_reducible refine ObEqs.mk ?_ ?_);(focus rfl))|((with_reducible refine ObEq1.i ?_ ?_);(focus (first|(with_reducible rfl)|omega)))|exact True.intro)
      · obtain rfl : j = i := by omega
        obtain ⟨e,he⟩:∃ e,e+j=mid+m:=⟨mid+m - j,by omega⟩
        obtain ⟨D1,D2,D3,hD3,l1,l2,f1,f2,f3,f4,f5,f6⟩:=hfin j e (by omega) (by omega) (by omega) (by omega) he (fun c1 c2 x y e1 e2=>hlo (j - 1) x y (by omega) (by omega) e1 (by rw [show mid - 1 - (j - 1)=mid - j by omega];exact e2)) (fun c1 c2 x y e1 e2=>hhi j x y (by omega) (by omega) e1 e2)
        subst hD3
        have ee:e=mid+m - j:=by omega
        have hja:a≤j∧j≤m∧j≤mid:=by omega
        have heN:e≤b:=by omega
        clear hmon hfin hq hlo hhi i1 i2 i3 sr1 sr2 sr3 sr4 sr5 sr6 sr7 hij he
        obtain ⟨ja,jm,jd⟩:=hja
        subst ee
        by_cases p1:j < m<;>by_cases p3:a < j<;>by_cases p4:j < mid<;>by_cases p6:mid+m - j < b<;>(try (exfalso;omega))
        all_goals
          (first|(have r1:=f1 p1 (by omega))|(have r1:=f2 (by omega);subst r1))
          (first|(have r2:=f3 p3 p4)|(have r2:=f4 (by omega);subst r2))
          (first|(have r3:=f5 (by omega) p6)|(have r3:=f6 (by omega);subst r3))
          clear f1 f2 f3 f4 f5 f6
          repeat' ((conv=>whnf);first|(with_reducible refine SeqP.go ?_)|((with_reducible refine ObN.mk ?_ ?_);(focus exact zN))|(with_reducible refine ObT.tt ?_)|(with_reducible refine ObT.ff ?_)|((with_reducible refine ObB.yes ?_ ?_);(focus (first|assumption|(with_reducible rfl)|omega)))|((with_reducible refine ObB.no ?_ ?_);(focus (first|assumption|omega)))|((with_reducible refine ObI.sn ?_ ?_ ?_);(focus omega);(focus omega))|((with_reducible refine ObH.f 69 ?_);(first|(with_reducible refine ObH.mk _ _ (r1) ?_)|(refine ObH.mk _ _ (r1) ?_)))|((with_reducible refine ObH.f 68 ?_);(first|(with_reducible refine ObH.mk _ _ (r2) ?_)|(refine ObH.mk _ _ (r2) ?_)))|((with_reducible refine ObH.f 68 ?_);(first|(with_reducible refine ObH.mk _ _ (r3) ?_)|(refine ObH.mk _ _ (r3) ?_)))|(exact ObEnd.eq rfl rfl))
end Go.Proofs.Ytghbpplcgjeohaa.Sim.Pr7
namespace Go.Proofs.Ytghbpplcgjeohaa.Sim
open Go.RowKit
set_option maxRecDepth 100000
theorem leaf14 (G:Nat→AV) (k v:ByteArray):PC Try.prog G 28 [S k,S v] (nV 1 k v 0 [] 0 [] 1 0):=by
  refine pc_ofV cop28 ?_
  repeat' ((conv=>whnf);first|(with_reducible refine SeqP.go ?_)|((with_reducible refine ObD.mk ?_ ?_);(focus (first|rfl|(simp;done))))|((with_reducible refine ObN.mk ?_ ?_);(focus exact zN))|((with_reducible refine (?_:ObU _ _));(refine ObU.mk _ zU ?_))|((with_reducible refine (?_:ObR _ _ _));(first|(refine ObR.mk _ (by assumption) ?_)|(refine ObR.mk _ (by with_reducible rfl) ?_)|(refine ObR.map zX (fun x hx=>?_))|(refine ObR.mk _ rfl ?_)))|((with_reducible refine ObEq.mk ?_);(focus (first|rfl|assumption))))
theorem tomb15 (G:Nat→AV) (k v:ByteArray):PC Try.prog G 44 [S k,S v] (nV 6 k v 0 [] 0 [] 1 0):=by
  refine pc_ofV cop44 ?_
  repeat' ((conv=>whnf);first|(with_reducible refine SeqP.go ?_)|((with_reducible refine ObD.mk ?_ ?_);(focus (first|rfl|(simp;done))))|((with_reducible refine ObN.mk ?_ ?_);(focus exact zN))|((with_reducible refine (?_:ObU _ _));(refine ObU.mk _ zU ?_))|((with_reducible refine (?_:ObR _ _ _));(first|(refine ObR.mk _ (by assumption) ?_)|(refine ObR.mk _ (by with_reducible rfl) ?_)|(refine ObR.map zX (fun x hx=>?_))|(refine ObR.mk _ rfl ?_)))|((with_reducible refine ObEq.mk ?_);(focus (first|rfl|assumption))))
theorem inner17 (G:Nat→AV) (a:Int):PC Try.prog G 29 [I a] (nV 5 ⟨#[]⟩ ⟨#[]⟩ 0 [] a [] 0 0):=by
  refine pc_ofV cop29 ?_
  repeat' ((conv=>whnf);first|(with_reducible refine SeqP.go ?_)|((with_reducible refine ObD.mk ?_ ?_);(focus (first|rfl|(simp;done))))|((with_reducible refine ObN.mk ?_ ?_);(focus exact zN))|((with_reducible refine (?_:ObU _ _));(refine ObU.mk _ zU ?_))|((with_reducible refine (?_:ObR _ _ _));(first|(refine ObR.mk _ (by assumption) ?_)|(refine ObR.mk _ (by with_reducible rfl) ?_)|(refine ObR.map zX (fun x hx=>?_))|(refine ObR.mk _ rfl ?_)))|((with_reducible refine ObEq.mk ?_);(focus (first|rfl|assumption))))
theorem bucket18 (G:Nat→AV) (l m:List Pr) (h:PC Try.prog G 55 [.sl 2 (l.map pA)] (.sl 2 (m.map pA))):PC Try.prog G 48 [.sl 2 (l.map pA)] (nV 3 ⟨#[]⟩ ⟨#[]⟩ 0 [] 0 m m.length 0):=by
  refine pc_ofV cop48 ?_
  repeat' ((conv=>whnf);first|(with_reducible refine SeqP.go ?_)|((with_reducible refine ObD.mk ?_ ?_);(focus (first|rfl|(simp;done))))|((with_reducible refine ObN.mk ?_ ?_);(focus exact zN))|((with_reducible refine (?_:ObL _ _));(refine ObL.mk _ zM ?_))|((with_reducible refine (?_:ObU _ _));(refine ObU.mk _ zU ?_))|((with_reducible refine (?_:ObR _ _ _));(first|(refine ObR.mk _ (by assumption) ?_)|(refine ObR.mk _ (by with_reducible rfl) ?_)|(refine ObR.map zX (fun x hx=>?_))|(refine ObR.mk _ rfl ?_)))|((with_reducible refine ObC.f 55 ?_);(first|(with_reducible refine ObC.mk _ (h) ?_)|(refine ObC.mk _ (h) ?_)))|((with_reducible refine ObEq.mk ?_);(focus (first|rfl|assumption|exact (by simp [nV])))))
theorem branch20 (G:Nat→AV) (mp:Int) (kk:List Int) (s:Int) (hk:kk.length≤40):PC Try.prog G 45 [.v (.int .u32 mp),.sl 1 (kk.map iA),I s] (nV 2 ⟨#[]⟩ ⟨#[]⟩ mp kk 0 [] s 0):=by
  have h:=copy37 G kk hk
  refine pc_ofV cop45 ?_
  repeat' ((conv=>whnf);first|(with_reducible refine SeqP.go ?_)|((with_reducible refine ObD.mk ?_ ?_);(focus (first|rfl|(simp;done))))|((with_reducible refine ObN.mk ?_ ?_);(focus exact zN))|((with_reducible refine (?_:ObU _ _));(refine ObU.mk _ zU ?_))|((with_reducible refine (?_:ObR _ _ _));(first|(refine ObR.mk _ (by assumption) ?_)|(refine ObR.mk _ (by with_reducible rfl) ?_)|(refine ObR.map zX (fun x hx=>?_))|(refine ObR.mk _ rfl ?_)))|((with_reducible refine ObC.f 37 ?_);(first|(with_reducible refine ObC.mk _ (h) ?_)|(refine ObC.mk _ (h) ?_)))|((with_reducible refine ObEq.mk ?_);(focus (first|rfl|assumption))))
theorem hMake (G:Nat→AV) (L:List Pr) (h40:L.length≤40) (hs:∀ p ∈ L,p.1.size≤40∧p.2.size≤40):(Pr7.mk L).length≤40∧PC Try.prog G 55 [.sl 2 (L.map pA)] (.sl 2 ((Pr7.mk L).map pA))∧True:=by
  have hL:Pr7.Okl L:=⟨by omega,fun p hp=>by have:=hs p hp;omega⟩
  have h1:=Pr7.mk_len L
  exact ⟨by omega,Pr7.make14 G (fun g n P A B R N a m b=>Pr7.sym44 _ g n P A B R N a m b) L h40 hL,trivial⟩
end Go.Proofs.Ytghbpplcgjeohaa.Sim
namespace Go.Proofs.Ytghbpplcgjeohaa.Sim
open Go.RowKit
set_option maxRecDepth 100000
theorem cnt43 (G:Nat→AV) (m:Nat) (hm:m < 4294967296):PC Try.prog G 46 [.v (.int .u32 (m:Int))] (I ((upI m 32).length:Nat)):=by
  have h:=pop53 G m hm
  have e:(Mk.all m).length=(upI m 32).length:=by simp [upI,Mk.all]
  rw [e] at h
  refine pc_ofV cop46 ?_
  repeat' ((conv=>whnf);first|(with_reducible refine SeqP.go ?_)|((with_reducible refine ObC.f 53 ?_);(first|(with_reducible refine ObC.mk _ (h) ?_)|(refine ObC.mk _ (h) ?_)))|((with_reducible refine ObEq.i ?_);(focus (first|(with_reducible rfl)|omega))))
theorem lenP {α:Type} {l:List α}:(0:Int) < (l.length:Nat)↔¬ l=[]:=by cases l<;>simp
theorem lenZ {α:Type} {l:List α}:((l.length:Nat):Int)=0↔l=[]:=by rw [← List.length_eq_zero_iff];omega
theorem slt_mk {l:List Pr}:Pr7.SLt l↔l=Pr7.mk l:=⟨fun h=>(Pr7.mk_of h).symm,fun h=>by rw [h];exact Pr7.mk_lt l⟩
set_option maxHeartbeats 4000000 in
theorem hasForm31 (G : Nat → AV) (kn : Int) (ke va : ByteArray) (mp : Nat) (kk : List Int) (mn : Int) (ls : List Pr) (sz bi : Int) (k1 : 1 ≤ kn) (k6 : kn ≤ 6) (hm : mp < 4294967296) (hke : ke.size ≤ 40) (hva : va.size ≤ 40) (hk : kk.length ≤ 40) (hl : ls.length ≤ 40) (hs : ∀ p ∈ ls, p.1.size ≤ 40 ∧ p.2.size ≤ 40) (r : Bool) (hr : r = true ↔ FormP kn ke va mp kk mn ls sz bi) :
    PC Try.prog G 40 [nV kn ke va (mp:Int) kk mn ls sz bi] (Bo r):=by
  have hkn:kn=1∨kn=6∨kn=2∨kn=3∨kn=4∨kn=5:=by omega
  have z0:ByteArray.size (ByteArray.mk #[])≤9223372036854775807:=by decide
  have l0:([]:List Int).length≤9223372036854775807:=by simp
  have l1:([]:List Pr).length≤9223372036854775807:=by simp
  rcases hkn with rfl|rfl|rfl|rfl|rfl|rfl
  · obtain ⟨q, hq⟩ : ∃ q, q = decide ((1 : Int) = 1 ∧ ke = ke ∧ va = va ∧ (mp : Int) = 0 ∧ kk = [] ∧ mn = 0 ∧ ls = [] ∧ sz = 1 ∧ bi = bi) := ⟨_, rfl⟩
    have h22:=same22 G 1 1 ke ke va va mp 0 kk [] mn 0 ls [] sz 1 bi bi (by omega) (by omega) (by omega) (by omega) (by omega) l0 (by omega) l1 q hq
    have hr':r=true↔¬ bi < 0∧q=true:=by rw [hr,hq];simp [FormP,BareP,lenP,lenZ];intros;constructor<;>(intros;simp_all)
    clear hr hq hs
    refine pc_ofV cop40 ?_
    repeat' ((conv=>whnf);first|(with_reducible refine SeqP.go ?_)|((with_reducible refine ObD.mk ?_ ?_);(focus (first|rfl|(simp;done))))|((with_reducible refine ObN.mk ?_ ?_);(focus exact zN))|(with_reducible refine ObT.tt ?_)|(with_reducible refine ObT.ff ?_)|((with_reducible refine ObB.yes ?_ ?_);(focus (first|assumption|(with_reducible rfl)|omega)))|(with_reducible refine ObB.mk (fun h=>?_) (fun h=>?_))|((with_reducible refine (?_:ObU _ _));(refine ObU.mk _ zU ?_))|((with_reducible refine (?_:ObR _ _ _));(first|(refine ObR.mk _ (by assumption) ?_)|(refine ObR.mk _ (by with_reducible rfl) ?_)|(refine ObR.map zX (fun x hx=>?_))|(refine ObR.mk _ rfl ?_)))|((with_reducible refine ObC.f 28 ?_);(first|(with_reducible refine ObC.mk _ ((leaf14 G _ _)) ?_)|(refine ObC.mk _ ((leaf14 G _ _)) ?_)))|((with_reducible refine ObC.f 49 ?_);(first|(with_reducible refine ObC.mk _ (h22) ?_)|(refine ObC.mk _ (h22) ?_)))|((with_reducible refine ObEq.mk ?_);(focus (first|rfl|assumption|exact (by cases r<;>cases q<;>first|(simp_all;done)|(simp_all;omega))))))
  · obtain ⟨q, hq⟩ : ∃ q, q = decide ((6 : Int) = 6 ∧ ke = ke ∧ va = va ∧ (mp : Int) = 0 ∧ kk = [] ∧ mn = 0 ∧ ls = [] ∧ sz = 1 ∧ bi = bi) := ⟨_, rfl⟩
    have h22:=same22 G 6 6 ke ke va va mp 0 kk [] mn 0 ls [] sz 1 bi bi (by omega) (by omega) (by omega) (by omega) (by omega) l0 (by omega) l1 q hq
    have hr':r=true↔¬ bi < 0∧q=true:=by rw [hr,hq];simp [FormP,BareP,lenP,lenZ];intros;constructor<;>(intros;simp_all)
    clear hr hq hs
    refine pc_ofV cop40 ?_
    repeat' ((conv=>whnf);first|(with_reducible refine SeqP.go ?_)|((with_reducible refine ObD.mk ?_ ?_);(focus (first|rfl|(simp;done))))|((with_reducible refine ObN.mk ?_ ?_);(focus exact zN))|(with_reducible refine ObT.tt ?_)|(with_reducible refine ObT.ff ?_)|((with_reducible refine ObB.yes ?_ ?_);(focus (first|assumption|(with_reducible rfl)|omega)))|((with_reducible refine ObB.no ?_ ?_);(focus (first|assumption|omega)))|(with_reducible refine ObB.mk (fun h=>?_) (fun h=>?_))|((with_reducible refine (?_:ObU _ _));(refine ObU.mk _ zU ?_))|((with_reducible refine (?_:ObR _ _ _));(first|(refine ObR.mk _ (by assumption) ?_)|(refine ObR.mk _ (by with_reducible rfl) ?_)|(refine ObR.map zX (fun x hx=>?_))|(refine ObR.mk _ rfl ?_)))|((with_reducible refine ObC.f 44 ?_);(first|(with_reducible refine ObC.mk _ ((tomb15 G _ _)) ?_)|(refine ObC.mk _ ((tomb15 G _ _)) ?_)))|((with_reducible refine ObC.f 49 ?_);(first|(with_reducible refine ObC.mk _ (h22) ?_)|(refine ObC.mk _ (h22) ?_)))|((with_reducible refine ObEq.mk ?_);(focus (first|rfl|assumption|exact (by cases r<;>cases q<;>first|(simp_all;done)|(simp_all;omega))))))
  · obtain ⟨q, hq⟩ : ∃ q, q = decide ((2 : Int) = 2 ∧ ke = ByteArray.mk #[] ∧ va = ByteArray.mk #[] ∧ (mp : Int) = mp ∧ kk = kk ∧ mn = 0 ∧ ls = [] ∧ sz = sz ∧ bi = bi) := ⟨_, rfl⟩
    have h22:=same22 G 2 2 ke (ByteArray.mk #[]) va (ByteArray.mk #[]) mp mp kk kk mn 0 ls [] sz sz bi bi (by omega) z0 (by omega) z0 (by omega) (by omega) (by omega) l1 q hq
    have h43:=cnt43 G mp hm
    have h44:=has54 G kk (by omega) 0
    obtain ⟨q0,hq0⟩:∃ q0,q0=decide ((0:Int) ∈ kk):=⟨_,rfl⟩
    rw [← hq0] at h44
    have hr':r=true↔¬ bi < 0∧q0=false∧((kk.length:Nat):Int)=((upI mp 32).length:Nat)∧0≤sz∧q=true:=by rw [hr,hq,hq0];simp [FormP,BareP,lenP,lenZ];intros;constructor<;>(intros;simp_all)
    have hu:=upI_len mp 32
    clear hr hq hs hq0
    generalize (upI mp 32).length=c at *
    have hr2:((kk.length:Nat):Int)=(c:Nat)→¬ bi < 0→0≤sz→q0=false→r=q:=fun a b d e=>by cases r<;>cases q<;>simp_all
    have hr3:¬ (((kk.length:Nat):Int)=(c:Nat)∧¬ bi < 0∧0≤sz∧q0=false)→r=false:=fun a=>by cases r with|false=>rfl|true=>exact absurd ⟨(hr'.1 rfl).2.2.1,(hr'.1 rfl).1,(hr'.1 rfl).2.2.2.1,(hr'.1 rfl).2.1⟩ a
    clear hr'
    refine pc_ofV cop40 ?_
    repeat' ((conv=>whnf);first|(with_reducible refine SeqP.go ?_)|((with_reducible refine ObD.mk ?_ ?_);(focus (first|rfl|(simp;done))))|((with_reducible refine ObN.mk ?_ ?_);(focus exact zN))|(with_reducible refine ObT.tt ?_)|(with_reducible refine ObT.ff ?_)|(with_reducible refine ObT.mk (fun h=>?_) (fun h=>?_))|((with_reducible refine ObB.yes ?_ ?_);(focus (first|assumption|(with_reducible rfl)|omega)))|((with_reducible refine ObB.no ?_ ?_);(focus (first|assumption|omega)))|(with_reducible refine ObB.mk (fun h=>?_) (fun h=>?_))|((with_reducible refine (?_:ObL _ _));(refine ObL.mk _ zL ?_))|((with_reducible refine (?_:ObU _ _));(refine ObU.mk _ zU ?_))|((with_reducible refine (?_:ObR _ _ _));(first|(refine ObR.mk _ (by assumption) ?_)|(refine ObR.mk _ (by with_reducible rfl) ?_)|(refine ObR.map zX (fun x hx=>?_))|(refine ObR.mk _ rfl ?_)))|((with_reducible refine ObC.f 45 ?_);(first|(with_reducible refine ObC.mk _ ((branch20 G _ _ _ hk)) ?_)|(refine ObC.mk _ ((branch20 G _ _ _ hk)) ?_)))|((with_reducible refine ObC.f 46 ?_);(first|(with_reducible refine ObC.mk _ (h43) ?_)|(refine ObC.mk _ (h43) ?_)))|((with_reducible refine ObC.f 47 ?_);(first|(with_reducible refine ObC.mk _ (h44) ?_)|(refine ObC.mk _ (h44) ?_)))|((with_reducible refine ObC.f 49 ?_);(first|(with_reducible refine ObC.mk _ (h22) ?_)|(refine ObC.mk _ (h22) ?_)))|((with_reducible refine ObEq.mk ?_);(focus (first|rfl|assumption|exact (by first|(rw [hr2 (by assumption) (by omega) (by omega) (by assumption)];done)|(have hf:r=false:=hr3 (by rintro ⟨h1,h2,h3,h4⟩;first|omega|simp_all);rw [hf]))))))
  · obtain ⟨q, hq⟩ : ∃ q, q = decide ((3 : Int) = 3 ∧ ke = ByteArray.mk #[] ∧ va = ByteArray.mk #[] ∧ (mp : Int) = 0 ∧ kk = [] ∧ mn = 0 ∧ ls = Pr7.mk ls ∧ sz = ((Pr7.mk ls).length : Nat) ∧ bi = bi) := ⟨_, rfl⟩
    obtain ⟨m1,h34,h19⟩:=hMake G ls hl hs
    have h22:=same22 G 3 3 ke (ByteArray.mk #[]) va (ByteArray.mk #[]) mp 0 kk [] mn 0 ls (Pr7.mk ls) sz ((Pr7.mk ls).length:Nat) bi bi (by omega) z0 (by omega) z0 (by omega) l0 (by omega) (by omega) q hq
    have h18:=bucket18 G ls (Pr7.mk ls) h34
    have hr':r=true↔¬ bi < 0∧(2:Int)≤(ls.length:Nat)∧q=true:=by
      rw [hr,hq,decide_eq_true_iff]
      unfold FormP BareP
      rw [lenP,slt_mk]
      generalize Pr7.mk ls=M
      constructor
      · rintro ⟨a, h⟩
        rcases h with ⟨h,_⟩|⟨h,_⟩|⟨_,b,c,d,e,f,g,_⟩|⟨h,_⟩|⟨h,_⟩
        · omega
        · omega
        · exact ⟨a,b,rfl,(e rfl).1,(e rfl).2,(f rfl).1,Classical.not_not.1 (f rfl).2,g rfl,c,by rw [d,← c],rfl⟩
        · omega
        · omega
      · rintro ⟨a, b, _, c, d, e, f, g, i, j, _⟩
        exact ⟨a,.inr (.inr (.inl ⟨rfl,b,i,by rw [j,← i],fun _=>⟨c,d⟩,fun _=>⟨e,fun h=>h f⟩,fun _=>g,fun h=>by cases h⟩))⟩
    clear hr hq hs h34 h19
    refine pc_ofV cop40 ?_
    repeat' ((conv=>whnf);first|(with_reducible refine SeqP.go ?_)|((with_reducible refine ObD.mk ?_ ?_);(focus (first|rfl|(simp;done))))|((with_reducible refine ObN.mk ?_ ?_);(focus exact zN))|(with_reducible refine ObT.tt ?_)|(with_reducible refine ObT.ff ?_)|((with_reducible refine ObB.yes ?_ ?_);(focus (first|assumption|(with_reducible rfl)|omega)))|((with_reducible refine ObB.no ?_ ?_);(focus (first|assumption|omega)))|(with_reducible refine ObB.mk (fun h=>?_) (fun h=>?_))|((with_reducible refine (?_:ObL _ _));(refine ObL.mk _ zL ?_))|((with_reducible refine (?_:ObU _ _));(refine ObU.mk _ zU ?_))|((with_reducible refine (?_:ObR _ _ _));(first|(refine ObR.mk _ (by assumption) ?_)|(refine ObR.mk _ (by with_reducible rfl) ?_)|(refine ObR.map zX (fun x hx=>?_))|(refine ObR.mk _ rfl ?_)))|((with_reducible refine ObC.f 48 ?_);(first|(with_reducible refine ObC.mk _ (h18) ?_)|(refine ObC.mk _ (h18) ?_)))|((with_reducible refine ObC.f 49 ?_);(first|(with_reducible refine ObC.mk _ (h22) ?_)|(refine ObC.mk _ (h22) ?_)))|((with_reducible refine ObEq.mk ?_);(focus (first|rfl|assumption|exact (by cases r<;>cases q<;>first|(simp_all;done)|(simp_all;omega))))))
  · obtain ⟨q, hq⟩ : ∃ q, q = decide ((4 : Int) = 4 ∧ ke = ke ∧ va = va ∧ (mp : Int) = 0 ∧ kk = kk ∧ mn = 0 ∧ ls = [] ∧ sz = sz ∧ bi = bi) := ⟨_, rfl⟩
    have h22:=same22 G 4 4 ke ke va va mp 0 kk kk mn 0 ls [] sz sz bi bi (by omega) (by omega) (by omega) (by omega) (by omega) (by omega) (by omega) l1 q hq
    have hr':r=true↔¬ bi < 0∧((kk.length:Nat):Int)=2∧1≤sz∧q=true:=by rw [hr,hq];simp [FormP,BareP,lenP,lenZ];intros;constructor<;>(intros;simp_all)
    clear hr hq hs
    refine pc_ofV cop40 ?_
    repeat' ((conv=>whnf);first|(with_reducible refine SeqP.go ?_)|((with_reducible refine ObD.mk ?_ ?_);(focus (first|rfl|(simp;done))))|((with_reducible refine ObN.mk ?_ ?_);(focus exact zN))|(with_reducible refine ObT.tt ?_)|(with_reducible refine ObT.ff ?_)|((with_reducible refine ObB.yes ?_ ?_);(focus (first|assumption|(with_reducible rfl)|omega)))|((with_reducible refine ObB.no ?_ ?_);(focus (first|assumption|omega)))|(with_reducible refine ObB.mk (fun h=>?_) (fun h=>?_))|((with_reducible refine (?_:ObL _ _));(refine ObL.mk _ zL ?_))|((with_reducible refine (?_:ObU _ _));(refine ObU.mk _ zU ?_))|((with_reducible refine (?_:ObR _ _ _));(first|(refine ObR.mk _ (by assumption) ?_)|(refine ObR.mk _ (by with_reducible rfl) ?_)|(refine ObR.map zX (fun x hx=>?_))|(refine ObR.mk _ rfl ?_)))|((with_reducible refine ObC.f 49 ?_);(first|(with_reducible refine ObC.mk _ (h22) ?_)|(refine ObC.mk _ (h22) ?_)))|((with_reducible refine ObEq.mk ?_);(focus (first|rfl|assumption|exact (by cases r<;>cases q<;>first|(simp_all;done)|(simp_all;omega))))))
  · obtain ⟨q, hq⟩ : ∃ q, q = decide ((5 : Int) = 5 ∧ ke = ByteArray.mk #[] ∧ va = ByteArray.mk #[] ∧ (mp : Int) = 0 ∧ kk = [] ∧ mn = mn ∧ ls = [] ∧ sz = 0 ∧ bi = bi) := ⟨_, rfl⟩
    have h22:=same22 G 5 5 ke (ByteArray.mk #[]) va (ByteArray.mk #[]) mp 0 kk [] mn mn ls [] sz 0 bi bi (by omega) z0 (by omega) z0 (by omega) l0 (by omega) l1 q hq
    have hr':r=true↔¬ bi < 0∧¬ mn=0∧q=true:=by rw [hr,hq];simp [FormP,BareP,lenP,lenZ];intros;constructor<;>(intros;simp_all)
    clear hr hq hs
    refine pc_ofV cop40 ?_
    repeat' ((conv=>whnf);first|(with_reducible refine SeqP.go ?_)|((with_reducible refine ObD.mk ?_ ?_);(focus (first|rfl|(simp;done))))|((with_reducible refine ObN.mk ?_ ?_);(focus exact zN))|(with_reducible refine ObT.tt ?_)|(with_reducible refine ObT.ff ?_)|((with_reducible refine ObB.yes ?_ ?_);(focus (first|assumption|(with_reducible rfl)|omega)))|((with_reducible refine ObB.no ?_ ?_);(focus (first|assumption|omega)))|(with_reducible refine ObB.mk (fun h=>?_) (fun h=>?_))|((with_reducible refine (?_:ObU _ _));(refine ObU.mk _ zU ?_))|((with_reducible refine (?_:ObR _ _ _));(first|(refine ObR.mk _ (by assumption) ?_)|(refine ObR.mk _ (by with_reducible rfl) ?_)|(refine ObR.map zX (fun x hx=>?_))|(refine ObR.mk _ rfl ?_)))|((with_reducible refine ObC.f 29 ?_);(first|(with_reducible refine ObC.mk _ ((inner17 G _)) ?_)|(refine ObC.mk _ ((inner17 G _)) ?_)))|((with_reducible refine ObC.f 49 ?_);(first|(with_reducible refine ObC.mk _ (h22) ?_)|(refine ObC.mk _ (h22) ?_)))|((with_reducible refine ObEq.mk ?_);(focus (first|rfl|assumption|exact (by cases r<;>cases q<;>first|(simp_all;done)|(simp_all;omega))))))
def mayE (kn:Int) (lo q:Bool):Int:=if kn < 1 then 11 else if 6 < kn then 11 else if lo=true then 6 else if q=true then 0 else 4
theorem may8 (G : Nat → AV) (kn : Int) (ke va : ByteArray) (mp : Nat) (kk : List Int) (mn : Int) (ls : List Pr) (sz bi : Int) (hm : mp < 4294967296) (hke : ke.size ≤ 40) (hva : va.size ≤ 40) (hk : kk.length ≤ 40) (hl : ls.length ≤ 40) (hs : ∀ p ∈ ls, p.1.size ≤ 40 ∧ p.2.size ≤ 40) (q : Bool) (hq : q = true ↔ FormP kn ke va mp kk mn ls sz bi) :
    PC Try.prog G 26 [nV kn ke va (mp:Int) kk mn ls sz bi] (I (mayE kn (lg (ke,va) || ls.any lg) q)):=by
  have h29:=isl29 G ke va
  have h30:=fun H=>any30 G ls (by omega) H
  have h31:=fun k1 k6=>hasForm31 G kn ke va mp kk mn ls sz bi k1 k6 hm hke hva hk hl hs q hq
  clear hq hs
  generalize lg (ke,va)=a at *
  generalize ls.any lg=b at *
  refine pc_ofV cop26 ?_
  unfold mayE
  by_cases h1:kn < 1
  · rw [if_pos h1]
    repeat' ((conv=>whnf);first|(with_reducible refine SeqP.go ?_)|((with_reducible refine ObD.mk ?_ ?_);(focus (first|rfl|(simp;done))))|((with_reducible refine ObN.mk ?_ ?_);(focus exact zN))|(with_reducible refine ObT.tt ?_)|((with_reducible refine ObB.yes ?_ ?_);(focus (first|assumption|(with_reducible rfl)|omega)))|((with_reducible refine (?_:ObR _ _ _));(first|(refine ObR.mk _ (by assumption) ?_)|(refine ObR.mk _ (by with_reducible rfl) ?_)|(refine ObR.map zX (fun x hx=>?_))|(refine ObR.mk _ rfl ?_)))|((with_reducible refine ObEq.i ?_);(focus (first|(with_reducible rfl)|omega))))
  rw [if_neg h1]
  by_cases h6:6 < kn
  · rw [if_pos h6]
    repeat' ((conv=>whnf);first|(with_reducible refine SeqP.go ?_)|((with_reducible refine ObD.mk ?_ ?_);(focus (first|rfl|(simp;done))))|((with_reducible refine ObN.mk ?_ ?_);(focus exact zN))|(with_reducible refine ObT.tt ?_)|(with_reducible refine ObT.ff ?_)|((with_reducible refine ObB.yes ?_ ?_);(focus (first|assumption|(with_reducible rfl)|omega)))|((with_reducible refine ObB.no ?_ ?_);(focus (first|assumption|omega)))|((with_reducible refine (?_:ObR _ _ _));(first|(refine ObR.mk _ (by assumption) ?_)|(refine ObR.mk _ (by with_reducible rfl) ?_)|(refine ObR.map zX (fun x hx=>?_))|(refine ObR.mk _ rfl ?_)))|((with_reducible refine ObEq.i ?_);(focus (first|(with_reducible rfl)|omega))))
  rw [if_neg h6]
  have h31:=h31 (by omega) (by omega)
  cases a<;>cases b<;>cases q
  all_goals repeat' ((conv=>whnf);first|(with_reducible refine SeqP.go ?_)|((with_reducible refine ObD.mk ?_ ?_);(focus (first|rfl|(simp;done))))|((with_reducible refine ObN.mk ?_ ?_);(focus exact zN))|(with_reducible refine ObT.tt ?_)|(with_reducible refine ObT.ff ?_)|((with_reducible refine ObB.no ?_ ?_);(focus (first|assumption|omega)))|((with_reducible refine (?_:ObR _ _ _));(first|(refine ObR.mk _ (by assumption) ?_)|(refine ObR.mk _ (by with_reducible rfl) ?_)|(refine ObR.map zX (fun x hx=>?_))|(refine ObR.mk _ rfl ?_)))|((with_reducible refine ObC.f 38 ?_);(first|(with_reducible refine ObC.mk _ (h29) ?_)|(refine ObC.mk _ (h29) ?_)))|((with_reducible refine ObH.f 39 ?_);(first|(with_reducible refine ObH.mk _ _ ((h30 _)) ?_)|(refine ObH.mk _ _ ((h30 _)) ?_)))|((with_reducible refine ObC.f 40 ?_);(first|(with_reducible refine ObC.mk _ (h31) ?_)|(refine ObC.mk _ (h31) ?_)))|((with_reducible refine ObEq.mk ?_);(focus (first|rfl|assumption))))
theorem may9 (G : Nat → AV) (kn : Int) (ke va : ByteArray) (mp : Nat) (kk : List Int) (mn : Int) (ls : List Pr) (sz bi : Int) (hm : mp < 4294967296) (hk : kk.length ≤ 40) (hl : ls.length ≤ 40) (hs : ∀ p ∈ ls, p.1.size ≤ 40 ∧ p.2.size ≤ 40) (q : Bool) (hq : q = true ↔ FormP kn ke va mp kk mn ls sz bi) :
    PC Try.prog G 27 [nV kn ke va (mp:Int) kk mn ls sz bi] (I (mayE kn (lg (ke,va) || ls.any lg) q)):=by
  have h32:=long32 G kn ke va mp kk mn ls sz bi (by omega)
  have h33:=fun k1 k6=>form33 G kn ke va mp kk mn ls sz bi k1 k6 hm hk hl hs q hq
  clear hq hs
  generalize (lg (ke,va) || ls.any lg)=a at *
  refine pc_ofV cop27 ?_
  unfold mayE
  by_cases h1:kn < 1
  · rw [if_pos h1]
    repeat' ((conv=>whnf);first|(with_reducible refine SeqP.go ?_)|((with_reducible refine ObD.mk ?_ ?_);(focus (first|rfl|(simp;done))))|((with_reducible refine ObN.mk ?_ ?_);(focus exact zN))|(with_reducible refine ObT.tt ?_)|((with_reducible refine ObB.yes ?_ ?_);(focus (first|assumption|(with_reducible rfl)|omega)))|((with_reducible refine (?_:ObR _ _ _));(first|(refine ObR.mk _ (by assumption) ?_)|(refine ObR.mk _ (by with_reducible rfl) ?_)|(refine ObR.map zX (fun x hx=>?_))|(refine ObR.mk _ rfl ?_)))|((with_reducible refine ObEq.i ?_);(focus (first|(with_reducible rfl)|omega))))
  rw [if_neg h1]
  by_cases h6:6 < kn
  · rw [if_pos h6]
    repeat' ((conv=>whnf);first|(with_reducible refine SeqP.go ?_)|((with_reducible refine ObD.mk ?_ ?_);(focus (first|rfl|(simp;done))))|((with_reducible refine ObN.mk ?_ ?_);(focus exact zN))|(with_reducible refine ObT.tt ?_)|(with_reducible refine ObT.ff ?_)|((with_reducible refine ObB.yes ?_ ?_);(focus (first|assumption|(with_reducible rfl)|omega)))|((with_reducible refine ObB.no ?_ ?_);(focus (first|assumption|omega)))|((with_reducible refine (?_:ObR _ _ _));(first|(refine ObR.mk _ (by assumption) ?_)|(refine ObR.mk _ (by with_reducible rfl) ?_)|(refine ObR.map zX (fun x hx=>?_))|(refine ObR.mk _ rfl ?_)))|((with_reducible refine ObEq.i ?_);(focus (first|(with_reducible rfl)|omega))))
  rw [if_neg h6]
  have h33:=h33 (by omega) (by omega)
  cases a<;>cases q
  all_goals repeat' ((conv=>whnf);first|(with_reducible refine SeqP.go ?_)|((with_reducible refine ObD.mk ?_ ?_);(focus (first|rfl|(simp;done))))|((with_reducible refine ObN.mk ?_ ?_);(focus exact zN))|(with_reducible refine ObT.tt ?_)|(with_reducible refine ObT.ff ?_)|((with_reducible refine ObB.no ?_ ?_);(focus (first|assumption|omega)))|((with_reducible refine (?_:ObR _ _ _));(first|(refine ObR.mk _ (by assumption) ?_)|(refine ObR.mk _ (by with_reducible rfl) ?_)|(refine ObR.map zX (fun x hx=>?_))|(refine ObR.mk _ rfl ?_)))|((with_reducible refine ObC.f 41 ?_);(first|(with_reducible refine ObC.mk _ (h32) ?_)|(refine ObC.mk _ (h32) ?_)))|((with_reducible refine ObC.f 42 ?_);(first|(with_reducible refine ObC.mk _ (h33) ?_)|(refine ObC.mk _ (h33) ?_)))|((with_reducible refine ObEq.mk ?_);(focus (first|rfl|assumption))))
end Go.Proofs.Ytghbpplcgjeohaa.Sim
namespace Go.Proofs.Ytghbpplcgjeohaa.Sim
set_option maxRecDepth 100000
def C24:AF:=(AF.mk 26 [(2,none)] (AC.seq (AC.region [(AI.mk (some 1) (AOp.new 47 9 (AX.t 0)) none),(AI.mk (some 2) (AOp.mv (AX.c (AV.nl 1))) none)]) (AC.seq (AC.region [(AI.mk (some 3) (AOp.mv (AX.c (AV.nl 1))) none)]) (AC.seq (AC.seq (AC.drawx [[(AI.mk (some 6) (AOp.fad 4 (AX.t 1)) none),(AI.mk (some 7) (AOp.load false 1 (AX.t 6)) none),(AI.mk (some 8) (AOp.callh 37 [(AX.t 7)]) none),(AI.mk (some 9) (AOp.fad 5 (AX.t 1)) none),(AI.mk (some 10) (AOp.load false 1 (AX.t 9)) none),(AI.mk (some 11) (AOp.bsl 28 1 [(AX.t 10)]) none),(AI.mk (some 12) (AOp.app 28 1 8 (AX.t 8) (AX.t 11)) none),(AI.mk (some 13) (AOp.len (AX.t 12)) none),(AI.mk (some 14) (AOp.mv (AX.c (AV.v (Value.int IntKind.i64 0)))) none)],[(AI.mk (some 6) (AOp.fad 4 (AX.t 1)) none),(AI.mk (some 7) (AOp.load false 1 (AX.t 6)) none),(AI.mk (some 9) (AOp.fad 5 (AX.t 1)) none),(AI.mk (some 8) (AOp.callh 37 [(AX.t 7)]) none),(AI.mk (some 10) (AOp.load false 1 (AX.t 9)) none),(AI.mk (some 11) (AOp.bsl 28 1 [(AX.t 10)]) none),(AI.mk (some 12) (AOp.app 28 1 8 (AX.t 8) (AX.t 11)) none),(AI.mk (some 13) (AOp.len (AX.t 12)) none),(AI.mk (some 14) (AOp.mv (AX.c (AV.v (Value.int IntKind.i64 0)))) none)],[(AI.mk (some 6) (AOp.fad 4 (AX.t 1)) none),(AI.mk (some 7) (AOp.load false 1 (AX.t 6)) none),(AI.mk (some 9) (AOp.fad 5 (AX.t 1)) none),(AI.mk (some 10) (AOp.load false 1 (AX.t 9)) none),(AI.mk (some 8) (AOp.callh 37 [(AX.t 7)]) none),(AI.mk (some 11) (AOp.bsl 28 1 [(AX.t 10)]) none),(AI.mk (some 12) (AOp.app 28 1 8 (AX.t 8) (AX.t 11)) none),(AI.mk (some 13) (AOp.len (AX.t 12)) none),(AI.mk (some 14) (AOp.mv (AX.c (AV.v (Value.int IntKind.i64 0)))) none)],[(AI.mk (some 6) (AOp.fad 4 (AX.t 1)) none),(AI.mk (some 7) (AOp.load false 1 (AX.t 6)) none),(AI.mk (some 9) (AOp.fad 5 (AX.t 1)) none),(AI.mk (some 10) (AOp.load false 1 (AX.t 9)) none),(AI.mk (some 11) (AOp.bsl 28 1 [(AX.t 10)]) none),(AI.mk (some 8) (AOp.callh 37 [(AX.t 7)]) none),(AI.mk (some 12) (AOp.app 28 1 8 (AX.t 8) (AX.t 11)) none),(AI.mk (some 13) (AOp.len (AX.t 12)) none),(AI.mk (some 14) (AOp.mv (AX.c (AV.v (Value.int IntKind.i64 0)))) none)]]) (AC.block 0 (AC.loop (AC.seq (AC.region [(AI.mk (some 15) (AOp.bin BinOp.lss 3 false (Operand.tmp 14) (Operand.tmp 13) (AX.t 14) (AX.t 13)) none)]) (AC.seq (AC.cond (AX.t 15) AC.skip (AC.exit 0)) (AC.seq (AC.block 1 (AC.seq (AC.region [(AI.mk (some 16) (AOp.iad 1 (AX.t 12) (AX.t 14)) none),(AI.mk (some 17) (AOp.load false 1 (AX.t 16)) none),(AI.mk (some 5) (AOp.mv (AX.t 17)) none)]) (AC.seq (AC.region [(AI.mk (some 18) (AOp.mv (AX.t 5)) none),(AI.mk (some 19) (AOp.bin BinOp.neq 28 false (Operand.tmp 18) (Operand.const (Value.int IntKind.i64 0)) (AX.t 18) (AX.c (AV.v (Value.int IntKind.i64 0)))) none)]) (AC.cond (AX.t 19) (AC.region [(AI.mk (some 20) (AOp.mv (AX.t 3)) none),(AI.mk (some 21) (AOp.mv (AX.t 5)) none),(AI.mk (some 22) (AOp.bsl 28 1 [(AX.t 21)]) none),(AI.mk (some 23) (AOp.app 28 1 8 (AX.t 20) (AX.t 22)) none),(AI.mk (some 3) (AOp.mv (AX.t 23)) none)]) AC.skip)))) (AC.region [(AI.mk (some 24) (AOp.bin BinOp.add 3 false (Operand.tmp 14) (Operand.const (Value.int IntKind.i64 1)) (AX.t 14) (AX.c (AV.v (Value.int IntKind.i64 1)))) none),(AI.mk (some 14) (AOp.mv (AX.t 24)) none)]))))))) (AC.seq (AC.region [(AI.mk (some 25) (AOp.mv (AX.t 3)) none),(AI.mk (some 2) (AOp.mv (AX.t 25)) none)]) AC.ret)))))
theorem dop24:copF Try.prog [25,33,37,39,43,62,63,66,67,68,69,70] 24=some C24:=by kernel_rfl
end Go.Proofs.Ytghbpplcgjeohaa.Sim
namespace Go.Proofs.Ytghbpplcgjeohaa.Sim
open Go.RowKit
set_option maxRecDepth 100000
structure Nd where
  kn:Int
  ke:ByteArray
  va:ByteArray
  mp:Nat
  kk:List Int
  mn:Int
  ls:List Pr
  sz:Int
  bi:Int
abbrev nA (x:Nd):AV:=nV x.kn x.ke x.va (x.mp:Int) x.kk x.mn x.ls x.sz x.bi
structure Nd.Ok (x:Nd):Prop where
  mp:x.mp < 4294967296
  ke:x.ke.size≤40
  va:x.va.size≤40
  kk:x.kk.length≤40
  ls:x.ls.length≤40
  sz:∀ p ∈ x.ls,p.1.size≤40∧p.2.size≤40
  mn:i64 x.mn
  ks:∀ r ∈ x.kk,i64 r
theorem nA_at {l:List Nd} {k:Nat} (h:k < l.length):(l.map nA)[k]? = some (.agg [I l[k].kn,S l[k].ke,S l[k].va,.v (.int .u32 (l[k].mp:Int)),.sl 1 (l[k].kk.map iA),I l[k].mn,.sl 2 (l[k].ls.map pA),I l[k].sz,I l[k].bi]):=by simp [h]
noncomputable def mayV (x:Nd):Int:=mayE x.kn (lg (x.ke,x.va) || x.ls.any lg) (@decide (FormP x.kn x.ke x.va x.mp x.kk x.mn x.ls x.sz x.bi) (Classical.propDecidable _))
def rfN (x:Nd):List Int:=(x.kk++[x.mn]).filter fun r=>decide (r ≠ 0)
section
variable (G:Nat→AV)
theorem may29 (x:Nd) (h:x.Ok):PC Try.prog G 26 [nA x] (I (mayV x)):=may8 G x.kn x.ke x.va x.mp x.kk x.mn x.ls x.sz x.bi h.mp h.ke h.va h.kk h.ls h.sz _ (by simp)
theorem may33 (x:Nd) (h:x.Ok):PC Try.prog G 27 [nA x] (I (mayV x)):=may9 G x.kn x.ke x.va x.mp x.kk x.mn x.ls x.sz x.bi h.mp h.kk h.ls h.sz _ (by simp)
def rS (m:Nat) (a:List Int):AV:=match a with|[]=>.nl 1|x::t=>.ol m 0 (t.length+1)
def rH (a:List Int):Hp:=match a with|[]=>[]|x::t=>[kR 0 (x::t)]
theorem flt_yes {l:List Int} {i:Nat} (h:i < l.length) (h0:l[i] ≠ 0):(l.take (i+1)).filter (fun r=>decide (r ≠ 0))=(l.take i).filter (fun r=>decide (r ≠ 0))++[l[i]]:=by
  rw [List.take_succ_eq_append_getElem h,List.filter_append];simp [h0]
theorem flt_no {l:List Int} {i:Nat} (h:i < l.length) (h0:l[i]=0):(l.take (i+1)).filter (fun r=>decide (r ≠ 0))=(l.take i).filter (fun r=>decide (r ≠ 0)):=by
  rw [List.take_succ_eq_append_getElem h,List.filter_append];simp [h0]
set_option maxHeartbeats 2000000 in
theorem refs30 (x:Nd) (h:x.Ok):PC Try.prog G 24 [nA x] (.sl 1 ((rfN x).map iA)):=by
  obtain ⟨kn,ke,va,mp,kk,mn,ls,sz,bi⟩:=x
  have hkl:=h.kk
  clear h
  dsimp only [rfN] at hkl ⊢
  have hr0:=nr_i kk
  obtain ⟨K,hK⟩:∃ K,K=kk++[mn]:=⟨_,rfl⟩
  rw [← hK]
  have hKl:K.length≤41:=by rw [hK];simp;omega
  refine pc_ofV dop24 ?_
  repeat' ((conv=>whnf);first|((with_reducible refine ObD.mk ?_ ?_);(focus (first|rfl|(simp;done)))))
  conv=>whnf
  refine SeqP.go ?_
  skip
  conv=>whnf
  refine SeqP.go ?_
  refine V_seq (V_cut (α:=Unit) (fun _=>True) (fun _=>[(6,none),(0,none),(0,none),(0,none),(0,none),(0,none),(0,some (.ol 1 0 K.length)),(0,some (I K.length)),(0,some (I (0:Nat)))]) (fun _=>[⟨47,9,[nV kn ke va mp kk mn ls sz bi],0,0⟩,kR 0 K]) ?_ ?_)
  · intro Q hQ
    have hQ1:=fun s' H' (h:s'.getD 12 undefA = .ol 1 1 K.length) hf=>hQ s' H' () trivial hf
    have hrK:=nr_i K
    rcases kk with _|⟨k0,kt⟩
    · have h1 := cpyB0 G
      have hlm:[I mn].length=K.length:=by rw [hK];rfl
      have hKm:K.map iA=[I mn]:=by rw [hK];rfl
      repeat' ((conv=>whnf);first|(with_reducible refine ObAnd.mk ?_ ?_)|(with_reducible refine ObDx.each ?_)|((with_reducible refine ObD.mk ?_ ?_);(focus (first|rfl|(simp;done))))|((with_reducible refine ObN.mk ?_ ?_);(focus exact zN))|((with_reducible refine (?_:ObL _ _));(refine ObL.mk _ (by first|exact (List.length_map _)|exact hlm|assumption|exact (List.length_map _).trans (by assumption)|exact List.length_map _|rfl) ?_))|((with_reducible refine (?_:ObU _ _));(refine ObU.mk _ zU ?_))|((with_reducible refine (?_:ObR _ _ _));(first|(refine ObR.mk _ (by assumption) ?_)|(refine ObR.mk _ (by with_reducible rfl) ?_)|(refine ObR.map zX (fun x hx=>?_))|(refine ObR.mk _ rfl ?_)))|((with_reducible refine ObH.f 37 ?_);refine ObH.frn _ (by simp only [List.length_cons,List.length_nil,Nat.reduceAdd];rfl) [] (h1) (by simp) rfl (by simp) ?_)|((with_reducible refine ObW.cons ?_ ?_);(focus (first|assumption|(simp;done))))|((with_reducible refine ObAs.mk ?_ ?_);(focus (first|rfl|(simp [rnB,rnC,rnL];done))))|((with_reducible refine (?_:ObRs _ _ _));(refine ObRs.mk _ rfl ?_)))
      all_goals conv=>whnf
      all_goals refine hQ _ _ () trivial (Fg.vw [(0,0,0),(0,2,0)] ?_ ?_ (by simp) ?_)
      all_goals repeat' ((conv=>whnf);first|((with_reducible refine ObN.mk ?_ ?_);(focus exact zN))|((with_reducible refine ObRn.mk ?_ ?_);(focus (first|rfl|(simp [rnB,rnC,rnL];done))))|((with_reducible refine ObRow.same ?_ ?_ ?_);(focus (first|rfl|assumption));(focus (first|rfl|assumption|(simp;done))))|((with_reducible refine ObEqs.mk ?_ ?_);(focus rfl))|exact True.intro)
    · have h1 := cpyB G (k0 :: kt) (by omega) (by simp)
      have hkl':kt.length+1≤40:=hkl
      have us:((k0::kt).map iA).take (kt.length+1)++[.v (.int .i64 mn)]=K.map iA:=by rw [hK];exact i_snoc (l:=k0::kt)
      have hlm:((k0::kt).length+[I mn].length)=K.length:=by rw [hK];simp
      repeat' ((conv=>whnf);first|(with_reducible refine ObAnd.mk ?_ ?_)|(with_reducible refine ObDx.each ?_)|((with_reducible refine ObD.mk ?_ ?_);(focus (first|rfl|(simp;done))))|((with_reducible refine ObN.mk ?_ ?_);(focus exact zN))|((with_reducible refine (?_:ObL _ _));(refine ObL.mk _ (by first|exact (List.length_map _)|exact hlm|assumption|exact (List.length_map _).trans (by assumption)|exact List.length_map _|rfl) ?_))|((with_reducible refine (?_:ObU _ _));(refine ObU.mk _ (by first|exact us|assumption|((conv=>lhs;simp only [List.set_cons_zero,List.set_cons_succ,List.take_succ_cons,List.take_zero,List.drop_succ_cons,List.drop_zero,List.nil_append,List.cons_append,List.append_nil,List.take_nil,List.drop_nil]);try rfl)|rfl) ?_))|((with_reducible refine (?_:ObR _ _ _));(first|(refine ObR.mk _ (by assumption) ?_)|(refine ObR.mk _ (by with_reducible rfl) ?_)|(refine ObR.map zX (fun x hx=>?_))|(refine ObR.mk _ rfl ?_)))|((with_reducible refine ObH.f 37 ?_);refine ObH.frn _ (by simp only [List.length_cons,List.length_nil,Nat.reduceAdd];rfl) [] (h1) (by simp) rfl (by simp) ?_)|((with_reducible refine ObAs.mk ?_ ?_);(focus (first|rfl|(simp [rnB,rnC,rnL];done))))|((with_reducible refine (?_:ObRs _ _ _));(refine ObRs.mk _ rfl ?_))|((with_reducible refine ObBk.same ?_ ?_);(focus (first|rfl|assumption|(simp;done)))))
      all_goals conv=>whnf
      all_goals first|refine hQ1 _ _ rfl (Fg.vw [(0,0,0),(0,1,1)] ?_ ?_ (by simp) ?_)|refine hQ _ _ () trivial (Fg.vw [(0,0,0),(0,2,1)] ?_ ?_ (by simp) ?_)
      all_goals repeat' ((conv=>whnf);first|((with_reducible refine ObN.mk ?_ ?_);(focus exact zN))|((with_reducible refine ObRn.mk ?_ ?_);(focus (first|rfl|(simp [rnB,rnC,rnL];done))))|((with_reducible refine ObRow.same ?_ ?_ ?_);(focus (first|rfl|assumption));(focus (first|rfl|assumption|(simp;done))))|((with_reducible refine ObEqs.mk ?_ ?_);(focus rfl))|exact True.intro)
  · rintro ⟨⟩ -
    skip
    conv=>whnf
    refine LoopP.go (α:=Nat × List Int) (fun p=>p.1≤K.length∧p.2=(K.take p.1).filter (fun r=>decide (r ≠ 0))) (fun p=>K.length - p.1) (fun p=>[(3,some (rS 2 p.2)),(1,none),(8,some (I p.1)),(0,none),(0,none),(0,none),(0,none),(0,none),(0,none),(0,none),(0,none),(0,none),(0,none)]) (fun p=>[⟨47,9,[nV kn ke va mp kk mn ls sz bi],0,0⟩,kR 0 K]++rH p.2) (0,[]) ⟨Nat.zero_le _,rfl⟩ (Fg.go ?_ rfl) ?_
    · repeat' ((conv=>whnf);first|((with_reducible refine ObEqs.mk ?_ ?_);(focus rfl))|((with_reducible refine ObEq1.mk ?_ ?_);(focus (first|rfl|assumption)))|exact True.intro)
    rintro ⟨i,l⟩ ⟨hi,hl⟩
    dsimp only at hi hl ⊢
    have hll:l.length≤i:=by
      have:=List.length_filter_le (fun r:Int=>decide (r ≠ 0)) (K.take i)
      rw [← hl,List.length_take] at this;omega
    have hrK:=nr_i K
    by_cases hiK:i < K.length
    · have hq := iA_at' hiK
      have f1:=flt_yes hiK
      have f2:=flt_no hiK
      generalize K[i]=x at *
      by_cases hx:x=0
      · rcases l with _ | ⟨l0, lt⟩
        · repeat' ((conv=>whnf);first|(with_reducible refine SeqP.go ?_)|((with_reducible refine ObN.mk ?_ ?_);(focus exact zN))|(with_reducible refine ObT.tt ?_)|(with_reducible refine ObT.ff ?_)|((with_reducible refine ObB.yes ?_ ?_);(focus (first|assumption|(with_reducible rfl)|omega)))|((with_reducible refine ObI.nl ?_ ?_);(focus omega))|((with_reducible refine ObX.mk _ rfl ?_ ?_);(focus exact zX))|((with_reducible refine (?_:ObR _ _ _));(first|(refine ObR.mk _ (by assumption) ?_)|(refine ObR.mk _ (by with_reducible rfl) ?_)|(refine ObR.map zX (fun x hx=>?_))|(refine ObR.mk _ rfl ?_))))
          conv=>whnf
          refine Again.mk (i+1,[]) ⟨by dsimp only;omega,by dsimp only;rw [f2 hx,← hl]⟩ ?_ (Fg.vw [(0,0,0),(0,1,0)] ?_ ?_ (by simp) ?_)
          · dsimp only;omega
          all_goals repeat' ((conv=>whnf);first|((with_reducible refine ObRn.mk ?_ ?_);(focus (simp [rnB,rnC,rS];done)))|((with_reducible refine ObN.mk ?_ ?_);(focus exact zN))|((with_reducible refine ObRow.same ?_ ?_ ?_);(focus (first|rfl|assumption));(focus (first|rfl|assumption|(simp;done))))|((with_reducible refine ObEqs.mk ?_ ?_);(focus rfl))|exact True.intro)
        · have r1 := nr_i (l0 :: lt)
          repeat' ((conv=>whnf);first|(with_reducible refine SeqP.go ?_)|((with_reducible refine ObN.mk ?_ ?_);(focus exact zN))|(with_reducible refine ObT.tt ?_)|(with_reducible refine ObT.ff ?_)|((with_reducible refine ObB.yes ?_ ?_);(focus (first|assumption|(with_reducible rfl)|omega)))|((with_reducible refine ObI.nl ?_ ?_);(focus omega))|((with_reducible refine ObX.mk _ rfl ?_ ?_);(focus exact zX))|((with_reducible refine (?_:ObR _ _ _));(first|(refine ObR.mk _ (by assumption) ?_)|(refine ObR.mk _ (by with_reducible rfl) ?_)|(refine ObR.map zX (fun x hx=>?_))|(refine ObR.mk _ rfl ?_))))
          conv=>whnf
          refine Again.mk (i+1,l0::lt) ⟨by dsimp only;omega,by dsimp only;rw [f2 hx,← hl]⟩ ?_ (Fg.vw [(0,0,0),(0,1,0),(0,2,0)] ?_ ?_ (by simp) ?_)
          · dsimp only;omega
          all_goals repeat' ((conv=>whnf);first|((with_reducible refine ObRn.mk ?_ ?_);(focus (simp [rnB,rnC,rS];done)))|((with_reducible refine ObN.mk ?_ ?_);(focus exact zN))|((with_reducible refine ObRow.same ?_ ?_ ?_);(focus (first|rfl|assumption));(focus (first|rfl|assumption|(simp;done))))|((with_reducible refine ObEqs.mk ?_ ?_);(focus rfl))|exact True.intro)
      · rcases l with _ | ⟨l0, lt⟩
        · have r1 := nr_i [x]
          repeat' ((conv=>whnf);first|(with_reducible refine SeqP.go ?_)|((with_reducible refine ObD.mk ?_ ?_);(focus (first|rfl|(simp;done))))|((with_reducible refine ObN.mk ?_ ?_);(focus exact zN))|(with_reducible refine ObT.tt ?_)|((with_reducible refine ObB.yes ?_ ?_);(focus (first|assumption|(with_reducible rfl)|omega)))|((with_reducible refine ObB.no ?_ ?_);(focus (first|assumption|omega)))|((with_reducible refine ObI.nl ?_ ?_);(focus omega))|((with_reducible refine ObX.mk _ rfl ?_ ?_);(focus exact zX))|((with_reducible refine (?_:ObL _ _));(refine ObL.mk _ zL ?_))|((with_reducible refine (?_:ObU _ _));(refine ObU.mk _ zU ?_))|((with_reducible refine (?_:ObR _ _ _));(first|(refine ObR.mk _ (by assumption) ?_)|(refine ObR.mk _ (by with_reducible rfl) ?_)|(refine ObR.map zX (fun x hx=>?_))|(refine ObR.mk _ rfl ?_)))|((with_reducible refine ObW.cons ?_ ?_);(focus (first|assumption|(simp;done)))))
          conv=>whnf
          refine Again.mk (i+1,[x]) ⟨by dsimp only;omega,by dsimp only;rw [f1 hx,← hl];rfl⟩ ?_ (Fg.vw [(0,0,0),(0,1,0),(0,3,0)] ?_ ?_ (by simp) ?_)
          · dsimp only;omega
          all_goals repeat' ((conv=>whnf);first|((with_reducible refine ObRn.mk ?_ ?_);(focus (simp [rnB,rnC,rS];done)))|((with_reducible refine ObN.mk ?_ ?_);(focus exact zN))|((with_reducible refine ObRow.same ?_ ?_ ?_);(focus (first|rfl|assumption));(focus (first|rfl|assumption|(simp;done))))|((with_reducible refine ObEqs.mk ?_ ?_);(focus rfl))|exact True.intro)
        · have hll' : lt.length + 1 ≤ i := hll
          have r1:=nr_i ((l0::lt)++[x])
          have us:((l0::lt).map iA).take (lt.length+1)++[.v (.int .i64 x)]=((l0::lt)++[x]).map iA:=i_snoc (l:=l0::lt)
          repeat' ((conv=>whnf);first|(with_reducible refine SeqP.go ?_)|((with_reducible refine ObD.mk ?_ ?_);(focus (first|rfl|(simp;done))))|((with_reducible refine ObN.mk ?_ ?_);(focus exact zN))|(with_reducible refine ObT.tt ?_)|((with_reducible refine ObB.yes ?_ ?_);(focus (first|assumption|(with_reducible rfl)|omega)))|((with_reducible refine ObB.no ?_ ?_);(focus (first|assumption|omega)))|((with_reducible refine ObI.nl ?_ ?_);(focus omega))|((with_reducible refine ObX.mk _ rfl ?_ ?_);(focus exact zX))|((with_reducible refine (?_:ObL _ _));(refine ObL.mk _ zL ?_))|((with_reducible refine (?_:ObU _ _));(refine ObU.mk _ (by first|exact us|assumption|((conv=>lhs;simp only [List.set_cons_zero,List.set_cons_succ,List.take_succ_cons,List.take_zero,List.drop_succ_cons,List.drop_zero,List.nil_append,List.cons_append,List.append_nil,List.take_nil,List.drop_nil]);try rfl)|rfl) ?_))|((with_reducible refine (?_:ObR _ _ _));(first|(refine ObR.mk _ (by assumption) ?_)|(refine ObR.mk _ (by with_reducible rfl) ?_)|(refine ObR.map zX (fun x hx=>?_))|(refine ObR.mk _ rfl ?_))))
          conv=>whnf
          refine Again.mk (i+1,(l0::lt)++[x]) ⟨by dsimp only;omega,by dsimp only;rw [f1 hx,← hl]⟩ ?_ (Fg.vw [(0,0,0),(0,1,0),(0,2,1)] ?_ ?_ (by simp) ?_)
          · dsimp only;omega
          all_goals repeat' ((conv=>whnf);first|((with_reducible refine ObRn.mk ?_ ?_);(focus (simp [rnB,rnC,rS];done)))|((with_reducible refine ObN.mk ?_ ?_);(focus exact zN))|((with_reducible refine ObRow.same ?_ ?_ ?_);(focus (first|rfl|assumption));(focus (first|rfl|assumption|(simp;done))))|((with_reducible refine ObEqs.mk ?_ ?_);(focus rfl))|exact True.intro)
    · obtain rfl : i = K.length := by omega
      rw [List.take_length] at hl
      rw [← hl]
      rcases l with _|⟨l0,lt⟩
      · repeat' ((conv=>whnf);first|(with_reducible refine SeqP.go ?_)|((with_reducible refine ObN.mk ?_ ?_);(focus exact zN))|(with_reducible refine ObT.ff ?_)|((with_reducible refine ObB.no ?_ ?_);(focus (first|assumption|omega)))|((with_reducible refine ObEq.mk ?_);(focus (first|rfl|assumption))))
      · have la : ((l0 :: lt).map iA).take (lt.length + 1) = (l0 :: lt).map iA := i_all (l := l0 :: lt)
        have lp:=p_i (l0::lt)
        repeat' ((conv=>whnf);first|(with_reducible refine SeqP.go ?_)|((with_reducible refine ObN.mk ?_ ?_);(focus exact zN))|(with_reducible refine ObT.ff ?_)|((with_reducible refine ObB.no ?_ ?_);(focus (first|assumption|omega)))|((with_reducible refine (?_:ObU _ _));(refine ObU.mk _ (by first|exact la|assumption|((conv=>lhs;simp only [List.set_cons_zero,List.set_cons_succ,List.take_succ_cons,List.take_zero,List.drop_succ_cons,List.drop_zero,List.nil_append,List.cons_append,List.append_nil,List.take_nil,List.drop_nil]);try rfl)|rfl) ?_))|((with_reducible refine ObEq.mk ?_);(focus (first|rfl|assumption))))
set_option maxHeartbeats 2000000 in
theorem refs32 (x:Nd) (h:x.Ok):PC Try.prog G 20 [nA x] (.sl 1 ((rfN x).map iA)):=by
  obtain ⟨kn,ke,va,mp,kk,mn,ls,sz,bi⟩:=x
  have hkl:=h.kk
  clear h
  dsimp only [rfN] at hkl ⊢
  refine pc_ofV cop20 ?_
  repeat' ((conv=>whnf);first|(with_reducible refine SeqP.go ?_)|((with_reducible refine ObD.mk ?_ ?_);(focus (first|rfl|(simp;done)))))
  conv=>whnf
  refine LoopP.go (α:=Nat × List Int) (fun p=>p.1≤kk.length∧p.2=(kk.take p.1).filter (fun r=>decide (r ≠ 0))) (fun p=>kk.length - p.1) (fun p=>[(3,some (.ol 1 0 p.2.length)),(0,some (I p.1)),(0,none),(0,none),(0,none),(0,none),(0,none),(0,none),(0,none),(0,none),(0,none),(0,none),(0,none),(0,none),(0,none),(0,none),(0,none),(0,none),(0,none),(0,none),(0,none),(0,none),(0,none),(0,none)]) (fun p=>[⟨47,9,[nV kn ke va mp kk mn ls sz bi],0,0⟩,kR 0 p.2]) (0,[]) ⟨Nat.zero_le _,rfl⟩ (Fg.go ?_ rfl) ?_
  · repeat' ((conv=>whnf);first|((with_reducible refine ObEqs.mk ?_ ?_);(focus rfl))|((with_reducible refine ObEq1.i ?_ ?_);(focus (first|(with_reducible rfl)|omega)))|((with_reducible refine ObEq1.mk ?_ ?_);(focus (first|rfl|assumption)))|exact True.intro)
  rintro ⟨i,l⟩ ⟨hi,hl⟩
  dsimp only at hi hl ⊢
  have hll:l.length≤i:=by
    have:=List.length_filter_le (fun r:Int=>decide (r ≠ 0)) (kk.take i)
    rw [← hl,List.length_take] at this;omega
  by_cases hiK:i < kk.length
  · have hq := iA_at' hiK
    have f1:=flt_yes hiK
    have f2:=flt_no hiK
    generalize kk[i]=x at *
    by_cases hx:x=0
    · have r1 := nr_i l
      repeat' ((conv=>whnf);first|(with_reducible refine SeqP.go ?_)|((with_reducible refine ObN.mk ?_ ?_);(focus exact zN))|(with_reducible refine ObT.tt ?_)|(with_reducible refine ObT.ff ?_)|((with_reducible refine ObB.yes ?_ ?_);(focus (first|assumption|(with_reducible rfl)|omega)))|((with_reducible refine ObI.nl ?_ ?_);(focus omega))|((with_reducible refine ObX.mk _ rfl ?_ ?_);(focus exact zX))|((with_reducible refine (?_:ObL _ _));(refine ObL.mk _ zM ?_))|((with_reducible refine (?_:ObR _ _ _));(first|(refine ObR.mk _ (by assumption) ?_)|(refine ObR.mk _ (by with_reducible rfl) ?_)|(refine ObR.map zX (fun x hx=>?_))|(refine ObR.mk _ rfl ?_))))
      conv=>whnf
      refine Again.mk (i+1,l) ⟨by dsimp only;omega,by dsimp only;rw [f2 hx,← hl]⟩ ?_ (Fg.vw [(0,0,0),(0,1,0)] ?_ ?_ (by simp) ?_)
      · dsimp only;omega
      all_goals repeat' ((conv=>whnf);first|((with_reducible refine ObN.mk ?_ ?_);(focus exact zN))|((with_reducible refine ObRn.mk ?_ ?_);(focus (first|rfl|(simp [rnB,rnC,rnL];done))))|((with_reducible refine ObRow.same ?_ ?_ ?_);(focus (first|rfl|assumption));(focus (first|rfl|assumption|(simp;done))))|((with_reducible refine ObEqs.mk ?_ ?_);(focus rfl))|exact True.intro)
    · have r1 := nr_i (l ++ [x])
      have us:=i_snoc (l:=l) (x:=x)
      repeat' ((conv=>whnf);first|(with_reducible refine SeqP.go ?_)|((with_reducible refine ObD.mk ?_ ?_);(focus (first|rfl|(simp;done))))|((with_reducible refine ObN.mk ?_ ?_);(focus exact zN))|(with_reducible refine ObT.tt ?_)|((with_reducible refine ObB.yes ?_ ?_);(focus (first|assumption|(with_reducible rfl)|omega)))|((with_reducible refine ObB.no ?_ ?_);(focus (first|assumption|omega)))|((with_reducible refine ObI.nl ?_ ?_);(focus omega))|((with_reducible refine ObX.mk _ rfl ?_ ?_);(focus exact zX))|((with_reducible refine (?_:ObL _ _));(refine ObL.mk _ zM ?_))|((with_reducible refine (?_:ObU _ _));(refine ObU.mk _ (by first|exact us|assumption|((conv=>lhs;simp only [List.set_cons_zero,List.set_cons_succ,List.take_succ_cons,List.take_zero,List.drop_succ_cons,List.drop_zero,List.nil_append,List.cons_append,List.append_nil,List.take_nil,List.drop_nil]);try rfl)|rfl) ?_))|((with_reducible refine (?_:ObR _ _ _));(first|(refine ObR.mk _ (by assumption) ?_)|(refine ObR.mk _ (by with_reducible rfl) ?_)|(refine ObR.map zX (fun x hx=>?_))|(refine ObR.mk _ rfl ?_))))
      conv=>whnf
      refine Again.mk (i+1,l++[x]) ⟨by dsimp only;omega,by dsimp only;rw [f1 hx,← hl]⟩ ?_ (Fg.vw [(0,0,0),(0,1,1)] ?_ ?_ (by simp) ?_)
      · dsimp only;omega
      all_goals repeat' ((conv=>whnf);first|((with_reducible refine ObN.mk ?_ ?_);(focus exact zN))|((with_reducible refine ObRn.mk ?_ ?_);(focus (first|rfl|(simp [rnB,rnC,rnL];done))))|((with_reducible refine ObRow.same ?_ ?_ ?_);(focus (first|rfl|assumption));(focus (first|rfl|assumption|(simp;done))))|((with_reducible refine ObEqs.mk ?_ ?_);(focus rfl))|exact True.intro)
  · obtain rfl : i = kk.length := by omega
    rw [List.take_length] at hl
    rw [List.filter_append,← hl]
    by_cases hm:mn=0
    · have e:[mn].filter (fun r=>decide (r ≠ 0))=[]:=by simp [hm]
      have la:=i_all (l:=l)
      have lp:=p_i l
      rw [e,List.append_nil]
      repeat' ((conv=>whnf);first|(with_reducible refine SeqP.go ?_)|((with_reducible refine ObN.mk ?_ ?_);(focus exact zN))|(with_reducible refine ObT.ff ?_)|((with_reducible refine ObB.yes ?_ ?_);(focus (first|assumption|(with_reducible rfl)|omega)))|((with_reducible refine ObB.no ?_ ?_);(focus (first|assumption|omega)))|((with_reducible refine (?_:ObL _ _));(refine ObL.mk _ zM ?_))|((with_reducible refine (?_:ObU _ _));(refine ObU.mk _ (by first|exact la|assumption|((conv=>lhs;simp only [List.set_cons_zero,List.set_cons_succ,List.take_succ_cons,List.take_zero,List.drop_succ_cons,List.drop_zero,List.nil_append,List.cons_append,List.append_nil,List.take_nil,List.drop_nil]);try rfl)|rfl) ?_))|((with_reducible refine (?_:ObR _ _ _));(first|(refine ObR.mk _ (by assumption) ?_)|(refine ObR.mk _ (by with_reducible rfl) ?_)|(refine ObR.map zX (fun x hx=>?_))|(refine ObR.mk _ rfl ?_)))|((with_reducible refine ObEq.mk ?_);(focus (first|rfl|assumption))))
    · have e:[mn].filter (fun r=>decide (r ≠ 0))=[mn]:=by simp [hm]
      have us:=i_snoc (l:=l) (x:=mn)
      have hl1:l.length+[I mn].length=(l++[mn]).length:=by simp
      have la:((l++[mn]).map iA).take (l++[mn]).length=(l++[mn]).map iA:=i_all
      have lp:=p_i (l++[mn])
      rw [e]
      repeat' ((conv=>whnf);first|(with_reducible refine SeqP.go ?_)|((with_reducible refine ObD.mk ?_ ?_);(focus (first|rfl|(simp;done))))|((with_reducible refine ObN.mk ?_ ?_);(focus exact zN))|(with_reducible refine ObT.tt ?_)|(with_reducible refine ObT.ff ?_)|((with_reducible refine ObB.no ?_ ?_);(focus (first|assumption|omega)))|((with_reducible refine (?_:ObL _ _));(refine ObL.mk _ (by first|exact hl1|exact (List.length_map _)|assumption|exact (List.length_map _).trans (by assumption)|exact List.length_map _|rfl) ?_))|((with_reducible refine (?_:ObU _ _));(refine ObU.mk _ (by first|exact us|exact la|assumption|((conv=>lhs;simp only [List.set_cons_zero,List.set_cons_succ,List.take_succ_cons,List.take_zero,List.drop_succ_cons,List.drop_zero,List.nil_append,List.cons_append,List.append_nil,List.take_nil,List.drop_nil]);try rfl)|rfl) ?_))|((with_reducible refine (?_:ObR _ _ _));(first|(refine ObR.mk _ (by assumption) ?_)|(refine ObR.mk _ (by with_reducible rfl) ?_)|(refine ObR.map zX (fun x hx=>?_))|(refine ObR.mk _ rfl ?_)))|((with_reducible refine ObEq.mk ?_);(focus (first|rfl|assumption))))
end
end Go.Proofs.Ytghbpplcgjeohaa.Sim
namespace Go.Proofs.Ytghbpplcgjeohaa.Sim
open Go.RowKit
set_option maxRecDepth 100000
noncomputable def okI (i:Nat) (x:Nd):Bool:=decide (mayV x=0) && (rfN x).all fun r=>decide (-1 - r < (i:Int))
noncomputable def aI (l:List Nd) (k:Nat):Bool:=(List.range k).all fun i=>match l[i]? with|some x=>okI i x|none=>true
noncomputable def okP (l:List Nd) (rt:Int) (od:List Int):Bool:=(od.all fun r=>decide (0 < r)) && aI l l.length && decide (-1 - rt < (l.length:Int))
theorem rf_i64 {x:Nd} (h:x.Ok):∀ r ∈ rfN x,i64 r:=fun r hr=>by
  simp only [rfN,List.mem_filter,List.mem_append,List.mem_singleton] at hr
  rcases hr.1 with h1|h1
  · exact h.ks r h1
  · rw [h1];exact h.mn
theorem rf_len {x:Nd} (h:x.Ok):(rfN x).length≤41:=by
  have h1:=List.length_filter_le (fun r:Int=>decide (r ≠ 0)) (x.kk++[x.mn])
  have h2:=h.kk
  rw [List.length_append] at h1
  unfold rfN
  simp only [List.length_cons,List.length_nil] at h1
  omega
section
variable (G:Nat→AV)
end
end Go.Proofs.Ytghbpplcgjeohaa.Sim
namespace Go.Proofs.Ytghbpplcgjeohaa.Sim
open Go.RowKit
set_option maxRecDepth 100000
section
variable (G:Nat→AV)
end
end Go.Proofs.Ytghbpplcgjeohaa.Sim
namespace Go.Proofs.Ytghbpplcgjeohaa.Sim
open Go.RowKit
set_option maxRecDepth 100000
structure Nd.Wd (x:Nd):Prop where
  mp:x.mp < 4294967296
  ke:x.ke.size≤9223372036854775807
  va:x.va.size≤9223372036854775807
  kk:x.kk.length≤9223372036854775807
  ls:x.ls.length≤9223372036854775807
  sz:∀ p ∈ x.ls,p.1.size≤9223372036854775807∧p.2.size≤9223372036854775807
  mn:i64 x.mn
  ks:∀ r ∈ x.kk,i64 r
def fewX (x:Nd):Nd:=⟨x.kn,cutB x.ke 40,cutB x.va 40,x.mp,few1 x.kk,x.mn,few x.ls,x.sz,x.bi⟩
theorem fewX_ok {x:Nd} (h:x.Wd):(fewX x).Ok :=
  ⟨h.mp,cutB_size _,cutB_size _,by show (few1 x.kk).length≤40;rw [few1_len];omega,few_len _,few_sizes,h.mn,fun r hr=>h.ks r (List.mem_of_mem_take hr)⟩
section
variable (G:Nat→AV)
theorem few9 (x:Nd) (h:x.Wd):PC Try.prog G 19 [nA x] (nA (fewX x)):=fewN G x.kn x.ke x.va x.mp x.kk x.mn x.ls x.sz x.bi h.ke h.va h.kk h.ls h.sz
end
theorem Nd.Ok.wd {x:Nd} (h:x.Ok):x.Wd:=⟨h.mp,by have:=h.ke;omega,by have:=h.va;omega,by have:=h.kk;omega,by have:=h.ls;omega,fun p hp=>by have:=h.sz p hp;omega,h.mn,h.ks⟩
theorem fewX_eq {x:Nd} (h:x.Ok):fewX x=x:=by
  obtain ⟨kn,ke,va,mp,kk,mn,ls,sz,bi⟩:=x
  have h1:=h.ke;have h2:=h.va;have h3:=h.kk;have h4:=h.ls;have h5:=h.sz
  dsimp only at h1 h2 h3 h4 h5
  simp only [fewX,cutB_short h1,cutB_short h2,few1_short h3,few_short h4 h5]
theorem nr_n (l:List Nd):(l.map nA).all nrB=true:=by simp [nrB,AV.cells]
theorem p_n (l:List Nd):(l.map nA).all AV.isP=true:=by simp [AV.isP,AV.isC,AV.isC0]
theorem n_snoc {l:List Nd} {x:Nd}:(l.map nA).take l.length++[nA x]=(l++[x]).map nA:=by
  rw [List.take_of_length_le (by simp)];simp
theorem n_all {l:List Nd}:(l.map nA).take l.length=l.map nA:=List.take_of_length_le (by simp)
section
variable (G:Nat→AV)
end
end Go.Proofs.Ytghbpplcgjeohaa.Sim
namespace Go.Proofs.Ytghbpplcgjeohaa.Sim
open Go.RowKit
set_option maxRecDepth 100000
def hR (i:Nat) (r:Int):Bool:=decide (1≤r) && decide (r≤(i:Int))
noncomputable def okH (i:Nat) (x:Nd):Bool:=decide (mayV x=0) && (rfN x).all (hR i)
noncomputable def aH (l:List Nd) (k:Nat):Bool:=(List.range k).all fun i=>match l[i]? with|some x=>okH i x|none=>true
theorem aH_succ {l:List Nd} {k:Nat} (h:k < l.length):aH l (k+1)=(aH l k && okH k l[k]):=by
  simp [aH,List.range_succ,List.getElem?_eq_getElem h]
theorem aH_no {l:List Nd} {k n:Nat} (h:k < l.length) (hn:k < n) (h0:okH k l[k]=false):aH l n=false:=by
  rw [aH,List.all_eq_false]
  exact ⟨k,List.mem_range.2 hn,by simp [List.getElem?_eq_getElem h,h0]⟩
theorem hR_yes {i:Nat} {r:Int} (h1:1≤r) (h2:r≤(i:Int)):hR i r=true:=by simp [hR,h1,h2]
theorem hR_no1 {i:Nat} {r:Int} (h1:r < 1):hR i r=false:=by rw [hR,decide_eq_false (by omega),Bool.false_and]
theorem hR_no2 {i:Nat} {r:Int} (h1:(i:Int) < r):hR i r=false:=by rw [hR,decide_eq_false (p:=r≤(i:Int)) (by omega),Bool.and_false]
section
variable (G:Nat→AV)
set_option maxHeartbeats 4000000 in
theorem may36 (l:List Nd) (hl:l.length≤1000) (hx:∀ x ∈ l,x.Ok) (c:Bool) (hc:c=aH l l.length):PC Try.prog G 7 [.sl 9 (l.map nA)] (I (eo c)):=by
  refine pc_ofV cop7 ?_
  repeat' ((conv=>whnf);first|(with_reducible refine SeqP.go ?_)|((with_reducible refine (?_:ObL _ _));(refine ObL.mk _ zM ?_)))
  conv=>whnf
  refine LoopP.go (α:=Nat) (fun i=>i≤l.length∧aH l i=true) (fun i=>l.length - i) (fun i=>[(2,some (I 0)),(0,none),(0,none),(1,none),(2,some (I i)),(0,none),(0,none),(0,none),(0,none),(0,none),(0,none),(0,none),(0,none),(0,none),(0,none),(0,none),(0,none),(0,none),(0,none),(0,none),(0,none),(0,none),(0,none),(0,none),(0,none),(0,none),(0,none),(0,none)]) (fun _=>[]) 0 ⟨Nat.zero_le _,rfl⟩ (Fg.go ?_ rfl) ?_
  · repeat' ((conv=>whnf);first|((with_reducible refine ObEqs.mk ?_ ?_);(focus rfl))|((with_reducible refine ObEq1.i ?_ ?_);(focus (first|(with_reducible rfl)|omega)))|exact True.intro)
  rintro i ⟨hi,hai⟩
  by_cases hil:i < l.length
  · have hq := nA_at hil
    have hxo:=hx _ (List.getElem_mem hil)
    have hs:=aH_succ hil
    have hno:=aH_no hil hil
    have hm:=may29 G l[i] hxo
    have hrf:=refs30 G l[i] hxo
    have hri:=rf_i64 hxo
    have hrl:=rf_len hxo
    rw [hai,Bool.true_and] at hs
    generalize l[i]=x at *
    by_cases hmz:mayV x=0
    · rw [hmz] at hm
      repeat' ((conv=>whnf);first|(with_reducible refine SeqP.go ?_)|((with_reducible refine ObD.mk ?_ ?_);(focus (first|rfl|(simp;done))))|((with_reducible refine ObN.mk ?_ ?_);(focus exact zN))|(with_reducible refine ObT.tt ?_)|(with_reducible refine ObT.ff ?_)|((with_reducible refine ObB.yes ?_ ?_);(focus (first|assumption|(with_reducible rfl)|omega)))|((with_reducible refine ObX.mk _ rfl ?_ ?_);(focus exact zX))|((with_reducible refine (?_:ObL _ _));(refine ObL.mk _ zM ?_))|((with_reducible refine (?_:ObU _ _));(refine ObU.mk _ zU ?_))|((with_reducible refine (?_:ObR _ _ _));(first|(refine ObR.mk _ (by assumption) ?_)|(refine ObR.mk _ (by with_reducible rfl) ?_)|(refine ObR.map zX (fun x hx=>?_))|(refine ObR.mk _ rfl ?_)))|((with_reducible refine ObC.f 26 ?_);(first|(with_reducible refine ObC.mk _ (hm) ?_)|(refine ObC.mk _ (hm) ?_)))|((with_reducible refine ObC.f 24 ?_);(first|(with_reducible refine ObC.mk _ (hrf) ?_)|(refine ObC.mk _ (hrf) ?_))))
      conv=>whnf
      refine LoopP.go (α:=Nat) (fun k=>k≤(rfN x).length∧((rfN x).take k).all (hR i)=true) (fun k=>(rfN x).length - k) (fun k=>[(2,some (I 0)),(1,none),(1,none),(13,some (I k)),(0,none),(0,none),(0,none),(0,none),(0,none),(0,none),(0,none),(0,none),(0,none),(0,none),(0,none)]) (fun _=>[]) 0 ⟨Nat.zero_le _,rfl⟩ (Fg.vw [] (by repeat' ((conv=>whnf);first|((with_reducible refine ObRn.mk ?_ ?_);(focus (first|rfl|(simp [rnB,rnC,rnL];done))))|((with_reducible refine ObEqs.mk ?_ ?_);(focus rfl))|exact True.intro)) (by repeat' ((conv=>whnf);first|exact True.intro)) (by simp) (by repeat' ((conv=>whnf);first|exact True.intro))) ?_
      rintro k ⟨hk,hk0⟩
      by_cases hkr:k < (rfN x).length
      · have hq2 := iA_at' hkr
        have hr2:=hri _ (List.getElem_mem hkr)
        by_cases hz1:(rfN x)[k] < 1
        · have h1 := all_no (p := hR i) hkr (hR_no1 hz1)
          obtain rfl:c=false:=by rw [hc,hno (by rw [okH,h1,Bool.and_false])]
          simp only [eo]
          repeat' ((conv=>whnf);first|(with_reducible refine SeqP.go ?_)|((with_reducible refine ObN.mk ?_ ?_);(focus exact zN))|(with_reducible refine ObT.tt ?_)|((with_reducible refine ObB.yes ?_ ?_);(focus (first|assumption|(with_reducible rfl)|omega)))|((with_reducible refine ObX.mk _ rfl ?_ ?_);(focus exact zX))|((with_reducible refine (?_:ObR _ _ _));(first|(refine ObR.mk _ (by assumption) ?_)|(refine ObR.mk _ (by with_reducible rfl) ?_)|(refine ObR.map zX (fun x hx=>?_))|(refine ObR.mk _ rfl ?_)))|((with_reducible refine ObEq.i ?_);(focus (first|(with_reducible rfl)|omega))))
        by_cases hz:(i:Int) < (rfN x)[k]
        · have h1 := all_no (p := hR i) hkr (hR_no2 hz)
          obtain rfl:c=false:=by rw [hc,hno (by rw [okH,h1,Bool.and_false])]
          simp only [eo]
          repeat' ((conv=>whnf);first|(with_reducible refine SeqP.go ?_)|((with_reducible refine ObN.mk ?_ ?_);(focus exact zN))|(with_reducible refine ObT.tt ?_)|(with_reducible refine ObT.ff ?_)|((with_reducible refine ObB.yes ?_ ?_);(focus (first|assumption|(with_reducible rfl)|omega)))|((with_reducible refine ObB.no ?_ ?_);(focus (first|assumption|omega)))|((with_reducible refine ObX.mk _ rfl ?_ ?_);(focus exact zX))|((with_reducible refine (?_:ObR _ _ _));(first|(refine ObR.mk _ (by assumption) ?_)|(refine ObR.mk _ (by with_reducible rfl) ?_)|(refine ObR.map zX (fun x hx=>?_))|(refine ObR.mk _ rfl ?_)))|((with_reducible refine ObEq.i ?_);(focus (first|(with_reducible rfl)|omega))))
        · have h1 := all_tk (p := hR i) hkr hk0 (hR_yes (by omega) (by omega))
          repeat' ((conv=>whnf);first|(with_reducible refine SeqP.go ?_)|((with_reducible refine ObN.mk ?_ ?_);(focus exact zN))|(with_reducible refine ObT.tt ?_)|(with_reducible refine ObT.ff ?_)|((with_reducible refine ObB.yes ?_ ?_);(focus (first|assumption|(with_reducible rfl)|omega)))|((with_reducible refine ObB.no ?_ ?_);(focus (first|assumption|omega)))|((with_reducible refine ObI.nl ?_ ?_);(focus omega))|((with_reducible refine ObX.mk _ rfl ?_ ?_);(focus exact zX))|((with_reducible refine (?_:ObR _ _ _));(first|(refine ObR.mk _ (by assumption) ?_)|(refine ObR.mk _ (by with_reducible rfl) ?_)|(refine ObR.map zX (fun x hx=>?_))|(refine ObR.mk _ rfl ?_))))
          conv=>whnf
          refine Again.mk (k+1) ⟨by omega,h1⟩ ?_ (Fg.go ?_ rfl)
          · omega
          repeat' ((conv=>whnf);first|((with_reducible refine ObEqs.mk ?_ ?_);(focus rfl))|((with_reducible refine ObEq1.i ?_ ?_);(focus (first|(with_reducible rfl)|omega)))|exact True.intro)
      · obtain rfl : k = (rfN x).length := by omega
        rw [List.take_length] at hk0
        have h2:okH i x=true:=by rw [okH,hk0,hmz];rfl
        repeat' ((conv=>whnf);first|(with_reducible refine SeqP.go ?_)|((with_reducible refine ObN.mk ?_ ?_);(focus exact zN))|(with_reducible refine ObT.ff ?_)|((with_reducible refine ObB.no ?_ ?_);(focus (first|assumption|omega)))|((with_reducible refine ObI.nl ?_ ?_);(focus omega)))
        conv=>whnf
        refine Again.mk (i+1) ⟨by omega,by rw [hs,h2]⟩ ?_ (Fg.go ?_ rfl)
        · omega
        repeat' ((conv=>whnf);first|((with_reducible refine ObEqs.mk ?_ ?_);(focus rfl))|((with_reducible refine ObEq1.i ?_ ?_);(focus (first|(with_reducible rfl)|omega)))|exact True.intro)
    · obtain rfl : c = false := by rw [hc, hno (by rw [okH, decide_eq_false hmz, Bool.false_and])]
      simp only [eo]
      repeat' ((conv=>whnf);first|(with_reducible refine SeqP.go ?_)|((with_reducible refine ObD.mk ?_ ?_);(focus (first|rfl|(simp;done))))|((with_reducible refine ObN.mk ?_ ?_);(focus exact zN))|(with_reducible refine ObT.tt ?_)|((with_reducible refine ObB.yes ?_ ?_);(focus (first|assumption|(with_reducible rfl)|omega)))|((with_reducible refine ObB.no ?_ ?_);(focus (first|assumption|omega)))|((with_reducible refine ObX.mk _ rfl ?_ ?_);(focus exact zX))|((with_reducible refine (?_:ObU _ _));(refine ObU.mk _ zU ?_))|((with_reducible refine (?_:ObR _ _ _));(first|(refine ObR.mk _ (by assumption) ?_)|(refine ObR.mk _ (by with_reducible rfl) ?_)|(refine ObR.map zX (fun x hx=>?_))|(refine ObR.mk _ rfl ?_)))|((with_reducible refine ObC.f 26 ?_);(first|(with_reducible refine ObC.mk _ (hm) ?_)|(refine ObC.mk _ (hm) ?_)))|((with_reducible refine ObEq.i ?_);(focus (first|(with_reducible rfl)|omega))))
  obtain rfl:i=l.length:=by omega
  obtain rfl:c=true:=by rw [hc,hai]
  simp only [eo]
  repeat' ((conv=>whnf);first|(with_reducible refine SeqP.go ?_)|((with_reducible refine ObN.mk ?_ ?_);(focus exact zN))|(with_reducible refine ObT.ff ?_)|((with_reducible refine ObB.no ?_ ?_);(focus (first|assumption|omega)))|((with_reducible refine ObEq.i ?_);(focus (first|(with_reducible rfl)|omega))))
set_option maxHeartbeats 4000000 in
theorem may38 (l:List Nd) (hl:l.length≤1000) (hx:∀ x ∈ l,x.Ok) (c:Bool) (hc:c=aH l l.length):PC Try.prog G 8 [.sl 9 (l.map nA)] (Bo c):=by
  refine pc_ofV cop8 ?_
  repeat' ((conv=>whnf);first|(with_reducible refine SeqP.go ?_))
  conv=>whnf
  refine LoopP.go (α:=Nat) (fun i=>i≤l.length∧aH l i=true) (fun i=>l.length - i) (fun i=>[(2,some (Bo false)),(0,some (I i)),(0,none),(0,none),(0,none),(0,none),(0,none),(0,none),(0,none),(0,none),(0,none),(0,none),(0,none),(0,none),(0,none),(0,none),(0,none),(0,none),(0,none),(0,none),(0,none),(0,none),(0,none),(0,none),(0,none),(0,none),(0,none),(0,none),(0,none),(0,none),(0,none),(0,none),(0,none),(0,none),(0,none),(0,none),(0,none),(0,none),(0,none),(0,none)]) (fun _=>[]) 0 ⟨Nat.zero_le _,rfl⟩ (Fg.go ?_ rfl) ?_
  · repeat' ((conv=>whnf);first|((with_reducible refine ObEqs.mk ?_ ?_);(focus rfl))|((with_reducible refine ObEq1.i ?_ ?_);(focus (first|(with_reducible rfl)|omega)))|((with_reducible refine ObEq1.mk ?_ ?_);(focus (first|rfl|assumption)))|exact True.intro)
  rintro i ⟨hi,hai⟩
  by_cases hil:i < l.length
  · have hq := nA_at hil
    have hxo:=hx _ (List.getElem_mem hil)
    have hs:=aH_succ hil
    have hno:=aH_no hil hil
    have hm:=may33 G l[i] hxo
    have hrf:=refs32 G l[i] hxo
    have hri:=rf_i64 hxo
    have hrl:=rf_len hxo
    rw [hai,Bool.true_and] at hs
    generalize l[i]=x at *
    repeat' ((conv=>whnf);first|(with_reducible refine SeqP.go ?_)|((with_reducible refine ObD.mk ?_ ?_);(focus (first|rfl|(simp;done))))|((with_reducible refine ObN.mk ?_ ?_);(focus exact zN))|(with_reducible refine ObT.tt ?_)|((with_reducible refine ObB.yes ?_ ?_);(focus (first|assumption|(with_reducible rfl)|omega)))|((with_reducible refine ObX.mk _ rfl ?_ ?_);(focus exact zX))|((with_reducible refine (?_:ObL _ _));(refine ObL.mk _ zM ?_))|((with_reducible refine (?_:ObR _ _ _));(first|(refine ObR.mk _ (by assumption) ?_)|(refine ObR.mk _ (by with_reducible rfl) ?_)|(refine ObR.map zX (fun x hx=>?_))|(refine ObR.mk _ rfl ?_)))|((with_reducible refine ObC.f 20 ?_);(first|(with_reducible refine ObC.mk _ (hrf) ?_)|(refine ObC.mk _ (hrf) ?_))))
    conv=>whnf
    refine LoopP.go (α:=Nat) (fun k=>k≤(rfN x).length∧((rfN x).take k).all (hR i)=true) (fun k=>(rfN x).length - k) (fun k=>[(2,some (Bo false)),(2,some (I k)),(11,none),(0,none),(0,none),(0,none),(0,none),(0,none),(0,none),(0,none),(0,none),(0,none),(0,none),(0,none),(0,none),(0,none),(0,none),(0,none),(0,none),(0,none),(0,none)]) (fun _=>[]) 0 ⟨Nat.zero_le _,rfl⟩ (Fg.go ?_ rfl) ?_
    · repeat' ((conv=>whnf);first|((with_reducible refine ObEqs.mk ?_ ?_);(focus rfl))|((with_reducible refine ObEq1.i ?_ ?_);(focus (first|(with_reducible rfl)|omega)))|((with_reducible refine ObEq1.mk ?_ ?_);(focus (first|rfl|assumption)))|exact True.intro)
    rintro k ⟨hk,hk0⟩
    by_cases hkr:k < (rfN x).length
    · have hq2 := iA_at' hkr
      by_cases hz1:(rfN x)[k] < 1
      · have h1 := all_no (p := hR i) hkr (hR_no1 hz1)
        obtain rfl:c=false:=by rw [hc,hno (by rw [okH,h1,Bool.and_false])]
        repeat' ((conv=>whnf);first|(with_reducible refine SeqP.go ?_)|((with_reducible refine ObN.mk ?_ ?_);(focus exact zN))|(with_reducible refine ObT.tt ?_)|((with_reducible refine ObB.yes ?_ ?_);(focus (first|assumption|(with_reducible rfl)|omega)))|((with_reducible refine ObX.mk _ rfl ?_ ?_);(focus exact zX))|((with_reducible refine (?_:ObL _ _));(refine ObL.mk _ zM ?_))|((with_reducible refine (?_:ObR _ _ _));(first|(refine ObR.mk _ (by assumption) ?_)|(refine ObR.mk _ (by with_reducible rfl) ?_)|(refine ObR.map zX (fun x hx=>?_))|(refine ObR.mk _ rfl ?_)))|((with_reducible refine ObEq.mk ?_);(focus (first|rfl|assumption))))
      by_cases hz:(i:Int) < (rfN x)[k]
      · have h1 := all_no (p := hR i) hkr (hR_no2 hz)
        obtain rfl:c=false:=by rw [hc,hno (by rw [okH,h1,Bool.and_false])]
        repeat' ((conv=>whnf);first|(with_reducible refine SeqP.go ?_)|((with_reducible refine ObN.mk ?_ ?_);(focus exact zN))|(with_reducible refine ObT.tt ?_)|(with_reducible refine ObT.ff ?_)|((with_reducible refine ObB.yes ?_ ?_);(focus (first|assumption|(with_reducible rfl)|omega)))|((with_reducible refine ObB.no ?_ ?_);(focus (first|assumption|omega)))|((with_reducible refine ObX.mk _ rfl ?_ ?_);(focus exact zX))|((with_reducible refine (?_:ObL _ _));(refine ObL.mk _ zM ?_))|((with_reducible refine (?_:ObR _ _ _));(first|(refine ObR.mk _ (by assumption) ?_)|(refine ObR.mk _ (by with_reducible rfl) ?_)|(refine ObR.map zX (fun x hx=>?_))|(refine ObR.mk _ rfl ?_)))|((with_reducible refine ObEq.mk ?_);(focus (first|rfl|assumption))))
      · have h1 := all_tk (p := hR i) hkr hk0 (hR_yes (by omega) (by omega))
        repeat' ((conv=>whnf);first|(with_reducible refine SeqP.go ?_)|((with_reducible refine ObN.mk ?_ ?_);(focus exact zN))|(with_reducible refine ObT.tt ?_)|(with_reducible refine ObT.ff ?_)|((with_reducible refine ObB.yes ?_ ?_);(focus (first|assumption|(with_reducible rfl)|omega)))|((with_reducible refine ObB.no ?_ ?_);(focus (first|assumption|omega)))|((with_reducible refine ObI.nl ?_ ?_);(focus omega))|((with_reducible refine ObX.mk _ rfl ?_ ?_);(focus exact zX))|((with_reducible refine (?_:ObL _ _));(refine ObL.mk _ zM ?_))|((with_reducible refine (?_:ObR _ _ _));(first|(refine ObR.mk _ (by assumption) ?_)|(refine ObR.mk _ (by with_reducible rfl) ?_)|(refine ObR.map zX (fun x hx=>?_))|(refine ObR.mk _ rfl ?_))))
        conv=>whnf
        refine Again.mk (k+1) ⟨by omega,h1⟩ ?_ (Fg.go ?_ rfl)
        · omega
        repeat' ((conv=>whnf);first|((with_reducible refine ObEqs.mk ?_ ?_);(focus rfl))|((with_reducible refine ObEq1.i ?_ ?_);(focus (first|(with_reducible rfl)|omega)))|((with_reducible refine ObEq1.mk ?_ ?_);(focus (first|rfl|assumption)))|exact True.intro)
    · obtain rfl : k = (rfN x).length := by omega
      rw [List.take_length] at hk0
      by_cases hmz:mayV x=0
      · rw [hmz] at hm
        have h2:okH i x=true:=by rw [okH,hk0,hmz];rfl
        repeat' ((conv=>whnf);first|(with_reducible refine SeqP.go ?_)|((with_reducible refine ObD.mk ?_ ?_);(focus (first|rfl|(simp;done))))|((with_reducible refine ObN.mk ?_ ?_);(focus exact zN))|(with_reducible refine ObT.ff ?_)|((with_reducible refine ObB.yes ?_ ?_);(focus (first|assumption|(with_reducible rfl)|omega)))|((with_reducible refine ObB.no ?_ ?_);(focus (first|assumption|omega)))|((with_reducible refine ObI.nl ?_ ?_);(focus omega))|((with_reducible refine ObX.mk _ rfl ?_ ?_);(focus exact zX))|((with_reducible refine (?_:ObL _ _));(refine ObL.mk _ zM ?_))|((with_reducible refine (?_:ObR _ _ _));(first|(refine ObR.mk _ (by assumption) ?_)|(refine ObR.mk _ (by with_reducible rfl) ?_)|(refine ObR.map zX (fun x hx=>?_))|(refine ObR.mk _ rfl ?_)))|((with_reducible refine ObC.f 27 ?_);(first|(with_reducible refine ObC.mk _ (hm) ?_)|(refine ObC.mk _ (hm) ?_))))
        conv=>whnf
        refine Again.mk (i+1) ⟨by omega,by rw [hs,h2]⟩ ?_ (Fg.go ?_ rfl)
        · omega
        repeat' ((conv=>whnf);first|((with_reducible refine ObEqs.mk ?_ ?_);(focus rfl))|((with_reducible refine ObEq1.i ?_ ?_);(focus (first|(with_reducible rfl)|omega)))|((with_reducible refine ObEq1.mk ?_ ?_);(focus (first|rfl|assumption)))|exact True.intro)
      · obtain rfl : c = false := by rw [hc, hno (by rw [okH, decide_eq_false hmz, Bool.false_and])]
        repeat' ((conv=>whnf);first|(with_reducible refine SeqP.go ?_)|((with_reducible refine ObD.mk ?_ ?_);(focus (first|rfl|(simp;done))))|((with_reducible refine ObN.mk ?_ ?_);(focus exact zN))|(with_reducible refine ObT.tt ?_)|(with_reducible refine ObT.ff ?_)|((with_reducible refine ObB.no ?_ ?_);(focus (first|assumption|omega)))|((with_reducible refine ObX.mk _ rfl ?_ ?_);(focus exact zX))|((with_reducible refine (?_:ObL _ _));(refine ObL.mk _ zM ?_))|((with_reducible refine (?_:ObR _ _ _));(first|(refine ObR.mk _ (by assumption) ?_)|(refine ObR.mk _ (by with_reducible rfl) ?_)|(refine ObR.map zX (fun x hx=>?_))|(refine ObR.mk _ rfl ?_)))|((with_reducible refine ObC.f 27 ?_);(first|(with_reducible refine ObC.mk _ (hm) ?_)|(refine ObC.mk _ (hm) ?_)))|((with_reducible refine ObEq.mk ?_);(focus (first|rfl|assumption))))
  obtain rfl:i=l.length:=by omega
  obtain rfl:c=true:=by rw [hc,hai]
  repeat' ((conv=>whnf);first|(with_reducible refine SeqP.go ?_)|((with_reducible refine ObN.mk ?_ ?_);(focus exact zN))|(with_reducible refine ObT.ff ?_)|((with_reducible refine ObB.no ?_ ?_);(focus (first|assumption|omega)))|((with_reducible refine (?_:ObL _ _));(refine ObL.mk _ zM ?_))|((with_reducible refine ObEq.mk ?_);(focus (first|rfl|assumption))))
end
def mxI (a b:Int):Int:=if a < b then b else a
def mxL (a:Int) (l:List Int):Int:=l.foldl mxI a
theorem mxL_le {l:List Int} {n:Int}:∀ {a:Int},mxL a l≤n↔a≤n∧∀ r ∈ l,r≤n:=by
  induction l with
  | nil=>intro a;simp [mxL]
  | cons x t ih =>
    intro a
    have h:mxL a (x::t)=mxL (mxI a x) t:=rfl
    rw [h,ih]
    have h2:mxI a x≤n↔a≤n∧x≤n:=by unfold mxI;split<;>omega
    rw [h2];simp [and_assoc]
section
variable (G:Nat→AV)
end
end Go.Proofs.Ytghbpplcgjeohaa.Sim
namespace Go.Proofs.Ytghbpplcgjeohaa.Sim
open Go.RowKit
set_option maxRecDepth 100000
def ow (x:Nd):List Pr:=if x.kn=1∨x.kn=4∨x.kn=6 then [(x.ke,x.va)] else if x.kn=3 then x.ls else []
theorem ow_len {x:Nd} (h:x.Ok):(ow x).length≤40:=by
  unfold ow;split
  · simp
  · split
    · exact h.ls
    · simp
section
variable (G:Nat→AV)
set_option maxHeartbeats 1000000 in
theorem bnd23 (x:Nd) (h:x.Ok):PC Try.prog G 23 [nA x] (.sl 2 ((ow x).map pA)):=by
  obtain ⟨kn,ke,va,mp,kk,mn,ls,sz,bi⟩:=x
  have hls:ls.length≤40:=h.ls
  clear h
  unfold ow
  dsimp only
  have hc:=copy38 G ls hls
  by_cases h1:kn=1∨kn=4∨kn=6
  · rw [if_pos h1]
    show PC Try.prog G 23 _ (.sl 2 [.agg [S ke,S va]])
    rcases h1 with rfl|rfl|rfl<;>refine pc_ofV cop23 ?_
    · repeat' ((conv=>whnf);first|(with_reducible refine SeqP.go ?_)|((with_reducible refine ObD.mk ?_ ?_);(focus (first|rfl|(simp;done))))|((with_reducible refine ObN.mk ?_ ?_);(focus exact zN))|(with_reducible refine ObT.tt ?_)|((with_reducible refine ObB.yes ?_ ?_);(focus (first|assumption|(with_reducible rfl)|omega)))|((with_reducible refine (?_:ObU _ _));(refine ObU.mk _ zU ?_))|((with_reducible refine (?_:ObR _ _ _));(first|(refine ObR.mk _ (by assumption) ?_)|(refine ObR.mk _ (by with_reducible rfl) ?_)|(refine ObR.map zX (fun x hx=>?_))|(refine ObR.mk _ rfl ?_)))|((with_reducible refine ObEq.mk ?_);(focus (first|rfl|assumption))))
    · repeat' ((conv=>whnf);first|(with_reducible refine SeqP.go ?_)|((with_reducible refine ObD.mk ?_ ?_);(focus (first|rfl|(simp;done))))|((with_reducible refine ObN.mk ?_ ?_);(focus exact zN))|(with_reducible refine ObT.tt ?_)|(with_reducible refine ObT.ff ?_)|((with_reducible refine ObB.yes ?_ ?_);(focus (first|assumption|(with_reducible rfl)|omega)))|(with_reducible refine ObB.mk (fun h=>?_) (fun h=>?_))|((with_reducible refine (?_:ObU _ _));(refine ObU.mk _ zU ?_))|((with_reducible refine (?_:ObR _ _ _));(first|(refine ObR.mk _ (by assumption) ?_)|(refine ObR.mk _ (by with_reducible rfl) ?_)|(refine ObR.map zX (fun x hx=>?_))|(refine ObR.mk _ rfl ?_)))|((with_reducible refine ObEq.mk ?_);(focus (first|rfl|assumption))))
    · repeat' ((conv=>whnf);first|(with_reducible refine SeqP.go ?_)|((with_reducible refine ObD.mk ?_ ?_);(focus (first|rfl|(simp;done))))|((with_reducible refine ObN.mk ?_ ?_);(focus exact zN))|(with_reducible refine ObT.tt ?_)|(with_reducible refine ObT.ff ?_)|((with_reducible refine ObB.yes ?_ ?_);(focus (first|assumption|(with_reducible rfl)|omega)))|(with_reducible refine ObB.mk (fun h=>?_) (fun h=>?_))|((with_reducible refine (?_:ObU _ _));(refine ObU.mk _ zU ?_))|((with_reducible refine (?_:ObR _ _ _));(first|(refine ObR.mk _ (by assumption) ?_)|(refine ObR.mk _ (by with_reducible rfl) ?_)|(refine ObR.map zX (fun x hx=>?_))|(refine ObR.mk _ rfl ?_)))|((with_reducible refine ObEq.mk ?_);(focus (first|rfl|assumption))))
  · rw [if_neg h1]
    have a1:¬ kn=1:=fun e=>h1 (.inl e)
    have a4:¬ kn=4:=fun e=>h1 (.inr (.inl e))
    have a6:¬ kn=6:=fun e=>h1 (.inr (.inr e))
    clear h1
    by_cases h3:kn=3
    · subst h3
      rw [if_pos rfl]
      refine pc_ofV cop23 ?_
      repeat' ((conv=>whnf);first|(with_reducible refine SeqP.go ?_)|((with_reducible refine ObD.mk ?_ ?_);(focus (first|rfl|(simp;done))))|((with_reducible refine ObN.mk ?_ ?_);(focus exact zN))|(with_reducible refine ObT.tt ?_)|(with_reducible refine ObT.ff ?_)|((with_reducible refine ObB.yes ?_ ?_);(focus (first|assumption|(with_reducible rfl)|omega)))|((with_reducible refine ObB.no ?_ ?_);(focus (first|assumption|omega)))|((with_reducible refine (?_:ObR _ _ _));(first|(refine ObR.mk _ (by assumption) ?_)|(refine ObR.mk _ (by with_reducible rfl) ?_)|(refine ObR.map zX (fun x hx=>?_))|(refine ObR.mk _ rfl ?_)))|((with_reducible refine ObC.f 36 ?_);(first|(with_reducible refine ObC.mk _ (hc) ?_)|(refine ObC.mk _ (hc) ?_)))|((with_reducible refine ObEq.mk ?_);(focus (first|rfl|assumption))))
    · rw [if_neg h3]
      refine pc_ofV cop23 ?_
      repeat' ((conv=>whnf);first|(with_reducible refine SeqP.go ?_)|((with_reducible refine ObD.mk ?_ ?_);(focus (first|rfl|(simp;done))))|((with_reducible refine ObN.mk ?_ ?_);(focus exact zN))|(with_reducible refine ObT.ff ?_)|((with_reducible refine ObB.no ?_ ?_);(focus (first|assumption|omega)))|((with_reducible refine (?_:ObR _ _ _));(first|(refine ObR.mk _ (by assumption) ?_)|(refine ObR.mk _ (by with_reducible rfl) ?_)|(refine ObR.map zX (fun x hx=>?_))|(refine ObR.mk _ rfl ?_)))|((with_reducible refine ObEq.mk ?_);(focus (first|rfl|assumption))))
noncomputable def okR (h:List Nd) (r:Int):Bool:=decide (0≤r) && decide (r≤(h.length:Int)) && aH h h.length
set_option maxHeartbeats 1000000 in
theorem may21 (h:List Nd) (hl:h.length≤1000) (hx:∀ x ∈ h,x.Ok) (r:Int) (c:Bool) (hc:c=okR h r):PC Try.prog G 21 [.sl 9 (h.map nA),I r] (I (eo c)):=by
  have hm:=may36 G h hl hx _ rfl
  unfold okR at hc
  by_cases h1:r < 0
  · obtain rfl : c = false := by rw [hc, decide_eq_false (by omega)]; rfl
    simp only [eo]
    refine pc_ofV cop21 ?_
    repeat' ((conv=>whnf);first|(with_reducible refine SeqP.go ?_)|((with_reducible refine ObN.mk ?_ ?_);(focus exact zN))|(with_reducible refine ObT.tt ?_)|((with_reducible refine ObB.yes ?_ ?_);(focus (first|assumption|(with_reducible rfl)|omega)))|((with_reducible refine ObEq.i ?_);(focus (first|(with_reducible rfl)|omega))))
  by_cases h2:(h.length:Int) < r
  · obtain rfl : c = false := by rw [hc, decide_eq_false (p := r ≤ (h.length : Int)) (by omega), Bool.and_false]; rfl
    simp only [eo]
    refine pc_ofV cop21 ?_
    repeat' ((conv=>whnf);first|(with_reducible refine SeqP.go ?_)|((with_reducible refine ObN.mk ?_ ?_);(focus exact zN))|(with_reducible refine ObT.tt ?_)|(with_reducible refine ObT.ff ?_)|((with_reducible refine ObB.yes ?_ ?_);(focus (first|assumption|(with_reducible rfl)|omega)))|((with_reducible refine ObB.no ?_ ?_);(focus (first|assumption|omega)))|((with_reducible refine (?_:ObL _ _));(refine ObL.mk _ zM ?_))|((with_reducible refine ObEq.i ?_);(focus (first|(with_reducible rfl)|omega))))
  · have e : c = aH h h.length := by rw [hc, decide_eq_true (p := 0 ≤ r) (by omega), decide_eq_true (by omega)]; rfl
    rw [e]
    refine pc_ofV cop21 ?_
    repeat' ((conv=>whnf);first|(with_reducible refine SeqP.go ?_)|((with_reducible refine ObN.mk ?_ ?_);(focus exact zN))|(with_reducible refine ObT.ff ?_)|((with_reducible refine ObB.no ?_ ?_);(focus (first|assumption|omega)))|((with_reducible refine (?_:ObL _ _));(refine ObL.mk _ zM ?_))|((with_reducible refine ObC.f 7 ?_);(first|(with_reducible refine ObC.mk _ (hm) ?_)|(refine ObC.mk _ (hm) ?_)))|((with_reducible refine ObEq.i ?_);(focus (first|(with_reducible rfl)|omega))))
set_option maxHeartbeats 1000000 in
theorem fits9 (h:List Nd) (hl:h.length≤1000) (hx:∀ x ∈ h,x.Ok) (r:Int) (c:Bool) (hc:c=okR h r):PC Try.prog G 9 [.sl 9 (h.map nA),I r] (Bo c):=by
  have hm:=may38 G h hl hx _ rfl
  unfold okR at hc
  by_cases h1:r < 0
  · obtain rfl : c = false := by rw [hc, decide_eq_false (by omega)]; rfl
    refine pc_ofV cop9 ?_
    repeat' ((conv=>whnf);first|(with_reducible refine SeqP.go ?_)|((with_reducible refine ObN.mk ?_ ?_);(focus exact zN))|(with_reducible refine ObT.ff ?_)|((with_reducible refine ObB.no ?_ ?_);(focus (first|assumption|omega)))|((with_reducible refine ObEq.mk ?_);(focus (first|rfl|assumption))))
  by_cases h2:(h.length:Int) < r
  · obtain rfl : c = false := by rw [hc, decide_eq_false (p := r ≤ (h.length : Int)) (by omega), Bool.and_false]; rfl
    refine pc_ofV cop9 ?_
    repeat' ((conv=>whnf);first|(with_reducible refine SeqP.go ?_)|((with_reducible refine ObN.mk ?_ ?_);(focus exact zN))|(with_reducible refine ObT.tt ?_)|(with_reducible refine ObT.ff ?_)|((with_reducible refine ObB.yes ?_ ?_);(focus (first|assumption|(with_reducible rfl)|omega)))|((with_reducible refine ObB.no ?_ ?_);(focus (first|assumption|omega)))|((with_reducible refine (?_:ObL _ _));(refine ObL.mk _ zM ?_))|((with_reducible refine ObEq.mk ?_);(focus (first|rfl|assumption))))
  · have e : c = aH h h.length := by rw [hc, decide_eq_true (p := 0 ≤ r) (by omega), decide_eq_true (by omega)]; rfl
    rw [e]
    refine pc_ofV cop9 ?_
    repeat' ((conv=>whnf);first|(with_reducible refine SeqP.go ?_)|((with_reducible refine ObN.mk ?_ ?_);(focus exact zN))|(with_reducible refine ObT.tt ?_)|((with_reducible refine ObB.yes ?_ ?_);(focus (first|assumption|(with_reducible rfl)|omega)))|((with_reducible refine (?_:ObL _ _));(refine ObL.mk _ zM ?_))|((with_reducible refine ObC.f 8 ?_);(first|(with_reducible refine ObC.mk _ (hm) ?_)|(refine ObC.mk _ (hm) ?_)))|((with_reducible refine ObEq.mk ?_);(focus (first|rfl|assumption))))
end
def tasks (r:Int) (x:Nd):List (Int × Bool):=if x.kn=4 then [(x.kk.getD 0 0,true),(r,false),(x.kk.getD 1 0,true)] else (r,false)::(rfN x).map fun k=>(k,true)
def bl (h:List Nd):Nat→Int→List Pr
  | 0,_=>[]
  | n+1,r=>if r≤0 then [] else match h[(r - 1).toNat]? with
    | none=>[]
    | some x=>if x.kn=4 then bl h n (x.kk.getD 0 0)++ow x++bl h n (x.kk.getD 1 0) else ow x++(rfN x).flatMap (bl h n)
def ct (h:List Nd):Nat→Int→Nat
  | 0,_=>1
  | n+1,r=>if r≤0 then 1 else match h[(r - 1).toNat]? with
    | none=>1
    | some x=>if x.kn=4 then 2+ct h n (x.kk.getD 0 0)+ct h n (x.kk.getD 1 0) else 2+((rfN x).map (ct h n)).sum
theorem ct_pos {h:List Nd} {n:Nat} {r:Int}:1≤ct h n r:=by
  cases n with
  | zero=>simp [ct]
  | succ n =>
    rw [ct];split
    · omega
    · split
      · omega
      · split<;>omega
theorem bl_len {h:List Nd} (hx:∀ x ∈ h,x.Ok):∀ {n:Nat} {r:Int},(bl h n r).length≤40 * ct h n r:=by
  intro n
  induction n with
  | zero=>intro r;simp [bl]
  | succ n ih =>
    intro r
    rw [bl,ct]
    split
    · simp
    · split
      · simp
      · rename_i x hx1
        have ho:=ow_len (hx x (List.mem_of_getElem? hx1))
        split
        · have h1 := @ih (x.kk.getD 0 0)
          have h2:=@ih (x.kk.getD 1 0)
          simp only [List.length_append];omega
        · have : ((rfN x).flatMap (bl h n)).length ≤ 40 * ((rfN x).map (ct h n)).sum := by
            generalize rfN x=l
            induction l with
            | nil=>simp
            | cons a t iht =>
              have h1:=@ih a
              simp only [List.flatMap_cons,List.length_append,List.map_cons,List.sum_cons];omega
          simp only [List.length_append];omega
theorem okH_of {h:List Nd} (hh:aH h h.length=true) {i:Nat} (hi:i < h.length):okH i h[i]=true:=by
  rw [aH,List.all_eq_true] at hh
  have:=hh i (List.mem_range.2 hi)
  simpa [List.getElem?_eq_getElem hi] using this
theorem okH_ref {i:Nat} {x:Nd} (h:okH i x=true) {r:Int} (hr:r ∈ rfN x):1≤r∧r≤(i:Int):=by
  simp only [okH,Bool.and_eq_true,List.all_eq_true] at h
  have:=h.2 r hr
  simpa [hR] using this
theorem okH_may {i:Nat} {x:Nd} (h:okH i x=true):mayV x=0:=by
  simp only [okH,Bool.and_eq_true,decide_eq_true_eq] at h
  exact h.1
theorem may_form {x:Nd} (h:mayV x=0):FormP x.kn x.ke x.va x.mp x.kk x.mn x.ls x.sz x.bi:=by
  unfold mayV mayE at h
  split at h
  · omega
  · split at h
    · omega
    · split at h
      · omega
      · split at h
        · rename_i h1;simpa using h1
        · omega
theorem may_tree {x:Nd} (h:mayV x=0) (h4:x.kn=4):x.kk.length=2∧x.mn=0:=by
  have hf:=may_form h
  unfold FormP BareP at hf
  obtain ⟨_,hf⟩:=hf
  rcases hf with hf|hf|hf|hf|hf
  · omega
  · omega
  · omega
  · exact ⟨by have:=hf.2.2.1;omega,hf.2.2.2.2.2.2.1 rfl⟩
  · omega
theorem tree_refs {x:Nd} (h:mayV x=0) (h4:x.kn=4):∃ a b,x.kk=[a,b]∧rfN x=[a,b].filter fun r=>decide (r ≠ 0):=by
  obtain ⟨h1,h2⟩:=may_tree h h4
  match hk:x.kk,h1 with
  | [a,b],_ =>
    refine ⟨a,b,rfl,?_⟩
    rw [rfN,hk,h2]
    simp [List.filter_cons]
theorem tree_ref {i:Nat} {x:Nd} (h:okH i x=true) (h4:x.kn=4):(0≤x.kk.getD 0 0∧x.kk.getD 0 0≤(i:Int))∧(0≤x.kk.getD 1 0∧x.kk.getD 1 0≤(i:Int))∧x.kk.length=2:=by
  obtain ⟨a,b,h1,h2⟩:=tree_refs (okH_may h) h4
  rw [h1]
  have key:∀ c,c ∈ [a,b]→0≤c∧c≤(i:Int):=fun c hc=>by
    by_cases h0:c=0
    · omega
    · have := okH_ref h (r := c) (by rw [h2]; simp only [List.mem_filter]; exact ⟨hc, by simpa using h0⟩)
      omega
  exact ⟨key a (by simp),key b (by simp),rfl⟩
end Go.Proofs.Ytghbpplcgjeohaa.Sim
namespace Go.Proofs.Ytghbpplcgjeohaa.Sim
open Go.RowKit
set_option maxRecDepth 100000
theorem bl_fuel {h:List Nd} (hh:aH h h.length=true):∀ {n m:Nat} {r:Int},r≤(n:Int)→r≤(m:Int)→bl h n r=bl h m r:=by
  intro n
  induction n with
  | zero =>
    intro m r h1 h2
    cases m with
    | zero=>rfl
    | succ m=>rw [bl,bl,if_pos (by omega)]
  | succ n ih =>
    intro m r h1 h2
    cases m with
    | zero=>rw [bl,bl,if_pos (by omega)]
    | succ m =>
      rw [bl,bl]
      by_cases h0:r≤0
      · rw [if_pos h0,if_pos h0]
      rw [if_neg h0,if_neg h0]
      rcases Nat.lt_or_ge (r - 1).toNat h.length with hi|hi
      · have ho := okH_of hh hi
        rw [List.getElem?_eq_getElem hi]
        dsimp only
        by_cases h4:h[(r - 1).toNat].kn=4
        · obtain ⟨q1, q2, _⟩ := tree_ref ho h4
          rw [if_pos h4,if_pos h4,ih (m:=m) (by omega) (by omega),ih (m:=m) (by omega) (by omega)]
        · rw [if_neg h4, if_neg h4]
          congr 1
          have key:∀ r' ∈ rfN h[(r - 1).toNat],bl h n r'=bl h m r':=fun r' hr'=>by
            have:=okH_ref ho hr'
            exact ih (by omega) (by omega)
          generalize rfN h[(r - 1).toNat]=l at key
          induction l with
          | nil=>rfl
          | cons a t iht =>
            rw [List.flatMap_cons,List.flatMap_cons,key a (List.mem_cons_self ..),iht fun r' hr'=>key r' (List.mem_cons_of_mem _ hr')]
      · rw [List.getElem?_eq_none hi]
theorem ct_fuel {h:List Nd} (hh:aH h h.length=true):∀ {n m:Nat} {r:Int},r≤(n:Int)→r≤(m:Int)→ct h n r=ct h m r:=by
  intro n
  induction n with
  | zero =>
    intro m r h1 h2
    cases m with
    | zero=>rfl
    | succ m=>rw [ct,ct,if_pos (by omega)]
  | succ n ih =>
    intro m r h1 h2
    cases m with
    | zero=>rw [ct,ct,if_pos (by omega)]
    | succ m =>
      rw [ct,ct]
      by_cases h0:r≤0
      · rw [if_pos h0,if_pos h0]
      rw [if_neg h0,if_neg h0]
      rcases Nat.lt_or_ge (r - 1).toNat h.length with hi|hi
      · have ho := okH_of hh hi
        rw [List.getElem?_eq_getElem hi]
        dsimp only
        by_cases h4:h[(r - 1).toNat].kn=4
        · obtain ⟨q1, q2, _⟩ := tree_ref ho h4
          rw [if_pos h4,if_pos h4,ih (m:=m) (by omega) (by omega),ih (m:=m) (by omega) (by omega)]
        · rw [if_neg h4, if_neg h4]
          congr 2
          refine List.map_congr_left fun r' hr'=>?_
          have:=okH_ref ho hr'
          exact ih (by omega) (by omega)
      · rw [List.getElem?_eq_none hi]
def B (h:List Nd) (r:Int):List Pr:=bl h h.length r
def C (h:List Nd) (r:Int):Nat:=ct h h.length r
theorem B_0 {h:List Nd} {r:Int} (h0:r≤0):B h r=[]:=by
  unfold B;cases h.length with
  | zero=>rfl
  | succ n=>rw [bl,if_pos h0]
theorem C_pos {h:List Nd} {r:Int}:1≤C h r:=ct_pos
theorem B_len {h:List Nd} (hx:∀ x ∈ h,x.Ok) {r:Int}:(B h r).length≤40 * C h r:=bl_len hx
theorem B_eq {h:List Nd} (hh:aH h h.length=true) {i:Nat} (hi:i < h.length):B h ((i:Int)+1)=if h[i].kn=4 then B h (h[i].kk.getD 0 0)++ow h[i]++B h (h[i].kk.getD 1 0) else ow h[i]++(rfN h[i]).flatMap (B h):=by
  have e:B h ((i:Int)+1)=bl h (h.length+1) ((i:Int)+1):=bl_fuel hh (by omega) (by omega)
  rw [e,bl,if_neg (by omega)]
  have e2:((i:Int)+1 - 1).toNat=i:=by omega
  simp only [e2,List.getElem?_eq_getElem hi]
  rfl
theorem C_eq {h:List Nd} (hh:aH h h.length=true) {i:Nat} (hi:i < h.length):C h ((i:Int)+1)=if h[i].kn=4 then 2+C h (h[i].kk.getD 0 0)+C h (h[i].kk.getD 1 0) else 2+((rfN h[i]).map (C h)).sum:=by
  have e:C h ((i:Int)+1)=ct h (h.length+1) ((i:Int)+1):=ct_fuel hh (by omega) (by omega)
  rw [e,ct,if_neg (by omega)]
  have e2:((i:Int)+1 - 1).toNat=i:=by omega
  simp only [e2,List.getElem?_eq_getElem hi]
  rfl
theorem aH_take {h:List Nd} (hh:aH h h.length=true) {k:Nat} (hk:k≤h.length):aH (h.take k) (h.take k).length=true:=by
  rw [aH,List.all_eq_true] at hh ⊢
  intro i hi
  rw [List.mem_range,List.length_take] at hi
  have:=hh i (List.mem_range.2 (by omega))
  rw [List.getElem?_take_of_lt (by omega)]
  exact this
theorem bl_take {h:List Nd} (hh:aH h h.length=true) {k:Nat} (hk:k≤h.length):∀ {n:Nat} {r:Int},r≤(k:Int)→bl (h.take k) n r=bl h n r:=by
  intro n
  induction n with
  | zero=>intro r _;rfl
  | succ n ih =>
    intro r hr
    rw [bl,bl]
    by_cases h0:r≤0
    · rw [if_pos h0,if_pos h0]
    rw [if_neg h0,if_neg h0,List.getElem?_take_of_lt (by omega)]
    rcases Nat.lt_or_ge (r - 1).toNat h.length with hi|hi
    · have ho := okH_of hh hi
      rw [List.getElem?_eq_getElem hi]
      dsimp only
      by_cases h4:h[(r - 1).toNat].kn=4
      · obtain ⟨q1, q2, _⟩ := tree_ref ho h4
        rw [if_pos h4,if_pos h4,ih (by omega),ih (by omega)]
      · rw [if_neg h4, if_neg h4]
        congr 1
        have key:∀ r' ∈ rfN h[(r - 1).toNat],bl (h.take k) n r'=bl h n r':=fun r' hr'=>by
          have:=okH_ref ho hr'
          exact ih (by omega)
        generalize rfN h[(r - 1).toNat]=l at key
        induction l with
        | nil=>rfl
        | cons a t iht =>
          rw [List.flatMap_cons,List.flatMap_cons,key a (List.mem_cons_self ..),iht fun r' hr'=>key r' (List.mem_cons_of_mem _ hr')]
    · rw [List.getElem?_eq_none hi]
theorem B_take {h:List Nd} (hh:aH h h.length=true) {k:Nat} (hk:k≤h.length) {r:Int} (hr:r≤(k:Int)):B (h.take k) r=B h r:=by
  unfold B
  rw [bl_take hh hk hr,List.length_take]
  exact bl_fuel hh (by omega) (by omega)
def bA (b:Bool):AV:=.v (.bool b)
theorem b_all {l:List Bool}:(l.map bA).take l.length=l.map bA:=List.take_of_length_le (by simp)
theorem p_b (l:List Bool):(l.map bA).all AV.isP=true:=by simp [bA,AV.isP,AV.isC,AV.isC0]
theorem nr_b (l:List Bool):(l.map bA).all nrB=true:=by simp [bA,nrB,AV.cells]
theorem bA_at {l:List Bool} {k:Nat} {c:Bool} (h:l[k]? = some c):(l.map bA)[k]? = some (.v (.bool c)):=by simp [h,bA]
theorem bA_set {l:List Bool} {k:Nat} {c:Bool}:(l.map bA).set k (.v (.bool c))=(l.set k c).map bA:=by simp [bA,List.map_set]
theorem bA_rep {n:Nat}:List.replicate n (AV.v (.bool false))=(List.replicate n false).map bA:=by simp [bA]
def nz (h:List Nd) (r:Int):Bool:=decide (B h r ≠ [])
def fuL (h:List Nd) (i:Nat):List Bool:=(List.range i).map fun (k:Nat)=>nz h ((k:Int)+1)
def fuR (h:List Nd) (i:Nat):List Bool:=fuL h i++List.replicate (h.length - i) false
theorem fuL_len {h:List Nd} {i:Nat}:(fuL h i).length=i:=by simp [fuL]
theorem fuR_len {h:List Nd} {i:Nat} (hi:i≤h.length):(fuR h i).length=h.length:=by simp [fuR,fuL];omega
theorem fuR_0 {h:List Nd}:fuR h 0=List.replicate h.length false:=by simp [fuR,fuL]
theorem fuR_all {h:List Nd}:fuR h h.length=fuL h h.length:=by simp [fuR]
theorem fuR_set {h:List Nd} {i:Nat} (hi:i < h.length) {c:Bool} (hc:c=nz h ((i:Int)+1)):(fuR h i).set i c=fuR h (i+1):=by
  have e:h.length - i=(h.length - (i+1))+1:=by omega
  have e3:(fuL h i).length=i:=fuL_len
  rw [fuR,fuR,e,List.replicate_succ,List.set_append_right _ _ (by omega),e3,Nat.sub_self,List.set_cons_zero]
  simp [fuL,List.range_succ,hc]
theorem fuR_at {h:List Nd} {i k:Nat} (hk:k < i) (hi:i≤h.length):(fuR h i)[k]? = some (nz h ((k:Int)+1)):=by
  rw [fuR,List.getElem?_append_left (by rw [fuL_len];exact hk)]
  simp [fuL,hk]
theorem fuR_z {h:List Nd} {i:Nat} (hi:i < h.length):(fuR h i)[i]? = some false:=by
  rw [fuR,List.getElem?_append_right (by rw [fuL_len];omega),fuL_len,Nat.sub_self]
  simp [show 0 < h.length - i by omega]
theorem nz_eq {h:List Nd} (hh:aH h h.length=true) {i:Nat} (hi:i < h.length):nz h ((i:Int)+1)=((rfN h[i]).any (nz h) || decide (ow h[i] ≠ [])):=by
  have ho:=okH_of hh hi
  rw [Bool.eq_iff_iff]
  simp only [nz,Bool.or_eq_true,List.any_eq_true,decide_eq_true_eq]
  rw [B_eq hh hi]
  by_cases h4:h[i].kn=4
  · obtain ⟨a, b, h1, h2⟩ := tree_refs (okH_may ho) h4
    rw [if_pos h4,h1,h2]
    have ha:∀ c:Int,c=0→B h c=[]:=fun c hc=>B_0 (by omega)
    simp only [List.getD_cons_zero,List.getD_cons_succ,ne_eq,List.append_eq_nil_iff,Classical.not_and_iff_not_or_not,List.mem_filter,List.mem_cons,List.not_mem_nil,or_false,decide_not,Bool.not_eq_true',decide_eq_false_iff_not]
    constructor
    · rintro ((h | h) | h)
      · exact .inl ⟨a,⟨.inl rfl,fun e=>h (ha a e)⟩,h⟩
      · exact .inr h
      · exact .inl ⟨b,⟨.inr rfl,fun e=>h (ha b e)⟩,h⟩
    · rintro (⟨c, ⟨rfl | rfl, _⟩, h⟩ | h)
      · exact .inl (.inl h)
      · exact .inr h
      · exact .inl (.inr h)
  · rw [if_neg h4]
    simp only [ne_eq,List.append_eq_nil_iff,Classical.not_and_iff_not_or_not,List.flatMap_eq_nil_iff,Classical.not_forall]
    constructor
    · rintro (h | ⟨c, hc, h⟩)
      · exact .inr h
      · exact .inl ⟨c,hc,h⟩
    · rintro (⟨c, hc, h⟩ | h)
      · exact .inr ⟨c,hc,h⟩
      · exact .inl h
theorem any_snoc {p:Int→Bool} {l:List Int} {k:Nat} (h:k < l.length):(l.take (k+1)).any p=((l.take k).any p || p l[k]):=by
  rw [List.take_succ_eq_append_getElem h,List.any_append];simp
section
variable (G:Nat→AV)
set_option maxHeartbeats 4000000 in
theorem bound22 (h:List Nd) (hl:h.length≤1000) (hx:∀ x ∈ h,x.Ok) (hh:aH h h.length=true):PC Try.prog G 22 [.sl 9 (h.map nA)] (.sl 1 ((fuL h h.length).map bA)):=by
  rw [← fuR_all]
  refine pc_ofV cop22 ?_
  repeat' ((conv=>whnf);first|(with_reducible refine SeqP.go ?_)|((with_reducible refine ObN.mk ?_ ?_);(focus exact zN))|((with_reducible refine (?_:ObL _ _));(refine ObL.mk _ zM ?_))|((with_reducible refine (?_:ObU _ _));(refine ObU.mk _ zU ?_)))
  conv=>whnf
  refine LoopP.go (α:=Nat) (fun i=>i≤h.length) (fun i=>h.length - i) (fun i=>[(4,none),(0,none),(1,none),(5,some (I i)),(0,none),(0,none),(0,none),(0,none),(0,none),(0,none),(0,none),(0,none),(0,none),(0,none),(0,none),(0,none),(0,none),(0,none),(0,none),(0,none),(0,none),(0,none),(0,none),(0,none),(0,none),(0,none),(0,none),(0,none),(0,none),(0,none),(0,none),(0,none),(0,none),(0,none),(0,none),(0,none),(0,none),(0,none)]) (fun i=>[⟨4,1,(fuR h i).map bA,0,0⟩]) 0 (Nat.zero_le _) (Fg.go ?_ (by rw [fuR_0,← bA_rep];rfl)) ?_
  · repeat' ((conv=>whnf);first|((with_reducible refine ObEqs.mk ?_ ?_);(focus rfl))|((with_reducible refine ObEq1.i ?_ ?_);(focus (first|(with_reducible rfl)|omega)))|exact True.intro)
  rintro i hi
  have hrl:=fuR_len hi
  have rb:=nr_b (fuR h i)
  by_cases hil:i < h.length
  · have hq := nA_at hil
    have hxo:=hx _ (List.getElem_mem hil)
    have ho:=okH_of hh hil
    have hb:=bnd23 G h[i] hxo
    have hrf:=refs30 G h[i] hxo
    have hrl2:=rf_len hxo
    have hri:=rf_i64 hxo
    have hnz:=nz_eq hh hil
    have hol:=ow_len hxo
    have hrr:∀ r ∈ rfN h[i],1≤r∧r≤(i:Int):=fun r hr=>okH_ref ho hr
    generalize h[i]=x at *
    obtain ⟨c0,hc0,hcc⟩:∃ c0:Bool,c0=decide (ow x ≠ [])∧(c0=true↔(0:Int) < ((ow x).length:Nat)):=⟨_,rfl,by
      cases ow x<;>simp⟩
    have us:=fun c=>bA_set (l:=fuR h i) (k:=i) (c:=c)
    have gz:=bA_at (fuR_z hil)
    have rbs1:=nr_b ((fuR h i).set i true)
    have rbs2:=nr_b ((fuR h i).set i false)
    cases c0
    all_goals simp only [Bool.false_eq_true,false_iff,true_iff,Int.not_lt] at hcc
    all_goals
      repeat' ((conv=>whnf);first|(with_reducible refine SeqP.go ?_)|((with_reducible refine ObD.mk ?_ ?_);(focus (first|rfl|(simp;done))))|((with_reducible refine ObN.mk ?_ ?_);(focus exact zN))|(with_reducible refine ObT.tt ?_)|((with_reducible refine ObB.yes ?_ ?_);(focus (first|assumption|(with_reducible rfl)|omega)))|((with_reducible refine ObB.no ?_ ?_);(focus (first|assumption|omega)))|((with_reducible refine ObX.mk _ rfl ?_ ?_);(focus exact zX))|((with_reducible refine (?_:ObL _ _));(refine ObL.mk _ zM ?_))|((with_reducible refine (?_:ObU _ _));(refine ObU.mk _ (by first|exact (us _)|assumption|((conv=>lhs;simp only [List.set_cons_zero,List.set_cons_succ,List.take_succ_cons,List.take_zero,List.drop_succ_cons,List.drop_zero,List.nil_append,List.cons_append,List.append_nil,List.take_nil,List.drop_nil]);try rfl)|rfl) ?_))|((with_reducible refine (?_:ObR _ _ _));(first|(refine ObR.mk _ (by assumption) ?_)|(refine ObR.mk _ (by with_reducible rfl) ?_)|(refine ObR.map zX (fun x hx=>?_))|(refine ObR.mk _ rfl ?_)))|((with_reducible refine ObC.f 23 ?_);(first|(with_reducible refine ObC.mk _ (hb) ?_)|(refine ObC.mk _ (hb) ?_)))|((with_reducible refine ObC.f 24 ?_);(first|(with_reducible refine ObC.mk _ (hrf) ?_)|(refine ObC.mk _ (hrf) ?_))))
      conv=>whnf
      refine LoopP.go (α:=Nat) (fun k=>k≤(rfN x).length) (fun k=>(rfN x).length - k) (fun k=>[(5,none),(1,none),(20,some (I k)),(0,none),(0,none),(0,none),(0,none),(0,none),(0,none),(0,none),(0,none),(0,none),(0,none),(0,none),(0,none),(0,none),(0,none),(0,none),(0,none),(0,none),(0,none)]) (fun k=>[⟨4,1,((fuR h i).set i (((rfN x).take k).any (nz h) || decide (ow x ≠ []))).map bA,0,0⟩]) 0 (Nat.zero_le _) (by rw [← hc0,List.take_zero,List.any_nil,Bool.false_or];exact Fg.vw [(0,0,0)] (by repeat' ((conv=>whnf);first|((with_reducible refine ObN.mk ?_ ?_);(focus exact zN))|((with_reducible refine ObRn.mk ?_ ?_);(focus (first|rfl|(simp [rnB,rnC,rnL];done))))|((with_reducible refine ObEqs.mk ?_ ?_);(focus rfl))|exact True.intro)) (by repeat' ((conv=>whnf);first|((with_reducible refine ObN.mk ?_ ?_);(focus exact zN))|((with_reducible refine ObRow.same ?_ ?_ ?_);(focus (first|rfl|assumption));(focus (first|rfl|assumption|(simp;done))))|exact True.intro)) (by simp) (by repeat' ((conv=>whnf);first|exact True.intro))) ?_
      rintro k hk
      by_cases hkr:k < (rfN x).length
      · have hq2 := iA_at' hkr
        have hs:=any_snoc (p:=nz h) hkr
        have hr1:=hrr _ (List.getElem_mem hkr)
        have hr2:=hri _ (List.getElem_mem hkr)
        generalize (rfN x)[k]=r at *
        obtain ⟨c,hc⟩:∃ c:Bool,c=(((rfN x).take k).any (nz h) || decide (ow x ≠ [])):=⟨_,rfl⟩
        have e1:(((rfN x).take (k+1)).any (nz h) || decide (ow x ≠ []))=(c || nz h r):=by
          rw [hs,hc];cases ((rfN x).take k).any (nz h)<;>cases decide (ow x ≠ [])<;>simp
        rw [← hc]
        clear hs
        obtain ⟨R,hR⟩:∃ R:List Bool,R=(fuR h i).set i c:=⟨_,rfl⟩
        rw [← hR]
        have hRl:R.length=h.length:=by rw [hR];simpa using hrl
        have g1:(R.map bA)[i]? = some (.v (.bool c)):=bA_at (by rw [hR];exact List.getElem?_set_self (by omega))
        have g2:(R.map bA)[(r - 1).toNat]? = some (.v (.bool (nz h r))):=bA_at (by
          rw [hR,List.getElem?_set_ne (by omega),fuR_at (by omega) hi]
          congr 2;omega)
        have us2:=fun c=>bA_set (l:=R) (k:=i) (c:=c)
        have e2:(fuR h i).set i (((rfN x).take (k+1)).any (nz h) || decide (ow x ≠ []))=R.set i (c || nz h r):=by rw [e1,hR,List.set_set]
        have rb2:=nr_b R
        have rbs3:=nr_b (R.set i true)
        have rbs4:=nr_b (R.set i (nz h r))
        clear hc e1 hR
        cases c
        all_goals repeat' ((conv=>whnf);first|(with_reducible refine SeqP.go ?_)|((with_reducible refine ObD.mk ?_ ?_);(focus (first|rfl|(simp;done))))|((with_reducible refine ObN.mk ?_ ?_);(focus exact zN))|(with_reducible refine ObT.tt ?_)|(with_reducible refine ObT.ff ?_)|((with_reducible refine ObB.yes ?_ ?_);(focus (first|assumption|(with_reducible rfl)|omega)))|((with_reducible refine ObI.nl ?_ ?_);(focus omega))|((with_reducible refine ObI.mk _ rfl ?_ ?_ ?_);(focus omega);(focus omega))|((with_reducible refine ObX.mk _ rfl ?_ ?_);(focus exact zX))|((with_reducible refine ObX.int ?_ ?_ ?_);(focus exact zX);(focus exact zX))|((with_reducible refine (?_:ObU _ _));(refine ObU.mk _ (by first|exact (us2 _)|assumption|((conv=>lhs;simp only [List.set_cons_zero,List.set_cons_succ,List.take_succ_cons,List.take_zero,List.drop_succ_cons,List.drop_zero,List.nil_append,List.cons_append,List.append_nil,List.take_nil,List.drop_nil]);try rfl)|rfl) ?_))|((with_reducible refine (?_:ObR _ _ _));(first|(refine ObR.mk _ (by assumption) ?_)|(refine ObR.mk _ (by with_reducible rfl) ?_)|(refine ObR.map zX (fun x hx=>?_))|(refine ObR.mk _ rfl ?_))))
        all_goals conv=>whnf
        all_goals refine Again.mk (k+1) (by omega) (by omega) ?_
        all_goals simp only [Bool.false_or,Bool.true_or] at e2
        all_goals rw [e2]
        all_goals refine Fg.vw [(0,0,0)] ?_ ?_ (by simp) ?_
        all_goals repeat' ((conv=>whnf);first|((with_reducible refine ObN.mk ?_ ?_);(focus exact zN))|((with_reducible refine ObRn.mk ?_ ?_);(focus (first|rfl|(simp [rnB,rnC,rnL];done))))|((with_reducible refine ObRow.same ?_ ?_ ?_);(focus (first|rfl|assumption));(focus (first|rfl|assumption|(simp;done))))|((with_reducible refine ObEqs.mk ?_ ?_);(focus rfl))|exact True.intro)
      · obtain rfl : k = (rfN x).length := by omega
        have e3:(fuR h i).set i (((rfN x).take (rfN x).length).any (nz h) || decide (ow x ≠ []))=fuR h (i+1):=by
          rw [List.take_length,← hnz,fuR_set hil rfl]
        rw [e3]
        have rb3:=nr_b (fuR h (i+1))
        repeat' ((conv=>whnf);first|(with_reducible refine SeqP.go ?_)|((with_reducible refine ObN.mk ?_ ?_);(focus exact zN))|(with_reducible refine ObT.ff ?_)|((with_reducible refine ObB.no ?_ ?_);(focus (first|assumption|omega)))|((with_reducible refine ObI.nl ?_ ?_);(focus omega)))
        conv=>whnf
        refine Again.mk (i+1) (by omega) (by omega) (Fg.vw [(0,0,0)] ?_ ?_ (by simp) ?_)
        all_goals repeat' ((conv=>whnf);first|((with_reducible refine ObN.mk ?_ ?_);(focus exact zN))|((with_reducible refine ObRn.mk ?_ ?_);(focus (first|rfl|(simp [rnB,rnC,rnL];done))))|((with_reducible refine ObRow.same ?_ ?_ ?_);(focus (first|rfl|assumption));(focus (first|rfl|assumption|(simp;done))))|((with_reducible refine ObEqs.mk ?_ ?_);(focus rfl))|exact True.intro)
  · obtain rfl : i = h.length := by omega
    have la:=b_all (l:=fuR h h.length)
    rw [hrl] at la
    have lp:=p_b (fuR h h.length)
    repeat' ((conv=>whnf);first|(with_reducible refine SeqP.go ?_)|((with_reducible refine ObN.mk ?_ ?_);(focus exact zN))|(with_reducible refine ObT.ff ?_)|((with_reducible refine ObB.no ?_ ?_);(focus (first|assumption|omega)))|((with_reducible refine (?_:ObU _ _));(refine ObU.mk _ (by first|exact la|assumption|((conv=>lhs;simp only [List.set_cons_zero,List.set_cons_succ,List.take_succ_cons,List.take_zero,List.drop_succ_cons,List.drop_zero,List.nil_append,List.cons_append,List.append_nil,List.take_nil,List.drop_nil]);try rfl)|rfl) ?_))|((with_reducible refine ObEq.mk ?_);(focus (first|rfl|assumption))))
end
end Go.Proofs.Ytghbpplcgjeohaa.Sim
namespace Go.Proofs.Ytghbpplcgjeohaa.Sim
open Go.RowKit
set_option maxRecDepth 100000
theorem p_all {l:List Pr}:(l.map pA).take l.length=l.map pA:=List.take_of_length_le (by simp)
theorem p_p (l:List Pr):(l.map pA).all AV.isP=true:=by simp [pA,AV.isP,AV.isC,AV.isC0]
theorem nr_p (l:List Pr):(l.map pA).all nrB=true:=by simp [pA,nrB,AV.cells]
section
variable (G:Nat→AV)
end
end Go.Proofs.Ytghbpplcgjeohaa.Sim
namespace Go.Proofs.Ytghbpplcgjeohaa.Sim
open Go.RowKit
set_option maxRecDepth 100000
def tA (t:Int × Bool):AV:=.agg [I t.1,.v (.bool t.2)]
theorem tA_at {l:List (Int × Bool)} {k:Nat} {t:Int × Bool} (h:l[k]? = some t):(l.map tA)[k]? = some (.agg [I t.1,.v (.bool t.2)]):=by simp [h,tA]
theorem nr_t (l:List (Int × Bool)):(l.map tA).all nrB=true:=by simp [tA,nrB,AV.cells]
theorem tA_set {l:List (Int × Bool)} {k:Nat} {t:Int × Bool}:(l.map tA).set k (.agg [I t.1,.v (.bool t.2)])=(l.set k t).map tA:=by simp [tA,List.map_set]
def rvl (l:List (Int × Bool)) (i:Nat):List (Int × Bool):=(List.range l.length).map fun k=>if k < i∨l.length≤k+i then l.getD (l.length - 1 - k) (0,false) else l.getD k (0,false)
theorem rvl_len {l:List (Int × Bool)} {i:Nat}:(rvl l i).length=l.length:=by simp [rvl]
theorem rvl_get {l:List (Int × Bool)} {i k:Nat} (hk:k < l.length):(rvl l i)[k]? = some (if k < i∨l.length≤k+i then l.getD (l.length - 1 - k) (0,false) else l.getD k (0,false)):=by
  simp [rvl,hk]
theorem rvl_0 {l:List (Int × Bool)}:rvl l 0=l:=by
  apply List.ext_getElem? ;intro k
  rcases Nat.lt_or_ge k l.length with h|h
  · rw [rvl_get h,if_neg (by omega)];simp [List.getElem?_eq_getElem h]
  · rw [List.getElem?_eq_none (by rw [rvl_len];exact h),List.getElem?_eq_none h]
theorem rvl_end {l:List (Int × Bool)} {i:Nat} (h:l.length≤2 * i+1):rvl l i=l.reverse:=by
  apply List.ext_getElem? ;intro k
  rcases Nat.lt_or_ge k l.length with hk|hk
  · rw [rvl_get hk, List.getElem?_reverse hk]
    by_cases hm:k < i∨l.length≤k+i
    · rw [if_pos hm,List.getElem?_eq_getElem (by omega)];simp [List.getD_eq_getElem?_getD,List.getElem?_eq_getElem (show l.length - 1 - k < l.length by omega)]
    · have e : l.length - 1 - k = k := by omega
      rw [if_neg hm,e,List.getElem?_eq_getElem hk];simp [List.getD_eq_getElem?_getD,List.getElem?_eq_getElem hk]
  · rw [List.getElem?_eq_none (by rw [rvl_len];exact hk),List.getElem?_eq_none (by simpa using hk)]
theorem rvl_step {l:List (Int × Bool)} {i j:Nat} (hij:i < j) (hj:i+j+1=l.length):((rvl l i).set i (l.getD j (0,false))).set j (l.getD i (0,false))=rvl l (i+1):=by
  apply List.ext_getElem? ;intro k
  rcases Nat.lt_or_ge k l.length with hk|hk
  · rw [rvl_get hk]
    by_cases h1:j=k
    · subst h1
      rw [List.getElem?_set_self (by simp [rvl_len];omega),if_pos (by omega)]
      congr 2;omega
    · rw [List.getElem?_set_ne h1]
      by_cases h2:i=k
      · subst h2
        rw [List.getElem?_set_self (by rw [rvl_len];omega),if_pos (by omega)]
        congr 2;omega
      · rw [List.getElem?_set_ne h2, rvl_get hk]
        congr 1
        by_cases hm:k < i∨l.length≤k+i
        · rw [if_pos hm,if_pos (by omega)]
        · rw [if_neg hm,if_neg (by omega)]
  · rw [List.getElem?_eq_none (by simp [rvl_len];omega),List.getElem?_eq_none (by rw [rvl_len];exact hk)]
section
variable (G:Nat→AV)
set_option maxHeartbeats 4000000 in
theorem rev25 (l:List (Int × Bool)) (g:Nat) (hl:l.length≤1000) (h0:0 < l.length):HC Try.prog G 25 [.ol 0 g l.length] [⟨54,2,l.map tA,g,0⟩] (.tup []) [⟨54,2,l.reverse.map tA,g,0⟩]:=by
  refine hc_ofV cop25 rfl ?_
  have hn:=nr_t l
  repeat' ((conv=>whnf);first|(with_reducible refine SeqP.go ?_)|((with_reducible refine ObN.mk ?_ ?_);(focus exact zN))|((with_reducible refine ObI.sl ?_ ?_ ?_);(focus omega);(focus omega)))
  conv=>whnf
  refine LoopP.go (α:=Nat) (fun i=>2 * i≤l.length) (fun i=>l.length - i) (fun i=>[(2,some (I i)),(0,some (I ((l.length:Int) - 1 - i))),(3,none),(0,none),(0,none),(0,none),(0,none),(0,none),(0,none),(0,none),(0,none),(0,none),(0,none),(0,none),(0,none),(0,none),(0,none),(0,none),(0,none),(0,none),(0,none),(0,none),(0,none)]) (fun i=>[⟨54,2,(rvl l i).map tA,g,0⟩]) 0 (by omega) (Fg.go ?_ (by rw [rvl_0])) ?_
  · repeat' ((conv=>whnf);first|((with_reducible refine ObEqs.mk ?_ ?_);(focus rfl))|((with_reducible refine ObEq1.i ?_ ?_);(focus (first|(with_reducible rfl)|omega)))|exact True.intro)
  rintro i hi
  have hrl:=rvl_len (l:=l) (i:=i)
  have rn:=nr_t (rvl l i)
  by_cases hlt:(i:Int) < (l.length:Int) - 1 - i
  · obtain ⟨j, hj⟩ : ∃ j : Nat, i + j + 1 = l.length := ⟨l.length - 1 - i, by omega⟩
    have ej:(l.length:Int) - 1 - i=(j:Int):=by omega
    rw [ej] at hlt ⊢
    have hij:i < j:=by omega
    have q1:=tA_at (rvl_get (l:=l) (i:=i) (k:=i) (by omega))
    have q2:=tA_at (rvl_get (l:=l) (i:=i) (k:=j) (by omega))
    rw [if_neg (by omega)] at q1 q2
    have hs:=rvl_step hij hj
    generalize l.getD i (0,false)=a at *
    generalize l.getD j (0,false)=b at *
    have u1:((rvl l i).map tA).set i (.agg [I b.1,.v (.bool b.2)])=((rvl l i).set i b).map tA:=tA_set
    have u2:(((rvl l i).set i b).map tA).set j (.agg [I a.1,.v (.bool a.2)])=(rvl l (i+1)).map tA:=by rw [tA_set,hs]
    have rn2:=nr_t (rvl l (i+1))
    have rn3:=nr_t ((rvl l i).set i b)
    repeat' ((conv=>whnf);first|(with_reducible refine SeqP.go ?_)|((with_reducible refine ObD.mk ?_ ?_);(focus (first|rfl|(simp;done))))|((with_reducible refine ObN.mk ?_ ?_);(focus exact zN))|(with_reducible refine ObT.tt ?_)|((with_reducible refine ObB.yes ?_ ?_);(focus (first|assumption|(with_reducible rfl)|omega)))|((with_reducible refine ObI.nl ?_ ?_);(focus omega))|((with_reducible refine ObI.sl ?_ ?_ ?_);(focus omega);(focus omega))|((with_reducible refine ObX.mk _ rfl ?_ ?_);(focus exact zX))|((with_reducible refine (?_:ObU _ _));(refine ObU.mk _ (by first|exact u1|exact u2|assumption|((conv=>lhs;simp only [List.set_cons_zero,List.set_cons_succ,List.take_succ_cons,List.take_zero,List.drop_succ_cons,List.drop_zero,List.nil_append,List.cons_append,List.append_nil,List.take_nil,List.drop_nil]);try rfl)|rfl) ?_))|((with_reducible refine (?_:ObR _ _ _));(first|(refine ObR.mk _ (by assumption) ?_)|(refine ObR.mk _ (by with_reducible rfl) ?_)|(refine ObR.map zX (fun x hx=>?_))|(refine ObR.mk _ rfl ?_))))
    conv=>whnf
    refine Again.mk (i+1) (by omega) (by omega) (Fg.go ?_ rfl)
    repeat' ((conv=>whnf);first|((with_reducible refine ObEqs.mk ?_ ?_);(focus rfl))|((with_reducible refine ObEq1.i ?_ ?_);(focus (first|(with_reducible rfl)|omega)))|exact True.intro)
  · have he := rvl_end (l := l) (i := i) (by omega)
    rw [he]
    repeat' ((conv=>whnf);first|(with_reducible refine SeqP.go ?_)|((with_reducible refine ObN.mk ?_ ?_);(focus exact zN))|(with_reducible refine ObT.ff ?_)|((with_reducible refine ObB.no ?_ ?_);(focus (first|assumption|omega)))|(exact ObEnd.eq rfl rfl))
end
end Go.Proofs.Ytghbpplcgjeohaa.Sim
