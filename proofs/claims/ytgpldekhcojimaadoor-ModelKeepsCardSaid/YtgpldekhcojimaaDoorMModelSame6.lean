/- Texts of this claim, part 6. -/
import Derived.Test.YtgpldekhcojimaaDoorMModelSame5
set_option linter.unusedVariables false
set_option linter.unusedSimpArgs false
namespace Go.Proofs.YtgpldekhcojimaaDoor.Sim.Pr7
open Go.RowKit
set_option maxRecDepth 100000
theorem capN {ty:TypeId} {cs:Array Bool}:pureRun Tryd.prog (builtin .cap #[24] ty cs #[.slice none 0 0])=some (.value (.int .i64 0)):=bi_cap (e:=65) (by kernel_rfl)
set_option maxHeartbeats 4000000 in
theorem grow42 (G:Nat→AV) (n:Nat) (hn:0 < n) (hm:n≤3000000) (H:Hp):HC Tryd.prog G 90 [.nl 2,I n] H (.ol H.length 0 0) (H++[⟨65,2,List.replicate n (.agg [S ⟨#[]⟩,S ⟨#[]⟩]),0,0⟩]):=by
  have h0:¬ (n:Int) < 0:=by omega
  have h1:(0:Int) < (n:Int):=by omega
  refine hc_of cop90 ?_
  show W _ _ _ _ ⟨_,_⟩;simp only [A90,List.cons_append,List.nil_append,List.length_cons,List.length_nil,Nat.reduceAdd,Nat.reduceSub,List.replicate]
  repeat (first|with_reducible refine w_seq ?_|with_reducible refine w_reg ?_|with_reducible refine w_skip ?_|with_reducible refine ws_nil ?_|with_reducible refine q_then ?_|with_reducible refine w_ret ?_|((first|with_reducible refine ks fun K hK=>?_|with_reducible refine kd fun K hK=>?_|with_reducible refine kc fun K hK2 hK hK3=>?_);simp (disch:=omega) only [bg0,bg1,bg2,bg3,bg4,stepO,rsAs,eff,AX.ev,St.put,binA,conc,ap1,ofVal,Int.reduceTMod,Int.reduceTDiv,reduceCtorEq,fillA,AV.cells,AV.fine,AV.one,Nat.reduceAdd,Nat.reduceSub,Nat.reduceMul,Nat.reduceLT,Nat.reduceLeDiff,Int.reduceLT,Int.reduceLE,Int.reduceAdd,Int.reduceSub,Int.reduceNeg,Int.reduceMul,Int.reduceEq,Int.reduceToNat,nilA,moveA,live,loadA,rdA,storeA,wrA,intA,elemA,lenA,appA,srcA,isPtr,isNilPtr,partA,resOf,sliceA,cut,id,ap2,reduceIte,concs,chkB,geB,AOp.cls,AOp.xs,ltB,ltC,Nat.reduceBEq,Option.toList,List.cons_append,decide_eq_true,decide_eq_false,if_pos,if_neg,List.length_map,List.cons_append,bVb,bVn,eq_self,Bool.and_self,BEq.rfl,not_true_eq_false,capN,h0,h1,Int.sub_zero,Int.sub_self];(first|((with_reducible refine hK _ ?_);clear hK K)|((with_reducible refine hK ?_);clear hK hK3 K hK2)|((with_reducible refine hK3 ?_);clear hK hK3 K hK2)))|((first|with_reducible refine ret_h fun K hK=>?_|with_reducible refine ret_hh rfl fun K hK=>?_|with_reducible refine ret_pp fun K hK=>?_);simp (disch:=omega) only [bg0,bg1,bg2,bg3,bg4,stepO,rsAs,eff,AX.ev,St.put,binA,conc,ap1,ofVal,Int.reduceTMod,Int.reduceTDiv,reduceCtorEq,fillA,AV.cells,AV.fine,AV.one,Nat.reduceAdd,Nat.reduceSub,Nat.reduceMul,Nat.reduceLT,Nat.reduceLeDiff,Int.reduceLT,Int.reduceLE,Int.reduceAdd,Int.reduceSub,Int.reduceNeg,Int.reduceMul,Int.reduceEq,Int.reduceToNat,nilA,moveA,live,loadA,rdA,storeA,wrA,intA,elemA,lenA,appA,srcA,isPtr,isNilPtr,partA,resOf,sliceA,cut,id,ap2,reduceIte,concs,chkB,geB,AOp.cls,AOp.xs,ltB,ltC,Nat.reduceBEq,Option.toList,List.cons_append,decide_eq_true,decide_eq_false,if_pos,if_neg,List.length_map,List.cons_append,bVb,bVn,eq_self,Bool.and_self,BEq.rfl,not_true_eq_false,capN,h0,h1,Int.sub_zero,Int.sub_self];(first|((with_reducible refine hK _ ?_ ?_ ?_ ?_);rotate_left 2;rfl;rfl)|((with_reducible refine hK _ ?_);rfl))))
set_option maxHeartbeats 4000000 in
theorem cc3 (G : Nat → AV) (A B : List AV) (x : AV) (a b : Nat) (hA : A.length = a) (hB : B.length = b) (ha : a ≤ 1000000) (hb : b ≤ 1000000) :
    HC Tryd.prog G 68 [.ol 1 0 3] [⟨65,2,[x],0,0⟩,⟨24,1,[.sl 2 A,.ol 0 0 1,.sl 2 B],0,0⟩] (.ol 2 3 (a+1+b)) [⟨65,2,[x],0,0⟩,⟨24,1,[.sl 2 A,.ol 0 0 1,.sl 2 B],0,0⟩,⟨65,2,A++[x]++B,3,0⟩]:=by
  have t1:A.take a=A:=List.take_of_length_le (by omega)
  have t2:(A++[x]).take (a+1)=A++[x]:=List.take_of_length_le (by simp;omega)
  have t3:(A++[x]).length=a+1:=by simp;omega
  have h0:¬ ((a:Int)+1+(b:Int)) < 0:=by omega
  have h2:¬ ((a:Int)+1) < 0:=by omega
  have h3:¬ (a:Int) < 0:=by omega
  have hg:=grow42 G (a+1+b) (by omega) (by omega) [⟨65,2,[x],0,0⟩,⟨24,1,[.sl 2 A,.ol 0 0 1,.sl 2 B],0,0⟩]
  have e1:((a+1+b:Nat):Int)=(a:Int)+1+(b:Int):=by omega
  rw [e1] at hg
  refine hc_of cop68 ?_
  show W _ _ _ _ ⟨_,_⟩;simp only [A68,List.cons_append,List.nil_append,List.length_cons,List.length_nil,Nat.reduceAdd,Nat.reduceSub,List.replicate]
  repeat (first|with_reducible refine w_seq ?_|with_reducible refine w_reg ?_|with_reducible refine w_block ?_|with_reducible refine w_skip ?_|with_reducible refine w_exit ?_|with_reducible refine ws_nil ?_|with_reducible refine q_then ?_|with_reducible refine q_then_x ?_|with_reducible refine q_block_n ?_|with_reducible refine q_block_x ?_|with_reducible refine w_ret ?_|(with_reducible refine w_loopF 60 ?_)|(with_reducible refine w_loopS ?_)|((first|with_reducible refine ks fun K hK=>?_|with_reducible refine kd fun K hK=>?_|with_reducible refine kc fun K hK2 hK hK3=>?_);simp (disch:=omega) only [bg0,bg1,bg2,bg3,bg4,stepO,rsAs,eff,AX.ev,St.put,binA,conc,ap1,ofVal,Int.reduceTMod,Int.reduceTDiv,reduceCtorEq,fillA,AV.cells,AV.fine,AV.one,Nat.reduceAdd,Nat.reduceSub,Nat.reduceMul,Nat.reduceLT,Nat.reduceLeDiff,Int.reduceLT,Int.reduceLE,Int.reduceAdd,Int.reduceSub,Int.reduceNeg,Int.reduceMul,Int.reduceEq,Int.reduceToNat,nilA,moveA,live,loadA,rdA,storeA,wrA,intA,elemA,lenA,appA,srcA,isPtr,isNilPtr,partA,resOf,sliceA,cut,id,ap2,reduceIte,concs,chkB,geB,AOp.cls,AOp.xs,ltB,ltC,Nat.reduceBEq,Option.toList,List.cons_append,decide_eq_true,decide_eq_false,if_pos,if_neg,List.length_map,List.cons_append,bVb,bVn,eq_self,Bool.and_self,BEq.rfl,not_true_eq_false,capN,hA,hB,t1,t2,t3,h0,h2,h3,Int.zero_add];(first|((with_reducible refine hK _ ?_);clear hK K)|((with_reducible refine hK ?_);clear hK hK3 K hK2)|((with_reducible refine hK3 ?_);clear hK hK3 K hK2)))|((with_reducible refine khs 90 ?_ ?_ ?_ ?_);rotate_left 2;exact hg)|((first|with_reducible refine ret_h fun K hK=>?_|with_reducible refine ret_hh rfl fun K hK=>?_|with_reducible refine ret_pp fun K hK=>?_);simp (disch:=omega) only [bg0,bg1,bg2,bg3,bg4,stepO,rsAs,eff,AX.ev,St.put,binA,conc,ap1,ofVal,Int.reduceTMod,Int.reduceTDiv,reduceCtorEq,fillA,AV.cells,AV.fine,AV.one,Nat.reduceAdd,Nat.reduceSub,Nat.reduceMul,Nat.reduceLT,Nat.reduceLeDiff,Int.reduceLT,Int.reduceLE,Int.reduceAdd,Int.reduceSub,Int.reduceNeg,Int.reduceMul,Int.reduceEq,Int.reduceToNat,nilA,moveA,live,loadA,rdA,storeA,wrA,intA,elemA,lenA,appA,srcA,isPtr,isNilPtr,partA,resOf,sliceA,cut,id,ap2,reduceIte,concs,chkB,geB,AOp.cls,AOp.xs,ltB,ltC,Nat.reduceBEq,Option.toList,List.cons_append,decide_eq_true,decide_eq_false,if_pos,if_neg,List.length_map,List.cons_append,bVb,bVn,eq_self,Bool.and_self,BEq.rfl,not_true_eq_false,capN,hA,hB,t1,t2,t3,h0,h2,h3,Int.zero_add];(first|((with_reducible refine hK _ ?_ ?_ ?_ ?_);rotate_left 2;rfl;rfl)|((with_reducible refine hK _ ?_);rfl))))
end Go.Proofs.YtgpldekhcojimaaDoor.Sim.Pr7
namespace Go.Proofs.YtgpldekhcojimaaDoor.Sim.Pr7
open Go.RowKit
set_option maxRecDepth 100000
theorem ret_frz {t:Nat} {k:Nat} {es:List AV} {st:St} {i g n:Nat} {e:TypeId} {fz:Nat} (h1:st.s.getD t undefA = .ol i g n) (h2:st.H[i]? = some ⟨e,k,es,g,fz⟩) (hn:es.length=n) (hp:es.all AV.isP=true):RetP [(t,none)] (.sl k es) .r st:=by
  subst hn
  refine ⟨.inr rfl,[.ol i g es.length],by simp only [rsAs,h1],[.sl k es],st.H.set i ⟨e,k,es,g,max fz es.length⟩,?_,rfl⟩
  simp only [purA,pur,purC,h2,Nat.le_refl,List.take_length,hp,and_self,if_true]
def MkOk (G:Nat→AV):Prop:=∀ l:List Pr,l.length≤40→Okl l→PC Tryd.prog G 48 [.sl 2 (l.map pA)] (.sl 2 ((mk l).map pA))
theorem okl_mk {l:List Pr} (h:Okl l):Okl (mk l):=⟨by have:=mk_len l;have:=h.len;omega,fun p hp=>h.sz p (mk_mem hp)⟩
set_option maxHeartbeats 2000000 in
theorem sorted31 (G:Nat→AV) (hM:MkOk G) (l:List Pr) (hl:Okl l) (h40:l.length≤40):PC Tryd.prog G 54 [.sl 2 (l.map pA)] (.sl 2 ((mk l).map pA)):=by
  by_cases hs:SLt l
  · have hi := is11 G l hl true (by simp [hs])
    refine pc_of cop54 ?_
    rw [mk_of hs]
    show W _ _ _ _ ⟨_,_⟩;simp only [A54,List.cons_append,List.nil_append,List.length_cons,List.length_nil,Nat.reduceAdd,Nat.reduceSub,List.replicate]
    repeat (first|with_reducible refine w_seq ?_|with_reducible refine w_reg ?_|with_reducible refine ws_nil ?_|with_reducible refine q_then ?_|with_reducible refine w_ret ?_|with_reducible refine q_then_r ?_|((first|with_reducible refine ks fun K hK=>?_|with_reducible refine kd fun K hK=>?_|with_reducible refine kc fun K hK2 hK hK3=>?_);simp (disch:=omega) only [bg0,bg1,bg2,bg3,bg4,stepO,rsAs,eff,AX.ev,St.put,binA,conc,ap1,ofVal,Int.reduceTMod,Int.reduceTDiv,reduceCtorEq,fillA,AV.cells,AV.fine,AV.one,Nat.reduceAdd,Nat.reduceSub,Nat.reduceMul,Nat.reduceLT,Nat.reduceLeDiff,Int.reduceLT,Int.reduceLE,Int.reduceAdd,Int.reduceSub,Int.reduceNeg,Int.reduceMul,Int.reduceEq,Int.reduceToNat,nilA,moveA,live,loadA,rdA,storeA,wrA,intA,elemA,lenA,appA,srcA,isPtr,isNilPtr,partA,resOf,sliceA,cut,id,ap2,reduceIte,concs,chkB,geB,AOp.cls,AOp.xs,ltB,ltC,Nat.reduceBEq,Option.toList,List.cons_append,decide_eq_true,decide_eq_false,if_pos,if_neg,List.length_map,pA_at,List.cons_append,bVb,bVn,eq_self,Bool.and_self,BEq.rfl,not_true_eq_false,u_str];(first|((with_reducible refine hK _ ?_);clear hK K)|((with_reducible refine hK ?_);clear hK hK3 K hK2)|((with_reducible refine hK3 ?_);clear hK hK3 K hK2)))|((with_reducible refine kps 78 ?_ ?_ ?_ ?_);rotate_left 1;rfl;exact hi)|((first|with_reducible refine ret_h fun K hK=>?_|with_reducible refine ret_hh rfl fun K hK=>?_|with_reducible refine ret_pp fun K hK=>?_);simp (disch:=omega) only [bg0,bg1,bg2,bg3,bg4,stepO,rsAs,eff,AX.ev,St.put,binA,conc,ap1,ofVal,Int.reduceTMod,Int.reduceTDiv,reduceCtorEq,fillA,AV.cells,AV.fine,AV.one,Nat.reduceAdd,Nat.reduceSub,Nat.reduceMul,Nat.reduceLT,Nat.reduceLeDiff,Int.reduceLT,Int.reduceLE,Int.reduceAdd,Int.reduceSub,Int.reduceNeg,Int.reduceMul,Int.reduceEq,Int.reduceToNat,nilA,moveA,live,loadA,rdA,storeA,wrA,intA,elemA,lenA,appA,srcA,isPtr,isNilPtr,partA,resOf,sliceA,cut,id,ap2,reduceIte,concs,chkB,geB,AOp.cls,AOp.xs,ltB,ltC,Nat.reduceBEq,Option.toList,List.cons_append,decide_eq_true,decide_eq_false,if_pos,if_neg,List.length_map,pA_at,List.cons_append,bVb,bVn,eq_self,Bool.and_self,BEq.rfl,not_true_eq_false,u_str];(first|((with_reducible refine hK _ ?_ ?_ ?_ ?_);rotate_left 2;rfl;rfl)|((with_reducible refine hK _ ?_);rfl))))
  · have hi := is11 G l hl false (by simp [hs])
    refine pc_of cop54 ?_
    show W _ _ _ _ ⟨_,_⟩;simp only [A54,List.cons_append,List.nil_append,List.length_cons,List.length_nil,Nat.reduceAdd,Nat.reduceSub,List.replicate]
    repeat (first|with_reducible refine w_seq ?_|with_reducible refine w_reg ?_|with_reducible refine w_skip ?_|with_reducible refine ws_nil ?_|with_reducible refine q_then ?_|with_reducible refine w_ret ?_|((first|with_reducible refine ks fun K hK=>?_|with_reducible refine kd fun K hK=>?_|with_reducible refine kc fun K hK2 hK hK3=>?_);simp (disch:=omega) only [bg0,bg1,bg2,bg3,bg4,stepO,rsAs,eff,AX.ev,St.put,binA,conc,ap1,ofVal,Int.reduceTMod,Int.reduceTDiv,reduceCtorEq,fillA,AV.cells,AV.fine,AV.one,Nat.reduceAdd,Nat.reduceSub,Nat.reduceMul,Nat.reduceLT,Nat.reduceLeDiff,Int.reduceLT,Int.reduceLE,Int.reduceAdd,Int.reduceSub,Int.reduceNeg,Int.reduceMul,Int.reduceEq,Int.reduceToNat,nilA,moveA,live,loadA,rdA,storeA,wrA,intA,elemA,lenA,appA,srcA,isPtr,isNilPtr,partA,resOf,sliceA,cut,id,ap2,reduceIte,concs,chkB,geB,AOp.cls,AOp.xs,ltB,ltC,Nat.reduceBEq,Option.toList,List.cons_append,decide_eq_true,decide_eq_false,if_pos,if_neg,List.length_map,pA_at,List.cons_append,bVb,bVn,eq_self,Bool.and_self,BEq.rfl,not_true_eq_false,u_str];(first|((with_reducible refine hK _ ?_);clear hK K)|((with_reducible refine hK ?_);clear hK hK3 K hK2)|((with_reducible refine hK3 ?_);clear hK hK3 K hK2)))|((with_reducible refine kps 78 ?_ ?_ ?_ ?_);rotate_left 1;rfl;exact hi)|((with_reducible refine kps 48 ?_ ?_ ?_ ?_);rotate_left 1;rfl;exact (hM l h40 hl))|((first|with_reducible refine ret_h fun K hK=>?_|with_reducible refine ret_hh rfl fun K hK=>?_|with_reducible refine ret_pp fun K hK=>?_);simp (disch:=omega) only [bg0,bg1,bg2,bg3,bg4,stepO,rsAs,eff,AX.ev,St.put,binA,conc,ap1,ofVal,Int.reduceTMod,Int.reduceTDiv,reduceCtorEq,fillA,AV.cells,AV.fine,AV.one,Nat.reduceAdd,Nat.reduceSub,Nat.reduceMul,Nat.reduceLT,Nat.reduceLeDiff,Int.reduceLT,Int.reduceLE,Int.reduceAdd,Int.reduceSub,Int.reduceNeg,Int.reduceMul,Int.reduceEq,Int.reduceToNat,nilA,moveA,live,loadA,rdA,storeA,wrA,intA,elemA,lenA,appA,srcA,isPtr,isNilPtr,partA,resOf,sliceA,cut,id,ap2,reduceIte,concs,chkB,geB,AOp.cls,AOp.xs,ltB,ltC,Nat.reduceBEq,Option.toList,List.cons_append,decide_eq_true,decide_eq_false,if_pos,if_neg,List.length_map,pA_at,List.cons_append,bVb,bVn,eq_self,Bool.and_self,BEq.rfl,not_true_eq_false,u_str];(first|((with_reducible refine hK _ ?_ ?_ ?_ ?_);rotate_left 2;rfl;rfl)|((with_reducible refine hK _ ?_);rfl))))
abbrev oP (p:Option Pr):AV:=.tup [.agg [S ((p.getD default).1),S ((p.getD default).2)],Bo p.isSome]
theorem dflt:(default:Pr)=(⟨#[]⟩,⟨#[]⟩):=rfl
def af (m:List Pr) (k:ByteArray):Option Pr:=m[(le m k).length]?
def fl (m:List Pr) (k:ByteArray):Option Pr:=(le m k).getLast?
theorem fl_at {m:List Pr} (h:SLe m) (k:ByteArray) (h0:(le m k).length ≠ 0):∃ hi:(le m k).length - 1 < m.length,fl m k=some (m[(le m k).length - 1]):=by
  have hl:=le_len (B:=m) (k:=k)
  refine ⟨by omega,?_⟩
  unfold fl
  rw [List.getLast?_eq_getElem?]
  have e:=List.getElem?_append_left (l₁:=le m k) (l₂:=hi m k) (i:=(le m k).length - 1) (by omega)
  rw [← le_split h k] at e
  rw [← e,List.getElem?_eq_getElem]
set_option maxHeartbeats 2000000 in
theorem floor23 (G:Nat→AV) (hM:MkOk G) (l:List Pr) (hl:Okl l) (h40:l.length≤40) (key:ByteArray) (hk:key.size≤9223372036854775807):PC Tryd.prog G 27 [.sl 2 (l.map pA),S key] (oP (fl (mk l) key)):=by
  have hs:=sorted31 G hM l hl h40
  have hm:=okl_mk hl
  have hlen:=hm.len
  have hi:=idx41 G (mk l) (mk_lt l).le hm key hk
  have hll:=le_len (B:=mk l) (k:=key)
  have hfl:=fl_at (mk_lt l).le key
  have hfn:(le (mk l) key).length=0→fl (mk l) key=none:=fun h=>by unfold fl;rw [List.length_eq_zero_iff.1 h];rfl
  refine pc_of cop27 ?_
  generalize mk l=m at *
  generalize (le m key).length=c at *
  generalize fl m key=r at *
  show W _ _ _ _ ⟨_,_⟩;simp only [A27,List.cons_append,List.nil_append,List.length_cons,List.length_nil,Nat.reduceAdd,Nat.reduceSub,List.replicate]
  by_cases hc:c=0
  · rw [hfn hc]
    simp only [oP,Option.getD_none,Option.isSome_none,dflt]
    have e:((c:Int)=0):=by omega
    repeat (first|with_reducible refine w_seq ?_|with_reducible refine w_reg ?_|with_reducible refine ws_nil ?_|with_reducible refine q_then ?_|with_reducible refine w_ret ?_|with_reducible refine q_then_r ?_|((first|with_reducible refine ks fun K hK=>?_|with_reducible refine kd fun K hK=>?_|with_reducible refine kc fun K hK2 hK hK3=>?_);simp (disch:=omega) only [bg0,bg1,bg2,bg3,bg4,stepO,rsAs,eff,AX.ev,St.put,binA,conc,ap1,ofVal,Int.reduceTMod,Int.reduceTDiv,reduceCtorEq,fillA,AV.cells,AV.fine,AV.one,Nat.reduceAdd,Nat.reduceSub,Nat.reduceMul,Nat.reduceLT,Nat.reduceLeDiff,Int.reduceLT,Int.reduceLE,Int.reduceAdd,Int.reduceSub,Int.reduceNeg,Int.reduceMul,Int.reduceEq,Int.reduceToNat,nilA,moveA,live,loadA,rdA,storeA,wrA,intA,elemA,lenA,appA,srcA,isPtr,isNilPtr,partA,resOf,sliceA,cut,id,ap2,reduceIte,concs,chkB,geB,AOp.cls,AOp.xs,ltB,ltC,Nat.reduceBEq,Option.toList,List.cons_append,decide_eq_true,decide_eq_false,if_pos,if_neg,List.length_map,pA_at,List.cons_append,bVb,bVn,eq_self,Bool.and_self,BEq.rfl,not_true_eq_false,u_str,e];(first|((with_reducible refine hK _ ?_);clear hK K)|((with_reducible refine hK ?_);clear hK hK3 K hK2)|((with_reducible refine hK3 ?_);clear hK hK3 K hK2)))|((with_reducible refine kps 54 ?_ ?_ ?_ ?_);rotate_left 1;rfl;exact hs)|((with_reducible refine kps 56 ?_ ?_ ?_ ?_);rotate_left 1;rfl;exact (gr34 G key))|((with_reducible refine kps 55 ?_ ?_ ?_ ?_);rotate_left 1;rfl;exact hi)|((first|with_reducible refine ret_h fun K hK=>?_|with_reducible refine ret_hh rfl fun K hK=>?_|with_reducible refine ret_pp fun K hK=>?_);simp (disch:=omega) only [bg0,bg1,bg2,bg3,bg4,stepO,rsAs,eff,AX.ev,St.put,binA,conc,ap1,ofVal,Int.reduceTMod,Int.reduceTDiv,reduceCtorEq,fillA,AV.cells,AV.fine,AV.one,Nat.reduceAdd,Nat.reduceSub,Nat.reduceMul,Nat.reduceLT,Nat.reduceLeDiff,Int.reduceLT,Int.reduceLE,Int.reduceAdd,Int.reduceSub,Int.reduceNeg,Int.reduceMul,Int.reduceEq,Int.reduceToNat,nilA,moveA,live,loadA,rdA,storeA,wrA,intA,elemA,lenA,appA,srcA,isPtr,isNilPtr,partA,resOf,sliceA,cut,id,ap2,reduceIte,concs,chkB,geB,AOp.cls,AOp.xs,ltB,ltC,Nat.reduceBEq,Option.toList,List.cons_append,decide_eq_true,decide_eq_false,if_pos,if_neg,List.length_map,pA_at,List.cons_append,bVb,bVn,eq_self,Bool.and_self,BEq.rfl,not_true_eq_false,u_str,e];(first|((with_reducible refine hK _ ?_ ?_ ?_ ?_);rotate_left 2;rfl;rfl)|((with_reducible refine hK _ ?_);rfl))))
  · obtain ⟨h1, h2⟩ := hfl hc
    rw [h2]
    simp only [oP,Option.getD_some,Option.isSome_some]
    have e:¬ ((c:Int)=0):=by omega
    have e1:(c:Int) - 1=((c - 1:Nat):Int):=by omega
    repeat (first|with_reducible refine w_seq ?_|with_reducible refine w_reg ?_|with_reducible refine w_skip ?_|with_reducible refine ws_nil ?_|with_reducible refine q_then ?_|with_reducible refine w_ret ?_|((first|with_reducible refine ks fun K hK=>?_|with_reducible refine kd fun K hK=>?_|with_reducible refine kc fun K hK2 hK hK3=>?_);simp (disch:=omega) only [bg0,bg1,bg2,bg3,bg4,stepO,rsAs,eff,AX.ev,St.put,binA,conc,ap1,ofVal,Int.reduceTMod,Int.reduceTDiv,reduceCtorEq,fillA,AV.cells,AV.fine,AV.one,Nat.reduceAdd,Nat.reduceSub,Nat.reduceMul,Nat.reduceLT,Nat.reduceLeDiff,Int.reduceLT,Int.reduceLE,Int.reduceAdd,Int.reduceSub,Int.reduceNeg,Int.reduceMul,Int.reduceEq,Int.reduceToNat,nilA,moveA,live,loadA,rdA,storeA,wrA,intA,elemA,lenA,appA,srcA,isPtr,isNilPtr,partA,resOf,sliceA,cut,id,ap2,reduceIte,concs,chkB,geB,AOp.cls,AOp.xs,ltB,ltC,Nat.reduceBEq,Option.toList,List.cons_append,decide_eq_true,decide_eq_false,if_pos,if_neg,List.length_map,pA_at,List.cons_append,bVb,bVn,eq_self,Bool.and_self,BEq.rfl,not_true_eq_false,u_str,e,e1];(first|((with_reducible refine hK _ ?_);clear hK K)|((with_reducible refine hK ?_);clear hK hK3 K hK2)|((with_reducible refine hK3 ?_);clear hK hK3 K hK2)))|((with_reducible refine kps 54 ?_ ?_ ?_ ?_);rotate_left 1;rfl;exact hs)|((with_reducible refine kps 56 ?_ ?_ ?_ ?_);rotate_left 1;rfl;exact (gr34 G key))|((with_reducible refine kps 55 ?_ ?_ ?_ ?_);rotate_left 1;rfl;exact hi)|((first|with_reducible refine ret_h fun K hK=>?_|with_reducible refine ret_hh rfl fun K hK=>?_|with_reducible refine ret_pp fun K hK=>?_);simp (disch:=omega) only [bg0,bg1,bg2,bg3,bg4,stepO,rsAs,eff,AX.ev,St.put,binA,conc,ap1,ofVal,Int.reduceTMod,Int.reduceTDiv,reduceCtorEq,fillA,AV.cells,AV.fine,AV.one,Nat.reduceAdd,Nat.reduceSub,Nat.reduceMul,Nat.reduceLT,Nat.reduceLeDiff,Int.reduceLT,Int.reduceLE,Int.reduceAdd,Int.reduceSub,Int.reduceNeg,Int.reduceMul,Int.reduceEq,Int.reduceToNat,nilA,moveA,live,loadA,rdA,storeA,wrA,intA,elemA,lenA,appA,srcA,isPtr,isNilPtr,partA,resOf,sliceA,cut,id,ap2,reduceIte,concs,chkB,geB,AOp.cls,AOp.xs,ltB,ltC,Nat.reduceBEq,Option.toList,List.cons_append,decide_eq_true,decide_eq_false,if_pos,if_neg,List.length_map,pA_at,List.cons_append,bVb,bVn,eq_self,Bool.and_self,BEq.rfl,not_true_eq_false,u_str,e,e1];(first|((with_reducible refine hK _ ?_ ?_ ?_ ?_);rotate_left 2;rfl;rfl)|((with_reducible refine hK _ ?_);rfl))))
set_option maxHeartbeats 2000000 in
theorem get9 (G:Nat→AV) (hM:MkOk G) (l:List Pr) (hl:Okl l) (h40:l.length≤40) (key:ByteArray) (hk:key.size≤9223372036854775807):PC Tryd.prog G 37 [.sl 2 (l.map pA),S key] (.tup [S ((val l key).getD ⟨#[]⟩),Bo (val l key).isSome]):=by
  have hf:=floor23 G hM l hl h40 key hk
  have hv:val l key=match fl (mk l) key with|some p=>if p.1=key then some p.2 else none|none=>none:=by
    rw [← mk_val];exact get_le (mk_lt l) key
  rw [hv]
  refine pc_of cop37 ?_
  generalize fl (mk l) key=r at *
  show W _ _ _ _ ⟨_,_⟩;simp only [A37,List.cons_append,List.nil_append,List.length_cons,List.length_nil,Nat.reduceAdd,Nat.reduceSub,List.replicate]
  cases r with
  | none =>
    simp only [oP,Option.getD_none,Option.isSome_none,dflt] at hf ⊢
    repeat (first|with_reducible refine w_seq ?_|with_reducible refine w_reg ?_|with_reducible refine ws_nil ?_|with_reducible refine q_then ?_|with_reducible refine w_ret ?_|with_reducible refine q_then_r ?_|((with_reducible refine kgs_f ?_ ?_);rfl)|((first|with_reducible refine ks fun K hK=>?_|with_reducible refine kd fun K hK=>?_|with_reducible refine kc fun K hK2 hK hK3=>?_);simp (disch:=omega) only [bg0,bg1,bg2,bg3,bg4,stepO,rsAs,eff,AX.ev,St.put,binA,conc,ap1,ofVal,Int.reduceTMod,Int.reduceTDiv,reduceCtorEq,fillA,AV.cells,AV.fine,AV.one,Nat.reduceAdd,Nat.reduceSub,Nat.reduceMul,Nat.reduceLT,Nat.reduceLeDiff,Int.reduceLT,Int.reduceLE,Int.reduceAdd,Int.reduceSub,Int.reduceNeg,Int.reduceMul,Int.reduceEq,Int.reduceToNat,nilA,moveA,live,loadA,rdA,storeA,wrA,intA,elemA,lenA,appA,srcA,isPtr,isNilPtr,partA,resOf,sliceA,cut,id,ap2,reduceIte,concs,chkB,geB,AOp.cls,AOp.xs,ltB,ltC,Nat.reduceBEq,Option.toList,List.cons_append,decide_eq_true,decide_eq_false,if_pos,if_neg,List.length_map,pA_at,List.cons_append,bVb,bVn,eq_self,Bool.and_self,BEq.rfl,not_true_eq_false,u_str];(first|((with_reducible refine hK _ ?_);clear hK K)|((with_reducible refine hK ?_);clear hK hK3 K hK2)|((with_reducible refine hK3 ?_);clear hK hK3 K hK2)))|((with_reducible refine kps 27 ?_ ?_ ?_ ?_);rotate_left 1;rfl;exact hf)|((first|with_reducible refine ret_h fun K hK=>?_|with_reducible refine ret_hh rfl fun K hK=>?_|with_reducible refine ret_pp fun K hK=>?_);simp (disch:=omega) only [bg0,bg1,bg2,bg3,bg4,stepO,rsAs,eff,AX.ev,St.put,binA,conc,ap1,ofVal,Int.reduceTMod,Int.reduceTDiv,reduceCtorEq,fillA,AV.cells,AV.fine,AV.one,Nat.reduceAdd,Nat.reduceSub,Nat.reduceMul,Nat.reduceLT,Nat.reduceLeDiff,Int.reduceLT,Int.reduceLE,Int.reduceAdd,Int.reduceSub,Int.reduceNeg,Int.reduceMul,Int.reduceEq,Int.reduceToNat,nilA,moveA,live,loadA,rdA,storeA,wrA,intA,elemA,lenA,appA,srcA,isPtr,isNilPtr,partA,resOf,sliceA,cut,id,ap2,reduceIte,concs,chkB,geB,AOp.cls,AOp.xs,ltB,ltC,Nat.reduceBEq,Option.toList,List.cons_append,decide_eq_true,decide_eq_false,if_pos,if_neg,List.length_map,pA_at,List.cons_append,bVb,bVn,eq_self,Bool.and_self,BEq.rfl,not_true_eq_false,u_str];(first|((with_reducible refine hK _ ?_ ?_ ?_ ?_);rotate_left 2;rfl;rfl)|((with_reducible refine hK _ ?_);rfl))))
  | some p =>
    simp only [oP,Option.getD_some,Option.isSome_some] at hf ⊢
    by_cases hp:p.1=key
    · rw [if_pos hp]
      simp only [Option.getD_some,Option.isSome_some]
      repeat (first|with_reducible refine w_seq ?_|with_reducible refine w_reg ?_|with_reducible refine w_skip ?_|with_reducible refine ws_nil ?_|with_reducible refine q_then ?_|with_reducible refine w_ret ?_|((with_reducible refine kgs_t ?_ ?_);rfl)|((first|with_reducible refine ks fun K hK=>?_|with_reducible refine kd fun K hK=>?_|with_reducible refine kc fun K hK2 hK hK3=>?_);simp (disch:=omega) only [bg0,bg1,bg2,bg3,bg4,stepO,rsAs,eff,AX.ev,St.put,binA,conc,ap1,ofVal,Int.reduceTMod,Int.reduceTDiv,reduceCtorEq,fillA,AV.cells,AV.fine,AV.one,Nat.reduceAdd,Nat.reduceSub,Nat.reduceMul,Nat.reduceLT,Nat.reduceLeDiff,Int.reduceLT,Int.reduceLE,Int.reduceAdd,Int.reduceSub,Int.reduceNeg,Int.reduceMul,Int.reduceEq,Int.reduceToNat,nilA,moveA,live,loadA,rdA,storeA,wrA,intA,elemA,lenA,appA,srcA,isPtr,isNilPtr,partA,resOf,sliceA,cut,id,ap2,reduceIte,concs,chkB,geB,AOp.cls,AOp.xs,ltB,ltC,Nat.reduceBEq,Option.toList,List.cons_append,decide_eq_true,decide_eq_false,if_pos,if_neg,List.length_map,pA_at,List.cons_append,bVb,bVn,eq_self,Bool.and_self,BEq.rfl,not_true_eq_false,u_str,hp];(first|((with_reducible refine hK _ ?_);clear hK K)|((with_reducible refine hK ?_);clear hK hK3 K hK2)|((with_reducible refine hK3 ?_);clear hK hK3 K hK2)))|((with_reducible refine kps 27 ?_ ?_ ?_ ?_);rotate_left 1;rfl;exact hf)|((first|with_reducible refine ret_h fun K hK=>?_|with_reducible refine ret_hh rfl fun K hK=>?_|with_reducible refine ret_pp fun K hK=>?_);simp (disch:=omega) only [bg0,bg1,bg2,bg3,bg4,stepO,rsAs,eff,AX.ev,St.put,binA,conc,ap1,ofVal,Int.reduceTMod,Int.reduceTDiv,reduceCtorEq,fillA,AV.cells,AV.fine,AV.one,Nat.reduceAdd,Nat.reduceSub,Nat.reduceMul,Nat.reduceLT,Nat.reduceLeDiff,Int.reduceLT,Int.reduceLE,Int.reduceAdd,Int.reduceSub,Int.reduceNeg,Int.reduceMul,Int.reduceEq,Int.reduceToNat,nilA,moveA,live,loadA,rdA,storeA,wrA,intA,elemA,lenA,appA,srcA,isPtr,isNilPtr,partA,resOf,sliceA,cut,id,ap2,reduceIte,concs,chkB,geB,AOp.cls,AOp.xs,ltB,ltC,Nat.reduceBEq,Option.toList,List.cons_append,decide_eq_true,decide_eq_false,if_pos,if_neg,List.length_map,pA_at,List.cons_append,bVb,bVn,eq_self,Bool.and_self,BEq.rfl,not_true_eq_false,u_str,hp];(first|((with_reducible refine hK _ ?_ ?_ ?_ ?_);rotate_left 2;rfl;rfl)|((with_reducible refine hK _ ?_);rfl))))
    · rw [if_neg hp]
      simp only [Option.getD_none,Option.isSome_none]
      repeat (first|with_reducible refine w_seq ?_|with_reducible refine w_reg ?_|with_reducible refine ws_nil ?_|with_reducible refine q_then ?_|with_reducible refine w_ret ?_|with_reducible refine q_then_r ?_|((with_reducible refine kgs_t ?_ ?_);rfl)|((first|with_reducible refine ks fun K hK=>?_|with_reducible refine kd fun K hK=>?_|with_reducible refine kc fun K hK2 hK hK3=>?_);simp (disch:=omega) only [bg0,bg1,bg2,bg3,bg4,stepO,rsAs,eff,AX.ev,St.put,binA,conc,ap1,ofVal,Int.reduceTMod,Int.reduceTDiv,reduceCtorEq,fillA,AV.cells,AV.fine,AV.one,Nat.reduceAdd,Nat.reduceSub,Nat.reduceMul,Nat.reduceLT,Nat.reduceLeDiff,Int.reduceLT,Int.reduceLE,Int.reduceAdd,Int.reduceSub,Int.reduceNeg,Int.reduceMul,Int.reduceEq,Int.reduceToNat,nilA,moveA,live,loadA,rdA,storeA,wrA,intA,elemA,lenA,appA,srcA,isPtr,isNilPtr,partA,resOf,sliceA,cut,id,ap2,reduceIte,concs,chkB,geB,AOp.cls,AOp.xs,ltB,ltC,Nat.reduceBEq,Option.toList,List.cons_append,decide_eq_true,decide_eq_false,if_pos,if_neg,List.length_map,pA_at,List.cons_append,bVb,bVn,eq_self,Bool.and_self,BEq.rfl,not_true_eq_false,u_str,hp];(first|((with_reducible refine hK _ ?_);clear hK K)|((with_reducible refine hK ?_);clear hK hK3 K hK2)|((with_reducible refine hK3 ?_);clear hK hK3 K hK2)))|((with_reducible refine kps 27 ?_ ?_ ?_ ?_);rotate_left 1;rfl;exact hf)|((first|with_reducible refine ret_h fun K hK=>?_|with_reducible refine ret_hh rfl fun K hK=>?_|with_reducible refine ret_pp fun K hK=>?_);simp (disch:=omega) only [bg0,bg1,bg2,bg3,bg4,stepO,rsAs,eff,AX.ev,St.put,binA,conc,ap1,ofVal,Int.reduceTMod,Int.reduceTDiv,reduceCtorEq,fillA,AV.cells,AV.fine,AV.one,Nat.reduceAdd,Nat.reduceSub,Nat.reduceMul,Nat.reduceLT,Nat.reduceLeDiff,Int.reduceLT,Int.reduceLE,Int.reduceAdd,Int.reduceSub,Int.reduceNeg,Int.reduceMul,Int.reduceEq,Int.reduceToNat,nilA,moveA,live,loadA,rdA,storeA,wrA,intA,elemA,lenA,appA,srcA,isPtr,isNilPtr,partA,resOf,sliceA,cut,id,ap2,reduceIte,concs,chkB,geB,AOp.cls,AOp.xs,ltB,ltC,Nat.reduceBEq,Option.toList,List.cons_append,decide_eq_true,decide_eq_false,if_pos,if_neg,List.length_map,pA_at,List.cons_append,bVb,bVn,eq_self,Bool.and_self,BEq.rfl,not_true_eq_false,u_str,hp];(first|((with_reducible refine hK _ ?_ ?_ ?_ ?_);rotate_left 2;rfl;rfl)|((with_reducible refine hK _ ?_);rfl))))
theorem drop_le {m:List Pr} (h:SLe m) (key:ByteArray):m.drop (le m key).length=hi m key:=hi_drop h key
set_option maxHeartbeats 4000000 in
theorem put17 (G:Nat→AV) (hM:MkOk G) (l:List Pr) (hl:Okl l) (h40:l.length≤40) (key v:ByteArray) (hk:key.size≤9223372036854775807):PC Tryd.prog G 38 [.sl 2 (l.map pA),S key,S v] (.sl 2 ((pt (mk l) key v).map pA)):=by
  have hs:=sorted31 G hM l hl h40
  have hm:=okl_mk hl
  have hlen:=hm.len
  have hi1:=idx40 G (mk l) (mk_lt l).le hm key hk
  have hi2:=idx41 G (mk l) (mk_lt l).le hm key hk
  have hl1:=lo_len (B:=mk l) (k:=key)
  have hl2:=le_len (B:=mk l) (k:=key)
  have hml:=mk_len l
  have t1:=lo_take (mk_lt l).le key
  have t2:=drop_le (mk_lt l).le key
  have hpt:(pt (mk l) key v).map pA=(lo (mk l) key).map pA++[.agg [S key,S v]]++(hi (mk l) key).map pA:=by simp [pt,pA]
  rw [hpt]
  have hhl:(hi (mk l) key).length=(mk l).length - (le (mk l) key).length:=by rw [← t2];simp
  refine pc_of cop38 ?_
  generalize mk l=m at *
  have c3:=cc3 G ((lo m key).map pA) ((hi m key).map pA) (.agg [S key,S v]) (lo m key).length (hi m key).length (by simp) (by simp) (by omega) (by omega)
  have s1:(m.map pA).take (lo m key).length=(lo m key).map pA:=by rw [← List.map_take,t1]
  have s2:(m.map pA).drop (le m key).length=(hi m key).map pA:=by rw [← List.map_drop,t2]
  have s3:∀ x:Nat,(m.map pA).take m.length=m.map pA:=fun _=>List.take_of_length_le (by simp)
  have s3:=s3 0
  have pL:=all_pA (lo m key)
  have pH:=all_pA (hi m key)
  have lL:((lo m key).map pA).length=(lo m key).length:=by simp
  have lH:((hi m key).map pA).length=(hi m key).length:=by simp
  generalize (lo m key).map pA=LA at *
  generalize (hi m key).map pA=HA at *
  generalize (lo m key).length=c at *
  generalize (le m key).length=d at *
  show W _ _ _ _ ⟨_,_⟩;simp only [A38,List.cons_append,List.nil_append,List.length_cons,List.length_nil,Nat.reduceAdd,Nat.reduceSub,List.replicate]
  repeat (first|with_reducible refine w_seq ?_|with_reducible refine w_reg ?_|with_reducible refine w_draw ?_|with_reducible refine ws_nil ?_|with_reducible refine wd_nil ?_|with_reducible refine q_then ?_|with_reducible refine w_ret ?_|((first|with_reducible refine ks fun K hK=>?_|with_reducible refine kd fun K hK=>?_|with_reducible refine kc fun K hK2 hK hK3=>?_);simp (disch:=omega) only [bg0,bg1,bg2,bg3,bg4,stepO,rsAs,eff,AX.ev,St.put,binA,conc,ap1,ofVal,Int.reduceTMod,Int.reduceTDiv,reduceCtorEq,fillA,AV.cells,AV.fine,AV.one,Nat.reduceAdd,Nat.reduceSub,Nat.reduceMul,Nat.reduceLT,Nat.reduceLeDiff,Int.reduceLT,Int.reduceLE,Int.reduceAdd,Int.reduceSub,Int.reduceNeg,Int.reduceMul,Int.reduceEq,Int.reduceToNat,nilA,moveA,live,loadA,rdA,storeA,wrA,intA,elemA,lenA,appA,srcA,isPtr,isNilPtr,partA,resOf,sliceA,cut,id,ap2,reduceIte,concs,chkB,geB,AOp.cls,AOp.xs,ltB,ltC,Nat.reduceBEq,Option.toList,List.cons_append,decide_eq_true,decide_eq_false,if_pos,if_neg,List.length_map,pA_at,List.cons_append,bVb,bVn,eq_self,Bool.and_self,BEq.rfl,not_true_eq_false,u_str,s1,s2,s3];(first|((with_reducible refine hK _ ?_);clear hK K)|((with_reducible refine hK ?_);clear hK hK3 K hK2)|((with_reducible refine hK3 ?_);clear hK hK3 K hK2)))|((with_reducible refine kps 54 ?_ ?_ ?_ ?_);rotate_left 1;rfl;exact hs)|((with_reducible refine kps 67 ?_ ?_ ?_ ?_);rotate_left 1;rfl;exact (nl33 G key))|((with_reducible refine kps 56 ?_ ?_ ?_ ?_);rotate_left 1;rfl;exact (gr34 G key))|((with_reducible refine kps 55 ?_ ?_ ?_ ?_);rotate_left 1;rfl;exact hi1)|((with_reducible refine kps 55 ?_ ?_ ?_ ?_);rotate_left 1;rfl;exact hi2)|((first|((with_reducible refine kpd 54 ?_ ?_ ?_ ?_ ?_);rotate_left 1)|((with_reducible refine kpd 67 ?_ ?_ ?_ ?_ ?_);rotate_left 1)|((with_reducible refine kpd 56 ?_ ?_ ?_ ?_ ?_);rotate_left 1)|((with_reducible refine kpd 55 ?_ ?_ ?_ ?_ ?_);rotate_left 1)|((with_reducible refine kpd 55 ?_ ?_ ?_ ?_ ?_);rotate_left 1)|((with_reducible refine khd 68 ?_ ?_ ?_ ?_ ?_);rotate_left 2));(focus (simp (disch:=omega) only [bg0,bg1,bg2,bg3,bg4,stepO,rsAs,eff,AX.ev,St.put,binA,conc,ap1,ofVal,Int.reduceTMod,Int.reduceTDiv,reduceCtorEq,fillA,AV.cells,AV.fine,AV.one,Nat.reduceAdd,Nat.reduceSub,Nat.reduceMul,Nat.reduceLT,Nat.reduceLeDiff,Int.reduceLT,Int.reduceLE,Int.reduceAdd,Int.reduceSub,Int.reduceNeg,Int.reduceMul,Int.reduceEq,Int.reduceToNat,nilA,moveA,live,loadA,rdA,storeA,wrA,intA,elemA,lenA,appA,srcA,isPtr,isNilPtr,partA,resOf,sliceA,cut,id,ap2,reduceIte,concs,chkB,geB,AOp.cls,AOp.xs,ltB,ltC,Nat.reduceBEq,Option.toList,List.cons_append,decide_eq_true,decide_eq_false,if_pos,if_neg,List.length_map,pA_at,List.cons_append,bVb,bVn,eq_self,Bool.and_self,BEq.rfl,not_true_eq_false,u_str,s1,s2,s3];try rfl));(first|(rfl;exact hs)|(rfl;exact (nl33 G key))|(rfl;exact (gr34 G key))|(rfl;exact hi1)|(rfl;exact hi2)|(exact c3))))
  exact ret_frz rfl rfl (by simp [lL,lH];omega) (by simp only [List.all_append,pL,pH];rfl)
end Go.Proofs.YtgpldekhcojimaaDoor.Sim.Pr7
namespace Go.Proofs.YtgpldekhcojimaaDoor.Sim.Pr7
open Go.RowKit
set_option maxRecDepth 100000
section
variable {α:Type} {J K:List α} {o a b y:α}
theorem gR0:(J++o::K)[J.length]? = some o:=by simp
theorem gR01:(J++o::K++[a])[J.length]? = some o:=by simp
theorem gR02:(J++o::K++[a]++[b])[J.length]? = some o:=by simp
theorem sR0:(J++o::K).set J.length y=J++y::K:=by simp
theorem sR01:(J++o::K++[a]).set J.length y=J++y::K++[a]:=by simp
theorem sR02:(J++o::K++[a]++[b]).set J.length y=J++y::K++[a]++[b]:=by simp
theorem lR0:(J++o::K).length=J.length+(K.length+1):=by simp
theorem lR1:(J++o::K++[a]).length=J.length+(K.length+1)+1:=by simp;omega
theorem kR {M:List α} {i:Nat}:(J++o::K++M)[J.length+(K.length+1)+i]? = M[i]?:=by
  have:=ga (L:=J++o::K) (M:=M) (i:=i)
  rwa [lR0] at this
theorem tR {M:List α} {i:Nat}:(J++o::K++M).set (J.length+(K.length+1)+i) y=J++o::K++M.set i y:=by
  have:=sa (L:=J++o::K) (M:=M) (i:=i) (y:=y)
  rwa [lR0] at this
theorem gR1:(J++o::K++[a])[J.length+(K.length+1)]? = some a:=kR (i:=0)
theorem gR2:(J++o::K++[a]++[b])[J.length+(K.length+1)]? = some a:=by rw [List.append_assoc];exact kR (i:=0)
theorem gR22:(J++o::K++[a]++[b])[J.length+(K.length+1)+1]? = some b:=by rw [List.append_assoc];exact kR (i:=1)
theorem sR1:(J++o::K++[a]).set (J.length+(K.length+1)) y=J++o::K++[y]:=tR (i:=0)
theorem sR2:(J++o::K++[a]++[b]).set (J.length+(K.length+1)) y=J++o::K++[y]++[b]:=by simp
theorem sR22:(J++o::K++[a]++[b]).set (J.length+(K.length+1)+1) y=J++o::K++[a]++[y]:=by have h:=tR (J:=J) (K:=K) (o:=o) (M:=[a,b]) (i:=1) (y:=y);simpa using h
end
theorem lasts_drop {l:List Pr} {k:Nat} (h:k < l.length):lasts (l.drop k)=if fk (l[k]).1 (l.drop (k+1))=[] then l[k]::lasts (l.drop (k+1)) else lasts (l.drop (k+1)):=by
  rw [List.drop_eq_getElem_cons h];rfl
theorem mk_snoc {l pre:List Pr} {x:Pr} {rest:List Pr} (h:lasts l=pre++x::rest):(mk pre).take (lo (mk pre) x.1).length++x::(mk pre).drop (lo (mk pre) x.1).length=mk (pre++[x]):=by
  have hne:=lasts_ne l
  rw [h] at hne
  have h1:fk x.1 pre=[]:=fk_none.2 fun p hp=>(List.pairwise_append.1 hne).2.2 p hp x (by simp)
  have h2:fk x.1 (mk pre)=[]:=val_none.1 (by rw [mk_val,val_none];exact h1)
  have h3:=le_lo (mk_lt pre) x.1
  rw [h2,List.append_nil] at h3
  rw [lo_take (mk_lt pre).le,← h3,hi_drop (mk_lt pre).le,h3]
  exact pt_mk pre x.1 x.2
theorem fin15 {l pre : List Pr} {k : Nat} {A : Prop} {v : Nat → AV} {H : Hp} (h1 : A) (h2 : lasts l = pre ++ lasts (l.drop k)) (h3 : v 4 = I k) (h4 : ∃ (J K : Hp) (g fz : Nat), v 3 = .ol J.length g (mk pre).length ∧ H = J ++ ⟨65, 2, (mk pre).map pA, g, fz⟩ :: K) :
    A∧∃ (pre:List Pr) (J K:Hp) (g fz:Nat),lasts l=pre++lasts (l.drop k)∧v 4=I k∧v 3 = .ol J.length g (mk pre).length∧H=J++⟨65,2,(mk pre).map pA,g,fz⟩::K:=by
  obtain ⟨J,K,g,fz,a,b⟩:=h4
  exact ⟨h1,pre,J,K,g,fz,h2,h3,a,b⟩
set_option maxHeartbeats 8000000 in
theorem rmake15 (G:Nat→AV) (l:List Pr) (hl:Okl l):PC Tryd.prog G 35 [.sl 2 (l.map pA)] (.sl 2 ((mk l).map pA)):=by
  have hlen:=hl.len
  refine pc_of cop35 ?_
  show W _ _ _ _ ⟨_,_⟩;simp only [A35,List.cons_append,List.nil_append,List.length_cons,List.length_nil,Nat.reduceAdd,Nat.reduceSub,List.replicate]
  repeat (first|with_reducible refine w_seq ?_|with_reducible refine w_reg ?_|with_reducible refine w_block ?_|with_reducible refine ws_nil ?_|with_reducible refine q_then ?_|((first|with_reducible refine ks fun K hK=>?_|with_reducible refine kd fun K hK=>?_|with_reducible refine kc fun K hK2 hK hK3=>?_);simp (disch:=omega) only [bg0,bg1,bg2,bg3,bg4,stepO,rsAs,eff,AX.ev,St.put,binA,conc,ap1,ofVal,Int.reduceTMod,Int.reduceTDiv,reduceCtorEq,fillA,AV.cells,AV.fine,AV.one,Nat.reduceAdd,Nat.reduceSub,Nat.reduceMul,Nat.reduceLT,Nat.reduceLeDiff,Int.reduceLT,Int.reduceLE,Int.reduceAdd,Int.reduceSub,Int.reduceNeg,Int.reduceMul,Int.reduceEq,Int.reduceToNat,nilA,moveA,live,loadA,rdA,storeA,wrA,intA,elemA,lenA,appA,srcA,isPtr,isNilPtr,partA,resOf,sliceA,cut,id,ap2,reduceIte,concs,chkB,geB,AOp.cls,AOp.xs,ltB,ltC,Nat.reduceBEq,Option.toList,List.cons_append,decide_eq_true,decide_eq_false,if_pos,if_neg,List.length_map,pA_at,bVb,bVn,eq_self,Bool.and_self,BEq.rfl,not_true_eq_false,gR0,gR01,gR02,sR0,sR01,sR02,lR0,lR1,gR1,gR2,gR22,sR1,sR2,sR22,geB,gj1_0,sj1_0,len_last];(first|((with_reducible refine hK _ ?_);clear hK K)|((with_reducible refine hK ?_);clear hK hK3 K hK2)|((with_reducible refine hK3 ?_);clear hK hK3 K hK2))))
  refine w_loop_m [3,4,5,7,8,9,10,11,12,13,14,15,16,17,18,19,20,21,22,23,24,25,26,27,28,29,30,31,32,33,34,35,36,37,38,39,40,41,42,43,44,45,46,47,48,49,50] (fun k v H=>∃ (pre:List Pr) (J K:Hp) (g fz:Nat),lasts l=pre++lasts (l.drop k)∧v 4=I k∧v 3 = .ol J.length g (mk pre).length∧H=J++⟨65,2,(mk pre).map pA,g,fz⟩::K) l.length ⟨[],[],[],0,0,rfl,rfl,rfl,rfl⟩ ?_ ?_
  · rintro k v H hk ⟨pre, J, K, g, fz, hla, h4, h3, rfl⟩
    simp only [mix,mix_nil,mix_end,mix_skp,Nat.reduceEqDiff,Nat.reduceLeDiff,reduceCtorEq,if_true,if_false,reduceIte,Nat.reduceAdd,h3,h4]
    rw [lasts_drop hk] at hla
    have hsub:∀ p ∈ pre,p ∈ l:=fun p hp=>(lasts_sub l).subset (by rw [hla];simp [hp])
    have hkx:=hl.k hk
    have hpl:(mk pre).length≤1000000:=by
      have:=mk_len pre
      have h2:=(lasts_sub l).length_le
      rw [hla] at h2
      simp at h2
      omega
    by_cases hr:fk (l[k]).1 (l.drop (k+1))=[]
    · rw [if_pos hr] at hla
      have h30:=last30 G l hl k hk true (by simp [hr])
      have hsn:=mk_snoc hla
      have hso:=(mk_lt pre).le
      have hks:∀ j (h:j < (mk pre).length),((mk pre)[j]).1.size≤9223372036854775807:=fun j h=>(hl.sz _ (hsub _ (mk_mem (List.getElem_mem h)))).1
      have hx2:l[k]=((l[k]).1,(l[k]).2):=rfl
      have hc:=lo_len (B:=mk pre) (k:=(l[k]).1)
      have hidx:=fun j (h:j < (mk pre).length)=>idx_lo hso (l[k]).1 h
      have pO:=all_pA (mk pre)
      obtain ⟨c,hcc⟩:∃ c,c=(lo (mk pre) (l[k]).1).length:=⟨_,rfl⟩
      rw [← hcc] at hsn hc hidx
      have hmk:(mk (pre++[l[k]])).map pA=((mk pre).map pA).take c++[.agg [S (l[k]).1,S (l[k]).2]]++((mk pre).map pA).drop c:=by
        rw [← hsn];simp [pA]
      have hml:(mk (pre++[l[k]])).length=(mk pre).length+1:=by rw [← hsn];simp;omega
      have hla2:lasts l=(pre++[l[k]])++lasts (l.drop (k+1)):=by rw [hla];simp
      generalize hM:mk pre=m at *
      repeat (first|with_reducible refine w_seq ?_|with_reducible refine w_reg ?_|with_reducible refine w_block ?_|with_reducible refine w_skip ?_|with_reducible refine ws_nil ?_|with_reducible refine q_then ?_|((first|with_reducible refine ks fun K hK=>?_|with_reducible refine kd fun K hK=>?_|with_reducible refine kc fun K hK2 hK hK3=>?_);simp (disch:=omega) only [bg0,bg1,bg2,bg3,bg4,stepO,rsAs,eff,AX.ev,St.put,binA,conc,ap1,ofVal,Int.reduceTMod,Int.reduceTDiv,reduceCtorEq,fillA,AV.cells,AV.fine,AV.one,Nat.reduceAdd,Nat.reduceSub,Nat.reduceMul,Nat.reduceLT,Nat.reduceLeDiff,Int.reduceLT,Int.reduceLE,Int.reduceAdd,Int.reduceSub,Int.reduceNeg,Int.reduceMul,Int.reduceEq,Int.reduceToNat,nilA,moveA,live,loadA,rdA,storeA,wrA,intA,elemA,lenA,appA,srcA,isPtr,isNilPtr,partA,resOf,sliceA,cut,id,ap2,reduceIte,concs,chkB,geB,AOp.cls,AOp.xs,ltB,ltC,Nat.reduceBEq,Option.toList,List.cons_append,decide_eq_true,decide_eq_false,if_pos,if_neg,List.length_map,pA_at,bVb,bVn,eq_self,Bool.and_self,BEq.rfl,not_true_eq_false,gR0,gR01,gR02,sR0,sR01,sR02,lR0,lR1,gR1,gR2,gR22,sR1,sR2,sR22,geB,gj1_0,sj1_0,len_last];(first|((with_reducible refine hK _ ?_);clear hK K)|((with_reducible refine hK ?_);clear hK hK3 K hK2)|((with_reducible refine hK3 ?_);clear hK hK3 K hK2)))|((with_reducible refine kps 64 ?_ ?_ ?_ ?_);rotate_left 1;rfl;exact h30))
      refine w_loop_m [5,17,18,19,20,21,22,23,24,25,26,27,28,29,30,31,32,33,34,35] (fun j v2 H=>v2 5=I j∧H=J++⟨65,2,m.map pA,g,fz⟩::K) c ⟨rfl,rfl⟩ ?_ ?_
      · rintro j v2 H hj ⟨h5, rfl⟩
        have hjm:j < m.length:=by omega
        have hlt:=(hidx j hjm).2 hj
        have hjs:=hks j hjm
        simp only [mix,mix_nil,mix_end,mix_skp,Nat.reduceEqDiff,Nat.reduceLeDiff,reduceCtorEq,if_true,if_false,reduceIte,Nat.reduceAdd,h5]
        repeat (first|with_reducible refine w_seq ?_|with_reducible refine w_reg ?_|with_reducible refine w_draw ?_|with_reducible refine w_block ?_|with_reducible refine w_skip ?_|with_reducible refine ws_nil ?_|with_reducible refine wd_nil ?_|with_reducible refine q_then ?_|with_reducible refine q_block_n ?_|((with_reducible refine kgd_t ?_ ?_);rfl)|((first|with_reducible refine ks fun K hK=>?_|with_reducible refine kd fun K hK=>?_|with_reducible refine kc fun K hK2 hK hK3=>?_);simp (disch:=omega) only [bg0,bg1,bg2,bg3,bg4,stepO,rsAs,eff,AX.ev,St.put,binA,conc,ap1,ofVal,Int.reduceTMod,Int.reduceTDiv,reduceCtorEq,fillA,AV.cells,AV.fine,AV.one,Nat.reduceAdd,Nat.reduceSub,Nat.reduceMul,Nat.reduceLT,Nat.reduceLeDiff,Int.reduceLT,Int.reduceLE,Int.reduceAdd,Int.reduceSub,Int.reduceNeg,Int.reduceMul,Int.reduceEq,Int.reduceToNat,nilA,moveA,live,loadA,rdA,storeA,wrA,intA,elemA,lenA,appA,srcA,isPtr,isNilPtr,partA,resOf,sliceA,cut,id,ap2,reduceIte,concs,chkB,geB,AOp.cls,AOp.xs,ltB,ltC,Nat.reduceBEq,Option.toList,List.cons_append,decide_eq_true,decide_eq_false,if_pos,if_neg,List.length_map,pA_at,bVb,bVn,eq_self,Bool.and_self,BEq.rfl,not_true_eq_false,gR0,gR01,gR02,sR0,sR01,sR02,lR0,lR1,gR1,gR2,gR22,sR1,sR2,sR22,geB,gj1_0,sj1_0,len_last,hlt];(first|((with_reducible refine hK _ ?_);clear hK K)|((with_reducible refine hK ?_);clear hK hK3 K hK2)|((with_reducible refine hK3 ?_);clear hK hK3 K hK2)))|((first|((with_reducible refine kpd 46 ?_ ?_ ?_ ?_ ?_);rotate_left 1));(focus (simp (disch:=omega) only [bg0,bg1,bg2,bg3,bg4,stepO,rsAs,eff,AX.ev,St.put,binA,conc,ap1,ofVal,Int.reduceTMod,Int.reduceTDiv,reduceCtorEq,fillA,AV.cells,AV.fine,AV.one,Nat.reduceAdd,Nat.reduceSub,Nat.reduceMul,Nat.reduceLT,Nat.reduceLeDiff,Int.reduceLT,Int.reduceLE,Int.reduceAdd,Int.reduceSub,Int.reduceNeg,Int.reduceMul,Int.reduceEq,Int.reduceToNat,nilA,moveA,live,loadA,rdA,storeA,wrA,intA,elemA,lenA,appA,srcA,isPtr,isNilPtr,partA,resOf,sliceA,cut,id,ap2,reduceIte,concs,chkB,geB,AOp.cls,AOp.xs,ltB,ltC,Nat.reduceBEq,Option.toList,List.cons_append,decide_eq_true,decide_eq_false,if_pos,if_neg,List.length_map,pA_at,bVb,bVn,eq_self,Bool.and_self,BEq.rfl,not_true_eq_false,gR0,gR01,gR02,sR0,sR01,sR02,lR0,lR1,gR1,gR2,gR22,sR1,sR2,sR22,geB,gj1_0,sj1_0,len_last,hlt];try rfl));(first|(rfl;exact (by refine lessP G _ _ ?_ ?_<;>assumption)))))
        exact ⟨rfl,rfl,rfl⟩
      · rintro v2 H ⟨h5, rfl⟩
        have s3:(m.map pA).take m.length=m.map pA:=List.take_of_length_le (by simp)
        have lL:((m.map pA).take c).length=c:=by simp;omega
        have lD:((m.map pA).drop c).length=m.length - c:=by simp
        have lT:(((m.map pA).take c).take c)=(m.map pA).take c:=by rw [List.take_take,Nat.min_self]
        have lS:((m.map pA).take c++[AV.agg [S (l[k]).1,S (l[k]).2]]).length=c+1:=by simp;omega
        have lU:((m.map pA).take c++[AV.agg [S (l[k]).1,S (l[k]).2]]).take (c+1)=(m.map pA).take c++[AV.agg [S (l[k]).1,S (l[k]).2]]:=List.take_of_length_le (by rw [lS];omega)
        have hc0:((c:Int)=0)=(c=0):=by simp
        have hcI:(c:Int)≤(m.length:Int):=by omega
        by_cases hz:c=0
        · subst hz
          simp only [List.take_zero,List.nil_append,List.drop_zero] at hmk
          by_cases hcm:m.length=0
          · have m0 : m = [] := List.length_eq_zero_iff.1 hcm
            have hm0:m.map pA=[]:=by rw [List.length_eq_zero_iff.1 hcm];rfl
            rw [hm0,List.append_nil] at hmk
            · simp only [mix, mix_nil, mix_end, mix_skp, Nat.reduceEqDiff, Nat.reduceLeDiff, reduceCtorEq, if_true, if_false, reduceIte, Nat.reduceAdd, h5]
              repeat (first|with_reducible refine w_seq ?_|with_reducible refine w_draw ?_|with_reducible refine w_exit ?_|with_reducible refine wd_nil ?_|with_reducible refine q_then ?_|with_reducible refine q_then_x ?_|with_reducible refine q_block_x ?_|((first|with_reducible refine ks fun K hK=>?_|with_reducible refine kd fun K hK=>?_|with_reducible refine kc fun K hK2 hK hK3=>?_);simp (disch:=omega) only [bg0,bg1,bg2,bg3,bg4,stepO,rsAs,eff,AX.ev,St.put,binA,conc,ap1,ofVal,Int.reduceTMod,Int.reduceTDiv,reduceCtorEq,fillA,AV.cells,AV.fine,AV.one,Nat.reduceAdd,Nat.reduceSub,Nat.reduceMul,Nat.reduceLT,Nat.reduceLeDiff,Int.reduceLT,Int.reduceLE,Int.reduceAdd,Int.reduceSub,Int.reduceNeg,Int.reduceMul,Int.reduceEq,Int.reduceToNat,nilA,moveA,live,loadA,rdA,storeA,wrA,intA,elemA,lenA,appA,srcA,isPtr,isNilPtr,partA,resOf,sliceA,cut,id,ap2,reduceIte,concs,chkB,geB,AOp.cls,AOp.xs,ltB,ltC,Nat.reduceBEq,Option.toList,List.cons_append,decide_eq_true,decide_eq_false,if_pos,if_neg,List.length_map,pA_at,bVb,bVn,eq_self,Bool.and_self,BEq.rfl,not_true_eq_false,gR0,gR01,gR02,sR0,sR01,sR02,lR0,lR1,gR1,gR2,gR22,sR1,sR2,sR22,geB,gj1_0,sj1_0,len_last,hcm,hc0,s3,pO];(first|((with_reducible refine hK _ ?_);clear hK K)|((with_reducible refine hK ?_);clear hK hK3 K hK2)|((with_reducible refine hK3 ?_);clear hK hK3 K hK2)))|((first|((with_reducible refine kgd_u ?_ ?_ ?_);rotate_left 1;rfl)|((with_reducible refine kgd_f ?_ ?_ ?_);rotate_left 1;rfl));rotate_left 1;(focus (simp (disch:=omega) only [bg0,bg1,bg2,bg3,bg4,stepO,rsAs,eff,AX.ev,St.put,binA,conc,ap1,ofVal,Int.reduceTMod,Int.reduceTDiv,reduceCtorEq,fillA,AV.cells,AV.fine,AV.one,Nat.reduceAdd,Nat.reduceSub,Nat.reduceMul,Nat.reduceLT,Nat.reduceLeDiff,Int.reduceLT,Int.reduceLE,Int.reduceAdd,Int.reduceSub,Int.reduceNeg,Int.reduceMul,Int.reduceEq,Int.reduceToNat,nilA,moveA,live,loadA,rdA,storeA,wrA,intA,elemA,lenA,appA,srcA,isPtr,isNilPtr,partA,resOf,sliceA,cut,id,ap2,reduceIte,concs,chkB,geB,AOp.cls,AOp.xs,ltB,ltC,Nat.reduceBEq,Option.toList,List.cons_append,decide_eq_true,decide_eq_false,if_pos,if_neg,List.length_map,pA_at,bVb,bVn,eq_self,Bool.and_self,BEq.rfl,not_true_eq_false,gR0,gR01,gR02,sR0,sR01,sR02,lR0,lR1,gR1,gR2,gR22,sR1,sR2,sR22,geB,gj1_0,sj1_0,len_last,hcm,hc0,s3,pO];try rfl))))
              refine w_drawy3 ?_ ?_ ?_
              all_goals
                repeat (first|with_reducible refine w_reg ?_|with_reducible refine ws_nil ?_|with_reducible refine wd_nil ?_|with_reducible refine q_then ?_|with_reducible refine q_block_n ?_|((first|with_reducible refine ks fun K hK=>?_|with_reducible refine kd fun K hK=>?_|with_reducible refine kc fun K hK2 hK hK3=>?_);simp (disch:=omega) only [bg0,bg1,bg2,bg3,bg4,stepO,rsAs,eff,AX.ev,St.put,binA,conc,ap1,ofVal,Int.reduceTMod,Int.reduceTDiv,reduceCtorEq,fillA,AV.cells,AV.fine,AV.one,Nat.reduceAdd,Nat.reduceSub,Nat.reduceMul,Nat.reduceLT,Nat.reduceLeDiff,Int.reduceLT,Int.reduceLE,Int.reduceAdd,Int.reduceSub,Int.reduceNeg,Int.reduceMul,Int.reduceEq,Int.reduceToNat,nilA,moveA,live,loadA,rdA,storeA,wrA,intA,elemA,lenA,appA,srcA,isPtr,isNilPtr,partA,resOf,sliceA,cut,id,ap2,reduceIte,concs,chkB,geB,AOp.cls,AOp.xs,ltB,ltC,Nat.reduceBEq,Option.toList,List.cons_append,decide_eq_true,decide_eq_false,if_pos,if_neg,List.length_map,pA_at,bVb,bVn,eq_self,Bool.and_self,BEq.rfl,not_true_eq_false,gR0,gR01,gR02,sR0,sR01,sR02,lR0,lR1,gR1,gR2,gR22,sR1,sR2,sR22,geB,gj1_0,sj1_0,len_last,hcm,hc0,s3,pO];(first|((with_reducible refine hK _ ?_);clear hK K)|((with_reducible refine hK ?_);clear hK hK3 K hK2)|((with_reducible refine hK3 ?_);clear hK hK3 K hK2))))
                refine fin15 (l:=l) (pre:=pre++[l[k]]) rfl hla2 rfl ?_
                rw [hmk,hml]
                first|exact ⟨_,_,3,_,by simp [lR0,lR1,m0]<;>omega,List.append_assoc _ _ _⟩|exact ⟨_,_,3,_,by simp [lR0,lR1,m0]<;>omega,rfl⟩
          · have hlt:¬ cB (m[0]'(by omega)).1 (l[k]).1 < 0:=fun h=>by have:=(hidx 0 (by omega)).1 h;omega
            have hjs:=hks 0 (by omega)
            · simp only [mix, mix_nil, mix_end, mix_skp, Nat.reduceEqDiff, Nat.reduceLeDiff, reduceCtorEq, if_true, if_false, reduceIte, Nat.reduceAdd, h5]
              repeat (first|with_reducible refine w_seq ?_|with_reducible refine w_draw ?_|with_reducible refine w_exit ?_|with_reducible refine wd_nil ?_|with_reducible refine q_then ?_|with_reducible refine q_then_x ?_|with_reducible refine q_block_x ?_|((with_reducible refine kgd_t ?_ ?_);rfl)|((first|with_reducible refine ks fun K hK=>?_|with_reducible refine kd fun K hK=>?_|with_reducible refine kc fun K hK2 hK hK3=>?_);simp (disch:=omega) only [bg0,bg1,bg2,bg3,bg4,stepO,rsAs,eff,AX.ev,St.put,binA,conc,ap1,ofVal,Int.reduceTMod,Int.reduceTDiv,reduceCtorEq,fillA,AV.cells,AV.fine,AV.one,Nat.reduceAdd,Nat.reduceSub,Nat.reduceMul,Nat.reduceLT,Nat.reduceLeDiff,Int.reduceLT,Int.reduceLE,Int.reduceAdd,Int.reduceSub,Int.reduceNeg,Int.reduceMul,Int.reduceEq,Int.reduceToNat,nilA,moveA,live,loadA,rdA,storeA,wrA,intA,elemA,lenA,appA,srcA,isPtr,isNilPtr,partA,resOf,sliceA,cut,id,ap2,reduceIte,concs,chkB,geB,AOp.cls,AOp.xs,ltB,ltC,Nat.reduceBEq,Option.toList,List.cons_append,decide_eq_true,decide_eq_false,if_pos,if_neg,List.length_map,pA_at,bVb,bVn,eq_self,Bool.and_self,BEq.rfl,not_true_eq_false,gR0,gR01,gR02,sR0,sR01,sR02,lR0,lR1,gR1,gR2,gR22,sR1,sR2,sR22,geB,gj1_0,sj1_0,len_last,hlt,hc0,s3,pO];(first|((with_reducible refine hK _ ?_);clear hK K)|((with_reducible refine hK ?_);clear hK hK3 K hK2)|((with_reducible refine hK3 ?_);clear hK hK3 K hK2)))|((first|((with_reducible refine kpd 46 ?_ ?_ ?_ ?_ ?_);rotate_left 1));(focus (simp (disch:=omega) only [bg0,bg1,bg2,bg3,bg4,stepO,rsAs,eff,AX.ev,St.put,binA,conc,ap1,ofVal,Int.reduceTMod,Int.reduceTDiv,reduceCtorEq,fillA,AV.cells,AV.fine,AV.one,Nat.reduceAdd,Nat.reduceSub,Nat.reduceMul,Nat.reduceLT,Nat.reduceLeDiff,Int.reduceLT,Int.reduceLE,Int.reduceAdd,Int.reduceSub,Int.reduceNeg,Int.reduceMul,Int.reduceEq,Int.reduceToNat,nilA,moveA,live,loadA,rdA,storeA,wrA,intA,elemA,lenA,appA,srcA,isPtr,isNilPtr,partA,resOf,sliceA,cut,id,ap2,reduceIte,concs,chkB,geB,AOp.cls,AOp.xs,ltB,ltC,Nat.reduceBEq,Option.toList,List.cons_append,decide_eq_true,decide_eq_false,if_pos,if_neg,List.length_map,pA_at,bVb,bVn,eq_self,Bool.and_self,BEq.rfl,not_true_eq_false,gR0,gR01,gR02,sR0,sR01,sR02,lR0,lR1,gR1,gR2,gR22,sR1,sR2,sR22,geB,gj1_0,sj1_0,len_last,hlt,hc0,s3,pO];try rfl));(first|(rfl;exact (by refine lessP G _ _ ?_ ?_<;>assumption)))))
              refine w_drawy3 ?_ ?_ ?_
              all_goals
                repeat (first|with_reducible refine w_reg ?_|with_reducible refine ws_nil ?_|with_reducible refine wd_nil ?_|with_reducible refine q_then ?_|with_reducible refine q_block_n ?_|((first|with_reducible refine ks fun K hK=>?_|with_reducible refine kd fun K hK=>?_|with_reducible refine kc fun K hK2 hK hK3=>?_);simp (disch:=omega) only [bg0,bg1,bg2,bg3,bg4,stepO,rsAs,eff,AX.ev,St.put,binA,conc,ap1,ofVal,Int.reduceTMod,Int.reduceTDiv,reduceCtorEq,fillA,AV.cells,AV.fine,AV.one,Nat.reduceAdd,Nat.reduceSub,Nat.reduceMul,Nat.reduceLT,Nat.reduceLeDiff,Int.reduceLT,Int.reduceLE,Int.reduceAdd,Int.reduceSub,Int.reduceNeg,Int.reduceMul,Int.reduceEq,Int.reduceToNat,nilA,moveA,live,loadA,rdA,storeA,wrA,intA,elemA,lenA,appA,srcA,isPtr,isNilPtr,partA,resOf,sliceA,cut,id,ap2,reduceIte,concs,chkB,geB,AOp.cls,AOp.xs,ltB,ltC,Nat.reduceBEq,Option.toList,List.cons_append,decide_eq_true,decide_eq_false,if_pos,if_neg,List.length_map,pA_at,bVb,bVn,eq_self,Bool.and_self,BEq.rfl,not_true_eq_false,gR0,gR01,gR02,sR0,sR01,sR02,lR0,lR1,gR1,gR2,gR22,sR1,sR2,sR22,geB,gj1_0,sj1_0,len_last,hc0,s3,pO];(first|((with_reducible refine hK _ ?_);clear hK K)|((with_reducible refine hK ?_);clear hK hK3 K hK2)|((with_reducible refine hK3 ?_);clear hK hK3 K hK2))))
                refine fin15 (l:=l) (pre:=pre++[l[k]]) rfl hla2 rfl ?_
                rw [hmk,hml]
                first|exact ⟨_,_,3,_,by simp [lR0,lR1]<;>omega,List.append_assoc _ _ _⟩|exact ⟨_,_,3,_,by simp [lR0,lR1]<;>omega,rfl⟩
        · by_cases hcm : c = m.length
          · have hlt : ¬ ((c : Int) < (m.length : Int)) := by omega
            · simp only [mix, mix_nil, mix_end, mix_skp, Nat.reduceEqDiff, Nat.reduceLeDiff, reduceCtorEq, if_true, if_false, reduceIte, Nat.reduceAdd, h5]
              repeat (first|with_reducible refine w_seq ?_|with_reducible refine w_draw ?_|with_reducible refine w_exit ?_|with_reducible refine wd_nil ?_|with_reducible refine q_then ?_|with_reducible refine q_then_x ?_|with_reducible refine q_block_x ?_|((first|with_reducible refine ks fun K hK=>?_|with_reducible refine kd fun K hK=>?_|with_reducible refine kc fun K hK2 hK hK3=>?_);simp (disch:=omega) only [bg0,bg1,bg2,bg3,bg4,stepO,rsAs,eff,AX.ev,St.put,binA,conc,ap1,ofVal,Int.reduceTMod,Int.reduceTDiv,reduceCtorEq,fillA,AV.cells,AV.fine,AV.one,Nat.reduceAdd,Nat.reduceSub,Nat.reduceMul,Nat.reduceLT,Nat.reduceLeDiff,Int.reduceLT,Int.reduceLE,Int.reduceAdd,Int.reduceSub,Int.reduceNeg,Int.reduceMul,Int.reduceEq,Int.reduceToNat,nilA,moveA,live,loadA,rdA,storeA,wrA,intA,elemA,lenA,appA,srcA,isPtr,isNilPtr,partA,resOf,sliceA,cut,id,ap2,reduceIte,concs,chkB,geB,AOp.cls,AOp.xs,ltB,ltC,Nat.reduceBEq,Option.toList,List.cons_append,decide_eq_true,decide_eq_false,if_pos,if_neg,List.length_map,pA_at,bVb,bVn,eq_self,Bool.and_self,BEq.rfl,not_true_eq_false,gR0,gR01,gR02,sR0,sR01,sR02,lR0,lR1,gR1,gR2,gR22,sR1,sR2,sR22,geB,gj1_0,sj1_0,len_last,hlt,hc0,hz,s3,lL,lD,lT,lS,lU,pO];(first|((with_reducible refine hK _ ?_);clear hK K)|((with_reducible refine hK ?_);clear hK hK3 K hK2)|((with_reducible refine hK3 ?_);clear hK hK3 K hK2)))|((first|((with_reducible refine kgd_u ?_ ?_ ?_);rotate_left 1;rfl)|((with_reducible refine kgd_f ?_ ?_ ?_);rotate_left 1;rfl));rotate_left 1;(focus (simp (disch:=omega) only [bg0,bg1,bg2,bg3,bg4,stepO,rsAs,eff,AX.ev,St.put,binA,conc,ap1,ofVal,Int.reduceTMod,Int.reduceTDiv,reduceCtorEq,fillA,AV.cells,AV.fine,AV.one,Nat.reduceAdd,Nat.reduceSub,Nat.reduceMul,Nat.reduceLT,Nat.reduceLeDiff,Int.reduceLT,Int.reduceLE,Int.reduceAdd,Int.reduceSub,Int.reduceNeg,Int.reduceMul,Int.reduceEq,Int.reduceToNat,nilA,moveA,live,loadA,rdA,storeA,wrA,intA,elemA,lenA,appA,srcA,isPtr,isNilPtr,partA,resOf,sliceA,cut,id,ap2,reduceIte,concs,chkB,geB,AOp.cls,AOp.xs,ltB,ltC,Nat.reduceBEq,Option.toList,List.cons_append,decide_eq_true,decide_eq_false,if_pos,if_neg,List.length_map,pA_at,bVb,bVn,eq_self,Bool.and_self,BEq.rfl,not_true_eq_false,gR0,gR01,gR02,sR0,sR01,sR02,lR0,lR1,gR1,gR2,gR22,sR1,sR2,sR22,geB,gj1_0,sj1_0,len_last,hlt,hc0,hz,s3,lL,lD,lT,lS,lU,pO];try rfl))))
              refine w_drawy3 ?_ ?_ ?_
              all_goals
                repeat (first|with_reducible refine w_reg ?_|with_reducible refine ws_nil ?_|with_reducible refine wd_nil ?_|with_reducible refine q_then ?_|with_reducible refine q_block_n ?_|((first|with_reducible refine ks fun K hK=>?_|with_reducible refine kd fun K hK=>?_|with_reducible refine kc fun K hK2 hK hK3=>?_);simp (disch:=omega) only [bg0,bg1,bg2,bg3,bg4,stepO,rsAs,eff,AX.ev,St.put,binA,conc,ap1,ofVal,Int.reduceTMod,Int.reduceTDiv,reduceCtorEq,fillA,AV.cells,AV.fine,AV.one,Nat.reduceAdd,Nat.reduceSub,Nat.reduceMul,Nat.reduceLT,Nat.reduceLeDiff,Int.reduceLT,Int.reduceLE,Int.reduceAdd,Int.reduceSub,Int.reduceNeg,Int.reduceMul,Int.reduceEq,Int.reduceToNat,nilA,moveA,live,loadA,rdA,storeA,wrA,intA,elemA,lenA,appA,srcA,isPtr,isNilPtr,partA,resOf,sliceA,cut,id,ap2,reduceIte,concs,chkB,geB,AOp.cls,AOp.xs,ltB,ltC,Nat.reduceBEq,Option.toList,List.cons_append,decide_eq_true,decide_eq_false,if_pos,if_neg,List.length_map,pA_at,bVb,bVn,eq_self,Bool.and_self,BEq.rfl,not_true_eq_false,gR0,gR01,gR02,sR0,sR01,sR02,lR0,lR1,gR1,gR2,gR22,sR1,sR2,sR22,geB,gj1_0,sj1_0,len_last,hc0,hz,s3,lL,lD,lT,lS,lU,pO,purC,Int.natCast_nonneg,hcI];(first|((with_reducible refine hK _ ?_);clear hK K)|((with_reducible refine hK ?_);clear hK hK3 K hK2)|((with_reducible refine hK3 ?_);clear hK hK3 K hK2))))
                refine fin15 (l:=l) (pre:=pre++[l[k]]) rfl hla2 rfl ?_
                rw [hmk,hml]
                first|exact ⟨_,_,3,_,by simp [lR0,lR1]<;>omega,List.append_assoc _ _ _⟩|exact ⟨_,_,3,_,by simp [lR0,lR1]<;>omega,rfl⟩
          · have hlt:¬ cB (m[c]'(by omega)).1 (l[k]).1 < 0:=fun h=>by have:=(hidx c (by omega)).1 h;omega
            have hjs:=hks c (by omega)
            · simp only [mix, mix_nil, mix_end, mix_skp, Nat.reduceEqDiff, Nat.reduceLeDiff, reduceCtorEq, if_true, if_false, reduceIte, Nat.reduceAdd, h5]
              repeat (first|with_reducible refine w_seq ?_|with_reducible refine w_draw ?_|with_reducible refine w_exit ?_|with_reducible refine wd_nil ?_|with_reducible refine q_then ?_|with_reducible refine q_then_x ?_|with_reducible refine q_block_x ?_|((with_reducible refine kgd_t ?_ ?_);rfl)|((first|with_reducible refine ks fun K hK=>?_|with_reducible refine kd fun K hK=>?_|with_reducible refine kc fun K hK2 hK hK3=>?_);simp (disch:=omega) only [bg0,bg1,bg2,bg3,bg4,stepO,rsAs,eff,AX.ev,St.put,binA,conc,ap1,ofVal,Int.reduceTMod,Int.reduceTDiv,reduceCtorEq,fillA,AV.cells,AV.fine,AV.one,Nat.reduceAdd,Nat.reduceSub,Nat.reduceMul,Nat.reduceLT,Nat.reduceLeDiff,Int.reduceLT,Int.reduceLE,Int.reduceAdd,Int.reduceSub,Int.reduceNeg,Int.reduceMul,Int.reduceEq,Int.reduceToNat,nilA,moveA,live,loadA,rdA,storeA,wrA,intA,elemA,lenA,appA,srcA,isPtr,isNilPtr,partA,resOf,sliceA,cut,id,ap2,reduceIte,concs,chkB,geB,AOp.cls,AOp.xs,ltB,ltC,Nat.reduceBEq,Option.toList,List.cons_append,decide_eq_true,decide_eq_false,if_pos,if_neg,List.length_map,pA_at,bVb,bVn,eq_self,Bool.and_self,BEq.rfl,not_true_eq_false,gR0,gR01,gR02,sR0,sR01,sR02,lR0,lR1,gR1,gR2,gR22,sR1,sR2,sR22,geB,gj1_0,sj1_0,len_last,hlt,hc0,hz,s3,lL,lD,lT,lS,lU,pO];(first|((with_reducible refine hK _ ?_);clear hK K)|((with_reducible refine hK ?_);clear hK hK3 K hK2)|((with_reducible refine hK3 ?_);clear hK hK3 K hK2)))|((first|((with_reducible refine kpd 46 ?_ ?_ ?_ ?_ ?_);rotate_left 1));(focus (simp (disch:=omega) only [bg0,bg1,bg2,bg3,bg4,stepO,rsAs,eff,AX.ev,St.put,binA,conc,ap1,ofVal,Int.reduceTMod,Int.reduceTDiv,reduceCtorEq,fillA,AV.cells,AV.fine,AV.one,Nat.reduceAdd,Nat.reduceSub,Nat.reduceMul,Nat.reduceLT,Nat.reduceLeDiff,Int.reduceLT,Int.reduceLE,Int.reduceAdd,Int.reduceSub,Int.reduceNeg,Int.reduceMul,Int.reduceEq,Int.reduceToNat,nilA,moveA,live,loadA,rdA,storeA,wrA,intA,elemA,lenA,appA,srcA,isPtr,isNilPtr,partA,resOf,sliceA,cut,id,ap2,reduceIte,concs,chkB,geB,AOp.cls,AOp.xs,ltB,ltC,Nat.reduceBEq,Option.toList,List.cons_append,decide_eq_true,decide_eq_false,if_pos,if_neg,List.length_map,pA_at,bVb,bVn,eq_self,Bool.and_self,BEq.rfl,not_true_eq_false,gR0,gR01,gR02,sR0,sR01,sR02,lR0,lR1,gR1,gR2,gR22,sR1,sR2,sR22,geB,gj1_0,sj1_0,len_last,hlt,hc0,hz,s3,lL,lD,lT,lS,lU,pO];try rfl));(first|(rfl;exact (by refine lessP G _ _ ?_ ?_<;>assumption)))))
              refine w_drawy3 ?_ ?_ ?_
              all_goals
                repeat (first|with_reducible refine w_reg ?_|with_reducible refine ws_nil ?_|with_reducible refine wd_nil ?_|with_reducible refine q_then ?_|with_reducible refine q_block_n ?_|((first|with_reducible refine ks fun K hK=>?_|with_reducible refine kd fun K hK=>?_|with_reducible refine kc fun K hK2 hK hK3=>?_);simp (disch:=omega) only [bg0,bg1,bg2,bg3,bg4,stepO,rsAs,eff,AX.ev,St.put,binA,conc,ap1,ofVal,Int.reduceTMod,Int.reduceTDiv,reduceCtorEq,fillA,AV.cells,AV.fine,AV.one,Nat.reduceAdd,Nat.reduceSub,Nat.reduceMul,Nat.reduceLT,Nat.reduceLeDiff,Int.reduceLT,Int.reduceLE,Int.reduceAdd,Int.reduceSub,Int.reduceNeg,Int.reduceMul,Int.reduceEq,Int.reduceToNat,nilA,moveA,live,loadA,rdA,storeA,wrA,intA,elemA,lenA,appA,srcA,isPtr,isNilPtr,partA,resOf,sliceA,cut,id,ap2,reduceIte,concs,chkB,geB,AOp.cls,AOp.xs,ltB,ltC,Nat.reduceBEq,Option.toList,List.cons_append,decide_eq_true,decide_eq_false,if_pos,if_neg,List.length_map,pA_at,bVb,bVn,eq_self,Bool.and_self,BEq.rfl,not_true_eq_false,gR0,gR01,gR02,sR0,sR01,sR02,lR0,lR1,gR1,gR2,gR22,sR1,sR2,sR22,geB,gj1_0,sj1_0,len_last,hc0,hz,s3,lL,lD,lT,lS,lU,pO,purC,Int.natCast_nonneg,hcI];(first|((with_reducible refine hK _ ?_);clear hK K)|((with_reducible refine hK ?_);clear hK hK3 K hK2)|((with_reducible refine hK3 ?_);clear hK hK3 K hK2))))
                refine fin15 (l:=l) (pre:=pre++[l[k]]) rfl hla2 rfl ?_
                rw [hmk,hml]
                first|exact ⟨_,_,3,_,by simp [lR0,lR1]<;>omega,List.append_assoc _ _ _⟩|exact ⟨_,_,3,_,by simp [lR0,lR1]<;>omega,rfl⟩
    · rw [if_neg hr] at hla
      have h30:=last30 G l hl k hk false (by simp [hr])
      repeat (first|with_reducible refine w_seq ?_|with_reducible refine w_reg ?_|with_reducible refine w_block ?_|with_reducible refine w_skip ?_|with_reducible refine w_exit ?_|with_reducible refine ws_nil ?_|with_reducible refine q_then ?_|with_reducible refine q_then_x ?_|with_reducible refine q_block_x ?_|((first|with_reducible refine ks fun K hK=>?_|with_reducible refine kd fun K hK=>?_|with_reducible refine kc fun K hK2 hK hK3=>?_);simp (disch:=omega) only [bg0,bg1,bg2,bg3,bg4,stepO,rsAs,eff,AX.ev,St.put,binA,conc,ap1,ofVal,Int.reduceTMod,Int.reduceTDiv,reduceCtorEq,fillA,AV.cells,AV.fine,AV.one,Nat.reduceAdd,Nat.reduceSub,Nat.reduceMul,Nat.reduceLT,Nat.reduceLeDiff,Int.reduceLT,Int.reduceLE,Int.reduceAdd,Int.reduceSub,Int.reduceNeg,Int.reduceMul,Int.reduceEq,Int.reduceToNat,nilA,moveA,live,loadA,rdA,storeA,wrA,intA,elemA,lenA,appA,srcA,isPtr,isNilPtr,partA,resOf,sliceA,cut,id,ap2,reduceIte,concs,chkB,geB,AOp.cls,AOp.xs,ltB,ltC,Nat.reduceBEq,Option.toList,List.cons_append,decide_eq_true,decide_eq_false,if_pos,if_neg,List.length_map,pA_at,bVb,bVn,eq_self,Bool.and_self,BEq.rfl,not_true_eq_false,gR0,gR01,gR02,sR0,sR01,sR02,lR0,lR1,gR1,gR2,gR22,sR1,sR2,sR22,geB,gj1_0,sj1_0,len_last];(first|((with_reducible refine hK _ ?_);clear hK K)|((with_reducible refine hK ?_);clear hK hK3 K hK2)|((with_reducible refine hK3 ?_);clear hK hK3 K hK2)))|((with_reducible refine kps 64 ?_ ?_ ?_ ?_);rotate_left 1;rfl;exact h30))
      exact ⟨rfl,pre,J,K,g,fz,hla,rfl,rfl,rfl⟩
  · rintro v H ⟨pre, J, K, g, fz, hla, h4, h3, rfl⟩
    simp only [mix,mix_nil,mix_end,mix_skp,Nat.reduceEqDiff,Nat.reduceLeDiff,reduceCtorEq,if_true,if_false,reduceIte,Nat.reduceAdd,h3,h4]
    rw [List.drop_length] at hla
    have:mk pre=mk l:=by
      refine eq_mk (mk_lt pre) fun k=>?_
      rw [mk_val,← lasts_val l,hla];simp [lasts]
    rw [this]
    repeat (first|with_reducible refine w_seq ?_|with_reducible refine w_reg ?_|with_reducible refine w_exit ?_|with_reducible refine ws_nil ?_|with_reducible refine q_then ?_|with_reducible refine q_then_x ?_|with_reducible refine q_block_x ?_|with_reducible refine w_ret ?_|((first|with_reducible refine ks fun K hK=>?_|with_reducible refine kd fun K hK=>?_|with_reducible refine kc fun K hK2 hK hK3=>?_);simp (disch:=omega) only [bg0,bg1,bg2,bg3,bg4,stepO,rsAs,eff,AX.ev,St.put,binA,conc,ap1,ofVal,Int.reduceTMod,Int.reduceTDiv,reduceCtorEq,fillA,AV.cells,AV.fine,AV.one,Nat.reduceAdd,Nat.reduceSub,Nat.reduceMul,Nat.reduceLT,Nat.reduceLeDiff,Int.reduceLT,Int.reduceLE,Int.reduceAdd,Int.reduceSub,Int.reduceNeg,Int.reduceMul,Int.reduceEq,Int.reduceToNat,nilA,moveA,live,loadA,rdA,storeA,wrA,intA,elemA,lenA,appA,srcA,isPtr,isNilPtr,partA,resOf,sliceA,cut,id,ap2,reduceIte,concs,chkB,geB,AOp.cls,AOp.xs,ltB,ltC,Nat.reduceBEq,Option.toList,List.cons_append,decide_eq_true,decide_eq_false,if_pos,if_neg,List.length_map,pA_at,bVb,bVn,eq_self,Bool.and_self,BEq.rfl,not_true_eq_false,gR0,gR01,gR02,sR0,sR01,sR02,lR0,lR1,gR1,gR2,gR22,sR1,sR2,sR22,geB,gj1_0,sj1_0,len_last];(first|((with_reducible refine hK _ ?_);clear hK K)|((with_reducible refine hK ?_);clear hK hK3 K hK2)|((with_reducible refine hK3 ?_);clear hK hK3 K hK2))))
    exact ret_frz rfl gR0 (by simp) (all_pA _)
end Go.Proofs.YtgpldekhcojimaaDoor.Sim.Pr7
namespace Go.Proofs.YtgpldekhcojimaaDoor.Sim.Pr7
open Go.RowKit
set_option maxRecDepth 100000
theorem sle_at2 {A:List Pr} (h:SLe A) {i j:Nat} (hij:i≤j) (hj:j < A.length):cB (A[i]'(by omega)).1 (A[j]).1≤0:=by
  by_cases e:i=j
  · subst e;rw [cB_self];omega
  · exact List.pairwise_iff_getElem.1 h i j (by omega) hj (by omega)
theorem lasts_sort {D:List Pr} (h:SLe D) {k:Nat} (hk:k < D.length):fk (D[k]).1 (D.drop (k+1))=[]↔∀ h2:k+1 < D.length,(D[k+1]).1 ≠ (D[k]).1:=by
  rw [fk_none]
  constructor
  · intro hh h2
    exact hh _ (List.mem_drop_iff_getElem.2 ⟨0,by omega,rfl⟩)
  · intro hh p hp e
    obtain ⟨i,hi,rfl⟩:=List.mem_drop_iff_getElem.1 hp
    have h2:k+1 < D.length:=by omega
    have g1:=sle_at2 h (i:=k) (j:=k+1) (by omega) h2
    have g2:=sle_at2 h (i:=k+1) (j:=k+1+i) (by omega) (by omega)
    rw [e] at g2
    exact hh h2 (cB_eq g2 g1)
theorem lasts_mk (l:List Pr):lasts (ssort l)=mk l:=by
  refine eq_mk (le_ne (List.Pairwise.sublist (lasts_sub _) (ssort_le l)) (lasts_ne _)) fun k=>?_
  rw [lasts_val];unfold val;rw [ssort_fk]
set_option maxHeartbeats 8000000 in
theorem make14 (G:Nat→AV) (hS:SymOk G):MkOk G:=by
  intro l h40 hl
  have hlen:=hl.len
  by_cases hs:SLt l
  · have hi := is11 G l hl true (by simp [hs])
    rw [mk_of hs]
    by_cases h0:l=[]
    · subst h0
      have hc:=hc_pc rfl (clone27e G) []
      refine pc_of cop48 ?_
      show W _ _ _ _ ⟨_,_⟩;simp only [A48,List.cons_append,List.nil_append,List.length_cons,List.length_nil,Nat.reduceAdd,Nat.reduceSub,List.replicate]
      simp only [List.map_nil] at *
      repeat (first|with_reducible refine w_seq ?_|with_reducible refine w_reg ?_|with_reducible refine ws_nil ?_|with_reducible refine q_then ?_|with_reducible refine w_ret ?_|with_reducible refine q_then_r ?_|((first|with_reducible refine ks fun K hK=>?_|with_reducible refine kd fun K hK=>?_|with_reducible refine kc fun K hK2 hK hK3=>?_);simp (disch:=omega) only [bg0,bg1,bg2,bg3,bg4,stepO,rsAs,eff,AX.ev,St.put,binA,conc,ap1,ofVal,Int.reduceTMod,Int.reduceTDiv,reduceCtorEq,fillA,AV.cells,AV.fine,AV.one,Nat.reduceAdd,Nat.reduceSub,Nat.reduceMul,Nat.reduceLT,Nat.reduceLeDiff,Int.reduceLT,Int.reduceLE,Int.reduceAdd,Int.reduceSub,Int.reduceNeg,Int.reduceMul,Int.reduceEq,Int.reduceToNat,nilA,moveA,live,loadA,rdA,storeA,wrA,intA,elemA,lenA,appA,srcA,isPtr,isNilPtr,partA,resOf,sliceA,cut,id,ap2,reduceIte,concs,chkB,geB,AOp.cls,AOp.xs,ltB,ltC,Nat.reduceBEq,Option.toList,List.cons_append,decide_eq_true,decide_eq_false,if_pos,if_neg,List.length_map,pA_at,bVb,bVn,eq_self,Bool.and_self,BEq.rfl,not_true_eq_false,gR0,gR01,gR02,sR0,sR01,sR02,lR0,lR1,gR1,gR2,gR22,sR1,sR2,sR22,gj1_0,sj1_0,gj2_0,gj2_1,sj2_0,sj2_1,len_last];(first|((with_reducible refine hK _ ?_);clear hK K)|((with_reducible refine hK ?_);clear hK hK3 K hK2)|((with_reducible refine hK3 ?_);clear hK hK3 K hK2)))|((with_reducible refine kps 78 ?_ ?_ ?_ ?_);rotate_left 1;rfl;exact hi)|((with_reducible refine khs 65 ?_ ?_ ?_ ?_);rotate_left 2;exact hc)|((first|with_reducible refine ret_h fun K hK=>?_|with_reducible refine ret_hh rfl fun K hK=>?_|with_reducible refine ret_pp fun K hK=>?_);simp (disch:=omega) only [bg0,bg1,bg2,bg3,bg4,stepO,rsAs,eff,AX.ev,St.put,binA,conc,ap1,ofVal,Int.reduceTMod,Int.reduceTDiv,reduceCtorEq,fillA,AV.cells,AV.fine,AV.one,Nat.reduceAdd,Nat.reduceSub,Nat.reduceMul,Nat.reduceLT,Nat.reduceLeDiff,Int.reduceLT,Int.reduceLE,Int.reduceAdd,Int.reduceSub,Int.reduceNeg,Int.reduceMul,Int.reduceEq,Int.reduceToNat,nilA,moveA,live,loadA,rdA,storeA,wrA,intA,elemA,lenA,appA,srcA,isPtr,isNilPtr,partA,resOf,sliceA,cut,id,ap2,reduceIte,concs,chkB,geB,AOp.cls,AOp.xs,ltB,ltC,Nat.reduceBEq,Option.toList,List.cons_append,decide_eq_true,decide_eq_false,if_pos,if_neg,List.length_map,pA_at,bVb,bVn,eq_self,Bool.and_self,BEq.rfl,not_true_eq_false,gR0,gR01,gR02,sR0,sR01,sR02,lR0,lR1,gR1,gR2,gR22,sR1,sR2,sR22,gj1_0,sj1_0,gj2_0,gj2_1,sj2_0,sj2_1,len_last];(first|((with_reducible refine hK _ ?_ ?_ ?_ ?_);rotate_left 2;rfl;rfl)|((with_reducible refine hK _ ?_);rfl))))
    · have hc := clone27 G l hl h0 []
      simp only [List.nil_append,List.length_nil] at hc
      refine pc_of cop48 ?_
      show W _ _ _ _ ⟨_,_⟩;simp only [A48,List.cons_append,List.nil_append,List.length_cons,List.length_nil,Nat.reduceAdd,Nat.reduceSub,List.replicate]
      repeat (first|with_reducible refine w_seq ?_|with_reducible refine w_reg ?_|with_reducible refine ws_nil ?_|with_reducible refine q_then ?_|with_reducible refine w_ret ?_|with_reducible refine q_then_r ?_|((first|with_reducible refine ks fun K hK=>?_|with_reducible refine kd fun K hK=>?_|with_reducible refine kc fun K hK2 hK hK3=>?_);simp (disch:=omega) only [bg0,bg1,bg2,bg3,bg4,stepO,rsAs,eff,AX.ev,St.put,binA,conc,ap1,ofVal,Int.reduceTMod,Int.reduceTDiv,reduceCtorEq,fillA,AV.cells,AV.fine,AV.one,Nat.reduceAdd,Nat.reduceSub,Nat.reduceMul,Nat.reduceLT,Nat.reduceLeDiff,Int.reduceLT,Int.reduceLE,Int.reduceAdd,Int.reduceSub,Int.reduceNeg,Int.reduceMul,Int.reduceEq,Int.reduceToNat,nilA,moveA,live,loadA,rdA,storeA,wrA,intA,elemA,lenA,appA,srcA,isPtr,isNilPtr,partA,resOf,sliceA,cut,id,ap2,reduceIte,concs,chkB,geB,AOp.cls,AOp.xs,ltB,ltC,Nat.reduceBEq,Option.toList,List.cons_append,decide_eq_true,decide_eq_false,if_pos,if_neg,List.length_map,pA_at,bVb,bVn,eq_self,Bool.and_self,BEq.rfl,not_true_eq_false,gR0,gR01,gR02,sR0,sR01,sR02,lR0,lR1,gR1,gR2,gR22,sR1,sR2,sR22,gj1_0,sj1_0,gj2_0,gj2_1,sj2_0,sj2_1,len_last];(first|((with_reducible refine hK _ ?_);clear hK K)|((with_reducible refine hK ?_);clear hK hK3 K hK2)|((with_reducible refine hK3 ?_);clear hK hK3 K hK2)))|((with_reducible refine kps 78 ?_ ?_ ?_ ?_);rotate_left 1;rfl;exact hi)|((with_reducible refine khs 65 ?_ ?_ ?_ ?_);rotate_left 2;exact hc))
      exact ret_frz rfl rfl (by simp) (all_pA _)
  · have hi := is11 G l hl false (by simp [hs])
    have h0:l ≠ []:=fun e=>hs (by rw [e];exact List.Pairwise.nil)
    have hc:=clone27 G l hl h0 []
    simp only [List.nil_append,List.length_nil] at hc
    have ho:=sort28 G hS l 1 hl h40
    refine pc_of cop48 ?_
    show W _ _ _ _ ⟨_,_⟩;simp only [A48,List.cons_append,List.nil_append,List.length_cons,List.length_nil,Nat.reduceAdd,Nat.reduceSub,List.replicate]
    repeat (first|with_reducible refine w_seq ?_|with_reducible refine w_reg ?_|with_reducible refine w_block ?_|with_reducible refine w_skip ?_|with_reducible refine ws_nil ?_|with_reducible refine q_then ?_|((first|with_reducible refine ks fun K hK=>?_|with_reducible refine kd fun K hK=>?_|with_reducible refine kc fun K hK2 hK hK3=>?_);simp (disch:=omega) only [bg0,bg1,bg2,bg3,bg4,stepO,rsAs,eff,AX.ev,St.put,binA,conc,ap1,ofVal,Int.reduceTMod,Int.reduceTDiv,reduceCtorEq,fillA,AV.cells,AV.fine,AV.one,Nat.reduceAdd,Nat.reduceSub,Nat.reduceMul,Nat.reduceLT,Nat.reduceLeDiff,Int.reduceLT,Int.reduceLE,Int.reduceAdd,Int.reduceSub,Int.reduceNeg,Int.reduceMul,Int.reduceEq,Int.reduceToNat,nilA,moveA,live,loadA,rdA,storeA,wrA,intA,elemA,lenA,appA,srcA,isPtr,isNilPtr,partA,resOf,sliceA,cut,id,ap2,reduceIte,concs,chkB,geB,AOp.cls,AOp.xs,ltB,ltC,Nat.reduceBEq,Option.toList,List.cons_append,decide_eq_true,decide_eq_false,if_pos,if_neg,List.length_map,pA_at,bVb,bVn,eq_self,Bool.and_self,BEq.rfl,not_true_eq_false,gR0,gR01,gR02,sR0,sR01,sR02,lR0,lR1,gR1,gR2,gR22,sR1,sR2,sR22,gj1_0,sj1_0,gj2_0,gj2_1,sj2_0,sj2_1,len_last];(first|((with_reducible refine hK _ ?_);clear hK K)|((with_reducible refine hK ?_);clear hK hK3 K hK2)|((with_reducible refine hK3 ?_);clear hK hK3 K hK2)))|((with_reducible refine kps 78 ?_ ?_ ?_ ?_);rotate_left 1;rfl;exact hi)|((with_reducible refine khs 65 ?_ ?_ ?_ ?_);rotate_left 2;exact hc)|((with_reducible refine khs 79 ?_ ?_ ?_ ?_);rotate_left 2;exact ho))
    have hml:=lasts_mk l
    have hSl:(ssort l).length=l.length:=ssort_len
    have hSle:=ssort_le l
    rw [← hml]
    generalize hD:ssort l=D at *
    rw [← hSl]
    refine w_loop_m [4,5,6,17,18,19,20,21,22,23,24,25,26,27,28,29,30,31,32,33,34,35,36,37,38,39,40,41,42] (fun k v H=>v 17=I k∧∃ pre:List Pr,lasts D=pre++lasts (D.drop k)∧((pre=[]∧v 4 = .nl 2∧∃ K,H=rw0 D 1::K)∨(pre ≠ []∧∃ (J K:Hp) (g:Nat),v 4 = .ol (J.length+1) g pre.length∧H=rw0 D 1::(J++⟨65,2,pre.map pA,g,0⟩::K)))) D.length ⟨rfl,[],rfl,.inl ⟨rfl,rfl,[],rfl⟩⟩ ?_ ?_
    · rintro k v H hk ⟨h17, pre, hla, hor⟩
      rw [lasts_drop hk] at hla
      have hkk:=lasts_sort hSle hk
      have hpl:pre.length≤1000000:=by
        have h2:=(lasts_sub D).length_le
        rw [hla] at h2
        simp at h2
        omega
      have tp:(pre.map pA).take pre.length=pre.map pA:=List.take_of_length_le (by simp)
      have hend:((k:Int)+1=(D.length:Int))=(k+1=D.length):=by simp;omega
      have hsn:(pre++[D[k]]).map pA=pre.map pA++[.agg [S (D[k]).1,S (D[k]).2]]:=by simp [pA]
      have hne:pre++[D[k]] ≠ []:=by simp
      have hDl:D.length≤1000000:=by omega
      clear hi hc ho hD hml hSl hSle hl hlen h40 h0 hs
      rcases hor with ⟨rfl,h4,K,rfl⟩|⟨hp,J,K,g,h4,rfl⟩
      · by_cases hr : fk (D[k]).1 (D.drop (k + 1)) = []
        · rw [if_pos hr] at hla
          have h2:=hkk.1 hr
          by_cases he:k+1=D.length
          · simp only [mix, mix_nil, mix_end, mix_skp, Nat.reduceEqDiff, Nat.reduceLeDiff, reduceCtorEq, if_true, if_false, reduceIte, Nat.reduceAdd, h17, h4]
            repeat (first|with_reducible refine w_seq ?_|with_reducible refine w_reg ?_|with_reducible refine w_draw ?_|with_reducible refine w_block ?_|with_reducible refine w_skip ?_|with_reducible refine ws_nil ?_|with_reducible refine wd_nil ?_|with_reducible refine q_then ?_|with_reducible refine q_block_n ?_|((first|with_reducible refine ks fun K hK=>?_|with_reducible refine kd fun K hK=>?_|with_reducible refine kc fun K hK2 hK hK3=>?_);simp (disch:=omega) only [bg0,bg1,bg2,bg3,bg4,stepO,rsAs,eff,AX.ev,St.put,binA,conc,ap1,ofVal,Int.reduceTMod,Int.reduceTDiv,reduceCtorEq,fillA,AV.cells,AV.fine,AV.one,Nat.reduceAdd,Nat.reduceSub,Nat.reduceMul,Nat.reduceLT,Nat.reduceLeDiff,Int.reduceLT,Int.reduceLE,Int.reduceAdd,Int.reduceSub,Int.reduceNeg,Int.reduceMul,Int.reduceEq,Int.reduceToNat,nilA,moveA,live,loadA,rdA,storeA,wrA,intA,elemA,lenA,appA,srcA,isPtr,isNilPtr,partA,resOf,sliceA,cut,id,ap2,reduceIte,concs,chkB,geB,AOp.cls,AOp.xs,ltB,ltC,Nat.reduceBEq,Option.toList,List.cons_append,decide_eq_true,decide_eq_false,if_pos,if_neg,List.length_map,pA_at,bVb,bVn,eq_self,Bool.and_self,BEq.rfl,not_true_eq_false,gR0,gR01,gR02,sR0,sR01,sR02,lR0,lR1,gR1,gR2,gR22,sR1,sR2,sR22,gj1_0,sj1_0,gj2_0,gj2_1,sj2_0,sj2_1,len_last,hend,he,tp];(first|((with_reducible refine hK _ ?_);clear hK K)|((with_reducible refine hK ?_);clear hK hK3 K hK2)|((with_reducible refine hK3 ?_);clear hK hK3 K hK2)))|((first|((with_reducible refine kgd_u ?_ ?_ ?_);rotate_left 1;rfl)|((with_reducible refine kgd_f ?_ ?_ ?_);rotate_left 1;rfl));rotate_left 1;(focus (simp (disch:=omega) only [bg0,bg1,bg2,bg3,bg4,stepO,rsAs,eff,AX.ev,St.put,binA,conc,ap1,ofVal,Int.reduceTMod,Int.reduceTDiv,reduceCtorEq,fillA,AV.cells,AV.fine,AV.one,Nat.reduceAdd,Nat.reduceSub,Nat.reduceMul,Nat.reduceLT,Nat.reduceLeDiff,Int.reduceLT,Int.reduceLE,Int.reduceAdd,Int.reduceSub,Int.reduceNeg,Int.reduceMul,Int.reduceEq,Int.reduceToNat,nilA,moveA,live,loadA,rdA,storeA,wrA,intA,elemA,lenA,appA,srcA,isPtr,isNilPtr,partA,resOf,sliceA,cut,id,ap2,reduceIte,concs,chkB,geB,AOp.cls,AOp.xs,ltB,ltC,Nat.reduceBEq,Option.toList,List.cons_append,decide_eq_true,decide_eq_false,if_pos,if_neg,List.length_map,pA_at,bVb,bVn,eq_self,Bool.and_self,BEq.rfl,not_true_eq_false,gR0,gR01,gR02,sR0,sR01,sR02,lR0,lR1,gR1,gR2,gR22,sR1,sR2,sR22,gj1_0,sj1_0,gj2_0,gj2_1,sj2_0,sj2_1,len_last,hend,he,tp];try rfl))))
            exact ⟨rfl,rfl,[D[k]],by rw [hla];rfl,.inr ⟨by simp,K++[rw0 [D[k]] 0]++[rw0 [D[k]] 0],[],0,by show AV.ol _ _ _=AV.ol _ _ _;simp,rfl⟩⟩
          · have h3 := h2 (by omega)
            simp only [mix,mix_nil,mix_end,mix_skp,Nat.reduceEqDiff,Nat.reduceLeDiff,reduceCtorEq,if_true,if_false,reduceIte,Nat.reduceAdd,h17,h4]
            repeat (first|with_reducible refine w_seq ?_|with_reducible refine w_reg ?_|with_reducible refine w_draw ?_|with_reducible refine w_block ?_|with_reducible refine w_skip ?_|with_reducible refine ws_nil ?_|with_reducible refine wd_nil ?_|with_reducible refine q_then ?_|with_reducible refine q_block_n ?_|((with_reducible refine kgd_t ?_ ?_);rfl)|((first|with_reducible refine ks fun K hK=>?_|with_reducible refine kd fun K hK=>?_|with_reducible refine kc fun K hK2 hK hK3=>?_);simp (disch:=omega) only [bg0,bg1,bg2,bg3,bg4,stepO,rsAs,eff,AX.ev,St.put,binA,conc,ap1,ofVal,Int.reduceTMod,Int.reduceTDiv,reduceCtorEq,fillA,AV.cells,AV.fine,AV.one,Nat.reduceAdd,Nat.reduceSub,Nat.reduceMul,Nat.reduceLT,Nat.reduceLeDiff,Int.reduceLT,Int.reduceLE,Int.reduceAdd,Int.reduceSub,Int.reduceNeg,Int.reduceMul,Int.reduceEq,Int.reduceToNat,nilA,moveA,live,loadA,rdA,storeA,wrA,intA,elemA,lenA,appA,srcA,isPtr,isNilPtr,partA,resOf,sliceA,cut,id,ap2,reduceIte,concs,chkB,geB,AOp.cls,AOp.xs,ltB,ltC,Nat.reduceBEq,Option.toList,List.cons_append,decide_eq_true,decide_eq_false,if_pos,if_neg,List.length_map,pA_at,bVb,bVn,eq_self,Bool.and_self,BEq.rfl,not_true_eq_false,gR0,gR01,gR02,sR0,sR01,sR02,lR0,lR1,gR1,gR2,gR22,sR1,sR2,sR22,gj1_0,sj1_0,gj2_0,gj2_1,sj2_0,sj2_1,len_last,hend,he,h3,tp];(first|((with_reducible refine hK _ ?_);clear hK K)|((with_reducible refine hK ?_);clear hK hK3 K hK2)|((with_reducible refine hK3 ?_);clear hK hK3 K hK2))))
            exact ⟨rfl,rfl,[D[k]],by rw [hla];rfl,.inr ⟨by simp,K++[rw0 [D[k]] 0]++[rw0 [D[k]] 0],[],0,by show AV.ol _ _ _=AV.ol _ _ _;simp,rfl⟩⟩
        · rw [if_neg hr] at hla
          have hex:∃ h2:k+1 < D.length,(D[k+1]).1=(D[k]).1:=by
            by_cases h2:k+1 < D.length
            · refine ⟨h2, ?_⟩
              by_cases h3:(D[k+1]).1=(D[k]).1
              · exact h3
              · exact absurd (hkk.2 fun _=>h3) hr
            · exact absurd (hkk.2 fun h=>absurd h h2) hr
          obtain ⟨h2,h3⟩:=hex
          have he:¬ (k+1=D.length):=by omega
          simp only [mix,mix_nil,mix_end,mix_skp,Nat.reduceEqDiff,Nat.reduceLeDiff,reduceCtorEq,if_true,if_false,reduceIte,Nat.reduceAdd,h17,h4]
          repeat (first|with_reducible refine w_seq ?_|with_reducible refine w_reg ?_|with_reducible refine w_draw ?_|with_reducible refine w_block ?_|with_reducible refine w_skip ?_|with_reducible refine ws_nil ?_|with_reducible refine wd_nil ?_|with_reducible refine q_then ?_|with_reducible refine q_block_n ?_|((with_reducible refine kgd_t ?_ ?_);rfl)|((first|with_reducible refine ks fun K hK=>?_|with_reducible refine kd fun K hK=>?_|with_reducible refine kc fun K hK2 hK hK3=>?_);simp (disch:=omega) only [bg0,bg1,bg2,bg3,bg4,stepO,rsAs,eff,AX.ev,St.put,binA,conc,ap1,ofVal,Int.reduceTMod,Int.reduceTDiv,reduceCtorEq,fillA,AV.cells,AV.fine,AV.one,Nat.reduceAdd,Nat.reduceSub,Nat.reduceMul,Nat.reduceLT,Nat.reduceLeDiff,Int.reduceLT,Int.reduceLE,Int.reduceAdd,Int.reduceSub,Int.reduceNeg,Int.reduceMul,Int.reduceEq,Int.reduceToNat,nilA,moveA,live,loadA,rdA,storeA,wrA,intA,elemA,lenA,appA,srcA,isPtr,isNilPtr,partA,resOf,sliceA,cut,id,ap2,reduceIte,concs,chkB,geB,AOp.cls,AOp.xs,ltB,ltC,Nat.reduceBEq,Option.toList,List.cons_append,decide_eq_true,decide_eq_false,if_pos,if_neg,List.length_map,pA_at,bVb,bVn,eq_self,Bool.and_self,BEq.rfl,not_true_eq_false,gR0,gR01,gR02,sR0,sR01,sR02,lR0,lR1,gR1,gR2,gR22,sR1,sR2,sR22,gj1_0,sj1_0,gj2_0,gj2_1,sj2_0,sj2_1,len_last,hend,he,h3,tp];(first|((with_reducible refine hK _ ?_);clear hK K)|((with_reducible refine hK ?_);clear hK hK3 K hK2)|((with_reducible refine hK3 ?_);clear hK hK3 K hK2))))
          exact ⟨rfl,rfl,[],hla,.inl ⟨rfl,rfl,_,rfl⟩⟩
      · by_cases hr : fk (D[k]).1 (D.drop (k + 1)) = []
        · rw [if_pos hr] at hla
          have h2:=hkk.1 hr
          by_cases he:k+1=D.length
          · simp only [mix, mix_nil, mix_end, mix_skp, Nat.reduceEqDiff, Nat.reduceLeDiff, reduceCtorEq, if_true, if_false, reduceIte, Nat.reduceAdd, h17, h4]
            repeat (first|with_reducible refine w_seq ?_|with_reducible refine w_reg ?_|with_reducible refine w_draw ?_|with_reducible refine w_block ?_|with_reducible refine w_skip ?_|with_reducible refine ws_nil ?_|with_reducible refine wd_nil ?_|with_reducible refine q_then ?_|with_reducible refine q_block_n ?_|((first|with_reducible refine ks fun K hK=>?_|with_reducible refine kd fun K hK=>?_|with_reducible refine kc fun K hK2 hK hK3=>?_);simp (disch:=omega) only [bg0,bg1,bg2,bg3,bg4,stepO,rsAs,eff,AX.ev,St.put,binA,conc,ap1,ofVal,Int.reduceTMod,Int.reduceTDiv,reduceCtorEq,fillA,AV.cells,AV.fine,AV.one,Nat.reduceAdd,Nat.reduceSub,Nat.reduceMul,Nat.reduceLT,Nat.reduceLeDiff,Int.reduceLT,Int.reduceLE,Int.reduceAdd,Int.reduceSub,Int.reduceNeg,Int.reduceMul,Int.reduceEq,Int.reduceToNat,nilA,moveA,live,loadA,rdA,storeA,wrA,intA,elemA,lenA,appA,srcA,isPtr,isNilPtr,partA,resOf,sliceA,cut,id,ap2,reduceIte,concs,chkB,geB,AOp.cls,AOp.xs,ltB,ltC,Nat.reduceBEq,Option.toList,List.cons_append,decide_eq_true,decide_eq_false,if_pos,if_neg,List.length_map,pA_at,bVb,bVn,eq_self,Bool.and_self,BEq.rfl,not_true_eq_false,gR0,gR01,gR02,sR0,sR01,sR02,lR0,lR1,gR1,gR2,gR22,sR1,sR2,sR22,gj1_0,sj1_0,gj2_0,gj2_1,sj2_0,sj2_1,len_last,hend,he,tp];(first|((with_reducible refine hK _ ?_);clear hK K)|((with_reducible refine hK ?_);clear hK hK3 K hK2)|((with_reducible refine hK3 ?_);clear hK hK3 K hK2)))|((first|((with_reducible refine kgd_u ?_ ?_ ?_);rotate_left 1;rfl)|((with_reducible refine kgd_f ?_ ?_ ?_);rotate_left 1;rfl));rotate_left 1;(focus (simp (disch:=omega) only [bg0,bg1,bg2,bg3,bg4,stepO,rsAs,eff,AX.ev,St.put,binA,conc,ap1,ofVal,Int.reduceTMod,Int.reduceTDiv,reduceCtorEq,fillA,AV.cells,AV.fine,AV.one,Nat.reduceAdd,Nat.reduceSub,Nat.reduceMul,Nat.reduceLT,Nat.reduceLeDiff,Int.reduceLT,Int.reduceLE,Int.reduceAdd,Int.reduceSub,Int.reduceNeg,Int.reduceMul,Int.reduceEq,Int.reduceToNat,nilA,moveA,live,loadA,rdA,storeA,wrA,intA,elemA,lenA,appA,srcA,isPtr,isNilPtr,partA,resOf,sliceA,cut,id,ap2,reduceIte,concs,chkB,geB,AOp.cls,AOp.xs,ltB,ltC,Nat.reduceBEq,Option.toList,List.cons_append,decide_eq_true,decide_eq_false,if_pos,if_neg,List.length_map,pA_at,bVb,bVn,eq_self,Bool.and_self,BEq.rfl,not_true_eq_false,gR0,gR01,gR02,sR0,sR01,sR02,lR0,lR1,gR1,gR2,gR22,sR1,sR2,sR22,gj1_0,sj1_0,gj2_0,gj2_1,sj2_0,sj2_1,len_last,hend,he,tp];try rfl))))
            exact ⟨rfl,rfl,pre++[D[k]],by rw [hla];simp,.inr ⟨by simp,J,K++[rw0 [D[k]] 0]++[rw0 [D[k]] 0],g+1,by show AV.ol _ _ _=AV.ol _ _ _;simp,by rw [hsn];simp [pA]⟩⟩
          · have h3 := h2 (by omega)
            simp only [mix,mix_nil,mix_end,mix_skp,Nat.reduceEqDiff,Nat.reduceLeDiff,reduceCtorEq,if_true,if_false,reduceIte,Nat.reduceAdd,h17,h4]
            repeat (first|with_reducible refine w_seq ?_|with_reducible refine w_reg ?_|with_reducible refine w_draw ?_|with_reducible refine w_block ?_|with_reducible refine w_skip ?_|with_reducible refine ws_nil ?_|with_reducible refine wd_nil ?_|with_reducible refine q_then ?_|with_reducible refine q_block_n ?_|((with_reducible refine kgd_t ?_ ?_);rfl)|((first|with_reducible refine ks fun K hK=>?_|with_reducible refine kd fun K hK=>?_|with_reducible refine kc fun K hK2 hK hK3=>?_);simp (disch:=omega) only [bg0,bg1,bg2,bg3,bg4,stepO,rsAs,eff,AX.ev,St.put,binA,conc,ap1,ofVal,Int.reduceTMod,Int.reduceTDiv,reduceCtorEq,fillA,AV.cells,AV.fine,AV.one,Nat.reduceAdd,Nat.reduceSub,Nat.reduceMul,Nat.reduceLT,Nat.reduceLeDiff,Int.reduceLT,Int.reduceLE,Int.reduceAdd,Int.reduceSub,Int.reduceNeg,Int.reduceMul,Int.reduceEq,Int.reduceToNat,nilA,moveA,live,loadA,rdA,storeA,wrA,intA,elemA,lenA,appA,srcA,isPtr,isNilPtr,partA,resOf,sliceA,cut,id,ap2,reduceIte,concs,chkB,geB,AOp.cls,AOp.xs,ltB,ltC,Nat.reduceBEq,Option.toList,List.cons_append,decide_eq_true,decide_eq_false,if_pos,if_neg,List.length_map,pA_at,bVb,bVn,eq_self,Bool.and_self,BEq.rfl,not_true_eq_false,gR0,gR01,gR02,sR0,sR01,sR02,lR0,lR1,gR1,gR2,gR22,sR1,sR2,sR22,gj1_0,sj1_0,gj2_0,gj2_1,sj2_0,sj2_1,len_last,hend,he,h3,tp];(first|((with_reducible refine hK _ ?_);clear hK K)|((with_reducible refine hK ?_);clear hK hK3 K hK2)|((with_reducible refine hK3 ?_);clear hK hK3 K hK2))))
            exact ⟨rfl,rfl,pre++[D[k]],by rw [hla];simp,.inr ⟨by simp,J,K++[rw0 [D[k]] 0]++[rw0 [D[k]] 0],g+1,by show AV.ol _ _ _=AV.ol _ _ _;simp,by rw [hsn];simp [pA]⟩⟩
        · rw [if_neg hr] at hla
          have hex:∃ h2:k+1 < D.length,(D[k+1]).1=(D[k]).1:=by
            by_cases h2:k+1 < D.length
            · refine ⟨h2, ?_⟩
              by_cases h3:(D[k+1]).1=(D[k]).1
              · exact h3
              · exact absurd (hkk.2 fun _=>h3) hr
            · exact absurd (hkk.2 fun h=>absurd h h2) hr
          obtain ⟨h2,h3⟩:=hex
          have he:¬ (k+1=D.length):=by omega
          simp only [mix,mix_nil,mix_end,mix_skp,Nat.reduceEqDiff,Nat.reduceLeDiff,reduceCtorEq,if_true,if_false,reduceIte,Nat.reduceAdd,h17,h4]
          repeat (first|with_reducible refine w_seq ?_|with_reducible refine w_reg ?_|with_reducible refine w_draw ?_|with_reducible refine w_block ?_|with_reducible refine w_skip ?_|with_reducible refine ws_nil ?_|with_reducible refine wd_nil ?_|with_reducible refine q_then ?_|with_reducible refine q_block_n ?_|((with_reducible refine kgd_t ?_ ?_);rfl)|((first|with_reducible refine ks fun K hK=>?_|with_reducible refine kd fun K hK=>?_|with_reducible refine kc fun K hK2 hK hK3=>?_);simp (disch:=omega) only [bg0,bg1,bg2,bg3,bg4,stepO,rsAs,eff,AX.ev,St.put,binA,conc,ap1,ofVal,Int.reduceTMod,Int.reduceTDiv,reduceCtorEq,fillA,AV.cells,AV.fine,AV.one,Nat.reduceAdd,Nat.reduceSub,Nat.reduceMul,Nat.reduceLT,Nat.reduceLeDiff,Int.reduceLT,Int.reduceLE,Int.reduceAdd,Int.reduceSub,Int.reduceNeg,Int.reduceMul,Int.reduceEq,Int.reduceToNat,nilA,moveA,live,loadA,rdA,storeA,wrA,intA,elemA,lenA,appA,srcA,isPtr,isNilPtr,partA,resOf,sliceA,cut,id,ap2,reduceIte,concs,chkB,geB,AOp.cls,AOp.xs,ltB,ltC,Nat.reduceBEq,Option.toList,List.cons_append,decide_eq_true,decide_eq_false,if_pos,if_neg,List.length_map,pA_at,bVb,bVn,eq_self,Bool.and_self,BEq.rfl,not_true_eq_false,gR0,gR01,gR02,sR0,sR01,sR02,lR0,lR1,gR1,gR2,gR22,sR1,sR2,sR22,gj1_0,sj1_0,gj2_0,gj2_1,sj2_0,sj2_1,len_last,hend,he,h3,tp];(first|((with_reducible refine hK _ ?_);clear hK K)|((with_reducible refine hK ?_);clear hK hK3 K hK2)|((with_reducible refine hK3 ?_);clear hK hK3 K hK2))))
          exact ⟨rfl,rfl,pre,hla,.inr ⟨hp,J,K++[rw0 [D[k]] 0],g,rfl,by simp [pA]⟩⟩
    · rintro v H ⟨h17, pre, hla, hor⟩
      rw [List.drop_length] at hla
      have hla2:lasts D=pre:=by rw [hla];simp [lasts]
      rw [hla2]
      rcases hor with ⟨rfl,h4,K,rfl⟩|⟨hp,J,K,g,h4,rfl⟩
      · simp only [mix, mix_nil, mix_end, mix_skp, Nat.reduceEqDiff, Nat.reduceLeDiff, reduceCtorEq, if_true, if_false, reduceIte, Nat.reduceAdd, h17, h4]
        repeat (first|with_reducible refine w_seq ?_|with_reducible refine w_reg ?_|with_reducible refine w_exit ?_|with_reducible refine ws_nil ?_|with_reducible refine q_then ?_|with_reducible refine q_then_x ?_|with_reducible refine q_block_x ?_|with_reducible refine w_ret ?_|((first|with_reducible refine ks fun K hK=>?_|with_reducible refine kd fun K hK=>?_|with_reducible refine kc fun K hK2 hK hK3=>?_);simp (disch:=omega) only [bg0,bg1,bg2,bg3,bg4,stepO,rsAs,eff,AX.ev,St.put,binA,conc,ap1,ofVal,Int.reduceTMod,Int.reduceTDiv,reduceCtorEq,fillA,AV.cells,AV.fine,AV.one,Nat.reduceAdd,Nat.reduceSub,Nat.reduceMul,Nat.reduceLT,Nat.reduceLeDiff,Int.reduceLT,Int.reduceLE,Int.reduceAdd,Int.reduceSub,Int.reduceNeg,Int.reduceMul,Int.reduceEq,Int.reduceToNat,nilA,moveA,live,loadA,rdA,storeA,wrA,intA,elemA,lenA,appA,srcA,isPtr,isNilPtr,partA,resOf,sliceA,cut,id,ap2,reduceIte,concs,chkB,geB,AOp.cls,AOp.xs,ltB,ltC,Nat.reduceBEq,Option.toList,List.cons_append,decide_eq_true,decide_eq_false,if_pos,if_neg,List.length_map,pA_at,bVb,bVn,eq_self,Bool.and_self,BEq.rfl,not_true_eq_false,gR0,gR01,gR02,sR0,sR01,sR02,lR0,lR1,gR1,gR2,gR22,sR1,sR2,sR22,gj1_0,sj1_0,gj2_0,gj2_1,sj2_0,sj2_1,len_last];(first|((with_reducible refine hK _ ?_);clear hK K)|((with_reducible refine hK ?_);clear hK hK3 K hK2)|((with_reducible refine hK3 ?_);clear hK hK3 K hK2)))|((first|with_reducible refine ret_h fun K hK=>?_|with_reducible refine ret_hh rfl fun K hK=>?_|with_reducible refine ret_pp fun K hK=>?_);simp (disch:=omega) only [bg0,bg1,bg2,bg3,bg4,stepO,rsAs,eff,AX.ev,St.put,binA,conc,ap1,ofVal,Int.reduceTMod,Int.reduceTDiv,reduceCtorEq,fillA,AV.cells,AV.fine,AV.one,Nat.reduceAdd,Nat.reduceSub,Nat.reduceMul,Nat.reduceLT,Nat.reduceLeDiff,Int.reduceLT,Int.reduceLE,Int.reduceAdd,Int.reduceSub,Int.reduceNeg,Int.reduceMul,Int.reduceEq,Int.reduceToNat,nilA,moveA,live,loadA,rdA,storeA,wrA,intA,elemA,lenA,appA,srcA,isPtr,isNilPtr,partA,resOf,sliceA,cut,id,ap2,reduceIte,concs,chkB,geB,AOp.cls,AOp.xs,ltB,ltC,Nat.reduceBEq,Option.toList,List.cons_append,decide_eq_true,decide_eq_false,if_pos,if_neg,List.length_map,pA_at,bVb,bVn,eq_self,Bool.and_self,BEq.rfl,not_true_eq_false,gR0,gR01,gR02,sR0,sR01,sR02,lR0,lR1,gR1,gR2,gR22,sR1,sR2,sR22,gj1_0,sj1_0,gj2_0,gj2_1,sj2_0,sj2_1,len_last];(first|((with_reducible refine hK _ ?_ ?_ ?_ ?_);rotate_left 2;rfl;rfl)|((with_reducible refine hK _ ?_);rfl))))
      · simp only [mix, mix_nil, mix_end, mix_skp, Nat.reduceEqDiff, Nat.reduceLeDiff, reduceCtorEq, if_true, if_false, reduceIte, Nat.reduceAdd, h17, h4]
        repeat (first|with_reducible refine w_seq ?_|with_reducible refine w_reg ?_|with_reducible refine w_exit ?_|with_reducible refine ws_nil ?_|with_reducible refine q_then ?_|with_reducible refine q_then_x ?_|with_reducible refine q_block_x ?_|with_reducible refine w_ret ?_|((first|with_reducible refine ks fun K hK=>?_|with_reducible refine kd fun K hK=>?_|with_reducible refine kc fun K hK2 hK hK3=>?_);simp (disch:=omega) only [bg0,bg1,bg2,bg3,bg4,stepO,rsAs,eff,AX.ev,St.put,binA,conc,ap1,ofVal,Int.reduceTMod,Int.reduceTDiv,reduceCtorEq,fillA,AV.cells,AV.fine,AV.one,Nat.reduceAdd,Nat.reduceSub,Nat.reduceMul,Nat.reduceLT,Nat.reduceLeDiff,Int.reduceLT,Int.reduceLE,Int.reduceAdd,Int.reduceSub,Int.reduceNeg,Int.reduceMul,Int.reduceEq,Int.reduceToNat,nilA,moveA,live,loadA,rdA,storeA,wrA,intA,elemA,lenA,appA,srcA,isPtr,isNilPtr,partA,resOf,sliceA,cut,id,ap2,reduceIte,concs,chkB,geB,AOp.cls,AOp.xs,ltB,ltC,Nat.reduceBEq,Option.toList,List.cons_append,decide_eq_true,decide_eq_false,if_pos,if_neg,List.length_map,pA_at,bVb,bVn,eq_self,Bool.and_self,BEq.rfl,not_true_eq_false,gR0,gR01,gR02,sR0,sR01,sR02,lR0,lR1,gR1,gR2,gR22,sR1,sR2,sR22,gj1_0,sj1_0,gj2_0,gj2_1,sj2_0,sj2_1,len_last];(first|((with_reducible refine hK _ ?_);clear hK K)|((with_reducible refine hK ?_);clear hK hK3 K hK2)|((with_reducible refine hK3 ?_);clear hK hK3 K hK2))))
        exact ret_frz rfl (List.getElem?_cons_succ.trans gR0) (by simp) (all_pA _)
end Go.Proofs.YtgpldekhcojimaaDoor.Sim.Pr7
namespace Go.Proofs.YtgpldekhcojimaaDoor.Sim.Pr7
open Go.RowKit
set_option maxRecDepth 100000
end Go.Proofs.YtgpldekhcojimaaDoor.Sim.Pr7
namespace Go.Proofs.YtgpldekhcojimaaDoor.Sim.Pr7
open Go.RowKit
set_option maxRecDepth 100000
theorem cutB_size (s:ByteArray):(cutB s 40).size≤40:=by simp [cutB];omega
theorem cutB_short {s:ByteArray} (h:s.size≤40):cutB s 40=s:=by
  unfold cutB
  rw [Nat.min_eq_left h]
  exact ByteArray.extract_zero_size
theorem few_sz {l:List Pr}:∀ p ∈ few l,p.1.size≤40∧p.2.size≤40:=by
  intro p hp
  unfold few at hp
  obtain ⟨q,hq,rfl⟩:=List.mem_map.1 hp
  exact ⟨cutB_size _,cutB_size _⟩
theorem few_few (l:List Pr):few (few l)=few l:=by
  have hl:=few_len l
  have hs:=few_sz (l:=l)
  generalize few l=m at *
  unfold few
  rw [List.take_of_length_le (by omega)]
  refine (List.map_congr_left (g:=id) fun p hp=>?_).trans (List.map_id m)
  rw [cutB_short (hs p hp).1,cutB_short (hs p hp).2]
  rfl
theorem okl_few (l:List Pr):Okl (few l):=⟨by rw [few_len];omega,fun p hp=>by have:=few_sz p hp;omega⟩
abbrev PrS:={p:Pr // p.1.size≤9223372036854775807∧p.2.size≤9223372036854775807}
def pC (p:PrS):List AV:=[S p.1.1,S p.1.2]
theorem pair_inv {cs:List AV} (h:ShC Tryd.prog 65 cs):∃ p:PrS,cs=pC p:=by
  obtain ⟨p0,q,rfl,hp0,h⟩:=(h.flds (ts:=[9,9]) (by kernel_rfl)).cons
  obtain ⟨p1,q,rfl,hp1,h⟩:=h.cons
  obtain rfl:=h.nil
  obtain ⟨a,rfl,ha⟩:=hp0.str_inv u_str
  obtain ⟨b,rfl,hb⟩:=hp1.str_inv u_str
  exact ⟨⟨(a,b),ha,hb⟩,rfl⟩
end Go.Proofs.YtgpldekhcojimaaDoor.Sim.Pr7
