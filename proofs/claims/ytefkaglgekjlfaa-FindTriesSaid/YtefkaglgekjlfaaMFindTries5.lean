/- Texts of this claim, part 5. -/
import Derived.Deep.AppendLies
import Derived.Laws.AppendOwnNone
import Derived.Laws.BitsAllLaws
import Derived.Laws.OwnMore
import Derived.Lib.Tables
import Derived.Maps.AppendAt
import Derived.OwnWalk
import Derived.RegionTactic
import Derived.Test.YtefkaglgekjlfaaMFindTries4
import Derived.Test.YtefkaglgekjlfaaProg
set_option linter.unusedVariables false
set_option linter.unusedSimpArgs false
namespace Go.Proofs.Ytefkaglgekjlfaa.Sim
open Go.RowKit
set_option maxRecDepth 100000
abbrev tb8:ByteArray:=ByteArray.mk #[0,1,1,2,1,2,2,3,1,2,2,3,2,3,3,4,1,2,2,3,2,3,3,4,2,3,3,4,3,4,4,5,1,2,2,3,2,3,3,4,2,3,3,4,3,4,4,5,2,3,3,4,3,4,4,5,3,4,4,5,4,5,5,6,1,2,2,3,2,3,3,4,2,3,3,4,3,4,4,5,2,3,3,4,3,4,4,5,3,4,4,5,4,5,5,6,2,3,3,4,3,4,4,5,3,4,4,5,4,5,5,6,3,4,4,5,4,5,5,6,4,5,5,6,5,6,6,7,1,2,2,3,2,3,3,4,2,3,3,4,3,4,4,5,2,3,3,4,3,4,4,5,3,4,4,5,4,5,5,6,2,3,3,4,3,4,4,5,3,4,4,5,4,5,5,6,3,4,4,5,4,5,5,6,4,5,5,6,5,6,6,7,2,3,3,4,3,4,4,5,3,4,4,5,4,5,5,6,3,4,4,5,4,5,5,6,4,5,5,6,5,6,6,7,3,4,4,5,4,5,5,6,4,5,5,6,5,6,6,7,4,5,5,6,5,6,6,7,5,6,6,7,6,7,7,8]
theorem tb8_pc:∀ k:Fin 256,(tb8[k.1]'(show k.1 < 256 from k.2)).toNat=Mk.pc k.1:=by decide +kernel
theorem tb8_at (k:Nat) (h:k < tb8.size):((tb8[k]'h).toNat:Int)=(Mk.pc k:Nat):=by
  have:=tb8_pc ⟨k,h⟩
  simp only at this
  rw [this]
theorem obq8 {k:Int→Prop} {m:Nat} (h:m < 256) (hk:k ((Mk.pc m:Nat):Int)):ObQ tb8 (m:Int) k:=⟨m,rfl,h,by rw [tb8_at];exact hk⟩
section
variable {P:Program} {H:Hp} {k:KK} {t:TypeId} {xo yo:Operand} {n:Nat}
theorem eS24 (hk:k (.v (.int .u32 ((n / 16777216:Nat):Int))) H):ObE ((binA P H .shr t false xo yo (.v (.int .u32 (n:Int))) (.v (.int .u64 24))).map (·,H)) k:=by
  have e:binV P .shr t xo yo (.int .u32 (n:Int)) (.int .u64 24)=some (.int .u32 ((n / 16777216:Nat):Int)):=by
    show some (Value.int .u32 ((n:Int).fdiv (2 ^ 24)))=_
    rw [Int.fdiv_eq_ediv_of_nonneg _ (by decide)];rfl
  exact ⟨_,_,by simp only [binA,conc,e,Bool.false_eq_true,if_false];rfl,hk⟩
theorem eS16 (hk:k (.v (.int .u32 ((n / 65536:Nat):Int))) H):ObE ((binA P H .shr t false xo yo (.v (.int .u32 (n:Int))) (.v (.int .u64 16))).map (·,H)) k:=by
  have e:binV P .shr t xo yo (.int .u32 (n:Int)) (.int .u64 16)=some (.int .u32 ((n / 65536:Nat):Int)):=by
    show some (Value.int .u32 ((n:Int).fdiv (2 ^ 16)))=_
    rw [Int.fdiv_eq_ediv_of_nonneg _ (by decide)];rfl
  exact ⟨_,_,by simp only [binA,conc,e,Bool.false_eq_true,if_false];rfl,hk⟩
theorem eS8 (hk:k (.v (.int .u32 ((n / 256:Nat):Int))) H):ObE ((binA P H .shr t false xo yo (.v (.int .u32 (n:Int))) (.v (.int .u64 8))).map (·,H)) k:=by
  have e:binV P .shr t xo yo (.int .u32 (n:Int)) (.int .u64 8)=some (.int .u32 ((n / 256:Nat):Int)):=by
    show some (Value.int .u32 ((n:Int).fdiv (2 ^ 8)))=_
    rw [Int.fdiv_eq_ediv_of_nonneg _ (by decide)];rfl
  exact ⟨_,_,by simp only [binA,conc,e,Bool.false_eq_true,if_false];rfl,hk⟩
theorem eAnd (hn:n < 4294967296) (hk:k (.v (.int .u32 ((n % 256:Nat):Int))) H):ObE ((binA P H .and t false xo yo (.v (.int .u32 (n:Int))) (.v (.int .u32 255))).map (·,H)) k:=by
  have e:binV P .and t xo yo (.int .u32 (n:Int)) (.int .u32 255)=some (.int .u32 ((n % 256:Nat):Int)):=by
    show some (Value.int .u32 (bits .and .u32 (n:Int) 255))=_
    rw [show (255:Int)=((255:Nat):Int) from rfl,u32_and_nat _ _ (by omega) (by omega),show (255:Nat)=2 ^ 8 - 1 from rfl,Nat.and_two_pow_sub_one_eq_mod]
  exact ⟨_,_,by simp only [binA,conc,e,Bool.false_eq_true,if_false];rfl,hk⟩
theorem eRem2 (hk:k (.v (.int .u32 ((n % 2:Nat):Int))) H):ObE ((binA P H .rem t false xo yo (.v (.int .u32 (n:Int))) (.v (.int .u32 2))).map (·,H)) k:=by
  have e:binV P .rem t xo yo (.int .u32 (n:Int)) (.int .u32 2)=some (.int .u32 ((n % 2:Nat):Int)):=by
    show pureRun P (do eqGuard .rem t xo yo (.int .u32 (n:Int)) (.int .u32 2);Op.intDiv .rem .u32 (n:Int) 2)=_
    unfold Op.intDiv
    rw [if_neg (by decide)]
    show some (Value.int .u32 ((n:Int).tmod 2))=_
    rw [Int.tmod_eq_emod_of_nonneg (by omega)];rfl
  exact ⟨_,_,by simp only [binA,conc,e,Bool.false_eq_true,if_false];rfl,hk⟩
theorem eQuo2 (hn:n < 4294967296) (hk:k (.v (.int .u32 ((n / 2:Nat):Int))) H):ObE ((binA P H .quo t false xo yo (.v (.int .u32 (n:Int))) (.v (.int .u32 2))).map (·,H)) k:=by
  have e:binV P .quo t xo yo (.int .u32 (n:Int)) (.int .u32 2)=some (.int .u32 ((n / 2:Nat):Int)):=by
    show pureRun P (do eqGuard .quo t xo yo (.int .u32 (n:Int)) (.int .u32 2);Op.intDiv .quo .u32 (n:Int) 2)=_
    unfold Op.intDiv
    rw [if_neg (by decide)]
    show some (Value.int .u32 (IntKind.u32.wrap ((n:Int).tdiv 2)))=_
    rw [Int.tdiv_eq_ediv_of_nonneg (by omega)]
    have:IntKind.u32.wrap ((n:Int) / 2)=((n / 2:Nat):Int):=by rw [IntKind.wrap_u32];omega
    rw [this]
  exact ⟨_,_,by simp only [binA,conc,e,Bool.false_eq_true,if_false];rfl,hk⟩
end
theorem pop53 (G:Nat→AV) (m:Nat) (hm:m < 4294967296):PC Try.prog G 78 [.v (.int .u32 (m:Int))] (I ((Mk.all m).length:Nat)):=by
  have hp:=Mk.pop_all m
  have l0:=Mk.pc_le (m / 16777216 % 256)
  have l1:=Mk.pc_le (m / 65536 % 256)
  have l2:=Mk.pc_le (m / 256 % 256)
  have l3:=Mk.pc_le (m % 256)
  have hd:m / 16777216=m / 16777216 % 256:=by omega
  rw [← hd] at hp l0
  have hs:tb8.size=256:=rfl
  have u5:(Try.prog).underlying 5=some (.int .u8):=by kernel_rfl
  have u3:(Try.prog).underlying 3=some (.int .i64):=by kernel_rfl
  refine pc_ofV cop78 ?_
  repeat' ((conv=>whnf);first|(with_reducible first|refine SeqP.go ?_|refine eS24 ?_|refine eS16 ?_|refine eS8 ?_)|((with_reducible refine eAnd ?_ ?_);omega)|((with_reducible refine (?_:ObE _ _));(refine ObE.cv u5 u3 ?_))|((with_reducible refine (?_:ObQ _ _ _));(refine obq8 ?_ ?_);omega)|((with_reducible refine ObD.mk ?_ ?_);exact zD)|((with_reducible refine ObN.mk ?_ ?_);(focus (first|exact u_str|rfl|assumption|omega|(simp only [List.length_map,List.length_append,List.length_cons,List.length_nil];omega)|(simp;done)|(simp;omega))))|(with_reducible refine ObZ.mk _ rfl ?_)|((with_reducible refine ObEq.mk ?_);(focus (first|rfl|assumption|exact (by rw [hp];congr 2;simp only [IntKind.wrap_u8,IntKind.wrap_i64];omega)))))
end Go.Proofs.Ytefkaglgekjlfaa.Sim
namespace Go.Proofs.Ytefkaglgekjlfaa.Sim
open Go.RowKit
set_option maxRecDepth 100000
theorem take_iA {l:List Int}:(l.map iA).take l.length=l.map iA:=List.take_of_length_le (by simp)
theorem take_pA {l:List Pr}:(l.map pA).take l.length=l.map pA:=List.take_of_length_le (by simp)
theorem drop_rep {n:Nat} {z:AV}:(List.replicate n z).drop n=[]:=by simp
set_option maxHeartbeats 4000000 in
theorem copy37 (G:Nat→AV) (l:List Int) (hl:l.length≤40):PC Try.prog G 77 [.sl 1 (l.map iA)] (.sl 1 (l.map iA)):=by
  refine pc_of cop77 ?_
  show W _ _ _ _ ⟨_,_⟩;simp only [A77,List.cons_append,List.nil_append,List.length_cons,List.length_nil,Nat.reduceAdd,Nat.reduceSub,List.replicate]
  by_cases h0:l.length=0
  · obtain rfl := List.length_eq_zero_iff.mp h0
    simp only [List.map_nil]
    repeat (first|(with_reducible first|refine w_seq ?_|refine w_reg ?_|refine ws_nil ?_|refine q_then ?_|refine w_ret ?_|refine q_then_r ?_)|((with_reducible first|refine ks fun K hK=>?_|refine kd fun K hK=>?_|refine kc fun K hK2 hK hK3=>?_|refine ret_h fun K hR=>?_|refine ret_hh rfl fun K hR=>?_|refine ret_pp fun K hR=>?_);simp (disch:=omega) only [bg0,bg1,bg2,bg3,bg4,stepO,rsAs,eff,AX.ev,St.put,binA,conc,ap1,ofVal,Int.reduceTMod,Int.reduceTDiv,reduceCtorEq,fillA,AV.cells,AV.fine,AV.one,Nat.reduceAdd,Nat.reduceSub,Nat.reduceMul,Nat.reduceLT,Nat.reduceLeDiff,Int.reduceLT,Int.reduceLE,Int.reduceAdd,Int.reduceSub,Int.reduceNeg,Int.reduceMul,Int.reduceEq,Int.reduceToNat,nilA,moveA,live,loadA,rdA,storeA,wrA,intA,elemA,lenA,appA,srcA,isPtr,isNilPtr,partA,resOf,sliceA,cut,id,ap2,reduceIte,concs,chkB,geB,AOp.cls,AOp.xs,ltB,ltC,Nat.reduceBEq,Option.toList,List.cons_append,decide_eq_true,decide_eq_false,if_pos,if_neg,List.length_map,pA_at,iA_at,List.cons_append,bVb,bVn,eq_self,Bool.and_self,BEq.rfl,not_true_eq_false,b32e,b32n,decide_true,decide_false,not_false_eq_true,cpyA,Nat.min_self,List.length_replicate];(first|(with_reducible first|(refine hK _ ?_;clear hK K)|(refine hK ?_;clear hK hK3 K hK2)|(refine hK3 ?_;clear hK hK3 K hK2))|((with_reducible refine hR _ ?_ ?_ ?_ ?_);rotate_left 2;rfl;rfl)|((with_reducible refine hR _ ?_);rfl))))
  · repeat (first|(with_reducible first|refine w_seq ?_|refine w_reg ?_|refine w_skip ?_|refine ws_nil ?_|refine q_then ?_|refine w_ret ?_)|((with_reducible first|refine ks fun K hK=>?_|refine kd fun K hK=>?_|refine kc fun K hK2 hK hK3=>?_);simp (disch:=omega) only [bg0,bg1,bg2,bg3,bg4,stepO,rsAs,eff,AX.ev,St.put,binA,conc,ap1,ofVal,Int.reduceTMod,Int.reduceTDiv,reduceCtorEq,fillA,AV.cells,AV.fine,AV.one,Nat.reduceAdd,Nat.reduceSub,Nat.reduceMul,Nat.reduceLT,Nat.reduceLeDiff,Int.reduceLT,Int.reduceLE,Int.reduceAdd,Int.reduceSub,Int.reduceNeg,Int.reduceMul,Int.reduceEq,Int.reduceToNat,nilA,moveA,live,loadA,rdA,storeA,wrA,intA,elemA,lenA,appA,srcA,isPtr,isNilPtr,partA,resOf,sliceA,cut,id,ap2,reduceIte,concs,chkB,geB,AOp.cls,AOp.xs,ltB,ltC,Nat.reduceBEq,Option.toList,List.cons_append,decide_eq_true,decide_eq_false,if_pos,if_neg,List.length_map,pA_at,iA_at,List.cons_append,bVb,bVn,eq_self,Bool.and_self,BEq.rfl,not_true_eq_false,b32e,b32n,decide_true,decide_false,not_false_eq_true,cpyA,Nat.min_self,List.length_replicate,take_iA,drop_rep];(with_reducible first|(refine hK _ ?_;clear hK K)|(refine hK ?_;clear hK hK3 K hK2)|(refine hK3 ?_;clear hK hK3 K hK2))))
    refine ret_pp fun K hK=>?_
    simp only [rsAs,List.getD_cons_succ,List.getD_cons_zero]
    refine hK _ ?_ ?_ ?_ ?_
    rotate_left 2
    simp only [purA,pur,purC,List.getElem?_cons_zero,List.length_map,take_iA,Nat.le_refl,and_self,and_true,true_and]
    rw [if_pos (all_iA _)]
    rfl
set_option maxHeartbeats 4000000 in
theorem copy38 (G:Nat→AV) (l:List Pr) (hl:l.length≤40):PC Try.prog G 49 [.sl 2 (l.map pA)] (.sl 2 (l.map pA)):=by
  refine pc_of cop49 ?_
  show W _ _ _ _ ⟨_,_⟩;simp only [A49,List.cons_append,List.nil_append,List.length_cons,List.length_nil,Nat.reduceAdd,Nat.reduceSub,List.replicate]
  by_cases h0:l.length=0
  · obtain rfl := List.length_eq_zero_iff.mp h0
    simp only [List.map_nil]
    repeat (first|(with_reducible first|refine w_seq ?_|refine w_reg ?_|refine ws_nil ?_|refine q_then ?_|refine w_ret ?_|refine q_then_r ?_)|((with_reducible first|refine ks fun K hK=>?_|refine kd fun K hK=>?_|refine kc fun K hK2 hK hK3=>?_|refine ret_h fun K hR=>?_|refine ret_hh rfl fun K hR=>?_|refine ret_pp fun K hR=>?_);simp (disch:=omega) only [bg0,bg1,bg2,bg3,bg4,stepO,rsAs,eff,AX.ev,St.put,binA,conc,ap1,ofVal,Int.reduceTMod,Int.reduceTDiv,reduceCtorEq,fillA,AV.cells,AV.fine,AV.one,Nat.reduceAdd,Nat.reduceSub,Nat.reduceMul,Nat.reduceLT,Nat.reduceLeDiff,Int.reduceLT,Int.reduceLE,Int.reduceAdd,Int.reduceSub,Int.reduceNeg,Int.reduceMul,Int.reduceEq,Int.reduceToNat,nilA,moveA,live,loadA,rdA,storeA,wrA,intA,elemA,lenA,appA,srcA,isPtr,isNilPtr,partA,resOf,sliceA,cut,id,ap2,reduceIte,concs,chkB,geB,AOp.cls,AOp.xs,ltB,ltC,Nat.reduceBEq,Option.toList,List.cons_append,decide_eq_true,decide_eq_false,if_pos,if_neg,List.length_map,pA_at,iA_at,List.cons_append,bVb,bVn,eq_self,Bool.and_self,BEq.rfl,not_true_eq_false,b32e,b32n,decide_true,decide_false,not_false_eq_true,cpyA,Nat.min_self,List.length_replicate];(first|(with_reducible first|(refine hK _ ?_;clear hK K)|(refine hK ?_;clear hK hK3 K hK2)|(refine hK3 ?_;clear hK hK3 K hK2))|((with_reducible refine hR _ ?_ ?_ ?_ ?_);rotate_left 2;rfl;rfl)|((with_reducible refine hR _ ?_);rfl))))
  · repeat (first|(with_reducible first|refine w_seq ?_|refine w_reg ?_|refine w_skip ?_|refine ws_nil ?_|refine q_then ?_|refine w_ret ?_)|((with_reducible first|refine ks fun K hK=>?_|refine kd fun K hK=>?_|refine kc fun K hK2 hK hK3=>?_);simp (disch:=omega) only [bg0,bg1,bg2,bg3,bg4,stepO,rsAs,eff,AX.ev,St.put,binA,conc,ap1,ofVal,Int.reduceTMod,Int.reduceTDiv,reduceCtorEq,fillA,AV.cells,AV.fine,AV.one,Nat.reduceAdd,Nat.reduceSub,Nat.reduceMul,Nat.reduceLT,Nat.reduceLeDiff,Int.reduceLT,Int.reduceLE,Int.reduceAdd,Int.reduceSub,Int.reduceNeg,Int.reduceMul,Int.reduceEq,Int.reduceToNat,nilA,moveA,live,loadA,rdA,storeA,wrA,intA,elemA,lenA,appA,srcA,isPtr,isNilPtr,partA,resOf,sliceA,cut,id,ap2,reduceIte,concs,chkB,geB,AOp.cls,AOp.xs,ltB,ltC,Nat.reduceBEq,Option.toList,List.cons_append,decide_eq_true,decide_eq_false,if_pos,if_neg,List.length_map,pA_at,iA_at,List.cons_append,bVb,bVn,eq_self,Bool.and_self,BEq.rfl,not_true_eq_false,b32e,b32n,decide_true,decide_false,not_false_eq_true,cpyA,Nat.min_self,List.length_replicate,take_pA,drop_rep];(with_reducible first|(refine hK _ ?_;clear hK K)|(refine hK ?_;clear hK hK3 K hK2)|(refine hK3 ?_;clear hK hK3 K hK2))))
    refine ret_pp fun K hK=>?_
    simp only [rsAs,List.getD_cons_succ,List.getD_cons_zero]
    refine hK _ ?_ ?_ ?_ ?_
    rotate_left 2
    simp only [purA,pur,purC,List.getElem?_cons_zero,List.length_map,take_pA,Nat.le_refl,and_self,and_true,true_and]
    rw [if_pos (all_pA _)]
    rfl
def few (l:List Pr):List Pr:=(l.take (min l.length 40)).map fun p=>(cutB p.1 40,cutB p.2 40)
theorem cutB_size (s:ByteArray):(cutB s 40).size≤40:=by simp [cutB];omega
theorem few_len (l:List Pr):(few l).length≤40:=by simp [few];omega
theorem few_sizes {l:List Pr}:∀ p ∈ few l,p.1.size≤40∧p.2.size≤40:=by
  intro p hp
  unfold few at hp
  obtain ⟨q,hq,rfl⟩:=List.mem_map.1 hp
  exact ⟨cutB_size _,cutB_size _⟩
end Go.Proofs.Ytefkaglgekjlfaa.Sim
namespace Go.Proofs.Ytefkaglgekjlfaa.Sim
open Go.RowKit
set_option maxRecDepth 100000
def sh (m k:Nat):Nat:=m / 2 ^ k
theorem sh_zero (m:Nat):m=sh m 0:=by simp [sh]
theorem sh_succ (m k:Nat):sh m k / 2=sh m (k+1):=by unfold sh;rw [Nat.div_div_eq_div_mul,Nat.pow_succ]
theorem sh_le (m k:Nat):sh m k≤m:=Nat.div_le_self _ _
theorem sh_bit (m k:Nat):m.testBit k=decide (sh m k % 2=1):=Mk.bit_div m k
theorem has55 (G:Nat→AV) (m i:Nat) (hm:m < 4294967296) (hi:i < 32):PC Try.prog G 71 [.v (.int .u32 (m:Int)),I i] (Bo (m.testBit i)):=by
  refine pc_ofV cop71 ?_
  repeat' ((conv=>whnf);first|(with_reducible refine SeqP.go ?_))
  conv=>whnf
  refine LoopP.go (α:=Nat) (fun k=>k≤32∧(i < k→m.testBit i=false)) (fun k=>32 - k) (fun k=>[(0,some (.v (.int .u32 ((sh m k:Nat):Int)))),(3,none),(0,some (I k)),(0,none),(0,none),(0,none),(0,none),(0,none),(0,none),(0,none),(0,none),(0,none),(0,none),(0,none),(0,none),(0,none),(0,none)]) (fun _=>[]) 0 ⟨by omega,fun h=>by omega⟩ (Fg.go ?_ rfl) ?_
  · have := sh_zero m
    repeat' ((conv=>whnf);first|((with_reducible refine ObEqs.mk ?_ ?_);rfl)|((with_reducible refine ObEq1.i ?_ ?_);exact zF)|exact True.intro)
  rintro k ⟨h1,h2⟩
  have hs:=sh_succ m k
  have hle:=sh_le m k
  have hb:=sh_bit m i
  by_cases hk:k < 32
  · by_cases hi2 : k = i
    · subst hi2
      by_cases hbit:sh m k % 2=1
      · have hr : m.testBit k = true := by rw [hb]; simp [hbit]
        rw [hr]
        repeat' ((conv=>whnf);first|(with_reducible first|refine SeqP.go ?_|refine eRem2 ?_)|((with_reducible refine ObN.mk ?_ ?_);exact zN)|(with_reducible refine ObT.tt ?_)|((with_reducible refine ObB.yes ?_ ?_);exact zB)|((with_reducible refine ObEq.mk ?_);exact zE))
      · have hr : m.testBit k = false := by rw [hb]; simp [hbit]
        rw [hr]
        repeat' ((conv=>whnf);first|(with_reducible first|refine SeqP.go ?_|refine eRem2 ?_)|((with_reducible refine eQuo2 ?_ ?_);omega)|((with_reducible refine ObN.mk ?_ ?_);exact zN)|(with_reducible first|refine ObT.tt ?_|refine ObT.ff ?_)|((with_reducible refine ObB.yes ?_ ?_);exact zB)|((with_reducible refine ObB.no ?_ ?_);exact zC)|((with_reducible refine ObI.nl ?_ ?_);omega))
        conv=>whnf
        refine Again.mk (k+1) ?_ ?_ (Fg.go ?_ rfl)
        · exact ⟨by omega,fun _=>by first|rfl|exact hr⟩
        · omega
        repeat' ((conv=>whnf);first|((with_reducible refine ObEqs.mk ?_ ?_);rfl)|((with_reducible refine ObEq1.i ?_ ?_);exact zF)|exact True.intro)
    · repeat' ((conv=>whnf);first|(with_reducible first|refine SeqP.go ?_|refine eRem2 ?_)|((with_reducible refine eQuo2 ?_ ?_);omega)|((with_reducible refine ObN.mk ?_ ?_);exact zN)|(with_reducible first|refine ObT.tt ?_|refine ObT.ff ?_)|((with_reducible refine ObB.yes ?_ ?_);exact zB)|((with_reducible refine ObB.no ?_ ?_);exact zC)|(with_reducible refine ObB.mk (fun h=>?_) (fun h=>?_))|((with_reducible refine ObI.nl ?_ ?_);omega))
      all_goals
        conv=>whnf
        refine Again.mk (k+1) ?_ ?_ (Fg.go ?_ rfl)
        · exact ⟨by omega,fun _=>h2 (by omega)⟩
        · omega
        repeat' ((conv=>whnf);first|((with_reducible refine ObEqs.mk ?_ ?_);rfl)|((with_reducible refine ObEq1.i ?_ ?_);exact zF)|exact True.intro)
  · have hr := h2 (by omega)
    rw [hr]
    repeat' ((conv=>whnf);first|(with_reducible refine SeqP.go ?_)|((with_reducible refine ObN.mk ?_ ?_);exact zN)|(with_reducible refine ObT.ff ?_)|((with_reducible refine ObB.no ?_ ?_);exact zC)|((with_reducible refine ObEq.mk ?_);exact zE))
theorem snoc_iA {l:List Int} {x:Int}:(l.map iA).take l.length++[.v (.int .i64 x)]=(l++[x]).map iA:=by
  rw [List.take_of_length_le (by simp)];simp [iA]
theorem nr_iA (l:List Int):(l.map iA).all nrB=true:=by simp [iA,nrB,AV.cells]
def upI (m i:Nat):List Int:=(Mk.upTo m i).map Int.ofNat
theorem upI_len (m i:Nat):(upI m i).length≤i:=by simp [upI,Mk.upTo_len]
theorem all46 (G:Nat→AV) (m:Nat) (hm:m < 4294967296):PC Try.prog G 56 [.v (.int .u32 (m:Int))] (.sl 1 ((upI m 32).map iA)):=by
  refine pc_ofV cop56 ?_
  repeat' ((conv=>whnf);first|(with_reducible refine SeqP.go ?_)|((with_reducible refine ObD.mk ?_ ?_);exact zD))
  conv=>whnf
  refine LoopP.go (α:=Nat × List Int) (fun p=>p.1≤32∧p.2=upI m p.1) (fun p=>32 - p.1) (fun p=>[(3,some (.ol 0 0 p.2.length)),(0,some (I p.1)),(0,none),(0,none),(0,none),(0,none),(0,none),(0,none),(0,none),(0,none),(0,none),(0,none),(0,none),(0,none)]) (fun p=>[⟨3,1,p.2.map iA,0,0⟩]) (0,[]) ⟨by decide,rfl⟩ (Fg.go ?_ rfl) ?_
  · repeat' ((conv=>whnf);first|((with_reducible refine ObEqs.mk ?_ ?_);rfl)|((with_reducible refine ObEq1.i ?_ ?_);exact zF)|((with_reducible refine ObEq1.mk ?_ ?_);exact zE)|exact True.intro)
  rintro ⟨i,l⟩ ⟨h1,h2⟩
  dsimp only at h1 h2 ⊢
  have hl:=upI_len m i
  rw [← h2] at hl
  by_cases hi:i < 32
  · have hc := has55 G m i hm hi
    have hs:upI m (i+1)=if m.testBit i then l++[(i:Int)] else l:=by
      rw [h2];unfold upI;rw [Mk.upTo_succ];split<;>simp
    cases hb:m.testBit i with
    | false =>
      rw [hb] at hc hs
      repeat' ((conv=>whnf);first|(with_reducible refine SeqP.go ?_)|((with_reducible refine ObN.mk ?_ ?_);exact zN)|(with_reducible first|refine ObT.tt ?_|refine ObT.ff ?_)|((with_reducible refine ObB.yes ?_ ?_);exact zB)|((with_reducible refine ObI.nl ?_ ?_);omega)|((with_reducible refine ObC.f 71 ?_);(first|(with_reducible refine ObC.mk _ (hc) ?_)|(refine ObC.mk _ (hc) ?_))))
      conv=>whnf
      refine Again.mk (i+1,l) ?_ ?_ (Fg.go ?_ rfl)
      · exact ⟨by dsimp only;omega,by simpa using hs.symm⟩
      · dsimp only;omega
      repeat' ((conv=>whnf);first|((with_reducible refine ObEqs.mk ?_ ?_);rfl)|((with_reducible refine ObEq1.i ?_ ?_);exact zF)|((with_reducible refine ObEq1.o ?_ ?_);exact zF)|exact True.intro)
    | true =>
      rw [hb] at hc hs
      have hn:=nr_iA (l++[(i:Int)])
      repeat' ((conv=>whnf);first|(with_reducible refine SeqP.go ?_)|((with_reducible refine ObD.mk ?_ ?_);exact zD)|((with_reducible refine ObN.mk ?_ ?_);exact zN)|(with_reducible refine ObT.tt ?_)|((with_reducible refine ObB.yes ?_ ?_);exact zB)|((with_reducible refine ObI.nl ?_ ?_);omega)|((with_reducible refine (?_:ObL _ _));(refine ObL.mk _ zL ?_))|((with_reducible refine (?_:ObU _ _));(refine ObU.mk _ (by first|exact snoc_iA|assumption|((conv=>lhs;simp only [List.set_cons_zero,List.set_cons_succ,List.take_succ_cons,List.take_zero,List.drop_succ_cons,List.drop_zero,List.nil_append,List.cons_append,List.append_nil,List.take_nil,List.drop_nil]);try rfl)|rfl) ?_))|((with_reducible refine ObC.f 71 ?_);(first|(with_reducible refine ObC.mk _ (hc) ?_)|(refine ObC.mk _ (hc) ?_))))
      conv=>whnf
      refine Again.mk (i+1,l++[(i:Int)]) ?_ ?_ (Fg.vw [(0,0,1)] ?_ ?_ (by decide) ?_)
      · exact ⟨by dsimp only;omega,by simpa using hs.symm⟩
      · dsimp only;omega
      · repeat' ((conv=>whnf);first|((with_reducible refine ObRn.mk ?_ ?_);(focus (first|rfl|(simp [rnB,rnC,rnL];done))))|((with_reducible refine ObEqs.mk ?_ ?_);rfl)|exact True.intro)
      · repeat' ((conv=>whnf);first|((with_reducible refine ObN.mk ?_ ?_);exact zN)|((with_reducible refine ObRow.same ?_ ?_ ?_);exact zE;(focus (first|rfl|assumption|(simp;done))))|exact True.intro)
      · trivial
  · obtain rfl : i = 32 := by omega
    rw [← h2]
    repeat' ((conv=>whnf);first|(with_reducible refine SeqP.go ?_)|((with_reducible refine ObN.mk ?_ ?_);(focus (first|exact (by first|exact all_iA _|(rw [take_iA];exact all_iA _))|rfl|assumption|omega|(simp only [List.length_map,List.length_append,List.length_cons,List.length_nil];omega)|(simp;done)|(simp;omega))))|(with_reducible refine ObT.ff ?_)|((with_reducible refine ObB.no ?_ ?_);exact zC)|((with_reducible refine (?_:ObU _ _));(refine ObU.mk _ (by first|exact take_iA|assumption|((conv=>lhs;simp only [List.set_cons_zero,List.set_cons_succ,List.take_succ_cons,List.take_zero,List.drop_succ_cons,List.drop_zero,List.nil_append,List.cons_append,List.append_nil,List.take_nil,List.drop_nil]);try rfl)|rfl) ?_))|((with_reducible refine ObEq.mk ?_);exact zE))
end Go.Proofs.Ytefkaglgekjlfaa.Sim
namespace Go.Proofs.Ytefkaglgekjlfaa
open Go.RowKit
theorem add_block (a:Addr) (n:Nat):(a.add n).block=a.block:=by
  unfold Addr.add;by_cases h:n=0<;>simp [h]
theorem add_add (a:Addr) (i j:Nat):(a.add i).add j=a.add (i+j):=by
  unfold Addr.add
  by_cases hi:i=0
  · by_cases hj:j=0<;>simp [hi,hj]
  · by_cases hj:j=0<;>simp [hi,hj,Nat.add_assoc]
def Rd (w:World) (B:Nat) (A:Option Addr) (xs:List Value):Prop :=
  xs ≠ []→∃ ad,A=some ad∧ad.block < B∧∀ (j:Nat) (u:Value),xs[j]? = some u→w.cell? (ad.add j)=some u
section
variable {w w':World} {B B':Nat} {A:Option Addr} {xs:List Value}
theorem Rd.nil:Rd w B A []:=fun h=>absurd rfl h
theorem Rd.at_ (h:Rd w B A xs) {k:Nat} (hk:k < xs.length):∃ ad,A=some ad∧ad.block < B∧w.cell? (ad.add k)=some xs[k]:=by
  obtain ⟨ad,e,hb,hc⟩:=h (fun e=>by simp [e] at hk)
  exact ⟨ad,e,hb,hc k _ (List.getElem?_eq_getElem hk)⟩
theorem Rd.spot (h:Rd w B A xs) (hn:xs ≠ []):∃ b off,A=some ⟨b,off,none⟩∧b < B∧∀ (k:Nat) (hk:k < xs.length),w.cell? ⟨b,off+k,none⟩=some xs[k]:=by
  obtain ⟨⟨b,off,sp⟩,rfl,hb,hc⟩:=h hn
  have h0:0 < xs.length:=List.length_pos_iff.2 hn
  have hs:=World.cell?_spot (hc 0 _ (List.getElem?_eq_getElem h0))
  have hs2:sp=none:=by simpa [Addr.add] using hs
  subst hs2
  refine ⟨b,off,rfl,hb,fun k hk=>?_⟩
  have:=hc k _ (List.getElem?_eq_getElem hk)
  by_cases hk0:k=0
  · subst hk0;simpa [Addr.add] using this
  · simpa [Addr.add,hk0] using this
theorem Rd.keep (h:Rd w B A xs) (hk:∀ p:Addr,p.block < B→w'.cell? p=w.cell? p):Rd w' B A xs:=fun hn=>by
  obtain ⟨ad,e,hb,hc⟩:=h hn
  exact ⟨ad,e,hb,fun j u hu=>by rw [hk _ (by rw [add_block];exact hb)];exact hc j u hu⟩
theorem Rd.mono (h:Rd w B A xs) (hB:B≤B'):Rd w B' A xs:=fun hn=>by
  obtain ⟨ad,e,hb,hc⟩:=h hn
  exact ⟨ad,e,Nat.lt_of_lt_of_le hb hB,hc⟩
theorem Rd.below (h:Rd w B A xs) (hb:Below B w w'):Rd w' B A xs:=h.keep fun _ hp=>hb.cell hp
theorem Rd.drewN (h:Rd w B A xs) (k:Nat):Rd (w.drewN k) B A xs:=h
theorem Rd.drawn (h:Rd w B A xs) (hd:Drawn w w'):Rd w' B A xs:=by
  obtain ⟨n,rfl⟩:=hd
  exact h
theorem Rd.alloc (h:Rd w B A xs) (hB:B≤w.heap.size) (o:Obj):Rd (w.alloc o) B A xs :=
  h.keep fun p hp=>World.cell?_alloc_lt w o p (Nat.lt_of_lt_of_le hp hB)
theorem Rd.setCell (h:Rd w B A xs) {p:Addr} (hB:B≤p.block) (u:Value):Rd (w.setCell p u) B A xs :=
  h.keep fun q hq=>World.cell?_setCell_other w p q u (fun e=>by subst e;omega)
theorem Rd.take (h:Rd w B A xs) (n:Nat):Rd w B A (xs.take n):=fun hn=>by
  obtain ⟨ad,e,hb,hc⟩:=h (fun e=>hn (by simp [e]))
  exact ⟨ad,e,hb,fun j u hu=>hc j u (by
    rw [List.getElem?_take] at hu
    split at hu
    · exact hu
    · cases hu)⟩
theorem Rd.drop (h:Rd w B A xs) (n:Nat):Rd w B (A.map (·.add n)) (xs.drop n):=fun hn=>by
  obtain ⟨ad,rfl,hb,hc⟩:=h (fun e=>hn (by simp [e]))
  refine ⟨ad.add n,rfl,by rw [add_block];exact hb,fun j u hu=>?_⟩
  rw [add_add]
  exact hc _ u (by rw [← hu,List.getElem?_drop])
theorem Rd.grown (h:Rd w B A xs) {row:Option Nat} (hg:w.grownBy w' row) (hB:B≤w.heap.size) (hr:∀ g,row=some g→B≤g):Rd w' B A xs :=
  h.keep fun p hp=>World.cell?_of_block (hg.block p.block (by omega) (fun e=>by have:=hr _ e.symm;omega))
theorem Rd.own {base size n c:Nat} {e:TypeId} (h:w.ownsRow base e size (.slice A n c) n xs):Rd w w.heap.size A xs:=fun hn=>by
  rcases h.2 with ⟨_,h0⟩|⟨g,cap,cur,hv,_,hheap,_⟩
  · subst h0
    exact absurd (List.eq_nil_of_length_eq_zero (by simpa using h.1)) hn
  · have hA : A = some ⟨g, 0, none⟩ := by injection hv
    subst hA
    have hlt:g < w.heap.size:=by
      rcases Nat.lt_or_ge g w.heap.size with hh|hh
      · exact hh
      · rw [Array.getElem?_eq_none hh] at hheap;cases hheap
    exact ⟨_,rfl,hlt,h.cells (g:=g) rfl⟩
end
section
variable {P:Program} (w:World)
end
theorem lt_of_cell {w:World} {a:Addr} {v:Value} (h:w.cell? a=some v):a.block < w.heap.size:=by
  rcases Nat.lt_or_ge a.block w.heap.size with hh|hh
  · exact hh
  · unfold World.cell? at h;rw [Array.getElem?_eq_none hh] at h;cases h
def iv (zs:List Int):List Value:=zs.map (Value.int .i64)
end Go.Proofs.Ytefkaglgekjlfaa
namespace Go.Proofs.Ytefkaglgekjlfaa.Mk
open Go.RowKit
def I64 (a:Int):Prop:=-9223372036854775808≤a∧a≤9223372036854775807
def U32 (m:Nat):Prop:=m < 4294967296
def has (m:Nat) (i:Int):Bool:=decide (0≤i∧i < 32) && m.testBit i.toNat
theorem inRange_calls (i:Int) (w:World) (hi:I64 i):Calls Try.prog 63 #[.int .i64 i] w (Quiet (.bool (decide (0≤i∧i < 32))) w):=by
  unfold I64 at hi
  by_cases h1:0≤i
  · by_cases h2 : i < 32
    · rw [decide_eq_true ⟨h1, h2⟩]
      go_enter Try.func63,Try.ntmps63
      go_wp2
      all_goals
        go_ret
        exact ⟨rfl,Drawn.refl _⟩
    · rw [decide_eq_false (by omega)]
      go_enter Try.func63,Try.ntmps63
      go_wp2
      all_goals
        go_ret
        exact ⟨rfl,Drawn.refl _⟩
  · rw [decide_eq_false (by omega)]
    go_enter Try.func63,Try.ntmps63
    go_wp2
    all_goals
      go_ret
      exact ⟨rfl,Drawn.refl _⟩
theorem bit_and (m k:Nat) (hm:m < 4294967296):bits .and .u32 ((m:Int) / 2 ^ k) 1=if m.testBit k then 1 else 0:=by
  have e:((m:Int) / 2 ^ k)=((m / 2 ^ k:Nat):Int):=by rw [Int.natCast_ediv];norm_cast
  have hd:m / 2 ^ k≤m:=Nat.div_le_self _ _
  rw [e,show (1:Int)=((1:Nat):Int) from rfl,u32_and_nat _ _ (by omega) (by omega),Nat.and_one_is_mod,bit_div]
  by_cases h:m / 2 ^ k % 2=1
  · rw [h];simp
  · have : m / 2 ^ k % 2 = 0 := by omega
    rw [this];simp
theorem Has_calls (m:Nat) (i:Int) (w:World) (hm:U32 m) (hi:I64 i):Calls Try.prog 44 #[.int .u32 m,.int .i64 i] w (Quiet (.bool (has m i)) w):=by
  have k1:=fun w=>Lib.hid (inRange_calls i w hi)
  unfold I64 at hi
  unfold U32 at hm
  unfold has
  by_cases h:0≤i∧i < 32
  · rw [decide_eq_true h] at k1 ⊢
    obtain ⟨k,rfl⟩:=Int.eq_ofNat_of_zero_le h.1
    have hk:k < 32:=by omega
    have e:=bit_and m k hm
    rw [show ((k:Int)).toNat=k by omega]
    generalize m.testBit k=b at *
    cases b
    · simp only [Bool.false_eq_true, if_false] at e
      go_enter Try.func44,Try.ntmps44
      go_wp2_with (go_at_call 63;(with_reducible refine ((k1 _).out).mono ?_);rintro e w' ⟨rfl,q,rfl⟩)
      go_ret
      exact ⟨rfl,⟨_,rfl⟩⟩
    · simp only [if_true] at e
      go_enter Try.func44,Try.ntmps44
      go_wp2_with (go_at_call 63;(with_reducible refine ((k1 _).out).mono ?_);rintro e w' ⟨rfl,q,rfl⟩)
      go_ret
      exact ⟨rfl,⟨_,rfl⟩⟩
  · rw [decide_eq_false h] at k1 ⊢
    clear h
    go_enter Try.func44,Try.ntmps44
    go_wp2_with (go_at_call 63;(with_reducible refine ((k1 _).out).mono ?_);rintro e w' ⟨rfl,q,rfl⟩)
    go_ret
    exact ⟨rfl,⟨_,rfl⟩⟩
theorem two_sub:∀ c:Nat,c < 33→((2:Int) ^ c % 4294967296 - 1) % 4294967296=((2 ^ c - 1:Nat):Int):=by decide +kernel
theorem below_calls (i:Int) (w:World) (hi:I64 i):Calls Try.prog 65 #[.int .i64 i] w (Quiet (.int .u32 ((2 ^ clamp i - 1:Nat):Int)) w):=by
  unfold I64 at hi
  rcases Int.lt_or_le i 0 with h|h
  · have e : clamp i = 0 := by unfold clamp; omega
    rw [e]
    go_enter Try.func65,Try.ntmps65
    go_wp2
    go_ret
    exact ⟨rfl,Drawn.refl _⟩
  rcases Int.lt_or_le 32 i with h2|h2
  · have e : clamp i = 32 := by unfold clamp; omega
    rw [e]
    go_enter Try.func65,Try.ntmps65
    go_wp2
    go_ret
    exact ⟨rfl,Drawn.refl _⟩
  · have e : clamp i = i.toNat := by unfold clamp; omega
    rw [e]
    have E:=Lib.hid (two_sub i.toNat (by omega))
    clear e
    go_enter Try.func65,Try.ntmps65
    go_wp2
    go_ret
    exact ⟨ret_int E.out,Drawn.refl _⟩
theorem tab_is:(⟨(([0,1,1,2,1,2,2,3,1,2,2,3,2,3,3,4,1,2,2,3,2,3,3,4,2,3,3,4,3,4,4,5,1,2,2,3,2,3,3,4,2,3,3,4,3,4,4,5,2,3,3,4,3,4,4,5,3,4,4,5,4,5,5,6].append [1,2,2,3,2,3,3,4,2,3,3,4,3,4,4,5,2,3,3,4,3,4,4,5,3,4,4,5,4,5,5,6,2,3,3,4,3,4,4,5,3,4,4,5,4,5,5,6,3,4,4,5,4,5,5,6,4,5,5,6,5,6,6,7]).append ([1,2,2,3,2,3,3,4,2,3,3,4,3,4,4,5,2,3,3,4,3,4,4,5,3,4,4,5,4,5,5,6,2,3,3,4,3,4,4,5,3,4,4,5,4,5,5,6,3,4,4,5,4,5,5,6,4,5,5,6,5,6,6,7].append [2,3,3,4,3,4,4,5,3,4,4,5,4,5,5,6,3,4,4,5,4,5,5,6,4,5,5,6,5,6,6,7,3,4,4,5,4,5,5,6,4,5,5,6,5,6,6,7,4,5,5,6,5,6,6,7,5,6,6,7,6,7,7,8])).toArray⟩:ByteArray)=Go.Lib.pop8tab:=by kernel_rfl
theorem pop_pc:∀ k:Nat,k < 256→Go.Lib.pop8 (k:Int)=(pc k:Int):=by decide +kernel
theorem u32_byte (m s:Nat) (hm:m < 4294967296):bits .and .u32 ((m / s:Nat):Int) 255=((m / s % 256:Nat):Int):=by
  have hd:m / s≤m:=Nat.div_le_self _ _
  rw [show (255:Int)=((255:Nat):Int) from rfl,u32_and_nat _ _ (by omega) (by omega)]
  rw [show (255:Nat)=2 ^ 8 - 1 from rfl,Nat.and_two_pow_sub_one_eq_mod]
set_option maxRecDepth 100000 in
theorem OnesCount_calls (m:Nat) (w:World) (hm:U32 m):Calls Try.prog 78 #[.int .u32 m] w (Quiet (.int .i64 ((all m).length:Nat)) w):=by
  unfold U32 at hm
  have e0:(m:Int) / 16777216=((m / 16777216 % 256:Nat):Int):=by omega
  have e1:bits .and .u32 ((m:Int) / 65536) 255=((m / 65536 % 256:Nat):Int):=by
    rw [← u32_byte m 65536 hm];rfl
  have e2:bits .and .u32 ((m:Int) / 256) 255=((m / 256 % 256:Nat):Int):=by
    rw [← u32_byte m 256 hm];rfl
  have e3:bits .and .u32 (m:Int) 255=((m % 256:Nat):Int):=by
    have:=u32_byte m 1 hm
    rwa [Nat.div_one] at this
  have hp:=pop_all m
  have ix:∀ k:Nat,k < 256→∀ w,(Instr.index 9 (.string Go.Lib.pop8tab) (.int .u32 (k:Int))).run Try.prog w = .ok (.int .u8 (pc k:Int)) w:=fun k hk w=>by
    rw [Go.Lib.run_index_pop8tab w _ _ _ Try.underlying9 (by omega) (by omega),pop_pc k hk]
  have i0:=ix (m / 16777216 % 256) (Nat.mod_lt _ (by omega))
  have i1:=ix (m / 65536 % 256) (Nat.mod_lt _ (by omega))
  have i2:=ix (m / 256 % 256) (Nat.mod_lt _ (by omega))
  have i3:=ix (m % 256) (Nat.mod_lt _ (by omega))
  have l0:=pc_le (m / 16777216 % 256)
  have l1:=pc_le (m / 65536 % 256)
  have l2:=pc_le (m / 256 % 256)
  have l3:=pc_le (m % 256)
  generalize m / 16777216 % 256=A at *
  generalize m / 65536 % 256=B at *
  generalize m / 256 % 256=C at *
  generalize m % 256=D at *
  clear ix
  generalize pc A=pA at *
  generalize pc B=pB at *
  generalize pc C=pC at *
  generalize pc D=pD at *
  have HP:=Lib.hid hp
  clear hp
  go_enter Try.func78,Try.ntmps78
  rw [tab_is]
  go_wp2
  go_quiet (fail)
  go_wp2
  go_ret
  exact ⟨ret_int (by rw [HP.out];omega),⟨_,rfl⟩⟩
theorem Count_calls (m:Nat) (w:World) (hm:U32 m):Calls Try.prog 64 #[.int .u32 m] w (Quiet (.int .i64 ((all m).length:Nat)) w):=by
  have k1:=fun w=>Lib.hid (OnesCount_calls m w hm)
  generalize (all m).length=n at *
  go_enter Try.func64,Try.ntmps64
  go_wp2_with (go_at_call 78;(with_reducible refine (k1 _).out.mono ?_);rintro e w' ⟨rfl,q,rfl⟩)
  go_ret
  exact ⟨rfl,⟨_,rfl⟩⟩
theorem Place_calls (m:Nat) (i:Int) (w:World) (hm:U32 m) (hi:I64 i):Calls Try.prog 45 #[.int .u32 m,.int .i64 i] w (Quiet (.int .i64 (place m i:Nat)) w):=by
  have k1:=fun w=>Lib.hid (below_calls i w hi)
  have hb:2 ^ clamp i - 1 < 4294967296:=by
    have:=Nat.pow_le_pow_right (n:=2) (by omega) (clamp_le i)
    omega
  have hm2:m &&& (2 ^ clamp i - 1) < 4294967296:=Nat.lt_of_le_of_lt Nat.and_le_left hm
  have k2:=fun w=>Lib.hid (Count_calls (m &&& (2 ^ clamp i - 1)) w hm2)
  have e:=u32_and_nat m (2 ^ clamp i - 1) hm hb
  rw [place_low] at k2
  generalize place m i=n at *
  generalize m &&& (2 ^ clamp i - 1)=x at *
  generalize 2 ^ clamp i - 1=y at *
  unfold U32 at hm
  go_enter Try.func45,Try.ntmps45
  go_wp2_with (first|(go_at_call 65;(with_reducible refine ((k1 _).out).mono ?_);rintro e w' ⟨rfl,q,rfl⟩)|(go_at_call 64;(with_reducible refine ((k2 _).out).mono ?_);rintro e w' ⟨rfl,q,rfl⟩))
  go_ret
  exact ⟨rfl,⟨_,rfl⟩⟩
end Go.Proofs.Ytefkaglgekjlfaa.Mk
namespace Go.Proofs.Ytefkaglgekjlfaa.Sim
open Go.RowKit
set_option maxRecDepth 100000
def kz (a:List Int):List Int:=a.filter fun x=>decide (x ≠ 0)
def ps (a:List Int) (n:Nat):List Nat:=(List.range n).filter fun i=>decide (a.getD i 0 ≠ 0)
def bm (a:List Int):Nat:=Mk.mk ((ps a 32).map Int.ofNat) 32
theorem mem_ps {a:List Int} {n i:Nat}:i ∈ ps a n↔i < n∧a.getD i 0 ≠ 0:=by simp [ps]
theorem bit_bm (a:List Int) (j:Nat):(bm a).testBit j=(decide (j < 32) && decide (a.getD j 0 ≠ 0)):=by
  unfold bm
  rw [Mk.mk_bit]
  by_cases h:j < 32
  · have : ((j : Int) ∈ (ps a 32).map Int.ofNat) ↔ a.getD j 0 ≠ 0 := by
      constructor
      · intro hm
        obtain ⟨k,hk,e⟩:=List.mem_map.1 hm
        have:k=j:=Int.ofNat.inj e
        subst this
        exact (mem_ps.1 hk).2
      · intro hn
        exact List.mem_map.2 ⟨j,mem_ps.2 ⟨h,hn⟩,rfl⟩
    simp only [decide_eq_true h,Bool.true_and]
    exact decide_eq_decide.2 this
  · simp [h]
theorem bm_lt (a:List Int):bm a < 4294967296:=Mk.mk_lt _ 32
theorem eq_bm {m:Nat} {a:List Int} (hm:m < 4294967296) (h:∀ j,j < 32→m.testBit j=decide (a.getD j 0 ≠ 0)):m=bm a:=by
  apply Nat.eq_of_testBit_eq
  intro j
  rw [bit_bm]
  by_cases hj:j < 32
  · rw [h j hj];simp [hj]
  · rw [Mk.big m hm j hj];simp [hj]
theorem up_ps (a:List Int) (n:Nat) (hn:n≤32):Mk.upTo (bm a) n=ps a n:=by
  unfold Mk.upTo ps
  apply List.filter_congr
  intro i hi
  have:i < 32:=by have:=List.mem_range.1 hi;omega
  rw [bit_bm];simp [this]
theorem ps_succ (a:List Int) (n:Nat):ps a (n+1)=ps a n++if a.getD n 0 ≠ 0 then [n] else []:=by
  unfold ps
  rw [List.range_succ,List.filter_append]
  congr 1
  simp only [List.filter_cons,List.filter_nil]
  by_cases h:a.getD n 0 ≠ 0<;>simp [h]
theorem kz_succ (a:List Int) (n:Nat) (h:n < a.length):kz (a.take (n+1))=kz (a.take n)++if a.getD n 0 ≠ 0 then [a.getD n 0] else []:=by
  unfold kz
  rw [List.take_succ_eq_append_getElem h,List.filter_append]
  congr 1
  have e:a.getD n 0=a[n]:=by simp [h]
  rw [e]
  simp only [List.filter_cons,List.filter_nil]
  by_cases h:a[n] ≠ 0<;>simp [h]
theorem kz_ps (a:List Int):∀ n,n≤a.length→(kz (a.take n)).length=(ps a n).length
  | 0,_=>by simp [kz,ps]
  | n+1,h=>by
    rw [kz_succ a n (by omega),ps_succ,List.length_append,List.length_append,kz_ps a n (by omega)]
    split<;>rfl
theorem kz_split (a:List Int) (i:Nat) (h:i < a.length):kz a=kz (a.take i)++((if a.getD i 0 ≠ 0 then [a.getD i 0] else [])++kz (a.drop (i+1))):=by
  rw [← List.append_assoc,← kz_succ a i h]
  unfold kz
  rw [← List.filter_append,List.take_append_drop]
theorem kz_len (a:List Int):(kz a).length≤a.length:=List.length_filter_le ..
theorem up_split (m c:Nat):∀ d,∃ R,Mk.upTo m (c+d)=Mk.upTo m c++R∧∀ k ∈ R,c≤k
  | 0=>⟨[],by simp,fun k hk=>by cases hk⟩
  | d+1=>by
    obtain ⟨R,h1,h2⟩:=up_split m c d
    rw [← Nat.add_assoc,Mk.upTo_succ,h1,List.append_assoc]
    refine ⟨_,rfl,fun k hk=>?_⟩
    rcases List.mem_append.1 hk with hk|hk
    · exact h2 k hk
    · split at hk
      · have:=List.mem_singleton.1 hk;omega
      · cases hk
theorem place_up (m i:Nat) (hi:i≤32):Mk.place m (i:Int)=(Mk.upTo m i).length:=by
  unfold Mk.place Mk.all
  obtain ⟨R,h1,h2⟩:=up_split m i (32 - i)
  rw [show i+(32 - i)=32 by omega] at h1
  rw [h1,List.countP_append]
  have e1:List.countP (fun k:Nat=>decide ((k:Int) < (i:Int))) (Mk.upTo m i)=(Mk.upTo m i).length:=by
    rw [List.countP_eq_length]
    intro k hk
    have:=(Mk.mem_upTo.1 hk).1
    simp;omega
  have e2:List.countP (fun k:Nat=>decide ((k:Int) < (i:Int))) R=0:=by
    rw [List.countP_eq_zero]
    intro k hk
    have:=h2 k hk
    simp;omega
  rw [e1,e2];rfl
theorem place_bm (a:List Int) (i:Nat) (hl:a.length=32) (hi:i≤32):Mk.place (bm a) (i:Int)=(kz (a.take i)).length:=by
  rw [place_up _ _ hi,up_ps a i hi,kz_ps a i (by omega)]
theorem kz_at (a:List Int) (i:Nat) (h:i < a.length) (hn:a.getD i 0 ≠ 0):(kz a)[(kz (a.take i)).length]? = some (a.getD i 0):=by
  rw [kz_split a i h,if_pos hn,List.getElem?_append_right (Nat.le_refl _),Nat.sub_self];rfl
theorem has_bm (a:List Int) (i:Int):Mk.has (bm a) i=decide (0≤i∧i < 32∧a.getD i.toNat 0 ≠ 0):=by
  unfold Mk.has
  rw [bit_bm]
  by_cases h:0≤i∧i < 32
  · have : i.toNat < 32 := by omega
    simp [h,this]
  · have h':¬ (0≤i∧i < 32∧a.getD i.toNat 0 ≠ 0):=fun hh=>h ⟨hh.1,hh.2.1⟩
    rw [decide_eq_false h,decide_eq_false h'];rfl
def arr (m:Nat) (kk:List Int):List Int:=(List.range 32).map fun i=>if m.testBit i=true then (kk[(Mk.upTo m i).length]?).getD 0 else 0
theorem arr_len (m:Nat) (kk:List Int):(arr m kk).length=32:=by simp [arr]
theorem arr_at {m:Nat} {kk:List Int} {i:Nat} (h:i < 32):(arr m kk).getD i 0=if m.testBit i=true then (kk[(Mk.upTo m i).length]?).getD 0 else 0:=by simp [arr,h]
theorem up_lt {m i:Nat} (hb:m.testBit i=true) (hi:i < 32):(Mk.upTo m i).length < (Mk.all m).length:=by
  obtain ⟨R,h1,_⟩:=up_split m (i+1) (32 - (i+1))
  rw [show i+1+(32 - (i+1))=32 by omega] at h1
  unfold Mk.all
  rw [h1,Mk.upTo_succ,if_pos hb]
  simp
theorem arr_ne {m:Nat} {kk:List Int} (hk:kk.length=(Mk.all m).length) (h0:¬ (0:Int) ∈ kk) {i:Nat} (hi:i < 32):(arr m kk).getD i 0 ≠ 0↔m.testBit i=true:=by
  rw [arr_at hi]
  cases hb:m.testBit i with
  | false=>simp
  | true =>
    have hl:=up_lt hb hi
    rw [← hk] at hl
    simp only [if_true,List.getElem?_eq_getElem hl,Option.getD_some]
    have:kk[(Mk.upTo m i).length] ≠ 0:=fun e=>h0 (by rw [← e];exact List.getElem_mem hl)
    simp [this]
theorem arr_bm {m:Nat} {kk:List Int} (hm:m < 4294967296) (hk:kk.length=(Mk.all m).length) (h0:¬ (0:Int) ∈ kk):m=bm (arr m kk) :=
  eq_bm hm fun j hj=>by
    have:=arr_ne hk h0 hj
    cases hb:m.testBit j with
    | false=>rw [hb] at this;simp at this ⊢;simpa using this
    | true=>rw [hb] at this;exact (decide_eq_true (this.2 rfl)).symm
theorem arr_kz {m:Nat} {kk:List Int} (hm:m < 4294967296) (hk:kk.length=(Mk.all m).length) (h0:¬ (0:Int) ∈ kk):kk=kz (arr m kk):=by
  have key:∀ n,n≤32→kz ((arr m kk).take n)=kk.take (Mk.upTo m n).length:=fun n=>by
    induction n with
    | zero=>intro _;simp [kz,Mk.upTo]
    | succ n ih =>
      intro hn
      rw [kz_succ _ n (by rw [arr_len];omega),ih (by omega),Mk.upTo_succ]
      have ha:=arr_ne hk h0 (show n < 32 by omega)
      cases hb:m.testBit n with
      | false =>
        rw [hb] at ha
        have ha2:¬ (arr m kk).getD n 0 ≠ 0:=fun h=>by have:=ha.1 h;cases this
        rw [if_neg ha2];simp
      | true =>
        rw [if_pos (ha.2 hb),arr_at (by omega),if_pos hb]
        have hl:=up_lt hb (show n < 32 by omega)
        rw [← hk] at hl
        rw [List.getElem?_eq_getElem hl,Option.getD_some]
        simp only [if_true,List.length_append,List.length_cons,List.length_nil,Nat.zero_add]
        rw [List.take_succ_eq_append_getElem hl]
  have h:=key 32 (Nat.le_refl _)
  rw [List.take_of_length_le (by rw [arr_len];omega)] at h
  rw [h]
  exact (List.take_of_length_le (by unfold Mk.all at hk;omega)).symm
end Go.Proofs.Ytefkaglgekjlfaa.Sim
namespace Go.Proofs.Ytefkaglgekjlfaa.Sim
open Go.RowKit
set_option maxRecDepth 100000
end Go.Proofs.Ytefkaglgekjlfaa.Sim
namespace Go.Proofs.Ytefkaglgekjlfaa.Sim
open Go.RowKit
set_option maxRecDepth 100000
end Go.Proofs.Ytefkaglgekjlfaa.Sim
namespace Go.Proofs.Ytefkaglgekjlfaa.Sim
set_option maxRecDepth 100000
def B77:AF:=(AF.mk 14 [(2,none)] (AC.seq (AC.region [(AI.mk (some 2) (AOp.mv (AX.c (AV.nl 1))) none)]) (AC.seq (AC.seq (AC.region [(AI.mk (some 4) (AOp.mv (AX.t 0)) none),(AI.mk (some 5) (AOp.len (AX.t 4)) none),(AI.mk (some 6) (AOp.bin BinOp.eql 3 false (Operand.tmp 5) (Operand.const (Value.int IntKind.i64 0)) (AX.t 5) (AX.c (AV.v (Value.int IntKind.i64 0)))) none)]) (AC.cond (AX.t 6) (AC.seq (AC.region [(AI.mk (some 2) (AOp.mv (AX.c (AV.nl 1))) none)]) AC.ret) AC.skip)) (AC.seq (AC.region [(AI.mk (some 7) (AOp.mv (AX.t 0)) none),(AI.mk (some 8) (AOp.len (AX.t 7)) none),(AI.mk (some 9) (AOp.mks 27 1 8 (AV.v (Value.int IntKind.i64 0)) (AX.t 8) (AX.t 8)) none),(AI.mk (some 3) (AOp.mv (AX.t 9)) none)]) (AC.seq (AC.region [(AI.mk (some 10) (AOp.mv (AX.t 3)) none),(AI.mk (some 11) (AOp.mv (AX.t 0)) none),(AI.mk (some 12) (AOp.cpy 1 (AX.t 10) (AX.t 11)) none)]) (AC.seq (AC.region [(AI.mk (some 13) (AOp.mv (AX.t 3)) none),(AI.mk (some 2) (AOp.mv (AX.t 13)) none)]) AC.ret))))))
theorem bop77:copF Try.prog [11,12,14,15,75,77,85,91,92,98,99,100,101,102] 77=some B77:=by kernel_rfl
end Go.Proofs.Ytefkaglgekjlfaa.Sim
namespace Go.Proofs.Ytefkaglgekjlfaa.Sim
open Go.RowKit
def bkC (ρ:Nat→Nat):AV→Option AV
  | .ol j g n=>some (.ol (ρ j) g n)
  | .os j g lo n=>some (.os (ρ j) g lo n)
  | .oa j g e off=>some (.oa (ρ j) g e off)
  | .agg _|.tup _|.fn _ _=>none
  | a=>some a
def bkL (ρ:Nat→Nat):List AV→Option (List AV)
  | []=>some []
  | a::as_=>(match bkC ρ a,bkL ρ as_ with|some b,some bs=>some (b::bs)|_,_=>none)
def bkA (ρ:Nat→Nat):AV→Option AV
  | .agg cs=>(match bkL ρ cs with|some cs'=>some (.agg cs')|none=>none)
  | a=>bkC ρ a
def bkT (ρ:Nat→Nat):List AV→Option (List AV)
  | []=>some []
  | a::as_=>(match bkA ρ a,bkT ρ as_ with|some b,some bs=>some (b::bs)|_,_=>none)
def bkB (ρ:Nat→Nat):AV→Option AV
  | .agg cs=>(match bkL ρ cs with|some cs'=>some (.agg cs')|none=>none)
  | .tup cs=>(match bkT ρ cs with|some cs'=>some (.tup cs')|none=>none)
  | .fn f cs=>(match bkL ρ cs with|some cs'=>some (.fn f cs')|none=>none)
  | a=>bkC ρ a
def BkO (ρ:Nat→Nat) (O O2:Ow):Prop:=∀ (j:Nat) (d:Ds),O[j]? = some d→O2[ρ j]? = some d
theorem VR.bkC {F:Fz} {O O2:Ow} {ρ:Nat→Nat} (hT:BkO ρ O O2) {x:Value} {a b:AV} (h:VR F O x a) (hb:bkC ρ a=some b):VR F O2 x b:=by
  cases a with
  | agg=>cases hb
  | tup=>cases hb
  | fn=>cases hb
  | ol j g n =>
    cases hb
    cases h with
    | p h=>cases h
    | ol x i g m d hd hg h1 hh=>exact .ol x _ g _ d (hT _ _ hd) hg h1 hh
  | os j g lo n =>
    cases hb
    cases h with
    | p h=>cases h
    | os x i g lo n d hd hg h1 hh=>exact .os x _ g lo n d (hT _ _ hd) hg h1 hh
  | oa j g e off =>
    cases hb
    cases h with
    | p h=>cases h
    | oa x i g e off d hd hg h1 hh=>exact .oa x _ g e off d (hT _ _ hd) hg h1 hh
  | unk=>cases hb;exact .unk x
  | nl k =>
    cases hb
    cases h with
    | p h=>exact .p h
    | nl k=>exact .nl k
  | em q k =>
    cases hb
    cases h with
    | p h=>exact .p h
    | em A c q k hb hm=>exact .em A c q k hb hm
  | v y=>cases hb;exact .p (h.pvC0 rfl)
  | sl k es=>cases hb;exact .p (h.pvC0 rfl)
  | ad k es i off=>cases hb;exact .p (h.pvC0 rfl)
theorem bkL_at {ρ:Nat→Nat}:∀ {as_ bs:List AV},bkL ρ as_=some bs→as_.length=bs.length∧∀ (i:Nat) (b:AV),bs[i]? = some b→∃ a,as_[i]? = some a∧bkC ρ a=some b
  | [],bs,h=>by cases h;exact ⟨rfl,fun i b hb=>by simp at hb⟩
  | a::as_,bs,h=>by
    simp only [bkL] at h
    split at h
    · rename_i b bs' h1 h2
      cases h
      obtain ⟨l,r⟩:=bkL_at h2
      refine ⟨by simp [l],fun i c hc=>?_⟩
      cases i with
      | zero=>simp at hc;subst hc;exact ⟨a,rfl,h1⟩
      | succ i=>obtain ⟨y,q1,q2⟩:=r i c (by simpa using hc);exact ⟨y,by simpa using q1,q2⟩
    · cases h
theorem bkC_one {ρ:Nat→Nat} {a b:AV} (h:bkC ρ a=some b) (ha:a.one=true):b.one=true:=by
  cases a with
  | agg=>cases ha
  | tup=>cases ha
  | unk=>cases ha
  | fn=>cases h
  | _=>cases h;rfl
theorem bkT_at {ρ:Nat→Nat}:∀ {as_ bs:List AV},bkT ρ as_=some bs→as_.length=bs.length∧∀ (i:Nat) (b:AV),bs[i]? = some b→∃ a,as_[i]? = some a∧bkA ρ a=some b
  | [],bs,h=>by cases h;exact ⟨rfl,fun i b hb=>by simp at hb⟩
  | a::as_,bs,h=>by
    simp only [bkT] at h
    split at h
    · rename_i b bs' h1 h2
      cases h
      obtain ⟨l,r⟩:=bkT_at h2
      refine ⟨by simp [l],fun i c hc=>?_⟩
      cases i with
      | zero=>simp at hc;subst hc;exact ⟨a,rfl,h1⟩
      | succ i=>obtain ⟨y,q1,q2⟩:=r i c (by simpa using hc);exact ⟨y,by simpa using q1,q2⟩
    · cases h
theorem VR.bkA {F:Fz} {O O2:Ow} {ρ:Nat→Nat} (hT:BkO ρ O O2) {x:Value} {a b:AV} (h:VR F O x a) (hb:bkA ρ a=some b):VR F O2 x b:=by
  have cells:∀ {cs bs:List AV} {ys:List Value},bkL ρ cs=some bs→(∀ (i:Nat) (c:Value) (a:AV),ys[i]? = some c→cs[i]? = some a→VR F O c a)→∀ (i:Nat) (c:Value) (b:AV),ys[i]? = some c→bs[i]? = some b→VR F O2 c b:=fun hl hv i c b hc hb=>by
    obtain ⟨a,h1,h2⟩:=(bkL_at hl).2 i b hb
    exact (hv i c a hc h1).bkC hT h2
  have one:∀ {cs bs:List AV},bkL ρ cs=some bs→(∀ a ∈ cs,AV.one a=true)→∀ b ∈ bs,AV.one b=true:=fun {cs bs} hl ho b hb=>by
    obtain ⟨i,hi,rfl⟩:=List.getElem_of_mem hb
    obtain ⟨a,h1,h2⟩:=(bkL_at hl).2 i bs[i] (List.getElem?_eq_getElem hi)
    exact bkC_one h2 (ho a (List.mem_of_getElem? h1))
  cases a with
  | agg cs =>
    simp only [Sim.bkA] at hb
    split at hb
    · rename_i bs hl
      cases hb
      cases h with
      | p h =>
        cases h with
        | agg ys cs hl' h1 h=>exact .agg ys bs (by rw [hl',(bkL_at hl).1]) (one hl h1) (cells hl fun i c a hc ha=>.p (h i c a hc ha))
      | agg ys cs hl' h1 h=>exact .agg ys bs (by rw [hl',(bkL_at hl).1]) (one hl h1) (cells hl h)
    · cases hb
  | _=>exact h.bkC hT hb
theorem VR.bkB {F:Fz} {O O2:Ow} {ρ:Nat→Nat} (hT:BkO ρ O O2) {x:Value} {a b:AV} (h:VR F O x a) (hb:bkB ρ a=some b):VR F O2 x b:=by
  have cells:∀ {cs bs:List AV} {ys:List Value},bkL ρ cs=some bs→(∀ (i:Nat) (c:Value) (a:AV),ys[i]? = some c→cs[i]? = some a→VR F O c a)→∀ (i:Nat) (c:Value) (b:AV),ys[i]? = some c→bs[i]? = some b→VR F O2 c b:=fun hl hv i c b hc hb=>by
    obtain ⟨a,h1,h2⟩:=(bkL_at hl).2 i b hb
    exact (hv i c a hc h1).bkC hT h2
  have one:∀ {cs bs:List AV},bkL ρ cs=some bs→(∀ a ∈ cs,AV.one a=true)→∀ b ∈ bs,AV.one b=true:=fun {cs bs} hl ho b hb=>by
    obtain ⟨i,hi,rfl⟩:=List.getElem_of_mem hb
    obtain ⟨a,h1,h2⟩:=(bkL_at hl).2 i bs[i] (List.getElem?_eq_getElem hi)
    exact bkC_one h2 (ho a (List.mem_of_getElem? h1))
  have cellsT:∀ {cs bs:List AV} {ys:List Value},bkT ρ cs=some bs→(∀ (i:Nat) (c:Value) (a:AV),ys[i]? = some c→cs[i]? = some a→VR F O c a)→∀ (i:Nat) (c:Value) (b:AV),ys[i]? = some c→bs[i]? = some b→VR F O2 c b:=fun hl hv i c b hc hb=>by
    obtain ⟨a,h1,h2⟩:=(bkT_at hl).2 i b hb
    exact (hv i c a hc h1).bkA hT h2
  cases a with
  | agg cs=>exact h.bkA hT hb
  | tup cs =>
    simp only [Sim.bkB] at hb
    split at hb
    · rename_i bs hl
      cases hb
      cases h with
      | p h =>
        cases h with
        | tup ys cs hl' h=>exact .tup ys bs (by rw [hl',(bkT_at hl).1]) (cellsT hl fun i c a hc ha=>.p (h i c a hc ha))
      | tup ys cs hl' h=>exact .tup ys bs (by rw [hl',(bkT_at hl).1]) (cellsT hl h)
    · cases hb
  | fn f cs =>
    simp only [Sim.bkB] at hb
    split at hb
    · rename_i bs hl
      cases hb
      cases h with
      | p h =>
        cases h with
        | fn f ys cs hl' h=>exact .fn f ys bs (by rw [hl',(bkL_at hl).1]) (cells hl fun i c a hc ha=>.p (h i c a hc ha))
      | fn f ys cs hl' h=>exact .fn f ys bs (by rw [hl',(bkL_at hl).1]) (cells hl h)
    · cases hb
  | _=>exact h.bkC hT hb
def rho (T:Tb) (N:Nat) (j:Nat):Nat:=match T[j]? with|some (_,i,_)=>i|none=>N+(j - T.length)
structure Bk (T:Tb) (Hb Hl' Hb':Hp):Prop where
  len:T.length≤Hl'.length
  len2:Hb'.length=Hb.length+(Hl'.length - T.length)
  row:∀ (j:Nat) (ob:OB),Hl'[j]? = some ob→∃ ob2,Hb'[rho T Hb.length j]? = some ob2∧ob2.e=ob.e∧ob2.k=ob.k∧ob2.g=ob.g∧ob2.fz=ob.fz∧ob2.es.length=ob.es.length∧∀ (n:Nat) (e2:AV),ob2.es[n]? = some e2→∃ e,ob.es[n]? = some e∧bkL (rho T Hb.length) e.cells=some e2.cells
  rest:∀ J,J < Hb.length→(∀ j,j < T.length→rho T Hb.length j ≠ J)→Hb'[J]? = Hb[J]?
section
variable {P:Program} {G:Nat→AV}
theorem HC.frame {f : FuncId} {asl as_ : List AV} {Hl Hl' Hb Hb' : Hp} {r r' : AV} (T : Tb) (h : HC P G f asl Hl r Hl') (hv : Vw T Hb Hl) (hid : ∀ (j g2 i g : Nat), T[j]? = some (g2, i, g) → g2 = g)
    (hal:as_.length=asl.length) (ha:∀ (i:Nat) (b:AV),asl[i]? = some b→∃ a,as_[i]? = some a∧rnB T b=some a) (hr:bkB (rho T Hb.length) r=some r') (hbk:Bk T Hb Hl' Hb'):HC P G f as_ Hb r' Hb':=by
  intro B w0 F0 F O w xs hown hg hl hvx
  obtain ⟨O2,own2,hto⟩:=hown.view hv
  have hTlt:∀ {j g2 i g:Nat},T[j]? = some (g2,i,g)→i < Hb.length:=fun {j g2 i g} ht=>by
    obtain ⟨d,h1,_⟩:=hto j g2 i g ht
    rw [← hown.len];exact (List.getElem?_eq_some_iff.1 h1).1
  have hTat:∀ {j:Nat},j < T.length→∃ g2 i g,T[j]? = some (g2,i,g)∧rho T Hb.length j=i:=fun {j} hj=>by
    refine ⟨T[j].1,T[j].2.1,T[j].2.2,List.getElem?_eq_getElem hj,?_⟩
    simp only [rho,List.getElem?_eq_getElem hj]
  have rhoNew:∀ {j:Nat},T.length≤j→rho T Hb.length j=Hb.length+(j - T.length):=fun {j} hj=>by
    simp only [rho,List.getElem?_eq_none hj]
  have rhoInj:∀ {j j':Nat},rho T Hb.length j=rho T Hb.length j'→j=j':=fun {j j'} he=>by
    by_cases h1:j < T.length<;>by_cases h2:j' < T.length
    · obtain ⟨a, i, b, t1, e1⟩ := hTat h1
      obtain ⟨a',i',b',t2,e2⟩:=hTat h2
      rw [e1,e2] at he
      subst he
      exact hv.inj j j' _ _ _ _ _ t1 t2
    · obtain ⟨a, i, b, t1, e1⟩ := hTat h1
      rw [e1,rhoNew (by omega)] at he
      have:=hTlt t1
      omega
    · obtain ⟨a, i, b, t1, e1⟩ := hTat h2
      rw [e1,rhoNew (by omega)] at he
      have:=hTlt t1
      omega
    · rw [rhoNew (by omega), rhoNew (by omega)] at he
      omega
  -- the blocks that the call keeps
  have own3:Own ⟨B.n,fun b=>B.K b∨∃ J d,O[J]? = some d∧d.b=b∧∀ j,j < T.length→rho T Hb.length j ≠ J,[]⟩ w F F O2 Hl w:=by
    refine ⟨own2.len,fun j d ob hd ho=>?_,own2.inj,own2.fr,Fz.le_refl F,fun b o v hv=>.inl hv,Below.refl _ _,hown.size,fun _ _=>rfl,fun b hk=>?_⟩
    · have rr := own2.row j d ob hd ho
      refine { rr with hB:=⟨rr.hB.1,?_⟩ }
      rintro (hk|⟨J,d',h1,h2,h3⟩)
      · exact rr.hB.2 hk
      · have hj : j < T.length := by rw [← hv.len]; exact (List.getElem?_eq_some_iff.1 ho).1
        obtain ⟨g2,i,g,t1,e1⟩:=hTat hj
        obtain ⟨d0,q1,q2,q3⟩:=hto j g2 i g t1
        rw [hd] at q3
        cases q3
        have:=hown.inj J i d' d0 h1 q1 h2
        exact h3 j hj (by rw [e1,this])
    · rcases hk with hk | ⟨J, d, h1, rfl, _⟩
      · exact Nat.lt_of_lt_of_le (hown.kb b hk) hown.below.size
      · have hJ : J < Hb.length := by rw [← hown.len]; exact (List.getElem?_eq_some_iff.1 h1).1
        exact (hown.row J d Hb[J] h1 (List.getElem?_eq_getElem hJ)).lt
  have hcall:=h _ w F F O2 w xs own3 hg (by rw [hl,hal]) fun i c b hc hb=>by
    obtain ⟨a,q1,q2⟩:=ha i b hb
    exact (hvx i c a hc q1).rnB hto q2
  refine hcall.mono ?_
  rintro e w' ⟨v,rfl,F',O3,hvr,own4,lF,lO⟩
  refine ⟨v,rfl,F',?_⟩
  have l3:O3.length=Hl'.length:=own4.len
  -- the rows' places
  obtain ⟨O',hO'⟩:∃ O':Ow,O'=(List.range Hb'.length).map fun J=>match (List.range Hl'.length).find? (fun j=>rho T Hb.length j == J) with|some j=>O3.getD j ⟨0,0,0,0⟩|none=>O.getD J ⟨0,0,0,0⟩:=⟨_,rfl⟩
  have lO':O'.length=Hb'.length:=by rw [hO'];simp
  have rhoLt:∀ {j:Nat},j < Hl'.length→rho T Hb.length j < Hb'.length:=fun {j} hj=>by
    by_cases h1:j < T.length
    · obtain ⟨a, i, b, t1, e1⟩ := hTat h1
      rw [e1,hbk.len2]
      have:=hTlt t1
      omega
    · rw [rhoNew (by omega),hbk.len2];omega
  have img:∀ {j:Nat},j < Hl'.length→O'[rho T Hb.length j]? = O3[j]?:=fun {j} hj=>by
    have hf:(List.range Hl'.length).find? (fun j'=>rho T Hb.length j' == rho T Hb.length j)=some j:=by
      cases hq:(List.range Hl'.length).find? (fun j'=>rho T Hb.length j' == rho T Hb.length j) with
      | none =>
        have:=List.find?_eq_none.1 hq j (by simpa using hj)
        simp at this
      | some j' =>
        have:=List.find?_some hq
        have e:j'=j:=rhoInj (by simpa using this)
        rw [e]
    rw [hO',List.getElem?_map,List.getElem?_range (rhoLt hj)]
    simp only [Option.map_some,hf]
    rw [List.getD_eq_getElem?_getD,List.getElem?_eq_getElem (by omega)]
    rfl
  have out:∀ {J:Nat},J < Hb.length→(∀ j,j < T.length→rho T Hb.length j ≠ J)→O'[J]? = O[J]?:=fun {J} hJ hn=>by
    have hf:(List.range Hl'.length).find? (fun j'=>rho T Hb.length j' == J)=none:=by
      rw [List.find?_eq_none]
      intro j hj hh
      have hh:rho T Hb.length j=J:=by simpa using hh
      by_cases h1:j < T.length
      · exact hn j h1 hh
      · rw [rhoNew (by omega)] at hh;omega
    rw [hO',List.getElem?_map,List.getElem?_range (by rw [hbk.len2];omega)]
    simp only [Option.map_some,hf]
    have:J < O.length:=by rw [hown.len];exact hJ
    rw [List.getD_eq_getElem?_getD,List.getElem?_eq_getElem this]
    rfl
  have cases3:∀ J,J < Hb'.length→(∃ j,j < Hl'.length∧rho T Hb.length j=J)∨(J < Hb.length∧∀ j,j < T.length→rho T Hb.length j ≠ J):=fun J hJ=>by
    by_cases hx:∃ j,j < Hl'.length∧rho T Hb.length j=J
    · exact .inl hx
    · right
      have hn:∀ j,j < T.length→rho T Hb.length j ≠ J:=fun j hj he=>hx ⟨j,by have:=hbk.len;omega,he⟩
      refine ⟨?_,hn⟩
      rcases Nat.lt_or_ge J Hb.length with h1|h1
      · exact h1
      · exfalso
        rw [hbk.len2] at hJ
        exact hx ⟨T.length+(J - Hb.length),by omega,by rw [rhoNew (by omega)];omega⟩
  have bo:BkO (rho T Hb.length) O3 O':=fun j d hd=>by
    rw [img (by rw [← l3];exact (List.getElem?_eq_some_iff.1 hd).1)];exact hd
  have leO:O.le O':=fun J d hd=>by
    have hJ:J < Hb.length:=by rw [← hown.len];exact (List.getElem?_eq_some_iff.1 hd).1
    by_cases hx:∃ j,j < T.length∧rho T Hb.length j=J
    · obtain ⟨j, hj, he⟩ := hx
      obtain ⟨g2,i,g,t1,e1⟩:=hTat hj
      obtain ⟨d0,q1,q2,q3⟩:=hto j g2 i g t1
      have:i=J:=by rw [← e1,he]
      subst this
      rw [hd] at q1
      cases q1
      have hid':=hid j g2 i g t1
      subst hid'
      have e3:(⟨d.b,d.C,g2,d.k⟩:Ds)=d:=by rw [← q2]
      rw [e3] at q3
      obtain ⟨d',k1,k2,k3⟩:=lO j d q3
      exact ⟨d',by rw [← he,img (by have:=hbk.len;omega)];exact k1,k2,k3⟩
    · exact ⟨d,by rw [out hJ (fun j hj he=>hx ⟨j,hj,he⟩)];exact hd,Nat.le_refl _,fun _=>rfl⟩
  have inK:∀ {J:Nat} {d:Ds},O[J]? = some d→(∀ j,j < T.length→rho T Hb.length j ≠ J)→B.K d.b∨∃ J' d',O[J']? = some d'∧d'.b=d.b∧∀ j,j < T.length→rho T Hb.length j ≠ J':=fun {J d} hd hn=>.inr ⟨J,d,hd,rfl,hn⟩
  refine ⟨O',hvr.bkB bo hr,⟨lO',fun J d ob2 hd ho=>?_,fun J J' d d' hd hd' hb=>?_,own4.fr,Fz.le_trans hown.le lF,fun b o v hv=>?_,hown.below.trans own4.below,own4.size,fun b hk=>?_,hown.kb⟩,lF,leO⟩
  · have hJ : J < Hb'.length := (List.getElem?_eq_some_iff.1 ho).1
    rcases cases3 J hJ with ⟨j,hj,rfl⟩|⟨hJ2,hn⟩
    · rw [img hj] at hd
      obtain ⟨ob2',k1,k2,k3,k4,k5,k6,k7⟩:=hbk.row j Hl'[j] (List.getElem?_eq_getElem hj)
      rw [ho] at k1
      cases k1
      have rr:=own4.row j d Hl'[j] hd (List.getElem?_eq_getElem hj)
      obtain ⟨cur,c1,c2,c3⟩:=rr.cur
      refine ⟨by rw [k4];exact rr.hg,by rw [k3];exact rr.hk,⟨rr.hB.1,fun hk=>rr.hB.2 (.inl hk)⟩,⟨cur,by rw [k2];exact c1,by rw [k3];exact c2,fun n c e2 a2 he ha=>?_⟩,rr.hC,by rw [k6];exact rr.hl,fun e2 he2=>?_,fun e2 he2 a2 ha2=>?_,by rw [k5,k3];exact rr.hf,by rw [k5,k6];exact rr.hz⟩
      · obtain ⟨e, g1, g2⟩ := k7 n e2 he
        obtain ⟨a,g3,g4⟩:=(bkL_at g2).2 c a2 ha
        obtain ⟨y,q1,q2⟩:=c3 n c e a g1 g3
        exact ⟨y,by rw [k3];exact q1,q2.bkC bo g4⟩
      · obtain ⟨n, hn, rfl⟩ := List.getElem_of_mem he2
        obtain ⟨e,g1,g2⟩:=k7 n _ (List.getElem?_eq_getElem hn)
        rw [← (bkL_at g2).1,k3]
        exact rr.hn e (List.mem_of_getElem? g1)
      · obtain ⟨n, hn, rfl⟩ := List.getElem_of_mem he2
        obtain ⟨e,g1,g2⟩:=k7 n _ (List.getElem?_eq_getElem hn)
        obtain ⟨c,hc,rfl⟩:=List.getElem_of_mem ha2
        obtain ⟨a,g3,g4⟩:=(bkL_at g2).2 c _ (List.getElem?_eq_getElem hc)
        exact bkC_one g4 (rr.h1 e (List.mem_of_getElem? g1) a (List.mem_of_getElem? g3))
    · rw [out hJ2 hn] at hd
      rw [hbk.rest J hJ2 hn] at ho
      have rr:=hown.row J d ob2 hd ho
      have hk:=inK hd hn
      obtain ⟨cur,c1,c2,c3⟩:=rr.cur
      refine { rr with cur:=⟨cur,by rw [own4.kept d.b hk];exact c1,c2,fun n c e a he ha=>by obtain ⟨y,q1,q2⟩:=c3 n c e a he ha;exact ⟨y,q1,q2.mono lF leO⟩⟩,hf:=fun o v hv=>?_ }
      rcases own4.new d.b o v hv with h1|h1
      · exact rr.hf o v h1
      · exact absurd hk h1.2
  · have hJ : J < Hb'.length := by rw [← lO']; exact (List.getElem?_eq_some_iff.1 hd).1
    have hJ':J' < Hb'.length:=by rw [← lO'];exact (List.getElem?_eq_some_iff.1 hd').1
    rcases cases3 J hJ with ⟨j,hj,rfl⟩|⟨hJ2,hn⟩<;>rcases cases3 J' hJ' with ⟨j',hj',rfl⟩|⟨hJ2',hn'⟩
    · rw [img hj] at hd
      rw [img hj'] at hd'
      rw [own4.inj j j' d d' hd hd' hb]
    · rw [img hj] at hd
      rw [out hJ2' hn'] at hd'
      have:=(own4.row j d Hl'[j] hd (List.getElem?_eq_getElem hj)).hB.2
      exact absurd (by rw [hb];exact inK hd' hn') this
    · rw [out hJ2 hn] at hd
      rw [img hj'] at hd'
      have:=(own4.row j' d' Hl'[j'] hd' (List.getElem?_eq_getElem hj')).hB.2
      exact absurd (by rw [← hb];exact inK hd hn) this
    · rw [out hJ2 hn] at hd
      rw [out hJ2' hn'] at hd'
      exact hown.inj J J' d d' hd hd' hb
  · rcases own4.new b o v hv with h1 | h1
    · exact hown.new b o v h1
    · exact .inr ⟨h1.1,fun hk=>h1.2 (.inl hk)⟩
  · rw [own4.kept b (.inl hk)];exact hown.kept b hk
end
end Go.Proofs.Ytefkaglgekjlfaa.Sim
namespace Go.Proofs.Ytefkaglgekjlfaa.Sim
open Go.RowKit
inductive ObBk (ρ:Nat→Nat) (es:List AV) (k:List AV→Prop):Prop
  | same (hn:es.all nrB=true) (hk:k es):ObBk ρ es k
  | lit (es2:List AV) (h:(es.map fun e=>bkL ρ e.cells)=es2.map fun e=>some e.cells) (hk:k es2):ObBk ρ es k
def RB (ρ:Nat→Nat) (ob ob2:OB):Prop:=ob2.e=ob.e∧ob2.k=ob.k∧ob2.g=ob.g∧ob2.fz=ob.fz∧ob2.es.length=ob.es.length∧∀ (n:Nat) (e2:AV),ob2.es[n]? = some e2→∃ e,ob.es[n]? = some e∧bkL ρ e.cells=some e2.cells
theorem nrB_bk {ρ:Nat→Nat} {a:AV} (h:nrB a=true):bkL ρ a.cells=some a.cells:=by
  unfold nrB at h
  generalize a.cells=cs at h
  induction cs with
  | nil=>rfl
  | cons c cs ih =>
    simp only [List.all_cons,Bool.and_eq_true] at h
    have h1:bkC ρ c=some c:=by
      cases c with
      | v=>rfl
      | sl=>rfl
      | ad=>rfl
      | nl=>rfl
      | em=>rfl
      | _=>simp at h
    simp [bkL,h1,ih h.2]
def frR (ρ:Nat→Nat) (o:OB) (k:OB→Prop):Prop :=
  match o with
  | ⟨e,kk,es,g,fz⟩=>ObBk ρ es (fun es'=>k ⟨e,kk,es',g,fz⟩)
theorem frR_ok {ρ:Nat→Nat} {o:OB} {k:OB→Prop} (h:frR ρ o k):∃ o',RB ρ o o'∧k o':=by
  obtain ⟨e,kk,es,g,fz⟩:=o
  rcases h with ⟨hn,hk⟩|⟨es2,h,hk⟩
  · exact ⟨_,⟨rfl,rfl,rfl,rfl,rfl,fun n e2 he=>⟨e2,he,nrB_bk (List.all_eq_true.1 hn e2 (List.mem_of_getElem? he))⟩⟩,hk⟩
  · have hl : es2.length = es.length := by have := congrArg List.length h; simpa using this.symm
    refine ⟨⟨e,kk,es2,g,fz⟩,⟨rfl,rfl,rfl,rfl,hl,fun n e2 he=>?_⟩,hk⟩
    have hn:n < es.length:=by rw [← hl];exact (List.getElem?_eq_some_iff.1 he).1
    have:=congrArg (·[n]?) h
    have he':es2[n]? = some e2:=he
    simp only [List.getElem?_map,he',List.getElem?_eq_getElem hn,Option.map_some,Option.some.injEq] at this
    exact ⟨es[n],List.getElem?_eq_getElem hn,this⟩
def frK (ρ:Nat→Nat):Tb→Hp→Hp→(Hp→Prop)→Prop
  | [],[],Hb,k=>k Hb
  | [],o::Hl,Hb,k=>frR ρ o (fun o'=>aK Hb nums o' (fun _ H=>frK ρ [] Hl H k))
  | (_,i,_)::T,o::Hl,Hb,k=>frR ρ o (fun o'=>rpK Hb i o' (fun H=>frK ρ T Hl H k))
  | _::_,[],_,_=>False
theorem frK_new {ρ:Nat→Nat}:∀ {Hl Hb:Hp} {k:Hp→Prop},frK ρ [] Hl Hb k→∃ Hb',k Hb'∧Hb'.length=Hb.length+Hl.length∧(∀ (j:Nat) (ob:OB),Hl[j]? = some ob→∃ ob2,Hb'[Hb.length+j]? = some ob2∧RB ρ ob ob2)∧∀ J,J < Hb.length→Hb'[J]? = Hb[J]?
  | [],Hb,k,h=>⟨Hb,h,rfl,fun j ob hj=>by simp at hj,fun _ _=>rfl⟩
  | o::Hl,Hb,k,h=>by
    obtain ⟨o',h1,h2⟩:=frR_ok h
    have h3:=aK_ok h2
    obtain ⟨Hb',k1,k2,k3,k4⟩:=frK_new (Hl:=Hl) h3
    refine ⟨Hb',k1,by rw [k2];simp;omega,fun j ob hj=>?_,fun J hJ=>?_⟩
    · cases j with
      | zero =>
        simp at hj
        subst hj
        refine ⟨o',?_,h1⟩
        have:=k4 Hb.length (by simp)
        simpa using this
      | succ j =>
        obtain ⟨ob2,q1,q2⟩:=k3 j ob (by simpa using hj)
        refine ⟨ob2,?_,q2⟩
        rw [← q1];congr 1;simp;omega
    · rw [k4 J (by simp;omega),List.getElem?_append_left hJ]
theorem frK_ok {ρ : Nat → Nat} : ∀ {T : Tb} {Hl Hb : Hp} {k : Hp → Prop}, frK ρ T Hl Hb k → (∀ p ∈ T, p.2.1 < Hb.length) → (T.map (·.2.1)).Nodup → ∃ Hb', k Hb' ∧ T.length ≤ Hl.length ∧ Hb'.length = Hb.length + (Hl.length - T.length) ∧
    (∀ (j:Nat) (ob:OB),Hl[j]? = some ob→∃ ob2,Hb'[rho T Hb.length j]? = some ob2∧RB ρ ob ob2)∧∀ J,J < Hb.length→(∀ p ∈ T,p.2.1 ≠ J)→Hb'[J]? = Hb[J]?
  | [],Hl,Hb,k,h,_,_=>by
    obtain ⟨Hb',k1,k2,k3,k4⟩:=frK_new h
    refine ⟨Hb',k1,Nat.zero_le _,by simpa using k2,fun j ob hj=>?_,fun J hJ _=>k4 J hJ⟩
    obtain ⟨ob2,q1,q2⟩:=k3 j ob hj
    exact ⟨ob2,by simpa [rho] using q1,q2⟩
  | (g2,i,g)::T,[],Hb,k,h,_,_=>by simp [frK] at h
  | (g2,i,g)::T,o::Hl,Hb,k,h,hlt,hnd=>by
    simp only [frK] at h
    obtain ⟨o',h1,h2⟩:=frR_ok h
    rw [rpK_eq] at h2
    have hi:i < Hb.length:=hlt (g2,i,g) (List.mem_cons_self ..)
    simp only [List.map_cons,List.nodup_cons] at hnd
    obtain ⟨Hb',k1,k2,k3,k4,k5⟩:=frK_ok (T:=T) h2 (fun p hp=>by simpa using hlt p (List.mem_cons_of_mem _ hp)) hnd.2
    simp only [List.length_set] at k3 k4 k5
    refine ⟨Hb',k1,by simpa using k2,by rw [k3];simp,fun j ob hj=>?_,fun J hJ hn=>?_⟩
    · cases j with
      | zero =>
        simp at hj
        subst hj
        refine ⟨o',?_,h1⟩
        have:=k5 i hi (fun p hp he=>hnd.1 (List.mem_map.2 ⟨p,hp,he⟩))
        rw [List.getElem?_set_self hi] at this
        simpa [rho] using this
      | succ j =>
        obtain ⟨ob2,q1,q2⟩:=k4 j ob (by simpa using hj)
        refine ⟨ob2,?_,q2⟩
        rw [← q1]
        congr 1
        simp [rho]
    · rw [k5 J hJ (fun p hp=>hn p (List.mem_cons_of_mem _ hp)),List.getElem?_set_ne]
      exact fun e=>hn (g2,i,g) (List.mem_cons_self ..) e
inductive ObAs (T:Tb) (as_ asl:List AV) (k:Prop):Prop
  | mk (h:(asl.map fun b=>rnB T b)=as_.map some) (hk:k):ObAs T as_ asl k
inductive ObRs (ρ:Nat→Nat) (r:AV) (k:AV→Prop):Prop
  | mk (r':AV) (h:bkB ρ r=some r') (hk:k r'):ObRs ρ r k
section
variable {P:Program} {G:Nat→AV}
theorem ObH.fr {f : FuncId} {as_ : List AV} {Hb : Hp} {k : KK} (T : Tb) {asl : List AV} {Hl Hl' : Hp} {r : AV} (h : HC P G f asl Hl r Hl') (hn : (T.map (·.2.1)).Nodup) (hid : (T.map (·.1)) = T.map (·.2.2))
    (hlt:∀ p ∈ T,p.2.1 < Hb.length) (hk:vwK T Hb T Hl (ObAs T as_ asl (ObRs (rho T Hb.length) r (fun r'=>frK (rho T Hb.length) T Hl' Hb (fun H'=>k r' H'))))):ObH P G f as_ Hb k:=by
  have hv:Vw T Hb Hl:=Vw.of (by
    have go:∀ {T0:Tb} {H:Hp} {T:Tb} {H2:Hp} {k:Prop},vwK T0 H T H2 k→vwK T0 H T H2 True:=by
      intro T0 H T
      induction T with
      | nil=>intro H2 k h;cases H2<;>first|trivial|exact h.elim
      | cons p T ih =>
        intro H2 k h
        obtain ⟨g2,i,g⟩:=p
        cases H2 with
        | nil=>exact h.elim
        | cons o2 H2 =>
          simp only [vwK] at h ⊢
          have rk:∀ {H:Hp} {i:Nat} {q q':OB→Prop},(∀ o,q o→q' o)→rK H i q→rK H i q':=by
            intro H
            induction H with
            | nil=>intro i q q' _ h;exact h.elim
            | cons o H ihH =>
              intro i q q' hq h
              cases i with
              | zero=>exact hq o h
              | succ i=>exact ihH hq h
          refine rk (fun o ho=>?_) h
          obtain ⟨e,kk,es,g',fz⟩:=o
          obtain ⟨e2,kk2,es2,g2',fz2⟩:=o2
          obtain ⟨a1,a2,a3,a4,a5,ho⟩:=ho
          refine ⟨a1,a2,a3,a4,a5,?_⟩
          rcases ho with ⟨b1,b2,b3⟩|⟨b1,b2⟩
          · exact .same b1 b2 (ih b3)
          · exact .lit b1 (ih b2)
    exact go hk) hn
  obtain ⟨_,ha,r',hr,hk⟩:=vwK_ok hk
  obtain ⟨Hb',k1,k2,k3,k4,k5⟩:=frK_ok hk hlt hn
  have hal:as_.length=asl.length:=by have:=congrArg List.length ha;simpa using this.symm
  refine ⟨r',Hb',HC.frame T h hv (fun j g2 i g ht=>?_) hal (fun i b hb=>?_) hr ⟨k2,k3,k4,fun J hJ hJn=>k5 J hJ fun p hp he=>?_⟩,k1⟩
  · have := congrArg (·[j]?) hid
    simpa [ht] using this
  · have hi : i < as_.length := by rw [hal]; exact (List.getElem?_eq_some_iff.1 hb).1
    have:=congrArg (·[i]?) ha
    simp only [List.getElem?_map,hb,List.getElem?_eq_getElem hi,Option.map_some,Option.some.injEq] at this
    exact ⟨as_[i],List.getElem?_eq_getElem hi,this⟩
  · obtain ⟨j, hj, rfl⟩ := List.getElem_of_mem hp
    refine hJn j hj ?_
    simp only [rho,List.getElem?_eq_getElem hj]
    exact he
end
end Go.Proofs.Ytefkaglgekjlfaa.Sim
namespace Go.Proofs.Ytefkaglgekjlfaa.Sim
open Go.RowKit
section
variable {P:Program} {G:Nat→AV} {m:Nat}
theorem V_cut {α : Type} {a b : AC} {Q : EX → St → Prop} {s : List AV} {H : Hp} (J : α → Prop) (M : α → List (Nat × Option AV)) (Hc : α → Hp)
    (h1:∀ K:St→Prop,(∀ (s':List AV) (H':Hp) (p:α),J p→Fg m ⟨s',H'⟩ ⟨mx s (M p),Hc p⟩→K ⟨s',H'⟩)→V P G m a (thenQ K Q) ⟨s,H⟩)
    (h2:∀ p,J p→V P G m b Q ⟨mx s (M p),Hc p⟩):V P G m (.seq a b) Q ⟨s,H⟩ :=
  h1 _ (fun s' H' p hp hf=>SeqP.fg _ hf (h2 p hp))
theorem V_seq {a b:AC} {Q:EX→St→Prop} {st:St} (h:V P G m a (thenQ (SeqP m (V P G m b Q)) Q) st):V P G m (.seq a b) Q st:=h
end
end Go.Proofs.Ytefkaglgekjlfaa.Sim
namespace Go.Proofs.Ytefkaglgekjlfaa.Sim
open Go.RowKit
section
variable {P:Program} {G:Nat→AV} {m:Nat}
theorem ObH.frn {f : FuncId} {as_ : List AV} {Hb : Hp} {k : KK} (N : Nat) (hN : Hb.length = N) (T : Tb) {asl : List AV} {Hl Hl' : Hp} {r : AV} (h : HC P G f asl Hl r Hl') (hn : (T.map (·.2.1)).Nodup) (hid : (T.map (·.1)) = T.map (·.2.2))
    (hlt:∀ p ∈ T,p.2.1 < Hb.length) (hk:vwK T Hb T Hl (ObAs T as_ asl (ObRs (rho T N) r (fun r'=>frK (rho T N) T Hl' Hb (fun H'=>k r' H'))))):ObH P G f as_ Hb k:=by
  subst hN
  exact ObH.fr T h hn hid hlt hk
end
end Go.Proofs.Ytefkaglgekjlfaa.Sim
namespace Go.Proofs.Ytefkaglgekjlfaa.Sim
open Go.RowKit
set_option maxRecDepth 100000
section
variable (G:Nat→AV)
def refD (r:Int) (to:List Int):Option Int:=if 0≤r then some r else to[(-1 - r).toNat]?
theorem iA_at' {l:List Int} {k:Nat} (h:k < l.length):(l.map iA)[k]? = some (I l[k]):=by simp [h,iA]
end
end Go.Proofs.Ytefkaglgekjlfaa.Sim
namespace Go.Proofs.Ytefkaglgekjlfaa.Sim
open Go.RowKit
set_option maxRecDepth 100000
def ok (to:List Int) (r:Int):Bool:=(refD r to).isSome
def eo:Bool→Int|true=>0|false=>4
def i64 (r:Int):Prop:=-9223372036854775808≤r∧r≤9223372036854775807
abbrev kR (g:Nat) (l:List Int):OB:=⟨27,1,l.map iA,g,0⟩
theorem p_i (l:List Int):(l.map iA).all AV.isP=true:=by simp [iA,AV.isP,AV.isC,AV.isC0]
theorem nr_i (l:List Int):(l.map iA).all nrB=true:=by simp [iA,nrB,AV.cells]
section
variable (G:Nat→AV)
theorem cpyB (l:List Int) (hl:l.length≤1000) (h0:0 < l.length):HC Try.prog G 77 [.sl 1 (l.map iA)] [] (.ol 0 0 l.length) [kR 0 l]:=by
  have lm:min (l.map iA).length ((l.length:Nat):Int).toNat=l.length:=by simp
  have u1:(l.map iA).take l.length++(List.replicate ((l.length:Nat):Int).toNat (AV.v (.int .i64 0))).drop l.length=l.map iA:=by
    rw [Int.toNat_natCast,List.take_of_length_le (by simp),List.drop_of_length_le (by simp),List.append_nil]
  refine hc_ofV bop77 rfl ?_
  repeat' ((conv=>whnf);first|(with_reducible refine SeqP.go ?_)|((with_reducible refine ObN.mk ?_ ?_);exact zN)|(with_reducible refine ObT.ff ?_)|((with_reducible refine ObB.no ?_ ?_);exact zC)|((with_reducible refine (?_:ObL _ _));(refine ObL.mk _ (by first|exact lm|exact (List.length_map _)|assumption|exact (List.length_map _).trans (by assumption)|exact List.length_map _|rfl) ?_))|((with_reducible refine (?_:ObU _ _));(refine ObU.mk _ (by first|exact u1|assumption|((conv=>lhs;simp only [List.set_cons_zero,List.set_cons_succ,List.take_succ_cons,List.take_zero,List.drop_succ_cons,List.drop_zero,List.nil_append,List.cons_append,List.append_nil,List.take_nil,List.drop_nil]);try rfl)|rfl) ?_))|(exact ObEnd.eq rfl rfl))
theorem cpyB0:HC Try.prog G 77 [.sl 1 []] [] (.nl 1) []:=by
  have l0:([]:List AV).length=0:=rfl
  refine hc_ofV bop77 rfl ?_
  repeat' ((conv=>whnf);first|(with_reducible refine SeqP.go ?_)|((with_reducible refine ObN.mk ?_ ?_);exact zN)|(with_reducible refine ObT.tt ?_)|((with_reducible refine ObB.yes ?_ ?_);exact zB)|((with_reducible refine (?_:ObL _ _));(refine ObL.mk _ (by first|exact l0|assumption|exact (List.length_map _).trans (by assumption)|exact List.length_map _|rfl) ?_))|(exact ObEnd.eq rfl rfl))
end
theorem all_tk {p:Int→Bool} {l:List Int} {i:Nat} (h:i < l.length) (h0:(l.take i).all p=true) (h1:p l[i]=true):(l.take (i+1)).all p=true:=by
  rw [List.take_succ_eq_append_getElem h,List.all_append,h0];simp [h1]
theorem all_no {p:Int→Bool} {l:List Int} {i:Nat} (h:i < l.length) (h1:p l[i]=false):l.all p=false:=by
  rw [List.all_eq_false];exact ⟨l[i],List.getElem_mem h,by simp [h1]⟩
section
variable (G:Nat→AV)
end
end Go.Proofs.Ytefkaglgekjlfaa.Sim
namespace Go.Proofs.Ytefkaglgekjlfaa.Sim
open Go.RowKit
set_option maxRecDepth 100000
section
variable (G:Nat→AV)
theorem has25 (m:Nat) (i:Int) (hm:m < 4294967296) (hi:i64 i):PC Try.prog G 44 [.v (.int .u32 (m:Int)),I i] (Bo (Mk.has m i)) :=
  pc_calls rfl rfl fun w=>(Mk.Has_calls m i w hm hi).mono fun e w' h=>h.fresh
theorem place26 (m:Nat) (i:Int) (hm:m < 4294967296) (hi:i64 i):PC Try.prog G 45 [.v (.int .u32 (m:Int)),I i] (I (Mk.place m i:Nat)) :=
  pc_calls rfl rfl fun w=>(Mk.Place_calls m i w hm hi).mono fun e w' h=>h.fresh
end
def one:Nat→Int
  | 0=>1
  | n+1=>IntKind.u32.wrap (2 * one n)
end Go.Proofs.Ytefkaglgekjlfaa.Sim
namespace Go.Proofs.Ytefkaglgekjlfaa.Hash
open Go.RowKit
def I64 (a:Int):Prop:=-9223372036854775808≤a∧a≤9223372036854775807
def cl (b:Int):Nat:=if b < 0 then 0 else if b > 64 then 64 else b.toNat
theorem cl_le (b:Int):cl b≤64:=by
  unfold cl
  split
  · omega
  · split<;>omega
theorem mask_eq (h c:Nat) (hh:h < 18446744073709551616) (hc:c≤64):bits .and .u64 (h:Int) (IntKind.u64.wrap (IntKind.u64.wrap (2 ^ c) - 1))=((h % 2 ^ c:Nat):Int):=by
  have e:IntKind.u64.wrap (IntKind.u64.wrap ((2:Int) ^ c) - 1)=((2 ^ c - 1:Nat):Int):=by
    have h1:(1:Nat)≤2 ^ c:=Nat.one_le_two_pow
    have h2:(2:Nat) ^ c≤2 ^ 64:=Nat.pow_le_pow_right (by decide) hc
    have h3:((2:Int) ^ c)=((2 ^ c:Nat):Int):=by norm_cast
    rw [h3]
    generalize (2:Nat) ^ c=x at *
    simp only [IntKind.wrap,IntKind.bits,IntKind.signed]
    simp
    omega
  rw [e,u64_and_nat _ _ hh (by have h2:(2:Nat) ^ c≤2 ^ 64:=Nat.pow_le_pow_right (by decide) hc;omega),Nat.and_two_pow_sub_one_eq_mod]
theorem clamp_calls (b : Int) (w : World) (hb : I64 b) :
    Calls Try.prog 66 #[.int .i64 b] w (Quiet (.int .i64 (cl b)) w):=by
  unfold I64 at hb
  have e:cl b=if b < 0 then 0 else if b > 64 then 64 else b.toNat:=rfl
  generalize cl b=c at *
  split at e
  · subst e
    go_enter Try.func66,Try.ntmps66
    go_wp2
    all_goals
      go_ret
      exact ⟨rfl,Drawn.refl _⟩
  · split at e
    · subst e
      go_enter Try.func66,Try.ntmps66
      go_wp2
      all_goals
        go_ret
        exact ⟨rfl,Drawn.refl _⟩
    · go_enter Try.func66, Try.ntmps66
      go_wp2
      all_goals
        go_ret
        exact ⟨ret_int (by omega),Drawn.refl _⟩
theorem low_calls (h : Nat) (b : Int) (w : World) (hh : h < 18446744073709551616) (hb : I64 b) :
    Calls Try.prog 47 #[.int .u64 h,.int .i64 b] w (Quiet (.int .u64 ((h % 2 ^ cl b:Nat):Int)) w):=by
  have k1:=fun w=>Lib.hid (clamp_calls b w hb)
  have hc:=cl_le b
  generalize cl b=c at *
  go_enter Try.func47,Try.ntmps47
  go_wp2_with (go_at_call 66;(with_reducible refine (k1 _).out.mono ?_);rintro e w' ⟨rfl,q,rfl⟩)
  have e:=mask_eq h c hh hc
  go_ret
  exact ⟨ret_int e,⟨_,rfl⟩⟩
theorem Levels_calls (b : Int) (w : World) (hb : I64 b) :
    Calls Try.prog 46 #[.int .i64 b] w (Quiet (.int .i64 (((cl b+4) / 5:Nat):Int)) w):=by
  have k1:=fun w=>Lib.hid (clamp_calls b w hb)
  have hc:=cl_le b
  generalize cl b=c at *
  go_enter Try.func46,Try.ntmps46
  go_wp2_with (go_at_call 66;(with_reducible refine (k1 _).out.mono ?_);rintro e w' ⟨rfl,q,rfl⟩)
  go_ret
  exact ⟨ret_int (by omega),⟨_,rfl⟩⟩
def start:Nat:=14695981039346656037
def step (h:Nat) (c:UInt8):Nat:=((h ^^^ c.toNat) * 1099511628211) % 18446744073709551616
def fnv (l:List UInt8):Nat:=l.foldl step start
theorem step_lt (h:Nat) (c:UInt8):step h c < 18446744073709551616:=by unfold step;omega
theorem fold_lt (l:List UInt8) (h:Nat) (hh:h < 18446744073709551616):l.foldl step h < 18446744073709551616:=by
  induction l generalizing h with
  | nil=>exact hh
  | cons c l ih=>exact ih _ (step_lt h c)
theorem start_lt:start < 18446744073709551616:=by unfold start;omega
theorem fnv_def (l:List UInt8):fnv l=l.foldl step start:=by unfold fnv;exact Eq.refl (l.foldl step start)
theorem fnv_lt (l:List UInt8):fnv l < 18446744073709551616:=by rw [fnv_def];exact fold_lt l start start_lt
theorem fold_snoc (l:List UInt8) (c:UInt8) (h:Nat):(l++[c]).foldl step h=step (l.foldl step h) c:=by
  rw [List.foldl_append,List.foldl_cons,List.foldl_nil]
theorem fnv_snoc (l:List UInt8) (c:UInt8):fnv (l++[c])=step (fnv l) c:=by
  rw [fnv_def,fnv_def,fold_snoc]
theorem step_eq (h:Nat) (c:UInt8) (hh:h < 18446744073709551616):IntKind.u64.wrap (bits .xor .u64 (h:Int) (IntKind.u64.wrap (c.toNat:Int)) * 1099511628211)=((step h c:Nat):Int):=by
  have hw:IntKind.u64.wrap (c.toNat:Int)=(c.toNat:Int):=by have:=c.toNat_lt;simp only [IntKind.wrap,IntKind.bits,IntKind.signed];simp;omega
  rw [hw,u64_xor_nat _ _ hh (by have:=c.toNat_lt;omega)]
  unfold step
  generalize (h ^^^ c.toNat)=x
  simp only [IntKind.wrap,IntKind.bits,IntKind.signed]
  simp
theorem take_snoc (s:ByteArray) (k:Nat) (h:k < s.size):s.data.toList.take (k+1)=s.data.toList.take k++[s[k]]:=by
  rw [List.take_succ_eq_append_getElem (by simpa using h)];rfl
theorem take_all (s:ByteArray) (k:Nat) (h:s.size≤k):s.data.toList.take k=s.data.toList:=by
  apply List.take_of_length_le;simpa using h
set_option maxHeartbeats 400000 in
theorem Of_calls (s : ByteArray) (b : Int) (w : World) (hs : s.size ≤ 100000) (hb : I64 b) :
    Calls Try.prog 30 #[.string s,.int .i64 b] w (Quiet (.int .u64 ((fnv s.data.toList % 2 ^ cl b:Nat):Int)) w):=by
  have kl:=fun w=>Lib.hid (low_calls (fnv s.data.toList) b w (fnv_lt _) hb)
  go_enter Try.func30,Try.ntmps30
  go_wp2_with fail
  go_loop [5,9] (fun h i=>∃ k:Nat,i = .int .i64 k∧k≤s.size∧h = .int .u64 ((fnv (s.data.toList.take k):Nat):Int)) (fun _ i=>s.size - (intOf i).toNat)
  case atStart=>exact ⟨0,rfl,by omega,rfl⟩
  case round =>
    obtain ⟨k,rfl,hk,rfl⟩:=hrel
    by_cases hlt:k < s.size
    · have g1 : (k : Int) < (s.size : Int) := by omega
      have e1:=step_eq (fnv (s.data.toList.take k)) s[k] (fnv_lt _)
      rw [← fnv_snoc,← take_snoc s k hlt] at e1
      generalize fnv (s.data.toList.take k)=x at *
      have E1:=Lib.hid e1
      clear e1
      go_wp2_with fail
      go_round
      case rel=>exact ⟨k+1,by go_num,by omega,by rw [← E1.out]⟩
      case measure=>simp [intOf];omega
    · rw [take_all s k (by omega)]
      go_wp2_with (go_at_call 47;(with_reducible refine (kl _).out.mono ?_);rintro e w' ⟨rfl,q,rfl⟩)
      go_ret
      exact ⟨rfl,⟨_,rfl⟩⟩
theorem RefClamp_calls (b : Int) (w : World) (hb : I64 b) :
    Calls Try.prog 35 #[.int .i64 b] w (Quiet (.int .i64 (cl b)) w):=by
  unfold I64 at hb
  have e:cl b=if b < 0 then 0 else if b > 64 then 64 else b.toNat:=rfl
  generalize cl b=c at *
  split at e
  · subst e
    go_enter Try.func35,Try.ntmps35
    go_wp2
    all_goals
      go_ret
      exact ⟨rfl,Drawn.refl _⟩
  · split at e
    · subst e
      go_enter Try.func35,Try.ntmps35
      go_wp2
      all_goals
        go_ret
        exact ⟨rfl,Drawn.refl _⟩
    · go_enter Try.func35, Try.ntmps35
      go_wp2
      all_goals
        go_ret
        exact ⟨ret_int (by omega),Drawn.refl _⟩
def Low (H k y z t:Nat):Prop:=y=H / 2 ^ k∧z=H % 2 ^ k∧t=2 ^ k % 18446744073709551616
theorem sum_u64 (y z t:Nat) (g4:z+t * (y % 2) < 18446744073709551616) (g5:t * (y % 2) < 18446744073709551616):IntKind.u64.wrap ((z:Int)+IntKind.u64.wrap ((t:Int) * ((y:Int) % 2)))=((z+t * (y % 2):Nat):Int):=by
  have e:((t:Int) * ((y:Int) % 2))=((t * (y % 2):Nat):Int):=by norm_cast
  rw [e]
  generalize t * (y % 2)=x at *
  simp only [IntKind.wrap,IntKind.bits,IntKind.signed]
  simp
  omega
theorem dbl_u64 (t:Nat):IntKind.u64.wrap (2 * (t:Int))=((2 * t % 18446744073709551616:Nat):Int):=by
  simp only [IntKind.wrap,IntKind.bits,IntKind.signed]
  simp
theorem Low.zero (H:Nat):Low H 0 H 0 1:=⟨by simp,by rw [Nat.pow_zero,Nat.mod_one],by decide⟩
theorem pow_le_63 {k:Nat} (h:k < 64):2 ^ k≤9223372036854775808:=Nat.le_trans (Nat.pow_le_pow_right (by decide) (show k≤63 by omega)) (by decide)
theorem Low.fits {H k y z t:Nat} (hk:k < 64) (h:Low H k y z t):t≤9223372036854775808∧z+t * (y % 2) < 18446744073709551616∧t * (y % 2) < 18446744073709551616:=by
  obtain ⟨rfl,rfl,rfl⟩:=h
  have h1:=pow_le_63 hk
  have h2:H % 2 ^ k < 2 ^ k:=Nat.mod_lt _ (Nat.two_pow_pos k)
  generalize 2 ^ k=p at *
  have h3:p % 18446744073709551616=p:=by omega
  rw [h3]
  have h4:H / p % 2=0∨H / p % 2=1:=by omega
  rcases h4 with h4|h4<;>rw [h4]<;>simp<;>omega
theorem Low.succ {H k y z t:Nat} (hk:k < 64) (h:Low H k y z t):Low H (k+1) (y / 2) (z+t * (y % 2)) (2 * t % 18446744073709551616):=by
  obtain ⟨rfl,rfl,rfl⟩:=h
  have h1:=pow_le_63 hk
  have h3:2 ^ k % 18446744073709551616=2 ^ k:=Nat.mod_eq_of_lt (Nat.lt_of_le_of_lt h1 (by decide))
  rw [h3]
  refine ⟨by rw [Nat.pow_succ,Nat.div_div_eq_div_mul],by rw [Nat.mod_pow_succ],by rw [Nat.pow_succ,Nat.mul_comm]⟩
set_option maxHeartbeats 400000 in
theorem RefOf_calls (s : ByteArray) (b : Int) (w : World) (hs : s.size ≤ 100000) (hb : I64 b) :
    Calls Try.prog 41 #[.string s,.int .i64 b] w (Quiet (.int .u64 ((fnv s.data.toList % 2 ^ cl b:Nat):Int)) w):=by
  have kc:=fun w=>Lib.hid (RefClamp_calls b w hb)
  have hc:=cl_le b
  generalize cl b=c at *
  go_enter Try.func41,Try.ntmps41
  go_wp2_with fail
  go_loop [5,6] (fun h i=>∃ k:Nat,i = .int .i64 k∧k≤s.size∧h = .int .u64 ((fnv (s.data.toList.take k):Nat):Int)) (fun _ i=>s.size - (intOf i).toNat)
  case atStart=>exact ⟨0,rfl,by omega,rfl⟩
  case round =>
    obtain ⟨k,rfl,hk,rfl⟩:=hrel
    by_cases hlt:k < s.size
    · have g1 : (k : Int) < (s.size : Int) := by omega
      have e1:=step_eq (fnv (s.data.toList.take k)) s[k] (fnv_lt _)
      rw [← fnv_snoc,← take_snoc s k hlt] at e1
      generalize fnv (s.data.toList.take k)=x at *
      have E1:=Lib.hid e1
      clear e1
      go_wp2_with fail
      go_round
      case rel=>exact ⟨k+1,by go_num,by omega,by rw [← E1.out]⟩
      case measure=>simp [intOf];omega
    · rw [take_all s k (by omega)]
      have hf:=fnv_lt s.data.toList
      generalize fnv s.data.toList=H at *
      go_wp2_with fail
      go_loopw [5,7,8,9] (fun x o u i wr=>∃ k:Nat,i = .int .i64 k∧k≤c∧(∃ y z t:Nat,y < 18446744073709551616∧z < 18446744073709551616∧t < 18446744073709551616∧x = .int .u64 (y:Int)∧o = .int .u64 (z:Int)∧u = .int .u64 (t:Int)∧Hid (Low H k y z t))∧Drawn w wr) (fun _ _ _ i _=>c - (intOf i).toNat)
      case atStart=>exact ⟨0,rfl,by omega,⟨H,0,1,by omega,by omega,by omega,rfl,rfl,rfl,hide (Low.zero H)⟩,Drawn.refl w⟩
      case round =>
        obtain ⟨k,rfl,hk,⟨y,z,t,hy,hz,ht,rfl,rfl,rfl,HL⟩,q,rfl⟩:=hrel
        by_cases hlt:k < c
        · have g1 : (k : Int) < (c : Int) := by omega
          have HL2:=Lib.hid (Low.succ (by omega:k < 64) HL.out)
          have g2:=Low.fits (by omega:k < 64) HL.out
          obtain ⟨g3,g4,g5⟩:=g2
          go_wp2_with (go_at_call 35;(with_reducible refine (kc _).out.mono ?_);rintro e w' ⟨rfl,q,rfl⟩)
          go_roundw
          case rel =>
            refine ⟨k+1,by go_num,by omega,⟨y / 2,z+t * (y % 2),2 * t % 18446744073709551616,by omega,g4,by omega,by go_num,?_,?_,HL2⟩,_,rfl⟩
            · rw [sum_u64 y z t g4 g5]
            · rw [dbl_u64]
          case measure=>simp [intOf];omega
        · have e : k = c := by omega
          go_wp2_with (go_at_call 35;(with_reducible refine (kc _).out.mono ?_);rintro e w' ⟨rfl,q,rfl⟩)
          go_ret
          exact ⟨ret_int (by rw [HL.out.2.1,e]),⟨_,rfl⟩⟩
theorem chunk_eq (h c n:Nat) (hh:h < 18446744073709551616) (hc:c≤64):wrap64 (bits .and .u64 ((h:Int) % 2 ^ c / 2 ^ (5 * (n:Int)).toNat) 31)=((h % 2 ^ c / 2 ^ (5 * n) % 32:Nat):Int):=by
  have e:((h:Int) % 2 ^ c / 2 ^ (5 * (n:Int)).toNat)=((h % 2 ^ c / 2 ^ (5 * n):Nat):Int):=by
    have h1:(5 * (n:Int)).toNat=5 * n:=by omega
    rw [h1]
    norm_cast
  have hb:h % 2 ^ c / 2 ^ (5 * n) < 18446744073709551616:=Nat.lt_of_le_of_lt (Nat.div_le_self _ _) (Nat.lt_of_le_of_lt (Nat.mod_le _ _) hh)
  rw [e]
  generalize h % 2 ^ c / 2 ^ (5 * n)=x at *
  have:=u64_and_nat x 31 hb (by decide)
  rw [show ((31:Nat):Int)=31 from rfl] at this
  rw [this,nat_mask5]
  unfold wrap64
  omega
def chunk (h:Nat) (l:Int) (c:Nat):Nat:=if 0≤l∧l < (c+4) / 5 then h % 2 ^ c / 2 ^ (5 * l.toNat) % 32 else 0
set_option maxHeartbeats 400000 in
theorem Chunk_calls (h : Nat) (l b : Int) (w : World) (hh : h < 18446744073709551616) (hl : I64 l) (hb : I64 b) :
    Calls Try.prog 29 #[.int .u64 h,.int .i64 l,.int .i64 b] w (Quiet (.int .i64 (chunk h l (cl b))) w):=by
  have k1:=fun w=>Lib.hid (Levels_calls b w hb)
  have k2:=fun w=>Lib.hid (low_calls h b w hh hb)
  have hc:=cl_le b
  unfold I64 at hl
  generalize cl b=c at *
  have e:chunk h l c=if 0≤l∧l < (c+4) / 5 then h % 2 ^ c / 2 ^ (5 * l.toNat) % 32 else 0:=rfl
  by_cases h1:l < 0
  · rw [if_neg (by omega)] at e
    rw [e];clear e
    go_enter Try.func29,Try.ntmps29
    go_wp2_with fail
    go_ret
    exact ⟨rfl,Drawn.refl _⟩
  by_cases h2:l≥(((c+4) / 5:Nat):Int)
  · rw [if_neg (by omega)] at e
    rw [e];clear e
    have h3:((c:Int)+4) / 5≤l:=by omega
    go_enter Try.func29,Try.ntmps29
    go_wp2_with (go_at_call 46;(with_reducible refine (k1 _).out.mono ?_);rintro e w' ⟨rfl,q,rfl⟩)
    go_ret
    exact ⟨rfl,⟨_,rfl⟩⟩
  · rw [if_pos (by omega)] at e
    obtain ⟨n,rfl⟩:=Int.eq_ofNat_of_zero_le (show 0≤l by omega)
    have x:=chunk_eq h c n hh hc
    rw [Int.toNat_natCast] at e
    rw [e,← x]
    clear e x
    have h3:(n:Int) < ((c:Int)+4) / 5:=by omega
    go_enter Try.func29,Try.ntmps29
    go_wp2_with (first|(go_at_call 46;(with_reducible refine (k1 _).out.mono ?_);rintro e w' ⟨rfl,q,rfl⟩)|(go_at_call 47;(with_reducible refine (k2 _).out.mono ?_);rintro e w' ⟨rfl,q,rfl⟩))
    go_ret
    exact ⟨rfl,⟨_,rfl⟩⟩
theorem bit_calls (h i : Nat) (w : World) (hh : h < 18446744073709551616) (hi : i ≤ 100) :
    Calls Try.prog 57 #[.int .u64 h,.int .i64 i] w (Quiet (.int .i64 ((h / 2 ^ i % 2:Nat):Int)) w):=by
  go_enter Try.func57,Try.ntmps57
  go_wp2_with fail
  go_loop [0,5] (fun x j=>∃ k:Nat,j = .int .i64 k∧k≤i∧∃ y:Nat,y≤h∧x = .int .u64 (y:Int)∧Hid (y=h / 2 ^ k)) (fun _ j=>i - (intOf j).toNat)
  case atStart=>exact ⟨0,rfl,by omega,h,by omega,rfl,hide (by simp)⟩
  case round =>
    obtain ⟨k,rfl,hk,y,hy,rfl,H⟩:=hrel
    by_cases hlt:k < i
    · have g1 : (k : Int) < (i : Int) := by omega
      go_wp2_with fail
      go_round
      case rel=>exact ⟨k+1,by go_num,by omega,y / 2,by omega,by go_num,hide (by rw [H.out,Nat.pow_succ,Nat.div_div_eq_div_mul])⟩
      case measure=>simp [intOf];omega
    · have e : k = i := by omega
      have H2:Hid (y=h / 2 ^ i):=by rw [← e];exact H
      clear H e
      go_wp2_with fail
      go_ret
      refine ⟨ret_int ?_,Drawn.refl _⟩
      have:=congrArg (fun n:Nat=>((n % 2:Nat):Int)) H2.out
      simpa using this
theorem RefLevels_calls (b : Int) (w : World) (hb : I64 b) :
    Calls Try.prog 21 #[.int .i64 b] w (Quiet (.int .i64 (((cl b+4) / 5:Nat):Int)) w):=by
  have kc:=fun w=>Lib.hid (RefClamp_calls b w hb)
  have hc:=cl_le b
  generalize cl b=c at *
  go_enter Try.func21,Try.ntmps21
  go_wp2_with fail
  go_loopw [3] (fun i wr=>∃ k:Nat,i = .int .i64 k∧k≤(c+4) / 5∧Drawn w wr) (fun i _=>100 - (intOf i).toNat)
  case atStart=>exact ⟨0,rfl,by omega,Drawn.refl w⟩
  case round =>
    obtain ⟨k,rfl,hk,q,rfl⟩:=hrel
    by_cases hlt:k < (c+4) / 5
    · have g1 : 5 * (k : Int) < (c : Int) := by omega
      go_wp2_with (go_at_call 35;(with_reducible refine (kc _).out.mono ?_);rintro e w' ⟨rfl,q,rfl⟩)
      go_roundw
      case rel=>exact ⟨k+1,by go_num,by omega,_,rfl⟩
      case measure=>simp [intOf];omega
    · have g1 : ¬ 5 * (k : Int) < (c : Int) := by omega
      go_wp2_with (go_at_call 35;(with_reducible refine (kc _).out.mono ?_);rintro e w' ⟨rfl,q,rfl⟩)
      go_ret
      exact ⟨ret_int (by omega),⟨_,rfl⟩⟩
end Go.Proofs.Ytefkaglgekjlfaa.Hash
namespace Go.Proofs.Ytefkaglgekjlfaa.Hash
open Go.RowKit
theorem low_bit (h c i:Nat) (hi:i < c):h % 2 ^ c / 2 ^ i % 2=h / 2 ^ i % 2:=by
  have e:2 ^ c=2 ^ i * 2 ^ (c - i):=by rw [← Nat.pow_add];congr 1;omega
  rw [e,Nat.mod_mul_right_div_self]
  have e2:2 ^ (c - i)=2 * 2 ^ (c - i - 1):=by rw [← Nat.pow_succ'];congr 1;omega
  rw [e2,Nat.mod_mul_right_mod]
def Part (x k z t:Nat):Prop:=z=x % 2 ^ k∧t=2 ^ k
theorem Part.zero (x:Nat):Part x 0 0 1:=⟨by rw [Nat.pow_zero,Nat.mod_one],rfl⟩
theorem Part.succ {x k z t:Nat} (h:Part x k z t):Part x (k+1) (z+t * (x / 2 ^ k % 2)) (2 * t):=by
  obtain ⟨rfl,rfl⟩:=h
  exact ⟨by rw [Nat.mod_pow_succ],by rw [Nat.pow_succ,Nat.mul_comm]⟩
theorem Part.fits {x k z t:Nat} (hk:k < 5) (h:Part x k z t):z≤32∧t≤32∧t * (x / 2 ^ k % 2)≤32:=by
  obtain ⟨rfl,rfl⟩:=h
  have h1:2 ^ k≤32:=Nat.le_trans (Nat.pow_le_pow_right (by decide) (show k≤5 by omega)) (by decide)
  have h2:x % 2 ^ k < 2 ^ k:=Nat.mod_lt _ (Nat.two_pow_pos k)
  have h4:x / 2 ^ k % 2=0∨x / 2 ^ k % 2=1:=by omega
  generalize 2 ^ k=p at *
  rcases h4 with h4|h4<;>rw [h4]<;>simp<;>omega
theorem Part.le {x k z t:Nat} (hk:k≤5) (h:Part x k z t):z≤32:=by
  obtain ⟨rfl,rfl⟩:=h
  have h1:2 ^ k≤32:=Nat.le_trans (Nat.pow_le_pow_right (by decide) hk) (by decide)
  have h2:x % 2 ^ k < 2 ^ k:=Nat.mod_lt _ (Nat.two_pow_pos k)
  omega
theorem Part.done {x k z t c l:Nat} (h:Part x k z t) (hx:x < 2 ^ (c - 5 * l)) (hk:k≤5) (hd:k=5∨5 * l+k=c):z=x % 32:=by
  obtain ⟨rfl,rfl⟩:=h
  rcases hd with rfl|hd
  · rfl
  · have e : c - 5 * l = k := by omega
    rw [e] at hx
    rw [Nat.mod_eq_of_lt hx,Nat.mod_eq_of_lt]
    exact Nat.lt_of_lt_of_le hx (Nat.le_trans (Nat.pow_le_pow_right (by decide) hk) (by decide))
theorem high_lt (h c l:Nat) (hl:5 * l≤c):h % 2 ^ c / 2 ^ (5 * l) < 2 ^ (c - 5 * l):=by
  rw [Nat.div_lt_iff_lt_mul (Nat.two_pow_pos _),← Nat.pow_add]
  have e:c - 5 * l+5 * l=c:=by omega
  rw [e]
  exact Nat.mod_lt _ (Nat.two_pow_pos c)
theorem high_bit (h c l k:Nat) (hk:5 * l+k < c):h % 2 ^ c / 2 ^ (5 * l) / 2 ^ k % 2=h / 2 ^ (5 * l+k) % 2:=by
  rw [Nat.div_div_eq_div_mul,← Nat.pow_add,low_bit h c _ hk]
set_option maxHeartbeats 800000 in
theorem RefChunk_calls (h : Nat) (l b : Int) (w : World) (hh : h < 18446744073709551616) (hl : I64 l) (hb : I64 b) :
    Calls Try.prog 40 #[.int .u64 h,.int .i64 l,.int .i64 b] w (Quiet (.int .i64 (chunk h l (cl b))) w):=by
  have k1:=fun w=>Lib.hid (RefLevels_calls b w hb)
  have k2:=fun w=>Lib.hid (RefClamp_calls b w hb)
  have hc:=cl_le b
  unfold I64 at hl
  generalize cl b=c at *
  have e:chunk h l c=if 0≤l∧l < (c+4) / 5 then h % 2 ^ c / 2 ^ (5 * l.toNat) % 32 else 0:=rfl
  by_cases h1:l < 0
  · rw [if_neg (by omega)] at e
    rw [e];clear e
    go_enter Try.func40,Try.ntmps40
    go_wp2_with fail
    go_ret
    exact ⟨rfl,Drawn.refl _⟩
  by_cases h2:l≥(((c+4) / 5:Nat):Int)
  · rw [if_neg (by omega)] at e
    rw [e];clear e
    have h3:((c:Int)+4) / 5≤l:=by omega
    go_enter Try.func40,Try.ntmps40
    go_wp2_with (go_at_call 21;(with_reducible refine (k1 _).out.mono ?_);rintro e w' ⟨rfl,q,rfl⟩)
    go_ret
    exact ⟨rfl,⟨_,rfl⟩⟩
  · rw [if_pos (by omega)] at e
    obtain ⟨n,rfl⟩:=Int.eq_ofNat_of_zero_le (show 0≤l by omega)
    rw [Int.toNat_natCast] at e
    rw [e]
    clear e
    have h3:(n:Int) < ((c:Int)+4) / 5:=by omega
    have h4:5 * n≤c:=by omega
    have hx:=high_lt h c n h4
    have hy:=high_bit h c n
    have h5:n≤13:=by omega
    generalize h % 2 ^ c / 2 ^ (5 * n)=x at *
    have HX:=Lib.hid hx
    have HY:=Lib.hid hy
    clear hx hy
    have kb:=fun (i:Nat) (hi:i≤100) w=>Lib.hid (bit_calls h i w hh hi)
    go_enter Try.func40,Try.ntmps40
    go_wp2_with (go_at_call 21;(with_reducible refine (k1 _).out.mono ?_);rintro e w' ⟨rfl,q,rfl⟩)
    go_loopw [7,8,9] (fun o u i wr=>∃ k m z t:Nat,i = .int .i64 (m:Int)∧o = .int .i64 (z:Int)∧u = .int .i64 (t:Int)∧k≤5∧m≤c∧m≤70∧z≤32∧t≤64∧Hid (m=5 * n+k∧Part x k z t)∧Drawn w wr) (fun _ _ i _=>100 - (intOf i).toNat)
    case atStart=>exact ⟨0,5 * n,0,1,by go_num,rfl,rfl,by omega,by omega,by omega,by omega,by omega,hide ⟨rfl,Part.zero x⟩,_,rfl⟩
    case round =>
      obtain ⟨k,m,z,t,rfl,rfl,rfl,hk,hm,hm2,hz,ht,HP,q,rfl⟩:=hrel
      by_cases hlt:k < 5
      · have g1 : (m : Int) < 5 * (n : Int) + 5 := by have := HP.out.1; omega
        by_cases hlc:m < c
        · have g2 : (m : Int) < (c : Int) := by omega
          have hf:=HP.out.2.fits hlt
          have hs:=HP.out.2.succ
          have hbit:x / 2 ^ k % 2=h / 2 ^ m % 2:=by have:=HY.out k (by have:=HP.out.1;omega);rw [HP.out.1];exact this
          rw [hbit] at hf hs
          have kbm:=kb m (by omega)
          clear hbit
          have hb2:h / 2 ^ m % 2≤1:=by omega
          generalize h / 2 ^ m % 2=y at *
          obtain ⟨f1,f2,f3⟩:=hf
          have HS:=Lib.hid hs
          clear hs
          go_wp2_with (first|(go_at_call 35;(with_reducible refine (k2 _).out.mono ?_);rintro e w' ⟨rfl,q,rfl⟩)|(go_at_call 57;(with_reducible refine (kbm _).out.mono ?_);rintro e w' ⟨rfl,q,rfl⟩))
          go_roundw
          case rel=>exact ⟨k+1,m+1,z+t * y,2 * t,by go_num,int_eq (by norm_cast),int_eq (by norm_cast),by omega,by omega,by omega,HS.out.le (by omega),by omega,hide ⟨by have:=HP.out.1;omega,HS.out⟩,_,rfl⟩
          case measure=>simp [intOf];omega
        · have g2 : ¬ (m : Int) < (c : Int) := by omega
          have HD:=Lib.hid (HP.out.2.done (c:=c) (l:=n) HX.out hk (Or.inr (by have:=HP.out.1;omega)))
          go_wp2_with (go_at_call 35;(with_reducible refine (k2 _).out.mono ?_);rintro e w' ⟨rfl,q,rfl⟩)
          go_ret
          exact ⟨ret_int (congrArg (fun n:Nat=>(n:Int)) HD.out),⟨_,rfl⟩⟩
      · have g1 : ¬ (m : Int) < 5 * (n : Int) + 5 := by have := HP.out.1; omega
        have HD:=Lib.hid (HP.out.2.done (c:=c) (l:=n) HX.out hk (Or.inl (by omega)))
        go_wp2_with fail
        go_ret
        exact ⟨ret_int (congrArg (fun n:Nat=>(n:Int)) HD.out),⟨_,rfl⟩⟩
theorem chunk_lt (h:Nat) (l:Int) (c:Nat):chunk h l c < 32:=by
  unfold chunk;split
  · exact Nat.mod_lt _ (by decide)
  · decide
end Go.Proofs.Ytefkaglgekjlfaa.Hash
namespace Go.Proofs.Ytefkaglgekjlfaa.Sim
open Go.RowKit
set_option maxRecDepth 100000
abbrev fO (w lv b:Int) (k v:ByteArray) (q:Bool):OB:=⟨59,6,[.agg [I w,I lv,I b,S k,S v,Bo q]],0,0⟩
def hN (s:ByteArray) (b:Int):Nat:=Hash.fnv s.data.toList % 2 ^ Hash.cl b
theorem hN_lt (s:ByteArray) (b:Int):hN s b < 18446744073709551616:=by
  unfold hN
  exact Nat.lt_of_le_of_lt (Nat.mod_le _ _) (Hash.fnv_lt _)
section
variable (G:Nat→AV)
theorem of30 (s:ByteArray) (b:Int) (hs:s.size≤100000) (hb:i64 b):PC Try.prog G 30 [S s,I b] (.v (.int .u64 ((hN s b:Nat):Int))) :=
  pc_calls (ys:=[.string s,.int .i64 b]) rfl rfl fun w=>(Hash.Of_calls s b w hs hb).mono fun e w' h=>h.fresh
theorem of41 (s:ByteArray) (b:Int) (hs:s.size≤100000) (hb:i64 b):PC Try.prog G 41 [S s,I b] (.v (.int .u64 ((hN s b:Nat):Int))) :=
  pc_calls (ys:=[.string s,.int .i64 b]) rfl rfl fun w=>(Hash.RefOf_calls s b w hs hb).mono fun e w' h=>h.fresh
theorem ch29 (h:Nat) (l b:Int) (hh:h < 18446744073709551616) (hl:i64 l) (hb:i64 b):PC Try.prog G 29 [.v (.int .u64 (h:Int)),I l,I b] (I (Hash.chunk h l (Hash.cl b):Nat)) :=
  pc_calls (ys:=[.int .u64 h,.int .i64 l,.int .i64 b]) rfl rfl fun w=>(Hash.Chunk_calls h l b w hh hl hb).mono fun e w' h=>h.fresh
theorem ch40 (h:Nat) (l b:Int) (hh:h < 18446744073709551616) (hl:i64 l) (hb:i64 b):PC Try.prog G 40 [.v (.int .u64 (h:Int)),I l,I b] (I (Hash.chunk h l (Hash.cl b):Nat)) :=
  pc_calls (ys:=[.int .u64 h,.int .i64 l,.int .i64 b]) rfl rfl fun w=>(Hash.RefChunk_calls h l b w hh hl hb).mono fun e w' h=>h.fresh
theorem new11 (r:Int) (k:ByteArray) (b:Int):HC Try.prog G 11 [I r,S k,I b] [] (.oa 0 0 0 0) [fO r 0 b k ⟨#[]⟩ false]:=by
  refine hc_ofV cop11 rfl ?_
  repeat' ((conv=>whnf);first|(with_reducible refine SeqP.go ?_)|((with_reducible refine ObD.mk ?_ ?_);exact zD)|(exact ObEnd.eq rfl rfl))
theorem want12 (w lv b:Int) (k v:ByteArray) (q:Bool) (R:Hp):HC Try.prog G 12 [.oa 0 0 0 0] (fO w lv b k v q::R) (I w) (fO w lv b k v q::R):=by
  refine hc_ofV cop12 rfl ?_
  repeat' ((conv=>whnf);first|(with_reducible refine SeqP.go ?_)|((with_reducible refine ObN.mk ?_ ?_);exact zN)|(with_reducible refine ObT.ff ?_)|((with_reducible refine (?_:ObR _ _ _));(first|(refine ObR.mk _ (by first|assumption|with_reducible rfl) ?_)|(refine ObR.map zX (fun x hx=>?_))|(refine ObR.mk _ rfl ?_)))|(exact ObEnd.eq rfl rfl))
theorem ans14 (w lv b:Int) (k v:ByteArray) (q:Bool) (R:Hp):HC Try.prog G 14 [.oa 0 0 0 0] (fO w lv b k v q::R) (.tup [S v,Bo q]) (fO w lv b k v q::R):=by
  refine hc_ofV cop14 rfl ?_
  repeat' ((conv=>whnf);first|(with_reducible refine SeqP.go ?_)|((with_reducible refine ObD.mk ?_ ?_);(focus (first|rfl|(simp;done)|(simp [chkB,geB,AOp.cls,AOp.xs,ltB,ltC,AX.ev,undefA];done))))|((with_reducible refine ObN.mk ?_ ?_);exact zN)|(with_reducible refine ObT.ff ?_)|((with_reducible refine (?_:ObR _ _ _));(first|(refine ObR.mk _ (by first|assumption|with_reducible rfl) ?_)|(refine ObR.map zX (fun x hx=>?_))|(refine ObR.mk _ rfl ?_)))|(exact ObEnd.eq rfl rfl))
end
end Go.Proofs.Ytefkaglgekjlfaa.Sim
namespace Go.Proofs.Ytefkaglgekjlfaa.Sim
open Go.RowKit
set_option maxRecDepth 100000
section
variable (G:Nat→AV) (ke va:ByteArray) (mp:Int) (kk:List Int) (mn:Int) (ls:List Pr) (sz bi:Int)
theorem feed5 (w lv b:Int) (hw:w ≠ 0) (k v:ByteArray) (q:Bool):HC Try.prog G 15 [.oa 0 0 0 0,nV 5 ke va mp kk mn ls sz bi] [fO w lv b k v q] (.tup []) [fO mn lv b k v q]:=by
  have h12:=want12 G w lv b k v q [⟨41,9,[nV 5 ke va mp kk mn ls sz bi],0,0⟩]
  refine hc_ofV cop15 rfl ?_
  repeat' ((conv=>whnf);first|(with_reducible refine SeqP.go ?_)|((with_reducible refine ObD.mk ?_ ?_);(focus (first|rfl|(simp [hw];done)|(simp [chkB,geB,AOp.cls,AOp.xs,ltB,ltC,AX.ev,undefA];done))))|((with_reducible refine ObN.mk ?_ ?_);(focus (first|rfl|assumption|omega|(simp only [List.length_map,List.length_append,List.length_cons,List.length_nil,hw];omega)|(simp [hw];done)|(simp [hw];omega))))|(with_reducible first|refine ObT.tt ?_|refine ObT.ff ?_)|((with_reducible refine ObB.yes ?_ ?_);exact zB)|((with_reducible refine ObB.no ?_ ?_);exact zC)|((with_reducible refine (?_:ObU _ _));(refine ObU.mk _ (by first|assumption|((conv=>lhs;simp only [List.set_cons_zero,List.set_cons_succ,List.take_succ_cons,List.take_zero,List.drop_succ_cons,List.drop_zero,List.nil_append,List.cons_append,List.append_nil,List.take_nil,List.drop_nil,hw]);try rfl)|rfl) ?_))|((with_reducible refine (?_:ObR _ _ _));(first|(refine ObR.mk _ (by first|assumption|with_reducible rfl) ?_)|(refine ObR.map (by (first|omega|assumption|(simp only [List.length_map,List.length_append,List.length_cons,List.length_nil,List.length_take,List.length_drop,List.length_set,List.length_replicate,hw];omega))) (fun x hx=>?_))|(refine ObR.mk _ rfl ?_)))|((with_reducible refine ObH.f 12 ?_);(first|(with_reducible refine ObH.mk _ _ (h12) ?_)|(refine ObH.mk _ _ (h12) ?_))))
  all_goals conv=>whnf
  all_goals refine ObEnd.vw [(0,0,0)] rfl ?_ (by simp) ?_
  all_goals repeat' ((conv=>whnf);first|((with_reducible refine ObN.mk ?_ ?_);exact zN)|((with_reducible refine ObO.l ?_);(with_reducible refine ObN.mk ?_ ?_);(focus (first|rfl|omega)))|((with_reducible refine ObRow.same ?_ ?_ ?_);exact zE;(focus (first|rfl|assumption|(simp;done))))|exact True.intro)
theorem feed2 (w lv b : Int) (hw : w ≠ 0) (hl : 0 ≤ lv ∧ lv ≤ 1000000) (k v : ByteArray) (q : Bool) (n : Nat) (c : Int) (h1 : PC Try.prog G 30 [S k, I b] (.v (.int .u64 (n : Int)))) (ch : Int) (h2 : PC Try.prog G 29 [.v (.int .u64 (n : Int)), I lv, I b] (I ch)) (h3 : PC Try.prog G 28 [nV 2 ke va mp kk mn ls sz bi, I ch] (I c)) :
    HC Try.prog G 15 [.oa 0 0 0 0,nV 2 ke va mp kk mn ls sz bi] [fO w lv b k v q] (.tup []) [fO c (lv+1) b k v q]:=by
  have h12:=want12 G w lv b k v q [⟨41,9,[nV 2 ke va mp kk mn ls sz bi],0,0⟩]
  refine hc_ofV cop15 rfl ?_
  repeat' ((conv=>whnf);first|(with_reducible refine SeqP.go ?_)|((with_reducible refine ObD.mk ?_ ?_);(focus (first|rfl|(simp [hw];done)|(simp [chkB,geB,AOp.cls,AOp.xs,ltB,ltC,AX.ev,undefA];done))))|((with_reducible refine ObN.mk ?_ ?_);(focus (first|rfl|assumption|omega|(simp only [List.length_map,List.length_append,List.length_cons,List.length_nil,hw];omega)|(simp [hw];done)|(simp [hw];omega))))|(with_reducible first|refine ObT.tt ?_|refine ObT.ff ?_)|((with_reducible refine ObB.yes ?_ ?_);exact zB)|((with_reducible refine ObB.no ?_ ?_);exact zC)|((with_reducible refine ObI.mk _ rfl ?_ ?_ ?_);omega;omega)|((with_reducible refine (?_:ObU _ _));(refine ObU.mk _ (by first|assumption|((conv=>lhs;simp only [List.set_cons_zero,List.set_cons_succ,List.take_succ_cons,List.take_zero,List.drop_succ_cons,List.drop_zero,List.nil_append,List.cons_append,List.append_nil,List.take_nil,List.drop_nil,hw]);try rfl)|rfl) ?_))|((with_reducible refine (?_:ObR _ _ _));(first|(refine ObR.mk _ (by first|assumption|with_reducible rfl) ?_)|(refine ObR.map (by (first|omega|assumption|(simp only [List.length_map,List.length_append,List.length_cons,List.length_nil,List.length_take,List.length_drop,List.length_set,List.length_replicate,hw];omega))) (fun x hx=>?_))|(refine ObR.mk _ rfl ?_)))|((with_reducible refine ObH.f 12 ?_);(first|(with_reducible refine ObH.mk _ _ (h12) ?_)|(refine ObH.mk _ _ (h12) ?_)))|((with_reducible refine ObC.f 30 ?_);(first|(with_reducible refine ObC.mk _ (h1) ?_)|(refine ObC.mk _ (h1) ?_)))|((with_reducible refine ObC.f 29 ?_);(first|(with_reducible refine ObC.mk _ (h2) ?_)|(refine ObC.mk _ (h2) ?_)))|((with_reducible refine ObC.f 28 ?_);(first|(with_reducible refine ObC.mk _ (h3) ?_)|(refine ObC.mk _ (h3) ?_))))
  all_goals conv=>whnf
  all_goals refine ObEnd.vw [(0,0,0)] rfl ?_ (by simp) ?_
  all_goals repeat' ((conv=>whnf);first|((with_reducible refine ObN.mk ?_ ?_);exact zN)|((with_reducible refine ObO.l ?_);(with_reducible refine ObN.mk ?_ ?_);(focus (first|rfl|omega)))|((with_reducible refine ObRow.same ?_ ?_ ?_);exact zE;(focus (first|rfl|assumption|(simp;done))))|exact True.intro)
theorem feedL (kn w lv b : Int) (hw : w ≠ 0) (hk : kn = 1 ∨ kn = 6 ∨ kn = 3) (k v : ByteArray) (q : Bool) (o : List Pr) (v' : ByteArray) (q' : Bool) (h1 : PC Try.prog G 32 [nV kn ke va mp kk mn ls sz bi] (.sl 2 (o.map pA))) (h2 : PC Try.prog G 31 [.sl 2 (o.map pA), S k] (.tup [S v', Bo q'])) :
    HC Try.prog G 15 [.oa 0 0 0 0,nV kn ke va mp kk mn ls sz bi] [fO w lv b k v q] (.tup []) [fO 0 lv b k v' q']:=by
  rcases hk with rfl|rfl|rfl<;>refine hc_ofV cop15 rfl ?_
  · repeat' ((conv=>whnf);first|(with_reducible refine SeqP.go ?_)|((with_reducible refine ObD.mk ?_ ?_);(focus (first|rfl|(simp [hw];done)|(simp [chkB,geB,AOp.cls,AOp.xs,ltB,ltC,AX.ev,undefA];done))))|((with_reducible refine ObN.mk ?_ ?_);(focus (first|rfl|assumption|omega|(simp only [List.length_map,List.length_append,List.length_cons,List.length_nil,hw];omega)|(simp [hw];done)|(simp [hw];omega))))|(with_reducible first|refine ObT.tt ?_|refine ObT.ff ?_)|((with_reducible refine ObB.yes ?_ ?_);exact zB)|((with_reducible refine ObB.no ?_ ?_);exact zC)|((with_reducible refine (?_:ObU _ _));(refine ObU.mk _ (by first|assumption|((conv=>lhs;simp only [List.set_cons_zero,List.set_cons_succ,List.take_succ_cons,List.take_zero,List.drop_succ_cons,List.drop_zero,List.nil_append,List.cons_append,List.append_nil,List.take_nil,List.drop_nil,hw]);try rfl)|rfl) ?_))|((with_reducible refine (?_:ObR _ _ _));(first|(refine ObR.mk _ (by first|assumption|with_reducible rfl) ?_)|(refine ObR.map (by (first|omega|assumption|(simp only [List.length_map,List.length_append,List.length_cons,List.length_nil,List.length_take,List.length_drop,List.length_set,List.length_replicate,hw];omega))) (fun x hx=>?_))|(refine ObR.mk _ rfl ?_)))|((with_reducible refine ObH.f 12 ?_);(first|(with_reducible refine ObH.mk _ _ ((want12 G w lv b k v q _)) ?_)|(refine ObH.mk _ _ ((want12 G w lv b k v q _)) ?_)))|((with_reducible refine ObC.f 32 ?_);(first|(with_reducible refine ObC.mk _ (h1) ?_)|(refine ObC.mk _ (h1) ?_)))|((with_reducible refine ObC.f 31 ?_);(first|(with_reducible refine ObC.mk _ (h2) ?_)|(refine ObC.mk _ (h2) ?_))))
    all_goals conv=>whnf
    all_goals refine ObEnd.vw [(0,0,0)] rfl ?_ (by simp) ?_
    all_goals repeat' ((conv=>whnf);first|((with_reducible refine ObN.mk ?_ ?_);exact zN)|((with_reducible refine ObO.l ?_);(with_reducible refine ObN.mk ?_ ?_);(focus (first|rfl|omega)))|((with_reducible refine ObRow.same ?_ ?_ ?_);exact zE;(focus (first|rfl|assumption|(simp;done))))|exact True.intro)
  · repeat' ((conv=>whnf);first|(with_reducible refine SeqP.go ?_)|((with_reducible refine ObD.mk ?_ ?_);(focus (first|rfl|(simp [hw];done)|(simp [chkB,geB,AOp.cls,AOp.xs,ltB,ltC,AX.ev,undefA];done))))|((with_reducible refine ObN.mk ?_ ?_);(focus (first|rfl|assumption|omega|(simp only [List.length_map,List.length_append,List.length_cons,List.length_nil,hw];omega)|(simp [hw];done)|(simp [hw];omega))))|(with_reducible first|refine ObT.tt ?_|refine ObT.ff ?_)|((with_reducible refine ObB.yes ?_ ?_);exact zB)|((with_reducible refine ObB.no ?_ ?_);exact zC)|((with_reducible refine (?_:ObU _ _));(refine ObU.mk _ (by first|assumption|((conv=>lhs;simp only [List.set_cons_zero,List.set_cons_succ,List.take_succ_cons,List.take_zero,List.drop_succ_cons,List.drop_zero,List.nil_append,List.cons_append,List.append_nil,List.take_nil,List.drop_nil,hw]);try rfl)|rfl) ?_))|((with_reducible refine (?_:ObR _ _ _));(first|(refine ObR.mk _ (by first|assumption|with_reducible rfl) ?_)|(refine ObR.map (by (first|omega|assumption|(simp only [List.length_map,List.length_append,List.length_cons,List.length_nil,List.length_take,List.length_drop,List.length_set,List.length_replicate,hw];omega))) (fun x hx=>?_))|(refine ObR.mk _ rfl ?_)))|((with_reducible refine ObH.f 12 ?_);(first|(with_reducible refine ObH.mk _ _ ((want12 G w lv b k v q _)) ?_)|(refine ObH.mk _ _ ((want12 G w lv b k v q _)) ?_)))|((with_reducible refine ObC.f 32 ?_);(first|(with_reducible refine ObC.mk _ (h1) ?_)|(refine ObC.mk _ (h1) ?_)))|((with_reducible refine ObC.f 31 ?_);(first|(with_reducible refine ObC.mk _ (h2) ?_)|(refine ObC.mk _ (h2) ?_))))
    all_goals conv=>whnf
    all_goals refine ObEnd.vw [(0,0,0)] rfl ?_ (by simp) ?_
    all_goals repeat' ((conv=>whnf);first|((with_reducible refine ObN.mk ?_ ?_);exact zN)|((with_reducible refine ObO.l ?_);(with_reducible refine ObN.mk ?_ ?_);(focus (first|rfl|omega)))|((with_reducible refine ObRow.same ?_ ?_ ?_);exact zE;(focus (first|rfl|assumption|(simp;done))))|exact True.intro)
  · repeat' ((conv=>whnf);first|(with_reducible refine SeqP.go ?_)|((with_reducible refine ObD.mk ?_ ?_);(focus (first|rfl|(simp [hw];done)|(simp [chkB,geB,AOp.cls,AOp.xs,ltB,ltC,AX.ev,undefA];done))))|((with_reducible refine ObN.mk ?_ ?_);(focus (first|rfl|assumption|omega|(simp only [List.length_map,List.length_append,List.length_cons,List.length_nil,hw];omega)|(simp [hw];done)|(simp [hw];omega))))|(with_reducible first|refine ObT.tt ?_|refine ObT.ff ?_)|((with_reducible refine ObB.yes ?_ ?_);exact zB)|((with_reducible refine ObB.no ?_ ?_);exact zC)|((with_reducible refine (?_:ObU _ _));(refine ObU.mk _ (by first|assumption|((conv=>lhs;simp only [List.set_cons_zero,List.set_cons_succ,List.take_succ_cons,List.take_zero,List.drop_succ_cons,List.drop_zero,List.nil_append,List.cons_append,List.append_nil,List.take_nil,List.drop_nil,hw]);try rfl)|rfl) ?_))|((with_reducible refine (?_:ObR _ _ _));(first|(refine ObR.mk _ (by first|assumption|with_reducible rfl) ?_)|(refine ObR.map (by (first|omega|assumption|(simp only [List.length_map,List.length_append,List.length_cons,List.length_nil,List.length_take,List.length_drop,List.length_set,List.length_replicate,hw];omega))) (fun x hx=>?_))|(refine ObR.mk _ rfl ?_)))|((with_reducible refine ObH.f 12 ?_);(first|(with_reducible refine ObH.mk _ _ ((want12 G w lv b k v q _)) ?_)|(refine ObH.mk _ _ ((want12 G w lv b k v q _)) ?_)))|((with_reducible refine ObC.f 32 ?_);(first|(with_reducible refine ObC.mk _ (h1) ?_)|(refine ObC.mk _ (h1) ?_)))|((with_reducible refine ObC.f 31 ?_);(first|(with_reducible refine ObC.mk _ (h2) ?_)|(refine ObC.mk _ (h2) ?_))))
    all_goals conv=>whnf
    all_goals refine ObEnd.vw [(0,0,0)] rfl ?_ (by simp) ?_
    all_goals repeat' ((conv=>whnf);first|((with_reducible refine ObN.mk ?_ ?_);exact zN)|((with_reducible refine ObO.l ?_);(with_reducible refine ObN.mk ?_ ?_);(focus (first|rfl|omega)))|((with_reducible refine ObRow.same ?_ ?_ ?_);exact zE;(focus (first|rfl|assumption|(simp;done))))|exact True.intro)
theorem feedX (kn w lv b : Int) (hw : w ≠ 0) (a1 : kn ≠ 1) (a2 : kn ≠ 2) (a3 : kn ≠ 3) (a5 : kn ≠ 5) (a6 : kn ≠ 6) (k v : ByteArray) (q : Bool) :
    HC Try.prog G 15 [.oa 0 0 0 0,nV kn ke va mp kk mn ls sz bi] [fO w lv b k v q] (.tup []) [fO 0 lv b k v q]:=by
  have h12:=want12 G w lv b k v q [⟨41,9,[nV kn ke va mp kk mn ls sz bi],0,0⟩]
  refine hc_ofV cop15 rfl ?_
  repeat' ((conv=>whnf);first|(with_reducible refine SeqP.go ?_)|((with_reducible refine ObD.mk ?_ ?_);(focus (first|rfl|(simp [hw];done)|(simp [chkB,geB,AOp.cls,AOp.xs,ltB,ltC,AX.ev,undefA];done))))|((with_reducible refine ObN.mk ?_ ?_);(focus (first|rfl|assumption|omega|(simp only [List.length_map,List.length_append,List.length_cons,List.length_nil,hw];omega)|(simp [hw];done)|(simp [hw];omega))))|(with_reducible refine ObT.ff ?_)|((with_reducible refine ObB.no ?_ ?_);exact zC)|((with_reducible refine (?_:ObU _ _));(refine ObU.mk _ (by first|assumption|((conv=>lhs;simp only [List.set_cons_zero,List.set_cons_succ,List.take_succ_cons,List.take_zero,List.drop_succ_cons,List.drop_zero,List.nil_append,List.cons_append,List.append_nil,List.take_nil,List.drop_nil,hw]);try rfl)|rfl) ?_))|((with_reducible refine (?_:ObR _ _ _));(first|(refine ObR.mk _ (by first|assumption|with_reducible rfl) ?_)|(refine ObR.map (by (first|omega|assumption|(simp only [List.length_map,List.length_append,List.length_cons,List.length_nil,List.length_take,List.length_drop,List.length_set,List.length_replicate,hw];omega))) (fun x hx=>?_))|(refine ObR.mk _ rfl ?_)))|((with_reducible refine ObH.f 12 ?_);(first|(with_reducible refine ObH.mk _ _ (h12) ?_)|(refine ObH.mk _ _ (h12) ?_))))
  all_goals conv=>whnf
  all_goals refine ObEnd.vw [(0,0,0)] rfl ?_ (by simp) ?_
  all_goals repeat' ((conv=>whnf);first|((with_reducible refine ObN.mk ?_ ?_);exact zN)|((with_reducible refine ObO.l ?_);(with_reducible refine ObN.mk ?_ ?_);(focus (first|rfl|omega)))|((with_reducible refine ObRow.same ?_ ?_ ?_);exact zE;(focus (first|rfl|assumption|(simp;done))))|exact True.intro)
end
end Go.Proofs.Ytefkaglgekjlfaa.Sim
namespace Go.Proofs.Ytefkaglgekjlfaa.Sim
open Go.RowKit
set_option maxRecDepth 100000
theorem fzL_p2 {H:Hp} {xs:List AV} {k:List AV→Hp→Prop} (h:xs.all AV.isC0=true) (hk:k xs H):fzL H xs k:=by
  induction xs generalizing k with
  | nil=>exact hk
  | cons a xs ih =>
    simp only [List.all_cons,Bool.and_eq_true] at h
    have h2:fzL H xs (fun xs' H''=>k (a::xs') H''):=ih h.2 hk
    cases a with
    | v x=>exact h2
    | sl=>exact h2
    | ad=>exact h2
    | _=>simp [AV.isC0] at h
theorem c0_l {a:List Int} {s t:Int}:(a.map iA++[I s,I t]).all AV.isC0=true:=by simp [AV.isC0,iA]
section
variable (G:Nat→AV) (ke va:ByteArray) (mp:Int) (kk:List Int) (mn:Int) (ls:List Pr) (sz bi:Int)
theorem nx5 (lv b:Int) (k:ByteArray):PC Try.prog G 26 [nV 5 ke va mp kk mn ls sz bi,S k,I lv,I b] (.tup [I mn,I lv]):=by
  refine pc_ofV cop26 ?_
  repeat' ((conv=>whnf);first|(with_reducible refine SeqP.go ?_)|((with_reducible refine ObD.mk ?_ ?_);exact zD)|((with_reducible refine ObN.mk ?_ ?_);exact zN)|(with_reducible refine ObT.tt ?_)|((with_reducible refine ObB.yes ?_ ?_);exact zB)|((with_reducible refine (?_:ObR _ _ _));(first|(refine ObR.mk _ (by first|assumption|with_reducible rfl) ?_)|(refine ObR.map zX (fun x hx=>?_))|(refine ObR.mk _ rfl ?_)))|((with_reducible refine ObEq.mk ?_);exact zE))
theorem nx2 (lv b : Int) (hl : 0 ≤ lv ∧ lv ≤ 1000000) (k : ByteArray) (n : Nat) (c : Int) (a : List Int) (s t : Int) (h0 : PC Try.prog G 38 [nV 2 ke va mp kk mn ls sz bi] (.agg (a.map iA ++ [I s, I t]))) (h1 : PC Try.prog G 41 [S k, I b] (.v (.int .u64 (n : Int)))) (ch : Int) (h2 : PC Try.prog G 40 [.v (.int .u64 (n : Int)), I lv, I b] (I ch)) (h3 : PC Try.prog G 39 [.agg (a.map iA ++ [I s, I t]), I ch] (I c)) :
    PC Try.prog G 26 [nV 2 ke va mp kk mn ls sz bi,S k,I lv,I b] (.tup [I c,I (lv+1)]):=by
  refine pc_ofV cop26 ?_
  repeat' ((conv=>whnf);first|(with_reducible refine SeqP.go ?_)|((with_reducible refine (?_:fzL _ _ _));(refine fzL_p2 c0_l ?_))|((with_reducible refine ObD.mk ?_ ?_);exact zD)|((with_reducible refine ObN.mk ?_ ?_);exact zN)|(with_reducible first|refine ObT.tt ?_|refine ObT.ff ?_)|((with_reducible refine ObB.yes ?_ ?_);exact zB)|((with_reducible refine ObB.no ?_ ?_);exact zC)|((with_reducible refine ObI.mk _ rfl ?_ ?_ ?_);omega;omega)|((with_reducible refine (?_:ObR _ _ _));(first|(refine ObR.mk _ (by first|assumption|with_reducible rfl) ?_)|(refine ObR.map zX (fun x hx=>?_))|(refine ObR.mk _ rfl ?_)))|((with_reducible refine ObC.f 38 ?_);(first|(with_reducible refine ObC.mk _ (h0) ?_)|(refine ObC.mk _ (h0) ?_)))|((with_reducible refine ObC.f 41 ?_);(first|(with_reducible refine ObC.mk _ (h1) ?_)|(refine ObC.mk _ (h1) ?_)))|((with_reducible refine ObC.f 40 ?_);(first|(with_reducible refine ObC.mk _ (h2) ?_)|(refine ObC.mk _ (h2) ?_)))|((with_reducible refine ObC.f 39 ?_);(first|(with_reducible refine ObC.mk _ (h3) ?_)|(refine ObC.mk _ (h3) ?_)))|((with_reducible refine ObEq.mk ?_);exact zE))
theorem nxX (kn lv b:Int) (a2:kn ≠ 2) (a5:kn ≠ 5) (k:ByteArray):PC Try.prog G 26 [nV kn ke va mp kk mn ls sz bi,S k,I lv,I b] (.tup [I 0,I lv]):=by
  refine pc_ofV cop26 ?_
  repeat' ((conv=>whnf);first|(with_reducible refine SeqP.go ?_)|((with_reducible refine ObD.mk ?_ ?_);exact zD)|((with_reducible refine ObN.mk ?_ ?_);exact zN)|(with_reducible refine ObT.ff ?_)|((with_reducible refine ObB.no ?_ ?_);exact zC)|((with_reducible refine (?_:ObR _ _ _));(first|(refine ObR.mk _ (by first|assumption|with_reducible rfl) ?_)|(refine ObR.map zX (fun x hx=>?_))|(refine ObR.mk _ rfl ?_)))|((with_reducible refine ObEq.mk ?_);exact zE))
theorem bd3 (k v:ByteArray) (q:Bool) (h:PC Try.prog G 20 [.sl 2 (ls.map pA),S k] (.tup [S v,Bo q])):PC Try.prog G 25 [nV 3 ke va mp kk mn ls sz bi,S k] (.tup [S v,Bo q]):=by
  refine pc_ofV cop25 ?_
  repeat' ((conv=>whnf);first|(with_reducible refine SeqP.go ?_)|((with_reducible refine ObD.mk ?_ ?_);exact zD)|((with_reducible refine ObN.mk ?_ ?_);exact zN)|(with_reducible refine ObT.tt ?_)|((with_reducible refine ObB.yes ?_ ?_);exact zB)|((with_reducible refine (?_:ObR _ _ _));(first|(refine ObR.mk _ (by first|assumption|with_reducible rfl) ?_)|(refine ObR.map zX (fun x hx=>?_))|(refine ObR.mk _ rfl ?_)))|((with_reducible refine ObC.f 20 ?_);(first|(with_reducible refine ObC.mk _ (h) ?_)|(refine ObC.mk _ (h) ?_)))|((with_reducible refine ObEq.mk ?_);exact zE))
theorem bdL (kn:Int) (hk:kn=1∨kn=6) (k:ByteArray) (h:ke=k):PC Try.prog G 25 [nV kn ke va mp kk mn ls sz bi,S k] (.tup [S va,Bo true]):=by
  rcases hk with rfl|rfl<;>refine pc_ofV cop25 ?_
  · repeat' ((conv=>whnf);first|(with_reducible refine SeqP.go ?_)|((with_reducible refine ObD.mk ?_ ?_);(focus (first|rfl|(simp [h];done))))|((with_reducible refine ObN.mk ?_ ?_);(focus (first|rfl|assumption|omega|(simp only [List.length_map,List.length_append,List.length_cons,List.length_nil,h];omega)|(simp [h];done)|(simp [h];omega))))|(with_reducible first|refine ObT.tt ?_|refine ObT.ff ?_)|((with_reducible refine ObB.yes ?_ ?_);exact zB)|((with_reducible refine ObB.no ?_ ?_);exact zC)|((with_reducible refine (?_:ObR _ _ _));(first|(refine ObR.mk _ (by first|assumption|with_reducible rfl) ?_)|(refine ObR.map (by (first|omega|assumption|(simp only [List.length_map,List.length_append,List.length_cons,List.length_nil,List.length_take,List.length_drop,List.length_set,List.length_replicate,h];omega))) (fun x hx=>?_))|(refine ObR.mk _ rfl ?_)))|((with_reducible refine ObEq.mk ?_);exact zE))
  · repeat' ((conv=>whnf);first|(with_reducible refine SeqP.go ?_)|((with_reducible refine ObD.mk ?_ ?_);(focus (first|rfl|(simp [h];done))))|((with_reducible refine ObN.mk ?_ ?_);(focus (first|rfl|assumption|omega|(simp only [List.length_map,List.length_append,List.length_cons,List.length_nil,h];omega)|(simp [h];done)|(simp [h];omega))))|(with_reducible first|refine ObT.tt ?_|refine ObT.ff ?_)|((with_reducible refine ObB.yes ?_ ?_);exact zB)|((with_reducible refine ObB.no ?_ ?_);exact zC)|((with_reducible refine (?_:ObR _ _ _));(first|(refine ObR.mk _ (by first|assumption|with_reducible rfl) ?_)|(refine ObR.map (by (first|omega|assumption|(simp only [List.length_map,List.length_append,List.length_cons,List.length_nil,List.length_take,List.length_drop,List.length_set,List.length_replicate,h];omega))) (fun x hx=>?_))|(refine ObR.mk _ rfl ?_)))|((with_reducible refine ObEq.mk ?_);exact zE))
theorem bdN (kn:Int) (hk:kn=1∨kn=6) (k:ByteArray) (h:ke ≠ k):PC Try.prog G 25 [nV kn ke va mp kk mn ls sz bi,S k] (.tup [S ⟨#[]⟩,Bo false]):=by
  rcases hk with rfl|rfl<;>refine pc_ofV cop25 ?_
  · repeat' ((conv=>whnf);first|(with_reducible refine SeqP.go ?_)|((with_reducible refine ObD.mk ?_ ?_);(focus (first|rfl|(simp [h];done))))|((with_reducible refine ObN.mk ?_ ?_);(focus (first|rfl|assumption|omega|(simp only [List.length_map,List.length_append,List.length_cons,List.length_nil,h];omega)|(simp [h];done)|(simp [h];omega))))|(with_reducible first|refine ObT.tt ?_|refine ObT.ff ?_)|((with_reducible refine ObB.yes ?_ ?_);exact zB)|((with_reducible refine ObB.no ?_ ?_);exact zC)|((with_reducible refine (?_:ObR _ _ _));(first|(refine ObR.mk _ (by first|assumption|with_reducible rfl) ?_)|(refine ObR.map (by (first|omega|assumption|(simp only [List.length_map,List.length_append,List.length_cons,List.length_nil,List.length_take,List.length_drop,List.length_set,List.length_replicate,h];omega))) (fun x hx=>?_))|(refine ObR.mk _ rfl ?_)))|((with_reducible refine ObEq.mk ?_);exact zE))
  · repeat' ((conv=>whnf);first|(with_reducible refine SeqP.go ?_)|((with_reducible refine ObD.mk ?_ ?_);(focus (first|rfl|(simp [h];done))))|((with_reducible refine ObN.mk ?_ ?_);(focus (first|rfl|assumption|omega|(simp only [List.length_map,List.length_append,List.length_cons,List.length_nil,h];omega)|(simp [h];done)|(simp [h];omega))))|(with_reducible first|refine ObT.tt ?_|refine ObT.ff ?_)|((with_reducible refine ObB.yes ?_ ?_);exact zB)|((with_reducible refine ObB.no ?_ ?_);exact zC)|((with_reducible refine (?_:ObR _ _ _));(first|(refine ObR.mk _ (by first|assumption|with_reducible rfl) ?_)|(refine ObR.map (by (first|omega|assumption|(simp only [List.length_map,List.length_append,List.length_cons,List.length_nil,List.length_take,List.length_drop,List.length_set,List.length_replicate,h];omega))) (fun x hx=>?_))|(refine ObR.mk _ rfl ?_)))|((with_reducible refine ObEq.mk ?_);exact zE))
theorem bdX (kn:Int) (k:ByteArray) (a1:kn ≠ 1) (a3:kn ≠ 3) (a6:kn ≠ 6):PC Try.prog G 25 [nV kn ke va mp kk mn ls sz bi,S k] (.tup [S ⟨#[]⟩,Bo false]):=by
  refine pc_ofV cop25 ?_
  repeat' ((conv=>whnf);first|(with_reducible refine SeqP.go ?_)|((with_reducible refine ObD.mk ?_ ?_);exact zD)|((with_reducible refine ObN.mk ?_ ?_);exact zN)|(with_reducible refine ObT.ff ?_)|((with_reducible refine ObB.no ?_ ?_);exact zC)|((with_reducible refine (?_:ObR _ _ _));(first|(refine ObR.mk _ (by first|assumption|with_reducible rfl) ?_)|(refine ObR.map zX (fun x hx=>?_))|(refine ObR.mk _ rfl ?_)))|((with_reducible refine ObEq.mk ?_);exact zE))
end
end Go.Proofs.Ytefkaglgekjlfaa.Sim
namespace Go.Proofs.Ytefkaglgekjlfaa.Sim
open Go.RowKit
set_option maxRecDepth 100000
theorem i_snoc {l:List Int} {x:Int}:(l.map iA).take l.length++[.v (.int .i64 x)]=(l++[x]).map iA:=by
  rw [List.take_of_length_le (by simp)];simp [iA]
section
variable (G:Nat→AV)
end
end Go.Proofs.Ytefkaglgekjlfaa.Sim
namespace Go.Proofs.Ytefkaglgekjlfaa.Sim
open Go.RowKit
set_option maxRecDepth 100000
theorem i_all {l:List Int}:(l.map iA).take l.length=l.map iA:=List.take_of_length_le (by simp)
section
variable (G:Nat→AV)
end
end Go.Proofs.Ytefkaglgekjlfaa.Sim
namespace Go.Proofs.Ytefkaglgekjlfaa.Sim.Pr7
open Go.RowKit
abbrev Pr:=ByteArray × ByteArray
def cB (a b:ByteArray):Int:=Ord.cmp a.data.toList b.data.toList
theorem ba_ext {a b:ByteArray} (h:a.data.toList=b.data.toList):a=b:=by
  cases a;cases b
  simp only [ByteArray.mk.injEq]
  exact Array.ext' h
theorem cB_self (a:ByteArray):cB a a=0:=Ord.cmp_self _
theorem cB_zero {a b:ByteArray}:cB a b=0↔a=b:=⟨fun e=>ba_ext ((Ord.cmp_zero _ _).1 e),fun e=>by subst e;exact cB_self a⟩
theorem cB_ne {a b:ByteArray} (h:¬ a=b):¬ cB a b=0:=fun e=>h (cB_zero.1 e)
theorem cB_anti (a b:ByteArray):cB b a = - cB a b:=Ord.cmp_anti _ _
theorem cB_le {a b c:ByteArray} (h1:cB a b≤0) (h2:cB b c≤0):cB a c≤0:=(Ord.cmp_trans _ _ _ h1 h2).1
theorem cB_lt1 {a b c:ByteArray} (h1:cB a b < 0) (h2:cB b c≤0):cB a c < 0:=(Ord.cmp_trans _ _ _ (by unfold cB at h1;omega) h2).2 (.inl h1)
theorem cB_lt2 {a b c:ByteArray} (h1:cB a b≤0) (h2:cB b c < 0):cB a c < 0:=(Ord.cmp_trans _ _ _ h1 (by unfold cB at h2;omega)).2 (.inr h2)
theorem cB_eq {a b:ByteArray} (h1:cB a b≤0) (h2:cB b a≤0):a=b:=cB_zero.1 (by rw [cB_anti a b] at h2;omega)
theorem cB_cases (a b:ByteArray):cB a b = -1∨cB a b=0∨cB a b=1:=Ord.cmp_cases _ _
def SLe (l:List Pr):Prop:=l.Pairwise fun p q=>cB p.1 q.1≤0
def SLt (l:List Pr):Prop:=l.Pairwise fun p q=>cB p.1 q.1 < 0
theorem SLt.le {l:List Pr} (h:SLt l):SLe l:=List.Pairwise.imp (fun h=>by omega) h
def fk (k:ByteArray) (l:List Pr):List Pr:=l.filter fun p=>decide (p.1=k)
theorem fk_nil {k:ByteArray}:fk k []=[]:=rfl
theorem fk_cons {k:ByteArray} {p:Pr} {l:List Pr}:fk k (p::l)=if p.1=k then p::fk k l else fk k l:=by
  unfold fk;rw [List.filter_cons];simp
theorem fk_append {k:ByteArray} {l m:List Pr}:fk k (l++m)=fk k l++fk k m:=List.filter_append ..
theorem mem_fk {k:ByteArray} {p:Pr} {l:List Pr}:p ∈ fk k l↔p ∈ l∧p.1=k:=by unfold fk;rw [List.mem_filter];simp
theorem fk_none {k:ByteArray} {l:List Pr}:fk k l=[]↔∀ p ∈ l,p.1 ≠ k:=by
  unfold fk;rw [List.filter_eq_nil_iff];simp
theorem srt_uniq:∀ {l l':List Pr},SLe l→SLe l'→(∀ k,fk k l=fk k l')→l=l'
  | [],[],_,_,_=>rfl
  | [],q::l',_,_,h=>by have:=h q.1;rw [fk_nil,fk_cons,if_pos rfl] at this;cases this
  | p::l,[],_,_,h=>by have:=h p.1;rw [fk_nil,fk_cons,if_pos rfl] at this;cases this
  | p::l,q::l',h1,h2,h=>by
    have hp:p ∈ q::l':=(mem_fk.1 (by rw [← h p.1,fk_cons,if_pos rfl];simp)).1
    have hq:q ∈ p::l:=(mem_fk.1 (by rw [h q.1,fk_cons,if_pos rfl];simp)).1
    have k1:cB q.1 p.1≤0:=by
      rcases List.mem_cons.1 hp with rfl|hp
      · rw [cB_self];omega
      · exact (List.pairwise_cons.1 h2).1 p hp
    have k2:cB p.1 q.1≤0:=by
      rcases List.mem_cons.1 hq with rfl|hq
      · rw [cB_self];omega
      · exact (List.pairwise_cons.1 h1).1 q hq
    have hk:p.1=q.1:=cB_eq k2 k1
    have e:p=q:=by
      have:=h p.1
      rw [fk_cons,fk_cons,if_pos rfl,if_pos hk.symm] at this
      exact (List.cons.inj this).1
    subst e
    rw [srt_uniq (List.pairwise_cons.1 h1).2 (List.pairwise_cons.1 h2).2 fun k=>?_]
    have:=h k
    rw [fk_cons,fk_cons] at this
    split at this
    · exact (List.cons.inj this).2
    · exact this
def ins (p:Pr):List Pr→List Pr
  | []=>[p]
  | q::l=>if cB p.1 q.1≤0 then p::q::l else q::ins p l
theorem ins_mem {p x:Pr}:∀ {l:List Pr},x ∈ ins p l→x=p∨x ∈ l
  | [],h=>by simp [ins] at h;exact .inl h
  | q::l,h=>by
    unfold ins at h
    split at h
    · rcases List.mem_cons.1 h with h | h
      · exact .inl h
      · exact .inr h
    · rcases List.mem_cons.1 h with h | h
      · exact .inr (by simp [h])
      · rcases ins_mem h with h | h
        · exact .inl h
        · exact .inr (by simp [h])
theorem ins_fk {p:Pr} {k:ByteArray}:∀ {l:List Pr},fk k (ins p l)=fk k (p::l)
  | []=>rfl
  | q::l=>by
    unfold ins
    split
    · rfl
    · rename_i h
      rw [fk_cons,ins_fk,fk_cons,fk_cons,fk_cons]
      by_cases h1:q.1=k<;>by_cases h2:p.1=k
      · exfalso;apply h;rw [h1,h2,cB_self];omega
      all_goals simp [h1,h2]
theorem ins_le {p:Pr}:∀ {l:List Pr},SLe l→SLe (ins p l)
  | [],_=>by simp [ins,SLe]
  | q::l,h=>by
    obtain ⟨h1,h2⟩:=List.pairwise_cons.1 h
    unfold ins
    split
    · rename_i hpq
      refine List.pairwise_cons.2 ⟨fun x hx=>?_,h⟩
      rcases List.mem_cons.1 hx with rfl|hx
      · exact hpq
      · exact cB_le hpq (h1 x hx)
    · rename_i hpq
      refine List.pairwise_cons.2 ⟨fun x hx=>?_,ins_le h2⟩
      rcases ins_mem hx with rfl|hx
      · rw [cB_anti x.1 q.1];omega
      · exact h1 x hx
def ssort:List Pr→List Pr
  | []=>[]
  | p::l=>ins p (ssort l)
theorem ssort_le:∀ (l:List Pr),SLe (ssort l)
  | []=>List.Pairwise.nil
  | p::l=>ins_le (ssort_le l)
theorem ssort_fk {k:ByteArray}:∀ (l:List Pr),fk k (ssort l)=fk k l
  | []=>rfl
  | p::l=>by rw [ssort,ins_fk,fk_cons,fk_cons,ssort_fk l]
def val (l:List Pr) (k:ByteArray):Option ByteArray:=(fk k l).getLast?.map (·.2)
theorem val_append {l m:List Pr} {k:ByteArray}:val (l++m) k=(val m k).or (val l k):=by
  unfold val
  rw [fk_append,List.getLast?_append]
  cases (fk k m).getLast?<;>rfl
theorem val_nil {k:ByteArray}:val [] k=none:=rfl
theorem val_one {p:Pr} {k:ByteArray}:val [p] k=if p.1=k then some p.2 else none:=by
  unfold val;rw [fk_cons,fk_nil];split<;>rfl
theorem val_cons {p:Pr} {l:List Pr} {k:ByteArray}:val (p::l) k=(val l k).or (if p.1=k then some p.2 else none):=by
  rw [← val_one];exact val_append (l:=[p])
theorem val_none {l:List Pr} {k:ByteArray}:val l k=none↔fk k l=[]:=by
  unfold val;simp
theorem fk_lt {l:List Pr} (h:SLt l) (k:ByteArray):fk k l=match val l k with|some v=>[(k,v)]|none=>[]:=by
  have hp:(fk k l).Pairwise fun p q=>cB p.1 q.1 < 0:=List.Pairwise.filter _ h
  unfold val
  cases hf:fk k l with
  | nil=>rfl
  | cons p t =>
    have h1:p.1=k:=(mem_fk.1 (by rw [hf];simp:p ∈ fk k l)).2
    cases t with
    | nil=>simp [← h1]
    | cons q t =>
      exfalso
      have h2:q.1=k:=(mem_fk.1 (by rw [hf];simp:q ∈ fk k l)).2
      rw [hf] at hp
      have:=(List.pairwise_cons.1 hp).1 q (by simp)
      rw [h1,h2,cB_self] at this
      omega
theorem lt_uniq {l l':List Pr} (h1:SLt l) (h2:SLt l') (h:∀ k,val l k=val l' k):l=l' :=
  srt_uniq h1.le h2.le fun k=>by rw [fk_lt h1,fk_lt h2,h]
def lasts:List Pr→List Pr
  | []=>[]
  | p::l=>if fk p.1 l=[] then p::lasts l else lasts l
theorem lasts_sub:∀ (l:List Pr),(lasts l).Sublist l
  | []=>List.Sublist.slnil
  | p::l=>by
    unfold lasts
    split
    · exact (lasts_sub l).cons_cons p
    · exact (lasts_sub l).cons p
theorem lasts_val {k:ByteArray}:∀ (l:List Pr),val (lasts l) k=val l k
  | []=>rfl
  | p::l=>by
    unfold lasts
    split
    · rw [val_cons,val_cons,lasts_val l]
    · rename_i h
      rw [lasts_val l,val_cons]
      by_cases hk:p.1=k
      · rw [hk] at h
        cases hv:val l k with
        | none=>exact absurd (val_none.1 hv) h
        | some v=>rfl
      · rw [if_neg hk];cases val l k<;>rfl
theorem lasts_ne:∀ (l:List Pr),(lasts l).Pairwise fun p q=>p.1 ≠ q.1
  | []=>List.Pairwise.nil
  | p::l=>by
    unfold lasts
    split
    · rename_i h
      exact List.pairwise_cons.2 ⟨fun q hq e=>fk_none.1 h q ((lasts_sub l).subset hq) e.symm,lasts_ne l⟩
    · exact lasts_ne l
theorem le_ne {l:List Pr} (h1:SLe l) (h2:l.Pairwise fun p q=>p.1 ≠ q.1):SLt l:=by
  refine (List.Pairwise.and h1 h2).imp fun {p q} h=>?_
  have:=cB_ne h.2
  omega
theorem ssort_ne:∀ {l:List Pr},l.Pairwise (fun p q=>p.1 ≠ q.1)→SLt (ssort l):=fun {l} h=>by
  refine le_ne (ssort_le l) ?_
  induction l with
  | nil=>exact List.Pairwise.nil
  | cons p l ih =>
    obtain ⟨h1,h2⟩:=List.pairwise_cons.1 h
    have hm:∀ x ∈ ssort l,x ∈ l:=fun x hx=>by
      have:x ∈ fk x.1 (ssort l):=mem_fk.2 ⟨hx,rfl⟩
      rw [ssort_fk] at this
      exact (mem_fk.1 this).1
    have key:∀ m:List Pr,(∀ x ∈ m,p.1 ≠ x.1)→m.Pairwise (fun p q=>p.1 ≠ q.1)→(ins p m).Pairwise fun p q=>p.1 ≠ q.1:=by
      intro m
      induction m with
      | nil=>intro _ _;simp [ins]
      | cons q m ihm =>
        intro g1 g2
        unfold ins
        split
        · exact List.pairwise_cons.2 ⟨g1,g2⟩
        · refine List.pairwise_cons.2 ⟨fun x hx=>?_,ihm (fun x hx=>g1 x (by simp [hx])) (List.pairwise_cons.1 g2).2⟩
          rcases ins_mem hx with rfl|hx
          · exact fun e=>g1 q (by simp) e.symm
          · exact (List.pairwise_cons.1 g2).1 x hx
    exact key _ (fun x hx=>h1 x (hm x hx)) (ih h2)
def mk (l:List Pr):List Pr:=ssort (lasts l)
theorem mk_lt (l:List Pr):SLt (mk l):=ssort_ne (lasts_ne l)
theorem mk_val (l:List Pr) (k:ByteArray):val (mk l) k=val l k:=by
  rw [← lasts_val l];unfold val mk;rw [ssort_fk]
theorem eq_mk {m l:List Pr} (h:SLt m) (hv:∀ k,val m k=val l k):m=mk l:=lt_uniq h (mk_lt l) fun k=>by rw [hv,mk_val]
theorem mk_of {l:List Pr} (h:SLt l):mk l=l:=(eq_mk h fun _=>rfl).symm
theorem mk_mem {l:List Pr} {p:Pr} (h:p ∈ mk l):p ∈ l:=by
  have:p ∈ fk p.1 (mk l):=mem_fk.2 ⟨h,rfl⟩
  unfold mk at this
  rw [ssort_fk] at this
  exact (lasts_sub l).subset (mem_fk.1 this).1
theorem mk_len (l:List Pr):(mk l).length≤l.length:=by
  have key:∀ m:List Pr,(ssort m).length=m.length:=by
    intro m
    induction m with
    | nil=>rfl
    | cons p m ih =>
      have:∀ n:List Pr,(ins p n).length=n.length+1:=by
        intro n
        induction n with
        | nil=>rfl
        | cons q n ihn=>unfold ins;split<;>simp [ihn]
      rw [ssort,this,ih];rfl
  unfold mk;rw [key];exact (lasts_sub l).length_le
theorem filter_split {f:Pr→Bool}:∀ {m:List Pr},m.Pairwise (fun p q=>f q=true→f p=true)→m=m.filter f++m.filter (fun p=>!f p)
  | [],_=>rfl
  | p::m,h=>by
    obtain ⟨h1,h2⟩:=List.pairwise_cons.1 h
    by_cases hp:f p=true
    · rw [List.filter_cons, if_pos hp, List.filter_cons, if_neg (by simp [hp])]
      rw [List.cons_append,← filter_split h2]
    · have e1:m.filter f=[]:=List.filter_eq_nil_iff.2 fun q hq hf=>hp (h1 q hq hf)
      have e2:m.filter (fun p=>!f p)=m:=List.filter_eq_self.2 fun q hq=>by
        cases hf:f q with
        | false=>rfl
        | true=>exact absurd (h1 q hq hf) hp
      rw [List.filter_cons,if_neg hp,List.filter_cons,if_pos (by simp [hp]),e1,e2];rfl
theorem val_filter {f:ByteArray→Bool} {m:List Pr} {k:ByteArray}:fk k (m.filter fun p=>f p.1)=if f k=true then fk k m else []:=by
  unfold fk
  rw [List.filter_filter]
  by_cases h:f k=true
  · rw [if_pos h]
    apply List.filter_congr
    intro p _
    by_cases hp:p.1=k
    · simp [hp,h]
    · simp [hp]
  · rw [if_neg h, List.filter_eq_nil_iff]
    intro p _
    by_cases hp:p.1=k
    · simp [hp,h]
    · simp [hp]
def lo (m:List Pr) (k:ByteArray):List Pr:=m.filter fun p=>decide (cB p.1 k < 0)
def le (m:List Pr) (k:ByteArray):List Pr:=m.filter fun p=>decide (cB p.1 k≤0)
def hi (m:List Pr) (k:ByteArray):List Pr:=m.filter fun p=>decide (cB k p.1 < 0)
def pt (m:List Pr) (k v:ByteArray):List Pr:=lo m k++(k,v)::hi m k
theorem fk_lo {m:List Pr} {k x:ByteArray}:fk x (lo m k)=if cB x k < 0 then fk x m else []:=by
  have:=val_filter (f:=fun y=>decide (cB y k < 0)) (m:=m) (k:=x)
  simpa [lo] using this
theorem fk_hi {m:List Pr} {k x:ByteArray}:fk x (hi m k)=if cB k x < 0 then fk x m else []:=by
  have:=val_filter (f:=fun y=>decide (cB k y < 0)) (m:=m) (k:=x)
  simpa [hi] using this
theorem lo_split {m:List Pr} (h:SLe m) (k:ByteArray):m=lo m k++m.filter (fun p=>!decide (cB p.1 k < 0)):=by
  refine filter_split (f:=fun p=>decide (cB p.1 k < 0)) (h.imp fun {p q} hpq hq=>?_)
  simp only [decide_eq_true_eq] at hq ⊢
  exact cB_lt2 hpq hq
theorem le_split {m:List Pr} (h:SLe m) (k:ByteArray):m=le m k++hi m k:=by
  have e:hi m k=m.filter (fun p=>!decide (cB p.1 k≤0)):=by
    apply List.filter_congr
    intro p _
    rw [cB_anti p.1 k]
    by_cases hp:cB p.1 k≤0
    · simp [hp]
    · simp [hp];omega
  rw [e]
  refine filter_split (f:=fun p=>decide (cB p.1 k≤0)) (h.imp fun {p q} hpq hq=>?_)
  simp only [decide_eq_true_eq] at hq ⊢
  exact cB_le hpq hq
theorem pt_lt {m:List Pr} (h:SLt m) (k v:ByteArray):SLt (pt m k v):=by
  unfold pt SLt
  refine List.pairwise_append.2 ⟨List.Pairwise.filter _ h,List.pairwise_cons.2 ⟨fun q hq=>?_,List.Pairwise.filter _ h⟩,fun p hp q hq=>?_⟩
  · have:=(List.mem_filter.1 hq).2;simpa using this
  · have h1 : cB p.1 k < 0 := by have := (List.mem_filter.1 hp).2; simpa using this
    rcases List.mem_cons.1 hq with rfl|hq
    · exact h1
    · have h2 : cB k q.1 < 0 := by have := (List.mem_filter.1 hq).2; simpa using this
      exact cB_lt1 h1 (by omega)
theorem pt_val {m:List Pr} (k v x:ByteArray):val (pt m k v) x=if k=x then some v else val m x:=by
  unfold val pt
  rw [fk_append,fk_cons,fk_lo,fk_hi]
  by_cases hx:k=x
  · subst hx
    rw [cB_self];simp
  · have hc := cB_cases k x
    have hn:=cB_ne hx
    rw [if_neg hx,if_neg hx,cB_anti k x]
    rcases hc with h|h|h
    · simp [h]
    · exact absurd h hn
    · simp [h]
theorem pt_mk (l:List Pr) (k v:ByteArray):pt (mk l) k v=mk (l++[(k,v)]):=by
  refine eq_mk (pt_lt (mk_lt l) k v) fun x=>?_
  rw [pt_val,val_append,val_one,mk_val]
  by_cases h:k=x
  · simp [h]
  · simp [h]
theorem le_lo {m:List Pr} (h:SLt m) (k:ByteArray):le m k=lo m k++fk k m:=by
  refine srt_uniq (List.Pairwise.filter _ h.le) ?_ fun x=>?_
  · refine List.pairwise_append.2 ⟨List.Pairwise.filter _ h.le,List.Pairwise.filter _ h.le,fun p hp q hq=>?_⟩
    have h1:cB p.1 k < 0:=by have:=(List.mem_filter.1 hp).2;simpa using this
    rw [(mem_fk.1 hq).2];omega
  · have e1 : fk x (le m k) = if cB x k ≤ 0 then fk x m else [] := by
      have:=val_filter (f:=fun y=>decide (cB y k≤0)) (m:=m) (k:=x)
      simpa [le] using this
    have e2:fk x (fk k m)=if x=k then fk x m else []:=by
      have:=val_filter (f:=fun y=>decide (y=k)) (m:=m) (k:=x)
      simpa [fk] using this
    rw [fk_append,fk_lo,e1,e2]
    by_cases hx:x=k
    · subst hx;rw [cB_self];simp
    · have hn := cB_ne hx
      have hc:=cB_cases x k
      rcases hc with h|h|h
      · simp [h,hx]
      · exact absurd h hn
      · simp [h,hx]
theorem get_le {m:List Pr} (h:SLt m) (k:ByteArray):val m k=match (le m k).getLast? with|some p=>if p.1=k then some p.2 else none|none=>none:=by
  rw [le_lo h,fk_lt h]
  cases hv:val m k with
  | some v=>simp
  | none =>
    simp only [List.append_nil]
    cases hl:(lo m k).getLast? with
    | none=>rfl
    | some p =>
      have:=(List.mem_filter.1 (List.mem_of_getLast? hl)).2
      simp only [decide_eq_true_eq] at this
      have hne:¬ p.1=k:=fun e=>by rw [e,cB_self] at this;omega
      simp [hne]
end Go.Proofs.Ytefkaglgekjlfaa.Sim.Pr7
namespace Go.Proofs.Ytefkaglgekjlfaa.Sim.Pr7
open Go.RowKit
set_option maxRecDepth 100000
def pA (p:Pr):AV:=.agg [S p.1,S p.2]
theorem pA_at {l:List Pr} {k:Nat} (h:k < l.length):(l.map pA)[k]? = some (.agg [S l[k].1,S l[k].2]):=by simp [h,pA]
theorem all_pA (l:List Pr):(l.map pA).all AV.isP=true:=by simp [pA,AV.isP,AV.isC,AV.isC0]
def cutB (s:ByteArray) (m:Nat):ByteArray:=s.extract 0 (min s.size m)
set_option maxHeartbeats 4000000 in
theorem cutP (G:Nat→AV) (s:ByteArray) (m:Nat) (hs:s.size≤9223372036854775807):PC Try.prog G 7 [S s,I m] (S (cutB s m)):=by
  have e:(if (m:Int) < (s.size:Int) then (m:Int) else (s.size:Int))=((min s.size m:Nat):Int):=by split<;>omega
  have e2:pureRun Try.prog (Instr.sliceAt 9 (.string s) none (some (.int .i64 ((min s.size m:Nat):Int))) none)=some (.string (cutB s m)):=by
    rw [cutV u_str (by omega) (by omega)];rfl
  refine pc_of cop7 ?_
  show W _ _ _ _ ⟨_,_⟩;simp only [A7,List.cons_append,List.nil_append,List.length_cons,List.length_nil,Nat.reduceAdd,Nat.reduceSub,List.replicate]
  repeat (first|(with_reducible first|refine w_seq ?_|refine w_reg ?_|refine ws_nil ?_|refine q_then ?_|refine w_ret ?_)|((with_reducible first|refine ks fun K hK=>?_|refine kd fun K hK=>?_|refine kc fun K hK2 hK hK3=>?_|refine ret_h fun K hR=>?_|refine ret_hh rfl fun K hR=>?_|refine ret_pp fun K hR=>?_);simp (disch:=omega) only [bg0,bg1,bg2,bg3,bg4,stepO,rsAs,eff,AX.ev,St.put,binA,conc,ap1,ofVal,Int.reduceTMod,Int.reduceTDiv,reduceCtorEq,fillA,AV.cells,AV.fine,AV.one,Nat.reduceAdd,Nat.reduceSub,Nat.reduceMul,Nat.reduceLT,Nat.reduceLeDiff,Int.reduceLT,Int.reduceLE,Int.reduceAdd,Int.reduceSub,Int.reduceNeg,Int.reduceMul,Int.reduceEq,Int.reduceToNat,nilA,moveA,live,loadA,rdA,storeA,wrA,intA,elemA,lenA,appA,srcA,isPtr,isNilPtr,partA,resOf,sliceA,cut,id,ap2,reduceIte,concs,chkB,geB,AOp.cls,AOp.xs,ltB,ltC,Nat.reduceBEq,Option.toList,List.cons_append,decide_eq_true,decide_eq_false,if_pos,if_neg,List.length_map,pA_at,List.cons_append,bVb,bVn,eq_self,Bool.and_self,BEq.rfl,not_true_eq_false,e,e2];(first|(with_reducible first|(refine hK _ ?_;clear hK K)|(refine hK ?_;clear hK hK3 K hK2)|(refine hK3 ?_;clear hK hK3 K hK2))|((with_reducible refine hR _ ?_ ?_ ?_ ?_);rotate_left 2;rfl;rfl)|((with_reducible refine hR _ ?_);rfl))))
def few (l:List Pr):List Pr:=(l.take 40).map fun p=>(cutB p.1 40,cutB p.2 40)
theorem few_take {l:List Pr} {k:Nat} (h:k < l.length) (h2:k < 40):((few l).take k).map pA++[.agg [S (cutB l[k].1 40),S (cutB l[k].2 40)]]=((few l).take (k+1)).map pA:=by
  have h3:k < (few l).length:=by simp [few];omega
  rw [List.take_add_one,List.getElem?_eq_getElem h3]
  simp [few,pA]
theorem few_len (l:List Pr):(few l).length=min 40 l.length:=by simp [few]
theorem takeP {l:List Pr} {k:Nat}:((l.take k).map pA).take k=(l.take k).map pA:=by
  apply List.take_of_length_le;simp;omega
set_option maxHeartbeats 4000000 in
theorem few07 (G:Nat→AV) (l:List Pr) (hl:l.length≤9223372036854775807) (hs:∀ p ∈ l,p.1.size≤9223372036854775807∧p.2.size≤9223372036854775807):PC Try.prog G 17 [.sl 2 (l.map pA)] (.sl 2 ((few l).map pA)):=by
  obtain ⟨N,hN⟩:∃ N,N=(few l).length:=⟨_,rfl⟩
  have hN2:=few_len l
  refine pc_of cop17 ?_
  show W _ _ _ _ ⟨_,_⟩;simp only [A17,List.cons_append,List.nil_append,List.length_cons,List.length_nil,Nat.reduceAdd,Nat.reduceSub,List.replicate]
  repeat (first|(with_reducible first|refine w_seq ?_|refine w_reg ?_|refine w_block ?_|refine ws_nil ?_|refine q_then ?_)|((with_reducible first|refine ks fun K hK=>?_|refine kd fun K hK=>?_|refine kc fun K hK2 hK hK3=>?_);simp (disch:=omega) only [bg0,bg1,bg2,bg3,bg4,stepO,rsAs,eff,AX.ev,St.put,binA,conc,ap1,ofVal,Int.reduceTMod,Int.reduceTDiv,reduceCtorEq,fillA,AV.cells,AV.fine,AV.one,Nat.reduceAdd,Nat.reduceSub,Nat.reduceMul,Nat.reduceLT,Nat.reduceLeDiff,Int.reduceLT,Int.reduceLE,Int.reduceAdd,Int.reduceSub,Int.reduceNeg,Int.reduceMul,Int.reduceEq,Int.reduceToNat,nilA,moveA,live,loadA,rdA,storeA,wrA,intA,elemA,lenA,appA,srcA,isPtr,isNilPtr,partA,resOf,sliceA,cut,id,ap2,reduceIte,concs,chkB,geB,AOp.cls,AOp.xs,ltB,ltC,Nat.reduceBEq,Option.toList,List.cons_append,decide_eq_true,decide_eq_false,if_pos,if_neg,List.length_map,pA_at,List.cons_append,bVb,bVn,eq_self,Bool.and_self,BEq.rfl,not_true_eq_false];(with_reducible first|(refine hK _ ?_;clear hK K)|(refine hK ?_;clear hK hK3 K hK2)|(refine hK3 ?_;clear hK hK3 K hK2))))
  refine w_loop_m [3,4,6,7,8,9,10,11,12,13,14,15,16,17,18,19,20,21,22,23,24,25,26,27,28,29,30,31] (fun k v H=>v 3 = .ol 0 k k∧v 4=I k∧∃ J,H=⟨67,2,((few l).take k).map pA,k,0⟩::J) N ⟨rfl,rfl,[],rfl⟩ ?_ ?_
  · rintro k v H hk ⟨h3, h4, J, rfl⟩
    simp only [mix,mix_nil,mix_end,mix_skp,Nat.reduceEqDiff,Nat.reduceLeDiff,reduceCtorEq,if_true,if_false,reduceIte,Nat.reduceAdd,h3,h4]
    have hk1:k < l.length:=by omega
    have h1:=(hs l[k] (List.getElem_mem hk1)).1
    have h2:=(hs l[k] (List.getElem_mem hk1)).2
    have h5:=few_take hk1 (by omega)
    have h6:(((few l).take k).map pA).length=k:=by simp;omega
    repeat (first|(with_reducible first|refine w_seq ?_|refine w_reg ?_|refine w_draw ?_|refine w_block ?_|refine w_skip ?_|refine ws_nil ?_|refine wd_nil ?_|refine q_then ?_|refine q_block_n ?_)|((with_reducible refine kgs_t ?_ ?_);rfl)|((with_reducible first|refine ks fun K hK=>?_|refine kd fun K hK=>?_|refine kc fun K hK2 hK hK3=>?_);simp (disch:=omega) only [bg0,bg1,bg2,bg3,bg4,stepO,rsAs,eff,AX.ev,St.put,binA,conc,ap1,ofVal,Int.reduceTMod,Int.reduceTDiv,reduceCtorEq,fillA,AV.cells,AV.fine,AV.one,Nat.reduceAdd,Nat.reduceSub,Nat.reduceMul,Nat.reduceLT,Nat.reduceLeDiff,Int.reduceLT,Int.reduceLE,Int.reduceAdd,Int.reduceSub,Int.reduceNeg,Int.reduceMul,Int.reduceEq,Int.reduceToNat,nilA,moveA,live,loadA,rdA,storeA,wrA,intA,elemA,lenA,appA,srcA,isPtr,isNilPtr,partA,resOf,sliceA,cut,id,ap2,reduceIte,concs,chkB,geB,AOp.cls,AOp.xs,ltB,ltC,Nat.reduceBEq,Option.toList,List.cons_append,decide_eq_true,decide_eq_false,if_pos,if_neg,List.length_map,pA_at,List.cons_append,bVb,bVn,eq_self,Bool.and_self,BEq.rfl,not_true_eq_false,h6,takeP,h5];(with_reducible first|(refine hK _ ?_;clear hK K)|(refine hK ?_;clear hK hK3 K hK2)|(refine hK3 ?_;clear hK hK3 K hK2)))|((first|((with_reducible refine kpd 7 ?_ ?_ ?_ ?_ ?_);rotate_left 1));(focus (simp (disch:=omega) only [bg0,bg1,bg2,bg3,bg4,stepO,rsAs,eff,AX.ev,St.put,binA,conc,ap1,ofVal,Int.reduceTMod,Int.reduceTDiv,reduceCtorEq,fillA,AV.cells,AV.fine,AV.one,Nat.reduceAdd,Nat.reduceSub,Nat.reduceMul,Nat.reduceLT,Nat.reduceLeDiff,Int.reduceLT,Int.reduceLE,Int.reduceAdd,Int.reduceSub,Int.reduceNeg,Int.reduceMul,Int.reduceEq,Int.reduceToNat,nilA,moveA,live,loadA,rdA,storeA,wrA,intA,elemA,lenA,appA,srcA,isPtr,isNilPtr,partA,resOf,sliceA,cut,id,ap2,reduceIte,concs,chkB,geB,AOp.cls,AOp.xs,ltB,ltC,Nat.reduceBEq,Option.toList,List.cons_append,decide_eq_true,decide_eq_false,if_pos,if_neg,List.length_map,pA_at,List.cons_append,bVb,bVn,eq_self,Bool.and_self,BEq.rfl,not_true_eq_false,h6,takeP,h5];try rfl));(first|(rfl;exact (by refine cutP G _ 40 ?_;assumption)))))
    exact ⟨rfl,rfl,rfl,_,rfl⟩
  · rintro v H ⟨h3, h4, J, rfl⟩
    simp only [mix,mix_nil,mix_end,mix_skp,Nat.reduceEqDiff,Nat.reduceLeDiff,reduceCtorEq,if_true,if_false,reduceIte,Nat.reduceAdd,h3,h4]
    have h6:(((few l).take N).map pA).length=N:=by simp;omega
    have h7:(few l).take N=few l:=by rw [hN,List.take_length]
    have h8:((few l).map pA).take N=(few l).map pA:=by rw [hN];apply List.take_of_length_le;simp
    by_cases h40:l.length≤40
    all_goals
      repeat (first|(with_reducible first|refine w_seq ?_|refine w_reg ?_|refine w_exit ?_|refine ws_nil ?_|refine q_then ?_|refine q_then_x ?_|refine q_block_x ?_|refine w_ret ?_)|((with_reducible refine kgs_t ?_ ?_);rfl)|((with_reducible refine kgs_f ?_ ?_);rfl)|((with_reducible first|refine ks fun K hK=>?_|refine kd fun K hK=>?_|refine kc fun K hK2 hK hK3=>?_);simp (disch:=omega) only [bg0,bg1,bg2,bg3,bg4,stepO,rsAs,eff,AX.ev,St.put,binA,conc,ap1,ofVal,Int.reduceTMod,Int.reduceTDiv,reduceCtorEq,fillA,AV.cells,AV.fine,AV.one,Nat.reduceAdd,Nat.reduceSub,Nat.reduceMul,Nat.reduceLT,Nat.reduceLeDiff,Int.reduceLT,Int.reduceLE,Int.reduceAdd,Int.reduceSub,Int.reduceNeg,Int.reduceMul,Int.reduceEq,Int.reduceToNat,nilA,moveA,live,loadA,rdA,storeA,wrA,intA,elemA,lenA,appA,srcA,isPtr,isNilPtr,partA,resOf,sliceA,cut,id,ap2,reduceIte,concs,chkB,geB,AOp.cls,AOp.xs,ltB,ltC,Nat.reduceBEq,Option.toList,List.cons_append,decide_eq_true,decide_eq_false,if_pos,if_neg,List.length_map,pA_at,List.cons_append,bVb,bVn,eq_self,Bool.and_self,BEq.rfl,not_true_eq_false];(with_reducible first|(refine hK _ ?_;clear hK K)|(refine hK ?_;clear hK hK3 K hK2)|(refine hK3 ?_;clear hK hK3 K hK2))))
      refine ret_pp fun K hK=>?_
      simp only [rsAs,List.getD_cons_succ,List.getD_cons_zero]
      refine hK _ ?_ ?_ ?_ ?_
      rotate_left 2
      simp only [purA,pur,purC,List.getElem?_cons_zero,List.length_map,← hN,h7,h8,Nat.le_refl,and_self,and_true,true_and]
      rw [if_pos (all_pA _)]
      rfl
theorem cmpP (G:Nat→AV) (a b:ByteArray) (ha:a.size≤9223372036854775807) (hb:b.size≤9223372036854775807):PC Try.prog G 84 [S a,S b] (I (cB a b)) :=
  pc_calls rfl rfl (fun w=>(Ord.Compare_calls a b w (by rw [maxLenE];exact ha) (by rw [maxLenE];exact hb)).mono fun e w' h=>h.fresh)
theorem lessP (G:Nat→AV) (a b:ByteArray) (ha:a.size≤9223372036854775807) (hb:b.size≤9223372036854775807):PC Try.prog G 51 [S a,S b] (Bo (decide (cB a b < 0))):=by
  have e:decide (cB a b < 0)=Ord.less a.data.toList b.data.toList:=by
    have h:cB a b = -1∨cB a b=0∨cB a b=1:=cB_cases a b
    unfold Ord.less
    show decide (cB a b < 0)=(cB a b == -1)
    rcases h with h|h|h<;>rw [h]<;>rfl
  rw [e]
  exact pc_calls rfl rfl (fun w=>(Ord.RefLess_calls a b w (by rw [maxLenE];exact ha) (by rw [maxLenE];exact hb)).mono fun e w' h=>h.fresh)
end Go.Proofs.Ytefkaglgekjlfaa.Sim.Pr7
namespace Go.Proofs.Ytefkaglgekjlfaa.Sim.Pr7
open Go.RowKit
set_option maxRecDepth 100000
structure Okl (l:List Pr):Prop where
  len:l.length≤1000000
  sz:∀ p ∈ l,p.1.size≤9223372036854775807∧p.2.size≤9223372036854775807
theorem Okl.k {l:List Pr} (h:Okl l) {k:Nat} (hk:k < l.length):(l[k]).1.size≤9223372036854775807:=(h.sz _ (List.getElem_mem hk)).1
theorem slt_idx:∀ {l:List Pr},SLt l↔∀ i (h:i+1 < l.length),cB (l[i]).1 (l[i+1]).1 < 0
  | []=>by simp [SLt]
  | [p]=>by simp [SLt]
  | p::q::l=>by
    have ih:=slt_idx (l:=q::l)
    constructor
    · intro h i hi
      obtain ⟨h1,h2⟩:=List.pairwise_cons.1 h
      cases i with
      | zero=>exact h1 q (by simp)
      | succ i=>exact ih.1 h2 i (by simpa using hi)
    · intro h
      have h2:SLt (q::l):=ih.2 fun i hi=>h (i+1) (by simpa using hi)
      refine List.pairwise_cons.2 ⟨fun x hx=>?_,h2⟩
      have h0:cB p.1 q.1 < 0:=h 0 (by simp)
      rcases List.mem_cons.1 hx with rfl|hx
      · exact h0
      · have := (List.pairwise_cons.1 h2).1 x hx
        exact cB_lt1 h0 (by omega)
theorem is_false {l:List Pr} {r:Bool} (hr:r=true↔SLt l) {i:Nat} (h:i+1 < l.length) (hc:0≤cB (l[i]).1 (l[i+1]).1):r=false:=by
  cases r with
  | false=>rfl
  | true=>have:=slt_idx.1 (hr.1 rfl) i h;omega
set_option maxHeartbeats 4000000 in
theorem is11 (G:Nat→AV) (l:List Pr) (hl:Okl l) (r:Bool) (hr:r=true↔SLt l):PC Try.prog G 79 [.sl 2 (l.map pA)] (Bo r):=by
  have hlen:=hl.len
  refine pc_of cop79 ?_
  show W _ _ _ _ ⟨_,_⟩;simp only [A79,List.cons_append,List.nil_append,List.length_cons,List.length_nil,Nat.reduceAdd,Nat.reduceSub,List.replicate]
  repeat (first|(with_reducible first|refine w_seq ?_|refine w_reg ?_|refine w_block ?_|refine ws_nil ?_|refine q_then ?_)|((with_reducible first|refine ks fun K hK=>?_|refine kd fun K hK=>?_|refine kc fun K hK2 hK hK3=>?_);simp (disch:=omega) only [bg0,bg1,bg2,bg3,bg4,stepO,rsAs,eff,AX.ev,St.put,binA,conc,ap1,ofVal,Int.reduceTMod,Int.reduceTDiv,reduceCtorEq,fillA,AV.cells,AV.fine,AV.one,Nat.reduceAdd,Nat.reduceSub,Nat.reduceMul,Nat.reduceLT,Nat.reduceLeDiff,Int.reduceLT,Int.reduceLE,Int.reduceAdd,Int.reduceSub,Int.reduceNeg,Int.reduceMul,Int.reduceEq,Int.reduceToNat,nilA,moveA,live,loadA,rdA,storeA,wrA,intA,elemA,lenA,appA,srcA,isPtr,isNilPtr,partA,resOf,sliceA,cut,id,ap2,reduceIte,concs,chkB,geB,AOp.cls,AOp.xs,ltB,ltC,Nat.reduceBEq,Option.toList,List.cons_append,decide_eq_true,decide_eq_false,if_pos,if_neg,List.length_map,pA_at,List.cons_append,bVb,bVn,eq_self,Bool.and_self,BEq.rfl,not_true_eq_false];(with_reducible first|(refine hK _ ?_;clear hK K)|(refine hK ?_;clear hK hK3 K hK2)|(refine hK3 ?_;clear hK hK3 K hK2))))
  refine w_loop_m [2,3,7,8,9,10,11,12,13,14,15,16,17,18,19,20,21,22,23] (fun k v H=>v 7=I k∧H=[]∧∀ i (h:i+1 < l.length),i < k→cB (l[i]).1 (l[i+1]).1 < 0) (l.length - 1) ⟨rfl,rfl,fun i h hi=>absurd hi (Nat.not_lt_zero _)⟩ ?_ ?_
  · rintro k v H hk ⟨h7, rfl, hi⟩
    simp only [mix,mix_nil,mix_end,mix_skp,Nat.reduceEqDiff,Nat.reduceLeDiff,reduceCtorEq,if_true,if_false,reduceIte,Nat.reduceAdd,h7]
    have h1:=hl.k (k:=k) (by omega)
    have h2:=hl.k (k:=k+1) (by omega)
    by_cases hc:0≤cB (l[k]).1 (l[k+1]).1
    · obtain rfl := is_false hr (by omega) hc
      repeat (first|(with_reducible first|refine w_seq ?_|refine w_reg ?_|refine w_draw ?_|refine w_block ?_|refine w_skip ?_|refine ws_nil ?_|refine wd_nil ?_|refine q_then ?_|refine q_block_r ?_|refine w_ret ?_|refine q_then_r ?_)|((first|((with_reducible refine kpd 84 ?_ ?_ ?_ ?_ ?_);rotate_left 1));(focus (simp (disch:=omega) only [bg0,bg1,bg2,bg3,bg4,stepO,rsAs,eff,AX.ev,St.put,binA,conc,ap1,ofVal,Int.reduceTMod,Int.reduceTDiv,reduceCtorEq,fillA,AV.cells,AV.fine,AV.one,Nat.reduceAdd,Nat.reduceSub,Nat.reduceMul,Nat.reduceLT,Nat.reduceLeDiff,Int.reduceLT,Int.reduceLE,Int.reduceAdd,Int.reduceSub,Int.reduceNeg,Int.reduceMul,Int.reduceEq,Int.reduceToNat,nilA,moveA,live,loadA,rdA,storeA,wrA,intA,elemA,lenA,appA,srcA,isPtr,isNilPtr,partA,resOf,sliceA,cut,id,ap2,reduceIte,concs,chkB,geB,AOp.cls,AOp.xs,ltB,ltC,Nat.reduceBEq,Option.toList,List.cons_append,decide_eq_true,decide_eq_false,if_pos,if_neg,List.length_map,pA_at,List.cons_append,bVb,bVn,eq_self,Bool.and_self,BEq.rfl,not_true_eq_false,hc];try rfl));(first|(rfl;exact (by refine cmpP G _ _ ?_ ?_<;>assumption))))|((with_reducible first|refine ks fun K hK=>?_|refine kd fun K hK=>?_|refine kc fun K hK2 hK hK3=>?_|refine ret_h fun K hR=>?_|refine ret_hh rfl fun K hR=>?_|refine ret_pp fun K hR=>?_);simp (disch:=omega) only [bg0,bg1,bg2,bg3,bg4,stepO,rsAs,eff,AX.ev,St.put,binA,conc,ap1,ofVal,Int.reduceTMod,Int.reduceTDiv,reduceCtorEq,fillA,AV.cells,AV.fine,AV.one,Nat.reduceAdd,Nat.reduceSub,Nat.reduceMul,Nat.reduceLT,Nat.reduceLeDiff,Int.reduceLT,Int.reduceLE,Int.reduceAdd,Int.reduceSub,Int.reduceNeg,Int.reduceMul,Int.reduceEq,Int.reduceToNat,nilA,moveA,live,loadA,rdA,storeA,wrA,intA,elemA,lenA,appA,srcA,isPtr,isNilPtr,partA,resOf,sliceA,cut,id,ap2,reduceIte,concs,chkB,geB,AOp.cls,AOp.xs,ltB,ltC,Nat.reduceBEq,Option.toList,List.cons_append,decide_eq_true,decide_eq_false,if_pos,if_neg,List.length_map,pA_at,List.cons_append,bVb,bVn,eq_self,Bool.and_self,BEq.rfl,not_true_eq_false,hc];(first|(with_reducible first|(refine hK _ ?_;clear hK K)|(refine hK ?_;clear hK hK3 K hK2)|(refine hK3 ?_;clear hK hK3 K hK2))|((with_reducible refine hR _ ?_ ?_ ?_ ?_);rotate_left 2;rfl;rfl)|((with_reducible refine hR _ ?_);rfl))))
    · repeat (first|(with_reducible first|refine w_seq ?_|refine w_reg ?_|refine w_draw ?_|refine w_block ?_|refine w_skip ?_|refine ws_nil ?_|refine wd_nil ?_|refine q_then ?_|refine q_block_n ?_)|((with_reducible first|refine ks fun K hK=>?_|refine kd fun K hK=>?_|refine kc fun K hK2 hK hK3=>?_);simp (disch:=omega) only [bg0,bg1,bg2,bg3,bg4,stepO,rsAs,eff,AX.ev,St.put,binA,conc,ap1,ofVal,Int.reduceTMod,Int.reduceTDiv,reduceCtorEq,fillA,AV.cells,AV.fine,AV.one,Nat.reduceAdd,Nat.reduceSub,Nat.reduceMul,Nat.reduceLT,Nat.reduceLeDiff,Int.reduceLT,Int.reduceLE,Int.reduceAdd,Int.reduceSub,Int.reduceNeg,Int.reduceMul,Int.reduceEq,Int.reduceToNat,nilA,moveA,live,loadA,rdA,storeA,wrA,intA,elemA,lenA,appA,srcA,isPtr,isNilPtr,partA,resOf,sliceA,cut,id,ap2,reduceIte,concs,chkB,geB,AOp.cls,AOp.xs,ltB,ltC,Nat.reduceBEq,Option.toList,List.cons_append,decide_eq_true,decide_eq_false,if_pos,if_neg,List.length_map,pA_at,List.cons_append,bVb,bVn,eq_self,Bool.and_self,BEq.rfl,not_true_eq_false,hc];(with_reducible first|(refine hK _ ?_;clear hK K)|(refine hK ?_;clear hK hK3 K hK2)|(refine hK3 ?_;clear hK hK3 K hK2)))|((first|((with_reducible refine kpd 84 ?_ ?_ ?_ ?_ ?_);rotate_left 1));(focus (simp (disch:=omega) only [bg0,bg1,bg2,bg3,bg4,stepO,rsAs,eff,AX.ev,St.put,binA,conc,ap1,ofVal,Int.reduceTMod,Int.reduceTDiv,reduceCtorEq,fillA,AV.cells,AV.fine,AV.one,Nat.reduceAdd,Nat.reduceSub,Nat.reduceMul,Nat.reduceLT,Nat.reduceLeDiff,Int.reduceLT,Int.reduceLE,Int.reduceAdd,Int.reduceSub,Int.reduceNeg,Int.reduceMul,Int.reduceEq,Int.reduceToNat,nilA,moveA,live,loadA,rdA,storeA,wrA,intA,elemA,lenA,appA,srcA,isPtr,isNilPtr,partA,resOf,sliceA,cut,id,ap2,reduceIte,concs,chkB,geB,AOp.cls,AOp.xs,ltB,ltC,Nat.reduceBEq,Option.toList,List.cons_append,decide_eq_true,decide_eq_false,if_pos,if_neg,List.length_map,pA_at,List.cons_append,bVb,bVn,eq_self,Bool.and_self,BEq.rfl,not_true_eq_false,hc];try rfl));(first|(rfl;exact (by refine cmpP G _ _ ?_ ?_<;>assumption)))))
      refine ⟨rfl,rfl,rfl,fun i h hik=>?_⟩
      by_cases hik2:i=k
      · subst hik2;omega
      · exact hi i h (by omega)
  · rintro v H ⟨h7, rfl, hi⟩
    simp only [mix,mix_nil,mix_end,mix_skp,Nat.reduceEqDiff,Nat.reduceLeDiff,reduceCtorEq,if_true,if_false,reduceIte,Nat.reduceAdd,h7]
    obtain rfl:r=true:=hr.2 (slt_idx.2 fun i h=>hi i h (by omega))
    by_cases h0:l.length=0
    all_goals repeat (first|(with_reducible first|refine w_seq ?_|refine w_reg ?_|refine w_exit ?_|refine ws_nil ?_|refine q_then ?_|refine q_then_x ?_|refine q_block_x ?_|refine w_ret ?_)|((with_reducible first|refine ks fun K hK=>?_|refine kd fun K hK=>?_|refine kc fun K hK2 hK hK3=>?_|refine ret_h fun K hR=>?_|refine ret_hh rfl fun K hR=>?_|refine ret_pp fun K hR=>?_);simp (disch:=omega) only [bg0,bg1,bg2,bg3,bg4,stepO,rsAs,eff,AX.ev,St.put,binA,conc,ap1,ofVal,Int.reduceTMod,Int.reduceTDiv,reduceCtorEq,fillA,AV.cells,AV.fine,AV.one,Nat.reduceAdd,Nat.reduceSub,Nat.reduceMul,Nat.reduceLT,Nat.reduceLeDiff,Int.reduceLT,Int.reduceLE,Int.reduceAdd,Int.reduceSub,Int.reduceNeg,Int.reduceMul,Int.reduceEq,Int.reduceToNat,nilA,moveA,live,loadA,rdA,storeA,wrA,intA,elemA,lenA,appA,srcA,isPtr,isNilPtr,partA,resOf,sliceA,cut,id,ap2,reduceIte,concs,chkB,geB,AOp.cls,AOp.xs,ltB,ltC,Nat.reduceBEq,Option.toList,List.cons_append,decide_eq_true,decide_eq_false,if_pos,if_neg,List.length_map,pA_at,List.cons_append,bVb,bVn,eq_self,Bool.and_self,BEq.rfl,not_true_eq_false];(first|(with_reducible first|(refine hK _ ?_;clear hK K)|(refine hK ?_;clear hK hK3 K hK2)|(refine hK3 ?_;clear hK hK3 K hK2))|((with_reducible refine hR _ ?_ ?_ ?_ ?_);rotate_left 2;rfl;rfl)|((with_reducible refine hR _ ?_);rfl))))
set_option maxHeartbeats 4000000 in
theorem is12 (G:Nat→AV) (l:List Pr) (hl:Okl l) (r:Bool) (hr:r=true↔SLt l):PC Try.prog G 73 [.sl 2 (l.map pA)] (Bo r):=by
  have hlen:=hl.len
  refine pc_of cop73 ?_
  show W _ _ _ _ ⟨_,_⟩;simp only [A73,List.cons_append,List.nil_append,List.length_cons,List.length_nil,Nat.reduceAdd,Nat.reduceSub,List.replicate]
  repeat (first|(with_reducible first|refine w_seq ?_|refine w_reg ?_|refine w_block ?_|refine ws_nil ?_|refine q_then ?_)|((with_reducible first|refine ks fun K hK=>?_|refine kd fun K hK=>?_|refine kc fun K hK2 hK hK3=>?_);simp (disch:=omega) only [bg0,bg1,bg2,bg3,bg4,stepO,rsAs,eff,AX.ev,St.put,binA,conc,ap1,ofVal,Int.reduceTMod,Int.reduceTDiv,reduceCtorEq,fillA,AV.cells,AV.fine,AV.one,Nat.reduceAdd,Nat.reduceSub,Nat.reduceMul,Nat.reduceLT,Nat.reduceLeDiff,Int.reduceLT,Int.reduceLE,Int.reduceAdd,Int.reduceSub,Int.reduceNeg,Int.reduceMul,Int.reduceEq,Int.reduceToNat,nilA,moveA,live,loadA,rdA,storeA,wrA,intA,elemA,lenA,appA,srcA,isPtr,isNilPtr,partA,resOf,sliceA,cut,id,ap2,reduceIte,concs,chkB,geB,AOp.cls,AOp.xs,ltB,ltC,Nat.reduceBEq,Option.toList,List.cons_append,decide_eq_true,decide_eq_false,if_pos,if_neg,List.length_map,pA_at,List.cons_append,bVb,bVn,eq_self,Bool.and_self,BEq.rfl,not_true_eq_false];(with_reducible first|(refine hK _ ?_;clear hK K)|(refine hK ?_;clear hK hK3 K hK2)|(refine hK3 ?_;clear hK hK3 K hK2))))
  refine w_loop_m [2,3,4,5,6,7,8,9,10,11,12,13,14,15,16,17,18,19,20,21,22] (fun k v H=>v 3=I ((k+1:Nat):Int)∧H=[]∧∀ i (h:i+1 < l.length),i < k→cB (l[i]).1 (l[i+1]).1 < 0) (l.length - 1) ⟨rfl,rfl,fun i h hi=>absurd hi (Nat.not_lt_zero _)⟩ ?_ ?_
  · rintro k v H hk ⟨h3, rfl, hi⟩
    simp only [mix,mix_nil,mix_end,mix_skp,Nat.reduceEqDiff,Nat.reduceLeDiff,reduceCtorEq,if_true,if_false,reduceIte,Nat.reduceAdd,h3]
    have h1:=hl.k (k:=k) (by omega)
    have h2:=hl.k (k:=k+1) (by omega)
    have e1:((k+1:Nat):Int) - 1=k:=by omega
    by_cases hc:cB (l[k]).1 (l[k+1]).1 < 0
    · repeat (first|(with_reducible first|refine w_seq ?_|refine w_reg ?_|refine w_draw ?_|refine w_block ?_|refine w_skip ?_|refine ws_nil ?_|refine wd_nil ?_|refine q_then ?_|refine q_block_n ?_)|((with_reducible first|refine ks fun K hK=>?_|refine kd fun K hK=>?_|refine kc fun K hK2 hK hK3=>?_);simp (disch:=omega) only [bg0,bg1,bg2,bg3,bg4,stepO,rsAs,eff,AX.ev,St.put,binA,conc,ap1,ofVal,Int.reduceTMod,Int.reduceTDiv,reduceCtorEq,fillA,AV.cells,AV.fine,AV.one,Nat.reduceAdd,Nat.reduceSub,Nat.reduceMul,Nat.reduceLT,Nat.reduceLeDiff,Int.reduceLT,Int.reduceLE,Int.reduceAdd,Int.reduceSub,Int.reduceNeg,Int.reduceMul,Int.reduceEq,Int.reduceToNat,nilA,moveA,live,loadA,rdA,storeA,wrA,intA,elemA,lenA,appA,srcA,isPtr,isNilPtr,partA,resOf,sliceA,cut,id,ap2,reduceIte,concs,chkB,geB,AOp.cls,AOp.xs,ltB,ltC,Nat.reduceBEq,Option.toList,List.cons_append,decide_eq_true,decide_eq_false,if_pos,if_neg,List.length_map,pA_at,List.cons_append,bVb,bVn,eq_self,Bool.and_self,BEq.rfl,not_true_eq_false,hc,e1];(with_reducible first|(refine hK _ ?_;clear hK K)|(refine hK ?_;clear hK hK3 K hK2)|(refine hK3 ?_;clear hK hK3 K hK2)))|((first|((with_reducible refine kpd 51 ?_ ?_ ?_ ?_ ?_);rotate_left 1));(focus (simp (disch:=omega) only [bg0,bg1,bg2,bg3,bg4,stepO,rsAs,eff,AX.ev,St.put,binA,conc,ap1,ofVal,Int.reduceTMod,Int.reduceTDiv,reduceCtorEq,fillA,AV.cells,AV.fine,AV.one,Nat.reduceAdd,Nat.reduceSub,Nat.reduceMul,Nat.reduceLT,Nat.reduceLeDiff,Int.reduceLT,Int.reduceLE,Int.reduceAdd,Int.reduceSub,Int.reduceNeg,Int.reduceMul,Int.reduceEq,Int.reduceToNat,nilA,moveA,live,loadA,rdA,storeA,wrA,intA,elemA,lenA,appA,srcA,isPtr,isNilPtr,partA,resOf,sliceA,cut,id,ap2,reduceIte,concs,chkB,geB,AOp.cls,AOp.xs,ltB,ltC,Nat.reduceBEq,Option.toList,List.cons_append,decide_eq_true,decide_eq_false,if_pos,if_neg,List.length_map,pA_at,List.cons_append,bVb,bVn,eq_self,Bool.and_self,BEq.rfl,not_true_eq_false,hc,e1];try rfl));(first|(rfl;exact (by refine lessP G _ _ ?_ ?_<;>assumption)))))
      refine ⟨rfl,rfl,rfl,fun i h hik=>?_⟩
      by_cases hik2:i=k
      · subst hik2;omega
      · exact hi i h (by omega)
    · obtain rfl := is_false (i := k) hr (by omega) (by omega)
      repeat (first|(with_reducible first|refine w_seq ?_|refine w_reg ?_|refine w_draw ?_|refine w_block ?_|refine w_skip ?_|refine ws_nil ?_|refine wd_nil ?_|refine q_then ?_|refine q_block_r ?_|refine w_ret ?_|refine q_then_r ?_)|((first|((with_reducible refine kpd 51 ?_ ?_ ?_ ?_ ?_);rotate_left 1));(focus (simp (disch:=omega) only [bg0,bg1,bg2,bg3,bg4,stepO,rsAs,eff,AX.ev,St.put,binA,conc,ap1,ofVal,Int.reduceTMod,Int.reduceTDiv,reduceCtorEq,fillA,AV.cells,AV.fine,AV.one,Nat.reduceAdd,Nat.reduceSub,Nat.reduceMul,Nat.reduceLT,Nat.reduceLeDiff,Int.reduceLT,Int.reduceLE,Int.reduceAdd,Int.reduceSub,Int.reduceNeg,Int.reduceMul,Int.reduceEq,Int.reduceToNat,nilA,moveA,live,loadA,rdA,storeA,wrA,intA,elemA,lenA,appA,srcA,isPtr,isNilPtr,partA,resOf,sliceA,cut,id,ap2,reduceIte,concs,chkB,geB,AOp.cls,AOp.xs,ltB,ltC,Nat.reduceBEq,Option.toList,List.cons_append,decide_eq_true,decide_eq_false,if_pos,if_neg,List.length_map,pA_at,List.cons_append,bVb,bVn,eq_self,Bool.and_self,BEq.rfl,not_true_eq_false,hc,e1];try rfl));(first|(rfl;exact (by refine lessP G _ _ ?_ ?_<;>assumption))))|((with_reducible first|refine ks fun K hK=>?_|refine kd fun K hK=>?_|refine kc fun K hK2 hK hK3=>?_|refine ret_h fun K hR=>?_|refine ret_hh rfl fun K hR=>?_|refine ret_pp fun K hR=>?_);simp (disch:=omega) only [bg0,bg1,bg2,bg3,bg4,stepO,rsAs,eff,AX.ev,St.put,binA,conc,ap1,ofVal,Int.reduceTMod,Int.reduceTDiv,reduceCtorEq,fillA,AV.cells,AV.fine,AV.one,Nat.reduceAdd,Nat.reduceSub,Nat.reduceMul,Nat.reduceLT,Nat.reduceLeDiff,Int.reduceLT,Int.reduceLE,Int.reduceAdd,Int.reduceSub,Int.reduceNeg,Int.reduceMul,Int.reduceEq,Int.reduceToNat,nilA,moveA,live,loadA,rdA,storeA,wrA,intA,elemA,lenA,appA,srcA,isPtr,isNilPtr,partA,resOf,sliceA,cut,id,ap2,reduceIte,concs,chkB,geB,AOp.cls,AOp.xs,ltB,ltC,Nat.reduceBEq,Option.toList,List.cons_append,decide_eq_true,decide_eq_false,if_pos,if_neg,List.length_map,pA_at,List.cons_append,bVb,bVn,eq_self,Bool.and_self,BEq.rfl,not_true_eq_false,hc,e1];(first|(with_reducible first|(refine hK _ ?_;clear hK K)|(refine hK ?_;clear hK hK3 K hK2)|(refine hK3 ?_;clear hK hK3 K hK2))|((with_reducible refine hR _ ?_ ?_ ?_ ?_);rotate_left 2;rfl;rfl)|((with_reducible refine hR _ ?_);rfl))))
  · rintro v H ⟨h3, rfl, hi⟩
    simp only [mix,mix_nil,mix_end,mix_skp,Nat.reduceEqDiff,Nat.reduceLeDiff,reduceCtorEq,if_true,if_false,reduceIte,Nat.reduceAdd,h3]
    obtain rfl:r=true:=hr.2 (slt_idx.2 fun i h=>hi i h (by omega))
    by_cases h0:l.length=0
    all_goals repeat (first|(with_reducible first|refine w_seq ?_|refine w_reg ?_|refine w_exit ?_|refine ws_nil ?_|refine q_then ?_|refine q_then_x ?_|refine q_block_x ?_|refine w_ret ?_)|((with_reducible first|refine ks fun K hK=>?_|refine kd fun K hK=>?_|refine kc fun K hK2 hK hK3=>?_|refine ret_h fun K hR=>?_|refine ret_hh rfl fun K hR=>?_|refine ret_pp fun K hR=>?_);simp (disch:=omega) only [bg0,bg1,bg2,bg3,bg4,stepO,rsAs,eff,AX.ev,St.put,binA,conc,ap1,ofVal,Int.reduceTMod,Int.reduceTDiv,reduceCtorEq,fillA,AV.cells,AV.fine,AV.one,Nat.reduceAdd,Nat.reduceSub,Nat.reduceMul,Nat.reduceLT,Nat.reduceLeDiff,Int.reduceLT,Int.reduceLE,Int.reduceAdd,Int.reduceSub,Int.reduceNeg,Int.reduceMul,Int.reduceEq,Int.reduceToNat,nilA,moveA,live,loadA,rdA,storeA,wrA,intA,elemA,lenA,appA,srcA,isPtr,isNilPtr,partA,resOf,sliceA,cut,id,ap2,reduceIte,concs,chkB,geB,AOp.cls,AOp.xs,ltB,ltC,Nat.reduceBEq,Option.toList,List.cons_append,decide_eq_true,decide_eq_false,if_pos,if_neg,List.length_map,pA_at,List.cons_append,bVb,bVn,eq_self,Bool.and_self,BEq.rfl,not_true_eq_false];(first|(with_reducible first|(refine hK _ ?_;clear hK K)|(refine hK ?_;clear hK hK3 K hK2)|(refine hK3 ?_;clear hK hK3 K hK2))|((with_reducible refine hR _ ?_ ?_ ?_ ?_);rotate_left 2;rfl;rfl)|((with_reducible refine hR _ ?_);rfl))))
theorem pr_ne {p q:Pr} (h:¬ p=q):(decide (p.1=q.1) && decide (p.2=q.2))=false:=by
  cases hq:(decide (p.1=q.1) && decide (p.2=q.2)) with
  | false=>rfl
  | true =>
    simp only [Bool.and_eq_true,decide_eq_true_eq] at hq
    exact absurd (Prod.ext hq.1 hq.2) h
theorem val_take {l:List Pr} {k:ByteArray} {n:Nat} (h:n < l.length):val (l.take (n+1)) k=if (l[n]).1=k then some (l[n]).2 else val (l.take n) k:=by
  rw [List.take_add_one,List.getElem?_eq_getElem h,Option.toList_some,val_append,val_one]
  split<;>rfl
end Go.Proofs.Ytefkaglgekjlfaa.Sim.Pr7
namespace Go.Proofs.Ytefkaglgekjlfaa.Sim
open Go.RowKit
set_option maxRecDepth 100000
def BareP (ke va:ByteArray) (mp:Int) (kk:List Int) (mn:Int) (ls:List Pr) (b c m l:Bool):Prop :=
  (b=true→ke=ByteArray.mk #[]∧va=ByteArray.mk #[])∧(c=true→mp=0∧¬ (0:Int) < (kk.length:Nat))∧(m=true→mn=0)∧(l=true→((ls.length:Nat):Int)=0)
theorem bare45 (G:Nat→AV) (kn:Int) (ke va:ByteArray) (mp:Int) (kk:List Int) (mn:Int) (ls:List Pr) (sz bi:Int) (b c m l r:Bool) (hr:r=true↔BareP ke va mp kk mn ls b c m l) (h1:kk.length≤40) (h2:ls.length≤40):PC Try.prog G 72 [nV kn ke va mp kk mn ls sz bi,Bo b,Bo c,Bo m,Bo l] (Bo r):=by
  unfold BareP at hr
  refine pc_ofV cop72 ?_
  cases b<;>cases c<;>cases m<;>cases l
  all_goals repeat' ((conv=>whnf);first|(with_reducible refine SeqP.go ?_)|((with_reducible refine ObD.mk ?_ ?_);exact zD)|((with_reducible refine ObN.mk ?_ ?_);exact zN)|(with_reducible first|refine ObT.tt ?_|refine ObT.ff ?_|refine ObB.mk (fun h=>?_) (fun h=>?_))|((with_reducible refine (?_:ObL _ _));(refine ObL.mk _ zM ?_))|((with_reducible refine (?_:ObR _ _ _));(first|(refine ObR.mk _ (by first|assumption|with_reducible rfl) ?_)|(refine ObR.map zX (fun x hx=>?_))|(refine ObR.mk _ rfl ?_)))|((with_reducible refine ObEq.mk ?_);(focus (first|rfl|assumption|exact (by cases r<;>simp_all)))))
def FormP (kn:Int) (ke va:ByteArray) (mp:Nat) (kk:List Int) (mn:Int) (ls:List Pr) (sz bi:Int):Prop :=
  ¬ bi < 0∧(((kn=1∨kn=6)∧sz=1∧BareP ke va mp kk mn ls false true true true)∨(kn=2∧¬ (0:Int) ∈ kk∧((kk.length:Nat):Int)=((upI mp 32).length:Nat)∧0≤sz∧BareP ke va mp kk mn ls true false true true) ∨
    (kn=3∧(2:Int)≤(ls.length:Nat)∧Pr7.SLt ls∧sz=(ls.length:Nat)∧BareP ke va mp kk mn ls true true true false)∨(kn=4∧(mp:Int)=0∧((kk.length:Nat):Int)=2∧1≤sz∧BareP ke va mp kk mn ls false false true true) ∨
    (kn=5∧¬ mn=0∧sz=0∧BareP ke va mp kk mn ls true true false true))
theorem tf (p:Prop):∃ q:Bool,(q=true↔p):=⟨@decide p (Classical.propDecidable p),by simp⟩
set_option maxHeartbeats 4000000 in
theorem form33 (G : Nat → AV) (kn : Int) (ke va : ByteArray) (mp : Nat) (kk : List Int) (mn : Int) (ls : List Pr) (sz bi : Int) (k1 : 1 ≤ kn) (k6 : kn ≤ 6) (hm : mp < 4294967296) (hk : kk.length ≤ 40) (hl : ls.length ≤ 40) (hs : ∀ p ∈ ls, p.1.size ≤ 40 ∧ p.2.size ≤ 40) (r : Bool) (hr : r = true ↔ FormP kn ke va mp kk mn ls sz bi) :
    PC Try.prog G 59 [nV kn ke va (mp:Int) kk mn ls sz bi] (Bo r):=by
  have hok:Pr7.Okl ls:=⟨by omega,fun p hp=>by have:=hs p hp;omega⟩
  obtain ⟨q1,hq1⟩:=tf (BareP ke va mp kk mn ls false true true true)
  obtain ⟨q2,hq2⟩:=tf (BareP ke va mp kk mn ls true false true true)
  obtain ⟨q3,hq3⟩:=tf (BareP ke va mp kk mn ls true true true false)
  obtain ⟨q4,hq4⟩:=tf (BareP ke va mp kk mn ls false false true true)
  obtain ⟨q5,hq5⟩:=tf (BareP ke va mp kk mn ls true true false true)
  obtain ⟨q6,hq6⟩:=tf (Pr7.SLt ls)
  have b1:=bare45 G kn ke va mp kk mn ls sz bi _ _ _ _ q1 hq1 hk hl
  have b2:=bare45 G kn ke va mp kk mn ls sz bi _ _ _ _ q2 hq2 hk hl
  have b3:=bare45 G kn ke va mp kk mn ls sz bi _ _ _ _ q3 hq3 hk hl
  have b4:=bare45 G kn ke va mp kk mn ls sz bi _ _ _ _ q4 hq4 hk hl
  have b5:=bare45 G kn ke va mp kk mn ls sz bi _ _ _ _ q5 hq5 hk hl
  have b6:PC Try.prog G 73 [.sl 2 (ls.map pA)] (Bo q6):=Pr7.is12 G ls hok q6 hq6
  have b7:=all46 G mp hm
  have hu:=upI_len mp 32
  by_cases hb:bi < 0
  · obtain rfl : r = false := by
      cases r with
      | false=>rfl
      | true=>exact absurd hb (hr.1 rfl).1
    refine pc_ofV cop59 ?_
    repeat' ((conv=>whnf);first|(with_reducible refine SeqP.go ?_)|((with_reducible refine ObD.mk ?_ ?_);exact zD)|((with_reducible refine ObN.mk ?_ ?_);exact zN)|(with_reducible refine ObT.tt ?_)|((with_reducible refine ObB.yes ?_ ?_);exact zB)|((with_reducible refine (?_:ObR _ _ _));(first|(refine ObR.mk _ (by first|assumption|with_reducible rfl) ?_)|(refine ObR.map zX (fun x hx=>?_))|(refine ObR.mk _ rfl ?_)))|((with_reducible refine ObEq.mk ?_);exact zE))
  simp only [FormP,← hq1,← hq2,← hq3,← hq4,← hq5,← hq6] at hr
  clear hq1 hq2 hq3 hq4 hq5 hq6
  have hkn:(kn=1∨kn=6)∨kn=2∨kn=3∨kn=4∨kn=5:=by omega
  rcases hkn with hkn|rfl|rfl|rfl|rfl
  · have hr' : r = true ↔ sz = 1 ∧ q1 = true := by rw [hr]; rcases hkn with rfl | rfl <;> simp [hb]
    clear hr
    refine pc_ofV cop59 ?_
    rcases hkn with rfl|rfl
    all_goals repeat' ((conv=>whnf);first|(with_reducible refine SeqP.go ?_)|((with_reducible refine ObD.mk ?_ ?_);exact zD)|((with_reducible refine ObN.mk ?_ ?_);exact zN)|(with_reducible first|refine ObT.tt ?_|refine ObT.ff ?_)|((with_reducible refine ObB.yes ?_ ?_);exact zB)|((with_reducible refine ObB.no ?_ ?_);exact zC)|(with_reducible refine ObB.mk (fun h=>?_) (fun h=>?_))|((with_reducible refine (?_:ObR _ _ _));(first|(refine ObR.mk _ (by first|assumption|with_reducible rfl) ?_)|(refine ObR.map zX (fun x hx=>?_))|(refine ObR.mk _ rfl ?_)))|((with_reducible refine ObC.f 72 ?_);(first|(with_reducible refine ObC.mk _ (b1) ?_)|(refine ObC.mk _ (b1) ?_)))|((with_reducible refine ObEq.mk ?_);(focus (first|rfl|assumption|exact (by cases r<;>cases q1<;>first|(simp_all;done)|(simp_all;omega))))))
  · have hr' : r = true ↔ ¬ (0 : Int) ∈ kk ∧ ((kk.length : Nat) : Int) = ((upI mp 32).length : Nat) ∧ 0 ≤ sz ∧ q2 = true := by rw [hr]; simp [hb]
    clear hr
    rcases first_or (n:=kk.length) (fun k=>decide (kk[k]? = some 0)) with h|⟨i0,h1,h2,h3⟩
    · have hz : ¬ (0 : Int) ∈ kk := fun hm0 => by
        obtain ⟨k,hk',e⟩:=List.getElem_of_mem hm0
        have:=h k hk'
        simp [List.getElem?_eq_getElem hk',e] at this
      refine pc_ofV cop59 ?_
      repeat' ((conv=>whnf);first|(with_reducible refine SeqP.go ?_)|((with_reducible refine ObD.mk ?_ ?_);exact zD)|((with_reducible refine ObN.mk ?_ ?_);exact zN)|(with_reducible first|refine ObT.tt ?_|refine ObT.ff ?_)|((with_reducible refine ObB.yes ?_ ?_);exact zB)|((with_reducible refine ObB.no ?_ ?_);exact zC)|((with_reducible refine (?_:ObR _ _ _));(first|(refine ObR.mk _ (by first|assumption|with_reducible rfl) ?_)|(refine ObR.map zX (fun x hx=>?_))|(refine ObR.mk _ rfl ?_))))
      conv=>whnf
      refine LoopP.go (α:=Nat) (fun i=>i≤kk.length) (fun i=>kk.length - i) (fun i=>[(2,some (Bo false)),(0,some (I i)),(17,none),(0,none),(0,none),(0,none),(0,none),(0,none),(0,none),(0,none),(0,none),(0,none),(0,none),(0,none),(0,none)]) (fun i=>[⟨41,9,[nV 2 ke va mp kk mn ls sz bi],0,0⟩]) 0 (Nat.zero_le _) (Fg.go ?_ rfl) ?_
      · repeat' ((conv=>whnf);first|((with_reducible refine ObEqs.mk ?_ ?_);rfl)|((with_reducible refine ObEq1.i ?_ ?_);exact zF)|((with_reducible refine ObEq1.mk ?_ ?_);exact zE)|exact True.intro)
      intro i hi
      have hlt:i < kk.length∨i=kk.length:=by omega
      rcases hlt with hlt|rfl
      · have hq : (kk.map iA)[i]? = some (I kk[i]) := iA_at hlt
        have hf:¬ kk[i]=0:=fun e=>by have:=h i hlt;simp [List.getElem?_eq_getElem hlt,e] at this
        repeat' ((conv=>whnf);first|(with_reducible refine SeqP.go ?_)|((with_reducible refine ObN.mk ?_ ?_);exact zN)|(with_reducible first|refine ObT.tt ?_|refine ObT.ff ?_)|((with_reducible refine ObB.yes ?_ ?_);exact zB)|((with_reducible refine ObB.no ?_ ?_);exact zC)|((with_reducible refine ObI.nl ?_ ?_);omega)|((with_reducible refine ObX.mk _ rfl ?_ ?_);exact zX)|((with_reducible refine (?_:ObL _ _));(refine ObL.mk _ zL ?_))|((with_reducible refine (?_:ObR _ _ _));(first|(refine ObR.mk _ (by first|assumption|with_reducible rfl) ?_)|(refine ObR.map zX (fun x hx=>?_))|(refine ObR.mk _ rfl ?_))))
        conv=>whnf
        refine Again.mk (i+1) ?_ ?_ (Fg.go ?_ rfl)
        · omega
        · omega
        repeat' ((conv=>whnf);first|((with_reducible refine ObEqs.mk ?_ ?_);rfl)|((with_reducible refine ObEq1.i ?_ ?_);exact zF)|((with_reducible refine ObEq1.mk ?_ ?_);exact zE)|exact True.intro)
      · repeat' ((conv=>whnf);first|(with_reducible refine SeqP.go ?_)|((with_reducible refine ObD.mk ?_ ?_);exact zD)|((with_reducible refine ObN.mk ?_ ?_);exact zN)|(with_reducible first|refine ObT.tt ?_|refine ObT.ff ?_)|((with_reducible refine ObB.no ?_ ?_);exact zC)|(with_reducible refine ObB.mk (fun h=>?_) (fun h=>?_))|((with_reducible refine (?_:ObL _ _));(refine ObL.mk _ zL ?_))|((with_reducible refine (?_:ObR _ _ _));(first|(refine ObR.mk _ (by first|assumption|with_reducible rfl) ?_)|(refine ObR.map zX (fun x hx=>?_))|(refine ObR.mk _ rfl ?_)))|((with_reducible refine ObC.f 56 ?_);(first|(with_reducible refine ObC.mk _ (b7) ?_)|(refine ObC.mk _ (b7) ?_)))|((with_reducible refine ObC.f 72 ?_);(first|(with_reducible refine ObC.mk _ (b2) ?_)|(refine ObC.mk _ (b2) ?_)))|((with_reducible refine ObEq.mk ?_);(focus (first|rfl|assumption|exact (by cases r<;>cases q2<;>first|(simp_all;done)|(simp_all;omega))))))
    · have hz : (0 : Int) ∈ kk := List.mem_of_getElem? (of_decide_eq_true h2)
      obtain rfl:r=false:=by
        cases r with
        | false=>rfl
        | true=>exact absurd hz (hr'.1 rfl).1
      refine pc_ofV cop59 ?_
      repeat' ((conv=>whnf);first|(with_reducible refine SeqP.go ?_)|((with_reducible refine ObD.mk ?_ ?_);exact zD)|((with_reducible refine ObN.mk ?_ ?_);exact zN)|(with_reducible first|refine ObT.tt ?_|refine ObT.ff ?_)|((with_reducible refine ObB.yes ?_ ?_);exact zB)|((with_reducible refine ObB.no ?_ ?_);exact zC)|((with_reducible refine (?_:ObR _ _ _));(first|(refine ObR.mk _ (by first|assumption|with_reducible rfl) ?_)|(refine ObR.map zX (fun x hx=>?_))|(refine ObR.mk _ rfl ?_))))
      conv=>whnf
      refine LoopP.go (α:=Nat) (fun i=>i≤i0) (fun i=>kk.length - i) (fun i=>[(2,some (Bo false)),(0,some (I i)),(17,none),(0,none),(0,none),(0,none),(0,none),(0,none),(0,none),(0,none),(0,none),(0,none),(0,none),(0,none),(0,none)]) (fun i=>[⟨41,9,[nV 2 ke va mp kk mn ls sz bi],0,0⟩]) 0 (Nat.zero_le _) (Fg.go ?_ rfl) ?_
      · repeat' ((conv=>whnf);first|((with_reducible refine ObEqs.mk ?_ ?_);rfl)|((with_reducible refine ObEq1.i ?_ ?_);exact zF)|((with_reducible refine ObEq1.mk ?_ ?_);exact zE)|exact True.intro)
      intro i hi
      have hlt:i < kk.length:=by omega
      have hq:(kk.map iA)[i]? = some (I kk[i]):=iA_at hlt
      by_cases he:i=i0
      · subst he
        have hf:kk[i]=0:=by have:=of_decide_eq_true h2;rw [List.getElem?_eq_getElem hlt] at this;exact (Option.some.inj this)
        repeat' ((conv=>whnf);first|(with_reducible refine SeqP.go ?_)|((with_reducible refine ObN.mk ?_ ?_);exact zN)|(with_reducible refine ObT.tt ?_)|((with_reducible refine ObB.yes ?_ ?_);exact zB)|((with_reducible refine ObX.mk _ rfl ?_ ?_);exact zX)|((with_reducible refine (?_:ObL _ _));(refine ObL.mk _ zL ?_))|((with_reducible refine (?_:ObR _ _ _));(first|(refine ObR.mk _ (by first|assumption|with_reducible rfl) ?_)|(refine ObR.map zX (fun x hx=>?_))|(refine ObR.mk _ rfl ?_)))|((with_reducible refine ObEq.mk ?_);exact zE))
      · have hf:¬ kk[i]=0:=fun e=>by have:=h3 i (by omega);simp [List.getElem?_eq_getElem hlt,e] at this
        repeat' ((conv=>whnf);first|(with_reducible refine SeqP.go ?_)|((with_reducible refine ObN.mk ?_ ?_);exact zN)|(with_reducible first|refine ObT.tt ?_|refine ObT.ff ?_)|((with_reducible refine ObB.yes ?_ ?_);exact zB)|((with_reducible refine ObB.no ?_ ?_);exact zC)|((with_reducible refine ObI.nl ?_ ?_);omega)|((with_reducible refine ObX.mk _ rfl ?_ ?_);exact zX)|((with_reducible refine (?_:ObL _ _));(refine ObL.mk _ zL ?_))|((with_reducible refine (?_:ObR _ _ _));(first|(refine ObR.mk _ (by first|assumption|with_reducible rfl) ?_)|(refine ObR.map zX (fun x hx=>?_))|(refine ObR.mk _ rfl ?_))))
        conv=>whnf
        refine Again.mk (i+1) ?_ ?_ (Fg.go ?_ rfl)
        · omega
        · omega
        repeat' ((conv=>whnf);first|((with_reducible refine ObEqs.mk ?_ ?_);rfl)|((with_reducible refine ObEq1.i ?_ ?_);exact zF)|((with_reducible refine ObEq1.mk ?_ ?_);exact zE)|exact True.intro)
  · have hr' : r = true ↔ (2 : Int) ≤ (ls.length : Nat) ∧ q6 = true ∧ sz = (ls.length : Nat) ∧ q3 = true := by rw [hr]; simp [hb]
    clear hr
    refine pc_ofV cop59 ?_
    cases q6
    all_goals repeat' ((conv=>whnf);first|(with_reducible refine SeqP.go ?_)|((with_reducible refine ObD.mk ?_ ?_);exact zD)|((with_reducible refine ObN.mk ?_ ?_);exact zN)|(with_reducible first|refine ObT.tt ?_|refine ObT.ff ?_)|((with_reducible refine ObB.yes ?_ ?_);exact zB)|((with_reducible refine ObB.no ?_ ?_);exact zC)|(with_reducible refine ObB.mk (fun h=>?_) (fun h=>?_))|((with_reducible refine (?_:ObL _ _));(refine ObL.mk _ zL ?_))|((with_reducible refine (?_:ObR _ _ _));(first|(refine ObR.mk _ (by first|assumption|with_reducible rfl) ?_)|(refine ObR.map zX (fun x hx=>?_))|(refine ObR.mk _ rfl ?_)))|((with_reducible refine ObC.f 72 ?_);(first|(with_reducible refine ObC.mk _ (b3) ?_)|(refine ObC.mk _ (b3) ?_)))|((with_reducible refine ObC.f 73 ?_);(first|(with_reducible refine ObC.mk _ (b6) ?_)|(refine ObC.mk _ (b6) ?_)))|((with_reducible refine ObEq.mk ?_);(focus (first|rfl|assumption|exact (by cases r<;>cases q3<;>first|(simp_all;done)|(simp_all;omega))))))
  · have hr' : r = true ↔ (mp : Int) = 0 ∧ ((kk.length : Nat) : Int) = 2 ∧ 1 ≤ sz ∧ q4 = true := by rw [hr]; simp [hb]
    clear hr
    refine pc_ofV cop59 ?_
    repeat' ((conv=>whnf);first|(with_reducible refine SeqP.go ?_)|((with_reducible refine ObD.mk ?_ ?_);exact zD)|((with_reducible refine ObN.mk ?_ ?_);exact zN)|(with_reducible first|refine ObT.tt ?_|refine ObT.ff ?_)|((with_reducible refine ObB.yes ?_ ?_);exact zB)|((with_reducible refine ObB.no ?_ ?_);exact zC)|(with_reducible refine ObB.mk (fun h=>?_) (fun h=>?_))|((with_reducible refine (?_:ObL _ _));(refine ObL.mk _ zL ?_))|((with_reducible refine (?_:ObR _ _ _));(first|(refine ObR.mk _ (by first|assumption|with_reducible rfl) ?_)|(refine ObR.map zX (fun x hx=>?_))|(refine ObR.mk _ rfl ?_)))|((with_reducible refine ObC.f 72 ?_);(first|(with_reducible refine ObC.mk _ (b4) ?_)|(refine ObC.mk _ (b4) ?_)))|((with_reducible refine ObEq.mk ?_);(focus (first|rfl|assumption|exact (by cases r<;>cases q4<;>first|(simp_all;done)|(simp_all;omega))))))
  · have hr' : r = true ↔ ¬ mn = 0 ∧ sz = 0 ∧ q5 = true := by rw [hr]; simp [hb]
    clear hr
    refine pc_ofV cop59 ?_
    repeat' ((conv=>whnf);first|(with_reducible refine SeqP.go ?_)|((with_reducible refine ObD.mk ?_ ?_);exact zD)|((with_reducible refine ObN.mk ?_ ?_);exact zN)|(with_reducible first|refine ObT.tt ?_|refine ObT.ff ?_)|((with_reducible refine ObB.no ?_ ?_);exact zC)|(with_reducible refine ObB.mk (fun h=>?_) (fun h=>?_))|((with_reducible refine (?_:ObR _ _ _));(first|(refine ObR.mk _ (by first|assumption|with_reducible rfl) ?_)|(refine ObR.map zX (fun x hx=>?_))|(refine ObR.mk _ rfl ?_)))|((with_reducible refine ObC.f 72 ?_);(first|(with_reducible refine ObC.mk _ (b5) ?_)|(refine ObC.mk _ (b5) ?_)))|((with_reducible refine ObEq.mk ?_);(focus (first|rfl|assumption|exact (by cases r<;>cases q5<;>first|(simp_all;done)|(simp_all;omega))))))
end Go.Proofs.Ytefkaglgekjlfaa.Sim
namespace Go.Proofs.Ytefkaglgekjlfaa.Sim.Pr7
open Go.RowKit
set_option maxRecDepth 100000
theorem set_pA {C:List Pr} {p:Nat} {x:Pr}:(C.map pA).set p (.agg [S x.1,S x.2])=(C.set p x).map pA:=by
  rw [List.map_set];rfl
def px (D:List Pr) (f:Nat→Nat):List Pr:=(List.range D.length).map fun x=>D.getD (f x) default
theorem px_len {D:List Pr} {f:Nat→Nat}:(px D f).length=D.length:=by simp [px]
theorem px_at {D:List Pr} {f:Nat→Nat} {x:Nat}:(px D f)[x]? = if x < D.length then some (D.getD (f x) default) else none:=by
  unfold px
  rw [List.getElem?_map]
  by_cases h:x < D.length
  · rw [List.getElem?_range h,if_pos h];rfl
  · rw [if_neg h,List.getElem?_eq_none (by simpa using h)];rfl
theorem px_get {D:List Pr} {f:Nat→Nat} {x:Nat} (h:x < (px D f).length):(px D f)[x]=D.getD (f x) default:=by
  have h2:x < D.length:=by rwa [px_len] at h
  have:=px_at (D:=D) (f:=f) (x:=x)
  rw [if_pos h2,List.getElem?_eq_getElem h] at this
  exact Option.some.inj this
theorem px_congr {D:List Pr} {f g:Nat→Nat} (h:∀ x,x < D.length→f x=g x):px D f=px D g:=by
  apply List.ext_getElem?
  intro x
  rw [px_at,px_at]
  by_cases hx:x < D.length
  · rw [if_pos hx,if_pos hx,h x hx]
  · rw [if_neg hx,if_neg hx]
theorem px_id {D:List Pr}:px D (fun x=>x)=D:=by
  apply List.ext_getElem?
  intro x
  rw [px_at]
  by_cases hx:x < D.length
  · rw [if_pos hx,List.getD_eq_getElem?_getD,List.getElem?_eq_getElem hx];rfl
  · rw [if_neg hx,List.getElem?_eq_none (by omega)]
theorem px_px {D:List Pr} {f g:Nat→Nat} (h:∀ x,x < D.length→g x < D.length):px (px D f) g=px D (fun x=>f (g x)):=by
  apply List.ext_getElem?
  intro x
  rw [px_at,px_at,px_len]
  by_cases hx:x < D.length
  · rw [if_pos hx,if_pos hx,List.getD_eq_getElem?_getD,px_at,if_pos (h x hx)];rfl
  · rw [if_neg hx,if_neg hx]
theorem px_set {D : List Pr} {f : Nat → Nat} {p q : Nat} (hp : p < (px D f).length) (hq : q < (px D f).length) :
    ((px D f).set p (px D f)[q]).set q (px D f)[p]=px D (fun x=>if x=q then f p else if x=p then f q else f x):=by
  apply List.ext_getElem?
  intro x
  rw [List.getElem?_set,List.getElem?_set,px_at,px_at,px_get hp,px_get hq]
  simp only [List.length_set,px_len] at *
  by_cases h1:q=x
  · subst h1;simp [hq]
  · by_cases h2 : p = x
    · subst h2;simp [hp,h1,Ne.symm h1]
    · simp [h1,h2,Ne.symm h1,Ne.symm h2]
def swf (a b n x:Nat):Nat:=if a≤x∧x < a+n then b+(x - a) else if b≤x∧x < b+n then a+(x - b) else x
abbrev rw0 (D:List Pr) (g:Nat):OB:=⟨67,2,D.map pA,g,0⟩
theorem rw0_eq {D E:List Pr} {g:Nat} (h:D=E):[rw0 D g]=[rw0 E g]:=by rw [h]
set_option maxHeartbeats 4000000 in
theorem swp46 (G : Nat → AV) (D : List Pr) (g a b n : Nat) (hN : D.length ≤ 1000000) (h1 : a + n ≤ b) (h2 : b + n ≤ D.length) (cf : AV) :
    HC Try.prog G 102 [.ol 0 g D.length,I a,I b,I n,cf] [rw0 D g] (.tup []) [rw0 (px D (swf a b n)) g]:=by
  refine hc_of cop102 ?_
  show W _ _ _ _ ⟨_,_⟩;simp only [A102,List.cons_append,List.nil_append,List.length_cons,List.length_nil,Nat.reduceAdd,Nat.reduceSub,List.replicate]
  repeat (first|(with_reducible first|refine w_seq ?_|refine w_reg ?_|refine w_block ?_|refine ws_nil ?_|refine q_then ?_)|((with_reducible first|refine ks fun K hK=>?_|refine kd fun K hK=>?_|refine kc fun K hK2 hK hK3=>?_);simp (disch:=omega) only [bg0,bg1,bg2,bg3,bg4,stepO,rsAs,eff,AX.ev,St.put,binA,conc,ap1,ofVal,Int.reduceTMod,Int.reduceTDiv,reduceCtorEq,fillA,AV.cells,AV.fine,AV.one,Nat.reduceAdd,Nat.reduceSub,Nat.reduceMul,Nat.reduceLT,Nat.reduceLeDiff,Int.reduceLT,Int.reduceLE,Int.reduceAdd,Int.reduceSub,Int.reduceNeg,Int.reduceMul,Int.reduceEq,Int.reduceToNat,nilA,moveA,live,loadA,rdA,storeA,wrA,intA,elemA,lenA,appA,srcA,isPtr,isNilPtr,partA,resOf,sliceA,cut,id,ap2,reduceIte,concs,chkB,geB,AOp.cls,AOp.xs,ltB,ltC,Nat.reduceBEq,Option.toList,List.cons_append,decide_eq_true,decide_eq_false,if_pos,if_neg,List.length_map,pA_at,List.cons_append,bVb,bVn,eq_self,Bool.and_self,BEq.rfl,not_true_eq_false,set_pA,List.length_set];(with_reducible first|(refine hK _ ?_;clear hK K)|(refine hK ?_;clear hK hK3 K hK2)|(refine hK3 ?_;clear hK hK3 K hK2))))
  refine w_loop_m [10,11,12,13,14,15,16,17,18,19,20,21,22,23,24,25,26,27,28,29,30,31,32,33,34,35,36,37] (fun k v H=>v 10=I k∧H=[rw0 (px D (swf a b k)) g]) n ⟨rfl,?_⟩ ?_ ?_
  · refine rw0_eq ?_
    have e:px D (swf a b 0)=px D (fun x=>x):=px_congr fun x _=>by
      simp only [swf]
      repeat' split
      all_goals omega
    rw [e,px_id]
  · rintro k v H hk ⟨h10, rfl⟩
    have hl:(px D (swf a b k)).length=D.length:=px_len
    have hp:a+k < (px D (swf a b k)).length:=by omega
    have hq:b+k < (px D (swf a b k)).length:=by omega
    have hs:=px_set hp hq
    generalize px D (swf a b k)=C at hl hp hq hs
    have q1:=pA_at (l:=C.set (a+k) C[b+k]) (k:=b+k) (by simp;omega)
    have e1:((a:Int)+(k:Int)).toNat=a+k:=by omega
    have e2:((b:Int)+(k:Int)).toNat=b+k:=by omega
    simp only [mix,mix_nil,mix_end,mix_skp,Nat.reduceEqDiff,Nat.reduceLeDiff,reduceCtorEq,if_true,if_false,reduceIte,Nat.reduceAdd,h10]
    repeat (first|(with_reducible first|refine w_seq ?_|refine w_reg ?_)|(with_reducible refine w_drawx2 ?_ ?_ ?_ ?_;rotate_left 1)|(with_reducible first|exact isSt|refine w_block ?_|refine w_skip ?_|refine ws_nil ?_|refine wd_nil ?_|refine q_then ?_|refine q_block_n ?_)|((with_reducible first|refine ks fun K hK=>?_|refine kd fun K hK=>?_|refine kc fun K hK2 hK hK3=>?_);simp (disch:=omega) only [bg0,bg1,bg2,bg3,bg4,stepO,rsAs,eff,AX.ev,St.put,binA,conc,ap1,ofVal,Int.reduceTMod,Int.reduceTDiv,reduceCtorEq,fillA,AV.cells,AV.fine,AV.one,Nat.reduceAdd,Nat.reduceSub,Nat.reduceMul,Nat.reduceLT,Nat.reduceLeDiff,Int.reduceLT,Int.reduceLE,Int.reduceAdd,Int.reduceSub,Int.reduceNeg,Int.reduceMul,Int.reduceEq,Int.reduceToNat,nilA,moveA,live,loadA,rdA,storeA,wrA,intA,elemA,lenA,appA,srcA,isPtr,isNilPtr,partA,resOf,sliceA,cut,id,ap2,reduceIte,concs,chkB,geB,AOp.cls,AOp.xs,ltB,ltC,Nat.reduceBEq,Option.toList,List.cons_append,decide_eq_true,decide_eq_false,if_pos,if_neg,List.length_map,pA_at,List.cons_append,bVb,bVn,eq_self,Bool.and_self,BEq.rfl,not_true_eq_false,set_pA,List.length_set,e1,e2,q1];(with_reducible first|(refine hK _ ?_;clear hK K)|(refine hK ?_;clear hK hK3 K hK2)|(refine hK3 ?_;clear hK hK3 K hK2))))
    refine ⟨rfl,rfl,rw0_eq (hs.trans (px_congr fun x hx=>?_))⟩
    simp only [swf]
    repeat' split
    all_goals omega
  · rintro v H ⟨h10, rfl⟩
    simp only [mix,mix_nil,mix_end,mix_skp,Nat.reduceEqDiff,Nat.reduceLeDiff,reduceCtorEq,if_true,if_false,reduceIte,Nat.reduceAdd,h10]
    repeat (first|(with_reducible first|refine w_seq ?_|refine w_reg ?_|refine w_exit ?_|refine ws_nil ?_|refine q_then ?_|refine q_then_x ?_|refine q_block_x ?_)|((with_reducible first|refine ks fun K hK=>?_|refine kd fun K hK=>?_|refine kc fun K hK2 hK hK3=>?_);simp (disch:=omega) only [bg0,bg1,bg2,bg3,bg4,stepO,rsAs,eff,AX.ev,St.put,binA,conc,ap1,ofVal,Int.reduceTMod,Int.reduceTDiv,reduceCtorEq,fillA,AV.cells,AV.fine,AV.one,Nat.reduceAdd,Nat.reduceSub,Nat.reduceMul,Nat.reduceLT,Nat.reduceLeDiff,Int.reduceLT,Int.reduceLE,Int.reduceAdd,Int.reduceSub,Int.reduceNeg,Int.reduceMul,Int.reduceEq,Int.reduceToNat,nilA,moveA,live,loadA,rdA,storeA,wrA,intA,elemA,lenA,appA,srcA,isPtr,isNilPtr,partA,resOf,sliceA,cut,id,ap2,reduceIte,concs,chkB,geB,AOp.cls,AOp.xs,ltB,ltC,Nat.reduceBEq,Option.toList,List.cons_append,decide_eq_true,decide_eq_false,if_pos,if_neg,List.length_map,pA_at,List.cons_append,bVb,bVn,eq_self,Bool.and_self,BEq.rfl,not_true_eq_false,set_pA,List.length_set];(with_reducible first|(refine hK _ ?_;clear hK K)|(refine hK ?_;clear hK hK3 K hK2)|(refine hK3 ?_;clear hK hK3 K hK2)))|((with_reducible refine ret_0 ?_);try rfl))
def rtf (a m b x:Nat):Nat:=if a≤x∧x < a+(b - m) then m+(x - a) else if a+(b - m)≤x∧x < b then x - (b - m) else x
theorem rtf_lt {a m b x N:Nat} (h1:a≤m) (h2:m≤b) (h3:b≤N) (hx:x < N):rtf a m b x < N:=by
  unfold rtf;repeat' split
  all_goals omega
theorem rt_gt {C:List Pr} {m i j:Nat} (hij:j < i) (hj:0 < j) (hi:i≤m) (hb:m+j≤C.length):px (px C (swf (m - i) m j)) (rtf (m - (i - j)) m (m+j))=px C (rtf (m - i) m (m+j)):=by
  rw [px_px fun x hx=>rtf_lt (by omega) (by omega) hb hx]
  refine px_congr fun x hx=>?_
  simp only [swf,rtf]
  repeat' split
  all_goals omega
theorem rt_lt {C:List Pr} {m i j:Nat} (hij:i < j) (hi0:0 < i) (hi:i≤m) (hb:m+j≤C.length):px (px C (swf (m - i) (m+j - i) i)) (rtf (m - i) m (m+(j - i)))=px C (rtf (m - i) m (m+j)):=by
  rw [px_px fun x hx=>rtf_lt (by omega) (by omega) (by omega) hx]
  refine px_congr fun x hx=>?_
  simp only [swf,rtf]
  repeat' split
  all_goals omega
theorem rt_eq {C:List Pr} {m i:Nat} (hi:i≤m) (hb:m+i≤C.length):px C (swf (m - i) m i)=px C (rtf (m - i) m (m+i)):=by
  refine px_congr fun x hx=>?_
  simp only [swf,rtf]
  repeat' split
  all_goals omega
set_option maxHeartbeats 4000000 in
theorem rot45 (G : Nat → AV) (D : List Pr) (g a m b : Nat) (hN : D.length ≤ 1000000) (h1 : a < m) (h2 : m < b) (h3 : b ≤ D.length) (cf : AV) :
    HC Try.prog G 101 [.ol 0 g D.length,I a,I m,I b,cf] [rw0 D g] (.tup []) [rw0 (px D (rtf a m b)) g]:=by
  refine hc_of cop101 ?_
  show W _ _ _ _ ⟨_,_⟩;simp only [A101,List.cons_append,List.nil_append,List.length_cons,List.length_nil,Nat.reduceAdd,Nat.reduceSub,List.replicate]
  repeat (first|(with_reducible first|refine w_seq ?_|refine w_reg ?_|refine w_block ?_|refine ws_nil ?_|refine q_then ?_)|((with_reducible first|refine ks fun K hK=>?_|refine kd fun K hK=>?_|refine kc fun K hK2 hK hK3=>?_);simp (disch:=omega) only [bg0,bg1,bg2,bg3,bg4,stepO,rsAs,eff,AX.ev,St.put,binA,conc,ap1,ofVal,Int.reduceTMod,Int.reduceTDiv,reduceCtorEq,fillA,AV.cells,AV.fine,AV.one,Nat.reduceAdd,Nat.reduceSub,Nat.reduceMul,Nat.reduceLT,Nat.reduceLeDiff,Int.reduceLT,Int.reduceLE,Int.reduceAdd,Int.reduceSub,Int.reduceNeg,Int.reduceMul,Int.reduceEq,Int.reduceToNat,nilA,moveA,live,loadA,rdA,storeA,wrA,intA,elemA,lenA,appA,srcA,isPtr,isNilPtr,partA,resOf,sliceA,cut,id,ap2,reduceIte,concs,chkB,geB,AOp.cls,AOp.xs,ltB,ltC,Nat.reduceBEq,Option.toList,List.cons_append,decide_eq_true,decide_eq_false,if_pos,if_neg,List.length_map,pA_at,List.cons_append,bVb,bVn,eq_self,Bool.and_self,BEq.rfl,not_true_eq_false,set_pA,List.length_set];(with_reducible first|(refine hK _ ?_;clear hK K)|(refine hK ?_;clear hK hK3 K hK2)|(refine hK3 ?_;clear hK hK3 K hK2))))
  refine w_loop_d [10,11,18,19,20,21,22,23,24,25,26,27,28,29,30,31,32,33,34,35,36,37,38,39,40,41,42,43,44,45,46,47,48,49] (fun u v H=>∃ (i j:Nat) (C:List Pr),u=i+j∧v 10=I i∧v 11=I j∧H=[rw0 C g]∧C.length=D.length∧0 < i∧0 < j∧i≤m - a∧j≤b - m∧px C (rtf (m - i) m (m+j))=px D (rtf a m b)) (b - a) ⟨m - a,b - m,D,by omega,by simp [at_];omega,by simp [at_];omega,rfl,rfl,by omega,by omega,by omega,by omega,by rw [show m - (m - a)=a by omega,show m+(b - m)=b by omega]⟩ ?_
  rintro u v H ⟨i,j,C,rfl,h10,h11,rfl,hl,hi,hj,hi2,hj2,hpx⟩
  simp only [mix,mix_nil,mix_end,mix_skp,Nat.reduceEqDiff,Nat.reduceLeDiff,reduceCtorEq,if_true,if_false,reduceIte,Nat.reduceAdd,h10,h11]
  have e1:(m:Int) - (i:Int)=((m - i:Nat):Int):=by omega
  by_cases hij:i=j
  · subst hij
    rw [← hpx,← rt_eq (by omega) (by omega),← hl]
    repeat (first|(with_reducible first|refine w_seq ?_|refine w_reg ?_|refine w_exit ?_|refine ws_nil ?_|refine q_then ?_|refine q_then_x ?_|refine q_block_x ?_)|((with_reducible first|refine ks fun K hK=>?_|refine kd fun K hK=>?_|refine kc fun K hK2 hK hK3=>?_);simp (disch:=omega) only [bg0,bg1,bg2,bg3,bg4,stepO,rsAs,eff,AX.ev,St.put,binA,conc,ap1,ofVal,Int.reduceTMod,Int.reduceTDiv,reduceCtorEq,fillA,AV.cells,AV.fine,AV.one,Nat.reduceAdd,Nat.reduceSub,Nat.reduceMul,Nat.reduceLT,Nat.reduceLeDiff,Int.reduceLT,Int.reduceLE,Int.reduceAdd,Int.reduceSub,Int.reduceNeg,Int.reduceMul,Int.reduceEq,Int.reduceToNat,nilA,moveA,live,loadA,rdA,storeA,wrA,intA,elemA,lenA,appA,srcA,isPtr,isNilPtr,partA,resOf,sliceA,cut,id,ap2,reduceIte,concs,chkB,geB,AOp.cls,AOp.xs,ltB,ltC,Nat.reduceBEq,Option.toList,List.cons_append,decide_eq_true,decide_eq_false,if_pos,if_neg,List.length_map,pA_at,List.cons_append,bVb,bVn,eq_self,Bool.and_self,BEq.rfl,not_true_eq_false,set_pA,List.length_set,e1];(with_reducible first|(refine hK _ ?_;clear hK K)|(refine hK ?_;clear hK hK3 K hK2)|(refine hK3 ?_;clear hK hK3 K hK2)))|((with_reducible refine khs 102 ?_ ?_ ?_ ?_);rotate_left 2;exact (swp46 G C g (m - i) m i (by omega) (by omega) (by omega) cf))|((with_reducible refine ret_0 ?_);try rfl))
  · by_cases hgt : j < i
    · have hn : ¬ ((i : Int) = (j : Int)) := by omega
      have hg:(j:Int) < (i:Int):=by omega
      have e2:(i:Int) - (j:Int)=((i - j:Nat):Int):=by omega
      rw [← hl]
      repeat (first|(with_reducible first|refine w_seq ?_|refine w_reg ?_|refine w_block ?_|refine w_skip ?_|refine ws_nil ?_|refine q_then ?_|refine q_block_n ?_)|((with_reducible first|refine ks fun K hK=>?_|refine kd fun K hK=>?_|refine kc fun K hK2 hK hK3=>?_);simp (disch:=omega) only [bg0,bg1,bg2,bg3,bg4,stepO,rsAs,eff,AX.ev,St.put,binA,conc,ap1,ofVal,Int.reduceTMod,Int.reduceTDiv,reduceCtorEq,fillA,AV.cells,AV.fine,AV.one,Nat.reduceAdd,Nat.reduceSub,Nat.reduceMul,Nat.reduceLT,Nat.reduceLeDiff,Int.reduceLT,Int.reduceLE,Int.reduceAdd,Int.reduceSub,Int.reduceNeg,Int.reduceMul,Int.reduceEq,Int.reduceToNat,nilA,moveA,live,loadA,rdA,storeA,wrA,intA,elemA,lenA,appA,srcA,isPtr,isNilPtr,partA,resOf,sliceA,cut,id,ap2,reduceIte,concs,chkB,geB,AOp.cls,AOp.xs,ltB,ltC,Nat.reduceBEq,Option.toList,List.cons_append,decide_eq_true,decide_eq_false,if_pos,if_neg,List.length_map,pA_at,List.cons_append,bVb,bVn,eq_self,Bool.and_self,BEq.rfl,not_true_eq_false,set_pA,List.length_set,e1,e2,hn,hg];(with_reducible first|(refine hK _ ?_;clear hK K)|(refine hK ?_;clear hK hK3 K hK2)|(refine hK3 ?_;clear hK hK3 K hK2)))|((with_reducible refine khs 102 ?_ ?_ ?_ ?_);rotate_left 2;exact (swp46 G C g (m - i) m j (by omega) (by omega) (by omega) cf)))
      exact ⟨rfl,i,by omega,i - j,j,_,by omega,rfl,rfl,rfl,by rw [px_len,hl],by omega,hj,by omega,hj2,by rw [rt_gt hgt hj (by omega) (by omega)];exact hpx⟩
    · have hn : ¬ ((i : Int) = (j : Int)) := by omega
      have hg:¬ (j:Int) < (i:Int):=by omega
      have e2:(j:Int) - (i:Int)=((j - i:Nat):Int):=by omega
      have e3:(m:Int)+(j:Int) - (i:Int)=((m+j - i:Nat):Int):=by omega
      rw [← hl]
      repeat (first|(with_reducible first|refine w_seq ?_|refine w_reg ?_|refine w_block ?_|refine w_skip ?_|refine ws_nil ?_|refine q_then ?_|refine q_block_n ?_)|((with_reducible first|refine ks fun K hK=>?_|refine kd fun K hK=>?_|refine kc fun K hK2 hK hK3=>?_);simp (disch:=omega) only [bg0,bg1,bg2,bg3,bg4,stepO,rsAs,eff,AX.ev,St.put,binA,conc,ap1,ofVal,Int.reduceTMod,Int.reduceTDiv,reduceCtorEq,fillA,AV.cells,AV.fine,AV.one,Nat.reduceAdd,Nat.reduceSub,Nat.reduceMul,Nat.reduceLT,Nat.reduceLeDiff,Int.reduceLT,Int.reduceLE,Int.reduceAdd,Int.reduceSub,Int.reduceNeg,Int.reduceMul,Int.reduceEq,Int.reduceToNat,nilA,moveA,live,loadA,rdA,storeA,wrA,intA,elemA,lenA,appA,srcA,isPtr,isNilPtr,partA,resOf,sliceA,cut,id,ap2,reduceIte,concs,chkB,geB,AOp.cls,AOp.xs,ltB,ltC,Nat.reduceBEq,Option.toList,List.cons_append,decide_eq_true,decide_eq_false,if_pos,if_neg,List.length_map,pA_at,List.cons_append,bVb,bVn,eq_self,Bool.and_self,BEq.rfl,not_true_eq_false,set_pA,List.length_set,e1,e2,e3,hn,hg];(with_reducible first|(refine hK _ ?_;clear hK K)|(refine hK ?_;clear hK hK3 K hK2)|(refine hK3 ?_;clear hK hK3 K hK2)))|((with_reducible refine khs 102 ?_ ?_ ?_ ?_);rotate_left 2;exact (swp46 G C g (m - i) (m+j - i) i (by omega) (by omega) (by omega) cf)))
      exact ⟨rfl,j,by omega,i,j - i,_,by omega,rfl,rfl,rfl,by rw [px_len,hl],hi,by omega,hi2,by omega,by rw [rt_lt (by omega) hi (by omega) (by omega)];exact hpx⟩
end Go.Proofs.Ytefkaglgekjlfaa.Sim.Pr7
