/- Texts of this claim, part 9. -/
import Derived.Test.YtdodckipblafmaaGreatDoorMSeekLies8
set_option linter.unusedVariables false
set_option linter.unusedSimpArgs false
namespace Go.Proofs.YtdodckipblafmaaGreatDoor.Sim.Pr7
open Go.RowKit
set_option maxRecDepth 100000
set_option maxHeartbeats 8000000 in
theorem rmake15 (G:Nat->AV) (l:List Pr) (hl:Okl l):PC Tryz.prog G 45 [.sl 2 (l.map pA)] (.sl 2 ((mk l).map pA)):=by
 have hlen:=hl.len
 refine yg cop45 ?_
 show W _ _ _ _ ⟨_,_⟩;simp only [A45,List.cons_append,List.nil_append,List.length_cons,List.length_nil,Nat.reduceAdd,Nat.reduceSub,List.replicate]
 repeat (first|(with_reducible first|refine zQ ?_|refine zP ?_|refine zZ ?_|refine zw ?_|refine zp ?_)|((with_reducible first|refine ks fun K hK=>?_|refine kd fun K hK=>?_|refine kc fun K hK2 hK hK3=>?_);simp (disch:=omega) only [bg0,bg1,bg2,bg3,bg4,zt,zS,eff,AX.ev,St.put,zO,zK,ap1,zi,simprocAttr,zu,AV.cells,AV.fine,AV.one,zY,zq,live,zo,rdA,zg,wrA,zI,zr,zW,zT,zV,zk,zb,zm,zj,ze,cut,id,ap2,zx,zy,geB,AOp.cls,AOp.xs,ltB,ltC,Option.toList,List.cons_append,decide_eq_true,decide_eq_false,if_pos,if_neg,List.length_map,zH,bVb,bVn,eq_self,Bool.and_self,BEq.rfl,not_true_eq_false,gR0,Z6,Z5,sR0,Z2,Z1,lR0,lR1,gR1,gR2,Z4,sR1,sR2,Z0,Zz,Zy,z7];(with_reducible first|(refine hK _ ?_;clear hK K)|(refine hK ?_;clear hK hK3 K hK2)|(refine hK3 ?_;clear hK hK3 K hK2))))
 refine ZT [3,4,5,7,8,9,10,11,12,13,14,15,16,17,18,19,20,21,22,23,24,25,26,27,28,29,30,31,32,33,34,35,36,37,38,39,40,41,42,43,44,45,46,47,48,49,50] (fun k v H=>∃ (pre:List Pr) (J K:Hp) (g fz:Nat),lasts l=pre++lasts (l.drop k)/\v 4=I k/\v 3 = .ol J.length g (mk pre).length/\H=J++⟨31,2,(mk pre).map pA,g,fz⟩::K) l.length ⟨[],[],[],0,0,rfl,rfl,rfl,rfl⟩ ?_ ?_
 ·rintro k v H hk ⟨pre, J, K, g, fz, hla, h4, h3, rfl⟩
  simp only [mix,z9,Za,Zb,simprocAttr,if_true,if_false,h3,h4]
  rw [lasts_drop hk] at hla
  have hsub:∀ p ∈ pre,p ∈ l:=fun p hp=>(ZY l).subset (by rw [hla];simp [hp])
  have hkx:=hl.k hk
  have hpl:(mk pre).length<=1000000:=by
   have:=mk_len pre
   have h2:=(ZY l).length_le
   rw [hla] at h2
   simp at h2
   omega
  by_cases hr:fk (l[k]).1 (l.drop (k+1))=[]
  ·rw [if_pos hr] at hla
   have h30:=last30 G l hl k hk true (by simp [hr])
   have hsn:=mk_snoc hla
   have hso:=(mk_lt pre).le
   have hks:∀ j (h:j < (mk pre).length),((mk pre)[j]).1.size<=9223372036854775807:=fun j h=>(hl.sz _ (hsub _ (mk_mem (List.getElem_mem h)))).1
   have hx2:l[k]=((l[k]).1,(l[k]).2):=rfl
   have hc:=lo_len (B:=mk pre) (k:=(l[k]).1)
   have hidx:=fun j (h:j < (mk pre).length)=>idx_lo hso (l[k]).1 h
   have pO:=Yu (mk pre)
   obtain ⟨c,hcc⟩:∃ c,c=(lo (mk pre) (l[k]).1).length:=⟨_,rfl⟩
   rw [<- hcc] at hsn hc hidx
   have hmk:(mk (pre++[l[k]])).map pA=((mk pre).map pA).take c++[.agg [S (l[k]).1,S (l[k]).2]]++((mk pre).map pA).drop c:=by
    rw [<- hsn];simp [pA]
   have hml:(mk (pre++[l[k]])).length=(mk pre).length+1:=by rw [<- hsn];simp;omega
   have hla2:lasts l=(pre++[l[k]])++lasts (l.drop (k+1)):=by rw [hla];simp
   generalize hM:mk pre=m at *
   repeat (first|(with_reducible first|refine zQ ?_|refine zP ?_|refine zZ ?_|refine Zd ?_|refine zw ?_|refine zp ?_)|((with_reducible first|refine ks fun K hK=>?_|refine kd fun K hK=>?_|refine kc fun K hK2 hK hK3=>?_);simp (disch:=omega) only [bg0,bg1,bg2,bg3,bg4,zt,zS,eff,AX.ev,St.put,zO,zK,ap1,zi,simprocAttr,zu,AV.cells,AV.fine,AV.one,zY,zq,live,zo,rdA,zg,wrA,zI,zr,zW,zT,zV,zk,zb,zm,zj,ze,cut,id,ap2,zx,zy,geB,AOp.cls,AOp.xs,ltB,ltC,Option.toList,List.cons_append,decide_eq_true,decide_eq_false,if_pos,if_neg,List.length_map,zH,bVb,bVn,eq_self,Bool.and_self,BEq.rfl,not_true_eq_false,gR0,Z6,Z5,sR0,Z2,Z1,lR0,lR1,gR1,gR2,Z4,sR1,sR2,Z0,Zz,Zy,z7];(with_reducible first|(refine hK _ ?_;clear hK K)|(refine hK ?_;clear hK hK3 K hK2)|(refine hK3 ?_;clear hK hK3 K hK2)))|((with_reducible refine kps 71 ?_ ?_ ?_ ?_);rotate_left 1;rfl;exact h30))
   refine ZT [5,17,18,19,20,21,22,23,24,25,26,27,28,29,30,31,32,33,34,35] (fun j v2 H=>v2 5=I j/\H=J++⟨31,2,m.map pA,g,fz⟩::K) c ⟨rfl,rfl⟩ ?_ ?_
   ·rintro j v2 H hj ⟨h5, rfl⟩
    have hjm:j < m.length:=by omega
    have hlt:=(hidx j hjm).2 hj
    have hjs:=hks j hjm
    simp only [mix,z9,Za,Zb,simprocAttr,if_true,if_false,h5]
    repeat (first|(with_reducible first|refine zQ ?_|refine zP ?_|refine Zk ?_|refine zZ ?_|refine Zd ?_|refine zw ?_|refine Ze ?_|refine zp ?_|refine z5 ?_)|((with_reducible refine YZ ?_ ?_);rfl)|((with_reducible first|refine ks fun K hK=>?_|refine kd fun K hK=>?_|refine kc fun K hK2 hK hK3=>?_);simp (disch:=omega) only [bg0,bg1,bg2,bg3,bg4,zt,zS,eff,AX.ev,St.put,zO,zK,ap1,zi,simprocAttr,zu,AV.cells,AV.fine,AV.one,zY,zq,live,zo,rdA,zg,wrA,zI,zr,zW,zT,zV,zk,zb,zm,zj,ze,cut,id,ap2,zx,zy,geB,AOp.cls,AOp.xs,ltB,ltC,Option.toList,List.cons_append,decide_eq_true,decide_eq_false,if_pos,if_neg,List.length_map,zH,bVb,bVn,eq_self,Bool.and_self,BEq.rfl,not_true_eq_false,gR0,Z6,Z5,sR0,Z2,Z1,lR0,lR1,gR1,gR2,Z4,sR1,sR2,Z0,Zz,Zy,z7,hlt];(with_reducible first|(refine hK _ ?_;clear hK K)|(refine hK ?_;clear hK hK3 K hK2)|(refine hK3 ?_;clear hK hK3 K hK2)))|((first|((with_reducible refine kpd 41 ?_ ?_ ?_ ?_ ?_);rotate_left 1));(focus (simp (disch:=omega) only [bg0,bg1,bg2,bg3,bg4,zt,zS,eff,AX.ev,St.put,zO,zK,ap1,zi,simprocAttr,zu,AV.cells,AV.fine,AV.one,zY,zq,live,zo,rdA,zg,wrA,zI,zr,zW,zT,zV,zk,zb,zm,zj,ze,cut,id,ap2,zx,zy,geB,AOp.cls,AOp.xs,ltB,ltC,Option.toList,List.cons_append,decide_eq_true,decide_eq_false,if_pos,if_neg,List.length_map,zH,bVb,bVn,eq_self,Bool.and_self,BEq.rfl,not_true_eq_false,gR0,Z6,Z5,sR0,Z2,Z1,lR0,lR1,gR1,gR2,Z4,sR1,sR2,Z0,Zz,Zy,z7,hlt];try rfl));(first|(rfl;exact (by refine lessP G _ _ ?_ ?_<;>assumption)))))
    exact ⟨rfl,rfl,rfl⟩
   ·rintro v2 H ⟨h5, rfl⟩
    have s3:(m.map pA).take m.length=m.map pA:=List.take_of_length_le (by simp)
    have lL:((m.map pA).take c).length=c:=by simp;omega
    have lD:((m.map pA).drop c).length=m.length - c:=by simp
    have lT:(((m.map pA).take c).take c)=(m.map pA).take c:=by rw [List.take_take,Nat.min_self]
    have lS:((m.map pA).take c++[AV.agg [S (l[k]).1,S (l[k]).2]]).length=c+1:=by simp;omega
    have lU:((m.map pA).take c++[AV.agg [S (l[k]).1,S (l[k]).2]]).take (c+1)=(m.map pA).take c++[AV.agg [S (l[k]).1,S (l[k]).2]]:=List.take_of_length_le (by rw [lS];omega)
    have hc0:((c:Int)=0)=(c=0):=by simp
    have hcI:(c:Int)<=(m.length:Int):=by omega
    by_cases hz:c=0
    ·subst hz
     simp only [List.take_zero,List.nil_append,List.drop_zero] at hmk
     by_cases hcm:m.length=0
     ·have m0 : m = [] := List.length_eq_zero_iff.1 hcm
      have hm0:m.map pA=[]:=by rw [List.length_eq_zero_iff.1 hcm];rfl
      rw [hm0,List.append_nil] at hmk
      ·simp only [mix,z9,Za,Zb,simprocAttr,if_true,if_false,h5]
       repeat (first|(with_reducible first|refine zQ ?_|refine Zk ?_|refine Zp ?_|refine Ze ?_|refine zp ?_|refine Zc ?_|refine z6 ?_)|((with_reducible first|refine ks fun K hK=>?_|refine kd fun K hK=>?_|refine kc fun K hK2 hK hK3=>?_);simp (disch:=omega) only [bg0,bg1,bg2,bg3,bg4,zt,zS,eff,AX.ev,St.put,zO,zK,ap1,zi,simprocAttr,zu,AV.cells,AV.fine,AV.one,zY,zq,live,zo,rdA,zg,wrA,zI,zr,zW,zT,zV,zk,zb,zm,zj,ze,cut,id,ap2,zx,zy,geB,AOp.cls,AOp.xs,ltB,ltC,Option.toList,List.cons_append,decide_eq_true,decide_eq_false,if_pos,if_neg,List.length_map,zH,bVb,bVn,eq_self,Bool.and_self,BEq.rfl,not_true_eq_false,gR0,Z6,Z5,sR0,Z2,Z1,lR0,lR1,gR1,gR2,Z4,sR1,sR2,Z0,Zz,Zy,z7,hcm,hc0,s3,pO];(with_reducible first|(refine hK _ ?_;clear hK K)|(refine hK ?_;clear hK hK3 K hK2)|(refine hK3 ?_;clear hK hK3 K hK2)))|((first|((with_reducible refine wV ?_ ?_ ?_);rotate_left 1;rfl)|((with_reducible refine wW ?_ ?_ ?_);rotate_left 1;rfl));rotate_left 1;(focus (simp (disch:=omega) only [bg0,bg1,bg2,bg3,bg4,zt,zS,eff,AX.ev,St.put,zO,zK,ap1,zi,simprocAttr,zu,AV.cells,AV.fine,AV.one,zY,zq,live,zo,rdA,zg,wrA,zI,zr,zW,zT,zV,zk,zb,zm,zj,ze,cut,id,ap2,zx,zy,geB,AOp.cls,AOp.xs,ltB,ltC,Option.toList,List.cons_append,decide_eq_true,decide_eq_false,if_pos,if_neg,List.length_map,zH,bVb,bVn,eq_self,Bool.and_self,BEq.rfl,not_true_eq_false,gR0,Z6,Z5,sR0,Z2,Z1,lR0,lR1,gR1,gR2,Z4,sR1,sR2,Z0,Zz,Zy,z7,hcm,hc0,s3,pO];try rfl))))
       refine YN ?_ ?_ ?_
       all_goals
        repeat (first|(with_reducible first|refine zP ?_|refine zw ?_|refine Ze ?_|refine zp ?_|refine z5 ?_)|((with_reducible first|refine ks fun K hK=>?_|refine kd fun K hK=>?_|refine kc fun K hK2 hK hK3=>?_);simp (disch:=omega) only [bg0,bg1,bg2,bg3,bg4,zt,zS,eff,AX.ev,St.put,zO,zK,ap1,zi,simprocAttr,zu,AV.cells,AV.fine,AV.one,zY,zq,live,zo,rdA,zg,wrA,zI,zr,zW,zT,zV,zk,zb,zm,zj,ze,cut,id,ap2,zx,zy,geB,AOp.cls,AOp.xs,ltB,ltC,Option.toList,List.cons_append,decide_eq_true,decide_eq_false,if_pos,if_neg,List.length_map,zH,bVb,bVn,eq_self,Bool.and_self,BEq.rfl,not_true_eq_false,gR0,Z6,Z5,sR0,Z2,Z1,lR0,lR1,gR1,gR2,Z4,sR1,sR2,Z0,Zz,Zy,z7,hcm,hc0,s3,pO];(with_reducible first|(refine hK _ ?_;clear hK K)|(refine hK ?_;clear hK hK3 K hK2)|(refine hK3 ?_;clear hK hK3 K hK2))))
        refine fin15 (l:=l) (pre:=pre++[l[k]]) rfl hla2 rfl ?_
        rw [hmk,hml]
        first|exact ⟨_,_,3,_,by simp [lR0,lR1,m0]<;>omega,List.append_assoc _ _ _⟩|exact ⟨_,_,3,_,by simp [lR0,lR1,m0]<;>omega,rfl⟩
     ·have hlt:¬ cB (m[0]'(by omega)).1 (l[k]).1 < 0:=fun h=>by have:=(hidx 0 (by omega)).1 h;omega
      have hjs:=hks 0 (by omega)
      ·simp only [mix,z9,Za,Zb,simprocAttr,if_true,if_false,h5]
       repeat (first|(with_reducible first|refine zQ ?_|refine Zk ?_|refine Zp ?_|refine Ze ?_|refine zp ?_|refine Zc ?_|refine z6 ?_)|((with_reducible refine YZ ?_ ?_);rfl)|((with_reducible first|refine ks fun K hK=>?_|refine kd fun K hK=>?_|refine kc fun K hK2 hK hK3=>?_);simp (disch:=omega) only [bg0,bg1,bg2,bg3,bg4,zt,zS,eff,AX.ev,St.put,zO,zK,ap1,zi,simprocAttr,zu,AV.cells,AV.fine,AV.one,zY,zq,live,zo,rdA,zg,wrA,zI,zr,zW,zT,zV,zk,zb,zm,zj,ze,cut,id,ap2,zx,zy,geB,AOp.cls,AOp.xs,ltB,ltC,Option.toList,List.cons_append,decide_eq_true,decide_eq_false,if_pos,if_neg,List.length_map,zH,bVb,bVn,eq_self,Bool.and_self,BEq.rfl,not_true_eq_false,gR0,Z6,Z5,sR0,Z2,Z1,lR0,lR1,gR1,gR2,Z4,sR1,sR2,Z0,Zz,Zy,z7,hlt,hc0,s3,pO];(with_reducible first|(refine hK _ ?_;clear hK K)|(refine hK ?_;clear hK hK3 K hK2)|(refine hK3 ?_;clear hK hK3 K hK2)))|((first|((with_reducible refine kpd 41 ?_ ?_ ?_ ?_ ?_);rotate_left 1));(focus (simp (disch:=omega) only [bg0,bg1,bg2,bg3,bg4,zt,zS,eff,AX.ev,St.put,zO,zK,ap1,zi,simprocAttr,zu,AV.cells,AV.fine,AV.one,zY,zq,live,zo,rdA,zg,wrA,zI,zr,zW,zT,zV,zk,zb,zm,zj,ze,cut,id,ap2,zx,zy,geB,AOp.cls,AOp.xs,ltB,ltC,Option.toList,List.cons_append,decide_eq_true,decide_eq_false,if_pos,if_neg,List.length_map,zH,bVb,bVn,eq_self,Bool.and_self,BEq.rfl,not_true_eq_false,gR0,Z6,Z5,sR0,Z2,Z1,lR0,lR1,gR1,gR2,Z4,sR1,sR2,Z0,Zz,Zy,z7,hlt,hc0,s3,pO];try rfl));(first|(rfl;exact (by refine lessP G _ _ ?_ ?_<;>assumption)))))
       refine YN ?_ ?_ ?_
       all_goals
        repeat (first|(with_reducible first|refine zP ?_|refine zw ?_|refine Ze ?_|refine zp ?_|refine z5 ?_)|((with_reducible first|refine ks fun K hK=>?_|refine kd fun K hK=>?_|refine kc fun K hK2 hK hK3=>?_);simp (disch:=omega) only [bg0,bg1,bg2,bg3,bg4,zt,zS,eff,AX.ev,St.put,zO,zK,ap1,zi,simprocAttr,zu,AV.cells,AV.fine,AV.one,zY,zq,live,zo,rdA,zg,wrA,zI,zr,zW,zT,zV,zk,zb,zm,zj,ze,cut,id,ap2,zx,zy,geB,AOp.cls,AOp.xs,ltB,ltC,Option.toList,List.cons_append,decide_eq_true,decide_eq_false,if_pos,if_neg,List.length_map,zH,bVb,bVn,eq_self,Bool.and_self,BEq.rfl,not_true_eq_false,gR0,Z6,Z5,sR0,Z2,Z1,lR0,lR1,gR1,gR2,Z4,sR1,sR2,Z0,Zz,Zy,z7,hc0,s3,pO];(with_reducible first|(refine hK _ ?_;clear hK K)|(refine hK ?_;clear hK hK3 K hK2)|(refine hK3 ?_;clear hK hK3 K hK2))))
        refine fin15 (l:=l) (pre:=pre++[l[k]]) rfl hla2 rfl ?_
        rw [hmk,hml]
        first|exact ⟨_,_,3,_,by simp [lR0,lR1]<;>omega,List.append_assoc _ _ _⟩|exact ⟨_,_,3,_,by simp [lR0,lR1]<;>omega,rfl⟩
    ·by_cases hcm : c = m.length
     ·have hlt : ¬ ((c : Int) < (m.length : Int)) := by omega
      ·simp only [mix,z9,Za,Zb,simprocAttr,if_true,if_false,h5]
       repeat (first|(with_reducible first|refine zQ ?_|refine Zk ?_|refine Zp ?_|refine Ze ?_|refine zp ?_|refine Zc ?_|refine z6 ?_)|((with_reducible first|refine ks fun K hK=>?_|refine kd fun K hK=>?_|refine kc fun K hK2 hK hK3=>?_);simp (disch:=omega) only [bg0,bg1,bg2,bg3,bg4,zt,zS,eff,AX.ev,St.put,zO,zK,ap1,zi,simprocAttr,zu,AV.cells,AV.fine,AV.one,zY,zq,live,zo,rdA,zg,wrA,zI,zr,zW,zT,zV,zk,zb,zm,zj,ze,cut,id,ap2,zx,zy,geB,AOp.cls,AOp.xs,ltB,ltC,Option.toList,List.cons_append,decide_eq_true,decide_eq_false,if_pos,if_neg,List.length_map,zH,bVb,bVn,eq_self,Bool.and_self,BEq.rfl,not_true_eq_false,gR0,Z6,Z5,sR0,Z2,Z1,lR0,lR1,gR1,gR2,Z4,sR1,sR2,Z0,Zz,Zy,z7,hlt,hc0,hz,s3,lL,lD,lT,lS,lU,pO];(with_reducible first|(refine hK _ ?_;clear hK K)|(refine hK ?_;clear hK hK3 K hK2)|(refine hK3 ?_;clear hK hK3 K hK2)))|((first|((with_reducible refine wV ?_ ?_ ?_);rotate_left 1;rfl)|((with_reducible refine wW ?_ ?_ ?_);rotate_left 1;rfl));rotate_left 1;(focus (simp (disch:=omega) only [bg0,bg1,bg2,bg3,bg4,zt,zS,eff,AX.ev,St.put,zO,zK,ap1,zi,simprocAttr,zu,AV.cells,AV.fine,AV.one,zY,zq,live,zo,rdA,zg,wrA,zI,zr,zW,zT,zV,zk,zb,zm,zj,ze,cut,id,ap2,zx,zy,geB,AOp.cls,AOp.xs,ltB,ltC,Option.toList,List.cons_append,decide_eq_true,decide_eq_false,if_pos,if_neg,List.length_map,zH,bVb,bVn,eq_self,Bool.and_self,BEq.rfl,not_true_eq_false,gR0,Z6,Z5,sR0,Z2,Z1,lR0,lR1,gR1,gR2,Z4,sR1,sR2,Z0,Zz,Zy,z7,hlt,hc0,hz,s3,lL,lD,lT,lS,lU,pO];try rfl))))
       refine YN ?_ ?_ ?_
       all_goals
        repeat (first|(with_reducible first|refine zP ?_|refine zw ?_|refine Ze ?_|refine zp ?_|refine z5 ?_)|((with_reducible first|refine ks fun K hK=>?_|refine kd fun K hK=>?_|refine kc fun K hK2 hK hK3=>?_);simp (disch:=omega) only [bg0,bg1,bg2,bg3,bg4,zt,zS,eff,AX.ev,St.put,zO,zK,ap1,zi,simprocAttr,zu,AV.cells,AV.fine,AV.one,zY,zq,live,zo,rdA,zg,wrA,zI,zr,zW,zT,zV,zk,zb,zm,zj,ze,cut,id,ap2,zx,zy,geB,AOp.cls,AOp.xs,ltB,ltC,Option.toList,List.cons_append,decide_eq_true,decide_eq_false,if_pos,if_neg,List.length_map,zH,bVb,bVn,eq_self,Bool.and_self,BEq.rfl,not_true_eq_false,gR0,Z6,Z5,sR0,Z2,Z1,lR0,lR1,gR1,gR2,Z4,sR1,sR2,Z0,Zz,Zy,z7,hc0,hz,s3,lL,lD,lT,lS,lU,pO,ZE,Int.natCast_nonneg,hcI];(with_reducible first|(refine hK _ ?_;clear hK K)|(refine hK ?_;clear hK hK3 K hK2)|(refine hK3 ?_;clear hK hK3 K hK2))))
        refine fin15 (l:=l) (pre:=pre++[l[k]]) rfl hla2 rfl ?_
        rw [hmk,hml]
        first|exact ⟨_,_,3,_,by simp [lR0,lR1]<;>omega,List.append_assoc _ _ _⟩|exact ⟨_,_,3,_,by simp [lR0,lR1]<;>omega,rfl⟩
     ·have hlt:¬ cB (m[c]'(by omega)).1 (l[k]).1 < 0:=fun h=>by have:=(hidx c (by omega)).1 h;omega
      have hjs:=hks c (by omega)
      ·simp only [mix,z9,Za,Zb,simprocAttr,if_true,if_false,h5]
       repeat (first|(with_reducible first|refine zQ ?_|refine Zk ?_|refine Zp ?_|refine Ze ?_|refine zp ?_|refine Zc ?_|refine z6 ?_)|((with_reducible refine YZ ?_ ?_);rfl)|((with_reducible first|refine ks fun K hK=>?_|refine kd fun K hK=>?_|refine kc fun K hK2 hK hK3=>?_);simp (disch:=omega) only [bg0,bg1,bg2,bg3,bg4,zt,zS,eff,AX.ev,St.put,zO,zK,ap1,zi,simprocAttr,zu,AV.cells,AV.fine,AV.one,zY,zq,live,zo,rdA,zg,wrA,zI,zr,zW,zT,zV,zk,zb,zm,zj,ze,cut,id,ap2,zx,zy,geB,AOp.cls,AOp.xs,ltB,ltC,Option.toList,List.cons_append,decide_eq_true,decide_eq_false,if_pos,if_neg,List.length_map,zH,bVb,bVn,eq_self,Bool.and_self,BEq.rfl,not_true_eq_false,gR0,Z6,Z5,sR0,Z2,Z1,lR0,lR1,gR1,gR2,Z4,sR1,sR2,Z0,Zz,Zy,z7,hlt,hc0,hz,s3,lL,lD,lT,lS,lU,pO];(with_reducible first|(refine hK _ ?_;clear hK K)|(refine hK ?_;clear hK hK3 K hK2)|(refine hK3 ?_;clear hK hK3 K hK2)))|((first|((with_reducible refine kpd 41 ?_ ?_ ?_ ?_ ?_);rotate_left 1));(focus (simp (disch:=omega) only [bg0,bg1,bg2,bg3,bg4,zt,zS,eff,AX.ev,St.put,zO,zK,ap1,zi,simprocAttr,zu,AV.cells,AV.fine,AV.one,zY,zq,live,zo,rdA,zg,wrA,zI,zr,zW,zT,zV,zk,zb,zm,zj,ze,cut,id,ap2,zx,zy,geB,AOp.cls,AOp.xs,ltB,ltC,Option.toList,List.cons_append,decide_eq_true,decide_eq_false,if_pos,if_neg,List.length_map,zH,bVb,bVn,eq_self,Bool.and_self,BEq.rfl,not_true_eq_false,gR0,Z6,Z5,sR0,Z2,Z1,lR0,lR1,gR1,gR2,Z4,sR1,sR2,Z0,Zz,Zy,z7,hlt,hc0,hz,s3,lL,lD,lT,lS,lU,pO];try rfl));(first|(rfl;exact (by refine lessP G _ _ ?_ ?_<;>assumption)))))
       refine YN ?_ ?_ ?_
       all_goals
        repeat (first|(with_reducible first|refine zP ?_|refine zw ?_|refine Ze ?_|refine zp ?_|refine z5 ?_)|((with_reducible first|refine ks fun K hK=>?_|refine kd fun K hK=>?_|refine kc fun K hK2 hK hK3=>?_);simp (disch:=omega) only [bg0,bg1,bg2,bg3,bg4,zt,zS,eff,AX.ev,St.put,zO,zK,ap1,zi,simprocAttr,zu,AV.cells,AV.fine,AV.one,zY,zq,live,zo,rdA,zg,wrA,zI,zr,zW,zT,zV,zk,zb,zm,zj,ze,cut,id,ap2,zx,zy,geB,AOp.cls,AOp.xs,ltB,ltC,Option.toList,List.cons_append,decide_eq_true,decide_eq_false,if_pos,if_neg,List.length_map,zH,bVb,bVn,eq_self,Bool.and_self,BEq.rfl,not_true_eq_false,gR0,Z6,Z5,sR0,Z2,Z1,lR0,lR1,gR1,gR2,Z4,sR1,sR2,Z0,Zz,Zy,z7,hc0,hz,s3,lL,lD,lT,lS,lU,pO,ZE,Int.natCast_nonneg,hcI];(with_reducible first|(refine hK _ ?_;clear hK K)|(refine hK ?_;clear hK hK3 K hK2)|(refine hK3 ?_;clear hK hK3 K hK2))))
        refine fin15 (l:=l) (pre:=pre++[l[k]]) rfl hla2 rfl ?_
        rw [hmk,hml]
        first|exact ⟨_,_,3,_,by simp [lR0,lR1]<;>omega,List.append_assoc _ _ _⟩|exact ⟨_,_,3,_,by simp [lR0,lR1]<;>omega,rfl⟩
  ·rw [if_neg hr] at hla
   have h30:=last30 G l hl k hk false (by simp [hr])
   repeat (first|(with_reducible first|refine zQ ?_|refine zP ?_|refine zZ ?_|refine Zd ?_|refine Zp ?_|refine zw ?_|refine zp ?_|refine Zc ?_|refine z6 ?_)|((with_reducible first|refine ks fun K hK=>?_|refine kd fun K hK=>?_|refine kc fun K hK2 hK hK3=>?_);simp (disch:=omega) only [bg0,bg1,bg2,bg3,bg4,zt,zS,eff,AX.ev,St.put,zO,zK,ap1,zi,simprocAttr,zu,AV.cells,AV.fine,AV.one,zY,zq,live,zo,rdA,zg,wrA,zI,zr,zW,zT,zV,zk,zb,zm,zj,ze,cut,id,ap2,zx,zy,geB,AOp.cls,AOp.xs,ltB,ltC,Option.toList,List.cons_append,decide_eq_true,decide_eq_false,if_pos,if_neg,List.length_map,zH,bVb,bVn,eq_self,Bool.and_self,BEq.rfl,not_true_eq_false,gR0,Z6,Z5,sR0,Z2,Z1,lR0,lR1,gR1,gR2,Z4,sR1,sR2,Z0,Zz,Zy,z7];(with_reducible first|(refine hK _ ?_;clear hK K)|(refine hK ?_;clear hK hK3 K hK2)|(refine hK3 ?_;clear hK hK3 K hK2)))|((with_reducible refine kps 71 ?_ ?_ ?_ ?_);rotate_left 1;rfl;exact h30))
   exact ⟨rfl,pre,J,K,g,fz,hla,rfl,rfl,rfl⟩
 ·rintro v H ⟨pre, J, K, g, fz, hla, h4, h3, rfl⟩
  simp only [mix,z9,Za,Zb,simprocAttr,if_true,if_false,h3,h4]
  rw [List.drop_length] at hla
  have:mk pre=mk l:=by
   refine eq_mk (mk_lt pre) fun k=>?_
   rw [X8,<- yU l,hla];simp [lasts]
  rw [this]
  repeat (first|(with_reducible first|refine zQ ?_|refine zP ?_|refine Zp ?_|refine zw ?_|refine zp ?_|refine Zc ?_|refine z6 ?_|refine Zm ?_)|((with_reducible first|refine ks fun K hK=>?_|refine kd fun K hK=>?_|refine kc fun K hK2 hK hK3=>?_);simp (disch:=omega) only [bg0,bg1,bg2,bg3,bg4,zt,zS,eff,AX.ev,St.put,zO,zK,ap1,zi,simprocAttr,zu,AV.cells,AV.fine,AV.one,zY,zq,live,zo,rdA,zg,wrA,zI,zr,zW,zT,zV,zk,zb,zm,zj,ze,cut,id,ap2,zx,zy,geB,AOp.cls,AOp.xs,ltB,ltC,Option.toList,List.cons_append,decide_eq_true,decide_eq_false,if_pos,if_neg,List.length_map,zH,bVb,bVn,eq_self,Bool.and_self,BEq.rfl,not_true_eq_false,gR0,Z6,Z5,sR0,Z2,Z1,lR0,lR1,gR1,gR2,Z4,sR1,sR2,Z0,Zz,Zy,z7];(with_reducible first|(refine hK _ ?_;clear hK K)|(refine hK ?_;clear hK hK3 K hK2)|(refine hK3 ?_;clear hK hK3 K hK2))))
  exact XZ rfl gR0 (by simp) (Yu _)
end Go.Proofs.YtdodckipblafmaaGreatDoor.Sim.Pr7
namespace Go.Proofs.YtdodckipblafmaaGreatDoor.Sim
open Go.RowKit
set_option maxRecDepth 100000
def mw (x:Nd):Nat:=max (rfN x).length 1
def Zv:Nat->Nat->List Nd->List Nd
 | 0,_,_=>[]
 | _,_,[]=>[]
 | n+1,w,x::t=>if 3000 < w * mw (YI x) then [] else YI x::Zv n (w * mw (YI x)) t
theorem fewL_at {n w:Nat} {l:List Nd} {i:Nat} (h:i < l.length):Zv (n+1) w (l.drop i)=if 3000 < w * mw (YI l[i]) then [] else YI l[i]::Zv n (w * mw (YI l[i])) (l.drop (i+1)):=by
 rw [List.drop_eq_getElem_cons h,Zv]
theorem wx:∀ {n w:Nat} {l:List Nd},(∀ x ∈ l,x.Wd)->∀ x ∈ Zv n w l,x.Ok:=by
 intro n
 induction n with
 | zero=>intro w l _ x hx;simp [Zv] at hx
 | succ n ih =>
  intro w l hl x hx
  cases l with
  | nil=>simp [Zv] at hx
  | cons y t =>
   rw [Zv] at hx
   split at hx
   ·cases hx
   ·rcases List.mem_cons.1 hx with h | h
    ·rw [h];exact ww (hl y (List.mem_cons_self ..))
    ·exact ih (fun z hz=>hl z (List.mem_cons_of_mem _ hz)) x h
theorem Y3:∀ {n w:Nat} {l:List Nd},(Zv n w l).length<=n:=by
 intro n
 induction n with
 | zero=>intro w l;simp [Zv]
 | succ n ih =>
  intro w l
  cases l with
  | nil=>simp [Zv]
  | cons y t =>
   rw [Zv];split
   ·simp
   ·have:=@ih (w * mw (YI y)) t;simp only [List.length_cons];omega
theorem fewL_eq:∀ {n w:Nat} {l:List Nd},(∀ x ∈ l,x.Wd)->Zv n w (Zv n w l)=Zv n w l:=by
 intro n
 induction n with
 | zero=>intro w l _;simp [Zv]
 | succ n ih =>
  intro w l hl
  cases l with
  | nil=>simp [Zv]
  | cons y t =>
   have hy:=fewX_eq (ww (hl y (List.mem_cons_self ..)))
   rw [Zv]
   by_cases h:3000 < w * mw (YI y)
   ·simp only [if_pos h,Zv]
   ·simp only [if_neg h]
    rw [Zv,hy,if_neg h,ih (fun z hz=>hl z (List.mem_cons_of_mem _ hz))]
section
variable (G:Nat->AV)
set_option maxHeartbeats 4000000 in
theorem few21 (l:List Nd) (hl:l.length<=9223372036854775807) (hx:∀ x ∈ l,x.Wd):PC Tryz.prog G 8 [.sl 9 (l.map nA)] (.sl 9 ((Zv 12 1 l).map nA)):=by
 refine zA cop8 ?_
 repeat' ((conv=>whnf);first|(refine SeqP.go ?_)|((refine ObD.mk ?_ ?_);exact zD))
 conv=>whnf
 refine LoopP.go (α:=Nat × Nat × List Nd) (fun p=>p.1<=l.length/\p.1<=12/\p.2.1<=3000/\p.2.2.length=p.1/\p.2.2++Zv (12 - p.1) p.2.1 (l.drop p.1)=Zv 12 1 l) (fun p=>l.length - p.1) (fun p=>[(2,some (.nl 9)),(0,some (.ol 0 0 p.2.2.length)),(0,some (I p.2.1)),(0,some (I p.1)),(0,none),(0,none),(0,none),(0,none),(0,none),(0,none),(0,none),(0,none),(0,none),(0,none),(0,none),(0,none),(0,none),(0,none),(0,none),(0,none),(0,none),(0,none),(0,none),(0,none),(0,none),(0,none),(0,none),(0,none),(0,none),(0,none),(0,none),(0,none),(0,none),(0,none)]) (fun p=>[⟨57,9,p.2.2.map nA,0,0⟩]) (0,1,[]) ⟨Nat.zero_le _,Nat.zero_le _,by decide,rfl,rfl⟩ (Fg.go ?_ rfl) ?_
 ·repeat' ((conv=>whnf);first|((refine ObEqs.mk ?_ ?_);rfl)|((with_reducible refine ObEq1.i ?_ ?_);exact zF)|((with_reducible refine ObEq1.mk ?_ ?_);exact zE)|exact True.intro)
 rintro ⟨i,w,o⟩ ⟨hi,hi2,hw,hol,he⟩
 dsimp only at hi hi2 hw hol he ⊢
 have oa:=n_all (l:=o)
 have op:=p_n o
 have r0:=nr_n o
 by_cases hil:i < l.length/\i < 12
 ·obtain ⟨hil, hil2⟩ := hil
  have hq:=wU hil
  have hf:=few9 G l[i] (hx _ (List.getElem_mem hil))
  have hok:=ww (hx _ (List.getElem_mem hil))
  have hat:=fewL_at (n:=11 - i) (w:=w) hil
  rw [show 11 - i+1=12 - i by omega] at hat
  rw [hat] at he
  clear hat
  generalize YI l[i]=y at *
  generalize l[i]=x at *
  have hrf:=Wh G y hok
  have hrl:=xU hok
  have hmx:(if ((rfN y).length:Int) < 1 then (1:Int) else ((rfN y).length:Int))=((mw y:Nat):Int):=by unfold mw;split<;>omega
  have hml:mw y<=41:=by unfold mw;omega
  obtain ⟨W',hW⟩:∃ W':Nat,W'=w * mw y:=⟨_,rfl⟩
  rw [<- hW] at he
  have hWi:(w:Int) * (mw y:Int)=(W':Int):=by rw [hW];simp
  have hWl:W'<=123000:=by rw [hW];exact Nat.mul_le_mul hw hml
  have r1:=nr_n (o++[y])
  have us:(o.map nA).take o.length++[nA y]=(o++[y]).map nA:=n_snoc (l:=o)
  by_cases hz:3000 < W'
  ·rw [if_pos hz, List.append_nil] at he
   rw [<- he]
   repeat' ((conv=>whnf);first|(with_reducible first|refine SeqP.go ?_|refine ObZ.mk _ hmx ?_)|(rw [hWi])|((refine ObD.mk ?_ ?_);exact zD)|((refine ObN.mk ?_ ?_);exact zN)|(refine ObT.tt ?_)|((refine ObB.yes ?_ ?_);exact zB)|((with_reducible refine ObI.mk _ rfl ?_ ?_ ?_);omega;omega)|((refine ObX.mk _ rfl ?_ ?_);exact zX)|((with_reducible refine (?_:ObL _ _));(refine ObL.mk _ zM ?_))|((with_reducible refine (?_:ObU _ _));(refine ObU.mk _ zq2 ?_))|((with_reducible refine (?_:ObR _ _ _));(first|(refine ObR.mk _ zG ?_)|(refine ObR.map zX (fun x hx=>?_))|(refine ObR.mk _ rfl ?_)))|((refine ObC.f 34 ?_);(refine ObC.mk _ (hf) ?_))|((refine ObC.f 35 ?_);(refine ObC.mk _ (hrf) ?_))|((refine ObEq.mk ?_);exact zE)|(with_reducible refine ObE.max ?_))
  ·rw [if_neg hz] at he
   repeat' ((conv=>whnf);first|(with_reducible first|refine SeqP.go ?_|refine ObZ.mk _ hmx ?_)|(rw [hWi])|((refine ObD.mk ?_ ?_);exact zD)|((refine ObN.mk ?_ ?_);exact zN)|(with_reducible first|refine ObT.tt ?_|refine ObT.ff ?_)|((refine ObB.yes ?_ ?_);exact zB)|((refine ObB.no ?_ ?_);exact zC)|((with_reducible refine ObI.nl ?_ ?_);omega)|((with_reducible refine ObI.mk _ rfl ?_ ?_ ?_);omega;omega)|((refine ObX.mk _ rfl ?_ ?_);exact zX)|((with_reducible refine (?_:ObL _ _));(refine ObL.mk _ zM ?_))|((with_reducible refine (?_:ObU _ _));(refine ObU.mk _ zq2 ?_))|((with_reducible refine (?_:ObR _ _ _));(first|(refine ObR.mk _ zG ?_)|(refine ObR.map zX (fun x hx=>?_))|(refine ObR.mk _ rfl ?_)))|((refine ObC.f 34 ?_);(refine ObC.mk _ (hf) ?_))|((refine ObC.f 35 ?_);(refine ObC.mk _ (hrf) ?_))|(with_reducible refine ObE.max ?_))
   conv=>whnf
   refine Again.mk (i+1,W',o++[y]) ⟨by dsimp only;omega,by dsimp only;omega,by dsimp only;omega,by simp [hol],by dsimp only;rw [List.append_assoc,<- he,show 12 - (i+1)=11 - i by omega];rfl⟩ ?_ (Fg.vw [(0,0,1)] ?_ ?_ (by simp) ?_)
   ·dsimp only;omega
   all_goals repeat' ((conv=>whnf);first|((refine ObN.mk ?_ ?_);exact zN)|((with_reducible refine ObRn.mk ?_ ?_);(focus (first|rfl|(simp [rnB,rnC,rnL];done))))|((with_reducible refine ObRow.same ?_ ?_ ?_);exact zE;(focus (first|rfl|assumption|(simp;done))))|((refine ObEqs.mk ?_ ?_);rfl)|exact True.intro)
 ·have h0 : Zv (12 - i) w (l.drop i) = [] := by
   rcases Nat.lt_or_ge i l.length with h|h
   ·rw [show 12 - i=0 by omega,Zv]
   ·rw [List.drop_eq_nil_of_le h];cases 12 - i<;>rfl
  rw [h0,List.append_nil] at he
  rw [<- he]
  have hor:i=l.length\/(i < l.length/\i=12):=by omega
  rcases hor with hor|⟨hor,hor2⟩
  ·repeat' ((conv=>whnf);first|(refine SeqP.go ?_)|((refine ObN.mk ?_ ?_);exact zN)|(refine ObT.ff ?_)|((refine ObB.no ?_ ?_);exact zC)|((with_reducible refine (?_:ObL _ _));(refine ObL.mk _ zM ?_))|((with_reducible refine (?_:ObU _ _));(refine ObU.mk _ zq7 ?_))|((refine ObEq.mk ?_);exact zE))
  ·repeat' ((conv=>whnf);first|(refine SeqP.go ?_)|((refine ObN.mk ?_ ?_);exact zN)|(with_reducible first|refine ObT.tt ?_|refine ObT.ff ?_)|((refine ObB.yes ?_ ?_);exact zB)|((refine ObB.no ?_ ?_);exact zC)|((with_reducible refine (?_:ObL _ _));(refine ObL.mk _ zM ?_))|((with_reducible refine (?_:ObU _ _));(refine ObU.mk _ zq7 ?_))|((refine ObEq.mk ?_);exact zE))
end
abbrev NdS:={x:Nd // x.Wd}
def ndC (x:NdS):List AV:=[I x.1.kn,S x.1.ke,S x.1.va,.v (.int .u32 (x.1.mp:Int)),.sl 1 (x.1.kk.map iA),I x.1.mn,.sl 2 (x.1.ls.map pA),I x.1.sz,I x.1.bi]
theorem nd_inv {cs:List AV} (h:ShC Tryz.prog 57 cs):∃ x:NdS,cs=ndC x:=by
 have i1:(Tryz.prog).underlying 3=some (.int .i64):=by kernel_rfl
 have i2:(Tryz.prog).underlying 27=some (.int .i64):=by kernel_rfl
 have e1:Zn Tryz.prog 27=false:=by kernel_rfl
 have e2:Zn Tryz.prog 31=true:=by kernel_rfl
 have e3:(Tryz.prog).cellsOf 27=1:=by kernel_rfl
 have e4:(Tryz.prog).cellsOf 31=2:=by kernel_rfl
 obtain ⟨p0,q,rfl,hp0,h⟩:=(h.flds (ts:=[3,9,9,55,39,27,37,3,3]) (by kernel_rfl)).cons
 obtain ⟨p1,q,rfl,hp1,h⟩:=h.cons
 obtain ⟨p2,q,rfl,hp2,h⟩:=h.cons
 obtain ⟨p3,q,rfl,hp3,h⟩:=h.cons
 obtain ⟨p4,q,rfl,hp4,h⟩:=h.cons
 obtain ⟨p5,q,rfl,hp5,h⟩:=h.cons
 obtain ⟨p6,q,rfl,hp6,h⟩:=h.cons
 obtain ⟨p7,q,rfl,hp7,h⟩:=h.cons
 obtain ⟨p8,q,rfl,hp8,h⟩:=h.cons
 obtain rfl:=h.nil
 obtain ⟨kn,rfl,_⟩:=hp0.i64_inv i1
 obtain ⟨ke,rfl,hke⟩:=hp1.str_inv xw
 obtain ⟨va,rfl,hva⟩:=hp2.str_inv xw
 obtain ⟨mp0,rfl,hm0,hm1⟩:=hp3.u32_inv (by kernel_rfl)
 obtain ⟨mp,rfl⟩:=Int.eq_ofNat_of_zero_le hm0
 obtain ⟨css,rfl,hk,hkk⟩:=hp4.slice_inv (e:=27) (by kernel_rfl)
 obtain ⟨kk,rfl⟩:=Yx (f:=fun n:i64S=>[I n.1]) (fun cs h=>by obtain ⟨n,e,h1,h2⟩:=h.i64_inv i2;exact ⟨⟨n,h1,h2⟩,e⟩) css hkk
 obtain ⟨mn,rfl,hmn⟩:=hp5.i64_inv i2
 obtain ⟨dss,rfl,hl,hll⟩:=hp6.slice_inv (e:=31) (by kernel_rfl)
 obtain ⟨ls,rfl⟩:=Yx (f:=pC) (fun cs h=>pair_inv h) dss hll
 obtain ⟨sz,rfl,_⟩:=hp7.i64_inv i1
 obtain ⟨bi,rfl,_⟩:=hp8.i64_inv i1
 have g1:(List.map (fun n:i64S=>[I n.1]) kk).map (mkE (Zn Tryz.prog 27))=(kk.map Subtype.val).map iA:=by rw [e1,List.map_map,List.map_map];rfl
 have g2:(List.map pC ls).map (mkE (Zn Tryz.prog 31))=(ls.map Subtype.val).map pA:=by rw [e2,List.map_map,List.map_map];rfl
 refine ⟨⟨⟨kn,ke,va,mp,kk.map Subtype.val,mn,ls.map Subtype.val,sz,bi⟩,⟨by show mp < 4294967296;omega,hke,hva,by simpa using hk,by simpa using hl,fun p hp=>by obtain ⟨q,_,rfl⟩:=List.mem_map.1 hp;exact q.2,hmn,fun r hr=>by obtain ⟨q,_,rfl⟩:=List.mem_map.1 hr;exact q.2⟩⟩,?_⟩
 rw [g1,g2,e3,e4];rfl
theorem heap_inv {cs:List AV} (h:ShC Tryz.prog 22 cs):∃ l:List Nd,mkE false cs = .sl 9 (l.map nA)/\l.length<=9223372036854775807/\∀ x ∈ l,x.Wd:=by
 have e2:Zn Tryz.prog 57=true:=by kernel_rfl
 have e4:(Tryz.prog).cellsOf 57=9:=by kernel_rfl
 obtain ⟨nss,rfl,hn,hnn⟩:=h.slice_inv (e:=57) (by kernel_rfl)
 obtain ⟨l,rfl⟩:=Yx (f:=ndC) (fun cs h=>nd_inv h) nss hnn
 have g2:(List.map ndC l).map (mkE (Zn Tryz.prog 57))=(l.map Subtype.val).map nA:=by rw [e2,List.map_map,List.map_map];rfl
 refine ⟨l.map Subtype.val,by rw [g2,e4];rfl,by simpa using hn,fun x hx=>?_⟩
 obtain ⟨q,_,rfl⟩:=List.mem_map.1 hx
 exact q.2
theorem int_inv {cs:List AV} (h:ShC Tryz.prog 3 cs):∃ n:Int,mkE false cs=I n/\i64 n:=by
 obtain ⟨n,rfl,h1,h2⟩:=h.i64_inv (by kernel_rfl)
 exact ⟨n,rfl,h1,h2⟩
def PW (l:List Nd):Nat:=l.foldr (fun x p=>mw x * p) 1
theorem PW_snoc {l:List Nd} {x:Nd}:PW (l++[x])=PW l * mw x:=by
 induction l with
 | nil=>simp [PW]
 | cons a t ih =>
  have e:∀ l,PW (a::l)=mw a * PW l:=fun l=>rfl
  rw [List.cons_append,e,e,ih,Nat.mul_assoc]
theorem mw_pos {x:Nd}:1<=mw x:=by unfold mw;omega
theorem PW_few:∀ {n w:Nat} {l:List Nd},w<=3000->w * PW (Zv n w l)<=3000:=by
 intro n
 induction n with
 | zero=>intro w l hw;simpa [Zv,PW] using hw
 | succ n ih =>
  intro w l hw
  cases l with
  | nil=>simpa [Zv,PW] using hw
  | cons x t =>
   rw [Zv]
   split
   ·simpa [PW] using hw
   ·rename_i h
    have:=ih (w:=w * mw (YI x)) (l:=t) (by omega)
    show w * (mw (YI x) * PW _)<=3000
    rw [<- Nat.mul_assoc];exact this
theorem C_step {M w c:Nat} {l:List Nat} (hl:l.length<=w) (h:∀ x ∈ l,x<=M):l.sum<=w * M:=by
 have h1:l.sum<=l.length * M:=by
  clear hl
  induction l with
  | nil=>simp
  | cons a t ih =>
   have ha:=h a (List.mem_cons_self ..)
   have:=ih fun x hx=>h x (List.mem_cons_of_mem _ hx)
   simp only [List.sum_cons,List.length_cons,Nat.succ_mul];omega
 exact Nat.le_trans h1 (Nat.mul_le_mul_right _ hl)
theorem C_bd {h:List Nd} (hh:aH h h.length=true):∀ {i:Nat},i<=h.length->∀ r:Int,r<=(i:Int)->C h r<=(4 * i+1) * PW (h.take i):=by
 intro i
 have C0:∀ r:Int,r<=0->C h r=1:=fun r hr=>by
  unfold C;cases h.length with
  | zero=>rfl
  | succ n=>rw [ct,if_pos hr]
 induction i with
 | zero=>intro _ r hr;rw [C0 r (by omega)];simp [PW]
 | succ i ih =>
  intro hi r hr
  have hs:h.take (i+1)=h.take i++[h[i]]:=List.take_succ_eq_append_getElem hi
  have ih:=ih (by omega)
  have hw:=@mw_pos h[i]
  have ho:=yN hh (show i < h.length by omega)
  rw [hs,PW_snoc]
  generalize PW (h.take i)=P at *
  have hP:1<=P:=by
   have:=ih 0 (by omega);rw [C0 0 (by omega)] at this
   rcases Nat.eq_zero_or_pos P with h0|h0
   ·rw [h0] at this;omega
   ·exact h0
  obtain ⟨Q,hQ⟩:∃ Q,Q=P * mw h[i]:=⟨_,rfl⟩
  have hPQ:P<=Q:=by rw [hQ];exact Nat.le_mul_of_pos_right _ hw
  have key:(4 * i+1) * P * mw h[i]=(4 * i+1) * Q:=by rw [hQ,Nat.mul_assoc]
  have e5:(4 * (i+1)+1) * Q=(4 * i+1) * Q+4 * Q:=by rw [show 4 * (i+1)+1=(4 * i+1)+4 by omega,Nat.add_mul]
  rw [<- hQ,e5]
  by_cases hr2:r<=(i:Int)
  ·have h1 := ih r hr2
   have h2:(4 * i+1) * P<=(4 * i+1) * Q:=Nat.mul_le_mul_left _ hPQ
   omega
  obtain rfl:r=(i:Int)+1:=by omega
  rw [C_eq hh (by omega)]
  generalize hM:(4 * i+1) * P=M at *
  have hM1:1<=M:=by have:=ih 0 (by omega);rw [C0 0 (by omega)] at this;exact this
  by_cases h4:h[i].kn=4
  ·rw [if_pos h4]
   obtain ⟨a,b,h1,h2⟩:=xc (yK ho) h4
   obtain ⟨⟨a0,a1⟩,⟨b0,b1⟩,_⟩:=Yg ho h4
   rw [h1] at a0 a1 b0 b1 ⊢
   simp only [List.getD_cons_zero,List.getD_cons_succ] at a0 a1 b0 b1 ⊢
   have ca:=ih a a1
   have cb:=ih b b1
   by_cases ha:a=0
   ·rw [C0 a (by omega)]
    have:M<=(4 * i+1) * Q:=by rw [<- key];exact Nat.le_mul_of_pos_right _ hw
    omega
   by_cases hb:b=0
   ·rw [C0 b (by omega)]
    have:M<=(4 * i+1) * Q:=by rw [<- key];exact Nat.le_mul_of_pos_right _ hw
    omega
   have hw2:2<=mw h[i]:=by
    unfold mw;rw [h2];simp [List.filter_cons,ha,hb]
   have:M * 2<=(4 * i+1) * Q:=by rw [<- key];exact Nat.mul_le_mul_left _ hw2
   omega
  ·rw [if_neg h4]
   have:((rfN h[i]).map (C h)).sum<=mw h[i] * M:=C_step (c:=0) (by rw [List.length_map];unfold mw;omega) fun x hx=>by
    obtain ⟨k,hk,rfl⟩:=List.mem_map.1 hx
    exact ih k (yl ho hk).2
   rw [Nat.mul_comm,key] at this
   omega
theorem C_few {h:List Nd} (hw:∀ x ∈ h,x.Wd) {r:Int} (hh:aH (Zv 12 1 h) (Zv 12 1 h).length=true) (hr:r<=((Zv 12 1 h).length:Int)):C (Zv 12 1 h) r<=1000000:=by
 have h1:=C_bd hh (Nat.le_refl _) r hr
 have h2:=PW_few (n:=12) (w:=1) (l:=h) (by omega)
 rw [Nat.one_mul] at h2
 have h3:(Zv 12 1 h).length<=12:=Y3
 rw [List.take_length] at h1
 have h4:(4 * (Zv 12 1 h).length+1) * PW (Zv 12 1 h)<=49 * 3000:=Nat.mul_le_mul (by omega) h2
 omega
section
variable (G:Nat->AV)
end
theorem bl_sz2 {h:List Nd} (hx:∀ x ∈ h,x.Ok):∀ {n:Nat} {r:Int} {q:Pr},q ∈ bl h n r->q.1.size<=9223372036854775807/\q.2.size<=9223372036854775807:=by
 have ho:∀ x ∈ h,∀ q ∈ ow x,q.1.size<=9223372036854775807/\q.2.size<=9223372036854775807:=fun x hx' q hq=>by
  have X:=hx x hx'
  unfold ow at hq
  split at hq
  ·rw [List.mem_singleton.1 hq];have:=X.ke;have:=X.va;dsimp only;omega
  ·split at hq
   ·have:=X.sz q hq;omega
   ·simp at hq
 intro n
 induction n with
 | zero=>intro r q hq;simp [bl] at hq
 | succ n ih =>
  intro r q hq
  rw [bl] at hq
  split at hq
  ·simp at hq
  ·split at hq
   ·simp at hq
   ·rename_i x hx1
    have ho:=ho x (List.mem_of_getElem? hx1)
    split at hq
    ·simp only [List.mem_append] at hq
     rcases hq with (hq|hq)|hq
     ·exact ih hq
     ·exact ho q hq
     ·exact ih hq
    ·simp only [List.mem_append,List.mem_flatMap] at hq
     rcases hq with hq|⟨r,_,hq⟩
     ·exact ho q hq
     ·exact ih hq
theorem B_bd {h:List Nd} (hh:aH h h.length=true) (hx:∀ x ∈ h,x.Ok):∀ {i:Nat},i<=h.length->∀ r:Int,r<=(i:Int)->(B h r).length<=(i+40) * PW (h.take i)/\1<=PW (h.take i):=by
 intro i
 induction i with
 | zero=>intro _ r hr;rw [B_0 (by omega)];simp [PW]
 | succ i ih =>
  intro hi r hr
  have hs:h.take (i+1)=h.take i++[h[i]]:=List.take_succ_eq_append_getElem hi
  have ih:=ih (by omega)
  have hw:=@mw_pos h[i]
  have ho:=yN hh (show i < h.length by omega)
  have hX:=hx _ (List.getElem_mem (show i < h.length by omega))
  rw [hs,PW_snoc]
  generalize PW (h.take i)=P at *
  have hP:1<=P:=(ih 0 (by omega)).2
  obtain ⟨Q,hQ⟩:∃ Q,Q=P * mw h[i]:=⟨_,rfl⟩
  have hPQ:P<=Q:=by rw [hQ];exact Nat.le_mul_of_pos_right _ hw
  have key:(i+40) * P * mw h[i]=(i+40) * Q:=by rw [hQ,Nat.mul_assoc]
  have e5:(i+1+40) * Q=(i+40) * Q+Q:=by rw [show i+1+40=(i+40)+1 by omega,Nat.add_mul,Nat.one_mul]
  rw [<- hQ,e5]
  refine ⟨?_,by omega⟩
  by_cases hr2:r<=(i:Int)
  ·have h1 := (ih r hr2).1
   have h2:(i+40) * P<=(i+40) * Q:=Nat.mul_le_mul_left _ hPQ
   omega
  obtain rfl:r=(i:Int)+1:=by omega
  have h40:40<=(i+40) * Q:=by
   have:(i+40) * 1<=(i+40) * Q:=Nat.mul_le_mul_left _ (by omega)
   omega
  rw [B_eq hh (by omega)]
  generalize hM:(i+40) * P=M at *
  have how:=xZ hX
  by_cases h4:h[i].kn=4
  ·rw [if_pos h4]
   obtain ⟨a,b,h1,h2⟩:=xc (yK ho) h4
   obtain ⟨⟨a0,a1⟩,⟨b0,b1⟩,_⟩:=Yg ho h4
   rw [h1] at a0 a1 b0 b1 ⊢
   simp only [List.getD_cons_zero,List.getD_cons_succ] at a0 a1 b0 b1 ⊢
   have ca:=(ih a a1).1
   have cb:=(ih b b1).1
   have how1:(ow h[i]).length=1:=by unfold ow;rw [if_pos (by omega)];rfl
   simp only [List.length_append,how1]
   by_cases ha:a=0
   ·have : (B h a).length = 0 := by rw [B_0 (by omega)]; rfl
    have:M<=(i+40) * Q:=by rw [<- key];exact Nat.le_mul_of_pos_right _ hw
    omega
   by_cases hb:b=0
   ·have : (B h b).length = 0 := by rw [B_0 (by omega)]; rfl
    have:M<=(i+40) * Q:=by rw [<- key];exact Nat.le_mul_of_pos_right _ hw
    omega
   have hw2:2<=mw h[i]:=by
    unfold mw;rw [h2];simp [List.filter_cons,ha,hb]
   have:M * 2<=(i+40) * Q:=by rw [<- key];exact Nat.mul_le_mul_left _ hw2
   omega
  ·rw [if_neg h4, List.length_append]
   by_cases hlf:h[i].kn=1\/h[i].kn=6\/h[i].kn=3
   ·rw [(xx ho hlf).1]
    simp only [List.flatMap_nil,List.length_nil]
    omega
   ·have how0 : (ow h[i]).length = 0 := by unfold ow; rw [if_neg (by omega), if_neg (by omega)]; rfl
    have:((rfN h[i]).flatMap (B h)).length<=mw h[i] * M:=by
     rw [List.length_flatMap]
     exact C_step (c:=0) (by rw [List.length_map];unfold mw;omega) fun x hx=>by
      obtain ⟨k,hk,rfl⟩:=List.mem_map.1 hx
      exact (ih k (yl ho hk).2).1
    rw [Nat.mul_comm,key] at this
    omega
theorem B_few {h:List Nd} (hw:∀ x ∈ h,x.Wd) {r:Int} (hh:aH (Zv 12 1 h) (Zv 12 1 h).length=true) (hr:r<=((Zv 12 1 h).length:Int)):(B (Zv 12 1 h) r).length<=1000000:=by
 have h1:=(B_bd hh (wx hw) (Nat.le_refl _) r hr).1
 have h2:=PW_few (n:=12) (w:=1) (l:=h) (by omega)
 rw [Nat.one_mul] at h2
 have h3:(Zv 12 1 h).length<=12:=Y3
 rw [List.take_length] at h1
 have h4:((Zv 12 1 h).length+40) * PW (Zv 12 1 h)<=52 * 3000:=Nat.mul_le_mul (by omega) h2
 omega
theorem lasts_all:∀ {l:List Pr},l.Pairwise (fun p q=>p.1 ≠ q.1)->Pr7.lasts l=l
 | [],_=>rfl
 | p::l,h=>by
  have h2:=List.pairwise_cons.1 h
  rw [Pr7.lasts,if_pos (Pr7.fk_none.2 fun q hq e=>h2.1 q hq e.symm),lasts_all h2.2]
theorem mk_all_len {l:List Pr} (h:l.Pairwise fun p q=>p.1 ≠ q.1):(Pr7.mk l).length=l.length:=by
 have e:(Pr7.mk l).length=(Pr7.lasts l).length:=Pr7.ssort_len
 rw [e,lasts_all h]
noncomputable def LS (h:List Nd) (b:Int) (r:Int):Bool:=okR h r && (decide (r=0) || dl h b h.length r 0)
section
variable {h:List Nd} (hl:h.length<=1000) (hx:∀ x ∈ h,x.Ok)
include hl hx in
set_option maxHeartbeats 4000000 in
theorem plies12 (b:Int) (hb:i64 b) (r:Int) (hC:okR h r=true->C h r<=1000000) (c:Bool) (hc:c=LS h b r):PC Tryz.prog Zr 12 [.sl 9 (h.map nA),I r,I b] (Bo c):=by
 have c42:=count13 Zr h hl hx r _ rfl
 have hq:=fun e=>rL_len (h:=h) (r:=r) (c:=okR h r) e
 unfold LS at hc
 cases hok:okR h r with
 | false =>
  rw [hok] at c42 hc
  obtain rfl:c=false:=hc
  simp only [eo] at c42
  generalize rL h r false=L at *
  refine zA cop12 ?_
  repeat' ((conv=>whnf);first|(refine SeqP.go ?_)|((refine ObN.mk ?_ ?_);exact zN)|(refine ObT.tt ?_)|((refine ObB.no ?_ ?_);exact zC)|((refine ObC.f 42 ?_);(refine ObC.mk _ (c42) ?_))|((refine ObEq.mk ?_);exact zE))
 | true =>
  rw [hok] at c42 hc
  rw [Bool.true_and] at hc
  have hC:=hC hok
  have hB:=Xy hx (r:=r)
  simp only [eo] at c42
  generalize rL h r true=L at *
  unfold okR at hok
  simp only [Bool.and_eq_true,decide_eq_true_eq] at hok
  obtain ⟨⟨k0,k1⟩,hh⟩:=hok
  by_cases hz:r=0
  ·subst hz
   obtain rfl:c=true:=by rw [hc];simp
   refine zA cop12 ?_
   repeat' ((conv=>whnf);first|(refine SeqP.go ?_)|((refine ObD.mk ?_ ?_);exact zD)|((refine ObN.mk ?_ ?_);exact zN)|(with_reducible first|refine ObT.tt ?_|refine ObT.ff ?_)|((refine ObB.yes ?_ ?_);exact zB)|((refine ObC.f 42 ?_);(refine ObC.mk _ (c42) ?_))|((refine ObEq.mk ?_);exact zE))
  ·rw [decide_eq_false hz, Bool.false_or] at hc
   have s:=li_sp hh hx (b:=b) (n:=h.length) (r:=r) (p:=[]) (c:=0) (by omega) (by omega) k1
   have hcl:c=(li h b h.length r [] 0).1:=by
    rw [hc,Bool.eq_iff_iff,s.iff]
    simp [okc_nil]
   have c43:=lies43n hl hh hx b hb h.length r 0 c _ (by omega) (by omega) k1 (by omega) hcl rfl
   generalize (li h b h.length r [] 0).2=m at *
   refine zA cop12 ?_
   repeat' ((conv=>whnf);first|(refine SeqP.go ?_)|((refine ObD.mk ?_ ?_);exact zD)|((refine ObN.mk ?_ ?_);exact zN)|(refine ObT.ff ?_)|((refine ObB.yes ?_ ?_);exact zB)|((refine ObB.no ?_ ?_);exact zC)|((refine ObC.f 42 ?_);(refine ObC.mk _ (c42) ?_))|((refine ObH.f 43 ?_);refine ObH.frn _ ZA [(0,0,0)] (c43) (by simp) rfl (by simp) ?_)|((refine ObEq.mk ?_);exact zE)|((with_reducible refine ObRow.same ?_ ?_ ?_);exact zE;(focus (first|rfl|assumption|(simp;done))))|((with_reducible refine ObAs.mk ?_ ?_);(focus (first|rfl|(simp [rnB,rnC,rnL];done))))|((with_reducible refine (?_:ObRs _ _ _));(refine ObRs.mk _ rfl ?_))|((with_reducible refine ObBk.same ?_ ?_);(focus (first|rfl|assumption|(simp;done)))))
include hl hx in
set_option maxHeartbeats 4000000 in
theorem dlies13 (G:Nat->AV) (b:Int) (hb:i64 b) (r:Int) (hC:okR h r=true->C h r<=1000000) (hBl:okR h r=true->(B h r).length<=1000000) (c:Bool) (hc:c=LS h b r):PC Tryz.prog G 13 [.sl 9 (h.map nA),I r,I b] (Bo c):=by
 have c44:=fits9 G h hl hx r _ rfl
 unfold LS at hc
 cases hok:okR h r with
 | false =>
  rw [hok] at c44 hc
  obtain rfl:c=false:=hc
  refine zA cop13 ?_
  repeat' ((conv=>whnf);first|(with_reducible first|refine SeqP.go ?_|refine ObT.tt ?_|refine ObT.ff ?_)|((refine ObC.f 44 ?_);(refine ObC.mk _ (c44) ?_))|((refine ObEq.mk ?_);exact zE))
 | true =>
  rw [hok] at c44 hc
  rw [Bool.true_and] at hc
  have hC:=hC hok
  have hB:=hBl hok
  unfold okR at hok
  simp only [Bool.and_eq_true,decide_eq_true_eq] at hok
  obtain ⟨⟨k0,k1⟩,hh⟩:=hok
  have c18:=dbinds G h hl hx hh h.length r k0 (by omega) k1 hC
  have c46:=dlies46 hl hh hx G b hb h.length r 0 c (by omega) k0 (by omega) k1 hC hc
  have hsz:∀ q ∈ B h r,q.1.size<=9223372036854775807/\q.2.size<=9223372036854775807:=fun q hq=>bl_sz2 hx hq
  have c45:=Pr7.rmake15 G (B h r) ⟨by omega,hsz⟩
  have hml:=Pr7.mk_len (B h r)
  have hd:c=true->(Pr7.mk (B h r)).length=(B h r).length:=fun e=>by
   by_cases hz:r=0
   ·rw [hz,B_0 (Int.le_refl 0)];rfl
   ·rw [e, decide_eq_false hz, Bool.false_or] at hc
    exact mk_all_len (dl_ne hh hx (by omega) (by omega) k1 hc.symm)
  generalize Pr7.mk (B h r)=M at *
  generalize B h r=L at *
  by_cases hML:M.length=L.length
  ·have hML' : ((M.length : Nat) : Int) = (L.length : Int) := by omega
   refine zA cop13 ?_
   repeat' ((conv=>whnf);first|(refine SeqP.go ?_)|((refine ObN.mk ?_ ?_);exact zN)|(with_reducible first|refine ObT.tt ?_|refine ObT.ff ?_)|((refine ObB.yes ?_ ?_);exact zB)|((with_reducible refine (?_:ObL _ _));(refine ObL.mk _ zM ?_))|((refine ObC.f 44 ?_);(refine ObC.mk _ (c44) ?_))|((refine ObC.f 18 ?_);(refine ObC.mk _ (c18) ?_))|((refine ObC.f 45 ?_);(refine ObC.mk _ (c45) ?_))|((refine ObC.f 46 ?_);(refine ObC.mk _ (c46) ?_))|((refine ObEq.mk ?_);exact zE))
  ·have hML' : ¬ ((M.length : Nat) : Int) = (L.length : Int) := by omega
   obtain rfl:c=false:=by cases c with|false=>rfl|true=>exact absurd (hd rfl) hML
   refine zA cop13 ?_
   repeat' ((conv=>whnf);first|(refine SeqP.go ?_)|((refine ObN.mk ?_ ?_);exact zN)|(with_reducible first|refine ObT.tt ?_|refine ObT.ff ?_)|((refine ObB.no ?_ ?_);exact zC)|((with_reducible refine (?_:ObL _ _));(refine ObL.mk _ zM ?_))|((refine ObC.f 44 ?_);(refine ObC.mk _ (c44) ?_))|((refine ObC.f 18 ?_);(refine ObC.mk _ (c18) ?_))|((refine ObC.f 45 ?_);(refine ObC.mk _ (c45) ?_))|((refine ObEq.mk ?_);exact zE))
end
def e1N:Nd:=⟨1,⟨#[97]⟩,⟨#[49]⟩,0,[],0,[],1,0⟩
theorem e1_may:xj e1N=0:=by
 have h1:yt e1N.kn e1N.ke e1N.va e1N.mp e1N.kk e1N.mn e1N.ls e1N.sz e1N.bi:=⟨by decide,.inl ⟨.inl rfl,rfl,by unfold ZX;simp [e1N]⟩⟩
 unfold xj
 rw [@decide_eq_true _ (Classical.propDecidable _) h1]
 rfl
theorem e1H:aH [e1N] [e1N].length=true:=by
 have h1:okH 0 e1N=true:=by rw [okH,e1_may];rfl
 simp [aH,List.range_succ,h1]
theorem e1R:okR [e1N] 1=true:=by rw [okR,e1H];rfl
theorem e1Ok:∀ x ∈ [e1N],x.Ok:=by
 intro x hx
 rw [List.mem_singleton.1 hx]
 exact ⟨by decide,by decide,by decide,by decide,by decide,fun p hp=>(by cases hp),⟨by decide,by decide⟩,fun r hr=>(by cases hr)⟩
theorem e1L:LS [e1N] 64 1=true:=by
 unfold LS
 rw [e1R]
 have:dl [e1N] 64 [e1N].length 1 0=true:=by
  show dl [e1N] 64 (0+1) ((0:Nat)+1:Int) 0=true
  rw [dl_at (x:=e1N) rfl]
  rfl
 rw [this];rfl
abbrev mO (st:AV) (t:Int):OB:=⟨94,2,[.agg [st,I t]],0,0⟩
abbrev rO (l:List Int) (g:Nat):OB:=⟨27,1,l.map iA,g,0⟩
theorem want_m:Mth Tryz.prog 48 "Want" 25:=fun x args w=>by kernel_rfl
theorem feed_m:Mth Tryz.prog 48 "Feed" 26:=fun x args w=>by kernel_rfl
theorem want_c:Mth Tryz.prog 50 "Want" 27:=fun x args w=>by kernel_rfl
theorem feed_c:Mth Tryz.prog 50 "Feed" 28:=fun x args w=>by kernel_rfl
theorem nah_m:Wm Tryz.prog 48 "Feed" = true:=by kernel_rfl
theorem nah_c:Wm Tryz.prog 50 "Feed" = true:=by kernel_rfl
abbrev e1A:AV:=nV 1 ⟨#[97]⟩ ⟨#[49]⟩ 0 [] 0 [] 1 0
theorem e12:PC Tryz.prog Zr 12 [.sl 9 [e1A],I 1,I 64] (Bo true):=plies12 (h:=[e1N]) (by decide) e1Ok 64 (by unfold i64;omega) 1 (fun _=>by decide) true e1L.symm
theorem e57 (G:Nat->AV):PC Tryz.prog G 57 [e1A] (.sl 2 ([((⟨#[97]⟩:ByteArray),(⟨#[49]⟩:ByteArray))].map pA)):=bnd23 G e1N (e1Ok _ (by simp))
theorem leaf30 (G:Nat->AV):PC Tryz.prog G 30 [S ⟨#[97]⟩,S ⟨#[49]⟩] e1A:=by
 refine zA cop30 ?_
 repeat' ((conv=>whnf);first|(refine SeqP.go ?_)|((refine ObD.mk ?_ ?_);exact zD)|((refine ObN.mk ?_ ?_);exact zN)|((with_reducible refine (?_:ObU _ _));(refine ObU.mk _ zU ?_))|((with_reducible refine (?_:ObR _ _ _));(first|(refine ObR.mk _ zG ?_)|(refine ObR.map zX (fun x hx=>?_))|(refine ObR.mk _ rfl ?_)))|((refine ObEq.mk ?_);exact zE))
theorem e26 (G:Nat->AV) (af:Bool) (key:ByteArray) (hk:key.size<=100000) (b:Int) (hb:i64 b) (f:Pr) (q:Bool) (r:Option Pr) (hr:r=chs af key b [(⟨#[97]⟩,⟨#[49]⟩)]):HC Tryz.prog G 26 [.oa 0 0 0 0,e1A] [sP 1 0 af (.nl 3) key b f q] (.tup []) [sP 0 0 false (.nl 3) key b (r.getD f) (r.isSome || q)] :=
 fe1n G 1 0 (by decide) af key hk b hb f q ⟨#[97]⟩ ⟨#[49]⟩ 0 [] 0 [] 1 0 1 (.inl rfl) [(⟨#[97]⟩,⟨#[49]⟩)] (by decide) (fun p hp=>by rw [List.mem_singleton.1 hp];decide) (e57 G) r hr
set_option maxHeartbeats 4000000 in
theorem e48 (af:Bool) (key:ByteArray) (hk:key.size<=100000) (b:Int) (hb:i64 b) (f:Pr) (q:Bool) (r:Option Pr) (hr:r=chs af key b [(⟨#[97]⟩,⟨#[49]⟩)]):HC Tryz.prog Zr 48 [.sl 9 [e1A],I 1,I 64,.io 48 0 0 0 0] [sP 1 0 af (.nl 3) key b f q] (I 1) [sP 0 0 false (.nl 3) key b (r.getD f) (r.isSome || q)]:=by
 have c25:∀ w f q af,HC Tryz.prog Zr 25 [.oa 0 0 0 0] [sP w 0 af (.nl 3) key b f q] (I w) [sP w 0 af (.nl 3) key b f q]:=fun w f q af=>want25 Zr (w,0,af) (.nl 3) key b f q []
 have c26:=e26 Zr af key hk b hb f q r hr
 have a1:=c25 1 f q af
 have a2:=c25 0 (r.getD f) (r.isSome || q) false
 have c12:=e12
 generalize r.getD f=f' at *
 generalize (r.isSome || q)=q' at *
 refine Zq cop48 rfl ?_
 repeat' ((conv=>whnf);first|(refine SeqP.go ?_)|((refine ObN.mk ?_ ?_);exact zN)|(with_reducible first|refine ObT.tt ?_|refine ObT.ff ?_)|((refine ObC.f 12 ?_);(refine ObC.mk _ (c12) ?_))|((refine ObH.f 25 ?_);refine ObH.frn _ ZA [(0,0,0)] (a1) (by simp) rfl (by simp) ?_)|((with_reducible refine ObRow.same ?_ ?_ ?_);exact zE;(focus (first|rfl|assumption|(simp;done))))|((with_reducible refine ObAs.mk ?_ ?_);(focus (first|rfl|(simp [rnB,rnC,rnL];done))))|((with_reducible refine (?_:ObRs _ _ _));(refine ObRs.mk _ rfl ?_))|((with_reducible refine ObBk.same ?_ ?_);(focus (first|rfl|assumption|(simp;done))))|((with_reducible refine (?_:ObV _ _ _ _));(refine ObV.mk _ (want_m) ?_)))
 conv=>whnf
 refine LoopP.go (α:=Bool) (fun _=>True) (fun d=>if d=true then 0 else 1) (fun d=>[(9,some (I (if d=true then 1 else 0))),(0,some (I (if d=true then 0 else 1))),(7,none),(0,none),(0,none),(0,none),(0,none),(0,none),(0,none),(0,none),(0,none),(0,none),(0,none),(0,none),(0,none),(0,none),(0,none),(0,none)]) (fun d=>[if d=true then sP 0 0 false (.nl 3) key b f' q' else sP 1 0 af (.nl 3) key b f q]) false trivial (Fg.go ?_ rfl) ?_
 ·repeat' ((conv=>whnf);first|((refine ObEqs.mk ?_ ?_);rfl)|((with_reducible refine ObEq1.mk ?_ ?_);exact zE)|exact True.intro)
 intro d _
 cases d
 ·simp only [Bool.false_eq_true,if_false]
  have hq:[e1A][((1:Int) - 1).toNat]? = some e1A:=rfl
  repeat' ((conv=>whnf);first|(refine SeqP.go ?_)|((refine ObD.mk ?_ ?_);(focus (first|rfl|(simp;done)|(simp [zy,geB,AOp.cls,AOp.xs,ltB,ltC,AX.ev,zh];done))))|((refine ObN.mk ?_ ?_);(focus (first|exact nah_m|rfl|assumption|omega|(simp only [List.length_map,List.length_append,List.length_cons,List.length_nil];omega)|(simp;done)|(simp;omega))))|(refine ObT.tt ?_)|((refine ObB.no ?_ ?_);exact zC)|((with_reducible refine ObI.mk _ rfl ?_ ?_ ?_);omega;omega)|((refine ObX.mk _ rfl ?_ ?_);exact zX)|((with_reducible refine (?_:ObR _ _ _));(first|(refine ObR.mk _ zG ?_)|(refine ObR.map zX (fun x hx=>?_))|(refine ObR.mk _ rfl ?_)))|((refine ObH.f 25 ?_);refine ObH.frn _ ZA [(0,0,0)] (a2) (by simp) rfl (by simp) ?_)|((refine ObH.f 26 ?_);refine ObH.frn _ ZA [(0,0,0)] (c26) (by simp) rfl (by simp) ?_)|((with_reducible refine ObRow.same ?_ ?_ ?_);exact zE;(focus (first|rfl|assumption|(simp;done))))|((with_reducible refine ObAs.mk ?_ ?_);(focus (first|rfl|(simp [rnB,rnC,rnL];done))))|((with_reducible refine (?_:ObRs _ _ _));(refine ObRs.mk _ rfl ?_))|((with_reducible refine ObBk.same ?_ ?_);(focus (first|rfl|assumption|(simp;done))))|((with_reducible refine (?_:ObV _ _ _ _));(refine ObV.mk _ (want_m) ?_))|((with_reducible refine (?_:ObV _ _ _ _));(refine ObV.mk _ (feed_m) ?_)))
  all_goals conv=>whnf
  all_goals refine Again.mk true trivial (by decide) (Fg.go ?_ rfl)
  all_goals repeat' ((conv=>whnf);first|((refine ObEqs.mk ?_ ?_);rfl)|((with_reducible refine ObEq1.mk ?_ ?_);exact zE)|exact True.intro)
 ·simp only [if_true]
  repeat' ((conv=>whnf);first|(refine SeqP.go ?_)|((refine ObN.mk ?_ ?_);exact zN)|(refine ObT.ff ?_)|((refine ObB.yes ?_ ?_);exact zB)|(exact ObEnd.eq rfl rfl))
set_option maxHeartbeats 4000000 in
theorem e47 (af:Bool) (key:ByteArray) (hk:key.size<=100000) (b:Int) (hb:i64 b) (f:Pr) (r:Option Pr) (hr:r=chs af key b [(⟨#[97]⟩,⟨#[49]⟩)]):HC Tryz.prog Zr 47 [.sl 9 [e1A],I 1,I 64,.oa 0 0 0 0] [sP 1 0 af (.nl 3) key b f false] (.tup [.agg [S (r.getD f).1,S (r.getD f).2],Bo r.isSome,I 1]) [sP 0 0 false (.nl 3) key b (r.getD f) r.isSome]:=by
 have c48:=e48 af key hk b hb f false r hr
 rw [Bool.or_false] at c48
 have c29:∀ f q,HC Tryz.prog Zr 29 [.oa 0 0 0 0] [sP 0 0 false (.nl 3) key b f q] (.tup [.agg [S f.1,S f.2],Bo q]) [sP 0 0 false (.nl 3) key b f q]:=fun f q=>ans29 Zr (0,0,false) key b f q
 have a29:=c29 (r.getD f) r.isSome
 generalize r.getD f=f' at *
 generalize r.isSome=q' at *
 clear hr c29
 refine Zq cop47 rfl ?_
 repeat' ((conv=>whnf);first|(refine SeqP.go ?_)|((refine ObD.mk ?_ ?_);(focus (first|rfl|(simp;done)|(simp [zy,geB,AOp.cls,AOp.xs,ltB,ltC,AX.ev,zh];done))))|((refine ObN.mk ?_ ?_);exact zN)|((with_reducible refine (?_:ObU _ _));(refine ObU.mk _ zU ?_))|((with_reducible refine (?_:ObR _ _ _));(first|(refine ObR.mk _ zG ?_)|(refine ObR.map zX (fun x hx=>?_))|(refine ObR.mk _ rfl ?_)))|((refine ObH.f 48 ?_);refine ObH.frn _ ZA [(0,0,0)] (c48) (by simp) rfl (by simp) ?_)|((refine ObH.f 29 ?_);refine ObH.frn _ ZA [(0,0,0)] (a29) (by simp) rfl (by simp) ?_)|((with_reducible refine ObRow.same ?_ ?_ ?_);exact zE;(focus (first|rfl|assumption|(simp;done))))|((with_reducible refine ObAs.mk ?_ ?_);(focus (first|rfl|(simp [rnB,rnC,rnL];done))))|((with_reducible refine (?_:ObRs _ _ _));(refine ObRs.mk _ rfl ?_))|((with_reducible refine ObBk.same ?_ ?_);(focus (first|rfl|assumption|(simp;done)))))
 all_goals skip
 all_goals conv=>whnf
 all_goals refine ObEnd.vw [(0,0,0)] rfl ?_ (by simp) ?_
 all_goals repeat' ((conv=>whnf);first|((refine ObN.mk ?_ ?_);exact zN)|((with_reducible refine ObO.l ?_);(refine ObN.mk ?_ ?_);(exact ZD))|((with_reducible refine ObRow.same ?_ ?_ ?_);exact zE;(focus (first|rfl|assumption|(simp;done))))|exact True.intro)
theorem bk_self (b:Int) (k:ByteArray):bk b k k=false:=by
 unfold bk
 have h:=(Hash.bef_total (Hash.cl b) (hN k b) (hN k b) (Nat.mod_lt _ (Nat.two_pow_pos _)) (Nat.mod_lt _ (Nat.two_pow_pos _))).2
 rw [Bool.and_self] at h
 rw [h,Pr7.cB_self];simp
theorem e15:PC Tryz.prog Zr 15 [.sl 9 [e1A],I 1,S ⟨#[97]⟩,I 64] (.tup [.agg [S ⟨#[]⟩,S ⟨#[]⟩],Bo false,I 1]):=by
 have h64:i64 64:=by unfold i64;omega
 have c22:HC Tryz.prog Zr 22 [I 1,S ⟨#[97]⟩,I 64] [] (.oa 0 0 0 0) [sP 1 0 false (.nl 3) ⟨#[97]⟩ 64 (⟨#[]⟩,⟨#[]⟩) false]:=new22 Zr 1 ⟨#[97]⟩ 64 []
 have c47:=e47 false ⟨#[97]⟩ (by decide) 64 h64 (⟨#[]⟩,⟨#[]⟩) none (by unfold chs;rw [List.find?_cons,bk_self];rfl)
 dsimp only [Option.getD_none,Option.isSome_none] at c47
 refine zA cop15 ?_
 repeat' ((conv=>whnf);first|(refine SeqP.go ?_)|((refine ObD.mk ?_ ?_);exact zD)|((refine ObN.mk ?_ ?_);exact zN)|((with_reducible refine (?_:ObU _ _));(refine ObU.mk _ zU ?_))|((with_reducible refine (?_:ObR _ _ _));(first|(refine ObR.mk _ zG ?_)|(refine ObR.map zX (fun x hx=>?_))|(refine ObR.mk _ rfl ?_)))|((refine ObH.f 22 ?_);refine ObH.frn _ ZA [] (c22) (by simp) rfl (by simp) ?_)|((refine ObH.f 47 ?_);refine ObH.frn _ ZA [(0,1,0)] (c47) (by simp) rfl (by simp) ?_)|((refine ObEq.mk ?_);exact zE)|((with_reducible refine ObRow.same ?_ ?_ ?_);exact zE;(focus (first|rfl|assumption|(simp;done))))|((with_reducible refine ObAs.mk ?_ ?_);(focus (first|rfl|(simp [rnB,rnC,rnL];done))))|((with_reducible refine (?_:ObRs _ _ _));(refine ObRs.mk _ rfl ?_))|((with_reducible refine ObBk.same ?_ ?_);(focus (first|rfl|assumption|(simp;done)))))
theorem e16:PC Tryz.prog Zr 16 [.sl 9 [e1A],I 1,I 64] (.tup [.agg [S ⟨#[97]⟩,S ⟨#[49]⟩],Bo true,I 1]):=by
 have c24:HC Tryz.prog Zr 24 [I 1] [] (.oa 0 0 0 0) [sP 1 0 true (.nl 3) ⟨#[]⟩ 0 (⟨#[]⟩,⟨#[]⟩) false]:=fst24 Zr 1
 have c47:=e47 true ⟨#[]⟩ (by decide) 0 (by unfold i64;omega) (⟨#[]⟩,⟨#[]⟩) (some (⟨#[97]⟩,⟨#[49]⟩)) rfl
 dsimp only [Option.getD_some,Option.isSome_some] at c47
 refine zA cop16 ?_
 repeat' ((conv=>whnf);first|(refine SeqP.go ?_)|((refine ObD.mk ?_ ?_);exact zD)|((refine ObN.mk ?_ ?_);exact zN)|((with_reducible refine (?_:ObU _ _));(refine ObU.mk _ zU ?_))|((with_reducible refine (?_:ObR _ _ _));(first|(refine ObR.mk _ zG ?_)|(refine ObR.map zX (fun x hx=>?_))|(refine ObR.mk _ rfl ?_)))|((refine ObH.f 24 ?_);refine ObH.frn _ ZA [] (c24) (by simp) rfl (by simp) ?_)|((refine ObH.f 47 ?_);refine ObH.frn _ ZA [(0,1,0)] (c47) (by simp) rfl (by simp) ?_)|((refine ObEq.mk ?_);exact zE)|((with_reducible refine ObRow.same ?_ ?_ ?_);exact zE;(focus (first|rfl|assumption|(simp;done))))|((with_reducible refine ObAs.mk ?_ ?_);(focus (first|rfl|(simp [rnB,rnC,rnL];done))))|((with_reducible refine (?_:ObRs _ _ _));(refine ObRs.mk _ rfl ?_))|((with_reducible refine ObBk.same ?_ ?_);(focus (first|rfl|assumption|(simp;done)))))
section
variable (G:Nat->AV)
abbrev r1 (g:Nat):OB:=⟨27,1,[I 1],g,0⟩
theorem e54:HC Tryz.prog G 54 [.oa 0 0 0 0,.ol 1 0 1] [mO (.nl 1) 0,r1 0] (.tup []) [mO (.ol 2 0 1) 0,r1 0,r1 0]:=by
 refine Zq cop54 rfl ?_
 repeat' ((conv=>whnf);first|(refine SeqP.go ?_))
 conv=>whnf
 refine LoopP.go (α:=Bool) (fun _=>True) (fun d=>if d=true then 0 else 1) (fun d=>[(5,none),(2,some (I (if d=true then 1 else 0))),(0,none),(0,none),(0,none),(0,none),(0,none),(0,none),(0,none),(0,none),(0,none),(0,none),(0,none),(0,none),(0,none),(0,none),(0,none),(0,none)]) (fun d=>if d=true then [mO (.ol 2 0 1) 0,r1 0,r1 0] else [mO (.nl 1) 0,r1 0]) false trivial (Fg.go ?_ rfl) ?_
 ·repeat' ((conv=>whnf);first|((refine ObEqs.mk ?_ ?_);rfl)|((with_reducible refine ObEq1.mk ?_ ?_);exact zE)|exact True.intro)
 intro d _
 cases d
 ·simp only [Bool.false_eq_true,if_false]
  repeat' ((conv=>whnf);first|(refine SeqP.go ?_)|((refine ObD.mk ?_ ?_);(focus (first|rfl|(simp;done)|(simp [zy,geB,AOp.cls,AOp.xs,ltB,ltC,AX.ev,zh];done))))|((refine ObN.mk ?_ ?_);exact zN)|(refine ObT.tt ?_)|((refine ObB.yes ?_ ?_);exact zB)|((refine ObB.no ?_ ?_);exact zC)|((with_reducible refine ObI.mk _ rfl ?_ ?_ ?_);omega;omega)|((refine ObX.mk _ rfl ?_ ?_);exact zX)|((with_reducible refine (?_:ObL _ _));(refine ObL.mk _ zL ?_))|((with_reducible refine (?_:ObU _ _));(refine ObU.mk _ zU ?_))|((with_reducible refine (?_:ObR _ _ _));(first|(refine ObR.mk _ zG ?_)|(refine ObR.map zX (fun x hx=>?_))|(refine ObR.mk _ rfl ?_)))|((with_reducible refine ObW.cons ?_ ?_);(focus (first|assumption|(simp;done)))))
  all_goals conv=>whnf
  all_goals refine Again.mk true trivial (by decide) (Fg.vw [(0,0,0),(0,1,0),(0,3,0)] ?_ ?_ (by simp) ?_)
  all_goals repeat' ((conv=>whnf);first|((refine ObN.mk ?_ ?_);exact zN)|((with_reducible refine ObO.l ?_);(refine ObN.mk ?_ ?_);(exact ZD))|((with_reducible refine ObRn.mk ?_ ?_);(focus (first|rfl|(simp [rnB,rnC,rnL];done))))|((with_reducible refine ObRow.same ?_ ?_ ?_);exact zE;(focus (first|rfl|assumption|(simp;done))))|((with_reducible refine ObRow.lit ?_ ?_);(focus (first|rfl|(simp [rnB,rnC,rnL];done))))|((refine ObEqs.mk ?_ ?_);rfl)|exact True.intro)
 ·simp only [if_true]
  repeat' ((conv=>whnf);first|(refine SeqP.go ?_)|((refine ObN.mk ?_ ?_);exact zN)|(refine ObT.ff ?_)|((refine ObB.no ?_ ?_);exact zC)|(exact ObEnd.eq rfl rfl))
theorem e23:HC Tryz.prog G 23 [I 1] [] (.oa 0 0 0 0) [mO (.ol 1 0 1) 0,r1 0]:=by
 have c54:=e54 G
 refine Zq cop23 rfl ?_
 repeat' ((conv=>whnf);first|(refine SeqP.go ?_)|((refine ObD.mk ?_ ?_);(focus (first|rfl|(simp;done)|(simp [zy,geB,AOp.cls,AOp.xs,ltB,ltC,AX.ev,zh];done))))|((refine ObN.mk ?_ ?_);exact zN)|((refine ObH.f 54 ?_);refine ObH.frn _ ZA [(0,0,0),(0,1,0)] (c54) (by simp) rfl (by simp) ?_)|((with_reducible refine ObRow.same ?_ ?_ ?_);exact zE;(focus (first|rfl|assumption|(simp;done))))|((with_reducible refine ObAs.mk ?_ ?_);(focus (first|rfl|(simp [rnB,rnC,rnL];done))))|((with_reducible refine (?_:ObRs _ _ _));(refine ObRs.mk _ rfl ?_))|((with_reducible refine ObBk.same ?_ ?_);(focus (first|rfl|assumption|(simp;done))))|((with_reducible refine (?_:ObBk _ _ _));(refine ObBk.lit [.agg _] rfl ?_)))
 all_goals skip
 all_goals conv=>whnf
 all_goals refine ObEnd.vw [(0,0,0),(0,2,0)] rfl ?_ (by simp) ?_
 all_goals repeat' ((conv=>whnf);first|((refine ObN.mk ?_ ?_);exact zN)|((with_reducible refine ObRow.same ?_ ?_ ?_);exact zE;(focus (first|rfl|assumption|(simp;done))))|((with_reducible refine ObRow.lit ?_ ?_);(focus (first|rfl|(simp [rnB,rnC,rnL];done))))|exact True.intro)
theorem e27:HC Tryz.prog G 27 [.oa 0 0 0 0] [mO (.ol 1 0 1) 0,r1 0] (I 1) [mO (.ol 1 0 1) 0,r1 0]:=by
 refine Zq cop27 rfl ?_
 repeat' ((conv=>whnf);first|(refine SeqP.go ?_)|((refine ObD.mk ?_ ?_);(focus (first|rfl|(simp;done)|(simp [zy,geB,AOp.cls,AOp.xs,ltB,ltC,AX.ev,zh];done))))|((refine ObN.mk ?_ ?_);exact zN)|(refine ObT.ff ?_)|((refine ObB.no ?_ ?_);exact zC)|((with_reducible refine ObI.sl ?_ ?_ ?_);omega;omega)|((refine ObX.mk _ rfl ?_ ?_);exact zX)|((with_reducible refine (?_:ObR _ _ _));(first|(refine ObR.mk _ zG ?_)|(refine ObR.map zX (fun x hx=>?_))|(refine ObR.mk _ rfl ?_)))|(exact ObEnd.eq rfl rfl))
theorem e27b (t:Int):HC Tryz.prog G 27 [.oa 0 0 0 0] [mO (.ol 1 0 0) t,r1 0] (I 0) [mO (.ol 1 0 0) t,r1 0]:=by
 refine Zq cop27 rfl ?_
 repeat' ((conv=>whnf);first|(refine SeqP.go ?_)|((refine ObN.mk ?_ ?_);exact zN)|(with_reducible first|refine ObT.tt ?_|refine ObT.ff ?_)|((refine ObB.yes ?_ ?_);exact zB)|((with_reducible refine (?_:ObR _ _ _));(first|(refine ObR.mk _ zG ?_)|(refine ObR.map zX (fun x hx=>?_))|(refine ObR.mk _ rfl ?_)))|(exact ObEnd.eq rfl rfl))
theorem e28:HC Tryz.prog G 28 [.oa 0 0 0 0,e1A] [mO (.ol 1 0 1) 0,r1 0] (.tup []) [mO (.ol 1 0 0) 1,r1 0]:=by
 have c27:=e27 G
 have c57:PC Tryz.prog G 57 [e1A] (.sl 2 [.agg [S ⟨#[97]⟩,S ⟨#[49]⟩]]):=e57 G
 have hl1:([.agg [S ⟨#[97]⟩,S ⟨#[49]⟩]]:List AV).length=1:=rfl
 refine Zq cop28 rfl ?_
 repeat' ((conv=>whnf);first|(refine SeqP.go ?_)|((refine ObD.mk ?_ ?_);(focus (first|rfl|(simp;done)|(simp [zy,geB,AOp.cls,AOp.xs,ltB,ltC,AX.ev,zh];done))))|((refine ObN.mk ?_ ?_);exact zN)|(with_reducible first|refine ObT.tt ?_|refine ObT.ff ?_)|((refine ObB.yes ?_ ?_);exact zB)|((refine ObB.no ?_ ?_);exact zC)|((with_reducible refine ObI.sl ?_ ?_ ?_);omega;omega)|((with_reducible refine ObI.mk _ rfl ?_ ?_ ?_);omega;omega)|((with_reducible refine ObY.mk _ rfl ?_ ?_);exact zX)|((with_reducible refine (?_:ObL _ _));(refine ObL.mk _ (by first|exact hl1|assumption|exact (List.length_map _).trans (by assumption)|exact List.length_map _|rfl) ?_))|((with_reducible refine (?_:ObU _ _));(refine ObU.mk _ zU ?_))|((with_reducible refine (?_:ObR _ _ _));(first|(refine ObR.mk _ zG ?_)|(refine ObR.map zX (fun x hx=>?_))|(refine ObR.mk _ rfl ?_)))|((refine ObC.f 57 ?_);(refine ObC.mk _ (c57) ?_))|((refine ObH.f 27 ?_);refine ObH.frn _ ZA [(0,0,0),(0,1,0)] (c27) (by simp) rfl (by simp) ?_)|((with_reducible refine ObO.l ?_);(refine ObN.mk ?_ ?_);(exact ZD))|((with_reducible refine ObRow.same ?_ ?_ ?_);exact zE;(focus (first|rfl|assumption|(simp;done))))|((with_reducible refine ObRow.lit ?_ ?_);(focus (first|rfl|(simp [rnB,rnC,rnL];done))))|((with_reducible refine ObAs.mk ?_ ?_);(focus (first|rfl|(simp [rnB,rnC,rnL];done))))|((with_reducible refine (?_:ObRs _ _ _));(refine ObRs.mk _ rfl ?_))|((with_reducible refine ObBk.same ?_ ?_);(focus (first|rfl|assumption|(simp;done))))|((with_reducible refine (?_:ObBk _ _ _));(refine ObBk.lit [.agg _] rfl ?_)))
 all_goals skip
 all_goals conv=>whnf
 all_goals refine ObEnd.vw [(0,0,0),(0,1,0)] rfl ?_ (by simp) ?_
 all_goals repeat' ((conv=>whnf);first|((refine ObN.mk ?_ ?_);exact zN)|((with_reducible refine ObO.l ?_);(refine ObN.mk ?_ ?_);(exact ZD))|((with_reducible refine ObRow.same ?_ ?_ ?_);exact zE;(focus (first|rfl|assumption|(simp;done))))|((with_reducible refine ObRow.lit ?_ ?_);(focus (first|rfl|(simp [rnB,rnC,rnL];done))))|exact True.intro)
theorem e31:HC Tryz.prog G 31 [.oa 0 0 0 0] [mO (.ol 1 0 0) 1,r1 0] (I 1) [mO (.ol 1 0 0) 1,r1 0]:=by
 have c27:=e27b G 1
 refine Zq cop31 rfl ?_
 repeat' ((conv=>whnf);first|(refine SeqP.go ?_)|((refine ObN.mk ?_ ?_);exact zN)|(refine ObT.ff ?_)|((refine ObB.yes ?_ ?_);exact zB)|((with_reducible refine (?_:ObR _ _ _));(first|(refine ObR.mk _ zG ?_)|(refine ObR.map zX (fun x hx=>?_))|(refine ObR.mk _ rfl ?_)))|((refine ObH.f 27 ?_);refine ObH.frn _ ZA [(0,0,0),(0,1,0)] (c27) (by simp) rfl (by simp) ?_)|(exact ObEnd.eq rfl rfl)|((with_reducible refine ObRow.same ?_ ?_ ?_);exact zE;(focus (first|rfl|assumption|(simp;done))))|((with_reducible refine ObRow.lit ?_ ?_);(focus (first|rfl|(simp [rnB,rnC,rnL];done))))|((with_reducible refine ObAs.mk ?_ ?_);(focus (first|rfl|(simp [rnB,rnC,rnL];done))))|((with_reducible refine (?_:ObRs _ _ _));(refine ObRs.mk _ rfl ?_))|((with_reducible refine ObBk.same ?_ ?_);(focus (first|rfl|assumption|(simp;done))))|((with_reducible refine (?_:ObBk _ _ _));(refine ObBk.lit [.agg _] rfl ?_)))
end
set_option maxHeartbeats 4000000 in
theorem e48c:HC Tryz.prog Zr 48 [.sl 9 [e1A],I 1,I 64,.io 50 0 0 0 0] [mO (.ol 1 0 1) 0,r1 0] (I 1) [mO (.ol 1 0 0) 1,r1 0]:=by
 have a1:=e27 Zr
 have a2:=e27b Zr 1
 have c28:=e28 Zr
 have c12:=e12
 refine Zq cop48 rfl ?_
 repeat' ((conv=>whnf);first|(refine SeqP.go ?_)|((refine ObN.mk ?_ ?_);exact zN)|(with_reducible first|refine ObT.tt ?_|refine ObT.ff ?_)|((refine ObC.f 12 ?_);(refine ObC.mk _ (c12) ?_))|((refine ObH.f 27 ?_);refine ObH.frn _ ZA [(0,0,0),(0,1,0)] (a1) (by simp) rfl (by simp) ?_)|((with_reducible refine ObRow.same ?_ ?_ ?_);exact zE;(focus (first|rfl|assumption|(simp;done))))|((with_reducible refine ObRow.lit ?_ ?_);(focus (first|rfl|(simp [rnB,rnC,rnL];done))))|((with_reducible refine ObAs.mk ?_ ?_);(focus (first|rfl|(simp [rnB,rnC,rnL];done))))|((with_reducible refine (?_:ObRs _ _ _));(refine ObRs.mk _ rfl ?_))|((with_reducible refine ObBk.same ?_ ?_);(focus (first|rfl|assumption|(simp;done))))|((with_reducible refine (?_:ObBk _ _ _));(refine ObBk.lit [.agg _] rfl ?_))|((with_reducible refine (?_:ObV _ _ _ _));(refine ObV.mk _ (want_c) ?_)))
 conv=>whnf
 refine LoopP.go (α:=Bool) (fun _=>True) (fun d=>if d=true then 0 else 1) (fun d=>[(9,some (I (if d=true then 1 else 0))),(0,some (I (if d=true then 0 else 1))),(7,none),(0,none),(0,none),(0,none),(0,none),(0,none),(0,none),(0,none),(0,none),(0,none),(0,none),(0,none),(0,none),(0,none),(0,none),(0,none)]) (fun d=>[if d=true then mO (.ol 1 0 0) 1 else mO (.ol 1 0 1) 0,r1 0]) false trivial (Fg.go ?_ rfl) ?_
 ·repeat' ((conv=>whnf);first|((refine ObEqs.mk ?_ ?_);rfl)|((with_reducible refine ObEq1.mk ?_ ?_);exact zE)|exact True.intro)
 intro d _
 cases d
 ·simp only [Bool.false_eq_true,if_false]
  have hq:[e1A][((1:Int) - 1).toNat]? = some e1A:=rfl
  repeat' ((conv=>whnf);first|(refine SeqP.go ?_)|((refine ObD.mk ?_ ?_);(focus (first|rfl|(simp;done)|(simp [zy,geB,AOp.cls,AOp.xs,ltB,ltC,AX.ev,zh];done))))|((refine ObN.mk ?_ ?_);(focus (first|exact nah_c|rfl|assumption|omega|(simp only [List.length_map,List.length_append,List.length_cons,List.length_nil];omega)|(simp;done)|(simp;omega))))|(refine ObT.tt ?_)|((refine ObB.no ?_ ?_);exact zC)|((with_reducible refine ObI.mk _ rfl ?_ ?_ ?_);omega;omega)|((refine ObX.mk _ rfl ?_ ?_);exact zX)|((with_reducible refine (?_:ObR _ _ _));(first|(refine ObR.mk _ zG ?_)|(refine ObR.map zX (fun x hx=>?_))|(refine ObR.mk _ rfl ?_)))|((refine ObH.f 27 ?_);refine ObH.frn _ ZA [(0,0,0),(0,1,0)] (a2) (by simp) rfl (by simp) ?_)|((refine ObH.f 28 ?_);refine ObH.frn _ ZA [(0,0,0),(0,1,0)] (c28) (by simp) rfl (by simp) ?_)|((with_reducible refine ObRow.same ?_ ?_ ?_);exact zE;(focus (first|rfl|assumption|(simp;done))))|((with_reducible refine ObRow.lit ?_ ?_);(focus (first|rfl|(simp [rnB,rnC,rnL];done))))|((with_reducible refine ObAs.mk ?_ ?_);(focus (first|rfl|(simp [rnB,rnC,rnL];done))))|((with_reducible refine (?_:ObRs _ _ _));(refine ObRs.mk _ rfl ?_))|((with_reducible refine ObBk.same ?_ ?_);(focus (first|rfl|assumption|(simp;done))))|((with_reducible refine (?_:ObBk _ _ _));(refine ObBk.lit [.agg _] rfl ?_))|((with_reducible refine (?_:ObV _ _ _ _));(refine ObV.mk _ (want_c) ?_))|((with_reducible refine (?_:ObV _ _ _ _));(refine ObV.mk _ (feed_c) ?_)))
  all_goals conv=>whnf
  all_goals refine Again.mk true trivial (by decide) (Fg.go ?_ rfl)
  all_goals repeat' ((conv=>whnf);first|((refine ObEqs.mk ?_ ?_);rfl)|((with_reducible refine ObEq1.mk ?_ ?_);exact zE)|exact True.intro)
 ·simp only [if_true]
  repeat' ((conv=>whnf);first|(refine SeqP.go ?_)|((refine ObN.mk ?_ ?_);exact zN)|(refine ObT.ff ?_)|((refine ObB.yes ?_ ?_);exact zB)|(exact ObEnd.eq rfl rfl))
theorem e17:PC Tryz.prog Zr 17 [.sl 9 [e1A],I 1,I 64] (.tup [I 1,I 1]):=by
 have c23:=e23 Zr
 have c48:=e48c
 have c31:=e31 Zr
 refine zA cop17 ?_
 repeat' ((conv=>whnf);first|(refine SeqP.go ?_)|((refine ObN.mk ?_ ?_);exact zN)|((refine ObH.f 23 ?_);refine ObH.frn _ ZA [] (c23) (by simp) rfl (by simp) ?_)|((refine ObH.f 48 ?_);refine ObH.frn _ ZA [(0,0,0),(0,1,0)] (c48) (by simp) rfl (by simp) ?_)|((refine ObH.f 31 ?_);refine ObH.frn _ ZA [(0,0,0),(0,1,0)] (c31) (by simp) rfl (by simp) ?_)|((refine ObEq.mk ?_);exact zE)|((with_reducible refine ObRow.same ?_ ?_ ?_);exact zE;(focus (first|rfl|assumption|(simp;done))))|((with_reducible refine ObRow.lit ?_ ?_);(focus (first|rfl|(simp [rnB,rnC,rnL];done))))|((with_reducible refine ObAs.mk ?_ ?_);(focus (first|rfl|(simp [rnB,rnC,rnL];done))))|((with_reducible refine (?_:ObRs _ _ _));(refine ObRs.mk _ rfl ?_))|((with_reducible refine ObBk.same ?_ ?_);(focus (first|rfl|assumption|(simp;done))))|((with_reducible refine (?_:ObBk _ _ _));(refine ObBk.lit [.agg _] rfl ?_)))
theorem works14:PC Tryz.prog Zr 14 [] (Bo true):=by
 have c30:=leaf30 Zr
 have c12:=e12
 have c15:=e15
 have c16:=e16
 have c17:=e17
 refine zA cop14 ?_
 repeat' ((conv=>whnf);first|(refine SeqP.go ?_)|((refine ObD.mk ?_ ?_);exact zD)|((refine ObN.mk ?_ ?_);exact zN)|(with_reducible first|refine ObT.tt ?_|refine ObT.ff ?_)|((refine ObB.yes ?_ ?_);exact zB)|((with_reducible refine (?_:ObU _ _));(refine ObU.mk _ zU ?_))|((with_reducible refine (?_:ObR _ _ _));(first|(refine ObR.mk _ zG ?_)|(refine ObR.map zX (fun x hx=>?_))|(refine ObR.mk _ rfl ?_)))|((refine ObC.f 30 ?_);(refine ObC.mk _ (c30) ?_))|((refine ObC.f 12 ?_);(refine ObC.mk _ (c12) ?_))|((refine ObC.f 15 ?_);(refine ObC.mk _ (c15) ?_))|((refine ObC.f 16 ?_);(refine ObC.mk _ (c16) ?_))|((refine ObC.f 17 ?_);(refine ObC.mk _ (c17) ?_))|((refine ObEq.mk ?_);exact zE))
theorem txt_inv {cs:List AV} (h:ShC Tryz.prog 9 cs):∃ s:ByteArray,mkE false cs=S s/\s.size<=9223372036854775807:=by
 obtain ⟨s,rfl,hs⟩:=h.str_inv xw
 exact ⟨s,rfl,hs⟩
theorem cutB_size' {s:ByteArray} {m:Nat}:(Pr7.cutB s m).size<=m:=by unfold Pr7.cutB;rw [ByteArray.size_extract];omega
theorem few8 (G:Nat->AV) (h:List Nd) (hl:h.length<=9223372036854775807) (hx:∀ x ∈ h,x.Wd):PC Tryz.prog G 8 [.sl 9 (h.map nA)] (.sl 9 ((Zv 12 1 h).map nA)):=few21 G h hl hx
theorem few8b (G:Nat->AV) (h:List Nd) (hl:h.length<=9223372036854775807) (hx:∀ x ∈ h,x.Wd):PC Tryz.prog G 8 [.sl 9 ((Zv 12 1 h).map nA)] (.sl 9 ((Zv 12 1 h).map nA)):=by
 have h1:=few21 G (Zv 12 1 h) (by have:=@Y3 12 1 h;omega) (fun x hx2=>(wx hx x hx2).wd)
 rwa [fewL_eq hx] at h1
set_option maxHeartbeats 4000000 in
theorem law3 (h0:List Nd) (hl0:h0.length<=9223372036854775807) (hx0:∀ x ∈ h0,x.Wd) (r:Int) (hr:i64 r) (b:Int) (hb:i64 b) (a k:ByteArray) (ha:a.size<=9223372036854775807) (hk:k.size<=9223372036854775807):PC Tryz.prog Zr 3 [.sl 9 (h0.map nA),I r,I b,S a,S k] (Bo true):=by
 have c8:=few8 Zr h0 hl0 hx0
 have c8b:=few8b Zr h0 hl0 hx0
 have hl:(Zv 12 1 h0).length<=12:=Y3
 have hx:=wx (n:=12) (w:=1) hx0
 have hC:okR (Zv 12 1 h0) r=true->C (Zv 12 1 h0) r<=1000000:=fun hc=>by
  simp only [okR,Bool.and_eq_true,decide_eq_true_eq] at hc
  exact C_few hx0 hc.2 hc.1.2
 have hB:okR (Zv 12 1 h0) r=true->(B (Zv 12 1 h0) r).length<=1000000:=fun hc=>by
  simp only [okR,Bool.and_eq_true,decide_eq_true_eq] at hc
  exact B_few hx0 hc.2 hc.1.2
 generalize Zv 12 1 h0=h at *
 have c9a:PC Tryz.prog Zr 9 [S a,I 40] (S (Pr7.cutB a 40)):=Pr7.cutP Zr a 40 ha
 have c9b:PC Tryz.prog Zr 9 [S k,I 40] (S (Pr7.cutB k 40)):=Pr7.cutP Zr k 40 hk
 have ha2:=cutB_size' (s:=a) (m:=40)
 have hk2:=cutB_size' (s:=k) (m:=40)
 generalize Pr7.cutB a 40=a' at *
 generalize Pr7.cutB k 40=k' at *
 have c10:=sb10 Zr a' k' b (by omega) (by omega) hb _ rfl
 have c11:=rb11 Zr a' k' b (by omega) (by omega) hb _ rfl
 have c12:=plies12 (by omega) hx b hb r hC _ rfl
 have c13:=dlies13 (by omega) hx Zr b hb r hC hB _ rfl
 have c14:=works14
 generalize bk b a' k'=u at *
 generalize LS h b r=v at *
 cases u<;>cases v
 all_goals refine zA cop3 ?_
 ·repeat' ((conv=>whnf);first|(refine SeqP.go ?_)|((refine ObN.mk ?_ ?_);exact zN)|(with_reducible first|refine ObT.tt ?_|refine ObT.ff ?_)|((refine ObC.f 8 ?_);(refine ObC.mk _ (c8) ?_))|((refine ObC.f 8 ?_);(refine ObC.mk _ (c8b) ?_))|((refine ObC.f 9 ?_);(refine ObC.mk _ (c9a) ?_))|((refine ObC.f 9 ?_);(refine ObC.mk _ (c9b) ?_))|((refine ObC.f 10 ?_);(refine ObC.mk _ (c10) ?_))|((refine ObC.f 11 ?_);(refine ObC.mk _ (c11) ?_))|((refine ObC.f 12 ?_);(refine ObC.mk _ (c12) ?_))|((refine ObC.f 13 ?_);(refine ObC.mk _ (c13) ?_))|((refine ObC.f 14 ?_);(refine ObC.mk _ (c14) ?_))|((refine ObEq.mk ?_);exact zE))
 ·repeat' ((conv=>whnf);first|(refine SeqP.go ?_)|((refine ObN.mk ?_ ?_);exact zN)|(with_reducible first|refine ObT.tt ?_|refine ObT.ff ?_)|((refine ObC.f 8 ?_);(refine ObC.mk _ (c8) ?_))|((refine ObC.f 8 ?_);(refine ObC.mk _ (c8b) ?_))|((refine ObC.f 9 ?_);(refine ObC.mk _ (c9a) ?_))|((refine ObC.f 9 ?_);(refine ObC.mk _ (c9b) ?_))|((refine ObC.f 10 ?_);(refine ObC.mk _ (c10) ?_))|((refine ObC.f 11 ?_);(refine ObC.mk _ (c11) ?_))|((refine ObC.f 12 ?_);(refine ObC.mk _ (c12) ?_))|((refine ObC.f 13 ?_);(refine ObC.mk _ (c13) ?_))|((refine ObC.f 14 ?_);(refine ObC.mk _ (c14) ?_))|((refine ObEq.mk ?_);exact zE))
 ·repeat' ((conv=>whnf);first|(refine SeqP.go ?_)|((refine ObN.mk ?_ ?_);exact zN)|(with_reducible first|refine ObT.tt ?_|refine ObT.ff ?_)|((refine ObC.f 8 ?_);(refine ObC.mk _ (c8) ?_))|((refine ObC.f 8 ?_);(refine ObC.mk _ (c8b) ?_))|((refine ObC.f 9 ?_);(refine ObC.mk _ (c9a) ?_))|((refine ObC.f 9 ?_);(refine ObC.mk _ (c9b) ?_))|((refine ObC.f 10 ?_);(refine ObC.mk _ (c10) ?_))|((refine ObC.f 11 ?_);(refine ObC.mk _ (c11) ?_))|((refine ObC.f 12 ?_);(refine ObC.mk _ (c12) ?_))|((refine ObC.f 13 ?_);(refine ObC.mk _ (c13) ?_))|((refine ObC.f 14 ?_);(refine ObC.mk _ (c14) ?_))|((refine ObEq.mk ?_);exact zE))
 ·repeat' ((conv=>whnf);first|(refine SeqP.go ?_)|((refine ObN.mk ?_ ?_);exact zN)|(refine ObT.tt ?_)|((refine ObC.f 8 ?_);(refine ObC.mk _ (c8) ?_))|((refine ObC.f 8 ?_);(refine ObC.mk _ (c8b) ?_))|((refine ObC.f 9 ?_);(refine ObC.mk _ (c9a) ?_))|((refine ObC.f 9 ?_);(refine ObC.mk _ (c9b) ?_))|((refine ObC.f 10 ?_);(refine ObC.mk _ (c10) ?_))|((refine ObC.f 11 ?_);(refine ObC.mk _ (c11) ?_))|((refine ObC.f 12 ?_);(refine ObC.mk _ (c12) ?_))|((refine ObC.f 13 ?_);(refine ObC.mk _ (c13) ?_))|((refine ObC.f 14 ?_);(refine ObC.mk _ (c14) ?_))|((refine ObEq.mk ?_);exact zE))
theorem SeekLies_calls (as0 as1 as2 as3 as4:List AV) (s0:ShC Tryz.prog 22 as0) (s1:ShC Tryz.prog 3 as1) (s2:ShC Tryz.prog 3 as2) (s3:ShC Tryz.prog 9 as3) (s4:ShC Tryz.prog 9 as4):PC Tryz.prog Zr 3 [mkE (Zn Tryz.prog 22) as0,mkE (Zn Tryz.prog 3) as1,mkE (Zn Tryz.prog 3) as2,mkE (Zn Tryz.prog 9) as3,mkE (Zn Tryz.prog 9) as4] (Bo true):=by
 obtain ⟨h,h0,h6,h7⟩:=heap_inv s0
 obtain ⟨n,h1,h2⟩:=int_inv s1
 obtain ⟨b,h5,h8⟩:=int_inv s2
 obtain ⟨a,h3,h4⟩:=txt_inv s3
 obtain ⟨k,h9,h10⟩:=txt_inv s4
 have e1:Zn Tryz.prog 22=false:=by kernel_rfl
 have e2:Zn Tryz.prog 3=false:=by kernel_rfl
 have e3:Zn Tryz.prog 9=false:=by kernel_rfl
 rw [e1,e2,e3,h0,h1,h3,h5,h9]
 exact law3 h h6 h7 n h2 b h8 a k h4 h10
end Go.Proofs.YtdodckipblafmaaGreatDoor.Sim
