/- Texts of this claim, part 6. -/
import Derived.Laws.BitsAllLaws
import Derived.Lib.BitFns
import Derived.Lib.Tables
import Derived.Test.YtdodckipblafmaaGreatDoorMSeekLies5
set_option linter.unusedVariables false
set_option linter.unusedSimpArgs false
namespace Go.Proofs.YtdodckipblafmaaGreatDoor.Sim
open Go.RowKit
set_option maxRecDepth 100000
noncomputable def frm (af:Bool) (b lv:Int) (key:ByteArray):Int:=if af=true then -1 else (cN b lv key:Nat)
abbrev sP (w lv:Int) (af:Bool) (st:AV) (key:ByteArray) (b:Int) (f:Pr) (q:Bool):OB:=⟨92,9,[.agg [I w,I lv,Bo af,st,S key,I b,S f.1,S f.2,Bo q]],0,0⟩
section
variable (G:Nat->AV)
end
section
variable (G:Nat->AV)
section
variable (w lv:Int) (hw:w ≠ 0) (hlv:0<=lv/\lv<=1000) (af:Bool) (key:ByteArray) (hk:key.size<=100000) (b:Int) (hb:i64 b) (f:Pr) (q:Bool) (ke va:ByteArray) (mp:Int) (kk:List Int) (mn:Int) (ls:List Pr) (sz bi:Int)
include hw
include hk hb in
set_option maxHeartbeats 4000000 in
theorem fe1n (kn:Int) (hkn:kn=1\/kn=6\/kn=3) (l:List Pr) (hl:l.length<=1000000) (hsz:∀ p ∈ l,p.1.size<=100000) (c57:PC Tryz.prog G 57 [nV kn ke va mp kk mn ls sz bi] (.sl 2 (l.map pA))) (r:Option Pr) (hr:r=chs af key b l):HC Tryz.prog G 26 [.oa 0 0 0 0,nV kn ke va mp kk mn ls sz bi] [sP w lv af (.nl 3) key b f q] (.tup []) [sP 0 0 false (.nl 3) key b (r.getD f) (r.isSome || q)]:=by
 have c25:HC Tryz.prog G 25 [.oa 0 0 0 0] [sP w lv af (.nl 3) key b f q] (I w) [sP w lv af (.nl 3) key b f q]:=want25 G (w,lv,af) (.nl 3) key b f q []
 have c56:HC Tryz.prog G 56 [.oa 0 0 0 0,.sl 2 (l.map pA)] [sP w lv af (.nl 3) key b f q] (.tup []) [sP w lv af (.nl 3) key b (r.getD f) (r.isSome || q)]:=chs56 G w lv af key hk b hb f q l hl hsz r hr
 have c58:HC Tryz.prog G 58 [.oa 0 0 0 0] [sP w lv af (.nl 3) key b (r.getD f) (r.isSome || q)] (.tup []) [sP 0 0 false (.nl 3) key b (r.getD f) (r.isSome || q)]:=nxt58n G (w,lv,af) key b (r.getD f) (r.isSome || q) []
 generalize r.getD f=f' at *
 generalize (r.isSome || q)=q' at *
 rcases hkn with rfl|rfl|rfl
 all_goals refine Zq cop26 rfl ?_
 ·repeat' ((conv=>whnf);first|(refine SeqP.go ?_)|((refine ObD.mk ?_ ?_);(focus (first|rfl|(simp;done)|(simp [zy,geB,AOp.cls,AOp.xs,ltB,ltC,AX.ev,zh];done))))|((refine ObN.mk ?_ ?_);exact zN)|(with_reducible first|refine ObT.tt ?_|refine ObT.ff ?_)|((refine ObB.yes ?_ ?_);exact zB)|((refine ObB.no ?_ ?_);exact zC)|((with_reducible refine (?_:ObR _ _ _));(first|(refine ObR.mk _ zG ?_)|(refine ObR.map zX (fun x hx=>?_))|(refine ObR.mk _ rfl ?_)))|((refine ObH.f 25 ?_);refine ObH.frn _ ZA [(0,0,0)] (c25) (by simp) rfl (by simp) ?_)|((refine ObC.f 57 ?_);(refine ObC.mk _ (c57) ?_))|((refine ObH.f 56 ?_);refine ObH.frn _ ZA [(0,0,0)] (c56) (by simp) rfl (by simp) ?_)|((refine ObH.f 58 ?_);refine ObH.frn _ ZA [(0,0,0)] (c58) (by simp) rfl (by simp) ?_)|((with_reducible refine ObRow.same ?_ ?_ ?_);exact zE;(focus (first|rfl|assumption|(simp;done))))|((with_reducible refine ObAs.mk ?_ ?_);(focus (first|rfl|(simp [rnB,rnC,rnL];done))))|((with_reducible refine (?_:ObRs _ _ _));(refine ObRs.mk _ rfl ?_))|((with_reducible refine ObBk.same ?_ ?_);(focus (first|rfl|assumption|(simp;done)))))
  all_goals conv=>whnf
  all_goals refine ObEnd.vw [(0,0,0)] rfl ?_ (by simp) ?_
  all_goals repeat' ((conv=>whnf);first|((refine ObN.mk ?_ ?_);exact zN)|((with_reducible refine ObO.l ?_);(refine ObN.mk ?_ ?_);(exact ZD))|((with_reducible refine ObRow.same ?_ ?_ ?_);exact zE;(focus (first|rfl|assumption|(simp;done))))|exact True.intro)
 ·repeat' ((conv=>whnf);first|(refine SeqP.go ?_)|((refine ObD.mk ?_ ?_);(focus (first|rfl|(simp;done)|(simp [zy,geB,AOp.cls,AOp.xs,ltB,ltC,AX.ev,zh];done))))|((refine ObN.mk ?_ ?_);exact zN)|(with_reducible first|refine ObT.tt ?_|refine ObT.ff ?_)|((refine ObB.yes ?_ ?_);exact zB)|((refine ObB.no ?_ ?_);exact zC)|((with_reducible refine (?_:ObR _ _ _));(first|(refine ObR.mk _ zG ?_)|(refine ObR.map zX (fun x hx=>?_))|(refine ObR.mk _ rfl ?_)))|((refine ObH.f 25 ?_);refine ObH.frn _ ZA [(0,0,0)] (c25) (by simp) rfl (by simp) ?_)|((refine ObC.f 57 ?_);(refine ObC.mk _ (c57) ?_))|((refine ObH.f 56 ?_);refine ObH.frn _ ZA [(0,0,0)] (c56) (by simp) rfl (by simp) ?_)|((refine ObH.f 58 ?_);refine ObH.frn _ ZA [(0,0,0)] (c58) (by simp) rfl (by simp) ?_)|((with_reducible refine ObRow.same ?_ ?_ ?_);exact zE;(focus (first|rfl|assumption|(simp;done))))|((with_reducible refine ObAs.mk ?_ ?_);(focus (first|rfl|(simp [rnB,rnC,rnL];done))))|((with_reducible refine (?_:ObRs _ _ _));(refine ObRs.mk _ rfl ?_))|((with_reducible refine ObBk.same ?_ ?_);(focus (first|rfl|assumption|(simp;done)))))
  all_goals conv=>whnf
  all_goals refine ObEnd.vw [(0,0,0)] rfl ?_ (by simp) ?_
  all_goals repeat' ((conv=>whnf);first|((refine ObN.mk ?_ ?_);exact zN)|((with_reducible refine ObO.l ?_);(refine ObN.mk ?_ ?_);(exact ZD))|((with_reducible refine ObRow.same ?_ ?_ ?_);exact zE;(focus (first|rfl|assumption|(simp;done))))|exact True.intro)
 ·repeat' ((conv=>whnf);first|(refine SeqP.go ?_)|((refine ObD.mk ?_ ?_);(focus (first|rfl|(simp;done)|(simp [zy,geB,AOp.cls,AOp.xs,ltB,ltC,AX.ev,zh];done))))|((refine ObN.mk ?_ ?_);exact zN)|(with_reducible first|refine ObT.tt ?_|refine ObT.ff ?_)|((refine ObB.yes ?_ ?_);exact zB)|((refine ObB.no ?_ ?_);exact zC)|((with_reducible refine (?_:ObR _ _ _));(first|(refine ObR.mk _ zG ?_)|(refine ObR.map zX (fun x hx=>?_))|(refine ObR.mk _ rfl ?_)))|((refine ObH.f 25 ?_);refine ObH.frn _ ZA [(0,0,0)] (c25) (by simp) rfl (by simp) ?_)|((refine ObC.f 57 ?_);(refine ObC.mk _ (c57) ?_))|((refine ObH.f 56 ?_);refine ObH.frn _ ZA [(0,0,0)] (c56) (by simp) rfl (by simp) ?_)|((refine ObH.f 58 ?_);refine ObH.frn _ ZA [(0,0,0)] (c58) (by simp) rfl (by simp) ?_)|((with_reducible refine ObRow.same ?_ ?_ ?_);exact zE;(focus (first|rfl|assumption|(simp;done))))|((with_reducible refine ObAs.mk ?_ ?_);(focus (first|rfl|(simp [rnB,rnC,rnL];done))))|((with_reducible refine (?_:ObRs _ _ _));(refine ObRs.mk _ rfl ?_))|((with_reducible refine ObBk.same ?_ ?_);(focus (first|rfl|assumption|(simp;done)))))
  all_goals conv=>whnf
  all_goals refine ObEnd.vw [(0,0,0)] rfl ?_ (by simp) ?_
  all_goals repeat' ((conv=>whnf);first|((refine ObN.mk ?_ ?_);exact zN)|((with_reducible refine ObO.l ?_);(refine ObN.mk ?_ ?_);(exact ZD))|((with_reducible refine ObRow.same ?_ ?_ ?_);exact zE;(focus (first|rfl|assumption|(simp;done))))|exact True.intro)
include hk hb hlv in
end
end
section
variable (G:Nat->AV)
section
variable (w lv:Int) (hw:w ≠ 0) (hlv:0<=lv/\lv<=1000) (af:Bool) (key:ByteArray) (hk:key.size<=100000) (b:Int) (hb:i64 b) (f:Pr) (q:Bool) (g:Nat) (L:List Spt) (hL:L.length<=100000) (ke va:ByteArray) (mp:Int) (kk:List Int) (mn:Int) (ls:List Pr) (sz bi:Int)
include hw hL
include hk hb in
include hk hb hlv in
end
end
set_option maxHeartbeats 16000000 in
theorem xf (G : Nat -> AV) (kn kn' : Int) (ke ke' va va' : ByteArray) (mp mp' : Int) (kk kk' : List Int) (mn mn' : Int) (ls ls' : List Pr) (sz sz' bi bi' : Int) (hke : ke.size <= 9223372036854775807) (hke2 : ke'.size <= 9223372036854775807) (hva : va.size <= 9223372036854775807) (hva2 : va'.size <= 9223372036854775807) (hks : kk.length <= 9223372036854775807) (hks2 : kk'.length <= 9223372036854775807) (hls : ls.length <= 9223372036854775807) (hls2 : ls'.length <= 9223372036854775807) (r : Bool)
  (hr:r=decide (kn=kn'/\ke=ke'/\va=va'/\mp=mp'/\kk=kk'/\mn=mn'/\ls=ls'/\sz=sz'/\bi=bi')):PC Tryz.prog G 116 [nV kn ke va mp kk mn ls sz bi,nV kn' ke' va' mp' kk' mn' ls' sz' bi'] (Bo r):=by
 refine yg cop116 ?_
 show W _ _ _ _ ⟨_,_⟩;simp only [A116,List.cons_append,List.nil_append,List.length_cons,List.length_nil,Nat.reduceAdd,Nat.reduceSub,List.replicate]
 by_cases hne:kn=kn'
 case neg =>
  obtain rfl:r=false:=by rw [hr];simp [hne]
  repeat (first|(with_reducible first|refine zQ ?_|refine zP ?_|refine zw ?_|refine zp ?_|refine Zm ?_)|((with_reducible refine YF ?_ ?_);rfl)|((with_reducible first|refine ks fun K hK=>?_|refine kd fun K hK=>?_|refine kc fun K hK2 hK hK3=>?_|refine ZC fun K hR=>?_|refine Zl rfl fun K hR=>?_|refine Zh fun K hR=>?_);simp (disch:=omega) only [bg0,bg1,bg2,bg3,bg4,zt,zS,eff,AX.ev,St.put,zO,zK,ap1,zi,simprocAttr,zu,AV.cells,AV.fine,AV.one,zY,zq,live,zo,rdA,zg,wrA,zI,zr,zW,zT,zV,zk,zb,zm,zj,ze,cut,id,ap2,zx,zy,geB,AOp.cls,AOp.xs,ltB,ltC,Option.toList,List.cons_append,decide_eq_true,decide_eq_false,if_pos,if_neg,List.length_map,zH,Zu,bVb,bVn,eq_self,Bool.and_self,BEq.rfl,not_true_eq_false,YD,YC,decide_true,decide_false,not_false_eq_true,hne,cB_self];(first|(with_reducible first|(refine hK _ ?_;clear hK K)|(refine hK ?_;clear hK hK3 K hK2)|(refine hK3 ?_;clear hK hK3 K hK2))|((with_reducible refine hR _ ?_ ?_ ?_ ?_);rotate_left 2;rfl;rfl)|((with_reducible refine hR _ ?_);rfl))))
 subst hne
 by_cases hne:ke=ke'
 case neg =>
  obtain rfl:r=false:=by rw [hr];simp [hne]
  repeat (first|(with_reducible first|refine zQ ?_|refine zP ?_|refine zw ?_|refine zp ?_|refine Zm ?_)|((with_reducible refine yV ?_ ?_);rfl)|((with_reducible refine YF ?_ ?_);rfl)|((with_reducible refine kps 38 ?_ ?_ ?_ ?_);rotate_left 1;rfl;exact (by refine cmpP G _ _ ?_ ?_<;>assumption))|((with_reducible first|refine ks fun K hK=>?_|refine kd fun K hK=>?_|refine kc fun K hK2 hK hK3=>?_|refine ZC fun K hR=>?_|refine Zl rfl fun K hR=>?_|refine Zh fun K hR=>?_);simp (disch:=omega) only [bg0,bg1,bg2,bg3,bg4,zt,zS,eff,AX.ev,St.put,zO,zK,ap1,zi,simprocAttr,zu,AV.cells,AV.fine,AV.one,zY,zq,live,zo,rdA,zg,wrA,zI,zr,zW,zT,zV,zk,zb,zm,zj,ze,cut,id,ap2,zx,zy,geB,AOp.cls,AOp.xs,ltB,ltC,Option.toList,List.cons_append,decide_eq_true,decide_eq_false,if_pos,if_neg,List.length_map,zH,Zu,bVb,bVn,eq_self,Bool.and_self,BEq.rfl,not_true_eq_false,YD,YC,decide_true,decide_false,not_false_eq_true,hne,cB_self,XO hne];(first|(with_reducible first|(refine hK _ ?_;clear hK K)|(refine hK ?_;clear hK hK3 K hK2)|(refine hK3 ?_;clear hK hK3 K hK2))|((with_reducible refine hR _ ?_ ?_ ?_ ?_);rotate_left 2;rfl;rfl)|((with_reducible refine hR _ ?_);rfl))))
 subst hne
 by_cases hne:va=va'
 case neg =>
  obtain rfl:r=false:=by rw [hr];simp [hne]
  repeat (first|(with_reducible first|refine zQ ?_|refine zP ?_|refine zw ?_|refine zp ?_|refine Zm ?_)|((with_reducible refine yV ?_ ?_);rfl)|((with_reducible refine YF ?_ ?_);rfl)|((with_reducible refine kps 38 ?_ ?_ ?_ ?_);rotate_left 1;rfl;exact (by refine cmpP G _ _ ?_ ?_<;>assumption))|((with_reducible first|refine ks fun K hK=>?_|refine kd fun K hK=>?_|refine kc fun K hK2 hK hK3=>?_|refine ZC fun K hR=>?_|refine Zl rfl fun K hR=>?_|refine Zh fun K hR=>?_);simp (disch:=omega) only [bg0,bg1,bg2,bg3,bg4,zt,zS,eff,AX.ev,St.put,zO,zK,ap1,zi,simprocAttr,zu,AV.cells,AV.fine,AV.one,zY,zq,live,zo,rdA,zg,wrA,zI,zr,zW,zT,zV,zk,zb,zm,zj,ze,cut,id,ap2,zx,zy,geB,AOp.cls,AOp.xs,ltB,ltC,Option.toList,List.cons_append,decide_eq_true,decide_eq_false,if_pos,if_neg,List.length_map,zH,Zu,bVb,bVn,eq_self,Bool.and_self,BEq.rfl,not_true_eq_false,YD,YC,decide_true,decide_false,not_false_eq_true,hne,cB_self,XO hne];(first|(with_reducible first|(refine hK _ ?_;clear hK K)|(refine hK ?_;clear hK hK3 K hK2)|(refine hK3 ?_;clear hK hK3 K hK2))|((with_reducible refine hR _ ?_ ?_ ?_ ?_);rotate_left 2;rfl;rfl)|((with_reducible refine hR _ ?_);rfl))))
 subst hne
 by_cases hne:mp=mp'
 case neg =>
  obtain rfl:r=false:=by rw [hr];simp [hne]
  repeat (first|(with_reducible first|refine zQ ?_|refine zP ?_|refine zw ?_|refine zp ?_|refine Zm ?_)|((with_reducible refine yV ?_ ?_);rfl)|((with_reducible refine YF ?_ ?_);rfl)|((with_reducible refine kps 38 ?_ ?_ ?_ ?_);rotate_left 1;rfl;exact (by refine cmpP G _ _ ?_ ?_<;>assumption))|((with_reducible first|refine ks fun K hK=>?_|refine kd fun K hK=>?_|refine kc fun K hK2 hK hK3=>?_|refine ZC fun K hR=>?_|refine Zl rfl fun K hR=>?_|refine Zh fun K hR=>?_);simp (disch:=omega) only [bg0,bg1,bg2,bg3,bg4,zt,zS,eff,AX.ev,St.put,zO,zK,ap1,zi,simprocAttr,zu,AV.cells,AV.fine,AV.one,zY,zq,live,zo,rdA,zg,wrA,zI,zr,zW,zT,zV,zk,zb,zm,zj,ze,cut,id,ap2,zx,zy,geB,AOp.cls,AOp.xs,ltB,ltC,Option.toList,List.cons_append,decide_eq_true,decide_eq_false,if_pos,if_neg,List.length_map,zH,Zu,bVb,bVn,eq_self,Bool.and_self,BEq.rfl,not_true_eq_false,YD,YC,decide_true,decide_false,not_false_eq_true,hne,cB_self];(first|(with_reducible first|(refine hK _ ?_;clear hK K)|(refine hK ?_;clear hK hK3 K hK2)|(refine hK3 ?_;clear hK hK3 K hK2))|((with_reducible refine hR _ ?_ ?_ ?_ ?_);rotate_left 2;rfl;rfl)|((with_reducible refine hR _ ?_);rfl))))
 subst hne
 by_cases hne:kk=kk'
 case neg =>
  obtain rfl:r=false:=by rw [hr];simp [hne]
  repeat (first|(with_reducible first|refine zQ ?_|refine zP ?_|refine zw ?_|refine zp ?_|refine Zm ?_)|((with_reducible refine yV ?_ ?_);rfl)|((with_reducible refine YF ?_ ?_);rfl)|((with_reducible refine kps 38 ?_ ?_ ?_ ?_);rotate_left 1;rfl;exact (by refine cmpP G _ _ ?_ ?_<;>assumption))|((with_reducible refine kps 119 ?_ ?_ ?_ ?_);rotate_left 1;rfl;exact (by refine eq40 G _ _ ?_ ?_ _ rfl<;>assumption))|((with_reducible first|refine ks fun K hK=>?_|refine kd fun K hK=>?_|refine kc fun K hK2 hK hK3=>?_|refine ZC fun K hR=>?_|refine Zl rfl fun K hR=>?_|refine Zh fun K hR=>?_);simp (disch:=omega) only [bg0,bg1,bg2,bg3,bg4,zt,zS,eff,AX.ev,St.put,zO,zK,ap1,zi,simprocAttr,zu,AV.cells,AV.fine,AV.one,zY,zq,live,zo,rdA,zg,wrA,zI,zr,zW,zT,zV,zk,zb,zm,zj,ze,cut,id,ap2,zx,zy,geB,AOp.cls,AOp.xs,ltB,ltC,Option.toList,List.cons_append,decide_eq_true,decide_eq_false,if_pos,if_neg,List.length_map,zH,Zu,bVb,bVn,eq_self,Bool.and_self,BEq.rfl,not_true_eq_false,YD,YC,decide_true,decide_false,not_false_eq_true,hne,cB_self];(first|(with_reducible first|(refine hK _ ?_;clear hK K)|(refine hK ?_;clear hK hK3 K hK2)|(refine hK3 ?_;clear hK hK3 K hK2))|((with_reducible refine hR _ ?_ ?_ ?_ ?_);rotate_left 2;rfl;rfl)|((with_reducible refine hR _ ?_);rfl))))
 subst hne
 by_cases hne:mn=mn'
 case neg =>
  obtain rfl:r=false:=by rw [hr];simp [hne]
  repeat (first|(with_reducible first|refine zQ ?_|refine zP ?_|refine zw ?_|refine zp ?_|refine Zm ?_)|((with_reducible refine yV ?_ ?_);rfl)|((with_reducible refine YF ?_ ?_);rfl)|((with_reducible refine kps 38 ?_ ?_ ?_ ?_);rotate_left 1;rfl;exact (by refine cmpP G _ _ ?_ ?_<;>assumption))|((with_reducible refine kps 119 ?_ ?_ ?_ ?_);rotate_left 1;rfl;exact (by refine eq40 G _ _ ?_ ?_ _ rfl<;>assumption))|((with_reducible first|refine ks fun K hK=>?_|refine kd fun K hK=>?_|refine kc fun K hK2 hK hK3=>?_|refine ZC fun K hR=>?_|refine Zl rfl fun K hR=>?_|refine Zh fun K hR=>?_);simp (disch:=omega) only [bg0,bg1,bg2,bg3,bg4,zt,zS,eff,AX.ev,St.put,zO,zK,ap1,zi,simprocAttr,zu,AV.cells,AV.fine,AV.one,zY,zq,live,zo,rdA,zg,wrA,zI,zr,zW,zT,zV,zk,zb,zm,zj,ze,cut,id,ap2,zx,zy,geB,AOp.cls,AOp.xs,ltB,ltC,Option.toList,List.cons_append,decide_eq_true,decide_eq_false,if_pos,if_neg,List.length_map,zH,Zu,bVb,bVn,eq_self,Bool.and_self,BEq.rfl,not_true_eq_false,YD,YC,decide_true,decide_false,not_false_eq_true,hne,cB_self];(first|(with_reducible first|(refine hK _ ?_;clear hK K)|(refine hK ?_;clear hK hK3 K hK2)|(refine hK3 ?_;clear hK hK3 K hK2))|((with_reducible refine hR _ ?_ ?_ ?_ ?_);rotate_left 2;rfl;rfl)|((with_reducible refine hR _ ?_);rfl))))
 subst hne
 by_cases hne:ls=ls'
 case neg =>
  obtain rfl:r=false:=by rw [hr];simp [hne]
  repeat (first|(with_reducible first|refine zQ ?_|refine zP ?_|refine zw ?_|refine zp ?_|refine Zm ?_)|((with_reducible refine yV ?_ ?_);rfl)|((with_reducible refine YF ?_ ?_);rfl)|((with_reducible refine kps 38 ?_ ?_ ?_ ?_);rotate_left 1;rfl;exact (by refine cmpP G _ _ ?_ ?_<;>assumption))|((with_reducible refine kps 119 ?_ ?_ ?_ ?_);rotate_left 1;rfl;exact (by refine eq40 G _ _ ?_ ?_ _ rfl<;>assumption))|((with_reducible refine kps 120 ?_ ?_ ?_ ?_);rotate_left 1;rfl;exact (by refine eq41 G _ _ ?_ ?_ _ rfl<;>assumption))|((with_reducible first|refine ks fun K hK=>?_|refine kd fun K hK=>?_|refine kc fun K hK2 hK hK3=>?_|refine ZC fun K hR=>?_|refine Zl rfl fun K hR=>?_|refine Zh fun K hR=>?_);simp (disch:=omega) only [bg0,bg1,bg2,bg3,bg4,zt,zS,eff,AX.ev,St.put,zO,zK,ap1,zi,simprocAttr,zu,AV.cells,AV.fine,AV.one,zY,zq,live,zo,rdA,zg,wrA,zI,zr,zW,zT,zV,zk,zb,zm,zj,ze,cut,id,ap2,zx,zy,geB,AOp.cls,AOp.xs,ltB,ltC,Option.toList,List.cons_append,decide_eq_true,decide_eq_false,if_pos,if_neg,List.length_map,zH,Zu,bVb,bVn,eq_self,Bool.and_self,BEq.rfl,not_true_eq_false,YD,YC,decide_true,decide_false,not_false_eq_true,hne,cB_self];(first|(with_reducible first|(refine hK _ ?_;clear hK K)|(refine hK ?_;clear hK hK3 K hK2)|(refine hK3 ?_;clear hK hK3 K hK2))|((with_reducible refine hR _ ?_ ?_ ?_ ?_);rotate_left 2;rfl;rfl)|((with_reducible refine hR _ ?_);rfl))))
 subst hne
 by_cases hne:sz=sz'
 case neg =>
  obtain rfl:r=false:=by rw [hr];simp [hne]
  repeat (first|(with_reducible first|refine zQ ?_|refine zP ?_|refine zw ?_|refine zp ?_|refine Zm ?_)|((with_reducible refine yV ?_ ?_);rfl)|((with_reducible refine YF ?_ ?_);rfl)|((with_reducible refine kps 38 ?_ ?_ ?_ ?_);rotate_left 1;rfl;exact (by refine cmpP G _ _ ?_ ?_<;>assumption))|((with_reducible refine kps 119 ?_ ?_ ?_ ?_);rotate_left 1;rfl;exact (by refine eq40 G _ _ ?_ ?_ _ rfl<;>assumption))|((with_reducible refine kps 120 ?_ ?_ ?_ ?_);rotate_left 1;rfl;exact (by refine eq41 G _ _ ?_ ?_ _ rfl<;>assumption))|((with_reducible first|refine ks fun K hK=>?_|refine kd fun K hK=>?_|refine kc fun K hK2 hK hK3=>?_|refine ZC fun K hR=>?_|refine Zl rfl fun K hR=>?_|refine Zh fun K hR=>?_);simp (disch:=omega) only [bg0,bg1,bg2,bg3,bg4,zt,zS,eff,AX.ev,St.put,zO,zK,ap1,zi,simprocAttr,zu,AV.cells,AV.fine,AV.one,zY,zq,live,zo,rdA,zg,wrA,zI,zr,zW,zT,zV,zk,zb,zm,zj,ze,cut,id,ap2,zx,zy,geB,AOp.cls,AOp.xs,ltB,ltC,Option.toList,List.cons_append,decide_eq_true,decide_eq_false,if_pos,if_neg,List.length_map,zH,Zu,bVb,bVn,eq_self,Bool.and_self,BEq.rfl,not_true_eq_false,YD,YC,decide_true,decide_false,not_false_eq_true,hne,cB_self];(first|(with_reducible first|(refine hK _ ?_;clear hK K)|(refine hK ?_;clear hK hK3 K hK2)|(refine hK3 ?_;clear hK hK3 K hK2))|((with_reducible refine hR _ ?_ ?_ ?_ ?_);rotate_left 2;rfl;rfl)|((with_reducible refine hR _ ?_);rfl))))
 subst hne
 by_cases hne:bi=bi'
 case neg =>
  obtain rfl:r=false:=by rw [hr];simp [hne]
  repeat (first|(with_reducible first|refine zQ ?_|refine zP ?_|refine zw ?_|refine zp ?_|refine Zm ?_)|((with_reducible refine yV ?_ ?_);rfl)|((with_reducible refine kps 38 ?_ ?_ ?_ ?_);rotate_left 1;rfl;exact (by refine cmpP G _ _ ?_ ?_<;>assumption))|((with_reducible refine kps 119 ?_ ?_ ?_ ?_);rotate_left 1;rfl;exact (by refine eq40 G _ _ ?_ ?_ _ rfl<;>assumption))|((with_reducible refine kps 120 ?_ ?_ ?_ ?_);rotate_left 1;rfl;exact (by refine eq41 G _ _ ?_ ?_ _ rfl<;>assumption))|((with_reducible first|refine ks fun K hK=>?_|refine kd fun K hK=>?_|refine kc fun K hK2 hK hK3=>?_|refine ZC fun K hR=>?_|refine Zl rfl fun K hR=>?_|refine Zh fun K hR=>?_);simp (disch:=omega) only [bg0,bg1,bg2,bg3,bg4,zt,zS,eff,AX.ev,St.put,zO,zK,ap1,zi,simprocAttr,zu,AV.cells,AV.fine,AV.one,zY,zq,live,zo,rdA,zg,wrA,zI,zr,zW,zT,zV,zk,zb,zm,zj,ze,cut,id,ap2,zx,zy,geB,AOp.cls,AOp.xs,ltB,ltC,Option.toList,List.cons_append,decide_eq_true,decide_eq_false,if_pos,if_neg,List.length_map,zH,Zu,bVb,bVn,eq_self,Bool.and_self,BEq.rfl,not_true_eq_false,YD,YC,decide_true,decide_false,not_false_eq_true,hne,cB_self];(first|(with_reducible first|(refine hK _ ?_;clear hK K)|(refine hK ?_;clear hK hK3 K hK2)|(refine hK3 ?_;clear hK hK3 K hK2))|((with_reducible refine hR _ ?_ ?_ ?_ ?_);rotate_left 2;rfl;rfl)|((with_reducible refine hR _ ?_);rfl))))
 subst hne
 obtain rfl:r=true:=by rw [hr];simp
 repeat (first|(with_reducible first|refine zQ ?_|refine zP ?_|refine zw ?_|refine zp ?_|refine Zm ?_)|((with_reducible refine yV ?_ ?_);rfl)|((with_reducible refine kps 38 ?_ ?_ ?_ ?_);rotate_left 1;rfl;exact (by refine cmpP G _ _ ?_ ?_<;>assumption))|((with_reducible refine kps 119 ?_ ?_ ?_ ?_);rotate_left 1;rfl;exact (by refine eq40 G _ _ ?_ ?_ _ rfl<;>assumption))|((with_reducible refine kps 120 ?_ ?_ ?_ ?_);rotate_left 1;rfl;exact (by refine eq41 G _ _ ?_ ?_ _ rfl<;>assumption))|((with_reducible first|refine ks fun K hK=>?_|refine kd fun K hK=>?_|refine kc fun K hK2 hK hK3=>?_|refine ZC fun K hR=>?_|refine Zl rfl fun K hR=>?_|refine Zh fun K hR=>?_);simp (disch:=omega) only [bg0,bg1,bg2,bg3,bg4,zt,zS,eff,AX.ev,St.put,zO,zK,ap1,zi,simprocAttr,zu,AV.cells,AV.fine,AV.one,zY,zq,live,zo,rdA,zg,wrA,zI,zr,zW,zT,zV,zk,zb,zm,zj,ze,cut,id,ap2,zx,zy,geB,AOp.cls,AOp.xs,ltB,ltC,Option.toList,List.cons_append,decide_eq_true,decide_eq_false,if_pos,if_neg,List.length_map,zH,Zu,bVb,bVn,eq_self,Bool.and_self,BEq.rfl,not_true_eq_false,YD,YC,decide_true,decide_false,not_false_eq_true,cB_self];(first|(with_reducible first|(refine hK _ ?_;clear hK K)|(refine hK ?_;clear hK hK3 K hK2)|(refine hK3 ?_;clear hK hK3 K hK2))|((with_reducible refine hR _ ?_ ?_ ?_ ?_);rotate_left 2;rfl;rfl)|((with_reducible refine hR _ ?_);rfl))))
def lg (p:Pr):Bool:=decide (16 < p.1.size) || decide (16 < p.2.size)
theorem isl29 (G:Nat->AV) (a b:ByteArray):PC Tryz.prog G 105 [.agg [S a,S b]] (Bo (lg (a,b))):=by
 refine zA cop105 ?_
 repeat' ((conv=>whnf);first|(refine SeqP.go ?_)|((refine ObD.mk ?_ ?_);exact zD)|((refine ObN.mk ?_ ?_);exact zN)|(with_reducible first|refine ObT.tt ?_|refine ObT.ff ?_|refine ObB.mk (fun h=>?_) (fun h=>?_))|((with_reducible refine (?_:ObL _ _));(refine ObL.mk _ zL ?_))|((with_reducible refine (?_:ObR _ _ _));(first|(refine ObR.mk _ zG ?_)|(refine ObR.map zX (fun x hx=>?_))|(refine ObR.mk _ rfl ?_)))|((refine ObEq.mk ?_);(exact zq20)))
theorem Xi {n:Nat} (p:Nat->Bool):(∀ k,k < n->p k=false)\/∃ i,i < n/\p i=true/\∀ k,k < i->p k=false:=by
 induction n with
 | zero=>left;intro k hk;omega
 | succ n ih =>
  rcases ih with h|⟨i,h1,h2,h3⟩
  ·cases hp:p n with
   | false=>left;intro k hk;by_cases e:k=n;subst e;exact hp;exact h k (by omega)
   | true=>right;exact ⟨n,by omega,hp,h⟩
  ·right;exact ⟨i,by omega,h2,h3⟩
abbrev cL:AV:=.v (.func (.func 105) #[] #[])
theorem isl29h (G:Nat->AV) (H:Hp) (a b:ByteArray):HC Tryz.prog G 105 [.agg [S a,S b]] H (Bo (lg (a,b))) H:=hc_pc rfl (isl29 G a b) H
theorem any30 (G:Nat->AV) (l:List Pr) (hl:l.length<=9223372036854775807) (H:Hp):HC Tryz.prog G 106 [.sl 2 (l.map pA),cL] H (Bo (l.any lg)) H:=by
 rcases Xi (n:=l.length) (fun k=>match l[k]? with|some p=>lg p|none=>false) with h|⟨i0,h1,h2,h3⟩
 ·have hx : HC Tryz.prog G 111 [.sl 2 (l.map pA), cL] H (I (-1)) H := by
   refine Zq cop111 rfl ?_
   repeat' ((conv=>whnf);first|(refine SeqP.go ?_)|((with_reducible refine (?_:ObL _ _));(refine ObL.mk _ zL ?_)))
   conv=>whnf
   refine LoopP.go (α:=Nat) (fun i=>i<=l.length) (fun i=>l.length - i) (fun i=>[(4,none),(0,none),(2,some (I i)),(0,none),(0,none),(0,none),(0,none),(0,none),(0,none),(0,none),(0,none),(0,none),(0,none)]) (fun _=>H) 0 (Nat.zero_le _) (Fg.go ?_ rfl) ?_
   ·repeat' ((conv=>whnf);first|((refine ObEqs.mk ?_ ?_);rfl)|((with_reducible refine ObEq1.i ?_ ?_);exact zF)|exact True.intro)
   intro i hi
   have hlt:i < l.length\/i=l.length:=by omega
   rcases hlt with hlt|rfl
   ·have hq : (l.map pA)[i]? = some (.agg [S l[i].1, S l[i].2]) := zH hlt
    have hf:lg (l[i].1,l[i].2)=false:=by have:=h i hlt;simpa [List.getElem?_eq_getElem hlt] using this
    have hc:=isl29h G H l[i].1 l[i].2
    rw [hf] at hc
    repeat' ((conv=>whnf);first|(refine SeqP.go ?_)|((refine ObD.mk ?_ ?_);exact zD)|((refine ObN.mk ?_ ?_);(exact zq17))|(with_reducible first|refine ObT.tt ?_|refine ObT.ff ?_)|((refine ObB.yes ?_ ?_);exact zB)|((with_reducible refine ObI.nl ?_ ?_);omega)|((refine ObX.mk _ rfl ?_ ?_);exact zX)|((with_reducible refine (?_:ObU _ _));(refine ObU.mk _ zU ?_))|((with_reducible refine (?_:ObR _ _ _));(first|(refine ObR.mk _ zG ?_)|(refine ObR.map zX (fun x hx=>?_))|(refine ObR.mk _ rfl ?_)))|((refine ObH.f 105 ?_);(first|(with_reducible refine ObH.mk _ _ (hc) ?_)|(refine ObH.mk _ _ (hc) ?_))))
    conv=>whnf
    refine Again.mk (i+1) ?_ ?_ (Fg.go ?_ rfl)
    ·omega
    ·omega
    repeat' ((conv=>whnf);first|((refine ObEqs.mk ?_ ?_);rfl)|((with_reducible refine ObEq1.i ?_ ?_);exact zF)|exact True.intro)
   repeat' ((conv=>whnf);first|(refine SeqP.go ?_)|((refine ObN.mk ?_ ?_);exact zN)|(refine ObT.ff ?_)|((refine ObB.no ?_ ?_);exact zC)|(exact ObEnd.eq rfl rfl))
  have ha:l.any lg=false:=by
   rw [List.any_eq_false]
   intro p hp
   obtain ⟨k,hk,rfl⟩:=List.getElem_of_mem hp
   have:=h k hk
   simpa [List.getElem?_eq_getElem hk] using this
  rw [ha]
  refine Zq cop106 rfl ?_
  repeat' ((conv=>whnf);first|(refine SeqP.go ?_)|((refine ObN.mk ?_ ?_);exact zN)|((refine ObB.no ?_ ?_);exact zC)|((refine ObH.f 111 ?_);(first|(with_reducible refine ObH.mk _ _ (hx) ?_)|(refine ObH.mk _ _ (hx) ?_)))|(exact ObEnd.eq rfl rfl))
 ·have hx : HC Tryz.prog G 111 [.sl 2 (l.map pA), cL] H (I i0) H := by
   refine Zq cop111 rfl ?_
   repeat' ((conv=>whnf);first|(refine SeqP.go ?_)|((with_reducible refine (?_:ObL _ _));(refine ObL.mk _ zL ?_)))
   conv=>whnf
   refine LoopP.go (α:=Nat) (fun i=>i<=i0) (fun i=>l.length - i) (fun i=>[(4,none),(0,none),(2,some (I i)),(0,none),(0,none),(0,none),(0,none),(0,none),(0,none),(0,none),(0,none),(0,none),(0,none)]) (fun _=>H) 0 (Nat.zero_le _) (Fg.go ?_ rfl) ?_
   ·repeat' ((conv=>whnf);first|((refine ObEqs.mk ?_ ?_);rfl)|((with_reducible refine ObEq1.i ?_ ?_);exact zF)|exact True.intro)
   intro i hi
   have hlt:i < l.length:=by omega
   have hq:(l.map pA)[i]? = some (.agg [S l[i].1,S l[i].2]):=zH hlt
   have hc:=isl29h G H l[i].1 l[i].2
   by_cases he:i=i0
   ·subst he
    have hf:lg (l[i].1,l[i].2)=true:=by simpa [List.getElem?_eq_getElem hlt] using h2
    rw [hf] at hc
    repeat' ((conv=>whnf);first|(refine SeqP.go ?_)|((refine ObD.mk ?_ ?_);exact zD)|((refine ObN.mk ?_ ?_);(exact zq17))|(refine ObT.tt ?_)|((refine ObB.yes ?_ ?_);exact zB)|((refine ObX.mk _ rfl ?_ ?_);exact zX)|((with_reducible refine (?_:ObU _ _));(refine ObU.mk _ zU ?_))|((with_reducible refine (?_:ObR _ _ _));(first|(refine ObR.mk _ zG ?_)|(refine ObR.map zX (fun x hx=>?_))|(refine ObR.mk _ rfl ?_)))|((refine ObH.f 105 ?_);(first|(with_reducible refine ObH.mk _ _ (hc) ?_)|(refine ObH.mk _ _ (hc) ?_)))|(exact ObEnd.eq rfl rfl))
   ·have hf : lg (l[i].1, l[i].2) = false := by have := h3 i (by omega); simpa [List.getElem?_eq_getElem hlt] using this
    rw [hf] at hc
    repeat' ((conv=>whnf);first|(refine SeqP.go ?_)|((refine ObD.mk ?_ ?_);exact zD)|((refine ObN.mk ?_ ?_);(exact zq17))|(with_reducible first|refine ObT.tt ?_|refine ObT.ff ?_)|((refine ObB.yes ?_ ?_);exact zB)|((with_reducible refine ObI.nl ?_ ?_);omega)|((refine ObX.mk _ rfl ?_ ?_);exact zX)|((with_reducible refine (?_:ObU _ _));(refine ObU.mk _ zU ?_))|((with_reducible refine (?_:ObR _ _ _));(first|(refine ObR.mk _ zG ?_)|(refine ObR.map zX (fun x hx=>?_))|(refine ObR.mk _ rfl ?_)))|((refine ObH.f 105 ?_);(first|(with_reducible refine ObH.mk _ _ (hc) ?_)|(refine ObH.mk _ _ (hc) ?_))))
    conv=>whnf
    refine Again.mk (i+1) ?_ ?_ (Fg.go ?_ rfl)
    ·omega
    ·omega
    repeat' ((conv=>whnf);first|((refine ObEqs.mk ?_ ?_);rfl)|((with_reducible refine ObEq1.i ?_ ?_);exact zF)|exact True.intro)
  have ha:l.any lg=true:=by
   rw [List.any_eq_true]
   exact ⟨l[i0],List.getElem_mem h1,by simpa [List.getElem?_eq_getElem h1] using h2⟩
  rw [ha]
  refine Zq cop106 rfl ?_
  repeat' ((conv=>whnf);first|(refine SeqP.go ?_)|((refine ObN.mk ?_ ?_);exact zN)|((refine ObB.yes ?_ ?_);exact zB)|((refine ObH.f 111 ?_);(first|(with_reducible refine ObH.mk _ _ (hx) ?_)|(refine ObH.mk _ _ (hx) ?_)))|(exact ObEnd.eq rfl rfl))
theorem tk_any {l:List Pr} {i:Nat} (h:i < l.length):(l.take (i+1)).any lg=((l.take i).any lg || lg l[i]):=by
 rw [List.take_succ_eq_append_getElem h,List.any_append];simp
theorem long32 (G:Nat->AV) (kn:Int) (ke va:ByteArray) (mp:Int) (kk:List Int) (mn:Int) (ls:List Pr) (sz bi:Int) (hl:ls.length<=9223372036854775807):PC Tryz.prog G 94 [nV kn ke va mp kk mn ls sz bi] (Bo (lg (ke,va) || ls.any lg)):=by
 refine zA cop94 ?_
 repeat' ((conv=>whnf);first|(refine SeqP.go ?_)|((refine ObD.mk ?_ ?_);exact zD)|((refine ObN.mk ?_ ?_);exact zN)|(with_reducible first|refine ObT.tt ?_|refine ObT.ff ?_|refine ObB.mk (fun h=>?_) (fun h=>?_))|((with_reducible refine (?_:ObL _ _));(refine ObL.mk _ zL ?_))|((with_reducible refine (?_:ObR _ _ _));(first|(refine ObR.mk _ zG ?_)|(refine ObR.map zX (fun x hx=>?_))|(refine ObR.mk _ rfl ?_))))
 all_goals
  conv=>whnf
  refine LoopP.go (α:=Nat × Bool) (fun p=>p.1<=ls.length/\p.2=(lg (ke,va) || (ls.take p.1).any lg)) (fun p=>ls.length - p.1) (fun p=>[(3,some (Bo p.2)),(0,some (I p.1)),(10,none),(0,none),(0,none),(0,none),(0,none),(0,none),(0,none),(0,none),(0,none),(0,none),(0,none),(0,none),(0,none),(0,none),(0,none),(0,none),(0,none),(0,none),(0,none),(0,none),(0,none),(0,none),(0,none),(0,none),(0,none),(0,none),(0,none),(0,none)]) (fun _=>[⟨57,9,[nV kn ke va mp kk mn ls sz bi],0,0⟩]) (0,lg (ke,va)) ⟨Nat.zero_le _,by simp⟩ (Fg.go ?_ rfl) ?_
  ·repeat' ((conv=>whnf);first|((refine ObEqs.mk ?_ ?_);rfl)|((with_reducible refine ObEq1.i ?_ ?_);exact zF)|((with_reducible refine ObEq1.mk ?_ ?_);(exact zq20))|exact True.intro)
  rintro ⟨i,b⟩ ⟨h1,h2⟩
  dsimp only at h1 h2 ⊢
  have hlt:i < ls.length\/i=ls.length:=by omega
  rcases hlt with hlt|rfl
  ·have hq : (ls.map pA)[i]? = some (.agg [S ls[i].1, S ls[i].2]) := zH hlt
   cases b with
   | true =>
    repeat' ((conv=>whnf);first|(refine SeqP.go ?_)|((refine ObN.mk ?_ ?_);exact zN)|(refine ObT.tt ?_)|((refine ObB.yes ?_ ?_);exact zB)|((with_reducible refine ObI.nl ?_ ?_);omega)|((with_reducible refine (?_:ObL _ _));(refine ObL.mk _ zL ?_))|((with_reducible refine (?_:ObR _ _ _));(first|(refine ObR.mk _ zG ?_)|(refine ObR.map zX (fun x hx=>?_))|(refine ObR.mk _ rfl ?_))))
    conv=>whnf
    refine Again.mk (i+1,true) ?_ ?_ (Fg.go ?_ rfl)
    ·exact ⟨hlt,by rw [tk_any hlt,<- Bool.or_assoc,<- h2];simp⟩
    ·dsimp only;omega
    repeat' ((conv=>whnf);first|((refine ObEqs.mk ?_ ?_);rfl)|((with_reducible refine ObEq1.i ?_ ?_);exact zF)|((with_reducible refine ObEq1.mk ?_ ?_);exact zE)|exact True.intro)
   | false =>
    repeat' ((conv=>whnf);first|(refine SeqP.go ?_)|((refine ObN.mk ?_ ?_);exact zN)|(with_reducible first|refine ObT.tt ?_|refine ObT.ff ?_)|((refine ObB.yes ?_ ?_);exact zB)|(with_reducible refine ObB.mk (fun h=>?_) (fun h=>?_))|((with_reducible refine ObI.nl ?_ ?_);omega)|((refine ObX.mk _ rfl ?_ ?_);exact zX)|((with_reducible refine (?_:ObL _ _));(refine ObL.mk _ zL ?_))|((with_reducible refine (?_:ObR _ _ _));(first|(refine ObR.mk _ zG ?_)|(refine ObR.map zX (fun x hx=>?_))|(refine ObR.mk _ rfl ?_))))
    all_goals
     conv=>whnf
     refine Again.mk (i+1,lg ls[i]) ?_ ?_ (Fg.go ?_ rfl)
     ·exact ⟨hlt,by dsimp only;rw [tk_any hlt,<- Bool.or_assoc,<- h2];simp⟩
     ·dsimp only;omega
     repeat' ((conv=>whnf);first|((refine ObEqs.mk ?_ ?_);rfl)|((with_reducible refine ObEq1.i ?_ ?_);exact zF)|((with_reducible refine ObEq1.mk ?_ ?_);(exact zq20))|exact True.intro)
  ·rw [List.take_length] at h2
   subst h2
   repeat' ((conv=>whnf);first|(refine SeqP.go ?_)|((refine ObN.mk ?_ ?_);exact zN)|(refine ObT.ff ?_)|((refine ObB.no ?_ ?_);exact zC)|((with_reducible refine (?_:ObL _ _));(refine ObL.mk _ zL ?_))|((with_reducible refine (?_:ObR _ _ _));(first|(refine ObR.mk _ zG ?_)|(refine ObR.map zX (fun x hx=>?_))|(refine ObR.mk _ rfl ?_)))|((refine ObEq.mk ?_);exact zE))
theorem has54 (G:Nat->AV) (l:List Int) (hl:l.length<=9223372036854775807) (v:Int):PC Tryz.prog G 113 [.sl 1 (l.map iA),I v] (Bo (decide (v ∈ l))):=by
 rcases Xi (n:=l.length) (fun k=>decide (l[k]? = some v)) with h|⟨i0,h1,h2,h3⟩
 ·have hx : PC Tryz.prog G 117 [.sl 1 (l.map iA), I v] (I (-1)) := by
   refine zA cop117 ?_
   repeat' ((conv=>whnf);first|(refine SeqP.go ?_)|((with_reducible refine (?_:ObL _ _));(refine ObL.mk _ zL ?_)))
   conv=>whnf
   refine LoopP.go (α:=Nat) (fun i=>i<=l.length) (fun i=>l.length - i) (fun i=>[(4,none),(0,none),(2,some (I i)),(0,none),(0,none),(0,none),(0,none),(0,none),(0,none),(0,none),(0,none),(0,none),(0,none)]) (fun _=>[]) 0 (Nat.zero_le _) (Fg.go ?_ rfl) ?_
   ·repeat' ((conv=>whnf);first|((refine ObEqs.mk ?_ ?_);rfl)|((with_reducible refine ObEq1.i ?_ ?_);exact zF)|exact True.intro)
   intro i hi
   have hlt:i < l.length\/i=l.length:=by omega
   rcases hlt with hlt|rfl
   ·have hq : (l.map iA)[i]? = some (I l[i]) := Zu hlt
    have hf:¬ v=l[i]:=fun e=>by have:=h i hlt;simp [List.getElem?_eq_getElem hlt,e] at this
    repeat' ((conv=>whnf);first|(refine SeqP.go ?_)|((refine ObN.mk ?_ ?_);exact zN)|(with_reducible first|refine ObT.tt ?_|refine ObT.ff ?_)|((refine ObB.yes ?_ ?_);exact zB)|((refine ObB.no ?_ ?_);exact zC)|((with_reducible refine ObI.nl ?_ ?_);omega)|((refine ObX.mk _ rfl ?_ ?_);exact zX)|((with_reducible refine (?_:ObR _ _ _));(first|(refine ObR.mk _ zG ?_)|(refine ObR.map zX (fun x hx=>?_))|(refine ObR.mk _ rfl ?_))))
    conv=>whnf
    refine Again.mk (i+1) ?_ ?_ (Fg.go ?_ rfl)
    ·omega
    ·omega
    repeat' ((conv=>whnf);first|((refine ObEqs.mk ?_ ?_);rfl)|((with_reducible refine ObEq1.i ?_ ?_);exact zF)|exact True.intro)
   repeat' ((conv=>whnf);first|(refine SeqP.go ?_)|((refine ObN.mk ?_ ?_);exact zN)|(refine ObT.ff ?_)|((refine ObB.no ?_ ?_);exact zC)|((with_reducible refine ObEq.i ?_);exact zF))
  have ha:¬ v ∈ l:=fun hm=>by
   obtain ⟨k,hk,e⟩:=List.getElem_of_mem hm
   have:=h k hk
   simp [List.getElem?_eq_getElem hk,e] at this
  rw [decide_eq_false ha]
  refine zA cop113 ?_
  repeat' ((conv=>whnf);first|(refine SeqP.go ?_)|((refine ObN.mk ?_ ?_);exact zN)|((refine ObB.no ?_ ?_);exact zC)|((refine ObC.f 117 ?_);(refine ObC.mk _ (hx) ?_))|((refine ObEq.mk ?_);exact zE))
 ·have hx : PC Tryz.prog G 117 [.sl 1 (l.map iA), I v] (I i0) := by
   refine zA cop117 ?_
   repeat' ((conv=>whnf);first|(refine SeqP.go ?_)|((with_reducible refine (?_:ObL _ _));(refine ObL.mk _ zL ?_)))
   conv=>whnf
   refine LoopP.go (α:=Nat) (fun i=>i<=i0) (fun i=>l.length - i) (fun i=>[(4,none),(0,none),(2,some (I i)),(0,none),(0,none),(0,none),(0,none),(0,none),(0,none),(0,none),(0,none),(0,none),(0,none)]) (fun _=>[]) 0 (Nat.zero_le _) (Fg.go ?_ rfl) ?_
   ·repeat' ((conv=>whnf);first|((refine ObEqs.mk ?_ ?_);rfl)|((with_reducible refine ObEq1.i ?_ ?_);exact zF)|exact True.intro)
   intro i hi
   have hlt:i < l.length:=by omega
   have hq:(l.map iA)[i]? = some (I l[i]):=Zu hlt
   by_cases he:i=i0
   ·subst he
    have hf:v=l[i]:=by have:=of_decide_eq_true h2;rw [List.getElem?_eq_getElem hlt] at this;exact (Option.some.inj this).symm
    repeat' ((conv=>whnf);first|(refine SeqP.go ?_)|((refine ObN.mk ?_ ?_);exact zN)|(refine ObT.tt ?_)|((refine ObB.yes ?_ ?_);exact zB)|((refine ObX.mk _ rfl ?_ ?_);exact zX)|((with_reducible refine (?_:ObR _ _ _));(first|(refine ObR.mk _ zG ?_)|(refine ObR.map zX (fun x hx=>?_))|(refine ObR.mk _ rfl ?_)))|((with_reducible refine ObEq.i ?_);exact zF))
   ·have hf:¬ v=l[i]:=fun e=>by have:=h3 i (by omega);simp [List.getElem?_eq_getElem hlt,e] at this
    repeat' ((conv=>whnf);first|(refine SeqP.go ?_)|((refine ObN.mk ?_ ?_);exact zN)|(with_reducible first|refine ObT.tt ?_|refine ObT.ff ?_)|((refine ObB.yes ?_ ?_);exact zB)|((refine ObB.no ?_ ?_);exact zC)|((with_reducible refine ObI.nl ?_ ?_);omega)|((refine ObX.mk _ rfl ?_ ?_);exact zX)|((with_reducible refine (?_:ObR _ _ _));(first|(refine ObR.mk _ zG ?_)|(refine ObR.map zX (fun x hx=>?_))|(refine ObR.mk _ rfl ?_))))
    conv=>whnf
    refine Again.mk (i+1) ?_ ?_ (Fg.go ?_ rfl)
    ·omega
    ·omega
    repeat' ((conv=>whnf);first|((refine ObEqs.mk ?_ ?_);rfl)|((with_reducible refine ObEq1.i ?_ ?_);exact zF)|exact True.intro)
  have ha:v ∈ l:=by
   have:=of_decide_eq_true h2
   exact List.mem_of_getElem? this
  rw [decide_eq_true ha]
  refine zA cop113 ?_
  repeat' ((conv=>whnf);first|(refine SeqP.go ?_)|((refine ObN.mk ?_ ?_);exact zN)|((refine ObB.yes ?_ ?_);exact zB)|((refine ObC.f 117 ?_);(refine ObC.mk _ (hx) ?_))|((refine ObEq.mk ?_);exact zE))
abbrev tb8:ByteArray:=ByteArray.mk #[0,1,1,2,1,2,2,3,1,2,2,3,2,3,3,4,1,2,2,3,2,3,3,4,2,3,3,4,3,4,4,5,1,2,2,3,2,3,3,4,2,3,3,4,3,4,4,5,2,3,3,4,3,4,4,5,3,4,4,5,4,5,5,6,1,2,2,3,2,3,3,4,2,3,3,4,3,4,4,5,2,3,3,4,3,4,4,5,3,4,4,5,4,5,5,6,2,3,3,4,3,4,4,5,3,4,4,5,4,5,5,6,3,4,4,5,4,5,5,6,4,5,5,6,5,6,6,7,1,2,2,3,2,3,3,4,2,3,3,4,3,4,4,5,2,3,3,4,3,4,4,5,3,4,4,5,4,5,5,6,2,3,3,4,3,4,4,5,3,4,4,5,4,5,5,6,3,4,4,5,4,5,5,6,4,5,5,6,5,6,6,7,2,3,3,4,3,4,4,5,3,4,4,5,4,5,5,6,3,4,4,5,4,5,5,6,4,5,5,6,5,6,6,7,3,4,4,5,4,5,5,6,4,5,5,6,5,6,6,7,4,5,5,6,5,6,6,7,5,6,6,7,6,7,7,8]
theorem tb8_pc:∀ k:Fin 256,(tb8[k.1]'(show k.1 < 256 from k.2)).toNat=Mk.pc k.1:=by decide +kernel
theorem tb8_at (k:Nat) (h:k < tb8.size):((tb8[k]'h).toNat:Int)=(Mk.pc k:Nat):=by
 have:=tb8_pc ⟨k,h⟩
 simp only at this
 rw [this]
theorem obq8 {k:Int->Prop} {m:Nat} (h:m < 256) (hk:k ((Mk.pc m:Nat):Int)):ObQ tb8 (m:Int) k:=⟨m,rfl,h,by rw [tb8_at];exact hk⟩
section
variable {P:Program} {H:Hp} {k:KK} {t:TypeId} {xo yo:Operand} {n:Nat}
theorem eS24 (hk:k (.v (.int .u32 ((n / 16777216:Nat):Int))) H):ObE ((zO P H .shr t false xo yo (.v (.int .u32 (n:Int))) (.v (.int .u64 24))).map (·,H)) k:=by
 have e:ZS P .shr t xo yo (.int .u32 (n:Int)) (.int .u64 24)=some (.int .u32 ((n / 16777216:Nat):Int)):=by
  show some (Value.int .u32 ((n:Int).fdiv (2 ^ 24)))=_
  rw [Int.fdiv_eq_ediv_of_nonneg _ (by decide)];rfl
 exact ⟨_,_,by simp only [zO,zK,e,Bool.false_eq_true,if_false];rfl,hk⟩
theorem eS16 (hk:k (.v (.int .u32 ((n / 65536:Nat):Int))) H):ObE ((zO P H .shr t false xo yo (.v (.int .u32 (n:Int))) (.v (.int .u64 16))).map (·,H)) k:=by
 have e:ZS P .shr t xo yo (.int .u32 (n:Int)) (.int .u64 16)=some (.int .u32 ((n / 65536:Nat):Int)):=by
  show some (Value.int .u32 ((n:Int).fdiv (2 ^ 16)))=_
  rw [Int.fdiv_eq_ediv_of_nonneg _ (by decide)];rfl
 exact ⟨_,_,by simp only [zO,zK,e,Bool.false_eq_true,if_false];rfl,hk⟩
theorem eS8 (hk:k (.v (.int .u32 ((n / 256:Nat):Int))) H):ObE ((zO P H .shr t false xo yo (.v (.int .u32 (n:Int))) (.v (.int .u64 8))).map (·,H)) k:=by
 have e:ZS P .shr t xo yo (.int .u32 (n:Int)) (.int .u64 8)=some (.int .u32 ((n / 256:Nat):Int)):=by
  show some (Value.int .u32 ((n:Int).fdiv (2 ^ 8)))=_
  rw [Int.fdiv_eq_ediv_of_nonneg _ (by decide)];rfl
 exact ⟨_,_,by simp only [zO,zK,e,Bool.false_eq_true,if_false];rfl,hk⟩
theorem eAnd (hn:n < 4294967296) (hk:k (.v (.int .u32 ((n % 256:Nat):Int))) H):ObE ((zO P H .and t false xo yo (.v (.int .u32 (n:Int))) (.v (.int .u32 255))).map (·,H)) k:=by
 have e:ZS P .and t xo yo (.int .u32 (n:Int)) (.int .u32 255)=some (.int .u32 ((n % 256:Nat):Int)):=by
  show some (Value.int .u32 (bits .and .u32 (n:Int) 255))=_
  rw [show (255:Int)=((255:Nat):Int) from rfl,u32_and_nat _ _ (by omega) (by omega),show (255:Nat)=2 ^ 8 - 1 from rfl,Nat.and_two_pow_sub_one_eq_mod]
 exact ⟨_,_,by simp only [zO,zK,e,Bool.false_eq_true,if_false];rfl,hk⟩
theorem eRem2 (hk:k (.v (.int .u32 ((n % 2:Nat):Int))) H):ObE ((zO P H .rem t false xo yo (.v (.int .u32 (n:Int))) (.v (.int .u32 2))).map (·,H)) k:=by
 have e:ZS P .rem t xo yo (.int .u32 (n:Int)) (.int .u32 2)=some (.int .u32 ((n % 2:Nat):Int)):=by
  show zR P (do eqGuard .rem t xo yo (.int .u32 (n:Int)) (.int .u32 2);Op.intDiv .rem .u32 (n:Int) 2)=_
  unfold Op.intDiv
  rw [if_neg (by decide)]
  show some (Value.int .u32 ((n:Int).tmod 2))=_
  rw [Int.tmod_eq_emod_of_nonneg (by omega)];rfl
 exact ⟨_,_,by simp only [zO,zK,e,Bool.false_eq_true,if_false];rfl,hk⟩
theorem eQuo2 (hn:n < 4294967296) (hk:k (.v (.int .u32 ((n / 2:Nat):Int))) H):ObE ((zO P H .quo t false xo yo (.v (.int .u32 (n:Int))) (.v (.int .u32 2))).map (·,H)) k:=by
 have e:ZS P .quo t xo yo (.int .u32 (n:Int)) (.int .u32 2)=some (.int .u32 ((n / 2:Nat):Int)):=by
  show zR P (do eqGuard .quo t xo yo (.int .u32 (n:Int)) (.int .u32 2);Op.intDiv .quo .u32 (n:Int) 2)=_
  unfold Op.intDiv
  rw [if_neg (by decide)]
  show some (Value.int .u32 (IntKind.u32.wrap ((n:Int).tdiv 2)))=_
  rw [Int.tdiv_eq_ediv_of_nonneg (by omega)]
  have:IntKind.u32.wrap ((n:Int) / 2)=((n / 2:Nat):Int):=by rw [IntKind.wrap_u32];omega
  rw [this]
 exact ⟨_,_,by simp only [zO,zK,e,Bool.false_eq_true,if_false];rfl,hk⟩
end
theorem pop53 (G:Nat->AV) (m:Nat) (hm:m < 4294967296):PC Tryz.prog G 110 [.v (.int .u32 (m:Int))] (I ((Mk.all m).length:Nat)):=by
 have hp:=Mk.pop_all m
 have l0:=Mk.pc_le (m / 16777216 % 256)
 have l1:=Mk.pc_le (m / 65536 % 256)
 have l2:=Mk.pc_le (m / 256 % 256)
 have l3:=Mk.pc_le (m % 256)
 have hd:m / 16777216=m / 16777216 % 256:=by omega
 rw [<- hd] at hp l0
 have hs:tb8.size=256:=rfl
 have u5:(Tryz.prog).underlying 5=some (.int .u8):=by kernel_rfl
 have u3:(Tryz.prog).underlying 3=some (.int .i64):=by kernel_rfl
 refine zA cop110 ?_
 repeat' ((conv=>whnf);first|(with_reducible first|refine SeqP.go ?_|refine eS24 ?_|refine eS16 ?_|refine eS8 ?_)|((with_reducible refine eAnd ?_ ?_);omega)|((with_reducible refine (?_:ObE _ _));(refine ObE.cv u5 u3 ?_))|((with_reducible refine (?_:ObQ _ _ _));(refine obq8 ?_ ?_);omega)|((refine ObD.mk ?_ ?_);exact zD)|((refine ObN.mk ?_ ?_);(focus (first|exact xw|rfl|assumption|omega|(simp only [List.length_map,List.length_append,List.length_cons,List.length_nil];omega)|(simp;done)|(simp;omega))))|(with_reducible refine ObZ.mk _ rfl ?_)|((refine ObEq.mk ?_);(focus (first|rfl|assumption|exact (by rw [hp];congr 2;simp only [IntKind.wrap_u8,IntKind.wrap_i64];omega)))))
def sh (m k:Nat):Nat:=m / 2 ^ k
theorem sh_zero (m:Nat):m=sh m 0:=by simp [sh]
theorem sh_succ (m k:Nat):sh m k / 2=sh m (k+1):=by unfold sh;rw [Nat.div_div_eq_div_mul,Nat.pow_succ]
theorem sh_le (m k:Nat):sh m k<=m:=Nat.div_le_self _ _
theorem sh_bit (m k:Nat):m.testBit k=decide (sh m k % 2=1):=Mk.bit_div m k
theorem has55 (G:Nat->AV) (m i:Nat) (hm:m < 4294967296) (hi:i < 32):PC Tryz.prog G 96 [.v (.int .u32 (m:Int)),I i] (Bo (m.testBit i)):=by
 refine zA cop96 ?_
 repeat' ((conv=>whnf);first|(refine SeqP.go ?_))
 conv=>whnf
 refine LoopP.go (α:=Nat) (fun k=>k<=32/\(i < k->m.testBit i=false)) (fun k=>32 - k) (fun k=>[(0,some (.v (.int .u32 ((sh m k:Nat):Int)))),(3,none),(0,some (I k)),(0,none),(0,none),(0,none),(0,none),(0,none),(0,none),(0,none),(0,none),(0,none),(0,none),(0,none),(0,none),(0,none),(0,none)]) (fun _=>[]) 0 ⟨by omega,fun h=>by omega⟩ (Fg.go ?_ rfl) ?_
 ·have := sh_zero m
  repeat' ((conv=>whnf);first|((refine ObEqs.mk ?_ ?_);rfl)|((with_reducible refine ObEq1.i ?_ ?_);exact zF)|exact True.intro)
 rintro k ⟨h1,h2⟩
 have hs:=sh_succ m k
 have hle:=sh_le m k
 have hb:=sh_bit m i
 by_cases hk:k < 32
 ·by_cases hi2 : k = i
  ·subst hi2
   by_cases hbit:sh m k % 2=1
   ·have hr : m.testBit k = true := by rw [hb]; simp [hbit]
    rw [hr]
    repeat' ((conv=>whnf);first|(with_reducible first|refine SeqP.go ?_|refine eRem2 ?_)|((refine ObN.mk ?_ ?_);exact zN)|(refine ObT.tt ?_)|((refine ObB.yes ?_ ?_);exact zB)|((refine ObEq.mk ?_);exact zE))
   ·have hr : m.testBit k = false := by rw [hb]; simp [hbit]
    rw [hr]
    repeat' ((conv=>whnf);first|(with_reducible first|refine SeqP.go ?_|refine eRem2 ?_)|((with_reducible refine eQuo2 ?_ ?_);omega)|((refine ObN.mk ?_ ?_);exact zN)|(with_reducible first|refine ObT.tt ?_|refine ObT.ff ?_)|((refine ObB.yes ?_ ?_);exact zB)|((refine ObB.no ?_ ?_);exact zC)|((with_reducible refine ObI.nl ?_ ?_);omega))
    conv=>whnf
    refine Again.mk (k+1) ?_ ?_ (Fg.go ?_ rfl)
    ·exact ⟨by omega,fun _=>by first|rfl|exact hr⟩
    ·omega
    repeat' ((conv=>whnf);first|((refine ObEqs.mk ?_ ?_);rfl)|((with_reducible refine ObEq1.i ?_ ?_);exact zF)|exact True.intro)
  ·repeat' ((conv=>whnf);first|(with_reducible first|refine SeqP.go ?_|refine eRem2 ?_)|((with_reducible refine eQuo2 ?_ ?_);omega)|((refine ObN.mk ?_ ?_);exact zN)|(with_reducible first|refine ObT.tt ?_|refine ObT.ff ?_)|((refine ObB.yes ?_ ?_);exact zB)|((refine ObB.no ?_ ?_);exact zC)|(with_reducible refine ObB.mk (fun h=>?_) (fun h=>?_))|((with_reducible refine ObI.nl ?_ ?_);omega))
   all_goals
    conv=>whnf
    refine Again.mk (k+1) ?_ ?_ (Fg.go ?_ rfl)
    ·exact ⟨by omega,fun _=>h2 (by omega)⟩
    ·omega
    repeat' ((conv=>whnf);first|((refine ObEqs.mk ?_ ?_);rfl)|((with_reducible refine ObEq1.i ?_ ?_);exact zF)|exact True.intro)
 ·have hr := h2 (by omega)
  rw [hr]
  repeat' ((conv=>whnf);first|(refine SeqP.go ?_)|((refine ObN.mk ?_ ?_);exact zN)|(refine ObT.ff ?_)|((refine ObB.no ?_ ?_);exact zC)|((refine ObEq.mk ?_);exact zE))
theorem snoc_iA {l:List Int} {x:Int}:(l.map iA).take l.length++[.v (.int .i64 x)]=(l++[x]).map iA:=by
 rw [List.take_of_length_le (by simp)];simp [iA]
theorem nr_iA (l:List Int):(l.map iA).all nrB=true:=by simp [iA,nrB,AV.cells]
def upI (m i:Nat):List Int:=(Mk.upTo m i).map Int.ofNat
theorem XS (m i:Nat):(upI m i).length<=i:=by simp [upI,Mk.upTo_len]
theorem all46 (G:Nat->AV) (m:Nat) (hm:m < 4294967296):PC Tryz.prog G 85 [.v (.int .u32 (m:Int))] (.sl 1 ((upI m 32).map iA)):=by
 refine zA cop85 ?_
 repeat' ((conv=>whnf);first|(refine SeqP.go ?_)|((refine ObD.mk ?_ ?_);exact zD))
 conv=>whnf
 refine LoopP.go (α:=Nat × List Int) (fun p=>p.1<=32/\p.2=upI m p.1) (fun p=>32 - p.1) (fun p=>[(3,some (.ol 0 0 p.2.length)),(0,some (I p.1)),(0,none),(0,none),(0,none),(0,none),(0,none),(0,none),(0,none),(0,none),(0,none),(0,none),(0,none),(0,none)]) (fun p=>[⟨3,1,p.2.map iA,0,0⟩]) (0,[]) ⟨by decide,rfl⟩ (Fg.go ?_ rfl) ?_
 ·repeat' ((conv=>whnf);first|((refine ObEqs.mk ?_ ?_);rfl)|((with_reducible refine ObEq1.i ?_ ?_);exact zF)|((with_reducible refine ObEq1.mk ?_ ?_);exact zE)|exact True.intro)
 rintro ⟨i,l⟩ ⟨h1,h2⟩
 dsimp only at h1 h2 ⊢
 have hl:=XS m i
 rw [<- h2] at hl
 by_cases hi:i < 32
 ·have hc := has55 G m i hm hi
  have hs:upI m (i+1)=if m.testBit i then l++[(i:Int)] else l:=by
   rw [h2];unfold upI;rw [Mk.upTo_succ];split<;>simp
  cases hb:m.testBit i with
  | false =>
   rw [hb] at hc hs
   repeat' ((conv=>whnf);first|(refine SeqP.go ?_)|((refine ObN.mk ?_ ?_);exact zN)|(with_reducible first|refine ObT.tt ?_|refine ObT.ff ?_)|((refine ObB.yes ?_ ?_);exact zB)|((with_reducible refine ObI.nl ?_ ?_);omega)|((refine ObC.f 96 ?_);(refine ObC.mk _ (hc) ?_)))
   conv=>whnf
   refine Again.mk (i+1,l) ?_ ?_ (Fg.go ?_ rfl)
   ·exact ⟨by dsimp only;omega,by simpa using hs.symm⟩
   ·dsimp only;omega
   repeat' ((conv=>whnf);first|((refine ObEqs.mk ?_ ?_);rfl)|((with_reducible refine ObEq1.i ?_ ?_);exact zF)|((with_reducible refine ObEq1.o ?_ ?_);exact zF)|exact True.intro)
  | true =>
   rw [hb] at hc hs
   have hn:=nr_iA (l++[(i:Int)])
   repeat' ((conv=>whnf);first|(refine SeqP.go ?_)|((refine ObD.mk ?_ ?_);exact zD)|((refine ObN.mk ?_ ?_);exact zN)|(refine ObT.tt ?_)|((refine ObB.yes ?_ ?_);exact zB)|((with_reducible refine ObI.nl ?_ ?_);omega)|((with_reducible refine (?_:ObL _ _));(refine ObL.mk _ zL ?_))|((with_reducible refine (?_:ObU _ _));(refine ObU.mk _ (by first|exact snoc_iA|assumption|((conv=>lhs;simp only [List.set_cons_zero,List.set_cons_succ,List.take_succ_cons,List.take_zero,List.drop_succ_cons,List.drop_zero,List.nil_append,List.cons_append,List.append_nil,List.take_nil,List.drop_nil]);try rfl)|rfl) ?_))|((refine ObC.f 96 ?_);(refine ObC.mk _ (hc) ?_)))
   conv=>whnf
   refine Again.mk (i+1,l++[(i:Int)]) ?_ ?_ (Fg.vw [(0,0,1)] ?_ ?_ (by decide) ?_)
   ·exact ⟨by dsimp only;omega,by simpa using hs.symm⟩
   ·dsimp only;omega
   ·repeat' ((conv=>whnf);first|((with_reducible refine ObRn.mk ?_ ?_);(focus (first|rfl|(simp [rnB,rnC,rnL];done))))|((refine ObEqs.mk ?_ ?_);rfl)|exact True.intro)
   ·repeat' ((conv=>whnf);first|((refine ObN.mk ?_ ?_);exact zN)|((with_reducible refine ObRow.same ?_ ?_ ?_);exact zE;(focus (first|rfl|assumption|(simp;done))))|exact True.intro)
   ·trivial
 ·obtain rfl : i = 32 := by omega
  rw [<- h2]
  repeat' ((conv=>whnf);first|(refine SeqP.go ?_)|((refine ObN.mk ?_ ?_);(focus (first|exact (by first|exact wQ _|(rw [xG];exact wQ _))|rfl|assumption|omega|(simp only [List.length_map,List.length_append,List.length_cons,List.length_nil];omega)|(simp;done)|(simp;omega))))|(refine ObT.ff ?_)|((refine ObB.no ?_ ?_);exact zC)|((with_reducible refine (?_:ObU _ _));(refine ObU.mk _ (by first|exact xG|assumption|((conv=>lhs;simp only [List.set_cons_zero,List.set_cons_succ,List.take_succ_cons,List.take_zero,List.drop_succ_cons,List.drop_zero,List.nil_append,List.cons_append,List.append_nil,List.take_nil,List.drop_nil]);try rfl)|rfl) ?_))|((refine ObEq.mk ?_);exact zE))
def kz (a:List Int):List Int:=a.filter fun x=>decide (x ≠ 0)
def ps (a:List Int) (n:Nat):List Nat:=(List.range n).filter fun i=>decide (a.getD i 0 ≠ 0)
def bm (a:List Int):Nat:=Mk.mk ((ps a 32).map Int.ofNat) 32
theorem mem_ps {a:List Int} {n i:Nat}:i ∈ ps a n↔i < n/\a.getD i 0 ≠ 0:=by simp [ps]
theorem bit_bm (a:List Int) (j:Nat):(bm a).testBit j=(decide (j < 32) && decide (a.getD j 0 ≠ 0)):=by
 unfold bm
 rw [Mk.mk_bit]
 by_cases h:j < 32
 ·have : ((j : Int) ∈ (ps a 32).map Int.ofNat) ↔ a.getD j 0 ≠ 0 := by
   constructor
   ·intro hm
    obtain ⟨k,hk,e⟩:=List.mem_map.1 hm
    have:k=j:=Int.ofNat.inj e
    subst this
    exact (mem_ps.1 hk).2
   ·intro hn
    exact List.mem_map.2 ⟨j,mem_ps.2 ⟨h,hn⟩,rfl⟩
  simp only [decide_eq_true h,Bool.true_and]
  exact decide_eq_decide.2 this
 ·simp [h]
theorem bm_lt (a:List Int):bm a < 4294967296:=Mk.mk_lt _ 32
theorem eq_bm {m:Nat} {a:List Int} (hm:m < 4294967296) (h:∀ j,j < 32->m.testBit j=decide (a.getD j 0 ≠ 0)):m=bm a:=by
 apply Nat.eq_of_testBit_eq
 intro j
 rw [bit_bm]
 by_cases hj:j < 32
 ·rw [h j hj];simp [hj]
 ·rw [Mk.big m hm j hj];simp [hj]
theorem up_ps (a:List Int) (n:Nat) (hn:n<=32):Mk.upTo (bm a) n=ps a n:=by
 unfold Mk.upTo ps
 apply List.filter_congr
 intro i hi
 have:i < 32:=by have:=List.mem_range.1 hi;omega
 rw [bit_bm];simp [this]
theorem ps_succ (a:List Int) (n:Nat):ps a (n+1)=ps a n++if a.getD n 0 ≠ 0 then [n] else []:=by
 unfold ps
 rw [List.range_succ,List.filter_append]
 congr 1
 simp only [List.filter_cons,List.filter_nil]
 by_cases h:a.getD n 0 ≠ 0<;>simp [h]
theorem wb (a:List Int) (n:Nat) (h:n < a.length):kz (a.take (n+1))=kz (a.take n)++if a.getD n 0 ≠ 0 then [a.getD n 0] else []:=by
 unfold kz
 rw [List.take_succ_eq_append_getElem h,List.filter_append]
 congr 1
 have e:a.getD n 0=a[n]:=by simp [h]
 rw [e]
 simp only [List.filter_cons,List.filter_nil]
 by_cases h:a[n] ≠ 0<;>simp [h]
theorem all_bm (a:List Int):Mk.all (bm a)=ps a 32:=up_ps a 32 (Nat.le_refl _)
theorem up_split (m c:Nat):∀ d,∃ R,Mk.upTo m (c+d)=Mk.upTo m c++R/\∀ k ∈ R,c<=k
 | 0=>⟨[],by simp,fun k hk=>by cases hk⟩
 | d+1=>by
  obtain ⟨R,h1,h2⟩:=up_split m c d
  rw [<- Nat.add_assoc,Mk.upTo_succ,h1,List.append_assoc]
  refine ⟨_,rfl,fun k hk=>?_⟩
  rcases List.mem_append.1 hk with hk|hk
  ·exact h2 k hk
  ·split at hk
   ·have:=List.mem_singleton.1 hk;omega
   ·cases hk
def arr (m:Nat) (kk:List Int):List Int:=(List.range 32).map fun i=>if m.testBit i=true then (kk[(Mk.upTo m i).length]?).getD 0 else 0
theorem Y7 (m:Nat) (kk:List Int):(arr m kk).length=32:=by simp [arr]
theorem arr_at {m:Nat} {kk:List Int} {i:Nat} (h:i < 32):(arr m kk).getD i 0=if m.testBit i=true then (kk[(Mk.upTo m i).length]?).getD 0 else 0:=by simp [arr,h]
theorem up_lt {m i:Nat} (hb:m.testBit i=true) (hi:i < 32):(Mk.upTo m i).length < (Mk.all m).length:=by
 obtain ⟨R,h1,_⟩:=up_split m (i+1) (32 - (i+1))
 rw [show i+1+(32 - (i+1))=32 by omega] at h1
 unfold Mk.all
 rw [h1,Mk.upTo_succ,if_pos hb]
 simp
theorem arr_ne {m:Nat} {kk:List Int} (hk:kk.length=(Mk.all m).length) (h0:¬ (0:Int) ∈ kk) {i:Nat} (hi:i < 32):(arr m kk).getD i 0 ≠ 0↔m.testBit i=true:=by
 rw [arr_at hi]
 cases hb:m.testBit i with
 | false=>simp
 | true =>
  have hl:=up_lt hb hi
  rw [<- hk] at hl
  simp only [if_true,List.getElem?_eq_getElem hl,Option.getD_some]
  have:kk[(Mk.upTo m i).length] ≠ 0:=fun e=>h0 (by rw [<- e];exact List.getElem_mem hl)
  simp [this]
theorem arr_bm {m:Nat} {kk:List Int} (hm:m < 4294967296) (hk:kk.length=(Mk.all m).length) (h0:¬ (0:Int) ∈ kk):m=bm (arr m kk) :=
 eq_bm hm fun j hj=>by
  have:=arr_ne hk h0 hj
  cases hb:m.testBit j with
  | false=>rw [hb] at this;simp at this ⊢;simpa using this
  | true=>rw [hb] at this;exact (decide_eq_true (this.2 rfl)).symm
theorem arr_kz {m:Nat} {kk:List Int} (hm:m < 4294967296) (hk:kk.length=(Mk.all m).length) (h0:¬ (0:Int) ∈ kk):kk=kz (arr m kk):=by
 have key:∀ n,n<=32->kz ((arr m kk).take n)=kk.take (Mk.upTo m n).length:=fun n=>by
  induction n with
  | zero=>intro _;simp [kz,Mk.upTo]
  | succ n ih =>
   intro hn
   rw [wb _ n (by rw [Y7];omega),ih (by omega),Mk.upTo_succ]
   have ha:=arr_ne hk h0 (show n < 32 by omega)
   cases hb:m.testBit n with
   | false =>
    rw [hb] at ha
    have ha2:¬ (arr m kk).getD n 0 ≠ 0:=fun h=>by have:=ha.1 h;cases this
    rw [if_neg ha2];simp
   | true =>
    rw [if_pos (ha.2 hb),arr_at (by omega),if_pos hb]
    have hl:=up_lt hb (show n < 32 by omega)
    rw [<- hk] at hl
    rw [List.getElem?_eq_getElem hl,Option.getD_some]
    simp only [if_true,List.length_append,List.length_cons,List.length_nil,Nat.zero_add]
    rw [List.take_succ_eq_append_getElem hl]
 have h:=key 32 (Nat.le_refl _)
 rw [List.take_of_length_le (by rw [Y7];omega)] at h
 rw [h]
 exact (List.take_of_length_le (by unfold Mk.all at hk;omega)).symm
theorem Xg {l:List Int} {x:Int}:(l.map iA).take l.length++[.v (.int .i64 x)]=(l++[x]).map iA:=by
 rw [List.take_of_length_le (by simp)];simp [iA]
section
variable (G:Nat->AV)
end
theorem i_all {l:List Int}:(l.map iA).take l.length=l.map iA:=List.take_of_length_le (by simp)
section
variable (G:Nat->AV)
end
abbrev i64S:={n:Int // i64 n}
end Go.Proofs.YtdodckipblafmaaGreatDoor.Sim
namespace Go.Proofs.YtdodckipblafmaaGreatDoor.Sim.Pr7
open Go.RowKit
set_option maxRecDepth 100000
structure Okl (l:List Pr):Prop where
 len:l.length<=1000000
 sz:∀ p ∈ l,p.1.size<=9223372036854775807/\p.2.size<=9223372036854775807
theorem Okl.k {l:List Pr} (h:Okl l) {k:Nat} (hk:k < l.length):(l[k]).1.size<=9223372036854775807:=(h.sz _ (List.getElem_mem hk)).1
theorem slt_idx:∀ {l:List Pr},SLt l↔∀ i (h:i+1 < l.length),cB (l[i]).1 (l[i+1]).1 < 0
 | []=>by simp [SLt]
 | [p]=>by simp [SLt]
 | p::q::l=>by
  have ih:=slt_idx (l:=q::l)
  constructor
  ·intro h i hi
   obtain ⟨h1,h2⟩:=List.pairwise_cons.1 h
   cases i with
   | zero=>exact h1 q (by simp)
   | succ i=>exact ih.1 h2 i (by simpa using hi)
  ·intro h
   have h2:SLt (q::l):=ih.2 fun i hi=>h (i+1) (by simpa using hi)
   refine List.pairwise_cons.2 ⟨fun x hx=>?_,h2⟩
   have h0:cB p.1 q.1 < 0:=h 0 (by simp)
   rcases List.mem_cons.1 hx with rfl|hx
   ·exact h0
   ·have := (List.pairwise_cons.1 h2).1 x hx
    exact wD h0 (by omega)
theorem is_false {l:List Pr} {r:Bool} (hr:r=true↔SLt l) {i:Nat} (h:i+1 < l.length) (hc:0<=cB (l[i]).1 (l[i+1]).1):r=false:=by
 cases r with
 | false=>rfl
 | true=>have:=slt_idx.1 (hr.1 rfl) i h;omega
set_option maxHeartbeats 4000000 in
theorem is11 (G:Nat->AV) (l:List Pr) (hl:Okl l) (r:Bool) (hr:r=true↔SLt l):PC Tryz.prog G 121 [.sl 2 (l.map pA)] (Bo r):=by
 have hlen:=hl.len
 refine yg cop121 ?_
 show W _ _ _ _ ⟨_,_⟩;simp only [A121,List.cons_append,List.nil_append,List.length_cons,List.length_nil,Nat.reduceAdd,Nat.reduceSub,List.replicate]
 repeat (first|(with_reducible first|refine zQ ?_|refine zP ?_|refine zZ ?_|refine zw ?_|refine zp ?_)|((with_reducible first|refine ks fun K hK=>?_|refine kd fun K hK=>?_|refine kc fun K hK2 hK hK3=>?_);simp (disch:=omega) only [bg0,bg1,bg2,bg3,bg4,zt,zS,eff,AX.ev,St.put,zO,zK,ap1,zi,simprocAttr,zu,AV.cells,AV.fine,AV.one,zY,zq,live,zo,rdA,zg,wrA,zI,zr,zW,zT,zV,zk,zb,zm,zj,ze,cut,id,ap2,zx,zy,geB,AOp.cls,AOp.xs,ltB,ltC,Option.toList,List.cons_append,decide_eq_true,decide_eq_false,if_pos,if_neg,List.length_map,zH,bVb,bVn,eq_self,Bool.and_self,BEq.rfl,not_true_eq_false];(with_reducible first|(refine hK _ ?_;clear hK K)|(refine hK ?_;clear hK hK3 K hK2)|(refine hK3 ?_;clear hK hK3 K hK2))))
 refine ZT [2,3,7,8,9,10,11,12,13,14,15,16,17,18,19,20,21,22,23] (fun k v H=>v 7=I k/\H=[]/\∀ i (h:i+1 < l.length),i < k->cB (l[i]).1 (l[i+1]).1 < 0) (l.length - 1) ⟨rfl,rfl,fun i h hi=>absurd hi (Nat.not_lt_zero _)⟩ ?_ ?_
 ·rintro k v H hk ⟨h7, rfl, hi⟩
  simp only [mix,z9,Za,Zb,simprocAttr,if_true,if_false,h7]
  have h1:=hl.k (k:=k) (by omega)
  have h2:=hl.k (k:=k+1) (by omega)
  by_cases hc:0<=cB (l[k]).1 (l[k+1]).1
  ·obtain rfl := is_false hr (by omega) hc
   repeat (first|(with_reducible first|refine zQ ?_|refine zP ?_|refine Zk ?_|refine zZ ?_|refine Zd ?_|refine zw ?_|refine Ze ?_|refine zp ?_|refine yQ ?_|refine Zm ?_|refine ZH ?_)|((first|((with_reducible refine kpd 38 ?_ ?_ ?_ ?_ ?_);rotate_left 1));(focus (simp (disch:=omega) only [bg0,bg1,bg2,bg3,bg4,zt,zS,eff,AX.ev,St.put,zO,zK,ap1,zi,simprocAttr,zu,AV.cells,AV.fine,AV.one,zY,zq,live,zo,rdA,zg,wrA,zI,zr,zW,zT,zV,zk,zb,zm,zj,ze,cut,id,ap2,zx,zy,geB,AOp.cls,AOp.xs,ltB,ltC,Option.toList,List.cons_append,decide_eq_true,decide_eq_false,if_pos,if_neg,List.length_map,zH,bVb,bVn,eq_self,Bool.and_self,BEq.rfl,not_true_eq_false,hc];try rfl));(first|(rfl;exact (by refine cmpP G _ _ ?_ ?_<;>assumption))))|((with_reducible first|refine ks fun K hK=>?_|refine kd fun K hK=>?_|refine kc fun K hK2 hK hK3=>?_|refine ZC fun K hR=>?_|refine Zl rfl fun K hR=>?_|refine Zh fun K hR=>?_);simp (disch:=omega) only [bg0,bg1,bg2,bg3,bg4,zt,zS,eff,AX.ev,St.put,zO,zK,ap1,zi,simprocAttr,zu,AV.cells,AV.fine,AV.one,zY,zq,live,zo,rdA,zg,wrA,zI,zr,zW,zT,zV,zk,zb,zm,zj,ze,cut,id,ap2,zx,zy,geB,AOp.cls,AOp.xs,ltB,ltC,Option.toList,List.cons_append,decide_eq_true,decide_eq_false,if_pos,if_neg,List.length_map,zH,bVb,bVn,eq_self,Bool.and_self,BEq.rfl,not_true_eq_false,hc];(first|(with_reducible first|(refine hK _ ?_;clear hK K)|(refine hK ?_;clear hK hK3 K hK2)|(refine hK3 ?_;clear hK hK3 K hK2))|((with_reducible refine hR _ ?_ ?_ ?_ ?_);rotate_left 2;rfl;rfl)|((with_reducible refine hR _ ?_);rfl))))
  ·repeat (first|(with_reducible first|refine zQ ?_|refine zP ?_|refine Zk ?_|refine zZ ?_|refine Zd ?_|refine zw ?_|refine Ze ?_|refine zp ?_|refine z5 ?_)|((with_reducible first|refine ks fun K hK=>?_|refine kd fun K hK=>?_|refine kc fun K hK2 hK hK3=>?_);simp (disch:=omega) only [bg0,bg1,bg2,bg3,bg4,zt,zS,eff,AX.ev,St.put,zO,zK,ap1,zi,simprocAttr,zu,AV.cells,AV.fine,AV.one,zY,zq,live,zo,rdA,zg,wrA,zI,zr,zW,zT,zV,zk,zb,zm,zj,ze,cut,id,ap2,zx,zy,geB,AOp.cls,AOp.xs,ltB,ltC,Option.toList,List.cons_append,decide_eq_true,decide_eq_false,if_pos,if_neg,List.length_map,zH,bVb,bVn,eq_self,Bool.and_self,BEq.rfl,not_true_eq_false,hc];(with_reducible first|(refine hK _ ?_;clear hK K)|(refine hK ?_;clear hK hK3 K hK2)|(refine hK3 ?_;clear hK hK3 K hK2)))|((first|((with_reducible refine kpd 38 ?_ ?_ ?_ ?_ ?_);rotate_left 1));(focus (simp (disch:=omega) only [bg0,bg1,bg2,bg3,bg4,zt,zS,eff,AX.ev,St.put,zO,zK,ap1,zi,simprocAttr,zu,AV.cells,AV.fine,AV.one,zY,zq,live,zo,rdA,zg,wrA,zI,zr,zW,zT,zV,zk,zb,zm,zj,ze,cut,id,ap2,zx,zy,geB,AOp.cls,AOp.xs,ltB,ltC,Option.toList,List.cons_append,decide_eq_true,decide_eq_false,if_pos,if_neg,List.length_map,zH,bVb,bVn,eq_self,Bool.and_self,BEq.rfl,not_true_eq_false,hc];try rfl));(first|(rfl;exact (by refine cmpP G _ _ ?_ ?_<;>assumption)))))
   refine ⟨rfl,rfl,rfl,fun i h hik=>?_⟩
   by_cases hik2:i=k
   ·subst hik2;omega
   ·exact hi i h (by omega)
 ·rintro v H ⟨h7, rfl, hi⟩
  simp only [mix,z9,Za,Zb,simprocAttr,if_true,if_false,h7]
  obtain rfl:r=true:=hr.2 (slt_idx.2 fun i h=>hi i h (by omega))
  by_cases h0:l.length=0
  all_goals repeat (first|(with_reducible first|refine zQ ?_|refine zP ?_|refine Zp ?_|refine zw ?_|refine zp ?_|refine Zc ?_|refine z6 ?_|refine Zm ?_)|((with_reducible first|refine ks fun K hK=>?_|refine kd fun K hK=>?_|refine kc fun K hK2 hK hK3=>?_|refine ZC fun K hR=>?_|refine Zl rfl fun K hR=>?_|refine Zh fun K hR=>?_);simp (disch:=omega) only [bg0,bg1,bg2,bg3,bg4,zt,zS,eff,AX.ev,St.put,zO,zK,ap1,zi,simprocAttr,zu,AV.cells,AV.fine,AV.one,zY,zq,live,zo,rdA,zg,wrA,zI,zr,zW,zT,zV,zk,zb,zm,zj,ze,cut,id,ap2,zx,zy,geB,AOp.cls,AOp.xs,ltB,ltC,Option.toList,List.cons_append,decide_eq_true,decide_eq_false,if_pos,if_neg,List.length_map,zH,bVb,bVn,eq_self,Bool.and_self,BEq.rfl,not_true_eq_false];(first|(with_reducible first|(refine hK _ ?_;clear hK K)|(refine hK ?_;clear hK hK3 K hK2)|(refine hK3 ?_;clear hK hK3 K hK2))|((with_reducible refine hR _ ?_ ?_ ?_ ?_);rotate_left 2;rfl;rfl)|((with_reducible refine hR _ ?_);rfl))))
set_option maxHeartbeats 4000000 in
theorem is12 (G:Nat->AV) (l:List Pr) (hl:Okl l) (r:Bool) (hr:r=true↔SLt l):PC Tryz.prog G 109 [.sl 2 (l.map pA)] (Bo r):=by
 have hlen:=hl.len
 refine yg cop109 ?_
 show W _ _ _ _ ⟨_,_⟩;simp only [A109,List.cons_append,List.nil_append,List.length_cons,List.length_nil,Nat.reduceAdd,Nat.reduceSub,List.replicate]
 repeat (first|(with_reducible first|refine zQ ?_|refine zP ?_|refine zZ ?_|refine zw ?_|refine zp ?_)|((with_reducible first|refine ks fun K hK=>?_|refine kd fun K hK=>?_|refine kc fun K hK2 hK hK3=>?_);simp (disch:=omega) only [bg0,bg1,bg2,bg3,bg4,zt,zS,eff,AX.ev,St.put,zO,zK,ap1,zi,simprocAttr,zu,AV.cells,AV.fine,AV.one,zY,zq,live,zo,rdA,zg,wrA,zI,zr,zW,zT,zV,zk,zb,zm,zj,ze,cut,id,ap2,zx,zy,geB,AOp.cls,AOp.xs,ltB,ltC,Option.toList,List.cons_append,decide_eq_true,decide_eq_false,if_pos,if_neg,List.length_map,zH,bVb,bVn,eq_self,Bool.and_self,BEq.rfl,not_true_eq_false];(with_reducible first|(refine hK _ ?_;clear hK K)|(refine hK ?_;clear hK hK3 K hK2)|(refine hK3 ?_;clear hK hK3 K hK2))))
 refine ZT [2,3,4,5,6,7,8,9,10,11,12,13,14,15,16,17,18,19,20,21,22] (fun k v H=>v 3=I ((k+1:Nat):Int)/\H=[]/\∀ i (h:i+1 < l.length),i < k->cB (l[i]).1 (l[i+1]).1 < 0) (l.length - 1) ⟨rfl,rfl,fun i h hi=>absurd hi (Nat.not_lt_zero _)⟩ ?_ ?_
 ·rintro k v H hk ⟨h3, rfl, hi⟩
  simp only [mix,z9,Za,Zb,simprocAttr,if_true,if_false,h3]
  have h1:=hl.k (k:=k) (by omega)
  have h2:=hl.k (k:=k+1) (by omega)
  have e1:((k+1:Nat):Int) - 1=k:=by omega
  by_cases hc:cB (l[k]).1 (l[k+1]).1 < 0
  ·repeat (first|(with_reducible first|refine zQ ?_|refine zP ?_|refine Zk ?_|refine zZ ?_|refine Zd ?_|refine zw ?_|refine Ze ?_|refine zp ?_|refine z5 ?_)|((with_reducible first|refine ks fun K hK=>?_|refine kd fun K hK=>?_|refine kc fun K hK2 hK hK3=>?_);simp (disch:=omega) only [bg0,bg1,bg2,bg3,bg4,zt,zS,eff,AX.ev,St.put,zO,zK,ap1,zi,simprocAttr,zu,AV.cells,AV.fine,AV.one,zY,zq,live,zo,rdA,zg,wrA,zI,zr,zW,zT,zV,zk,zb,zm,zj,ze,cut,id,ap2,zx,zy,geB,AOp.cls,AOp.xs,ltB,ltC,Option.toList,List.cons_append,decide_eq_true,decide_eq_false,if_pos,if_neg,List.length_map,zH,bVb,bVn,eq_self,Bool.and_self,BEq.rfl,not_true_eq_false,hc,e1];(with_reducible first|(refine hK _ ?_;clear hK K)|(refine hK ?_;clear hK hK3 K hK2)|(refine hK3 ?_;clear hK hK3 K hK2)))|((first|((with_reducible refine kpd 41 ?_ ?_ ?_ ?_ ?_);rotate_left 1));(focus (simp (disch:=omega) only [bg0,bg1,bg2,bg3,bg4,zt,zS,eff,AX.ev,St.put,zO,zK,ap1,zi,simprocAttr,zu,AV.cells,AV.fine,AV.one,zY,zq,live,zo,rdA,zg,wrA,zI,zr,zW,zT,zV,zk,zb,zm,zj,ze,cut,id,ap2,zx,zy,geB,AOp.cls,AOp.xs,ltB,ltC,Option.toList,List.cons_append,decide_eq_true,decide_eq_false,if_pos,if_neg,List.length_map,zH,bVb,bVn,eq_self,Bool.and_self,BEq.rfl,not_true_eq_false,hc,e1];try rfl));(first|(rfl;exact (by refine lessP G _ _ ?_ ?_<;>assumption)))))
   refine ⟨rfl,rfl,rfl,fun i h hik=>?_⟩
   by_cases hik2:i=k
   ·subst hik2;omega
   ·exact hi i h (by omega)
  ·obtain rfl := is_false (i := k) hr (by omega) (by omega)
   repeat (first|(with_reducible first|refine zQ ?_|refine zP ?_|refine Zk ?_|refine zZ ?_|refine Zd ?_|refine zw ?_|refine Ze ?_|refine zp ?_|refine yQ ?_|refine Zm ?_|refine ZH ?_)|((first|((with_reducible refine kpd 41 ?_ ?_ ?_ ?_ ?_);rotate_left 1));(focus (simp (disch:=omega) only [bg0,bg1,bg2,bg3,bg4,zt,zS,eff,AX.ev,St.put,zO,zK,ap1,zi,simprocAttr,zu,AV.cells,AV.fine,AV.one,zY,zq,live,zo,rdA,zg,wrA,zI,zr,zW,zT,zV,zk,zb,zm,zj,ze,cut,id,ap2,zx,zy,geB,AOp.cls,AOp.xs,ltB,ltC,Option.toList,List.cons_append,decide_eq_true,decide_eq_false,if_pos,if_neg,List.length_map,zH,bVb,bVn,eq_self,Bool.and_self,BEq.rfl,not_true_eq_false,hc,e1];try rfl));(first|(rfl;exact (by refine lessP G _ _ ?_ ?_<;>assumption))))|((with_reducible first|refine ks fun K hK=>?_|refine kd fun K hK=>?_|refine kc fun K hK2 hK hK3=>?_|refine ZC fun K hR=>?_|refine Zl rfl fun K hR=>?_|refine Zh fun K hR=>?_);simp (disch:=omega) only [bg0,bg1,bg2,bg3,bg4,zt,zS,eff,AX.ev,St.put,zO,zK,ap1,zi,simprocAttr,zu,AV.cells,AV.fine,AV.one,zY,zq,live,zo,rdA,zg,wrA,zI,zr,zW,zT,zV,zk,zb,zm,zj,ze,cut,id,ap2,zx,zy,geB,AOp.cls,AOp.xs,ltB,ltC,Option.toList,List.cons_append,decide_eq_true,decide_eq_false,if_pos,if_neg,List.length_map,zH,bVb,bVn,eq_self,Bool.and_self,BEq.rfl,not_true_eq_false,hc,e1];(first|(with_reducible first|(refine hK _ ?_;clear hK K)|(refine hK ?_;clear hK hK3 K hK2)|(refine hK3 ?_;clear hK hK3 K hK2))|((with_reducible refine hR _ ?_ ?_ ?_ ?_);rotate_left 2;rfl;rfl)|((with_reducible refine hR _ ?_);rfl))))
 ·rintro v H ⟨h3, rfl, hi⟩
  simp only [mix,z9,Za,Zb,simprocAttr,if_true,if_false,h3]
  obtain rfl:r=true:=hr.2 (slt_idx.2 fun i h=>hi i h (by omega))
  by_cases h0:l.length=0
  all_goals repeat (first|(with_reducible first|refine zQ ?_|refine zP ?_|refine Zp ?_|refine zw ?_|refine zp ?_|refine Zc ?_|refine z6 ?_|refine Zm ?_)|((with_reducible first|refine ks fun K hK=>?_|refine kd fun K hK=>?_|refine kc fun K hK2 hK hK3=>?_|refine ZC fun K hR=>?_|refine Zl rfl fun K hR=>?_|refine Zh fun K hR=>?_);simp (disch:=omega) only [bg0,bg1,bg2,bg3,bg4,zt,zS,eff,AX.ev,St.put,zO,zK,ap1,zi,simprocAttr,zu,AV.cells,AV.fine,AV.one,zY,zq,live,zo,rdA,zg,wrA,zI,zr,zW,zT,zV,zk,zb,zm,zj,ze,cut,id,ap2,zx,zy,geB,AOp.cls,AOp.xs,ltB,ltC,Option.toList,List.cons_append,decide_eq_true,decide_eq_false,if_pos,if_neg,List.length_map,zH,bVb,bVn,eq_self,Bool.and_self,BEq.rfl,not_true_eq_false];(first|(with_reducible first|(refine hK _ ?_;clear hK K)|(refine hK ?_;clear hK hK3 K hK2)|(refine hK3 ?_;clear hK hK3 K hK2))|((with_reducible refine hR _ ?_ ?_ ?_ ?_);rotate_left 2;rfl;rfl)|((with_reducible refine hR _ ?_);rfl))))
theorem pr_ne {p q:Pr} (h:¬ p=q):(decide (p.1=q.1) && decide (p.2=q.2))=false:=by
 cases hq:(decide (p.1=q.1) && decide (p.2=q.2)) with
 | false=>rfl
 | true =>
  simp only [Bool.and_eq_true,decide_eq_true_eq] at hq
  exact absurd (Prod.ext hq.1 hq.2) h
end Go.Proofs.YtdodckipblafmaaGreatDoor.Sim.Pr7
namespace Go.Proofs.YtdodckipblafmaaGreatDoor.Sim
open Go.RowKit
set_option maxRecDepth 100000
def ZX (ke va:ByteArray) (mp:Int) (kk:List Int) (mn:Int) (ls:List Pr) (b c m l:Bool):Prop :=
 (b=true->ke=ByteArray.mk #[]/\va=ByteArray.mk #[])/\(c=true->mp=0/\¬ (0:Int) < (kk.length:Nat))/\(m=true->mn=0)/\(l=true->((ls.length:Nat):Int)=0)
theorem Xu (G:Nat->AV) (kn:Int) (ke va:ByteArray) (mp:Int) (kk:List Int) (mn:Int) (ls:List Pr) (sz bi:Int) (b c m l r:Bool) (hr:r=true↔ZX ke va mp kk mn ls b c m l) (h1:kk.length<=40) (h2:ls.length<=40):PC Tryz.prog G 108 [nV kn ke va mp kk mn ls sz bi,Bo b,Bo c,Bo m,Bo l] (Bo r):=by
 unfold ZX at hr
 refine zA cop108 ?_
 cases b<;>cases c<;>cases m<;>cases l
 all_goals repeat' ((conv=>whnf);first|(refine SeqP.go ?_)|((refine ObD.mk ?_ ?_);exact zD)|((refine ObN.mk ?_ ?_);exact zN)|(with_reducible first|refine ObT.tt ?_|refine ObT.ff ?_|refine ObB.mk (fun h=>?_) (fun h=>?_))|((with_reducible refine (?_:ObL _ _));(refine ObL.mk _ zM ?_))|((with_reducible refine (?_:ObR _ _ _));(first|(refine ObR.mk _ zG ?_)|(refine ObR.map zX (fun x hx=>?_))|(refine ObR.mk _ rfl ?_)))|((refine ObEq.mk ?_);(focus (first|rfl|assumption|exact (by cases r<;>simp_all)))))
def yt (kn:Int) (ke va:ByteArray) (mp:Nat) (kk:List Int) (mn:Int) (ls:List Pr) (sz bi:Int):Prop :=
 ¬ bi < 0/\(((kn=1\/kn=6)/\sz=1/\ZX ke va mp kk mn ls false true true true)\/(kn=2/\¬ (0:Int) ∈ kk/\((kk.length:Nat):Int)=((upI mp 32).length:Nat)/\0<=sz/\ZX ke va mp kk mn ls true false true true) \/
  (kn=3/\(2:Int)<=(ls.length:Nat)/\Pr7.SLt ls/\sz=(ls.length:Nat)/\ZX ke va mp kk mn ls true true true false)\/(kn=4/\(mp:Int)=0/\((kk.length:Nat):Int)=2/\1<=sz/\ZX ke va mp kk mn ls false false true true) \/
  (kn=5/\¬ mn=0/\sz=0/\ZX ke va mp kk mn ls true true false true))
theorem tf (p:Prop):∃ q:Bool,(q=true↔p):=⟨@decide p (Classical.propDecidable p),by simp⟩
set_option maxHeartbeats 4000000 in
theorem form33 (G : Nat -> AV) (kn : Int) (ke va : ByteArray) (mp : Nat) (kk : List Int) (mn : Int) (ls : List Pr) (sz bi : Int) (k1 : 1 <= kn) (k6 : kn <= 6) (hm : mp < 4294967296) (hk : kk.length <= 40) (hl : ls.length <= 40) (hs : ∀ p ∈ ls, p.1.size <= 40 /\ p.2.size <= 40) (r : Bool) (hr : r = true ↔ yt kn ke va mp kk mn ls sz bi) :
  PC Tryz.prog G 95 [nV kn ke va (mp:Int) kk mn ls sz bi] (Bo r):=by
 have hok:Pr7.Okl ls:=⟨by omega,fun p hp=>by have:=hs p hp;omega⟩
 obtain ⟨q1,hq1⟩:=tf (ZX ke va mp kk mn ls false true true true)
 obtain ⟨q2,hq2⟩:=tf (ZX ke va mp kk mn ls true false true true)
 obtain ⟨q3,hq3⟩:=tf (ZX ke va mp kk mn ls true true true false)
 obtain ⟨q4,hq4⟩:=tf (ZX ke va mp kk mn ls false false true true)
 obtain ⟨q5,hq5⟩:=tf (ZX ke va mp kk mn ls true true false true)
 obtain ⟨q6,hq6⟩:=tf (Pr7.SLt ls)
 have b1:=Xu G kn ke va mp kk mn ls sz bi _ _ _ _ q1 hq1 hk hl
 have b2:=Xu G kn ke va mp kk mn ls sz bi _ _ _ _ q2 hq2 hk hl
 have b3:=Xu G kn ke va mp kk mn ls sz bi _ _ _ _ q3 hq3 hk hl
 have b4:=Xu G kn ke va mp kk mn ls sz bi _ _ _ _ q4 hq4 hk hl
 have b5:=Xu G kn ke va mp kk mn ls sz bi _ _ _ _ q5 hq5 hk hl
 have b6:PC Tryz.prog G 109 [.sl 2 (ls.map pA)] (Bo q6):=Pr7.is12 G ls hok q6 hq6
 have b7:=all46 G mp hm
 have hu:=XS mp 32
 by_cases hb:bi < 0
 ·obtain rfl : r = false := by
   cases r with
   | false=>rfl
   | true=>exact absurd hb (hr.1 rfl).1
  refine zA Xp ?_
  repeat' ((conv=>whnf);first|(refine SeqP.go ?_)|((refine ObD.mk ?_ ?_);exact zD)|((refine ObN.mk ?_ ?_);exact zN)|(refine ObT.tt ?_)|((refine ObB.yes ?_ ?_);exact zB)|((with_reducible refine (?_:ObR _ _ _));(first|(refine ObR.mk _ zG ?_)|(refine ObR.map zX (fun x hx=>?_))|(refine ObR.mk _ rfl ?_)))|((refine ObEq.mk ?_);exact zE))
 simp only [yt,<- hq1,<- hq2,<- hq3,<- hq4,<- hq5,<- hq6] at hr
 clear hq1 hq2 hq3 hq4 hq5 hq6
 have hkn:(kn=1\/kn=6)\/kn=2\/kn=3\/kn=4\/kn=5:=by omega
 rcases hkn with hkn|rfl|rfl|rfl|rfl
 ·have hr' : r = true ↔ sz = 1 /\ q1 = true := by rw [hr]; rcases hkn with rfl | rfl <;> simp [hb]
  clear hr
  refine zA Xp ?_
  rcases hkn with rfl|rfl
  all_goals repeat' ((conv=>whnf);first|(refine SeqP.go ?_)|((refine ObD.mk ?_ ?_);exact zD)|((refine ObN.mk ?_ ?_);exact zN)|(with_reducible first|refine ObT.tt ?_|refine ObT.ff ?_)|((refine ObB.yes ?_ ?_);exact zB)|((refine ObB.no ?_ ?_);exact zC)|(with_reducible refine ObB.mk (fun h=>?_) (fun h=>?_))|((with_reducible refine (?_:ObR _ _ _));(first|(refine ObR.mk _ zG ?_)|(refine ObR.map zX (fun x hx=>?_))|(refine ObR.mk _ rfl ?_)))|((refine ObC.f 108 ?_);(refine ObC.mk _ (b1) ?_))|((refine ObEq.mk ?_);(focus (first|rfl|assumption|exact (by cases r<;>cases q1<;>first|(simp_all;done)|(simp_all;omega))))))
 ·have hr' : r = true ↔ ¬ (0 : Int) ∈ kk /\ ((kk.length : Nat) : Int) = ((upI mp 32).length : Nat) /\ 0 <= sz /\ q2 = true := by rw [hr]; simp [hb]
  clear hr
  rcases Xi (n:=kk.length) (fun k=>decide (kk[k]? = some 0)) with h|⟨i0,h1,h2,h3⟩
  ·have hz : ¬ (0 : Int) ∈ kk := fun hm0 => by
    obtain ⟨k,hk',e⟩:=List.getElem_of_mem hm0
    have:=h k hk'
    simp [List.getElem?_eq_getElem hk',e] at this
   refine zA Xp ?_
   repeat' ((conv=>whnf);first|(refine SeqP.go ?_)|((refine ObD.mk ?_ ?_);exact zD)|((refine ObN.mk ?_ ?_);exact zN)|(with_reducible first|refine ObT.tt ?_|refine ObT.ff ?_)|((refine ObB.yes ?_ ?_);exact zB)|((refine ObB.no ?_ ?_);exact zC)|((with_reducible refine (?_:ObR _ _ _));(first|(refine ObR.mk _ zG ?_)|(refine ObR.map zX (fun x hx=>?_))|(refine ObR.mk _ rfl ?_))))
   conv=>whnf
   refine LoopP.go (α:=Nat) (fun i=>i<=kk.length) (fun i=>kk.length - i) (fun i=>[(2,some (Bo false)),(0,some (I i)),(17,none),(0,none),(0,none),(0,none),(0,none),(0,none),(0,none),(0,none),(0,none),(0,none),(0,none),(0,none),(0,none)]) (fun i=>[⟨57,9,[nV 2 ke va mp kk mn ls sz bi],0,0⟩]) 0 (Nat.zero_le _) (Fg.go ?_ rfl) ?_
   ·repeat' ((conv=>whnf);first|((refine ObEqs.mk ?_ ?_);rfl)|((with_reducible refine ObEq1.i ?_ ?_);exact zF)|((with_reducible refine ObEq1.mk ?_ ?_);exact zE)|exact True.intro)
   intro i hi
   have hlt:i < kk.length\/i=kk.length:=by omega
   rcases hlt with hlt|rfl
   ·have hq : (kk.map iA)[i]? = some (I kk[i]) := Zu hlt
    have hf:¬ kk[i]=0:=fun e=>by have:=h i hlt;simp [List.getElem?_eq_getElem hlt,e] at this
    repeat' ((conv=>whnf);first|(refine SeqP.go ?_)|((refine ObN.mk ?_ ?_);exact zN)|(with_reducible first|refine ObT.tt ?_|refine ObT.ff ?_)|((refine ObB.yes ?_ ?_);exact zB)|((refine ObB.no ?_ ?_);exact zC)|((with_reducible refine ObI.nl ?_ ?_);omega)|((refine ObX.mk _ rfl ?_ ?_);exact zX)|((with_reducible refine (?_:ObL _ _));(refine ObL.mk _ zL ?_))|((with_reducible refine (?_:ObR _ _ _));(first|(refine ObR.mk _ zG ?_)|(refine ObR.map zX (fun x hx=>?_))|(refine ObR.mk _ rfl ?_))))
    conv=>whnf
    refine Again.mk (i+1) ?_ ?_ (Fg.go ?_ rfl)
    ·omega
    ·omega
    repeat' ((conv=>whnf);first|((refine ObEqs.mk ?_ ?_);rfl)|((with_reducible refine ObEq1.i ?_ ?_);exact zF)|((with_reducible refine ObEq1.mk ?_ ?_);exact zE)|exact True.intro)
   ·repeat' ((conv=>whnf);first|(refine SeqP.go ?_)|((refine ObD.mk ?_ ?_);exact zD)|((refine ObN.mk ?_ ?_);exact zN)|(with_reducible first|refine ObT.tt ?_|refine ObT.ff ?_)|((refine ObB.no ?_ ?_);exact zC)|(with_reducible refine ObB.mk (fun h=>?_) (fun h=>?_))|((with_reducible refine (?_:ObL _ _));(refine ObL.mk _ zL ?_))|((with_reducible refine (?_:ObR _ _ _));(first|(refine ObR.mk _ zG ?_)|(refine ObR.map zX (fun x hx=>?_))|(refine ObR.mk _ rfl ?_)))|((refine ObC.f 85 ?_);(refine ObC.mk _ (b7) ?_))|((refine ObC.f 108 ?_);(refine ObC.mk _ (b2) ?_))|((refine ObEq.mk ?_);(focus (first|rfl|assumption|exact (by cases r<;>cases q2<;>first|(simp_all;done)|(simp_all;omega))))))
  ·have hz : (0 : Int) ∈ kk := List.mem_of_getElem? (of_decide_eq_true h2)
   obtain rfl:r=false:=by
    cases r with
    | false=>rfl
    | true=>exact absurd hz (hr'.1 rfl).1
   refine zA Xp ?_
   repeat' ((conv=>whnf);first|(refine SeqP.go ?_)|((refine ObD.mk ?_ ?_);exact zD)|((refine ObN.mk ?_ ?_);exact zN)|(with_reducible first|refine ObT.tt ?_|refine ObT.ff ?_)|((refine ObB.yes ?_ ?_);exact zB)|((refine ObB.no ?_ ?_);exact zC)|((with_reducible refine (?_:ObR _ _ _));(first|(refine ObR.mk _ zG ?_)|(refine ObR.map zX (fun x hx=>?_))|(refine ObR.mk _ rfl ?_))))
   conv=>whnf
   refine LoopP.go (α:=Nat) (fun i=>i<=i0) (fun i=>kk.length - i) (fun i=>[(2,some (Bo false)),(0,some (I i)),(17,none),(0,none),(0,none),(0,none),(0,none),(0,none),(0,none),(0,none),(0,none),(0,none),(0,none),(0,none),(0,none)]) (fun i=>[⟨57,9,[nV 2 ke va mp kk mn ls sz bi],0,0⟩]) 0 (Nat.zero_le _) (Fg.go ?_ rfl) ?_
   ·repeat' ((conv=>whnf);first|((refine ObEqs.mk ?_ ?_);rfl)|((with_reducible refine ObEq1.i ?_ ?_);exact zF)|((with_reducible refine ObEq1.mk ?_ ?_);exact zE)|exact True.intro)
   intro i hi
   have hlt:i < kk.length:=by omega
   have hq:(kk.map iA)[i]? = some (I kk[i]):=Zu hlt
   by_cases he:i=i0
   ·subst he
    have hf:kk[i]=0:=by have:=of_decide_eq_true h2;rw [List.getElem?_eq_getElem hlt] at this;exact (Option.some.inj this)
    repeat' ((conv=>whnf);first|(refine SeqP.go ?_)|((refine ObN.mk ?_ ?_);exact zN)|(refine ObT.tt ?_)|((refine ObB.yes ?_ ?_);exact zB)|((refine ObX.mk _ rfl ?_ ?_);exact zX)|((with_reducible refine (?_:ObL _ _));(refine ObL.mk _ zL ?_))|((with_reducible refine (?_:ObR _ _ _));(first|(refine ObR.mk _ zG ?_)|(refine ObR.map zX (fun x hx=>?_))|(refine ObR.mk _ rfl ?_)))|((refine ObEq.mk ?_);exact zE))
   ·have hf:¬ kk[i]=0:=fun e=>by have:=h3 i (by omega);simp [List.getElem?_eq_getElem hlt,e] at this
    repeat' ((conv=>whnf);first|(refine SeqP.go ?_)|((refine ObN.mk ?_ ?_);exact zN)|(with_reducible first|refine ObT.tt ?_|refine ObT.ff ?_)|((refine ObB.yes ?_ ?_);exact zB)|((refine ObB.no ?_ ?_);exact zC)|((with_reducible refine ObI.nl ?_ ?_);omega)|((refine ObX.mk _ rfl ?_ ?_);exact zX)|((with_reducible refine (?_:ObL _ _));(refine ObL.mk _ zL ?_))|((with_reducible refine (?_:ObR _ _ _));(first|(refine ObR.mk _ zG ?_)|(refine ObR.map zX (fun x hx=>?_))|(refine ObR.mk _ rfl ?_))))
    conv=>whnf
    refine Again.mk (i+1) ?_ ?_ (Fg.go ?_ rfl)
    ·omega
    ·omega
    repeat' ((conv=>whnf);first|((refine ObEqs.mk ?_ ?_);rfl)|((with_reducible refine ObEq1.i ?_ ?_);exact zF)|((with_reducible refine ObEq1.mk ?_ ?_);exact zE)|exact True.intro)
 ·have hr' : r = true ↔ (2 : Int) <= (ls.length : Nat) /\ q6 = true /\ sz = (ls.length : Nat) /\ q3 = true := by rw [hr]; simp [hb]
  clear hr
  refine zA Xp ?_
  cases q6
  all_goals repeat' ((conv=>whnf);first|(refine SeqP.go ?_)|((refine ObD.mk ?_ ?_);exact zD)|((refine ObN.mk ?_ ?_);exact zN)|(with_reducible first|refine ObT.tt ?_|refine ObT.ff ?_)|((refine ObB.yes ?_ ?_);exact zB)|((refine ObB.no ?_ ?_);exact zC)|(with_reducible refine ObB.mk (fun h=>?_) (fun h=>?_))|((with_reducible refine (?_:ObL _ _));(refine ObL.mk _ zL ?_))|((with_reducible refine (?_:ObR _ _ _));(first|(refine ObR.mk _ zG ?_)|(refine ObR.map zX (fun x hx=>?_))|(refine ObR.mk _ rfl ?_)))|((refine ObC.f 108 ?_);(refine ObC.mk _ (b3) ?_))|((refine ObC.f 109 ?_);(refine ObC.mk _ (b6) ?_))|((refine ObEq.mk ?_);(focus (first|rfl|assumption|exact (by cases r<;>cases q3<;>first|(simp_all;done)|(simp_all;omega))))))
 ·have hr' : r = true ↔ (mp : Int) = 0 /\ ((kk.length : Nat) : Int) = 2 /\ 1 <= sz /\ q4 = true := by rw [hr]; simp [hb]
  clear hr
  refine zA Xp ?_
  repeat' ((conv=>whnf);first|(refine SeqP.go ?_)|((refine ObD.mk ?_ ?_);exact zD)|((refine ObN.mk ?_ ?_);exact zN)|(with_reducible first|refine ObT.tt ?_|refine ObT.ff ?_)|((refine ObB.yes ?_ ?_);exact zB)|((refine ObB.no ?_ ?_);exact zC)|(with_reducible refine ObB.mk (fun h=>?_) (fun h=>?_))|((with_reducible refine (?_:ObL _ _));(refine ObL.mk _ zL ?_))|((with_reducible refine (?_:ObR _ _ _));(first|(refine ObR.mk _ zG ?_)|(refine ObR.map zX (fun x hx=>?_))|(refine ObR.mk _ rfl ?_)))|((refine ObC.f 108 ?_);(refine ObC.mk _ (b4) ?_))|((refine ObEq.mk ?_);(focus (first|rfl|assumption|exact (by cases r<;>cases q4<;>first|(simp_all;done)|(simp_all;omega))))))
 ·have hr' : r = true ↔ ¬ mn = 0 /\ sz = 0 /\ q5 = true := by rw [hr]; simp [hb]
  clear hr
  refine zA Xp ?_
  repeat' ((conv=>whnf);first|(refine SeqP.go ?_)|((refine ObD.mk ?_ ?_);exact zD)|((refine ObN.mk ?_ ?_);exact zN)|(with_reducible first|refine ObT.tt ?_|refine ObT.ff ?_)|((refine ObB.no ?_ ?_);exact zC)|(with_reducible refine ObB.mk (fun h=>?_) (fun h=>?_))|((with_reducible refine (?_:ObR _ _ _));(first|(refine ObR.mk _ zG ?_)|(refine ObR.map zX (fun x hx=>?_))|(refine ObR.mk _ rfl ?_)))|((refine ObC.f 108 ?_);(refine ObC.mk _ (b5) ?_))|((refine ObEq.mk ?_);(focus (first|rfl|assumption|exact (by cases r<;>cases q5<;>first|(simp_all;done)|(simp_all;omega))))))
end Go.Proofs.YtdodckipblafmaaGreatDoor.Sim
namespace Go.Proofs.YtdodckipblafmaaGreatDoor.Sim.Pr7
open Go.RowKit
set_option maxRecDepth 100000
theorem Zj {C:List Pr} {p:Nat} {x:Pr}:(C.map pA).set p (.agg [S x.1,S x.2])=(C.set p x).map pA:=by
 rw [List.map_set];rfl
def px (D:List Pr) (f:Nat->Nat):List Pr:=(List.range D.length).map fun x=>D.getD (f x) default
theorem xh {D:List Pr} {f:Nat->Nat}:(px D f).length=D.length:=by simp [px]
theorem YE {D:List Pr} {f:Nat->Nat} {x:Nat}:(px D f)[x]? = if x < D.length then some (D.getD (f x) default) else none:=by
 unfold px
 rw [List.getElem?_map]
 by_cases h:x < D.length
 ·rw [List.getElem?_range h,if_pos h];rfl
 ·rw [if_neg h,List.getElem?_eq_none (by simpa using h)];rfl
theorem px_get {D:List Pr} {f:Nat->Nat} {x:Nat} (h:x < (px D f).length):(px D f)[x]=D.getD (f x) default:=by
 have h2:x < D.length:=by rwa [xh] at h
 have:=YE (D:=D) (f:=f) (x:=x)
 rw [if_pos h2,List.getElem?_eq_getElem h] at this
 exact Option.some.inj this
theorem Yi {D:List Pr} {f g:Nat->Nat} (h:∀ x,x < D.length->f x=g x):px D f=px D g:=by
 apply List.ext_getElem?
 intro x
 rw [YE,YE]
 by_cases hx:x < D.length
 ·rw [if_pos hx,if_pos hx,h x hx]
 ·rw [if_neg hx,if_neg hx]
theorem px_id {D:List Pr}:px D (fun x=>x)=D:=by
 apply List.ext_getElem?
 intro x
 rw [YE]
 by_cases hx:x < D.length
 ·rw [if_pos hx,List.getD_eq_getElem?_getD,List.getElem?_eq_getElem hx];rfl
 ·rw [if_neg hx,List.getElem?_eq_none (by omega)]
theorem px_px {D:List Pr} {f g:Nat->Nat} (h:∀ x,x < D.length->g x < D.length):px (px D f) g=px D (fun x=>f (g x)):=by
 apply List.ext_getElem?
 intro x
 rw [YE,YE,xh]
 by_cases hx:x < D.length
 ·rw [if_pos hx,if_pos hx,List.getD_eq_getElem?_getD,YE,if_pos (h x hx)];rfl
 ·rw [if_neg hx,if_neg hx]
theorem px_set {D : List Pr} {f : Nat -> Nat} {p q : Nat} (hp : p < (px D f).length) (hq : q < (px D f).length) :
  ((px D f).set p (px D f)[q]).set q (px D f)[p]=px D (fun x=>if x=q then f p else if x=p then f q else f x):=by
 apply List.ext_getElem?
 intro x
 rw [List.getElem?_set,List.getElem?_set,YE,YE,px_get hp,px_get hq]
 simp only [List.length_set,xh] at *
 by_cases h1:q=x
 ·subst h1;simp [hq]
 ·by_cases h2 : p = x
  ·subst h2;simp [hp,h1,Ne.symm h1]
  ·simp [h1,h2,Ne.symm h1,Ne.symm h2]
def swf (a b n x:Nat):Nat:=if a<=x/\x < a+n then b+(x - a) else if b<=x/\x < b+n then a+(x - b) else x
abbrev rw0 (D:List Pr) (g:Nat):OB:=⟨31,2,D.map pA,g,0⟩
theorem xS {D E:List Pr} {g:Nat} (h:D=E):[rw0 D g]=[rw0 E g]:=by rw [h]
set_option maxHeartbeats 4000000 in
theorem swp46 (G : Nat -> AV) (D : List Pr) (g a b n : Nat) (hN : D.length <= 1000000) (h1 : a + n <= b) (h2 : b + n <= D.length) (cf : AV) :
  HC Tryz.prog G 129 [.ol 0 g D.length,I a,I b,I n,cf] [rw0 D g] (.tup []) [rw0 (px D (swf a b n)) g]:=by
 refine Yo cop129 ?_
 show W _ _ _ _ ⟨_,_⟩;simp only [A129,List.cons_append,List.nil_append,List.length_cons,List.length_nil,Nat.reduceAdd,Nat.reduceSub,List.replicate]
 repeat (first|(with_reducible first|refine zQ ?_|refine zP ?_|refine zZ ?_|refine zw ?_|refine zp ?_)|((with_reducible first|refine ks fun K hK=>?_|refine kd fun K hK=>?_|refine kc fun K hK2 hK hK3=>?_);simp (disch:=omega) only [bg0,bg1,bg2,bg3,bg4,zt,zS,eff,AX.ev,St.put,zO,zK,ap1,zi,simprocAttr,zu,AV.cells,AV.fine,AV.one,zY,zq,live,zo,rdA,zg,wrA,zI,zr,zW,zT,zV,zk,zb,zm,zj,ze,cut,id,ap2,zx,zy,geB,AOp.cls,AOp.xs,ltB,ltC,Option.toList,List.cons_append,decide_eq_true,decide_eq_false,if_pos,if_neg,List.length_map,zH,bVb,bVn,eq_self,Bool.and_self,BEq.rfl,not_true_eq_false,Zj,List.length_set];(with_reducible first|(refine hK _ ?_;clear hK K)|(refine hK ?_;clear hK hK3 K hK2)|(refine hK3 ?_;clear hK hK3 K hK2))))
 refine ZT [10,11,12,13,14,15,16,17,18,19,20,21,22,23,24,25,26,27,28,29,30,31,32,33,34,35,36,37] (fun k v H=>v 10=I k/\H=[rw0 (px D (swf a b k)) g]) n ⟨rfl,?_⟩ ?_ ?_
 ·refine xS ?_
  have e:px D (swf a b 0)=px D (fun x=>x):=Yi fun x _=>by
   simp only [swf]
   repeat' split
   all_goals omega
  rw [e,px_id]
 ·rintro k v H hk ⟨h10, rfl⟩
  have hl:(px D (swf a b k)).length=D.length:=xh
  have hp:a+k < (px D (swf a b k)).length:=by omega
  have hq:b+k < (px D (swf a b k)).length:=by omega
  have hs:=px_set hp hq
  generalize px D (swf a b k)=C at hl hp hq hs
  have q1:=zH (l:=C.set (a+k) C[b+k]) (k:=b+k) (by simp;omega)
  have e1:((a:Int)+(k:Int)).toNat=a+k:=by omega
  have e2:((b:Int)+(k:Int)).toNat=b+k:=by omega
  simp only [mix,z9,Za,Zb,simprocAttr,if_true,if_false,h10]
  repeat (first|(with_reducible first|refine zQ ?_|refine zP ?_)|(with_reducible refine YO ?_ ?_ ?_ ?_;rotate_left 1)|(with_reducible first|exact isSt|refine zZ ?_|refine Zd ?_|refine zw ?_|refine Ze ?_|refine zp ?_|refine z5 ?_)|((with_reducible first|refine ks fun K hK=>?_|refine kd fun K hK=>?_|refine kc fun K hK2 hK hK3=>?_);simp (disch:=omega) only [bg0,bg1,bg2,bg3,bg4,zt,zS,eff,AX.ev,St.put,zO,zK,ap1,zi,simprocAttr,zu,AV.cells,AV.fine,AV.one,zY,zq,live,zo,rdA,zg,wrA,zI,zr,zW,zT,zV,zk,zb,zm,zj,ze,cut,id,ap2,zx,zy,geB,AOp.cls,AOp.xs,ltB,ltC,Option.toList,List.cons_append,decide_eq_true,decide_eq_false,if_pos,if_neg,List.length_map,zH,bVb,bVn,eq_self,Bool.and_self,BEq.rfl,not_true_eq_false,Zj,List.length_set,e1,e2,q1];(with_reducible first|(refine hK _ ?_;clear hK K)|(refine hK ?_;clear hK hK3 K hK2)|(refine hK3 ?_;clear hK hK3 K hK2))))
  refine ⟨rfl,rfl,xS (hs.trans (Yi fun x hx=>?_))⟩
  simp only [swf]
  repeat' split
  all_goals omega
 ·rintro v H ⟨h10, rfl⟩
  simp only [mix,z9,Za,Zb,simprocAttr,if_true,if_false,h10]
  repeat (first|(with_reducible first|refine zQ ?_|refine zP ?_|refine Zp ?_|refine zw ?_|refine zp ?_|refine Zc ?_|refine z6 ?_)|((with_reducible first|refine ks fun K hK=>?_|refine kd fun K hK=>?_|refine kc fun K hK2 hK hK3=>?_);simp (disch:=omega) only [bg0,bg1,bg2,bg3,bg4,zt,zS,eff,AX.ev,St.put,zO,zK,ap1,zi,simprocAttr,zu,AV.cells,AV.fine,AV.one,zY,zq,live,zo,rdA,zg,wrA,zI,zr,zW,zT,zV,zk,zb,zm,zj,ze,cut,id,ap2,zx,zy,geB,AOp.cls,AOp.xs,ltB,ltC,Option.toList,List.cons_append,decide_eq_true,decide_eq_false,if_pos,if_neg,List.length_map,zH,bVb,bVn,eq_self,Bool.and_self,BEq.rfl,not_true_eq_false,Zj,List.length_set];(with_reducible first|(refine hK _ ?_;clear hK K)|(refine hK ?_;clear hK hK3 K hK2)|(refine hK3 ?_;clear hK hK3 K hK2)))|((with_reducible refine YS ?_);try rfl))
def rtf (a m b x:Nat):Nat:=if a<=x/\x < a+(b - m) then m+(x - a) else if a+(b - m)<=x/\x < b then x - (b - m) else x
theorem Wg {a m b x N:Nat} (h1:a<=m) (h2:m<=b) (h3:b<=N) (hx:x < N):rtf a m b x < N:=by
 unfold rtf;repeat' split
 all_goals omega
theorem rt_gt {C:List Pr} {m i j:Nat} (hij:j < i) (hj:0 < j) (hi:i<=m) (hb:m+j<=C.length):px (px C (swf (m - i) m j)) (rtf (m - (i - j)) m (m+j))=px C (rtf (m - i) m (m+j)):=by
 rw [px_px fun x hx=>Wg (by omega) (by omega) hb hx]
 refine Yi fun x hx=>?_
 simp only [swf,rtf]
 repeat' split
 all_goals omega
theorem rt_lt {C:List Pr} {m i j:Nat} (hij:i < j) (hi0:0 < i) (hi:i<=m) (hb:m+j<=C.length):px (px C (swf (m - i) (m+j - i) i)) (rtf (m - i) m (m+(j - i)))=px C (rtf (m - i) m (m+j)):=by
 rw [px_px fun x hx=>Wg (by omega) (by omega) (by omega) hx]
 refine Yi fun x hx=>?_
 simp only [swf,rtf]
 repeat' split
 all_goals omega
theorem rt_eq {C:List Pr} {m i:Nat} (hi:i<=m) (hb:m+i<=C.length):px C (swf (m - i) m i)=px C (rtf (m - i) m (m+i)):=by
 refine Yi fun x hx=>?_
 simp only [swf,rtf]
 repeat' split
 all_goals omega
set_option maxHeartbeats 4000000 in
theorem rot45 (G : Nat -> AV) (D : List Pr) (g a m b : Nat) (hN : D.length <= 1000000) (h1 : a < m) (h2 : m < b) (h3 : b <= D.length) (cf : AV) :
  HC Tryz.prog G 128 [.ol 0 g D.length,I a,I m,I b,cf] [rw0 D g] (.tup []) [rw0 (px D (rtf a m b)) g]:=by
 refine Yo cop128 ?_
 show W _ _ _ _ ⟨_,_⟩;simp only [A128,List.cons_append,List.nil_append,List.length_cons,List.length_nil,Nat.reduceAdd,Nat.reduceSub,List.replicate]
 repeat (first|(with_reducible first|refine zQ ?_|refine zP ?_|refine zZ ?_|refine zw ?_|refine zp ?_)|((with_reducible first|refine ks fun K hK=>?_|refine kd fun K hK=>?_|refine kc fun K hK2 hK hK3=>?_);simp (disch:=omega) only [bg0,bg1,bg2,bg3,bg4,zt,zS,eff,AX.ev,St.put,zO,zK,ap1,zi,simprocAttr,zu,AV.cells,AV.fine,AV.one,zY,zq,live,zo,rdA,zg,wrA,zI,zr,zW,zT,zV,zk,zb,zm,zj,ze,cut,id,ap2,zx,zy,geB,AOp.cls,AOp.xs,ltB,ltC,Option.toList,List.cons_append,decide_eq_true,decide_eq_false,if_pos,if_neg,List.length_map,zH,bVb,bVn,eq_self,Bool.and_self,BEq.rfl,not_true_eq_false,Zj,List.length_set];(with_reducible first|(refine hK _ ?_;clear hK K)|(refine hK ?_;clear hK hK3 K hK2)|(refine hK3 ?_;clear hK hK3 K hK2))))
 refine YM [10,11,18,19,20,21,22,23,24,25,26,27,28,29,30,31,32,33,34,35,36,37,38,39,40,41,42,43,44,45,46,47,48,49] (fun u v H=>∃ (i j:Nat) (C:List Pr),u=i+j/\v 10=I i/\v 11=I j/\H=[rw0 C g]/\C.length=D.length/\0 < i/\0 < j/\i<=m - a/\j<=b - m/\px C (rtf (m - i) m (m+j))=px D (rtf a m b)) (b - a) ⟨m - a,b - m,D,by omega,by simp [at_];omega,by simp [at_];omega,rfl,rfl,by omega,by omega,by omega,by omega,by rw [show m - (m - a)=a by omega,show m+(b - m)=b by omega]⟩ ?_
 rintro u v H ⟨i,j,C,rfl,h10,h11,rfl,hl,hi,hj,hi2,hj2,hpx⟩
 simp only [mix,z9,Za,Zb,simprocAttr,if_true,if_false,h10,h11]
 have e1:(m:Int) - (i:Int)=((m - i:Nat):Int):=by omega
 by_cases hij:i=j
 ·subst hij
  rw [<- hpx,<- rt_eq (by omega) (by omega),<- hl]
  repeat (first|(with_reducible first|refine zQ ?_|refine zP ?_|refine Zp ?_|refine zw ?_|refine zp ?_|refine Zc ?_|refine z6 ?_)|((with_reducible first|refine ks fun K hK=>?_|refine kd fun K hK=>?_|refine kc fun K hK2 hK hK3=>?_);simp (disch:=omega) only [bg0,bg1,bg2,bg3,bg4,zt,zS,eff,AX.ev,St.put,zO,zK,ap1,zi,simprocAttr,zu,AV.cells,AV.fine,AV.one,zY,zq,live,zo,rdA,zg,wrA,zI,zr,zW,zT,zV,zk,zb,zm,zj,ze,cut,id,ap2,zx,zy,geB,AOp.cls,AOp.xs,ltB,ltC,Option.toList,List.cons_append,decide_eq_true,decide_eq_false,if_pos,if_neg,List.length_map,zH,bVb,bVn,eq_self,Bool.and_self,BEq.rfl,not_true_eq_false,Zj,List.length_set,e1];(with_reducible first|(refine hK _ ?_;clear hK K)|(refine hK ?_;clear hK hK3 K hK2)|(refine hK3 ?_;clear hK hK3 K hK2)))|((with_reducible refine khs 129 ?_ ?_ ?_ ?_);rotate_left 2;exact (swp46 G C g (m - i) m i (by omega) (by omega) (by omega) cf))|((with_reducible refine YS ?_);try rfl))
 ·by_cases hgt : j < i
  ·have hn : ¬ ((i : Int) = (j : Int)) := by omega
   have hg:(j:Int) < (i:Int):=by omega
   have e2:(i:Int) - (j:Int)=((i - j:Nat):Int):=by omega
   rw [<- hl]
   repeat (first|(with_reducible first|refine zQ ?_|refine zP ?_|refine zZ ?_|refine Zd ?_|refine zw ?_|refine zp ?_|refine z5 ?_)|((with_reducible first|refine ks fun K hK=>?_|refine kd fun K hK=>?_|refine kc fun K hK2 hK hK3=>?_);simp (disch:=omega) only [bg0,bg1,bg2,bg3,bg4,zt,zS,eff,AX.ev,St.put,zO,zK,ap1,zi,simprocAttr,zu,AV.cells,AV.fine,AV.one,zY,zq,live,zo,rdA,zg,wrA,zI,zr,zW,zT,zV,zk,zb,zm,zj,ze,cut,id,ap2,zx,zy,geB,AOp.cls,AOp.xs,ltB,ltC,Option.toList,List.cons_append,decide_eq_true,decide_eq_false,if_pos,if_neg,List.length_map,zH,bVb,bVn,eq_self,Bool.and_self,BEq.rfl,not_true_eq_false,Zj,List.length_set,e1,e2,hn,hg];(with_reducible first|(refine hK _ ?_;clear hK K)|(refine hK ?_;clear hK hK3 K hK2)|(refine hK3 ?_;clear hK hK3 K hK2)))|((with_reducible refine khs 129 ?_ ?_ ?_ ?_);rotate_left 2;exact (swp46 G C g (m - i) m j (by omega) (by omega) (by omega) cf)))
   exact ⟨rfl,i,by omega,i - j,j,_,by omega,rfl,rfl,rfl,by rw [xh,hl],by omega,hj,by omega,hj2,by rw [rt_gt hgt hj (by omega) (by omega)];exact hpx⟩
  ·have hn : ¬ ((i : Int) = (j : Int)) := by omega
   have hg:¬ (j:Int) < (i:Int):=by omega
   have e2:(j:Int) - (i:Int)=((j - i:Nat):Int):=by omega
   have e3:(m:Int)+(j:Int) - (i:Int)=((m+j - i:Nat):Int):=by omega
   rw [<- hl]
   repeat (first|(with_reducible first|refine zQ ?_|refine zP ?_|refine zZ ?_|refine Zd ?_|refine zw ?_|refine zp ?_|refine z5 ?_)|((with_reducible first|refine ks fun K hK=>?_|refine kd fun K hK=>?_|refine kc fun K hK2 hK hK3=>?_);simp (disch:=omega) only [bg0,bg1,bg2,bg3,bg4,zt,zS,eff,AX.ev,St.put,zO,zK,ap1,zi,simprocAttr,zu,AV.cells,AV.fine,AV.one,zY,zq,live,zo,rdA,zg,wrA,zI,zr,zW,zT,zV,zk,zb,zm,zj,ze,cut,id,ap2,zx,zy,geB,AOp.cls,AOp.xs,ltB,ltC,Option.toList,List.cons_append,decide_eq_true,decide_eq_false,if_pos,if_neg,List.length_map,zH,bVb,bVn,eq_self,Bool.and_self,BEq.rfl,not_true_eq_false,Zj,List.length_set,e1,e2,e3,hn,hg];(with_reducible first|(refine hK _ ?_;clear hK K)|(refine hK ?_;clear hK hK3 K hK2)|(refine hK3 ?_;clear hK hK3 K hK2)))|((with_reducible refine khs 129 ?_ ?_ ?_ ?_);rotate_left 2;exact (swp46 G C g (m - i) (m+j - i) i (by omega) (by omega) (by omega) cf)))
   exact ⟨rfl,j,by omega,i,j - i,_,by omega,rfl,rfl,rfl,by rw [xh,hl],hi,by omega,hi2,by omega,by rw [rt_lt (by omega) hi (by omega) (by omega)];exact hpx⟩
end Go.Proofs.YtdodckipblafmaaGreatDoor.Sim.Pr7
