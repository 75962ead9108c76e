/- Texts of this claim, part 5. -/
import Derived.Below
import Derived.BigQuiet
import Derived.Deep.Draws
import Derived.Deep.QuietTactic
import Derived.Laws.BitsAllLaws
import Derived.Lib.BitFns
import Derived.Lib.Hide
import Derived.Lib.Tables
import Derived.Lib.TrailingZeros
import Derived.Outline
import Derived.ProofKit
import Derived.Test.YtfocijljkkfonaaDoorMHeapSame4
import Derived.Test.YtfocijljkkfonaaDoorProg
import Derived.Test.YtfocijljkkfonaaDoorRows
import Derived.WalkKit
import Derived.WalkLawsBesides
import Derived.WalkSpells
set_option linter.unusedVariables false
set_option linter.unusedSimpArgs false
namespace Go.Proofs.YtfocijljkkfonaaDoor.Sim
open Go.RowKit
set_option maxRecDepth 100000
open Go.Proofs.YtfocijljkkfonaaDoor.Dz Go.Lib
theorem dec_len:∀ (k u:Nat),u < 10 ^ (k+1)->(decDigits u).length<=k+1:=by
 intro k
 induction k with
 | zero =>
  intro u h
  rw [decDigits,dif_pos (by simpa using h)];simp
 | succ k ih =>
  intro u h
  rw [decDigits]
  split
  ·simp
  ·rename_i hu
   have:=ih (u / 10) (by rw [Nat.pow_succ] at h;omega)
   simp;omega
theorem Xv {u:Nat} (h:u < 9223372036854775808):(decDigits u).length<=20:=dec_len 19 u (by omega)
theorem strB_list (l:List UInt8):(Z6 l).data.toList=l:=rfl
theorem yZ (l:List UInt8):(Z6 l).size=l.length:=rfl
def ItC (G:Nat->AV):Prop:=∀ n:Nat,n < 9223372036854775808->PC Tryd.prog G 42 [I n] (S (Z6 (decDigits n)))
def bX:OB:=⟨84,1,[.fn 40 [.oa 2 0 0 0]],0,0⟩
def bO2 (g n:Nat):OB:=⟨77,2,[.agg [.oa 2 0 0 0,.ol 4 g n]],0,0⟩
section
variable (G:Nat->AV) (hI:ItC G)
include hI
set_option maxHeartbeats 4000000 in
theorem num40a (n:Nat) (hn:n < 9223372036854775808):HC Tryd.prog G 40 [I n,.oa 0 0 0 0] [bO0] (.tup []) [bO 1 (num n).length,bD (num n) 1]:=by
 have hd:=Xv hn
 have hp:=List.length_pos_iff.2 (dec_ne n)
 have c1:=hI n hn
 have c2:=ws41a G (Z6 (decDigits n)) (by rw [yZ];exact hp) (by rw [yZ];omega)
 have c3:=wb43 G (decDigits n) 0 32 (by omega)
 rw [strB_list,yZ] at c2
 have h1:=Z3 (num n)
 show HC Tryd.prog G 40 [I n,.oa 0 0 0 0] [bO0] (.tup []) [bO 1 (decDigits n++[32]).length,bD (decDigits n++[32]) 1]
 generalize decDigits n=D at *
 have h2:=Z3 D
 refine ZR cop40 rfl ?_
 unfold bO0 bO bD at *
 repeat' ((conv=>whnf);first|(refine SeqP.go ?_)|((refine ObC.f 42 ?_);(refine ObC.mk _ (c1) ?_))|((refine ObH.f 41 ?_);(first|(with_reducible refine ObH.mk _ _ (c2) ?_)|(refine ObH.mk _ _ (c2) ?_)))|((refine ObH.f 43 ?_);(first|(with_reducible refine ObH.mk _ _ (c3) ?_)|(refine ObH.mk _ _ (c3) ?_)))|(exact ObEnd.eq rfl rfl))
set_option maxHeartbeats 4000000 in
theorem wg (L:List UInt8) (g:Nat) (hl:L.length<=900000) (n:Nat) (hn:n < 9223372036854775808):HC Tryd.prog G 40 [I n,.oa 0 0 0 0] [bO g L.length,bD L g] (.tup []) [bO (g+2) (L++num n).length,bD (L++num n) (g+2)]:=by
 have hd:=Xv hn
 have c1:=hI n hn
 have c2:=ws41 G L g (Z6 (decDigits n)) (by rw [yZ];omega)
 have c3:=wb43 G (L++decDigits n) (g+1) 32 (by simp;omega)
 rw [strB_list,yZ] at c2
 have h1:=Z3 L
 show HC Tryd.prog G 40 [I n,.oa 0 0 0 0] [bO g L.length,bD L g] (.tup []) [bO (g+2) (L++(decDigits n++[32])).length,bD (L++(decDigits n++[32])) (g+2)]
 rw [<- List.append_assoc]
 generalize decDigits n=D at *
 have h2:=Z3 (L++D)
 have h3:=Z3 (L++D++[32])
 refine ZR cop40 rfl ?_
 unfold bO bD at *
 repeat' ((conv=>whnf);first|(refine SeqP.go ?_)|((refine ObC.f 42 ?_);(refine ObC.mk _ (c1) ?_))|((refine ObH.f 41 ?_);(first|(with_reducible refine ObH.mk _ _ (c2) ?_)|(refine ObH.mk _ _ (c2) ?_)))|((refine ObH.f 43 ?_);(first|(with_reducible refine ObH.mk _ _ (c3) ?_)|(refine ObH.mk _ _ (c3) ?_)))|(exact ObEnd.eq rfl rfl))
set_option maxHeartbeats 4000000 in
theorem txt44 (r0 r1:OB) (L:List UInt8) (g:Nat) (hl:L.length<=900000) (s:ByteArray) (hs:s.size<=1000):HC Tryd.prog G 44 [S s,.oa 3 0 0 0,.oa 2 0 0 0] [r0,r1,bO2 g L.length,bX,bD L g] (.tup []) [r0,r1,bO2 (g+3) (L++txt s.data.toList).length,bX,bD (L++txt s.data.toList) (g+3)]:=by
 have e:=YG s
 have c1:=wg G hI L g hl s.size (by omega)
 have hd:=Xv (u:=s.size) (by omega)
 have c2:=ws41 G (L++num s.size) (g+2) s (by simp [num];omega)
 have h1:=Z3 L
 have e2:L++txt s.data.toList=(L++num s.size)++s.data.toList:=by rw [txt,e,List.append_assoc]
 rw [e2]
 generalize num s.size=D at *
 have h2:=Z3 (L++D)
 have h3:=Z3 (L++D++s.data.toList)
 refine ZR cop44 rfl ?_
 unfold bO bD bX bO2 at *
 repeat' ((conv=>whnf);first|(refine SeqP.go ?_)|((refine ObN.mk ?_ ?_);exact zN)|((with_reducible refine (?_:ObL _ _));(refine ObL.mk _ zL ?_))|((with_reducible refine (?_:ObU _ _));(refine ObU.mk _ zU ?_))|((with_reducible refine (?_:ObR _ _ _));(first|(refine ObR.mk _ zA ?_)|(refine ObR.map zX (fun x hx=>?_))|(refine ObR.mk _ rfl ?_)))|((refine ObH.f 40 ?_);refine ObH.frn _ Yy [(0,2,0),(g,4,g)] (c1) (by simp) rfl (by simp) ?_)|((refine ObH.f 41 ?_);refine ObH.frn _ Yy [(0,2,0),(g+2,4,g+2)] (c2) (by simp) rfl (by simp) ?_)|(exact ObEnd.eq rfl rfl)|((with_reducible refine ObRow.same ?_ ?_ ?_);exact zE;(focus (first|rfl|assumption|(simp;done))))|((with_reducible refine ObAs.mk ?_ ?_);(focus (first|rfl|(simp [rnB,rnC,rnL];done))))|((with_reducible refine (?_:ObRs _ _ _));(refine ObRs.mk _ rfl ?_))|((with_reducible refine ObBk.same ?_ ?_);(focus (first|rfl|assumption|(simp;done))))|((with_reducible refine (?_:ObBk _ _ _));(refine ObBk.lit [.agg _] rfl ?_))|((with_reducible refine ObRow.lit ?_ ?_);(focus (simp [rnB,rnC,rnL,AV.cells,rho];done))))
set_option maxHeartbeats 4000000 in
theorem txt44p (r0 r1 r5:OB) (L:List UInt8) (g:Nat) (hl:L.length<=900000) (s:ByteArray) (hs:s.size<=1000):HC Tryd.prog G 44 [S s,.oa 3 0 0 0,.oa 2 0 0 0] [r0,r1,bO2 g L.length,bX,bD L g,r5] (.tup []) [r0,r1,bO2 (g+3) (L++txt s.data.toList).length,bX,bD (L++txt s.data.toList) (g+3),r5]:=by
 have e:=YG s
 have c1:=wg G hI L g hl s.size (by omega)
 have hd:=Xv (u:=s.size) (by omega)
 have c2:=ws41 G (L++num s.size) (g+2) s (by simp [num];omega)
 have h1:=Z3 L
 have e2:L++txt s.data.toList=(L++num s.size)++s.data.toList:=by rw [txt,e,List.append_assoc]
 rw [e2]
 generalize num s.size=D at *
 have h2:=Z3 (L++D)
 have h3:=Z3 (L++D++s.data.toList)
 refine ZR cop44 rfl ?_
 unfold bO bD bX bO2 at *
 repeat' ((conv=>whnf);first|(refine SeqP.go ?_)|((refine ObN.mk ?_ ?_);exact zN)|((with_reducible refine (?_:ObL _ _));(refine ObL.mk _ zL ?_))|((with_reducible refine (?_:ObU _ _));(refine ObU.mk _ zU ?_))|((with_reducible refine (?_:ObR _ _ _));(first|(refine ObR.mk _ zA ?_)|(refine ObR.map zX (fun x hx=>?_))|(refine ObR.mk _ rfl ?_)))|((refine ObH.f 40 ?_);refine ObH.frn _ Yy [(0,2,0),(g,4,g)] (c1) (by simp) rfl (by simp) ?_)|((refine ObH.f 41 ?_);refine ObH.frn _ Yy [(0,2,0),(g+2,4,g+2)] (c2) (by simp) rfl (by simp) ?_)|(exact ObEnd.eq rfl rfl)|((with_reducible refine ObRow.same ?_ ?_ ?_);exact zE;(focus (first|rfl|assumption|(simp;done))))|((with_reducible refine ObAs.mk ?_ ?_);(focus (first|rfl|(simp [rnB,rnC,rnL];done))))|((with_reducible refine (?_:ObRs _ _ _));(refine ObRs.mk _ rfl ?_))|((with_reducible refine ObBk.same ?_ ?_);(focus (first|rfl|assumption|(simp;done))))|((with_reducible refine (?_:ObBk _ _ _));(refine ObBk.lit [.agg _] rfl ?_))|((with_reducible refine ObRow.lit ?_ ?_);(focus (simp [rnB,rnC,rnL,AV.cells,rho];done))))
end
end Go.Proofs.YtfocijljkkfonaaDoor.Sim
namespace Go.Proofs.YtfocijljkkfonaaDoor.Sim
open Go.RowKit
theorem Yl {k:Nat} {f:Nat->AV} {L:List AV}:(skp k f L).length=k+L.length:=by simp [skp]
theorem yF {k n:Nat} {f:Nat->AV} {L:List AV} (h:k<=n):(skp k f L).take n=skp k f (L.take (n - k)):=by
 unfold skp
 rw [List.take_append,List.take_of_length_le (by simpa using h)];simp
theorem yG {k n:Nat} {f:Nat->AV} {L:List AV} (h:k<=n):(skp k f L).drop n=L.drop (n - k):=by
 unfold skp
 rw [List.drop_append,List.drop_of_length_le (by simpa using h)];simp
theorem Ym {k:Nat} {f:Nat->AV} {L M:List AV}:skp k f L++M=skp k f (L++M):=by simp [skp]
theorem bg0:type_of% (And.intro @List.set_cons_succ.{0} (And.intro @List.set_cons_zero.{0} (And.intro @List.getD_cons_succ.{0} (And.intro @List.getD_cons_zero.{0} (And.intro @Option.map_some.{0,0} (And.intro @uV_not (And.intro @Wp (And.intro @scal_bool (And.intro @scal_int (And.intro @scal_string (And.intro @scal_float (And.intro @scal_ptr0 (And.intro @scal_ptr (And.intro @scal_map0 (And.intro @scal_nilFunc (And.intro @scal_nilIface (And.intro @scal_agg (And.intro @scal_tuple (And.intro @scal_slice (And.intro @if_true.{1} (And.intro @if_false.{1} (And.intro @bV_add (And.intro @bV_sub (And.intro @bV_mul (And.intro @bV_quo (And.intro @bV_rem (And.intro @bV_eq (And.intro @bV_ne (And.intro @bV_lt (And.intro @bV_le (And.intro @bV_gt (And.intro @bV_ge (And.intro @XX (And.intro @decide_true (And.intro @decide_false (And.intro @Bool.not_true (And.intro @Bool.not_false (And.intro @Bool.false_eq_true (And.intro @Bool.true_eq_false (And.intro @and_self (And.intro @and_true (And.intro @true_and (And.intro @List.length_cons.{0} (And.intro @List.length_nil.{0} (And.intro @List.all_cons.{0} (True.intro)))))))))))))))))))))))))))))))))))))))))))))):=And.intro @List.set_cons_succ.{0} (And.intro @List.set_cons_zero.{0} (And.intro @List.getD_cons_succ.{0} (And.intro @List.getD_cons_zero.{0} (And.intro @Option.map_some.{0,0} (And.intro @uV_not (And.intro @Wp (And.intro @scal_bool (And.intro @scal_int (And.intro @scal_string (And.intro @scal_float (And.intro @scal_ptr0 (And.intro @scal_ptr (And.intro @scal_map0 (And.intro @scal_nilFunc (And.intro @scal_nilIface (And.intro @scal_agg (And.intro @scal_tuple (And.intro @scal_slice (And.intro @if_true.{1} (And.intro @if_false.{1} (And.intro @bV_add (And.intro @bV_sub (And.intro @bV_mul (And.intro @bV_quo (And.intro @bV_rem (And.intro @bV_eq (And.intro @bV_ne (And.intro @bV_lt (And.intro @bV_le (And.intro @bV_gt (And.intro @bV_ge (And.intro @XX (And.intro @decide_true (And.intro @decide_false (And.intro @Bool.not_true (And.intro @Bool.not_false (And.intro @Bool.false_eq_true (And.intro @Bool.true_eq_false (And.intro @and_self (And.intro @and_true (And.intro @true_and (And.intro @List.length_cons.{0} (And.intro @List.length_nil.{0} (And.intro @List.all_cons.{0} (True.intro)))))))))))))))))))))))))))))))))))))))))))))
theorem bg1:type_of% (And.intro @List.all_nil.{0} (And.intro @List.map_cons.{0,0} (And.intro @List.map_nil.{0,0} (And.intro @List.take_succ_cons.{0} (And.intro @List.take_zero.{0} (And.intro @List.drop_succ_cons.{0} (And.intro @List.drop_zero.{0} (And.intro @List.cons_append.{0} (And.intro @List.nil_append.{0} (And.intro @List.append_nil.{0} (And.intro @Bool.and_self (And.intro @Bool.and_true (And.intro @Bool.true_and (And.intro @Int.toNat_natCast (And.intro @Int.toNat_natCast_add_one (And.intro @Int.add_sub_cancel (And.intro @Nat.le_refl (And.intro @List.getElem?_cons_zero.{0} (And.intro @List.getElem?_cons_succ.{0} (And.intro @List.getElem?_nil.{0} (And.intro @Bool.or_true (And.intro @Bool.or_false (And.intro @Bool.true_or (And.intro @Bool.false_or (And.intro @Bool.and_false (And.intro @Bool.false_and (And.intro @Option.isSome_some.{0} (And.intro @ne_eq.{1} (And.intro @not_true_eq_false (And.intro @not_false_eq_true (And.intro @Nat.zero_le (And.intro @Nat.add_zero (And.intro @Nat.zero_add (And.intro @List.headD_cons.{0} (And.intro @ZQ (And.intro @Int.natCast_zero (And.intro @Int.natCast_one (And.intro @Int.cast_ofNat_Int (And.intro @Int.natCast_add (And.intro @List.replicate_zero.{0} (And.intro @List.replicate_succ.{0} (And.intro @Option.getD_some.{0} (And.intro @Option.getD_none.{0} (And.intro @Option.bind_some.{0,0} (And.intro @Option.bind_none.{0,0} (True.intro)))))))))))))))))))))))))))))))))))))))))))))):=And.intro @List.all_nil.{0} (And.intro @List.map_cons.{0,0} (And.intro @List.map_nil.{0,0} (And.intro @List.take_succ_cons.{0} (And.intro @List.take_zero.{0} (And.intro @List.drop_succ_cons.{0} (And.intro @List.drop_zero.{0} (And.intro @List.cons_append.{0} (And.intro @List.nil_append.{0} (And.intro @List.append_nil.{0} (And.intro @Bool.and_self (And.intro @Bool.and_true (And.intro @Bool.true_and (And.intro @Int.toNat_natCast (And.intro @Int.toNat_natCast_add_one (And.intro @Int.add_sub_cancel (And.intro @Nat.le_refl (And.intro @List.getElem?_cons_zero.{0} (And.intro @List.getElem?_cons_succ.{0} (And.intro @List.getElem?_nil.{0} (And.intro @Bool.or_true (And.intro @Bool.or_false (And.intro @Bool.true_or (And.intro @Bool.false_or (And.intro @Bool.and_false (And.intro @Bool.false_and (And.intro @Option.isSome_some.{0} (And.intro @ne_eq.{1} (And.intro @not_true_eq_false (And.intro @not_false_eq_true (And.intro @Nat.zero_le (And.intro @Nat.add_zero (And.intro @Nat.zero_add (And.intro @List.headD_cons.{0} (And.intro @ZQ (And.intro @Int.natCast_zero (And.intro @Int.natCast_one (And.intro @Int.cast_ofNat_Int (And.intro @Int.natCast_add (And.intro @List.replicate_zero.{0} (And.intro @List.replicate_succ.{0} (And.intro @Option.getD_some.{0} (And.intro @Option.getD_none.{0} (And.intro @Option.bind_some.{0,0} (And.intro @Option.bind_none.{0,0} (True.intro)))))))))))))))))))))))))))))))))))))))))))))
theorem bg2:type_of% (And.intro @Option.map_none.{0,0} (And.intro @List.set_nil.{0} (And.intro @decide_eq_true_eq (And.intro @Nat.lt_irrefl (And.intro @gt_iff_lt.{0} (And.intro @ge_iff_le.{0} (And.intro @Int.lt_irrefl (And.intro @List.isEmpty_nil.{0} (And.intro @fnA_fn (And.intro @fnA_v (And.intro @eqsA_t (And.intro @eqsA_f (And.intro @eqCs_int (And.intro @eqCs_str (And.intro @eqCs_bool (And.intro @eqCs_nil (And.intro @skp_get (And.intro @skp_set (And.intro @bi_min (And.intro @bi_max (And.intro @bV_seq (And.intro @bV_sne (And.intro @bV_slt (And.intro @bV_sgt (And.intro @bV_sle (And.intro @bV_sge (And.intro @Bool.not_not (And.intro @BEq.rfl.{0} (And.intro @beq_self_eq_true.{0} (And.intro @yP (And.intro @yJ (And.intro @yO (And.intro @yI (And.intro @yN (And.intro @yH (And.intro @gj3_0 (And.intro @sj3_0 (And.intro @gj3_1 (And.intro @sj3_1 (And.intro @gj3_2 (And.intro @sj3_2 (And.intro @gj4_0 (And.intro @sj4_0 (And.intro @gj4_1 (And.intro @sj4_1 (True.intro)))))))))))))))))))))))))))))))))))))))))))))):=And.intro @Option.map_none.{0,0} (And.intro @List.set_nil.{0} (And.intro @decide_eq_true_eq (And.intro @Nat.lt_irrefl (And.intro @gt_iff_lt.{0} (And.intro @ge_iff_le.{0} (And.intro @Int.lt_irrefl (And.intro @List.isEmpty_nil.{0} (And.intro @fnA_fn (And.intro @fnA_v (And.intro @eqsA_t (And.intro @eqsA_f (And.intro @eqCs_int (And.intro @eqCs_str (And.intro @eqCs_bool (And.intro @eqCs_nil (And.intro @skp_get (And.intro @skp_set (And.intro @bi_min (And.intro @bi_max (And.intro @bV_seq (And.intro @bV_sne (And.intro @bV_slt (And.intro @bV_sgt (And.intro @bV_sle (And.intro @bV_sge (And.intro @Bool.not_not (And.intro @BEq.rfl.{0} (And.intro @beq_self_eq_true.{0} (And.intro @yP (And.intro @yJ (And.intro @yO (And.intro @yI (And.intro @yN (And.intro @yH (And.intro @gj3_0 (And.intro @sj3_0 (And.intro @gj3_1 (And.intro @sj3_1 (And.intro @gj3_2 (And.intro @sj3_2 (And.intro @gj4_0 (And.intro @sj4_0 (And.intro @gj4_1 (And.intro @sj4_1 (True.intro)))))))))))))))))))))))))))))))))))))))))))))
theorem bg3:type_of% (And.intro @gj4_2 (And.intro @sj4_2 (And.intro @gj4_3 (And.intro @sj4_3 (And.intro @gj5_0 (And.intro @sj5_0 (And.intro @gj5_1 (And.intro @sj5_1 (And.intro @gj5_2 (And.intro @sj5_2 (And.intro @gj5_3 (And.intro @sj5_3 (And.intro @gj5_4 (And.intro @sj5_4 (And.intro @gj6_0 (And.intro @sj6_0 (And.intro @gj6_1 (And.intro @sj6_1 (And.intro @gj6_2 (And.intro @sj6_2 (And.intro @gj6_3 (And.intro @sj6_3 (And.intro @gj6_4 (And.intro @sj6_4 (And.intro @gj6_5 (And.intro @sj6_5 (And.intro @gj7_0 (And.intro @sj7_0 (And.intro @gj7_1 (And.intro @sj7_1 (And.intro @gj7_2 (And.intro @sj7_2 (And.intro @gj7_3 (And.intro @sj7_3 (And.intro @gj7_4 (And.intro @sj7_4 (And.intro @gj7_5 (And.intro @sj7_5 (And.intro @gj7_6 (And.intro @sj7_6 (And.intro @gj8_0 (And.intro @sj8_0 (And.intro @gj8_1 (And.intro @sj8_1 (And.intro @gj8_2 (True.intro)))))))))))))))))))))))))))))))))))))))))))))):=And.intro @gj4_2 (And.intro @sj4_2 (And.intro @gj4_3 (And.intro @sj4_3 (And.intro @gj5_0 (And.intro @sj5_0 (And.intro @gj5_1 (And.intro @sj5_1 (And.intro @gj5_2 (And.intro @sj5_2 (And.intro @gj5_3 (And.intro @sj5_3 (And.intro @gj5_4 (And.intro @sj5_4 (And.intro @gj6_0 (And.intro @sj6_0 (And.intro @gj6_1 (And.intro @sj6_1 (And.intro @gj6_2 (And.intro @sj6_2 (And.intro @gj6_3 (And.intro @sj6_3 (And.intro @gj6_4 (And.intro @sj6_4 (And.intro @gj6_5 (And.intro @sj6_5 (And.intro @gj7_0 (And.intro @sj7_0 (And.intro @gj7_1 (And.intro @sj7_1 (And.intro @gj7_2 (And.intro @sj7_2 (And.intro @gj7_3 (And.intro @sj7_3 (And.intro @gj7_4 (And.intro @sj7_4 (And.intro @gj7_5 (And.intro @sj7_5 (And.intro @gj7_6 (And.intro @sj7_6 (And.intro @gj8_0 (And.intro @sj8_0 (And.intro @gj8_1 (And.intro @sj8_1 (And.intro @gj8_2 (True.intro)))))))))))))))))))))))))))))))))))))))))))))
theorem bg4:type_of% (And.intro @sj8_2 (And.intro @gj8_3 (And.intro @sj8_3 (And.intro @gj8_4 (And.intro @sj8_4 (And.intro @gj8_5 (And.intro @sj8_5 (And.intro @gj8_6 (And.intro @sj8_6 (And.intro @gj8_7 (And.intro @sj8_7 (And.intro @gj9_0 (And.intro @sj9_0 (And.intro @gj9_1 (And.intro @sj9_1 (And.intro @gj9_2 (And.intro @sj9_2 (And.intro @gj9_3 (And.intro @sj9_3 (And.intro @gj9_4 (And.intro @sj9_4 (And.intro @gj9_5 (And.intro @sj9_5 (And.intro @gj9_6 (And.intro @sj9_6 (And.intro @gj9_7 (And.intro @sj9_7 (And.intro @gj9_8 (And.intro @sj9_8 (And.intro @ZG (True.intro))))))))))))))))))))))))))))))):=And.intro @sj8_2 (And.intro @gj8_3 (And.intro @sj8_3 (And.intro @gj8_4 (And.intro @sj8_4 (And.intro @gj8_5 (And.intro @sj8_5 (And.intro @gj8_6 (And.intro @sj8_6 (And.intro @gj8_7 (And.intro @sj8_7 (And.intro @gj9_0 (And.intro @sj9_0 (And.intro @gj9_1 (And.intro @sj9_1 (And.intro @gj9_2 (And.intro @sj9_2 (And.intro @gj9_3 (And.intro @sj9_3 (And.intro @gj9_4 (And.intro @sj9_4 (And.intro @gj9_5 (And.intro @sj9_5 (And.intro @gj9_6 (And.intro @sj9_6 (And.intro @gj9_7 (And.intro @sj9_7 (And.intro @gj9_8 (And.intro @sj9_8 (And.intro @ZG (True.intro))))))))))))))))))))))))))))))
set_option maxRecDepth 100000
abbrev Pr:=ByteArray × ByteArray
def pA (p:Pr):AV:=.agg [S p.1,S p.2]
def iA (n:Int):AV:=I n
theorem Zo {l:List Pr} {k:Nat} (h:k < l.length):(l.map pA)[k]? = some (.agg [S l[k].1,S l[k].2]):=by simp [h,pA]
theorem yd {l:List Int} {k:Nat} (h:k < l.length):(l.map iA)[k]? = some (I l[k]):=by simp [h,iA]
def yY (s:ByteArray) (m:Nat):ByteArray:=s.extract 0 (min s.size m)
set_option maxHeartbeats 4000000 in
theorem cutP (G:Nat->AV) (s:ByteArray) (m:Nat) (hs:s.size<=9223372036854775807):PC Tryd.prog G 28 [S s,I m] (S (yY s m)):=by
 have e:(if (m:Int) < (s.size:Int) then (m:Int) else (s.size:Int))=((min s.size m:Nat):Int):=by split<;>omega
 have e2:zh Tryd.prog (Instr.sliceAt 9 (.string s) none (some (.int .i64 ((min s.size m:Nat):Int))) none)=some (.string (yY s m)):=by
  rw [cutV X2 (by omega) (by omega)];rfl
 refine xk cop28 ?_
 show W _ _ _ _ ⟨_,_⟩;simp only [A28,YM,YN,List.cons_append,List.nil_append,List.length_cons,List.length_nil,Nat.reduceAdd,Nat.reduceSub,List.replicate]
 repeat (first|(with_reducible first|refine Zn ?_|refine Zj ?_|refine zG ?_|refine zH ?_|refine yD ?_)|((with_reducible first|refine ks fun K hK=>?_|refine kd fun K hK=>?_|refine kc fun K hK2 hK hK3=>?_|refine XC fun K hR=>?_|refine YK rfl fun K hR=>?_|refine yL fun K hR=>?_);simp (disch:=omega) only [bg0,bg1,bg2,bg3,bg4,zw,z6,eff,AX.ev,St.put,zY,zW,ap1,zk,simprocAttr,zx,AV.cells,AV.fine,AV.one,Zr,zt,live,zr,rdA,zi,wrA,zR,zu,Zp,z8,Zm,zo,zb,zq,zp,zg,cut,id,ap2,zy,Zq,geB,AOp.cls,AOp.xs,ltB,ltC,Option.toList,List.cons_append,decide_eq_true,decide_eq_false,if_pos,if_neg,List.length_map,Zo,yd,bVb,bVn,eq_self,Bool.and_self,BEq.rfl,not_true_eq_false,e,e2];(first|(with_reducible first|(refine hK _ ?_;clear hK K)|(refine hK ?_;clear hK hK3 K hK2)|(refine hK3 ?_;clear hK hK3 K hK2))|((with_reducible refine hR _ ?_ ?_ ?_ ?_);rotate_left 2;rfl;rfl)|((with_reducible refine hR _ ?_);rfl))))
def fw (l:List Pr) (k:Nat):List AV:=((l.take k).map fun p=>(yY p.1 40,yY p.2 40)).map pA
theorem fw_len {l:List Pr} {k:Nat} (h:k<=l.length):(fw l k).length=k:=by simp [fw];omega
theorem fw_take {l:List Pr} {k:Nat}:(fw l k).take k=fw l k:=by
 apply List.take_of_length_le
 simp [fw];omega
theorem fw_succ {l:List Pr} {k:Nat} (h:k < l.length):fw l k++[.agg [S (yY l[k].1 40),S (yY l[k].2 40)]]=fw l (k+1):=by
 unfold fw
 rw [List.take_add_one,List.getElem?_eq_getElem h]
 simp only [List.map_append,Option.toList_some,List.map_cons,List.map_nil]
 rfl
theorem all_pA (l:List Pr):(l.map pA).all AV.isP=true:=by simp [pA,AV.isP,AV.isC,AV.isC0]
theorem all_iA (l:List Int):(l.map iA).all AV.isP=true:=by simp [iA,AV.isP,AV.isC,AV.isC0]
set_option maxHeartbeats 4000000 in
theorem few07 (G:Nat->AV) (l:List Pr) (hl:l.length<=9223372036854775807) (hs:∀ p ∈ l,p.1.size<=9223372036854775807/\p.2.size<=9223372036854775807):PC Tryd.prog G 29 [.sl 2 (l.map pA)] (.sl 2 (fw l (min l.length 40))):=by
 obtain ⟨N,hN⟩:∃ N,N=min l.length 40:=⟨_,rfl⟩
 rw [<- hN]
 refine xk cop29 ?_
 show W _ _ _ _ ⟨_,_⟩;simp only [A29,YB,YC,YCg,YE,YF,YI,YL,YM,YMg,YN,YPc,List.cons_append,List.nil_append,List.length_cons,List.length_nil,Nat.reduceAdd,Nat.reduceSub,List.replicate]
 repeat (first|(with_reducible first|refine Zn ?_|refine Zj ?_|refine Zl ?_|refine zG ?_|refine zH ?_)|((with_reducible first|refine ks fun K hK=>?_|refine kd fun K hK=>?_|refine kc fun K hK2 hK hK3=>?_);simp (disch:=omega) only [bg0,bg1,bg2,bg3,bg4,zw,z6,eff,AX.ev,St.put,zY,zW,ap1,zk,simprocAttr,zx,AV.cells,AV.fine,AV.one,Zr,zt,live,zr,rdA,zi,wrA,zR,zu,Zp,z8,Zm,zo,zb,zq,zp,zg,cut,id,ap2,zy,Zq,geB,AOp.cls,AOp.xs,ltB,ltC,Option.toList,List.cons_append,decide_eq_true,decide_eq_false,if_pos,if_neg,List.length_map,Zo,yd,bVb,bVn,eq_self,Bool.and_self,BEq.rfl,not_true_eq_false];(with_reducible first|(refine hK _ ?_;clear hK K)|(refine hK ?_;clear hK hK3 K hK2)|(refine hK3 ?_;clear hK hK3 K hK2))))
 refine w_loop_n (fun k st=>∃ (g:List AV) (J:Hp),g.length=28/\st=⟨[.sl 2 (l.map pA),zd,.nl 2,.ol 0 k k,I k]++g,⟨62,2,fw l k,k,0⟩::J⟩) N ⟨_,[],?hg,rfl⟩ ?_ ?_
 case hg=>rfl
 ·rintro k st hk ⟨g, J, hg, rfl⟩
  (obtain ⟨g0,g0t,rfl,hg0⟩:=ze hg;clear hg;obtain ⟨g1,g1t,rfl,hg1⟩:=ze hg0;clear hg0;obtain ⟨g2,g2t,rfl,hg2⟩:=ze hg1;clear hg1;obtain ⟨g3,g3t,rfl,hg3⟩:=ze hg2;clear hg2;obtain ⟨g4,g4t,rfl,hg4⟩:=ze hg3;clear hg3;obtain ⟨g5,g5t,rfl,hg5⟩:=ze hg4;clear hg4;obtain ⟨g6,g6t,rfl,hg6⟩:=ze hg5;clear hg5;obtain ⟨g7,g7t,rfl,hg7⟩:=ze hg6;clear hg6;obtain ⟨g8,g8t,rfl,hg8⟩:=ze hg7;clear hg7;obtain ⟨g9,g9t,rfl,hg9⟩:=ze hg8;clear hg8;obtain ⟨g10,g10t,rfl,hg10⟩:=ze hg9;clear hg9;obtain ⟨g11,g11t,rfl,hg11⟩:=ze hg10;clear hg10;obtain ⟨g12,g12t,rfl,hg12⟩:=ze hg11;clear hg11;obtain ⟨g13,g13t,rfl,hg13⟩:=ze hg12;clear hg12;obtain ⟨g14,g14t,rfl,hg14⟩:=ze hg13;clear hg13;obtain ⟨g15,g15t,rfl,hg15⟩:=ze hg14;clear hg14;obtain ⟨g16,g16t,rfl,hg16⟩:=ze hg15;clear hg15;obtain ⟨g17,g17t,rfl,hg17⟩:=ze hg16;clear hg16;obtain ⟨g18,g18t,rfl,hg18⟩:=ze hg17;clear hg17;obtain ⟨g19,g19t,rfl,hg19⟩:=ze hg18;clear hg18;obtain ⟨g20,g20t,rfl,hg20⟩:=ze hg19;clear hg19;obtain ⟨g21,g21t,rfl,hg21⟩:=ze hg20;clear hg20;obtain ⟨g22,g22t,rfl,hg22⟩:=ze hg21;clear hg21;obtain ⟨g23,g23t,rfl,hg23⟩:=ze hg22;clear hg22;obtain ⟨g24,g24t,rfl,hg24⟩:=ze hg23;clear hg23;obtain ⟨g25,g25t,rfl,hg25⟩:=ze hg24;clear hg24;obtain ⟨g26,g26t,rfl,hg26⟩:=ze hg25;clear hg25;obtain ⟨g27,g27t,rfl,hg27⟩:=ze hg26;clear hg26;obtain rfl:=List.length_eq_zero_iff.mp hg27;clear hg27)
  simp only [List.cons_append,List.nil_append]
  have hk1:k < l.length:=by omega
  have h1:=(hs l[k] (List.getElem_mem hk1)).1
  have h2:=(hs l[k] (List.getElem_mem hk1)).2
  have h3:=fw_len (l:=l) (k:=k) (by omega)
  have h4:=fw_succ hk1
  repeat (first|(with_reducible first|refine Zn ?_|refine Zj ?_|refine Z5 ?_|refine Zl ?_|refine ZB ?_|refine zG ?_|refine ZV ?_|refine zH ?_|refine Zk ?_)|((with_reducible refine kgs_t ?_ ?_);rfl)|((with_reducible first|refine ks fun K hK=>?_|refine kd fun K hK=>?_|refine kc fun K hK2 hK hK3=>?_);simp (disch:=omega) only [bg0,bg1,bg2,bg3,bg4,zw,z6,eff,AX.ev,St.put,zY,zW,ap1,zk,simprocAttr,zx,AV.cells,AV.fine,AV.one,Zr,zt,live,zr,rdA,zi,wrA,zR,zu,Zp,z8,Zm,zo,zb,zq,zp,zg,cut,id,ap2,zy,Zq,geB,AOp.cls,AOp.xs,ltB,ltC,Option.toList,List.cons_append,decide_eq_true,decide_eq_false,if_pos,if_neg,List.length_map,Zo,yd,bVb,bVn,eq_self,Bool.and_self,BEq.rfl,not_true_eq_false,h3,fw_take,h4];(with_reducible first|(refine hK _ ?_;clear hK K)|(refine hK ?_;clear hK hK3 K hK2)|(refine hK3 ?_;clear hK hK3 K hK2)))|((first|((with_reducible refine kpd 28 ?_ ?_ ?_ ?_ ?_);rotate_left 1));(focus (simp (disch:=omega) only [bg0,bg1,bg2,bg3,bg4,zw,z6,eff,AX.ev,St.put,zY,zW,ap1,zk,simprocAttr,zx,AV.cells,AV.fine,AV.one,Zr,zt,live,zr,rdA,zi,wrA,zR,zu,Zp,z8,Zm,zo,zb,zq,zp,zg,cut,id,ap2,zy,Zq,geB,AOp.cls,AOp.xs,ltB,ltC,Option.toList,List.cons_append,decide_eq_true,decide_eq_false,if_pos,if_neg,List.length_map,Zo,yd,bVb,bVn,eq_self,Bool.and_self,BEq.rfl,not_true_eq_false,h3,fw_take,h4];try rfl));(first|(rfl;exact (by refine cutP G _ 40 ?_;assumption)))))
  exact ⟨_,_,rfl,rfl⟩
 ·rintro st ⟨g, J, hg, rfl⟩
  (obtain ⟨g0,g0t,rfl,hg0⟩:=ze hg;clear hg;obtain ⟨g1,g1t,rfl,hg1⟩:=ze hg0;clear hg0;obtain ⟨g2,g2t,rfl,hg2⟩:=ze hg1;clear hg1;obtain ⟨g3,g3t,rfl,hg3⟩:=ze hg2;clear hg2;obtain ⟨g4,g4t,rfl,hg4⟩:=ze hg3;clear hg3;obtain ⟨g5,g5t,rfl,hg5⟩:=ze hg4;clear hg4;obtain ⟨g6,g6t,rfl,hg6⟩:=ze hg5;clear hg5;obtain ⟨g7,g7t,rfl,hg7⟩:=ze hg6;clear hg6;obtain ⟨g8,g8t,rfl,hg8⟩:=ze hg7;clear hg7;obtain ⟨g9,g9t,rfl,hg9⟩:=ze hg8;clear hg8;obtain ⟨g10,g10t,rfl,hg10⟩:=ze hg9;clear hg9;obtain ⟨g11,g11t,rfl,hg11⟩:=ze hg10;clear hg10;obtain ⟨g12,g12t,rfl,hg12⟩:=ze hg11;clear hg11;obtain ⟨g13,g13t,rfl,hg13⟩:=ze hg12;clear hg12;obtain ⟨g14,g14t,rfl,hg14⟩:=ze hg13;clear hg13;obtain ⟨g15,g15t,rfl,hg15⟩:=ze hg14;clear hg14;obtain ⟨g16,g16t,rfl,hg16⟩:=ze hg15;clear hg15;obtain ⟨g17,g17t,rfl,hg17⟩:=ze hg16;clear hg16;obtain ⟨g18,g18t,rfl,hg18⟩:=ze hg17;clear hg17;obtain ⟨g19,g19t,rfl,hg19⟩:=ze hg18;clear hg18;obtain ⟨g20,g20t,rfl,hg20⟩:=ze hg19;clear hg19;obtain ⟨g21,g21t,rfl,hg21⟩:=ze hg20;clear hg20;obtain ⟨g22,g22t,rfl,hg22⟩:=ze hg21;clear hg21;obtain ⟨g23,g23t,rfl,hg23⟩:=ze hg22;clear hg22;obtain ⟨g24,g24t,rfl,hg24⟩:=ze hg23;clear hg23;obtain ⟨g25,g25t,rfl,hg25⟩:=ze hg24;clear hg24;obtain ⟨g26,g26t,rfl,hg26⟩:=ze hg25;clear hg25;obtain ⟨g27,g27t,rfl,hg27⟩:=ze hg26;clear hg26;obtain rfl:=List.length_eq_zero_iff.mp hg27;clear hg27)
  simp only [List.cons_append,List.nil_append]
  have h3:=fw_len (l:=l) (k:=N) (by omega)
  by_cases h40:l.length<=40
  all_goals
   repeat (first|(with_reducible first|refine Zn ?_|refine Zj ?_|refine ZY ?_|refine zG ?_|refine zH ?_|refine ZC ?_|refine Zu ?_|refine yD ?_)|((with_reducible refine kgs_t ?_ ?_);rfl)|((with_reducible refine kgs_f ?_ ?_);rfl)|((with_reducible first|refine ks fun K hK=>?_|refine kd fun K hK=>?_|refine kc fun K hK2 hK hK3=>?_);simp (disch:=omega) only [bg0,bg1,bg2,bg3,bg4,zw,z6,eff,AX.ev,St.put,zY,zW,ap1,zk,simprocAttr,zx,AV.cells,AV.fine,AV.one,Zr,zt,live,zr,rdA,zi,wrA,zR,zu,Zp,z8,Zm,zo,zb,zq,zp,zg,cut,id,ap2,zy,Zq,geB,AOp.cls,AOp.xs,ltB,ltC,Option.toList,List.cons_append,decide_eq_true,decide_eq_false,if_pos,if_neg,List.length_map,Zo,yd,bVb,bVn,eq_self,Bool.and_self,BEq.rfl,not_true_eq_false];(with_reducible first|(refine hK _ ?_;clear hK K)|(refine hK ?_;clear hK hK3 K hK2)|(refine hK3 ?_;clear hK hK3 K hK2))))
   refine yL fun K hK=>?_
   simp only [z6,List.getD_cons_succ,List.getD_cons_zero]
   refine hK _ ?_ ?_ ?_ ?_
   rotate_left 2
   simp only [yv,pur,ZL,List.getElem?_cons_zero,h3,fw_take,Nat.le_refl,and_self,and_true,true_and]
   rw [if_pos ⟨by unfold fw;exact all_pA _,rfl⟩]
   rfl
theorem eq_len {α:Type} [DecidableEq α] {a b:List α} {r:Bool} (hr:r=decide (a=b)) (h:¬ a.length=b.length):r=false:=by
 rw [hr];exact decide_eq_false (fun e=>h (by rw [e]))
theorem eq_at {α:Type} [DecidableEq α] {a b:List α} {r:Bool} (hr:r=decide (a=b)) {k:Nat} (h1:k < a.length) (h2:k < b.length) (h:¬ a[k]=b[k]):r=false:=by
 rw [hr];exact decide_eq_false (fun e=>h (by subst e;rfl))
theorem eq_all {α:Type} [DecidableEq α] {a b:List α} {r:Bool} (hr:r=decide (a=b)) (hl:a.length=b.length) (h:a.take a.length=b.take a.length):r=true:=by
 rw [hr];refine decide_eq_true ?_
 rwa [List.take_length,hl,List.take_length] at h
theorem Xb {α:Type} {a b:List α} {k:Nat} (h:a.take k=b.take k) (h1:k < a.length) (h2:k < b.length) (he:a[k]=b[k]):a.take (k+1)=b.take (k+1):=by
 rw [List.take_add_one,List.take_add_one,List.getElem?_eq_getElem h1,List.getElem?_eq_getElem h2,h,he]
set_option maxHeartbeats 4000000 in
theorem eq40 (G:Nat->AV) (a b:List Int) (ha:a.length<=9223372036854775807) (hb0:b.length<=9223372036854775807) (r:Bool) (hr:r=decide (a=b)):PC Tryd.prog G 63 [.sl 1 (a.map iA),.sl 1 (b.map iA)] (Bo r):=by
 have la:(a.map iA).length=a.length:=by simp
 have lb:(b.map iA).length=b.length:=by simp
 by_cases hn:a.length=b.length
 case neg =>
  obtain rfl:=eq_len hr hn
  have hn':¬ (a.length:Int)=(b.length:Int):=by omega
  refine zf cop63 ?_
  repeat' ((conv=>whnf);first|(refine SeqP.go ?_)|((refine ObN.mk ?_ ?_);exact zN)|(refine ObT.tt ?_)|((refine ObB.no ?_ ?_);exact zC)|((with_reducible refine (?_:ObL _ _));(refine ObL.mk _ w7 ?_))|((refine ObEq.mk ?_);exact zE))
 have hn':(a.length:Int)=(b.length:Int):=by omega
 refine zf cop63 ?_
 repeat' ((conv=>whnf);first|(refine SeqP.go ?_)|((refine ObN.mk ?_ ?_);exact zN)|(refine ObT.ff ?_)|((refine ObB.yes ?_ ?_);exact zB)|((with_reducible refine (?_:ObL _ _));(refine ObL.mk _ w7 ?_)))
 conv=>whnf
 refine LoopP.go (α:=Nat) (fun k=>k<=a.length/\a.take k=b.take k) (fun k=>a.length - k) (fun k=>[(4,some (Bo false)),(0,none),(7,some (I (k:Nat))),(0,none),(0,none),(0,none),(0,none),(0,none),(0,none),(0,none),(0,none),(0,none),(0,none),(0,none),(0,none)]) (fun _=>[]) 0 ⟨Nat.zero_le _,rfl⟩ (Fg.go ?_ rfl) ?_
 ·repeat' ((conv=>whnf);first|((refine ObEqs.mk ?_ ?_);rfl)|((with_reducible refine ObEq1.i ?_ ?_);exact zF)|((with_reducible refine ObEq1.mk ?_ ?_);exact zE)|exact True.intro)
 rintro k ⟨hk,ht⟩
 by_cases hkl:k < a.length
 ·have hk3 : k < b.length := by omega
  have r1:=yd hkl
  have r2:=yd hk3
  by_cases he:a[k]=b[k]
  ·have hs := Xb ht hkl hk3 he
   rw [<- he] at r2
   generalize a[k]=y at *
   repeat' ((conv=>whnf);first|(refine SeqP.go ?_)|((refine ObD.mk ?_ ?_);exact zD)|((refine ObN.mk ?_ ?_);exact zN)|(with_reducible first|refine ObT.tt ?_|refine ObT.ff ?_)|((refine ObB.yes ?_ ?_);exact zB)|((with_reducible refine ObI.nl ?_ ?_);omega)|((refine ObX.mk _ rfl ?_ ?_);exact zX)|((with_reducible refine (?_:ObR _ _ _));(first|(refine ObR.mk _ (by assumption) ?_)|(refine ObR.mk _ (by exact r1) ?_)|(refine ObR.mk _ (by exact r2) ?_)|(refine ObR.mk _ yy ?_)|(refine ObR.map zX (fun x hx=>?_))|(refine ObR.mk _ rfl ?_))))
   all_goals conv=>whnf
   all_goals refine Again.mk (k+1) ⟨by omega,hs⟩ (by omega) (Fg.go ?_ rfl)
   all_goals repeat' ((conv=>whnf);first|((refine ObEqs.mk ?_ ?_);rfl)|((with_reducible refine ObEq1.i ?_ ?_);exact zF)|((with_reducible refine ObEq1.mk ?_ ?_);exact zE)|exact True.intro)
  ·obtain rfl := eq_at hr hkl hk3 he
   have he3:¬ a[k]=b[k]:=he
   clear hr
   generalize a[k]=y at *
   generalize b[k]=z at *
   repeat' ((conv=>whnf);first|(refine SeqP.go ?_)|((refine ObD.mk ?_ ?_);exact zD)|((refine ObN.mk ?_ ?_);exact zN)|(refine ObT.tt ?_)|((refine ObB.yes ?_ ?_);exact zB)|((refine ObB.no ?_ ?_);exact zC)|((refine ObX.mk _ rfl ?_ ?_);exact zX)|((with_reducible refine (?_:ObR _ _ _));(first|(refine ObR.mk _ (by assumption) ?_)|(refine ObR.mk _ (by exact r1) ?_)|(refine ObR.mk _ (by exact r2) ?_)|(refine ObR.mk _ yy ?_)|(refine ObR.map zX (fun x hx=>?_))|(refine ObR.mk _ rfl ?_)))|((refine ObEq.mk ?_);exact zE))
 ·obtain rfl : k = a.length := by omega
  obtain rfl:=eq_all hr hn ht
  repeat' ((conv=>whnf);first|(refine SeqP.go ?_)|((refine ObN.mk ?_ ?_);exact zN)|(refine ObT.ff ?_)|((refine ObB.no ?_ ?_);exact zC)|((refine ObEq.mk ?_);exact zE))
set_option maxHeartbeats 4000000 in
theorem eq41 (G:Nat->AV) (a b:List Pr) (ha:a.length<=9223372036854775807) (hb0:b.length<=9223372036854775807) (r:Bool) (hr:r=decide (a=b)):PC Tryd.prog G 64 [.sl 2 (a.map pA),.sl 2 (b.map pA)] (Bo r):=by
 have la:(a.map pA).length=a.length:=by simp
 have lb:(b.map pA).length=b.length:=by simp
 by_cases hn:a.length=b.length
 case neg =>
  obtain rfl:=eq_len hr hn
  have hn':¬ (a.length:Int)=(b.length:Int):=by omega
  refine zf cop64 ?_
  repeat' ((conv=>whnf);first|(refine SeqP.go ?_)|((refine ObN.mk ?_ ?_);exact zN)|(refine ObT.tt ?_)|((refine ObB.no ?_ ?_);exact zC)|((with_reducible refine (?_:ObL _ _));(refine ObL.mk _ w7 ?_))|((refine ObEq.mk ?_);exact zE))
 have hn':(a.length:Int)=(b.length:Int):=by omega
 refine zf cop64 ?_
 repeat' ((conv=>whnf);first|(refine SeqP.go ?_)|((refine ObN.mk ?_ ?_);exact zN)|(refine ObT.ff ?_)|((refine ObB.yes ?_ ?_);exact zB)|((with_reducible refine (?_:ObL _ _));(refine ObL.mk _ w7 ?_)))
 conv=>whnf
 refine LoopP.go (α:=Nat) (fun k=>k<=a.length/\a.take k=b.take k) (fun k=>a.length - k) (fun k=>[(4,some (Bo false)),(0,none),(7,some (I (k:Nat))),(0,none),(0,none),(0,none),(0,none),(0,none),(0,none),(0,none),(0,none),(0,none),(0,none),(0,none),(0,none)]) (fun _=>[]) 0 ⟨Nat.zero_le _,rfl⟩ (Fg.go ?_ rfl) ?_
 ·repeat' ((conv=>whnf);first|((refine ObEqs.mk ?_ ?_);rfl)|((with_reducible refine ObEq1.i ?_ ?_);exact zF)|((with_reducible refine ObEq1.mk ?_ ?_);exact zE)|exact True.intro)
 rintro k ⟨hk,ht⟩
 by_cases hkl:k < a.length
 ·have hk3 : k < b.length := by omega
  have r1:=Zo hkl
  have r2:=Zo hk3
  by_cases he:a[k]=b[k]
  ·have hs := Xb ht hkl hk3 he
   rw [<- he] at r2
   generalize a[k]=y at *
   have he3:y.2=y.2/\y.1=y.1/\True:=⟨rfl,rfl,trivial⟩
   repeat' ((conv=>whnf);first|(refine SeqP.go ?_)|((refine ObD.mk ?_ ?_);exact zD)|((refine ObN.mk ?_ ?_);exact zN)|(with_reducible first|refine ObT.tt ?_|refine ObT.ff ?_)|((refine ObB.yes ?_ ?_);exact zB)|((with_reducible refine ObI.nl ?_ ?_);omega)|((refine ObX.mk _ rfl ?_ ?_);exact zX)|((with_reducible refine (?_:ObR _ _ _));(first|(refine ObR.mk _ (by assumption) ?_)|(refine ObR.mk _ (by exact r1) ?_)|(refine ObR.mk _ (by exact r2) ?_)|(refine ObR.mk _ yy ?_)|(refine ObR.map zX (fun x hx=>?_))|(refine ObR.mk _ rfl ?_))))
   all_goals conv=>whnf
   all_goals refine Again.mk (k+1) ⟨by omega,hs⟩ (by omega) (Fg.go ?_ rfl)
   all_goals repeat' ((conv=>whnf);first|((refine ObEqs.mk ?_ ?_);rfl)|((with_reducible refine ObEq1.i ?_ ?_);exact zF)|((with_reducible refine ObEq1.mk ?_ ?_);exact zE)|exact True.intro)
  ·obtain rfl := eq_at hr hkl hk3 he
   have he3:¬ (a[k].2=b[k].2/\a[k].1=b[k].1/\True):=fun q=>he (Prod.ext q.2.1 q.1)
   clear hr
   generalize a[k]=y at *
   generalize b[k]=z at *
   repeat' ((conv=>whnf);first|(refine SeqP.go ?_)|((refine ObD.mk ?_ ?_);exact zD)|((refine ObN.mk ?_ ?_);exact zN)|(refine ObT.tt ?_)|((refine ObB.yes ?_ ?_);exact zB)|((refine ObB.no ?_ ?_);exact zC)|((refine ObX.mk _ rfl ?_ ?_);exact zX)|((with_reducible refine (?_:ObR _ _ _));(first|(refine ObR.mk _ (by assumption) ?_)|(refine ObR.mk _ (by exact r1) ?_)|(refine ObR.mk _ (by exact r2) ?_)|(refine ObR.mk _ yy ?_)|(refine ObR.map zX (fun x hx=>?_))|(refine ObR.mk _ rfl ?_)))|((refine ObEq.mk ?_);exact zE))
 ·obtain rfl : k = a.length := by omega
  obtain rfl:=eq_all hr hn ht
  repeat' ((conv=>whnf);first|(refine SeqP.go ?_)|((refine ObN.mk ?_ ?_);exact zN)|(refine ObT.ff ?_)|((refine ObB.no ?_ ?_);exact zC)|((refine ObEq.mk ?_);exact zE))
set_option maxHeartbeats 4000000 in
theorem eq26 (G:Nat->AV) (a b:List Pr) (ha:a.length<=9223372036854775807) (hb0:b.length<=9223372036854775807) (r:Bool) (hr:r=decide (a=b)):PC Tryd.prog G 12 [.sl 2 (a.map pA),.sl 2 (b.map pA)] (Bo r):=by
 have la:(a.map pA).length=a.length:=by simp
 have lb:(b.map pA).length=b.length:=by simp
 by_cases hn:a.length=b.length
 case neg =>
  obtain rfl:=eq_len hr hn
  have hn':¬ (a.length:Int)=(b.length:Int):=by omega
  refine zf cop12 ?_
  repeat' ((conv=>whnf);first|(refine SeqP.go ?_)|((refine ObN.mk ?_ ?_);exact zN)|(refine ObT.tt ?_)|((refine ObB.no ?_ ?_);exact zC)|((with_reducible refine (?_:ObL _ _));(refine ObL.mk _ w7 ?_))|((refine ObEq.mk ?_);exact zE))
 have hn':(a.length:Int)=(b.length:Int):=by omega
 refine zf cop12 ?_
 repeat' ((conv=>whnf);first|(refine SeqP.go ?_)|((refine ObN.mk ?_ ?_);exact zN)|(refine ObT.ff ?_)|((refine ObB.yes ?_ ?_);exact zB)|((with_reducible refine (?_:ObL _ _));(refine ObL.mk _ w7 ?_)))
 conv=>whnf
 refine LoopP.go (α:=Nat) (fun k=>k<=a.length/\a.take k=b.take k) (fun k=>a.length - k) (fun k=>[(4,some (Bo false)),(0,some (I (k:Nat))),(5,none),(0,none),(0,none),(0,none),(0,none),(0,none),(0,none),(0,none),(0,none),(0,none),(0,none),(0,none),(0,none),(0,none),(0,none)]) (fun _=>[]) 0 ⟨Nat.zero_le _,rfl⟩ (Fg.go ?_ rfl) ?_
 ·repeat' ((conv=>whnf);first|((refine ObEqs.mk ?_ ?_);rfl)|((with_reducible refine ObEq1.i ?_ ?_);exact zF)|((with_reducible refine ObEq1.mk ?_ ?_);exact zE)|exact True.intro)
 rintro k ⟨hk,ht⟩
 by_cases hkl:k < a.length
 ·have hk3 : k < b.length := by omega
  have r1:=Zo hkl
  have r2:=Zo hk3
  by_cases he:a[k]=b[k]
  ·have hs := Xb ht hkl hk3 he
   rw [<- he] at r2
   generalize a[k]=y at *
   have he3:y.2=y.2/\y.1=y.1/\True:=⟨rfl,rfl,trivial⟩
   repeat' ((conv=>whnf);first|(refine SeqP.go ?_)|((refine ObD.mk ?_ ?_);exact zD)|((refine ObN.mk ?_ ?_);exact zN)|(with_reducible first|refine ObT.tt ?_|refine ObT.ff ?_)|((refine ObB.yes ?_ ?_);exact zB)|((with_reducible refine ObI.nl ?_ ?_);omega)|((refine ObX.mk _ rfl ?_ ?_);exact zX)|((with_reducible refine (?_:ObL _ _));(refine ObL.mk _ w7 ?_))|((with_reducible refine (?_:ObR _ _ _));(first|(refine ObR.mk _ (by assumption) ?_)|(refine ObR.mk _ (by exact r1) ?_)|(refine ObR.mk _ (by exact r2) ?_)|(refine ObR.mk _ yy ?_)|(refine ObR.map zX (fun x hx=>?_))|(refine ObR.mk _ rfl ?_))))
   all_goals conv=>whnf
   all_goals refine Again.mk (k+1) ⟨by omega,hs⟩ (by omega) (Fg.go ?_ rfl)
   all_goals repeat' ((conv=>whnf);first|((refine ObEqs.mk ?_ ?_);rfl)|((with_reducible refine ObEq1.i ?_ ?_);exact zF)|((with_reducible refine ObEq1.mk ?_ ?_);exact zE)|exact True.intro)
  ·obtain rfl := eq_at hr hkl hk3 he
   have he3:¬ (a[k].2=b[k].2/\a[k].1=b[k].1/\True):=fun q=>he (Prod.ext q.2.1 q.1)
   clear hr
   generalize a[k]=y at *
   generalize b[k]=z at *
   repeat' ((conv=>whnf);first|(refine SeqP.go ?_)|((refine ObD.mk ?_ ?_);exact zD)|((refine ObN.mk ?_ ?_);exact zN)|(refine ObT.tt ?_)|((refine ObB.yes ?_ ?_);exact zB)|((refine ObB.no ?_ ?_);exact zC)|((refine ObX.mk _ rfl ?_ ?_);exact zX)|((with_reducible refine (?_:ObL _ _));(refine ObL.mk _ w7 ?_))|((with_reducible refine (?_:ObR _ _ _));(first|(refine ObR.mk _ (by assumption) ?_)|(refine ObR.mk _ (by exact r1) ?_)|(refine ObR.mk _ (by exact r2) ?_)|(refine ObR.mk _ yy ?_)|(refine ObR.map zX (fun x hx=>?_))|(refine ObR.mk _ rfl ?_)))|((refine ObEq.mk ?_);exact zE))
 ·obtain rfl : k = a.length := by omega
  obtain rfl:=eq_all hr hn ht
  repeat' ((conv=>whnf);first|(refine SeqP.go ?_)|((refine ObN.mk ?_ ?_);exact zN)|(refine ObT.ff ?_)|((refine ObB.no ?_ ?_);exact zC)|((with_reducible refine (?_:ObL _ _));(refine ObL.mk _ w7 ?_))|((refine ObEq.mk ?_);exact zE))
end Go.Proofs.YtfocijljkkfonaaDoor.Sim
namespace Go.Proofs.YtfocijljkkfonaaDoor.Ord
def com:List UInt8->List UInt8->Nat
 | x::xs,y::ys=>if x=y then com xs ys+1 else 0
 | _,_=>0
def cmp:List UInt8->List UInt8->Int
 | [],[]=>0
 | [],_::_=>-1
 | _::_,[]=>1
 | x::xs,y::ys=>if x=y then cmp xs ys else if x < y then -1 else 1
def less (a b:List UInt8):Bool:=cmp a b == -1
theorem com_le_left (a b:List UInt8):com a b<=a.length:=by
 induction a generalizing b with
 | nil=>simp [com]
 | cons x xs ih=>cases b with
  | nil=>simp [com]
  | cons y ys=>simp only [com];split<;>simp;exact ih ys
theorem com_le_right (a b:List UInt8):com a b<=b.length:=by
 induction a generalizing b with
 | nil=>simp [com]
 | cons x xs ih=>cases b with
  | nil=>simp [com]
  | cons y ys=>simp only [com];split<;>simp;exact ih ys
theorem com_eq (a b:List UInt8) (n:Nat) (h:∀ j,j < n->a[j]? = b[j]?) (ha:n<=a.length) (hb:n<=b.length) (hn:a[n]? ≠ b[n]?\/a.length=n\/b.length=n):com a b=n:=by
 induction a generalizing b n with
 | nil=>simp at ha;subst ha;simp [com]
 | cons x xs ih=>cases b with
  | nil=>simp at hb;subst hb;simp [com]
  | cons y ys =>
   cases n with
   | zero=>simp [com] at hn ⊢;exact hn
   | succ m =>
    have h0:=h 0 (by omega)
    simp at h0
    subst h0
    simp only [com,if_true]
    have:=ih ys m (fun j hj=>by have:=h (j+1) (by omega);simpa using this) (by simpa using ha) (by simpa using hb) (by simpa using hn)
    omega
theorem XV (a b:List UInt8):cmp a b=if com a b=a.length then (if com a b=b.length then 0 else -1) else if com a b=b.length then 1 else if (a.getD (com a b) 0) < (b.getD (com a b) 0) then -1 else 1:=by
 induction a generalizing b with
 | nil=>cases b<;>simp [cmp,com]
 | cons x xs ih=>cases b with
  | nil=>simp [cmp,com]
  | cons y ys =>
   by_cases hxy:x=y
   ·subst hxy
    simp [cmp,com,ih ys]
   ·simp [cmp,com,hxy]
theorem cmp_self (a:List UInt8):cmp a a=0:=by
 induction a with
 | nil=>rfl
 | cons x xs ih=>simp [cmp,ih]
theorem cmp_anti (a b:List UInt8):cmp b a = - cmp a b:=by
 induction a generalizing b with
 | nil=>cases b<;>simp [cmp]
 | cons x xs ih=>cases b with
  | nil=>simp [cmp]
  | cons y ys =>
   by_cases hxy:x=y
   ·subst hxy;simp [cmp,ih ys]
   ·have hyx:¬ y=x:=fun h=>hxy h.symm
    simp only [cmp,hxy,hyx,if_false]
    by_cases hlt:x < y
    ·have : ¬ y < x := by simp [UInt8.lt_iff_toNat_lt] at *; omega
     simp [hlt,this]
    ·have : y < x := by
      have:x.toNat ≠ y.toNat:=fun h=>hxy (UInt8.toNat_inj.1 h)
      simp [UInt8.lt_iff_toNat_lt] at *;omega
     simp [hlt,this]
theorem cmp_cases (a b:List UInt8):cmp a b = -1\/cmp a b=0\/cmp a b=1:=by
 rw [XV];split<;>split<;>simp
 split
 ·exact Or.inl (by assumption)
 ·exact Or.inr (by simp_all)
theorem cmp_zero (a b:List UInt8):cmp a b=0↔a=b:=by
 induction a generalizing b with
 | nil=>cases b<;>simp [cmp]
 | cons x xs ih=>cases b with
  | nil=>simp [cmp]
  | cons y ys =>
   by_cases hxy:x=y
   ·subst hxy;simp [cmp,ih ys]
   ·simp only [cmp,hxy,if_false];split<;>simp [hxy]
theorem cmp_trans (a b c:List UInt8) (h1:cmp a b<=0) (h2:cmp b c<=0):cmp a c<=0/\(cmp a b < 0\/cmp b c < 0->cmp a c < 0):=by
 induction a generalizing b c with
 | nil=>cases b<;>cases c<;>simp_all [cmp]
 | cons x xs ih=>cases b with
  | nil=>simp [cmp] at h1
  | cons y ys=>cases c with
   | nil=>simp [cmp] at h2
   | cons z zs =>
    by_cases hxy:x=y
    ·subst hxy
     by_cases hyz:x=z
     ·subst hyz
      simp [cmp] at h1 h2 ⊢
      exact ih ys zs h1 h2
     ·simp only [cmp,hyz,if_false,if_true] at h2 ⊢
      split<;>simp_all
    ·by_cases hyz : y = z
     ·subst hyz
      simp only [cmp,hxy,if_false,if_true] at h1 ⊢
      split<;>simp_all
     ·simp only [cmp,hxy,hyz,if_false] at h1 h2
      by_cases l1:x < y
      ·by_cases l2 : y < z
       ·have l3 : x < z := by simp [UInt8.lt_iff_toNat_lt] at *; omega
        have l4:¬ x=z:=fun h=>by subst h;simp at l3
        simp [cmp,l3,l4]
       ·simp [l2] at h2
      ·simp [l1] at h1
end Go.Proofs.YtfocijljkkfonaaDoor.Ord
namespace Go.Proofs.YtfocijljkkfonaaDoor
open Go.RowKit
def Drawn (w w':World):Prop:=∃ n,w'=w.drewN n
theorem Drawn.refl (w:World):Drawn w w:=⟨0,rfl⟩
theorem Drawn.more {w w':World} (h:Drawn w w') (k:Nat):Drawn w (w'.drewN k):=by
 obtain ⟨n,rfl⟩:=h
 exact ⟨n+k,by rw [World.drewN_drewN]⟩
theorem Drawn.drew {w w':World} (h:Drawn w w'):Drawn w w'.drew:=by
 obtain ⟨n,rfl⟩:=h
 exact ⟨n+1,rfl⟩
theorem Drawn.trans {a b c:World} (h:Drawn a b) (k:Drawn b c):Drawn a c:=by
 obtain ⟨n,rfl⟩:=k
 exact h.more n
theorem Drawn.below {w w':World} (h:Drawn w w'):Below w.heap.size w w':=by
 obtain ⟨n,rfl⟩:=h
 exact ⟨rfl,rfl,rfl,Nat.le_refl _,fun _ _=>rfl⟩
theorem Drawn.below' {B:Nat} {w w':World} (h:Drawn w w'):Below B w w':=by
 obtain ⟨n,rfl⟩:=h
 exact ⟨rfl,rfl,rfl,Nat.le_refl _,fun _ _=>rfl⟩
theorem Drawn.grown {w w':World} (h:Drawn w w'):Grown w w':=by
 obtain ⟨n,rfl⟩:=h
 induction n with
 | zero=>exact Grown.refl _
 | succ n ih=>exact ih.drew
def Quiet (v:Value) (w:World) (e:Ending) (w':World):Prop:=e = .returned v/\Drawn w w'
def Fresh (v:Value) (w:World) (e:Ending) (w':World):Prop:=e = .returned v/\Below w.heap.size w w'
theorem Quiet.fresh {v:Value} {w:World} {e:Ending} {w':World} (h:Quiet v w e w'):Fresh v w e w':=⟨h.1,h.2.below⟩
theorem Yo {k:IntKind} {a b:Int} (h:a=b):Ending.returned (.int k a) = .returned (.int k b):=by rw [h]
theorem X6 {a b:Bool} (h:a=b):Ending.returned (.bool a) = .returned (.bool b):=by rw [h]
theorem Yq {k:IntKind} {a b:Int} (h:a=b):Value.int k a = .int k b:=by rw [h]
theorem hide {p:Prop} (h:p):Hid p:=h
end Go.Proofs.YtfocijljkkfonaaDoor
namespace Go.Proofs.YtfocijljkkfonaaDoor.Ord
open Go.RowKit
theorem com_of (a b : ByteArray) (k : Nat) (ha : k <= a.size) (hb : k <= b.size) (h : ∀ j (h1 : j < a.size) (h2 : j < b.size), j < k -> a[j] = b[j])
  (hn:(∀ (h1:k < a.size) (h2:k < b.size),a[k] ≠ b[k])):com a.data.toList b.data.toList=k:=by
 have e1:a.data.toList.length=a.size:=by simp
 have e2:b.data.toList.length=b.size:=by simp
 apply com_eq
 ·intro j hj
  have h1:j < a.size:=by omega
  have h2:j < b.size:=by omega
  have:=h j h1 h2 hj
  rw [List.getElem?_eq_getElem (by omega),List.getElem?_eq_getElem (by omega)]
  simpa [<- ByteArray.getElem_eq_getElem_data] using this
 ·omega
 ·omega
 ·by_cases h1 : k < a.size
  ·by_cases h2 : k < b.size
   ·left
    have:=hn h1 h2
    rw [List.getElem?_eq_getElem (by omega),List.getElem?_eq_getElem (by omega)]
    intro hh;injection hh with hh
    exact this (by simpa [ByteArray.getElem_eq_getElem_data] using hh)
   ·right;right;omega
  ·right;left;omega
def Same (a b:ByteArray) (k:Nat):Prop:=k<=a.size/\k<=b.size/\∀ j (h1:j < a.size) (h2:j < b.size),j < k->a[j]=b[j]
theorem Same.zero (a b:ByteArray):Same a b 0:=⟨by omega,by omega,fun j _ _ h=>by omega⟩
theorem Same.succ {a b:ByteArray} {k:Nat} (h:Same a b k) (h1:k < a.size) (h2:k < b.size) (e:((a[k].toNat:Int) != (b[k].toNat:Int))=false):Same a b (k+1):=by
 refine ⟨by omega,by omega,fun j h3 h4 hj=>?_⟩
 by_cases hjk:j=k
 ·subst hjk
  apply UInt8.toNat_inj.1
  simp at e
  exact_mod_cast e
 ·exact h.2.2 j h3 h4 (by omega)
theorem Same.com_ne {a b:ByteArray} {k:Nat} (h:Same a b k) (h1:k < a.size) (h2:k < b.size) (e:((a[k].toNat:Int) != (b[k].toNat:Int))=true):com a.data.toList b.data.toList=k :=
 com_of a b k h.1 h.2.1 h.2.2 (fun _ _ hh=>by simp [hh] at e)
theorem Same.com_end {a b:ByteArray} {k:Nat} (h:Same a b k) (hn:¬(k < a.size/\k < b.size)):com a.data.toList b.data.toList=k :=
 com_of a b k h.1 h.2.1 h.2.2 (fun h1 h2=>absurd ⟨h1,h2⟩ hn)
set_option maxHeartbeats 400000 in
theorem Common_calls (a b : ByteArray) (w : World) (ha : a.size <= maxLen) (hb : b.size <= maxLen) :
  Calls Tryd.prog 74 #[.string a,.string b] w (Quiet (.int .i64 (com a.data.toList b.data.toList)) w):=by
 unfold maxLen at ha hb
 go_enter Tryd.func74,Tryd.ntmps74
 go_wp2
 all_goals
  go_loopw [11] (fun i wr=>∃ k:Nat,i = .int .i64 k/\Same a b k/\Drawn w wr) (fun i _=>a.size - (intOf i).toNat)
  case atStart=>exact ⟨0,rfl,Same.zero a b,Drawn.refl w⟩
  case round =>
   obtain ⟨k,rfl,hk,n,rfl⟩:=hrel
   have hk1:=hk.1
   have hk2:=hk.2.1
   by_cases hlt:k < a.size/\k < b.size
   ·obtain ⟨hlt1, hlt2⟩ := hlt
    have g1:(k:Int) < (a.size:Int):=by omega
    have g2:(k:Int) < (b.size:Int):=by omega
    go_wp2
    go_quiet (fail)
    go_wp2
    ·go_ret
     refine ⟨Yo ?_,(Drawn.more ⟨n,rfl⟩ _)⟩
     rw [hk.com_ne hlt1 hlt2 (by assumption)]
    ·go_roundw
     case rel=>exact ⟨k+1,by go_num,hk.succ hlt1 hlt2 (by assumption),_,rfl⟩
     case measure=>simp [intOf];omega
   ·go_wp2
    go_ret
    refine ⟨Yo ?_,⟨n,rfl⟩⟩
    rw [hk.com_end hlt];omega
theorem cmp_at {a b : ByteArray} {n : Nat} {c : Int} (h1 : n < a.size) (h2 : n < b.size) (h : c = if n = a.data.toList.length then (if n = b.data.toList.length then 0 else -1) else if n = b.data.toList.length then 1 else if (a.data.toList.getD n 0) < (b.data.toList.getD n 0) then -1 else 1) :
  c=if (a[n].toNat:Int) < (b[n].toNat:Int) then -1 else 1:=by
 have e1:a.data.toList.length=a.size:=by simp
 have e2:b.data.toList.length=b.size:=by simp
 rw [h,if_neg (by omega),if_neg (by omega)]
 have g1:a.data.toList.getD n 0=a[n]:=by rw [List.getD_eq_getElem?_getD,List.getElem?_eq_getElem (by omega)];simp [<- ByteArray.getElem_eq_getElem_data]
 have g2:b.data.toList.getD n 0=b[n]:=by rw [List.getD_eq_getElem?_getD,List.getElem?_eq_getElem (by omega)];simp [<- ByteArray.getElem_eq_getElem_data]
 rw [g1,g2]
 simp [UInt8.lt_iff_toNat_lt]
set_option maxHeartbeats 400000 in
theorem Compare_calls (a b : ByteArray) (w : World) (ha : a.size <= maxLen) (hb : b.size <= maxLen) :
  Calls Tryd.prog 62 #[.string a,.string b] w (Quiet (.int .i64 (cmp a.data.toList b.data.toList)) w):=by
 have hc:=Common_calls a b w ha hb
 have h1:=com_le_left a.data.toList b.data.toList
 have h2:=com_le_right a.data.toList b.data.toList
 have h3:=XV a.data.toList b.data.toList
 unfold maxLen at ha hb
 generalize com a.data.toList b.data.toList=n at *
 generalize hcmp:cmp a.data.toList b.data.toList=c at *
 have Hc:=Lib.hid hc
 have H3:=Lib.hid h3
 clear hc h3 hcmp
 simp at h1 h2
 go_enter Tryd.func62,Tryd.ntmps62
 go_wp2_with fail
 refine (Hc.out).mono ?_
 rintro e w' ⟨rfl,q,rfl⟩
 by_cases ca:n=a.size
 ·subst ca
  by_cases cb:a.size=b.size
  ·have H4 : Hid (c = 0) := hide (by rw [H3.out]; simp [<- cb])
   go_wp2
   go_ret
   exact ⟨Yo (by rw [H4.out]),Drawn.more (Drawn.refl _) _⟩
  ·have e1 : ((a.size : Int) == (b.size : Int)) = false := by simp; omega
   have H4:Hid (c = -1):=hide (by rw [H3.out];simp [cb])
   go_wp2
   go_ret
   exact ⟨Yo (by rw [H4.out]),Drawn.more (Drawn.refl _) _⟩
 ·by_cases cb : n = b.size
  ·subst cb
   have e1:((b.size:Int) == (a.size:Int))=false:=by simp;omega
   have H4:Hid (c=1):=hide (by rw [H3.out];simp [ca])
   go_wp2
   go_ret
   exact ⟨Yo (by rw [H4.out]),Drawn.more (Drawn.refl _) _⟩
  ·have e1 : ((n : Int) == (a.size : Int)) = false := by simp; omega
   have e2:((n:Int) == (b.size:Int))=false:=by simp;omega
   have l1:n < a.size:=by omega
   have l2:n < b.size:=by omega
   have g1:(n:Int) < (a.size:Int):=by omega
   have g2:(n:Int) < (b.size:Int):=by omega
   have H4:=Lib.hid (cmp_at l1 l2 H3.out)
   go_wp2
   go_quiet (fail)
   go_wp2
   ·go_ret
    have h:a[n].toNat < b[n].toNat:=by assumption
    exact ⟨Yo (by rw [H4.out,if_pos (by omega)]),Drawn.more (Drawn.more (Drawn.refl _) _) _⟩
   ·go_ret
    have h:¬ a[n].toNat < b[n].toNat:=by assumption
    exact ⟨Yo (by rw [H4.out,if_neg (by omega)]),Drawn.more (Drawn.more (Drawn.refl _) _) _⟩
theorem less_ne {a b:ByteArray} {k:Nat} (h:Same a b k) (h1:k < a.size) (h2:k < b.size) (e:((a[k].toNat:Int) != (b[k].toNat:Int))=true):decide ((a[k].toNat:Int) < (b[k].toNat:Int))=less a.data.toList b.data.toList:=by
 have hc:=h.com_ne h1 h2 e
 have h3:=XV a.data.toList b.data.toList
 rw [hc] at h3
 have h4:=cmp_at h1 h2 h3
 unfold less
 rw [h4]
 by_cases hl:(a[k].toNat:Int) < (b[k].toNat:Int)
 ·simp [hl]
 ·simp [hl]
theorem less_end {a b:ByteArray} {k:Nat} (h:Same a b k) (hn:¬(k < a.size/\k < b.size)):decide (a.size < b.size)=less a.data.toList b.data.toList:=by
 have hc:=h.com_end hn
 have h3:=XV a.data.toList b.data.toList
 rw [hc] at h3
 have e1:a.data.toList.length=a.size:=by simp
 have e2:b.data.toList.length=b.size:=by simp
 have:=h.1
 have:=h.2.1
 unfold less
 rw [h3,e1,e2]
 by_cases c1:k=a.size
 ·by_cases c2 : k = b.size
  ·rw [if_pos c1,if_pos c2];simp;omega
  ·rw [if_pos c1,if_neg c2];simp;omega
 ·rw [if_neg c1,if_pos (by omega)];simp;omega
set_option maxHeartbeats 400000 in
theorem RefLess_calls (a b : ByteArray) (w : World) (ha : a.size <= maxLen) (hb : b.size <= maxLen) :
  Calls Tryd.prog 80 #[.string a,.string b] w (Quiet (.bool (less a.data.toList b.data.toList)) w):=by
 unfold maxLen at ha hb
 go_enter Tryd.func80,Tryd.ntmps80
 go_wp2
 go_loopw [5] (fun i wr=>∃ k:Nat,i = .int .i64 k/\Same a b k/\Drawn w wr) (fun i _=>a.size - (intOf i).toNat)
 case atStart=>exact ⟨0,rfl,Same.zero a b,Drawn.refl w⟩
 case round =>
  obtain ⟨k,rfl,hk,n,rfl⟩:=hrel
  have hk1:=hk.1
  have hk2:=hk.2.1
  by_cases hlt:k < a.size/\k < b.size
  ·obtain ⟨hlt1, hlt2⟩ := hlt
   have g1:(k:Int) < (a.size:Int):=by omega
   have g2:(k:Int) < (b.size:Int):=by omega
   go_wp2
   go_quiet (fail)
   go_wp2
   ·have H := hide (less_ne hk hlt1 hlt2 (by assumption))
    go_quiet (fail)
    go_wp2
    go_ret
    exact ⟨X6 (by rw [<- H.out];simp),Drawn.more (Drawn.more ⟨n,rfl⟩ _) _⟩
   ·have H := hide (hk.succ hlt1 hlt2 (by assumption))
    go_roundw
    case rel=>exact ⟨k+1,by go_num,H.out,_,rfl⟩
    case measure=>simp [intOf];omega
  ·have H := hide (less_end hk hlt)
   by_cases hlt1:k < a.size
   ·have hlt2:¬ k < b.size:=fun h=>hlt ⟨hlt1,h⟩
    go_wp2
    go_ret
    exact ⟨X6 (by rw [<- H.out]),⟨n,rfl⟩⟩
   ·go_wp2
    go_ret
    exact ⟨X6 (by rw [<- H.out]),⟨n,rfl⟩⟩
def mid (a b:ByteArray):ByteArray × Bool:=if cmp a.data.toList b.data.toList < 0 then (b.extract 0 (com a.data.toList b.data.toList+1),true) else (⟨#[]⟩,false)
end Go.Proofs.YtfocijljkkfonaaDoor.Ord
namespace Go.Proofs.YtfocijljkkfonaaDoor.Sim
open Go.RowKit
set_option maxRecDepth 100000
abbrev nV (kn:Int) (ke va:ByteArray) (mp:Int) (kk:List Int) (mn:Int) (ls:List Pr) (sz bi:Int):AV:=.agg [I kn,S ke,S va,.v (.int .u32 mp),.sl 1 (kk.map iA),I mn,.sl 2 (ls.map pA),I sz,I bi]
section
variable {P:Program} {t:TypeId} {xo yo:Operand} {a b:Int}
theorem b32e:ZX P .eql t xo yo (.int .u32 a) (.int .u32 b)=some (.bool (decide (a=b))):=by
 have:(a == b)=decide (a=b):=by by_cases h:a=b<;>simp [h]
 rw [<- this];rfl
theorem b32n:ZX P .neq t xo yo (.int .u32 a) (.int .u32 b)=some (.bool (decide (a ≠ b))):=by
 have:(a != b)=decide (a ≠ b):=by by_cases h:a=b<;>simp [h]
 rw [<- this];rfl
end
def cB (a b:ByteArray):Int:=Ord.cmp a.data.toList b.data.toList
theorem Z1 (a:ByteArray):cB a a=0:=Ord.cmp_self _
theorem cB_ne {a b:ByteArray} (h:¬ a=b):¬ cB a b=0:=fun e=>h (by
 have:=(Ord.cmp_zero _ _).1 e
 cases a;cases b
 simp only [ByteArray.mk.injEq]
 exact Array.ext' this)
theorem cmpP (G:Nat->AV) (a b:ByteArray) (ha:a.size<=9223372036854775807) (hb:b.size<=9223372036854775807):PC Tryd.prog G 62 [S a,S b] (I (cB a b)) :=
 wb rfl rfl (fun w=>(Ord.Compare_calls a b w (by rw [ZQ];exact ha) (by rw [ZQ];exact hb)).mono fun e w' h=>h.fresh)
open Go.Proofs.YtfocijljkkfonaaDoor.Dz Go.Lib
abbrev bL (s:ByteArray):List UInt8:=s.data.toList
def pl (p:Pr):Pl:=(bL p.1,bL p.2)
def idF (ids:List Nat) (r:Int):Nat:=ids.getD r.toNat 0
theorem XK (s:ByteArray) (h:s.size<=1000):(txt (bL s)).length<=1021:=by
 have e:=YG s
 have:=Xv (u:=s.size) (by omega)
 simp only [txt,num,List.length_append,List.length_cons,List.length_nil,e];omega
theorem Y8 {n:Nat} (h:n < 9223372036854775808):(num n).length<=21:=by
 have:=Xv h
 simp only [num,List.length_append,List.length_cons,List.length_nil];omega
theorem prs_len:∀ (l:List Pr),(∀ p ∈ l,p.1.size<=1000/\p.2.size<=1000)->(prs (l.map pl)).length<=2042 * l.length:=by
 intro l
 induction l with
 | nil=>intro _;simp [prs]
 | cons p l ih =>
  intro h
  have h1:=XK p.1 (h p (by simp)).1
  have h2:=XK p.2 (h p (by simp)).2
  have h3:=ih fun q hq=>h q (by simp [hq])
  simp only [prs] at h3
  simp only [List.map_cons,prs,List.flatMap_cons,List.length_append,pl,List.length_cons]
  omega
theorem nmz_len:∀ (l:List Nat),(∀ n ∈ l,n < 9223372036854775808)->(nmz l).length<=21 * l.length:=by
 intro l
 induction l with
 | nil=>intro _;simp [nmz]
 | cons p l ih =>
  intro h
  have h1:=Y8 (h p (by simp))
  have h3:=ih fun q hq=>h q (by simp [hq])
  simp only [nmz] at h3
  simp only [nmz,List.flatMap_cons,List.length_append,List.length_cons]
  omega
def idR (ids:List Nat) (g:Nat):OB:=⟨3,1,ids.map (fun n:Nat=>I (n:Int)),g,0⟩
theorem id_at {ids:List Nat} {r:Int} (h0:0<=r) (h:r.toNat < ids.length):(ids.map (fun n:Nat=>I (n:Int)))[r.toNat]? = some (I ((idF ids r:Nat):Int)):=by
 simp only [List.getElem?_map,idF,List.getD,List.getElem?_eq_getElem h,Option.map_some,Option.getD_some]
theorem nr_id (ids:List Nat):(ids.map (fun n:Nat=>I (n:Int))).all nrB=true:=by simp [nrB,AV.cells]
theorem cvu {m:Nat} (hm:m < 4294967296):ap1 (fun v=>zh Tryd.prog (convert 37 3 v)) (.v (.int .u32 (m:Int)))=some (I (m:Int)):=by
 have hs:Tryd.prog.underlying 37=some (.int .u32):=by kernel_rfl
 have hd:Tryd.prog.underlying 3=some (.int .i64):=by kernel_rfl
 simp only [ap1,zW,cV_int hs hd]
 rw [show IntKind.i64.wrap (m:Int)=(m:Int) from XX (by omega) (by omega)]
 rfl
section
variable (G:Nat->AV) (hI:ItC G)
include hI
set_option maxHeartbeats 4000000 in
theorem dsc30 (ids : List Nat) (gi : Nat) (hil : ids.length <= 100000) (hib : ∀ n ∈ ids, n < 9223372036854775808) (kn sz : Nat) (hkn : kn < 9223372036854775808) (hsz : sz < 9223372036854775808) (ke va : ByteArray) (hke : ke.size <= 1000) (hva : va.size <= 1000) (mp : Nat) (hmp : mp < 4294967296) (kk : List Int) (hkl : kk.length <= 100) (hkk : ∀ r ∈ kk, 0 <= r /\ r.toNat < ids.length) (mn : Int) (hm0 : 0 <= mn) (hm : mn.toNat < ids.length) (ls : List Pr) (hll : ls.length <= 100) (hls : ∀ p ∈ ls, p.1.size <= 1000 /\ p.2.size <= 1000) (bi : Int) :
  HC Tryd.prog G 30 [nV (kn:Int) ke va (mp:Int) kk mn ls (sz:Int) bi,.ol 0 gi ids.length] [idR ids gi] (S (Z6 (dsc kn (bL ke) (bL va) mp sz (ls.map pl) (kk.map (idF ids)) (idF ids mn)))) [idR ids gi]:=by
 obtain ⟨L1,e1⟩:∃ L,L=num kn:=⟨_,rfl⟩
 obtain ⟨L2,e2⟩:∃ L,L=L1++txt (bL ke):=⟨_,rfl⟩
 obtain ⟨L3,e3⟩:∃ L,L=L2++txt (bL va):=⟨_,rfl⟩
 obtain ⟨L4,e4⟩:∃ L,L=L3++num mp:=⟨_,rfl⟩
 obtain ⟨L5,e5⟩:∃ L,L=L4++num sz:=⟨_,rfl⟩
 obtain ⟨L6,e6⟩:∃ L,L=L5++num ls.length:=⟨_,rfl⟩
 have n1:=Y8 hkn
 have n2:=XK ke hke
 have n3:=XK va hva
 have n4:=Y8 (n:=mp) (by omega)
 have n5:=Y8 hsz
 have n6:=Y8 (n:=ls.length) (by omega)
 rw [<- e1] at n1
 have m2:L2.length<=1042:=by rw [e2,List.length_append];omega
 have m3:L3.length<=2063:=by rw [e3,List.length_append];omega
 have m4:L4.length<=2084:=by rw [e4,List.length_append];omega
 have m5:L5.length<=2105:=by rw [e5,List.length_append];omega
 have m6:L6.length<=2126:=by rw [e6,List.length_append];omega
 have c1:=num40a G hI kn hkn
 have c2:=txt44 G hI (idR ids gi) ⟨40,9,[nV (kn:Int) ke va (mp:Int) kk mn ls (sz:Int) bi],0,0⟩ L1 1 (by omega) ke hke
 have c3:=txt44 G hI (idR ids gi) ⟨40,9,[nV (kn:Int) ke va (mp:Int) kk mn ls (sz:Int) bi],0,0⟩ L2 4 (by omega) va hva
 have c4:=wg G hI L3 7 (by omega) mp (by omega)
 have c5:=wg G hI L4 9 (by omega) sz hsz
 have c6:=wg G hI L5 11 (by omega) ls.length (by omega)
 rw [<- e1] at c1
 rw [<- e2] at c2
 rw [<- e3] at c3
 rw [<- e4] at c4
 rw [<- e5] at c5
 rw [<- e6] at c6
 have hi:=nr_id ids
 have q1:=Z3 L1
 have q2:=Z3 L2
 have q3:=Z3 L3
 have q4:=Z3 L4
 have q5:=Z3 L5
 have q6:=Z3 L6
 have w4:(0:Int)<=(mp:Int):=by omega
 refine ZR cop30 rfl ?_
 unfold bO0 bO bD bX idR bO2 at *
 repeat' ((conv=>whnf);first|((refine ObD.mk ?_ ?_);exact zD))
 conv=>whnf
 refine SeqP.go ?_
 repeat' ((conv=>whnf);first|((refine ObD.mk ?_ ?_);exact zD))
 conv=>whnf
 refine SeqP.go ?_
 repeat' ((conv=>whnf);first|((refine ObD.mk ?_ ?_);exact zD)|((refine ObN.mk ?_ ?_);exact zN)|((with_reducible refine (?_:ObU _ _));(refine ObU.mk _ zU ?_))|((with_reducible refine (?_:ObR _ _ _));(first|(refine ObR.mk _ zA ?_)|(refine ObR.map zX (fun x hx=>?_))|(refine ObR.mk _ rfl ?_))))
 conv=>whnf
 refine SeqP.go ?_
 skip
 conv=>whnf
 refine SeqP.go ?_
 repeat' ((conv=>whnf);first|((refine ObN.mk ?_ ?_);exact zN)|((with_reducible refine (?_:ObU _ _));(refine ObU.mk _ zU ?_))|((with_reducible refine (?_:ObR _ _ _));(first|(refine ObR.mk _ zA ?_)|(refine ObR.map zX (fun x hx=>?_))|(refine ObR.mk _ rfl ?_)))|((refine ObH.f 40 ?_);refine ObH.frn _ Yy [(0,2,0)] (c1) (by simp) rfl (by simp) ?_)|((with_reducible refine ObRow.same ?_ ?_ ?_);exact zE;(focus (first|rfl|assumption|(simp;done))))|((with_reducible refine ObAs.mk ?_ ?_);(focus (first|rfl|(simp [rnB,rnC,rnL];done))))|((with_reducible refine (?_:ObRs _ _ _));(refine ObRs.mk _ rfl ?_))|((with_reducible refine ObBk.same ?_ ?_);(focus (first|rfl|assumption|(simp;done))))|((with_reducible refine (?_:ObBk _ _ _));(refine ObBk.lit [.agg _] rfl ?_)))
 conv=>whnf
 refine SeqP.go ?_
 repeat' ((conv=>whnf);first|((refine ObN.mk ?_ ?_);exact zN)|((with_reducible refine (?_:ObU _ _));(refine ObU.mk _ zU ?_))|((with_reducible refine (?_:ObR _ _ _));(first|(refine ObR.mk _ zA ?_)|(refine ObR.map zX (fun x hx=>?_))|(refine ObR.mk _ rfl ?_)))|((refine ObH.f 44 ?_);(first|(with_reducible refine ObH.mk _ _ (c2) ?_)|(refine ObH.mk _ _ (c2) ?_))))
 conv=>whnf
 refine SeqP.go ?_
 repeat' ((conv=>whnf);first|((refine ObN.mk ?_ ?_);exact zN)|((with_reducible refine (?_:ObU _ _));(refine ObU.mk _ zU ?_))|((with_reducible refine (?_:ObR _ _ _));(first|(refine ObR.mk _ zA ?_)|(refine ObR.map zX (fun x hx=>?_))|(refine ObR.mk _ rfl ?_)))|((refine ObH.f 44 ?_);(first|(with_reducible refine ObH.mk _ _ (c3) ?_)|(refine ObH.mk _ _ (c3) ?_))))
 conv=>whnf
 refine SeqP.go ?_
 repeat' ((conv=>whnf);first|((with_reducible refine (?_:ObE _ _));refine ObE.of (congrArg (Option.map fun x=>(x,_)) (cvu hmp)) ?_)|((refine ObN.mk ?_ ?_);exact zN)|((with_reducible refine (?_:ObU _ _));(refine ObU.mk _ zU ?_))|((with_reducible refine (?_:ObR _ _ _));(first|(refine ObR.mk _ zA ?_)|(refine ObR.map zX (fun x hx=>?_))|(refine ObR.mk _ rfl ?_)))|((refine ObH.f 40 ?_);refine ObH.frn _ Yy [(0,2,0),(7,4,7)] (c4) (by simp) rfl (by simp) ?_)|((with_reducible refine ObRow.same ?_ ?_ ?_);exact zE;(focus (first|rfl|assumption|(simp;done))))|((with_reducible refine ObRow.lit ?_ ?_);(focus (first|rfl|(simp [rnB,rnC,rnL];done))))|((with_reducible refine ObAs.mk ?_ ?_);(focus (first|rfl|(simp [rnB,rnC,rnL];done))))|((with_reducible refine (?_:ObRs _ _ _));(refine ObRs.mk _ rfl ?_))|((with_reducible refine ObBk.same ?_ ?_);(focus (first|rfl|assumption|(simp;done))))|((with_reducible refine (?_:ObBk _ _ _));(refine ObBk.lit [.agg _] rfl ?_)))
 conv=>whnf
 refine SeqP.go ?_
 repeat' ((conv=>whnf);first|((refine ObN.mk ?_ ?_);exact zN)|((with_reducible refine (?_:ObU _ _));(refine ObU.mk _ zU ?_))|((with_reducible refine (?_:ObR _ _ _));(first|(refine ObR.mk _ zA ?_)|(refine ObR.map zX (fun x hx=>?_))|(refine ObR.mk _ rfl ?_)))|((refine ObH.f 40 ?_);refine ObH.frn _ Yy [(0,2,0),(9,4,9)] (c5) (by simp) rfl (by simp) ?_)|((with_reducible refine ObRow.same ?_ ?_ ?_);exact zE;(focus (first|rfl|assumption|(simp;done))))|((with_reducible refine ObRow.lit ?_ ?_);(focus (first|rfl|(simp [rnB,rnC,rnL];done))))|((with_reducible refine ObAs.mk ?_ ?_);(focus (first|rfl|(simp [rnB,rnC,rnL];done))))|((with_reducible refine (?_:ObRs _ _ _));(refine ObRs.mk _ rfl ?_))|((with_reducible refine ObBk.same ?_ ?_);(focus (first|rfl|assumption|(simp;done))))|((with_reducible refine (?_:ObBk _ _ _));(refine ObBk.lit [.agg _] rfl ?_)))
 conv=>whnf
 refine SeqP.go ?_
 repeat' ((conv=>whnf);first|((refine ObN.mk ?_ ?_);exact zN)|((with_reducible refine (?_:ObL _ _));(refine ObL.mk _ zM ?_))|((with_reducible refine (?_:ObU _ _));(refine ObU.mk _ zU ?_))|((with_reducible refine (?_:ObR _ _ _));(first|(refine ObR.mk _ zA ?_)|(refine ObR.map zX (fun x hx=>?_))|(refine ObR.mk _ rfl ?_)))|((refine ObH.f 40 ?_);refine ObH.frn _ Yy [(0,2,0),(11,4,11)] (c6) (by simp) rfl (by simp) ?_)|((with_reducible refine ObRow.same ?_ ?_ ?_);exact zE;(focus (first|rfl|assumption|(simp;done))))|((with_reducible refine ObRow.lit ?_ ?_);(focus (first|rfl|(simp [rnB,rnC,rnL];done))))|((with_reducible refine ObAs.mk ?_ ?_);(focus (first|rfl|(simp [rnB,rnC,rnL];done))))|((with_reducible refine (?_:ObRs _ _ _));(refine ObRs.mk _ rfl ?_))|((with_reducible refine ObBk.same ?_ ?_);(focus (first|rfl|assumption|(simp;done))))|((with_reducible refine (?_:ObBk _ _ _));(refine ObBk.lit [.agg _] rfl ?_)))
 conv=>whnf
 refine SeqP.go ?_
 repeat' ((conv=>whnf);first|(refine SeqP.go ?_)|((refine ObN.mk ?_ ?_);exact zN)|((with_reducible refine (?_:ObL _ _));(refine ObL.mk _ zM ?_))|((with_reducible refine (?_:ObR _ _ _));(first|(refine ObR.mk _ zA ?_)|(refine ObR.map zX (fun x hx=>?_))|(refine ObR.mk _ rfl ?_))))
 conv=>whnf
 obtain ⟨PL,hPL⟩:∃ f:Nat->List UInt8,f=fun k=>L6++prs ((ls.take k).map pl):=⟨_,rfl⟩
 have hP0:PL 0=L6:=by rw [hPL];simp [prs]
 have hPs:∀ k (h:k < ls.length),PL (k+1)=(PL k++txt (bL ls[k].1))++txt (bL ls[k].2):=fun k h=>by
  rw [hPL]
  simp only [List.take_add_one,List.getElem?_eq_getElem h,Option.toList_some,List.map_append,List.map_cons,List.map_nil,prs,List.flatMap_append,List.flatMap_cons,List.flatMap_nil,List.append_nil,List.append_assoc,pl]
 have hPb:∀ k,k<=ls.length->(PL k).length<=300000:=fun k h=>by
  rw [hPL]
  have:=prs_len (ls.take k) fun p hp=>hls p (List.mem_of_mem_take hp)
  simp only [List.length_append]
  simp only [List.length_take] at this
  have:2042 * min k ls.length<=2042 * 100:=Nat.mul_le_mul_left _ (by omega)
  omega
 refine LoopP.go (α:=Nat) (fun k=>k<=ls.length) (fun k=>ls.length - k) (fun k=>[(9,none),(33,some (I (k:Nat))),(0,none),(0,none),(0,none),(0,none),(0,none),(0,none),(0,none),(0,none),(0,none),(0,none),(0,none),(0,none)]) (fun k=>[idR ids gi,⟨40,9,[nV (kn:Int) ke va (mp:Int) kk mn ls (sz:Int) bi],0,0⟩,bO2 (13+6 * k) (PL k).length,bX,bD (PL k) (13+6 * k)]) 0 (Nat.zero_le _) (Fg.go ?_ ?_) ?_
 ·repeat' ((conv=>whnf);first|((refine ObEqs.mk ?_ ?_);rfl)|((with_reducible refine ObEq1.i ?_ ?_);exact zF)|exact True.intro)
 ·rw [hP0];rfl
 ·intro k hk
  have r1:=hPb k hk
  by_cases hkl:k < ls.length
  ·have q := Zo hkl
   have s1:=(hls ls[k] (List.getElem_mem hkl)).1
   have s2:=(hls ls[k] (List.getElem_mem hkl)).2
   have hs:=hPs k hkl
   have r2:=hPb (k+1) hkl
   rw [hs] at r2
   simp only [List.length_append] at r2
   have d1:=txt44p G hI (idR ids gi) ⟨40,9,[nV (kn:Int) ke va (mp:Int) kk mn ls (sz:Int) bi],0,0⟩ ⟨62,2,[.agg [S ls[k].1,S ls[k].2]],0,0⟩ (PL k) (13+6 * k) (by omega) ls[k].1 s1
   have d2:=txt44p G hI (idR ids gi) ⟨40,9,[nV (kn:Int) ke va (mp:Int) kk mn ls (sz:Int) bi],0,0⟩ ⟨62,2,[.agg [S ls[k].1,S ls[k].2]],0,0⟩ (PL k++txt (bL ls[k].1)) (13+6 * k+3) (by simp only [List.length_append];omega) ls[k].2 s2
   have u1:=Z3 (PL k)
   have u2:=Z3 (PL k++txt (bL ls[k].1))
   have u3:=Z3 (PL (k+1))
   have eg:13+6 * k+3+3=13+6 * (k+1):=by omega
   rw [<- hs,eg] at d2
   unfold bO2 bX bD idR at *
   repeat' ((conv=>whnf);first|((refine ObN.mk ?_ ?_);exact zN)|((refine ObB.yes ?_ ?_);exact zB))
   conv=>whnf
   refine SeqP.go ?_
   repeat' ((conv=>whnf);first|(refine ObT.tt ?_))
   conv=>whnf
   refine SeqP.go ?_
   repeat' ((conv=>whnf);first|((refine ObD.mk ?_ ?_);exact zD)|((refine ObN.mk ?_ ?_);exact zN)|((refine ObX.mk _ rfl ?_ ?_);exact zX)|((with_reducible refine (?_:ObU _ _));(refine ObU.mk _ zU ?_))|((with_reducible refine (?_:ObR _ _ _));(first|(refine ObR.mk _ (by assumption) ?_)|(refine ObR.mk _ (by exact q) ?_)|(refine ObR.mk _ yy ?_)|(refine ObR.map zX (fun x hx=>?_))|(refine ObR.mk _ rfl ?_))))
   conv=>whnf
   refine SeqP.go ?_
   repeat' ((conv=>whnf);first|((refine ObN.mk ?_ ?_);exact zN)|((with_reducible refine (?_:ObU _ _));(refine ObU.mk _ zU ?_))|((with_reducible refine (?_:ObR _ _ _));(first|(refine ObR.mk _ zA ?_)|(refine ObR.map zX (fun x hx=>?_))|(refine ObR.mk _ rfl ?_)))|((refine ObH.f 44 ?_);(first|(with_reducible refine ObH.mk _ _ (d1) ?_)|(refine ObH.mk _ _ (d1) ?_))))
   conv=>whnf
   refine SeqP.go ?_
   repeat' ((conv=>whnf);first|((refine ObN.mk ?_ ?_);exact zN)|((with_reducible refine (?_:ObU _ _));(refine ObU.mk _ zU ?_))|((with_reducible refine (?_:ObR _ _ _));(first|(refine ObR.mk _ zA ?_)|(refine ObR.map zX (fun x hx=>?_))|(refine ObR.mk _ rfl ?_)))|((refine ObH.f 44 ?_);(first|(with_reducible refine ObH.mk _ _ (d2) ?_)|(refine ObH.mk _ _ (d2) ?_))))
   conv=>whnf
   refine SeqP.go ?_
   repeat' ((conv=>whnf);first|((refine ObN.mk ?_ ?_);exact zN)|((with_reducible refine ObI.nl ?_ ?_);omega))
   conv=>whnf
   refine Again.mk (k+1) (by omega) (by omega) (Fg.vw [(gi,0,gi),(0,1,0),(0,2,0),(0,3,0),(13+6 * (k+1),4,13+6 * (k+1))] ?_ ?_ (by simp) ?_)
   all_goals repeat' ((conv=>whnf);first|((refine ObN.mk ?_ ?_);exact zN)|((with_reducible refine ObO.l ?_);(refine ObN.mk ?_ ?_);(exact zq20))|((with_reducible refine ObRn.mk ?_ ?_);(focus (first|rfl|(simp [rnB,rnC,rnL];done))))|((with_reducible refine ObRow.same ?_ ?_ ?_);exact zE;(focus (first|rfl|assumption|(simp;done))))|((with_reducible refine ObRow.lit ?_ ?_);(focus (first|rfl|(simp [rnB,rnC,rnL];done))))|((refine ObEqs.mk ?_ ?_);rfl)|exact True.intro|((with_reducible refine ObRow.lit ?_ ?_);(focus (simp [rnB,rnC,rnL,AV.cells,rho];done))))
  ·obtain rfl : k = ls.length := by omega
   obtain ⟨L7,e7⟩:∃ L,L=PL ls.length:=⟨_,rfl⟩
   obtain ⟨g7,eg7⟩:∃ g,g=13+6 * ls.length:=⟨_,rfl⟩
   rw [<- e7] at r1
   rw [<- e7,<- eg7]
   have q7:=Z3 L7
   unfold bO2 bX bD idR at *
   repeat' ((conv=>whnf);first|(refine SeqP.go ?_)|((refine ObN.mk ?_ ?_);exact zN)|(refine ObT.ff ?_)|((refine ObB.no ?_ ?_);exact zC)|((with_reducible refine (?_:ObL _ _));(refine ObL.mk _ zM ?_))|((with_reducible refine (?_:ObR _ _ _));(first|(refine ObR.mk _ zA ?_)|(refine ObR.map zX (fun x hx=>?_))|(refine ObR.mk _ rfl ?_))))
   conv=>whnf
   obtain ⟨PK,hPK⟩:∃ f:Nat->List UInt8,f=fun j=>L7++nmz ((kk.take j).map (idF ids)):=⟨_,rfl⟩
   have hK0:PK 0=L7:=by rw [hPK];simp [nmz]
   have hKs:∀ j (h:j < kk.length),PK (j+1)=PK j++num (idF ids kk[j]):=fun j h=>by
    rw [hPK]
    simp only [List.take_add_one,List.getElem?_eq_getElem h,Option.toList_some,List.map_append,List.map_cons,List.map_nil,nmz,List.flatMap_append,List.flatMap_cons,List.flatMap_nil,List.append_nil,List.append_assoc]
   have hKb:∀ j,j<=kk.length->(PK j).length<=400000:=fun j h=>by
    rw [hPK]
    have:=nmz_len ((kk.take j).map (idF ids)) fun n hn=>by
     obtain ⟨r,hr,rfl⟩:=List.mem_map.1 hn
     have h2:=(hkk r (List.mem_of_mem_take hr)).2
     rw [idF,List.getD,List.getElem?_eq_getElem h2]
     exact hib _ (List.getElem_mem h2)
    simp only [List.length_map,List.length_take] at this
    simp only [List.length_append]
    have:21 * min j kk.length<=21 * 100:=Nat.mul_le_mul_left _ (by omega)
    omega
   have hib2:∀ r:Int,r.toNat < ids.length->idF ids r < 9223372036854775808:=fun r h2=>by
    rw [idF,List.getD,List.getElem?_eq_getElem h2]
    exact hib _ (List.getElem_mem h2)
   refine LoopP.go (α:=Nat) (fun j=>j<=kk.length) (fun j=>kk.length - j) (fun j=>[(11,none),(47,some (I (j:Nat))),(0,none),(0,none),(0,none),(0,none),(0,none),(0,none),(0,none),(0,none),(0,none),(0,none)]) (fun j=>[idR ids gi,⟨40,9,[nV (kn:Int) ke va (mp:Int) kk mn ls (sz:Int) bi],0,0⟩,bO2 (g7+2 * j) (PK j).length,bX,bD (PK j) (g7+2 * j)]) 0 (Nat.zero_le _) (Fg.go ?_ ?_) ?_
   ·repeat' ((conv=>whnf);first|((refine ObEqs.mk ?_ ?_);rfl)|((with_reducible refine ObEq1.i ?_ ?_);exact zF)|exact True.intro)
   ·rw [hK0];rfl
   ·intro j hj
    have t1:=hKb j hj
    by_cases hjl:j < kk.length
    ·have q := yd hjl
     obtain ⟨k0,k1⟩:=hkk kk[j] (List.getElem_mem hjl)
     have q2:=id_at k0 k1
     have hb2:=hib2 _ k1
     have hs:=hKs j hjl
     have d1:=wg G hI (PK j) (g7+2 * j) (by omega) (idF ids kk[j]) hb2
     have u1:=Z3 (PK j)
     have u3:=Z3 (PK (j+1))
     have eg:g7+2 * j+2=g7+2 * (j+1):=by omega
     rw [<- hs,eg] at d1
     have kl:kk[j] < (ids.length:Int):=by omega
     unfold bO bX bD idR bO2 at *
     repeat' ((conv=>whnf);first|((refine ObN.mk ?_ ?_);exact zN)|((refine ObB.yes ?_ ?_);exact zB))
     conv=>whnf
     refine SeqP.go ?_
     repeat' ((conv=>whnf);first|(refine ObT.tt ?_))
     conv=>whnf
     refine SeqP.go ?_
     repeat' ((conv=>whnf);first|((refine ObN.mk ?_ ?_);exact zN)|((refine ObX.mk _ rfl ?_ ?_);exact zX)|((with_reducible refine (?_:ObR _ _ _));(first|(refine ObR.mk _ (by assumption) ?_)|(refine ObR.mk _ (by exact q) ?_)|(refine ObR.mk _ yy ?_)|(refine ObR.map zX (fun x hx=>?_))|(refine ObR.mk _ rfl ?_))))
     conv=>whnf
     refine SeqP.go ?_
     repeat' ((conv=>whnf);first|((refine ObD.mk ?_ ?_);exact zD)|((refine ObN.mk ?_ ?_);exact zN)|((with_reducible refine ObX.int ?_ ?_ ?_);exact zX;exact zX)|((with_reducible refine (?_:ObU _ _));(refine ObU.mk _ zU ?_))|((with_reducible refine (?_:ObR _ _ _));(first|(refine ObR.mk _ (by assumption) ?_)|(refine ObR.mk _ (by exact q2) ?_)|(refine ObR.mk _ yy ?_)|(refine ObR.map zX (fun x hx=>?_))|(refine ObR.mk _ rfl ?_)))|((refine ObH.f 40 ?_);refine ObH.frn _ Yy [(0,2,0),(g7+2*j,4,g7+2*j)] (d1) (by simp) rfl (by simp) ?_)|((with_reducible refine ObRow.same ?_ ?_ ?_);exact zE;(focus (first|rfl|assumption|(simp;done))))|((with_reducible refine ObAs.mk ?_ ?_);(focus (first|rfl|(simp [rnB,rnC,rnL];done))))|((with_reducible refine (?_:ObRs _ _ _));(refine ObRs.mk _ rfl ?_))|((with_reducible refine ObBk.same ?_ ?_);(focus (first|rfl|assumption|(simp;done))))|((with_reducible refine (?_:ObBk _ _ _));(refine ObBk.lit [.agg _] rfl ?_))|((with_reducible refine ObRow.lit ?_ ?_);(focus (simp [rnB,rnC,rnL,AV.cells,rho];done))))
     conv=>whnf
     refine SeqP.go ?_
     repeat' ((conv=>whnf);first|((refine ObN.mk ?_ ?_);exact zN)|((with_reducible refine ObI.nl ?_ ?_);omega))
     conv=>whnf
     refine Again.mk (j+1) (by omega) (by omega) (Fg.vw [(gi,0,gi),(0,1,0),(0,2,0),(0,3,0),(g7+2 * (j+1),4,g7+2 * (j+1))] ?_ ?_ (by simp) ?_)
     all_goals repeat' ((conv=>whnf);first|((refine ObN.mk ?_ ?_);exact zN)|((with_reducible refine ObO.l ?_);(refine ObN.mk ?_ ?_);(exact zq20))|((with_reducible refine ObRn.mk ?_ ?_);(focus (first|rfl|(simp [rnB,rnC,rnL];done))))|((with_reducible refine ObRow.same ?_ ?_ ?_);exact zE;(focus (first|rfl|assumption|(simp;done))))|((with_reducible refine ObRow.lit ?_ ?_);(focus (first|rfl|(simp [rnB,rnC,rnL];done))))|((refine ObEqs.mk ?_ ?_);rfl)|exact True.intro|((with_reducible refine ObRow.lit ?_ ?_);(focus (simp [rnB,rnC,rnL,AV.cells,rho];done))))
    ·obtain rfl : j = kk.length := by omega
     obtain ⟨L8,e8⟩:∃ L,L=PK kk.length:=⟨_,rfl⟩
     obtain ⟨g8,eg8⟩:∃ g,g=g7+2 * kk.length:=⟨_,rfl⟩
     rw [<- e8] at t1
     rw [<- e8,<- eg8]
     have q8:=Z3 L8
     have hb3:=hib2 mn hm
     have f1:=wg G hI L8 g8 (by omega) (idF ids mn) hb3
     have n8:=Y8 hb3
     obtain ⟨L9,e9⟩:∃ L,L=L8++num (idF ids mn):=⟨_,rfl⟩
     rw [<- e9] at f1
     have t9:L9.length<=500000:=by rw [e9,List.length_append];omega
     have t9':0 < L9.length:=by rw [e9,List.length_append,num,List.length_append,List.length_cons];omega
     have q9:=Z3 L9
     have f2:=st45 G L9 (g8+2) t9' (by omega)
     have ef:L9=dsc kn (bL ke) (bL va) mp sz (ls.map pl) (kk.map (idF ids)) (idF ids mn):=by
      rw [e9,e8,hPK,e7,hPL,e6,e5,e4,e3,e2,e1]
      simp only [List.take_length,dsc,nmz,List.flatMap_append,List.flatMap_cons,List.flatMap_nil,List.append_nil,List.append_assoc,List.length_map]
     rw [<- ef]
     have q3:=id_at hm0 hm
     have kl:mn < (ids.length:Int):=by omega
     unfold bO bX bD idR bO2 at *
     repeat' ((conv=>whnf);first|(refine SeqP.go ?_)|((refine ObD.mk ?_ ?_);exact zD)|((refine ObN.mk ?_ ?_);exact zN)|(refine ObT.ff ?_)|((refine ObB.no ?_ ?_);exact zC)|((with_reducible refine ObX.int ?_ ?_ ?_);exact zX;exact zX)|((with_reducible refine (?_:ObU _ _));(refine ObU.mk _ zU ?_))|((with_reducible refine (?_:ObR _ _ _));(first|(refine ObR.mk _ (by assumption) ?_)|(refine ObR.mk _ (by exact q3) ?_)|(refine ObR.mk _ yy ?_)|(refine ObR.map zX (fun x hx=>?_))|(refine ObR.mk _ rfl ?_)))|((refine ObH.f 40 ?_);refine ObH.frn _ Yy [(0,2,0),(g8,4,g8)] (f1) (by simp) rfl (by simp) ?_)|((refine ObH.f 45 ?_);refine ObH.frn _ Yy [(0,2,0),(g8+2,4,g8+2)] (f2) (by simp) rfl (by simp) ?_)|((with_reducible refine ObRow.same ?_ ?_ ?_);exact zE;(focus (first|rfl|assumption|(simp;done))))|((with_reducible refine ObAs.mk ?_ ?_);(focus (first|rfl|(simp [rnB,rnC,rnL];done))))|((with_reducible refine (?_:ObRs _ _ _));(refine ObRs.mk _ rfl ?_))|((with_reducible refine ObBk.same ?_ ?_);(focus (first|rfl|assumption|(simp;done))))|((with_reducible refine (?_:ObBk _ _ _));(refine ObBk.lit [.agg _] rfl ?_))|((with_reducible refine ObRow.lit ?_ ?_);(focus (simp [rnB,rnC,rnL,AV.cells,rho];done))))
     all_goals conv=>whnf
     all_goals refine ObEnd.vw [(gi,0,gi)] rfl ?_ (by simp) ?_
     all_goals repeat' ((conv=>whnf);first|((refine ObN.mk ?_ ?_);exact zN)|((with_reducible refine ObO.l ?_);(refine ObN.mk ?_ ?_);(exact zq20))|((with_reducible refine ObRow.same ?_ ?_ ?_);exact zE;(focus (first|rfl|assumption|(simp;done))))|exact True.intro)
end
end Go.Proofs.YtfocijljkkfonaaDoor.Sim
namespace Go.Proofs.YtfocijljkkfonaaDoor.Sim
open Go.RowKit
set_option maxRecDepth 100000
theorem XM {l:List Int}:(l.map iA).take l.length=l.map iA:=List.take_of_length_le (by simp)
theorem drop_rep {n:Nat} {z:AV}:(List.replicate n z).drop n=[]:=by simp
set_option maxHeartbeats 4000000 in
theorem copy37 (G:Nat->AV) (l:List Int) (hl:l.length<=40):PC Tryd.prog G 36 [.sl 1 (l.map iA)] (.sl 1 (l.map iA)):=by
 refine xk cop36 ?_
 show W _ _ _ _ ⟨_,_⟩;simp only [A36,YC,YE,YM,List.cons_append,List.nil_append,List.length_cons,List.length_nil,Nat.reduceAdd,Nat.reduceSub,List.replicate]
 by_cases h0:l.length=0
 ·obtain rfl := List.length_eq_zero_iff.mp h0
  simp only [List.map_nil]
  repeat (first|(with_reducible first|refine Zn ?_|refine Zj ?_|refine zG ?_|refine zH ?_|refine yD ?_|refine y6 ?_)|((with_reducible first|refine ks fun K hK=>?_|refine kd fun K hK=>?_|refine kc fun K hK2 hK hK3=>?_|refine XC fun K hR=>?_|refine YK rfl fun K hR=>?_|refine yL fun K hR=>?_);simp (disch:=omega) only [bg0,bg1,bg2,bg3,bg4,zw,z6,eff,AX.ev,St.put,zY,zW,ap1,zk,simprocAttr,zx,AV.cells,AV.fine,AV.one,Zr,zt,live,zr,rdA,zi,wrA,zR,zu,Zp,z8,Zm,zo,zb,zq,zp,zg,cut,id,ap2,zy,Zq,geB,AOp.cls,AOp.xs,ltB,ltC,Option.toList,List.cons_append,decide_eq_true,decide_eq_false,if_pos,if_neg,List.length_map,Zo,yd,bVb,bVn,eq_self,Bool.and_self,BEq.rfl,not_true_eq_false,b32e,b32n,decide_true,decide_false,not_false_eq_true,cpyA,Nat.min_self,List.length_replicate];(first|(with_reducible first|(refine hK _ ?_;clear hK K)|(refine hK ?_;clear hK hK3 K hK2)|(refine hK3 ?_;clear hK hK3 K hK2))|((with_reducible refine hR _ ?_ ?_ ?_ ?_);rotate_left 2;rfl;rfl)|((with_reducible refine hR _ ?_);rfl))))
 ·repeat (first|(with_reducible first|refine Zn ?_|refine Zj ?_|refine ZB ?_|refine zG ?_|refine zH ?_|refine yD ?_)|((with_reducible first|refine ks fun K hK=>?_|refine kd fun K hK=>?_|refine kc fun K hK2 hK hK3=>?_);simp (disch:=omega) only [bg0,bg1,bg2,bg3,bg4,zw,z6,eff,AX.ev,St.put,zY,zW,ap1,zk,simprocAttr,zx,AV.cells,AV.fine,AV.one,Zr,zt,live,zr,rdA,zi,wrA,zR,zu,Zp,z8,Zm,zo,zb,zq,zp,zg,cut,id,ap2,zy,Zq,geB,AOp.cls,AOp.xs,ltB,ltC,Option.toList,List.cons_append,decide_eq_true,decide_eq_false,if_pos,if_neg,List.length_map,Zo,yd,bVb,bVn,eq_self,Bool.and_self,BEq.rfl,not_true_eq_false,b32e,b32n,decide_true,decide_false,not_false_eq_true,cpyA,Nat.min_self,List.length_replicate,XM,drop_rep];(with_reducible first|(refine hK _ ?_;clear hK K)|(refine hK ?_;clear hK hK3 K hK2)|(refine hK3 ?_;clear hK hK3 K hK2))))
  refine yL fun K hK=>?_
  simp only [z6,List.getD_cons_succ,List.getD_cons_zero]
  refine hK _ ?_ ?_ ?_ ?_
  rotate_left 2
  simp only [yv,pur,ZL,List.getElem?_cons_zero,List.length_map,XM,Nat.le_refl,and_self,and_true,true_and]
  rw [if_pos ⟨(all_iA _),rfl⟩]
  rfl
def few (l:List Pr):List Pr:=(l.take (min l.length 40)).map fun p=>(yY p.1 40,yY p.2 40)
def wv (l:List Int):List Int:=l.take (min l.length 40)
theorem few1_len (l:List Int):(wv l).length=min l.length 40:=by simp [wv]
theorem few1_map (l:List Int):(l.map iA).take (min l.length 40)=(wv l).map iA:=by simp [wv,List.map_take]
theorem min40 {n:Nat}:(if (40:Int) < (n:Int) then (40:Int) else (n:Int))=((min n 40:Nat):Int):=by split<;>omega
set_option maxHeartbeats 4000000 in
theorem fewN (G : Nat -> AV) (kn : Int) (ke va : ByteArray) (mp : Int) (kk : List Int) (mn : Int) (ls : List Pr) (sz bi : Int) (hke : ke.size <= 9223372036854775807) (hva : va.size <= 9223372036854775807) (hkk : kk.length <= 9223372036854775807) (hls : ls.length <= 9223372036854775807) (hs : ∀ p ∈ ls, p.1.size <= 9223372036854775807 /\ p.2.size <= 9223372036854775807) :
  PC Tryd.prog G 13 [nV kn ke va mp kk mn ls sz bi] (nV kn (yY ke 40) (yY va 40) mp (wv kk) mn (few ls) sz bi):=by
 have hf:PC Tryd.prog G 29 [.sl 2 (ls.map pA)] (.sl 2 ((few ls).map pA)):=few07 G ls hls hs
 have f1:=few1_len kk
 have f2:=few1_map kk
 refine xk cop13 ?_
 show W _ _ _ _ ⟨_,_⟩;simp only [A13,YE,YF,YL,YQ,YS,List.cons_append,List.nil_append,List.length_cons,List.length_nil,Nat.reduceAdd,Nat.reduceSub,List.replicate]
 repeat (first|(with_reducible first|refine Zn ?_|refine Zj ?_|refine Z5 ?_|refine zG ?_|refine ZV ?_|refine zH ?_|refine yD ?_)|((with_reducible first|refine ks fun K hK=>?_|refine kd fun K hK=>?_|refine kc fun K hK2 hK hK3=>?_);simp (disch:=omega) only [bg0,bg1,bg2,bg3,bg4,zw,z6,eff,AX.ev,St.put,zY,zW,ap1,zk,simprocAttr,zx,AV.cells,AV.fine,AV.one,Zr,zt,live,zr,rdA,zi,wrA,zR,zu,Zp,z8,Zm,zo,zb,zq,zp,zg,cut,id,ap2,zy,Zq,geB,AOp.cls,AOp.xs,ltB,ltC,Option.toList,List.cons_append,decide_eq_true,decide_eq_false,if_pos,if_neg,List.length_map,Zo,yd,bVb,bVn,eq_self,Bool.and_self,BEq.rfl,not_true_eq_false,b32e,b32n,decide_true,decide_false,not_false_eq_true,cpyA,Nat.min_self,List.length_replicate,min40,f2,f1];(with_reducible first|(refine hK _ ?_;clear hK K)|(refine hK ?_;clear hK hK3 K hK2)|(refine hK3 ?_;clear hK hK3 K hK2)))|((with_reducible refine kps 29 ?_ ?_ ?_ ?_);rotate_left 1;rfl;exact hf)|((first|((with_reducible refine kpd 28 ?_ ?_ ?_ ?_ ?_);rotate_left 1)|((with_reducible refine kpd 29 ?_ ?_ ?_ ?_ ?_);rotate_left 1));(focus (simp (disch:=omega) only [bg0,bg1,bg2,bg3,bg4,zw,z6,eff,AX.ev,St.put,zY,zW,ap1,zk,simprocAttr,zx,AV.cells,AV.fine,AV.one,Zr,zt,live,zr,rdA,zi,wrA,zR,zu,Zp,z8,Zm,zo,zb,zq,zp,zg,cut,id,ap2,zy,Zq,geB,AOp.cls,AOp.xs,ltB,ltC,Option.toList,List.cons_append,decide_eq_true,decide_eq_false,if_pos,if_neg,List.length_map,Zo,yd,bVb,bVn,eq_self,Bool.and_self,BEq.rfl,not_true_eq_false,b32e,b32n,decide_true,decide_false,not_false_eq_true,cpyA,Nat.min_self,List.length_replicate,min40,f2,f1];try rfl));(first|(rfl;exact (by refine cutP G _ 40 ?_;assumption))|(rfl;exact hf))))
 have f3:((wv kk).map iA).take (min kk.length 40)=(wv kk).map iA:=List.take_of_length_le (by simp [f1])
 refine yL fun K hK=>?_
 simp only [bg0,bg1,bg2,bg3,bg4,zw,z6,eff,AX.ev,St.put,zY,zW,ap1,zk,simprocAttr,zx,AV.cells,AV.fine,AV.one,Zr,zt,live,zr,rdA,zi,wrA,zR,zu,Zp,z8,Zm,zo,zb,zq,zp,zg,cut,id,ap2,zy,Zq,geB,AOp.cls,AOp.xs,ltB,ltC,Option.toList]
 refine hK _ ?_ ?_ ?_ ?_
 rotate_left 2
 simp only [yv,pur,xt,ZL,AV.isC,AV.isC0,if_true,List.getElem?_cons_zero,List.getElem?_cons_succ,List.length_map,f1,f3,all_iA,Nat.le_refl,and_self]
 rfl
 rfl
theorem xg (s:ByteArray):(yY s 40).size<=40:=by simp [yY];omega
theorem Yu {s:ByteArray} (h:s.size<=40):yY s 40=s:=by
 unfold yY
 rw [Nat.min_eq_left h]
 exact ByteArray.extract_zero_size
theorem few1_short {l:List Int} (h:l.length<=40):wv l=l:=by
 unfold wv;rw [Nat.min_eq_left h,List.take_length]
theorem few_len (l:List Pr):(few l).length<=40:=by simp [few];omega
theorem few_short {l:List Pr} (h:l.length<=40) (hs:∀ p ∈ l,p.1.size<=40/\p.2.size<=40):few l=l:=by
 unfold few
 rw [Nat.min_eq_left h,List.take_length]
 refine (List.map_congr_left (g:=id) fun p hp=>?_).trans (List.map_id l)
 have:=hs p hp
 rw [Yu this.1,Yu this.2]
 rfl
theorem few_sizes {l:List Pr}:∀ p ∈ few l,p.1.size<=40/\p.2.size<=40:=by
 intro p hp
 unfold few at hp
 obtain ⟨q,hq,rfl⟩:=List.mem_map.1 hp
 exact ⟨xg _,xg _⟩
abbrev PrS:={p:Pr // p.1.size<=9223372036854775807/\p.2.size<=9223372036854775807}
def pC (p:PrS):List AV:=[S p.1.1,S p.1.2]
theorem pair_inv {cs:List AV} (h:ShC Tryd.prog 62 cs):∃ p:PrS,cs=pC p:=by
 obtain ⟨p0,q,rfl,hp0,h⟩:=(h.flds (ts:=[9,9]) (by kernel_rfl)).cons
 obtain ⟨p1,q,rfl,hp1,h⟩:=h.cons
 obtain rfl:=h.nil
 obtain ⟨a,rfl,ha⟩:=hp0.str_inv X2
 obtain ⟨b,rfl,hb⟩:=hp1.str_inv X2
 exact ⟨⟨(a,b),ha,hb⟩,rfl⟩
def B36:AF:=(AF.mk 14 [(2,none)] (AC.seq (AC.region [(jA 2 (AOp.mv (AX.c (AV.nl 1))))]) (AC.seq (AC.seq (AC.region [(jA 4 (AOp.mv (AX.t 0))),(jA 5 (AOp.len (AX.t 4))),(jA 6 (AOp.bin BinOp.eql 3 false (Operand.tmp 5) (Operand.const (Value.int IntKind.i64 0)) (AX.t 5) (jI 0)))]) (AC.cond (AX.t 6) (AC.seq (AC.region [(jA 2 (AOp.mv (AX.c (AV.nl 1))))]) AC.ret) AC.skip)) (AC.seq (AC.region [(jA 7 (AOp.mv (AX.t 0))),(jA 8 (AOp.len (AX.t 7))),(jA 9 (AOp.mks 25 1 8 (jN 0) (AX.t 8) (AX.t 8))),(jA 3 (AOp.mv (AX.t 9)))]) (AC.seq (AC.region [(jA 10 (AOp.mv (AX.t 3))),(jA 11 (AOp.mv (AX.t 0))),(jA 12 (AOp.cpy 1 (AX.t 10) (AX.t 11)))]) (AC.seq (AC.region [(jA 13 (AOp.mv (AX.t 3))),(jA 2 (AOp.mv (AX.t 13)))]) AC.ret))))))
theorem bop36:zI Tryd.prog [16,26,30,34,36,40,41,43,44,45,48,55,71,72,81,87,88,91,92] 36=some B36:=by kernel_rfl
section
variable (G:Nat->AV)
def refD (r:Int) (to:List Int):Option Int:=if 0<=r then some r else to[(-1 - r).toNat]?
theorem Xn {l:List Int} {k:Nat} (h:k < l.length):(l.map iA)[k]? = some (I l[k]):=by simp [h,iA]
end
def ok (to:List Int) (r:Int):Bool:=(refD r to).isSome
def eo:Bool->Int|true=>0|false=>4
def i64 (r:Int):Prop:=-9223372036854775808<=r/\r<=9223372036854775807
abbrev kR (g:Nat) (l:List Int):OB:=⟨25,1,l.map iA,g,0⟩
theorem p_i (l:List Int):(l.map iA).all AV.isP=true:=by simp [iA,AV.isP,AV.isC,AV.isC0]
theorem nr_i (l:List Int):(l.map iA).all nrB=true:=by simp [iA,nrB,AV.cells]
section
variable (G:Nat->AV)
theorem cpyB (l:List Int) (hl:l.length<=1000) (h0:0 < l.length):HC Tryd.prog G 36 [.sl 1 (l.map iA)] [] (.ol 0 0 l.length) [kR 0 l]:=by
 have lm:min (l.map iA).length ((l.length:Nat):Int).toNat=l.length:=by simp
 have u1:(l.map iA).take l.length++(List.replicate ((l.length:Nat):Int).toNat (AV.v (.int .i64 0))).drop l.length=l.map iA:=by
  rw [Int.toNat_natCast,List.take_of_length_le (by simp),List.drop_of_length_le (by simp),List.append_nil]
 refine ZR bop36 rfl ?_
 repeat' ((conv=>whnf);first|(refine SeqP.go ?_)|((refine ObN.mk ?_ ?_);exact zN)|(refine ObT.ff ?_)|((refine ObB.no ?_ ?_);exact zC)|((with_reducible refine (?_:ObL _ _));(refine ObL.mk _ (by first|exact lm|exact (List.length_map _)|assumption|exact (List.length_map _).trans (by assumption)|exact List.length_map _|rfl) ?_))|((with_reducible refine (?_:ObU _ _));(refine ObU.mk _ (by first|exact u1|assumption|((conv=>lhs;simp only [List.set_cons_zero,List.set_cons_succ,List.take_succ_cons,List.take_zero,List.drop_succ_cons,List.drop_zero,List.nil_append,List.cons_append,List.append_nil,List.take_nil,List.drop_nil]);try rfl)|rfl) ?_))|(exact ObEnd.eq rfl rfl))
theorem cpyB0:HC Tryd.prog G 36 [.sl 1 []] [] (.nl 1) []:=by
 have l0:([]:List AV).length=0:=rfl
 refine ZR bop36 rfl ?_
 repeat' ((conv=>whnf);first|(refine SeqP.go ?_)|((refine ObN.mk ?_ ?_);exact zN)|(refine ObT.tt ?_)|((refine ObB.yes ?_ ?_);exact zB)|((with_reducible refine (?_:ObL _ _));(refine ObL.mk _ (by first|exact l0|assumption|exact (List.length_map _).trans (by assumption)|exact List.length_map _|rfl) ?_))|(exact ObEnd.eq rfl rfl))
end
theorem all_tk {p:Int->Bool} {l:List Int} {i:Nat} (h:i < l.length) (h0:(l.take i).all p=true) (h1:p l[i]=true):(l.take (i+1)).all p=true:=by
 rw [List.take_succ_eq_append_getElem h,List.all_append,h0];simp [h1]
theorem all_no {p:Int->Bool} {l:List Int} {i:Nat} (h:i < l.length) (h1:p l[i]=false):l.all p=false:=by
 rw [List.all_eq_false];exact ⟨l[i],List.getElem_mem h,by simp [h1]⟩
section
variable (G:Nat->AV)
end
theorem WJ {l:List Int} {x:Int}:(l.map iA).take l.length++[.v (.int .i64 x)]=(l++[x]).map iA:=by
 rw [List.take_of_length_le (by simp)];simp [iA]
section
variable (G:Nat->AV)
end
theorem i_all {l:List Int}:(l.map iA).take l.length=l.map iA:=List.take_of_length_le (by simp)
section
variable (G:Nat->AV)
end
abbrev i64S:={n:Int // i64 n}
set_option maxHeartbeats 16000000 in
theorem Xd (G : Nat -> AV) (kn kn' : Int) (ke ke' va va' : ByteArray) (mp mp' : Int) (kk kk' : List Int) (mn mn' : Int) (ls ls' : List Pr) (sz sz' bi bi' : Int) (hke : ke.size <= 9223372036854775807) (hke2 : ke'.size <= 9223372036854775807) (hva : va.size <= 9223372036854775807) (hva2 : va'.size <= 9223372036854775807) (hks : kk.length <= 9223372036854775807) (hks2 : kk'.length <= 9223372036854775807) (hls : ls.length <= 9223372036854775807) (hls2 : ls'.length <= 9223372036854775807) (r : Bool)
  (hr:r=decide (kn=kn'/\ke=ke'/\va=va'/\mp=mp'/\kk=kk'/\mn=mn'/\ls=ls'/\sz=sz'/\bi=bi')):PC Tryd.prog G 54 [nV kn ke va mp kk mn ls sz bi,nV kn' ke' va' mp' kk' mn' ls' sz' bi'] (Bo r):=by
 by_cases h0:kn=kn'
 case neg =>
  obtain rfl:r=false:=by rw [hr];simp [h0]
  refine zf xn ?_
  repeat' ((conv=>whnf);first|(refine SeqP.go ?_)|((refine ObD.mk ?_ ?_);exact zD)|((refine ObN.mk ?_ ?_);exact zN)|(refine ObT.ff ?_)|((refine ObB.no ?_ ?_);exact zC)|((with_reducible refine (?_:ObR _ _ _));(first|(refine ObR.mk _ zA ?_)|(refine ObR.map zX (fun x hx=>?_))|(refine ObR.mk _ rfl ?_)))|((refine ObEq.mk ?_);exact zE))
 subst h0
 by_cases h1:ke=ke'
 case neg =>
  obtain rfl:r=false:=by rw [hr];simp [h1]
  have c1:=cmpP G ke ke' hke hke2
  have n1:=cB_ne h1
  generalize cB ke ke'=z1 at *
  refine zf xn ?_
  repeat' ((conv=>whnf);first|(refine SeqP.go ?_)|((refine ObD.mk ?_ ?_);exact zD)|((refine ObN.mk ?_ ?_);exact zN)|(with_reducible first|refine ObT.tt ?_|refine ObT.ff ?_)|((refine ObB.yes ?_ ?_);exact zB)|((refine ObB.no ?_ ?_);exact zC)|((with_reducible refine (?_:ObR _ _ _));(first|(refine ObR.mk _ zA ?_)|(refine ObR.map zX (fun x hx=>?_))|(refine ObR.mk _ rfl ?_)))|((refine ObC.f 62 ?_);(refine ObC.mk _ (c1) ?_))|((refine ObEq.mk ?_);exact zE))
 subst h1
 have c1:PC Tryd.prog G 62 [S ke,S ke] (I 0):=by have q:=cmpP G ke ke hke hke;rwa [Z1] at q
 by_cases h2:va=va'
 case neg =>
  obtain rfl:r=false:=by rw [hr];simp [h2]
  have c2:=cmpP G va va' hva hva2
  have n2:=cB_ne h2
  generalize cB va va'=z2 at *
  refine zf xn ?_
  repeat' ((conv=>whnf);first|(refine SeqP.go ?_)|((refine ObD.mk ?_ ?_);exact zD)|((refine ObN.mk ?_ ?_);exact zN)|(with_reducible first|refine ObT.tt ?_|refine ObT.ff ?_)|((refine ObB.yes ?_ ?_);exact zB)|((refine ObB.no ?_ ?_);exact zC)|((with_reducible refine (?_:ObR _ _ _));(first|(refine ObR.mk _ zA ?_)|(refine ObR.map zX (fun x hx=>?_))|(refine ObR.mk _ rfl ?_)))|((refine ObC.f 62 ?_);(refine ObC.mk _ (c1) ?_))|((refine ObC.f 62 ?_);(refine ObC.mk _ (c2) ?_))|((refine ObEq.mk ?_);exact zE))
 subst h2
 have c2:PC Tryd.prog G 62 [S va,S va] (I 0):=by have q:=cmpP G va va hva hva;rwa [Z1] at q
 by_cases h3:mp=mp'
 case neg =>
  obtain rfl:r=false:=by rw [hr];simp [h3]
  refine zf xn ?_
  repeat' ((conv=>whnf);first|(refine SeqP.go ?_)|((refine ObD.mk ?_ ?_);exact zD)|((refine ObN.mk ?_ ?_);exact zN)|(with_reducible first|refine ObT.tt ?_|refine ObT.ff ?_)|((refine ObB.yes ?_ ?_);exact zB)|((refine ObB.no ?_ ?_);exact zC)|((with_reducible refine (?_:ObR _ _ _));(first|(refine ObR.mk _ zA ?_)|(refine ObR.map zX (fun x hx=>?_))|(refine ObR.mk _ rfl ?_)))|((refine ObC.f 62 ?_);(refine ObC.mk _ (c1) ?_))|((refine ObC.f 62 ?_);(refine ObC.mk _ (c2) ?_))|((refine ObEq.mk ?_);exact zE))
 subst h3
 by_cases h4:kk=kk'
 case neg =>
  obtain rfl:r=false:=by rw [hr];simp [h4]
  have c3:=eq40 G kk kk' hks hks2 false (by simp [h4])
  refine zf xn ?_
  repeat' ((conv=>whnf);first|(refine SeqP.go ?_)|((refine ObD.mk ?_ ?_);exact zD)|((refine ObN.mk ?_ ?_);exact zN)|(with_reducible first|refine ObT.tt ?_|refine ObT.ff ?_)|((refine ObB.yes ?_ ?_);exact zB)|((with_reducible refine (?_:ObR _ _ _));(first|(refine ObR.mk _ zA ?_)|(refine ObR.map zX (fun x hx=>?_))|(refine ObR.mk _ rfl ?_)))|((refine ObC.f 62 ?_);(refine ObC.mk _ (c1) ?_))|((refine ObC.f 62 ?_);(refine ObC.mk _ (c2) ?_))|((refine ObC.f 63 ?_);(refine ObC.mk _ (c3) ?_))|((refine ObEq.mk ?_);exact zE))
 subst h4
 have c3:=eq40 G kk kk hks hks true (by simp)
 by_cases h5:mn=mn'
 case neg =>
  obtain rfl:r=false:=by rw [hr];simp [h5]
  refine zf xn ?_
  repeat' ((conv=>whnf);first|(refine SeqP.go ?_)|((refine ObD.mk ?_ ?_);exact zD)|((refine ObN.mk ?_ ?_);exact zN)|(with_reducible first|refine ObT.tt ?_|refine ObT.ff ?_)|((refine ObB.yes ?_ ?_);exact zB)|((refine ObB.no ?_ ?_);exact zC)|((with_reducible refine (?_:ObR _ _ _));(first|(refine ObR.mk _ zA ?_)|(refine ObR.map zX (fun x hx=>?_))|(refine ObR.mk _ rfl ?_)))|((refine ObC.f 62 ?_);(refine ObC.mk _ (c1) ?_))|((refine ObC.f 62 ?_);(refine ObC.mk _ (c2) ?_))|((refine ObC.f 63 ?_);(refine ObC.mk _ (c3) ?_))|((refine ObEq.mk ?_);exact zE))
 subst h5
 by_cases h6:ls=ls'
 case neg =>
  obtain rfl:r=false:=by rw [hr];simp [h6]
  have c4:=eq41 G ls ls' hls hls2 false (by simp [h6])
  refine zf xn ?_
  repeat' ((conv=>whnf);first|(refine SeqP.go ?_)|((refine ObD.mk ?_ ?_);exact zD)|((refine ObN.mk ?_ ?_);exact zN)|(with_reducible first|refine ObT.tt ?_|refine ObT.ff ?_)|((refine ObB.yes ?_ ?_);exact zB)|((with_reducible refine (?_:ObR _ _ _));(first|(refine ObR.mk _ zA ?_)|(refine ObR.map zX (fun x hx=>?_))|(refine ObR.mk _ rfl ?_)))|((refine ObC.f 62 ?_);(refine ObC.mk _ (c1) ?_))|((refine ObC.f 62 ?_);(refine ObC.mk _ (c2) ?_))|((refine ObC.f 63 ?_);(refine ObC.mk _ (c3) ?_))|((refine ObC.f 64 ?_);(refine ObC.mk _ (c4) ?_))|((refine ObEq.mk ?_);exact zE))
 subst h6
 have c4:=eq41 G ls ls hls hls true (by simp)
 by_cases h7:sz=sz'
 case neg =>
  obtain rfl:r=false:=by rw [hr];simp [h7]
  refine zf xn ?_
  repeat' ((conv=>whnf);first|(refine SeqP.go ?_)|((refine ObD.mk ?_ ?_);exact zD)|((refine ObN.mk ?_ ?_);exact zN)|(with_reducible first|refine ObT.tt ?_|refine ObT.ff ?_)|((refine ObB.yes ?_ ?_);exact zB)|((refine ObB.no ?_ ?_);exact zC)|((with_reducible refine (?_:ObR _ _ _));(first|(refine ObR.mk _ zA ?_)|(refine ObR.map zX (fun x hx=>?_))|(refine ObR.mk _ rfl ?_)))|((refine ObC.f 62 ?_);(refine ObC.mk _ (c1) ?_))|((refine ObC.f 62 ?_);(refine ObC.mk _ (c2) ?_))|((refine ObC.f 63 ?_);(refine ObC.mk _ (c3) ?_))|((refine ObC.f 64 ?_);(refine ObC.mk _ (c4) ?_))|((refine ObEq.mk ?_);exact zE))
 subst h7
 by_cases h8:bi=bi'
 case neg =>
  obtain rfl:r=false:=by rw [hr];simp [h8]
  refine zf xn ?_
  repeat' ((conv=>whnf);first|(refine SeqP.go ?_)|((refine ObD.mk ?_ ?_);exact zD)|((refine ObN.mk ?_ ?_);exact zN)|(refine ObT.tt ?_)|((refine ObB.yes ?_ ?_);exact zB)|((refine ObB.no ?_ ?_);exact zC)|((with_reducible refine (?_:ObR _ _ _));(first|(refine ObR.mk _ zA ?_)|(refine ObR.map zX (fun x hx=>?_))|(refine ObR.mk _ rfl ?_)))|((refine ObC.f 62 ?_);(refine ObC.mk _ (c1) ?_))|((refine ObC.f 62 ?_);(refine ObC.mk _ (c2) ?_))|((refine ObC.f 63 ?_);(refine ObC.mk _ (c3) ?_))|((refine ObC.f 64 ?_);(refine ObC.mk _ (c4) ?_))|((refine ObEq.mk ?_);exact zE))
 subst h8
 obtain rfl:r=true:=by rw [hr];simp
 refine zf xn ?_
 repeat' ((conv=>whnf);first|(refine SeqP.go ?_)|((refine ObD.mk ?_ ?_);exact zD)|((refine ObN.mk ?_ ?_);exact zN)|(refine ObT.tt ?_)|((refine ObB.yes ?_ ?_);exact zB)|((with_reducible refine (?_:ObR _ _ _));(first|(refine ObR.mk _ zA ?_)|(refine ObR.map zX (fun x hx=>?_))|(refine ObR.mk _ rfl ?_)))|((refine ObC.f 62 ?_);(refine ObC.mk _ (c1) ?_))|((refine ObC.f 62 ?_);(refine ObC.mk _ (c2) ?_))|((refine ObC.f 63 ?_);(refine ObC.mk _ (c3) ?_))|((refine ObC.f 64 ?_);(refine ObC.mk _ (c4) ?_))|((refine ObEq.mk ?_);exact zE))
def lg (p:Pr):Bool:=decide (16 < p.1.size) || decide (16 < p.2.size)
theorem isl29 (G:Nat->AV) (a b:ByteArray):PC Tryd.prog G 33 [.agg [S a,S b]] (Bo (lg (a,b))):=by
 refine zf cop33 ?_
 repeat' ((conv=>whnf);first|(refine SeqP.go ?_)|((refine ObD.mk ?_ ?_);exact zD)|((refine ObN.mk ?_ ?_);exact zN)|(with_reducible first|refine ObT.tt ?_|refine ObT.ff ?_|refine ObB.mk (fun h=>?_) (fun h=>?_))|((with_reducible refine (?_:ObL _ _));(refine ObL.mk _ zL ?_))|((with_reducible refine (?_:ObR _ _ _));(first|(refine ObR.mk _ zA ?_)|(refine ObR.map zX (fun x hx=>?_))|(refine ObR.mk _ rfl ?_)))|((refine ObEq.mk ?_);(exact zq16)))
theorem wq {n:Nat} (p:Nat->Bool):(∀ k,k < n->p k=false)\/∃ i,i < n/\p i=true/\∀ k,k < i->p k=false:=by
 induction n with
 | zero=>left;intro k hk;omega
 | succ n ih =>
  rcases ih with h|⟨i,h1,h2,h3⟩
  ·cases hp:p n with
   | false=>left;intro k hk;by_cases e:k=n;subst e;exact hp;exact h k (by omega)
   | true=>right;exact ⟨n,by omega,hp,h⟩
  ·right;exact ⟨i,by omega,h2,h3⟩
abbrev cL:AV:=.v (.func (.func 33) #[] #[])
theorem isl29h (G:Nat->AV) (H:Hp) (a b:ByteArray):HC Tryd.prog G 33 [.agg [S a,S b]] H (Bo (lg (a,b))) H:=hc_pc rfl (isl29 G a b) H
theorem any30 (G:Nat->AV) (l:List Pr) (hl:l.length<=9223372036854775807) (H:Hp):HC Tryd.prog G 34 [.sl 2 (l.map pA),cL] H (Bo (l.any lg)) H:=by
 rcases wq (n:=l.length) (fun k=>match l[k]? with|some p=>lg p|none=>false) with h|⟨i0,h1,h2,h3⟩
 ·have hx : HC Tryd.prog G 48 [.sl 2 (l.map pA), cL] H (I (-1)) H := by
   refine ZR cop48 rfl ?_
   repeat' ((conv=>whnf);first|(refine SeqP.go ?_)|((with_reducible refine (?_:ObL _ _));(refine ObL.mk _ zL ?_)))
   conv=>whnf
   refine LoopP.go (α:=Nat) (fun i=>i<=l.length) (fun i=>l.length - i) (fun i=>[(4,none),(0,none),(2,some (I i)),(0,none),(0,none),(0,none),(0,none),(0,none),(0,none),(0,none),(0,none),(0,none),(0,none)]) (fun _=>H) 0 (Nat.zero_le _) (Fg.go ?_ rfl) ?_
   ·repeat' ((conv=>whnf);first|((refine ObEqs.mk ?_ ?_);rfl)|((with_reducible refine ObEq1.i ?_ ?_);exact zF)|exact True.intro)
   intro i hi
   have hlt:i < l.length\/i=l.length:=by omega
   rcases hlt with hlt|rfl
   ·have hq : (l.map pA)[i]? = some (.agg [S l[i].1, S l[i].2]) := Zo hlt
    have hf:lg (l[i].1,l[i].2)=false:=by have:=h i hlt;simpa [List.getElem?_eq_getElem hlt] using this
    have hc:=isl29h G H l[i].1 l[i].2
    rw [hf] at hc
    repeat' ((conv=>whnf);first|(refine SeqP.go ?_)|((refine ObD.mk ?_ ?_);exact zD)|((refine ObN.mk ?_ ?_);(exact zq10))|(with_reducible first|refine ObT.tt ?_|refine ObT.ff ?_)|((refine ObB.yes ?_ ?_);exact zB)|((with_reducible refine ObI.nl ?_ ?_);omega)|((refine ObX.mk _ rfl ?_ ?_);exact zX)|((with_reducible refine (?_:ObU _ _));(refine ObU.mk _ zU ?_))|((with_reducible refine (?_:ObR _ _ _));(first|(refine ObR.mk _ zA ?_)|(refine ObR.map zX (fun x hx=>?_))|(refine ObR.mk _ rfl ?_)))|((refine ObH.f 33 ?_);(first|(with_reducible refine ObH.mk _ _ (hc) ?_)|(refine ObH.mk _ _ (hc) ?_))))
    conv=>whnf
    refine Again.mk (i+1) ?_ ?_ (Fg.go ?_ rfl)
    ·omega
    ·omega
    repeat' ((conv=>whnf);first|((refine ObEqs.mk ?_ ?_);rfl)|((with_reducible refine ObEq1.i ?_ ?_);exact zF)|exact True.intro)
   repeat' ((conv=>whnf);first|(refine SeqP.go ?_)|((refine ObN.mk ?_ ?_);exact zN)|(refine ObT.ff ?_)|((refine ObB.no ?_ ?_);exact zC)|(exact ObEnd.eq rfl rfl))
  have ha:l.any lg=false:=by
   rw [List.any_eq_false]
   intro p hp
   obtain ⟨k,hk,rfl⟩:=List.getElem_of_mem hp
   have:=h k hk
   simpa [List.getElem?_eq_getElem hk] using this
  rw [ha]
  refine ZR cop34 rfl ?_
  repeat' ((conv=>whnf);first|(refine SeqP.go ?_)|((refine ObN.mk ?_ ?_);exact zN)|((refine ObB.no ?_ ?_);exact zC)|((refine ObH.f 48 ?_);(first|(with_reducible refine ObH.mk _ _ (hx) ?_)|(refine ObH.mk _ _ (hx) ?_)))|(exact ObEnd.eq rfl rfl))
 ·have hx : HC Tryd.prog G 48 [.sl 2 (l.map pA), cL] H (I i0) H := by
   refine ZR cop48 rfl ?_
   repeat' ((conv=>whnf);first|(refine SeqP.go ?_)|((with_reducible refine (?_:ObL _ _));(refine ObL.mk _ zL ?_)))
   conv=>whnf
   refine LoopP.go (α:=Nat) (fun i=>i<=i0) (fun i=>l.length - i) (fun i=>[(4,none),(0,none),(2,some (I i)),(0,none),(0,none),(0,none),(0,none),(0,none),(0,none),(0,none),(0,none),(0,none),(0,none)]) (fun _=>H) 0 (Nat.zero_le _) (Fg.go ?_ rfl) ?_
   ·repeat' ((conv=>whnf);first|((refine ObEqs.mk ?_ ?_);rfl)|((with_reducible refine ObEq1.i ?_ ?_);exact zF)|exact True.intro)
   intro i hi
   have hlt:i < l.length:=by omega
   have hq:(l.map pA)[i]? = some (.agg [S l[i].1,S l[i].2]):=Zo hlt
   have hc:=isl29h G H l[i].1 l[i].2
   by_cases he:i=i0
   ·subst he
    have hf:lg (l[i].1,l[i].2)=true:=by simpa [List.getElem?_eq_getElem hlt] using h2
    rw [hf] at hc
    repeat' ((conv=>whnf);first|(refine SeqP.go ?_)|((refine ObD.mk ?_ ?_);exact zD)|((refine ObN.mk ?_ ?_);(exact zq10))|(refine ObT.tt ?_)|((refine ObB.yes ?_ ?_);exact zB)|((refine ObX.mk _ rfl ?_ ?_);exact zX)|((with_reducible refine (?_:ObU _ _));(refine ObU.mk _ zU ?_))|((with_reducible refine (?_:ObR _ _ _));(first|(refine ObR.mk _ zA ?_)|(refine ObR.map zX (fun x hx=>?_))|(refine ObR.mk _ rfl ?_)))|((refine ObH.f 33 ?_);(first|(with_reducible refine ObH.mk _ _ (hc) ?_)|(refine ObH.mk _ _ (hc) ?_)))|(exact ObEnd.eq rfl rfl))
   ·have hf : lg (l[i].1, l[i].2) = false := by have := h3 i (by omega); simpa [List.getElem?_eq_getElem hlt] using this
    rw [hf] at hc
    repeat' ((conv=>whnf);first|(refine SeqP.go ?_)|((refine ObD.mk ?_ ?_);exact zD)|((refine ObN.mk ?_ ?_);(exact zq10))|(with_reducible first|refine ObT.tt ?_|refine ObT.ff ?_)|((refine ObB.yes ?_ ?_);exact zB)|((with_reducible refine ObI.nl ?_ ?_);omega)|((refine ObX.mk _ rfl ?_ ?_);exact zX)|((with_reducible refine (?_:ObU _ _));(refine ObU.mk _ zU ?_))|((with_reducible refine (?_:ObR _ _ _));(first|(refine ObR.mk _ zA ?_)|(refine ObR.map zX (fun x hx=>?_))|(refine ObR.mk _ rfl ?_)))|((refine ObH.f 33 ?_);(first|(with_reducible refine ObH.mk _ _ (hc) ?_)|(refine ObH.mk _ _ (hc) ?_))))
    conv=>whnf
    refine Again.mk (i+1) ?_ ?_ (Fg.go ?_ rfl)
    ·omega
    ·omega
    repeat' ((conv=>whnf);first|((refine ObEqs.mk ?_ ?_);rfl)|((with_reducible refine ObEq1.i ?_ ?_);exact zF)|exact True.intro)
  have ha:l.any lg=true:=by
   rw [List.any_eq_true]
   exact ⟨l[i0],List.getElem_mem h1,by simpa [List.getElem?_eq_getElem h1] using h2⟩
  rw [ha]
  refine ZR cop34 rfl ?_
  repeat' ((conv=>whnf);first|(refine SeqP.go ?_)|((refine ObN.mk ?_ ?_);exact zN)|((refine ObB.yes ?_ ?_);exact zB)|((refine ObH.f 48 ?_);(first|(with_reducible refine ObH.mk _ _ (hx) ?_)|(refine ObH.mk _ _ (hx) ?_)))|(exact ObEnd.eq rfl rfl))
end Go.Proofs.YtfocijljkkfonaaDoor.Sim
namespace Go.Proofs.YtfocijljkkfonaaDoor.Mk
def upTo (m n:Nat):List Nat:=(List.range n).filter fun k=>m.testBit k
def all (m:Nat):List Nat:=upTo m 32
theorem upTo_succ (m n:Nat):upTo m (n+1)=upTo m n++if m.testBit n then [n] else []:=by
 unfold upTo
 rw [List.range_succ,List.filter_append]
 cases h:m.testBit n<;>simp [h]
theorem upTo_len (m n:Nat):(upTo m n).length<=n:=by
 unfold upTo
 have:=List.length_filter_le (fun k=>m.testBit k) (List.range n)
 simpa using this
theorem bit_div (m k:Nat):m.testBit k=decide (m / 2 ^ k % 2=1):=Nat.testBit_eq_decide_div_mod_eq
def wR (m:Nat) (i:Int):Nat:=(all m).countP fun k:Nat=>decide ((k:Int) < i)
def mk (l:List Int):Nat->Nat
 | 0=>0
 | n+1=>mk l n+if (n:Int) ∈ l then 2 ^ n else 0
theorem mk_lt (l:List Int) (n:Nat):mk l n < 2 ^ n:=by
 induction n with
 | zero=>simp [mk]
 | succ n ih=>unfold mk;rw [Nat.pow_succ];split<;>omega
def next (m:Nat) (i:Int):Option Nat:=(all m).find? fun k:Nat=>decide (i < (k:Int))
def pc (b:Nat):Nat:=((List.range 8).filter fun k=>b.testBit k).length
theorem pc_at (m s:Nat):((List.range 8).filter fun k=>m.testBit (s+k)).length=pc (m / 2 ^ s % 256):=by
 unfold pc
 congr 1
 refine List.filter_congr fun k hk=>?_
 have hk:k < 8:=by simpa using hk
 rw [show (256:Nat)=2 ^ 8 from rfl,Nat.testBit_mod_two_pow,Nat.testBit_div_two_pow]
 simp [hk,Nat.add_comm]
theorem range32:List.range 32=List.range 8++((List.range 8).map (8 + ·)++((List.range 8).map (16 + ·)++(List.range 8).map (24 + ·))):=by decide
theorem pop_all (m:Nat):(all m).length=pc (m / 16777216 % 256)+pc (m / 65536 % 256)+pc (m / 256 % 256)+pc (m % 256):=by
 have h0:=pc_at m 0
 have h1:=pc_at m 8
 have h2:=pc_at m 16
 have h3:=pc_at m 24
 unfold all upTo
 rw [range32]
 simp only [List.filter_append,List.length_append,List.filter_map,List.length_map]
 have g0:((List.range 8).filter fun k=>m.testBit k).length=pc (m % 256):=by simpa using h0
 have g1:((List.range 8).filter ((fun k=>m.testBit k) ∘ fun x=>8+x)).length=pc (m / 256 % 256):=h1
 have g2:((List.range 8).filter ((fun k=>m.testBit k) ∘ fun x=>16+x)).length=pc (m / 65536 % 256):=h2
 have g3:((List.range 8).filter ((fun k=>m.testBit k) ∘ fun x=>24+x)).length=pc (m / 16777216 % 256):=h3
 rw [g0,g1,g2,g3]
 omega
theorem pc_le (b:Nat):pc b<=8:=upTo_len b 8
end Go.Proofs.YtfocijljkkfonaaDoor.Mk
namespace Go.Proofs.YtfocijljkkfonaaDoor.Sim
open Go.RowKit
set_option maxRecDepth 100000
theorem tk_any {l:List Pr} {i:Nat} (h:i < l.length):(l.take (i+1)).any lg=((l.take i).any lg || lg l[i]):=by
 rw [List.take_succ_eq_append_getElem h,List.any_append];simp
theorem long32 (G:Nat->AV) (kn:Int) (ke va:ByteArray) (mp:Int) (kk:List Int) (mn:Int) (ls:List Pr) (sz bi:Int) (hl:ls.length<=9223372036854775807):PC Tryd.prog G 57 [nV kn ke va mp kk mn ls sz bi] (Bo (lg (ke,va) || ls.any lg)):=by
 refine zf cop57 ?_
 repeat' ((conv=>whnf);first|(refine SeqP.go ?_)|((refine ObD.mk ?_ ?_);exact zD)|((refine ObN.mk ?_ ?_);exact zN)|(with_reducible first|refine ObT.tt ?_|refine ObT.ff ?_|refine ObB.mk (fun h=>?_) (fun h=>?_))|((with_reducible refine (?_:ObL _ _));(refine ObL.mk _ zL ?_))|((with_reducible refine (?_:ObR _ _ _));(first|(refine ObR.mk _ zA ?_)|(refine ObR.map zX (fun x hx=>?_))|(refine ObR.mk _ rfl ?_))))
 all_goals
  conv=>whnf
  refine LoopP.go (α:=Nat × Bool) (fun p=>p.1<=ls.length/\p.2=(lg (ke,va) || (ls.take p.1).any lg)) (fun p=>ls.length - p.1) (fun p=>[(3,some (Bo p.2)),(0,some (I p.1)),(10,none),(0,none),(0,none),(0,none),(0,none),(0,none),(0,none),(0,none),(0,none),(0,none),(0,none),(0,none),(0,none),(0,none),(0,none),(0,none),(0,none),(0,none),(0,none),(0,none),(0,none),(0,none),(0,none),(0,none),(0,none),(0,none),(0,none),(0,none)]) (fun _=>[⟨40,9,[nV kn ke va mp kk mn ls sz bi],0,0⟩]) (0,lg (ke,va)) ⟨Nat.zero_le _,by simp⟩ (Fg.go ?_ rfl) ?_
  ·repeat' ((conv=>whnf);first|((refine ObEqs.mk ?_ ?_);rfl)|((with_reducible refine ObEq1.i ?_ ?_);exact zF)|((with_reducible refine ObEq1.mk ?_ ?_);(exact zq16))|exact True.intro)
  rintro ⟨i,b⟩ ⟨h1,h2⟩
  dsimp only at h1 h2 ⊢
  have hlt:i < ls.length\/i=ls.length:=by omega
  rcases hlt with hlt|rfl
  ·have hq : (ls.map pA)[i]? = some (.agg [S ls[i].1, S ls[i].2]) := Zo hlt
   cases b with
   | true =>
    repeat' ((conv=>whnf);first|(refine SeqP.go ?_)|((refine ObN.mk ?_ ?_);exact zN)|(refine ObT.tt ?_)|((refine ObB.yes ?_ ?_);exact zB)|((with_reducible refine ObI.nl ?_ ?_);omega)|((with_reducible refine (?_:ObL _ _));(refine ObL.mk _ zL ?_))|((with_reducible refine (?_:ObR _ _ _));(first|(refine ObR.mk _ zA ?_)|(refine ObR.map zX (fun x hx=>?_))|(refine ObR.mk _ rfl ?_))))
    conv=>whnf
    refine Again.mk (i+1,true) ?_ ?_ (Fg.go ?_ rfl)
    ·exact ⟨hlt,by rw [tk_any hlt,<- Bool.or_assoc,<- h2];simp⟩
    ·dsimp only;omega
    repeat' ((conv=>whnf);first|((refine ObEqs.mk ?_ ?_);rfl)|((with_reducible refine ObEq1.i ?_ ?_);exact zF)|((with_reducible refine ObEq1.mk ?_ ?_);exact zE)|exact True.intro)
   | false =>
    repeat' ((conv=>whnf);first|(refine SeqP.go ?_)|((refine ObN.mk ?_ ?_);exact zN)|(with_reducible first|refine ObT.tt ?_|refine ObT.ff ?_)|((refine ObB.yes ?_ ?_);exact zB)|(with_reducible refine ObB.mk (fun h=>?_) (fun h=>?_))|((with_reducible refine ObI.nl ?_ ?_);omega)|((refine ObX.mk _ rfl ?_ ?_);exact zX)|((with_reducible refine (?_:ObL _ _));(refine ObL.mk _ zL ?_))|((with_reducible refine (?_:ObR _ _ _));(first|(refine ObR.mk _ zA ?_)|(refine ObR.map zX (fun x hx=>?_))|(refine ObR.mk _ rfl ?_))))
    all_goals
     conv=>whnf
     refine Again.mk (i+1,lg ls[i]) ?_ ?_ (Fg.go ?_ rfl)
     ·exact ⟨hlt,by dsimp only;rw [tk_any hlt,<- Bool.or_assoc,<- h2];simp⟩
     ·dsimp only;omega
     repeat' ((conv=>whnf);first|((refine ObEqs.mk ?_ ?_);rfl)|((with_reducible refine ObEq1.i ?_ ?_);exact zF)|((with_reducible refine ObEq1.mk ?_ ?_);(exact zq16))|exact True.intro)
  ·rw [List.take_length] at h2
   subst h2
   repeat' ((conv=>whnf);first|(refine SeqP.go ?_)|((refine ObN.mk ?_ ?_);exact zN)|(refine ObT.ff ?_)|((refine ObB.no ?_ ?_);exact zC)|((with_reducible refine (?_:ObL _ _));(refine ObL.mk _ zL ?_))|((with_reducible refine (?_:ObR _ _ _));(first|(refine ObR.mk _ zA ?_)|(refine ObR.map zX (fun x hx=>?_))|(refine ObR.mk _ rfl ?_)))|((refine ObEq.mk ?_);exact zE))
theorem has54 (G:Nat->AV) (l:List Int) (hl:l.length<=9223372036854775807) (v:Int):PC Tryd.prog G 52 [.sl 1 (l.map iA),I v] (Bo (decide (v ∈ l))):=by
 rcases wq (n:=l.length) (fun k=>decide (l[k]? = some v)) with h|⟨i0,h1,h2,h3⟩
 ·have hx : PC Tryd.prog G 60 [.sl 1 (l.map iA), I v] (I (-1)) := by
   refine zf cop60 ?_
   repeat' ((conv=>whnf);first|(refine SeqP.go ?_)|((with_reducible refine (?_:ObL _ _));(refine ObL.mk _ zL ?_)))
   conv=>whnf
   refine LoopP.go (α:=Nat) (fun i=>i<=l.length) (fun i=>l.length - i) (fun i=>[(4,none),(0,none),(2,some (I i)),(0,none),(0,none),(0,none),(0,none),(0,none),(0,none),(0,none),(0,none),(0,none),(0,none)]) (fun _=>[]) 0 (Nat.zero_le _) (Fg.go ?_ rfl) ?_
   ·repeat' ((conv=>whnf);first|((refine ObEqs.mk ?_ ?_);rfl)|((with_reducible refine ObEq1.i ?_ ?_);exact zF)|exact True.intro)
   intro i hi
   have hlt:i < l.length\/i=l.length:=by omega
   rcases hlt with hlt|rfl
   ·have hq : (l.map iA)[i]? = some (I l[i]) := yd hlt
    have hf:¬ v=l[i]:=fun e=>by have:=h i hlt;simp [List.getElem?_eq_getElem hlt,e] at this
    repeat' ((conv=>whnf);first|(refine SeqP.go ?_)|((refine ObN.mk ?_ ?_);exact zN)|(with_reducible first|refine ObT.tt ?_|refine ObT.ff ?_)|((refine ObB.yes ?_ ?_);exact zB)|((refine ObB.no ?_ ?_);exact zC)|((with_reducible refine ObI.nl ?_ ?_);omega)|((refine ObX.mk _ rfl ?_ ?_);exact zX)|((with_reducible refine (?_:ObR _ _ _));(first|(refine ObR.mk _ zA ?_)|(refine ObR.map zX (fun x hx=>?_))|(refine ObR.mk _ rfl ?_))))
    conv=>whnf
    refine Again.mk (i+1) ?_ ?_ (Fg.go ?_ rfl)
    ·omega
    ·omega
    repeat' ((conv=>whnf);first|((refine ObEqs.mk ?_ ?_);rfl)|((with_reducible refine ObEq1.i ?_ ?_);exact zF)|exact True.intro)
   repeat' ((conv=>whnf);first|(refine SeqP.go ?_)|((refine ObN.mk ?_ ?_);exact zN)|(refine ObT.ff ?_)|((refine ObB.no ?_ ?_);exact zC)|((with_reducible refine ObEq.i ?_);exact zF))
  have ha:¬ v ∈ l:=fun hm=>by
   obtain ⟨k,hk,e⟩:=List.getElem_of_mem hm
   have:=h k hk
   simp [List.getElem?_eq_getElem hk,e] at this
  rw [decide_eq_false ha]
  refine zf cop52 ?_
  repeat' ((conv=>whnf);first|(refine SeqP.go ?_)|((refine ObN.mk ?_ ?_);exact zN)|((refine ObB.no ?_ ?_);exact zC)|((refine ObC.f 60 ?_);(refine ObC.mk _ (hx) ?_))|((refine ObEq.mk ?_);exact zE))
 ·have hx : PC Tryd.prog G 60 [.sl 1 (l.map iA), I v] (I i0) := by
   refine zf cop60 ?_
   repeat' ((conv=>whnf);first|(refine SeqP.go ?_)|((with_reducible refine (?_:ObL _ _));(refine ObL.mk _ zL ?_)))
   conv=>whnf
   refine LoopP.go (α:=Nat) (fun i=>i<=i0) (fun i=>l.length - i) (fun i=>[(4,none),(0,none),(2,some (I i)),(0,none),(0,none),(0,none),(0,none),(0,none),(0,none),(0,none),(0,none),(0,none),(0,none)]) (fun _=>[]) 0 (Nat.zero_le _) (Fg.go ?_ rfl) ?_
   ·repeat' ((conv=>whnf);first|((refine ObEqs.mk ?_ ?_);rfl)|((with_reducible refine ObEq1.i ?_ ?_);exact zF)|exact True.intro)
   intro i hi
   have hlt:i < l.length:=by omega
   have hq:(l.map iA)[i]? = some (I l[i]):=yd hlt
   by_cases he:i=i0
   ·subst he
    have hf:v=l[i]:=by have:=of_decide_eq_true h2;rw [List.getElem?_eq_getElem hlt] at this;exact (Option.some.inj this).symm
    repeat' ((conv=>whnf);first|(refine SeqP.go ?_)|((refine ObN.mk ?_ ?_);exact zN)|(refine ObT.tt ?_)|((refine ObB.yes ?_ ?_);exact zB)|((refine ObX.mk _ rfl ?_ ?_);exact zX)|((with_reducible refine (?_:ObR _ _ _));(first|(refine ObR.mk _ zA ?_)|(refine ObR.map zX (fun x hx=>?_))|(refine ObR.mk _ rfl ?_)))|((with_reducible refine ObEq.i ?_);exact zF))
   ·have hf:¬ v=l[i]:=fun e=>by have:=h3 i (by omega);simp [List.getElem?_eq_getElem hlt,e] at this
    repeat' ((conv=>whnf);first|(refine SeqP.go ?_)|((refine ObN.mk ?_ ?_);exact zN)|(with_reducible first|refine ObT.tt ?_|refine ObT.ff ?_)|((refine ObB.yes ?_ ?_);exact zB)|((refine ObB.no ?_ ?_);exact zC)|((with_reducible refine ObI.nl ?_ ?_);omega)|((refine ObX.mk _ rfl ?_ ?_);exact zX)|((with_reducible refine (?_:ObR _ _ _));(first|(refine ObR.mk _ zA ?_)|(refine ObR.map zX (fun x hx=>?_))|(refine ObR.mk _ rfl ?_))))
    conv=>whnf
    refine Again.mk (i+1) ?_ ?_ (Fg.go ?_ rfl)
    ·omega
    ·omega
    repeat' ((conv=>whnf);first|((refine ObEqs.mk ?_ ?_);rfl)|((with_reducible refine ObEq1.i ?_ ?_);exact zF)|exact True.intro)
  have ha:v ∈ l:=by
   have:=of_decide_eq_true h2
   exact List.mem_of_getElem? this
  rw [decide_eq_true ha]
  refine zf cop52 ?_
  repeat' ((conv=>whnf);first|(refine SeqP.go ?_)|((refine ObN.mk ?_ ?_);exact zN)|((refine ObB.yes ?_ ?_);exact zB)|((refine ObC.f 60 ?_);(refine ObC.mk _ (hx) ?_))|((refine ObEq.mk ?_);exact zE))
abbrev tb8:ByteArray:=ByteArray.mk #[0,1,1,2,1,2,2,3,1,2,2,3,2,3,3,4,1,2,2,3,2,3,3,4,2,3,3,4,3,4,4,5,1,2,2,3,2,3,3,4,2,3,3,4,3,4,4,5,2,3,3,4,3,4,4,5,3,4,4,5,4,5,5,6,1,2,2,3,2,3,3,4,2,3,3,4,3,4,4,5,2,3,3,4,3,4,4,5,3,4,4,5,4,5,5,6,2,3,3,4,3,4,4,5,3,4,4,5,4,5,5,6,3,4,4,5,4,5,5,6,4,5,5,6,5,6,6,7,1,2,2,3,2,3,3,4,2,3,3,4,3,4,4,5,2,3,3,4,3,4,4,5,3,4,4,5,4,5,5,6,2,3,3,4,3,4,4,5,3,4,4,5,4,5,5,6,3,4,4,5,4,5,5,6,4,5,5,6,5,6,6,7,2,3,3,4,3,4,4,5,3,4,4,5,4,5,5,6,3,4,4,5,4,5,5,6,4,5,5,6,5,6,6,7,3,4,4,5,4,5,5,6,4,5,5,6,5,6,6,7,4,5,5,6,5,6,6,7,5,6,6,7,6,7,7,8]
theorem tb8_pc:∀ k:Fin 256,(tb8[k.1]'(show k.1 < 256 from k.2)).toNat=Mk.pc k.1:=by decide +kernel
theorem tb8_at (k:Nat) (h:k < tb8.size):((tb8[k]'h).toNat:Int)=(Mk.pc k:Nat):=by
 have:=tb8_pc ⟨k,h⟩
 simp only at this
 rw [this]
theorem obq8 {k:Int->Prop} {m:Nat} (h:m < 256) (hk:k ((Mk.pc m:Nat):Int)):ObQ tb8 (m:Int) k:=⟨m,rfl,h,by rw [tb8_at];exact hk⟩
section
variable {P:Program} {H:Hp} {k:KK} {t:TypeId} {xo yo:Operand} {n:Nat}
theorem eS24 (hk:k (.v (.int .u32 ((n / 16777216:Nat):Int))) H):ObE ((zY P H .shr t false xo yo (.v (.int .u32 (n:Int))) (.v (.int .u64 24))).map (·,H)) k:=by
 have e:ZX P .shr t xo yo (.int .u32 (n:Int)) (.int .u64 24)=some (.int .u32 ((n / 16777216:Nat):Int)):=by
  show some (Value.int .u32 ((n:Int).fdiv (2 ^ 24)))=_
  rw [Int.fdiv_eq_ediv_of_nonneg _ (by decide)];rfl
 exact ⟨_,_,by simp only [zY,zW,e,Bool.false_eq_true,if_false];rfl,hk⟩
theorem eS16 (hk:k (.v (.int .u32 ((n / 65536:Nat):Int))) H):ObE ((zY P H .shr t false xo yo (.v (.int .u32 (n:Int))) (.v (.int .u64 16))).map (·,H)) k:=by
 have e:ZX P .shr t xo yo (.int .u32 (n:Int)) (.int .u64 16)=some (.int .u32 ((n / 65536:Nat):Int)):=by
  show some (Value.int .u32 ((n:Int).fdiv (2 ^ 16)))=_
  rw [Int.fdiv_eq_ediv_of_nonneg _ (by decide)];rfl
 exact ⟨_,_,by simp only [zY,zW,e,Bool.false_eq_true,if_false];rfl,hk⟩
theorem eS8 (hk:k (.v (.int .u32 ((n / 256:Nat):Int))) H):ObE ((zY P H .shr t false xo yo (.v (.int .u32 (n:Int))) (.v (.int .u64 8))).map (·,H)) k:=by
 have e:ZX P .shr t xo yo (.int .u32 (n:Int)) (.int .u64 8)=some (.int .u32 ((n / 256:Nat):Int)):=by
  show some (Value.int .u32 ((n:Int).fdiv (2 ^ 8)))=_
  rw [Int.fdiv_eq_ediv_of_nonneg _ (by decide)];rfl
 exact ⟨_,_,by simp only [zY,zW,e,Bool.false_eq_true,if_false];rfl,hk⟩
theorem eAnd (hn:n < 4294967296) (hk:k (.v (.int .u32 ((n % 256:Nat):Int))) H):ObE ((zY P H .and t false xo yo (.v (.int .u32 (n:Int))) (.v (.int .u32 255))).map (·,H)) k:=by
 have e:ZX P .and t xo yo (.int .u32 (n:Int)) (.int .u32 255)=some (.int .u32 ((n % 256:Nat):Int)):=by
  show some (Value.int .u32 (bits .and .u32 (n:Int) 255))=_
  rw [show (255:Int)=((255:Nat):Int) from rfl,u32_and_nat _ _ (by omega) (by omega),show (255:Nat)=2 ^ 8 - 1 from rfl,Nat.and_two_pow_sub_one_eq_mod]
 exact ⟨_,_,by simp only [zY,zW,e,Bool.false_eq_true,if_false];rfl,hk⟩
theorem eRem2 (hk:k (.v (.int .u32 ((n % 2:Nat):Int))) H):ObE ((zY P H .rem t false xo yo (.v (.int .u32 (n:Int))) (.v (.int .u32 2))).map (·,H)) k:=by
 have e:ZX P .rem t xo yo (.int .u32 (n:Int)) (.int .u32 2)=some (.int .u32 ((n % 2:Nat):Int)):=by
  show zh P (do eqGuard .rem t xo yo (.int .u32 (n:Int)) (.int .u32 2);Op.intDiv .rem .u32 (n:Int) 2)=_
  unfold Op.intDiv
  rw [if_neg (by decide)]
  show some (Value.int .u32 ((n:Int).tmod 2))=_
  rw [Int.tmod_eq_emod_of_nonneg (by omega)];rfl
 exact ⟨_,_,by simp only [zY,zW,e,Bool.false_eq_true,if_false];rfl,hk⟩
theorem eQuo2 (hn:n < 4294967296) (hk:k (.v (.int .u32 ((n / 2:Nat):Int))) H):ObE ((zY P H .quo t false xo yo (.v (.int .u32 (n:Int))) (.v (.int .u32 2))).map (·,H)) k:=by
 have e:ZX P .quo t xo yo (.int .u32 (n:Int)) (.int .u32 2)=some (.int .u32 ((n / 2:Nat):Int)):=by
  show zh P (do eqGuard .quo t xo yo (.int .u32 (n:Int)) (.int .u32 2);Op.intDiv .quo .u32 (n:Int) 2)=_
  unfold Op.intDiv
  rw [if_neg (by decide)]
  show some (Value.int .u32 (IntKind.u32.wrap ((n:Int).tdiv 2)))=_
  rw [Int.tdiv_eq_ediv_of_nonneg (by omega)]
  have:IntKind.u32.wrap ((n:Int) / 2)=((n / 2:Nat):Int):=by rw [IntKind.wrap_u32];omega
  rw [this]
 exact ⟨_,_,by simp only [zY,zW,e,Bool.false_eq_true,if_false];rfl,hk⟩
end
theorem pop53 (G:Nat->AV) (m:Nat) (hm:m < 4294967296):PC Tryd.prog G 59 [.v (.int .u32 (m:Int))] (I ((Mk.all m).length:Nat)):=by
 have hp:=Mk.pop_all m
 have l0:=Mk.pc_le (m / 16777216 % 256)
 have l1:=Mk.pc_le (m / 65536 % 256)
 have l2:=Mk.pc_le (m / 256 % 256)
 have l3:=Mk.pc_le (m % 256)
 have hd:m / 16777216=m / 16777216 % 256:=by omega
 rw [<- hd] at hp l0
 have hs:tb8.size=256:=rfl
 have u5:(Tryd.prog).underlying 5=some (.int .u8):=by kernel_rfl
 have u3:(Tryd.prog).underlying 3=some (.int .i64):=by kernel_rfl
 refine zf cop59 ?_
 repeat' ((conv=>whnf);first|(with_reducible first|refine SeqP.go ?_|refine eS24 ?_|refine eS16 ?_|refine eS8 ?_)|((with_reducible refine eAnd ?_ ?_);omega)|((with_reducible refine (?_:ObE _ _));(refine ObE.cv u5 u3 ?_))|((with_reducible refine (?_:ObQ _ _ _));(refine obq8 ?_ ?_);omega)|((refine ObD.mk ?_ ?_);exact zD)|((refine ObN.mk ?_ ?_);(focus (first|exact X2|rfl|assumption|omega|(simp only [List.length_map,List.length_append,List.length_cons,List.length_nil];omega)|(simp;done)|(simp;omega))))|(with_reducible refine ObZ.mk _ rfl ?_)|((refine ObEq.mk ?_);(focus (first|rfl|assumption|exact (by rw [hp];congr 2;simp only [IntKind.wrap_u8,IntKind.wrap_i64];omega)))))
def sh (m k:Nat):Nat:=m / 2 ^ k
theorem sh_zero (m:Nat):m=sh m 0:=by simp [sh]
theorem sh_succ (m k:Nat):sh m k / 2=sh m (k+1):=by unfold sh;rw [Nat.div_div_eq_div_mul,Nat.pow_succ]
theorem sh_le (m k:Nat):sh m k<=m:=Nat.div_le_self _ _
theorem sh_bit (m k:Nat):m.testBit k=decide (sh m k % 2=1):=Mk.bit_div m k
theorem has55 (G:Nat->AV) (m i:Nat) (hm:m < 4294967296) (hi:i < 32):PC Tryd.prog G 79 [.v (.int .u32 (m:Int)),I i] (Bo (m.testBit i)):=by
 refine zf cop79 ?_
 repeat' ((conv=>whnf);first|(refine SeqP.go ?_))
 conv=>whnf
 refine LoopP.go (α:=Nat) (fun k=>k<=32/\(i < k->m.testBit i=false)) (fun k=>32 - k) (fun k=>[(0,some (.v (.int .u32 ((sh m k:Nat):Int)))),(3,none),(0,some (I k)),(0,none),(0,none),(0,none),(0,none),(0,none),(0,none),(0,none),(0,none),(0,none),(0,none),(0,none),(0,none),(0,none),(0,none)]) (fun _=>[]) 0 ⟨by omega,fun h=>by omega⟩ (Fg.go ?_ rfl) ?_
 ·have := sh_zero m
  repeat' ((conv=>whnf);first|((refine ObEqs.mk ?_ ?_);rfl)|((with_reducible refine ObEq1.i ?_ ?_);exact zF)|exact True.intro)
 rintro k ⟨h1,h2⟩
 have hs:=sh_succ m k
 have hle:=sh_le m k
 have hb:=sh_bit m i
 by_cases hk:k < 32
 ·by_cases hi2 : k = i
  ·subst hi2
   by_cases hbit:sh m k % 2=1
   ·have hr : m.testBit k = true := by rw [hb]; simp [hbit]
    rw [hr]
    repeat' ((conv=>whnf);first|(with_reducible first|refine SeqP.go ?_|refine eRem2 ?_)|((refine ObN.mk ?_ ?_);exact zN)|(refine ObT.tt ?_)|((refine ObB.yes ?_ ?_);exact zB)|((refine ObEq.mk ?_);exact zE))
   ·have hr : m.testBit k = false := by rw [hb]; simp [hbit]
    rw [hr]
    repeat' ((conv=>whnf);first|(with_reducible first|refine SeqP.go ?_|refine eRem2 ?_)|((with_reducible refine eQuo2 ?_ ?_);omega)|((refine ObN.mk ?_ ?_);exact zN)|(with_reducible first|refine ObT.tt ?_|refine ObT.ff ?_)|((refine ObB.yes ?_ ?_);exact zB)|((refine ObB.no ?_ ?_);exact zC)|((with_reducible refine ObI.nl ?_ ?_);omega))
    conv=>whnf
    refine Again.mk (k+1) ?_ ?_ (Fg.go ?_ rfl)
    ·exact ⟨by omega,fun _=>by first|rfl|exact hr⟩
    ·omega
    repeat' ((conv=>whnf);first|((refine ObEqs.mk ?_ ?_);rfl)|((with_reducible refine ObEq1.i ?_ ?_);exact zF)|exact True.intro)
  ·repeat' ((conv=>whnf);first|(with_reducible first|refine SeqP.go ?_|refine eRem2 ?_)|((with_reducible refine eQuo2 ?_ ?_);omega)|((refine ObN.mk ?_ ?_);exact zN)|(with_reducible first|refine ObT.tt ?_|refine ObT.ff ?_)|((refine ObB.yes ?_ ?_);exact zB)|((refine ObB.no ?_ ?_);exact zC)|(with_reducible refine ObB.mk (fun h=>?_) (fun h=>?_))|((with_reducible refine ObI.nl ?_ ?_);omega))
   all_goals
    conv=>whnf
    refine Again.mk (k+1) ?_ ?_ (Fg.go ?_ rfl)
    ·exact ⟨by omega,fun _=>h2 (by omega)⟩
    ·omega
    repeat' ((conv=>whnf);first|((refine ObEqs.mk ?_ ?_);rfl)|((with_reducible refine ObEq1.i ?_ ?_);exact zF)|exact True.intro)
 ·have hr := h2 (by omega)
  rw [hr]
  repeat' ((conv=>whnf);first|(refine SeqP.go ?_)|((refine ObN.mk ?_ ?_);exact zN)|(refine ObT.ff ?_)|((refine ObB.no ?_ ?_);exact zC)|((refine ObEq.mk ?_);exact zE))
theorem snoc_iA {l:List Int} {x:Int}:(l.map iA).take l.length++[.v (.int .i64 x)]=(l++[x]).map iA:=by
 rw [List.take_of_length_le (by simp)];simp [iA]
theorem nr_iA (l:List Int):(l.map iA).all nrB=true:=by simp [iA,nrB,AV.cells]
def upI (m i:Nat):List Int:=(Mk.upTo m i).map Int.ofNat
theorem Wo (m i:Nat):(upI m i).length<=i:=by simp [upI,Mk.upTo_len]
theorem all46 (G:Nat->AV) (m:Nat) (hm:m < 4294967296):PC Tryd.prog G 68 [.v (.int .u32 (m:Int))] (.sl 1 ((upI m 32).map iA)):=by
 refine zf cop68 ?_
 repeat' ((conv=>whnf);first|(refine SeqP.go ?_)|((refine ObD.mk ?_ ?_);exact zD))
 conv=>whnf
 refine LoopP.go (α:=Nat × List Int) (fun p=>p.1<=32/\p.2=upI m p.1) (fun p=>32 - p.1) (fun p=>[(3,some (.ol 0 0 p.2.length)),(0,some (I p.1)),(0,none),(0,none),(0,none),(0,none),(0,none),(0,none),(0,none),(0,none),(0,none),(0,none),(0,none),(0,none)]) (fun p=>[⟨3,1,p.2.map iA,0,0⟩]) (0,[]) ⟨by decide,rfl⟩ (Fg.go ?_ rfl) ?_
 ·repeat' ((conv=>whnf);first|((refine ObEqs.mk ?_ ?_);rfl)|((with_reducible refine ObEq1.i ?_ ?_);exact zF)|((with_reducible refine ObEq1.mk ?_ ?_);exact zE)|exact True.intro)
 rintro ⟨i,l⟩ ⟨h1,h2⟩
 dsimp only at h1 h2 ⊢
 have hl:=Wo m i
 rw [<- h2] at hl
 by_cases hi:i < 32
 ·have hc := has55 G m i hm hi
  have hs:upI m (i+1)=if m.testBit i then l++[(i:Int)] else l:=by
   rw [h2];unfold upI;rw [Mk.upTo_succ];split<;>simp
  cases hb:m.testBit i with
  | false =>
   rw [hb] at hc hs
   repeat' ((conv=>whnf);first|(refine SeqP.go ?_)|((refine ObN.mk ?_ ?_);exact zN)|(with_reducible first|refine ObT.tt ?_|refine ObT.ff ?_)|((refine ObB.yes ?_ ?_);exact zB)|((with_reducible refine ObI.nl ?_ ?_);omega)|((refine ObC.f 79 ?_);(refine ObC.mk _ (hc) ?_)))
   conv=>whnf
   refine Again.mk (i+1,l) ?_ ?_ (Fg.go ?_ rfl)
   ·exact ⟨by dsimp only;omega,by simpa using hs.symm⟩
   ·dsimp only;omega
   repeat' ((conv=>whnf);first|((refine ObEqs.mk ?_ ?_);rfl)|((with_reducible refine ObEq1.i ?_ ?_);exact zF)|((with_reducible refine ObEq1.o ?_ ?_);exact zF)|exact True.intro)
  | true =>
   rw [hb] at hc hs
   have hn:=nr_iA (l++[(i:Int)])
   repeat' ((conv=>whnf);first|(refine SeqP.go ?_)|((refine ObD.mk ?_ ?_);exact zD)|((refine ObN.mk ?_ ?_);exact zN)|(refine ObT.tt ?_)|((refine ObB.yes ?_ ?_);exact zB)|((with_reducible refine ObI.nl ?_ ?_);omega)|((with_reducible refine (?_:ObL _ _));(refine ObL.mk _ zL ?_))|((with_reducible refine (?_:ObU _ _));(refine ObU.mk _ (by first|exact snoc_iA|assumption|((conv=>lhs;simp only [List.set_cons_zero,List.set_cons_succ,List.take_succ_cons,List.take_zero,List.drop_succ_cons,List.drop_zero,List.nil_append,List.cons_append,List.append_nil,List.take_nil,List.drop_nil]);try rfl)|rfl) ?_))|((refine ObC.f 79 ?_);(refine ObC.mk _ (hc) ?_)))
   conv=>whnf
   refine Again.mk (i+1,l++[(i:Int)]) ?_ ?_ (Fg.vw [(0,0,1)] ?_ ?_ (by decide) ?_)
   ·exact ⟨by dsimp only;omega,by simpa using hs.symm⟩
   ·dsimp only;omega
   ·repeat' ((conv=>whnf);first|((with_reducible refine ObRn.mk ?_ ?_);(focus (first|rfl|(simp [rnB,rnC,rnL];done))))|((refine ObEqs.mk ?_ ?_);rfl)|exact True.intro)
   ·repeat' ((conv=>whnf);first|((refine ObN.mk ?_ ?_);exact zN)|((with_reducible refine ObRow.same ?_ ?_ ?_);exact zE;(focus (first|rfl|assumption|(simp;done))))|exact True.intro)
   ·trivial
 ·obtain rfl : i = 32 := by omega
  rw [<- h2]
  repeat' ((conv=>whnf);first|(refine SeqP.go ?_)|((refine ObN.mk ?_ ?_);(focus (first|exact (by first|exact all_iA _|(rw [XM];exact all_iA _))|rfl|assumption|omega|(simp only [List.length_map,List.length_append,List.length_cons,List.length_nil];omega)|(simp;done)|(simp;omega))))|(refine ObT.ff ?_)|((refine ObB.no ?_ ?_);exact zC)|((with_reducible refine (?_:ObU _ _));(refine ObU.mk _ (by first|exact XM|assumption|((conv=>lhs;simp only [List.set_cons_zero,List.set_cons_succ,List.take_succ_cons,List.take_zero,List.drop_succ_cons,List.drop_zero,List.nil_append,List.cons_append,List.append_nil,List.take_nil,List.drop_nil]);try rfl)|rfl) ?_))|((refine ObEq.mk ?_);exact zE))
end Go.Proofs.YtfocijljkkfonaaDoor.Sim
namespace Go.Proofs.YtfocijljkkfonaaDoor.Sim.Pr7
open Go.RowKit
abbrev Pr:=ByteArray × ByteArray
def cB (a b:ByteArray):Int:=Ord.cmp a.data.toList b.data.toList
theorem ba_ext {a b:ByteArray} (h:a.data.toList=b.data.toList):a=b:=by
 cases a;cases b
 simp only [ByteArray.mk.injEq]
 exact Array.ext' h
theorem Z1 (a:ByteArray):cB a a=0:=Ord.cmp_self _
theorem cB_zero {a b:ByteArray}:cB a b=0↔a=b:=⟨fun e=>ba_ext ((Ord.cmp_zero _ _).1 e),fun e=>by subst e;exact Z1 a⟩
theorem cB_ne {a b:ByteArray} (h:¬ a=b):¬ cB a b=0:=fun e=>h (cB_zero.1 e)
theorem yA (a b:ByteArray):cB b a = - cB a b:=Ord.cmp_anti _ _
theorem wZ {a b c:ByteArray} (h1:cB a b<=0) (h2:cB b c<=0):cB a c<=0:=(Ord.cmp_trans _ _ _ h1 h2).1
theorem cB_lt1 {a b c:ByteArray} (h1:cB a b < 0) (h2:cB b c<=0):cB a c < 0:=(Ord.cmp_trans _ _ _ (by unfold cB at h1;omega) h2).2 (.inl h1)
theorem cB_lt2 {a b c:ByteArray} (h1:cB a b<=0) (h2:cB b c < 0):cB a c < 0:=(Ord.cmp_trans _ _ _ h1 (by unfold cB at h2;omega)).2 (.inr h2)
theorem cB_eq {a b:ByteArray} (h1:cB a b<=0) (h2:cB b a<=0):a=b:=cB_zero.1 (by rw [yA a b] at h2;omega)
theorem cB_cases (a b:ByteArray):cB a b = -1\/cB a b=0\/cB a b=1:=Ord.cmp_cases _ _
def SLe (l:List Pr):Prop:=l.Pairwise fun p q=>cB p.1 q.1<=0
def SLt (l:List Pr):Prop:=l.Pairwise fun p q=>cB p.1 q.1 < 0
theorem SLt.le {l:List Pr} (h:SLt l):SLe l:=List.Pairwise.imp (fun h=>by omega) h
def fk (k:ByteArray) (l:List Pr):List Pr:=l.filter fun p=>decide (p.1=k)
theorem fk_nil {k:ByteArray}:fk k []=[]:=rfl
theorem ZE {k:ByteArray} {p:Pr} {l:List Pr}:fk k (p::l)=if p.1=k then p::fk k l else fk k l:=by
 unfold fk;rw [List.filter_cons];simp
theorem ZT {k:ByteArray} {l m:List Pr}:fk k (l++m)=fk k l++fk k m:=List.filter_append ..
theorem mem_fk {k:ByteArray} {p:Pr} {l:List Pr}:p ∈ fk k l↔p ∈ l/\p.1=k:=by unfold fk;rw [List.mem_filter];simp
theorem fk_none {k:ByteArray} {l:List Pr}:fk k l=[]↔∀ p ∈ l,p.1 ≠ k:=by
 unfold fk;rw [List.filter_eq_nil_iff];simp
theorem yq:∀ {l l':List Pr},SLe l->SLe l'->(∀ k,fk k l=fk k l')->l=l'
 | [],[],_,_,_=>rfl
 | [],q::l',_,_,h=>by have:=h q.1;rw [fk_nil,ZE,if_pos rfl] at this;cases this
 | p::l,[],_,_,h=>by have:=h p.1;rw [fk_nil,ZE,if_pos rfl] at this;cases this
 | p::l,q::l',h1,h2,h=>by
  have hp:p ∈ q::l':=(mem_fk.1 (by rw [<- h p.1,ZE,if_pos rfl];simp)).1
  have hq:q ∈ p::l:=(mem_fk.1 (by rw [h q.1,ZE,if_pos rfl];simp)).1
  have k1:cB q.1 p.1<=0:=by
   rcases List.mem_cons.1 hp with rfl|hp
   ·rw [Z1];omega
   ·exact (List.pairwise_cons.1 h2).1 p hp
  have k2:cB p.1 q.1<=0:=by
   rcases List.mem_cons.1 hq with rfl|hq
   ·rw [Z1];omega
   ·exact (List.pairwise_cons.1 h1).1 q hq
  have hk:p.1=q.1:=cB_eq k2 k1
  have e:p=q:=by
   have:=h p.1
   rw [ZE,ZE,if_pos rfl,if_pos hk.symm] at this
   exact (List.cons.inj this).1
  subst e
  rw [yq (List.pairwise_cons.1 h1).2 (List.pairwise_cons.1 h2).2 fun k=>?_]
  have:=h k
  rw [ZE,ZE] at this
  split at this
  ·exact (List.cons.inj this).2
  ·exact this
def ins (p:Pr):List Pr->List Pr
 | []=>[p]
 | q::l=>if cB p.1 q.1<=0 then p::q::l else q::ins p l
theorem WI {p x:Pr}:∀ {l:List Pr},x ∈ ins p l->x=p\/x ∈ l
 | [],h=>by simp [ins] at h;exact .inl h
 | q::l,h=>by
  unfold ins at h
  split at h
  ·rcases List.mem_cons.1 h with h | h
   ·exact .inl h
   ·exact .inr h
  ·rcases List.mem_cons.1 h with h | h
   ·exact .inr (by simp [h])
   ·rcases WI h with h | h
    ·exact .inl h
    ·exact .inr (by simp [h])
theorem ins_fk {p:Pr} {k:ByteArray}:∀ {l:List Pr},fk k (ins p l)=fk k (p::l)
 | []=>rfl
 | q::l=>by
  unfold ins
  split
  ·rfl
  ·rename_i h
   rw [ZE,ins_fk,ZE,ZE,ZE]
   by_cases h1:q.1=k<;>by_cases h2:p.1=k
   ·exfalso;apply h;rw [h1,h2,Z1];omega
   all_goals simp [h1,h2]
theorem ins_le {p:Pr}:∀ {l:List Pr},SLe l->SLe (ins p l)
 | [],_=>by simp [ins,SLe]
 | q::l,h=>by
  obtain ⟨h1,h2⟩:=List.pairwise_cons.1 h
  unfold ins
  split
  ·rename_i hpq
   refine List.pairwise_cons.2 ⟨fun x hx=>?_,h⟩
   rcases List.mem_cons.1 hx with rfl|hx
   ·exact hpq
   ·exact wZ hpq (h1 x hx)
  ·rename_i hpq
   refine List.pairwise_cons.2 ⟨fun x hx=>?_,ins_le h2⟩
   rcases WI hx with rfl|hx
   ·rw [yA x.1 q.1];omega
   ·exact h1 x hx
def zm:List Pr->List Pr
 | []=>[]
 | p::l=>ins p (zm l)
theorem ZA:∀ (l:List Pr),SLe (zm l)
 | []=>List.Pairwise.nil
 | p::l=>ins_le (ZA l)
theorem ZI {k:ByteArray}:∀ (l:List Pr),fk k (zm l)=fk k l
 | []=>rfl
 | p::l=>by rw [zm,ins_fk,ZE,ZE,ZI l]
def val (l:List Pr) (k:ByteArray):Option ByteArray:=(fk k l).getLast?.map (·.2)
theorem val_append {l m:List Pr} {k:ByteArray}:val (l++m) k=(val m k).or (val l k):=by
 unfold val
 rw [ZT,List.getLast?_append]
 cases (fk k m).getLast?<;>rfl
theorem val_one {p:Pr} {k:ByteArray}:val [p] k=if p.1=k then some p.2 else none:=by
 unfold val;rw [ZE,fk_nil];split<;>rfl
theorem X1 {p:Pr} {l:List Pr} {k:ByteArray}:val (p::l) k=(val l k).or (if p.1=k then some p.2 else none):=by
 rw [<- val_one];exact val_append (l:=[p])
theorem val_none {l:List Pr} {k:ByteArray}:val l k=none↔fk k l=[]:=by
 unfold val;simp
theorem fk_lt {l:List Pr} (h:SLt l) (k:ByteArray):fk k l=match val l k with|some v=>[(k,v)]|none=>[]:=by
 have hp:(fk k l).Pairwise fun p q=>cB p.1 q.1 < 0:=List.Pairwise.filter _ h
 unfold val
 cases hf:fk k l with
 | nil=>rfl
 | cons p t =>
  have h1:p.1=k:=(mem_fk.1 (by rw [hf];simp:p ∈ fk k l)).2
  cases t with
  | nil=>simp [<- h1]
  | cons q t =>
   exfalso
   have h2:q.1=k:=(mem_fk.1 (by rw [hf];simp:q ∈ fk k l)).2
   rw [hf] at hp
   have:=(List.pairwise_cons.1 hp).1 q (by simp)
   rw [h1,h2,Z1] at this
   omega
theorem lt_uniq {l l':List Pr} (h1:SLt l) (h2:SLt l') (h:∀ k,val l k=val l' k):l=l' :=
 yq h1.le h2.le fun k=>by rw [fk_lt h1,fk_lt h2,h]
def yr:List Pr->List Pr
 | []=>[]
 | p::l=>if fk p.1 l=[] then p::yr l else yr l
theorem yB:∀ (l:List Pr),(yr l).Sublist l
 | []=>List.Sublist.slnil
 | p::l=>by
  unfold yr
  split
  ·exact (yB l).cons_cons p
  ·exact (yB l).cons p
theorem xc {k:ByteArray}:∀ (l:List Pr),val (yr l) k=val l k
 | []=>rfl
 | p::l=>by
  unfold yr
  split
  ·rw [X1,X1,xc l]
  ·rename_i h
   rw [xc l,X1]
   by_cases hk:p.1=k
   ·rw [hk] at h
    cases hv:val l k with
    | none=>exact absurd (val_none.1 hv) h
    | some v=>rfl
   ·rw [if_neg hk];cases val l k<;>rfl
theorem xQ:∀ (l:List Pr),(yr l).Pairwise fun p q=>p.1 ≠ q.1
 | []=>List.Pairwise.nil
 | p::l=>by
  unfold yr
  split
  ·rename_i h
   exact List.pairwise_cons.2 ⟨fun q hq e=>fk_none.1 h q ((yB l).subset hq) e.symm,xQ l⟩
  ·exact xQ l
theorem le_ne {l:List Pr} (h1:SLe l) (h2:l.Pairwise fun p q=>p.1 ≠ q.1):SLt l:=by
 refine (List.Pairwise.and h1 h2).imp fun {p q} h=>?_
 have:=cB_ne h.2
 omega
theorem ssort_ne:∀ {l:List Pr},l.Pairwise (fun p q=>p.1 ≠ q.1)->SLt (zm l):=fun {l} h=>by
 refine le_ne (ZA l) ?_
 induction l with
 | nil=>exact List.Pairwise.nil
 | cons p l ih =>
  obtain ⟨h1,h2⟩:=List.pairwise_cons.1 h
  have hm:∀ x ∈ zm l,x ∈ l:=fun x hx=>by
   have:x ∈ fk x.1 (zm l):=mem_fk.2 ⟨hx,rfl⟩
   rw [ZI] at this
   exact (mem_fk.1 this).1
  have key:∀ m:List Pr,(∀ x ∈ m,p.1 ≠ x.1)->m.Pairwise (fun p q=>p.1 ≠ q.1)->(ins p m).Pairwise fun p q=>p.1 ≠ q.1:=by
   intro m
   induction m with
   | nil=>intro _ _;simp [ins]
   | cons q m ihm =>
    intro g1 g2
    unfold ins
    split
    ·exact List.pairwise_cons.2 ⟨g1,g2⟩
    ·refine List.pairwise_cons.2 ⟨fun x hx=>?_,ihm (fun x hx=>g1 x (by simp [hx])) (List.pairwise_cons.1 g2).2⟩
     rcases WI hx with rfl|hx
     ·exact fun e=>g1 q (by simp) e.symm
     ·exact (List.pairwise_cons.1 g2).1 x hx
  exact key _ (fun x hx=>h1 x (hm x hx)) (ih h2)
def mk (l:List Pr):List Pr:=zm (yr l)
theorem mk_lt (l:List Pr):SLt (mk l):=ssort_ne (xQ l)
theorem mk_val (l:List Pr) (k:ByteArray):val (mk l) k=val l k:=by
 rw [<- xc l];unfold val mk;rw [ZI]
theorem eq_mk {m l:List Pr} (h:SLt m) (hv:∀ k,val m k=val l k):m=mk l:=lt_uniq h (mk_lt l) fun k=>by rw [hv,mk_val]
theorem mk_of {l:List Pr} (h:SLt l):mk l=l:=(eq_mk h fun _=>rfl).symm
theorem mk_len (l:List Pr):(mk l).length<=l.length:=by
 have key:∀ m:List Pr,(zm m).length=m.length:=by
  intro m
  induction m with
  | nil=>rfl
  | cons p m ih =>
   have:∀ n:List Pr,(ins p n).length=n.length+1:=by
    intro n
    induction n with
    | nil=>rfl
    | cons q n ihn=>unfold ins;split<;>simp [ihn]
   rw [zm,this,ih];rfl
 unfold mk;rw [key];exact (yB l).length_le
theorem Ys {f:Pr->Bool}:∀ {m:List Pr},m.Pairwise (fun p q=>f q=true->f p=true)->m=m.filter f++m.filter (fun p=>!f p)
 | [],_=>rfl
 | p::m,h=>by
  obtain ⟨h1,h2⟩:=List.pairwise_cons.1 h
  by_cases hp:f p=true
  ·rw [List.filter_cons, if_pos hp, List.filter_cons, if_neg (by simp [hp])]
   rw [List.cons_append,<- Ys h2]
  ·have e1:m.filter f=[]:=List.filter_eq_nil_iff.2 fun q hq hf=>hp (h1 q hq hf)
   have e2:m.filter (fun p=>!f p)=m:=List.filter_eq_self.2 fun q hq=>by
    cases hf:f q with
    | false=>rfl
    | true=>exact absurd (h1 q hq hf) hp
   rw [List.filter_cons,if_neg hp,List.filter_cons,if_pos (by simp [hp]),e1,e2];rfl
theorem val_filter {f:ByteArray->Bool} {m:List Pr} {k:ByteArray}:fk k (m.filter fun p=>f p.1)=if f k=true then fk k m else []:=by
 unfold fk
 rw [List.filter_filter]
 by_cases h:f k=true
 ·rw [if_pos h]
  apply List.filter_congr
  intro p _
  by_cases hp:p.1=k
  ·simp [hp,h]
  ·simp [hp]
 ·rw [if_neg h, List.filter_eq_nil_iff]
  intro p _
  by_cases hp:p.1=k
  ·simp [hp,h]
  ·simp [hp]
def lo (m:List Pr) (k:ByteArray):List Pr:=m.filter fun p=>decide (cB p.1 k < 0)
def le (m:List Pr) (k:ByteArray):List Pr:=m.filter fun p=>decide (cB p.1 k<=0)
def hi (m:List Pr) (k:ByteArray):List Pr:=m.filter fun p=>decide (cB k p.1 < 0)
def pt (m:List Pr) (k v:ByteArray):List Pr:=lo m k++(k,v)::hi m k
theorem fk_lo {m:List Pr} {k x:ByteArray}:fk x (lo m k)=if cB x k < 0 then fk x m else []:=by
 have:=val_filter (f:=fun y=>decide (cB y k < 0)) (m:=m) (k:=x)
 simpa [lo] using this
theorem xO {m:List Pr} (h:SLe m) (k:ByteArray):m=lo m k++m.filter (fun p=>!decide (cB p.1 k < 0)):=by
 refine Ys (f:=fun p=>decide (cB p.1 k < 0)) (h.imp fun {p q} hpq hq=>?_)
 simp only [decide_eq_true_eq] at hq ⊢
 exact cB_lt2 hpq hq
theorem xP {m:List Pr} (h:SLe m) (k:ByteArray):m=le m k++hi m k:=by
 have e:hi m k=m.filter (fun p=>!decide (cB p.1 k<=0)):=by
  apply List.filter_congr
  intro p _
  rw [yA p.1 k]
  by_cases hp:cB p.1 k<=0
  ·simp [hp]
  ·simp [hp];omega
 rw [e]
 refine Ys (f:=fun p=>decide (cB p.1 k<=0)) (h.imp fun {p q} hpq hq=>?_)
 simp only [decide_eq_true_eq] at hq ⊢
 exact wZ hpq hq
set_option maxRecDepth 100000
def pA (p:Pr):AV:=.agg [S p.1,S p.2]
theorem Zo {l:List Pr} {k:Nat} (h:k < l.length):(l.map pA)[k]? = some (.agg [S l[k].1,S l[k].2]):=by simp [h,pA]
theorem all_pA (l:List Pr):(l.map pA).all AV.isP=true:=by simp [pA,AV.isP,AV.isC,AV.isC0]
def yY (s:ByteArray) (m:Nat):ByteArray:=s.extract 0 (min s.size m)
set_option maxHeartbeats 4000000 in
theorem cutP (G:Nat->AV) (s:ByteArray) (m:Nat) (hs:s.size<=9223372036854775807):PC Tryd.prog G 28 [S s,I m] (S (yY s m)):=by
 have e:(if (m:Int) < (s.size:Int) then (m:Int) else (s.size:Int))=((min s.size m:Nat):Int):=by split<;>omega
 have e2:zh Tryd.prog (Instr.sliceAt 9 (.string s) none (some (.int .i64 ((min s.size m:Nat):Int))) none)=some (.string (yY s m)):=by
  rw [cutV X2 (by omega) (by omega)];rfl
 refine xk cop28 ?_
 show W _ _ _ _ ⟨_,_⟩;simp only [A28,YM,YN,List.cons_append,List.nil_append,List.length_cons,List.length_nil,Nat.reduceAdd,Nat.reduceSub,List.replicate]
 repeat (first|(with_reducible first|refine Zn ?_|refine Zj ?_|refine zG ?_|refine zH ?_|refine yD ?_)|((with_reducible first|refine ks fun K hK=>?_|refine kd fun K hK=>?_|refine kc fun K hK2 hK hK3=>?_|refine XC fun K hR=>?_|refine YK rfl fun K hR=>?_|refine yL fun K hR=>?_);simp (disch:=omega) only [bg0,bg1,bg2,bg3,bg4,zw,z6,eff,AX.ev,St.put,zY,zW,ap1,zk,simprocAttr,zx,AV.cells,AV.fine,AV.one,Zr,zt,live,zr,rdA,zi,wrA,zR,zu,Zp,z8,Zm,zo,zb,zq,zp,zg,cut,id,ap2,zy,Zq,geB,AOp.cls,AOp.xs,ltB,ltC,Option.toList,List.cons_append,decide_eq_true,decide_eq_false,if_pos,if_neg,List.length_map,Zo,bVb,bVn,eq_self,Bool.and_self,BEq.rfl,not_true_eq_false,e,e2];(first|(with_reducible first|(refine hK _ ?_;clear hK K)|(refine hK ?_;clear hK hK3 K hK2)|(refine hK3 ?_;clear hK hK3 K hK2))|((with_reducible refine hR _ ?_ ?_ ?_ ?_);rotate_left 2;rfl;rfl)|((with_reducible refine hR _ ?_);rfl))))
def few (l:List Pr):List Pr:=(l.take 40).map fun p=>(yY p.1 40,yY p.2 40)
theorem few_len (l:List Pr):(few l).length=min 40 l.length:=by simp [few]
theorem cmpP (G:Nat->AV) (a b:ByteArray) (ha:a.size<=9223372036854775807) (hb:b.size<=9223372036854775807):PC Tryd.prog G 62 [S a,S b] (I (cB a b)) :=
 wb rfl rfl (fun w=>(Ord.Compare_calls a b w (by rw [ZQ];exact ha) (by rw [ZQ];exact hb)).mono fun e w' h=>h.fresh)
theorem lessP (G:Nat->AV) (a b:ByteArray) (ha:a.size<=9223372036854775807) (hb:b.size<=9223372036854775807):PC Tryd.prog G 80 [S a,S b] (Bo (decide (cB a b < 0))):=by
 have e:decide (cB a b < 0)=Ord.less a.data.toList b.data.toList:=by
  have h:cB a b = -1\/cB a b=0\/cB a b=1:=cB_cases a b
  unfold Ord.less
  show decide (cB a b < 0)=(cB a b == -1)
  rcases h with h|h|h<;>rw [h]<;>rfl
 rw [e]
 exact wb rfl rfl (fun w=>(Ord.RefLess_calls a b w (by rw [ZQ];exact ha) (by rw [ZQ];exact hb)).mono fun e w' h=>h.fresh)
structure Okl (l:List Pr):Prop where
 len:l.length<=1000000
 sz:∀ p ∈ l,p.1.size<=9223372036854775807/\p.2.size<=9223372036854775807
theorem Okl.k {l:List Pr} (h:Okl l) {k:Nat} (hk:k < l.length):(l[k]).1.size<=9223372036854775807:=(h.sz _ (List.getElem_mem hk)).1
theorem slt_idx:∀ {l:List Pr},SLt l↔∀ i (h:i+1 < l.length),cB (l[i]).1 (l[i+1]).1 < 0
 | []=>by simp [SLt]
 | [p]=>by simp [SLt]
 | p::q::l=>by
  have ih:=slt_idx (l:=q::l)
  constructor
  ·intro h i hi
   obtain ⟨h1,h2⟩:=List.pairwise_cons.1 h
   cases i with
   | zero=>exact h1 q (by simp)
   | succ i=>exact ih.1 h2 i (by simpa using hi)
  ·intro h
   have h2:SLt (q::l):=ih.2 fun i hi=>h (i+1) (by simpa using hi)
   refine List.pairwise_cons.2 ⟨fun x hx=>?_,h2⟩
   have h0:cB p.1 q.1 < 0:=h 0 (by simp)
   rcases List.mem_cons.1 hx with rfl|hx
   ·exact h0
   ·have := (List.pairwise_cons.1 h2).1 x hx
    exact cB_lt1 h0 (by omega)
theorem is_false {l:List Pr} {r:Bool} (hr:r=true↔SLt l) {i:Nat} (h:i+1 < l.length) (hc:0<=cB (l[i]).1 (l[i+1]).1):r=false:=by
 cases r with
 | false=>rfl
 | true=>have:=slt_idx.1 (hr.1 rfl) i h;omega
set_option maxHeartbeats 4000000 in
theorem is11 (G:Nat->AV) (l:List Pr) (hl:Okl l) (r:Bool) (hr:r=true↔SLt l):PC Tryd.prog G 70 [.sl 2 (l.map pA)] (Bo r):=by
 have hlen:=hl.len
 have la:(l.map pA).length=l.length:=by simp
 refine zf cop70 ?_
 repeat' ((conv=>whnf);first|(refine SeqP.go ?_)|((refine ObN.mk ?_ ?_);exact zN)|((with_reducible refine ObI.mk _ rfl ?_ ?_ ?_);omega;omega)|((with_reducible refine (?_:ObL _ _));(refine ObL.mk _ zq14 ?_)))
 conv=>whnf
 refine LoopP.go (α:=Nat) (fun k=>k<=l.length - 1/\∀ i (h:i+1 < l.length),i < k->cB (l[i]).1 (l[i+1]).1 < 0) (fun k=>l.length - k) (fun k=>[(2,some (Bo false)),(0,none),(3,some (I (k:Nat))),(0,none),(0,none),(0,none),(0,none),(0,none),(0,none),(0,none),(0,none),(0,none),(0,none),(0,none),(0,none),(0,none),(0,none),(0,none),(0,none)]) (fun _=>[]) 0 ⟨Nat.zero_le _,fun i h hi=>absurd hi (Nat.not_lt_zero _)⟩ (Fg.go ?_ rfl) ?_
 ·repeat' ((conv=>whnf);first|((refine ObEqs.mk ?_ ?_);rfl)|((with_reducible refine ObEq1.i ?_ ?_);exact zF)|((with_reducible refine ObEq1.mk ?_ ?_);exact zE)|exact True.intro)
 rintro k ⟨hk,hi⟩
 by_cases hkl:k+1 < l.length
 ·have r1 := Zo (show k < l.length by omega)
  have r2:=Zo hkl
  have h1:=hl.k (k:=k) (by omega)
  have h2:=hl.k (k:=k+1) (by omega)
  have c:=cmpP G _ _ h1 h2
  by_cases hc:0<=cB (l[k]).1 (l[k+1]).1
  ·obtain rfl := is_false hr (by omega) hc
   generalize cB (l[k]).1 (l[k+1]).1=z at *
   repeat' ((conv=>whnf);first|(refine SeqP.go ?_)|((refine ObD.mk ?_ ?_);exact zD)|((refine ObN.mk ?_ ?_);exact zN)|(refine ObT.tt ?_)|((refine ObB.yes ?_ ?_);exact zB)|((with_reducible refine ObI.nl ?_ ?_);omega)|((refine ObX.mk _ rfl ?_ ?_);exact zX)|((with_reducible refine (?_:ObR _ _ _));(first|(refine ObR.mk _ (by assumption) ?_)|(refine ObR.mk _ (by exact r1) ?_)|(refine ObR.mk _ (by exact r2) ?_)|(refine ObR.mk _ yy ?_)|(refine ObR.map zX (fun x hx=>?_))|(refine ObR.mk _ rfl ?_)))|((refine ObC.f 62 ?_);(refine ObC.mk _ (c) ?_))|((refine ObEq.mk ?_);exact zE))
  ·have hs : ∀ i (h : i + 1 < l.length), i < k + 1 -> cB (l[i]).1 (l[i + 1]).1 < 0 := fun i h hik => by
    by_cases hik2:i=k
    ·subst hik2;omega
    ·exact hi i h (by omega)
   generalize cB (l[k]).1 (l[k+1]).1=z at *
   repeat' ((conv=>whnf);first|(refine SeqP.go ?_)|((refine ObD.mk ?_ ?_);exact zD)|((refine ObN.mk ?_ ?_);exact zN)|(with_reducible first|refine ObT.tt ?_|refine ObT.ff ?_)|((refine ObB.yes ?_ ?_);exact zB)|((refine ObB.no ?_ ?_);exact zC)|((with_reducible refine ObI.nl ?_ ?_);omega)|((refine ObX.mk _ rfl ?_ ?_);exact zX)|((with_reducible refine (?_:ObR _ _ _));(first|(refine ObR.mk _ (by assumption) ?_)|(refine ObR.mk _ (by exact r1) ?_)|(refine ObR.mk _ (by exact r2) ?_)|(refine ObR.mk _ yy ?_)|(refine ObR.map zX (fun x hx=>?_))|(refine ObR.mk _ rfl ?_)))|((refine ObC.f 62 ?_);(refine ObC.mk _ (c) ?_)))
   all_goals conv=>whnf
   all_goals refine Again.mk (k+1) ⟨by omega,hs⟩ (by omega) (Fg.go ?_ rfl)
   all_goals repeat' ((conv=>whnf);first|((refine ObEqs.mk ?_ ?_);rfl)|((with_reducible refine ObEq1.i ?_ ?_);exact zF)|((with_reducible refine ObEq1.mk ?_ ?_);exact zE)|exact True.intro)
 ·obtain rfl:r=true:=hr.2 (slt_idx.2 fun i h=>hi i h (by omega))
  repeat' ((conv=>whnf);first|(refine SeqP.go ?_)|((refine ObN.mk ?_ ?_);exact zN)|(refine ObT.ff ?_)|((refine ObB.no ?_ ?_);exact zC)|((refine ObEq.mk ?_);exact zE))
set_option maxHeartbeats 4000000 in
theorem is12 (G:Nat->AV) (l:List Pr) (hl:Okl l) (r:Bool) (hr:r=true↔SLt l):PC Tryd.prog G 69 [.sl 2 (l.map pA)] (Bo r):=by
 have hlen:=hl.len
 have la:(l.map pA).length=l.length:=by simp
 refine zf cop69 ?_
 repeat' ((conv=>whnf);first|(refine SeqP.go ?_))
 conv=>whnf
 refine LoopP.go (α:=Nat) (fun k=>k<=l.length - 1/\∀ i (h:i+1 < l.length),i < k->cB (l[i]).1 (l[i+1]).1 < 0) (fun k=>l.length - k) (fun k=>[(2,some (Bo false)),(0,some (I ((k+1:Nat):Int))),(0,none),(0,none),(0,none),(0,none),(0,none),(0,none),(0,none),(0,none),(0,none),(0,none),(0,none),(0,none),(0,none),(0,none),(0,none),(0,none),(0,none),(0,none),(0,none)]) (fun _=>[]) 0 ⟨Nat.zero_le _,fun i h hi=>absurd hi (Nat.not_lt_zero _)⟩ (Fg.go ?_ rfl) ?_
 ·repeat' ((conv=>whnf);first|((refine ObEqs.mk ?_ ?_);rfl)|((with_reducible refine ObEq1.i ?_ ?_);exact zF)|((with_reducible refine ObEq1.mk ?_ ?_);exact zE)|exact True.intro)
 rintro k ⟨hk,hi⟩
 by_cases hkl:k+1 < l.length
 ·have hk' : k < l.length := by omega
  have r1:(l.map pA)[k+1 - 1]? = some (.agg [S l[k].1,S l[k].2]):=Zo hk'
  have r2:=Zo hkl
  have h1:=hl.k (k:=k) (by omega)
  have h2:=hl.k (k:=k+1) (by omega)
  have c:=lessP G _ _ h1 h2
  by_cases hc:cB (l[k]).1 (l[k+1]).1 < 0
  ·have hs : ∀ i (h : i + 1 < l.length), i < k + 1 -> cB (l[i]).1 (l[i + 1]).1 < 0 := fun i h hik => by
    by_cases hik2:i=k
    ·subst hik2;exact hc
    ·exact hi i h (by omega)
   rw [decide_eq_true hc] at c
   repeat' ((conv=>whnf);first|(refine SeqP.go ?_)|((refine ObD.mk ?_ ?_);exact zD)|((refine ObN.mk ?_ ?_);exact zN)|(with_reducible first|refine ObT.tt ?_|refine ObT.ff ?_)|((refine ObB.yes ?_ ?_);exact zB)|((with_reducible refine ObI.nl ?_ ?_);omega)|((with_reducible refine ObI.sl ?_ ?_ ?_);omega;omega)|((refine ObX.mk _ rfl ?_ ?_);exact zX)|((with_reducible refine (?_:ObL _ _));(refine ObL.mk _ zq14 ?_))|((with_reducible refine (?_:ObR _ _ _));(first|(refine ObR.mk _ (by assumption) ?_)|(refine ObR.mk _ (by exact r1) ?_)|(refine ObR.mk _ (by exact r2) ?_)|(refine ObR.mk _ yy ?_)|(refine ObR.map zX (fun x hx=>?_))|(refine ObR.mk _ rfl ?_)))|((refine ObC.f 80 ?_);(refine ObC.mk _ (c) ?_)))
   all_goals conv=>whnf
   all_goals refine Again.mk (k+1) ⟨by omega,hs⟩ (by omega) (Fg.go ?_ rfl)
   all_goals repeat' ((conv=>whnf);first|((refine ObEqs.mk ?_ ?_);rfl)|((with_reducible refine ObEq1.i ?_ ?_);exact zF)|((with_reducible refine ObEq1.mk ?_ ?_);exact zE)|exact True.intro)
  ·obtain rfl := is_false (i := k) hr (by omega) (by omega)
   rw [decide_eq_false hc] at c
   repeat' ((conv=>whnf);first|(refine SeqP.go ?_)|((refine ObD.mk ?_ ?_);exact zD)|((refine ObN.mk ?_ ?_);exact zN)|(with_reducible first|refine ObT.tt ?_|refine ObT.ff ?_)|((refine ObB.yes ?_ ?_);exact zB)|((with_reducible refine ObI.sl ?_ ?_ ?_);omega;omega)|((refine ObX.mk _ rfl ?_ ?_);exact zX)|((with_reducible refine (?_:ObL _ _));(refine ObL.mk _ zq14 ?_))|((with_reducible refine (?_:ObR _ _ _));(first|(refine ObR.mk _ (by assumption) ?_)|(refine ObR.mk _ (by exact r1) ?_)|(refine ObR.mk _ (by exact r2) ?_)|(refine ObR.mk _ yy ?_)|(refine ObR.map zX (fun x hx=>?_))|(refine ObR.mk _ rfl ?_)))|((refine ObC.f 80 ?_);(refine ObC.mk _ (c) ?_))|((refine ObEq.mk ?_);exact zE))
 ·obtain rfl:r=true:=hr.2 (slt_idx.2 fun i h=>hi i h (by omega))
  repeat' ((conv=>whnf);first|(refine SeqP.go ?_)|((refine ObN.mk ?_ ?_);exact zN)|(refine ObT.ff ?_)|((refine ObB.no ?_ ?_);exact zC)|((with_reducible refine (?_:ObL _ _));(refine ObL.mk _ zq14 ?_))|((refine ObEq.mk ?_);exact zE))
end Go.Proofs.YtfocijljkkfonaaDoor.Sim.Pr7
