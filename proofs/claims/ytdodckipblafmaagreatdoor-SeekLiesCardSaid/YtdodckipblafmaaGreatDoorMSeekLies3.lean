/- Texts of this claim, part 3. -/
import Derived.Below
import Derived.BigQuiet
import Derived.Deep.Draws
import Derived.Deep.QuietTactic
import Derived.Lib.Hide
import Derived.Outline
import Derived.ProofKit
import Derived.Test.YtdodckipblafmaaGreatDoorMSeekLies2
import Derived.Test.YtdodckipblafmaaGreatDoorProg
import Derived.Test.YtdodckipblafmaaGreatDoorRows
import Derived.WalkKit
import Derived.WalkLawsBesides
import Derived.WalkSpells
set_option linter.unusedVariables false
set_option linter.unusedSimpArgs false
namespace Go.Proofs.YtdodckipblafmaaGreatDoor.Sim
open Go.RowKit
theorem bg0:type_of% (And.intro @List.set_cons_succ.{0} (And.intro @List.set_cons_zero.{0} (And.intro @List.getD_cons_succ.{0} (And.intro @List.getD_cons_zero.{0} (And.intro @Option.map_some.{0,0} (And.intro @Wf (And.intro @XT (And.intro @scal_bool (And.intro @scal_int (And.intro @scal_string (And.intro @scal_float (And.intro @scal_ptr0 (And.intro @scal_ptr (And.intro @scal_map0 (And.intro @scal_nilFunc (And.intro @scal_nilIface (And.intro @scal_agg (And.intro @scal_tuple (And.intro @scal_slice (And.intro @if_true.{1} (And.intro @if_false.{1} (And.intro @wL (And.intro @wI (And.intro @wK (And.intro @wJ (And.intro @bV_rem (And.intro @bV_eq (And.intro @bV_ne (And.intro @bV_lt (And.intro @bV_le (And.intro @bV_gt (And.intro @bV_ge (And.intro @XG (And.intro @decide_true (And.intro @decide_false (And.intro @Bool.not_true (And.intro @Bool.not_false (And.intro @Bool.false_eq_true (And.intro @Bool.true_eq_false (And.intro @and_self (And.intro @and_true (And.intro @true_and (And.intro @List.length_cons.{0} (And.intro @List.length_nil.{0} (And.intro @List.all_cons.{0} (True.intro)))))))))))))))))))))))))))))))))))))))))))))):=And.intro @List.set_cons_succ.{0} (And.intro @List.set_cons_zero.{0} (And.intro @List.getD_cons_succ.{0} (And.intro @List.getD_cons_zero.{0} (And.intro @Option.map_some.{0,0} (And.intro @Wf (And.intro @XT (And.intro @scal_bool (And.intro @scal_int (And.intro @scal_string (And.intro @scal_float (And.intro @scal_ptr0 (And.intro @scal_ptr (And.intro @scal_map0 (And.intro @scal_nilFunc (And.intro @scal_nilIface (And.intro @scal_agg (And.intro @scal_tuple (And.intro @scal_slice (And.intro @if_true.{1} (And.intro @if_false.{1} (And.intro @wL (And.intro @wI (And.intro @wK (And.intro @wJ (And.intro @bV_rem (And.intro @bV_eq (And.intro @bV_ne (And.intro @bV_lt (And.intro @bV_le (And.intro @bV_gt (And.intro @bV_ge (And.intro @XG (And.intro @decide_true (And.intro @decide_false (And.intro @Bool.not_true (And.intro @Bool.not_false (And.intro @Bool.false_eq_true (And.intro @Bool.true_eq_false (And.intro @and_self (And.intro @and_true (And.intro @true_and (And.intro @List.length_cons.{0} (And.intro @List.length_nil.{0} (And.intro @List.all_cons.{0} (True.intro)))))))))))))))))))))))))))))))))))))))))))))
theorem bg1:type_of% (And.intro @List.all_nil.{0} (And.intro @List.map_cons.{0,0} (And.intro @List.map_nil.{0,0} (And.intro @List.take_succ_cons.{0} (And.intro @List.take_zero.{0} (And.intro @List.drop_succ_cons.{0} (And.intro @List.drop_zero.{0} (And.intro @List.cons_append.{0} (And.intro @List.nil_append.{0} (And.intro @List.append_nil.{0} (And.intro @Bool.and_self (And.intro @Bool.and_true (And.intro @Bool.true_and (And.intro @Int.toNat_natCast (And.intro @Int.toNat_natCast_add_one (And.intro @Int.add_sub_cancel (And.intro @Nat.le_refl (And.intro @List.getElem?_cons_zero.{0} (And.intro @List.getElem?_cons_succ.{0} (And.intro @List.getElem?_nil.{0} (And.intro @Bool.or_true (And.intro @Bool.or_false (And.intro @Bool.true_or (And.intro @Bool.false_or (And.intro @Bool.and_false (And.intro @Bool.false_and (And.intro @Option.isSome_some.{0} (And.intro @ne_eq.{1} (And.intro @not_true_eq_false (And.intro @not_false_eq_true (And.intro @Nat.zero_le (And.intro @Nat.add_zero (And.intro @Nat.zero_add (And.intro @List.headD_cons.{0} (And.intro @ZN (And.intro @Int.natCast_zero (And.intro @Int.natCast_one (And.intro @Int.cast_ofNat_Int (And.intro @Int.natCast_add (And.intro @List.replicate_zero.{0} (And.intro @List.replicate_succ.{0} (And.intro @Option.getD_some.{0} (And.intro @Option.getD_none.{0} (And.intro @Option.bind_some.{0,0} (And.intro @Option.bind_none.{0,0} (True.intro)))))))))))))))))))))))))))))))))))))))))))))):=And.intro @List.all_nil.{0} (And.intro @List.map_cons.{0,0} (And.intro @List.map_nil.{0,0} (And.intro @List.take_succ_cons.{0} (And.intro @List.take_zero.{0} (And.intro @List.drop_succ_cons.{0} (And.intro @List.drop_zero.{0} (And.intro @List.cons_append.{0} (And.intro @List.nil_append.{0} (And.intro @List.append_nil.{0} (And.intro @Bool.and_self (And.intro @Bool.and_true (And.intro @Bool.true_and (And.intro @Int.toNat_natCast (And.intro @Int.toNat_natCast_add_one (And.intro @Int.add_sub_cancel (And.intro @Nat.le_refl (And.intro @List.getElem?_cons_zero.{0} (And.intro @List.getElem?_cons_succ.{0} (And.intro @List.getElem?_nil.{0} (And.intro @Bool.or_true (And.intro @Bool.or_false (And.intro @Bool.true_or (And.intro @Bool.false_or (And.intro @Bool.and_false (And.intro @Bool.false_and (And.intro @Option.isSome_some.{0} (And.intro @ne_eq.{1} (And.intro @not_true_eq_false (And.intro @not_false_eq_true (And.intro @Nat.zero_le (And.intro @Nat.add_zero (And.intro @Nat.zero_add (And.intro @List.headD_cons.{0} (And.intro @ZN (And.intro @Int.natCast_zero (And.intro @Int.natCast_one (And.intro @Int.cast_ofNat_Int (And.intro @Int.natCast_add (And.intro @List.replicate_zero.{0} (And.intro @List.replicate_succ.{0} (And.intro @Option.getD_some.{0} (And.intro @Option.getD_none.{0} (And.intro @Option.bind_some.{0,0} (And.intro @Option.bind_none.{0,0} (True.intro)))))))))))))))))))))))))))))))))))))))))))))
theorem bg2:type_of% (And.intro @Option.map_none.{0,0} (And.intro @List.set_nil.{0} (And.intro @decide_eq_true_eq (And.intro @Nat.lt_irrefl (And.intro @gt_iff_lt.{0} (And.intro @ge_iff_le.{0} (And.intro @Int.lt_irrefl (And.intro @List.isEmpty_nil.{0} (And.intro @fnA_fn (And.intro @fnA_v (And.intro @eqsA_t (And.intro @eqsA_f (And.intro @eqCs_int (And.intro @eqCs_str (And.intro @eqCs_bool (And.intro @eqCs_nil (And.intro @skp_get (And.intro @skp_set (And.intro @bi_min (And.intro @bi_max (And.intro @bV_seq (And.intro @bV_sne (And.intro @bV_slt (And.intro @bV_sgt (And.intro @bV_sle (And.intro @bV_sge (And.intro @Bool.not_not (And.intro @BEq.rfl.{0} (And.intro @beq_self_eq_true.{0} (And.intro @Zz (And.intro @Zy (And.intro @yF (And.intro @yA (And.intro @yE (And.intro @yz (And.intro @gj3_0 (And.intro @sj3_0 (And.intro @gj3_1 (And.intro @sj3_1 (And.intro @gj3_2 (And.intro @sj3_2 (And.intro @gj4_0 (And.intro @sj4_0 (And.intro @gj4_1 (And.intro @sj4_1 (True.intro)))))))))))))))))))))))))))))))))))))))))))))):=And.intro @Option.map_none.{0,0} (And.intro @List.set_nil.{0} (And.intro @decide_eq_true_eq (And.intro @Nat.lt_irrefl (And.intro @gt_iff_lt.{0} (And.intro @ge_iff_le.{0} (And.intro @Int.lt_irrefl (And.intro @List.isEmpty_nil.{0} (And.intro @fnA_fn (And.intro @fnA_v (And.intro @eqsA_t (And.intro @eqsA_f (And.intro @eqCs_int (And.intro @eqCs_str (And.intro @eqCs_bool (And.intro @eqCs_nil (And.intro @skp_get (And.intro @skp_set (And.intro @bi_min (And.intro @bi_max (And.intro @bV_seq (And.intro @bV_sne (And.intro @bV_slt (And.intro @bV_sgt (And.intro @bV_sle (And.intro @bV_sge (And.intro @Bool.not_not (And.intro @BEq.rfl.{0} (And.intro @beq_self_eq_true.{0} (And.intro @Zz (And.intro @Zy (And.intro @yF (And.intro @yA (And.intro @yE (And.intro @yz (And.intro @gj3_0 (And.intro @sj3_0 (And.intro @gj3_1 (And.intro @sj3_1 (And.intro @gj3_2 (And.intro @sj3_2 (And.intro @gj4_0 (And.intro @sj4_0 (And.intro @gj4_1 (And.intro @sj4_1 (True.intro)))))))))))))))))))))))))))))))))))))))))))))
theorem bg3:type_of% (And.intro @gj4_2 (And.intro @sj4_2 (And.intro @gj4_3 (And.intro @sj4_3 (And.intro @gj5_0 (And.intro @sj5_0 (And.intro @gj5_1 (And.intro @sj5_1 (And.intro @gj5_2 (And.intro @sj5_2 (And.intro @gj5_3 (And.intro @sj5_3 (And.intro @gj5_4 (And.intro @sj5_4 (And.intro @gj6_0 (And.intro @sj6_0 (And.intro @gj6_1 (And.intro @sj6_1 (And.intro @gj6_2 (And.intro @sj6_2 (And.intro @gj6_3 (And.intro @sj6_3 (And.intro @gj6_4 (And.intro @sj6_4 (And.intro @gj6_5 (And.intro @sj6_5 (And.intro @gj7_0 (And.intro @sj7_0 (And.intro @gj7_1 (And.intro @sj7_1 (And.intro @gj7_2 (And.intro @sj7_2 (And.intro @gj7_3 (And.intro @sj7_3 (And.intro @gj7_4 (And.intro @sj7_4 (And.intro @gj7_5 (And.intro @sj7_5 (And.intro @gj7_6 (And.intro @sj7_6 (And.intro @gj8_0 (And.intro @sj8_0 (And.intro @gj8_1 (And.intro @sj8_1 (And.intro @gj8_2 (True.intro)))))))))))))))))))))))))))))))))))))))))))))):=And.intro @gj4_2 (And.intro @sj4_2 (And.intro @gj4_3 (And.intro @sj4_3 (And.intro @gj5_0 (And.intro @sj5_0 (And.intro @gj5_1 (And.intro @sj5_1 (And.intro @gj5_2 (And.intro @sj5_2 (And.intro @gj5_3 (And.intro @sj5_3 (And.intro @gj5_4 (And.intro @sj5_4 (And.intro @gj6_0 (And.intro @sj6_0 (And.intro @gj6_1 (And.intro @sj6_1 (And.intro @gj6_2 (And.intro @sj6_2 (And.intro @gj6_3 (And.intro @sj6_3 (And.intro @gj6_4 (And.intro @sj6_4 (And.intro @gj6_5 (And.intro @sj6_5 (And.intro @gj7_0 (And.intro @sj7_0 (And.intro @gj7_1 (And.intro @sj7_1 (And.intro @gj7_2 (And.intro @sj7_2 (And.intro @gj7_3 (And.intro @sj7_3 (And.intro @gj7_4 (And.intro @sj7_4 (And.intro @gj7_5 (And.intro @sj7_5 (And.intro @gj7_6 (And.intro @sj7_6 (And.intro @gj8_0 (And.intro @sj8_0 (And.intro @gj8_1 (And.intro @sj8_1 (And.intro @gj8_2 (True.intro)))))))))))))))))))))))))))))))))))))))))))))
theorem bg4:type_of% (And.intro @sj8_2 (And.intro @gj8_3 (And.intro @sj8_3 (And.intro @gj8_4 (And.intro @sj8_4 (And.intro @gj8_5 (And.intro @sj8_5 (And.intro @gj8_6 (And.intro @sj8_6 (And.intro @gj8_7 (And.intro @sj8_7 (And.intro @gj9_0 (And.intro @sj9_0 (And.intro @gj9_1 (And.intro @sj9_1 (And.intro @gj9_2 (And.intro @sj9_2 (And.intro @gj9_3 (And.intro @sj9_3 (And.intro @gj9_4 (And.intro @sj9_4 (And.intro @gj9_5 (And.intro @sj9_5 (And.intro @gj9_6 (And.intro @sj9_6 (And.intro @gj9_7 (And.intro @sj9_7 (And.intro @gj9_8 (And.intro @sj9_8 (And.intro @z7 (True.intro))))))))))))))))))))))))))))))):=And.intro @sj8_2 (And.intro @gj8_3 (And.intro @sj8_3 (And.intro @gj8_4 (And.intro @sj8_4 (And.intro @gj8_5 (And.intro @sj8_5 (And.intro @gj8_6 (And.intro @sj8_6 (And.intro @gj8_7 (And.intro @sj8_7 (And.intro @gj9_0 (And.intro @sj9_0 (And.intro @gj9_1 (And.intro @sj9_1 (And.intro @gj9_2 (And.intro @sj9_2 (And.intro @gj9_3 (And.intro @sj9_3 (And.intro @gj9_4 (And.intro @sj9_4 (And.intro @gj9_5 (And.intro @sj9_5 (And.intro @gj9_6 (And.intro @sj9_6 (And.intro @gj9_7 (And.intro @sj9_7 (And.intro @gj9_8 (And.intro @sj9_8 (And.intro @z7 (True.intro))))))))))))))))))))))))))))))
end Go.Proofs.YtdodckipblafmaaGreatDoor.Sim
namespace Go.Proofs.YtdodckipblafmaaGreatDoor.Ord
def com:List UInt8->List UInt8->Nat
 | x::xs,y::ys=>if x=y then com xs ys+1 else 0
 | _,_=>0
def cmp:List UInt8->List UInt8->Int
 | [],[]=>0
 | [],_::_=>-1
 | _::_,[]=>1
 | x::xs,y::ys=>if x=y then cmp xs ys else if x < y then -1 else 1
def less (a b:List UInt8):Bool:=cmp a b == -1
theorem com_le_left (a b:List UInt8):com a b<=a.length:=by
 induction a generalizing b with
 | nil=>simp [com]
 | cons x xs ih=>cases b with
  | nil=>simp [com]
  | cons y ys=>simp only [com];split<;>simp;exact ih ys
theorem com_le_right (a b:List UInt8):com a b<=b.length:=by
 induction a generalizing b with
 | nil=>simp [com]
 | cons x xs ih=>cases b with
  | nil=>simp [com]
  | cons y ys=>simp only [com];split<;>simp;exact ih ys
theorem com_eq (a b:List UInt8) (n:Nat) (h:∀ j,j < n->a[j]? = b[j]?) (ha:n<=a.length) (hb:n<=b.length) (hn:a[n]? ≠ b[n]?\/a.length=n\/b.length=n):com a b=n:=by
 induction a generalizing b n with
 | nil=>simp at ha;subst ha;simp [com]
 | cons x xs ih=>cases b with
  | nil=>simp at hb;subst hb;simp [com]
  | cons y ys =>
   cases n with
   | zero=>simp [com] at hn ⊢;exact hn
   | succ m =>
    have h0:=h 0 (by omega)
    simp at h0
    subst h0
    simp only [com,if_true]
    have:=ih ys m (fun j hj=>by have:=h (j+1) (by omega);simpa using this) (by simpa using ha) (by simpa using hb) (by simpa using hn)
    omega
theorem xM (a b:List UInt8):cmp a b=if com a b=a.length then (if com a b=b.length then 0 else -1) else if com a b=b.length then 1 else if (a.getD (com a b) 0) < (b.getD (com a b) 0) then -1 else 1:=by
 induction a generalizing b with
 | nil=>cases b<;>simp [cmp,com]
 | cons x xs ih=>cases b with
  | nil=>simp [cmp,com]
  | cons y ys =>
   by_cases hxy:x=y
   ·subst hxy
    simp [cmp,com,ih ys]
   ·simp [cmp,com,hxy]
theorem cmp_self (a:List UInt8):cmp a a=0:=by
 induction a with
 | nil=>rfl
 | cons x xs ih=>simp [cmp,ih]
theorem cmp_anti (a b:List UInt8):cmp b a = - cmp a b:=by
 induction a generalizing b with
 | nil=>cases b<;>simp [cmp]
 | cons x xs ih=>cases b with
  | nil=>simp [cmp]
  | cons y ys =>
   by_cases hxy:x=y
   ·subst hxy;simp [cmp,ih ys]
   ·have hyx:¬ y=x:=fun h=>hxy h.symm
    simp only [cmp,hxy,hyx,if_false]
    by_cases hlt:x < y
    ·have : ¬ y < x := by simp [UInt8.lt_iff_toNat_lt] at *; omega
     simp [hlt,this]
    ·have : y < x := by
      have:x.toNat ≠ y.toNat:=fun h=>hxy (UInt8.toNat_inj.1 h)
      simp [UInt8.lt_iff_toNat_lt] at *;omega
     simp [hlt,this]
theorem cmp_cases (a b:List UInt8):cmp a b = -1\/cmp a b=0\/cmp a b=1:=by
 rw [xM];split<;>split<;>simp
 split
 ·exact Or.inl (by assumption)
 ·exact Or.inr (by simp_all)
theorem cmp_zero (a b:List UInt8):cmp a b=0↔a=b:=by
 induction a generalizing b with
 | nil=>cases b<;>simp [cmp]
 | cons x xs ih=>cases b with
  | nil=>simp [cmp]
  | cons y ys =>
   by_cases hxy:x=y
   ·subst hxy;simp [cmp,ih ys]
   ·simp only [cmp,hxy,if_false];split<;>simp [hxy]
theorem cmp_trans (a b c:List UInt8) (h1:cmp a b<=0) (h2:cmp b c<=0):cmp a c<=0/\(cmp a b < 0\/cmp b c < 0->cmp a c < 0):=by
 induction a generalizing b c with
 | nil=>cases b<;>cases c<;>simp_all [cmp]
 | cons x xs ih=>cases b with
  | nil=>simp [cmp] at h1
  | cons y ys=>cases c with
   | nil=>simp [cmp] at h2
   | cons z zs =>
    by_cases hxy:x=y
    ·subst hxy
     by_cases hyz:x=z
     ·subst hyz
      simp [cmp] at h1 h2 ⊢
      exact ih ys zs h1 h2
     ·simp only [cmp,hyz,if_false,if_true] at h2 ⊢
      split<;>simp_all
    ·by_cases hyz : y = z
     ·subst hyz
      simp only [cmp,hxy,if_false,if_true] at h1 ⊢
      split<;>simp_all
     ·simp only [cmp,hxy,hyz,if_false] at h1 h2
      by_cases l1:x < y
      ·by_cases l2 : y < z
       ·have l3 : x < z := by simp [UInt8.lt_iff_toNat_lt] at *; omega
        have l4:¬ x=z:=fun h=>by subst h;simp at l3
        simp [cmp,l3,l4]
       ·simp [l2] at h2
      ·simp [l1] at h1
end Go.Proofs.YtdodckipblafmaaGreatDoor.Ord
namespace Go.Proofs.YtdodckipblafmaaGreatDoor.Sim.Pr7
open Go.RowKit
abbrev Pr:=ByteArray × ByteArray
def cB (a b:ByteArray):Int:=Ord.cmp a.data.toList b.data.toList
theorem ba_ext {a b:ByteArray} (h:a.data.toList=b.data.toList):a=b:=by
 cases a;cases b
 simp only [ByteArray.mk.injEq]
 exact Array.ext' h
theorem cB_self (a:ByteArray):cB a a=0:=Ord.cmp_self _
theorem cB_zero {a b:ByteArray}:cB a b=0↔a=b:=⟨fun e=>ba_ext ((Ord.cmp_zero _ _).1 e),fun e=>by subst e;exact cB_self a⟩
theorem XO {a b:ByteArray} (h:¬ a=b):¬ cB a b=0:=fun e=>h (cB_zero.1 e)
theorem ym (a b:ByteArray):cB b a = - cB a b:=Ord.cmp_anti _ _
theorem XP {a b c:ByteArray} (h1:cB a b<=0) (h2:cB b c<=0):cB a c<=0:=(Ord.cmp_trans _ _ _ h1 h2).1
theorem wD {a b c:ByteArray} (h1:cB a b < 0) (h2:cB b c<=0):cB a c < 0:=(Ord.cmp_trans _ _ _ (by unfold cB at h1;omega) h2).2 (.inl h1)
theorem cB_lt2 {a b c:ByteArray} (h1:cB a b<=0) (h2:cB b c < 0):cB a c < 0:=(Ord.cmp_trans _ _ _ h1 (by unfold cB at h2;omega)).2 (.inr h2)
theorem cB_eq {a b:ByteArray} (h1:cB a b<=0) (h2:cB b a<=0):a=b:=cB_zero.1 (by rw [ym a b] at h2;omega)
theorem Xr (a b:ByteArray):cB a b = -1\/cB a b=0\/cB a b=1:=Ord.cmp_cases _ _
def SLe (l:List Pr):Prop:=l.Pairwise fun p q=>cB p.1 q.1<=0
def SLt (l:List Pr):Prop:=l.Pairwise fun p q=>cB p.1 q.1 < 0
theorem SLt.le {l:List Pr} (h:SLt l):SLe l:=List.Pairwise.imp (fun h=>by omega) h
def fk (k:ByteArray) (l:List Pr):List Pr:=l.filter fun p=>decide (p.1=k)
theorem wo {k:ByteArray}:fk k []=[]:=rfl
theorem Zx {k:ByteArray} {p:Pr} {l:List Pr}:fk k (p::l)=if p.1=k then p::fk k l else fk k l:=by
 unfold fk;rw [List.filter_cons];simp
theorem ZF {k:ByteArray} {l m:List Pr}:fk k (l++m)=fk k l++fk k m:=List.filter_append ..
theorem mem_fk {k:ByteArray} {p:Pr} {l:List Pr}:p ∈ fk k l↔p ∈ l/\p.1=k:=by unfold fk;rw [List.mem_filter];simp
theorem fk_none {k:ByteArray} {l:List Pr}:fk k l=[]↔∀ p ∈ l,p.1 ≠ k:=by
 unfold fk;rw [List.filter_eq_nil_iff];simp
theorem yb:∀ {l l':List Pr},SLe l->SLe l'->(∀ k,fk k l=fk k l')->l=l'
 | [],[],_,_,_=>rfl
 | [],q::l',_,_,h=>by have:=h q.1;rw [wo,Zx,if_pos rfl] at this;cases this
 | p::l,[],_,_,h=>by have:=h p.1;rw [wo,Zx,if_pos rfl] at this;cases this
 | p::l,q::l',h1,h2,h=>by
  have hp:p ∈ q::l':=(mem_fk.1 (by rw [<- h p.1,Zx,if_pos rfl];simp)).1
  have hq:q ∈ p::l:=(mem_fk.1 (by rw [h q.1,Zx,if_pos rfl];simp)).1
  have k1:cB q.1 p.1<=0:=by
   rcases List.mem_cons.1 hp with rfl|hp
   ·rw [cB_self];omega
   ·exact (List.pairwise_cons.1 h2).1 p hp
  have k2:cB p.1 q.1<=0:=by
   rcases List.mem_cons.1 hq with rfl|hq
   ·rw [cB_self];omega
   ·exact (List.pairwise_cons.1 h1).1 q hq
  have hk:p.1=q.1:=cB_eq k2 k1
  have e:p=q:=by
   have:=h p.1
   rw [Zx,Zx,if_pos rfl,if_pos hk.symm] at this
   exact (List.cons.inj this).1
  subst e
  rw [yb (List.pairwise_cons.1 h1).2 (List.pairwise_cons.1 h2).2 fun k=>?_]
  have:=h k
  rw [Zx,Zx] at this
  split at this
  ·exact (List.cons.inj this).2
  ·exact this
def ins (p:Pr):List Pr->List Pr
 | []=>[p]
 | q::l=>if cB p.1 q.1<=0 then p::q::l else q::ins p l
theorem we {p x:Pr}:∀ {l:List Pr},x ∈ ins p l->x=p\/x ∈ l
 | [],h=>by simp [ins] at h;exact .inl h
 | q::l,h=>by
  unfold ins at h
  split at h
  ·rcases List.mem_cons.1 h with h | h
   ·exact .inl h
   ·exact .inr h
  ·rcases List.mem_cons.1 h with h | h
   ·exact .inr (by simp [h])
   ·rcases we h with h | h
    ·exact .inl h
    ·exact .inr (by simp [h])
theorem ins_fk {p:Pr} {k:ByteArray}:∀ {l:List Pr},fk k (ins p l)=fk k (p::l)
 | []=>rfl
 | q::l=>by
  unfold ins
  split
  ·rfl
  ·rename_i h
   rw [Zx,ins_fk,Zx,Zx,Zx]
   by_cases h1:q.1=k<;>by_cases h2:p.1=k
   ·exfalso;apply h;rw [h1,h2,cB_self];omega
   all_goals simp [h1,h2]
theorem ins_le {p:Pr}:∀ {l:List Pr},SLe l->SLe (ins p l)
 | [],_=>by simp [ins,SLe]
 | q::l,h=>by
  obtain ⟨h1,h2⟩:=List.pairwise_cons.1 h
  unfold ins
  split
  ·rename_i hpq
   refine List.pairwise_cons.2 ⟨fun x hx=>?_,h⟩
   rcases List.mem_cons.1 hx with rfl|hx
   ·exact hpq
   ·exact XP hpq (h1 x hx)
  ·rename_i hpq
   refine List.pairwise_cons.2 ⟨fun x hx=>?_,ins_le h2⟩
   rcases we hx with rfl|hx
   ·rw [ym x.1 q.1];omega
   ·exact h1 x hx
def z4:List Pr->List Pr
 | []=>[]
 | p::l=>ins p (z4 l)
theorem Zt:∀ (l:List Pr),SLe (z4 l)
 | []=>List.Pairwise.nil
 | p::l=>ins_le (Zt l)
theorem ZB {k:ByteArray}:∀ (l:List Pr),fk k (z4 l)=fk k l
 | []=>rfl
 | p::l=>by rw [z4,ins_fk,Zx,Zx,ZB l]
def val (l:List Pr) (k:ByteArray):Option ByteArray:=(fk k l).getLast?.map (·.2)
theorem val_append {l m:List Pr} {k:ByteArray}:val (l++m) k=(val m k).or (val l k):=by
 unfold val
 rw [ZF,List.getLast?_append]
 cases (fk k m).getLast?<;>rfl
theorem val_one {p:Pr} {k:ByteArray}:val [p] k=if p.1=k then some p.2 else none:=by
 unfold val;rw [Zx,wo];split<;>rfl
theorem xP {p:Pr} {l:List Pr} {k:ByteArray}:val (p::l) k=(val l k).or (if p.1=k then some p.2 else none):=by
 rw [<- val_one];exact val_append (l:=[p])
theorem val_none {l:List Pr} {k:ByteArray}:val l k=none↔fk k l=[]:=by
 unfold val;simp
theorem fk_lt {l:List Pr} (h:SLt l) (k:ByteArray):fk k l=match val l k with|some v=>[(k,v)]|none=>[]:=by
 have hp:(fk k l).Pairwise fun p q=>cB p.1 q.1 < 0:=List.Pairwise.filter _ h
 unfold val
 cases hf:fk k l with
 | nil=>rfl
 | cons p t =>
  have h1:p.1=k:=(mem_fk.1 (by rw [hf];simp:p ∈ fk k l)).2
  cases t with
  | nil=>simp [<- h1]
  | cons q t =>
   exfalso
   have h2:q.1=k:=(mem_fk.1 (by rw [hf];simp:q ∈ fk k l)).2
   rw [hf] at hp
   have:=(List.pairwise_cons.1 hp).1 q (by simp)
   rw [h1,h2,cB_self] at this
   omega
theorem lt_uniq {l l':List Pr} (h1:SLt l) (h2:SLt l') (h:∀ k,val l k=val l' k):l=l' :=
 yb h1.le h2.le fun k=>by rw [fk_lt h1,fk_lt h2,h]
def lasts:List Pr->List Pr
 | []=>[]
 | p::l=>if fk p.1 l=[] then p::lasts l else lasts l
theorem ZY:∀ (l:List Pr),(lasts l).Sublist l
 | []=>List.Sublist.slnil
 | p::l=>by
  unfold lasts
  split
  ·exact (ZY l).cons_cons p
  ·exact (ZY l).cons p
theorem yU {k:ByteArray}:∀ (l:List Pr),val (lasts l) k=val l k
 | []=>rfl
 | p::l=>by
  unfold lasts
  split
  ·rw [xP,xP,yU l]
  ·rename_i h
   rw [yU l,xP]
   by_cases hk:p.1=k
   ·rw [hk] at h
    cases hv:val l k with
    | none=>exact absurd (val_none.1 hv) h
    | some v=>rfl
   ·rw [if_neg hk];cases val l k<;>rfl
theorem Yk:∀ (l:List Pr),(lasts l).Pairwise fun p q=>p.1 ≠ q.1
 | []=>List.Pairwise.nil
 | p::l=>by
  unfold lasts
  split
  ·rename_i h
   exact List.pairwise_cons.2 ⟨fun q hq e=>fk_none.1 h q ((ZY l).subset hq) e.symm,Yk l⟩
  ·exact Yk l
theorem le_ne {l:List Pr} (h1:SLe l) (h2:l.Pairwise fun p q=>p.1 ≠ q.1):SLt l:=by
 refine (List.Pairwise.and h1 h2).imp fun {p q} h=>?_
 have:=XO h.2
 omega
theorem ssort_ne:∀ {l:List Pr},l.Pairwise (fun p q=>p.1 ≠ q.1)->SLt (z4 l):=fun {l} h=>by
 refine le_ne (Zt l) ?_
 induction l with
 | nil=>exact List.Pairwise.nil
 | cons p l ih =>
  obtain ⟨h1,h2⟩:=List.pairwise_cons.1 h
  have hm:∀ x ∈ z4 l,x ∈ l:=fun x hx=>by
   have:x ∈ fk x.1 (z4 l):=mem_fk.2 ⟨hx,rfl⟩
   rw [ZB] at this
   exact (mem_fk.1 this).1
  have key:∀ m:List Pr,(∀ x ∈ m,p.1 ≠ x.1)->m.Pairwise (fun p q=>p.1 ≠ q.1)->(ins p m).Pairwise fun p q=>p.1 ≠ q.1:=by
   intro m
   induction m with
   | nil=>intro _ _;simp [ins]
   | cons q m ihm =>
    intro g1 g2
    unfold ins
    split
    ·exact List.pairwise_cons.2 ⟨g1,g2⟩
    ·refine List.pairwise_cons.2 ⟨fun x hx=>?_,ihm (fun x hx=>g1 x (by simp [hx])) (List.pairwise_cons.1 g2).2⟩
     rcases we hx with rfl|hx
     ·exact fun e=>g1 q (by simp) e.symm
     ·exact (List.pairwise_cons.1 g2).1 x hx
  exact key _ (fun x hx=>h1 x (hm x hx)) (ih h2)
def mk (l:List Pr):List Pr:=z4 (lasts l)
theorem mk_lt (l:List Pr):SLt (mk l):=ssort_ne (Yk l)
theorem X8 (l:List Pr) (k:ByteArray):val (mk l) k=val l k:=by
 rw [<- yU l];unfold val mk;rw [ZB]
theorem eq_mk {m l:List Pr} (h:SLt m) (hv:∀ k,val m k=val l k):m=mk l:=lt_uniq h (mk_lt l) fun k=>by rw [hv,X8]
theorem mk_of {l:List Pr} (h:SLt l):mk l=l:=(eq_mk h fun _=>rfl).symm
theorem mk_mem {l:List Pr} {p:Pr} (h:p ∈ mk l):p ∈ l:=by
 have:p ∈ fk p.1 (mk l):=mem_fk.2 ⟨h,rfl⟩
 unfold mk at this
 rw [ZB] at this
 exact (ZY l).subset (mem_fk.1 this).1
theorem mk_len (l:List Pr):(mk l).length<=l.length:=by
 have key:∀ m:List Pr,(z4 m).length=m.length:=by
  intro m
  induction m with
  | nil=>rfl
  | cons p m ih =>
   have:∀ n:List Pr,(ins p n).length=n.length+1:=by
    intro n
    induction n with
    | nil=>rfl
    | cons q n ihn=>unfold ins;split<;>simp [ihn]
   rw [z4,this,ih];rfl
 unfold mk;rw [key];exact (ZY l).length_le
theorem Ya {f:Pr->Bool}:∀ {m:List Pr},m.Pairwise (fun p q=>f q=true->f p=true)->m=m.filter f++m.filter (fun p=>!f p)
 | [],_=>rfl
 | p::m,h=>by
  obtain ⟨h1,h2⟩:=List.pairwise_cons.1 h
  by_cases hp:f p=true
  ·rw [List.filter_cons, if_pos hp, List.filter_cons, if_neg (by simp [hp])]
   rw [List.cons_append,<- Ya h2]
  ·have e1:m.filter f=[]:=List.filter_eq_nil_iff.2 fun q hq hf=>hp (h1 q hq hf)
   have e2:m.filter (fun p=>!f p)=m:=List.filter_eq_self.2 fun q hq=>by
    cases hf:f q with
    | false=>rfl
    | true=>exact absurd (h1 q hq hf) hp
   rw [List.filter_cons,if_neg hp,List.filter_cons,if_pos (by simp [hp]),e1,e2];rfl
theorem y4 {f:ByteArray->Bool} {m:List Pr} {k:ByteArray}:fk k (m.filter fun p=>f p.1)=if f k=true then fk k m else []:=by
 unfold fk
 rw [List.filter_filter]
 by_cases h:f k=true
 ·rw [if_pos h]
  apply List.filter_congr
  intro p _
  by_cases hp:p.1=k
  ·simp [hp,h]
  ·simp [hp]
 ·rw [if_neg h, List.filter_eq_nil_iff]
  intro p _
  by_cases hp:p.1=k
  ·simp [hp,h]
  ·simp [hp]
def lo (m:List Pr) (k:ByteArray):List Pr:=m.filter fun p=>decide (cB p.1 k < 0)
def le (m:List Pr) (k:ByteArray):List Pr:=m.filter fun p=>decide (cB p.1 k<=0)
def hi (m:List Pr) (k:ByteArray):List Pr:=m.filter fun p=>decide (cB k p.1 < 0)
def pt (m:List Pr) (k v:ByteArray):List Pr:=lo m k++(k,v)::hi m k
theorem fk_lo {m:List Pr} {k x:ByteArray}:fk x (lo m k)=if cB x k < 0 then fk x m else []:=by
 have:=y4 (f:=fun y=>decide (cB y k < 0)) (m:=m) (k:=x)
 simpa [lo] using this
theorem fk_hi {m:List Pr} {k x:ByteArray}:fk x (hi m k)=if cB k x < 0 then fk x m else []:=by
 have:=y4 (f:=fun y=>decide (cB k y < 0)) (m:=m) (k:=x)
 simpa [hi] using this
theorem YX {m:List Pr} (h:SLe m) (k:ByteArray):m=lo m k++m.filter (fun p=>!decide (cB p.1 k < 0)):=by
 refine Ya (f:=fun p=>decide (cB p.1 k < 0)) (h.imp fun {p q} hpq hq=>?_)
 simp only [decide_eq_true_eq] at hq ⊢
 exact cB_lt2 hpq hq
theorem YY {m:List Pr} (h:SLe m) (k:ByteArray):m=le m k++hi m k:=by
 have e:hi m k=m.filter (fun p=>!decide (cB p.1 k<=0)):=by
  apply List.filter_congr
  intro p _
  rw [ym p.1 k]
  by_cases hp:cB p.1 k<=0
  ·simp [hp]
  ·simp [hp];omega
 rw [e]
 refine Ya (f:=fun p=>decide (cB p.1 k<=0)) (h.imp fun {p q} hpq hq=>?_)
 simp only [decide_eq_true_eq] at hq ⊢
 exact XP hpq hq
theorem pt_lt {m:List Pr} (h:SLt m) (k v:ByteArray):SLt (pt m k v):=by
 unfold pt SLt
 refine List.pairwise_append.2 ⟨List.Pairwise.filter _ h,List.pairwise_cons.2 ⟨fun q hq=>?_,List.Pairwise.filter _ h⟩,fun p hp q hq=>?_⟩
 ·have:=(List.mem_filter.1 hq).2;simpa using this
 ·have h1 : cB p.1 k < 0 := by have := (List.mem_filter.1 hp).2; simpa using this
  rcases List.mem_cons.1 hq with rfl|hq
  ·exact h1
  ·have h2 : cB k q.1 < 0 := by have := (List.mem_filter.1 hq).2; simpa using this
   exact wD h1 (by omega)
theorem pt_val {m:List Pr} (k v x:ByteArray):val (pt m k v) x=if k=x then some v else val m x:=by
 unfold val pt
 rw [ZF,Zx,fk_lo,fk_hi]
 by_cases hx:k=x
 ·subst hx
  rw [cB_self];simp
 ·have hc := Xr k x
  have hn:=XO hx
  rw [if_neg hx,if_neg hx,ym k x]
  rcases hc with h|h|h
  ·simp [h]
  ·exact absurd h hn
  ·simp [h]
theorem pt_mk (l:List Pr) (k v:ByteArray):pt (mk l) k v=mk (l++[(k,v)]):=by
 refine eq_mk (pt_lt (mk_lt l) k v) fun x=>?_
 rw [pt_val,val_append,val_one,X8]
 by_cases h:k=x
 ·simp [h]
 ·simp [h]
theorem le_lo {m:List Pr} (h:SLt m) (k:ByteArray):le m k=lo m k++fk k m:=by
 refine yb (List.Pairwise.filter _ h.le) ?_ fun x=>?_
 ·refine List.pairwise_append.2 ⟨List.Pairwise.filter _ h.le,List.Pairwise.filter _ h.le,fun p hp q hq=>?_⟩
  have h1:cB p.1 k < 0:=by have:=(List.mem_filter.1 hp).2;simpa using this
  rw [(mem_fk.1 hq).2];omega
 ·have e1 : fk x (le m k) = if cB x k <= 0 then fk x m else [] := by
   have:=y4 (f:=fun y=>decide (cB y k<=0)) (m:=m) (k:=x)
   simpa [le] using this
  have e2:fk x (fk k m)=if x=k then fk x m else []:=by
   have:=y4 (f:=fun y=>decide (y=k)) (m:=m) (k:=x)
   simpa [fk] using this
  rw [ZF,fk_lo,e1,e2]
  by_cases hx:x=k
  ·subst hx;rw [cB_self];simp
  ·have hn := XO hx
   have hc:=Xr x k
   rcases hc with h|h|h
   ·simp [h,hx]
   ·exact absurd h hn
   ·simp [h,hx]
end Go.Proofs.YtdodckipblafmaaGreatDoor.Sim.Pr7
namespace Go.Proofs.YtdodckipblafmaaGreatDoor.Sim
set_option maxRecDepth 100000
set_option maxHeartbeats 4000000
abbrev zf:List FuncId:=[22,23,24,25,26,27,28,29,31,43,47,48,54,55,56,58,68,69,77,106,111,122,123,125,126,127,128,129]
def rA3:=rdT (x:=zJ Tryz.prog zf 3)
def A3:AF:=rA3.1
theorem cop3:zJ Tryz.prog zf 3=some A3:=rA3.2
def A8:AF:=(AF.mk 37 [(2,none)] (AC.seq (AC.region [(jA 2 (AOp.mv (AX.c (AV.nl 9))))]) (AC.seq (AC.region [(jA 7 (AOp.bsl 57 9 [])),(jA 3 (AOp.mv (AX.t 7))),(jA 4 (AOp.mv (jI 1)))]) (AC.seq (AC.seq (AC.region [(jA 5 (AOp.mv (jI 0)))]) (AC.block 0 (AC.loop (AC.seq (AC.seq (AC.region [(jA 8 (AOp.mv (AX.t 5))),(jA 9 (AOp.mv (AX.t 0))),(jA 10 (AOp.len (AX.t 9))),(jA 11 (AOp.bin BinOp.lss 3 false (Operand.tmp 8) (Operand.tmp 10) (AX.t 8) (AX.t 10))),(jA 12 (AOp.mv (AX.t 11))),(jC 13 (AOp.mv (AX.t 5)) 12 true),(jC 14 (AOp.bin BinOp.lss 3 false (Operand.tmp 13) (Operand.const (Value.int IntKind.i64 12)) (AX.t 13) (jI 12)) 12 true),(jA 15 (AOp.pick (AX.t 12) (AX.t 14) (jS false)))]) (AC.cond (AX.t 15) AC.skip (AC.exit 0))) (AC.seq (AC.block 1 (AC.seq (AC.region [(jA 18 (AOp.mv (AX.t 0))),(jA 19 (AOp.mv (AX.t 5))),(jA 20 (AOp.iad 9 (AX.t 18) (AX.t 19))),(jA 21 (AOp.load true 9 (AX.t 20))),(jA 22 (AOp.call 34 [(AX.t 21)])),(jA 6 (AOp.new 57 9 (AX.c (AV.agg [(jN 0),(AV.v (Value.string (ByteArray.mk #[]))),(AV.v (Value.string (ByteArray.mk #[]))),(AV.v (Value.int IntKind.u32 0)),(AV.nl 1),(jN 0),(AV.nl 2),(jN 0),(jN 0)])))),(jB (AOp.store 9 (AX.t 6) (AX.t 22)))]) (AC.seq (AC.region [(jA 23 (AOp.mv (AX.t 4))),(jA 24 (AOp.load true 9 (AX.t 6))),(jA 25 (AOp.call 35 [(AX.t 24)])),(jA 26 (AOp.len (AX.t 25))),(jA 27 (AOp.bi Builtin.max #[3,3] 3 #[false,true] [(AX.t 26),(jI 1)])),(jA 28 (AOp.bin BinOp.mul 3 false (Operand.tmp 23) (Operand.tmp 27) (AX.t 23) (AX.t 27))),(jA 4 (AOp.mv (AX.t 28)))]) (AC.seq (AC.seq (AC.region [(jA 29 (AOp.mv (AX.t 4))),(jA 30 (AOp.bin BinOp.gtr 3 false (Operand.tmp 29) (Operand.const (Value.int IntKind.i64 3000)) (AX.t 29) (jI 3000)))]) (AC.cond (AX.t 30) (AC.seq (AC.region [(jA 31 (AOp.mv (AX.t 3))),(jA 2 (AOp.mv (AX.t 31)))]) AC.ret) AC.skip)) (AC.region [(jA 32 (AOp.mv (AX.t 3))),(jA 33 (AOp.load true 9 (AX.t 6))),(jA 34 (AOp.bsl 57 9 [(AX.t 33)])),(jA 35 (AOp.app 57 9 120 (AX.t 32) (AX.t 34))),(jA 3 (AOp.mv (AX.t 35)))]))))) (AC.region [(jA 16 (AOp.mv (AX.t 5))),(jA 17 (AOp.bin BinOp.add 3 false (Operand.tmp 16) (Operand.const (Value.int IntKind.i64 1)) (AX.t 16) (jI 1))),(jA 5 (AOp.mv (AX.t 17)))])))))) (AC.seq (AC.region [(jA 36 (AOp.mv (AX.t 3))),(jA 2 (AOp.mv (AX.t 36)))]) AC.ret)))))
theorem cop8:zJ Tryz.prog zf 8=some A8:=by kernel_rfl
def A9:AF:=(AF.mk 11 [(4,none)] (AC.seq (AC.region [(AI.mk (some 4) (AOp.mv (AX.c (AV.v (Value.string (ByteArray.mk #[]))))) none)]) (AC.seq (AC.region [(AI.mk (some 5) (AOp.mv (AX.t 0)) none),(AI.mk (some 6) (AOp.mv (AX.t 0)) none),(AI.mk (some 7) (AOp.lns (AX.t 6)) none),(AI.mk (some 8) (AOp.mv (AX.t 1)) none),(AI.mk (some 9) (AOp.bi Builtin.min #[3,3] 3 #[false,false] [(AX.t 7),(AX.t 8)]) none),(AI.mk (some 10) (AOp.sls 9 (AX.t 5) none (some (AX.t 9))) none),(AI.mk (some 4) (AOp.mv (AX.t 10)) none)]) AC.ret)))
theorem cop9:zJ Tryz.prog zf 9=some A9:=by kernel_rfl
def rA10:=rdT (x:=zJ Tryz.prog zf 10)
def A10:AF:=rA10.1
theorem cop10:zJ Tryz.prog zf 10=some A10:=rA10.2
def rA11:=rdT (x:=zJ Tryz.prog zf 11)
def A11:AF:=rA11.1
theorem cop11:zJ Tryz.prog zf 11=some A11:=rA11.2
def rA12:=rdT (x:=zJ Tryz.prog zf 12)
def A12:AF:=rA12.1
theorem cop12:zJ Tryz.prog zf 12=some A12:=rA12.2
def rA13:=rdT (x:=zJ Tryz.prog zf 13)
def A13:AF:=rA13.1
theorem cop13:zJ Tryz.prog zf 13=some A13:=rA13.2
def A14:AF:=(AF.mk 47 [(0,none)] (AC.seq (AC.region [(jA 0 (AOp.mv (jS false)))]) (AC.seq (AC.region [(jA 10 (AOp.call 30 [(AX.c (AV.v (Value.string (ByteArray.mk #[97])))),(AX.c (AV.v (Value.string (ByteArray.mk #[49]))))])),(jA 11 (AOp.bsl 57 9 [(AX.t 10)])),(jA 1 (AOp.mv (AX.t 11)))]) (AC.seq (AC.region [(jA 13 (AOp.mv (AX.t 1))),(jA 14 (AOp.call 16 [(AX.t 13),(jI 1),(jI 64)])),(jA 12 (AOp.mv (AX.t 14))),(jA 15 (AOp.ext (AX.t 12) 0)),(jA 16 (AOp.ext (AX.t 12) 1)),(jA 17 (AOp.ext (AX.t 12) 2)),(jA 2 (AOp.new 31 2 (AX.c (AV.agg [(AV.v (Value.string (ByteArray.mk #[]))),(AV.v (Value.string (ByteArray.mk #[])))])))),(jB (AOp.store 2 (AX.t 2) (AX.t 15))),(jA 3 (AOp.mv (AX.t 16))),(jA 4 (AOp.mv (AX.t 17)))]) (AC.seq (AC.region [(jA 19 (AOp.mv (AX.t 1))),(jA 20 (AOp.call 15 [(AX.t 19),(jI 1),(AX.c (AV.v (Value.string (ByteArray.mk #[97])))),(jI 64)])),(jA 18 (AOp.mv (AX.t 20))),(jA 21 (AOp.ext (AX.t 18) 0)),(jA 22 (AOp.ext (AX.t 18) 1)),(jA 23 (AOp.ext (AX.t 18) 2)),(jA 5 (AOp.new 31 2 (AX.c (AV.agg [(AV.v (Value.string (ByteArray.mk #[]))),(AV.v (Value.string (ByteArray.mk #[])))])))),(jB (AOp.store 2 (AX.t 5) (AX.t 21))),(jA 6 (AOp.mv (AX.t 22))),(jA 7 (AOp.mv (AX.t 23)))]) (AC.seq (AC.region [(jA 25 (AOp.mv (AX.t 1))),(jA 26 (AOp.call 17 [(AX.t 25),(jI 1),(jI 64)])),(jA 24 (AOp.mv (AX.t 26))),(jA 27 (AOp.ext (AX.t 24) 0)),(jA 28 (AOp.ext (AX.t 24) 1)),(jA 8 (AOp.mv (AX.t 27))),(jA 9 (AOp.mv (AX.t 28)))]) (AC.seq (AC.region [(jA 29 (AOp.fad 1 (AX.t 2))),(jA 30 (AOp.load false 1 (AX.t 29))),(jA 31 (AOp.bin BinOp.eql 9 false (Operand.tmp 30) (Operand.const (Value.string (ByteArray.mk #[49]))) (AX.t 30) (AX.c (AV.v (Value.string (ByteArray.mk #[49])))))),(jA 32 (AOp.mv (AX.t 31))),(jC 33 (AOp.mv (AX.t 3)) 32 true),(jA 34 (AOp.pick (AX.t 32) (AX.t 33) (jS false))),(jA 35 (AOp.mv (AX.t 34))),(jC 36 (AOp.mv (AX.t 6)) 35 true),(jC 37 (AOp.un UnOp.not (AX.t 36)) 35 true),(jA 38 (AOp.pick (AX.t 35) (AX.t 37) (jS false))),(jA 39 (AOp.mv (AX.t 38))),(jC 40 (AOp.mv (AX.t 8)) 39 true),(jC 41 (AOp.bin BinOp.eql 3 false (Operand.tmp 40) (Operand.const (Value.int IntKind.i64 1)) (AX.t 40) (jI 1)) 39 true),(jA 42 (AOp.pick (AX.t 39) (AX.t 41) (jS false))),(jA 43 (AOp.mv (AX.t 42))),(jC 44 (AOp.mv (AX.t 1)) 43 true),(jC 45 (AOp.call 12 [(AX.t 44),(jI 1),(jI 64)]) 43 true),(jA 46 (AOp.pick (AX.t 43) (AX.t 45) (jS false))),(jA 0 (AOp.mv (AX.t 46)))]) AC.ret)))))))
theorem cop14:zJ Tryz.prog zf 14=some A14:=by kernel_rfl
def rA15:=rdT (x:=zJ Tryz.prog zf 15)
def A15:AF:=rA15.1
theorem cop15:zJ Tryz.prog zf 15=some A15:=rA15.2
def rA16:=rdT (x:=zJ Tryz.prog zf 16)
def A16:AF:=rA16.1
theorem cop16:zJ Tryz.prog zf 16=some A16:=rA16.2
def rA17:=rdT (x:=zJ Tryz.prog zf 17)
def A17:AF:=rA17.1
theorem cop17:zJ Tryz.prog zf 17=some A17:=rA17.2
def rA18:=rdT (x:=zJ Tryz.prog zf 18)
def A18:AF:=rA18.1
theorem cop18:zJ Tryz.prog zf 18=some A18:=rA18.2
def rA22:=rdT (x:=zJ Tryz.prog zf 22)
def A22:AF:=rA22.1
theorem cop22:zJ Tryz.prog zf 22=some A22:=rA22.2
def rA23:=rdT (x:=zJ Tryz.prog zf 23)
def A23:AF:=rA23.1
theorem cop23:zJ Tryz.prog zf 23=some A23:=rA23.2
def rA24:=rdT (x:=zJ Tryz.prog zf 24)
def A24:AF:=rA24.1
theorem cop24:zJ Tryz.prog zf 24=some A24:=rA24.2
def rA25:=rdT (x:=zJ Tryz.prog zf 25)
def A25:AF:=rA25.1
theorem cop25:zJ Tryz.prog zf 25=some A25:=rA25.2
def rA26:=rdT (x:=zJ Tryz.prog zf 26)
def A26:AF:=rA26.1
theorem cop26:zJ Tryz.prog zf 26=some A26:=rA26.2
def rA27:=rdT (x:=zJ Tryz.prog zf 27)
def A27:AF:=rA27.1
theorem cop27:zJ Tryz.prog zf 27=some A27:=rA27.2
def rA28:=rdT (x:=zJ Tryz.prog zf 28)
def A28:AF:=rA28.1
theorem cop28:zJ Tryz.prog zf 28=some A28:=rA28.2
def rA29:=rdT (x:=zJ Tryz.prog zf 29)
def A29:AF:=rA29.1
theorem cop29:zJ Tryz.prog zf 29=some A29:=rA29.2
def rA30:=rdT (x:=zJ Tryz.prog zf 30)
def A30:AF:=rA30.1
theorem cop30:zJ Tryz.prog zf 30=some A30:=rA30.2
def rA31:=rdT (x:=zJ Tryz.prog zf 31)
def A31:AF:=rA31.1
theorem cop31:zJ Tryz.prog zf 31=some A31:=rA31.2
def A34:AF:=(AF.mk 26 [(2,(some (true,9)))] (AC.seq (AC.region [(AI.mk (some 1) (AOp.new 57 9 (AX.t 0)) none),(AI.mk (some 2) (AOp.new 57 9 (AX.c (AV.agg [(AV.v (Value.int IntKind.i64 0)),(AV.v (Value.string (ByteArray.mk #[]))),(AV.v (Value.string (ByteArray.mk #[]))),(AV.v (Value.int IntKind.u32 0)),(AV.nl 1),(AV.v (Value.int IntKind.i64 0)),(AV.nl 2),(AV.v (Value.int IntKind.i64 0)),(AV.v (Value.int IntKind.i64 0))]))) none)]) (AC.seq (AC.draw [(AI.mk (some 3) (AOp.fad 1 (AX.t 1)) none),(AI.mk (some 4) (AOp.load false 1 (AX.t 3)) none),(AI.mk (some 5) (AOp.call 9 [(AX.t 4),(AX.c (AV.v (Value.int IntKind.i64 40)))]) none),(AI.mk (some 6) (AOp.fad 2 (AX.t 1)) none),(AI.mk (some 7) (AOp.load false 1 (AX.t 6)) none),(AI.mk (some 8) (AOp.call 9 [(AX.t 7),(AX.c (AV.v (Value.int IntKind.i64 40)))]) none),(AI.mk (some 9) (AOp.fad 1 (AX.t 1)) none),(AI.mk none (AOp.store 1 (AX.t 9) (AX.t 5)) none),(AI.mk (some 10) (AOp.fad 2 (AX.t 1)) none),(AI.mk none (AOp.store 1 (AX.t 10) (AX.t 8)) none)]) (AC.seq (AC.region [(AI.mk (some 11) (AOp.bsl 27 1 []) none),(AI.mk (some 12) (AOp.fad 4 (AX.t 1)) none),(AI.mk (some 13) (AOp.load false 1 (AX.t 12)) none),(AI.mk (some 14) (AOp.fad 4 (AX.t 1)) none),(AI.mk (some 15) (AOp.load false 1 (AX.t 14)) none),(AI.mk (some 16) (AOp.len (AX.t 15)) none),(AI.mk (some 17) (AOp.bi Builtin.min #[3,3] 3 #[false,true] [(AX.t 16),(AX.c (AV.v (Value.int IntKind.i64 40)))]) none),(AI.mk (some 18) (AOp.slc 1 (AX.t 13) none (some (AX.t 17))) none),(AI.mk (some 19) (AOp.apf 27 1 8 (AX.t 11) (AX.t 18)) none),(AI.mk (some 20) (AOp.fad 4 (AX.t 1)) none),(AI.mk none (AOp.store 1 (AX.t 20) (AX.t 19)) none)]) (AC.seq (AC.region [(AI.mk (some 21) (AOp.fad 6 (AX.t 1)) none),(AI.mk (some 22) (AOp.load false 1 (AX.t 21)) none),(AI.mk (some 23) (AOp.call 51 [(AX.t 22)]) none),(AI.mk (some 24) (AOp.fad 6 (AX.t 1)) none),(AI.mk none (AOp.store 1 (AX.t 24) (AX.t 23)) none)]) (AC.seq (AC.region [(AI.mk (some 25) (AOp.load true 9 (AX.t 1)) none),(AI.mk none (AOp.store 9 (AX.t 2) (AX.t 25)) none)]) AC.ret))))))
theorem cop34:zJ Tryz.prog zf 34=some A34:=by kernel_rfl
def rA35:=rdT (x:=zJ Tryz.prog zf 35)
def A35:AF:=rA35.1
theorem cop35:zJ Tryz.prog zf 35=some A35:=rA35.2
def rA43:=rdT (x:=zJ Tryz.prog zf 43)
def A43:AF:=rA43.1
theorem cop43:zJ Tryz.prog zf 43=some A43:=rA43.2
def rA44:=rdT (x:=zJ Tryz.prog zf 44)
def A44:AF:=rA44.1
theorem cop44:zJ Tryz.prog zf 44=some A44:=rA44.2
def A45:AF:=(AF.mk 52 [(2,none)] (AC.seq (AC.region [(AI.mk (some 2) (AOp.mv (AX.c (AV.nl 2))) none)]) (AC.seq (AC.region [(AI.mk (some 6) (AOp.bsl 31 2 []) none),(AI.mk (some 3) (AOp.mv (AX.t 6)) none)]) (AC.seq (AC.seq (AC.region [(AI.mk (some 4) (AOp.mv (AX.c (AV.v (Value.int IntKind.i64 0)))) none)]) (AC.block 0 (AC.loop (AC.seq (AC.seq (AC.region [(AI.mk (some 7) (AOp.mv (AX.t 4)) none),(AI.mk (some 8) (AOp.mv (AX.t 0)) none),(AI.mk (some 9) (AOp.len (AX.t 8)) none),(AI.mk (some 10) (AOp.bin BinOp.lss 3 false (Operand.tmp 7) (Operand.tmp 9) (AX.t 7) (AX.t 9)) none)]) (AC.cond (AX.t 10) AC.skip (AC.exit 0))) (AC.seq (AC.block 1 (AC.seq (AC.seq (AC.region [(AI.mk (some 13) (AOp.mv (AX.t 0)) none),(AI.mk (some 14) (AOp.mv (AX.t 4)) none),(AI.mk (some 15) (AOp.call 71 [(AX.t 13),(AX.t 14)]) none),(AI.mk (some 16) (AOp.un UnOp.not (AX.t 15)) none)]) (AC.cond (AX.t 16) (AC.exit 1) AC.skip)) (AC.seq (AC.region [(AI.mk (some 5) (AOp.mv (AX.c (AV.v (Value.int IntKind.i64 0)))) none)]) (AC.seq (AC.block 2 (AC.loop (AC.seq (AC.seq (AC.draw [(AI.mk (some 17) (AOp.mv (AX.t 5)) none),(AI.mk (some 18) (AOp.mv (AX.t 3)) none),(AI.mk (some 19) (AOp.len (AX.t 18)) none),(AI.mk (some 20) (AOp.bin BinOp.lss 3 false (Operand.tmp 17) (Operand.tmp 19) (AX.t 17) (AX.t 19)) none),(AI.mk (some 21) (AOp.mv (AX.t 20)) none),(AI.mk (some 22) (AOp.mv (AX.t 3)) (some (21,true))),(AI.mk (some 23) (AOp.mv (AX.t 5)) (some (21,true))),(AI.mk (some 24) (AOp.iad 2 (AX.t 22) (AX.t 23)) (some (21,true))),(AI.mk (some 25) (AOp.fad 0 (AX.t 24)) (some (21,true))),(AI.mk (some 26) (AOp.load false 1 (AX.t 25)) (some (21,true))),(AI.mk (some 27) (AOp.mv (AX.t 0)) (some (21,true))),(AI.mk (some 28) (AOp.mv (AX.t 4)) (some (21,true))),(AI.mk (some 29) (AOp.iad 2 (AX.t 27) (AX.t 28)) (some (21,true))),(AI.mk (some 30) (AOp.fad 0 (AX.t 29)) (some (21,true))),(AI.mk (some 31) (AOp.load false 1 (AX.t 30)) (some (21,true))),(AI.mk (some 32) (AOp.call 41 [(AX.t 26),(AX.t 31)]) (some (21,true))),(AI.mk (some 33) (AOp.pick (AX.t 21) (AX.t 32) (AX.c (AV.v (Value.bool false)))) none)]) (AC.cond (AX.t 33) AC.skip (AC.exit 2))) (AC.block 3 (AC.region [(AI.mk (some 34) (AOp.mv (AX.t 5)) none),(AI.mk (some 35) (AOp.bin BinOp.add 3 false (Operand.tmp 34) (Operand.const (Value.int IntKind.i64 1)) (AX.t 34) (AX.c (AV.v (Value.int IntKind.i64 1)))) none),(AI.mk (some 5) (AOp.mv (AX.t 35)) none)]))))) (AC.drawx [[(AI.mk (some 36) (AOp.bsl 31 2 []) none),(AI.mk (some 37) (AOp.mv (AX.t 3)) none),(AI.mk (some 38) (AOp.mv (AX.t 5)) none),(AI.mk (some 39) (AOp.slc 2 (AX.t 37) none (some (AX.t 38))) none),(AI.mk (some 40) (AOp.apf 31 2 32 (AX.t 36) (AX.t 39)) none),(AI.mk (some 41) (AOp.mv (AX.t 0)) none),(AI.mk (some 42) (AOp.mv (AX.t 4)) none),(AI.mk (some 43) (AOp.iad 2 (AX.t 41) (AX.t 42)) none),(AI.mk (some 44) (AOp.load true 2 (AX.t 43)) none),(AI.mk (some 45) (AOp.bsl 31 2 [(AX.t 44)]) none),(AI.mk (some 46) (AOp.apf 31 2 32 (AX.t 40) (AX.t 45)) none),(AI.mk (some 47) (AOp.mv (AX.t 3)) none),(AI.mk (some 48) (AOp.mv (AX.t 5)) none),(AI.mk (some 49) (AOp.slc 2 (AX.t 47) (some (AX.t 48)) none) none),(AI.mk (some 50) (AOp.apf 31 2 32 (AX.t 46) (AX.t 49)) none),(AI.mk (some 3) (AOp.mv (AX.t 50)) none)],[(AI.mk (some 36) (AOp.bsl 31 2 []) none),(AI.mk (some 37) (AOp.mv (AX.t 3)) none),(AI.mk (some 38) (AOp.mv (AX.t 5)) none),(AI.mk (some 39) (AOp.slc 2 (AX.t 37) none (some (AX.t 38))) none),(AI.mk (some 41) (AOp.mv (AX.t 0)) none),(AI.mk (some 42) (AOp.mv (AX.t 4)) none),(AI.mk (some 43) (AOp.iad 2 (AX.t 41) (AX.t 42)) none),(AI.mk (some 44) (AOp.load true 2 (AX.t 43)) none),(AI.mk (some 45) (AOp.bsl 31 2 [(AX.t 44)]) none),(AI.mk (some 40) (AOp.apf 31 2 32 (AX.t 36) (AX.t 39)) none),(AI.mk (some 46) (AOp.apf 31 2 32 (AX.t 40) (AX.t 45)) none),(AI.mk (some 47) (AOp.mv (AX.t 3)) none),(AI.mk (some 48) (AOp.mv (AX.t 5)) none),(AI.mk (some 49) (AOp.slc 2 (AX.t 47) (some (AX.t 48)) none) none),(AI.mk (some 50) (AOp.apf 31 2 32 (AX.t 46) (AX.t 49)) none),(AI.mk (some 3) (AOp.mv (AX.t 50)) none)],[(AI.mk (some 37) (AOp.mv (AX.t 3)) none),(AI.mk (some 38) (AOp.mv (AX.t 5)) none),(AI.mk (some 39) (AOp.slc 2 (AX.t 37) none (some (AX.t 38))) none),(AI.mk (some 41) (AOp.mv (AX.t 0)) none),(AI.mk (some 42) (AOp.mv (AX.t 4)) none),(AI.mk (some 43) (AOp.iad 2 (AX.t 41) (AX.t 42)) none),(AI.mk (some 44) (AOp.load true 2 (AX.t 43)) none),(AI.mk (some 45) (AOp.bsl 31 2 [(AX.t 44)]) none),(AI.mk (some 36) (AOp.bsl 31 2 []) none),(AI.mk (some 40) (AOp.apf 31 2 32 (AX.t 36) (AX.t 39)) none),(AI.mk (some 46) (AOp.apf 31 2 32 (AX.t 40) (AX.t 45)) none),(AI.mk (some 47) (AOp.mv (AX.t 3)) none),(AI.mk (some 48) (AOp.mv (AX.t 5)) none),(AI.mk (some 49) (AOp.slc 2 (AX.t 47) (some (AX.t 48)) none) none),(AI.mk (some 50) (AOp.apf 31 2 32 (AX.t 46) (AX.t 49)) none),(AI.mk (some 3) (AOp.mv (AX.t 50)) none)]]))))) (AC.region [(AI.mk (some 11) (AOp.mv (AX.t 4)) none),(AI.mk (some 12) (AOp.bin BinOp.add 3 false (Operand.tmp 11) (Operand.const (Value.int IntKind.i64 1)) (AX.t 11) (AX.c (AV.v (Value.int IntKind.i64 1)))) none),(AI.mk (some 4) (AOp.mv (AX.t 12)) none)])))))) (AC.seq (AC.region [(AI.mk (some 51) (AOp.mv (AX.t 3)) none),(AI.mk (some 2) (AOp.mv (AX.t 51)) none)]) AC.ret)))))
theorem cop45:zJ Tryz.prog zf 45=some A45:=by kernel_rfl
def rA46:=rdT (x:=zJ Tryz.prog zf 46)
def A46:AF:=rA46.1
theorem Yr:zJ Tryz.prog zf 46=some A46:=rA46.2
def rA47:=rdT (x:=zJ Tryz.prog zf 47)
def A47:AF:=rA47.1
theorem cop47:zJ Tryz.prog zf 47=some A47:=rA47.2
def rA48:=rdT (x:=zJ Tryz.prog zf 48)
def A48:AF:=rA48.1
theorem cop48:zJ Tryz.prog zf 48=some A48:=rA48.2
def rA49:=rdT (x:=zJ Tryz.prog zf 49)
def A49:AF:=rA49.1
theorem cop49:zJ Tryz.prog zf 49=some A49:=rA49.2
def A51:AF:=(AF.mk 33 [(2,none)] (AC.seq (AC.region [(AI.mk (some 2) (AOp.mv (AX.c (AV.nl 2))) none)]) (AC.seq (AC.region [(AI.mk (some 5) (AOp.bsl 31 2 []) none),(AI.mk (some 3) (AOp.mv (AX.t 5)) none)]) (AC.seq (AC.seq (AC.region [(AI.mk (some 4) (AOp.mv (AX.c (AV.v (Value.int IntKind.i64 0)))) none)]) (AC.block 0 (AC.loop (AC.seq (AC.seq (AC.region [(AI.mk (some 6) (AOp.mv (AX.t 4)) none),(AI.mk (some 7) (AOp.mv (AX.t 0)) none),(AI.mk (some 8) (AOp.len (AX.t 7)) none),(AI.mk (some 9) (AOp.bin BinOp.lss 3 false (Operand.tmp 6) (Operand.tmp 8) (AX.t 6) (AX.t 8)) none),(AI.mk (some 10) (AOp.mv (AX.t 9)) none),(AI.mk (some 11) (AOp.mv (AX.t 4)) (some (10,true))),(AI.mk (some 12) (AOp.bin BinOp.lss 3 false (Operand.tmp 11) (Operand.const (Value.int IntKind.i64 40)) (AX.t 11) (AX.c (AV.v (Value.int IntKind.i64 40)))) (some (10,true))),(AI.mk (some 13) (AOp.pick (AX.t 10) (AX.t 12) (AX.c (AV.v (Value.bool false)))) none)]) (AC.cond (AX.t 13) AC.skip (AC.exit 0))) (AC.seq (AC.block 1 (AC.draw [(AI.mk (some 16) (AOp.mv (AX.t 3)) none),(AI.mk (some 17) (AOp.mv (AX.t 0)) none),(AI.mk (some 18) (AOp.mv (AX.t 4)) none),(AI.mk (some 19) (AOp.iad 2 (AX.t 17) (AX.t 18)) none),(AI.mk (some 20) (AOp.fad 0 (AX.t 19)) none),(AI.mk (some 21) (AOp.load false 1 (AX.t 20)) none),(AI.mk (some 22) (AOp.call 9 [(AX.t 21),(AX.c (AV.v (Value.int IntKind.i64 40)))]) none),(AI.mk (some 23) (AOp.mv (AX.t 0)) none),(AI.mk (some 24) (AOp.mv (AX.t 4)) none),(AI.mk (some 25) (AOp.iad 2 (AX.t 23) (AX.t 24)) none),(AI.mk (some 26) (AOp.fad 1 (AX.t 25)) none),(AI.mk (some 27) (AOp.load false 1 (AX.t 26)) none),(AI.mk (some 28) (AOp.call 9 [(AX.t 27),(AX.c (AV.v (Value.int IntKind.i64 40)))]) none),(AI.mk (some 29) (AOp.bld [(AV.v (Value.string (ByteArray.mk #[]))),(AV.v (Value.string (ByteArray.mk #[])))] [(0,(1,(AX.t 22))),(1,(1,(AX.t 28)))]) none),(AI.mk (some 30) (AOp.bsl 31 2 [(AX.t 29)]) none),(AI.mk (some 31) (AOp.app 31 2 32 (AX.t 16) (AX.t 30)) none),(AI.mk (some 3) (AOp.mv (AX.t 31)) none)])) (AC.region [(AI.mk (some 14) (AOp.mv (AX.t 4)) none),(AI.mk (some 15) (AOp.bin BinOp.add 3 false (Operand.tmp 14) (Operand.const (Value.int IntKind.i64 1)) (AX.t 14) (AX.c (AV.v (Value.int IntKind.i64 1)))) none),(AI.mk (some 4) (AOp.mv (AX.t 15)) none)])))))) (AC.seq (AC.region [(AI.mk (some 32) (AOp.mv (AX.t 3)) none),(AI.mk (some 2) (AOp.mv (AX.t 32)) none)]) AC.ret)))))
theorem cop51:zJ Tryz.prog zf 51=some A51:=by kernel_rfl
def rA54:=rdT (x:=zJ Tryz.prog zf 54)
def A54:AF:=rA54.1
theorem cop54:zJ Tryz.prog zf 54=some A54:=rA54.2
def rA56:=rdT (x:=zJ Tryz.prog zf 56)
def A56:AF:=rA56.1
theorem cop56:zJ Tryz.prog zf 56=some A56:=rA56.2
def rA57:=rdT (x:=zJ Tryz.prog zf 57)
def A57:AF:=rA57.1
theorem cop57:zJ Tryz.prog zf 57=some A57:=rA57.2
def rA58:=rdT (x:=zJ Tryz.prog zf 58)
def A58:AF:=rA58.1
theorem cop58:zJ Tryz.prog zf 58=some A58:=rA58.2
def A66:AF:=(AF.mk 15 [(4,none)] (AC.seq (AC.region [(jA 4 (AOp.mv (AX.c (AV.v Value.nilFunc))))]) (AC.seq (AC.region [(jA 6 (AOp.bsl 27 1 [])),(jA 5 (AOp.new 39 1 (AX.c (AV.nl 1)))),(jB (AOp.store 1 (AX.t 5) (AX.t 6)))]) (AC.seq (AC.seq (AC.region [(jA 7 (AOp.mv (AX.t 0))),(jA 8 (AOp.mv (AX.t 1))),(jA 9 (AOp.call 67 [(AX.t 7),(AX.t 8)])),(jA 10 (AOp.bin BinOp.eql 71 false (Operand.tmp 9) (Operand.const (Value.int IntKind.i64 0)) (AX.t 9) (jI 0)))]) (AC.cond (AX.t 10) (AC.region [(jA 11 (AOp.mv (AX.t 0))),(jA 12 (AOp.mv (AX.t 1))),(jA 13 (AOp.call 81 [(AX.t 11),(AX.t 12)])),(jB (AOp.store 1 (AX.t 5) (AX.t 13)))]) AC.skip)) (AC.seq (AC.region [(jA 14 (AOp.mkf 82 [(AX.t 5)])),(jA 4 (AOp.mv (AX.t 14)))]) AC.ret)))))
theorem cop66:zJ Tryz.prog zf 66=some A66:=by kernel_rfl
def rA67:=rdT (x:=zJ Tryz.prog zf 67)
def A67:AF:=rA67.1
theorem cop67:zJ Tryz.prog zf 67=some A67:=rA67.2
def rA68:=rdT (x:=zJ Tryz.prog zf 68)
def A68:AF:=rA68.1
theorem cop68:zJ Tryz.prog zf 68=some A68:=rA68.2
def rA69:=rdT (x:=zJ Tryz.prog zf 69)
def A69:AF:=rA69.1
theorem cop69:zJ Tryz.prog zf 69=some A69:=rA69.2
def rA70:=rdT (x:=zJ Tryz.prog zf 70)
def A70:AF:=rA70.1
theorem cop70:zJ Tryz.prog zf 70=some A70:=rA70.2
def A71:AF:=(AF.mk 25 [(4,none)] (AC.seq (AC.region [(AI.mk (some 4) (AOp.mv (AX.c (AV.v (Value.bool false)))) none)]) (AC.seq (AC.seq (AC.region [(AI.mk (some 6) (AOp.mv (AX.t 1)) none),(AI.mk (some 7) (AOp.bin BinOp.add 3 false (Operand.tmp 6) (Operand.const (Value.int IntKind.i64 1)) (AX.t 6) (AX.c (AV.v (Value.int IntKind.i64 1)))) none),(AI.mk (some 5) (AOp.mv (AX.t 7)) none)]) (AC.block 0 (AC.loop (AC.seq (AC.seq (AC.region [(AI.mk (some 8) (AOp.mv (AX.t 5)) none),(AI.mk (some 9) (AOp.mv (AX.t 0)) none),(AI.mk (some 10) (AOp.len (AX.t 9)) none),(AI.mk (some 11) (AOp.bin BinOp.lss 3 false (Operand.tmp 8) (Operand.tmp 10) (AX.t 8) (AX.t 10)) none)]) (AC.cond (AX.t 11) AC.skip (AC.exit 0))) (AC.seq (AC.block 1 (AC.seq (AC.draw [(AI.mk (some 14) (AOp.mv (AX.t 0)) none),(AI.mk (some 15) (AOp.mv (AX.t 5)) none),(AI.mk (some 16) (AOp.iad 2 (AX.t 14) (AX.t 15)) none),(AI.mk (some 17) (AOp.fad 0 (AX.t 16)) none),(AI.mk (some 18) (AOp.load false 1 (AX.t 17)) none),(AI.mk (some 19) (AOp.mv (AX.t 0)) none),(AI.mk (some 20) (AOp.mv (AX.t 1)) none),(AI.mk (some 21) (AOp.iad 2 (AX.t 19) (AX.t 20)) none),(AI.mk (some 22) (AOp.fad 0 (AX.t 21)) none),(AI.mk (some 23) (AOp.load false 1 (AX.t 22)) none),(AI.mk (some 24) (AOp.bin BinOp.eql 9 false (Operand.tmp 18) (Operand.tmp 23) (AX.t 18) (AX.t 23)) none)]) (AC.cond (AX.t 24) (AC.seq (AC.region [(AI.mk (some 4) (AOp.mv (AX.c (AV.v (Value.bool false)))) none)]) AC.ret) AC.skip))) (AC.region [(AI.mk (some 12) (AOp.mv (AX.t 5)) none),(AI.mk (some 13) (AOp.bin BinOp.add 3 false (Operand.tmp 12) (Operand.const (Value.int IntKind.i64 1)) (AX.t 12) (AX.c (AV.v (Value.int IntKind.i64 1)))) none),(AI.mk (some 5) (AOp.mv (AX.t 13)) none)])))))) (AC.seq (AC.region [(AI.mk (some 4) (AOp.mv (AX.c (AV.v (Value.bool true)))) none)]) AC.ret))))
theorem cop71:zJ Tryz.prog zf 71=some A71:=by kernel_rfl
def rA72:=rdT (x:=zJ Tryz.prog zf 72)
def A72:AF:=rA72.1
theorem cop72:zJ Tryz.prog zf 72=some A72:=rA72.2
def rA75:=rdT (x:=zJ Tryz.prog zf 75)
def A75:AF:=rA75.1
theorem cop75:zJ Tryz.prog zf 75=some A75:=rA75.2
def A78:AF:=(AF.mk 14 [(2,none)] (AC.seq (AC.region [(AI.mk (some 2) (AOp.mv (AX.c (AV.nl 2))) none)]) (AC.seq (AC.seq (AC.region [(AI.mk (some 4) (AOp.mv (AX.t 0)) none),(AI.mk (some 5) (AOp.len (AX.t 4)) none),(AI.mk (some 6) (AOp.bin BinOp.eql 3 false (Operand.tmp 5) (Operand.const (Value.int IntKind.i64 0)) (AX.t 5) (AX.c (AV.v (Value.int IntKind.i64 0)))) none)]) (AC.cond (AX.t 6) (AC.seq (AC.region [(AI.mk (some 2) (AOp.mv (AX.c (AV.nl 2))) none)]) AC.ret) AC.skip)) (AC.seq (AC.region [(AI.mk (some 7) (AOp.mv (AX.t 0)) none),(AI.mk (some 8) (AOp.len (AX.t 7)) none),(AI.mk (some 9) (AOp.mks 31 2 32 (AV.agg [(AV.v (Value.string (ByteArray.mk #[]))),(AV.v (Value.string (ByteArray.mk #[])))]) (AX.t 8) (AX.t 8)) none),(AI.mk (some 3) (AOp.mv (AX.t 9)) none)]) (AC.seq (AC.region [(AI.mk (some 10) (AOp.mv (AX.t 3)) none),(AI.mk (some 11) (AOp.mv (AX.t 0)) none),(AI.mk (some 12) (AOp.cpy 2 (AX.t 10) (AX.t 11)) none)]) (AC.seq (AC.region [(AI.mk (some 13) (AOp.mv (AX.t 3)) none),(AI.mk (some 2) (AOp.mv (AX.t 13)) none)]) AC.ret))))))
theorem cop78:zJ Tryz.prog zf 78=some A78:=by kernel_rfl
def rA81:=rdT (x:=zJ Tryz.prog zf 81)
def A81:AF:=rA81.1
theorem cop81:zJ Tryz.prog zf 81=some A81:=rA81.2
def rA83:=rdT (x:=zJ Tryz.prog zf 83)
def A83:AF:=rA83.1
theorem cop83:zJ Tryz.prog zf 83=some A83:=rA83.2
def rA84:=rdT (x:=zJ Tryz.prog zf 84)
def A84:AF:=rA84.1
theorem cop84:zJ Tryz.prog zf 84=some A84:=rA84.2
def rA85:=rdT (x:=zJ Tryz.prog zf 85)
def A85:AF:=rA85.1
theorem cop85:zJ Tryz.prog zf 85=some A85:=rA85.2
def rA93:=rdT (x:=zJ Tryz.prog zf 93)
def A93:AF:=rA93.1
theorem cop93:zJ Tryz.prog zf 93=some A93:=rA93.2
def rA94:=rdT (x:=zJ Tryz.prog zf 94)
def A94:AF:=rA94.1
theorem cop94:zJ Tryz.prog zf 94=some A94:=rA94.2
def rA95:=rdT (x:=zJ Tryz.prog zf 95)
def A95:AF:=rA95.1
theorem Xp:zJ Tryz.prog zf 95=some A95:=rA95.2
def rA96:=rdT (x:=zJ Tryz.prog zf 96)
def A96:AF:=rA96.1
theorem cop96:zJ Tryz.prog zf 96=some A96:=rA96.2
def rA100:=rdT (x:=zJ Tryz.prog zf 100)
def A100:AF:=rA100.1
theorem cop100:zJ Tryz.prog zf 100=some A100:=rA100.2
def rA103:=rdT (x:=zJ Tryz.prog zf 103)
def A103:AF:=rA103.1
theorem cop103:zJ Tryz.prog zf 103=some A103:=rA103.2
def A104:AF:=(AF.mk 14 [(2,none)] (AC.seq (AC.region [(AI.mk (some 2) (AOp.mv (AX.c (AV.nl 1))) none)]) (AC.seq (AC.seq (AC.region [(AI.mk (some 4) (AOp.mv (AX.t 0)) none),(AI.mk (some 5) (AOp.len (AX.t 4)) none),(AI.mk (some 6) (AOp.bin BinOp.eql 3 false (Operand.tmp 5) (Operand.const (Value.int IntKind.i64 0)) (AX.t 5) (AX.c (AV.v (Value.int IntKind.i64 0)))) none)]) (AC.cond (AX.t 6) (AC.seq (AC.region [(AI.mk (some 2) (AOp.mv (AX.c (AV.nl 1))) none)]) AC.ret) AC.skip)) (AC.seq (AC.region [(AI.mk (some 7) (AOp.mv (AX.t 0)) none),(AI.mk (some 8) (AOp.len (AX.t 7)) none),(AI.mk (some 9) (AOp.mks 27 1 8 (AV.v (Value.int IntKind.i64 0)) (AX.t 8) (AX.t 8)) none),(AI.mk (some 3) (AOp.mv (AX.t 9)) none)]) (AC.seq (AC.region [(AI.mk (some 10) (AOp.mv (AX.t 3)) none),(AI.mk (some 11) (AOp.mv (AX.t 0)) none),(AI.mk (some 12) (AOp.cpy 1 (AX.t 10) (AX.t 11)) none)]) (AC.seq (AC.region [(AI.mk (some 13) (AOp.mv (AX.t 3)) none),(AI.mk (some 2) (AOp.mv (AX.t 13)) none)]) AC.ret))))))
theorem cop104:zJ Tryz.prog zf 104=some A104:=by kernel_rfl
def rA105:=rdT (x:=zJ Tryz.prog zf 105)
def A105:AF:=rA105.1
theorem cop105:zJ Tryz.prog zf 105=some A105:=rA105.2
def rA106:=rdT (x:=zJ Tryz.prog zf 106)
def A106:AF:=rA106.1
theorem cop106:zJ Tryz.prog zf 106=some A106:=rA106.2
def rA107:=rdT (x:=zJ Tryz.prog zf 107)
def A107:AF:=rA107.1
theorem xq:zJ Tryz.prog zf 107=some A107:=rA107.2
def rA108:=rdT (x:=zJ Tryz.prog zf 108)
def A108:AF:=rA108.1
theorem cop108:zJ Tryz.prog zf 108=some A108:=rA108.2
def A109:AF:=(AF.mk 23 [(2,none)] (AC.seq (AC.region [(AI.mk (some 2) (AOp.mv (AX.c (AV.v (Value.bool false)))) none)]) (AC.seq (AC.seq (AC.region [(AI.mk (some 3) (AOp.mv (AX.c (AV.v (Value.int IntKind.i64 1)))) none)]) (AC.block 0 (AC.loop (AC.seq (AC.seq (AC.region [(AI.mk (some 4) (AOp.mv (AX.t 3)) none),(AI.mk (some 5) (AOp.mv (AX.t 0)) none),(AI.mk (some 6) (AOp.len (AX.t 5)) none),(AI.mk (some 7) (AOp.bin BinOp.lss 3 false (Operand.tmp 4) (Operand.tmp 6) (AX.t 4) (AX.t 6)) none)]) (AC.cond (AX.t 7) AC.skip (AC.exit 0))) (AC.seq (AC.block 1 (AC.seq (AC.draw [(AI.mk (some 10) (AOp.mv (AX.t 0)) none),(AI.mk (some 11) (AOp.mv (AX.t 3)) none),(AI.mk (some 12) (AOp.bin BinOp.sub 3 false (Operand.tmp 11) (Operand.const (Value.int IntKind.i64 1)) (AX.t 11) (AX.c (AV.v (Value.int IntKind.i64 1)))) none),(AI.mk (some 13) (AOp.iad 2 (AX.t 10) (AX.t 12)) none),(AI.mk (some 14) (AOp.fad 0 (AX.t 13)) none),(AI.mk (some 15) (AOp.load false 1 (AX.t 14)) none),(AI.mk (some 16) (AOp.mv (AX.t 0)) none),(AI.mk (some 17) (AOp.mv (AX.t 3)) none),(AI.mk (some 18) (AOp.iad 2 (AX.t 16) (AX.t 17)) none),(AI.mk (some 19) (AOp.fad 0 (AX.t 18)) none),(AI.mk (some 20) (AOp.load false 1 (AX.t 19)) none),(AI.mk (some 21) (AOp.call 41 [(AX.t 15),(AX.t 20)]) none),(AI.mk (some 22) (AOp.un UnOp.not (AX.t 21)) none)]) (AC.cond (AX.t 22) (AC.seq (AC.region [(AI.mk (some 2) (AOp.mv (AX.c (AV.v (Value.bool false)))) none)]) AC.ret) AC.skip))) (AC.region [(AI.mk (some 8) (AOp.mv (AX.t 3)) none),(AI.mk (some 9) (AOp.bin BinOp.add 3 false (Operand.tmp 8) (Operand.const (Value.int IntKind.i64 1)) (AX.t 8) (AX.c (AV.v (Value.int IntKind.i64 1)))) none),(AI.mk (some 3) (AOp.mv (AX.t 9)) none)])))))) (AC.seq (AC.region [(AI.mk (some 2) (AOp.mv (AX.c (AV.v (Value.bool true)))) none)]) AC.ret))))
theorem cop109:zJ Tryz.prog zf 109=some A109:=by kernel_rfl
def A110:AF:=(AF.mk 21 [(2,none)] (AC.seq (AC.region [(jA 2 (AOp.mv (jI 0)))]) (AC.seq (AC.draw [(jA 3 (AOp.mv (AX.t 0))),(jA 4 (AOp.bin BinOp.shr 55 false (Operand.tmp 3) (Operand.const (Value.int IntKind.u64 24)) (AX.t 3) (AX.c (AV.v (Value.int IntKind.u64 24))))),(jA 5 (AOp.idx 9 (AX.c (AV.v (Value.string (ByteArray.mk #[0,1,1,2,1,2,2,3,1,2,2,3,2,3,3,4,1,2,2,3,2,3,3,4,2,3,3,4,3,4,4,5,1,2,2,3,2,3,3,4,2,3,3,4,3,4,4,5,2,3,3,4,3,4,4,5,3,4,4,5,4,5,5,6,1,2,2,3,2,3,3,4,2,3,3,4,3,4,4,5,2,3,3,4,3,4,4,5,3,4,4,5,4,5,5,6,2,3,3,4,3,4,4,5,3,4,4,5,4,5,5,6,3,4,4,5,4,5,5,6,4,5,5,6,5,6,6,7,1,2,2,3,2,3,3,4,2,3,3,4,3,4,4,5,2,3,3,4,3,4,4,5,3,4,4,5,4,5,5,6,2,3,3,4,3,4,4,5,3,4,4,5,4,5,5,6,3,4,4,5,4,5,5,6,4,5,5,6,5,6,6,7,2,3,3,4,3,4,4,5,3,4,4,5,4,5,5,6,3,4,4,5,4,5,5,6,4,5,5,6,5,6,6,7,3,4,4,5,4,5,5,6,4,5,5,6,5,6,6,7,4,5,5,6,5,6,6,7,5,6,6,7,6,7,7,8])))) (AX.t 4))),(jA 6 (AOp.mv (AX.t 0))),(jA 7 (AOp.bin BinOp.shr 55 false (Operand.tmp 6) (Operand.const (Value.int IntKind.u64 16)) (AX.t 6) (AX.c (AV.v (Value.int IntKind.u64 16))))),(jA 8 (AOp.bin BinOp.and 55 false (Operand.tmp 7) (Operand.const (Value.int IntKind.u32 255)) (AX.t 7) (AX.c (AV.v (Value.int IntKind.u32 255))))),(jA 9 (AOp.idx 9 (AX.c (AV.v (Value.string (ByteArray.mk #[0,1,1,2,1,2,2,3,1,2,2,3,2,3,3,4,1,2,2,3,2,3,3,4,2,3,3,4,3,4,4,5,1,2,2,3,2,3,3,4,2,3,3,4,3,4,4,5,2,3,3,4,3,4,4,5,3,4,4,5,4,5,5,6,1,2,2,3,2,3,3,4,2,3,3,4,3,4,4,5,2,3,3,4,3,4,4,5,3,4,4,5,4,5,5,6,2,3,3,4,3,4,4,5,3,4,4,5,4,5,5,6,3,4,4,5,4,5,5,6,4,5,5,6,5,6,6,7,1,2,2,3,2,3,3,4,2,3,3,4,3,4,4,5,2,3,3,4,3,4,4,5,3,4,4,5,4,5,5,6,2,3,3,4,3,4,4,5,3,4,4,5,4,5,5,6,3,4,4,5,4,5,5,6,4,5,5,6,5,6,6,7,2,3,3,4,3,4,4,5,3,4,4,5,4,5,5,6,3,4,4,5,4,5,5,6,4,5,5,6,5,6,6,7,3,4,4,5,4,5,5,6,4,5,5,6,5,6,6,7,4,5,5,6,5,6,6,7,5,6,6,7,6,7,7,8])))) (AX.t 8))),(jA 10 (AOp.bin BinOp.add 5 false (Operand.tmp 5) (Operand.tmp 9) (AX.t 5) (AX.t 9))),(jA 11 (AOp.mv (AX.t 0))),(jA 12 (AOp.bin BinOp.shr 55 false (Operand.tmp 11) (Operand.const (Value.int IntKind.u64 8)) (AX.t 11) (AX.c (AV.v (Value.int IntKind.u64 8))))),(jA 13 (AOp.bin BinOp.and 55 false (Operand.tmp 12) (Operand.const (Value.int IntKind.u32 255)) (AX.t 12) (AX.c (AV.v (Value.int IntKind.u32 255))))),(jA 14 (AOp.idx 9 (AX.c (AV.v (Value.string (ByteArray.mk #[0,1,1,2,1,2,2,3,1,2,2,3,2,3,3,4,1,2,2,3,2,3,3,4,2,3,3,4,3,4,4,5,1,2,2,3,2,3,3,4,2,3,3,4,3,4,4,5,2,3,3,4,3,4,4,5,3,4,4,5,4,5,5,6,1,2,2,3,2,3,3,4,2,3,3,4,3,4,4,5,2,3,3,4,3,4,4,5,3,4,4,5,4,5,5,6,2,3,3,4,3,4,4,5,3,4,4,5,4,5,5,6,3,4,4,5,4,5,5,6,4,5,5,6,5,6,6,7,1,2,2,3,2,3,3,4,2,3,3,4,3,4,4,5,2,3,3,4,3,4,4,5,3,4,4,5,4,5,5,6,2,3,3,4,3,4,4,5,3,4,4,5,4,5,5,6,3,4,4,5,4,5,5,6,4,5,5,6,5,6,6,7,2,3,3,4,3,4,4,5,3,4,4,5,4,5,5,6,3,4,4,5,4,5,5,6,4,5,5,6,5,6,6,7,3,4,4,5,4,5,5,6,4,5,5,6,5,6,6,7,4,5,5,6,5,6,6,7,5,6,6,7,6,7,7,8])))) (AX.t 13))),(jA 15 (AOp.bin BinOp.add 5 false (Operand.tmp 10) (Operand.tmp 14) (AX.t 10) (AX.t 14))),(jA 16 (AOp.mv (AX.t 0))),(jA 17 (AOp.bin BinOp.and 55 false (Operand.tmp 16) (Operand.const (Value.int IntKind.u32 255)) (AX.t 16) (AX.c (AV.v (Value.int IntKind.u32 255))))),(jA 18 (AOp.idx 9 (AX.c (AV.v (Value.string (ByteArray.mk #[0,1,1,2,1,2,2,3,1,2,2,3,2,3,3,4,1,2,2,3,2,3,3,4,2,3,3,4,3,4,4,5,1,2,2,3,2,3,3,4,2,3,3,4,3,4,4,5,2,3,3,4,3,4,4,5,3,4,4,5,4,5,5,6,1,2,2,3,2,3,3,4,2,3,3,4,3,4,4,5,2,3,3,4,3,4,4,5,3,4,4,5,4,5,5,6,2,3,3,4,3,4,4,5,3,4,4,5,4,5,5,6,3,4,4,5,4,5,5,6,4,5,5,6,5,6,6,7,1,2,2,3,2,3,3,4,2,3,3,4,3,4,4,5,2,3,3,4,3,4,4,5,3,4,4,5,4,5,5,6,2,3,3,4,3,4,4,5,3,4,4,5,4,5,5,6,3,4,4,5,4,5,5,6,4,5,5,6,5,6,6,7,2,3,3,4,3,4,4,5,3,4,4,5,4,5,5,6,3,4,4,5,4,5,5,6,4,5,5,6,5,6,6,7,3,4,4,5,4,5,5,6,4,5,5,6,5,6,6,7,4,5,5,6,5,6,6,7,5,6,6,7,6,7,7,8])))) (AX.t 17))),(jA 19 (AOp.bin BinOp.add 5 false (Operand.tmp 15) (Operand.tmp 18) (AX.t 15) (AX.t 18))),(jA 20 (AOp.cv 5 3 (AX.t 19))),(jA 2 (AOp.mv (AX.t 20)))]) AC.ret)))
theorem cop110:zJ Tryz.prog zf 110=some A110:=by kernel_rfl
def rA111:=rdT (x:=zJ Tryz.prog zf 111)
def A111:AF:=rA111.1
theorem cop111:zJ Tryz.prog zf 111=some A111:=rA111.2
def rA112:=rdT (x:=zJ Tryz.prog zf 112)
def A112:AF:=rA112.1
theorem cop112:zJ Tryz.prog zf 112=some A112:=rA112.2
def rA113:=rdT (x:=zJ Tryz.prog zf 113)
def A113:AF:=rA113.1
theorem cop113:zJ Tryz.prog zf 113=some A113:=rA113.2
def rA114:=rdT (x:=zJ Tryz.prog zf 114)
def A114:AF:=rA114.1
theorem cop114:zJ Tryz.prog zf 114=some A114:=rA114.2
def rA115:=rdT (x:=zJ Tryz.prog zf 115)
def A115:AF:=rA115.1
theorem cop115:zJ Tryz.prog zf 115=some A115:=rA115.2
def A116:AF:=(AF.mk 68 [(4,none)] (AC.seq (AC.region [(AI.mk (some 2) (AOp.new 57 9 (AX.t 0)) none),(AI.mk (some 3) (AOp.new 57 9 (AX.t 1)) none),(AI.mk (some 4) (AOp.mv (AX.c (AV.v (Value.bool false)))) none)]) (AC.seq (AC.region [(AI.mk (some 5) (AOp.fad 0 (AX.t 2)) none),(AI.mk (some 6) (AOp.load false 1 (AX.t 5)) none),(AI.mk (some 7) (AOp.fad 0 (AX.t 3)) none),(AI.mk (some 8) (AOp.load false 1 (AX.t 7)) none),(AI.mk (some 9) (AOp.bin BinOp.eql 3 false (Operand.tmp 6) (Operand.tmp 8) (AX.t 6) (AX.t 8)) none),(AI.mk (some 10) (AOp.mv (AX.t 9)) none),(AI.mk (some 11) (AOp.fad 1 (AX.t 2)) (some (10,true))),(AI.mk (some 12) (AOp.load false 1 (AX.t 11)) (some (10,true))),(AI.mk (some 13) (AOp.fad 1 (AX.t 3)) (some (10,true))),(AI.mk (some 14) (AOp.load false 1 (AX.t 13)) (some (10,true))),(AI.mk (some 15) (AOp.call 38 [(AX.t 12),(AX.t 14)]) (some (10,true))),(AI.mk (some 16) (AOp.bin BinOp.eql 3 false (Operand.tmp 15) (Operand.const (Value.int IntKind.i64 0)) (AX.t 15) (AX.c (AV.v (Value.int IntKind.i64 0)))) (some (10,true))),(AI.mk (some 17) (AOp.pick (AX.t 10) (AX.t 16) (AX.c (AV.v (Value.bool false)))) none),(AI.mk (some 18) (AOp.mv (AX.t 17)) none),(AI.mk (some 19) (AOp.fad 2 (AX.t 2)) (some (18,true))),(AI.mk (some 20) (AOp.load false 1 (AX.t 19)) (some (18,true))),(AI.mk (some 21) (AOp.fad 2 (AX.t 3)) (some (18,true))),(AI.mk (some 22) (AOp.load false 1 (AX.t 21)) (some (18,true))),(AI.mk (some 23) (AOp.call 38 [(AX.t 20),(AX.t 22)]) (some (18,true))),(AI.mk (some 24) (AOp.bin BinOp.eql 3 false (Operand.tmp 23) (Operand.const (Value.int IntKind.i64 0)) (AX.t 23) (AX.c (AV.v (Value.int IntKind.i64 0)))) (some (18,true))),(AI.mk (some 25) (AOp.pick (AX.t 18) (AX.t 24) (AX.c (AV.v (Value.bool false)))) none),(AI.mk (some 26) (AOp.mv (AX.t 25)) none),(AI.mk (some 27) (AOp.fad 3 (AX.t 2)) (some (26,true))),(AI.mk (some 28) (AOp.load false 1 (AX.t 27)) (some (26,true))),(AI.mk (some 29) (AOp.fad 3 (AX.t 3)) (some (26,true))),(AI.mk (some 30) (AOp.load false 1 (AX.t 29)) (some (26,true))),(AI.mk (some 31) (AOp.bin BinOp.eql 55 false (Operand.tmp 28) (Operand.tmp 30) (AX.t 28) (AX.t 30)) (some (26,true))),(AI.mk (some 32) (AOp.pick (AX.t 26) (AX.t 31) (AX.c (AV.v (Value.bool false)))) none),(AI.mk (some 33) (AOp.mv (AX.t 32)) none),(AI.mk (some 34) (AOp.fad 4 (AX.t 2)) (some (33,true))),(AI.mk (some 35) (AOp.load false 1 (AX.t 34)) (some (33,true))),(AI.mk (some 36) (AOp.fad 4 (AX.t 3)) (some (33,true))),(AI.mk (some 37) (AOp.load false 1 (AX.t 36)) (some (33,true))),(AI.mk (some 38) (AOp.call 119 [(AX.t 35),(AX.t 37)]) (some (33,true))),(AI.mk (some 39) (AOp.pick (AX.t 33) (AX.t 38) (AX.c (AV.v (Value.bool false)))) none),(AI.mk (some 40) (AOp.mv (AX.t 39)) none),(AI.mk (some 41) (AOp.fad 5 (AX.t 2)) (some (40,true))),(AI.mk (some 42) (AOp.load false 1 (AX.t 41)) (some (40,true))),(AI.mk (some 43) (AOp.fad 5 (AX.t 3)) (some (40,true))),(AI.mk (some 44) (AOp.load false 1 (AX.t 43)) (some (40,true))),(AI.mk (some 45) (AOp.bin BinOp.eql 27 false (Operand.tmp 42) (Operand.tmp 44) (AX.t 42) (AX.t 44)) (some (40,true))),(AI.mk (some 46) (AOp.pick (AX.t 40) (AX.t 45) (AX.c (AV.v (Value.bool false)))) none),(AI.mk (some 47) (AOp.mv (AX.t 46)) none),(AI.mk (some 48) (AOp.fad 6 (AX.t 2)) (some (47,true))),(AI.mk (some 49) (AOp.load false 1 (AX.t 48)) (some (47,true))),(AI.mk (some 50) (AOp.fad 6 (AX.t 3)) (some (47,true))),(AI.mk (some 51) (AOp.load false 1 (AX.t 50)) (some (47,true))),(AI.mk (some 52) (AOp.call 120 [(AX.t 49),(AX.t 51)]) (some (47,true))),(AI.mk (some 53) (AOp.pick (AX.t 47) (AX.t 52) (AX.c (AV.v (Value.bool false)))) none),(AI.mk (some 54) (AOp.mv (AX.t 53)) none),(AI.mk (some 55) (AOp.fad 7 (AX.t 2)) (some (54,true))),(AI.mk (some 56) (AOp.load false 1 (AX.t 55)) (some (54,true))),(AI.mk (some 57) (AOp.fad 7 (AX.t 3)) (some (54,true))),(AI.mk (some 58) (AOp.load false 1 (AX.t 57)) (some (54,true))),(AI.mk (some 59) (AOp.bin BinOp.eql 3 false (Operand.tmp 56) (Operand.tmp 58) (AX.t 56) (AX.t 58)) (some (54,true))),(AI.mk (some 60) (AOp.pick (AX.t 54) (AX.t 59) (AX.c (AV.v (Value.bool false)))) none),(AI.mk (some 61) (AOp.mv (AX.t 60)) none),(AI.mk (some 62) (AOp.fad 8 (AX.t 2)) (some (61,true))),(AI.mk (some 63) (AOp.load false 1 (AX.t 62)) (some (61,true))),(AI.mk (some 64) (AOp.fad 8 (AX.t 3)) (some (61,true))),(AI.mk (some 65) (AOp.load false 1 (AX.t 64)) (some (61,true))),(AI.mk (some 66) (AOp.bin BinOp.eql 3 false (Operand.tmp 63) (Operand.tmp 65) (AX.t 63) (AX.t 65)) (some (61,true))),(AI.mk (some 67) (AOp.pick (AX.t 61) (AX.t 66) (AX.c (AV.v (Value.bool false)))) none),(AI.mk (some 4) (AOp.mv (AX.t 67)) none)]) AC.ret)))
theorem cop116:zJ Tryz.prog zf 116=some A116:=by kernel_rfl
def rA117:=rdT (x:=zJ Tryz.prog zf 117)
def A117:AF:=rA117.1
theorem cop117:zJ Tryz.prog zf 117=some A117:=rA117.2
def A118:AF:=(AF.mk 44 [(2,none)] (AC.seq (AC.region [(AI.mk (some 2) (AOp.mv (AX.c (AV.nl 2))) none)]) (AC.seq (AC.seq (AC.region [(AI.mk (some 7) (AOp.mv (AX.t 0)) none),(AI.mk (some 8) (AOp.call 121 [(AX.t 7)]) none)]) (AC.cond (AX.t 8) (AC.seq (AC.region [(AI.mk (some 9) (AOp.mv (AX.t 0)) none),(AI.mk (some 10) (AOp.callh 122 [(AX.t 9)]) none),(AI.mk (some 2) (AOp.mv (AX.t 10)) none)]) AC.ret) AC.skip)) (AC.seq (AC.region [(AI.mk (some 11) (AOp.mv (AX.t 0)) none),(AI.mk (some 12) (AOp.callh 122 [(AX.t 11)]) none),(AI.mk (some 3) (AOp.mv (AX.t 12)) none)]) (AC.seq (AC.region [(AI.mk (some 13) (AOp.mv (AX.t 3)) none),(AI.mk (some 14) (AOp.callh 123 [(AX.t 13),(AX.c (AV.v (Value.func (Go.Fn.func 124) #[] #[])))]) none)]) (AC.seq (AC.region [(AI.mk (some 4) (AOp.mv (AX.c (AV.nl 2))) none)]) (AC.seq (AC.seq (AC.region [(AI.mk (some 15) (AOp.mv (AX.t 3)) none),(AI.mk (some 16) (AOp.len (AX.t 15)) none),(AI.mk (some 17) (AOp.mv (AX.c (AV.v (Value.int IntKind.i64 0)))) none)]) (AC.block 0 (AC.loop (AC.seq (AC.region [(AI.mk (some 18) (AOp.bin BinOp.lss 3 false (Operand.tmp 17) (Operand.tmp 16) (AX.t 17) (AX.t 16)) none)]) (AC.seq (AC.cond (AX.t 18) AC.skip (AC.exit 0)) (AC.seq (AC.block 1 (AC.seq (AC.region [(AI.mk (some 19) (AOp.mv (AX.t 17)) none),(AI.mk (some 20) (AOp.iad 2 (AX.t 15) (AX.t 17)) none),(AI.mk (some 21) (AOp.load true 2 (AX.t 20)) none),(AI.mk (some 6) (AOp.new 31 2 (AX.c (AV.agg [(AV.v (Value.string (ByteArray.mk #[]))),(AV.v (Value.string (ByteArray.mk #[])))]))) none),(AI.mk (some 5) (AOp.mv (AX.t 19)) none),(AI.mk none (AOp.store 2 (AX.t 6) (AX.t 21)) none)]) (AC.seq (AC.draw [(AI.mk (some 22) (AOp.mv (AX.t 5)) none),(AI.mk (some 23) (AOp.bin BinOp.add 3 false (Operand.tmp 22) (Operand.const (Value.int IntKind.i64 1)) (AX.t 22) (AX.c (AV.v (Value.int IntKind.i64 1)))) none),(AI.mk (some 24) (AOp.mv (AX.t 3)) none),(AI.mk (some 25) (AOp.len (AX.t 24)) none),(AI.mk (some 26) (AOp.bin BinOp.eql 3 false (Operand.tmp 23) (Operand.tmp 25) (AX.t 23) (AX.t 25)) none),(AI.mk (some 27) (AOp.mv (AX.t 26)) none),(AI.mk (some 28) (AOp.mv (AX.t 3)) (some (27,false))),(AI.mk (some 29) (AOp.mv (AX.t 5)) (some (27,false))),(AI.mk (some 30) (AOp.bin BinOp.add 3 false (Operand.tmp 29) (Operand.const (Value.int IntKind.i64 1)) (AX.t 29) (AX.c (AV.v (Value.int IntKind.i64 1)))) (some (27,false))),(AI.mk (some 31) (AOp.iad 2 (AX.t 28) (AX.t 30)) (some (27,false))),(AI.mk (some 32) (AOp.fad 0 (AX.t 31)) (some (27,false))),(AI.mk (some 33) (AOp.load false 1 (AX.t 32)) (some (27,false))),(AI.mk (some 34) (AOp.fad 0 (AX.t 6)) (some (27,false))),(AI.mk (some 35) (AOp.load false 1 (AX.t 34)) (some (27,false))),(AI.mk (some 36) (AOp.bin BinOp.neq 9 false (Operand.tmp 33) (Operand.tmp 35) (AX.t 33) (AX.t 35)) (some (27,false))),(AI.mk (some 37) (AOp.pick (AX.t 27) (AX.c (AV.v (Value.bool true))) (AX.t 36)) none)]) (AC.cond (AX.t 37) (AC.region [(AI.mk (some 38) (AOp.mv (AX.t 4)) none),(AI.mk (some 39) (AOp.load true 2 (AX.t 6)) none),(AI.mk (some 40) (AOp.bsl 31 2 [(AX.t 39)]) none),(AI.mk (some 41) (AOp.app 31 2 32 (AX.t 38) (AX.t 40)) none),(AI.mk (some 4) (AOp.mv (AX.t 41)) none)]) AC.skip)))) (AC.region [(AI.mk (some 42) (AOp.bin BinOp.add 3 false (Operand.tmp 17) (Operand.const (Value.int IntKind.i64 1)) (AX.t 17) (AX.c (AV.v (Value.int IntKind.i64 1)))) none),(AI.mk (some 17) (AOp.mv (AX.t 42)) none)]))))))) (AC.seq (AC.region [(AI.mk (some 43) (AOp.mv (AX.t 4)) none),(AI.mk (some 2) (AOp.mv (AX.t 43)) none)]) AC.ret))))))))
theorem cop118:zJ Tryz.prog zf 118=some A118:=by kernel_rfl
def A119:AF:=(AF.mk 26 [(4,none)] (AC.seq (AC.region [(AI.mk (some 4) (AOp.mv (AX.c (AV.v (Value.bool false)))) none)]) (AC.seq (AC.seq (AC.region [(AI.mk (some 6) (AOp.mv (AX.t 0)) none),(AI.mk (some 7) (AOp.len (AX.t 6)) none),(AI.mk (some 8) (AOp.mv (AX.t 1)) none),(AI.mk (some 9) (AOp.len (AX.t 8)) none),(AI.mk (some 10) (AOp.bin BinOp.neq 3 false (Operand.tmp 7) (Operand.tmp 9) (AX.t 7) (AX.t 9)) none)]) (AC.cond (AX.t 10) (AC.seq (AC.region [(AI.mk (some 4) (AOp.mv (AX.c (AV.v (Value.bool false)))) none)]) AC.ret) AC.skip)) (AC.seq (AC.seq (AC.region [(AI.mk (some 11) (AOp.mv (AX.t 0)) none),(AI.mk (some 12) (AOp.len (AX.t 11)) none),(AI.mk (some 13) (AOp.mv (AX.c (AV.v (Value.int IntKind.i64 0)))) none)]) (AC.block 0 (AC.loop (AC.seq (AC.region [(AI.mk (some 14) (AOp.bin BinOp.lss 3 false (Operand.tmp 13) (Operand.tmp 12) (AX.t 13) (AX.t 12)) none)]) (AC.seq (AC.cond (AX.t 14) AC.skip (AC.exit 0)) (AC.seq (AC.block 1 (AC.seq (AC.region [(AI.mk (some 15) (AOp.mv (AX.t 13)) none),(AI.mk (some 5) (AOp.mv (AX.t 15)) none)]) (AC.seq (AC.draw [(AI.mk (some 16) (AOp.mv (AX.t 0)) none),(AI.mk (some 17) (AOp.mv (AX.t 5)) none),(AI.mk (some 18) (AOp.iad 1 (AX.t 16) (AX.t 17)) none),(AI.mk (some 19) (AOp.load false 1 (AX.t 18)) none),(AI.mk (some 20) (AOp.mv (AX.t 1)) none),(AI.mk (some 21) (AOp.mv (AX.t 5)) none),(AI.mk (some 22) (AOp.iad 1 (AX.t 20) (AX.t 21)) none),(AI.mk (some 23) (AOp.load false 1 (AX.t 22)) none),(AI.mk (some 24) (AOp.bin BinOp.neq 27 false (Operand.tmp 19) (Operand.tmp 23) (AX.t 19) (AX.t 23)) none)]) (AC.cond (AX.t 24) (AC.seq (AC.region [(AI.mk (some 4) (AOp.mv (AX.c (AV.v (Value.bool false)))) none)]) AC.ret) AC.skip)))) (AC.region [(AI.mk (some 25) (AOp.bin BinOp.add 3 false (Operand.tmp 13) (Operand.const (Value.int IntKind.i64 1)) (AX.t 13) (AX.c (AV.v (Value.int IntKind.i64 1)))) none),(AI.mk (some 13) (AOp.mv (AX.t 25)) none)]))))))) (AC.seq (AC.region [(AI.mk (some 4) (AOp.mv (AX.c (AV.v (Value.bool true)))) none)]) AC.ret)))))
theorem cop119:zJ Tryz.prog zf 119=some A119:=by kernel_rfl
def A120:AF:=(AF.mk 26 [(4,none)] (AC.seq (AC.region [(AI.mk (some 4) (AOp.mv (AX.c (AV.v (Value.bool false)))) none)]) (AC.seq (AC.seq (AC.region [(AI.mk (some 6) (AOp.mv (AX.t 0)) none),(AI.mk (some 7) (AOp.len (AX.t 6)) none),(AI.mk (some 8) (AOp.mv (AX.t 1)) none),(AI.mk (some 9) (AOp.len (AX.t 8)) none),(AI.mk (some 10) (AOp.bin BinOp.neq 3 false (Operand.tmp 7) (Operand.tmp 9) (AX.t 7) (AX.t 9)) none)]) (AC.cond (AX.t 10) (AC.seq (AC.region [(AI.mk (some 4) (AOp.mv (AX.c (AV.v (Value.bool false)))) none)]) AC.ret) AC.skip)) (AC.seq (AC.seq (AC.region [(AI.mk (some 11) (AOp.mv (AX.t 0)) none),(AI.mk (some 12) (AOp.len (AX.t 11)) none),(AI.mk (some 13) (AOp.mv (AX.c (AV.v (Value.int IntKind.i64 0)))) none)]) (AC.block 0 (AC.loop (AC.seq (AC.region [(AI.mk (some 14) (AOp.bin BinOp.lss 3 false (Operand.tmp 13) (Operand.tmp 12) (AX.t 13) (AX.t 12)) none)]) (AC.seq (AC.cond (AX.t 14) AC.skip (AC.exit 0)) (AC.seq (AC.block 1 (AC.seq (AC.region [(AI.mk (some 15) (AOp.mv (AX.t 13)) none),(AI.mk (some 5) (AOp.mv (AX.t 15)) none)]) (AC.seq (AC.draw [(AI.mk (some 16) (AOp.mv (AX.t 0)) none),(AI.mk (some 17) (AOp.mv (AX.t 5)) none),(AI.mk (some 18) (AOp.iad 2 (AX.t 16) (AX.t 17)) none),(AI.mk (some 19) (AOp.load true 2 (AX.t 18)) none),(AI.mk (some 20) (AOp.mv (AX.t 1)) none),(AI.mk (some 21) (AOp.mv (AX.t 5)) none),(AI.mk (some 22) (AOp.iad 2 (AX.t 20) (AX.t 21)) none),(AI.mk (some 23) (AOp.load true 2 (AX.t 22)) none),(AI.mk (some 24) (AOp.eqs true [Kd.s,Kd.s] (AX.t 19) (AX.t 23)) none)]) (AC.cond (AX.t 24) (AC.seq (AC.region [(AI.mk (some 4) (AOp.mv (AX.c (AV.v (Value.bool false)))) none)]) AC.ret) AC.skip)))) (AC.region [(AI.mk (some 25) (AOp.bin BinOp.add 3 false (Operand.tmp 13) (Operand.const (Value.int IntKind.i64 1)) (AX.t 13) (AX.c (AV.v (Value.int IntKind.i64 1)))) none),(AI.mk (some 13) (AOp.mv (AX.t 25)) none)]))))))) (AC.seq (AC.region [(AI.mk (some 4) (AOp.mv (AX.c (AV.v (Value.bool true)))) none)]) AC.ret)))))
theorem cop120:zJ Tryz.prog zf 120=some A120:=by kernel_rfl
def A121:AF:=(AF.mk 24 [(2,none)] (AC.seq (AC.region [(AI.mk (some 2) (AOp.mv (AX.c (AV.v (Value.bool false)))) none)]) (AC.seq (AC.seq (AC.region [(AI.mk (some 4) (AOp.mv (AX.t 0)) none),(AI.mk (some 5) (AOp.len (AX.t 4)) none),(AI.mk (some 6) (AOp.bin BinOp.sub 3 false (Operand.tmp 5) (Operand.const (Value.int IntKind.i64 1)) (AX.t 5) (AX.c (AV.v (Value.int IntKind.i64 1)))) none),(AI.mk (some 7) (AOp.mv (AX.c (AV.v (Value.int IntKind.i64 0)))) none)]) (AC.block 0 (AC.loop (AC.seq (AC.region [(AI.mk (some 8) (AOp.bin BinOp.lss 3 false (Operand.tmp 7) (Operand.tmp 6) (AX.t 7) (AX.t 6)) none)]) (AC.seq (AC.cond (AX.t 8) AC.skip (AC.exit 0)) (AC.seq (AC.block 1 (AC.seq (AC.region [(AI.mk (some 9) (AOp.mv (AX.t 7)) none),(AI.mk (some 3) (AOp.mv (AX.t 9)) none)]) (AC.seq (AC.draw [(AI.mk (some 10) (AOp.mv (AX.t 0)) none),(AI.mk (some 11) (AOp.mv (AX.t 3)) none),(AI.mk (some 12) (AOp.iad 2 (AX.t 10) (AX.t 11)) none),(AI.mk (some 13) (AOp.fad 0 (AX.t 12)) none),(AI.mk (some 14) (AOp.load false 1 (AX.t 13)) none),(AI.mk (some 15) (AOp.mv (AX.t 0)) none),(AI.mk (some 16) (AOp.mv (AX.t 3)) none),(AI.mk (some 17) (AOp.bin BinOp.add 3 false (Operand.tmp 16) (Operand.const (Value.int IntKind.i64 1)) (AX.t 16) (AX.c (AV.v (Value.int IntKind.i64 1)))) none),(AI.mk (some 18) (AOp.iad 2 (AX.t 15) (AX.t 17)) none),(AI.mk (some 19) (AOp.fad 0 (AX.t 18)) none),(AI.mk (some 20) (AOp.load false 1 (AX.t 19)) none),(AI.mk (some 21) (AOp.call 38 [(AX.t 14),(AX.t 20)]) none),(AI.mk (some 22) (AOp.bin BinOp.geq 3 false (Operand.tmp 21) (Operand.const (Value.int IntKind.i64 0)) (AX.t 21) (AX.c (AV.v (Value.int IntKind.i64 0)))) none)]) (AC.cond (AX.t 22) (AC.seq (AC.region [(AI.mk (some 2) (AOp.mv (AX.c (AV.v (Value.bool false)))) none)]) AC.ret) AC.skip)))) (AC.region [(AI.mk (some 23) (AOp.bin BinOp.add 3 false (Operand.tmp 7) (Operand.const (Value.int IntKind.i64 1)) (AX.t 7) (AX.c (AV.v (Value.int IntKind.i64 1)))) none),(AI.mk (some 7) (AOp.mv (AX.t 23)) none)]))))))) (AC.seq (AC.region [(AI.mk (some 2) (AOp.mv (AX.c (AV.v (Value.bool true)))) none)]) AC.ret))))
theorem cop121:zJ Tryz.prog zf 121=some A121:=by kernel_rfl
def A122:AF:=(AF.mk 8 [(2,none)] (AC.seq (AC.region [(AI.mk (some 2) (AOp.mv (AX.c (AV.nl 2))) none)]) (AC.seq (AC.seq (AC.region [(AI.mk (some 3) (AOp.mv (AX.t 0)) none),(AI.mk (some 4) (AOp.bin BinOp.eql 37 false (Operand.tmp 3) (Operand.const (Value.slice none 0 0)) (AX.t 3) (AX.c (AV.nl 2))) none)]) (AC.cond (AX.t 4) (AC.seq (AC.region [(AI.mk (some 2) (AOp.mv (AX.c (AV.nl 2))) none)]) AC.ret) AC.skip)) (AC.seq (AC.region [(AI.mk (some 5) (AOp.bsl 31 2 []) none),(AI.mk (some 6) (AOp.mv (AX.t 0)) none),(AI.mk (some 7) (AOp.apf 31 2 32 (AX.t 5) (AX.t 6)) none),(AI.mk (some 2) (AOp.mv (AX.t 7)) none)]) AC.ret))))
theorem cop122:zJ Tryz.prog zf 122=some A122:=by kernel_rfl
def A123:AF:=(AF.mk 9 [] (AC.region [(AI.mk (some 4) (AOp.mv (AX.t 0)) none),(AI.mk (some 5) (AOp.mv (AX.t 0)) none),(AI.mk (some 6) (AOp.len (AX.t 5)) none),(AI.mk (some 7) (AOp.mv (AX.t 1)) none),(AI.mk (some 8) (AOp.callh 125 [(AX.t 4),(AX.t 6),(AX.t 7)]) none)]))
theorem cop123:zJ Tryz.prog zf 123=some A123:=by kernel_rfl
def A124:AF:=(AF.mk 10 [(4,none)] (AC.seq (AC.region [(AI.mk (some 2) (AOp.new 31 2 (AX.t 0)) none),(AI.mk (some 3) (AOp.new 31 2 (AX.t 1)) none),(AI.mk (some 4) (AOp.mv (AX.c (AV.v (Value.int IntKind.i64 0)))) none)]) (AC.seq (AC.region [(AI.mk (some 5) (AOp.fad 0 (AX.t 2)) none),(AI.mk (some 6) (AOp.load false 1 (AX.t 5)) none),(AI.mk (some 7) (AOp.fad 0 (AX.t 3)) none),(AI.mk (some 8) (AOp.load false 1 (AX.t 7)) none),(AI.mk (some 9) (AOp.call 38 [(AX.t 6),(AX.t 8)]) none),(AI.mk (some 4) (AOp.mv (AX.t 9)) none)]) AC.ret)))
theorem cop124:zJ Tryz.prog zf 124=some A124:=by kernel_rfl
def A125:AF:=(AF.mk 63 [] (AC.seq (AC.region [(AI.mk (some 6) (AOp.mv (AX.c (AV.v (Value.int IntKind.i64 20)))) none)]) (AC.seq (AC.region [(AI.mk (some 10) (AOp.mv (AX.t 6)) none),(AI.mk (some 7) (AOp.mv (AX.c (AV.v (Value.int IntKind.i64 0)))) none),(AI.mk (some 8) (AOp.mv (AX.t 10)) none)]) (AC.seq (AC.block 0 (AC.loop (AC.seq (AC.seq (AC.region [(AI.mk (some 11) (AOp.mv (AX.t 8)) none),(AI.mk (some 12) (AOp.mv (AX.t 1)) none),(AI.mk (some 13) (AOp.bin BinOp.leq 3 false (Operand.tmp 11) (Operand.tmp 12) (AX.t 11) (AX.t 12)) none)]) (AC.cond (AX.t 13) AC.skip (AC.exit 0))) (AC.block 1 (AC.seq (AC.region [(AI.mk (some 14) (AOp.mv (AX.t 0)) none),(AI.mk (some 15) (AOp.mv (AX.t 7)) none),(AI.mk (some 16) (AOp.mv (AX.t 8)) none),(AI.mk (some 17) (AOp.mv (AX.t 2)) none),(AI.mk (some 18) (AOp.callh 126 [(AX.t 14),(AX.t 15),(AX.t 16),(AX.t 17)]) none)]) (AC.seq (AC.region [(AI.mk (some 19) (AOp.mv (AX.t 8)) none),(AI.mk (some 7) (AOp.mv (AX.t 19)) none)]) (AC.region [(AI.mk (some 20) (AOp.mv (AX.t 8)) none),(AI.mk (some 21) (AOp.mv (AX.t 6)) none),(AI.mk (some 22) (AOp.bin BinOp.add 3 false (Operand.tmp 20) (Operand.tmp 21) (AX.t 20) (AX.t 21)) none),(AI.mk (some 8) (AOp.mv (AX.t 22)) none)]))))))) (AC.seq (AC.region [(AI.mk (some 23) (AOp.mv (AX.t 0)) none),(AI.mk (some 24) (AOp.mv (AX.t 7)) none),(AI.mk (some 25) (AOp.mv (AX.t 1)) none),(AI.mk (some 26) (AOp.mv (AX.t 2)) none),(AI.mk (some 27) (AOp.callh 126 [(AX.t 23),(AX.t 24),(AX.t 25),(AX.t 26)]) none)]) (AC.block 2 (AC.loop (AC.seq (AC.seq (AC.region [(AI.mk (some 28) (AOp.mv (AX.t 6)) none),(AI.mk (some 29) (AOp.mv (AX.t 1)) none),(AI.mk (some 30) (AOp.bin BinOp.lss 3 false (Operand.tmp 28) (Operand.tmp 29) (AX.t 28) (AX.t 29)) none)]) (AC.cond (AX.t 30) AC.skip (AC.exit 2))) (AC.block 3 (AC.seq (AC.region [(AI.mk (some 31) (AOp.mv (AX.t 6)) none),(AI.mk (some 32) (AOp.bin BinOp.mul 3 false (Operand.const (Value.int IntKind.i64 2)) (Operand.tmp 31) (AX.c (AV.v (Value.int IntKind.i64 2))) (AX.t 31)) none),(AI.mk (some 7) (AOp.mv (AX.c (AV.v (Value.int IntKind.i64 0)))) none),(AI.mk (some 8) (AOp.mv (AX.t 32)) none)]) (AC.seq (AC.block 4 (AC.loop (AC.seq (AC.seq (AC.region [(AI.mk (some 33) (AOp.mv (AX.t 8)) none),(AI.mk (some 34) (AOp.mv (AX.t 1)) none),(AI.mk (some 35) (AOp.bin BinOp.leq 3 false (Operand.tmp 33) (Operand.tmp 34) (AX.t 33) (AX.t 34)) none)]) (AC.cond (AX.t 35) AC.skip (AC.exit 4))) (AC.block 5 (AC.seq (AC.region [(AI.mk (some 36) (AOp.mv (AX.t 0)) none),(AI.mk (some 37) (AOp.mv (AX.t 7)) none),(AI.mk (some 38) (AOp.mv (AX.t 7)) none),(AI.mk (some 39) (AOp.mv (AX.t 6)) none),(AI.mk (some 40) (AOp.bin BinOp.add 3 false (Operand.tmp 38) (Operand.tmp 39) (AX.t 38) (AX.t 39)) none),(AI.mk (some 41) (AOp.mv (AX.t 8)) none),(AI.mk (some 42) (AOp.mv (AX.t 2)) none),(AI.mk (some 43) (AOp.callh 127 [(AX.t 36),(AX.t 37),(AX.t 40),(AX.t 41),(AX.t 42)]) none)]) (AC.seq (AC.region [(AI.mk (some 44) (AOp.mv (AX.t 8)) none),(AI.mk (some 7) (AOp.mv (AX.t 44)) none)]) (AC.region [(AI.mk (some 45) (AOp.mv (AX.t 8)) none),(AI.mk (some 46) (AOp.mv (AX.t 6)) none),(AI.mk (some 47) (AOp.bin BinOp.mul 3 false (Operand.const (Value.int IntKind.i64 2)) (Operand.tmp 46) (AX.c (AV.v (Value.int IntKind.i64 2))) (AX.t 46)) none),(AI.mk (some 48) (AOp.bin BinOp.add 3 false (Operand.tmp 45) (Operand.tmp 47) (AX.t 45) (AX.t 47)) none),(AI.mk (some 8) (AOp.mv (AX.t 48)) none)]))))))) (AC.seq (AC.seq (AC.region [(AI.mk (some 49) (AOp.mv (AX.t 7)) none),(AI.mk (some 50) (AOp.mv (AX.t 6)) none),(AI.mk (some 51) (AOp.bin BinOp.add 3 false (Operand.tmp 49) (Operand.tmp 50) (AX.t 49) (AX.t 50)) none),(AI.mk (some 9) (AOp.mv (AX.t 51)) none)]) (AC.seq (AC.region [(AI.mk (some 52) (AOp.mv (AX.t 9)) none),(AI.mk (some 53) (AOp.mv (AX.t 1)) none),(AI.mk (some 54) (AOp.bin BinOp.lss 3 false (Operand.tmp 52) (Operand.tmp 53) (AX.t 52) (AX.t 53)) none)]) (AC.cond (AX.t 54) (AC.region [(AI.mk (some 55) (AOp.mv (AX.t 0)) none),(AI.mk (some 56) (AOp.mv (AX.t 7)) none),(AI.mk (some 57) (AOp.mv (AX.t 9)) none),(AI.mk (some 58) (AOp.mv (AX.t 1)) none),(AI.mk (some 59) (AOp.mv (AX.t 2)) none),(AI.mk (some 60) (AOp.callh 127 [(AX.t 55),(AX.t 56),(AX.t 57),(AX.t 58),(AX.t 59)]) none)]) AC.skip))) (AC.region [(AI.mk (some 61) (AOp.mv (AX.t 6)) none),(AI.mk (some 62) (AOp.bin BinOp.mul 3 false (Operand.tmp 61) (Operand.const (Value.int IntKind.i64 2)) (AX.t 61) (AX.c (AV.v (Value.int IntKind.i64 2)))) none),(AI.mk (some 6) (AOp.mv (AX.t 62)) none)])))))))))))))
theorem wC:zJ Tryz.prog zf 125=some A125:=by kernel_rfl
def A126:AF:=(AF.mk 53 [] (AC.seq (AC.region [(AI.mk (some 10) (AOp.mv (AX.t 1)) none),(AI.mk (some 11) (AOp.bin BinOp.add 3 false (Operand.tmp 10) (Operand.const (Value.int IntKind.i64 1)) (AX.t 10) (AX.c (AV.v (Value.int IntKind.i64 1)))) none),(AI.mk (some 8) (AOp.mv (AX.t 11)) none)]) (AC.block 0 (AC.loop (AC.seq (AC.seq (AC.region [(AI.mk (some 12) (AOp.mv (AX.t 8)) none),(AI.mk (some 13) (AOp.mv (AX.t 2)) none),(AI.mk (some 14) (AOp.bin BinOp.lss 3 false (Operand.tmp 12) (Operand.tmp 13) (AX.t 12) (AX.t 13)) none)]) (AC.cond (AX.t 14) AC.skip (AC.exit 0))) (AC.seq (AC.block 1 (AC.seq (AC.region [(AI.mk (some 17) (AOp.mv (AX.t 8)) none),(AI.mk (some 9) (AOp.mv (AX.t 17)) none)]) (AC.block 2 (AC.loop (AC.seq (AC.seq (AC.draw [(AI.mk (some 18) (AOp.mv (AX.t 9)) none),(AI.mk (some 19) (AOp.mv (AX.t 1)) none),(AI.mk (some 20) (AOp.bin BinOp.gtr 3 false (Operand.tmp 18) (Operand.tmp 19) (AX.t 18) (AX.t 19)) none),(AI.mk (some 21) (AOp.mv (AX.t 20)) none),(AI.mk (some 22) (AOp.mv (AX.t 3)) (some (21,true))),(AI.mk (some 23) (AOp.mv (AX.t 0)) (some (21,true))),(AI.mk (some 24) (AOp.mv (AX.t 9)) (some (21,true))),(AI.mk (some 25) (AOp.iad 2 (AX.t 23) (AX.t 24)) (some (21,true))),(AI.mk (some 26) (AOp.load true 2 (AX.t 25)) (some (21,true))),(AI.mk (some 27) (AOp.mv (AX.t 0)) (some (21,true))),(AI.mk (some 28) (AOp.mv (AX.t 9)) (some (21,true))),(AI.mk (some 29) (AOp.bin BinOp.sub 3 false (Operand.tmp 28) (Operand.const (Value.int IntKind.i64 1)) (AX.t 28) (AX.c (AV.v (Value.int IntKind.i64 1)))) (some (21,true))),(AI.mk (some 30) (AOp.iad 2 (AX.t 27) (AX.t 29)) (some (21,true))),(AI.mk (some 31) (AOp.load true 2 (AX.t 30)) (some (21,true))),(AI.mk (some 32) (AOp.callv (AX.t 22) [(AX.t 26),(AX.t 31)]) (some (21,true))),(AI.mk (some 33) (AOp.bin BinOp.lss 3 false (Operand.tmp 32) (Operand.const (Value.int IntKind.i64 0)) (AX.t 32) (AX.c (AV.v (Value.int IntKind.i64 0)))) (some (21,true))),(AI.mk (some 34) (AOp.pick (AX.t 21) (AX.t 33) (AX.c (AV.v (Value.bool false)))) none)]) (AC.cond (AX.t 34) AC.skip (AC.exit 2))) (AC.seq (AC.block 3 (AC.drawx [[(AI.mk (some 37) (AOp.mv (AX.t 0)) none),(AI.mk (some 38) (AOp.mv (AX.t 9)) none),(AI.mk (some 39) (AOp.mv (AX.t 0)) none),(AI.mk (some 40) (AOp.mv (AX.t 9)) none),(AI.mk (some 41) (AOp.bin BinOp.sub 3 false (Operand.tmp 40) (Operand.const (Value.int IntKind.i64 1)) (AX.t 40) (AX.c (AV.v (Value.int IntKind.i64 1)))) none),(AI.mk (some 42) (AOp.mv (AX.t 0)) none),(AI.mk (some 43) (AOp.mv (AX.t 9)) none),(AI.mk (some 44) (AOp.bin BinOp.sub 3 false (Operand.tmp 43) (Operand.const (Value.int IntKind.i64 1)) (AX.t 43) (AX.c (AV.v (Value.int IntKind.i64 1)))) none),(AI.mk (some 45) (AOp.iad 2 (AX.t 42) (AX.t 44)) none),(AI.mk (some 46) (AOp.load true 2 (AX.t 45)) none),(AI.mk (some 47) (AOp.mv (AX.t 0)) none),(AI.mk (some 48) (AOp.mv (AX.t 9)) none),(AI.mk (some 49) (AOp.iad 2 (AX.t 47) (AX.t 48)) none),(AI.mk (some 50) (AOp.load true 2 (AX.t 49)) none),(AI.mk (some 51) (AOp.iad 2 (AX.t 37) (AX.t 38)) none),(AI.mk none (AOp.store 2 (AX.t 51) (AX.t 46)) none),(AI.mk (some 52) (AOp.iad 2 (AX.t 39) (AX.t 41)) none),(AI.mk none (AOp.store 2 (AX.t 52) (AX.t 50)) none)],[(AI.mk (some 37) (AOp.mv (AX.t 0)) none),(AI.mk (some 38) (AOp.mv (AX.t 9)) none),(AI.mk (some 39) (AOp.mv (AX.t 0)) none),(AI.mk (some 40) (AOp.mv (AX.t 9)) none),(AI.mk (some 42) (AOp.mv (AX.t 0)) none),(AI.mk (some 43) (AOp.mv (AX.t 9)) none),(AI.mk (some 44) (AOp.bin BinOp.sub 3 false (Operand.tmp 43) (Operand.const (Value.int IntKind.i64 1)) (AX.t 43) (AX.c (AV.v (Value.int IntKind.i64 1)))) none),(AI.mk (some 45) (AOp.iad 2 (AX.t 42) (AX.t 44)) none),(AI.mk (some 46) (AOp.load true 2 (AX.t 45)) none),(AI.mk (some 47) (AOp.mv (AX.t 0)) none),(AI.mk (some 48) (AOp.mv (AX.t 9)) none),(AI.mk (some 49) (AOp.iad 2 (AX.t 47) (AX.t 48)) none),(AI.mk (some 50) (AOp.load true 2 (AX.t 49)) none),(AI.mk (some 51) (AOp.iad 2 (AX.t 37) (AX.t 38)) none),(AI.mk none (AOp.store 2 (AX.t 51) (AX.t 46)) none),(AI.mk (some 41) (AOp.bin BinOp.sub 3 false (Operand.tmp 40) (Operand.const (Value.int IntKind.i64 1)) (AX.t 40) (AX.c (AV.v (Value.int IntKind.i64 1)))) none),(AI.mk (some 52) (AOp.iad 2 (AX.t 39) (AX.t 41)) none),(AI.mk none (AOp.store 2 (AX.t 52) (AX.t 50)) none)]])) (AC.region [(AI.mk (some 35) (AOp.mv (AX.t 9)) none),(AI.mk (some 36) (AOp.bin BinOp.sub 3 false (Operand.tmp 35) (Operand.const (Value.int IntKind.i64 1)) (AX.t 35) (AX.c (AV.v (Value.int IntKind.i64 1)))) none),(AI.mk (some 9) (AOp.mv (AX.t 36)) none)]))))))) (AC.region [(AI.mk (some 15) (AOp.mv (AX.t 8)) none),(AI.mk (some 16) (AOp.bin BinOp.add 3 false (Operand.tmp 15) (Operand.const (Value.int IntKind.i64 1)) (AX.t 15) (AX.c (AV.v (Value.int IntKind.i64 1)))) none),(AI.mk (some 8) (AOp.mv (AX.t 16)) none)])))))))
theorem cop126:zJ Tryz.prog zf 126=some A126:=by kernel_rfl
def A127:AF:=(AF.mk 220 [] (AC.seq (AC.seq (AC.region [(AI.mk (some 25) (AOp.mv (AX.t 2)) none),(AI.mk (some 26) (AOp.mv (AX.t 1)) none),(AI.mk (some 27) (AOp.bin BinOp.sub 3 false (Operand.tmp 25) (Operand.tmp 26) (AX.t 25) (AX.t 26)) none),(AI.mk (some 28) (AOp.bin BinOp.eql 3 false (Operand.tmp 27) (Operand.const (Value.int IntKind.i64 1)) (AX.t 27) (AX.c (AV.v (Value.int IntKind.i64 1)))) none)]) (AC.cond (AX.t 28) (AC.seq (AC.region [(AI.mk (some 29) (AOp.mv (AX.t 2)) none),(AI.mk (some 10) (AOp.mv (AX.t 29)) none)]) (AC.seq (AC.region [(AI.mk (some 30) (AOp.mv (AX.t 3)) none),(AI.mk (some 11) (AOp.mv (AX.t 30)) none)]) (AC.seq (AC.block 0 (AC.loop (AC.seq (AC.seq (AC.region [(AI.mk (some 31) (AOp.mv (AX.t 10)) none),(AI.mk (some 32) (AOp.mv (AX.t 11)) none),(AI.mk (some 33) (AOp.bin BinOp.lss 3 false (Operand.tmp 31) (Operand.tmp 32) (AX.t 31) (AX.t 32)) none)]) (AC.cond (AX.t 33) AC.skip (AC.exit 0))) (AC.block 1 (AC.seq (AC.region [(AI.mk (some 34) (AOp.mv (AX.t 10)) none),(AI.mk (some 35) (AOp.mv (AX.t 11)) none),(AI.mk (some 36) (AOp.bin BinOp.add 3 false (Operand.tmp 34) (Operand.tmp 35) (AX.t 34) (AX.t 35)) none),(AI.mk (some 37) (AOp.cv 3 141 (AX.t 36)) none),(AI.mk (some 38) (AOp.bin BinOp.shr 141 false (Operand.tmp 37) (Operand.const (Value.int IntKind.u64 1)) (AX.t 37) (AX.c (AV.v (Value.int IntKind.u64 1)))) none),(AI.mk (some 39) (AOp.cv 141 3 (AX.t 38)) none),(AI.mk (some 12) (AOp.mv (AX.t 39)) none)]) (AC.seq (AC.draw [(AI.mk (some 40) (AOp.mv (AX.t 4)) none),(AI.mk (some 41) (AOp.mv (AX.t 0)) none),(AI.mk (some 42) (AOp.mv (AX.t 12)) none),(AI.mk (some 43) (AOp.iad 2 (AX.t 41) (AX.t 42)) none),(AI.mk (some 44) (AOp.load true 2 (AX.t 43)) none),(AI.mk (some 45) (AOp.mv (AX.t 0)) none),(AI.mk (some 46) (AOp.mv (AX.t 1)) none),(AI.mk (some 47) (AOp.iad 2 (AX.t 45) (AX.t 46)) none),(AI.mk (some 48) (AOp.load true 2 (AX.t 47)) none),(AI.mk (some 49) (AOp.callv (AX.t 40) [(AX.t 44),(AX.t 48)]) none),(AI.mk (some 50) (AOp.bin BinOp.lss 3 false (Operand.tmp 49) (Operand.const (Value.int IntKind.i64 0)) (AX.t 49) (AX.c (AV.v (Value.int IntKind.i64 0)))) none)]) (AC.cond (AX.t 50) (AC.region [(AI.mk (some 51) (AOp.mv (AX.t 12)) none),(AI.mk (some 52) (AOp.bin BinOp.add 3 false (Operand.tmp 51) (Operand.const (Value.int IntKind.i64 1)) (AX.t 51) (AX.c (AV.v (Value.int IntKind.i64 1)))) none),(AI.mk (some 10) (AOp.mv (AX.t 52)) none)]) (AC.region [(AI.mk (some 53) (AOp.mv (AX.t 12)) none),(AI.mk (some 11) (AOp.mv (AX.t 53)) none)])))))))) (AC.seq (AC.seq (AC.region [(AI.mk (some 54) (AOp.mv (AX.t 1)) none),(AI.mk (some 13) (AOp.mv (AX.t 54)) none)]) (AC.block 2 (AC.loop (AC.seq (AC.seq (AC.region [(AI.mk (some 55) (AOp.mv (AX.t 13)) none),(AI.mk (some 56) (AOp.mv (AX.t 10)) none),(AI.mk (some 57) (AOp.bin BinOp.sub 3 false (Operand.tmp 56) (Operand.const (Value.int IntKind.i64 1)) (AX.t 56) (AX.c (AV.v (Value.int IntKind.i64 1)))) none),(AI.mk (some 58) (AOp.bin BinOp.lss 3 false (Operand.tmp 55) (Operand.tmp 57) (AX.t 55) (AX.t 57)) none)]) (AC.cond (AX.t 58) AC.skip (AC.exit 2))) (AC.seq (AC.block 3 (AC.drawx [[(AI.mk (some 61) (AOp.mv (AX.t 0)) none),(AI.mk (some 62) (AOp.mv (AX.t 13)) none),(AI.mk (some 63) (AOp.mv (AX.t 0)) none),(AI.mk (some 64) (AOp.mv (AX.t 13)) none),(AI.mk (some 65) (AOp.bin BinOp.add 3 false (Operand.tmp 64) (Operand.const (Value.int IntKind.i64 1)) (AX.t 64) (AX.c (AV.v (Value.int IntKind.i64 1)))) none),(AI.mk (some 66) (AOp.mv (AX.t 0)) none),(AI.mk (some 67) (AOp.mv (AX.t 13)) none),(AI.mk (some 68) (AOp.bin BinOp.add 3 false (Operand.tmp 67) (Operand.const (Value.int IntKind.i64 1)) (AX.t 67) (AX.c (AV.v (Value.int IntKind.i64 1)))) none),(AI.mk (some 69) (AOp.iad 2 (AX.t 66) (AX.t 68)) none),(AI.mk (some 70) (AOp.load true 2 (AX.t 69)) none),(AI.mk (some 71) (AOp.mv (AX.t 0)) none),(AI.mk (some 72) (AOp.mv (AX.t 13)) none),(AI.mk (some 73) (AOp.iad 2 (AX.t 71) (AX.t 72)) none),(AI.mk (some 74) (AOp.load true 2 (AX.t 73)) none),(AI.mk (some 75) (AOp.iad 2 (AX.t 61) (AX.t 62)) none),(AI.mk none (AOp.store 2 (AX.t 75) (AX.t 70)) none),(AI.mk (some 76) (AOp.iad 2 (AX.t 63) (AX.t 65)) none),(AI.mk none (AOp.store 2 (AX.t 76) (AX.t 74)) none)],[(AI.mk (some 61) (AOp.mv (AX.t 0)) none),(AI.mk (some 62) (AOp.mv (AX.t 13)) none),(AI.mk (some 63) (AOp.mv (AX.t 0)) none),(AI.mk (some 64) (AOp.mv (AX.t 13)) none),(AI.mk (some 66) (AOp.mv (AX.t 0)) none),(AI.mk (some 67) (AOp.mv (AX.t 13)) none),(AI.mk (some 68) (AOp.bin BinOp.add 3 false (Operand.tmp 67) (Operand.const (Value.int IntKind.i64 1)) (AX.t 67) (AX.c (AV.v (Value.int IntKind.i64 1)))) none),(AI.mk (some 69) (AOp.iad 2 (AX.t 66) (AX.t 68)) none),(AI.mk (some 70) (AOp.load true 2 (AX.t 69)) none),(AI.mk (some 71) (AOp.mv (AX.t 0)) none),(AI.mk (some 72) (AOp.mv (AX.t 13)) none),(AI.mk (some 73) (AOp.iad 2 (AX.t 71) (AX.t 72)) none),(AI.mk (some 74) (AOp.load true 2 (AX.t 73)) none),(AI.mk (some 75) (AOp.iad 2 (AX.t 61) (AX.t 62)) none),(AI.mk none (AOp.store 2 (AX.t 75) (AX.t 70)) none),(AI.mk (some 65) (AOp.bin BinOp.add 3 false (Operand.tmp 64) (Operand.const (Value.int IntKind.i64 1)) (AX.t 64) (AX.c (AV.v (Value.int IntKind.i64 1)))) none),(AI.mk (some 76) (AOp.iad 2 (AX.t 63) (AX.t 65)) none),(AI.mk none (AOp.store 2 (AX.t 76) (AX.t 74)) none)]])) (AC.region [(AI.mk (some 59) (AOp.mv (AX.t 13)) none),(AI.mk (some 60) (AOp.bin BinOp.add 3 false (Operand.tmp 59) (Operand.const (Value.int IntKind.i64 1)) (AX.t 59) (AX.c (AV.v (Value.int IntKind.i64 1)))) none),(AI.mk (some 13) (AOp.mv (AX.t 60)) none)])))))) AC.ret)))) AC.skip)) (AC.seq (AC.seq (AC.region [(AI.mk (some 77) (AOp.mv (AX.t 3)) none),(AI.mk (some 78) (AOp.mv (AX.t 2)) none),(AI.mk (some 79) (AOp.bin BinOp.sub 3 false (Operand.tmp 77) (Operand.tmp 78) (AX.t 77) (AX.t 78)) none),(AI.mk (some 80) (AOp.bin BinOp.eql 3 false (Operand.tmp 79) (Operand.const (Value.int IntKind.i64 1)) (AX.t 79) (AX.c (AV.v (Value.int IntKind.i64 1)))) none)]) (AC.cond (AX.t 80) (AC.seq (AC.region [(AI.mk (some 81) (AOp.mv (AX.t 1)) none),(AI.mk (some 14) (AOp.mv (AX.t 81)) none)]) (AC.seq (AC.region [(AI.mk (some 82) (AOp.mv (AX.t 2)) none),(AI.mk (some 15) (AOp.mv (AX.t 82)) none)]) (AC.seq (AC.block 4 (AC.loop (AC.seq (AC.seq (AC.region [(AI.mk (some 83) (AOp.mv (AX.t 14)) none),(AI.mk (some 84) (AOp.mv (AX.t 15)) none),(AI.mk (some 85) (AOp.bin BinOp.lss 3 false (Operand.tmp 83) (Operand.tmp 84) (AX.t 83) (AX.t 84)) none)]) (AC.cond (AX.t 85) AC.skip (AC.exit 4))) (AC.block 5 (AC.seq (AC.region [(AI.mk (some 86) (AOp.mv (AX.t 14)) none),(AI.mk (some 87) (AOp.mv (AX.t 15)) none),(AI.mk (some 88) (AOp.bin BinOp.add 3 false (Operand.tmp 86) (Operand.tmp 87) (AX.t 86) (AX.t 87)) none),(AI.mk (some 89) (AOp.cv 3 141 (AX.t 88)) none),(AI.mk (some 90) (AOp.bin BinOp.shr 141 false (Operand.tmp 89) (Operand.const (Value.int IntKind.u64 1)) (AX.t 89) (AX.c (AV.v (Value.int IntKind.u64 1)))) none),(AI.mk (some 91) (AOp.cv 141 3 (AX.t 90)) none),(AI.mk (some 16) (AOp.mv (AX.t 91)) none)]) (AC.seq (AC.draw [(AI.mk (some 92) (AOp.mv (AX.t 4)) none),(AI.mk (some 93) (AOp.mv (AX.t 0)) none),(AI.mk (some 94) (AOp.mv (AX.t 2)) none),(AI.mk (some 95) (AOp.iad 2 (AX.t 93) (AX.t 94)) none),(AI.mk (some 96) (AOp.load true 2 (AX.t 95)) none),(AI.mk (some 97) (AOp.mv (AX.t 0)) none),(AI.mk (some 98) (AOp.mv (AX.t 16)) none),(AI.mk (some 99) (AOp.iad 2 (AX.t 97) (AX.t 98)) none),(AI.mk (some 100) (AOp.load true 2 (AX.t 99)) none),(AI.mk (some 101) (AOp.callv (AX.t 92) [(AX.t 96),(AX.t 100)]) none),(AI.mk (some 102) (AOp.bin BinOp.lss 3 false (Operand.tmp 101) (Operand.const (Value.int IntKind.i64 0)) (AX.t 101) (AX.c (AV.v (Value.int IntKind.i64 0)))) none),(AI.mk (some 103) (AOp.un UnOp.not (AX.t 102)) none)]) (AC.cond (AX.t 103) (AC.region [(AI.mk (some 104) (AOp.mv (AX.t 16)) none),(AI.mk (some 105) (AOp.bin BinOp.add 3 false (Operand.tmp 104) (Operand.const (Value.int IntKind.i64 1)) (AX.t 104) (AX.c (AV.v (Value.int IntKind.i64 1)))) none),(AI.mk (some 14) (AOp.mv (AX.t 105)) none)]) (AC.region [(AI.mk (some 106) (AOp.mv (AX.t 16)) none),(AI.mk (some 15) (AOp.mv (AX.t 106)) none)])))))))) (AC.seq (AC.seq (AC.region [(AI.mk (some 107) (AOp.mv (AX.t 2)) none),(AI.mk (some 17) (AOp.mv (AX.t 107)) none)]) (AC.block 6 (AC.loop (AC.seq (AC.seq (AC.region [(AI.mk (some 108) (AOp.mv (AX.t 17)) none),(AI.mk (some 109) (AOp.mv (AX.t 14)) none),(AI.mk (some 110) (AOp.bin BinOp.gtr 3 false (Operand.tmp 108) (Operand.tmp 109) (AX.t 108) (AX.t 109)) none)]) (AC.cond (AX.t 110) AC.skip (AC.exit 6))) (AC.seq (AC.block 7 (AC.drawx [[(AI.mk (some 113) (AOp.mv (AX.t 0)) none),(AI.mk (some 114) (AOp.mv (AX.t 17)) none),(AI.mk (some 115) (AOp.mv (AX.t 0)) none),(AI.mk (some 116) (AOp.mv (AX.t 17)) none),(AI.mk (some 117) (AOp.bin BinOp.sub 3 false (Operand.tmp 116) (Operand.const (Value.int IntKind.i64 1)) (AX.t 116) (AX.c (AV.v (Value.int IntKind.i64 1)))) none),(AI.mk (some 118) (AOp.mv (AX.t 0)) none),(AI.mk (some 119) (AOp.mv (AX.t 17)) none),(AI.mk (some 120) (AOp.bin BinOp.sub 3 false (Operand.tmp 119) (Operand.const (Value.int IntKind.i64 1)) (AX.t 119) (AX.c (AV.v (Value.int IntKind.i64 1)))) none),(AI.mk (some 121) (AOp.iad 2 (AX.t 118) (AX.t 120)) none),(AI.mk (some 122) (AOp.load true 2 (AX.t 121)) none),(AI.mk (some 123) (AOp.mv (AX.t 0)) none),(AI.mk (some 124) (AOp.mv (AX.t 17)) none),(AI.mk (some 125) (AOp.iad 2 (AX.t 123) (AX.t 124)) none),(AI.mk (some 126) (AOp.load true 2 (AX.t 125)) none),(AI.mk (some 127) (AOp.iad 2 (AX.t 113) (AX.t 114)) none),(AI.mk none (AOp.store 2 (AX.t 127) (AX.t 122)) none),(AI.mk (some 128) (AOp.iad 2 (AX.t 115) (AX.t 117)) none),(AI.mk none (AOp.store 2 (AX.t 128) (AX.t 126)) none)],[(AI.mk (some 113) (AOp.mv (AX.t 0)) none),(AI.mk (some 114) (AOp.mv (AX.t 17)) none),(AI.mk (some 115) (AOp.mv (AX.t 0)) none),(AI.mk (some 116) (AOp.mv (AX.t 17)) none),(AI.mk (some 118) (AOp.mv (AX.t 0)) none),(AI.mk (some 119) (AOp.mv (AX.t 17)) none),(AI.mk (some 120) (AOp.bin BinOp.sub 3 false (Operand.tmp 119) (Operand.const (Value.int IntKind.i64 1)) (AX.t 119) (AX.c (AV.v (Value.int IntKind.i64 1)))) none),(AI.mk (some 121) (AOp.iad 2 (AX.t 118) (AX.t 120)) none),(AI.mk (some 122) (AOp.load true 2 (AX.t 121)) none),(AI.mk (some 123) (AOp.mv (AX.t 0)) none),(AI.mk (some 124) (AOp.mv (AX.t 17)) none),(AI.mk (some 125) (AOp.iad 2 (AX.t 123) (AX.t 124)) none),(AI.mk (some 126) (AOp.load true 2 (AX.t 125)) none),(AI.mk (some 127) (AOp.iad 2 (AX.t 113) (AX.t 114)) none),(AI.mk none (AOp.store 2 (AX.t 127) (AX.t 122)) none),(AI.mk (some 117) (AOp.bin BinOp.sub 3 false (Operand.tmp 116) (Operand.const (Value.int IntKind.i64 1)) (AX.t 116) (AX.c (AV.v (Value.int IntKind.i64 1)))) none),(AI.mk (some 128) (AOp.iad 2 (AX.t 115) (AX.t 117)) none),(AI.mk none (AOp.store 2 (AX.t 128) (AX.t 126)) none)]])) (AC.region [(AI.mk (some 111) (AOp.mv (AX.t 17)) none),(AI.mk (some 112) (AOp.bin BinOp.sub 3 false (Operand.tmp 111) (Operand.const (Value.int IntKind.i64 1)) (AX.t 111) (AX.c (AV.v (Value.int IntKind.i64 1)))) none),(AI.mk (some 17) (AOp.mv (AX.t 112)) none)])))))) AC.ret)))) AC.skip)) (AC.seq (AC.region [(AI.mk (some 129) (AOp.mv (AX.t 1)) none),(AI.mk (some 130) (AOp.mv (AX.t 3)) none),(AI.mk (some 131) (AOp.bin BinOp.add 3 false (Operand.tmp 129) (Operand.tmp 130) (AX.t 129) (AX.t 130)) none),(AI.mk (some 132) (AOp.cv 3 141 (AX.t 131)) none),(AI.mk (some 133) (AOp.bin BinOp.shr 141 false (Operand.tmp 132) (Operand.const (Value.int IntKind.u64 1)) (AX.t 132) (AX.c (AV.v (Value.int IntKind.u64 1)))) none),(AI.mk (some 134) (AOp.cv 141 3 (AX.t 133)) none),(AI.mk (some 18) (AOp.mv (AX.t 134)) none)]) (AC.seq (AC.region [(AI.mk (some 135) (AOp.mv (AX.t 18)) none),(AI.mk (some 136) (AOp.mv (AX.t 2)) none),(AI.mk (some 137) (AOp.bin BinOp.add 3 false (Operand.tmp 135) (Operand.tmp 136) (AX.t 135) (AX.t 136)) none),(AI.mk (some 19) (AOp.mv (AX.t 137)) none)]) (AC.seq (AC.region [(AI.mk (some 20) (AOp.mv (AX.c (AV.v (Value.int IntKind.i64 0)))) none),(AI.mk (some 21) (AOp.mv (AX.c (AV.v (Value.int IntKind.i64 0)))) none)]) (AC.seq (AC.seq (AC.region [(AI.mk (some 138) (AOp.mv (AX.t 2)) none),(AI.mk (some 139) (AOp.mv (AX.t 18)) none),(AI.mk (some 140) (AOp.bin BinOp.gtr 3 false (Operand.tmp 138) (Operand.tmp 139) (AX.t 138) (AX.t 139)) none)]) (AC.cond (AX.t 140) (AC.seq (AC.region [(AI.mk (some 141) (AOp.mv (AX.t 19)) none),(AI.mk (some 142) (AOp.mv (AX.t 3)) none),(AI.mk (some 143) (AOp.bin BinOp.sub 3 false (Operand.tmp 141) (Operand.tmp 142) (AX.t 141) (AX.t 142)) none),(AI.mk (some 20) (AOp.mv (AX.t 143)) none)]) (AC.region [(AI.mk (some 144) (AOp.mv (AX.t 18)) none),(AI.mk (some 21) (AOp.mv (AX.t 144)) none)])) (AC.seq (AC.region [(AI.mk (some 145) (AOp.mv (AX.t 1)) none),(AI.mk (some 20) (AOp.mv (AX.t 145)) none)]) (AC.region [(AI.mk (some 146) (AOp.mv (AX.t 2)) none),(AI.mk (some 21) (AOp.mv (AX.t 146)) none)])))) (AC.seq (AC.region [(AI.mk (some 147) (AOp.mv (AX.t 19)) none),(AI.mk (some 148) (AOp.bin BinOp.sub 3 false (Operand.tmp 147) (Operand.const (Value.int IntKind.i64 1)) (AX.t 147) (AX.c (AV.v (Value.int IntKind.i64 1)))) none),(AI.mk (some 22) (AOp.mv (AX.t 148)) none)]) (AC.seq (AC.block 8 (AC.loop (AC.seq (AC.seq (AC.region [(AI.mk (some 149) (AOp.mv (AX.t 20)) none),(AI.mk (some 150) (AOp.mv (AX.t 21)) none),(AI.mk (some 151) (AOp.bin BinOp.lss 3 false (Operand.tmp 149) (Operand.tmp 150) (AX.t 149) (AX.t 150)) none)]) (AC.cond (AX.t 151) AC.skip (AC.exit 8))) (AC.block 9 (AC.seq (AC.region [(AI.mk (some 152) (AOp.mv (AX.t 20)) none),(AI.mk (some 153) (AOp.mv (AX.t 21)) none),(AI.mk (some 154) (AOp.bin BinOp.add 3 false (Operand.tmp 152) (Operand.tmp 153) (AX.t 152) (AX.t 153)) none),(AI.mk (some 155) (AOp.cv 3 141 (AX.t 154)) none),(AI.mk (some 156) (AOp.bin BinOp.shr 141 false (Operand.tmp 155) (Operand.const (Value.int IntKind.u64 1)) (AX.t 155) (AX.c (AV.v (Value.int IntKind.u64 1)))) none),(AI.mk (some 157) (AOp.cv 141 3 (AX.t 156)) none),(AI.mk (some 23) (AOp.mv (AX.t 157)) none)]) (AC.seq (AC.draw [(AI.mk (some 158) (AOp.mv (AX.t 4)) none),(AI.mk (some 159) (AOp.mv (AX.t 0)) none),(AI.mk (some 160) (AOp.mv (AX.t 22)) none),(AI.mk (some 161) (AOp.mv (AX.t 23)) none),(AI.mk (some 162) (AOp.bin BinOp.sub 3 false (Operand.tmp 160) (Operand.tmp 161) (AX.t 160) (AX.t 161)) none),(AI.mk (some 163) (AOp.iad 2 (AX.t 159) (AX.t 162)) none),(AI.mk (some 164) (AOp.load true 2 (AX.t 163)) none),(AI.mk (some 165) (AOp.mv (AX.t 0)) none),(AI.mk (some 166) (AOp.mv (AX.t 23)) none),(AI.mk (some 167) (AOp.iad 2 (AX.t 165) (AX.t 166)) none),(AI.mk (some 168) (AOp.load true 2 (AX.t 167)) none),(AI.mk (some 169) (AOp.callv (AX.t 158) [(AX.t 164),(AX.t 168)]) none),(AI.mk (some 170) (AOp.bin BinOp.lss 3 false (Operand.tmp 169) (Operand.const (Value.int IntKind.i64 0)) (AX.t 169) (AX.c (AV.v (Value.int IntKind.i64 0)))) none),(AI.mk (some 171) (AOp.un UnOp.not (AX.t 170)) none)]) (AC.cond (AX.t 171) (AC.region [(AI.mk (some 172) (AOp.mv (AX.t 23)) none),(AI.mk (some 173) (AOp.bin BinOp.add 3 false (Operand.tmp 172) (Operand.const (Value.int IntKind.i64 1)) (AX.t 172) (AX.c (AV.v (Value.int IntKind.i64 1)))) none),(AI.mk (some 20) (AOp.mv (AX.t 173)) none)]) (AC.region [(AI.mk (some 174) (AOp.mv (AX.t 23)) none),(AI.mk (some 21) (AOp.mv (AX.t 174)) none)])))))))) (AC.seq (AC.region [(AI.mk (some 175) (AOp.mv (AX.t 19)) none),(AI.mk (some 176) (AOp.mv (AX.t 20)) none),(AI.mk (some 177) (AOp.bin BinOp.sub 3 false (Operand.tmp 175) (Operand.tmp 176) (AX.t 175) (AX.t 176)) none),(AI.mk (some 24) (AOp.mv (AX.t 177)) none)]) (AC.seq (AC.seq (AC.region [(AI.mk (some 178) (AOp.mv (AX.t 20)) none),(AI.mk (some 179) (AOp.mv (AX.t 2)) none),(AI.mk (some 180) (AOp.bin BinOp.lss 3 false (Operand.tmp 178) (Operand.tmp 179) (AX.t 178) (AX.t 179)) none),(AI.mk (some 181) (AOp.mv (AX.t 180)) none),(AI.mk (some 182) (AOp.mv (AX.t 2)) (some (181,true))),(AI.mk (some 183) (AOp.mv (AX.t 24)) (some (181,true))),(AI.mk (some 184) (AOp.bin BinOp.lss 3 false (Operand.tmp 182) (Operand.tmp 183) (AX.t 182) (AX.t 183)) (some (181,true))),(AI.mk (some 185) (AOp.pick (AX.t 181) (AX.t 184) (AX.c (AV.v (Value.bool false)))) none)]) (AC.cond (AX.t 185) (AC.region [(AI.mk (some 186) (AOp.mv (AX.t 0)) none),(AI.mk (some 187) (AOp.mv (AX.t 20)) none),(AI.mk (some 188) (AOp.mv (AX.t 2)) none),(AI.mk (some 189) (AOp.mv (AX.t 24)) none),(AI.mk (some 190) (AOp.mv (AX.t 4)) none),(AI.mk (some 191) (AOp.callh 128 [(AX.t 186),(AX.t 187),(AX.t 188),(AX.t 189),(AX.t 190)]) none)]) AC.skip)) (AC.seq (AC.seq (AC.region [(AI.mk (some 192) (AOp.mv (AX.t 1)) none),(AI.mk (some 193) (AOp.mv (AX.t 20)) none),(AI.mk (some 194) (AOp.bin BinOp.lss 3 false (Operand.tmp 192) (Operand.tmp 193) (AX.t 192) (AX.t 193)) none),(AI.mk (some 195) (AOp.mv (AX.t 194)) none),(AI.mk (some 196) (AOp.mv (AX.t 20)) (some (195,true))),(AI.mk (some 197) (AOp.mv (AX.t 18)) (some (195,true))),(AI.mk (some 198) (AOp.bin BinOp.lss 3 false (Operand.tmp 196) (Operand.tmp 197) (AX.t 196) (AX.t 197)) (some (195,true))),(AI.mk (some 199) (AOp.pick (AX.t 195) (AX.t 198) (AX.c (AV.v (Value.bool false)))) none)]) (AC.cond (AX.t 199) (AC.region [(AI.mk (some 200) (AOp.mv (AX.t 0)) none),(AI.mk (some 201) (AOp.mv (AX.t 1)) none),(AI.mk (some 202) (AOp.mv (AX.t 20)) none),(AI.mk (some 203) (AOp.mv (AX.t 18)) none),(AI.mk (some 204) (AOp.mv (AX.t 4)) none),(AI.mk (some 205) (AOp.callh 127 [(AX.t 200),(AX.t 201),(AX.t 202),(AX.t 203),(AX.t 204)]) none)]) AC.skip)) (AC.seq (AC.region [(AI.mk (some 206) (AOp.mv (AX.t 18)) none),(AI.mk (some 207) (AOp.mv (AX.t 24)) none),(AI.mk (some 208) (AOp.bin BinOp.lss 3 false (Operand.tmp 206) (Operand.tmp 207) (AX.t 206) (AX.t 207)) none),(AI.mk (some 209) (AOp.mv (AX.t 208)) none),(AI.mk (some 210) (AOp.mv (AX.t 24)) (some (209,true))),(AI.mk (some 211) (AOp.mv (AX.t 3)) (some (209,true))),(AI.mk (some 212) (AOp.bin BinOp.lss 3 false (Operand.tmp 210) (Operand.tmp 211) (AX.t 210) (AX.t 211)) (some (209,true))),(AI.mk (some 213) (AOp.pick (AX.t 209) (AX.t 212) (AX.c (AV.v (Value.bool false)))) none)]) (AC.cond (AX.t 213) (AC.region [(AI.mk (some 214) (AOp.mv (AX.t 0)) none),(AI.mk (some 215) (AOp.mv (AX.t 18)) none),(AI.mk (some 216) (AOp.mv (AX.t 24)) none),(AI.mk (some 217) (AOp.mv (AX.t 3)) none),(AI.mk (some 218) (AOp.mv (AX.t 4)) none),(AI.mk (some 219) (AOp.callh 127 [(AX.t 214),(AX.t 215),(AX.t 216),(AX.t 217),(AX.t 218)]) none)]) AC.skip))))))))))))))
theorem cop127:zJ Tryz.prog zf 127=some A127:=by kernel_rfl
def A128:AF:=(AF.mk 58 [] (AC.seq (AC.region [(AI.mk (some 12) (AOp.mv (AX.t 2)) none),(AI.mk (some 13) (AOp.mv (AX.t 1)) none),(AI.mk (some 14) (AOp.bin BinOp.sub 3 false (Operand.tmp 12) (Operand.tmp 13) (AX.t 12) (AX.t 13)) none),(AI.mk (some 10) (AOp.mv (AX.t 14)) none)]) (AC.seq (AC.region [(AI.mk (some 15) (AOp.mv (AX.t 3)) none),(AI.mk (some 16) (AOp.mv (AX.t 2)) none),(AI.mk (some 17) (AOp.bin BinOp.sub 3 false (Operand.tmp 15) (Operand.tmp 16) (AX.t 15) (AX.t 16)) none),(AI.mk (some 11) (AOp.mv (AX.t 17)) none)]) (AC.seq (AC.block 0 (AC.loop (AC.seq (AC.seq (AC.region [(AI.mk (some 18) (AOp.mv (AX.t 10)) none),(AI.mk (some 19) (AOp.mv (AX.t 11)) none),(AI.mk (some 20) (AOp.bin BinOp.neq 3 false (Operand.tmp 18) (Operand.tmp 19) (AX.t 18) (AX.t 19)) none)]) (AC.cond (AX.t 20) AC.skip (AC.exit 0))) (AC.block 1 (AC.seq (AC.region [(AI.mk (some 21) (AOp.mv (AX.t 10)) none),(AI.mk (some 22) (AOp.mv (AX.t 11)) none),(AI.mk (some 23) (AOp.bin BinOp.gtr 3 false (Operand.tmp 21) (Operand.tmp 22) (AX.t 21) (AX.t 22)) none)]) (AC.cond (AX.t 23) (AC.seq (AC.region [(AI.mk (some 24) (AOp.mv (AX.t 0)) none),(AI.mk (some 25) (AOp.mv (AX.t 2)) none),(AI.mk (some 26) (AOp.mv (AX.t 10)) none),(AI.mk (some 27) (AOp.bin BinOp.sub 3 false (Operand.tmp 25) (Operand.tmp 26) (AX.t 25) (AX.t 26)) none),(AI.mk (some 28) (AOp.mv (AX.t 2)) none),(AI.mk (some 29) (AOp.mv (AX.t 11)) none),(AI.mk (some 30) (AOp.mv (AX.t 4)) none),(AI.mk (some 31) (AOp.callh 129 [(AX.t 24),(AX.t 27),(AX.t 28),(AX.t 29),(AX.t 30)]) none)]) (AC.region [(AI.mk (some 32) (AOp.mv (AX.t 10)) none),(AI.mk (some 33) (AOp.mv (AX.t 11)) none),(AI.mk (some 34) (AOp.bin BinOp.sub 3 false (Operand.tmp 32) (Operand.tmp 33) (AX.t 32) (AX.t 33)) none),(AI.mk (some 10) (AOp.mv (AX.t 34)) none)])) (AC.seq (AC.region [(AI.mk (some 35) (AOp.mv (AX.t 0)) none),(AI.mk (some 36) (AOp.mv (AX.t 2)) none),(AI.mk (some 37) (AOp.mv (AX.t 10)) none),(AI.mk (some 38) (AOp.bin BinOp.sub 3 false (Operand.tmp 36) (Operand.tmp 37) (AX.t 36) (AX.t 37)) none),(AI.mk (some 39) (AOp.mv (AX.t 2)) none),(AI.mk (some 40) (AOp.mv (AX.t 11)) none),(AI.mk (some 41) (AOp.bin BinOp.add 3 false (Operand.tmp 39) (Operand.tmp 40) (AX.t 39) (AX.t 40)) none),(AI.mk (some 42) (AOp.mv (AX.t 10)) none),(AI.mk (some 43) (AOp.bin BinOp.sub 3 false (Operand.tmp 41) (Operand.tmp 42) (AX.t 41) (AX.t 42)) none),(AI.mk (some 44) (AOp.mv (AX.t 10)) none),(AI.mk (some 45) (AOp.mv (AX.t 4)) none),(AI.mk (some 46) (AOp.callh 129 [(AX.t 35),(AX.t 38),(AX.t 43),(AX.t 44),(AX.t 45)]) none)]) (AC.region [(AI.mk (some 47) (AOp.mv (AX.t 11)) none),(AI.mk (some 48) (AOp.mv (AX.t 10)) none),(AI.mk (some 49) (AOp.bin BinOp.sub 3 false (Operand.tmp 47) (Operand.tmp 48) (AX.t 47) (AX.t 48)) none),(AI.mk (some 11) (AOp.mv (AX.t 49)) none)])))))))) (AC.region [(AI.mk (some 50) (AOp.mv (AX.t 0)) none),(AI.mk (some 51) (AOp.mv (AX.t 2)) none),(AI.mk (some 52) (AOp.mv (AX.t 10)) none),(AI.mk (some 53) (AOp.bin BinOp.sub 3 false (Operand.tmp 51) (Operand.tmp 52) (AX.t 51) (AX.t 52)) none),(AI.mk (some 54) (AOp.mv (AX.t 2)) none),(AI.mk (some 55) (AOp.mv (AX.t 10)) none),(AI.mk (some 56) (AOp.mv (AX.t 4)) none),(AI.mk (some 57) (AOp.callh 129 [(AX.t 50),(AX.t 53),(AX.t 54),(AX.t 55),(AX.t 56)]) none)])))))
theorem cop128:zJ Tryz.prog zf 128=some A128:=by kernel_rfl
def A129:AF:=(AF.mk 38 [] (AC.seq (AC.region [(AI.mk (some 10) (AOp.mv (AX.c (AV.v (Value.int IntKind.i64 0)))) none)]) (AC.block 0 (AC.loop (AC.seq (AC.seq (AC.region [(AI.mk (some 11) (AOp.mv (AX.t 10)) none),(AI.mk (some 12) (AOp.mv (AX.t 3)) none),(AI.mk (some 13) (AOp.bin BinOp.lss 3 false (Operand.tmp 11) (Operand.tmp 12) (AX.t 11) (AX.t 12)) none)]) (AC.cond (AX.t 13) AC.skip (AC.exit 0))) (AC.seq (AC.block 1 (AC.drawx [[(AI.mk (some 16) (AOp.mv (AX.t 0)) none),(AI.mk (some 17) (AOp.mv (AX.t 1)) none),(AI.mk (some 18) (AOp.mv (AX.t 10)) none),(AI.mk (some 19) (AOp.bin BinOp.add 3 false (Operand.tmp 17) (Operand.tmp 18) (AX.t 17) (AX.t 18)) none),(AI.mk (some 20) (AOp.mv (AX.t 0)) none),(AI.mk (some 21) (AOp.mv (AX.t 2)) none),(AI.mk (some 22) (AOp.mv (AX.t 10)) none),(AI.mk (some 23) (AOp.bin BinOp.add 3 false (Operand.tmp 21) (Operand.tmp 22) (AX.t 21) (AX.t 22)) none),(AI.mk (some 24) (AOp.mv (AX.t 0)) none),(AI.mk (some 25) (AOp.mv (AX.t 2)) none),(AI.mk (some 26) (AOp.mv (AX.t 10)) none),(AI.mk (some 27) (AOp.bin BinOp.add 3 false (Operand.tmp 25) (Operand.tmp 26) (AX.t 25) (AX.t 26)) none),(AI.mk (some 28) (AOp.iad 2 (AX.t 24) (AX.t 27)) none),(AI.mk (some 29) (AOp.load true 2 (AX.t 28)) none),(AI.mk (some 30) (AOp.mv (AX.t 0)) none),(AI.mk (some 31) (AOp.mv (AX.t 1)) none),(AI.mk (some 32) (AOp.mv (AX.t 10)) none),(AI.mk (some 33) (AOp.bin BinOp.add 3 false (Operand.tmp 31) (Operand.tmp 32) (AX.t 31) (AX.t 32)) none),(AI.mk (some 34) (AOp.iad 2 (AX.t 30) (AX.t 33)) none),(AI.mk (some 35) (AOp.load true 2 (AX.t 34)) none),(AI.mk (some 36) (AOp.iad 2 (AX.t 16) (AX.t 19)) none),(AI.mk none (AOp.store 2 (AX.t 36) (AX.t 29)) none),(AI.mk (some 37) (AOp.iad 2 (AX.t 20) (AX.t 23)) none),(AI.mk none (AOp.store 2 (AX.t 37) (AX.t 35)) none)],[(AI.mk (some 16) (AOp.mv (AX.t 0)) none),(AI.mk (some 17) (AOp.mv (AX.t 1)) none),(AI.mk (some 18) (AOp.mv (AX.t 10)) none),(AI.mk (some 19) (AOp.bin BinOp.add 3 false (Operand.tmp 17) (Operand.tmp 18) (AX.t 17) (AX.t 18)) none),(AI.mk (some 20) (AOp.mv (AX.t 0)) none),(AI.mk (some 21) (AOp.mv (AX.t 2)) none),(AI.mk (some 22) (AOp.mv (AX.t 10)) none),(AI.mk (some 24) (AOp.mv (AX.t 0)) none),(AI.mk (some 25) (AOp.mv (AX.t 2)) none),(AI.mk (some 26) (AOp.mv (AX.t 10)) none),(AI.mk (some 27) (AOp.bin BinOp.add 3 false (Operand.tmp 25) (Operand.tmp 26) (AX.t 25) (AX.t 26)) none),(AI.mk (some 28) (AOp.iad 2 (AX.t 24) (AX.t 27)) none),(AI.mk (some 29) (AOp.load true 2 (AX.t 28)) none),(AI.mk (some 30) (AOp.mv (AX.t 0)) none),(AI.mk (some 31) (AOp.mv (AX.t 1)) none),(AI.mk (some 32) (AOp.mv (AX.t 10)) none),(AI.mk (some 33) (AOp.bin BinOp.add 3 false (Operand.tmp 31) (Operand.tmp 32) (AX.t 31) (AX.t 32)) none),(AI.mk (some 34) (AOp.iad 2 (AX.t 30) (AX.t 33)) none),(AI.mk (some 35) (AOp.load true 2 (AX.t 34)) none),(AI.mk (some 36) (AOp.iad 2 (AX.t 16) (AX.t 19)) none),(AI.mk none (AOp.store 2 (AX.t 36) (AX.t 29)) none),(AI.mk (some 23) (AOp.bin BinOp.add 3 false (Operand.tmp 21) (Operand.tmp 22) (AX.t 21) (AX.t 22)) none),(AI.mk (some 37) (AOp.iad 2 (AX.t 20) (AX.t 23)) none),(AI.mk none (AOp.store 2 (AX.t 37) (AX.t 35)) none)]])) (AC.region [(AI.mk (some 14) (AOp.mv (AX.t 10)) none),(AI.mk (some 15) (AOp.bin BinOp.add 3 false (Operand.tmp 14) (Operand.const (Value.int IntKind.i64 1)) (AX.t 14) (AX.c (AV.v (Value.int IntKind.i64 1)))) none),(AI.mk (some 10) (AOp.mv (AX.t 15)) none)])))))))
theorem cop129:zJ Tryz.prog zf 129=some A129:=by kernel_rfl
theorem u_bool:(Tryz.prog).underlying 4=some .bool:=by kernel_rfl
theorem bVb {xo yo:Operand} {x y:Bool}:ZS Tryz.prog .eql 4 xo yo (.bool x) (.bool y)=some (.bool (x == y)):=bV_bool u_bool
theorem bVn {xo yo:Operand} {x y:Bool}:ZS Tryz.prog .neq 4 xo yo (.bool x) (.bool y)=some (.bool (!(x == y))):=bV_bne u_bool
theorem xw:(Tryz.prog).underlying 9=some .string:=by kernel_rfl
theorem hb3:Zs Tryz.prog 3=true:=by kernel_rfl
theorem hb4:Zs Tryz.prog 4=true:=by kernel_rfl
theorem hb82:Zs Tryz.prog 82=true:=by kernel_rfl
theorem hb105:Zs Tryz.prog 105=true:=by kernel_rfl
theorem XL:Zs Tryz.prog 124=true:=by kernel_rfl
end Go.Proofs.YtdodckipblafmaaGreatDoor.Sim
namespace Go.Proofs.YtdodckipblafmaaGreatDoor
open Go.RowKit
def Drawn (w w':World):Prop:=∃ n,w'=w.drewN n
theorem Drawn.refl (w:World):Drawn w w:=⟨0,rfl⟩
theorem Drawn.more {w w':World} (h:Drawn w w') (k:Nat):Drawn w (w'.drewN k):=by
 obtain ⟨n,rfl⟩:=h
 exact ⟨n+k,by rw [World.drewN_drewN]⟩
theorem Drawn.drew {w w':World} (h:Drawn w w'):Drawn w w'.drew:=by
 obtain ⟨n,rfl⟩:=h
 exact ⟨n+1,rfl⟩
theorem Drawn.trans {a b c:World} (h:Drawn a b) (k:Drawn b c):Drawn a c:=by
 obtain ⟨n,rfl⟩:=k
 exact h.more n
theorem Drawn.below {w w':World} (h:Drawn w w'):Below w.heap.size w w':=by
 obtain ⟨n,rfl⟩:=h
 exact ⟨rfl,rfl,rfl,Nat.le_refl _,fun _ _=>rfl⟩
def Quiet (v:Value) (w:World) (e:Ending) (w':World):Prop:=e = .returned v/\Drawn w w'
def Fresh (v:Value) (w:World) (e:Ending) (w':World):Prop:=e = .returned v/\Below w.heap.size w w'
theorem Quiet.fresh {v:Value} {w:World} {e:Ending} {w':World} (h:Quiet v w e w'):Fresh v w e w':=⟨h.1,h.2.below⟩
theorem bcell {W w1:World} (hb:Below W.heap.size W w1):(∀ b o,b < W.heap.size->w1.cell? ⟨b,o,none⟩=W.cell? ⟨b,o,none⟩)/\(∀ b o,b < W.heap.size->w1.frozen? ⟨b,o,none⟩=W.frozen? ⟨b,o,none⟩)/\(∀ b,b < W.heap.size->b < w1.heap.size)/\(∀ b,b < W.heap.size->b<=w1.heap.size) :=
 ⟨fun b o h=>hb.cell (p:=⟨b,o,none⟩) h,fun b o h=>hb.frozen (p:=⟨b,o,none⟩) h,fun _ h=>Nat.lt_of_lt_of_le h hb.size,fun _ h=>Nat.le_of_lt (Nat.lt_of_lt_of_le h hb.size)⟩
theorem ZG {k:IntKind} {a b:Int} (h:a=b):Ending.returned (.int k a) = .returned (.int k b):=by rw [h]
theorem yB {a b:Bool} (h:a=b):Ending.returned (.bool a) = .returned (.bool b):=by rw [h]
theorem int_eq {k:IntKind} {a b:Int} (h:a=b):Value.int k a = .int k b:=by rw [h]
theorem yO {p:Prop} (h:p):Hid p:=h
end Go.Proofs.YtdodckipblafmaaGreatDoor
namespace Go.Proofs.YtdodckipblafmaaGreatDoor.Ord
open Go.RowKit
theorem com_of (a b : ByteArray) (k : Nat) (ha : k <= a.size) (hb : k <= b.size) (h : ∀ j (h1 : j < a.size) (h2 : j < b.size), j < k -> a[j] = b[j])
  (hn:(∀ (h1:k < a.size) (h2:k < b.size),a[k] ≠ b[k])):com a.data.toList b.data.toList=k:=by
 have e1:a.data.toList.length=a.size:=by simp
 have e2:b.data.toList.length=b.size:=by simp
 apply com_eq
 ·intro j hj
  have h1:j < a.size:=by omega
  have h2:j < b.size:=by omega
  have:=h j h1 h2 hj
  rw [List.getElem?_eq_getElem (by omega),List.getElem?_eq_getElem (by omega)]
  simpa [<- ByteArray.getElem_eq_getElem_data] using this
 ·omega
 ·omega
 ·by_cases h1 : k < a.size
  ·by_cases h2 : k < b.size
   ·left
    have:=hn h1 h2
    rw [List.getElem?_eq_getElem (by omega),List.getElem?_eq_getElem (by omega)]
    intro hh;injection hh with hh
    exact this (by simpa [ByteArray.getElem_eq_getElem_data] using hh)
   ·right;right;omega
  ·right;left;omega
def Same (a b:ByteArray) (k:Nat):Prop:=k<=a.size/\k<=b.size/\∀ j (h1:j < a.size) (h2:j < b.size),j < k->a[j]=b[j]
theorem Same.zero (a b:ByteArray):Same a b 0:=⟨by omega,by omega,fun j _ _ h=>by omega⟩
theorem Same.succ {a b:ByteArray} {k:Nat} (h:Same a b k) (h1:k < a.size) (h2:k < b.size) (e:((a[k].toNat:Int) != (b[k].toNat:Int))=false):Same a b (k+1):=by
 refine ⟨by omega,by omega,fun j h3 h4 hj=>?_⟩
 by_cases hjk:j=k
 ·subst hjk
  apply UInt8.toNat_inj.1
  simp at e
  exact_mod_cast e
 ·exact h.2.2 j h3 h4 (by omega)
theorem Same.com_ne {a b:ByteArray} {k:Nat} (h:Same a b k) (h1:k < a.size) (h2:k < b.size) (e:((a[k].toNat:Int) != (b[k].toNat:Int))=true):com a.data.toList b.data.toList=k :=
 com_of a b k h.1 h.2.1 h.2.2 (fun _ _ hh=>by simp [hh] at e)
theorem Same.com_end {a b:ByteArray} {k:Nat} (h:Same a b k) (hn:¬(k < a.size/\k < b.size)):com a.data.toList b.data.toList=k :=
 com_of a b k h.1 h.2.1 h.2.2 (fun h1 h2=>absurd ⟨h1,h2⟩ hn)
set_option maxHeartbeats 400000 in
theorem Common_calls (a b : ByteArray) (w : World) (ha : a.size <= maxLen) (hb : b.size <= maxLen) :
  Calls Tryz.prog 62 #[.string a,.string b] w (Quiet (.int .i64 (com a.data.toList b.data.toList)) w):=by
 unfold maxLen at ha hb
 go_enter Tryz.func62,Tryz.ntmps62
 go_wp2
 all_goals
  go_loopw [11] (fun i wr=>∃ k:Nat,i = .int .i64 k/\Same a b k/\Drawn w wr) (fun i _=>a.size - (intOf i).toNat)
  case atStart=>exact ⟨0,rfl,Same.zero a b,Drawn.refl w⟩
  case round =>
   obtain ⟨k,rfl,hk,n,rfl⟩:=hrel
   have hk1:=hk.1
   have hk2:=hk.2.1
   by_cases hlt:k < a.size/\k < b.size
   ·obtain ⟨hlt1, hlt2⟩ := hlt
    have g1:(k:Int) < (a.size:Int):=by omega
    have g2:(k:Int) < (b.size:Int):=by omega
    go_wp2
    go_quiet (fail)
    go_wp2
    ·go_ret
     refine ⟨ZG ?_,(Drawn.more ⟨n,rfl⟩ _)⟩
     rw [hk.com_ne hlt1 hlt2 (by assumption)]
    ·go_roundw
     case rel=>exact ⟨k+1,by go_num,hk.succ hlt1 hlt2 (by assumption),_,rfl⟩
     case measure=>simp [intOf];omega
   ·go_wp2
    go_ret
    refine ⟨ZG ?_,⟨n,rfl⟩⟩
    rw [hk.com_end hlt];omega
theorem cmp_at {a b : ByteArray} {n : Nat} {c : Int} (h1 : n < a.size) (h2 : n < b.size) (h : c = if n = a.data.toList.length then (if n = b.data.toList.length then 0 else -1) else if n = b.data.toList.length then 1 else if (a.data.toList.getD n 0) < (b.data.toList.getD n 0) then -1 else 1) :
  c=if (a[n].toNat:Int) < (b[n].toNat:Int) then -1 else 1:=by
 have e1:a.data.toList.length=a.size:=by simp
 have e2:b.data.toList.length=b.size:=by simp
 rw [h,if_neg (by omega),if_neg (by omega)]
 have g1:a.data.toList.getD n 0=a[n]:=by rw [List.getD_eq_getElem?_getD,List.getElem?_eq_getElem (by omega)];simp [<- ByteArray.getElem_eq_getElem_data]
 have g2:b.data.toList.getD n 0=b[n]:=by rw [List.getD_eq_getElem?_getD,List.getElem?_eq_getElem (by omega)];simp [<- ByteArray.getElem_eq_getElem_data]
 rw [g1,g2]
 simp [UInt8.lt_iff_toNat_lt]
set_option maxHeartbeats 400000 in
theorem Compare_calls (a b : ByteArray) (w : World) (ha : a.size <= maxLen) (hb : b.size <= maxLen) :
  Calls Tryz.prog 38 #[.string a,.string b] w (Quiet (.int .i64 (cmp a.data.toList b.data.toList)) w):=by
 have hc:=Common_calls a b w ha hb
 have h1:=com_le_left a.data.toList b.data.toList
 have h2:=com_le_right a.data.toList b.data.toList
 have h3:=xM a.data.toList b.data.toList
 unfold maxLen at ha hb
 generalize com a.data.toList b.data.toList=n at *
 generalize hcmp:cmp a.data.toList b.data.toList=c at *
 have Hc:=Lib.hid hc
 have H3:=Lib.hid h3
 clear hc h3 hcmp
 simp at h1 h2
 go_enter Tryz.func38,Tryz.ntmps38
 go_wp2_with fail
 refine (Hc.out).mono ?_
 rintro e w' ⟨rfl,q,rfl⟩
 by_cases ca:n=a.size
 ·subst ca
  by_cases cb:a.size=b.size
  ·have H4 : Hid (c = 0) := yO (by rw [H3.out]; simp [<- cb])
   go_wp2
   go_ret
   exact ⟨ZG (by rw [H4.out]),Drawn.more (Drawn.refl _) _⟩
  ·have e1 : ((a.size : Int) == (b.size : Int)) = false := by simp; omega
   have H4:Hid (c = -1):=yO (by rw [H3.out];simp [cb])
   go_wp2
   go_ret
   exact ⟨ZG (by rw [H4.out]),Drawn.more (Drawn.refl _) _⟩
 ·by_cases cb : n = b.size
  ·subst cb
   have e1:((b.size:Int) == (a.size:Int))=false:=by simp;omega
   have H4:Hid (c=1):=yO (by rw [H3.out];simp [ca])
   go_wp2
   go_ret
   exact ⟨ZG (by rw [H4.out]),Drawn.more (Drawn.refl _) _⟩
  ·have e1 : ((n : Int) == (a.size : Int)) = false := by simp; omega
   have e2:((n:Int) == (b.size:Int))=false:=by simp;omega
   have l1:n < a.size:=by omega
   have l2:n < b.size:=by omega
   have g1:(n:Int) < (a.size:Int):=by omega
   have g2:(n:Int) < (b.size:Int):=by omega
   have H4:=Lib.hid (cmp_at l1 l2 H3.out)
   go_wp2
   go_quiet (fail)
   go_wp2
   ·go_ret
    have h:a[n].toNat < b[n].toNat:=by assumption
    exact ⟨ZG (by rw [H4.out,if_pos (by omega)]),Drawn.more (Drawn.more (Drawn.refl _) _) _⟩
   ·go_ret
    have h:¬ a[n].toNat < b[n].toNat:=by assumption
    exact ⟨ZG (by rw [H4.out,if_neg (by omega)]),Drawn.more (Drawn.more (Drawn.refl _) _) _⟩
theorem less_ne {a b:ByteArray} {k:Nat} (h:Same a b k) (h1:k < a.size) (h2:k < b.size) (e:((a[k].toNat:Int) != (b[k].toNat:Int))=true):decide ((a[k].toNat:Int) < (b[k].toNat:Int))=less a.data.toList b.data.toList:=by
 have hc:=h.com_ne h1 h2 e
 have h3:=xM a.data.toList b.data.toList
 rw [hc] at h3
 have h4:=cmp_at h1 h2 h3
 unfold less
 rw [h4]
 by_cases hl:(a[k].toNat:Int) < (b[k].toNat:Int)
 ·simp [hl]
 ·simp [hl]
theorem less_end {a b:ByteArray} {k:Nat} (h:Same a b k) (hn:¬(k < a.size/\k < b.size)):decide (a.size < b.size)=less a.data.toList b.data.toList:=by
 have hc:=h.com_end hn
 have h3:=xM a.data.toList b.data.toList
 rw [hc] at h3
 have e1:a.data.toList.length=a.size:=by simp
 have e2:b.data.toList.length=b.size:=by simp
 have:=h.1
 have:=h.2.1
 unfold less
 rw [h3,e1,e2]
 by_cases c1:k=a.size
 ·by_cases c2 : k = b.size
  ·rw [if_pos c1,if_pos c2];simp;omega
  ·rw [if_pos c1,if_neg c2];simp;omega
 ·rw [if_neg c1,if_pos (by omega)];simp;omega
set_option maxHeartbeats 400000 in
theorem RefLess_calls (a b : ByteArray) (w : World) (ha : a.size <= maxLen) (hb : b.size <= maxLen) :
  Calls Tryz.prog 41 #[.string a,.string b] w (Quiet (.bool (less a.data.toList b.data.toList)) w):=by
 unfold maxLen at ha hb
 go_enter Tryz.func41,Tryz.ntmps41
 go_wp2
 go_loopw [5] (fun i wr=>∃ k:Nat,i = .int .i64 k/\Same a b k/\Drawn w wr) (fun i _=>a.size - (intOf i).toNat)
 case atStart=>exact ⟨0,rfl,Same.zero a b,Drawn.refl w⟩
 case round =>
  obtain ⟨k,rfl,hk,n,rfl⟩:=hrel
  have hk1:=hk.1
  have hk2:=hk.2.1
  by_cases hlt:k < a.size/\k < b.size
  ·obtain ⟨hlt1, hlt2⟩ := hlt
   have g1:(k:Int) < (a.size:Int):=by omega
   have g2:(k:Int) < (b.size:Int):=by omega
   go_wp2
   go_quiet (fail)
   go_wp2
   ·have H := yO (less_ne hk hlt1 hlt2 (by assumption))
    go_quiet (fail)
    go_wp2
    go_ret
    exact ⟨yB (by rw [<- H.out];simp),Drawn.more (Drawn.more ⟨n,rfl⟩ _) _⟩
   ·have H := yO (hk.succ hlt1 hlt2 (by assumption))
    go_roundw
    case rel=>exact ⟨k+1,by go_num,H.out,_,rfl⟩
    case measure=>simp [intOf];omega
  ·have H := yO (less_end hk hlt)
   by_cases hlt1:k < a.size
   ·have hlt2:¬ k < b.size:=fun h=>hlt ⟨hlt1,h⟩
    go_wp2
    go_ret
    exact ⟨yB (by rw [<- H.out]),⟨n,rfl⟩⟩
   ·go_wp2
    go_ret
    exact ⟨yB (by rw [<- H.out]),⟨n,rfl⟩⟩
def mid (a b:ByteArray):ByteArray × Bool:=if cmp a.data.toList b.data.toList < 0 then (b.extract 0 (com a.data.toList b.data.toList+1),true) else (⟨#[]⟩,false)
end Go.Proofs.YtdodckipblafmaaGreatDoor.Ord
namespace Go.Proofs.YtdodckipblafmaaGreatDoor.Sim.Pr7
open Go.RowKit
set_option maxRecDepth 100000
def pA (p:Pr):AV:=.agg [S p.1,S p.2]
theorem zH {l:List Pr} {k:Nat} (h:k < l.length):(l.map pA)[k]? = some (.agg [S l[k].1,S l[k].2]):=by simp [h,pA]
theorem Yu (l:List Pr):(l.map pA).all AV.isP=true:=by simp [pA,AV.isP,AV.isC,AV.isC0]
def cutB (s:ByteArray) (m:Nat):ByteArray:=s.extract 0 (min s.size m)
set_option maxHeartbeats 4000000 in
theorem cutP (G:Nat->AV) (s:ByteArray) (m:Nat) (hs:s.size<=9223372036854775807):PC Tryz.prog G 9 [S s,I m] (S (cutB s m)):=by
 have e:(if (m:Int) < (s.size:Int) then (m:Int) else (s.size:Int))=((min s.size m:Nat):Int):=by split<;>omega
 have e2:zR Tryz.prog (Instr.sliceAt 9 (.string s) none (some (.int .i64 ((min s.size m:Nat):Int))) none)=some (.string (cutB s m)):=by
  rw [cutV xw (by omega) (by omega)];rfl
 refine yg cop9 ?_
 show W _ _ _ _ ⟨_,_⟩;simp only [A9,List.cons_append,List.nil_append,List.length_cons,List.length_nil,Nat.reduceAdd,Nat.reduceSub,List.replicate]
 repeat (first|(with_reducible first|refine zQ ?_|refine zP ?_|refine zw ?_|refine zp ?_|refine Zm ?_)|((with_reducible first|refine ks fun K hK=>?_|refine kd fun K hK=>?_|refine kc fun K hK2 hK hK3=>?_|refine ZC fun K hR=>?_|refine Zl rfl fun K hR=>?_|refine Zh fun K hR=>?_);simp (disch:=omega) only [bg0,bg1,bg2,bg3,bg4,zt,zS,eff,AX.ev,St.put,zO,zK,ap1,zi,simprocAttr,zu,AV.cells,AV.fine,AV.one,zY,zq,live,zo,rdA,zg,wrA,zI,zr,zW,zT,zV,zk,zb,zm,zj,ze,cut,id,ap2,zx,zy,geB,AOp.cls,AOp.xs,ltB,ltC,Option.toList,List.cons_append,decide_eq_true,decide_eq_false,if_pos,if_neg,List.length_map,zH,bVb,bVn,eq_self,Bool.and_self,BEq.rfl,not_true_eq_false,e,e2];(first|(with_reducible first|(refine hK _ ?_;clear hK K)|(refine hK ?_;clear hK hK3 K hK2)|(refine hK3 ?_;clear hK hK3 K hK2))|((with_reducible refine hR _ ?_ ?_ ?_ ?_);rotate_left 2;rfl;rfl)|((with_reducible refine hR _ ?_);rfl))))
def few (l:List Pr):List Pr:=(l.take 40).map fun p=>(cutB p.1 40,cutB p.2 40)
theorem few_take {l:List Pr} {k:Nat} (h:k < l.length) (h2:k < 40):((few l).take k).map pA++[.agg [S (cutB l[k].1 40),S (cutB l[k].2 40)]]=((few l).take (k+1)).map pA:=by
 have h3:k < (few l).length:=by simp [few];omega
 rw [List.take_add_one,List.getElem?_eq_getElem h3]
 simp [few,pA]
theorem wv (l:List Pr):(few l).length=min 40 l.length:=by simp [few]
theorem takeP {l:List Pr} {k:Nat}:((l.take k).map pA).take k=(l.take k).map pA:=by
 apply List.take_of_length_le;simp;omega
set_option maxHeartbeats 4000000 in
theorem few07 (G:Nat->AV) (l:List Pr) (hl:l.length<=9223372036854775807) (hs:∀ p ∈ l,p.1.size<=9223372036854775807/\p.2.size<=9223372036854775807):PC Tryz.prog G 51 [.sl 2 (l.map pA)] (.sl 2 ((few l).map pA)):=by
 obtain ⟨N,hN⟩:∃ N,N=(few l).length:=⟨_,rfl⟩
 have hN2:=wv l
 refine yg cop51 ?_
 show W _ _ _ _ ⟨_,_⟩;simp only [A51,List.cons_append,List.nil_append,List.length_cons,List.length_nil,Nat.reduceAdd,Nat.reduceSub,List.replicate]
 repeat (first|(with_reducible first|refine zQ ?_|refine zP ?_|refine zZ ?_|refine zw ?_|refine zp ?_)|((with_reducible first|refine ks fun K hK=>?_|refine kd fun K hK=>?_|refine kc fun K hK2 hK hK3=>?_);simp (disch:=omega) only [bg0,bg1,bg2,bg3,bg4,zt,zS,eff,AX.ev,St.put,zO,zK,ap1,zi,simprocAttr,zu,AV.cells,AV.fine,AV.one,zY,zq,live,zo,rdA,zg,wrA,zI,zr,zW,zT,zV,zk,zb,zm,zj,ze,cut,id,ap2,zx,zy,geB,AOp.cls,AOp.xs,ltB,ltC,Option.toList,List.cons_append,decide_eq_true,decide_eq_false,if_pos,if_neg,List.length_map,zH,bVb,bVn,eq_self,Bool.and_self,BEq.rfl,not_true_eq_false];(with_reducible first|(refine hK _ ?_;clear hK K)|(refine hK ?_;clear hK hK3 K hK2)|(refine hK3 ?_;clear hK hK3 K hK2))))
 refine ZT [3,4,6,7,8,9,10,11,12,13,14,15,16,17,18,19,20,21,22,23,24,25,26,27,28,29,30,31] (fun k v H=>v 3 = .ol 0 k k/\v 4=I k/\∃ J,H=⟨31,2,((few l).take k).map pA,k,0⟩::J) N ⟨rfl,rfl,[],rfl⟩ ?_ ?_
 ·rintro k v H hk ⟨h3, h4, J, rfl⟩
  simp only [mix,z9,Za,Zb,simprocAttr,if_true,if_false,h3,h4]
  have hk1:k < l.length:=by omega
  have h1:=(hs l[k] (List.getElem_mem hk1)).1
  have h2:=(hs l[k] (List.getElem_mem hk1)).2
  have h5:=few_take hk1 (by omega)
  have h6:(((few l).take k).map pA).length=k:=by simp;omega
  repeat (first|(with_reducible first|refine zQ ?_|refine zP ?_|refine Zk ?_|refine zZ ?_|refine Zd ?_|refine zw ?_|refine Ze ?_|refine zp ?_|refine z5 ?_)|((with_reducible refine yV ?_ ?_);rfl)|((with_reducible first|refine ks fun K hK=>?_|refine kd fun K hK=>?_|refine kc fun K hK2 hK hK3=>?_);simp (disch:=omega) only [bg0,bg1,bg2,bg3,bg4,zt,zS,eff,AX.ev,St.put,zO,zK,ap1,zi,simprocAttr,zu,AV.cells,AV.fine,AV.one,zY,zq,live,zo,rdA,zg,wrA,zI,zr,zW,zT,zV,zk,zb,zm,zj,ze,cut,id,ap2,zx,zy,geB,AOp.cls,AOp.xs,ltB,ltC,Option.toList,List.cons_append,decide_eq_true,decide_eq_false,if_pos,if_neg,List.length_map,zH,bVb,bVn,eq_self,Bool.and_self,BEq.rfl,not_true_eq_false,h6,takeP,h5];(with_reducible first|(refine hK _ ?_;clear hK K)|(refine hK ?_;clear hK hK3 K hK2)|(refine hK3 ?_;clear hK hK3 K hK2)))|((first|((with_reducible refine kpd 9 ?_ ?_ ?_ ?_ ?_);rotate_left 1));(focus (simp (disch:=omega) only [bg0,bg1,bg2,bg3,bg4,zt,zS,eff,AX.ev,St.put,zO,zK,ap1,zi,simprocAttr,zu,AV.cells,AV.fine,AV.one,zY,zq,live,zo,rdA,zg,wrA,zI,zr,zW,zT,zV,zk,zb,zm,zj,ze,cut,id,ap2,zx,zy,geB,AOp.cls,AOp.xs,ltB,ltC,Option.toList,List.cons_append,decide_eq_true,decide_eq_false,if_pos,if_neg,List.length_map,zH,bVb,bVn,eq_self,Bool.and_self,BEq.rfl,not_true_eq_false,h6,takeP,h5];try rfl));(first|(rfl;exact (by refine cutP G _ 40 ?_;assumption)))))
  exact ⟨rfl,rfl,rfl,_,rfl⟩
 ·rintro v H ⟨h3, h4, J, rfl⟩
  simp only [mix,z9,Za,Zb,simprocAttr,if_true,if_false,h3,h4]
  have h6:(((few l).take N).map pA).length=N:=by simp;omega
  have h7:(few l).take N=few l:=by rw [hN,List.take_length]
  have h8:((few l).map pA).take N=(few l).map pA:=by rw [hN];apply List.take_of_length_le;simp
  by_cases h40:l.length<=40
  all_goals
   repeat (first|(with_reducible first|refine zQ ?_|refine zP ?_|refine Zp ?_|refine zw ?_|refine zp ?_|refine Zc ?_|refine z6 ?_|refine Zm ?_)|((with_reducible refine yV ?_ ?_);rfl)|((with_reducible refine YF ?_ ?_);rfl)|((with_reducible first|refine ks fun K hK=>?_|refine kd fun K hK=>?_|refine kc fun K hK2 hK hK3=>?_);simp (disch:=omega) only [bg0,bg1,bg2,bg3,bg4,zt,zS,eff,AX.ev,St.put,zO,zK,ap1,zi,simprocAttr,zu,AV.cells,AV.fine,AV.one,zY,zq,live,zo,rdA,zg,wrA,zI,zr,zW,zT,zV,zk,zb,zm,zj,ze,cut,id,ap2,zx,zy,geB,AOp.cls,AOp.xs,ltB,ltC,Option.toList,List.cons_append,decide_eq_true,decide_eq_false,if_pos,if_neg,List.length_map,zH,bVb,bVn,eq_self,Bool.and_self,BEq.rfl,not_true_eq_false];(with_reducible first|(refine hK _ ?_;clear hK K)|(refine hK ?_;clear hK hK3 K hK2)|(refine hK3 ?_;clear hK hK3 K hK2))))
   refine Zh fun K hK=>?_
   simp only [zS,List.getD_cons_succ,List.getD_cons_zero]
   refine hK _ ?_ ?_ ?_ ?_
   rotate_left 2
   simp only [yi,pur,ZE,List.getElem?_cons_zero,List.length_map,<- hN,h7,h8,Nat.le_refl,and_self,and_true,true_and]
   rw [if_pos ⟨Yu _,rfl⟩]
   rfl
theorem cmpP (G:Nat->AV) (a b:ByteArray) (ha:a.size<=9223372036854775807) (hb:b.size<=9223372036854775807):PC Tryz.prog G 38 [S a,S b] (I (cB a b)) :=
 ZV rfl rfl (fun w=>(Ord.Compare_calls a b w (by rw [ZN];exact ha) (by rw [ZN];exact hb)).mono fun e w' h=>h.fresh)
theorem lessP (G:Nat->AV) (a b:ByteArray) (ha:a.size<=9223372036854775807) (hb:b.size<=9223372036854775807):PC Tryz.prog G 41 [S a,S b] (Bo (decide (cB a b < 0))):=by
 have e:decide (cB a b < 0)=Ord.less a.data.toList b.data.toList:=by
  have h:cB a b = -1\/cB a b=0\/cB a b=1:=Xr a b
  unfold Ord.less
  show decide (cB a b < 0)=(cB a b == -1)
  rcases h with h|h|h<;>rw [h]<;>rfl
 rw [e]
 exact ZV rfl rfl (fun w=>(Ord.RefLess_calls a b w (by rw [ZN];exact ha) (by rw [ZN];exact hb)).mono fun e w' h=>h.fresh)
end Go.Proofs.YtdodckipblafmaaGreatDoor.Sim.Pr7
namespace Go.Proofs.YtdodckipblafmaaGreatDoor.Hash
open Go.RowKit
def I64 (a:Int):Prop:=-9223372036854775808<=a/\a<=9223372036854775807
def cl (b:Int):Nat:=if b < 0 then 0 else if b > 64 then 64 else b.toNat
theorem cl_le (b:Int):cl b<=64:=by
 unfold cl
 split
 ·omega
 ·split<;>omega
theorem mask_eq (h c:Nat) (hh:h < 18446744073709551616) (hc:c<=64):bits .and .u64 (h:Int) (IntKind.u64.wrap (IntKind.u64.wrap (2 ^ c) - 1))=((h % 2 ^ c:Nat):Int):=by
 have e:IntKind.u64.wrap (IntKind.u64.wrap ((2:Int) ^ c) - 1)=((2 ^ c - 1:Nat):Int):=by
  have h1:(1:Nat)<=2 ^ c:=Nat.one_le_two_pow
  have h2:(2:Nat) ^ c<=2 ^ 64:=Nat.pow_le_pow_right (by decide) hc
  have h3:((2:Int) ^ c)=((2 ^ c:Nat):Int):=by norm_cast
  rw [h3]
  generalize (2:Nat) ^ c=x at *
  simp only [IntKind.wrap,IntKind.bits,IntKind.signed]
  simp
  omega
 rw [e,u64_and_nat _ _ hh (by have h2:(2:Nat) ^ c<=2 ^ 64:=Nat.pow_le_pow_right (by decide) hc;omega),Nat.and_two_pow_sub_one_eq_mod]
theorem clamp_calls (b : Int) (w : World) (hb : I64 b) :
  Calls Tryz.prog 79 #[.int .i64 b] w (Quiet (.int .i64 (cl b)) w):=by
 unfold I64 at hb
 have e:cl b=if b < 0 then 0 else if b > 64 then 64 else b.toNat:=rfl
 generalize cl b=c at *
 split at e
 ·subst e
  go_enter Tryz.func79,Tryz.ntmps79
  go_wp2
  all_goals
   go_ret
   exact ⟨rfl,Drawn.refl _⟩
 ·split at e
  ·subst e
   go_enter Tryz.func79,Tryz.ntmps79
   go_wp2
   all_goals
    go_ret
    exact ⟨rfl,Drawn.refl _⟩
  ·go_enter Tryz.func79, Tryz.ntmps79
   go_wp2
   all_goals
    go_ret
    exact ⟨ZG (by omega),Drawn.refl _⟩
theorem low_calls (h : Nat) (b : Int) (w : World) (hh : h < 18446744073709551616) (hb : I64 b) :
  Calls Tryz.prog 59 #[.int .u64 h,.int .i64 b] w (Quiet (.int .u64 ((h % 2 ^ cl b:Nat):Int)) w):=by
 have k1:=fun w=>Lib.hid (clamp_calls b w hb)
 have hc:=cl_le b
 generalize cl b=c at *
 go_enter Tryz.func59,Tryz.ntmps59
 go_wp2_with (go_at_call 79;(with_reducible refine (k1 _).out.mono ?_);rintro e w' ⟨rfl,q,rfl⟩)
 have e:=mask_eq h c hh hc
 go_ret
 exact ⟨ZG e,⟨_,rfl⟩⟩
theorem Levels_calls (b : Int) (w : World) (hb : I64 b) :
  Calls Tryz.prog 60 #[.int .i64 b] w (Quiet (.int .i64 (((cl b+4) / 5:Nat):Int)) w):=by
 have k1:=fun w=>Lib.hid (clamp_calls b w hb)
 have hc:=cl_le b
 generalize cl b=c at *
 go_enter Tryz.func60,Tryz.ntmps60
 go_wp2_with (go_at_call 79;(with_reducible refine (k1 _).out.mono ?_);rintro e w' ⟨rfl,q,rfl⟩)
 go_ret
 exact ⟨ZG (by omega),⟨_,rfl⟩⟩
def XH:Nat:=14695981039346656037
def step (h:Nat) (c:UInt8):Nat:=((h ^^^ c.toNat) * 1099511628211) % 18446744073709551616
def fnv (l:List UInt8):Nat:=l.foldl step XH
theorem step_lt (h:Nat) (c:UInt8):step h c < 18446744073709551616:=by unfold step;omega
theorem fold_lt (l:List UInt8) (h:Nat) (hh:h < 18446744073709551616):l.foldl step h < 18446744073709551616:=by
 induction l generalizing h with
 | nil=>exact hh
 | cons c l ih=>exact ih _ (step_lt h c)
theorem start_lt:XH < 18446744073709551616:=by unfold XH;omega
theorem wk (l:List UInt8):fnv l=l.foldl step XH:=by unfold fnv;exact Eq.refl (l.foldl step XH)
theorem fnv_lt (l:List UInt8):fnv l < 18446744073709551616:=by rw [wk];exact fold_lt l XH start_lt
theorem fold_snoc (l:List UInt8) (c:UInt8) (h:Nat):(l++[c]).foldl step h=step (l.foldl step h) c:=by
 rw [List.foldl_append,List.foldl_cons,List.foldl_nil]
theorem fnv_snoc (l:List UInt8) (c:UInt8):fnv (l++[c])=step (fnv l) c:=by
 rw [wk,wk,fold_snoc]
theorem step_eq (h:Nat) (c:UInt8) (hh:h < 18446744073709551616):IntKind.u64.wrap (bits .xor .u64 (h:Int) (IntKind.u64.wrap (c.toNat:Int)) * 1099511628211)=((step h c:Nat):Int):=by
 have hw:IntKind.u64.wrap (c.toNat:Int)=(c.toNat:Int):=by have:=c.toNat_lt;simp only [IntKind.wrap,IntKind.bits,IntKind.signed];simp;omega
 rw [hw,u64_xor_nat _ _ hh (by have:=c.toNat_lt;omega)]
 unfold step
 generalize (h ^^^ c.toNat)=x
 simp only [IntKind.wrap,IntKind.bits,IntKind.signed]
 simp
theorem take_snoc (s:ByteArray) (k:Nat) (h:k < s.size):s.data.toList.take (k+1)=s.data.toList.take k++[s[k]]:=by
 rw [List.take_succ_eq_append_getElem (by simpa using h)];rfl
theorem take_all (s:ByteArray) (k:Nat) (h:s.size<=k):s.data.toList.take k=s.data.toList:=by
 apply List.take_of_length_le;simpa using h
set_option maxHeartbeats 400000 in
theorem Of_calls (s : ByteArray) (b : Int) (w : World) (hs : s.size <= 100000) (hb : I64 b) :
  Calls Tryz.prog 36 #[.string s,.int .i64 b] w (Quiet (.int .u64 ((fnv s.data.toList % 2 ^ cl b:Nat):Int)) w):=by
 have kl:=fun w=>Lib.hid (low_calls (fnv s.data.toList) b w (fnv_lt _) hb)
 go_enter Tryz.func36,Tryz.ntmps36
 go_wp2_with fail
 go_loop [5,9] (fun h i=>∃ k:Nat,i = .int .i64 k/\k<=s.size/\h = .int .u64 ((fnv (s.data.toList.take k):Nat):Int)) (fun _ i=>s.size - (intOf i).toNat)
 case atStart=>exact ⟨0,rfl,by omega,rfl⟩
 case round =>
  obtain ⟨k,rfl,hk,rfl⟩:=hrel
  by_cases hlt:k < s.size
  ·have g1 : (k : Int) < (s.size : Int) := by omega
   have e1:=step_eq (fnv (s.data.toList.take k)) s[k] (fnv_lt _)
   rw [<- fnv_snoc,<- take_snoc s k hlt] at e1
   generalize fnv (s.data.toList.take k)=x at *
   have E1:=Lib.hid e1
   clear e1
   go_wp2_with fail
   go_round
   case rel=>exact ⟨k+1,by go_num,by omega,by rw [<- E1.out]⟩
   case measure=>simp [intOf];omega
  ·rw [take_all s k (by omega)]
   go_wp2_with (go_at_call 59;(with_reducible refine (kl _).out.mono ?_);rintro e w' ⟨rfl,q,rfl⟩)
   go_ret
   exact ⟨rfl,⟨_,rfl⟩⟩
theorem yH (b : Int) (w : World) (hb : I64 b) :
  Calls Tryz.prog 63 #[.int .i64 b] w (Quiet (.int .i64 (cl b)) w):=by
 unfold I64 at hb
 have e:cl b=if b < 0 then 0 else if b > 64 then 64 else b.toNat:=rfl
 generalize cl b=c at *
 split at e
 ·subst e
  go_enter Tryz.func63,Tryz.ntmps63
  go_wp2
  all_goals
   go_ret
   exact ⟨rfl,Drawn.refl _⟩
 ·split at e
  ·subst e
   go_enter Tryz.func63,Tryz.ntmps63
   go_wp2
   all_goals
    go_ret
    exact ⟨rfl,Drawn.refl _⟩
  ·go_enter Tryz.func63, Tryz.ntmps63
   go_wp2
   all_goals
    go_ret
    exact ⟨ZG (by omega),Drawn.refl _⟩
def Low (H k y z t:Nat):Prop:=y=H / 2 ^ k/\z=H % 2 ^ k/\t=2 ^ k % 18446744073709551616
theorem sum_u64 (y z t:Nat) (g4:z+t * (y % 2) < 18446744073709551616) (g5:t * (y % 2) < 18446744073709551616):IntKind.u64.wrap ((z:Int)+IntKind.u64.wrap ((t:Int) * ((y:Int) % 2)))=((z+t * (y % 2):Nat):Int):=by
 have e:((t:Int) * ((y:Int) % 2))=((t * (y % 2):Nat):Int):=by norm_cast
 rw [e]
 generalize t * (y % 2)=x at *
 simp only [IntKind.wrap,IntKind.bits,IntKind.signed]
 simp
 omega
theorem dbl_u64 (t:Nat):IntKind.u64.wrap (2 * (t:Int))=((2 * t % 18446744073709551616:Nat):Int):=by
 simp only [IntKind.wrap,IntKind.bits,IntKind.signed]
 simp
theorem Low.zero (H:Nat):Low H 0 H 0 1:=⟨by simp,by rw [Nat.pow_zero,Nat.mod_one],by decide⟩
theorem pow_le_63 {k:Nat} (h:k < 64):2 ^ k<=9223372036854775808:=Nat.le_trans (Nat.pow_le_pow_right (by decide) (show k<=63 by omega)) (by decide)
theorem Low.fits {H k y z t:Nat} (hk:k < 64) (h:Low H k y z t):t<=9223372036854775808/\z+t * (y % 2) < 18446744073709551616/\t * (y % 2) < 18446744073709551616:=by
 obtain ⟨rfl,rfl,rfl⟩:=h
 have h1:=pow_le_63 hk
 have h2:H % 2 ^ k < 2 ^ k:=Nat.mod_lt _ (Nat.two_pow_pos k)
 generalize 2 ^ k=p at *
 have h3:p % 18446744073709551616=p:=by omega
 rw [h3]
 have h4:H / p % 2=0\/H / p % 2=1:=by omega
 rcases h4 with h4|h4<;>rw [h4]<;>simp<;>omega
theorem Low.succ {H k y z t:Nat} (hk:k < 64) (h:Low H k y z t):Low H (k+1) (y / 2) (z+t * (y % 2)) (2 * t % 18446744073709551616):=by
 obtain ⟨rfl,rfl,rfl⟩:=h
 have h1:=pow_le_63 hk
 have h3:2 ^ k % 18446744073709551616=2 ^ k:=Nat.mod_eq_of_lt (Nat.lt_of_le_of_lt h1 (by decide))
 rw [h3]
 refine ⟨by rw [Nat.pow_succ,Nat.div_div_eq_div_mul],by rw [Nat.mod_pow_succ],by rw [Nat.pow_succ,Nat.mul_comm]⟩
set_option maxHeartbeats 400000 in
theorem RefOf_calls (s : ByteArray) (b : Int) (w : World) (hs : s.size <= 100000) (hb : I64 b) :
  Calls Tryz.prog 39 #[.string s,.int .i64 b] w (Quiet (.int .u64 ((fnv s.data.toList % 2 ^ cl b:Nat):Int)) w):=by
 have kc:=fun w=>Lib.hid (yH b w hb)
 have hc:=cl_le b
 generalize cl b=c at *
 go_enter Tryz.func39,Tryz.ntmps39
 go_wp2_with fail
 go_loop [5,6] (fun h i=>∃ k:Nat,i = .int .i64 k/\k<=s.size/\h = .int .u64 ((fnv (s.data.toList.take k):Nat):Int)) (fun _ i=>s.size - (intOf i).toNat)
 case atStart=>exact ⟨0,rfl,by omega,rfl⟩
 case round =>
  obtain ⟨k,rfl,hk,rfl⟩:=hrel
  by_cases hlt:k < s.size
  ·have g1 : (k : Int) < (s.size : Int) := by omega
   have e1:=step_eq (fnv (s.data.toList.take k)) s[k] (fnv_lt _)
   rw [<- fnv_snoc,<- take_snoc s k hlt] at e1
   generalize fnv (s.data.toList.take k)=x at *
   have E1:=Lib.hid e1
   clear e1
   go_wp2_with fail
   go_round
   case rel=>exact ⟨k+1,by go_num,by omega,by rw [<- E1.out]⟩
   case measure=>simp [intOf];omega
  ·rw [take_all s k (by omega)]
   have hf:=fnv_lt s.data.toList
   generalize fnv s.data.toList=H at *
   go_wp2_with fail
   go_loopw [5,7,8,9] (fun x o u i wr=>∃ k:Nat,i = .int .i64 k/\k<=c/\(∃ y z t:Nat,y < 18446744073709551616/\z < 18446744073709551616/\t < 18446744073709551616/\x = .int .u64 (y:Int)/\o = .int .u64 (z:Int)/\u = .int .u64 (t:Int)/\Hid (Low H k y z t))/\Drawn w wr) (fun _ _ _ i _=>c - (intOf i).toNat)
   case atStart=>exact ⟨0,rfl,by omega,⟨H,0,1,by omega,by omega,by omega,rfl,rfl,rfl,yO (Low.zero H)⟩,Drawn.refl w⟩
   case round =>
    obtain ⟨k,rfl,hk,⟨y,z,t,hy,hz,ht,rfl,rfl,rfl,HL⟩,q,rfl⟩:=hrel
    by_cases hlt:k < c
    ·have g1 : (k : Int) < (c : Int) := by omega
     have HL2:=Lib.hid (Low.succ (by omega:k < 64) HL.out)
     have g2:=Low.fits (by omega:k < 64) HL.out
     obtain ⟨g3,g4,g5⟩:=g2
     go_wp2_with (go_at_call 63;(with_reducible refine (kc _).out.mono ?_);rintro e w' ⟨rfl,q,rfl⟩)
     go_roundw
     case rel =>
      refine ⟨k+1,by go_num,by omega,⟨y / 2,z+t * (y % 2),2 * t % 18446744073709551616,by omega,g4,by omega,by go_num,?_,?_,HL2⟩,_,rfl⟩
      ·rw [sum_u64 y z t g4 g5]
      ·rw [dbl_u64]
     case measure=>simp [intOf];omega
    ·have e : k = c := by omega
     go_wp2_with (go_at_call 63;(with_reducible refine (kc _).out.mono ?_);rintro e w' ⟨rfl,q,rfl⟩)
     go_ret
     exact ⟨ZG (by rw [HL.out.2.1,e]),⟨_,rfl⟩⟩
theorem chunk_eq (h c n:Nat) (hh:h < 18446744073709551616) (hc:c<=64):wrap64 (bits .and .u64 ((h:Int) % 2 ^ c / 2 ^ (5 * (n:Int)).toNat) 31)=((h % 2 ^ c / 2 ^ (5 * n) % 32:Nat):Int):=by
 have e:((h:Int) % 2 ^ c / 2 ^ (5 * (n:Int)).toNat)=((h % 2 ^ c / 2 ^ (5 * n):Nat):Int):=by
  have h1:(5 * (n:Int)).toNat=5 * n:=by omega
  rw [h1]
  norm_cast
 have hb:h % 2 ^ c / 2 ^ (5 * n) < 18446744073709551616:=Nat.lt_of_le_of_lt (Nat.div_le_self _ _) (Nat.lt_of_le_of_lt (Nat.mod_le _ _) hh)
 rw [e]
 generalize h % 2 ^ c / 2 ^ (5 * n)=x at *
 have:=u64_and_nat x 31 hb (by decide)
 rw [show ((31:Nat):Int)=31 from rfl] at this
 rw [this,nat_mask5]
 unfold wrap64
 omega
def chunk (h:Nat) (l:Int) (c:Nat):Nat:=if 0<=l/\l < (c+4) / 5 then h % 2 ^ c / 2 ^ (5 * l.toNat) % 32 else 0
set_option maxHeartbeats 400000 in
theorem Chunk_calls (h : Nat) (l b : Int) (w : World) (hh : h < 18446744073709551616) (hl : I64 l) (hb : I64 b) :
  Calls Tryz.prog 61 #[.int .u64 h,.int .i64 l,.int .i64 b] w (Quiet (.int .i64 (chunk h l (cl b))) w):=by
 have k1:=fun w=>Lib.hid (Levels_calls b w hb)
 have k2:=fun w=>Lib.hid (low_calls h b w hh hb)
 have hc:=cl_le b
 unfold I64 at hl
 generalize cl b=c at *
 have e:chunk h l c=if 0<=l/\l < (c+4) / 5 then h % 2 ^ c / 2 ^ (5 * l.toNat) % 32 else 0:=rfl
 by_cases h1:l < 0
 ·rw [if_neg (by omega)] at e
  rw [e];clear e
  go_enter Tryz.func61,Tryz.ntmps61
  go_wp2_with fail
  go_ret
  exact ⟨rfl,Drawn.refl _⟩
 by_cases h2:l≥(((c+4) / 5:Nat):Int)
 ·rw [if_neg (by omega)] at e
  rw [e];clear e
  have h3:((c:Int)+4) / 5<=l:=by omega
  go_enter Tryz.func61,Tryz.ntmps61
  go_wp2_with (go_at_call 60;(with_reducible refine (k1 _).out.mono ?_);rintro e w' ⟨rfl,q,rfl⟩)
  go_ret
  exact ⟨rfl,⟨_,rfl⟩⟩
 ·rw [if_pos (by omega)] at e
  obtain ⟨n,rfl⟩:=Int.eq_ofNat_of_zero_le (show 0<=l by omega)
  have x:=chunk_eq h c n hh hc
  rw [Int.toNat_natCast] at e
  rw [e,<- x]
  clear e x
  have h3:(n:Int) < ((c:Int)+4) / 5:=by omega
  go_enter Tryz.func61,Tryz.ntmps61
  go_wp2_with (first|(go_at_call 60;(with_reducible refine (k1 _).out.mono ?_);rintro e w' ⟨rfl,q,rfl⟩)|(go_at_call 59;(with_reducible refine (k2 _).out.mono ?_);rintro e w' ⟨rfl,q,rfl⟩))
  go_ret
  exact ⟨rfl,⟨_,rfl⟩⟩
theorem bit_calls (h i : Nat) (w : World) (hh : h < 18446744073709551616) (hi : i <= 100) :
  Calls Tryz.prog 80 #[.int .u64 h,.int .i64 i] w (Quiet (.int .i64 ((h / 2 ^ i % 2:Nat):Int)) w):=by
 go_enter Tryz.func80,Tryz.ntmps80
 go_wp2_with fail
 go_loop [0,5] (fun x j=>∃ k:Nat,j = .int .i64 k/\k<=i/\∃ y:Nat,y<=h/\x = .int .u64 (y:Int)/\Hid (y=h / 2 ^ k)) (fun _ j=>i - (intOf j).toNat)
 case atStart=>exact ⟨0,rfl,by omega,h,by omega,rfl,yO (by simp)⟩
 case round =>
  obtain ⟨k,rfl,hk,y,hy,rfl,H⟩:=hrel
  by_cases hlt:k < i
  ·have g1 : (k : Int) < (i : Int) := by omega
   go_wp2_with fail
   go_round
   case rel=>exact ⟨k+1,by go_num,by omega,y / 2,by omega,by go_num,yO (by rw [H.out,Nat.pow_succ,Nat.div_div_eq_div_mul])⟩
   case measure=>simp [intOf];omega
  ·have e : k = i := by omega
   have H2:Hid (y=h / 2 ^ i):=by rw [<- e];exact H
   clear H e
   go_wp2_with fail
   go_ret
   refine ⟨ZG ?_,Drawn.refl _⟩
   have:=congrArg (fun n:Nat=>((n % 2:Nat):Int)) H2.out
   simpa using this
theorem RefLevels_calls (b : Int) (w : World) (hb : I64 b) :
  Calls Tryz.prog 64 #[.int .i64 b] w (Quiet (.int .i64 (((cl b+4) / 5:Nat):Int)) w):=by
 have kc:=fun w=>Lib.hid (yH b w hb)
 have hc:=cl_le b
 generalize cl b=c at *
 go_enter Tryz.func64,Tryz.ntmps64
 go_wp2_with fail
 go_loopw [3] (fun i wr=>∃ k:Nat,i = .int .i64 k/\k<=(c+4) / 5/\Drawn w wr) (fun i _=>100 - (intOf i).toNat)
 case atStart=>exact ⟨0,rfl,by omega,Drawn.refl w⟩
 case round =>
  obtain ⟨k,rfl,hk,q,rfl⟩:=hrel
  by_cases hlt:k < (c+4) / 5
  ·have g1 : 5 * (k : Int) < (c : Int) := by omega
   go_wp2_with (go_at_call 63;(with_reducible refine (kc _).out.mono ?_);rintro e w' ⟨rfl,q,rfl⟩)
   go_roundw
   case rel=>exact ⟨k+1,by go_num,by omega,_,rfl⟩
   case measure=>simp [intOf];omega
  ·have g1 : ¬ 5 * (k : Int) < (c : Int) := by omega
   go_wp2_with (go_at_call 63;(with_reducible refine (kc _).out.mono ?_);rintro e w' ⟨rfl,q,rfl⟩)
   go_ret
   exact ⟨ZG (by omega),⟨_,rfl⟩⟩
theorem low_bit (h c i:Nat) (hi:i < c):h % 2 ^ c / 2 ^ i % 2=h / 2 ^ i % 2:=by
 have e:2 ^ c=2 ^ i * 2 ^ (c - i):=by rw [<- Nat.pow_add];congr 1;omega
 rw [e,Nat.mod_mul_right_div_self]
 have e2:2 ^ (c - i)=2 * 2 ^ (c - i - 1):=by rw [<- Nat.pow_succ'];congr 1;omega
 rw [e2,Nat.mod_mul_right_mod]
def Part (x k z t:Nat):Prop:=z=x % 2 ^ k/\t=2 ^ k
theorem Part.zero (x:Nat):Part x 0 0 1:=⟨by rw [Nat.pow_zero,Nat.mod_one],rfl⟩
theorem Part.succ {x k z t:Nat} (h:Part x k z t):Part x (k+1) (z+t * (x / 2 ^ k % 2)) (2 * t):=by
 obtain ⟨rfl,rfl⟩:=h
 exact ⟨by rw [Nat.mod_pow_succ],by rw [Nat.pow_succ,Nat.mul_comm]⟩
theorem Part.fits {x k z t:Nat} (hk:k < 5) (h:Part x k z t):z<=32/\t<=32/\t * (x / 2 ^ k % 2)<=32:=by
 obtain ⟨rfl,rfl⟩:=h
 have h1:2 ^ k<=32:=Nat.le_trans (Nat.pow_le_pow_right (by decide) (show k<=5 by omega)) (by decide)
 have h2:x % 2 ^ k < 2 ^ k:=Nat.mod_lt _ (Nat.two_pow_pos k)
 have h4:x / 2 ^ k % 2=0\/x / 2 ^ k % 2=1:=by omega
 generalize 2 ^ k=p at *
 rcases h4 with h4|h4<;>rw [h4]<;>simp<;>omega
theorem Part.le {x k z t:Nat} (hk:k<=5) (h:Part x k z t):z<=32:=by
 obtain ⟨rfl,rfl⟩:=h
 have h1:2 ^ k<=32:=Nat.le_trans (Nat.pow_le_pow_right (by decide) hk) (by decide)
 have h2:x % 2 ^ k < 2 ^ k:=Nat.mod_lt _ (Nat.two_pow_pos k)
 omega
theorem Part.done {x k z t c l:Nat} (h:Part x k z t) (hx:x < 2 ^ (c - 5 * l)) (hk:k<=5) (hd:k=5\/5 * l+k=c):z=x % 32:=by
 obtain ⟨rfl,rfl⟩:=h
 rcases hd with rfl|hd
 ·rfl
 ·have e : c - 5 * l = k := by omega
  rw [e] at hx
  rw [Nat.mod_eq_of_lt hx,Nat.mod_eq_of_lt]
  exact Nat.lt_of_lt_of_le hx (Nat.le_trans (Nat.pow_le_pow_right (by decide) hk) (by decide))
theorem high_lt (h c l:Nat) (hl:5 * l<=c):h % 2 ^ c / 2 ^ (5 * l) < 2 ^ (c - 5 * l):=by
 rw [Nat.div_lt_iff_lt_mul (Nat.two_pow_pos _),<- Nat.pow_add]
 have e:c - 5 * l+5 * l=c:=by omega
 rw [e]
 exact Nat.mod_lt _ (Nat.two_pow_pos c)
theorem high_bit (h c l k:Nat) (hk:5 * l+k < c):h % 2 ^ c / 2 ^ (5 * l) / 2 ^ k % 2=h / 2 ^ (5 * l+k) % 2:=by
 rw [Nat.div_div_eq_div_mul,<- Nat.pow_add,low_bit h c _ hk]
set_option maxHeartbeats 800000 in
theorem RefChunk_calls (h : Nat) (l b : Int) (w : World) (hh : h < 18446744073709551616) (hl : I64 l) (hb : I64 b) :
  Calls Tryz.prog 65 #[.int .u64 h,.int .i64 l,.int .i64 b] w (Quiet (.int .i64 (chunk h l (cl b))) w):=by
 have k1:=fun w=>Lib.hid (RefLevels_calls b w hb)
 have k2:=fun w=>Lib.hid (yH b w hb)
 have hc:=cl_le b
 unfold I64 at hl
 generalize cl b=c at *
 have e:chunk h l c=if 0<=l/\l < (c+4) / 5 then h % 2 ^ c / 2 ^ (5 * l.toNat) % 32 else 0:=rfl
 by_cases h1:l < 0
 ·rw [if_neg (by omega)] at e
  rw [e];clear e
  go_enter Tryz.func65,Tryz.ntmps65
  go_wp2_with fail
  go_ret
  exact ⟨rfl,Drawn.refl _⟩
 by_cases h2:l≥(((c+4) / 5:Nat):Int)
 ·rw [if_neg (by omega)] at e
  rw [e];clear e
  have h3:((c:Int)+4) / 5<=l:=by omega
  go_enter Tryz.func65,Tryz.ntmps65
  go_wp2_with (go_at_call 64;(with_reducible refine (k1 _).out.mono ?_);rintro e w' ⟨rfl,q,rfl⟩)
  go_ret
  exact ⟨rfl,⟨_,rfl⟩⟩
 ·rw [if_pos (by omega)] at e
  obtain ⟨n,rfl⟩:=Int.eq_ofNat_of_zero_le (show 0<=l by omega)
  rw [Int.toNat_natCast] at e
  rw [e]
  clear e
  have h3:(n:Int) < ((c:Int)+4) / 5:=by omega
  have h4:5 * n<=c:=by omega
  have hx:=high_lt h c n h4
  have hy:=high_bit h c n
  have h5:n<=13:=by omega
  generalize h % 2 ^ c / 2 ^ (5 * n)=x at *
  have HX:=Lib.hid hx
  have HY:=Lib.hid hy
  clear hx hy
  have kb:=fun (i:Nat) (hi:i<=100) w=>Lib.hid (bit_calls h i w hh hi)
  go_enter Tryz.func65,Tryz.ntmps65
  go_wp2_with (go_at_call 64;(with_reducible refine (k1 _).out.mono ?_);rintro e w' ⟨rfl,q,rfl⟩)
  go_loopw [7,8,9] (fun o u i wr=>∃ k m z t:Nat,i = .int .i64 (m:Int)/\o = .int .i64 (z:Int)/\u = .int .i64 (t:Int)/\k<=5/\m<=c/\m<=70/\z<=32/\t<=64/\Hid (m=5 * n+k/\Part x k z t)/\Drawn w wr) (fun _ _ i _=>100 - (intOf i).toNat)
  case atStart=>exact ⟨0,5 * n,0,1,by go_num,rfl,rfl,by omega,by omega,by omega,by omega,by omega,yO ⟨rfl,Part.zero x⟩,_,rfl⟩
  case round =>
   obtain ⟨k,m,z,t,rfl,rfl,rfl,hk,hm,hm2,hz,ht,HP,q,rfl⟩:=hrel
   by_cases hlt:k < 5
   ·have g1 : (m : Int) < 5 * (n : Int) + 5 := by have := HP.out.1; omega
    by_cases hlc:m < c
    ·have g2 : (m : Int) < (c : Int) := by omega
     have hf:=HP.out.2.fits hlt
     have hs:=HP.out.2.succ
     have hbit:x / 2 ^ k % 2=h / 2 ^ m % 2:=by have:=HY.out k (by have:=HP.out.1;omega);rw [HP.out.1];exact this
     rw [hbit] at hf hs
     have kbm:=kb m (by omega)
     clear hbit
     have hb2:h / 2 ^ m % 2<=1:=by omega
     generalize h / 2 ^ m % 2=y at *
     obtain ⟨f1,f2,f3⟩:=hf
     have HS:=Lib.hid hs
     clear hs
     go_wp2_with (first|(go_at_call 63;(with_reducible refine (k2 _).out.mono ?_);rintro e w' ⟨rfl,q,rfl⟩)|(go_at_call 80;(with_reducible refine (kbm _).out.mono ?_);rintro e w' ⟨rfl,q,rfl⟩))
     go_roundw
     case rel=>exact ⟨k+1,m+1,z+t * y,2 * t,by go_num,int_eq (by norm_cast),int_eq (by norm_cast),by omega,by omega,by omega,HS.out.le (by omega),by omega,yO ⟨by have:=HP.out.1;omega,HS.out⟩,_,rfl⟩
     case measure=>simp [intOf];omega
    ·have g2 : ¬ (m : Int) < (c : Int) := by omega
     have HD:=Lib.hid (HP.out.2.done (c:=c) (l:=n) HX.out hk (Or.inr (by have:=HP.out.1;omega)))
     go_wp2_with (go_at_call 63;(with_reducible refine (k2 _).out.mono ?_);rintro e w' ⟨rfl,q,rfl⟩)
     go_ret
     exact ⟨ZG (congrArg (fun n:Nat=>(n:Int)) HD.out),⟨_,rfl⟩⟩
   ·have g1 : ¬ (m : Int) < 5 * (n : Int) + 5 := by have := HP.out.1; omega
    have HD:=Lib.hid (HP.out.2.done (c:=c) (l:=n) HX.out hk (Or.inl (by omega)))
    go_wp2_with fail
    go_ret
    exact ⟨ZG (congrArg (fun n:Nat=>(n:Int)) HD.out),⟨_,rfl⟩⟩
def yv (a b c:Nat):Nat->Nat->Bool
 | _,0=>false
 | l,n+1=>if chunk a l c=chunk b l c then yv a b c (l+1) n else decide (chunk a l c < chunk b l c)
def bef (a b c:Nat):Bool:=yv a b c 0 ((c+4) / 5)
set_option maxHeartbeats 800000 in
theorem Before_calls (x y : Nat) (b : Int) (w : World) (hx : x < 18446744073709551616) (hy : y < 18446744073709551616) (hb : I64 b) :
  Calls Tryz.prog 37 #[.int .u64 x,.int .u64 y,.int .i64 b] w (Quiet (.bool (bef x y (cl b))) w):=by
 have k1:=fun w=>Lib.hid (Levels_calls b w hb)
 have k2:=fun (l:Int) (hl:I64 l) w=>Lib.hid (Chunk_calls x l b w hx hl hb)
 have k3:=fun (l:Int) (hl:I64 l) w=>Lib.hid (Chunk_calls y l b w hy hl hb)
 have hc:=cl_le b
 generalize cl b=c at *
 go_enter Tryz.func37,Tryz.ntmps37
 have hL:(c+4) / 5<=13:=by omega
 unfold bef
 generalize (c+4) / 5=L at *
 go_wp2_with (go_at_call 60;(with_reducible refine (k1 _).out.mono ?_);rintro e w' ⟨rfl,q,rfl⟩)
 go_loopw [12] (fun i wr=>∃ k n:Nat,i = .int .i64 (k:Int)/\k<=L/\Hid (k+n=L/\yv x y c 0 L=yv x y c k n)/\Drawn w wr) (fun i _=>100 - (intOf i).toNat)
 case atStart=>exact ⟨0,L,rfl,by omega,yO ⟨by omega,rfl⟩,_,rfl⟩
 case round =>
  obtain ⟨k,n,rfl,hk,HB,q,rfl⟩:=hrel
  by_cases hlt:k < L
  ·have g1 : (k : Int) < (L : Int) := by omega
   have c1:=k2 k (by unfold I64;omega)
   have c2:=k3 k (by unfold I64;omega)
   have e1:yv x y c k n=if chunk x k c=chunk y k c then yv x y c (k+1) (n - 1) else decide (chunk x k c < chunk y k c):=by
    obtain ⟨m,rfl⟩:∃ m,n=m+1:=⟨n - 1,by have:=HB.out.1;omega⟩
    rfl
   by_cases he:chunk x k c=chunk y k c
   ·rw [if_pos he] at e1
    have HB2:Hid (k+1+(n - 1)=L/\yv x y c 0 L=yv x y c (k+1) (n - 1)):=yO ⟨by have:=HB.out.1;omega,by rw [<- e1];exact HB.out.2⟩
    rw [he] at c1
    clear e1 he
    generalize chunk y k c=v at *
    go_wp2_with (go_at_call 61;(first|with_reducible refine (c1 _).out.mono ?_|with_reducible refine (c2 _).out.mono ?_);rintro e w' ⟨rfl,q,rfl⟩)
    go_roundw
    case rel=>exact ⟨k+1,n - 1,by go_num,by omega,HB2,_,rfl⟩
    case measure=>simp [intOf];omega
   ·rw [if_neg he] at e1
    have HB2:Hid (yv x y c 0 L=decide (chunk x k c < chunk y k c)):=yO (by rw [<- e1];exact HB.out.2)
    clear e1
    generalize chunk y k c=v at *
    generalize chunk x k c=u at *
    have e2:((u:Int) == (v:Int))=false:=by simp;omega
    have e3:((u:Int) != (v:Int))=true:=by simp;omega
    clear he
    go_wp2_with (go_at_call 61;(first|with_reducible refine (c1 _).out.mono ?_|with_reducible refine (c2 _).out.mono ?_);rintro e w' ⟨rfl,q,rfl⟩)
    go_ret
    exact ⟨yB (by rw [HB2.out]),⟨_,rfl⟩⟩
  ·have g1 : ¬ (k : Int) < (L : Int) := by omega
   have HB2:Hid (yv x y c 0 L=false):=yO (by
    rw [HB.out.2]
    have:n=0:=by have:=HB.out.1;omega
    subst this
    rfl)
   go_wp2_with fail
   go_ret
   exact ⟨yB (by rw [HB2.out]),⟨_,rfl⟩⟩
set_option maxHeartbeats 800000 in
theorem RefBefore_calls (x y : Nat) (b : Int) (w : World) (hx : x < 18446744073709551616) (hy : y < 18446744073709551616) (hb : I64 b) :
  Calls Tryz.prog 40 #[.int .u64 x,.int .u64 y,.int .i64 b] w (Quiet (.bool (bef x y (cl b))) w):=by
 have k1:=fun w=>Lib.hid (RefLevels_calls b w hb)
 have k2:=fun (l:Int) (hl:I64 l) w=>Lib.hid (RefChunk_calls x l b w hx hl hb)
 have k3:=fun (l:Int) (hl:I64 l) w=>Lib.hid (RefChunk_calls y l b w hy hl hb)
 have hc:=cl_le b
 generalize cl b=c at *
 go_enter Tryz.func40,Tryz.ntmps40
 have hL:(c+4) / 5<=13:=by omega
 unfold bef
 generalize (c+4) / 5=L at *
 go_wp2_with fail
 go_loopw [7] (fun i wr=>∃ k n:Nat,i = .int .i64 (k:Int)/\k<=L/\Hid (k+n=L/\yv x y c 0 L=yv x y c k n)/\Drawn w wr) (fun i _=>100 - (intOf i).toNat)
 case atStart=>exact ⟨0,L,rfl,by omega,yO ⟨by omega,rfl⟩,Drawn.refl _⟩
 case round =>
  obtain ⟨k,n,rfl,hk,HB,q,rfl⟩:=hrel
  by_cases hlt:k < L
  ·have g1 : (k : Int) < (L : Int) := by omega
   have c1:=k2 k (by unfold I64;omega)
   have c2:=k3 k (by unfold I64;omega)
   have e1:yv x y c k n=if chunk x k c=chunk y k c then yv x y c (k+1) (n - 1) else decide (chunk x k c < chunk y k c):=by
    obtain ⟨m,rfl⟩:∃ m,n=m+1:=⟨n - 1,by have:=HB.out.1;omega⟩
    rfl
   by_cases he:chunk x k c=chunk y k c
   ·rw [if_pos he] at e1
    have HB2:Hid (k+1+(n - 1)=L/\yv x y c 0 L=yv x y c (k+1) (n - 1)):=yO ⟨by have:=HB.out.1;omega,by rw [<- e1];exact HB.out.2⟩
    rw [he] at c1
    clear e1 he
    generalize chunk y k c=v at *
    go_wp2_with (first|(go_at_call 64;(with_reducible refine (k1 _).out.mono ?_);rintro e w' ⟨rfl,q,rfl⟩)|(go_at_call 65;(first|with_reducible refine (c1 _).out.mono ?_|with_reducible refine (c2 _).out.mono ?_);rintro e w' ⟨rfl,q,rfl⟩))
    go_roundw
    case rel=>exact ⟨k+1,n - 1,by go_num,by omega,HB2,_,rfl⟩
    case measure=>simp [intOf];omega
   ·rw [if_neg he] at e1
    have HB2:Hid (yv x y c 0 L=decide (chunk x k c < chunk y k c)):=yO (by rw [<- e1];exact HB.out.2)
    clear e1
    generalize chunk y k c=v at *
    generalize chunk x k c=u at *
    have e2:((u:Int) == (v:Int))=false:=by simp;omega
    have e3:((u:Int) != (v:Int))=true:=by simp;omega
    clear he
    go_wp2_with (first|(go_at_call 64;(with_reducible refine (k1 _).out.mono ?_);rintro e w' ⟨rfl,q,rfl⟩)|(go_at_call 65;(first|with_reducible refine (c1 _).out.mono ?_|with_reducible refine (c2 _).out.mono ?_);rintro e w' ⟨rfl,q,rfl⟩))
    go_ret
    exact ⟨yB (by rw [HB2.out]),⟨_,rfl⟩⟩
  ·have g1 : ¬ (k : Int) < (L : Int) := by omega
   have HB2:Hid (yv x y c 0 L=false):=yO (by
    rw [HB.out.2]
    have:n=0:=by have:=HB.out.1;omega
    subst this
    rfl)
   go_wp2_with (go_at_call 64;(with_reducible refine (k1 _).out.mono ?_);rintro e w' ⟨rfl,q,rfl⟩)
   go_ret
   exact ⟨yB (by rw [HB2.out]),⟨_,rfl⟩⟩
theorem digits_eq (n x y:Nat) (hx:x < 32 ^ n) (hy:y < 32 ^ n) (h:∀ l,l < n->x / 32 ^ l % 32=y / 32 ^ l % 32):x=y:=by
 induction n generalizing x y with
 | zero=>simp at hx hy;omega
 | succ n ih =>
  have h0:=h 0 (by omega)
  simp at h0
  have hd:x / 32=y / 32:=by
   refine ih (x / 32) (y / 32) ?_ ?_ (fun l hl=>?_)
   ·rw [Nat.div_lt_iff_lt_mul (by decide)];rwa [Nat.pow_succ] at hx
   ·rw [Nat.div_lt_iff_lt_mul (by decide)];rwa [Nat.pow_succ] at hy
   ·have := h (l + 1) (by omega)
    rw [Nat.pow_succ',<- Nat.div_div_eq_div_mul,<- Nat.div_div_eq_div_mul] at this
    exact this
  omega
theorem chunks_eq (c x y:Nat) (hx:x < 2 ^ c) (hy:y < 2 ^ c) (h:∀ l:Nat,l < (c+4) / 5->chunk x l c=chunk y l c):x=y:=by
 have e:(32:Nat)=2 ^ 5:=rfl
 have hp:2 ^ c<=32 ^ ((c+4) / 5):=by
  rw [e,<- Nat.pow_mul]
  exact Nat.pow_le_pow_right (by decide) (by omega)
 refine digits_eq ((c+4) / 5) x y (by omega) (by omega) (fun l hl=>?_)
 have:=h l hl
 unfold chunk at this
 rw [if_pos (by omega),if_pos (by omega),Int.toNat_natCast,Nat.mod_eq_of_lt hx,Nat.mod_eq_of_lt hy] at this
 rw [e,<- Nat.pow_mul]
 exact this
theorem befF_anti (x y c l n:Nat):(yv x y c l n || yv y x c l n)=decide (∃ k,k < n/\chunk x ((l+k:Nat):Int) c ≠ chunk y ((l+k:Nat):Int) c)/\(yv x y c l n && yv y x c l n)=false:=by
 induction n generalizing l with
 | zero=>simp [yv]
 | succ n ih =>
  unfold yv
  by_cases h:chunk x l c=chunk y l c
  ·rw [if_pos h, if_pos h.symm]
   obtain ⟨h1,h2⟩:=ih (l+1)
   rw [h1]
   refine ⟨?_,h2⟩
   congr 1
   apply propext
   constructor
   ·rintro ⟨k, hk, hne⟩
    exact ⟨k+1,by omega,by rw [show l+(k+1)=l+1+k by omega];exact hne⟩
   ·rintro ⟨k, hk, hne⟩
    cases k with
    | zero=>exact absurd h hne
    | succ k=>exact ⟨k,by omega,by rw [show l+1+k=l+(k+1) by omega];exact hne⟩
  ·rw [if_neg h,if_neg (fun e=>h e.symm)]
   refine ⟨?_,?_⟩
   ·rw [decide_eq_true (⟨0, by omega, h⟩ : ∃ k, k < n + 1 /\ chunk x ((l + k : Nat) : Int) c ≠ chunk y ((l + k : Nat) : Int) c)]
    simp;omega
   ·simp;omega
theorem bef_total (c x y:Nat) (hx:x < 2 ^ c) (hy:y < 2 ^ c):(bef x y c || bef y x c) = !decide (x=y)/\(bef x y c && bef y x c)=false:=by
 obtain ⟨h1,h2⟩:=befF_anti x y c 0 ((c+4) / 5)
 refine ⟨?_,h2⟩
 unfold bef
 rw [h1,<- decide_not]
 congr 1
 apply propext
 constructor
 ·rintro ⟨k, hk, hne⟩ rfl
  exact hne rfl
 ·intro hne
  by_cases hh:∃ k,k < (c+4) / 5/\chunk x ((0+k:Nat):Int) c ≠ chunk y ((0+k:Nat):Int) c
  ·exact hh
  ·exfalso
   refine hne (chunks_eq c x y hx hy (fun l hl=>?_))
   by_cases e:chunk x l c=chunk y l c
   ·exact e
   ·exact absurd ⟨l,hl,by rw [Nat.zero_add];exact e⟩ hh
end Go.Proofs.YtdodckipblafmaaGreatDoor.Hash
namespace Go.Proofs.YtdodckipblafmaaGreatDoor.Sim
open Go.RowKit
set_option maxRecDepth 100000
abbrev Pr:=ByteArray × ByteArray
def pA (p:Pr):AV:=.agg [S p.1,S p.2]
def iA (n:Int):AV:=I n
theorem zH {l:List Pr} {k:Nat} (h:k < l.length):(l.map pA)[k]? = some (.agg [S l[k].1,S l[k].2]):=by simp [h,pA]
theorem Zu {l:List Int} {k:Nat} (h:k < l.length):(l.map iA)[k]? = some (I l[k]):=by simp [h,iA]
def cutB (s:ByteArray) (m:Nat):ByteArray:=s.extract 0 (min s.size m)
set_option maxHeartbeats 4000000 in
theorem cutP (G:Nat->AV) (s:ByteArray) (m:Nat) (hs:s.size<=9223372036854775807):PC Tryz.prog G 9 [S s,I m] (S (cutB s m)):=by
 have e:(if (m:Int) < (s.size:Int) then (m:Int) else (s.size:Int))=((min s.size m:Nat):Int):=by split<;>omega
 have e2:zR Tryz.prog (Instr.sliceAt 9 (.string s) none (some (.int .i64 ((min s.size m:Nat):Int))) none)=some (.string (cutB s m)):=by
  rw [cutV xw (by omega) (by omega)];rfl
 refine yg cop9 ?_
 show W _ _ _ _ ⟨_,_⟩;simp only [A9,List.cons_append,List.nil_append,List.length_cons,List.length_nil,Nat.reduceAdd,Nat.reduceSub,List.replicate]
 repeat (first|(with_reducible first|refine zQ ?_|refine zP ?_|refine zw ?_|refine zp ?_|refine Zm ?_)|((with_reducible first|refine ks fun K hK=>?_|refine kd fun K hK=>?_|refine kc fun K hK2 hK hK3=>?_|refine ZC fun K hR=>?_|refine Zl rfl fun K hR=>?_|refine Zh fun K hR=>?_);simp (disch:=omega) only [bg0,bg1,bg2,bg3,bg4,zt,zS,eff,AX.ev,St.put,zO,zK,ap1,zi,simprocAttr,zu,AV.cells,AV.fine,AV.one,zY,zq,live,zo,rdA,zg,wrA,zI,zr,zW,zT,zV,zk,zb,zm,zj,ze,cut,id,ap2,zx,zy,geB,AOp.cls,AOp.xs,ltB,ltC,Option.toList,List.cons_append,decide_eq_true,decide_eq_false,if_pos,if_neg,List.length_map,zH,Zu,bVb,bVn,eq_self,Bool.and_self,BEq.rfl,not_true_eq_false,e,e2];(first|(with_reducible first|(refine hK _ ?_;clear hK K)|(refine hK ?_;clear hK hK3 K hK2)|(refine hK3 ?_;clear hK hK3 K hK2))|((with_reducible refine hR _ ?_ ?_ ?_ ?_);rotate_left 2;rfl;rfl)|((with_reducible refine hR _ ?_);rfl))))
def fw (l:List Pr) (k:Nat):List AV:=((l.take k).map fun p=>(cutB p.1 40,cutB p.2 40)).map pA
theorem fw_len {l:List Pr} {k:Nat} (h:k<=l.length):(fw l k).length=k:=by simp [fw];omega
theorem wj {l:List Pr} {k:Nat}:(fw l k).take k=fw l k:=by
 apply List.take_of_length_le
 simp [fw];omega
theorem fw_succ {l:List Pr} {k:Nat} (h:k < l.length):fw l k++[.agg [S (cutB l[k].1 40),S (cutB l[k].2 40)]]=fw l (k+1):=by
 unfold fw
 rw [List.take_add_one,List.getElem?_eq_getElem h]
 simp only [List.map_append,Option.toList_some,List.map_cons,List.map_nil]
 rfl
theorem Yu (l:List Pr):(l.map pA).all AV.isP=true:=by simp [pA,AV.isP,AV.isC,AV.isC0]
theorem wQ (l:List Int):(l.map iA).all AV.isP=true:=by simp [iA,AV.isP,AV.isC,AV.isC0]
set_option maxHeartbeats 4000000 in
theorem few07 (G:Nat->AV) (l:List Pr) (hl:l.length<=9223372036854775807) (hs:∀ p ∈ l,p.1.size<=9223372036854775807/\p.2.size<=9223372036854775807):PC Tryz.prog G 51 [.sl 2 (l.map pA)] (.sl 2 (fw l (min l.length 40))):=by
 obtain ⟨N,hN⟩:∃ N,N=min l.length 40:=⟨_,rfl⟩
 rw [<- hN]
 refine yg cop51 ?_
 show W _ _ _ _ ⟨_,_⟩;simp only [A51,List.cons_append,List.nil_append,List.length_cons,List.length_nil,Nat.reduceAdd,Nat.reduceSub,List.replicate]
 repeat (first|(with_reducible first|refine zQ ?_|refine zP ?_|refine zZ ?_|refine zw ?_|refine zp ?_)|((with_reducible first|refine ks fun K hK=>?_|refine kd fun K hK=>?_|refine kc fun K hK2 hK hK3=>?_);simp (disch:=omega) only [bg0,bg1,bg2,bg3,bg4,zt,zS,eff,AX.ev,St.put,zO,zK,ap1,zi,simprocAttr,zu,AV.cells,AV.fine,AV.one,zY,zq,live,zo,rdA,zg,wrA,zI,zr,zW,zT,zV,zk,zb,zm,zj,ze,cut,id,ap2,zx,zy,geB,AOp.cls,AOp.xs,ltB,ltC,Option.toList,List.cons_append,decide_eq_true,decide_eq_false,if_pos,if_neg,List.length_map,zH,Zu,bVb,bVn,eq_self,Bool.and_self,BEq.rfl,not_true_eq_false];(with_reducible first|(refine hK _ ?_;clear hK K)|(refine hK ?_;clear hK hK3 K hK2)|(refine hK3 ?_;clear hK hK3 K hK2))))
 refine YL (fun k st=>∃ (g:List AV) (J:Hp),g.length=28/\st=⟨[.sl 2 (l.map pA),zh,.nl 2,.ol 0 k k,I k]++g,⟨31,2,fw l k,k,0⟩::J⟩) N ⟨_,[],?hg,rfl⟩ ?_ ?_
 case hg=>rfl
 ·rintro k st hk ⟨g, J, hg, rfl⟩
  (obtain ⟨g0,g0t,rfl,hg0⟩:=zd hg;clear hg;obtain ⟨g1,g1t,rfl,hg1⟩:=zd hg0;clear hg0;obtain ⟨g2,g2t,rfl,hg2⟩:=zd hg1;clear hg1;obtain ⟨g3,g3t,rfl,hg3⟩:=zd hg2;clear hg2;obtain ⟨g4,g4t,rfl,hg4⟩:=zd hg3;clear hg3;obtain ⟨g5,g5t,rfl,hg5⟩:=zd hg4;clear hg4;obtain ⟨g6,g6t,rfl,hg6⟩:=zd hg5;clear hg5;obtain ⟨g7,g7t,rfl,hg7⟩:=zd hg6;clear hg6;obtain ⟨g8,g8t,rfl,hg8⟩:=zd hg7;clear hg7;obtain ⟨g9,g9t,rfl,hg9⟩:=zd hg8;clear hg8;obtain ⟨g10,g10t,rfl,hg10⟩:=zd hg9;clear hg9;obtain ⟨g11,g11t,rfl,hg11⟩:=zd hg10;clear hg10;obtain ⟨g12,g12t,rfl,hg12⟩:=zd hg11;clear hg11;obtain ⟨g13,g13t,rfl,hg13⟩:=zd hg12;clear hg12;obtain ⟨g14,g14t,rfl,hg14⟩:=zd hg13;clear hg13;obtain ⟨g15,g15t,rfl,hg15⟩:=zd hg14;clear hg14;obtain ⟨g16,g16t,rfl,hg16⟩:=zd hg15;clear hg15;obtain ⟨g17,g17t,rfl,hg17⟩:=zd hg16;clear hg16;obtain ⟨g18,g18t,rfl,hg18⟩:=zd hg17;clear hg17;obtain ⟨g19,g19t,rfl,hg19⟩:=zd hg18;clear hg18;obtain ⟨g20,g20t,rfl,hg20⟩:=zd hg19;clear hg19;obtain ⟨g21,g21t,rfl,hg21⟩:=zd hg20;clear hg20;obtain ⟨g22,g22t,rfl,hg22⟩:=zd hg21;clear hg21;obtain ⟨g23,g23t,rfl,hg23⟩:=zd hg22;clear hg22;obtain ⟨g24,g24t,rfl,hg24⟩:=zd hg23;clear hg23;obtain ⟨g25,g25t,rfl,hg25⟩:=zd hg24;clear hg24;obtain ⟨g26,g26t,rfl,hg26⟩:=zd hg25;clear hg25;obtain ⟨g27,g27t,rfl,hg27⟩:=zd hg26;clear hg26;obtain rfl:=List.length_eq_zero_iff.mp hg27;clear hg27)
  simp only [List.cons_append,List.nil_append]
  have hk1:k < l.length:=by omega
  have h1:=(hs l[k] (List.getElem_mem hk1)).1
  have h2:=(hs l[k] (List.getElem_mem hk1)).2
  have h3:=fw_len (l:=l) (k:=k) (by omega)
  have h4:=fw_succ hk1
  repeat (first|(with_reducible first|refine zQ ?_|refine zP ?_|refine Zk ?_|refine zZ ?_|refine Zd ?_|refine zw ?_|refine Ze ?_|refine zp ?_|refine z5 ?_)|((with_reducible refine yV ?_ ?_);rfl)|((with_reducible first|refine ks fun K hK=>?_|refine kd fun K hK=>?_|refine kc fun K hK2 hK hK3=>?_);simp (disch:=omega) only [bg0,bg1,bg2,bg3,bg4,zt,zS,eff,AX.ev,St.put,zO,zK,ap1,zi,simprocAttr,zu,AV.cells,AV.fine,AV.one,zY,zq,live,zo,rdA,zg,wrA,zI,zr,zW,zT,zV,zk,zb,zm,zj,ze,cut,id,ap2,zx,zy,geB,AOp.cls,AOp.xs,ltB,ltC,Option.toList,List.cons_append,decide_eq_true,decide_eq_false,if_pos,if_neg,List.length_map,zH,Zu,bVb,bVn,eq_self,Bool.and_self,BEq.rfl,not_true_eq_false,h3,wj,h4];(with_reducible first|(refine hK _ ?_;clear hK K)|(refine hK ?_;clear hK hK3 K hK2)|(refine hK3 ?_;clear hK hK3 K hK2)))|((first|((with_reducible refine kpd 9 ?_ ?_ ?_ ?_ ?_);rotate_left 1));(focus (simp (disch:=omega) only [bg0,bg1,bg2,bg3,bg4,zt,zS,eff,AX.ev,St.put,zO,zK,ap1,zi,simprocAttr,zu,AV.cells,AV.fine,AV.one,zY,zq,live,zo,rdA,zg,wrA,zI,zr,zW,zT,zV,zk,zb,zm,zj,ze,cut,id,ap2,zx,zy,geB,AOp.cls,AOp.xs,ltB,ltC,Option.toList,List.cons_append,decide_eq_true,decide_eq_false,if_pos,if_neg,List.length_map,zH,Zu,bVb,bVn,eq_self,Bool.and_self,BEq.rfl,not_true_eq_false,h3,wj,h4];try rfl));(first|(rfl;exact (by refine cutP G _ 40 ?_;assumption)))))
  exact ⟨_,_,rfl,rfl⟩
 ·rintro st ⟨g, J, hg, rfl⟩
  (obtain ⟨g0,g0t,rfl,hg0⟩:=zd hg;clear hg;obtain ⟨g1,g1t,rfl,hg1⟩:=zd hg0;clear hg0;obtain ⟨g2,g2t,rfl,hg2⟩:=zd hg1;clear hg1;obtain ⟨g3,g3t,rfl,hg3⟩:=zd hg2;clear hg2;obtain ⟨g4,g4t,rfl,hg4⟩:=zd hg3;clear hg3;obtain ⟨g5,g5t,rfl,hg5⟩:=zd hg4;clear hg4;obtain ⟨g6,g6t,rfl,hg6⟩:=zd hg5;clear hg5;obtain ⟨g7,g7t,rfl,hg7⟩:=zd hg6;clear hg6;obtain ⟨g8,g8t,rfl,hg8⟩:=zd hg7;clear hg7;obtain ⟨g9,g9t,rfl,hg9⟩:=zd hg8;clear hg8;obtain ⟨g10,g10t,rfl,hg10⟩:=zd hg9;clear hg9;obtain ⟨g11,g11t,rfl,hg11⟩:=zd hg10;clear hg10;obtain ⟨g12,g12t,rfl,hg12⟩:=zd hg11;clear hg11;obtain ⟨g13,g13t,rfl,hg13⟩:=zd hg12;clear hg12;obtain ⟨g14,g14t,rfl,hg14⟩:=zd hg13;clear hg13;obtain ⟨g15,g15t,rfl,hg15⟩:=zd hg14;clear hg14;obtain ⟨g16,g16t,rfl,hg16⟩:=zd hg15;clear hg15;obtain ⟨g17,g17t,rfl,hg17⟩:=zd hg16;clear hg16;obtain ⟨g18,g18t,rfl,hg18⟩:=zd hg17;clear hg17;obtain ⟨g19,g19t,rfl,hg19⟩:=zd hg18;clear hg18;obtain ⟨g20,g20t,rfl,hg20⟩:=zd hg19;clear hg19;obtain ⟨g21,g21t,rfl,hg21⟩:=zd hg20;clear hg20;obtain ⟨g22,g22t,rfl,hg22⟩:=zd hg21;clear hg21;obtain ⟨g23,g23t,rfl,hg23⟩:=zd hg22;clear hg22;obtain ⟨g24,g24t,rfl,hg24⟩:=zd hg23;clear hg23;obtain ⟨g25,g25t,rfl,hg25⟩:=zd hg24;clear hg24;obtain ⟨g26,g26t,rfl,hg26⟩:=zd hg25;clear hg25;obtain ⟨g27,g27t,rfl,hg27⟩:=zd hg26;clear hg26;obtain rfl:=List.length_eq_zero_iff.mp hg27;clear hg27)
  simp only [List.cons_append,List.nil_append]
  have h3:=fw_len (l:=l) (k:=N) (by omega)
  by_cases h40:l.length<=40
  all_goals
   repeat (first|(with_reducible first|refine zQ ?_|refine zP ?_|refine Zp ?_|refine zw ?_|refine zp ?_|refine Zc ?_|refine z6 ?_|refine Zm ?_)|((with_reducible refine yV ?_ ?_);rfl)|((with_reducible refine YF ?_ ?_);rfl)|((with_reducible first|refine ks fun K hK=>?_|refine kd fun K hK=>?_|refine kc fun K hK2 hK hK3=>?_);simp (disch:=omega) only [bg0,bg1,bg2,bg3,bg4,zt,zS,eff,AX.ev,St.put,zO,zK,ap1,zi,simprocAttr,zu,AV.cells,AV.fine,AV.one,zY,zq,live,zo,rdA,zg,wrA,zI,zr,zW,zT,zV,zk,zb,zm,zj,ze,cut,id,ap2,zx,zy,geB,AOp.cls,AOp.xs,ltB,ltC,Option.toList,List.cons_append,decide_eq_true,decide_eq_false,if_pos,if_neg,List.length_map,zH,Zu,bVb,bVn,eq_self,Bool.and_self,BEq.rfl,not_true_eq_false];(with_reducible first|(refine hK _ ?_;clear hK K)|(refine hK ?_;clear hK hK3 K hK2)|(refine hK3 ?_;clear hK hK3 K hK2))))
   refine Zh fun K hK=>?_
   simp only [zS,List.getD_cons_succ,List.getD_cons_zero]
   refine hK _ ?_ ?_ ?_ ?_
   rotate_left 2
   simp only [yi,pur,ZE,List.getElem?_cons_zero,h3,wj,Nat.le_refl,and_self,and_true,true_and]
   rw [if_pos ⟨by unfold fw;exact Yu _,rfl⟩]
   rfl
end Go.Proofs.YtdodckipblafmaaGreatDoor.Sim
