/- Texts of this claim, part 1. -/
import Derived.Below
import Derived.KernelRfl
import Derived.Laws.Cells
import Derived.Laws.CopyRow
import Derived.Laws.OwnMore
import Derived.Laws.StructEq
import Derived.Laws.Tables
import Derived.Lib.AppendZeros
import Derived.Lib.Hide
import Derived.MapKept
import Derived.Orders
import Derived.ProofKit
import Derived.WalkKit
import Derived.WalkLawsBesides
import Derived.WalkSpells
set_option linter.unusedVariables false
set_option linter.unusedSimpArgs false
namespace Go.Proofs.YtdodckipblafmaaGreatDoor
theorem zq1 {p : Prop} (h : p := by first|assumption|((conv=>lhs;simp only [List.set_cons_zero,List.set_cons_succ,List.take_succ_cons,List.take_zero,List.drop_succ_cons,List.drop_zero,List.nil_append,List.cons_append,List.append_nil,List.take_nil,List.drop_nil,ha,AV.cells,AV.fine,AV.one,iA]);try rfl)|rfl) : p := h
theorem zq2 {p : Prop} (h : p := by first|exact us|exact oa|assumption|((conv=>lhs;simp only [List.set_cons_zero,List.set_cons_succ,List.take_succ_cons,List.take_zero,List.drop_succ_cons,List.drop_zero,List.nil_append,List.cons_append,List.append_nil,List.take_nil,List.drop_nil]);try rfl)|rfl) : p := h
theorem zq3 {p : Prop} (h : p := by first|exact us2|assumption|((conv=>lhs;simp only [List.set_cons_zero,List.set_cons_succ,List.take_succ_cons,List.take_zero,List.drop_succ_cons,List.drop_zero,List.nil_append,List.cons_append,List.append_nil,List.take_nil,List.drop_nil]);try rfl)|rfl) : p := h
theorem zq4 {p : Prop} (h : p := by first|exact u1|assumption|((conv=>lhs;simp only [List.set_cons_zero,List.set_cons_succ,List.take_succ_cons,List.take_zero,List.drop_succ_cons,List.drop_zero,List.nil_append,List.cons_append,List.append_nil,List.take_nil,List.drop_nil]);try rfl)|rfl) : p := h
theorem zq5 {p : Prop} (h : p := by first|exact us|assumption|((conv=>lhs;simp only [List.set_cons_zero,List.set_cons_succ,List.take_succ_cons,List.take_zero,List.drop_succ_cons,List.drop_zero,List.nil_append,List.cons_append,List.append_nil,List.take_nil,List.drop_nil]);try rfl)|rfl) : p := h
theorem zq6 {p : Prop} (h : p := by first|exact la|assumption|((conv=>lhs;simp only [List.set_cons_zero,List.set_cons_succ,List.take_succ_cons,List.take_zero,List.drop_succ_cons,List.drop_zero,List.nil_append,List.cons_append,List.append_nil,List.take_nil,List.drop_nil]);try rfl)|rfl) : p := h
theorem zq7 {p : Prop} (h : p := by first|exact oa|assumption|((conv=>lhs;simp only [List.set_cons_zero,List.set_cons_succ,List.take_succ_cons,List.take_zero,List.drop_succ_cons,List.drop_zero,List.nil_append,List.cons_append,List.append_nil,List.take_nil,List.drop_nil]);try rfl)|rfl) : p := h
theorem zq8 {p : Prop} (h : p := by first|assumption|((conv=>lhs;simp only [List.set_cons_zero,List.set_cons_succ,List.take_succ_cons,List.take_zero,List.drop_succ_cons,List.drop_zero,List.nil_append,List.cons_append,List.append_nil,List.take_nil,List.drop_nil,hN]);try rfl)|rfl) : p := h
theorem zq9 {p : Prop} (h : p := by first|assumption|((conv=>lhs;simp only [List.set_cons_zero,List.set_cons_succ,List.take_succ_cons,List.take_zero,List.drop_succ_cons,List.drop_zero,List.nil_append,List.cons_append,List.append_nil,List.take_nil,List.drop_nil,k1]);try rfl)|rfl) : p := h
theorem w9 {p : Prop} (h : p := by (first|rfl|assumption|omega|(simp only [List.length_map,List.length_append,List.length_cons,List.length_nil,ha,AV.cells,AV.fine,AV.one,iA];omega)|(simp [ha,AV.cells,AV.fine,AV.one,iA];done)|(simp [ha,AV.cells,AV.fine,AV.one,iA];omega))) : p := h
theorem zq11 {p : Prop} (h : p := by (first|omega|assumption|(simp only [List.length_map,List.length_append,List.length_cons,List.length_nil,List.length_take,List.length_drop,List.length_set,List.length_replicate,hfl,AV.cells,AV.fine,AV.one,iA];omega))) : p := h
theorem xC {p : Prop} (h : p := by (first|omega|assumption|(simp only [List.length_map,List.length_append,List.length_cons,List.length_nil,List.length_take,List.length_drop,List.length_set,List.length_replicate,ha,AV.cells,AV.fine,AV.one,iA];omega))) : p := h
theorem zq13 {p : Prop} (h : p := by (first|omega|assumption|(simp only [List.length_map,List.length_append,List.length_cons,List.length_nil,List.length_take,List.length_drop,List.length_set,List.length_replicate,hN];omega))) : p := h
theorem ZO {p : Prop} (h : p := by (first|omega|assumption|(simp only [List.length_map,List.length_append,List.length_cons,List.length_nil,List.length_take,List.length_drop,List.length_set,List.length_replicate,k1];omega))) : p := h
theorem zq15 {p : Prop} (h : p := by (first|rfl|assumption|omega|(simp only [List.length_map,List.length_append,List.length_cons,List.length_nil,hN];omega)|(simp [hN];done)|(simp [hN];omega))) : p := h
theorem yI {p : Prop} (h : p := by (first|rfl|assumption|omega|(simp only [List.length_map,List.length_append,List.length_cons,List.length_nil,k1];omega)|(simp [k1];done)|(simp [k1];omega))) : p := h
theorem zq17 {p : Prop} (h : p := by (first|exact hb105|rfl|assumption|omega|(simp only [List.length_map,List.length_append,List.length_cons,List.length_nil];omega)|(simp;done)|(simp;omega))) : p := h
theorem zq18 {p : Prop} (h : p := by first|exact (List.length_map _)|exact hlm|assumption|exact (List.length_map _).trans (by assumption)|exact List.length_map _|rfl) : p := h
theorem ZA {p : Prop} (h : p := by simp only [List.length_cons,List.length_nil,Nat.reduceAdd];rfl) : p := h
theorem zq20 {p : Prop} (h : p := by (first|rfl|assumption|exact (by simp [lg];omega))) : p := h
theorem zG {p : Prop} (h : p := by first|assumption|with_reducible rfl) : p := h
theorem w8 {p : Prop} (h : p := by simp [ssort_len];omega) : p := h
theorem ZD {p : Prop} (h : p := by (first|rfl|omega)) : p := h
theorem xB {p : Prop} (h : p := by dsimp only;omega) : p := h
theorem zB {p : Prop} (h : p := by first|assumption|(with_reducible rfl)|omega) : p := h
theorem zC {p : Prop} (h : p := by first|assumption|omega) : p := h
theorem zD {p : Prop} (h : p := by first|rfl|(simp;done)) : p := h
theorem zE {p : Prop} (h : p := by first|rfl|assumption) : p := h
theorem zF {p : Prop} (h : p := by first|(with_reducible rfl)|omega) : p := h
theorem zN {p : Prop} (h : p := by first | rfl | assumption | omega | (simp only [List.length_map,List.length_append,List.length_cons,List.length_nil]; omega) | (simp; done) | (simp; omega)) : p := h
theorem zX {p : Prop} (h : p := by first | omega | assumption | (simp only [List.length_map,List.length_append,List.length_cons,List.length_nil,List.length_take,List.length_drop,List.length_set,List.length_replicate]; omega)) : p := h
theorem zU {p : Prop} (h : p := by first | assumption | ((conv => lhs; simp only [List.set_cons_zero,List.set_cons_succ,List.take_succ_cons,List.take_zero,List.drop_succ_cons,List.drop_zero,List.nil_append,List.cons_append,List.append_nil,List.take_nil,List.drop_nil]); try rfl) | rfl) : p := h
theorem zL {p : Prop} (h : p := by first | assumption | exact (List.length_map _).trans (by assumption) | exact List.length_map _ | rfl) : p := h
theorem zM {p : Prop} (h : p := by first | exact (List.length_map _) | assumption | exact (List.length_map _).trans (by assumption) | exact List.length_map _ | rfl) : p := h
end Go.Proofs.YtdodckipblafmaaGreatDoor
namespace Go.Proofs.YtdodckipblafmaaGreatDoor.Sim
open Go.RowKit
inductive AV where
 | v (x:Value)
 | agg (cs:List AV)
 | tup (cs:List AV)
 | nl (k:Nat)
 | em (b:Bool) (k:Nat)
 | sl (k:Nat) (es:List AV)
 | ad (k:Nat) (es:List AV) (i off:Nat)
 | ol (i g n:Nat)
 | os (i g lo n:Nat)
 | oa (i g e off:Nat)
 | io (t i g e off:Nat)
 | mp (i g:Nat)
 | oc (i g n c:Nat)
 | mf (nm:String) (t i g e off:Nat)
 | fn (f:FuncId) (cs:List AV)
 | unk
instance:Inhabited AV:=⟨.unk⟩
def AV.cells:AV->List AV
 | .agg cs=>cs
 | a=>[a]
def AV.one:AV->Bool
 | .agg _|.tup _|.unk=>false
 | _=>true
def AV.isC0:AV->Bool
 | .v _|.sl ..|.ad ..=>true
 | _=>false
def AV.isC:AV->Bool
 | .fn _ cs=>cs.all AV.isC0
 | a=>a.isC0
def AV.isP:AV->Bool
 | .agg cs=>cs.all AV.isC
 | a=>a.isC
def Ye:Value->Bool
 | .bool _|.int ..|.float ..|.complex ..|.string _|.pointer none|.map none|.chan none|.nilFunc|.nilIface|.func _ #[] #[]=>true
 | _=>false
theorem scal_one {x:Value} (h:Ye x=true):x.oneCell'=true:=by
 cases x<;>first|rfl|(simp [Ye] at h)
abbrev Fz:=Nat->Nat->Option Value
def Fz.le (F F':Fz):Prop:=∀ b o v,F b o=some v->F' b o=some v
theorem Fz.le_refl (F:Fz):F.le F:=fun _ _ _ h=>h
theorem Fz.le_trans {F F' F'':Fz} (h:F.le F') (k:F'.le F''):F.le F'':=fun _ _ _ x=>k _ _ _ (h _ _ _ x)
inductive PV (F:Fz):Value->AV->Prop
 | v (x:Value) (h:Ye x=true):PV F x (.v x)
 | agg (cs:List Value) (as_:List AV) (hl:cs.length=as_.length) (h1:∀ a ∈ as_,AV.one a=true) (h:∀ (i:Nat) (c:Value) (a:AV),cs[i]? = some c->as_[i]? = some a->PV F c a):PV F (.agg cs.toArray) (.agg as_)
 | tup (cs:List Value) (as_:List AV) (hl:cs.length=as_.length) (h:∀ (i:Nat) (c:Value) (a:AV),cs[i]? = some c->as_[i]? = some a->PV F c a):PV F (.tuple cs.toArray) (.tup as_)
 | sl (A : Option Addr) (n cap k : Nat) (es : List AV) (hn : es.length = n) (hc : n <= cap) (hm : cap <= maxLen) (hk : ∀ e ∈ es, e.cells.length = k) (h1 : ∀ e ∈ es, ∀ a ∈ e.cells, AV.one a = true) (b o : Nat) (hA : 0 < n -> A = some ⟨b, o, none⟩)
   (f:Nat->Nat->Value) (hf:∀ i j,i < n->j < k->F b (o+i * k+j)=some (f i j)) (h:∀ (i j:Nat) (e a:AV),es[i]? = some e->e.cells[j]? = some a->PV F (f i j) a):PV F (.slice A n cap) (.sl k es)
 | ad (b o k : Nat) (es : List AV) (i off : Nat) (hk : ∀ e ∈ es, e.cells.length = k) (h1 : ∀ e ∈ es, ∀ a ∈ e.cells, AV.one a = true)
   (f:Nat->Nat->Value) (hf:∀ i j,i < es.length->j < k->F b (o+i * k+j)=some (f i j)) (h:∀ (i j:Nat) (e a:AV),es[i]? = some e->e.cells[j]? = some a->PV F (f i j) a):PV F (.pointer (some ⟨b,o+i * k+off,none⟩)) (.ad k es i off)
 | fn (f:FuncId) (xs:List Value) (as_:List AV) (hl:xs.length=as_.length) (h:∀ (i:Nat) (c:Value) (a:AV),xs[i]? = some c->as_[i]? = some a->PV F c a):PV F (.func (.func f) #[] xs.toArray) (.fn f as_)
theorem PV.mono {F F':Fz} (hF:F.le F') {x:Value} {a:AV} (h:PV F x a):PV F' x a:=by
 induction h with
 | v x h=>exact .v x h
 | agg cs as_ hl h1 h ih=>exact .agg cs as_ hl h1 ih
 | tup cs as_ hl h ih=>exact .tup cs as_ hl ih
 | sl A n cap k es hn hc hm hk h1 b o hA f hf h ih=>exact .sl A n cap k es hn hc hm hk h1 b o hA f (fun i j hi hj=>hF _ _ _ (hf i j hi hj)) ih
 | ad b o k es i off hk h1 f hf h ih=>exact .ad b o k es i off hk h1 f (fun i j hi hj=>hF _ _ _ (hf i j hi hj)) ih
 | fn f xs as_ hl h ih=>exact .fn f xs as_ hl ih
theorem PV.oneCell {F:Fz} {x:Value} {a:AV} (h:PV F x a) (ha:a.one=true):x.oneCell'=true:=by
 cases h with
 | v x h=>exact scal_one h
 | agg=>cases ha
 | tup=>cases ha
 | sl=>rfl
 | ad=>rfl
 | fn=>rfl
structure Ds where
 b:Nat
 C:Nat
 g:Nat
 k:Nat
abbrev Ow:=List Ds
inductive VR (F:Fz) (O:Ow):Value->AV->Prop
 | p {x:Value} {a:AV} (h:PV F x a):VR F O x a
 | agg (cs:List Value) (as_:List AV) (hl:cs.length=as_.length) (h1:∀ a ∈ as_,AV.one a=true) (h:∀ (i:Nat) (c:Value) (a:AV),cs[i]? = some c->as_[i]? = some a->VR F O c a):VR F O (.agg cs.toArray) (.agg as_)
 | tup (cs:List Value) (as_:List AV) (hl:cs.length=as_.length) (h:∀ (i:Nat) (c:Value) (a:AV),cs[i]? = some c->as_[i]? = some a->VR F O c a):VR F O (.tuple cs.toArray) (.tup as_)
 | nl (k:Nat):VR F O (.slice none 0 0) (.nl k)
 | em (A:Option Addr) (c:Nat) (b:Bool) (k:Nat) (hb:A.isSome = !b) (hm:c<=maxLen):VR F O (.slice A 0 c) (.em b k)
 | ol (x:Value) (i g n:Nat) (d:Ds) (hd:O[i]? = some d) (hg:g<=d.g) (h1:∃ A c,x = .slice A n c) (h:g=d.g->n<=d.C/\x = .slice (some ⟨d.b,0,none⟩) n d.C):VR F O x (.ol i g n)
 | os (x:Value) (i g lo n:Nat) (d:Ds) (hd:O[i]? = some d) (hg:g<=d.g) (h1:∃ A c,x = .slice A (n - lo) c) (h:g=d.g->lo<=n/\n<=d.C/\∃ A,x = .slice A (n - lo) (d.C - lo)/\(lo < d.C->A=some ⟨d.b,lo * d.k,none⟩)):VR F O x (.os i g lo n)
 | oa (x:Value) (i g e off:Nat) (d:Ds) (hd:O[i]? = some d) (hg:g<=d.g) (h1:x.oneCell'=true) (h:g=d.g->x = .pointer (some ⟨d.b,e * d.k+off,none⟩)):VR F O x (.oa i g e off)
 | io (x:Value) (t i g e off:Nat) (d:Ds) (hd:O[i]? = some d) (hg:g<=d.g) (h1:x.oneCell'=true) (h:g=d.g->x = .iface t (.pointer (some ⟨d.b,e * d.k+off,none⟩))):VR F O x (.io t i g e off)
 | oc (x:Value) (i g n c:Nat) (d:Ds) (hd:O[i]? = some d) (hg:g<=d.g) (h1:∃ A cc,x = .slice A n cc) (h:g=d.g->n<=d.C/\d.C=c/\x = .slice (some ⟨d.b,0,none⟩) n d.C):VR F O x (.oc i g n c)
 | mf (x:Value) (nm:String) (t i g e off:Nat) (d:Ds) (hd:O[i]? = some d) (hg:g<=d.g) (h1:x.oneCell'=true) (h:g=d.g->x = .func (.method nm) #[.iface t (.pointer (some ⟨d.b,e * d.k+off,none⟩))] #[]):VR F O x (.mf nm t i g e off)
 | mp (x:Value) (i g:Nat) (d:Ds) (hd:O[i]? = some d) (hg:g<=d.g) (h1:x.oneCell'=true) (h:g=d.g->x = .map (some d.b)):VR F O x (.mp i g)
 | fn (f:FuncId) (xs:List Value) (as_:List AV) (hl:xs.length=as_.length) (h:∀ (i:Nat) (c:Value) (a:AV),xs[i]? = some c->as_[i]? = some a->VR F O c a):VR F O (.func (.func f) #[] xs.toArray) (.fn f as_)
 | unk (x:Value):VR F O x .unk
def Ow.le (O O':Ow):Prop:=∀ (i:Nat) (d:Ds),O[i]? = some d->∃ d',O'[i]? = some d'/\d.g<=d'.g/\(d.g=d'.g->d'=d)
theorem Ow.le_refl (O:Ow):O.le O:=fun i d h=>⟨d,h,Nat.le_refl _,fun _=>rfl⟩
theorem Ow.le_trans {O O' O'':Ow} (h:O.le O') (k:O'.le O''):O.le O'':=fun i d hd=>by
 obtain ⟨d1,e1,g1,f1⟩:=h i d hd
 obtain ⟨d2,e2,g2,f2⟩:=k i d1 e1
 refine ⟨d2,e2,Nat.le_trans g1 g2,fun e=>?_⟩
 have e3:d.g=d1.g:=by omega
 have e4:d1.g=d2.g:=by omega
 rw [f2 e4,f1 e3]
theorem VR.mono {F F':Fz} {O O':Ow} (hF:F.le F') (hO:O.le O') {x:Value} {a:AV} (h:VR F O x a):VR F' O' x a:=by
 induction h with
 | p h=>exact .p (h.mono hF)
 | agg cs as_ hl h1 h ih=>exact .agg cs as_ hl h1 ih
 | tup cs as_ hl h ih=>exact .tup cs as_ hl ih
 | nl k=>exact .nl k
 | em A c b k hb hm=>exact .em A c b k hb hm
 | ol x i g n d hd hg h1 h =>
  obtain ⟨d',e,g1,f1⟩:=hO i d hd
  exact .ol x i g n d' e (by omega) h1 fun e'=>by
   have:d.g=d'.g:=by omega
   rw [f1 this]
   exact h (by omega)
 | os x i g lo n d hd hg h1 h =>
  obtain ⟨d',e,g1,f1⟩:=hO i d hd
  exact .os x i g lo n d' e (by omega) h1 fun e'=>by
   have:d.g=d'.g:=by omega
   rw [f1 this]
   exact h (by omega)
 | oa x i g e off d hd hg h1 h =>
  obtain ⟨d',e',g1,f1⟩:=hO i d hd
  exact .oa x i g e off d' e' (by omega) h1 fun e'=>by
   have:d.g=d'.g:=by omega
   rw [f1 this]
   exact h (by omega)
 | oc x i g n c d hd hg h1 h =>
  obtain ⟨d',e,g1,f1⟩:=hO i d hd
  exact .oc x i g n c d' e (by omega) h1 fun e'=>by
   have:d.g=d'.g:=by omega
   rw [f1 this]
   exact h (by omega)
 | mf x nm t i g e off d hd hg h1 h =>
  obtain ⟨d',e',g1,f1⟩:=hO i d hd
  exact .mf x nm t i g e off d' e' (by omega) h1 fun e'=>by
   have:d.g=d'.g:=by omega
   rw [f1 this]
   exact h (by omega)
 | mp x i g d hd hg h1 h =>
  obtain ⟨d',e',g1,f1⟩:=hO i d hd
  exact .mp x i g d' e' (by omega) h1 fun e'=>by
   have:d.g=d'.g:=by omega
   rw [f1 this]
   exact h (by omega)
 | io x t i g e off d hd hg h1 h =>
  obtain ⟨d',e',g1,f1⟩:=hO i d hd
  exact .io x t i g e off d' e' (by omega) h1 fun e'=>by
   have:d.g=d'.g:=by omega
   rw [f1 this]
   exact h (by omega)
 | fn f xs as_ hl h ih=>exact .fn f xs as_ hl ih
 | unk x=>exact .unk x
theorem VR.oneCell {F:Fz} {O:Ow} {x:Value} {a:AV} (h:VR F O x a) (ha:a.one=true):x.oneCell'=true:=by
 cases h with
 | p h=>exact h.oneCell ha
 | agg=>cases ha
 | tup=>cases ha
 | nl=>rfl
 | em=>rfl
 | ol _ _ _ _ _ _ _ h1=>obtain ⟨A,c,rfl⟩:=h1;rfl
 | os _ _ _ _ _ _ _ _ h1=>obtain ⟨A,c,rfl⟩:=h1;rfl
 | oa _ _ _ _ _ _ _ _ h1=>exact h1
 | io _ _ _ _ _ _ _ _ _ h1=>exact h1
 | mp _ _ _ _ _ _ h1=>exact h1
 | oc _ _ _ _ _ _ _ _ h1=>obtain ⟨A,c,rfl⟩:=h1;rfl
 | mf _ _ _ _ _ _ _ _ _ _ h1=>exact h1
 | fn=>rfl
 | unk=>cases ha
theorem VR.pvC0 {F:Fz} {O:Ow} {x:Value} {a:AV} (h:VR F O x a) (ha:a.isC0=true):PV F x a:=by
 cases h with
 | p h=>exact h
 | agg=>cases ha
 | tup=>cases ha
 | nl=>cases ha
 | em=>cases ha
 | ol=>cases ha
 | os=>cases ha
 | oa=>cases ha
 | io=>cases ha
 | mp=>cases ha
 | oc=>cases ha
 | mf=>cases ha
 | fn=>cases ha
 | unk=>cases ha
theorem VR.pvC {F:Fz} {O:Ow} {x:Value} {a:AV} (h:VR F O x a) (ha:a.isC=true):PV F x a:=by
 cases h with
 | p h=>exact h
 | agg=>cases ha
 | tup=>cases ha
 | nl=>cases ha
 | em=>cases ha
 | ol=>cases ha
 | os=>cases ha
 | oa=>cases ha
 | io=>cases ha
 | mp=>cases ha
 | oc=>cases ha
 | mf=>cases ha
 | fn f xs as_ hl h =>
  simp only [AV.isC,List.all_eq_true] at ha
  exact .fn f xs as_ hl fun i c a hc h2=>(h i c a hc h2).pvC0 (ha a (List.mem_of_getElem? h2))
 | unk=>cases ha
theorem VR.pv {F:Fz} {O:Ow} {x:Value} {a:AV} (h:VR F O x a) (ha:a.isP=true):PV F x a:=by
 cases h with
 | p h=>exact h
 | agg cs as_ hl h1 h =>
  refine .agg cs as_ hl h1 fun i c a hc h2=>(h i c a hc h2).pvC ?_
  simp only [AV.isP,List.all_eq_true] at ha
  exact ha a (List.mem_of_getElem? h2)
 | tup=>cases ha
 | nl=>cases ha
 | em=>cases ha
 | ol=>cases ha
 | os=>cases ha
 | oa=>cases ha
 | io=>cases ha
 | mp=>cases ha
 | oc=>cases ha
 | mf=>cases ha
 | fn f xs as_ hl h =>
  simp only [AV.isP,AV.isC,List.all_eq_true] at ha
  exact .fn f xs as_ hl fun i c a hc h2=>(h i c a hc h2).pvC0 (ha a (List.mem_of_getElem? h2))
 | unk=>cases ha
theorem VR.cells {F : Fz} {O : Ow} {x : Value} {a : AV} (h : VR F O x a) (ha : a.one = true \/ ∃ cs, a = .agg cs) :
  x.cells.size=a.cells.length/\(∀ u ∈ a.cells,u.one=true)/\∀ (j:Nat) (u:AV),a.cells[j]? = some u->∃ c,x.cells[j]? = some c/\VR F O c u:=by
 have single:a.one=true->x.oneCell'=true->x.cells.size=a.cells.length/\(∀ u ∈ a.cells,u.one=true)/\∀ (j:Nat) (u:AV),a.cells[j]? = some u->∃ c,x.cells[j]? = some c/\VR F O c u:=fun h1 h2=>by
  have e1:a.cells=[a]:=by cases a<;>first|rfl|cases h1
  have e2:x.cells = #[x]:=by cases x<;>first|rfl|cases h2
  rw [e1,e2]
  refine ⟨rfl,by simpa using h1,fun j u hj=>?_⟩
  cases j with
  | zero=>simp at hj;subst hj;exact ⟨x,rfl,h⟩
  | succ j=>simp at hj
 rcases ha with ha|⟨as_,rfl⟩
 ·exact single ha (h.oneCell ha)
 ·cases h with
  | p h =>
   cases h with
   | agg cs as_ hl h1 h =>
    refine ⟨by simpa [Value.cells,AV.cells] using hl,h1,fun j u hj=>?_⟩
    have hj':as_[j]? = some u:=hj
    have:j < cs.length:=by rw [hl];exact (List.getElem?_eq_some_iff.1 hj').1
    exact ⟨cs[j],by simp [Value.cells,this],.p (h j _ _ (List.getElem?_eq_getElem this) hj')⟩
  | agg cs as_ hl h1 h =>
   refine ⟨by simpa [Value.cells,AV.cells] using hl,h1,fun j u hj=>?_⟩
   have hj':as_[j]? = some u:=hj
   have:j < cs.length:=by rw [hl];exact (List.getElem?_eq_some_iff.1 hj').1
   exact ⟨cs[j],by simp [Value.cells,this],h j _ _ (List.getElem?_eq_getElem this) hj'⟩
structure OB where
 e:TypeId
 k:Nat
 es:List AV
 g:Nat
 fz:Nat
abbrev Hp:=List OB
structure Bd where
 n:Nat
 K:Nat->Prop
 ds:List Deferred:=[]
def Bd.ok (B:Bd) (b:Nat):Prop:=B.n<=b/\¬ B.K b
abbrev Bd.of (n:Nat):Bd:=⟨n,fun _=>False,[]⟩
abbrev ZZ:TypeId:=4000000000
def flatE (es:Array MapEntry):Array Value:=(es.toList.flatMap fun x=>[x.key,x.val]).toArray
def ObjIs (o:Option Obj) (e:TypeId) (n:Nat) (cur:Array Value):Prop:=(e ≠ ZZ/\o=some (.cells cur e (0,0)))\/(e=ZZ/\∃ ents clock,o=some (.map ents clock)/\cur=flatE ents/\ents.size=n)
theorem ObjIs.is {o:Option Obj} {e:TypeId} {n:Nat} {cur:Array Value} (h:ObjIs o e n cur):∃ x,o=some x:=by
 rcases h with ⟨_,h⟩|⟨_,_,_,h,_⟩<;>exact ⟨_,h⟩
theorem ObjIs.row {o:Option Obj} {e:TypeId} {n:Nat} {cur:Array Value} (h:ObjIs o e n cur) (ne:e ≠ ZZ):o=some (Obj.cells cur e (0,0)):=by
 rcases h with ⟨_,h⟩|⟨h,_⟩
 ·exact h
 ·exact absurd h ne
structure Row (B:Bd) (F:Fz) (O:Ow) (w:World) (d:Ds) (ob:OB):Prop where
 hg:d.g=ob.g
 hk:d.k=ob.k
 hB:B.ok d.b
 cur:∃ cur,ObjIs (w.heap[d.b]?) ob.e ob.es.length cur/\(ob.e ≠ ZZ->cur.size=d.C * ob.k)/\∀ (n j:Nat) (e a:AV),ob.es[n]? = some e->e.cells[j]? = some a->∃ c,cur[n * ob.k+j]? = some c/\VR F O c a
 hC:d.C<=maxLen
 hl:ob.e ≠ ZZ->ob.es.length<=d.C
 hn:∀ e ∈ ob.es,e.cells.length=ob.k
 h1:∀ e ∈ ob.es,∀ a ∈ e.cells,AV.one a=true
 hf:∀ o v,F d.b o=some v->o < ob.fz * ob.k
 hz:ob.fz<=ob.es.length
theorem Row.curc {B:Bd} {F:Fz} {O:Ow} {w:World} {d:Ds} {ob:OB} (r:Row B F O w d ob) (ne:ob.e ≠ ZZ):∃ cur,w.heap[d.b]? = some (.cells cur ob.e (0,0))/\cur.size=d.C * ob.k/\∀ (n j:Nat) (e a:AV),ob.es[n]? = some e->e.cells[j]? = some a->∃ c,cur[n * ob.k+j]? = some c/\VR F O c a:=by
 obtain ⟨cur,h1,h2,h3⟩:=r.cur
 exact ⟨cur,h1.row ne,h2 ne,h3⟩
structure Own (B:Bd) (w0:World) (F0 F:Fz) (O:Ow) (H:Hp) (w:World):Prop where
 len:O.length=H.length
 row:∀ (i:Nat) (d:Ds) (ob:OB),O[i]? = some d->H[i]? = some ob->Row B F O w d ob
 inj:∀ (i j:Nat) (d d':Ds),O[i]? = some d->O[j]? = some d'->d.b=d'.b->i=j
 fr:∀ b o v,F b o=some v->w.cell? ⟨b,o,none⟩=some v
 le:F0.le F
 new:∀ b o v,F b o=some v->F0 b o=some v\/B.ok b
 below:Below B.n w0 w
 size:B.n<=w.heap.size
 kept:∀ b,B.K b->w.heap[b]? = w0.heap[b]?
 kb:∀ b,B.K b->b < w0.heap.size
theorem Row.ds {B:Bd} {F:Fz} {O:Ow} {w:World} {d:Ds} {ob:OB} (h:Row B F O w d ob) (ds:List Deferred):Row ⟨B.n,B.K,ds⟩ F O w d ob:=⟨h.hg,h.hk,h.hB,h.cur,h.hC,h.hl,h.hn,h.h1,h.hf,h.hz⟩
theorem Own.ds {B:Bd} {w0 w:World} {F0 F:Fz} {O:Ow} {H:Hp} (h:Own B w0 F0 F O H w) (ds:List Deferred):Own ⟨B.n,B.K,ds⟩ w0 F0 F O H w:=⟨h.len,fun i d ob a b=>(h.row i d ob a b).ds ds,h.inj,h.fr,h.le,h.new,h.below,h.size,h.kept,h.kb⟩
theorem Own.get {B:Bd} {w0 w:World} {F0 F:Fz} {O:Ow} {H:Hp} (h:Own B w0 F0 F O H w) {i:Nat} {ob:OB} (hi:H[i]? = some ob):∃ d,O[i]? = some d/\Row B F O w d ob:=by
 have hl:i < O.length:=by rw [h.len];exact (List.getElem?_eq_some_iff.1 hi).1
 exact ⟨O[i],List.getElem?_eq_getElem hl,h.row i _ ob (List.getElem?_eq_getElem hl) hi⟩
theorem Row.lt {B:Bd} {F:Fz} {O:Ow} {w:World} {d:Ds} {ob:OB} (h:Row B F O w d ob):d.b < w.heap.size:=by
 obtain ⟨cur,hc,_⟩:=h.cur
 obtain ⟨x,hc⟩:=hc.is
 rcases Nat.lt_or_ge d.b w.heap.size with hh|hh
 ·exact hh
 ·rw [Array.getElem?_eq_none hh] at hc;cases hc
theorem yj {w:World} {a:Addr} {v:Value} (h:w.cell? a=some v):a.block < w.heap.size:=by
 rcases Nat.lt_or_ge a.block w.heap.size with hh|hh
 ·exact hh
 ·unfold World.cell? at h;rw [Array.getElem?_eq_none hh] at h;cases h
theorem Own.keep {B:Bd} {w0 w w':World} {F0 F:Fz} {O:Ow} {H:Hp} (h:Own B w0 F0 F O H w) (hb:Below w.heap.size w w'):Own B w0 F0 F O H w' where
 len:=h.len
 row:=fun i d ob hd ho=>by
  have r:=h.row i d ob hd ho
  obtain ⟨cur,h1,h2⟩:=r.cur
  exact { r with cur:=⟨cur,by rw [hb.block _ r.lt];exact h1,h2⟩ }
 inj:=h.inj
 fr:=fun b o v hv=>by
  have:=h.fr b o v hv
  rw [hb.cell (p:=⟨b,o,none⟩) (yj this)]
  exact this
 le:=h.le
 new:=h.new
 below:=h.below.trans (hb.mono h.size)
 size:=Nat.le_trans h.size hb.size
 kept:=fun b hk=>by rw [hb.block b (Nat.lt_of_lt_of_le (h.kb b hk) h.below.size)];exact h.kept b hk
 kb:=h.kb
theorem Own.okGe {B:Bd} {w0 w:World} {F0 F:Fz} {O:Ow} {H:Hp} (h:Own B w0 F0 F O H w) {b:Nat} (hb:w.heap.size<=b):B.ok b :=
 ⟨Nat.le_trans h.size hb,fun hk=>by have:=h.kb b hk;have:=h.below.size;omega⟩
theorem Own.freeze {B : Bd} {w0 w : World} {F0 F : Fz} {O : Ow} {H : Hp} (h : Own B w0 F0 F O H w) {i : Nat} {ob : OB} (hi : H[i]? = some ob) (ne : ob.e ≠ ZZ) {n : Nat} (hn : n <= ob.es.length) (hp : (ob.es.take n).all AV.isP = true) {x : Value} (hx : VR F O x (.ol i ob.g n)) :
  ∃ F',PV F' x (.sl ob.k (ob.es.take n))/\Own B w0 F0 F' O (H.set i { ob with fz:=max ob.fz n }) w/\F.le F':=by
 obtain ⟨d,hd,r⟩:=h.get hi
 obtain ⟨cur,hcur,hsz,hcell⟩:=r.curc ne
 have hF':F.le (fun b o=>if b=d.b/\o < n * ob.k then w.cell? ⟨b,o,none⟩ else F b o):=fun b o v hv=>by
  by_cases hc:b=d.b/\o < n * ob.k
  ·simp only [if_pos hc];exact h.fr b o v hv
  ·simp only [if_neg hc];exact hv
 have hxv:n<=d.C/\x = .slice (some ⟨d.b,0,none⟩) n d.C:=by
  cases hx with
  | p h=>cases h
  | ol x i g n d' hd' hg h1 h =>
   rw [hd] at hd'
   cases hd'
   exact h r.hg.symm
 have hcw:∀ o c,cur[o]? = some c->w.cell? ⟨d.b,o,none⟩=some c:=fun o c hc=>by
  simp [World.cell?,hcur,hc]
 refine ⟨_,?_,?_,hF'⟩
 ·rw [hxv.2]
  refine .sl _ n d.C ob.k (ob.es.take n) (by simp;omega) hxv.1 r.hC (fun e he=>r.hn e (List.mem_of_mem_take he)) (fun e he=>r.h1 e (List.mem_of_mem_take he)) d.b 0 (fun _=>rfl)
   (fun i j=>(w.cell? ⟨d.b,0+i * ob.k+j,none⟩).getD undef) ?_ ?_
  ·intro i j hin hjk
   have hlt:0+i * ob.k+j < n * ob.k:=by
    have:=Nat.mul_le_mul_right ob.k (show i+1<=n by omega)
    rw [Nat.add_mul] at this;omega
   simp only [true_and,hlt,if_true]
   have hic:(i * ob.k+j) < cur.size:=by
    rw [hsz]
    have:=Nat.mul_le_mul_right ob.k hxv.1
    omega
   rw [hcw (0+i * ob.k+j) cur[i * ob.k+j] (by rw [Nat.zero_add];exact Array.getElem?_eq_getElem hic)]
   rfl
  ·intro i j e a he ha
   have he':ob.es[i]? = some e:=by
    rw [List.getElem?_take] at he
    split at he
    ·exact he
    ·cases he
   obtain ⟨c,hc,hr⟩:=hcell i j e a he' ha
   rw [hcw (0+i * ob.k+j) c (by rw [Nat.zero_add];exact hc)]
   have hep:e.isP=true:=(List.all_eq_true.1 hp) e (List.mem_of_getElem? he)
   refine (hr.pvC ?_).mono hF'
   cases e with
   | agg cs =>
    simp only [AV.isP,List.all_eq_true] at hep
    exact hep a (List.mem_of_getElem? ha)
   | _ =>
    have:a ∈ [_]:=List.mem_of_getElem? ha
    simp at this
    subst this
    exact hep
 ·refine ⟨by simpa using h.len, ?_, h.inj, ?_, Fz.le_trans h.le hF', ?_, h.below, h.size, h.kept, h.kb⟩
  ·intro j d' ob' hd' ho'
   rw [List.getElem?_set] at ho'
   split at ho'
   ·rename_i hij
    subst hij
    split at ho'
    ·rw [hd] at hd'
     cases hd'
     cases ho'
     refine ⟨r.hg,r.hk,r.hB,⟨cur,.inl ⟨ne,hcur⟩,fun _=>hsz,fun n j e a he ha=>?_⟩,r.hC,r.hl,r.hn,r.h1,?_,?_⟩
     ·obtain ⟨c, hc, hr⟩ := hcell n j e a he ha
      exact ⟨c,hc,hr.mono hF' (Ow.le_refl O)⟩
     ·intro o v hv
      have hm1:ob.fz * ob.k<=max ob.fz n * ob.k:=Nat.mul_le_mul_right _ (Nat.le_max_left _ _)
      have hm2:n * ob.k<=max ob.fz n * ob.k:=Nat.mul_le_mul_right _ (Nat.le_max_right _ _)
      by_cases hc:d.b=d.b/\o < n * ob.k
      ·exact Nat.lt_of_lt_of_le hc.2 hm2
      ·have hv' : (if d.b = d.b /\ o < n * ob.k then w.cell? ⟨d.b, o, none⟩ else F d.b o) = some v := hv
       rw [if_neg hc] at hv'
       exact Nat.lt_of_lt_of_le (r.hf o v hv') hm1
     ·exact Nat.max_le.2 ⟨r.hz,hn⟩
    ·cases ho'
   ·rename_i hij
    have r':=h.row j d' ob' hd' ho'
    obtain ⟨cur',hcur',hsz',hcell'⟩:=r'.cur
    refine { r' with cur:=⟨cur',hcur',hsz',fun n j e a he ha=>?_⟩,hf:=?_ }
    ·obtain ⟨c, hc, hr⟩ := hcell' n j e a he ha
     exact ⟨c,hc,hr.mono hF' (Ow.le_refl O)⟩
    ·intro o v hv
     have hne:d'.b ≠ d.b:=fun e=>hij (h.inj i j d d' hd hd' e.symm)
     simp only [hne,false_and,if_false] at hv
     exact r'.hf o v hv
  ·intro b o v hv
   by_cases hc:b=d.b/\o < n * ob.k
   ·simp only [if_pos hc] at hv;exact hv
   ·simp only [if_neg hc] at hv;exact h.fr b o v hv
  ·intro b o v hv
   by_cases hc:b=d.b/\o < n * ob.k
   ·right;rw [hc.1];exact r.hB
   ·simp only [if_neg hc] at hv;exact h.new b o v hv
theorem Own.freezeA {B : Bd} {w0 w : World} {F0 F : Fz} {O : Ow} {H : Hp} (h : Own B w0 F0 F O H w) {i : Nat} {ob : OB} (hi : H[i]? = some ob) (ne : ob.e ≠ ZZ) (hp : ob.es.all AV.isP = true) {x : Value} {e off : Nat} (hx : VR F O x (.oa i ob.g e off)) :
  ∃ F',PV F' x (.ad ob.k ob.es e off)/\Own B w0 F0 F' O (H.set i { ob with fz:=max ob.fz ob.es.length }) w/\F.le F':=by
 obtain ⟨d,hd,r⟩:=h.get hi
 have hxv:x = .pointer (some ⟨d.b,e * d.k+off,none⟩):=by
  cases hx with
  | p h=>cases h
  | oa x i g e off d' hd' hg h1 h =>
   rw [hd] at hd'
   cases hd'
   exact h r.hg.symm
 have hy:VR F O (.slice (some ⟨d.b,0,none⟩) ob.es.length d.C) (.ol i ob.g ob.es.length):=.ol _ i ob.g _ d hd (by rw [r.hg];omega) ⟨_,_,rfl⟩ fun _=>⟨r.hl ne,rfl⟩
 obtain ⟨F',p,o,l⟩:=h.freeze hi ne (Nat.le_refl _) (by rw [List.take_length];exact hp) hy
 rw [List.take_length] at p
 refine ⟨F',?_,o,l⟩
 rw [hxv,r.hk]
 cases p with
 | sl A n cap k es hn hc hm hk h1 b o' hA f hf hh =>
  have e0:(⟨d.b,e * ob.k+off,none⟩:Addr)=⟨d.b,0+e * ob.k+off,none⟩:=by simp
  rw [e0]
  refine .ad d.b 0 ob.k ob.es e off hk h1 f (fun i j hi hj=>?_) hh
  have:=hA (by omega)
  cases this
  exact hf i j hi hj
def ZE (H:Hp):AV->Option (AV × Hp)
 | .nl k=>some (.sl k [],H)
 | .em _ k=>some (.sl k [],H)
 | .ol i g n =>
  match H[i]? with
  | some ob=>if (ob.g=g/\n<=ob.es.length/\(ob.es.take n).all AV.isP=true)/\(ob.e == 4000000000)=false then some (.sl ob.k (ob.es.take n),H.set i { ob with fz:=max ob.fz n }) else none
  | none=>none
 | .oa i g e off =>
  match H[i]? with
  | some ob=>if (ob.g=g/\ob.es.all AV.isP=true)/\(ob.e == 4000000000)=false then some (.ad ob.k ob.es e off,H.set i { ob with fz:=max ob.fz ob.es.length }) else none
  | none=>none
 | a=>if a.isC then some (a,H) else none
def YG:Hp->List AV->Option (List AV × Hp)
 | H,[]=>some ([],H)
 | H,a::as_ =>
  match ZE H a with
  | some (a',H')=>(match YG H' as_ with|some (as',H'')=>some (a'::as',H'')|none=>none)
  | none=>none
def pur (H:Hp):AV->Option (AV × Hp)
 | .agg cs=>(match YG H cs with|some (cs',H')=>some (.agg cs',H')|none=>none)
 | .fn f cs=>(match YG H cs with|some (cs',H')=>some (.fn f cs',H')|none=>none)
 | a=>ZE H a
def yi:Hp->List AV->Option (List AV × Hp)
 | H,[]=>some ([],H)
 | H,a::as_ =>
  match pur H a with
  | some (a',H')=>(match yi H' as_ with|some (as',H'')=>some (a'::as',H'')|none=>none)
  | none=>none
theorem purC_isC {H:Hp} {a:AV} (h:a.isC=true):ZE H a=some (a,H):=by
 cases a with
 | fn f cs=>simp only [ZE,h,if_true]
 | _=>first|rfl|cases h
theorem isC_of0 {a:AV} (h:a.isC0=true):a.isC=true:=by cases a<;>first|rfl|cases h
theorem xV {H:Hp}:∀ {as_:List AV},as_.all AV.isC=true->YG H as_=some (as_,H)
 | [],_=>rfl
 | a::as_,h=>by
  simp only [List.all_cons,Bool.and_eq_true] at h
  simp only [YG,purC_isC h.1,xV h.2]
theorem pur_isP {H:Hp} {a:AV} (h:a.isP=true):pur H a=some (a,H):=by
 cases a with
 | agg cs=>simp only [pur,xV (H:=H) (as_:=cs) h]
 | fn f cs=>simp only [pur,xV (H:=H) (as_:=cs) (List.all_eq_true.2 fun a ha=>isC_of0 (List.all_eq_true.1 (show cs.all AV.isC0=true from h) a ha))]
 | v x=>rfl
 | sl k es=>rfl
 | ad k es i off=>rfl
 | _=>cases h
theorem xY {H:Hp}:∀ {as_:List AV},as_.all AV.isP=true->yi H as_=some (as_,H)
 | [],_=>rfl
 | a::as_,h=>by
  simp only [List.all_cons,Bool.and_eq_true] at h
  simp only [yi,pur_isP h.1,xY h.2]
theorem X2 {B : Bd} {w0 w : World} {F0 F : Fz} {O : Ow} {H H' : Hp} (h : Own B w0 F0 F O H w) {x : Value} {a a' : AV} (hx : VR F O x a) (hp : ZE H a = some (a', H')) :
  ∃ F',PV F' x a'/\Own B w0 F0 F' O H' w/\F.le F'/\a'.one=true:=by
 cases a with
 | nl k =>
  simp only [ZE,Option.some.injEq,Prod.mk.injEq] at hp
  obtain ⟨rfl,rfl⟩:=hp
  cases hx with
  | p h=>cases h
  | nl=>exact ⟨F,.sl none 0 0 k [] rfl (Nat.le_refl _) (Nat.zero_le _) (fun e he=>by cases he) (fun e he=>by cases he) 0 0 (fun h=>absurd h (Nat.lt_irrefl _)) (fun _ _=>undef) (fun i j hi=>absurd hi (Nat.not_lt_zero _)) (fun i j e a he=>by simp at he),h,Fz.le_refl F,rfl⟩
 | em b k =>
  simp only [ZE,Option.some.injEq,Prod.mk.injEq] at hp
  obtain ⟨rfl,rfl⟩:=hp
  cases hx with
  | p h=>cases h
  | em A c b k hb hm=>exact ⟨F,.sl A 0 c k [] rfl (Nat.zero_le _) hm (fun e he=>by cases he) (fun e he=>by cases he) 0 0 (fun h=>absurd h (Nat.lt_irrefl _)) (fun _ _=>undef) (fun i j hi=>absurd hi (Nat.not_lt_zero _)) (fun i j e a he=>by simp at he),h,Fz.le_refl F,rfl⟩
 | ol i g n =>
  simp only [ZE] at hp
  split at hp
  ·rename_i ob hi
   split at hp
   ·rename_i hc
    obtain ⟨⟨rfl,hn,ht⟩,hne⟩:=hc
    simp only [Option.some.injEq,Prod.mk.injEq] at hp
    obtain ⟨rfl,rfl⟩:=hp
    obtain ⟨F',h1,h2,h3⟩:=h.freeze hi (by simpa using hne) hn ht hx
    exact ⟨F',h1,h2,h3,rfl⟩
   ·cases hp
  ·cases hp
 | os i g lo n=>simp [ZE,AV.isC,AV.isC0] at hp
 | v y =>
  simp only [ZE,AV.isC,AV.isC0,if_true,Option.some.injEq,Prod.mk.injEq] at hp
  obtain ⟨rfl,rfl⟩:=hp
  exact ⟨F,hx.pvC rfl,h,Fz.le_refl F,rfl⟩
 | sl k es =>
  simp only [ZE,AV.isC,AV.isC0,if_true,Option.some.injEq,Prod.mk.injEq] at hp
  obtain ⟨rfl,rfl⟩:=hp
  exact ⟨F,hx.pvC rfl,h,Fz.le_refl F,rfl⟩
 | ad k es i off =>
  simp only [ZE,AV.isC,AV.isC0,if_true,Option.some.injEq,Prod.mk.injEq] at hp
  obtain ⟨rfl,rfl⟩:=hp
  exact ⟨F,hx.pvC rfl,h,Fz.le_refl F,rfl⟩
 | agg cs=>simp [ZE,AV.isC,AV.isC0] at hp
 | tup cs=>simp [ZE,AV.isC,AV.isC0] at hp
 | oa i g e off =>
  simp only [ZE] at hp
  split at hp
  ·rename_i ob hi
   split at hp
   ·rename_i hc
    obtain ⟨⟨rfl,ht⟩,hne⟩:=hc
    simp only [Option.some.injEq,Prod.mk.injEq] at hp
    obtain ⟨rfl,rfl⟩:=hp
    obtain ⟨F',h1,h2,h3⟩:=h.freezeA hi (by simpa using hne) ht hx
    exact ⟨F',h1,h2,h3,rfl⟩
   ·cases hp
  ·cases hp
 | fn f cs =>
  simp only [ZE] at hp
  split at hp
  ·rename_i hc
   cases hp
   exact ⟨F,hx.pvC hc,h,Fz.le_refl F,rfl⟩
  ·cases hp
 | io t i g e off=>simp [ZE,AV.isC,AV.isC0] at hp
 | mp i g=>simp [ZE,AV.isC,AV.isC0] at hp
 | oc i g n c=>simp [ZE,AV.isC,AV.isC0] at hp
 | mf nm t i g e off=>simp [ZE,AV.isC,AV.isC0] at hp
 | unk=>simp [ZE,AV.isC,AV.isC0] at hp
theorem X1 {B : Bd} {w0 w : World} {F0 : Fz} {O : Ow} : ∀ {as_ as' : List AV} {F : Fz} {H H' : Hp} {xs : List Value}, Own B w0 F0 F O H w -> xs.length = as_.length -> (∀ (i : Nat) (c : Value) (a : AV), xs[i]? = some c -> as_[i]? = some a -> VR F O c a) -> YG H as_ = some (as', H') ->
  ∃ F',(∀ (i:Nat) (c:Value) (a:AV),xs[i]? = some c->as'[i]? = some a->PV F' c a)/\as'.length=as_.length/\(∀ a ∈ as',a.one=true)/\Own B w0 F0 F' O H' w/\F.le F'
 | [],as',F,H,H',xs,h,hl,hv,hp=>by
  simp only [YG,Option.some.injEq,Prod.mk.injEq] at hp
  obtain ⟨rfl,rfl⟩:=hp
  exact ⟨F,fun i c a _ ha=>by simp at ha,rfl,(fun a ha=>by cases ha),h,Fz.le_refl F⟩
 | a::as_,as',F,H,H',[],h,hl,hv,hp=>by simp at hl
 | a::as_,as',F,H,H',x::xs,h,hl,hv,hp=>by
  simp only [YG] at hp
  split at hp
  ·rename_i a1 H1 h1
   split at hp
   ·rename_i as1 H2 h2
    simp only [Option.some.injEq,Prod.mk.injEq] at hp
    obtain ⟨rfl,rfl⟩:=hp
    obtain ⟨F1,p1,o1,l1,n1⟩:=X2 h (hv 0 x a rfl rfl) h1
    obtain ⟨F2,p2,e2,n2,o2,l2⟩:=X1 (xs:=xs) o1 (by simpa using hl) (fun i c a hc ha=>(hv (i+1) c a hc ha).mono l1 (Ow.le_refl O)) h2
    refine ⟨F2,fun i c a hc ha=>?_,by simp [e2],fun a ha=>?_,o2,Fz.le_trans l1 l2⟩
    ·cases i with
     | zero=>simp at hc ha;subst hc;subst ha;exact p1.mono l2
     | succ i=>exact p2 i c a hc ha
    ·rcases List.mem_cons.1 ha with rfl | ha
     ·exact n1
     ·exact n2 a ha
   ·cases hp
  ·cases hp
theorem pur_ok {B : Bd} {w0 w : World} {F0 F : Fz} {O : Ow} {H H' : Hp} (h : Own B w0 F0 F O H w) {x : Value} {a a' : AV} (hx : VR F O x a) (hp : pur H a = some (a', H')) :
  ∃ F',PV F' x a'/\Own B w0 F0 F' O H' w/\F.le F':=by
 by_cases hg:∃ cs,a = .agg cs
 ·obtain ⟨cs, rfl⟩ := hg
  simp only [pur] at hp
  split at hp
  ·rename_i cs' H1 h1
   simp only [Option.some.injEq,Prod.mk.injEq] at hp
   obtain ⟨rfl,rfl⟩:=hp
   obtain ⟨xs,hxs,hl,hv⟩:∃ xs:List Value,x = .agg xs.toArray/\xs.length=cs.length/\∀ (i:Nat) (c:Value) (a:AV),xs[i]? = some c->cs[i]? = some a->VR F O c a:=by
    cases hx with
    | p h=>cases h with
     | agg xs as_ hl h1 h=>exact ⟨xs,rfl,hl,fun i c a hc ha=>.p (h i c a hc ha)⟩
    | agg xs as_ hl h1 h=>exact ⟨xs,rfl,hl,h⟩
   obtain ⟨F',p,e,n,o,l⟩:=X1 h hl hv h1
   subst hxs
   exact ⟨F',.agg xs cs' (by omega) n p,o,l⟩
  ·cases hp
 ·by_cases hg2 : ∃ f cs, a = .fn f cs
  ·obtain ⟨f, cs, rfl⟩ := hg2
   simp only [pur] at hp
   split at hp
   ·rename_i cs' H1 h1
    simp only [Option.some.injEq,Prod.mk.injEq] at hp
    obtain ⟨rfl,rfl⟩:=hp
    obtain ⟨xs,hxs,hl,hv⟩:∃ xs:List Value,x = .func (.func f) #[] xs.toArray/\xs.length=cs.length/\∀ (i:Nat) (c:Value) (a:AV),xs[i]? = some c->cs[i]? = some a->VR F O c a:=by
     cases hx with
     | p h=>cases h with
      | fn f xs as_ hl h=>exact ⟨xs,rfl,hl,fun i c a hc ha=>.p (h i c a hc ha)⟩
     | fn f xs as_ hl h=>exact ⟨xs,rfl,hl,h⟩
    obtain ⟨F',p,e,n,o,l⟩:=X1 h hl hv h1
    subst hxs
    exact ⟨F',.fn f xs cs' (by omega) p,o,l⟩
   ·cases hp
  ·have hp' : ZE H a = some (a', H') := by
    cases a with
    | agg cs=>exact absurd ⟨cs,rfl⟩ hg
    | fn f cs=>exact absurd ⟨f,cs,rfl⟩ hg2
    | _=>exact hp
   obtain ⟨F',p,o,l,_⟩:=X2 h hx hp'
   exact ⟨F',p,o,l⟩
theorem Yw {B : Bd} {w0 w : World} {F0 : Fz} {O : Ow} : ∀ {as_ as' : List AV} {F : Fz} {H H' : Hp} {xs : List Value}, Own B w0 F0 F O H w -> xs.length = as_.length -> (∀ (i : Nat) (c : Value) (a : AV), xs[i]? = some c -> as_[i]? = some a -> VR F O c a) -> yi H as_ = some (as', H') ->
  ∃ F',(∀ (i:Nat) (c:Value) (a:AV),xs[i]? = some c->as'[i]? = some a->PV F' c a)/\as'.length=as_.length/\Own B w0 F0 F' O H' w/\F.le F'
 | [],as',F,H,H',xs,h,hl,hv,hp=>by
  simp only [yi,Option.some.injEq,Prod.mk.injEq] at hp
  obtain ⟨rfl,rfl⟩:=hp
  exact ⟨F,fun i c a _ ha=>by simp at ha,rfl,h,Fz.le_refl F⟩
 | a::as_,as',F,H,H',[],h,hl,hv,hp=>by simp at hl
 | a::as_,as',F,H,H',x::xs,h,hl,hv,hp=>by
  simp only [yi] at hp
  split at hp
  ·rename_i a1 H1 h1
   split at hp
   ·rename_i as1 H2 h2
    simp only [Option.some.injEq,Prod.mk.injEq] at hp
    obtain ⟨rfl,rfl⟩:=hp
    obtain ⟨F1,p1,o1,l1⟩:=pur_ok h (hv 0 x a rfl rfl) h1
    obtain ⟨F2,p2,e2,o2,l2⟩:=Yw (xs:=xs) o1 (by simpa using hl) (fun i c a hc ha=>(hv (i+1) c a hc ha).mono l1 (Ow.le_refl O)) h2
    refine ⟨F2,fun i c a hc ha=>?_,by simp [e2],o2,Fz.le_trans l1 l2⟩
    cases i with
    | zero=>simp at hc ha;subst hc;subst ha;exact p1.mono l2
    | succ i=>exact p2 i c a hc ha
   ·cases hp
  ·cases hp
def zR (P:Program) {α:Type}:Sem α->Option α
 | .pure a=>some a
 | .program k=>zR P (k P)
 | .mark _ k=>zR P k
 | _=>none
theorem yC {P:Program} {α:Type} (s:Sem α) {a:α} (h:zR P s=some a) (w:World):s.run P w = .ok a w:=by
 induction s with
 | pure b=>simp only [zR,Option.some.injEq] at h;subst h;rfl
 | program k ih=>exact ih P h
 | mark m k ih=>exact ih h
 | _=>cases h
def wM (k:Option Nat) (v:Value):Option AV :=
 if Ye v then some (.v v) else match v,k with
  | .slice none 0 0,some k=>some (.nl k)
  | _,_=>none
def xN:List (Option Nat)->List Value->Option (List AV)
 | [],[]=>some []
 | k::ks,v::vs =>
  match wM k v,xN ks vs with
  | some a,some as_=>some (a::as_)
  | _,_=>none
 | _,_=>none
def xr (P:Program):Nat->TypeId->List (Option Nat)
 | 0,_=>[]
 | d+1,t =>
  match P.underlying t with
  | some (.struct fs)=>fs.toList.flatMap fun f=>xr P d f.type
  | some (.array n e)=>(List.replicate n (xr P d e)).flatten
  | some (.slice e)=>[(P.info? e).map (·.size)]
  | _=>[none]
def xA (P:Program) (t:TypeId):Value->Option AV
 | .agg cs=>(match xN (xr P 12 t) cs.toList with|some as_=>some (.agg as_)|none=>none)
 | v=>wM ((xr P 12 t).headD none) v
theorem xt {k:Option Nat} {v:Value} {a:AV} (h:wM k v=some a) (F:Fz) (O:Ow):VR F O v a/\a.one=true:=by
 unfold wM at h
 split at h
 ·rename_i hs;cases h;exact ⟨.p (.v v hs),rfl⟩
 ·split at h
  ·cases h;exact ⟨.nl _,rfl⟩
  ·cases h
theorem avCells_ok (F:Fz) (O:Ow):∀ {ks:List (Option Nat)} {vs:List Value} {as_:List AV},xN ks vs=some as_->vs.length=as_.length/\(∀ a ∈ as_,a.one=true)/\∀ (i:Nat) (c:Value) (a:AV),vs[i]? = some c->as_[i]? = some a->VR F O c a
 | [],[],as_,h=>by cases h;exact ⟨rfl,fun a ha=>(by cases ha),fun i c a hc=>by simp at hc⟩
 | [],_::_,as_,h=>by cases h
 | _::_,[],as_,h=>by cases h
 | k::ks,v::vs,as_,h=>by
  simp only [xN] at h
  split at h
  ·rename_i a as' h1 h2
   cases h
   obtain ⟨l,o,r⟩:=avCells_ok F O h2
   obtain ⟨r1,o1⟩:=xt h1 F O
   refine ⟨by simp [l],fun b hb=>?_,fun i c b hc hb=>?_⟩
   ·rcases List.mem_cons.1 hb with rfl | hb
    ·exact o1
    ·exact o b hb
   ·cases i with
    | zero=>simp at hc hb;subst hc;subst hb;exact r1
    | succ i=>exact r i c b hc hb
  ·cases h
theorem yZ {P:Program} {t:TypeId} {v:Value} {a:AV} (h:xA P t v=some a) (F:Fz) (O:Ow):VR F O v a/\(a.one=true\/∃ cs,a = .agg cs):=by
 cases v with
 | agg cs =>
  simp only [xA] at h
  split at h
  ·rename_i as_ h1
   cases h
   obtain ⟨l,o,r⟩:=avCells_ok F O h1
   exact ⟨by have:=VR.agg (F:=F) (O:=O) cs.toList as_ l o r;simpa using this,.inr ⟨as_,rfl⟩⟩
  ·cases h
 | _=>exact ⟨(xt (k:=(xr P 12 t).headD none) h F O).1,.inl (xt (k:=(xr P 12 t).headD none) h F O).2⟩
inductive AX where
 | t (n:Nat)
 | c (a:AV)
 | g (n:Nat)
def AX.ev (G:Nat->AV) (s:List AV):AX->AV
 | .t n=>s.getD n (.tup [])
 | .c a=>a
 | .g n=>G n
def cx (P:Program) (ty:TypeId):Operand->Option AX
 | .tmp t=>some (.t t)
 | .const v=>(match xA P ty v with|some a=>some (.c a)|none=>none)
 | .global g=>some (.g g)
 | .func f=>some (.c (.v (.func (.func f) #[] #[])))
def cxs (P:Program):List (TypeId × Operand)->Option (List AX)
 | []=>some []
 | (t,x)::xs =>
  match cx P t x,cxs P xs with
  | some a,some as_=>some (a::as_)
  | _,_=>none
def AV.val:AV->Option Value
 | .v x=>some x
 | _=>none
def vals:List AV->Option (List Value)
 | []=>some []
 | .v x::as_=>(match vals as_ with|some xs=>some (x::xs)|none=>none)
 | _::_=>none
def zK:AV->Option Value
 | .v x=>some x
 | .agg cs=>(match vals cs with|some xs=>some (.agg xs.toArray)|none=>none)
 | .nl _=>some (.slice none 0 0)
 | _=>none
theorem XR {F:Fz} {O:Ow}:∀ {as_:List AV} {xs ys:List Value},vals as_=some xs->ys.length=as_.length->(∀ (i:Nat) (c:Value) (a:AV),ys[i]? = some c->as_[i]? = some a->VR F O c a)->ys=xs
 | [],xs,ys,h,hl,_=>by cases h;exact List.eq_nil_of_length_eq_zero hl
 | a::as_,xs,[],h,hl,_=>by simp at hl
 | a::as_,xs,y::ys,h,hl,hv=>by
  cases a with
  | v x =>
   simp only [vals] at h
   split at h
   ·rename_i xs' h'
    cases h
    have h1:=(hv 0 y _ rfl rfl).pvC rfl
    cases h1
    rw [XR h' (by simpa using hl) (fun i c a hc ha=>hv (i+1) c a hc ha)]
   ·cases h
  | _=>cases h
theorem yM {F:Fz} {O:Ow} {x y:Value} {a:AV} (h:VR F O x a) (hc:zK a=some y):x=y:=by
 cases a with
 | v z=>cases hc;have:=h.pvC rfl;cases this;rfl
 | nl k =>
  cases hc
  cases h with
  | p h=>cases h
  | nl=>rfl
 | agg cs =>
  simp only [zK] at hc
  split at hc
  ·rename_i xs hx
   cases hc
   cases h with
   | p h=>cases h with
    | agg ys as_ hl h1 h=>rw [XR (F:=F) (O:=O) hx hl (fun i c a hc ha=>.p (h i c a hc ha))]
   | agg ys as_ hl h1 h=>rw [XR hx hl h]
  ·cases hc
 | _=>cases hc
def Xa:List Value->Option (List AV)
 | []=>some []
 | x::xs=>if Ye x then (match Xa xs with|some as_=>some (.v x::as_)|none=>none) else none
def zi:Value->Option AV
 | .agg cs=>(match Xa cs.toList with|some as_=>some (.agg as_)|none=>none)
 | .tuple cs=>(match Xa cs.toList with|some as_=>some (.tup as_)|none=>none)
 | x=>if Ye x then some (.v x) else none
theorem yR {F:Fz} {O:Ow}:∀ {xs:List Value} {as_:List AV},Xa xs=some as_->xs.length=as_.length/\(∀ a ∈ as_,a.one=true)/\∀ (i:Nat) (c:Value) (a:AV),xs[i]? = some c->as_[i]? = some a->PV F c a
 | [],as_,h=>by cases h;exact ⟨rfl,fun a ha=>(by cases ha),fun i c a hc=>by simp at hc⟩
 | x::xs,as_,h=>by
  simp only [Xa] at h
  split at h
  ·rename_i hs
   split at h
   ·rename_i as' h'
    cases h
    obtain ⟨l,o,r⟩:=yR (F:=F) (O:=O) h'
    refine ⟨by simp [l],fun b hb=>?_,fun i c b hc hb=>?_⟩
    ·rcases List.mem_cons.1 hb with rfl | hb
     ·rfl
     ·exact o b hb
    ·cases i with
     | zero=>simp at hc hb;subst hc;subst hb;exact .v _ hs
     | succ i=>exact r i c b hc hb
   ·cases h
  ·cases h
theorem Yj {F:Fz} {O:Ow} {x:Value} {a:AV} (h:zi x=some a):VR F O x a:=by
 cases x with
 | agg cs =>
  simp only [zi] at h
  split at h
  ·rename_i as_ h1
   cases h
   obtain ⟨l,o,r⟩:=yR (F:=F) (O:=O) h1
   have:=PV.agg (F:=F) cs.toList as_ l o r
   exact .p (by simpa using this)
  ·cases h
 | tuple cs =>
  simp only [zi] at h
  split at h
  ·rename_i as_ h1
   cases h
   obtain ⟨l,o,r⟩:=yR (F:=F) (O:=O) h1
   have:=PV.tup (F:=F) cs.toList as_ l r
   exact .p (by simpa using this)
  ·cases h
 | _ =>
  simp only [zi] at h
  split at h
  ·rename_i hs;cases h;exact .p (.v _ hs)
  ·cases h
inductive Kd where
 | i
 | s
 | b
def yk (P:Program) (t:TypeId):Option Kd :=
 match P.underlying t with
 | some (.int _)=>some .i
 | some .string=>some .s
 | some .bool=>some .b
 | _=>none
def wm (P:Program) (go:TypeId->Option (List Kd)):Nat->List Field->Option (List Kd)
 | _,[]=>some []
 | off,f::fs =>
  if f.name ≠ "_" /\ f.offset=off then
   match go f.type,P.info? f.type,P.underlying f.type with
   | some ks1,some inf,some df=>if inf.size=ks1.length/\ks1.length ≠ 0 then (match wm P go (off+ks1.length) fs with|some ks2=>some (ks1++ks2)|none=>none) else none
   | _,_,_=>none
  else none
def XM (P:Program):Nat->TypeId->Option (List Kd)
 | 0,_=>none
 | d+1,t =>
  match yk P t with
  | some k=>some [k]
  | none =>
   match P.underlying t with
   | some (.struct fs)=>if P.stoodInHeld t=false then wm P (XM P d) 0 fs.toList else none
   | _=>none
def eqNeg:BinOp->Option Bool
 | .eql=>some false
 | .neq=>some true
 | _=>none
def eqOf (P:Program) (t:TypeId):Option (List Kd) :=
 match P.underlying t with
 | some (.struct _)=>if P.eqGuardType P.depth t=false then XM P 8 t else none
 | _=>none
def eqC:Kd->AV->AV->Option Bool
 | .i,.v (.int k a),.v (.int k' b)=>if k=k' then some (decide (a=b)) else none
 | .s,.v (.string a),.v (.string b)=>some (decide (a=b))
 | .b,.v (.bool a),.v (.bool b)=>some (a == b)
 | _,_,_=>none
def Z7:List Kd->List AV->List AV->Option Bool
 | [],[],[]=>some true
 | k::ks,a::as_,b::bs=>(match eqC k a b,Z7 ks as_ bs with|some x,some y=>some (x && y)|_,_=>none)
 | _,_,_=>none
def XE (ng:Bool) (ks:List Kd):AV->AV->Option AV
 | .agg as_,.agg bs=>(match Z7 ks as_ bs with|some r=>some (.v (.bool (if ng=true then !r else r)))|none=>none)
 | _,_=>none
inductive AOp where
 | mv (x:AX)
 | bin (op:BinOp) (t:TypeId) (pt:Bool) (xo yo:Operand) (x y:AX)
 | un (op:UnOp) (x:AX)
 | cv (src dst:TypeId) (x:AX)
 | pick (c a b:AX)
 | ext (x:AX) (i:Nat)
 | new (e:TypeId) (k:Nat) (x:AX)
 | bld (z:List AV) (parts:List (Nat × Nat × AX))
 | bsl (e:TypeId) (k:Nat) (xs:List AX)
 | load (agg:Bool) (n:Nat) (x:AX)
 | store (n:Nat) (x v:AX)
 | nilc (x:AX)
 | fad (off:Nat) (x:AX)
 | fld (agg:Bool) (off n:Nat) (x:AX)
 | iad (k:Nat) (x i:AX)
 | iaa (len k:Nat) (x i:AX)
 | idx (t:TypeId) (x i:AX)
 | ixa (agg:Bool) (len k:Nat) (x i:AX)
 | sls (t:TypeId) (x:AX) (lo hi:Option AX)
 | slc (k:Nat) (x:AX) (lo hi:Option AX)
 | slo (k:Nat) (x i:AX)
 | mks (e:TypeId) (k bytes:Nat) (z:AV) (len cap:AX)
 | app (e:TypeId) (k bytes:Nat) (s x:AX)
 | apf (e:TypeId) (k bytes:Nat) (s x:AX)
 | apz (e:TypeId) (k bytes:Nat) (z:AV) (s n:AX)
 | lns (x:AX)
 | len (x:AX)
 | bi (b:Builtin) (argTypes:Array TypeId) (ty:TypeId) (consts:Array Bool) (xs:List AX)
 | call (f:FuncId) (xs:List AX)
 | callh (f:FuncId) (xs:List AX)
 | callm (f:FuncId) (xs:List AX)
 | callv (x:AX) (xs:List AX)
 | calli (nm:String) (x:AX) (xs:List AX)
 | mki (t:Nat) (x:AX)
 | mkm2 (nm:String) (x:AX)
 | mkm
 | lkp (kd:Kd) (c:Bool) (z:AV) (x i:AX)
 | mup (kd:Kd) (x i v:AX)
 | lnm (x:AX)
 | mkf (f:FuncId) (xs:List AX)
 | eqs (ng:Bool) (ks:List Kd) (x y:AX)
 | cpy (k:Nat) (d x:AX)
 | bad
structure AI where
 dst:Option Nat
 op:AOp
 guard:Option (Nat × Bool)
abbrev jA (d:Nat) (o:AOp):AI:=AI.mk (some d) o none
abbrev jB (o:AOp):AI:=AI.mk none o none
abbrev jC (d:Nat) (o:AOp) (t:Nat) (b:Bool):AI:=AI.mk (some d) o (some (t,b))
abbrev jN (n:Int):AV:=AV.v (Value.int IntKind.i64 n)
abbrev jI (n:Int):AX:=AX.c (jN n)
abbrev jS (b:Bool):AX:=AX.c (AV.v (Value.bool b))
def rdA (k:Nat) (es:List AV) (i off:Nat) (agg:Bool) (n:Nat):Option AV :=
 match es[i]? with
 | none=>none
 | some e=>if agg then (if off+n<=k then (if off=0/\n=k then some (.agg e.cells) else some (.agg ((e.cells.drop off).take n))) else none) else e.cells[off]?
def live (H:Hp) (i g:Nat):Option OB :=
 match H[i]? with
 | some ob=>if ob.g=g then (if (ob.e == 4000000000)=true then none else some ob) else none
 | none=>none
def liveM (H:Hp) (i g:Nat):Option OB :=
 match H[i]? with
 | some ob=>if ob.g=g then (if (ob.e == 4000000000 && ob.k == 2)=true then some ob else none) else none
 | none=>none
def lkA (kd:Kd) (key:AV):List AV->Option (Option AV)
 | []=>some none
 | .agg [k,v]::es =>
  match eqC kd key k with
  | some b=>if b=true then some (some v) else lkA kd key es
  | none=>none
 | _=>none
def upA (kd:Kd) (key val:AV):List AV->Option (List AV)
 | []=>some [.agg [key,val]]
 | .agg [k,v]::es =>
  match eqC kd key k with
  | some b=>if b=true then some (.agg [key,val]::es) else (match upA kd key val es with|some es'=>some (.agg [k,v]::es')|none=>none)
  | none=>none
 | _=>none
def XD (H:Hp) (kd:Kd) (c:Bool) (z x key:AV):Option AV :=
 match x with
 | .mp i g =>
  (match liveM H i g with
   | some ob =>
    (match lkA kd key ob.es with
     | some (some v)=>some (if c=true then .tup [v,.v (.bool true)] else v)
     | some none=>some (if c=true then .tup [z,.v (.bool false)] else z)
     | none=>none)
   | none=>none)
 | _=>none
def isKey (kd:Kd):AV->Bool
 | .v (.int _ _)=>(match kd with|.i=>true|_=>false)
 | .v (.string _)=>(match kd with|.s=>true|_=>false)
 | .v (.bool _)=>(match kd with|.b=>true|_=>false)
 | _=>false
def mupA (H:Hp) (kd:Kd) (x key val:AV):Option Hp :=
 match x with
 | .mp i g =>
  (match liveM H i g with
   | some ob=>if ob.fz=0/\isKey kd key=true/\val.one=true then (match upA kd key val ob.es with|some es'=>some (H.set i { ob with es:=es' })|none=>none) else none
   | none=>none)
 | _=>none
def Xe (H:Hp):AV->Option Nat
 | .mp i g=>(match liveM H i g with|some ob=>some ob.es.length|none=>none)
 | _=>none
def zo (H:Hp) (agg:Bool) (n:Nat):AV->Option AV
 | .ad k es i off=>rdA k es i off agg n
 | .oa i g e off=>(match live H i g with|some ob=>rdA ob.k ob.es e off agg n|none=>none)
 | _=>none
def wrA (old:AV) (off:Nat) (vs:List AV):AV :=
 match old with
 | .agg cs=>.agg (cs.take off++vs++cs.drop (off+vs.length))
 | _=>vs.headD .unk
def AV.fine:AV->Bool
 | .agg cs=>cs.all AV.one
 | a=>a.one
def zg (H:Hp) (n:Nat) (p v:AV):Option Hp :=
 match p with
 | .oa i g e off =>
  match live H i g with
  | some ob =>
   match ob.es[e]? with
   | some old=>if ob.fz<=e/\off+n<=ob.k/\v.cells.length=n/\v.fine=true/\0 < n then some (H.set i { ob with es:=ob.es.set e (wrA old off v.cells) }) else none
   | none=>none
  | none=>none
 | _=>none
def zk (H:Hp):AV->Bool
 | .ad ..=>true
 | .oa i g _ _=>(live H i g).isSome
 | _=>false
def zb:AV->Bool
 | .v (.pointer none)=>true
 | _=>false
def ZS (P:Program) (op:BinOp) (t:TypeId) (xo yo:Operand) (x y:Value):Option Value:=zR P (do eqGuard op t xo yo x y;binOp op t x y)
def Xf (P:Program) (t:TypeId):Bool:=match P.underlying t with|some (.slice _)=>true|_=>false
def Yl (H:Hp):AV->Bool
 | .ol i g _=>(live H i g).isSome
 | .sl _ es=>!es.isEmpty
 | .em b _=>!b
 | _=>false
def Wp:AV->Bool
 | .nl _=>true
 | _=>false
def isNi:AV->Bool
 | .nl _=>true
 | .em b _=>b
 | _=>false
def Xc (H:Hp) (op:BinOp) (a b:AV):Option AV :=
 if ((Yl H a && Wp b) || (Yl H b && Wp a))=true then
  (match op with
   | .eql=>some (.v (.bool false))
   | .neq=>some (.v (.bool true))
   | _=>none)
 else if ((isNi a && Wp b) || (isNi b && Wp a))=true then
  (match op with
   | .eql=>some (.v (.bool true))
   | .neq=>some (.v (.bool false))
   | _=>none)
 else none
def zO (P:Program) (H:Hp) (op:BinOp) (t:TypeId) (pt:Bool) (xo yo:Operand) (a b:AV):Option AV :=
 if pt=true then
  (match op with
   | .eql=>if (zb a && zb b)=true then some (.v (.bool true)) else if ((zk H a && zb b) || (zk H b && zb a))=true then some (.v (.bool false)) else none
   | .neq=>if (zb a && zb b)=true then some (.v (.bool false)) else if ((zk H a && zb b) || (zk H b && zb a))=true then some (.v (.bool true)) else none
   | _=>none)
 else
  match zK a,zK b with
  | some x,some y=>(match ZS P op t xo yo x y with|some v=>zi v|none=>none)
  | _,_=>if Xf P t=true then Xc H op a b else none
def ap1 (f:Value->Option Value) (a:AV):Option AV :=
 match zK a with
 | some x=>(match f x with|some v=>zi v|none=>none)
 | none=>none
def ap2 (f:Value->Value->Option Value) (a b:AV):Option AV :=
 match zK a,zK b with
 | some x,some y=>(match f x y with|some v=>zi v|none=>none)
 | _,_=>none
def zx:List AV->Option (List Value)
 | []=>some []
 | a::as_=>(match zK a,zx as_ with|some x,some xs=>some (x::xs)|_,_=>none)
def zI:AV->Option Int
 | .v (.int _ n)=>some n
 | _=>none
def zm (agg:Bool) (off n:Nat):AV->Option AV
 | .agg cs=>if agg then (if off+n<=cs.length then some (.agg ((cs.drop off).take n)) else none) else cs[off]?
 | _=>none
def zY (H:Hp):AV->Option AV
 | .ad k es i off=>some (.ad k es i off)
 | .oa i g e off=>(match live H i g with|some _=>some (.oa i g e off)|none=>none)
 | _=>none
def mk2A (nm:String):AV->Option AV
 | .io t i g e off=>some (.mf nm t i g e off)
 | _=>none
def Wm (P:Program) (t:Nat) (nm:String):Bool :=
 match P.info? t with
 | some inf =>
  (match inf.methods.find? (·.name == nm) with
   | some m=>decide (m.path = #[]) && (match m.func with|some (_,true)=>true|_=>false)
   | none=>false)
 | none=>false
def XC (P:Program) (H:Hp):AV->Option AV
 | .mf nm t i g e off=>(match live H i g with|some _=>if Wm P t nm=true then some (.mf nm t i g e off) else none|none=>none)
 | a=>zY H a
def X7 (t:Nat) (H:Hp):AV->Option AV
 | .oa i g e off=>(match live H i g with|some _=>some (.io t i g e off)|none=>none)
 | _=>none
def Mth (P:Program) (t:Nat) (nm:String) (f:FuncId):Prop:=∀ (x:Value) (args:Array Value) (w:World),(callMethod (.iface t x) nm args).run P w = .ok (.enter f (#[x]++args)) w
def zq (off:Nat) (H:Hp):AV->Option AV
 | .ad k es i o=>some (.ad k es i (o+off))
 | .oa i g e o=>(match live H i g with|some _=>some (.oa i g e (o+off))|none=>none)
 | _=>none
def zr (k:Nat) (H:Hp) (a:AV) (ix:Int):Option AV :=
 match a with
 | .sl k' es=>if k'=k/\0<=ix/\ix.toNat < es.length then some (.ad k es ix.toNat 0) else none
 | .ol i g n=>(match live H i g with|some ob=>if ob.k=k/\0<=ix/\ix.toNat < n then some (.oa i g ix.toNat 0) else none|none=>none)
 | _=>none
def XW (k:Nat) (H:Hp) (a:AV) (ix:Int):Option AV :=
 match a with
 | .ol i g n=>(match live H i g with|some ob=>if ob.k=k/\0<=ix/\ix.toNat<=n then some (.os i g ix.toNat n) else none|none=>none)
 | _=>none
def zW (H:Hp):AV->Option Nat
 | .nl _=>some 0
 | .em _ _=>some 0
 | .sl _ es=>some es.length
 | .ol _ _ n=>some n
 | .oc _ _ n _=>some n
 | _=>none
def cut (k:Nat) (es:List AV) (lo hi:Int):Option AV :=
 if 0<=lo/\lo<=hi/\hi.toNat<=es.length then some (.sl k ((es.take hi.toNat).drop lo.toNat)) else none
def ze (k:Nat) (H:Hp) (a:AV) (lo hi:Option Int):Option (AV × Hp) :=
 match a with
 | .sl k' es=>if k'=k then (match cut k es (lo.getD 0) (hi.getD es.length) with|some r=>some (r,H)|none=>none) else none
 | .ol i g n =>
  if lo.getD 0=0 then (match live H i g with|some _=>if 0<=hi.getD n/\(hi.getD n).toNat<=n then some (.ol i g (hi.getD n).toNat,H) else none|none=>none)
  else (match ZE H (.ol i g n) with
   | some (.sl k' es,H')=>if k'=k then (match cut k es (lo.getD 0) (hi.getD es.length) with|some r=>some (r,H')|none=>none) else none
   | _=>none)
 | .nl k'=>if k'=k/\lo.getD 0=0/\hi.getD 0=0 then some (.nl k,H) else none
 | _=>none
def zV (H:Hp) (k:Nat):AV->Option (List AV × Hp)
 | .nl _=>some ([],H)
 | .em _ _=>some ([],H)
 | .sl k' es=>if k'=k then some (es,H) else none
 | .ol i g n=>(match live H i g with|some ob=>if ob.k=k/\n<=ob.es.length then some (ob.es.take n,H) else none|none=>none)
 | _=>none
def zT (e:TypeId) (k bytes:Nat) (H:Hp) (s x:AV):Option (AV × Hp) :=
 match zV H k x with
 | some (news,_) =>
  match s with
  | .nl _=>if news=[] then some (.nl k,H) else if news.length * bytes<=140737488355328/\news.length<=maxLen then some (.ol H.length 0 news.length,H++[⟨e,k,news,0,0⟩]) else none
  | .oc i g n c =>
   match live H i g with
   | some ob=>if ob.k=k/\ob.e=e/\ob.fz<=n/\n<=ob.es.length/\(n+news.length) * bytes<=140737488355328/\n+news.length<=maxLen then (if n+news.length<=c then some (.ol i g (n+news.length),H.set i ⟨e,k,ob.es.take n++news,g,ob.fz⟩) else some (.ol H.length 0 (n+news.length),H++[⟨e,k,ob.es.take n++news,0,0⟩])) else none
   | none=>none
  | .ol i g n =>
   match live H i g with
   | some ob=>if ob.k=k/\ob.e=e/\ob.fz<=n/\n<=ob.es.length/\(n+news.length) * bytes<=140737488355328/\n+news.length<=maxLen then some (.ol i (g+1) (n+news.length),H.set i ⟨e,k,ob.es.take n++news,g+1,ob.fz⟩) else none
   | none=>none
  | _=>none
 | none=>none
def zu (cells:List AV):List (Nat × Nat × AV)->Option (List AV)
 | []=>some cells
 | (off,n,v)::rest=>if v.cells.length=n/\off+n<=cells.length/\v.fine=true then zu (cells.take off++v.cells++cells.drop (off+n)) rest else none
def fnA:AV->Option (FuncId × List AV)
 | .fn f cs=>some (f,cs)
 | .v (.func (.func f) a b)=>if a.size=0/\b.size=0 then some (f,[]) else none
 | _=>none
theorem fnA_fn {f:FuncId} {cs:List AV}:fnA (.fn f cs)=some (f,cs):=rfl
theorem fnA_v {f:FuncId}:fnA (.v (.func (.func f) #[] #[]))=some (f,[]):=rfl
def Xo (k:Nat) (H:Hp) (d x:AV):Option (AV × Hp) :=
 match zV H k x with
 | some (news,_) =>
  match d with
  | .ol i g n =>
   match live H i g with
   | some ob=>if ob.k=k/\ob.fz=0/\n<=ob.es.length then some (.v (.int .i64 (min news.length n:Nat)),H.set i { ob with es:=news.take (min news.length n)++ob.es.drop (min news.length n) }) else none
   | none=>none
  | .os i g lo n =>
   match live H i g with
   | some ob=>if ob.k=k/\ob.fz=0/\lo<=n/\n<=ob.es.length then some (.v (.int .i64 (min news.length (n - lo):Nat)),H.set i { ob with es:=ob.es.take lo++(news.take (min news.length (n - lo))++ob.es.drop (lo+min news.length (n - lo))) }) else none
   | none=>none
  | .sl _ []=>some (.v (.int .i64 0),H)
  | _=>none
 | none=>none
def eff (P:Program) (ev:AX->AV) (H:Hp):AOp->Option (AV × Hp)
 | .mv x=>some (ev x,H)
 | .bin op t pt xo yo x y=>(zO P H op t pt xo yo (ev x) (ev y)).map (·,H)
 | .un op x=>(ap1 (fun v=>zR P (Op.unary op v)) (ev x)).map (·,H)
 | .cv s d x=>(ap1 (fun v=>zR P (convert s d v)) (ev x)).map (·,H)
 | .pick c a b=>(match ev c with|.v (.bool b')=>some (if b' then ev a else ev b,H)|_=>none)
 | .ext x i=>(match ev x with|.tup cs=>(cs[i]?).map (·,H)|_=>none)
 | .new e k x=>if (ev x).cells.length=k/\(ev x).fine=true then some (.oa H.length 0 0 0,H++[⟨e,k,[ev x],0,0⟩]) else none
 | .bld z parts=>(zu z (parts.map fun p=>(p.1,p.2.1,ev p.2.2))).map (fun cs=>(.agg cs,H))
 | .bsl e k xs=>if (xs.map ev).all (fun a=>a.cells.length=k && a.fine) && xs.length * k<=16777216 && xs.length<=16777216 then some (.ol H.length 0 xs.length,H++[⟨e,k,xs.map ev,0,0⟩]) else none
 | .load agg n x=>(zo H agg n (ev x)).map (·,H)
 | .store n x v=>(zg H n (ev x) (ev v)).map (.tup [],·)
 | .nilc x=>(XC P H (ev x)).map (·,H)
 | .fad off x=>(zq off H (ev x)).map (·,H)
 | .fld agg off n x=>(zm agg off n (ev x)).map (·,H)
 | .iad k x i=>(match zI (ev i) with|some ix=>(zr k H (ev x) ix).map (·,H)|none=>none)
 | .slo k x i=>(match zI (ev i) with|some ix=>(XW k H (ev x) ix).map (·,H)|none=>none)
 | .iaa len k x i=>(match zI (ev i) with|some ix=>if 0<=ix/\ix.toNat < len then (zq (ix.toNat * k) H (ev x)).map (·,H) else none|none=>none)
 | .idx t x i=>(ap2 (fun v j=>zR P (Instr.index t v j)) (ev x) (ev i)).map (·,H)
 | .ixa agg len k x i=>(match zI (ev i) with|some ix=>if 0<=ix/\ix.toNat < len then (zm agg (ix.toNat * k) k (ev x)).map (·,H) else none|none=>none)
 | .sls t x lo hi =>
  (match ev x with
   | .v (.string s) =>
    (match (lo.map ev).map zK,(hi.map ev).map zK with
     | some none,_|_,some none=>none
     | l,h=>(match zR P (Instr.sliceAt t (.string s) (l.bind id) (h.bind id) none) with|some v=>(zi v).map (·,H)|none=>none))
   | _=>none)
 | .slc k x lo hi =>
  (match (lo.map ev).map zI,(hi.map ev).map zI with
   | some none,_|_,some none=>none
   | l,h=>ze k H (ev x) (l.bind id) (h.bind id))
 | .mks e k bytes z len cap =>
  (match zI (ev len),zI (ev cap) with
   | some l,some c=>if 0<=l/\l<=c/\c.toNat * bytes<=140737488355328/\c.toNat<=maxLen then some (.ol H.length 0 l.toNat,H++[⟨e,k,List.replicate l.toNat z,0,0⟩]) else none
   | _,_=>none)
 | .app e k bytes s x=>zT e k bytes H (ev s) (ev x)
 | .apf e k bytes s x=>zT e k bytes H (ev s) (ev x)
 | .apz e k bytes z s n =>
  (match ev s,zI (ev n) with
   | .nl _,some m=>if 0 < m/\m.toNat * bytes<=140737488355328/\m.toNat<=maxLen then some (.ol H.length 0 m.toNat,H++[⟨e,k,List.replicate m.toNat z,0,0⟩]) else none
   | _,_=>none)
 | .lns x=>(match ev x with|.v (.string s)=>some (.v (.int .i64 s.size),H)|_=>none)
 | .cpy k d x=>Xo k H (ev d) (ev x)
 | .len x=>(match zW H (ev x) with|some n=>some (.v (.int .i64 (n:Int)),H)|none=>none)
 | .bi b ats ty cs xs=>(match zx (xs.map ev) with|some vs=>(match zR P (builtin b ats ty cs vs.toArray) with|some (.value v)=>(zi v).map (·,H)|_=>none)|none=>none)
 | .mkf f xs=>some (.fn f (xs.map ev),H)
 | .eqs ng ks x y=>(XE ng ks (ev x) (ev y)).map (·,H)
 | .mki t x=>(X7 t H (ev x)).map (·,H)
 | .mkm2 nm x=>(mk2A nm (ev x)).map (·,H)
 | .mkm=>some (.mp H.length 0,H++[⟨ZZ,2,[],0,0⟩])
 | .lkp kd c z x i=>(XD H kd c z (ev x) (ev i)).map (·,H)
 | .mup kd x i v=>(mupA H kd (ev x) (ev i) (ev v)).map (.tup [],·)
 | .lnm x=>(match Xe H (ev x) with|some n=>some (.v (.int .i64 (n:Int)),H)|none=>none)
 | .call ..|.callh ..|.callm ..|.callv ..|.calli ..|.bad=>none
theorem Ow.le_push (O:Ow) (d:Ds):O.le (O++[d]):=fun i d' h=>⟨d',by rw [List.getElem?_append_left (List.getElem?_eq_some_iff.1 h).1];exact h,Nat.le_refl _,fun _=>rfl⟩
theorem Ow.le_set (O:Ow) (i:Nat) (d d':Ds) (hd:O[i]? = some d) (hg:d.g<=d'.g) (he:d.g=d'.g->d'=d):O.le (O.set i d'):=fun j dj h=>by
 by_cases hij:i=j
 ·subst hij
  rw [hd] at h
  cases h
  exact ⟨d',by rw [List.getElem?_set_self (List.getElem?_eq_some_iff.1 hd).1],hg,he⟩
 ·exact ⟨dj,by rw [List.getElem?_set_ne hij];exact h,Nat.le_refl _,fun _=>rfl⟩
theorem fine_one {a:AV} (h:a.fine=true):∀ u ∈ a.cells,u.one=true:=by
 cases a with
 | agg cs=>exact fun u hu=>(List.all_eq_true.1 h) u hu
 | _ =>
  intro u hu
  have:u ∈ [_]:=hu
  simp at this
  subst this
  exact h
theorem yL {a:AV} (h:a.fine=true):a.one=true\/∃ cs,a = .agg cs:=by
 cases a with
 | agg cs=>exact .inr ⟨cs,rfl⟩
 | _=>exact .inl h
theorem Own.pushG {B : Bd} {w0 w w1 : World} {F0 F : Fz} {O : Ow} {H : Hp} (h : Own B w0 F0 F O H w) (hb : Below w.heap.size w w1) (hs : w1.heap.size = w.heap.size) {e : TypeId} {k C : Nat} {cs : Array Value} {es : List AV} {o : Obj} (ho : ObjIs (some o) e es.length cs)
  (hC:C<=maxLen) (hl:e ≠ ZZ->es.length<=C) (hz:e ≠ ZZ->cs.size=C * k) (hn:∀ x ∈ es,x.cells.length=k) (h1:∀ x ∈ es,∀ a ∈ x.cells,AV.one a=true)
  (hc:∀ (n j:Nat) (x a:AV),es[n]? = some x->x.cells[j]? = some a->∃ c,cs[n * k+j]? = some c/\VR F O c a) :
  Own B w0 F0 F (O++[⟨w.heap.size,C,0,k⟩]) (H++[⟨e,k,es,0,0⟩]) (w1.alloc o):=by
 have hle:=Ow.le_push O ⟨w.heap.size,C,0,k⟩
 have hw1:Own B w0 F0 F O H w1:=h.keep hb
 have hb2:Below w1.heap.size w1 (w1.alloc o):=(Below.refl _ _).alloc (Nat.le_refl _) _
 have hw2:=hw1.keep hb2
 refine ⟨by simp [h.len],?_,?_,hw2.fr,hw2.le,hw2.new,hw2.below,hw2.size,hw2.kept,hw2.kb⟩
 ·intro i d ob hd ho'
  by_cases hi:i < O.length
  ·rw [List.getElem?_append_left hi] at hd
   rw [List.getElem?_append_left (by rw [<- h.len];exact hi)] at ho'
   have r:=hw2.row i d ob hd ho'
   obtain ⟨cur,q1,q2,q3⟩:=r.cur
   exact { r with cur:=⟨cur,q1,q2,fun n j x a hx ha=>by obtain ⟨c,g1,g2⟩:=q3 n j x a hx ha;exact ⟨c,g1,g2.mono (Fz.le_refl F) hle⟩⟩ }
  ·have hio : i = O.length := by
    have:=(List.getElem?_eq_some_iff.1 hd).1
    simp at this
    omega
   subst hio
   rw [List.getElem?_append_right (Nat.le_refl _)] at hd
   rw [h.len,List.getElem?_append_right (Nat.le_refl _)] at ho'
   simp at hd ho'
   subst hd
   subst ho'
   refine ⟨rfl,rfl,h.okGe (Nat.le_refl _),⟨cs,?_,hz,fun n j x a hx ha=>?_⟩,hC,hl,hn,h1,?_,Nat.zero_le _⟩
   ·show ObjIs ((w1.heap.push _)[w.heap.size]?) _ _ _
    rw [<- hs,Array.getElem?_push_size]
    exact ho
   ·obtain ⟨c, g1, g2⟩ := hc n j x a hx ha
    exact ⟨c,g1,g2.mono (Fz.le_refl F) hle⟩
   ·intro o v hv
    have:=yj (h.fr _ _ _ hv)
    simp at this
 ·intro i j d d' hd hd' hbb
  have old:∀ (i:Nat) (d:Ds),i < O.length->(O++[⟨w.heap.size,C,0,k⟩])[i]? = some d->O[i]? = some d/\d.b < w.heap.size:=fun i d hi hd=>by
   rw [List.getElem?_append_left hi] at hd
   have:i < H.length:=by rw [<- h.len];exact hi
   exact ⟨hd,(h.row i d _ hd (List.getElem?_eq_getElem this)).lt⟩
  have new:∀ (i:Nat) (d:Ds),¬ i < O.length->(O++[⟨w.heap.size,C,0,k⟩])[i]? = some d->i=O.length/\d.b=w.heap.size:=fun i d hi hd=>by
   have h1:=(List.getElem?_eq_some_iff.1 hd).1
   simp at h1
   have hio:i=O.length:=by omega
   subst hio
   rw [List.getElem?_append_right (Nat.le_refl _)] at hd
   simp at hd
   subst hd
   exact ⟨rfl,rfl⟩
  by_cases hi:i < O.length
  ·obtain ⟨g1, g2⟩ := old i d hi hd
   by_cases hj:j < O.length
   ·obtain ⟨g3, g4⟩ := old j d' hj hd'
    exact h.inj i j d d' g1 g3 hbb
   ·obtain ⟨g3, g4⟩ := new j d' hj hd'
    omega
  ·obtain ⟨g1, g2⟩ := new i d hi hd
   by_cases hj:j < O.length
   ·obtain ⟨g3, g4⟩ := old j d' hj hd'
    omega
   ·obtain ⟨g3, g4⟩ := new j d' hj hd'
    omega
theorem Own.push {B : Bd} {w0 w w1 : World} {F0 F : Fz} {O : Ow} {H : Hp} (h : Own B w0 F0 F O H w) (hb : Below w.heap.size w w1) (hs : w1.heap.size = w.heap.size) {e : TypeId} (ne : e ≠ ZZ) {k C : Nat} {cs : Array Value} {es : List AV}
  (hC:C<=maxLen) (hl:es.length<=C) (hz:cs.size=C * k) (hn:∀ x ∈ es,x.cells.length=k) (h1:∀ x ∈ es,∀ a ∈ x.cells,AV.one a=true)
  (hc:∀ (n j:Nat) (x a:AV),es[n]? = some x->x.cells[j]? = some a->∃ c,cs[n * k+j]? = some c/\VR F O c a) :
  Own B w0 F0 F (O++[⟨w.heap.size,C,0,k⟩]) (H++[⟨e,k,es,0,0⟩]) (w1.alloc (.cells cs e)) :=
 h.pushG hb hs (.inl ⟨ne,rfl⟩) hC (fun _=>hl) (fun _=>hz) hn h1 hc
theorem below_setRow' {B g:Nat} {w0 w:World} (hb:Below B w0 w) (hBg:B<=g) (cs:Array Value):Below B w0 (w.setRow g cs) :=
 hb.trans ⟨rfl,rfl,rfl,by simp,fun k hk=>setRow_other w g k cs (by omega)⟩
theorem Own.writeG {B : Bd} {w0 w : World} {F0 F : Fz} {O : Ow} {H : Hp} (h : Own B w0 F0 F O H w) {i : Nat} {ob : OB} {d : Ds} (hi : H[i]? = some ob) (hd : O[i]? = some d) {new : Array Value} {g' : Nat} {es' : List AV} {w' : World} (hoth : ∀ b, b ≠ d.b -> w'.heap[b]? = w.heap[b]?) (hbel : Below B.n w0 w') (hws : B.n <= w'.heap.size) (hobj : ObjIs (w'.heap[d.b]?) ob.e es'.length new)
  (hg:ob.g<=g') (hl:ob.e ≠ ZZ->es'.length<=d.C) (hz:ob.e ≠ ZZ->new.size=d.C * ob.k) (hn:∀ x ∈ es',x.cells.length=ob.k) (h1:∀ x ∈ es',∀ a ∈ x.cells,AV.one a=true) (hfz:ob.fz<=es'.length)
  (hc:∀ (n j:Nat) (x a:AV),es'[n]? = some x->x.cells[j]? = some a->∃ c,new[n * ob.k+j]? = some c/\VR F O c a) (hf:∀ o v,F d.b o=some v->w'.cell? ⟨d.b,o,none⟩=some v) :
  Own B w0 F0 F (O.set i ⟨d.b,d.C,g',d.k⟩) (H.set i ⟨ob.e,ob.k,es',g',ob.fz⟩) w'/\O.le (O.set i ⟨d.b,d.C,g',d.k⟩):=by
 have r:=h.row i d ob hd hi
 have hle:O.le (O.set i ⟨d.b,d.C,g',d.k⟩):=Ow.le_set O i d _ hd (by rw [r.hg];exact hg) (fun e=>by
  have e':d.g=g':=e
  subst e';rfl)
 have hiO:=(List.getElem?_eq_some_iff.1 hd).1
 refine ⟨⟨by simp [h.len],?_,?_,?_,h.le,h.new,hbel,hws,fun b hk=>by rw [hoth b (fun e=>r.hB.2 (e ▸ hk))];exact h.kept b hk,h.kb⟩,hle⟩
 ·intro j dj obj hdj hoj
  by_cases hij:i=j
  ·subst hij
   rw [List.getElem?_set_self hiO] at hdj
   rw [List.getElem?_set_self (by rw [<- h.len];exact hiO)] at hoj
   cases hdj
   cases hoj
   refine ⟨rfl,r.hk,r.hB,⟨new,hobj,hz,fun n j x a hx ha=>?_⟩,r.hC,hl,hn,h1,r.hf,hfz⟩
   obtain ⟨c,g1,g2⟩:=hc n j x a hx ha
   exact ⟨c,g1,g2.mono (Fz.le_refl F) hle⟩
  ·rw [List.getElem?_set_ne hij] at hdj hoj
   have rj:=h.row j dj obj hdj hoj
   obtain ⟨cur',q1,q2,q3⟩:=rj.cur
   refine { rj with cur:=⟨cur',?_,q2,fun n j x a hx ha=>by obtain ⟨c,g1,g2⟩:=q3 n j x a hx ha;exact ⟨c,g1,g2.mono (Fz.le_refl F) hle⟩⟩ }
   rw [hoth dj.b (fun e=>hij (h.inj i j d dj hd hdj e.symm))]
   exact q1
 ·intro a b da db ha hb hab
  have fix:∀ (a:Nat) (da:Ds),(O.set i ⟨d.b,d.C,g',d.k⟩)[a]? = some da->∃ d1,O[a]? = some d1/\d1.b=da.b:=fun a da ha=>by
   by_cases hia:i=a
   ·subst hia
    rw [List.getElem?_set_self hiO] at ha
    cases ha
    exact ⟨d,hd,rfl⟩
   ·rw [List.getElem?_set_ne hia] at ha
    exact ⟨da,ha,rfl⟩
  obtain ⟨d1,e1,f1⟩:=fix a da ha
  obtain ⟨d2,e2,f2⟩:=fix b db hb
  exact h.inj a b d1 d2 e1 e2 (by rw [f1,f2];exact hab)
 ·intro b o v hv
  by_cases hbb:b=d.b
  ·subst hbb
   exact hf o v hv
  ·have := h.fr b o v hv
   rw [World.cell?_of_block (w:=w) (hoth b hbb)]
   exact this
theorem Own.write {B : Bd} {w0 w : World} {F0 F : Fz} {O : Ow} {H : Hp} (h : Own B w0 F0 F O H w) {i : Nat} {ob : OB} {d : Ds} (hi : H[i]? = some ob) (ne : ob.e ≠ ZZ) (hd : O[i]? = some d) {new : Array Value} {g' : Nat} {es' : List AV}
  (hg:ob.g<=g') (hl:es'.length<=d.C) (hz:new.size=d.C * ob.k) (hn:∀ x ∈ es',x.cells.length=ob.k) (h1:∀ x ∈ es',∀ a ∈ x.cells,AV.one a=true) (hfz:ob.fz<=es'.length)
  (hc:∀ (n j:Nat) (x a:AV),es'[n]? = some x->x.cells[j]? = some a->∃ c,new[n * ob.k+j]? = some c/\VR F O c a) (hf:∀ o v,F d.b o=some v->new[o]? = some v) :
  Own B w0 F0 F (O.set i ⟨d.b,d.C,g',d.k⟩) (H.set i ⟨ob.e,ob.k,es',g',ob.fz⟩) (w.setRow d.b new)/\O.le (O.set i ⟨d.b,d.C,g',d.k⟩):=by
 have r:=h.row i d ob hd hi
 obtain ⟨cur,hcur,hsz,_⟩:=r.curc ne
 have hrow:(w.setRow d.b new).heap[d.b]? = some (.cells new ob.e (0,0)):=setRow_heap w d.b cur new ob.e (0,0) hcur
 exact h.writeG hi hd (fun b hb=>setRow_other w d.b b new hb) (below_setRow' h.below r.hB.1 new) (by simpa using h.size) (.inl ⟨ne,hrow⟩) hg (fun _=>hl) (fun _=>hz) hn h1 hfz hc (fun o v hv=>by
  have:=hf o v hv
  simp [World.cell?,hrow,this])
theorem Own.move {B : Bd} {w0 w w1 : World} {F0 F : Fz} {O : Ow} {H : Hp} (h : Own B w0 F0 F O H w) (hb : Below w.heap.size w w1) (hs : w1.heap.size = w.heap.size) {i : Nat} {ob : OB} {d : Ds} (hi : H[i]? = some ob) (ne : ob.e ≠ ZZ) (hd : O[i]? = some d) {new : Array Value} {C : Nat} {es' : List AV}
  (hC:C<=maxLen) (hl:es'.length<=C) (hz:new.size=C * ob.k) (hn:∀ x ∈ es',x.cells.length=ob.k) (h1:∀ x ∈ es',∀ a ∈ x.cells,AV.one a=true) (hfz:ob.fz<=es'.length)
  (hc:∀ (n j:Nat) (x a:AV),es'[n]? = some x->x.cells[j]? = some a->∃ c,new[n * ob.k+j]? = some c/\VR F O c a) :
  Own B w0 F0 F (O.set i ⟨w.heap.size,C,ob.g+1,ob.k⟩) (H.set i ⟨ob.e,ob.k,es',ob.g+1,ob.fz⟩) (w1.alloc (.cells new ob.e))/\O.le (O.set i ⟨w.heap.size,C,ob.g+1,ob.k⟩):=by
 have r:=h.row i d ob hd hi
 have hle:O.le (O.set i ⟨w.heap.size,C,ob.g+1,ob.k⟩):=Ow.le_set O i d _ hd (by rw [r.hg];exact Nat.le_succ _) (fun e=>by
  have e':d.g=ob.g+1:=e
  rw [r.hg] at e'
  omega)
 have hiO:=(List.getElem?_eq_some_iff.1 hd).1
 have hw1:Own B w0 F0 F O H w1:=h.keep hb
 have hb2:Below w1.heap.size w1 (w1.alloc (.cells new ob.e)):=(Below.refl _ _).alloc (Nat.le_refl _) _
 have hw2:=hw1.keep hb2
 refine ⟨⟨by simp [h.len],?_,?_,hw2.fr,hw2.le,hw2.new,hw2.below,hw2.size,hw2.kept,hw2.kb⟩,hle⟩
 ·intro j dj obj hdj hoj
  by_cases hij:i=j
  ·subst hij
   rw [List.getElem?_set_self hiO] at hdj
   rw [List.getElem?_set_self (by rw [<- h.len];exact hiO)] at hoj
   cases hdj
   cases hoj
   refine ⟨rfl,rfl,h.okGe (Nat.le_refl _),⟨new,.inl ⟨ne,?_⟩,fun _=>hz,fun n j x a hx ha=>?_⟩,hC,fun _=>hl,hn,h1,?_,hfz⟩
   ·show (w1.heap.push _)[w.heap.size]? = _
    rw [<- hs,Array.getElem?_push_size]
   ·obtain ⟨c, g1, g2⟩ := hc n j x a hx ha
    exact ⟨c,g1,g2.mono (Fz.le_refl F) hle⟩
   ·intro o v hv
    have:=yj (h.fr _ _ _ hv)
    simp at this
  ·rw [List.getElem?_set_ne hij] at hdj hoj
   have rj:=hw2.row j dj obj hdj hoj
   obtain ⟨cur',q1,q2,q3⟩:=rj.cur
   exact { rj with cur:=⟨cur',q1,q2,fun n j x a hx ha=>by obtain ⟨c,g1,g2⟩:=q3 n j x a hx ha;exact ⟨c,g1,g2.mono (Fz.le_refl F) hle⟩⟩ }
 ·intro a b da db ha hb' hab
  have fix:∀ (a:Nat) (da:Ds),a ≠ i->(O.set i ⟨w.heap.size,C,ob.g+1,ob.k⟩)[a]? = some da->O[a]? = some da/\da.b < w.heap.size:=fun a da hia ha=>by
   rw [List.getElem?_set_ne (fun e=>hia e.symm)] at ha
   have:a < H.length:=by rw [<- h.len];exact (List.getElem?_eq_some_iff.1 ha).1
   exact ⟨ha,(h.row a da _ ha (List.getElem?_eq_getElem this)).lt⟩
  have same:∀ (da:Ds),(O.set i ⟨w.heap.size,C,ob.g+1,ob.k⟩)[i]? = some da->da.b=w.heap.size:=fun da ha=>by
   rw [List.getElem?_set_self hiO] at ha
   cases ha
   rfl
  by_cases ha':a=i
  ·subst ha'
   by_cases hb2:b=a
   ·exact hb2.symm
   ·have := (fix b db hb2 hb').2
    have:=same da ha
    omega
  ·by_cases hb2 : b = i
   ·subst hb2
    have:=(fix a da ha' ha).2
    have:=same db hb'
    omega
   ·exact h.inj a b da db (fix a da ha' ha).1 (fix b db hb2 hb').1 hab
def ZQ:TypeDesc->Bool
 | .struct _|.array _ _=>true
 | _=>false
theorem ZM (b o n:Nat):(⟨b,o,none⟩:Addr).add n=⟨b,o+n,none⟩:=by
 unfold Addr.add;split<;>simp_all
theorem YQ {P:Program} {t:TypeId} {i:TypeInfo} (h:P.info? t=some i) (w:World):(typeInfo t).run P w = .ok i w:=by
 simp only [typeInfo,program,Sem.run_bind,Sem.run,Result.andThen_ok,h];rfl
theorem ZL {P:Program} {t:TypeId} {i:TypeInfo} (h:P.info? t=some i) (w:World):(sizeOf t).run P w = .ok i.size w:=by
 simp only [sizeOf,Sem.run_bind,YQ h,Result.andThen_ok];rfl
theorem YP {P:Program} {t:TypeId} {i:TypeInfo} {z:Value} (h:P.info? t=some i) (hz:i.zero=some z) (w:World):(zeroValue t).run P w = .ok z w:=by
 simp only [zeroValue,Sem.run_bind,YQ h,Result.andThen_ok,hz];rfl
theorem run_isAgg {P:Program} {t:TypeId} {d:TypeDesc} (h:P.underlying t=some d) (w:World):(isAgg t).run P w = .ok (ZQ d) w:=by
 simp only [isAgg,Sem.run_bind,run_underlying h,Result.andThen_ok]
 cases d<;>rfl
theorem rd_run {P : Program} {w : World} {F : Fz} {O : Ow} {b o k : Nat} {es : List AV} (hk : ∀ e ∈ es, e.cells.length = k) (h1 : ∀ e ∈ es, ∀ a ∈ e.cells, AV.one a = true)
  (hcell:∀ (i j:Nat) (e a:AV),es[i]? = some e->e.cells[j]? = some a->∃ c,w.cell? ⟨b,o+i * k+j,none⟩=some c/\VR F O c a)
  {t:TypeId} {inf:TypeInfo} {d:TypeDesc} {i off:Nat} {r:AV} (hi:P.info? t=some inf) (hd:P.underlying t=some d) (hr:rdA k es i off (ZQ d) inf.size=some r) :
  ∃ x,(loadVar t ⟨b,o+i * k+off,none⟩).run P w = .ok x w/\VR F O x r:=by
 unfold rdA at hr
 split at hr
 ·cases hr
 ·rename_i e he
  have hek:=hk e (List.mem_of_getElem? he)
  simp only [loadVar,Sem.run_bind,run_isAgg hd,Result.andThen_ok]
  cases hag:ZQ d
  ·simp only [hag,Bool.false_eq_true,if_false] at hr ⊢
   obtain ⟨c,hc,hv⟩:=hcell i off e r he hr
   exact ⟨c,by simp only [load,Sem.run,hc],hv⟩
  ·simp only [hag,if_true] at hr ⊢
   split at hr
   ·rename_i hle
    have hr':r = .agg ((e.cells.drop off).take inf.size):=by
     split at hr
     ·rename_i hz
      cases hr
      rw [hz.1,List.drop_zero,List.take_of_length_le (by omega)]
     ·cases hr;rfl
    subst hr'
    have hex:∀ j,j < inf.size->∃ c a,w.cell? ⟨b,o+i * k+off+j,none⟩=some c/\e.cells[off+j]? = some a/\VR F O c a:=fun j hj=>by
     have hlt:off+j < e.cells.length:=by omega
     obtain ⟨c,hc,hv⟩:=hcell i (off+j) e _ he (List.getElem?_eq_getElem hlt)
     exact ⟨c,_,by rw [<- hc,Nat.add_assoc (o+i * k)],List.getElem?_eq_getElem hlt,hv⟩
    have hrun:=run_loadCells_list (P:=P) w ⟨b,o+i * k+off,none⟩ ((List.range inf.size).map fun j=>(w.cell? ⟨b,o+i * k+off+j,none⟩).getD undef) (fun j v hv=>by
     rw [List.getElem?_map] at hv
     obtain ⟨j',hj',rfl⟩:=Option.map_eq_some_iff.1 hv
     have hj2:=(List.getElem?_eq_some_iff.1 hj').1
     rw [List.getElem?_range (by simpa using hj2)] at hj'
     cases hj'
     obtain ⟨c,a,g1,_,_⟩:=hex j (by simpa using hj2)
     rw [ZM,g1]
     rfl)
    simp only [List.length_map,List.length_range] at hrun
    refine ⟨.agg ((List.range inf.size).map fun j=>(w.cell? ⟨b,o+i * k+off+j,none⟩).getD undef).toArray,?_,?_⟩
    ·simp only [Sem.run_bind,ZL hi,Result.andThen_ok,hrun]
     rfl
    ·refine .agg _ _ (by simp;omega) (fun a ha=>h1 e (List.mem_of_getElem? he) a (List.mem_of_mem_drop (List.mem_of_mem_take ha))) fun j c a hc ha=>?_
     have hjl:j < inf.size:=by have:=(List.getElem?_eq_some_iff.1 hc).1;simpa using this
     obtain ⟨c',a',g1,g2,g3⟩:=hex j hjl
     rw [List.getElem?_map,List.getElem?_range hjl] at hc
     simp only [Option.map_some,Option.some.injEq,g1,Option.getD_some] at hc
     rw [List.getElem?_take,if_pos hjl,List.getElem?_drop] at ha
     rw [g2] at ha
     cases ha
     subst hc
     exact g3
   ·cases hr
theorem ZJ {H:Hp} {i g:Nat} {ob:OB} (h:Sim.live H i g=some ob):H[i]? = some ob/\ob.g=g:=by
 unfold Sim.live at h
 split at h
 ·split at h
  ·rename_i h1 h2
   split at h
   ·cases h
   ·cases h;exact ⟨h1,h2⟩
  ·cases h
 ·cases h
theorem Zw {H:Hp} {i g:Nat} {ob:OB} (h:Sim.live H i g=some ob):ob.e ≠ ZZ:=by
 unfold Sim.live at h
 split at h
 ·split at h
  ·split at h
   ·cases h
   ·rename_i hn;cases h;simpa using hn
  ·cases h
 ·cases h
theorem liveM_ok {H:Hp} {i g:Nat} {ob:OB} (h:Sim.liveM H i g=some ob):H[i]? = some ob/\ob.g=g/\ob.e=ZZ/\ob.k=2:=by
 unfold Sim.liveM at h
 split at h
 ·split at h
  ·rename_i h1 h2
   split at h
   ·rename_i hn;cases h;simp at hn;exact ⟨h1,h2,hn.1,hn.2⟩
   ·cases h
  ·cases h
 ·cases h
section
variable {P:Program} {B:Bd} {w0 w:World} {F0 F:Fz} {O:Ow} {H:Hp}
theorem Own.oa (h : Own B w0 F0 F O H w) {x : Value} {i g e off : Nat} {ob : OB} (hx : VR F O x (.oa i g e off)) (hl : Sim.live H i g = some ob) :
  ∃ d,O[i]? = some d/\H[i]? = some ob/\Row B F O w d ob/\x = .pointer (some ⟨d.b,e * ob.k+off,none⟩):=by
 obtain ⟨hi,hg⟩:=ZJ hl
 obtain ⟨d,hd,r⟩:=h.get hi
 cases hx with
 | p h=>cases h
 | oa _ _ _ _ _ d' hd' hg' h1 hh =>
  rw [hd] at hd'
  cases hd'
  refine ⟨d,hd,hi,r,?_⟩
  rw [<- r.hk]
  exact hh (by rw [r.hg,hg])
theorem Own.ol (h : Own B w0 F0 F O H w) {x : Value} {i g n : Nat} {ob : OB} (hx : VR F O x (.ol i g n)) (hl : Sim.live H i g = some ob) :
  ∃ d,O[i]? = some d/\H[i]? = some ob/\Row B F O w d ob/\n<=d.C/\x = .slice (some ⟨d.b,0,none⟩) n d.C:=by
 obtain ⟨hi,hg⟩:=ZJ hl
 obtain ⟨d,hd,r⟩:=h.get hi
 cases hx with
 | p h=>cases h
 | ol _ _ _ _ d' hd' hg' h1 hh =>
  rw [hd] at hd'
  cases hd'
  obtain ⟨q1,q2⟩:=hh (by rw [r.hg,hg])
  exact ⟨d,hd,hi,r,q1,q2⟩
theorem Own.oc (h : Own B w0 F0 F O H w) {x : Value} {i g n c : Nat} {ob : OB} (hx : VR F O x (.oc i g n c)) (hl : Sim.live H i g = some ob) :
  ∃ d,O[i]? = some d/\H[i]? = some ob/\Row B F O w d ob/\n<=d.C/\d.C=c/\x = .slice (some ⟨d.b,0,none⟩) n d.C:=by
 obtain ⟨hi,hg⟩:=ZJ hl
 obtain ⟨d,hd,r⟩:=h.get hi
 cases hx with
 | p h=>cases h
 | oc _ _ _ _ _ d' hd' hg' h1 hh =>
  rw [hd] at hd'
  cases hd'
  obtain ⟨q1,q2,q3⟩:=hh (by rw [r.hg,hg])
  exact ⟨d,hd,hi,r,q1,q2,q3⟩
theorem Own.io (h:Own B w0 F0 F O H w) {x:Value} {t i g e off:Nat} {ob:OB} (hx:VR F O x (.io t i g e off)) (hl:Sim.live H i g=some ob):∃ y,x = .iface t y/\VR F O y (.oa i g e off):=by
 obtain ⟨hi,hg⟩:=ZJ hl
 obtain ⟨d,hd,r⟩:=h.get hi
 cases hx with
 | p h=>cases h
 | io _ _ _ _ _ _ d' hd' hg' h1 hh =>
  rw [hd] at hd'
  cases hd'
  have e1:g=d.g:=by rw [r.hg];exact hg.symm
  exact ⟨_,hh e1,.oa _ i g e off d hd (by omega) rfl fun _=>rfl⟩
theorem Own.os (h : Own B w0 F0 F O H w) {x : Value} {i g lo n : Nat} {ob : OB} (hx : VR F O x (.os i g lo n)) (hl : Sim.live H i g = some ob) :
  ∃ d,O[i]? = some d/\H[i]? = some ob/\Row B F O w d ob/\lo<=n/\n<=d.C/\∃ A,x = .slice A (n - lo) (d.C - lo)/\(lo < d.C->A=some ⟨d.b,lo * d.k,none⟩):=by
 obtain ⟨hi,hg⟩:=ZJ hl
 obtain ⟨d,hd,r⟩:=h.get hi
 cases hx with
 | p h=>cases h
 | os _ _ _ _ _ d' hd' hg' h1 hh =>
  rw [hd] at hd'
  cases hd'
  obtain ⟨q1,q2,q3⟩:=hh (by rw [r.hg,hg])
  exact ⟨d,hd,hi,r,q1,q2,q3⟩
theorem Row.cell {d:Ds} {ob:OB} (r:Row B F O w d ob) (ne:ob.e ≠ ZZ) (i j:Nat) (e a:AV) (he:ob.es[i]? = some e) (ha:e.cells[j]? = some a):∃ c,w.cell? ⟨d.b,0+i * ob.k+j,none⟩=some c/\VR F O c a:=by
 obtain ⟨cur,q1,q2,q3⟩:=r.curc ne
 obtain ⟨c,hc,hv⟩:=q3 i j e a he ha
 exact ⟨c,by simp [World.cell?,q1,hc],hv⟩
theorem load_run (h : Own B w0 F0 F O H w) {x : Value} {a r : AV} (hx : VR F O x a) {t : TypeId} {inf : TypeInfo} {d : TypeDesc} (hi : P.info? t = some inf) (hd : P.underlying t = some d) (hr : zo H (ZQ d) inf.size a = some r) :
  ∃ y,(Instr.loadAt t x).run P w = .ok y w/\VR F O y r:=by
 cases a with
 | ad k es i off =>
  have hp:=hx.pvC rfl
  cases hp with
  | ad b o _ _ _ _ hk h1 f hf hc =>
   obtain ⟨y,g1,g2⟩:=rd_run (P:=P) (w:=w) (F:=F) (O:=O) hk h1 (fun i j e a he ha=>by
    have hil:=(List.getElem?_eq_some_iff.1 he).1
    have hjl:=(List.getElem?_eq_some_iff.1 ha).1
    rw [hk e (List.mem_of_getElem? he)] at hjl
    exact ⟨f i j,h.fr _ _ _ (hf i j hil hjl),.p (hc i j e a he ha)⟩) hi hd hr
   exact ⟨y,by simpa [Instr.loadAt,Instr.sureAddr] using g1,g2⟩
 | oa i g e off =>
  simp only [zo] at hr
  split at hr
  ·rename_i ob hl
   obtain ⟨ds,hds,hio,r',rfl⟩:=h.oa hx hl
   obtain ⟨y,g1,g2⟩:=rd_run (P:=P) (w:=w) (F:=F) (O:=O) r'.hn r'.h1 (fun i j e a he ha=>r'.cell (Zw hl) i j e a he ha) hi hd hr
   rw [Nat.zero_add] at g1
   exact ⟨y,by simpa [Instr.loadAt,Instr.sureAddr] using g1,g2⟩
  ·cases hr
 | _=>simp [zo] at hr
def Out (B:Bd) (w0:World) (F0 F:Fz) (O:Ow) (r:AV) (H':Hp) (x:Value) (w':World):Prop:=∃ F' O',VR F' O' x r/\Own B w0 F0 F' O' H' w'/\F.le F'/\O.le O'
theorem Out.same (h:Own B w0 F0 F O H w) {r:AV} {x:Value} (hx:VR F O x r):Out B w0 F0 F O r H x w:=⟨F,O,hx,h,Fz.le_refl F,Ow.le_refl O⟩
theorem wrA_cells {old : AV} {off n k : Nat} {vs : List AV} (hk : old.cells.length = k) (hn : vs.length = n) (h0 : 0 < n) (hle : off + n <= k) (hv : ∀ u ∈ vs, AV.one u = true) (ho : ∀ u ∈ old.cells, AV.one u = true) :
  (wrA old off vs).cells.length=k/\(∀ u ∈ (wrA old off vs).cells,AV.one u=true)/\∀ (j:Nat) (a:AV),(wrA old off vs).cells[j]? = some a->(off<=j/\j < off+n/\vs[j - off]? = some a)\/((j < off\/off+n<=j)/\old.cells[j]? = some a):=by
 have single:(∀ cs,old ≠ .agg cs)->wrA old off vs=vs.headD .unk/\k=1/\off=0/\n=1:=fun hne=>by
  have:old.cells=[old]:=by cases old<;>first|rfl|exact absurd rfl (hne _)
  rw [this] at hk
  refine ⟨?_,?_,?_,?_⟩
  ·cases old<;>first|rfl|exact absurd rfl (hne _)
  all_goals (simp at hk;omega)
 by_cases hag:∃ cs,old = .agg cs
 ·obtain ⟨cs, rfl⟩ := hag
  have hk':cs.length=k:=hk
  have ho':∀ u ∈ cs,AV.one u=true:=ho
  show (cs.take off++vs++cs.drop (off+vs.length)).length=k/\(∀ u ∈ cs.take off++vs++cs.drop (off+vs.length),AV.one u=true)/\∀ (j:Nat) (a:AV),(cs.take off++vs++cs.drop (off+vs.length))[j]? = some a->_
  refine ⟨by simp;omega,fun u hu=>?_,fun j a ha=>?_⟩
  ·rcases List.mem_append.1 hu with hu | hu
   ·rcases List.mem_append.1 hu with hu | hu
    ·exact ho' u (List.mem_of_mem_take hu)
    ·exact hv u hu
   ·exact ho' u (List.mem_of_mem_drop hu)
  ·have l1 : (cs.take off).length = off := by simp; omega
   by_cases hj:j < off
   ·rw [List.append_assoc, List.getElem?_append_left (by omega), List.getElem?_take, if_pos hj] at ha
    exact .inr ⟨.inl hj,ha⟩
   ·by_cases hj2 : j < off + n
    ·rw [List.getElem?_append_left (by simp; omega), List.getElem?_append_right (by omega), l1] at ha
     exact .inl ⟨by omega,hj2,ha⟩
    ·rw [List.getElem?_append_right (by simp; omega), List.getElem?_drop] at ha
     refine .inr ⟨.inr (by omega),?_⟩
     rw [<- ha]
     show cs[j]? = _
     congr 1
     simp
     omega
 ·obtain ⟨e1,e2,e3,e4⟩:=single fun cs e=>hag ⟨cs,e⟩
  obtain ⟨v,rfl⟩:∃ v,vs=[v]:=by
   match vs,(hn.trans e4) with
   | [v],_=>exact ⟨v,rfl⟩
  have hv1:v.one=true:=hv v (by simp)
  have hvc:v.cells=[v]:=by cases v<;>first|rfl|cases hv1
  rw [e1]
  show v.cells.length=k/\(∀ u ∈ v.cells,AV.one u=true)/\∀ (j:Nat) (a:AV),v.cells[j]? = some a->_
  rw [hvc]
  refine ⟨by simp;omega,by simpa using hv1,fun j a ha=>?_⟩
  cases j with
  | zero=>exact .inl ⟨by omega,by omega,by simpa [e3] using ha⟩
  | succ j=>simp at ha
theorem store_run (h : Own B w0 F0 F O H w) {p v : Value} {pa va : AV} (hp : VR F O p pa) (hv : VR F O v va) {t : TypeId} {inf : TypeInfo} (hi : P.info? t = some inf) {H' : Hp} (hr : zg H inf.size pa va = some H') :
  ∃ w' F' O',(Instr.storeAt t p v).run P w = .ok () w'/\Own B w0 F0 F' O' H' w'/\F.le F'/\O.le O':=by
 cases pa with
 | oa i g e off =>
  simp only [zg] at hr
  split at hr
  ·rename_i ob hl
   split at hr
   ·rename_i old hold
    split at hr
    ·rename_i hcond
     obtain ⟨hfz,hle,hlen,hfine,h0⟩:=hcond
     cases hr
     obtain ⟨d,hd,hio,r,rfl⟩:=h.oa hp hl
     obtain ⟨cur,hcur,hsz,hcell⟩:=r.curc (Zw hl)
     obtain ⟨vsz,v1,vc⟩:=hv.cells (yL hfine)
     have hel:=(List.getElem?_eq_some_iff.1 hold).1
     have hkold:=r.hn old (List.mem_of_getElem? hold)
     obtain ⟨wl,w1,wc⟩:=wrA_cells (off:=off) (vs:=va.cells) hkold hlen h0 hle v1 (r.h1 old (List.mem_of_getElem? hold))
     have hmul:(e+1) * ob.k<=d.C * ob.k:=Nat.mul_le_mul_right _ (Nat.le_trans hel (r.hl (Zw hl)))
     rw [Nat.add_mul,Nat.one_mul] at hmul
     have hvl:v.cells.toList.length=inf.size:=by simp;omega
     have hst:=run_storeCells_at P d.b (e * ob.k+off) ob.e v.cells.toList 0 cur w hcur (by rw [hvl,hsz];omega) (fun u hu=>by
      obtain ⟨j,hj,rfl⟩:=List.getElem_of_mem hu
      have hjl:j < va.cells.length:=by simp at hj;omega
      obtain ⟨c,g1,g2⟩:=vc j _ (List.getElem?_eq_getElem hjl)
      have:v.cells[j]? = some (v.cells.toList[j]):=by simp at hj ⊢
      rw [this] at g1
      cases g1
      exact g2.oneCell (v1 _ (List.getElem_mem hjl)))
     simp only [Nat.add_zero] at hst
     have hget:∀ j,(cur.toList.take (e * ob.k+off)++v.cells.toList++cur.toList.drop (e * ob.k+off+v.cells.toList.length)).toArray[j]? = if e * ob.k+off<=j/\j < e * ob.k+off+inf.size then v.cells[j - (e * ob.k+off)]? else cur[j]?:=fun j=>by
      have l1:(cur.toList.take (e * ob.k+off)).length=e * ob.k+off:=by simp;rw [hsz];omega
      rw [List.getElem?_toArray]
      by_cases hj:j < e * ob.k+off
      ·rw [if_neg (by omega), List.append_assoc, List.getElem?_append_left (by omega), List.getElem?_take, if_pos hj]
       simp
      ·by_cases hj2 : j < e * ob.k + off + inf.size
       ·rw [if_pos ⟨by omega, hj2⟩, List.getElem?_append_left (by simp only [List.length_append,l1,hvl]; omega), List.getElem?_append_right (by omega), l1]
        simp
       ·rw [if_neg (by omega), List.getElem?_append_right (by simp only [List.length_append,l1,hvl]; omega), List.getElem?_drop]
        simp only [List.length_append,l1,hvl]
        rw [show e * ob.k+off+inf.size+(j - (e * ob.k+off+inf.size))=j from by omega]
        simp
     obtain ⟨q1,q2⟩:=h.write (i:=i) (ob:=ob) (d:=d) hio (Zw hl) hd (new:=(cur.toList.take (e * ob.k+off)++v.cells.toList++cur.toList.drop (e * ob.k+off+v.cells.toList.length)).toArray) (g':=ob.g) (es':=ob.es.set e (wrA old off va.cells))
      (Nat.le_refl _) (by simpa using r.hl (Zw hl)) (by
       simp only [List.size_toArray,List.length_append,List.length_take,List.length_drop,Array.length_toList,hvl]
       simp at hvl
       omega) (fun x hx=>by
       rcases List.mem_or_eq_of_mem_set hx with hx|rfl
       ·exact r.hn x hx
       ·exact wl) (fun x hx a ha=>by
       rcases List.mem_or_eq_of_mem_set hx with hx|rfl
       ·exact r.h1 x hx a ha
       ·exact w1 a ha) (by simpa using r.hz) (fun n j x a hx ha=>by
       rw [hget]
       by_cases hne:e=n
       ·subst hne
        rw [List.getElem?_set_self hel] at hx
        cases hx
        rcases wc j a ha with ⟨c1,c2,c3⟩|⟨c1,c2⟩
        ·rw [if_pos (by omega)]
         obtain ⟨c,g1,g2⟩:=vc _ a c3
         exact ⟨c,by rw [<- g1];congr 1;omega,g2⟩
        ·rw [if_neg (by omega)]
         exact hcell e j old a hold c2
       ·rw [List.getElem?_set_ne hne] at hx
        have hjk:j < ob.k:=by rw [<- r.hn x (List.mem_of_getElem? hx)];exact (List.getElem?_eq_some_iff.1 ha).1
        rw [if_neg (by
         rintro ⟨z1,z2⟩
         rcases Nat.lt_or_gt_of_ne hne with hlt|hlt
         ·have := Nat.mul_le_mul_right ob.k (show e + 1 <= n from hlt)
          rw [Nat.add_mul,Nat.one_mul] at this
          omega
         ·have := Nat.mul_le_mul_right ob.k (show n + 1 <= e from hlt)
          rw [Nat.add_mul,Nat.one_mul] at this
          omega)]
        exact hcell n j x a hx ha) (fun o u hu=>by
       have ho:=r.hf o u hu
       have hfe:=Nat.mul_le_mul_right ob.k hfz
       rw [hget,if_neg (by omega)]
       have:=h.fr _ _ _ hu
       simpa [World.cell?,hcur] using this)
     have hobg:(⟨ob.e,ob.k,ob.es.set e (wrA old off va.cells),ob.g,ob.fz⟩:OB) = { ob with es:=ob.es.set e (wrA old off va.cells) }:=rfl
     rw [hobg] at q1
     refine ⟨_,F,_,?_,q1,Fz.le_refl F,q2⟩
     have hvne:¬ v.cells.size ≠ inf.size:=by simp at hvl;omega
     simp only [Instr.storeAt,Instr.sureAddr,storeVar,Sem.run_bind,Sem.run_pure,Result.andThen_ok,ZL hi,hvne,if_false]
     exact hst
    ·cases hr
   ·cases hr
  ·cases hr
 | _=>simp [zg] at hr
end
section
variable {P:Program} {B:Bd} {w0 w:World} {F0 F:Fz} {O:Ow} {H:Hp}
theorem src_ok (h : Own B w0 F0 F O H w) {x : Value} {a : AV} (hx : VR F O x a) {k : Nat} {news : List AV} {H2 : Hp} (hs : zV H k a = some (news, H2)) :
  ∃ A c,x = .slice A news.length c/\(∀ e ∈ news,e.cells.length=k)/\(∀ e ∈ news,∀ u ∈ e.cells,AV.one u=true) /\
   (news ≠ []->∃ b o,A=some ⟨b,o,none⟩/\∀ (i j:Nat) (e a:AV),news[i]? = some e->e.cells[j]? = some a->∃ c,w.cell? ⟨b,o+i * k+j,none⟩=some c/\VR F O c a):=by
 cases a with
 | nl k' =>
  cases hs
  cases hx with
  | p h=>cases h
  | nl=>exact ⟨none,0,rfl,fun e he=>(by cases he),fun e he=>(by cases he),fun hn=>absurd rfl hn⟩
 | em b k' =>
  cases hs
  cases hx with
  | p h=>cases h
  | em A c=>exact ⟨A,c,rfl,fun e he=>(by cases he),fun e he=>(by cases he),fun hn=>absurd rfl hn⟩
 | sl k' es =>
  simp only [zV] at hs
  split at hs
  ·rename_i hk
   subst hk
   cases hs
   have hp:=hx.pvC rfl
   cases hp with
   | sl A n cap _ _ hn hc hm hk h1 b o hA f hf hr =>
    subst hn
    refine ⟨A,cap,rfl,hk,h1,fun hne=>⟨b,o,hA (List.length_pos_iff.2 hne),fun i j e a he ha=>?_⟩⟩
    have hil:=(List.getElem?_eq_some_iff.1 he).1
    have hjl:=(List.getElem?_eq_some_iff.1 ha).1
    rw [hk e (List.mem_of_getElem? he)] at hjl
    exact ⟨f i j,h.fr _ _ _ (hf i j hil hjl),.p (hr i j e a he ha)⟩
  ·cases hs
 | ol i g n =>
  simp only [zV] at hs
  split at hs
  ·rename_i ob hl
   split at hs
   ·rename_i hc
    obtain ⟨rfl,hn⟩:=hc
    cases hs
    obtain ⟨d,hd,hio,r,hnC,rfl⟩:=h.ol hx hl
    refine ⟨_,d.C,?_,fun e he=>r.hn e (List.mem_of_mem_take he),fun e he=>r.h1 e (List.mem_of_mem_take he),fun _=>⟨d.b,0,rfl,fun i j e a he ha=>?_⟩⟩
    ·rw [List.length_take,Nat.min_eq_left hn]
    ·have he' : ob.es[i]? = some e := by
      rw [List.getElem?_take] at he
      split at he
      ·exact he
      ·cases he
     exact r.cell (Zw hl) i j e a he' ha
   ·cases hs
  ·cases hs
 | _=>cases hs
theorem Z3 {news : List AV} {k : Nat} (hk : ∀ e ∈ news, e.cells.length = k) (h1 : ∀ e ∈ news, ∀ u ∈ e.cells, AV.one u = true) {b o : Nat}
  (hc:∀ (i j:Nat) (e a:AV),news[i]? = some e->e.cells[j]? = some a->∃ c,w.cell? ⟨b,o+i * k+j,none⟩=some c/\VR F O c a) (h0:0 < k) :
  ∃ ns:List Value,ns.length=news.length * k/\(∀ (j:Nat) (u:Value),ns[j]? = some u->w.cell? ((⟨b,o,none⟩:Addr).add j)=some u)/\(∀ u ∈ ns,u.oneCell'=true) /\
   ∀ (i j:Nat) (e a:AV),news[i]? = some e->e.cells[j]? = some a->∃ c,ns[i * k+j]? = some c/\VR F O c a:=by
 have key:∀ j,j < news.length * k->∃ c a,w.cell? ⟨b,o+j,none⟩=some c/\VR F O c a/\a.one=true:=fun j hj=>by
  have hi:j / k < news.length:=(Nat.div_lt_iff_lt_mul h0).2 hj
  have hm:j % k < (news[j / k]).cells.length:=by rw [hk _ (List.getElem_mem hi)];exact Nat.mod_lt _ h0
  obtain ⟨c,g1,g2⟩:=hc (j / k) (j % k) _ _ (List.getElem?_eq_getElem hi) (List.getElem?_eq_getElem hm)
  refine ⟨c,_,?_,g2,h1 _ (List.getElem_mem hi) _ (List.getElem_mem hm)⟩
  rw [<- g1]
  congr 2
  have:=Nat.div_add_mod j k
  rw [Nat.mul_comm] at this
  omega
 refine ⟨(List.range (news.length * k)).map fun j=>(w.cell? ⟨b,o+j,none⟩).getD undef,by simp,fun j u hu=>?_,fun u hu=>?_,fun i j e a he ha=>?_⟩
 ·rw [List.getElem?_map] at hu
  obtain ⟨j',hj',rfl⟩:=Option.map_eq_some_iff.1 hu
  have hjl:=(List.getElem?_eq_some_iff.1 hj').1
  rw [List.getElem?_range (by simpa using hjl)] at hj'
  cases hj'
  obtain ⟨c,a,g1,_⟩:=key j (by simpa using hjl)
  rw [ZM,g1];rfl
 ·obtain ⟨j, hj, rfl⟩ := List.mem_map.1 hu
  obtain ⟨c,a,g1,g2,g3⟩:=key j (by simpa using hj)
  rw [g1]
  exact g2.oneCell g3
 ·obtain ⟨c, g1, g2⟩ := hc i j e a he ha
  have hil:=(List.getElem?_eq_some_iff.1 he).1
  have hjl:=(List.getElem?_eq_some_iff.1 ha).1
  rw [hk e (List.mem_of_getElem? he)] at hjl
  have hlt:i * k+j < news.length * k:=by
   have:=Nat.mul_le_mul_right k (show i+1<=news.length from hil)
   rw [Nat.add_mul,Nat.one_mul] at this
   omega
  refine ⟨c,?_,g2⟩
  rw [List.getElem?_map,List.getElem?_range hlt]
  simp only [Option.map_some]
  rw [<- Nat.add_assoc,g1]
  rfl
theorem Yt {t ty e : TypeId} {i : TypeInfo} (ht : P.underlying t = some (.slice e)) (hi : P.info? e = some i) {b : Option Addr} {n c : Nat} (hn : n <= c) {A : Option Addr} {c' : Nat} :
  (Builtin.append_ #[t,t] ty #[.slice b n c,.slice A 0 c']).run P w = .ok (.slice b n c) w:=by
 cases A<;>cases b<;>simp [Builtin.append_,run_underlying ht,sizeOf,typeInfo,hi,Builtin.lenOf,Builtin.firstCells,hn,storeCells,loadCells,loadCellsFrom]
theorem app_run (h : Own B w0 F0 F O H w) {e : TypeId} (ne : e ≠ ZZ) {s x : Value} {sa xa : AV} (hs : VR F O s sa) (hx : VR F O x xa) {t ty : TypeId} {i : TypeInfo} {z : Value} {k bytes : Nat} (ht : P.underlying t = some (.slice e)) (hi : P.info? e = some i)
  (hz:i.zero=some z) (hsz:i.size=k) (hby:i.bytes=bytes) (hzs:z.cells.size=k) (h0:0 < k) {r:AV} {H':Hp} (hr:zT e k bytes H sa xa=some (r,H')) :
  ∃ y w',(Builtin.append_ #[t,t] ty #[s,x]).run P w = .ok y w'/\Out B w0 F0 F O r H' y w':=by
 unfold zT at hr
 split at hr
 ·rename_i news H2 hsrc
  obtain ⟨A,c,rfl,hk,h1,hcell⟩:=src_ok h hx hsrc
  cases sa with
  | nl k' =>
   have hsv:s = .slice none 0 0:=by
    cases hs with
    | p h=>cases h
    | nl=>rfl
   subst hsv
   simp only at hr
   split at hr
   ·rename_i hnil
    subst hnil
    cases hr
    exact ⟨_,w,Yt ht hi (Nat.le_refl _),Out.same h (.nl _)⟩
   ·rename_i hne
    split at hr
    ·rename_i hb
     cases hr
     obtain ⟨b,o,rfl,hcc⟩:=hcell hne
     obtain ⟨ns,n1,n2,n3,n4⟩:=Z3 (w:=w) hk h1 hcc h0
     have hpos:0 < news.length:=List.length_pos_iff.2 hne
     have hmax:=hb.2
     have hrun:=run_append_nil (P:=P) w t ty e i z ht hi hz ⟨b,o,none⟩ news.length c ns (by rw [n1,hsz]) n2 hpos (by have:=hmax;simp only [maxLen] at this;omega) (by rw [hby];have:=hb.1;omega)
     have hge:=grownCap_ge w news.length 0 e
     have hcm:=grownCap_le_maxLen w news.length 0 e hmax
     refine ⟨_,_,hrun,F,O++[⟨w.heap.size,grownCap w news.length 0 e,0,k⟩],?_,h.push (w1:=w.drew) (Below.refl _ w).drew rfl ne hcm hge ?_ hk h1 ?_,Fz.le_refl F,Ow.le_push O _⟩
     ·exact .ol _ H.length 0 news.length ⟨w.heap.size,grownCap w news.length 0 e,0,k⟩ (by rw [<- h.len];simp) (Nat.zero_le _) ⟨_,_,rfl⟩ fun _=>⟨hge,rfl⟩
     ·simp only [Array.size_append,List.size_toArray,size_zeroCells,hzs,n1]
      rw [<- Nat.add_mul]
      congr 1
      omega
     ·intro n j x a hx ha
      obtain ⟨c',g1,g2⟩:=n4 n j x a hx ha
      exact ⟨c',by rw [Array.getElem?_append_left (by have:=(List.getElem?_eq_some_iff.1 g1).1;simpa using this)];simpa using g1,g2⟩
    ·cases hr
  | oc i' g n cc =>
   simp only at hr
   split at hr
   ·rename_i ob hl
    split at hr
    ·rename_i hcnd
     obtain ⟨rfl,rfl,hfz,hnl,hbt,hml⟩:=hcnd
     obtain ⟨d,hd,hio,r,hnC,rfl,rfl⟩:=h.oc hs hl
     obtain ⟨cur,hcur,hcsz,hcc0⟩:=r.curc (Zw hl)
     have hg:ob.g=g:=(ZJ hl).2
     have hle:n * ob.k<=cur.size:=by rw [hcsz];exact Nat.mul_le_mul_right _ hnC
     have tn:∀ x ∈ ob.es.take n++news,x.cells.length=ob.k:=fun x hx=>by
      rcases List.mem_append.1 hx with hx|hx
      ·exact r.hn x (List.mem_of_mem_take hx)
      ·exact hk x hx
     have t1:∀ x ∈ ob.es.take n++news,∀ a ∈ x.cells,AV.one a=true:=fun x hx=>by
      rcases List.mem_append.1 hx with hx|hx
      ·exact r.h1 x (List.mem_of_mem_take hx)
      ·exact h1 x hx
     have tl:(ob.es.take n++news).length=n+news.length:=by simp;omega
     have tfz:ob.fz<=(ob.es.take n++news).length:=by rw [tl];omega
     -- what a row of old and new cells says
     have says : ∀ (ns rest : List Value) (cells : Array Value), cells.toList = cur.toList.take (n * ob.k) ++ ns ++ rest -> ns.length = news.length * ob.k -> (∀ (i j : Nat) (e a : AV), news[i]? = some e -> e.cells[j]? = some a -> ∃ c, ns[i * ob.k + j]? = some c /\ VR F O c a) ->
       ∀ (m j:Nat) (x a:AV),(ob.es.take n++news)[m]? = some x->x.cells[j]? = some a->∃ c,cells[m * ob.k+j]? = some c/\VR F O c a:=fun ns rest cells hcells hnl' hns m j x a hx ha=>by
      have e0:cells[m * ob.k+j]? = (cur.toList.take (n * ob.k)++ns++rest)[m * ob.k+j]?:=by rw [<- hcells];simp
      have tkl:(ob.es.take n).length=n:=by simp;omega
      have hjk:j < ob.k:=by rw [<- tn x (List.mem_of_getElem? hx)];exact (List.getElem?_eq_some_iff.1 ha).1
      have tcl:(cur.toList.take (n * ob.k)).length=n * ob.k:=by simp;omega
      rw [e0,List.append_assoc]
      by_cases hm:m < n
      ·rw [List.getElem?_append_left (by omega)] at hx
       rw [List.getElem?_take,if_pos hm] at hx
       obtain ⟨c',g1,g2⟩:=hcc0 m j x a hx ha
       have hlt:m * ob.k+j < n * ob.k:=by
        have:=Nat.mul_le_mul_right ob.k (show m+1<=n from hm)
        rw [Nat.add_mul,Nat.one_mul] at this
        omega
       refine ⟨c',?_,g2⟩
       rw [List.getElem?_append_left (by omega),List.getElem?_take,if_pos hlt]
       simpa using g1
      ·rw [List.getElem?_append_right (by omega), tkl] at hx
       obtain ⟨c',g1,g2⟩:=hns (m - n) j x a hx ha
       refine ⟨c',?_,g2⟩
       have hmk:m * ob.k=n * ob.k+(m - n) * ob.k:=by rw [<- Nat.add_mul];congr 1;omega
       rw [List.getElem?_append_right (by omega),tcl,show m * ob.k+j - n * ob.k=(m - n) * ob.k+j from by omega]
       rw [List.getElem?_append_left (by have:=(List.getElem?_eq_some_iff.1 g1).1;exact this)]
       exact g1
     by_cases hroom:n+news.length<=d.C
     ·rw [if_pos hroom] at hr
      cases hr
      obtain ⟨cells, hcl, hrun, hsize, hq⟩ : ∃ cells : Array Value, (∃ ns rest, cells.toList = cur.toList.take (n * ob.k) ++ ns ++ rest /\ ns.length = news.length * ob.k /\ (∀ (i j : Nat) (e a : AV), news[i]? = some e -> e.cells[j]? = some a -> ∃ c, ns[i * ob.k + j]? = some c /\ VR F O c a)) /\
        (Builtin.append_ #[t,t] ty #[.slice (some ⟨d.b,0,none⟩) n d.C,.slice A news.length c]).run P w = .ok (.slice (some ⟨d.b,0,none⟩) (n+news.length) d.C) (w.setRow d.b cells)/\cells.size=d.C * ob.k/\True:=by
       by_cases hne:news=[]
       ·subst hne
        refine ⟨cur,⟨[],cur.toList.drop (n * ob.k),by simp,by simp,fun i j e a he=>by simp at he⟩,?_,hcsz,trivial⟩
        rw [setRow_self w d.b cur ob.e (0,0) hcur]
        exact Yt ht hi hnC
       ·obtain ⟨b, o, rfl, hcc⟩ := hcell hne
        obtain ⟨ns,n1,n2,n3,n4⟩:=Z3 (w:=w) hk h1 hcc h0
        have hfit:n * i.size+ns.length<=cur.size:=by rw [n1,hsz,hcsz,<- Nat.add_mul];exact Nat.mul_le_mul_right _ hroom
        have hrun:=run_append_room (P:=P) w t ty ob.e i ht hi d.b n d.C cur hcur ⟨b,o,none⟩ news.length c ns (by rw [n1,hsz]) n2 n3 hroom hfit
        rw [hsz] at hrun hfit
        refine ⟨_,⟨ns,cur.toList.drop (n * ob.k+ns.length),rfl,n1,n4⟩,hrun,?_,trivial⟩
        simp only [List.size_toArray,List.length_append,List.length_take,List.length_drop,Array.length_toList]
        omega
      obtain ⟨ns,rest,hcl1,hcl2,hcl3⟩:=hcl
      obtain ⟨q1,q2⟩:=h.write (i:=i') (ob:=ob) (d:=d) hio (Zw hl) hd (new:=cells) (g':=g) (es':=ob.es.take n++news) (by omega) (by rw [tl];exact hroom) hsize tn t1 tfz (says ns rest cells hcl1 hcl2 hcl3) (fun o u hu=>by
       have ho:=r.hf o u hu
       have hfn:=Nat.mul_le_mul_right ob.k hfz
       have hw:=h.fr _ _ _ hu
       simp only [World.cell?,hcur] at hw
       have e0:cells[o]? = (cur.toList.take (n * ob.k)++ns++rest)[o]?:=by rw [<- hcl1];simp
       rw [e0,List.append_assoc,List.getElem?_append_left (by simp;omega),List.getElem?_take,if_pos (by omega)]
       simpa using hw)
      refine ⟨_,_,hrun,F,_,?_,q1,Fz.le_refl F,q2⟩
      exact .ol _ i' g (n+news.length) ⟨d.b,d.C,g,d.k⟩ (List.getElem?_set_self (List.getElem?_eq_some_iff.1 hd).1) (Nat.le_refl _) ⟨_,_,rfl⟩ fun _=>⟨hroom,rfl⟩
     ·rw [if_neg hroom] at hr
      cases hr
      have hne:news ≠ []:=fun e=>by subst e;simp at hroom;omega
      obtain ⟨b,o,rfl,hcc⟩:=hcell hne
      obtain ⟨ns,n1,n2,n3,n4⟩:=Z3 (w:=w) hk h1 hcc h0
      have hrun := run_append_grow (P := P) w t ty ob.e i z ht hi hz ⟨d.b, 0, none⟩ n d.C (cur.toList.take (n * ob.k)) (by rw [hsz]; simp; omega) (fun j v hv => by
        rw [List.getElem?_take] at hv
        split at hv
        ·rw [ZM]
         simp only [World.cell?,hcur]
         simpa using hv
        ·cases hv) ⟨b,o,none⟩ news.length c ns (by rw [n1,hsz]) n2 (by omega) (by have:=hml;simp only [maxLen] at this;omega) (by rw [hby];exact growslice_fits (by omega) hbt)
      have hge:=grownCap_ge w (n+news.length) d.C ob.e
      have hcm:=grownCap_le_maxLen w (n+news.length) d.C ob.e hml
      refine ⟨_,_,hrun,F,O++[⟨w.heap.size,grownCap w (n+news.length) d.C ob.e,0,ob.k⟩],?_,h.push (w1:=w.drew) (Below.refl _ w).drew rfl ne (C:=grownCap w (n+news.length) d.C ob.e) (es:=ob.es.take n++news) (cs:=(cur.toList.take (n * ob.k)).toArray++ns.toArray++Builtin.zeroCells z.cells (grownCap w (n+news.length) d.C ob.e - (n+news.length)))
       hcm (by rw [tl];exact hge) (by
        simp only [Array.size_append,List.size_toArray,size_zeroCells,hzs,n1,List.length_take,Array.length_toList]
        rw [Nat.min_eq_left hle,<- Nat.add_mul,<- Nat.add_mul]
        congr 1
        omega) tn t1 (says ns (Builtin.zeroCells z.cells (grownCap w (n+news.length) d.C ob.e - (n+news.length))).toList _ (by simp) n1 n4),Fz.le_refl F,Ow.le_push O _⟩
      exact .ol _ H.length 0 (n+news.length) ⟨w.heap.size,grownCap w (n+news.length) d.C ob.e,0,ob.k⟩ (by rw [<- h.len];simp) (Nat.le_refl _) ⟨_,_,rfl⟩ fun _=>⟨hge,rfl⟩
    ·cases hr
   ·cases hr
  | ol i' g n =>
   simp only at hr
   split at hr
   ·rename_i ob hl
    split at hr
    ·rename_i hcnd
     obtain ⟨rfl,rfl,hfz,hnl,hbt,hml⟩:=hcnd
     cases hr
     obtain ⟨d,hd,hio,r,hnC,rfl⟩:=h.ol hs hl
     obtain ⟨cur,hcur,hcsz,hcc0⟩:=r.curc (Zw hl)
     have hg:ob.g=g:=(ZJ hl).2
     have hle:n * ob.k<=cur.size:=by rw [hcsz];exact Nat.mul_le_mul_right _ hnC
     have tn:∀ x ∈ ob.es.take n++news,x.cells.length=ob.k:=fun x hx=>by
      rcases List.mem_append.1 hx with hx|hx
      ·exact r.hn x (List.mem_of_mem_take hx)
      ·exact hk x hx
     have t1:∀ x ∈ ob.es.take n++news,∀ a ∈ x.cells,AV.one a=true:=fun x hx=>by
      rcases List.mem_append.1 hx with hx|hx
      ·exact r.h1 x (List.mem_of_mem_take hx)
      ·exact h1 x hx
     have tl:(ob.es.take n++news).length=n+news.length:=by simp;omega
     have tfz:ob.fz<=(ob.es.take n++news).length:=by rw [tl];omega
     -- what a row of old and new cells says
     have says : ∀ (ns rest : List Value) (cells : Array Value), cells.toList = cur.toList.take (n * ob.k) ++ ns ++ rest -> ns.length = news.length * ob.k -> (∀ (i j : Nat) (e a : AV), news[i]? = some e -> e.cells[j]? = some a -> ∃ c, ns[i * ob.k + j]? = some c /\ VR F O c a) ->
       ∀ (m j:Nat) (x a:AV),(ob.es.take n++news)[m]? = some x->x.cells[j]? = some a->∃ c,cells[m * ob.k+j]? = some c/\VR F O c a:=fun ns rest cells hcells hnl' hns m j x a hx ha=>by
      have e0:cells[m * ob.k+j]? = (cur.toList.take (n * ob.k)++ns++rest)[m * ob.k+j]?:=by rw [<- hcells];simp
      have tkl:(ob.es.take n).length=n:=by simp;omega
      have hjk:j < ob.k:=by rw [<- tn x (List.mem_of_getElem? hx)];exact (List.getElem?_eq_some_iff.1 ha).1
      have tcl:(cur.toList.take (n * ob.k)).length=n * ob.k:=by simp;omega
      rw [e0,List.append_assoc]
      by_cases hm:m < n
      ·rw [List.getElem?_append_left (by omega)] at hx
       rw [List.getElem?_take,if_pos hm] at hx
       obtain ⟨c',g1,g2⟩:=hcc0 m j x a hx ha
       have hlt:m * ob.k+j < n * ob.k:=by
        have:=Nat.mul_le_mul_right ob.k (show m+1<=n from hm)
        rw [Nat.add_mul,Nat.one_mul] at this
        omega
       refine ⟨c',?_,g2⟩
       rw [List.getElem?_append_left (by omega),List.getElem?_take,if_pos hlt]
       simpa using g1
      ·rw [List.getElem?_append_right (by omega), tkl] at hx
       obtain ⟨c',g1,g2⟩:=hns (m - n) j x a hx ha
       refine ⟨c',?_,g2⟩
       have hmk:m * ob.k=n * ob.k+(m - n) * ob.k:=by rw [<- Nat.add_mul];congr 1;omega
       rw [List.getElem?_append_right (by omega),tcl,show m * ob.k+j - n * ob.k=(m - n) * ob.k+j from by omega]
       rw [List.getElem?_append_left (by have:=(List.getElem?_eq_some_iff.1 g1).1;exact this)]
       exact g1
     by_cases hroom:n+news.length<=d.C
     ·obtain ⟨cells, hcl, hrun, hsize, hq⟩ : ∃ cells : Array Value, (∃ ns rest, cells.toList = cur.toList.take (n * ob.k) ++ ns ++ rest /\ ns.length = news.length * ob.k /\ (∀ (i j : Nat) (e a : AV), news[i]? = some e -> e.cells[j]? = some a -> ∃ c, ns[i * ob.k + j]? = some c /\ VR F O c a)) /\
        (Builtin.append_ #[t,t] ty #[.slice (some ⟨d.b,0,none⟩) n d.C,.slice A news.length c]).run P w = .ok (.slice (some ⟨d.b,0,none⟩) (n+news.length) d.C) (w.setRow d.b cells)/\cells.size=d.C * ob.k/\True:=by
       by_cases hne:news=[]
       ·subst hne
        refine ⟨cur,⟨[],cur.toList.drop (n * ob.k),by simp,by simp,fun i j e a he=>by simp at he⟩,?_,hcsz,trivial⟩
        rw [setRow_self w d.b cur ob.e (0,0) hcur]
        exact Yt ht hi hnC
       ·obtain ⟨b, o, rfl, hcc⟩ := hcell hne
        obtain ⟨ns,n1,n2,n3,n4⟩:=Z3 (w:=w) hk h1 hcc h0
        have hfit:n * i.size+ns.length<=cur.size:=by rw [n1,hsz,hcsz,<- Nat.add_mul];exact Nat.mul_le_mul_right _ hroom
        have hrun:=run_append_room (P:=P) w t ty ob.e i ht hi d.b n d.C cur hcur ⟨b,o,none⟩ news.length c ns (by rw [n1,hsz]) n2 n3 hroom hfit
        rw [hsz] at hrun hfit
        refine ⟨_,⟨ns,cur.toList.drop (n * ob.k+ns.length),rfl,n1,n4⟩,hrun,?_,trivial⟩
        simp only [List.size_toArray,List.length_append,List.length_take,List.length_drop,Array.length_toList]
        omega
      obtain ⟨ns,rest,hcl1,hcl2,hcl3⟩:=hcl
      obtain ⟨q1,q2⟩:=h.write (i:=i') (ob:=ob) (d:=d) hio (Zw hl) hd (new:=cells) (g':=g+1) (es':=ob.es.take n++news) (by omega) (by rw [tl];exact hroom) hsize tn t1 tfz (says ns rest cells hcl1 hcl2 hcl3) (fun o u hu=>by
       have ho:=r.hf o u hu
       have hfn:=Nat.mul_le_mul_right ob.k hfz
       have hw:=h.fr _ _ _ hu
       simp only [World.cell?,hcur] at hw
       have e0:cells[o]? = (cur.toList.take (n * ob.k)++ns++rest)[o]?:=by rw [<- hcl1];simp
       rw [e0,List.append_assoc,List.getElem?_append_left (by simp;omega),List.getElem?_take,if_pos (by omega)]
       simpa using hw)
      refine ⟨_,_,hrun,F,_,?_,q1,Fz.le_refl F,q2⟩
      exact .ol _ i' (g+1) (n+news.length) ⟨d.b,d.C,g+1,d.k⟩ (List.getElem?_set_self (List.getElem?_eq_some_iff.1 hd).1) (Nat.le_refl _) ⟨_,_,rfl⟩ fun _=>⟨hroom,rfl⟩
     ·have hne:news ≠ []:=fun e=>by subst e;simp at hroom;omega
      obtain ⟨b,o,rfl,hcc⟩:=hcell hne
      obtain ⟨ns,n1,n2,n3,n4⟩:=Z3 (w:=w) hk h1 hcc h0
      have hrun := run_append_grow (P := P) w t ty ob.e i z ht hi hz ⟨d.b, 0, none⟩ n d.C (cur.toList.take (n * ob.k)) (by rw [hsz]; simp; omega) (fun j v hv => by
        rw [List.getElem?_take] at hv
        split at hv
        ·rw [ZM]
         simp only [World.cell?,hcur]
         simpa using hv
        ·cases hv) ⟨b,o,none⟩ news.length c ns (by rw [n1,hsz]) n2 (by omega) (by have:=hml;simp only [maxLen] at this;omega) (by rw [hby];exact growslice_fits (by omega) hbt)
      have hge:=grownCap_ge w (n+news.length) d.C ob.e
      have hcm:=grownCap_le_maxLen w (n+news.length) d.C ob.e hml
      obtain ⟨q1,q2⟩:=h.move (w1:=w.drew) (Below.refl _ w).drew rfl (i:=i') (ob:=ob) (d:=d) hio (Zw hl) hd (new:=(cur.toList.take (n * ob.k)).toArray++ns.toArray++Builtin.zeroCells z.cells (grownCap w (n+news.length) d.C ob.e - (n+news.length))) (C:=grownCap w (n+news.length) d.C ob.e) (es':=ob.es.take n++news)
       hcm (by rw [tl];exact hge) (by
        simp only [Array.size_append,List.size_toArray,size_zeroCells,hzs,n1,List.length_take,Array.length_toList]
        rw [Nat.min_eq_left hle,<- Nat.add_mul,<- Nat.add_mul]
        congr 1
        omega) tn t1 tfz (says ns (Builtin.zeroCells z.cells (grownCap w (n+news.length) d.C ob.e - (n+news.length))).toList _ (by simp) n1 n4)
      rw [hg] at q1 q2
      refine ⟨_,_,hrun,F,_,?_,q1,Fz.le_refl F,q2⟩
      exact .ol _ i' (g+1) (n+news.length) ⟨w.heap.size,_,g+1,ob.k⟩ (List.getElem?_set_self (List.getElem?_eq_some_iff.1 hd).1) (Nat.le_refl _) ⟨_,_,rfl⟩ fun _=>⟨hge,rfl⟩
    ·cases hr
   ·cases hr
  | _=>cases hr
 ·cases hr
theorem run_copy_o (w : World) (dT ty elem : TypeId) (inf : TypeInfo) (g off dLen dCap : Nat) (a : Addr) (sLen sCap : Nat) (cur : Array Value) (t : TypeId) (cs : List Value)
  (hu:P.underlying dT=some (.slice elem)) (hi:P.info? elem=some inf)
  (hg:w.heap[g]? = some (.cells cur t (0,0))) (hn:cs.length=Nat.min sLen dLen * inf.size)
  (hsrc:∀ j v,cs[j]? = some v->w.cell? (a.add j)=some v) (hfit:off+cs.length<=cur.size) (h1:∀ v ∈ cs,v.oneCell'=true) :
  (Builtin.copy_ #[dT,dT] ty #[.slice (some ⟨g,off,none⟩) dLen dCap,.slice (some a) sLen sCap]).run P w =
   .ok (goInt (Nat.min sLen dLen)) (w.setRow g (cur.toList.take off++cs++cur.toList.drop (off+cs.length)).toArray):=by
 have hl:=run_loadCells_list (P:=P) w a cs hsrc
 have hst:=run_storeCells_at P g off t cs 0 cur w hg (by simpa using hfit) h1
 simp [Builtin.copy_,run_underlying hu,Builtin.lenOf,Builtin.firstCells,sizeOf,typeInfo,hi,<- hn,hl,hst]
theorem run_copy_k (w : World) (dT ty elem : TypeId) (inf : TypeInfo) (g dLen dCap : Nat) (a : Addr) (sLen sCap : Nat) (cur : Array Value) (t : TypeId) (cs : List Value)
  (hu:P.underlying dT=some (.slice elem)) (hi:P.info? elem=some inf)
  (hg:w.heap[g]? = some (.cells cur t (0,0))) (hn:cs.length=Nat.min sLen dLen * inf.size)
  (hsrc:∀ j v,cs[j]? = some v->w.cell? (a.add j)=some v) (hfit:0+cs.length<=cur.size) (h1:∀ v ∈ cs,v.oneCell'=true) :
  (Builtin.copy_ #[dT,dT] ty #[.slice (some ⟨g,0,none⟩) dLen dCap,.slice (some a) sLen sCap]).run P w =
   .ok (goInt (Nat.min sLen dLen)) (w.setRow g (cur.toList.take 0++cs++cur.toList.drop (0+cs.length)).toArray):=by
 have hl:=run_loadCells_list (P:=P) w a cs hsrc
 have hst:=run_storeCells_at P g 0 t cs 0 cur w hg (by simpa using hfit) h1
 simp [Builtin.copy_,run_underlying hu,Builtin.lenOf,Builtin.firstCells,sizeOf,typeInfo,hi,<- hn,hl,hst]
theorem cpy_run (h : Own B w0 F0 F O H w) {d x : Value} {da xa : AV} (hd : VR F O d da) (hx : VR F O x xa) {t ty e : TypeId} {i : TypeInfo} {k : Nat} (ht : P.underlying t = some (.slice e)) (hi : P.info? e = some i)
  (hsz:i.size=k) (h0:0 < k) {r:AV} {H':Hp} (hr:Xo k H da xa=some (r,H')) :
  ∃ y w',(Builtin.copy_ #[t,t] ty #[d,x]).run P w = .ok y w'/\Out B w0 F0 F O r H' y w':=by
 unfold Xo at hr
 split at hr
 ·rename_i news H2 hsrc
  obtain ⟨A,c,rfl,hk,h1,hcell⟩:=src_ok h hx hsrc
  cases da with
  | ol i' g n =>
   simp only at hr
   split at hr
   ·rename_i ob hl
    split at hr
    ·rename_i hcnd
     obtain ⟨rfl,hfz,hnl⟩:=hcnd
     cases hr
     obtain ⟨dd,hdd,hio,r,hnC,rfl⟩:=h.ol hd hl
     obtain ⟨cur,hcur,hcsz,hcc0⟩:=r.curc (Zw hl)
     have hg:ob.g=g:=(ZJ hl).2
     obtain ⟨m,hm⟩:∃ m,m=min news.length n:=⟨_,rfl⟩
     rw [<- hm]
     have hmn:Nat.min news.length n=m:=hm.symm
     have tn:∀ x ∈ news.take m++ob.es.drop m,x.cells.length=ob.k:=fun x hx=>by
      rcases List.mem_append.1 hx with hx|hx
      ·exact hk x (List.mem_of_mem_take hx)
      ·exact r.hn x (List.mem_of_mem_drop hx)
     have t1:∀ x ∈ news.take m++ob.es.drop m,∀ a ∈ x.cells,AV.one a=true:=fun x hx=>by
      rcases List.mem_append.1 hx with hx|hx
      ·exact h1 x (List.mem_of_mem_take hx)
      ·exact r.h1 x (List.mem_of_mem_drop hx)
     have tkl:(news.take m).length=m:=by simp;omega
     have tl:(news.take m++ob.es.drop m).length=ob.es.length:=by simp;omega
     have hmC:m * ob.k<=cur.size:=by rw [hcsz];exact Nat.mul_le_mul_right _ (by omega)
     obtain ⟨new, hnew1, hnew2, hrun⟩ : ∃ new : Array Value, new.size = cur.size /\ (∀ (p j : Nat) (x a : AV), (news.take m ++ ob.es.drop m)[p]? = some x -> x.cells[j]? = some a -> ∃ c, new[p * ob.k + j]? = some c /\ VR F O c a) /\
       (Builtin.copy_ #[t,t] ty #[.slice (some ⟨dd.b,0,none⟩) n dd.C,.slice A news.length c]).run P w = .ok (goInt m) (w.setRow dd.b new):=by
      by_cases hne:news=[]
      ·subst hne
       have hm0:m=0:=by simp at hm;exact hm
       subst hm0
       refine ⟨cur,rfl,fun p j x a hx ha=>by simp at hx;exact hcc0 p j x a hx ha,?_⟩
       rw [setRow_self w dd.b cur ob.e (0,0) hcur]
       cases A with
       | none=>simp [Builtin.copy_,run_underlying ht,Builtin.lenOf,Builtin.firstCells,sizeOf,typeInfo,hi,storeCells]
       | some a =>
        have hl:=run_loadCells_list (P:=P) w a [] (by simp)
        simp at hl
        simp [Builtin.copy_,run_underlying ht,Builtin.lenOf,Builtin.firstCells,sizeOf,typeInfo,hi,storeCells,hl]
      ·obtain ⟨b, o, rfl, hcc⟩ := hcell hne
       obtain ⟨ns,n1,n2,n3,n4⟩:=Z3 (w:=w) (news:=news.take m) (k:=ob.k) (fun e he=>hk e (List.mem_of_mem_take he)) (fun e he=>h1 e (List.mem_of_mem_take he)) (b:=b) (o:=o) (fun i j e a he ha=>by
        rw [List.getElem?_take] at he
        split at he
        ·exact hcc i j e a he ha
        ·cases he) h0
       rw [tkl] at n1
       have hrun:=run_copy_k (P:=P) w t ty e i dd.b n dd.C ⟨b,o,none⟩ news.length c cur ob.e ns ht hi hcur (by rw [hmn,hsz];exact n1) n2 (by omega) n3
       rw [hmn] at hrun
       refine ⟨_,?_,?_,hrun⟩
       ·simp only [List.size_toArray,List.length_append,List.length_take,List.length_drop,Array.length_toList];omega
       ·intro p j x a hx ha
        have hjk:j < ob.k:=by rw [<- tn x (List.mem_of_getElem? hx)];exact (List.getElem?_eq_some_iff.1 ha).1
        simp only [List.take_zero,List.nil_append,Nat.zero_add,List.getElem?_toArray]
        by_cases hp:p < m
        ·rw [List.getElem?_append_left (by omega)] at hx
         obtain ⟨c',g1,g2⟩:=n4 p j x a hx ha
         exact ⟨c',by rw [List.getElem?_append_left (List.getElem?_eq_some_iff.1 g1).1];exact g1,g2⟩
        ·rw [List.getElem?_append_right (by omega), tkl, List.getElem?_drop] at hx
         obtain ⟨c',g1,g2⟩:=hcc0 p j x a (by rw [<- hx];congr 1;omega) ha
         have hle:m * ob.k<=p * ob.k:=Nat.mul_le_mul_right _ (by omega)
         refine ⟨c',?_,g2⟩
         rw [List.getElem?_append_right (by omega),n1,List.getElem?_drop]
         rw [<- Array.getElem?_toList] at g1
         rw [<- g1];congr 1;omega
     obtain ⟨q1,q2⟩:=h.write (i:=i') (ob:=ob) (d:=dd) hio (Zw hl) hdd (new:=new) (g':=ob.g) (es':=news.take m++ob.es.drop m) (Nat.le_refl _) (by rw [tl];exact r.hl (Zw hl)) (by rw [hnew1,hcsz]) tn t1 (by omega) hnew2 (fun o u hu=>by
      have ho:=r.hf o u hu
      rw [hfz] at ho
      omega)
     exact ⟨_,_,hrun,F,_,.p (.v _ rfl),q1,Fz.le_refl F,q2⟩
    ·cases hr
   ·cases hr
  | os i' g lo n =>
   simp only at hr
   split at hr
   ·rename_i ob hl
    split at hr
    ·rename_i hcnd
     obtain ⟨rfl,hfz,hln,hnl⟩:=hcnd
     cases hr
     obtain ⟨dd,hdd,hio,r,_,hnC,Ad,rfl,hAd⟩:=h.os hd hl
     obtain ⟨cur,hcur,hcsz,hcc0⟩:=r.curc (Zw hl)
     have hg:ob.g=g:=(ZJ hl).2
     obtain ⟨m,hm⟩:∃ m,m=min news.length (n - lo):=⟨_,rfl⟩
     rw [<- hm]
     have hmn:Nat.min news.length (n - lo)=m:=hm.symm
     have tn:∀ x ∈ ob.es.take lo++(news.take m++ob.es.drop (lo+m)),x.cells.length=ob.k:=fun x hx=>by
      rcases List.mem_append.1 hx with hx|hx
      ·exact r.hn x (List.mem_of_mem_take hx)
      rcases List.mem_append.1 hx with hx|hx
      ·exact hk x (List.mem_of_mem_take hx)
      ·exact r.hn x (List.mem_of_mem_drop hx)
     have t1:∀ x ∈ ob.es.take lo++(news.take m++ob.es.drop (lo+m)),∀ a ∈ x.cells,AV.one a=true:=fun x hx=>by
      rcases List.mem_append.1 hx with hx|hx
      ·exact r.h1 x (List.mem_of_mem_take hx)
      rcases List.mem_append.1 hx with hx|hx
      ·exact h1 x (List.mem_of_mem_take hx)
      ·exact r.h1 x (List.mem_of_mem_drop hx)
     have tkl:(news.take m).length=m:=by simp;omega
     have tll:(ob.es.take lo).length=lo:=by simp;omega
     have tl:(ob.es.take lo++(news.take m++ob.es.drop (lo+m))).length=ob.es.length:=by simp;omega
     have hmC:(lo+m) * ob.k<=cur.size:=by rw [hcsz];exact Nat.mul_le_mul_right _ (by omega)
     have hmC':lo * ob.k+m * ob.k<=cur.size:=by rw [<- Nat.add_mul];exact hmC
     obtain ⟨new, hnew1, hnew2, hrun⟩ : ∃ new : Array Value, new.size = cur.size /\ (∀ (p j : Nat) (x a : AV), (ob.es.take lo ++ (news.take m ++ ob.es.drop (lo + m)))[p]? = some x -> x.cells[j]? = some a -> ∃ c, new[p * ob.k + j]? = some c /\ VR F O c a) /\
       (Builtin.copy_ #[t,t] ty #[.slice Ad (n - lo) (dd.C - lo),.slice A news.length c]).run P w = .ok (goInt m) (w.setRow dd.b new):=by
      by_cases hm0:m=0
      ·refine ⟨cur,rfl,fun p j x a hx ha=>?_,?_⟩
       ·subst hm0
        simp only [List.take_zero,List.nil_append,Nat.add_zero,List.take_append_drop] at hx
        exact hcc0 p j x a hx ha
       rw [setRow_self w dd.b cur ob.e (0,0) hcur]
       have hm2:Nat.min news.length (n - lo)=0:=by rw [hmn,hm0]
       cases A with
       | none=>cases Ad<;>simp [Builtin.copy_,run_underlying ht,Builtin.lenOf,Builtin.firstCells,sizeOf,typeInfo,hi,storeCells,hm2,hm0]
       | some a =>
        have hl:=run_loadCells_list (P:=P) w a [] (by simp)
        simp at hl
        cases Ad<;>simp [Builtin.copy_,run_underlying ht,Builtin.lenOf,Builtin.firstCells,sizeOf,typeInfo,hi,storeCells,hl,hm2,hm0]
      ·have hne:news ≠ []:=fun e=>by subst e;simp at hm;omega
       obtain rfl:=hAd (by omega)
       obtain ⟨b,o,rfl,hcc⟩:=hcell hne
       obtain ⟨ns,n1,n2,n3,n4⟩:=Z3 (w:=w) (news:=news.take m) (k:=ob.k) (fun e he=>hk e (List.mem_of_mem_take he)) (fun e he=>h1 e (List.mem_of_mem_take he)) (b:=b) (o:=o) (fun i j e a he ha=>by
        rw [List.getElem?_take] at he
        split at he
        ·exact hcc i j e a he ha
        ·cases he) h0
       rw [tkl] at n1
       have hdk:dd.k=ob.k:=r.hk
       have hrun:=run_copy_o (P:=P) w t ty e i dd.b (lo * dd.k) (n - lo) (dd.C - lo) ⟨b,o,none⟩ news.length c cur ob.e ns ht hi hcur (by rw [hmn,hsz];exact n1) n2 (by rw [n1,hdk];exact hmC') n3
       rw [hmn] at hrun
       refine ⟨_,?_,?_,hrun⟩
       ·simp only [List.size_toArray,List.length_append,List.length_take,List.length_drop,Array.length_toList,hdk];omega
       ·intro p j x a hx ha
        have hjk:j < ob.k:=by rw [<- tn x (List.mem_of_getElem? hx)];exact (List.getElem?_eq_some_iff.1 ha).1
        simp only [hdk,List.getElem?_toArray]
        have hLl:(cur.toList.take (lo * ob.k)).length=lo * ob.k:=by simp only [List.length_take,Array.length_toList];omega
        rw [List.append_assoc]
        by_cases hp:p < lo
        ·rw [List.getElem?_append_left (by omega), List.getElem?_take, if_pos hp] at hx
         obtain ⟨c',g1,g2⟩:=hcc0 p j x a hx ha
         have hlt:p * ob.k+j < lo * ob.k:=by
          have:=Nat.mul_le_mul_right ob.k (show p+1<=lo by omega)
          rw [Nat.add_mul] at this;omega
         refine ⟨c',?_,g2⟩
         rw [List.getElem?_append_left (by omega),List.getElem?_take,if_pos hlt,Array.getElem?_toList]
         exact g1
        ·rw [List.getElem?_append_right (by omega), tll] at hx
         have hle:lo * ob.k<=p * ob.k:=Nat.mul_le_mul_right _ (by omega)
         have hsub:p * ob.k+j - lo * ob.k=(p - lo) * ob.k+j:=by rw [Nat.sub_mul];omega
         by_cases hp2:p - lo < m
         ·rw [List.getElem?_append_left (by omega)] at hx
          obtain ⟨c',g1,g2⟩:=n4 (p - lo) j x a hx ha
          refine ⟨c',?_,g2⟩
          rw [List.getElem?_append_right (by omega),hLl,hsub,List.getElem?_append_left (List.getElem?_eq_some_iff.1 g1).1]
          exact g1
         ·rw [List.getElem?_append_right (by omega), tkl, List.getElem?_drop] at hx
          obtain ⟨c',g1,g2⟩:=hcc0 p j x a (by rw [<- hx];congr 1;omega) ha
          have hle2:m * ob.k<=(p - lo) * ob.k:=Nat.mul_le_mul_right _ (by omega)
          refine ⟨c',?_,g2⟩
          rw [List.getElem?_append_right (by omega),hLl,hsub,List.getElem?_append_right (by omega),n1,List.getElem?_drop]
          rw [<- Array.getElem?_toList] at g1
          rw [<- g1];congr 1
          rw [Nat.sub_mul] at hle2 ⊢
          omega
     obtain ⟨q1,q2⟩:=h.write (i:=i') (ob:=ob) (d:=dd) hio (Zw hl) hdd (new:=new) (g':=ob.g) (es':=ob.es.take lo++(news.take m++ob.es.drop (lo+m))) (Nat.le_refl _) (by rw [tl];exact r.hl (Zw hl)) (by rw [hnew1,hcsz]) tn t1 (by omega) hnew2 (fun o u hu=>by
      have ho:=r.hf o u hu
      rw [hfz] at ho
      omega)
     exact ⟨_,_,hrun,F,_,.p (.v _ rfl),q1,Fz.le_refl F,q2⟩
    ·cases hr
   ·cases hr
  | sl k' es =>
   cases es with
   | cons=>cases hr
   | nil =>
    cases hr
    have hp:=hd.pvC rfl
    cases hp with
    | sl A' n cap _ _ hn =>
     simp only [List.length_nil] at hn
     subst hn
     refine ⟨goInt 0,w,?_,F,O,.p (.v _ rfl),h,Fz.le_refl F,Ow.le_refl O⟩
     have hm:Nat.min news.length 0=0:=Nat.min_zero _
     cases A with
     | none=>cases A'<;>simp [Builtin.copy_,run_underlying ht,Builtin.lenOf,Builtin.firstCells,sizeOf,typeInfo,hi,storeCells,hm]
     | some a =>
      have hl:=run_loadCells_list (P:=P) w a [] (by simp)
      simp at hl
      cases A'<;>simp [Builtin.copy_,run_underlying ht,Builtin.lenOf,Builtin.firstCells,sizeOf,typeInfo,hi,storeCells,hl,hm]
  | _=>cases hr
 ·cases hr
theorem new_run (h : Own B w0 F0 F O H w) {e : TypeId} (ne : e ≠ ZZ) {x : Value} {a : AV} (hx : VR F O x a) {k : Nat} (hk : a.cells.length = k) (hf : a.fine = true) :
  Out B w0 F0 F O (.oa H.length 0 0 0) (H++[⟨e,k,[a],0,0⟩]) (.pointer (some ⟨w.heap.size,0,none⟩)) (w.alloc (.cells x.cells e)):=by
 obtain ⟨c1,c2,c3⟩:=hx.cells (yL hf)
 refine ⟨F,O++[⟨w.heap.size,1,0,k⟩],?_,h.push (w1:=w) (C:=1) (es:=[a]) (Below.refl _ w) rfl ne (by simp [maxLen]) (Nat.le_refl _) (by rw [c1,hk,Nat.one_mul]) (fun y hy=>?_) (fun y hy=>?_) ?_,Fz.le_refl F,Ow.le_push O _⟩
 ·exact .oa _ H.length 0 0 0 ⟨w.heap.size,1,0,k⟩ (by rw [<- h.len];simp) (Nat.le_refl _) rfl fun _=>by simp
 ·simp at hy;subst hy;exact hk
 ·simp at hy;subst hy;exact c2
 ·intro n j y u hy hu
  cases n with
  | zero=>simp at hy;subst hy;simpa using c3 j u hu
  | succ n=>simp at hy
theorem mks_run (h : Own B w0 F0 F O H w) {e : TypeId} (ne : e ≠ ZZ) {z : Value} {za : AV} (hz : VR F O z za) {k l c : Nat} (hk : za.cells.length = k) (hf : za.fine = true) (hlc : l <= c) (hcm : c <= maxLen) {cs : Array Value} (hs : cs.size = c * k) (hcs : ∀ x, x < c * k -> cs[x]? = z.cells[x % k]?) :
  Out B w0 F0 F O (.ol H.length 0 l) (H++[⟨e,k,List.replicate l za,0,0⟩]) (.slice (some ⟨w.heap.size,0,none⟩) l c) (w.alloc (.cells cs e)):=by
 obtain ⟨c1,c2,c3⟩:=hz.cells (yL hf)
 refine ⟨F,O++[⟨w.heap.size,c,0,k⟩],?_,h.push (w1:=w) (Below.refl _ w) rfl ne hcm (by simpa using hlc) hs (fun y hy=>?_) (fun y hy=>?_) ?_,Fz.le_refl F,Ow.le_push O _⟩
 ·exact .ol _ H.length 0 l ⟨w.heap.size,c,0,k⟩ (by rw [<- h.len];simp) (Nat.le_refl _) ⟨_,_,rfl⟩ fun _=>⟨hlc,rfl⟩
 ·rw [List.eq_of_mem_replicate hy];exact hk
 ·rw [List.eq_of_mem_replicate hy];exact c2
 ·intro n j y u hy hu
  have hn:n < l:=by have:=(List.getElem?_eq_some_iff.1 hy).1;simpa using this
  rw [List.getElem?_replicate,if_pos hn] at hy
  cases hy
  have hj:j < k:=by rw [<- hk];exact (List.getElem?_eq_some_iff.1 hu).1
  have hlt:n * k+j < c * k:=by
   have:=Nat.mul_le_mul_right k (show n+1<=c by omega)
   rw [Nat.add_mul,Nat.one_mul] at this
   omega
  rw [hcs _ hlt,Nat.add_comm,Nat.add_mul_mod_self_right,Nat.mod_eq_of_lt hj]
  exact c3 j u hu
theorem zeroCells_at (zs:Array Value) (n x:Nat) (hx:x < n * zs.size):(Builtin.zeroCells zs n)[x]? = zs[x % zs.size]?:=by
 have hp:0 < zs.size:=by
  rcases Nat.eq_zero_or_pos zs.size with h|h
  ·rw [h] at hx;omega
  ·exact h
 have hm:=Nat.mod_lt x hp
 unfold Builtin.zeroCells
 rw [Array.getElem?_map,Array.getElem?_range,if_pos hx]
 simp [hm]
theorem apz_run (h : Own B w0 F0 F O H w) {e : TypeId} (ne : e ≠ ZZ) {z : Value} {za : AV} (hz : VR F O z za) {t tn ty : TypeId} {i : TypeInfo} {kn k : IntKind} (ht : P.underlying t = some (.slice e)) (htn : P.underlying tn = some (.int kn)) (hi : P.info? e = some i) (hiz : i.zero = some z)
  (hk:za.cells.length=i.size) (hf:za.fine=true) (h0:0 < i.size) {m:Int} (hm:0 < m) (hb:m.toNat * i.bytes<=140737488355328) (hml:m.toNat<=maxLen) :
  ∃ y w',(Builtin.append_ #[t,tn] ty #[.slice none 0 0,.int k m]).run P w = .ok y w'/\Out B w0 F0 F O (.ol H.length 0 m.toNat) (H++[⟨e,i.size,List.replicate m.toNat za,0,0⟩]) y w':=by
 have hmn:((m.toNat:Nat):Int)=m:=by omega
 have hrun:=Lib.run_append_nil_zeros (P:=P) w t tn ty e i z k kn ht htn hi hiz m.toNat (by omega) h0 (by have:=hml;simp only [maxLen] at this;omega) (by omega)
 rw [hmn] at hrun
 have h':Own B w0 F0 F O H w.drew:=h.keep (Below.refl _ w).drew
 have hzc:z.cells.size=i.size:=by rw [(hz.cells (yL hf)).1];exact hk
 have hge:=grownCap_ge w m.toNat 0 e
 have hcm:=grownCap_le_maxLen w m.toNat 0 e hml
 have hsz:(Builtin.zeroCells z.cells m.toNat++Builtin.zeroCells z.cells (grownCap w m.toNat 0 e - m.toNat)).size=grownCap w m.toNat 0 e * i.size:=by
  simp only [Array.size_append,size_zeroCells,hzc]
  rw [<- Nat.add_mul]
  congr 1
  omega
 refine ⟨_,_,hrun,mks_run (w:=w.drew) h' ne hz hk hf hge hcm hsz fun x hx=>?_⟩
 by_cases hxl:x < m.toNat * i.size
 ·rw [Array.getElem?_append_left (by rw [size_zeroCells,hzc];exact hxl),zeroCells_at _ _ _ (by rw [hzc];exact hxl),hzc]
 ·have hle : m.toNat * i.size <= x := by omega
  have hlt:x - m.toNat * i.size < (grownCap w m.toNat 0 e - m.toNat) * i.size:=by
   rw [Nat.sub_mul];omega
  rw [Array.getElem?_append_right (by rw [size_zeroCells,hzc];exact hle),size_zeroCells,hzc,zeroCells_at _ _ _ (by rw [hzc];exact hlt),hzc]
  congr 1
  have:x=x - m.toNat * i.size+i.size * m.toNat:=by rw [Nat.mul_comm i.size];omega
  rw [show x % i.size=(x - m.toNat * i.size+i.size * m.toNat) % i.size from by rw [<- this],Nat.add_mul_mod_self_left]
theorem fold_set (l : List Value) : ∀ (s off : Nat) (cells : Array Value), off + s + l.length <= cells.size ->
  ((l.zipIdx s).foldl (fun cs (p:Value × Nat)=>cs.setIfInBounds (off+p.2) p.1) cells).size=cells.size /\
  ∀ x,((l.zipIdx s).foldl (fun cs (p:Value × Nat)=>cs.setIfInBounds (off+p.2) p.1) cells)[x]? = if off+s<=x/\x < off+s+l.length then l[x - (off+s)]? else cells[x]?:=by
 induction l with
 | nil=>intro s off cells h;exact ⟨rfl,fun x=>by simp;intro h1 h2;omega⟩
 | cons v l ih =>
  intro s off cells h
  simp only [List.length_cons] at h
  obtain ⟨q1,q2⟩:=ih (s+1) off (cells.setIfInBounds (off+s) v) (by simp;omega)
  simp only [List.zipIdx_cons,List.foldl_cons]
  refine ⟨by rw [q1];simp,fun x=>?_⟩
  rw [q2 x]
  by_cases hx:off+(s+1)<=x/\x < off+(s+1)+l.length
  ·rw [if_pos hx, if_pos (by simp only [List.length_cons]; omega)]
   rw [show x - (off+s)=(x - (off+(s+1)))+1 from by omega]
   simp
  ·rw [if_neg hx]
   by_cases hx2:x=off+s
   ·subst hx2
    rw [if_pos (by simp only [List.length_cons];omega)]
    simp [Array.getElem?_setIfInBounds]
    omega
   ·rw [if_neg (by simp only [List.length_cons];omega),Array.getElem?_setIfInBounds_ne (by omega)]
theorem fold_arr (v : Value) (off : Nat) (cells : Array Value) (h : off + v.cells.size <= cells.size) :
  (v.cells.zipIdx.foldl (fun cs (c,j)=>cs.setIfInBounds (off+j) c) cells).size=cells.size /\
  ∀ x,(v.cells.zipIdx.foldl (fun cs (c,j)=>cs.setIfInBounds (off+j) c) cells)[x]? = if off<=x/\x < off+v.cells.size then v.cells[x - off]? else cells[x]?:=by
 obtain ⟨q1,q2⟩:=fold_set v.cells.toList 0 off cells (by simpa using h)
 have e:v.cells.zipIdx.foldl (fun cs (c,j)=>cs.setIfInBounds (off+j) c) cells=(v.cells.toList.zipIdx 0).foldl (fun cs (p:Value × Nat)=>cs.setIfInBounds (off+p.2) p.1) cells:=by
  rw [<- Array.foldl_toList,Array.toList_zipIdx]
 rw [e]
 refine ⟨q1,fun x=>?_⟩
 rw [q2 x]
 simp
theorem fill_ok (XJ : Nat -> Option (Nat × Nat)) : ∀ (ps : List (Nat × Value)) (qs : List (Nat × Nat × AV)) (cells : Array Value) (as_ cs' : List AV), ps.length = qs.length ->
  (∀ (i:Nat) (p:Nat × Value) (q:Nat × Nat × AV),ps[i]? = some p->qs[i]? = some q->XJ p.1=some (q.1,q.2.1)/\VR F O p.2 q.2.2) ->
  cells.size=as_.length->(∀ a ∈ as_,a.one=true)->(∀ (i:Nat) (c:Value) (a:AV),cells[i]? = some c->as_[i]? = some a->VR F O c a)->zu as_ qs=some cs' ->
  ∃ out,Instr.fill XJ cells ps=some out/\out.size=cs'.length/\(∀ a ∈ cs',a.one=true)/\∀ (i:Nat) (c:Value) (a:AV),out[i]? = some c->cs'[i]? = some a->VR F O c a
 | [],[],cells,as_,cs',_,_,hl,h1,hv,hf=>by
  cases hf
  exact ⟨cells,rfl,hl,h1,hv⟩
 | [],_::_,_,_,_,h,_,_,_,_,_=>by simp at h
 | _::_,[],_,_,_,h,_,_,_,_,_=>by simp at h
 | (pi,v)::ps,(off,n,va)::qs,cells,as_,cs',hlen,hp,hl,h1,hv,hf=>by
  obtain ⟨g1,g2⟩:=hp 0 _ _ rfl rfl
  simp only at g1 g2
  simp only [zu] at hf
  split at hf
  ·rename_i hc
   obtain ⟨c1,c2,c3⟩:=hc
   obtain ⟨z1,z2,z3⟩:=g2.cells (yL c3)
   have hvs:v.cells.size=n:=by rw [z1,c1]
   obtain ⟨s1,s2⟩:=fold_arr v off cells (by rw [hvs,hl];exact c2)
   have hbig:¬ (v.cells.size ≠ n\/off+v.cells.size > cells.size):=by rw [hvs,hl];omega
   have l1:(as_.take off).length=off:=by simp;omega
   obtain ⟨out, o1, o2⟩ := fill_ok XJ ps qs _ (as_.take off ++ va.cells ++ as_.drop (off + n)) cs' (by simpa using hlen) (fun i p q hpi hqi => hp (i + 1) p q hpi hqi) (by rw [s1, hl]; simp; omega) (fun a ha => by
     rcases List.mem_append.1 ha with ha|ha
     ·rcases List.mem_append.1 ha with ha | ha
      ·exact h1 a (List.mem_of_mem_take ha)
      ·exact z2 a ha
     ·exact h1 a (List.mem_of_mem_drop ha)) (fun i c a hci hai=>by
     rw [s2 i] at hci
     by_cases hi:i < off
     ·rw [if_neg (by omega)] at hci
      rw [List.append_assoc,List.getElem?_append_left (by omega),List.getElem?_take,if_pos hi] at hai
      exact hv i c a hci hai
     ·by_cases hi2 : i < off + n
      ·rw [if_pos ⟨by omega, by omega⟩] at hci
       rw [List.getElem?_append_left (by simp;omega),List.getElem?_append_right (by omega),l1] at hai
       obtain ⟨c',e1,e2⟩:=z3 _ _ hai
       rw [e1] at hci
       cases hci
       exact e2
      ·rw [if_neg (by omega)] at hci
       rw [List.getElem?_append_right (by simp;omega),List.getElem?_drop] at hai
       simp only [List.length_append,l1,c1] at hai
       rw [show off+n+(i - (off+n))=i from by omega] at hai
       exact hv i c a hci hai) hf
   refine ⟨out,?_,o2⟩
   simp only [Instr.fill,g1]
   have hb:(decide (v.cells.size ≠ n) || decide (off+v.cells.size > cells.size))=false:=by simp;omega
   simp only [hb,Bool.false_eq_true,if_false]
   exact o1
  ·cases hf
theorem Xj {k : Nat} : ∀ (vs : List Value) (s : Nat) (cells : Array Value), (∀ v ∈ vs, v.cells.size = k) -> (s + vs.length) * k <= cells.size ->
  ∃ out,Instr.fill (fun i=>some (i * k,k)) cells ((vs.zipIdx s).map fun p=>(p.2,p.1))=some out/\out.size=cells.size/\(∀ x,x < s * k->out[x]? = cells[x]?)/\∀ (i:Nat) (v:Value),vs[i]? = some v->∀ j,j < k->out[(s+i) * k+j]? = v.cells[j]?
 | [],s,cells,_,_=>⟨cells,rfl,rfl,fun _ _=>rfl,fun i v hv=>by simp at hv⟩
 | v::vs,s,cells,hk,hs=>by
  have hv:=hk v (by simp)
  have hs':s * k+k<=cells.size:=by
   have:=Nat.mul_le_mul_right k (show s+1<=s+(v::vs).length by simp)
   rw [Nat.add_mul,Nat.one_mul] at this
   omega
  obtain ⟨f1,f2⟩:=fold_arr v (s * k) cells (by rw [hv];exact hs')
  obtain ⟨out,o1,o2,o3,o4⟩:=Xj vs (s+1) _ (fun u hu=>hk u (by simp [hu])) (by rw [f1];rw [show s+1+vs.length=s+(v::vs).length from by simp;omega];exact hs)
  refine ⟨out,?_,o2.trans f1,fun x hx=>?_,fun i u hu j hj=>?_⟩
  ·simp only [List.zipIdx_cons,List.map_cons,Instr.fill]
   have hb:(decide (v.cells.size ≠ k) || decide (s * k+v.cells.size > cells.size))=false:=by simp;omega
   simp only [hb,Bool.false_eq_true,if_false]
   exact o1
  ·rw [o3 x (by rw [Nat.add_mul];omega),f2 x,if_neg (by omega)]
  ·cases i with
   | zero =>
    simp at hu
    subst hu
    rw [Nat.add_zero,o3 _ (by rw [Nat.add_mul];omega),f2,if_pos (by omega)]
    congr 1
    omega
   | succ i =>
    have:=o4 i u (by simpa using hu) j hj
    rw [show s+(i+1)=s+1+i from by omega]
    exact this
theorem bsl_run (h : Own B w0 F0 F O H w) {e : TypeId} (ne : e ≠ ZZ) {vs : List Value} {as_ : List AV} (hl : vs.length = as_.length) (hv : ∀ (i : Nat) (c : Value) (a : AV), vs[i]? = some c -> as_[i]? = some a -> VR F O c a) {k : Nat} (hk : ∀ a ∈ as_, a.cells.length = k /\ a.fine = true)
  (hm:as_.length<=maxLen) {cs:Array Value} (hs:cs.size=as_.length * k) (hcs:∀ (i:Nat) (v:Value),vs[i]? = some v->∀ j,j < k->cs[i * k+j]? = v.cells[j]?) :
  Out B w0 F0 F O (.ol H.length 0 as_.length) (H++[⟨e,k,as_,0,0⟩]) (.slice (some ⟨w.heap.size,0,none⟩) as_.length as_.length) (w.alloc (.cells cs e)):=by
 refine ⟨F,O++[⟨w.heap.size,as_.length,0,k⟩],?_,h.push (w1:=w) (Below.refl _ w) rfl ne hm (Nat.le_refl _) hs (fun y hy=>(hk y hy).1) (fun y hy=>fine_one (hk y hy).2) ?_,Fz.le_refl F,Ow.le_push O _⟩
 ·exact .ol _ H.length 0 as_.length ⟨w.heap.size,as_.length,0,k⟩ (by rw [<- h.len];simp) (Nat.le_refl _) ⟨_,_,rfl⟩ fun _=>⟨Nat.le_refl _,rfl⟩
 ·intro n j y u hy hu
  have hn:=(List.getElem?_eq_some_iff.1 hy).1
  have hmem:=hk y (List.mem_of_getElem? hy)
  have hj:j < k:=by rw [<- hmem.1];exact (List.getElem?_eq_some_iff.1 hu).1
  have hvn:vs[n]? = some (vs[n]'(by omega)):=List.getElem?_eq_getElem (by omega)
  obtain ⟨z1,z2,z3⟩:=(hv n _ y hvn hy).cells (yL hmem.2)
  obtain ⟨c,g1,g2⟩:=z3 j u hu
  exact ⟨c,by rw [hcs n _ hvn j hj];exact g1,g2⟩
end
def Y5 (P:Program) (fs:Array Field):List (Nat × Operand)->Option (List (Nat × Nat × AX))
 | []=>some []
 | (i,x)::rest =>
  match fs[i]? with
  | some f =>
   match P.info? f.type,cx P f.type x,Y5 P fs rest with
   | some fi,some a,some qs=>some ((f.offset,fi.size,a)::qs)
   | _,_,_=>none
  | none=>none
def wB (P:Program) (e:TypeId):Nat->List (Nat × Operand)->Option (List AX)
 | _,[]=>some []
 | s,(i,x)::rest =>
  if i=s then
   match cx P e x,wB P e (s+1) rest with
   | some a,some as_=>some (a::as_)
   | _,_=>none
  else none
def cxo (P:Program) (t:TypeId):Option Operand->Option (Option AX)
 | none=>some none
 | some x=>(match cx P t x with|some a=>some (some a)|none=>none)
def Zs (P:Program) (f:FuncId):Bool :=
 match P.funcs[f]? with
 | some fn=>fn.body.isSome && fn.name != "runtime.NumGoroutine"
 | none=>false
def xy (P:Program) (e:TypeId):Option TypeInfo:=if (e == 4000000000)=true then none else P.info? e
theorem yW {P:Program} {e:TypeId} {i:TypeInfo} (h:xy P e=some i):e ≠ ZZ/\P.info? e=some i:=by
 unfold xy at h
 split at h
 ·cases h
 ·rename_i hn;exact ⟨by simpa using hn,h⟩
def Zg (P:Program) (hs:List FuncId) (o:Oper):Option AOp :=
 match o.op with
 | .move x|.assign x=>(match cx P o.type x with|some a=>some (.mv a)|none=>none)
 | .pick c a b=>(match cx P 0 c,cx P o.type a,cx P o.type b with|some c,some a,some b=>some (.pick c a b)|_,_,_=>none)
 | .alloc e=>(match xy P e with|some i=>(match i.zero with|some z=>(match xA P e z with|some a=>some (.new e i.size (.c a))|none=>none)|none=>none)|none=>none)
 | .box e x=>(match xy P e,cx P e x with|some i,some a=>some (.new e i.size a)|_,_=>none)
 | .build t parts =>
  (match P.underlying t,P.info? t with
   | some (.struct fs),some i =>
    (match i.zero with
     | some z=>(match xA P t z,Y5 P fs parts.toList,fs.toList.mapM (fun f=>(P.info? f.type).map fun i=>(f.offset,i.size)) with|some (.agg zc),some qs,some _=>some (.bld zc qs)|_,_,_=>none)
     | none=>none)
   | _,_=>none)
 | .buildSlice t len parts =>
  (match P.underlying t with
   | some (.slice e) =>
    (match xy P e,wB P e 0 parts.toList with
     | some i,some as_=>(match i.zero with|some _=>if len=parts.size then some (.bsl e i.size as_) else none|none=>none)
     | _,_=>none)
   | _=>none)
 | .load t x=>(match P.info? t,P.underlying t,cx P 0 x with|some i,some d,some a=>some (.load (ZQ d) i.size a)|_,_,_=>none)
 | .store t x v=>(match P.info? t,cx P 0 x,cx P t v with|some i,some a,some b=>some (.store i.size a b)|_,_,_=>none)
 | .nilCheck x=>(match cx P 0 x with|some a=>some (.nilc a)|none=>none)
 | .binOp op t x y u=>(match cx P t x,cx P u y with|some a,some b=>(match eqNeg op,eqOf P t with|some ng,some ks=>some (.eqs ng ks a b)|_,_=>some (.bin op t (match P.underlying t with|some (.pointer _)=>true|_=>false) x y a b))|_,_=>none)
 | .unOp op t x=>(match cx P t x with|some a=>some (.un op a)|none=>none)
 | .convert s d x=>(match cx P s x with|some a=>some (.cv s d a)|none=>none)
 | .makeSlice t l c =>
  (match P.underlying t with
   | some (.slice e) =>
    (match xy P e,cx P 0 l,cx P 0 c with
     | some i,some l,some c=>(match i.zero with|some z=>(match xA P e z with|some za=>if za.cells.length=i.size/\za.fine=true then some (.mks e i.size i.bytes za l c) else none|none=>none)|none=>none)
     | _,_,_=>none)
   | _=>none)
 | .slice t x lo hi none =>
  (match P.underlying t with
   | some .string=>(match cx P t x,cxo P 0 lo,cxo P 0 hi with|some a,some l,some h=>some (.sls t a l h)|_,_,_=>none)
   | some (.slice e)=>(match P.info? e,cx P t x,cxo P 0 lo,cxo P 0 hi with|some i,some a,some l,some h=>some (.slc i.size a l h)|_,_,_,_=>none)
   | _=>none)
 | .fieldAddr s x f =>
  (match P.underlying s with
   | some (.struct fs)=>(match fs[f]? with|some fd=>(match P.info? fd.type,cx P 0 x with|some fi,some a=>if fi.size=0 then none else some (.fad fd.offset a)|_,_=>none)|none=>none)
   | _=>none)
 | .field t x f =>
  (match P.underlying t with
   | some (.struct fs)=>(match fs[f]? with|some fd=>(match P.info? fd.type,P.underlying fd.type,cx P t x with|some fi,some d,some a=>some (.fld (ZQ d) fd.offset fi.size a)|_,_,_=>none)|none=>none)
   | _=>none)
 | .indexAddr t x i =>
  (match P.underlying t with
   | some (.slice e)=>(match P.info? e,cx P t x,cx P 0 i with|some ei,some a,some b=>some (.iad ei.size a b)|_,_,_=>none)
   | some (.array n e)=>(match P.info? e,cx P 0 x,cx P 0 i with|some ei,some a,some b=>some (.iaa n ei.size a b)|_,_,_=>none)
   | _=>none)
 | .index t x i =>
  (match P.underlying t with
   | some .string=>(match cx P t x,cx P 0 i with|some a,some b=>some (.idx t a b)|_,_=>none)
   | some (.array n e)=>(match P.info? e,P.underlying e,cx P t x,cx P 0 i with|some ei,some d,some a,some b=>some (.ixa (ZQ d) n ei.size a b)|_,_,_,_=>none)
   | _=>none)
 | .makeMap t none=>(match P.underlying t with|some (.map _ _)=>some .mkm|_=>none)
 | .lookup t x i c =>
  (match P.underlying t with
   | some (.map k e) =>
    (match yk P k,P.info? e,cx P t x,cx P k i with
     | some kd,some inf,some a,some b=>(match inf.zero with|some z=>(match xA P e z with|some za=>some (.lkp kd c za a b)|none=>none)|none=>none)
     | _,_,_,_=>none)
   | _=>none)
 | .mapUpdate t x i v =>
  (match P.underlying t with
   | some (.map k e)=>(match yk P k,cx P t x,cx P k i,cx P e v with|some kd,some a,some b,some c=>some (.mup kd a b c)|_,_,_,_=>none)
   | _=>none)
 | .makeInterface t x=>(match P.underlying t with|some (.pointer _)=>(match cx P 0 x with|some a=>some (.mki t a)|none=>none)|_=>none)
 | .makeFunc (.method nm) first cap=>(match first.toList,cap.size with|[x],0=>(match cx P 0 x with|some a=>some (.mkm2 nm a)|none=>none)|_,_=>none)
 | .extract x i=>(match cx P 0 x with|some a=>some (.ext a i)|none=>none)
 | .makeFunc (.func f) first cap=>if first.size=0 then (match cxs P ((cap.toList.map fun _=>(0:TypeId)).zip cap.toList) with|some as_=>some (.mkf f as_)|none=>none) else none
 | .call c =>
  match c.callee with
  | .value (.tmp t)=>(match cxs P (c.argTypes.toList.zip c.args.toList) with|some as_=>if c.argTypes.size=c.args.size then some (.callv (.t t) as_) else none|none=>none)
  | .value (.func f)=>if Zs P f then (match cxs P (c.argTypes.toList.zip c.args.toList) with|some as_=>if c.argTypes.size=c.args.size then some (if hs.contains f then .callh f as_ else if hs.contains (f+1000000) then .callm f as_ else .call f as_) else none|none=>none) else none
  | .builtin .append =>
   (match c.argTypes.toList,c.args.toList with
    | [t,u],[s,x] =>
     if t=u then
      (match P.underlying t with
       | some (.slice e)=>(match xy P e,cx P t s,cx P t x with|some i,some a,some b=>(match i.zero with|some z=>if z.cells.size=i.size/\0 < i.size then some (.app e i.size i.bytes a b) else none|none=>none)|_,_,_=>none)
       | _=>none)
     else
      (match P.underlying t,P.underlying u with
       | some (.slice e),some (.int _)=>(match xy P e,cx P t s,cx P u x with|some i,some a,some b=>(match i.zero with|some z=>(match xA P e z with|some za=>if za.cells.length=i.size/\za.fine=true/\0 < i.size then some (.apz e i.size i.bytes za a b) else none|none=>none)|none=>none)|_,_,_=>none)
       | _,_=>none)
    | _,_=>none)
  | .builtin .copy =>
   (match c.argTypes.toList,c.args.toList with
    | [t,u],[d,x] =>
     if t=u then
      (match P.underlying t with
       | some (.slice e)=>(match P.info? e,cx P t d,cx P t x with|some i,some a,some b=>if 0 < i.size then some (.cpy i.size a b) else none|_,_,_=>none)
       | _=>none)
     else none
    | _,_=>none)
  | .builtin .len =>
   (match c.argTypes.toList,c.args.toList with
    | [t],[x]=>(match P.underlying t,cx P t x with|some .string,some a=>some (.lns a)|some (.slice _),some a=>some (.len a)|some (.map _ _),some a=>some (.lnm a)|_,_=>none)
    | _,_=>none)
  | .builtin b=>(match cxs P (c.argTypes.toList.zip c.args.toList) with|some as_=>if c.argTypes.size=c.args.size then some (.bi b c.argTypes o.type (c.args.map fun|.const _=>true|_=>false) as_) else none|none=>none)
  | .invoke rc nm=>(match cx P 0 rc,cxs P (c.argTypes.toList.zip c.args.toList) with|some x,some as_=>if c.argTypes.size=c.args.size then some (.calli nm x as_) else none|_,_=>none)
  | _=>none
 | _=>none
def yP (P:Program) (hs:List FuncId) (o:Oper):AOp:=(Zg P hs o).getD .bad
def Good (P:Program) (B:Bd) (w0:World) (F0 F:Fz) (O:Ow) (w:World) (s:Sem Next) (r:AV) (H':Hp):Prop :=
 ∃ nx w',s.run P w = .ok nx w'/\∃ x,(nx = .value x\/(nx = .skip/\x=undef))/\Out B w0 F0 F O r H' x w'
section
variable {P:Program} {B:Bd} {w0 w:World} {F0 F:Fz} {O:Ow} {H:Hp}
theorem ZR {s:Sem Value} {x:Value} {w':World} {r:AV} {H':Hp} (h:s.run P w = .ok x w') (ho:Out B w0 F0 F O r H' x w'):Good P B w0 F0 F O w (do pure (.value (<- s))) r H' :=
 ⟨.value x,w',by simp [h],x,.inl rfl,ho⟩
theorem ap1_ok {f:Value->Sem Value} (h:Own B w0 F0 F O H w) {x:Value} {a r:AV} (hx:VR F O x a) (he:ap1 (fun v=>zR P (f v)) a=some r):∃ y,(f x).run P w = .ok y w/\VR F O y r:=by
 unfold ap1 at he
 split at he
 ·rename_i v hc
  obtain rfl:=yM hx hc
  split at he
  ·rename_i u hu
   exact ⟨u,yC _ hu w,Yj he⟩
  ·cases he
 ·cases he
theorem ap2_ok {f:Value->Value->Sem Value} (h:Own B w0 F0 F O H w) {x y:Value} {a b r:AV} (hx:VR F O x a) (hy:VR F O y b) (he:ap2 (fun v u=>zR P (f v u)) a b=some r):∃ z,(f x y).run P w = .ok z w/\VR F O z r:=by
 unfold ap2 at he
 split at he
 ·rename_i v u hc hd
  obtain rfl:=yM hx hc
  obtain rfl:=yM hy hd
  split at he
  ·rename_i u hu
   exact ⟨u,yC _ hu w,Yj he⟩
  ·cases he
 ·cases he
theorem isPtr_ok (h:Own B w0 F0 F O H w) {x:Value} {a:AV} (hx:VR F O x a) (hp:zk H a=true):∃ ad,x = .pointer (some ad):=by
 cases a with
 | ad k es i off=>have:=hx.pvC rfl;cases this;exact ⟨_,rfl⟩
 | oa i g e off =>
  simp only [zk,Option.isSome_iff_exists] at hp
  obtain ⟨ob,hl⟩:=hp
  obtain ⟨d,_,_,_,rfl⟩:=h.oa hx hl
  exact ⟨_,rfl⟩
 | _=>cases hp
theorem Y0 {x:Value} {a:AV} (hx:VR F O x a) (hp:zb a=true):x = .pointer none:=by
 cases a with
 | v y =>
  have:=hx.pvC rfl
  cases this
  cases x with
  | pointer q=>cases q with
   | none=>rfl
   | some q=>cases hp
  | _=>cases hp
 | _=>cases hp
theorem eq_ptr {t e:TypeId} (ht:P.underlying t=some (.pointer e)) (ad:Addr):(Op.equal t (.pointer (some ad)) (.pointer none)).run P w = .ok false w/\(Op.equal t (.pointer none) (.pointer (some ad))).run P w = .ok false w:=by
 constructor
 ·rw [show Op.equal t (.pointer (some ad)) (.pointer none) = Op.equalIn (9999 + 1) t (.pointer (some ad)) (.pointer none) from rfl, Op.equalIn]
  simp only [Sem.run_bind,run_underlying ht,Result.andThen_ok]
  rfl
 ·rw [show Op.equal t (.pointer none) (.pointer (some ad)) = Op.equalIn (9999 + 1) t (.pointer none) (.pointer (some ad)) from rfl, Op.equalIn]
  simp only [Sem.run_bind,run_underlying ht,Result.andThen_ok]
  rfl
theorem bin_ptr {op : BinOp} {t e : TypeId} (ht : P.underlying t = some (.pointer e)) {xo yo : Operand} (ad : Addr) {x y : Value} (hxy : (x = .pointer (some ad) /\ y = .pointer none) \/ (y = .pointer (some ad) /\ x = .pointer none)) :
  (do eqGuard .eql t xo yo x y;binOp .eql t x y:Sem Value).run P w = .ok (.bool false) w/\(do eqGuard .neq t xo yo x y;binOp .neq t x y:Sem Value).run P w = .ok (.bool true) w:=by
 have h1:=(eq_ptr (P:=P) (w:=w) ht ad).1
 have h2:=(eq_ptr (P:=P) (w:=w) ht ad).2
 rcases hxy with ⟨rfl,rfl⟩|⟨rfl,rfl⟩
 ·constructor
  ·show (do eqGuard .eql t xo yo (.pointer (some ad)) (.pointer none); (do pure (.bool (<- Op.equal t (.pointer (some ad)) (.pointer none))) : Sem Value) : Sem Value).run P w = _
   generalize Op.equal t (.pointer (some ad)) (.pointer none)=q at *
   simp [eqGuard,h1]
  ·show (do eqGuard .neq t xo yo (.pointer (some ad)) (.pointer none); (do pure (.bool (!(<- Op.equal t (.pointer (some ad)) (.pointer none)))) : Sem Value) : Sem Value).run P w = _
   generalize Op.equal t (.pointer (some ad)) (.pointer none)=q at *
   simp [eqGuard,h1]
 ·constructor
  ·show (do eqGuard .eql t xo yo (.pointer none) (.pointer (some ad)); (do pure (.bool (<- Op.equal t (.pointer none) (.pointer (some ad)))) : Sem Value) : Sem Value).run P w = _
   generalize Op.equal t (.pointer none) (.pointer (some ad))=q at *
   simp [eqGuard,h2]
  ·show (do eqGuard .neq t xo yo (.pointer none) (.pointer (some ad)); (do pure (.bool (!(<- Op.equal t (.pointer none) (.pointer (some ad))))) : Sem Value) : Sem Value).run P w = _
   generalize Op.equal t (.pointer none) (.pointer (some ad))=q at *
   simp [eqGuard,h2]
theorem nil_nil {t e : TypeId} (ht : P.underlying t = some (.pointer e)) {xo yo : Operand} :
  (do eqGuard .eql t xo yo (.pointer none) (.pointer none);binOp .eql t (.pointer none) (.pointer none):Sem Value).run P w = .ok (.bool true) w/\(do eqGuard .neq t xo yo (.pointer none) (.pointer none);binOp .neq t (.pointer none) (.pointer none):Sem Value).run P w = .ok (.bool false) w:=by
 have h1:(Op.equal t (.pointer none) (.pointer none)).run P w = .ok true w:=by
  rw [show Op.equal t (.pointer none) (.pointer none)=Op.equalIn (9999+1) t (.pointer none) (.pointer none) from rfl,Op.equalIn]
  simp only [Sem.run_bind,run_underlying ht,Result.andThen_ok]
  rfl
 constructor
 ·show (do eqGuard .eql t xo yo (.pointer none) (.pointer none); (do pure (.bool (<- Op.equal t (.pointer none) (.pointer none))) : Sem Value) : Sem Value).run P w = _
  generalize Op.equal t (.pointer none) (.pointer none)=q at *
  simp [eqGuard,h1]
 ·show (do eqGuard .neq t xo yo (.pointer none) (.pointer none); (do pure (.bool (!(<- Op.equal t (.pointer none) (.pointer none)))) : Sem Value) : Sem Value).run P w = _
  generalize Op.equal t (.pointer none) (.pointer none)=q at *
  simp [eqGuard,h1]
theorem isRow_ok (h:Own B w0 F0 F O H w) {x:Value} {a:AV} (hx:VR F O x a) (hp:Yl H a=true):∃ ad n c,x = .slice (some ad) n c:=by
 cases a with
 | ol i g n =>
  simp only [Yl,Option.isSome_iff_exists] at hp
  obtain ⟨ob,hl⟩:=hp
  obtain ⟨d,_,_,_,_,rfl⟩:=h.ol hx hl
  exact ⟨_,_,_,rfl⟩
 | sl k es =>
  have:=hx.pvC rfl
  cases this with
  | sl A n cap _ _ hn hc hm hk h1 b o hA f hf hv =>
   have:0 < es.length:=by
    cases es with
    | nil=>simp [Yl] at hp
    | cons _ _=>simp
   exact ⟨_,_,_,by rw [hA (by omega)]⟩
 | em b k =>
  cases hx with
  | p h=>cases h
  | em A c b k hb hm =>
   simp only [Yl] at hp
   rw [hp] at hb
   obtain ⟨ad,rfl⟩:=Option.isSome_iff_exists.1 hb
   exact ⟨ad,0,c,rfl⟩
 | _=>cases hp
theorem isNi_ok {x:Value} {a:AV} (hx:VR F O x a) (hp:isNi a=true):∃ c,x = .slice none 0 c:=by
 cases a with
 | nl k=>cases hx with
  | p h=>cases h
  | nl=>exact ⟨0,rfl⟩
 | em b k =>
  cases hx with
  | p h=>cases h
  | em A c b k hb hm =>
   simp only [isNi] at hp
   subst hp
   cases A with
   | none=>exact ⟨c,rfl⟩
   | some ad=>simp at hb
 | _=>cases hp
theorem xK {x:Value} {a:AV} (hx:VR F O x a) (hp:Wp a=true):x = .slice none 0 0:=by
 cases a with
 | nl k=>cases hx with
  | p h=>cases h
  | nl=>rfl
 | _=>cases hp
theorem eq_sl {t e:TypeId} (ht:P.underlying t=some (.slice e)) (ad:Addr) (n c:Nat):(Op.equal t (.slice (some ad) n c) (.slice none 0 0)).run P w = .ok false w/\(Op.equal t (.slice none 0 0) (.slice (some ad) n c)).run P w = .ok false w:=by
 constructor
 ·rw [show Op.equal t (.slice (some ad) n c) (.slice none 0 0) = Op.equalIn (9999 + 1) t (.slice (some ad) n c) (.slice none 0 0) from rfl, Op.equalIn]
  simp only [Sem.run_bind,run_underlying ht,Result.andThen_ok]
  rfl
 ·rw [show Op.equal t (.slice none 0 0) (.slice (some ad) n c) = Op.equalIn (9999 + 1) t (.slice none 0 0) (.slice (some ad) n c) from rfl, Op.equalIn]
  simp only [Sem.run_bind,run_underlying ht,Result.andThen_ok]
  rfl
theorem bin_sl {t e : TypeId} (ht : P.underlying t = some (.slice e)) {xo yo : Operand} (ad : Addr) (n c : Nat) {x y : Value} (hxy : (x = .slice (some ad) n c /\ y = .slice none 0 0) \/ (y = .slice (some ad) n c /\ x = .slice none 0 0)) :
  (do eqGuard .eql t xo yo x y;binOp .eql t x y:Sem Value).run P w = .ok (.bool false) w/\(do eqGuard .neq t xo yo x y;binOp .neq t x y:Sem Value).run P w = .ok (.bool true) w:=by
 have h1:=(eq_sl (P:=P) (w:=w) ht ad n c).1
 have h2:=(eq_sl (P:=P) (w:=w) ht ad n c).2
 rcases hxy with ⟨rfl,rfl⟩|⟨rfl,rfl⟩
 ·constructor
  ·show (do eqGuard .eql t xo yo (.slice (some ad) n c) (.slice none 0 0); (do pure (.bool (<- Op.equal t (.slice (some ad) n c) (.slice none 0 0))) : Sem Value) : Sem Value).run P w = _
   generalize Op.equal t (.slice (some ad) n c) (.slice none 0 0)=q at *
   simp [eqGuard,h1]
  ·show (do eqGuard .neq t xo yo (.slice (some ad) n c) (.slice none 0 0); (do pure (.bool (!(<- Op.equal t (.slice (some ad) n c) (.slice none 0 0)))) : Sem Value) : Sem Value).run P w = _
   generalize Op.equal t (.slice (some ad) n c) (.slice none 0 0)=q at *
   simp [eqGuard,h1]
 ·constructor
  ·show (do eqGuard .eql t xo yo (.slice none 0 0) (.slice (some ad) n c); (do pure (.bool (<- Op.equal t (.slice none 0 0) (.slice (some ad) n c))) : Sem Value) : Sem Value).run P w = _
   generalize Op.equal t (.slice none 0 0) (.slice (some ad) n c)=q at *
   simp [eqGuard,h2]
  ·show (do eqGuard .neq t xo yo (.slice none 0 0) (.slice (some ad) n c); (do pure (.bool (!(<- Op.equal t (.slice none 0 0) (.slice (some ad) n c)))) : Sem Value) : Sem Value).run P w = _
   generalize Op.equal t (.slice none 0 0) (.slice (some ad) n c)=q at *
   simp [eqGuard,h2]
theorem bin_sn {op : BinOp} {t e : TypeId} (ht : P.underlying t = some (.slice e)) {xo yo : Operand} (c d : Nat) :
  (do eqGuard .eql t xo yo (.slice none 0 c) (.slice none 0 d);binOp .eql t (.slice none 0 c) (.slice none 0 d):Sem Value).run P w = .ok (.bool true) w /\
  (do eqGuard .neq t xo yo (.slice none 0 c) (.slice none 0 d);binOp .neq t (.slice none 0 c) (.slice none 0 d):Sem Value).run P w = .ok (.bool false) w:=by
 have h1:(Op.equal t (.slice none 0 c) (.slice none 0 d)).run P w = .ok true w:=by
  rw [show Op.equal t (.slice none 0 c) (.slice none 0 d)=Op.equalIn (9999+1) t (.slice none 0 c) (.slice none 0 d) from rfl,Op.equalIn]
  simp only [Sem.run_bind,run_underlying ht,Result.andThen_ok]
  rfl
 constructor
 ·show (do eqGuard .eql t xo yo (.slice none 0 c) (.slice none 0 d); (do pure (.bool (<- Op.equal t (.slice none 0 c) (.slice none 0 d))) : Sem Value) : Sem Value).run P w = _
  generalize Op.equal t (.slice none 0 c) (.slice none 0 d)=q at *
  simp [eqGuard,h1]
 ·show (do eqGuard .neq t xo yo (.slice none 0 c) (.slice none 0 d); (do pure (.bool (!(<- Op.equal t (.slice none 0 c) (.slice none 0 d)))) : Sem Value) : Sem Value).run P w = _
  generalize Op.equal t (.slice none 0 c) (.slice none 0 d)=q at *
  simp [eqGuard,h1]
theorem bin_ok (h:Own B w0 F0 F O H w) {op:BinOp} {t:TypeId} {pt:Bool} (hpt:pt=true->∃ e,P.underlying t=some (.pointer e)) {xo yo:Operand} {x y:Value} {a b r:AV} (hx:VR F O x a) (hy:VR F O y b) (he:zO P H op t pt xo yo a b=some r):∃ z,(do eqGuard op t xo yo x y;binOp op t x y:Sem Value).run P w = .ok z w/\VR F O z r:=by
 unfold zO at he
 split at he
 ·rename_i hp
  obtain ⟨e',ht⟩:=hpt hp
  have hxy:((zk H a && zb b) || (zk H b && zb a))=true->∃ ad,(x = .pointer (some ad)/\y = .pointer none)\/(y = .pointer (some ad)/\x = .pointer none):=fun hq=>by
   simp only [Bool.or_eq_true,Bool.and_eq_true] at hq
   rcases hq with ⟨h1,h2⟩|⟨h1,h2⟩
   ·obtain ⟨ad, e⟩ := isPtr_ok h hx h1
    exact ⟨ad,.inl ⟨e,Y0 hy h2⟩⟩
   ·obtain ⟨ad, e⟩ := isPtr_ok h hy h1
    exact ⟨ad,.inr ⟨e,Y0 hx h2⟩⟩
  have hnn:(zb a && zb b)=true->x = .pointer none/\y = .pointer none:=fun hq=>by
   simp only [Bool.and_eq_true] at hq
   exact ⟨Y0 hx hq.1,Y0 hy hq.2⟩
  split at he
  ·split at he
   ·rename_i hq
    cases he
    obtain ⟨rfl,rfl⟩:=hnn hq
    exact ⟨_,(nil_nil ht).1,.p (.v _ rfl)⟩
   ·split at he
    ·rename_i hq
     cases he
     obtain ⟨ad,hh⟩:=hxy hq
     exact ⟨_,(bin_ptr (op:=.eql) ht ad hh).1,.p (.v _ rfl)⟩
    ·cases he
  ·split at he
   ·rename_i hq
    cases he
    obtain ⟨rfl,rfl⟩:=hnn hq
    exact ⟨_,(nil_nil ht).2,.p (.v _ rfl)⟩
   ·split at he
    ·rename_i hq
     cases he
     obtain ⟨ad,hh⟩:=hxy hq
     exact ⟨_,(bin_ptr (op:=.neq) ht ad hh).2,.p (.v _ rfl)⟩
    ·cases he
  ·cases he
 ·split at he
  ·rename_i v u hc hd
   obtain rfl:=yM hx hc
   obtain rfl:=yM hy hd
   split at he
   ·rename_i z hz
    exact ⟨z,yC _ hz w,Yj he⟩
   ·cases he
  ·split at he
   ·rename_i hs
    have ht:∃ e,P.underlying t=some (.slice e):=by
     unfold Xf at hs
     split at hs
     ·exact ⟨_,by assumption⟩
     ·cases hs
    obtain ⟨e,ht⟩:=ht
    unfold Xc at he
    split at he
    ·rename_i hq
     have hxy:∃ ad n c,(x = .slice (some ad) n c/\y = .slice none 0 0)\/(y = .slice (some ad) n c/\x = .slice none 0 0):=by
      simp only [Bool.or_eq_true,Bool.and_eq_true] at hq
      rcases hq with ⟨h1,h2⟩|⟨h1,h2⟩
      ·obtain ⟨ad, n, c, e⟩ := isRow_ok h hx h1
       exact ⟨ad,n,c,.inl ⟨e,xK hy h2⟩⟩
      ·obtain ⟨ad, n, c, e⟩ := isRow_ok h hy h1
       exact ⟨ad,n,c,.inr ⟨e,xK hx h2⟩⟩
     obtain ⟨ad,n,c,hxy⟩:=hxy
     split at he
     ·cases he;exact ⟨_,(bin_sl ht ad n c hxy).1,.p (.v _ rfl)⟩
     ·cases he;exact ⟨_,(bin_sl ht ad n c hxy).2,.p (.v _ rfl)⟩
     ·cases he
    ·split at he
     ·rename_i hq
      have hxy:∃ c d,x = .slice none 0 c/\y = .slice none 0 d:=by
       simp only [Bool.or_eq_true,Bool.and_eq_true] at hq
       rcases hq with ⟨h1,h2⟩|⟨h1,h2⟩
       ·obtain ⟨c, e⟩ := isNi_ok hx h1
        exact ⟨c,_,e,xK hy h2⟩
       ·obtain ⟨c, e⟩ := isNi_ok hy h1
        exact ⟨_,c,xK hx h2,e⟩
      obtain ⟨c,d,rfl,rfl⟩:=hxy
      split at he
      ·cases he;exact ⟨_,(bin_sn (op:=.eql) ht c d).1,.p (.v _ rfl)⟩
      ·cases he;exact ⟨_,(bin_sn (op:=.neq) ht c d).2,.p (.v _ rfl)⟩
      ·cases he
     ·cases he
   ·cases he
theorem xI {t : TypeId} {inf : TypeInfo} {d : TypeDesc} (hi : P.info? t = some inf) (hd : P.underlying t = some d) {x : Value} {a r : AV} {off : Nat} (hx : VR F O x a) (hr : zm (ZQ d) off inf.size a = some r) :
  ∃ cs,x = .agg cs/\∃ y,(part t cs off).run P w = .ok y w/\VR F O y r:=by
 cases a with
 | agg as_ =>
  obtain ⟨xs,rfl,hl,h1,hv⟩:∃ xs:List Value,x = .agg xs.toArray/\xs.length=as_.length/\(∀ a ∈ as_,AV.one a=true)/\∀ (i:Nat) (c:Value) (a:AV),xs[i]? = some c->as_[i]? = some a->VR F O c a:=by
   cases hx with
   | p h=>cases h with
    | agg xs as_ hl h1 h=>exact ⟨xs,rfl,hl,h1,fun i c a hc ha=>.p (h i c a hc ha)⟩
   | agg xs as_ hl h1 h=>exact ⟨xs,rfl,hl,h1,h⟩
  refine ⟨_,rfl,?_⟩
  simp only [zm] at hr
  simp only [part,Sem.run_bind,run_isAgg hd,Result.andThen_ok]
  cases hag:ZQ d
  ·simp only [hag,Bool.false_eq_true,if_false] at hr ⊢
   have hlt:off < xs.length:=by rw [hl];exact (List.getElem?_eq_some_iff.1 hr).1
   refine ⟨xs[off],?_,hv off _ r (List.getElem?_eq_getElem hlt) hr⟩
   simp [hlt]
  ·simp only [hag,if_true] at hr ⊢
   split at hr
   ·rename_i hle
    cases hr
    simp only [Sem.run_bind,ZL hi,Result.andThen_ok]
    refine ⟨.agg ((xs.drop off).take inf.size).toArray,?_,.agg _ _ (by simp;omega) (fun a ha=>h1 a (List.mem_of_mem_drop (List.mem_of_mem_take ha))) fun i c a hc ha=>?_⟩
    ·simp only [Sem.run_pure]
     congr 2
     apply Array.ext'
     simp [List.take_drop]
    ·rw [List.getElem?_take] at hc ha
     split at hc
     ·rename_i hlt
      rw [if_pos hlt,List.getElem?_drop] at ha
      rw [List.getElem?_drop] at hc
      exact hv _ c a hc ha
     ·cases hc
   ·cases hr
 | _=>cases hr
theorem move_ok (h:Own B w0 F0 F O H w) {x:Value} {a r:AV} {off:Nat} (hx:VR F O x a) (hr:zq off H a=some r):∃ ad:Addr,x = .pointer (some ad)/\ad.spot=none/\VR F O (.pointer (some (ad.add off))) r:=by
 cases a with
 | ad k es i o =>
  cases hr
  have:=hx.pvC rfl
  cases this with
  | ad b o' _ _ _ _ hk h1 f hf hc =>
   refine ⟨_,rfl,rfl,.p ?_⟩
   rw [ZM,Nat.add_assoc]
   exact .ad b o' k es i (o+off) hk h1 f hf hc
 | oa i g e o =>
  simp only [zq] at hr
  split at hr
  ·rename_i ob hl
   cases hr
   obtain ⟨d,hd,hio,r,rfl⟩:=h.oa hx hl
   refine ⟨_,rfl,rfl,?_⟩
   rw [ZM]
   have hg:=(ZJ hl).2
   exact .oa _ i g e (o+off) d hd (by rw [r.hg];omega) rfl fun _=>by rw [r.hk,Nat.add_assoc]
  ·cases hr
 | _=>cases hr
theorem mki_ok (h:Own B w0 F0 F O H w) {x:Value} {a r:AV} {t:Nat} (hx:VR F O x a) (hr:X7 t H a=some r):VR F O (.iface t x) r:=by
 cases a with
 | oa i g e o =>
  simp only [X7] at hr
  split at hr
  ·rename_i ob hl
   cases hr
   obtain ⟨d,hd,hio,r,rfl⟩:=h.oa hx hl
   have hg:=(ZJ hl).2
   exact .io _ t i g e o d hd (by rw [r.hg];omega) rfl fun _=>by rw [r.hk]
  ·cases hr
 | _=>cases hr
theorem nil_ok (h:Own B w0 F0 F O H w) {x:Value} {a r:AV} (hx:VR F O x a) (hr:zY H a=some r):r=a/\∃ ad,x = .pointer (some ad):=by
 cases a with
 | ad k es i o=>cases hr;have:=hx.pvC rfl;cases this;exact ⟨rfl,_,rfl⟩
 | oa i g e o =>
  simp only [zY] at hr
  split at hr
  ·rename_i ob hl
   cases hr
   obtain ⟨d,hd,hio,r,rfl⟩:=h.oa hx hl
   exact ⟨rfl,_,rfl⟩
  ·cases hr
 | _=>cases hr
theorem mk2_ok {x:Value} {a r:AV} {nm:String} (hx:VR F O x a) (hr:mk2A nm a=some r):VR F O (.func (.method nm) #[x] #[]) r:=by
 cases a with
 | io t i g e off =>
  cases hr
  cases hx with
  | p h=>cases h
  | io _ _ _ _ _ _ d hd hg h1 hh=>exact .mf _ nm t i g e off d hd hg rfl fun e'=>by rw [hh e']
 | _=>cases hr
theorem run_nah {t:Nat} {nm:String} (h:Wm P t nm=true) (v:Value) (w:World):(nilAhead (P.types.size+Made.depth) t v nm).run P w = .ok (some false) w:=by
 unfold Wm at h
 split at h
 ·rename_i inf hi
  split at h
  ·rename_i m hm
   rw [Bool.and_eq_true,decide_eq_true_eq] at h
   obtain ⟨hp,hf⟩:=h
   split at hf
   ·rename_i f hf'
    have hd0:0 < Made.depth:=by decide
    have hpos:∃ k,P.types.size+Made.depth=k+1:=⟨P.types.size+Made.depth - 1,by omega⟩
    obtain ⟨k,hk⟩:=hpos
    rw [hk]
    simp [nilAhead,typeInfo,program,Sem.run,Sem.run_bind,hi,hm,hp,followBlind,hf']
   ·cases hf
  ·cases h
 ·cases h
theorem nilB_ok (h:Own B w0 F0 F O H w) {x:Value} {a r:AV} (hx:VR F O x a) (hr:XC P H a=some r):r=a/\((∃ ad,x = .pointer (some ad))\/∃ nm t v,x = .func (.method nm) #[.iface t v] #[]/\Wm P t nm=true):=by
 cases a with
 | mf nm t i g e off =>
  simp only [XC] at hr
  split at hr
  ·rename_i ob hl
   split at hr
   ·rename_i hn
    cases hr
    obtain ⟨hi,hg⟩:=ZJ hl
    obtain ⟨d,hd,r⟩:=h.get hi
    cases hx with
    | p h=>cases h
    | mf _ _ _ _ _ _ _ d' hd' hg' h1 hh =>
     rw [hd] at hd'
     cases hd'
     exact ⟨rfl,.inr ⟨nm,t,_,hh (by rw [r.hg,hg]),hn⟩⟩
   ·cases hr
  ·cases hr
 | _ =>
  obtain ⟨e,ad,hx'⟩:=nil_ok h hx hr
  exact ⟨e,.inl ⟨ad,hx'⟩⟩
theorem YH {x:Value} {a:AV} {n:Int} (hx:VR F O x a) (hn:zI a=some n):∃ k,x = .int k n:=by
 cases a with
 | v y =>
  have:=hx.pvC rfl
  cases this
  cases x<;>first|(cases hn;exact ⟨_,rfl⟩)|cases hn
 | _=>cases hn
theorem elem_ok (h : Own B w0 F0 F O H w) {x : Value} {a r : AV} {k : Nat} {ix : Int} (hx : VR F O x a) (hr : zr k H a ix = some r) :
  ∃ ad n c,x = .slice (some ad) n c/\0<=ix/\ix < n/\VR F O (.pointer (some (ad.add (ix.toNat * k)))) r:=by
 cases a with
 | sl k' es =>
  simp only [zr] at hr
  split at hr
  ·rename_i hc
   obtain ⟨rfl,h0,hlt⟩:=hc
   cases hr
   have:=hx.pvC rfl
   cases this with
   | sl A n cap _ _ hn hc hm hk h1 b o hA f hf hv =>
    subst hn
    refine ⟨⟨b,o,none⟩,es.length,cap,by rw [hA (by omega)],h0,by omega,.p ?_⟩
    rw [ZM]
    exact .ad b o k' es ix.toNat 0 hk h1 f hf hv
  ·cases hr
 | ol i g n =>
  simp only [zr] at hr
  split at hr
  ·rename_i ob hl
   split at hr
   ·rename_i hc
    obtain ⟨rfl,h0,hlt⟩:=hc
    cases hr
    obtain ⟨d,hd,hio,r,hnC,rfl⟩:=h.ol hx hl
    refine ⟨_,n,d.C,rfl,h0,by omega,?_⟩
    rw [ZM,Nat.zero_add]
    have hg:=(ZJ hl).2
    exact .oa _ i g ix.toNat 0 d hd (by rw [r.hg];omega) rfl fun _=>by rw [r.hk,Nat.add_zero]
   ·cases hr
  ·cases hr
 | _=>cases hr
theorem len_ok (h:Own B w0 F0 F O H w) {x:Value} {a:AV} {n:Nat} (hx:VR F O x a) (hr:zW H a=some n):∃ A c,x = .slice A n c:=by
 cases a with
 | nl k=>cases hr;cases hx with
  | p h=>cases h
  | nl=>exact ⟨_,_,rfl⟩
 | em b k=>cases hr;cases hx with
  | p h=>cases h
  | em A c=>exact ⟨_,_,rfl⟩
 | sl k es =>
  cases hr
  have:=hx.pvC rfl
  cases this with
  | sl A n cap _ _ hn hc hm hk h1 b o hA f hf hv=>subst hn;exact ⟨A,cap,rfl⟩
 | ol i g m =>
  cases hr
  cases hx with
  | p h=>cases h
  | ol _ _ _ _ d hd hg h1 hh=>exact h1
 | oc i g m c =>
  cases hr
  cases hx with
  | p h=>cases h
  | oc _ _ _ _ _ d hd hg h1 hh=>exact h1
 | _=>cases hr
theorem cut_ok {x : Value} {k : Nat} {es : List AV} {lo hi : Int} {r : AV} (hx : PV F x (.sl k es)) (hr : cut k es lo hi = some r) :
  ∃ A n c,x = .slice A n c/\0<=lo/\lo<=hi/\hi<=n/\n<=c/\n=es.length/\PV F (.slice (if c=lo.toNat then A else A.map (·.add (lo.toNat * k))) (hi.toNat - lo.toNat) (c - lo.toNat)) r:=by
 unfold cut at hr
 split at hr
 ·rename_i hc
  obtain ⟨h0,hlh,hle⟩:=hc
  cases hr
  cases hx with
  | sl A n cap _ _ hn hcap hm hk h1 b o hA f hf hv =>
   subst hn
   refine ⟨A,es.length,cap,rfl,h0,hlh,by omega,hcap,rfl,.sl _ _ _ k _ (by simp;omega) (by omega) (by omega) (fun e he=>hk e (List.mem_of_mem_take (List.mem_of_mem_drop he))) (fun e he=>h1 e (List.mem_of_mem_take (List.mem_of_mem_drop he))) b (o+lo.toNat * k) (fun hpos=>?_)
    (fun i j=>f (lo.toNat+i) j) (fun i j hi hj=>?_) (fun i j e a he ha=>?_)⟩
   ·rw [if_neg (by omega),hA (by omega),Option.map_some,ZM]
   ·have := hf (lo.toNat + i) j (by omega) hj
    rw [<- this]
    congr 1
    rw [Nat.add_mul]
    omega
   ·rw [List.getElem?_drop, List.getElem?_take] at he
    split at he
    ·exact hv _ j e a he ha
    ·cases he
 ·cases hr
end
theorem eqCs_split:∀ {k1 k2:List Kd} {as_ bs:List AV} {r:Bool},Z7 (k1++k2) as_ bs=some r->∃ r1 r2,Z7 k1 (as_.take k1.length) (bs.take k1.length)=some r1/\Z7 k2 (as_.drop k1.length) (bs.drop k1.length)=some r2/\r=(r1 && r2)/\k1.length<=as_.length/\k1.length<=bs.length
 | [],k2,as_,bs,r,h=>⟨true,r,rfl,by simpa using h,by simp,Nat.zero_le _,Nat.zero_le _⟩
 | k::k1,k2,[],bs,r,h=>by simp [Z7] at h
 | k::k1,k2,a::as_,[],r,h=>by simp [Z7] at h
 | k::k1,k2,a::as_,b::bs,r,h=>by
  simp only [List.cons_append,Z7] at h
  split at h
  ·rename_i x y hx hy
   cases h
   obtain ⟨r1,r2,e1,e2,rfl,l1,l2⟩:=eqCs_split hy
   refine ⟨x && r1,r2,?_,by simpa using e2,by rw [Bool.and_assoc],by simpa using l1,by simpa using l2⟩
   simp only [List.length_cons,List.take_succ_cons,Z7,hx,e1]
  ·cases h
section
variable {P:Program} {F:Fz} {O:Ow} {w:World}
theorem vr_v {x y:Value} (h:VR F O x (.v y)):x=y:=yM h rfl
theorem kind_agg {t:TypeId} {k:Kd} {d:TypeDesc} (h:yk P t=some k) (hd:P.underlying t=some d):ZQ d=false:=by
 unfold yk at h
 rw [hd] at h
 cases d<;>first|rfl|cases h
theorem yY (a b:ByteArray):(a.toList == b.toList)=decide (a=b):=by
 rw [ByteArray.toList_eq,ByteArray.toList_eq]
 obtain ⟨⟨x⟩⟩:=a
 obtain ⟨⟨y⟩⟩:=b
 by_cases h:x=y<;>simp [h]
theorem eqC_ok {t:TypeId} {k:Kd} (hk:yk P t=some k) {x y:Value} {a b:AV} {r:Bool} (hx:VR F O x a) (hy:VR F O y b) (hr:eqC k a b=some r) (n:Nat):(Op.equalIn (n+1) t x y).run P w = .ok r w:=by
 unfold eqC at hr
 split at hr
 ·rename_i k1 a k2 b
  split at hr
  ·rename_i hkk
   subst hkk
   cases hr
   cases vr_v hx
   cases vr_v hy
   unfold yk at hk
   split at hk<;>try (cases hk;done)
   ·rename_i hu
    rw [run_equalIn_int w n t k1 _ a b hu]
    rfl
  ·cases hr
 ·cases hr
  rename_i a b
  cases vr_v hx
  cases vr_v hy
  unfold yk at hk
  split at hk<;>try (cases hk;done)
  ·rename_i hu
   rw [run_equalIn_string w n t a b hu,yY]
 ·cases hr
  rename_i a b
  cases vr_v hx
  cases vr_v hy
  unfold yk at hk
  split at hk<;>try (cases hk;done)
  ·rename_i hu
   rw [run_equalIn_bool' w n t a b hu]
   done
 ·cases hr
theorem eqIn_ok : ∀ (d : Nat) (t : TypeId) (ks : List Kd), XM P d t = some ks -> ∀ (n : Nat) (x y : Value) (a b : AV) (r : Bool), d <= n -> VR F O x a -> VR F O y b ->
  ((∃ dd,P.underlying t=some dd/\ZQ dd=true/\(∃ as_,a = .agg as_)/\(∃ bs,b = .agg bs))\/(∃ dd,P.underlying t=some dd/\ZQ dd=false/\a.one=true/\b.one=true))->Z7 ks a.cells b.cells=some r->(Op.equalIn n t x y).run P w = .ok r w
 | 0,t,ks,h,_,_,_,_,_,_,_,_,_,_,_=>by cases h
 | d+1,t,ks,h,0,_,_,_,_,_,hn,_,_,_,_=>by omega
 | d+1,t,ks,h,n+1,x,y,a,b,r,hn,hx,hy,hab,hr=>by
  simp only [XM] at h
  split at h
  ·rename_i k hk
   cases h
   rcases hab with ⟨dd,h1,h2,_⟩|⟨dd,h1,h2,h3,h4⟩
   ·rw [kind_agg hk h1] at h2;cases h2
   ·have e1 : a.cells = [a] := by cases a <;> first | rfl | cases h3
    have e2:b.cells=[b]:=by cases b<;>first|rfl|cases h4
    rw [e1,e2] at hr
    simp only [Z7] at hr
    split at hr
    ·rename_i x1 y1 hc hq
     cases hq
     cases hr
     rw [Bool.and_true]
     exact eqC_ok hk hx hy hc n
    ·cases hr
  ·split at h
   ·rename_i fs hfs
    split at h
    ·rename_i hst
     rcases hab with ⟨dd,h1,h2,⟨as_,rfl⟩,⟨bs,rfl⟩⟩|⟨dd,h1,h2,_⟩
     ·obtain ⟨xs, rfl⟩ : ∃ xs, x = .agg xs := by
       cases hx with
       | p h=>cases h with
        | agg cs as_ hl h1 h=>exact ⟨_,rfl⟩
       | agg cs as_ hl h1 h=>exact ⟨_,rfl⟩
      obtain ⟨ys,rfl⟩:∃ ys,y = .agg ys:=by
       cases hy with
       | p h=>cases h with
        | agg cs as_ hl h1 h=>exact ⟨_,rfl⟩
       | agg cs as_ hl h1 h=>exact ⟨_,rfl⟩
      have hfo:P.fieldsOf t=fs:=by unfold Program.fieldsOf;rw [hfs]
      rw [run_equalIn_struct w n t xs ys (by rw [hfo];exact hfs) hst,hfo]
      have key:∀ (fl:List Field) (off:Nat) (ks:List Kd) (r:Bool),wm P (XM P d) off fl=some ks->Z7 ks (as_.drop off) (bs.drop off)=some r->(Op.eqFields n xs ys fl).run P w = .ok r w:=by
       intro fl
       induction fl with
       | nil =>
        intro off ks r hk hr
        cases hk
        unfold Z7 at hr
        split at hr
        ·cases hr;rfl
        ·rename_i e _ _;cases e
        ·cases hr
       | cons f fl ih =>
        intro off ks r hk hr
        simp only [wm] at hk
        split at hk
        ·rename_i hc
         obtain ⟨hnm,hoff⟩:=hc
         split at hk
         ·rename_i ks1 inf df hg hi hdf
          split at hk
          ·rename_i hsz
           split at hk
           ·rename_i ks2 hk2
            cases hk
            obtain ⟨r1,r2,e1,e2,rfl,l1,l2⟩:=eqCs_split hr
            have pt:∀ (zs:Array Value) (cs:List AV),VR F O (.agg zs) (.agg cs)->ks1.length<=(cs.drop off).length->∃ p pa,(part f.type zs f.offset).run P w = .ok p w/\VR F O p pa/\pa.cells=(cs.drop off).take ks1.length/\((ZQ df=true/\∃ q,pa = .agg q)\/(ZQ df=false/\pa.one=true)):=by
             intro zs cs hz hlen
             have hone:∀ a ∈ cs,AV.one a=true:=by
              cases hz with
              | p h=>cases h with
               | agg _ _ hl h1 h=>exact h1
              | agg _ _ hl h1 h=>exact h1
             rw [List.length_drop] at hlen
             cases hag:ZQ df with
             | true =>
              have hpa:zm (ZQ df) off inf.size (.agg cs)=some (.agg ((cs.drop off).take inf.size)):=by
               simp only [zm,hag,if_true]
               rw [if_pos (by have:=hsz.1;have:=hsz.2;omega)]
              obtain ⟨c0,e0,p,q1,q2⟩:=xI (P:=P) (w:=w) hi hdf hz hpa
              cases e0
              rw [hoff]
              exact ⟨p,_,q1,q2,by rw [hsz.1];rfl,.inl ⟨rfl,_,rfl⟩⟩
             | false =>
              have hl1:ks1.length=1:=by
               rw [<- hsz.1]
               have:=hsz.1
               cases d with
               | zero=>cases hg
               | succ d =>
                simp only [XM] at hg
                split at hg
                ·cases hg;exact this
                ·split at hg
                 ·rename_i fs2 hfs2
                  rw [hdf] at hfs2;cases hfs2;cases hag
                 ·cases hg
              have hlt:off < cs.length:=by omega
              have hpa:zm (ZQ df) off inf.size (.agg cs)=some cs[off]:=by
               simp only [zm,hag,Bool.false_eq_true,if_false]
               exact List.getElem?_eq_getElem hlt
              obtain ⟨c0,e0,p,q1,q2⟩:=xI (P:=P) (w:=w) hi hdf hz hpa
              cases e0
              rw [hoff]
              have h1:cs[off].one=true:=hone _ (List.getElem_mem hlt)
              refine ⟨p,_,q1,q2,?_,.inr ⟨rfl,h1⟩⟩
              rw [hl1,List.drop_eq_getElem_cons hlt]
              simp only [List.take_succ_cons,List.take_zero]
              cases hq:cs[off]<;>first|rfl|(rw [hq] at h1;cases h1)
            obtain ⟨p1,pa1,g1,v1,c1,s1⟩:=pt xs as_ hx l1
            obtain ⟨p2,pa2,g2,v2,c2,s2⟩:=pt ys bs hy l2
            have hcmp:=eqIn_ok d f.type ks1 hg n p1 p2 pa1 pa2 r1 (by omega) v1 v2 (by
             rcases s1 with ⟨t1,q1⟩|⟨t1,q1⟩
             ·rcases s2 with ⟨t2, q2⟩ | ⟨t2, q2⟩
              ·exact .inl ⟨df,hdf,t1,q1,q2⟩
              ·rw [t1] at t2;cases t2
             ·rcases s2 with ⟨t2, q2⟩ | ⟨t2, q2⟩
              ·rw [t1] at t2;cases t2
              ·exact .inr ⟨df,hdf,t1,q1,q2⟩) (by rw [c1,c2];exact e1)
            have hrest:=ih (off+ks1.length) ks2 r2 hk2 (by simpa [List.drop_drop] using e2)
            simp only [Op.eqFields,hnm,ne_eq,not_false_eq_true,if_true,Sem.run_bind,g1,Result.andThen_ok,g2,hcmp]
            cases r1
            ·simp
            ·simpa using hrest
           ·cases hk
          ·cases hk
         ·cases hk
        ·cases hk
      exact key fs.toList 0 ks r h hr
     ·rw [hfs] at h1;cases h1;cases h2
    ·cases h
   ·cases h
theorem eqs_ok {op : BinOp} {ng : Bool} {t : TypeId} {ks : List Kd} {xo yo : Operand} (ho : eqNeg op = some ng) (hk : eqOf P t = some ks) {x y : Value} {a b r : AV} (hx : VR F O x a) (hy : VR F O y b) (he : XE ng ks a b = some r) :
  ∃ z,(do eqGuard op t xo yo x y;binOp op t x y:Sem Value).run P w = .ok z w/\VR F O z r:=by
 unfold XE at he
 split at he
 ·rename_i as_ bs
  split at he
  ·rename_i r0 hr
   cases he
   unfold eqOf at hk
   split at hk
   ·rename_i fs hfs
    split at hk
    ·rename_i hg
     obtain ⟨xs,rfl⟩:∃ xs,x = .agg xs:=by
      cases hx with
      | p h=>cases h with
       | agg cs as_ hl h1 h=>exact ⟨_,rfl⟩
      | agg cs as_ hl h1 h=>exact ⟨_,rfl⟩
     obtain ⟨ys,rfl⟩:∃ ys,y = .agg ys:=by
      cases hy with
      | p h=>cases h with
       | agg cs as_ hl h1 h=>exact ⟨_,rfl⟩
      | agg cs as_ hl h1 h=>exact ⟨_,rfl⟩
     have hq:=eqIn_ok (P:=P) (F:=F) (O:=O) (w:=w) 8 t ks hk 10000 (.agg xs) (.agg ys) (.agg as_) (.agg bs) r0 (by omega) hx hy (.inl ⟨_,hfs,rfl,⟨_,rfl⟩,⟨_,rfl⟩⟩) hr
     cases op<;>cases ho
     ·refine ⟨.bool r0, ?_, .p (.v _ rfl)⟩
      rw [Sem.run_bind,run_eqGuard_agg w _ t xo yo xs ys hg,Result.andThen_ok,run_eql_struct w t xs ys,hq]
      rfl
     ·refine ⟨.bool (!r0), ?_, .p (.v _ rfl)⟩
      rw [Sem.run_bind,run_eqGuard_agg w _ t xo yo xs ys hg,Result.andThen_ok,run_neq_struct w t xs ys,hq]
      rfl
    ·cases hk
   ·cases hk
  ·cases he
 ·cases he
end
section
variable {P:Program} {B:Bd} {w0 w:World} {F0 F:Fz} {O:Ow} {H:Hp}
theorem parts_ok {fs : Array Field} {ρ : Operand -> Value} {ev : AX -> AV} (hρ : ∀ (ty : TypeId) (x : Operand) (ax : AX), cx P ty x = some ax -> VR F O (ρ x) (ev ax)) : ∀ {ps : List (Nat × Operand)} {qs : List (Nat × Nat × AX)} {places : List (Nat × Nat)},
  fs.toList.mapM (fun f=>(P.info? f.type).map fun i=>(f.offset,i.size))=some places->Y5 P fs ps=some qs->ps.length=qs.length /\
  ∀ (i:Nat) (p:Nat × Operand) (q:Nat × Nat × AX),ps[i]? = some p->qs[i]? = some q->places[p.1]? = some (q.1,q.2.1)/\VR F O (ρ p.2) (ev q.2.2)
 | [],qs,places,_,h=>by cases h;exact ⟨rfl,fun i p q hp=>by simp at hp⟩
 | (j,x)::ps,qs,places,hp,h=>by
  simp only [Y5] at h
  split at h
  ·rename_i f hf
   split at h
   ·rename_i fi a qs' h1 h2 h3
    cases h
    obtain ⟨l,r⟩:=parts_ok hρ hp h3
    refine ⟨by simp [l],fun i p q hpi hqi=>?_⟩
    cases i with
    | zero =>
     simp at hpi hqi
     subst hpi
     subst hqi
     refine ⟨?_,hρ _ _ _ h2⟩
     have hf':fs.toList[j]? = some f:=by simpa using hf
     have:=mapM_some_get hp j f (by simpa using hf)
     simpa [h1] using this.symm
    | succ i=>exact r i p q (by simpa using hpi) (by simpa using hqi)
   ·cases h
  ·cases h
theorem row_ok {e : TypeId} {ρ : Operand -> Value} {ev : AX -> AV} (hρ : ∀ (ty : TypeId) (x : Operand) (ax : AX), cx P ty x = some ax -> VR F O (ρ x) (ev ax)) : ∀ {ps : List (Nat × Operand)} {s : Nat} {as_ : List AX}, wB P e s ps = some as_ ->
  ps.map (fun p=>(p.1,ρ p.2))=((ps.map fun p=>ρ p.2).zipIdx s).map (fun p=>(p.2,p.1))/\ps.length=as_.length/\∀ (i:Nat) (c:Value) (a:AV),(ps.map fun p=>ρ p.2)[i]? = some c->(as_.map ev)[i]? = some a->VR F O c a
 | [],s,as_,h=>by cases h;exact ⟨rfl,rfl,fun i c a hc=>by simp at hc⟩
 | (j,x)::ps,s,as_,h=>by
  simp only [wB] at h
  split at h
  ·rename_i hj
   subst hj
   split at h
   ·rename_i a as' h1 h2
    cases h
    obtain ⟨q1,q2,q3⟩:=row_ok hρ h2
    refine ⟨by simp only [List.map_cons,List.zipIdx_cons,q1],by simp [q2],fun i c a hc ha=>?_⟩
    cases i with
    | zero=>simp at hc ha;subst hc;subst ha;exact hρ _ _ _ h1
    | succ i=>exact q3 i c a (by simpa using hc) (by simpa using ha)
   ·cases h
  ·cases h
theorem xp {t : TypeId} {ρ : Operand -> Value} {ev : AX -> AV} (hρ : ∀ (ty : TypeId) (x : Operand) (ax : AX), cx P ty x = some ax -> VR F O (ρ x) (ev ax)) {x : Option Operand} {a : Option AX} (h : cxo P t x = some a) :
  (x=none/\a=none)\/∃ x' a',x=some x'/\a=some a'/\VR F O (ρ x') (ev a'):=by
 cases x with
 | none=>cases h;exact .inl ⟨rfl,rfl⟩
 | some x =>
  simp only [cxo] at h
  split at h
  ·rename_i a' h1;cases h;exact .inr ⟨x,a',rfl,rfl,hρ _ _ _ h1⟩
  ·cases h
theorem xn {ρ : Operand -> Value} {ev : AX -> AV} (hρ : ∀ (ty : TypeId) (x : Operand) (ax : AX), cx P ty x = some ax -> VR F O (ρ x) (ev ax)) : ∀ {ts : List TypeId} {xs : List Operand} {as_ : List AX}, cxs P (ts.zip xs) = some as_ -> ts.length = xs.length ->
  (xs.map ρ).length=(as_.map ev).length/\∀ (i:Nat) (c:Value) (a:AV),(xs.map ρ)[i]? = some c->(as_.map ev)[i]? = some a->VR F O c a
 | [],[],as_,h,_=>by cases h;exact ⟨rfl,fun i c a hc=>by simp at hc⟩
 | [],_::_,as_,h,hl=>by simp at hl
 | _::_,[],as_,h,hl=>by simp at hl
 | t::ts,x::xs,as_,h,hl=>by
  simp only [List.zip_cons_cons,cxs] at h
  split at h
  ·rename_i a as' h1 h2
   cases h
   obtain ⟨q1,q2⟩:=xn hρ h2 (by simpa using hl)
   refine ⟨by simpa using q1,fun i c a hc ha=>?_⟩
   cases i with
   | zero=>simp at hc ha;subst hc;subst ha;exact hρ _ _ _ h1
   | succ i=>exact q2 i c a (by simpa using hc) (by simpa using ha)
  ·cases h
theorem Y6:∀ {as_:List AV} {xs ys:List Value},zx as_=some xs->ys.length=as_.length->(∀ (i:Nat) (c:Value) (a:AV),ys[i]? = some c->as_[i]? = some a->VR F O c a)->ys=xs
 | [],xs,ys,h,hl,_=>by cases h;exact List.eq_nil_of_length_eq_zero hl
 | a::as_,xs,[],h,hl,_=>by simp at hl
 | a::as_,xs,y::ys,h,hl,hv=>by
  simp only [zx] at h
  split at h
  ·rename_i x xs' h1 h2
   cases h
   rw [yM (hv 0 y a rfl rfl) h1,Y6 h2 (by simpa using hl) (fun i c a hc ha=>hv (i+1) c a hc ha)]
  ·cases h
theorem bounds_ok {b : Bool} {n c : Nat} {lo hi : Option Value} {l h : Option Int} (hl : (lo = none /\ l = none) \/ ∃ k i, lo = some (.int k i) /\ l = some i) (hh : (hi = none /\ h = none) \/ ∃ k i, hi = some (.int k i) /\ h = some i)
  (h0:0<=l.getD 0) (h1:l.getD 0<=h.getD n) (h2:h.getD n<=n) (h3:n<=c):(Instr.sliceBounds b n c lo hi none).run P w = .ok ((l.getD 0).toNat,(h.getD n).toNat,c) w:=by
 rcases hl with ⟨rfl,rfl⟩|⟨k,i,rfl,rfl⟩<;>rcases hh with ⟨rfl,rfl⟩|⟨k',i',rfl,rfl⟩<;>simp only [Option.getD_none,Option.getD_some] at h0 h1 h2 ⊢
 ·simp [Instr.sliceBounds]
 ·have : 0 <= i' /\ i' <= (c : Int) := ⟨h1, by omega⟩
  simp [Instr.sliceBounds,Instr.sliceBound,asIntOf,this]
 ·have : 0 <= i /\ i <= (n : Int) := ⟨h0, h1⟩
  simp [Instr.sliceBounds,Instr.sliceBound,asIntOf,this]
 ·have e1 : 0 <= i' /\ i' <= (c : Int) := ⟨by omega, by omega⟩
  have e2:0<=i/\i<=((i'.toNat:Nat):Int):=⟨h0,by omega⟩
  have e3:i<=max i' 0:=by omega
  simp [Instr.sliceBounds,Instr.sliceBound,asIntOf,e1.1,e1.2,h0,e3]
theorem slice_run (h : Own B w0 F0 F O H w) {t e : TypeId} {i : TypeInfo} (ht : P.underlying t = some (.slice e)) (hi : P.info? e = some i) {x : Value} {a : AV} (hx : VR F O x a) {lo hi' : Option Value} {l hh : Option Int}
  (hl:(lo=none/\l=none)\/∃ k i,lo=some (.int k i)/\l=some i) (hhi:(hi'=none/\hh=none)\/∃ k i,hi'=some (.int k i)/\hh=some i) {r:AV} {H':Hp} (hr:ze i.size H a l hh=some (r,H')) :
  ∃ y,(Instr.sliceAt t x lo hi' none).run P w = .ok y w/\Out B w0 F0 F O r H' y w:=by
 have front:∀ {A:Option Addr} {n c:Nat},x = .slice A n c->0<=l.getD 0->l.getD 0<=hh.getD n->hh.getD n<=n->n<=c->(Instr.sliceAt t x lo hi' none).run P w = .ok (.slice (if c=(l.getD 0).toNat then A else A.map (·.add ((l.getD 0).toNat * i.size))) ((hh.getD n).toNat - (l.getD 0).toNat) (c - (l.getD 0).toNat)) w:=fun {A n c} e h0 h1 h2 h3=>by
  subst e
  simp only [Instr.sliceAt,Instr.slice,Sem.run_bind,run_underlying ht,Result.andThen_ok,bounds_ok (P:=P) (w:=w) (b:=true) hl hhi h0 h1 h2 h3,ZL hi]
  rfl
 cases a with
 | nl k =>
  simp only [ze] at hr
  split at hr
  ·rename_i hc
   obtain ⟨rfl,h1,h2⟩:=hc
   cases hr
   cases hx with
   | p h=>cases h
   | nl =>
    have h3:hh.getD ((0:Nat):Int)=0:=h2
    have hf:=front (A:=none) (n:=0) (c:=0) rfl (by omega) (by omega) (by omega) (Nat.le_refl _)
    refine ⟨_,hf,Out.same h ?_⟩
    rw [h1,h3]
    exact .nl _
  ·cases hr
 | sl k es =>
  simp only [ze] at hr
  split at hr
  rotate_left
  ·cases hr
  rename_i hkk
  subst hkk
  split at hr
  ·rename_i r' hcut
   cases hr
   obtain ⟨A,n,c,e1,h0,h1,h2,h3,h4,hp⟩:=cut_ok (hx.pvC rfl) hcut
   subst h4
   exact ⟨_,front e1 h0 h1 h2 h3,Out.same h (.p hp)⟩
  ·cases hr
 | ol j g n =>
  simp only [ze] at hr
  split at hr
  ·rename_i hl0
   split at hr
   ·rename_i ob hlv
    split at hr
    ·rename_i hcond
     cases hr
     obtain ⟨d,hd,hio,rr,hnC,rfl⟩:=h.ol hx hlv
     have hg:=(ZJ hlv).2
     have hf:=front rfl (by omega) (by omega) (by omega) hnC
     rw [hl0] at hf
     refine ⟨_,hf,Out.same h ?_⟩
     refine .ol _ j g _ d hd (by rw [rr.hg];omega) ⟨_,_,rfl⟩ fun _=>⟨by omega,?_⟩
     simp [ZM]
    ·cases hr
   ·cases hr
  ·split at hr
   ·rename_i k es H2 hp
    split at hr
    rotate_left
    ·cases hr
    rename_i hkk
    subst hkk
    split at hr
    ·rename_i r' hcut
     cases hr
     obtain ⟨F',p1,o1,l1,_⟩:=X2 h hx hp
     obtain ⟨A,n',c,e1,h0,h1,h2,h3,h4,hpp⟩:=cut_ok p1 hcut
     subst h4
     exact ⟨_,front e1 h0 h1 h2 h3,F',O,.p hpp,o1,l1,Ow.le_refl O⟩
    ·cases hr
   ·cases hr
 | _=>cases hr
theorem slo_run (h : Own B w0 F0 F O H w) {t e : TypeId} {i : TypeInfo} (ht : P.underlying t = some (.slice e)) (hi : P.info? e = some i) {x : Value} {a : AV} (hx : VR F O x a) {kd : IntKind} {ix : Int} {r : AV} (hr : XW i.size H a ix = some r) :
  ∃ y,(Instr.sliceAt t x (some (.int kd ix)) none none).run P w = .ok y w/\VR F O y r:=by
 cases a with
 | ol j g n =>
  simp only [XW] at hr
  split at hr
  ·rename_i ob hlv
   split at hr
   ·rename_i hcond
    cases hr
    obtain ⟨hk,h0,h1⟩:=hcond
    obtain ⟨d,hd,hio,rr,hnC,rfl⟩:=h.ol hx hlv
    have hg:=(ZJ hlv).2
    have hb:=bounds_ok (P:=P) (w:=w) (b:=true) (n:=n) (c:=d.C) (lo:=some (.int kd ix)) (hi:=none) (l:=some ix) (h:=none) (.inr ⟨kd,ix,rfl,rfl⟩) (.inl ⟨rfl,rfl⟩) h0 (by simp only [Option.getD_some,Option.getD_none];omega) (by simp) hnC
    simp only [Option.getD_some,Option.getD_none,Int.toNat_natCast] at hb
    have hrun:(Instr.sliceAt t (.slice (some ⟨d.b,0,none⟩) n d.C) (some (.int kd ix)) none none).run P w = .ok (.slice (if d.C=ix.toNat then (some ⟨d.b,0,none⟩:Option Addr) else (some ⟨d.b,0,none⟩:Option Addr).map (·.add (ix.toNat * i.size))) (n - ix.toNat) (d.C - ix.toNat)) w:=by
     simp only [Instr.sliceAt,Instr.slice,Sem.run_bind,run_underlying ht,Result.andThen_ok,hb,ZL hi]
     rfl
    refine ⟨_,hrun,?_⟩
    refine .os _ j g _ _ d hd (by rw [rr.hg];omega) ⟨_,_,rfl⟩ fun _=>⟨h1,hnC,_,rfl,fun hlt=>?_⟩
    rw [if_neg (by omega)]
    have hdk:d.k=i.size:=by rw [<- hk,rr.hk]
    simp [ZM,hdk]
   ·cases hr
  ·cases hr
 | _=>cases hr
end
section
variable {P:Program} {B:Bd} {w0 w:World} {F0 F:Fz} {O:Ow} {H:Hp}
theorem Zf {α:Type} {o:Option α} {H H':Hp} {r:α} (h:o.map (·,H)=some (r,H')):o=some r/\H'=H:=by
 cases o with
 | none=>cases h
 | some a=>cases h;exact ⟨rfl,rfl⟩
theorem idx_part {len : Nat} {ix : Int} {t e : TypeId} {ei : TypeInfo} (ht : P.underlying t = some (.array len e)) (he : P.info? e = some ei) {cs : Array Value} {kk : IntKind} (h0 : 0 <= ix) (h1 : ix.toNat < len) {y : Value} (hp : (part e cs (ix.toNat * ei.size)).run P w = .ok y w) :
  (Instr.index t (.agg cs) (.int kk ix)).run P w = .ok y w:=by
 have hc:0<=ix/\ix < (len:Int):=⟨h0,by omega⟩
 simp only [Instr.index,asIntOf,Sem.run_bind,Sem.run_pure,Result.andThen_ok,run_underlying ht]
 simp only [hc,and_self,if_true,Sem.run_bind,ZL he,Result.andThen_ok]
 exact hp
theorem iad_run {t e:TypeId} {ei:TypeInfo} (ht:P.underlying t=some (.slice e)) (he:P.info? e=some ei) {kk:IntKind} {ix:Int} {ad:Addr} {n c:Nat} (h0:0<=ix) (h1:ix < n):(Instr.indexAt t (.slice (some ad) n c) (.int kk ix)).run P w = .ok (.pointer (some (ad.add (ix.toNat * ei.size)))) w:=by
 simp only [Instr.indexAt,asIntOf,Sem.run_bind,Sem.run_pure,Result.andThen_ok,run_underlying ht,h0,h1,and_self,if_true,ZL he]
theorem iaa_run {t e:TypeId} {ei:TypeInfo} {len:Nat} (ht:P.underlying t=some (.array len e)) (he:P.info? e=some ei) {kk:IntKind} {ix:Int} {ad:Addr} (h0:0<=ix) (h1:ix.toNat < len):(Instr.indexAt t (.pointer (some ad)) (.int kk ix)).run P w = .ok (.pointer (some (ad.add (ix.toNat * ei.size)))) w:=by
 have h1':ix < (len:Int):=by omega
 simp only [Instr.indexAt,asIntOf,Sem.run_bind,Sem.run_pure,Result.andThen_ok,run_underlying ht,Instr.sureAddr,h0,h1',and_self,if_true,ZL he]
theorem wrap_id {l:Int} (h0:0<=l) (h1:l<=9223372036854775807):IntKind.i64.wrap l=l:=by
 exact IntWalk.i64_in l (by omega)
theorem zrow {z:Array Value} {k n:Nat} (hz:z.size=k) (h0:n * k ≠ 0) (x:Nat) (hx:x < n * k):((Array.range (n * k)).map (fun j=>z[j % z.size]!))[x]? = z[x % k]?:=by
 have hk:0 < k:=Nat.pos_of_ne_zero fun e=>h0 (by rw [e];rfl)
 have hm:x % k < z.size:=by rw [hz];exact Nat.mod_lt _ hk
 simp only [Array.getElem?_map,Array.getElem?_range,hx,if_true,Option.map_some,hz]
 rw [Array.getElem?_eq_getElem hm]
 simp [hm]
theorem mks_go {t e : TypeId} {i : TypeInfo} {z : Value} (ht : P.underlying t = some (.slice e)) (hi : P.info? e = some i) (hz : i.zero = some z) (hs : z.cells.size = i.size) {kl kc : IntKind} {l c : Int} (h0 : 0 <= l) (h1 : l <= c) (hb : c.toNat * i.bytes <= 140737488355328) (hm : c.toNat <= maxLen) :
  ∃ cs:Array Value,(Instr.makeSlice t (.int kl l) (.int kc c)).run P w = .ok (.slice (some ⟨w.heap.size,0,none⟩) l.toNat c.toNat) (w.alloc (.cells cs e))/\cs.size=c.toNat * i.size/\∀ x,x < c.toNat * i.size->cs[x]? = z.cells[x % i.size]?:=by
 have hc:c<=9223372036854775807:=by simp only [maxLen] at hm;omega
 have wl:=wrap_id h0 (by omega:l<=9223372036854775807)
 have wc:=wrap_id (by omega:0<=c) hc
 have hbi:¬ ((i.bytes:Int) * c > 2 ^ 48):=by
  have e1:(i.bytes:Int) * c=((c.toNat * i.bytes:Nat):Int):=by
   rw [Int.natCast_mul,Int.toNat_of_nonneg (by omega),Int.mul_comm]
  rw [e1]
  have:(2:Int) ^ 48=281474976710656:=by decide
  omega
 have hno:((decide (c < 0) || decide ((i.bytes:Int) * c > 2 ^ 48)) || decide (l < 0) || decide (l > c))=false:=by
  simp only [Bool.or_eq_false_iff,decide_eq_false_iff_not]
  exact ⟨⟨⟨by omega,hbi⟩,by omega⟩,by omega⟩
 have hroom:¬ (c.toNat * i.bytes > roomBytes):=by simp only [roomBytes];omega
 by_cases hn:c.toNat * i.size=0
 ·refine ⟨Array.map (fun x=>(#[]:Array Value)[x % (#[]:Array Value).size]!) (Array.range 0),?_,by simpa using hn.symm,fun x hx=>by omega⟩
  simp only [Instr.makeSlice,Sem.run_bind,run_underlying ht,Result.andThen_ok,asInt,asIntOf,Sem.run_pure,YQ hi,wl,wc,hno,Bool.false_eq_true,if_false,askRoom,hroom,ZL hi,hn,if_true,newRow,newObj]
  rfl
 ·refine ⟨(Array.range (c.toNat * i.size)).map (fun j=>z.cells[j % z.cells.size]!),?_,by simp,zrow hs hn⟩
  simp only [Instr.makeSlice,Sem.run_bind,run_underlying ht,Result.andThen_ok,asInt,asIntOf,Sem.run_pure,YQ hi,wl,wc,hno,Bool.false_eq_true,if_false,askRoom,hroom,ZL hi,hn,YP hi hz,newRow,newObj]
  rfl
theorem bsl_go {t e : TypeId} {i : TypeInfo} {z : Value} (ht : P.underlying t = some (.slice e)) (hi : P.info? e = some i) (hz : i.zero = some z) {vs : List Value} (hk : ∀ v ∈ vs, v.cells.size = i.size) (hm : vs.length * i.size <= 16777216) {ps : Array (Nat × Value)} (hps : ps.toList = (vs.zipIdx 0).map fun p => (p.2, p.1)) :
  ∃ cs:Array Value,(Instr.buildSlice t vs.length ps).run P w = .ok (.slice (some ⟨w.heap.size,0,none⟩) vs.length vs.length) (w.alloc (.cells cs e))/\cs.size=vs.length * i.size/\∀ (j:Nat) (v:Value),vs[j]? = some v->∀ x,x < i.size->cs[j * i.size+x]? = v.cells[x]?:=by
 have hbig:¬ (vs.length * i.size > 2 ^ 24):=by
  have:(2:Nat) ^ 24=16777216:=by decide
  omega
 by_cases hn:vs.length * i.size=0
 ·obtain ⟨out,o1,o2,_,o4⟩:=Xj (k:=i.size) vs 0 ((Array.range (vs.length * i.size)).map (fun j=>(#[]:Array Value)[j % (#[]:Array Value).size]!)) hk (by simp)
  refine ⟨out,?_,by rw [o2];simp,fun j v hv x hx=>by have:=o4 j v hv x hx;rwa [Nat.zero_add] at this⟩
  rw [<- hps,hn] at o1
  simp only [Instr.buildSlice,Sem.run_bind,run_underlying ht,Result.andThen_ok,ZL hi,hn,show ¬ (0 > 2 ^ 24) from by decide,if_false,if_true,Sem.run_pure,pure_bind,o1]
  rfl
 ·obtain ⟨out,o1,o2,_,o4⟩:=Xj (k:=i.size) vs 0 ((Array.range (vs.length * i.size)).map (fun j=>z.cells[j % z.cells.size]!)) hk (by simp)
  refine ⟨out,?_,by rw [o2];simp,fun j v hv x hx=>by have:=o4 j v hv x hx;rwa [Nat.zero_add] at this⟩
  rw [<- hps] at o1
  simp only [Instr.buildSlice,Sem.run_bind,run_underlying ht,Result.andThen_ok,ZL hi,hbig,if_false,hn,YP hi hz,Sem.run_pure,o1]
  rfl
theorem xJ {x : Option Operand} {a : Option AX} {ρ : Operand -> Value} {ev : AX -> AV} (h : (x = none /\ a = none) \/ ∃ x' a', x = some x' /\ a = some a' /\ VR F O (ρ x') (ev a')) (hn : (a.map ev).map zI ≠ some none) :
  (x.map ρ=none/\((a.map ev).map zI).bind id=none)\/∃ k i,x.map ρ=some (.int k i)/\((a.map ev).map zI).bind id=some i:=by
 rcases h with ⟨rfl,rfl⟩|⟨x',a',rfl,rfl,hv⟩
 ·exact .inl ⟨rfl,rfl⟩
 ·cases hi:zI (ev a') with
  | none=>simp [hi] at hn
  | some n =>
   obtain ⟨k,hk⟩:=YH hv hi
   exact .inr ⟨k,n,by simp [hk],by simp [hi]⟩
theorem opt_conc {x : Option Operand} {a : Option AX} {ρ : Operand -> Value} {ev : AX -> AV} (h : (x = none /\ a = none) \/ ∃ x' a', x = some x' /\ a = some a' /\ VR F O (ρ x') (ev a')) (hn : (a.map ev).map zK ≠ some none) :
  x.map ρ=((a.map ev).map zK).bind id:=by
 rcases h with ⟨rfl,rfl⟩|⟨x',a',rfl,rfl,hv⟩
 ·rfl
 ·cases hi:zK (ev a') with
  | none=>simp [hi] at hn
  | some y=>simp [hi,yM hv hi]
end
def EntsIs (F:Fz) (O:Ow):List MapEntry->List AV->Prop
 | [],[]=>True
 | x::l,e::es=>(∃ ka va,e = .agg [ka,va]/\VR F O x.key ka/\VR F O x.val va)/\EntsIs F O l es
 | _,_=>False
theorem EntsIs.len {F:Fz} {O:Ow}:∀ {l:List MapEntry} {es:List AV},EntsIs F O l es->l.length=es.length
 | [],[],_=>rfl
 | [],_::_,h=>h.elim
 | _::_,[],h=>h.elim
 | x::l,e::es,h=>by simp [EntsIs.len h.2]
theorem agg_of2 {e:AV} (h:e.cells.length=2):∃ a b,e = .agg [a,b]:=by
 cases e with
 | agg cs =>
  match cs,h with
  | [a,b],_=>exact ⟨a,b,rfl⟩
 | _=>cases h
theorem EntsIs.mk {F : Fz} {O : Ow} : ∀ {l : List MapEntry} {es : List AV}, l.length = es.length -> (∀ e ∈ es, e.cells.length = 2) ->
  (∀ (n j:Nat) (e a:AV),es[n]? = some e->e.cells[j]? = some a->∃ c,(l.flatMap fun x=>[x.key,x.val])[n * 2+j]? = some c/\VR F O c a)->EntsIs F O l es
 | [],[],_,_,_=>trivial
 | [],_::_,h,_,_=>by simp at h
 | _::_,[],h,_,_=>by simp at h
 | x::l,e::es,h,hk,hc=>by
  obtain ⟨a,b,rfl⟩:=agg_of2 (hk e (by simp))
  refine ⟨⟨a,b,rfl,?_,?_⟩,EntsIs.mk (by simpa using h) (fun e' he=>hk e' (by simp [he])) fun n j e' u he hu=>?_⟩
  ·obtain ⟨c, h1, h2⟩ := hc 0 0 _ a rfl rfl
   simp at h1
   rw [h1];exact h2
  ·obtain ⟨c, h1, h2⟩ := hc 0 1 _ b rfl rfl
   simp at h1
   rw [h1];exact h2
  ·obtain ⟨c, h1, h2⟩ := hc (n + 1) j e' u (by simpa using he) hu
   refine ⟨c,?_,h2⟩
   rw [<- h1]
   simp only [List.flatMap_cons]
   rw [List.getElem?_append_right (by simp;omega)]
   congr 1
   simp
   omega
theorem EntsIs.cells {F:Fz} {O:Ow}:∀ {l:List MapEntry} {es:List AV},EntsIs F O l es->∀ (n j:Nat) (e a:AV),es[n]? = some e->e.cells[j]? = some a->∃ c,(l.flatMap fun x=>[x.key,x.val])[n * 2+j]? = some c/\VR F O c a
 | [],[],_,n,j,e,a,he,_=>by simp at he
 | [],_::_,h,_,_,_,_,_,_=>h.elim
 | _::_,[],h,_,_,_,_,_,_=>h.elim
 | x::l,e0::es,h,n,j,e,a,he,ha=>by
  obtain ⟨⟨ka,va,rfl,h1,h2⟩,h3⟩:=h
  cases n with
  | zero =>
   simp at he
   subst he
   simp only [List.flatMap_cons]
   match j,ha with
   | 0,ha=>cases ha;exact ⟨_,rfl,h1⟩
   | 1,ha=>cases ha;exact ⟨_,rfl,h2⟩
  | succ n =>
   obtain ⟨c,q1,q2⟩:=EntsIs.cells h3 n j e a (by simpa using he) ha
   refine ⟨c,?_,q2⟩
   rw [<- q1]
   simp only [List.flatMap_cons]
   rw [List.getElem?_append_right (by simp;omega)]
   congr 1
   simp
   omega
theorem EntsIs.mono {F F':Fz} {O O':Ow} (hF:F.le F') (hO:O.le O'):∀ {l:List MapEntry} {es:List AV},EntsIs F O l es->EntsIs F' O' l es
 | [],[],_=>trivial
 | [],_::_,h=>h.elim
 | _::_,[],h=>h.elim
 | x::l,e0::es,h=>by
  obtain ⟨⟨ka,va,rfl,h1,h2⟩,h3⟩:=h
  exact ⟨⟨ka,va,rfl,h1.mono hF hO,h2.mono hF hO⟩,EntsIs.mono hF hO h3⟩
def Xn (kd:Kd) (d:TypeDesc):Prop :=
 match kd with
 | .i=>∃ k,d = .int k
 | .s=>d = .string
 | .b=>d = .bool
theorem kindOf_is {P:Program} {t:TypeId} {kd:Kd} (h:yk P t=some kd):∃ d,P.underlying t=some d/\Xn kd d:=by
 unfold yk at h
 split at h
 ·rename_i k hu;cases h;exact ⟨_,hu,⟨k,rfl⟩⟩
 ·rename_i hu;cases h;exact ⟨_,hu,rfl⟩
 ·rename_i hu;cases h;exact ⟨_,hu,rfl⟩
 ·cases h
theorem eqC_now {F:Fz} {O:Ow} {kd:Kd} {d:TypeDesc} (hd:Xn kd d) {a b:AV} {x y:Value} (hx:VR F O x a) (hy:VR F O y b) {r:Bool} (h:eqC kd a b=some r):Instr.sameNow d x y=some r/\(r=true->Instr.sameBits 10000 y x=true):=by
 unfold eqC at h
 split at h
 ·rename_i k m k' n
  have e1:=hx.pvC rfl
  have e2:=hy.pvC rfl
  cases e1;cases e2
  split at h
  ·rename_i hk
   subst hk
   cases h
   obtain ⟨k0,rfl⟩:=hd
   refine ⟨by simp [Instr.sameNow,BEq.beq],fun hr=>?_⟩
   have:=of_decide_eq_true hr
   subst this
   simp [Instr.sameBits]
  ·cases h
 ·rename_i s1 s2
  have e1:=hx.pvC rfl
  have e2:=hy.pvC rfl
  cases e1;cases e2
  cases h
  cases hd
  have hb:(s1 == s2)=decide (s1=s2):=by
   by_cases e:s1=s2
   ·rw [decide_eq_true e];exact (MapKept.bytes_beq _ _).2 e
   ·rw [decide_eq_false e]
    cases hq:(s1 == s2) with
    | false=>rfl
    | true=>exact absurd ((MapKept.bytes_beq _ _).1 hq) e
  refine ⟨by simp only [Instr.sameNow,hb],fun hr=>?_⟩
  have:=of_decide_eq_true hr
  subst this
  simp only [Instr.sameBits]
  exact (MapKept.bytes_beq _ _).2 rfl
 ·rename_i b1 b2
  have e1:=hx.pvC rfl
  have e2:=hy.pvC rfl
  cases e1;cases e2
  cases h
  cases hd
  refine ⟨rfl,fun hr=>?_⟩
  have:=beq_iff_eq.1 hr
  subst this
  simp [Instr.sameBits]
 ·cases h
theorem wa {F : Fz} {O : Ow} {kd : Kd} {d : TypeDesc} (hd : Xn kd d) {key : AV} {x : Value} (hx : VR F O x key) : ∀ {l : List MapEntry} {es : List AV} {r : Option AV} (i : Nat), EntsIs F O l es -> lkA kd key es = some r ->
  (r=none/\Instr.findNow d x l i=some none)\/∃ j e va,r=some va/\Instr.findNow d x l i=some (some (i+j,e.val))/\l[j]? = some e/\VR F O e.val va
 | [],[],r,i,_,h=>by cases h;exact .inl ⟨rfl,rfl⟩
 | [],_::_,_,_,h,_=>h.elim
 | _::_,[],_,_,h,_=>h.elim
 | y::l,e0::es,r,i,h,hr=>by
  obtain ⟨⟨ka,va,rfl,h1,h2⟩,h3⟩:=h
  simp only [lkA] at hr
  split at hr
  ·rename_i b hb
   obtain ⟨q1,q2⟩:=eqC_now hd hx h1 hb
   cases b with
   | true =>
    simp only [if_true] at hr
    cases hr
    exact .inr ⟨0,y,va,rfl,by simp [Instr.findNow,q1],rfl,h2⟩
   | false =>
    simp only [Bool.false_eq_true,if_false] at hr
    rcases wa hd hx (i+1) h3 hr with ⟨rfl,g1⟩|⟨j,e,va',rfl,g1,g2,g3⟩
    ·exact .inl ⟨rfl,by simp [Instr.findNow,q1,g1]⟩
    ·exact .inr ⟨j+1,e,va',rfl,by simp [Instr.findNow,q1,g1];omega,by simpa using g2,g3⟩
  ·cases hr
theorem up_find {F : Fz} {O : Ow} {kd : Kd} {d : TypeDesc} (hd : Xn kd d) {key val : AV} {x z : Value} (hx : VR F O x key) (hz : VR F O z val) : ∀ {l : List MapEntry} {es es' : List AV} (i : Nat), EntsIs F O l es -> upA kd key val es = some es' ->
  (Instr.findNow d x l i=some none/\es'=es++[.agg [key,val]])\/∃ j e,Instr.findNow d x l i=some (some (i+j,e.val))/\l[j]? = some e/\Instr.sameBits 10000 e.key x=true/\es'.length=es.length/\∀ f:MapEntry->MapEntry,(f e).key=x->(f e).val=z->EntsIs F O (l.modify j f) es'
 | [],[],es',i,_,h=>by cases h;exact .inl ⟨rfl,rfl⟩
 | [],_::_,_,_,h,_=>h.elim
 | _::_,[],_,_,h,_=>h.elim
 | y::l,e0::es,es',i,h,hr=>by
  obtain ⟨⟨ka,va,rfl,h1,h2⟩,h3⟩:=h
  simp only [upA] at hr
  split at hr
  ·rename_i b hb
   obtain ⟨q1,q2⟩:=eqC_now hd hx h1 hb
   cases b with
   | true =>
    simp only [if_true] at hr
    cases hr
    refine .inr ⟨0,y,by simp [Instr.findNow,q1],rfl,q2 rfl,rfl,fun f f1 f2=>?_⟩
    rw [List.modify_zero_cons]
    exact ⟨⟨key,val,rfl,by rw [f1];exact hx,by rw [f2];exact hz⟩,h3⟩
   | false =>
    simp only [Bool.false_eq_true,if_false] at hr
    split at hr
    ·rename_i es2 hu
     cases hr
     rcases up_find hd hx hz (i+1) h3 hu with ⟨g1,rfl⟩|⟨j,e,g1,g2,g3,g4,g5⟩
     ·exact .inl ⟨by simp [Instr.findNow,q1,g1],rfl⟩
     ·refine .inr ⟨j+1,e,by simp [Instr.findNow,q1,g1];omega,by simpa using g2,g3,by simp [g4],fun f f1 f2=>?_⟩
      rw [List.modify_succ_cons]
      exact ⟨⟨ka,va,rfl,h1,h2⟩,g5 f f1 f2⟩
    ·cases hr
  ·cases hr
theorem EntsIs.app {F:Fz} {O:Ow}:∀ {l l2:List MapEntry} {es es2:List AV},EntsIs F O l es->EntsIs F O l2 es2->EntsIs F O (l++l2) (es++es2)
 | [],_,[],_,_,h=>h
 | [],_,_::_,_,h,_=>h.elim
 | _::_,_,[],_,h,_=>h.elim
 | _::_,_,_::_,_,h,k=>⟨h.1,EntsIs.app h.2 k⟩
section
variable {P:Program} {B:Bd} {w0 w:World} {F0 F:Fz} {O:Ow} {H:Hp}
theorem Own.mp (h : Own B w0 F0 F O H w) {x : Value} {i g : Nat} {ob : OB} (hx : VR F O x (.mp i g)) (hl : Sim.liveM H i g = some ob) :
  ∃ d,O[i]? = some d/\H[i]? = some ob/\Row B F O w d ob/\x = .map (some d.b)/\ob.e=ZZ/\ob.k=2:=by
 obtain ⟨hi,hg,he⟩:=liveM_ok hl
 obtain ⟨d,hd,r⟩:=h.get hi
 cases hx with
 | p h=>cases h
 | mp _ _ _ d' hd' hg' h1 hh =>
  rw [hd] at hd'
  cases hd'
  exact ⟨d,hd,hi,r,hh (by rw [r.hg,hg]),he⟩
theorem Row.ents {d:Ds} {ob:OB} (r:Row B F O w d ob) (he:ob.e=ZZ) (hk:ob.k=2):∃ ents clock,w.heap[d.b]? = some (.map ents clock)/\EntsIs F O ents.toList ob.es:=by
 obtain ⟨cur,h1,_,h3⟩:=r.cur
 rcases h1 with ⟨ne,_⟩|⟨_,ents,clock,q1,q2,q3⟩
 ·exact absurd he ne
 ·refine ⟨ents,clock,q1,EntsIs.mk (by simpa using q3) (fun e he=>by rw [r.hn e he,hk]) fun n j e a hx ha=>?_⟩
  obtain ⟨c,g1,g2⟩:=h3 n j e a hx ha
  rw [hk,q2] at g1
  exact ⟨c,by simpa [flatE] using g1,g2⟩
theorem Yv {t:TypeId} {kd:Kd} {d:TypeDesc} (hu:P.underlying t=some d) (hd:Xn kd d) (v:Value) (b:Bool) (w:World):(Instr.checkKey b 10000 t v).run P w = .ok () w:=by
 unfold Instr.checkKey
 simp only [Sem.run_bind,run_underlying hu,Result.andThen]
 cases kd with
 | i=>obtain ⟨k,rfl⟩:=hd;rfl
 | s=>cases hd;rfl
 | b=>cases hd;rfl
theorem YR {t:TypeId} {d:TypeDesc} (hu:P.underlying t=some d) {v:Value} {l:List MapEntry} {r:Option (Nat × Value)} (h:Instr.findNow d v l 0=some r) (w:World):(Instr.findKey t v l).run P w = .ok r w:=by
 simp [Instr.findKey,run_underlying hu,h]
theorem lkp_run (h : Own B w0 F0 F O H w) {x y z : Value} {xa ka za r : AV} (hx : VR F O x xa) (hy : VR F O y ka) (hz : VR F O z za) {t kt et : TypeId} {kd : Kd} {inf : TypeInfo} {c : Bool} (ht : P.underlying t = some (.map kt et)) (hk : yk P kt = some kd) (hi : P.info? et = some inf) (hzr : inf.zero = some z) (hr : XD H kd c za xa ka = some r) :
  ∃ u,(Instr.lookup t x y c).run P w = .ok u w/\VR F O u r:=by
 obtain ⟨d,hu,hd⟩:=kindOf_is hk
 unfold XD at hr
 split at hr
 ·rename_i i g
  split at hr
  ·rename_i ob hl
   obtain ⟨ds,h1,h2,r',rfl,he,hk2⟩:=h.mp hx hl
   have tup:∀ {u v:Value} {ua va:AV},VR F O u ua->VR F O v va->VR F O (.tuple #[u,v]) (.tup [ua,va]):=fun {u v ua va} hu hv=>by
    have:=VR.tup (F:=F) (O:=O) [u,v] [ua,va] rfl fun i c a hc ha=>by
     match i,hc,ha with
     | 0,hc,ha=>cases hc;cases ha;exact hu
     | 1,hc,ha=>cases hc;cases ha;exact hv
    exact this
   have hzer:(zeroValue et).run P w = .ok z w:=YP hi hzr w
   obtain ⟨ents,clock,q1,q2⟩:=r'.ents he hk2
   split at hr
   ·rename_i v hv
    rcases wa hd hy 0 q2 hv with ⟨e,_⟩|⟨j,e,va,e1,g1,g2,g3⟩
    ·cases e
    ·cases e1
     refine ⟨if c=true then .tuple #[e.val,.bool true] else e.val,?_,?_⟩
     ·cases c<;>simp [Instr.lookup,run_underlying ht,MapKept.run_getObj_map q1,Yv hu hd,YR hu g1]
     ·cases c
      ·cases hr;exact g3
      ·cases hr;exact tup g3 (.p (.v _ rfl))
   ·rename_i hv
    rcases wa hd hy 0 q2 hv with ⟨_,g1⟩|⟨j,e,va,e1,_⟩
    ·refine ⟨if c = true then .tuple #[z, .bool false] else z, ?_, ?_⟩
     ·cases c<;>simp [Instr.lookup,run_underlying ht,MapKept.run_getObj_map q1,Yv hu hd,YR hu g1,hzer]
     ·cases c
      ·cases hr;exact hz
      ·cases hr;exact tup hz (.p (.v _ rfl))
    ·cases e1
   ·cases hr
  ·cases hr
 ·cases hr
theorem lnm_run (h:Own B w0 F0 F O H w) {x:Value} {xa:AV} (hx:VR F O x xa) {t ty kt et:TypeId} (ht:P.underlying t=some (.map kt et)) {n:Nat} (hr:Xe H xa=some n):(Builtin.len_ #[t] ty #[x]).run P w = .ok (.int .i64 n) w:=by
 unfold Xe at hr
 split at hr
 ·rename_i i g
  split at hr
  ·rename_i ob hl
   cases hr
   obtain ⟨ds,h1,h2,r',rfl,he,hk2⟩:=h.mp hx hl
   obtain ⟨ents,clock,q1,q2⟩:=r'.ents he hk2
   have:=q2.len
   simp at this
   simp [Builtin.len_,run_underlying ht,MapKept.run_getObj_map q1,goInt,this]
  ·cases hr
 ·cases hr
theorem mkm_run (h:Own B w0 F0 F O H w):Out B w0 F0 F O (.mp H.length 0) (H++[⟨ZZ,2,[],0,0⟩]) (.map (some w.heap.size)) (w.alloc (.map #[] 0)):=by
 refine ⟨F,O++[⟨w.heap.size,0,0,2⟩],?_,h.pushG (w1:=w) (cs:=#[]) (Below.refl _ w) rfl (.inr ⟨rfl,#[],0,rfl,rfl,rfl⟩) (Nat.zero_le _) (fun e=>absurd rfl e) (fun e=>absurd rfl e) (fun y hy=>by simp at hy) (fun y hy=>by simp at hy) (fun n j y u hy=>by simp at hy),Fz.le_refl F,Ow.le_push O _⟩
 exact .mp _ H.length 0 ⟨w.heap.size,0,0,2⟩ (by rw [<- h.len];simp) (Nat.le_refl _) rfl fun _=>rfl
theorem mup_run (h : Own B w0 F0 F O H w) {x y z : Value} {xa ka va : AV} (hx : VR F O x xa) (hy : VR F O y ka) (hz : VR F O z va) {t kt et : TypeId} {kd : Kd} (ht : P.underlying t = some (.map kt et)) (hk : yk P kt = some kd) {H' : Hp} (hr : mupA H kd xa ka va = some H') :
  ∃ w' F' O',(Instr.mapUpdate t x y z).run P w = .ok () w'/\Own B w0 F0 F' O' H' w'/\F.le F'/\O.le O':=by
 obtain ⟨d,hu,hd⟩:=kindOf_is hk
 unfold mupA at hr
 split at hr
 ·rename_i i g
  split at hr
  ·rename_i ob hl
   split at hr
   ·rename_i hcond
    obtain ⟨hfz,hik,hone⟩:=hcond
    split at hr
    ·rename_i es' hup
     cases hr
     obtain ⟨ds,h1,h2,r',rfl,he,hk2⟩:=h.mp hx hl
     obtain ⟨ents,clock,q1,q2⟩:=r'.ents he hk2
     have hkone:ka.one=true:=by
      cases ka with
      | v x=>rfl
      | _=>simp [isKey] at hik
     have hent:EntsIs F O [⟨y,z,clock⟩] [.agg [ka,va]]:=⟨⟨ka,va,rfl,hy,hz⟩,trivial⟩
     have new1:∀ e ∈ es',e.cells.length=2/\∀ a ∈ e.cells,AV.one a=true:=by
      have gen:∀ {es es':List AV},upA kd ka va es=some es'->(∀ e ∈ es,e.cells.length=2/\∀ a ∈ e.cells,AV.one a=true)->∀ e ∈ es',e.cells.length=2/\∀ a ∈ e.cells,AV.one a=true:=by
       intro es
       induction es with
       | nil =>
        intro es' hh _ e he'
        cases hh
        simp at he'
        subst he'
        exact ⟨rfl,fun a ha=>by
         simp [AV.cells] at ha
         rcases ha with rfl|rfl
         ·exact hkone
         ·exact hone⟩
       | cons e0 es ih =>
        intro es' hh ho e he'
        unfold upA at hh
        split at hh
        ·cases ‹e0::es=[]›
        ·rename_i k v es1 heq
         cases heq
         split at hh
         ·rename_i b hb
          split at hh
          ·cases hh
           rcases List.mem_cons.1 he' with rfl|he'
           ·exact ⟨rfl, fun a ha => by
             simp [AV.cells] at ha
             rcases ha with rfl|rfl
             ·exact hkone
             ·exact hone⟩
           ·exact ho e (by simp [he'])
          ·split at hh
           ·rename_i es2 hh2
            cases hh
            rcases List.mem_cons.1 he' with rfl|he'
            ·exact ho _ (by simp)
            ·exact ih hh2 (fun e1 h1=>ho e1 (by simp [h1])) e he'
           ·cases hh
         ·cases hh
        ·cases hh
      exact gen hup fun e he'=>⟨by rw [r'.hn e he',hk2],r'.h1 e he'⟩
     have fin:∀ (ents':Array MapEntry) (clock':Nat),EntsIs F O ents'.toList es'->∃ O',Own B w0 F0 F O' (H.set i { ob with es:=es' }) { w with heap:=w.heap.setIfInBounds ds.b (.map ents' clock') }/\O.le O':=fun ents' clock' hE=>by
      have hlt:=r'.lt
      have hob:H.set i { ob with es:=es' } = H.set i ⟨ob.e,ob.k,es',ob.g,ob.fz⟩:=rfl
      rw [hob]
      obtain ⟨a1,a2⟩:=h.writeG (w':={ w with heap:=w.heap.setIfInBounds ds.b (.map ents' clock') }) (new:=flatE ents') (g':=ob.g) (es':=es') h2 h1
       (fun b hb=>by simp only;rw [Array.getElem?_setIfInBounds_ne (fun e=>hb e.symm)])
       (h.below.trans ⟨rfl,rfl,rfl,by simp,fun k hk=>by simp only;rw [Array.getElem?_setIfInBounds_ne (fun e=>by have:=r'.hB.1;omega)]⟩)
       (by simpa using h.size)
       (.inr ⟨he,ents',clock',by simp only;rw [Array.getElem?_setIfInBounds_self_of_lt hlt],rfl,by simpa using hE.len⟩)
       (Nat.le_refl _) (fun ne=>absurd he ne) (fun ne=>absurd he ne) (fun e he'=>by rw [(new1 e he').1,hk2]) (fun e he'=>(new1 e he').2) (by omega)
       (fun n j e a hx ha=>by
        obtain ⟨c,g1,g2⟩:=hE.cells n j e a hx ha
        exact ⟨c,by rw [hk2];simpa [flatE] using g1,g2⟩)
       (fun o v hv=>by
        have:=r'.hf o v hv
        rw [hfz] at this
        omega)
      exact ⟨_,a1,a2⟩
     rcases up_find hd hy hz 0 q2 hup with ⟨g1,rfl⟩|⟨j,e,g1,g2,g3,g4,g5⟩
     ·obtain ⟨O', a1, a2⟩ := fin (ents.push ⟨y, z, clock⟩) (clock + 1) (by simpa using EntsIs.app q2 hent)
      refine ⟨_,F,O',?_,a1,Fz.le_refl F,a2⟩
      simp [Instr.mapUpdate,run_underlying ht,MapKept.run_getObj_map q1,Yv hu hd,YR hu g1,MapKept.run_setObj_map _ q1]
     ·obtain ⟨O', a1, a2⟩ := fin (ents.modify j fun e => { e with key := y, val := z }) clock (by
       have:=g5 (fun e=>{ e with key:=y,val:=z }) rfl rfl
       simpa using this)
      refine ⟨_,F,O',?_,a1,Fz.le_refl F,a2⟩
      have g2':ents[j]? = some e:=by simpa using g2
      simp [Instr.mapUpdate,run_underlying ht,MapKept.run_getObj_map q1,Yv hu hd,YR hu g1,MapKept.run_setObj_map _ q1,Instr.keyThatStays,g2',g3]
    ·cases hr
   ·cases hr
  ·cases hr
 ·cases hr
end
section
variable {P:Program} {B:Bd} {w0 w:World} {F0 F:Fz} {O:Ow} {H:Hp}
set_option maxHeartbeats 1000000 in
theorem op_ok {hs : List FuncId} {o : Oper} {op : AOp} (hc : Zg P hs o = some op) {ρ : Operand -> Value} {ev : AX -> AV} (hρ : ∀ (ty : TypeId) (x : Operand) (ax : AX), cx P ty x = some ax -> VR F O (ρ x) (ev ax))
  (hcv:∀ a,ev (.c a)=a) (h:Own B w0 F0 F O H w) {r:AV} {H':Hp} (he:eff P ev H op=some (r,H')):Good P B w0 F0 F O w (execOp ρ o) r H':=by
 obtain ⟨dst,op',type,pos,after,guard⟩:=o
 cases op' with
 | move x =>
  simp only [Zg] at hc
  split at hc
  ·rename_i a ha
   cases hc
   cases he
   exact ⟨.value (ρ x),w,rfl,ρ x,.inl rfl,Out.same h (hρ _ _ _ ha)⟩
  ·cases hc
 | assign x =>
  simp only [Zg] at hc
  split at hc
  ·rename_i a ha
   cases hc
   cases he
   exact ⟨.value (ρ x),w,rfl,ρ x,.inl rfl,Out.same h (hρ _ _ _ ha)⟩
  ·cases hc
 | pick c a b =>
  simp only [Zg] at hc
  split at hc
  ·rename_i c' a' b' h1 h2 h3
   cases hc
   simp only [eff] at he
   split at he
   ·rename_i bb hbb
    cases he
    have hcv:=(hρ _ _ _ h1).pvC (by rw [hbb];rfl)
    rw [hbb] at hcv
    have hce:ρ c = .bool bb:=by
     generalize ρ c=q at hcv
     cases hcv;rfl
    refine ⟨.value (if bb then ρ a else ρ b),w,by simp [execOp,asBool,hce],_,.inl rfl,Out.same h ?_⟩
    cases bb
    ·exact hρ _ _ _ h3
    ·exact hρ _ _ _ h2
   ·cases he
  ·cases hc
 | alloc e =>
  simp only [Zg] at hc
  split at hc
  ·rename_i i hi
   obtain ⟨hne,hi⟩:=yW hi
   split at hc
   ·rename_i z hz
    split at hc
    ·rename_i a ha
     cases hc
     simp only [eff,AX.ev] at he
     have hav:=yZ ha F O
     have hev:VR F O z (ev (.c a)):=by rw [hcv];exact hav.1
     split at he
     ·rename_i hcond
      cases he
      exact ⟨_,_,by simp only [execOp,Instr.alloc,Sem.run_bind,YP hi hz,Result.andThen_ok,newVar,newRow,newObj];rfl,_,.inl rfl,new_run h hne hev hcond.1 hcond.2⟩
     ·cases he
    ·cases hc
   ·cases hc
  ·cases hc
 | box e x =>
  simp only [Zg] at hc
  split at hc
  ·rename_i i a hi ha
   obtain ⟨hne,hi⟩:=yW hi
   cases hc
   simp only [eff] at he
   split at he
   ·rename_i hcond
    cases he
    exact ⟨_,_,by simp only [execOp,Instr.box,Sem.run_bind,Result.andThen_ok,newVar,newRow,newObj];rfl,_,.inl rfl,new_run h hne (hρ _ _ _ ha) hcond.1 hcond.2⟩
   ·cases he
  ·cases hc
 | build t parts =>
  simp only [Zg] at hc
  split at hc
  ·rename_i fs i ht hi
   split at hc
   ·rename_i z hz
    split at hc
    ·rename_i zc qs pl hzc hqs hpl
     cases hc
     simp only [eff] at he
     cases hfl:zu zc (qs.map fun p=>(p.1,p.2.1,ev p.2.2)) with
     | none=>simp [hfl] at he
     | some cs' =>
      simp [hfl] at he
      obtain ⟨rfl,rfl⟩:=he
      obtain ⟨l1,r1⟩:=parts_ok (F:=F) (O:=O) hρ hpl hqs
      obtain ⟨zv,_⟩:=yZ hzc F O
      obtain ⟨zs,rfl,zl,z1,z2⟩:∃ zs:List Value,z = .agg zs.toArray/\zs.length=zc.length/\(∀ a ∈ zc,AV.one a=true)/\∀ (i:Nat) (c:Value) (a:AV),zs[i]? = some c->zc[i]? = some a->VR F O c a:=by
       cases zv with
       | p h=>cases h with
        | agg xs as_ hl h1 h=>exact ⟨xs,rfl,hl,h1,fun i c a hc ha=>.p (h i c a hc ha)⟩
       | agg xs as_ hl h1 h=>exact ⟨xs,rfl,hl,h1,h⟩
      obtain ⟨out,o1,o2,o3,o4⟩:=fill_ok (F:=F) (O:=O) (fun j=>pl[j]?) (parts.toList.map fun p=>(p.1,ρ p.2)) (qs.map fun p=>(p.1,p.2.1,ev p.2.2)) zs.toArray zc cs' (by simpa using l1) (fun j p q hp hq=>by
       rw [List.getElem?_map] at hp hq
       obtain ⟨p',hp',rfl⟩:=Option.map_eq_some_iff.1 hp
       obtain ⟨q',hq',rfl⟩:=Option.map_eq_some_iff.1 hq
       obtain ⟨g1,g2⟩:=r1 j p' q' hp' hq'
       exact ⟨by simpa using g1,g2⟩) (by simpa using zl) z1 (fun j c a hc ha=>z2 j c a (by simpa using hc) ha) hfl
      refine ⟨.value (.agg out),w,?_,.agg out,.inl rfl,Out.same h ?_⟩
      ·simp [execOp,Instr.build,run_underlying ht,typeInfo,zeroValue,hi,hz,Array.mapM_eq_mapM_toList,run_places w _ _ hpl,Value.cells,o1]
      ·have:=VR.agg (F:=F) (O:=O) out.toList cs' (by simpa using o2) o3 (fun j c a hc ha=>o4 j c a (by simpa using hc) ha)
       simpa using this
    ·cases hc
   ·cases hc
  ·cases hc
 | buildSlice t len parts =>
  simp only [Zg] at hc
  split at hc
  ·rename_i e ht
   split at hc
   ·rename_i i as_ hi hrow
    obtain ⟨hne,hi⟩:=yW hi
    split at hc
    ·rename_i z hz
     split at hc
     ·rename_i hlen
      cases hc
      simp only [eff] at he
      split at he
      ·rename_i hcond
       simp only [Bool.and_eq_true,List.all_eq_true,decide_eq_true_eq] at hcond
       obtain ⟨⟨hall,hbig⟩,hmx⟩:=hcond
       cases he
       obtain ⟨q1,q2,q3⟩:=row_ok (F:=F) (O:=O) hρ hrow
       have hlv:(parts.toList.map fun p=>ρ p.2).length=(as_.map ev).length:=by simpa using q2
       have hk:∀ a ∈ as_.map ev,a.cells.length=i.size/\a.fine=true:=fun a ha=>by simpa using hall a ha
       have hkv:∀ v ∈ parts.toList.map fun p=>ρ p.2,v.cells.size=i.size:=fun v hv=>by
        obtain ⟨j,hj,rfl⟩:=List.getElem_of_mem hv
        have hja:j < (as_.map ev).length:=by rw [<- hlv];exact hj
        have hm:=hk _ (List.getElem_mem hja)
        rw [((q3 j _ _ (List.getElem?_eq_getElem hj) (List.getElem?_eq_getElem hja)).cells (yL hm.2)).1]
        exact hm.1
       have hps:(parts.map fun (p:Nat × Operand)=>(p.1,ρ p.2)).toList=((parts.toList.map fun p=>ρ p.2).zipIdx 0).map fun p=>(p.2,p.1):=by
        rw [<- q1];simp
       have hlen2:(parts.toList.map fun p=>ρ p.2).length=len:=by rw [hlen];simp
       have hasl:as_.length=len:=by rw [<- q2,hlen];simp
       have hmax:as_.length<=maxLen:=Nat.le_trans hmx (by simp [maxLen])
       obtain ⟨cs,g1,g2,g3⟩:=bsl_go (P:=P) (w:=w) ht hi hz hkv (by rw [hlen2,<- hasl];exact hbig) hps
       have hrun:=bsl_run (e:=e) (k:=i.size) h hne hlv q3 hk (by simpa using hmax) (by rw [g2,hlv]) g3
       rw [hlen2] at g1
       rw [List.length_map,hasl] at hrun
       rw [hasl]
       exact ZR (s:=Instr.buildSlice t len (parts.map fun (p:Nat × Operand)=>(p.1,ρ p.2))) g1 hrun
      ·cases he
     ·cases hc
    ·cases hc
   ·cases hc
  ·cases hc
 | load t x =>
  simp only [Zg] at hc
  split at hc
  ·rename_i i d a hi hd ha
   cases hc
   obtain ⟨e1,rfl⟩:=Zf he
   obtain ⟨y,g1,g2⟩:=load_run h (hρ _ _ _ ha) hi hd e1
   exact ZR (s:=Instr.loadAt t (ρ x)) g1 (Out.same h g2)
  ·cases hc
 | store t x v =>
  simp only [Zg] at hc
  split at hc
  ·rename_i i a b hi ha hb
   cases hc
   simp only [eff] at he
   cases hst:zg H i.size (ev a) (ev b) with
   | none=>simp [hst] at he
   | some H1 =>
    simp [hst] at he
    obtain ⟨rfl,rfl⟩:=he
    obtain ⟨w',F',O',g1,g2,g3,g4⟩:=store_run h (hρ _ _ _ ha) (hρ _ _ _ hb) hi hst
    exact ⟨.skip,w',by simp [execOp,g1],undef,.inr ⟨rfl,rfl⟩,F',O',.p (.tup [] [] rfl fun i c a hc=>by simp at hc),g2,g3,g4⟩
  ·cases hc
 | nilCheck x =>
  simp only [Zg] at hc
  split at hc
  ·rename_i a ha
   cases hc
   obtain ⟨e1,rfl⟩:=Zf he
   obtain ⟨rfl,hx⟩:=nilB_ok h (hρ _ _ _ ha) e1
   have hv:=hρ _ _ _ ha
   rcases hx with ⟨ad,hx⟩|⟨nm,t,v,hx,hn⟩
   ·exact ⟨.value (ρ x),w,by simp [execOp,hx],_,.inl rfl,Out.same h hv⟩
   ·refine ⟨.value (ρ x), w, ?_, _, .inl rfl, Out.same h hv⟩
    simp [execOp,hx,run_nah hn,program,Sem.run,Sem.run_bind]
  ·cases hc
 | binOp op t x y u =>
  simp only [Zg] at hc
  split at hc
  ·rename_i a b ha hb
   split at hc
   ·rename_i ng ks hng hks
    cases hc
    obtain ⟨e1,rfl⟩:=Zf he
    obtain ⟨z,g1,g2⟩:=eqs_ok (w:=w) (xo:=x) (yo:=y) hng hks (hρ _ _ _ ha) (hρ _ _ _ hb) e1
    exact ZR (s:=(do eqGuard op t x y (ρ x) (ρ y);binOp op t (ρ x) (ρ y))) g1 (Out.same h g2)
   cases hc
   obtain ⟨e1,rfl⟩:=Zf he
   obtain ⟨z,g1,g2⟩:=bin_ok h (fun hp=>by
    split at hp
    ·rename_i e ht;exact ⟨e,ht⟩
    ·cases hp) (hρ _ _ _ ha) (hρ _ _ _ hb) e1
   exact ZR (s:=(do eqGuard op t x y (ρ x) (ρ y);binOp op t (ρ x) (ρ y))) g1 (Out.same h g2)
  ·cases hc
 | unOp op t x =>
  simp only [Zg] at hc
  split at hc
  ·rename_i a ha
   cases hc
   obtain ⟨e1,rfl⟩:=Zf he
   obtain ⟨z,g1,g2⟩:=ap1_ok (f:=fun v=>Op.unary op v) h (hρ _ _ _ ha) e1
   exact ZR (s:=Op.unary op (ρ x)) g1 (Out.same h g2)
  ·cases hc
 | convert sc d x =>
  simp only [Zg] at hc
  split at hc
  ·rename_i a ha
   cases hc
   obtain ⟨e1,rfl⟩:=Zf he
   obtain ⟨z,g1,g2⟩:=ap1_ok (f:=fun v=>convert sc d v) h (hρ _ _ _ ha) e1
   exact ZR (s:=convert sc d (ρ x)) g1 (Out.same h g2)
  ·cases hc
 | makeSlice t l c =>
  simp only [Zg] at hc
  split at hc
  ·rename_i e ht
   split at hc
   ·rename_i i l' c' hi hl hcc
    obtain ⟨hne,hi⟩:=yW hi
    split at hc
    ·rename_i z hz
     split at hc
     ·rename_i za hza
      split at hc
      ·rename_i hcond
       cases hc
       simp only [eff] at he
       split at he
       ·rename_i ln cn hln hcn
        split at he
        ·rename_i hb
         obtain ⟨b0,b1,b2,b3⟩:=hb
         cases he
         obtain ⟨kl,el⟩:=YH (hρ _ _ _ hl) hln
         obtain ⟨kc,ec⟩:=YH (hρ _ _ _ hcc) hcn
         have hzv:=(yZ hza F O).1
         have hzs:z.cells.size=i.size:=by rw [(hzv.cells (yL hcond.2)).1];exact hcond.1
         obtain ⟨cs,g1,g2,g3⟩:=mks_go (P:=P) (w:=w) (kl:=kl) (kc:=kc) ht hi hz hzs b0 b1 b2 b3
         rw [<- el,<- ec] at g1
         exact ZR (s:=Instr.makeSlice t (ρ l) (ρ c)) g1 (mks_run h hne hzv hcond.1 hcond.2 (by omega) b3 g2 g3)
        ·cases he
       ·cases he
      ·cases hc
     ·cases hc
    ·cases hc
   ·cases hc
  ·cases hc
 | slice t x lo hi mx =>
  cases mx with
  | some m=>simp [Zg] at hc
  | none =>
   simp only [Zg] at hc
   have isStr:∀ {a:AV} {s:ByteArray},VR F O (ρ x) a->a = .v (.string s)->ρ x = .string s:=fun {a s} hv e=>by
    subst e
    have:=hv.pvC rfl
    generalize ρ x=q at this
    cases this;rfl
   split at hc
   ·rename_i ht
    split at hc
    ·rename_i a l hh ha hl hhi
     cases hc
     simp only [eff] at he
     have hv:=hρ _ _ _ ha
     have hlo:=xp (F:=F) (O:=O) hρ hl
     have hho:=xp (F:=F) (O:=O) hρ hhi
     split at he
     ·rename_i s hs
      split at he
      ·cases he
      ·cases he
      ·rename_i n1 n2
       split at he
       ·rename_i v hpr
        obtain ⟨e1,rfl⟩:=Zf he
        have hx:=isStr hv hs
        have c1:=opt_conc hlo (fun e=>n1 e)
        have c2:=opt_conc hho (fun e=>n2 e)
        rw [<- c1,<- c2] at hpr
        refine ZR (s:=Instr.sliceAt t (ρ x) (lo.map ρ) (hi.map ρ) none) (x:=v) ?_ (Out.same h (Yj e1))
        rw [hx]
        exact yC _ hpr w
       ·cases he
     ·cases he
    ·cases hc
   ·rename_i e ht
    split at hc
    ·rename_i i a l hh hi' ha hl hhi
     cases hc
     simp only [eff] at he
     have hv:=hρ _ _ _ ha
     have hlo:=xp (F:=F) (O:=O) hρ hl
     have hho:=xp (F:=F) (O:=O) hρ hhi
     split at he
     ·cases he
     ·cases he
     ·rename_i n1 n2
      obtain ⟨y,g1,g2⟩:=slice_run (P:=P) h ht hi' hv (xJ hlo (fun e=>n1 e)) (xJ hho (fun e=>n2 e)) he
      exact ZR (s:=Instr.sliceAt t (ρ x) (lo.map ρ) (hi.map ρ) none) g1 g2
    ·cases hc
   ·cases hc
 | fieldAddr sx x f =>
  simp only [Zg] at hc
  split at hc
  ·rename_i fs ht
   split at hc
   ·rename_i fd hfd
    split at hc
    ·rename_i fi a hfi ha
     split at hc
     ·cases hc
     ·rename_i hsz
      cases hc
      obtain ⟨e1,rfl⟩:=Zf he
      obtain ⟨ad,hx,hsp,hv⟩:=move_ok h (hρ _ _ _ ha) e1
      refine ZR (s:=Instr.fieldAt sx (ρ x) f) (x:=.pointer (some (ad.add fd.offset))) ?_ (Out.same h hv)
      rw [hx]
      simp only [Instr.fieldAt,Sem.run_bind,run_underlying ht,Result.andThen_ok,hfd,Instr.sureAddr,Sem.run_pure,fieldPlace,ZL hfi,hsz,if_false]
    ·cases hc
   ·cases hc
  ·cases hc
 | field t x f =>
  simp only [Zg] at hc
  split at hc
  ·rename_i fs ht
   split at hc
   ·rename_i fd hfd
    split at hc
    ·rename_i fi d a hfi hd ha
     cases hc
     obtain ⟨e1,rfl⟩:=Zf he
     obtain ⟨cs,hx,y,g1,g2⟩:=xI (w:=w) hfi hd (hρ _ _ _ ha) e1
     refine ZR (s:=Instr.field t (ρ x) f) (x:=y) ?_ (Out.same h g2)
     rw [hx]
     simp only [Instr.field,Sem.run_bind,run_underlying ht,Result.andThen_ok,hfd,asAgg,Sem.run_pure]
     exact g1
    ·cases hc
   ·cases hc
  ·cases hc
 | indexAddr t x i =>
  simp only [Zg] at hc
  split at hc
  ·rename_i e ht
   split at hc
   ·rename_i ei a b hei ha hb
    cases hc
    simp only [eff] at he
    split at he
    ·rename_i ix hix
     obtain ⟨e1,rfl⟩:=Zf he
     obtain ⟨kk,hi⟩:=YH (hρ _ _ _ hb) hix
     obtain ⟨ad,n,c,hx,h0,h1,hv⟩:=elem_ok h (hρ _ _ _ ha) e1
     refine ZR (s:=Instr.indexAt t (ρ x) (ρ i)) ?_ (Out.same h hv)
     rw [hx,hi]
     exact iad_run ht hei h0 h1
    ·cases he
   ·cases hc
  ·rename_i len e ht
   split at hc
   ·rename_i ei a b hei ha hb
    cases hc
    simp only [eff] at he
    split at he
    ·rename_i ix hix
     split at he
     ·rename_i hb2
      obtain ⟨e1,rfl⟩:=Zf he
      obtain ⟨kk,hi⟩:=YH (hρ _ _ _ hb) hix
      obtain ⟨ad,hx,hsp,hv⟩:=move_ok h (hρ _ _ _ ha) e1
      refine ZR (s:=Instr.indexAt t (ρ x) (ρ i)) ?_ (Out.same h hv)
      rw [hx,hi]
      exact iaa_run ht hei hb2.1 hb2.2
     ·cases he
    ·cases he
   ·cases hc
  ·cases hc
 | index t x i =>
  simp only [Zg] at hc
  split at hc
  ·rename_i ht
   split at hc
   ·rename_i a b ha hb
    cases hc
    obtain ⟨e1,rfl⟩:=Zf he
    obtain ⟨z,g1,g2⟩:=ap2_ok (f:=fun v j=>Instr.index t v j) h (hρ _ _ _ ha) (hρ _ _ _ hb) e1
    exact ZR (s:=Instr.index t (ρ x) (ρ i)) g1 (Out.same h g2)
   ·cases hc
  ·rename_i len e ht
   split at hc
   ·rename_i ei d a b hei hd ha hb
    cases hc
    simp only [eff] at he
    split at he
    ·rename_i ix hix
     split at he
     ·rename_i hb2
      obtain ⟨e1,rfl⟩:=Zf he
      obtain ⟨kk,hi⟩:=YH (hρ _ _ _ hb) hix
      obtain ⟨cs,hx,y,g1,g2⟩:=xI (w:=w) hei hd (hρ _ _ _ ha) e1
      refine ZR (s:=Instr.index t (ρ x) (ρ i)) (x:=y) ?_ (Out.same h g2)
      rw [hx,hi]
      exact idx_part ht hei hb2.1 hb2.2 g1
     ·cases he
    ·cases he
   ·cases hc
  ·cases hc
 | extract x i =>
  simp only [Zg] at hc
  split at hc
  ·rename_i a ha
   cases hc
   simp only [eff] at he
   split at he
   ·rename_i cs hcs
    obtain ⟨e1,rfl⟩:=Zf he
    have hv:=hρ _ _ _ ha
    rw [hcs] at hv
    obtain ⟨xs,hx,hl,hp⟩:∃ xs:List Value,ρ x = .tuple xs.toArray/\xs.length=cs.length/\∀ (i:Nat) (c:Value) (a:AV),xs[i]? = some c->cs[i]? = some a->VR F O c a:=by
     generalize ρ x=q at hv
     cases hv with
     | p h=>cases h with
      | tup xs as_ hl h=>exact ⟨xs,rfl,hl,fun i c a hc ha=>.p (h i c a hc ha)⟩
     | tup xs as_ hl h=>exact ⟨xs,rfl,hl,h⟩
    have hlt:i < xs.length:=by rw [hl];exact (List.getElem?_eq_some_iff.1 e1).1
    refine ZR (s:=Instr.extract (ρ x) i) (x:=xs[i]) ?_ (Out.same h (hp i _ _ (List.getElem?_eq_getElem hlt) e1))
    rw [hx]
    simp [Instr.extract,hlt]
   ·cases he
  ·cases hc
 | makeFunc fn first cap =>
  cases fn with
  | func f =>
   simp only [Zg] at hc
   split at hc
   ·rename_i h0
    split at hc
    ·rename_i as_ has
     cases hc
     cases he
     obtain ⟨q1,q2⟩:=xn (F:=F) (O:=O) hρ has (by simp)
     have hf:first.map ρ = #[]:=by apply Array.ext';simp [Array.eq_empty_of_size_eq_zero h0]
     refine ⟨.value (.func (.func f) (first.map ρ) (cap.map ρ)),w,by simp [execOp,Instr.makeFunc],_,.inl rfl,Out.same h ?_⟩
     rw [hf]
     have ea:cap.map ρ=(cap.toList.map ρ).toArray:=by apply Array.ext';simp
     rw [ea]
     exact .fn f _ _ q1 q2
    ·cases hc
   ·cases hc
  | method nm =>
   simp only [Zg] at hc
   split at hc
   ·rename_i x hx0 hc0
    split at hc
    ·rename_i a ha
     cases hc
     obtain ⟨e1,rfl⟩:=Zf he
     have ef:first.map ρ = #[ρ x]:=by apply Array.ext';simp [hx0]
     have ec:cap.map ρ = #[]:=by apply Array.ext';simp [Array.eq_empty_of_size_eq_zero hc0]
     refine ⟨.value (.func (.method nm) (first.map ρ) (cap.map ρ)),w,by simp [execOp,Instr.makeFunc],_,.inl rfl,Out.same h ?_⟩
     rw [ef,ec]
     exact mk2_ok (hρ _ _ _ ha) e1
    ·cases hc
   ·cases hc
  | _=>simp [Zg] at hc
 | call c =>
  obtain ⟨callee,args,ats⟩:=c
  simp only [Zg] at hc
  split at hc
  ·split at hc
   ·split at hc
    ·cases hc;cases he
    ·cases hc
   ·cases hc
  ·rename_i f
   split at hc
   ·split at hc
    ·split at hc
     ·split at hc
      ·cases hc;cases he
      ·split at hc<;>(cases hc;cases he)
     ·cases hc
    ·cases hc
   ·cases hc
  ·split at hc
   ·rename_i t u s x hts hxs
    split at hc
    ·rename_i htu
     subst htu
     split at hc
     ·rename_i e ht
      split at hc
      ·rename_i i a b hi ha hb
       obtain ⟨hne,hi⟩:=yW hi
       split at hc
       ·rename_i z hz
        split at hc
        ·rename_i hcond
         cases hc
         obtain ⟨y,w',g1,g2⟩:=app_run (P:=P) (ty:=type) h hne (hρ _ _ _ ha) (hρ _ _ _ hb) ht hi hz rfl rfl hcond.1 hcond.2 he
         have ea:args = #[s,x]:=by apply Array.ext';simpa using hxs
         have et:ats = #[t,t]:=by apply Array.ext';simpa using hts
         subst ea
         subst et
         exact ⟨.value y,w',by simp [execOp,resolve,invoke,builtin,g1],y,.inl rfl,g2⟩
        ·cases hc
       ·cases hc
      ·cases hc
     ·cases hc
    ·split at hc
     ·rename_i e kn ht htn
      split at hc
      ·rename_i i a b hi ha hb
       obtain ⟨hne,hi⟩:=yW hi
       split at hc
       ·rename_i z hz
        split at hc
        ·rename_i za hza
         split at hc
         ·rename_i hcond
          cases hc
          simp only [eff] at he
          split at he
          ·rename_i k' m hs hm
           split at he
           ·rename_i hb2
            cases he
            have hv:=hρ _ _ _ ha
            rw [hs] at hv
            have hsv:ρ s = .slice none 0 0:=by
             generalize ρ s=q at hv
             cases hv with
             | p h=>cases h
             | nl=>rfl
            obtain ⟨kx,ex⟩:=YH (hρ _ _ _ hb) hm
            obtain ⟨y,w',g1,g2⟩:=apz_run (P:=P) (ty:=type) (k:=kx) h hne (yZ hza F O).1 ht htn hi hz hcond.1 hcond.2.1 hcond.2.2 hb2.1 hb2.2.1 hb2.2.2
            have ea:args = #[s,x]:=by apply Array.ext';simpa using hxs
            have et:ats = #[t,u]:=by apply Array.ext';simpa using hts
            subst ea
            subst et
            exact ⟨.value y,w',by simp [execOp,resolve,invoke,builtin,hsv,ex,g1],y,.inl rfl,g2⟩
           ·cases he
          ·cases he
         ·cases hc
        ·cases hc
       ·cases hc
      ·cases hc
     ·cases hc
   ·cases hc
  ·split at hc
   ·rename_i t u d x hts hxs
    split at hc
    ·rename_i htu
     subst htu
     split at hc
     ·rename_i e ht
      split at hc
      ·rename_i i a b hi ha hb
       split at hc
       ·rename_i hsz
        cases hc
        obtain ⟨y,w',g1,g2⟩:=cpy_run (P:=P) (ty:=type) h (hρ _ _ _ ha) (hρ _ _ _ hb) ht hi rfl hsz he
        have ea:args = #[d,x]:=by apply Array.ext';simpa using hxs
        have et:ats = #[t,t]:=by apply Array.ext';simpa using hts
        subst ea
        subst et
        exact ⟨.value y,w',by simp [execOp,resolve,invoke,builtin,g1],y,.inl rfl,g2⟩
       ·cases hc
      ·cases hc
     ·cases hc
    ·cases hc
   ·cases hc
  ·split at hc
   ·rename_i t x hts hxs
    have ea:args = #[x]:=by apply Array.ext';simpa using hxs
    have et:ats = #[t]:=by apply Array.ext';simpa using hts
    subst ea
    subst et
    split at hc
    ·rename_i a ht ha
     cases hc
     simp only [eff] at he
     split at he
     ·rename_i s hs
      cases he
      have hv:=(hρ _ _ _ ha)
      rw [hs] at hv
      have hv:=hv.pvC rfl
      have hx:ρ x = .string s:=by generalize ρ x=q at hv;cases hv;rfl
      exact ⟨.value (.int .i64 s.size),w,by simp [execOp,resolve,invoke,builtin,Builtin.len_,run_underlying ht,hx,goInt],_,.inl rfl,Out.same h (.p (.v _ rfl))⟩
     ·cases he
    ·rename_i e a ht ha
     cases hc
     simp only [eff] at he
     cases hl:zW H (ev a) with
     | none=>simp [hl] at he
     | some n =>
      simp [hl] at he
      obtain ⟨rfl,rfl⟩:=he
      obtain ⟨A,c,hx⟩:=len_ok h (hρ _ _ _ ha) hl
      exact ⟨.value (.int .i64 n),w,by simp [execOp,resolve,invoke,builtin,Builtin.len_,run_underlying ht,hx,goInt],_,.inl rfl,Out.same h (.p (.v _ rfl))⟩
    ·rename_i k0 e0 a ht ha
     cases hc
     simp only [eff] at he
     cases hl:Xe H (ev a) with
     | none=>simp [hl] at he
     | some n =>
      simp [hl] at he
      obtain ⟨rfl,rfl⟩:=he
      have hlen:=lnm_run (ty:=type) h (hρ _ _ _ ha) ht hl
      exact ⟨.value (.int .i64 n),w,by simp [execOp,resolve,invoke,builtin,hlen],_,.inl rfl,Out.same h (.p (.v _ rfl))⟩
    ·cases hc
   ·cases hc
  ·rename_i b n1 n2
   split at hc
   ·rename_i as_ has
    split at hc
    ·rename_i hsz
     cases hc
     simp only [eff] at he
     split at he
     ·rename_i vs hvs
      split at he
      ·rename_i v hpr
       obtain ⟨e1,rfl⟩:=Zf he
       obtain ⟨q1,q2⟩:=xn (F:=F) (O:=O) hρ has (by simpa using hsz)
       have:=Y6 hvs q1 q2
       have ea:args.map ρ=vs.toArray:=by apply Array.ext';simpa using this
       refine ⟨.value v,w,?_,v,.inl rfl,Out.same h (Yj e1)⟩
       have:=yC _ hpr w
       simp only [execOp,resolve,Sem.run_bind,Sem.run_pure,Result.andThen_ok,invoke,ea]
       exact this
      ·cases he
     ·cases he
    ·cases hc
   ·cases hc
  ·split at hc
   ·split at hc
    ·cases hc
     cases he
    ·cases hc
   ·cases hc
  ·cases hc
 | makeMap t r0 =>
  cases r0 with
  | some x=>simp [Zg] at hc
  | none =>
   simp only [Zg] at hc
   split at hc
   ·rename_i k e ht
    cases hc
    cases he
    exact ⟨_,_,by simp only [execOp,Option.map_none,Instr.makeMap,Sem.run_bind,Result.andThen_ok,newObj];rfl,_,.inl rfl,mkm_run h⟩
   ·cases hc
 | lookup t x i c =>
  simp only [Zg] at hc
  split at hc
  ·rename_i k e ht
   split at hc
   ·rename_i kd inf a b hk hi ha hb
    split at hc
    ·rename_i z hz
     split at hc
     ·rename_i za hza
      cases hc
      obtain ⟨e1,rfl⟩:=Zf he
      obtain ⟨u,g1,g2⟩:=lkp_run h (hρ _ _ _ ha) (hρ _ _ _ hb) (yZ hza F O).1 ht hk hi hz e1
      exact ZR (s:=Instr.lookup t (ρ x) (ρ i) c) g1 (Out.same h g2)
     ·cases hc
    ·cases hc
   ·cases hc
  ·cases hc
 | mapUpdate t x i v =>
  simp only [Zg] at hc
  split at hc
  ·rename_i k e ht
   split at hc
   ·rename_i kd a b c hk ha hb hcv'
    cases hc
    simp only [eff] at he
    cases hm:mupA H kd (ev a) (ev b) (ev c) with
    | none=>rw [hm] at he;cases he
    | some H2 =>
     rw [hm] at he
     cases he
     obtain ⟨w',F',O',g1,g2,g3,g4⟩:=mup_run h (hρ _ _ _ ha) (hρ _ _ _ hb) (hρ _ _ _ hcv') ht hk hm
     exact ⟨.skip,w',by simp [execOp,g1],undef,.inr ⟨rfl,rfl⟩,F',O',.p (.tup [] [] rfl fun i c a hc=>by simp at hc),g2,g3,g4⟩
   ·cases hc
  ·cases hc
 | makeInterface t x =>
  simp only [Zg] at hc
  split at hc
  ·rename_i el ht
   split at hc
   ·rename_i a ha
    cases hc
    obtain ⟨e1,rfl⟩:=Zf he
    exact ⟨.value (.iface t (ρ x)),w,by simp [execOp,Instr.makeInterface,run_underlying ht],_,.inl rfl,Out.same h (mki_ok h (hρ _ _ _ ha) e1)⟩
   ·cases hc
  ·cases hc
 | _=>simp [Zg] at hc
theorem slo_ok {hs : List FuncId} {o : Oper} {k : Nat} {ax al : AX} (hc : Zg P hs o = some (.slc k ax (some al) none)) {ρ : Operand -> Value} {ev : AX -> AV} (hρ : ∀ (ty : TypeId) (x : Operand) (ax : AX), cx P ty x = some ax -> VR F O (ρ x) (ev ax))
  (h:Own B w0 F0 F O H w) {r:AV} {H':Hp} (he:eff P ev H (.slo k ax al)=some (r,H')):Good P B w0 F0 F O w (execOp ρ o) r H':=by
 obtain ⟨dst,op',type,pos,after,guard⟩:=o
 cases op' with
 | slice t x lo hi mx =>
  cases mx with
  | some m=>simp [Zg] at hc
  | none =>
  simp only [Zg] at hc
  split at hc
  ·split at hc<;>cases hc
  ·rename_i e ht
   split at hc
   ·rename_i i a l hh hi' ha hl hhi
    cases hc
    have hv:=hρ _ _ _ ha
    have hlo:=xp (F:=F) (O:=O) hρ hl
    have hho:=xp (F:=F) (O:=O) hρ hhi
    simp only [eff] at he
    split at he
    ·rename_i ix hix
     obtain ⟨e1,rfl⟩:=Zf he
     have q1:=xJ hlo (by simp [hix])
     have q2:=xJ hho (by simp)
     simp only [Option.map_some,hix,Option.bind_some,id_eq] at q1
     rcases q1 with ⟨_,q⟩|⟨kd,i',q,q'⟩
     ·cases q
     rcases q2 with ⟨q2,_⟩|⟨_,_,_,q2⟩
     ·cases q'
      obtain ⟨y,g1,g2⟩:=slo_run (P:=P) h ht hi' hv (kd:=kd) e1
      refine ZR (s:=Instr.sliceAt t (ρ x) (lo.map ρ) (hi.map ρ) none) (x:=y) ?_ (Out.same h g2)
      rw [q,q2]
      exact g1
     ·simp at q2
    ·cases he
   ·cases hc
  ·cases hc
 | _ =>
  exfalso
  simp only [Zg] at hc
  repeat' (first|(cases hc;done)|split at hc)
  all_goals (first|contradiction|(simp_all;done))
end
end Go.Proofs.YtdodckipblafmaaGreatDoor.Sim
