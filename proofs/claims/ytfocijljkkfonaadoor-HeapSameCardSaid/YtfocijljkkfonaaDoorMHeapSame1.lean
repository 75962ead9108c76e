/- Texts of this claim, part 1. -/
import Derived.Below
import Derived.Deep.AppendSrc
import Derived.KernelRfl
import Derived.Laws.BytesString
import Derived.Laws.Cells
import Derived.Laws.CopyRow
import Derived.Laws.OwnMore
import Derived.Laws.StructEq
import Derived.Laws.Tables
import Derived.Lib.AppendZeros
import Derived.Lib.Builder
import Derived.Lib.Hide
import Derived.Lib.ItoaNum
import Derived.Lib.UnsafeStr
import Derived.Orders
import Derived.ProofKit
import Derived.WalkKit
import Derived.WalkLawsBesides
import Derived.WalkSpells
set_option linter.unusedVariables false
set_option linter.unusedSimpArgs false
namespace Go.Proofs.YtfocijljkkfonaaDoor
theorem zq1 {p : Prop} (h : p := by first|exact us|exact oa|assumption|((conv=>lhs;simp only [List.set_cons_zero,List.set_cons_succ,List.take_succ_cons,List.take_zero,List.drop_succ_cons,List.drop_zero,List.nil_append,List.cons_append,List.append_nil,List.take_nil,List.drop_nil]);try rfl)|rfl) : p := h
theorem zq2 {p : Prop} (h : p := by first|exact u1|exact u2|assumption|((conv=>lhs;simp only [List.set_cons_zero,List.set_cons_succ,List.take_succ_cons,List.take_zero,List.drop_succ_cons,List.drop_zero,List.nil_append,List.cons_append,List.append_nil,List.take_nil,List.drop_nil]);try rfl)|rfl) : p := h
theorem zq3 {p : Prop} (h : p := by first|exact us|assumption|((conv=>lhs;simp only [List.set_cons_zero,List.set_cons_succ,List.take_succ_cons,List.take_zero,List.drop_succ_cons,List.drop_zero,List.nil_append,List.cons_append,List.append_nil,List.take_nil,List.drop_nil]);try rfl)|rfl) : p := h
theorem zq4 {p : Prop} (h : p := by first|exact la|assumption|((conv=>lhs;simp only [List.set_cons_zero,List.set_cons_succ,List.take_succ_cons,List.take_zero,List.drop_succ_cons,List.drop_zero,List.nil_append,List.cons_append,List.append_nil,List.take_nil,List.drop_nil]);try rfl)|rfl) : p := h
theorem zq5 {p : Prop} (h : p := by first|exact st|assumption|((conv=>lhs;simp only [List.set_cons_zero,List.set_cons_succ,List.take_succ_cons,List.take_zero,List.drop_succ_cons,List.drop_zero,List.nil_append,List.cons_append,List.append_nil,List.take_nil,List.drop_nil]);try rfl)|rfl) : p := h
theorem zq6 {p : Prop} (h : p := by first|exact oa|assumption|((conv=>lhs;simp only [List.set_cons_zero,List.set_cons_succ,List.take_succ_cons,List.take_zero,List.drop_succ_cons,List.drop_zero,List.nil_append,List.cons_append,List.append_nil,List.take_nil,List.drop_nil]);try rfl)|rfl) : p := h
theorem zq7 {p : Prop} (h : p := by first|assumption|((conv=>lhs;simp only [List.set_cons_zero,List.set_cons_succ,List.take_succ_cons,List.take_zero,List.drop_succ_cons,List.drop_zero,List.nil_append,List.cons_append,List.append_nil,List.take_nil,List.drop_nil,hN]);try rfl)|rfl) : p := h
theorem zq8 {p : Prop} (h : p := by (first|omega|assumption|(simp only [List.length_map,List.length_append,List.length_cons,List.length_nil,List.length_take,List.length_drop,List.length_set,List.length_replicate,hN];omega))) : p := h
theorem zq9 {p : Prop} (h : p := by (first|rfl|assumption|omega|(simp only [List.length_map,List.length_append,List.length_cons,List.length_nil,hN];omega)|(simp [hN];done)|(simp [hN];omega))) : p := h
theorem zq10 {p : Prop} (h : p := by (first|exact hb33|rfl|assumption|omega|(simp only [List.length_map,List.length_append,List.length_cons,List.length_nil];omega)|(simp;done)|(simp;omega))) : p := h
theorem zq11 {p : Prop} (h : p := by first|exact (List.length_map _)|exact hlm|assumption|exact (List.length_map _).trans (by assumption)|exact List.length_map _|rfl) : p := h
theorem zq12 {p : Prop} (h : p := by first|exact ml|exact ml'|assumption|exact (List.length_map _).trans (by assumption)|exact List.length_map _|rfl) : p := h
theorem w7 {p : Prop} (h : p := by first|exact la|exact lb|assumption|exact (List.length_map _).trans (by assumption)|exact List.length_map _|rfl) : p := h
theorem zq14 {p : Prop} (h : p := by first|exact la|assumption|exact (List.length_map _).trans (by assumption)|exact List.length_map _|rfl) : p := h
theorem Yy {p : Prop} (h : p := by simp only [List.length_cons,List.length_nil,Nat.reduceAdd];rfl) : p := h
theorem zq16 {p : Prop} (h : p := by (first|rfl|assumption|exact (by simp [lg];omega))) : p := h
theorem zA {p : Prop} (h : p := by first|assumption|with_reducible rfl) : p := h
theorem zq18 {p : Prop} (h : p := by simp [ZO];omega) : p := h
theorem yy {p : Prop} (h : p := by with_reducible rfl) : p := h
theorem zq20 {p : Prop} (h : p := by (first|rfl|omega)) : p := h
theorem zB {p : Prop} (h : p := by first|assumption|(with_reducible rfl)|omega) : p := h
theorem zC {p : Prop} (h : p := by first|assumption|omega) : p := h
theorem zD {p : Prop} (h : p := by first|rfl|(simp;done)) : p := h
theorem zE {p : Prop} (h : p := by first|rfl|assumption) : p := h
theorem zF {p : Prop} (h : p := by first|(with_reducible rfl)|omega) : p := h
theorem zN {p : Prop} (h : p := by first | rfl | assumption | omega | (simp only [List.length_map,List.length_append,List.length_cons,List.length_nil]; omega) | (simp; done) | (simp; omega)) : p := h
theorem zX {p : Prop} (h : p := by first | omega | assumption | (simp only [List.length_map,List.length_append,List.length_cons,List.length_nil,List.length_take,List.length_drop,List.length_set,List.length_replicate]; omega)) : p := h
theorem zU {p : Prop} (h : p := by first | assumption | ((conv => lhs; simp only [List.set_cons_zero,List.set_cons_succ,List.take_succ_cons,List.take_zero,List.drop_succ_cons,List.drop_zero,List.nil_append,List.cons_append,List.append_nil,List.take_nil,List.drop_nil]); try rfl) | rfl) : p := h
theorem zL {p : Prop} (h : p := by first | assumption | exact (List.length_map _).trans (by assumption) | exact List.length_map _ | rfl) : p := h
theorem zM {p : Prop} (h : p := by first | exact (List.length_map _) | assumption | exact (List.length_map _).trans (by assumption) | exact List.length_map _ | rfl) : p := h
end Go.Proofs.YtfocijljkkfonaaDoor
namespace Go.Proofs.YtfocijljkkfonaaDoor.Dz
open Go.Lib
theorem dec_digit (u:Nat):∀ b ∈ decDigits u,b ≠ 32:=by
 induction u using Nat.strongRecOn with
 | _ u ih =>
  intro b hb
  rw [decDigits] at hb
  have key:∀ k:Nat,k < 10->UInt8.ofNat (48+k) ≠ 32:=by decide
  split at hb
  ·rename_i h
   simp only [List.mem_singleton] at hb
   rw [hb];exact key u h
  ·rename_i h
   simp only [List.mem_append,List.mem_singleton] at hb
   rcases hb with hb|hb
   ·exact ih (u / 10) (by omega) b hb
   ·rw [hb];exact key _ (by omega)
theorem ofNat_inj:∀ a b:Nat,a < 10->b < 10->UInt8.ofNat (48+a)=UInt8.ofNat (48+b)->a=b:=by
 intro a b ha hb h
 have:∀ a:Fin 10,∀ b:Fin 10,UInt8.ofNat (48+a.val)=UInt8.ofNat (48+b.val)->a=b:=by decide
 have:=this ⟨a,ha⟩ ⟨b,hb⟩ h
 exact Fin.mk.inj this
theorem dec_ne (u:Nat):decDigits u ≠ []:=by
 rw [decDigits];split<;>simp
theorem dec_inj:∀ u v:Nat,decDigits u=decDigits v->u=v:=by
 intro u
 induction u using Nat.strongRecOn with
 | _ u ih =>
  intro v h
  rw [decDigits,decDigits.eq_def v] at h
  split at h
  ·rename_i hu
   split at h
   ·rename_i hv
    exact ofNat_inj u v hu hv (by simpa using h)
   ·rename_i hv
    exfalso
    have:=congrArg List.length h
    simp only [List.length_append,List.length_cons,List.length_nil] at this
    have h2:=List.length_pos_iff.2 (dec_ne (v / 10))
    omega
  ·rename_i hu
   split at h
   ·rename_i hv
    exfalso
    have:=congrArg List.length h
    simp only [List.length_append,List.length_cons,List.length_nil] at this
    have h2:=List.length_pos_iff.2 (dec_ne (u / 10))
    omega
   ·rename_i hv
    obtain ⟨h1,h2⟩:=List.append_inj' h rfl
    have h3:=ih (u / 10) (by omega) (v / 10) h1
    have h4:=ofNat_inj (u % 10) (v % 10) (by omega) (by omega) (by simpa using h2)
    omega
def num (n:Nat):List UInt8:=decDigits n++[32]
theorem tw_num (n:Nat) (x:List UInt8):(num n++x).takeWhile (fun b=>b ≠ 32)=decDigits n:=by
 unfold num
 have:∀ l:List UInt8,(∀ b ∈ l,b ≠ 32)->((l++[32])++x).takeWhile (fun b=>b ≠ 32)=l:=by
  intro l
  induction l with
  | nil=>intro _;simp
  | cons a l ih =>
   intro h
   have ha:a ≠ 32:=h a (by simp)
   simp only [List.cons_append,List.takeWhile_cons,ha,ne_eq,not_false_eq_true,decide_true,if_true]
   exact congrArg (a :: ·) (ih fun b hb=>h b (by simp [hb]))
 exact this _ (dec_digit n)
theorem Y9 {a b:Nat} {x y:List UInt8} (h:num a++x=num b++y):a=b/\x=y:=by
 have h1:decDigits a=decDigits b:=by rw [<- tw_num a x,h,tw_num]
 have h2:=dec_inj _ _ h1
 subst h2
 exact ⟨rfl,List.append_cancel_left h⟩
def txt (s:List UInt8):List UInt8:=num s.length++s
theorem XL {s t x y:List UInt8} (h:txt s++x=txt t++y):s=t/\x=y:=by
 unfold txt at h
 rw [List.append_assoc,List.append_assoc] at h
 obtain ⟨h1,h2⟩:=Y9 h
 exact List.append_inj h2 h1
def nmz (l:List Nat):List UInt8:=l.flatMap num
theorem nmz_inj:∀ {l m:List Nat},nmz l=nmz m->l=m:=by
 intro l
 induction l with
 | nil =>
  intro m h
  cases m with
  | nil=>rfl
  | cons b m=>simp [nmz,num] at h
 | cons a l ih =>
  intro m h
  cases m with
  | nil=>simp [nmz,num] at h
  | cons b m =>
   simp only [nmz,List.flatMap_cons] at h
   obtain ⟨h1,h2⟩:=Y9 h
   rw [h1,ih (show nmz l=nmz m from h2)]
abbrev Pl:=List UInt8 × List UInt8
def prs (l:List Pl):List UInt8:=l.flatMap fun p=>txt p.1++txt p.2
theorem prs_app:∀ {l m:List Pl} {x y:List UInt8},l.length=m.length->prs l++x=prs m++y->l=m/\x=y:=by
 intro l
 induction l with
 | nil =>
  intro m x y hl h
  cases m with
  | nil=>exact ⟨rfl,h⟩
  | cons b m=>simp at hl
 | cons a l ih =>
  intro m x y hl h
  cases m with
  | nil=>simp at hl
  | cons b m =>
   simp only [prs,List.flatMap_cons,List.append_assoc] at h
   obtain ⟨h1,h⟩:=XL h
   obtain ⟨h2,h⟩:=XL h
   obtain ⟨h3,h4⟩:=ih (x:=x) (y:=y) (by simpa using hl) (show prs l++x=prs m++y from h)
   exact ⟨by rw [h3,Prod.ext h1 h2],h4⟩
def dsc (kn:Nat) (ke va:List UInt8) (mp sz:Nat) (ls:List Pl) (kk:List Nat) (mn:Nat):List UInt8 :=
 num kn++(txt ke++(txt va++(num mp++(num sz++(num ls.length++(prs ls++nmz (kk++[mn])))))))
theorem dsc_inj {kn kn' : Nat} {ke va ke' va' : List UInt8} {mp sz mp' sz' : Nat} {ls ls' : List Pl} {kk kk' : List Nat} {mn mn' : Nat}
  (h:dsc kn ke va mp sz ls kk mn=dsc kn' ke' va' mp' sz' ls' kk' mn'):kn=kn'/\ke=ke'/\va=va'/\mp=mp'/\sz=sz'/\ls=ls'/\kk=kk'/\mn=mn':=by
 unfold dsc at h
 obtain ⟨h1,h⟩:=Y9 h
 obtain ⟨h2,h⟩:=XL h
 obtain ⟨h3,h⟩:=XL h
 obtain ⟨h4,h⟩:=Y9 h
 obtain ⟨h5,h⟩:=Y9 h
 obtain ⟨h6,h⟩:=Y9 h
 obtain ⟨h7,h⟩:=prs_app h6 h
 have h8:=nmz_inj h
 obtain ⟨h9,h10⟩:=List.append_inj' h8 rfl
 exact ⟨h1,h2,h3,h4,h5,h7,h9,by simpa using h10⟩
/-! Numbers for texts, in the order in which they come. -/
def ix:List (List UInt8)->List UInt8->Nat
 | [],_=>0
 | a::K,t=>if a=t then 0 else ix K t+1
theorem ix_app {K M:List (List UInt8)} {t:List UInt8} (h:t ∈ K):ix (K++M) t=ix K t:=by
 induction K with
 | nil=>cases h
 | cons a K ih =>
  simp only [List.cons_append,ix]
  by_cases ha:a=t
  ·simp [ha]
  ·have : t ∈ K := by
    rcases List.mem_cons.1 h with h|h
    ·exact absurd h.symm ha
    ·exact h
   simp [ha,ih this]
theorem ix_at {K:List (List UInt8)} {t:List UInt8} (h:t ∈ K):K[ix K t]? = some t:=by
 induction K with
 | nil=>cases h
 | cons a K ih =>
  simp only [ix]
  by_cases ha:a=t
  ·simp [ha]
  ·have : t ∈ K := by
    rcases List.mem_cons.1 h with h|h
    ·exact absurd h.symm ha
    ·exact h
   simp [ha,ih this]
def idx (K:List (List UInt8)) (t:List UInt8):Nat:=ix K t+1
def add (K:List (List UInt8)) (t:List UInt8):List (List UInt8):=if t ∈ K then K else K++[t]
theorem add_sub {K:List (List UInt8)} {t:List UInt8}:∀ x ∈ K,x ∈ add K t:=by
 intro x hx
 unfold add;split<;>simp [hx]
theorem add_mem {K:List (List UInt8)} {t:List UInt8}:t ∈ add K t:=by
 unfold add;split<;>simp_all
theorem idx_add {K:List (List UInt8)} {t x:List UInt8} (hx:x ∈ K):idx (add K t) x=idx K x:=by
 unfold add idx;split
 ·rfl
 ·rw [ix_app hx]
theorem idx_new {K:List (List UInt8)} {t:List UInt8} (h:t ∉ K):idx (add K t) t=K.length+1:=by
 unfold add idx
 have:ix (K++[t]) t=K.length:=by
  induction K with
  | nil=>simp [ix]
  | cons a K ih =>
   simp only [List.mem_cons,not_or] at h
   simp only [List.cons_append,ix,List.length_cons]
   rw [if_neg fun e=>h.1 e.symm,ih h.2]
 rw [if_neg h,this]
theorem idx_inj {K:List (List UInt8)} {x y:List UInt8} (hx:x ∈ K) (hy:y ∈ K) (h:idx K x=idx K y):x=y:=by
 unfold idx at h
 have h1:=ix_at hx
 have h2:=ix_at hy
 rw [show ix K x=ix K y by omega,h2] at h1
 exact (Option.some.inj h1).symm
theorem add_len {K:List (List UInt8)} {t:List UInt8}:(add K t).length<=K.length+1:=by unfold add;split<;>simp
theorem idx_le {K:List (List UInt8)} {t:List UInt8} (h:t ∈ K):idx K t<=K.length:=by
 have h1:=(List.getElem?_eq_some_iff.1 (ix_at h)).1
 unfold idx;omega
end Go.Proofs.YtfocijljkkfonaaDoor.Dz
namespace Go.Proofs.YtfocijljkkfonaaDoor.Sim
open Go.RowKit
inductive AV where
 | v (x:Value)
 | agg (cs:List AV)
 | tup (cs:List AV)
 | nl (k:Nat)
 | em (b:Bool) (k:Nat)
 | sl (k:Nat) (es:List AV)
 | ad (k:Nat) (es:List AV) (i off:Nat)
 | ol (i g n:Nat)
 | os (i g lo n:Nat)
 | oa (i g e off:Nat)
 | io (t i g e off:Nat)
 | mp (i g:Nat)
 | oc (i g n c:Nat)
 | mf (nm:String) (t i g e off:Nat)
 | bf (f:FuncId) (i g e off:Nat)
 | ib (t f i g e off:Nat)
 | fn (f:FuncId) (cs:List AV)
 | unk
instance:Inhabited AV:=⟨.unk⟩
def AV.cells:AV->List AV
 | .agg cs=>cs
 | a=>[a]
def AV.one:AV->Bool
 | .agg _|.tup _|.unk=>false
 | _=>true
def AV.isC0:AV->Bool
 | .v _|.sl ..|.ad ..=>true
 | _=>false
def AV.isC:AV->Bool
 | .fn _ cs=>cs.all AV.isC0
 | a=>a.isC0
def AV.isP:AV->Bool
 | .agg cs=>cs.all AV.isC
 | a=>a.isC
def Yx:Value->Bool
 | .bool _|.int ..|.float ..|.complex ..|.string _|.pointer none|.map none|.chan none|.nilFunc|.nilIface|.func _ #[] #[]=>true
 | _=>false
theorem scal_one {x:Value} (h:Yx x=true):x.oneCell'=true:=by
 cases x<;>first|rfl|(simp [Yx] at h)
abbrev Fz:=Nat->Nat->Option Value
def Fz.le (F F':Fz):Prop:=∀ b o v,F b o=some v->F' b o=some v
theorem Fz.le_refl (F:Fz):F.le F:=fun _ _ _ h=>h
theorem Fz.le_trans {F F' F'':Fz} (h:F.le F') (k:F'.le F''):F.le F'':=fun _ _ _ x=>k _ _ _ (h _ _ _ x)
inductive PV (F:Fz):Value->AV->Prop
 | v (x:Value) (h:Yx x=true):PV F x (.v x)
 | agg (cs:List Value) (as_:List AV) (hl:cs.length=as_.length) (h1:∀ a ∈ as_,AV.one a=true) (h:∀ (i:Nat) (c:Value) (a:AV),cs[i]? = some c->as_[i]? = some a->PV F c a):PV F (.agg cs.toArray) (.agg as_)
 | tup (cs:List Value) (as_:List AV) (hl:cs.length=as_.length) (h:∀ (i:Nat) (c:Value) (a:AV),cs[i]? = some c->as_[i]? = some a->PV F c a):PV F (.tuple cs.toArray) (.tup as_)
 | sl (A : Option Addr) (n cap k : Nat) (es : List AV) (hn : es.length = n) (hc : n <= cap) (hm : cap <= maxLen) (hk : ∀ e ∈ es, e.cells.length = k) (h1 : ∀ e ∈ es, ∀ a ∈ e.cells, AV.one a = true) (b o : Nat) (hA : 0 < n -> A = some ⟨b, o, none⟩)
   (f:Nat->Nat->Value) (hf:∀ i j,i < n->j < k->F b (o+i * k+j)=some (f i j)) (h:∀ (i j:Nat) (e a:AV),es[i]? = some e->e.cells[j]? = some a->PV F (f i j) a):PV F (.slice A n cap) (.sl k es)
 | ad (b o k : Nat) (es : List AV) (i off : Nat) (hk : ∀ e ∈ es, e.cells.length = k) (h1 : ∀ e ∈ es, ∀ a ∈ e.cells, AV.one a = true)
   (f:Nat->Nat->Value) (hf:∀ i j,i < es.length->j < k->F b (o+i * k+j)=some (f i j)) (h:∀ (i j:Nat) (e a:AV),es[i]? = some e->e.cells[j]? = some a->PV F (f i j) a):PV F (.pointer (some ⟨b,o+i * k+off,none⟩)) (.ad k es i off)
 | fn (f:FuncId) (xs:List Value) (as_:List AV) (hl:xs.length=as_.length) (h:∀ (i:Nat) (c:Value) (a:AV),xs[i]? = some c->as_[i]? = some a->PV F c a):PV F (.func (.func f) #[] xs.toArray) (.fn f as_)
theorem PV.mono {F F':Fz} (hF:F.le F') {x:Value} {a:AV} (h:PV F x a):PV F' x a:=by
 induction h with
 | v x h=>exact .v x h
 | agg cs as_ hl h1 h ih=>exact .agg cs as_ hl h1 ih
 | tup cs as_ hl h ih=>exact .tup cs as_ hl ih
 | sl A n cap k es hn hc hm hk h1 b o hA f hf h ih=>exact .sl A n cap k es hn hc hm hk h1 b o hA f (fun i j hi hj=>hF _ _ _ (hf i j hi hj)) ih
 | ad b o k es i off hk h1 f hf h ih=>exact .ad b o k es i off hk h1 f (fun i j hi hj=>hF _ _ _ (hf i j hi hj)) ih
 | fn f xs as_ hl h ih=>exact .fn f xs as_ hl ih
theorem PV.oneCell {F:Fz} {x:Value} {a:AV} (h:PV F x a) (ha:a.one=true):x.oneCell'=true:=by
 cases h with
 | v x h=>exact scal_one h
 | agg=>cases ha
 | tup=>cases ha
 | sl=>rfl
 | ad=>rfl
 | fn=>rfl
structure Ds where
 b:Nat
 C:Nat
 g:Nat
 k:Nat
abbrev Ow:=List Ds
inductive VR (F:Fz) (O:Ow):Value->AV->Prop
 | p {x:Value} {a:AV} (h:PV F x a):VR F O x a
 | agg (cs:List Value) (as_:List AV) (hl:cs.length=as_.length) (h1:∀ a ∈ as_,AV.one a=true) (h:∀ (i:Nat) (c:Value) (a:AV),cs[i]? = some c->as_[i]? = some a->VR F O c a):VR F O (.agg cs.toArray) (.agg as_)
 | tup (cs:List Value) (as_:List AV) (hl:cs.length=as_.length) (h:∀ (i:Nat) (c:Value) (a:AV),cs[i]? = some c->as_[i]? = some a->VR F O c a):VR F O (.tuple cs.toArray) (.tup as_)
 | nl (k:Nat):VR F O (.slice none 0 0) (.nl k)
 | em (A:Option Addr) (c:Nat) (b:Bool) (k:Nat) (hb:A.isSome = !b) (hm:c<=maxLen):VR F O (.slice A 0 c) (.em b k)
 | ol (x:Value) (i g n:Nat) (d:Ds) (hd:O[i]? = some d) (hg:g<=d.g) (h1:∃ A c,x = .slice A n c) (h:g=d.g->n<=d.C/\x = .slice (some ⟨d.b,0,none⟩) n d.C):VR F O x (.ol i g n)
 | os (x:Value) (i g lo n:Nat) (d:Ds) (hd:O[i]? = some d) (hg:g<=d.g) (h1:∃ A c,x = .slice A (n - lo) c) (h:g=d.g->lo<=n/\n<=d.C/\∃ A,x = .slice A (n - lo) (d.C - lo)/\(lo < d.C->A=some ⟨d.b,lo * d.k,none⟩)):VR F O x (.os i g lo n)
 | oa (x:Value) (i g e off:Nat) (d:Ds) (hd:O[i]? = some d) (hg:g<=d.g) (h1:x.oneCell'=true) (h:g=d.g->x = .pointer (some ⟨d.b,e * d.k+off,none⟩)):VR F O x (.oa i g e off)
 | io (x:Value) (t i g e off:Nat) (d:Ds) (hd:O[i]? = some d) (hg:g<=d.g) (h1:x.oneCell'=true) (h:g=d.g->x = .iface t (.pointer (some ⟨d.b,e * d.k+off,none⟩))):VR F O x (.io t i g e off)
 | oc (x:Value) (i g n c:Nat) (d:Ds) (hd:O[i]? = some d) (hg:g<=d.g) (h1:∃ A cc,x = .slice A n cc) (h:g=d.g->n<=d.C/\d.C=c/\x = .slice (some ⟨d.b,0,none⟩) n d.C):VR F O x (.oc i g n c)
 | mf (x:Value) (nm:String) (t i g e off:Nat) (d:Ds) (hd:O[i]? = some d) (hg:g<=d.g) (h1:x.oneCell'=true) (h:g=d.g->x = .func (.method nm) #[.iface t (.pointer (some ⟨d.b,e * d.k+off,none⟩))] #[]):VR F O x (.mf nm t i g e off)
 | bf (x:Value) (f:FuncId) (i g e off:Nat) (d:Ds) (hd:O[i]? = some d) (hg:g<=d.g) (h1:x.oneCell'=true) (h:g=d.g->x = .func (.func f) #[.pointer (some ⟨d.b,e * d.k+off,none⟩)] #[]):VR F O x (.bf f i g e off)
 | ib (x:Value) (t f i g e off:Nat) (d:Ds) (hd:O[i]? = some d) (hg:g<=d.g) (h1:x.oneCell'=true) (h:g=d.g->x = .iface t (.func (.func f) #[.pointer (some ⟨d.b,e * d.k+off,none⟩)] #[])):VR F O x (.ib t f i g e off)
 | mp (x:Value) (i g:Nat) (d:Ds) (hd:O[i]? = some d) (hg:g<=d.g) (h1:x.oneCell'=true) (h:g=d.g->x = .map (some d.b)):VR F O x (.mp i g)
 | fn (f:FuncId) (xs:List Value) (as_:List AV) (hl:xs.length=as_.length) (h:∀ (i:Nat) (c:Value) (a:AV),xs[i]? = some c->as_[i]? = some a->VR F O c a):VR F O (.func (.func f) #[] xs.toArray) (.fn f as_)
 | unk (x:Value):VR F O x .unk
def Ow.le (O O':Ow):Prop:=∀ (i:Nat) (d:Ds),O[i]? = some d->∃ d',O'[i]? = some d'/\d.g<=d'.g/\(d.g=d'.g->d'=d)
theorem Ow.le_refl (O:Ow):O.le O:=fun i d h=>⟨d,h,Nat.le_refl _,fun _=>rfl⟩
theorem Ow.le_trans {O O' O'':Ow} (h:O.le O') (k:O'.le O''):O.le O'':=fun i d hd=>by
 obtain ⟨d1,e1,g1,f1⟩:=h i d hd
 obtain ⟨d2,e2,g2,f2⟩:=k i d1 e1
 refine ⟨d2,e2,Nat.le_trans g1 g2,fun e=>?_⟩
 have e3:d.g=d1.g:=by omega
 have e4:d1.g=d2.g:=by omega
 rw [f2 e4,f1 e3]
theorem VR.mono {F F':Fz} {O O':Ow} (hF:F.le F') (hO:O.le O') {x:Value} {a:AV} (h:VR F O x a):VR F' O' x a:=by
 induction h with
 | p h=>exact .p (h.mono hF)
 | agg cs as_ hl h1 h ih=>exact .agg cs as_ hl h1 ih
 | tup cs as_ hl h ih=>exact .tup cs as_ hl ih
 | nl k=>exact .nl k
 | em A c b k hb hm=>exact .em A c b k hb hm
 | ol x i g n d hd hg h1 h =>
  obtain ⟨d',e,g1,f1⟩:=hO i d hd
  exact .ol x i g n d' e (by omega) h1 fun e'=>by
   have:d.g=d'.g:=by omega
   rw [f1 this]
   exact h (by omega)
 | os x i g lo n d hd hg h1 h =>
  obtain ⟨d',e,g1,f1⟩:=hO i d hd
  exact .os x i g lo n d' e (by omega) h1 fun e'=>by
   have:d.g=d'.g:=by omega
   rw [f1 this]
   exact h (by omega)
 | oa x i g e off d hd hg h1 h =>
  obtain ⟨d',e',g1,f1⟩:=hO i d hd
  exact .oa x i g e off d' e' (by omega) h1 fun e'=>by
   have:d.g=d'.g:=by omega
   rw [f1 this]
   exact h (by omega)
 | oc x i g n c d hd hg h1 h =>
  obtain ⟨d',e,g1,f1⟩:=hO i d hd
  exact .oc x i g n c d' e (by omega) h1 fun e'=>by
   have:d.g=d'.g:=by omega
   rw [f1 this]
   exact h (by omega)
 | ib x t f i g e off d hd hg h1 h =>
  obtain ⟨d',e',g1,f1⟩:=hO i d hd
  exact .ib x t f i g e off d' e' (by omega) h1 fun e'=>by
   have:d.g=d'.g:=by omega
   rw [f1 this]
   exact h (by omega)
 | bf x f i g e off d hd hg h1 h =>
  obtain ⟨d',e',g1,f1⟩:=hO i d hd
  exact .bf x f i g e off d' e' (by omega) h1 fun e'=>by
   have:d.g=d'.g:=by omega
   rw [f1 this]
   exact h (by omega)
 | mf x nm t i g e off d hd hg h1 h =>
  obtain ⟨d',e',g1,f1⟩:=hO i d hd
  exact .mf x nm t i g e off d' e' (by omega) h1 fun e'=>by
   have:d.g=d'.g:=by omega
   rw [f1 this]
   exact h (by omega)
 | mp x i g d hd hg h1 h =>
  obtain ⟨d',e',g1,f1⟩:=hO i d hd
  exact .mp x i g d' e' (by omega) h1 fun e'=>by
   have:d.g=d'.g:=by omega
   rw [f1 this]
   exact h (by omega)
 | io x t i g e off d hd hg h1 h =>
  obtain ⟨d',e',g1,f1⟩:=hO i d hd
  exact .io x t i g e off d' e' (by omega) h1 fun e'=>by
   have:d.g=d'.g:=by omega
   rw [f1 this]
   exact h (by omega)
 | fn f xs as_ hl h ih=>exact .fn f xs as_ hl ih
 | unk x=>exact .unk x
theorem VR.oneCell {F:Fz} {O:Ow} {x:Value} {a:AV} (h:VR F O x a) (ha:a.one=true):x.oneCell'=true:=by
 cases h with
 | p h=>exact h.oneCell ha
 | agg=>cases ha
 | tup=>cases ha
 | nl=>rfl
 | em=>rfl
 | ol _ _ _ _ _ _ _ h1=>obtain ⟨A,c,rfl⟩:=h1;rfl
 | os _ _ _ _ _ _ _ _ h1=>obtain ⟨A,c,rfl⟩:=h1;rfl
 | oa _ _ _ _ _ _ _ _ h1=>exact h1
 | io _ _ _ _ _ _ _ _ _ h1=>exact h1
 | mp _ _ _ _ _ _ h1=>exact h1
 | oc _ _ _ _ _ _ _ _ h1=>obtain ⟨A,c,rfl⟩:=h1;rfl
 | mf _ _ _ _ _ _ _ _ _ _ h1=>exact h1
 | bf _ _ _ _ _ _ _ _ _ h1=>exact h1
 | ib _ _ _ _ _ _ _ _ _ _ h1=>exact h1
 | fn=>rfl
 | unk=>cases ha
theorem VR.pvC0 {F:Fz} {O:Ow} {x:Value} {a:AV} (h:VR F O x a) (ha:a.isC0=true):PV F x a:=by
 cases h with
 | p h=>exact h
 | agg=>cases ha
 | tup=>cases ha
 | nl=>cases ha
 | em=>cases ha
 | ol=>cases ha
 | os=>cases ha
 | oa=>cases ha
 | io=>cases ha
 | mp=>cases ha
 | oc=>cases ha
 | mf=>cases ha
 | bf=>cases ha
 | ib=>cases ha
 | fn=>cases ha
 | unk=>cases ha
theorem VR.pvC {F:Fz} {O:Ow} {x:Value} {a:AV} (h:VR F O x a) (ha:a.isC=true):PV F x a:=by
 cases h with
 | p h=>exact h
 | agg=>cases ha
 | tup=>cases ha
 | nl=>cases ha
 | em=>cases ha
 | ol=>cases ha
 | os=>cases ha
 | oa=>cases ha
 | io=>cases ha
 | mp=>cases ha
 | oc=>cases ha
 | mf=>cases ha
 | bf=>cases ha
 | ib=>cases ha
 | fn f xs as_ hl h =>
  simp only [AV.isC,List.all_eq_true] at ha
  exact .fn f xs as_ hl fun i c a hc h2=>(h i c a hc h2).pvC0 (ha a (List.mem_of_getElem? h2))
 | unk=>cases ha
theorem VR.pv {F:Fz} {O:Ow} {x:Value} {a:AV} (h:VR F O x a) (ha:a.isP=true):PV F x a:=by
 cases h with
 | p h=>exact h
 | agg cs as_ hl h1 h =>
  refine .agg cs as_ hl h1 fun i c a hc h2=>(h i c a hc h2).pvC ?_
  simp only [AV.isP,List.all_eq_true] at ha
  exact ha a (List.mem_of_getElem? h2)
 | tup=>cases ha
 | nl=>cases ha
 | em=>cases ha
 | ol=>cases ha
 | os=>cases ha
 | oa=>cases ha
 | io=>cases ha
 | mp=>cases ha
 | oc=>cases ha
 | mf=>cases ha
 | bf=>cases ha
 | ib=>cases ha
 | fn f xs as_ hl h =>
  simp only [AV.isP,AV.isC,List.all_eq_true] at ha
  exact .fn f xs as_ hl fun i c a hc h2=>(h i c a hc h2).pvC0 (ha a (List.mem_of_getElem? h2))
 | unk=>cases ha
theorem VR.cells {F : Fz} {O : Ow} {x : Value} {a : AV} (h : VR F O x a) (ha : a.one = true \/ ∃ cs, a = .agg cs) :
  x.cells.size=a.cells.length/\(∀ u ∈ a.cells,u.one=true)/\∀ (j:Nat) (u:AV),a.cells[j]? = some u->∃ c,x.cells[j]? = some c/\VR F O c u:=by
 have single:a.one=true->x.oneCell'=true->x.cells.size=a.cells.length/\(∀ u ∈ a.cells,u.one=true)/\∀ (j:Nat) (u:AV),a.cells[j]? = some u->∃ c,x.cells[j]? = some c/\VR F O c u:=fun h1 h2=>by
  have e1:a.cells=[a]:=by cases a<;>first|rfl|cases h1
  have e2:x.cells = #[x]:=by cases x<;>first|rfl|cases h2
  rw [e1,e2]
  refine ⟨rfl,by simpa using h1,fun j u hj=>?_⟩
  cases j with
  | zero=>simp at hj;subst hj;exact ⟨x,rfl,h⟩
  | succ j=>simp at hj
 rcases ha with ha|⟨as_,rfl⟩
 ·exact single ha (h.oneCell ha)
 ·cases h with
  | p h =>
   cases h with
   | agg cs as_ hl h1 h =>
    refine ⟨by simpa [Value.cells,AV.cells] using hl,h1,fun j u hj=>?_⟩
    have hj':as_[j]? = some u:=hj
    have:j < cs.length:=by rw [hl];exact (List.getElem?_eq_some_iff.1 hj').1
    exact ⟨cs[j],by simp [Value.cells,this],.p (h j _ _ (List.getElem?_eq_getElem this) hj')⟩
  | agg cs as_ hl h1 h =>
   refine ⟨by simpa [Value.cells,AV.cells] using hl,h1,fun j u hj=>?_⟩
   have hj':as_[j]? = some u:=hj
   have:j < cs.length:=by rw [hl];exact (List.getElem?_eq_some_iff.1 hj').1
   exact ⟨cs[j],by simp [Value.cells,this],h j _ _ (List.getElem?_eq_getElem this) hj'⟩
structure OB where
 e:TypeId
 k:Nat
 es:List AV
 g:Nat
 fz:Nat
abbrev Hp:=List OB
structure Bd where
 n:Nat
 K:Nat->Prop
 ds:List Deferred:=[]
def Bd.ok (B:Bd) (b:Nat):Prop:=B.n<=b/\¬ B.K b
abbrev Bd.of (n:Nat):Bd:=⟨n,fun _=>False,[]⟩
theorem Bd.of_ok {n b:Nat} (h:n<=b):(Bd.of n).ok b:=⟨h,fun h=>h⟩
abbrev ZM:TypeId:=4000000000
def ww (x:MapEntry):List Value:=x.key::(x.val.cells.toList++[.int .i64 (x.born:Int)])
def wW (ag:Bool) (m c:Nat) (es:Array MapEntry):Array Value:=((Value.int .i64 (c:Int) :: .bool ag::List.replicate m (.bool false))++es.toList.flatMap ww).toArray
def xi (ag:Bool) (m:Nat) (v:Value):Prop:=v.cells.size=m/\(if ag=true then ∃ cs,v = .agg cs else v.oneCell'=true)
def yt (b since:Nat) (seen:Array Nat) (last:Nat):Array Value:=(Value.map (some b) :: .int .i64 (since:Int) :: .int .i64 (last:Int)::seen.toList.map fun (s:Nat)=>.int .i64 (s:Int)).toArray
def ObjIs (o:Option Obj) (e:TypeId) (k n:Nat) (cur:Array Value):Prop:=(e ≠ ZM/\o=some (.cells cur e (0,0)))\/(e=ZM/\((∃ ents clock ag m,k=m+2/\o=some (.map ents clock)/\cur=wW ag m clock ents/\ents.size+1=n/\∀ x ∈ ents.toList,xi ag m x.val)\/(k=1/\∃ m since seen last,o=some (.mapIter (some m) since seen last)/\cur=yt m since seen last/\seen.size+3=n)\/(k=0/\(∃ c e' fr,o=some (.cells c e' fr))/\cur = #[]/\n=0)))
theorem ObjIs.is {o:Option Obj} {e:TypeId} {k n:Nat} {cur:Array Value} (h:ObjIs o e k n cur):∃ x,o=some x:=by
 rcases h with ⟨_,h⟩|⟨_,⟨_,_,_,_,_,h,_⟩|⟨_,_,_,_,_,h,_⟩|⟨_,⟨_,_,_,h⟩,_⟩⟩<;>exact ⟨_,h⟩
theorem ObjIs.row {o:Option Obj} {e:TypeId} {k n:Nat} {cur:Array Value} (h:ObjIs o e k n cur) (ne:e ≠ ZM):o=some (Obj.cells cur e (0,0)):=by
 rcases h with ⟨_,h⟩|⟨h,_⟩
 ·exact h
 ·exact absurd h ne
structure Row (B:Bd) (F:Fz) (O:Ow) (w:World) (d:Ds) (ob:OB):Prop where
 hg:d.g=ob.g
 hk:d.k=ob.k
 hB:B.ok d.b
 cur:∃ cur,ObjIs (w.heap[d.b]?) ob.e ob.k ob.es.length cur/\(ob.e ≠ ZM->cur.size=d.C * ob.k)/\∀ (n j:Nat) (e a:AV),ob.es[n]? = some e->e.cells[j]? = some a->∃ c,cur[n * ob.k+j]? = some c/\VR F O c a
 hC:d.C<=maxLen
 hl:ob.e ≠ ZM->ob.es.length<=d.C
 hn:∀ e ∈ ob.es,e.cells.length=ob.k
 h1:∀ e ∈ ob.es,∀ a ∈ e.cells,AV.one a=true
 hf:∀ o v,F d.b o=some v->o < ob.fz * ob.k
 hz:ob.fz<=ob.es.length
theorem Row.curc {B:Bd} {F:Fz} {O:Ow} {w:World} {d:Ds} {ob:OB} (r:Row B F O w d ob) (ne:ob.e ≠ ZM):∃ cur,w.heap[d.b]? = some (.cells cur ob.e (0,0))/\cur.size=d.C * ob.k/\∀ (n j:Nat) (e a:AV),ob.es[n]? = some e->e.cells[j]? = some a->∃ c,cur[n * ob.k+j]? = some c/\VR F O c a:=by
 obtain ⟨cur,h1,h2,h3⟩:=r.cur
 exact ⟨cur,h1.row ne,h2 ne,h3⟩
structure Own (B:Bd) (w0:World) (F0 F:Fz) (O:Ow) (H:Hp) (w:World):Prop where
 len:O.length=H.length
 row:∀ (i:Nat) (d:Ds) (ob:OB),O[i]? = some d->H[i]? = some ob->Row B F O w d ob
 inj:∀ (i j:Nat) (d d':Ds),O[i]? = some d->O[j]? = some d'->d.b=d'.b->i=j
 fr:∀ b o v,F b o=some v->w.cell? ⟨b,o,none⟩=some v
 le:F0.le F
 new:∀ b o v,F b o=some v->F0 b o=some v\/B.ok b
 below:Below B.n w0 w
 size:B.n<=w.heap.size
 kept:∀ b,B.K b->w.heap[b]? = w0.heap[b]?
 kb:∀ b,B.K b->b < w0.heap.size
theorem Row.ds {B:Bd} {F:Fz} {O:Ow} {w:World} {d:Ds} {ob:OB} (h:Row B F O w d ob) (ds:List Deferred):Row ⟨B.n,B.K,ds⟩ F O w d ob:=⟨h.hg,h.hk,h.hB,h.cur,h.hC,h.hl,h.hn,h.h1,h.hf,h.hz⟩
theorem Own.ds {B:Bd} {w0 w:World} {F0 F:Fz} {O:Ow} {H:Hp} (h:Own B w0 F0 F O H w) (ds:List Deferred):Own ⟨B.n,B.K,ds⟩ w0 F0 F O H w:=⟨h.len,fun i d ob a b=>(h.row i d ob a b).ds ds,h.inj,h.fr,h.le,h.new,h.below,h.size,h.kept,h.kb⟩
theorem Own.get {B:Bd} {w0 w:World} {F0 F:Fz} {O:Ow} {H:Hp} (h:Own B w0 F0 F O H w) {i:Nat} {ob:OB} (hi:H[i]? = some ob):∃ d,O[i]? = some d/\Row B F O w d ob:=by
 have hl:i < O.length:=by rw [h.len];exact (List.getElem?_eq_some_iff.1 hi).1
 exact ⟨O[i],List.getElem?_eq_getElem hl,h.row i _ ob (List.getElem?_eq_getElem hl) hi⟩
theorem Row.lt {B:Bd} {F:Fz} {O:Ow} {w:World} {d:Ds} {ob:OB} (h:Row B F O w d ob):d.b < w.heap.size:=by
 obtain ⟨cur,hc,_⟩:=h.cur
 obtain ⟨x,hc⟩:=hc.is
 rcases Nat.lt_or_ge d.b w.heap.size with hh|hh
 ·exact hh
 ·rw [Array.getElem?_eq_none hh] at hc;cases hc
theorem yk {w:World} {a:Addr} {v:Value} (h:w.cell? a=some v):a.block < w.heap.size:=by
 rcases Nat.lt_or_ge a.block w.heap.size with hh|hh
 ·exact hh
 ·unfold World.cell? at h;rw [Array.getElem?_eq_none hh] at h;cases h
theorem Own.keep {B:Bd} {w0 w w':World} {F0 F:Fz} {O:Ow} {H:Hp} (h:Own B w0 F0 F O H w) (hb:Below w.heap.size w w'):Own B w0 F0 F O H w' where
 len:=h.len
 row:=fun i d ob hd ho=>by
  have r:=h.row i d ob hd ho
  obtain ⟨cur,h1,h2⟩:=r.cur
  exact { r with cur:=⟨cur,by rw [hb.block _ r.lt];exact h1,h2⟩ }
 inj:=h.inj
 fr:=fun b o v hv=>by
  have:=h.fr b o v hv
  rw [hb.cell (p:=⟨b,o,none⟩) (yk this)]
  exact this
 le:=h.le
 new:=h.new
 below:=h.below.trans (hb.mono h.size)
 size:=Nat.le_trans h.size hb.size
 kept:=fun b hk=>by rw [hb.block b (Nat.lt_of_lt_of_le (h.kb b hk) h.below.size)];exact h.kept b hk
 kb:=h.kb
theorem Own.okGe {B:Bd} {w0 w:World} {F0 F:Fz} {O:Ow} {H:Hp} (h:Own B w0 F0 F O H w) {b:Nat} (hb:w.heap.size<=b):B.ok b :=
 ⟨Nat.le_trans h.size hb,fun hk=>by have:=h.kb b hk;have:=h.below.size;omega⟩
theorem Own.freeze {B : Bd} {w0 w : World} {F0 F : Fz} {O : Ow} {H : Hp} (h : Own B w0 F0 F O H w) {i : Nat} {ob : OB} (hi : H[i]? = some ob) (ne : ob.e ≠ ZM) {n : Nat} (hn : n <= ob.es.length) (hp : (ob.es.take n).all AV.isP = true) {x : Value} (hx : VR F O x (.ol i ob.g n)) :
  ∃ F',PV F' x (.sl ob.k (ob.es.take n))/\Own B w0 F0 F' O (H.set i { ob with fz:=max ob.fz n }) w/\F.le F':=by
 obtain ⟨d,hd,r⟩:=h.get hi
 obtain ⟨cur,hcur,hsz,hcell⟩:=r.curc ne
 have hF':F.le (fun b o=>if b=d.b/\o < n * ob.k then w.cell? ⟨b,o,none⟩ else F b o):=fun b o v hv=>by
  by_cases hc:b=d.b/\o < n * ob.k
  ·simp only [if_pos hc];exact h.fr b o v hv
  ·simp only [if_neg hc];exact hv
 have hxv:n<=d.C/\x = .slice (some ⟨d.b,0,none⟩) n d.C:=by
  cases hx with
  | p h=>cases h
  | ol x i g n d' hd' hg h1 h =>
   rw [hd] at hd'
   cases hd'
   exact h r.hg.symm
 have hcw:∀ o c,cur[o]? = some c->w.cell? ⟨d.b,o,none⟩=some c:=fun o c hc=>by
  simp [World.cell?,hcur,hc]
 refine ⟨_,?_,?_,hF'⟩
 ·rw [hxv.2]
  refine .sl _ n d.C ob.k (ob.es.take n) (by simp;omega) hxv.1 r.hC (fun e he=>r.hn e (List.mem_of_mem_take he)) (fun e he=>r.h1 e (List.mem_of_mem_take he)) d.b 0 (fun _=>rfl)
   (fun i j=>(w.cell? ⟨d.b,0+i * ob.k+j,none⟩).getD undef) ?_ ?_
  ·intro i j hin hjk
   have hlt:0+i * ob.k+j < n * ob.k:=by
    have:=Nat.mul_le_mul_right ob.k (show i+1<=n by omega)
    rw [Nat.add_mul] at this;omega
   simp only [true_and,hlt,if_true]
   have hic:(i * ob.k+j) < cur.size:=by
    rw [hsz]
    have:=Nat.mul_le_mul_right ob.k hxv.1
    omega
   rw [hcw (0+i * ob.k+j) cur[i * ob.k+j] (by rw [Nat.zero_add];exact Array.getElem?_eq_getElem hic)]
   rfl
  ·intro i j e a he ha
   have he':ob.es[i]? = some e:=by
    rw [List.getElem?_take] at he
    split at he
    ·exact he
    ·cases he
   obtain ⟨c,hc,hr⟩:=hcell i j e a he' ha
   rw [hcw (0+i * ob.k+j) c (by rw [Nat.zero_add];exact hc)]
   have hep:e.isP=true:=(List.all_eq_true.1 hp) e (List.mem_of_getElem? he)
   refine (hr.pvC ?_).mono hF'
   cases e with
   | agg cs =>
    simp only [AV.isP,List.all_eq_true] at hep
    exact hep a (List.mem_of_getElem? ha)
   | _ =>
    have:a ∈ [_]:=List.mem_of_getElem? ha
    simp at this
    subst this
    exact hep
 ·refine ⟨by simpa using h.len, ?_, h.inj, ?_, Fz.le_trans h.le hF', ?_, h.below, h.size, h.kept, h.kb⟩
  ·intro j d' ob' hd' ho'
   rw [List.getElem?_set] at ho'
   split at ho'
   ·rename_i hij
    subst hij
    split at ho'
    ·rw [hd] at hd'
     cases hd'
     cases ho'
     refine ⟨r.hg,r.hk,r.hB,⟨cur,.inl ⟨ne,hcur⟩,fun _=>hsz,fun n j e a he ha=>?_⟩,r.hC,r.hl,r.hn,r.h1,?_,?_⟩
     ·obtain ⟨c, hc, hr⟩ := hcell n j e a he ha
      exact ⟨c,hc,hr.mono hF' (Ow.le_refl O)⟩
     ·intro o v hv
      have hm1:ob.fz * ob.k<=max ob.fz n * ob.k:=Nat.mul_le_mul_right _ (Nat.le_max_left _ _)
      have hm2:n * ob.k<=max ob.fz n * ob.k:=Nat.mul_le_mul_right _ (Nat.le_max_right _ _)
      by_cases hc:d.b=d.b/\o < n * ob.k
      ·exact Nat.lt_of_lt_of_le hc.2 hm2
      ·have hv' : (if d.b = d.b /\ o < n * ob.k then w.cell? ⟨d.b, o, none⟩ else F d.b o) = some v := hv
       rw [if_neg hc] at hv'
       exact Nat.lt_of_lt_of_le (r.hf o v hv') hm1
     ·exact Nat.max_le.2 ⟨r.hz,hn⟩
    ·cases ho'
   ·rename_i hij
    have r':=h.row j d' ob' hd' ho'
    obtain ⟨cur',hcur',hsz',hcell'⟩:=r'.cur
    refine { r' with cur:=⟨cur',hcur',hsz',fun n j e a he ha=>?_⟩,hf:=?_ }
    ·obtain ⟨c, hc, hr⟩ := hcell' n j e a he ha
     exact ⟨c,hc,hr.mono hF' (Ow.le_refl O)⟩
    ·intro o v hv
     have hne:d'.b ≠ d.b:=fun e=>hij (h.inj i j d d' hd hd' e.symm)
     simp only [hne,false_and,if_false] at hv
     exact r'.hf o v hv
  ·intro b o v hv
   by_cases hc:b=d.b/\o < n * ob.k
   ·simp only [if_pos hc] at hv;exact hv
   ·simp only [if_neg hc] at hv;exact h.fr b o v hv
  ·intro b o v hv
   by_cases hc:b=d.b/\o < n * ob.k
   ·right;rw [hc.1];exact r.hB
   ·simp only [if_neg hc] at hv;exact h.new b o v hv
theorem Own.freezeA {B : Bd} {w0 w : World} {F0 F : Fz} {O : Ow} {H : Hp} (h : Own B w0 F0 F O H w) {i : Nat} {ob : OB} (hi : H[i]? = some ob) (ne : ob.e ≠ ZM) (hp : ob.es.all AV.isP = true) {x : Value} {e off : Nat} (hx : VR F O x (.oa i ob.g e off)) :
  ∃ F',PV F' x (.ad ob.k ob.es e off)/\Own B w0 F0 F' O (H.set i { ob with fz:=max ob.fz ob.es.length }) w/\F.le F':=by
 obtain ⟨d,hd,r⟩:=h.get hi
 have hxv:x = .pointer (some ⟨d.b,e * d.k+off,none⟩):=by
  cases hx with
  | p h=>cases h
  | oa x i g e off d' hd' hg h1 h =>
   rw [hd] at hd'
   cases hd'
   exact h r.hg.symm
 have hy:VR F O (.slice (some ⟨d.b,0,none⟩) ob.es.length d.C) (.ol i ob.g ob.es.length):=.ol _ i ob.g _ d hd (by rw [r.hg];omega) ⟨_,_,rfl⟩ fun _=>⟨r.hl ne,rfl⟩
 obtain ⟨F',p,o,l⟩:=h.freeze hi ne (Nat.le_refl _) (by rw [List.take_length];exact hp) hy
 rw [List.take_length] at p
 refine ⟨F',?_,o,l⟩
 rw [hxv,r.hk]
 cases p with
 | sl A n cap k es hn hc hm hk h1 b o' hA f hf hh =>
  have e0:(⟨d.b,e * ob.k+off,none⟩:Addr)=⟨d.b,0+e * ob.k+off,none⟩:=by simp
  rw [e0]
  refine .ad d.b 0 ob.k ob.es e off hk h1 f (fun i j hi hj=>?_) hh
  have:=hA (by omega)
  cases this
  exact hf i j hi hj
def ZL (H:Hp):AV->Option (AV × Hp)
 | .nl k=>some (.sl k [],H)
 | .em _ k=>some (.sl k [],H)
 | .ol i g n =>
  match H[i]? with
  | some ob=>if (ob.g=g/\n<=ob.es.length/\(ob.es.take n).all AV.isP=true)/\(ob.e == 4000000000)=false then some (.sl ob.k (ob.es.take n),H.set i { ob with fz:=max ob.fz n }) else none
  | none=>none
 | .oa i g e off =>
  match H[i]? with
  | some ob=>if (ob.g=g/\ob.es.all AV.isP=true)/\(ob.e == 4000000000)=false then some (.ad ob.k ob.es e off,H.set i { ob with fz:=max ob.fz ob.es.length }) else none
  | none=>none
 | a=>if a.isC then some (a,H) else none
def xt:Hp->List AV->Option (List AV × Hp)
 | H,[]=>some ([],H)
 | H,a::as_ =>
  match ZL H a with
  | some (a',H')=>(match xt H' as_ with|some (as',H'')=>some (a'::as',H'')|none=>none)
  | none=>none
def pur (H:Hp):AV->Option (AV × Hp)
 | .agg cs=>(match xt H cs with|some (cs',H')=>some (.agg cs',H')|none=>none)
 | .fn f cs=>(match xt H cs with|some (cs',H')=>some (.fn f cs',H')|none=>none)
 | a=>ZL H a
def yv:Hp->List AV->Option (List AV × Hp)
 | H,[]=>some ([],H)
 | H,a::as_ =>
  match pur H a with
  | some (a',H')=>(match yv H' as_ with|some (as',H'')=>some (a'::as',H'')|none=>none)
  | none=>none
theorem purC_isC {H:Hp} {a:AV} (h:a.isC=true):ZL H a=some (a,H):=by
 cases a with
 | fn f cs=>simp only [ZL,h,if_true]
 | _=>first|rfl|cases h
theorem isC_of0 {a:AV} (h:a.isC0=true):a.isC=true:=by cases a<;>first|rfl|cases h
theorem X7 {H:Hp}:∀ {as_:List AV},as_.all AV.isC=true->xt H as_=some (as_,H)
 | [],_=>rfl
 | a::as_,h=>by
  simp only [List.all_cons,Bool.and_eq_true] at h
  simp only [xt,purC_isC h.1,X7 h.2]
theorem pur_isP {H:Hp} {a:AV} (h:a.isP=true):pur H a=some (a,H):=by
 cases a with
 | agg cs=>simp only [pur,X7 (H:=H) (as_:=cs) h]
 | fn f cs=>simp only [pur,X7 (H:=H) (as_:=cs) (List.all_eq_true.2 fun a ha=>isC_of0 (List.all_eq_true.1 (show cs.all AV.isC0=true from h) a ha))]
 | v x=>rfl
 | sl k es=>rfl
 | ad k es i off=>rfl
 | _=>cases h
theorem wa {H:Hp}:∀ {as_:List AV},as_.all AV.isP=true->yv H as_=some (as_,H)
 | [],_=>rfl
 | a::as_,h=>by
  simp only [List.all_cons,Bool.and_eq_true] at h
  simp only [yv,pur_isP h.1,wa h.2]
theorem Wy {B : Bd} {w0 w : World} {F0 F : Fz} {O : Ow} {H H' : Hp} (h : Own B w0 F0 F O H w) {x : Value} {a a' : AV} (hx : VR F O x a) (hp : ZL H a = some (a', H')) :
  ∃ F',PV F' x a'/\Own B w0 F0 F' O H' w/\F.le F'/\a'.one=true:=by
 cases a with
 | nl k =>
  simp only [ZL,Option.some.injEq,Prod.mk.injEq] at hp
  obtain ⟨rfl,rfl⟩:=hp
  cases hx with
  | p h=>cases h
  | nl=>exact ⟨F,.sl none 0 0 k [] rfl (Nat.le_refl _) (Nat.zero_le _) (fun e he=>by cases he) (fun e he=>by cases he) 0 0 (fun h=>absurd h (Nat.lt_irrefl _)) (fun _ _=>undef) (fun i j hi=>absurd hi (Nat.not_lt_zero _)) (fun i j e a he=>by simp at he),h,Fz.le_refl F,rfl⟩
 | em b k =>
  simp only [ZL,Option.some.injEq,Prod.mk.injEq] at hp
  obtain ⟨rfl,rfl⟩:=hp
  cases hx with
  | p h=>cases h
  | em A c b k hb hm=>exact ⟨F,.sl A 0 c k [] rfl (Nat.zero_le _) hm (fun e he=>by cases he) (fun e he=>by cases he) 0 0 (fun h=>absurd h (Nat.lt_irrefl _)) (fun _ _=>undef) (fun i j hi=>absurd hi (Nat.not_lt_zero _)) (fun i j e a he=>by simp at he),h,Fz.le_refl F,rfl⟩
 | ol i g n =>
  simp only [ZL] at hp
  split at hp
  ·rename_i ob hi
   split at hp
   ·rename_i hc
    obtain ⟨⟨rfl,hn,ht⟩,hne⟩:=hc
    simp only [Option.some.injEq,Prod.mk.injEq] at hp
    obtain ⟨rfl,rfl⟩:=hp
    obtain ⟨F',h1,h2,h3⟩:=h.freeze hi (by simpa using hne) hn ht hx
    exact ⟨F',h1,h2,h3,rfl⟩
   ·cases hp
  ·cases hp
 | os i g lo n=>simp [ZL,AV.isC,AV.isC0] at hp
 | v y =>
  simp only [ZL,AV.isC,AV.isC0,if_true,Option.some.injEq,Prod.mk.injEq] at hp
  obtain ⟨rfl,rfl⟩:=hp
  exact ⟨F,hx.pvC rfl,h,Fz.le_refl F,rfl⟩
 | sl k es =>
  simp only [ZL,AV.isC,AV.isC0,if_true,Option.some.injEq,Prod.mk.injEq] at hp
  obtain ⟨rfl,rfl⟩:=hp
  exact ⟨F,hx.pvC rfl,h,Fz.le_refl F,rfl⟩
 | ad k es i off =>
  simp only [ZL,AV.isC,AV.isC0,if_true,Option.some.injEq,Prod.mk.injEq] at hp
  obtain ⟨rfl,rfl⟩:=hp
  exact ⟨F,hx.pvC rfl,h,Fz.le_refl F,rfl⟩
 | agg cs=>simp [ZL,AV.isC,AV.isC0] at hp
 | tup cs=>simp [ZL,AV.isC,AV.isC0] at hp
 | oa i g e off =>
  simp only [ZL] at hp
  split at hp
  ·rename_i ob hi
   split at hp
   ·rename_i hc
    obtain ⟨⟨rfl,ht⟩,hne⟩:=hc
    simp only [Option.some.injEq,Prod.mk.injEq] at hp
    obtain ⟨rfl,rfl⟩:=hp
    obtain ⟨F',h1,h2,h3⟩:=h.freezeA hi (by simpa using hne) ht hx
    exact ⟨F',h1,h2,h3,rfl⟩
   ·cases hp
  ·cases hp
 | fn f cs =>
  simp only [ZL] at hp
  split at hp
  ·rename_i hc
   cases hp
   exact ⟨F,hx.pvC hc,h,Fz.le_refl F,rfl⟩
  ·cases hp
 | io t i g e off=>simp [ZL,AV.isC,AV.isC0] at hp
 | mp i g=>simp [ZL,AV.isC,AV.isC0] at hp
 | oc i g n c=>simp [ZL,AV.isC,AV.isC0] at hp
 | mf nm t i g e off=>simp [ZL,AV.isC,AV.isC0] at hp
 | bf f i g e off=>simp [ZL,AV.isC,AV.isC0] at hp
 | ib t f i g e off=>simp [ZL,AV.isC,AV.isC0] at hp
 | unk=>simp [ZL,AV.isC,AV.isC0] at hp
theorem Wx {B : Bd} {w0 w : World} {F0 : Fz} {O : Ow} : ∀ {as_ as' : List AV} {F : Fz} {H H' : Hp} {xs : List Value}, Own B w0 F0 F O H w -> xs.length = as_.length -> (∀ (i : Nat) (c : Value) (a : AV), xs[i]? = some c -> as_[i]? = some a -> VR F O c a) -> xt H as_ = some (as', H') ->
  ∃ F',(∀ (i:Nat) (c:Value) (a:AV),xs[i]? = some c->as'[i]? = some a->PV F' c a)/\as'.length=as_.length/\(∀ a ∈ as',a.one=true)/\Own B w0 F0 F' O H' w/\F.le F'
 | [],as',F,H,H',xs,h,hl,hv,hp=>by
  simp only [xt,Option.some.injEq,Prod.mk.injEq] at hp
  obtain ⟨rfl,rfl⟩:=hp
  exact ⟨F,fun i c a _ ha=>by simp at ha,rfl,(fun a ha=>by cases ha),h,Fz.le_refl F⟩
 | a::as_,as',F,H,H',[],h,hl,hv,hp=>by simp at hl
 | a::as_,as',F,H,H',x::xs,h,hl,hv,hp=>by
  simp only [xt] at hp
  split at hp
  ·rename_i a1 H1 h1
   split at hp
   ·rename_i as1 H2 h2
    simp only [Option.some.injEq,Prod.mk.injEq] at hp
    obtain ⟨rfl,rfl⟩:=hp
    obtain ⟨F1,p1,o1,l1,n1⟩:=Wy h (hv 0 x a rfl rfl) h1
    obtain ⟨F2,p2,e2,n2,o2,l2⟩:=Wx (xs:=xs) o1 (by simpa using hl) (fun i c a hc ha=>(hv (i+1) c a hc ha).mono l1 (Ow.le_refl O)) h2
    refine ⟨F2,fun i c a hc ha=>?_,by simp [e2],fun a ha=>?_,o2,Fz.le_trans l1 l2⟩
    ·cases i with
     | zero=>simp at hc ha;subst hc;subst ha;exact p1.mono l2
     | succ i=>exact p2 i c a hc ha
    ·rcases List.mem_cons.1 ha with rfl | ha
     ·exact n1
     ·exact n2 a ha
   ·cases hp
  ·cases hp
theorem pur_ok {B : Bd} {w0 w : World} {F0 F : Fz} {O : Ow} {H H' : Hp} (h : Own B w0 F0 F O H w) {x : Value} {a a' : AV} (hx : VR F O x a) (hp : pur H a = some (a', H')) :
  ∃ F',PV F' x a'/\Own B w0 F0 F' O H' w/\F.le F':=by
 by_cases hg:∃ cs,a = .agg cs
 ·obtain ⟨cs, rfl⟩ := hg
  simp only [pur] at hp
  split at hp
  ·rename_i cs' H1 h1
   simp only [Option.some.injEq,Prod.mk.injEq] at hp
   obtain ⟨rfl,rfl⟩:=hp
   obtain ⟨xs,hxs,hl,hv⟩:∃ xs:List Value,x = .agg xs.toArray/\xs.length=cs.length/\∀ (i:Nat) (c:Value) (a:AV),xs[i]? = some c->cs[i]? = some a->VR F O c a:=by
    cases hx with
    | p h=>cases h with
     | agg xs as_ hl h1 h=>exact ⟨xs,rfl,hl,fun i c a hc ha=>.p (h i c a hc ha)⟩
    | agg xs as_ hl h1 h=>exact ⟨xs,rfl,hl,h⟩
   obtain ⟨F',p,e,n,o,l⟩:=Wx h hl hv h1
   subst hxs
   exact ⟨F',.agg xs cs' (by omega) n p,o,l⟩
  ·cases hp
 ·by_cases hg2 : ∃ f cs, a = .fn f cs
  ·obtain ⟨f, cs, rfl⟩ := hg2
   simp only [pur] at hp
   split at hp
   ·rename_i cs' H1 h1
    simp only [Option.some.injEq,Prod.mk.injEq] at hp
    obtain ⟨rfl,rfl⟩:=hp
    obtain ⟨xs,hxs,hl,hv⟩:∃ xs:List Value,x = .func (.func f) #[] xs.toArray/\xs.length=cs.length/\∀ (i:Nat) (c:Value) (a:AV),xs[i]? = some c->cs[i]? = some a->VR F O c a:=by
     cases hx with
     | p h=>cases h with
      | fn f xs as_ hl h=>exact ⟨xs,rfl,hl,fun i c a hc ha=>.p (h i c a hc ha)⟩
     | fn f xs as_ hl h=>exact ⟨xs,rfl,hl,h⟩
    obtain ⟨F',p,e,n,o,l⟩:=Wx h hl hv h1
    subst hxs
    exact ⟨F',.fn f xs cs' (by omega) p,o,l⟩
   ·cases hp
  ·have hp' : ZL H a = some (a', H') := by
    cases a with
    | agg cs=>exact absurd ⟨cs,rfl⟩ hg
    | fn f cs=>exact absurd ⟨f,cs,rfl⟩ hg2
    | _=>exact hp
   obtain ⟨F',p,o,l,_⟩:=Wy h hx hp'
   exact ⟨F',p,o,l⟩
theorem Y5 {B : Bd} {w0 w : World} {F0 : Fz} {O : Ow} : ∀ {as_ as' : List AV} {F : Fz} {H H' : Hp} {xs : List Value}, Own B w0 F0 F O H w -> xs.length = as_.length -> (∀ (i : Nat) (c : Value) (a : AV), xs[i]? = some c -> as_[i]? = some a -> VR F O c a) -> yv H as_ = some (as', H') ->
  ∃ F',(∀ (i:Nat) (c:Value) (a:AV),xs[i]? = some c->as'[i]? = some a->PV F' c a)/\as'.length=as_.length/\Own B w0 F0 F' O H' w/\F.le F'
 | [],as',F,H,H',xs,h,hl,hv,hp=>by
  simp only [yv,Option.some.injEq,Prod.mk.injEq] at hp
  obtain ⟨rfl,rfl⟩:=hp
  exact ⟨F,fun i c a _ ha=>by simp at ha,rfl,h,Fz.le_refl F⟩
 | a::as_,as',F,H,H',[],h,hl,hv,hp=>by simp at hl
 | a::as_,as',F,H,H',x::xs,h,hl,hv,hp=>by
  simp only [yv] at hp
  split at hp
  ·rename_i a1 H1 h1
   split at hp
   ·rename_i as1 H2 h2
    simp only [Option.some.injEq,Prod.mk.injEq] at hp
    obtain ⟨rfl,rfl⟩:=hp
    obtain ⟨F1,p1,o1,l1⟩:=pur_ok h (hv 0 x a rfl rfl) h1
    obtain ⟨F2,p2,e2,o2,l2⟩:=Y5 (xs:=xs) o1 (by simpa using hl) (fun i c a hc ha=>(hv (i+1) c a hc ha).mono l1 (Ow.le_refl O)) h2
    refine ⟨F2,fun i c a hc ha=>?_,by simp [e2],o2,Fz.le_trans l1 l2⟩
    cases i with
    | zero=>simp at hc ha;subst hc;subst ha;exact p1.mono l2
    | succ i=>exact p2 i c a hc ha
   ·cases hp
  ·cases hp
def zh (P:Program) {α:Type}:Sem α->Option α
 | .pure a=>some a
 | .program k=>zh P (k P)
 | .mark _ k=>zh P k
 | _=>none
theorem yM {P:Program} {α:Type} (s:Sem α) {a:α} (h:zh P s=some a) (w:World):s.run P w = .ok a w:=by
 induction s with
 | pure b=>simp only [zh,Option.some.injEq] at h;subst h;rfl
 | program k ih=>exact ih P h
 | mark m k ih=>exact ih h
 | _=>cases h
def avCell (k:Option Nat) (v:Value):Option AV :=
 if Yx v then some (.v v) else match v,k with
  | .slice none 0 0,some k=>some (.nl k)
  | _,_=>none
def XW:List (Option Nat)->List Value->Option (List AV)
 | [],[]=>some []
 | k::ks,v::vs =>
  match avCell k v,XW ks vs with
  | some a,some as_=>some (a::as_)
  | _,_=>none
 | _,_=>none
def Xx (P:Program):Nat->TypeId->List (Option Nat)
 | 0,_=>[]
 | d+1,t =>
  match P.underlying t with
  | some (.struct fs)=>fs.toList.flatMap fun f=>Xx P d f.type
  | some (.array n e)=>(List.replicate n (Xx P d e)).flatten
  | some (.slice e)=>[(P.info? e).map (·.size)]
  | _=>[none]
def xp (P:Program) (t:TypeId):Value->Option AV
 | .agg cs=>(match XW (Xx P 12 t) cs.toList with|some as_=>some (.agg as_)|none=>none)
 | v=>avCell ((Xx P 12 t).headD none) v
theorem Xz {k:Option Nat} {v:Value} {a:AV} (h:avCell k v=some a) (F:Fz) (O:Ow):VR F O v a/\a.one=true:=by
 unfold avCell at h
 split at h
 ·rename_i hs;cases h;exact ⟨.p (.v v hs),rfl⟩
 ·split at h
  ·cases h;exact ⟨.nl _,rfl⟩
  ·cases h
theorem avCells_ok (F:Fz) (O:Ow):∀ {ks:List (Option Nat)} {vs:List Value} {as_:List AV},XW ks vs=some as_->vs.length=as_.length/\(∀ a ∈ as_,a.one=true)/\∀ (i:Nat) (c:Value) (a:AV),vs[i]? = some c->as_[i]? = some a->VR F O c a
 | [],[],as_,h=>by cases h;exact ⟨rfl,fun a ha=>(by cases ha),fun i c a hc=>by simp at hc⟩
 | [],_::_,as_,h=>by cases h
 | _::_,[],as_,h=>by cases h
 | k::ks,v::vs,as_,h=>by
  simp only [XW] at h
  split at h
  ·rename_i a as' h1 h2
   cases h
   obtain ⟨l,o,r⟩:=avCells_ok F O h2
   obtain ⟨r1,o1⟩:=Xz h1 F O
   refine ⟨by simp [l],fun b hb=>?_,fun i c b hc hb=>?_⟩
   ·rcases List.mem_cons.1 hb with rfl | hb
    ·exact o1
    ·exact o b hb
   ·cases i with
    | zero=>simp at hc hb;subst hc;subst hb;exact r1
    | succ i=>exact r i c b hc hb
  ·cases h
theorem yR {P:Program} {t:TypeId} {v:Value} {a:AV} (h:xp P t v=some a) (F:Fz) (O:Ow):VR F O v a/\(a.one=true\/∃ cs,a = .agg cs):=by
 cases v with
 | agg cs =>
  simp only [xp] at h
  split at h
  ·rename_i as_ h1
   cases h
   obtain ⟨l,o,r⟩:=avCells_ok F O h1
   exact ⟨by have:=VR.agg (F:=F) (O:=O) cs.toList as_ l o r;simpa using this,.inr ⟨as_,rfl⟩⟩
  ·cases h
 | _=>exact ⟨(Xz (k:=(Xx P 12 t).headD none) h F O).1,.inl (Xz (k:=(Xx P 12 t).headD none) h F O).2⟩
inductive AX where
 | t (n:Nat)
 | c (a:AV)
 | g (n:Nat)
def AX.ev (G:Nat->AV) (s:List AV):AX->AV
 | .t n=>s.getD n (.tup [])
 | .c a=>a
 | .g n=>G n
def cx (P:Program) (ty:TypeId):Operand->Option AX
 | .tmp t=>some (.t t)
 | .const v=>(match xp P ty v with|some a=>some (.c a)|none=>none)
 | .global g=>some (.g g)
 | .func f=>some (.c (.v (.func (.func f) #[] #[])))
def cxs (P:Program):List (TypeId × Operand)->Option (List AX)
 | []=>some []
 | (t,x)::xs =>
  match cx P t x,cxs P xs with
  | some a,some as_=>some (a::as_)
  | _,_=>none
def AV.val:AV->Option Value
 | .v x=>some x
 | _=>none
def vals:List AV->Option (List Value)
 | []=>some []
 | .v x::as_=>(match vals as_ with|some xs=>some (x::xs)|none=>none)
 | _::_=>none
def zW:AV->Option Value
 | .v x=>some x
 | .agg cs=>(match vals cs with|some xs=>some (.agg xs.toArray)|none=>none)
 | .nl _=>some (.slice none 0 0)
 | _=>none
theorem Wm {F:Fz} {O:Ow}:∀ {as_:List AV} {xs ys:List Value},vals as_=some xs->ys.length=as_.length->(∀ (i:Nat) (c:Value) (a:AV),ys[i]? = some c->as_[i]? = some a->VR F O c a)->ys=xs
 | [],xs,ys,h,hl,_=>by cases h;exact List.eq_nil_of_length_eq_zero hl
 | a::as_,xs,[],h,hl,_=>by simp at hl
 | a::as_,xs,y::ys,h,hl,hv=>by
  cases a with
  | v x =>
   simp only [vals] at h
   split at h
   ·rename_i xs' h'
    cases h
    have h1:=(hv 0 y _ rfl rfl).pvC rfl
    cases h1
    rw [Wm h' (by simpa using hl) (fun i c a hc ha=>hv (i+1) c a hc ha)]
   ·cases h
  | _=>cases h
theorem yV {F:Fz} {O:Ow} {x y:Value} {a:AV} (h:VR F O x a) (hc:zW a=some y):x=y:=by
 cases a with
 | v z=>cases hc;have:=h.pvC rfl;cases this;rfl
 | nl k =>
  cases hc
  cases h with
  | p h=>cases h
  | nl=>rfl
 | agg cs =>
  simp only [zW] at hc
  split at hc
  ·rename_i xs hx
   cases hc
   cases h with
   | p h=>cases h with
    | agg ys as_ hl h1 h=>rw [Wm (F:=F) (O:=O) hx hl (fun i c a hc ha=>.p (h i c a hc ha))]
   | agg ys as_ hl h1 h=>rw [Wm hx hl h]
  ·cases hc
 | _=>cases hc
def we:List Value->Option (List AV)
 | []=>some []
 | x::xs=>if Yx x then (match we xs with|some as_=>some (.v x::as_)|none=>none) else none
def zk:Value->Option AV
 | .agg cs=>(match we cs.toList with|some as_=>some (.agg as_)|none=>none)
 | .tuple cs=>(match we cs.toList with|some as_=>some (.tup as_)|none=>none)
 | x=>if Yx x then some (.v x) else none
theorem y7 {F:Fz} {O:Ow}:∀ {xs:List Value} {as_:List AV},we xs=some as_->xs.length=as_.length/\(∀ a ∈ as_,a.one=true)/\∀ (i:Nat) (c:Value) (a:AV),xs[i]? = some c->as_[i]? = some a->PV F c a
 | [],as_,h=>by cases h;exact ⟨rfl,fun a ha=>(by cases ha),fun i c a hc=>by simp at hc⟩
 | x::xs,as_,h=>by
  simp only [we] at h
  split at h
  ·rename_i hs
   split at h
   ·rename_i as' h'
    cases h
    obtain ⟨l,o,r⟩:=y7 (F:=F) (O:=O) h'
    refine ⟨by simp [l],fun b hb=>?_,fun i c b hc hb=>?_⟩
    ·rcases List.mem_cons.1 hb with rfl | hb
     ·rfl
     ·exact o b hb
    ·cases i with
     | zero=>simp at hc hb;subst hc;subst hb;exact .v _ hs
     | succ i=>exact r i c b hc hb
   ·cases h
  ·cases h
theorem YT {F:Fz} {O:Ow} {x:Value} {a:AV} (h:zk x=some a):VR F O x a:=by
 cases x with
 | agg cs =>
  simp only [zk] at h
  split at h
  ·rename_i as_ h1
   cases h
   obtain ⟨l,o,r⟩:=y7 (F:=F) (O:=O) h1
   have:=PV.agg (F:=F) cs.toList as_ l o r
   exact .p (by simpa using this)
  ·cases h
 | tuple cs =>
  simp only [zk] at h
  split at h
  ·rename_i as_ h1
   cases h
   obtain ⟨l,o,r⟩:=y7 (F:=F) (O:=O) h1
   have:=PV.tup (F:=F) cs.toList as_ l r
   exact .p (by simpa using this)
  ·cases h
 | _ =>
  simp only [zk] at h
  split at h
  ·rename_i hs;cases h;exact .p (.v _ hs)
  ·cases h
inductive Kd where
 | i
 | s
 | b
def Z8 (P:Program) (t:TypeId):Option Kd :=
 match P.underlying t with
 | some (.int _)=>some .i
 | some .string=>some .s
 | some .bool=>some .b
 | _=>none
def flatFs (P:Program) (go:TypeId->Option (List Kd)):Nat->List Field->Option (List Kd)
 | _,[]=>some []
 | off,f::fs =>
  if f.name ≠ "_" /\ f.offset=off then
   match go f.type,P.info? f.type,P.underlying f.type with
   | some ks1,some inf,some df=>if inf.size=ks1.length/\ks1.length ≠ 0 then (match flatFs P go (off+ks1.length) fs with|some ks2=>some (ks1++ks2)|none=>none) else none
   | _,_,_=>none
  else none
def wV (P:Program):Nat->TypeId->Option (List Kd)
 | 0,_=>none
 | d+1,t =>
  match Z8 P t with
  | some k=>some [k]
  | none =>
   match P.underlying t with
   | some (.struct fs)=>if P.stoodInHeld t=false then flatFs P (wV P d) 0 fs.toList else none
   | _=>none
def eqNeg:BinOp->Option Bool
 | .eql=>some false
 | .neq=>some true
 | _=>none
def eqOf (P:Program) (t:TypeId):Option (List Kd) :=
 match P.underlying t with
 | some (.struct _)=>if P.eqGuardType P.depth t=false then wV P 8 t else none
 | _=>none
def eqC:Kd->AV->AV->Option Bool
 | .i,.v (.int k a),.v (.int k' b)=>if k=k' then some (decide (a=b)) else none
 | .s,.v (.string a),.v (.string b)=>some (decide (a=b))
 | .b,.v (.bool a),.v (.bool b)=>some (a == b)
 | _,_,_=>none
def Z9:List Kd->List AV->List AV->Option Bool
 | [],[],[]=>some true
 | k::ks,a::as_,b::bs=>(match eqC k a b,Z9 ks as_ bs with|some x,some y=>some (x && y)|_,_=>none)
 | _,_,_=>none
def wK (ng:Bool) (ks:List Kd):AV->AV->Option AV
 | .agg as_,.agg bs=>(match Z9 ks as_ bs with|some r=>some (.v (.bool (if ng=true then !r else r)))|none=>none)
 | _,_=>none
inductive AOp where
 | mv (x:AX)
 | bin (op:BinOp) (t:TypeId) (pt:Bool) (xo yo:Operand) (x y:AX)
 | un (op:UnOp) (x:AX)
 | cv (src dst:TypeId) (x:AX)
 | pick (c a b:AX)
 | ext (x:AX) (i:Nat)
 | new (e:TypeId) (k:Nat) (x:AX)
 | bld (z:List AV) (parts:List (Nat × Nat × AX))
 | bsl (e:TypeId) (k:Nat) (xs:List AX)
 | load (agg:Bool) (n:Nat) (x:AX)
 | store (n:Nat) (x v:AX)
 | nilc (x:AX)
 | fad (off:Nat) (x:AX)
 | fld (agg:Bool) (off n:Nat) (x:AX)
 | iad (k:Nat) (x i:AX)
 | iaa (len k:Nat) (x i:AX)
 | idx (t:TypeId) (x i:AX)
 | ixa (agg:Bool) (len k:Nat) (x i:AX)
 | sls (t:TypeId) (x:AX) (lo hi:Option AX)
 | slc (k:Nat) (x:AX) (lo hi:Option AX)
 | slo (k:Nat) (x i:AX)
 | mks (e:TypeId) (k bytes:Nat) (z:AV) (len cap:AX)
 | app (e:TypeId) (k bytes:Nat) (s x:AX)
 | apf (e:TypeId) (k bytes:Nat) (s x:AX)
 | apz (e:TypeId) (k bytes:Nat) (z:AV) (s n:AX)
 | lns (x:AX)
 | len (x:AX)
 | bi (b:Builtin) (argTypes:Array TypeId) (ty:TypeId) (consts:Array Bool) (xs:List AX)
 | call (f:FuncId) (xs:List AX)
 | callh (f:FuncId) (xs:List AX)
 | callm (f:FuncId) (xs:List AX)
 | callv (x:AX) (xs:List AX)
 | calli (nm:String) (x:AX) (xs:List AX)
 | mki (t:Nat) (x:AX)
 | mkm2 (nm:String) (x:AX)
 | mkb (f:FuncId) (x:AX)
 | mkm (ag:Bool) (m:Nat)
 | rgm (x:AX)
 | nxm (x:AX)
 | cup (x:AX)
 | cpu (u:TypeId) (x:AX)
 | usd (x:AX)
 | ust (e:TypeId) (x n:AX)
 | sla (n:Nat) (x:AX) (lo hi:Option AX)
 | sob (x:AX)
 | aps (e:TypeId) (bytes:Nat) (s x:AX)
 | enm (x:AX)
 | mdl (kd:Kd) (x i:AX)
 | clr (k:Nat) (z:AV) (x:AX)
 | lkp (kd:Kd) (c:Bool) (z:AV) (x i:AX)
 | mup (kd:Kd) (x i v:AX)
 | lnm (x:AX)
 | mkf (f:FuncId) (xs:List AX)
 | eqs (ng:Bool) (ks:List Kd) (x y:AX)
 | cpy (k:Nat) (d x:AX)
 | bad
structure AI where
 dst:Option Nat
 op:AOp
 guard:Option (Nat × Bool)
abbrev jA (d:Nat) (o:AOp):AI:=AI.mk (some d) o none
abbrev jB (o:AOp):AI:=AI.mk none o none
abbrev jC (d:Nat) (o:AOp) (t:Nat) (b:Bool):AI:=AI.mk (some d) o (some (t,b))
abbrev jN (n:Int):AV:=AV.v (Value.int IntKind.i64 n)
abbrev jI (n:Int):AX:=AX.c (jN n)
abbrev jS (b:Bool):AX:=AX.c (AV.v (Value.bool b))
def rdA (k:Nat) (es:List AV) (i off:Nat) (agg:Bool) (n:Nat):Option AV :=
 match es[i]? with
 | none=>none
 | some e=>if agg then (if off+n<=k then (if off=0/\n=k then some (.agg e.cells) else some (.agg ((e.cells.drop off).take n))) else none) else e.cells[off]?
def live (H:Hp) (i g:Nat):Option OB :=
 match H[i]? with
 | some ob=>if ob.g=g then (if (ob.e == 4000000000)=true then none else some ob) else none
 | none=>none
def liveM (H:Hp) (i g:Nat):Option OB :=
 match H[i]? with
 | some ob=>if ob.g=g then (if (ob.e == 4000000000 && Nat.ble 2 ob.k)=true then some ob else none) else none
 | none=>none
def wG:List AV->Option (List AV × AV)
 | []=>none
 | [a]=>some ([],a)
 | a::b::l=>(match wG (b::l) with|some (x,y)=>some (a::x,y)|none=>none)
def valA (ag:Bool) (vs:List AV):Option AV:=if ag=true then some (.agg vs) else (match vs with|[a]=>some a|_=>none)
def valC (ag:Bool):AV->Option (List AV)
 | .agg cs=>if ag=true then some cs else none
 | a=>if ag=true then none else some [a]
def rdH:List AV->Option (Int × Bool × List AV × List AV)
 | .agg (.v (.int .i64 c) :: .v (.bool ag)::r)::es=>some (c,ag,r,es)
 | _=>none
def lkA (kd:Kd) (ag:Bool) (key:AV):List AV->Option (Option AV)
 | []=>some none
 | .agg (k::r)::es =>
  match eqC kd key k with
  | some b=>if b=true then (match wG r with|some (vs,_)=>(match valA ag vs with|some v=>some (some v)|none=>none)|none=>none) else lkA kd ag key es
  | none=>none
 | _=>none
def ovA (kd:Kd) (key:AV) (vs:List AV):List AV->Option (Option (List AV))
 | []=>some none
 | .agg (k::r)::es =>
  match eqC kd key k with
  | some b=>if b=true then (match wG r with|some (_,s)=>some (some (.agg (key::(vs++[s]))::es))|none=>none) else (match ovA kd key vs es with|some (some es')=>some (some (.agg (k::r)::es'))|some none=>some none|none=>none)
  | none=>none
 | _=>none
def upA (kd:Kd) (key val:AV) (l:List AV):Option (List AV) :=
 match rdH l with
 | some (c,ag,r,es) =>
  (match valC ag val with
   | some vs =>
    if vs.length=r.length then
     (match ovA kd key vs es with
      | some (some es')=>some (.agg (.v (.int .i64 c) :: .v (.bool ag)::r)::es')
      | some none=>some (.agg (.v (.int .i64 (c+1)) :: .v (.bool ag)::r)::(es++[.agg (key::(vs++[.v (.int .i64 c)]))]))
      | none=>none)
    else none
   | none=>none)
 | none=>none
def dlA (kd:Kd) (key:AV):List AV->Option (List AV)
 | []=>some []
 | .agg (k::r)::es =>
  match eqC kd key k with
  | some b=>if b=true then some es else (match dlA kd key es with|some es'=>some (.agg (k::r)::es')|none=>none)
  | none=>none
 | _=>none
def wJ (H:Hp) (kd:Kd) (c:Bool) (z x key:AV):Option AV :=
 match x with
 | .mp i g =>
  (match liveM H i g with
   | some ob =>
    (match rdH ob.es with
     | some (_,ag,_,es) =>
      (match lkA kd ag key es with
       | some (some v)=>some (if c=true then .tup [v,.v (.bool true)] else v)
       | some none=>some (if c=true then .tup [z,.v (.bool false)] else z)
       | none=>none)
     | none=>none)
   | none=>none)
 | .v (.map none)=>some (if c=true then .tup [z,.v (.bool false)] else z)
 | _=>none
def isKey (kd:Kd):AV->Bool
 | .v (.int _ _)=>(match kd with|.i=>true|_=>false)
 | .v (.string _)=>(match kd with|.s=>true|_=>false)
 | .v (.bool _)=>(match kd with|.b=>true|_=>false)
 | _=>false
def mupA (H:Hp) (kd:Kd) (x key val:AV):Option Hp :=
 match x with
 | .mp i g =>
  (match liveM H i g with
   | some ob=>if ob.fz=0/\isKey kd key=true/\(val.cells.all AV.one)=true then (match upA kd key val ob.es with|some es'=>some (H.set i { ob with es:=es' })|none=>none) else none
   | none=>none)
 | _=>none
def wk (H:Hp):AV->Option Nat
 | .mp i g=>(match liveM H i g with|some ob=>(match ob.es with|_::es=>some es.length|[]=>none)|none=>none)
 | _=>none
def mdlA (H:Hp) (kd:Kd) (x key:AV):Option Hp :=
 match x with
 | .mp i g =>
  (match liveM H i g with
   | some ob=>if ob.fz=0 then (match ob.es with|hd::es=>(match dlA kd key es with|some es'=>some (H.set i { ob with es:=hd::es' })|none=>none)|[]=>none) else none
   | none=>none)
 | _=>none
def zr (H:Hp) (agg:Bool) (n:Nat):AV->Option AV
 | .ad k es i off=>rdA k es i off agg n
 | .oa i g e off=>(match live H i g with|some ob=>rdA ob.k ob.es e off agg n|none=>none)
 | _=>none
def wrA (old:AV) (off:Nat) (vs:List AV):AV :=
 match old with
 | .agg cs=>.agg (cs.take off++vs++cs.drop (off+vs.length))
 | _=>vs.headD .unk
def AV.fine:AV->Bool
 | .agg cs=>cs.all AV.one
 | a=>a.one
def zi (H:Hp) (n:Nat) (p v:AV):Option Hp :=
 match p with
 | .oa i g e off =>
  match live H i g with
  | some ob =>
   match ob.es[e]? with
   | some old=>if ob.fz<=e/\off+n<=ob.k/\v.cells.length=n/\v.fine=true/\0 < n then some (H.set i { ob with es:=ob.es.set e (wrA old off v.cells) }) else none
   | none=>none
  | none=>none
 | _=>none
def zo (H:Hp):AV->Bool
 | .ad ..=>true
 | .oa i g _ _=>(live H i g).isSome
 | _=>false
def zb:AV->Bool
 | .v (.pointer none)=>true
 | _=>false
def xr (P:Program) (t:TypeId) (H:Hp) (a b:AV):Bool :=
 zo H a && zo H b && (match P.underlying t with|some (.pointer e)=>(P.info? e).isSome|_=>false) && (match a,b with|.oa i g e off,.oa i' g' e' off'=>i == i' && g == g' && e == e' && off == off'|_,_=>false)
def ZX (P:Program) (op:BinOp) (t:TypeId) (xo yo:Operand) (x y:Value):Option Value:=zh P (do eqGuard op t xo yo x y;binOp op t x y)
def wm (P:Program) (t:TypeId):Bool:=match P.underlying t with|some (.slice _)=>true|_=>false
def YW (H:Hp):AV->Bool
 | .ol i g _=>(live H i g).isSome
 | .sl _ es=>!es.isEmpty
 | .em b _=>!b
 | _=>false
def isNl:AV->Bool
 | .nl _=>true
 | _=>false
def isNi:AV->Bool
 | .nl _=>true
 | .em b _=>b
 | _=>false
def wh (H:Hp) (op:BinOp) (a b:AV):Option AV :=
 if ((YW H a && isNl b) || (YW H b && isNl a))=true then
  (match op with
   | .eql=>some (.v (.bool false))
   | .neq=>some (.v (.bool true))
   | _=>none)
 else if ((isNi a && isNl b) || (isNi b && isNl a))=true then
  (match op with
   | .eql=>some (.v (.bool true))
   | .neq=>some (.v (.bool false))
   | _=>none)
 else none
def isFn (H:Hp):AV->Bool
 | .fn _ _=>true
 | .bf _ i g _ _=>(live H i g).isSome
 | _=>false
def isNoFn:AV->Bool
 | .v .nilFunc=>true
 | _=>false
def isFuncT (P:Program) (t:TypeId):Bool:=match P.underlying t with|some (.func ..)=>true|_=>false
def WH (H:Hp):AV->Bool
 | .io _ i g _ _=>(live H i g).isSome
 | .ib _ _ i g _ _=>(live H i g).isSome
 | _=>false
def isNoIf:AV->Bool
 | .v .nilIface=>true
 | _=>false
def isIfT (P:Program) (t:TypeId):Bool:=match P.underlying t with|some (.interface _)=>true|_=>false
def ifCmp (H:Hp) (op:BinOp) (a b:AV):Option AV :=
 if ((WH H a && isNoIf b) || (WH H b && isNoIf a))=true then
  (match op with
   | .eql=>some (.v (.bool false))
   | .neq=>some (.v (.bool true))
   | _=>none)
 else none
def fnCmp (H:Hp) (op:BinOp) (a b:AV):Option AV :=
 if ((isFn H a && isNoFn b) || (isFn H b && isNoFn a))=true then
  (match op with
   | .eql=>some (.v (.bool false))
   | .neq=>some (.v (.bool true))
   | _=>none)
 else none
def zY (P:Program) (H:Hp) (op:BinOp) (t:TypeId) (pt:Bool) (xo yo:Operand) (a b:AV):Option AV :=
 if pt=true then
  (match op with
   | .eql=>if (zb a && zb b)=true then some (.v (.bool true)) else if ((zo H a && zb b) || (zo H b && zb a))=true then some (.v (.bool false)) else if xr P t H a b=true then some (.v (.bool true)) else none
   | .neq=>if (zb a && zb b)=true then some (.v (.bool false)) else if ((zo H a && zb b) || (zo H b && zb a))=true then some (.v (.bool true)) else if xr P t H a b=true then some (.v (.bool false)) else none
   | _=>none)
 else
  match zW a,zW b with
  | some x,some y=>(match ZX P op t xo yo x y with|some v=>zk v|none=>none)
  | _,_=>if wm P t=true then wh H op a b else if isFuncT P t=true then fnCmp H op a b else if isIfT P t=true then ifCmp H op a b else none
def ap1 (f:Value->Option Value) (a:AV):Option AV :=
 match zW a with
 | some x=>(match f x with|some v=>zk v|none=>none)
 | none=>none
def ap2 (f:Value->Value->Option Value) (a b:AV):Option AV :=
 match zW a,zW b with
 | some x,some y=>(match f x y with|some v=>zk v|none=>none)
 | _,_=>none
def zy:List AV->Option (List Value)
 | []=>some []
 | a::as_=>(match zW a,zy as_ with|some x,some xs=>some (x::xs)|_,_=>none)
def zR:AV->Option Int
 | .v (.int _ n)=>some n
 | _=>none
def zq (agg:Bool) (off n:Nat):AV->Option AV
 | .agg cs=>if agg then (if off+n<=cs.length then some (.agg ((cs.drop off).take n)) else none) else cs[off]?
 | _=>none
def Zr (H:Hp):AV->Option AV
 | .ad k es i off=>some (.ad k es i off)
 | .oa i g e off=>(match live H i g with|some _=>some (.oa i g e off)|none=>none)
 | _=>none
def mk2A (nm:String):AV->Option AV
 | .io t i g e off=>some (.mf nm t i g e off)
 | _=>none
def mkbA (f:FuncId):AV->Option AV
 | .oa i g e off=>some (.bf f i g e off)
 | _=>none
def nahF (P:Program) (t:Nat) (nm:String):Bool :=
 match P.info? t with
 | some inf =>
  (match inf.methods.find? (·.name == nm) with
   | some m=>decide (m.path = #[]) && (match m.func with|some (_,true)=>true|_=>false)
   | none=>false)
 | none=>false
def wI (P:Program) (H:Hp):AV->Option AV
 | .mf nm t i g e off=>(match live H i g with|some _=>if nahF P t nm=true then some (.mf nm t i g e off) else none|none=>none)
 | a=>Zr H a
def mkiA (t:Nat):AV->Option AV
 | .oa i g e off=>some (.io t i g e off)
 | .bf f i g e off=>some (.ib t f i g e off)
 | _=>none
def Mth (P:Program) (t:Nat) (nm:String) (f:FuncId):Prop:=∀ (x:Value) (args:Array Value) (w:World),(callMethod (.iface t x) nm args).run P w = .ok (.enter f (#[x]++args)) w
def zt (off:Nat) (H:Hp):AV->Option AV
 | .ad k es i o=>some (.ad k es i (o+off))
 | .oa i g e o=>(match live H i g with|some _=>some (.oa i g e (o+off))|none=>none)
 | _=>none
def zu (k:Nat) (H:Hp) (a:AV) (ix:Int):Option AV :=
 match a with
 | .sl k' es=>if k'=k/\0<=ix/\ix.toNat < es.length then some (.ad k es ix.toNat 0) else none
 | .ol i g n=>(match live H i g with|some ob=>if ob.k=k/\0<=ix/\ix.toNat < n then some (.oa i g ix.toNat 0) else none|none=>none)
 | _=>none
def Wr (k:Nat) (H:Hp) (a:AV) (ix:Int):Option AV :=
 match a with
 | .ol i g n=>(match live H i g with|some ob=>if ob.k=k/\0<=ix/\ix.toNat<=n then some (.os i g ix.toNat n) else none|none=>none)
 | _=>none
def Zp (H:Hp):AV->Option Nat
 | .nl _=>some 0
 | .em _ _=>some 0
 | .sl _ es=>some es.length
 | .ol _ _ n=>some n
 | .oc _ _ n _=>some n
 | _=>none
def cut (k:Nat) (es:List AV) (lo hi:Int):Option AV :=
 if 0<=lo/\lo<=hi/\hi.toNat<=es.length then some (.sl k ((es.take hi.toNat).drop lo.toNat)) else none
def zg (k:Nat) (H:Hp) (a:AV) (lo hi:Option Int):Option (AV × Hp) :=
 match a with
 | .sl k' es=>if k'=k then (match cut k es (lo.getD 0) (hi.getD es.length) with|some r=>some (r,H)|none=>none) else none
 | .ol i g n =>
  if lo.getD 0=0 then (match live H i g with|some _=>if 0<=hi.getD n/\(hi.getD n).toNat<=n then some (.ol i g (hi.getD n).toNat,H) else none|none=>none)
  else (match ZL H (.ol i g n) with
   | some (.sl k' es,H')=>if k'=k then (match cut k es (lo.getD 0) (hi.getD es.length) with|some r=>some (r,H')|none=>none) else none
   | _=>none)
 | .nl k'=>if k'=k/\lo.getD 0=0/\hi.getD 0=0 then some (.nl k,H) else none
 | _=>none
def slaA (n:Nat) (H:Hp) (a:AV) (lo hi:Option Int):Option (AV × Hp) :=
 match a with
 | .oa i g 0 0 =>
  match live H i g with
  | some ob =>
   match ob.es with
   | [.agg cs]=>if ob.k=n/\cs.length=n/\ob.es.all AV.isP=true/\n<=maxLen/\0<=lo.getD 0/\lo.getD 0<=hi.getD n/\hi.getD n<=n then some (.sl 1 ((cs.take (hi.getD n).toNat).drop (lo.getD 0).toNat),H.set i { ob with fz:=max ob.fz ob.es.length }) else none
   | _=>none
  | none=>none
 | _=>none
def slaE (n:Nat) (H:Hp) (x:AV) (lo hi:Option (Option Int)):Option (AV × Hp) :=
 match lo,hi with
 | some none,_|_,some none=>none
 | l,h=>slaA n H x (l.bind id) (h.bind id)
def xv:List AV->Option (List UInt8)
 | []=>some []
 | .v (.int .u8 z)::l=>if 0<=z/\z < 256 then (match xv l with|some b=>some (UInt8.ofNat z.toNat::b)|none=>none) else none
 | _=>none
def usdA (H:Hp) (x:AV):Option AV :=
 match x with
 | .ol i g n =>
  match live H i g with
  | some ob=>if 0 < n then some (.oa i g 0 0) else none
  | none=>none
 | .nl _=>some (.v (.pointer none))
 | _=>none
def ustA (e:TypeId) (H:Hp) (x n:AV):Option (AV × Hp) :=
 match n with
 | .v (.int .i64 m) =>
  match x with
  | .v (.pointer none)=>if m=0 then some (.v (.string .empty),H) else none
  | .oa i g 0 0 =>
   match live H i g with
   | some ob=>if ob.k=1/\ob.e=e/\ob.fz=0/\0 < m/\m.toNat<=ob.es.length/\m<=9223372036854775807 then (match xv (ob.es.take m.toNat) with|some bs=>some (.v (.string ⟨bs.toArray⟩),H.set i ⟨ZM,0,[],g+1,0⟩)|none=>none) else none
   | none=>none
  | _=>none
 | _=>none
def cupA (H:Hp) (x:AV):Option AV :=
 match x with
 | .v (.pointer none)=>some (.v (.pointer none))
 | .oa i g e off =>
  match live H i g with
  | some ob=>if e < ob.es.length/\off < ob.k then some (.oa i g e off) else none
  | none=>none
 | _=>none
def cpuA (P:Program) (u:TypeId) (H:Hp) (x:AV):Option AV :=
 match x with
 | .v (.pointer none)=>some (.v (.pointer none))
 | .oa i g 0 0 =>
  match live H i g with
  | some ob=>if ob.e=u/\0 < ob.es.length/\0 < ob.k/\P.cellsOf u=ob.k then some (.oa i g 0 0) else none
  | none=>none
 | _=>none
def Zm (H:Hp) (k:Nat):AV->Option (List AV × Hp)
 | .nl _=>some ([],H)
 | .em _ _=>some ([],H)
 | .sl k' es=>if k'=k then some (es,H) else none
 | .ol i g n=>(match live H i g with|some ob=>if ob.k=k/\n<=ob.es.length then some (ob.es.take n,H) else none|none=>none)
 | _=>none
def z8 (e:TypeId) (k bytes:Nat) (H:Hp) (s x:AV):Option (AV × Hp) :=
 match Zm H k x with
 | some (news,_) =>
  match s with
  | .nl _=>if news=[] then some (.nl k,H) else if news.length * bytes<=140737488355328/\news.length<=maxLen then some (.ol H.length 0 news.length,H++[⟨e,k,news,0,0⟩]) else none
  | .oc i g n c =>
   match live H i g with
   | some ob=>if ob.k=k/\ob.e=e/\ob.fz<=n/\n<=ob.es.length/\(n+news.length) * bytes<=140737488355328/\n+news.length<=maxLen then (if n+news.length<=c then some (.ol i g (n+news.length),H.set i ⟨e,k,ob.es.take n++news,g,ob.fz⟩) else some (.ol H.length 0 (n+news.length),H++[⟨e,k,ob.es.take n++news,0,0⟩])) else none
   | none=>none
  | .ol i g n =>
   match live H i g with
   | some ob=>if ob.k=k/\ob.e=e/\ob.fz<=n/\n<=ob.es.length/\(n+news.length) * bytes<=140737488355328/\n+news.length<=maxLen then some (.ol i (g+1) (n+news.length),H.set i ⟨e,k,ob.es.take n++news,g+1,ob.fz⟩) else none
   | none=>none
  | _=>none
 | none=>none
def Z0 (b:ByteArray):List AV:=b.data.toList.map fun u=>.v (.int .u8 (u.toNat:Int))
theorem bytesA_len (b:ByteArray):(Z0 b).length=b.size:=by
 unfold Z0
 rw [List.length_map,Array.length_toList]
 rfl
def apsA (e:TypeId) (bytes:Nat) (H:Hp) (s x:AV):Option (AV × Hp) :=
 match x with
 | .v (.string b) =>
  match s with
  | .nl _=>if b.size=0 then some (.nl 1,H) else if b.size * bytes<=140737488355328/\b.size<=maxLen then some (.ol H.length 0 b.size,H++[⟨e,1,Z0 b,0,0⟩]) else none
  | .ol i g n =>
   match live H i g with
   | some ob=>if ob.k=1/\ob.e=e/\ob.fz<=n/\n<=ob.es.length/\(n+b.size) * bytes<=140737488355328/\n+b.size<=maxLen then some (.ol i (g+1) (n+b.size),H.set i ⟨e,1,ob.es.take n++Z0 b,g+1,ob.fz⟩) else none
   | none=>none
  | _=>none
 | _=>none
def numsA:List AV->Option (List Int)
 | []=>some []
 | .v (.int .u8 z)::l=>(match numsA l with|some zs=>some (z::zs)|none=>none)
 | _=>none
def strN (ns:List Int):ByteArray:=ns.foldl (fun r n=>r.push (UInt8.ofNat n.toNat)) ByteArray.empty
def sobA (H:Hp) (x:AV):Option AV :=
 match Zm H 1 x with
 | some (news,_)=>(match numsA news with|some ns=>some (.v (.string (strN ns)))|none=>none)
 | none=>none
def zx (cells:List AV):List (Nat × Nat × AV)->Option (List AV)
 | []=>some cells
 | (off,n,v)::rest=>if v.cells.length=n/\off+n<=cells.length/\v.fine=true then zx (cells.take off++v.cells++cells.drop (off+n)) rest else none
def fnA:AV->Option (FuncId × List AV)
 | .fn f cs=>some (f,cs)
 | .v (.func (.func f) a b)=>if a.size=0/\b.size=0 then some (f,[]) else none
 | _=>none
def XD (H:Hp):AV->Option (Nat × AV)
 | .io t i g e off=>(match live H i g with|some _=>some (t,.oa i g e off)|none=>none)
 | .ib t f i g e off=>(match live H i g with|some _=>some (t,.bf f i g e off)|none=>none)
 | _=>none
def cvA (H:Hp) (a:AV) (as_:List AV):Option (FuncId × List AV) :=
 match a with
 | .bf f i g e off=>(match live H i g with|some _=>some (f,.oa i g e off::as_)|none=>none)
 | a=>(match fnA a with|some (f,cs)=>some (f,as_++cs)|none=>none)
theorem cvA_of {H:Hp} {a:AV} {as_ cs:List AV} {f:FuncId} (h:fnA a=some (f,cs)):cvA H a as_=some (f,as_++cs):=by
 cases a<;>first|(simp only [cvA,h];done)|cases h
theorem fnA_fn {f:FuncId} {cs:List AV}:fnA (.fn f cs)=some (f,cs):=rfl
theorem fnA_v {f:FuncId}:fnA (.v (.func (.func f) #[] #[]))=some (f,[]):=rfl
def cpyA (k:Nat) (H:Hp) (d x:AV):Option (AV × Hp) :=
 match Zm H k x with
 | some (news,_) =>
  match d with
  | .ol i g n =>
   match live H i g with
   | some ob=>if ob.k=k/\ob.fz=0/\n<=ob.es.length then some (.v (.int .i64 (min news.length n:Nat)),H.set i { ob with es:=news.take (min news.length n)++ob.es.drop (min news.length n) }) else none
   | none=>none
  | .os i g lo n =>
   match live H i g with
   | some ob=>if ob.k=k/\ob.fz=0/\lo<=n/\n<=ob.es.length then some (.v (.int .i64 (min news.length (n - lo):Nat)),H.set i { ob with es:=ob.es.take lo++(news.take (min news.length (n - lo))++ob.es.drop (lo+min news.length (n - lo))) }) else none
   | none=>none
  | .sl _ []=>some (.v (.int .i64 0),H)
  | _=>none
 | none=>none
def clrA (k:Nat) (z:AV) (H:Hp):AV->Option Hp
 | .ol i g n =>
  (match live H i g with
   | some ob=>if ob.k=k/\ob.fz=0/\0 < n/\n<=ob.es.length then some (H.set i { ob with es:=List.replicate n z++ob.es.drop n }) else none
   | none=>none)
 | .nl _=>some H
 | .sl _ []=>some H
 | _=>none
def rgmA (H:Hp):AV->Option (AV × Hp)
 | .mp i g=>(match liveM H i g with
  | some ob=>(match rdH ob.es with|some (c,_,_,_)=>some (.oa H.length 0 0 0,H++[⟨ZM,1,[.mp i g,.v (.int .i64 c),.v (.int .i64 c)],0,0⟩])|none=>none)
  | none=>none)
 | _=>none
def wO:List AV->Option (List Int)
 | []=>some []
 | .v (.int .i64 s)::l=>(match wO l with|some l'=>some (s::l')|none=>none)
 | _=>none
def nxE (ag:Bool) (since:Int) (seen:List Int):List AV->Option (List (AV × AV × Int))
 | []=>some []
 | .agg (k::r)::es =>
  (match wG r,nxE ag since seen es with
   | some (vs,.v (.int .i64 s)),some l=>if s < since then (if seen.contains s=true then some l else (match valA ag vs with|some v=>some ((k,v,s)::l)|none=>none)) else none
   | _,_=>none)
 | _=>none
def nxmA (H:Hp):AV->Option (List (AV × Hp))
 | .oa i g 0 0 =>
  (match H[i]? with
   | some ob =>
    if ob.g=g/\ob.e=ZM/\ob.k=1/\ob.fz=0 then
     (match ob.es with
      | .mp j g' :: .v (.int .i64 since) :: .v (.int .i64 last)::sl =>
       (match liveM H j g',wO sl with
        | some o2,some seen =>
         (match rdH o2.es with
          | some (c,ag,_,es) =>
           if since<=last then
            (match nxE ag since seen es with
             | some []=>some [(.tup [.v (.bool false)],H)]
             | some l=>some (l.map fun p=>(.tup [.v (.bool true),p.1,p.2.1],H.set i { ob with es:=.mp j g' :: .v (.int .i64 since) :: .v (.int .i64 c)::(sl++[.v (.int .i64 p.2.2)]) }))
             | none=>none)
           else none
          | none=>none)
        | _,_=>none)
      | _=>none)
    else none
   | none=>none)
 | _=>none
def fdE (ag:Bool) (s:Int):List AV->Option AV
 | []=>none
 | .agg (k::r)::es =>
  (match wG r with
   | some (vs,.v (.int .i64 s'))=>if s'=s then (match valA ag vs with|some v=>some (.tup [k,v])|none=>none) else fdE ag s es
   | _=>none)
 | _=>none
def entA (H:Hp):AV->Option AV
 | .oa i g 0 0 =>
  (match H[i]? with
   | some ob =>
    if ob.g=g/\ob.e=ZM/\ob.k=1 then
     (match ob.es with
      | .mp j g'::_ :: .v (.int .i64 last)::sl =>
       (match liveM H j g',wG sl with
        | some o2,some (_,.v (.int .i64 s)) =>
         (match rdH o2.es with
          | some (c,ag,_,es)=>if c=last then fdE ag s es else none
          | none=>none)
        | _,_=>none)
      | _=>none)
    else none
   | none=>none)
 | _=>none
def eff (P:Program) (ev:AX->AV) (H:Hp):AOp->Option (AV × Hp)
 | .mv x=>some (ev x,H)
 | .bin op t pt xo yo x y=>(zY P H op t pt xo yo (ev x) (ev y)).map (·,H)
 | .un op x=>(ap1 (fun v=>zh P (Op.unary op v)) (ev x)).map (·,H)
 | .cv s d x=>(ap1 (fun v=>zh P (convert s d v)) (ev x)).map (·,H)
 | .pick c a b=>(match ev c with|.v (.bool b')=>some (if b' then ev a else ev b,H)|_=>none)
 | .ext x i=>(match ev x with|.tup cs=>(cs[i]?).map (·,H)|_=>none)
 | .new e k x=>if (ev x).cells.length=k/\(ev x).fine=true then some (.oa H.length 0 0 0,H++[⟨e,k,[ev x],0,0⟩]) else none
 | .bld z parts=>(zx z (parts.map fun p=>(p.1,p.2.1,ev p.2.2))).map (fun cs=>(.agg cs,H))
 | .bsl e k xs=>if (xs.map ev).all (fun a=>a.cells.length=k && a.fine) && xs.length * k<=16777216 && xs.length<=16777216 then some (.ol H.length 0 xs.length,H++[⟨e,k,xs.map ev,0,0⟩]) else none
 | .load agg n x=>(zr H agg n (ev x)).map (·,H)
 | .store n x v=>(zi H n (ev x) (ev v)).map (.tup [],·)
 | .nilc x=>(wI P H (ev x)).map (·,H)
 | .fad off x=>(zt off H (ev x)).map (·,H)
 | .fld agg off n x=>(zq agg off n (ev x)).map (·,H)
 | .iad k x i=>(match zR (ev i) with|some ix=>(zu k H (ev x) ix).map (·,H)|none=>none)
 | .slo k x i=>(match zR (ev i) with|some ix=>(Wr k H (ev x) ix).map (·,H)|none=>none)
 | .iaa len k x i=>(match zR (ev i) with|some ix=>if 0<=ix/\ix.toNat < len then (zt (ix.toNat * k) H (ev x)).map (·,H) else none|none=>none)
 | .idx t x i=>(ap2 (fun v j=>zh P (Instr.index t v j)) (ev x) (ev i)).map (·,H)
 | .ixa agg len k x i=>(match zR (ev i) with|some ix=>if 0<=ix/\ix.toNat < len then (zq agg (ix.toNat * k) k (ev x)).map (·,H) else none|none=>none)
 | .sls t x lo hi =>
  (match ev x with
   | .v (.string s) =>
    (match (lo.map ev).map zW,(hi.map ev).map zW with
     | some none,_|_,some none=>none
     | l,h=>(match zh P (Instr.sliceAt t (.string s) (l.bind id) (h.bind id) none) with|some v=>(zk v).map (·,H)|none=>none))
   | _=>none)
 | .slc k x lo hi =>
  (match (lo.map ev).map zR,(hi.map ev).map zR with
   | some none,_|_,some none=>none
   | l,h=>zg k H (ev x) (l.bind id) (h.bind id))
 | .mks e k bytes z len cap =>
  (match zR (ev len),zR (ev cap) with
   | some l,some c=>if 0<=l/\l<=c/\c.toNat * bytes<=140737488355328/\c.toNat<=maxLen then some (.ol H.length 0 l.toNat,H++[⟨e,k,List.replicate l.toNat z,0,0⟩]) else none
   | _,_=>none)
 | .app e k bytes s x=>z8 e k bytes H (ev s) (ev x)
 | .apf e k bytes s x=>z8 e k bytes H (ev s) (ev x)
 | .apz e k bytes z s n =>
  (match ev s,zR (ev n) with
   | .nl _,some m=>if 0 < m/\m.toNat * bytes<=140737488355328/\m.toNat<=maxLen then some (.ol H.length 0 m.toNat,H++[⟨e,k,List.replicate m.toNat z,0,0⟩]) else none
   | _,_=>none)
 | .lns x=>(match ev x with|.v (.string s)=>some (.v (.int .i64 s.size),H)|_=>none)
 | .cpy k d x=>cpyA k H (ev d) (ev x)
 | .len x=>(match Zp H (ev x) with|some n=>some (.v (.int .i64 (n:Int)),H)|none=>none)
 | .bi b ats ty cs xs=>(match zy (xs.map ev) with|some vs=>(match zh P (builtin b ats ty cs vs.toArray) with|some (.value v)=>(zk v).map (·,H)|_=>none)|none=>none)
 | .mkf f xs=>some (.fn f (xs.map ev),H)
 | .eqs ng ks x y=>(wK ng ks (ev x) (ev y)).map (·,H)
 | .mki t x=>(mkiA t (ev x)).map (·,H)
 | .mkm2 nm x=>(mk2A nm (ev x)).map (·,H)
 | .mkb f x=>(mkbA f (ev x)).map (·,H)
 | .mkm ag m=>some (.mp H.length 0,H++[⟨ZM,m+2,[.agg (.v (.int .i64 0) :: .v (.bool ag)::List.replicate m (.v (.bool false)))],0,0⟩])
 | .rgm x=>rgmA H (ev x)
 | .cup x=>(cupA H (ev x)).map (·,H)
 | .cpu u x=>(cpuA P u H (ev x)).map (·,H)
 | .usd x=>(usdA H (ev x)).map (·,H)
 | .ust e x n=>ustA e H (ev x) (ev n)
 | .sla n x lo hi=>slaE n H (ev x) ((lo.map ev).map zR) ((hi.map ev).map zR)
 | .sob x=>(sobA H (ev x)).map (·,H)
 | .aps e bytes s x=>apsA e bytes H (ev s) (ev x)
 | .clr k z x=>(clrA k z H (ev x)).map (.tup [],·)
 | .nxm x=>(match nxmA H (ev x) with|some [p]=>some p|_=>none)
 | .enm x=>(entA H (ev x)).map (·,H)
 | .mdl kd x i=>(mdlA H kd (ev x) (ev i)).map (.tup [],·)
 | .lkp kd c z x i=>(wJ H kd c z (ev x) (ev i)).map (·,H)
 | .mup kd x i v=>(mupA H kd (ev x) (ev i) (ev v)).map (.tup [],·)
 | .lnm x=>(match wk H (ev x) with|some n=>some (.v (.int .i64 (n:Int)),H)|none=>none)
 | .call ..|.callh ..|.callm ..|.callv ..|.calli ..|.bad=>none
theorem Ow.le_push (O:Ow) (d:Ds):O.le (O++[d]):=fun i d' h=>⟨d',by rw [List.getElem?_append_left (List.getElem?_eq_some_iff.1 h).1];exact h,Nat.le_refl _,fun _=>rfl⟩
theorem Ow.le_set (O:Ow) (i:Nat) (d d':Ds) (hd:O[i]? = some d) (hg:d.g<=d'.g) (he:d.g=d'.g->d'=d):O.le (O.set i d'):=fun j dj h=>by
 by_cases hij:i=j
 ·subst hij
  rw [hd] at h
  cases h
  exact ⟨d',by rw [List.getElem?_set_self (List.getElem?_eq_some_iff.1 hd).1],hg,he⟩
 ·exact ⟨dj,by rw [List.getElem?_set_ne hij];exact h,Nat.le_refl _,fun _=>rfl⟩
theorem fine_one {a:AV} (h:a.fine=true):∀ u ∈ a.cells,u.one=true:=by
 cases a with
 | agg cs=>exact fun u hu=>(List.all_eq_true.1 h) u hu
 | _ =>
  intro u hu
  have:u ∈ [_]:=hu
  simp at this
  subst this
  exact h
theorem yn {a:AV} (h:a.fine=true):a.one=true\/∃ cs,a = .agg cs:=by
 cases a with
 | agg cs=>exact .inr ⟨cs,rfl⟩
 | _=>exact .inl h
theorem Own.pushG {B : Bd} {w0 w w1 : World} {F0 F : Fz} {O : Ow} {H : Hp} (h : Own B w0 F0 F O H w) (hb : Below w.heap.size w w1) (hs : w1.heap.size = w.heap.size) {e : TypeId} {k C : Nat} {cs : Array Value} {es : List AV} {o : Obj} (ho : ObjIs (some o) e k es.length cs)
  (hC:C<=maxLen) (hl:e ≠ ZM->es.length<=C) (hz:e ≠ ZM->cs.size=C * k) (hn:∀ x ∈ es,x.cells.length=k) (h1:∀ x ∈ es,∀ a ∈ x.cells,AV.one a=true)
  (hc:∀ (n j:Nat) (x a:AV),es[n]? = some x->x.cells[j]? = some a->∃ c,cs[n * k+j]? = some c/\VR F O c a) :
  Own B w0 F0 F (O++[⟨w.heap.size,C,0,k⟩]) (H++[⟨e,k,es,0,0⟩]) (w1.alloc o):=by
 have hle:=Ow.le_push O ⟨w.heap.size,C,0,k⟩
 have hw1:Own B w0 F0 F O H w1:=h.keep hb
 have hb2:Below w1.heap.size w1 (w1.alloc o):=(Below.refl _ _).alloc (Nat.le_refl _) _
 have hw2:=hw1.keep hb2
 refine ⟨by simp [h.len],?_,?_,hw2.fr,hw2.le,hw2.new,hw2.below,hw2.size,hw2.kept,hw2.kb⟩
 ·intro i d ob hd ho'
  by_cases hi:i < O.length
  ·rw [List.getElem?_append_left hi] at hd
   rw [List.getElem?_append_left (by rw [<- h.len];exact hi)] at ho'
   have r:=hw2.row i d ob hd ho'
   obtain ⟨cur,q1,q2,q3⟩:=r.cur
   exact { r with cur:=⟨cur,q1,q2,fun n j x a hx ha=>by obtain ⟨c,g1,g2⟩:=q3 n j x a hx ha;exact ⟨c,g1,g2.mono (Fz.le_refl F) hle⟩⟩ }
  ·have hio : i = O.length := by
    have:=(List.getElem?_eq_some_iff.1 hd).1
    simp at this
    omega
   subst hio
   rw [List.getElem?_append_right (Nat.le_refl _)] at hd
   rw [h.len,List.getElem?_append_right (Nat.le_refl _)] at ho'
   simp at hd ho'
   subst hd
   subst ho'
   refine ⟨rfl,rfl,h.okGe (Nat.le_refl _),⟨cs,?_,hz,fun n j x a hx ha=>?_⟩,hC,hl,hn,h1,?_,Nat.zero_le _⟩
   ·show ObjIs ((w1.heap.push _)[w.heap.size]?) _ _ _ _
    rw [<- hs,Array.getElem?_push_size]
    exact ho
   ·obtain ⟨c, g1, g2⟩ := hc n j x a hx ha
    exact ⟨c,g1,g2.mono (Fz.le_refl F) hle⟩
   ·intro o v hv
    have:=yk (h.fr _ _ _ hv)
    simp at this
 ·intro i j d d' hd hd' hbb
  have old:∀ (i:Nat) (d:Ds),i < O.length->(O++[⟨w.heap.size,C,0,k⟩])[i]? = some d->O[i]? = some d/\d.b < w.heap.size:=fun i d hi hd=>by
   rw [List.getElem?_append_left hi] at hd
   have:i < H.length:=by rw [<- h.len];exact hi
   exact ⟨hd,(h.row i d _ hd (List.getElem?_eq_getElem this)).lt⟩
  have new:∀ (i:Nat) (d:Ds),¬ i < O.length->(O++[⟨w.heap.size,C,0,k⟩])[i]? = some d->i=O.length/\d.b=w.heap.size:=fun i d hi hd=>by
   have h1:=(List.getElem?_eq_some_iff.1 hd).1
   simp at h1
   have hio:i=O.length:=by omega
   subst hio
   rw [List.getElem?_append_right (Nat.le_refl _)] at hd
   simp at hd
   subst hd
   exact ⟨rfl,rfl⟩
  by_cases hi:i < O.length
  ·obtain ⟨g1, g2⟩ := old i d hi hd
   by_cases hj:j < O.length
   ·obtain ⟨g3, g4⟩ := old j d' hj hd'
    exact h.inj i j d d' g1 g3 hbb
   ·obtain ⟨g3, g4⟩ := new j d' hj hd'
    omega
  ·obtain ⟨g1, g2⟩ := new i d hi hd
   by_cases hj:j < O.length
   ·obtain ⟨g3, g4⟩ := old j d' hj hd'
    omega
   ·obtain ⟨g3, g4⟩ := new j d' hj hd'
    omega
theorem Own.push {B : Bd} {w0 w w1 : World} {F0 F : Fz} {O : Ow} {H : Hp} (h : Own B w0 F0 F O H w) (hb : Below w.heap.size w w1) (hs : w1.heap.size = w.heap.size) {e : TypeId} (ne : e ≠ ZM) {k C : Nat} {cs : Array Value} {es : List AV}
  (hC:C<=maxLen) (hl:es.length<=C) (hz:cs.size=C * k) (hn:∀ x ∈ es,x.cells.length=k) (h1:∀ x ∈ es,∀ a ∈ x.cells,AV.one a=true)
  (hc:∀ (n j:Nat) (x a:AV),es[n]? = some x->x.cells[j]? = some a->∃ c,cs[n * k+j]? = some c/\VR F O c a) :
  Own B w0 F0 F (O++[⟨w.heap.size,C,0,k⟩]) (H++[⟨e,k,es,0,0⟩]) (w1.alloc (.cells cs e)) :=
 h.pushG hb hs (.inl ⟨ne,rfl⟩) hC (fun _=>hl) (fun _=>hz) hn h1 hc
theorem below_setRow' {B g:Nat} {w0 w:World} (hb:Below B w0 w) (hBg:B<=g) (cs:Array Value):Below B w0 (w.setRow g cs) :=
 hb.trans ⟨rfl,rfl,rfl,by simp,fun k hk=>setRow_other w g k cs (by omega)⟩
theorem Own.writeG {B : Bd} {w0 w : World} {F0 F : Fz} {O : Ow} {H : Hp} (h : Own B w0 F0 F O H w) {i : Nat} {ob : OB} {d : Ds} (hi : H[i]? = some ob) (hd : O[i]? = some d) {new : Array Value} {g' : Nat} {es' : List AV} {w' : World} (hoth : ∀ b, b ≠ d.b -> w'.heap[b]? = w.heap[b]?) (hbel : Below B.n w0 w') (hws : B.n <= w'.heap.size) (hobj : ObjIs (w'.heap[d.b]?) ob.e ob.k es'.length new)
  (hg:ob.g<=g') (hl:ob.e ≠ ZM->es'.length<=d.C) (hz:ob.e ≠ ZM->new.size=d.C * ob.k) (hn:∀ x ∈ es',x.cells.length=ob.k) (h1:∀ x ∈ es',∀ a ∈ x.cells,AV.one a=true) (hfz:ob.fz<=es'.length)
  (hc:∀ (n j:Nat) (x a:AV),es'[n]? = some x->x.cells[j]? = some a->∃ c,new[n * ob.k+j]? = some c/\VR F O c a) (hf:∀ o v,F d.b o=some v->w'.cell? ⟨d.b,o,none⟩=some v) :
  Own B w0 F0 F (O.set i ⟨d.b,d.C,g',d.k⟩) (H.set i ⟨ob.e,ob.k,es',g',ob.fz⟩) w'/\O.le (O.set i ⟨d.b,d.C,g',d.k⟩):=by
 have r:=h.row i d ob hd hi
 have hle:O.le (O.set i ⟨d.b,d.C,g',d.k⟩):=Ow.le_set O i d _ hd (by rw [r.hg];exact hg) (fun e=>by
  have e':d.g=g':=e
  subst e';rfl)
 have hiO:=(List.getElem?_eq_some_iff.1 hd).1
 refine ⟨⟨by simp [h.len],?_,?_,?_,h.le,h.new,hbel,hws,fun b hk=>by rw [hoth b (fun e=>r.hB.2 (e ▸ hk))];exact h.kept b hk,h.kb⟩,hle⟩
 ·intro j dj obj hdj hoj
  by_cases hij:i=j
  ·subst hij
   rw [List.getElem?_set_self hiO] at hdj
   rw [List.getElem?_set_self (by rw [<- h.len];exact hiO)] at hoj
   cases hdj
   cases hoj
   refine ⟨rfl,r.hk,r.hB,⟨new,hobj,hz,fun n j x a hx ha=>?_⟩,r.hC,hl,hn,h1,r.hf,hfz⟩
   obtain ⟨c,g1,g2⟩:=hc n j x a hx ha
   exact ⟨c,g1,g2.mono (Fz.le_refl F) hle⟩
  ·rw [List.getElem?_set_ne hij] at hdj hoj
   have rj:=h.row j dj obj hdj hoj
   obtain ⟨cur',q1,q2,q3⟩:=rj.cur
   refine { rj with cur:=⟨cur',?_,q2,fun n j x a hx ha=>by obtain ⟨c,g1,g2⟩:=q3 n j x a hx ha;exact ⟨c,g1,g2.mono (Fz.le_refl F) hle⟩⟩ }
   rw [hoth dj.b (fun e=>hij (h.inj i j d dj hd hdj e.symm))]
   exact q1
 ·intro a b da db ha hb hab
  have fix:∀ (a:Nat) (da:Ds),(O.set i ⟨d.b,d.C,g',d.k⟩)[a]? = some da->∃ d1,O[a]? = some d1/\d1.b=da.b:=fun a da ha=>by
   by_cases hia:i=a
   ·subst hia
    rw [List.getElem?_set_self hiO] at ha
    cases ha
    exact ⟨d,hd,rfl⟩
   ·rw [List.getElem?_set_ne hia] at ha
    exact ⟨da,ha,rfl⟩
  obtain ⟨d1,e1,f1⟩:=fix a da ha
  obtain ⟨d2,e2,f2⟩:=fix b db hb
  exact h.inj a b d1 d2 e1 e2 (by rw [f1,f2];exact hab)
 ·intro b o v hv
  by_cases hbb:b=d.b
  ·subst hbb
   exact hf o v hv
  ·have := h.fr b o v hv
   rw [World.cell?_of_block (w:=w) (hoth b hbb)]
   exact this
theorem Own.kill {B : Bd} {w0 w : World} {F0 F : Fz} {O : Ow} {H : Hp} (h : Own B w0 F0 F O H w) {i : Nat} {ob : OB} {d : Ds} (hi : H[i]? = some ob) (hd : O[i]? = some d) (hfz : ob.fz = 0) {w' : World} (hoth : ∀ b, b ≠ d.b -> w'.heap[b]? = w.heap[b]?) (hbel : Below B.n w0 w') (hws : B.n <= w'.heap.size) (hobj : ∃ c e' fr, w'.heap[d.b]? = some (.cells c e' fr)) :
  Own B w0 F0 F (O.set i ⟨d.b,d.C,ob.g+1,0⟩) (H.set i ⟨ZM,0,[],ob.g+1,0⟩) w'/\O.le (O.set i ⟨d.b,d.C,ob.g+1,0⟩):=by
 have r:=h.row i d ob hd hi
 have hle:O.le (O.set i ⟨d.b,d.C,ob.g+1,0⟩):=Ow.le_set O i d _ hd (by rw [r.hg];exact Nat.le_succ _) (fun e=>by
  have e':d.g=ob.g+1:=e
  rw [r.hg] at e'
  omega)
 have hiO:=(List.getElem?_eq_some_iff.1 hd).1
 have hno:∀ o v,F d.b o=some v->False:=fun o v hv=>by
  have:=r.hf o v hv
  rw [hfz] at this
  omega
 refine ⟨⟨by simp [h.len],?_,?_,?_,h.le,h.new,hbel,hws,fun b hk=>by rw [hoth b (fun e=>r.hB.2 (e ▸ hk))];exact h.kept b hk,h.kb⟩,hle⟩
 ·intro j dj obj hdj hoj
  by_cases hij:i=j
  ·subst hij
   rw [List.getElem?_set_self hiO] at hdj
   rw [List.getElem?_set_self (by rw [<- h.len];exact hiO)] at hoj
   cases hdj
   cases hoj
   exact ⟨rfl,rfl,r.hB,⟨#[],.inr ⟨rfl,.inr (.inr ⟨rfl,hobj,rfl,rfl⟩)⟩,fun ne=>absurd rfl ne,fun n j x a hx=>by simp at hx⟩,r.hC,fun ne=>absurd rfl ne,fun x hx=>by simp at hx,fun x hx=>by simp at hx,fun o v hv=>(hno o v hv).elim,Nat.zero_le _⟩
  ·rw [List.getElem?_set_ne hij] at hdj hoj
   have rj:=h.row j dj obj hdj hoj
   obtain ⟨cur',q1,q2,q3⟩:=rj.cur
   refine { rj with cur:=⟨cur',?_,q2,fun n j x a hx ha=>by obtain ⟨c,g1,g2⟩:=q3 n j x a hx ha;exact ⟨c,g1,g2.mono (Fz.le_refl F) hle⟩⟩ }
   rw [hoth dj.b (fun e=>hij (h.inj i j d dj hd hdj e.symm))]
   exact q1
 ·intro a b da db ha hb hab
  have fix:∀ (a:Nat) (da:Ds),(O.set i ⟨d.b,d.C,ob.g+1,0⟩)[a]? = some da->∃ d1,O[a]? = some d1/\d1.b=da.b:=fun a da ha=>by
   by_cases hia:i=a
   ·subst hia
    rw [List.getElem?_set_self hiO] at ha
    cases ha
    exact ⟨d,hd,rfl⟩
   ·rw [List.getElem?_set_ne hia] at ha
    exact ⟨da,ha,rfl⟩
  obtain ⟨d1,e1,f1⟩:=fix a da ha
  obtain ⟨d2,e2,f2⟩:=fix b db hb
  exact h.inj a b d1 d2 e1 e2 (by rw [f1,f2];exact hab)
 ·intro b o v hv
  by_cases hbb:b=d.b
  ·subst hbb
   exact (hno o v hv).elim
  ·have := h.fr b o v hv
   rw [World.cell?_of_block (w:=w) (hoth b hbb)]
   exact this
theorem Own.write {B : Bd} {w0 w : World} {F0 F : Fz} {O : Ow} {H : Hp} (h : Own B w0 F0 F O H w) {i : Nat} {ob : OB} {d : Ds} (hi : H[i]? = some ob) (ne : ob.e ≠ ZM) (hd : O[i]? = some d) {new : Array Value} {g' : Nat} {es' : List AV}
  (hg:ob.g<=g') (hl:es'.length<=d.C) (hz:new.size=d.C * ob.k) (hn:∀ x ∈ es',x.cells.length=ob.k) (h1:∀ x ∈ es',∀ a ∈ x.cells,AV.one a=true) (hfz:ob.fz<=es'.length)
  (hc:∀ (n j:Nat) (x a:AV),es'[n]? = some x->x.cells[j]? = some a->∃ c,new[n * ob.k+j]? = some c/\VR F O c a) (hf:∀ o v,F d.b o=some v->new[o]? = some v) :
  Own B w0 F0 F (O.set i ⟨d.b,d.C,g',d.k⟩) (H.set i ⟨ob.e,ob.k,es',g',ob.fz⟩) (w.setRow d.b new)/\O.le (O.set i ⟨d.b,d.C,g',d.k⟩):=by
 have r:=h.row i d ob hd hi
 obtain ⟨cur,hcur,hsz,_⟩:=r.curc ne
 have hrow:(w.setRow d.b new).heap[d.b]? = some (.cells new ob.e (0,0)):=setRow_heap w d.b cur new ob.e (0,0) hcur
 exact h.writeG hi hd (fun b hb=>setRow_other w d.b b new hb) (below_setRow' h.below r.hB.1 new) (by simpa using h.size) (.inl ⟨ne,hrow⟩) hg (fun _=>hl) (fun _=>hz) hn h1 hfz hc (fun o v hv=>by
  have:=hf o v hv
  simp [World.cell?,hrow,this])
theorem Own.move {B : Bd} {w0 w w1 : World} {F0 F : Fz} {O : Ow} {H : Hp} (h : Own B w0 F0 F O H w) (hb : Below w.heap.size w w1) (hs : w1.heap.size = w.heap.size) {i : Nat} {ob : OB} {d : Ds} (hi : H[i]? = some ob) (ne : ob.e ≠ ZM) (hd : O[i]? = some d) {new : Array Value} {C : Nat} {es' : List AV}
  (hC:C<=maxLen) (hl:es'.length<=C) (hz:new.size=C * ob.k) (hn:∀ x ∈ es',x.cells.length=ob.k) (h1:∀ x ∈ es',∀ a ∈ x.cells,AV.one a=true) (hfz:ob.fz<=es'.length)
  (hc:∀ (n j:Nat) (x a:AV),es'[n]? = some x->x.cells[j]? = some a->∃ c,new[n * ob.k+j]? = some c/\VR F O c a) :
  Own B w0 F0 F (O.set i ⟨w.heap.size,C,ob.g+1,ob.k⟩) (H.set i ⟨ob.e,ob.k,es',ob.g+1,ob.fz⟩) (w1.alloc (.cells new ob.e))/\O.le (O.set i ⟨w.heap.size,C,ob.g+1,ob.k⟩):=by
 have r:=h.row i d ob hd hi
 have hle:O.le (O.set i ⟨w.heap.size,C,ob.g+1,ob.k⟩):=Ow.le_set O i d _ hd (by rw [r.hg];exact Nat.le_succ _) (fun e=>by
  have e':d.g=ob.g+1:=e
  rw [r.hg] at e'
  omega)
 have hiO:=(List.getElem?_eq_some_iff.1 hd).1
 have hw1:Own B w0 F0 F O H w1:=h.keep hb
 have hb2:Below w1.heap.size w1 (w1.alloc (.cells new ob.e)):=(Below.refl _ _).alloc (Nat.le_refl _) _
 have hw2:=hw1.keep hb2
 refine ⟨⟨by simp [h.len],?_,?_,hw2.fr,hw2.le,hw2.new,hw2.below,hw2.size,hw2.kept,hw2.kb⟩,hle⟩
 ·intro j dj obj hdj hoj
  by_cases hij:i=j
  ·subst hij
   rw [List.getElem?_set_self hiO] at hdj
   rw [List.getElem?_set_self (by rw [<- h.len];exact hiO)] at hoj
   cases hdj
   cases hoj
   refine ⟨rfl,rfl,h.okGe (Nat.le_refl _),⟨new,.inl ⟨ne,?_⟩,fun _=>hz,fun n j x a hx ha=>?_⟩,hC,fun _=>hl,hn,h1,?_,hfz⟩
   ·show (w1.heap.push _)[w.heap.size]? = _
    rw [<- hs,Array.getElem?_push_size]
   ·obtain ⟨c, g1, g2⟩ := hc n j x a hx ha
    exact ⟨c,g1,g2.mono (Fz.le_refl F) hle⟩
   ·intro o v hv
    have:=yk (h.fr _ _ _ hv)
    simp at this
  ·rw [List.getElem?_set_ne hij] at hdj hoj
   have rj:=hw2.row j dj obj hdj hoj
   obtain ⟨cur',q1,q2,q3⟩:=rj.cur
   exact { rj with cur:=⟨cur',q1,q2,fun n j x a hx ha=>by obtain ⟨c,g1,g2⟩:=q3 n j x a hx ha;exact ⟨c,g1,g2.mono (Fz.le_refl F) hle⟩⟩ }
 ·intro a b da db ha hb' hab
  have fix:∀ (a:Nat) (da:Ds),a ≠ i->(O.set i ⟨w.heap.size,C,ob.g+1,ob.k⟩)[a]? = some da->O[a]? = some da/\da.b < w.heap.size:=fun a da hia ha=>by
   rw [List.getElem?_set_ne (fun e=>hia e.symm)] at ha
   have:a < H.length:=by rw [<- h.len];exact (List.getElem?_eq_some_iff.1 ha).1
   exact ⟨ha,(h.row a da _ ha (List.getElem?_eq_getElem this)).lt⟩
  have same:∀ (da:Ds),(O.set i ⟨w.heap.size,C,ob.g+1,ob.k⟩)[i]? = some da->da.b=w.heap.size:=fun da ha=>by
   rw [List.getElem?_set_self hiO] at ha
   cases ha
   rfl
  by_cases ha':a=i
  ·subst ha'
   by_cases hb2:b=a
   ·exact hb2.symm
   ·have := (fix b db hb2 hb').2
    have:=same da ha
    omega
  ·by_cases hb2 : b = i
   ·subst hb2
    have:=(fix a da ha' ha).2
    have:=same db hb'
    omega
   ·exact h.inj a b da db (fix a da ha' ha).1 (fix b db hb2 hb').1 hab
def ZW:TypeDesc->Bool
 | .struct _|.array _ _=>true
 | _=>false
theorem ZD (b o n:Nat):(⟨b,o,none⟩:Addr).add n=⟨b,o+n,none⟩:=by
 unfold Addr.add;split<;>simp_all
theorem xJ {P:Program} {t:TypeId} {i:TypeInfo} (h:P.info? t=some i) (w:World):(typeInfo t).run P w = .ok i w:=by
 simp only [typeInfo,program,Sem.run_bind,Sem.run,Result.andThen_ok,h];rfl
theorem ZJ {P:Program} {t:TypeId} {i:TypeInfo} (h:P.info? t=some i) (w:World):(sizeOf t).run P w = .ok i.size w:=by
 simp only [sizeOf,Sem.run_bind,xJ h,Result.andThen_ok];rfl
theorem y4 {P:Program} {t:TypeId} {i:TypeInfo} {z:Value} (h:P.info? t=some i) (hz:i.zero=some z) (w:World):(zeroValue t).run P w = .ok z w:=by
 simp only [zeroValue,Sem.run_bind,xJ h,Result.andThen_ok,hz];rfl
theorem run_isAgg {P:Program} {t:TypeId} {d:TypeDesc} (h:P.underlying t=some d) (w:World):(isAgg t).run P w = .ok (ZW d) w:=by
 simp only [isAgg,Sem.run_bind,run_underlying h,Result.andThen_ok]
 cases d<;>rfl
theorem rd_run {P : Program} {w : World} {F : Fz} {O : Ow} {b o k : Nat} {es : List AV} (hk : ∀ e ∈ es, e.cells.length = k) (h1 : ∀ e ∈ es, ∀ a ∈ e.cells, AV.one a = true)
  (hcell:∀ (i j:Nat) (e a:AV),es[i]? = some e->e.cells[j]? = some a->∃ c,w.cell? ⟨b,o+i * k+j,none⟩=some c/\VR F O c a)
  {t:TypeId} {inf:TypeInfo} {d:TypeDesc} {i off:Nat} {r:AV} (hi:P.info? t=some inf) (hd:P.underlying t=some d) (hr:rdA k es i off (ZW d) inf.size=some r) :
  ∃ x,(loadVar t ⟨b,o+i * k+off,none⟩).run P w = .ok x w/\VR F O x r:=by
 unfold rdA at hr
 split at hr
 ·cases hr
 ·rename_i e he
  have hek:=hk e (List.mem_of_getElem? he)
  simp only [loadVar,Sem.run_bind,run_isAgg hd,Result.andThen_ok]
  cases hag:ZW d
  ·simp only [hag,Bool.false_eq_true,if_false] at hr ⊢
   obtain ⟨c,hc,hv⟩:=hcell i off e r he hr
   exact ⟨c,by simp only [load,Sem.run,hc],hv⟩
  ·simp only [hag,if_true] at hr ⊢
   split at hr
   ·rename_i hle
    have hr':r = .agg ((e.cells.drop off).take inf.size):=by
     split at hr
     ·rename_i hz
      cases hr
      rw [hz.1,List.drop_zero,List.take_of_length_le (by omega)]
     ·cases hr;rfl
    subst hr'
    have hex:∀ j,j < inf.size->∃ c a,w.cell? ⟨b,o+i * k+off+j,none⟩=some c/\e.cells[off+j]? = some a/\VR F O c a:=fun j hj=>by
     have hlt:off+j < e.cells.length:=by omega
     obtain ⟨c,hc,hv⟩:=hcell i (off+j) e _ he (List.getElem?_eq_getElem hlt)
     exact ⟨c,_,by rw [<- hc,Nat.add_assoc (o+i * k)],List.getElem?_eq_getElem hlt,hv⟩
    have hrun:=run_loadCells_list (P:=P) w ⟨b,o+i * k+off,none⟩ ((List.range inf.size).map fun j=>(w.cell? ⟨b,o+i * k+off+j,none⟩).getD undef) (fun j v hv=>by
     rw [List.getElem?_map] at hv
     obtain ⟨j',hj',rfl⟩:=Option.map_eq_some_iff.1 hv
     have hj2:=(List.getElem?_eq_some_iff.1 hj').1
     rw [List.getElem?_range (by simpa using hj2)] at hj'
     cases hj'
     obtain ⟨c,a,g1,_,_⟩:=hex j (by simpa using hj2)
     rw [ZD,g1]
     rfl)
    simp only [List.length_map,List.length_range] at hrun
    refine ⟨.agg ((List.range inf.size).map fun j=>(w.cell? ⟨b,o+i * k+off+j,none⟩).getD undef).toArray,?_,?_⟩
    ·simp only [Sem.run_bind,ZJ hi,Result.andThen_ok,hrun]
     rfl
    ·refine .agg _ _ (by simp;omega) (fun a ha=>h1 e (List.mem_of_getElem? he) a (List.mem_of_mem_drop (List.mem_of_mem_take ha))) fun j c a hc ha=>?_
     have hjl:j < inf.size:=by have:=(List.getElem?_eq_some_iff.1 hc).1;simpa using this
     obtain ⟨c',a',g1,g2,g3⟩:=hex j hjl
     rw [List.getElem?_map,List.getElem?_range hjl] at hc
     simp only [Option.map_some,Option.some.injEq,g1,Option.getD_some] at hc
     rw [List.getElem?_take,if_pos hjl,List.getElem?_drop] at ha
     rw [g2] at ha
     cases ha
     subst hc
     exact g3
   ·cases hr
theorem Zz {H:Hp} {i g:Nat} {ob:OB} (h:Sim.live H i g=some ob):H[i]? = some ob/\ob.g=g:=by
 unfold Sim.live at h
 split at h
 ·split at h
  ·rename_i h1 h2
   split at h
   ·cases h
   ·cases h;exact ⟨h1,h2⟩
  ·cases h
 ·cases h
theorem z7 {H:Hp} {i g:Nat} {ob:OB} (h:Sim.live H i g=some ob):ob.e ≠ ZM:=by
 unfold Sim.live at h
 split at h
 ·split at h
  ·split at h
   ·cases h
   ·rename_i hn;cases h;simpa using hn
  ·cases h
 ·cases h
theorem liveM_ok {H:Hp} {i g:Nat} {ob:OB} (h:Sim.liveM H i g=some ob):H[i]? = some ob/\ob.g=g/\ob.e=ZM/\2<=ob.k:=by
 unfold Sim.liveM at h
 split at h
 ·split at h
  ·rename_i h1 h2
   split at h
   ·rename_i hn;cases h;rw [Bool.and_eq_true] at hn;exact ⟨h1,h2,by simpa using hn.1,Nat.le_of_ble_eq_true hn.2⟩
   ·cases h
  ·cases h
 ·cases h
section
variable {P:Program} {B:Bd} {w0 w:World} {F0 F:Fz} {O:Ow} {H:Hp}
theorem Own.oa (h : Own B w0 F0 F O H w) {x : Value} {i g e off : Nat} {ob : OB} (hx : VR F O x (.oa i g e off)) (hl : Sim.live H i g = some ob) :
  ∃ d,O[i]? = some d/\H[i]? = some ob/\Row B F O w d ob/\x = .pointer (some ⟨d.b,e * ob.k+off,none⟩):=by
 obtain ⟨hi,hg⟩:=Zz hl
 obtain ⟨d,hd,r⟩:=h.get hi
 cases hx with
 | p h=>cases h
 | oa _ _ _ _ _ d' hd' hg' h1 hh =>
  rw [hd] at hd'
  cases hd'
  refine ⟨d,hd,hi,r,?_⟩
  rw [<- r.hk]
  exact hh (by rw [r.hg,hg])
theorem Own.ol (h : Own B w0 F0 F O H w) {x : Value} {i g n : Nat} {ob : OB} (hx : VR F O x (.ol i g n)) (hl : Sim.live H i g = some ob) :
  ∃ d,O[i]? = some d/\H[i]? = some ob/\Row B F O w d ob/\n<=d.C/\x = .slice (some ⟨d.b,0,none⟩) n d.C:=by
 obtain ⟨hi,hg⟩:=Zz hl
 obtain ⟨d,hd,r⟩:=h.get hi
 cases hx with
 | p h=>cases h
 | ol _ _ _ _ d' hd' hg' h1 hh =>
  rw [hd] at hd'
  cases hd'
  obtain ⟨q1,q2⟩:=hh (by rw [r.hg,hg])
  exact ⟨d,hd,hi,r,q1,q2⟩
theorem Own.oc (h : Own B w0 F0 F O H w) {x : Value} {i g n c : Nat} {ob : OB} (hx : VR F O x (.oc i g n c)) (hl : Sim.live H i g = some ob) :
  ∃ d,O[i]? = some d/\H[i]? = some ob/\Row B F O w d ob/\n<=d.C/\d.C=c/\x = .slice (some ⟨d.b,0,none⟩) n d.C:=by
 obtain ⟨hi,hg⟩:=Zz hl
 obtain ⟨d,hd,r⟩:=h.get hi
 cases hx with
 | p h=>cases h
 | oc _ _ _ _ _ d' hd' hg' h1 hh =>
  rw [hd] at hd'
  cases hd'
  obtain ⟨q1,q2,q3⟩:=hh (by rw [r.hg,hg])
  exact ⟨d,hd,hi,r,q1,q2,q3⟩
theorem Own.io (h:Own B w0 F0 F O H w) {x:Value} {t i g e off:Nat} {ob:OB} (hx:VR F O x (.io t i g e off)) (hl:Sim.live H i g=some ob):∃ y,x = .iface t y/\VR F O y (.oa i g e off):=by
 obtain ⟨hi,hg⟩:=Zz hl
 obtain ⟨d,hd,r⟩:=h.get hi
 cases hx with
 | p h=>cases h
 | io _ _ _ _ _ _ d' hd' hg' h1 hh =>
  rw [hd] at hd'
  cases hd'
  have e1:g=d.g:=by rw [r.hg];exact hg.symm
  exact ⟨_,hh e1,.oa _ i g e off d hd (by omega) rfl fun _=>rfl⟩
theorem Own.ib (h:Own B w0 F0 F O H w) {x:Value} {t f i g e off:Nat} {ob:OB} (hx:VR F O x (.ib t f i g e off)) (hl:Sim.live H i g=some ob):∃ y,x = .iface t y/\VR F O y (.bf f i g e off):=by
 obtain ⟨hi,hg⟩:=Zz hl
 obtain ⟨d,hd,r⟩:=h.get hi
 cases hx with
 | p h=>cases h
 | ib _ _ _ _ _ _ _ d' hd' hg' h1 hh =>
  rw [hd] at hd'
  cases hd'
  have e1:g=d.g:=by rw [r.hg];exact hg.symm
  exact ⟨_,hh e1,.bf _ f i g e off d hd (by omega) rfl fun _=>rfl⟩
theorem Own.recv (h:Own B w0 F0 F O H w) {x:Value} {a rc:AV} {t:Nat} (hx:VR F O x a) (hr:XD H a=some (t,rc)):∃ y,x = .iface t y/\VR F O y rc:=by
 cases a with
 | io t i g e off =>
  simp only [XD] at hr
  split at hr
  ·rename_i ob hl;cases hr;exact h.io hx hl
  ·cases hr
 | ib t f i g e off =>
  simp only [XD] at hr
  split at hr
  ·rename_i ob hl;cases hr;exact h.ib hx hl
  ·cases hr
 | _=>cases hr
theorem Own.bf (h:Own B w0 F0 F O H w) {x:Value} {f:FuncId} {i g e off:Nat} {ob:OB} (hx:VR F O x (.bf f i g e off)) (hl:Sim.live H i g=some ob):∃ y,x = .func (.func f) #[y] #[]/\VR F O y (.oa i g e off):=by
 obtain ⟨hi,hg⟩:=Zz hl
 obtain ⟨d,hd,r⟩:=h.get hi
 cases hx with
 | p h=>cases h
 | bf _ _ _ _ _ _ d' hd' hg' h1 hh =>
  rw [hd] at hd'
  cases hd'
  have e1:g=d.g:=by rw [r.hg];exact hg.symm
  exact ⟨_,hh e1,.oa _ i g e off d hd (by omega) rfl fun _=>rfl⟩
theorem Own.os (h : Own B w0 F0 F O H w) {x : Value} {i g lo n : Nat} {ob : OB} (hx : VR F O x (.os i g lo n)) (hl : Sim.live H i g = some ob) :
  ∃ d,O[i]? = some d/\H[i]? = some ob/\Row B F O w d ob/\lo<=n/\n<=d.C/\∃ A,x = .slice A (n - lo) (d.C - lo)/\(lo < d.C->A=some ⟨d.b,lo * d.k,none⟩):=by
 obtain ⟨hi,hg⟩:=Zz hl
 obtain ⟨d,hd,r⟩:=h.get hi
 cases hx with
 | p h=>cases h
 | os _ _ _ _ _ d' hd' hg' h1 hh =>
  rw [hd] at hd'
  cases hd'
  obtain ⟨q1,q2,q3⟩:=hh (by rw [r.hg,hg])
  exact ⟨d,hd,hi,r,q1,q2,q3⟩
theorem Row.cell {d:Ds} {ob:OB} (r:Row B F O w d ob) (ne:ob.e ≠ ZM) (i j:Nat) (e a:AV) (he:ob.es[i]? = some e) (ha:e.cells[j]? = some a):∃ c,w.cell? ⟨d.b,0+i * ob.k+j,none⟩=some c/\VR F O c a:=by
 obtain ⟨cur,q1,q2,q3⟩:=r.curc ne
 obtain ⟨c,hc,hv⟩:=q3 i j e a he ha
 exact ⟨c,by simp [World.cell?,q1,hc],hv⟩
theorem load_run (h : Own B w0 F0 F O H w) {x : Value} {a r : AV} (hx : VR F O x a) {t : TypeId} {inf : TypeInfo} {d : TypeDesc} (hi : P.info? t = some inf) (hd : P.underlying t = some d) (hr : zr H (ZW d) inf.size a = some r) :
  ∃ y,(Instr.loadAt t x).run P w = .ok y w/\VR F O y r:=by
 cases a with
 | ad k es i off =>
  have hp:=hx.pvC rfl
  cases hp with
  | ad b o _ _ _ _ hk h1 f hf hc =>
   obtain ⟨y,g1,g2⟩:=rd_run (P:=P) (w:=w) (F:=F) (O:=O) hk h1 (fun i j e a he ha=>by
    have hil:=(List.getElem?_eq_some_iff.1 he).1
    have hjl:=(List.getElem?_eq_some_iff.1 ha).1
    rw [hk e (List.mem_of_getElem? he)] at hjl
    exact ⟨f i j,h.fr _ _ _ (hf i j hil hjl),.p (hc i j e a he ha)⟩) hi hd hr
   exact ⟨y,by simpa [Instr.loadAt,Instr.sureAddr] using g1,g2⟩
 | oa i g e off =>
  simp only [zr] at hr
  split at hr
  ·rename_i ob hl
   obtain ⟨ds,hds,hio,r',rfl⟩:=h.oa hx hl
   obtain ⟨y,g1,g2⟩:=rd_run (P:=P) (w:=w) (F:=F) (O:=O) r'.hn r'.h1 (fun i j e a he ha=>r'.cell (z7 hl) i j e a he ha) hi hd hr
   rw [Nat.zero_add] at g1
   exact ⟨y,by simpa [Instr.loadAt,Instr.sureAddr] using g1,g2⟩
  ·cases hr
 | _=>simp [zr] at hr
def Out (B:Bd) (w0:World) (F0 F:Fz) (O:Ow) (r:AV) (H':Hp) (x:Value) (w':World):Prop:=∃ F' O',VR F' O' x r/\Own B w0 F0 F' O' H' w'/\F.le F'/\O.le O'
theorem Out.same (h:Own B w0 F0 F O H w) {r:AV} {x:Value} (hx:VR F O x r):Out B w0 F0 F O r H x w:=⟨F,O,hx,h,Fz.le_refl F,Ow.le_refl O⟩
theorem wrA_cells {old : AV} {off n k : Nat} {vs : List AV} (hk : old.cells.length = k) (hn : vs.length = n) (h0 : 0 < n) (hle : off + n <= k) (hv : ∀ u ∈ vs, AV.one u = true) (ho : ∀ u ∈ old.cells, AV.one u = true) :
  (wrA old off vs).cells.length=k/\(∀ u ∈ (wrA old off vs).cells,AV.one u=true)/\∀ (j:Nat) (a:AV),(wrA old off vs).cells[j]? = some a->(off<=j/\j < off+n/\vs[j - off]? = some a)\/((j < off\/off+n<=j)/\old.cells[j]? = some a):=by
 have single:(∀ cs,old ≠ .agg cs)->wrA old off vs=vs.headD .unk/\k=1/\off=0/\n=1:=fun hne=>by
  have:old.cells=[old]:=by cases old<;>first|rfl|exact absurd rfl (hne _)
  rw [this] at hk
  refine ⟨?_,?_,?_,?_⟩
  ·cases old<;>first|rfl|exact absurd rfl (hne _)
  all_goals (simp at hk;omega)
 by_cases hag:∃ cs,old = .agg cs
 ·obtain ⟨cs, rfl⟩ := hag
  have hk':cs.length=k:=hk
  have ho':∀ u ∈ cs,AV.one u=true:=ho
  show (cs.take off++vs++cs.drop (off+vs.length)).length=k/\(∀ u ∈ cs.take off++vs++cs.drop (off+vs.length),AV.one u=true)/\∀ (j:Nat) (a:AV),(cs.take off++vs++cs.drop (off+vs.length))[j]? = some a->_
  refine ⟨by simp;omega,fun u hu=>?_,fun j a ha=>?_⟩
  ·rcases List.mem_append.1 hu with hu | hu
   ·rcases List.mem_append.1 hu with hu | hu
    ·exact ho' u (List.mem_of_mem_take hu)
    ·exact hv u hu
   ·exact ho' u (List.mem_of_mem_drop hu)
  ·have l1 : (cs.take off).length = off := by simp; omega
   by_cases hj:j < off
   ·rw [List.append_assoc, List.getElem?_append_left (by omega), List.getElem?_take, if_pos hj] at ha
    exact .inr ⟨.inl hj,ha⟩
   ·by_cases hj2 : j < off + n
    ·rw [List.getElem?_append_left (by simp; omega), List.getElem?_append_right (by omega), l1] at ha
     exact .inl ⟨by omega,hj2,ha⟩
    ·rw [List.getElem?_append_right (by simp; omega), List.getElem?_drop] at ha
     refine .inr ⟨.inr (by omega),?_⟩
     rw [<- ha]
     show cs[j]? = _
     congr 1
     simp
     omega
 ·obtain ⟨e1,e2,e3,e4⟩:=single fun cs e=>hag ⟨cs,e⟩
  obtain ⟨v,rfl⟩:∃ v,vs=[v]:=by
   match vs,(hn.trans e4) with
   | [v],_=>exact ⟨v,rfl⟩
  have hv1:v.one=true:=hv v (by simp)
  have hvc:v.cells=[v]:=by cases v<;>first|rfl|cases hv1
  rw [e1]
  show v.cells.length=k/\(∀ u ∈ v.cells,AV.one u=true)/\∀ (j:Nat) (a:AV),v.cells[j]? = some a->_
  rw [hvc]
  refine ⟨by simp;omega,by simpa using hv1,fun j a ha=>?_⟩
  cases j with
  | zero=>exact .inl ⟨by omega,by omega,by simpa [e3] using ha⟩
  | succ j=>simp at ha
theorem store_run (h : Own B w0 F0 F O H w) {p v : Value} {pa va : AV} (hp : VR F O p pa) (hv : VR F O v va) {t : TypeId} {inf : TypeInfo} (hi : P.info? t = some inf) {H' : Hp} (hr : zi H inf.size pa va = some H') :
  ∃ w' F' O',(Instr.storeAt t p v).run P w = .ok () w'/\Own B w0 F0 F' O' H' w'/\F.le F'/\O.le O':=by
 cases pa with
 | oa i g e off =>
  simp only [zi] at hr
  split at hr
  ·rename_i ob hl
   split at hr
   ·rename_i old hold
    split at hr
    ·rename_i hcond
     obtain ⟨hfz,hle,hlen,hfine,h0⟩:=hcond
     cases hr
     obtain ⟨d,hd,hio,r,rfl⟩:=h.oa hp hl
     obtain ⟨cur,hcur,hsz,hcell⟩:=r.curc (z7 hl)
     obtain ⟨vsz,v1,vc⟩:=hv.cells (yn hfine)
     have hel:=(List.getElem?_eq_some_iff.1 hold).1
     have hkold:=r.hn old (List.mem_of_getElem? hold)
     obtain ⟨wl,w1,wc⟩:=wrA_cells (off:=off) (vs:=va.cells) hkold hlen h0 hle v1 (r.h1 old (List.mem_of_getElem? hold))
     have hmul:(e+1) * ob.k<=d.C * ob.k:=Nat.mul_le_mul_right _ (Nat.le_trans hel (r.hl (z7 hl)))
     rw [Nat.add_mul,Nat.one_mul] at hmul
     have hvl:v.cells.toList.length=inf.size:=by simp;omega
     have hst:=run_storeCells_at P d.b (e * ob.k+off) ob.e v.cells.toList 0 cur w hcur (by rw [hvl,hsz];omega) (fun u hu=>by
      obtain ⟨j,hj,rfl⟩:=List.getElem_of_mem hu
      have hjl:j < va.cells.length:=by simp at hj;omega
      obtain ⟨c,g1,g2⟩:=vc j _ (List.getElem?_eq_getElem hjl)
      have:v.cells[j]? = some (v.cells.toList[j]):=by simp at hj ⊢
      rw [this] at g1
      cases g1
      exact g2.oneCell (v1 _ (List.getElem_mem hjl)))
     simp only [Nat.add_zero] at hst
     have hget:∀ j,(cur.toList.take (e * ob.k+off)++v.cells.toList++cur.toList.drop (e * ob.k+off+v.cells.toList.length)).toArray[j]? = if e * ob.k+off<=j/\j < e * ob.k+off+inf.size then v.cells[j - (e * ob.k+off)]? else cur[j]?:=fun j=>by
      have l1:(cur.toList.take (e * ob.k+off)).length=e * ob.k+off:=by simp;rw [hsz];omega
      rw [List.getElem?_toArray]
      by_cases hj:j < e * ob.k+off
      ·rw [if_neg (by omega), List.append_assoc, List.getElem?_append_left (by omega), List.getElem?_take, if_pos hj]
       simp
      ·by_cases hj2 : j < e * ob.k + off + inf.size
       ·rw [if_pos ⟨by omega, hj2⟩, List.getElem?_append_left (by simp only [List.length_append,l1,hvl]; omega), List.getElem?_append_right (by omega), l1]
        simp
       ·rw [if_neg (by omega), List.getElem?_append_right (by simp only [List.length_append,l1,hvl]; omega), List.getElem?_drop]
        simp only [List.length_append,l1,hvl]
        rw [show e * ob.k+off+inf.size+(j - (e * ob.k+off+inf.size))=j from by omega]
        simp
     obtain ⟨q1,q2⟩:=h.write (i:=i) (ob:=ob) (d:=d) hio (z7 hl) hd (new:=(cur.toList.take (e * ob.k+off)++v.cells.toList++cur.toList.drop (e * ob.k+off+v.cells.toList.length)).toArray) (g':=ob.g) (es':=ob.es.set e (wrA old off va.cells))
      (Nat.le_refl _) (by simpa using r.hl (z7 hl)) (by
       simp only [List.size_toArray,List.length_append,List.length_take,List.length_drop,Array.length_toList,hvl]
       simp at hvl
       omega) (fun x hx=>by
       rcases List.mem_or_eq_of_mem_set hx with hx|rfl
       ·exact r.hn x hx
       ·exact wl) (fun x hx a ha=>by
       rcases List.mem_or_eq_of_mem_set hx with hx|rfl
       ·exact r.h1 x hx a ha
       ·exact w1 a ha) (by simpa using r.hz) (fun n j x a hx ha=>by
       rw [hget]
       by_cases hne:e=n
       ·subst hne
        rw [List.getElem?_set_self hel] at hx
        cases hx
        rcases wc j a ha with ⟨c1,c2,c3⟩|⟨c1,c2⟩
        ·rw [if_pos (by omega)]
         obtain ⟨c,g1,g2⟩:=vc _ a c3
         exact ⟨c,by rw [<- g1];congr 1;omega,g2⟩
        ·rw [if_neg (by omega)]
         exact hcell e j old a hold c2
       ·rw [List.getElem?_set_ne hne] at hx
        have hjk:j < ob.k:=by rw [<- r.hn x (List.mem_of_getElem? hx)];exact (List.getElem?_eq_some_iff.1 ha).1
        rw [if_neg (by
         rintro ⟨z1,z2⟩
         rcases Nat.lt_or_gt_of_ne hne with hlt|hlt
         ·have := Nat.mul_le_mul_right ob.k (show e + 1 <= n from hlt)
          rw [Nat.add_mul,Nat.one_mul] at this
          omega
         ·have := Nat.mul_le_mul_right ob.k (show n + 1 <= e from hlt)
          rw [Nat.add_mul,Nat.one_mul] at this
          omega)]
        exact hcell n j x a hx ha) (fun o u hu=>by
       have ho:=r.hf o u hu
       have hfe:=Nat.mul_le_mul_right ob.k hfz
       rw [hget,if_neg (by omega)]
       have:=h.fr _ _ _ hu
       simpa [World.cell?,hcur] using this)
     have hobg:(⟨ob.e,ob.k,ob.es.set e (wrA old off va.cells),ob.g,ob.fz⟩:OB) = { ob with es:=ob.es.set e (wrA old off va.cells) }:=rfl
     rw [hobg] at q1
     refine ⟨_,F,_,?_,q1,Fz.le_refl F,q2⟩
     have hvne:¬ v.cells.size ≠ inf.size:=by simp at hvl;omega
     simp only [Instr.storeAt,Instr.sureAddr,storeVar,Sem.run_bind,Sem.run_pure,Result.andThen_ok,ZJ hi,hvne,if_false]
     exact hst
    ·cases hr
   ·cases hr
  ·cases hr
 | _=>simp [zi] at hr
end
section
variable {P:Program} {B:Bd} {w0 w:World} {F0 F:Fz} {O:Ow} {H:Hp}
theorem src_ok (h : Own B w0 F0 F O H w) {x : Value} {a : AV} (hx : VR F O x a) {k : Nat} {news : List AV} {H2 : Hp} (hs : Zm H k a = some (news, H2)) :
  ∃ A c,x = .slice A news.length c/\(∀ e ∈ news,e.cells.length=k)/\(∀ e ∈ news,∀ u ∈ e.cells,AV.one u=true) /\
   (news ≠ []->∃ b o,A=some ⟨b,o,none⟩/\∀ (i j:Nat) (e a:AV),news[i]? = some e->e.cells[j]? = some a->∃ c,w.cell? ⟨b,o+i * k+j,none⟩=some c/\VR F O c a):=by
 cases a with
 | nl k' =>
  cases hs
  cases hx with
  | p h=>cases h
  | nl=>exact ⟨none,0,rfl,fun e he=>(by cases he),fun e he=>(by cases he),fun hn=>absurd rfl hn⟩
 | em b k' =>
  cases hs
  cases hx with
  | p h=>cases h
  | em A c=>exact ⟨A,c,rfl,fun e he=>(by cases he),fun e he=>(by cases he),fun hn=>absurd rfl hn⟩
 | sl k' es =>
  simp only [Zm] at hs
  split at hs
  ·rename_i hk
   subst hk
   cases hs
   have hp:=hx.pvC rfl
   cases hp with
   | sl A n cap _ _ hn hc hm hk h1 b o hA f hf hr =>
    subst hn
    refine ⟨A,cap,rfl,hk,h1,fun hne=>⟨b,o,hA (List.length_pos_iff.2 hne),fun i j e a he ha=>?_⟩⟩
    have hil:=(List.getElem?_eq_some_iff.1 he).1
    have hjl:=(List.getElem?_eq_some_iff.1 ha).1
    rw [hk e (List.mem_of_getElem? he)] at hjl
    exact ⟨f i j,h.fr _ _ _ (hf i j hil hjl),.p (hr i j e a he ha)⟩
  ·cases hs
 | ol i g n =>
  simp only [Zm] at hs
  split at hs
  ·rename_i ob hl
   split at hs
   ·rename_i hc
    obtain ⟨rfl,hn⟩:=hc
    cases hs
    obtain ⟨d,hd,hio,r,hnC,rfl⟩:=h.ol hx hl
    refine ⟨_,d.C,?_,fun e he=>r.hn e (List.mem_of_mem_take he),fun e he=>r.h1 e (List.mem_of_mem_take he),fun _=>⟨d.b,0,rfl,fun i j e a he ha=>?_⟩⟩
    ·rw [List.length_take,Nat.min_eq_left hn]
    ·have he' : ob.es[i]? = some e := by
      rw [List.getElem?_take] at he
      split at he
      ·exact he
      ·cases he
     exact r.cell (z7 hl) i j e a he' ha
   ·cases hs
  ·cases hs
 | _=>cases hs
theorem Z7 {news : List AV} {k : Nat} (hk : ∀ e ∈ news, e.cells.length = k) (h1 : ∀ e ∈ news, ∀ u ∈ e.cells, AV.one u = true) {b o : Nat}
  (hc:∀ (i j:Nat) (e a:AV),news[i]? = some e->e.cells[j]? = some a->∃ c,w.cell? ⟨b,o+i * k+j,none⟩=some c/\VR F O c a) (h0:0 < k) :
  ∃ ns:List Value,ns.length=news.length * k/\(∀ (j:Nat) (u:Value),ns[j]? = some u->w.cell? ((⟨b,o,none⟩:Addr).add j)=some u)/\(∀ u ∈ ns,u.oneCell'=true) /\
   ∀ (i j:Nat) (e a:AV),news[i]? = some e->e.cells[j]? = some a->∃ c,ns[i * k+j]? = some c/\VR F O c a:=by
 have key:∀ j,j < news.length * k->∃ c a,w.cell? ⟨b,o+j,none⟩=some c/\VR F O c a/\a.one=true:=fun j hj=>by
  have hi:j / k < news.length:=(Nat.div_lt_iff_lt_mul h0).2 hj
  have hm:j % k < (news[j / k]).cells.length:=by rw [hk _ (List.getElem_mem hi)];exact Nat.mod_lt _ h0
  obtain ⟨c,g1,g2⟩:=hc (j / k) (j % k) _ _ (List.getElem?_eq_getElem hi) (List.getElem?_eq_getElem hm)
  refine ⟨c,_,?_,g2,h1 _ (List.getElem_mem hi) _ (List.getElem_mem hm)⟩
  rw [<- g1]
  congr 2
  have:=Nat.div_add_mod j k
  rw [Nat.mul_comm] at this
  omega
 refine ⟨(List.range (news.length * k)).map fun j=>(w.cell? ⟨b,o+j,none⟩).getD undef,by simp,fun j u hu=>?_,fun u hu=>?_,fun i j e a he ha=>?_⟩
 ·rw [List.getElem?_map] at hu
  obtain ⟨j',hj',rfl⟩:=Option.map_eq_some_iff.1 hu
  have hjl:=(List.getElem?_eq_some_iff.1 hj').1
  rw [List.getElem?_range (by simpa using hjl)] at hj'
  cases hj'
  obtain ⟨c,a,g1,_⟩:=key j (by simpa using hjl)
  rw [ZD,g1];rfl
 ·obtain ⟨j, hj, rfl⟩ := List.mem_map.1 hu
  obtain ⟨c,a,g1,g2,g3⟩:=key j (by simpa using hj)
  rw [g1]
  exact g2.oneCell g3
 ·obtain ⟨c, g1, g2⟩ := hc i j e a he ha
  have hil:=(List.getElem?_eq_some_iff.1 he).1
  have hjl:=(List.getElem?_eq_some_iff.1 ha).1
  rw [hk e (List.mem_of_getElem? he)] at hjl
  have hlt:i * k+j < news.length * k:=by
   have:=Nat.mul_le_mul_right k (show i+1<=news.length from hil)
   rw [Nat.add_mul,Nat.one_mul] at this
   omega
  refine ⟨c,?_,g2⟩
  rw [List.getElem?_map,List.getElem?_range hlt]
  simp only [Option.map_some]
  rw [<- Nat.add_assoc,g1]
  rfl
theorem Y3 {t ty e : TypeId} {i : TypeInfo} (ht : P.underlying t = some (.slice e)) (hi : P.info? e = some i) {b : Option Addr} {n c : Nat} (hn : n <= c) {A : Option Addr} {c' : Nat} :
  (Builtin.append_ #[t,t] ty #[.slice b n c,.slice A 0 c']).run P w = .ok (.slice b n c) w:=by
 cases A<;>cases b<;>simp [Builtin.append_,run_underlying ht,sizeOf,typeInfo,hi,Builtin.lenOf,Builtin.firstCells,hn,storeCells,loadCells,loadCellsFrom]
theorem app_run (h : Own B w0 F0 F O H w) {e : TypeId} (ne : e ≠ ZM) {s x : Value} {sa xa : AV} (hs : VR F O s sa) (hx : VR F O x xa) {t ty : TypeId} {i : TypeInfo} {z : Value} {k bytes : Nat} (ht : P.underlying t = some (.slice e)) (hi : P.info? e = some i)
  (hz:i.zero=some z) (hsz:i.size=k) (hby:i.bytes=bytes) (hzs:z.cells.size=k) (h0:0 < k) {r:AV} {H':Hp} (hr:z8 e k bytes H sa xa=some (r,H')) :
  ∃ y w',(Builtin.append_ #[t,t] ty #[s,x]).run P w = .ok y w'/\Out B w0 F0 F O r H' y w':=by
 unfold z8 at hr
 split at hr
 ·rename_i news H2 hsrc
  obtain ⟨A,c,rfl,hk,h1,hcell⟩:=src_ok h hx hsrc
  cases sa with
  | nl k' =>
   have hsv:s = .slice none 0 0:=by
    cases hs with
    | p h=>cases h
    | nl=>rfl
   subst hsv
   simp only at hr
   split at hr
   ·rename_i hnil
    subst hnil
    cases hr
    exact ⟨_,w,Y3 ht hi (Nat.le_refl _),Out.same h (.nl _)⟩
   ·rename_i hne
    split at hr
    ·rename_i hb
     cases hr
     obtain ⟨b,o,rfl,hcc⟩:=hcell hne
     obtain ⟨ns,n1,n2,n3,n4⟩:=Z7 (w:=w) hk h1 hcc h0
     have hpos:0 < news.length:=List.length_pos_iff.2 hne
     have hmax:=hb.2
     have hrun:=run_append_nil (P:=P) w t ty e i z ht hi hz ⟨b,o,none⟩ news.length c ns (by rw [n1,hsz]) n2 hpos (by have:=hmax;simp only [maxLen] at this;omega) (by rw [hby];have:=hb.1;omega)
     have hge:=grownCap_ge w news.length 0 e
     have hcm:=grownCap_le_maxLen w news.length 0 e hmax
     refine ⟨_,_,hrun,F,O++[⟨w.heap.size,grownCap w news.length 0 e,0,k⟩],?_,h.push (w1:=w.drew) (Below.refl _ w).drew rfl ne hcm hge ?_ hk h1 ?_,Fz.le_refl F,Ow.le_push O _⟩
     ·exact .ol _ H.length 0 news.length ⟨w.heap.size,grownCap w news.length 0 e,0,k⟩ (by rw [<- h.len];simp) (Nat.zero_le _) ⟨_,_,rfl⟩ fun _=>⟨hge,rfl⟩
     ·simp only [Array.size_append,List.size_toArray,size_zeroCells,hzs,n1]
      rw [<- Nat.add_mul]
      congr 1
      omega
     ·intro n j x a hx ha
      obtain ⟨c',g1,g2⟩:=n4 n j x a hx ha
      exact ⟨c',by rw [Array.getElem?_append_left (by have:=(List.getElem?_eq_some_iff.1 g1).1;simpa using this)];simpa using g1,g2⟩
    ·cases hr
  | oc i' g n cc =>
   simp only at hr
   split at hr
   ·rename_i ob hl
    split at hr
    ·rename_i hcnd
     obtain ⟨rfl,rfl,hfz,hnl,hbt,hml⟩:=hcnd
     obtain ⟨d,hd,hio,r,hnC,rfl,rfl⟩:=h.oc hs hl
     obtain ⟨cur,hcur,hcsz,hcc0⟩:=r.curc (z7 hl)
     have hg:ob.g=g:=(Zz hl).2
     have hle:n * ob.k<=cur.size:=by rw [hcsz];exact Nat.mul_le_mul_right _ hnC
     have tn:∀ x ∈ ob.es.take n++news,x.cells.length=ob.k:=fun x hx=>by
      rcases List.mem_append.1 hx with hx|hx
      ·exact r.hn x (List.mem_of_mem_take hx)
      ·exact hk x hx
     have t1:∀ x ∈ ob.es.take n++news,∀ a ∈ x.cells,AV.one a=true:=fun x hx=>by
      rcases List.mem_append.1 hx with hx|hx
      ·exact r.h1 x (List.mem_of_mem_take hx)
      ·exact h1 x hx
     have tl:(ob.es.take n++news).length=n+news.length:=by simp;omega
     have tfz:ob.fz<=(ob.es.take n++news).length:=by rw [tl];omega
     -- what a row of old and new cells says
     have says : ∀ (ns rest : List Value) (cells : Array Value), cells.toList = cur.toList.take (n * ob.k) ++ ns ++ rest -> ns.length = news.length * ob.k -> (∀ (i j : Nat) (e a : AV), news[i]? = some e -> e.cells[j]? = some a -> ∃ c, ns[i * ob.k + j]? = some c /\ VR F O c a) ->
       ∀ (m j:Nat) (x a:AV),(ob.es.take n++news)[m]? = some x->x.cells[j]? = some a->∃ c,cells[m * ob.k+j]? = some c/\VR F O c a:=fun ns rest cells hcells hnl' hns m j x a hx ha=>by
      have e0:cells[m * ob.k+j]? = (cur.toList.take (n * ob.k)++ns++rest)[m * ob.k+j]?:=by rw [<- hcells];simp
      have tkl:(ob.es.take n).length=n:=by simp;omega
      have hjk:j < ob.k:=by rw [<- tn x (List.mem_of_getElem? hx)];exact (List.getElem?_eq_some_iff.1 ha).1
      have tcl:(cur.toList.take (n * ob.k)).length=n * ob.k:=by simp;omega
      rw [e0,List.append_assoc]
      by_cases hm:m < n
      ·rw [List.getElem?_append_left (by omega)] at hx
       rw [List.getElem?_take,if_pos hm] at hx
       obtain ⟨c',g1,g2⟩:=hcc0 m j x a hx ha
       have hlt:m * ob.k+j < n * ob.k:=by
        have:=Nat.mul_le_mul_right ob.k (show m+1<=n from hm)
        rw [Nat.add_mul,Nat.one_mul] at this
        omega
       refine ⟨c',?_,g2⟩
       rw [List.getElem?_append_left (by omega),List.getElem?_take,if_pos hlt]
       simpa using g1
      ·rw [List.getElem?_append_right (by omega), tkl] at hx
       obtain ⟨c',g1,g2⟩:=hns (m - n) j x a hx ha
       refine ⟨c',?_,g2⟩
       have hmk:m * ob.k=n * ob.k+(m - n) * ob.k:=by rw [<- Nat.add_mul];congr 1;omega
       rw [List.getElem?_append_right (by omega),tcl,show m * ob.k+j - n * ob.k=(m - n) * ob.k+j from by omega]
       rw [List.getElem?_append_left (by have:=(List.getElem?_eq_some_iff.1 g1).1;exact this)]
       exact g1
     by_cases hroom:n+news.length<=d.C
     ·rw [if_pos hroom] at hr
      cases hr
      obtain ⟨cells, hcl, hrun, hsize, hq⟩ : ∃ cells : Array Value, (∃ ns rest, cells.toList = cur.toList.take (n * ob.k) ++ ns ++ rest /\ ns.length = news.length * ob.k /\ (∀ (i j : Nat) (e a : AV), news[i]? = some e -> e.cells[j]? = some a -> ∃ c, ns[i * ob.k + j]? = some c /\ VR F O c a)) /\
        (Builtin.append_ #[t,t] ty #[.slice (some ⟨d.b,0,none⟩) n d.C,.slice A news.length c]).run P w = .ok (.slice (some ⟨d.b,0,none⟩) (n+news.length) d.C) (w.setRow d.b cells)/\cells.size=d.C * ob.k/\True:=by
       by_cases hne:news=[]
       ·subst hne
        refine ⟨cur,⟨[],cur.toList.drop (n * ob.k),by simp,by simp,fun i j e a he=>by simp at he⟩,?_,hcsz,trivial⟩
        rw [setRow_self w d.b cur ob.e (0,0) hcur]
        exact Y3 ht hi hnC
       ·obtain ⟨b, o, rfl, hcc⟩ := hcell hne
        obtain ⟨ns,n1,n2,n3,n4⟩:=Z7 (w:=w) hk h1 hcc h0
        have hfit:n * i.size+ns.length<=cur.size:=by rw [n1,hsz,hcsz,<- Nat.add_mul];exact Nat.mul_le_mul_right _ hroom
        have hrun:=run_append_room (P:=P) w t ty ob.e i ht hi d.b n d.C cur hcur ⟨b,o,none⟩ news.length c ns (by rw [n1,hsz]) n2 n3 hroom hfit
        rw [hsz] at hrun hfit
        refine ⟨_,⟨ns,cur.toList.drop (n * ob.k+ns.length),rfl,n1,n4⟩,hrun,?_,trivial⟩
        simp only [List.size_toArray,List.length_append,List.length_take,List.length_drop,Array.length_toList]
        omega
      obtain ⟨ns,rest,hcl1,hcl2,hcl3⟩:=hcl
      obtain ⟨q1,q2⟩:=h.write (i:=i') (ob:=ob) (d:=d) hio (z7 hl) hd (new:=cells) (g':=g) (es':=ob.es.take n++news) (by omega) (by rw [tl];exact hroom) hsize tn t1 tfz (says ns rest cells hcl1 hcl2 hcl3) (fun o u hu=>by
       have ho:=r.hf o u hu
       have hfn:=Nat.mul_le_mul_right ob.k hfz
       have hw:=h.fr _ _ _ hu
       simp only [World.cell?,hcur] at hw
       have e0:cells[o]? = (cur.toList.take (n * ob.k)++ns++rest)[o]?:=by rw [<- hcl1];simp
       rw [e0,List.append_assoc,List.getElem?_append_left (by simp;omega),List.getElem?_take,if_pos (by omega)]
       simpa using hw)
      refine ⟨_,_,hrun,F,_,?_,q1,Fz.le_refl F,q2⟩
      exact .ol _ i' g (n+news.length) ⟨d.b,d.C,g,d.k⟩ (List.getElem?_set_self (List.getElem?_eq_some_iff.1 hd).1) (Nat.le_refl _) ⟨_,_,rfl⟩ fun _=>⟨hroom,rfl⟩
     ·rw [if_neg hroom] at hr
      cases hr
      have hne:news ≠ []:=fun e=>by subst e;simp at hroom;omega
      obtain ⟨b,o,rfl,hcc⟩:=hcell hne
      obtain ⟨ns,n1,n2,n3,n4⟩:=Z7 (w:=w) hk h1 hcc h0
      have hrun := run_append_grow (P := P) w t ty ob.e i z ht hi hz ⟨d.b, 0, none⟩ n d.C (cur.toList.take (n * ob.k)) (by rw [hsz]; simp; omega) (fun j v hv => by
        rw [List.getElem?_take] at hv
        split at hv
        ·rw [ZD]
         simp only [World.cell?,hcur]
         simpa using hv
        ·cases hv) ⟨b,o,none⟩ news.length c ns (by rw [n1,hsz]) n2 (by omega) (by have:=hml;simp only [maxLen] at this;omega) (by rw [hby];exact growslice_fits (by omega) hbt)
      have hge:=grownCap_ge w (n+news.length) d.C ob.e
      have hcm:=grownCap_le_maxLen w (n+news.length) d.C ob.e hml
      refine ⟨_,_,hrun,F,O++[⟨w.heap.size,grownCap w (n+news.length) d.C ob.e,0,ob.k⟩],?_,h.push (w1:=w.drew) (Below.refl _ w).drew rfl ne (C:=grownCap w (n+news.length) d.C ob.e) (es:=ob.es.take n++news) (cs:=(cur.toList.take (n * ob.k)).toArray++ns.toArray++Builtin.zeroCells z.cells (grownCap w (n+news.length) d.C ob.e - (n+news.length)))
       hcm (by rw [tl];exact hge) (by
        simp only [Array.size_append,List.size_toArray,size_zeroCells,hzs,n1,List.length_take,Array.length_toList]
        rw [Nat.min_eq_left hle,<- Nat.add_mul,<- Nat.add_mul]
        congr 1
        omega) tn t1 (says ns (Builtin.zeroCells z.cells (grownCap w (n+news.length) d.C ob.e - (n+news.length))).toList _ (by simp) n1 n4),Fz.le_refl F,Ow.le_push O _⟩
      exact .ol _ H.length 0 (n+news.length) ⟨w.heap.size,grownCap w (n+news.length) d.C ob.e,0,ob.k⟩ (by rw [<- h.len];simp) (Nat.le_refl _) ⟨_,_,rfl⟩ fun _=>⟨hge,rfl⟩
    ·cases hr
   ·cases hr
  | ol i' g n =>
   simp only at hr
   split at hr
   ·rename_i ob hl
    split at hr
    ·rename_i hcnd
     obtain ⟨rfl,rfl,hfz,hnl,hbt,hml⟩:=hcnd
     cases hr
     obtain ⟨d,hd,hio,r,hnC,rfl⟩:=h.ol hs hl
     obtain ⟨cur,hcur,hcsz,hcc0⟩:=r.curc (z7 hl)
     have hg:ob.g=g:=(Zz hl).2
     have hle:n * ob.k<=cur.size:=by rw [hcsz];exact Nat.mul_le_mul_right _ hnC
     have tn:∀ x ∈ ob.es.take n++news,x.cells.length=ob.k:=fun x hx=>by
      rcases List.mem_append.1 hx with hx|hx
      ·exact r.hn x (List.mem_of_mem_take hx)
      ·exact hk x hx
     have t1:∀ x ∈ ob.es.take n++news,∀ a ∈ x.cells,AV.one a=true:=fun x hx=>by
      rcases List.mem_append.1 hx with hx|hx
      ·exact r.h1 x (List.mem_of_mem_take hx)
      ·exact h1 x hx
     have tl:(ob.es.take n++news).length=n+news.length:=by simp;omega
     have tfz:ob.fz<=(ob.es.take n++news).length:=by rw [tl];omega
     -- what a row of old and new cells says
     have says : ∀ (ns rest : List Value) (cells : Array Value), cells.toList = cur.toList.take (n * ob.k) ++ ns ++ rest -> ns.length = news.length * ob.k -> (∀ (i j : Nat) (e a : AV), news[i]? = some e -> e.cells[j]? = some a -> ∃ c, ns[i * ob.k + j]? = some c /\ VR F O c a) ->
       ∀ (m j:Nat) (x a:AV),(ob.es.take n++news)[m]? = some x->x.cells[j]? = some a->∃ c,cells[m * ob.k+j]? = some c/\VR F O c a:=fun ns rest cells hcells hnl' hns m j x a hx ha=>by
      have e0:cells[m * ob.k+j]? = (cur.toList.take (n * ob.k)++ns++rest)[m * ob.k+j]?:=by rw [<- hcells];simp
      have tkl:(ob.es.take n).length=n:=by simp;omega
      have hjk:j < ob.k:=by rw [<- tn x (List.mem_of_getElem? hx)];exact (List.getElem?_eq_some_iff.1 ha).1
      have tcl:(cur.toList.take (n * ob.k)).length=n * ob.k:=by simp;omega
      rw [e0,List.append_assoc]
      by_cases hm:m < n
      ·rw [List.getElem?_append_left (by omega)] at hx
       rw [List.getElem?_take,if_pos hm] at hx
       obtain ⟨c',g1,g2⟩:=hcc0 m j x a hx ha
       have hlt:m * ob.k+j < n * ob.k:=by
        have:=Nat.mul_le_mul_right ob.k (show m+1<=n from hm)
        rw [Nat.add_mul,Nat.one_mul] at this
        omega
       refine ⟨c',?_,g2⟩
       rw [List.getElem?_append_left (by omega),List.getElem?_take,if_pos hlt]
       simpa using g1
      ·rw [List.getElem?_append_right (by omega), tkl] at hx
       obtain ⟨c',g1,g2⟩:=hns (m - n) j x a hx ha
       refine ⟨c',?_,g2⟩
       have hmk:m * ob.k=n * ob.k+(m - n) * ob.k:=by rw [<- Nat.add_mul];congr 1;omega
       rw [List.getElem?_append_right (by omega),tcl,show m * ob.k+j - n * ob.k=(m - n) * ob.k+j from by omega]
       rw [List.getElem?_append_left (by have:=(List.getElem?_eq_some_iff.1 g1).1;exact this)]
       exact g1
     by_cases hroom:n+news.length<=d.C
     ·obtain ⟨cells, hcl, hrun, hsize, hq⟩ : ∃ cells : Array Value, (∃ ns rest, cells.toList = cur.toList.take (n * ob.k) ++ ns ++ rest /\ ns.length = news.length * ob.k /\ (∀ (i j : Nat) (e a : AV), news[i]? = some e -> e.cells[j]? = some a -> ∃ c, ns[i * ob.k + j]? = some c /\ VR F O c a)) /\
        (Builtin.append_ #[t,t] ty #[.slice (some ⟨d.b,0,none⟩) n d.C,.slice A news.length c]).run P w = .ok (.slice (some ⟨d.b,0,none⟩) (n+news.length) d.C) (w.setRow d.b cells)/\cells.size=d.C * ob.k/\True:=by
       by_cases hne:news=[]
       ·subst hne
        refine ⟨cur,⟨[],cur.toList.drop (n * ob.k),by simp,by simp,fun i j e a he=>by simp at he⟩,?_,hcsz,trivial⟩
        rw [setRow_self w d.b cur ob.e (0,0) hcur]
        exact Y3 ht hi hnC
       ·obtain ⟨b, o, rfl, hcc⟩ := hcell hne
        obtain ⟨ns,n1,n2,n3,n4⟩:=Z7 (w:=w) hk h1 hcc h0
        have hfit:n * i.size+ns.length<=cur.size:=by rw [n1,hsz,hcsz,<- Nat.add_mul];exact Nat.mul_le_mul_right _ hroom
        have hrun:=run_append_room (P:=P) w t ty ob.e i ht hi d.b n d.C cur hcur ⟨b,o,none⟩ news.length c ns (by rw [n1,hsz]) n2 n3 hroom hfit
        rw [hsz] at hrun hfit
        refine ⟨_,⟨ns,cur.toList.drop (n * ob.k+ns.length),rfl,n1,n4⟩,hrun,?_,trivial⟩
        simp only [List.size_toArray,List.length_append,List.length_take,List.length_drop,Array.length_toList]
        omega
      obtain ⟨ns,rest,hcl1,hcl2,hcl3⟩:=hcl
      obtain ⟨q1,q2⟩:=h.write (i:=i') (ob:=ob) (d:=d) hio (z7 hl) hd (new:=cells) (g':=g+1) (es':=ob.es.take n++news) (by omega) (by rw [tl];exact hroom) hsize tn t1 tfz (says ns rest cells hcl1 hcl2 hcl3) (fun o u hu=>by
       have ho:=r.hf o u hu
       have hfn:=Nat.mul_le_mul_right ob.k hfz
       have hw:=h.fr _ _ _ hu
       simp only [World.cell?,hcur] at hw
       have e0:cells[o]? = (cur.toList.take (n * ob.k)++ns++rest)[o]?:=by rw [<- hcl1];simp
       rw [e0,List.append_assoc,List.getElem?_append_left (by simp;omega),List.getElem?_take,if_pos (by omega)]
       simpa using hw)
      refine ⟨_,_,hrun,F,_,?_,q1,Fz.le_refl F,q2⟩
      exact .ol _ i' (g+1) (n+news.length) ⟨d.b,d.C,g+1,d.k⟩ (List.getElem?_set_self (List.getElem?_eq_some_iff.1 hd).1) (Nat.le_refl _) ⟨_,_,rfl⟩ fun _=>⟨hroom,rfl⟩
     ·have hne:news ≠ []:=fun e=>by subst e;simp at hroom;omega
      obtain ⟨b,o,rfl,hcc⟩:=hcell hne
      obtain ⟨ns,n1,n2,n3,n4⟩:=Z7 (w:=w) hk h1 hcc h0
      have hrun := run_append_grow (P := P) w t ty ob.e i z ht hi hz ⟨d.b, 0, none⟩ n d.C (cur.toList.take (n * ob.k)) (by rw [hsz]; simp; omega) (fun j v hv => by
        rw [List.getElem?_take] at hv
        split at hv
        ·rw [ZD]
         simp only [World.cell?,hcur]
         simpa using hv
        ·cases hv) ⟨b,o,none⟩ news.length c ns (by rw [n1,hsz]) n2 (by omega) (by have:=hml;simp only [maxLen] at this;omega) (by rw [hby];exact growslice_fits (by omega) hbt)
      have hge:=grownCap_ge w (n+news.length) d.C ob.e
      have hcm:=grownCap_le_maxLen w (n+news.length) d.C ob.e hml
      obtain ⟨q1,q2⟩:=h.move (w1:=w.drew) (Below.refl _ w).drew rfl (i:=i') (ob:=ob) (d:=d) hio (z7 hl) hd (new:=(cur.toList.take (n * ob.k)).toArray++ns.toArray++Builtin.zeroCells z.cells (grownCap w (n+news.length) d.C ob.e - (n+news.length))) (C:=grownCap w (n+news.length) d.C ob.e) (es':=ob.es.take n++news)
       hcm (by rw [tl];exact hge) (by
        simp only [Array.size_append,List.size_toArray,size_zeroCells,hzs,n1,List.length_take,Array.length_toList]
        rw [Nat.min_eq_left hle,<- Nat.add_mul,<- Nat.add_mul]
        congr 1
        omega) tn t1 tfz (says ns (Builtin.zeroCells z.cells (grownCap w (n+news.length) d.C ob.e - (n+news.length))).toList _ (by simp) n1 n4)
      rw [hg] at q1 q2
      refine ⟨_,_,hrun,F,_,?_,q1,Fz.le_refl F,q2⟩
      exact .ol _ i' (g+1) (n+news.length) ⟨w.heap.size,_,g+1,ob.k⟩ (List.getElem?_set_self (List.getElem?_eq_some_iff.1 hd).1) (Nat.le_refl _) ⟨_,_,rfl⟩ fun _=>⟨hge,rfl⟩
    ·cases hr
   ·cases hr
  | _=>cases hr
 ·cases hr
theorem run_copy_o (w : World) (dT ty elem : TypeId) (inf : TypeInfo) (g off dLen dCap : Nat) (a : Addr) (sLen sCap : Nat) (cur : Array Value) (t : TypeId) (cs : List Value)
  (hu:P.underlying dT=some (.slice elem)) (hi:P.info? elem=some inf)
  (hg:w.heap[g]? = some (.cells cur t (0,0))) (hn:cs.length=Nat.min sLen dLen * inf.size)
  (hsrc:∀ j v,cs[j]? = some v->w.cell? (a.add j)=some v) (hfit:off+cs.length<=cur.size) (h1:∀ v ∈ cs,v.oneCell'=true) :
  (Builtin.copy_ #[dT,dT] ty #[.slice (some ⟨g,off,none⟩) dLen dCap,.slice (some a) sLen sCap]).run P w =
   .ok (goInt (Nat.min sLen dLen)) (w.setRow g (cur.toList.take off++cs++cur.toList.drop (off+cs.length)).toArray):=by
 have hl:=run_loadCells_list (P:=P) w a cs hsrc
 have hst:=run_storeCells_at P g off t cs 0 cur w hg (by simpa using hfit) h1
 simp [Builtin.copy_,run_underlying hu,Builtin.lenOf,Builtin.firstCells,sizeOf,typeInfo,hi,<- hn,hl,hst]
theorem run_copy_k (w : World) (dT ty elem : TypeId) (inf : TypeInfo) (g dLen dCap : Nat) (a : Addr) (sLen sCap : Nat) (cur : Array Value) (t : TypeId) (cs : List Value)
  (hu:P.underlying dT=some (.slice elem)) (hi:P.info? elem=some inf)
  (hg:w.heap[g]? = some (.cells cur t (0,0))) (hn:cs.length=Nat.min sLen dLen * inf.size)
  (hsrc:∀ j v,cs[j]? = some v->w.cell? (a.add j)=some v) (hfit:0+cs.length<=cur.size) (h1:∀ v ∈ cs,v.oneCell'=true) :
  (Builtin.copy_ #[dT,dT] ty #[.slice (some ⟨g,0,none⟩) dLen dCap,.slice (some a) sLen sCap]).run P w =
   .ok (goInt (Nat.min sLen dLen)) (w.setRow g (cur.toList.take 0++cs++cur.toList.drop (0+cs.length)).toArray):=by
 have hl:=run_loadCells_list (P:=P) w a cs hsrc
 have hst:=run_storeCells_at P g 0 t cs 0 cur w hg (by simpa using hfit) h1
 simp [Builtin.copy_,run_underlying hu,Builtin.lenOf,Builtin.firstCells,sizeOf,typeInfo,hi,<- hn,hl,hst]
theorem cpy_run (h : Own B w0 F0 F O H w) {d x : Value} {da xa : AV} (hd : VR F O d da) (hx : VR F O x xa) {t ty e : TypeId} {i : TypeInfo} {k : Nat} (ht : P.underlying t = some (.slice e)) (hi : P.info? e = some i)
  (hsz:i.size=k) (h0:0 < k) {r:AV} {H':Hp} (hr:cpyA k H da xa=some (r,H')) :
  ∃ y w',(Builtin.copy_ #[t,t] ty #[d,x]).run P w = .ok y w'/\Out B w0 F0 F O r H' y w':=by
 unfold cpyA at hr
 split at hr
 ·rename_i news H2 hsrc
  obtain ⟨A,c,rfl,hk,h1,hcell⟩:=src_ok h hx hsrc
  cases da with
  | ol i' g n =>
   simp only at hr
   split at hr
   ·rename_i ob hl
    split at hr
    ·rename_i hcnd
     obtain ⟨rfl,hfz,hnl⟩:=hcnd
     cases hr
     obtain ⟨dd,hdd,hio,r,hnC,rfl⟩:=h.ol hd hl
     obtain ⟨cur,hcur,hcsz,hcc0⟩:=r.curc (z7 hl)
     have hg:ob.g=g:=(Zz hl).2
     obtain ⟨m,hm⟩:∃ m,m=min news.length n:=⟨_,rfl⟩
     rw [<- hm]
     have hmn:Nat.min news.length n=m:=hm.symm
     have tn:∀ x ∈ news.take m++ob.es.drop m,x.cells.length=ob.k:=fun x hx=>by
      rcases List.mem_append.1 hx with hx|hx
      ·exact hk x (List.mem_of_mem_take hx)
      ·exact r.hn x (List.mem_of_mem_drop hx)
     have t1:∀ x ∈ news.take m++ob.es.drop m,∀ a ∈ x.cells,AV.one a=true:=fun x hx=>by
      rcases List.mem_append.1 hx with hx|hx
      ·exact h1 x (List.mem_of_mem_take hx)
      ·exact r.h1 x (List.mem_of_mem_drop hx)
     have tkl:(news.take m).length=m:=by simp;omega
     have tl:(news.take m++ob.es.drop m).length=ob.es.length:=by simp;omega
     have hmC:m * ob.k<=cur.size:=by rw [hcsz];exact Nat.mul_le_mul_right _ (by omega)
     obtain ⟨new, hnew1, hnew2, hrun⟩ : ∃ new : Array Value, new.size = cur.size /\ (∀ (p j : Nat) (x a : AV), (news.take m ++ ob.es.drop m)[p]? = some x -> x.cells[j]? = some a -> ∃ c, new[p * ob.k + j]? = some c /\ VR F O c a) /\
       (Builtin.copy_ #[t,t] ty #[.slice (some ⟨dd.b,0,none⟩) n dd.C,.slice A news.length c]).run P w = .ok (goInt m) (w.setRow dd.b new):=by
      by_cases hne:news=[]
      ·subst hne
       have hm0:m=0:=by simp at hm;exact hm
       subst hm0
       refine ⟨cur,rfl,fun p j x a hx ha=>by simp at hx;exact hcc0 p j x a hx ha,?_⟩
       rw [setRow_self w dd.b cur ob.e (0,0) hcur]
       cases A with
       | none=>simp [Builtin.copy_,run_underlying ht,Builtin.lenOf,Builtin.firstCells,sizeOf,typeInfo,hi,storeCells]
       | some a =>
        have hl:=run_loadCells_list (P:=P) w a [] (by simp)
        simp at hl
        simp [Builtin.copy_,run_underlying ht,Builtin.lenOf,Builtin.firstCells,sizeOf,typeInfo,hi,storeCells,hl]
      ·obtain ⟨b, o, rfl, hcc⟩ := hcell hne
       obtain ⟨ns,n1,n2,n3,n4⟩:=Z7 (w:=w) (news:=news.take m) (k:=ob.k) (fun e he=>hk e (List.mem_of_mem_take he)) (fun e he=>h1 e (List.mem_of_mem_take he)) (b:=b) (o:=o) (fun i j e a he ha=>by
        rw [List.getElem?_take] at he
        split at he
        ·exact hcc i j e a he ha
        ·cases he) h0
       rw [tkl] at n1
       have hrun:=run_copy_k (P:=P) w t ty e i dd.b n dd.C ⟨b,o,none⟩ news.length c cur ob.e ns ht hi hcur (by rw [hmn,hsz];exact n1) n2 (by omega) n3
       rw [hmn] at hrun
       refine ⟨_,?_,?_,hrun⟩
       ·simp only [List.size_toArray,List.length_append,List.length_take,List.length_drop,Array.length_toList];omega
       ·intro p j x a hx ha
        have hjk:j < ob.k:=by rw [<- tn x (List.mem_of_getElem? hx)];exact (List.getElem?_eq_some_iff.1 ha).1
        simp only [List.take_zero,List.nil_append,Nat.zero_add,List.getElem?_toArray]
        by_cases hp:p < m
        ·rw [List.getElem?_append_left (by omega)] at hx
         obtain ⟨c',g1,g2⟩:=n4 p j x a hx ha
         exact ⟨c',by rw [List.getElem?_append_left (List.getElem?_eq_some_iff.1 g1).1];exact g1,g2⟩
        ·rw [List.getElem?_append_right (by omega), tkl, List.getElem?_drop] at hx
         obtain ⟨c',g1,g2⟩:=hcc0 p j x a (by rw [<- hx];congr 1;omega) ha
         have hle:m * ob.k<=p * ob.k:=Nat.mul_le_mul_right _ (by omega)
         refine ⟨c',?_,g2⟩
         rw [List.getElem?_append_right (by omega),n1,List.getElem?_drop]
         rw [<- Array.getElem?_toList] at g1
         rw [<- g1];congr 1;omega
     obtain ⟨q1,q2⟩:=h.write (i:=i') (ob:=ob) (d:=dd) hio (z7 hl) hdd (new:=new) (g':=ob.g) (es':=news.take m++ob.es.drop m) (Nat.le_refl _) (by rw [tl];exact r.hl (z7 hl)) (by rw [hnew1,hcsz]) tn t1 (by omega) hnew2 (fun o u hu=>by
      have ho:=r.hf o u hu
      rw [hfz] at ho
      omega)
     exact ⟨_,_,hrun,F,_,.p (.v _ rfl),q1,Fz.le_refl F,q2⟩
    ·cases hr
   ·cases hr
  | os i' g lo n =>
   simp only at hr
   split at hr
   ·rename_i ob hl
    split at hr
    ·rename_i hcnd
     obtain ⟨rfl,hfz,hln,hnl⟩:=hcnd
     cases hr
     obtain ⟨dd,hdd,hio,r,_,hnC,Ad,rfl,hAd⟩:=h.os hd hl
     obtain ⟨cur,hcur,hcsz,hcc0⟩:=r.curc (z7 hl)
     have hg:ob.g=g:=(Zz hl).2
     obtain ⟨m,hm⟩:∃ m,m=min news.length (n - lo):=⟨_,rfl⟩
     rw [<- hm]
     have hmn:Nat.min news.length (n - lo)=m:=hm.symm
     have tn:∀ x ∈ ob.es.take lo++(news.take m++ob.es.drop (lo+m)),x.cells.length=ob.k:=fun x hx=>by
      rcases List.mem_append.1 hx with hx|hx
      ·exact r.hn x (List.mem_of_mem_take hx)
      rcases List.mem_append.1 hx with hx|hx
      ·exact hk x (List.mem_of_mem_take hx)
      ·exact r.hn x (List.mem_of_mem_drop hx)
     have t1:∀ x ∈ ob.es.take lo++(news.take m++ob.es.drop (lo+m)),∀ a ∈ x.cells,AV.one a=true:=fun x hx=>by
      rcases List.mem_append.1 hx with hx|hx
      ·exact r.h1 x (List.mem_of_mem_take hx)
      rcases List.mem_append.1 hx with hx|hx
      ·exact h1 x (List.mem_of_mem_take hx)
      ·exact r.h1 x (List.mem_of_mem_drop hx)
     have tkl:(news.take m).length=m:=by simp;omega
     have tll:(ob.es.take lo).length=lo:=by simp;omega
     have tl:(ob.es.take lo++(news.take m++ob.es.drop (lo+m))).length=ob.es.length:=by simp;omega
     have hmC:(lo+m) * ob.k<=cur.size:=by rw [hcsz];exact Nat.mul_le_mul_right _ (by omega)
     have hmC':lo * ob.k+m * ob.k<=cur.size:=by rw [<- Nat.add_mul];exact hmC
     obtain ⟨new, hnew1, hnew2, hrun⟩ : ∃ new : Array Value, new.size = cur.size /\ (∀ (p j : Nat) (x a : AV), (ob.es.take lo ++ (news.take m ++ ob.es.drop (lo + m)))[p]? = some x -> x.cells[j]? = some a -> ∃ c, new[p * ob.k + j]? = some c /\ VR F O c a) /\
       (Builtin.copy_ #[t,t] ty #[.slice Ad (n - lo) (dd.C - lo),.slice A news.length c]).run P w = .ok (goInt m) (w.setRow dd.b new):=by
      by_cases hm0:m=0
      ·refine ⟨cur,rfl,fun p j x a hx ha=>?_,?_⟩
       ·subst hm0
        simp only [List.take_zero,List.nil_append,Nat.add_zero,List.take_append_drop] at hx
        exact hcc0 p j x a hx ha
       rw [setRow_self w dd.b cur ob.e (0,0) hcur]
       have hm2:Nat.min news.length (n - lo)=0:=by rw [hmn,hm0]
       cases A with
       | none=>cases Ad<;>simp [Builtin.copy_,run_underlying ht,Builtin.lenOf,Builtin.firstCells,sizeOf,typeInfo,hi,storeCells,hm2,hm0]
       | some a =>
        have hl:=run_loadCells_list (P:=P) w a [] (by simp)
        simp at hl
        cases Ad<;>simp [Builtin.copy_,run_underlying ht,Builtin.lenOf,Builtin.firstCells,sizeOf,typeInfo,hi,storeCells,hl,hm2,hm0]
      ·have hne:news ≠ []:=fun e=>by subst e;simp at hm;omega
       obtain rfl:=hAd (by omega)
       obtain ⟨b,o,rfl,hcc⟩:=hcell hne
       obtain ⟨ns,n1,n2,n3,n4⟩:=Z7 (w:=w) (news:=news.take m) (k:=ob.k) (fun e he=>hk e (List.mem_of_mem_take he)) (fun e he=>h1 e (List.mem_of_mem_take he)) (b:=b) (o:=o) (fun i j e a he ha=>by
        rw [List.getElem?_take] at he
        split at he
        ·exact hcc i j e a he ha
        ·cases he) h0
       rw [tkl] at n1
       have hdk:dd.k=ob.k:=r.hk
       have hrun:=run_copy_o (P:=P) w t ty e i dd.b (lo * dd.k) (n - lo) (dd.C - lo) ⟨b,o,none⟩ news.length c cur ob.e ns ht hi hcur (by rw [hmn,hsz];exact n1) n2 (by rw [n1,hdk];exact hmC') n3
       rw [hmn] at hrun
       refine ⟨_,?_,?_,hrun⟩
       ·simp only [List.size_toArray,List.length_append,List.length_take,List.length_drop,Array.length_toList,hdk];omega
       ·intro p j x a hx ha
        have hjk:j < ob.k:=by rw [<- tn x (List.mem_of_getElem? hx)];exact (List.getElem?_eq_some_iff.1 ha).1
        simp only [hdk,List.getElem?_toArray]
        have hLl:(cur.toList.take (lo * ob.k)).length=lo * ob.k:=by simp only [List.length_take,Array.length_toList];omega
        rw [List.append_assoc]
        by_cases hp:p < lo
        ·rw [List.getElem?_append_left (by omega), List.getElem?_take, if_pos hp] at hx
         obtain ⟨c',g1,g2⟩:=hcc0 p j x a hx ha
         have hlt:p * ob.k+j < lo * ob.k:=by
          have:=Nat.mul_le_mul_right ob.k (show p+1<=lo by omega)
          rw [Nat.add_mul] at this;omega
         refine ⟨c',?_,g2⟩
         rw [List.getElem?_append_left (by omega),List.getElem?_take,if_pos hlt,Array.getElem?_toList]
         exact g1
        ·rw [List.getElem?_append_right (by omega), tll] at hx
         have hle:lo * ob.k<=p * ob.k:=Nat.mul_le_mul_right _ (by omega)
         have hsub:p * ob.k+j - lo * ob.k=(p - lo) * ob.k+j:=by rw [Nat.sub_mul];omega
         by_cases hp2:p - lo < m
         ·rw [List.getElem?_append_left (by omega)] at hx
          obtain ⟨c',g1,g2⟩:=n4 (p - lo) j x a hx ha
          refine ⟨c',?_,g2⟩
          rw [List.getElem?_append_right (by omega),hLl,hsub,List.getElem?_append_left (List.getElem?_eq_some_iff.1 g1).1]
          exact g1
         ·rw [List.getElem?_append_right (by omega), tkl, List.getElem?_drop] at hx
          obtain ⟨c',g1,g2⟩:=hcc0 p j x a (by rw [<- hx];congr 1;omega) ha
          have hle2:m * ob.k<=(p - lo) * ob.k:=Nat.mul_le_mul_right _ (by omega)
          refine ⟨c',?_,g2⟩
          rw [List.getElem?_append_right (by omega),hLl,hsub,List.getElem?_append_right (by omega),n1,List.getElem?_drop]
          rw [<- Array.getElem?_toList] at g1
          rw [<- g1];congr 1
          rw [Nat.sub_mul] at hle2 ⊢
          omega
     obtain ⟨q1,q2⟩:=h.write (i:=i') (ob:=ob) (d:=dd) hio (z7 hl) hdd (new:=new) (g':=ob.g) (es':=ob.es.take lo++(news.take m++ob.es.drop (lo+m))) (Nat.le_refl _) (by rw [tl];exact r.hl (z7 hl)) (by rw [hnew1,hcsz]) tn t1 (by omega) hnew2 (fun o u hu=>by
      have ho:=r.hf o u hu
      rw [hfz] at ho
      omega)
     exact ⟨_,_,hrun,F,_,.p (.v _ rfl),q1,Fz.le_refl F,q2⟩
    ·cases hr
   ·cases hr
  | sl k' es =>
   cases es with
   | cons=>cases hr
   | nil =>
    cases hr
    have hp:=hd.pvC rfl
    cases hp with
    | sl A' n cap _ _ hn =>
     simp only [List.length_nil] at hn
     subst hn
     refine ⟨goInt 0,w,?_,F,O,.p (.v _ rfl),h,Fz.le_refl F,Ow.le_refl O⟩
     have hm:Nat.min news.length 0=0:=Nat.min_zero _
     cases A with
     | none=>cases A'<;>simp [Builtin.copy_,run_underlying ht,Builtin.lenOf,Builtin.firstCells,sizeOf,typeInfo,hi,storeCells,hm]
     | some a =>
      have hl:=run_loadCells_list (P:=P) w a [] (by simp)
      simp at hl
      cases A'<;>simp [Builtin.copy_,run_underlying ht,Builtin.lenOf,Builtin.firstCells,sizeOf,typeInfo,hi,storeCells,hl,hm]
  | _=>cases hr
 ·cases hr
theorem new_run (h : Own B w0 F0 F O H w) {e : TypeId} (ne : e ≠ ZM) {x : Value} {a : AV} (hx : VR F O x a) {k : Nat} (hk : a.cells.length = k) (hf : a.fine = true) :
  Out B w0 F0 F O (.oa H.length 0 0 0) (H++[⟨e,k,[a],0,0⟩]) (.pointer (some ⟨w.heap.size,0,none⟩)) (w.alloc (.cells x.cells e)):=by
 obtain ⟨c1,c2,c3⟩:=hx.cells (yn hf)
 refine ⟨F,O++[⟨w.heap.size,1,0,k⟩],?_,h.push (w1:=w) (C:=1) (es:=[a]) (Below.refl _ w) rfl ne (by simp [maxLen]) (Nat.le_refl _) (by rw [c1,hk,Nat.one_mul]) (fun y hy=>?_) (fun y hy=>?_) ?_,Fz.le_refl F,Ow.le_push O _⟩
 ·exact .oa _ H.length 0 0 0 ⟨w.heap.size,1,0,k⟩ (by rw [<- h.len];simp) (Nat.le_refl _) rfl fun _=>by simp
 ·simp at hy;subst hy;exact hk
 ·simp at hy;subst hy;exact c2
 ·intro n j y u hy hu
  cases n with
  | zero=>simp at hy;subst hy;simpa using c3 j u hu
  | succ n=>simp at hy
theorem mks_run (h : Own B w0 F0 F O H w) {e : TypeId} (ne : e ≠ ZM) {z : Value} {za : AV} (hz : VR F O z za) {k l c : Nat} (hk : za.cells.length = k) (hf : za.fine = true) (hlc : l <= c) (hcm : c <= maxLen) {cs : Array Value} (hs : cs.size = c * k) (hcs : ∀ x, x < c * k -> cs[x]? = z.cells[x % k]?) :
  Out B w0 F0 F O (.ol H.length 0 l) (H++[⟨e,k,List.replicate l za,0,0⟩]) (.slice (some ⟨w.heap.size,0,none⟩) l c) (w.alloc (.cells cs e)):=by
 obtain ⟨c1,c2,c3⟩:=hz.cells (yn hf)
 refine ⟨F,O++[⟨w.heap.size,c,0,k⟩],?_,h.push (w1:=w) (Below.refl _ w) rfl ne hcm (by simpa using hlc) hs (fun y hy=>?_) (fun y hy=>?_) ?_,Fz.le_refl F,Ow.le_push O _⟩
 ·exact .ol _ H.length 0 l ⟨w.heap.size,c,0,k⟩ (by rw [<- h.len];simp) (Nat.le_refl _) ⟨_,_,rfl⟩ fun _=>⟨hlc,rfl⟩
 ·rw [List.eq_of_mem_replicate hy];exact hk
 ·rw [List.eq_of_mem_replicate hy];exact c2
 ·intro n j y u hy hu
  have hn:n < l:=by have:=(List.getElem?_eq_some_iff.1 hy).1;simpa using this
  rw [List.getElem?_replicate,if_pos hn] at hy
  cases hy
  have hj:j < k:=by rw [<- hk];exact (List.getElem?_eq_some_iff.1 hu).1
  have hlt:n * k+j < c * k:=by
   have:=Nat.mul_le_mul_right k (show n+1<=c by omega)
   rw [Nat.add_mul,Nat.one_mul] at this
   omega
  rw [hcs _ hlt,Nat.add_comm,Nat.add_mul_mod_self_right,Nat.mod_eq_of_lt hj]
  exact c3 j u hu
theorem yz (zs:Array Value) (n x:Nat) (hx:x < n * zs.size):(Builtin.zeroCells zs n)[x]? = zs[x % zs.size]?:=by
 have hp:0 < zs.size:=by
  rcases Nat.eq_zero_or_pos zs.size with h|h
  ·rw [h] at hx;omega
  ·exact h
 have hm:=Nat.mod_lt x hp
 unfold Builtin.zeroCells
 rw [Array.getElem?_map,Array.getElem?_range,if_pos hx]
 simp [hm]
theorem byteCells_at {b:ByteArray} {j:Nat} {x:AV} (h:(Z0 b)[j]? = some x):∃ c,(byteCells b)[j]? = some c/\VR F O c x/\x.cells=[x]:=by
 unfold Z0 at h
 rw [List.getElem?_map] at h
 obtain ⟨u,hu,rfl⟩:=Option.map_eq_some_iff.1 h
 refine ⟨.int .u8 (u.toNat:Int),?_,.p (.v _ rfl),rfl⟩
 unfold byteCells
 rw [List.getElem?_map,hu]
 rfl
theorem run_append_room_s {P : Program} (w : World) (t tx ty e : TypeId) (i : TypeInfo) (ht : P.underlying t = some (.slice e)) (hx : P.underlying tx = some .string) (hi : P.info? e = some i) (hs1 : i.size = 1) (b n cap : Nat) (cur : Array Value) (hrow : w.heap[b]? = some (.cells cur e (0, 0))) (s : ByteArray) (hroom : n + s.size <= cap) (hfit : n + s.size <= cur.size) :
  (Builtin.append_ #[t,tx] ty #[.slice (some ⟨b,0,none⟩) n cap,.string s]).run P w = .ok (.slice (some ⟨b,0,none⟩) (n+s.size) cap) (w.setRow b (cur.toList.take n++byteCells s++cur.toList.drop (n+s.size)).toArray):=by
 have src:=Src.ofString (P:=P) w hx s
 have hst:=run_storeCells_at P b n e (byteCells s) 0 cur w hrow (by rw [byteCells_length];simpa using hfit) src.one
 simp only [Nat.add_zero,byteCells_length] at hst
 have hc:=src.cells
 rw [<- hs1] at hc
 have hl:=src.len
 simp [Builtin.append_,run_underlying ht,run_underlying hx,sizeOf,typeInfo,hi,hl,hroom,hc,Addr.add_lit,hs1]
 rw [hs1] at hc
 simp [hc,hst]
theorem aps_run (h : Own B w0 F0 F O H w) {e : TypeId} (ne : e ≠ ZM) {s x : Value} {sa xa : AV} (hs : VR F O s sa) (hx : VR F O x xa) {t tx ty : TypeId} {i : TypeInfo} {z : Value} {bytes : Nat} (ht : P.underlying t = some (.slice e)) (htx : P.underlying tx = some .string) (hi : P.info? e = some i)
  (hz:i.zero=some z) (hsz:i.size=1) (hby:i.bytes=bytes) (hzs:z.cells.size=1) {r:AV} {H':Hp} (hr:apsA e bytes H sa xa=some (r,H')) :
  ∃ y w',(Builtin.append_ #[t,tx] ty #[s,x]).run P w = .ok y w'/\Out B w0 F0 F O r H' y w':=by
 unfold apsA at hr
 split at hr
 ·rename_i b
  have hxe:x = .string b:=by
   cases hx with
   | p h=>cases h;rfl
  subst hxe
  have src:=Src.ofString (P:=P) w htx b
  have bl:=bytesA_len b
  have cl:=byteCells_length b
  have bk:∀ y ∈ Z0 b,y.cells.length=1:=fun y hy=>by
   obtain ⟨u,_,rfl⟩:=List.mem_map.1 hy;rfl
  have b1:∀ y ∈ Z0 b,∀ a ∈ y.cells,AV.one a=true:=fun y hy a ha=>by
   obtain ⟨u,_,rfl⟩:=List.mem_map.1 hy
   simp [AV.cells] at ha
   subst ha;rfl
  split at hr
  ·have hsv : s = .slice none 0 0 := by
    cases hs with
    | p h=>cases h
    | nl=>rfl
   subst hsv
   split at hr
   ·rename_i hb0
    cases hr
    have hl:=src.len
    have hc:=src.cells
    have hb:byteCells b=[]:=List.length_eq_zero_iff.1 (by rw [cl];exact hb0)
    rw [hb] at hc
    refine ⟨.slice none 0 0,w,?_,Out.same h (.nl _)⟩
    simp [Builtin.append_,run_underlying ht,run_underlying htx,sizeOf,typeInfo,hi,hl,hb0,hsz]
    rw [hb0] at hc
    simp [hc]
   ·rename_i hb0
    split at hr
    ·rename_i hb
     cases hr
     have hmax:=hb.2
     have hold:(Builtin.firstCells i.size 0 (.slice none 0 0)).run P w.drew = .ok ([]:List Value).toArray w.drew:=by simp [Builtin.firstCells]
     have src':Src P i.size tx (.string b) b.size (byteCells b) w:=by rw [hsz];exact src
     have hrun:=run_append_grow_src (P:=P) w t tx ty e i z ht hi hz none 0 0 [] hold (.string b) b.size (byteCells b) src' (by omega) (by simp only [maxLen] at hmax;omega) (by rw [hby];exact growslice_fits (by omega) (by rw [Nat.zero_add];exact hb.1))
     simp only [Nat.zero_add,List.nil_append] at hrun
     have hge:=grownCap_ge w b.size 0 e
     have hcm:=grownCap_le_maxLen w b.size 0 e hmax
     refine ⟨_,_,hrun,F,O++[⟨w.heap.size,grownCap w b.size 0 e,0,1⟩],?_,h.push (w1:=w.drew) (Below.refl _ w).drew rfl ne hcm (by rw [bl];exact hge) ?_ bk b1 ?_,Fz.le_refl F,Ow.le_push O _⟩
     ·exact .ol _ H.length 0 b.size ⟨w.heap.size,grownCap w b.size 0 e,0,1⟩ (by rw [<- h.len];simp) (Nat.zero_le _) ⟨_,_,rfl⟩ fun _=>⟨hge,rfl⟩
     ·simp only [Array.size_append,List.size_toArray,size_zeroCells,hzs,cl]
      omega
     ·intro n j y a hy ha
      obtain ⟨c,g1,g2,g3⟩:=byteCells_at (F:=F) (O:=O) hy
      rw [g3] at ha
      obtain ⟨rfl,rfl⟩:j=0/\a=y:=by
       cases j with
       | zero=>exact ⟨rfl,by simpa using ha.symm⟩
       | succ j=>simp at ha
      refine ⟨c,?_,g2⟩
      rw [Array.getElem?_append_left (by have:=(List.getElem?_eq_some_iff.1 g1).1;simpa using this)]
      simpa using g1
    ·cases hr
  ·rename_i i' g n
   split at hr
   ·rename_i ob hl
    split at hr
    ·rename_i hcnd
     obtain ⟨hk1,rfl,hfz,hnl,hbt,hml⟩:=hcnd
     cases hr
     obtain ⟨d,hd,hio,r,hnC,rfl⟩:=h.ol hs hl
     obtain ⟨cur,hcur,hcsz,hcc0⟩:=r.curc (z7 hl)
     have hg:ob.g=g:=(Zz hl).2
     rw [hk1,Nat.mul_one] at hcsz
     have hle:n<=cur.size:=by rw [hcsz];exact hnC
     have tn:∀ x ∈ ob.es.take n++Z0 b,x.cells.length=1:=fun x hx=>by
      rcases List.mem_append.1 hx with hx|hx
      ·rw [<- hk1];exact r.hn x (List.mem_of_mem_take hx)
      ·exact bk x hx
     have t1:∀ x ∈ ob.es.take n++Z0 b,∀ a ∈ x.cells,AV.one a=true:=fun x hx=>by
      rcases List.mem_append.1 hx with hx|hx
      ·exact r.h1 x (List.mem_of_mem_take hx)
      ·exact b1 x hx
     have tl:(ob.es.take n++Z0 b).length=n+b.size:=by simp [bl];omega
     have tfz:ob.fz<=(ob.es.take n++Z0 b).length:=by rw [tl];omega
     have says : ∀ (rest : List Value) (cells : Array Value), cells.toList = cur.toList.take n ++ byteCells b ++ rest ->
       ∀ (m j:Nat) (x a:AV),(ob.es.take n++Z0 b)[m]? = some x->x.cells[j]? = some a->∃ c,cells[m * ob.k+j]? = some c/\VR F O c a:=fun rest cells hcells m j x a hx ha=>by
      have hj0:j=0:=by
       have:=(List.getElem?_eq_some_iff.1 ha).1
       rw [tn x (List.mem_of_getElem? hx)] at this
       omega
      subst hj0
      have e0:cells[m * ob.k+0]? = (cur.toList.take n++byteCells b++rest)[m]?:=by rw [<- hcells,hk1];simp
      have tkl:(ob.es.take n).length=n:=by simp;omega
      have tcl:(cur.toList.take n).length=n:=by simp;omega
      rw [e0,List.append_assoc]
      by_cases hm:m < n
      ·rw [List.getElem?_append_left (by omega)] at hx
       rw [List.getElem?_take,if_pos hm] at hx
       obtain ⟨c',g1,g2⟩:=hcc0 m 0 x a hx ha
       refine ⟨c',?_,g2⟩
       rw [List.getElem?_append_left (by omega),List.getElem?_take,if_pos hm]
       rw [hk1] at g1
       simpa using g1
      ·rw [List.getElem?_append_right (by omega), tkl] at hx
       obtain ⟨c',g1,g2,g3⟩:=byteCells_at (F:=F) (O:=O) hx
       rw [g3] at ha
       obtain rfl:x=a:=by simpa using ha
       refine ⟨c',?_,g2⟩
       rw [List.getElem?_append_right (by omega),tcl]
       rw [List.getElem?_append_left (by have:=(List.getElem?_eq_some_iff.1 g1).1;exact this)]
       exact g1
     by_cases hroom:n+b.size<=d.C
     ·have hrun := run_append_room_s (P := P) w t tx ty ob.e i ht htx hi hsz d.b n d.C cur hcur b hroom (by rw [hcsz]; exact hroom)
      obtain ⟨q1,q2⟩:=h.write (i:=i') (ob:=ob) (d:=d) hio (z7 hl) hd (new:=(cur.toList.take n++byteCells b++cur.toList.drop (n+b.size)).toArray) (g':=g+1) (es':=ob.es.take n++Z0 b) (by omega) (by rw [tl];exact hroom)
       (by rw [hk1];simp only [List.size_toArray,List.length_append,List.length_take,List.length_drop,Array.length_toList,cl];omega) (by rw [hk1];exact tn) t1 tfz (says (cur.toList.drop (n+b.size)) _ (by simp)) (fun o u hu=>by
       have ho:=r.hf o u hu
       rw [hk1] at ho
       have hw:=h.fr _ _ _ hu
       simp only [World.cell?,hcur] at hw
       rw [List.getElem?_toArray,List.append_assoc,List.getElem?_append_left (by simp;omega),List.getElem?_take,if_pos (by omega)]
       simpa using hw)
      rw [hk1] at q1
      refine ⟨_,_,hrun,F,_,?_,q1,Fz.le_refl F,q2⟩
      exact .ol _ i' (g+1) (n+b.size) ⟨d.b,d.C,g+1,d.k⟩ (List.getElem?_set_self (List.getElem?_eq_some_iff.1 hd).1) (Nat.le_refl _) ⟨_,_,rfl⟩ fun _=>⟨hroom,rfl⟩
     ·have src' : Src P i.size tx (.string b) b.size (byteCells b) w := by rw [hsz]; exact src
      have hold : (Builtin.firstCells i.size n (.slice (some ⟨d.b, 0, none⟩) n d.C)).run P w.drew = .ok (cur.toList.take n).toArray w.drew := run_firstCells_some w.drew i.size n ⟨d.b, 0, none⟩ n d.C (cur.toList.take n) (by rw [hsz]; simp; omega) (fun j v hv => by
        rw [List.getElem?_take] at hv
        split at hv
        ·rw [ZD]
         have hcur':w.drew.heap[d.b]? = some (.cells cur ob.e (0,0)):=hcur
         simp only [World.cell?,hcur']
         simpa using hv
        ·cases hv)
      have hrun:=run_append_grow_src (P:=P) w t tx ty ob.e i z ht hi hz (some ⟨d.b,0,none⟩) n d.C (cur.toList.take n) hold (.string b) b.size (byteCells b) src' (by omega) (by have:=hml;simp only [maxLen] at this;omega) (by rw [hby];exact growslice_fits (by omega) hbt)
      have hge:=grownCap_ge w (n+b.size) d.C ob.e
      have hcm:=grownCap_le_maxLen w (n+b.size) d.C ob.e hml
      obtain ⟨q1,q2⟩:=h.move (w1:=w.drew) (Below.refl _ w).drew rfl (i:=i') (ob:=ob) (d:=d) hio (z7 hl) hd (new:=(cur.toList.take n++byteCells b).toArray++Builtin.zeroCells z.cells (grownCap w (n+b.size) d.C ob.e - (n+b.size))) (C:=grownCap w (n+b.size) d.C ob.e) (es':=ob.es.take n++Z0 b)
       hcm (by rw [tl];exact hge) (by
        simp only [Array.size_append,List.size_toArray,size_zeroCells,hzs,cl,hk1,List.length_append,List.length_take,Array.length_toList]
        omega) (by rw [hk1];exact tn) t1 tfz (says (Builtin.zeroCells z.cells (grownCap w (n+b.size) d.C ob.e - (n+b.size))).toList _ (by simp))
      rw [hg,hk1] at q1
      rw [hg] at q2
      refine ⟨_,_,hrun,F,_,?_,q1,Fz.le_refl F,by rw [hk1] at q2;exact q2⟩
      exact .ol _ i' (g+1) (n+b.size) ⟨w.heap.size,_,g+1,1⟩ (List.getElem?_set_self (List.getElem?_eq_some_iff.1 hd).1) (Nat.le_refl _) ⟨_,_,rfl⟩ fun _=>⟨hge,rfl⟩
    ·cases hr
   ·cases hr
  ·cases hr
 ·cases hr
theorem numsA_at:∀ {es:List AV} {ns:List Int},numsA es=some ns->ns.length=es.length/\∀ (j:Nat) (z:Int),ns[j]? = some z->es[j]? = some (.v (.int .u8 z))
 | [],ns,h=>by cases h;exact ⟨rfl,fun j z hz=>by simp at hz⟩
 | e::es,ns,h=>by
  unfold numsA at h
  split at h
  ·rename_i he;cases he
  ·rename_i z l he
   cases he
   split at h
   ·rename_i zs hz
    cases h
    obtain ⟨h1,h2⟩:=numsA_at hz
    refine ⟨by simp [h1],fun j y hy=>?_⟩
    cases j with
    | zero=>simp at hy;subst hy;rfl
    | succ j=>simp only [List.getElem?_cons_succ] at hy ⊢;exact h2 j y hy
   ·cases h
  ·cases h
theorem sob_run (h:Own B w0 F0 F O H w) {x:Value} {xa r:AV} (hx:VR F O x xa) (hr:sobA H xa=some r):∃ y,(Conv.bytesToString x).run P w = .ok y w/\VR F O y r:=by
 unfold sobA at hr
 split at hr
 ·rename_i news H2 hs
  split at hr
  ·rename_i ns hns
   cases hr
   obtain ⟨A,c,rfl,hk,h1,hcell⟩:=src_ok h hx hs
   obtain ⟨n1,n2⟩:=numsA_at hns
   by_cases hne:news=[]
   ·subst hne
    have:ns=[]:=List.length_eq_zero_iff.1 n1
    subst this
    refine ⟨.string ByteArray.empty,?_,.p (.v _ rfl)⟩
    cases A with
    | none=>simp [Conv.bytesToString]
    | some a =>
     have hl:(loadCells a 0).run P w = .ok (([]:List Int).map (Value.int .u8)).toArray w:=by simp [loadCells,loadCellsFrom]
     exact run_bytesToString w a 0 c [] hl
   ·obtain ⟨b, o, rfl, hcc⟩ := hcell hne
    have hl:(loadCells ⟨b,o,none⟩ news.length).run P w = .ok (ns.map (Value.int .u8)).toArray w:=by
     have:=run_firstCells_some (P:=P) w 1 news.length ⟨b,o,none⟩ news.length c (ns.map (Value.int .u8)) (by simp [n1]) (fun j u hu=>by
      rw [List.getElem?_map] at hu
      obtain ⟨z,hz,rfl⟩:=Option.map_eq_some_iff.1 hu
      have he:=n2 j z hz
      obtain ⟨c',g1,g2⟩:=hcc j 0 _ (.v (.int .u8 z)) he rfl
      cases g2 with
      | p h=>cases h;rw [ZD];simpa using g1)
     simpa [Builtin.firstCells] using this
    exact ⟨_,run_bytesToString w _ _ c ns hl,.p (.v _ rfl)⟩
  ·cases hr
 ·cases hr
theorem bytes8_at:∀ {es:List AV} {bs:List UInt8},xv es=some bs->bs.length=es.length/\∀ (j:Nat) (u:UInt8),bs[j]? = some u->es[j]? = some (.v (.int .u8 (u.toNat:Int)))
 | [],bs,h=>by cases h;exact ⟨rfl,fun j z hz=>by simp at hz⟩
 | e::es,bs,h=>by
  unfold xv at h
  split at h
  ·rename_i he;cases he
  ·rename_i z l he
   cases he
   split at h
   ·rename_i hz
    split at h
    ·rename_i b hb
     cases h
     obtain ⟨h1,h2⟩:=bytes8_at hb
     refine ⟨by simp [h1],fun j y hy=>?_⟩
     cases j with
     | zero =>
      simp at hy
      subst hy
      have:((UInt8.ofNat z.toNat).toNat:Int)=z:=by
       have h3:(UInt8.ofNat z.toNat).toNat=z.toNat % 256:=UInt8.toNat_ofNat'
       rw [h3]
       omega
      rw [this];rfl
     | succ j=>simp only [List.getElem?_cons_succ] at hy ⊢;exact h2 j y hy
    ·cases h
   ·cases h
  ·cases h
theorem usd_run (h:Own B w0 F0 F O H w) {x:Value} {xa r:AV} (hx:VR F O x xa) (hr:usdA H xa=some r) (ts:Array TypeId) (ty:TypeId):∃ y,(Builtin.unsafeSliceData_ ts ty #[x]).run P w = .ok y w/\VR F O y r:=by
 unfold usdA at hr
 split at hr
 ·rename_i i g n
  split at hr
  ·rename_i ob hl
   split at hr
   ·rename_i hn
    cases hr
    obtain ⟨d,hd,hio,rr,hnC,rfl⟩:=h.ol hx hl
    have hg:ob.g=g:=(Zz hl).2
    refine ⟨_,Go.Lib.run_unsafeSliceData_row w ts ty ⟨d.b,0,none⟩ n d.C (by omega),.oa _ i g 0 0 d hd (by rw [rr.hg,hg];exact Nat.le_refl _) rfl fun _=>?_⟩
    simp
   ·cases hr
  ·cases hr
 ·cases hr
  have:x = .slice none 0 0:=by
   cases hx with
   | p h=>cases h
   | nl=>rfl
  subst this
  exact ⟨_,Go.Lib.run_unsafeSliceData_nil w ts ty 0 0,.p (.v _ rfl)⟩
 ·cases hr
theorem freeze_at (w:World) (b n:Nat) {c:Array Value} {e:TypeId} {fr:Nat × Nat} (h:w.heap[b]? = some (.cells c e fr)):∃ c e' fr,(w.freeze ⟨b,0,none⟩ n).heap[b]? = some (.cells c e' fr):=by
 unfold World.freeze
 split
 ·exact ⟨c,e,fr,h⟩
 ·simp [Array.getElem?_modify,h]
theorem freeze_other (w:World) (b n k:Nat) (hk:k ≠ b):(w.freeze ⟨b,0,none⟩ n).heap[k]? = w.heap[k]?:=by
 unfold World.freeze
 split
 ·rfl
 ·simp only [Array.getElem?_modify]
  rw [if_neg (fun e=>hk e.symm)]
theorem freeze_size (w:World) (b n:Nat):(w.freeze ⟨b,0,none⟩ n).heap.size=w.heap.size:=by
 unfold World.freeze
 split<;>simp
theorem ust_run (h : Own B w0 F0 F O H w) {e : TypeId} {x n : Value} {xa na : AV} (hx : VR F O x xa) (hn : VR F O n na) {pt it ty : TypeId} (hp : P.underlying pt = some (.pointer e)) (hc : P.cellsOf e = 1) {r : AV} {H' : Hp} (hr : ustA e H xa na = some (r, H')) :
  ∃ y w',(Builtin.unsafeString_ #[pt,it] ty #[x,n]).run P w = .ok y w'/\Out B w0 F0 F O r H' y w':=by
 unfold ustA at hr
 split at hr
 ·rename_i m
  obtain rfl:n = .int .i64 m:=by
   cases hn with
   | p h=>cases h;rfl
  split at hr
  ·split at hr
   ·rename_i hm
    subst hm
    cases hr
    obtain rfl:x = .pointer none:=by
     cases hx with
     | p h=>cases h;rfl
    exact ⟨_,w,Go.Lib.run_unsafeString_none w pt it ty none,Out.same h (.p (.v _ rfl))⟩
   ·cases hr
  ·rename_i i g
   split at hr
   ·rename_i ob hl
    split at hr
    ·rename_i hcnd
     obtain ⟨hk1,rfl,hfz,hm0,hml,hm63⟩:=hcnd
     split at hr
     ·rename_i bs hbs
      cases hr
      obtain ⟨n1,n2⟩:=bytes8_at hbs
      obtain ⟨hio,hg⟩:=Zz hl
      obtain ⟨d,hd,rr⟩:=h.get hio
      obtain ⟨cur,hcur,hcsz,hcc0⟩:=rr.curc (z7 hl)
      rw [hk1,Nat.mul_one] at hcsz
      have hxv:x = .pointer (some ⟨d.b,0,none⟩):=by
       cases hx with
       | p h=>cases h
       | oa x i g e off d' hd' hg' h1 hh =>
        rw [hd] at hd'
        cases hd'
        simpa using hh (by rw [rr.hg,hg])
      subst hxv
      have hbl:bs.length=m.toNat:=by rw [n1];simp;omega
      have hes:=rr.hl (z7 hl)
      have hsh:w.shape? d.b=some (ob.e,cur.size):=by simp [World.shape?,hcur]
      have hrun:=Go.Lib.run_unsafeString_row (P:=P) w pt it ty ob.e hp hc d.b cur.size hsh bs (fun e=>by subst e;simp at hbl;omega) (by rw [hbl,hcsz];omega) (by omega) (fun j u hu=>by
       have hj:=n2 j u hu
       rw [List.getElem?_take] at hj
       split at hj
       ·obtain ⟨c, g1, g2⟩ := hcc0 j 0 _ (.v (.int .u8 (u.toNat : Int))) hj rfl
        rw [hk1] at g1
        cases g2 with
        | p h =>
         cases h
         rw [ZD]
         simp only [World.cell?,hcur]
         simpa using g1
       ·cases hj)
      have hmm:((bs.length:Nat):Int)=m:=by rw [hbl];omega
      rw [hmm] at hrun
      have hg':g=ob.g:=hg.symm
      subst hg'
      obtain ⟨q1,q2⟩:=h.kill hio hd hfz (w':=w.freeze ⟨d.b,0,none⟩ bs.length) (fun b hb=>freeze_other w d.b _ b hb) (Go.Lib.below_freeze h.below rr.hB.1 _) (by rw [freeze_size];exact h.size) (freeze_at w d.b _ hcur)
      exact ⟨_,_,hrun,F,_,.p (.v _ rfl),q1,Fz.le_refl F,q2⟩
     ·cases hr
    ·cases hr
   ·cases hr
  ·cases hr
 ·cases hr
theorem liesAt_head {e:TypeId} (h0:0 < P.cellsOf e) (count:Nat) (hn:1<=count):liesAt P P.depth e count 0 e 1=true:=by
 have hd:P.depth=(2 * (P.types.size+Made.depth)+1)+1:=rfl
 rw [hd]
 simp only [liesAt,Bool.or_eq_true]
 left
 rw [hd]
 have h1:P.cellsOf e ≠ 0:=by omega
 simp [rowAt,h1,hn,sameLayout]
theorem cup_run (h : Own B w0 F0 F O H w) {x : Value} {xa r : AV} (hx : VR F O x xa) {src dst t : TypeId} {j : TypeInfo} (hs : P.underlying src = some (.pointer t)) (hd : P.underlying dst = some .unsafePointer) (ht : P.info? t = some j) (hj : j.size ≠ 0) (hr : cupA H xa = some r) :
  ∃ y,(convert src dst x).run P w = .ok y w/\VR F O y r:=by
 unfold cupA at hr
 split at hr
 ·cases hr
  obtain rfl:x = .pointer none:=by
   cases hx with
   | p h=>cases h;rfl
  refine ⟨.pointer none,?_,.p (.v _ rfl)⟩
  simp [convert,run_underlying hs,run_underlying hd,Conv.unsafePointer]
 ·rename_i i g e off
  split at hr
  ·rename_i ob hl
   split at hr
   ·rename_i hc
    cases hr
    obtain ⟨d,hdd,hio,rr,rfl⟩:=h.oa hx hl
    obtain ⟨cur,hcur,hcsz,_⟩:=rr.curc (z7 hl)
    have hsh:w.shape? d.b=some (ob.e,cur.size):=by simp [World.shape?,hcur]
    have hlC:=rr.hl (z7 hl)
    have hm:(e+1) * ob.k<=d.C * ob.k:=Nat.mul_le_mul_right _ (by omega)
    rw [Nat.add_mul,Nat.one_mul] at hm
    exact ⟨_,Go.Lib.run_to_unsafe (P:=P) w _ hs hd ht hj hsh (by rw [hcsz];dsimp only;omega),hx⟩
   ·cases hr
  ·cases hr
 ·cases hr
theorem cpu_run (h : Own B w0 F0 F O H w) {x : Value} {xa r : AV} (hx : VR F O x xa) {src dst u : TypeId} {j : TypeInfo} (hs : P.underlying src = some .unsafePointer) (hd : P.underlying dst = some (.pointer u)) (hu : P.info? u = some j) (hr : cpuA P u H xa = some r) :
  ∃ y,(convert src dst x).run P w = .ok y w/\VR F O y r:=by
 unfold cpuA at hr
 split at hr
 ·cases hr
  obtain rfl:x = .pointer none:=by
   cases hx with
   | p h=>cases h;rfl
  refine ⟨.pointer none,?_,.p (.v _ rfl)⟩
  simp [convert,run_underlying hs,run_underlying hd,Conv.unsafePointer]
 ·rename_i i g
  split at hr
  ·rename_i ob hl
   split at hr
   ·rename_i hc
    obtain ⟨hc1,hc2,hc3,hc4⟩:=hc
    cases hr
    obtain ⟨d,hdd,hio,rr,hxe⟩:=h.oa hx hl
    obtain ⟨cur,hcur,hcsz,_⟩:=rr.curc (z7 hl)
    have hsh:w.shape? d.b=some (ob.e,cur.size):=by simp [World.shape?,hcur]
    have hlC:=rr.hl (z7 hl)
    have hx0:x = .pointer (some ⟨d.b,0,none⟩):=by simpa using hxe
    rw [hx0] at hx ⊢
    refine ⟨_,Go.Lib.run_from_unsafe (P:=P) w ⟨d.b,0,none⟩ hs hd hu hsh ?_,hx⟩
    rw [hc1]
    refine liesAt_head (by omega) _ ?_
    rw [hcsz,hc4]
    exact (Nat.le_div_iff_mul_le hc3).2 (Nat.mul_le_mul_right _ (by omega))
   ·cases hr
  ·cases hr
 ·cases hr
theorem run_clear_k {P : Program} (w : World) (t e e2 ty : TypeId) (z : Value) (ht : P.underlying t = some (.slice e)) (hv : (zeroValue e).run P w = .ok z w) (b n c : Nat) (hn : 0 < n) (cur : Array Value) (hrow : w.heap[b]? = some (.cells cur e2 (0, 0))) (vs : List Value) (hvs : (Builtin.zeroCells z.cells n).toList = vs) (hfit : vs.length <= cur.size) (h1 : ∀ u ∈ vs, u.oneCell' = true) :
  (Builtin.clear_ #[t] ty #[.slice (some ⟨b,0,none⟩) n c]).run P w = .ok (.tuple #[]) (w.setRow b (vs++cur.toList.drop vs.length).toArray):=by
 have hst:=run_storeCells_at P b 0 e2 vs 0 cur w hrow (by simpa using hfit) h1
 simp only [Nat.add_zero,Nat.zero_add,List.take_zero,List.nil_append] at hst
 obtain ⟨m,rfl⟩:∃ m,n=m+1:=⟨n - 1,by omega⟩
 simp [Builtin.clear_,run_underlying ht,hv,hvs,hst]
theorem clr_run (h : Own B w0 F0 F O H w) {x z : Value} {xa za : AV} (hx : VR F O x xa) (hz : VR F O z za) {t ty e : TypeId} {i : TypeInfo} {k : Nat} (ht : P.underlying t = some (.slice e)) (hi : P.info? e = some i) (hzr : i.zero = some z)
  (hk:za.cells.length=k) (hf:za.fine=true) (h0:0 < k) {H':Hp} (hr:clrA k za H xa=some H') :
  ∃ w' F' O',(Builtin.clear_ #[t] ty #[x]).run P w = .ok (.tuple #[]) w'/\Own B w0 F0 F' O' H' w'/\F.le F'/\O.le O':=by
 cases xa with
 | ol i' g n =>
  simp only [clrA] at hr
  split at hr
  ·rename_i ob hl
   split at hr
   ·rename_i hcnd
    obtain ⟨rfl,hfz,hn,hnl⟩:=hcnd
    cases hr
    obtain ⟨dd,hdd,hio,r,hnC,rfl⟩:=h.ol hx hl
    obtain ⟨cur,hcur,hcsz,hcc0⟩:=r.curc (z7 hl)
    have hzc:z.cells.size=ob.k:=by rw [(hz.cells (yn hf)).1];exact hk
    have zl:(Builtin.zeroCells z.cells n).toList.length=n * ob.k:=by rw [Array.length_toList,size_zeroCells,hzc]
    have hmC:n * ob.k<=cur.size:=by rw [hcsz];exact Nat.mul_le_mul_right _ (by omega)
    obtain ⟨c1,c2,c3⟩:=hz.cells (yn hf)
    have hone:∀ u ∈ (Builtin.zeroCells z.cells n).toList,u.oneCell'=true:=fun u hu=>by
     obtain ⟨x,hx⟩:=List.getElem?_of_mem hu
     have hxl:=(List.getElem?_eq_some_iff.1 hx).1
     rw [zl] at hxl
     rw [Array.getElem?_toList,yz _ _ _ (by rw [hzc];exact hxl),hzc] at hx
     have hm:x % ob.k < za.cells.length:=by rw [hk];exact Nat.mod_lt _ h0
     obtain ⟨c,q1,q2⟩:=c3 (x % ob.k) za.cells[x % ob.k] (List.getElem?_eq_getElem hm)
     rw [hx] at q1
     cases q1
     exact q2.oneCell (c2 _ (List.getElem_mem hm))
    have hrun:=run_clear_k (P:=P) w t e ob.e ty z ht (y4 hi hzr w) dd.b n dd.C hn cur hcur _ rfl (by rw [zl];exact hmC) hone
    have tn:∀ x ∈ List.replicate n za++ob.es.drop n,x.cells.length=ob.k:=fun x hx=>by
     rcases List.mem_append.1 hx with hx|hx
     ·rw [List.eq_of_mem_replicate hx];exact hk
     ·exact r.hn x (List.mem_of_mem_drop hx)
    have t1:∀ x ∈ List.replicate n za++ob.es.drop n,∀ a ∈ x.cells,AV.one a=true:=fun x hx=>by
     rcases List.mem_append.1 hx with hx|hx
     ·rw [List.eq_of_mem_replicate hx];exact c2
     ·exact r.h1 x (List.mem_of_mem_drop hx)
    have tl:(List.replicate n za++ob.es.drop n).length=ob.es.length:=by simp;omega
    obtain ⟨q1,q2⟩:=h.write (i:=i') (ob:=ob) (d:=dd) hio (z7 hl) hdd (new:=((Builtin.zeroCells z.cells n).toList++cur.toList.drop (Builtin.zeroCells z.cells n).toList.length).toArray) (g':=ob.g) (es':=List.replicate n za++ob.es.drop n) (Nat.le_refl _) (by rw [tl];exact r.hl (z7 hl))
     (by simp only [List.size_toArray,List.length_append,List.length_drop,zl,Array.length_toList];omega) tn t1 (by omega) (fun p j x a hx ha=>by
      have hjk:j < ob.k:=by rw [<- tn x (List.mem_of_getElem? hx)];exact (List.getElem?_eq_some_iff.1 ha).1
      simp only [List.getElem?_toArray]
      by_cases hp:p < n
      ·rw [List.getElem?_append_left (by simpa using hp), List.getElem?_replicate, if_pos hp] at hx
       cases hx
       have hlt:p * ob.k+j < n * ob.k:=by
        have:=Nat.mul_le_mul_right ob.k (show p+1<=n by omega)
        rw [Nat.add_mul,Nat.one_mul] at this
        omega
       rw [List.getElem?_append_left (by rw [zl];exact hlt),Array.getElem?_toList,yz _ _ _ (by rw [hzc];exact hlt),hzc,Nat.add_comm,Nat.add_mul_mod_self_right,Nat.mod_eq_of_lt hjk]
       exact c3 j a ha
      ·rw [List.getElem?_append_right (by simpa using hp), List.length_replicate, List.getElem?_drop] at hx
       obtain ⟨c',g1,g2⟩:=hcc0 p j x a (by rw [<- hx];congr 1;omega) ha
       have hle:n * ob.k<=p * ob.k:=Nat.mul_le_mul_right _ (by omega)
       refine ⟨c',?_,g2⟩
       rw [List.getElem?_append_right (by rw [zl];omega),zl,List.getElem?_drop,<- g1,<- Array.getElem?_toList]
       congr 1;omega) (fun o u hu=>by
      have ho:=r.hf o u hu
      rw [hfz] at ho
      omega)
    exact ⟨_,F,_,hrun,q1,Fz.le_refl F,q2⟩
   ·cases hr
  ·cases hr
 | nl kk =>
  cases hr
  have:x = .slice none 0 0:=by
   cases hx with
   | p h=>cases h
   | nl=>rfl
  subst this
  exact ⟨w,F,O,by simp [Builtin.clear_,run_underlying ht],h,Fz.le_refl F,Ow.le_refl O⟩
 | sl kk es =>
  cases es with
  | nil =>
   cases hr
   have hx:=hx.pvC rfl
   cases hx with
   | sl A m cap _ _ hn hc hm hkk h1 b o hA f hff hvv =>
    simp at hn
    subst hn
    cases A<;>exact ⟨w,F,O,by simp [Builtin.clear_,run_underlying ht],h,Fz.le_refl F,Ow.le_refl O⟩
  | cons _ _=>cases hr
 | _=>cases hr
theorem apz_run (h : Own B w0 F0 F O H w) {e : TypeId} (ne : e ≠ ZM) {z : Value} {za : AV} (hz : VR F O z za) {t tn ty : TypeId} {i : TypeInfo} {kn k : IntKind} (ht : P.underlying t = some (.slice e)) (htn : P.underlying tn = some (.int kn)) (hi : P.info? e = some i) (hiz : i.zero = some z)
  (hk:za.cells.length=i.size) (hf:za.fine=true) (h0:0 < i.size) {m:Int} (hm:0 < m) (hb:m.toNat * i.bytes<=140737488355328) (hml:m.toNat<=maxLen) :
  ∃ y w',(Builtin.append_ #[t,tn] ty #[.slice none 0 0,.int k m]).run P w = .ok y w'/\Out B w0 F0 F O (.ol H.length 0 m.toNat) (H++[⟨e,i.size,List.replicate m.toNat za,0,0⟩]) y w':=by
 have hmn:((m.toNat:Nat):Int)=m:=by omega
 have hrun:=Lib.run_append_nil_zeros (P:=P) w t tn ty e i z k kn ht htn hi hiz m.toNat (by omega) h0 (by have:=hml;simp only [maxLen] at this;omega) (by omega)
 rw [hmn] at hrun
 have h':Own B w0 F0 F O H w.drew:=h.keep (Below.refl _ w).drew
 have hzc:z.cells.size=i.size:=by rw [(hz.cells (yn hf)).1];exact hk
 have hge:=grownCap_ge w m.toNat 0 e
 have hcm:=grownCap_le_maxLen w m.toNat 0 e hml
 have hsz:(Builtin.zeroCells z.cells m.toNat++Builtin.zeroCells z.cells (grownCap w m.toNat 0 e - m.toNat)).size=grownCap w m.toNat 0 e * i.size:=by
  simp only [Array.size_append,size_zeroCells,hzc]
  rw [<- Nat.add_mul]
  congr 1
  omega
 refine ⟨_,_,hrun,mks_run (w:=w.drew) h' ne hz hk hf hge hcm hsz fun x hx=>?_⟩
 by_cases hxl:x < m.toNat * i.size
 ·rw [Array.getElem?_append_left (by rw [size_zeroCells,hzc];exact hxl),yz _ _ _ (by rw [hzc];exact hxl),hzc]
 ·have hle : m.toNat * i.size <= x := by omega
  have hlt:x - m.toNat * i.size < (grownCap w m.toNat 0 e - m.toNat) * i.size:=by
   rw [Nat.sub_mul];omega
  rw [Array.getElem?_append_right (by rw [size_zeroCells,hzc];exact hle),size_zeroCells,hzc,yz _ _ _ (by rw [hzc];exact hlt),hzc]
  congr 1
  have:x=x - m.toNat * i.size+i.size * m.toNat:=by rw [Nat.mul_comm i.size];omega
  rw [show x % i.size=(x - m.toNat * i.size+i.size * m.toNat) % i.size from by rw [<- this],Nat.add_mul_mod_self_left]
theorem fold_set (l : List Value) : ∀ (s off : Nat) (cells : Array Value), off + s + l.length <= cells.size ->
  ((l.zipIdx s).foldl (fun cs (p:Value × Nat)=>cs.setIfInBounds (off+p.2) p.1) cells).size=cells.size /\
  ∀ x,((l.zipIdx s).foldl (fun cs (p:Value × Nat)=>cs.setIfInBounds (off+p.2) p.1) cells)[x]? = if off+s<=x/\x < off+s+l.length then l[x - (off+s)]? else cells[x]?:=by
 induction l with
 | nil=>intro s off cells h;exact ⟨rfl,fun x=>by simp;intro h1 h2;omega⟩
 | cons v l ih =>
  intro s off cells h
  simp only [List.length_cons] at h
  obtain ⟨q1,q2⟩:=ih (s+1) off (cells.setIfInBounds (off+s) v) (by simp;omega)
  simp only [List.zipIdx_cons,List.foldl_cons]
  refine ⟨by rw [q1];simp,fun x=>?_⟩
  rw [q2 x]
  by_cases hx:off+(s+1)<=x/\x < off+(s+1)+l.length
  ·rw [if_pos hx, if_pos (by simp only [List.length_cons]; omega)]
   rw [show x - (off+s)=(x - (off+(s+1)))+1 from by omega]
   simp
  ·rw [if_neg hx]
   by_cases hx2:x=off+s
   ·subst hx2
    rw [if_pos (by simp only [List.length_cons];omega)]
    simp [Array.getElem?_setIfInBounds]
    omega
   ·rw [if_neg (by simp only [List.length_cons];omega),Array.getElem?_setIfInBounds_ne (by omega)]
theorem fold_arr (v : Value) (off : Nat) (cells : Array Value) (h : off + v.cells.size <= cells.size) :
  (v.cells.zipIdx.foldl (fun cs (c,j)=>cs.setIfInBounds (off+j) c) cells).size=cells.size /\
  ∀ x,(v.cells.zipIdx.foldl (fun cs (c,j)=>cs.setIfInBounds (off+j) c) cells)[x]? = if off<=x/\x < off+v.cells.size then v.cells[x - off]? else cells[x]?:=by
 obtain ⟨q1,q2⟩:=fold_set v.cells.toList 0 off cells (by simpa using h)
 have e:v.cells.zipIdx.foldl (fun cs (c,j)=>cs.setIfInBounds (off+j) c) cells=(v.cells.toList.zipIdx 0).foldl (fun cs (p:Value × Nat)=>cs.setIfInBounds (off+p.2) p.1) cells:=by
  rw [<- Array.foldl_toList,Array.toList_zipIdx]
 rw [e]
 refine ⟨q1,fun x=>?_⟩
 rw [q2 x]
 simp
theorem fill_ok (wR : Nat -> Option (Nat × Nat)) : ∀ (ps : List (Nat × Value)) (qs : List (Nat × Nat × AV)) (cells : Array Value) (as_ cs' : List AV), ps.length = qs.length ->
  (∀ (i:Nat) (p:Nat × Value) (q:Nat × Nat × AV),ps[i]? = some p->qs[i]? = some q->wR p.1=some (q.1,q.2.1)/\VR F O p.2 q.2.2) ->
  cells.size=as_.length->(∀ a ∈ as_,a.one=true)->(∀ (i:Nat) (c:Value) (a:AV),cells[i]? = some c->as_[i]? = some a->VR F O c a)->zx as_ qs=some cs' ->
  ∃ out,Instr.fill wR cells ps=some out/\out.size=cs'.length/\(∀ a ∈ cs',a.one=true)/\∀ (i:Nat) (c:Value) (a:AV),out[i]? = some c->cs'[i]? = some a->VR F O c a
 | [],[],cells,as_,cs',_,_,hl,h1,hv,hf=>by
  cases hf
  exact ⟨cells,rfl,hl,h1,hv⟩
 | [],_::_,_,_,_,h,_,_,_,_,_=>by simp at h
 | _::_,[],_,_,_,h,_,_,_,_,_=>by simp at h
 | (pi,v)::ps,(off,n,va)::qs,cells,as_,cs',hlen,hp,hl,h1,hv,hf=>by
  obtain ⟨g1,g2⟩:=hp 0 _ _ rfl rfl
  simp only at g1 g2
  simp only [zx] at hf
  split at hf
  ·rename_i hc
   obtain ⟨c1,c2,c3⟩:=hc
   obtain ⟨z1,z2,z3⟩:=g2.cells (yn c3)
   have hvs:v.cells.size=n:=by rw [z1,c1]
   obtain ⟨s1,s2⟩:=fold_arr v off cells (by rw [hvs,hl];exact c2)
   have hbig:¬ (v.cells.size ≠ n\/off+v.cells.size > cells.size):=by rw [hvs,hl];omega
   have l1:(as_.take off).length=off:=by simp;omega
   obtain ⟨out, o1, o2⟩ := fill_ok wR ps qs _ (as_.take off ++ va.cells ++ as_.drop (off + n)) cs' (by simpa using hlen) (fun i p q hpi hqi => hp (i + 1) p q hpi hqi) (by rw [s1, hl]; simp; omega) (fun a ha => by
     rcases List.mem_append.1 ha with ha|ha
     ·rcases List.mem_append.1 ha with ha | ha
      ·exact h1 a (List.mem_of_mem_take ha)
      ·exact z2 a ha
     ·exact h1 a (List.mem_of_mem_drop ha)) (fun i c a hci hai=>by
     rw [s2 i] at hci
     by_cases hi:i < off
     ·rw [if_neg (by omega)] at hci
      rw [List.append_assoc,List.getElem?_append_left (by omega),List.getElem?_take,if_pos hi] at hai
      exact hv i c a hci hai
     ·by_cases hi2 : i < off + n
      ·rw [if_pos ⟨by omega, by omega⟩] at hci
       rw [List.getElem?_append_left (by simp;omega),List.getElem?_append_right (by omega),l1] at hai
       obtain ⟨c',e1,e2⟩:=z3 _ _ hai
       rw [e1] at hci
       cases hci
       exact e2
      ·rw [if_neg (by omega)] at hci
       rw [List.getElem?_append_right (by simp;omega),List.getElem?_drop] at hai
       simp only [List.length_append,l1,c1] at hai
       rw [show off+n+(i - (off+n))=i from by omega] at hai
       exact hv i c a hci hai) hf
   refine ⟨out,?_,o2⟩
   simp only [Instr.fill,g1]
   have hb:(decide (v.cells.size ≠ n) || decide (off+v.cells.size > cells.size))=false:=by simp;omega
   simp only [hb,Bool.false_eq_true,if_false]
   exact o1
  ·cases hf
theorem wt {k : Nat} : ∀ (vs : List Value) (s : Nat) (cells : Array Value), (∀ v ∈ vs, v.cells.size = k) -> (s + vs.length) * k <= cells.size ->
  ∃ out,Instr.fill (fun i=>some (i * k,k)) cells ((vs.zipIdx s).map fun p=>(p.2,p.1))=some out/\out.size=cells.size/\(∀ x,x < s * k->out[x]? = cells[x]?)/\∀ (i:Nat) (v:Value),vs[i]? = some v->∀ j,j < k->out[(s+i) * k+j]? = v.cells[j]?
 | [],s,cells,_,_=>⟨cells,rfl,rfl,fun _ _=>rfl,fun i v hv=>by simp at hv⟩
 | v::vs,s,cells,hk,hs=>by
  have hv:=hk v (by simp)
  have hs':s * k+k<=cells.size:=by
   have:=Nat.mul_le_mul_right k (show s+1<=s+(v::vs).length by simp)
   rw [Nat.add_mul,Nat.one_mul] at this
   omega
  obtain ⟨f1,f2⟩:=fold_arr v (s * k) cells (by rw [hv];exact hs')
  obtain ⟨out,o1,o2,o3,o4⟩:=wt vs (s+1) _ (fun u hu=>hk u (by simp [hu])) (by rw [f1];rw [show s+1+vs.length=s+(v::vs).length from by simp;omega];exact hs)
  refine ⟨out,?_,o2.trans f1,fun x hx=>?_,fun i u hu j hj=>?_⟩
  ·simp only [List.zipIdx_cons,List.map_cons,Instr.fill]
   have hb:(decide (v.cells.size ≠ k) || decide (s * k+v.cells.size > cells.size))=false:=by simp;omega
   simp only [hb,Bool.false_eq_true,if_false]
   exact o1
  ·rw [o3 x (by rw [Nat.add_mul];omega),f2 x,if_neg (by omega)]
  ·cases i with
   | zero =>
    simp at hu
    subst hu
    rw [Nat.add_zero,o3 _ (by rw [Nat.add_mul];omega),f2,if_pos (by omega)]
    congr 1
    omega
   | succ i =>
    have:=o4 i u (by simpa using hu) j hj
    rw [show s+(i+1)=s+1+i from by omega]
    exact this
theorem bsl_run (h : Own B w0 F0 F O H w) {e : TypeId} (ne : e ≠ ZM) {vs : List Value} {as_ : List AV} (hl : vs.length = as_.length) (hv : ∀ (i : Nat) (c : Value) (a : AV), vs[i]? = some c -> as_[i]? = some a -> VR F O c a) {k : Nat} (hk : ∀ a ∈ as_, a.cells.length = k /\ a.fine = true)
  (hm:as_.length<=maxLen) {cs:Array Value} (hs:cs.size=as_.length * k) (hcs:∀ (i:Nat) (v:Value),vs[i]? = some v->∀ j,j < k->cs[i * k+j]? = v.cells[j]?) :
  Out B w0 F0 F O (.ol H.length 0 as_.length) (H++[⟨e,k,as_,0,0⟩]) (.slice (some ⟨w.heap.size,0,none⟩) as_.length as_.length) (w.alloc (.cells cs e)):=by
 refine ⟨F,O++[⟨w.heap.size,as_.length,0,k⟩],?_,h.push (w1:=w) (Below.refl _ w) rfl ne hm (Nat.le_refl _) hs (fun y hy=>(hk y hy).1) (fun y hy=>fine_one (hk y hy).2) ?_,Fz.le_refl F,Ow.le_push O _⟩
 ·exact .ol _ H.length 0 as_.length ⟨w.heap.size,as_.length,0,k⟩ (by rw [<- h.len];simp) (Nat.le_refl _) ⟨_,_,rfl⟩ fun _=>⟨Nat.le_refl _,rfl⟩
 ·intro n j y u hy hu
  have hn:=(List.getElem?_eq_some_iff.1 hy).1
  have hmem:=hk y (List.mem_of_getElem? hy)
  have hj:j < k:=by rw [<- hmem.1];exact (List.getElem?_eq_some_iff.1 hu).1
  have hvn:vs[n]? = some (vs[n]'(by omega)):=List.getElem?_eq_getElem (by omega)
  obtain ⟨z1,z2,z3⟩:=(hv n _ y hvn hy).cells (yn hmem.2)
  obtain ⟨c,g1,g2⟩:=z3 j u hu
  exact ⟨c,by rw [hcs n _ hvn j hj];exact g1,g2⟩
end
def xU (P:Program) (fs:Array Field):List (Nat × Operand)->Option (List (Nat × Nat × AX))
 | []=>some []
 | (i,x)::rest =>
  match fs[i]? with
  | some f =>
   match P.info? f.type,cx P f.type x,xU P fs rest with
   | some fi,some a,some qs=>some ((f.offset,fi.size,a)::qs)
   | _,_,_=>none
  | none=>none
def copRow (P:Program) (e:TypeId):Nat->List (Nat × Operand)->Option (List AX)
 | _,[]=>some []
 | s,(i,x)::rest =>
  if i=s then
   match cx P e x,copRow P e (s+1) rest with
   | some a,some as_=>some (a::as_)
   | _,_=>none
  else none
def cxo (P:Program) (t:TypeId):Option Operand->Option (Option AX)
 | none=>some none
 | some x=>(match cx P t x with|some a=>some (some a)|none=>none)
def WG (P:Program) (f:FuncId):Bool :=
 match P.funcs[f]? with
 | some fn=>fn.body.isNone && fn.name == "internal/abi.NoEscape" && (Extern.findNext fn).isNone
 | none=>false
theorem noEsc_run {P:Program} {f:FuncId} (h:WG P f=true) (v:Value) (w:World):(callFunc f #[v]).run P w = .ok (.value v) w:=by
 unfold WG at h
 split at h
 ·rename_i fn hf
  simp only [Bool.and_eq_true,beq_iff_eq] at h
  obtain ⟨⟨h1,h2⟩,h3⟩:=h
  have he:Extern.find fn=some Extern.AbiNoEscape.same:=by
   unfold Extern.find
   rw [h2]
   rfl
  rw [run_callFunc_extern hf (by rw [h2];rfl) h1 (Option.isNone_iff_eq_none.1 h3) he]
  rfl
 ·cases h
def zj (P:Program) (f:FuncId):Bool :=
 match P.funcs[f]? with
 | some fn=>fn.body.isSome && fn.name != "runtime.NumGoroutine"
 | none=>false
def xl (P:Program) (e:TypeId):Option TypeInfo:=if (e == 4000000000)=true then none else P.info? e
theorem yu {P:Program} {e:TypeId} {i:TypeInfo} (h:xl P e=some i):e ≠ ZM/\P.info? e=some i:=by
 unfold xl at h
 split at h
 ·cases h
 ·rename_i hn;exact ⟨by simpa using hn,h⟩
def zvO (P:Program) (e:TypeId):Option AV:=match P.info? e with|some inf=>(match inf.zero with|some z=>xp P e z|none=>none)|none=>none
def zZ (P:Program) (hs:List FuncId) (o:Oper):Option AOp :=
 match o.op with
 | .move x|.assign x=>(match cx P o.type x with|some a=>some (.mv a)|none=>none)
 | .pick c a b=>(match cx P 0 c,cx P o.type a,cx P o.type b with|some c,some a,some b=>some (.pick c a b)|_,_,_=>none)
 | .alloc e=>(match xl P e with|some i=>(match i.zero with|some z=>(match xp P e z with|some a=>some (.new e i.size (.c a))|none=>none)|none=>none)|none=>none)
 | .box e x=>(match xl P e,cx P e x with|some i,some a=>some (.new e i.size a)|_,_=>none)
 | .build t parts =>
  (match P.underlying t,P.info? t with
   | some (.struct fs),some i =>
    (match i.zero with
     | some z=>(match xp P t z,xU P fs parts.toList,fs.toList.mapM (fun f=>(P.info? f.type).map fun i=>(f.offset,i.size)) with|some (.agg zc),some qs,some _=>some (.bld zc qs)|_,_,_=>none)
     | none=>none)
   | _,_=>none)
 | .buildSlice t len parts =>
  (match P.underlying t with
   | some (.slice e) =>
    (match xl P e,copRow P e 0 parts.toList with
     | some i,some as_=>(match i.zero with|some _=>if len=parts.size then some (.bsl e i.size as_) else none|none=>none)
     | _,_=>none)
   | _=>none)
 | .load t x=>(match P.info? t,P.underlying t,cx P 0 x with|some i,some d,some a=>some (.load (ZW d) i.size a)|_,_,_=>none)
 | .store t x v=>(match P.info? t,cx P 0 x,cx P t v with|some i,some a,some b=>some (.store i.size a b)|_,_,_=>none)
 | .nilCheck x=>(match cx P 0 x with|some a=>some (.nilc a)|none=>none)
 | .binOp op t x y u=>(match cx P t x,cx P u y with|some a,some b=>(match eqNeg op,eqOf P t with|some ng,some ks=>some (.eqs ng ks a b)|_,_=>some (.bin op t (match P.underlying t with|some (.pointer _)=>true|_=>false) x y a b))|_,_=>none)
 | .unOp op t x=>(match cx P t x with|some a=>some (.un op a)|none=>none)
 | .convert s d x =>
  (match P.underlying s,P.underlying d with
   | some (.slice e),some .string=>(match P.underlying e with|some (.int .u8)=>(match cx P s x with|some a=>some (.sob a)|none=>none)|_=>none)
   | some (.pointer t),some .unsafePointer=>(match P.info? t,cx P s x with|some j,some a=>if j.size ≠ 0 then some (.cup a) else none|_,_=>none)
   | some .unsafePointer,some (.pointer u)=>(match P.info? u,cx P s x with|some _,some a=>some (.cpu u a)|_,_=>none)
   | _,_=>(match cx P s x with|some a=>some (.cv s d a)|none=>none))
 | .makeSlice t l c =>
  (match P.underlying t with
   | some (.slice e) =>
    (match xl P e,cx P 0 l,cx P 0 c with
     | some i,some l,some c=>(match i.zero with|some z=>(match xp P e z with|some za=>if za.cells.length=i.size/\za.fine=true then some (.mks e i.size i.bytes za l c) else none|none=>none)|none=>none)
     | _,_,_=>none)
   | _=>none)
 | .slice t x lo hi none =>
  (match P.underlying t with
   | some .string=>(match cx P t x,cxo P 0 lo,cxo P 0 hi with|some a,some l,some h=>some (.sls t a l h)|_,_,_=>none)
   | some (.slice e)=>(match P.info? e,cx P t x,cxo P 0 lo,cxo P 0 hi with|some i,some a,some l,some h=>some (.slc i.size a l h)|_,_,_,_=>none)
   | some (.array n e)=>(match P.info? e,cx P 0 x,cxo P 0 lo,cxo P 0 hi with|some i,some a,some l,some h=>if i.size=1 then some (.sla n a l h) else none|_,_,_,_=>none)
   | _=>none)
 | .fieldAddr s x f =>
  (match P.underlying s with
   | some (.struct fs)=>(match fs[f]? with|some fd=>(match P.info? fd.type,cx P 0 x with|some fi,some a=>if fi.size=0 then none else some (.fad fd.offset a)|_,_=>none)|none=>none)
   | _=>none)
 | .field t x f =>
  (match P.underlying t with
   | some (.struct fs)=>(match fs[f]? with|some fd=>(match P.info? fd.type,P.underlying fd.type,cx P t x with|some fi,some d,some a=>some (.fld (ZW d) fd.offset fi.size a)|_,_,_=>none)|none=>none)
   | _=>none)
 | .indexAddr t x i =>
  (match P.underlying t with
   | some (.slice e)=>(match P.info? e,cx P t x,cx P 0 i with|some ei,some a,some b=>some (.iad ei.size a b)|_,_,_=>none)
   | some (.array n e)=>(match P.info? e,cx P 0 x,cx P 0 i with|some ei,some a,some b=>some (.iaa n ei.size a b)|_,_,_=>none)
   | _=>none)
 | .index t x i =>
  (match P.underlying t with
   | some .string=>(match cx P t x,cx P 0 i with|some a,some b=>some (.idx t a b)|_,_=>none)
   | some (.array n e)=>(match P.info? e,P.underlying e,cx P t x,cx P 0 i with|some ei,some d,some a,some b=>some (.ixa (ZW d) n ei.size a b)|_,_,_,_=>none)
   | _=>none)
 | .range t x=>(match P.underlying t with|some (.map _ _)=>(match cx P t x with|some a=>some (.rgm a)|none=>none)|_=>none)
 | .next x false=>(match cx P 0 x with|some a=>some (.nxm a)|none=>none)
 | .makeMap t none=>(match P.underlying t with|some (.map _ e)=>(match zvO P e with|some (.agg cs)=>some (.mkm true cs.length)|some _=>some (.mkm false 1)|none=>none)|_=>none)
 | .entry x=>(match cx P 0 x with|some a=>some (.enm a)|none=>none)
 | .lookup t x i c =>
  (match P.underlying t with
   | some (.map k e) =>
    (match Z8 P k,P.info? e,cx P t x,cx P k i with
     | some kd,some inf,some a,some b=>(match inf.zero with|some z=>(match xp P e z with|some za=>some (.lkp kd c za a b)|none=>none)|none=>none)
     | _,_,_,_=>none)
   | _=>none)
 | .mapUpdate t x i v =>
  (match P.underlying t with
   | some (.map k e)=>(match Z8 P k,cx P t x,cx P k i,cx P e v with|some kd,some a,some b,some c=>some (.mup kd a b c)|_,_,_,_=>none)
   | _=>none)
 | .makeInterface t x=>(match P.underlying t with|some (.pointer _)=>(match cx P 0 x with|some a=>some (.mki t a)|none=>none)|some (.func ..)=>(match cx P 0 x with|some a=>some (.mki t a)|none=>none)|_=>none)
 | .makeFunc (.method nm) first cap=>(match first.toList,cap.size with|[x],0=>(match cx P 0 x with|some a=>some (.mkm2 nm a)|none=>none)|_,_=>none)
 | .extract x i=>(match cx P 0 x with|some a=>some (.ext a i)|none=>none)
 | .makeFunc (.func f) first cap=>if first.size=0 then (match cxs P ((cap.toList.map fun _=>(0:TypeId)).zip cap.toList) with|some as_=>some (.mkf f as_)|none=>none) else (match first.toList,cap.size with|[x],0=>(match cx P 0 x with|some a=>some (.mkb f a)|none=>none)|_,_=>none)
 | .call c =>
  match c.callee with
  | .value (.tmp t)=>(match cxs P (c.argTypes.toList.zip c.args.toList) with|some as_=>if c.argTypes.size=c.args.size then some (.callv (.t t) as_) else none|none=>none)
  | .value (.func f) => if zj P f then (match cxs P (c.argTypes.toList.zip c.args.toList) with | some as_ => if c.argTypes.size = c.args.size then some (if hs.contains f then .callh f as_ else if hs.contains (f + 1000000) then .callm f as_ else .call f as_) else none | none => none)
   else if WG P f then (match c.argTypes.toList,c.args.toList with|[t],[x]=>(match cx P t x with|some a=>some (.mv a)|none=>none)|_,_=>none) else none
  | .builtin .append =>
   (match c.argTypes.toList,c.args.toList with
    | [t,u],[s,x] =>
     if t=u then
      (match P.underlying t with
       | some (.slice e)=>(match xl P e,cx P t s,cx P t x with|some i,some a,some b=>(match i.zero with|some z=>if z.cells.size=i.size/\0 < i.size then some (.app e i.size i.bytes a b) else none|none=>none)|_,_,_=>none)
       | _=>none)
     else
      (match P.underlying t,P.underlying u with
       | some (.slice e),some (.int _)=>(match xl P e,cx P t s,cx P u x with|some i,some a,some b=>(match i.zero with|some z=>(match xp P e z with|some za=>if za.cells.length=i.size/\za.fine=true/\0 < i.size then some (.apz e i.size i.bytes za a b) else none|none=>none)|none=>none)|_,_,_=>none)
       | some (.slice e),some .string=>(match xl P e,cx P t s,cx P u x with|some i,some a,some b=>(match i.zero with|some z=>if z.cells.size=1/\i.size=1 then some (.aps e i.bytes a b) else none|none=>none)|_,_,_=>none)
       | _,_=>none)
    | _,_=>none)
  | .builtin .copy =>
   (match c.argTypes.toList,c.args.toList with
    | [t,u],[d,x] =>
     if t=u then
      (match P.underlying t with
       | some (.slice e)=>(match P.info? e,cx P t d,cx P t x with|some i,some a,some b=>if 0 < i.size then some (.cpy i.size a b) else none|_,_,_=>none)
       | _=>none)
     else none
    | _,_=>none)
  | .builtin .unsafeSliceData =>
   (match c.argTypes.toList,c.args.toList with
    | [t],[x]=>(match cx P t x with|some a=>some (.usd a)|none=>none)
    | _,_=>none)
  | .builtin .unsafeString =>
   (match c.argTypes.toList,c.args.toList with
    | [t,u],[x,n] =>
     (match P.underlying t with
      | some (.pointer e)=>(match cx P t x,cx P u n with|some a,some b=>if P.cellsOf e=1 then some (.ust e a b) else none|_,_=>none)
      | _=>none)
    | _,_=>none)
  | .builtin .clear =>
   (match c.argTypes.toList,c.args.toList with
    | [t],[x] =>
     (match P.underlying t with
      | some (.slice e)=>(match xl P e,cx P t x with|some i,some a=>(match i.zero with|some z=>(match xp P e z with|some za=>if za.cells.length=i.size/\za.fine=true/\0 < i.size then some (.clr i.size za a) else none|none=>none)|none=>none)|_,_=>none)
      | _=>none)
    | _,_=>none)
  | .builtin .delete =>
   (match c.argTypes.toList,c.args.toList with
    | [t,_],[x,i] =>
     (match P.underlying t with
      | some (.map k _)=>(match Z8 P k,cx P t x,cx P k i with|some kd,some a,some b=>some (.mdl kd a b)|_,_,_=>none)
      | _=>none)
    | _,_=>none)
  | .builtin .len =>
   (match c.argTypes.toList,c.args.toList with
    | [t],[x]=>(match P.underlying t,cx P t x with|some .string,some a=>some (.lns a)|some (.slice _),some a=>some (.len a)|some (.map _ _),some a=>some (.lnm a)|_,_=>none)
    | _,_=>none)
  | .builtin b=>(match cxs P (c.argTypes.toList.zip c.args.toList) with|some as_=>if c.argTypes.size=c.args.size then some (.bi b c.argTypes o.type (c.args.map fun|.const _=>true|_=>false) as_) else none|none=>none)
  | .invoke rc nm=>(match cx P 0 rc,cxs P (c.argTypes.toList.zip c.args.toList) with|some x,some as_=>if c.argTypes.size=c.args.size then some (.calli nm x as_) else none|_,_=>none)
  | _=>none
 | _=>none
def ZZ (P:Program) (hs:List FuncId) (o:Oper):AOp:=(zZ P hs o).getD .bad
def Good (P:Program) (B:Bd) (w0:World) (F0 F:Fz) (O:Ow) (w:World) (s:Sem Next) (r:AV) (H':Hp):Prop :=
 ∃ nx w',s.run P w = .ok nx w'/\∃ x,(nx = .value x\/(nx = .skip/\x=undef))/\Out B w0 F0 F O r H' x w'
section
variable {P:Program} {B:Bd} {w0 w:World} {F0 F:Fz} {O:Ow} {H:Hp}
theorem ZH {s:Sem Value} {x:Value} {w':World} {r:AV} {H':Hp} (h:s.run P w = .ok x w') (ho:Out B w0 F0 F O r H' x w'):Good P B w0 F0 F O w (do pure (.value (<- s))) r H' :=
 ⟨.value x,w',by simp [h],x,.inl rfl,ho⟩
theorem ap1_ok {f:Value->Sem Value} (h:Own B w0 F0 F O H w) {x:Value} {a r:AV} (hx:VR F O x a) (he:ap1 (fun v=>zh P (f v)) a=some r):∃ y,(f x).run P w = .ok y w/\VR F O y r:=by
 unfold ap1 at he
 split at he
 ·rename_i v hc
  obtain rfl:=yV hx hc
  split at he
  ·rename_i u hu
   exact ⟨u,yM _ hu w,YT he⟩
  ·cases he
 ·cases he
theorem ap2_ok {f:Value->Value->Sem Value} (h:Own B w0 F0 F O H w) {x y:Value} {a b r:AV} (hx:VR F O x a) (hy:VR F O y b) (he:ap2 (fun v u=>zh P (f v u)) a b=some r):∃ z,(f x y).run P w = .ok z w/\VR F O z r:=by
 unfold ap2 at he
 split at he
 ·rename_i v u hc hd
  obtain rfl:=yV hx hc
  obtain rfl:=yV hy hd
  split at he
  ·rename_i u hu
   exact ⟨u,yM _ hu w,YT he⟩
  ·cases he
 ·cases he
theorem isPtr_ok (h:Own B w0 F0 F O H w) {x:Value} {a:AV} (hx:VR F O x a) (hp:zo H a=true):∃ ad,x = .pointer (some ad):=by
 cases a with
 | ad k es i off=>have:=hx.pvC rfl;cases this;exact ⟨_,rfl⟩
 | oa i g e off =>
  simp only [zo,Option.isSome_iff_exists] at hp
  obtain ⟨ob,hl⟩:=hp
  obtain ⟨d,_,_,_,rfl⟩:=h.oa hx hl
  exact ⟨_,rfl⟩
 | _=>cases hp
theorem xR {x:Value} {a:AV} (hx:VR F O x a) (hp:zb a=true):x = .pointer none:=by
 cases a with
 | v y =>
  have:=hx.pvC rfl
  cases this
  cases x with
  | pointer q=>cases q with
   | none=>rfl
   | some q=>cases hp
  | _=>cases hp
 | _=>cases hp
theorem eq_ptr {t e:TypeId} (ht:P.underlying t=some (.pointer e)) (ad:Addr):(Op.equal t (.pointer (some ad)) (.pointer none)).run P w = .ok false w/\(Op.equal t (.pointer none) (.pointer (some ad))).run P w = .ok false w:=by
 constructor
 ·rw [show Op.equal t (.pointer (some ad)) (.pointer none) = Op.equalIn (9999 + 1) t (.pointer (some ad)) (.pointer none) from rfl, Op.equalIn]
  simp only [Sem.run_bind,run_underlying ht,Result.andThen_ok]
  rfl
 ·rw [show Op.equal t (.pointer none) (.pointer (some ad)) = Op.equalIn (9999 + 1) t (.pointer none) (.pointer (some ad)) from rfl, Op.equalIn]
  simp only [Sem.run_bind,run_underlying ht,Result.andThen_ok]
  rfl
theorem bin_ptr {op : BinOp} {t e : TypeId} (ht : P.underlying t = some (.pointer e)) {xo yo : Operand} (ad : Addr) {x y : Value} (hxy : (x = .pointer (some ad) /\ y = .pointer none) \/ (y = .pointer (some ad) /\ x = .pointer none)) :
  (do eqGuard .eql t xo yo x y;binOp .eql t x y:Sem Value).run P w = .ok (.bool false) w/\(do eqGuard .neq t xo yo x y;binOp .neq t x y:Sem Value).run P w = .ok (.bool true) w:=by
 have h1:=(eq_ptr (P:=P) (w:=w) ht ad).1
 have h2:=(eq_ptr (P:=P) (w:=w) ht ad).2
 rcases hxy with ⟨rfl,rfl⟩|⟨rfl,rfl⟩
 ·constructor
  ·show (do eqGuard .eql t xo yo (.pointer (some ad)) (.pointer none); (do pure (.bool (<- Op.equal t (.pointer (some ad)) (.pointer none))) : Sem Value) : Sem Value).run P w = _
   generalize Op.equal t (.pointer (some ad)) (.pointer none)=q at *
   simp [eqGuard,h1]
  ·show (do eqGuard .neq t xo yo (.pointer (some ad)) (.pointer none); (do pure (.bool (!(<- Op.equal t (.pointer (some ad)) (.pointer none)))) : Sem Value) : Sem Value).run P w = _
   generalize Op.equal t (.pointer (some ad)) (.pointer none)=q at *
   simp [eqGuard,h1]
 ·constructor
  ·show (do eqGuard .eql t xo yo (.pointer none) (.pointer (some ad)); (do pure (.bool (<- Op.equal t (.pointer none) (.pointer (some ad)))) : Sem Value) : Sem Value).run P w = _
   generalize Op.equal t (.pointer none) (.pointer (some ad))=q at *
   simp [eqGuard,h2]
  ·show (do eqGuard .neq t xo yo (.pointer none) (.pointer (some ad)); (do pure (.bool (!(<- Op.equal t (.pointer none) (.pointer (some ad))))) : Sem Value) : Sem Value).run P w = _
   generalize Op.equal t (.pointer none) (.pointer (some ad))=q at *
   simp [eqGuard,h2]
theorem same_same {t e : TypeId} (ht : P.underlying t = some (.pointer e)) {i : TypeInfo} (hi : P.info? e = some i) (ad : Addr) {xo yo : Operand} :
  (do eqGuard .eql t xo yo (.pointer (some ad)) (.pointer (some ad));binOp .eql t (.pointer (some ad)) (.pointer (some ad)):Sem Value).run P w = .ok (.bool true) w/\(do eqGuard .neq t xo yo (.pointer (some ad)) (.pointer (some ad));binOp .neq t (.pointer (some ad)) (.pointer (some ad)):Sem Value).run P w = .ok (.bool false) w:=by
 have h1:(Op.equal t (.pointer (some ad)) (.pointer (some ad))).run P w = .ok true w:=by
  rw [show Op.equal t (.pointer (some ad)) (.pointer (some ad))=Op.equalIn (9999+1) t (.pointer (some ad)) (.pointer (some ad)) from rfl,Op.equalIn]
  simp only [Sem.run_bind,run_underlying ht,Result.andThen_ok]
  by_cases hz:i.size=0<;>simp [sizeOf,typeInfo,hi,hz,sameAddr]
 constructor
 ·show (do eqGuard .eql t xo yo (.pointer (some ad)) (.pointer (some ad)); (do pure (.bool (<- Op.equal t (.pointer (some ad)) (.pointer (some ad)))) : Sem Value) : Sem Value).run P w = _
  generalize Op.equal t (.pointer (some ad)) (.pointer (some ad))=q at *
  simp [eqGuard,h1]
 ·show (do eqGuard .neq t xo yo (.pointer (some ad)) (.pointer (some ad)); (do pure (.bool (!(<- Op.equal t (.pointer (some ad)) (.pointer (some ad))))) : Sem Value) : Sem Value).run P w = _
  generalize Op.equal t (.pointer (some ad)) (.pointer (some ad))=q at *
  simp [eqGuard,h1]
theorem nil_nil {t e : TypeId} (ht : P.underlying t = some (.pointer e)) {xo yo : Operand} :
  (do eqGuard .eql t xo yo (.pointer none) (.pointer none);binOp .eql t (.pointer none) (.pointer none):Sem Value).run P w = .ok (.bool true) w/\(do eqGuard .neq t xo yo (.pointer none) (.pointer none);binOp .neq t (.pointer none) (.pointer none):Sem Value).run P w = .ok (.bool false) w:=by
 have h1:(Op.equal t (.pointer none) (.pointer none)).run P w = .ok true w:=by
  rw [show Op.equal t (.pointer none) (.pointer none)=Op.equalIn (9999+1) t (.pointer none) (.pointer none) from rfl,Op.equalIn]
  simp only [Sem.run_bind,run_underlying ht,Result.andThen_ok]
  rfl
 constructor
 ·show (do eqGuard .eql t xo yo (.pointer none) (.pointer none); (do pure (.bool (<- Op.equal t (.pointer none) (.pointer none))) : Sem Value) : Sem Value).run P w = _
  generalize Op.equal t (.pointer none) (.pointer none)=q at *
  simp [eqGuard,h1]
 ·show (do eqGuard .neq t xo yo (.pointer none) (.pointer none); (do pure (.bool (!(<- Op.equal t (.pointer none) (.pointer none)))) : Sem Value) : Sem Value).run P w = _
  generalize Op.equal t (.pointer none) (.pointer none)=q at *
  simp [eqGuard,h1]
theorem isRow_ok (h:Own B w0 F0 F O H w) {x:Value} {a:AV} (hx:VR F O x a) (hp:YW H a=true):∃ ad n c,x = .slice (some ad) n c:=by
 cases a with
 | ol i g n =>
  simp only [YW,Option.isSome_iff_exists] at hp
  obtain ⟨ob,hl⟩:=hp
  obtain ⟨d,_,_,_,_,rfl⟩:=h.ol hx hl
  exact ⟨_,_,_,rfl⟩
 | sl k es =>
  have:=hx.pvC rfl
  cases this with
  | sl A n cap _ _ hn hc hm hk h1 b o hA f hf hv =>
   have:0 < es.length:=by
    cases es with
    | nil=>simp [YW] at hp
    | cons _ _=>simp
   exact ⟨_,_,_,by rw [hA (by omega)]⟩
 | em b k =>
  cases hx with
  | p h=>cases h
  | em A c b k hb hm =>
   simp only [YW] at hp
   rw [hp] at hb
   obtain ⟨ad,rfl⟩:=Option.isSome_iff_exists.1 hb
   exact ⟨ad,0,c,rfl⟩
 | _=>cases hp
theorem isNi_ok {x:Value} {a:AV} (hx:VR F O x a) (hp:isNi a=true):∃ c,x = .slice none 0 c:=by
 cases a with
 | nl k=>cases hx with
  | p h=>cases h
  | nl=>exact ⟨0,rfl⟩
 | em b k =>
  cases hx with
  | p h=>cases h
  | em A c b k hb hm =>
   simp only [isNi] at hp
   subst hp
   cases A with
   | none=>exact ⟨c,rfl⟩
   | some ad=>simp at hb
 | _=>cases hp
theorem XR {x:Value} {a:AV} (hx:VR F O x a) (hp:isNl a=true):x = .slice none 0 0:=by
 cases a with
 | nl k=>cases hx with
  | p h=>cases h
  | nl=>rfl
 | _=>cases hp
theorem eq_sl {t e:TypeId} (ht:P.underlying t=some (.slice e)) (ad:Addr) (n c:Nat):(Op.equal t (.slice (some ad) n c) (.slice none 0 0)).run P w = .ok false w/\(Op.equal t (.slice none 0 0) (.slice (some ad) n c)).run P w = .ok false w:=by
 constructor
 ·rw [show Op.equal t (.slice (some ad) n c) (.slice none 0 0) = Op.equalIn (9999 + 1) t (.slice (some ad) n c) (.slice none 0 0) from rfl, Op.equalIn]
  simp only [Sem.run_bind,run_underlying ht,Result.andThen_ok]
  rfl
 ·rw [show Op.equal t (.slice none 0 0) (.slice (some ad) n c) = Op.equalIn (9999 + 1) t (.slice none 0 0) (.slice (some ad) n c) from rfl, Op.equalIn]
  simp only [Sem.run_bind,run_underlying ht,Result.andThen_ok]
  rfl
theorem bin_sl {t e : TypeId} (ht : P.underlying t = some (.slice e)) {xo yo : Operand} (ad : Addr) (n c : Nat) {x y : Value} (hxy : (x = .slice (some ad) n c /\ y = .slice none 0 0) \/ (y = .slice (some ad) n c /\ x = .slice none 0 0)) :
  (do eqGuard .eql t xo yo x y;binOp .eql t x y:Sem Value).run P w = .ok (.bool false) w/\(do eqGuard .neq t xo yo x y;binOp .neq t x y:Sem Value).run P w = .ok (.bool true) w:=by
 have h1:=(eq_sl (P:=P) (w:=w) ht ad n c).1
 have h2:=(eq_sl (P:=P) (w:=w) ht ad n c).2
 rcases hxy with ⟨rfl,rfl⟩|⟨rfl,rfl⟩
 ·constructor
  ·show (do eqGuard .eql t xo yo (.slice (some ad) n c) (.slice none 0 0); (do pure (.bool (<- Op.equal t (.slice (some ad) n c) (.slice none 0 0))) : Sem Value) : Sem Value).run P w = _
   generalize Op.equal t (.slice (some ad) n c) (.slice none 0 0)=q at *
   simp [eqGuard,h1]
  ·show (do eqGuard .neq t xo yo (.slice (some ad) n c) (.slice none 0 0); (do pure (.bool (!(<- Op.equal t (.slice (some ad) n c) (.slice none 0 0)))) : Sem Value) : Sem Value).run P w = _
   generalize Op.equal t (.slice (some ad) n c) (.slice none 0 0)=q at *
   simp [eqGuard,h1]
 ·constructor
  ·show (do eqGuard .eql t xo yo (.slice none 0 0) (.slice (some ad) n c); (do pure (.bool (<- Op.equal t (.slice none 0 0) (.slice (some ad) n c))) : Sem Value) : Sem Value).run P w = _
   generalize Op.equal t (.slice none 0 0) (.slice (some ad) n c)=q at *
   simp [eqGuard,h2]
  ·show (do eqGuard .neq t xo yo (.slice none 0 0) (.slice (some ad) n c); (do pure (.bool (!(<- Op.equal t (.slice none 0 0) (.slice (some ad) n c)))) : Sem Value) : Sem Value).run P w = _
   generalize Op.equal t (.slice none 0 0) (.slice (some ad) n c)=q at *
   simp [eqGuard,h2]
theorem bin_sn {op : BinOp} {t e : TypeId} (ht : P.underlying t = some (.slice e)) {xo yo : Operand} (c d : Nat) :
  (do eqGuard .eql t xo yo (.slice none 0 c) (.slice none 0 d);binOp .eql t (.slice none 0 c) (.slice none 0 d):Sem Value).run P w = .ok (.bool true) w /\
  (do eqGuard .neq t xo yo (.slice none 0 c) (.slice none 0 d);binOp .neq t (.slice none 0 c) (.slice none 0 d):Sem Value).run P w = .ok (.bool false) w:=by
 have h1:(Op.equal t (.slice none 0 c) (.slice none 0 d)).run P w = .ok true w:=by
  rw [show Op.equal t (.slice none 0 c) (.slice none 0 d)=Op.equalIn (9999+1) t (.slice none 0 c) (.slice none 0 d) from rfl,Op.equalIn]
  simp only [Sem.run_bind,run_underlying ht,Result.andThen_ok]
  rfl
 constructor
 ·show (do eqGuard .eql t xo yo (.slice none 0 c) (.slice none 0 d); (do pure (.bool (<- Op.equal t (.slice none 0 c) (.slice none 0 d))) : Sem Value) : Sem Value).run P w = _
  generalize Op.equal t (.slice none 0 c) (.slice none 0 d)=q at *
  simp [eqGuard,h1]
 ·show (do eqGuard .neq t xo yo (.slice none 0 c) (.slice none 0 d); (do pure (.bool (!(<- Op.equal t (.slice none 0 c) (.slice none 0 d)))) : Sem Value) : Sem Value).run P w = _
  generalize Op.equal t (.slice none 0 c) (.slice none 0 d)=q at *
  simp [eqGuard,h1]
theorem isFn_ok (h:Own B w0 F0 F O H w) {x:Value} {a:AV} (hx:VR F O x a) (hp:isFn H a=true):∃ f p q,x = .func f p q:=by
 cases a with
 | fn f cs =>
  cases hx with
  | p h=>cases h with
   | fn f xs as_ hl h=>exact ⟨_,_,_,rfl⟩
  | fn f xs as_ hl h=>exact ⟨_,_,_,rfl⟩
 | bf f i g e off =>
  simp only [isFn,Option.isSome_iff_exists] at hp
  obtain ⟨ob,hl⟩:=hp
  obtain ⟨y,e,_⟩:=h.bf hx hl
  exact ⟨_,_,_,e⟩
 | _=>cases hp
theorem isNoFn_ok {x:Value} {a:AV} (hx:VR F O x a) (hp:isNoFn a=true):x = .nilFunc:=by
 cases a with
 | v y =>
  have:=hx.pvC rfl
  cases this
  cases x with
  | nilFunc=>rfl
  | _=>cases hp
 | _=>cases hp
theorem bin_fn {op : BinOp} {t : TypeId} {ps rs : Array TypeId} {vd : Bool} (ht : P.underlying t = some (.func ps rs vd)) {xo yo : Operand} (f : Fn) (p q : Array Value) {x y : Value} (hxy : (x = .func f p q /\ y = .nilFunc) \/ (y = .func f p q /\ x = .nilFunc)) :
  (do eqGuard .eql t xo yo x y;binOp .eql t x y:Sem Value).run P w = .ok (.bool false) w/\(do eqGuard .neq t xo yo x y;binOp .neq t x y:Sem Value).run P w = .ok (.bool true) w:=by
 have h1:(Op.equal t (.func f p q) .nilFunc).run P w = .ok false w:=by
  rw [show Op.equal t (.func f p q) .nilFunc=Op.equalIn (9999+1) t (.func f p q) .nilFunc from rfl,Op.equalIn]
  simp only [Sem.run_bind,run_underlying ht,Result.andThen_ok]
  rfl
 have h2:(Op.equal t .nilFunc (.func f p q)).run P w = .ok false w:=by
  rw [show Op.equal t .nilFunc (.func f p q)=Op.equalIn (9999+1) t .nilFunc (.func f p q) from rfl,Op.equalIn]
  simp only [Sem.run_bind,run_underlying ht,Result.andThen_ok]
  rfl
 rcases hxy with ⟨rfl,rfl⟩|⟨rfl,rfl⟩
 ·constructor
  ·show (do eqGuard .eql t xo yo (.func f p q) .nilFunc; (do pure (.bool (<- Op.equal t (.func f p q) .nilFunc)) : Sem Value) : Sem Value).run P w = _
   generalize Op.equal t (.func f p q) .nilFunc=r at *
   simp [eqGuard,h1]
  ·show (do eqGuard .neq t xo yo (.func f p q) .nilFunc; (do pure (.bool (!(<- Op.equal t (.func f p q) .nilFunc))) : Sem Value) : Sem Value).run P w = _
   generalize Op.equal t (.func f p q) .nilFunc=r at *
   simp [eqGuard,h1]
 ·constructor
  ·show (do eqGuard .eql t xo yo .nilFunc (.func f p q); (do pure (.bool (<- Op.equal t .nilFunc (.func f p q))) : Sem Value) : Sem Value).run P w = _
   generalize Op.equal t .nilFunc (.func f p q)=r at *
   simp [eqGuard,h2]
  ·show (do eqGuard .neq t xo yo .nilFunc (.func f p q); (do pure (.bool (!(<- Op.equal t .nilFunc (.func f p q)))) : Sem Value) : Sem Value).run P w = _
   generalize Op.equal t .nilFunc (.func f p q)=r at *
   simp [eqGuard,h2]
theorem isIf_ok (h:Own B w0 F0 F O H w) {x:Value} {a:AV} (hx:VR F O x a) (hp:WH H a=true):∃ t y,x = .iface t y:=by
 cases a with
 | io t i g e off =>
  simp only [WH,Option.isSome_iff_exists] at hp
  obtain ⟨ob,hl⟩:=hp
  obtain ⟨y,e,_⟩:=h.io hx hl
  exact ⟨_,_,e⟩
 | ib t f i g e off =>
  simp only [WH,Option.isSome_iff_exists] at hp
  obtain ⟨ob,hl⟩:=hp
  obtain ⟨y,e,_⟩:=h.ib hx hl
  exact ⟨_,_,e⟩
 | _=>cases hp
theorem isNoIf_ok {x:Value} {a:AV} (hx:VR F O x a) (hp:isNoIf a=true):x = .nilIface:=by
 cases a with
 | v y =>
  have:=hx.pvC rfl
  cases this
  cases x with
  | nilIface=>rfl
  | _=>cases hp
 | _=>cases hp
theorem bin_if {op : BinOp} {t : TypeId} {ms} (ht : P.underlying t = some (.interface ms)) {xo yo : Operand} (tt : TypeId) (v : Value) {x y : Value} (hxy : (x = .iface tt v /\ y = .nilIface) \/ (y = .iface tt v /\ x = .nilIface)) :
  (do eqGuard .eql t xo yo x y;binOp .eql t x y:Sem Value).run P w = .ok (.bool false) w/\(do eqGuard .neq t xo yo x y;binOp .neq t x y:Sem Value).run P w = .ok (.bool true) w:=by
 have h1:(Op.equal t (.iface tt v) .nilIface).run P w = .ok false w:=by
  rw [show Op.equal t (.iface tt v) .nilIface=Op.equalIn (9999+1) t (.iface tt v) .nilIface from rfl,Op.equalIn]
  simp only [Sem.run_bind,run_underlying ht,Result.andThen_ok]
  rfl
 have h2:(Op.equal t .nilIface (.iface tt v)).run P w = .ok false w:=by
  rw [show Op.equal t .nilIface (.iface tt v)=Op.equalIn (9999+1) t .nilIface (.iface tt v) from rfl,Op.equalIn]
  simp only [Sem.run_bind,run_underlying ht,Result.andThen_ok]
  rfl
 rcases hxy with ⟨rfl,rfl⟩|⟨rfl,rfl⟩
 ·constructor
  ·show (do eqGuard .eql t xo yo (.iface tt v) .nilIface; (do pure (.bool (<- Op.equal t (.iface tt v) .nilIface)) : Sem Value) : Sem Value).run P w = _
   generalize Op.equal t (.iface tt v) .nilIface=r at *
   simp [eqGuard,h1]
  ·show (do eqGuard .neq t xo yo (.iface tt v) .nilIface; (do pure (.bool (!(<- Op.equal t (.iface tt v) .nilIface))) : Sem Value) : Sem Value).run P w = _
   generalize Op.equal t (.iface tt v) .nilIface=r at *
   simp [eqGuard,h1]
 ·constructor
  ·show (do eqGuard .eql t xo yo .nilIface (.iface tt v); (do pure (.bool (<- Op.equal t .nilIface (.iface tt v))) : Sem Value) : Sem Value).run P w = _
   generalize Op.equal t .nilIface (.iface tt v)=r at *
   simp [eqGuard,h2]
  ·show (do eqGuard .neq t xo yo .nilIface (.iface tt v); (do pure (.bool (!(<- Op.equal t .nilIface (.iface tt v)))) : Sem Value) : Sem Value).run P w = _
   generalize Op.equal t .nilIface (.iface tt v)=r at *
   simp [eqGuard,h2]
theorem bin_ok (h:Own B w0 F0 F O H w) {op:BinOp} {t:TypeId} {pt:Bool} (hpt:pt=true->∃ e,P.underlying t=some (.pointer e)) {xo yo:Operand} {x y:Value} {a b r:AV} (hx:VR F O x a) (hy:VR F O y b) (he:zY P H op t pt xo yo a b=some r):∃ z,(do eqGuard op t xo yo x y;binOp op t x y:Sem Value).run P w = .ok z w/\VR F O z r:=by
 unfold zY at he
 split at he
 ·rename_i hp
  obtain ⟨e',ht⟩:=hpt hp
  have hxy:((zo H a && zb b) || (zo H b && zb a))=true->∃ ad,(x = .pointer (some ad)/\y = .pointer none)\/(y = .pointer (some ad)/\x = .pointer none):=fun hq=>by
   simp only [Bool.or_eq_true,Bool.and_eq_true] at hq
   rcases hq with ⟨h1,h2⟩|⟨h1,h2⟩
   ·obtain ⟨ad, e⟩ := isPtr_ok h hx h1
    exact ⟨ad,.inl ⟨e,xR hy h2⟩⟩
   ·obtain ⟨ad, e⟩ := isPtr_ok h hy h1
    exact ⟨ad,.inr ⟨e,xR hx h2⟩⟩
  have hsm:xr P t H a b=true->∃ ad i,x = .pointer (some ad)/\y = .pointer (some ad)/\P.info? e'=some i:=fun hq=>by
   unfold xr at hq
   rw [ht] at hq
   simp only [Bool.and_eq_true] at hq
   obtain ⟨⟨⟨h1,h2⟩,h3⟩,h4⟩:=hq
   obtain ⟨i,hi⟩:=Option.isSome_iff_exists.1 h3
   cases a with
   | oa i1 g1 e1 o1 =>
    cases b with
    | oa i2 g2 e2 o2 =>
     simp only [Bool.and_eq_true,beq_iff_eq] at h4
     obtain ⟨⟨⟨rfl,rfl⟩,rfl⟩,rfl⟩:=h4
     simp only [zo,Option.isSome_iff_exists] at h1
     obtain ⟨ob,hl⟩:=h1
     obtain ⟨d,hd,_,_,rfl⟩:=h.oa hx hl
     obtain ⟨d',hd',_,_,rfl⟩:=h.oa hy hl
     rw [hd] at hd'
     cases hd'
     exact ⟨_,i,rfl,rfl,hi⟩
    | _=>cases h4
   | _=>cases h4
  have hnn:(zb a && zb b)=true->x = .pointer none/\y = .pointer none:=fun hq=>by
   simp only [Bool.and_eq_true] at hq
   exact ⟨xR hx hq.1,xR hy hq.2⟩
  split at he
  ·split at he
   ·rename_i hq
    cases he
    obtain ⟨rfl,rfl⟩:=hnn hq
    exact ⟨_,(nil_nil ht).1,.p (.v _ rfl)⟩
   ·split at he
    ·rename_i hq
     cases he
     obtain ⟨ad,hh⟩:=hxy hq
     exact ⟨_,(bin_ptr (op:=.eql) ht ad hh).1,.p (.v _ rfl)⟩
    ·split at he
     ·rename_i hq
      cases he
      obtain ⟨ad,i,rfl,rfl,hi⟩:=hsm hq
      exact ⟨_,(same_same ht hi ad).1,.p (.v _ rfl)⟩
     ·cases he
  ·split at he
   ·rename_i hq
    cases he
    obtain ⟨rfl,rfl⟩:=hnn hq
    exact ⟨_,(nil_nil ht).2,.p (.v _ rfl)⟩
   ·split at he
    ·rename_i hq
     cases he
     obtain ⟨ad,hh⟩:=hxy hq
     exact ⟨_,(bin_ptr (op:=.neq) ht ad hh).2,.p (.v _ rfl)⟩
    ·split at he
     ·rename_i hq
      cases he
      obtain ⟨ad,i,rfl,rfl,hi⟩:=hsm hq
      exact ⟨_,(same_same ht hi ad).2,.p (.v _ rfl)⟩
     ·cases he
  ·cases he
 ·split at he
  ·rename_i v u hc hd
   obtain rfl:=yV hx hc
   obtain rfl:=yV hy hd
   split at he
   ·rename_i z hz
    exact ⟨z,yM _ hz w,YT he⟩
   ·cases he
  ·split at he
   ·rename_i hs
    have ht:∃ e,P.underlying t=some (.slice e):=by
     unfold wm at hs
     split at hs
     ·exact ⟨_,by assumption⟩
     ·cases hs
    obtain ⟨e,ht⟩:=ht
    unfold wh at he
    split at he
    ·rename_i hq
     have hxy:∃ ad n c,(x = .slice (some ad) n c/\y = .slice none 0 0)\/(y = .slice (some ad) n c/\x = .slice none 0 0):=by
      simp only [Bool.or_eq_true,Bool.and_eq_true] at hq
      rcases hq with ⟨h1,h2⟩|⟨h1,h2⟩
      ·obtain ⟨ad, n, c, e⟩ := isRow_ok h hx h1
       exact ⟨ad,n,c,.inl ⟨e,XR hy h2⟩⟩
      ·obtain ⟨ad, n, c, e⟩ := isRow_ok h hy h1
       exact ⟨ad,n,c,.inr ⟨e,XR hx h2⟩⟩
     obtain ⟨ad,n,c,hxy⟩:=hxy
     split at he
     ·cases he;exact ⟨_,(bin_sl ht ad n c hxy).1,.p (.v _ rfl)⟩
     ·cases he;exact ⟨_,(bin_sl ht ad n c hxy).2,.p (.v _ rfl)⟩
     ·cases he
    ·split at he
     ·rename_i hq
      have hxy:∃ c d,x = .slice none 0 c/\y = .slice none 0 d:=by
       simp only [Bool.or_eq_true,Bool.and_eq_true] at hq
       rcases hq with ⟨h1,h2⟩|⟨h1,h2⟩
       ·obtain ⟨c, e⟩ := isNi_ok hx h1
        exact ⟨c,_,e,XR hy h2⟩
       ·obtain ⟨c, e⟩ := isNi_ok hy h1
        exact ⟨_,c,XR hx h2,e⟩
      obtain ⟨c,d,rfl,rfl⟩:=hxy
      split at he
      ·cases he;exact ⟨_,(bin_sn (op:=.eql) ht c d).1,.p (.v _ rfl)⟩
      ·cases he;exact ⟨_,(bin_sn (op:=.neq) ht c d).2,.p (.v _ rfl)⟩
      ·cases he
     ·cases he
   ·split at he
    ·rename_i hs
     have ht:∃ ps rs vd,P.underlying t=some (.func ps rs vd):=by
      unfold isFuncT at hs
      split at hs
      ·exact ⟨_,_,_,by assumption⟩
      ·cases hs
     obtain ⟨ps,rs,vd,ht⟩:=ht
     unfold fnCmp at he
     split at he
     ·rename_i hq
      have hxy:∃ f p q,(x = .func f p q/\y = .nilFunc)\/(y = .func f p q/\x = .nilFunc):=by
       simp only [Bool.or_eq_true,Bool.and_eq_true] at hq
       rcases hq with ⟨h1,h2⟩|⟨h1,h2⟩
       ·obtain ⟨f, p, q, e⟩ := isFn_ok h hx h1
        exact ⟨f,p,q,.inl ⟨e,isNoFn_ok hy h2⟩⟩
       ·obtain ⟨f, p, q, e⟩ := isFn_ok h hy h1
        exact ⟨f,p,q,.inr ⟨e,isNoFn_ok hx h2⟩⟩
      obtain ⟨f,p,q,hxy⟩:=hxy
      split at he
      ·cases he;exact ⟨_,(bin_fn (op:=.eql) ht f p q hxy).1,.p (.v _ rfl)⟩
      ·cases he;exact ⟨_,(bin_fn (op:=.neq) ht f p q hxy).2,.p (.v _ rfl)⟩
      ·cases he
     ·cases he
    ·split at he
     ·rename_i hs
      have ht:∃ ms,P.underlying t=some (.interface ms):=by
       unfold isIfT at hs
       split at hs
       ·exact ⟨_,by assumption⟩
       ·cases hs
      obtain ⟨ms,ht⟩:=ht
      unfold ifCmp at he
      split at he
      ·rename_i hq
       have hxy:∃ tt v,(x = .iface tt v/\y = .nilIface)\/(y = .iface tt v/\x = .nilIface):=by
        simp only [Bool.or_eq_true,Bool.and_eq_true] at hq
        rcases hq with ⟨h1,h2⟩|⟨h1,h2⟩
        ·obtain ⟨tt, v, e⟩ := isIf_ok h hx h1
         exact ⟨tt,v,.inl ⟨e,isNoIf_ok hy h2⟩⟩
        ·obtain ⟨tt, v, e⟩ := isIf_ok h hy h1
         exact ⟨tt,v,.inr ⟨e,isNoIf_ok hx h2⟩⟩
       obtain ⟨tt,v,hxy⟩:=hxy
       split at he
       ·cases he;exact ⟨_,(bin_if (op:=.eql) ht tt v hxy).1,.p (.v _ rfl)⟩
       ·cases he;exact ⟨_,(bin_if (op:=.neq) ht tt v hxy).2,.p (.v _ rfl)⟩
       ·cases he
      ·cases he
     ·cases he
theorem XP {t : TypeId} {inf : TypeInfo} {d : TypeDesc} (hi : P.info? t = some inf) (hd : P.underlying t = some d) {x : Value} {a r : AV} {off : Nat} (hx : VR F O x a) (hr : zq (ZW d) off inf.size a = some r) :
  ∃ cs,x = .agg cs/\∃ y,(part t cs off).run P w = .ok y w/\VR F O y r:=by
 cases a with
 | agg as_ =>
  obtain ⟨xs,rfl,hl,h1,hv⟩:∃ xs:List Value,x = .agg xs.toArray/\xs.length=as_.length/\(∀ a ∈ as_,AV.one a=true)/\∀ (i:Nat) (c:Value) (a:AV),xs[i]? = some c->as_[i]? = some a->VR F O c a:=by
   cases hx with
   | p h=>cases h with
    | agg xs as_ hl h1 h=>exact ⟨xs,rfl,hl,h1,fun i c a hc ha=>.p (h i c a hc ha)⟩
   | agg xs as_ hl h1 h=>exact ⟨xs,rfl,hl,h1,h⟩
  refine ⟨_,rfl,?_⟩
  simp only [zq] at hr
  simp only [part,Sem.run_bind,run_isAgg hd,Result.andThen_ok]
  cases hag:ZW d
  ·simp only [hag,Bool.false_eq_true,if_false] at hr ⊢
   have hlt:off < xs.length:=by rw [hl];exact (List.getElem?_eq_some_iff.1 hr).1
   refine ⟨xs[off],?_,hv off _ r (List.getElem?_eq_getElem hlt) hr⟩
   simp [hlt]
  ·simp only [hag,if_true] at hr ⊢
   split at hr
   ·rename_i hle
    cases hr
    simp only [Sem.run_bind,ZJ hi,Result.andThen_ok]
    refine ⟨.agg ((xs.drop off).take inf.size).toArray,?_,.agg _ _ (by simp;omega) (fun a ha=>h1 a (List.mem_of_mem_drop (List.mem_of_mem_take ha))) fun i c a hc ha=>?_⟩
    ·simp only [Sem.run_pure]
     congr 2
     apply Array.ext'
     simp [List.take_drop]
    ·rw [List.getElem?_take] at hc ha
     split at hc
     ·rename_i hlt
      rw [if_pos hlt,List.getElem?_drop] at ha
      rw [List.getElem?_drop] at hc
      exact hv _ c a hc ha
     ·cases hc
   ·cases hr
 | _=>cases hr
theorem move_ok (h:Own B w0 F0 F O H w) {x:Value} {a r:AV} {off:Nat} (hx:VR F O x a) (hr:zt off H a=some r):∃ ad:Addr,x = .pointer (some ad)/\ad.spot=none/\VR F O (.pointer (some (ad.add off))) r:=by
 cases a with
 | ad k es i o =>
  cases hr
  have:=hx.pvC rfl
  cases this with
  | ad b o' _ _ _ _ hk h1 f hf hc =>
   refine ⟨_,rfl,rfl,.p ?_⟩
   rw [ZD,Nat.add_assoc]
   exact .ad b o' k es i (o+off) hk h1 f hf hc
 | oa i g e o =>
  simp only [zt] at hr
  split at hr
  ·rename_i ob hl
   cases hr
   obtain ⟨d,hd,hio,r,rfl⟩:=h.oa hx hl
   refine ⟨_,rfl,rfl,?_⟩
   rw [ZD]
   have hg:=(Zz hl).2
   exact .oa _ i g e (o+off) d hd (by rw [r.hg];omega) rfl fun _=>by rw [r.hk,Nat.add_assoc]
  ·cases hr
 | _=>cases hr
theorem mki_ok (h:Own B w0 F0 F O H w) {x:Value} {a r:AV} {t:Nat} (hx:VR F O x a) (hr:mkiA t a=some r):VR F O (.iface t x) r:=by
 cases a with
 | oa i g e o =>
  cases hr
  cases hx with
  | p h=>cases h
  | oa _ _ _ _ _ d hd hg h1 hh=>exact .io _ t i g e o d hd hg rfl fun e'=>by rw [hh e']
 | bf f i g e o =>
  cases hr
  cases hx with
  | p h=>cases h
  | bf _ _ _ _ _ _ d hd hg h1 hh=>exact .ib _ t f i g e o d hd hg rfl fun e'=>by rw [hh e']
 | _=>cases hr
theorem nil_ok (h:Own B w0 F0 F O H w) {x:Value} {a r:AV} (hx:VR F O x a) (hr:Zr H a=some r):r=a/\∃ ad,x = .pointer (some ad):=by
 cases a with
 | ad k es i o=>cases hr;have:=hx.pvC rfl;cases this;exact ⟨rfl,_,rfl⟩
 | oa i g e o =>
  simp only [Zr] at hr
  split at hr
  ·rename_i ob hl
   cases hr
   obtain ⟨d,hd,hio,r,rfl⟩:=h.oa hx hl
   exact ⟨rfl,_,rfl⟩
  ·cases hr
 | _=>cases hr
theorem mk2_ok {x:Value} {a r:AV} {nm:String} (hx:VR F O x a) (hr:mk2A nm a=some r):VR F O (.func (.method nm) #[x] #[]) r:=by
 cases a with
 | io t i g e off =>
  cases hr
  cases hx with
  | p h=>cases h
  | io _ _ _ _ _ _ d hd hg h1 hh=>exact .mf _ nm t i g e off d hd hg rfl fun e'=>by rw [hh e']
 | _=>cases hr
theorem mkb_ok {x:Value} {a r:AV} {f:FuncId} (hx:VR F O x a) (hr:mkbA f a=some r):VR F O (.func (.func f) #[x] #[]) r:=by
 cases a with
 | oa i g e off =>
  cases hr
  cases hx with
  | p h=>cases h
  | oa _ _ _ _ _ d hd hg h1 hh=>exact .bf _ f i g e off d hd hg rfl fun e'=>by rw [hh e']
 | _=>cases hr
theorem run_nah {t:Nat} {nm:String} (h:nahF P t nm=true) (v:Value) (w:World):(nilAhead (P.types.size+Made.depth) t v nm).run P w = .ok (some false) w:=by
 unfold nahF at h
 split at h
 ·rename_i inf hi
  split at h
  ·rename_i m hm
   rw [Bool.and_eq_true,decide_eq_true_eq] at h
   obtain ⟨hp,hf⟩:=h
   split at hf
   ·rename_i f hf'
    have hd0:0 < Made.depth:=by decide
    have hpos:∃ k,P.types.size+Made.depth=k+1:=⟨P.types.size+Made.depth - 1,by omega⟩
    obtain ⟨k,hk⟩:=hpos
    rw [hk]
    simp [nilAhead,typeInfo,program,Sem.run,Sem.run_bind,hi,hm,hp,followBlind,hf']
   ·cases hf
  ·cases h
 ·cases h
theorem nilB_ok (h:Own B w0 F0 F O H w) {x:Value} {a r:AV} (hx:VR F O x a) (hr:wI P H a=some r):r=a/\((∃ ad,x = .pointer (some ad))\/∃ nm t v,x = .func (.method nm) #[.iface t v] #[]/\nahF P t nm=true):=by
 cases a with
 | mf nm t i g e off =>
  simp only [wI] at hr
  split at hr
  ·rename_i ob hl
   split at hr
   ·rename_i hn
    cases hr
    obtain ⟨hi,hg⟩:=Zz hl
    obtain ⟨d,hd,r⟩:=h.get hi
    cases hx with
    | p h=>cases h
    | mf _ _ _ _ _ _ _ d' hd' hg' h1 hh =>
     rw [hd] at hd'
     cases hd'
     exact ⟨rfl,.inr ⟨nm,t,_,hh (by rw [r.hg,hg]),hn⟩⟩
   ·cases hr
  ·cases hr
 | _ =>
  obtain ⟨e,ad,hx'⟩:=nil_ok h hx hr
  exact ⟨e,.inl ⟨ad,hx'⟩⟩
theorem xu {x:Value} {a:AV} {n:Int} (hx:VR F O x a) (hn:zR a=some n):∃ k,x = .int k n:=by
 cases a with
 | v y =>
  have:=hx.pvC rfl
  cases this
  cases x<;>first|(cases hn;exact ⟨_,rfl⟩)|cases hn
 | _=>cases hn
theorem elem_ok (h : Own B w0 F0 F O H w) {x : Value} {a r : AV} {k : Nat} {ix : Int} (hx : VR F O x a) (hr : zu k H a ix = some r) :
  ∃ ad n c,x = .slice (some ad) n c/\0<=ix/\ix < n/\VR F O (.pointer (some (ad.add (ix.toNat * k)))) r:=by
 cases a with
 | sl k' es =>
  simp only [zu] at hr
  split at hr
  ·rename_i hc
   obtain ⟨rfl,h0,hlt⟩:=hc
   cases hr
   have:=hx.pvC rfl
   cases this with
   | sl A n cap _ _ hn hc hm hk h1 b o hA f hf hv =>
    subst hn
    refine ⟨⟨b,o,none⟩,es.length,cap,by rw [hA (by omega)],h0,by omega,.p ?_⟩
    rw [ZD]
    exact .ad b o k' es ix.toNat 0 hk h1 f hf hv
  ·cases hr
 | ol i g n =>
  simp only [zu] at hr
  split at hr
  ·rename_i ob hl
   split at hr
   ·rename_i hc
    obtain ⟨rfl,h0,hlt⟩:=hc
    cases hr
    obtain ⟨d,hd,hio,r,hnC,rfl⟩:=h.ol hx hl
    refine ⟨_,n,d.C,rfl,h0,by omega,?_⟩
    rw [ZD,Nat.zero_add]
    have hg:=(Zz hl).2
    exact .oa _ i g ix.toNat 0 d hd (by rw [r.hg];omega) rfl fun _=>by rw [r.hk,Nat.add_zero]
   ·cases hr
  ·cases hr
 | _=>cases hr
theorem len_ok (h:Own B w0 F0 F O H w) {x:Value} {a:AV} {n:Nat} (hx:VR F O x a) (hr:Zp H a=some n):∃ A c,x = .slice A n c:=by
 cases a with
 | nl k=>cases hr;cases hx with
  | p h=>cases h
  | nl=>exact ⟨_,_,rfl⟩
 | em b k=>cases hr;cases hx with
  | p h=>cases h
  | em A c=>exact ⟨_,_,rfl⟩
 | sl k es =>
  cases hr
  have:=hx.pvC rfl
  cases this with
  | sl A n cap _ _ hn hc hm hk h1 b o hA f hf hv=>subst hn;exact ⟨A,cap,rfl⟩
 | ol i g m =>
  cases hr
  cases hx with
  | p h=>cases h
  | ol _ _ _ _ d hd hg h1 hh=>exact h1
 | oc i g m c =>
  cases hr
  cases hx with
  | p h=>cases h
  | oc _ _ _ _ _ d hd hg h1 hh=>exact h1
 | _=>cases hr
theorem cut_ok {x : Value} {k : Nat} {es : List AV} {lo hi : Int} {r : AV} (hx : PV F x (.sl k es)) (hr : cut k es lo hi = some r) :
  ∃ A n c,x = .slice A n c/\0<=lo/\lo<=hi/\hi<=n/\n<=c/\n=es.length/\PV F (.slice (if c=lo.toNat then A else A.map (·.add (lo.toNat * k))) (hi.toNat - lo.toNat) (c - lo.toNat)) r:=by
 unfold cut at hr
 split at hr
 ·rename_i hc
  obtain ⟨h0,hlh,hle⟩:=hc
  cases hr
  cases hx with
  | sl A n cap _ _ hn hcap hm hk h1 b o hA f hf hv =>
   subst hn
   refine ⟨A,es.length,cap,rfl,h0,hlh,by omega,hcap,rfl,.sl _ _ _ k _ (by simp;omega) (by omega) (by omega) (fun e he=>hk e (List.mem_of_mem_take (List.mem_of_mem_drop he))) (fun e he=>h1 e (List.mem_of_mem_take (List.mem_of_mem_drop he))) b (o+lo.toNat * k) (fun hpos=>?_)
    (fun i j=>f (lo.toNat+i) j) (fun i j hi hj=>?_) (fun i j e a he ha=>?_)⟩
   ·rw [if_neg (by omega),hA (by omega),Option.map_some,ZD]
   ·have := hf (lo.toNat + i) j (by omega) hj
    rw [<- this]
    congr 1
    rw [Nat.add_mul]
    omega
   ·rw [List.getElem?_drop, List.getElem?_take] at he
    split at he
    ·exact hv _ j e a he ha
    ·cases he
 ·cases hr
end
theorem eqCs_split:∀ {k1 k2:List Kd} {as_ bs:List AV} {r:Bool},Z9 (k1++k2) as_ bs=some r->∃ r1 r2,Z9 k1 (as_.take k1.length) (bs.take k1.length)=some r1/\Z9 k2 (as_.drop k1.length) (bs.drop k1.length)=some r2/\r=(r1 && r2)/\k1.length<=as_.length/\k1.length<=bs.length
 | [],k2,as_,bs,r,h=>⟨true,r,rfl,by simpa using h,by simp,Nat.zero_le _,Nat.zero_le _⟩
 | k::k1,k2,[],bs,r,h=>by simp [Z9] at h
 | k::k1,k2,a::as_,[],r,h=>by simp [Z9] at h
 | k::k1,k2,a::as_,b::bs,r,h=>by
  simp only [List.cons_append,Z9] at h
  split at h
  ·rename_i x y hx hy
   cases h
   obtain ⟨r1,r2,e1,e2,rfl,l1,l2⟩:=eqCs_split hy
   refine ⟨x && r1,r2,?_,by simpa using e2,by rw [Bool.and_assoc],by simpa using l1,by simpa using l2⟩
   simp only [List.length_cons,List.take_succ_cons,Z9,hx,e1]
  ·cases h
section
variable {P:Program} {F:Fz} {O:Ow} {w:World}
theorem vr_v {x y:Value} (h:VR F O x (.v y)):x=y:=yV h rfl
theorem kind_agg {t:TypeId} {k:Kd} {d:TypeDesc} (h:Z8 P t=some k) (hd:P.underlying t=some d):ZW d=false:=by
 unfold Z8 at h
 rw [hd] at h
 cases d<;>first|rfl|cases h
theorem y9 (a b:ByteArray):(a.toList == b.toList)=decide (a=b):=by
 rw [ByteArray.toList_eq,ByteArray.toList_eq]
 obtain ⟨⟨x⟩⟩:=a
 obtain ⟨⟨y⟩⟩:=b
 by_cases h:x=y<;>simp [h]
theorem eqC_ok {t:TypeId} {k:Kd} (hk:Z8 P t=some k) {x y:Value} {a b:AV} {r:Bool} (hx:VR F O x a) (hy:VR F O y b) (hr:eqC k a b=some r) (n:Nat):(Op.equalIn (n+1) t x y).run P w = .ok r w:=by
 unfold eqC at hr
 split at hr
 ·rename_i k1 a k2 b
  split at hr
  ·rename_i hkk
   subst hkk
   cases hr
   cases vr_v hx
   cases vr_v hy
   unfold Z8 at hk
   split at hk<;>try (cases hk;done)
   ·rename_i hu
    rw [run_equalIn_int w n t k1 _ a b hu]
    rfl
  ·cases hr
 ·cases hr
  rename_i a b
  cases vr_v hx
  cases vr_v hy
  unfold Z8 at hk
  split at hk<;>try (cases hk;done)
  ·rename_i hu
   rw [run_equalIn_string w n t a b hu,y9]
 ·cases hr
  rename_i a b
  cases vr_v hx
  cases vr_v hy
  unfold Z8 at hk
  split at hk<;>try (cases hk;done)
  ·rename_i hu
   rw [run_equalIn_bool' w n t a b hu]
   done
 ·cases hr
theorem eqIn_ok : ∀ (d : Nat) (t : TypeId) (ks : List Kd), wV P d t = some ks -> ∀ (n : Nat) (x y : Value) (a b : AV) (r : Bool), d <= n -> VR F O x a -> VR F O y b ->
  ((∃ dd,P.underlying t=some dd/\ZW dd=true/\(∃ as_,a = .agg as_)/\(∃ bs,b = .agg bs))\/(∃ dd,P.underlying t=some dd/\ZW dd=false/\a.one=true/\b.one=true))->Z9 ks a.cells b.cells=some r->(Op.equalIn n t x y).run P w = .ok r w
 | 0,t,ks,h,_,_,_,_,_,_,_,_,_,_,_=>by cases h
 | d+1,t,ks,h,0,_,_,_,_,_,hn,_,_,_,_=>by omega
 | d+1,t,ks,h,n+1,x,y,a,b,r,hn,hx,hy,hab,hr=>by
  simp only [wV] at h
  split at h
  ·rename_i k hk
   cases h
   rcases hab with ⟨dd,h1,h2,_⟩|⟨dd,h1,h2,h3,h4⟩
   ·rw [kind_agg hk h1] at h2;cases h2
   ·have e1 : a.cells = [a] := by cases a <;> first | rfl | cases h3
    have e2:b.cells=[b]:=by cases b<;>first|rfl|cases h4
    rw [e1,e2] at hr
    simp only [Z9] at hr
    split at hr
    ·rename_i x1 y1 hc hq
     cases hq
     cases hr
     rw [Bool.and_true]
     exact eqC_ok hk hx hy hc n
    ·cases hr
  ·split at h
   ·rename_i fs hfs
    split at h
    ·rename_i hst
     rcases hab with ⟨dd,h1,h2,⟨as_,rfl⟩,⟨bs,rfl⟩⟩|⟨dd,h1,h2,_⟩
     ·obtain ⟨xs, rfl⟩ : ∃ xs, x = .agg xs := by
       cases hx with
       | p h=>cases h with
        | agg cs as_ hl h1 h=>exact ⟨_,rfl⟩
       | agg cs as_ hl h1 h=>exact ⟨_,rfl⟩
      obtain ⟨ys,rfl⟩:∃ ys,y = .agg ys:=by
       cases hy with
       | p h=>cases h with
        | agg cs as_ hl h1 h=>exact ⟨_,rfl⟩
       | agg cs as_ hl h1 h=>exact ⟨_,rfl⟩
      have hfo:P.fieldsOf t=fs:=by unfold Program.fieldsOf;rw [hfs]
      rw [run_equalIn_struct w n t xs ys (by rw [hfo];exact hfs) hst,hfo]
      have key:∀ (fl:List Field) (off:Nat) (ks:List Kd) (r:Bool),flatFs P (wV P d) off fl=some ks->Z9 ks (as_.drop off) (bs.drop off)=some r->(Op.eqFields n xs ys fl).run P w = .ok r w:=by
       intro fl
       induction fl with
       | nil =>
        intro off ks r hk hr
        cases hk
        unfold Z9 at hr
        split at hr
        ·cases hr;rfl
        ·rename_i e _ _;cases e
        ·cases hr
       | cons f fl ih =>
        intro off ks r hk hr
        simp only [flatFs] at hk
        split at hk
        ·rename_i hc
         obtain ⟨hnm,hoff⟩:=hc
         split at hk
         ·rename_i ks1 inf df hg hi hdf
          split at hk
          ·rename_i hsz
           split at hk
           ·rename_i ks2 hk2
            cases hk
            obtain ⟨r1,r2,e1,e2,rfl,l1,l2⟩:=eqCs_split hr
            have pt:∀ (zs:Array Value) (cs:List AV),VR F O (.agg zs) (.agg cs)->ks1.length<=(cs.drop off).length->∃ p pa,(part f.type zs f.offset).run P w = .ok p w/\VR F O p pa/\pa.cells=(cs.drop off).take ks1.length/\((ZW df=true/\∃ q,pa = .agg q)\/(ZW df=false/\pa.one=true)):=by
             intro zs cs hz hlen
             have hone:∀ a ∈ cs,AV.one a=true:=by
              cases hz with
              | p h=>cases h with
               | agg _ _ hl h1 h=>exact h1
              | agg _ _ hl h1 h=>exact h1
             rw [List.length_drop] at hlen
             cases hag:ZW df with
             | true =>
              have hpa:zq (ZW df) off inf.size (.agg cs)=some (.agg ((cs.drop off).take inf.size)):=by
               simp only [zq,hag,if_true]
               rw [if_pos (by have:=hsz.1;have:=hsz.2;omega)]
              obtain ⟨c0,e0,p,q1,q2⟩:=XP (P:=P) (w:=w) hi hdf hz hpa
              cases e0
              rw [hoff]
              exact ⟨p,_,q1,q2,by rw [hsz.1];rfl,.inl ⟨rfl,_,rfl⟩⟩
             | false =>
              have hl1:ks1.length=1:=by
               rw [<- hsz.1]
               have:=hsz.1
               cases d with
               | zero=>cases hg
               | succ d =>
                simp only [wV] at hg
                split at hg
                ·cases hg;exact this
                ·split at hg
                 ·rename_i fs2 hfs2
                  rw [hdf] at hfs2;cases hfs2;cases hag
                 ·cases hg
              have hlt:off < cs.length:=by omega
              have hpa:zq (ZW df) off inf.size (.agg cs)=some cs[off]:=by
               simp only [zq,hag,Bool.false_eq_true,if_false]
               exact List.getElem?_eq_getElem hlt
              obtain ⟨c0,e0,p,q1,q2⟩:=XP (P:=P) (w:=w) hi hdf hz hpa
              cases e0
              rw [hoff]
              have h1:cs[off].one=true:=hone _ (List.getElem_mem hlt)
              refine ⟨p,_,q1,q2,?_,.inr ⟨rfl,h1⟩⟩
              rw [hl1,List.drop_eq_getElem_cons hlt]
              simp only [List.take_succ_cons,List.take_zero]
              cases hq:cs[off]<;>first|rfl|(rw [hq] at h1;cases h1)
            obtain ⟨p1,pa1,g1,v1,c1,s1⟩:=pt xs as_ hx l1
            obtain ⟨p2,pa2,g2,v2,c2,s2⟩:=pt ys bs hy l2
            have hcmp:=eqIn_ok d f.type ks1 hg n p1 p2 pa1 pa2 r1 (by omega) v1 v2 (by
             rcases s1 with ⟨t1,q1⟩|⟨t1,q1⟩
             ·rcases s2 with ⟨t2, q2⟩ | ⟨t2, q2⟩
              ·exact .inl ⟨df,hdf,t1,q1,q2⟩
              ·rw [t1] at t2;cases t2
             ·rcases s2 with ⟨t2, q2⟩ | ⟨t2, q2⟩
              ·rw [t1] at t2;cases t2
              ·exact .inr ⟨df,hdf,t1,q1,q2⟩) (by rw [c1,c2];exact e1)
            have hrest:=ih (off+ks1.length) ks2 r2 hk2 (by simpa [List.drop_drop] using e2)
            simp only [Op.eqFields,hnm,ne_eq,not_false_eq_true,if_true,Sem.run_bind,g1,Result.andThen_ok,g2,hcmp]
            cases r1
            ·simp
            ·simpa using hrest
           ·cases hk
          ·cases hk
         ·cases hk
        ·cases hk
      exact key fs.toList 0 ks r h hr
     ·rw [hfs] at h1;cases h1;cases h2
    ·cases h
   ·cases h
theorem eqs_ok {op : BinOp} {ng : Bool} {t : TypeId} {ks : List Kd} {xo yo : Operand} (ho : eqNeg op = some ng) (hk : eqOf P t = some ks) {x y : Value} {a b r : AV} (hx : VR F O x a) (hy : VR F O y b) (he : wK ng ks a b = some r) :
  ∃ z,(do eqGuard op t xo yo x y;binOp op t x y:Sem Value).run P w = .ok z w/\VR F O z r:=by
 unfold wK at he
 split at he
 ·rename_i as_ bs
  split at he
  ·rename_i r0 hr
   cases he
   unfold eqOf at hk
   split at hk
   ·rename_i fs hfs
    split at hk
    ·rename_i hg
     obtain ⟨xs,rfl⟩:∃ xs,x = .agg xs:=by
      cases hx with
      | p h=>cases h with
       | agg cs as_ hl h1 h=>exact ⟨_,rfl⟩
      | agg cs as_ hl h1 h=>exact ⟨_,rfl⟩
     obtain ⟨ys,rfl⟩:∃ ys,y = .agg ys:=by
      cases hy with
      | p h=>cases h with
       | agg cs as_ hl h1 h=>exact ⟨_,rfl⟩
      | agg cs as_ hl h1 h=>exact ⟨_,rfl⟩
     have hq:=eqIn_ok (P:=P) (F:=F) (O:=O) (w:=w) 8 t ks hk 10000 (.agg xs) (.agg ys) (.agg as_) (.agg bs) r0 (by omega) hx hy (.inl ⟨_,hfs,rfl,⟨_,rfl⟩,⟨_,rfl⟩⟩) hr
     cases op<;>cases ho
     ·refine ⟨.bool r0, ?_, .p (.v _ rfl)⟩
      rw [Sem.run_bind,run_eqGuard_agg w _ t xo yo xs ys hg,Result.andThen_ok,run_eql_struct w t xs ys,hq]
      rfl
     ·refine ⟨.bool (!r0), ?_, .p (.v _ rfl)⟩
      rw [Sem.run_bind,run_eqGuard_agg w _ t xo yo xs ys hg,Result.andThen_ok,run_neq_struct w t xs ys,hq]
      rfl
    ·cases hk
   ·cases hk
  ·cases he
 ·cases he
end
end Go.Proofs.YtfocijljkkfonaaDoor.Sim
