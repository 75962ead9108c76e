/- Texts of this claim, part 6. -/
import Derived.Test.YtnammfeiehikfaaMPlanDoes5
set_option linter.unusedVariables false
set_option linter.unusedSimpArgs false
namespace Go.Proofs.Ytnammfeiehikfaa.Sim.Pr7
open Go.RowKit
abbrev Pr:=ByteArray × ByteArray
def cB (a b:ByteArray):Int:=Ord.cmp a.data.toList b.data.toList
theorem ba_ext {a b:ByteArray} (h:a.data.toList=b.data.toList):a=b:=by
  cases a;cases b
  simp only [ByteArray.mk.injEq]
  exact Array.ext' h
theorem cB_self (a:ByteArray):cB a a=0:=Ord.cmp_self _
theorem cB_zero {a b:ByteArray}:cB a b=0↔a=b:=⟨fun e=>ba_ext ((Ord.cmp_zero _ _).1 e),fun e=>by subst e;exact cB_self a⟩
theorem cB_ne {a b:ByteArray} (h:¬ a=b):¬ cB a b=0:=fun e=>h (cB_zero.1 e)
theorem cB_anti (a b:ByteArray):cB b a = - cB a b:=Ord.cmp_anti _ _
theorem cB_le {a b c:ByteArray} (h1:cB a b≤0) (h2:cB b c≤0):cB a c≤0:=(Ord.cmp_trans _ _ _ h1 h2).1
theorem cB_lt1 {a b c:ByteArray} (h1:cB a b < 0) (h2:cB b c≤0):cB a c < 0:=(Ord.cmp_trans _ _ _ (by unfold cB at h1;omega) h2).2 (.inl h1)
theorem cB_lt2 {a b c:ByteArray} (h1:cB a b≤0) (h2:cB b c < 0):cB a c < 0:=(Ord.cmp_trans _ _ _ h1 (by unfold cB at h2;omega)).2 (.inr h2)
theorem cB_eq {a b:ByteArray} (h1:cB a b≤0) (h2:cB b a≤0):a=b:=cB_zero.1 (by rw [cB_anti a b] at h2;omega)
def SLe (l:List Pr):Prop:=l.Pairwise fun p q=>cB p.1 q.1≤0
def SLt (l:List Pr):Prop:=l.Pairwise fun p q=>cB p.1 q.1 < 0
theorem SLt.le {l:List Pr} (h:SLt l):SLe l:=List.Pairwise.imp (fun h=>by omega) h
def fk (k:ByteArray) (l:List Pr):List Pr:=l.filter fun p=>decide (p.1=k)
theorem fk_nil {k:ByteArray}:fk k []=[]:=rfl
theorem fk_cons {k:ByteArray} {p:Pr} {l:List Pr}:fk k (p::l)=if p.1=k then p::fk k l else fk k l:=by
  unfold fk;rw [List.filter_cons];simp
theorem fk_append {k:ByteArray} {l m:List Pr}:fk k (l++m)=fk k l++fk k m:=List.filter_append ..
theorem mem_fk {k:ByteArray} {p:Pr} {l:List Pr}:p ∈ fk k l↔p ∈ l∧p.1=k:=by unfold fk;rw [List.mem_filter];simp
theorem fk_none {k:ByteArray} {l:List Pr}:fk k l=[]↔∀ p ∈ l,p.1 ≠ k:=by
  unfold fk;rw [List.filter_eq_nil_iff];simp
theorem srt_uniq:∀ {l l':List Pr},SLe l→SLe l'→(∀ k,fk k l=fk k l')→l=l'
  | [],[],_,_,_=>rfl
  | [],q::l',_,_,h=>by have:=h q.1;rw [fk_nil,fk_cons,if_pos rfl] at this;cases this
  | p::l,[],_,_,h=>by have:=h p.1;rw [fk_nil,fk_cons,if_pos rfl] at this;cases this
  | p::l,q::l',h1,h2,h=>by
    have hp:p ∈ q::l':=(mem_fk.1 (by rw [← h p.1,fk_cons,if_pos rfl];simp)).1
    have hq:q ∈ p::l:=(mem_fk.1 (by rw [h q.1,fk_cons,if_pos rfl];simp)).1
    have k1:cB q.1 p.1≤0:=by
      rcases List.mem_cons.1 hp with rfl|hp
      · rw [cB_self];omega
      · exact (List.pairwise_cons.1 h2).1 p hp
    have k2:cB p.1 q.1≤0:=by
      rcases List.mem_cons.1 hq with rfl|hq
      · rw [cB_self];omega
      · exact (List.pairwise_cons.1 h1).1 q hq
    have hk:p.1=q.1:=cB_eq k2 k1
    have e:p=q:=by
      have:=h p.1
      rw [fk_cons,fk_cons,if_pos rfl,if_pos hk.symm] at this
      exact (List.cons.inj this).1
    subst e
    rw [srt_uniq (List.pairwise_cons.1 h1).2 (List.pairwise_cons.1 h2).2 fun k=>?_]
    have:=h k
    rw [fk_cons,fk_cons] at this
    split at this
    · exact (List.cons.inj this).2
    · exact this
def ins (p:Pr):List Pr→List Pr
  | []=>[p]
  | q::l=>if cB p.1 q.1≤0 then p::q::l else q::ins p l
theorem ins_mem {p x:Pr}:∀ {l:List Pr},x ∈ ins p l→x=p∨x ∈ l
  | [],h=>by simp [ins] at h;exact .inl h
  | q::l,h=>by
    unfold ins at h
    split at h
    · rcases List.mem_cons.1 h with h | h
      · exact .inl h
      · exact .inr h
    · rcases List.mem_cons.1 h with h | h
      · exact .inr (by simp [h])
      · rcases ins_mem h with h | h
        · exact .inl h
        · exact .inr (by simp [h])
theorem ins_fk {p:Pr} {k:ByteArray}:∀ {l:List Pr},fk k (ins p l)=fk k (p::l)
  | []=>rfl
  | q::l=>by
    unfold ins
    split
    · rfl
    · rename_i h
      rw [fk_cons,ins_fk,fk_cons,fk_cons,fk_cons]
      by_cases h1:q.1=k<;>by_cases h2:p.1=k
      · exfalso;apply h;rw [h1,h2,cB_self];omega
      all_goals simp [h1,h2]
theorem ins_le {p:Pr}:∀ {l:List Pr},SLe l→SLe (ins p l)
  | [],_=>by simp [ins,SLe]
  | q::l,h=>by
    obtain ⟨h1,h2⟩:=List.pairwise_cons.1 h
    unfold ins
    split
    · rename_i hpq
      refine List.pairwise_cons.2 ⟨fun x hx=>?_,h⟩
      rcases List.mem_cons.1 hx with rfl|hx
      · exact hpq
      · exact cB_le hpq (h1 x hx)
    · rename_i hpq
      refine List.pairwise_cons.2 ⟨fun x hx=>?_,ins_le h2⟩
      rcases ins_mem hx with rfl|hx
      · rw [cB_anti x.1 q.1];omega
      · exact h1 x hx
def ssort:List Pr→List Pr
  | []=>[]
  | p::l=>ins p (ssort l)
theorem ssort_le:∀ (l:List Pr),SLe (ssort l)
  | []=>List.Pairwise.nil
  | p::l=>ins_le (ssort_le l)
theorem ssort_fk {k:ByteArray}:∀ (l:List Pr),fk k (ssort l)=fk k l
  | []=>rfl
  | p::l=>by rw [ssort,ins_fk,fk_cons,fk_cons,ssort_fk l]
def val (l:List Pr) (k:ByteArray):Option ByteArray:=(fk k l).getLast?.map (·.2)
theorem val_append {l m:List Pr} {k:ByteArray}:val (l++m) k=(val m k).or (val l k):=by
  unfold val
  rw [fk_append,List.getLast?_append]
  cases (fk k m).getLast?<;>rfl
theorem val_one {p:Pr} {k:ByteArray}:val [p] k=if p.1=k then some p.2 else none:=by
  unfold val;rw [fk_cons,fk_nil];split<;>rfl
theorem val_cons {p:Pr} {l:List Pr} {k:ByteArray}:val (p::l) k=(val l k).or (if p.1=k then some p.2 else none):=by
  rw [← val_one];exact val_append (l:=[p])
theorem val_none {l:List Pr} {k:ByteArray}:val l k=none↔fk k l=[]:=by
  unfold val;simp
theorem fk_lt {l:List Pr} (h:SLt l) (k:ByteArray):fk k l=match val l k with|some v=>[(k,v)]|none=>[]:=by
  have hp:(fk k l).Pairwise fun p q=>cB p.1 q.1 < 0:=List.Pairwise.filter _ h
  unfold val
  cases hf:fk k l with
  | nil=>rfl
  | cons p t =>
    have h1:p.1=k:=(mem_fk.1 (by rw [hf];simp:p ∈ fk k l)).2
    cases t with
    | nil=>simp [← h1]
    | cons q t =>
      exfalso
      have h2:q.1=k:=(mem_fk.1 (by rw [hf];simp:q ∈ fk k l)).2
      rw [hf] at hp
      have:=(List.pairwise_cons.1 hp).1 q (by simp)
      rw [h1,h2,cB_self] at this
      omega
theorem lt_uniq {l l':List Pr} (h1:SLt l) (h2:SLt l') (h:∀ k,val l k=val l' k):l=l' :=
  srt_uniq h1.le h2.le fun k=>by rw [fk_lt h1,fk_lt h2,h]
def lasts:List Pr→List Pr
  | []=>[]
  | p::l=>if fk p.1 l=[] then p::lasts l else lasts l
theorem lasts_sub:∀ (l:List Pr),(lasts l).Sublist l
  | []=>List.Sublist.slnil
  | p::l=>by
    unfold lasts
    split
    · exact (lasts_sub l).cons_cons p
    · exact (lasts_sub l).cons p
theorem lasts_val {k:ByteArray}:∀ (l:List Pr),val (lasts l) k=val l k
  | []=>rfl
  | p::l=>by
    unfold lasts
    split
    · rw [val_cons,val_cons,lasts_val l]
    · rename_i h
      rw [lasts_val l,val_cons]
      by_cases hk:p.1=k
      · rw [hk] at h
        cases hv:val l k with
        | none=>exact absurd (val_none.1 hv) h
        | some v=>rfl
      · rw [if_neg hk];cases val l k<;>rfl
theorem lasts_ne:∀ (l:List Pr),(lasts l).Pairwise fun p q=>p.1 ≠ q.1
  | []=>List.Pairwise.nil
  | p::l=>by
    unfold lasts
    split
    · rename_i h
      exact List.pairwise_cons.2 ⟨fun q hq e=>fk_none.1 h q ((lasts_sub l).subset hq) e.symm,lasts_ne l⟩
    · exact lasts_ne l
theorem le_ne {l:List Pr} (h1:SLe l) (h2:l.Pairwise fun p q=>p.1 ≠ q.1):SLt l:=by
  refine (List.Pairwise.and h1 h2).imp fun {p q} h=>?_
  have:=cB_ne h.2
  omega
theorem ssort_ne:∀ {l:List Pr},l.Pairwise (fun p q=>p.1 ≠ q.1)→SLt (ssort l):=fun {l} h=>by
  refine le_ne (ssort_le l) ?_
  induction l with
  | nil=>exact List.Pairwise.nil
  | cons p l ih =>
    obtain ⟨h1,h2⟩:=List.pairwise_cons.1 h
    have hm:∀ x ∈ ssort l,x ∈ l:=fun x hx=>by
      have:x ∈ fk x.1 (ssort l):=mem_fk.2 ⟨hx,rfl⟩
      rw [ssort_fk] at this
      exact (mem_fk.1 this).1
    have key:∀ m:List Pr,(∀ x ∈ m,p.1 ≠ x.1)→m.Pairwise (fun p q=>p.1 ≠ q.1)→(ins p m).Pairwise fun p q=>p.1 ≠ q.1:=by
      intro m
      induction m with
      | nil=>intro _ _;simp [ins]
      | cons q m ihm =>
        intro g1 g2
        unfold ins
        split
        · exact List.pairwise_cons.2 ⟨g1,g2⟩
        · refine List.pairwise_cons.2 ⟨fun x hx=>?_,ihm (fun x hx=>g1 x (by simp [hx])) (List.pairwise_cons.1 g2).2⟩
          rcases ins_mem hx with rfl|hx
          · exact fun e=>g1 q (by simp) e.symm
          · exact (List.pairwise_cons.1 g2).1 x hx
    exact key _ (fun x hx=>h1 x (hm x hx)) (ih h2)
def mk (l:List Pr):List Pr:=ssort (lasts l)
theorem mk_lt (l:List Pr):SLt (mk l):=ssort_ne (lasts_ne l)
theorem mk_val (l:List Pr) (k:ByteArray):val (mk l) k=val l k:=by
  rw [← lasts_val l];unfold val mk;rw [ssort_fk]
theorem eq_mk {m l:List Pr} (h:SLt m) (hv:∀ k,val m k=val l k):m=mk l:=lt_uniq h (mk_lt l) fun k=>by rw [hv,mk_val]
theorem mk_of {l:List Pr} (h:SLt l):mk l=l:=(eq_mk h fun _=>rfl).symm
theorem mk_len (l:List Pr):(mk l).length≤l.length:=by
  have key:∀ m:List Pr,(ssort m).length=m.length:=by
    intro m
    induction m with
    | nil=>rfl
    | cons p m ih =>
      have:∀ n:List Pr,(ins p n).length=n.length+1:=by
        intro n
        induction n with
        | nil=>rfl
        | cons q n ihn=>unfold ins;split<;>simp [ihn]
      rw [ssort,this,ih];rfl
  unfold mk;rw [key];exact (lasts_sub l).length_le
theorem filter_split {f:Pr→Bool}:∀ {m:List Pr},m.Pairwise (fun p q=>f q=true→f p=true)→m=m.filter f++m.filter (fun p=>!f p)
  | [],_=>rfl
  | p::m,h=>by
    obtain ⟨h1,h2⟩:=List.pairwise_cons.1 h
    by_cases hp:f p=true
    · rw [List.filter_cons, if_pos hp, List.filter_cons, if_neg (by simp [hp])]
      rw [List.cons_append,← filter_split h2]
    · have e1:m.filter f=[]:=List.filter_eq_nil_iff.2 fun q hq hf=>hp (h1 q hq hf)
      have e2:m.filter (fun p=>!f p)=m:=List.filter_eq_self.2 fun q hq=>by
        cases hf:f q with
        | false=>rfl
        | true=>exact absurd (h1 q hq hf) hp
      rw [List.filter_cons,if_neg hp,List.filter_cons,if_pos (by simp [hp]),e1,e2];rfl
theorem val_filter {f:ByteArray→Bool} {m:List Pr} {k:ByteArray}:fk k (m.filter fun p=>f p.1)=if f k=true then fk k m else []:=by
  unfold fk
  rw [List.filter_filter]
  by_cases h:f k=true
  · rw [if_pos h]
    apply List.filter_congr
    intro p _
    by_cases hp:p.1=k
    · simp [hp,h]
    · simp [hp]
  · rw [if_neg h, List.filter_eq_nil_iff]
    intro p _
    by_cases hp:p.1=k
    · simp [hp,h]
    · simp [hp]
def lo (m:List Pr) (k:ByteArray):List Pr:=m.filter fun p=>decide (cB p.1 k < 0)
def le (m:List Pr) (k:ByteArray):List Pr:=m.filter fun p=>decide (cB p.1 k≤0)
def hi (m:List Pr) (k:ByteArray):List Pr:=m.filter fun p=>decide (cB k p.1 < 0)
def pt (m:List Pr) (k v:ByteArray):List Pr:=lo m k++(k,v)::hi m k
theorem fk_lo {m:List Pr} {k x:ByteArray}:fk x (lo m k)=if cB x k < 0 then fk x m else []:=by
  have:=val_filter (f:=fun y=>decide (cB y k < 0)) (m:=m) (k:=x)
  simpa [lo] using this
theorem lo_split {m:List Pr} (h:SLe m) (k:ByteArray):m=lo m k++m.filter (fun p=>!decide (cB p.1 k < 0)):=by
  refine filter_split (f:=fun p=>decide (cB p.1 k < 0)) (h.imp fun {p q} hpq hq=>?_)
  simp only [decide_eq_true_eq] at hq ⊢
  exact cB_lt2 hpq hq
theorem le_split {m:List Pr} (h:SLe m) (k:ByteArray):m=le m k++hi m k:=by
  have e:hi m k=m.filter (fun p=>!decide (cB p.1 k≤0)):=by
    apply List.filter_congr
    intro p _
    rw [cB_anti p.1 k]
    by_cases hp:cB p.1 k≤0
    · simp [hp]
    · simp [hp];omega
  rw [e]
  refine filter_split (f:=fun p=>decide (cB p.1 k≤0)) (h.imp fun {p q} hpq hq=>?_)
  simp only [decide_eq_true_eq] at hq ⊢
  exact cB_le hpq hq
end Go.Proofs.Ytnammfeiehikfaa.Sim.Pr7
namespace Go.Proofs.Ytnammfeiehikfaa.Sim.Pr7
open Go.RowKit
set_option maxRecDepth 100000
def pA (p:Pr):AV:=.agg [S p.1,S p.2]
theorem pA_at {l:List Pr} {k:Nat} (h:k < l.length):(l.map pA)[k]? = some (.agg [S l[k].1,S l[k].2]):=by simp [h,pA]
theorem all_pA (l:List Pr):(l.map pA).all AV.isP=true:=by simp [pA,AV.isP,AV.isC,AV.isC0]
def cutB (s:ByteArray) (m:Nat):ByteArray:=s.extract 0 (min s.size m)
set_option maxHeartbeats 4000000 in
theorem cutP (G:Nat→AV) (s:ByteArray) (m:Nat) (hs:s.size≤9223372036854775807):PC Try.prog G 24 [S s,I m] (S (cutB s m)):=by
  have e:(if (m:Int) < (s.size:Int) then (m:Int) else (s.size:Int))=((min s.size m:Nat):Int):=by split<;>omega
  have e2:pureRun Try.prog (Instr.sliceAt 9 (.string s) none (some (.int .i64 ((min s.size m:Nat):Int))) none)=some (.string (cutB s m)):=by
    rw [cutV u_str (by omega) (by omega)];rfl
  refine pc_of cop24 ?_
  show W _ _ _ _ ⟨_,_⟩;simp only [A24,List.cons_append,List.nil_append,List.length_cons,List.length_nil,Nat.reduceAdd,Nat.reduceSub,List.replicate]
  repeat (first|with_reducible refine w_seq ?_|with_reducible refine w_reg ?_|with_reducible refine ws_nil ?_|with_reducible refine q_then ?_|with_reducible refine w_ret ?_|((first|with_reducible refine ks fun K hK=>?_|with_reducible refine kd fun K hK=>?_|with_reducible refine kc fun K hK2 hK hK3=>?_);simp (disch:=omega) only [bg0,bg1,bg2,bg3,bg4,stepO,rsAs,eff,AX.ev,St.put,binA,conc,ap1,ofVal,Int.reduceTMod,Int.reduceTDiv,reduceCtorEq,fillA,AV.cells,AV.fine,AV.one,Nat.reduceAdd,Nat.reduceSub,Nat.reduceMul,Nat.reduceLT,Nat.reduceLeDiff,Int.reduceLT,Int.reduceLE,Int.reduceAdd,Int.reduceSub,Int.reduceNeg,Int.reduceMul,Int.reduceEq,Int.reduceToNat,nilA,moveA,live,loadA,rdA,storeA,wrA,intA,elemA,lenA,appA,srcA,isPtr,isNilPtr,partA,resOf,sliceA,cut,id,ap2,reduceIte,concs,chkB,geB,AOp.cls,AOp.xs,ltB,ltC,Nat.reduceBEq,Option.toList,List.cons_append,decide_eq_true,decide_eq_false,if_pos,if_neg,List.length_map,pA_at,List.cons_append,bVb,bVn,eq_self,Bool.and_self,BEq.rfl,not_true_eq_false,e,e2];(first|((with_reducible refine hK _ ?_);clear hK K)|((with_reducible refine hK ?_);clear hK hK3 K hK2)|((with_reducible refine hK3 ?_);clear hK hK3 K hK2)))|((first|with_reducible refine ret_h fun K hK=>?_|with_reducible refine ret_hh rfl fun K hK=>?_|with_reducible refine ret_pp fun K hK=>?_);simp (disch:=omega) only [bg0,bg1,bg2,bg3,bg4,stepO,rsAs,eff,AX.ev,St.put,binA,conc,ap1,ofVal,Int.reduceTMod,Int.reduceTDiv,reduceCtorEq,fillA,AV.cells,AV.fine,AV.one,Nat.reduceAdd,Nat.reduceSub,Nat.reduceMul,Nat.reduceLT,Nat.reduceLeDiff,Int.reduceLT,Int.reduceLE,Int.reduceAdd,Int.reduceSub,Int.reduceNeg,Int.reduceMul,Int.reduceEq,Int.reduceToNat,nilA,moveA,live,loadA,rdA,storeA,wrA,intA,elemA,lenA,appA,srcA,isPtr,isNilPtr,partA,resOf,sliceA,cut,id,ap2,reduceIte,concs,chkB,geB,AOp.cls,AOp.xs,ltB,ltC,Nat.reduceBEq,Option.toList,List.cons_append,decide_eq_true,decide_eq_false,if_pos,if_neg,List.length_map,pA_at,List.cons_append,bVb,bVn,eq_self,Bool.and_self,BEq.rfl,not_true_eq_false,e,e2];(first|((with_reducible refine hK _ ?_ ?_ ?_ ?_);rotate_left 2;rfl;rfl)|((with_reducible refine hK _ ?_);rfl))))
def few (l:List Pr):List Pr:=(l.take 40).map fun p=>(cutB p.1 40,cutB p.2 40)
theorem few_take {l:List Pr} {k:Nat} (h:k < l.length) (h2:k < 40):((few l).take k).map pA++[.agg [S (cutB l[k].1 40),S (cutB l[k].2 40)]]=((few l).take (k+1)).map pA:=by
  have h3:k < (few l).length:=by simp [few];omega
  rw [List.take_add_one,List.getElem?_eq_getElem h3]
  simp [few,pA]
theorem few_len (l:List Pr):(few l).length=min 40 l.length:=by simp [few]
theorem takeP {l:List Pr} {k:Nat}:((l.take k).map pA).take k=(l.take k).map pA:=by
  apply List.take_of_length_le;simp;omega
set_option maxHeartbeats 4000000 in
theorem few07 (G:Nat→AV) (l:List Pr) (hl:l.length≤9223372036854775807) (hs:∀ p ∈ l,p.1.size≤9223372036854775807∧p.2.size≤9223372036854775807):PC Try.prog G 25 [.sl 2 (l.map pA)] (.sl 2 ((few l).map pA)):=by
  obtain ⟨N,hN⟩:∃ N,N=(few l).length:=⟨_,rfl⟩
  have hN2:=few_len l
  refine pc_of cop25 ?_
  show W _ _ _ _ ⟨_,_⟩;simp only [A25,List.cons_append,List.nil_append,List.length_cons,List.length_nil,Nat.reduceAdd,Nat.reduceSub,List.replicate]
  repeat (first|with_reducible refine w_seq ?_|with_reducible refine w_reg ?_|with_reducible refine w_block ?_|with_reducible refine ws_nil ?_|with_reducible refine q_then ?_|((first|with_reducible refine ks fun K hK=>?_|with_reducible refine kd fun K hK=>?_|with_reducible refine kc fun K hK2 hK hK3=>?_);simp (disch:=omega) only [bg0,bg1,bg2,bg3,bg4,stepO,rsAs,eff,AX.ev,St.put,binA,conc,ap1,ofVal,Int.reduceTMod,Int.reduceTDiv,reduceCtorEq,fillA,AV.cells,AV.fine,AV.one,Nat.reduceAdd,Nat.reduceSub,Nat.reduceMul,Nat.reduceLT,Nat.reduceLeDiff,Int.reduceLT,Int.reduceLE,Int.reduceAdd,Int.reduceSub,Int.reduceNeg,Int.reduceMul,Int.reduceEq,Int.reduceToNat,nilA,moveA,live,loadA,rdA,storeA,wrA,intA,elemA,lenA,appA,srcA,isPtr,isNilPtr,partA,resOf,sliceA,cut,id,ap2,reduceIte,concs,chkB,geB,AOp.cls,AOp.xs,ltB,ltC,Nat.reduceBEq,Option.toList,List.cons_append,decide_eq_true,decide_eq_false,if_pos,if_neg,List.length_map,pA_at,List.cons_append,bVb,bVn,eq_self,Bool.and_self,BEq.rfl,not_true_eq_false];(first|((with_reducible refine hK _ ?_);clear hK K)|((with_reducible refine hK ?_);clear hK hK3 K hK2)|((with_reducible refine hK3 ?_);clear hK hK3 K hK2))))
  refine w_loop_m [3,4,6,7,8,9,10,11,12,13,14,15,16,17,18,19,20,21,22,23,24,25,26,27,28,29,30,31] (fun k v H=>v 3 = .ol 0 k k∧v 4=I k∧∃ J,H=⟨72,2,((few l).take k).map pA,k,0⟩::J) N ⟨rfl,rfl,[],rfl⟩ ?_ ?_
  · rintro k v H hk ⟨h3, h4, J, rfl⟩
    simp only [mix,mix_nil,mix_end,mix_skp,Nat.reduceEqDiff,Nat.reduceLeDiff,reduceCtorEq,if_true,if_false,reduceIte,Nat.reduceAdd,h3,h4]
    have hk1:k < l.length:=by omega
    have h1:=(hs l[k] (List.getElem_mem hk1)).1
    have h2:=(hs l[k] (List.getElem_mem hk1)).2
    have h5:=few_take hk1 (by omega)
    have h6:(((few l).take k).map pA).length=k:=by simp;omega
    repeat (first|with_reducible refine w_seq ?_|with_reducible refine w_reg ?_|with_reducible refine w_draw ?_|with_reducible refine w_block ?_|with_reducible refine w_skip ?_|with_reducible refine ws_nil ?_|with_reducible refine wd_nil ?_|with_reducible refine q_then ?_|with_reducible refine q_block_n ?_|((with_reducible refine kgs_t ?_ ?_);rfl)|((first|with_reducible refine ks fun K hK=>?_|with_reducible refine kd fun K hK=>?_|with_reducible refine kc fun K hK2 hK hK3=>?_);simp (disch:=omega) only [bg0,bg1,bg2,bg3,bg4,stepO,rsAs,eff,AX.ev,St.put,binA,conc,ap1,ofVal,Int.reduceTMod,Int.reduceTDiv,reduceCtorEq,fillA,AV.cells,AV.fine,AV.one,Nat.reduceAdd,Nat.reduceSub,Nat.reduceMul,Nat.reduceLT,Nat.reduceLeDiff,Int.reduceLT,Int.reduceLE,Int.reduceAdd,Int.reduceSub,Int.reduceNeg,Int.reduceMul,Int.reduceEq,Int.reduceToNat,nilA,moveA,live,loadA,rdA,storeA,wrA,intA,elemA,lenA,appA,srcA,isPtr,isNilPtr,partA,resOf,sliceA,cut,id,ap2,reduceIte,concs,chkB,geB,AOp.cls,AOp.xs,ltB,ltC,Nat.reduceBEq,Option.toList,List.cons_append,decide_eq_true,decide_eq_false,if_pos,if_neg,List.length_map,pA_at,List.cons_append,bVb,bVn,eq_self,Bool.and_self,BEq.rfl,not_true_eq_false,h6,takeP,h5];(first|((with_reducible refine hK _ ?_);clear hK K)|((with_reducible refine hK ?_);clear hK hK3 K hK2)|((with_reducible refine hK3 ?_);clear hK hK3 K hK2)))|((first|((with_reducible refine kpd 24 ?_ ?_ ?_ ?_ ?_);rotate_left 1));(focus (simp (disch:=omega) only [bg0,bg1,bg2,bg3,bg4,stepO,rsAs,eff,AX.ev,St.put,binA,conc,ap1,ofVal,Int.reduceTMod,Int.reduceTDiv,reduceCtorEq,fillA,AV.cells,AV.fine,AV.one,Nat.reduceAdd,Nat.reduceSub,Nat.reduceMul,Nat.reduceLT,Nat.reduceLeDiff,Int.reduceLT,Int.reduceLE,Int.reduceAdd,Int.reduceSub,Int.reduceNeg,Int.reduceMul,Int.reduceEq,Int.reduceToNat,nilA,moveA,live,loadA,rdA,storeA,wrA,intA,elemA,lenA,appA,srcA,isPtr,isNilPtr,partA,resOf,sliceA,cut,id,ap2,reduceIte,concs,chkB,geB,AOp.cls,AOp.xs,ltB,ltC,Nat.reduceBEq,Option.toList,List.cons_append,decide_eq_true,decide_eq_false,if_pos,if_neg,List.length_map,pA_at,List.cons_append,bVb,bVn,eq_self,Bool.and_self,BEq.rfl,not_true_eq_false,h6,takeP,h5];try rfl));(first|(rfl;exact (by refine cutP G _ 40 ?_;assumption)))))
    exact ⟨rfl,rfl,rfl,_,rfl⟩
  · rintro v H ⟨h3, h4, J, rfl⟩
    simp only [mix,mix_nil,mix_end,mix_skp,Nat.reduceEqDiff,Nat.reduceLeDiff,reduceCtorEq,if_true,if_false,reduceIte,Nat.reduceAdd,h3,h4]
    have h6:(((few l).take N).map pA).length=N:=by simp;omega
    have h7:(few l).take N=few l:=by rw [hN,List.take_length]
    have h8:((few l).map pA).take N=(few l).map pA:=by rw [hN];apply List.take_of_length_le;simp
    by_cases h40:l.length≤40
    all_goals
      repeat (first|with_reducible refine w_seq ?_|with_reducible refine w_reg ?_|with_reducible refine w_exit ?_|with_reducible refine ws_nil ?_|with_reducible refine q_then ?_|with_reducible refine q_then_x ?_|with_reducible refine q_block_x ?_|with_reducible refine w_ret ?_|((with_reducible refine kgs_t ?_ ?_);rfl)|((with_reducible refine kgs_f ?_ ?_);rfl)|((first|with_reducible refine ks fun K hK=>?_|with_reducible refine kd fun K hK=>?_|with_reducible refine kc fun K hK2 hK hK3=>?_);simp (disch:=omega) only [bg0,bg1,bg2,bg3,bg4,stepO,rsAs,eff,AX.ev,St.put,binA,conc,ap1,ofVal,Int.reduceTMod,Int.reduceTDiv,reduceCtorEq,fillA,AV.cells,AV.fine,AV.one,Nat.reduceAdd,Nat.reduceSub,Nat.reduceMul,Nat.reduceLT,Nat.reduceLeDiff,Int.reduceLT,Int.reduceLE,Int.reduceAdd,Int.reduceSub,Int.reduceNeg,Int.reduceMul,Int.reduceEq,Int.reduceToNat,nilA,moveA,live,loadA,rdA,storeA,wrA,intA,elemA,lenA,appA,srcA,isPtr,isNilPtr,partA,resOf,sliceA,cut,id,ap2,reduceIte,concs,chkB,geB,AOp.cls,AOp.xs,ltB,ltC,Nat.reduceBEq,Option.toList,List.cons_append,decide_eq_true,decide_eq_false,if_pos,if_neg,List.length_map,pA_at,List.cons_append,bVb,bVn,eq_self,Bool.and_self,BEq.rfl,not_true_eq_false];(first|((with_reducible refine hK _ ?_);clear hK K)|((with_reducible refine hK ?_);clear hK hK3 K hK2)|((with_reducible refine hK3 ?_);clear hK hK3 K hK2))))
      refine ret_pp fun K hK=>?_
      simp only [rsAs,List.getD_cons_succ,List.getD_cons_zero]
      refine hK _ ?_ ?_ ?_ ?_
      rotate_left 2
      simp only [purA,pur,purC,List.getElem?_cons_zero,List.length_map,← hN,h7,h8,Nat.le_refl,and_self,and_true,true_and]
      rw [if_pos (all_pA _)]
      rfl
theorem cmpP (G:Nat→AV) (a b:ByteArray) (ha:a.size≤9223372036854775807) (hb:b.size≤9223372036854775807):PC Try.prog G 60 [S a,S b] (I (cB a b)) :=
  pc_calls rfl rfl (fun w=>(Ord.Compare_calls a b w (by rw [maxLenE];exact ha) (by rw [maxLenE];exact hb)).mono fun e w' h=>h.fresh)
end Go.Proofs.Ytnammfeiehikfaa.Sim.Pr7
namespace Go.Proofs.Ytnammfeiehikfaa.Sim.Pr7
open Go.RowKit
set_option maxRecDepth 100000
structure Okl (l:List Pr):Prop where
  len:l.length≤1000000
  sz:∀ p ∈ l,p.1.size≤9223372036854775807∧p.2.size≤9223372036854775807
theorem Okl.k {l:List Pr} (h:Okl l) {k:Nat} (hk:k < l.length):(l[k]).1.size≤9223372036854775807:=(h.sz _ (List.getElem_mem hk)).1
theorem slt_idx:∀ {l:List Pr},SLt l↔∀ i (h:i+1 < l.length),cB (l[i]).1 (l[i+1]).1 < 0
  | []=>by simp [SLt]
  | [p]=>by simp [SLt]
  | p::q::l=>by
    have ih:=slt_idx (l:=q::l)
    constructor
    · intro h i hi
      obtain ⟨h1,h2⟩:=List.pairwise_cons.1 h
      cases i with
      | zero=>exact h1 q (by simp)
      | succ i=>exact ih.1 h2 i (by simpa using hi)
    · intro h
      have h2:SLt (q::l):=ih.2 fun i hi=>h (i+1) (by simpa using hi)
      refine List.pairwise_cons.2 ⟨fun x hx=>?_,h2⟩
      have h0:cB p.1 q.1 < 0:=h 0 (by simp)
      rcases List.mem_cons.1 hx with rfl|hx
      · exact h0
      · have := (List.pairwise_cons.1 h2).1 x hx
        exact cB_lt1 h0 (by omega)
theorem is_false {l:List Pr} {r:Bool} (hr:r=true↔SLt l) {i:Nat} (h:i+1 < l.length) (hc:0≤cB (l[i]).1 (l[i+1]).1):r=false:=by
  cases r with
  | false=>rfl
  | true=>have:=slt_idx.1 (hr.1 rfl) i h;omega
set_option maxHeartbeats 4000000 in
theorem is11 (G:Nat→AV) (l:List Pr) (hl:Okl l) (r:Bool) (hr:r=true↔SLt l):PC Try.prog G 65 [.sl 2 (l.map pA)] (Bo r):=by
  have hlen:=hl.len
  refine pc_of cop65 ?_
  show W _ _ _ _ ⟨_,_⟩;simp only [A65,List.cons_append,List.nil_append,List.length_cons,List.length_nil,Nat.reduceAdd,Nat.reduceSub,List.replicate]
  repeat (first|with_reducible refine w_seq ?_|with_reducible refine w_reg ?_|with_reducible refine w_block ?_|with_reducible refine ws_nil ?_|with_reducible refine q_then ?_|((first|with_reducible refine ks fun K hK=>?_|with_reducible refine kd fun K hK=>?_|with_reducible refine kc fun K hK2 hK hK3=>?_);simp (disch:=omega) only [bg0,bg1,bg2,bg3,bg4,stepO,rsAs,eff,AX.ev,St.put,binA,conc,ap1,ofVal,Int.reduceTMod,Int.reduceTDiv,reduceCtorEq,fillA,AV.cells,AV.fine,AV.one,Nat.reduceAdd,Nat.reduceSub,Nat.reduceMul,Nat.reduceLT,Nat.reduceLeDiff,Int.reduceLT,Int.reduceLE,Int.reduceAdd,Int.reduceSub,Int.reduceNeg,Int.reduceMul,Int.reduceEq,Int.reduceToNat,nilA,moveA,live,loadA,rdA,storeA,wrA,intA,elemA,lenA,appA,srcA,isPtr,isNilPtr,partA,resOf,sliceA,cut,id,ap2,reduceIte,concs,chkB,geB,AOp.cls,AOp.xs,ltB,ltC,Nat.reduceBEq,Option.toList,List.cons_append,decide_eq_true,decide_eq_false,if_pos,if_neg,List.length_map,pA_at,List.cons_append,bVb,bVn,eq_self,Bool.and_self,BEq.rfl,not_true_eq_false];(first|((with_reducible refine hK _ ?_);clear hK K)|((with_reducible refine hK ?_);clear hK hK3 K hK2)|((with_reducible refine hK3 ?_);clear hK hK3 K hK2))))
  refine w_loop_m [2,3,7,8,9,10,11,12,13,14,15,16,17,18,19,20,21,22,23] (fun k v H=>v 7=I k∧H=[]∧∀ i (h:i+1 < l.length),i < k→cB (l[i]).1 (l[i+1]).1 < 0) (l.length - 1) ⟨rfl,rfl,fun i h hi=>absurd hi (Nat.not_lt_zero _)⟩ ?_ ?_
  · rintro k v H hk ⟨h7, rfl, hi⟩
    simp only [mix,mix_nil,mix_end,mix_skp,Nat.reduceEqDiff,Nat.reduceLeDiff,reduceCtorEq,if_true,if_false,reduceIte,Nat.reduceAdd,h7]
    have h1:=hl.k (k:=k) (by omega)
    have h2:=hl.k (k:=k+1) (by omega)
    by_cases hc:0≤cB (l[k]).1 (l[k+1]).1
    · obtain rfl := is_false hr (by omega) hc
      repeat (first|with_reducible refine w_seq ?_|with_reducible refine w_reg ?_|with_reducible refine w_draw ?_|with_reducible refine w_block ?_|with_reducible refine w_skip ?_|with_reducible refine ws_nil ?_|with_reducible refine wd_nil ?_|with_reducible refine q_then ?_|with_reducible refine q_block_r ?_|with_reducible refine w_ret ?_|with_reducible refine q_then_r ?_|((first|with_reducible refine ks fun K hK=>?_|with_reducible refine kd fun K hK=>?_|with_reducible refine kc fun K hK2 hK hK3=>?_);simp (disch:=omega) only [bg0,bg1,bg2,bg3,bg4,stepO,rsAs,eff,AX.ev,St.put,binA,conc,ap1,ofVal,Int.reduceTMod,Int.reduceTDiv,reduceCtorEq,fillA,AV.cells,AV.fine,AV.one,Nat.reduceAdd,Nat.reduceSub,Nat.reduceMul,Nat.reduceLT,Nat.reduceLeDiff,Int.reduceLT,Int.reduceLE,Int.reduceAdd,Int.reduceSub,Int.reduceNeg,Int.reduceMul,Int.reduceEq,Int.reduceToNat,nilA,moveA,live,loadA,rdA,storeA,wrA,intA,elemA,lenA,appA,srcA,isPtr,isNilPtr,partA,resOf,sliceA,cut,id,ap2,reduceIte,concs,chkB,geB,AOp.cls,AOp.xs,ltB,ltC,Nat.reduceBEq,Option.toList,List.cons_append,decide_eq_true,decide_eq_false,if_pos,if_neg,List.length_map,pA_at,List.cons_append,bVb,bVn,eq_self,Bool.and_self,BEq.rfl,not_true_eq_false,hc];(first|((with_reducible refine hK _ ?_);clear hK K)|((with_reducible refine hK ?_);clear hK hK3 K hK2)|((with_reducible refine hK3 ?_);clear hK hK3 K hK2)))|((first|((with_reducible refine kpd 60 ?_ ?_ ?_ ?_ ?_);rotate_left 1));(focus (simp (disch:=omega) only [bg0,bg1,bg2,bg3,bg4,stepO,rsAs,eff,AX.ev,St.put,binA,conc,ap1,ofVal,Int.reduceTMod,Int.reduceTDiv,reduceCtorEq,fillA,AV.cells,AV.fine,AV.one,Nat.reduceAdd,Nat.reduceSub,Nat.reduceMul,Nat.reduceLT,Nat.reduceLeDiff,Int.reduceLT,Int.reduceLE,Int.reduceAdd,Int.reduceSub,Int.reduceNeg,Int.reduceMul,Int.reduceEq,Int.reduceToNat,nilA,moveA,live,loadA,rdA,storeA,wrA,intA,elemA,lenA,appA,srcA,isPtr,isNilPtr,partA,resOf,sliceA,cut,id,ap2,reduceIte,concs,chkB,geB,AOp.cls,AOp.xs,ltB,ltC,Nat.reduceBEq,Option.toList,List.cons_append,decide_eq_true,decide_eq_false,if_pos,if_neg,List.length_map,pA_at,List.cons_append,bVb,bVn,eq_self,Bool.and_self,BEq.rfl,not_true_eq_false,hc];try rfl));(first|(rfl;exact (by refine cmpP G _ _ ?_ ?_<;>assumption))))|((first|with_reducible refine ret_h fun K hK=>?_|with_reducible refine ret_hh rfl fun K hK=>?_|with_reducible refine ret_pp fun K hK=>?_);simp (disch:=omega) only [bg0,bg1,bg2,bg3,bg4,stepO,rsAs,eff,AX.ev,St.put,binA,conc,ap1,ofVal,Int.reduceTMod,Int.reduceTDiv,reduceCtorEq,fillA,AV.cells,AV.fine,AV.one,Nat.reduceAdd,Nat.reduceSub,Nat.reduceMul,Nat.reduceLT,Nat.reduceLeDiff,Int.reduceLT,Int.reduceLE,Int.reduceAdd,Int.reduceSub,Int.reduceNeg,Int.reduceMul,Int.reduceEq,Int.reduceToNat,nilA,moveA,live,loadA,rdA,storeA,wrA,intA,elemA,lenA,appA,srcA,isPtr,isNilPtr,partA,resOf,sliceA,cut,id,ap2,reduceIte,concs,chkB,geB,AOp.cls,AOp.xs,ltB,ltC,Nat.reduceBEq,Option.toList,List.cons_append,decide_eq_true,decide_eq_false,if_pos,if_neg,List.length_map,pA_at,List.cons_append,bVb,bVn,eq_self,Bool.and_self,BEq.rfl,not_true_eq_false,hc];(first|((with_reducible refine hK _ ?_ ?_ ?_ ?_);rotate_left 2;rfl;rfl)|((with_reducible refine hK _ ?_);rfl))))
    · repeat (first|with_reducible refine w_seq ?_|with_reducible refine w_reg ?_|with_reducible refine w_draw ?_|with_reducible refine w_block ?_|with_reducible refine w_skip ?_|with_reducible refine ws_nil ?_|with_reducible refine wd_nil ?_|with_reducible refine q_then ?_|with_reducible refine q_block_n ?_|((first|with_reducible refine ks fun K hK=>?_|with_reducible refine kd fun K hK=>?_|with_reducible refine kc fun K hK2 hK hK3=>?_);simp (disch:=omega) only [bg0,bg1,bg2,bg3,bg4,stepO,rsAs,eff,AX.ev,St.put,binA,conc,ap1,ofVal,Int.reduceTMod,Int.reduceTDiv,reduceCtorEq,fillA,AV.cells,AV.fine,AV.one,Nat.reduceAdd,Nat.reduceSub,Nat.reduceMul,Nat.reduceLT,Nat.reduceLeDiff,Int.reduceLT,Int.reduceLE,Int.reduceAdd,Int.reduceSub,Int.reduceNeg,Int.reduceMul,Int.reduceEq,Int.reduceToNat,nilA,moveA,live,loadA,rdA,storeA,wrA,intA,elemA,lenA,appA,srcA,isPtr,isNilPtr,partA,resOf,sliceA,cut,id,ap2,reduceIte,concs,chkB,geB,AOp.cls,AOp.xs,ltB,ltC,Nat.reduceBEq,Option.toList,List.cons_append,decide_eq_true,decide_eq_false,if_pos,if_neg,List.length_map,pA_at,List.cons_append,bVb,bVn,eq_self,Bool.and_self,BEq.rfl,not_true_eq_false,hc];(first|((with_reducible refine hK _ ?_);clear hK K)|((with_reducible refine hK ?_);clear hK hK3 K hK2)|((with_reducible refine hK3 ?_);clear hK hK3 K hK2)))|((first|((with_reducible refine kpd 60 ?_ ?_ ?_ ?_ ?_);rotate_left 1));(focus (simp (disch:=omega) only [bg0,bg1,bg2,bg3,bg4,stepO,rsAs,eff,AX.ev,St.put,binA,conc,ap1,ofVal,Int.reduceTMod,Int.reduceTDiv,reduceCtorEq,fillA,AV.cells,AV.fine,AV.one,Nat.reduceAdd,Nat.reduceSub,Nat.reduceMul,Nat.reduceLT,Nat.reduceLeDiff,Int.reduceLT,Int.reduceLE,Int.reduceAdd,Int.reduceSub,Int.reduceNeg,Int.reduceMul,Int.reduceEq,Int.reduceToNat,nilA,moveA,live,loadA,rdA,storeA,wrA,intA,elemA,lenA,appA,srcA,isPtr,isNilPtr,partA,resOf,sliceA,cut,id,ap2,reduceIte,concs,chkB,geB,AOp.cls,AOp.xs,ltB,ltC,Nat.reduceBEq,Option.toList,List.cons_append,decide_eq_true,decide_eq_false,if_pos,if_neg,List.length_map,pA_at,List.cons_append,bVb,bVn,eq_self,Bool.and_self,BEq.rfl,not_true_eq_false,hc];try rfl));(first|(rfl;exact (by refine cmpP G _ _ ?_ ?_<;>assumption)))))
      refine ⟨rfl,rfl,rfl,fun i h hik=>?_⟩
      by_cases hik2:i=k
      · subst hik2;omega
      · exact hi i h (by omega)
  · rintro v H ⟨h7, rfl, hi⟩
    simp only [mix,mix_nil,mix_end,mix_skp,Nat.reduceEqDiff,Nat.reduceLeDiff,reduceCtorEq,if_true,if_false,reduceIte,Nat.reduceAdd,h7]
    obtain rfl:r=true:=hr.2 (slt_idx.2 fun i h=>hi i h (by omega))
    by_cases h0:l.length=0
    all_goals repeat (first|with_reducible refine w_seq ?_|with_reducible refine w_reg ?_|with_reducible refine w_exit ?_|with_reducible refine ws_nil ?_|with_reducible refine q_then ?_|with_reducible refine q_then_x ?_|with_reducible refine q_block_x ?_|with_reducible refine w_ret ?_|((first|with_reducible refine ks fun K hK=>?_|with_reducible refine kd fun K hK=>?_|with_reducible refine kc fun K hK2 hK hK3=>?_);simp (disch:=omega) only [bg0,bg1,bg2,bg3,bg4,stepO,rsAs,eff,AX.ev,St.put,binA,conc,ap1,ofVal,Int.reduceTMod,Int.reduceTDiv,reduceCtorEq,fillA,AV.cells,AV.fine,AV.one,Nat.reduceAdd,Nat.reduceSub,Nat.reduceMul,Nat.reduceLT,Nat.reduceLeDiff,Int.reduceLT,Int.reduceLE,Int.reduceAdd,Int.reduceSub,Int.reduceNeg,Int.reduceMul,Int.reduceEq,Int.reduceToNat,nilA,moveA,live,loadA,rdA,storeA,wrA,intA,elemA,lenA,appA,srcA,isPtr,isNilPtr,partA,resOf,sliceA,cut,id,ap2,reduceIte,concs,chkB,geB,AOp.cls,AOp.xs,ltB,ltC,Nat.reduceBEq,Option.toList,List.cons_append,decide_eq_true,decide_eq_false,if_pos,if_neg,List.length_map,pA_at,List.cons_append,bVb,bVn,eq_self,Bool.and_self,BEq.rfl,not_true_eq_false];(first|((with_reducible refine hK _ ?_);clear hK K)|((with_reducible refine hK ?_);clear hK hK3 K hK2)|((with_reducible refine hK3 ?_);clear hK hK3 K hK2)))|((first|with_reducible refine ret_h fun K hK=>?_|with_reducible refine ret_hh rfl fun K hK=>?_|with_reducible refine ret_pp fun K hK=>?_);simp (disch:=omega) only [bg0,bg1,bg2,bg3,bg4,stepO,rsAs,eff,AX.ev,St.put,binA,conc,ap1,ofVal,Int.reduceTMod,Int.reduceTDiv,reduceCtorEq,fillA,AV.cells,AV.fine,AV.one,Nat.reduceAdd,Nat.reduceSub,Nat.reduceMul,Nat.reduceLT,Nat.reduceLeDiff,Int.reduceLT,Int.reduceLE,Int.reduceAdd,Int.reduceSub,Int.reduceNeg,Int.reduceMul,Int.reduceEq,Int.reduceToNat,nilA,moveA,live,loadA,rdA,storeA,wrA,intA,elemA,lenA,appA,srcA,isPtr,isNilPtr,partA,resOf,sliceA,cut,id,ap2,reduceIte,concs,chkB,geB,AOp.cls,AOp.xs,ltB,ltC,Nat.reduceBEq,Option.toList,List.cons_append,decide_eq_true,decide_eq_false,if_pos,if_neg,List.length_map,pA_at,List.cons_append,bVb,bVn,eq_self,Bool.and_self,BEq.rfl,not_true_eq_false];(first|((with_reducible refine hK _ ?_ ?_ ?_ ?_);rotate_left 2;rfl;rfl)|((with_reducible refine hK _ ?_);rfl))))
theorem same_false {a b:List Pr} {r:Bool} (hr:r=true↔a=b) {k:Nat} (h1:k < a.length) (h2:k < b.length) (h:¬ a[k]=b[k]):r=false:=by
  cases r with
  | false=>rfl
  | true=>obtain rfl:=hr.1 rfl;exact absurd rfl h
theorem pr_ne {p q:Pr} (h:¬ p=q):(decide (p.1=q.1) && decide (p.2=q.2))=false:=by
  cases hq:(decide (p.1=q.1) && decide (p.2=q.2)) with
  | false=>rfl
  | true =>
    simp only [Bool.and_eq_true,decide_eq_true_eq] at hq
    exact absurd (Prod.ext hq.1 hq.2) h
set_option maxHeartbeats 4000000 in
theorem same13 (G:Nat→AV) (a b:List Pr) (ha:a.length≤1000000) (hb:b.length≤1000000) (r:Bool) (hr:r=true↔a=b):PC Try.prog G 35 [.sl 2 (a.map pA),.sl 2 (b.map pA)] (Bo r):=by
  refine pc_of cop35 ?_
  show W _ _ _ _ ⟨_,_⟩;simp only [A35,List.cons_append,List.nil_append,List.length_cons,List.length_nil,Nat.reduceAdd,Nat.reduceSub,List.replicate]
  by_cases hn:a.length=b.length
  · repeat (first|with_reducible refine w_seq ?_|with_reducible refine w_reg ?_|with_reducible refine w_block ?_|with_reducible refine w_skip ?_|with_reducible refine ws_nil ?_|with_reducible refine q_then ?_|((first|with_reducible refine ks fun K hK=>?_|with_reducible refine kd fun K hK=>?_|with_reducible refine kc fun K hK2 hK hK3=>?_);simp (disch:=omega) only [bg0,bg1,bg2,bg3,bg4,stepO,rsAs,eff,AX.ev,St.put,binA,conc,ap1,ofVal,Int.reduceTMod,Int.reduceTDiv,reduceCtorEq,fillA,AV.cells,AV.fine,AV.one,Nat.reduceAdd,Nat.reduceSub,Nat.reduceMul,Nat.reduceLT,Nat.reduceLeDiff,Int.reduceLT,Int.reduceLE,Int.reduceAdd,Int.reduceSub,Int.reduceNeg,Int.reduceMul,Int.reduceEq,Int.reduceToNat,nilA,moveA,live,loadA,rdA,storeA,wrA,intA,elemA,lenA,appA,srcA,isPtr,isNilPtr,partA,resOf,sliceA,cut,id,ap2,reduceIte,concs,chkB,geB,AOp.cls,AOp.xs,ltB,ltC,Nat.reduceBEq,Option.toList,List.cons_append,decide_eq_true,decide_eq_false,if_pos,if_neg,List.length_map,pA_at,List.cons_append,bVb,bVn,eq_self,Bool.and_self,BEq.rfl,not_true_eq_false];(first|((with_reducible refine hK _ ?_);clear hK K)|((with_reducible refine hK ?_);clear hK hK3 K hK2)|((with_reducible refine hK3 ?_);clear hK hK3 K hK2))))
    refine w_loop_m [4,5,11,12,13,14,15,16,17,18,19,20,21,22,23,24,25] (fun k v H=>v 5=I k∧H=[]∧a.take k=b.take k) a.length ⟨rfl,rfl,rfl⟩ ?_ ?_
    · rintro k v H hk ⟨h5, rfl, hq⟩
      simp only [mix,mix_nil,mix_end,mix_skp,Nat.reduceEqDiff,Nat.reduceLeDiff,reduceCtorEq,if_true,if_false,reduceIte,Nat.reduceAdd,h5]
      have hk3:k < b.length:=by omega
      by_cases he:a[k]=b[k]
      · have q1 : a[k].1 = b[k].1 := by rw [he]
        have q2:a[k].2=b[k].2:=by rw [he]
        repeat (first|with_reducible refine w_seq ?_|with_reducible refine w_reg ?_|with_reducible refine w_draw ?_|with_reducible refine w_block ?_|with_reducible refine w_skip ?_|with_reducible refine ws_nil ?_|with_reducible refine wd_nil ?_|with_reducible refine q_then ?_|with_reducible refine q_block_n ?_|((first|with_reducible refine ks fun K hK=>?_|with_reducible refine kd fun K hK=>?_|with_reducible refine kc fun K hK2 hK hK3=>?_);simp (disch:=omega) only [bg0,bg1,bg2,bg3,bg4,stepO,rsAs,eff,AX.ev,St.put,binA,conc,ap1,ofVal,Int.reduceTMod,Int.reduceTDiv,reduceCtorEq,fillA,AV.cells,AV.fine,AV.one,Nat.reduceAdd,Nat.reduceSub,Nat.reduceMul,Nat.reduceLT,Nat.reduceLeDiff,Int.reduceLT,Int.reduceLE,Int.reduceAdd,Int.reduceSub,Int.reduceNeg,Int.reduceMul,Int.reduceEq,Int.reduceToNat,nilA,moveA,live,loadA,rdA,storeA,wrA,intA,elemA,lenA,appA,srcA,isPtr,isNilPtr,partA,resOf,sliceA,cut,id,ap2,reduceIte,concs,chkB,geB,AOp.cls,AOp.xs,ltB,ltC,Nat.reduceBEq,Option.toList,List.cons_append,decide_eq_true,decide_eq_false,if_pos,if_neg,List.length_map,pA_at,List.cons_append,bVb,bVn,eq_self,Bool.and_self,BEq.rfl,not_true_eq_false,q1,q2];(first|((with_reducible refine hK _ ?_);clear hK K)|((with_reducible refine hK ?_);clear hK hK3 K hK2)|((with_reducible refine hK3 ?_);clear hK hK3 K hK2))))
        refine ⟨rfl,rfl,rfl,?_⟩
        rw [List.take_add_one,List.take_add_one,List.getElem?_eq_getElem hk,List.getElem?_eq_getElem hk3,hq,he]
      · obtain rfl := same_false hr hk hk3 he
        have hb:=pr_ne he
        repeat (first|with_reducible refine w_seq ?_|with_reducible refine w_reg ?_|with_reducible refine w_draw ?_|with_reducible refine w_block ?_|with_reducible refine w_skip ?_|with_reducible refine ws_nil ?_|with_reducible refine wd_nil ?_|with_reducible refine q_then ?_|with_reducible refine q_block_r ?_|with_reducible refine w_ret ?_|with_reducible refine q_then_r ?_|((first|with_reducible refine ks fun K hK=>?_|with_reducible refine kd fun K hK=>?_|with_reducible refine kc fun K hK2 hK hK3=>?_);simp (disch:=omega) only [bg0,bg1,bg2,bg3,bg4,stepO,rsAs,eff,AX.ev,St.put,binA,conc,ap1,ofVal,Int.reduceTMod,Int.reduceTDiv,reduceCtorEq,fillA,AV.cells,AV.fine,AV.one,Nat.reduceAdd,Nat.reduceSub,Nat.reduceMul,Nat.reduceLT,Nat.reduceLeDiff,Int.reduceLT,Int.reduceLE,Int.reduceAdd,Int.reduceSub,Int.reduceNeg,Int.reduceMul,Int.reduceEq,Int.reduceToNat,nilA,moveA,live,loadA,rdA,storeA,wrA,intA,elemA,lenA,appA,srcA,isPtr,isNilPtr,partA,resOf,sliceA,cut,id,ap2,reduceIte,concs,chkB,geB,AOp.cls,AOp.xs,ltB,ltC,Nat.reduceBEq,Option.toList,List.cons_append,decide_eq_true,decide_eq_false,if_pos,if_neg,List.length_map,pA_at,List.cons_append,bVb,bVn,eq_self,Bool.and_self,BEq.rfl,not_true_eq_false,hb];(first|((with_reducible refine hK _ ?_);clear hK K)|((with_reducible refine hK ?_);clear hK hK3 K hK2)|((with_reducible refine hK3 ?_);clear hK hK3 K hK2)))|((first|with_reducible refine ret_h fun K hK=>?_|with_reducible refine ret_hh rfl fun K hK=>?_|with_reducible refine ret_pp fun K hK=>?_);simp (disch:=omega) only [bg0,bg1,bg2,bg3,bg4,stepO,rsAs,eff,AX.ev,St.put,binA,conc,ap1,ofVal,Int.reduceTMod,Int.reduceTDiv,reduceCtorEq,fillA,AV.cells,AV.fine,AV.one,Nat.reduceAdd,Nat.reduceSub,Nat.reduceMul,Nat.reduceLT,Nat.reduceLeDiff,Int.reduceLT,Int.reduceLE,Int.reduceAdd,Int.reduceSub,Int.reduceNeg,Int.reduceMul,Int.reduceEq,Int.reduceToNat,nilA,moveA,live,loadA,rdA,storeA,wrA,intA,elemA,lenA,appA,srcA,isPtr,isNilPtr,partA,resOf,sliceA,cut,id,ap2,reduceIte,concs,chkB,geB,AOp.cls,AOp.xs,ltB,ltC,Nat.reduceBEq,Option.toList,List.cons_append,decide_eq_true,decide_eq_false,if_pos,if_neg,List.length_map,pA_at,List.cons_append,bVb,bVn,eq_self,Bool.and_self,BEq.rfl,not_true_eq_false,hb];(first|((with_reducible refine hK _ ?_ ?_ ?_ ?_);rotate_left 2;rfl;rfl)|((with_reducible refine hK _ ?_);rfl))))
    · rintro v H ⟨h5, rfl, hq⟩
      simp only [mix,mix_nil,mix_end,mix_skp,Nat.reduceEqDiff,Nat.reduceLeDiff,reduceCtorEq,if_true,if_false,reduceIte,Nat.reduceAdd,h5]
      obtain rfl:r=true:=hr.2 (by rwa [List.take_length,hn,List.take_length] at hq)
      repeat (first|with_reducible refine w_seq ?_|with_reducible refine w_reg ?_|with_reducible refine w_exit ?_|with_reducible refine ws_nil ?_|with_reducible refine q_then ?_|with_reducible refine q_then_x ?_|with_reducible refine q_block_x ?_|with_reducible refine w_ret ?_|((first|with_reducible refine ks fun K hK=>?_|with_reducible refine kd fun K hK=>?_|with_reducible refine kc fun K hK2 hK hK3=>?_);simp (disch:=omega) only [bg0,bg1,bg2,bg3,bg4,stepO,rsAs,eff,AX.ev,St.put,binA,conc,ap1,ofVal,Int.reduceTMod,Int.reduceTDiv,reduceCtorEq,fillA,AV.cells,AV.fine,AV.one,Nat.reduceAdd,Nat.reduceSub,Nat.reduceMul,Nat.reduceLT,Nat.reduceLeDiff,Int.reduceLT,Int.reduceLE,Int.reduceAdd,Int.reduceSub,Int.reduceNeg,Int.reduceMul,Int.reduceEq,Int.reduceToNat,nilA,moveA,live,loadA,rdA,storeA,wrA,intA,elemA,lenA,appA,srcA,isPtr,isNilPtr,partA,resOf,sliceA,cut,id,ap2,reduceIte,concs,chkB,geB,AOp.cls,AOp.xs,ltB,ltC,Nat.reduceBEq,Option.toList,List.cons_append,decide_eq_true,decide_eq_false,if_pos,if_neg,List.length_map,pA_at,List.cons_append,bVb,bVn,eq_self,Bool.and_self,BEq.rfl,not_true_eq_false];(first|((with_reducible refine hK _ ?_);clear hK K)|((with_reducible refine hK ?_);clear hK hK3 K hK2)|((with_reducible refine hK3 ?_);clear hK hK3 K hK2)))|((first|with_reducible refine ret_h fun K hK=>?_|with_reducible refine ret_hh rfl fun K hK=>?_|with_reducible refine ret_pp fun K hK=>?_);simp (disch:=omega) only [bg0,bg1,bg2,bg3,bg4,stepO,rsAs,eff,AX.ev,St.put,binA,conc,ap1,ofVal,Int.reduceTMod,Int.reduceTDiv,reduceCtorEq,fillA,AV.cells,AV.fine,AV.one,Nat.reduceAdd,Nat.reduceSub,Nat.reduceMul,Nat.reduceLT,Nat.reduceLeDiff,Int.reduceLT,Int.reduceLE,Int.reduceAdd,Int.reduceSub,Int.reduceNeg,Int.reduceMul,Int.reduceEq,Int.reduceToNat,nilA,moveA,live,loadA,rdA,storeA,wrA,intA,elemA,lenA,appA,srcA,isPtr,isNilPtr,partA,resOf,sliceA,cut,id,ap2,reduceIte,concs,chkB,geB,AOp.cls,AOp.xs,ltB,ltC,Nat.reduceBEq,Option.toList,List.cons_append,decide_eq_true,decide_eq_false,if_pos,if_neg,List.length_map,pA_at,List.cons_append,bVb,bVn,eq_self,Bool.and_self,BEq.rfl,not_true_eq_false];(first|((with_reducible refine hK _ ?_ ?_ ?_ ?_);rotate_left 2;rfl;rfl)|((with_reducible refine hK _ ?_);rfl))))
  · obtain rfl : r = false := by
      cases r with
      | false=>rfl
      | true=>exact absurd (by rw [hr.1 rfl]) hn
    repeat (first|with_reducible refine w_seq ?_|with_reducible refine w_reg ?_|with_reducible refine ws_nil ?_|with_reducible refine q_then ?_|with_reducible refine w_ret ?_|with_reducible refine q_then_r ?_|((first|with_reducible refine ks fun K hK=>?_|with_reducible refine kd fun K hK=>?_|with_reducible refine kc fun K hK2 hK hK3=>?_);simp (disch:=omega) only [bg0,bg1,bg2,bg3,bg4,stepO,rsAs,eff,AX.ev,St.put,binA,conc,ap1,ofVal,Int.reduceTMod,Int.reduceTDiv,reduceCtorEq,fillA,AV.cells,AV.fine,AV.one,Nat.reduceAdd,Nat.reduceSub,Nat.reduceMul,Nat.reduceLT,Nat.reduceLeDiff,Int.reduceLT,Int.reduceLE,Int.reduceAdd,Int.reduceSub,Int.reduceNeg,Int.reduceMul,Int.reduceEq,Int.reduceToNat,nilA,moveA,live,loadA,rdA,storeA,wrA,intA,elemA,lenA,appA,srcA,isPtr,isNilPtr,partA,resOf,sliceA,cut,id,ap2,reduceIte,concs,chkB,geB,AOp.cls,AOp.xs,ltB,ltC,Nat.reduceBEq,Option.toList,List.cons_append,decide_eq_true,decide_eq_false,if_pos,if_neg,List.length_map,pA_at,List.cons_append,bVb,bVn,eq_self,Bool.and_self,BEq.rfl,not_true_eq_false];(first|((with_reducible refine hK _ ?_);clear hK K)|((with_reducible refine hK ?_);clear hK hK3 K hK2)|((with_reducible refine hK3 ?_);clear hK hK3 K hK2)))|((first|with_reducible refine ret_h fun K hK=>?_|with_reducible refine ret_hh rfl fun K hK=>?_|with_reducible refine ret_pp fun K hK=>?_);simp (disch:=omega) only [bg0,bg1,bg2,bg3,bg4,stepO,rsAs,eff,AX.ev,St.put,binA,conc,ap1,ofVal,Int.reduceTMod,Int.reduceTDiv,reduceCtorEq,fillA,AV.cells,AV.fine,AV.one,Nat.reduceAdd,Nat.reduceSub,Nat.reduceMul,Nat.reduceLT,Nat.reduceLeDiff,Int.reduceLT,Int.reduceLE,Int.reduceAdd,Int.reduceSub,Int.reduceNeg,Int.reduceMul,Int.reduceEq,Int.reduceToNat,nilA,moveA,live,loadA,rdA,storeA,wrA,intA,elemA,lenA,appA,srcA,isPtr,isNilPtr,partA,resOf,sliceA,cut,id,ap2,reduceIte,concs,chkB,geB,AOp.cls,AOp.xs,ltB,ltC,Nat.reduceBEq,Option.toList,List.cons_append,decide_eq_true,decide_eq_false,if_pos,if_neg,List.length_map,pA_at,List.cons_append,bVb,bVn,eq_self,Bool.and_self,BEq.rfl,not_true_eq_false];(first|((with_reducible refine hK _ ?_ ?_ ?_ ?_);rotate_left 2;rfl;rfl)|((with_reducible refine hK _ ?_);rfl))))
end Go.Proofs.Ytnammfeiehikfaa.Sim.Pr7
namespace Go.Proofs.Ytnammfeiehikfaa.Sim
open Go.RowKit
set_option maxRecDepth 100000
def BareP (ke va:ByteArray) (mp:Int) (kk:List Int) (mn:Int) (ls:List Pr) (b c m l:Bool):Prop :=
  (b=true→ke=ByteArray.mk #[]∧va=ByteArray.mk #[])∧(c=true→mp=0∧¬ (0:Int) < (kk.length:Nat))∧(m=true→mn=0)∧(l=true→((ls.length:Nat):Int)=0)
def FormP (kn:Int) (ke va:ByteArray) (mp:Nat) (kk:List Int) (mn:Int) (ls:List Pr) (sz bi:Int):Prop :=
  ¬ bi < 0∧(((kn=1∨kn=6)∧sz=1∧BareP ke va mp kk mn ls false true true true)∨(kn=2∧¬ (0:Int) ∈ kk∧((kk.length:Nat):Int)=((upI mp 32).length:Nat)∧0≤sz∧BareP ke va mp kk mn ls true false true true) ∨
    (kn=3∧(2:Int)≤(ls.length:Nat)∧Pr7.SLt ls∧sz=(ls.length:Nat)∧BareP ke va mp kk mn ls true true true false)∨(kn=4∧(mp:Int)=0∧((kk.length:Nat):Int)=2∧1≤sz∧BareP ke va mp kk mn ls false false true true) ∨
    (kn=5∧¬ mn=0∧sz=0∧BareP ke va mp kk mn ls true true false true))
end Go.Proofs.Ytnammfeiehikfaa.Sim
namespace Go.Proofs.Ytnammfeiehikfaa.Sim.Pr7
open Go.RowKit
set_option maxRecDepth 100000
theorem set_pA {C:List Pr} {p:Nat} {x:Pr}:(C.map pA).set p (.agg [S x.1,S x.2])=(C.set p x).map pA:=by
  rw [List.map_set];rfl
def px (D:List Pr) (f:Nat→Nat):List Pr:=(List.range D.length).map fun x=>D.getD (f x) default
theorem px_len {D:List Pr} {f:Nat→Nat}:(px D f).length=D.length:=by simp [px]
theorem px_at {D:List Pr} {f:Nat→Nat} {x:Nat}:(px D f)[x]? = if x < D.length then some (D.getD (f x) default) else none:=by
  unfold px
  rw [List.getElem?_map]
  by_cases h:x < D.length
  · rw [List.getElem?_range h,if_pos h];rfl
  · rw [if_neg h,List.getElem?_eq_none (by simpa using h)];rfl
theorem px_get {D:List Pr} {f:Nat→Nat} {x:Nat} (h:x < (px D f).length):(px D f)[x]=D.getD (f x) default:=by
  have h2:x < D.length:=by rwa [px_len] at h
  have:=px_at (D:=D) (f:=f) (x:=x)
  rw [if_pos h2,List.getElem?_eq_getElem h] at this
  exact Option.some.inj this
theorem px_congr {D:List Pr} {f g:Nat→Nat} (h:∀ x,x < D.length→f x=g x):px D f=px D g:=by
  apply List.ext_getElem?
  intro x
  rw [px_at,px_at]
  by_cases hx:x < D.length
  · rw [if_pos hx,if_pos hx,h x hx]
  · rw [if_neg hx,if_neg hx]
theorem px_id {D:List Pr}:px D (fun x=>x)=D:=by
  apply List.ext_getElem?
  intro x
  rw [px_at]
  by_cases hx:x < D.length
  · rw [if_pos hx,List.getD_eq_getElem?_getD,List.getElem?_eq_getElem hx];rfl
  · rw [if_neg hx,List.getElem?_eq_none (by omega)]
theorem px_px {D:List Pr} {f g:Nat→Nat} (h:∀ x,x < D.length→g x < D.length):px (px D f) g=px D (fun x=>f (g x)):=by
  apply List.ext_getElem?
  intro x
  rw [px_at,px_at,px_len]
  by_cases hx:x < D.length
  · rw [if_pos hx,if_pos hx,List.getD_eq_getElem?_getD,px_at,if_pos (h x hx)];rfl
  · rw [if_neg hx,if_neg hx]
theorem px_set {D : List Pr} {f : Nat → Nat} {p q : Nat} (hp : p < (px D f).length) (hq : q < (px D f).length) :
    ((px D f).set p (px D f)[q]).set q (px D f)[p]=px D (fun x=>if x=q then f p else if x=p then f q else f x):=by
  apply List.ext_getElem?
  intro x
  rw [List.getElem?_set,List.getElem?_set,px_at,px_at,px_get hp,px_get hq]
  simp only [List.length_set,px_len] at *
  by_cases h1:q=x
  · subst h1;simp [hq]
  · by_cases h2 : p = x
    · subst h2;simp [hp,h1,Ne.symm h1]
    · simp [h1,h2,Ne.symm h1,Ne.symm h2]
def swf (a b n x:Nat):Nat:=if a≤x∧x < a+n then b+(x - a) else if b≤x∧x < b+n then a+(x - b) else x
abbrev rw0 (D:List Pr) (g:Nat):OB:=⟨72,2,D.map pA,g,0⟩
theorem rw0_eq {D E:List Pr} {g:Nat} (h:D=E):[rw0 D g]=[rw0 E g]:=by rw [h]
set_option maxHeartbeats 4000000 in
theorem swp46 (G : Nat → AV) (D : List Pr) (g a b n : Nat) (hN : D.length ≤ 1000000) (h1 : a + n ≤ b) (h2 : b + n ≤ D.length) (cf : AV) :
    HC Try.prog G 74 [.ol 0 g D.length,I a,I b,I n,cf] [rw0 D g] (.tup []) [rw0 (px D (swf a b n)) g]:=by
  refine hc_of cop74 ?_
  show W _ _ _ _ ⟨_,_⟩;simp only [A74,List.cons_append,List.nil_append,List.length_cons,List.length_nil,Nat.reduceAdd,Nat.reduceSub,List.replicate]
  repeat (first|with_reducible refine w_seq ?_|with_reducible refine w_reg ?_|with_reducible refine w_block ?_|with_reducible refine ws_nil ?_|with_reducible refine q_then ?_|((first|with_reducible refine ks fun K hK=>?_|with_reducible refine kd fun K hK=>?_|with_reducible refine kc fun K hK2 hK hK3=>?_);simp (disch:=omega) only [bg0,bg1,bg2,bg3,bg4,stepO,rsAs,eff,AX.ev,St.put,binA,conc,ap1,ofVal,Int.reduceTMod,Int.reduceTDiv,reduceCtorEq,fillA,AV.cells,AV.fine,AV.one,Nat.reduceAdd,Nat.reduceSub,Nat.reduceMul,Nat.reduceLT,Nat.reduceLeDiff,Int.reduceLT,Int.reduceLE,Int.reduceAdd,Int.reduceSub,Int.reduceNeg,Int.reduceMul,Int.reduceEq,Int.reduceToNat,nilA,moveA,live,loadA,rdA,storeA,wrA,intA,elemA,lenA,appA,srcA,isPtr,isNilPtr,partA,resOf,sliceA,cut,id,ap2,reduceIte,concs,chkB,geB,AOp.cls,AOp.xs,ltB,ltC,Nat.reduceBEq,Option.toList,List.cons_append,decide_eq_true,decide_eq_false,if_pos,if_neg,List.length_map,pA_at,List.cons_append,bVb,bVn,eq_self,Bool.and_self,BEq.rfl,not_true_eq_false,set_pA,List.length_set];(first|((with_reducible refine hK _ ?_);clear hK K)|((with_reducible refine hK ?_);clear hK hK3 K hK2)|((with_reducible refine hK3 ?_);clear hK hK3 K hK2))))
  refine w_loop_m [10,11,12,13,14,15,16,17,18,19,20,21,22,23,24,25,26,27,28,29,30,31,32,33,34,35,36,37] (fun k v H=>v 10=I k∧H=[rw0 (px D (swf a b k)) g]) n ⟨rfl,?_⟩ ?_ ?_
  · refine rw0_eq ?_
    have e:px D (swf a b 0)=px D (fun x=>x):=px_congr fun x _=>by
      simp only [swf]
      repeat' split
      all_goals omega
    rw [e,px_id]
  · rintro k v H hk ⟨h10, rfl⟩
    have hl:(px D (swf a b k)).length=D.length:=px_len
    have hp:a+k < (px D (swf a b k)).length:=by omega
    have hq:b+k < (px D (swf a b k)).length:=by omega
    have hs:=px_set hp hq
    generalize px D (swf a b k)=C at hl hp hq hs
    have q1:=pA_at (l:=C.set (a+k) C[b+k]) (k:=b+k) (by simp;omega)
    have e1:((a:Int)+(k:Int)).toNat=a+k:=by omega
    have e2:((b:Int)+(k:Int)).toNat=b+k:=by omega
    simp only [mix,mix_nil,mix_end,mix_skp,Nat.reduceEqDiff,Nat.reduceLeDiff,reduceCtorEq,if_true,if_false,reduceIte,Nat.reduceAdd,h10]
    repeat (first|with_reducible refine w_seq ?_|with_reducible refine w_reg ?_|(with_reducible refine w_drawx2 ?_ ?_ ?_ ?_;rotate_left 1)|with_reducible exact isSt|with_reducible refine w_block ?_|with_reducible refine w_skip ?_|with_reducible refine ws_nil ?_|with_reducible refine wd_nil ?_|with_reducible refine q_then ?_|with_reducible refine q_block_n ?_|((first|with_reducible refine ks fun K hK=>?_|with_reducible refine kd fun K hK=>?_|with_reducible refine kc fun K hK2 hK hK3=>?_);simp (disch:=omega) only [bg0,bg1,bg2,bg3,bg4,stepO,rsAs,eff,AX.ev,St.put,binA,conc,ap1,ofVal,Int.reduceTMod,Int.reduceTDiv,reduceCtorEq,fillA,AV.cells,AV.fine,AV.one,Nat.reduceAdd,Nat.reduceSub,Nat.reduceMul,Nat.reduceLT,Nat.reduceLeDiff,Int.reduceLT,Int.reduceLE,Int.reduceAdd,Int.reduceSub,Int.reduceNeg,Int.reduceMul,Int.reduceEq,Int.reduceToNat,nilA,moveA,live,loadA,rdA,storeA,wrA,intA,elemA,lenA,appA,srcA,isPtr,isNilPtr,partA,resOf,sliceA,cut,id,ap2,reduceIte,concs,chkB,geB,AOp.cls,AOp.xs,ltB,ltC,Nat.reduceBEq,Option.toList,List.cons_append,decide_eq_true,decide_eq_false,if_pos,if_neg,List.length_map,pA_at,List.cons_append,bVb,bVn,eq_self,Bool.and_self,BEq.rfl,not_true_eq_false,set_pA,List.length_set,e1,e2,q1];(first|((with_reducible refine hK _ ?_);clear hK K)|((with_reducible refine hK ?_);clear hK hK3 K hK2)|((with_reducible refine hK3 ?_);clear hK hK3 K hK2))))
    refine ⟨rfl,rfl,rw0_eq (hs.trans (px_congr fun x hx=>?_))⟩
    simp only [swf]
    repeat' split
    all_goals omega
  · rintro v H ⟨h10, rfl⟩
    simp only [mix,mix_nil,mix_end,mix_skp,Nat.reduceEqDiff,Nat.reduceLeDiff,reduceCtorEq,if_true,if_false,reduceIte,Nat.reduceAdd,h10]
    repeat (first|with_reducible refine w_seq ?_|with_reducible refine w_reg ?_|with_reducible refine w_exit ?_|with_reducible refine ws_nil ?_|with_reducible refine q_then ?_|with_reducible refine q_then_x ?_|with_reducible refine q_block_x ?_|((first|with_reducible refine ks fun K hK=>?_|with_reducible refine kd fun K hK=>?_|with_reducible refine kc fun K hK2 hK hK3=>?_);simp (disch:=omega) only [bg0,bg1,bg2,bg3,bg4,stepO,rsAs,eff,AX.ev,St.put,binA,conc,ap1,ofVal,Int.reduceTMod,Int.reduceTDiv,reduceCtorEq,fillA,AV.cells,AV.fine,AV.one,Nat.reduceAdd,Nat.reduceSub,Nat.reduceMul,Nat.reduceLT,Nat.reduceLeDiff,Int.reduceLT,Int.reduceLE,Int.reduceAdd,Int.reduceSub,Int.reduceNeg,Int.reduceMul,Int.reduceEq,Int.reduceToNat,nilA,moveA,live,loadA,rdA,storeA,wrA,intA,elemA,lenA,appA,srcA,isPtr,isNilPtr,partA,resOf,sliceA,cut,id,ap2,reduceIte,concs,chkB,geB,AOp.cls,AOp.xs,ltB,ltC,Nat.reduceBEq,Option.toList,List.cons_append,decide_eq_true,decide_eq_false,if_pos,if_neg,List.length_map,pA_at,List.cons_append,bVb,bVn,eq_self,Bool.and_self,BEq.rfl,not_true_eq_false,set_pA,List.length_set];(first|((with_reducible refine hK _ ?_);clear hK K)|((with_reducible refine hK ?_);clear hK hK3 K hK2)|((with_reducible refine hK3 ?_);clear hK hK3 K hK2)))|((with_reducible refine ret_0 ?_);try rfl))
def rtf (a m b x:Nat):Nat:=if a≤x∧x < a+(b - m) then m+(x - a) else if a+(b - m)≤x∧x < b then x - (b - m) else x
theorem rtf_lt {a m b x N:Nat} (h1:a≤m) (h2:m≤b) (h3:b≤N) (hx:x < N):rtf a m b x < N:=by
  unfold rtf;repeat' split
  all_goals omega
theorem rt_gt {C:List Pr} {m i j:Nat} (hij:j < i) (hj:0 < j) (hi:i≤m) (hb:m+j≤C.length):px (px C (swf (m - i) m j)) (rtf (m - (i - j)) m (m+j))=px C (rtf (m - i) m (m+j)):=by
  rw [px_px fun x hx=>rtf_lt (by omega) (by omega) hb hx]
  refine px_congr fun x hx=>?_
  simp only [swf,rtf]
  repeat' split
  all_goals omega
theorem rt_lt {C:List Pr} {m i j:Nat} (hij:i < j) (hi0:0 < i) (hi:i≤m) (hb:m+j≤C.length):px (px C (swf (m - i) (m+j - i) i)) (rtf (m - i) m (m+(j - i)))=px C (rtf (m - i) m (m+j)):=by
  rw [px_px fun x hx=>rtf_lt (by omega) (by omega) (by omega) hx]
  refine px_congr fun x hx=>?_
  simp only [swf,rtf]
  repeat' split
  all_goals omega
theorem rt_eq {C:List Pr} {m i:Nat} (hi:i≤m) (hb:m+i≤C.length):px C (swf (m - i) m i)=px C (rtf (m - i) m (m+i)):=by
  refine px_congr fun x hx=>?_
  simp only [swf,rtf]
  repeat' split
  all_goals omega
set_option maxHeartbeats 4000000 in
theorem rot45 (G : Nat → AV) (D : List Pr) (g a m b : Nat) (hN : D.length ≤ 1000000) (h1 : a < m) (h2 : m < b) (h3 : b ≤ D.length) (cf : AV) :
    HC Try.prog G 73 [.ol 0 g D.length,I a,I m,I b,cf] [rw0 D g] (.tup []) [rw0 (px D (rtf a m b)) g]:=by
  refine hc_of cop73 ?_
  show W _ _ _ _ ⟨_,_⟩;simp only [A73,List.cons_append,List.nil_append,List.length_cons,List.length_nil,Nat.reduceAdd,Nat.reduceSub,List.replicate]
  repeat (first|with_reducible refine w_seq ?_|with_reducible refine w_reg ?_|with_reducible refine w_block ?_|with_reducible refine ws_nil ?_|with_reducible refine q_then ?_|((first|with_reducible refine ks fun K hK=>?_|with_reducible refine kd fun K hK=>?_|with_reducible refine kc fun K hK2 hK hK3=>?_);simp (disch:=omega) only [bg0,bg1,bg2,bg3,bg4,stepO,rsAs,eff,AX.ev,St.put,binA,conc,ap1,ofVal,Int.reduceTMod,Int.reduceTDiv,reduceCtorEq,fillA,AV.cells,AV.fine,AV.one,Nat.reduceAdd,Nat.reduceSub,Nat.reduceMul,Nat.reduceLT,Nat.reduceLeDiff,Int.reduceLT,Int.reduceLE,Int.reduceAdd,Int.reduceSub,Int.reduceNeg,Int.reduceMul,Int.reduceEq,Int.reduceToNat,nilA,moveA,live,loadA,rdA,storeA,wrA,intA,elemA,lenA,appA,srcA,isPtr,isNilPtr,partA,resOf,sliceA,cut,id,ap2,reduceIte,concs,chkB,geB,AOp.cls,AOp.xs,ltB,ltC,Nat.reduceBEq,Option.toList,List.cons_append,decide_eq_true,decide_eq_false,if_pos,if_neg,List.length_map,pA_at,List.cons_append,bVb,bVn,eq_self,Bool.and_self,BEq.rfl,not_true_eq_false,set_pA,List.length_set];(first|((with_reducible refine hK _ ?_);clear hK K)|((with_reducible refine hK ?_);clear hK hK3 K hK2)|((with_reducible refine hK3 ?_);clear hK hK3 K hK2))))
  refine w_loop_d [10,11,18,19,20,21,22,23,24,25,26,27,28,29,30,31,32,33,34,35,36,37,38,39,40,41,42,43,44,45,46,47,48,49] (fun u v H=>∃ (i j:Nat) (C:List Pr),u=i+j∧v 10=I i∧v 11=I j∧H=[rw0 C g]∧C.length=D.length∧0 < i∧0 < j∧i≤m - a∧j≤b - m∧px C (rtf (m - i) m (m+j))=px D (rtf a m b)) (b - a) ⟨m - a,b - m,D,by omega,by simp [at_];omega,by simp [at_];omega,rfl,rfl,by omega,by omega,by omega,by omega,by rw [show m - (m - a)=a by omega,show m+(b - m)=b by omega]⟩ ?_
  rintro u v H ⟨i,j,C,rfl,h10,h11,rfl,hl,hi,hj,hi2,hj2,hpx⟩
  simp only [mix,mix_nil,mix_end,mix_skp,Nat.reduceEqDiff,Nat.reduceLeDiff,reduceCtorEq,if_true,if_false,reduceIte,Nat.reduceAdd,h10,h11]
  have e1:(m:Int) - (i:Int)=((m - i:Nat):Int):=by omega
  by_cases hij:i=j
  · subst hij
    rw [← hpx,← rt_eq (by omega) (by omega),← hl]
    repeat (first|with_reducible refine w_seq ?_|with_reducible refine w_reg ?_|with_reducible refine w_exit ?_|with_reducible refine ws_nil ?_|with_reducible refine q_then ?_|with_reducible refine q_then_x ?_|with_reducible refine q_block_x ?_|((first|with_reducible refine ks fun K hK=>?_|with_reducible refine kd fun K hK=>?_|with_reducible refine kc fun K hK2 hK hK3=>?_);simp (disch:=omega) only [bg0,bg1,bg2,bg3,bg4,stepO,rsAs,eff,AX.ev,St.put,binA,conc,ap1,ofVal,Int.reduceTMod,Int.reduceTDiv,reduceCtorEq,fillA,AV.cells,AV.fine,AV.one,Nat.reduceAdd,Nat.reduceSub,Nat.reduceMul,Nat.reduceLT,Nat.reduceLeDiff,Int.reduceLT,Int.reduceLE,Int.reduceAdd,Int.reduceSub,Int.reduceNeg,Int.reduceMul,Int.reduceEq,Int.reduceToNat,nilA,moveA,live,loadA,rdA,storeA,wrA,intA,elemA,lenA,appA,srcA,isPtr,isNilPtr,partA,resOf,sliceA,cut,id,ap2,reduceIte,concs,chkB,geB,AOp.cls,AOp.xs,ltB,ltC,Nat.reduceBEq,Option.toList,List.cons_append,decide_eq_true,decide_eq_false,if_pos,if_neg,List.length_map,pA_at,List.cons_append,bVb,bVn,eq_self,Bool.and_self,BEq.rfl,not_true_eq_false,set_pA,List.length_set,e1];(first|((with_reducible refine hK _ ?_);clear hK K)|((with_reducible refine hK ?_);clear hK hK3 K hK2)|((with_reducible refine hK3 ?_);clear hK hK3 K hK2)))|((with_reducible refine khs 74 ?_ ?_ ?_ ?_);rotate_left 2;exact (swp46 G C g (m - i) m i (by omega) (by omega) (by omega) cf))|((with_reducible refine ret_0 ?_);try rfl))
  · by_cases hgt : j < i
    · have hn : ¬ ((i : Int) = (j : Int)) := by omega
      have hg:(j:Int) < (i:Int):=by omega
      have e2:(i:Int) - (j:Int)=((i - j:Nat):Int):=by omega
      rw [← hl]
      repeat (first|with_reducible refine w_seq ?_|with_reducible refine w_reg ?_|with_reducible refine w_block ?_|with_reducible refine w_skip ?_|with_reducible refine ws_nil ?_|with_reducible refine q_then ?_|with_reducible refine q_block_n ?_|((first|with_reducible refine ks fun K hK=>?_|with_reducible refine kd fun K hK=>?_|with_reducible refine kc fun K hK2 hK hK3=>?_);simp (disch:=omega) only [bg0,bg1,bg2,bg3,bg4,stepO,rsAs,eff,AX.ev,St.put,binA,conc,ap1,ofVal,Int.reduceTMod,Int.reduceTDiv,reduceCtorEq,fillA,AV.cells,AV.fine,AV.one,Nat.reduceAdd,Nat.reduceSub,Nat.reduceMul,Nat.reduceLT,Nat.reduceLeDiff,Int.reduceLT,Int.reduceLE,Int.reduceAdd,Int.reduceSub,Int.reduceNeg,Int.reduceMul,Int.reduceEq,Int.reduceToNat,nilA,moveA,live,loadA,rdA,storeA,wrA,intA,elemA,lenA,appA,srcA,isPtr,isNilPtr,partA,resOf,sliceA,cut,id,ap2,reduceIte,concs,chkB,geB,AOp.cls,AOp.xs,ltB,ltC,Nat.reduceBEq,Option.toList,List.cons_append,decide_eq_true,decide_eq_false,if_pos,if_neg,List.length_map,pA_at,List.cons_append,bVb,bVn,eq_self,Bool.and_self,BEq.rfl,not_true_eq_false,set_pA,List.length_set,e1,e2,hn,hg];(first|((with_reducible refine hK _ ?_);clear hK K)|((with_reducible refine hK ?_);clear hK hK3 K hK2)|((with_reducible refine hK3 ?_);clear hK hK3 K hK2)))|((with_reducible refine khs 74 ?_ ?_ ?_ ?_);rotate_left 2;exact (swp46 G C g (m - i) m j (by omega) (by omega) (by omega) cf)))
      exact ⟨rfl,i,by omega,i - j,j,_,by omega,rfl,rfl,rfl,by rw [px_len,hl],by omega,hj,by omega,hj2,by rw [rt_gt hgt hj (by omega) (by omega)];exact hpx⟩
    · have hn : ¬ ((i : Int) = (j : Int)) := by omega
      have hg:¬ (j:Int) < (i:Int):=by omega
      have e2:(j:Int) - (i:Int)=((j - i:Nat):Int):=by omega
      have e3:(m:Int)+(j:Int) - (i:Int)=((m+j - i:Nat):Int):=by omega
      rw [← hl]
      repeat (first|with_reducible refine w_seq ?_|with_reducible refine w_reg ?_|with_reducible refine w_block ?_|with_reducible refine w_skip ?_|with_reducible refine ws_nil ?_|with_reducible refine q_then ?_|with_reducible refine q_block_n ?_|((first|with_reducible refine ks fun K hK=>?_|with_reducible refine kd fun K hK=>?_|with_reducible refine kc fun K hK2 hK hK3=>?_);simp (disch:=omega) only [bg0,bg1,bg2,bg3,bg4,stepO,rsAs,eff,AX.ev,St.put,binA,conc,ap1,ofVal,Int.reduceTMod,Int.reduceTDiv,reduceCtorEq,fillA,AV.cells,AV.fine,AV.one,Nat.reduceAdd,Nat.reduceSub,Nat.reduceMul,Nat.reduceLT,Nat.reduceLeDiff,Int.reduceLT,Int.reduceLE,Int.reduceAdd,Int.reduceSub,Int.reduceNeg,Int.reduceMul,Int.reduceEq,Int.reduceToNat,nilA,moveA,live,loadA,rdA,storeA,wrA,intA,elemA,lenA,appA,srcA,isPtr,isNilPtr,partA,resOf,sliceA,cut,id,ap2,reduceIte,concs,chkB,geB,AOp.cls,AOp.xs,ltB,ltC,Nat.reduceBEq,Option.toList,List.cons_append,decide_eq_true,decide_eq_false,if_pos,if_neg,List.length_map,pA_at,List.cons_append,bVb,bVn,eq_self,Bool.and_self,BEq.rfl,not_true_eq_false,set_pA,List.length_set,e1,e2,e3,hn,hg];(first|((with_reducible refine hK _ ?_);clear hK K)|((with_reducible refine hK ?_);clear hK hK3 K hK2)|((with_reducible refine hK3 ?_);clear hK hK3 K hK2)))|((with_reducible refine khs 74 ?_ ?_ ?_ ?_);rotate_left 2;exact (swp46 G C g (m - i) (m+j - i) i (by omega) (by omega) (by omega) cf)))
      exact ⟨rfl,j,by omega,i,j - i,_,by omega,rfl,rfl,rfl,by rw [px_len,hl],hi,by omega,hi2,by omega,by rw [rt_lt (by omega) hi (by omega) (by omega)];exact hpx⟩
end Go.Proofs.Ytnammfeiehikfaa.Sim.Pr7
namespace Go.Proofs.Ytnammfeiehikfaa.Sim.Pr7
open Go.RowKit
set_option maxRecDepth 100000
abbrev cF:AV:=.v (.func (.func 68) #[] #[])
set_option maxHeartbeats 4000000 in
theorem cmp29 (G:Nat→AV) (a b c d:ByteArray) (ha:a.size≤9223372036854775807) (hc:c.size≤9223372036854775807):PC Try.prog G 68 [.agg [S a,S b],.agg [S c,S d]] (I (cB a c)):=by
  refine pc_of cop68 ?_
  show W _ _ _ _ ⟨_,_⟩;simp only [A68,List.cons_append,List.nil_append,List.length_cons,List.length_nil,Nat.reduceAdd,Nat.reduceSub,List.replicate]
  repeat (first|with_reducible refine w_seq ?_|with_reducible refine w_reg ?_|with_reducible refine ws_nil ?_|with_reducible refine q_then ?_|with_reducible refine w_ret ?_|((first|with_reducible refine ks fun K hK=>?_|with_reducible refine kd fun K hK=>?_|with_reducible refine kc fun K hK2 hK hK3=>?_);simp (disch:=omega) only [bg0,bg1,bg2,bg3,bg4,stepO,rsAs,eff,AX.ev,St.put,binA,conc,ap1,ofVal,Int.reduceTMod,Int.reduceTDiv,reduceCtorEq,fillA,AV.cells,AV.fine,AV.one,Nat.reduceAdd,Nat.reduceSub,Nat.reduceMul,Nat.reduceLT,Nat.reduceLeDiff,Int.reduceLT,Int.reduceLE,Int.reduceAdd,Int.reduceSub,Int.reduceNeg,Int.reduceMul,Int.reduceEq,Int.reduceToNat,nilA,moveA,live,loadA,rdA,storeA,wrA,intA,elemA,lenA,appA,srcA,isPtr,isNilPtr,partA,resOf,sliceA,cut,id,ap2,reduceIte,concs,chkB,geB,AOp.cls,AOp.xs,ltB,ltC,Nat.reduceBEq,Option.toList,List.cons_append,decide_eq_true,decide_eq_false,if_pos,if_neg,List.length_map,List.cons_append,bVb,bVn,eq_self,Bool.and_self,BEq.rfl,not_true_eq_false,set_pA,List.length_set];(first|((with_reducible refine hK _ ?_);clear hK K)|((with_reducible refine hK ?_);clear hK hK3 K hK2)|((with_reducible refine hK3 ?_);clear hK hK3 K hK2)))|((with_reducible refine kps 60 ?_ ?_ ?_ ?_);rotate_left 1;rfl;exact (by refine cmpP G _ _ ?_ ?_<;>assumption))|((first|with_reducible refine ret_h fun K hK=>?_|with_reducible refine ret_hh rfl fun K hK=>?_|with_reducible refine ret_pp fun K hK=>?_);simp (disch:=omega) only [bg0,bg1,bg2,bg3,bg4,stepO,rsAs,eff,AX.ev,St.put,binA,conc,ap1,ofVal,Int.reduceTMod,Int.reduceTDiv,reduceCtorEq,fillA,AV.cells,AV.fine,AV.one,Nat.reduceAdd,Nat.reduceSub,Nat.reduceMul,Nat.reduceLT,Nat.reduceLeDiff,Int.reduceLT,Int.reduceLE,Int.reduceAdd,Int.reduceSub,Int.reduceNeg,Int.reduceMul,Int.reduceEq,Int.reduceToNat,nilA,moveA,live,loadA,rdA,storeA,wrA,intA,elemA,lenA,appA,srcA,isPtr,isNilPtr,partA,resOf,sliceA,cut,id,ap2,reduceIte,concs,chkB,geB,AOp.cls,AOp.xs,ltB,ltC,Nat.reduceBEq,Option.toList,List.cons_append,decide_eq_true,decide_eq_false,if_pos,if_neg,List.length_map,List.cons_append,bVb,bVn,eq_self,Bool.and_self,BEq.rfl,not_true_eq_false,set_pA,List.length_set];(first|((with_reducible refine hK _ ?_ ?_ ?_ ?_);rotate_left 2;rfl;rfl)|((with_reducible refine hK _ ?_);rfl))))
theorem cmpC (G:Nat→AV) (H:Hp) {p q:Pr} (ha:p.1.size≤9223372036854775807) (hc:q.1.size≤9223372036854775807):HC Try.prog G 68 [.agg [S p.1,S p.2],.agg [S q.1,S q.2]] H (I (cB p.1 q.1)) H:=hc_pc rfl (cmp29 G _ _ _ _ ha hc) H
theorem pAq {C:List Pr} {k:Nat} {p:Pr} (h:C[k]? = some p):(C.map pA)[k]? = some (.agg [S p.1,S p.2]):=by rw [List.getElem?_map,h];rfl
theorem ssort_mem {l:List Pr} {x:Pr}:x ∈ ssort l↔x ∈ l:=by
  have h1:x ∈ ssort l↔x ∈ fk x.1 (ssort l):=⟨fun h=>mem_fk.2 ⟨h,rfl⟩,fun h=>(mem_fk.1 h).1⟩
  have h2:x ∈ l↔x ∈ fk x.1 l:=⟨fun h=>mem_fk.2 ⟨h,rfl⟩,fun h=>(mem_fk.1 h).1⟩
  rw [h1,h2,ssort_fk]
theorem ins_len {p:Pr}:∀ {n:List Pr},(ins p n).length=n.length+1
  | []=>rfl
  | q::n=>by unfold ins;split<;>simp [ins_len (n:=n)]
theorem ssort_len:∀ {l:List Pr},(ssort l).length=l.length
  | []=>rfl
  | p::l=>by rw [ssort,ins_len,ssort_len (l:=l)];rfl
theorem ins_at {S S1 S2:List Pr} {x:Pr} {L:List Pr} (hS:S1++S2=ssort L) (h1:∀ p ∈ S1,cB p.1 x.1≤0) (h2:∀ q ∈ S2,cB x.1 q.1 < 0):S1++x::S2=ssort (L++[x]):=by
  have hle:SLe (S1++S2):=by rw [hS];exact ssort_le L
  obtain ⟨a1,a2,a3⟩:=List.pairwise_append.1 hle
  refine srt_uniq ?_ (ssort_le _) fun k=>?_
  · refine List.pairwise_append.2 ⟨a1,List.pairwise_cons.2 ⟨fun q hq=>by have:=h2 q hq;omega,a2⟩,fun p hp q hq=>?_⟩
    rcases List.mem_cons.1 hq with rfl|hq
    · exact h1 p hp
    · exact a3 p hp q hq
  · rw [ssort_fk, fk_append, fk_append, fk_cons, fk_cons, fk_nil, ← ssort_fk L, ← hS, fk_append]
    by_cases hx:x.1=k
    · have : fk k S2 = [] := fk_none.2 fun q hq e => by
        have:=h2 q hq
        rw [e,hx,cB_self] at this
        omega
      simp [hx,this]
    · simp [hx]
theorem at_mid {P S R:List Pr} {x:Pr} {k:Nat} (hk:k=P.length+S.length):(P++(S++x::R))[k]? = some x:=by
  subst hk
  rw [List.getElem?_append_right (by omega),List.getElem?_append_right (by omega)]
  simp
theorem at_pre {P S R:List Pr} {x y:Pr} {k:Nat} (hk:k=P.length+S.length):(P++(S++[y]++x::R))[k]? = some y:=by
  have:=at_mid (P:=P) (S:=S) (x:=y) (R:=x::R) hk
  simpa using this
theorem sw_mid {P S R:List Pr} {x y:Pr} {k:Nat} (hk:k=P.length+S.length):((P++(S++[y]++x::R)).set (k+1) y).set k x=P++(S++x::y::R):=by
  subst hk
  have e:P++(S++[y]++x::R)=(P++S)++y::x::R:=by simp
  have e2:P++(S++x::y::R)=(P++S)++x::y::R:=by simp
  rw [e,e2,show P.length+S.length=(P++S).length from (List.length_append).symm,List.set_append_right _ _ (by omega),List.set_append_right _ _ (by omega)]
  simp
def seg (D:List Pr) (a b:Nat):List Pr:=(D.take b).drop a
def srt (D:List Pr) (a b:Nat):List Pr:=D.take a++(ssort (seg D a b)++D.drop b)
theorem srt_one {D:List Pr} {a b:Nat} (h:b≤a+1) (hb:b≤D.length) (hab:a≤b):srt D a b=D:=by
  have e:ssort (seg D a b)=seg D a b:=by
    have:(seg D a b).length≤1:=by simp [seg];omega
    match h:seg D a b,this with
    | [],_=>rfl
    | [p],_=>rfl
  unfold srt
  rw [e]
  unfold seg
  have h1:D.take b=D.take a++(D.take b).drop a:=by
    have:=List.take_append_drop a (D.take b)
    rw [List.take_take,Nat.min_eq_left hab] at this
    exact this.symm
  rw [← List.append_assoc,← h1,List.take_append_drop]
theorem seg_succ {D:List Pr} {a i:Nat} (ha:a≤i) (hi:i < D.length):seg D a (i+1)=seg D a i++[D[i]]:=by
  unfold seg
  rw [List.take_add_one,List.getElem?_eq_getElem hi,List.drop_append_of_le_length (by simp;omega)]
  rfl
theorem seg_len {D:List Pr} {a b:Nat} (hb:b≤D.length):(seg D a b).length=b - a:=by simp [seg];omega
theorem seg_mem {D:List Pr} {a b:Nat} {x:Pr} (h:x ∈ seg D a b):x ∈ D:=List.mem_of_mem_take (List.mem_of_mem_drop h)
theorem le_all {S:List Pr} {y:Pr} {x:ByteArray} {R:List Pr} (h:SLe (S++[y]++R)) (hy:cB y.1 x≤0):∀ p ∈ S++[y],cB p.1 x≤0:=by
  intro p hp
  have h1:=(List.pairwise_append.1 h).1
  rcases List.mem_append.1 hp with hp|hp
  · have := (List.pairwise_append.1 h1).2.2 p hp y (by simp)
    exact cB_le this hy
  · simp at hp;subst hp;exact hy
theorem last_cases {l:List Pr}:l=[]∨∃ S y,l=S++[y]:=by
  rcases List.eq_nil_or_concat l with h|⟨S,y,h⟩
  · exact .inl h
  · exact .inr ⟨S,y,by rw [h,List.concat_eq_append]⟩
set_option maxHeartbeats 8000000 in
theorem ins43 (G : Nat → AV) (D : List Pr) (g a b : Nat) (hN : Okl D) (h1 : a ≤ b) (h2 : b ≤ D.length) :
    HC Try.prog G 71 [.ol 0 g D.length,I a,I b,cF] [rw0 D g] (.tup []) [rw0 (srt D a b) g]:=by
  have hlen:=hN.len
  refine hc_of cop71 ?_
  show W _ _ _ _ ⟨_,_⟩;simp only [A71,List.cons_append,List.nil_append,List.length_cons,List.length_nil,Nat.reduceAdd,Nat.reduceSub,List.replicate]
  repeat (first|with_reducible refine w_seq ?_|with_reducible refine w_reg ?_|with_reducible refine w_block ?_|with_reducible refine ws_nil ?_|with_reducible refine q_then ?_|((first|with_reducible refine ks fun K hK=>?_|with_reducible refine kd fun K hK=>?_|with_reducible refine kc fun K hK2 hK hK3=>?_);simp (disch:=omega) only [bg0,bg1,bg2,bg3,bg4,stepO,rsAs,eff,AX.ev,St.put,binA,conc,ap1,ofVal,Int.reduceTMod,Int.reduceTDiv,reduceCtorEq,fillA,AV.cells,AV.fine,AV.one,Nat.reduceAdd,Nat.reduceSub,Nat.reduceMul,Nat.reduceLT,Nat.reduceLeDiff,Int.reduceLT,Int.reduceLE,Int.reduceAdd,Int.reduceSub,Int.reduceNeg,Int.reduceMul,Int.reduceEq,Int.reduceToNat,nilA,moveA,live,loadA,rdA,storeA,wrA,intA,elemA,lenA,appA,srcA,isPtr,isNilPtr,partA,resOf,sliceA,cut,id,ap2,reduceIte,concs,chkB,geB,AOp.cls,AOp.xs,ltB,ltC,Nat.reduceBEq,Option.toList,List.cons_append,decide_eq_true,decide_eq_false,if_pos,if_neg,List.length_map,List.cons_append,bVb,bVn,eq_self,Bool.and_self,BEq.rfl,not_true_eq_false,set_pA,List.length_set];(first|((with_reducible refine hK _ ?_);clear hK K)|((with_reducible refine hK ?_);clear hK hK3 K hK2)|((with_reducible refine hK3 ?_);clear hK hK3 K hK2))))
  refine w_loop_m [8,9,12,13,14,15,16,17,18,19,20,21,22,23,24,25,26,27,28,29,30,31,32,33,34,35,36,37,38,39,40,41,42,43,44,45,46,47,48,49,50,51,52] (fun k v H=>v 8=I ((a+1+k:Nat):Int)∧H=[rw0 (srt D a (min b (a+1+k))) g]) (b - (a+1)) ⟨rfl,?_⟩ ?_ ?_
  · rw [srt_one (by omega) (by omega) (by omega)]
  · rintro k v H hk ⟨h8, rfl⟩
    have hi:a+1+k < D.length:=by omega
    rw [show min b (a+1+k)=a+1+k by omega]
    obtain ⟨i,hI⟩:∃ i,i=a+1+k:=⟨_,rfl⟩
    rw [show min b (a+1+(k+1))=i+1 by omega]
    rw [← hI] at hi h8 ⊢
    have hd:srt D a i=D.take a++(ssort (seg D a i)++D[i]::D.drop (i+1)):=by
      unfold srt;rw [List.drop_eq_getElem_cons hi]
    have hd2:srt D a (i+1)=D.take a++(ssort (seg D a i++[D[i]])++D.drop (i+1)):=by
      unfold srt;rw [seg_succ (by omega) hi]
    have hsz:∀ p ∈ seg D a i,p.1.size≤9223372036854775807:=fun p hp=>(hN.sz p (seg_mem hp)).1
    have hx:=(hN.sz _ (List.getElem_mem hi)).1
    have hPl:(D.take a).length=a:=by simp;omega
    have hLl:(ssort (seg D a i)).length=i - a:=by rw [ssort_len,seg_len (by omega)]
    have hN2:(srt D a i).length=D.length:=by rw [hd];simp [hLl];omega
    rw [hd,hd2]
    rw [hd] at hN2
    generalize D[i]=x at *
    generalize seg D a i=L at *
    generalize D.take a=P at *
    generalize D.drop (i+1)=R at *
    simp only [mix,mix_nil,mix_end,mix_skp,Nat.reduceEqDiff,Nat.reduceLeDiff,reduceCtorEq,if_true,if_false,reduceIte,Nat.reduceAdd,h8]
    repeat (first|with_reducible refine w_seq ?_|with_reducible refine w_reg ?_|with_reducible refine w_block ?_|with_reducible refine w_skip ?_|with_reducible refine ws_nil ?_|with_reducible refine q_then ?_|((first|with_reducible refine ks fun K hK=>?_|with_reducible refine kd fun K hK=>?_|with_reducible refine kc fun K hK2 hK hK3=>?_);simp (disch:=omega) only [bg0,bg1,bg2,bg3,bg4,stepO,rsAs,eff,AX.ev,St.put,binA,conc,ap1,ofVal,Int.reduceTMod,Int.reduceTDiv,reduceCtorEq,fillA,AV.cells,AV.fine,AV.one,Nat.reduceAdd,Nat.reduceSub,Nat.reduceMul,Nat.reduceLT,Nat.reduceLeDiff,Int.reduceLT,Int.reduceLE,Int.reduceAdd,Int.reduceSub,Int.reduceNeg,Int.reduceMul,Int.reduceEq,Int.reduceToNat,nilA,moveA,live,loadA,rdA,storeA,wrA,intA,elemA,lenA,appA,srcA,isPtr,isNilPtr,partA,resOf,sliceA,cut,id,ap2,reduceIte,concs,chkB,geB,AOp.cls,AOp.xs,ltB,ltC,Nat.reduceBEq,Option.toList,List.cons_append,decide_eq_true,decide_eq_false,if_pos,if_neg,List.length_map,List.cons_append,bVb,bVn,eq_self,Bool.and_self,BEq.rfl,not_true_eq_false,set_pA,List.length_set];(first|((with_reducible refine hK _ ?_);clear hK K)|((with_reducible refine hK ?_);clear hK hK3 K hK2)|((with_reducible refine hK3 ?_);clear hK hK3 K hK2))))
    refine w_loop_d [9,18,19,20,21,22,23,24,25,26,27,28,29,30,31,32,33,34,35,36,37,38,39,40,41,42,43,44,45,46,47,48,49,50,51,52] (fun u v H=>∃ S1 S2,S1++S2=ssort L∧u=S1.length∧v 9=I ((a+S1.length:Nat):Int)∧H=[rw0 (P++(S1++x::(S2++R))) g]∧∀ q ∈ S2,cB x.1 q.1 < 0) (i - a) ⟨ssort L,[],by simp,hLl.symm,by rw [hLl,show a+(i - a)=i by omega];rfl,rfl,by simp⟩ ?_
    rintro u v2 H ⟨S1,S2,hS,rfl,h9,rfl,hgt⟩
    have hCl:(P++(S1++x::(S2++R))).length=D.length:=by
      rw [← hN2,← hS];simp;omega
    have hle:SLe (S1++S2):=by rw [hS];exact ssort_le L
    rcases last_cases (l:=S1) with rfl|⟨S0,y,rfl⟩
    · have hfin:=ins_at (S:=S2) hS (fun p hp=>by cases hp) hgt
      have hfin2:P++([]++x::(S2++R))=P++(ssort (L++[x])++R):=by rw [← hfin];simp
      rw [hfin2]
      have e0:a+([]:List Pr).length=a:=rfl
      rw [e0] at h9
      simp only [mix,mix_nil,mix_end,mix_skp,Nat.reduceEqDiff,Nat.reduceLeDiff,reduceCtorEq,if_true,if_false,reduceIte,Nat.reduceAdd,h9]
      repeat (first|with_reducible refine w_seq ?_|with_reducible refine w_reg ?_|with_reducible refine w_draw ?_|with_reducible refine w_exit ?_|with_reducible refine ws_nil ?_|with_reducible refine wd_nil ?_|with_reducible refine q_then ?_|with_reducible refine q_then_x ?_|with_reducible refine q_block_n ?_|with_reducible refine q_block_x ?_|((first|with_reducible refine ks fun K hK=>?_|with_reducible refine kd fun K hK=>?_|with_reducible refine kc fun K hK2 hK hK3=>?_);simp (disch:=omega) only [bg0,bg1,bg2,bg3,bg4,stepO,rsAs,eff,AX.ev,St.put,binA,conc,ap1,ofVal,Int.reduceTMod,Int.reduceTDiv,reduceCtorEq,fillA,AV.cells,AV.fine,AV.one,Nat.reduceAdd,Nat.reduceSub,Nat.reduceMul,Nat.reduceLT,Nat.reduceLeDiff,Int.reduceLT,Int.reduceLE,Int.reduceAdd,Int.reduceSub,Int.reduceNeg,Int.reduceMul,Int.reduceEq,Int.reduceToNat,nilA,moveA,live,loadA,rdA,storeA,wrA,intA,elemA,lenA,appA,srcA,isPtr,isNilPtr,partA,resOf,sliceA,cut,id,ap2,reduceIte,concs,chkB,geB,AOp.cls,AOp.xs,ltB,ltC,Nat.reduceBEq,Option.toList,List.cons_append,decide_eq_true,decide_eq_false,if_pos,if_neg,List.length_map,List.cons_append,bVb,bVn,eq_self,Bool.and_self,BEq.rfl,not_true_eq_false,set_pA,List.length_set];(first|((with_reducible refine hK _ ?_);clear hK K)|((with_reducible refine hK ?_);clear hK hK3 K hK2)|((with_reducible refine hK3 ?_);clear hK hK3 K hK2)))|((first|((with_reducible refine kgd_u ?_ ?_ ?_);rotate_left 1;rfl)|((with_reducible refine kgd_f ?_ ?_ ?_);rotate_left 1;rfl));rotate_left 1;(focus (simp (disch:=omega) only [bg0,bg1,bg2,bg3,bg4,stepO,rsAs,eff,AX.ev,St.put,binA,conc,ap1,ofVal,Int.reduceTMod,Int.reduceTDiv,reduceCtorEq,fillA,AV.cells,AV.fine,AV.one,Nat.reduceAdd,Nat.reduceSub,Nat.reduceMul,Nat.reduceLT,Nat.reduceLeDiff,Int.reduceLT,Int.reduceLE,Int.reduceAdd,Int.reduceSub,Int.reduceNeg,Int.reduceMul,Int.reduceEq,Int.reduceToNat,nilA,moveA,live,loadA,rdA,storeA,wrA,intA,elemA,lenA,appA,srcA,isPtr,isNilPtr,partA,resOf,sliceA,cut,id,ap2,reduceIte,concs,chkB,geB,AOp.cls,AOp.xs,ltB,ltC,Nat.reduceBEq,Option.toList,List.cons_append,decide_eq_true,decide_eq_false,if_pos,if_neg,List.length_map,List.cons_append,bVb,bVn,eq_self,Bool.and_self,BEq.rfl,not_true_eq_false,set_pA,List.length_set];try rfl))))
      exact ⟨rfl,by simp [at_];omega,rfl⟩
    · have hj : a + (S0 ++ [y]).length = a + S0.length + 1 := by simp; omega
      rw [hj] at h9
      have q1:=pAq (at_mid (P:=P) (S:=S0++[y]) (x:=x) (R:=S2++R) (k:=a+S0.length+1) (by simp [hPl];omega))
      have q2:=pAq (at_pre (P:=P) (S:=S0) (x:=x) (y:=y) (R:=S2++R) (k:=a+S0.length) (by omega))
      have hsw:=sw_mid (P:=P) (S:=S0) (x:=x) (y:=y) (R:=S2++R) (k:=a+S0.length) (by omega)
      have hy:y.1.size≤9223372036854775807:=hsz y (by rw [← ssort_mem,← hS];simp)
      have hjl:a+S0.length+1 < D.length:=by rw [← hCl];simp [hPl];omega
      have q3:(((P++(S0++[y]++x::(S2++R))).set (a+S0.length+1) y).map pA)[a+S0.length]? = some (.agg [S y.1,S y.2]):=pAq (by rw [List.getElem?_set_ne (by omega)];exact at_pre (by omega))
      have e1:((a:Int)+(S0.length:Int)+1).toNat=a+S0.length+1:=by omega
      have e2:((a:Int)+(S0.length:Int)).toNat=a+S0.length:=by omega
      have e3:(a:Int) < (a:Int)+(S0.length:Int)+1:=by omega
      by_cases hc:cB x.1 y.1 < 0
      · generalize P ++ (S0 ++ [y] ++ x :: (S2 ++ R)) = C at *
        simp only [mix,mix_nil,mix_end,mix_skp,Nat.reduceEqDiff,Nat.reduceLeDiff,reduceCtorEq,if_true,if_false,reduceIte,Nat.reduceAdd,h9]
        repeat (first|with_reducible refine w_seq ?_|with_reducible refine w_reg ?_|with_reducible refine w_draw ?_|(with_reducible refine w_drawx2 ?_ ?_ ?_ ?_;rotate_left 1)|with_reducible exact isSt|with_reducible refine w_block ?_|with_reducible refine w_skip ?_|with_reducible refine ws_nil ?_|with_reducible refine wd_nil ?_|with_reducible refine q_then ?_|with_reducible refine q_block_n ?_|((with_reducible refine kgd_t ?_ ?_);rfl)|((first|with_reducible refine ks fun K hK=>?_|with_reducible refine kd fun K hK=>?_|with_reducible refine kc fun K hK2 hK hK3=>?_);simp (disch:=omega) only [bg0,bg1,bg2,bg3,bg4,stepO,rsAs,eff,AX.ev,St.put,binA,conc,ap1,ofVal,Int.reduceTMod,Int.reduceTDiv,reduceCtorEq,fillA,AV.cells,AV.fine,AV.one,Nat.reduceAdd,Nat.reduceSub,Nat.reduceMul,Nat.reduceLT,Nat.reduceLeDiff,Int.reduceLT,Int.reduceLE,Int.reduceAdd,Int.reduceSub,Int.reduceNeg,Int.reduceMul,Int.reduceEq,Int.reduceToNat,nilA,moveA,live,loadA,rdA,storeA,wrA,intA,elemA,lenA,appA,srcA,isPtr,isNilPtr,partA,resOf,sliceA,cut,id,ap2,reduceIte,concs,chkB,geB,AOp.cls,AOp.xs,ltB,ltC,Nat.reduceBEq,Option.toList,List.cons_append,decide_eq_true,decide_eq_false,if_pos,if_neg,List.length_map,List.cons_append,bVb,bVn,eq_self,Bool.and_self,BEq.rfl,not_true_eq_false,set_pA,List.length_set,q1,q2,q3,e1,e2,e3,hc];(first|((with_reducible refine hK _ ?_);clear hK K)|((with_reducible refine hK ?_);clear hK hK3 K hK2)|((with_reducible refine hK3 ?_);clear hK hK3 K hK2)))|((first|((with_reducible refine kvd 68 ?_ ?_ ?_ ?_ ?_ ?_ ?_ ?_);rotate_left 3));(focus (simp (disch:=omega) only [bg0,bg1,bg2,bg3,bg4,stepO,rsAs,eff,AX.ev,St.put,binA,conc,ap1,ofVal,Int.reduceTMod,Int.reduceTDiv,reduceCtorEq,fillA,AV.cells,AV.fine,AV.one,Nat.reduceAdd,Nat.reduceSub,Nat.reduceMul,Nat.reduceLT,Nat.reduceLeDiff,Int.reduceLT,Int.reduceLE,Int.reduceAdd,Int.reduceSub,Int.reduceNeg,Int.reduceMul,Int.reduceEq,Int.reduceToNat,nilA,moveA,live,loadA,rdA,storeA,wrA,intA,elemA,lenA,appA,srcA,isPtr,isNilPtr,partA,resOf,sliceA,cut,id,ap2,reduceIte,concs,chkB,geB,AOp.cls,AOp.xs,ltB,ltC,Nat.reduceBEq,Option.toList,List.cons_append,decide_eq_true,decide_eq_false,if_pos,if_neg,List.length_map,List.cons_append,bVb,bVn,eq_self,Bool.and_self,BEq.rfl,not_true_eq_false,set_pA,List.length_set,q1,q2,q3,e1,e2,e3,hc];try rfl));(first|(rfl;exact hb68;exact (cmpC G _ hx hy)))))
        refine ⟨rfl,S0.length,by simp,S0,y::S2,by simpa using hS,rfl,rfl,rw0_eq (by simpa using hsw),fun q hq=>?_⟩
        rcases List.mem_cons.1 hq with rfl|hq
        · exact hc
        · exact hgt q hq
      · have hfin := ins_at (S := S2) hS (le_all hle (by rw [cB_anti x.1 y.1]; omega)) hgt
        have hfin2:P++(S0++[y]++x::(S2++R))=P++(ssort (L++[x])++R):=by rw [← hfin];simp
        rw [hfin2] at q1 q2 q3 ⊢
        simp only [mix,mix_nil,mix_end,mix_skp,Nat.reduceEqDiff,Nat.reduceLeDiff,reduceCtorEq,if_true,if_false,reduceIte,Nat.reduceAdd,h9]
        repeat (first|with_reducible refine w_seq ?_|with_reducible refine w_reg ?_|with_reducible refine w_draw ?_|with_reducible refine w_exit ?_|with_reducible refine ws_nil ?_|with_reducible refine wd_nil ?_|with_reducible refine q_then ?_|with_reducible refine q_then_x ?_|with_reducible refine q_block_n ?_|with_reducible refine q_block_x ?_|((with_reducible refine kgd_t ?_ ?_);rfl)|((first|with_reducible refine ks fun K hK=>?_|with_reducible refine kd fun K hK=>?_|with_reducible refine kc fun K hK2 hK hK3=>?_);simp (disch:=omega) only [bg0,bg1,bg2,bg3,bg4,stepO,rsAs,eff,AX.ev,St.put,binA,conc,ap1,ofVal,Int.reduceTMod,Int.reduceTDiv,reduceCtorEq,fillA,AV.cells,AV.fine,AV.one,Nat.reduceAdd,Nat.reduceSub,Nat.reduceMul,Nat.reduceLT,Nat.reduceLeDiff,Int.reduceLT,Int.reduceLE,Int.reduceAdd,Int.reduceSub,Int.reduceNeg,Int.reduceMul,Int.reduceEq,Int.reduceToNat,nilA,moveA,live,loadA,rdA,storeA,wrA,intA,elemA,lenA,appA,srcA,isPtr,isNilPtr,partA,resOf,sliceA,cut,id,ap2,reduceIte,concs,chkB,geB,AOp.cls,AOp.xs,ltB,ltC,Nat.reduceBEq,Option.toList,List.cons_append,decide_eq_true,decide_eq_false,if_pos,if_neg,List.length_map,List.cons_append,bVb,bVn,eq_self,Bool.and_self,BEq.rfl,not_true_eq_false,set_pA,List.length_set,q1,q2,q3,e1,e2,e3,hc];(first|((with_reducible refine hK _ ?_);clear hK K)|((with_reducible refine hK ?_);clear hK hK3 K hK2)|((with_reducible refine hK3 ?_);clear hK hK3 K hK2)))|((first|((with_reducible refine kvd 68 ?_ ?_ ?_ ?_ ?_ ?_ ?_ ?_);rotate_left 3));(focus (simp (disch:=omega) only [bg0,bg1,bg2,bg3,bg4,stepO,rsAs,eff,AX.ev,St.put,binA,conc,ap1,ofVal,Int.reduceTMod,Int.reduceTDiv,reduceCtorEq,fillA,AV.cells,AV.fine,AV.one,Nat.reduceAdd,Nat.reduceSub,Nat.reduceMul,Nat.reduceLT,Nat.reduceLeDiff,Int.reduceLT,Int.reduceLE,Int.reduceAdd,Int.reduceSub,Int.reduceNeg,Int.reduceMul,Int.reduceEq,Int.reduceToNat,nilA,moveA,live,loadA,rdA,storeA,wrA,intA,elemA,lenA,appA,srcA,isPtr,isNilPtr,partA,resOf,sliceA,cut,id,ap2,reduceIte,concs,chkB,geB,AOp.cls,AOp.xs,ltB,ltC,Nat.reduceBEq,Option.toList,List.cons_append,decide_eq_true,decide_eq_false,if_pos,if_neg,List.length_map,List.cons_append,bVb,bVn,eq_self,Bool.and_self,BEq.rfl,not_true_eq_false,set_pA,List.length_set,q1,q2,q3,e1,e2,e3,hc];try rfl));(first|(rfl;exact hb68;exact (cmpC G _ hx hy)))))
        exact ⟨rfl,by simp [at_];omega,rfl⟩
  · rintro v H ⟨h8, rfl⟩
    simp only [mix,mix_nil,mix_end,mix_skp,Nat.reduceEqDiff,Nat.reduceLeDiff,reduceCtorEq,if_true,if_false,reduceIte,Nat.reduceAdd,h8]
    by_cases hab:a=b
    · subst hab
      rw [show min a (a+1+(a - (a+1)))=a by omega]
      repeat (first|with_reducible refine w_seq ?_|with_reducible refine w_reg ?_|with_reducible refine w_exit ?_|with_reducible refine ws_nil ?_|with_reducible refine q_then ?_|with_reducible refine q_then_x ?_|with_reducible refine q_block_x ?_|((first|with_reducible refine ks fun K hK=>?_|with_reducible refine kd fun K hK=>?_|with_reducible refine kc fun K hK2 hK hK3=>?_);simp (disch:=omega) only [bg0,bg1,bg2,bg3,bg4,stepO,rsAs,eff,AX.ev,St.put,binA,conc,ap1,ofVal,Int.reduceTMod,Int.reduceTDiv,reduceCtorEq,fillA,AV.cells,AV.fine,AV.one,Nat.reduceAdd,Nat.reduceSub,Nat.reduceMul,Nat.reduceLT,Nat.reduceLeDiff,Int.reduceLT,Int.reduceLE,Int.reduceAdd,Int.reduceSub,Int.reduceNeg,Int.reduceMul,Int.reduceEq,Int.reduceToNat,nilA,moveA,live,loadA,rdA,storeA,wrA,intA,elemA,lenA,appA,srcA,isPtr,isNilPtr,partA,resOf,sliceA,cut,id,ap2,reduceIte,concs,chkB,geB,AOp.cls,AOp.xs,ltB,ltC,Nat.reduceBEq,Option.toList,List.cons_append,decide_eq_true,decide_eq_false,if_pos,if_neg,List.length_map,List.cons_append,bVb,bVn,eq_self,Bool.and_self,BEq.rfl,not_true_eq_false,set_pA,List.length_set];(first|((with_reducible refine hK _ ?_);clear hK K)|((with_reducible refine hK ?_);clear hK hK3 K hK2)|((with_reducible refine hK3 ?_);clear hK hK3 K hK2)))|((with_reducible refine ret_0 ?_);try rfl))
    · rw [show min b (a + 1 + (b - (a + 1))) = b by omega]
      repeat (first|with_reducible refine w_seq ?_|with_reducible refine w_reg ?_|with_reducible refine w_exit ?_|with_reducible refine ws_nil ?_|with_reducible refine q_then ?_|with_reducible refine q_then_x ?_|with_reducible refine q_block_x ?_|((first|with_reducible refine ks fun K hK=>?_|with_reducible refine kd fun K hK=>?_|with_reducible refine kc fun K hK2 hK hK3=>?_);simp (disch:=omega) only [bg0,bg1,bg2,bg3,bg4,stepO,rsAs,eff,AX.ev,St.put,binA,conc,ap1,ofVal,Int.reduceTMod,Int.reduceTDiv,reduceCtorEq,fillA,AV.cells,AV.fine,AV.one,Nat.reduceAdd,Nat.reduceSub,Nat.reduceMul,Nat.reduceLT,Nat.reduceLeDiff,Int.reduceLT,Int.reduceLE,Int.reduceAdd,Int.reduceSub,Int.reduceNeg,Int.reduceMul,Int.reduceEq,Int.reduceToNat,nilA,moveA,live,loadA,rdA,storeA,wrA,intA,elemA,lenA,appA,srcA,isPtr,isNilPtr,partA,resOf,sliceA,cut,id,ap2,reduceIte,concs,chkB,geB,AOp.cls,AOp.xs,ltB,ltC,Nat.reduceBEq,Option.toList,List.cons_append,decide_eq_true,decide_eq_false,if_pos,if_neg,List.length_map,List.cons_append,bVb,bVn,eq_self,Bool.and_self,BEq.rfl,not_true_eq_false,set_pA,List.length_set];(first|((with_reducible refine hK _ ?_);clear hK K)|((with_reducible refine hK ?_);clear hK hK3 K hK2)|((with_reducible refine hK3 ?_);clear hK hK3 K hK2)))|((with_reducible refine ret_0 ?_);try rfl))
end Go.Proofs.Ytnammfeiehikfaa.Sim.Pr7
namespace Go.Proofs.Ytnammfeiehikfaa.Sim.Pr7
open Go.RowKit
set_option maxRecDepth 100000
theorem u64w {n:Int} (h:0≤n) (h2:n≤9223372036854775807):IntKind.u64.wrap n=n:=by
  rw [IntKind.wrap]
  simp only [IntKind.signed,IntKind.bits]
  simp
  omega
theorem cVu {n:Int} (h:0≤n) (h2:n≤9223372036854775807):pureRun Try.prog (convert 3 92 (.int .i64 n))=some (.int .u64 n):=by
  rw [cV_int (e:=.int .i64) (k:=.u64) (by kernel_rfl) (by kernel_rfl),u64w h h2]
theorem cVi {n:Int} (h:0≤n) (h2:n≤9223372036854775807):pureRun Try.prog (convert 92 3 (.int .u64 n))=some (.int .i64 n):=by
  rw [cV_int (e:=.int .u64) (k:=.i64) (by kernel_rfl) (by kernel_rfl),wrapI (by omega) h2]
theorem shr1 {P:Program} {t:TypeId} {xo yo:Operand} {i j:Nat}:binV P .shr t xo yo (.int .u64 ((i:Int)+(j:Int))) (.int .u64 1)=some (.int .u64 (((i+j) / 2:Nat):Int)):=by
  show some (Value.int .u64 (((i:Int)+(j:Int)).fdiv (2 ^ 1)))=_
  have:((i:Int)+(j:Int)).fdiv (2 ^ 1)=(((i+j) / 2:Nat):Int):=by
    rw [Int.fdiv_eq_ediv_of_nonneg _ (by decide)]
    omega
  rw [this]
theorem ssort_app {X Y:List Pr} (h:∀ x ∈ X,∀ y ∈ Y,cB x.1 y.1≤0):ssort (X++Y)=ssort X++ssort Y:=by
  refine srt_uniq (ssort_le _) (List.pairwise_append.2 ⟨ssort_le X,ssort_le Y,fun x hx y hy=>h x (ssort_mem.1 hx) y (ssort_mem.1 hy)⟩) fun k=>?_
  rw [ssort_fk,fk_append,fk_append,ssort_fk,ssort_fk]
theorem ssort_of {X:List Pr} (h:SLe X):ssort X=X:=srt_uniq (ssort_le X) h fun k=>ssort_fk X
theorem ssort_swap {X A B Y:List Pr} (h:∀ x ∈ A,∀ y ∈ B,cB y.1 x.1 < 0):ssort (X++A++B++Y)=ssort (X++B++A++Y):=by
  refine srt_uniq (ssort_le _) (ssort_le _) fun k=>?_
  simp only [ssort_fk,fk_append]
  have:fk k A=[]∨fk k B=[]:=by
    by_cases hb:fk k B=[]
    · exact .inr hb
    · left
      refine fk_none.2 fun x hx e=>hb (fk_none.2 fun y hy e2=>?_)
      have:=h x hx y hy
      rw [e,e2,cB_self] at this
      omega
  rcases this with h|h<;>simp [h]
theorem ssort_merge {A1 A2 B1 B2 : List Pr} (hA : SLe (A1 ++ A2)) (hB : SLe (B1 ++ B2)) (h1 : ∀ x ∈ A2, ∀ y ∈ B1, cB y.1 x.1 < 0) (h2 : ∀ x ∈ A1, ∀ y ∈ B2, cB x.1 y.1 ≤ 0) :
    ssort (A1++A2++(B1++B2))=ssort (A1++B1)++ssort (A2++B2):=by
  have e1:=ssort_swap (X:=A1) (A:=A2) (B:=B1) (Y:=B2) h1
  rw [show A1++A2++(B1++B2)=A1++A2++B1++B2 by simp,e1,show A1++B1++A2++B2=(A1++B1)++(A2++B2) by simp]
  obtain ⟨_,_,a3⟩:=List.pairwise_append.1 hA
  obtain ⟨_,_,b3⟩:=List.pairwise_append.1 hB
  refine ssort_app fun x hx y hy=>?_
  rcases List.mem_append.1 hx with hx|hx<;>rcases List.mem_append.1 hy with hy|hy
  · exact a3 x hx y hy
  · exact h2 x hx y hy
  · have:=h1 y hy x hx;omega
  · exact b3 x hx y hy
theorem rot_list {P A B R:List Pr}:px (P++(A++(B++R))) (rtf P.length (P.length+A.length) (P.length+A.length+B.length))=P++(B++(A++R)):=by
  apply List.ext_getElem?
  intro x
  rw [px_at]
  have hgd:∀ {L:List Pr} {i:Nat},i < L.length→some (L.getD i default)=L[i]?:=fun {L i} h=>by
    rw [List.getD_eq_getElem?_getD,List.getElem?_eq_getElem h];rfl
  by_cases hx:x < (P++(A++(B++R))).length
  · rw [if_pos hx, hgd (rtf_lt (by omega) (by omega) (by simp; omega) hx)]
    simp only [List.length_append] at hx
    unfold rtf
    by_cases h1:x < P.length
    · rw [if_neg (by omega),if_neg (by omega),List.getElem?_append_left h1,List.getElem?_append_left h1]
    · rw [List.getElem?_append_right (l₁ := P) (l₂ := B ++ (A ++ R)) (by omega)]
      by_cases h2:x < P.length+B.length
      · rw [if_pos (by omega), List.getElem?_append_right (by omega), List.getElem?_append_right (by omega), List.getElem?_append_left (by omega), List.getElem?_append_left (by omega)]
        congr 1;omega
      · rw [if_neg (by omega), List.getElem?_append_right (l₁ := B) (by omega)]
        by_cases h3:x < P.length+B.length+A.length
        · rw [if_pos (by omega), List.getElem?_append_right (by omega), List.getElem?_append_left (by omega), List.getElem?_append_left (by omega)]
          congr 1;omega
        · rw [if_neg (by omega), List.getElem?_append_right (by omega), List.getElem?_append_right (by omega), List.getElem?_append_right (by omega), List.getElem?_append_right (by omega)]
          congr 1;omega
  · rw [if_neg hx,List.getElem?_eq_none (by simp at hx ⊢;omega)]
theorem idx_lo {B:List Pr} (h:SLe B) (k:ByteArray) {i:Nat} (hi:i < B.length):cB (B[i]).1 k < 0↔i < (lo B k).length:=by
  have hs:=lo_split h k
  constructor
  · intro hc
    rcases Nat.lt_or_ge i (lo B k).length with h|h
    · exact h
    · exfalso
      have hm:B[i] ∈ B.filter (fun p=>!decide (cB p.1 k < 0)):=by
        have e:B[i]? = (B.filter (fun p=>!decide (cB p.1 k < 0)))[i - (lo B k).length]?:=by
          conv=>lhs;rw [hs]
          exact List.getElem?_append_right h
        rw [List.getElem?_eq_getElem hi] at e
        exact List.mem_of_getElem? e.symm
      have:=(List.mem_filter.1 hm).2
      simp at this
      omega
  · intro hl
    have e:B[i]? = (lo B k)[i]?:=by
      conv=>lhs;rw [hs]
      exact List.getElem?_append_left hl
    rw [List.getElem?_eq_getElem hi,List.getElem?_eq_getElem hl] at e
    have e2:=Option.some.inj e
    have:=(List.mem_filter.1 (List.getElem_mem hl)).2
    rw [← e2] at this
    simpa using this
theorem idx_le {B:List Pr} (h:SLe B) (k:ByteArray) {i:Nat} (hib:i < B.length):cB (B[i]).1 k≤0↔i < (le B k).length:=by
  have hs:=le_split h k
  constructor
  · intro hc
    rcases Nat.lt_or_ge i (le B k).length with h|h
    · exact h
    · exfalso
      have hm:B[i] ∈ hi B k:=by
        have e:B[i]? = (hi B k)[i - (le B k).length]?:=by
          conv=>lhs;rw [hs]
          exact List.getElem?_append_right h
        rw [List.getElem?_eq_getElem hib] at e
        exact List.mem_of_getElem? e.symm
      have:=(List.mem_filter.1 hm).2
      simp only [decide_eq_true_eq] at this
      rw [cB_anti (B[i]).1 k] at this
      omega
  · intro hl
    have e:B[i]? = (le B k)[i]?:=by
      conv=>lhs;rw [hs]
      exact List.getElem?_append_left hl
    rw [List.getElem?_eq_getElem hib,List.getElem?_eq_getElem hl] at e
    have e2:=Option.some.inj e
    have:=(List.mem_filter.1 (List.getElem_mem hl)).2
    rw [← e2] at this
    simpa using this
theorem lo_take {B:List Pr} (h:SLe B) (k:ByteArray):B.take (lo B k).length=lo B k:=by
  have:=List.take_left (l₁:=lo B k) (l₂:=B.filter (fun p=>!decide (cB p.1 k < 0)))
  rwa [← lo_split h k] at this
theorem le_take {B:List Pr} (h:SLe B) (k:ByteArray):B.take (le B k).length=le B k:=by
  have:=List.take_left (l₁:=le B k) (l₂:=hi B k)
  rwa [← le_split h k] at this
theorem hi_drop {B:List Pr} (h:SLe B) (k:ByteArray):B.drop (le B k).length=hi B k:=by
  have:=List.drop_left (l₁:=le B k) (l₂:=hi B k)
  rwa [← le_split h k] at this
theorem lo_len {B:List Pr} {k:ByteArray}:(lo B k).length≤B.length:=List.length_filter_le ..
theorem le_len {B:List Pr} {k:ByteArray}:(le B k).length≤B.length:=List.length_filter_le ..
theorem one_left {B:List Pr} (h:SLe B) (x:Pr):B.take (lo B x.1).length++x::B.drop (lo B x.1).length=ssort (x::B):=by
  have hd:B.drop (lo B x.1).length=B.filter (fun p=>!decide (cB p.1 x.1 < 0)):=by
    have:=List.drop_left (l₁:=lo B x.1) (l₂:=B.filter (fun p=>!decide (cB p.1 x.1 < 0)))
    rwa [← lo_split h x.1] at this
  rw [lo_take h,hd]
  refine srt_uniq ?_ (ssort_le _) fun k=>?_
  · refine List.pairwise_append.2 ⟨List.Pairwise.filter _ h,List.pairwise_cons.2 ⟨fun q hq=>?_,List.Pairwise.filter _ h⟩,fun p hp q hq=>?_⟩
    · have := (List.mem_filter.1 hq).2
      simp at this
      rw [cB_anti q.1 x.1];omega
    · have h1 : cB p.1 x.1 < 0 := by have := (List.mem_filter.1 hp).2; simpa using this
      rcases List.mem_cons.1 hq with rfl|hq
      · omega
      · have := (List.mem_filter.1 hq).2
        simp at this
        exact cB_le (b:=x.1) (by omega) (by rw [cB_anti q.1 x.1];omega)
  · rw [ssort_fk, fk_append, fk_cons, fk_cons]
    have e:fk k B=fk k (lo B x.1)++fk k (B.filter fun p=>!decide (cB p.1 x.1 < 0)):=by
      rw [← fk_append,← lo_split h x.1]
    rw [e]
    by_cases hk:x.1=k
    · subst hk
      have:fk x.1 (lo B x.1)=[]:=by rw [fk_lo,cB_self];simp
      simp [this]
    · simp [hk]
theorem one_right {A:List Pr} (h:SLe A) (x:Pr):A.take (le A x.1).length++x::A.drop (le A x.1).length=ssort (A++[x]):=by
  have hd:A.drop (le A x.1).length=hi A x.1:=hi_drop h x.1
  rw [hd,le_take h]
  have:=ins_at (S:=ssort A) (S1:=le A x.1) (S2:=hi A x.1) (x:=x) (L:=A) (by rw [ssort_of h,← le_split h x.1]) (fun p hp=>by have:=(List.mem_filter.1 hp).2;simpa using this) (fun q hq=>by have:=(List.mem_filter.1 hq).2;simpa using this)
  exact this
end Go.Proofs.Ytnammfeiehikfaa.Sim.Pr7
namespace Go.Proofs.Ytnammfeiehikfaa.Sim.Pr7
open Go.RowKit
set_option maxRecDepth 100000
theorem sw_fwd {P S R:List Pr} {x y:Pr} {k:Nat} (hk:k=P.length+S.length):((P++(S++x::y::R)).set k y).set (k+1) x=P++(S++[y]++x::R):=by
  subst hk
  have e:P++(S++x::y::R)=(P++S)++x::y::R:=by simp
  have e2:P++(S++[y]++x::R)=(P++S)++y::x::R:=by simp
  rw [e,e2,show P.length+S.length=(P++S).length from (List.length_append).symm,List.set_append_right _ _ (by omega),List.set_append_right _ _ (by omega)]
  simp
theorem at_nx {P S R:List Pr} {x y:Pr} {k:Nat} (hk:k=P.length+S.length):(P++(S++x::y::R))[k+1]? = some y:=by
  have:=at_mid (P:=P) (S:=S++[x]) (x:=y) (R:=R) (k:=k+1) (by simp;omega)
  simpa using this
theorem gdA {P A R:List Pr} {k:Nat} (h1:P.length≤k) (h2:k < P.length+A.length):(P++(A++R))[k]? = some (A[k - P.length]'(by omega)):=by
  rw [List.getElem?_append_right h1,List.getElem?_append_left (by omega),List.getElem?_eq_getElem]
set_option maxHeartbeats 8000000 in
theorem symL (G : Nat → AV) (g : Nat) (P B R : List Pr) (x : Pr) (N a m b : Nat) (hN : (P ++ ([x] ++ (B ++ R))).length = N) (hP : P.length = a) (hA : a + 1 = m) (hB : m + B.length = b) (sB : SLe B) (hok : Okl (P ++ ([x] ++ (B ++ R)))) :
    HC Try.prog G 72 [.ol 0 g N,I a,I m,I b,cF] [rw0 (P++([x]++(B++R))) g] (.tup []) [rw0 (P++(ssort ([x]++B)++R)) g]:=by
  have hlen:=hok.len
  rw [hN] at hlen
  have hbN:b≤N:=by rw [← hN];simp;omega
  have hx:x.1.size≤9223372036854775807:=(hok.sz x (by simp)).1
  have hsB:∀ p ∈ B,p.1.size≤9223372036854775807:=fun p hp=>(hok.sz p (by simp [hp])).1
  obtain ⟨c,hc⟩:∃ c,c=(lo B x.1).length:=⟨_,rfl⟩
  have hcl:c≤B.length:=by rw [hc];exact lo_len
  have hfin:=one_left sB x
  rw [← hc] at hfin
  have ema:(m:Int) - (a:Int)=1:=by omega
  refine hc_of cop72 ?_
  show W _ _ _ _ ⟨_,_⟩;simp only [A72,List.cons_append,List.nil_append,List.length_cons,List.length_nil,Nat.reduceAdd,Nat.reduceSub,List.replicate]
  (refine w_skip_at 77 143 (by simp [skp_len]) fun f77=>?_;simp (disch:=omega) only [List.take_succ_cons,List.take_zero,List.drop_succ_cons,List.drop_zero,List.cons_append,List.nil_append,List.take_nil,List.drop_nil,skp_take,skp_drop,skp_app,Nat.reduceSub,Nat.reduceAdd,List.replicate_succ,List.replicate_zero])
  (refine w_skip_at 54 23 (by simp [skp_len]) fun f54=>?_;simp (disch:=omega) only [List.take_succ_cons,List.take_zero,List.drop_succ_cons,List.drop_zero,List.cons_append,List.nil_append,List.take_nil,List.drop_nil,skp_take,skp_drop,skp_app,Nat.reduceSub,Nat.reduceAdd,List.replicate_succ,List.replicate_zero])
  repeat (first|with_reducible refine w_seq ?_|with_reducible refine w_reg ?_|with_reducible refine w_block ?_|with_reducible refine ws_nil ?_|with_reducible refine q_then ?_|((first|with_reducible refine ks fun K hK=>?_|with_reducible refine kd fun K hK=>?_|with_reducible refine kc fun K hK2 hK hK3=>?_);simp (disch:=omega) only [bg0,bg1,bg2,bg3,bg4,stepO,rsAs,eff,AX.ev,St.put,binA,conc,ap1,ofVal,Int.reduceTMod,Int.reduceTDiv,reduceCtorEq,fillA,AV.cells,AV.fine,AV.one,Nat.reduceAdd,Nat.reduceSub,Nat.reduceMul,Nat.reduceLT,Nat.reduceLeDiff,Int.reduceLT,Int.reduceLE,Int.reduceAdd,Int.reduceSub,Int.reduceNeg,Int.reduceMul,Int.reduceEq,Int.reduceToNat,nilA,moveA,live,loadA,rdA,storeA,wrA,intA,elemA,lenA,appA,srcA,isPtr,isNilPtr,partA,resOf,sliceA,cut,id,ap2,reduceIte,concs,chkB,geB,AOp.cls,AOp.xs,ltB,ltC,Nat.reduceBEq,Option.toList,List.cons_append,decide_eq_true,decide_eq_false,if_pos,if_neg,List.length_map,List.cons_append,bVb,bVn,eq_self,Bool.and_self,BEq.rfl,not_true_eq_false,set_pA,List.length_set,cVu,cVi,shr1,ema];(first|((with_reducible refine hK _ ?_);clear hK K)|((with_reducible refine hK ?_);clear hK hK3 K hK2)|((with_reducible refine hK3 ?_);clear hK hK3 K hK2))))
  refine w_loop_d [10,11,12,31,32,33,34,35,36,37,38,39,40,41,42,43,44,45,46,47,48,49,50,51,52,53] (fun u v H=>∃ i j:Nat,u=j - i∧v 10=I i∧v 11=I j∧m≤i∧i≤m+c∧m+c≤j∧j≤b∧H=[rw0 (P++([x]++(B++R))) g]) (b - m) ⟨m,b,rfl,rfl,rfl,by omega,by omega,by omega,by omega,rfl⟩ ?_
  rintro u v H ⟨i,j,rfl,h10,h11,i1,i2,i3,i4,rfl⟩
  simp only [mix,mix_nil,mix_end,mix_skp,Nat.reduceEqDiff,Nat.reduceLeDiff,reduceCtorEq,if_true,if_false,reduceIte,Nat.reduceAdd,h10,h11]
  by_cases hij:i < j
  · obtain ⟨h, hh⟩ : ∃ h, h = (i + j) / 2 := ⟨_, rfl⟩
    have q1:((P++([x]++(B++R))).map pA)[h]? = some (.agg [S (B[h - m]'(by omega)).1,S (B[h - m]'(by omega)).2]):=pAq (by
      have:=gdA (P:=P++[x]) (A:=B) (R:=R) (k:=h) (by simp;omega) (by simp;omega)
      simp only [List.append_assoc] at this
      rw [this]
      congr 2
      simp;omega)
    have q2:((P++([x]++(B++R))).map pA)[a]? = some (.agg [S x.1,S x.2]):=pAq (at_mid (S:=[]) (by simp;omega))
    have hy:=hsB _ (List.getElem_mem (l:=B) (n:=h - m) (by omega))
    have hidx:=idx_lo sB x.1 (i:=h - m) (by omega)
    rw [← hc] at hidx
    generalize B[h - m]'(by omega)=y at *
    have hm:=hh.symm
    have hNl:=hN
    generalize P++([x]++(B++R))=C at *
    by_cases hlt:cB y.1 x.1 < 0
    · have := hidx.1 hlt
      repeat (first|with_reducible refine w_seq ?_|with_reducible refine w_reg ?_|with_reducible refine w_draw ?_|with_reducible refine w_block ?_|with_reducible refine w_skip ?_|with_reducible refine ws_nil ?_|with_reducible refine wd_nil ?_|with_reducible refine q_then ?_|with_reducible refine q_block_n ?_|((first|with_reducible refine ks fun K hK=>?_|with_reducible refine kd fun K hK=>?_|with_reducible refine kc fun K hK2 hK hK3=>?_);simp (disch:=omega) only [bg0,bg1,bg2,bg3,bg4,stepO,rsAs,eff,AX.ev,St.put,binA,conc,ap1,ofVal,Int.reduceTMod,Int.reduceTDiv,reduceCtorEq,fillA,AV.cells,AV.fine,AV.one,Nat.reduceAdd,Nat.reduceSub,Nat.reduceMul,Nat.reduceLT,Nat.reduceLeDiff,Int.reduceLT,Int.reduceLE,Int.reduceAdd,Int.reduceSub,Int.reduceNeg,Int.reduceMul,Int.reduceEq,Int.reduceToNat,nilA,moveA,live,loadA,rdA,storeA,wrA,intA,elemA,lenA,appA,srcA,isPtr,isNilPtr,partA,resOf,sliceA,cut,id,ap2,reduceIte,concs,chkB,geB,AOp.cls,AOp.xs,ltB,ltC,Nat.reduceBEq,Option.toList,List.cons_append,decide_eq_true,decide_eq_false,if_pos,if_neg,List.length_map,List.cons_append,bVb,bVn,eq_self,Bool.and_self,BEq.rfl,not_true_eq_false,set_pA,List.length_set,cVu,cVi,shr1,hm,q1,q2,hlt];(first|((with_reducible refine hK _ ?_);clear hK K)|((with_reducible refine hK ?_);clear hK hK3 K hK2)|((with_reducible refine hK3 ?_);clear hK hK3 K hK2)))|((first|((with_reducible refine kvd 68 ?_ ?_ ?_ ?_ ?_ ?_ ?_ ?_);rotate_left 3));(focus (simp (disch:=omega) only [bg0,bg1,bg2,bg3,bg4,stepO,rsAs,eff,AX.ev,St.put,binA,conc,ap1,ofVal,Int.reduceTMod,Int.reduceTDiv,reduceCtorEq,fillA,AV.cells,AV.fine,AV.one,Nat.reduceAdd,Nat.reduceSub,Nat.reduceMul,Nat.reduceLT,Nat.reduceLeDiff,Int.reduceLT,Int.reduceLE,Int.reduceAdd,Int.reduceSub,Int.reduceNeg,Int.reduceMul,Int.reduceEq,Int.reduceToNat,nilA,moveA,live,loadA,rdA,storeA,wrA,intA,elemA,lenA,appA,srcA,isPtr,isNilPtr,partA,resOf,sliceA,cut,id,ap2,reduceIte,concs,chkB,geB,AOp.cls,AOp.xs,ltB,ltC,Nat.reduceBEq,Option.toList,List.cons_append,decide_eq_true,decide_eq_false,if_pos,if_neg,List.length_map,List.cons_append,bVb,bVn,eq_self,Bool.and_self,BEq.rfl,not_true_eq_false,set_pA,List.length_set,cVu,cVi,shr1,hm,q1,q2,hlt];try rfl));(first|(rfl;exact hb68;exact (cmpC G _ hy hx)))))
      exact ⟨rfl,j - (h+1),by omega,h+1,j,rfl,rfl,rfl,by omega,by omega,by omega,by omega,rfl⟩
    · have:¬ (h - m < c):=fun h=>hlt (hidx.2 h)
      repeat (first|with_reducible refine w_seq ?_|with_reducible refine w_reg ?_|with_reducible refine w_draw ?_|with_reducible refine w_block ?_|with_reducible refine w_skip ?_|with_reducible refine ws_nil ?_|with_reducible refine wd_nil ?_|with_reducible refine q_then ?_|with_reducible refine q_block_n ?_|((first|with_reducible refine ks fun K hK=>?_|with_reducible refine kd fun K hK=>?_|with_reducible refine kc fun K hK2 hK hK3=>?_);simp (disch:=omega) only [bg0,bg1,bg2,bg3,bg4,stepO,rsAs,eff,AX.ev,St.put,binA,conc,ap1,ofVal,Int.reduceTMod,Int.reduceTDiv,reduceCtorEq,fillA,AV.cells,AV.fine,AV.one,Nat.reduceAdd,Nat.reduceSub,Nat.reduceMul,Nat.reduceLT,Nat.reduceLeDiff,Int.reduceLT,Int.reduceLE,Int.reduceAdd,Int.reduceSub,Int.reduceNeg,Int.reduceMul,Int.reduceEq,Int.reduceToNat,nilA,moveA,live,loadA,rdA,storeA,wrA,intA,elemA,lenA,appA,srcA,isPtr,isNilPtr,partA,resOf,sliceA,cut,id,ap2,reduceIte,concs,chkB,geB,AOp.cls,AOp.xs,ltB,ltC,Nat.reduceBEq,Option.toList,List.cons_append,decide_eq_true,decide_eq_false,if_pos,if_neg,List.length_map,List.cons_append,bVb,bVn,eq_self,Bool.and_self,BEq.rfl,not_true_eq_false,set_pA,List.length_set,cVu,cVi,shr1,hm,q1,q2,hlt];(first|((with_reducible refine hK _ ?_);clear hK K)|((with_reducible refine hK ?_);clear hK hK3 K hK2)|((with_reducible refine hK3 ?_);clear hK hK3 K hK2)))|((first|((with_reducible refine kvd 68 ?_ ?_ ?_ ?_ ?_ ?_ ?_ ?_);rotate_left 3));(focus (simp (disch:=omega) only [bg0,bg1,bg2,bg3,bg4,stepO,rsAs,eff,AX.ev,St.put,binA,conc,ap1,ofVal,Int.reduceTMod,Int.reduceTDiv,reduceCtorEq,fillA,AV.cells,AV.fine,AV.one,Nat.reduceAdd,Nat.reduceSub,Nat.reduceMul,Nat.reduceLT,Nat.reduceLeDiff,Int.reduceLT,Int.reduceLE,Int.reduceAdd,Int.reduceSub,Int.reduceNeg,Int.reduceMul,Int.reduceEq,Int.reduceToNat,nilA,moveA,live,loadA,rdA,storeA,wrA,intA,elemA,lenA,appA,srcA,isPtr,isNilPtr,partA,resOf,sliceA,cut,id,ap2,reduceIte,concs,chkB,geB,AOp.cls,AOp.xs,ltB,ltC,Nat.reduceBEq,Option.toList,List.cons_append,decide_eq_true,decide_eq_false,if_pos,if_neg,List.length_map,List.cons_append,bVb,bVn,eq_self,Bool.and_self,BEq.rfl,not_true_eq_false,set_pA,List.length_set,cVu,cVi,shr1,hm,q1,q2,hlt];try rfl));(first|(rfl;exact hb68;exact (cmpC G _ hy hx)))))
      exact ⟨rfl,h - i,by omega,i,h,rfl,rfl,rfl,by omega,by omega,by omega,by omega,rfl⟩
  · obtain rfl : i = m + c := by omega
    obtain rfl:j=m+c:=by omega
    (refine w_skip_at 25 29 (by simp [skp_len]) fun f25=>?_;simp (disch:=omega) only [List.take_succ_cons,List.take_zero,List.drop_succ_cons,List.drop_zero,List.cons_append,List.nil_append,List.take_nil,List.drop_nil,skp_take,skp_drop,skp_app,Nat.reduceSub,Nat.reduceAdd,List.replicate_succ,List.replicate_zero])
    (have ho:∀ (f:Nat→AV) (L:List AV),skp 23 f L=f 0::f 1::f 2::f 3::f 4::f 5::f 6::f 7::f 8::f 9::f 10::f 11::f 12::f 13::f 14::f 15::f 16::f 17::f 18::f 19::f 20::f 21::f 22::L:=fun _ _=>rfl;simp only [ho];clear ho)
    repeat (first|with_reducible refine w_seq ?_|with_reducible refine w_reg ?_|with_reducible refine w_block ?_|with_reducible refine w_exit ?_|with_reducible refine ws_nil ?_|with_reducible refine q_then ?_|with_reducible refine q_then_x ?_|with_reducible refine q_block_x ?_|((first|with_reducible refine ks fun K hK=>?_|with_reducible refine kd fun K hK=>?_|with_reducible refine kc fun K hK2 hK hK3=>?_);simp (disch:=omega) only [bg0,bg1,bg2,bg3,bg4,stepO,rsAs,eff,AX.ev,St.put,binA,conc,ap1,ofVal,Int.reduceTMod,Int.reduceTDiv,reduceCtorEq,fillA,AV.cells,AV.fine,AV.one,Nat.reduceAdd,Nat.reduceSub,Nat.reduceMul,Nat.reduceLT,Nat.reduceLeDiff,Int.reduceLT,Int.reduceLE,Int.reduceAdd,Int.reduceSub,Int.reduceNeg,Int.reduceMul,Int.reduceEq,Int.reduceToNat,nilA,moveA,live,loadA,rdA,storeA,wrA,intA,elemA,lenA,appA,srcA,isPtr,isNilPtr,partA,resOf,sliceA,cut,id,ap2,reduceIte,concs,chkB,geB,AOp.cls,AOp.xs,ltB,ltC,Nat.reduceBEq,Option.toList,List.cons_append,decide_eq_true,decide_eq_false,if_pos,if_neg,List.length_map,List.cons_append,bVb,bVn,eq_self,Bool.and_self,BEq.rfl,not_true_eq_false,set_pA,List.length_set,cVu,cVi,shr1];(first|((with_reducible refine hK _ ?_);clear hK K)|((with_reducible refine hK ?_);clear hK hK3 K hK2)|((with_reducible refine hK3 ?_);clear hK hK3 K hK2))))
    refine w_loop_m [13,55,56,57,58,59,60,61,62,63,64,65,66,67,68,69,70,71,72,73,74,75,76] (fun r v H=>v 13=I ((a+r:Nat):Int)∧H=[rw0 (P++(B.take r++x::(B.drop r++R))) g]) c ⟨by simp [at_],rfl⟩ ?_ ?_
    · rintro r v2 H hr ⟨h13, rfl⟩
      have hrB:r < B.length:=by omega
      have hSl:(B.take r).length=r:=by simp;omega
      have hdr:B.drop r=B[r]::B.drop (r+1):=List.drop_eq_getElem_cons hrB
      have htk:B.take (r+1)=B.take r++[B[r]]:=by rw [List.take_add_one,List.getElem?_eq_getElem hrB];rfl
      rw [hdr,htk]
      generalize B[r]=y at *
      have q1:=pAq (at_mid (P:=P) (S:=B.take r) (x:=x) (R:=y::(B.drop (r+1)++R)) (k:=a+r) (by omega))
      have q2:=pAq (at_nx (P:=P) (S:=B.take r) (x:=x) (y:=y) (R:=B.drop (r+1)++R) (k:=a+r) (by omega))
      have q3:(((P++(B.take r++x::y::(B.drop (r+1)++R))).set (a+r) y).map pA)[a+r+1]? = some (.agg [S y.1,S y.2]):=pAq (by rw [List.getElem?_set_ne (by omega)];exact at_nx (by omega))
      have hsw:=sw_fwd (P:=P) (S:=B.take r) (x:=x) (y:=y) (R:=B.drop (r+1)++R) (k:=a+r) (by omega)
      have hCl:(P++(B.take r++x::y::(B.drop (r+1)++R))).length=N:=by
        rw [← hN];simp [hSl];omega
      simp only [List.cons_append] at *
      generalize P++(B.take r++x::y::(B.drop (r+1)++R))=C at *
      have e1:((a:Int)+(r:Int)+1).toNat=a+r+1:=by omega
      have e2:((a:Int)+(r:Int)).toNat=a+r:=by omega
      have hw3:a+r+1 < N:=by omega
      have hcN:m+c≤N:=by omega
      clear hSl hdr htk hc hfin hB hbN hcl ema i1 i2 i3 i4 hij
      simp only [mix,mix_nil,mix_end,mix_skp,Nat.reduceEqDiff,Nat.reduceLeDiff,reduceCtorEq,if_true,if_false,reduceIte,Nat.reduceAdd,h13]
      repeat (first|with_reducible refine w_seq ?_|with_reducible refine w_reg ?_|(with_reducible refine w_drawx2 ?_ ?_ ?_ ?_;rotate_left 1)|with_reducible exact isSt|with_reducible refine w_block ?_|with_reducible refine w_skip ?_|with_reducible refine ws_nil ?_|with_reducible refine wd_nil ?_|with_reducible refine q_then ?_|with_reducible refine q_block_n ?_|((first|with_reducible refine ks fun K hK=>?_|with_reducible refine kd fun K hK=>?_|with_reducible refine kc fun K hK2 hK hK3=>?_);simp (disch:=omega) only [bg0,bg1,bg2,bg3,bg4,stepO,rsAs,eff,AX.ev,St.put,binA,conc,ap1,ofVal,Int.reduceTMod,Int.reduceTDiv,reduceCtorEq,fillA,AV.cells,AV.fine,AV.one,Nat.reduceAdd,Nat.reduceSub,Nat.reduceMul,Nat.reduceLT,Nat.reduceLeDiff,Int.reduceLT,Int.reduceLE,Int.reduceAdd,Int.reduceSub,Int.reduceNeg,Int.reduceMul,Int.reduceEq,Int.reduceToNat,nilA,moveA,live,loadA,rdA,storeA,wrA,intA,elemA,lenA,appA,srcA,isPtr,isNilPtr,partA,resOf,sliceA,cut,id,ap2,reduceIte,concs,chkB,geB,AOp.cls,AOp.xs,ltB,ltC,Nat.reduceBEq,Option.toList,List.cons_append,decide_eq_true,decide_eq_false,if_pos,if_neg,List.length_map,List.cons_append,bVb,bVn,eq_self,Bool.and_self,BEq.rfl,not_true_eq_false,set_pA,List.length_set,cVu,cVi,shr1,q1,q2,q3,e1,e2];(first|((with_reducible refine hK _ ?_);clear hK K)|((with_reducible refine hK ?_);clear hK hK3 K hK2)|((with_reducible refine hK3 ?_);clear hK hK3 K hK2))))
      exact ⟨rfl,by simp [at_];omega,rw0_eq hsw⟩
    · rintro v2 H ⟨h13, rfl⟩
      simp only [mix,mix_nil,mix_end,mix_skp,Nat.reduceEqDiff,Nat.reduceLeDiff,reduceCtorEq,if_true,if_false,reduceIte,Nat.reduceAdd,h13]
      (try simp only [List.cons_append,List.nil_append])
      rw [← hfin]
      simp only [List.append_assoc,List.cons_append]
      repeat (first|with_reducible refine w_seq ?_|with_reducible refine w_reg ?_|with_reducible refine w_exit ?_|with_reducible refine ws_nil ?_|with_reducible refine q_then ?_|with_reducible refine q_then_x ?_|with_reducible refine q_block_x ?_|with_reducible refine w_ret ?_|with_reducible refine q_then_r ?_|((first|with_reducible refine ks fun K hK=>?_|with_reducible refine kd fun K hK=>?_|with_reducible refine kc fun K hK2 hK hK3=>?_);simp (disch:=omega) only [bg0,bg1,bg2,bg3,bg4,stepO,rsAs,eff,AX.ev,St.put,binA,conc,ap1,ofVal,Int.reduceTMod,Int.reduceTDiv,reduceCtorEq,fillA,AV.cells,AV.fine,AV.one,Nat.reduceAdd,Nat.reduceSub,Nat.reduceMul,Nat.reduceLT,Nat.reduceLeDiff,Int.reduceLT,Int.reduceLE,Int.reduceAdd,Int.reduceSub,Int.reduceNeg,Int.reduceMul,Int.reduceEq,Int.reduceToNat,nilA,moveA,live,loadA,rdA,storeA,wrA,intA,elemA,lenA,appA,srcA,isPtr,isNilPtr,partA,resOf,sliceA,cut,id,ap2,reduceIte,concs,chkB,geB,AOp.cls,AOp.xs,ltB,ltC,Nat.reduceBEq,Option.toList,List.cons_append,decide_eq_true,decide_eq_false,if_pos,if_neg,List.length_map,List.cons_append,bVb,bVn,eq_self,Bool.and_self,BEq.rfl,not_true_eq_false,set_pA,List.length_set,cVu,cVi,shr1];(first|((with_reducible refine hK _ ?_);clear hK K)|((with_reducible refine hK ?_);clear hK hK3 K hK2)|((with_reducible refine hK3 ?_);clear hK hK3 K hK2)))|((with_reducible refine ret_0r ?_);try rfl))
set_option maxHeartbeats 8000000 in
theorem symR (G : Nat → AV) (g : Nat) (P A R : List Pr) (x : Pr) (N a m b : Nat) (hN : (P ++ (A ++ ([x] ++ R))).length = N) (hP : P.length = a) (hA : a + A.length = m) (hA2 : 2 ≤ A.length) (hB : m + 1 = b) (sA : SLe A) (hok : Okl (P ++ (A ++ ([x] ++ R)))) :
    HC Try.prog G 72 [.ol 0 g N,I a,I m,I b,cF] [rw0 (P++(A++([x]++R))) g] (.tup []) [rw0 (P++(ssort (A++[x])++R)) g]:=by
  have hlen:=hok.len
  rw [hN] at hlen
  have hbN:b≤N:=by rw [← hN];simp;omega
  have hx:x.1.size≤9223372036854775807:=(hok.sz x (by simp)).1
  have hsA:∀ p ∈ A,p.1.size≤9223372036854775807:=fun p hp=>(hok.sz p (by simp [hp])).1
  obtain ⟨c,hc⟩:∃ c,c=(le A x.1).length:=⟨_,rfl⟩
  have hcl:c≤A.length:=by rw [hc];exact le_len
  have hfin:=one_right sA x
  rw [← hc] at hfin
  have ema:¬ ((m:Int) - (a:Int)=1):=by omega
  have ebm:(b:Int) - (m:Int)=1:=by omega
  refine hc_of cop72 ?_
  show W _ _ _ _ ⟨_,_⟩;simp only [A72,List.cons_append,List.nil_append,List.length_cons,List.length_nil,Nat.reduceAdd,Nat.reduceSub,List.replicate]
  (refine w_skip_at 129 91 (by simp [skp_len]) fun f129=>?_;simp (disch:=omega) only [List.take_succ_cons,List.take_zero,List.drop_succ_cons,List.drop_zero,List.cons_append,List.nil_append,List.take_nil,List.drop_nil,skp_take,skp_drop,skp_app,Nat.reduceSub,Nat.reduceAdd,List.replicate_succ,List.replicate_zero])
  (refine w_skip_at 107 22 (by simp [skp_len]) fun f107=>?_;simp (disch:=omega) only [List.take_succ_cons,List.take_zero,List.drop_succ_cons,List.drop_zero,List.cons_append,List.nil_append,List.take_nil,List.drop_nil,skp_take,skp_drop,skp_app,Nat.reduceSub,Nat.reduceAdd,List.replicate_succ,List.replicate_zero])
  repeat (first|with_reducible refine w_seq ?_|with_reducible refine w_reg ?_|with_reducible refine w_block ?_|with_reducible refine w_skip ?_|with_reducible refine ws_nil ?_|with_reducible refine q_then ?_|((first|with_reducible refine ks fun K hK=>?_|with_reducible refine kd fun K hK=>?_|with_reducible refine kc fun K hK2 hK hK3=>?_);simp (disch:=omega) only [bg0,bg1,bg2,bg3,bg4,stepO,rsAs,eff,AX.ev,St.put,binA,conc,ap1,ofVal,Int.reduceTMod,Int.reduceTDiv,reduceCtorEq,fillA,AV.cells,AV.fine,AV.one,Nat.reduceAdd,Nat.reduceSub,Nat.reduceMul,Nat.reduceLT,Nat.reduceLeDiff,Int.reduceLT,Int.reduceLE,Int.reduceAdd,Int.reduceSub,Int.reduceNeg,Int.reduceMul,Int.reduceEq,Int.reduceToNat,nilA,moveA,live,loadA,rdA,storeA,wrA,intA,elemA,lenA,appA,srcA,isPtr,isNilPtr,partA,resOf,sliceA,cut,id,ap2,reduceIte,concs,chkB,geB,AOp.cls,AOp.xs,ltB,ltC,Nat.reduceBEq,Option.toList,List.cons_append,decide_eq_true,decide_eq_false,if_pos,if_neg,List.length_map,List.cons_append,bVb,bVn,eq_self,Bool.and_self,BEq.rfl,not_true_eq_false,set_pA,List.length_set,cVu,cVi,shr1,ema,ebm];(first|((with_reducible refine hK _ ?_);clear hK K)|((with_reducible refine hK ?_);clear hK hK3 K hK2)|((with_reducible refine hK3 ?_);clear hK hK3 K hK2))))
  (refine w_skip_at 25 58 (by simp [skp_len]) fun f25=>?_;simp (disch:=omega) only [List.take_succ_cons,List.take_zero,List.drop_succ_cons,List.drop_zero,List.cons_append,List.nil_append,List.take_nil,List.drop_nil,skp_take,skp_drop,skp_app,Nat.reduceSub,Nat.reduceAdd,List.replicate_succ,List.replicate_zero])
  refine w_loop_d [14,15,16,83,84,85,86,87,88,89,90,91,92,93,94,95,96,97,98,99,100,101,102,103,104,105,106] (fun u v H=>∃ i j:Nat,u=j - i∧v 14=I i∧v 15=I j∧a≤i∧i≤a+c∧a+c≤j∧j≤m∧H=[rw0 (P++(A++([x]++R))) g]) (m - a) ⟨a,m,rfl,rfl,rfl,by omega,by omega,by omega,by omega,rfl⟩ ?_
  rintro u v H ⟨i,j,rfl,h14,h15,i1,i2,i3,i4,rfl⟩
  simp only [mix,mix_nil,mix_end,mix_skp,Nat.reduceEqDiff,Nat.reduceLeDiff,reduceCtorEq,if_true,if_false,reduceIte,Nat.reduceAdd,h14,h15]
  by_cases hij:i < j
  · obtain ⟨h, hh⟩ : ∃ h, h = (i + j) / 2 := ⟨_, rfl⟩
    have q1:((P++(A++([x]++R))).map pA)[h]? = some (.agg [S (A[h - a]'(by omega)).1,S (A[h - a]'(by omega)).2]):=pAq (by
      have:=gdA (P:=P) (A:=A) (R:=[x]++R) (k:=h) (by omega) (by omega)
      rw [this]
      congr 2
      omega)
    have q2:((P++(A++([x]++R))).map pA)[m]? = some (.agg [S x.1,S x.2]):=pAq (at_mid (S:=A) (by omega))
    have hy:=hsA _ (List.getElem_mem (l:=A) (n:=h - a) (by omega))
    have hidx:=idx_le sA x.1 (i:=h - a) (by omega)
    rw [← hc] at hidx
    generalize A[h - a]'(by omega)=y at *
    have hm:=hh.symm
    have hNl:=hN
    generalize P++(A++([x]++R))=C at *
    have hanti:=cB_anti y.1 x.1
    by_cases hlt:cB x.1 y.1 < 0
    · have:¬ (h - a < c):=fun h=>by have:=hidx.2 h;omega
      repeat (first|with_reducible refine w_seq ?_|with_reducible refine w_reg ?_|with_reducible refine w_draw ?_|with_reducible refine w_block ?_|with_reducible refine w_skip ?_|with_reducible refine ws_nil ?_|with_reducible refine wd_nil ?_|with_reducible refine q_then ?_|with_reducible refine q_block_n ?_|((first|with_reducible refine ks fun K hK=>?_|with_reducible refine kd fun K hK=>?_|with_reducible refine kc fun K hK2 hK hK3=>?_);simp (disch:=omega) only [bg0,bg1,bg2,bg3,bg4,stepO,rsAs,eff,AX.ev,St.put,binA,conc,ap1,ofVal,Int.reduceTMod,Int.reduceTDiv,reduceCtorEq,fillA,AV.cells,AV.fine,AV.one,Nat.reduceAdd,Nat.reduceSub,Nat.reduceMul,Nat.reduceLT,Nat.reduceLeDiff,Int.reduceLT,Int.reduceLE,Int.reduceAdd,Int.reduceSub,Int.reduceNeg,Int.reduceMul,Int.reduceEq,Int.reduceToNat,nilA,moveA,live,loadA,rdA,storeA,wrA,intA,elemA,lenA,appA,srcA,isPtr,isNilPtr,partA,resOf,sliceA,cut,id,ap2,reduceIte,concs,chkB,geB,AOp.cls,AOp.xs,ltB,ltC,Nat.reduceBEq,Option.toList,List.cons_append,decide_eq_true,decide_eq_false,if_pos,if_neg,List.length_map,List.cons_append,bVb,bVn,eq_self,Bool.and_self,BEq.rfl,not_true_eq_false,set_pA,List.length_set,cVu,cVi,shr1,hm,q1,q2,hlt];(first|((with_reducible refine hK _ ?_);clear hK K)|((with_reducible refine hK ?_);clear hK hK3 K hK2)|((with_reducible refine hK3 ?_);clear hK hK3 K hK2)))|((first|((with_reducible refine kvd 68 ?_ ?_ ?_ ?_ ?_ ?_ ?_ ?_);rotate_left 3));(focus (simp (disch:=omega) only [bg0,bg1,bg2,bg3,bg4,stepO,rsAs,eff,AX.ev,St.put,binA,conc,ap1,ofVal,Int.reduceTMod,Int.reduceTDiv,reduceCtorEq,fillA,AV.cells,AV.fine,AV.one,Nat.reduceAdd,Nat.reduceSub,Nat.reduceMul,Nat.reduceLT,Nat.reduceLeDiff,Int.reduceLT,Int.reduceLE,Int.reduceAdd,Int.reduceSub,Int.reduceNeg,Int.reduceMul,Int.reduceEq,Int.reduceToNat,nilA,moveA,live,loadA,rdA,storeA,wrA,intA,elemA,lenA,appA,srcA,isPtr,isNilPtr,partA,resOf,sliceA,cut,id,ap2,reduceIte,concs,chkB,geB,AOp.cls,AOp.xs,ltB,ltC,Nat.reduceBEq,Option.toList,List.cons_append,decide_eq_true,decide_eq_false,if_pos,if_neg,List.length_map,List.cons_append,bVb,bVn,eq_self,Bool.and_self,BEq.rfl,not_true_eq_false,set_pA,List.length_set,cVu,cVi,shr1,hm,q1,q2,hlt];try rfl));(first|(rfl;exact hb68;exact (cmpC G _ hx hy)))))
      exact ⟨rfl,h - i,by omega,i,h,rfl,rfl,rfl,by omega,by omega,by omega,by omega,rfl⟩
    · have := hidx.1 (by omega)
      repeat (first|with_reducible refine w_seq ?_|with_reducible refine w_reg ?_|with_reducible refine w_draw ?_|with_reducible refine w_block ?_|with_reducible refine w_skip ?_|with_reducible refine ws_nil ?_|with_reducible refine wd_nil ?_|with_reducible refine q_then ?_|with_reducible refine q_block_n ?_|((first|with_reducible refine ks fun K hK=>?_|with_reducible refine kd fun K hK=>?_|with_reducible refine kc fun K hK2 hK hK3=>?_);simp (disch:=omega) only [bg0,bg1,bg2,bg3,bg4,stepO,rsAs,eff,AX.ev,St.put,binA,conc,ap1,ofVal,Int.reduceTMod,Int.reduceTDiv,reduceCtorEq,fillA,AV.cells,AV.fine,AV.one,Nat.reduceAdd,Nat.reduceSub,Nat.reduceMul,Nat.reduceLT,Nat.reduceLeDiff,Int.reduceLT,Int.reduceLE,Int.reduceAdd,Int.reduceSub,Int.reduceNeg,Int.reduceMul,Int.reduceEq,Int.reduceToNat,nilA,moveA,live,loadA,rdA,storeA,wrA,intA,elemA,lenA,appA,srcA,isPtr,isNilPtr,partA,resOf,sliceA,cut,id,ap2,reduceIte,concs,chkB,geB,AOp.cls,AOp.xs,ltB,ltC,Nat.reduceBEq,Option.toList,List.cons_append,decide_eq_true,decide_eq_false,if_pos,if_neg,List.length_map,List.cons_append,bVb,bVn,eq_self,Bool.and_self,BEq.rfl,not_true_eq_false,set_pA,List.length_set,cVu,cVi,shr1,hm,q1,q2,hlt];(first|((with_reducible refine hK _ ?_);clear hK K)|((with_reducible refine hK ?_);clear hK hK3 K hK2)|((with_reducible refine hK3 ?_);clear hK hK3 K hK2)))|((first|((with_reducible refine kvd 68 ?_ ?_ ?_ ?_ ?_ ?_ ?_ ?_);rotate_left 3));(focus (simp (disch:=omega) only [bg0,bg1,bg2,bg3,bg4,stepO,rsAs,eff,AX.ev,St.put,binA,conc,ap1,ofVal,Int.reduceTMod,Int.reduceTDiv,reduceCtorEq,fillA,AV.cells,AV.fine,AV.one,Nat.reduceAdd,Nat.reduceSub,Nat.reduceMul,Nat.reduceLT,Nat.reduceLeDiff,Int.reduceLT,Int.reduceLE,Int.reduceAdd,Int.reduceSub,Int.reduceNeg,Int.reduceMul,Int.reduceEq,Int.reduceToNat,nilA,moveA,live,loadA,rdA,storeA,wrA,intA,elemA,lenA,appA,srcA,isPtr,isNilPtr,partA,resOf,sliceA,cut,id,ap2,reduceIte,concs,chkB,geB,AOp.cls,AOp.xs,ltB,ltC,Nat.reduceBEq,Option.toList,List.cons_append,decide_eq_true,decide_eq_false,if_pos,if_neg,List.length_map,List.cons_append,bVb,bVn,eq_self,Bool.and_self,BEq.rfl,not_true_eq_false,set_pA,List.length_set,cVu,cVi,shr1,hm,q1,q2,hlt];try rfl));(first|(rfl;exact hb68;exact (cmpC G _ hx hy)))))
      exact ⟨rfl,j - (h+1),by omega,h+1,j,rfl,rfl,rfl,by omega,by omega,by omega,by omega,rfl⟩
  · obtain rfl : i = a + c := by omega
    obtain rfl:j=a+c:=by omega
    (refine w_skip_at 83 24 (by simp [skp_len]) fun f83=>?_;simp (disch:=omega) only [List.take_succ_cons,List.take_zero,List.drop_succ_cons,List.drop_zero,List.cons_append,List.nil_append,List.take_nil,List.drop_nil,skp_take,skp_drop,skp_app,Nat.reduceSub,Nat.reduceAdd,List.replicate_succ,List.replicate_zero])
    (have ho:∀ (f:Nat→AV) (L:List AV),skp 22 f L=f 0::f 1::f 2::f 3::f 4::f 5::f 6::f 7::f 8::f 9::f 10::f 11::f 12::f 13::f 14::f 15::f 16::f 17::f 18::f 19::f 20::f 21::L:=fun _ _=>rfl;simp only [ho];clear ho)
    repeat (first|with_reducible refine w_seq ?_|with_reducible refine w_reg ?_|with_reducible refine w_block ?_|with_reducible refine w_exit ?_|with_reducible refine ws_nil ?_|with_reducible refine q_then ?_|with_reducible refine q_then_x ?_|with_reducible refine q_block_x ?_|((first|with_reducible refine ks fun K hK=>?_|with_reducible refine kd fun K hK=>?_|with_reducible refine kc fun K hK2 hK hK3=>?_);simp (disch:=omega) only [bg0,bg1,bg2,bg3,bg4,stepO,rsAs,eff,AX.ev,St.put,binA,conc,ap1,ofVal,Int.reduceTMod,Int.reduceTDiv,reduceCtorEq,fillA,AV.cells,AV.fine,AV.one,Nat.reduceAdd,Nat.reduceSub,Nat.reduceMul,Nat.reduceLT,Nat.reduceLeDiff,Int.reduceLT,Int.reduceLE,Int.reduceAdd,Int.reduceSub,Int.reduceNeg,Int.reduceMul,Int.reduceEq,Int.reduceToNat,nilA,moveA,live,loadA,rdA,storeA,wrA,intA,elemA,lenA,appA,srcA,isPtr,isNilPtr,partA,resOf,sliceA,cut,id,ap2,reduceIte,concs,chkB,geB,AOp.cls,AOp.xs,ltB,ltC,Nat.reduceBEq,Option.toList,List.cons_append,decide_eq_true,decide_eq_false,if_pos,if_neg,List.length_map,List.cons_append,bVb,bVn,eq_self,Bool.and_self,BEq.rfl,not_true_eq_false,set_pA,List.length_set,cVu,cVi,shr1];(first|((with_reducible refine hK _ ?_);clear hK K)|((with_reducible refine hK ?_);clear hK hK3 K hK2)|((with_reducible refine hK3 ?_);clear hK hK3 K hK2))))
    refine w_loop_m [17,108,109,110,111,112,113,114,115,116,117,118,119,120,121,122,123,124,125,126,127,128] (fun r v H=>v 17=I ((m - r:Nat):Int)∧H=[rw0 (P++(A.take (A.length - r)++x::(A.drop (A.length - r)++R))) g]) (A.length - c) ⟨rfl,by simp⟩ ?_ ?_
    · rintro r v2 H hr ⟨h17, rfl⟩
      obtain ⟨w,hw⟩:∃ w,w+1=A.length - r:=⟨A.length - r - 1,by omega⟩
      have hw2:A.length - (r+1)=w:=by omega
      rw [← hw,hw2]
      have hwA:w < A.length:=by omega
      have hSl:(A.take w).length=w:=by simp;omega
      have hdr:A.drop w=A[w]::A.drop (w+1):=List.drop_eq_getElem_cons hwA
      have htk:A.take (w+1)=A.take w++[A[w]]:=by rw [List.take_add_one,List.getElem?_eq_getElem hwA];rfl
      rw [hdr,htk]
      generalize A[w]=y at *
      have hmr:m - r=a+w+1:=by omega
      have hmr2:m - (r+1)=a+w:=by omega
      rw [hmr] at h17
      rw [hmr2]
      have q1:=pAq (at_mid (P:=P) (S:=A.take w++[y]) (x:=x) (R:=A.drop (w+1)++R) (k:=a+w+1) (by simp;omega))
      have q2:=pAq (at_pre (P:=P) (S:=A.take w) (x:=x) (y:=y) (R:=A.drop (w+1)++R) (k:=a+w) (by omega))
      have q3:(((P++(A.take w++[y]++x::(A.drop (w+1)++R))).set (a+w+1) y).map pA)[a+w]? = some (.agg [S y.1,S y.2]):=pAq (by rw [List.getElem?_set_ne (by omega)];exact at_pre (by omega))
      have hsw:=sw_mid (P:=P) (S:=A.take w) (x:=x) (y:=y) (R:=A.drop (w+1)++R) (k:=a+w) (by omega)
      have hCl:(P++(A.take w++[y]++x::(A.drop (w+1)++R))).length=N:=by
        rw [← hN];simp [hSl];omega
      generalize P++(A.take w++[y]++x::(A.drop (w+1)++R))=C at *
      have e1:((a:Int)+(w:Int)+1).toNat=a+w+1:=by omega
      have e2:((a:Int)+(w:Int)).toNat=a+w:=by omega
      have hw3:a+w+1 < N:=by omega
      have hw4:c≤w:=by omega
      clear hmr hmr2 hw hw2 hr hSl hdr htk hc hfin hA hB hbN hcl ema ebm i1 i2 i3 i4 hij
      simp only [mix,mix_nil,mix_end,mix_skp,Nat.reduceEqDiff,Nat.reduceLeDiff,reduceCtorEq,if_true,if_false,reduceIte,Nat.reduceAdd,h17]
      repeat (first|with_reducible refine w_seq ?_|with_reducible refine w_reg ?_|(with_reducible refine w_drawx2 ?_ ?_ ?_ ?_;rotate_left 1)|with_reducible exact isSt|with_reducible refine w_block ?_|with_reducible refine w_skip ?_|with_reducible refine ws_nil ?_|with_reducible refine wd_nil ?_|with_reducible refine q_then ?_|with_reducible refine q_block_n ?_|((first|with_reducible refine ks fun K hK=>?_|with_reducible refine kd fun K hK=>?_|with_reducible refine kc fun K hK2 hK hK3=>?_);simp (disch:=omega) only [bg0,bg1,bg2,bg3,bg4,stepO,rsAs,eff,AX.ev,St.put,binA,conc,ap1,ofVal,Int.reduceTMod,Int.reduceTDiv,reduceCtorEq,fillA,AV.cells,AV.fine,AV.one,Nat.reduceAdd,Nat.reduceSub,Nat.reduceMul,Nat.reduceLT,Nat.reduceLeDiff,Int.reduceLT,Int.reduceLE,Int.reduceAdd,Int.reduceSub,Int.reduceNeg,Int.reduceMul,Int.reduceEq,Int.reduceToNat,nilA,moveA,live,loadA,rdA,storeA,wrA,intA,elemA,lenA,appA,srcA,isPtr,isNilPtr,partA,resOf,sliceA,cut,id,ap2,reduceIte,concs,chkB,geB,AOp.cls,AOp.xs,ltB,ltC,Nat.reduceBEq,Option.toList,List.cons_append,decide_eq_true,decide_eq_false,if_pos,if_neg,List.length_map,List.cons_append,bVb,bVn,eq_self,Bool.and_self,BEq.rfl,not_true_eq_false,set_pA,List.length_set,cVu,cVi,shr1,q1,q2,q3,e1,e2];(first|((with_reducible refine hK _ ?_);clear hK K)|((with_reducible refine hK ?_);clear hK hK3 K hK2)|((with_reducible refine hK3 ?_);clear hK hK3 K hK2))))
      exact ⟨rfl,by simp [at_],rw0_eq hsw⟩
    · rintro v2 H ⟨h17, rfl⟩
      rw [show m - (A.length - c)=a+c by omega] at h17
      rw [show A.length - (A.length - c)=c by omega]
      simp only [mix,mix_nil,mix_end,mix_skp,Nat.reduceEqDiff,Nat.reduceLeDiff,reduceCtorEq,if_true,if_false,reduceIte,Nat.reduceAdd,h17]
      rw [← hfin]
      simp only [List.append_assoc,List.cons_append]
      repeat (first|with_reducible refine w_seq ?_|with_reducible refine w_reg ?_|with_reducible refine w_exit ?_|with_reducible refine ws_nil ?_|with_reducible refine q_then ?_|with_reducible refine q_then_x ?_|with_reducible refine q_block_x ?_|with_reducible refine w_ret ?_|with_reducible refine q_then_r ?_|((first|with_reducible refine ks fun K hK=>?_|with_reducible refine kd fun K hK=>?_|with_reducible refine kc fun K hK2 hK hK3=>?_);simp (disch:=omega) only [bg0,bg1,bg2,bg3,bg4,stepO,rsAs,eff,AX.ev,St.put,binA,conc,ap1,ofVal,Int.reduceTMod,Int.reduceTDiv,reduceCtorEq,fillA,AV.cells,AV.fine,AV.one,Nat.reduceAdd,Nat.reduceSub,Nat.reduceMul,Nat.reduceLT,Nat.reduceLeDiff,Int.reduceLT,Int.reduceLE,Int.reduceAdd,Int.reduceSub,Int.reduceNeg,Int.reduceMul,Int.reduceEq,Int.reduceToNat,nilA,moveA,live,loadA,rdA,storeA,wrA,intA,elemA,lenA,appA,srcA,isPtr,isNilPtr,partA,resOf,sliceA,cut,id,ap2,reduceIte,concs,chkB,geB,AOp.cls,AOp.xs,ltB,ltC,Nat.reduceBEq,Option.toList,List.cons_append,decide_eq_true,decide_eq_false,if_pos,if_neg,List.length_map,List.cons_append,bVb,bVn,eq_self,Bool.and_self,BEq.rfl,not_true_eq_false,set_pA,List.length_set,cVu,cVi,shr1];(first|((with_reducible refine hK _ ?_);clear hK K)|((with_reducible refine hK ?_);clear hK hK3 K hK2)|((with_reducible refine hK3 ?_);clear hK hK3 K hK2)))|((with_reducible refine ret_0r ?_);try rfl))
end Go.Proofs.Ytnammfeiehikfaa.Sim.Pr7
namespace Go.Proofs.Ytnammfeiehikfaa.Sim.Pr7
open Go.RowKit
set_option maxRecDepth 100000
def SymOk (G : Nat → AV) : Prop := ∀ (g n : Nat) (P A B R : List Pr) (N a m b : Nat), A.length + B.length ≤ n → (P ++ (A ++ (B ++ R))).length = N → P.length = a → a + A.length = m → m + B.length = b → 0 < A.length → 0 < B.length → SLe A → SLe B → Okl (P ++ (A ++ (B ++ R))) →
    HC Try.prog G 72 [.ol 0 g N,I a,I m,I b,cF] [rw0 (P++(A++(B++R))) g] (.tup []) [rw0 (P++(ssort (A++B)++R)) g]
theorem srt_all (D:List Pr):srt D 0 D.length=ssort D:=by simp [srt,seg]
theorem srt_len {D:List Pr} {a b:Nat} (h:a≤b) (hb:b≤D.length):(srt D a b).length=D.length:=by
  simp [srt,ssort_len,seg];omega
theorem srt_mem {D:List Pr} {a b:Nat} {x:Pr} (h:x ∈ srt D a b):x ∈ D:=by
  simp only [srt,List.mem_append,ssort_mem] at h
  rcases h with h|h|h
  · exact List.mem_of_mem_take h
  · exact seg_mem h
  · exact List.mem_of_mem_drop h
theorem okl_srt {D:List Pr} {a b:Nat} (hD:Okl D) (h:a≤b) (hb:b≤D.length):Okl (srt D a b):=⟨by rw [srt_len h hb];exact hD.len,fun p hp=>hD.sz p (srt_mem hp)⟩
theorem srt_two {D:List Pr} {c:Nat} (hc:c≤D.length):srt (srt D 0 c) c D.length=ssort (D.take c)++(ssort (D.drop c)++[]):=by
  have h1:srt D 0 c=ssort (D.take c)++D.drop c:=by simp [srt,seg]
  have h2:(ssort (D.take c)).length=c:=by rw [ssort_len];simp;omega
  rw [h1]
  unfold srt seg
  have e1:(ssort (D.take c)++D.drop c).take c=ssort (D.take c):=by
    have:=List.take_left (l₁:=ssort (D.take c)) (l₂:=D.drop c)
    rwa [h2] at this
  have e2:((ssort (D.take c)++D.drop c).take D.length).drop c=D.drop c:=by
    rw [List.take_of_length_le (by simp [h2];omega)]
    have:=List.drop_left (l₁:=ssort (D.take c)) (l₂:=D.drop c)
    rwa [h2] at this
  have e3:(ssort (D.take c)++D.drop c).drop D.length=[]:=List.drop_of_length_le (by simp [h2];omega)
  rw [e1,e2,e3]
theorem ssort_two (X Y:List Pr):ssort (ssort X++ssort Y)=ssort (X++Y) :=
  srt_uniq (ssort_le _) (ssort_le _) fun k=>by simp only [ssort_fk,fk_append]
set_option maxHeartbeats 8000000 in
theorem stable37 (G : Nat → AV) (hS : SymOk G) (D : List Pr) (g : Nat) (hD : Okl D) (h40 : D.length ≤ 40) :
    HC Try.prog G 70 [.ol 0 g D.length,I D.length,cF] [rw0 D g] (.tup []) [rw0 (ssort D) g]:=by
  obtain ⟨N,hN⟩:∃ N,N=D.length:=⟨_,rfl⟩
  by_cases h1:N < 20
  · have i1 := ins43 G D g 0 N hD (by omega) (by omega)
    rw [hN,srt_all] at i1
    rw [← hN] at i1 ⊢
    refine hc_of cop70 ?_
    show W _ _ _ _ ⟨_,_⟩;simp only [A70,List.cons_append,List.nil_append,List.length_cons,List.length_nil,Nat.reduceAdd,Nat.reduceSub,List.replicate]
    clear hD hS
    repeat (first|with_reducible refine w_seq ?_|with_reducible refine w_reg ?_|with_reducible refine w_block ?_|with_reducible refine w_exit ?_|with_reducible refine ws_nil ?_|with_reducible refine q_then ?_|with_reducible refine q_then_x ?_|with_reducible refine q_block_x ?_|(with_reducible refine w_loopF 60 ?_)|(with_reducible refine w_loopS ?_)|((first|with_reducible refine ks fun K hK=>?_|with_reducible refine kd fun K hK=>?_|with_reducible refine kc fun K hK2 hK hK3=>?_);simp (disch:=omega) only [bg0,bg1,bg2,bg3,bg4,stepO,rsAs,eff,AX.ev,St.put,binA,conc,ap1,ofVal,Int.reduceTMod,Int.reduceTDiv,reduceCtorEq,fillA,AV.cells,AV.fine,AV.one,Nat.reduceAdd,Nat.reduceSub,Nat.reduceMul,Nat.reduceLT,Nat.reduceLeDiff,Int.reduceLT,Int.reduceLE,Int.reduceAdd,Int.reduceSub,Int.reduceNeg,Int.reduceMul,Int.reduceEq,Int.reduceToNat,nilA,moveA,live,loadA,rdA,storeA,wrA,intA,elemA,lenA,appA,srcA,isPtr,isNilPtr,partA,resOf,sliceA,cut,id,ap2,reduceIte,concs,chkB,geB,AOp.cls,AOp.xs,ltB,ltC,Nat.reduceBEq,Option.toList,List.cons_append,decide_eq_true,decide_eq_false,if_pos,if_neg,List.length_map,pA_at,List.cons_append,bVb,bVn,eq_self,Bool.and_self,BEq.rfl,not_true_eq_false];(first|((with_reducible refine hK _ ?_);clear hK K)|((with_reducible refine hK ?_);clear hK hK3 K hK2)|((with_reducible refine hK3 ?_);clear hK hK3 K hK2)))|((with_reducible refine khs 71 ?_ ?_ ?_ ?_);rotate_left 2;exact i1)|((with_reducible refine ret_0 ?_);try rfl))
  have i1:=ins43 G D g 0 20 hD (by omega) (by omega)
  have l1:=srt_len (D:=D) (a:=0) (b:=20) (by omega) (by omega)
  by_cases h2:N=20
  · have i2 := ins43 G (srt D 0 20) g 20 20 (okl_srt hD (by omega) (by omega)) (by omega) (by omega)
    rw [srt_one (D:=srt D 0 20) (by omega) (by omega) (by omega)] at i2
    have e:srt D 0 20=ssort D:=by rw [show 20=D.length by omega];exact srt_all D
    rw [e] at i1 i2 l1
    rw [l1] at i2
    rw [← hN,h2] at i1 i2 ⊢
    refine hc_of cop70 ?_
    show W _ _ _ _ ⟨_,_⟩;simp only [A70,List.cons_append,List.nil_append,List.length_cons,List.length_nil,Nat.reduceAdd,Nat.reduceSub,List.replicate]
    clear hD hS
    repeat (first|with_reducible refine w_seq ?_|with_reducible refine w_reg ?_|with_reducible refine w_block ?_|with_reducible refine w_skip ?_|with_reducible refine w_exit ?_|with_reducible refine ws_nil ?_|with_reducible refine q_then ?_|with_reducible refine q_then_x ?_|with_reducible refine q_block_n ?_|with_reducible refine q_block_x ?_|(with_reducible refine w_loopF 60 ?_)|(with_reducible refine w_loopS ?_)|((first|with_reducible refine ks fun K hK=>?_|with_reducible refine kd fun K hK=>?_|with_reducible refine kc fun K hK2 hK hK3=>?_);simp (disch:=omega) only [bg0,bg1,bg2,bg3,bg4,stepO,rsAs,eff,AX.ev,St.put,binA,conc,ap1,ofVal,Int.reduceTMod,Int.reduceTDiv,reduceCtorEq,fillA,AV.cells,AV.fine,AV.one,Nat.reduceAdd,Nat.reduceSub,Nat.reduceMul,Nat.reduceLT,Nat.reduceLeDiff,Int.reduceLT,Int.reduceLE,Int.reduceAdd,Int.reduceSub,Int.reduceNeg,Int.reduceMul,Int.reduceEq,Int.reduceToNat,nilA,moveA,live,loadA,rdA,storeA,wrA,intA,elemA,lenA,appA,srcA,isPtr,isNilPtr,partA,resOf,sliceA,cut,id,ap2,reduceIte,concs,chkB,geB,AOp.cls,AOp.xs,ltB,ltC,Nat.reduceBEq,Option.toList,List.cons_append,decide_eq_true,decide_eq_false,if_pos,if_neg,List.length_map,pA_at,List.cons_append,bVb,bVn,eq_self,Bool.and_self,BEq.rfl,not_true_eq_false];(first|((with_reducible refine hK _ ?_);clear hK K)|((with_reducible refine hK ?_);clear hK hK3 K hK2)|((with_reducible refine hK3 ?_);clear hK hK3 K hK2)))|((with_reducible refine khs 71 ?_ ?_ ?_ ?_);rotate_left 2;exact i1)|((with_reducible refine khs 71 ?_ ?_ ?_ ?_);rotate_left 2;exact i2)|((with_reducible refine ret_0 ?_);try rfl))
  have i2:=ins43 G (srt D 0 20) g 20 D.length (okl_srt hD (by omega) (by omega)) (by omega) (by omega)
  rw [srt_two (by omega),l1] at i2
  have s3:=hS g D.length [] (ssort (D.take 20)) (ssort (D.drop 20)) [] N 0 20 N (by simp [ssort_len];omega) (by simp [ssort_len];omega) rfl (by simp [ssort_len];omega) (by simp [ssort_len];omega) (by simp [ssort_len];omega) (by simp [ssort_len];omega) (ssort_le _) (ssort_le _) ⟨by simp [ssort_len];omega,fun p hp=>by
    simp only [List.nil_append,List.append_nil,List.mem_append,ssort_mem] at hp
    rcases hp with h|h
    · exact hD.sz p (List.mem_of_mem_take h)
    · exact hD.sz p (List.mem_of_mem_drop h)⟩
  rw [ssort_two,List.take_append_drop] at s3
  simp only [List.nil_append,List.append_nil] at s3 i2
  have l2:(ssort (D.take 20)++ssort (D.drop 20)).length=N:=by simp [ssort_len];omega
  rw [← hN] at i1 i2 ⊢
  by_cases h3:N < 40
  · generalize srt D 0 20 = D1 at *
    generalize ssort (D.take 20)++ssort (D.drop 20)=D2 at *
    generalize ssort D=D3 at *
    refine hc_of cop70 ?_
    show W _ _ _ _ ⟨_,_⟩;simp only [A70,List.cons_append,List.nil_append,List.length_cons,List.length_nil,Nat.reduceAdd,Nat.reduceSub,List.replicate]
    clear hD hS
    repeat (first|with_reducible refine w_seq ?_|with_reducible refine w_reg ?_|with_reducible refine w_block ?_|with_reducible refine w_skip ?_|with_reducible refine w_exit ?_|with_reducible refine ws_nil ?_|with_reducible refine q_then ?_|with_reducible refine q_then_x ?_|with_reducible refine q_block_n ?_|with_reducible refine q_block_x ?_|(with_reducible refine w_loopF 60 ?_)|(with_reducible refine w_loopS ?_)|((first|with_reducible refine ks fun K hK=>?_|with_reducible refine kd fun K hK=>?_|with_reducible refine kc fun K hK2 hK hK3=>?_);simp (disch:=omega) only [bg0,bg1,bg2,bg3,bg4,stepO,rsAs,eff,AX.ev,St.put,binA,conc,ap1,ofVal,Int.reduceTMod,Int.reduceTDiv,reduceCtorEq,fillA,AV.cells,AV.fine,AV.one,Nat.reduceAdd,Nat.reduceSub,Nat.reduceMul,Nat.reduceLT,Nat.reduceLeDiff,Int.reduceLT,Int.reduceLE,Int.reduceAdd,Int.reduceSub,Int.reduceNeg,Int.reduceMul,Int.reduceEq,Int.reduceToNat,nilA,moveA,live,loadA,rdA,storeA,wrA,intA,elemA,lenA,appA,srcA,isPtr,isNilPtr,partA,resOf,sliceA,cut,id,ap2,reduceIte,concs,chkB,geB,AOp.cls,AOp.xs,ltB,ltC,Nat.reduceBEq,Option.toList,List.cons_append,decide_eq_true,decide_eq_false,if_pos,if_neg,List.length_map,pA_at,List.cons_append,bVb,bVn,eq_self,Bool.and_self,BEq.rfl,not_true_eq_false];(first|((with_reducible refine hK _ ?_);clear hK K)|((with_reducible refine hK ?_);clear hK hK3 K hK2)|((with_reducible refine hK3 ?_);clear hK hK3 K hK2)))|((with_reducible refine khs 71 ?_ ?_ ?_ ?_);rotate_left 2;exact i1)|((with_reducible refine khs 71 ?_ ?_ ?_ ?_);rotate_left 2;exact i2)|((with_reducible refine khs 72 ?_ ?_ ?_ ?_);rotate_left 2;exact s3)|((with_reducible refine ret_0 ?_);try rfl))
  · obtain rfl : N = 40 := by omega
    have i3:=ins43 G (ssort (D.take 20)++ssort (D.drop 20)) g 40 40 ⟨by rw [l2];omega,fun p hp=>by
      simp only [List.mem_append,ssort_mem] at hp
      rcases hp with h|h
      · exact hD.sz p (List.mem_of_mem_take h)
      · exact hD.sz p (List.mem_of_mem_drop h)⟩ (by omega) (by omega)
    rw [srt_one (by omega) (by omega) (by omega),l2] at i3
    generalize srt D 0 20=D1 at *
    generalize ssort (D.take 20)++ssort (D.drop 20)=D2 at *
    generalize ssort D=D3 at *
    refine hc_of cop70 ?_
    show W _ _ _ _ ⟨_,_⟩;simp only [A70,List.cons_append,List.nil_append,List.length_cons,List.length_nil,Nat.reduceAdd,Nat.reduceSub,List.replicate]
    clear hD hS
    repeat (first|with_reducible refine w_seq ?_|with_reducible refine w_reg ?_|with_reducible refine w_block ?_|with_reducible refine w_skip ?_|with_reducible refine w_exit ?_|with_reducible refine ws_nil ?_|with_reducible refine q_then ?_|with_reducible refine q_then_x ?_|with_reducible refine q_block_n ?_|with_reducible refine q_block_x ?_|(with_reducible refine w_loopF 60 ?_)|(with_reducible refine w_loopS ?_)|((first|with_reducible refine ks fun K hK=>?_|with_reducible refine kd fun K hK=>?_|with_reducible refine kc fun K hK2 hK hK3=>?_);simp (disch:=omega) only [bg0,bg1,bg2,bg3,bg4,stepO,rsAs,eff,AX.ev,St.put,binA,conc,ap1,ofVal,Int.reduceTMod,Int.reduceTDiv,reduceCtorEq,fillA,AV.cells,AV.fine,AV.one,Nat.reduceAdd,Nat.reduceSub,Nat.reduceMul,Nat.reduceLT,Nat.reduceLeDiff,Int.reduceLT,Int.reduceLE,Int.reduceAdd,Int.reduceSub,Int.reduceNeg,Int.reduceMul,Int.reduceEq,Int.reduceToNat,nilA,moveA,live,loadA,rdA,storeA,wrA,intA,elemA,lenA,appA,srcA,isPtr,isNilPtr,partA,resOf,sliceA,cut,id,ap2,reduceIte,concs,chkB,geB,AOp.cls,AOp.xs,ltB,ltC,Nat.reduceBEq,Option.toList,List.cons_append,decide_eq_true,decide_eq_false,if_pos,if_neg,List.length_map,pA_at,List.cons_append,bVb,bVn,eq_self,Bool.and_self,BEq.rfl,not_true_eq_false];(first|((with_reducible refine hK _ ?_);clear hK K)|((with_reducible refine hK ?_);clear hK hK3 K hK2)|((with_reducible refine hK3 ?_);clear hK hK3 K hK2)))|((with_reducible refine khs 71 ?_ ?_ ?_ ?_);rotate_left 2;exact i1)|((with_reducible refine khs 71 ?_ ?_ ?_ ?_);rotate_left 2;exact i2)|((with_reducible refine khs 71 ?_ ?_ ?_ ?_);rotate_left 2;exact i3)|((with_reducible refine khs 72 ?_ ?_ ?_ ?_);rotate_left 2;exact s3)|((with_reducible refine ret_0 ?_);try rfl))
set_option maxHeartbeats 4000000 in
theorem sort28 (G : Nat → AV) (hS : SymOk G) (D : List Pr) (g : Nat) (hD : Okl D) (h40 : D.length ≤ 40) :
    HC Try.prog G 67 [.ol 0 g D.length,cF] [rw0 D g] (.tup []) [rw0 (ssort D) g]:=by
  have h:=stable37 G hS D g hD h40
  refine hc_of cop67 ?_
  show W _ _ _ _ ⟨_,_⟩;simp only [A67,List.cons_append,List.nil_append,List.length_cons,List.length_nil,Nat.reduceAdd,Nat.reduceSub,List.replicate]
  repeat (first|with_reducible refine w_reg ?_|with_reducible refine ws_nil ?_|((first|with_reducible refine ks fun K hK=>?_|with_reducible refine kd fun K hK=>?_|with_reducible refine kc fun K hK2 hK hK3=>?_);simp (disch:=omega) only [bg0,bg1,bg2,bg3,bg4,stepO,rsAs,eff,AX.ev,St.put,binA,conc,ap1,ofVal,Int.reduceTMod,Int.reduceTDiv,reduceCtorEq,fillA,AV.cells,AV.fine,AV.one,Nat.reduceAdd,Nat.reduceSub,Nat.reduceMul,Nat.reduceLT,Nat.reduceLeDiff,Int.reduceLT,Int.reduceLE,Int.reduceAdd,Int.reduceSub,Int.reduceNeg,Int.reduceMul,Int.reduceEq,Int.reduceToNat,nilA,moveA,live,loadA,rdA,storeA,wrA,intA,elemA,lenA,appA,srcA,isPtr,isNilPtr,partA,resOf,sliceA,cut,id,ap2,reduceIte,concs,chkB,geB,AOp.cls,AOp.xs,ltB,ltC,Nat.reduceBEq,Option.toList,List.cons_append,decide_eq_true,decide_eq_false,if_pos,if_neg,List.length_map,pA_at,List.cons_append,bVb,bVn,eq_self,Bool.and_self,BEq.rfl,not_true_eq_false];(first|((with_reducible refine hK _ ?_);clear hK K)|((with_reducible refine hK ?_);clear hK hK3 K hK2)|((with_reducible refine hK3 ?_);clear hK hK3 K hK2)))|((with_reducible refine khs 70 ?_ ?_ ?_ ?_);rotate_left 2;exact h)|((with_reducible refine ret_0 ?_);try rfl))
theorem isl:isSliceT Try.prog 28=true:=by kernel_rfl
set_option maxHeartbeats 4000000 in
theorem clone27 (G:Nat→AV) (l:List Pr) (hl:Okl l) (h0:l ≠ []) (H:Hp):HC Try.prog G 66 [.sl 2 (l.map pA)] H (.ol H.length 1 l.length) (H++[⟨72,2,l.map pA,1,0⟩]):=by
  have hlen:=hl.len
  have he:(l.map pA).isEmpty=false:=by cases l with|nil=>exact absurd rfl h0|cons=>rfl
  refine hc_of cop66 ?_
  show W _ _ _ _ ⟨_,_⟩;simp only [A66,List.cons_append,List.nil_append,List.length_cons,List.length_nil,Nat.reduceAdd,Nat.reduceSub,List.replicate]
  repeat (first|with_reducible refine w_seq ?_|with_reducible refine w_reg ?_|with_reducible refine w_skip ?_|with_reducible refine ws_nil ?_|with_reducible refine q_then ?_|with_reducible refine w_ret ?_|((first|with_reducible refine ks fun K hK=>?_|with_reducible refine kd fun K hK=>?_|with_reducible refine kc fun K hK2 hK hK3=>?_);simp (disch:=omega) only [bg0,bg1,bg2,bg3,bg4,stepO,rsAs,eff,AX.ev,St.put,binA,conc,ap1,ofVal,Int.reduceTMod,Int.reduceTDiv,reduceCtorEq,fillA,AV.cells,AV.fine,AV.one,Nat.reduceAdd,Nat.reduceSub,Nat.reduceMul,Nat.reduceLT,Nat.reduceLeDiff,Int.reduceLT,Int.reduceLE,Int.reduceAdd,Int.reduceSub,Int.reduceNeg,Int.reduceMul,Int.reduceEq,Int.reduceToNat,nilA,moveA,live,loadA,rdA,storeA,wrA,intA,elemA,lenA,appA,srcA,isPtr,isNilPtr,partA,resOf,sliceA,cut,id,ap2,reduceIte,concs,chkB,geB,AOp.cls,AOp.xs,ltB,ltC,Nat.reduceBEq,Option.toList,List.cons_append,decide_eq_true,decide_eq_false,if_pos,if_neg,List.length_map,pA_at,List.cons_append,bVb,bVn,eq_self,Bool.and_self,BEq.rfl,not_true_eq_false,isl,nilCmp,isRow,isNl,he,Bool.not_false];(first|((with_reducible refine hK _ ?_);clear hK K)|((with_reducible refine hK ?_);clear hK hK3 K hK2)|((with_reducible refine hK3 ?_);clear hK hK3 K hK2)))|((first|with_reducible refine ret_h fun K hK=>?_|with_reducible refine ret_hh rfl fun K hK=>?_|with_reducible refine ret_pp fun K hK=>?_);simp (disch:=omega) only [bg0,bg1,bg2,bg3,bg4,stepO,rsAs,eff,AX.ev,St.put,binA,conc,ap1,ofVal,Int.reduceTMod,Int.reduceTDiv,reduceCtorEq,fillA,AV.cells,AV.fine,AV.one,Nat.reduceAdd,Nat.reduceSub,Nat.reduceMul,Nat.reduceLT,Nat.reduceLeDiff,Int.reduceLT,Int.reduceLE,Int.reduceAdd,Int.reduceSub,Int.reduceNeg,Int.reduceMul,Int.reduceEq,Int.reduceToNat,nilA,moveA,live,loadA,rdA,storeA,wrA,intA,elemA,lenA,appA,srcA,isPtr,isNilPtr,partA,resOf,sliceA,cut,id,ap2,reduceIte,concs,chkB,geB,AOp.cls,AOp.xs,ltB,ltC,Nat.reduceBEq,Option.toList,List.cons_append,decide_eq_true,decide_eq_false,if_pos,if_neg,List.length_map,pA_at,List.cons_append,bVb,bVn,eq_self,Bool.and_self,BEq.rfl,not_true_eq_false,isl,nilCmp,isRow,isNl,he,Bool.not_false];(first|((with_reducible refine hK _ ?_ ?_ ?_ ?_);rotate_left 2;rfl;rfl)|((with_reducible refine hK _ ?_);rfl))))
set_option maxHeartbeats 4000000 in
theorem clone27e (G:Nat→AV):PC Try.prog G 66 [.sl 2 []] (.sl 2 []):=by
  refine @pc_em _ _ _ _ _ cop66 [] [] 2 _ fun b=>?_
  cases b
  all_goals
    show W _ _ _ _ ⟨_,_⟩
    simp only [A66,List.cons_append,List.nil_append,List.length_cons,List.length_nil,Nat.reduceAdd,Nat.reduceSub,List.replicate]
    repeat (first|with_reducible refine w_seq ?_|with_reducible refine w_reg ?_|with_reducible refine w_skip ?_|with_reducible refine ws_nil ?_|with_reducible refine q_then ?_|with_reducible refine w_ret ?_|with_reducible refine q_then_r ?_|((first|with_reducible refine ks fun K hK=>?_|with_reducible refine kd fun K hK=>?_|with_reducible refine kc fun K hK2 hK hK3=>?_);simp (disch:=omega) only [bg0,bg1,bg2,bg3,bg4,stepO,rsAs,eff,AX.ev,St.put,binA,conc,ap1,ofVal,Int.reduceTMod,Int.reduceTDiv,reduceCtorEq,fillA,AV.cells,AV.fine,AV.one,Nat.reduceAdd,Nat.reduceSub,Nat.reduceMul,Nat.reduceLT,Nat.reduceLeDiff,Int.reduceLT,Int.reduceLE,Int.reduceAdd,Int.reduceSub,Int.reduceNeg,Int.reduceMul,Int.reduceEq,Int.reduceToNat,nilA,moveA,live,loadA,rdA,storeA,wrA,intA,elemA,lenA,appA,srcA,isPtr,isNilPtr,partA,resOf,sliceA,cut,id,ap2,reduceIte,concs,chkB,geB,AOp.cls,AOp.xs,ltB,ltC,Nat.reduceBEq,Option.toList,List.cons_append,decide_eq_true,decide_eq_false,if_pos,if_neg,List.length_map,pA_at,List.cons_append,bVb,bVn,eq_self,Bool.and_self,BEq.rfl,not_true_eq_false,isl,nilCmp,isRow,isNi,isNl,Bool.not_false,Bool.not_true];(first|((with_reducible refine hK _ ?_);clear hK K)|((with_reducible refine hK ?_);clear hK hK3 K hK2)|((with_reducible refine hK3 ?_);clear hK hK3 K hK2)))|((first|with_reducible refine ret_h fun K hK=>?_|with_reducible refine ret_hh rfl fun K hK=>?_|with_reducible refine ret_pp fun K hK=>?_);simp (disch:=omega) only [bg0,bg1,bg2,bg3,bg4,stepO,rsAs,eff,AX.ev,St.put,binA,conc,ap1,ofVal,Int.reduceTMod,Int.reduceTDiv,reduceCtorEq,fillA,AV.cells,AV.fine,AV.one,Nat.reduceAdd,Nat.reduceSub,Nat.reduceMul,Nat.reduceLT,Nat.reduceLeDiff,Int.reduceLT,Int.reduceLE,Int.reduceAdd,Int.reduceSub,Int.reduceNeg,Int.reduceMul,Int.reduceEq,Int.reduceToNat,nilA,moveA,live,loadA,rdA,storeA,wrA,intA,elemA,lenA,appA,srcA,isPtr,isNilPtr,partA,resOf,sliceA,cut,id,ap2,reduceIte,concs,chkB,geB,AOp.cls,AOp.xs,ltB,ltC,Nat.reduceBEq,Option.toList,List.cons_append,decide_eq_true,decide_eq_false,if_pos,if_neg,List.length_map,pA_at,List.cons_append,bVb,bVn,eq_self,Bool.and_self,BEq.rfl,not_true_eq_false,isl,nilCmp,isRow,isNi,isNl,Bool.not_false,Bool.not_true];(first|((with_reducible refine hK _ ?_ ?_ ?_ ?_);rotate_left 2;rfl;rfl)|((with_reducible refine hK _ ?_);rfl))))
end Go.Proofs.Ytnammfeiehikfaa.Sim.Pr7
namespace Go.Proofs.Ytnammfeiehikfaa.Sim.Pr7
open Go.RowKit
set_option maxRecDepth 100000
end Go.Proofs.Ytnammfeiehikfaa.Sim.Pr7
namespace Go.Proofs.Ytnammfeiehikfaa.Sim.Pr7
open Go.RowKit
set_option maxRecDepth 100000
end Go.Proofs.Ytnammfeiehikfaa.Sim.Pr7
namespace Go.Proofs.Ytnammfeiehikfaa.Sim.Pr7
open Go.RowKit
set_option maxRecDepth 100000
theorem ret_frz {t:Nat} {k:Nat} {es:List AV} {st:St} {i g n:Nat} {e:TypeId} {fz:Nat} (h1:st.s.getD t undefA = .ol i g n) (h2:st.H[i]? = some ⟨e,k,es,g,fz⟩) (hn:es.length=n) (hp:es.all AV.isP=true):RetP [(t,none)] (.sl k es) .r st:=by
  subst hn
  refine ⟨.inr rfl,[.ol i g es.length],by simp only [rsAs,h1],[.sl k es],st.H.set i ⟨e,k,es,g,max fz es.length⟩,?_,rfl⟩
  simp only [purA,pur,purC,h2,Nat.le_refl,List.take_length,hp,and_self,if_true]
def MkOk (G:Nat→AV):Prop:=∀ l:List Pr,l.length≤40→Okl l→PC Try.prog G 59 [.sl 2 (l.map pA)] (.sl 2 ((mk l).map pA))
def af (m:List Pr) (k:ByteArray):Option Pr:=m[(le m k).length]?
def fl (m:List Pr) (k:ByteArray):Option Pr:=(le m k).getLast?
end Go.Proofs.Ytnammfeiehikfaa.Sim.Pr7
namespace Go.Proofs.Ytnammfeiehikfaa.Sim.Pr7
open Go.RowKit
set_option maxRecDepth 100000
section
variable {α:Type} {J K:List α} {o a b y:α}
theorem gR0:(J++o::K)[J.length]? = some o:=by simp
theorem gR01:(J++o::K++[a])[J.length]? = some o:=by simp
theorem gR02:(J++o::K++[a]++[b])[J.length]? = some o:=by simp
theorem sR0:(J++o::K).set J.length y=J++y::K:=by simp
theorem sR01:(J++o::K++[a]).set J.length y=J++y::K++[a]:=by simp
theorem sR02:(J++o::K++[a]++[b]).set J.length y=J++y::K++[a]++[b]:=by simp
theorem lR0:(J++o::K).length=J.length+(K.length+1):=by simp
theorem lR1:(J++o::K++[a]).length=J.length+(K.length+1)+1:=by simp;omega
theorem kR {M:List α} {i:Nat}:(J++o::K++M)[J.length+(K.length+1)+i]? = M[i]?:=by
  have:=ga (L:=J++o::K) (M:=M) (i:=i)
  rwa [lR0] at this
theorem tR {M:List α} {i:Nat}:(J++o::K++M).set (J.length+(K.length+1)+i) y=J++o::K++M.set i y:=by
  have:=sa (L:=J++o::K) (M:=M) (i:=i) (y:=y)
  rwa [lR0] at this
theorem gR1:(J++o::K++[a])[J.length+(K.length+1)]? = some a:=kR (i:=0)
theorem gR2:(J++o::K++[a]++[b])[J.length+(K.length+1)]? = some a:=by rw [List.append_assoc];exact kR (i:=0)
theorem gR22:(J++o::K++[a]++[b])[J.length+(K.length+1)+1]? = some b:=by rw [List.append_assoc];exact kR (i:=1)
theorem sR1:(J++o::K++[a]).set (J.length+(K.length+1)) y=J++o::K++[y]:=tR (i:=0)
theorem sR2:(J++o::K++[a]++[b]).set (J.length+(K.length+1)) y=J++o::K++[y]++[b]:=by simp
theorem sR22:(J++o::K++[a]++[b]).set (J.length+(K.length+1)+1) y=J++o::K++[a]++[y]:=by have h:=tR (J:=J) (K:=K) (o:=o) (M:=[a,b]) (i:=1) (y:=y);simpa using h
end
theorem lasts_drop {l:List Pr} {k:Nat} (h:k < l.length):lasts (l.drop k)=if fk (l[k]).1 (l.drop (k+1))=[] then l[k]::lasts (l.drop (k+1)) else lasts (l.drop (k+1)):=by
  rw [List.drop_eq_getElem_cons h];rfl
end Go.Proofs.Ytnammfeiehikfaa.Sim.Pr7
namespace Go.Proofs.Ytnammfeiehikfaa.Sim.Pr7
open Go.RowKit
set_option maxRecDepth 100000
theorem sle_at2 {A:List Pr} (h:SLe A) {i j:Nat} (hij:i≤j) (hj:j < A.length):cB (A[i]'(by omega)).1 (A[j]).1≤0:=by
  by_cases e:i=j
  · subst e;rw [cB_self];omega
  · exact List.pairwise_iff_getElem.1 h i j (by omega) hj (by omega)
theorem lasts_sort {D:List Pr} (h:SLe D) {k:Nat} (hk:k < D.length):fk (D[k]).1 (D.drop (k+1))=[]↔∀ h2:k+1 < D.length,(D[k+1]).1 ≠ (D[k]).1:=by
  rw [fk_none]
  constructor
  · intro hh h2
    exact hh _ (List.mem_drop_iff_getElem.2 ⟨0,by omega,rfl⟩)
  · intro hh p hp e
    obtain ⟨i,hi,rfl⟩:=List.mem_drop_iff_getElem.1 hp
    have h2:k+1 < D.length:=by omega
    have g1:=sle_at2 h (i:=k) (j:=k+1) (by omega) h2
    have g2:=sle_at2 h (i:=k+1) (j:=k+1+i) (by omega) (by omega)
    rw [e] at g2
    exact hh h2 (cB_eq g2 g1)
theorem lasts_mk (l:List Pr):lasts (ssort l)=mk l:=by
  refine eq_mk (le_ne (List.Pairwise.sublist (lasts_sub _) (ssort_le l)) (lasts_ne _)) fun k=>?_
  rw [lasts_val];unfold val;rw [ssort_fk]
set_option maxHeartbeats 8000000 in
theorem make14 (G:Nat→AV) (hS:SymOk G):MkOk G:=by
  intro l h40 hl
  have hlen:=hl.len
  by_cases hs:SLt l
  · have hi := is11 G l hl true (by simp [hs])
    rw [mk_of hs]
    by_cases h0:l=[]
    · subst h0
      have hc:=hc_pc rfl (clone27e G) []
      refine pc_of cop59 ?_
      show W _ _ _ _ ⟨_,_⟩;simp only [A59,List.cons_append,List.nil_append,List.length_cons,List.length_nil,Nat.reduceAdd,Nat.reduceSub,List.replicate]
      simp only [List.map_nil] at *
      repeat (first|with_reducible refine w_seq ?_|with_reducible refine w_reg ?_|with_reducible refine ws_nil ?_|with_reducible refine q_then ?_|with_reducible refine w_ret ?_|with_reducible refine q_then_r ?_|((first|with_reducible refine ks fun K hK=>?_|with_reducible refine kd fun K hK=>?_|with_reducible refine kc fun K hK2 hK hK3=>?_);simp (disch:=omega) only [bg0,bg1,bg2,bg3,bg4,stepO,rsAs,eff,AX.ev,St.put,binA,conc,ap1,ofVal,Int.reduceTMod,Int.reduceTDiv,reduceCtorEq,fillA,AV.cells,AV.fine,AV.one,Nat.reduceAdd,Nat.reduceSub,Nat.reduceMul,Nat.reduceLT,Nat.reduceLeDiff,Int.reduceLT,Int.reduceLE,Int.reduceAdd,Int.reduceSub,Int.reduceNeg,Int.reduceMul,Int.reduceEq,Int.reduceToNat,nilA,moveA,live,loadA,rdA,storeA,wrA,intA,elemA,lenA,appA,srcA,isPtr,isNilPtr,partA,resOf,sliceA,cut,id,ap2,reduceIte,concs,chkB,geB,AOp.cls,AOp.xs,ltB,ltC,Nat.reduceBEq,Option.toList,List.cons_append,decide_eq_true,decide_eq_false,if_pos,if_neg,List.length_map,pA_at,bVb,bVn,eq_self,Bool.and_self,BEq.rfl,not_true_eq_false,gR0,gR01,gR02,sR0,sR01,sR02,lR0,lR1,gR1,gR2,gR22,sR1,sR2,sR22,gj1_0,sj1_0,gj2_0,gj2_1,sj2_0,sj2_1,len_last];(first|((with_reducible refine hK _ ?_);clear hK K)|((with_reducible refine hK ?_);clear hK hK3 K hK2)|((with_reducible refine hK3 ?_);clear hK hK3 K hK2)))|((with_reducible refine kps 65 ?_ ?_ ?_ ?_);rotate_left 1;rfl;exact hi)|((with_reducible refine khs 66 ?_ ?_ ?_ ?_);rotate_left 2;exact hc)|((first|with_reducible refine ret_h fun K hK=>?_|with_reducible refine ret_hh rfl fun K hK=>?_|with_reducible refine ret_pp fun K hK=>?_);simp (disch:=omega) only [bg0,bg1,bg2,bg3,bg4,stepO,rsAs,eff,AX.ev,St.put,binA,conc,ap1,ofVal,Int.reduceTMod,Int.reduceTDiv,reduceCtorEq,fillA,AV.cells,AV.fine,AV.one,Nat.reduceAdd,Nat.reduceSub,Nat.reduceMul,Nat.reduceLT,Nat.reduceLeDiff,Int.reduceLT,Int.reduceLE,Int.reduceAdd,Int.reduceSub,Int.reduceNeg,Int.reduceMul,Int.reduceEq,Int.reduceToNat,nilA,moveA,live,loadA,rdA,storeA,wrA,intA,elemA,lenA,appA,srcA,isPtr,isNilPtr,partA,resOf,sliceA,cut,id,ap2,reduceIte,concs,chkB,geB,AOp.cls,AOp.xs,ltB,ltC,Nat.reduceBEq,Option.toList,List.cons_append,decide_eq_true,decide_eq_false,if_pos,if_neg,List.length_map,pA_at,bVb,bVn,eq_self,Bool.and_self,BEq.rfl,not_true_eq_false,gR0,gR01,gR02,sR0,sR01,sR02,lR0,lR1,gR1,gR2,gR22,sR1,sR2,sR22,gj1_0,sj1_0,gj2_0,gj2_1,sj2_0,sj2_1,len_last];(first|((with_reducible refine hK _ ?_ ?_ ?_ ?_);rotate_left 2;rfl;rfl)|((with_reducible refine hK _ ?_);rfl))))
    · have hc := clone27 G l hl h0 []
      simp only [List.nil_append,List.length_nil] at hc
      refine pc_of cop59 ?_
      show W _ _ _ _ ⟨_,_⟩;simp only [A59,List.cons_append,List.nil_append,List.length_cons,List.length_nil,Nat.reduceAdd,Nat.reduceSub,List.replicate]
      repeat (first|with_reducible refine w_seq ?_|with_reducible refine w_reg ?_|with_reducible refine ws_nil ?_|with_reducible refine q_then ?_|with_reducible refine w_ret ?_|with_reducible refine q_then_r ?_|((first|with_reducible refine ks fun K hK=>?_|with_reducible refine kd fun K hK=>?_|with_reducible refine kc fun K hK2 hK hK3=>?_);simp (disch:=omega) only [bg0,bg1,bg2,bg3,bg4,stepO,rsAs,eff,AX.ev,St.put,binA,conc,ap1,ofVal,Int.reduceTMod,Int.reduceTDiv,reduceCtorEq,fillA,AV.cells,AV.fine,AV.one,Nat.reduceAdd,Nat.reduceSub,Nat.reduceMul,Nat.reduceLT,Nat.reduceLeDiff,Int.reduceLT,Int.reduceLE,Int.reduceAdd,Int.reduceSub,Int.reduceNeg,Int.reduceMul,Int.reduceEq,Int.reduceToNat,nilA,moveA,live,loadA,rdA,storeA,wrA,intA,elemA,lenA,appA,srcA,isPtr,isNilPtr,partA,resOf,sliceA,cut,id,ap2,reduceIte,concs,chkB,geB,AOp.cls,AOp.xs,ltB,ltC,Nat.reduceBEq,Option.toList,List.cons_append,decide_eq_true,decide_eq_false,if_pos,if_neg,List.length_map,pA_at,bVb,bVn,eq_self,Bool.and_self,BEq.rfl,not_true_eq_false,gR0,gR01,gR02,sR0,sR01,sR02,lR0,lR1,gR1,gR2,gR22,sR1,sR2,sR22,gj1_0,sj1_0,gj2_0,gj2_1,sj2_0,sj2_1,len_last];(first|((with_reducible refine hK _ ?_);clear hK K)|((with_reducible refine hK ?_);clear hK hK3 K hK2)|((with_reducible refine hK3 ?_);clear hK hK3 K hK2)))|((with_reducible refine kps 65 ?_ ?_ ?_ ?_);rotate_left 1;rfl;exact hi)|((with_reducible refine khs 66 ?_ ?_ ?_ ?_);rotate_left 2;exact hc))
      exact ret_frz rfl rfl (by simp) (all_pA _)
  · have hi := is11 G l hl false (by simp [hs])
    have h0:l ≠ []:=fun e=>hs (by rw [e];exact List.Pairwise.nil)
    have hc:=clone27 G l hl h0 []
    simp only [List.nil_append,List.length_nil] at hc
    have ho:=sort28 G hS l 1 hl h40
    refine pc_of cop59 ?_
    show W _ _ _ _ ⟨_,_⟩;simp only [A59,List.cons_append,List.nil_append,List.length_cons,List.length_nil,Nat.reduceAdd,Nat.reduceSub,List.replicate]
    repeat (first|with_reducible refine w_seq ?_|with_reducible refine w_reg ?_|with_reducible refine w_block ?_|with_reducible refine w_skip ?_|with_reducible refine ws_nil ?_|with_reducible refine q_then ?_|((first|with_reducible refine ks fun K hK=>?_|with_reducible refine kd fun K hK=>?_|with_reducible refine kc fun K hK2 hK hK3=>?_);simp (disch:=omega) only [bg0,bg1,bg2,bg3,bg4,stepO,rsAs,eff,AX.ev,St.put,binA,conc,ap1,ofVal,Int.reduceTMod,Int.reduceTDiv,reduceCtorEq,fillA,AV.cells,AV.fine,AV.one,Nat.reduceAdd,Nat.reduceSub,Nat.reduceMul,Nat.reduceLT,Nat.reduceLeDiff,Int.reduceLT,Int.reduceLE,Int.reduceAdd,Int.reduceSub,Int.reduceNeg,Int.reduceMul,Int.reduceEq,Int.reduceToNat,nilA,moveA,live,loadA,rdA,storeA,wrA,intA,elemA,lenA,appA,srcA,isPtr,isNilPtr,partA,resOf,sliceA,cut,id,ap2,reduceIte,concs,chkB,geB,AOp.cls,AOp.xs,ltB,ltC,Nat.reduceBEq,Option.toList,List.cons_append,decide_eq_true,decide_eq_false,if_pos,if_neg,List.length_map,pA_at,bVb,bVn,eq_self,Bool.and_self,BEq.rfl,not_true_eq_false,gR0,gR01,gR02,sR0,sR01,sR02,lR0,lR1,gR1,gR2,gR22,sR1,sR2,sR22,gj1_0,sj1_0,gj2_0,gj2_1,sj2_0,sj2_1,len_last];(first|((with_reducible refine hK _ ?_);clear hK K)|((with_reducible refine hK ?_);clear hK hK3 K hK2)|((with_reducible refine hK3 ?_);clear hK hK3 K hK2)))|((with_reducible refine kps 65 ?_ ?_ ?_ ?_);rotate_left 1;rfl;exact hi)|((with_reducible refine khs 66 ?_ ?_ ?_ ?_);rotate_left 2;exact hc)|((with_reducible refine khs 67 ?_ ?_ ?_ ?_);rotate_left 2;exact ho))
    have hml:=lasts_mk l
    have hSl:(ssort l).length=l.length:=ssort_len
    have hSle:=ssort_le l
    rw [← hml]
    generalize hD:ssort l=D at *
    rw [← hSl]
    refine w_loop_m [4,5,6,17,18,19,20,21,22,23,24,25,26,27,28,29,30,31,32,33,34,35,36,37,38,39,40,41,42] (fun k v H=>v 17=I k∧∃ pre:List Pr,lasts D=pre++lasts (D.drop k)∧((pre=[]∧v 4 = .nl 2∧∃ K,H=rw0 D 1::K)∨(pre ≠ []∧∃ (J K:Hp) (g:Nat),v 4 = .ol (J.length+1) g pre.length∧H=rw0 D 1::(J++⟨72,2,pre.map pA,g,0⟩::K)))) D.length ⟨rfl,[],rfl,.inl ⟨rfl,rfl,[],rfl⟩⟩ ?_ ?_
    · rintro k v H hk ⟨h17, pre, hla, hor⟩
      rw [lasts_drop hk] at hla
      have hkk:=lasts_sort hSle hk
      have hpl:pre.length≤1000000:=by
        have h2:=(lasts_sub D).length_le
        rw [hla] at h2
        simp at h2
        omega
      have tp:(pre.map pA).take pre.length=pre.map pA:=List.take_of_length_le (by simp)
      have hend:((k:Int)+1=(D.length:Int))=(k+1=D.length):=by simp;omega
      have hsn:(pre++[D[k]]).map pA=pre.map pA++[.agg [S (D[k]).1,S (D[k]).2]]:=by simp [pA]
      have hne:pre++[D[k]] ≠ []:=by simp
      have hDl:D.length≤1000000:=by omega
      clear hi hc ho hD hml hSl hSle hl hlen h40 h0 hs
      rcases hor with ⟨rfl,h4,K,rfl⟩|⟨hp,J,K,g,h4,rfl⟩
      · by_cases hr : fk (D[k]).1 (D.drop (k + 1)) = []
        · rw [if_pos hr] at hla
          have h2:=hkk.1 hr
          by_cases he:k+1=D.length
          · simp only [mix, mix_nil, mix_end, mix_skp, Nat.reduceEqDiff, Nat.reduceLeDiff, reduceCtorEq, if_true, if_false, reduceIte, Nat.reduceAdd, h17, h4]
            repeat (first|with_reducible refine w_seq ?_|with_reducible refine w_reg ?_|with_reducible refine w_draw ?_|with_reducible refine w_block ?_|with_reducible refine w_skip ?_|with_reducible refine ws_nil ?_|with_reducible refine wd_nil ?_|with_reducible refine q_then ?_|with_reducible refine q_block_n ?_|((first|with_reducible refine ks fun K hK=>?_|with_reducible refine kd fun K hK=>?_|with_reducible refine kc fun K hK2 hK hK3=>?_);simp (disch:=omega) only [bg0,bg1,bg2,bg3,bg4,stepO,rsAs,eff,AX.ev,St.put,binA,conc,ap1,ofVal,Int.reduceTMod,Int.reduceTDiv,reduceCtorEq,fillA,AV.cells,AV.fine,AV.one,Nat.reduceAdd,Nat.reduceSub,Nat.reduceMul,Nat.reduceLT,Nat.reduceLeDiff,Int.reduceLT,Int.reduceLE,Int.reduceAdd,Int.reduceSub,Int.reduceNeg,Int.reduceMul,Int.reduceEq,Int.reduceToNat,nilA,moveA,live,loadA,rdA,storeA,wrA,intA,elemA,lenA,appA,srcA,isPtr,isNilPtr,partA,resOf,sliceA,cut,id,ap2,reduceIte,concs,chkB,geB,AOp.cls,AOp.xs,ltB,ltC,Nat.reduceBEq,Option.toList,List.cons_append,decide_eq_true,decide_eq_false,if_pos,if_neg,List.length_map,pA_at,bVb,bVn,eq_self,Bool.and_self,BEq.rfl,not_true_eq_false,gR0,gR01,gR02,sR0,sR01,sR02,lR0,lR1,gR1,gR2,gR22,sR1,sR2,sR22,gj1_0,sj1_0,gj2_0,gj2_1,sj2_0,sj2_1,len_last,hend,he,tp];(first|((with_reducible refine hK _ ?_);clear hK K)|((with_reducible refine hK ?_);clear hK hK3 K hK2)|((with_reducible refine hK3 ?_);clear hK hK3 K hK2)))|((first|((with_reducible refine kgd_u ?_ ?_ ?_);rotate_left 1;rfl)|((with_reducible refine kgd_f ?_ ?_ ?_);rotate_left 1;rfl));rotate_left 1;(focus (simp (disch:=omega) only [bg0,bg1,bg2,bg3,bg4,stepO,rsAs,eff,AX.ev,St.put,binA,conc,ap1,ofVal,Int.reduceTMod,Int.reduceTDiv,reduceCtorEq,fillA,AV.cells,AV.fine,AV.one,Nat.reduceAdd,Nat.reduceSub,Nat.reduceMul,Nat.reduceLT,Nat.reduceLeDiff,Int.reduceLT,Int.reduceLE,Int.reduceAdd,Int.reduceSub,Int.reduceNeg,Int.reduceMul,Int.reduceEq,Int.reduceToNat,nilA,moveA,live,loadA,rdA,storeA,wrA,intA,elemA,lenA,appA,srcA,isPtr,isNilPtr,partA,resOf,sliceA,cut,id,ap2,reduceIte,concs,chkB,geB,AOp.cls,AOp.xs,ltB,ltC,Nat.reduceBEq,Option.toList,List.cons_append,decide_eq_true,decide_eq_false,if_pos,if_neg,List.length_map,pA_at,bVb,bVn,eq_self,Bool.and_self,BEq.rfl,not_true_eq_false,gR0,gR01,gR02,sR0,sR01,sR02,lR0,lR1,gR1,gR2,gR22,sR1,sR2,sR22,gj1_0,sj1_0,gj2_0,gj2_1,sj2_0,sj2_1,len_last,hend,he,tp];try rfl))))
            exact ⟨rfl,rfl,[D[k]],by rw [hla];rfl,.inr ⟨by simp,K++[rw0 [D[k]] 0]++[rw0 [D[k]] 0],[],0,by show AV.ol _ _ _=AV.ol _ _ _;simp,rfl⟩⟩
          · have h3 := h2 (by omega)
            simp only [mix,mix_nil,mix_end,mix_skp,Nat.reduceEqDiff,Nat.reduceLeDiff,reduceCtorEq,if_true,if_false,reduceIte,Nat.reduceAdd,h17,h4]
            repeat (first|with_reducible refine w_seq ?_|with_reducible refine w_reg ?_|with_reducible refine w_draw ?_|with_reducible refine w_block ?_|with_reducible refine w_skip ?_|with_reducible refine ws_nil ?_|with_reducible refine wd_nil ?_|with_reducible refine q_then ?_|with_reducible refine q_block_n ?_|((with_reducible refine kgd_t ?_ ?_);rfl)|((first|with_reducible refine ks fun K hK=>?_|with_reducible refine kd fun K hK=>?_|with_reducible refine kc fun K hK2 hK hK3=>?_);simp (disch:=omega) only [bg0,bg1,bg2,bg3,bg4,stepO,rsAs,eff,AX.ev,St.put,binA,conc,ap1,ofVal,Int.reduceTMod,Int.reduceTDiv,reduceCtorEq,fillA,AV.cells,AV.fine,AV.one,Nat.reduceAdd,Nat.reduceSub,Nat.reduceMul,Nat.reduceLT,Nat.reduceLeDiff,Int.reduceLT,Int.reduceLE,Int.reduceAdd,Int.reduceSub,Int.reduceNeg,Int.reduceMul,Int.reduceEq,Int.reduceToNat,nilA,moveA,live,loadA,rdA,storeA,wrA,intA,elemA,lenA,appA,srcA,isPtr,isNilPtr,partA,resOf,sliceA,cut,id,ap2,reduceIte,concs,chkB,geB,AOp.cls,AOp.xs,ltB,ltC,Nat.reduceBEq,Option.toList,List.cons_append,decide_eq_true,decide_eq_false,if_pos,if_neg,List.length_map,pA_at,bVb,bVn,eq_self,Bool.and_self,BEq.rfl,not_true_eq_false,gR0,gR01,gR02,sR0,sR01,sR02,lR0,lR1,gR1,gR2,gR22,sR1,sR2,sR22,gj1_0,sj1_0,gj2_0,gj2_1,sj2_0,sj2_1,len_last,hend,he,h3,tp];(first|((with_reducible refine hK _ ?_);clear hK K)|((with_reducible refine hK ?_);clear hK hK3 K hK2)|((with_reducible refine hK3 ?_);clear hK hK3 K hK2))))
            exact ⟨rfl,rfl,[D[k]],by rw [hla];rfl,.inr ⟨by simp,K++[rw0 [D[k]] 0]++[rw0 [D[k]] 0],[],0,by show AV.ol _ _ _=AV.ol _ _ _;simp,rfl⟩⟩
        · rw [if_neg hr] at hla
          have hex:∃ h2:k+1 < D.length,(D[k+1]).1=(D[k]).1:=by
            by_cases h2:k+1 < D.length
            · refine ⟨h2, ?_⟩
              by_cases h3:(D[k+1]).1=(D[k]).1
              · exact h3
              · exact absurd (hkk.2 fun _=>h3) hr
            · exact absurd (hkk.2 fun h=>absurd h h2) hr
          obtain ⟨h2,h3⟩:=hex
          have he:¬ (k+1=D.length):=by omega
          simp only [mix,mix_nil,mix_end,mix_skp,Nat.reduceEqDiff,Nat.reduceLeDiff,reduceCtorEq,if_true,if_false,reduceIte,Nat.reduceAdd,h17,h4]
          repeat (first|with_reducible refine w_seq ?_|with_reducible refine w_reg ?_|with_reducible refine w_draw ?_|with_reducible refine w_block ?_|with_reducible refine w_skip ?_|with_reducible refine ws_nil ?_|with_reducible refine wd_nil ?_|with_reducible refine q_then ?_|with_reducible refine q_block_n ?_|((with_reducible refine kgd_t ?_ ?_);rfl)|((first|with_reducible refine ks fun K hK=>?_|with_reducible refine kd fun K hK=>?_|with_reducible refine kc fun K hK2 hK hK3=>?_);simp (disch:=omega) only [bg0,bg1,bg2,bg3,bg4,stepO,rsAs,eff,AX.ev,St.put,binA,conc,ap1,ofVal,Int.reduceTMod,Int.reduceTDiv,reduceCtorEq,fillA,AV.cells,AV.fine,AV.one,Nat.reduceAdd,Nat.reduceSub,Nat.reduceMul,Nat.reduceLT,Nat.reduceLeDiff,Int.reduceLT,Int.reduceLE,Int.reduceAdd,Int.reduceSub,Int.reduceNeg,Int.reduceMul,Int.reduceEq,Int.reduceToNat,nilA,moveA,live,loadA,rdA,storeA,wrA,intA,elemA,lenA,appA,srcA,isPtr,isNilPtr,partA,resOf,sliceA,cut,id,ap2,reduceIte,concs,chkB,geB,AOp.cls,AOp.xs,ltB,ltC,Nat.reduceBEq,Option.toList,List.cons_append,decide_eq_true,decide_eq_false,if_pos,if_neg,List.length_map,pA_at,bVb,bVn,eq_self,Bool.and_self,BEq.rfl,not_true_eq_false,gR0,gR01,gR02,sR0,sR01,sR02,lR0,lR1,gR1,gR2,gR22,sR1,sR2,sR22,gj1_0,sj1_0,gj2_0,gj2_1,sj2_0,sj2_1,len_last,hend,he,h3,tp];(first|((with_reducible refine hK _ ?_);clear hK K)|((with_reducible refine hK ?_);clear hK hK3 K hK2)|((with_reducible refine hK3 ?_);clear hK hK3 K hK2))))
          exact ⟨rfl,rfl,[],hla,.inl ⟨rfl,rfl,_,rfl⟩⟩
      · by_cases hr : fk (D[k]).1 (D.drop (k + 1)) = []
        · rw [if_pos hr] at hla
          have h2:=hkk.1 hr
          by_cases he:k+1=D.length
          · simp only [mix, mix_nil, mix_end, mix_skp, Nat.reduceEqDiff, Nat.reduceLeDiff, reduceCtorEq, if_true, if_false, reduceIte, Nat.reduceAdd, h17, h4]
            repeat (first|with_reducible refine w_seq ?_|with_reducible refine w_reg ?_|with_reducible refine w_draw ?_|with_reducible refine w_block ?_|with_reducible refine w_skip ?_|with_reducible refine ws_nil ?_|with_reducible refine wd_nil ?_|with_reducible refine q_then ?_|with_reducible refine q_block_n ?_|((first|with_reducible refine ks fun K hK=>?_|with_reducible refine kd fun K hK=>?_|with_reducible refine kc fun K hK2 hK hK3=>?_);simp (disch:=omega) only [bg0,bg1,bg2,bg3,bg4,stepO,rsAs,eff,AX.ev,St.put,binA,conc,ap1,ofVal,Int.reduceTMod,Int.reduceTDiv,reduceCtorEq,fillA,AV.cells,AV.fine,AV.one,Nat.reduceAdd,Nat.reduceSub,Nat.reduceMul,Nat.reduceLT,Nat.reduceLeDiff,Int.reduceLT,Int.reduceLE,Int.reduceAdd,Int.reduceSub,Int.reduceNeg,Int.reduceMul,Int.reduceEq,Int.reduceToNat,nilA,moveA,live,loadA,rdA,storeA,wrA,intA,elemA,lenA,appA,srcA,isPtr,isNilPtr,partA,resOf,sliceA,cut,id,ap2,reduceIte,concs,chkB,geB,AOp.cls,AOp.xs,ltB,ltC,Nat.reduceBEq,Option.toList,List.cons_append,decide_eq_true,decide_eq_false,if_pos,if_neg,List.length_map,pA_at,bVb,bVn,eq_self,Bool.and_self,BEq.rfl,not_true_eq_false,gR0,gR01,gR02,sR0,sR01,sR02,lR0,lR1,gR1,gR2,gR22,sR1,sR2,sR22,gj1_0,sj1_0,gj2_0,gj2_1,sj2_0,sj2_1,len_last,hend,he,tp];(first|((with_reducible refine hK _ ?_);clear hK K)|((with_reducible refine hK ?_);clear hK hK3 K hK2)|((with_reducible refine hK3 ?_);clear hK hK3 K hK2)))|((first|((with_reducible refine kgd_u ?_ ?_ ?_);rotate_left 1;rfl)|((with_reducible refine kgd_f ?_ ?_ ?_);rotate_left 1;rfl));rotate_left 1;(focus (simp (disch:=omega) only [bg0,bg1,bg2,bg3,bg4,stepO,rsAs,eff,AX.ev,St.put,binA,conc,ap1,ofVal,Int.reduceTMod,Int.reduceTDiv,reduceCtorEq,fillA,AV.cells,AV.fine,AV.one,Nat.reduceAdd,Nat.reduceSub,Nat.reduceMul,Nat.reduceLT,Nat.reduceLeDiff,Int.reduceLT,Int.reduceLE,Int.reduceAdd,Int.reduceSub,Int.reduceNeg,Int.reduceMul,Int.reduceEq,Int.reduceToNat,nilA,moveA,live,loadA,rdA,storeA,wrA,intA,elemA,lenA,appA,srcA,isPtr,isNilPtr,partA,resOf,sliceA,cut,id,ap2,reduceIte,concs,chkB,geB,AOp.cls,AOp.xs,ltB,ltC,Nat.reduceBEq,Option.toList,List.cons_append,decide_eq_true,decide_eq_false,if_pos,if_neg,List.length_map,pA_at,bVb,bVn,eq_self,Bool.and_self,BEq.rfl,not_true_eq_false,gR0,gR01,gR02,sR0,sR01,sR02,lR0,lR1,gR1,gR2,gR22,sR1,sR2,sR22,gj1_0,sj1_0,gj2_0,gj2_1,sj2_0,sj2_1,len_last,hend,he,tp];try rfl))))
            exact ⟨rfl,rfl,pre++[D[k]],by rw [hla];simp,.inr ⟨by simp,J,K++[rw0 [D[k]] 0]++[rw0 [D[k]] 0],g+1,by show AV.ol _ _ _=AV.ol _ _ _;simp,by rw [hsn];simp [pA]⟩⟩
          · have h3 := h2 (by omega)
            simp only [mix,mix_nil,mix_end,mix_skp,Nat.reduceEqDiff,Nat.reduceLeDiff,reduceCtorEq,if_true,if_false,reduceIte,Nat.reduceAdd,h17,h4]
            repeat (first|with_reducible refine w_seq ?_|with_reducible refine w_reg ?_|with_reducible refine w_draw ?_|with_reducible refine w_block ?_|with_reducible refine w_skip ?_|with_reducible refine ws_nil ?_|with_reducible refine wd_nil ?_|with_reducible refine q_then ?_|with_reducible refine q_block_n ?_|((with_reducible refine kgd_t ?_ ?_);rfl)|((first|with_reducible refine ks fun K hK=>?_|with_reducible refine kd fun K hK=>?_|with_reducible refine kc fun K hK2 hK hK3=>?_);simp (disch:=omega) only [bg0,bg1,bg2,bg3,bg4,stepO,rsAs,eff,AX.ev,St.put,binA,conc,ap1,ofVal,Int.reduceTMod,Int.reduceTDiv,reduceCtorEq,fillA,AV.cells,AV.fine,AV.one,Nat.reduceAdd,Nat.reduceSub,Nat.reduceMul,Nat.reduceLT,Nat.reduceLeDiff,Int.reduceLT,Int.reduceLE,Int.reduceAdd,Int.reduceSub,Int.reduceNeg,Int.reduceMul,Int.reduceEq,Int.reduceToNat,nilA,moveA,live,loadA,rdA,storeA,wrA,intA,elemA,lenA,appA,srcA,isPtr,isNilPtr,partA,resOf,sliceA,cut,id,ap2,reduceIte,concs,chkB,geB,AOp.cls,AOp.xs,ltB,ltC,Nat.reduceBEq,Option.toList,List.cons_append,decide_eq_true,decide_eq_false,if_pos,if_neg,List.length_map,pA_at,bVb,bVn,eq_self,Bool.and_self,BEq.rfl,not_true_eq_false,gR0,gR01,gR02,sR0,sR01,sR02,lR0,lR1,gR1,gR2,gR22,sR1,sR2,sR22,gj1_0,sj1_0,gj2_0,gj2_1,sj2_0,sj2_1,len_last,hend,he,h3,tp];(first|((with_reducible refine hK _ ?_);clear hK K)|((with_reducible refine hK ?_);clear hK hK3 K hK2)|((with_reducible refine hK3 ?_);clear hK hK3 K hK2))))
            exact ⟨rfl,rfl,pre++[D[k]],by rw [hla];simp,.inr ⟨by simp,J,K++[rw0 [D[k]] 0]++[rw0 [D[k]] 0],g+1,by show AV.ol _ _ _=AV.ol _ _ _;simp,by rw [hsn];simp [pA]⟩⟩
        · rw [if_neg hr] at hla
          have hex:∃ h2:k+1 < D.length,(D[k+1]).1=(D[k]).1:=by
            by_cases h2:k+1 < D.length
            · refine ⟨h2, ?_⟩
              by_cases h3:(D[k+1]).1=(D[k]).1
              · exact h3
              · exact absurd (hkk.2 fun _=>h3) hr
            · exact absurd (hkk.2 fun h=>absurd h h2) hr
          obtain ⟨h2,h3⟩:=hex
          have he:¬ (k+1=D.length):=by omega
          simp only [mix,mix_nil,mix_end,mix_skp,Nat.reduceEqDiff,Nat.reduceLeDiff,reduceCtorEq,if_true,if_false,reduceIte,Nat.reduceAdd,h17,h4]
          repeat (first|with_reducible refine w_seq ?_|with_reducible refine w_reg ?_|with_reducible refine w_draw ?_|with_reducible refine w_block ?_|with_reducible refine w_skip ?_|with_reducible refine ws_nil ?_|with_reducible refine wd_nil ?_|with_reducible refine q_then ?_|with_reducible refine q_block_n ?_|((with_reducible refine kgd_t ?_ ?_);rfl)|((first|with_reducible refine ks fun K hK=>?_|with_reducible refine kd fun K hK=>?_|with_reducible refine kc fun K hK2 hK hK3=>?_);simp (disch:=omega) only [bg0,bg1,bg2,bg3,bg4,stepO,rsAs,eff,AX.ev,St.put,binA,conc,ap1,ofVal,Int.reduceTMod,Int.reduceTDiv,reduceCtorEq,fillA,AV.cells,AV.fine,AV.one,Nat.reduceAdd,Nat.reduceSub,Nat.reduceMul,Nat.reduceLT,Nat.reduceLeDiff,Int.reduceLT,Int.reduceLE,Int.reduceAdd,Int.reduceSub,Int.reduceNeg,Int.reduceMul,Int.reduceEq,Int.reduceToNat,nilA,moveA,live,loadA,rdA,storeA,wrA,intA,elemA,lenA,appA,srcA,isPtr,isNilPtr,partA,resOf,sliceA,cut,id,ap2,reduceIte,concs,chkB,geB,AOp.cls,AOp.xs,ltB,ltC,Nat.reduceBEq,Option.toList,List.cons_append,decide_eq_true,decide_eq_false,if_pos,if_neg,List.length_map,pA_at,bVb,bVn,eq_self,Bool.and_self,BEq.rfl,not_true_eq_false,gR0,gR01,gR02,sR0,sR01,sR02,lR0,lR1,gR1,gR2,gR22,sR1,sR2,sR22,gj1_0,sj1_0,gj2_0,gj2_1,sj2_0,sj2_1,len_last,hend,he,h3,tp];(first|((with_reducible refine hK _ ?_);clear hK K)|((with_reducible refine hK ?_);clear hK hK3 K hK2)|((with_reducible refine hK3 ?_);clear hK hK3 K hK2))))
          exact ⟨rfl,rfl,pre,hla,.inr ⟨hp,J,K++[rw0 [D[k]] 0],g,rfl,by simp [pA]⟩⟩
    · rintro v H ⟨h17, pre, hla, hor⟩
      rw [List.drop_length] at hla
      have hla2:lasts D=pre:=by rw [hla];simp [lasts]
      rw [hla2]
      rcases hor with ⟨rfl,h4,K,rfl⟩|⟨hp,J,K,g,h4,rfl⟩
      · simp only [mix, mix_nil, mix_end, mix_skp, Nat.reduceEqDiff, Nat.reduceLeDiff, reduceCtorEq, if_true, if_false, reduceIte, Nat.reduceAdd, h17, h4]
        repeat (first|with_reducible refine w_seq ?_|with_reducible refine w_reg ?_|with_reducible refine w_exit ?_|with_reducible refine ws_nil ?_|with_reducible refine q_then ?_|with_reducible refine q_then_x ?_|with_reducible refine q_block_x ?_|with_reducible refine w_ret ?_|((first|with_reducible refine ks fun K hK=>?_|with_reducible refine kd fun K hK=>?_|with_reducible refine kc fun K hK2 hK hK3=>?_);simp (disch:=omega) only [bg0,bg1,bg2,bg3,bg4,stepO,rsAs,eff,AX.ev,St.put,binA,conc,ap1,ofVal,Int.reduceTMod,Int.reduceTDiv,reduceCtorEq,fillA,AV.cells,AV.fine,AV.one,Nat.reduceAdd,Nat.reduceSub,Nat.reduceMul,Nat.reduceLT,Nat.reduceLeDiff,Int.reduceLT,Int.reduceLE,Int.reduceAdd,Int.reduceSub,Int.reduceNeg,Int.reduceMul,Int.reduceEq,Int.reduceToNat,nilA,moveA,live,loadA,rdA,storeA,wrA,intA,elemA,lenA,appA,srcA,isPtr,isNilPtr,partA,resOf,sliceA,cut,id,ap2,reduceIte,concs,chkB,geB,AOp.cls,AOp.xs,ltB,ltC,Nat.reduceBEq,Option.toList,List.cons_append,decide_eq_true,decide_eq_false,if_pos,if_neg,List.length_map,pA_at,bVb,bVn,eq_self,Bool.and_self,BEq.rfl,not_true_eq_false,gR0,gR01,gR02,sR0,sR01,sR02,lR0,lR1,gR1,gR2,gR22,sR1,sR2,sR22,gj1_0,sj1_0,gj2_0,gj2_1,sj2_0,sj2_1,len_last];(first|((with_reducible refine hK _ ?_);clear hK K)|((with_reducible refine hK ?_);clear hK hK3 K hK2)|((with_reducible refine hK3 ?_);clear hK hK3 K hK2)))|((first|with_reducible refine ret_h fun K hK=>?_|with_reducible refine ret_hh rfl fun K hK=>?_|with_reducible refine ret_pp fun K hK=>?_);simp (disch:=omega) only [bg0,bg1,bg2,bg3,bg4,stepO,rsAs,eff,AX.ev,St.put,binA,conc,ap1,ofVal,Int.reduceTMod,Int.reduceTDiv,reduceCtorEq,fillA,AV.cells,AV.fine,AV.one,Nat.reduceAdd,Nat.reduceSub,Nat.reduceMul,Nat.reduceLT,Nat.reduceLeDiff,Int.reduceLT,Int.reduceLE,Int.reduceAdd,Int.reduceSub,Int.reduceNeg,Int.reduceMul,Int.reduceEq,Int.reduceToNat,nilA,moveA,live,loadA,rdA,storeA,wrA,intA,elemA,lenA,appA,srcA,isPtr,isNilPtr,partA,resOf,sliceA,cut,id,ap2,reduceIte,concs,chkB,geB,AOp.cls,AOp.xs,ltB,ltC,Nat.reduceBEq,Option.toList,List.cons_append,decide_eq_true,decide_eq_false,if_pos,if_neg,List.length_map,pA_at,bVb,bVn,eq_self,Bool.and_self,BEq.rfl,not_true_eq_false,gR0,gR01,gR02,sR0,sR01,sR02,lR0,lR1,gR1,gR2,gR22,sR1,sR2,sR22,gj1_0,sj1_0,gj2_0,gj2_1,sj2_0,sj2_1,len_last];(first|((with_reducible refine hK _ ?_ ?_ ?_ ?_);rotate_left 2;rfl;rfl)|((with_reducible refine hK _ ?_);rfl))))
      · simp only [mix, mix_nil, mix_end, mix_skp, Nat.reduceEqDiff, Nat.reduceLeDiff, reduceCtorEq, if_true, if_false, reduceIte, Nat.reduceAdd, h17, h4]
        repeat (first|with_reducible refine w_seq ?_|with_reducible refine w_reg ?_|with_reducible refine w_exit ?_|with_reducible refine ws_nil ?_|with_reducible refine q_then ?_|with_reducible refine q_then_x ?_|with_reducible refine q_block_x ?_|with_reducible refine w_ret ?_|((first|with_reducible refine ks fun K hK=>?_|with_reducible refine kd fun K hK=>?_|with_reducible refine kc fun K hK2 hK hK3=>?_);simp (disch:=omega) only [bg0,bg1,bg2,bg3,bg4,stepO,rsAs,eff,AX.ev,St.put,binA,conc,ap1,ofVal,Int.reduceTMod,Int.reduceTDiv,reduceCtorEq,fillA,AV.cells,AV.fine,AV.one,Nat.reduceAdd,Nat.reduceSub,Nat.reduceMul,Nat.reduceLT,Nat.reduceLeDiff,Int.reduceLT,Int.reduceLE,Int.reduceAdd,Int.reduceSub,Int.reduceNeg,Int.reduceMul,Int.reduceEq,Int.reduceToNat,nilA,moveA,live,loadA,rdA,storeA,wrA,intA,elemA,lenA,appA,srcA,isPtr,isNilPtr,partA,resOf,sliceA,cut,id,ap2,reduceIte,concs,chkB,geB,AOp.cls,AOp.xs,ltB,ltC,Nat.reduceBEq,Option.toList,List.cons_append,decide_eq_true,decide_eq_false,if_pos,if_neg,List.length_map,pA_at,bVb,bVn,eq_self,Bool.and_self,BEq.rfl,not_true_eq_false,gR0,gR01,gR02,sR0,sR01,sR02,lR0,lR1,gR1,gR2,gR22,sR1,sR2,sR22,gj1_0,sj1_0,gj2_0,gj2_1,sj2_0,sj2_1,len_last];(first|((with_reducible refine hK _ ?_);clear hK K)|((with_reducible refine hK ?_);clear hK hK3 K hK2)|((with_reducible refine hK3 ?_);clear hK hK3 K hK2))))
        exact ret_frz rfl (List.getElem?_cons_succ.trans gR0) (by simp) (all_pA _)
end Go.Proofs.Ytnammfeiehikfaa.Sim.Pr7
namespace Go.Proofs.Ytnammfeiehikfaa.Sim.Pr7
open Go.RowKit
set_option maxRecDepth 100000
theorem sle_at {A:List Pr} (h:SLe A) {i j:Nat} (hij:i≤j) (hj:j < A.length):cB (A[i]'(by omega)).1 (A[j]).1≤0:=by
  by_cases e:i=j
  · subst e;rw [cB_self];omega
  · exact List.pairwise_iff_getElem.1 h i j (by omega) hj (by omega)
theorem hc_row {G:Nat→AV} {f:FuncId} {xs:List AV} {D D' E E':List Pr} {g:Nat} {r:AV} (h:HC Try.prog G f xs [rw0 D g] r [rw0 E g]) (e1:D=D') (e2:E=E'):HC Try.prog G f xs [rw0 D' g] r [rw0 E' g]:=by
  subst e1;subst e2;exact h
theorem okl_perm {D D':List Pr} (h:Okl D) (hl:D'.length=D.length) (hm:∀ x ∈ D',x ∈ D):Okl D':=⟨by rw [hl];exact h.len,fun p hp=>h.sz p (hm p hp)⟩
theorem mem_take_at {L:List Pr} {n:Nat} {x:Pr} (h:x ∈ L.take n):∃ i,∃ hi:i < L.length,i < n∧L[i]=x:=by
  obtain ⟨i,hi,rfl⟩:=List.mem_take_iff_getElem.1 h
  exact ⟨i,by omega,by omega,rfl⟩
theorem mem_drop_at {L:List Pr} {n:Nat} {x:Pr} (h:x ∈ L.drop n):∃ i,∃ hi:i < L.length,n≤i∧L[i]=x:=by
  obtain ⟨i,hi,rfl⟩:=List.mem_drop_iff_getElem.1 h
  exact ⟨n+i,by omega,by omega,rfl⟩
theorem sym_cut {A B : List Pr} {a s mid m : Nat} (sA : SLe A) (sB : SLe B) (h1 : a ≤ s) (h2 : s ≤ m) (h3 : s ≤ mid) (hA : a + A.length = m) (hb : mid ≤ s + B.length)
    (hlo:a < s→mid < s+B.length→∀ x y,A[s - 1 - a]? = some x→B[mid - s]? = some y→¬ cB y.1 x.1 < 0)
    (hhi:s < m→s < mid→∀ x y,A[s - a]? = some x→B[mid - 1 - s]? = some y→cB y.1 x.1 < 0) :
    ssort (A++B)=ssort (A.take (s - a)++B.take (mid - s))++ssort (A.drop (s - a)++B.drop (mid - s))∧(∀ x ∈ A.drop (s - a),∀ y ∈ B.take (mid - s),cB y.1 x.1 < 0):=by
  have g1:∀ x ∈ A.drop (s - a),∀ y ∈ B.take (mid - s),cB y.1 x.1 < 0:=fun x hx y hy=>by
    obtain ⟨i,hi,hi2,rfl⟩:=mem_drop_at hx
    obtain ⟨j,hj,hj2,rfl⟩:=mem_take_at hy
    have k1:s - a < A.length:=by omega
    have k2:mid - 1 - s < B.length:=by omega
    have:=hhi (by omega) (by omega) _ _ (List.getElem?_eq_getElem k1) (List.getElem?_eq_getElem k2)
    have c1:=sle_at sA (i:=s - a) (j:=i) (by omega) hi
    have c2:=sle_at sB (i:=j) (j:=mid - 1 - s) (by omega) k2
    exact cB_lt1 (cB_lt2 c2 this) c1
  refine ⟨?_,g1⟩
  have e1:=List.take_append_drop (s - a) A
  have e2:=List.take_append_drop (mid - s) B
  have:=ssort_merge (A1:=A.take (s - a)) (A2:=A.drop (s - a)) (B1:=B.take (mid - s)) (B2:=B.drop (mid - s)) (by rw [e1];exact sA) (by rw [e2];exact sB) g1 (fun x hx y hy=>by
    obtain ⟨i,hi,hi2,rfl⟩:=mem_take_at hx
    obtain ⟨j,hj,hj2,rfl⟩:=mem_drop_at hy
    have k1:s - 1 - a < A.length:=by omega
    have k2:mid - s < B.length:=by omega
    have:=hlo (by omega) (by omega) _ _ (List.getElem?_eq_getElem k1) (List.getElem?_eq_getElem k2)
    have c1:=sle_at sA (i:=i) (j:=s - 1 - a) (by omega) k1
    have c2:=sle_at sB (i:=mid - s) (j:=j) (by omega) hj
    refine cB_le c1 (cB_le ?_ c2)
    rw [cB_anti (B[mid - s]).1];omega)
  rwa [e1,e2] at this
theorem ssort_nil1 {X Y:List Pr} (h:X=[]∨Y=[]) (hX:SLe X) (hY:SLe Y):ssort (X++Y)=X++Y:=by
  rcases h with rfl|rfl
  · exact ssort_of hY
  · rw [List.append_nil];exact ssort_of hX
theorem sym_all {G : Nat → AV} {g n : Nat} {P A B R : List Pr} {N a m b s mid e : Nat}
    (ih:∀ (P A B R:List Pr) (N a m b:Nat),A.length+B.length≤n→(P++(A++(B++R))).length=N→P.length=a→a+A.length=m→m+B.length=b→0 < A.length→0 < B.length→SLe A→SLe B→Okl (P++(A++(B++R))) →
      HC Try.prog G 72 [.ol 0 g N,I a,I m,I b,cF] [rw0 (P++(A++(B++R))) g] (.tup []) [rw0 (P++(ssort (A++B)++R)) g])
    (hn:A.length+B.length≤n+1) (hN:(P++(A++(B++R))).length=N) (hP:P.length=a) (hA:a+A.length=m) (hB:m+B.length=b) (sA:SLe A) (sB:SLe B) (hok:Okl (P++(A++(B++R))))
    (h1:a≤s) (h2:s≤m) (h3:s≤mid) (hb:mid≤s+B.length) (he:e+s=mid+m) (hmb:mid < b) (ham:a < mid)
    (hlo:a < s→mid < s+B.length→∀ x y,A[s - 1 - a]? = some x→B[mid - s]? = some y→¬ cB y.1 x.1 < 0)
    (hhi:s < m→s < mid→∀ x y,A[s - a]? = some x→B[mid - 1 - s]? = some y→cB y.1 x.1 < 0) :
    ∃ D1 D2 D3:List Pr,D3=P++(ssort (A++B)++R)∧D1.length=N∧D2.length=N ∧
      (s < m→m < e→HC Try.prog G 73 [.ol 0 g N,I s,I m,I e,cF] [rw0 (P++(A++(B++R))) g] (.tup []) [rw0 D1 g])∧(¬ (s < m∧m < e)→P++(A++(B++R))=D1) ∧
      (a < s→s < mid→HC Try.prog G 72 [.ol 0 g N,I a,I s,I mid,cF] [rw0 D1 g] (.tup []) [rw0 D2 g])∧(¬ (a < s∧s < mid)→D1=D2) ∧
      (mid < e→e < b→HC Try.prog G 72 [.ol 0 g N,I mid,I e,I b,cF] [rw0 D2 g] (.tup []) [rw0 D3 g])∧(¬ (mid < e∧e < b)→D2=D3):=by
  obtain ⟨c1,c2⟩:=sym_cut sA sB h1 h2 h3 hA hb hlo hhi
  have eA:=List.take_append_drop (s - a) A
  have eB:=List.take_append_drop (mid - s) B
  have lA1:(A.take (s - a)).length=s - a:=by simp;omega
  have lA2:(A.drop (s - a)).length=m - s:=by simp;omega
  have lB1:(B.take (mid - s)).length=mid - s:=by simp;omega
  have lB2:(B.drop (mid - s)).length=b - e:=by simp;omega
  have sA1:SLe (A.take (s - a)):=List.Pairwise.sublist (List.take_sublist ..) sA
  have sA2:SLe (A.drop (s - a)):=List.Pairwise.sublist (List.drop_sublist ..) sA
  have sB1:SLe (B.take (mid - s)):=List.Pairwise.sublist (List.take_sublist ..) sB
  have sB2:SLe (B.drop (mid - s)):=List.Pairwise.sublist (List.drop_sublist ..) sB
  rw [c1]
  generalize A.take (s - a)=A1 at *
  generalize A.drop (s - a)=A2 at *
  generalize B.take (mid - s)=B1 at *
  generalize B.drop (mid - s)=B2 at *
  clear hlo hhi c1
  subst eA
  subst eB
  simp only [List.length_append] at hn hA hB hN hb
  have hm1:∀ x,x ∈ P++(A1++(B1++(A2++(B2++R))))→x ∈ P++((A1++A2)++((B1++B2)++R)):=fun x hx=>by
    simp only [List.mem_append] at hx ⊢
    rcases hx with h|h|h|h|h|h<;>simp [h]
  have hm2:∀ x,x ∈ (P++ssort (A1++B1))++(A2++(B2++R))→x ∈ P++((A1++A2)++((B1++B2)++R)):=fun x hx=>by
    simp only [List.mem_append,ssort_mem] at hx ⊢
    rcases hx with (h|h|h)|h|h|h<;>simp [h]
  have ok1:Okl (P++(A1++(B1++(A2++(B2++R))))):=okl_perm hok (by simp;omega) hm1
  have ok2:Okl ((P++ssort (A1++B1))++(A2++(B2++R))):=okl_perm hok (by simp [ssort_len];omega) hm2
  refine ⟨P++(A1++(B1++(A2++(B2++R)))),P++(ssort (A1++B1)++(A2++(B2++R))),_,rfl,by simp;omega,by simp [ssort_len];omega,fun k1 k2=>?_,fun hk=>?_,fun k1 k2=>?_,fun hk=>?_,fun k1 k2=>?_,fun hk=>?_⟩
  · have hr := rot_list (P := P ++ A1) (A := A2) (B := B1) (R := B2 ++ R)
    have e1:(P++A1).length=s:=by simp;omega
    have e2:(P++A1).length+A2.length=m:=by simp;omega
    have e3:(P++A1).length+A2.length+B1.length=e:=by simp;omega
    rw [e3,e2,e1] at hr
    have hlN:(P++(A1++A2++(B1++B2++R))).length=N:=by simp;omega
    have:=rot45 G (P++(A1++A2++(B1++B2++R))) g s m e hok.len k1 k2 (by rw [hlN];omega) cF
    rw [hlN] at this
    refine hc_row this rfl ?_
    have e4:P++(A1++A2++(B1++B2++R))=P++A1++(A2++(B1++(B2++R))):=by simp
    rw [e4,hr];simp
  · have : A2 = [] ∨ B1 = [] := by
      by_cases hh:s < m
      · right;exact List.length_eq_zero_iff.1 (by omega)
      · left;exact List.length_eq_zero_iff.1 (by omega)
    rcases this with rfl|rfl<;>simp
  · exact ih P A1 B1 (A2++(B2++R)) N a s mid (by omega) (by simp;omega) hP (by omega) (by omega) (by omega) (by omega) sA1 sB1 ok1
  · rw [ssort_nil1 _ sA1 sB1]
    · simp
    · by_cases hh : a < s
      · right;exact List.length_eq_zero_iff.1 (by omega)
      · left;exact List.length_eq_zero_iff.1 (by omega)
  · have := ih (P ++ ssort (A1 ++ B1)) A2 B2 R N mid e b (by omega) (by simp [ssort_len]; omega) (by simp [ssort_len]; omega) (by omega) (by omega) (by omega) (by omega) sA2 sB2 ok2
    exact hc_row this (by simp) (by simp)
  · rw [ssort_nil1 (X := A2) _ sA2 sB2]
    · simp
    · by_cases hh : mid < e
      · right;exact List.length_eq_zero_iff.1 (by omega)
      · left;exact List.length_eq_zero_iff.1 (by omega)
theorem eVu {H:Hp} {k:KK} {n:Nat} (h:n≤9223372036854775807) (hk:k (.v (.int .u64 (n:Int))) H):ObE ((ap1 (fun v=>pureRun Try.prog (convert 3 92 v)) (.v (.int .i64 (n:Int)))).map (·,H)) k :=
  ⟨_,_,by simp only [ap1,conc,cVu (show (0:Int)≤(n:Int) by omega) (show (n:Int)≤9223372036854775807 by omega)];rfl,hk⟩
theorem eVi {H:Hp} {k:KK} {n:Nat} (h:n≤9223372036854775807) (hk:k (.v (.int .i64 (n:Int))) H):ObE ((ap1 (fun v=>pureRun Try.prog (convert 92 3 v)) (.v (.int .u64 (n:Int)))).map (·,H)) k :=
  ⟨_,_,by simp only [ap1,conc,cVi (show (0:Int)≤(n:Int) by omega) (show (n:Int)≤9223372036854775807 by omega)];rfl,hk⟩
theorem eShr {H:Hp} {k:KK} {n:Nat} {t:TypeId} {xo yo:Operand} (hk:k (.v (.int .u64 ((n / 2:Nat):Int))) H):ObE ((binA Try.prog H .shr t false xo yo (.v (.int .u64 (n:Int))) (.v (.int .u64 1))).map (·,H)) k:=by
  have:=shr1 (P:=Try.prog) (t:=t) (xo:=xo) (yo:=yo) (i:=n) (j:=0)
  rw [show ((n:Int)+((0:Nat):Int))=(n:Int) by simp,Nat.add_zero] at this
  exact ⟨_,_,by simp only [binA,conc,this,Bool.false_eq_true,if_false];rfl,hk⟩
set_option maxHeartbeats 40000000 in
theorem sym44 (G : Nat → AV) (g : Nat) : ∀ (n : Nat) (P A B R : List Pr) (N a m b : Nat), A.length + B.length ≤ n → (P ++ (A ++ (B ++ R))).length = N → P.length = a → a + A.length = m → m + B.length = b → 0 < A.length → 0 < B.length → SLe A → SLe B → Okl (P ++ (A ++ (B ++ R))) →
    HC Try.prog G 72 [.ol 0 g N,I a,I m,I b,cF] [rw0 (P++(A++(B++R))) g] (.tup []) [rw0 (P++(ssort (A++B)++R)) g]
  | 0,P,A,B,R,N,a,m,b,hn,_,_,_,_,hA0,_,_,_,_=>by omega
  | n+1,P,A,B,R,N,a,m,b,hn,hN,hP,hA,hB,hA0,hB0,sA,sB,hok=>by
    by_cases hA1:A.length=1
    · obtain ⟨x, rfl⟩ := List.length_eq_one_iff.1 hA1
      exact symL G g P B R x N a m b hN hP (by simpa using hA) hB sB hok
    by_cases hB1:B.length=1
    · obtain ⟨x, rfl⟩ := List.length_eq_one_iff.1 hB1
      exact symR G g P A R x N a m b hN hP hA (by omega) (by simpa using hB) sA hok
    have hlen:=hok.len
    rw [hN] at hlen
    have hbN:b≤N:=by rw [← hN];simp;omega
    have hsA:∀ p ∈ A,p.1.size≤9223372036854775807:=fun p hp=>(hok.sz p (by simp [hp])).1
    have hsB:∀ p ∈ B,p.1.size≤9223372036854775807:=fun p hp=>(hok.sz p (by simp [hp])).1
    obtain ⟨mid,hmid⟩:∃ mid,mid=(a+b) / 2:=⟨_,rfl⟩
    obtain ⟨s0,hs0⟩:∃ s0,s0=if mid < m then mid+m - b else a:=⟨_,rfl⟩
    obtain ⟨r0,hr0⟩:∃ r0,r0=if mid < m then mid else m:=⟨_,rfl⟩
    have hsr:a≤s0∧s0≤r0∧r0≤m∧r0≤mid∧mid+m≤b+s0∧(s0=a∨mid+m=b+s0)∧(r0=m∨r0=mid)∧mid < b∧a < mid:=by
      rw [hs0,hr0];split<;>omega
    obtain ⟨sr1,sr2,sr3,sr4,sr5,sr6,sr7,sr8,sr9⟩:=hsr
    have ema:¬ ((m:Int) - (a:Int)=1):=by omega
    have ebm:¬ ((b:Int) - (m:Int)=1):=by omega
    have hm:=hmid.symm
    -- the two places that are looked at
    have hq:∀ c,s0≤c→c < r0→∃ x y:Pr,A[c - a]? = some x∧B[mid - 1 - c]? = some y∧((P++(A++(B++R))).map pA)[c]? = some (.agg [S x.1,S x.2])∧((P++(A++(B++R))).map pA)[mid+m - 1 - c]? = some (.agg [S y.1,S y.2])∧x.1.size≤9223372036854775807∧y.1.size≤9223372036854775807:=fun c c1 c2=>by
      have i1:c - a < A.length:=by omega
      have i2:mid - 1 - c < B.length:=by omega
      refine ⟨A[c - a],B[mid - 1 - c],List.getElem?_eq_getElem i1,List.getElem?_eq_getElem i2,pAq ?_,pAq ?_,hsA _ (List.getElem_mem i1),hsB _ (List.getElem_mem i2)⟩
      · have := gdA (P := P) (A := A) (R := B ++ R) (k := c) (by omega) (by omega)
        rw [this];congr 2;omega
      · have := gdA (P := P ++ A) (A := B) (R := R) (k := mid + m - 1 - c) (by simp; omega) (by simp; omega)
        rw [List.append_assoc] at this
        rw [this];congr 2;simp;omega
    -- of two such the one further on is smaller
    have hmon:∀ c d x y x' y',s0≤c→c≤d→d < r0→A[c - a]? = some x→B[mid - 1 - c]? = some y→A[d - a]? = some x'→B[mid - 1 - d]? = some y'→cB y.1 x.1 < 0→cB y'.1 x'.1 < 0:=fun c d x y x' y' c1 c2 c3 e1 e2 e3 e4 h=>by
      have i1:c - a < A.length:=by omega
      have i2:mid - 1 - c < B.length:=by omega
      have i3:d - a < A.length:=by omega
      have i4:mid - 1 - d < B.length:=by omega
      rw [List.getElem?_eq_getElem i1] at e1
      rw [List.getElem?_eq_getElem i2] at e2
      rw [List.getElem?_eq_getElem i3] at e3
      rw [List.getElem?_eq_getElem i4] at e4
      cases e1;cases e2;cases e3;cases e4
      have g1:=sle_at sA (i:=c - a) (j:=d - a) (by omega) i3
      have g2:=sle_at sB (i:=mid - 1 - d) (j:=mid - 1 - c) (by omega) i2
      exact cB_lt1 (cB_lt2 g2 h) g1
    have hfin:=fun (s e:Nat) h1 h2 h3 hb he hlo hhi=>sym_all (G:=G) (g:=g) (s:=s) (mid:=mid) (e:=e) (sym44 G g n) hn hN hP hA hB sA sB hok h1 h2 h3 hb he sr8 sr9 hlo hhi
    generalize hD:P++(A++(B++R))=D at *
    generalize hE:P++(ssort (A++B)++R)=E at *
    have hb1:mid+m≤2000000:=by omega
    have hAl:m=a+A.length:=hA.symm
    have hBl:b=m+B.length:=hB.symm
    clear hn hP hsA hsB hA0 hB0 hA1 hB1 hlen hok sA sB
    refine hc_ofV cop72 rfl ?_
    repeat' ((conv=>whnf);first|(with_reducible refine SeqP.go ?_)|((with_reducible refine eVu ?_ ?_);(focus omega))|((with_reducible refine eVi ?_ ?_);(focus omega))|(with_reducible refine eShr ?_)|((with_reducible refine ObN.mk ?_ ?_);(focus exact zN))|(with_reducible refine ObT.tt ?_)|(with_reducible refine ObT.ff ?_)|((with_reducible refine ObB.no ?_ ?_);(focus (first|assumption|omega)))|(with_reducible refine ObB.mk (fun h=>?_) (fun h=>?_))|((with_reducible refine ObI.nn ?_ ?_);(focus omega))|((with_reducible refine ObI.sn ?_ ?_ ?_);(focus omega);(focus omega))|((with_reducible refine ObI.sl ?_ ?_ ?_);(focus omega);(focus omega)))
    all_goals
      conv=>whnf
      simp only [hm]
      refine LoopP.go (α:=Nat × Nat) (fun p=>s0≤p.1∧p.1≤p.2∧p.2≤r0∧(∀ c x y,s0≤c→c < p.1→A[c - a]? = some x→B[mid - 1 - c]? = some y→¬ cB y.1 x.1 < 0)∧(∀ c x y,p.2≤c→c < r0→A[c - a]? = some x→B[mid - 1 - c]? = some y→cB y.1 x.1 < 0)) (fun p=>p.2 - p.1) (fun p=>[(20,some (I p.1)),(0,some (I p.2)),(1,none),(125,none),(0,none),(0,none),(0,none),(0,none),(0,none),(0,none),(0,none),(0,none),(0,none),(0,none),(0,none),(0,none),(0,none),(0,none),(0,none),(0,none),(0,none),(0,none),(0,none),(0,none),(0,none),(0,none),(0,none),(0,none),(0,none)]) (fun _=>[rw0 D g]) (s0,r0) ⟨Nat.le_refl _,sr2,Nat.le_refl _,fun c x y h1 h2=>by omega,fun c x y h1 h2=>by omega⟩ (Fg.go ?_ rfl) ?_
      · have hs1 := hs0
        have hr1:=hr0
        first|rw [if_pos (by omega)] at hs1 hr1|rw [if_neg (by omega)] at hs1 hr1
        clear hs0 hr0
        repeat' ((conv=>whnf);first|((with_reducible refine ObEqs.mk ?_ ?_);(focus rfl))|((with_reducible refine ObEq1.i ?_ ?_);(focus (first|(with_reducible rfl)|omega)))|exact True.intro)
      rintro ⟨i,j⟩ ⟨i1,i2,i3,hlo,hhi⟩
      dsimp only at i1 i2 i3 hlo hhi ⊢
      clear hmid hs0 hr0 ema ebm
      by_cases hij:i < j
      · obtain ⟨x, y, ex, ey, q1, q2, hx, hy⟩ := hq ((i + j) / 2) (by omega) (by omega)
        by_cases hlt:cB y.1 x.1 < 0
        · have hhi2:∀ c x y,(i+j) / 2≤c→c < r0→A[c - a]? = some x→B[mid - 1 - c]? = some y→cB y.1 x.1 < 0:=fun c x' y' c1 c2 e1 e2=>hmon ((i+j) / 2) c x y x' y' (by omega) c1 c2 ex ey e1 e2 hlt
          clear hmon hfin hq hhi
          repeat' ((conv=>whnf);first|(with_reducible refine SeqP.go ?_)|((with_reducible refine eVu ?_ ?_);(focus omega))|((with_reducible refine eVi ?_ ?_);(focus omega))|(with_reducible refine eShr ?_)|((with_reducible refine ObD.mk ?_ ?_);(focus (first|rfl|(simp [hN];done))))|((with_reducible refine ObN.mk ?_ ?_);(focus (first|rfl|assumption|omega|(simp only [List.length_map,List.length_append,List.length_cons,List.length_nil,hN];omega)|(simp [hN];done)|(simp [hN];omega))))|(with_reducible refine ObT.tt ?_)|(with_reducible refine ObT.ff ?_)|((with_reducible refine ObB.yes ?_ ?_);(focus (first|assumption|(with_reducible rfl)|omega)))|((with_reducible refine ObI.nn ?_ ?_);(focus omega))|((with_reducible refine ObI.sn ?_ ?_ ?_);(focus omega);(focus omega))|((with_reducible refine ObX.mk _ rfl ?_ ?_);(focus (first|omega|assumption|(simp only [List.length_map,List.length_append,List.length_cons,List.length_nil,List.length_take,List.length_drop,List.length_set,List.length_replicate,hN];omega))))|((with_reducible refine (?_:ObU _ _));(refine ObU.mk _ (by first|assumption|((conv=>lhs;simp only [List.set_cons_zero,List.set_cons_succ,List.take_succ_cons,List.take_zero,List.drop_succ_cons,List.drop_zero,List.nil_append,List.cons_append,List.append_nil,List.take_nil,List.drop_nil,hN]);try rfl)|rfl) ?_))|((with_reducible refine (?_:ObR _ _ _));(first|(refine ObR.mk _ (by assumption) ?_)|(refine ObR.mk _ (by exact (by first|exact q1|exact q2|(refine Eq.trans (congrArg _ ?_) q2;omega))) ?_)|(refine ObR.mk _ (by with_reducible rfl) ?_)|(refine ObR.map (by (first|omega|assumption|(simp only [List.length_map,List.length_append,List.length_cons,List.length_nil,List.length_take,List.length_drop,List.length_set,List.length_replicate,hN];omega))) (fun x hx=>?_))|(refine ObR.mk _ rfl ?_)))|((with_reducible refine ObH.f 68 ?_);(first|(with_reducible refine ObH.mk _ _ ((cmpC G _ hy hx)) ?_)|(refine ObH.mk _ _ ((cmpC G _ hy hx)) ?_))))
          conv=>whnf
          refine Again.mk (i,(i+j) / 2) ?_ ?_ (Fg.go ?_ rfl)
          · exact ⟨i1,by dsimp only;omega,by dsimp only;omega,hlo,hhi2⟩
          · dsimp only;omega
          repeat' ((conv=>whnf);first|((with_reducible refine ObEqs.mk ?_ ?_);(focus rfl))|((with_reducible refine ObEq1.i ?_ ?_);(focus (first|(with_reducible rfl)|omega)))|exact True.intro)
        · have hlo2:∀ c x y,s0≤c→c < (i+j) / 2+1→A[c - a]? = some x→B[mid - 1 - c]? = some y→¬ cB y.1 x.1 < 0:=fun c x' y' c1 c2 e1 e2 hQ=>hlt (hmon c ((i+j) / 2) x' y' x y c1 (by omega) (by omega) e1 e2 ex ey hQ)
          clear hmon hfin hq hlo
          repeat' ((conv=>whnf);first|(with_reducible refine SeqP.go ?_)|((with_reducible refine eVu ?_ ?_);(focus omega))|((with_reducible refine eVi ?_ ?_);(focus omega))|(with_reducible refine eShr ?_)|((with_reducible refine ObD.mk ?_ ?_);(focus (first|rfl|(simp [hN];done))))|((with_reducible refine ObN.mk ?_ ?_);(focus (first|rfl|assumption|omega|(simp only [List.length_map,List.length_append,List.length_cons,List.length_nil,hN];omega)|(simp [hN];done)|(simp [hN];omega))))|(with_reducible refine ObT.tt ?_)|(with_reducible refine ObT.ff ?_)|((with_reducible refine ObB.yes ?_ ?_);(focus (first|assumption|(with_reducible rfl)|omega)))|((with_reducible refine ObB.no ?_ ?_);(focus (first|assumption|omega)))|((with_reducible refine ObI.nn ?_ ?_);(focus omega))|((with_reducible refine ObI.nl ?_ ?_);(focus omega))|((with_reducible refine ObI.sn ?_ ?_ ?_);(focus omega);(focus omega))|((with_reducible refine ObX.mk _ rfl ?_ ?_);(focus (first|omega|assumption|(simp only [List.length_map,List.length_append,List.length_cons,List.length_nil,List.length_take,List.length_drop,List.length_set,List.length_replicate,hN];omega))))|((with_reducible refine (?_:ObU _ _));(refine ObU.mk _ (by first|assumption|((conv=>lhs;simp only [List.set_cons_zero,List.set_cons_succ,List.take_succ_cons,List.take_zero,List.drop_succ_cons,List.drop_zero,List.nil_append,List.cons_append,List.append_nil,List.take_nil,List.drop_nil,hN]);try rfl)|rfl) ?_))|((with_reducible refine (?_:ObR _ _ _));(first|(refine ObR.mk _ (by assumption) ?_)|(refine ObR.mk _ (by exact (by first|exact q1|exact q2|(refine Eq.trans (congrArg _ ?_) q2;omega))) ?_)|(refine ObR.mk _ (by with_reducible rfl) ?_)|(refine ObR.map (by (first|omega|assumption|(simp only [List.length_map,List.length_append,List.length_cons,List.length_nil,List.length_take,List.length_drop,List.length_set,List.length_replicate,hN];omega))) (fun x hx=>?_))|(refine ObR.mk _ rfl ?_)))|((with_reducible refine ObH.f 68 ?_);(first|(with_reducible refine ObH.mk _ _ ((cmpC G _ hy hx)) ?_)|(refine ObH.mk _ _ ((cmpC G _ hy hx)) ?_))))
          conv=>whnf
          refine Again.mk ((i+j) / 2+1,j) ?_ ?_ (Fg.go ?_ rfl)
          · exact ⟨by dsimp only;omega,by dsimp only;omega,i3,hlo2,hhi⟩
          · dsimp only;omega
          repeat' ((conv=>whnf);first|((with_reducible refine ObEqs.mk ?_ ?_);(focus rfl))|((with_reducible refine ObEq1.i ?_ ?_);(focus (first|(with_reducible rfl)|omega)))|exact True.intro)
      · obtain rfl : j = i := by omega
        obtain ⟨e,he⟩:∃ e,e+j=mid+m:=⟨mid+m - j,by omega⟩
        obtain ⟨D1,D2,D3,hD3,l1,l2,f1,f2,f3,f4,f5,f6⟩:=hfin j e (by omega) (by omega) (by omega) (by omega) he (fun c1 c2 x y e1 e2=>hlo (j - 1) x y (by omega) (by omega) e1 (by rw [show mid - 1 - (j - 1)=mid - j by omega];exact e2)) (fun c1 c2 x y e1 e2=>hhi j x y (by omega) (by omega) e1 e2)
        subst hD3
        have ee:e=mid+m - j:=by omega
        have hja:a≤j∧j≤m∧j≤mid:=by omega
        have heN:e≤b:=by omega
        clear hmon hfin hq hlo hhi i1 i2 i3 sr1 sr2 sr3 sr4 sr5 sr6 sr7 hij he
        obtain ⟨ja,jm,jd⟩:=hja
        subst ee
        by_cases p1:j < m<;>by_cases p3:a < j<;>by_cases p4:j < mid<;>by_cases p6:mid+m - j < b<;>(try (exfalso;omega))
        all_goals
          (first|(have r1:=f1 p1 (by omega))|(have r1:=f2 (by omega);subst r1))
          (first|(have r2:=f3 p3 p4)|(have r2:=f4 (by omega);subst r2))
          (first|(have r3:=f5 (by omega) p6)|(have r3:=f6 (by omega);subst r3))
          clear f1 f2 f3 f4 f5 f6
          repeat' ((conv=>whnf);first|(with_reducible refine SeqP.go ?_)|((with_reducible refine ObN.mk ?_ ?_);(focus exact zN))|(with_reducible refine ObT.tt ?_)|(with_reducible refine ObT.ff ?_)|((with_reducible refine ObB.yes ?_ ?_);(focus (first|assumption|(with_reducible rfl)|omega)))|((with_reducible refine ObB.no ?_ ?_);(focus (first|assumption|omega)))|((with_reducible refine ObI.sn ?_ ?_ ?_);(focus omega);(focus omega))|((with_reducible refine ObH.f 73 ?_);(first|(with_reducible refine ObH.mk _ _ (r1) ?_)|(refine ObH.mk _ _ (r1) ?_)))|((with_reducible refine ObH.f 72 ?_);(first|(with_reducible refine ObH.mk _ _ (r2) ?_)|(refine ObH.mk _ _ (r2) ?_)))|((with_reducible refine ObH.f 72 ?_);(first|(with_reducible refine ObH.mk _ _ (r3) ?_)|(refine ObH.mk _ _ (r3) ?_)))|(exact ObEnd.eq rfl rfl))
end Go.Proofs.Ytnammfeiehikfaa.Sim.Pr7
namespace Go.Proofs.Ytnammfeiehikfaa.Sim
open Go.RowKit
set_option maxRecDepth 100000
theorem leaf14 (G:Nat→AV) (k v:ByteArray):PC Try.prog G 34 [S k,S v] (nV 1 k v 0 [] 0 [] 1 0):=by
  refine pc_ofV cop34 ?_
  repeat' ((conv=>whnf);first|(with_reducible refine SeqP.go ?_)|((with_reducible refine ObD.mk ?_ ?_);(focus (first|rfl|(simp;done))))|((with_reducible refine ObN.mk ?_ ?_);(focus exact zN))|((with_reducible refine (?_:ObU _ _));(refine ObU.mk _ zU ?_))|((with_reducible refine (?_:ObR _ _ _));(first|(refine ObR.mk _ (by assumption) ?_)|(refine ObR.mk _ (by with_reducible rfl) ?_)|(refine ObR.map zX (fun x hx=>?_))|(refine ObR.mk _ rfl ?_)))|((with_reducible refine ObEq.mk ?_);(focus (first|rfl|assumption))))
theorem tomb15 (G:Nat→AV) (k v:ByteArray):PC Try.prog G 47 [S k,S v] (nV 6 k v 0 [] 0 [] 1 0):=by
  refine pc_ofV cop47 ?_
  repeat' ((conv=>whnf);first|(with_reducible refine SeqP.go ?_)|((with_reducible refine ObD.mk ?_ ?_);(focus (first|rfl|(simp;done))))|((with_reducible refine ObN.mk ?_ ?_);(focus exact zN))|((with_reducible refine (?_:ObU _ _));(refine ObU.mk _ zU ?_))|((with_reducible refine (?_:ObR _ _ _));(first|(refine ObR.mk _ (by assumption) ?_)|(refine ObR.mk _ (by with_reducible rfl) ?_)|(refine ObR.map zX (fun x hx=>?_))|(refine ObR.mk _ rfl ?_)))|((with_reducible refine ObEq.mk ?_);(focus (first|rfl|assumption))))
theorem inner17 (G:Nat→AV) (a:Int):PC Try.prog G 52 [I a] (nV 5 ⟨#[]⟩ ⟨#[]⟩ 0 [] a [] 0 0):=by
  refine pc_ofV cop52 ?_
  repeat' ((conv=>whnf);first|(with_reducible refine SeqP.go ?_)|((with_reducible refine ObD.mk ?_ ?_);(focus (first|rfl|(simp;done))))|((with_reducible refine ObN.mk ?_ ?_);(focus exact zN))|((with_reducible refine (?_:ObU _ _));(refine ObU.mk _ zU ?_))|((with_reducible refine (?_:ObR _ _ _));(first|(refine ObR.mk _ (by assumption) ?_)|(refine ObR.mk _ (by with_reducible rfl) ?_)|(refine ObR.map zX (fun x hx=>?_))|(refine ObR.mk _ rfl ?_)))|((with_reducible refine ObEq.mk ?_);(focus (first|rfl|assumption))))
theorem bucket18 (G:Nat→AV) (l m:List Pr) (h:PC Try.prog G 59 [.sl 2 (l.map pA)] (.sl 2 (m.map pA))):PC Try.prog G 51 [.sl 2 (l.map pA)] (nV 3 ⟨#[]⟩ ⟨#[]⟩ 0 [] 0 m m.length 0):=by
  refine pc_ofV cop51 ?_
  repeat' ((conv=>whnf);first|(with_reducible refine SeqP.go ?_)|((with_reducible refine ObD.mk ?_ ?_);(focus (first|rfl|(simp;done))))|((with_reducible refine ObN.mk ?_ ?_);(focus exact zN))|((with_reducible refine (?_:ObL _ _));(refine ObL.mk _ zM ?_))|((with_reducible refine (?_:ObU _ _));(refine ObU.mk _ zU ?_))|((with_reducible refine (?_:ObR _ _ _));(first|(refine ObR.mk _ (by assumption) ?_)|(refine ObR.mk _ (by with_reducible rfl) ?_)|(refine ObR.map zX (fun x hx=>?_))|(refine ObR.mk _ rfl ?_)))|((with_reducible refine ObC.f 59 ?_);(first|(with_reducible refine ObC.mk _ (h) ?_)|(refine ObC.mk _ (h) ?_)))|((with_reducible refine ObEq.mk ?_);(focus (first|rfl|assumption|exact (by simp [nV])))))
theorem branch20 (G:Nat→AV) (mp:Int) (kk:List Int) (s:Int) (hk:kk.length≤40):PC Try.prog G 48 [.v (.int .u32 mp),.sl 1 (kk.map iA),I s] (nV 2 ⟨#[]⟩ ⟨#[]⟩ mp kk 0 [] s 0):=by
  have h:=copy37 G kk hk
  refine pc_ofV cop48 ?_
  repeat' ((conv=>whnf);first|(with_reducible refine SeqP.go ?_)|((with_reducible refine ObD.mk ?_ ?_);(focus (first|rfl|(simp;done))))|((with_reducible refine ObN.mk ?_ ?_);(focus exact zN))|((with_reducible refine (?_:ObU _ _));(refine ObU.mk _ zU ?_))|((with_reducible refine (?_:ObR _ _ _));(first|(refine ObR.mk _ (by assumption) ?_)|(refine ObR.mk _ (by with_reducible rfl) ?_)|(refine ObR.map zX (fun x hx=>?_))|(refine ObR.mk _ rfl ?_)))|((with_reducible refine ObC.f 39 ?_);(first|(with_reducible refine ObC.mk _ (h) ?_)|(refine ObC.mk _ (h) ?_)))|((with_reducible refine ObEq.mk ?_);(focus (first|rfl|assumption))))
theorem hMake (G:Nat→AV) (L:List Pr) (h40:L.length≤40) (hs:∀ p ∈ L,p.1.size≤40∧p.2.size≤40):(Pr7.mk L).length≤40∧PC Try.prog G 59 [.sl 2 (L.map pA)] (.sl 2 ((Pr7.mk L).map pA))∧True:=by
  have hL:Pr7.Okl L:=⟨by omega,fun p hp=>by have:=hs p hp;omega⟩
  have h1:=Pr7.mk_len L
  exact ⟨by omega,Pr7.make14 G (fun g n P A B R N a m b=>Pr7.sym44 _ g n P A B R N a m b) L h40 hL,trivial⟩
end Go.Proofs.Ytnammfeiehikfaa.Sim
