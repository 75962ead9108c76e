/- Texts of this claim, part 7. -/
import Derived.LoopIn
import Derived.LoopNIn
import Derived.OrdersIn
import Derived.OwnWalkIn
import Derived.RangeFuncRecord
import Derived.Shelf.Abstract
import Derived.Shelf.RegionOpen
import Derived.TacticsIn
import Derived.TacticsInMore
import Derived.Test.YtefkaglgekjlfaaMFindTries6
import Derived.Test.YtefkaglgekjlfaaProg
import Derived.WalkKit
set_option linter.unusedVariables false
set_option linter.unusedSimpArgs false
namespace Go.Proofs.Ytefkaglgekjlfaa.Sim
open Go.RowKit
set_option maxRecDepth 100000
abbrev bC (a:List Int) (sz bi:Int):List AV:=a.map iA++[I sz,I bi]
abbrev bV (a:List Int) (sz bi:Int):AV:=.agg (bC a sz bi)
abbrev nB (a:List Int) (sz bi:Int):AV:=nV 2 (ByteArray.mk #[]) (ByteArray.mk #[]) (bm a:Int) (kz a) 0 [] sz bi
section
variable {a:List Int} {sz bi:Int} (ha:a.length=32)
include ha
theorem bC_at {i:Nat} (h:i < 32):(bC a sz bi)[i]? = some (I (a.getD i 0)):=by unfold bC;rw [List.getElem?_append_left (by simp [ha,h])];simp [ha,h,iA]
theorem bC_s32 {z:Int}:(bC a sz bi).set 32 (I z)=bC a z bi:=by unfold bC;rw [List.set_append_right _ _ (by simp [ha])];simp [ha]
theorem bC_s33 {z:Int}:(bC a sz bi).set 33 (I z)=bC a sz z:=by unfold bC;rw [List.set_append_right _ _ (by simp [ha])];simp [ha]
theorem bC_set {i:Nat} (h:i < 32) {z:Int}:(bC a sz bi).set i (I z)=bC (a.set i z) sz bi:=by unfold bC;rw [List.set_append_left _ _ (by simp [ha,h]),List.map_set];rfl
end
theorem bC_cl {a:List Int} {sz bi:Int}:(AV.agg (bC a sz bi)).cells.length=a.length+2:=by simp [AV.cells]
theorem bC_fine {a:List Int} {sz bi:Int}:(AV.agg (bC a sz bi)).fine=true:=by simp [AV.fine,AV.one,iA]
theorem bC_c0 {a:List Int} {sz bi:Int}:(bC a sz bi).all AV.isC0=true:=by simp [AV.isC0,iA]
theorem fzL_p {H:Hp} {xs:List AV} {k:List AV→Hp→Prop} (h:xs.all AV.isC0=true) (hk:k xs H):fzL H xs k:=by
  induction xs generalizing k with
  | nil=>exact hk
  | cons a xs ih =>
    simp only [List.all_cons,Bool.and_eq_true] at h
    have h2:fzL H xs (fun xs' H''=>k (a::xs') H''):=ih h.2 hk
    cases a with
    | v x=>exact h2
    | sl=>exact h2
    | ad=>exact h2
    | _=>simp [AV.isC0] at h
theorem oK_all {s vs:List AV} {k:List AV→Prop} (h:s.length=vs.length) (hk:k vs):oK s 0 vs k:=by
  rw [oK_eq _ _ _ _ (by omega),Nat.zero_add,← h,List.take_zero,List.drop_length,List.nil_append,List.append_nil]
  exact hk
theorem nK_to {s:List AV} {n:Nat} {k:AV→Prop} (n':Nat) (hn:n=n') {x:AV} (h:s[n']? = some x) (hk:k x):nK s n k:=by
  subst hn
  induction s generalizing n with
  | nil=>simp at h
  | cons y s ih=>cases n with
    | zero=>simp at h;subst h;exact hk
    | succ n=>exact ih (by simpa using h)
theorem pK_to {s:List AV} {n:Nat} {r:AV} {k:List AV→Prop} (n':Nat) (hn:n=n') (s':List AV) (hs:s.set n' r=s') (hk:k s'):pK s n r k:=by subst hn;rw [pK_eq,hs];exact hk
def chI (a:List Int) (i:Int):Int:=if 0≤i∧i < 32 then a.getD i.toNat 0 else 0
section
variable (G:Nat→AV)
theorem child11 (a:List Int) (sz bi i:Int) (ha:a.length=32):PC Try.prog G 39 [bV a sz bi,I i] (I (chI a i)):=by
  unfold chI
  by_cases h:0≤i∧i < 32
  · rw [if_pos h]
    obtain ⟨n,rfl⟩:=Int.eq_ofNat_of_zero_le h.1
    have hn:n < 32:=by omega
    rw [Int.toNat_natCast]
    refine pc_ofV cop39 ?_
    repeat' ((conv=>whnf);first|(with_reducible refine SeqP.go ?_)|((with_reducible refine (?_:nK _ _ _));(refine nK_to n ?_ (bC_at ha hn) ?_);omega)|((with_reducible refine ObD.mk ?_ ?_);(focus (simp only [bC_cl,bC_fine,List.length_set,ha];rfl)))|((with_reducible refine ObN.mk ?_ ?_);(focus (first|rfl|assumption|omega|(simp only [List.length_map,List.length_append,List.length_cons,List.length_nil,ha,AV.cells,AV.fine,AV.one,iA];omega)|(simp [ha,AV.cells,AV.fine,AV.one,iA];done)|(simp [ha,AV.cells,AV.fine,AV.one,iA];omega))))|(with_reducible refine ObT.ff ?_)|((with_reducible refine ObB.no ?_ ?_);exact zC)|((with_reducible refine ObX.mk _ rfl ?_ ?_);(focus (first|omega|assumption|(simp only [List.length_map,List.length_append,List.length_cons,List.length_nil,List.length_take,List.length_drop,List.length_set,List.length_replicate,ha,AV.cells,AV.fine,AV.one,iA];omega))))|((with_reducible refine (?_:ObR _ _ _));(first|(refine ObR.mk _ (by first|assumption|with_reducible rfl) ?_)|(refine ObR.map (by (first|omega|assumption|(simp only [List.length_map,List.length_append,List.length_cons,List.length_nil,List.length_take,List.length_drop,List.length_set,List.length_replicate,ha,AV.cells,AV.fine,AV.one,iA];omega))) (fun x hx=>?_))|(refine ObR.mk _ rfl ?_)))|((with_reducible refine ObEq.i ?_);exact zF))
  · rw [if_neg h]
    refine pc_ofV cop39 ?_
    repeat' ((conv=>whnf);first|(with_reducible refine SeqP.go ?_)|((with_reducible refine ObD.mk ?_ ?_);(focus (simp only [bC_cl,bC_fine,List.length_set,ha];rfl)))|((with_reducible refine ObN.mk ?_ ?_);(focus (first|rfl|assumption|omega|(simp only [List.length_map,List.length_append,List.length_cons,List.length_nil,ha,AV.cells,AV.fine,AV.one,iA];omega)|(simp [ha,AV.cells,AV.fine,AV.one,iA];done)|(simp [ha,AV.cells,AV.fine,AV.one,iA];omega))))|(with_reducible first|refine ObT.tt ?_|refine ObT.ff ?_)|((with_reducible refine ObB.yes ?_ ?_);exact zB)|(with_reducible refine ObB.mk (fun h=>?_) (fun h=>?_))|((with_reducible refine ObEq.i ?_);exact zF))
theorem kz_map (a:List Int):∀ n,n≤a.length→kz (a.take n)=(ps a n).map fun i=>a.getD i 0
  | 0,_=>by simp [kz,ps]
  | n+1,h=>by
    rw [kz_succ a n (by omega),ps_succ,List.map_append,kz_map a n (by omega)]
    congr 1
    split<;>simp
def fl (a:List Int) (j:Nat):List Int:=(List.range 32).map fun q=>if q ∈ (ps a 32).take j then a.getD q 0 else 0
theorem fl_len (a:List Int) (j:Nat):(fl a j).length=32:=by simp [fl]
theorem fl_zero (a:List Int):fl a 0=List.replicate 32 0:=by
  unfold fl
  rw [List.take_zero]
  simp [List.map_const']
theorem fl_all (a:List Int) (ha:a.length=32):fl a (ps a 32).length=a:=by
  apply List.ext_getElem
  · rw [fl_len,ha]
  · intro q h1 h2
    have hq:q < 32:=by rw [fl_len] at h1;exact h1
    simp only [fl,List.take_length,List.getElem_map,List.getElem_range]
    by_cases h:a.getD q 0=0
    · rw [if_neg (fun hm=>(mem_ps.1 hm).2 h)]
      have:a.getD q 0=a[q]:=by simp [h2]
      rw [← this,h]
    · rw [if_pos (mem_ps.2 ⟨hq,h⟩)];simp [h2]
theorem fl_succ (a:List Int) (j:Nat) (hj:j < (ps a 32).length):(fl a j).set (ps a 32)[j] (a.getD (ps a 32)[j] 0)=fl a (j+1):=by
  have hp:=mem_ps.1 (List.getElem_mem hj)
  apply List.ext_getElem
  · simp [fl]
  · intro q h1 h2
    have hq:q < 32:=by rw [fl_len] at h2;exact h2
    rw [List.getElem_set]
    simp only [fl,List.getElem_map,List.getElem_range,List.take_succ_eq_append_getElem hj,List.mem_append,List.mem_singleton]
    by_cases e:(ps a 32)[j]=q
    · rw [if_pos e,if_pos (.inr e.symm),e]
    · rw [if_neg e]
      by_cases h:q ∈ (ps a 32).take j
      · rw [if_pos h,if_pos (.inl h)]
      · rw [if_neg h,if_neg (fun hh=>hh.elim h (fun h'=>e h'.symm))]
theorem upI_ps (a:List Int):upI (bm a) 32=(ps a 32).map Int.ofNat:=by unfold upI;rw [up_ps a 32 (Nat.le_refl _)]
abbrev z32:List Int:=[0,0,0,0,0,0,0,0,0,0,0,0,0,0,0,0,0,0,0,0,0,0,0,0,0,0,0,0,0,0,0,0]
theorem fl_z (a:List Int):fl a 0=z32:=by rw [fl_zero];rfl
set_option maxHeartbeats 4000000 in
theorem of7 (a:List Int) (sz bi:Int) (ha:a.length=32) (h21:PC Try.prog G 42 [nB a sz bi] (I 0)):PC Try.prog G 38 [nB a sz bi] (bV a sz bi):=by
  have h22:=all46 G (bm a) (bm_lt a)
  rw [upI_ps] at h22
  have hl32:(ps a 32).length≤32:=by have:=List.length_filter_le (fun i=>decide (a.getD i 0 ≠ 0)) (List.range 32);simpa [ps] using this
  have hkm:kz a=(ps a 32).map fun i=>a.getD i 0:=by have:=kz_map a 32 (by omega);rwa [List.take_of_length_le (by omega)] at this
  have hkl:(kz a).length=(ps a 32).length:=by rw [hkm,List.length_map]
  refine pc_ofV cop38 ?_
  repeat' ((conv=>whnf);first|(with_reducible refine SeqP.go ?_)|((with_reducible refine ObD.mk ?_ ?_);exact zD)|((with_reducible refine ObN.mk ?_ ?_);exact zN)|(with_reducible refine ObT.ff ?_)|((with_reducible refine ObB.yes ?_ ?_);exact zB)|((with_reducible refine (?_:ObU _ _));(refine ObU.mk _ zU ?_))|((with_reducible refine (?_:ObR _ _ _));(first|(refine ObR.mk _ (by first|assumption|with_reducible rfl) ?_)|(refine ObR.map zX (fun x hx=>?_))|(refine ObR.mk _ rfl ?_)))|((with_reducible refine ObC.f 42 ?_);(first|(with_reducible refine ObC.mk _ (h21) ?_)|(refine ObC.mk _ (h21) ?_)))|((with_reducible refine ObC.f 56 ?_);(first|(with_reducible refine ObC.mk _ (h22) ?_)|(refine ObC.mk _ (h22) ?_))))
  conv=>whnf
  refine LoopP.go (α:=Nat) (fun j=>j≤(ps a 32).length) (fun j=>(ps a 32).length - j) (fun j=>[(5,some (I j)),(13,none),(0,none),(0,none),(0,none),(0,none),(0,none),(0,none),(0,none),(0,none),(0,none),(0,none),(0,none),(0,none),(0,none),(0,none),(0,none),(0,none)]) (fun j=>[⟨41,9,[nB a sz bi],0,0⟩,⟨75,34,[.agg (bC z32 0 0)],0,0⟩,⟨75,34,[.agg (bC (fl a j) 0 0)],0,0⟩]) 0 (Nat.zero_le _) (Fg.go ?_ ?_) ?_
  · repeat' ((conv=>whnf);first|((with_reducible refine ObEqs.mk ?_ ?_);rfl)|((with_reducible refine ObEq1.i ?_ ?_);exact zF)|exact True.intro)
  · rw [fl_z];rfl
  intro j hj
  have hfl:=fl_len a j
  have hlm:(List.map Int.ofNat (ps a 32)).length=(ps a 32).length:=List.length_map _
  by_cases hlt:j < (ps a 32).length
  · have hp := mem_ps.1 (List.getElem_mem hlt)
    have hs:=fl_succ a j hlt
    have e1:(((ps a 32).map Int.ofNat).map iA)[j]? = some (I ((ps a 32)[j]:Nat)):=by simp [hlt,iA]
    have e2:((kz a).map iA)[j]? = some (I (a.getD (ps a 32)[j] 0)):=by rw [hkm];simp [hlt,iA]
    have hset:=bC_set (a:=fl a j) (sz:=0) (bi:=0) hfl hp.1 (z:=a.getD (ps a 32)[j] 0)
    rw [hs] at hset
    generalize (ps a 32)[j]=q at *
    generalize a.getD q 0=x at *
    have ha':=ha
    repeat' ((conv=>whnf);first|(with_reducible refine SeqP.go ?_)|((with_reducible refine (?_:pK _ _ _ _));(refine pK_to q ?_ _ hset ?_);omega)|((with_reducible refine ObD.mk ?_ ?_);(focus (simp [hfl,AV.cells,AV.fine,AV.one,iA];omega)))|((with_reducible refine ObD.mk ?_ ?_);(focus (first|rfl|(simp [hfl,AV.cells,AV.fine,AV.one,iA];done))))|((with_reducible refine ObN.mk ?_ ?_);(focus (first|rfl|assumption|omega|(simp only [List.length_map,List.length_append,List.length_cons,List.length_nil,hfl,AV.cells,AV.fine,AV.one,iA];omega)|(simp [hfl,AV.cells,AV.fine,AV.one,iA];done)|(simp [hfl,AV.cells,AV.fine,AV.one,iA];omega))))|(with_reducible refine ObT.tt ?_)|((with_reducible refine ObB.yes ?_ ?_);exact zB)|((with_reducible refine ObI.nl ?_ ?_);omega)|((with_reducible refine ObX.mk _ rfl ?_ ?_);(focus (first|omega|assumption|(simp only [List.length_map,List.length_append,List.length_cons,List.length_nil,List.length_take,List.length_drop,List.length_set,List.length_replicate,hfl,AV.cells,AV.fine,AV.one,iA];omega))))|((with_reducible refine (?_:ObL _ _));(refine ObL.mk _ zM ?_))|((with_reducible refine (?_:ObU _ _));(refine ObU.mk _ (by first|assumption|((conv=>lhs;simp only [List.set_cons_zero,List.set_cons_succ,List.take_succ_cons,List.take_zero,List.drop_succ_cons,List.drop_zero,List.nil_append,List.cons_append,List.append_nil,List.take_nil,List.drop_nil,hfl,AV.cells,AV.fine,AV.one,iA]);try rfl)|rfl) ?_))|((with_reducible refine (?_:ObR _ _ _));(first|(refine ObR.mk _ (by first|assumption|with_reducible rfl) ?_)|(refine ObR.map (by (first|omega|assumption|(simp only [List.length_map,List.length_append,List.length_cons,List.length_nil,List.length_take,List.length_drop,List.length_set,List.length_replicate,hfl,AV.cells,AV.fine,AV.one,iA];omega))) (fun x hx=>?_))|(refine ObR.mk _ rfl ?_))))
    conv=>whnf
    refine Again.mk (j+1) ?_ ?_ (Fg.go ?_ rfl)
    · omega
    · omega
    repeat' ((conv=>whnf);first|((with_reducible refine ObEqs.mk ?_ ?_);rfl)|((with_reducible refine ObEq1.i ?_ ?_);exact zF)|exact True.intro)
  · obtain rfl : j = (ps a 32).length := by omega
    rw [fl_all a ha]
    clear hfl
    repeat' ((conv=>whnf);first|(with_reducible refine SeqP.go ?_)|exact SameP.mk rfl rfl|(with_reducible first|refine ObAnd.mk ?_ ?_|refine ObDx.same ?_)|((with_reducible refine (?_:pK _ _ _ _));(refine pK_to 32 ?_ _ (bC_s32 (by first|exact ha|simp [ha])) ?_);rfl)|((with_reducible refine (?_:pK _ _ _ _));(refine pK_to 33 ?_ _ (bC_s33 (by first|exact ha|simp [ha])) ?_);rfl)|((with_reducible refine (?_:oK _ _ _ _));(refine oK_all (by simp [ha,AV.cells]) ?_))|((with_reducible refine (?_:fzL _ _ _));(refine fzL_p bC_c0 ?_))|((with_reducible refine ObD.mk ?_ ?_);(focus (simp only [bC_cl,bC_fine,List.length_set,ha];rfl)))|((with_reducible refine ObD.mk ?_ ?_);(focus (first|rfl|(simp [ha,AV.cells,AV.fine,AV.one,iA];done))))|((with_reducible refine ObN.mk ?_ ?_);(focus (first|rfl|assumption|omega|(simp only [List.length_map,List.length_append,List.length_cons,List.length_nil,ha,AV.cells,AV.fine,AV.one,iA];omega)|(simp [ha,AV.cells,AV.fine,AV.one,iA];done)|(simp [ha,AV.cells,AV.fine,AV.one,iA];omega))))|(with_reducible refine ObT.ff ?_)|((with_reducible refine ObB.no ?_ ?_);exact zC)|((with_reducible refine (?_:ObL _ _));(refine ObL.mk _ (by first|exact ((List.length_map _).trans (List.length_map _))|assumption|exact (List.length_map _).trans (by assumption)|exact List.length_map _|rfl) ?_))|((with_reducible refine (?_:ObU _ _));(refine ObU.mk _ (by first|assumption|((conv=>lhs;simp only [List.set_cons_zero,List.set_cons_succ,List.take_succ_cons,List.take_zero,List.drop_succ_cons,List.drop_zero,List.nil_append,List.cons_append,List.append_nil,List.take_nil,List.drop_nil,ha,AV.cells,AV.fine,AV.one,iA]);try rfl)|rfl) ?_))|((with_reducible refine (?_:ObR _ _ _));(first|(refine ObR.mk _ (by first|assumption|with_reducible rfl) ?_)|(refine ObR.map (by (first|omega|assumption|(simp only [List.length_map,List.length_append,List.length_cons,List.length_nil,List.length_take,List.length_drop,List.length_set,List.length_replicate,ha,AV.cells,AV.fine,AV.one,iA];omega))) (fun x hx=>?_))|(refine ObR.mk _ rfl ?_)))|((with_reducible refine ObEq.mk ?_);exact zE))
theorem asBr23 (a:List Int) (sz bi:Int) (ha:a.length=32) (h18:PC Try.prog G 60 [nB a sz bi] (I 0)):PC Try.prog G 43 [nB a sz bi] (nB a sz bi):=by
  have hk:=kz_len a
  have h40:=copyN G 2 (ByteArray.mk #[]) (ByteArray.mk #[]) (bm a:Int) (kz a) 0 [] sz bi (by omega) (by simp)
  refine pc_ofV cop43 ?_
  repeat' ((conv=>whnf);first|(with_reducible refine SeqP.go ?_)|((with_reducible refine ObD.mk ?_ ?_);exact zD)|((with_reducible refine ObN.mk ?_ ?_);exact zN)|(with_reducible refine ObT.ff ?_)|((with_reducible refine ObB.yes ?_ ?_);exact zB)|((with_reducible refine (?_:ObU _ _));(refine ObU.mk _ zU ?_))|((with_reducible refine (?_:ObR _ _ _));(first|(refine ObR.mk _ (by first|assumption|with_reducible rfl) ?_)|(refine ObR.map zX (fun x hx=>?_))|(refine ObR.mk _ rfl ?_)))|((with_reducible refine ObC.f 60 ?_);(first|(with_reducible refine ObC.mk _ (h18) ?_)|(refine ObC.mk _ (h18) ?_)))|((with_reducible refine ObC.f 62 ?_);(first|(with_reducible refine ObC.mk _ (h40) ?_)|(refine ObC.mk _ (h40) ?_)))|((with_reducible refine ObEq.mk ?_);exact zE))
end
end Go.Proofs.Ytefkaglgekjlfaa.Sim
namespace Go.Proofs.Ytefkaglgekjlfaa.Sim
open Go.RowKit
set_option maxRecDepth 100000
set_option linter.unusedSectionVars false
section
variable (G:Nat→AV)
theorem form2 (ke va:ByteArray) (mp:Nat) (kk:List Int) (mn:Int) (ls:List Pr) (sz bi:Int) (hm:mp < 4294967296) (h:FormP 2 ke va mp kk mn ls sz bi):nV 2 ke va (mp:Int) kk mn ls sz bi=nB (arr mp kk) sz bi:=by
  obtain ⟨_,hf⟩:=h
  obtain ⟨h0,hl,hz,hb⟩:¬ (0:Int) ∈ kk∧((kk.length:Nat):Int)=((upI mp 32).length:Nat)∧0≤sz∧BareP ke va mp kk mn ls true false true true:=by
    rcases hf with ⟨h,_⟩|⟨_,h1,h2,h3,h4⟩|⟨h,_⟩|⟨h,_⟩|⟨h,_⟩
    · omega
    · exact ⟨h1,h2,h3,h4⟩
    all_goals omega
  obtain ⟨hb1,_,hb3,hb4⟩:=hb
  obtain ⟨rfl,rfl⟩:=hb1 rfl
  obtain rfl:mn=0:=hb3 rfl
  obtain rfl:ls=[]:=lenZ.1 (hb4 rfl)
  have hkl:kk.length=(Mk.all mp).length:=by
    have:(upI mp 32).length=(Mk.all mp).length:=by unfold upI;rw [List.length_map];rfl
    omega
  unfold nB
  rw [← arr_bm hm hkl h0,← arr_kz hm hkl h0]
variable {kn:Int} {ke va:ByteArray} {mp:Nat} {kk:List Int} {mn:Int} {ls:List Pr} {sz bi:Int} {a:List Int} {s b:Int} (ha:a.length=32) (h23:PC Try.prog G 43 [nV kn ke va (mp:Int) kk mn ls sz bi] (nB a s b))
include ha h23
theorem child10 (i:Int) (hi:i64 i):PC Try.prog G 28 [nV kn ke va (mp:Int) kk mn ls sz bi,I i] (I (chI a i)):=by
  have h25:=has25 G (bm a) i (bm_lt a) hi
  rw [has_bm] at h25
  by_cases h:0≤i∧i < 32∧a.getD i.toNat 0 ≠ 0
  · rw [decide_eq_true h] at h25
    obtain ⟨n,rfl⟩:=Int.eq_ofNat_of_zero_le h.1
    have hn:n < 32:=by omega
    have h26:=place26 G (bm a) n (bm_lt a) hi
    rw [place_bm a n ha (by omega)] at h26
    have e:=kz_at a n (by omega) (by have:=h.2.2;rwa [Int.toNat_natCast] at this)
    have e':((kz a).map iA)[(kz (a.take n)).length]? = some (I (a.getD n 0)):=by rw [List.getElem?_map,e];rfl
    have hlt:(kz (a.take n)).length < (kz a).length:=(List.getElem?_eq_some_iff.1 e).1
    have hc:chI a n=a.getD n 0:=by unfold chI;rw [if_pos ⟨by omega,by omega⟩,Int.toNat_natCast]
    rw [hc]
    clear h hc hi e
    refine pc_ofV cop28 ?_
    repeat' ((conv=>whnf);first|(with_reducible refine SeqP.go ?_)|((with_reducible refine ObD.mk ?_ ?_);exact zD)|((with_reducible refine ObN.mk ?_ ?_);exact zN)|(with_reducible first|refine ObT.tt ?_|refine ObT.ff ?_)|((with_reducible refine ObX.mk _ rfl ?_ ?_);exact zX)|((with_reducible refine (?_:ObU _ _));(refine ObU.mk _ zU ?_))|((with_reducible refine (?_:ObR _ _ _));(first|(refine ObR.mk _ (by assumption) ?_)|(refine ObR.mk _ (by exact e') ?_)|(refine ObR.mk _ (by with_reducible rfl) ?_)|(refine ObR.map zX (fun x hx=>?_))|(refine ObR.mk _ rfl ?_)))|((with_reducible refine ObC.f 43 ?_);(first|(with_reducible refine ObC.mk _ (h23) ?_)|(refine ObC.mk _ (h23) ?_)))|((with_reducible refine ObC.f 44 ?_);(first|(with_reducible refine ObC.mk _ (h25) ?_)|(refine ObC.mk _ (h25) ?_)))|((with_reducible refine ObC.f 45 ?_);(first|(with_reducible refine ObC.mk _ (h26) ?_)|(refine ObC.mk _ (h26) ?_)))|((with_reducible refine ObEq.i ?_);exact zF))
  · rw [decide_eq_false h] at h25
    have hc:chI a i=0:=by
      unfold chI
      split
      · rename_i h'
        exact Classical.not_not.1 fun hx=>h ⟨h'.1,h'.2,hx⟩
      · rfl
    rw [hc]
    clear h
    refine pc_ofV cop28 ?_
    repeat' ((conv=>whnf);first|(with_reducible refine SeqP.go ?_)|((with_reducible refine ObD.mk ?_ ?_);exact zD)|((with_reducible refine ObN.mk ?_ ?_);exact zN)|(with_reducible first|refine ObT.tt ?_|refine ObT.ff ?_)|((with_reducible refine (?_:ObU _ _));(refine ObU.mk _ zU ?_))|((with_reducible refine (?_:ObR _ _ _));(first|(refine ObR.mk _ (by first|assumption|with_reducible rfl) ?_)|(refine ObR.map zX (fun x hx=>?_))|(refine ObR.mk _ rfl ?_)))|((with_reducible refine ObC.f 43 ?_);(first|(with_reducible refine ObC.mk _ (h23) ?_)|(refine ObC.mk _ (h23) ?_)))|((with_reducible refine ObC.f 44 ?_);(first|(with_reducible refine ObC.mk _ (h25) ?_)|(refine ObC.mk _ (h25) ?_)))|((with_reducible refine ObEq.i ?_);exact zF))
end
end Go.Proofs.Ytefkaglgekjlfaa.Sim
namespace Go.Proofs.Ytefkaglgekjlfaa.Sim
open Go.RowKit
set_option maxRecDepth 100000
noncomputable def okI (i:Nat) (x:Nd):Bool:=decide (mayV x=0) && (rfN x).all fun r=>decide (-1 - r < (i:Int))
noncomputable def aI (l:List Nd) (k:Nat):Bool:=(List.range k).all fun i=>match l[i]? with|some x=>okI i x|none=>true
noncomputable def okP (l:List Nd) (rt:Int) (od:List Int):Bool:=(od.all fun r=>decide (0 < r)) && aI l l.length && decide (-1 - rt < (l.length:Int))
theorem rf_i64 {x:Nd} (h:x.Ok):∀ r ∈ rfN x,i64 r:=fun r hr=>by
  simp only [rfN,List.mem_filter,List.mem_append,List.mem_singleton] at hr
  rcases hr.1 with h1|h1
  · exact h.ks r h1
  · rw [h1];exact h.mn
theorem rf_len {x:Nd} (h:x.Ok):(rfN x).length≤41:=by
  have h1:=List.length_filter_le (fun r:Int=>decide (r ≠ 0)) (x.kk++[x.mn])
  have h2:=h.kk
  rw [List.length_append] at h1
  unfold rfN
  simp only [List.length_cons,List.length_nil] at h1
  omega
section
variable (G:Nat→AV)
end
end Go.Proofs.Ytefkaglgekjlfaa.Sim
namespace Go.Proofs.Ytefkaglgekjlfaa.Sim
open Go.RowKit
set_option maxRecDepth 100000
section
variable (G:Nat→AV)
end
end Go.Proofs.Ytefkaglgekjlfaa.Sim
namespace Go.Proofs.Ytefkaglgekjlfaa.Sim
open Go.RowKit
set_option maxRecDepth 100000
structure Nd.Wd (x:Nd):Prop where
  mp:x.mp < 4294967296
  ke:x.ke.size≤9223372036854775807
  va:x.va.size≤9223372036854775807
  kk:x.kk.length≤9223372036854775807
  ls:x.ls.length≤9223372036854775807
  sz:∀ p ∈ x.ls,p.1.size≤9223372036854775807∧p.2.size≤9223372036854775807
  mn:i64 x.mn
  ks:∀ r ∈ x.kk,i64 r
section
variable (G:Nat→AV)
end
theorem Nd.Ok.wd {x:Nd} (h:x.Ok):x.Wd:=⟨h.mp,by have:=h.ke;omega,by have:=h.va;omega,by have:=h.kk;omega,by have:=h.ls;omega,fun p hp=>by have:=h.sz p hp;omega,h.mn,h.ks⟩
theorem nr_n (l:List Nd):(l.map nA).all nrB=true:=by simp [nrB,AV.cells]
theorem p_n (l:List Nd):(l.map nA).all AV.isP=true:=by simp [AV.isP,AV.isC,AV.isC0]
theorem n_snoc {l:List Nd} {x:Nd}:(l.map nA).take l.length++[nA x]=(l++[x]).map nA:=by
  rw [List.take_of_length_le (by simp)];simp
theorem n_all {l:List Nd}:(l.map nA).take l.length=l.map nA:=List.take_of_length_le (by simp)
section
variable (G:Nat→AV)
end
end Go.Proofs.Ytefkaglgekjlfaa.Sim
namespace Go.Proofs.Ytefkaglgekjlfaa.Sim
open Go.RowKit
set_option maxRecDepth 100000
def hR (i:Nat) (r:Int):Bool:=decide (1≤r) && decide (r≤(i:Int))
noncomputable def okH (i:Nat) (x:Nd):Bool:=decide (mayV x=0) && (rfN x).all (hR i)
noncomputable def aH (l:List Nd) (k:Nat):Bool:=(List.range k).all fun i=>match l[i]? with|some x=>okH i x|none=>true
theorem aH_succ {l:List Nd} {k:Nat} (h:k < l.length):aH l (k+1)=(aH l k && okH k l[k]):=by
  simp [aH,List.range_succ,List.getElem?_eq_getElem h]
theorem aH_no {l:List Nd} {k n:Nat} (h:k < l.length) (hn:k < n) (h0:okH k l[k]=false):aH l n=false:=by
  rw [aH,List.all_eq_false]
  exact ⟨k,List.mem_range.2 hn,by simp [List.getElem?_eq_getElem h,h0]⟩
theorem hR_yes {i:Nat} {r:Int} (h1:1≤r) (h2:r≤(i:Int)):hR i r=true:=by simp [hR,h1,h2]
theorem hR_no1 {i:Nat} {r:Int} (h1:r < 1):hR i r=false:=by rw [hR,decide_eq_false (by omega),Bool.false_and]
theorem hR_no2 {i:Nat} {r:Int} (h1:(i:Int) < r):hR i r=false:=by rw [hR,decide_eq_false (p:=r≤(i:Int)) (by omega),Bool.and_false]
section
variable (G:Nat→AV)
set_option maxHeartbeats 4000000 in
theorem may36 (l:List Nd) (hl:l.length≤1000) (hx:∀ x ∈ l,x.Ok) (c:Bool) (hc:c=aH l l.length):PC Try.prog G 55 [.sl 9 (l.map nA)] (I (eo c)):=by
  refine pc_ofV cop55 ?_
  repeat' ((conv=>whnf);first|(with_reducible refine SeqP.go ?_)|((with_reducible refine (?_:ObL _ _));(refine ObL.mk _ zM ?_)))
  conv=>whnf
  refine LoopP.go (α:=Nat) (fun i=>i≤l.length∧aH l i=true) (fun i=>l.length - i) (fun i=>[(2,some (I 0)),(0,none),(0,none),(1,none),(2,some (I i)),(0,none),(0,none),(0,none),(0,none),(0,none),(0,none),(0,none),(0,none),(0,none),(0,none),(0,none),(0,none),(0,none),(0,none),(0,none),(0,none),(0,none),(0,none),(0,none),(0,none),(0,none),(0,none),(0,none)]) (fun _=>[]) 0 ⟨Nat.zero_le _,rfl⟩ (Fg.go ?_ rfl) ?_
  · repeat' ((conv=>whnf);first|((with_reducible refine ObEqs.mk ?_ ?_);rfl)|((with_reducible refine ObEq1.i ?_ ?_);exact zF)|exact True.intro)
  rintro i ⟨hi,hai⟩
  by_cases hil:i < l.length
  · have hq := nA_at hil
    have hxo:=hx _ (List.getElem_mem hil)
    have hs:=aH_succ hil
    have hno:=aH_no hil hil
    have hm:=may29 G l[i] hxo
    have hrf:=refs30 G l[i] hxo
    have hri:=rf_i64 hxo
    have hrl:=rf_len hxo
    rw [hai,Bool.true_and] at hs
    generalize l[i]=x at *
    by_cases hmz:mayV x=0
    · rw [hmz] at hm
      repeat' ((conv=>whnf);first|(with_reducible refine SeqP.go ?_)|((with_reducible refine ObD.mk ?_ ?_);exact zD)|((with_reducible refine ObN.mk ?_ ?_);exact zN)|(with_reducible first|refine ObT.tt ?_|refine ObT.ff ?_)|((with_reducible refine ObB.yes ?_ ?_);exact zB)|((with_reducible refine ObX.mk _ rfl ?_ ?_);exact zX)|((with_reducible refine (?_:ObL _ _));(refine ObL.mk _ zM ?_))|((with_reducible refine (?_:ObU _ _));(refine ObU.mk _ zU ?_))|((with_reducible refine (?_:ObR _ _ _));(first|(refine ObR.mk _ (by first|assumption|with_reducible rfl) ?_)|(refine ObR.map zX (fun x hx=>?_))|(refine ObR.mk _ rfl ?_)))|((with_reducible refine ObC.f 60 ?_);(first|(with_reducible refine ObC.mk _ (hm) ?_)|(refine ObC.mk _ (hm) ?_)))|((with_reducible refine ObC.f 70 ?_);(first|(with_reducible refine ObC.mk _ (hrf) ?_)|(refine ObC.mk _ (hrf) ?_))))
      conv=>whnf
      refine LoopP.go (α:=Nat) (fun k=>k≤(rfN x).length∧((rfN x).take k).all (hR i)=true) (fun k=>(rfN x).length - k) (fun k=>[(2,some (I 0)),(1,none),(1,none),(13,some (I k)),(0,none),(0,none),(0,none),(0,none),(0,none),(0,none),(0,none),(0,none),(0,none),(0,none),(0,none)]) (fun _=>[]) 0 ⟨Nat.zero_le _,rfl⟩ (Fg.vw [] (by repeat' ((conv=>whnf);first|((with_reducible refine ObRn.mk ?_ ?_);(focus (first|rfl|(simp [rnB,rnC,rnL];done))))|((with_reducible refine ObEqs.mk ?_ ?_);rfl)|exact True.intro)) (by repeat' ((conv=>whnf);first|exact True.intro)) (by simp) (by repeat' ((conv=>whnf);first|exact True.intro))) ?_
      rintro k ⟨hk,hk0⟩
      by_cases hkr:k < (rfN x).length
      · have hq2 := iA_at' hkr
        have hr2:=hri _ (List.getElem_mem hkr)
        by_cases hz1:(rfN x)[k] < 1
        · have h1 := all_no (p := hR i) hkr (hR_no1 hz1)
          obtain rfl:c=false:=by rw [hc,hno (by rw [okH,h1,Bool.and_false])]
          simp only [eo]
          repeat' ((conv=>whnf);first|(with_reducible refine SeqP.go ?_)|((with_reducible refine ObN.mk ?_ ?_);exact zN)|(with_reducible refine ObT.tt ?_)|((with_reducible refine ObB.yes ?_ ?_);exact zB)|((with_reducible refine ObX.mk _ rfl ?_ ?_);exact zX)|((with_reducible refine (?_:ObR _ _ _));(first|(refine ObR.mk _ (by first|assumption|with_reducible rfl) ?_)|(refine ObR.map zX (fun x hx=>?_))|(refine ObR.mk _ rfl ?_)))|((with_reducible refine ObEq.i ?_);exact zF))
        by_cases hz:(i:Int) < (rfN x)[k]
        · have h1 := all_no (p := hR i) hkr (hR_no2 hz)
          obtain rfl:c=false:=by rw [hc,hno (by rw [okH,h1,Bool.and_false])]
          simp only [eo]
          repeat' ((conv=>whnf);first|(with_reducible refine SeqP.go ?_)|((with_reducible refine ObN.mk ?_ ?_);exact zN)|(with_reducible first|refine ObT.tt ?_|refine ObT.ff ?_)|((with_reducible refine ObB.yes ?_ ?_);exact zB)|((with_reducible refine ObB.no ?_ ?_);exact zC)|((with_reducible refine ObX.mk _ rfl ?_ ?_);exact zX)|((with_reducible refine (?_:ObR _ _ _));(first|(refine ObR.mk _ (by first|assumption|with_reducible rfl) ?_)|(refine ObR.map zX (fun x hx=>?_))|(refine ObR.mk _ rfl ?_)))|((with_reducible refine ObEq.i ?_);exact zF))
        · have h1 := all_tk (p := hR i) hkr hk0 (hR_yes (by omega) (by omega))
          repeat' ((conv=>whnf);first|(with_reducible refine SeqP.go ?_)|((with_reducible refine ObN.mk ?_ ?_);exact zN)|(with_reducible first|refine ObT.tt ?_|refine ObT.ff ?_)|((with_reducible refine ObB.yes ?_ ?_);exact zB)|((with_reducible refine ObB.no ?_ ?_);exact zC)|((with_reducible refine ObI.nl ?_ ?_);omega)|((with_reducible refine ObX.mk _ rfl ?_ ?_);exact zX)|((with_reducible refine (?_:ObR _ _ _));(first|(refine ObR.mk _ (by first|assumption|with_reducible rfl) ?_)|(refine ObR.map zX (fun x hx=>?_))|(refine ObR.mk _ rfl ?_))))
          conv=>whnf
          refine Again.mk (k+1) ⟨by omega,h1⟩ ?_ (Fg.go ?_ rfl)
          · omega
          repeat' ((conv=>whnf);first|((with_reducible refine ObEqs.mk ?_ ?_);rfl)|((with_reducible refine ObEq1.i ?_ ?_);exact zF)|exact True.intro)
      · obtain rfl : k = (rfN x).length := by omega
        rw [List.take_length] at hk0
        have h2:okH i x=true:=by rw [okH,hk0,hmz];rfl
        repeat' ((conv=>whnf);first|(with_reducible refine SeqP.go ?_)|((with_reducible refine ObN.mk ?_ ?_);exact zN)|(with_reducible refine ObT.ff ?_)|((with_reducible refine ObB.no ?_ ?_);exact zC)|((with_reducible refine ObI.nl ?_ ?_);omega))
        conv=>whnf
        refine Again.mk (i+1) ⟨by omega,by rw [hs,h2]⟩ ?_ (Fg.go ?_ rfl)
        · omega
        repeat' ((conv=>whnf);first|((with_reducible refine ObEqs.mk ?_ ?_);rfl)|((with_reducible refine ObEq1.i ?_ ?_);exact zF)|exact True.intro)
    · obtain rfl : c = false := by rw [hc, hno (by rw [okH, decide_eq_false hmz, Bool.false_and])]
      simp only [eo]
      repeat' ((conv=>whnf);first|(with_reducible refine SeqP.go ?_)|((with_reducible refine ObD.mk ?_ ?_);exact zD)|((with_reducible refine ObN.mk ?_ ?_);exact zN)|(with_reducible refine ObT.tt ?_)|((with_reducible refine ObB.yes ?_ ?_);exact zB)|((with_reducible refine ObB.no ?_ ?_);exact zC)|((with_reducible refine ObX.mk _ rfl ?_ ?_);exact zX)|((with_reducible refine (?_:ObU _ _));(refine ObU.mk _ zU ?_))|((with_reducible refine (?_:ObR _ _ _));(first|(refine ObR.mk _ (by first|assumption|with_reducible rfl) ?_)|(refine ObR.map zX (fun x hx=>?_))|(refine ObR.mk _ rfl ?_)))|((with_reducible refine ObC.f 60 ?_);(first|(with_reducible refine ObC.mk _ (hm) ?_)|(refine ObC.mk _ (hm) ?_)))|((with_reducible refine ObEq.i ?_);exact zF))
  obtain rfl:i=l.length:=by omega
  obtain rfl:c=true:=by rw [hc,hai]
  simp only [eo]
  repeat' ((conv=>whnf);first|(with_reducible refine SeqP.go ?_)|((with_reducible refine ObN.mk ?_ ?_);exact zN)|(with_reducible refine ObT.ff ?_)|((with_reducible refine ObB.no ?_ ?_);exact zC)|((with_reducible refine ObEq.i ?_);exact zF))
end
section
variable (G:Nat→AV)
end
end Go.Proofs.Ytefkaglgekjlfaa.Sim
namespace Go.Proofs.Ytefkaglgekjlfaa.Sim
open Go.RowKit
set_option maxRecDepth 100000
def ow (x:Nd):List Pr:=if x.kn=1∨x.kn=4∨x.kn=6 then [(x.ke,x.va)] else if x.kn=3 then x.ls else []
section
variable (G:Nat→AV)
set_option maxHeartbeats 1000000 in
theorem bnd23 (x:Nd) (h:x.Ok):PC Try.prog G 32 [nA x] (.sl 2 ((ow x).map pA)):=by
  obtain ⟨kn,ke,va,mp,kk,mn,ls,sz,bi⟩:=x
  have hls:ls.length≤40:=h.ls
  clear h
  unfold ow
  dsimp only
  have hc:=copy38 G ls hls
  by_cases h1:kn=1∨kn=4∨kn=6
  · rw [if_pos h1]
    show PC Try.prog G 32 _ (.sl 2 [.agg [S ke,S va]])
    rcases h1 with rfl|rfl|rfl<;>refine pc_ofV cop32 ?_
    · repeat' ((conv=>whnf);first|(with_reducible refine SeqP.go ?_)|((with_reducible refine ObD.mk ?_ ?_);exact zD)|((with_reducible refine ObN.mk ?_ ?_);exact zN)|(with_reducible refine ObT.tt ?_)|((with_reducible refine ObB.yes ?_ ?_);exact zB)|((with_reducible refine (?_:ObU _ _));(refine ObU.mk _ zU ?_))|((with_reducible refine (?_:ObR _ _ _));(first|(refine ObR.mk _ (by first|assumption|with_reducible rfl) ?_)|(refine ObR.map zX (fun x hx=>?_))|(refine ObR.mk _ rfl ?_)))|((with_reducible refine ObEq.mk ?_);exact zE))
    · repeat' ((conv=>whnf);first|(with_reducible refine SeqP.go ?_)|((with_reducible refine ObD.mk ?_ ?_);exact zD)|((with_reducible refine ObN.mk ?_ ?_);exact zN)|(with_reducible first|refine ObT.tt ?_|refine ObT.ff ?_)|((with_reducible refine ObB.yes ?_ ?_);exact zB)|(with_reducible refine ObB.mk (fun h=>?_) (fun h=>?_))|((with_reducible refine (?_:ObU _ _));(refine ObU.mk _ zU ?_))|((with_reducible refine (?_:ObR _ _ _));(first|(refine ObR.mk _ (by first|assumption|with_reducible rfl) ?_)|(refine ObR.map zX (fun x hx=>?_))|(refine ObR.mk _ rfl ?_)))|((with_reducible refine ObEq.mk ?_);exact zE))
    · repeat' ((conv=>whnf);first|(with_reducible refine SeqP.go ?_)|((with_reducible refine ObD.mk ?_ ?_);exact zD)|((with_reducible refine ObN.mk ?_ ?_);exact zN)|(with_reducible first|refine ObT.tt ?_|refine ObT.ff ?_)|((with_reducible refine ObB.yes ?_ ?_);exact zB)|(with_reducible refine ObB.mk (fun h=>?_) (fun h=>?_))|((with_reducible refine (?_:ObU _ _));(refine ObU.mk _ zU ?_))|((with_reducible refine (?_:ObR _ _ _));(first|(refine ObR.mk _ (by first|assumption|with_reducible rfl) ?_)|(refine ObR.map zX (fun x hx=>?_))|(refine ObR.mk _ rfl ?_)))|((with_reducible refine ObEq.mk ?_);exact zE))
  · rw [if_neg h1]
    have a1:¬ kn=1:=fun e=>h1 (.inl e)
    have a4:¬ kn=4:=fun e=>h1 (.inr (.inl e))
    have a6:¬ kn=6:=fun e=>h1 (.inr (.inr e))
    clear h1
    by_cases h3:kn=3
    · subst h3
      rw [if_pos rfl]
      refine pc_ofV cop32 ?_
      repeat' ((conv=>whnf);first|(with_reducible refine SeqP.go ?_)|((with_reducible refine ObD.mk ?_ ?_);exact zD)|((with_reducible refine ObN.mk ?_ ?_);exact zN)|(with_reducible first|refine ObT.tt ?_|refine ObT.ff ?_)|((with_reducible refine ObB.yes ?_ ?_);exact zB)|((with_reducible refine ObB.no ?_ ?_);exact zC)|((with_reducible refine (?_:ObR _ _ _));(first|(refine ObR.mk _ (by first|assumption|with_reducible rfl) ?_)|(refine ObR.map zX (fun x hx=>?_))|(refine ObR.mk _ rfl ?_)))|((with_reducible refine ObC.f 49 ?_);(first|(with_reducible refine ObC.mk _ (hc) ?_)|(refine ObC.mk _ (hc) ?_)))|((with_reducible refine ObEq.mk ?_);exact zE))
    · rw [if_neg h3]
      refine pc_ofV cop32 ?_
      repeat' ((conv=>whnf);first|(with_reducible refine SeqP.go ?_)|((with_reducible refine ObD.mk ?_ ?_);exact zD)|((with_reducible refine ObN.mk ?_ ?_);exact zN)|(with_reducible refine ObT.ff ?_)|((with_reducible refine ObB.no ?_ ?_);exact zC)|((with_reducible refine (?_:ObR _ _ _));(first|(refine ObR.mk _ (by first|assumption|with_reducible rfl) ?_)|(refine ObR.map zX (fun x hx=>?_))|(refine ObR.mk _ rfl ?_)))|((with_reducible refine ObEq.mk ?_);exact zE))
noncomputable def okR (h:List Nd) (r:Int):Bool:=decide (0≤r) && decide (r≤(h.length:Int)) && aH h h.length
set_option maxHeartbeats 1000000 in
theorem may21 (h:List Nd) (hl:h.length≤1000) (hx:∀ x ∈ h,x.Ok) (r:Int) (c:Bool) (hc:c=okR h r):PC Try.prog G 37 [.sl 9 (h.map nA),I r] (I (eo c)):=by
  have hm:=may36 G h hl hx _ rfl
  unfold okR at hc
  by_cases h1:r < 0
  · obtain rfl : c = false := by rw [hc, decide_eq_false (by omega)]; rfl
    simp only [eo]
    refine pc_ofV cop37 ?_
    repeat' ((conv=>whnf);first|(with_reducible refine SeqP.go ?_)|((with_reducible refine ObN.mk ?_ ?_);exact zN)|(with_reducible refine ObT.tt ?_)|((with_reducible refine ObB.yes ?_ ?_);exact zB)|((with_reducible refine ObEq.i ?_);exact zF))
  by_cases h2:(h.length:Int) < r
  · obtain rfl : c = false := by rw [hc, decide_eq_false (p := r ≤ (h.length : Int)) (by omega), Bool.and_false]; rfl
    simp only [eo]
    refine pc_ofV cop37 ?_
    repeat' ((conv=>whnf);first|(with_reducible refine SeqP.go ?_)|((with_reducible refine ObN.mk ?_ ?_);exact zN)|(with_reducible first|refine ObT.tt ?_|refine ObT.ff ?_)|((with_reducible refine ObB.yes ?_ ?_);exact zB)|((with_reducible refine ObB.no ?_ ?_);exact zC)|((with_reducible refine (?_:ObL _ _));(refine ObL.mk _ zM ?_))|((with_reducible refine ObEq.i ?_);exact zF))
  · have e : c = aH h h.length := by rw [hc, decide_eq_true (p := 0 ≤ r) (by omega), decide_eq_true (by omega)]; rfl
    rw [e]
    refine pc_ofV cop37 ?_
    repeat' ((conv=>whnf);first|(with_reducible refine SeqP.go ?_)|((with_reducible refine ObN.mk ?_ ?_);exact zN)|(with_reducible refine ObT.ff ?_)|((with_reducible refine ObB.no ?_ ?_);exact zC)|((with_reducible refine (?_:ObL _ _));(refine ObL.mk _ zM ?_))|((with_reducible refine ObC.f 55 ?_);(first|(with_reducible refine ObC.mk _ (hm) ?_)|(refine ObC.mk _ (hm) ?_)))|((with_reducible refine ObEq.i ?_);exact zF))
end
def bl (h:List Nd):Nat→Int→List Pr
  | 0,_=>[]
  | n+1,r=>if r≤0 then [] else match h[(r - 1).toNat]? with
    | none=>[]
    | some x=>if x.kn=4 then bl h n (x.kk.getD 0 0)++ow x++bl h n (x.kk.getD 1 0) else ow x++(rfN x).flatMap (bl h n)
def ct (h:List Nd):Nat→Int→Nat
  | 0,_=>1
  | n+1,r=>if r≤0 then 1 else match h[(r - 1).toNat]? with
    | none=>1
    | some x=>if x.kn=4 then 2+ct h n (x.kk.getD 0 0)+ct h n (x.kk.getD 1 0) else 2+((rfN x).map (ct h n)).sum
theorem okH_of {h:List Nd} (hh:aH h h.length=true) {i:Nat} (hi:i < h.length):okH i h[i]=true:=by
  rw [aH,List.all_eq_true] at hh
  have:=hh i (List.mem_range.2 hi)
  simpa [List.getElem?_eq_getElem hi] using this
theorem okH_ref {i:Nat} {x:Nd} (h:okH i x=true) {r:Int} (hr:r ∈ rfN x):1≤r∧r≤(i:Int):=by
  simp only [okH,Bool.and_eq_true,List.all_eq_true] at h
  have:=h.2 r hr
  simpa [hR] using this
theorem okH_may {i:Nat} {x:Nd} (h:okH i x=true):mayV x=0:=by
  simp only [okH,Bool.and_eq_true,decide_eq_true_eq] at h
  exact h.1
theorem may_form {x:Nd} (h:mayV x=0):FormP x.kn x.ke x.va x.mp x.kk x.mn x.ls x.sz x.bi:=by
  unfold mayV mayE at h
  split at h
  · omega
  · split at h
    · omega
    · split at h
      · omega
      · split at h
        · rename_i h1;simpa using h1
        · omega
end Go.Proofs.Ytefkaglgekjlfaa.Sim
namespace Go.Proofs.Ytefkaglgekjlfaa.Sim
open Go.RowKit
set_option maxRecDepth 100000
set_option linter.unusedSectionVars false
def bo (x:Nd):List Pr:=if x.kn=3 then x.ls else if x.kn=1∨x.kn=6 then [(x.ke,x.va)] else []
def bdv (x:Nd) (k:ByteArray):ByteArray × Bool:=((Pr7.val (bo x) k).getD ⟨#[]⟩,(Pr7.val (bo x) k).isSome)
noncomputable def nxt (x:Nd) (k:ByteArray) (lv b:Int):Int × Int :=
  if x.kn=5 then (x.mn,lv) else if x.kn=2 then (chI (arr x.mp x.kk) (Hash.chunk (hN k b) lv (Hash.cl b):Nat),lv+1) else (0,lv)
noncomputable def fstep (h:List Nd) (k:ByteArray) (b:Int) (s:LS):LS :=
  if s.1≤0 then s else match h[(s.1 - 1).toNat]? with
  | some x=>((nxt x k s.2.1 b).1,(nxt x k s.2.1 b).2,bdv x k)
  | none=>(0,s.2.1,s.2.2)
noncomputable def stQ (h:List Nd) (r:Int) (k:ByteArray) (b:Int):Nat→LS
  | 0=>(r,0,⟨#[]⟩,false)
  | n+1=>fstep h k b (stQ h r k b n)
theorem least {p:Nat→Prop}:∀ {m:Nat},p m→∃ n,n≤m∧p n∧∀ i,i < n→¬ p i:=by
  intro m
  induction m using Nat.strongRecOn with
  | _ m ih =>
    intro h
    by_cases h2:∃ i,i < m∧p i
    · obtain ⟨i, hi, hp⟩ := h2
      obtain ⟨n,a,b,c⟩:=ih i hi hp
      exact ⟨n,by omega,b,c⟩
    · exact ⟨m,Nat.le_refl _,h,fun i hi hp=>h2 ⟨i,hi,hp⟩⟩
theorem rfN_mn {x:Nd} (h:x.mn ≠ 0):x.mn ∈ rfN x:=by simp [rfN,h]
theorem rfN_kk {x:Nd} {c:Int} (h:c ∈ x.kk) (h0:c ≠ 0):c ∈ rfN x:=by simp [rfN,h,h0]
theorem kz_mem {a:List Int} {i:Nat} (h0:a.getD i 0 ≠ 0):a.getD i 0 ∈ kz a:=by
  unfold kz
  rw [List.mem_filter]
  refine ⟨?_,by simpa using h0⟩
  by_cases hi:i < a.length
  · simp [hi]
  · simp [hi] at h0
theorem br_arr {x:Nd} (h:x.Ok) (hf:FormP x.kn x.ke x.va x.mp x.kk x.mn x.ls x.sz x.bi) (h2:x.kn=2):nA x=nB (arr x.mp x.kk) x.sz x.bi∧x.kk=kz (arr x.mp x.kk):=by
  obtain ⟨kn,ke,va,mp,kk,mn,ls,sz,bi⟩:=x
  dsimp only at h2 hf ⊢
  subst h2
  refine ⟨form2 ke va mp kk mn ls sz bi h.mp hf,?_⟩
  obtain ⟨_,hf⟩:=hf
  rcases hf with ⟨h1,_⟩|⟨_,h1,h2,h3,h4⟩|⟨h1,_⟩|⟨h1,_⟩|⟨h1,_⟩
  · omega
  · refine arr_kz h.mp ?_ h1
    have:(upI mp 32).length=(Mk.all mp).length:=by unfold upI;rw [List.length_map];rfl
    omega
  all_goals omega
theorem nxt_bd {i:Nat} {x:Nd} (h:x.Ok) (ho:okH i x=true) (k:ByteArray) (lv b:Int):(nxt x k lv b).1=0∨(1≤(nxt x k lv b).1∧(nxt x k lv b).1≤(i:Int)):=by
  unfold nxt
  split
  · by_cases h0 : x.mn = 0
    · exact .inl h0
    · exact .inr (okH_ref ho (rfN_mn h0))
  · split
    · rename_i h2
      obtain ⟨_,e⟩:=br_arr h (may_form (okH_may ho)) h2
      generalize hc:((Hash.chunk (hN k b) lv (Hash.cl b):Nat):Int)=c
      dsimp only
      by_cases h0:chI (arr x.mp x.kk) c=0
      · exact .inl h0
      · refine .inr (okH_ref ho (rfN_kk ?_ h0))
        unfold chI at h0 ⊢
        split at h0
        · rename_i hb
          rw [if_pos hb]
          have:=kz_mem h0
          rw [← e] at this
          exact this
        · exact absurd rfl h0
    · exact .inl rfl
theorem st_bd {h:List Nd} (hx:∀ x ∈ h,x.Ok) (hh:aH h h.length=true) {r:Int} (h0:0≤r) (hr:r≤(h.length:Int)) (k:ByteArray) (b:Int):∀ n,0≤(stQ h r k b n).1∧(stQ h r k b n).1≤(h.length:Int)∧((stQ h r k b n).1=0∨(stQ h r k b n).1+n≤r)∧0≤(stQ h r k b n).2.1∧(stQ h r k b n).2.1≤(n:Int):=by
  intro n
  induction n with
  | zero=>simp only [stQ];omega
  | succ n ih =>
    obtain ⟨i1,i2,i3,i4,i5⟩:=ih
    have hs:stQ h r k b (n+1)=fstep h k b (stQ h r k b n):=rfl
    rw [hs]
    generalize stQ h r k b n=s at *
    obtain ⟨w,lv,v⟩:=s
    dsimp only at i1 i2 i3 i4 i5
    unfold fstep
    dsimp only
    by_cases hw:w≤0
    · rw [if_pos hw];dsimp only;omega
    · rw [if_neg hw]
      have hj:(w - 1).toNat < h.length:=by omega
      rw [List.getElem?_eq_getElem hj]
      dsimp only
      have hb:=nxt_bd (hx _ (List.getElem_mem hj)) (okH_of hh hj) k lv b
      have hl:(nxt h[(w - 1).toNat] k lv b).2=lv∨(nxt h[(w - 1).toNat] k lv b).2=lv+1:=by
        unfold nxt
        split
        · exact .inl rfl
        · split
          · exact .inr rfl
          · exact .inl rfl
      generalize nxt h[(w - 1).toNat] k lv b=p at *
      omega
theorem bdv_no {x:Nd} {k:ByteArray} (h1:x.kn ≠ 1) (h3:x.kn ≠ 3) (h6:x.kn ≠ 6):bdv x k=(⟨#[]⟩,false):=by
  unfold bdv bo
  rw [if_neg h3,if_neg (by omega),Pr7.val_nil];rfl
section
variable (G:Nat→AV)
theorem lk_of (h:List Nd) (hl:h.length≤1000) (hx:∀ x ∈ h,x.Ok) (hh:aH h h.length=true) {r:Int} (h0:0≤r) (hr:r≤(h.length:Int)) (k:ByteArray) (hk:k.size≤40) (b:Int) (hb:i64 b):∃ N,LK G h r k b (stQ h r k b) N:=by
  have hbd:=st_bd hx hh h0 hr k b
  obtain ⟨N,n1,n2,n3⟩:=least (p:=fun n=>(stQ h r k b n).1=0) (m:=r.toNat) (by have:=hbd r.toNat;omega)
  have hval:∀ n,n < N→(stQ h r k b n).2.2=(⟨#[]⟩,false):=by
    intro n hn
    cases n with
    | zero=>rfl
    | succ n =>
      have hz:=n3 n (by omega)
      have hz1:=n3 (n+1) hn
      have hs:stQ h r k b (n+1)=fstep h k b (stQ h r k b n):=rfl
      rw [hs] at hz1 ⊢
      have hbn:=hbd n
      generalize stQ h r k b n=s at *
      obtain ⟨w,lv,v⟩:=s
      dsimp only at hz hbn
      have hj:(w - 1).toNat < h.length:=by omega
      unfold fstep at hz1 ⊢
      dsimp only at hz1 ⊢
      rw [if_neg (by omega),List.getElem?_eq_getElem hj] at hz1 ⊢
      dsimp only at hz1 ⊢
      have:h[(w - 1).toNat].kn=5∨h[(w - 1).toNat].kn=2:=by
        unfold nxt at hz1
        split at hz1
        · exact .inl (by assumption)
        · split at hz1
          · exact .inr (by assumption)
          · exact absurd rfl hz1
      exact bdv_no (by omega) (by omega) (by omega)
  refine ⟨N,rfl,n2,by omega,hval,fun n hn=>?_⟩
  have hv:=hval n hn
  have hz:=n3 n hn
  have hbn:=hbd n
  have hs:stQ h r k b (n+1)=fstep h k b (stQ h r k b n):=rfl
  rw [hs]
  generalize stQ h r k b n=s at *
  obtain ⟨w,lv,v,q⟩:=s
  dsimp only at hz hbn hv
  injection hv with hv1 hv2
  subst hv1 hv2
  have hj:(w - 1).toNat < h.length:=by omega
  refine ⟨(w - 1).toNat,by dsimp only;omega,hj,?_⟩
  have e:fstep h k b (w,lv,⟨#[]⟩,false)=((nxt h[(w - 1).toNat] k lv b).1,(nxt h[(w - 1).toNat] k lv b).2,bdv h[(w - 1).toNat] k):=by
    unfold fstep
    dsimp only
    rw [if_neg (by omega),List.getElem?_eq_getElem hj]
  rw [e]
  dsimp only
  have hxo:=hx _ (List.getElem_mem hj)
  have hok:=okH_of hh hj
  generalize h[(w - 1).toNat]=x at *
  have hf:=may_form (okH_may hok)
  have hlv:0≤lv∧lv≤1000000:=by omega
  have hi:i64 lv:=⟨by omega,by omega⟩
  have hg:∀ o:List Pr,Pr7.Okl o→Pr7.SLt o→PC Try.prog G 31 [.sl 2 (o.map pA),S k] (.tup [S ((Pr7.val o k).getD ⟨#[]⟩),Bo (Pr7.val o k).isSome]):=fun o h1 h2=>Pr7.get9s G o (Pr7.sorted31s G o h1 h2) h1 k (by omega)
  by_cases h5:x.kn=5
  · have en : nxt x k lv b = (x.mn, lv) := by unfold nxt; rw [if_pos h5]
    have eb:bdv x k=(⟨#[]⟩,false):=bdv_no (by omega) (by omega) (by omega)
    rw [en,eb]
    obtain ⟨kn,ke,va,mp,kk,mn,ls,sz,bi⟩:=x
    dsimp only at h5;subst h5
    exact ⟨feed5 G ke va mp kk mn ls sz bi w lv b hz k _ _,bdX G ke va mp kk mn ls sz bi 5 k (by decide) (by decide) (by decide),nx5 G ke va mp kk mn ls sz bi lv b k⟩
  by_cases h2:x.kn=2
  · obtain ⟨en, _⟩ := br_arr hxo hf h2
    have eb:bdv x k=(⟨#[]⟩,false):=bdv_no (by omega) (by omega) (by omega)
    have m8:=may29 G x hxo
    have m9:=may33 G x hxo
    rw [okH_may hok,en] at m8 m9
    have hal:(arr x.mp x.kk).length=32:=arr_len _ _
    have q23:=asBr23 G _ x.sz x.bi hal m8
    have q7:=of7 G _ x.sz x.bi hal m9
    have hci:i64 ((Hash.chunk (hN k b) lv (Hash.cl b):Nat):Int):=by
      have:=Hash.chunk_lt (hN k b) lv (Hash.cl b)
      exact ⟨by omega,by omega⟩
    have c28:=child10 G (kn:=2) (ke:=ByteArray.mk #[]) (va:=ByteArray.mk #[]) (mp:=bm (arr x.mp x.kk)) (kk:=kz (arr x.mp x.kk)) (mn:=0) (ls:=[]) (sz:=x.sz) (bi:=x.bi) hal q23 ((Hash.chunk (hN k b) lv (Hash.cl b):Nat):Int) hci
    have c39:=child11 G (arr x.mp x.kk) x.sz x.bi ((Hash.chunk (hN k b) lv (Hash.cl b):Nat):Int) hal
    have ex:nxt x k lv b=(chI (arr x.mp x.kk) (Hash.chunk (hN k b) lv (Hash.cl b):Nat),lv+1):=by unfold nxt;rw [if_neg h5,if_pos h2]
    rw [ex,eb,en]
    exact ⟨feed2 G _ _ _ _ _ _ _ _ w lv b hz hlv k _ _ (hN k b) _ (of30 G k b (by omega) hb) _ (ch29 G _ lv b (hN_lt k b) hi hb) c28,
      bdX G _ _ _ _ _ _ _ _ 2 k (by decide) (by decide) (by decide),
      nx2 G _ _ _ _ _ _ _ _ lv b hlv k (hN k b) _ _ _ _ q7 (of41 G k b (by omega) hb) _ (ch40 G _ lv b (hN_lt k b) hi hb) c39⟩
  have en:nxt x k lv b=(0,lv):=by unfold nxt;rw [if_neg h5,if_neg h2]
  rw [en]
  have hB:=bnd23 G x hxo
  by_cases h3:x.kn=3
  · have hsl : Pr7.SLt x.ls := by
      obtain ⟨_,hf⟩:=hf
      rcases hf with ⟨h1,_⟩|⟨h1,_⟩|⟨_,_,h1,_⟩|⟨h1,_⟩|⟨h1,_⟩
      · omega
      · omega
      · exact h1
      · omega
      · omega
    have hok7:Pr7.Okl x.ls:=⟨by have:=hxo.ls;omega,fun p hp=>by have:=hxo.sz p hp;omega⟩
    have e1:bo x=x.ls:=by unfold bo;rw [if_pos h3]
    have e2:ow x=x.ls:=by unfold ow;rw [if_neg (by omega),if_pos h3]
    unfold bdv
    rw [e1]
    rw [e2] at hB
    have g20:=Pr7.get10 G x.ls hok7 k
    have g31:=hg x.ls hok7 hsl
    obtain ⟨kn,ke,va,mp,kk,mn,ls,sz,bi⟩:=x
    dsimp only at h3;subst h3
    exact ⟨feedL G ke va mp kk mn ls sz bi 3 w lv b hz (by decide) k _ _ ls _ _ hB g31,bd3 G ke va mp kk mn ls sz bi k _ _ g20,nxX G ke va mp kk mn ls sz bi 3 lv b (by decide) (by decide) k⟩
  by_cases h16:x.kn=1∨x.kn=6
  · have e1 : bo x = [(x.ke, x.va)] := by unfold bo; rw [if_neg h3, if_pos h16]
    have e2:ow x=[(x.ke,x.va)]:=by unfold ow;rw [if_pos (by omega)]
    have hok7:Pr7.Okl [(x.ke,x.va)]:=⟨by simp,fun p hp=>by rw [List.mem_singleton.1 hp];have:=hxo.ke;have:=hxo.va;dsimp only;omega⟩
    have hsl:Pr7.SLt [(x.ke,x.va)]:=by rw [Pr7.slt_idx];intro i hi;simp at hi
    have g31:=hg _ hok7 hsl
    rw [e2] at hB
    have hbd:bdv x k=if x.ke=k then (x.va,true) else (⟨#[]⟩,false):=by
      unfold bdv
      rw [e1,Pr7.val_one]
      split<;>rfl
    have h25:PC Try.prog G 25 [nA x,S k] (.tup [S (bdv x k).1,Bo (bdv x k).2]):=by
      rw [hbd]
      by_cases hkk:x.ke=k
      · rw [if_pos hkk];exact bdL G _ _ _ _ _ _ _ _ _ h16 k hkk
      · rw [if_neg hkk];exact bdN G _ _ _ _ _ _ _ _ _ h16 k hkk
    refine ⟨feedL G _ _ _ _ _ _ _ _ _ w lv b hz (by omega) k _ _ [(x.ke,x.va)] _ _ hB ?_,h25,nxX G _ _ _ _ _ _ _ _ _ lv b h2 h5 k⟩
    unfold bdv
    rw [e1]
    exact g31
  · rw [bdv_no (by omega) h3 (by omega)]
    exact ⟨feedX G _ _ _ _ _ _ _ _ _ w lv b hz (by omega) h2 h3 h5 (by omega) k _ _,bdX G _ _ _ _ _ _ _ _ _ k (by omega) h3 (by omega),nxX G _ _ _ _ _ _ _ _ _ lv b h2 h5 k⟩
end
end Go.Proofs.Ytefkaglgekjlfaa.Sim
namespace Go.Proofs.Ytefkaglgekjlfaa.Sim
open Go.RowKit
set_option maxRecDepth 100000
noncomputable def cN (b lv:Int) (k:ByteArray):Nat:=Hash.chunk (hN k b) lv (Hash.cl b)
theorem cN_lt {b lv:Int} {k:ByteArray}:cN b lv k < 32:=Hash.chunk_lt _ _ _
noncomputable def grp (b lv:Int) (l:List Pr) (i:Nat):List Pr:=l.filter fun p=>decide (cN b lv p.1=i)
def lfN (p:Pr):Nd:=⟨1,p.1,p.2,0,[],0,[],1,0⟩
def bkN (l:List Pr):Nd:=⟨3,⟨#[]⟩,⟨#[]⟩,0,[],0,l,l.length,0⟩
def brN (m:Nat) (ks:List Int) (n:Nat):Nd:=⟨2,⟨#[]⟩,⟨#[]⟩,m,ks,0,[],n,0⟩
def kT (rec:List Pr→List Nd→List Nd × Int) (g:Nat→List Pr) (h:List Nd):Nat→List Nd × List Int × Nat
  | 0=>(h,[],0)
  | i+1=>if g i=[] then kT rec g h i else ((rec (g i) (kT rec g h i).1).1,(kT rec g h i).2.1++[(rec (g i) (kT rec g h i).1).2],(kT rec g h i).2.2+2 ^ i)
noncomputable def mkT (b:Int):Nat→Int→List Pr→List Nd→List Nd × Int
  | 0,lv,l,h=>if l.length=0 then (h,0) else if l.length=1 then (h++[lfN (l.headD default)],(h.length:Int)+1) else (h++[bkN l],(h.length:Int)+1)
  | f+1,lv,l,h=>if l.length=0 then (h,0) else if l.length=1 then (h++[lfN (l.headD default)],(h.length:Int)+1) else
    ((kT (mkT b f (lv+1)) (grp b lv l) h 32).1++[brN (kT (mkT b f (lv+1)) (grp b lv l) h 32).2.2 (kT (mkT b f (lv+1)) (grp b lv l) h 32).2.1 l.length],((kT (mkT b f (lv+1)) (grp b lv l) h 32).1.length:Int)+1)
theorem kT_ext {rec:List Pr→List Nd→List Nd × Int} (hr:∀ l h,∃ T,(rec l h).1=h++T) (g:Nat→List Pr) (h:List Nd):∀ n,∃ T,(kT rec g h n).1=h++T:=by
  intro n
  induction n with
  | zero=>exact ⟨[],by simp [kT]⟩
  | succ n ih =>
    obtain ⟨T,e⟩:=ih
    rw [kT]
    split
    · exact ⟨T,e⟩
    · obtain ⟨T2, e2⟩ := hr (g n) (kT rec g h n).1
      exact ⟨T++T2,by dsimp only;rw [e2,e,List.append_assoc]⟩
theorem kT_mono {rec:List Pr→List Nd→List Nd × Int} (hr:∀ l h,∃ T,(rec l h).1=h++T) (g:Nat→List Pr) (h:List Nd) {m:Nat}:∀ {n},m≤n→∃ T,(kT rec g h n).1=(kT rec g h m).1++T:=by
  intro n hn
  induction n with
  | zero => obtain rfl : m = 0 := by omega
            exact ⟨[],by simp⟩
  | succ n ih =>
    by_cases h2:m=n+1
    · subst h2;exact ⟨[],by simp⟩
    obtain ⟨T,e⟩:=ih (by omega)
    rw [kT]
    split
    · exact ⟨T,e⟩
    · obtain ⟨T2, e2⟩ := hr (g n) (kT rec g h n).1
      exact ⟨T++T2,by dsimp only;rw [e2,e,List.append_assoc]⟩
theorem mkT_ext {b:Int}:∀ {f:Nat} {lv:Int} (l:List Pr) (h:List Nd),∃ T,(mkT b f lv l h).1=h++T:=by
  intro f
  induction f with
  | zero=>intro lv l h;rw [mkT];split;exact ⟨[],by simp⟩;split;exact ⟨_,rfl⟩;exact ⟨_,rfl⟩
  | succ f ih =>
    intro lv l h
    rw [mkT]
    split
    · exact ⟨[],by simp⟩
    split
    · exact ⟨_,rfl⟩
    · obtain ⟨T,e⟩:=kT_ext (rec:=mkT b f (lv+1)) (fun l h=>ih l h) (grp b lv l) h 32
      exact ⟨T++[_],by dsimp only;rw [e,List.append_assoc]⟩
theorem kT_len {rec:List Pr→List Nd→List Nd × Int} {c:Nat} (hr:∀ l h,(rec l h).1.length≤h.length+l.length * c) (g:Nat→List Pr) (h:List Nd):∀ n,(kT rec g h n).1.length≤h.length+((List.range n).map fun i=>(g i).length).sum * c:=by
  intro n
  induction n with
  | zero=>simp [kT]
  | succ n ih =>
    rw [List.range_succ,List.map_append,List.sum_append,kT,Nat.add_mul]
    split
    · simp;omega
    · have := hr (g n) (kT rec g h n).1
      simp only [List.map_cons,List.map_nil,List.sum_cons,List.sum_nil,Nat.add_zero];omega
theorem cnt_split (l:List Pr) (c:Pr→Nat):∀ n,((List.range n).map fun i=>(l.filter fun p=>decide (c p=i)).length).sum=(l.filter fun p=>decide (c p < n)).length:=by
  intro n
  induction n with
  | zero=>rw [List.filter_eq_nil_iff.2 (by simp)];rfl
  | succ n ih =>
    rw [List.range_succ,List.map_append,List.sum_append,ih]
    simp only [List.map_cons,List.map_nil,List.sum_cons,List.sum_nil,Nat.add_zero]
    clear ih
    induction l with
    | nil=>rfl
    | cons a t iht =>
      simp only [List.filter_cons]
      by_cases h1:c a < n
      · have h2 : ¬ c a = n := by omega
        have h3:c a < n+1:=by omega
        simp only [h1,h2,h3,decide_true,decide_false,if_true,Bool.false_eq_true,if_false,List.length_cons];omega
      · by_cases h2 : c a = n
        · have h3 : c a < n + 1 := by omega
          simp only [h1,h2,h3,decide_true,decide_false,if_true,Bool.false_eq_true,if_false,List.length_cons]
          simp only [h2,Nat.lt_irrefl,decide_false,Bool.false_eq_true,if_false,Nat.lt_succ_self,decide_true,if_true,List.length_cons];omega
        · have h3 : ¬ c a < n + 1 := by omega
          simp only [h1,h2,h3,decide_true,decide_false,if_true,Bool.false_eq_true,if_false];omega
theorem mkT_len {b:Int}:∀ {f:Nat} {lv:Int} (l:List Pr) (h:List Nd),(mkT b f lv l h).1.length≤h.length+l.length * (f+1):=by
  intro f
  induction f with
  | zero=>intro lv l h;rw [mkT];split;simp;split<;>simp<;>omega
  | succ f ih =>
    intro lv l h
    rw [mkT]
    split
    · simp
    split
    · rename_i h1;simp [h1]
    · have h1:=kT_len (rec:=mkT b f (lv+1)) (c:=f+1) (fun l h=>ih l h) (grp b lv l) h 32
      have h2:=cnt_split l (fun p=>cN b lv p.1) 32
      have h3:(l.filter fun p=>decide (cN b lv p.1 < 32))=l:=List.filter_eq_self.2 fun p _=>decide_eq_true cN_lt
      rw [h3] at h2
      have h4:((List.range 32).map fun i=>(grp b lv l i).length).sum=l.length:=h2
      rw [h4] at h1
      have h5:l.length * (f+1+1)=l.length * (f+1)+l.length:=by rw [Nat.mul_succ]
      rw [List.length_append,h5];simp only [List.length_cons,List.length_nil];omega
end Go.Proofs.Ytefkaglgekjlfaa.Sim
namespace Go.Proofs.Ytefkaglgekjlfaa.Sim
open Go.RowKit
set_option maxRecDepth 100000
noncomputable def it (h:List Nd) (k:ByteArray) (b:Int):Nat→LS→LS
  | 0,s=>s
  | n+1,s=>it h k b n (fstep h k b s)
theorem it_st {h:List Nd} {k:ByteArray} {b:Int}:∀ {n:Nat} {s:LS},it h k b (n+1) s=fstep h k b (it h k b n s):=by
  intro n
  induction n with
  | zero=>intro s;rfl
  | succ n ih=>intro s;exact ih (s:=fstep h k b s)
theorem st_it {h:List Nd} {r:Int} {k:ByteArray} {b:Int}:∀ n,stQ h r k b n=it h k b n (r,0,⟨#[]⟩,false):=by
  intro n
  induction n with
  | zero=>rfl
  | succ n ih=>rw [it_st,← ih];rfl
theorem up_lo {m m' n:Nat} (h:∀ i,i < n→m'.testBit i=m.testBit i):∀ {i},i≤n→Mk.upTo m' i=Mk.upTo m i:=by
  intro i hi
  unfold Mk.upTo
  exact List.filter_congr fun j hj=>h j (by have:=List.mem_range.1 hj;omega)
theorem up_succ {m n:Nat}:Mk.upTo m (n+1)=Mk.upTo m n++if m.testBit n=true then [n] else []:=by
  unfold Mk.upTo
  rw [List.range_succ,List.filter_append]
  congr 1
  simp only [List.filter_cons,List.filter_nil]
theorem kT_at {rec : List Pr → List Nd → List Nd × Int} {g : Nat → List Pr} {h : List Nd} : ∀ n, (kT rec g h n).2.2 < 2 ^ n ∧ (kT rec g h n).2.1.length = (Mk.upTo (kT rec g h n).2.2 n).length ∧
    ∀ i,i < n→((kT rec g h n).2.2.testBit i=decide (g i ≠ []))∧(g i ≠ []→(kT rec g h n).2.1[(Mk.upTo (kT rec g h n).2.2 i).length]? = some (rec (g i) (kT rec g h i).1).2):=by
  intro n
  induction n with
  | zero=>exact ⟨by simp [kT],by simp [kT,Mk.upTo],fun i hi=>by omega⟩
  | succ n ih =>
    obtain ⟨a1,a2,a3⟩:=ih
    have hp:2 ^ (n+1)=2 ^ n+2 ^ n:=by rw [Nat.pow_succ];omega
    have hb:(kT rec g h n).2.2.testBit n=false:=Nat.testBit_lt_two_pow a1
    by_cases hg:g n=[]
    · have e : kT rec g h (n + 1) = kT rec g h n := by rw [kT, if_pos hg]
      rw [e]
      refine ⟨by omega,by rw [a2,up_succ,hb];simp,fun i hi=>?_⟩
      by_cases h2:i < n
      · exact a3 i h2
      · obtain rfl : i = n := by omega
        exact ⟨by rw [hb];simp [hg],fun h3=>absurd hg h3⟩
    · have e : kT rec g h (n + 1) = ((rec (g n) (kT rec g h n).1).1, (kT rec g h n).2.1 ++ [(rec (g n) (kT rec g h n).1).2], (kT rec g h n).2.2 + 2 ^ n) := by rw [kT, if_neg hg]
      have hlo:∀ i,i < n→((kT rec g h n).2.2+2 ^ n).testBit i=(kT rec g h n).2.2.testBit i:=fun i hi=>by rw [Nat.add_comm];exact Nat.testBit_two_pow_add_gt hi _
      have hhi:((kT rec g h n).2.2+2 ^ n).testBit n=true:=by rw [Nat.add_comm,Nat.testBit_two_pow_add_eq,hb];rfl
      rw [e]
      dsimp only
      refine ⟨by omega,?_,fun i hi=>?_⟩
      · rw [up_succ,up_lo hlo (Nat.le_refl n),hhi,List.length_append,List.length_append,a2];rfl
      · by_cases h2 : i < n
        · obtain ⟨b1, b2⟩ := a3 i h2
          refine ⟨by rw [hlo i h2,b1],fun h3=>?_⟩
          have:=b2 h3
          rw [up_lo hlo (Nat.le_of_lt h2),List.getElem?_append_left (List.getElem?_eq_some_iff.1 this).1,this]
        · obtain rfl : i = n := by omega
          refine ⟨by rw [hhi];simp [hg],fun _=>?_⟩
          rw [up_lo hlo (Nat.le_refl _),← a2]
          simp
theorem val_grp {b lv:Int} {l:List Pr} {k:ByteArray}:Pr7.val (grp b lv l (cN b lv k)) k=Pr7.val l k:=by
  have:=Pr7.val_filter (f:=fun x=>decide (cN b lv x=cN b lv k)) (m:=l) (k:=k)
  rw [if_pos (decide_eq_true rfl)] at this
  unfold Pr7.val grp
  rw [this]
theorem at_end {h T:List Nd} {x:Nd}:(h++[x]++T)[((h.length:Int)+1 - 1).toNat]? = some x:=by
  rw [show ((h.length:Int)+1 - 1).toNat=h.length by omega]
  simp
theorem step_at {h:List Nd} {k:ByteArray} {b:Int} {r lv:Int} {v:ByteArray × Bool} {x:Nd} (h0:0 < r) (hx:h[(r - 1).toNat]? = some x):fstep h k b (r,lv,v)=((nxt x k lv b).1,(nxt x k lv b).2,bdv x k):=by
  unfold fstep
  dsimp only
  rw [if_neg (by omega),hx]
def Lk (H:List Nd) (k:ByteArray) (b r lv:Int) (f:Nat) (l:List Pr):Prop :=
  ∃ n,n≤f+1∧(∀ i,i < n→(it H k b i (r,lv,⟨#[]⟩,false)).1 ≠ 0)∧(it H k b n (r,lv,⟨#[]⟩,false)).1=0∧(it H k b n (r,lv,⟨#[]⟩,false)).2.2=((Pr7.val l k).getD ⟨#[]⟩,(Pr7.val l k).isSome)
theorem lk_zero {H:List Nd} {k:ByteArray} {b lv:Int} {f:Nat} {l:List Pr} (h:Pr7.val l k=none):Lk H k b 0 lv f l:=⟨0,by omega,fun i hi=>by omega,rfl,by rw [h];rfl⟩
theorem lk_leaf {H:List Nd} {k:ByteArray} {b r lv:Int} {f:Nat} {l:List Pr} {x:Nd} (h0:0 < r) (hx:H[(r - 1).toNat]? = some x) (h5:x.kn ≠ 5) (h2:x.kn ≠ 2) (hb:bo x=l):Lk H k b r lv f l:=by
  have e:it H k b 1 (r,lv,⟨#[]⟩,false)=(0,lv,bdv x k):=by
    show fstep H k b _=_
    rw [step_at h0 hx]
    unfold nxt
    rw [if_neg h5,if_neg h2]
  refine ⟨1,by omega,fun i hi=>?_,by rw [e],by rw [e];unfold bdv;rw [hb]⟩
  obtain rfl:i=0:=by omega
  show r ≠ 0
  omega
theorem small_lk {b lv:Int} {f:Nat} {l:List Pr} {h T:List Nd} {k:ByteArray} (h1:l.length=1):Lk (h++[lfN (l.headD default)]++T) k b ((h.length:Int)+1) lv f l:=by
  match l,h1 with
  | [p],_=>exact lk_leaf (by omega) at_end (show (1:Int) ≠ 5 by decide) (show (1:Int) ≠ 2 by decide) rfl
theorem mkT_lk {b:Int} {k:ByteArray}:∀ {f:Nat} {lv:Int} (l:List Pr) (h T:List Nd),Lk ((mkT b f lv l h).1++T) k b (mkT b f lv l h).2 lv f l:=by
  intro f
  induction f with
  | zero =>
    intro lv l h T
    rw [mkT]
    split
    · rename_i h0
      obtain rfl:=List.length_eq_zero_iff.1 h0
      exact lk_zero rfl
    split
    · rename_i h1
      exact small_lk h1
    · exact lk_leaf (x:=bkN l) (by omega) at_end (show (3:Int) ≠ 5 by decide) (show (3:Int) ≠ 2 by decide) rfl
  | succ f ih =>
    intro lv l h T
    rw [mkT]
    split
    · rename_i h0
      obtain rfl:=List.length_eq_zero_iff.1 h0
      exact lk_zero rfl
    split
    · rename_i h1
      exact small_lk h1
    · have hk := kT_at (rec := mkT b f (lv + 1)) (g := grp b lv l) (h := h) 32
      have hc:=cN_lt (b:=b) (lv:=lv) (k:=k)
      obtain ⟨T1,e1⟩:=kT_mono (rec:=mkT b f (lv+1)) (fun l h=>mkT_ext l h) (grp b lv l) h (m:=cN b lv k+1) (n:=32) (by omega)
      have e2:grp b lv l (cN b lv k) ≠ []→(kT (mkT b f (lv+1)) (grp b lv l) h (cN b lv k+1)).1=(mkT b f (lv+1) (grp b lv l (cN b lv k)) (kT (mkT b f (lv+1)) (grp b lv l) h (cN b lv k)).1).1:=fun hg=>by rw [kT,if_neg hg]
      have hv:=val_grp (b:=b) (lv:=lv) (l:=l) (k:=k)
      obtain ⟨_,_,hk⟩:=hk
      obtain ⟨k1,k2⟩:=hk _ hc
      generalize hq:kT (mkT b f (lv+1)) (grp b lv l) h 32=q at *
      dsimp only
      have hx:(q.1++[brN q.2.2 q.2.1 l.length]++T)[((q.1.length:Int)+1 - 1).toNat]? = some (brN q.2.2 q.2.1 l.length):=at_end
      have ha:chI (arr q.2.2 q.2.1) ((cN b lv k:Nat):Int)=if grp b lv l (cN b lv k)=[] then 0 else (mkT b f (lv+1) (grp b lv l (cN b lv k)) (kT (mkT b f (lv+1)) (grp b lv l) h (cN b lv k)).1).2:=by
        unfold chI
        rw [if_pos ⟨by omega,by omega⟩,Int.toNat_natCast,arr_at hc,k1]
        by_cases hg:grp b lv l (cN b lv k)=[]
        · rw [if_pos hg,if_neg (by simp [hg])]
        · rw [if_neg hg,if_pos (by simp [hg]),k2 hg];rfl
      have hs:fstep (q.1++[brN q.2.2 q.2.1 l.length]++T) k b ((q.1.length:Int)+1,lv,⟨#[]⟩,false)=(chI (arr q.2.2 q.2.1) ((cN b lv k:Nat):Int),lv+1,⟨#[]⟩,false):=by
        rw [step_at (by omega) hx,bdv_no (show (2:Int) ≠ 1 by decide) (show (2:Int) ≠ 3 by decide) (show (2:Int) ≠ 6 by decide)]
        rfl
      by_cases hg:grp b lv l (cN b lv k)=[]
      · rw [if_pos hg] at ha
        rw [ha] at hs
        rw [hg] at hv
        refine ⟨1,by omega,fun i hi=>?_,?_,?_⟩
        · obtain rfl : i = 0 := by omega
          show (q.1.length:Int)+1 ≠ 0
          omega
        · show (fstep _ k b _).1 = 0
          rw [hs]
        · show (fstep _ k b _).2.2 = _
          rw [hs,← hv];rfl
      · rw [if_neg hg] at ha
        rw [ha] at hs
        have e3:q.1++[brN q.2.2 q.2.1 l.length]++T=(mkT b f (lv+1) (grp b lv l (cN b lv k)) (kT (mkT b f (lv+1)) (grp b lv l) h (cN b lv k)).1).1++(T1++([brN q.2.2 q.2.1 l.length]++T)):=by
          rw [e1,e2 hg];simp only [List.append_assoc]
        obtain ⟨n,n1,n2,n3,n4⟩:=ih (lv:=lv+1) (grp b lv l (cN b lv k)) (kT (mkT b f (lv+1)) (grp b lv l) h (cN b lv k)).1 (T1++([brN q.2.2 q.2.1 l.length]++T))
        rw [← e3,← hs] at n2 n3 n4
        rw [hv] at n4
        refine ⟨n+1,by omega,fun i hi=>?_,n3,n4⟩
        cases i with
        | zero=>show (q.1.length:Int)+1 ≠ 0;omega
        | succ i=>exact n2 i (by omega)
end Go.Proofs.Ytefkaglgekjlfaa.Sim
namespace Go.Proofs.Ytefkaglgekjlfaa.Sim
open Go.RowKit
set_option maxRecDepth 100000
structure Tl (l:List Pr):Prop where
  lt:Pr7.SLt l
  le:l.length≤40
  sz:∀ p ∈ l,p.1.size≤16∧p.2.size≤16
theorem Tl.grp {l:List Pr} (h:Tl l) {b lv:Int} {i:Nat}:Tl (grp b lv l i) :=
  ⟨List.Pairwise.sublist List.filter_sublist h.lt,Nat.le_trans (List.length_filter_le _ _) h.le,fun p hp=>h.sz p ((List.mem_filter.1 hp).1)⟩
structure Nk (j:Nat) (x:Nd):Prop where
  ok:okH j x=true
  mp:x.mp < 4294967296
  ke:x.ke.size≤40
  va:x.va.size≤40
  kk:x.kk.length≤40
  ls:x.ls.length≤40
  sz:∀ p ∈ x.ls,p.1.size≤40∧p.2.size≤40
  mn:x.mn=0
theorem Nk.isOk {j:Nat} {x:Nd} (h:Nk j x) (hj:j≤1000000):x.Ok :=
  ⟨h.mp,h.ke,h.va,h.kk,h.ls,h.sz,by rw [h.mn];exact ⟨by decide,by decide⟩,fun r hr=>by
    by_cases h0:r=0
    · rw [h0];exact ⟨by decide,by decide⟩
    · have := okH_ref h.ok (rfN_kk hr h0)
      exact ⟨by omega,by omega⟩⟩
def Vh (h:List Nd):Prop:=∀ j x,h[j]? = some x→Nk j x
theorem Vh.snoc {h:List Nd} {x:Nd} (hv:Vh h) (hx:Nk h.length x):Vh (h++[x]):=by
  intro j y hy
  by_cases hj:j < h.length
  · rw [List.getElem?_append_left hj] at hy;exact hv j y hy
  · have hl := (List.getElem?_eq_some_iff.1 hy).1
    simp only [List.length_append,List.length_cons,List.length_nil] at hl
    obtain rfl:j=h.length:=by omega
    rw [List.getElem?_append_right (Nat.le_refl _)] at hy
    simp at hy
    rw [← hy];exact hx
theorem may_of {x:Nd} (h1:1≤x.kn) (h2:x.kn≤6) (h3:(lg (x.ke,x.va) || x.ls.any lg)=false) (h4:FormP x.kn x.ke x.va x.mp x.kk x.mn x.ls x.sz x.bi):mayV x=0:=by
  unfold mayV
  rw [@decide_eq_true _ (Classical.propDecidable _) h4,h3]
  unfold mayE
  rw [if_neg (by omega),if_neg (by omega),if_neg (by decide),if_pos rfl]
theorem lg_no {p:Pr} (h:p.1.size≤16∧p.2.size≤16):lg p=false:=by
  unfold lg
  rw [decide_eq_false (by omega),decide_eq_false (by omega)];rfl
theorem lf_nk {p:Pr} (h:p.1.size≤16∧p.2.size≤16) (j:Nat):Nk j (lfN p):=by
  have hm:mayV (lfN p)=0:=may_of (show (1:Int)≤1 by decide) (show (1:Int)≤6 by decide) (by show (lg (p.1,p.2) || _)=false;rw [lg_no h];rfl)
    ⟨show ¬ (0:Int) < 0 by decide,.inl ⟨.inl rfl,rfl,by unfold BareP;simp [lfN]⟩⟩
  exact ⟨by rw [okH,hm];simp [lfN,rfN],by show 0 < 4294967296;decide,by show p.1.size≤40;omega,by show p.2.size≤40;omega,by simp [lfN],by simp [lfN],fun q hq=>by simp [lfN] at hq,rfl⟩
theorem bk_nk {l:List Pr} (h:Tl l) (h2:2≤l.length) (j:Nat):Nk j (bkN l):=by
  have h0:lg ((⟨#[]⟩:ByteArray),(⟨#[]⟩:ByteArray))=false:=by rfl
  have hm:mayV (bkN l)=0:=may_of (show (1:Int)≤3 by decide) (show (3:Int)≤6 by decide)
    (by show (lg ((⟨#[]⟩ : ByteArray), (⟨#[]⟩ : ByteArray)) || l.any lg) = false
        rw [h0,Bool.false_or,List.any_eq_false]
        intro p hp
        rw [lg_no (h.sz p hp)];decide)
    ⟨show ¬ (0:Int) < 0 by decide,.inr (.inr (.inl ⟨rfl,by show (2:Int)≤(l.length:Nat);omega,h.lt,rfl,by unfold BareP;simp [bkN]⟩))⟩
  exact ⟨by rw [okH,hm];simp [bkN,rfN],by show 0 < 4294967296;decide,by show 0≤40;decide,by show 0≤40;decide,by simp [bkN],h.le,fun q hq=>by have:=h.sz q hq;omega,rfl⟩
theorem br_nk {m:Nat} {ks:List Int} {n j:Nat} (hm:m < 2 ^ 32) (hl:ks.length=(Mk.upTo m 32).length) (hk:∀ r ∈ ks,1≤r∧r≤(j:Int)):Nk j (brN m ks n):=by
  have h0:lg ((⟨#[]⟩:ByteArray),(⟨#[]⟩:ByteArray))=false:=by rfl
  have hm':mayV (brN m ks n)=0:=may_of (show (1:Int)≤2 by decide) (show (2:Int)≤6 by decide)
    (by show (lg ((⟨#[]⟩ : ByteArray), (⟨#[]⟩ : ByteArray)) || ([] : List Pr).any lg) = false
        rw [h0];rfl)
    ⟨show ¬ (0:Int) < 0 by decide,.inr (.inl ⟨rfl,fun h=>by have:=hk 0 h;omega,by show ((ks.length:Nat):Int)=((upI m 32).length:Nat);unfold upI;rw [List.length_map,hl],by show (0:Int)≤(n:Nat);omega,by unfold BareP;simp [brN]⟩)⟩
  have hu:(Mk.upTo m 32).length≤32:=by
    unfold Mk.upTo
    exact Nat.le_trans (List.length_filter_le _ _) (by simp)
  refine ⟨?_,by show m < 4294967296;omega,by show 0≤40;decide,by show 0≤40;decide,by show ks.length≤40;omega,by simp [brN],fun q hq=>by simp [brN] at hq,rfl⟩
  rw [okH,hm',decide_eq_true rfl,Bool.true_and,List.all_eq_true]
  intro r hr
  have:r ∈ ks:=by
    simp only [rfN,brN,List.mem_filter,List.mem_append,List.mem_singleton,decide_eq_true_eq] at hr
    rcases hr.1 with h|h
    · exact h
    · exact absurd h hr.2
  have:=hk r this
  simp [hR];omega
def Rk (rec:List Pr→List Nd→List Nd × Int):Prop:=∀ l h,Tl l→Vh h→Vh (rec l h).1∧(l ≠ []→1≤(rec l h).2∧(rec l h).2≤((rec l h).1.length:Int))
theorem kT_nk {rec:List Pr→List Nd→List Nd × Int} (hr:Rk rec) (he:∀ l h,∃ T,(rec l h).1=h++T) {g:Nat→List Pr} (hg:∀ i,Tl (g i)) {h:List Nd} (hv:Vh h):∀ n,Vh (kT rec g h n).1∧∀ r ∈ (kT rec g h n).2.1,1≤r∧r≤((kT rec g h n).1.length:Int):=by
  intro n
  induction n with
  | zero=>exact ⟨hv,fun r h=>by simp [kT] at h⟩
  | succ n ih =>
    obtain ⟨i1,i2⟩:=ih
    rw [kT]
    split
    · exact ⟨i1,i2⟩
    · rename_i h0
      obtain ⟨a1,a2⟩:=hr (g n) (kT rec g h n).1 (hg n) i1
      obtain ⟨T,e⟩:=he (g n) (kT rec g h n).1
      have hlen:(kT rec g h n).1.length≤(rec (g n) (kT rec g h n).1).1.length:=by rw [e,List.length_append];omega
      refine ⟨a1,fun r hr=>?_⟩
      dsimp only at hr ⊢
      rcases List.mem_append.1 hr with h|h
      · have:=i2 r h;omega
      · rw [List.mem_singleton.1 h];exact a2 h0
theorem small_nk {l:List Pr} (h:Tl l) (h1:l.length=1) (j:Nat):Nk j (lfN (l.headD default)):=by
  match l,h1 with
  | [p],_=>exact lf_nk (h.sz p (List.mem_singleton.2 rfl)) j
theorem mkT_nk {b:Int}:∀ {f:Nat} {lv:Int},Rk (mkT b f lv):=by
  intro f
  induction f with
  | zero =>
    intro lv l h hl hv
    rw [mkT]
    split
    · rename_i h0
      exact ⟨hv,fun h=>absurd (List.length_eq_zero_iff.1 h0) h⟩
    split
    · rename_i h1
      exact ⟨hv.snoc (small_nk hl h1 _),fun _=>by simp;omega⟩
    · exact ⟨hv.snoc (bk_nk hl (by omega) _),fun _=>by simp;omega⟩
  | succ f ih =>
    intro lv l h hl hv
    rw [mkT]
    split
    · rename_i h0
      exact ⟨hv,fun h=>absurd (List.length_eq_zero_iff.1 h0) h⟩
    split
    · rename_i h1
      exact ⟨hv.snoc (small_nk hl h1 _),fun _=>by simp;omega⟩
    · obtain ⟨k1, k2, _⟩ := kT_at (rec := mkT b f (lv + 1)) (g := grp b lv l) (h := h) 32
      obtain ⟨n1,n2⟩:=kT_nk (ih (lv:=lv+1)) (fun l h=>mkT_ext l h) (g:=grp b lv l) (fun i=>hl.grp) hv 32
      exact ⟨n1.snoc (br_nk k1 k2 n2),fun _=>by simp;omega⟩
theorem vh_aH {h:List Nd} (hv:Vh h):aH h h.length=true:=by
  rw [aH,List.all_eq_true]
  intro i hi
  have hi:=List.mem_range.1 hi
  rw [List.getElem?_eq_getElem hi]
  exact (hv i _ (List.getElem?_eq_getElem hi)).ok
theorem vh_ok {h:List Nd} (hv:Vh h) (hl:h.length≤1000000):∀ x ∈ h,x.Ok:=by
  intro x hx
  obtain ⟨i,hi,e⟩:=List.mem_iff_getElem.1 hx
  exact (hv i x (by rw [List.getElem?_eq_getElem hi,e])).isOk (by omega)
theorem trie_all {b:Int} {f:Nat} (hf:f≤13) {l:List Pr} (hl:Tl l):∃ h r,(h,r)=mkT b f 0 l []∧h.length≤560∧(∀ x ∈ h,x.Ok)∧aH h h.length=true∧0≤r∧r≤(h.length:Int)∧∀ k,Lk h k b r 0 f l:=by
  obtain ⟨a1,a2⟩:=mkT_nk (b:=b) (f:=f) (lv:=0) l [] hl (fun j x h=>by simp at h)
  have hlen:=mkT_len (b:=b) (f:=f) (lv:=0) l []
  have hb:(mkT b f 0 l []).1.length≤560:=by
    have h40:=hl.le
    have:l.length * (f+1)≤40 * 14:=Nat.mul_le_mul h40 (by omega)
    simp only [List.length_nil] at hlen;omega
  have hr:0≤(mkT b f 0 l []).2∧(mkT b f 0 l []).2≤((mkT b f 0 l []).1.length:Int):=by
    by_cases h0:l=[]
    · subst h0
      have e:mkT b f 0 [] []=([],0):=by cases f<;>rfl
      rw [e];exact ⟨by decide,by decide⟩
    · have:=a2 h0;omega
  refine ⟨_,_,rfl,hb,vh_ok a1 (by omega),vh_aH a1,hr.1,hr.2,fun k=>?_⟩
  have:=mkT_lk (b:=b) (k:=k) (f:=f) (lv:=0) l [] []
  rwa [List.append_nil] at this
end Go.Proofs.Ytefkaglgekjlfaa.Sim
namespace Go.Proofs.Ytefkaglgekjlfaa.Sim
set_option maxRecDepth 100000
abbrev q0z7:AI:=(AI.mk (some 25) (AOp.mv (AX.t 2)) none)
abbrev q1z7:AI:=(AI.mk (some 26) (AOp.iad 2 (AX.t 25) (AX.c (AV.v (Value.int IntKind.i64 0)))) none)
abbrev q2z7:AI:=(AI.mk (some 27) (AOp.fad 0 (AX.t 26)) none)
abbrev q3z7:AI:=(AI.mk (some 28) (AOp.load false 1 (AX.t 27)) none)
abbrev q4z7:AI:=(AI.mk (some 29) (AOp.mv (AX.t 2)) none)
abbrev q5z7:AI:=(AI.mk (some 30) (AOp.iad 2 (AX.t 29) (AX.c (AV.v (Value.int IntKind.i64 0)))) none)
abbrev q6z7:AI:=(AI.mk (some 31) (AOp.fad 1 (AX.t 30)) none)
abbrev q7z7:AI:=(AI.mk (some 32) (AOp.load false 1 (AX.t 31)) none)
abbrev q8z7:AI:=(AI.mk (some 33) (AOp.fad 1 (AX.t 10)) none)
abbrev q9z7:AI:=(AI.mk none (AOp.store 1 (AX.t 33) (AX.t 28)) none)
abbrev q10z7:AI:=(AI.mk (some 34) (AOp.fad 2 (AX.t 10)) none)
abbrev q11z7:AI:=(AI.mk none (AOp.store 1 (AX.t 34) (AX.t 32)) none)
def E5:AF:=(AF.mk 58 [(6,none)] (AC.seq (AC.region [(AI.mk (some 6) (AOp.mv (AX.c (AV.v (Value.bool false)))) none)]) (AC.seq (AC.seq (AC.region [(AI.mk (some 14) (AOp.call 10 []) none),(AI.mk (some 15) (AOp.un UnOp.not (AX.t 14)) none)]) (AC.cond (AX.t 15) (AC.seq (AC.region [(AI.mk (some 6) (AOp.mv (AX.c (AV.v (Value.bool false)))) none)]) AC.ret) AC.skip)) (AC.seq (AC.region [(AI.mk (some 16) (AOp.mv (AX.t 1)) none),(AI.mk (some 17) (AOp.call 17 [(AX.t 16)]) none),(AI.mk (some 18) (AOp.mv (AX.t 2)) none),(AI.mk (some 19) (AOp.call 7 [(AX.t 18),(AX.c (AV.v (Value.int IntKind.i64 40)))]) none),(AI.mk (some 1) (AOp.mv (AX.t 17)) none),(AI.mk (some 2) (AOp.mv (AX.t 19)) none)]) (AC.seq (AC.seq (AC.region [(AI.mk (some 20) (AOp.mv (AX.t 1)) none),(AI.mk (some 21) (AOp.call 18 [(AX.t 20)]) none)]) (AC.cond (AX.t 21) (AC.seq (AC.region [(AI.mk (some 6) (AOp.mv (AX.c (AV.v (Value.bool true)))) none)]) AC.ret) AC.skip)) (AC.seq (AC.region [(AI.mk (some 23) (AOp.mv (AX.t 0)) none),(AI.mk (some 24) (AOp.mv (AX.t 1)) none),(AI.mk (some 25) (AOp.call 19 [(AX.t 23),(AX.t 24)]) none),(AI.mk (some 22) (AOp.mv (AX.t 25)) none),(AI.mk (some 26) (AOp.ext (AX.t 22) 0) none),(AI.mk (some 27) (AOp.ext (AX.t 22) 1) none),(AI.mk (some 7) (AOp.mv (AX.t 26)) none),(AI.mk (some 8) (AOp.mv (AX.t 27)) none)]) (AC.seq (AC.region [(AI.mk (some 29) (AOp.mv (AX.t 7)) none),(AI.mk (some 30) (AOp.mv (AX.t 8)) none),(AI.mk (some 31) (AOp.mv (AX.t 2)) none),(AI.mk (some 32) (AOp.mv (AX.t 0)) none),(AI.mk (some 33) (AOp.call 8 [(AX.t 29),(AX.t 30),(AX.t 31),(AX.t 32)]) none),(AI.mk (some 28) (AOp.mv (AX.t 33)) none),(AI.mk (some 34) (AOp.ext (AX.t 28) 0) none),(AI.mk (some 35) (AOp.ext (AX.t 28) 1) none),(AI.mk (some 36) (AOp.ext (AX.t 28) 2) none),(AI.mk (some 9) (AOp.mv (AX.t 34)) none),(AI.mk (some 10) (AOp.mv (AX.t 35)) none),(AI.mk (some 11) (AOp.mv (AX.t 36)) none)]) (AC.seq (AC.region [(AI.mk (some 38) (AOp.mv (AX.t 1)) none),(AI.mk (some 39) (AOp.mv (AX.t 2)) none),(AI.mk (some 40) (AOp.call 20 [(AX.t 38),(AX.t 39)]) none),(AI.mk (some 37) (AOp.mv (AX.t 40)) none),(AI.mk (some 41) (AOp.ext (AX.t 37) 0) none),(AI.mk (some 42) (AOp.ext (AX.t 37) 1) none),(AI.mk (some 12) (AOp.mv (AX.t 41)) none),(AI.mk (some 13) (AOp.mv (AX.t 42)) none)]) (AC.seq (AC.region [(AI.mk (some 43) (AOp.mv (AX.t 9)) none),(AI.mk (some 44) (AOp.mv (AX.t 12)) none),(AI.mk (some 45) (AOp.bin BinOp.eql 9 false (Operand.tmp 43) (Operand.tmp 44) (AX.t 43) (AX.t 44)) none),(AI.mk (some 46) (AOp.mv (AX.t 45)) none),(AI.mk (some 47) (AOp.mv (AX.t 10)) (some (46,true))),(AI.mk (some 48) (AOp.mv (AX.t 13)) (some (46,true))),(AI.mk (some 49) (AOp.bin BinOp.eql 4 false (Operand.tmp 47) (Operand.tmp 48) (AX.t 47) (AX.t 48)) (some (46,true))),(AI.mk (some 50) (AOp.pick (AX.t 46) (AX.t 49) (AX.c (AV.v (Value.bool false)))) none),(AI.mk (some 51) (AOp.mv (AX.t 50)) none),(AI.mk (some 52) (AOp.mv (AX.t 11)) (some (51,true))),(AI.mk (some 53) (AOp.mv (AX.t 0)) (some (51,true))),(AI.mk (some 54) (AOp.call 21 [(AX.t 53)]) (some (51,true))),(AI.mk (some 55) (AOp.bin BinOp.add 3 false (Operand.tmp 54) (Operand.const (Value.int IntKind.i64 1)) (AX.t 54) (AX.c (AV.v (Value.int IntKind.i64 1)))) (some (51,true))),(AI.mk (some 56) (AOp.bin BinOp.leq 3 false (Operand.tmp 52) (Operand.tmp 55) (AX.t 52) (AX.t 55)) (some (51,true))),(AI.mk (some 57) (AOp.pick (AX.t 51) (AX.t 56) (AX.c (AV.v (Value.bool false)))) none),(AI.mk (some 6) (AOp.mv (AX.t 57)) none)]) AC.ret)))))))))
theorem eop5:copF Try.prog [11,12,14,15,34,75,85,91,92,98,99,100,101,102] 5=some E5:=by kernel_rfl
def E18:AF:=(AF.mk 29 [(2,none)] (AC.seq (AC.region [(AI.mk (some 2) (AOp.mv (AX.c (AV.v (Value.bool false)))) none)]) (AC.seq (AC.region [(AI.mk (some 5) (AOp.mv (AX.t 0)) none),(AI.mk (some 6) (AOp.call 33 [(AX.t 5)]) none),(AI.mk (some 3) (AOp.mv (AX.t 6)) none)]) (AC.seq (AC.seq (AC.region [(AI.mk (some 4) (AOp.mv (AX.c (AV.v (Value.int IntKind.i64 0)))) none)]) (AC.block 0 (AC.loop (AC.seq (AC.seq (AC.region [(AI.mk (some 7) (AOp.mv (AX.t 4)) none),(AI.mk (some 8) (AOp.mv (AX.t 3)) none),(AI.mk (some 9) (AOp.len (AX.t 8)) none),(AI.mk (some 10) (AOp.bin BinOp.lss 3 false (Operand.tmp 7) (Operand.tmp 9) (AX.t 7) (AX.t 9)) none)]) (AC.cond (AX.t 10) AC.skip (AC.exit 0))) (AC.seq (AC.block 1 (AC.seq (AC.region [(AI.mk (some 13) (AOp.mv (AX.t 3)) none),(AI.mk (some 14) (AOp.mv (AX.t 4)) none),(AI.mk (some 15) (AOp.iad 2 (AX.t 13) (AX.t 14)) none),(AI.mk (some 16) (AOp.fad 0 (AX.t 15)) none),(AI.mk (some 17) (AOp.load false 1 (AX.t 16)) none),(AI.mk (some 18) (AOp.lns (AX.t 17)) none),(AI.mk (some 19) (AOp.bin BinOp.gtr 3 false (Operand.tmp 18) (Operand.const (Value.int IntKind.i64 16)) (AX.t 18) (AX.c (AV.v (Value.int IntKind.i64 16)))) none),(AI.mk (some 20) (AOp.mv (AX.t 19)) none),(AI.mk (some 21) (AOp.mv (AX.t 3)) (some (20,false))),(AI.mk (some 22) (AOp.mv (AX.t 4)) (some (20,false))),(AI.mk (some 23) (AOp.iad 2 (AX.t 21) (AX.t 22)) (some (20,false))),(AI.mk (some 24) (AOp.fad 1 (AX.t 23)) (some (20,false))),(AI.mk (some 25) (AOp.load false 1 (AX.t 24)) (some (20,false))),(AI.mk (some 26) (AOp.lns (AX.t 25)) (some (20,false))),(AI.mk (some 27) (AOp.bin BinOp.gtr 3 false (Operand.tmp 26) (Operand.const (Value.int IntKind.i64 16)) (AX.t 26) (AX.c (AV.v (Value.int IntKind.i64 16)))) (some (20,false))),(AI.mk (some 28) (AOp.pick (AX.t 20) (AX.c (AV.v (Value.bool true))) (AX.t 27)) none)]) (AC.cond (AX.t 28) (AC.seq (AC.region [(AI.mk (some 2) (AOp.mv (AX.c (AV.v (Value.bool true)))) none)]) AC.ret) AC.skip))) (AC.region [(AI.mk (some 11) (AOp.mv (AX.t 4)) none),(AI.mk (some 12) (AOp.bin BinOp.add 3 false (Operand.tmp 11) (Operand.const (Value.int IntKind.i64 1)) (AX.t 11) (AX.c (AV.v (Value.int IntKind.i64 1)))) none),(AI.mk (some 4) (AOp.mv (AX.t 12)) none)])))))) (AC.seq (AC.region [(AI.mk (some 2) (AOp.mv (AX.c (AV.v (Value.bool false)))) none)]) AC.ret)))))
theorem eop18:copF Try.prog [11,12,14,15,34,75,85,91,92,98,99,100,101,102] 18=some E18:=by kernel_rfl
def E19:AF:=(AF.mk 13 [(4,none),(5,none)] (AC.seq (AC.region [(AI.mk (some 4) (AOp.mv (AX.c (AV.nl 9))) none),(AI.mk (some 5) (AOp.mv (AX.c (AV.v (Value.int IntKind.i64 0)))) none)]) (AC.seq (AC.region [(AI.mk (some 6) (AOp.bsl 41 9 []) none),(AI.mk (some 7) (AOp.mv (AX.t 0)) none),(AI.mk (some 8) (AOp.mv (AX.t 1)) none),(AI.mk (some 9) (AOp.call 33 [(AX.t 8)]) none),(AI.mk (some 10) (AOp.callh 34 [(AX.t 6),(AX.t 7),(AX.t 9),(AX.c (AV.v (Value.int IntKind.i64 0)))]) none),(AI.mk (some 11) (AOp.ext (AX.t 10) 0) none),(AI.mk (some 12) (AOp.ext (AX.t 10) 1) none),(AI.mk (some 4) (AOp.mv (AX.t 11)) none),(AI.mk (some 5) (AOp.mv (AX.t 12)) none)]) AC.ret)))
theorem eop19:copF Try.prog [11,12,14,15,34,75,85,91,92,98,99,100,101,102] 19=some E19:=by kernel_rfl
def E34:AF:=(AF.mk 107 [(8,none),(9,none)] (AC.seq (AC.region [(AI.mk (some 8) (AOp.mv (AX.c (AV.nl 9))) none),(AI.mk (some 9) (AOp.mv (AX.c (AV.v (Value.int IntKind.i64 0)))) none)]) (AC.seq (AC.seq (AC.region [(AI.mk (some 17) (AOp.mv (AX.t 2)) none),(AI.mk (some 18) (AOp.len (AX.t 17)) none),(AI.mk (some 19) (AOp.bin BinOp.eql 3 false (Operand.tmp 18) (Operand.const (Value.int IntKind.i64 0)) (AX.t 18) (AX.c (AV.v (Value.int IntKind.i64 0)))) none)]) (AC.cond (AX.t 19) (AC.seq (AC.region [(AI.mk (some 20) (AOp.mv (AX.t 0)) none),(AI.mk (some 8) (AOp.mv (AX.t 20)) none),(AI.mk (some 9) (AOp.mv (AX.c (AV.v (Value.int IntKind.i64 0)))) none)]) AC.ret) AC.skip)) (AC.seq (AC.region [(AI.mk (some 21) (AOp.bld [(AV.v (Value.int IntKind.i64 0)),(AV.v (Value.string (ByteArray.mk #[]))),(AV.v (Value.string (ByteArray.mk #[]))),(AV.v (Value.int IntKind.u32 0)),(AV.nl 1),(AV.v (Value.int IntKind.i64 0)),(AV.nl 2),(AV.v (Value.int IntKind.i64 0)),(AV.v (Value.int IntKind.i64 0))] [(0,(1,(AX.c (AV.v (Value.int IntKind.i64 1))))),(7,(1,(AX.c (AV.v (Value.int IntKind.i64 1)))))]) none),(AI.mk (some 10) (AOp.new 41 9 (AX.c (AV.agg [(AV.v (Value.int IntKind.i64 0)),(AV.v (Value.string (ByteArray.mk #[]))),(AV.v (Value.string (ByteArray.mk #[]))),(AV.v (Value.int IntKind.u32 0)),(AV.nl 1),(AV.v (Value.int IntKind.i64 0)),(AV.nl 2),(AV.v (Value.int IntKind.i64 0)),(AV.v (Value.int IntKind.i64 0))]))) none),(AI.mk none (AOp.store 9 (AX.t 10) (AX.t 21)) none)]) (AC.seq (AC.seq (AC.region [(AI.mk (some 22) (AOp.mv (AX.t 2)) none),(AI.mk (some 23) (AOp.len (AX.t 22)) none),(AI.mk (some 24) (AOp.bin BinOp.eql 3 false (Operand.tmp 23) (Operand.const (Value.int IntKind.i64 1)) (AX.t 23) (AX.c (AV.v (Value.int IntKind.i64 1)))) none)]) (AC.cond (AX.t 24) (AC.drawx [[q0z7,q1z7,q2z7,q3z7,q4z7,q5z7,q6z7,q7z7,q8z7,q9z7,q10z7,q11z7],[q0z7,q1z7,q2z7,q3z7,q4z7,q5z7,q6z7,q8z7,q9z7,q7z7,q10z7,q11z7],[q0z7,q1z7,q2z7,q3z7,q4z7,q5z7,q8z7,q9z7,q6z7,q7z7,q10z7,q11z7],[q0z7,q1z7,q2z7,q3z7,q4z7,q8z7,q9z7,q5z7,q6z7,q7z7,q10z7,q11z7]]) (AC.seq (AC.region [(AI.mk (some 35) (AOp.mv (AX.t 3)) none),(AI.mk (some 36) (AOp.mv (AX.t 1)) none),(AI.mk (some 37) (AOp.call 21 [(AX.t 36)]) none),(AI.mk (some 38) (AOp.bin BinOp.geq 3 false (Operand.tmp 35) (Operand.tmp 37) (AX.t 35) (AX.t 37)) none)]) (AC.cond (AX.t 38) (AC.region [(AI.mk (some 39) (AOp.mv (AX.t 2)) none),(AI.mk (some 40) (AOp.mv (AX.t 2)) none),(AI.mk (some 41) (AOp.len (AX.t 40)) none),(AI.mk (some 42) (AOp.bld [(AV.v (Value.int IntKind.i64 0)),(AV.v (Value.string (ByteArray.mk #[]))),(AV.v (Value.string (ByteArray.mk #[]))),(AV.v (Value.int IntKind.u32 0)),(AV.nl 1),(AV.v (Value.int IntKind.i64 0)),(AV.nl 2),(AV.v (Value.int IntKind.i64 0)),(AV.v (Value.int IntKind.i64 0))] [(0,(1,(AX.c (AV.v (Value.int IntKind.i64 3))))),(6,(1,(AX.t 39))),(7,(1,(AX.t 41)))]) none),(AI.mk none (AOp.store 9 (AX.t 10) (AX.t 42)) none)]) (AC.seq (AC.region [(AI.mk (some 43) (AOp.mv (AX.t 2)) none),(AI.mk (some 44) (AOp.len (AX.t 43)) none),(AI.mk (some 45) (AOp.bld [(AV.v (Value.int IntKind.i64 0)),(AV.v (Value.string (ByteArray.mk #[]))),(AV.v (Value.string (ByteArray.mk #[]))),(AV.v (Value.int IntKind.u32 0)),(AV.nl 1),(AV.v (Value.int IntKind.i64 0)),(AV.nl 2),(AV.v (Value.int IntKind.i64 0)),(AV.v (Value.int IntKind.i64 0))] [(0,(1,(AX.c (AV.v (Value.int IntKind.i64 2))))),(7,(1,(AX.t 44)))]) none),(AI.mk none (AOp.store 9 (AX.t 10) (AX.t 45)) none)]) (AC.seq (AC.region [(AI.mk (some 11) (AOp.mv (AX.c (AV.v (Value.int IntKind.u32 1)))) none)]) (AC.seq (AC.region [(AI.mk (some 12) (AOp.mv (AX.c (AV.v (Value.int IntKind.i64 0)))) none)]) (AC.block 0 (AC.loop (AC.seq (AC.seq (AC.region [(AI.mk (some 46) (AOp.mv (AX.t 12)) none),(AI.mk (some 47) (AOp.bin BinOp.lss 3 false (Operand.tmp 46) (Operand.const (Value.int IntKind.i64 32)) (AX.t 46) (AX.c (AV.v (Value.int IntKind.i64 32)))) none)]) (AC.cond (AX.t 47) AC.skip (AC.exit 0))) (AC.seq (AC.block 1 (AC.seq (AC.region [(AI.mk (some 50) (AOp.bsl 67 2 []) none),(AI.mk (some 13) (AOp.mv (AX.t 50)) none)]) (AC.seq (AC.seq (AC.region [(AI.mk (some 14) (AOp.mv (AX.c (AV.v (Value.int IntKind.i64 0)))) none)]) (AC.block 2 (AC.loop (AC.seq (AC.seq (AC.region [(AI.mk (some 51) (AOp.mv (AX.t 14)) none),(AI.mk (some 52) (AOp.mv (AX.t 2)) none),(AI.mk (some 53) (AOp.len (AX.t 52)) none),(AI.mk (some 54) (AOp.bin BinOp.lss 3 false (Operand.tmp 51) (Operand.tmp 53) (AX.t 51) (AX.t 53)) none)]) (AC.cond (AX.t 54) AC.skip (AC.exit 2))) (AC.seq (AC.block 3 (AC.seq (AC.region [(AI.mk (some 57) (AOp.mv (AX.t 2)) none),(AI.mk (some 58) (AOp.mv (AX.t 14)) none),(AI.mk (some 59) (AOp.iad 2 (AX.t 57) (AX.t 58)) none),(AI.mk (some 60) (AOp.fad 0 (AX.t 59)) none),(AI.mk (some 61) (AOp.load false 1 (AX.t 60)) none),(AI.mk (some 62) (AOp.mv (AX.t 3)) none),(AI.mk (some 63) (AOp.mv (AX.t 1)) none),(AI.mk (some 64) (AOp.call 52 [(AX.t 61),(AX.t 62),(AX.t 63)]) none),(AI.mk (some 65) (AOp.mv (AX.t 12)) none),(AI.mk (some 66) (AOp.bin BinOp.eql 3 false (Operand.tmp 64) (Operand.tmp 65) (AX.t 64) (AX.t 65)) none)]) (AC.cond (AX.t 66) (AC.region [(AI.mk (some 67) (AOp.mv (AX.t 13)) none),(AI.mk (some 68) (AOp.mv (AX.t 2)) none),(AI.mk (some 69) (AOp.mv (AX.t 14)) none),(AI.mk (some 70) (AOp.iad 2 (AX.t 68) (AX.t 69)) none),(AI.mk (some 71) (AOp.load true 2 (AX.t 70)) none),(AI.mk (some 72) (AOp.bsl 67 2 [(AX.t 71)]) none),(AI.mk (some 73) (AOp.app 67 2 32 (AX.t 67) (AX.t 72)) none),(AI.mk (some 13) (AOp.mv (AX.t 73)) none)]) AC.skip))) (AC.region [(AI.mk (some 55) (AOp.mv (AX.t 14)) none),(AI.mk (some 56) (AOp.bin BinOp.add 3 false (Operand.tmp 55) (Operand.const (Value.int IntKind.i64 1)) (AX.t 55) (AX.c (AV.v (Value.int IntKind.i64 1)))) none),(AI.mk (some 14) (AOp.mv (AX.t 56)) none)])))))) (AC.seq (AC.seq (AC.region [(AI.mk (some 74) (AOp.mv (AX.t 13)) none),(AI.mk (some 75) (AOp.len (AX.t 74)) none),(AI.mk (some 76) (AOp.bin BinOp.gtr 3 false (Operand.tmp 75) (Operand.const (Value.int IntKind.i64 0)) (AX.t 75) (AX.c (AV.v (Value.int IntKind.i64 0)))) none)]) (AC.cond (AX.t 76) (AC.seq (AC.region [(AI.mk (some 78) (AOp.mv (AX.t 0)) none),(AI.mk (some 79) (AOp.mv (AX.t 1)) none),(AI.mk (some 80) (AOp.mv (AX.t 13)) none),(AI.mk (some 81) (AOp.mv (AX.t 3)) none),(AI.mk (some 82) (AOp.bin BinOp.add 3 false (Operand.tmp 81) (Operand.const (Value.int IntKind.i64 1)) (AX.t 81) (AX.c (AV.v (Value.int IntKind.i64 1)))) none),(AI.mk (some 83) (AOp.callh 34 [(AX.t 78),(AX.t 79),(AX.t 80),(AX.t 82)]) none),(AI.mk (some 77) (AOp.mv (AX.t 83)) none),(AI.mk (some 84) (AOp.ext (AX.t 77) 0) none),(AI.mk (some 85) (AOp.ext (AX.t 77) 1) none),(AI.mk (some 15) (AOp.mv (AX.t 84)) none),(AI.mk (some 16) (AOp.mv (AX.t 85)) none)]) (AC.seq (AC.region [(AI.mk (some 86) (AOp.mv (AX.t 15)) none),(AI.mk (some 0) (AOp.mv (AX.t 86)) none)]) (AC.seq (AC.region [(AI.mk (some 87) (AOp.fad 4 (AX.t 10)) none),(AI.mk (some 88) (AOp.load false 1 (AX.t 87)) none),(AI.mk (some 89) (AOp.mv (AX.t 16)) none),(AI.mk (some 90) (AOp.bsl 27 1 [(AX.t 89)]) none),(AI.mk (some 91) (AOp.app 27 1 8 (AX.t 88) (AX.t 90)) none),(AI.mk (some 92) (AOp.fad 4 (AX.t 10)) none),(AI.mk none (AOp.store 1 (AX.t 92) (AX.t 91)) none)]) (AC.region [(AI.mk (some 93) (AOp.fad 3 (AX.t 10)) none),(AI.mk (some 94) (AOp.load false 1 (AX.t 93)) none),(AI.mk (some 95) (AOp.mv (AX.t 11)) none),(AI.mk (some 96) (AOp.bin BinOp.add 37 false (Operand.tmp 94) (Operand.tmp 95) (AX.t 94) (AX.t 95)) none),(AI.mk (some 97) (AOp.fad 3 (AX.t 10)) none),(AI.mk none (AOp.store 1 (AX.t 97) (AX.t 96)) none)])))) AC.skip)) (AC.region [(AI.mk (some 98) (AOp.mv (AX.t 11)) none),(AI.mk (some 99) (AOp.bin BinOp.mul 37 false (Operand.const (Value.int IntKind.u32 2)) (Operand.tmp 98) (AX.c (AV.v (Value.int IntKind.u32 2))) (AX.t 98)) none),(AI.mk (some 11) (AOp.mv (AX.t 99)) none)]))))) (AC.region [(AI.mk (some 48) (AOp.mv (AX.t 12)) none),(AI.mk (some 49) (AOp.bin BinOp.add 3 false (Operand.tmp 48) (Operand.const (Value.int IntKind.i64 1)) (AX.t 48) (AX.c (AV.v (Value.int IntKind.i64 1)))) none),(AI.mk (some 12) (AOp.mv (AX.t 49)) none)])))))))))))) (AC.seq (AC.region [(AI.mk (some 100) (AOp.mv (AX.t 0)) none),(AI.mk (some 101) (AOp.load true 9 (AX.t 10)) none),(AI.mk (some 102) (AOp.bsl 41 9 [(AX.t 101)]) none),(AI.mk (some 103) (AOp.app 41 9 120 (AX.t 100) (AX.t 102)) none),(AI.mk (some 0) (AOp.mv (AX.t 103)) none)]) (AC.seq (AC.region [(AI.mk (some 104) (AOp.mv (AX.t 0)) none),(AI.mk (some 105) (AOp.mv (AX.t 0)) none),(AI.mk (some 106) (AOp.len (AX.t 105)) none),(AI.mk (some 8) (AOp.mv (AX.t 104)) none),(AI.mk (some 9) (AOp.mv (AX.t 106)) none)]) AC.ret)))))))
theorem eop34:copF Try.prog [11,12,14,15,34,75,85,91,92,98,99,100,101,102] 34=some E34:=by kernel_rfl
def E52:AF:=(AF.mk 13 [(6,none)] (AC.seq (AC.region [(AI.mk (some 6) (AOp.mv (AX.c (AV.v (Value.int IntKind.i64 0)))) none)]) (AC.seq (AC.region [(AI.mk (some 7) (AOp.mv (AX.t 0)) none),(AI.mk (some 8) (AOp.mv (AX.t 2)) none),(AI.mk (some 9) (AOp.call 41 [(AX.t 7),(AX.t 8)]) none),(AI.mk (some 10) (AOp.mv (AX.t 1)) none),(AI.mk (some 11) (AOp.mv (AX.t 2)) none),(AI.mk (some 12) (AOp.call 40 [(AX.t 9),(AX.t 10),(AX.t 11)]) none),(AI.mk (some 6) (AOp.mv (AX.t 12)) none)]) AC.ret)))
theorem eop52:copF Try.prog [11,12,14,15,34,75,85,91,92,98,99,100,101,102] 52=some E52:=by kernel_rfl
end Go.Proofs.Ytefkaglgekjlfaa.Sim
namespace Go.Proofs.Ytefkaglgekjlfaa.Sim
open Go.RowKit
set_option maxRecDepth 100000
def B (h:List Nd) (r:Int):List Pr:=bl h h.length r
def C (h:List Nd) (r:Int):Nat:=ct h h.length r
def bA (b:Bool):AV:=.v (.bool b)
theorem nr_b (l:List Bool):(l.map bA).all nrB=true:=by simp [bA,nrB,AV.cells]
theorem bA_at {l:List Bool} {k:Nat} {c:Bool} (h:l[k]? = some c):(l.map bA)[k]? = some (.v (.bool c)):=by simp [h,bA]
theorem bA_set {l:List Bool} {k:Nat} {c:Bool}:(l.map bA).set k (.v (.bool c))=(l.set k c).map bA:=by simp [bA,List.map_set]
theorem bA_rep {n:Nat}:List.replicate n (AV.v (.bool false))=(List.replicate n false).map bA:=by simp [bA]
def nz (h:List Nd) (r:Int):Bool:=decide (B h r ≠ [])
section
variable (G:Nat→AV)
end
end Go.Proofs.Ytefkaglgekjlfaa.Sim
namespace Go.Proofs.Ytefkaglgekjlfaa.Sim
open Go.RowKit
set_option maxRecDepth 100000
theorem nr_p (l:List Pr):(l.map pA).all nrB=true:=by simp [pA,nrB,AV.cells]
section
variable (G:Nat→AV)
end
end Go.Proofs.Ytefkaglgekjlfaa.Sim
namespace Go.Proofs.Ytefkaglgekjlfaa.Sim
open Go.RowKit
set_option maxRecDepth 100000
section
variable (G:Nat→AV)
end
end Go.Proofs.Ytefkaglgekjlfaa.Sim
namespace Go.Proofs.Ytefkaglgekjlfaa.Sim
open Go.RowKit
set_option maxRecDepth 100000
def rfs (h:List Nd) (k:Int):List Int:=match h[(k - 1).toNat]? with|some x=>rfN x|none=>[]
inductive Rch (h:List Nd) (r:Int):Int→Prop
  | base (h0:0 < r):Rch h r r
  | step {k c:Int} (hk:Rch h r k) (hc:c ∈ rfs h k):Rch h r c
theorem Rch.trans {h:List Nd} {r k c:Int} (h1:Rch h r k) (h2:Rch h k c):Rch h r c:=by
  induction h2 with
  | base _=>exact h1
  | step _ hc ih=>exact .step ih hc
theorem rfs_bd {h:List Nd} (hh:aH h h.length=true) {k c:Int} (hc:c ∈ rfs h k):1≤c∧(0 < k→c < k)∧c < (h.length:Int):=by
  unfold rfs at hc
  rcases Nat.lt_or_ge (k - 1).toNat h.length with hi|hi
  · rw [List.getElem?_eq_getElem hi] at hc
    have:=okH_ref (okH_of hh hi) hc
    omega
  · rw [List.getElem?_eq_none hi] at hc;cases hc
theorem Rch.bd {h:List Nd} (hh:aH h h.length=true) {r k:Int} (hk:Rch h r k):0 < k∧k≤r:=by
  induction hk with
  | base h0=>omega
  | step _ hc ih=>have:=rfs_bd hh hc;omega
noncomputable def rc (h:List Nd) (r k:Int):Bool:=@decide (Rch h r k) (Classical.propDecidable _)
theorem rc_iff {h:List Nd} {r k:Int}:rc h r k=true↔Rch h r k:=by simp [rc]
noncomputable def rl (h:List Nd) (r:Int):Nat→List Int
  | 0=>[]
  | n+1=>(if rc h r ((n:Int)+1) then [(n:Int)+1] else [])++rl h r n
noncomputable def rp (h:List Nd) (r:Int) (n:Nat):Nat→List Int
  | 0=>[]
  | j+1=>rp h r n j++(if rc h r ((n:Int) - j) then [(n:Int) - j] else [])
theorem rp_all {h:List Nd} {r:Int}:∀ {n j:Nat},j≤n→rp h r n j++rl h r (n - j)=rl h r n:=by
  intro n j
  induction j with
  | zero=>intro _;simp [rp]
  | succ j ih =>
    intro hj
    rw [← ih (by omega),rp,List.append_assoc]
    congr 1
    have e:n - j=(n - (j+1))+1:=by omega
    have e2:((n - (j+1):Nat):Int)+1=(n:Int) - j:=by omega
    rw [e,rl,e2]
theorem rp_end {h:List Nd} {r:Int} {n:Nat}:rp h r n n=rl h r n:=by
  have:=rp_all (h:=h) (r:=r) (Nat.le_refl n)
  rw [Nat.sub_self] at this
  simpa [rl] using this
theorem rp_len {h:List Nd} {r:Int} {n:Nat}:∀ {j:Nat},(rp h r n j).length≤j:=by
  intro j
  induction j with
  | zero=>simp [rp]
  | succ j ih=>rw [rp,List.length_append];split<;>simp<;>omega
def mk (h:List Nd):Nat→Int→List Bool→List Bool
  | 0,_,a=>a
  | n+1,r,a=>if r≤0∨a.getD (r - 1).toNat true=true then a else (rfs h r).foldl (fun a k=>mk h n k a) (a.set (r - 1).toNat true)
theorem mk_len {h:List Nd}:∀ {n:Nat} {r:Int} {a:List Bool},(mk h n r a).length=a.length:=by
  intro n
  induction n with
  | zero=>intro r a;rfl
  | succ n ih =>
    intro r a
    rw [mk];split
    · rfl
    · have key : ∀ (l : List Int) (a : List Bool), (l.foldl (fun a k => mk h n k a) a).length = a.length := by
        intro l
        induction l with
        | nil=>intro a;rfl
        | cons x t iht=>intro a;rw [List.foldl_cons,iht,ih]
      rw [key,List.length_set]
abbrev on (a:List Bool) (r:Int):Prop:=a.getD (r - 1).toNat false=true
structure MkS (h:List Nd) (a b:List Bool) (rs:List Int):Prop where
  mono:∀ k:Int,0 < k→on a k→on b k
  only:∀ k:Int,0 < k→on b k→on a k∨∃ r ∈ rs,Rch h r k
  clos:∀ k:Int,0 < k→on b k→¬ on a k→∀ c ∈ rfs h k,on b c
  all:∀ r ∈ rs,on b r
theorem mk_all {h:List Nd} (hh:aH h h.length=true) {r:Int} {a b:List Bool} (hs:MkS h a b [r]) (hoffs:∀ k:Int,¬ on a k) {k:Int} (hk:Rch h r k):on b k:=by
  induction hk with
  | base _=>exact hs.all r (List.mem_singleton.2 rfl)
  | step hkk hc ih=>exact hs.clos _ (hkk.bd hh).1 ih (hoffs _) _ hc
end Go.Proofs.Ytefkaglgekjlfaa.Sim
namespace Go.Proofs.Ytefkaglgekjlfaa.Sim
open Go.RowKit
set_option maxRecDepth 100000
theorem fold_snoc {h:List Nd} {n:Nat} {l:List Int} {a:List Bool} {k:Nat} (hk:k < l.length):(l.take (k+1)).foldl (fun a k=>mk h n k a) a=mk h n l[k] ((l.take k).foldl (fun a k=>mk h n k a) a):=by
  rw [List.take_succ_eq_append_getElem hk,List.foldl_append];rfl
section
variable (G:Nat→AV)
end
end Go.Proofs.Ytefkaglgekjlfaa.Sim
namespace Go.Proofs.Ytefkaglgekjlfaa.Sim
open Go.RowKit
abbrev Fl (lo:Nat):Fence:=Fence.wide.inRound lo
theorem op_in {lo n:Nat} {P:Program} {o:Oper} {a:Act} {w:World} {K:Act→World→Prop} {Q:Exit→Act→World→Prop} (hd:∀ c,o.op ≠ .defer c) (h:o.wp P a w K (fun _ _ _=>False)):o.wpIn (Fl lo) n P a w K Q:=by
  unfold Oper.wp at h
  refine ⟨fun _ _=>trivial,?_⟩
  show o.uponIn (Fl lo) n P a K Q ((o.semAt (some lo) a.eval).run P w)
  rw [Oper.semAt_eq _ _ _ hd]
  generalize (execOp a.eval o).run P w=r at h
  cases r with
  | ok nx w' =>
    cases nx with
    | value v=>exact h
    | skip=>exact h
    | defer d=>exact h
    | enter f args =>
      refine ⟨fun hh=>(by cases hh),?_⟩
      have h2:CallsIn (Fl lo) (n - 1) P f args w' _:=callsIn_wide.2 h
      refine h2.mono fun e w'' he=>?_
      cases e with
      | returned v=>exact he
      | panicked c=>exact he.elim
      | outgrown=>obtain ⟨_,_,hh⟩:=he;exact hh.elim
    | row row args=>exact ⟨fun hh=>(by cases hh),fun c cs _=>let ⟨v,w',r,s⟩:=h c cs;⟨v,w',r,stepsIn_wide.2 s⟩⟩
    | _=>exact h.elim
  | halt hl w'=>cases hl<;>exact h.elim
theorem nodefer {P:Program} {G:Nat→AV} {hs:List FuncId} {ops:Array Oper} {o:Oper} {ev:AX→AV} {H:Hp} {d:Option Nat} {k:AV→Hp→Prop} (h:AWop P G ev H (convG ops d (copOpB P hs o)) k):∀ c,o.op ≠ .defer c:=by
  intro c hc
  have h1:copOpB P hs o = .bad:=by unfold copOpB copOp;simp [hc]
  rw [h1] at h
  exact h
section
variable {P:Program} {b:Frame} {a:Act} {k:List Item} {cs:List Frame} {w:World} {c:Code}
theorem stepR_scope:step P (lone (b.atR a (.code (.scope c)::k)) cs w) = .next (lone (b.atR a (.code c :: .inScope c::k)) cs w) :=
  step_lone_go (by simp [stepG,stepG.exec,Frame.atR])
theorem stepR_inScope:step P (lone (b.atR a (.inScope c::k)) cs w) = .next (lone (b.atR a k) cs w) :=
  step_lone_go (by simp [stepG,stepG.exec,Frame.atR])
end
theorem wpIn_scope_straight {F:Fence} {n:Nat} {P:Program} {Q:Exit→Act→World→Prop} {a:Act} {w:World} {c:Code} (h:c.wpIn F n P (Exit.noGoto Q) a w):(Code.scope c).wpIn F n P Q a w:=by
  intro b k cs hro hb hr
  have h0:(lone (b.atR a (.code (.scope c)::k)) cs w).fenced P F:=fenced_calm hb hr rfl
  obtain ⟨e,a₁,w₁,hq,harr⟩:=h b (.inScope c::k) cs hro hb hr
  cases e with
  | normal=>exact ⟨.normal,a₁,w₁,hq,.head h0 stepR_scope (StepsIn.trans harr (.one (fenced_calm hb hr rfl) stepR_inScope))⟩
  | exit id=>exact ⟨.exit id,a₁,w₁,hq,fun k' hk=>.head h0 stepR_scope (harr.1 k' (by simp [exitTo,hk])),fun hr' hk=>let ⟨k₁,h1,h2⟩:=harr.2 hr' (by simp [exitTo,hk]);⟨k₁,h1,.head h0 stepR_scope h2⟩⟩
  | goto l=>exact hq.elim
  | ret=>exact ⟨_,a₁,w₁,hq,.of_steps (.one h0 stepR_scope) harr⟩
  | panic ch=>exact ⟨_,a₁,w₁,hq,.of_steps (.one h0 stepR_scope) harr⟩
  | outgrown=>exact ⟨_,a₁,w₁,hq,.of_steps (.one h0 stepR_scope) harr⟩
section
variable {P:Program} {G:Nat→AV} {hs:List FuncId} {B:Bd} {w0:World} {F0 F1:Fz} {O1:Ow} {lo n:Nat}
theorem AWi_okIn {ops : Array Oper} {i : Nat} {o : Oper} {ai : AI} (hi : ops[i]? = some o) (hc : copI P hs ops o = some ai) {st : St} {a : Act} {w : World} {F : Fz} {O : Ow} (h : Rl G B w0 F0 F1 O1 F O st a w) {k : St → Prop} (hk : AWi P G ai st k)
    {K:Act→World→Prop} {Q:Exit→Act→World→Prop} (hK:∀ st' a' w' F' O',k st'→Rl G B w0 F0 F1 O1 F' O' st' a' w'→K a' w'):wpOpIn (Fl lo) n P ops Q i K a w:=by
  unfold wpOpIn
  simp only [hi]
  simp only [copI] at hc
  split at hc
  · rename_i hg
    cases hc
    have hw:Region.wanted o (yielded ops a.tmps)=true:=by unfold Region.wanted;rw [hg]
    simp only [hw,if_true]
    simp only [AWi] at hk
    exact op_in (nodefer hk) (AWop_okG (hs:=hs) (Q:=fun _ _ _=>False) h hk fun r H' x w' hkr hout=>by
      obtain ⟨F',O',h'⟩:=h.put (d:=o.dst) hout
      exact hK _ _ _ F' O' hkr h')
  · rename_i j want hg
    split at hc
    · rename_i t ht
      cases hc
      simp only [AWi] at hk
      split at hk
      · rename_i b hb
        have hy:yielded ops a.tmps j=some b:=by
          unfold yielded
          rw [ht]
          simp only [Option.bind_some,h.guard hb]
        by_cases hbw:b=want
        · rw [if_pos hbw] at hk
          have hw:Region.wanted o (yielded ops a.tmps)=true:=by unfold Region.wanted;rw [hg];simp [hy,hbw]
          simp only [hw,if_true]
          exact op_in (nodefer hk) (AWop_okG (hs:=hs) (Q:=fun _ _ _=>False) h hk fun r H' x w' hkr hout=>by
            obtain ⟨F',O',h'⟩:=h.put (d:=o.dst) hout
            exact hK _ _ _ F' O' hkr h')
        · rw [if_neg hbw] at hk
          have hw:Region.wanted o (yielded ops a.tmps)=false:=by unfold Region.wanted;rw [hg];simp [hy,hbw]
          simp only [hw,Bool.false_eq_true,if_false]
          obtain ⟨F',O',h'⟩:=h.put (d:=o.dst) (r:=undefA) (x:=undef) (Out.same h.own undef_ok)
          exact ⟨fun _ _=>trivial,hK _ _ _ F' O' hk h'⟩
      · rename_i hb
        have hu:=h.guardU hb
        have hy:yielded ops a.tmps j=none:=by
          unfold yielded
          rw [ht]
          simp only [Option.bind_some]
          rw [Array.getD_eq_getD_getElem?] at hu
          cases hq:a.tmps[t]? with
          | none=>rfl
          | some q=>rw [hq] at hu;simp only [Option.getD_some] at hu;subst hu;rfl
        have hw:Region.wanted o (yielded ops a.tmps)=false:=by unfold Region.wanted;rw [hg];simp [hy]
        simp only [hw,Bool.false_eq_true,if_false]
        obtain ⟨F',O',h'⟩:=h.put (d:=o.dst) (r:=undefA) (x:=undef) (Out.same h.own undef_ok)
        exact ⟨fun _ _=>trivial,hK _ _ _ F' O' hk h'⟩
      · exact hk.elim
    · cases hc
theorem AWs_okIn {ops : Array Oper} {Q : Exit → Act → World → Prop} {k : St → Prop} (hK : ∀ st' a' w' F' O', k st' → Rl G B w0 F0 F1 O1 F' O' st' a' w' → Q .normal a' w') :
    ∀ (l:List Nat) (as_:List AI),l.length=as_.length→(∀ (j i:Nat) (ai:AI),l[j]? = some i→as_[j]? = some ai→∃ o,ops[i]? = some o∧copI P hs ops o=some ai) →
    ∀ (st:St) (a:Act) (w:World) (F:Fz) (O:Ow),AWs P G as_ k st→Rl G B w0 F0 F1 O1 F O st a w→wpOpsIn (Fl lo) n P ops Q l a w
  | [],[],_,_,st,a,w,F,O,hk,h=>hK st a w F O hk h
  | [],_::_,hl,_,_,_,_,_,_,_,_=>by simp at hl
  | _::_,[],hl,_,_,_,_,_,_,_,_=>by simp at hl
  | i::l,ai::as_,hl,hop,st,a,w,F,O,hk,h=>by
    rw [wpOpsIn_cons]
    obtain ⟨o,ho,hc⟩:=hop 0 i ai rfl rfl
    simp only [AWs] at hk
    exact AWi_okIn ho hc h hk fun st' a' w' F' O' hk' h'=>AWs_okIn hK l as_ (by simpa using hl) (fun j i ai hj ha=>hop (j+1) i ai hj ha) st' a' w' F' O' hk' h'
theorem region_textIn {ops : Array Oper} {id : Nat} {as_ : List AI} (hc : copIs P hs ops ops.toList = some as_) {Q : Exit → Act → World → Prop} {k : St → Prop} (hK : ∀ st' a' w' F' O', k st' → Rl G B w0 F0 F1 O1 F' O' st' a' w' → Q .normal a' w')
    {st:St} {a:Act} {w:World} {F:Fz} {O:Ow} (hk:AWs P G as_ k st) (h:Rl G B w0 F0 F1 O1 F O st a w):(Code.region id ops false).wpIn (Fl lo) n P Q a w:=by
  obtain ⟨q1,q2⟩:=copIs_at hc
  refine wpIn_region (AWs_okIn (hs:=hs) hK (List.range ops.size) as_ (by simpa using q1) (fun j i ai hj ha=>?_) st a w F O hk h)
  have hjl:j < ops.size:=by have:=(List.getElem?_eq_some_iff.1 hj).1;simpa using this
  rw [List.getElem?_range hjl] at hj
  cases hj
  exact ⟨ops[j],Array.getElem?_eq_getElem hjl,q2 j _ ai (by simp [hjl]) ha⟩
theorem region_drawIn {ops : Array Oper} {id : Nat} {as_ : List AI} (hc : copIs P hs ops ops.toList = some as_) {Q : Exit → Act → World → Prop} {k : St → Prop} (hK : ∀ st' a' w' F' O', k st' → Rl G B w0 F0 F1 O1 F' O' st' a' w' → Q .normal a' w')
    {st:St} {a:Act} {w:World} {F:Fz} {O:Ow} (hk:∀ t,∃ bs:List AI,bs.length=(Region.schedule (P.follows .mixedOrders) ops t).length∧(∀ (j i:Nat) (ai:AI),(Region.schedule (P.follows .mixedOrders) ops t)[j]? = some i→bs[j]? = some ai→as_[i]? = some ai)∧AWs P G bs k st)
    (h:Rl G B w0 F0 F1 O1 F O st a w):(Code.region id ops true).wpIn (Fl lo) n P Q a w:=by
  obtain ⟨q1,q2⟩:=copIs_at hc
  refine wpIn_region_draw fun t=>?_
  obtain ⟨bs,b1,b2,b3⟩:=hk t
  refine AWs_okIn (hs:=hs) hK _ bs b1.symm (fun j i ai hj ha=>?_) st a _ F O b3 h.drew
  have hai:=b2 j i ai hj ha
  have hil:i < ops.size:=by have:=(List.getElem?_eq_some_iff.1 hai).1;rw [← q1] at this;simpa using this
  exact ⟨ops[i],Array.getElem?_eq_getElem hil,q2 i _ ai (by simp [hil]) hai⟩
end
section
variable {P:Program} {G:Nat→AV} {hs:List FuncId} {B:Bd} {w0:World} {F0 F1:Fz} {O1:Ow} {m lo n:Nat}
theorem V_okIn (hm : O1.length ≤ m) : ∀ (c : Code) (ac : AC), copC P hs c = some ac → ∀ (Q : EX → St → Prop) (Q' : Exit → Act → World → Prop) (st : St) (a : Act) (w : World) (F : Fz) (O : Ow), V P G m ac Q st → Rl G B w0 F0 F1 O1 F O st a w →
    (∀ e st' a' w' F' O',Q e st'→Rl G B w0 F0 F1 O1 F' O' st' a' w'→Q' e.out a' w')→c.wpIn (Fl lo) n P Q' a w:=by
  intro c
  induction c with
  | skip=>intro ac hc Q Q' st a w F O h hr hQ;cases hc;exact wpIn_skip (hQ .n st a w F O h hr)
  | label l=>intro ac hc Q Q' st a w F O h hr hQ;cases hc;exact wpIn_label (hQ .n st a w F O h hr)
  | region id ops draw =>
    intro ac hc Q Q' st a w F O h hr hQ
    obtain ⟨s,H⟩:=st
    simp only [copC] at hc
    split at hc
    · rename_i as_ has
      cases draw with
      | false =>
        cases hc
        exact region_textIn has (k:=fun st=>Q .n ⟨st.s,st.H⟩) (fun st' a' w' F' O' hk hr'=>hQ .n st' a' w' F' O' hk hr') (vops_ok P G (k:=fun s' H'=>Q .n ⟨s',H'⟩) h) hr
      | true =>
        simp only [if_true] at hc
        split at hc
        · rename_i hd
          cases hc
          exact region_drawIn has (k:=fun st=>Q .n ⟨st.s,st.H⟩) (fun st' a' w' F' O' hk hr'=>hQ .n st' a' w' F' O' hk hr') (draw_orders (copIs_at has).1 hd (vdops_ok P G (k:=fun s' H'=>Q .n ⟨s',H'⟩) h)) hr
        · split at hc
          · rename_i hd
            cases hc
            exact region_drawIn has (k:=fun st=>Q .n ⟨st.s,st.H⟩) (fun st' a' w' F' O' hk hr'=>hQ .n st' a' w' F' O' hk hr') (drawx_orders (copIs_at has).1 hd (vdx_ok P G (k:=fun s' H'=>Q .n ⟨s',H'⟩) h)) hr
          · cases hc
    · cases hc
  | seq x y ihx ihy =>
    intro ac hc Q Q' st a w F O h hr hQ
    simp only [copC] at hc
    split at hc
    · rename_i p q hp hq
      cases hc
      refine wpIn_seq (ihx p hp _ _ st a w F O h hr fun e st' a' w' F' O' he hr'=>?_)
      cases e with
      | n =>
        rcases he with he|⟨st2,hf,he⟩|⟨i,n,cv,he⟩|⟨ss,cv,he⟩
        · exact ihy q hq Q Q' st' a' w' F' O' he hr' hQ
        · obtain ⟨O2, hr2⟩ := hr'.forget hm hf
          exact ihy q hq Q Q' st2 a' w' F' O2 he hr2 hQ
        · obtain ⟨s', H'⟩ := st'
          obtain ⟨st2,F2,he,hr2⟩:=fzK_ok he hr'
          exact ihy q hq Q Q' st2 a' w' F2 O' he hr2 hQ
        · obtain ⟨s', H'⟩ := st'
          obtain ⟨st2,he,hr2⟩:=nlK_ok he hr'
          exact ihy q hq Q Q' st2 a' w' F' O' he hr2 hQ
      | x id=>exact hQ (.x id) st' a' w' F' O' he hr'
      | r=>exact hQ .r st' a' w' F' O' he hr'
    · cases hc
  | cond c x y ihx ihy =>
    intro ac hc Q Q' st a w F O h hr hQ
    obtain ⟨s,H⟩:=st
    simp only [copC] at hc
    split at hc
    · rename_i p q r hp hq hr'
      cases hc
      have ho:=hr.operand 0 c p hp
      simp only [V,eK_eq] at h
      split at h
      · rename_i v hv
        split at h
        · rename_i b
          rw [hv] at ho
          have ho:=ho.pvC rfl
          have e:a.eval c = .bool b:=by generalize a.eval c=q at ho;cases ho;rfl
          obtain ⟨h1,h2⟩:=h
          cases b
          · exact wpIn_cond_false e (ihy r hr' Q Q' _ a w F O (h2 rfl) hr hQ)
          · exact wpIn_cond_true e (ihx q hq Q Q' _ a w F O (h1 rfl) hr hQ)
        · exact h.elim
      · exact h.elim
    · cases hc
  | block id c ih =>
    intro ac hc Q Q' st a w F O h hr hQ
    simp only [copC] at hc
    split at hc
    · rename_i p hp
      cases hc
      refine wpIn_block (ih p hp _ _ st a w F O h hr fun e st' a' w' F' O' he hr'=>?_)
      cases e with
      | n=>exact hQ .n st' a' w' F' O' he hr'
      | x id' =>
        simp only [blockQ] at he
        show (if id'=id then Q' .normal a' w' else Q' (.exit id') a' w')
        by_cases hid:id'=id
        · rw [if_pos hid] at he ⊢;exact hQ .n st' a' w' F' O' he hr'
        · rw [if_neg hid] at he ⊢;exact hQ (.x id') st' a' w' F' O' he hr'
      | r=>exact hQ .r st' a' w' F' O' he hr'
    · cases hc
  | loop c ih =>
    intro ac hc Q Q' st a w F O h hr hQ
    simp only [copC] at hc
    split at hc
    · rename_i p hp
      cases hc
      obtain ⟨α,J,μ,sc,a0,h0,h1,h2⟩:=h
      have key:∀ (nn:Nat) (x:α) (a:Act) (w:World) (F:Fz) (O:Ow),μ x < nn→J x→Rl G B w0 F0 F1 O1 F O (sc x) a w→Code.roundsIn (Fl lo) n P c Q' nn a w:=by
        intro nn
        induction nn with
        | zero=>intro x a w F O hx;omega
        | succ nn ihn =>
          intro x a w F O hx hJ hr
          rw [roundsIn_succ]
          refine ih p hp _ _ (sc x) a w F O (h2 x hJ) hr fun e st' a' w' F' O' he hr'=>?_
          cases e with
          | n =>
            obtain ⟨x',g1,g2,g3⟩:=he
            obtain ⟨O2,hr2⟩:=hr'.forget hm g3
            exact ihn x' a' w' F' O2 (by omega) g1 hr2
          | x id=>exact hQ (.x id) st' a' w' F' O' he hr'
          | r=>exact hQ .r st' a' w' F' O' he hr'
      obtain ⟨O2,hr2⟩:=hr.forget hm h1
      exact wpIn_loop_rounds (μ a0+1) (key (μ a0+1) a0 a w F O2 (Nat.lt_succ_self _) h0 hr2)
    · cases hc
  | scope c ih =>
    intro ac hc Q Q' st a w F O h hr hQ
    simp only [copC] at hc
    split at hc
    · rename_i p hp
      cases hc
      refine wpIn_scope_straight (ih p hp Q _ st a w F O h hr fun e st' a' w' F' O' he hr'=>?_)
      have:=hQ e st' a' w' F' O' he hr'
      cases e<;>exact this
    · cases hc
  | exit id=>intro ac hc Q Q' st a w F O h hr hQ;cases hc;exact wpIn_exit (hQ (.x id) st a w F O h hr)
  | ret=>intro ac hc Q Q' st a w F O h hr hQ;cases hc;exact wpIn_ret (hQ .r st a w F O h hr)
  | rangeFunc=>intro ac hc;cases hc
  | goto=>intro ac hc;cases hc
  | refuse=>intro ac hc;cases hc
end
def NC (w:World) (b:Nat):Prop:=∃ o,w.heap[b]? = some o∧(match o with|.cells ..=>False|_=>True)
theorem NC.lt {w:World} {b:Nat} (h:NC w b):b < w.heap.size:=by
  obtain ⟨o,h,_⟩:=h
  rcases Nat.lt_or_ge b w.heap.size with hh|hh
  · exact hh
  · rw [Array.getElem?_eq_none hh] at h;cases h
theorem NC.cell {w:World} {b o:Nat} {p v} (h:NC w b) (hc:w.cell? ⟨b,o,p⟩=some v):False:=by
  obtain ⟨ob,h1,h2⟩:=h
  unfold World.cell? at hc
  simp only [h1] at hc
  cases ob<;>simp_all
theorem NC.row {B:Bd} {F:Fz} {O:Ow} {w:World} {d:Ds} {ob:OB} {b:Nat} (h:NC w b) (hr:Row B F O w d ob):d.b ≠ b:=by
  obtain ⟨o,h1,h2⟩:=h
  obtain ⟨cur,hc,_⟩:=hr.cur
  rintro rfl
  rw [hc] at h1;cases h1;exact h2
theorem Row.ok {B B':Bd} {F:Fz} {O:Ow} {w:World} {d:Ds} {ob:OB} (h:Row B F O w d ob) (hb:B'.ok d.b):Row B' F O w d ob:=⟨h.hg,h.hk,hb,h.cur,h.hC,h.hl,h.hn,h.h1,h.hf,h.hz⟩
theorem Own.re {B:Bd} {w0 w:World} {F0 F:Fz} {O:Ow} {H:Hp} (h:Own B w0 F0 F O H w) (K':Nat→Prop) (hK:∀ b,K' b→NC w b) (ds:List Deferred):Own ⟨B.n,fun b=>B.K b∨K' b,ds⟩ w F0 F O H w :=
  ⟨h.len,fun i d ob h1 h2=>have hr:=h.row i d ob h1 h2;hr.ok ⟨hr.hB.1,fun hk=>hk.elim hr.hB.2 fun hk=>(hK _ hk).row hr rfl⟩,h.inj,h.fr,h.le,
    fun b o v hv=>(h.new b o v hv).imp id fun hb=>⟨hb.1,fun hk=>hk.elim hb.2 fun hk=>(hK _ hk).cell (h.fr b o v hv)⟩,Below.refl _ _,h.size,fun _ _=>rfl,
    fun b hk=>hk.elim (fun hk=>Nat.lt_of_lt_of_le (h.kb b hk) h.below.size) fun hk=>(hK b hk).lt⟩
theorem Own.un {B B':Bd} {w0 w w':World} {F0 F F':Fz} {O O':Ow} {H H':Hp} (h0:Own B w0 F0 F O H w) (h:Own B' w F0 F' O' H' w') (hn:B'.n=B.n) (hK:∀ b,B.K b→B'.K b):Own B w0 F0 F' O' H' w' :=
  ⟨h.len,fun i d ob h1 h2=>have hr:=h.row i d ob h1 h2;hr.ok ⟨hn ▸ hr.hB.1,fun hk=>hr.hB.2 (hK _ hk)⟩,h.inj,h.fr,h.le,
    fun b o v hv=>(h.new b o v hv).imp id fun hb=>⟨hn ▸ hb.1,fun hk=>hb.2 (hK _ hk)⟩,h0.below.trans (hn ▸ h.below),hn ▸ h.size,fun b hk=>(h.kept b (hK b hk)).trans (h0.kept b hk),h0.kb⟩
theorem Own.putNC {B:Bd} {w0 w:World} {F0 F:Fz} {O:Ow} {H:Hp} (h:Own B w0 F0 F O H w) {lo:Nat} (o:Obj) (hl:NC w lo) (hn:B.n≤lo) (hk:¬ B.K lo):Own B w0 F0 F O H (w.putObj lo o) :=
  ⟨h.len, fun i d ob h1 h2 => by
      have hr:=h.row i d ob h1 h2
      have hne:=hl.row hr
      obtain ⟨cur,c1,c2,c3⟩:=hr.cur
      exact ⟨hr.hg,hr.hk,hr.hB,⟨cur,(World.putObj_heap_other hne).trans c1,c2,c3⟩,hr.hC,hr.hl,hr.hn,hr.h1,hr.hf,hr.hz⟩,h.inj,
    fun b o' v hv=>(World.cell?_of_block (World.putObj_heap_other fun e=>hl.cell (by have:=h.fr b o' v hv;rw [show b=lo from e] at this;exact this))).trans (h.fr b o' v hv),h.le,h.new,
    h.below.trans ⟨rfl,rfl,rfl,by simp,fun k hlt=>World.putObj_heap_other (by omega)⟩,by simpa using h.size,fun b hb=>(World.putObj_heap_other fun e=>hk (by rw [← show b=lo from e];exact hb)).trans (h.kept b hb),h.kb⟩
abbrev dmark (D:Nat):Deferred:={ target:=.collected D,args:=#[] }
structure Ext (B:Bd) (w0:World) (F0:Fz) (B':Bd) (w0':World):Prop where
  n:B'.n=B.n
  K:∀ b,B.K b→B'.K b
  kept:∀ b,B.K b→w0'.heap[b]? = w0.heap[b]?
  back:∀ F O H w,Own B' w0' F0 F O H w→Own B w0 F0 F O H w
  size:w0.heap.size≤w0'.heap.size
  ds:∃ Ds:List Nat,B'.ds=Ds.map dmark++B.ds∧Ds.Nodup∧∀ D ∈ Ds,w0.heap.size≤D∧B.n≤D∧B'.K D∧w0'.heap[D]? = some (.deferred (some []))
theorem Ext.refl (B:Bd) (w0:World) (F0:Fz):Ext B w0 F0 B w0:=⟨rfl,fun _ h=>h,fun _ _=>rfl,fun _ _ _ _ h=>h,Nat.le_refl _,[],rfl,.nil,fun _ h=>by cases h⟩
theorem Ext.trans {B B1 B2:Bd} {w0 w1 w2:World} {F0:Fz} (h:Ext B w0 F0 B1 w1) (k:Ext B1 w1 F0 B2 w2):Ext B w0 F0 B2 w2:=by
  obtain ⟨D1,e1,n1,p1⟩:=h.ds
  obtain ⟨D2,e2,n2,p2⟩:=k.ds
  refine ⟨k.n.trans h.n,fun b hb=>k.K b (h.K b hb),fun b hb=>(k.kept b (h.K b hb)).trans (h.kept b hb),fun F O H w hw=>h.back _ _ _ _ (k.back _ _ _ _ hw),Nat.le_trans h.size k.size,D2++D1,by rw [e2,e1];simp,?_,?_⟩
  · rw [List.nodup_append]
    refine ⟨n2,n1,fun a ha b hb hab=>?_⟩
    subst hab
    have q1:=(p2 a ha).1
    have q2:=(p1 a hb).2.2.2
    rw [Array.getElem?_eq_none q1] at q2;cases q2
  · intro D hD
    rcases List.mem_append.1 hD with hD|hD
    · obtain ⟨q1, q2, q3, q4⟩ := p2 D hD
      exact ⟨Nat.le_trans h.size q1,h.n ▸ q2,q3,q4⟩
    · obtain ⟨q1, q2, q3, q4⟩ := p1 D hD
      exact ⟨q1,q2,k.K D q3,(k.kept D q3).trans q4⟩
theorem Rl.keepB {G:Nat→AV} {B:Bd} {w0:World} {F0 F1:Fz} {O1:Ow} {F:Fz} {O:Ow} {st:St} {a:Act} {w w':World} (h:Rl G B w0 F0 F1 O1 F O st a w) (hb:Below w.heap.size w w'):Rl G B w0 F0 F1 O1 F O st a w' :=
  ⟨h.own.keep hb,h.size,h.slot,h.defs,h.gok,h.leF,h.leO⟩
def SeqC (P:Program) (G:Nat→AV) (f:FuncId) (cs:List AV) (l:List AV):Prop :=
  hasBody P f=true∧∀ (n lo:Nat) (F:Fz) (xs:List Value) (J:Nat→World→Prop) (W:World),GOK G F→xs.length=cs.length→(∀ (i:Nat) (c:Value) (a:AV),xs[i]? = some c→cs[i]? = some a→PV F c a) →
    (∀ k W1,J k W1→∀ b o v,F b o=some v→W1.cell? ⟨b,o,none⟩=some v) →
    (∀ k W1 W2,J k W1→Below W1.heap.size W1 W2→J k W2) →
    (∀ k W1 e v n',J k W1→l[k]? = some e→PV F v e→∃ fn tmps assign body,(Instr.yield lo #[v]).run P W1 = .ok (.round lo fn tmps assign body) W1∧RoundIn Fence.wide n' P lo fn tmps assign body W1 fun e W'=>e = .returned (.bool true)∧J (k+1) W') →
    J 0 W→CallsIn Fence.wide n P f (#[.func (.yield lo) #[] #[]]++xs.toArray) W fun e W'=>(∃ v,e = .returned v)∧J l.length W'
inductive AgR {α:Type} (m:Nat) (J:Nat→α→Prop) (rows:α→Hp) (s:List AV) (k:Nat) (st:St):Prop
  | mk (a:α) (h1:J k a) (h2:Fg m ⟨s,st.H⟩ ⟨s,rows a⟩):AgR m J rows s k st
def RndQ {α:Type} (m:Nat) (J:Nat→α→Prop) (rows:α→Hp) (s:List AV) (k:Nat):EX→St→Prop
  | .n,st=>AgR m J rows s k st
  | _,_=>False
def asgQ (K:St→Prop):EX→St→Prop
  | .n,st=>K st
  | _,_=>False
section
variable (P:Program) (G:Nat→AV)
inductive RngP (m:Nat) (gv:AV) (p:Nat) (x y:AC) (Q:EX→St→Prop) (s:List AV) (H:Hp):Prop
  | mk (f : FuncId) (cs l : List AV) (hg : fnA gv = some (f, cs)) (hp : cs.all AV.isP = true) (hs : SeqC P G f cs l) (α : Type) (J : Nat → α → Prop) (rows : α → Hp) (x0 : α) (h0 : J 0 x0) (s' : List AV) (hH : Fg m ⟨s, H⟩ ⟨s', rows x0⟩)
      (h1:∀ k a e,J k a→l[k]? = some e→V P G (rows a).length x (asgQ (V P G (rows a).length y (RndQ m J rows s' (k+1)))) ⟨s'.set p e,rows a⟩)
      (h2:∀ a,J l.length a→Q .n ⟨s',rows a⟩):RngP m gv p x y Q s H
end
section
variable {P:Program} {G:Nat→AV} {hs:List FuncId}
theorem enters_body {f:FuncId} (hb:hasBody P f=true) (args:Array Value) (w:World):(callFunc f args).run P w = .ok (.enter f args) w:=by
  unfold hasBody at hb
  split at hb
  · rename_i fn hfn
    simp only [Bool.and_eq_true,bne_iff_ne,ne_eq] at hb
    have hbn:fn.body.isNone=false:=by cases hq:fn.body with
      | none=>rw [hq] at hb;simp at hb
      | some _=>rfl
    have hnm:(fn.name == "runtime.NumGoroutine")=false:=by simpa using hb.2
    simp only [Sem.run_bind,Sem.run_pure,Result.andThen_ok,callFunc,program,Sem.run,hfn,hnm,hbn,Bool.false_eq_true,if_false]
  · cases hb
set_option maxHeartbeats 1000000 in
theorem rng_ok {B : Bd} {w0 : World} {F0 F1 : Fz} {O1 : Ow} {m : Nat} (hm : O1.length ≤ m) {g : Operand} {p : Nat} {assign body : Code} {x y : AC} (hx : copC P hs assign = some x) (hy : copC P hs body = some y) {gv : AV} {s : List AV} {H : Hp} {a : Act} {w : World} {F : Fz} {O : Ow} {Q : EX → St → Prop} {Q' : Exit → Act → World → Prop}
    (hr:Rl G B w0 F0 F1 O1 F O ⟨s,H⟩ a w) (hgv:VR F O (a.eval g) gv) (h:RngP P G m gv p x y Q s H)
    (hQ:∀ st' a' w' F' O' B' w0',Ext B w0 F0 B' w0'→Q .n st'→Rl G B' w0' F0 F1 O1 F' O' st' a' w'→Q' .normal a' w'):(Code.rangeFunc g #[p] assign body).wp P Q' a w:=by
  refine (wpIn_wide (n:=0)).1 (wpIn_rangeFunc ?_)
  intro fn hfn
  obtain ⟨f,cs,l,hg,hp,⟨hbody,hs⟩,α,J,rows,x0,h0,s',hH,h1,h2⟩:=h
  obtain ⟨xs,hxe,hxl,hxv⟩:=fnA_ok hgv hg
  have hxp:∀ (i:Nat) (c:Value) (a:AV),xs[i]? = some c→cs[i]? = some a→PV F c a:=fun i c a h1 h2=>(hxv i c a h1 h2).pv (List.all_eq_true.1 hp a (List.mem_of_getElem? h2))
  obtain ⟨rec,hrec⟩:∃ rec:LoopState→Option Code→Loop,rec=fun st pe=>{ state:=st,pending:=pe,fn,tmps:=a.tmps,params:=#[p],assign,body,defers:=w.heap.size }:=⟨_,rfl⟩
  obtain ⟨W1,hW1⟩:∃ W1,(w.alloc (.deferred (some []))).alloc (.loop (rec .ready none))=W1:=⟨_,rfl⟩
  obtain ⟨D,hD⟩:∃ D,D=w.heap.size:=⟨_,rfl⟩
  obtain ⟨lo,hlo⟩:∃ lo,lo=w.heap.size+1:=⟨_,rfl⟩
  have hL1:W1.heap[lo]? = some (.loop (rec .ready none)):=by
    rw [← hW1,hlo];have:=World.alloc_heap_new (w.alloc (.deferred (some []))) (.loop (rec .ready none));rwa [World.size_alloc] at this
  have hK1:W1.heap[D]? = some (.deferred (some [])):=by
    rw [← hW1,hD];exact (Below.heap_alloc _ _ _ (by simp)).trans (World.alloc_heap_new w _)
  have hb1:Below w.heap.size w W1:=by
    rw [← hW1];exact ((Below.refl _ w).alloc (Nat.le_refl _) _).alloc (by simp) _
  have hBn:B.n≤w.heap.size:=hr.own.size
  have hBK:∀ b,B.K b→b < w.heap.size:=fun b hb=>Nat.lt_of_lt_of_le (hr.own.kb b hb) hr.own.below.size
  have hlK:¬ B.K lo:=fun hk=>by have:=hBK _ hk;omega
  have ncL:∀ {W:World} {r:Loop},W.heap[lo]? = some (.loop r)→NC W lo:=fun h=>⟨_,h,trivial⟩
  have ncD:∀ {W:World},W.heap[D]? = some (.deferred (some []))→NC W D:=fun h=>⟨_,h,trivial⟩
  obtain ⟨J',hJ'⟩:∃ J':Nat→World→Prop,J'=fun k W=>(∃ F' O' x',J k x'∧F.le F'∧Rl G B w0 F0 F1 O1 F' O' ⟨s',rows x'⟩ a W)∧W.heap[lo]? = some (.loop (rec .ready none))∧W.heap[D]? = some (.deferred (some [])):=⟨_,rfl⟩
  refine ⟨lo,[dmark D],W1,{ target:=.fn (.func f) xs.toArray,args:=#[.func (.yield lo) #[] #[]] },W1,f,#[.func (.yield lo) #[] #[]]++xs.toArray,W1,?_,?_,fun _ _=>trivial,?_,fun hh=>(by cases hh),?_⟩
  · rw [← hW1,hrec,hlo,hD];exact run_enterLoop_outer _ _ _ _ _
  · simp only [resolve, hxe]
    simp [go_sem]
  · simp [invoke,go_sem,enters_body hbody]
  refine (hs _ lo F xs J' W1 hr.gok hxl hxp ?_ ?_ ?_ ?_).mono ?_
  · intro k W hj b o v hv
    rw [hJ'] at hj
    obtain ⟨⟨F',O',x',_,lF,hrl⟩,_⟩:=hj
    exact hrl.own.fr b o v (lF b o v hv)
  · intro k W W2 hj hb
    rw [hJ'] at hj ⊢
    obtain ⟨⟨F',O',x',hjx,lF,hrl⟩,hl,hd⟩:=hj
    exact ⟨⟨F',O',x',hjx,lF,hrl.keepB hb⟩,(hb.block _ (ncL hl).lt).trans hl,(hb.block _ (ncD hd).lt).trans hd⟩
  · intro k W e v n' hj he hv
    rw [hJ'] at hj
    obtain ⟨⟨F',O',x',hjx,lF,hrl⟩,hl,hd⟩:=hj
    have hyl:=run_yield (P:=P) (args:=#[v]) hl (by rw [hrec];simp)
    refine ⟨fn,a.tmps.setIfInBounds p v,assign,body,by rw [hyl,hrec];simp,roundIn_of_wpIn hfn ?_⟩
    have hKK:∀ {W:World} {r:Loop},W.heap[lo]? = some (.loop r)→W.heap[D]? = some (.deferred (some []))→∀ b,(b=lo∨b=D)→NC W b:=fun h1 h2 b hb=>by
      rcases hb with rfl|rfl
      · exact ncL h1
      · exact ncD h2
    have own1:=hrl.own.re (fun b=>b=lo∨b=D) (hKK hl hd) []
    have rl1 : Rl G _ W F0 F' O' F' O' ⟨s'.set p e, rows x'⟩ { tmps := a.tmps.setIfInBounds p v, defers := [] } W := ⟨own1, by simp only [Array.size_setIfInBounds, List.length_set]; exact hrl.size, fun t => by
        have hsz:=hrl.size
        have h0:=hrl.slot t
        simp only at h0 hsz
        show VR F' O' ((a.tmps.setIfInBounds p v).getD t undef) ((s'.set p e).getD t undefA)
        rw [Array.getD_eq_getD_getElem?,List.getD_eq_getElem?_getD] at h0 ⊢
        by_cases hpt:p=t
        · subst hpt
          by_cases hlt:p < s'.length
          · rw [List.getElem?_set_self hlt, Array.getElem?_setIfInBounds_self_of_lt (by omega)]
            exact .p (hv.mono lF)
          · rw [List.getElem?_eq_none (by simp; omega), Array.getElem?_eq_none (by simp; omega)]
            exact undef_ok
        · rw [List.getElem?_set_ne hpt, Array.getElem?_setIfInBounds_ne hpt]
          exact h0,rfl,hrl.gok,Fz.le_refl _,Ow.le_refl _⟩
    refine V_okIn (m:=(rows x').length) (by rw [hrl.own.len];exact Nat.le_refl _) assign x hx _ _ _ _ _ _ _ (h1 k x' e hjx he) rl1 ?_
    intro ex st1 a1 w1 F2 O2 hq rl2
    cases ex with
    | x id=>exact hq.elim
    | r=>exact hq.elim
    | n =>
      have hl1:w1.heap[lo]? = some (.loop (rec .ready none)):=(rl2.own.kept lo (.inr (.inl rfl))).trans hl
      have hd1:w1.heap[D]? = some (.deferred (some [])):=(rl2.own.kept D (.inr (.inr rfl))).trans hd
      refine ⟨_,run_beginRound hl1 (by rw [hrec]),?_⟩
      obtain ⟨rb,hrb⟩:∃ rb:Loop,rb = { rec .ready none with state:=.busy }:=⟨_,rfl⟩
      rw [← hrb]
      have own2:=(hrl.own.un rl2.own rfl (fun b hb=>.inl hb)).putNC (.loop rb) (ncL hl1) (by omega) hlK
      have hl2:(w1.putObj lo (.loop rb)).heap[lo]? = some (.loop rb):=World.putObj_heap_same (ncL hl1).lt
      have hd2:(w1.putObj lo (.loop rb)).heap[D]? = some (.deferred (some [])):=(World.putObj_heap_other (by omega)).trans hd1
      have own3:=own2.re (fun b=>b=lo∨b=D) (hKK hl2 hd2) []
      have rl3:Rl G _ (w1.putObj lo (.loop rb)) F0 F' O' F2 O2 st1 a1 (w1.putObj lo (.loop rb)):=⟨own3,rl2.size,rl2.slot,rl2.defs,rl2.gok,rl2.leF,rl2.leO⟩
      refine V_okIn (m:=(rows x').length) (by rw [hrl.own.len];exact Nat.le_refl _) body y hy _ _ _ _ _ _ _ hq rl3 ?_
      intro ex st3 a3 w3 F3 O3 hq3 rl4
      cases ex with
      | x id=>exact hq3.elim
      | r=>exact hq3.elim
      | n =>
        obtain ⟨x2,g1,g2⟩:=hq3
        have hl3:w3.heap[lo]? = some (.loop rb):=(rl4.own.kept lo (.inr (.inl rfl))).trans hl2
        have hd3:w3.heap[D]? = some (.deferred (some [])):=(rl4.own.kept D (.inr (.inr rfl))).trans hd2
        refine ⟨_,_,run_endRound none hl3,rfl,?_⟩
        rw [hJ']
        have hrr:({ rb with state:=if (none:Option Code).isNone=true then LoopState.ready else LoopState.done,pending:=none }:Loop)=rec .ready none:=by rw [hrb,hrec];rfl
        rw [hrr]
        have own4:=(own2.un rl4.own rfl (fun b hb=>.inl hb)).putNC (.loop (rec .ready none)) (ncL hl3) (by omega) hlK
        have rl5:Rl G B w0 F0 F1 O1 F3 O3 ⟨s',st3.H⟩ a (w3.putObj lo (.loop (rec .ready none))):=⟨own4,hrl.size,fun t=>(hrl.slot t).mono rl4.leF rl4.leO,hrl.defs,hrl.gok.mono rl4.leF,Fz.le_trans hrl.leF rl4.leF,Ow.le_trans hrl.leO rl4.leO⟩
        obtain ⟨O5,rl6⟩:=rl5.forget hm g2
        exact ⟨⟨F3,O5,x2,g1,Fz.le_trans lF rl4.leF,rl6⟩,World.putObj_heap_same (ncL hl3).lt,(World.putObj_heap_other (by omega)).trans hd3⟩
  · rw [hJ']
    obtain ⟨O2,hr2⟩:=(hr.keepB hb1).forget hm hH
    exact ⟨⟨F,O2,x0,h0,Fz.le_refl F,hr2⟩,hL1,hK1⟩
  · rintro e W2 ⟨⟨v, rfl⟩, hj⟩
    rw [hJ'] at hj
    obtain ⟨⟨F',O',x',hjx,lF,hrl⟩,hl,hd⟩:=hj
    obtain ⟨rx,hend⟩:∃ rx:Loop,(Instr.endLoop lo).run P W2 = .ok none (W2.putObj lo (.loop rx)):=by
      have h:=run_endLoop (P:=P) hl (by rw [hrec];simp)
      rw [hrec] at h
      exact ⟨_,h⟩
    refine ⟨none,_,hend,?_⟩
    show Q' .normal _ _
    have own4:=hrl.own.putNC (.loop rx) (ncL hl) (by omega) hlK
    have hd4:(W2.putObj lo (.loop rx)).heap[D]? = some (.deferred (some [])):=(World.putObj_heap_other (by omega)).trans hd
    have own5:=own4.re (fun b=>b=D) (fun b hb=>by subst hb;exact ncD hd4) (dmark D::B.ds)
    refine hQ ⟨s',rows x'⟩ _ _ F' O' ⟨B.n,fun b=>B.K b∨b=D,dmark D::B.ds⟩ _ ⟨rfl,fun b hb=>.inl hb,own4.kept,fun F5 O5 H5 w5 h5=>own4.un h5 rfl (fun b hb=>.inl hb),own4.below.size,[D],rfl,by simp,fun D' hD'=>?_⟩ (h2 x' hjx) ⟨own5,hrl.size,hrl.slot,by show dmark D::a.defers=dmark D::B.ds;rw [hrl.defs],hrl.gok,hrl.leF,hrl.leO⟩
    obtain rfl:D'=D:=by simpa using hD'
    exact ⟨by have:=hr.own.below.size;omega,by omega,.inr rfl,hd4⟩
end
def copX (P:Program) (hs:List FuncId):Code→Option AC
  | .seq a b=>(match copX P hs a,copX P hs b with|some x,some y=>some (.seq x y)|_,_=>none)
  | .cond c t e=>(match cx P 0 c,copX P hs t,copX P hs e with|some c,some x,some y=>some (.cond c x y)|_,_,_=>none)
  | .block id c=>(match copX P hs c with|some x=>some (.block id x)|none=>none)
  | .scope c=>(match copX P hs c with|some x=>some (.scope x)|none=>none)
  | .rangeFunc g ps a b=>(match cx P 0 g,ps.toList,copC P hs a,copC P hs b with|some g,[p],some x,some y=>some (.rng g p x y)|_,_,_,_=>none)
  | .skip=>copC P hs .skip
  | .label l=>copC P hs (.label l)
  | .region i ops d=>copC P hs (.region i ops d)
  | .loop c=>copC P hs (.loop c)
  | .exit i=>copC P hs (.exit i)
  | .ret=>copC P hs .ret
  | _=>none
def fcEX (i g kk n:Nat) (es:List AV):List AV→(List AV→Prop)→Prop
  | [],k=>k []
  | a::as_,k=>(match a with
    | .agg cs=>fcL i g kk n es cs (fun cs'=>fcEX i g kk n es as_ (fun bs=>k (.agg cs'::bs)))
    | .ol j g' n'=>fcC i g kk n es false (.ol j g' n') (fun b=>fcEX i g kk n es as_ (fun bs=>k (b::bs)))
    | a=>fcEX i g kk n es as_ (fun bs=>k (a::bs)))
theorem fcEX_ok {i g kk n:Nat} {es:List AV}:∀ {as_:List AV} {k:List AV→Prop},fcEX i g kk n es as_ k→∃ bs,k bs∧bs.length=as_.length∧∀ (c:Nat) (b:AV),bs[c]? = some b→∃ a,as_[c]? = some a∧b.cells.length=a.cells.length∧∀ (c:Nat) (y:AV),b.cells[c]? = some y→∃ x,a.cells[c]? = some x∧FzR i g kk n es x y
  | [],_,h=>⟨[],h,rfl,fun c b hb=>by simp at hb⟩
  | a::as_,k,h=>by
    have same:fcEX i g kk n es as_ (fun bs=>k (a::bs))→∃ bs,k bs∧bs.length=(a::as_).length∧∀ (c:Nat) (b:AV),bs[c]? = some b→∃ a',(a::as_)[c]? = some a'∧b.cells.length=a'.cells.length∧∀ (c:Nat) (y:AV),b.cells[c]? = some y→∃ x,a'.cells[c]? = some x∧FzR i g kk n es x y:=fun h=>by
      obtain ⟨bs,h3,h4,h5⟩:=fcEX_ok h
      refine ⟨a::bs,h3,by simp [h4],fun c x hx=>?_⟩
      cases c with
      | zero=>simp at hx;subst hx;exact ⟨a,rfl,rfl,fun c y hy=>⟨y,hy,.inl rfl⟩⟩
      | succ c=>obtain ⟨y,q1,q2⟩:=h5 c x (by simpa using hx);exact ⟨y,by simpa using q1,q2⟩
    cases a with
    | agg cs =>
      simp only [fcEX] at h
      obtain ⟨cs',h1,h2,h3⟩:=fcL_ok h
      obtain ⟨bs,h4,h5,h6⟩:=fcEX_ok h1
      refine ⟨.agg cs'::bs,h4,by simp [h5],fun c x hx=>?_⟩
      cases c with
      | zero=>simp at hx;subst hx;exact ⟨_,rfl,h2,h3⟩
      | succ c=>obtain ⟨y,q1,q2⟩:=h6 c x (by simpa using hx);exact ⟨y,by simpa using q1,q2⟩
    | ol j g' n' =>
      simp only [fcEX] at h
      obtain ⟨b,h1,h2⟩:=fcC_ok h
      have hz:FzR i g kk n es (.ol j g' n') b:=h2.resolve_left (by simp)
      obtain ⟨bs,h4,h5,h6⟩:=fcEX_ok h1
      refine ⟨b::bs,h4,by simp [h5],fun c x hx=>?_⟩
      cases c with
      | zero =>
        simp at hx;subst hx
        have hb:b.cells=[b]:=by rcases hz with rfl|⟨_,_,_,rfl⟩<;>rfl
        refine ⟨_,rfl,by rw [hb];rfl,fun c y hy=>?_⟩
        rw [hb] at hy
        cases c with
        | zero=>simp at hy;subst hy;exact ⟨_,rfl,hz⟩
        | succ c=>simp at hy
      | succ c=>obtain ⟨y,q1,q2⟩:=h6 c x (by simpa using hx);exact ⟨y,by simpa using q1,q2⟩
    | _=>exact same h
def fcHX (i g kk n:Nat) (es:List AV):Hp→List Bool→(Hp→Prop)→Prop
  | H,[],k=>k H
  | [],_::_,k=>k []
  | ob::H,c::cs,k=>(match c with
    | true=>(match ob with|⟨e,kk',es',g',fz⟩=>fcEX i g kk n es es' (fun es2=>fcHX i g kk n es H cs (fun H'=>k (⟨e,kk',es2,g',fz⟩::H'))))
    | false=>fcHX i g kk n es H cs (fun H'=>k (ob::H')))
theorem fcHX_ok {i g kk n : Nat} {es : List AV} : ∀ {cs : List Bool} {H : Hp} {k : Hp → Prop}, fcHX i g kk n es H cs k → ∃ H2, k H2 ∧ H2.length = H.length ∧ ∀ (j : Nat) (ob2 : OB), H2[j]? = some ob2 → ∃ ob, H[j]? = some ob ∧ ob2.e = ob.e ∧ ob2.k = ob.k ∧ ob2.g = ob.g ∧ ob2.fz = ob.fz ∧ ob2.es.length = ob.es.length ∧
      ∀ (c:Nat) (b:AV),ob2.es[c]? = some b→∃ a,ob.es[c]? = some a∧b.cells.length=a.cells.length∧∀ (c:Nat) (y:AV),b.cells[c]? = some y→∃ x,a.cells[c]? = some x∧FzR i g kk n es x y
  | [],H,k,h=>⟨H,by cases H<;>exact h,rfl,fun j ob2 h=>⟨ob2,h,rfl,rfl,rfl,rfl,rfl,fun c b hb=>⟨b,hb,rfl,fun c y hy=>⟨y,hy,.inl rfl⟩⟩⟩⟩
  | _::_,[],k,h=>⟨[],h,rfl,fun j ob2 h=>by simp at h⟩
  | true::cs,⟨e,kk',es',g',fz⟩::H,k,h=>by
    simp only [fcHX] at h
    obtain ⟨es2,h1,h2,h3⟩:=fcEX_ok h
    obtain ⟨H',h4,h5,h6⟩:=fcHX_ok h1
    refine ⟨_,h4,by simp [h5],fun j ob2 hj=>?_⟩
    cases j with
    | zero=>simp at hj;subst hj;exact ⟨_,rfl,rfl,rfl,rfl,rfl,h2,h3⟩
    | succ j=>obtain ⟨ob,q1,q2⟩:=h6 j ob2 (by simpa using hj);exact ⟨ob,by simpa using q1,q2⟩
  | false::cs,ob::H,k,h=>by
    simp only [fcHX] at h
    obtain ⟨H',h4,h5,h6⟩:=fcHX_ok h
    refine ⟨_,h4,by simp [h5],fun j ob2 hj=>?_⟩
    cases j with
    | zero=>simp at hj;subst hj;exact ⟨ob,rfl,rfl,rfl,rfl,rfl,rfl,fun c b hb=>⟨b,hb,rfl,fun c y hy=>⟨y,hy,.inl rfl⟩⟩⟩
    | succ j=>obtain ⟨ob',q1,q2⟩:=h6 j ob2 (by simpa using hj);exact ⟨ob',by simpa using q1,q2⟩
def fzKX (i n:Nat) (cv:List Bool) (s:List AV) (H:Hp) (k:St→Prop):Prop :=
  rK H i (fun ob=>match ob with|⟨e,kk,es,g,fz⟩=>ObN (n≤es.length) (ObN ((es.take n).all AV.isP=true) (rpK H i ⟨e,kk,es,g,max fz n⟩ (fun H1=>fcS i g kk n es s (fun s'=>fcHX i g kk n es H1 cv (fun H'=>k ⟨s',H'⟩))))))
theorem fzKX_ok {G:Nat→AV} {B:Bd} {w0:World} {F0 F1:Fz} {O1:Ow} {F:Fz} {O:Ow} {s:List AV} {H:Hp} {a:Act} {w:World} {i n:Nat} {cv:List Bool} {k:St→Prop} (hk:fzKX i n cv s H k) (h:Rl G B w0 F0 F1 O1 F O ⟨s,H⟩ a w):∃ st2 F',k st2∧Rl G B w0 F0 F1 O1 F' O st2 a w:=by
  obtain ⟨ob,h1,h2⟩:=rK_ok hk
  obtain ⟨e,kk,es,g,fz⟩:=ob
  obtain ⟨hn,hp,h2⟩:=h2
  rw [rpK_eq] at h2
  obtain ⟨s',h3,h4,h5⟩:=fcS_ok h2
  obtain ⟨H',h6,h7,h8⟩:=fcHX_ok h3
  obtain ⟨F',own,lF,hz⟩:=h.own.freezeN h1 hn hp
  refine ⟨_,F',h6,?_,by rw [h.size];exact h4.symm,fun t=>?_,h.defs,h.gok.mono lF,Fz.le_trans h.leF lF,h.leO⟩
  · refine own.recell (by simpa using h7) fun j ob2 hj=>?_
    obtain ⟨ob1,q1,q2,q3,q4,q5,q6,q7⟩:=h8 j ob2 hj
    refine ⟨ob1,q1,q2,q3,q4,q5,q6,fun c e2 he=>?_⟩
    obtain ⟨e1,p1,p2,p3⟩:=q7 c e2 he
    refine ⟨e1,p1,p2,fun c a2 ha=>?_⟩
    obtain ⟨a1,p4,p5⟩:=p3 c a2 ha
    refine ⟨a1,p4,p5.one,fun x hx=>p5.vr (Fz.le_refl F') (fun x n' hn' hx=>?_) hx⟩
    -- the place in the row is the same as_ before
    have hx':VR F O x (.ol i g n'):=by
      cases hx with
      | p h=>cases h
      | ol _ _ _ _ d hd hg h1 h=>exact .ol x i g n' d hd hg h1 h
    exact hz x n' hn' hx'
  · rw [List.getD_eq_getElem?_getD]
    cases hq:s'[t]? with
    | none =>
      have h0:s[t]? = none:=by rw [List.getElem?_eq_none_iff] at hq ⊢;omega
      have:=h.slot t
      rw [List.getD_eq_getElem?_getD] at this
      simp only [h0] at this
      exact this.mono lF (Ow.le_refl O)
    | some b =>
      obtain ⟨a0,q1,q2⟩:=h5 t b hq
      have:=h.slot t
      rw [List.getD_eq_getElem?_getD] at this
      simp only [q1] at this
      exact q2 F F' O lF hz _ this
inductive SeqX (m:Nat) (K:St→Prop) (st:St):Prop
  | sp (h:SeqP m K st):SeqX m K st
  | fe (i n:Nat) (cv:List Bool) (h:fzKX i n cv st.s st.H K):SeqX m K st
section
variable (P:Program) (G:Nat→AV)
def VX (m:Nat):AC→(EX→St→Prop)→St→Prop
  | .seq a b,Q,st=>VX m a (thenQ (SeqX m (VX m b Q)) Q) st
  | .cond c t e,Q,st=>(match st with|⟨s,H⟩=>eK G s c (fun c=>match c with
    | .v v=>(match v with|.bool b=>ObT b (VX m t Q ⟨s,H⟩) (VX m e Q ⟨s,H⟩)|_=>False)
    | _=>False))
  | .block id c,Q,st=>VX m c (blockQ id Q) st
  | .scope c,Q,st=>VX m c Q st
  | .rng g p x y,Q,st=>(match st with|⟨s,H⟩=>eK G s g (fun gv=>RngP P G m gv p x y Q s H))
  | .skip,Q,st=>Q .n st
  | .region ops,Q,st=>V P G m (.region ops) Q st
  | .draw ops,Q,st=>V P G m (.draw ops) Q st
  | .drawx reps,Q,st=>V P G m (.drawx reps) Q st
  | .loop c,Q,st=>V P G m (.loop c) Q st
  | .exit id,Q,st=>Q (.x id) st
  | .ret,Q,st=>Q .r st
end
section
variable {P:Program} {G:Nat→AV} {hs:List FuncId} {F0 F1:Fz} {O1:Ow} {m:Nat}
theorem copC_region {i:Nat} {ops:Array Oper} {d:Bool} {ac:AC} (h:copC P hs (.region i ops d)=some ac):∀ {Q:EX→St→Prop} {st:St},VX P G m ac Q st→V P G m ac Q st:=by
  simp only [copC] at h
  split at h
  · split at h
    · split at h
      · cases h;exact fun h=>h
      · split at h
        · cases h;exact fun h=>h
        · cases h
    · cases h;exact fun h=>h
  · cases h
theorem VX_ok (hm : O1.length ≤ m) : ∀ (c : Code) (ac : AC), copX P hs c = some ac → ∀ (B : Bd) (w0 : World) (Q : EX → St → Prop) (Q' : Exit → Act → World → Prop) (st : St) (a : Act) (w : World) (F : Fz) (O : Ow), VX P G m ac Q st → Rl G B w0 F0 F1 O1 F O st a w →
    (∀ e st' a' w' F' O' B' w0',Ext B w0 F0 B' w0'→Q e st'→Rl G B' w0' F0 F1 O1 F' O' st' a' w'→Q' e.out a' w')→c.wp P Q' a w:=by
  intro c
  induction c with
  | skip=>intro ac hc B w0 Q Q' st a w F O h hr hQ;cases hc;exact wp_skip (hQ .n st a w F O B w0 (.refl ..) h hr)
  | label l=>intro ac hc B w0 Q Q' st a w F O h hr hQ;cases hc;exact wp_label (hQ .n st a w F O B w0 (.refl ..) h hr)
  | region id ops draw =>
    intro ac hc B w0 Q Q' st a w F O h hr hQ
    exact V_ok hm _ ac hc Q Q' st a w F O (copC_region hc h) hr fun e st' a' w' F' O' he hr'=>hQ e st' a' w' F' O' B w0 (.refl ..) he hr'
  | loop c _ =>
    intro ac hc B w0 Q Q' st a w F O h hr hQ
    refine V_ok hm _ ac hc Q Q' st a w F O ?_ hr fun e st' a' w' F' O' he hr'=>hQ e st' a' w' F' O' B w0 (.refl ..) he hr'
    simp only [copX,copC] at hc
    split at hc
    · cases hc;exact h
    · cases hc
  | seq x y ihx ihy =>
    intro ac hc B w0 Q Q' st a w F O h hr hQ
    simp only [copX] at hc
    split at hc
    · rename_i p q hp hq
      cases hc
      refine wp_seq (ihx p hp B w0 _ _ st a w F O h hr fun e st' a' w' F' O' B' w0' hx he hr'=>?_)
      have hQ2:∀ e st' a' w' F' O' B2 w2,Ext B' w0' F0 B2 w2→Q e st'→Rl G B2 w2 F0 F1 O1 F' O' st' a' w'→Q' e.out a' w':=fun e st' a' w' F' O' B2 w2 hx2=>hQ e st' a' w' F' O' B2 w2 (hx.trans hx2)
      cases e with
      | n =>
        rcases he with (he|⟨st2,hf,he⟩|⟨i,n,cv,he⟩|⟨ss,cv,he⟩)|⟨i,n,cv,he⟩
        · exact ihy q hq B' w0' Q Q' st' a' w' F' O' he hr' hQ2
        · obtain ⟨O2, hr2⟩ := hr'.forget hm hf
          exact ihy q hq B' w0' Q Q' st2 a' w' F' O2 he hr2 hQ2
        · obtain ⟨s', H'⟩ := st'
          obtain ⟨st2,F2,he,hr2⟩:=fzK_ok he hr'
          exact ihy q hq B' w0' Q Q' st2 a' w' F2 O' he hr2 hQ2
        · obtain ⟨s', H'⟩ := st'
          obtain ⟨st2,he,hr2⟩:=nlK_ok he hr'
          exact ihy q hq B' w0' Q Q' st2 a' w' F' O' he hr2 hQ2
        · obtain ⟨s', H'⟩ := st'
          obtain ⟨st2,F2,he,hr2⟩:=fzKX_ok he hr'
          exact ihy q hq B' w0' Q Q' st2 a' w' F2 O' he hr2 hQ2
      | x id=>exact hQ (.x id) st' a' w' F' O' B' w0' hx he hr'
      | r=>exact hQ .r st' a' w' F' O' B' w0' hx he hr'
    · cases hc
  | cond c x y ihx ihy =>
    intro ac hc B w0 Q Q' st a w F O h hr hQ
    obtain ⟨s,H⟩:=st
    simp only [copX] at hc
    split at hc
    · rename_i p q r hp hq hr'
      cases hc
      have ho:=hr.operand 0 c p hp
      simp only [VX,eK_eq] at h
      split at h
      · rename_i v hv
        split at h
        · rename_i b
          rw [hv] at ho
          have ho:=ho.pvC rfl
          have e:a.eval c = .bool b:=by generalize a.eval c=q at ho;cases ho;rfl
          obtain ⟨h1,h2⟩:=h
          cases b
          · exact wp_cond_false e (ihy r hr' B w0 Q Q' _ a w F O (h2 rfl) hr hQ)
          · exact wp_cond_true e (ihx q hq B w0 Q Q' _ a w F O (h1 rfl) hr hQ)
        · exact h.elim
      · exact h.elim
    · cases hc
  | block id c ih =>
    intro ac hc B w0 Q Q' st a w F O h hr hQ
    simp only [copX] at hc
    split at hc
    · rename_i p hp
      cases hc
      refine wp_block (ih p hp B w0 _ _ st a w F O h hr fun e st' a' w' F' O' B' w0' hx he hr'=>?_)
      cases e with
      | n=>exact hQ .n st' a' w' F' O' B' w0' hx he hr'
      | x id' =>
        simp only [blockQ] at he
        show (if id'=id then Q' .normal a' w' else Q' (.exit id') a' w')
        by_cases hid:id'=id
        · rw [if_pos hid] at he ⊢;exact hQ .n st' a' w' F' O' B' w0' hx he hr'
        · rw [if_neg hid] at he ⊢;exact hQ (.x id') st' a' w' F' O' B' w0' hx he hr'
      | r=>exact hQ .r st' a' w' F' O' B' w0' hx he hr'
    · cases hc
  | scope c ih =>
    intro ac hc B w0 Q Q' st a w F O h hr hQ
    simp only [copX] at hc
    split at hc
    · rename_i p hp
      cases hc
      refine wp_scope_straight (ih p hp B w0 Q _ st a w F O h hr fun e st' a' w' F' O' B' w0' hx he hr'=>?_)
      have:=hQ e st' a' w' F' O' B' w0' hx he hr'
      cases e<;>exact this
    · cases hc
  | exit id=>intro ac hc B w0 Q Q' st a w F O h hr hQ;cases hc;exact wp_exit (hQ (.x id) st a w F O B w0 (.refl ..) h hr)
  | ret=>intro ac hc B w0 Q Q' st a w F O h hr hQ;cases hc;exact wp_ret (hQ .r st a w F O B w0 (.refl ..) h hr)
  | rangeFunc g ps x y _ _ =>
    intro ac hc B w0 Q Q' st a w F O h hr hQ
    obtain ⟨s,H⟩:=st
    simp only [copX] at hc
    split at hc
    · rename_i g' p x' y' hg hp hx hy
      cases hc
      have hps:ps = #[p]:=by cases ps;simp at hp;simp [hp]
      subst hps
      simp only [VX,eK_eq] at h
      exact rng_ok hm hx hy hr (hr.operand 0 g g' hg) h fun st' a' w' F' O' B' w0' hx he hr'=>hQ .n st' a' w' F' O' B' w0' hx he hr'
    · cases hc
  | goto=>intro ac hc;cases hc
  | refuse=>intro ac hc;cases hc
def copFX (P:Program) (hs:List FuncId) (f:FuncId):Option AF :=
  match P.funcs[f]? with
  | some fn =>
    match fn.body with
    | some c=>(match copRes P fn.results.toList,copX P hs c with|some ts,some ac=>some ⟨fn.ntmps,ts,ac⟩|_,_=>none)
    | none=>none
  | none=>none
theorem leaves_marks {fn : Func} {tmps : Array Value} {R : Ending → World → Prop} {Ds0 : List Nat} (K : World → Prop) (hK : ∀ w D, D ∈ Ds0 → K w → w.heap[D]? = some (.deferred (some [])) → K (w.putObj D (.deferred none)))
    (hend:∀ w,K w→∃ v,(results fn tmps).run P w = .ok v w∧R (.returned v) w):∀ (Ds:List Nat) (w:World),(∀ D ∈ Ds,D ∈ Ds0)→Ds.Nodup→(∀ D ∈ Ds,w.heap[D]? = some (.deferred (some [])))→K w→LeavesInM Fence.wide 0 P fn tmps R (Ds.map dmark) .returning w
  | [],w,_,_,_,h=>hend w h
  | D::t,w,h0,hn,hd,h=>by
    have hD:=hd D (List.mem_cons_self ..)
    rw [List.nodup_cons] at hn
    refine ⟨by simp,.inl ⟨D,_,rfl,run_takeDeferred hD,leaves_marks K hK hend t _ (fun D' h'=>h0 D' (List.mem_cons_of_mem _ h')) hn.2 (fun D' h'=>?_) (hK w D (h0 D (List.mem_cons_self ..)) h hD)⟩⟩
    exact (World.putObj_heap_other fun e=>hn.1 (by rw [← show D'=D from e];exact h')).trans (hd D' (List.mem_cons_of_mem _ h'))
theorem marks_ok {B B' : Bd} {w0 w0' : World} (hds : B.ds = []) (hx : Ext B w0 F0 B' w0') {F : Fz} {O : Ow} {st : St} {a : Act} {w : World} (hr : Rl G B' w0' F0 F1 O1 F O st a w) {fn : Func} {R : Ending → World → Prop}
    (hend:∀ w2,Rl G B w0 F0 F1 O1 F O st { tmps:=a.tmps,defers:=[] } w2→∃ v,(results fn a.tmps).run P w2 = .ok v w2∧R (.returned v) w2):LeavesInM Fence.wide 0 P fn a.tmps R a.defers .returning w:=by
  obtain ⟨Ds,e1,n1,p1⟩:=hx.ds
  rw [hr.defs,e1,hds,List.append_nil]
  refine leaves_marks (Ds0:=Ds) (fun w2=>Own B w0 F0 F O st.H w2) (fun w2 D hD ho hd=>?_) (fun w2 ho=>hend w2 ⟨ho,hr.size,hr.slot,hds.symm,hr.gok,hr.leF,hr.leO⟩) Ds w (fun _ h=>h) n1 (fun D hD=>?_) (hx.back _ _ _ _ hr.own)
  · obtain ⟨q1, q2, q3, q4⟩ := p1 D hD
    exact ho.putNC _ ⟨_,hd,trivial⟩ q2 fun hk=>by have:=ho.kb _ hk;omega
  · obtain ⟨q1, q2, q3, q4⟩ := p1 D hD
    exact (hr.own.kept D q3).trans q4
theorem pc_ofX' {f : FuncId} {af : AF} (hf : copFX P hs f = some af) {as_ : List AV} {r : AV}
    (h:∀ (w:World) (F:Fz) (xs:List Value),xs.length=as_.length→(∀ (i:Nat) (c:Value) (a:AV),xs[i]? = some c→as_[i]? = some a→PV F c a)→∃ bs:List AV,bs.length=as_.length∧(∀ (i:Nat) (c:Value) (a:AV),xs[i]? = some c→bs[i]? = some a→VR F [] c a)∧initK bs af.n (fun s=>VX P G 0 af.body (EndP af.res r) ⟨s,[]⟩)):PC P G f as_ r:=by
  unfold copFX at hf
  split at hf
  · rename_i fn hfn
    split at hf
    · rename_i c hc
      split at hf
      · rename_i ts ac hts hac
        cases hf
        intro w F xs hfr hg hl hv
        obtain ⟨bs,hbl,hbv,h⟩:=h w F xs hl hv
        rw [initK_eq] at h
        have hown:Own (Bd.of w.heap.size) w F F [] [] w:=⟨rfl,fun i d ob hd=>by simp at hd,fun i j d d' hd=>by simp at hd,hfr,Fz.le_refl F,fun b o v hv=>.inl hv,Below.refl _ _,Nat.le_refl _,fun _ h=>h.elim,fun _ h=>h.elim⟩
        refine (callsIn_wide (n:=0)).1 (callsIn_of_wp_marks hfn hc trivial (wpIn_wide.2 (VX_ok (Nat.le_refl _) c ac hac (Bd.of w.heap.size) w _ _ _ _ _ F [] h (init_ok hown hg (by rw [hl,hbl]) hbv) fun e st' a' w' F' O' B' w0' hx he hr=>?_)))
        have key:∀ {s:List AV} {H:Hp},st'=⟨s,H⟩→rsK s H ts (fun vs=>fzA H vs (fun vs' _=>resK vs' (fun v=>ObEq v r)))→LeavesInM Fence.wide 0 P fn a'.tmps (fun e w'=>∃ v F',e = .returned v∧PV F' v r∧F.le F'∧(∀ b o v,F' b o=some v→w'.cell? ⟨b,o,none⟩=some v)∧(∀ b o v,F' b o=some v→F b o=some v∨w.heap.size≤b)∧Below w.heap.size w w') a'.defers .returning w':=by
          intro s H hst he
          obtain ⟨vs,hvs,he⟩:=rsK_ok he
          obtain ⟨rs,H',hp,he⟩:=fzA_ok he
          rw [resK_eq] at he
          obtain ⟨hrs⟩:=he
          subst hst
          refine marks_ok rfl hx hr fun w2 hr2=>?_
          obtain ⟨ys,y1,y2,y3⟩:=results_run hr2 hts hvs
          obtain ⟨F2,p1,p2,o2,l2⟩:=purA_ok hr2.own y2 y3 hp
          refine ⟨_,y1,_,F2,rfl,?_,Fz.le_trans hr2.leF l2,o2.fr,fun b o v hv=>(o2.new b o v hv).imp id (·.1),o2.below⟩
          rw [← hrs]
          exact resOf_pv (by omega) p1
        cases e with
        | n=>exact key rfl he
        | r=>exact key rfl he
        | x id=>exact he.elim
      · cases hf
    · cases hf
  · cases hf
theorem pc_ofX {f:FuncId} {af:AF} (hf:copFX P hs f=some af) {as_:List AV} {r:AV} (h:initK as_ af.n (fun s=>VX P G 0 af.body (EndP af.res r) ⟨s,[]⟩)):PC P G f as_ r :=
  pc_ofX' hf fun w F xs hl hv=>⟨as_,rfl,fun i c a hc ha=>.p (hv i c a hc ha),h⟩
end
theorem mx_nil (s:List AV):mx s []=s:=by cases s<;>rfl
theorem Fg.goS {m:Nat} {s:List AV} {H H2:Hp} (hH:H=H2):Fg m ⟨s,H⟩ ⟨s,H2⟩:=.same rfl (fun i b h=>.inr h) hH
theorem Fg.vwS {m:Nat} {s:List AV} {H H2:Hp} (T:Tb) (h:fgT T [] [] s s []) (v:vwK T H T H2 True) (hn:(T.map (·.2.1)).Nodup) (hb:bsK m nums T H):Fg m ⟨s,H⟩ ⟨s,H2⟩:=by
  have:=Fg.vw (M:=[]) T h v hn hb
  rwa [mx_nil] at this
theorem RngP.go {P : Program} {G : Nat → AV} {m : Nat} {gv : AV} {p : Nat} {x y : AC} {Q : EX → St → Prop} {s : List AV} {H : Hp} (f : FuncId) (cs l : List AV) (hg : fnA gv = some (f, cs)) (hp : cs.all AV.isP = true) (hs : SeqC P G f cs l) (α : Type) (J : Nat → α → Prop) (rows : α → Hp) (x0 : α) (h0 : J 0 x0) (M : List (Nat × Option AV)) (hH : Fg m ⟨s, H⟩ ⟨mx s M, rows x0⟩)
    (h1:∀ k a e,J k a→l[k]? = some e→mxK s M (fun s'=>V P G (rows a).length x (asgQ (V P G (rows a).length y (RndQ m J rows (mx s M) (k+1)))) ⟨s'.set p e,rows a⟩))
    (h2:∀ a,J l.length a→mxK s M (fun s'=>Q .n ⟨s',rows a⟩)):RngP P G m gv p x y Q s H :=
  .mk f cs l hg hp hs α J rows x0 h0 _ hH (fun k a e hj he=>by have:=h1 k a e hj he;rwa [mxK_eq] at this) (fun a hj=>by have:=h2 a hj;rwa [mxK_eq] at this)
end Go.Proofs.Ytefkaglgekjlfaa.Sim
namespace Go.Proofs.Ytefkaglgekjlfaa.Sim
set_option maxRecDepth 100000
def A24:AF:=(AF.mk 17 [(4,none),(5,none)] (AC.seq (AC.region [(AI.mk (some 4) (AOp.mv (AX.c (AV.v (Value.int IntKind.i64 0)))) none),(AI.mk (some 5) (AOp.mv (AX.c (AV.v (Value.int IntKind.i64 0)))) none)]) (AC.seq (AC.region [(AI.mk (some 6) (AOp.new 3 1 (AX.c (AV.v (Value.int IntKind.i64 0)))) none),(AI.mk none (AOp.store 1 (AX.t 6) (AX.c (AV.v (Value.int IntKind.i64 0)))) none)]) (AC.seq (AC.seq (AC.region [(AI.mk (some 7) (AOp.mv (AX.t 0)) none),(AI.mk (some 8) (AOp.mv (AX.t 1)) none),(AI.mk (some 9) (AOp.call 36 [(AX.t 7),(AX.t 8)]) none)]) (AC.block 0 (AC.rng (AX.t 9) 10 AC.skip (AC.block 1 (AC.region [(AI.mk (some 11) (AOp.load false 1 (AX.t 6)) none),(AI.mk (some 12) (AOp.bin BinOp.add 3 false (Operand.tmp 11) (Operand.const (Value.int IntKind.i64 1)) (AX.t 11) (AX.c (AV.v (Value.int IntKind.i64 1)))) none),(AI.mk none (AOp.store 1 (AX.t 6) (AX.t 12)) none)]))))) (AC.seq (AC.draw [(AI.mk (some 13) (AOp.load false 1 (AX.t 6)) none),(AI.mk (some 14) (AOp.mv (AX.t 0)) none),(AI.mk (some 15) (AOp.mv (AX.t 1)) none),(AI.mk (some 16) (AOp.call 37 [(AX.t 14),(AX.t 15)]) none),(AI.mk (some 4) (AOp.mv (AX.t 13)) none),(AI.mk (some 5) (AOp.mv (AX.t 16)) none)]) AC.ret)))))
theorem cop24:copFX Try.prog [11,12,14,15,75,85,91,92,98,99,100,101,102] 24=some A24:=by kernel_rfl
end Go.Proofs.Ytefkaglgekjlfaa.Sim
namespace Go.Proofs.Ytefkaglgekjlfaa.Sim
open Go.RowKit
set_option maxRecDepth 100000
abbrev fon (F:List Bool) (k:Int):Prop:=F.getD k.toNat false=true
def stL (F:List Bool) (l:List Int):List Bool:=l.foldl (fun F c=>F.set c.toNat true) F
theorem stL_len (l:List Int) (F:List Bool):(stL F l).length=F.length:=by
  induction l generalizing F with
  | nil=>rfl
  | cons x t ih=>show (stL (F.set x.toNat true) t).length=_;rw [ih,List.length_set]
theorem stL_snoc {F:List Bool} {l:List Int} {k:Nat} (hk:k < l.length):stL F (l.take (k+1))=(stL F (l.take k)).set (l[k]).toNat true:=by
  rw [List.take_succ_eq_append_getElem hk,stL,List.foldl_append];rfl
theorem stL_on {l:List Int}:∀ {F:List Bool} {k:Int},0≤k→(∀ c ∈ l,0≤c∧c.toNat < F.length)→(fon (stL F l) k↔fon F k∨k ∈ l):=by
  induction l with
  | nil=>intro F k _ _;simp [stL]
  | cons x t ih =>
    intro F k hk hc
    have e:stL F (x::t)=stL (F.set x.toNat true) t:=rfl
    obtain ⟨x0,x1⟩:=hc x (List.mem_cons_self ..)
    rw [e,ih hk fun c hc'=>by rw [List.length_set];exact hc c (List.mem_cons_of_mem _ hc')]
    have:fon (F.set x.toNat true) k↔fon F k∨k=x:=by
      unfold fon
      rw [List.getD_eq_getElem?_getD,List.getD_eq_getElem?_getD]
      by_cases h:k=x
      · subst h;rw [List.getElem?_set_self x1];simp
      · rw [List.getElem?_set_ne (by omega)];simp [h]
    rw [this,List.mem_cons,or_assoc]
structure Dj (h:List Nd) (n j:Nat) (F:List Bool) (o:List Int):Prop where
  len:F.length=n+1
  only:∀ k:Int,0 < k→k≤(n:Int)→fon F k→Rch h (n:Int) k
  top:fon F (n:Int)
  clos:∀ k:Int,(n:Int) - j < k→k≤(n:Int)→fon F k→∀ c ∈ rfs h k,fon F c
  out:o=rp h (n:Int) n j
theorem Dj.all {h:List Nd} (hh:aH h h.length=true) {n j:Nat} {F:List Bool} {o:List Int} (hd:Dj h n j F o) {k:Int} (hk:Rch h (n:Int) k):(n:Int) - j≤k→fon F k:=by
  induction hk with
  | base _=>intro _;exact hd.top
  | step hkk hc ih =>
    intro hc2
    have h1:=hkk.bd hh
    have h2:=(rfs_bd hh hc).2.1 h1.1
    exact hd.clos _ (by omega) h1.2 (ih (by omega)) _ hc
theorem Dj.at_ {h:List Nd} (hh:aH h h.length=true) {n j:Nat} {F:List Bool} {o:List Int} (hd:Dj h n j F o) (hj:j < n):F[((n:Int) - j).toNat]? = some (rc h (n:Int) ((n:Int) - j)):=by
  have hl:=hd.len
  rw [List.getElem?_eq_getElem (by omega)]
  congr 1
  rw [Bool.eq_iff_iff,rc_iff]
  have e:fon F ((n:Int) - j)↔F[((n:Int) - j).toNat]=true:=by
    unfold fon;rw [List.getD_eq_getElem?_getD,List.getElem?_eq_getElem (by omega),Option.getD_some]
  rw [← e]
  exact ⟨hd.only _ (by omega) (by omega),fun h=>hd.all hh h (by omega)⟩
theorem Dj.no {h:List Nd} {n j:Nat} {F:List Bool} {o:List Int} (hd:Dj h n j F o) (hj:j < n) (hc:F[((n:Int) - j).toNat]? = some false) (hr:rc h (n:Int) ((n:Int) - j)=false):Dj h n (j+1) F o:=by
  refine ⟨hd.len,hd.only,hd.top,fun k h1 h2 hf c hcc=>?_,by rw [rp,hr,← hd.out];simp⟩
  by_cases e:k=(n:Int) - j
  · subst e
    unfold fon at hf
    rw [List.getD_eq_getElem?_getD,hc] at hf;cases hf
  · exact hd.clos k (by omega) h2 hf c hcc
theorem Dj.yes {h:List Nd} (hh:aH h h.length=true) {n j:Nat} {F:List Bool} {o:List Int} (hd:Dj h n j F o) (hj:j < n) (hr:rc h (n:Int) ((n:Int) - j)=true):Dj h n (j+1) (stL F (rfs h ((n:Int) - j))) (o++[(n:Int) - j]):=by
  have hl:=hd.len
  have hb:∀ c ∈ rfs h ((n:Int) - j),0≤c∧c.toNat < F.length:=fun c hc=>by
    have:=rfs_bd hh hc
    have:=this.2.1 (by omega)
    omega
  have hon:∀ {k:Int},0≤k→(fon (stL F (rfs h ((n:Int) - j))) k↔fon F k∨k ∈ rfs h ((n:Int) - j)):=fun hk=>stL_on hk hb
  refine ⟨by rw [stL_len,hl],fun k h1 h2 hf=>?_,(hon (by omega)).2 (.inl hd.top),fun k h1 h2 hf c hcc=>?_,by rw [rp,hr,← hd.out];simp⟩
  · rcases (hon (by omega)).1 hf with h | h
    · exact hd.only k h1 h2 h
    · exact .step (rc_iff.1 hr) h
  · have hc0 := (rfs_bd hh hcc).1
    refine (hon (by omega)).2 ?_
    by_cases e:k=(n:Int) - j
    · subst e;exact .inr hcc
    · refine .inl (hd.clos k (by omega) h2 ?_ c hcc)
      rcases (hon (by omega)).1 hf with h|h
      · exact h
      · have:=(rfs_bd hh h).2.1 (by omega);omega
section
variable (G:Nat→AV)
set_option maxHeartbeats 8000000 in
theorem desc31 (h:List Nd) (hl:h.length≤1000) (hx:∀ x ∈ h,x.Ok) (hh:aH h h.length=true) (n:Nat) (hn:n≤h.length):PC Try.prog G 53 [.sl 9 (h.map nA),I n] (.sl 1 ((rl h (n:Int) n).map iA)):=by
  have ur:List.replicate (n+1) (AV.v (.bool false))=(List.replicate (n+1) false).map bA:=bA_rep
  have us:((List.replicate (n+1) false).map bA).set n (.v (.bool true))=((List.replicate (n+1) false).set n true).map bA:=bA_set
  obtain ⟨F0,hF0⟩:∃ F0,F0=(List.replicate (n+1) false).set n true:=⟨_,rfl⟩
  have hD0:Dj h n 0 F0 []:=by
    have hon:∀ k:Int,0≤k→(fon F0 k→k=(n:Int)):=fun k hk hf=>by
      unfold fon at hf
      rw [hF0,List.getD_eq_getElem?_getD] at hf
      by_cases e:k=(n:Int)
      · exact e
      · rw [List.getElem?_set_ne (by omega), List.getElem?_replicate] at hf
        split at hf<;>simp at hf
    refine ⟨by rw [hF0];simp,fun k h1 h2 hf=>by obtain rfl:=hon k (by omega) hf;exact .base h1,?_,fun k h1 h2=>by omega,rfl⟩
    unfold fon
    rw [hF0,List.getD_eq_getElem?_getD]
    simp
  rw [← hF0] at us
  have r0:=nr_b (List.replicate (n+1) false)
  have r1:=nr_b F0
  have gz:((List.replicate (n+1) false).map bA)[n]? = some (.v (.bool false)):=bA_at (by rw [List.getElem?_replicate];simp)
  rw [← rp_end]
  clear hF0
  refine pc_ofV cop53 ?_
  repeat' ((conv=>whnf);first|(with_reducible refine SeqP.go ?_)|((with_reducible refine ObD.mk ?_ ?_);exact zD)|((with_reducible refine ObN.mk ?_ ?_);exact zN)|((with_reducible refine ObI.nl ?_ ?_);omega)|((with_reducible refine ObX.mk _ rfl ?_ ?_);exact zX)|((with_reducible refine (?_:ObL _ _));(refine ObL.mk _ zM ?_))|((with_reducible refine (?_:ObU _ _));(refine ObU.mk _ (by first|exact ur|exact us|assumption|((conv=>lhs;simp only [List.set_cons_zero,List.set_cons_succ,List.take_succ_cons,List.take_zero,List.drop_succ_cons,List.drop_zero,List.nil_append,List.cons_append,List.append_nil,List.take_nil,List.drop_nil]);try rfl)|rfl) ?_))|((with_reducible refine (?_:ObR _ _ _));(first|(refine ObR.mk _ (by first|assumption|with_reducible rfl) ?_)|(refine ObR.map zX (fun x hx=>?_))|(refine ObR.mk _ rfl ?_))))
  conv=>whnf
  refine LoopP.go (α:=Nat × List Bool × List Int) (fun p=>p.1≤n∧Dj h n p.1 p.2.1 p.2.2) (fun p=>n - p.1) (fun p=>[(5,some (rS 1 p.2.2)),(1,some (I ((n:Int) - p.1))),(1,none),(7,none),(0,none),(0,none),(0,none),(0,none),(0,none),(0,none),(0,none),(0,none),(0,none),(0,none),(0,none),(0,none),(0,none),(0,none),(0,none),(0,none),(0,none),(0,none),(0,none),(0,none),(0,none),(0,none),(0,none),(0,none),(0,none),(0,none),(0,none)]) (fun p=>[⟨4,1,p.2.1.map bA,0,0⟩]++rH p.2.2) (0,F0,[]) ⟨Nat.zero_le _,hD0⟩ (Fg.go ?_ rfl) ?_
  · repeat' ((conv=>whnf);first|((with_reducible refine ObEqs.mk ?_ ?_);rfl)|((with_reducible refine ObEq1.i ?_ ?_);exact zF)|((with_reducible refine ObEq1.mk ?_ ?_);exact zE)|exact True.intro)
  rintro ⟨j,F,o⟩ ⟨hj,hD⟩
  dsimp only at hj hD ⊢
  have hol:o.length≤j:=by rw [hD.out];exact rp_len
  have hFl:=hD.len
  have rb:=nr_b F
  by_cases hjn:j < n
  · obtain ⟨i, hi⟩ : ∃ i : Nat, i + j + 1 = n := ⟨n - 1 - j, by omega⟩
    have ei:(n:Int) - j=(i:Int)+1:=by omega
    have hrc:=hD.at_ hh hjn
    have hno:=hD.no hjn
    have hye:=hD.yes hh hjn
    rw [ei] at hrc hno hye ⊢
    have e2:((i:Int)+1).toNat=i+1:=by omega
    rw [e2] at hrc hno
    have hg:=bA_at hrc
    have e4:(n:Int) - ((j+1:Nat):Int)=(i:Int):=by omega
    cases hc:rc h (n:Int) ((i:Int)+1)
    · rw [hc] at hg hrc
      have hD2:=hno hrc hc
      rcases o with _|⟨o0,ot⟩
      all_goals repeat' ((conv=>whnf);first|(with_reducible refine SeqP.go ?_)|((with_reducible refine ObN.mk ?_ ?_);exact zN)|(with_reducible first|refine ObT.tt ?_|refine ObT.ff ?_)|((with_reducible refine ObB.yes ?_ ?_);exact zB)|((with_reducible refine ObI.mk _ rfl ?_ ?_ ?_);omega;omega)|((with_reducible refine ObX.mk _ rfl ?_ ?_);exact zX)|((with_reducible refine (?_:ObR _ _ _));(first|(refine ObR.mk _ (by first|assumption|with_reducible rfl) ?_)|(refine ObR.map zX (fun x hx=>?_))|(refine ObR.mk _ rfl ?_))))
      all_goals conv=>whnf
      all_goals first|refine Again.mk (j+1,F,[]) ⟨by dsimp only;omega,hD2⟩ (by dsimp only;omega) ?_|refine Again.mk (j+1,F,o0::ot) ⟨by dsimp only;omega,hD2⟩ (by dsimp only;omega) ?_
      all_goals (try dsimp only)
      all_goals rw [e4]
      all_goals refine Fg.go ?_ rfl
      all_goals repeat' ((conv=>whnf);first|((with_reducible refine ObEqs.mk ?_ ?_);rfl)|((with_reducible refine ObEq1.i ?_ ?_);exact zF)|((with_reducible refine ObEq1.mk ?_ ?_);exact zE)|exact True.intro)
    · rw [hc] at hg
      have hD2:=hye hc
      have hil:i < h.length:=by omega
      have hq:=nA_at hil
      have hxo:=hx _ (List.getElem_mem hil)
      have hrf:=refs30 G h[i] hxo
      have hrl:=rf_len hxo
      have hrfs:rfs h ((i:Int)+1)=rfN h[i]:=by
        rw [rfs,show ((i:Int)+1 - 1).toNat=i by omega,List.getElem?_eq_getElem hil]
      have hrr:∀ c ∈ rfs h ((i:Int)+1),1≤c∧c≤(i:Int):=fun c hc=>by
        have:=rfs_bd hh hc
        have:=this.2.1 (by omega)
        omega
      rw [hrfs] at hrr hD2
      generalize h[i]=x at *
      rw [← show ((i:Int)+1 - 1).toNat=i by omega] at hq
      obtain ⟨O,hO⟩:∃ O,O=o++[(i:Int)+1]:=⟨_,rfl⟩
      rw [← hO] at hD2
      have hOl:O.length=o.length+1:=by rw [hO];simp
      have rO:=nr_i O
      clear hno hye hD hh
      rcases o with _|⟨o0,ot⟩
      · obtain rfl : O = [(i : Int) + 1] := hO
        repeat' ((conv=>whnf);first|(with_reducible refine SeqP.go ?_)|((with_reducible refine ObD.mk ?_ ?_);exact zD)|((with_reducible refine ObN.mk ?_ ?_);exact zN)|(with_reducible first|refine ObT.tt ?_|refine ObT.ff ?_)|((with_reducible refine ObB.yes ?_ ?_);exact zB)|((with_reducible refine ObI.mk _ rfl ?_ ?_ ?_);omega;omega)|((with_reducible refine ObX.mk _ rfl ?_ ?_);exact zX)|((with_reducible refine ObX.int ?_ ?_ ?_);exact zX;exact zX)|((with_reducible refine (?_:ObL _ _));(refine ObL.mk _ zM ?_))|((with_reducible refine (?_:ObU _ _));(refine ObU.mk _ zU ?_))|((with_reducible refine (?_:ObR _ _ _));(first|(refine ObR.mk _ (by first|assumption|with_reducible rfl) ?_)|(refine ObR.map zX (fun x hx=>?_))|(refine ObR.mk _ rfl ?_)))|((with_reducible refine ObC.f 70 ?_);(first|(with_reducible refine ObC.mk _ (hrf) ?_)|(refine ObC.mk _ (hrf) ?_)))|((with_reducible refine ObW.cons ?_ ?_);(focus (first|assumption|(simp;done)))))
        conv=>whnf
        refine LoopP.go (α:=Nat) (fun k=>k≤(rfN x).length) (fun k=>(rfN x).length - k) (fun k=>[(5,some (.ol 1 0 1)),(3,none),(16,none),(1,none),(0,none),(7,some (I k)),(0,none),(0,none),(0,none),(0,none),(0,none),(0,none),(0,none)]) (fun k=>[⟨4,1,(stL F ((rfN x).take k)).map bA,0,0⟩,kR 0 [(i:Int)+1]]) 0 (Nat.zero_le _) (Fg.vw [(0,0,0),(0,2,0)] (by repeat' ((conv=>whnf);first|((with_reducible refine ObN.mk ?_ ?_);exact zN)|((with_reducible refine ObRn.mk ?_ ?_);(focus (first|rfl|(simp [rnB,rnC,rnL];done))))|((with_reducible refine ObEqs.mk ?_ ?_);rfl)|exact True.intro)) (by repeat' ((conv=>whnf);first|((with_reducible refine ObN.mk ?_ ?_);exact zN)|((with_reducible refine ObRow.same ?_ ?_ ?_);exact zE;(focus (first|rfl|assumption|(simp;done))))|exact True.intro)) (by simp) (by repeat' ((conv=>whnf);first|exact True.intro))) ?_
        rintro k hk
        have hsl:=stL_len ((rfN x).take k) F
        by_cases hkr:k < (rfN x).length
        · have hq2 := iA_at' hkr
          have hr1:=hrr _ (List.getElem_mem hkr)
          have hs:=stL_snoc (F:=F) hkr
          generalize stL F ((rfN x).take k)=F2 at *
          generalize (rfN x)[k]=c at *
          have g9:(F2.map bA)[c.toNat]? = some (.v (.bool (F2.getD c.toNat false))):=bA_at (by rw [List.getD_eq_getElem?_getD,List.getElem?_eq_getElem (by omega)];rfl)
          have us2:(F2.map bA).set c.toNat (.v (.bool true))=(F2.set c.toNat true).map bA:=bA_set
          have rb2:=nr_b F2
          have rb3:=nr_b (F2.set c.toNat true)
          repeat' ((conv=>whnf);first|(with_reducible refine SeqP.go ?_)|((with_reducible refine ObD.mk ?_ ?_);exact zD)|((with_reducible refine ObN.mk ?_ ?_);exact zN)|(with_reducible refine ObT.tt ?_)|((with_reducible refine ObB.yes ?_ ?_);exact zB)|((with_reducible refine ObI.nl ?_ ?_);omega)|((with_reducible refine ObX.mk _ rfl ?_ ?_);exact zX)|((with_reducible refine ObX.int ?_ ?_ ?_);exact zX;exact zX)|((with_reducible refine (?_:ObU _ _));(refine ObU.mk _ (by first|exact us2|assumption|((conv=>lhs;simp only [List.set_cons_zero,List.set_cons_succ,List.take_succ_cons,List.take_zero,List.drop_succ_cons,List.drop_zero,List.nil_append,List.cons_append,List.append_nil,List.take_nil,List.drop_nil]);try rfl)|rfl) ?_))|((with_reducible refine (?_:ObR _ _ _));(first|(refine ObR.mk _ (by first|assumption|with_reducible rfl) ?_)|(refine ObR.map zX (fun x hx=>?_))|(refine ObR.mk _ rfl ?_))))
          conv=>whnf
          refine Again.mk (k+1) (by omega) (by omega) ?_
          rw [hs]
          refine Fg.vw [(0,0,0),(0,1,0)] ?_ ?_ (by simp) ?_
          all_goals repeat' ((conv=>whnf);first|((with_reducible refine ObN.mk ?_ ?_);exact zN)|((with_reducible refine ObRn.mk ?_ ?_);(focus (first|rfl|(simp [rnB,rnC,rnL];done))))|((with_reducible refine ObRow.same ?_ ?_ ?_);exact zE;(focus (first|rfl|assumption|(simp;done))))|((with_reducible refine ObEqs.mk ?_ ?_);rfl)|exact True.intro)
        · obtain rfl : k = (rfN x).length := by omega
          rw [List.take_length]
          have rb2:=nr_b (stL F (rfN x))
          repeat' ((conv=>whnf);first|(with_reducible refine SeqP.go ?_)|((with_reducible refine ObN.mk ?_ ?_);exact zN)|(with_reducible refine ObT.ff ?_)|((with_reducible refine ObB.no ?_ ?_);exact zC)|((with_reducible refine ObI.mk _ rfl ?_ ?_ ?_);omega;omega))
          conv=>whnf
          refine Again.mk (j+1,stL F (rfN x),[(i:Int)+1]) ⟨by dsimp only;omega,hD2⟩ (by dsimp only;omega) ?_
          try dsimp only
          rw [e4]
          refine Fg.vw [(0,0,0),(0,1,0)] ?_ ?_ (by simp) ?_
          all_goals repeat' ((conv=>whnf);first|((with_reducible refine ObRn.mk ?_ ?_);(focus (simp [rnB,rnC,rS];done)))|((with_reducible refine ObN.mk ?_ ?_);exact zN)|((with_reducible refine ObRow.same ?_ ?_ ?_);exact zE;(focus (first|rfl|assumption|(simp;done))))|((with_reducible refine ObEqs.mk ?_ ?_);rfl)|exact True.intro)
      · have us2 : ((o0 :: ot).map iA).take (ot.length + 1) ++ [.v (.int .i64 ((i : Int) + 1))] = O.map iA := by rw [hO]; exact i_snoc (l := o0 :: ot)
        have hl2:ot.length+1+[I ((i:Int)+1)].length=O.length:=by rw [hOl];rfl
        have hO2:O=o0::(ot++[(i:Int)+1]):=by rw [hO];rfl
        have hol':ot.length+1≤j:=hol
        have r5:=nr_i (o0::ot)
        repeat' ((conv=>whnf);first|(with_reducible refine SeqP.go ?_)|((with_reducible refine ObD.mk ?_ ?_);exact zD)|((with_reducible refine ObN.mk ?_ ?_);exact zN)|(with_reducible first|refine ObT.tt ?_|refine ObT.ff ?_)|((with_reducible refine ObB.yes ?_ ?_);exact zB)|((with_reducible refine ObI.mk _ rfl ?_ ?_ ?_);omega;omega)|((with_reducible refine ObX.mk _ rfl ?_ ?_);exact zX)|((with_reducible refine ObX.int ?_ ?_ ?_);exact zX;exact zX)|((with_reducible refine (?_:ObL _ _));(refine ObL.mk _ (by first|exact hl2|exact (List.length_map _)|assumption|exact (List.length_map _).trans (by assumption)|exact List.length_map _|rfl) ?_))|((with_reducible refine (?_:ObU _ _));(refine ObU.mk _ (by first|exact us2|assumption|((conv=>lhs;simp only [List.set_cons_zero,List.set_cons_succ,List.take_succ_cons,List.take_zero,List.drop_succ_cons,List.drop_zero,List.nil_append,List.cons_append,List.append_nil,List.take_nil,List.drop_nil]);try rfl)|rfl) ?_))|((with_reducible refine (?_:ObR _ _ _));(first|(refine ObR.mk _ (by first|assumption|with_reducible rfl) ?_)|(refine ObR.map zX (fun x hx=>?_))|(refine ObR.mk _ rfl ?_)))|((with_reducible refine ObC.f 70 ?_);(first|(with_reducible refine ObC.mk _ (hrf) ?_)|(refine ObC.mk _ (hrf) ?_))))
        conv=>whnf
        refine LoopP.go (α:=Nat) (fun k=>k≤(rfN x).length) (fun k=>(rfN x).length - k) (fun k=>[(5,some (.ol 1 0 O.length)),(3,none),(16,none),(1,none),(0,none),(7,some (I k)),(0,none),(0,none),(0,none),(0,none),(0,none),(0,none),(0,none)]) (fun k=>[⟨4,1,(stL F ((rfN x).take k)).map bA,0,0⟩,kR 0 O]) 0 (Nat.zero_le _) (Fg.vw [(0,0,0),(0,1,1)] (by repeat' ((conv=>whnf);first|((with_reducible refine ObN.mk ?_ ?_);exact zN)|((with_reducible refine ObRn.mk ?_ ?_);(focus (first|rfl|(simp [rnB,rnC,rnL];done))))|((with_reducible refine ObEqs.mk ?_ ?_);rfl)|exact True.intro)) (by repeat' ((conv=>whnf);first|((with_reducible refine ObN.mk ?_ ?_);exact zN)|((with_reducible refine ObRow.same ?_ ?_ ?_);exact zE;(focus (first|rfl|assumption|(simp;done))))|exact True.intro)) (by simp) (by repeat' ((conv=>whnf);first|exact True.intro))) ?_
        rintro k hk
        have hsl:=stL_len ((rfN x).take k) F
        by_cases hkr:k < (rfN x).length
        · have hq2 := iA_at' hkr
          have hr1:=hrr _ (List.getElem_mem hkr)
          have hs:=stL_snoc (F:=F) hkr
          generalize stL F ((rfN x).take k)=F2 at *
          generalize (rfN x)[k]=c at *
          have g9:(F2.map bA)[c.toNat]? = some (.v (.bool (F2.getD c.toNat false))):=bA_at (by rw [List.getD_eq_getElem?_getD,List.getElem?_eq_getElem (by omega)];rfl)
          have us2:(F2.map bA).set c.toNat (.v (.bool true))=(F2.set c.toNat true).map bA:=bA_set
          have rb2:=nr_b F2
          have rb3:=nr_b (F2.set c.toNat true)
          repeat' ((conv=>whnf);first|(with_reducible refine SeqP.go ?_)|((with_reducible refine ObD.mk ?_ ?_);exact zD)|((with_reducible refine ObN.mk ?_ ?_);exact zN)|(with_reducible refine ObT.tt ?_)|((with_reducible refine ObB.yes ?_ ?_);exact zB)|((with_reducible refine ObI.nl ?_ ?_);omega)|((with_reducible refine ObX.mk _ rfl ?_ ?_);exact zX)|((with_reducible refine ObX.int ?_ ?_ ?_);exact zX;exact zX)|((with_reducible refine (?_:ObU _ _));(refine ObU.mk _ (by first|exact us2|assumption|((conv=>lhs;simp only [List.set_cons_zero,List.set_cons_succ,List.take_succ_cons,List.take_zero,List.drop_succ_cons,List.drop_zero,List.nil_append,List.cons_append,List.append_nil,List.take_nil,List.drop_nil]);try rfl)|rfl) ?_))|((with_reducible refine (?_:ObR _ _ _));(first|(refine ObR.mk _ (by first|assumption|with_reducible rfl) ?_)|(refine ObR.map zX (fun x hx=>?_))|(refine ObR.mk _ rfl ?_))))
          conv=>whnf
          refine Again.mk (k+1) (by omega) (by omega) ?_
          rw [hs]
          refine Fg.vw [(0,0,0),(0,1,0)] ?_ ?_ (by simp) ?_
          all_goals repeat' ((conv=>whnf);first|((with_reducible refine ObN.mk ?_ ?_);exact zN)|((with_reducible refine ObRn.mk ?_ ?_);(focus (first|rfl|(simp [rnB,rnC,rnL];done))))|((with_reducible refine ObRow.same ?_ ?_ ?_);exact zE;(focus (first|rfl|assumption|(simp;done))))|((with_reducible refine ObEqs.mk ?_ ?_);rfl)|exact True.intro)
        · obtain rfl : k = (rfN x).length := by omega
          rw [List.take_length]
          have rb2:=nr_b (stL F (rfN x))
          subst hO2
          have hl5:(ot++[(i:Int)+1]).length=ot.length+1:=by simp
          repeat' ((conv=>whnf);first|(with_reducible refine SeqP.go ?_)|((with_reducible refine ObN.mk ?_ ?_);exact zN)|(with_reducible refine ObT.ff ?_)|((with_reducible refine ObB.no ?_ ?_);exact zC)|((with_reducible refine ObI.mk _ rfl ?_ ?_ ?_);omega;omega))
          conv=>whnf
          refine Again.mk (j+1,stL F (rfN x),o0::(ot++[(i:Int)+1])) ⟨by dsimp only;omega,hD2⟩ (by dsimp only;omega) ?_
          try dsimp only
          rw [e4]
          refine Fg.vw [(0,0,0),(0,1,0)] ?_ ?_ (by simp) ?_
          all_goals repeat' ((conv=>whnf);first|((with_reducible refine ObRn.mk ?_ ?_);(focus (simp [rnB,rnC,rS];done)))|((with_reducible refine ObN.mk ?_ ?_);exact zN)|((with_reducible refine ObRow.same ?_ ?_ ?_);exact zE;(focus (first|rfl|assumption|(simp;done))))|((with_reducible refine ObEqs.mk ?_ ?_);rfl)|exact True.intro)
  · obtain rfl : j = n := by omega
    rw [← hD.out]
    rcases o with _|⟨o0,ot⟩
    · repeat' ((conv=>whnf);first|(with_reducible refine SeqP.go ?_)|((with_reducible refine ObN.mk ?_ ?_);exact zN)|(with_reducible refine ObT.ff ?_)|((with_reducible refine ObB.no ?_ ?_);exact zC)|((with_reducible refine ObEq.mk ?_);exact zE))
    · have la : ((o0 :: ot).map iA).take (ot.length + 1) = (o0 :: ot).map iA := i_all (l := o0 :: ot)
      have lp:=p_i (o0::ot)
      repeat' ((conv=>whnf);first|(with_reducible refine SeqP.go ?_)|((with_reducible refine ObN.mk ?_ ?_);exact zN)|(with_reducible refine ObT.ff ?_)|((with_reducible refine ObB.no ?_ ?_);exact zC)|((with_reducible refine (?_:ObU _ _));(refine ObU.mk _ (by first|exact la|assumption|((conv=>lhs;simp only [List.set_cons_zero,List.set_cons_succ,List.take_succ_cons,List.take_zero,List.drop_succ_cons,List.drop_zero,List.nil_append,List.cons_append,List.append_nil,List.take_nil,List.drop_nil]);try rfl)|rfl) ?_))|((with_reducible refine ObEq.mk ?_);exact zE))
end
end Go.Proofs.Ytefkaglgekjlfaa.Sim
namespace Go.Proofs.Ytefkaglgekjlfaa.Sim
open Go.RowKit Go.Shelf
set_option maxRecDepth 100000
theorem pv_box {F:Fz} {x:Value} {a:AV} (h:PV F x (.ad 1 [a] 0 0)) (ha:a.cells=[a]):∃ b o v,x = .pointer (some ⟨b,o,none⟩)∧F b o=some v∧PV F v a:=by
  cases h with
  | ad b o k es i off hk h1 f hf h =>
    exact ⟨b,o,f 0 0,rfl,hf 0 0 (by simp) (by omega),h 0 0 a a rfl (by rw [ha];rfl)⟩
theorem pv_ints {F:Fz} {v:Value} {L:List Int} (h:PV F v (.sl 1 (L.map iA))):∃ A cap,v = .slice A L.length cap∧L.length≤cap∧cap≤maxLen∧(L=[]∨∃ b o,A=some ⟨b,o,none⟩∧∀ i (hi:i < L.length),F b (o+i)=some (.int .i64 L[i])):=by
  cases h with
  | sl A n cap k es hn hc hm hk h1 b o hA f hf h =>
    have hn':L.length=n:=by simpa using hn
    refine ⟨A,cap,by rw [hn'],by omega,hm,?_⟩
    rcases Nat.eq_zero_or_pos L.length with h0|h0
    · exact .inl (List.length_eq_zero_iff.1 h0)
    · refine .inr ⟨b,o,hA (by omega),fun i hi=>?_⟩
      have h2:=hf i 0 (by omega) (by omega)
      have h3:=h i 0 (I L[i]) (I L[i]) (iA_at' hi) rfl
      rw [Nat.mul_one,Nat.add_zero] at h2
      rw [h2]
      generalize f i 0=y at h3
      cases h3;rfl
set_option maxHeartbeats 4000000 in
theorem seq54 (G:Nat→AV) (L:List Int) (hL:L.length≤1000000):SeqC Try.prog G 54 [.ad 1 [.sl 1 (L.map iA)] 0 0] (L.map iA):=by
  refine ⟨hb54,fun n lo F xs J W hg hxl hxv hfr hbel hY h0=>?_⟩
  obtain ⟨x0,rfl⟩:∃ x0,xs=[x0]:=by
    match xs,hxl with
    | [x],_=>exact ⟨x,rfl⟩
  obtain ⟨b,o,v,rfl,hbv,hv⟩:=pv_box (hxv 0 x0 _ rfl rfl) rfl
  obtain ⟨A,cap,rfl,hc1,hc2,hel⟩:=pv_ints hv
  have hcell:=hfr 0 W h0 b o _ hbv
  refine callsIn_of_wp Try.func54 rfl trivial ?_ rfl
  simp only [Try.ntmps54,List.size_toArray,List.length_cons,List.length_nil,Nat.reduceAdd,Nat.reduceSub,Array.replicate_succ,Array.replicate_zero,List.push_toArray,List.append_toArray,List.nil_append,List.cons_append]
  gi_wp2
  gi_loopw [7] (fun p wr=>∃ k:Nat,p = .int .i64 k∧k≤L.length∧J k wr) (fun p _=>L.length - (intOf p).toNat)
  case atStart =>
    exact ⟨0,rfl,Nat.zero_le _,h0⟩
  case round =>
    obtain ⟨k,rfl,hk,hJ⟩:=hrel
    by_cases hkl:k < L.length
    · obtain ⟨b2,o2,rfl,hcells⟩:=hel.resolve_left (fun e=>by rw [e] at hkl;simp at hkl)
      have hc:=hfr k wr hJ b2 (o2+k) _ (hcells k hkl)
      obtain ⟨fn,tmps,assign,body,hy,hR⟩:=hY k wr (I L[k]) (.int .i64 L[k]) (n - 1) hJ (iA_at' hkl) (.v _ rfl)
      have hlt:(k:Int) < (L.length:Int):=by omega
      gi_wp2
      refine ⟨fun hh=>(by cases hh),hR.mono ?_⟩
      rintro e W3 ⟨rfl,hJ3⟩
      gi_wp2
      go_roundw
      case rel=>exact ⟨k+1,by simp,by omega,hJ3⟩
      case measure=>simp [intOf];omega
    · obtain rfl : k = L.length := by omega
      gi_wp2
      go_end0
      exact ⟨⟨_,rfl⟩,by rw [List.length_map];exact hJ⟩
end Go.Proofs.Ytefkaglgekjlfaa.Sim
namespace Go.Proofs.Ytefkaglgekjlfaa.Sim
open Go.RowKit
set_option maxRecDepth 100000
noncomputable def rL (h:List Nd) (r:Int) (c:Bool):List Int:=if c then rl h r r.toNat else []
theorem rl_len {h:List Nd} {r:Int}:∀ {n:Nat},(rl h r n).length≤n:=by
  intro n
  induction n with
  | zero=>simp [rl]
  | succ n ih=>rw [rl,List.length_append];split<;>simp<;>omega
theorem rL_len {h:List Nd} {r:Int} {c:Bool} (hc:c=okR h r):(rL h r c).length≤h.length:=by
  unfold rL
  cases c
  · simp
  · have hc' := hc.symm
    simp only [okR,Bool.and_eq_true,decide_eq_true_eq] at hc'
    have:=@rl_len h r r.toNat
    rw [if_pos rfl];omega
section
variable (G:Nat→AV)
theorem xop36:copFX Try.prog [11,12,14,15,75,85,91,92,98,99,100,101,102] 36=some A36:=by kernel_rfl
set_option maxHeartbeats 4000000 in
theorem refs15 (h:List Nd) (hl:h.length≤1000) (hx:∀ x ∈ h,x.Ok) (r:Int) (c:Bool) (hc:c=okR h r):PC Try.prog G 36 [.sl 9 (h.map nA),I r] (.fn 54 [.ad 1 [.sl 1 ((rL h r c).map iA)] 0 0]):=by
  have hm:=may21 G h hl hx r c hc
  unfold rL
  cases c
  · simp only [eo, Bool.false_eq_true, if_false] at hm ⊢
    refine pc_ofX xop36 ?_
    skip
    conv=>whnf
    refine SeqX.sp (SeqP.go ?_)
    repeat' ((conv=>whnf);first|((with_reducible refine ObD.mk ?_ ?_);exact zD)|((with_reducible refine ObN.mk ?_ ?_);exact zN)|((with_reducible refine (?_:ObU _ _));(refine ObU.mk _ zU ?_))|((with_reducible refine (?_:ObR _ _ _));(first|(refine ObR.mk _ (by first|assumption|with_reducible rfl) ?_)|(refine ObR.map zX (fun x hx=>?_))|(refine ObR.mk _ rfl ?_))))
    conv=>whnf
    refine SeqX.sp (SeqP.go ?_)
    repeat' ((conv=>whnf);first|((with_reducible refine ObN.mk ?_ ?_);exact zN)|((with_reducible refine ObB.no ?_ ?_);exact zC)|((with_reducible refine ObC.f 37 ?_);(first|(with_reducible refine ObC.mk _ (hm) ?_)|(refine ObC.mk _ (hm) ?_))))
    conv=>whnf
    refine SeqX.sp (SeqP.go ?_)
    repeat' ((conv=>whnf);first|(with_reducible refine ObT.ff ?_))
    conv=>whnf
    refine SeqX.fe 0 0 [false,true] ?_
    repeat' ((conv=>whnf);first|(with_reducible first|refine SeqP.go ?_|refine SeqX.sp ?_)|((with_reducible refine ObN.mk ?_ ?_);exact zN)|((with_reducible refine (?_:ObU _ _));(refine ObU.mk _ zU ?_))|((with_reducible refine ObEq.mk ?_);exact zE)|((with_reducible refine ObSt.live ?_ ?_);(focus (first|trivial|(refine ⟨rfl,?_⟩;first|omega|(exact Nat.le_refl _))))))
  · have hc' := hc.symm
    simp only [okR,Bool.and_eq_true,decide_eq_true_eq] at hc'
    obtain ⟨⟨h0,h1⟩,hh⟩:=hc'
    obtain ⟨n,rfl⟩:∃ n:Nat,r=(n:Int):=⟨r.toNat,by omega⟩
    have hd:=desc31 G h hl hx hh n (by omega)
    simp only [eo,if_true,Int.toNat_natCast] at hm ⊢
    have hp:=p_i (rl h (n:Int) n)
    refine pc_ofV cop36 ?_
    repeat' ((conv=>whnf);first|(with_reducible refine SeqP.go ?_)|((with_reducible refine ObD.mk ?_ ?_);exact zD)|((with_reducible refine ObN.mk ?_ ?_);exact zN)|(with_reducible refine ObT.tt ?_)|((with_reducible refine ObB.yes ?_ ?_);exact zB)|((with_reducible refine (?_:ObU _ _));(refine ObU.mk _ zU ?_))|((with_reducible refine (?_:ObR _ _ _));(first|(refine ObR.mk _ (by first|assumption|with_reducible rfl) ?_)|(refine ObR.map zX (fun x hx=>?_))|(refine ObR.mk _ rfl ?_)))|((with_reducible refine ObC.f 37 ?_);(first|(with_reducible refine ObC.mk _ (hm) ?_)|(refine ObC.mk _ (hm) ?_)))|((with_reducible refine ObC.f 53 ?_);(first|(with_reducible refine ObC.mk _ (hd) ?_)|(refine ObC.mk _ (hd) ?_)))|((with_reducible refine ObEq.mk ?_);exact zE))
set_option maxHeartbeats 4000000 in
theorem count13 (h:List Nd) (hl:h.length≤1000) (hx:∀ x ∈ h,x.Ok) (r:Int) (c:Bool) (hc:c=okR h r):PC Try.prog G 24 [.sl 9 (h.map nA),I r] (.tup [I ((rL h r c).length:Nat),I (eo c)]):=by
  have hm:=may21 G h hl hx r c hc
  have hR:=refs15 G h hl hx r c hc
  have hLl:=rL_len hc
  have hS:=fun hL=>seq54 G (rL h r c) hL
  generalize rL h r c=L at *
  refine pc_ofX cop24 ?_
  repeat' ((conv=>whnf);first|(with_reducible first|refine SeqP.go ?_|refine SeqX.sp ?_)|((with_reducible refine ObD.mk ?_ ?_);exact zD)|((with_reducible refine ObN.mk ?_ ?_);exact zN)|((with_reducible refine (?_:ObU _ _));(refine ObU.mk _ zU ?_))|((with_reducible refine (?_:ObR _ _ _));(first|(refine ObR.mk _ (by first|assumption|with_reducible rfl) ?_)|(refine ObR.map zX (fun x hx=>?_))|(refine ObR.mk _ rfl ?_)))|((with_reducible refine ObC.f 36 ?_);(first|(with_reducible refine ObC.mk _ (hR) ?_)|(refine ObC.mk _ (hR) ?_))))
  conv=>whnf
  refine RngP.mk 54 [.ad 1 [.sl 1 (L.map iA)] 0 0] (L.map iA) rfl rfl (hS (by omega)) Nat (fun k a=>a=k∧k≤L.length) (fun a=>[⟨3,1,[I (a:Nat)],0,0⟩]) 0 ⟨rfl,Nat.zero_le _⟩ _ (Fg.goS rfl) ?_ ?_
  · rintro k a e ⟨rfl, hk⟩ he
    have hkl:a < L.length:=by
      have:=(List.getElem?_eq_some_iff.1 he).1
      simpa using this
    repeat' ((conv=>whnf);first|((with_reducible refine ObD.mk ?_ ?_);exact zD)|((with_reducible refine ObN.mk ?_ ?_);exact zN)|((with_reducible refine ObI.nl ?_ ?_);omega)|((with_reducible refine (?_:ObU _ _));(refine ObU.mk _ zU ?_))|((with_reducible refine (?_:ObR _ _ _));(first|(refine ObR.mk _ (by first|assumption|with_reducible rfl) ?_)|(refine ObR.map zX (fun x hx=>?_))|(refine ObR.mk _ rfl ?_))))
    conv=>whnf
    refine AgR.mk (a+1) ⟨rfl,by omega⟩ (Fg.goS rfl)
  · rintro a ⟨ha, _⟩
    rw [List.length_map] at ha
    subst ha
    repeat' ((conv=>whnf);first|(with_reducible first|refine SeqP.go ?_|refine SeqX.sp ?_)|((with_reducible refine ObD.mk ?_ ?_);exact zD)|((with_reducible refine ObN.mk ?_ ?_);exact zN)|((with_reducible refine (?_:ObR _ _ _));(first|(refine ObR.mk _ (by first|assumption|with_reducible rfl) ?_)|(refine ObR.map zX (fun x hx=>?_))|(refine ObR.mk _ rfl ?_)))|((with_reducible refine ObC.f 37 ?_);(first|(with_reducible refine ObC.mk _ (hm) ?_)|(refine ObC.mk _ (hm) ?_)))|((with_reducible refine ObEq.mk ?_);exact zE))
end
end Go.Proofs.Ytefkaglgekjlfaa.Sim
