/- Texts of this claim, part 7. -/
import Derived.Test.YtnammfeiehikfaaMPlanDoes6
import Derived.Test.YtnammfeiehikfaaProg
set_option linter.unusedVariables false
set_option linter.unusedSimpArgs false
namespace Go.Proofs.Ytnammfeiehikfaa.Sim
open Go.RowKit
set_option maxRecDepth 100000
theorem cnt43 (G:Nat→AV) (m:Nat) (hm:m < 4294967296):PC Try.prog G 49 [.v (.int .u32 (m:Int))] (I ((upI m 32).length:Nat)):=by
  have h:=pop53 G m hm
  have e:(Mk.all m).length=(upI m 32).length:=by simp [upI,Mk.all]
  rw [e] at h
  refine pc_ofV cop49 ?_
  repeat' ((conv=>whnf);first|(with_reducible refine SeqP.go ?_)|((with_reducible refine ObC.f 57 ?_);(first|(with_reducible refine ObC.mk _ (h) ?_)|(refine ObC.mk _ (h) ?_)))|((with_reducible refine ObEq.i ?_);(focus (first|(with_reducible rfl)|omega))))
theorem lenP {α:Type} {l:List α}:(0:Int) < (l.length:Nat)↔¬ l=[]:=by cases l<;>simp
theorem lenZ {α:Type} {l:List α}:((l.length:Nat):Int)=0↔l=[]:=by rw [← List.length_eq_zero_iff];omega
theorem slt_mk {l:List Pr}:Pr7.SLt l↔l=Pr7.mk l:=⟨fun h=>(Pr7.mk_of h).symm,fun h=>by rw [h];exact Pr7.mk_lt l⟩
set_option maxHeartbeats 4000000 in
theorem hasForm31 (G : Nat → AV) (kn : Int) (ke va : ByteArray) (mp : Nat) (kk : List Int) (mn : Int) (ls : List Pr) (sz bi : Int) (k1 : 1 ≤ kn) (k6 : kn ≤ 6) (hm : mp < 4294967296) (hke : ke.size ≤ 40) (hva : va.size ≤ 40) (hk : kk.length ≤ 40) (hl : ls.length ≤ 40) (hs : ∀ p ∈ ls, p.1.size ≤ 40 ∧ p.2.size ≤ 40) (r : Bool) (hr : r = true ↔ FormP kn ke va mp kk mn ls sz bi) :
    PC Try.prog G 43 [nV kn ke va (mp:Int) kk mn ls sz bi] (Bo r):=by
  have hkn:kn=1∨kn=6∨kn=2∨kn=3∨kn=4∨kn=5:=by omega
  have z0:ByteArray.size (ByteArray.mk #[])≤9223372036854775807:=by decide
  have l0:([]:List Int).length≤9223372036854775807:=by simp
  have l1:([]:List Pr).length≤9223372036854775807:=by simp
  rcases hkn with rfl|rfl|rfl|rfl|rfl|rfl
  · obtain ⟨q, hq⟩ : ∃ q, q = decide ((1 : Int) = 1 ∧ ke = ke ∧ va = va ∧ (mp : Int) = 0 ∧ kk = [] ∧ mn = 0 ∧ ls = [] ∧ sz = 1 ∧ bi = bi) := ⟨_, rfl⟩
    have h22:=same22 G 1 1 ke ke va va mp 0 kk [] mn 0 ls [] sz 1 bi bi (by omega) (by omega) (by omega) (by omega) (by omega) l0 (by omega) l1 q hq
    have hr':r=true↔¬ bi < 0∧q=true:=by rw [hr,hq];simp [FormP,BareP,lenP,lenZ];intros;constructor<;>(intros;simp_all)
    clear hr hq hs
    refine pc_ofV cop43 ?_
    repeat' ((conv=>whnf);first|(with_reducible refine SeqP.go ?_)|((with_reducible refine ObD.mk ?_ ?_);(focus (first|rfl|(simp;done))))|((with_reducible refine ObN.mk ?_ ?_);(focus exact zN))|(with_reducible refine ObT.tt ?_)|(with_reducible refine ObT.ff ?_)|((with_reducible refine ObB.yes ?_ ?_);(focus (first|assumption|(with_reducible rfl)|omega)))|(with_reducible refine ObB.mk (fun h=>?_) (fun h=>?_))|((with_reducible refine (?_:ObU _ _));(refine ObU.mk _ zU ?_))|((with_reducible refine (?_:ObR _ _ _));(first|(refine ObR.mk _ (by assumption) ?_)|(refine ObR.mk _ (by with_reducible rfl) ?_)|(refine ObR.map zX (fun x hx=>?_))|(refine ObR.mk _ rfl ?_)))|((with_reducible refine ObC.f 34 ?_);(first|(with_reducible refine ObC.mk _ ((leaf14 G _ _)) ?_)|(refine ObC.mk _ ((leaf14 G _ _)) ?_)))|((with_reducible refine ObC.f 53 ?_);(first|(with_reducible refine ObC.mk _ (h22) ?_)|(refine ObC.mk _ (h22) ?_)))|((with_reducible refine ObEq.mk ?_);(focus (first|rfl|assumption|exact (by cases r<;>cases q<;>first|(simp_all;done)|(simp_all;omega))))))
  · obtain ⟨q, hq⟩ : ∃ q, q = decide ((6 : Int) = 6 ∧ ke = ke ∧ va = va ∧ (mp : Int) = 0 ∧ kk = [] ∧ mn = 0 ∧ ls = [] ∧ sz = 1 ∧ bi = bi) := ⟨_, rfl⟩
    have h22:=same22 G 6 6 ke ke va va mp 0 kk [] mn 0 ls [] sz 1 bi bi (by omega) (by omega) (by omega) (by omega) (by omega) l0 (by omega) l1 q hq
    have hr':r=true↔¬ bi < 0∧q=true:=by rw [hr,hq];simp [FormP,BareP,lenP,lenZ];intros;constructor<;>(intros;simp_all)
    clear hr hq hs
    refine pc_ofV cop43 ?_
    repeat' ((conv=>whnf);first|(with_reducible refine SeqP.go ?_)|((with_reducible refine ObD.mk ?_ ?_);(focus (first|rfl|(simp;done))))|((with_reducible refine ObN.mk ?_ ?_);(focus exact zN))|(with_reducible refine ObT.tt ?_)|(with_reducible refine ObT.ff ?_)|((with_reducible refine ObB.yes ?_ ?_);(focus (first|assumption|(with_reducible rfl)|omega)))|((with_reducible refine ObB.no ?_ ?_);(focus (first|assumption|omega)))|(with_reducible refine ObB.mk (fun h=>?_) (fun h=>?_))|((with_reducible refine (?_:ObU _ _));(refine ObU.mk _ zU ?_))|((with_reducible refine (?_:ObR _ _ _));(first|(refine ObR.mk _ (by assumption) ?_)|(refine ObR.mk _ (by with_reducible rfl) ?_)|(refine ObR.map zX (fun x hx=>?_))|(refine ObR.mk _ rfl ?_)))|((with_reducible refine ObC.f 47 ?_);(first|(with_reducible refine ObC.mk _ ((tomb15 G _ _)) ?_)|(refine ObC.mk _ ((tomb15 G _ _)) ?_)))|((with_reducible refine ObC.f 53 ?_);(first|(with_reducible refine ObC.mk _ (h22) ?_)|(refine ObC.mk _ (h22) ?_)))|((with_reducible refine ObEq.mk ?_);(focus (first|rfl|assumption|exact (by cases r<;>cases q<;>first|(simp_all;done)|(simp_all;omega))))))
  · obtain ⟨q, hq⟩ : ∃ q, q = decide ((2 : Int) = 2 ∧ ke = ByteArray.mk #[] ∧ va = ByteArray.mk #[] ∧ (mp : Int) = mp ∧ kk = kk ∧ mn = 0 ∧ ls = [] ∧ sz = sz ∧ bi = bi) := ⟨_, rfl⟩
    have h22:=same22 G 2 2 ke (ByteArray.mk #[]) va (ByteArray.mk #[]) mp mp kk kk mn 0 ls [] sz sz bi bi (by omega) z0 (by omega) z0 (by omega) (by omega) (by omega) l1 q hq
    have h43:=cnt43 G mp hm
    have h44:=has54 G kk (by omega) 0
    obtain ⟨q0,hq0⟩:∃ q0,q0=decide ((0:Int) ∈ kk):=⟨_,rfl⟩
    rw [← hq0] at h44
    have hr':r=true↔¬ bi < 0∧q0=false∧((kk.length:Nat):Int)=((upI mp 32).length:Nat)∧0≤sz∧q=true:=by rw [hr,hq,hq0];simp [FormP,BareP,lenP,lenZ];intros;constructor<;>(intros;simp_all)
    have hu:=upI_len mp 32
    clear hr hq hs hq0
    generalize (upI mp 32).length=c at *
    have hr2:((kk.length:Nat):Int)=(c:Nat)→¬ bi < 0→0≤sz→q0=false→r=q:=fun a b d e=>by cases r<;>cases q<;>simp_all
    have hr3:¬ (((kk.length:Nat):Int)=(c:Nat)∧¬ bi < 0∧0≤sz∧q0=false)→r=false:=fun a=>by cases r with|false=>rfl|true=>exact absurd ⟨(hr'.1 rfl).2.2.1,(hr'.1 rfl).1,(hr'.1 rfl).2.2.2.1,(hr'.1 rfl).2.1⟩ a
    clear hr'
    refine pc_ofV cop43 ?_
    repeat' ((conv=>whnf);first|(with_reducible refine SeqP.go ?_)|((with_reducible refine ObD.mk ?_ ?_);(focus (first|rfl|(simp;done))))|((with_reducible refine ObN.mk ?_ ?_);(focus exact zN))|(with_reducible refine ObT.tt ?_)|(with_reducible refine ObT.ff ?_)|(with_reducible refine ObT.mk (fun h=>?_) (fun h=>?_))|((with_reducible refine ObB.yes ?_ ?_);(focus (first|assumption|(with_reducible rfl)|omega)))|((with_reducible refine ObB.no ?_ ?_);(focus (first|assumption|omega)))|(with_reducible refine ObB.mk (fun h=>?_) (fun h=>?_))|((with_reducible refine (?_:ObL _ _));(refine ObL.mk _ zL ?_))|((with_reducible refine (?_:ObU _ _));(refine ObU.mk _ zU ?_))|((with_reducible refine (?_:ObR _ _ _));(first|(refine ObR.mk _ (by assumption) ?_)|(refine ObR.mk _ (by with_reducible rfl) ?_)|(refine ObR.map zX (fun x hx=>?_))|(refine ObR.mk _ rfl ?_)))|((with_reducible refine ObC.f 48 ?_);(first|(with_reducible refine ObC.mk _ ((branch20 G _ _ _ hk)) ?_)|(refine ObC.mk _ ((branch20 G _ _ _ hk)) ?_)))|((with_reducible refine ObC.f 49 ?_);(first|(with_reducible refine ObC.mk _ (h43) ?_)|(refine ObC.mk _ (h43) ?_)))|((with_reducible refine ObC.f 50 ?_);(first|(with_reducible refine ObC.mk _ (h44) ?_)|(refine ObC.mk _ (h44) ?_)))|((with_reducible refine ObC.f 53 ?_);(first|(with_reducible refine ObC.mk _ (h22) ?_)|(refine ObC.mk _ (h22) ?_)))|((with_reducible refine ObEq.mk ?_);(focus (first|rfl|assumption|exact (by first|(rw [hr2 (by assumption) (by omega) (by omega) (by assumption)];done)|(have hf:r=false:=hr3 (by rintro ⟨h1,h2,h3,h4⟩;first|omega|simp_all);rw [hf]))))))
  · obtain ⟨q, hq⟩ : ∃ q, q = decide ((3 : Int) = 3 ∧ ke = ByteArray.mk #[] ∧ va = ByteArray.mk #[] ∧ (mp : Int) = 0 ∧ kk = [] ∧ mn = 0 ∧ ls = Pr7.mk ls ∧ sz = ((Pr7.mk ls).length : Nat) ∧ bi = bi) := ⟨_, rfl⟩
    obtain ⟨m1,h34,h19⟩:=hMake G ls hl hs
    have h22:=same22 G 3 3 ke (ByteArray.mk #[]) va (ByteArray.mk #[]) mp 0 kk [] mn 0 ls (Pr7.mk ls) sz ((Pr7.mk ls).length:Nat) bi bi (by omega) z0 (by omega) z0 (by omega) l0 (by omega) (by omega) q hq
    have h18:=bucket18 G ls (Pr7.mk ls) h34
    have hr':r=true↔¬ bi < 0∧(2:Int)≤(ls.length:Nat)∧q=true:=by
      rw [hr,hq,decide_eq_true_iff]
      unfold FormP BareP
      rw [lenP,slt_mk]
      generalize Pr7.mk ls=M
      constructor
      · rintro ⟨a, h⟩
        rcases h with ⟨h,_⟩|⟨h,_⟩|⟨_,b,c,d,e,f,g,_⟩|⟨h,_⟩|⟨h,_⟩
        · omega
        · omega
        · exact ⟨a,b,rfl,(e rfl).1,(e rfl).2,(f rfl).1,Classical.not_not.1 (f rfl).2,g rfl,c,by rw [d,← c],rfl⟩
        · omega
        · omega
      · rintro ⟨a, b, _, c, d, e, f, g, i, j, _⟩
        exact ⟨a,.inr (.inr (.inl ⟨rfl,b,i,by rw [j,← i],fun _=>⟨c,d⟩,fun _=>⟨e,fun h=>h f⟩,fun _=>g,fun h=>by cases h⟩))⟩
    clear hr hq hs h34 h19
    refine pc_ofV cop43 ?_
    repeat' ((conv=>whnf);first|(with_reducible refine SeqP.go ?_)|((with_reducible refine ObD.mk ?_ ?_);(focus (first|rfl|(simp;done))))|((with_reducible refine ObN.mk ?_ ?_);(focus exact zN))|(with_reducible refine ObT.tt ?_)|(with_reducible refine ObT.ff ?_)|((with_reducible refine ObB.yes ?_ ?_);(focus (first|assumption|(with_reducible rfl)|omega)))|((with_reducible refine ObB.no ?_ ?_);(focus (first|assumption|omega)))|(with_reducible refine ObB.mk (fun h=>?_) (fun h=>?_))|((with_reducible refine (?_:ObL _ _));(refine ObL.mk _ zL ?_))|((with_reducible refine (?_:ObU _ _));(refine ObU.mk _ zU ?_))|((with_reducible refine (?_:ObR _ _ _));(first|(refine ObR.mk _ (by assumption) ?_)|(refine ObR.mk _ (by with_reducible rfl) ?_)|(refine ObR.map zX (fun x hx=>?_))|(refine ObR.mk _ rfl ?_)))|((with_reducible refine ObC.f 51 ?_);(first|(with_reducible refine ObC.mk _ (h18) ?_)|(refine ObC.mk _ (h18) ?_)))|((with_reducible refine ObC.f 53 ?_);(first|(with_reducible refine ObC.mk _ (h22) ?_)|(refine ObC.mk _ (h22) ?_)))|((with_reducible refine ObEq.mk ?_);(focus (first|rfl|assumption|exact (by cases r<;>cases q<;>first|(simp_all;done)|(simp_all;omega))))))
  · obtain ⟨q, hq⟩ : ∃ q, q = decide ((4 : Int) = 4 ∧ ke = ke ∧ va = va ∧ (mp : Int) = 0 ∧ kk = kk ∧ mn = 0 ∧ ls = [] ∧ sz = sz ∧ bi = bi) := ⟨_, rfl⟩
    have h22:=same22 G 4 4 ke ke va va mp 0 kk kk mn 0 ls [] sz sz bi bi (by omega) (by omega) (by omega) (by omega) (by omega) (by omega) (by omega) l1 q hq
    have hr':r=true↔¬ bi < 0∧((kk.length:Nat):Int)=2∧1≤sz∧q=true:=by rw [hr,hq];simp [FormP,BareP,lenP,lenZ];intros;constructor<;>(intros;simp_all)
    clear hr hq hs
    refine pc_ofV cop43 ?_
    repeat' ((conv=>whnf);first|(with_reducible refine SeqP.go ?_)|((with_reducible refine ObD.mk ?_ ?_);(focus (first|rfl|(simp;done))))|((with_reducible refine ObN.mk ?_ ?_);(focus exact zN))|(with_reducible refine ObT.tt ?_)|(with_reducible refine ObT.ff ?_)|((with_reducible refine ObB.yes ?_ ?_);(focus (first|assumption|(with_reducible rfl)|omega)))|((with_reducible refine ObB.no ?_ ?_);(focus (first|assumption|omega)))|(with_reducible refine ObB.mk (fun h=>?_) (fun h=>?_))|((with_reducible refine (?_:ObL _ _));(refine ObL.mk _ zL ?_))|((with_reducible refine (?_:ObU _ _));(refine ObU.mk _ zU ?_))|((with_reducible refine (?_:ObR _ _ _));(first|(refine ObR.mk _ (by assumption) ?_)|(refine ObR.mk _ (by with_reducible rfl) ?_)|(refine ObR.map zX (fun x hx=>?_))|(refine ObR.mk _ rfl ?_)))|((with_reducible refine ObC.f 53 ?_);(first|(with_reducible refine ObC.mk _ (h22) ?_)|(refine ObC.mk _ (h22) ?_)))|((with_reducible refine ObEq.mk ?_);(focus (first|rfl|assumption|exact (by cases r<;>cases q<;>first|(simp_all;done)|(simp_all;omega))))))
  · obtain ⟨q, hq⟩ : ∃ q, q = decide ((5 : Int) = 5 ∧ ke = ByteArray.mk #[] ∧ va = ByteArray.mk #[] ∧ (mp : Int) = 0 ∧ kk = [] ∧ mn = mn ∧ ls = [] ∧ sz = 0 ∧ bi = bi) := ⟨_, rfl⟩
    have h22:=same22 G 5 5 ke (ByteArray.mk #[]) va (ByteArray.mk #[]) mp 0 kk [] mn mn ls [] sz 0 bi bi (by omega) z0 (by omega) z0 (by omega) l0 (by omega) l1 q hq
    have hr':r=true↔¬ bi < 0∧¬ mn=0∧q=true:=by rw [hr,hq];simp [FormP,BareP,lenP,lenZ];intros;constructor<;>(intros;simp_all)
    clear hr hq hs
    refine pc_ofV cop43 ?_
    repeat' ((conv=>whnf);first|(with_reducible refine SeqP.go ?_)|((with_reducible refine ObD.mk ?_ ?_);(focus (first|rfl|(simp;done))))|((with_reducible refine ObN.mk ?_ ?_);(focus exact zN))|(with_reducible refine ObT.tt ?_)|(with_reducible refine ObT.ff ?_)|((with_reducible refine ObB.yes ?_ ?_);(focus (first|assumption|(with_reducible rfl)|omega)))|((with_reducible refine ObB.no ?_ ?_);(focus (first|assumption|omega)))|(with_reducible refine ObB.mk (fun h=>?_) (fun h=>?_))|((with_reducible refine (?_:ObU _ _));(refine ObU.mk _ zU ?_))|((with_reducible refine (?_:ObR _ _ _));(first|(refine ObR.mk _ (by assumption) ?_)|(refine ObR.mk _ (by with_reducible rfl) ?_)|(refine ObR.map zX (fun x hx=>?_))|(refine ObR.mk _ rfl ?_)))|((with_reducible refine ObC.f 52 ?_);(first|(with_reducible refine ObC.mk _ ((inner17 G _)) ?_)|(refine ObC.mk _ ((inner17 G _)) ?_)))|((with_reducible refine ObC.f 53 ?_);(first|(with_reducible refine ObC.mk _ (h22) ?_)|(refine ObC.mk _ (h22) ?_)))|((with_reducible refine ObEq.mk ?_);(focus (first|rfl|assumption|exact (by cases r<;>cases q<;>first|(simp_all;done)|(simp_all;omega))))))
def mayE (kn:Int) (lo q:Bool):Int:=if kn < 1 then 11 else if 6 < kn then 11 else if lo=true then 6 else if q=true then 0 else 4
theorem may8 (G : Nat → AV) (kn : Int) (ke va : ByteArray) (mp : Nat) (kk : List Int) (mn : Int) (ls : List Pr) (sz bi : Int) (hm : mp < 4294967296) (hke : ke.size ≤ 40) (hva : va.size ≤ 40) (hk : kk.length ≤ 40) (hl : ls.length ≤ 40) (hs : ∀ p ∈ ls, p.1.size ≤ 40 ∧ p.2.size ≤ 40) (q : Bool) (hq : q = true ↔ FormP kn ke va mp kk mn ls sz bi) :
    PC Try.prog G 29 [nV kn ke va (mp:Int) kk mn ls sz bi] (I (mayE kn (lg (ke,va) || ls.any lg) q)):=by
  have h29:=isl29 G ke va
  have h30:=fun H=>any30 G ls (by omega) H
  have h31:=fun k1 k6=>hasForm31 G kn ke va mp kk mn ls sz bi k1 k6 hm hke hva hk hl hs q hq
  clear hq hs
  generalize lg (ke,va)=a at *
  generalize ls.any lg=b at *
  refine pc_ofV cop29 ?_
  unfold mayE
  by_cases h1:kn < 1
  · rw [if_pos h1]
    repeat' ((conv=>whnf);first|(with_reducible refine SeqP.go ?_)|((with_reducible refine ObD.mk ?_ ?_);(focus (first|rfl|(simp;done))))|((with_reducible refine ObN.mk ?_ ?_);(focus exact zN))|(with_reducible refine ObT.tt ?_)|((with_reducible refine ObB.yes ?_ ?_);(focus (first|assumption|(with_reducible rfl)|omega)))|((with_reducible refine (?_:ObR _ _ _));(first|(refine ObR.mk _ (by assumption) ?_)|(refine ObR.mk _ (by with_reducible rfl) ?_)|(refine ObR.map zX (fun x hx=>?_))|(refine ObR.mk _ rfl ?_)))|((with_reducible refine ObEq.i ?_);(focus (first|(with_reducible rfl)|omega))))
  rw [if_neg h1]
  by_cases h6:6 < kn
  · rw [if_pos h6]
    repeat' ((conv=>whnf);first|(with_reducible refine SeqP.go ?_)|((with_reducible refine ObD.mk ?_ ?_);(focus (first|rfl|(simp;done))))|((with_reducible refine ObN.mk ?_ ?_);(focus exact zN))|(with_reducible refine ObT.tt ?_)|(with_reducible refine ObT.ff ?_)|((with_reducible refine ObB.yes ?_ ?_);(focus (first|assumption|(with_reducible rfl)|omega)))|((with_reducible refine ObB.no ?_ ?_);(focus (first|assumption|omega)))|((with_reducible refine (?_:ObR _ _ _));(first|(refine ObR.mk _ (by assumption) ?_)|(refine ObR.mk _ (by with_reducible rfl) ?_)|(refine ObR.map zX (fun x hx=>?_))|(refine ObR.mk _ rfl ?_)))|((with_reducible refine ObEq.i ?_);(focus (first|(with_reducible rfl)|omega))))
  rw [if_neg h6]
  have h31:=h31 (by omega) (by omega)
  cases a<;>cases b<;>cases q
  all_goals repeat' ((conv=>whnf);first|(with_reducible refine SeqP.go ?_)|((with_reducible refine ObD.mk ?_ ?_);(focus (first|rfl|(simp;done))))|((with_reducible refine ObN.mk ?_ ?_);(focus exact zN))|(with_reducible refine ObT.tt ?_)|(with_reducible refine ObT.ff ?_)|((with_reducible refine ObB.no ?_ ?_);(focus (first|assumption|omega)))|((with_reducible refine (?_:ObR _ _ _));(first|(refine ObR.mk _ (by assumption) ?_)|(refine ObR.mk _ (by with_reducible rfl) ?_)|(refine ObR.map zX (fun x hx=>?_))|(refine ObR.mk _ rfl ?_)))|((with_reducible refine ObC.f 41 ?_);(first|(with_reducible refine ObC.mk _ (h29) ?_)|(refine ObC.mk _ (h29) ?_)))|((with_reducible refine ObH.f 42 ?_);(first|(with_reducible refine ObH.mk _ _ ((h30 _)) ?_)|(refine ObH.mk _ _ ((h30 _)) ?_)))|((with_reducible refine ObC.f 43 ?_);(first|(with_reducible refine ObC.mk _ (h31) ?_)|(refine ObC.mk _ (h31) ?_)))|((with_reducible refine ObEq.mk ?_);(focus (first|rfl|assumption))))
end Go.Proofs.Ytnammfeiehikfaa.Sim
namespace Go.Proofs.Ytnammfeiehikfaa.Sim
set_option maxRecDepth 100000
theorem dop30:copF Try.prog [27,28,39,42,46,66,67,70,71,72,73,74] 30=some E30:=by kernel_rfl
theorem dop22:copF Try.prog [27,28,39,42,46,66,67,70,71,72,73,74] 22=some E22:=by kernel_rfl
end Go.Proofs.Ytnammfeiehikfaa.Sim
namespace Go.Proofs.Ytnammfeiehikfaa.Sim
open Go.RowKit
set_option maxRecDepth 100000
structure Nd where
  kn:Int
  ke:ByteArray
  va:ByteArray
  mp:Nat
  kk:List Int
  mn:Int
  ls:List Pr
  sz:Int
  bi:Int
abbrev nA (x:Nd):AV:=nV x.kn x.ke x.va (x.mp:Int) x.kk x.mn x.ls x.sz x.bi
structure Nd.Ok (x:Nd):Prop where
  mp:x.mp < 4294967296
  ke:x.ke.size≤40
  va:x.va.size≤40
  kk:x.kk.length≤40
  ls:x.ls.length≤40
  sz:∀ p ∈ x.ls,p.1.size≤40∧p.2.size≤40
  mn:i64 x.mn
  ks:∀ r ∈ x.kk,i64 r
theorem nA_at {l:List Nd} {k:Nat} (h:k < l.length):(l.map nA)[k]? = some (.agg [I l[k].kn,S l[k].ke,S l[k].va,.v (.int .u32 (l[k].mp:Int)),.sl 1 (l[k].kk.map iA),I l[k].mn,.sl 2 (l[k].ls.map pA),I l[k].sz,I l[k].bi]):=by simp [h]
noncomputable def mayV (x:Nd):Int:=mayE x.kn (lg (x.ke,x.va) || x.ls.any lg) (@decide (FormP x.kn x.ke x.va x.mp x.kk x.mn x.ls x.sz x.bi) (Classical.propDecidable _))
def rfN (x:Nd):List Int:=(x.kk++[x.mn]).filter fun r=>decide (r ≠ 0)
section
variable (G:Nat→AV)
theorem may29 (x:Nd) (h:x.Ok):PC Try.prog G 29 [nA x] (I (mayV x)):=may8 G x.kn x.ke x.va x.mp x.kk x.mn x.ls x.sz x.bi h.mp h.ke h.va h.kk h.ls h.sz _ (by simp)
def rS (m:Nat) (a:List Int):AV:=match a with|[]=>.nl 1|x::t=>.ol m 0 (t.length+1)
def rH (a:List Int):Hp:=match a with|[]=>[]|x::t=>[kR 0 (x::t)]
theorem flt_yes {l:List Int} {i:Nat} (h:i < l.length) (h0:l[i] ≠ 0):(l.take (i+1)).filter (fun r=>decide (r ≠ 0))=(l.take i).filter (fun r=>decide (r ≠ 0))++[l[i]]:=by
  rw [List.take_succ_eq_append_getElem h,List.filter_append];simp [h0]
theorem flt_no {l:List Int} {i:Nat} (h:i < l.length) (h0:l[i]=0):(l.take (i+1)).filter (fun r=>decide (r ≠ 0))=(l.take i).filter (fun r=>decide (r ≠ 0)):=by
  rw [List.take_succ_eq_append_getElem h,List.filter_append];simp [h0]
set_option maxHeartbeats 2000000 in
theorem refs30 (x:Nd) (h:x.Ok):PC Try.prog G 30 [nA x] (.sl 1 ((rfN x).map iA)):=by
  obtain ⟨kn,ke,va,mp,kk,mn,ls,sz,bi⟩:=x
  have hkl:=h.kk
  clear h
  dsimp only [rfN] at hkl ⊢
  have hr0:=nr_i kk
  obtain ⟨K,hK⟩:∃ K,K=kk++[mn]:=⟨_,rfl⟩
  rw [← hK]
  have hKl:K.length≤41:=by rw [hK];simp;omega
  refine pc_ofV dop30 ?_
  repeat' ((conv=>whnf);first|((with_reducible refine ObD.mk ?_ ?_);(focus (first|rfl|(simp;done)))))
  conv=>whnf
  refine SeqP.go ?_
  skip
  conv=>whnf
  refine SeqP.go ?_
  refine V_seq (V_cut (α:=Unit) (fun _=>True) (fun _=>[(6,none),(0,none),(0,none),(0,none),(0,none),(0,none),(0,some (.ol 1 0 K.length)),(0,some (I K.length)),(0,some (I (0:Nat)))]) (fun _=>[⟨30,9,[nV kn ke va mp kk mn ls sz bi],0,0⟩,kR 0 K]) ?_ ?_)
  · intro Q hQ
    have hQ1:=fun s' H' (h:s'.getD 12 undefA = .ol 1 1 K.length) hf=>hQ s' H' () trivial hf
    have hrK:=nr_i K
    rcases kk with _|⟨k0,kt⟩
    · have h1 := cpyB0 G
      have hlm:[I mn].length=K.length:=by rw [hK];rfl
      have hKm:K.map iA=[I mn]:=by rw [hK];rfl
      repeat' ((conv=>whnf);first|(with_reducible refine ObAnd.mk ?_ ?_)|(with_reducible refine ObDx.each ?_)|((with_reducible refine ObD.mk ?_ ?_);(focus (first|rfl|(simp;done))))|((with_reducible refine ObN.mk ?_ ?_);(focus exact zN))|((with_reducible refine (?_:ObL _ _));(refine ObL.mk _ (by first|exact (List.length_map _)|exact hlm|assumption|exact (List.length_map _).trans (by assumption)|exact List.length_map _|rfl) ?_))|((with_reducible refine (?_:ObU _ _));(refine ObU.mk _ zU ?_))|((with_reducible refine (?_:ObR _ _ _));(first|(refine ObR.mk _ (by assumption) ?_)|(refine ObR.mk _ (by with_reducible rfl) ?_)|(refine ObR.map zX (fun x hx=>?_))|(refine ObR.mk _ rfl ?_)))|((with_reducible refine ObH.f 39 ?_);refine ObH.frn _ (by simp only [List.length_cons,List.length_nil,Nat.reduceAdd];rfl) [] (h1) (by simp) rfl (by simp) ?_)|((with_reducible refine ObW.cons ?_ ?_);(focus (first|assumption|(simp;done))))|((with_reducible refine ObAs.mk ?_ ?_);(focus (first|rfl|(simp [rnB,rnC,rnL];done))))|((with_reducible refine (?_:ObRs _ _ _));(refine ObRs.mk _ rfl ?_)))
      all_goals conv=>whnf
      all_goals refine hQ _ _ () trivial (Fg.vw [(0,0,0),(0,2,0)] ?_ ?_ (by simp) ?_)
      all_goals repeat' ((conv=>whnf);first|((with_reducible refine ObN.mk ?_ ?_);(focus exact zN))|((with_reducible refine ObRn.mk ?_ ?_);(focus (first|rfl|(simp [rnB,rnC,rnL];done))))|((with_reducible refine ObRow.same ?_ ?_ ?_);(focus (first|rfl|assumption));(focus (first|rfl|assumption|(simp;done))))|((with_reducible refine ObEqs.mk ?_ ?_);(focus rfl))|exact True.intro)
    · have h1 := cpyB G (k0 :: kt) (by omega) (by simp)
      have hkl':kt.length+1≤40:=hkl
      have us:((k0::kt).map iA).take (kt.length+1)++[.v (.int .i64 mn)]=K.map iA:=by rw [hK];exact i_snoc (l:=k0::kt)
      have hlm:((k0::kt).length+[I mn].length)=K.length:=by rw [hK];simp
      repeat' ((conv=>whnf);first|(with_reducible refine ObAnd.mk ?_ ?_)|(with_reducible refine ObDx.each ?_)|((with_reducible refine ObD.mk ?_ ?_);(focus (first|rfl|(simp;done))))|((with_reducible refine ObN.mk ?_ ?_);(focus exact zN))|((with_reducible refine (?_:ObL _ _));(refine ObL.mk _ (by first|exact (List.length_map _)|exact hlm|assumption|exact (List.length_map _).trans (by assumption)|exact List.length_map _|rfl) ?_))|((with_reducible refine (?_:ObU _ _));(refine ObU.mk _ (by first|exact us|assumption|((conv=>lhs;simp only [List.set_cons_zero,List.set_cons_succ,List.take_succ_cons,List.take_zero,List.drop_succ_cons,List.drop_zero,List.nil_append,List.cons_append,List.append_nil,List.take_nil,List.drop_nil]);try rfl)|rfl) ?_))|((with_reducible refine (?_:ObR _ _ _));(first|(refine ObR.mk _ (by assumption) ?_)|(refine ObR.mk _ (by with_reducible rfl) ?_)|(refine ObR.map zX (fun x hx=>?_))|(refine ObR.mk _ rfl ?_)))|((with_reducible refine ObH.f 39 ?_);refine ObH.frn _ (by simp only [List.length_cons,List.length_nil,Nat.reduceAdd];rfl) [] (h1) (by simp) rfl (by simp) ?_)|((with_reducible refine ObAs.mk ?_ ?_);(focus (first|rfl|(simp [rnB,rnC,rnL];done))))|((with_reducible refine (?_:ObRs _ _ _));(refine ObRs.mk _ rfl ?_))|((with_reducible refine ObBk.same ?_ ?_);(focus (first|rfl|assumption|(simp;done)))))
      all_goals conv=>whnf
      all_goals first|refine hQ1 _ _ rfl (Fg.vw [(0,0,0),(0,1,1)] ?_ ?_ (by simp) ?_)|refine hQ _ _ () trivial (Fg.vw [(0,0,0),(0,2,1)] ?_ ?_ (by simp) ?_)
      all_goals repeat' ((conv=>whnf);first|((with_reducible refine ObN.mk ?_ ?_);(focus exact zN))|((with_reducible refine ObRn.mk ?_ ?_);(focus (first|rfl|(simp [rnB,rnC,rnL];done))))|((with_reducible refine ObRow.same ?_ ?_ ?_);(focus (first|rfl|assumption));(focus (first|rfl|assumption|(simp;done))))|((with_reducible refine ObEqs.mk ?_ ?_);(focus rfl))|exact True.intro)
  · rintro ⟨⟩ -
    skip
    conv=>whnf
    refine LoopP.go (α:=Nat × List Int) (fun p=>p.1≤K.length∧p.2=(K.take p.1).filter (fun r=>decide (r ≠ 0))) (fun p=>K.length - p.1) (fun p=>[(3,some (rS 2 p.2)),(1,none),(8,some (I p.1)),(0,none),(0,none),(0,none),(0,none),(0,none),(0,none),(0,none),(0,none),(0,none),(0,none)]) (fun p=>[⟨30,9,[nV kn ke va mp kk mn ls sz bi],0,0⟩,kR 0 K]++rH p.2) (0,[]) ⟨Nat.zero_le _,rfl⟩ (Fg.go ?_ rfl) ?_
    · repeat' ((conv=>whnf);first|((with_reducible refine ObEqs.mk ?_ ?_);(focus rfl))|((with_reducible refine ObEq1.mk ?_ ?_);(focus (first|rfl|assumption)))|exact True.intro)
    rintro ⟨i,l⟩ ⟨hi,hl⟩
    dsimp only at hi hl ⊢
    have hll:l.length≤i:=by
      have:=List.length_filter_le (fun r:Int=>decide (r ≠ 0)) (K.take i)
      rw [← hl,List.length_take] at this;omega
    have hrK:=nr_i K
    by_cases hiK:i < K.length
    · have hq := iA_at' hiK
      have f1:=flt_yes hiK
      have f2:=flt_no hiK
      generalize K[i]=x at *
      by_cases hx:x=0
      · rcases l with _ | ⟨l0, lt⟩
        · repeat' ((conv=>whnf);first|(with_reducible refine SeqP.go ?_)|((with_reducible refine ObN.mk ?_ ?_);(focus exact zN))|(with_reducible refine ObT.tt ?_)|(with_reducible refine ObT.ff ?_)|((with_reducible refine ObB.yes ?_ ?_);(focus (first|assumption|(with_reducible rfl)|omega)))|((with_reducible refine ObI.nl ?_ ?_);(focus omega))|((with_reducible refine ObX.mk _ rfl ?_ ?_);(focus exact zX))|((with_reducible refine (?_:ObR _ _ _));(first|(refine ObR.mk _ (by assumption) ?_)|(refine ObR.mk _ (by with_reducible rfl) ?_)|(refine ObR.map zX (fun x hx=>?_))|(refine ObR.mk _ rfl ?_))))
          conv=>whnf
          refine Again.mk (i+1,[]) ⟨by dsimp only;omega,by dsimp only;rw [f2 hx,← hl]⟩ ?_ (Fg.vw [(0,0,0),(0,1,0)] ?_ ?_ (by simp) ?_)
          · dsimp only;omega
          all_goals repeat' ((conv=>whnf);first|((with_reducible refine ObRn.mk ?_ ?_);(focus (simp [rnB,rnC,rS];done)))|((with_reducible refine ObN.mk ?_ ?_);(focus exact zN))|((with_reducible refine ObRow.same ?_ ?_ ?_);(focus (first|rfl|assumption));(focus (first|rfl|assumption|(simp;done))))|((with_reducible refine ObEqs.mk ?_ ?_);(focus rfl))|exact True.intro)
        · have r1 := nr_i (l0 :: lt)
          repeat' ((conv=>whnf);first|(with_reducible refine SeqP.go ?_)|((with_reducible refine ObN.mk ?_ ?_);(focus exact zN))|(with_reducible refine ObT.tt ?_)|(with_reducible refine ObT.ff ?_)|((with_reducible refine ObB.yes ?_ ?_);(focus (first|assumption|(with_reducible rfl)|omega)))|((with_reducible refine ObI.nl ?_ ?_);(focus omega))|((with_reducible refine ObX.mk _ rfl ?_ ?_);(focus exact zX))|((with_reducible refine (?_:ObR _ _ _));(first|(refine ObR.mk _ (by assumption) ?_)|(refine ObR.mk _ (by with_reducible rfl) ?_)|(refine ObR.map zX (fun x hx=>?_))|(refine ObR.mk _ rfl ?_))))
          conv=>whnf
          refine Again.mk (i+1,l0::lt) ⟨by dsimp only;omega,by dsimp only;rw [f2 hx,← hl]⟩ ?_ (Fg.vw [(0,0,0),(0,1,0),(0,2,0)] ?_ ?_ (by simp) ?_)
          · dsimp only;omega
          all_goals repeat' ((conv=>whnf);first|((with_reducible refine ObRn.mk ?_ ?_);(focus (simp [rnB,rnC,rS];done)))|((with_reducible refine ObN.mk ?_ ?_);(focus exact zN))|((with_reducible refine ObRow.same ?_ ?_ ?_);(focus (first|rfl|assumption));(focus (first|rfl|assumption|(simp;done))))|((with_reducible refine ObEqs.mk ?_ ?_);(focus rfl))|exact True.intro)
      · rcases l with _ | ⟨l0, lt⟩
        · have r1 := nr_i [x]
          repeat' ((conv=>whnf);first|(with_reducible refine SeqP.go ?_)|((with_reducible refine ObD.mk ?_ ?_);(focus (first|rfl|(simp;done))))|((with_reducible refine ObN.mk ?_ ?_);(focus exact zN))|(with_reducible refine ObT.tt ?_)|((with_reducible refine ObB.yes ?_ ?_);(focus (first|assumption|(with_reducible rfl)|omega)))|((with_reducible refine ObB.no ?_ ?_);(focus (first|assumption|omega)))|((with_reducible refine ObI.nl ?_ ?_);(focus omega))|((with_reducible refine ObX.mk _ rfl ?_ ?_);(focus exact zX))|((with_reducible refine (?_:ObL _ _));(refine ObL.mk _ zL ?_))|((with_reducible refine (?_:ObU _ _));(refine ObU.mk _ zU ?_))|((with_reducible refine (?_:ObR _ _ _));(first|(refine ObR.mk _ (by assumption) ?_)|(refine ObR.mk _ (by with_reducible rfl) ?_)|(refine ObR.map zX (fun x hx=>?_))|(refine ObR.mk _ rfl ?_)))|((with_reducible refine ObW.cons ?_ ?_);(focus (first|assumption|(simp;done)))))
          conv=>whnf
          refine Again.mk (i+1,[x]) ⟨by dsimp only;omega,by dsimp only;rw [f1 hx,← hl];rfl⟩ ?_ (Fg.vw [(0,0,0),(0,1,0),(0,3,0)] ?_ ?_ (by simp) ?_)
          · dsimp only;omega
          all_goals repeat' ((conv=>whnf);first|((with_reducible refine ObRn.mk ?_ ?_);(focus (simp [rnB,rnC,rS];done)))|((with_reducible refine ObN.mk ?_ ?_);(focus exact zN))|((with_reducible refine ObRow.same ?_ ?_ ?_);(focus (first|rfl|assumption));(focus (first|rfl|assumption|(simp;done))))|((with_reducible refine ObEqs.mk ?_ ?_);(focus rfl))|exact True.intro)
        · have hll' : lt.length + 1 ≤ i := hll
          have r1:=nr_i ((l0::lt)++[x])
          have us:((l0::lt).map iA).take (lt.length+1)++[.v (.int .i64 x)]=((l0::lt)++[x]).map iA:=i_snoc (l:=l0::lt)
          repeat' ((conv=>whnf);first|(with_reducible refine SeqP.go ?_)|((with_reducible refine ObD.mk ?_ ?_);(focus (first|rfl|(simp;done))))|((with_reducible refine ObN.mk ?_ ?_);(focus exact zN))|(with_reducible refine ObT.tt ?_)|((with_reducible refine ObB.yes ?_ ?_);(focus (first|assumption|(with_reducible rfl)|omega)))|((with_reducible refine ObB.no ?_ ?_);(focus (first|assumption|omega)))|((with_reducible refine ObI.nl ?_ ?_);(focus omega))|((with_reducible refine ObX.mk _ rfl ?_ ?_);(focus exact zX))|((with_reducible refine (?_:ObL _ _));(refine ObL.mk _ zL ?_))|((with_reducible refine (?_:ObU _ _));(refine ObU.mk _ (by first|exact us|assumption|((conv=>lhs;simp only [List.set_cons_zero,List.set_cons_succ,List.take_succ_cons,List.take_zero,List.drop_succ_cons,List.drop_zero,List.nil_append,List.cons_append,List.append_nil,List.take_nil,List.drop_nil]);try rfl)|rfl) ?_))|((with_reducible refine (?_:ObR _ _ _));(first|(refine ObR.mk _ (by assumption) ?_)|(refine ObR.mk _ (by with_reducible rfl) ?_)|(refine ObR.map zX (fun x hx=>?_))|(refine ObR.mk _ rfl ?_))))
          conv=>whnf
          refine Again.mk (i+1,(l0::lt)++[x]) ⟨by dsimp only;omega,by dsimp only;rw [f1 hx,← hl]⟩ ?_ (Fg.vw [(0,0,0),(0,1,0),(0,2,1)] ?_ ?_ (by simp) ?_)
          · dsimp only;omega
          all_goals repeat' ((conv=>whnf);first|((with_reducible refine ObRn.mk ?_ ?_);(focus (simp [rnB,rnC,rS];done)))|((with_reducible refine ObN.mk ?_ ?_);(focus exact zN))|((with_reducible refine ObRow.same ?_ ?_ ?_);(focus (first|rfl|assumption));(focus (first|rfl|assumption|(simp;done))))|((with_reducible refine ObEqs.mk ?_ ?_);(focus rfl))|exact True.intro)
    · obtain rfl : i = K.length := by omega
      rw [List.take_length] at hl
      rw [← hl]
      rcases l with _|⟨l0,lt⟩
      · repeat' ((conv=>whnf);first|(with_reducible refine SeqP.go ?_)|((with_reducible refine ObN.mk ?_ ?_);(focus exact zN))|(with_reducible refine ObT.ff ?_)|((with_reducible refine ObB.no ?_ ?_);(focus (first|assumption|omega)))|((with_reducible refine ObEq.mk ?_);(focus (first|rfl|assumption))))
      · have la : ((l0 :: lt).map iA).take (lt.length + 1) = (l0 :: lt).map iA := i_all (l := l0 :: lt)
        have lp:=p_i (l0::lt)
        repeat' ((conv=>whnf);first|(with_reducible refine SeqP.go ?_)|((with_reducible refine ObN.mk ?_ ?_);(focus exact zN))|(with_reducible refine ObT.ff ?_)|((with_reducible refine ObB.no ?_ ?_);(focus (first|assumption|omega)))|((with_reducible refine (?_:ObU _ _));(refine ObU.mk _ (by first|exact la|assumption|((conv=>lhs;simp only [List.set_cons_zero,List.set_cons_succ,List.take_succ_cons,List.take_zero,List.drop_succ_cons,List.drop_zero,List.nil_append,List.cons_append,List.append_nil,List.take_nil,List.drop_nil]);try rfl)|rfl) ?_))|((with_reducible refine ObEq.mk ?_);(focus (first|rfl|assumption))))
set_option maxHeartbeats 2000000 in
theorem refs32 (x:Nd) (h:x.Ok):PC Try.prog G 32 [nA x] (.sl 1 ((rfN x).map iA)):=by
  obtain ⟨kn,ke,va,mp,kk,mn,ls,sz,bi⟩:=x
  have hkl:=h.kk
  clear h
  dsimp only [rfN] at hkl ⊢
  refine pc_ofV cop32 ?_
  repeat' ((conv=>whnf);first|(with_reducible refine SeqP.go ?_)|((with_reducible refine ObD.mk ?_ ?_);(focus (first|rfl|(simp;done)))))
  conv=>whnf
  refine LoopP.go (α:=Nat × List Int) (fun p=>p.1≤kk.length∧p.2=(kk.take p.1).filter (fun r=>decide (r ≠ 0))) (fun p=>kk.length - p.1) (fun p=>[(3,some (.ol 1 0 p.2.length)),(0,some (I p.1)),(0,none),(0,none),(0,none),(0,none),(0,none),(0,none),(0,none),(0,none),(0,none),(0,none),(0,none),(0,none),(0,none),(0,none),(0,none),(0,none),(0,none),(0,none),(0,none),(0,none),(0,none),(0,none)]) (fun p=>[⟨30,9,[nV kn ke va mp kk mn ls sz bi],0,0⟩,kR 0 p.2]) (0,[]) ⟨Nat.zero_le _,rfl⟩ (Fg.go ?_ rfl) ?_
  · repeat' ((conv=>whnf);first|((with_reducible refine ObEqs.mk ?_ ?_);(focus rfl))|((with_reducible refine ObEq1.i ?_ ?_);(focus (first|(with_reducible rfl)|omega)))|((with_reducible refine ObEq1.mk ?_ ?_);(focus (first|rfl|assumption)))|exact True.intro)
  rintro ⟨i,l⟩ ⟨hi,hl⟩
  dsimp only at hi hl ⊢
  have hll:l.length≤i:=by
    have:=List.length_filter_le (fun r:Int=>decide (r ≠ 0)) (kk.take i)
    rw [← hl,List.length_take] at this;omega
  by_cases hiK:i < kk.length
  · have hq := iA_at' hiK
    have f1:=flt_yes hiK
    have f2:=flt_no hiK
    generalize kk[i]=x at *
    by_cases hx:x=0
    · have r1 := nr_i l
      repeat' ((conv=>whnf);first|(with_reducible refine SeqP.go ?_)|((with_reducible refine ObN.mk ?_ ?_);(focus exact zN))|(with_reducible refine ObT.tt ?_)|(with_reducible refine ObT.ff ?_)|((with_reducible refine ObB.yes ?_ ?_);(focus (first|assumption|(with_reducible rfl)|omega)))|((with_reducible refine ObI.nl ?_ ?_);(focus omega))|((with_reducible refine ObX.mk _ rfl ?_ ?_);(focus exact zX))|((with_reducible refine (?_:ObL _ _));(refine ObL.mk _ zM ?_))|((with_reducible refine (?_:ObR _ _ _));(first|(refine ObR.mk _ (by assumption) ?_)|(refine ObR.mk _ (by with_reducible rfl) ?_)|(refine ObR.map zX (fun x hx=>?_))|(refine ObR.mk _ rfl ?_))))
      conv=>whnf
      refine Again.mk (i+1,l) ⟨by dsimp only;omega,by dsimp only;rw [f2 hx,← hl]⟩ ?_ (Fg.vw [(0,0,0),(0,1,0)] ?_ ?_ (by simp) ?_)
      · dsimp only;omega
      all_goals repeat' ((conv=>whnf);first|((with_reducible refine ObN.mk ?_ ?_);(focus exact zN))|((with_reducible refine ObRn.mk ?_ ?_);(focus (first|rfl|(simp [rnB,rnC,rnL];done))))|((with_reducible refine ObRow.same ?_ ?_ ?_);(focus (first|rfl|assumption));(focus (first|rfl|assumption|(simp;done))))|((with_reducible refine ObEqs.mk ?_ ?_);(focus rfl))|exact True.intro)
    · have r1 := nr_i (l ++ [x])
      have us:=i_snoc (l:=l) (x:=x)
      repeat' ((conv=>whnf);first|(with_reducible refine SeqP.go ?_)|((with_reducible refine ObD.mk ?_ ?_);(focus (first|rfl|(simp;done))))|((with_reducible refine ObN.mk ?_ ?_);(focus exact zN))|(with_reducible refine ObT.tt ?_)|((with_reducible refine ObB.yes ?_ ?_);(focus (first|assumption|(with_reducible rfl)|omega)))|((with_reducible refine ObB.no ?_ ?_);(focus (first|assumption|omega)))|((with_reducible refine ObI.nl ?_ ?_);(focus omega))|((with_reducible refine ObX.mk _ rfl ?_ ?_);(focus exact zX))|((with_reducible refine (?_:ObL _ _));(refine ObL.mk _ zM ?_))|((with_reducible refine (?_:ObU _ _));(refine ObU.mk _ (by first|exact us|assumption|((conv=>lhs;simp only [List.set_cons_zero,List.set_cons_succ,List.take_succ_cons,List.take_zero,List.drop_succ_cons,List.drop_zero,List.nil_append,List.cons_append,List.append_nil,List.take_nil,List.drop_nil]);try rfl)|rfl) ?_))|((with_reducible refine (?_:ObR _ _ _));(first|(refine ObR.mk _ (by assumption) ?_)|(refine ObR.mk _ (by with_reducible rfl) ?_)|(refine ObR.map zX (fun x hx=>?_))|(refine ObR.mk _ rfl ?_))))
      conv=>whnf
      refine Again.mk (i+1,l++[x]) ⟨by dsimp only;omega,by dsimp only;rw [f1 hx,← hl]⟩ ?_ (Fg.vw [(0,0,0),(0,1,1)] ?_ ?_ (by simp) ?_)
      · dsimp only;omega
      all_goals repeat' ((conv=>whnf);first|((with_reducible refine ObN.mk ?_ ?_);(focus exact zN))|((with_reducible refine ObRn.mk ?_ ?_);(focus (first|rfl|(simp [rnB,rnC,rnL];done))))|((with_reducible refine ObRow.same ?_ ?_ ?_);(focus (first|rfl|assumption));(focus (first|rfl|assumption|(simp;done))))|((with_reducible refine ObEqs.mk ?_ ?_);(focus rfl))|exact True.intro)
  · obtain rfl : i = kk.length := by omega
    rw [List.take_length] at hl
    rw [List.filter_append,← hl]
    by_cases hm:mn=0
    · have e:[mn].filter (fun r=>decide (r ≠ 0))=[]:=by simp [hm]
      have la:=i_all (l:=l)
      have lp:=p_i l
      rw [e,List.append_nil]
      repeat' ((conv=>whnf);first|(with_reducible refine SeqP.go ?_)|((with_reducible refine ObN.mk ?_ ?_);(focus exact zN))|(with_reducible refine ObT.ff ?_)|((with_reducible refine ObB.yes ?_ ?_);(focus (first|assumption|(with_reducible rfl)|omega)))|((with_reducible refine ObB.no ?_ ?_);(focus (first|assumption|omega)))|((with_reducible refine (?_:ObL _ _));(refine ObL.mk _ zM ?_))|((with_reducible refine (?_:ObU _ _));(refine ObU.mk _ (by first|exact la|assumption|((conv=>lhs;simp only [List.set_cons_zero,List.set_cons_succ,List.take_succ_cons,List.take_zero,List.drop_succ_cons,List.drop_zero,List.nil_append,List.cons_append,List.append_nil,List.take_nil,List.drop_nil]);try rfl)|rfl) ?_))|((with_reducible refine (?_:ObR _ _ _));(first|(refine ObR.mk _ (by assumption) ?_)|(refine ObR.mk _ (by with_reducible rfl) ?_)|(refine ObR.map zX (fun x hx=>?_))|(refine ObR.mk _ rfl ?_)))|((with_reducible refine ObEq.mk ?_);(focus (first|rfl|assumption))))
    · have e:[mn].filter (fun r=>decide (r ≠ 0))=[mn]:=by simp [hm]
      have us:=i_snoc (l:=l) (x:=mn)
      have hl1:l.length+[I mn].length=(l++[mn]).length:=by simp
      have la:((l++[mn]).map iA).take (l++[mn]).length=(l++[mn]).map iA:=i_all
      have lp:=p_i (l++[mn])
      rw [e]
      repeat' ((conv=>whnf);first|(with_reducible refine SeqP.go ?_)|((with_reducible refine ObD.mk ?_ ?_);(focus (first|rfl|(simp;done))))|((with_reducible refine ObN.mk ?_ ?_);(focus exact zN))|(with_reducible refine ObT.tt ?_)|(with_reducible refine ObT.ff ?_)|((with_reducible refine ObB.no ?_ ?_);(focus (first|assumption|omega)))|((with_reducible refine (?_:ObL _ _));(refine ObL.mk _ (by first|exact hl1|exact (List.length_map _)|assumption|exact (List.length_map _).trans (by assumption)|exact List.length_map _|rfl) ?_))|((with_reducible refine (?_:ObU _ _));(refine ObU.mk _ (by first|exact us|exact la|assumption|((conv=>lhs;simp only [List.set_cons_zero,List.set_cons_succ,List.take_succ_cons,List.take_zero,List.drop_succ_cons,List.drop_zero,List.nil_append,List.cons_append,List.append_nil,List.take_nil,List.drop_nil]);try rfl)|rfl) ?_))|((with_reducible refine (?_:ObR _ _ _));(first|(refine ObR.mk _ (by assumption) ?_)|(refine ObR.mk _ (by with_reducible rfl) ?_)|(refine ObR.map zX (fun x hx=>?_))|(refine ObR.mk _ rfl ?_)))|((with_reducible refine ObEq.mk ?_);(focus (first|rfl|assumption))))
end
end Go.Proofs.Ytnammfeiehikfaa.Sim
namespace Go.Proofs.Ytnammfeiehikfaa.Sim
open Go.RowKit
set_option maxRecDepth 100000
noncomputable def okI (i:Nat) (x:Nd):Bool:=decide (mayV x=0) && (rfN x).all fun r=>decide (-1 - r < (i:Int))
noncomputable def aI (l:List Nd) (k:Nat):Bool:=(List.range k).all fun i=>match l[i]? with|some x=>okI i x|none=>true
theorem aI_succ {l:List Nd} {k:Nat} (h:k < l.length):aI l (k+1)=(aI l k && okI k l[k]):=by
  simp [aI,List.range_succ,List.getElem?_eq_getElem h]
theorem aI_no {l:List Nd} {k n:Nat} (h:k < l.length) (hn:k < n) (h0:okI k l[k]=false):aI l n=false:=by
  rw [aI,List.all_eq_false]
  exact ⟨k,List.mem_range.2 hn,by simp [List.getElem?_eq_getElem h,h0]⟩
noncomputable def okP (l:List Nd) (rt:Int) (od:List Int):Bool:=(od.all fun r=>decide (0 < r)) && aI l l.length && decide (-1 - rt < (l.length:Int))
theorem rf_i64 {x:Nd} (h:x.Ok):∀ r ∈ rfN x,i64 r:=fun r hr=>by
  simp only [rfN,List.mem_filter,List.mem_append,List.mem_singleton] at hr
  rcases hr.1 with h1|h1
  · exact h.ks r h1
  · rw [h1];exact h.mn
theorem rf_len {x:Nd} (h:x.Ok):(rfN x).length≤41:=by
  have h1:=List.length_filter_le (fun r:Int=>decide (r ≠ 0)) (x.kk++[x.mn])
  have h2:=h.kk
  rw [List.length_append] at h1
  unfold rfN
  simp only [List.length_cons,List.length_nil] at h1
  omega
abbrev plA (l:List Nd) (rt:Int) (od:List Int):AV:=.agg [.sl 9 (l.map nA),I rt,.sl 1 (od.map iA)]
section
variable (G:Nat→AV)
set_option maxHeartbeats 4000000 in
theorem may11 (l:List Nd) (rt:Int) (od:List Int) (hl:l.length≤1000) (hx:∀ x ∈ l,x.Ok) (hr:i64 rt) (ho:od.length≤1000) (c:Bool) (hc:c=okP l rt od):PC Try.prog G 11 [plA l rt od] (I (eo c)):=by
  have hrt:=num31 G rt hr.1 hr.2
  refine pc_ofV cop11 ?_
  repeat' ((conv=>whnf);first|(with_reducible refine SeqP.go ?_)|((with_reducible refine ObD.mk ?_ ?_);(focus (first|rfl|(simp;done))))|((with_reducible refine ObN.mk ?_ ?_);(focus exact zN))|((with_reducible refine (?_:ObL _ _));(refine ObL.mk _ zM ?_))|((with_reducible refine (?_:ObR _ _ _));(first|(refine ObR.mk _ (by assumption) ?_)|(refine ObR.mk _ (by with_reducible rfl) ?_)|(refine ObR.map zX (fun x hx=>?_))|(refine ObR.mk _ rfl ?_))))
  conv=>whnf
  refine LoopP.go (α:=Nat) (fun i=>i≤od.length∧(od.take i).all (fun r=>decide (0 < r))=true) (fun i=>od.length - i) (fun i=>[(2,some (I 0)),(1,none),(7,some (I i)),(0,none),(0,none),(0,none),(0,none),(0,none),(0,none)]) (fun _=>[⟨32,3,[plA l rt od],0,0⟩]) 0 ⟨Nat.zero_le _,rfl⟩ (Fg.go ?_ rfl) ?_
  · repeat' ((conv=>whnf);first|((with_reducible refine ObEqs.mk ?_ ?_);(focus rfl))|((with_reducible refine ObEq1.i ?_ ?_);(focus (first|(with_reducible rfl)|omega)))|exact True.intro)
  rintro i ⟨hi,h0⟩
  by_cases hio:i < od.length
  · have hq := iA_at' hio
    by_cases hz:0 < od[i]
    · have h1:=all_tk (p:=fun r=>decide (0 < r)) hio h0 (by simpa using hz)
      repeat' ((conv=>whnf);first|(with_reducible refine SeqP.go ?_)|((with_reducible refine ObN.mk ?_ ?_);(focus exact zN))|(with_reducible refine ObT.tt ?_)|(with_reducible refine ObT.ff ?_)|((with_reducible refine ObB.yes ?_ ?_);(focus (first|assumption|(with_reducible rfl)|omega)))|((with_reducible refine ObB.no ?_ ?_);(focus (first|assumption|omega)))|((with_reducible refine ObI.nl ?_ ?_);(focus omega))|((with_reducible refine ObX.mk _ rfl ?_ ?_);(focus exact zX))|((with_reducible refine (?_:ObR _ _ _));(first|(refine ObR.mk _ (by assumption) ?_)|(refine ObR.mk _ (by with_reducible rfl) ?_)|(refine ObR.map zX (fun x hx=>?_))|(refine ObR.mk _ rfl ?_))))
      conv=>whnf
      refine Again.mk (i+1) ⟨by omega,h1⟩ ?_ (Fg.go ?_ rfl)
      · omega
      repeat' ((conv=>whnf);first|((with_reducible refine ObEqs.mk ?_ ?_);(focus rfl))|((with_reducible refine ObEq1.i ?_ ?_);(focus (first|(with_reducible rfl)|omega)))|exact True.intro)
    · have h1:=all_no (p:=fun r=>decide (0 < r)) hio (by simpa using hz)
      obtain rfl:c=false:=by rw [hc,okP,h1];rfl
      simp only [eo]
      repeat' ((conv=>whnf);first|(with_reducible refine SeqP.go ?_)|((with_reducible refine ObN.mk ?_ ?_);(focus exact zN))|(with_reducible refine ObT.tt ?_)|((with_reducible refine ObB.yes ?_ ?_);(focus (first|assumption|(with_reducible rfl)|omega)))|((with_reducible refine ObX.mk _ rfl ?_ ?_);(focus exact zX))|((with_reducible refine (?_:ObR _ _ _));(first|(refine ObR.mk _ (by assumption) ?_)|(refine ObR.mk _ (by with_reducible rfl) ?_)|(refine ObR.map zX (fun x hx=>?_))|(refine ObR.mk _ rfl ?_)))|((with_reducible refine ObEq.i ?_);(focus (first|(with_reducible rfl)|omega))))
  obtain rfl:i=od.length:=by omega
  rw [List.take_length] at h0
  repeat' ((conv=>whnf);first|(with_reducible refine SeqP.go ?_)|((with_reducible refine ObN.mk ?_ ?_);(focus exact zN))|(with_reducible refine ObT.ff ?_)|((with_reducible refine ObB.no ?_ ?_);(focus (first|assumption|omega)))|((with_reducible refine (?_:ObL _ _));(refine ObL.mk _ zM ?_))|((with_reducible refine (?_:ObR _ _ _));(first|(refine ObR.mk _ (by assumption) ?_)|(refine ObR.mk _ (by with_reducible rfl) ?_)|(refine ObR.map zX (fun x hx=>?_))|(refine ObR.mk _ rfl ?_))))
  conv=>whnf
  refine LoopP.go (α:=Nat) (fun i=>i≤l.length∧aI l i=true) (fun i=>l.length - i) (fun i=>[(2,some (I 0)),(2,none),(0,none),(1,none),(13,some (I i)),(0,none),(0,none),(0,none),(0,none),(0,none),(0,none),(0,none),(0,none),(0,none),(0,none),(0,none),(0,none),(0,none),(0,none),(0,none),(0,none),(0,none),(0,none),(0,none),(0,none)]) (fun _=>[⟨32,3,[plA l rt od],0,0⟩]) 0 ⟨Nat.zero_le _,rfl⟩ (Fg.go ?_ rfl) ?_
  · repeat' ((conv=>whnf);first|((with_reducible refine ObEqs.mk ?_ ?_);(focus rfl))|((with_reducible refine ObEq1.i ?_ ?_);(focus (first|(with_reducible rfl)|omega)))|exact True.intro)
  rintro i ⟨hi,hai⟩
  by_cases hil:i < l.length
  · have hq := nA_at hil
    have hxo:=hx _ (List.getElem_mem hil)
    have hs:=aI_succ hil
    have hno:=aI_no hil hil
    have hm:=may29 G l[i] hxo
    have hrf:=refs30 G l[i] hxo
    have hri:=rf_i64 hxo
    have hrl:=rf_len hxo
    rw [hai,Bool.true_and] at hs
    generalize l[i]=x at *
    by_cases hmz:mayV x=0
    · rw [hmz] at hm
      repeat' ((conv=>whnf);first|(with_reducible refine SeqP.go ?_)|((with_reducible refine ObD.mk ?_ ?_);(focus (first|rfl|(simp;done))))|((with_reducible refine ObN.mk ?_ ?_);(focus exact zN))|(with_reducible refine ObT.tt ?_)|(with_reducible refine ObT.ff ?_)|((with_reducible refine ObB.yes ?_ ?_);(focus (first|assumption|(with_reducible rfl)|omega)))|((with_reducible refine ObX.mk _ rfl ?_ ?_);(focus exact zX))|((with_reducible refine (?_:ObL _ _));(refine ObL.mk _ zM ?_))|((with_reducible refine (?_:ObU _ _));(refine ObU.mk _ zU ?_))|((with_reducible refine (?_:ObR _ _ _));(first|(refine ObR.mk _ (by assumption) ?_)|(refine ObR.mk _ (by with_reducible rfl) ?_)|(refine ObR.map zX (fun x hx=>?_))|(refine ObR.mk _ rfl ?_)))|((with_reducible refine ObC.f 29 ?_);(first|(with_reducible refine ObC.mk _ (hm) ?_)|(refine ObC.mk _ (hm) ?_)))|((with_reducible refine ObC.f 30 ?_);(first|(with_reducible refine ObC.mk _ (hrf) ?_)|(refine ObC.mk _ (hrf) ?_))))
      conv=>whnf
      refine LoopP.go (α:=Nat) (fun k=>k≤(rfN x).length∧((rfN x).take k).all (fun r=>decide (-1 - r < (i:Int)))=true) (fun k=>(rfN x).length - k) (fun k=>[(2,some (I 0)),(3,none),(1,none),(24,some (I k)),(0,none),(0,none),(0,none),(0,none),(0,none),(0,none),(0,none),(0,none)]) (fun _=>[⟨32,3,[plA l rt od],0,0⟩]) 0 ⟨Nat.zero_le _,rfl⟩ (Fg.vw [(0,0,0)] (by repeat' ((conv=>whnf);first|((with_reducible refine ObN.mk ?_ ?_);(focus exact zN))|((with_reducible refine ObRn.mk ?_ ?_);(focus (first|rfl|(simp [rnB,rnC,rnL];done))))|((with_reducible refine ObEqs.mk ?_ ?_);(focus rfl))|exact True.intro)) (by repeat' ((conv=>whnf);first|((with_reducible refine ObN.mk ?_ ?_);(focus exact zN))|((with_reducible refine ObRow.same ?_ ?_ ?_);(focus (first|rfl|assumption));(focus (first|rfl|assumption|(simp;done))))|exact True.intro)) (by simp) (by repeat' ((conv=>whnf);first|exact True.intro))) ?_
      rintro k ⟨hk,hk0⟩
      by_cases hkr:k < (rfN x).length
      · have hq2 := iA_at' hkr
        have hr2:=hri _ (List.getElem_mem hkr)
        have hn:=num31 G (rfN x)[k] hr2.1 hr2.2
        by_cases hz : -1 - (rfN x)[k] < (i:Int)
        · have h1:=all_tk (p:=fun r=>decide (-1 - r < (i:Int))) hkr hk0 (by simpa using hz)
          repeat' ((conv=>whnf);first|(with_reducible refine SeqP.go ?_)|((with_reducible refine ObN.mk ?_ ?_);(focus exact zN))|(with_reducible refine ObT.tt ?_)|(with_reducible refine ObT.ff ?_)|((with_reducible refine ObB.yes ?_ ?_);(focus (first|assumption|(with_reducible rfl)|omega)))|((with_reducible refine ObB.no ?_ ?_);(focus (first|assumption|omega)))|((with_reducible refine ObI.nl ?_ ?_);(focus omega))|((with_reducible refine ObX.mk _ rfl ?_ ?_);(focus exact zX))|((with_reducible refine (?_:ObR _ _ _));(first|(refine ObR.mk _ (by assumption) ?_)|(refine ObR.mk _ (by with_reducible rfl) ?_)|(refine ObR.map zX (fun x hx=>?_))|(refine ObR.mk _ rfl ?_)))|((with_reducible refine ObC.f 31 ?_);(first|(with_reducible refine ObC.mk _ (hn) ?_)|(refine ObC.mk _ (hn) ?_))))
          conv=>whnf
          refine Again.mk (k+1) ⟨by omega,h1⟩ ?_ (Fg.go ?_ rfl)
          · omega
          repeat' ((conv=>whnf);first|((with_reducible refine ObEqs.mk ?_ ?_);(focus rfl))|((with_reducible refine ObEq1.i ?_ ?_);(focus (first|(with_reducible rfl)|omega)))|exact True.intro)
        · have h1:=all_no (p:=fun r=>decide (-1 - r < (i:Int))) hkr (by simpa using hz)
          obtain rfl:c=false:=by rw [hc,okP,hno (by rw [okI,h1,Bool.and_false])];simp
          simp only [eo]
          repeat' ((conv=>whnf);first|(with_reducible refine SeqP.go ?_)|((with_reducible refine ObN.mk ?_ ?_);(focus exact zN))|(with_reducible refine ObT.tt ?_)|((with_reducible refine ObB.yes ?_ ?_);(focus (first|assumption|(with_reducible rfl)|omega)))|((with_reducible refine ObX.mk _ rfl ?_ ?_);(focus exact zX))|((with_reducible refine (?_:ObR _ _ _));(first|(refine ObR.mk _ (by assumption) ?_)|(refine ObR.mk _ (by with_reducible rfl) ?_)|(refine ObR.map zX (fun x hx=>?_))|(refine ObR.mk _ rfl ?_)))|((with_reducible refine ObC.f 31 ?_);(first|(with_reducible refine ObC.mk _ (hn) ?_)|(refine ObC.mk _ (hn) ?_)))|((with_reducible refine ObEq.i ?_);(focus (first|(with_reducible rfl)|omega))))
      · obtain rfl : k = (rfN x).length := by omega
        rw [List.take_length] at hk0
        have h2:okI i x=true:=by rw [okI,hk0,hmz];rfl
        repeat' ((conv=>whnf);first|(with_reducible refine SeqP.go ?_)|((with_reducible refine ObN.mk ?_ ?_);(focus exact zN))|(with_reducible refine ObT.ff ?_)|((with_reducible refine ObB.no ?_ ?_);(focus (first|assumption|omega)))|((with_reducible refine ObI.nl ?_ ?_);(focus omega)))
        conv=>whnf
        refine Again.mk (i+1) ⟨by omega,by rw [hs,h2]⟩ ?_ (Fg.go ?_ rfl)
        · omega
        repeat' ((conv=>whnf);first|((with_reducible refine ObEqs.mk ?_ ?_);(focus rfl))|((with_reducible refine ObEq1.i ?_ ?_);(focus (first|(with_reducible rfl)|omega)))|exact True.intro)
    · obtain rfl : c = false := by rw [hc, okP, hno (by rw [okI, decide_eq_false hmz, Bool.false_and])]; simp
      simp only [eo]
      repeat' ((conv=>whnf);first|(with_reducible refine SeqP.go ?_)|((with_reducible refine ObD.mk ?_ ?_);(focus (first|rfl|(simp;done))))|((with_reducible refine ObN.mk ?_ ?_);(focus exact zN))|(with_reducible refine ObT.tt ?_)|((with_reducible refine ObB.yes ?_ ?_);(focus (first|assumption|(with_reducible rfl)|omega)))|((with_reducible refine ObB.no ?_ ?_);(focus (first|assumption|omega)))|((with_reducible refine ObX.mk _ rfl ?_ ?_);(focus exact zX))|((with_reducible refine (?_:ObU _ _));(refine ObU.mk _ zU ?_))|((with_reducible refine (?_:ObR _ _ _));(first|(refine ObR.mk _ (by assumption) ?_)|(refine ObR.mk _ (by with_reducible rfl) ?_)|(refine ObR.map zX (fun x hx=>?_))|(refine ObR.mk _ rfl ?_)))|((with_reducible refine ObC.f 29 ?_);(first|(with_reducible refine ObC.mk _ (hm) ?_)|(refine ObC.mk _ (hm) ?_)))|((with_reducible refine ObEq.i ?_);(focus (first|(with_reducible rfl)|omega))))
  obtain rfl:i=l.length:=by omega
  by_cases hz : -1 - rt < (l.length:Int)
  · obtain rfl : c = true := by rw [hc, okP, h0, hai]; simp [hz]
    simp only [eo]
    repeat' ((conv=>whnf);first|(with_reducible refine SeqP.go ?_)|((with_reducible refine ObD.mk ?_ ?_);(focus (first|rfl|(simp;done))))|((with_reducible refine ObN.mk ?_ ?_);(focus exact zN))|(with_reducible refine ObT.ff ?_)|((with_reducible refine ObB.no ?_ ?_);(focus (first|assumption|omega)))|((with_reducible refine (?_:ObL _ _));(refine ObL.mk _ zM ?_))|((with_reducible refine (?_:ObR _ _ _));(first|(refine ObR.mk _ (by assumption) ?_)|(refine ObR.mk _ (by with_reducible rfl) ?_)|(refine ObR.map zX (fun x hx=>?_))|(refine ObR.mk _ rfl ?_)))|((with_reducible refine ObC.f 31 ?_);(first|(with_reducible refine ObC.mk _ (hrt) ?_)|(refine ObC.mk _ (hrt) ?_)))|((with_reducible refine ObEq.i ?_);(focus (first|(with_reducible rfl)|omega))))
  · obtain rfl : c = false := by rw [hc, okP, h0, hai]; simp [hz]
    simp only [eo]
    repeat' ((conv=>whnf);first|(with_reducible refine SeqP.go ?_)|((with_reducible refine ObD.mk ?_ ?_);(focus (first|rfl|(simp;done))))|((with_reducible refine ObN.mk ?_ ?_);(focus exact zN))|(with_reducible refine ObT.tt ?_)|(with_reducible refine ObT.ff ?_)|((with_reducible refine ObB.yes ?_ ?_);(focus (first|assumption|(with_reducible rfl)|omega)))|((with_reducible refine ObB.no ?_ ?_);(focus (first|assumption|omega)))|((with_reducible refine (?_:ObL _ _));(refine ObL.mk _ zM ?_))|((with_reducible refine (?_:ObR _ _ _));(first|(refine ObR.mk _ (by assumption) ?_)|(refine ObR.mk _ (by with_reducible rfl) ?_)|(refine ObR.map zX (fun x hx=>?_))|(refine ObR.mk _ rfl ?_)))|((with_reducible refine ObC.f 31 ?_);(first|(with_reducible refine ObC.mk _ (hrt) ?_)|(refine ObC.mk _ (hrt) ?_)))|((with_reducible refine ObEq.i ?_);(focus (first|(with_reducible rfl)|omega))))
end
end Go.Proofs.Ytnammfeiehikfaa.Sim
namespace Go.Proofs.Ytnammfeiehikfaa.Sim
open Go.RowKit
set_option maxRecDepth 100000
section
variable (G:Nat→AV)
theorem sameN (x:Nd) (h:x.Ok):PC Try.prog G 20 [nA x,nA x] (Bo true):=by
  have h1:=h.ke
  have h2:=h.va
  have h3:=h.kk
  have h4:=h.ls
  exact same13 G _ _ _ _ _ _ _ _ _ _ _ _ _ _ _ _ _ _ (by omega) (by omega) (by omega) (by omega) (by omega) (by omega) (by omega) (by omega) true (by simp)
theorem heap13 (l:List Nd) (hl:l.length≤1000) (hx:∀ x ∈ l,x.Ok):PC Try.prog G 13 [.sl 9 (l.map nA),.sl 9 (l.map nA)] (Bo true):=by
  refine pc_ofV cop13 ?_
  repeat' ((conv=>whnf);first|(with_reducible refine SeqP.go ?_)|((with_reducible refine ObN.mk ?_ ?_);(focus exact zN))|(with_reducible refine ObT.ff ?_)|((with_reducible refine ObB.yes ?_ ?_);(focus (first|assumption|(with_reducible rfl)|omega)))|((with_reducible refine (?_:ObL _ _));(refine ObL.mk _ zM ?_)))
  conv=>whnf
  refine LoopP.go (α:=Nat) (fun i=>i≤l.length) (fun i=>l.length - i) (fun i=>[(4,some (Bo false)),(0,some (I i)),(5,none),(0,none),(0,none),(0,none),(0,none),(0,none),(0,none),(0,none),(0,none),(0,none),(0,none),(0,none),(0,none),(0,none),(0,none),(0,none)]) (fun _=>[]) 0 (Nat.zero_le _) (Fg.go ?_ rfl) ?_
  · repeat' ((conv=>whnf);first|((with_reducible refine ObEqs.mk ?_ ?_);(focus rfl))|((with_reducible refine ObEq1.i ?_ ?_);(focus (first|(with_reducible rfl)|omega)))|((with_reducible refine ObEq1.mk ?_ ?_);(focus (first|rfl|assumption)))|exact True.intro)
  intro i hi
  by_cases hil:i < l.length
  · have hq := nA_at hil
    have hs:=sameN G l[i] (hx _ (List.getElem_mem hil))
    generalize l[i]=x at *
    repeat' ((conv=>whnf);first|(with_reducible refine SeqP.go ?_)|((with_reducible refine ObD.mk ?_ ?_);(focus (first|rfl|(simp;done))))|((with_reducible refine ObN.mk ?_ ?_);(focus exact zN))|(with_reducible refine ObT.tt ?_)|(with_reducible refine ObT.ff ?_)|((with_reducible refine ObB.yes ?_ ?_);(focus (first|assumption|(with_reducible rfl)|omega)))|((with_reducible refine ObI.nl ?_ ?_);(focus omega))|((with_reducible refine ObX.mk _ rfl ?_ ?_);(focus exact zX))|((with_reducible refine (?_:ObL _ _));(refine ObL.mk _ zM ?_))|((with_reducible refine (?_:ObR _ _ _));(first|(refine ObR.mk _ (by assumption) ?_)|(refine ObR.mk _ (by with_reducible rfl) ?_)|(refine ObR.map zX (fun x hx=>?_))|(refine ObR.mk _ rfl ?_)))|((with_reducible refine ObC.f 20 ?_);(first|(with_reducible refine ObC.mk _ (hs) ?_)|(refine ObC.mk _ (hs) ?_))))
    conv=>whnf
    refine Again.mk (i+1) ?_ ?_ (Fg.go ?_ rfl)
    · omega
    · omega
    repeat' ((conv=>whnf);first|((with_reducible refine ObEqs.mk ?_ ?_);(focus rfl))|((with_reducible refine ObEq1.i ?_ ?_);(focus (first|(with_reducible rfl)|omega)))|((with_reducible refine ObEq1.mk ?_ ?_);(focus (first|rfl|assumption)))|exact True.intro)
  · obtain rfl : i = l.length := by omega
    repeat' ((conv=>whnf);first|(with_reducible refine SeqP.go ?_)|((with_reducible refine ObN.mk ?_ ?_);(focus exact zN))|(with_reducible refine ObT.ff ?_)|((with_reducible refine ObB.no ?_ ?_);(focus (first|assumption|omega)))|((with_reducible refine (?_:ObL _ _));(refine ObL.mk _ zM ?_))|((with_reducible refine ObEq.mk ?_);(focus (first|rfl|assumption))))
end
end Go.Proofs.Ytnammfeiehikfaa.Sim
namespace Go.Proofs.Ytnammfeiehikfaa.Sim
set_option maxRecDepth 100000
end Go.Proofs.Ytnammfeiehikfaa.Sim
namespace Go.Proofs.Ytnammfeiehikfaa.Sim
open Go.RowKit
set_option maxRecDepth 100000
structure Nd.Wd (x:Nd):Prop where
  mp:x.mp < 4294967296
  ke:x.ke.size≤9223372036854775807
  va:x.va.size≤9223372036854775807
  kk:x.kk.length≤9223372036854775807
  ls:x.ls.length≤9223372036854775807
  sz:∀ p ∈ x.ls,p.1.size≤9223372036854775807∧p.2.size≤9223372036854775807
  mn:i64 x.mn
  ks:∀ r ∈ x.kk,i64 r
def fewX (x:Nd):Nd:=⟨x.kn,cutB x.ke 40,cutB x.va 40,x.mp,few1 x.kk,x.mn,few x.ls,x.sz,x.bi⟩
theorem fewX_ok {x:Nd} (h:x.Wd):(fewX x).Ok :=
  ⟨h.mp,cutB_size _,cutB_size _,by show (few1 x.kk).length≤40;rw [few1_len];omega,few_len _,few_sizes,h.mn,fun r hr=>h.ks r (List.mem_of_mem_take hr)⟩
section
variable (G:Nat→AV)
theorem few9 (x:Nd) (h:x.Wd):PC Try.prog G 9 [nA x] (nA (fewX x)):=fewN G x.kn x.ke x.va x.mp x.kk x.mn x.ls x.sz x.bi h.ke h.va h.kk h.ls h.sz
end
theorem Nd.Ok.wd {x:Nd} (h:x.Ok):x.Wd:=⟨h.mp,by have:=h.ke;omega,by have:=h.va;omega,by have:=h.kk;omega,by have:=h.ls;omega,fun p hp=>by have:=h.sz p hp;omega,h.mn,h.ks⟩
theorem fewX_eq {x:Nd} (h:x.Ok):fewX x=x:=by
  obtain ⟨kn,ke,va,mp,kk,mn,ls,sz,bi⟩:=x
  have h1:=h.ke;have h2:=h.va;have h3:=h.kk;have h4:=h.ls;have h5:=h.sz
  dsimp only at h1 h2 h3 h4 h5
  simp only [fewX,cutB_short h1,cutB_short h2,few1_short h3,few_short h4 h5]
def nS (m:Nat) (a:List Nd):AV:=match a with|[]=>.nl 9|x::t=>.ol m 0 (t.length+1)
def nH (a:List Nd):Hp:=match a with|[]=>[]|x::t=>[⟨30,9,(x::t).map nA,0,0⟩]
theorem nr_n (l:List Nd):(l.map nA).all nrB=true:=by simp [nrB,AV.cells]
theorem p_n (l:List Nd):(l.map nA).all AV.isP=true:=by simp [AV.isP,AV.isC,AV.isC0]
theorem n_snoc {l:List Nd} {x:Nd}:(l.map nA).take l.length++[nA x]=(l++[x]).map nA:=by
  rw [List.take_of_length_le (by simp)];simp
theorem n_all {l:List Nd}:(l.map nA).take l.length=l.map nA:=List.take_of_length_le (by simp)
theorem fx_snoc {l:List Nd} {i:Nat} (h:i < l.length):(l.take i).map fewX++[fewX l[i]]=(l.take (i+1)).map fewX:=by
  rw [List.take_succ_eq_append_getElem h,List.map_append];rfl
section
variable (G:Nat→AV)
set_option maxHeartbeats 2000000 in
theorem give8 (l:List Nd) (rt:Int) (od:List Int) (hl:l.length≤9223372036854775807) (hx:∀ x ∈ l,x.Wd) (ho:od.length≤9223372036854775807):PC Try.prog G 8 [plA l rt od] (plA ((l.take 12).map fewX) rt (od.take 20)):=by
  refine pc_ofV cop8 ?_
  repeat' ((conv=>whnf);first|(with_reducible refine SeqP.go ?_)|((with_reducible refine ObD.mk ?_ ?_);(focus (first|rfl|(simp;done))))|((with_reducible refine ObN.mk ?_ ?_);(focus exact zN))|((with_reducible refine (?_:ObU _ _));(refine ObU.mk _ zU ?_))|((with_reducible refine (?_:ObR _ _ _));(first|(refine ObR.mk _ (by assumption) ?_)|(refine ObR.mk _ (by with_reducible rfl) ?_)|(refine ObR.map zX (fun x hx=>?_))|(refine ObR.mk _ rfl ?_))))
  conv=>whnf
  refine LoopP.go (α:=Nat × List Nd) (fun p=>p.1≤l.length∧p.1≤12∧p.2=(l.take p.1).map fewX) (fun p=>l.length - p.1) (fun p=>[(4,some (I p.1)),(3,none),(0,none),(0,none),(0,none),(0,none),(0,none),(0,none),(0,none),(0,none),(0,none),(0,none),(0,none),(0,none),(0,none),(0,none),(0,none),(0,none),(0,none),(0,none),(0,none),(0,none),(0,none)]) (fun p=>[⟨26,3,[plA l rt od],0,0⟩,⟨32,3,[.agg [.nl 9,I 0,.nl 1]],0,0⟩,⟨32,3,[.agg [nS 3 p.2,I rt,.nl 1]],0,0⟩]++nH p.2) (0,[]) ⟨Nat.zero_le _,Nat.zero_le _,rfl⟩ (Fg.go ?_ rfl) ?_
  · repeat' ((conv=>whnf);first|((with_reducible refine ObEqs.mk ?_ ?_);(focus rfl))|((with_reducible refine ObEq1.i ?_ ?_);(focus (first|(with_reducible rfl)|omega)))|exact True.intro)
  rintro ⟨i,o⟩ ⟨hi,hi2,hoo⟩
  dsimp only at hi hi2 hoo ⊢
  have hol:o.length=i:=by rw [hoo,List.length_map,List.length_take];omega
  by_cases hil:i < l.length∧i < 12
  · obtain ⟨hil, hil2⟩ := hil
    have hq:=nA_at hil
    have hsn:=fx_snoc hil
    have hf:=few9 G l[i] (hx _ (List.getElem_mem hil))
    generalize fewX l[i]=y at *
    generalize l[i]=x at *
    have r1:=nr_n (o++[y])
    cases o with
    | nil =>
      repeat' ((conv=>whnf);first|(with_reducible refine SeqP.go ?_)|((with_reducible refine ObD.mk ?_ ?_);(focus (first|rfl|(simp;done))))|((with_reducible refine ObN.mk ?_ ?_);(focus exact zN))|(with_reducible refine ObT.tt ?_)|((with_reducible refine ObB.yes ?_ ?_);(focus (first|assumption|(with_reducible rfl)|omega)))|((with_reducible refine ObI.nl ?_ ?_);(focus omega))|((with_reducible refine ObX.mk _ rfl ?_ ?_);(focus exact zX))|((with_reducible refine (?_:ObL _ _));(refine ObL.mk _ zM ?_))|((with_reducible refine (?_:ObU _ _));(refine ObU.mk _ zU ?_))|((with_reducible refine (?_:ObR _ _ _));(first|(refine ObR.mk _ (by assumption) ?_)|(refine ObR.mk _ (by with_reducible rfl) ?_)|(refine ObR.map zX (fun x hx=>?_))|(refine ObR.mk _ rfl ?_)))|((with_reducible refine ObC.f 9 ?_);(first|(with_reducible refine ObC.mk _ (hf) ?_)|(refine ObC.mk _ (hf) ?_)))|((with_reducible refine ObW.cons ?_ ?_);(focus (first|assumption|(simp;done)))))
      conv=>whnf
      refine Again.mk (i+1,[y]) ?_ ?_ (Fg.vw [(0,0,0),(0,1,0),(0,2,0),(0,4,0)] ?_ ?_ (by simp) ?_)
      · exact ⟨by dsimp only;omega,by dsimp only;omega,by rw [← hsn,← hoo];rfl⟩
      · dsimp only;omega
      all_goals repeat' ((conv=>whnf);first|((with_reducible refine ObRow.lit ?_ ?_);(focus (simp [rnB,rnC,rnL,AV.cells,nS];done)))|((with_reducible refine ObN.mk ?_ ?_);(focus exact zN))|((with_reducible refine ObRn.mk ?_ ?_);(focus (first|rfl|(simp [rnB,rnC,rnL];done))))|((with_reducible refine ObEqs.mk ?_ ?_);(focus rfl))|exact True.intro)
    | cons o0 ot =>
      have hol':ot.length+1=i:=hol
      have us:((o0::ot).map nA).take (ot.length+1)++[nA y]=((o0::ot)++[y]).map nA:=n_snoc (l:=o0::ot)
      repeat' ((conv=>whnf);first|(with_reducible refine SeqP.go ?_)|((with_reducible refine ObD.mk ?_ ?_);(focus (first|rfl|(simp;done))))|((with_reducible refine ObN.mk ?_ ?_);(focus exact zN))|(with_reducible refine ObT.tt ?_)|((with_reducible refine ObB.yes ?_ ?_);(focus (first|assumption|(with_reducible rfl)|omega)))|((with_reducible refine ObI.nl ?_ ?_);(focus omega))|((with_reducible refine ObX.mk _ rfl ?_ ?_);(focus exact zX))|((with_reducible refine (?_:ObL _ _));(refine ObL.mk _ zM ?_))|((with_reducible refine (?_:ObU _ _));(refine ObU.mk _ (by first|exact us|assumption|((conv=>lhs;simp only [List.set_cons_zero,List.set_cons_succ,List.take_succ_cons,List.take_zero,List.drop_succ_cons,List.drop_zero,List.nil_append,List.cons_append,List.append_nil,List.take_nil,List.drop_nil]);try rfl)|rfl) ?_))|((with_reducible refine (?_:ObR _ _ _));(first|(refine ObR.mk _ (by assumption) ?_)|(refine ObR.mk _ (by with_reducible rfl) ?_)|(refine ObR.map zX (fun x hx=>?_))|(refine ObR.mk _ rfl ?_)))|((with_reducible refine ObC.f 9 ?_);(first|(with_reducible refine ObC.mk _ (hf) ?_)|(refine ObC.mk _ (hf) ?_))))
      conv=>whnf
      refine Again.mk (i+1,(o0::ot)++[y]) ?_ ?_ (Fg.vw [(0,0,0),(0,1,0),(0,2,0),(0,3,1)] ?_ ?_ (by simp) ?_)
      · exact ⟨by dsimp only;omega,by dsimp only;omega,by rw [← hsn,← hoo]⟩
      · dsimp only;omega
      all_goals repeat' ((conv=>whnf);first|((with_reducible refine ObRow.lit ?_ ?_);(focus (simp [rnB,rnC,rnL,AV.cells,nS];done)))|((with_reducible refine ObN.mk ?_ ?_);(focus exact zN))|((with_reducible refine ObRn.mk ?_ ?_);(focus (first|rfl|(simp [rnB,rnC,rnL];done))))|((with_reducible refine ObEqs.mk ?_ ?_);(focus rfl))|exact True.intro)
  · have ho' : o = (l.take 12).map fewX := by
      rw [hoo]
      rcases Nat.lt_or_ge i l.length with h|h
      · rw [show i=12 by omega]
      · rw [List.take_of_length_le h,List.take_of_length_le (by omega)]
    have htk:=@tk_min od
    have htl:(od.take 20).length≤20:=by rw [List.length_take];omega
    have hlt:min od.length 20=(od.take 20).length:=by rw [List.length_take];omega
    rw [← ho']
    have hor:i=l.length∨(i < l.length∧i=12):=by omega
    generalize od.take 20=T at *
    rcases o with _|⟨o0,ot⟩<;>rcases T with _|⟨t0,tt⟩<;>rcases hor with hor|⟨hor,hor2⟩
    all_goals try (exfalso;simp only [List.length_nil] at hol;omega)
    · repeat' ((conv=>whnf);first|(with_reducible refine SeqP.go ?_)|(rw [min20])|((with_reducible refine ObD.mk ?_ ?_);(focus (first|rfl|(simp;done))))|((with_reducible refine ObN.mk ?_ ?_);(focus exact zN))|(with_reducible refine ObT.ff ?_)|((with_reducible refine ObB.no ?_ ?_);(focus (first|assumption|omega)))|(with_reducible refine ObZ.mk _ rfl ?_)|((with_reducible refine (?_:ObL _ _));(refine ObL.mk _ zM ?_))|((with_reducible refine (?_:ObU _ _));(refine ObU.mk _ (by first|exact htk|assumption|((conv=>lhs;simp only [List.set_cons_zero,List.set_cons_succ,List.take_succ_cons,List.take_zero,List.drop_succ_cons,List.drop_zero,List.nil_append,List.cons_append,List.append_nil,List.take_nil,List.drop_nil]);try rfl)|rfl) ?_))|((with_reducible refine (?_:ObR _ _ _));(first|(refine ObR.mk _ (by assumption) ?_)|(refine ObR.mk _ (by with_reducible rfl) ?_)|(refine ObR.map zX (fun x hx=>?_))|(refine ObR.mk _ rfl ?_)))|((with_reducible refine ObW.nil ?_ ?_);(focus (first|rfl|assumption)))|((with_reducible refine ObJ.zn ?_ ?_);(focus exact zX))|((with_reducible refine ObEq.mk ?_);(focus (first|rfl|assumption)))|(with_reducible refine ObE.min ?_))
    · have ta : ((t0 :: tt).map iA).take (tt.length + 1) = (t0 :: tt).map iA := i_all (l := t0 :: tt)
      have tp:=p_i (t0::tt)
      have htl':tt.length+1≤20:=htl
      repeat' ((conv=>whnf);first|(with_reducible refine SeqP.go ?_)|(rw [min20])|((with_reducible refine ObD.mk ?_ ?_);(focus (first|rfl|(simp;done))))|((with_reducible refine ObN.mk ?_ ?_);(focus exact zN))|(with_reducible refine ObT.ff ?_)|((with_reducible refine ObB.no ?_ ?_);(focus (first|assumption|omega)))|(with_reducible refine ObZ.mk _ rfl ?_)|((with_reducible refine (?_:ObL _ _));(refine ObL.mk _ zM ?_))|((with_reducible refine (?_:ObU _ _));(refine ObU.mk _ (by first|exact htk|exact ta|assumption|((conv=>lhs;simp only [List.set_cons_zero,List.set_cons_succ,List.take_succ_cons,List.take_zero,List.drop_succ_cons,List.drop_zero,List.nil_append,List.cons_append,List.append_nil,List.take_nil,List.drop_nil]);try rfl)|rfl) ?_))|((with_reducible refine (?_:ObR _ _ _));(first|(refine ObR.mk _ (by assumption) ?_)|(refine ObR.mk _ (by with_reducible rfl) ?_)|(refine ObR.map zX (fun x hx=>?_))|(refine ObR.mk _ rfl ?_)))|((with_reducible refine ObW.cons ?_ ?_);(focus (first|assumption|(simp;done))))|((with_reducible refine ObJ.zn ?_ ?_);(focus exact zX))|((with_reducible refine ObEq.mk ?_);(focus (first|rfl|assumption)))|(with_reducible refine ObE.min ?_))
    all_goals
      have oa:((o0::ot).map nA).take (ot.length+1)=(o0::ot).map nA:=n_all (l:=o0::ot)
      have op:=p_n (o0::ot)
    · repeat' ((conv=>whnf);first|(with_reducible refine SeqP.go ?_)|(rw [min20])|((with_reducible refine ObD.mk ?_ ?_);(focus (first|rfl|(simp;done))))|((with_reducible refine ObN.mk ?_ ?_);(focus exact zN))|(with_reducible refine ObT.ff ?_)|((with_reducible refine ObB.no ?_ ?_);(focus (first|assumption|omega)))|(with_reducible refine ObZ.mk _ rfl ?_)|((with_reducible refine (?_:ObL _ _));(refine ObL.mk _ zM ?_))|((with_reducible refine (?_:ObU _ _));(refine ObU.mk _ (by first|exact htk|exact oa|assumption|((conv=>lhs;simp only [List.set_cons_zero,List.set_cons_succ,List.take_succ_cons,List.take_zero,List.drop_succ_cons,List.drop_zero,List.nil_append,List.cons_append,List.append_nil,List.take_nil,List.drop_nil]);try rfl)|rfl) ?_))|((with_reducible refine (?_:ObR _ _ _));(first|(refine ObR.mk _ (by assumption) ?_)|(refine ObR.mk _ (by with_reducible rfl) ?_)|(refine ObR.map zX (fun x hx=>?_))|(refine ObR.mk _ rfl ?_)))|((with_reducible refine ObW.nil ?_ ?_);(focus (first|rfl|assumption)))|((with_reducible refine ObJ.zn ?_ ?_);(focus exact zX))|((with_reducible refine ObEq.mk ?_);(focus (first|rfl|assumption)))|(with_reducible refine ObE.min ?_))
    · repeat' ((conv=>whnf);first|(with_reducible refine SeqP.go ?_)|(rw [min20])|((with_reducible refine ObD.mk ?_ ?_);(focus (first|rfl|(simp;done))))|((with_reducible refine ObN.mk ?_ ?_);(focus exact zN))|(with_reducible refine ObT.tt ?_)|(with_reducible refine ObT.ff ?_)|((with_reducible refine ObB.yes ?_ ?_);(focus (first|assumption|(with_reducible rfl)|omega)))|((with_reducible refine ObB.no ?_ ?_);(focus (first|assumption|omega)))|(with_reducible refine ObZ.mk _ rfl ?_)|((with_reducible refine (?_:ObL _ _));(refine ObL.mk _ zM ?_))|((with_reducible refine (?_:ObU _ _));(refine ObU.mk _ (by first|exact htk|exact oa|assumption|((conv=>lhs;simp only [List.set_cons_zero,List.set_cons_succ,List.take_succ_cons,List.take_zero,List.drop_succ_cons,List.drop_zero,List.nil_append,List.cons_append,List.append_nil,List.take_nil,List.drop_nil]);try rfl)|rfl) ?_))|((with_reducible refine (?_:ObR _ _ _));(first|(refine ObR.mk _ (by assumption) ?_)|(refine ObR.mk _ (by with_reducible rfl) ?_)|(refine ObR.map zX (fun x hx=>?_))|(refine ObR.mk _ rfl ?_)))|((with_reducible refine ObW.nil ?_ ?_);(focus (first|rfl|assumption)))|((with_reducible refine ObJ.zn ?_ ?_);(focus exact zX))|((with_reducible refine ObEq.mk ?_);(focus (first|rfl|assumption)))|(with_reducible refine ObE.min ?_))
    · have ta : ((t0 :: tt).map iA).take (tt.length + 1) = (t0 :: tt).map iA := i_all (l := t0 :: tt)
      have tp:=p_i (t0::tt)
      have htl':tt.length+1≤20:=htl
      repeat' ((conv=>whnf);first|(with_reducible refine SeqP.go ?_)|(rw [min20])|((with_reducible refine ObD.mk ?_ ?_);(focus (first|rfl|(simp;done))))|((with_reducible refine ObN.mk ?_ ?_);(focus exact zN))|(with_reducible refine ObT.ff ?_)|((with_reducible refine ObB.no ?_ ?_);(focus (first|assumption|omega)))|(with_reducible refine ObZ.mk _ rfl ?_)|((with_reducible refine (?_:ObL _ _));(refine ObL.mk _ zM ?_))|((with_reducible refine (?_:ObU _ _));(refine ObU.mk _ (by first|exact htk|exact ta|exact oa|assumption|((conv=>lhs;simp only [List.set_cons_zero,List.set_cons_succ,List.take_succ_cons,List.take_zero,List.drop_succ_cons,List.drop_zero,List.nil_append,List.cons_append,List.append_nil,List.take_nil,List.drop_nil]);try rfl)|rfl) ?_))|((with_reducible refine (?_:ObR _ _ _));(first|(refine ObR.mk _ (by assumption) ?_)|(refine ObR.mk _ (by with_reducible rfl) ?_)|(refine ObR.map zX (fun x hx=>?_))|(refine ObR.mk _ rfl ?_)))|((with_reducible refine ObW.cons ?_ ?_);(focus (first|assumption|(simp;done))))|((with_reducible refine ObJ.zn ?_ ?_);(focus exact zX))|((with_reducible refine ObEq.mk ?_);(focus (first|rfl|assumption)))|(with_reducible refine ObE.min ?_))
    · have ta : ((t0 :: tt).map iA).take (tt.length + 1) = (t0 :: tt).map iA := i_all (l := t0 :: tt)
      have tp:=p_i (t0::tt)
      have htl':tt.length+1≤20:=htl
      repeat' ((conv=>whnf);first|(with_reducible refine SeqP.go ?_)|(rw [min20])|((with_reducible refine ObD.mk ?_ ?_);(focus (first|rfl|(simp;done))))|((with_reducible refine ObN.mk ?_ ?_);(focus exact zN))|(with_reducible refine ObT.tt ?_)|(with_reducible refine ObT.ff ?_)|((with_reducible refine ObB.yes ?_ ?_);(focus (first|assumption|(with_reducible rfl)|omega)))|((with_reducible refine ObB.no ?_ ?_);(focus (first|assumption|omega)))|(with_reducible refine ObZ.mk _ rfl ?_)|((with_reducible refine (?_:ObL _ _));(refine ObL.mk _ zM ?_))|((with_reducible refine (?_:ObU _ _));(refine ObU.mk _ (by first|exact htk|exact ta|exact oa|assumption|((conv=>lhs;simp only [List.set_cons_zero,List.set_cons_succ,List.take_succ_cons,List.take_zero,List.drop_succ_cons,List.drop_zero,List.nil_append,List.cons_append,List.append_nil,List.take_nil,List.drop_nil]);try rfl)|rfl) ?_))|((with_reducible refine (?_:ObR _ _ _));(first|(refine ObR.mk _ (by assumption) ?_)|(refine ObR.mk _ (by with_reducible rfl) ?_)|(refine ObR.map zX (fun x hx=>?_))|(refine ObR.mk _ rfl ?_)))|((with_reducible refine ObW.cons ?_ ?_);(focus (first|assumption|(simp;done))))|((with_reducible refine ObJ.zn ?_ ?_);(focus exact zX))|((with_reducible refine ObEq.mk ?_);(focus (first|rfl|assumption)))|(with_reducible refine ObE.min ?_))
end
end Go.Proofs.Ytnammfeiehikfaa.Sim
namespace Go.Proofs.Ytnammfeiehikfaa.Sim
open Go.RowKit
set_option maxRecDepth 100000
abbrev z9:AV:=.agg [I 0,S ⟨#[]⟩,S ⟨#[]⟩,.v (.int .u32 0),.nl 1,I 0,.nl 2,I 0,I 0]
def mixN (l:List Nd) (i:Nat):List AV:=(l.take i).map nA++List.replicate (l.length - i) z9
theorem mixN_len (l:List Nd) {i:Nat} (h:i≤l.length):(mixN l i).length=l.length:=by simp [mixN];omega
theorem mixN_set {l:List Nd} {i:Nat} (h:i < l.length):(mixN l i).set i (nA l[i])=mixN l (i+1):=by
  obtain ⟨k,hk⟩:∃ k,l.length - i=k+1:=⟨l.length - i - 1,by omega⟩
  have hl:((l.take i).map nA).length=i:=by simp;omega
  unfold mixN
  rw [hk,show l.length - (i+1)=k by omega,List.replicate_succ,List.set_append_right _ _ (by omega),hl,Nat.sub_self,List.set_cons_zero,List.take_succ_eq_append_getElem h]
  simp only [List.map_append,List.map_cons,List.map_nil,List.append_assoc,List.cons_append,List.nil_append]
theorem mixN_at {l:List Nd} {i:Nat} (h:i < l.length):(mixN l i)[i]? = some z9:=by
  obtain ⟨k,hk⟩:∃ k,l.length - i=k+1:=⟨l.length - i - 1,by omega⟩
  have hl:((l.take i).map nA).length=i:=by simp;omega
  unfold mixN
  rw [List.getElem?_append_right (by omega),hl,Nat.sub_self,hk,List.replicate_succ];rfl
theorem mixN_nr (l:List Nd) (i:Nat):(mixN l i).all nrB=true:=by
  rw [mixN,List.all_append,nr_n,Bool.true_and,List.all_eq_true]
  intro x hx
  rw [(List.mem_replicate.1 hx).2];rfl
section
variable (G:Nat→AV)
theorem copyNd (x:Nd) (h:x.Ok):PC Try.prog G 28 [nA x] (nA x):=copyN G x.kn x.ke x.va x.mp x.kk x.mn x.ls x.sz x.bi h.kk h.ls
set_option maxHeartbeats 2000000 in
theorem copies27 (l:List Nd) (hl:l.length≤1000) (hx:∀ x ∈ l,x.Ok):HC Try.prog G 27 [.sl 9 (l.map nA)] [] (.ol 0 0 l.length) [⟨30,9,l.map nA,0,0⟩]:=by
  have hz:List.replicate ((l.length:Nat):Int).toNat z9=mixN l 0:=by simp [mixN]
  have hn:mixN l l.length=l.map nA:=by simp [mixN]
  refine hc_ofV cop27 rfl ?_
  repeat' ((conv=>whnf);first|(with_reducible refine SeqP.go ?_)|((with_reducible refine ObN.mk ?_ ?_);(focus exact zN))|((with_reducible refine (?_:ObL _ _));(refine ObL.mk _ zM ?_))|((with_reducible refine (?_:ObU _ _));(refine ObU.mk _ (by first|exact hz|assumption|((conv=>lhs;simp only [List.set_cons_zero,List.set_cons_succ,List.take_succ_cons,List.take_zero,List.drop_succ_cons,List.drop_zero,List.nil_append,List.cons_append,List.append_nil,List.take_nil,List.drop_nil]);try rfl)|rfl) ?_)))
  conv=>whnf
  refine LoopP.go (α:=Nat) (fun i=>i≤l.length) (fun i=>l.length - i) (fun i=>[(4,none),(0,none),(5,some (I i)),(0,none),(0,none),(0,none),(0,none),(0,none),(0,none),(0,none),(0,none),(0,none),(0,none)]) (fun i=>[⟨30,9,mixN l i,0,0⟩]) 0 (Nat.zero_le _) (Fg.go ?_ (by first|rfl|exact congrArg (fun e=>[OB.mk 30 9 e 0 0]) hz)) ?_
  · repeat' ((conv=>whnf);first|((with_reducible refine ObEqs.mk ?_ ?_);(focus rfl))|((with_reducible refine ObEq1.i ?_ ?_);(focus (first|(with_reducible rfl)|omega)))|exact True.intro)
  intro i hi
  have hml:=mixN_len l hi
  by_cases hil:i < l.length
  · have hq := nA_at hil
    have hu:=mixN_set hil
    have hold:=mixN_at hil
    have hc:=copyNd G l[i] (hx _ (List.getElem_mem hil))
    have hr:=mixN_nr l (i+1)
    generalize l[i]=x at *
    repeat' ((conv=>whnf);first|(with_reducible refine SeqP.go ?_)|((with_reducible refine ObD.mk ?_ ?_);(focus (first|rfl|(simp;done))))|((with_reducible refine ObN.mk ?_ ?_);(focus exact zN))|(with_reducible refine ObT.tt ?_)|((with_reducible refine ObB.yes ?_ ?_);(focus (first|assumption|(with_reducible rfl)|omega)))|((with_reducible refine ObI.nl ?_ ?_);(focus omega))|((with_reducible refine ObX.mk _ rfl ?_ ?_);(focus exact zX))|((with_reducible refine (?_:ObU _ _));(refine ObU.mk _ (by first|exact hu|assumption|((conv=>lhs;simp only [List.set_cons_zero,List.set_cons_succ,List.take_succ_cons,List.take_zero,List.drop_succ_cons,List.drop_zero,List.nil_append,List.cons_append,List.append_nil,List.take_nil,List.drop_nil]);try rfl)|rfl) ?_))|((with_reducible refine (?_:ObR _ _ _));(first|(refine ObR.mk _ (by assumption) ?_)|(refine ObR.mk _ (by with_reducible rfl) ?_)|(refine ObR.map zX (fun x hx=>?_))|(refine ObR.mk _ rfl ?_)))|((with_reducible refine ObC.f 28 ?_);(first|(with_reducible refine ObC.mk _ (hc) ?_)|(refine ObC.mk _ (hc) ?_))))
    conv=>whnf
    refine Again.mk (i+1) ?_ ?_ (Fg.vw [(0,0,0)] ?_ ?_ (by simp) ?_)
    · omega
    · omega
    all_goals repeat' ((conv=>whnf);first|((with_reducible refine ObN.mk ?_ ?_);(focus exact zN))|((with_reducible refine ObRn.mk ?_ ?_);(focus (first|rfl|(simp [rnB,rnC,rnL];done))))|((with_reducible refine ObRow.same ?_ ?_ ?_);(focus (first|rfl|assumption));(focus (first|rfl|assumption|(simp;done))))|((with_reducible refine ObEqs.mk ?_ ?_);(focus rfl))|exact True.intro)
  · obtain rfl : i = l.length := by omega
    rw [hn]
    repeat' ((conv=>whnf);first|(with_reducible refine SeqP.go ?_)|((with_reducible refine ObN.mk ?_ ?_);(focus exact zN))|(with_reducible refine ObT.ff ?_)|((with_reducible refine ObB.no ?_ ?_);(focus (first|assumption|omega)))|(exact ObEnd.eq rfl rfl))
end
end Go.Proofs.Ytnammfeiehikfaa.Sim
namespace Go.Proofs.Ytnammfeiehikfaa.Sim
open Go.RowKit
set_option maxRecDepth 100000
def hR (i:Nat) (r:Int):Bool:=decide (1≤r) && decide (r≤(i:Int))
noncomputable def okH (i:Nat) (x:Nd):Bool:=decide (mayV x=0) && (rfN x).all (hR i)
noncomputable def aH (l:List Nd) (k:Nat):Bool:=(List.range k).all fun i=>match l[i]? with|some x=>okH i x|none=>true
theorem aH_succ {l:List Nd} {k:Nat} (h:k < l.length):aH l (k+1)=(aH l k && okH k l[k]):=by
  simp [aH,List.range_succ,List.getElem?_eq_getElem h]
theorem aH_no {l:List Nd} {k n:Nat} (h:k < l.length) (hn:k < n) (h0:okH k l[k]=false):aH l n=false:=by
  rw [aH,List.all_eq_false]
  exact ⟨k,List.mem_range.2 hn,by simp [List.getElem?_eq_getElem h,h0]⟩
theorem hR_yes {i:Nat} {r:Int} (h1:1≤r) (h2:r≤(i:Int)):hR i r=true:=by simp [hR,h1,h2]
theorem hR_no1 {i:Nat} {r:Int} (h1:r < 1):hR i r=false:=by rw [hR,decide_eq_false (by omega),Bool.false_and]
theorem hR_no2 {i:Nat} {r:Int} (h1:(i:Int) < r):hR i r=false:=by rw [hR,decide_eq_false (p:=r≤(i:Int)) (by omega),Bool.and_false]
section
variable (G:Nat→AV)
set_option maxHeartbeats 4000000 in
theorem may36 (l:List Nd) (hl:l.length≤1000) (hx:∀ x ∈ l,x.Ok) (c:Bool) (hc:c=aH l l.length):PC Try.prog G 36 [.sl 9 (l.map nA)] (I (eo c)):=by
  refine pc_ofV cop36 ?_
  repeat' ((conv=>whnf);first|(with_reducible refine SeqP.go ?_)|((with_reducible refine (?_:ObL _ _));(refine ObL.mk _ zM ?_)))
  conv=>whnf
  refine LoopP.go (α:=Nat) (fun i=>i≤l.length∧aH l i=true) (fun i=>l.length - i) (fun i=>[(2,some (I 0)),(0,none),(0,none),(1,none),(2,some (I i)),(0,none),(0,none),(0,none),(0,none),(0,none),(0,none),(0,none),(0,none),(0,none),(0,none),(0,none),(0,none),(0,none),(0,none),(0,none),(0,none),(0,none),(0,none),(0,none),(0,none),(0,none),(0,none),(0,none)]) (fun _=>[]) 0 ⟨Nat.zero_le _,rfl⟩ (Fg.go ?_ rfl) ?_
  · repeat' ((conv=>whnf);first|((with_reducible refine ObEqs.mk ?_ ?_);(focus rfl))|((with_reducible refine ObEq1.i ?_ ?_);(focus (first|(with_reducible rfl)|omega)))|exact True.intro)
  rintro i ⟨hi,hai⟩
  by_cases hil:i < l.length
  · have hq := nA_at hil
    have hxo:=hx _ (List.getElem_mem hil)
    have hs:=aH_succ hil
    have hno:=aH_no hil hil
    have hm:=may29 G l[i] hxo
    have hrf:=refs30 G l[i] hxo
    have hri:=rf_i64 hxo
    have hrl:=rf_len hxo
    rw [hai,Bool.true_and] at hs
    generalize l[i]=x at *
    by_cases hmz:mayV x=0
    · rw [hmz] at hm
      repeat' ((conv=>whnf);first|(with_reducible refine SeqP.go ?_)|((with_reducible refine ObD.mk ?_ ?_);(focus (first|rfl|(simp;done))))|((with_reducible refine ObN.mk ?_ ?_);(focus exact zN))|(with_reducible refine ObT.tt ?_)|(with_reducible refine ObT.ff ?_)|((with_reducible refine ObB.yes ?_ ?_);(focus (first|assumption|(with_reducible rfl)|omega)))|((with_reducible refine ObX.mk _ rfl ?_ ?_);(focus exact zX))|((with_reducible refine (?_:ObL _ _));(refine ObL.mk _ zM ?_))|((with_reducible refine (?_:ObU _ _));(refine ObU.mk _ zU ?_))|((with_reducible refine (?_:ObR _ _ _));(first|(refine ObR.mk _ (by assumption) ?_)|(refine ObR.mk _ (by with_reducible rfl) ?_)|(refine ObR.map zX (fun x hx=>?_))|(refine ObR.mk _ rfl ?_)))|((with_reducible refine ObC.f 29 ?_);(first|(with_reducible refine ObC.mk _ (hm) ?_)|(refine ObC.mk _ (hm) ?_)))|((with_reducible refine ObC.f 30 ?_);(first|(with_reducible refine ObC.mk _ (hrf) ?_)|(refine ObC.mk _ (hrf) ?_))))
      conv=>whnf
      refine LoopP.go (α:=Nat) (fun k=>k≤(rfN x).length∧((rfN x).take k).all (hR i)=true) (fun k=>(rfN x).length - k) (fun k=>[(2,some (I 0)),(1,none),(1,none),(13,some (I k)),(0,none),(0,none),(0,none),(0,none),(0,none),(0,none),(0,none),(0,none),(0,none),(0,none),(0,none)]) (fun _=>[]) 0 ⟨Nat.zero_le _,rfl⟩ (Fg.vw [] (by repeat' ((conv=>whnf);first|((with_reducible refine ObRn.mk ?_ ?_);(focus (first|rfl|(simp [rnB,rnC,rnL];done))))|((with_reducible refine ObEqs.mk ?_ ?_);(focus rfl))|exact True.intro)) (by repeat' ((conv=>whnf);first|exact True.intro)) (by simp) (by repeat' ((conv=>whnf);first|exact True.intro))) ?_
      rintro k ⟨hk,hk0⟩
      by_cases hkr:k < (rfN x).length
      · have hq2 := iA_at' hkr
        have hr2:=hri _ (List.getElem_mem hkr)
        by_cases hz1:(rfN x)[k] < 1
        · have h1 := all_no (p := hR i) hkr (hR_no1 hz1)
          obtain rfl:c=false:=by rw [hc,hno (by rw [okH,h1,Bool.and_false])]
          simp only [eo]
          repeat' ((conv=>whnf);first|(with_reducible refine SeqP.go ?_)|((with_reducible refine ObN.mk ?_ ?_);(focus exact zN))|(with_reducible refine ObT.tt ?_)|((with_reducible refine ObB.yes ?_ ?_);(focus (first|assumption|(with_reducible rfl)|omega)))|((with_reducible refine ObX.mk _ rfl ?_ ?_);(focus exact zX))|((with_reducible refine (?_:ObR _ _ _));(first|(refine ObR.mk _ (by assumption) ?_)|(refine ObR.mk _ (by with_reducible rfl) ?_)|(refine ObR.map zX (fun x hx=>?_))|(refine ObR.mk _ rfl ?_)))|((with_reducible refine ObEq.i ?_);(focus (first|(with_reducible rfl)|omega))))
        by_cases hz:(i:Int) < (rfN x)[k]
        · have h1 := all_no (p := hR i) hkr (hR_no2 hz)
          obtain rfl:c=false:=by rw [hc,hno (by rw [okH,h1,Bool.and_false])]
          simp only [eo]
          repeat' ((conv=>whnf);first|(with_reducible refine SeqP.go ?_)|((with_reducible refine ObN.mk ?_ ?_);(focus exact zN))|(with_reducible refine ObT.tt ?_)|(with_reducible refine ObT.ff ?_)|((with_reducible refine ObB.yes ?_ ?_);(focus (first|assumption|(with_reducible rfl)|omega)))|((with_reducible refine ObB.no ?_ ?_);(focus (first|assumption|omega)))|((with_reducible refine ObX.mk _ rfl ?_ ?_);(focus exact zX))|((with_reducible refine (?_:ObR _ _ _));(first|(refine ObR.mk _ (by assumption) ?_)|(refine ObR.mk _ (by with_reducible rfl) ?_)|(refine ObR.map zX (fun x hx=>?_))|(refine ObR.mk _ rfl ?_)))|((with_reducible refine ObEq.i ?_);(focus (first|(with_reducible rfl)|omega))))
        · have h1 := all_tk (p := hR i) hkr hk0 (hR_yes (by omega) (by omega))
          repeat' ((conv=>whnf);first|(with_reducible refine SeqP.go ?_)|((with_reducible refine ObN.mk ?_ ?_);(focus exact zN))|(with_reducible refine ObT.tt ?_)|(with_reducible refine ObT.ff ?_)|((with_reducible refine ObB.yes ?_ ?_);(focus (first|assumption|(with_reducible rfl)|omega)))|((with_reducible refine ObB.no ?_ ?_);(focus (first|assumption|omega)))|((with_reducible refine ObI.nl ?_ ?_);(focus omega))|((with_reducible refine ObX.mk _ rfl ?_ ?_);(focus exact zX))|((with_reducible refine (?_:ObR _ _ _));(first|(refine ObR.mk _ (by assumption) ?_)|(refine ObR.mk _ (by with_reducible rfl) ?_)|(refine ObR.map zX (fun x hx=>?_))|(refine ObR.mk _ rfl ?_))))
          conv=>whnf
          refine Again.mk (k+1) ⟨by omega,h1⟩ ?_ (Fg.go ?_ rfl)
          · omega
          repeat' ((conv=>whnf);first|((with_reducible refine ObEqs.mk ?_ ?_);(focus rfl))|((with_reducible refine ObEq1.i ?_ ?_);(focus (first|(with_reducible rfl)|omega)))|exact True.intro)
      · obtain rfl : k = (rfN x).length := by omega
        rw [List.take_length] at hk0
        have h2:okH i x=true:=by rw [okH,hk0,hmz];rfl
        repeat' ((conv=>whnf);first|(with_reducible refine SeqP.go ?_)|((with_reducible refine ObN.mk ?_ ?_);(focus exact zN))|(with_reducible refine ObT.ff ?_)|((with_reducible refine ObB.no ?_ ?_);(focus (first|assumption|omega)))|((with_reducible refine ObI.nl ?_ ?_);(focus omega)))
        conv=>whnf
        refine Again.mk (i+1) ⟨by omega,by rw [hs,h2]⟩ ?_ (Fg.go ?_ rfl)
        · omega
        repeat' ((conv=>whnf);first|((with_reducible refine ObEqs.mk ?_ ?_);(focus rfl))|((with_reducible refine ObEq1.i ?_ ?_);(focus (first|(with_reducible rfl)|omega)))|exact True.intro)
    · obtain rfl : c = false := by rw [hc, hno (by rw [okH, decide_eq_false hmz, Bool.false_and])]
      simp only [eo]
      repeat' ((conv=>whnf);first|(with_reducible refine SeqP.go ?_)|((with_reducible refine ObD.mk ?_ ?_);(focus (first|rfl|(simp;done))))|((with_reducible refine ObN.mk ?_ ?_);(focus exact zN))|(with_reducible refine ObT.tt ?_)|((with_reducible refine ObB.yes ?_ ?_);(focus (first|assumption|(with_reducible rfl)|omega)))|((with_reducible refine ObB.no ?_ ?_);(focus (first|assumption|omega)))|((with_reducible refine ObX.mk _ rfl ?_ ?_);(focus exact zX))|((with_reducible refine (?_:ObU _ _));(refine ObU.mk _ zU ?_))|((with_reducible refine (?_:ObR _ _ _));(first|(refine ObR.mk _ (by assumption) ?_)|(refine ObR.mk _ (by with_reducible rfl) ?_)|(refine ObR.map zX (fun x hx=>?_))|(refine ObR.mk _ rfl ?_)))|((with_reducible refine ObC.f 29 ?_);(first|(with_reducible refine ObC.mk _ (hm) ?_)|(refine ObC.mk _ (hm) ?_)))|((with_reducible refine ObEq.i ?_);(focus (first|(with_reducible rfl)|omega))))
  obtain rfl:i=l.length:=by omega
  obtain rfl:c=true:=by rw [hc,hai]
  simp only [eo]
  repeat' ((conv=>whnf);first|(with_reducible refine SeqP.go ?_)|((with_reducible refine ObN.mk ?_ ?_);(focus exact zN))|(with_reducible refine ObT.ff ?_)|((with_reducible refine ObB.no ?_ ?_);(focus (first|assumption|omega)))|((with_reducible refine ObEq.i ?_);(focus (first|(with_reducible rfl)|omega))))
end
def mxI (a b:Int):Int:=if a < b then b else a
def mxL (a:Int) (l:List Int):Int:=l.foldl mxI a
theorem mxL_snoc {a:Int} {l:List Int} {i:Nat} (h:i < l.length):mxL a (l.take (i+1))=mxI (mxL a (l.take i)) l[i]:=by
  rw [List.take_succ_eq_append_getElem h,mxL,List.foldl_append];rfl
def mxN (a:Int) (l:List Nd):Int:=l.foldl (fun b x=>mxL b (rfN x)) a
theorem mxN_snoc {a:Int} {l:List Nd} {i:Nat} (h:i < l.length):mxN a (l.take (i+1))=mxL (mxN a (l.take i)) (rfN l[i]):=by
  rw [List.take_succ_eq_append_getElem h,mxN,List.foldl_append];rfl
section
variable (G:Nat→AV)
set_option maxHeartbeats 4000000 in
theorem great37 (l:List Nd) (rt:Int) (od:List Int) (hl:l.length≤1000) (hx:∀ x ∈ l,x.Ok) (ho:od.length≤1000):PC Try.prog G 37 [plA l rt od] (I (mxN (mxL rt od) l)):=by
  refine pc_ofV cop37 ?_
  repeat' ((conv=>whnf);first|(with_reducible refine SeqP.go ?_)|((with_reducible refine ObD.mk ?_ ?_);(focus (first|rfl|(simp;done))))|((with_reducible refine ObN.mk ?_ ?_);(focus exact zN))|((with_reducible refine (?_:ObL _ _));(refine ObL.mk _ zM ?_))|((with_reducible refine (?_:ObR _ _ _));(first|(refine ObR.mk _ (by assumption) ?_)|(refine ObR.mk _ (by with_reducible rfl) ?_)|(refine ObR.map zX (fun x hx=>?_))|(refine ObR.mk _ rfl ?_))))
  conv=>whnf
  refine LoopP.go (α:=Nat × Int) (fun p=>p.1≤od.length∧p.2=mxL rt (od.take p.1)) (fun p=>od.length - p.1) (fun p=>[(3,some (I p.2)),(1,none),(9,some (I p.1)),(0,none),(0,none),(0,none),(0,none),(0,none),(0,none),(0,none)]) (fun _=>[⟨32,3,[plA l rt od],0,0⟩]) (0,rt) ⟨Nat.zero_le _,rfl⟩ (Fg.go ?_ rfl) ?_
  · repeat' ((conv=>whnf);first|((with_reducible refine ObEqs.mk ?_ ?_);(focus rfl))|((with_reducible refine ObEq1.i ?_ ?_);(focus (first|(with_reducible rfl)|omega)))|exact True.intro)
  rintro ⟨i,a⟩ ⟨hi,ha⟩
  dsimp only at hi ha ⊢
  by_cases hio:i < od.length
  · have hq := iA_at' hio
    have hs:=mxL_snoc (a:=rt) hio
    rw [← ha] at hs
    generalize od[i]=r at *
    have hmx:(if a < r then r else a)=mxI a r:=rfl
    repeat' ((conv=>whnf);first|(with_reducible refine SeqP.go ?_)|(with_reducible refine ObZ.mk _ hmx ?_)|((with_reducible refine ObN.mk ?_ ?_);(focus exact zN))|(with_reducible refine ObT.tt ?_)|((with_reducible refine ObB.yes ?_ ?_);(focus (first|assumption|(with_reducible rfl)|omega)))|((with_reducible refine ObI.nl ?_ ?_);(focus omega))|((with_reducible refine ObX.mk _ rfl ?_ ?_);(focus exact zX))|((with_reducible refine (?_:ObR _ _ _));(first|(refine ObR.mk _ (by assumption) ?_)|(refine ObR.mk _ (by with_reducible rfl) ?_)|(refine ObR.map zX (fun x hx=>?_))|(refine ObR.mk _ rfl ?_)))|(with_reducible refine ObE.max ?_))
    conv=>whnf
    refine Again.mk (i+1,mxI a r) ⟨by dsimp only;omega,hs.symm⟩ ?_ (Fg.go ?_ rfl)
    · dsimp only;omega
    repeat' ((conv=>whnf);first|((with_reducible refine ObEqs.mk ?_ ?_);(focus rfl))|((with_reducible refine ObEq1.i ?_ ?_);(focus (first|(with_reducible rfl)|omega)))|exact True.intro)
  obtain rfl:i=od.length:=by omega
  rw [List.take_length] at ha
  rw [← ha]
  clear ha
  repeat' ((conv=>whnf);first|(with_reducible refine SeqP.go ?_)|((with_reducible refine ObN.mk ?_ ?_);(focus exact zN))|(with_reducible refine ObT.ff ?_)|((with_reducible refine ObB.no ?_ ?_);(focus (first|assumption|omega)))|((with_reducible refine (?_:ObL _ _));(refine ObL.mk _ zM ?_))|((with_reducible refine (?_:ObR _ _ _));(first|(refine ObR.mk _ (by assumption) ?_)|(refine ObR.mk _ (by with_reducible rfl) ?_)|(refine ObR.map zX (fun x hx=>?_))|(refine ObR.mk _ rfl ?_))))
  conv=>whnf
  refine LoopP.go (α:=Nat × Int) (fun p=>p.1≤l.length∧p.2=mxN a (l.take p.1)) (fun p=>l.length - p.1) (fun p=>[(3,some (I p.2)),(3,none),(1,none),(16,some (I p.1)),(0,none),(0,none),(0,none),(0,none),(0,none),(0,none),(0,none),(0,none),(0,none),(0,none),(0,none),(0,none),(0,none),(0,none),(0,none)]) (fun _=>[⟨32,3,[plA l rt od],0,0⟩]) (0,a) ⟨Nat.zero_le _,rfl⟩ (Fg.go ?_ rfl) ?_
  · repeat' ((conv=>whnf);first|((with_reducible refine ObEqs.mk ?_ ?_);(focus rfl))|((with_reducible refine ObEq1.i ?_ ?_);(focus (first|(with_reducible rfl)|omega)))|exact True.intro)
  rintro ⟨i,b⟩ ⟨hi,hb⟩
  dsimp only at hi hb ⊢
  by_cases hil:i < l.length
  · have hq := nA_at hil
    have hxo:=hx _ (List.getElem_mem hil)
    have hs:=mxN_snoc (a:=a) hil
    have hrf:=refs30 G l[i] hxo
    have hri:=rf_i64 hxo
    have hrl:=rf_len hxo
    rw [← hb] at hs
    generalize l[i]=x at *
    repeat' ((conv=>whnf);first|(with_reducible refine SeqP.go ?_)|((with_reducible refine ObD.mk ?_ ?_);(focus (first|rfl|(simp;done))))|((with_reducible refine ObN.mk ?_ ?_);(focus exact zN))|(with_reducible refine ObT.tt ?_)|((with_reducible refine ObB.yes ?_ ?_);(focus (first|assumption|(with_reducible rfl)|omega)))|((with_reducible refine ObX.mk _ rfl ?_ ?_);(focus exact zX))|((with_reducible refine (?_:ObL _ _));(refine ObL.mk _ zM ?_))|((with_reducible refine (?_:ObU _ _));(refine ObU.mk _ zU ?_))|((with_reducible refine (?_:ObR _ _ _));(first|(refine ObR.mk _ (by assumption) ?_)|(refine ObR.mk _ (by with_reducible rfl) ?_)|(refine ObR.map zX (fun x hx=>?_))|(refine ObR.mk _ rfl ?_)))|((with_reducible refine ObC.f 30 ?_);(first|(with_reducible refine ObC.mk _ (hrf) ?_)|(refine ObC.mk _ (hrf) ?_))))
    conv=>whnf
    refine LoopP.go (α:=Nat × Int) (fun p=>p.1≤(rfN x).length∧p.2=mxL b ((rfN x).take p.1)) (fun p=>(rfN x).length - p.1) (fun p=>[(3,some (I p.2)),(3,none),(1,none),(23,some (I p.1)),(0,none),(0,none),(0,none),(0,none),(0,none),(0,none),(0,none)]) (fun _=>[⟨32,3,[plA l rt od],0,0⟩]) (0,b) ⟨Nat.zero_le _,rfl⟩ (Fg.vw [(0,0,0)] (by repeat' ((conv=>whnf);first|((with_reducible refine ObN.mk ?_ ?_);(focus exact zN))|((with_reducible refine ObRn.mk ?_ ?_);(focus (first|rfl|(simp [rnB,rnC,rnL];done))))|((with_reducible refine ObEqs.mk ?_ ?_);(focus rfl))|exact True.intro)) (by repeat' ((conv=>whnf);first|((with_reducible refine ObN.mk ?_ ?_);(focus exact zN))|((with_reducible refine ObRow.same ?_ ?_ ?_);(focus (first|rfl|assumption));(focus (first|rfl|assumption|(simp;done))))|exact True.intro)) (by simp) (by repeat' ((conv=>whnf);first|exact True.intro))) ?_
    rintro ⟨k,e⟩ ⟨hk,he⟩
    dsimp only at hk he ⊢
    by_cases hkr:k < (rfN x).length
    · have hq2 := iA_at' hkr
      have hs2:=mxL_snoc (a:=b) hkr
      rw [← he] at hs2
      generalize (rfN x)[k]=r at *
      have hmx:(if e < r then r else e)=mxI e r:=rfl
      repeat' ((conv=>whnf);first|(with_reducible refine SeqP.go ?_)|(with_reducible refine ObZ.mk _ hmx ?_)|((with_reducible refine ObN.mk ?_ ?_);(focus exact zN))|(with_reducible refine ObT.tt ?_)|((with_reducible refine ObB.yes ?_ ?_);(focus (first|assumption|(with_reducible rfl)|omega)))|((with_reducible refine ObI.nl ?_ ?_);(focus omega))|((with_reducible refine ObX.mk _ rfl ?_ ?_);(focus exact zX))|((with_reducible refine (?_:ObR _ _ _));(first|(refine ObR.mk _ (by assumption) ?_)|(refine ObR.mk _ (by with_reducible rfl) ?_)|(refine ObR.map zX (fun x hx=>?_))|(refine ObR.mk _ rfl ?_)))|(with_reducible refine ObE.max ?_))
      conv=>whnf
      refine Again.mk (k+1,mxI e r) ⟨by dsimp only;omega,hs2.symm⟩ ?_ (Fg.go ?_ rfl)
      · dsimp only;omega
      repeat' ((conv=>whnf);first|((with_reducible refine ObEqs.mk ?_ ?_);(focus rfl))|((with_reducible refine ObEq1.i ?_ ?_);(focus (first|(with_reducible rfl)|omega)))|exact True.intro)
    · obtain rfl : k = (rfN x).length := by omega
      rw [List.take_length] at he
      repeat' ((conv=>whnf);first|(with_reducible refine SeqP.go ?_)|((with_reducible refine ObN.mk ?_ ?_);(focus exact zN))|(with_reducible refine ObT.ff ?_)|((with_reducible refine ObB.no ?_ ?_);(focus (first|assumption|omega)))|((with_reducible refine ObI.nl ?_ ?_);(focus omega)))
      conv=>whnf
      refine Again.mk (i+1,e) ⟨by dsimp only;omega,by dsimp only;rw [hs,he]⟩ ?_ (Fg.go ?_ rfl)
      · dsimp only;omega
      repeat' ((conv=>whnf);first|((with_reducible refine ObEqs.mk ?_ ?_);(focus rfl))|((with_reducible refine ObEq1.i ?_ ?_);(focus (first|(with_reducible rfl)|omega)))|exact True.intro)
  obtain rfl:i=l.length:=by omega
  rw [List.take_length] at hb
  rw [← hb]
  repeat' ((conv=>whnf);first|(with_reducible refine SeqP.go ?_)|((with_reducible refine ObN.mk ?_ ?_);(focus exact zN))|(with_reducible refine ObT.ff ?_)|((with_reducible refine ObB.no ?_ ?_);(focus (first|assumption|omega)))|((with_reducible refine ObEq.i ?_);(focus (first|(with_reducible rfl)|omega))))
end
end Go.Proofs.Ytnammfeiehikfaa.Sim
namespace Go.Proofs.Ytnammfeiehikfaa.Sim
open Go.RowKit
set_option maxRecDepth 100000
def toD (n k:Nat):List Int:=(List.range k).map fun (j:Nat)=>(n:Int)+1+(j:Int)
theorem toD_len (n k:Nat):(toD n k).length=k:=by simp [toD]
theorem toD_succ (n k:Nat):toD n (k+1)=toD n k++[(n:Int)+1+(k:Int)]:=by simp [toD,List.range_succ]
def fillX (to:List Int) (x:Nd):Nd:=⟨x.kn,x.ke,x.va,x.mp,x.kk.map (gt to),gt to x.mn,x.ls,x.sz,x.bi⟩
theorem aI_get {l:List Nd} {n:Nat} (h:aI l n=true) {i:Nat} (hi:i < l.length) (hn:i < n):okI i l[i]=true:=by
  rw [aI,List.all_eq_true] at h
  have:=h i (List.mem_range.2 hn)
  simpa [List.getElem?_eq_getElem hi] using this
theorem ok_to {n i:Nat} {r:Int} (h:r=0∨-1 - r < (i:Int)):ok (toD n i) r=true:=by
  unfold ok refD
  split
  · rfl
  · rw [List.getElem?_eq_getElem (by rw [toD_len];omega)];rfl
theorem fillC_yes {n i:Nat} {x:Nd} (h:okI i x=true):fillC (toD n i) x.kk x.mn=true:=by
  simp only [okI,Bool.and_eq_true,List.all_eq_true,decide_eq_true_eq,rfN,List.mem_filter,List.mem_append,List.mem_singleton] at h
  have key:∀ r,r ∈ x.kk∨r=x.mn→ok (toD n i) r=true:=fun r hr=>by
    by_cases h0:r=0
    · exact ok_to (Or.inl h0)
    · exact ok_to (Or.inr (h.2 r ⟨hr,by simpa using h0⟩))
  simp only [fillC,Bool.and_eq_true,List.all_eq_true]
  exact ⟨fun r hr=>key r (Or.inl hr),key _ (Or.inr rfl)⟩
def fls (n:Nat) (l:List Nd):List Nd:=l.mapIdx fun j x=>fillX (toD n j) x
theorem fls_snoc {n:Nat} {l:List Nd} {i:Nat} (h:i < l.length):fls n (l.take (i+1))=fls n (l.take i)++[fillX (toD n i) l[i]]:=by
  rw [List.take_succ_eq_append_getElem h,fls,List.mapIdx_concat,List.length_take,Nat.min_eq_left (by omega)];rfl
theorem fls_len (n:Nat) (l:List Nd):(fls n l).length=l.length:=by simp [fls]
def dR (c:Bool) (o:List Nd) (r:Int):AV:=match c with|true=>.tup [.sl 9 (o.map nA),I r,I 0]|false=>.tup [.sl 9 [],I 0,I 4]
noncomputable def okD (h l:List Nd) (rt:Int) (od:List Int):Bool:=okP l rt od && aH h h.length && decide (mxN (mxL rt od) l≤(h.length:Int))
def rT (a:List Int):Hp:=match a with|[]=>[]|x::t=>[⟨23,1,(x::t).map iA,0,t.length⟩]
section
variable (G:Nat→AV)
theorem fillN16 (x:Nd) (h:x.Ok) (n i:Nat) (hi:i≤1000) (hx:okI i x=true):PC Try.prog G 16 [nA x,.sl 1 ((toD n i).map iA)] (.tup [nA (fillX (toD n i) x),I 0]) :=
  fill16 G x.kn x.ke x.va x.mp x.kk x.mn x.ls x.sz x.bi (toD n i) h.kk h.ls (by rw [toD_len];omega) h.mn h.ks true (fillC_yes hx).symm
set_option maxHeartbeats 8000000 in
theorem do22 (h l : List Nd) (rt : Int) (od : List Int) (hh : h.length ≤ 100) (hho : ∀ x ∈ h, x.Ok) (hl : l.length ≤ 100) (hlo : ∀ x ∈ l, x.Ok) (ho : od.length ≤ 100) (hr : i64 rt) (c : Bool) (hc : c = okD h l rt od) :
    PC Try.prog G 22 [.sl 9 (h.map nA),plA l rt od] (dR c (h++fls h.length l) (gt (toD h.length l.length) rt)):=by
  have c11:=may11 G l rt od (by omega) hlo hr (by omega) _ rfl
  have c36:=may36 G h (by omega) hho _ rfl
  have c37:=great37 G l rt od (by omega) hlo (by omega)
  unfold okD at hc
  generalize mxN (mxL rt od) l=g at *
  by_cases h1:okP l rt od=true
  rotate_left
  · have h1 := Bool.eq_false_iff.2 h1
    obtain rfl:c=false:=by rw [hc,h1];rfl
    rw [h1] at c11
    simp only [eo] at c11
    simp only [dR]
    refine pc_ofV dop22 ?_
    repeat' ((conv=>whnf);first|(with_reducible refine SeqP.go ?_)|((with_reducible refine ObD.mk ?_ ?_);(focus (first|rfl|(simp;done))))|((with_reducible refine ObN.mk ?_ ?_);(focus exact zN))|(with_reducible refine ObT.tt ?_)|((with_reducible refine ObB.no ?_ ?_);(focus (first|assumption|omega)))|((with_reducible refine (?_:ObR _ _ _));(first|(refine ObR.mk _ (by assumption) ?_)|(refine ObR.mk _ (by with_reducible rfl) ?_)|(refine ObR.map zX (fun x hx=>?_))|(refine ObR.mk _ rfl ?_)))|((with_reducible refine ObC.f 11 ?_);(first|(with_reducible refine ObC.mk _ (c11) ?_)|(refine ObC.mk _ (c11) ?_)))|((with_reducible refine ObEq.mk ?_);(focus (first|rfl|assumption))))
  by_cases h2:aH h h.length=true
  rotate_left
  · have h2 := Bool.eq_false_iff.2 h2
    obtain rfl:c=false:=by rw [hc,h1,h2];rfl
    rw [h1] at c11
    rw [h2] at c36
    simp only [eo] at c11 c36
    simp only [dR]
    refine pc_ofV dop22 ?_
    repeat' ((conv=>whnf);first|(with_reducible refine SeqP.go ?_)|((with_reducible refine ObD.mk ?_ ?_);(focus (first|rfl|(simp;done))))|((with_reducible refine ObN.mk ?_ ?_);(focus exact zN))|(with_reducible refine ObT.tt ?_)|(with_reducible refine ObT.ff ?_)|((with_reducible refine ObB.yes ?_ ?_);(focus (first|assumption|(with_reducible rfl)|omega)))|((with_reducible refine ObB.no ?_ ?_);(focus (first|assumption|omega)))|((with_reducible refine (?_:ObR _ _ _));(first|(refine ObR.mk _ (by assumption) ?_)|(refine ObR.mk _ (by with_reducible rfl) ?_)|(refine ObR.map zX (fun x hx=>?_))|(refine ObR.mk _ rfl ?_)))|((with_reducible refine ObC.f 11 ?_);(first|(with_reducible refine ObC.mk _ (c11) ?_)|(refine ObC.mk _ (c11) ?_)))|((with_reducible refine ObC.f 36 ?_);(first|(with_reducible refine ObC.mk _ (c36) ?_)|(refine ObC.mk _ (c36) ?_)))|((with_reducible refine ObEq.mk ?_);(focus (first|rfl|assumption))))
  have h3':=h1
  rw [h1] at c11 hc
  rw [h2] at c36 hc
  by_cases h3:g≤(h.length:Int)
  rotate_left
  · obtain rfl : c = false := by rw [hc, decide_eq_false h3]; rfl
    simp only [eo] at c11 c36
    simp only [dR]
    refine pc_ofV dop22 ?_
    repeat' ((conv=>whnf);first|(with_reducible refine SeqP.go ?_)|((with_reducible refine ObD.mk ?_ ?_);(focus (first|rfl|(simp;done))))|((with_reducible refine ObN.mk ?_ ?_);(focus exact zN))|(with_reducible refine ObT.tt ?_)|(with_reducible refine ObT.ff ?_)|((with_reducible refine ObB.yes ?_ ?_);(focus (first|assumption|(with_reducible rfl)|omega)))|((with_reducible refine (?_:ObL _ _));(refine ObL.mk _ zM ?_))|((with_reducible refine (?_:ObR _ _ _));(first|(refine ObR.mk _ (by assumption) ?_)|(refine ObR.mk _ (by with_reducible rfl) ?_)|(refine ObR.map zX (fun x hx=>?_))|(refine ObR.mk _ rfl ?_)))|((with_reducible refine ObC.f 11 ?_);(first|(with_reducible refine ObC.mk _ (c11) ?_)|(refine ObC.mk _ (c11) ?_)))|((with_reducible refine ObC.f 36 ?_);(first|(with_reducible refine ObC.mk _ (c36) ?_)|(refine ObC.mk _ (c36) ?_)))|((with_reducible refine ObC.f 37 ?_);(first|(with_reducible refine ObC.mk _ (c37) ?_)|(refine ObC.mk _ (c37) ?_)))|((with_reducible refine ObEq.mk ?_);(focus (first|rfl|assumption))))
  obtain rfl:c=true:=by rw [hc,decide_eq_true h3];rfl
  clear hc h2
  simp only [okP,Bool.and_eq_true,decide_eq_true_eq] at h3'
  obtain ⟨⟨-,hai⟩,hrt⟩:=h3'
  have hroot:=r18 G rt hr (toD h.length l.length) (by rw [toD_len];omega) true (ok_to (by omega)).symm
  simp only [eo] at c11 c36 hroot
  simp only [dR]
  have h27:=copies27 G h (by omega) hho
  have hrh:=nr_n h
  generalize hgr:gt (toD h.length l.length) rt=root at *
  refine pc_ofV dop22 ?_
  repeat' ((conv=>whnf);first|(with_reducible refine SeqP.go ?_)|((with_reducible refine ObD.mk ?_ ?_);(focus (first|rfl|(simp;done))))|((with_reducible refine ObN.mk ?_ ?_);(focus exact zN))|(with_reducible refine ObT.ff ?_)|((with_reducible refine ObB.yes ?_ ?_);(focus (first|assumption|(with_reducible rfl)|omega)))|((with_reducible refine ObB.no ?_ ?_);(focus (first|assumption|omega)))|((with_reducible refine (?_:ObL _ _));(refine ObL.mk _ zM ?_))|((with_reducible refine (?_:ObR _ _ _));(first|(refine ObR.mk _ (by assumption) ?_)|(refine ObR.mk _ (by with_reducible rfl) ?_)|(refine ObR.map zX (fun x hx=>?_))|(refine ObR.mk _ rfl ?_)))|((with_reducible refine ObC.f 11 ?_);(first|(with_reducible refine ObC.mk _ (c11) ?_)|(refine ObC.mk _ (c11) ?_)))|((with_reducible refine ObC.f 36 ?_);(first|(with_reducible refine ObC.mk _ (c36) ?_)|(refine ObC.mk _ (c36) ?_)))|((with_reducible refine ObC.f 37 ?_);(first|(with_reducible refine ObC.mk _ (c37) ?_)|(refine ObC.mk _ (c37) ?_)))|((with_reducible refine ObH.f 27 ?_);refine ObH.frn _ (by simp only [List.length_cons,List.length_nil,Nat.reduceAdd];rfl) [] (h27) (by simp) rfl (by simp) ?_)|((with_reducible refine ObAs.mk ?_ ?_);(focus (first|rfl|(simp [rnB,rnC,rnL];done))))|((with_reducible refine (?_:ObRs _ _ _));(refine ObRs.mk _ rfl ?_))|((with_reducible refine ObBk.same ?_ ?_);(focus (first|rfl|assumption|(simp;done)))))
  conv=>whnf
  refine LoopP.go (α:=Nat × List Nd × List Int) (fun p=>p.1≤l.length∧p.2.1=h++fls h.length (l.take p.1)∧p.2.2=toD h.length p.1) (fun p=>l.length - p.1) (fun p=>[(7,some (.ol 1 0 p.2.1.length)),(0,some (rS 2 p.2.2)),(1,none),(0,none),(0,none),(18,none),(3,some (I p.1)),(0,none),(0,none),(0,none),(0,none),(0,none),(0,none),(0,none),(0,none),(0,none),(0,none),(0,none),(0,none),(0,none),(0,none),(0,none),(0,none),(0,none),(0,none),(0,none)]) (fun p=>[⟨32,3,[plA l rt od],0,0⟩,⟨30,9,p.2.1.map nA,0,0⟩]++rT p.2.2) (0,h,[]) ⟨Nat.zero_le _,by simp [fls],rfl⟩ (Fg.go ?_ rfl) ?_
  · repeat' ((conv=>whnf);first|((with_reducible refine ObEqs.mk ?_ ?_);(focus rfl))|((with_reducible refine ObEq1.i ?_ ?_);(focus (first|(with_reducible rfl)|omega)))|((with_reducible refine ObEq1.mk ?_ ?_);(focus (first|rfl|assumption)))|exact True.intro)
  rintro ⟨i,o,t⟩ ⟨hi,hoo,htt⟩
  dsimp only at hi hoo htt ⊢
  have hol:o.length=h.length+i:=by rw [hoo,List.length_append,fls_len,List.length_take];omega
  have htl:t.length=i:=by rw [htt,toD_len]
  have la:=n_all (l:=o)
  have lp:=p_n o
  by_cases hil:i < l.length
  · have hq := nA_at hil
    have hf:=fillN16 G l[i] (hlo _ (List.getElem_mem hil)) h.length i (by omega) (aI_get hai hil hil)
    have hs:=fls_snoc (n:=h.length) hil
    rw [← htt] at hf hs
    have hts:=toD_succ h.length i
    generalize fillX t l[i]=y at *
    generalize l[i]=x at *
    have us:(o.map nA).take o.length++[nA y]=(o++[y]).map nA:=n_snoc (l:=o)
    have hl1:o.length+[nA y].length=(o++[y]).length:=by simp
    have hl2:((o++[y]).length:Int)=(h.length:Int)+1+(i:Int):=by rw [List.length_append,hol];simp;omega
    have r1:=nr_n (o++[y])
    obtain ⟨m,hm2⟩:∃ m,m=(o++[y]).length:=⟨_,rfl⟩
    rcases t with _|⟨t0,tt⟩
    · repeat' ((conv=>whnf);first|(with_reducible refine SeqP.go ?_)|((with_reducible refine ObD.mk ?_ ?_);(focus (first|rfl|(simp;done))))|((with_reducible refine ObN.mk ?_ ?_);(focus exact zN))|(with_reducible refine ObT.tt ?_)|((with_reducible refine ObB.yes ?_ ?_);(focus (first|assumption|(with_reducible rfl)|omega)))|((with_reducible refine ObI.nl ?_ ?_);(focus omega))|((with_reducible refine ObX.mk _ rfl ?_ ?_);(focus exact zX))|((with_reducible refine (?_:ObL _ _));(refine ObL.mk _ (by first|exact hl1|exact (List.length_map _)|assumption|exact (List.length_map _).trans (by assumption)|exact List.length_map _|rfl) ?_))|((with_reducible refine (?_:ObU _ _));(refine ObU.mk _ (by first|exact us|assumption|((conv=>lhs;simp only [List.set_cons_zero,List.set_cons_succ,List.take_succ_cons,List.take_zero,List.drop_succ_cons,List.drop_zero,List.nil_append,List.cons_append,List.append_nil,List.take_nil,List.drop_nil]);try rfl)|rfl) ?_))|((with_reducible refine (?_:ObR _ _ _));(first|(refine ObR.mk _ (by assumption) ?_)|(refine ObR.mk _ (by with_reducible rfl) ?_)|(refine ObR.map zX (fun x hx=>?_))|(refine ObR.mk _ rfl ?_)))|((with_reducible refine ObC.f 16 ?_);(first|(with_reducible refine ObC.mk _ (hf) ?_)|(refine ObC.mk _ (hf) ?_)))|((with_reducible refine ObW.cons ?_ ?_);(focus (first|assumption|(simp;done)))))
      conv=>whnf
      refine Again.mk (i+1,o++[y],[((o++[y]).length:Int)]) ⟨by dsimp only;omega,by dsimp only;rw [hs,hoo,List.append_assoc],by dsimp only;rw [hts,← htt,hl2];rfl⟩ ?_ (Fg.vw [(0,0,0),(0,1,1),(0,6,0)] ?_ ?_ (by simp) ?_)
      · dsimp only;omega
      all_goals repeat' ((conv=>whnf);first|((with_reducible refine ObRn.mk ?_ ?_);(focus (simp [rnB,rnC,rS];done)))|((with_reducible refine ObN.mk ?_ ?_);(focus exact zN))|((with_reducible refine ObRow.same ?_ ?_ ?_);(focus (first|rfl|assumption));(focus (first|rfl|assumption|(simp;done))))|((with_reducible refine ObEqs.mk ?_ ?_);(focus rfl))|exact True.intro)
    · have r2 := nr_i ((t0 :: tt) ++ [((o ++ [y]).length : Int)])
      have htl':tt.length+1=i:=htl
      have fz1:(tt++[((o++[y]).length:Int)]).length=tt.length+1:=by simp
      have fz2:(tt.append [((o++[y]).length:Int)]).length=tt.length+1:=fz1
      have us2:((t0::tt).map iA).take (tt.length+1)++[.v (.int .i64 ((o++[y]).length:Int))]=((t0::tt)++[((o++[y]).length:Int)]).map iA:=i_snoc (l:=t0::tt)
      have ta:((t0::tt).map iA).take (tt.length+1)=(t0::tt).map iA:=i_all (l:=t0::tt)
      have tp:=p_i (t0::tt)
      repeat' ((conv=>whnf);first|(with_reducible refine SeqP.go ?_)|((with_reducible refine ObD.mk ?_ ?_);(focus (first|rfl|(simp;done))))|((with_reducible refine ObN.mk ?_ ?_);(focus exact zN))|(with_reducible refine ObT.tt ?_)|((with_reducible refine ObB.yes ?_ ?_);(focus (first|assumption|(with_reducible rfl)|omega)))|((with_reducible refine ObI.nl ?_ ?_);(focus omega))|((with_reducible refine ObX.mk _ rfl ?_ ?_);(focus exact zX))|((with_reducible refine (?_:ObL _ _));(refine ObL.mk _ (by first|exact hl1|exact (List.length_map _)|assumption|exact (List.length_map _).trans (by assumption)|exact List.length_map _|rfl) ?_))|((with_reducible refine (?_:ObU _ _));(refine ObU.mk _ (by first|exact ta|exact us|exact us2|assumption|((conv=>lhs;simp only [List.set_cons_zero,List.set_cons_succ,List.take_succ_cons,List.take_zero,List.drop_succ_cons,List.drop_zero,List.nil_append,List.cons_append,List.append_nil,List.take_nil,List.drop_nil]);try rfl)|rfl) ?_))|((with_reducible refine (?_:ObR _ _ _));(first|(refine ObR.mk _ (by assumption) ?_)|(refine ObR.mk _ (by with_reducible rfl) ?_)|(refine ObR.map zX (fun x hx=>?_))|(refine ObR.mk _ rfl ?_)))|((with_reducible refine ObC.f 16 ?_);(first|(with_reducible refine ObC.mk _ (hf) ?_)|(refine ObC.mk _ (hf) ?_))))
      conv=>whnf
      refine Again.mk (i+1,o++[y],(t0::tt)++[((o++[y]).length:Int)]) ⟨by dsimp only;omega,by dsimp only;rw [hs,hoo,List.append_assoc],by dsimp only;rw [hts,← htt,hl2]⟩ ?_ (Fg.vw [(0,0,0),(0,1,1),(0,2,1)] ?_ ?_ (by simp) ?_)
      · dsimp only;omega
      all_goals repeat' ((conv=>whnf);first|((with_reducible refine ObRn.mk ?_ ?_);(focus (simp [rnB,rnC,rS];done)))|((with_reducible refine ObN.mk ?_ ?_);(focus exact zN))|((with_reducible refine ObRow.same ?_ ?_ ?_);(focus (first|rfl|assumption));(focus (first|rfl|assumption|(simp;done))))|((with_reducible refine ObEqs.mk ?_ ?_);(focus rfl))|exact True.intro)
  · obtain rfl : i = l.length := by omega
    rw [List.take_length] at hoo
    rw [← htt] at hroot
    rw [← hoo]
    rcases t with _|⟨t0,tt⟩
    · repeat' ((conv=>whnf);first|(with_reducible refine SeqP.go ?_)|((with_reducible refine ObN.mk ?_ ?_);(focus exact zN))|(with_reducible refine ObT.ff ?_)|((with_reducible refine ObB.no ?_ ?_);(focus (first|assumption|omega)))|((with_reducible refine (?_:ObU _ _));(refine ObU.mk _ (by first|exact la|assumption|((conv=>lhs;simp only [List.set_cons_zero,List.set_cons_succ,List.take_succ_cons,List.take_zero,List.drop_succ_cons,List.drop_zero,List.nil_append,List.cons_append,List.append_nil,List.take_nil,List.drop_nil]);try rfl)|rfl) ?_))|((with_reducible refine (?_:ObR _ _ _));(first|(refine ObR.mk _ (by assumption) ?_)|(refine ObR.mk _ (by with_reducible rfl) ?_)|(refine ObR.map zX (fun x hx=>?_))|(refine ObR.mk _ rfl ?_)))|((with_reducible refine ObC.f 18 ?_);(first|(with_reducible refine ObC.mk _ (hroot) ?_)|(refine ObC.mk _ (hroot) ?_)))|((with_reducible refine ObEq.mk ?_);(focus (first|rfl|assumption))))
    · have ta : ((t0 :: tt).map iA).take (tt.length + 1) = (t0 :: tt).map iA := i_all (l := t0 :: tt)
      have tp:=p_i (t0::tt)
      have htl':tt.length+1=l.length:=htl
      repeat' ((conv=>whnf);first|(with_reducible refine SeqP.go ?_)|((with_reducible refine ObN.mk ?_ ?_);(focus exact zN))|(with_reducible refine ObT.ff ?_)|((with_reducible refine ObB.no ?_ ?_);(focus (first|assumption|omega)))|((with_reducible refine (?_:ObU _ _));(refine ObU.mk _ (by first|exact ta|exact la|assumption|((conv=>lhs;simp only [List.set_cons_zero,List.set_cons_succ,List.take_succ_cons,List.take_zero,List.drop_succ_cons,List.drop_zero,List.nil_append,List.cons_append,List.append_nil,List.take_nil,List.drop_nil]);try rfl)|rfl) ?_))|((with_reducible refine (?_:ObR _ _ _));(first|(refine ObR.mk _ (by assumption) ?_)|(refine ObR.mk _ (by with_reducible rfl) ?_)|(refine ObR.map zX (fun x hx=>?_))|(refine ObR.mk _ rfl ?_)))|((with_reducible refine ObC.f 18 ?_);(first|(with_reducible refine ObC.mk _ (hroot) ?_)|(refine ObC.mk _ (hroot) ?_)))|((with_reducible refine ObEq.mk ?_);(focus (first|rfl|assumption))))
end
end Go.Proofs.Ytnammfeiehikfaa.Sim
