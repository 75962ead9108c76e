/- Texts of this claim, part 5. -/
import Derived.Laws.BitsAllLaws
import Derived.Lib.BitFns
import Derived.Lib.Tables
import Derived.Lib.TrailingZeros
import Derived.Test.YtghbpplcgjeohaaMHeapCounts4
set_option linter.unusedVariables false
set_option linter.unusedSimpArgs false
namespace Go.Proofs.Ytghbpplcgjeohaa.Mk
def upTo (m n:Nat):List Nat:=(List.range n).filter fun k=>m.testBit k
def all (m:Nat):List Nat:=upTo m 32
theorem upTo_succ (m n:Nat):upTo m (n+1)=upTo m n++if m.testBit n then [n] else []:=by
  unfold upTo
  rw [List.range_succ,List.filter_append]
  cases h:m.testBit n<;>simp [h]
theorem mem_upTo {m n k:Nat}:k ∈ upTo m n↔k < n∧m.testBit k=true:=by
  unfold upTo;simp
theorem mem_all {m k:Nat}:k ∈ all m↔k < 32∧m.testBit k=true:=mem_upTo
theorem upTo_len (m n:Nat):(upTo m n).length≤n:=by
  unfold upTo
  have:=List.length_filter_le (fun k=>m.testBit k) (List.range n)
  simpa using this
theorem bit_div (m k:Nat):m.testBit k=decide (m / 2 ^ k % 2=1):=Nat.testBit_eq_decide_div_mod_eq
def place (m:Nat) (i:Int):Nat:=(all m).countP fun k:Nat=>decide ((k:Int) < i)
def mk (l:List Int):Nat→Nat
  | 0=>0
  | n+1=>mk l n+if (n:Int) ∈ l then 2 ^ n else 0
theorem mk_lt (l:List Int) (n:Nat):mk l n < 2 ^ n:=by
  induction n with
  | zero=>simp [mk]
  | succ n ih=>unfold mk;rw [Nat.pow_succ];split<;>omega
theorem two_pow_add (n x:Nat) (h:x < 2 ^ n):2 ^ n+x=2 ^ n ||| x:=by
  have:=Nat.two_pow_add_eq_or_of_lt h 1
  simpa using this
theorem mk_bit (l:List Int) (n j:Nat):(mk l n).testBit j=(decide (j < n) && decide ((j:Int) ∈ l)):=by
  induction n with
  | zero=>simp [mk]
  | succ n ih =>
    unfold mk
    by_cases h:(n:Int) ∈ l
    · rw [if_pos h, Nat.add_comm, two_pow_add _ _ (mk_lt l n), Nat.testBit_or, ih, Nat.testBit_two_pow]
      by_cases e:n=j
      · subst e;simp [h]
      · by_cases g : j < n
        · have : j < n + 1 := by omega
          simp [g,this,e]
        · have : ¬ j < n + 1 := by omega
          simp [g,this,e]
    · rw [if_neg h, Nat.add_zero, ih]
      by_cases e:n=j
      · subst e;simp [h]
      · by_cases g : j < n
        · have : j < n + 1 := by omega
          simp [g,this]
        · have : ¬ j < n + 1 := by omega
          simp [g,this]
def ints (l:List Nat):List Int:=l.map Int.ofNat
theorem mem_ints {l:List Nat} {k:Nat}:((k:Int) ∈ ints l)↔k ∈ l:=by
  unfold ints
  rw [List.mem_map]
  constructor
  · rintro ⟨a, ha, e⟩
    have:a=k:=Int.ofNat.inj e
    exact this ▸ ha
  · exact fun h=>⟨k,h,rfl⟩
theorem big (m:Nat) (hm:m < 4294967296) (j:Nat) (hj:¬ j < 32):m.testBit j=false :=
  Nat.testBit_lt_two_pow (Nat.lt_of_lt_of_le hm (Nat.pow_le_pow_right (n:=2) (by omega) (show 32≤j by omega)))
theorem mk_all (m:Nat) (hm:m < 4294967296):mk (ints (all m)) 32=m:=by
  refine Nat.eq_of_testBit_eq fun j=>?_
  rw [mk_bit]
  by_cases hj:j < 32
  · cases h : m.testBit j
    · have : ¬ (j : Int) ∈ ints (all m) := by rw [mem_ints, mem_all, h]; simp
      simp [hj,this]
    · have : (j : Int) ∈ ints (all m) := by rw [mem_ints, mem_all, h]; exact ⟨hj, rfl⟩
      simp [hj,this]
  · rw [big m hm j hj];simp [hj]
def next (m:Nat) (i:Int):Option Nat:=(all m).find? fun k:Nat=>decide (i < (k:Int))
def pc (b:Nat):Nat:=((List.range 8).filter fun k=>b.testBit k).length
theorem pc_at (m s:Nat):((List.range 8).filter fun k=>m.testBit (s+k)).length=pc (m / 2 ^ s % 256):=by
  unfold pc
  congr 1
  refine List.filter_congr fun k hk=>?_
  have hk:k < 8:=by simpa using hk
  rw [show (256:Nat)=2 ^ 8 from rfl,Nat.testBit_mod_two_pow,Nat.testBit_div_two_pow]
  simp [hk,Nat.add_comm]
theorem range32:List.range 32=List.range 8++((List.range 8).map (8 + ·)++((List.range 8).map (16 + ·)++(List.range 8).map (24 + ·))):=by decide
theorem pop_all (m:Nat):(all m).length=pc (m / 16777216 % 256)+pc (m / 65536 % 256)+pc (m / 256 % 256)+pc (m % 256):=by
  have h0:=pc_at m 0
  have h1:=pc_at m 8
  have h2:=pc_at m 16
  have h3:=pc_at m 24
  unfold all upTo
  rw [range32]
  simp only [List.filter_append,List.length_append,List.filter_map,List.length_map]
  have g0:((List.range 8).filter fun k=>m.testBit k).length=pc (m % 256):=by simpa using h0
  have g1:((List.range 8).filter ((fun k=>m.testBit k) ∘ fun x=>8+x)).length=pc (m / 256 % 256):=h1
  have g2:((List.range 8).filter ((fun k=>m.testBit k) ∘ fun x=>16+x)).length=pc (m / 65536 % 256):=h2
  have g3:((List.range 8).filter ((fun k=>m.testBit k) ∘ fun x=>24+x)).length=pc (m / 16777216 % 256):=h3
  rw [g0,g1,g2,g3]
  omega
theorem pc_le (b:Nat):pc b≤8:=upTo_len b 8
end Go.Proofs.Ytghbpplcgjeohaa.Mk
namespace Go.Proofs.Ytghbpplcgjeohaa.Sim
open Go.RowKit
set_option maxRecDepth 100000
theorem tk_any {l:List Pr} {i:Nat} (h:i < l.length):(l.take (i+1)).any lg=((l.take i).any lg || lg l[i]):=by
  rw [List.take_succ_eq_append_getElem h,List.any_append];simp
theorem long32 (G:Nat→AV) (kn:Int) (ke va:ByteArray) (mp:Int) (kk:List Int) (mn:Int) (ls:List Pr) (sz bi:Int) (hl:ls.length≤9223372036854775807):PC Try.prog G 41 [nV kn ke va mp kk mn ls sz bi] (Bo (lg (ke,va) || ls.any lg)):=by
  refine pc_ofV cop41 ?_
  repeat' ((conv=>whnf);first|(with_reducible refine SeqP.go ?_)|((with_reducible refine ObD.mk ?_ ?_);(focus (first|rfl|(simp;done))))|((with_reducible refine ObN.mk ?_ ?_);(focus exact zN))|(with_reducible refine ObT.tt ?_)|(with_reducible refine ObT.ff ?_)|(with_reducible refine ObB.mk (fun h=>?_) (fun h=>?_))|((with_reducible refine (?_:ObL _ _));(refine ObL.mk _ zL ?_))|((with_reducible refine (?_:ObR _ _ _));(first|(refine ObR.mk _ (by assumption) ?_)|(refine ObR.mk _ (by with_reducible rfl) ?_)|(refine ObR.map zX (fun x hx=>?_))|(refine ObR.mk _ rfl ?_))))
  all_goals
    conv=>whnf
    refine LoopP.go (α:=Nat × Bool) (fun p=>p.1≤ls.length∧p.2=(lg (ke,va) || (ls.take p.1).any lg)) (fun p=>ls.length - p.1) (fun p=>[(3,some (Bo p.2)),(0,some (I p.1)),(10,none),(0,none),(0,none),(0,none),(0,none),(0,none),(0,none),(0,none),(0,none),(0,none),(0,none),(0,none),(0,none),(0,none),(0,none),(0,none),(0,none),(0,none),(0,none),(0,none),(0,none),(0,none),(0,none),(0,none),(0,none),(0,none),(0,none),(0,none)]) (fun _=>[⟨47,9,[nV kn ke va mp kk mn ls sz bi],0,0⟩]) (0,lg (ke,va)) ⟨Nat.zero_le _,by simp⟩ (Fg.go ?_ rfl) ?_
    · repeat' ((conv=>whnf);first|((with_reducible refine ObEqs.mk ?_ ?_);(focus rfl))|((with_reducible refine ObEq1.i ?_ ?_);(focus (first|(with_reducible rfl)|omega)))|((with_reducible refine ObEq1.mk ?_ ?_);(focus (first|rfl|assumption|exact (by simp [lg];omega))))|exact True.intro)
    rintro ⟨i,b⟩ ⟨h1,h2⟩
    dsimp only at h1 h2 ⊢
    have hlt:i < ls.length∨i=ls.length:=by omega
    rcases hlt with hlt|rfl
    · have hq : (ls.map pA)[i]? = some (.agg [S ls[i].1, S ls[i].2]) := pA_at hlt
      cases b with
      | true =>
        repeat' ((conv=>whnf);first|(with_reducible refine SeqP.go ?_)|((with_reducible refine ObN.mk ?_ ?_);(focus exact zN))|(with_reducible refine ObT.tt ?_)|((with_reducible refine ObB.yes ?_ ?_);(focus (first|assumption|(with_reducible rfl)|omega)))|((with_reducible refine ObI.nl ?_ ?_);(focus omega))|((with_reducible refine (?_:ObL _ _));(refine ObL.mk _ zL ?_))|((with_reducible refine (?_:ObR _ _ _));(first|(refine ObR.mk _ (by assumption) ?_)|(refine ObR.mk _ (by with_reducible rfl) ?_)|(refine ObR.map zX (fun x hx=>?_))|(refine ObR.mk _ rfl ?_))))
        conv=>whnf
        refine Again.mk (i+1,true) ?_ ?_ (Fg.go ?_ rfl)
        · exact ⟨hlt,by rw [tk_any hlt,← Bool.or_assoc,← h2];simp⟩
        · dsimp only;omega
        repeat' ((conv=>whnf);first|((with_reducible refine ObEqs.mk ?_ ?_);(focus rfl))|((with_reducible refine ObEq1.i ?_ ?_);(focus (first|(with_reducible rfl)|omega)))|((with_reducible refine ObEq1.mk ?_ ?_);(focus (first|rfl|assumption)))|exact True.intro)
      | false =>
        repeat' ((conv=>whnf);first|(with_reducible refine SeqP.go ?_)|((with_reducible refine ObN.mk ?_ ?_);(focus exact zN))|(with_reducible refine ObT.tt ?_)|(with_reducible refine ObT.ff ?_)|((with_reducible refine ObB.yes ?_ ?_);(focus (first|assumption|(with_reducible rfl)|omega)))|(with_reducible refine ObB.mk (fun h=>?_) (fun h=>?_))|((with_reducible refine ObI.nl ?_ ?_);(focus omega))|((with_reducible refine ObX.mk _ rfl ?_ ?_);(focus exact zX))|((with_reducible refine (?_:ObL _ _));(refine ObL.mk _ zL ?_))|((with_reducible refine (?_:ObR _ _ _));(first|(refine ObR.mk _ (by assumption) ?_)|(refine ObR.mk _ (by with_reducible rfl) ?_)|(refine ObR.map zX (fun x hx=>?_))|(refine ObR.mk _ rfl ?_))))
        all_goals
          conv=>whnf
          refine Again.mk (i+1,lg ls[i]) ?_ ?_ (Fg.go ?_ rfl)
          · exact ⟨hlt,by dsimp only;rw [tk_any hlt,← Bool.or_assoc,← h2];simp⟩
          · dsimp only;omega
          repeat' ((conv=>whnf);first|((with_reducible refine ObEqs.mk ?_ ?_);(focus rfl))|((with_reducible refine ObEq1.i ?_ ?_);(focus (first|(with_reducible rfl)|omega)))|((with_reducible refine ObEq1.mk ?_ ?_);(focus (first|rfl|assumption|exact (by simp [lg];omega))))|exact True.intro)
    · rw [List.take_length] at h2
      subst h2
      repeat' ((conv=>whnf);first|(with_reducible refine SeqP.go ?_)|((with_reducible refine ObN.mk ?_ ?_);(focus exact zN))|(with_reducible refine ObT.ff ?_)|((with_reducible refine ObB.no ?_ ?_);(focus (first|assumption|omega)))|((with_reducible refine (?_:ObL _ _));(refine ObL.mk _ zL ?_))|((with_reducible refine (?_:ObR _ _ _));(first|(refine ObR.mk _ (by assumption) ?_)|(refine ObR.mk _ (by with_reducible rfl) ?_)|(refine ObR.map zX (fun x hx=>?_))|(refine ObR.mk _ rfl ?_)))|((with_reducible refine ObEq.mk ?_);(focus (first|rfl|assumption))))
theorem has54 (G:Nat→AV) (l:List Int) (hl:l.length≤9223372036854775807) (v:Int):PC Try.prog G 47 [.sl 1 (l.map iA),I v] (Bo (decide (v ∈ l))):=by
  rcases first_or (n:=l.length) (fun k=>decide (l[k]? = some v)) with h|⟨i0,h1,h2,h3⟩
  · have hx : PC Try.prog G 54 [.sl 1 (l.map iA), I v] (I (-1)) := by
      refine pc_ofV cop54 ?_
      repeat' ((conv=>whnf);first|(with_reducible refine SeqP.go ?_)|((with_reducible refine (?_:ObL _ _));(refine ObL.mk _ zL ?_)))
      conv=>whnf
      refine LoopP.go (α:=Nat) (fun i=>i≤l.length) (fun i=>l.length - i) (fun i=>[(4,none),(0,none),(2,some (I i)),(0,none),(0,none),(0,none),(0,none),(0,none),(0,none),(0,none),(0,none),(0,none),(0,none)]) (fun _=>[]) 0 (Nat.zero_le _) (Fg.go ?_ rfl) ?_
      · repeat' ((conv=>whnf);first|((with_reducible refine ObEqs.mk ?_ ?_);(focus rfl))|((with_reducible refine ObEq1.i ?_ ?_);(focus (first|(with_reducible rfl)|omega)))|exact True.intro)
      intro i hi
      have hlt:i < l.length∨i=l.length:=by omega
      rcases hlt with hlt|rfl
      · have hq : (l.map iA)[i]? = some (I l[i]) := iA_at hlt
        have hf:¬ v=l[i]:=fun e=>by have:=h i hlt;simp [List.getElem?_eq_getElem hlt,e] at this
        repeat' ((conv=>whnf);first|(with_reducible refine SeqP.go ?_)|((with_reducible refine ObN.mk ?_ ?_);(focus exact zN))|(with_reducible refine ObT.tt ?_)|(with_reducible refine ObT.ff ?_)|((with_reducible refine ObB.yes ?_ ?_);(focus (first|assumption|(with_reducible rfl)|omega)))|((with_reducible refine ObB.no ?_ ?_);(focus (first|assumption|omega)))|((with_reducible refine ObI.nl ?_ ?_);(focus omega))|((with_reducible refine ObX.mk _ rfl ?_ ?_);(focus exact zX))|((with_reducible refine (?_:ObR _ _ _));(first|(refine ObR.mk _ (by assumption) ?_)|(refine ObR.mk _ (by with_reducible rfl) ?_)|(refine ObR.map zX (fun x hx=>?_))|(refine ObR.mk _ rfl ?_))))
        conv=>whnf
        refine Again.mk (i+1) ?_ ?_ (Fg.go ?_ rfl)
        · omega
        · omega
        repeat' ((conv=>whnf);first|((with_reducible refine ObEqs.mk ?_ ?_);(focus rfl))|((with_reducible refine ObEq1.i ?_ ?_);(focus (first|(with_reducible rfl)|omega)))|exact True.intro)
      repeat' ((conv=>whnf);first|(with_reducible refine SeqP.go ?_)|((with_reducible refine ObN.mk ?_ ?_);(focus exact zN))|(with_reducible refine ObT.ff ?_)|((with_reducible refine ObB.no ?_ ?_);(focus (first|assumption|omega)))|((with_reducible refine ObEq.i ?_);(focus (first|(with_reducible rfl)|omega))))
    have ha:¬ v ∈ l:=fun hm=>by
      obtain ⟨k,hk,e⟩:=List.getElem_of_mem hm
      have:=h k hk
      simp [List.getElem?_eq_getElem hk,e] at this
    rw [decide_eq_false ha]
    refine pc_ofV cop47 ?_
    repeat' ((conv=>whnf);first|(with_reducible refine SeqP.go ?_)|((with_reducible refine ObN.mk ?_ ?_);(focus exact zN))|((with_reducible refine ObB.no ?_ ?_);(focus (first|assumption|omega)))|((with_reducible refine ObC.f 54 ?_);(first|(with_reducible refine ObC.mk _ (hx) ?_)|(refine ObC.mk _ (hx) ?_)))|((with_reducible refine ObEq.mk ?_);(focus (first|rfl|assumption))))
  · have hx : PC Try.prog G 54 [.sl 1 (l.map iA), I v] (I i0) := by
      refine pc_ofV cop54 ?_
      repeat' ((conv=>whnf);first|(with_reducible refine SeqP.go ?_)|((with_reducible refine (?_:ObL _ _));(refine ObL.mk _ zL ?_)))
      conv=>whnf
      refine LoopP.go (α:=Nat) (fun i=>i≤i0) (fun i=>l.length - i) (fun i=>[(4,none),(0,none),(2,some (I i)),(0,none),(0,none),(0,none),(0,none),(0,none),(0,none),(0,none),(0,none),(0,none),(0,none)]) (fun _=>[]) 0 (Nat.zero_le _) (Fg.go ?_ rfl) ?_
      · repeat' ((conv=>whnf);first|((with_reducible refine ObEqs.mk ?_ ?_);(focus rfl))|((with_reducible refine ObEq1.i ?_ ?_);(focus (first|(with_reducible rfl)|omega)))|exact True.intro)
      intro i hi
      have hlt:i < l.length:=by omega
      have hq:(l.map iA)[i]? = some (I l[i]):=iA_at hlt
      by_cases he:i=i0
      · subst he
        have hf:v=l[i]:=by have:=of_decide_eq_true h2;rw [List.getElem?_eq_getElem hlt] at this;exact (Option.some.inj this).symm
        repeat' ((conv=>whnf);first|(with_reducible refine SeqP.go ?_)|((with_reducible refine ObN.mk ?_ ?_);(focus exact zN))|(with_reducible refine ObT.tt ?_)|((with_reducible refine ObB.yes ?_ ?_);(focus (first|assumption|(with_reducible rfl)|omega)))|((with_reducible refine ObX.mk _ rfl ?_ ?_);(focus exact zX))|((with_reducible refine (?_:ObR _ _ _));(first|(refine ObR.mk _ (by assumption) ?_)|(refine ObR.mk _ (by with_reducible rfl) ?_)|(refine ObR.map zX (fun x hx=>?_))|(refine ObR.mk _ rfl ?_)))|((with_reducible refine ObEq.i ?_);(focus (first|(with_reducible rfl)|omega))))
      · have hf:¬ v=l[i]:=fun e=>by have:=h3 i (by omega);simp [List.getElem?_eq_getElem hlt,e] at this
        repeat' ((conv=>whnf);first|(with_reducible refine SeqP.go ?_)|((with_reducible refine ObN.mk ?_ ?_);(focus exact zN))|(with_reducible refine ObT.tt ?_)|(with_reducible refine ObT.ff ?_)|((with_reducible refine ObB.yes ?_ ?_);(focus (first|assumption|(with_reducible rfl)|omega)))|((with_reducible refine ObB.no ?_ ?_);(focus (first|assumption|omega)))|((with_reducible refine ObI.nl ?_ ?_);(focus omega))|((with_reducible refine ObX.mk _ rfl ?_ ?_);(focus exact zX))|((with_reducible refine (?_:ObR _ _ _));(first|(refine ObR.mk _ (by assumption) ?_)|(refine ObR.mk _ (by with_reducible rfl) ?_)|(refine ObR.map zX (fun x hx=>?_))|(refine ObR.mk _ rfl ?_))))
        conv=>whnf
        refine Again.mk (i+1) ?_ ?_ (Fg.go ?_ rfl)
        · omega
        · omega
        repeat' ((conv=>whnf);first|((with_reducible refine ObEqs.mk ?_ ?_);(focus rfl))|((with_reducible refine ObEq1.i ?_ ?_);(focus (first|(with_reducible rfl)|omega)))|exact True.intro)
    have ha:v ∈ l:=by
      have:=of_decide_eq_true h2
      exact List.mem_of_getElem? this
    rw [decide_eq_true ha]
    refine pc_ofV cop47 ?_
    repeat' ((conv=>whnf);first|(with_reducible refine SeqP.go ?_)|((with_reducible refine ObN.mk ?_ ?_);(focus exact zN))|((with_reducible refine ObB.yes ?_ ?_);(focus (first|assumption|(with_reducible rfl)|omega)))|((with_reducible refine ObC.f 54 ?_);(first|(with_reducible refine ObC.mk _ (hx) ?_)|(refine ObC.mk _ (hx) ?_)))|((with_reducible refine ObEq.mk ?_);(focus (first|rfl|assumption))))
end Go.Proofs.Ytghbpplcgjeohaa.Sim
namespace Go.Proofs.Ytghbpplcgjeohaa.Sim
open Go.RowKit
set_option maxRecDepth 100000
abbrev tb8:ByteArray:=ByteArray.mk #[0,1,1,2,1,2,2,3,1,2,2,3,2,3,3,4,1,2,2,3,2,3,3,4,2,3,3,4,3,4,4,5,1,2,2,3,2,3,3,4,2,3,3,4,3,4,4,5,2,3,3,4,3,4,4,5,3,4,4,5,4,5,5,6,1,2,2,3,2,3,3,4,2,3,3,4,3,4,4,5,2,3,3,4,3,4,4,5,3,4,4,5,4,5,5,6,2,3,3,4,3,4,4,5,3,4,4,5,4,5,5,6,3,4,4,5,4,5,5,6,4,5,5,6,5,6,6,7,1,2,2,3,2,3,3,4,2,3,3,4,3,4,4,5,2,3,3,4,3,4,4,5,3,4,4,5,4,5,5,6,2,3,3,4,3,4,4,5,3,4,4,5,4,5,5,6,3,4,4,5,4,5,5,6,4,5,5,6,5,6,6,7,2,3,3,4,3,4,4,5,3,4,4,5,4,5,5,6,3,4,4,5,4,5,5,6,4,5,5,6,5,6,6,7,3,4,4,5,4,5,5,6,4,5,5,6,5,6,6,7,4,5,5,6,5,6,6,7,5,6,6,7,6,7,7,8]
theorem tb8_pc:∀ k:Fin 256,(tb8[k.1]'(show k.1 < 256 from k.2)).toNat=Mk.pc k.1:=by decide +kernel
theorem tb8_at (k:Nat) (h:k < tb8.size):((tb8[k]'h).toNat:Int)=(Mk.pc k:Nat):=by
  have:=tb8_pc ⟨k,h⟩
  simp only at this
  rw [this]
theorem obq8 {k:Int→Prop} {m:Nat} (h:m < 256) (hk:k ((Mk.pc m:Nat):Int)):ObQ tb8 (m:Int) k:=⟨m,rfl,h,by rw [tb8_at];exact hk⟩
section
variable {P:Program} {H:Hp} {k:KK} {t:TypeId} {xo yo:Operand} {n:Nat}
theorem eS24 (hk:k (.v (.int .u32 ((n / 16777216:Nat):Int))) H):ObE ((binA P H .shr t false xo yo (.v (.int .u32 (n:Int))) (.v (.int .u64 24))).map (·,H)) k:=by
  have e:binV P .shr t xo yo (.int .u32 (n:Int)) (.int .u64 24)=some (.int .u32 ((n / 16777216:Nat):Int)):=by
    show some (Value.int .u32 ((n:Int).fdiv (2 ^ 24)))=_
    rw [Int.fdiv_eq_ediv_of_nonneg _ (by decide)];rfl
  exact ⟨_,_,by simp only [binA,conc,e,Bool.false_eq_true,if_false];rfl,hk⟩
theorem eS16 (hk:k (.v (.int .u32 ((n / 65536:Nat):Int))) H):ObE ((binA P H .shr t false xo yo (.v (.int .u32 (n:Int))) (.v (.int .u64 16))).map (·,H)) k:=by
  have e:binV P .shr t xo yo (.int .u32 (n:Int)) (.int .u64 16)=some (.int .u32 ((n / 65536:Nat):Int)):=by
    show some (Value.int .u32 ((n:Int).fdiv (2 ^ 16)))=_
    rw [Int.fdiv_eq_ediv_of_nonneg _ (by decide)];rfl
  exact ⟨_,_,by simp only [binA,conc,e,Bool.false_eq_true,if_false];rfl,hk⟩
theorem eS8 (hk:k (.v (.int .u32 ((n / 256:Nat):Int))) H):ObE ((binA P H .shr t false xo yo (.v (.int .u32 (n:Int))) (.v (.int .u64 8))).map (·,H)) k:=by
  have e:binV P .shr t xo yo (.int .u32 (n:Int)) (.int .u64 8)=some (.int .u32 ((n / 256:Nat):Int)):=by
    show some (Value.int .u32 ((n:Int).fdiv (2 ^ 8)))=_
    rw [Int.fdiv_eq_ediv_of_nonneg _ (by decide)];rfl
  exact ⟨_,_,by simp only [binA,conc,e,Bool.false_eq_true,if_false];rfl,hk⟩
theorem eAnd (hn:n < 4294967296) (hk:k (.v (.int .u32 ((n % 256:Nat):Int))) H):ObE ((binA P H .and t false xo yo (.v (.int .u32 (n:Int))) (.v (.int .u32 255))).map (·,H)) k:=by
  have e:binV P .and t xo yo (.int .u32 (n:Int)) (.int .u32 255)=some (.int .u32 ((n % 256:Nat):Int)):=by
    show some (Value.int .u32 (bits .and .u32 (n:Int) 255))=_
    rw [show (255:Int)=((255:Nat):Int) from rfl,u32_and_nat _ _ (by omega) (by omega),show (255:Nat)=2 ^ 8 - 1 from rfl,Nat.and_two_pow_sub_one_eq_mod]
  exact ⟨_,_,by simp only [binA,conc,e,Bool.false_eq_true,if_false];rfl,hk⟩
theorem eRem2 (hk:k (.v (.int .u32 ((n % 2:Nat):Int))) H):ObE ((binA P H .rem t false xo yo (.v (.int .u32 (n:Int))) (.v (.int .u32 2))).map (·,H)) k:=by
  have e:binV P .rem t xo yo (.int .u32 (n:Int)) (.int .u32 2)=some (.int .u32 ((n % 2:Nat):Int)):=by
    show pureRun P (do eqGuard .rem t xo yo (.int .u32 (n:Int)) (.int .u32 2);Op.intDiv .rem .u32 (n:Int) 2)=_
    unfold Op.intDiv
    rw [if_neg (by decide)]
    show some (Value.int .u32 ((n:Int).tmod 2))=_
    rw [Int.tmod_eq_emod_of_nonneg (by omega)];rfl
  exact ⟨_,_,by simp only [binA,conc,e,Bool.false_eq_true,if_false];rfl,hk⟩
theorem eQuo2 (hn:n < 4294967296) (hk:k (.v (.int .u32 ((n / 2:Nat):Int))) H):ObE ((binA P H .quo t false xo yo (.v (.int .u32 (n:Int))) (.v (.int .u32 2))).map (·,H)) k:=by
  have e:binV P .quo t xo yo (.int .u32 (n:Int)) (.int .u32 2)=some (.int .u32 ((n / 2:Nat):Int)):=by
    show pureRun P (do eqGuard .quo t xo yo (.int .u32 (n:Int)) (.int .u32 2);Op.intDiv .quo .u32 (n:Int) 2)=_
    unfold Op.intDiv
    rw [if_neg (by decide)]
    show some (Value.int .u32 (IntKind.u32.wrap ((n:Int).tdiv 2)))=_
    rw [Int.tdiv_eq_ediv_of_nonneg (by omega)]
    have:IntKind.u32.wrap ((n:Int) / 2)=((n / 2:Nat):Int):=by rw [IntKind.wrap_u32];omega
    rw [this]
  exact ⟨_,_,by simp only [binA,conc,e,Bool.false_eq_true,if_false];rfl,hk⟩
end
theorem pop53 (G:Nat→AV) (m:Nat) (hm:m < 4294967296):PC Try.prog G 53 [.v (.int .u32 (m:Int))] (I ((Mk.all m).length:Nat)):=by
  have hp:=Mk.pop_all m
  have l0:=Mk.pc_le (m / 16777216 % 256)
  have l1:=Mk.pc_le (m / 65536 % 256)
  have l2:=Mk.pc_le (m / 256 % 256)
  have l3:=Mk.pc_le (m % 256)
  have hd:m / 16777216=m / 16777216 % 256:=by omega
  rw [← hd] at hp l0
  have hs:tb8.size=256:=rfl
  have u5:(Try.prog).underlying 5=some (.int .u8):=by kernel_rfl
  have u3:(Try.prog).underlying 3=some (.int .i64):=by kernel_rfl
  refine pc_ofV cop53 ?_
  repeat' ((conv=>whnf);first|(with_reducible refine SeqP.go ?_)|(with_reducible refine eS24 ?_)|(with_reducible refine eS16 ?_)|(with_reducible refine eS8 ?_)|((with_reducible refine eAnd ?_ ?_);(focus omega))|((with_reducible refine (?_:ObE _ _));(refine ObE.cv u5 u3 ?_))|((with_reducible refine (?_:ObQ _ _ _));(refine obq8 ?_ ?_);(focus omega))|((with_reducible refine ObD.mk ?_ ?_);(focus (first|rfl|(simp;done))))|((with_reducible refine ObN.mk ?_ ?_);(focus (first|exact u_str|rfl|assumption|omega|(simp only [List.length_map,List.length_append,List.length_cons,List.length_nil];omega)|(simp;done)|(simp;omega))))|(with_reducible refine ObZ.mk _ rfl ?_)|((with_reducible refine ObEq.mk ?_);(focus (first|rfl|assumption|exact (by rw [hp];congr 2;simp only [IntKind.wrap_u8,IntKind.wrap_i64];omega)))))
end Go.Proofs.Ytghbpplcgjeohaa.Sim
namespace Go.Proofs.Ytghbpplcgjeohaa.Sim
open Go.RowKit
set_option maxRecDepth 100000
def sh (m k:Nat):Nat:=m / 2 ^ k
theorem sh_zero (m:Nat):m=sh m 0:=by simp [sh]
theorem sh_succ (m k:Nat):sh m k / 2=sh m (k+1):=by unfold sh;rw [Nat.div_div_eq_div_mul,Nat.pow_succ]
theorem sh_le (m k:Nat):sh m k≤m:=Nat.div_le_self _ _
theorem sh_bit (m k:Nat):m.testBit k=decide (sh m k % 2=1):=Mk.bit_div m k
theorem has55 (G:Nat→AV) (m i:Nat) (hm:m < 4294967296) (hi:i < 32):PC Try.prog G 59 [.v (.int .u32 (m:Int)),I i] (Bo (m.testBit i)):=by
  refine pc_ofV cop59 ?_
  repeat' ((conv=>whnf);first|(with_reducible refine SeqP.go ?_))
  conv=>whnf
  refine LoopP.go (α:=Nat) (fun k=>k≤32∧(i < k→m.testBit i=false)) (fun k=>32 - k) (fun k=>[(0,some (.v (.int .u32 ((sh m k:Nat):Int)))),(3,none),(0,some (I k)),(0,none),(0,none),(0,none),(0,none),(0,none),(0,none),(0,none),(0,none),(0,none),(0,none),(0,none),(0,none),(0,none),(0,none)]) (fun _=>[]) 0 ⟨by omega,fun h=>by omega⟩ (Fg.go ?_ rfl) ?_
  · have := sh_zero m
    repeat' ((conv=>whnf);first|((with_reducible refine ObEqs.mk ?_ ?_);(focus rfl))|((with_reducible refine ObEq1.i ?_ ?_);(focus (first|(with_reducible rfl)|omega)))|exact True.intro)
  rintro k ⟨h1,h2⟩
  have hs:=sh_succ m k
  have hle:=sh_le m k
  have hb:=sh_bit m i
  by_cases hk:k < 32
  · by_cases hi2 : k = i
    · subst hi2
      by_cases hbit:sh m k % 2=1
      · have hr : m.testBit k = true := by rw [hb]; simp [hbit]
        rw [hr]
        repeat' ((conv=>whnf);first|(with_reducible refine SeqP.go ?_)|(with_reducible refine eRem2 ?_)|((with_reducible refine ObN.mk ?_ ?_);(focus exact zN))|(with_reducible refine ObT.tt ?_)|((with_reducible refine ObB.yes ?_ ?_);(focus (first|assumption|(with_reducible rfl)|omega)))|((with_reducible refine ObEq.mk ?_);(focus (first|rfl|assumption))))
      · have hr : m.testBit k = false := by rw [hb]; simp [hbit]
        rw [hr]
        repeat' ((conv=>whnf);first|(with_reducible refine SeqP.go ?_)|(with_reducible refine eRem2 ?_)|((with_reducible refine eQuo2 ?_ ?_);(focus omega))|((with_reducible refine ObN.mk ?_ ?_);(focus exact zN))|(with_reducible refine ObT.tt ?_)|(with_reducible refine ObT.ff ?_)|((with_reducible refine ObB.yes ?_ ?_);(focus (first|assumption|(with_reducible rfl)|omega)))|((with_reducible refine ObB.no ?_ ?_);(focus (first|assumption|omega)))|((with_reducible refine ObI.nl ?_ ?_);(focus omega)))
        conv=>whnf
        refine Again.mk (k+1) ?_ ?_ (Fg.go ?_ rfl)
        · exact ⟨by omega,fun _=>by first|rfl|exact hr⟩
        · omega
        repeat' ((conv=>whnf);first|((with_reducible refine ObEqs.mk ?_ ?_);(focus rfl))|((with_reducible refine ObEq1.i ?_ ?_);(focus (first|(with_reducible rfl)|omega)))|exact True.intro)
    · repeat' ((conv=>whnf);first|(with_reducible refine SeqP.go ?_)|(with_reducible refine eRem2 ?_)|((with_reducible refine eQuo2 ?_ ?_);(focus omega))|((with_reducible refine ObN.mk ?_ ?_);(focus exact zN))|(with_reducible refine ObT.tt ?_)|(with_reducible refine ObT.ff ?_)|((with_reducible refine ObB.yes ?_ ?_);(focus (first|assumption|(with_reducible rfl)|omega)))|((with_reducible refine ObB.no ?_ ?_);(focus (first|assumption|omega)))|(with_reducible refine ObB.mk (fun h=>?_) (fun h=>?_))|((with_reducible refine ObI.nl ?_ ?_);(focus omega)))
      all_goals
        conv=>whnf
        refine Again.mk (k+1) ?_ ?_ (Fg.go ?_ rfl)
        · exact ⟨by omega,fun _=>h2 (by omega)⟩
        · omega
        repeat' ((conv=>whnf);first|((with_reducible refine ObEqs.mk ?_ ?_);(focus rfl))|((with_reducible refine ObEq1.i ?_ ?_);(focus (first|(with_reducible rfl)|omega)))|exact True.intro)
  · have hr := h2 (by omega)
    rw [hr]
    repeat' ((conv=>whnf);first|(with_reducible refine SeqP.go ?_)|((with_reducible refine ObN.mk ?_ ?_);(focus exact zN))|(with_reducible refine ObT.ff ?_)|((with_reducible refine ObB.no ?_ ?_);(focus (first|assumption|omega)))|((with_reducible refine ObEq.mk ?_);(focus (first|rfl|assumption))))
theorem snoc_iA {l:List Int} {x:Int}:(l.map iA).take l.length++[.v (.int .i64 x)]=(l++[x]).map iA:=by
  rw [List.take_of_length_le (by simp)];simp [iA]
theorem nr_iA (l:List Int):(l.map iA).all nrB=true:=by simp [iA,nrB,AV.cells]
def upI (m i:Nat):List Int:=(Mk.upTo m i).map Int.ofNat
theorem upI_len (m i:Nat):(upI m i).length≤i:=by simp [upI,Mk.upTo_len]
theorem all46 (G:Nat→AV) (m:Nat) (hm:m < 4294967296):PC Try.prog G 51 [.v (.int .u32 (m:Int))] (.sl 1 ((upI m 32).map iA)):=by
  refine pc_ofV cop51 ?_
  repeat' ((conv=>whnf);first|(with_reducible refine SeqP.go ?_)|((with_reducible refine ObD.mk ?_ ?_);(focus (first|rfl|(simp;done)))))
  conv=>whnf
  refine LoopP.go (α:=Nat × List Int) (fun p=>p.1≤32∧p.2=upI m p.1) (fun p=>32 - p.1) (fun p=>[(3,some (.ol 0 0 p.2.length)),(0,some (I p.1)),(0,none),(0,none),(0,none),(0,none),(0,none),(0,none),(0,none),(0,none),(0,none),(0,none),(0,none),(0,none)]) (fun p=>[⟨3,1,p.2.map iA,0,0⟩]) (0,[]) ⟨by decide,rfl⟩ (Fg.go ?_ rfl) ?_
  · repeat' ((conv=>whnf);first|((with_reducible refine ObEqs.mk ?_ ?_);(focus rfl))|((with_reducible refine ObEq1.i ?_ ?_);(focus (first|(with_reducible rfl)|omega)))|((with_reducible refine ObEq1.mk ?_ ?_);(focus (first|rfl|assumption)))|exact True.intro)
  rintro ⟨i,l⟩ ⟨h1,h2⟩
  dsimp only at h1 h2 ⊢
  have hl:=upI_len m i
  rw [← h2] at hl
  by_cases hi:i < 32
  · have hc := has55 G m i hm hi
    have hs:upI m (i+1)=if m.testBit i then l++[(i:Int)] else l:=by
      rw [h2];unfold upI;rw [Mk.upTo_succ];split<;>simp
    cases hb:m.testBit i with
    | false =>
      rw [hb] at hc hs
      repeat' ((conv=>whnf);first|(with_reducible refine SeqP.go ?_)|((with_reducible refine ObN.mk ?_ ?_);(focus exact zN))|(with_reducible refine ObT.tt ?_)|(with_reducible refine ObT.ff ?_)|((with_reducible refine ObB.yes ?_ ?_);(focus (first|assumption|(with_reducible rfl)|omega)))|((with_reducible refine ObI.nl ?_ ?_);(focus omega))|((with_reducible refine ObC.f 59 ?_);(first|(with_reducible refine ObC.mk _ (hc) ?_)|(refine ObC.mk _ (hc) ?_))))
      conv=>whnf
      refine Again.mk (i+1,l) ?_ ?_ (Fg.go ?_ rfl)
      · exact ⟨by dsimp only;omega,by simpa using hs.symm⟩
      · dsimp only;omega
      repeat' ((conv=>whnf);first|((with_reducible refine ObEqs.mk ?_ ?_);(focus rfl))|((with_reducible refine ObEq1.i ?_ ?_);(focus (first|(with_reducible rfl)|omega)))|((with_reducible refine ObEq1.o ?_ ?_);(focus (first|(with_reducible rfl)|omega)))|exact True.intro)
    | true =>
      rw [hb] at hc hs
      have hn:=nr_iA (l++[(i:Int)])
      repeat' ((conv=>whnf);first|(with_reducible refine SeqP.go ?_)|((with_reducible refine ObD.mk ?_ ?_);(focus (first|rfl|(simp;done))))|((with_reducible refine ObN.mk ?_ ?_);(focus exact zN))|(with_reducible refine ObT.tt ?_)|((with_reducible refine ObB.yes ?_ ?_);(focus (first|assumption|(with_reducible rfl)|omega)))|((with_reducible refine ObI.nl ?_ ?_);(focus omega))|((with_reducible refine (?_:ObL _ _));(refine ObL.mk _ zL ?_))|((with_reducible refine (?_:ObU _ _));(refine ObU.mk _ (by first|exact snoc_iA|assumption|((conv=>lhs;simp only [List.set_cons_zero,List.set_cons_succ,List.take_succ_cons,List.take_zero,List.drop_succ_cons,List.drop_zero,List.nil_append,List.cons_append,List.append_nil,List.take_nil,List.drop_nil]);try rfl)|rfl) ?_))|((with_reducible refine ObC.f 59 ?_);(first|(with_reducible refine ObC.mk _ (hc) ?_)|(refine ObC.mk _ (hc) ?_))))
      conv=>whnf
      refine Again.mk (i+1,l++[(i:Int)]) ?_ ?_ (Fg.vw [(0,0,1)] ?_ ?_ (by decide) ?_)
      · exact ⟨by dsimp only;omega,by simpa using hs.symm⟩
      · dsimp only;omega
      · repeat' ((conv=>whnf);first|((with_reducible refine ObRn.mk ?_ ?_);(focus (first|rfl|(simp [rnB,rnC,rnL];done))))|((with_reducible refine ObEqs.mk ?_ ?_);(focus rfl))|exact True.intro)
      · repeat' ((conv=>whnf);first|((with_reducible refine ObN.mk ?_ ?_);(focus exact zN))|((with_reducible refine ObRow.same ?_ ?_ ?_);(focus (first|rfl|assumption));(focus (first|rfl|assumption|(simp;done))))|exact True.intro)
      · trivial
  · obtain rfl : i = 32 := by omega
    rw [← h2]
    repeat' ((conv=>whnf);first|(with_reducible refine SeqP.go ?_)|((with_reducible refine ObN.mk ?_ ?_);(focus (first|exact (by first|exact all_iA _|(rw [take_iA];exact all_iA _))|rfl|assumption|omega|(simp only [List.length_map,List.length_append,List.length_cons,List.length_nil];omega)|(simp;done)|(simp;omega))))|(with_reducible refine ObT.ff ?_)|((with_reducible refine ObB.no ?_ ?_);(focus (first|assumption|omega)))|((with_reducible refine (?_:ObU _ _));(refine ObU.mk _ (by first|exact take_iA|assumption|((conv=>lhs;simp only [List.set_cons_zero,List.set_cons_succ,List.take_succ_cons,List.take_zero,List.drop_succ_cons,List.drop_zero,List.nil_append,List.cons_append,List.append_nil,List.take_nil,List.drop_nil]);try rfl)|rfl) ?_))|((with_reducible refine ObEq.mk ?_);(focus (first|rfl|assumption))))
end Go.Proofs.Ytghbpplcgjeohaa.Sim
namespace Go.Proofs.Ytghbpplcgjeohaa.Sim.Pr7
open Go.RowKit
abbrev Pr:=ByteArray × ByteArray
def cB (a b:ByteArray):Int:=Ord.cmp a.data.toList b.data.toList
theorem ba_ext {a b:ByteArray} (h:a.data.toList=b.data.toList):a=b:=by
  cases a;cases b
  simp only [ByteArray.mk.injEq]
  exact Array.ext' h
theorem cB_self (a:ByteArray):cB a a=0:=Ord.cmp_self _
theorem cB_zero {a b:ByteArray}:cB a b=0↔a=b:=⟨fun e=>ba_ext ((Ord.cmp_zero _ _).1 e),fun e=>by subst e;exact cB_self a⟩
theorem cB_ne {a b:ByteArray} (h:¬ a=b):¬ cB a b=0:=fun e=>h (cB_zero.1 e)
theorem cB_anti (a b:ByteArray):cB b a = - cB a b:=Ord.cmp_anti _ _
theorem cB_le {a b c:ByteArray} (h1:cB a b≤0) (h2:cB b c≤0):cB a c≤0:=(Ord.cmp_trans _ _ _ h1 h2).1
theorem cB_lt1 {a b c:ByteArray} (h1:cB a b < 0) (h2:cB b c≤0):cB a c < 0:=(Ord.cmp_trans _ _ _ (by unfold cB at h1;omega) h2).2 (.inl h1)
theorem cB_lt2 {a b c:ByteArray} (h1:cB a b≤0) (h2:cB b c < 0):cB a c < 0:=(Ord.cmp_trans _ _ _ h1 (by unfold cB at h2;omega)).2 (.inr h2)
theorem cB_eq {a b:ByteArray} (h1:cB a b≤0) (h2:cB b a≤0):a=b:=cB_zero.1 (by rw [cB_anti a b] at h2;omega)
theorem cB_cases (a b:ByteArray):cB a b = -1∨cB a b=0∨cB a b=1:=Ord.cmp_cases _ _
def SLe (l:List Pr):Prop:=l.Pairwise fun p q=>cB p.1 q.1≤0
def SLt (l:List Pr):Prop:=l.Pairwise fun p q=>cB p.1 q.1 < 0
theorem SLt.le {l:List Pr} (h:SLt l):SLe l:=List.Pairwise.imp (fun h=>by omega) h
def fk (k:ByteArray) (l:List Pr):List Pr:=l.filter fun p=>decide (p.1=k)
theorem fk_nil {k:ByteArray}:fk k []=[]:=rfl
theorem fk_cons {k:ByteArray} {p:Pr} {l:List Pr}:fk k (p::l)=if p.1=k then p::fk k l else fk k l:=by
  unfold fk;rw [List.filter_cons];simp
theorem fk_append {k:ByteArray} {l m:List Pr}:fk k (l++m)=fk k l++fk k m:=List.filter_append ..
theorem mem_fk {k:ByteArray} {p:Pr} {l:List Pr}:p ∈ fk k l↔p ∈ l∧p.1=k:=by unfold fk;rw [List.mem_filter];simp
theorem fk_none {k:ByteArray} {l:List Pr}:fk k l=[]↔∀ p ∈ l,p.1 ≠ k:=by
  unfold fk;rw [List.filter_eq_nil_iff];simp
theorem srt_uniq:∀ {l l':List Pr},SLe l→SLe l'→(∀ k,fk k l=fk k l')→l=l'
  | [],[],_,_,_=>rfl
  | [],q::l',_,_,h=>by have:=h q.1;rw [fk_nil,fk_cons,if_pos rfl] at this;cases this
  | p::l,[],_,_,h=>by have:=h p.1;rw [fk_nil,fk_cons,if_pos rfl] at this;cases this
  | p::l,q::l',h1,h2,h=>by
    have hp:p ∈ q::l':=(mem_fk.1 (by rw [← h p.1,fk_cons,if_pos rfl];simp)).1
    have hq:q ∈ p::l:=(mem_fk.1 (by rw [h q.1,fk_cons,if_pos rfl];simp)).1
    have k1:cB q.1 p.1≤0:=by
      rcases List.mem_cons.1 hp with rfl|hp
      · rw [cB_self];omega
      · exact (List.pairwise_cons.1 h2).1 p hp
    have k2:cB p.1 q.1≤0:=by
      rcases List.mem_cons.1 hq with rfl|hq
      · rw [cB_self];omega
      · exact (List.pairwise_cons.1 h1).1 q hq
    have hk:p.1=q.1:=cB_eq k2 k1
    have e:p=q:=by
      have:=h p.1
      rw [fk_cons,fk_cons,if_pos rfl,if_pos hk.symm] at this
      exact (List.cons.inj this).1
    subst e
    rw [srt_uniq (List.pairwise_cons.1 h1).2 (List.pairwise_cons.1 h2).2 fun k=>?_]
    have:=h k
    rw [fk_cons,fk_cons] at this
    split at this
    · exact (List.cons.inj this).2
    · exact this
def ins (p:Pr):List Pr→List Pr
  | []=>[p]
  | q::l=>if cB p.1 q.1≤0 then p::q::l else q::ins p l
theorem ins_mem {p x:Pr}:∀ {l:List Pr},x ∈ ins p l→x=p∨x ∈ l
  | [],h=>by simp [ins] at h;exact .inl h
  | q::l,h=>by
    unfold ins at h
    split at h
    · rcases List.mem_cons.1 h with h | h
      · exact .inl h
      · exact .inr h
    · rcases List.mem_cons.1 h with h | h
      · exact .inr (by simp [h])
      · rcases ins_mem h with h | h
        · exact .inl h
        · exact .inr (by simp [h])
theorem ins_fk {p:Pr} {k:ByteArray}:∀ {l:List Pr},fk k (ins p l)=fk k (p::l)
  | []=>rfl
  | q::l=>by
    unfold ins
    split
    · rfl
    · rename_i h
      rw [fk_cons,ins_fk,fk_cons,fk_cons,fk_cons]
      by_cases h1:q.1=k<;>by_cases h2:p.1=k
      · exfalso;apply h;rw [h1,h2,cB_self];omega
      all_goals simp [h1,h2]
theorem ins_le {p:Pr}:∀ {l:List Pr},SLe l→SLe (ins p l)
  | [],_=>by simp [ins,SLe]
  | q::l,h=>by
    obtain ⟨h1,h2⟩:=List.pairwise_cons.1 h
    unfold ins
    split
    · rename_i hpq
      refine List.pairwise_cons.2 ⟨fun x hx=>?_,h⟩
      rcases List.mem_cons.1 hx with rfl|hx
      · exact hpq
      · exact cB_le hpq (h1 x hx)
    · rename_i hpq
      refine List.pairwise_cons.2 ⟨fun x hx=>?_,ins_le h2⟩
      rcases ins_mem hx with rfl|hx
      · rw [cB_anti x.1 q.1];omega
      · exact h1 x hx
def ssort:List Pr→List Pr
  | []=>[]
  | p::l=>ins p (ssort l)
theorem ssort_le:∀ (l:List Pr),SLe (ssort l)
  | []=>List.Pairwise.nil
  | p::l=>ins_le (ssort_le l)
theorem ssort_fk {k:ByteArray}:∀ (l:List Pr),fk k (ssort l)=fk k l
  | []=>rfl
  | p::l=>by rw [ssort,ins_fk,fk_cons,fk_cons,ssort_fk l]
def val (l:List Pr) (k:ByteArray):Option ByteArray:=(fk k l).getLast?.map (·.2)
theorem val_append {l m:List Pr} {k:ByteArray}:val (l++m) k=(val m k).or (val l k):=by
  unfold val
  rw [fk_append,List.getLast?_append]
  cases (fk k m).getLast?<;>rfl
theorem val_one {p:Pr} {k:ByteArray}:val [p] k=if p.1=k then some p.2 else none:=by
  unfold val;rw [fk_cons,fk_nil];split<;>rfl
theorem val_cons {p:Pr} {l:List Pr} {k:ByteArray}:val (p::l) k=(val l k).or (if p.1=k then some p.2 else none):=by
  rw [← val_one];exact val_append (l:=[p])
theorem val_none {l:List Pr} {k:ByteArray}:val l k=none↔fk k l=[]:=by
  unfold val;simp
theorem fk_lt {l:List Pr} (h:SLt l) (k:ByteArray):fk k l=match val l k with|some v=>[(k,v)]|none=>[]:=by
  have hp:(fk k l).Pairwise fun p q=>cB p.1 q.1 < 0:=List.Pairwise.filter _ h
  unfold val
  cases hf:fk k l with
  | nil=>rfl
  | cons p t =>
    have h1:p.1=k:=(mem_fk.1 (by rw [hf];simp:p ∈ fk k l)).2
    cases t with
    | nil=>simp [← h1]
    | cons q t =>
      exfalso
      have h2:q.1=k:=(mem_fk.1 (by rw [hf];simp:q ∈ fk k l)).2
      rw [hf] at hp
      have:=(List.pairwise_cons.1 hp).1 q (by simp)
      rw [h1,h2,cB_self] at this
      omega
theorem lt_uniq {l l':List Pr} (h1:SLt l) (h2:SLt l') (h:∀ k,val l k=val l' k):l=l' :=
  srt_uniq h1.le h2.le fun k=>by rw [fk_lt h1,fk_lt h2,h]
def lasts:List Pr→List Pr
  | []=>[]
  | p::l=>if fk p.1 l=[] then p::lasts l else lasts l
theorem lasts_sub:∀ (l:List Pr),(lasts l).Sublist l
  | []=>List.Sublist.slnil
  | p::l=>by
    unfold lasts
    split
    · exact (lasts_sub l).cons_cons p
    · exact (lasts_sub l).cons p
theorem lasts_val {k:ByteArray}:∀ (l:List Pr),val (lasts l) k=val l k
  | []=>rfl
  | p::l=>by
    unfold lasts
    split
    · rw [val_cons,val_cons,lasts_val l]
    · rename_i h
      rw [lasts_val l,val_cons]
      by_cases hk:p.1=k
      · rw [hk] at h
        cases hv:val l k with
        | none=>exact absurd (val_none.1 hv) h
        | some v=>rfl
      · rw [if_neg hk];cases val l k<;>rfl
theorem lasts_ne:∀ (l:List Pr),(lasts l).Pairwise fun p q=>p.1 ≠ q.1
  | []=>List.Pairwise.nil
  | p::l=>by
    unfold lasts
    split
    · rename_i h
      exact List.pairwise_cons.2 ⟨fun q hq e=>fk_none.1 h q ((lasts_sub l).subset hq) e.symm,lasts_ne l⟩
    · exact lasts_ne l
theorem le_ne {l:List Pr} (h1:SLe l) (h2:l.Pairwise fun p q=>p.1 ≠ q.1):SLt l:=by
  refine (List.Pairwise.and h1 h2).imp fun {p q} h=>?_
  have:=cB_ne h.2
  omega
theorem ssort_ne:∀ {l:List Pr},l.Pairwise (fun p q=>p.1 ≠ q.1)→SLt (ssort l):=fun {l} h=>by
  refine le_ne (ssort_le l) ?_
  induction l with
  | nil=>exact List.Pairwise.nil
  | cons p l ih =>
    obtain ⟨h1,h2⟩:=List.pairwise_cons.1 h
    have hm:∀ x ∈ ssort l,x ∈ l:=fun x hx=>by
      have:x ∈ fk x.1 (ssort l):=mem_fk.2 ⟨hx,rfl⟩
      rw [ssort_fk] at this
      exact (mem_fk.1 this).1
    have key:∀ m:List Pr,(∀ x ∈ m,p.1 ≠ x.1)→m.Pairwise (fun p q=>p.1 ≠ q.1)→(ins p m).Pairwise fun p q=>p.1 ≠ q.1:=by
      intro m
      induction m with
      | nil=>intro _ _;simp [ins]
      | cons q m ihm =>
        intro g1 g2
        unfold ins
        split
        · exact List.pairwise_cons.2 ⟨g1,g2⟩
        · refine List.pairwise_cons.2 ⟨fun x hx=>?_,ihm (fun x hx=>g1 x (by simp [hx])) (List.pairwise_cons.1 g2).2⟩
          rcases ins_mem hx with rfl|hx
          · exact fun e=>g1 q (by simp) e.symm
          · exact (List.pairwise_cons.1 g2).1 x hx
    exact key _ (fun x hx=>h1 x (hm x hx)) (ih h2)
def mk (l:List Pr):List Pr:=ssort (lasts l)
theorem mk_lt (l:List Pr):SLt (mk l):=ssort_ne (lasts_ne l)
theorem mk_val (l:List Pr) (k:ByteArray):val (mk l) k=val l k:=by
  rw [← lasts_val l];unfold val mk;rw [ssort_fk]
theorem eq_mk {m l:List Pr} (h:SLt m) (hv:∀ k,val m k=val l k):m=mk l:=lt_uniq h (mk_lt l) fun k=>by rw [hv,mk_val]
theorem mk_of {l:List Pr} (h:SLt l):mk l=l:=(eq_mk h fun _=>rfl).symm
theorem mk_len (l:List Pr):(mk l).length≤l.length:=by
  have key:∀ m:List Pr,(ssort m).length=m.length:=by
    intro m
    induction m with
    | nil=>rfl
    | cons p m ih =>
      have:∀ n:List Pr,(ins p n).length=n.length+1:=by
        intro n
        induction n with
        | nil=>rfl
        | cons q n ihn=>unfold ins;split<;>simp [ihn]
      rw [ssort,this,ih];rfl
  unfold mk;rw [key];exact (lasts_sub l).length_le
theorem filter_split {f:Pr→Bool}:∀ {m:List Pr},m.Pairwise (fun p q=>f q=true→f p=true)→m=m.filter f++m.filter (fun p=>!f p)
  | [],_=>rfl
  | p::m,h=>by
    obtain ⟨h1,h2⟩:=List.pairwise_cons.1 h
    by_cases hp:f p=true
    · rw [List.filter_cons, if_pos hp, List.filter_cons, if_neg (by simp [hp])]
      rw [List.cons_append,← filter_split h2]
    · have e1:m.filter f=[]:=List.filter_eq_nil_iff.2 fun q hq hf=>hp (h1 q hq hf)
      have e2:m.filter (fun p=>!f p)=m:=List.filter_eq_self.2 fun q hq=>by
        cases hf:f q with
        | false=>rfl
        | true=>exact absurd (h1 q hq hf) hp
      rw [List.filter_cons,if_neg hp,List.filter_cons,if_pos (by simp [hp]),e1,e2];rfl
theorem val_filter {f:ByteArray→Bool} {m:List Pr} {k:ByteArray}:fk k (m.filter fun p=>f p.1)=if f k=true then fk k m else []:=by
  unfold fk
  rw [List.filter_filter]
  by_cases h:f k=true
  · rw [if_pos h]
    apply List.filter_congr
    intro p _
    by_cases hp:p.1=k
    · simp [hp,h]
    · simp [hp]
  · rw [if_neg h, List.filter_eq_nil_iff]
    intro p _
    by_cases hp:p.1=k
    · simp [hp,h]
    · simp [hp]
def lo (m:List Pr) (k:ByteArray):List Pr:=m.filter fun p=>decide (cB p.1 k < 0)
def le (m:List Pr) (k:ByteArray):List Pr:=m.filter fun p=>decide (cB p.1 k≤0)
def hi (m:List Pr) (k:ByteArray):List Pr:=m.filter fun p=>decide (cB k p.1 < 0)
def pt (m:List Pr) (k v:ByteArray):List Pr:=lo m k++(k,v)::hi m k
theorem fk_lo {m:List Pr} {k x:ByteArray}:fk x (lo m k)=if cB x k < 0 then fk x m else []:=by
  have:=val_filter (f:=fun y=>decide (cB y k < 0)) (m:=m) (k:=x)
  simpa [lo] using this
theorem lo_split {m:List Pr} (h:SLe m) (k:ByteArray):m=lo m k++m.filter (fun p=>!decide (cB p.1 k < 0)):=by
  refine filter_split (f:=fun p=>decide (cB p.1 k < 0)) (h.imp fun {p q} hpq hq=>?_)
  simp only [decide_eq_true_eq] at hq ⊢
  exact cB_lt2 hpq hq
theorem le_split {m:List Pr} (h:SLe m) (k:ByteArray):m=le m k++hi m k:=by
  have e:hi m k=m.filter (fun p=>!decide (cB p.1 k≤0)):=by
    apply List.filter_congr
    intro p _
    rw [cB_anti p.1 k]
    by_cases hp:cB p.1 k≤0
    · simp [hp]
    · simp [hp];omega
  rw [e]
  refine filter_split (f:=fun p=>decide (cB p.1 k≤0)) (h.imp fun {p q} hpq hq=>?_)
  simp only [decide_eq_true_eq] at hq ⊢
  exact cB_le hpq hq
end Go.Proofs.Ytghbpplcgjeohaa.Sim.Pr7
namespace Go.Proofs.Ytghbpplcgjeohaa.Sim.Pr7
open Go.RowKit
set_option maxRecDepth 100000
def pA (p:Pr):AV:=.agg [S p.1,S p.2]
theorem pA_at {l:List Pr} {k:Nat} (h:k < l.length):(l.map pA)[k]? = some (.agg [S l[k].1,S l[k].2]):=by simp [h,pA]
theorem all_pA (l:List Pr):(l.map pA).all AV.isP=true:=by simp [pA,AV.isP,AV.isC,AV.isC0]
def cutB (s:ByteArray) (m:Nat):ByteArray:=s.extract 0 (min s.size m)
set_option maxHeartbeats 4000000 in
theorem cutP (G:Nat→AV) (s:ByteArray) (m:Nat) (hs:s.size≤9223372036854775807):PC Try.prog G 34 [S s,I m] (S (cutB s m)):=by
  have e:(if (m:Int) < (s.size:Int) then (m:Int) else (s.size:Int))=((min s.size m:Nat):Int):=by split<;>omega
  have e2:pureRun Try.prog (Instr.sliceAt 9 (.string s) none (some (.int .i64 ((min s.size m:Nat):Int))) none)=some (.string (cutB s m)):=by
    rw [cutV u_str (by omega) (by omega)];rfl
  refine pc_of cop34 ?_
  show W _ _ _ _ ⟨_,_⟩;simp only [A34,List.cons_append,List.nil_append,List.length_cons,List.length_nil,Nat.reduceAdd,Nat.reduceSub,List.replicate]
  repeat (first|with_reducible refine w_seq ?_|with_reducible refine w_reg ?_|with_reducible refine ws_nil ?_|with_reducible refine q_then ?_|with_reducible refine w_ret ?_|((first|with_reducible refine ks fun K hK=>?_|with_reducible refine kd fun K hK=>?_|with_reducible refine kc fun K hK2 hK hK3=>?_);simp (disch:=omega) only [bg0,bg1,bg2,bg3,bg4,stepO,rsAs,eff,AX.ev,St.put,binA,conc,ap1,ofVal,Int.reduceTMod,Int.reduceTDiv,reduceCtorEq,fillA,AV.cells,AV.fine,AV.one,Nat.reduceAdd,Nat.reduceSub,Nat.reduceMul,Nat.reduceLT,Nat.reduceLeDiff,Int.reduceLT,Int.reduceLE,Int.reduceAdd,Int.reduceSub,Int.reduceNeg,Int.reduceMul,Int.reduceEq,Int.reduceToNat,nilA,moveA,live,loadA,rdA,storeA,wrA,intA,elemA,lenA,appA,srcA,isPtr,isNilPtr,partA,resOf,sliceA,cut,id,ap2,reduceIte,concs,chkB,geB,AOp.cls,AOp.xs,ltB,ltC,Nat.reduceBEq,Option.toList,List.cons_append,decide_eq_true,decide_eq_false,if_pos,if_neg,List.length_map,pA_at,List.cons_append,bVb,bVn,eq_self,Bool.and_self,BEq.rfl,not_true_eq_false,e,e2];(first|((with_reducible refine hK _ ?_);clear hK K)|((with_reducible refine hK ?_);clear hK hK3 K hK2)|((with_reducible refine hK3 ?_);clear hK hK3 K hK2)))|((first|with_reducible refine ret_h fun K hK=>?_|with_reducible refine ret_hh rfl fun K hK=>?_|with_reducible refine ret_pp fun K hK=>?_);simp (disch:=omega) only [bg0,bg1,bg2,bg3,bg4,stepO,rsAs,eff,AX.ev,St.put,binA,conc,ap1,ofVal,Int.reduceTMod,Int.reduceTDiv,reduceCtorEq,fillA,AV.cells,AV.fine,AV.one,Nat.reduceAdd,Nat.reduceSub,Nat.reduceMul,Nat.reduceLT,Nat.reduceLeDiff,Int.reduceLT,Int.reduceLE,Int.reduceAdd,Int.reduceSub,Int.reduceNeg,Int.reduceMul,Int.reduceEq,Int.reduceToNat,nilA,moveA,live,loadA,rdA,storeA,wrA,intA,elemA,lenA,appA,srcA,isPtr,isNilPtr,partA,resOf,sliceA,cut,id,ap2,reduceIte,concs,chkB,geB,AOp.cls,AOp.xs,ltB,ltC,Nat.reduceBEq,Option.toList,List.cons_append,decide_eq_true,decide_eq_false,if_pos,if_neg,List.length_map,pA_at,List.cons_append,bVb,bVn,eq_self,Bool.and_self,BEq.rfl,not_true_eq_false,e,e2];(first|((with_reducible refine hK _ ?_ ?_ ?_ ?_);rotate_left 2;rfl;rfl)|((with_reducible refine hK _ ?_);rfl))))
def few (l:List Pr):List Pr:=(l.take 40).map fun p=>(cutB p.1 40,cutB p.2 40)
theorem few_take {l:List Pr} {k:Nat} (h:k < l.length) (h2:k < 40):((few l).take k).map pA++[.agg [S (cutB l[k].1 40),S (cutB l[k].2 40)]]=((few l).take (k+1)).map pA:=by
  have h3:k < (few l).length:=by simp [few];omega
  rw [List.take_add_one,List.getElem?_eq_getElem h3]
  simp [few,pA]
theorem few_len (l:List Pr):(few l).length=min 40 l.length:=by simp [few]
theorem takeP {l:List Pr} {k:Nat}:((l.take k).map pA).take k=(l.take k).map pA:=by
  apply List.take_of_length_le;simp;omega
set_option maxHeartbeats 4000000 in
theorem few07 (G:Nat→AV) (l:List Pr) (hl:l.length≤9223372036854775807) (hs:∀ p ∈ l,p.1.size≤9223372036854775807∧p.2.size≤9223372036854775807):PC Try.prog G 35 [.sl 2 (l.map pA)] (.sl 2 ((few l).map pA)):=by
  obtain ⟨N,hN⟩:∃ N,N=(few l).length:=⟨_,rfl⟩
  have hN2:=few_len l
  refine pc_of cop35 ?_
  show W _ _ _ _ ⟨_,_⟩;simp only [A35,List.cons_append,List.nil_append,List.length_cons,List.length_nil,Nat.reduceAdd,Nat.reduceSub,List.replicate]
  repeat (first|with_reducible refine w_seq ?_|with_reducible refine w_reg ?_|with_reducible refine w_block ?_|with_reducible refine ws_nil ?_|with_reducible refine q_then ?_|((first|with_reducible refine ks fun K hK=>?_|with_reducible refine kd fun K hK=>?_|with_reducible refine kc fun K hK2 hK hK3=>?_);simp (disch:=omega) only [bg0,bg1,bg2,bg3,bg4,stepO,rsAs,eff,AX.ev,St.put,binA,conc,ap1,ofVal,Int.reduceTMod,Int.reduceTDiv,reduceCtorEq,fillA,AV.cells,AV.fine,AV.one,Nat.reduceAdd,Nat.reduceSub,Nat.reduceMul,Nat.reduceLT,Nat.reduceLeDiff,Int.reduceLT,Int.reduceLE,Int.reduceAdd,Int.reduceSub,Int.reduceNeg,Int.reduceMul,Int.reduceEq,Int.reduceToNat,nilA,moveA,live,loadA,rdA,storeA,wrA,intA,elemA,lenA,appA,srcA,isPtr,isNilPtr,partA,resOf,sliceA,cut,id,ap2,reduceIte,concs,chkB,geB,AOp.cls,AOp.xs,ltB,ltC,Nat.reduceBEq,Option.toList,List.cons_append,decide_eq_true,decide_eq_false,if_pos,if_neg,List.length_map,pA_at,List.cons_append,bVb,bVn,eq_self,Bool.and_self,BEq.rfl,not_true_eq_false];(first|((with_reducible refine hK _ ?_);clear hK K)|((with_reducible refine hK ?_);clear hK hK3 K hK2)|((with_reducible refine hK3 ?_);clear hK hK3 K hK2))))
  refine w_loop_m [3,4,6,7,8,9,10,11,12,13,14,15,16,17,18,19,20,21,22,23,24,25,26,27,28,29,30,31] (fun k v H=>v 3 = .ol 0 k k∧v 4=I k∧∃ J,H=⟨62,2,((few l).take k).map pA,k,0⟩::J) N ⟨rfl,rfl,[],rfl⟩ ?_ ?_
  · rintro k v H hk ⟨h3, h4, J, rfl⟩
    simp only [mix,mix_nil,mix_end,mix_skp,Nat.reduceEqDiff,Nat.reduceLeDiff,reduceCtorEq,if_true,if_false,reduceIte,Nat.reduceAdd,h3,h4]
    have hk1:k < l.length:=by omega
    have h1:=(hs l[k] (List.getElem_mem hk1)).1
    have h2:=(hs l[k] (List.getElem_mem hk1)).2
    have h5:=few_take hk1 (by omega)
    have h6:(((few l).take k).map pA).length=k:=by simp;omega
    repeat (first|with_reducible refine w_seq ?_|with_reducible refine w_reg ?_|with_reducible refine w_draw ?_|with_reducible refine w_block ?_|with_reducible refine w_skip ?_|with_reducible refine ws_nil ?_|with_reducible refine wd_nil ?_|with_reducible refine q_then ?_|with_reducible refine q_block_n ?_|((with_reducible refine kgs_t ?_ ?_);rfl)|((first|with_reducible refine ks fun K hK=>?_|with_reducible refine kd fun K hK=>?_|with_reducible refine kc fun K hK2 hK hK3=>?_);simp (disch:=omega) only [bg0,bg1,bg2,bg3,bg4,stepO,rsAs,eff,AX.ev,St.put,binA,conc,ap1,ofVal,Int.reduceTMod,Int.reduceTDiv,reduceCtorEq,fillA,AV.cells,AV.fine,AV.one,Nat.reduceAdd,Nat.reduceSub,Nat.reduceMul,Nat.reduceLT,Nat.reduceLeDiff,Int.reduceLT,Int.reduceLE,Int.reduceAdd,Int.reduceSub,Int.reduceNeg,Int.reduceMul,Int.reduceEq,Int.reduceToNat,nilA,moveA,live,loadA,rdA,storeA,wrA,intA,elemA,lenA,appA,srcA,isPtr,isNilPtr,partA,resOf,sliceA,cut,id,ap2,reduceIte,concs,chkB,geB,AOp.cls,AOp.xs,ltB,ltC,Nat.reduceBEq,Option.toList,List.cons_append,decide_eq_true,decide_eq_false,if_pos,if_neg,List.length_map,pA_at,List.cons_append,bVb,bVn,eq_self,Bool.and_self,BEq.rfl,not_true_eq_false,h6,takeP,h5];(first|((with_reducible refine hK _ ?_);clear hK K)|((with_reducible refine hK ?_);clear hK hK3 K hK2)|((with_reducible refine hK3 ?_);clear hK hK3 K hK2)))|((first|((with_reducible refine kpd 34 ?_ ?_ ?_ ?_ ?_);rotate_left 1));(focus (simp (disch:=omega) only [bg0,bg1,bg2,bg3,bg4,stepO,rsAs,eff,AX.ev,St.put,binA,conc,ap1,ofVal,Int.reduceTMod,Int.reduceTDiv,reduceCtorEq,fillA,AV.cells,AV.fine,AV.one,Nat.reduceAdd,Nat.reduceSub,Nat.reduceMul,Nat.reduceLT,Nat.reduceLeDiff,Int.reduceLT,Int.reduceLE,Int.reduceAdd,Int.reduceSub,Int.reduceNeg,Int.reduceMul,Int.reduceEq,Int.reduceToNat,nilA,moveA,live,loadA,rdA,storeA,wrA,intA,elemA,lenA,appA,srcA,isPtr,isNilPtr,partA,resOf,sliceA,cut,id,ap2,reduceIte,concs,chkB,geB,AOp.cls,AOp.xs,ltB,ltC,Nat.reduceBEq,Option.toList,List.cons_append,decide_eq_true,decide_eq_false,if_pos,if_neg,List.length_map,pA_at,List.cons_append,bVb,bVn,eq_self,Bool.and_self,BEq.rfl,not_true_eq_false,h6,takeP,h5];try rfl));(first|(rfl;exact (by refine cutP G _ 40 ?_;assumption)))))
    exact ⟨rfl,rfl,rfl,_,rfl⟩
  · rintro v H ⟨h3, h4, J, rfl⟩
    simp only [mix,mix_nil,mix_end,mix_skp,Nat.reduceEqDiff,Nat.reduceLeDiff,reduceCtorEq,if_true,if_false,reduceIte,Nat.reduceAdd,h3,h4]
    have h6:(((few l).take N).map pA).length=N:=by simp;omega
    have h7:(few l).take N=few l:=by rw [hN,List.take_length]
    have h8:((few l).map pA).take N=(few l).map pA:=by rw [hN];apply List.take_of_length_le;simp
    by_cases h40:l.length≤40
    all_goals
      repeat (first|with_reducible refine w_seq ?_|with_reducible refine w_reg ?_|with_reducible refine w_exit ?_|with_reducible refine ws_nil ?_|with_reducible refine q_then ?_|with_reducible refine q_then_x ?_|with_reducible refine q_block_x ?_|with_reducible refine w_ret ?_|((with_reducible refine kgs_t ?_ ?_);rfl)|((with_reducible refine kgs_f ?_ ?_);rfl)|((first|with_reducible refine ks fun K hK=>?_|with_reducible refine kd fun K hK=>?_|with_reducible refine kc fun K hK2 hK hK3=>?_);simp (disch:=omega) only [bg0,bg1,bg2,bg3,bg4,stepO,rsAs,eff,AX.ev,St.put,binA,conc,ap1,ofVal,Int.reduceTMod,Int.reduceTDiv,reduceCtorEq,fillA,AV.cells,AV.fine,AV.one,Nat.reduceAdd,Nat.reduceSub,Nat.reduceMul,Nat.reduceLT,Nat.reduceLeDiff,Int.reduceLT,Int.reduceLE,Int.reduceAdd,Int.reduceSub,Int.reduceNeg,Int.reduceMul,Int.reduceEq,Int.reduceToNat,nilA,moveA,live,loadA,rdA,storeA,wrA,intA,elemA,lenA,appA,srcA,isPtr,isNilPtr,partA,resOf,sliceA,cut,id,ap2,reduceIte,concs,chkB,geB,AOp.cls,AOp.xs,ltB,ltC,Nat.reduceBEq,Option.toList,List.cons_append,decide_eq_true,decide_eq_false,if_pos,if_neg,List.length_map,pA_at,List.cons_append,bVb,bVn,eq_self,Bool.and_self,BEq.rfl,not_true_eq_false];(first|((with_reducible refine hK _ ?_);clear hK K)|((with_reducible refine hK ?_);clear hK hK3 K hK2)|((with_reducible refine hK3 ?_);clear hK hK3 K hK2))))
      refine ret_pp fun K hK=>?_
      simp only [rsAs,List.getD_cons_succ,List.getD_cons_zero]
      refine hK _ ?_ ?_ ?_ ?_
      rotate_left 2
      simp only [purA,pur,purC,List.getElem?_cons_zero,List.length_map,← hN,h7,h8,Nat.le_refl,and_self,and_true,true_and]
      rw [if_pos (all_pA _)]
      rfl
theorem cmpP (G:Nat→AV) (a b:ByteArray) (ha:a.size≤9223372036854775807) (hb:b.size≤9223372036854775807):PC Try.prog G 56 [S a,S b] (I (cB a b)) :=
  pc_calls rfl rfl (fun w=>(Ord.Compare_calls a b w (by rw [maxLenE];exact ha) (by rw [maxLenE];exact hb)).mono fun e w' h=>h.fresh)
theorem lessP (G:Nat→AV) (a b:ByteArray) (ha:a.size≤9223372036854775807) (hb:b.size≤9223372036854775807):PC Try.prog G 60 [S a,S b] (Bo (decide (cB a b < 0))):=by
  have e:decide (cB a b < 0)=Ord.less a.data.toList b.data.toList:=by
    have h:cB a b = -1∨cB a b=0∨cB a b=1:=cB_cases a b
    unfold Ord.less
    show decide (cB a b < 0)=(cB a b == -1)
    rcases h with h|h|h<;>rw [h]<;>rfl
  rw [e]
  exact pc_calls rfl rfl (fun w=>(Ord.RefLess_calls a b w (by rw [maxLenE];exact ha) (by rw [maxLenE];exact hb)).mono fun e w' h=>h.fresh)
end Go.Proofs.Ytghbpplcgjeohaa.Sim.Pr7
namespace Go.Proofs.Ytghbpplcgjeohaa.Sim.Pr7
open Go.RowKit
set_option maxRecDepth 100000
structure Okl (l:List Pr):Prop where
  len:l.length≤1000000
  sz:∀ p ∈ l,p.1.size≤9223372036854775807∧p.2.size≤9223372036854775807
theorem Okl.k {l:List Pr} (h:Okl l) {k:Nat} (hk:k < l.length):(l[k]).1.size≤9223372036854775807:=(h.sz _ (List.getElem_mem hk)).1
theorem slt_idx:∀ {l:List Pr},SLt l↔∀ i (h:i+1 < l.length),cB (l[i]).1 (l[i+1]).1 < 0
  | []=>by simp [SLt]
  | [p]=>by simp [SLt]
  | p::q::l=>by
    have ih:=slt_idx (l:=q::l)
    constructor
    · intro h i hi
      obtain ⟨h1,h2⟩:=List.pairwise_cons.1 h
      cases i with
      | zero=>exact h1 q (by simp)
      | succ i=>exact ih.1 h2 i (by simpa using hi)
    · intro h
      have h2:SLt (q::l):=ih.2 fun i hi=>h (i+1) (by simpa using hi)
      refine List.pairwise_cons.2 ⟨fun x hx=>?_,h2⟩
      have h0:cB p.1 q.1 < 0:=h 0 (by simp)
      rcases List.mem_cons.1 hx with rfl|hx
      · exact h0
      · have := (List.pairwise_cons.1 h2).1 x hx
        exact cB_lt1 h0 (by omega)
theorem is_false {l:List Pr} {r:Bool} (hr:r=true↔SLt l) {i:Nat} (h:i+1 < l.length) (hc:0≤cB (l[i]).1 (l[i+1]).1):r=false:=by
  cases r with
  | false=>rfl
  | true=>have:=slt_idx.1 (hr.1 rfl) i h;omega
set_option maxHeartbeats 4000000 in
theorem is11 (G:Nat→AV) (l:List Pr) (hl:Okl l) (r:Bool) (hr:r=true↔SLt l):PC Try.prog G 61 [.sl 2 (l.map pA)] (Bo r):=by
  have hlen:=hl.len
  refine pc_of cop61 ?_
  show W _ _ _ _ ⟨_,_⟩;simp only [A61,List.cons_append,List.nil_append,List.length_cons,List.length_nil,Nat.reduceAdd,Nat.reduceSub,List.replicate]
  repeat (first|with_reducible refine w_seq ?_|with_reducible refine w_reg ?_|with_reducible refine w_block ?_|with_reducible refine ws_nil ?_|with_reducible refine q_then ?_|((first|with_reducible refine ks fun K hK=>?_|with_reducible refine kd fun K hK=>?_|with_reducible refine kc fun K hK2 hK hK3=>?_);simp (disch:=omega) only [bg0,bg1,bg2,bg3,bg4,stepO,rsAs,eff,AX.ev,St.put,binA,conc,ap1,ofVal,Int.reduceTMod,Int.reduceTDiv,reduceCtorEq,fillA,AV.cells,AV.fine,AV.one,Nat.reduceAdd,Nat.reduceSub,Nat.reduceMul,Nat.reduceLT,Nat.reduceLeDiff,Int.reduceLT,Int.reduceLE,Int.reduceAdd,Int.reduceSub,Int.reduceNeg,Int.reduceMul,Int.reduceEq,Int.reduceToNat,nilA,moveA,live,loadA,rdA,storeA,wrA,intA,elemA,lenA,appA,srcA,isPtr,isNilPtr,partA,resOf,sliceA,cut,id,ap2,reduceIte,concs,chkB,geB,AOp.cls,AOp.xs,ltB,ltC,Nat.reduceBEq,Option.toList,List.cons_append,decide_eq_true,decide_eq_false,if_pos,if_neg,List.length_map,pA_at,List.cons_append,bVb,bVn,eq_self,Bool.and_self,BEq.rfl,not_true_eq_false];(first|((with_reducible refine hK _ ?_);clear hK K)|((with_reducible refine hK ?_);clear hK hK3 K hK2)|((with_reducible refine hK3 ?_);clear hK hK3 K hK2))))
  refine w_loop_m [2,3,7,8,9,10,11,12,13,14,15,16,17,18,19,20,21,22,23] (fun k v H=>v 7=I k∧H=[]∧∀ i (h:i+1 < l.length),i < k→cB (l[i]).1 (l[i+1]).1 < 0) (l.length - 1) ⟨rfl,rfl,fun i h hi=>absurd hi (Nat.not_lt_zero _)⟩ ?_ ?_
  · rintro k v H hk ⟨h7, rfl, hi⟩
    simp only [mix,mix_nil,mix_end,mix_skp,Nat.reduceEqDiff,Nat.reduceLeDiff,reduceCtorEq,if_true,if_false,reduceIte,Nat.reduceAdd,h7]
    have h1:=hl.k (k:=k) (by omega)
    have h2:=hl.k (k:=k+1) (by omega)
    by_cases hc:0≤cB (l[k]).1 (l[k+1]).1
    · obtain rfl := is_false hr (by omega) hc
      repeat (first|with_reducible refine w_seq ?_|with_reducible refine w_reg ?_|with_reducible refine w_draw ?_|with_reducible refine w_block ?_|with_reducible refine w_skip ?_|with_reducible refine ws_nil ?_|with_reducible refine wd_nil ?_|with_reducible refine q_then ?_|with_reducible refine q_block_r ?_|with_reducible refine w_ret ?_|with_reducible refine q_then_r ?_|((first|with_reducible refine ks fun K hK=>?_|with_reducible refine kd fun K hK=>?_|with_reducible refine kc fun K hK2 hK hK3=>?_);simp (disch:=omega) only [bg0,bg1,bg2,bg3,bg4,stepO,rsAs,eff,AX.ev,St.put,binA,conc,ap1,ofVal,Int.reduceTMod,Int.reduceTDiv,reduceCtorEq,fillA,AV.cells,AV.fine,AV.one,Nat.reduceAdd,Nat.reduceSub,Nat.reduceMul,Nat.reduceLT,Nat.reduceLeDiff,Int.reduceLT,Int.reduceLE,Int.reduceAdd,Int.reduceSub,Int.reduceNeg,Int.reduceMul,Int.reduceEq,Int.reduceToNat,nilA,moveA,live,loadA,rdA,storeA,wrA,intA,elemA,lenA,appA,srcA,isPtr,isNilPtr,partA,resOf,sliceA,cut,id,ap2,reduceIte,concs,chkB,geB,AOp.cls,AOp.xs,ltB,ltC,Nat.reduceBEq,Option.toList,List.cons_append,decide_eq_true,decide_eq_false,if_pos,if_neg,List.length_map,pA_at,List.cons_append,bVb,bVn,eq_self,Bool.and_self,BEq.rfl,not_true_eq_false,hc];(first|((with_reducible refine hK _ ?_);clear hK K)|((with_reducible refine hK ?_);clear hK hK3 K hK2)|((with_reducible refine hK3 ?_);clear hK hK3 K hK2)))|((first|((with_reducible refine kpd 56 ?_ ?_ ?_ ?_ ?_);rotate_left 1));(focus (simp (disch:=omega) only [bg0,bg1,bg2,bg3,bg4,stepO,rsAs,eff,AX.ev,St.put,binA,conc,ap1,ofVal,Int.reduceTMod,Int.reduceTDiv,reduceCtorEq,fillA,AV.cells,AV.fine,AV.one,Nat.reduceAdd,Nat.reduceSub,Nat.reduceMul,Nat.reduceLT,Nat.reduceLeDiff,Int.reduceLT,Int.reduceLE,Int.reduceAdd,Int.reduceSub,Int.reduceNeg,Int.reduceMul,Int.reduceEq,Int.reduceToNat,nilA,moveA,live,loadA,rdA,storeA,wrA,intA,elemA,lenA,appA,srcA,isPtr,isNilPtr,partA,resOf,sliceA,cut,id,ap2,reduceIte,concs,chkB,geB,AOp.cls,AOp.xs,ltB,ltC,Nat.reduceBEq,Option.toList,List.cons_append,decide_eq_true,decide_eq_false,if_pos,if_neg,List.length_map,pA_at,List.cons_append,bVb,bVn,eq_self,Bool.and_self,BEq.rfl,not_true_eq_false,hc];try rfl));(first|(rfl;exact (by refine cmpP G _ _ ?_ ?_<;>assumption))))|((first|with_reducible refine ret_h fun K hK=>?_|with_reducible refine ret_hh rfl fun K hK=>?_|with_reducible refine ret_pp fun K hK=>?_);simp (disch:=omega) only [bg0,bg1,bg2,bg3,bg4,stepO,rsAs,eff,AX.ev,St.put,binA,conc,ap1,ofVal,Int.reduceTMod,Int.reduceTDiv,reduceCtorEq,fillA,AV.cells,AV.fine,AV.one,Nat.reduceAdd,Nat.reduceSub,Nat.reduceMul,Nat.reduceLT,Nat.reduceLeDiff,Int.reduceLT,Int.reduceLE,Int.reduceAdd,Int.reduceSub,Int.reduceNeg,Int.reduceMul,Int.reduceEq,Int.reduceToNat,nilA,moveA,live,loadA,rdA,storeA,wrA,intA,elemA,lenA,appA,srcA,isPtr,isNilPtr,partA,resOf,sliceA,cut,id,ap2,reduceIte,concs,chkB,geB,AOp.cls,AOp.xs,ltB,ltC,Nat.reduceBEq,Option.toList,List.cons_append,decide_eq_true,decide_eq_false,if_pos,if_neg,List.length_map,pA_at,List.cons_append,bVb,bVn,eq_self,Bool.and_self,BEq.rfl,not_true_eq_false,hc];(first|((with_reducible refine hK _ ?_ ?_ ?_ ?_);rotate_left 2;rfl;rfl)|((with_reducible refine hK _ ?_);rfl))))
    · repeat (first|with_reducible refine w_seq ?_|with_reducible refine w_reg ?_|with_reducible refine w_draw ?_|with_reducible refine w_block ?_|with_reducible refine w_skip ?_|with_reducible refine ws_nil ?_|with_reducible refine wd_nil ?_|with_reducible refine q_then ?_|with_reducible refine q_block_n ?_|((first|with_reducible refine ks fun K hK=>?_|with_reducible refine kd fun K hK=>?_|with_reducible refine kc fun K hK2 hK hK3=>?_);simp (disch:=omega) only [bg0,bg1,bg2,bg3,bg4,stepO,rsAs,eff,AX.ev,St.put,binA,conc,ap1,ofVal,Int.reduceTMod,Int.reduceTDiv,reduceCtorEq,fillA,AV.cells,AV.fine,AV.one,Nat.reduceAdd,Nat.reduceSub,Nat.reduceMul,Nat.reduceLT,Nat.reduceLeDiff,Int.reduceLT,Int.reduceLE,Int.reduceAdd,Int.reduceSub,Int.reduceNeg,Int.reduceMul,Int.reduceEq,Int.reduceToNat,nilA,moveA,live,loadA,rdA,storeA,wrA,intA,elemA,lenA,appA,srcA,isPtr,isNilPtr,partA,resOf,sliceA,cut,id,ap2,reduceIte,concs,chkB,geB,AOp.cls,AOp.xs,ltB,ltC,Nat.reduceBEq,Option.toList,List.cons_append,decide_eq_true,decide_eq_false,if_pos,if_neg,List.length_map,pA_at,List.cons_append,bVb,bVn,eq_self,Bool.and_self,BEq.rfl,not_true_eq_false,hc];(first|((with_reducible refine hK _ ?_);clear hK K)|((with_reducible refine hK ?_);clear hK hK3 K hK2)|((with_reducible refine hK3 ?_);clear hK hK3 K hK2)))|((first|((with_reducible refine kpd 56 ?_ ?_ ?_ ?_ ?_);rotate_left 1));(focus (simp (disch:=omega) only [bg0,bg1,bg2,bg3,bg4,stepO,rsAs,eff,AX.ev,St.put,binA,conc,ap1,ofVal,Int.reduceTMod,Int.reduceTDiv,reduceCtorEq,fillA,AV.cells,AV.fine,AV.one,Nat.reduceAdd,Nat.reduceSub,Nat.reduceMul,Nat.reduceLT,Nat.reduceLeDiff,Int.reduceLT,Int.reduceLE,Int.reduceAdd,Int.reduceSub,Int.reduceNeg,Int.reduceMul,Int.reduceEq,Int.reduceToNat,nilA,moveA,live,loadA,rdA,storeA,wrA,intA,elemA,lenA,appA,srcA,isPtr,isNilPtr,partA,resOf,sliceA,cut,id,ap2,reduceIte,concs,chkB,geB,AOp.cls,AOp.xs,ltB,ltC,Nat.reduceBEq,Option.toList,List.cons_append,decide_eq_true,decide_eq_false,if_pos,if_neg,List.length_map,pA_at,List.cons_append,bVb,bVn,eq_self,Bool.and_self,BEq.rfl,not_true_eq_false,hc];try rfl));(first|(rfl;exact (by refine cmpP G _ _ ?_ ?_<;>assumption)))))
      refine ⟨rfl,rfl,rfl,fun i h hik=>?_⟩
      by_cases hik2:i=k
      · subst hik2;omega
      · exact hi i h (by omega)
  · rintro v H ⟨h7, rfl, hi⟩
    simp only [mix,mix_nil,mix_end,mix_skp,Nat.reduceEqDiff,Nat.reduceLeDiff,reduceCtorEq,if_true,if_false,reduceIte,Nat.reduceAdd,h7]
    obtain rfl:r=true:=hr.2 (slt_idx.2 fun i h=>hi i h (by omega))
    by_cases h0:l.length=0
    all_goals repeat (first|with_reducible refine w_seq ?_|with_reducible refine w_reg ?_|with_reducible refine w_exit ?_|with_reducible refine ws_nil ?_|with_reducible refine q_then ?_|with_reducible refine q_then_x ?_|with_reducible refine q_block_x ?_|with_reducible refine w_ret ?_|((first|with_reducible refine ks fun K hK=>?_|with_reducible refine kd fun K hK=>?_|with_reducible refine kc fun K hK2 hK hK3=>?_);simp (disch:=omega) only [bg0,bg1,bg2,bg3,bg4,stepO,rsAs,eff,AX.ev,St.put,binA,conc,ap1,ofVal,Int.reduceTMod,Int.reduceTDiv,reduceCtorEq,fillA,AV.cells,AV.fine,AV.one,Nat.reduceAdd,Nat.reduceSub,Nat.reduceMul,Nat.reduceLT,Nat.reduceLeDiff,Int.reduceLT,Int.reduceLE,Int.reduceAdd,Int.reduceSub,Int.reduceNeg,Int.reduceMul,Int.reduceEq,Int.reduceToNat,nilA,moveA,live,loadA,rdA,storeA,wrA,intA,elemA,lenA,appA,srcA,isPtr,isNilPtr,partA,resOf,sliceA,cut,id,ap2,reduceIte,concs,chkB,geB,AOp.cls,AOp.xs,ltB,ltC,Nat.reduceBEq,Option.toList,List.cons_append,decide_eq_true,decide_eq_false,if_pos,if_neg,List.length_map,pA_at,List.cons_append,bVb,bVn,eq_self,Bool.and_self,BEq.rfl,not_true_eq_false];(first|((with_reducible refine hK _ ?_);clear hK K)|((with_reducible refine hK ?_);clear hK hK3 K hK2)|((with_reducible refine hK3 ?_);clear hK hK3 K hK2)))|((first|with_reducible refine ret_h fun K hK=>?_|with_reducible refine ret_hh rfl fun K hK=>?_|with_reducible refine ret_pp fun K hK=>?_);simp (disch:=omega) only [bg0,bg1,bg2,bg3,bg4,stepO,rsAs,eff,AX.ev,St.put,binA,conc,ap1,ofVal,Int.reduceTMod,Int.reduceTDiv,reduceCtorEq,fillA,AV.cells,AV.fine,AV.one,Nat.reduceAdd,Nat.reduceSub,Nat.reduceMul,Nat.reduceLT,Nat.reduceLeDiff,Int.reduceLT,Int.reduceLE,Int.reduceAdd,Int.reduceSub,Int.reduceNeg,Int.reduceMul,Int.reduceEq,Int.reduceToNat,nilA,moveA,live,loadA,rdA,storeA,wrA,intA,elemA,lenA,appA,srcA,isPtr,isNilPtr,partA,resOf,sliceA,cut,id,ap2,reduceIte,concs,chkB,geB,AOp.cls,AOp.xs,ltB,ltC,Nat.reduceBEq,Option.toList,List.cons_append,decide_eq_true,decide_eq_false,if_pos,if_neg,List.length_map,pA_at,List.cons_append,bVb,bVn,eq_self,Bool.and_self,BEq.rfl,not_true_eq_false];(first|((with_reducible refine hK _ ?_ ?_ ?_ ?_);rotate_left 2;rfl;rfl)|((with_reducible refine hK _ ?_);rfl))))
set_option maxHeartbeats 4000000 in
theorem is12 (G:Nat→AV) (l:List Pr) (hl:Okl l) (r:Bool) (hr:r=true↔SLt l):PC Try.prog G 52 [.sl 2 (l.map pA)] (Bo r):=by
  have hlen:=hl.len
  refine pc_of cop52 ?_
  show W _ _ _ _ ⟨_,_⟩;simp only [A52,List.cons_append,List.nil_append,List.length_cons,List.length_nil,Nat.reduceAdd,Nat.reduceSub,List.replicate]
  repeat (first|with_reducible refine w_seq ?_|with_reducible refine w_reg ?_|with_reducible refine w_block ?_|with_reducible refine ws_nil ?_|with_reducible refine q_then ?_|((first|with_reducible refine ks fun K hK=>?_|with_reducible refine kd fun K hK=>?_|with_reducible refine kc fun K hK2 hK hK3=>?_);simp (disch:=omega) only [bg0,bg1,bg2,bg3,bg4,stepO,rsAs,eff,AX.ev,St.put,binA,conc,ap1,ofVal,Int.reduceTMod,Int.reduceTDiv,reduceCtorEq,fillA,AV.cells,AV.fine,AV.one,Nat.reduceAdd,Nat.reduceSub,Nat.reduceMul,Nat.reduceLT,Nat.reduceLeDiff,Int.reduceLT,Int.reduceLE,Int.reduceAdd,Int.reduceSub,Int.reduceNeg,Int.reduceMul,Int.reduceEq,Int.reduceToNat,nilA,moveA,live,loadA,rdA,storeA,wrA,intA,elemA,lenA,appA,srcA,isPtr,isNilPtr,partA,resOf,sliceA,cut,id,ap2,reduceIte,concs,chkB,geB,AOp.cls,AOp.xs,ltB,ltC,Nat.reduceBEq,Option.toList,List.cons_append,decide_eq_true,decide_eq_false,if_pos,if_neg,List.length_map,pA_at,List.cons_append,bVb,bVn,eq_self,Bool.and_self,BEq.rfl,not_true_eq_false];(first|((with_reducible refine hK _ ?_);clear hK K)|((with_reducible refine hK ?_);clear hK hK3 K hK2)|((with_reducible refine hK3 ?_);clear hK hK3 K hK2))))
  refine w_loop_m [2,3,4,5,6,7,8,9,10,11,12,13,14,15,16,17,18,19,20,21,22] (fun k v H=>v 3=I ((k+1:Nat):Int)∧H=[]∧∀ i (h:i+1 < l.length),i < k→cB (l[i]).1 (l[i+1]).1 < 0) (l.length - 1) ⟨rfl,rfl,fun i h hi=>absurd hi (Nat.not_lt_zero _)⟩ ?_ ?_
  · rintro k v H hk ⟨h3, rfl, hi⟩
    simp only [mix,mix_nil,mix_end,mix_skp,Nat.reduceEqDiff,Nat.reduceLeDiff,reduceCtorEq,if_true,if_false,reduceIte,Nat.reduceAdd,h3]
    have h1:=hl.k (k:=k) (by omega)
    have h2:=hl.k (k:=k+1) (by omega)
    have e1:((k+1:Nat):Int) - 1=k:=by omega
    by_cases hc:cB (l[k]).1 (l[k+1]).1 < 0
    · repeat (first|with_reducible refine w_seq ?_|with_reducible refine w_reg ?_|with_reducible refine w_draw ?_|with_reducible refine w_block ?_|with_reducible refine w_skip ?_|with_reducible refine ws_nil ?_|with_reducible refine wd_nil ?_|with_reducible refine q_then ?_|with_reducible refine q_block_n ?_|((first|with_reducible refine ks fun K hK=>?_|with_reducible refine kd fun K hK=>?_|with_reducible refine kc fun K hK2 hK hK3=>?_);simp (disch:=omega) only [bg0,bg1,bg2,bg3,bg4,stepO,rsAs,eff,AX.ev,St.put,binA,conc,ap1,ofVal,Int.reduceTMod,Int.reduceTDiv,reduceCtorEq,fillA,AV.cells,AV.fine,AV.one,Nat.reduceAdd,Nat.reduceSub,Nat.reduceMul,Nat.reduceLT,Nat.reduceLeDiff,Int.reduceLT,Int.reduceLE,Int.reduceAdd,Int.reduceSub,Int.reduceNeg,Int.reduceMul,Int.reduceEq,Int.reduceToNat,nilA,moveA,live,loadA,rdA,storeA,wrA,intA,elemA,lenA,appA,srcA,isPtr,isNilPtr,partA,resOf,sliceA,cut,id,ap2,reduceIte,concs,chkB,geB,AOp.cls,AOp.xs,ltB,ltC,Nat.reduceBEq,Option.toList,List.cons_append,decide_eq_true,decide_eq_false,if_pos,if_neg,List.length_map,pA_at,List.cons_append,bVb,bVn,eq_self,Bool.and_self,BEq.rfl,not_true_eq_false,hc,e1];(first|((with_reducible refine hK _ ?_);clear hK K)|((with_reducible refine hK ?_);clear hK hK3 K hK2)|((with_reducible refine hK3 ?_);clear hK hK3 K hK2)))|((first|((with_reducible refine kpd 60 ?_ ?_ ?_ ?_ ?_);rotate_left 1));(focus (simp (disch:=omega) only [bg0,bg1,bg2,bg3,bg4,stepO,rsAs,eff,AX.ev,St.put,binA,conc,ap1,ofVal,Int.reduceTMod,Int.reduceTDiv,reduceCtorEq,fillA,AV.cells,AV.fine,AV.one,Nat.reduceAdd,Nat.reduceSub,Nat.reduceMul,Nat.reduceLT,Nat.reduceLeDiff,Int.reduceLT,Int.reduceLE,Int.reduceAdd,Int.reduceSub,Int.reduceNeg,Int.reduceMul,Int.reduceEq,Int.reduceToNat,nilA,moveA,live,loadA,rdA,storeA,wrA,intA,elemA,lenA,appA,srcA,isPtr,isNilPtr,partA,resOf,sliceA,cut,id,ap2,reduceIte,concs,chkB,geB,AOp.cls,AOp.xs,ltB,ltC,Nat.reduceBEq,Option.toList,List.cons_append,decide_eq_true,decide_eq_false,if_pos,if_neg,List.length_map,pA_at,List.cons_append,bVb,bVn,eq_self,Bool.and_self,BEq.rfl,not_true_eq_false,hc,e1];try rfl));(first|(rfl;exact (by refine lessP G _ _ ?_ ?_<;>assumption)))))
      refine ⟨rfl,rfl,rfl,fun i h hik=>?_⟩
      by_cases hik2:i=k
      · subst hik2;omega
      · exact hi i h (by omega)
    · obtain rfl := is_false (i := k) hr (by omega) (by omega)
      repeat (first|with_reducible refine w_seq ?_|with_reducible refine w_reg ?_|with_reducible refine w_draw ?_|with_reducible refine w_block ?_|with_reducible refine w_skip ?_|with_reducible refine ws_nil ?_|with_reducible refine wd_nil ?_|with_reducible refine q_then ?_|with_reducible refine q_block_r ?_|with_reducible refine w_ret ?_|with_reducible refine q_then_r ?_|((first|with_reducible refine ks fun K hK=>?_|with_reducible refine kd fun K hK=>?_|with_reducible refine kc fun K hK2 hK hK3=>?_);simp (disch:=omega) only [bg0,bg1,bg2,bg3,bg4,stepO,rsAs,eff,AX.ev,St.put,binA,conc,ap1,ofVal,Int.reduceTMod,Int.reduceTDiv,reduceCtorEq,fillA,AV.cells,AV.fine,AV.one,Nat.reduceAdd,Nat.reduceSub,Nat.reduceMul,Nat.reduceLT,Nat.reduceLeDiff,Int.reduceLT,Int.reduceLE,Int.reduceAdd,Int.reduceSub,Int.reduceNeg,Int.reduceMul,Int.reduceEq,Int.reduceToNat,nilA,moveA,live,loadA,rdA,storeA,wrA,intA,elemA,lenA,appA,srcA,isPtr,isNilPtr,partA,resOf,sliceA,cut,id,ap2,reduceIte,concs,chkB,geB,AOp.cls,AOp.xs,ltB,ltC,Nat.reduceBEq,Option.toList,List.cons_append,decide_eq_true,decide_eq_false,if_pos,if_neg,List.length_map,pA_at,List.cons_append,bVb,bVn,eq_self,Bool.and_self,BEq.rfl,not_true_eq_false,hc,e1];(first|((with_reducible refine hK _ ?_);clear hK K)|((with_reducible refine hK ?_);clear hK hK3 K hK2)|((with_reducible refine hK3 ?_);clear hK hK3 K hK2)))|((first|((with_reducible refine kpd 60 ?_ ?_ ?_ ?_ ?_);rotate_left 1));(focus (simp (disch:=omega) only [bg0,bg1,bg2,bg3,bg4,stepO,rsAs,eff,AX.ev,St.put,binA,conc,ap1,ofVal,Int.reduceTMod,Int.reduceTDiv,reduceCtorEq,fillA,AV.cells,AV.fine,AV.one,Nat.reduceAdd,Nat.reduceSub,Nat.reduceMul,Nat.reduceLT,Nat.reduceLeDiff,Int.reduceLT,Int.reduceLE,Int.reduceAdd,Int.reduceSub,Int.reduceNeg,Int.reduceMul,Int.reduceEq,Int.reduceToNat,nilA,moveA,live,loadA,rdA,storeA,wrA,intA,elemA,lenA,appA,srcA,isPtr,isNilPtr,partA,resOf,sliceA,cut,id,ap2,reduceIte,concs,chkB,geB,AOp.cls,AOp.xs,ltB,ltC,Nat.reduceBEq,Option.toList,List.cons_append,decide_eq_true,decide_eq_false,if_pos,if_neg,List.length_map,pA_at,List.cons_append,bVb,bVn,eq_self,Bool.and_self,BEq.rfl,not_true_eq_false,hc,e1];try rfl));(first|(rfl;exact (by refine lessP G _ _ ?_ ?_<;>assumption))))|((first|with_reducible refine ret_h fun K hK=>?_|with_reducible refine ret_hh rfl fun K hK=>?_|with_reducible refine ret_pp fun K hK=>?_);simp (disch:=omega) only [bg0,bg1,bg2,bg3,bg4,stepO,rsAs,eff,AX.ev,St.put,binA,conc,ap1,ofVal,Int.reduceTMod,Int.reduceTDiv,reduceCtorEq,fillA,AV.cells,AV.fine,AV.one,Nat.reduceAdd,Nat.reduceSub,Nat.reduceMul,Nat.reduceLT,Nat.reduceLeDiff,Int.reduceLT,Int.reduceLE,Int.reduceAdd,Int.reduceSub,Int.reduceNeg,Int.reduceMul,Int.reduceEq,Int.reduceToNat,nilA,moveA,live,loadA,rdA,storeA,wrA,intA,elemA,lenA,appA,srcA,isPtr,isNilPtr,partA,resOf,sliceA,cut,id,ap2,reduceIte,concs,chkB,geB,AOp.cls,AOp.xs,ltB,ltC,Nat.reduceBEq,Option.toList,List.cons_append,decide_eq_true,decide_eq_false,if_pos,if_neg,List.length_map,pA_at,List.cons_append,bVb,bVn,eq_self,Bool.and_self,BEq.rfl,not_true_eq_false,hc,e1];(first|((with_reducible refine hK _ ?_ ?_ ?_ ?_);rotate_left 2;rfl;rfl)|((with_reducible refine hK _ ?_);rfl))))
  · rintro v H ⟨h3, rfl, hi⟩
    simp only [mix,mix_nil,mix_end,mix_skp,Nat.reduceEqDiff,Nat.reduceLeDiff,reduceCtorEq,if_true,if_false,reduceIte,Nat.reduceAdd,h3]
    obtain rfl:r=true:=hr.2 (slt_idx.2 fun i h=>hi i h (by omega))
    by_cases h0:l.length=0
    all_goals repeat (first|with_reducible refine w_seq ?_|with_reducible refine w_reg ?_|with_reducible refine w_exit ?_|with_reducible refine ws_nil ?_|with_reducible refine q_then ?_|with_reducible refine q_then_x ?_|with_reducible refine q_block_x ?_|with_reducible refine w_ret ?_|((first|with_reducible refine ks fun K hK=>?_|with_reducible refine kd fun K hK=>?_|with_reducible refine kc fun K hK2 hK hK3=>?_);simp (disch:=omega) only [bg0,bg1,bg2,bg3,bg4,stepO,rsAs,eff,AX.ev,St.put,binA,conc,ap1,ofVal,Int.reduceTMod,Int.reduceTDiv,reduceCtorEq,fillA,AV.cells,AV.fine,AV.one,Nat.reduceAdd,Nat.reduceSub,Nat.reduceMul,Nat.reduceLT,Nat.reduceLeDiff,Int.reduceLT,Int.reduceLE,Int.reduceAdd,Int.reduceSub,Int.reduceNeg,Int.reduceMul,Int.reduceEq,Int.reduceToNat,nilA,moveA,live,loadA,rdA,storeA,wrA,intA,elemA,lenA,appA,srcA,isPtr,isNilPtr,partA,resOf,sliceA,cut,id,ap2,reduceIte,concs,chkB,geB,AOp.cls,AOp.xs,ltB,ltC,Nat.reduceBEq,Option.toList,List.cons_append,decide_eq_true,decide_eq_false,if_pos,if_neg,List.length_map,pA_at,List.cons_append,bVb,bVn,eq_self,Bool.and_self,BEq.rfl,not_true_eq_false];(first|((with_reducible refine hK _ ?_);clear hK K)|((with_reducible refine hK ?_);clear hK hK3 K hK2)|((with_reducible refine hK3 ?_);clear hK hK3 K hK2)))|((first|with_reducible refine ret_h fun K hK=>?_|with_reducible refine ret_hh rfl fun K hK=>?_|with_reducible refine ret_pp fun K hK=>?_);simp (disch:=omega) only [bg0,bg1,bg2,bg3,bg4,stepO,rsAs,eff,AX.ev,St.put,binA,conc,ap1,ofVal,Int.reduceTMod,Int.reduceTDiv,reduceCtorEq,fillA,AV.cells,AV.fine,AV.one,Nat.reduceAdd,Nat.reduceSub,Nat.reduceMul,Nat.reduceLT,Nat.reduceLeDiff,Int.reduceLT,Int.reduceLE,Int.reduceAdd,Int.reduceSub,Int.reduceNeg,Int.reduceMul,Int.reduceEq,Int.reduceToNat,nilA,moveA,live,loadA,rdA,storeA,wrA,intA,elemA,lenA,appA,srcA,isPtr,isNilPtr,partA,resOf,sliceA,cut,id,ap2,reduceIte,concs,chkB,geB,AOp.cls,AOp.xs,ltB,ltC,Nat.reduceBEq,Option.toList,List.cons_append,decide_eq_true,decide_eq_false,if_pos,if_neg,List.length_map,pA_at,List.cons_append,bVb,bVn,eq_self,Bool.and_self,BEq.rfl,not_true_eq_false];(first|((with_reducible refine hK _ ?_ ?_ ?_ ?_);rotate_left 2;rfl;rfl)|((with_reducible refine hK _ ?_);rfl))))
theorem pr_ne {p q:Pr} (h:¬ p=q):(decide (p.1=q.1) && decide (p.2=q.2))=false:=by
  cases hq:(decide (p.1=q.1) && decide (p.2=q.2)) with
  | false=>rfl
  | true =>
    simp only [Bool.and_eq_true,decide_eq_true_eq] at hq
    exact absurd (Prod.ext hq.1 hq.2) h
end Go.Proofs.Ytghbpplcgjeohaa.Sim.Pr7
namespace Go.Proofs.Ytghbpplcgjeohaa.Sim
open Go.RowKit
set_option maxRecDepth 100000
def BareP (ke va:ByteArray) (mp:Int) (kk:List Int) (mn:Int) (ls:List Pr) (b c m l:Bool):Prop :=
  (b=true→ke=ByteArray.mk #[]∧va=ByteArray.mk #[])∧(c=true→mp=0∧¬ (0:Int) < (kk.length:Nat))∧(m=true→mn=0)∧(l=true→((ls.length:Nat):Int)=0)
theorem bare45 (G:Nat→AV) (kn:Int) (ke va:ByteArray) (mp:Int) (kk:List Int) (mn:Int) (ls:List Pr) (sz bi:Int) (b c m l r:Bool) (hr:r=true↔BareP ke va mp kk mn ls b c m l) (h1:kk.length≤40) (h2:ls.length≤40):PC Try.prog G 50 [nV kn ke va mp kk mn ls sz bi,Bo b,Bo c,Bo m,Bo l] (Bo r):=by
  unfold BareP at hr
  refine pc_ofV cop50 ?_
  cases b<;>cases c<;>cases m<;>cases l
  all_goals repeat' ((conv=>whnf);first|(with_reducible refine SeqP.go ?_)|((with_reducible refine ObD.mk ?_ ?_);(focus (first|rfl|(simp;done))))|((with_reducible refine ObN.mk ?_ ?_);(focus exact zN))|(with_reducible refine ObT.tt ?_)|(with_reducible refine ObT.ff ?_)|(with_reducible refine ObB.mk (fun h=>?_) (fun h=>?_))|((with_reducible refine (?_:ObL _ _));(refine ObL.mk _ zM ?_))|((with_reducible refine (?_:ObR _ _ _));(first|(refine ObR.mk _ (by assumption) ?_)|(refine ObR.mk _ (by with_reducible rfl) ?_)|(refine ObR.map zX (fun x hx=>?_))|(refine ObR.mk _ rfl ?_)))|((with_reducible refine ObEq.mk ?_);(focus (first|rfl|assumption|exact (by cases r<;>simp_all)))))
def FormP (kn:Int) (ke va:ByteArray) (mp:Nat) (kk:List Int) (mn:Int) (ls:List Pr) (sz bi:Int):Prop :=
  ¬ bi < 0∧(((kn=1∨kn=6)∧sz=1∧BareP ke va mp kk mn ls false true true true)∨(kn=2∧¬ (0:Int) ∈ kk∧((kk.length:Nat):Int)=((upI mp 32).length:Nat)∧0≤sz∧BareP ke va mp kk mn ls true false true true) ∨
    (kn=3∧(2:Int)≤(ls.length:Nat)∧Pr7.SLt ls∧sz=(ls.length:Nat)∧BareP ke va mp kk mn ls true true true false)∨(kn=4∧(mp:Int)=0∧((kk.length:Nat):Int)=2∧1≤sz∧BareP ke va mp kk mn ls false false true true) ∨
    (kn=5∧¬ mn=0∧sz=0∧BareP ke va mp kk mn ls true true false true))
theorem tf (p:Prop):∃ q:Bool,(q=true↔p):=⟨@decide p (Classical.propDecidable p),by simp⟩
set_option maxHeartbeats 4000000 in
theorem form33 (G : Nat → AV) (kn : Int) (ke va : ByteArray) (mp : Nat) (kk : List Int) (mn : Int) (ls : List Pr) (sz bi : Int) (k1 : 1 ≤ kn) (k6 : kn ≤ 6) (hm : mp < 4294967296) (hk : kk.length ≤ 40) (hl : ls.length ≤ 40) (hs : ∀ p ∈ ls, p.1.size ≤ 40 ∧ p.2.size ≤ 40) (r : Bool) (hr : r = true ↔ FormP kn ke va mp kk mn ls sz bi) :
    PC Try.prog G 42 [nV kn ke va (mp:Int) kk mn ls sz bi] (Bo r):=by
  have hok:Pr7.Okl ls:=⟨by omega,fun p hp=>by have:=hs p hp;omega⟩
  obtain ⟨q1,hq1⟩:=tf (BareP ke va mp kk mn ls false true true true)
  obtain ⟨q2,hq2⟩:=tf (BareP ke va mp kk mn ls true false true true)
  obtain ⟨q3,hq3⟩:=tf (BareP ke va mp kk mn ls true true true false)
  obtain ⟨q4,hq4⟩:=tf (BareP ke va mp kk mn ls false false true true)
  obtain ⟨q5,hq5⟩:=tf (BareP ke va mp kk mn ls true true false true)
  obtain ⟨q6,hq6⟩:=tf (Pr7.SLt ls)
  have b1:=bare45 G kn ke va mp kk mn ls sz bi _ _ _ _ q1 hq1 hk hl
  have b2:=bare45 G kn ke va mp kk mn ls sz bi _ _ _ _ q2 hq2 hk hl
  have b3:=bare45 G kn ke va mp kk mn ls sz bi _ _ _ _ q3 hq3 hk hl
  have b4:=bare45 G kn ke va mp kk mn ls sz bi _ _ _ _ q4 hq4 hk hl
  have b5:=bare45 G kn ke va mp kk mn ls sz bi _ _ _ _ q5 hq5 hk hl
  have b6:PC Try.prog G 52 [.sl 2 (ls.map pA)] (Bo q6):=Pr7.is12 G ls hok q6 hq6
  have b7:=all46 G mp hm
  have hu:=upI_len mp 32
  by_cases hb:bi < 0
  · obtain rfl : r = false := by
      cases r with
      | false=>rfl
      | true=>exact absurd hb (hr.1 rfl).1
    refine pc_ofV cop42 ?_
    repeat' ((conv=>whnf);first|(with_reducible refine SeqP.go ?_)|((with_reducible refine ObD.mk ?_ ?_);(focus (first|rfl|(simp;done))))|((with_reducible refine ObN.mk ?_ ?_);(focus exact zN))|(with_reducible refine ObT.tt ?_)|((with_reducible refine ObB.yes ?_ ?_);(focus (first|assumption|(with_reducible rfl)|omega)))|((with_reducible refine (?_:ObR _ _ _));(first|(refine ObR.mk _ (by assumption) ?_)|(refine ObR.mk _ (by with_reducible rfl) ?_)|(refine ObR.map zX (fun x hx=>?_))|(refine ObR.mk _ rfl ?_)))|((with_reducible refine ObEq.mk ?_);(focus (first|rfl|assumption))))
  simp only [FormP,← hq1,← hq2,← hq3,← hq4,← hq5,← hq6] at hr
  clear hq1 hq2 hq3 hq4 hq5 hq6
  have hkn:(kn=1∨kn=6)∨kn=2∨kn=3∨kn=4∨kn=5:=by omega
  rcases hkn with hkn|rfl|rfl|rfl|rfl
  · have hr' : r = true ↔ sz = 1 ∧ q1 = true := by rw [hr]; rcases hkn with rfl | rfl <;> simp [hb]
    clear hr
    refine pc_ofV cop42 ?_
    rcases hkn with rfl|rfl
    all_goals repeat' ((conv=>whnf);first|(with_reducible refine SeqP.go ?_)|((with_reducible refine ObD.mk ?_ ?_);(focus (first|rfl|(simp;done))))|((with_reducible refine ObN.mk ?_ ?_);(focus exact zN))|(with_reducible refine ObT.tt ?_)|(with_reducible refine ObT.ff ?_)|((with_reducible refine ObB.yes ?_ ?_);(focus (first|assumption|(with_reducible rfl)|omega)))|((with_reducible refine ObB.no ?_ ?_);(focus (first|assumption|omega)))|(with_reducible refine ObB.mk (fun h=>?_) (fun h=>?_))|((with_reducible refine (?_:ObR _ _ _));(first|(refine ObR.mk _ (by assumption) ?_)|(refine ObR.mk _ (by with_reducible rfl) ?_)|(refine ObR.map zX (fun x hx=>?_))|(refine ObR.mk _ rfl ?_)))|((with_reducible refine ObC.f 50 ?_);(first|(with_reducible refine ObC.mk _ (b1) ?_)|(refine ObC.mk _ (b1) ?_)))|((with_reducible refine ObEq.mk ?_);(focus (first|rfl|assumption|exact (by cases r<;>cases q1<;>first|(simp_all;done)|(simp_all;omega))))))
  · have hr' : r = true ↔ ¬ (0 : Int) ∈ kk ∧ ((kk.length : Nat) : Int) = ((upI mp 32).length : Nat) ∧ 0 ≤ sz ∧ q2 = true := by rw [hr]; simp [hb]
    clear hr
    rcases first_or (n:=kk.length) (fun k=>decide (kk[k]? = some 0)) with h|⟨i0,h1,h2,h3⟩
    · have hz : ¬ (0 : Int) ∈ kk := fun hm0 => by
        obtain ⟨k,hk',e⟩:=List.getElem_of_mem hm0
        have:=h k hk'
        simp [List.getElem?_eq_getElem hk',e] at this
      refine pc_ofV cop42 ?_
      repeat' ((conv=>whnf);first|(with_reducible refine SeqP.go ?_)|((with_reducible refine ObD.mk ?_ ?_);(focus (first|rfl|(simp;done))))|((with_reducible refine ObN.mk ?_ ?_);(focus exact zN))|(with_reducible refine ObT.tt ?_)|(with_reducible refine ObT.ff ?_)|((with_reducible refine ObB.yes ?_ ?_);(focus (first|assumption|(with_reducible rfl)|omega)))|((with_reducible refine ObB.no ?_ ?_);(focus (first|assumption|omega)))|((with_reducible refine (?_:ObR _ _ _));(first|(refine ObR.mk _ (by assumption) ?_)|(refine ObR.mk _ (by with_reducible rfl) ?_)|(refine ObR.map zX (fun x hx=>?_))|(refine ObR.mk _ rfl ?_))))
      conv=>whnf
      refine LoopP.go (α:=Nat) (fun i=>i≤kk.length) (fun i=>kk.length - i) (fun i=>[(2,some (Bo false)),(0,some (I i)),(17,none),(0,none),(0,none),(0,none),(0,none),(0,none),(0,none),(0,none),(0,none),(0,none),(0,none),(0,none),(0,none)]) (fun i=>[⟨47,9,[nV 2 ke va mp kk mn ls sz bi],0,0⟩]) 0 (Nat.zero_le _) (Fg.go ?_ rfl) ?_
      · repeat' ((conv=>whnf);first|((with_reducible refine ObEqs.mk ?_ ?_);(focus rfl))|((with_reducible refine ObEq1.i ?_ ?_);(focus (first|(with_reducible rfl)|omega)))|((with_reducible refine ObEq1.mk ?_ ?_);(focus (first|rfl|assumption)))|exact True.intro)
      intro i hi
      have hlt:i < kk.length∨i=kk.length:=by omega
      rcases hlt with hlt|rfl
      · have hq : (kk.map iA)[i]? = some (I kk[i]) := iA_at hlt
        have hf:¬ kk[i]=0:=fun e=>by have:=h i hlt;simp [List.getElem?_eq_getElem hlt,e] at this
        repeat' ((conv=>whnf);first|(with_reducible refine SeqP.go ?_)|((with_reducible refine ObN.mk ?_ ?_);(focus exact zN))|(with_reducible refine ObT.tt ?_)|(with_reducible refine ObT.ff ?_)|((with_reducible refine ObB.yes ?_ ?_);(focus (first|assumption|(with_reducible rfl)|omega)))|((with_reducible refine ObB.no ?_ ?_);(focus (first|assumption|omega)))|((with_reducible refine ObI.nl ?_ ?_);(focus omega))|((with_reducible refine ObX.mk _ rfl ?_ ?_);(focus exact zX))|((with_reducible refine (?_:ObL _ _));(refine ObL.mk _ zL ?_))|((with_reducible refine (?_:ObR _ _ _));(first|(refine ObR.mk _ (by assumption) ?_)|(refine ObR.mk _ (by with_reducible rfl) ?_)|(refine ObR.map zX (fun x hx=>?_))|(refine ObR.mk _ rfl ?_))))
        conv=>whnf
        refine Again.mk (i+1) ?_ ?_ (Fg.go ?_ rfl)
        · omega
        · omega
        repeat' ((conv=>whnf);first|((with_reducible refine ObEqs.mk ?_ ?_);(focus rfl))|((with_reducible refine ObEq1.i ?_ ?_);(focus (first|(with_reducible rfl)|omega)))|((with_reducible refine ObEq1.mk ?_ ?_);(focus (first|rfl|assumption)))|exact True.intro)
      · repeat' ((conv=>whnf);first|(with_reducible refine SeqP.go ?_)|((with_reducible refine ObD.mk ?_ ?_);(focus (first|rfl|(simp;done))))|((with_reducible refine ObN.mk ?_ ?_);(focus exact zN))|(with_reducible refine ObT.tt ?_)|(with_reducible refine ObT.ff ?_)|((with_reducible refine ObB.no ?_ ?_);(focus (first|assumption|omega)))|(with_reducible refine ObB.mk (fun h=>?_) (fun h=>?_))|((with_reducible refine (?_:ObL _ _));(refine ObL.mk _ zL ?_))|((with_reducible refine (?_:ObR _ _ _));(first|(refine ObR.mk _ (by assumption) ?_)|(refine ObR.mk _ (by with_reducible rfl) ?_)|(refine ObR.map zX (fun x hx=>?_))|(refine ObR.mk _ rfl ?_)))|((with_reducible refine ObC.f 51 ?_);(first|(with_reducible refine ObC.mk _ (b7) ?_)|(refine ObC.mk _ (b7) ?_)))|((with_reducible refine ObC.f 50 ?_);(first|(with_reducible refine ObC.mk _ (b2) ?_)|(refine ObC.mk _ (b2) ?_)))|((with_reducible refine ObEq.mk ?_);(focus (first|rfl|assumption|exact (by cases r<;>cases q2<;>first|(simp_all;done)|(simp_all;omega))))))
    · have hz : (0 : Int) ∈ kk := List.mem_of_getElem? (of_decide_eq_true h2)
      obtain rfl:r=false:=by
        cases r with
        | false=>rfl
        | true=>exact absurd hz (hr'.1 rfl).1
      refine pc_ofV cop42 ?_
      repeat' ((conv=>whnf);first|(with_reducible refine SeqP.go ?_)|((with_reducible refine ObD.mk ?_ ?_);(focus (first|rfl|(simp;done))))|((with_reducible refine ObN.mk ?_ ?_);(focus exact zN))|(with_reducible refine ObT.tt ?_)|(with_reducible refine ObT.ff ?_)|((with_reducible refine ObB.yes ?_ ?_);(focus (first|assumption|(with_reducible rfl)|omega)))|((with_reducible refine ObB.no ?_ ?_);(focus (first|assumption|omega)))|((with_reducible refine (?_:ObR _ _ _));(first|(refine ObR.mk _ (by assumption) ?_)|(refine ObR.mk _ (by with_reducible rfl) ?_)|(refine ObR.map zX (fun x hx=>?_))|(refine ObR.mk _ rfl ?_))))
      conv=>whnf
      refine LoopP.go (α:=Nat) (fun i=>i≤i0) (fun i=>kk.length - i) (fun i=>[(2,some (Bo false)),(0,some (I i)),(17,none),(0,none),(0,none),(0,none),(0,none),(0,none),(0,none),(0,none),(0,none),(0,none),(0,none),(0,none),(0,none)]) (fun i=>[⟨47,9,[nV 2 ke va mp kk mn ls sz bi],0,0⟩]) 0 (Nat.zero_le _) (Fg.go ?_ rfl) ?_
      · repeat' ((conv=>whnf);first|((with_reducible refine ObEqs.mk ?_ ?_);(focus rfl))|((with_reducible refine ObEq1.i ?_ ?_);(focus (first|(with_reducible rfl)|omega)))|((with_reducible refine ObEq1.mk ?_ ?_);(focus (first|rfl|assumption)))|exact True.intro)
      intro i hi
      have hlt:i < kk.length:=by omega
      have hq:(kk.map iA)[i]? = some (I kk[i]):=iA_at hlt
      by_cases he:i=i0
      · subst he
        have hf:kk[i]=0:=by have:=of_decide_eq_true h2;rw [List.getElem?_eq_getElem hlt] at this;exact (Option.some.inj this)
        repeat' ((conv=>whnf);first|(with_reducible refine SeqP.go ?_)|((with_reducible refine ObN.mk ?_ ?_);(focus exact zN))|(with_reducible refine ObT.tt ?_)|((with_reducible refine ObB.yes ?_ ?_);(focus (first|assumption|(with_reducible rfl)|omega)))|((with_reducible refine ObX.mk _ rfl ?_ ?_);(focus exact zX))|((with_reducible refine (?_:ObL _ _));(refine ObL.mk _ zL ?_))|((with_reducible refine (?_:ObR _ _ _));(first|(refine ObR.mk _ (by assumption) ?_)|(refine ObR.mk _ (by with_reducible rfl) ?_)|(refine ObR.map zX (fun x hx=>?_))|(refine ObR.mk _ rfl ?_)))|((with_reducible refine ObEq.mk ?_);(focus (first|rfl|assumption))))
      · have hf:¬ kk[i]=0:=fun e=>by have:=h3 i (by omega);simp [List.getElem?_eq_getElem hlt,e] at this
        repeat' ((conv=>whnf);first|(with_reducible refine SeqP.go ?_)|((with_reducible refine ObN.mk ?_ ?_);(focus exact zN))|(with_reducible refine ObT.tt ?_)|(with_reducible refine ObT.ff ?_)|((with_reducible refine ObB.yes ?_ ?_);(focus (first|assumption|(with_reducible rfl)|omega)))|((with_reducible refine ObB.no ?_ ?_);(focus (first|assumption|omega)))|((with_reducible refine ObI.nl ?_ ?_);(focus omega))|((with_reducible refine ObX.mk _ rfl ?_ ?_);(focus exact zX))|((with_reducible refine (?_:ObL _ _));(refine ObL.mk _ zL ?_))|((with_reducible refine (?_:ObR _ _ _));(first|(refine ObR.mk _ (by assumption) ?_)|(refine ObR.mk _ (by with_reducible rfl) ?_)|(refine ObR.map zX (fun x hx=>?_))|(refine ObR.mk _ rfl ?_))))
        conv=>whnf
        refine Again.mk (i+1) ?_ ?_ (Fg.go ?_ rfl)
        · omega
        · omega
        repeat' ((conv=>whnf);first|((with_reducible refine ObEqs.mk ?_ ?_);(focus rfl))|((with_reducible refine ObEq1.i ?_ ?_);(focus (first|(with_reducible rfl)|omega)))|((with_reducible refine ObEq1.mk ?_ ?_);(focus (first|rfl|assumption)))|exact True.intro)
  · have hr' : r = true ↔ (2 : Int) ≤ (ls.length : Nat) ∧ q6 = true ∧ sz = (ls.length : Nat) ∧ q3 = true := by rw [hr]; simp [hb]
    clear hr
    refine pc_ofV cop42 ?_
    cases q6
    all_goals repeat' ((conv=>whnf);first|(with_reducible refine SeqP.go ?_)|((with_reducible refine ObD.mk ?_ ?_);(focus (first|rfl|(simp;done))))|((with_reducible refine ObN.mk ?_ ?_);(focus exact zN))|(with_reducible refine ObT.tt ?_)|(with_reducible refine ObT.ff ?_)|((with_reducible refine ObB.yes ?_ ?_);(focus (first|assumption|(with_reducible rfl)|omega)))|((with_reducible refine ObB.no ?_ ?_);(focus (first|assumption|omega)))|(with_reducible refine ObB.mk (fun h=>?_) (fun h=>?_))|((with_reducible refine (?_:ObL _ _));(refine ObL.mk _ zL ?_))|((with_reducible refine (?_:ObR _ _ _));(first|(refine ObR.mk _ (by assumption) ?_)|(refine ObR.mk _ (by with_reducible rfl) ?_)|(refine ObR.map zX (fun x hx=>?_))|(refine ObR.mk _ rfl ?_)))|((with_reducible refine ObC.f 50 ?_);(first|(with_reducible refine ObC.mk _ (b3) ?_)|(refine ObC.mk _ (b3) ?_)))|((with_reducible refine ObC.f 52 ?_);(first|(with_reducible refine ObC.mk _ (b6) ?_)|(refine ObC.mk _ (b6) ?_)))|((with_reducible refine ObEq.mk ?_);(focus (first|rfl|assumption|exact (by cases r<;>cases q3<;>first|(simp_all;done)|(simp_all;omega))))))
  · have hr' : r = true ↔ (mp : Int) = 0 ∧ ((kk.length : Nat) : Int) = 2 ∧ 1 ≤ sz ∧ q4 = true := by rw [hr]; simp [hb]
    clear hr
    refine pc_ofV cop42 ?_
    repeat' ((conv=>whnf);first|(with_reducible refine SeqP.go ?_)|((with_reducible refine ObD.mk ?_ ?_);(focus (first|rfl|(simp;done))))|((with_reducible refine ObN.mk ?_ ?_);(focus exact zN))|(with_reducible refine ObT.tt ?_)|(with_reducible refine ObT.ff ?_)|((with_reducible refine ObB.yes ?_ ?_);(focus (first|assumption|(with_reducible rfl)|omega)))|((with_reducible refine ObB.no ?_ ?_);(focus (first|assumption|omega)))|(with_reducible refine ObB.mk (fun h=>?_) (fun h=>?_))|((with_reducible refine (?_:ObL _ _));(refine ObL.mk _ zL ?_))|((with_reducible refine (?_:ObR _ _ _));(first|(refine ObR.mk _ (by assumption) ?_)|(refine ObR.mk _ (by with_reducible rfl) ?_)|(refine ObR.map zX (fun x hx=>?_))|(refine ObR.mk _ rfl ?_)))|((with_reducible refine ObC.f 50 ?_);(first|(with_reducible refine ObC.mk _ (b4) ?_)|(refine ObC.mk _ (b4) ?_)))|((with_reducible refine ObEq.mk ?_);(focus (first|rfl|assumption|exact (by cases r<;>cases q4<;>first|(simp_all;done)|(simp_all;omega))))))
  · have hr' : r = true ↔ ¬ mn = 0 ∧ sz = 0 ∧ q5 = true := by rw [hr]; simp [hb]
    clear hr
    refine pc_ofV cop42 ?_
    repeat' ((conv=>whnf);first|(with_reducible refine SeqP.go ?_)|((with_reducible refine ObD.mk ?_ ?_);(focus (first|rfl|(simp;done))))|((with_reducible refine ObN.mk ?_ ?_);(focus exact zN))|(with_reducible refine ObT.tt ?_)|(with_reducible refine ObT.ff ?_)|((with_reducible refine ObB.no ?_ ?_);(focus (first|assumption|omega)))|(with_reducible refine ObB.mk (fun h=>?_) (fun h=>?_))|((with_reducible refine (?_:ObR _ _ _));(first|(refine ObR.mk _ (by assumption) ?_)|(refine ObR.mk _ (by with_reducible rfl) ?_)|(refine ObR.map zX (fun x hx=>?_))|(refine ObR.mk _ rfl ?_)))|((with_reducible refine ObC.f 50 ?_);(first|(with_reducible refine ObC.mk _ (b5) ?_)|(refine ObC.mk _ (b5) ?_)))|((with_reducible refine ObEq.mk ?_);(focus (first|rfl|assumption|exact (by cases r<;>cases q5<;>first|(simp_all;done)|(simp_all;omega))))))
end Go.Proofs.Ytghbpplcgjeohaa.Sim
namespace Go.Proofs.Ytghbpplcgjeohaa.Sim.Pr7
open Go.RowKit
set_option maxRecDepth 100000
theorem set_pA {C:List Pr} {p:Nat} {x:Pr}:(C.map pA).set p (.agg [S x.1,S x.2])=(C.set p x).map pA:=by
  rw [List.map_set];rfl
def px (D:List Pr) (f:Nat→Nat):List Pr:=(List.range D.length).map fun x=>D.getD (f x) default
theorem px_len {D:List Pr} {f:Nat→Nat}:(px D f).length=D.length:=by simp [px]
theorem px_at {D:List Pr} {f:Nat→Nat} {x:Nat}:(px D f)[x]? = if x < D.length then some (D.getD (f x) default) else none:=by
  unfold px
  rw [List.getElem?_map]
  by_cases h:x < D.length
  · rw [List.getElem?_range h,if_pos h];rfl
  · rw [if_neg h,List.getElem?_eq_none (by simpa using h)];rfl
theorem px_get {D:List Pr} {f:Nat→Nat} {x:Nat} (h:x < (px D f).length):(px D f)[x]=D.getD (f x) default:=by
  have h2:x < D.length:=by rwa [px_len] at h
  have:=px_at (D:=D) (f:=f) (x:=x)
  rw [if_pos h2,List.getElem?_eq_getElem h] at this
  exact Option.some.inj this
theorem px_congr {D:List Pr} {f g:Nat→Nat} (h:∀ x,x < D.length→f x=g x):px D f=px D g:=by
  apply List.ext_getElem?
  intro x
  rw [px_at,px_at]
  by_cases hx:x < D.length
  · rw [if_pos hx,if_pos hx,h x hx]
  · rw [if_neg hx,if_neg hx]
theorem px_id {D:List Pr}:px D (fun x=>x)=D:=by
  apply List.ext_getElem?
  intro x
  rw [px_at]
  by_cases hx:x < D.length
  · rw [if_pos hx,List.getD_eq_getElem?_getD,List.getElem?_eq_getElem hx];rfl
  · rw [if_neg hx,List.getElem?_eq_none (by omega)]
theorem px_px {D:List Pr} {f g:Nat→Nat} (h:∀ x,x < D.length→g x < D.length):px (px D f) g=px D (fun x=>f (g x)):=by
  apply List.ext_getElem?
  intro x
  rw [px_at,px_at,px_len]
  by_cases hx:x < D.length
  · rw [if_pos hx,if_pos hx,List.getD_eq_getElem?_getD,px_at,if_pos (h x hx)];rfl
  · rw [if_neg hx,if_neg hx]
theorem px_set {D : List Pr} {f : Nat → Nat} {p q : Nat} (hp : p < (px D f).length) (hq : q < (px D f).length) :
    ((px D f).set p (px D f)[q]).set q (px D f)[p]=px D (fun x=>if x=q then f p else if x=p then f q else f x):=by
  apply List.ext_getElem?
  intro x
  rw [List.getElem?_set,List.getElem?_set,px_at,px_at,px_get hp,px_get hq]
  simp only [List.length_set,px_len] at *
  by_cases h1:q=x
  · subst h1;simp [hq]
  · by_cases h2 : p = x
    · subst h2;simp [hp,h1,Ne.symm h1]
    · simp [h1,h2,Ne.symm h1,Ne.symm h2]
def swf (a b n x:Nat):Nat:=if a≤x∧x < a+n then b+(x - a) else if b≤x∧x < b+n then a+(x - b) else x
abbrev rw0 (D:List Pr) (g:Nat):OB:=⟨62,2,D.map pA,g,0⟩
theorem rw0_eq {D E:List Pr} {g:Nat} (h:D=E):[rw0 D g]=[rw0 E g]:=by rw [h]
set_option maxHeartbeats 4000000 in
theorem swp46 (G : Nat → AV) (D : List Pr) (g a b n : Nat) (hN : D.length ≤ 1000000) (h1 : a + n ≤ b) (h2 : b + n ≤ D.length) (cf : AV) :
    HC Try.prog G 70 [.ol 0 g D.length,I a,I b,I n,cf] [rw0 D g] (.tup []) [rw0 (px D (swf a b n)) g]:=by
  refine hc_of cop70 ?_
  show W _ _ _ _ ⟨_,_⟩;simp only [A70,List.cons_append,List.nil_append,List.length_cons,List.length_nil,Nat.reduceAdd,Nat.reduceSub,List.replicate]
  repeat (first|with_reducible refine w_seq ?_|with_reducible refine w_reg ?_|with_reducible refine w_block ?_|with_reducible refine ws_nil ?_|with_reducible refine q_then ?_|((first|with_reducible refine ks fun K hK=>?_|with_reducible refine kd fun K hK=>?_|with_reducible refine kc fun K hK2 hK hK3=>?_);simp (disch:=omega) only [bg0,bg1,bg2,bg3,bg4,stepO,rsAs,eff,AX.ev,St.put,binA,conc,ap1,ofVal,Int.reduceTMod,Int.reduceTDiv,reduceCtorEq,fillA,AV.cells,AV.fine,AV.one,Nat.reduceAdd,Nat.reduceSub,Nat.reduceMul,Nat.reduceLT,Nat.reduceLeDiff,Int.reduceLT,Int.reduceLE,Int.reduceAdd,Int.reduceSub,Int.reduceNeg,Int.reduceMul,Int.reduceEq,Int.reduceToNat,nilA,moveA,live,loadA,rdA,storeA,wrA,intA,elemA,lenA,appA,srcA,isPtr,isNilPtr,partA,resOf,sliceA,cut,id,ap2,reduceIte,concs,chkB,geB,AOp.cls,AOp.xs,ltB,ltC,Nat.reduceBEq,Option.toList,List.cons_append,decide_eq_true,decide_eq_false,if_pos,if_neg,List.length_map,pA_at,List.cons_append,bVb,bVn,eq_self,Bool.and_self,BEq.rfl,not_true_eq_false,set_pA,List.length_set];(first|((with_reducible refine hK _ ?_);clear hK K)|((with_reducible refine hK ?_);clear hK hK3 K hK2)|((with_reducible refine hK3 ?_);clear hK hK3 K hK2))))
  refine w_loop_m [10,11,12,13,14,15,16,17,18,19,20,21,22,23,24,25,26,27,28,29,30,31,32,33,34,35,36,37] (fun k v H=>v 10=I k∧H=[rw0 (px D (swf a b k)) g]) n ⟨rfl,?_⟩ ?_ ?_
  · refine rw0_eq ?_
    have e:px D (swf a b 0)=px D (fun x=>x):=px_congr fun x _=>by
      simp only [swf]
      repeat' split
      all_goals omega
    rw [e,px_id]
  · rintro k v H hk ⟨h10, rfl⟩
    have hl:(px D (swf a b k)).length=D.length:=px_len
    have hp:a+k < (px D (swf a b k)).length:=by omega
    have hq:b+k < (px D (swf a b k)).length:=by omega
    have hs:=px_set hp hq
    generalize px D (swf a b k)=C at hl hp hq hs
    have q1:=pA_at (l:=C.set (a+k) C[b+k]) (k:=b+k) (by simp;omega)
    have e1:((a:Int)+(k:Int)).toNat=a+k:=by omega
    have e2:((b:Int)+(k:Int)).toNat=b+k:=by omega
    simp only [mix,mix_nil,mix_end,mix_skp,Nat.reduceEqDiff,Nat.reduceLeDiff,reduceCtorEq,if_true,if_false,reduceIte,Nat.reduceAdd,h10]
    repeat (first|with_reducible refine w_seq ?_|with_reducible refine w_reg ?_|(with_reducible refine w_drawx2 ?_ ?_ ?_ ?_;rotate_left 1)|with_reducible exact isSt|with_reducible refine w_block ?_|with_reducible refine w_skip ?_|with_reducible refine ws_nil ?_|with_reducible refine wd_nil ?_|with_reducible refine q_then ?_|with_reducible refine q_block_n ?_|((first|with_reducible refine ks fun K hK=>?_|with_reducible refine kd fun K hK=>?_|with_reducible refine kc fun K hK2 hK hK3=>?_);simp (disch:=omega) only [bg0,bg1,bg2,bg3,bg4,stepO,rsAs,eff,AX.ev,St.put,binA,conc,ap1,ofVal,Int.reduceTMod,Int.reduceTDiv,reduceCtorEq,fillA,AV.cells,AV.fine,AV.one,Nat.reduceAdd,Nat.reduceSub,Nat.reduceMul,Nat.reduceLT,Nat.reduceLeDiff,Int.reduceLT,Int.reduceLE,Int.reduceAdd,Int.reduceSub,Int.reduceNeg,Int.reduceMul,Int.reduceEq,Int.reduceToNat,nilA,moveA,live,loadA,rdA,storeA,wrA,intA,elemA,lenA,appA,srcA,isPtr,isNilPtr,partA,resOf,sliceA,cut,id,ap2,reduceIte,concs,chkB,geB,AOp.cls,AOp.xs,ltB,ltC,Nat.reduceBEq,Option.toList,List.cons_append,decide_eq_true,decide_eq_false,if_pos,if_neg,List.length_map,pA_at,List.cons_append,bVb,bVn,eq_self,Bool.and_self,BEq.rfl,not_true_eq_false,set_pA,List.length_set,e1,e2,q1];(first|((with_reducible refine hK _ ?_);clear hK K)|((with_reducible refine hK ?_);clear hK hK3 K hK2)|((with_reducible refine hK3 ?_);clear hK hK3 K hK2))))
    refine ⟨rfl,rfl,rw0_eq (hs.trans (px_congr fun x hx=>?_))⟩
    simp only [swf]
    repeat' split
    all_goals omega
  · rintro v H ⟨h10, rfl⟩
    simp only [mix,mix_nil,mix_end,mix_skp,Nat.reduceEqDiff,Nat.reduceLeDiff,reduceCtorEq,if_true,if_false,reduceIte,Nat.reduceAdd,h10]
    repeat (first|with_reducible refine w_seq ?_|with_reducible refine w_reg ?_|with_reducible refine w_exit ?_|with_reducible refine ws_nil ?_|with_reducible refine q_then ?_|with_reducible refine q_then_x ?_|with_reducible refine q_block_x ?_|((first|with_reducible refine ks fun K hK=>?_|with_reducible refine kd fun K hK=>?_|with_reducible refine kc fun K hK2 hK hK3=>?_);simp (disch:=omega) only [bg0,bg1,bg2,bg3,bg4,stepO,rsAs,eff,AX.ev,St.put,binA,conc,ap1,ofVal,Int.reduceTMod,Int.reduceTDiv,reduceCtorEq,fillA,AV.cells,AV.fine,AV.one,Nat.reduceAdd,Nat.reduceSub,Nat.reduceMul,Nat.reduceLT,Nat.reduceLeDiff,Int.reduceLT,Int.reduceLE,Int.reduceAdd,Int.reduceSub,Int.reduceNeg,Int.reduceMul,Int.reduceEq,Int.reduceToNat,nilA,moveA,live,loadA,rdA,storeA,wrA,intA,elemA,lenA,appA,srcA,isPtr,isNilPtr,partA,resOf,sliceA,cut,id,ap2,reduceIte,concs,chkB,geB,AOp.cls,AOp.xs,ltB,ltC,Nat.reduceBEq,Option.toList,List.cons_append,decide_eq_true,decide_eq_false,if_pos,if_neg,List.length_map,pA_at,List.cons_append,bVb,bVn,eq_self,Bool.and_self,BEq.rfl,not_true_eq_false,set_pA,List.length_set];(first|((with_reducible refine hK _ ?_);clear hK K)|((with_reducible refine hK ?_);clear hK hK3 K hK2)|((with_reducible refine hK3 ?_);clear hK hK3 K hK2)))|((with_reducible refine ret_0 ?_);try rfl))
def rtf (a m b x:Nat):Nat:=if a≤x∧x < a+(b - m) then m+(x - a) else if a+(b - m)≤x∧x < b then x - (b - m) else x
theorem rtf_lt {a m b x N:Nat} (h1:a≤m) (h2:m≤b) (h3:b≤N) (hx:x < N):rtf a m b x < N:=by
  unfold rtf;repeat' split
  all_goals omega
theorem rt_gt {C:List Pr} {m i j:Nat} (hij:j < i) (hj:0 < j) (hi:i≤m) (hb:m+j≤C.length):px (px C (swf (m - i) m j)) (rtf (m - (i - j)) m (m+j))=px C (rtf (m - i) m (m+j)):=by
  rw [px_px fun x hx=>rtf_lt (by omega) (by omega) hb hx]
  refine px_congr fun x hx=>?_
  simp only [swf,rtf]
  repeat' split
  all_goals omega
theorem rt_lt {C:List Pr} {m i j:Nat} (hij:i < j) (hi0:0 < i) (hi:i≤m) (hb:m+j≤C.length):px (px C (swf (m - i) (m+j - i) i)) (rtf (m - i) m (m+(j - i)))=px C (rtf (m - i) m (m+j)):=by
  rw [px_px fun x hx=>rtf_lt (by omega) (by omega) (by omega) hx]
  refine px_congr fun x hx=>?_
  simp only [swf,rtf]
  repeat' split
  all_goals omega
theorem rt_eq {C:List Pr} {m i:Nat} (hi:i≤m) (hb:m+i≤C.length):px C (swf (m - i) m i)=px C (rtf (m - i) m (m+i)):=by
  refine px_congr fun x hx=>?_
  simp only [swf,rtf]
  repeat' split
  all_goals omega
set_option maxHeartbeats 4000000 in
theorem rot45 (G : Nat → AV) (D : List Pr) (g a m b : Nat) (hN : D.length ≤ 1000000) (h1 : a < m) (h2 : m < b) (h3 : b ≤ D.length) (cf : AV) :
    HC Try.prog G 69 [.ol 0 g D.length,I a,I m,I b,cf] [rw0 D g] (.tup []) [rw0 (px D (rtf a m b)) g]:=by
  refine hc_of cop69 ?_
  show W _ _ _ _ ⟨_,_⟩;simp only [A69,List.cons_append,List.nil_append,List.length_cons,List.length_nil,Nat.reduceAdd,Nat.reduceSub,List.replicate]
  repeat (first|with_reducible refine w_seq ?_|with_reducible refine w_reg ?_|with_reducible refine w_block ?_|with_reducible refine ws_nil ?_|with_reducible refine q_then ?_|((first|with_reducible refine ks fun K hK=>?_|with_reducible refine kd fun K hK=>?_|with_reducible refine kc fun K hK2 hK hK3=>?_);simp (disch:=omega) only [bg0,bg1,bg2,bg3,bg4,stepO,rsAs,eff,AX.ev,St.put,binA,conc,ap1,ofVal,Int.reduceTMod,Int.reduceTDiv,reduceCtorEq,fillA,AV.cells,AV.fine,AV.one,Nat.reduceAdd,Nat.reduceSub,Nat.reduceMul,Nat.reduceLT,Nat.reduceLeDiff,Int.reduceLT,Int.reduceLE,Int.reduceAdd,Int.reduceSub,Int.reduceNeg,Int.reduceMul,Int.reduceEq,Int.reduceToNat,nilA,moveA,live,loadA,rdA,storeA,wrA,intA,elemA,lenA,appA,srcA,isPtr,isNilPtr,partA,resOf,sliceA,cut,id,ap2,reduceIte,concs,chkB,geB,AOp.cls,AOp.xs,ltB,ltC,Nat.reduceBEq,Option.toList,List.cons_append,decide_eq_true,decide_eq_false,if_pos,if_neg,List.length_map,pA_at,List.cons_append,bVb,bVn,eq_self,Bool.and_self,BEq.rfl,not_true_eq_false,set_pA,List.length_set];(first|((with_reducible refine hK _ ?_);clear hK K)|((with_reducible refine hK ?_);clear hK hK3 K hK2)|((with_reducible refine hK3 ?_);clear hK hK3 K hK2))))
  refine w_loop_d [10,11,18,19,20,21,22,23,24,25,26,27,28,29,30,31,32,33,34,35,36,37,38,39,40,41,42,43,44,45,46,47,48,49] (fun u v H=>∃ (i j:Nat) (C:List Pr),u=i+j∧v 10=I i∧v 11=I j∧H=[rw0 C g]∧C.length=D.length∧0 < i∧0 < j∧i≤m - a∧j≤b - m∧px C (rtf (m - i) m (m+j))=px D (rtf a m b)) (b - a) ⟨m - a,b - m,D,by omega,by simp [at_];omega,by simp [at_];omega,rfl,rfl,by omega,by omega,by omega,by omega,by rw [show m - (m - a)=a by omega,show m+(b - m)=b by omega]⟩ ?_
  rintro u v H ⟨i,j,C,rfl,h10,h11,rfl,hl,hi,hj,hi2,hj2,hpx⟩
  simp only [mix,mix_nil,mix_end,mix_skp,Nat.reduceEqDiff,Nat.reduceLeDiff,reduceCtorEq,if_true,if_false,reduceIte,Nat.reduceAdd,h10,h11]
  have e1:(m:Int) - (i:Int)=((m - i:Nat):Int):=by omega
  by_cases hij:i=j
  · subst hij
    rw [← hpx,← rt_eq (by omega) (by omega),← hl]
    repeat (first|with_reducible refine w_seq ?_|with_reducible refine w_reg ?_|with_reducible refine w_exit ?_|with_reducible refine ws_nil ?_|with_reducible refine q_then ?_|with_reducible refine q_then_x ?_|with_reducible refine q_block_x ?_|((first|with_reducible refine ks fun K hK=>?_|with_reducible refine kd fun K hK=>?_|with_reducible refine kc fun K hK2 hK hK3=>?_);simp (disch:=omega) only [bg0,bg1,bg2,bg3,bg4,stepO,rsAs,eff,AX.ev,St.put,binA,conc,ap1,ofVal,Int.reduceTMod,Int.reduceTDiv,reduceCtorEq,fillA,AV.cells,AV.fine,AV.one,Nat.reduceAdd,Nat.reduceSub,Nat.reduceMul,Nat.reduceLT,Nat.reduceLeDiff,Int.reduceLT,Int.reduceLE,Int.reduceAdd,Int.reduceSub,Int.reduceNeg,Int.reduceMul,Int.reduceEq,Int.reduceToNat,nilA,moveA,live,loadA,rdA,storeA,wrA,intA,elemA,lenA,appA,srcA,isPtr,isNilPtr,partA,resOf,sliceA,cut,id,ap2,reduceIte,concs,chkB,geB,AOp.cls,AOp.xs,ltB,ltC,Nat.reduceBEq,Option.toList,List.cons_append,decide_eq_true,decide_eq_false,if_pos,if_neg,List.length_map,pA_at,List.cons_append,bVb,bVn,eq_self,Bool.and_self,BEq.rfl,not_true_eq_false,set_pA,List.length_set,e1];(first|((with_reducible refine hK _ ?_);clear hK K)|((with_reducible refine hK ?_);clear hK hK3 K hK2)|((with_reducible refine hK3 ?_);clear hK hK3 K hK2)))|((with_reducible refine khs 70 ?_ ?_ ?_ ?_);rotate_left 2;exact (swp46 G C g (m - i) m i (by omega) (by omega) (by omega) cf))|((with_reducible refine ret_0 ?_);try rfl))
  · by_cases hgt : j < i
    · have hn : ¬ ((i : Int) = (j : Int)) := by omega
      have hg:(j:Int) < (i:Int):=by omega
      have e2:(i:Int) - (j:Int)=((i - j:Nat):Int):=by omega
      rw [← hl]
      repeat (first|with_reducible refine w_seq ?_|with_reducible refine w_reg ?_|with_reducible refine w_block ?_|with_reducible refine w_skip ?_|with_reducible refine ws_nil ?_|with_reducible refine q_then ?_|with_reducible refine q_block_n ?_|((first|with_reducible refine ks fun K hK=>?_|with_reducible refine kd fun K hK=>?_|with_reducible refine kc fun K hK2 hK hK3=>?_);simp (disch:=omega) only [bg0,bg1,bg2,bg3,bg4,stepO,rsAs,eff,AX.ev,St.put,binA,conc,ap1,ofVal,Int.reduceTMod,Int.reduceTDiv,reduceCtorEq,fillA,AV.cells,AV.fine,AV.one,Nat.reduceAdd,Nat.reduceSub,Nat.reduceMul,Nat.reduceLT,Nat.reduceLeDiff,Int.reduceLT,Int.reduceLE,Int.reduceAdd,Int.reduceSub,Int.reduceNeg,Int.reduceMul,Int.reduceEq,Int.reduceToNat,nilA,moveA,live,loadA,rdA,storeA,wrA,intA,elemA,lenA,appA,srcA,isPtr,isNilPtr,partA,resOf,sliceA,cut,id,ap2,reduceIte,concs,chkB,geB,AOp.cls,AOp.xs,ltB,ltC,Nat.reduceBEq,Option.toList,List.cons_append,decide_eq_true,decide_eq_false,if_pos,if_neg,List.length_map,pA_at,List.cons_append,bVb,bVn,eq_self,Bool.and_self,BEq.rfl,not_true_eq_false,set_pA,List.length_set,e1,e2,hn,hg];(first|((with_reducible refine hK _ ?_);clear hK K)|((with_reducible refine hK ?_);clear hK hK3 K hK2)|((with_reducible refine hK3 ?_);clear hK hK3 K hK2)))|((with_reducible refine khs 70 ?_ ?_ ?_ ?_);rotate_left 2;exact (swp46 G C g (m - i) m j (by omega) (by omega) (by omega) cf)))
      exact ⟨rfl,i,by omega,i - j,j,_,by omega,rfl,rfl,rfl,by rw [px_len,hl],by omega,hj,by omega,hj2,by rw [rt_gt hgt hj (by omega) (by omega)];exact hpx⟩
    · have hn : ¬ ((i : Int) = (j : Int)) := by omega
      have hg:¬ (j:Int) < (i:Int):=by omega
      have e2:(j:Int) - (i:Int)=((j - i:Nat):Int):=by omega
      have e3:(m:Int)+(j:Int) - (i:Int)=((m+j - i:Nat):Int):=by omega
      rw [← hl]
      repeat (first|with_reducible refine w_seq ?_|with_reducible refine w_reg ?_|with_reducible refine w_block ?_|with_reducible refine w_skip ?_|with_reducible refine ws_nil ?_|with_reducible refine q_then ?_|with_reducible refine q_block_n ?_|((first|with_reducible refine ks fun K hK=>?_|with_reducible refine kd fun K hK=>?_|with_reducible refine kc fun K hK2 hK hK3=>?_);simp (disch:=omega) only [bg0,bg1,bg2,bg3,bg4,stepO,rsAs,eff,AX.ev,St.put,binA,conc,ap1,ofVal,Int.reduceTMod,Int.reduceTDiv,reduceCtorEq,fillA,AV.cells,AV.fine,AV.one,Nat.reduceAdd,Nat.reduceSub,Nat.reduceMul,Nat.reduceLT,Nat.reduceLeDiff,Int.reduceLT,Int.reduceLE,Int.reduceAdd,Int.reduceSub,Int.reduceNeg,Int.reduceMul,Int.reduceEq,Int.reduceToNat,nilA,moveA,live,loadA,rdA,storeA,wrA,intA,elemA,lenA,appA,srcA,isPtr,isNilPtr,partA,resOf,sliceA,cut,id,ap2,reduceIte,concs,chkB,geB,AOp.cls,AOp.xs,ltB,ltC,Nat.reduceBEq,Option.toList,List.cons_append,decide_eq_true,decide_eq_false,if_pos,if_neg,List.length_map,pA_at,List.cons_append,bVb,bVn,eq_self,Bool.and_self,BEq.rfl,not_true_eq_false,set_pA,List.length_set,e1,e2,e3,hn,hg];(first|((with_reducible refine hK _ ?_);clear hK K)|((with_reducible refine hK ?_);clear hK hK3 K hK2)|((with_reducible refine hK3 ?_);clear hK hK3 K hK2)))|((with_reducible refine khs 70 ?_ ?_ ?_ ?_);rotate_left 2;exact (swp46 G C g (m - i) (m+j - i) i (by omega) (by omega) (by omega) cf)))
      exact ⟨rfl,j,by omega,i,j - i,_,by omega,rfl,rfl,rfl,by rw [px_len,hl],hi,by omega,hi2,by omega,by rw [rt_lt (by omega) hi (by omega) (by omega)];exact hpx⟩
end Go.Proofs.Ytghbpplcgjeohaa.Sim.Pr7
namespace Go.Proofs.Ytghbpplcgjeohaa.Sim.Pr7
open Go.RowKit
set_option maxRecDepth 100000
abbrev cF:AV:=.v (.func (.func 64) #[] #[])
set_option maxHeartbeats 4000000 in
theorem cmp29 (G:Nat→AV) (a b c d:ByteArray) (ha:a.size≤9223372036854775807) (hc:c.size≤9223372036854775807):PC Try.prog G 64 [.agg [S a,S b],.agg [S c,S d]] (I (cB a c)):=by
  refine pc_of cop64 ?_
  show W _ _ _ _ ⟨_,_⟩;simp only [A64,List.cons_append,List.nil_append,List.length_cons,List.length_nil,Nat.reduceAdd,Nat.reduceSub,List.replicate]
  repeat (first|with_reducible refine w_seq ?_|with_reducible refine w_reg ?_|with_reducible refine ws_nil ?_|with_reducible refine q_then ?_|with_reducible refine w_ret ?_|((first|with_reducible refine ks fun K hK=>?_|with_reducible refine kd fun K hK=>?_|with_reducible refine kc fun K hK2 hK hK3=>?_);simp (disch:=omega) only [bg0,bg1,bg2,bg3,bg4,stepO,rsAs,eff,AX.ev,St.put,binA,conc,ap1,ofVal,Int.reduceTMod,Int.reduceTDiv,reduceCtorEq,fillA,AV.cells,AV.fine,AV.one,Nat.reduceAdd,Nat.reduceSub,Nat.reduceMul,Nat.reduceLT,Nat.reduceLeDiff,Int.reduceLT,Int.reduceLE,Int.reduceAdd,Int.reduceSub,Int.reduceNeg,Int.reduceMul,Int.reduceEq,Int.reduceToNat,nilA,moveA,live,loadA,rdA,storeA,wrA,intA,elemA,lenA,appA,srcA,isPtr,isNilPtr,partA,resOf,sliceA,cut,id,ap2,reduceIte,concs,chkB,geB,AOp.cls,AOp.xs,ltB,ltC,Nat.reduceBEq,Option.toList,List.cons_append,decide_eq_true,decide_eq_false,if_pos,if_neg,List.length_map,List.cons_append,bVb,bVn,eq_self,Bool.and_self,BEq.rfl,not_true_eq_false,set_pA,List.length_set];(first|((with_reducible refine hK _ ?_);clear hK K)|((with_reducible refine hK ?_);clear hK hK3 K hK2)|((with_reducible refine hK3 ?_);clear hK hK3 K hK2)))|((with_reducible refine kps 56 ?_ ?_ ?_ ?_);rotate_left 1;rfl;exact (by refine cmpP G _ _ ?_ ?_<;>assumption))|((first|with_reducible refine ret_h fun K hK=>?_|with_reducible refine ret_hh rfl fun K hK=>?_|with_reducible refine ret_pp fun K hK=>?_);simp (disch:=omega) only [bg0,bg1,bg2,bg3,bg4,stepO,rsAs,eff,AX.ev,St.put,binA,conc,ap1,ofVal,Int.reduceTMod,Int.reduceTDiv,reduceCtorEq,fillA,AV.cells,AV.fine,AV.one,Nat.reduceAdd,Nat.reduceSub,Nat.reduceMul,Nat.reduceLT,Nat.reduceLeDiff,Int.reduceLT,Int.reduceLE,Int.reduceAdd,Int.reduceSub,Int.reduceNeg,Int.reduceMul,Int.reduceEq,Int.reduceToNat,nilA,moveA,live,loadA,rdA,storeA,wrA,intA,elemA,lenA,appA,srcA,isPtr,isNilPtr,partA,resOf,sliceA,cut,id,ap2,reduceIte,concs,chkB,geB,AOp.cls,AOp.xs,ltB,ltC,Nat.reduceBEq,Option.toList,List.cons_append,decide_eq_true,decide_eq_false,if_pos,if_neg,List.length_map,List.cons_append,bVb,bVn,eq_self,Bool.and_self,BEq.rfl,not_true_eq_false,set_pA,List.length_set];(first|((with_reducible refine hK _ ?_ ?_ ?_ ?_);rotate_left 2;rfl;rfl)|((with_reducible refine hK _ ?_);rfl))))
theorem cmpC (G:Nat→AV) (H:Hp) {p q:Pr} (ha:p.1.size≤9223372036854775807) (hc:q.1.size≤9223372036854775807):HC Try.prog G 64 [.agg [S p.1,S p.2],.agg [S q.1,S q.2]] H (I (cB p.1 q.1)) H:=hc_pc rfl (cmp29 G _ _ _ _ ha hc) H
theorem pAq {C:List Pr} {k:Nat} {p:Pr} (h:C[k]? = some p):(C.map pA)[k]? = some (.agg [S p.1,S p.2]):=by rw [List.getElem?_map,h];rfl
theorem ssort_mem {l:List Pr} {x:Pr}:x ∈ ssort l↔x ∈ l:=by
  have h1:x ∈ ssort l↔x ∈ fk x.1 (ssort l):=⟨fun h=>mem_fk.2 ⟨h,rfl⟩,fun h=>(mem_fk.1 h).1⟩
  have h2:x ∈ l↔x ∈ fk x.1 l:=⟨fun h=>mem_fk.2 ⟨h,rfl⟩,fun h=>(mem_fk.1 h).1⟩
  rw [h1,h2,ssort_fk]
theorem ins_len {p:Pr}:∀ {n:List Pr},(ins p n).length=n.length+1
  | []=>rfl
  | q::n=>by unfold ins;split<;>simp [ins_len (n:=n)]
theorem ssort_len:∀ {l:List Pr},(ssort l).length=l.length
  | []=>rfl
  | p::l=>by rw [ssort,ins_len,ssort_len (l:=l)];rfl
theorem ins_at {S S1 S2:List Pr} {x:Pr} {L:List Pr} (hS:S1++S2=ssort L) (h1:∀ p ∈ S1,cB p.1 x.1≤0) (h2:∀ q ∈ S2,cB x.1 q.1 < 0):S1++x::S2=ssort (L++[x]):=by
  have hle:SLe (S1++S2):=by rw [hS];exact ssort_le L
  obtain ⟨a1,a2,a3⟩:=List.pairwise_append.1 hle
  refine srt_uniq ?_ (ssort_le _) fun k=>?_
  · refine List.pairwise_append.2 ⟨a1,List.pairwise_cons.2 ⟨fun q hq=>by have:=h2 q hq;omega,a2⟩,fun p hp q hq=>?_⟩
    rcases List.mem_cons.1 hq with rfl|hq
    · exact h1 p hp
    · exact a3 p hp q hq
  · rw [ssort_fk, fk_append, fk_append, fk_cons, fk_cons, fk_nil, ← ssort_fk L, ← hS, fk_append]
    by_cases hx:x.1=k
    · have : fk k S2 = [] := fk_none.2 fun q hq e => by
        have:=h2 q hq
        rw [e,hx,cB_self] at this
        omega
      simp [hx,this]
    · simp [hx]
theorem at_mid {P S R:List Pr} {x:Pr} {k:Nat} (hk:k=P.length+S.length):(P++(S++x::R))[k]? = some x:=by
  subst hk
  rw [List.getElem?_append_right (by omega),List.getElem?_append_right (by omega)]
  simp
theorem at_pre {P S R:List Pr} {x y:Pr} {k:Nat} (hk:k=P.length+S.length):(P++(S++[y]++x::R))[k]? = some y:=by
  have:=at_mid (P:=P) (S:=S) (x:=y) (R:=x::R) hk
  simpa using this
theorem sw_mid {P S R:List Pr} {x y:Pr} {k:Nat} (hk:k=P.length+S.length):((P++(S++[y]++x::R)).set (k+1) y).set k x=P++(S++x::y::R):=by
  subst hk
  have e:P++(S++[y]++x::R)=(P++S)++y::x::R:=by simp
  have e2:P++(S++x::y::R)=(P++S)++x::y::R:=by simp
  rw [e,e2,show P.length+S.length=(P++S).length from (List.length_append).symm,List.set_append_right _ _ (by omega),List.set_append_right _ _ (by omega)]
  simp
def seg (D:List Pr) (a b:Nat):List Pr:=(D.take b).drop a
def srt (D:List Pr) (a b:Nat):List Pr:=D.take a++(ssort (seg D a b)++D.drop b)
theorem srt_one {D:List Pr} {a b:Nat} (h:b≤a+1) (hb:b≤D.length) (hab:a≤b):srt D a b=D:=by
  have e:ssort (seg D a b)=seg D a b:=by
    have:(seg D a b).length≤1:=by simp [seg];omega
    match h:seg D a b,this with
    | [],_=>rfl
    | [p],_=>rfl
  unfold srt
  rw [e]
  unfold seg
  have h1:D.take b=D.take a++(D.take b).drop a:=by
    have:=List.take_append_drop a (D.take b)
    rw [List.take_take,Nat.min_eq_left hab] at this
    exact this.symm
  rw [← List.append_assoc,← h1,List.take_append_drop]
theorem seg_succ {D:List Pr} {a i:Nat} (ha:a≤i) (hi:i < D.length):seg D a (i+1)=seg D a i++[D[i]]:=by
  unfold seg
  rw [List.take_add_one,List.getElem?_eq_getElem hi,List.drop_append_of_le_length (by simp;omega)]
  rfl
theorem seg_len {D:List Pr} {a b:Nat} (hb:b≤D.length):(seg D a b).length=b - a:=by simp [seg];omega
theorem seg_mem {D:List Pr} {a b:Nat} {x:Pr} (h:x ∈ seg D a b):x ∈ D:=List.mem_of_mem_take (List.mem_of_mem_drop h)
theorem le_all {S:List Pr} {y:Pr} {x:ByteArray} {R:List Pr} (h:SLe (S++[y]++R)) (hy:cB y.1 x≤0):∀ p ∈ S++[y],cB p.1 x≤0:=by
  intro p hp
  have h1:=(List.pairwise_append.1 h).1
  rcases List.mem_append.1 hp with hp|hp
  · have := (List.pairwise_append.1 h1).2.2 p hp y (by simp)
    exact cB_le this hy
  · simp at hp;subst hp;exact hy
theorem last_cases {l:List Pr}:l=[]∨∃ S y,l=S++[y]:=by
  rcases List.eq_nil_or_concat l with h|⟨S,y,h⟩
  · exact .inl h
  · exact .inr ⟨S,y,by rw [h,List.concat_eq_append]⟩
set_option maxHeartbeats 8000000 in
theorem ins43 (G : Nat → AV) (D : List Pr) (g a b : Nat) (hN : Okl D) (h1 : a ≤ b) (h2 : b ≤ D.length) :
    HC Try.prog G 67 [.ol 0 g D.length,I a,I b,cF] [rw0 D g] (.tup []) [rw0 (srt D a b) g]:=by
  have hlen:=hN.len
  refine hc_of cop67 ?_
  show W _ _ _ _ ⟨_,_⟩;simp only [A67,List.cons_append,List.nil_append,List.length_cons,List.length_nil,Nat.reduceAdd,Nat.reduceSub,List.replicate]
  repeat (first|with_reducible refine w_seq ?_|with_reducible refine w_reg ?_|with_reducible refine w_block ?_|with_reducible refine ws_nil ?_|with_reducible refine q_then ?_|((first|with_reducible refine ks fun K hK=>?_|with_reducible refine kd fun K hK=>?_|with_reducible refine kc fun K hK2 hK hK3=>?_);simp (disch:=omega) only [bg0,bg1,bg2,bg3,bg4,stepO,rsAs,eff,AX.ev,St.put,binA,conc,ap1,ofVal,Int.reduceTMod,Int.reduceTDiv,reduceCtorEq,fillA,AV.cells,AV.fine,AV.one,Nat.reduceAdd,Nat.reduceSub,Nat.reduceMul,Nat.reduceLT,Nat.reduceLeDiff,Int.reduceLT,Int.reduceLE,Int.reduceAdd,Int.reduceSub,Int.reduceNeg,Int.reduceMul,Int.reduceEq,Int.reduceToNat,nilA,moveA,live,loadA,rdA,storeA,wrA,intA,elemA,lenA,appA,srcA,isPtr,isNilPtr,partA,resOf,sliceA,cut,id,ap2,reduceIte,concs,chkB,geB,AOp.cls,AOp.xs,ltB,ltC,Nat.reduceBEq,Option.toList,List.cons_append,decide_eq_true,decide_eq_false,if_pos,if_neg,List.length_map,List.cons_append,bVb,bVn,eq_self,Bool.and_self,BEq.rfl,not_true_eq_false,set_pA,List.length_set];(first|((with_reducible refine hK _ ?_);clear hK K)|((with_reducible refine hK ?_);clear hK hK3 K hK2)|((with_reducible refine hK3 ?_);clear hK hK3 K hK2))))
  refine w_loop_m [8,9,12,13,14,15,16,17,18,19,20,21,22,23,24,25,26,27,28,29,30,31,32,33,34,35,36,37,38,39,40,41,42,43,44,45,46,47,48,49,50,51,52] (fun k v H=>v 8=I ((a+1+k:Nat):Int)∧H=[rw0 (srt D a (min b (a+1+k))) g]) (b - (a+1)) ⟨rfl,?_⟩ ?_ ?_
  · rw [srt_one (by omega) (by omega) (by omega)]
  · rintro k v H hk ⟨h8, rfl⟩
    have hi:a+1+k < D.length:=by omega
    rw [show min b (a+1+k)=a+1+k by omega]
    obtain ⟨i,hI⟩:∃ i,i=a+1+k:=⟨_,rfl⟩
    rw [show min b (a+1+(k+1))=i+1 by omega]
    rw [← hI] at hi h8 ⊢
    have hd:srt D a i=D.take a++(ssort (seg D a i)++D[i]::D.drop (i+1)):=by
      unfold srt;rw [List.drop_eq_getElem_cons hi]
    have hd2:srt D a (i+1)=D.take a++(ssort (seg D a i++[D[i]])++D.drop (i+1)):=by
      unfold srt;rw [seg_succ (by omega) hi]
    have hsz:∀ p ∈ seg D a i,p.1.size≤9223372036854775807:=fun p hp=>(hN.sz p (seg_mem hp)).1
    have hx:=(hN.sz _ (List.getElem_mem hi)).1
    have hPl:(D.take a).length=a:=by simp;omega
    have hLl:(ssort (seg D a i)).length=i - a:=by rw [ssort_len,seg_len (by omega)]
    have hN2:(srt D a i).length=D.length:=by rw [hd];simp [hLl];omega
    rw [hd,hd2]
    rw [hd] at hN2
    generalize D[i]=x at *
    generalize seg D a i=L at *
    generalize D.take a=P at *
    generalize D.drop (i+1)=R at *
    simp only [mix,mix_nil,mix_end,mix_skp,Nat.reduceEqDiff,Nat.reduceLeDiff,reduceCtorEq,if_true,if_false,reduceIte,Nat.reduceAdd,h8]
    repeat (first|with_reducible refine w_seq ?_|with_reducible refine w_reg ?_|with_reducible refine w_block ?_|with_reducible refine w_skip ?_|with_reducible refine ws_nil ?_|with_reducible refine q_then ?_|((first|with_reducible refine ks fun K hK=>?_|with_reducible refine kd fun K hK=>?_|with_reducible refine kc fun K hK2 hK hK3=>?_);simp (disch:=omega) only [bg0,bg1,bg2,bg3,bg4,stepO,rsAs,eff,AX.ev,St.put,binA,conc,ap1,ofVal,Int.reduceTMod,Int.reduceTDiv,reduceCtorEq,fillA,AV.cells,AV.fine,AV.one,Nat.reduceAdd,Nat.reduceSub,Nat.reduceMul,Nat.reduceLT,Nat.reduceLeDiff,Int.reduceLT,Int.reduceLE,Int.reduceAdd,Int.reduceSub,Int.reduceNeg,Int.reduceMul,Int.reduceEq,Int.reduceToNat,nilA,moveA,live,loadA,rdA,storeA,wrA,intA,elemA,lenA,appA,srcA,isPtr,isNilPtr,partA,resOf,sliceA,cut,id,ap2,reduceIte,concs,chkB,geB,AOp.cls,AOp.xs,ltB,ltC,Nat.reduceBEq,Option.toList,List.cons_append,decide_eq_true,decide_eq_false,if_pos,if_neg,List.length_map,List.cons_append,bVb,bVn,eq_self,Bool.and_self,BEq.rfl,not_true_eq_false,set_pA,List.length_set];(first|((with_reducible refine hK _ ?_);clear hK K)|((with_reducible refine hK ?_);clear hK hK3 K hK2)|((with_reducible refine hK3 ?_);clear hK hK3 K hK2))))
    refine w_loop_d [9,18,19,20,21,22,23,24,25,26,27,28,29,30,31,32,33,34,35,36,37,38,39,40,41,42,43,44,45,46,47,48,49,50,51,52] (fun u v H=>∃ S1 S2,S1++S2=ssort L∧u=S1.length∧v 9=I ((a+S1.length:Nat):Int)∧H=[rw0 (P++(S1++x::(S2++R))) g]∧∀ q ∈ S2,cB x.1 q.1 < 0) (i - a) ⟨ssort L,[],by simp,hLl.symm,by rw [hLl,show a+(i - a)=i by omega];rfl,rfl,by simp⟩ ?_
    rintro u v2 H ⟨S1,S2,hS,rfl,h9,rfl,hgt⟩
    have hCl:(P++(S1++x::(S2++R))).length=D.length:=by
      rw [← hN2,← hS];simp;omega
    have hle:SLe (S1++S2):=by rw [hS];exact ssort_le L
    rcases last_cases (l:=S1) with rfl|⟨S0,y,rfl⟩
    · have hfin:=ins_at (S:=S2) hS (fun p hp=>by cases hp) hgt
      have hfin2:P++([]++x::(S2++R))=P++(ssort (L++[x])++R):=by rw [← hfin];simp
      rw [hfin2]
      have e0:a+([]:List Pr).length=a:=rfl
      rw [e0] at h9
      simp only [mix,mix_nil,mix_end,mix_skp,Nat.reduceEqDiff,Nat.reduceLeDiff,reduceCtorEq,if_true,if_false,reduceIte,Nat.reduceAdd,h9]
      repeat (first|with_reducible refine w_seq ?_|with_reducible refine w_reg ?_|with_reducible refine w_draw ?_|with_reducible refine w_exit ?_|with_reducible refine ws_nil ?_|with_reducible refine wd_nil ?_|with_reducible refine q_then ?_|with_reducible refine q_then_x ?_|with_reducible refine q_block_n ?_|with_reducible refine q_block_x ?_|((first|with_reducible refine ks fun K hK=>?_|with_reducible refine kd fun K hK=>?_|with_reducible refine kc fun K hK2 hK hK3=>?_);simp (disch:=omega) only [bg0,bg1,bg2,bg3,bg4,stepO,rsAs,eff,AX.ev,St.put,binA,conc,ap1,ofVal,Int.reduceTMod,Int.reduceTDiv,reduceCtorEq,fillA,AV.cells,AV.fine,AV.one,Nat.reduceAdd,Nat.reduceSub,Nat.reduceMul,Nat.reduceLT,Nat.reduceLeDiff,Int.reduceLT,Int.reduceLE,Int.reduceAdd,Int.reduceSub,Int.reduceNeg,Int.reduceMul,Int.reduceEq,Int.reduceToNat,nilA,moveA,live,loadA,rdA,storeA,wrA,intA,elemA,lenA,appA,srcA,isPtr,isNilPtr,partA,resOf,sliceA,cut,id,ap2,reduceIte,concs,chkB,geB,AOp.cls,AOp.xs,ltB,ltC,Nat.reduceBEq,Option.toList,List.cons_append,decide_eq_true,decide_eq_false,if_pos,if_neg,List.length_map,List.cons_append,bVb,bVn,eq_self,Bool.and_self,BEq.rfl,not_true_eq_false,set_pA,List.length_set];(first|((with_reducible refine hK _ ?_);clear hK K)|((with_reducible refine hK ?_);clear hK hK3 K hK2)|((with_reducible refine hK3 ?_);clear hK hK3 K hK2)))|((first|((with_reducible refine kgd_u ?_ ?_ ?_);rotate_left 1;rfl)|((with_reducible refine kgd_f ?_ ?_ ?_);rotate_left 1;rfl));rotate_left 1;(focus (simp (disch:=omega) only [bg0,bg1,bg2,bg3,bg4,stepO,rsAs,eff,AX.ev,St.put,binA,conc,ap1,ofVal,Int.reduceTMod,Int.reduceTDiv,reduceCtorEq,fillA,AV.cells,AV.fine,AV.one,Nat.reduceAdd,Nat.reduceSub,Nat.reduceMul,Nat.reduceLT,Nat.reduceLeDiff,Int.reduceLT,Int.reduceLE,Int.reduceAdd,Int.reduceSub,Int.reduceNeg,Int.reduceMul,Int.reduceEq,Int.reduceToNat,nilA,moveA,live,loadA,rdA,storeA,wrA,intA,elemA,lenA,appA,srcA,isPtr,isNilPtr,partA,resOf,sliceA,cut,id,ap2,reduceIte,concs,chkB,geB,AOp.cls,AOp.xs,ltB,ltC,Nat.reduceBEq,Option.toList,List.cons_append,decide_eq_true,decide_eq_false,if_pos,if_neg,List.length_map,List.cons_append,bVb,bVn,eq_self,Bool.and_self,BEq.rfl,not_true_eq_false,set_pA,List.length_set];try rfl))))
      exact ⟨rfl,by simp [at_];omega,rfl⟩
    · have hj : a + (S0 ++ [y]).length = a + S0.length + 1 := by simp; omega
      rw [hj] at h9
      have q1:=pAq (at_mid (P:=P) (S:=S0++[y]) (x:=x) (R:=S2++R) (k:=a+S0.length+1) (by simp [hPl];omega))
      have q2:=pAq (at_pre (P:=P) (S:=S0) (x:=x) (y:=y) (R:=S2++R) (k:=a+S0.length) (by omega))
      have hsw:=sw_mid (P:=P) (S:=S0) (x:=x) (y:=y) (R:=S2++R) (k:=a+S0.length) (by omega)
      have hy:y.1.size≤9223372036854775807:=hsz y (by rw [← ssort_mem,← hS];simp)
      have hjl:a+S0.length+1 < D.length:=by rw [← hCl];simp [hPl];omega
      have q3:(((P++(S0++[y]++x::(S2++R))).set (a+S0.length+1) y).map pA)[a+S0.length]? = some (.agg [S y.1,S y.2]):=pAq (by rw [List.getElem?_set_ne (by omega)];exact at_pre (by omega))
      have e1:((a:Int)+(S0.length:Int)+1).toNat=a+S0.length+1:=by omega
      have e2:((a:Int)+(S0.length:Int)).toNat=a+S0.length:=by omega
      have e3:(a:Int) < (a:Int)+(S0.length:Int)+1:=by omega
      by_cases hc:cB x.1 y.1 < 0
      · generalize P ++ (S0 ++ [y] ++ x :: (S2 ++ R)) = C at *
        simp only [mix,mix_nil,mix_end,mix_skp,Nat.reduceEqDiff,Nat.reduceLeDiff,reduceCtorEq,if_true,if_false,reduceIte,Nat.reduceAdd,h9]
        repeat (first|with_reducible refine w_seq ?_|with_reducible refine w_reg ?_|with_reducible refine w_draw ?_|(with_reducible refine w_drawx2 ?_ ?_ ?_ ?_;rotate_left 1)|with_reducible exact isSt|with_reducible refine w_block ?_|with_reducible refine w_skip ?_|with_reducible refine ws_nil ?_|with_reducible refine wd_nil ?_|with_reducible refine q_then ?_|with_reducible refine q_block_n ?_|((with_reducible refine kgd_t ?_ ?_);rfl)|((first|with_reducible refine ks fun K hK=>?_|with_reducible refine kd fun K hK=>?_|with_reducible refine kc fun K hK2 hK hK3=>?_);simp (disch:=omega) only [bg0,bg1,bg2,bg3,bg4,stepO,rsAs,eff,AX.ev,St.put,binA,conc,ap1,ofVal,Int.reduceTMod,Int.reduceTDiv,reduceCtorEq,fillA,AV.cells,AV.fine,AV.one,Nat.reduceAdd,Nat.reduceSub,Nat.reduceMul,Nat.reduceLT,Nat.reduceLeDiff,Int.reduceLT,Int.reduceLE,Int.reduceAdd,Int.reduceSub,Int.reduceNeg,Int.reduceMul,Int.reduceEq,Int.reduceToNat,nilA,moveA,live,loadA,rdA,storeA,wrA,intA,elemA,lenA,appA,srcA,isPtr,isNilPtr,partA,resOf,sliceA,cut,id,ap2,reduceIte,concs,chkB,geB,AOp.cls,AOp.xs,ltB,ltC,Nat.reduceBEq,Option.toList,List.cons_append,decide_eq_true,decide_eq_false,if_pos,if_neg,List.length_map,List.cons_append,bVb,bVn,eq_self,Bool.and_self,BEq.rfl,not_true_eq_false,set_pA,List.length_set,q1,q2,q3,e1,e2,e3,hc];(first|((with_reducible refine hK _ ?_);clear hK K)|((with_reducible refine hK ?_);clear hK hK3 K hK2)|((with_reducible refine hK3 ?_);clear hK hK3 K hK2)))|((first|((with_reducible refine kvd 64 ?_ ?_ ?_ ?_ ?_ ?_ ?_ ?_);rotate_left 3));(focus (simp (disch:=omega) only [bg0,bg1,bg2,bg3,bg4,stepO,rsAs,eff,AX.ev,St.put,binA,conc,ap1,ofVal,Int.reduceTMod,Int.reduceTDiv,reduceCtorEq,fillA,AV.cells,AV.fine,AV.one,Nat.reduceAdd,Nat.reduceSub,Nat.reduceMul,Nat.reduceLT,Nat.reduceLeDiff,Int.reduceLT,Int.reduceLE,Int.reduceAdd,Int.reduceSub,Int.reduceNeg,Int.reduceMul,Int.reduceEq,Int.reduceToNat,nilA,moveA,live,loadA,rdA,storeA,wrA,intA,elemA,lenA,appA,srcA,isPtr,isNilPtr,partA,resOf,sliceA,cut,id,ap2,reduceIte,concs,chkB,geB,AOp.cls,AOp.xs,ltB,ltC,Nat.reduceBEq,Option.toList,List.cons_append,decide_eq_true,decide_eq_false,if_pos,if_neg,List.length_map,List.cons_append,bVb,bVn,eq_self,Bool.and_self,BEq.rfl,not_true_eq_false,set_pA,List.length_set,q1,q2,q3,e1,e2,e3,hc];try rfl));(first|(rfl;exact hb64;exact (cmpC G _ hx hy)))))
        refine ⟨rfl,S0.length,by simp,S0,y::S2,by simpa using hS,rfl,rfl,rw0_eq (by simpa using hsw),fun q hq=>?_⟩
        rcases List.mem_cons.1 hq with rfl|hq
        · exact hc
        · exact hgt q hq
      · have hfin := ins_at (S := S2) hS (le_all hle (by rw [cB_anti x.1 y.1]; omega)) hgt
        have hfin2:P++(S0++[y]++x::(S2++R))=P++(ssort (L++[x])++R):=by rw [← hfin];simp
        rw [hfin2] at q1 q2 q3 ⊢
        simp only [mix,mix_nil,mix_end,mix_skp,Nat.reduceEqDiff,Nat.reduceLeDiff,reduceCtorEq,if_true,if_false,reduceIte,Nat.reduceAdd,h9]
        repeat (first|with_reducible refine w_seq ?_|with_reducible refine w_reg ?_|with_reducible refine w_draw ?_|with_reducible refine w_exit ?_|with_reducible refine ws_nil ?_|with_reducible refine wd_nil ?_|with_reducible refine q_then ?_|with_reducible refine q_then_x ?_|with_reducible refine q_block_n ?_|with_reducible refine q_block_x ?_|((with_reducible refine kgd_t ?_ ?_);rfl)|((first|with_reducible refine ks fun K hK=>?_|with_reducible refine kd fun K hK=>?_|with_reducible refine kc fun K hK2 hK hK3=>?_);simp (disch:=omega) only [bg0,bg1,bg2,bg3,bg4,stepO,rsAs,eff,AX.ev,St.put,binA,conc,ap1,ofVal,Int.reduceTMod,Int.reduceTDiv,reduceCtorEq,fillA,AV.cells,AV.fine,AV.one,Nat.reduceAdd,Nat.reduceSub,Nat.reduceMul,Nat.reduceLT,Nat.reduceLeDiff,Int.reduceLT,Int.reduceLE,Int.reduceAdd,Int.reduceSub,Int.reduceNeg,Int.reduceMul,Int.reduceEq,Int.reduceToNat,nilA,moveA,live,loadA,rdA,storeA,wrA,intA,elemA,lenA,appA,srcA,isPtr,isNilPtr,partA,resOf,sliceA,cut,id,ap2,reduceIte,concs,chkB,geB,AOp.cls,AOp.xs,ltB,ltC,Nat.reduceBEq,Option.toList,List.cons_append,decide_eq_true,decide_eq_false,if_pos,if_neg,List.length_map,List.cons_append,bVb,bVn,eq_self,Bool.and_self,BEq.rfl,not_true_eq_false,set_pA,List.length_set,q1,q2,q3,e1,e2,e3,hc];(first|((with_reducible refine hK _ ?_);clear hK K)|((with_reducible refine hK ?_);clear hK hK3 K hK2)|((with_reducible refine hK3 ?_);clear hK hK3 K hK2)))|((first|((with_reducible refine kvd 64 ?_ ?_ ?_ ?_ ?_ ?_ ?_ ?_);rotate_left 3));(focus (simp (disch:=omega) only [bg0,bg1,bg2,bg3,bg4,stepO,rsAs,eff,AX.ev,St.put,binA,conc,ap1,ofVal,Int.reduceTMod,Int.reduceTDiv,reduceCtorEq,fillA,AV.cells,AV.fine,AV.one,Nat.reduceAdd,Nat.reduceSub,Nat.reduceMul,Nat.reduceLT,Nat.reduceLeDiff,Int.reduceLT,Int.reduceLE,Int.reduceAdd,Int.reduceSub,Int.reduceNeg,Int.reduceMul,Int.reduceEq,Int.reduceToNat,nilA,moveA,live,loadA,rdA,storeA,wrA,intA,elemA,lenA,appA,srcA,isPtr,isNilPtr,partA,resOf,sliceA,cut,id,ap2,reduceIte,concs,chkB,geB,AOp.cls,AOp.xs,ltB,ltC,Nat.reduceBEq,Option.toList,List.cons_append,decide_eq_true,decide_eq_false,if_pos,if_neg,List.length_map,List.cons_append,bVb,bVn,eq_self,Bool.and_self,BEq.rfl,not_true_eq_false,set_pA,List.length_set,q1,q2,q3,e1,e2,e3,hc];try rfl));(first|(rfl;exact hb64;exact (cmpC G _ hx hy)))))
        exact ⟨rfl,by simp [at_];omega,rfl⟩
  · rintro v H ⟨h8, rfl⟩
    simp only [mix,mix_nil,mix_end,mix_skp,Nat.reduceEqDiff,Nat.reduceLeDiff,reduceCtorEq,if_true,if_false,reduceIte,Nat.reduceAdd,h8]
    by_cases hab:a=b
    · subst hab
      rw [show min a (a+1+(a - (a+1)))=a by omega]
      repeat (first|with_reducible refine w_seq ?_|with_reducible refine w_reg ?_|with_reducible refine w_exit ?_|with_reducible refine ws_nil ?_|with_reducible refine q_then ?_|with_reducible refine q_then_x ?_|with_reducible refine q_block_x ?_|((first|with_reducible refine ks fun K hK=>?_|with_reducible refine kd fun K hK=>?_|with_reducible refine kc fun K hK2 hK hK3=>?_);simp (disch:=omega) only [bg0,bg1,bg2,bg3,bg4,stepO,rsAs,eff,AX.ev,St.put,binA,conc,ap1,ofVal,Int.reduceTMod,Int.reduceTDiv,reduceCtorEq,fillA,AV.cells,AV.fine,AV.one,Nat.reduceAdd,Nat.reduceSub,Nat.reduceMul,Nat.reduceLT,Nat.reduceLeDiff,Int.reduceLT,Int.reduceLE,Int.reduceAdd,Int.reduceSub,Int.reduceNeg,Int.reduceMul,Int.reduceEq,Int.reduceToNat,nilA,moveA,live,loadA,rdA,storeA,wrA,intA,elemA,lenA,appA,srcA,isPtr,isNilPtr,partA,resOf,sliceA,cut,id,ap2,reduceIte,concs,chkB,geB,AOp.cls,AOp.xs,ltB,ltC,Nat.reduceBEq,Option.toList,List.cons_append,decide_eq_true,decide_eq_false,if_pos,if_neg,List.length_map,List.cons_append,bVb,bVn,eq_self,Bool.and_self,BEq.rfl,not_true_eq_false,set_pA,List.length_set];(first|((with_reducible refine hK _ ?_);clear hK K)|((with_reducible refine hK ?_);clear hK hK3 K hK2)|((with_reducible refine hK3 ?_);clear hK hK3 K hK2)))|((with_reducible refine ret_0 ?_);try rfl))
    · rw [show min b (a + 1 + (b - (a + 1))) = b by omega]
      repeat (first|with_reducible refine w_seq ?_|with_reducible refine w_reg ?_|with_reducible refine w_exit ?_|with_reducible refine ws_nil ?_|with_reducible refine q_then ?_|with_reducible refine q_then_x ?_|with_reducible refine q_block_x ?_|((first|with_reducible refine ks fun K hK=>?_|with_reducible refine kd fun K hK=>?_|with_reducible refine kc fun K hK2 hK hK3=>?_);simp (disch:=omega) only [bg0,bg1,bg2,bg3,bg4,stepO,rsAs,eff,AX.ev,St.put,binA,conc,ap1,ofVal,Int.reduceTMod,Int.reduceTDiv,reduceCtorEq,fillA,AV.cells,AV.fine,AV.one,Nat.reduceAdd,Nat.reduceSub,Nat.reduceMul,Nat.reduceLT,Nat.reduceLeDiff,Int.reduceLT,Int.reduceLE,Int.reduceAdd,Int.reduceSub,Int.reduceNeg,Int.reduceMul,Int.reduceEq,Int.reduceToNat,nilA,moveA,live,loadA,rdA,storeA,wrA,intA,elemA,lenA,appA,srcA,isPtr,isNilPtr,partA,resOf,sliceA,cut,id,ap2,reduceIte,concs,chkB,geB,AOp.cls,AOp.xs,ltB,ltC,Nat.reduceBEq,Option.toList,List.cons_append,decide_eq_true,decide_eq_false,if_pos,if_neg,List.length_map,List.cons_append,bVb,bVn,eq_self,Bool.and_self,BEq.rfl,not_true_eq_false,set_pA,List.length_set];(first|((with_reducible refine hK _ ?_);clear hK K)|((with_reducible refine hK ?_);clear hK hK3 K hK2)|((with_reducible refine hK3 ?_);clear hK hK3 K hK2)))|((with_reducible refine ret_0 ?_);try rfl))
end Go.Proofs.Ytghbpplcgjeohaa.Sim.Pr7
namespace Go.Proofs.Ytghbpplcgjeohaa.Sim.Pr7
open Go.RowKit
set_option maxRecDepth 100000
theorem u64w {n:Int} (h:0≤n) (h2:n≤9223372036854775807):IntKind.u64.wrap n=n:=by
  rw [IntKind.wrap]
  simp only [IntKind.signed,IntKind.bits]
  simp
  omega
theorem cVu {n:Int} (h:0≤n) (h2:n≤9223372036854775807):pureRun Try.prog (convert 3 86 (.int .i64 n))=some (.int .u64 n):=by
  rw [cV_int (e:=.int .i64) (k:=.u64) (by kernel_rfl) (by kernel_rfl),u64w h h2]
theorem cVi {n:Int} (h:0≤n) (h2:n≤9223372036854775807):pureRun Try.prog (convert 86 3 (.int .u64 n))=some (.int .i64 n):=by
  rw [cV_int (e:=.int .u64) (k:=.i64) (by kernel_rfl) (by kernel_rfl),wrapI (by omega) h2]
theorem shr1 {P:Program} {t:TypeId} {xo yo:Operand} {i j:Nat}:binV P .shr t xo yo (.int .u64 ((i:Int)+(j:Int))) (.int .u64 1)=some (.int .u64 (((i+j) / 2:Nat):Int)):=by
  show some (Value.int .u64 (((i:Int)+(j:Int)).fdiv (2 ^ 1)))=_
  have:((i:Int)+(j:Int)).fdiv (2 ^ 1)=(((i+j) / 2:Nat):Int):=by
    rw [Int.fdiv_eq_ediv_of_nonneg _ (by decide)]
    omega
  rw [this]
theorem ssort_app {X Y:List Pr} (h:∀ x ∈ X,∀ y ∈ Y,cB x.1 y.1≤0):ssort (X++Y)=ssort X++ssort Y:=by
  refine srt_uniq (ssort_le _) (List.pairwise_append.2 ⟨ssort_le X,ssort_le Y,fun x hx y hy=>h x (ssort_mem.1 hx) y (ssort_mem.1 hy)⟩) fun k=>?_
  rw [ssort_fk,fk_append,fk_append,ssort_fk,ssort_fk]
theorem ssort_of {X:List Pr} (h:SLe X):ssort X=X:=srt_uniq (ssort_le X) h fun k=>ssort_fk X
theorem ssort_swap {X A B Y:List Pr} (h:∀ x ∈ A,∀ y ∈ B,cB y.1 x.1 < 0):ssort (X++A++B++Y)=ssort (X++B++A++Y):=by
  refine srt_uniq (ssort_le _) (ssort_le _) fun k=>?_
  simp only [ssort_fk,fk_append]
  have:fk k A=[]∨fk k B=[]:=by
    by_cases hb:fk k B=[]
    · exact .inr hb
    · left
      refine fk_none.2 fun x hx e=>hb (fk_none.2 fun y hy e2=>?_)
      have:=h x hx y hy
      rw [e,e2,cB_self] at this
      omega
  rcases this with h|h<;>simp [h]
theorem ssort_merge {A1 A2 B1 B2 : List Pr} (hA : SLe (A1 ++ A2)) (hB : SLe (B1 ++ B2)) (h1 : ∀ x ∈ A2, ∀ y ∈ B1, cB y.1 x.1 < 0) (h2 : ∀ x ∈ A1, ∀ y ∈ B2, cB x.1 y.1 ≤ 0) :
    ssort (A1++A2++(B1++B2))=ssort (A1++B1)++ssort (A2++B2):=by
  have e1:=ssort_swap (X:=A1) (A:=A2) (B:=B1) (Y:=B2) h1
  rw [show A1++A2++(B1++B2)=A1++A2++B1++B2 by simp,e1,show A1++B1++A2++B2=(A1++B1)++(A2++B2) by simp]
  obtain ⟨_,_,a3⟩:=List.pairwise_append.1 hA
  obtain ⟨_,_,b3⟩:=List.pairwise_append.1 hB
  refine ssort_app fun x hx y hy=>?_
  rcases List.mem_append.1 hx with hx|hx<;>rcases List.mem_append.1 hy with hy|hy
  · exact a3 x hx y hy
  · exact h2 x hx y hy
  · have:=h1 y hy x hx;omega
  · exact b3 x hx y hy
theorem rot_list {P A B R:List Pr}:px (P++(A++(B++R))) (rtf P.length (P.length+A.length) (P.length+A.length+B.length))=P++(B++(A++R)):=by
  apply List.ext_getElem?
  intro x
  rw [px_at]
  have hgd:∀ {L:List Pr} {i:Nat},i < L.length→some (L.getD i default)=L[i]?:=fun {L i} h=>by
    rw [List.getD_eq_getElem?_getD,List.getElem?_eq_getElem h];rfl
  by_cases hx:x < (P++(A++(B++R))).length
  · rw [if_pos hx, hgd (rtf_lt (by omega) (by omega) (by simp; omega) hx)]
    simp only [List.length_append] at hx
    unfold rtf
    by_cases h1:x < P.length
    · rw [if_neg (by omega),if_neg (by omega),List.getElem?_append_left h1,List.getElem?_append_left h1]
    · rw [List.getElem?_append_right (l₁ := P) (l₂ := B ++ (A ++ R)) (by omega)]
      by_cases h2:x < P.length+B.length
      · rw [if_pos (by omega), List.getElem?_append_right (by omega), List.getElem?_append_right (by omega), List.getElem?_append_left (by omega), List.getElem?_append_left (by omega)]
        congr 1;omega
      · rw [if_neg (by omega), List.getElem?_append_right (l₁ := B) (by omega)]
        by_cases h3:x < P.length+B.length+A.length
        · rw [if_pos (by omega), List.getElem?_append_right (by omega), List.getElem?_append_left (by omega), List.getElem?_append_left (by omega)]
          congr 1;omega
        · rw [if_neg (by omega), List.getElem?_append_right (by omega), List.getElem?_append_right (by omega), List.getElem?_append_right (by omega), List.getElem?_append_right (by omega)]
          congr 1;omega
  · rw [if_neg hx,List.getElem?_eq_none (by simp at hx ⊢;omega)]
theorem idx_lo {B:List Pr} (h:SLe B) (k:ByteArray) {i:Nat} (hi:i < B.length):cB (B[i]).1 k < 0↔i < (lo B k).length:=by
  have hs:=lo_split h k
  constructor
  · intro hc
    rcases Nat.lt_or_ge i (lo B k).length with h|h
    · exact h
    · exfalso
      have hm:B[i] ∈ B.filter (fun p=>!decide (cB p.1 k < 0)):=by
        have e:B[i]? = (B.filter (fun p=>!decide (cB p.1 k < 0)))[i - (lo B k).length]?:=by
          conv=>lhs;rw [hs]
          exact List.getElem?_append_right h
        rw [List.getElem?_eq_getElem hi] at e
        exact List.mem_of_getElem? e.symm
      have:=(List.mem_filter.1 hm).2
      simp at this
      omega
  · intro hl
    have e:B[i]? = (lo B k)[i]?:=by
      conv=>lhs;rw [hs]
      exact List.getElem?_append_left hl
    rw [List.getElem?_eq_getElem hi,List.getElem?_eq_getElem hl] at e
    have e2:=Option.some.inj e
    have:=(List.mem_filter.1 (List.getElem_mem hl)).2
    rw [← e2] at this
    simpa using this
theorem idx_le {B:List Pr} (h:SLe B) (k:ByteArray) {i:Nat} (hib:i < B.length):cB (B[i]).1 k≤0↔i < (le B k).length:=by
  have hs:=le_split h k
  constructor
  · intro hc
    rcases Nat.lt_or_ge i (le B k).length with h|h
    · exact h
    · exfalso
      have hm:B[i] ∈ hi B k:=by
        have e:B[i]? = (hi B k)[i - (le B k).length]?:=by
          conv=>lhs;rw [hs]
          exact List.getElem?_append_right h
        rw [List.getElem?_eq_getElem hib] at e
        exact List.mem_of_getElem? e.symm
      have:=(List.mem_filter.1 hm).2
      simp only [decide_eq_true_eq] at this
      rw [cB_anti (B[i]).1 k] at this
      omega
  · intro hl
    have e:B[i]? = (le B k)[i]?:=by
      conv=>lhs;rw [hs]
      exact List.getElem?_append_left hl
    rw [List.getElem?_eq_getElem hib,List.getElem?_eq_getElem hl] at e
    have e2:=Option.some.inj e
    have:=(List.mem_filter.1 (List.getElem_mem hl)).2
    rw [← e2] at this
    simpa using this
theorem lo_take {B:List Pr} (h:SLe B) (k:ByteArray):B.take (lo B k).length=lo B k:=by
  have:=List.take_left (l₁:=lo B k) (l₂:=B.filter (fun p=>!decide (cB p.1 k < 0)))
  rwa [← lo_split h k] at this
theorem le_take {B:List Pr} (h:SLe B) (k:ByteArray):B.take (le B k).length=le B k:=by
  have:=List.take_left (l₁:=le B k) (l₂:=hi B k)
  rwa [← le_split h k] at this
theorem hi_drop {B:List Pr} (h:SLe B) (k:ByteArray):B.drop (le B k).length=hi B k:=by
  have:=List.drop_left (l₁:=le B k) (l₂:=hi B k)
  rwa [← le_split h k] at this
theorem lo_len {B:List Pr} {k:ByteArray}:(lo B k).length≤B.length:=List.length_filter_le ..
theorem le_len {B:List Pr} {k:ByteArray}:(le B k).length≤B.length:=List.length_filter_le ..
theorem one_left {B:List Pr} (h:SLe B) (x:Pr):B.take (lo B x.1).length++x::B.drop (lo B x.1).length=ssort (x::B):=by
  have hd:B.drop (lo B x.1).length=B.filter (fun p=>!decide (cB p.1 x.1 < 0)):=by
    have:=List.drop_left (l₁:=lo B x.1) (l₂:=B.filter (fun p=>!decide (cB p.1 x.1 < 0)))
    rwa [← lo_split h x.1] at this
  rw [lo_take h,hd]
  refine srt_uniq ?_ (ssort_le _) fun k=>?_
  · refine List.pairwise_append.2 ⟨List.Pairwise.filter _ h,List.pairwise_cons.2 ⟨fun q hq=>?_,List.Pairwise.filter _ h⟩,fun p hp q hq=>?_⟩
    · have := (List.mem_filter.1 hq).2
      simp at this
      rw [cB_anti q.1 x.1];omega
    · have h1 : cB p.1 x.1 < 0 := by have := (List.mem_filter.1 hp).2; simpa using this
      rcases List.mem_cons.1 hq with rfl|hq
      · omega
      · have := (List.mem_filter.1 hq).2
        simp at this
        exact cB_le (b:=x.1) (by omega) (by rw [cB_anti q.1 x.1];omega)
  · rw [ssort_fk, fk_append, fk_cons, fk_cons]
    have e:fk k B=fk k (lo B x.1)++fk k (B.filter fun p=>!decide (cB p.1 x.1 < 0)):=by
      rw [← fk_append,← lo_split h x.1]
    rw [e]
    by_cases hk:x.1=k
    · subst hk
      have:fk x.1 (lo B x.1)=[]:=by rw [fk_lo,cB_self];simp
      simp [this]
    · simp [hk]
theorem one_right {A:List Pr} (h:SLe A) (x:Pr):A.take (le A x.1).length++x::A.drop (le A x.1).length=ssort (A++[x]):=by
  have hd:A.drop (le A x.1).length=hi A x.1:=hi_drop h x.1
  rw [hd,le_take h]
  have:=ins_at (S:=ssort A) (S1:=le A x.1) (S2:=hi A x.1) (x:=x) (L:=A) (by rw [ssort_of h,← le_split h x.1]) (fun p hp=>by have:=(List.mem_filter.1 hp).2;simpa using this) (fun q hq=>by have:=(List.mem_filter.1 hq).2;simpa using this)
  exact this
end Go.Proofs.Ytghbpplcgjeohaa.Sim.Pr7
namespace Go.Proofs.Ytghbpplcgjeohaa.Sim.Pr7
open Go.RowKit
set_option maxRecDepth 100000
theorem sw_fwd {P S R:List Pr} {x y:Pr} {k:Nat} (hk:k=P.length+S.length):((P++(S++x::y::R)).set k y).set (k+1) x=P++(S++[y]++x::R):=by
  subst hk
  have e:P++(S++x::y::R)=(P++S)++x::y::R:=by simp
  have e2:P++(S++[y]++x::R)=(P++S)++y::x::R:=by simp
  rw [e,e2,show P.length+S.length=(P++S).length from (List.length_append).symm,List.set_append_right _ _ (by omega),List.set_append_right _ _ (by omega)]
  simp
theorem at_nx {P S R:List Pr} {x y:Pr} {k:Nat} (hk:k=P.length+S.length):(P++(S++x::y::R))[k+1]? = some y:=by
  have:=at_mid (P:=P) (S:=S++[x]) (x:=y) (R:=R) (k:=k+1) (by simp;omega)
  simpa using this
theorem gdA {P A R:List Pr} {k:Nat} (h1:P.length≤k) (h2:k < P.length+A.length):(P++(A++R))[k]? = some (A[k - P.length]'(by omega)):=by
  rw [List.getElem?_append_right h1,List.getElem?_append_left (by omega),List.getElem?_eq_getElem]
set_option maxHeartbeats 8000000 in
theorem symL (G : Nat → AV) (g : Nat) (P B R : List Pr) (x : Pr) (N a m b : Nat) (hN : (P ++ ([x] ++ (B ++ R))).length = N) (hP : P.length = a) (hA : a + 1 = m) (hB : m + B.length = b) (sB : SLe B) (hok : Okl (P ++ ([x] ++ (B ++ R)))) :
    HC Try.prog G 68 [.ol 0 g N,I a,I m,I b,cF] [rw0 (P++([x]++(B++R))) g] (.tup []) [rw0 (P++(ssort ([x]++B)++R)) g]:=by
  have hlen:=hok.len
  rw [hN] at hlen
  have hbN:b≤N:=by rw [← hN];simp;omega
  have hx:x.1.size≤9223372036854775807:=(hok.sz x (by simp)).1
  have hsB:∀ p ∈ B,p.1.size≤9223372036854775807:=fun p hp=>(hok.sz p (by simp [hp])).1
  obtain ⟨c,hc⟩:∃ c,c=(lo B x.1).length:=⟨_,rfl⟩
  have hcl:c≤B.length:=by rw [hc];exact lo_len
  have hfin:=one_left sB x
  rw [← hc] at hfin
  have ema:(m:Int) - (a:Int)=1:=by omega
  refine hc_of cop68 ?_
  show W _ _ _ _ ⟨_,_⟩;simp only [A68,List.cons_append,List.nil_append,List.length_cons,List.length_nil,Nat.reduceAdd,Nat.reduceSub,List.replicate]
  (refine w_skip_at 77 143 (by simp [skp_len]) fun f77=>?_;simp (disch:=omega) only [List.take_succ_cons,List.take_zero,List.drop_succ_cons,List.drop_zero,List.cons_append,List.nil_append,List.take_nil,List.drop_nil,skp_take,skp_drop,skp_app,Nat.reduceSub,Nat.reduceAdd,List.replicate_succ,List.replicate_zero])
  (refine w_skip_at 54 23 (by simp [skp_len]) fun f54=>?_;simp (disch:=omega) only [List.take_succ_cons,List.take_zero,List.drop_succ_cons,List.drop_zero,List.cons_append,List.nil_append,List.take_nil,List.drop_nil,skp_take,skp_drop,skp_app,Nat.reduceSub,Nat.reduceAdd,List.replicate_succ,List.replicate_zero])
  repeat (first|with_reducible refine w_seq ?_|with_reducible refine w_reg ?_|with_reducible refine w_block ?_|with_reducible refine ws_nil ?_|with_reducible refine q_then ?_|((first|with_reducible refine ks fun K hK=>?_|with_reducible refine kd fun K hK=>?_|with_reducible refine kc fun K hK2 hK hK3=>?_);simp (disch:=omega) only [bg0,bg1,bg2,bg3,bg4,stepO,rsAs,eff,AX.ev,St.put,binA,conc,ap1,ofVal,Int.reduceTMod,Int.reduceTDiv,reduceCtorEq,fillA,AV.cells,AV.fine,AV.one,Nat.reduceAdd,Nat.reduceSub,Nat.reduceMul,Nat.reduceLT,Nat.reduceLeDiff,Int.reduceLT,Int.reduceLE,Int.reduceAdd,Int.reduceSub,Int.reduceNeg,Int.reduceMul,Int.reduceEq,Int.reduceToNat,nilA,moveA,live,loadA,rdA,storeA,wrA,intA,elemA,lenA,appA,srcA,isPtr,isNilPtr,partA,resOf,sliceA,cut,id,ap2,reduceIte,concs,chkB,geB,AOp.cls,AOp.xs,ltB,ltC,Nat.reduceBEq,Option.toList,List.cons_append,decide_eq_true,decide_eq_false,if_pos,if_neg,List.length_map,List.cons_append,bVb,bVn,eq_self,Bool.and_self,BEq.rfl,not_true_eq_false,set_pA,List.length_set,cVu,cVi,shr1,ema];(first|((with_reducible refine hK _ ?_);clear hK K)|((with_reducible refine hK ?_);clear hK hK3 K hK2)|((with_reducible refine hK3 ?_);clear hK hK3 K hK2))))
  refine w_loop_d [10,11,12,31,32,33,34,35,36,37,38,39,40,41,42,43,44,45,46,47,48,49,50,51,52,53] (fun u v H=>∃ i j:Nat,u=j - i∧v 10=I i∧v 11=I j∧m≤i∧i≤m+c∧m+c≤j∧j≤b∧H=[rw0 (P++([x]++(B++R))) g]) (b - m) ⟨m,b,rfl,rfl,rfl,by omega,by omega,by omega,by omega,rfl⟩ ?_
  rintro u v H ⟨i,j,rfl,h10,h11,i1,i2,i3,i4,rfl⟩
  simp only [mix,mix_nil,mix_end,mix_skp,Nat.reduceEqDiff,Nat.reduceLeDiff,reduceCtorEq,if_true,if_false,reduceIte,Nat.reduceAdd,h10,h11]
  by_cases hij:i < j
  · obtain ⟨h, hh⟩ : ∃ h, h = (i + j) / 2 := ⟨_, rfl⟩
    have q1:((P++([x]++(B++R))).map pA)[h]? = some (.agg [S (B[h - m]'(by omega)).1,S (B[h - m]'(by omega)).2]):=pAq (by
      have:=gdA (P:=P++[x]) (A:=B) (R:=R) (k:=h) (by simp;omega) (by simp;omega)
      simp only [List.append_assoc] at this
      rw [this]
      congr 2
      simp;omega)
    have q2:((P++([x]++(B++R))).map pA)[a]? = some (.agg [S x.1,S x.2]):=pAq (at_mid (S:=[]) (by simp;omega))
    have hy:=hsB _ (List.getElem_mem (l:=B) (n:=h - m) (by omega))
    have hidx:=idx_lo sB x.1 (i:=h - m) (by omega)
    rw [← hc] at hidx
    generalize B[h - m]'(by omega)=y at *
    have hm:=hh.symm
    have hNl:=hN
    generalize P++([x]++(B++R))=C at *
    by_cases hlt:cB y.1 x.1 < 0
    · have := hidx.1 hlt
      repeat (first|with_reducible refine w_seq ?_|with_reducible refine w_reg ?_|with_reducible refine w_draw ?_|with_reducible refine w_block ?_|with_reducible refine w_skip ?_|with_reducible refine ws_nil ?_|with_reducible refine wd_nil ?_|with_reducible refine q_then ?_|with_reducible refine q_block_n ?_|((first|with_reducible refine ks fun K hK=>?_|with_reducible refine kd fun K hK=>?_|with_reducible refine kc fun K hK2 hK hK3=>?_);simp (disch:=omega) only [bg0,bg1,bg2,bg3,bg4,stepO,rsAs,eff,AX.ev,St.put,binA,conc,ap1,ofVal,Int.reduceTMod,Int.reduceTDiv,reduceCtorEq,fillA,AV.cells,AV.fine,AV.one,Nat.reduceAdd,Nat.reduceSub,Nat.reduceMul,Nat.reduceLT,Nat.reduceLeDiff,Int.reduceLT,Int.reduceLE,Int.reduceAdd,Int.reduceSub,Int.reduceNeg,Int.reduceMul,Int.reduceEq,Int.reduceToNat,nilA,moveA,live,loadA,rdA,storeA,wrA,intA,elemA,lenA,appA,srcA,isPtr,isNilPtr,partA,resOf,sliceA,cut,id,ap2,reduceIte,concs,chkB,geB,AOp.cls,AOp.xs,ltB,ltC,Nat.reduceBEq,Option.toList,List.cons_append,decide_eq_true,decide_eq_false,if_pos,if_neg,List.length_map,List.cons_append,bVb,bVn,eq_self,Bool.and_self,BEq.rfl,not_true_eq_false,set_pA,List.length_set,cVu,cVi,shr1,hm,q1,q2,hlt];(first|((with_reducible refine hK _ ?_);clear hK K)|((with_reducible refine hK ?_);clear hK hK3 K hK2)|((with_reducible refine hK3 ?_);clear hK hK3 K hK2)))|((first|((with_reducible refine kvd 64 ?_ ?_ ?_ ?_ ?_ ?_ ?_ ?_);rotate_left 3));(focus (simp (disch:=omega) only [bg0,bg1,bg2,bg3,bg4,stepO,rsAs,eff,AX.ev,St.put,binA,conc,ap1,ofVal,Int.reduceTMod,Int.reduceTDiv,reduceCtorEq,fillA,AV.cells,AV.fine,AV.one,Nat.reduceAdd,Nat.reduceSub,Nat.reduceMul,Nat.reduceLT,Nat.reduceLeDiff,Int.reduceLT,Int.reduceLE,Int.reduceAdd,Int.reduceSub,Int.reduceNeg,Int.reduceMul,Int.reduceEq,Int.reduceToNat,nilA,moveA,live,loadA,rdA,storeA,wrA,intA,elemA,lenA,appA,srcA,isPtr,isNilPtr,partA,resOf,sliceA,cut,id,ap2,reduceIte,concs,chkB,geB,AOp.cls,AOp.xs,ltB,ltC,Nat.reduceBEq,Option.toList,List.cons_append,decide_eq_true,decide_eq_false,if_pos,if_neg,List.length_map,List.cons_append,bVb,bVn,eq_self,Bool.and_self,BEq.rfl,not_true_eq_false,set_pA,List.length_set,cVu,cVi,shr1,hm,q1,q2,hlt];try rfl));(first|(rfl;exact hb64;exact (cmpC G _ hy hx)))))
      exact ⟨rfl,j - (h+1),by omega,h+1,j,rfl,rfl,rfl,by omega,by omega,by omega,by omega,rfl⟩
    · have:¬ (h - m < c):=fun h=>hlt (hidx.2 h)
      repeat (first|with_reducible refine w_seq ?_|with_reducible refine w_reg ?_|with_reducible refine w_draw ?_|with_reducible refine w_block ?_|with_reducible refine w_skip ?_|with_reducible refine ws_nil ?_|with_reducible refine wd_nil ?_|with_reducible refine q_then ?_|with_reducible refine q_block_n ?_|((first|with_reducible refine ks fun K hK=>?_|with_reducible refine kd fun K hK=>?_|with_reducible refine kc fun K hK2 hK hK3=>?_);simp (disch:=omega) only [bg0,bg1,bg2,bg3,bg4,stepO,rsAs,eff,AX.ev,St.put,binA,conc,ap1,ofVal,Int.reduceTMod,Int.reduceTDiv,reduceCtorEq,fillA,AV.cells,AV.fine,AV.one,Nat.reduceAdd,Nat.reduceSub,Nat.reduceMul,Nat.reduceLT,Nat.reduceLeDiff,Int.reduceLT,Int.reduceLE,Int.reduceAdd,Int.reduceSub,Int.reduceNeg,Int.reduceMul,Int.reduceEq,Int.reduceToNat,nilA,moveA,live,loadA,rdA,storeA,wrA,intA,elemA,lenA,appA,srcA,isPtr,isNilPtr,partA,resOf,sliceA,cut,id,ap2,reduceIte,concs,chkB,geB,AOp.cls,AOp.xs,ltB,ltC,Nat.reduceBEq,Option.toList,List.cons_append,decide_eq_true,decide_eq_false,if_pos,if_neg,List.length_map,List.cons_append,bVb,bVn,eq_self,Bool.and_self,BEq.rfl,not_true_eq_false,set_pA,List.length_set,cVu,cVi,shr1,hm,q1,q2,hlt];(first|((with_reducible refine hK _ ?_);clear hK K)|((with_reducible refine hK ?_);clear hK hK3 K hK2)|((with_reducible refine hK3 ?_);clear hK hK3 K hK2)))|((first|((with_reducible refine kvd 64 ?_ ?_ ?_ ?_ ?_ ?_ ?_ ?_);rotate_left 3));(focus (simp (disch:=omega) only [bg0,bg1,bg2,bg3,bg4,stepO,rsAs,eff,AX.ev,St.put,binA,conc,ap1,ofVal,Int.reduceTMod,Int.reduceTDiv,reduceCtorEq,fillA,AV.cells,AV.fine,AV.one,Nat.reduceAdd,Nat.reduceSub,Nat.reduceMul,Nat.reduceLT,Nat.reduceLeDiff,Int.reduceLT,Int.reduceLE,Int.reduceAdd,Int.reduceSub,Int.reduceNeg,Int.reduceMul,Int.reduceEq,Int.reduceToNat,nilA,moveA,live,loadA,rdA,storeA,wrA,intA,elemA,lenA,appA,srcA,isPtr,isNilPtr,partA,resOf,sliceA,cut,id,ap2,reduceIte,concs,chkB,geB,AOp.cls,AOp.xs,ltB,ltC,Nat.reduceBEq,Option.toList,List.cons_append,decide_eq_true,decide_eq_false,if_pos,if_neg,List.length_map,List.cons_append,bVb,bVn,eq_self,Bool.and_self,BEq.rfl,not_true_eq_false,set_pA,List.length_set,cVu,cVi,shr1,hm,q1,q2,hlt];try rfl));(first|(rfl;exact hb64;exact (cmpC G _ hy hx)))))
      exact ⟨rfl,h - i,by omega,i,h,rfl,rfl,rfl,by omega,by omega,by omega,by omega,rfl⟩
  · obtain rfl : i = m + c := by omega
    obtain rfl:j=m+c:=by omega
    (refine w_skip_at 25 29 (by simp [skp_len]) fun f25=>?_;simp (disch:=omega) only [List.take_succ_cons,List.take_zero,List.drop_succ_cons,List.drop_zero,List.cons_append,List.nil_append,List.take_nil,List.drop_nil,skp_take,skp_drop,skp_app,Nat.reduceSub,Nat.reduceAdd,List.replicate_succ,List.replicate_zero])
    (have ho:∀ (f:Nat→AV) (L:List AV),skp 23 f L=f 0::f 1::f 2::f 3::f 4::f 5::f 6::f 7::f 8::f 9::f 10::f 11::f 12::f 13::f 14::f 15::f 16::f 17::f 18::f 19::f 20::f 21::f 22::L:=fun _ _=>rfl;simp only [ho];clear ho)
    repeat (first|with_reducible refine w_seq ?_|with_reducible refine w_reg ?_|with_reducible refine w_block ?_|with_reducible refine w_exit ?_|with_reducible refine ws_nil ?_|with_reducible refine q_then ?_|with_reducible refine q_then_x ?_|with_reducible refine q_block_x ?_|((first|with_reducible refine ks fun K hK=>?_|with_reducible refine kd fun K hK=>?_|with_reducible refine kc fun K hK2 hK hK3=>?_);simp (disch:=omega) only [bg0,bg1,bg2,bg3,bg4,stepO,rsAs,eff,AX.ev,St.put,binA,conc,ap1,ofVal,Int.reduceTMod,Int.reduceTDiv,reduceCtorEq,fillA,AV.cells,AV.fine,AV.one,Nat.reduceAdd,Nat.reduceSub,Nat.reduceMul,Nat.reduceLT,Nat.reduceLeDiff,Int.reduceLT,Int.reduceLE,Int.reduceAdd,Int.reduceSub,Int.reduceNeg,Int.reduceMul,Int.reduceEq,Int.reduceToNat,nilA,moveA,live,loadA,rdA,storeA,wrA,intA,elemA,lenA,appA,srcA,isPtr,isNilPtr,partA,resOf,sliceA,cut,id,ap2,reduceIte,concs,chkB,geB,AOp.cls,AOp.xs,ltB,ltC,Nat.reduceBEq,Option.toList,List.cons_append,decide_eq_true,decide_eq_false,if_pos,if_neg,List.length_map,List.cons_append,bVb,bVn,eq_self,Bool.and_self,BEq.rfl,not_true_eq_false,set_pA,List.length_set,cVu,cVi,shr1];(first|((with_reducible refine hK _ ?_);clear hK K)|((with_reducible refine hK ?_);clear hK hK3 K hK2)|((with_reducible refine hK3 ?_);clear hK hK3 K hK2))))
    refine w_loop_m [13,55,56,57,58,59,60,61,62,63,64,65,66,67,68,69,70,71,72,73,74,75,76] (fun r v H=>v 13=I ((a+r:Nat):Int)∧H=[rw0 (P++(B.take r++x::(B.drop r++R))) g]) c ⟨by simp [at_],rfl⟩ ?_ ?_
    · rintro r v2 H hr ⟨h13, rfl⟩
      have hrB:r < B.length:=by omega
      have hSl:(B.take r).length=r:=by simp;omega
      have hdr:B.drop r=B[r]::B.drop (r+1):=List.drop_eq_getElem_cons hrB
      have htk:B.take (r+1)=B.take r++[B[r]]:=by rw [List.take_add_one,List.getElem?_eq_getElem hrB];rfl
      rw [hdr,htk]
      generalize B[r]=y at *
      have q1:=pAq (at_mid (P:=P) (S:=B.take r) (x:=x) (R:=y::(B.drop (r+1)++R)) (k:=a+r) (by omega))
      have q2:=pAq (at_nx (P:=P) (S:=B.take r) (x:=x) (y:=y) (R:=B.drop (r+1)++R) (k:=a+r) (by omega))
      have q3:(((P++(B.take r++x::y::(B.drop (r+1)++R))).set (a+r) y).map pA)[a+r+1]? = some (.agg [S y.1,S y.2]):=pAq (by rw [List.getElem?_set_ne (by omega)];exact at_nx (by omega))
      have hsw:=sw_fwd (P:=P) (S:=B.take r) (x:=x) (y:=y) (R:=B.drop (r+1)++R) (k:=a+r) (by omega)
      have hCl:(P++(B.take r++x::y::(B.drop (r+1)++R))).length=N:=by
        rw [← hN];simp [hSl];omega
      simp only [List.cons_append] at *
      generalize P++(B.take r++x::y::(B.drop (r+1)++R))=C at *
      have e1:((a:Int)+(r:Int)+1).toNat=a+r+1:=by omega
      have e2:((a:Int)+(r:Int)).toNat=a+r:=by omega
      have hw3:a+r+1 < N:=by omega
      have hcN:m+c≤N:=by omega
      clear hSl hdr htk hc hfin hB hbN hcl ema i1 i2 i3 i4 hij
      simp only [mix,mix_nil,mix_end,mix_skp,Nat.reduceEqDiff,Nat.reduceLeDiff,reduceCtorEq,if_true,if_false,reduceIte,Nat.reduceAdd,h13]
      repeat (first|with_reducible refine w_seq ?_|with_reducible refine w_reg ?_|(with_reducible refine w_drawx2 ?_ ?_ ?_ ?_;rotate_left 1)|with_reducible exact isSt|with_reducible refine w_block ?_|with_reducible refine w_skip ?_|with_reducible refine ws_nil ?_|with_reducible refine wd_nil ?_|with_reducible refine q_then ?_|with_reducible refine q_block_n ?_|((first|with_reducible refine ks fun K hK=>?_|with_reducible refine kd fun K hK=>?_|with_reducible refine kc fun K hK2 hK hK3=>?_);simp (disch:=omega) only [bg0,bg1,bg2,bg3,bg4,stepO,rsAs,eff,AX.ev,St.put,binA,conc,ap1,ofVal,Int.reduceTMod,Int.reduceTDiv,reduceCtorEq,fillA,AV.cells,AV.fine,AV.one,Nat.reduceAdd,Nat.reduceSub,Nat.reduceMul,Nat.reduceLT,Nat.reduceLeDiff,Int.reduceLT,Int.reduceLE,Int.reduceAdd,Int.reduceSub,Int.reduceNeg,Int.reduceMul,Int.reduceEq,Int.reduceToNat,nilA,moveA,live,loadA,rdA,storeA,wrA,intA,elemA,lenA,appA,srcA,isPtr,isNilPtr,partA,resOf,sliceA,cut,id,ap2,reduceIte,concs,chkB,geB,AOp.cls,AOp.xs,ltB,ltC,Nat.reduceBEq,Option.toList,List.cons_append,decide_eq_true,decide_eq_false,if_pos,if_neg,List.length_map,List.cons_append,bVb,bVn,eq_self,Bool.and_self,BEq.rfl,not_true_eq_false,set_pA,List.length_set,cVu,cVi,shr1,q1,q2,q3,e1,e2];(first|((with_reducible refine hK _ ?_);clear hK K)|((with_reducible refine hK ?_);clear hK hK3 K hK2)|((with_reducible refine hK3 ?_);clear hK hK3 K hK2))))
      exact ⟨rfl,by simp [at_];omega,rw0_eq hsw⟩
    · rintro v2 H ⟨h13, rfl⟩
      simp only [mix,mix_nil,mix_end,mix_skp,Nat.reduceEqDiff,Nat.reduceLeDiff,reduceCtorEq,if_true,if_false,reduceIte,Nat.reduceAdd,h13]
      (try simp only [List.cons_append,List.nil_append])
      rw [← hfin]
      simp only [List.append_assoc,List.cons_append]
      repeat (first|with_reducible refine w_seq ?_|with_reducible refine w_reg ?_|with_reducible refine w_exit ?_|with_reducible refine ws_nil ?_|with_reducible refine q_then ?_|with_reducible refine q_then_x ?_|with_reducible refine q_block_x ?_|with_reducible refine w_ret ?_|with_reducible refine q_then_r ?_|((first|with_reducible refine ks fun K hK=>?_|with_reducible refine kd fun K hK=>?_|with_reducible refine kc fun K hK2 hK hK3=>?_);simp (disch:=omega) only [bg0,bg1,bg2,bg3,bg4,stepO,rsAs,eff,AX.ev,St.put,binA,conc,ap1,ofVal,Int.reduceTMod,Int.reduceTDiv,reduceCtorEq,fillA,AV.cells,AV.fine,AV.one,Nat.reduceAdd,Nat.reduceSub,Nat.reduceMul,Nat.reduceLT,Nat.reduceLeDiff,Int.reduceLT,Int.reduceLE,Int.reduceAdd,Int.reduceSub,Int.reduceNeg,Int.reduceMul,Int.reduceEq,Int.reduceToNat,nilA,moveA,live,loadA,rdA,storeA,wrA,intA,elemA,lenA,appA,srcA,isPtr,isNilPtr,partA,resOf,sliceA,cut,id,ap2,reduceIte,concs,chkB,geB,AOp.cls,AOp.xs,ltB,ltC,Nat.reduceBEq,Option.toList,List.cons_append,decide_eq_true,decide_eq_false,if_pos,if_neg,List.length_map,List.cons_append,bVb,bVn,eq_self,Bool.and_self,BEq.rfl,not_true_eq_false,set_pA,List.length_set,cVu,cVi,shr1];(first|((with_reducible refine hK _ ?_);clear hK K)|((with_reducible refine hK ?_);clear hK hK3 K hK2)|((with_reducible refine hK3 ?_);clear hK hK3 K hK2)))|((with_reducible refine ret_0r ?_);try rfl))
set_option maxHeartbeats 8000000 in
theorem symR (G : Nat → AV) (g : Nat) (P A R : List Pr) (x : Pr) (N a m b : Nat) (hN : (P ++ (A ++ ([x] ++ R))).length = N) (hP : P.length = a) (hA : a + A.length = m) (hA2 : 2 ≤ A.length) (hB : m + 1 = b) (sA : SLe A) (hok : Okl (P ++ (A ++ ([x] ++ R)))) :
    HC Try.prog G 68 [.ol 0 g N,I a,I m,I b,cF] [rw0 (P++(A++([x]++R))) g] (.tup []) [rw0 (P++(ssort (A++[x])++R)) g]:=by
  have hlen:=hok.len
  rw [hN] at hlen
  have hbN:b≤N:=by rw [← hN];simp;omega
  have hx:x.1.size≤9223372036854775807:=(hok.sz x (by simp)).1
  have hsA:∀ p ∈ A,p.1.size≤9223372036854775807:=fun p hp=>(hok.sz p (by simp [hp])).1
  obtain ⟨c,hc⟩:∃ c,c=(le A x.1).length:=⟨_,rfl⟩
  have hcl:c≤A.length:=by rw [hc];exact le_len
  have hfin:=one_right sA x
  rw [← hc] at hfin
  have ema:¬ ((m:Int) - (a:Int)=1):=by omega
  have ebm:(b:Int) - (m:Int)=1:=by omega
  refine hc_of cop68 ?_
  show W _ _ _ _ ⟨_,_⟩;simp only [A68,List.cons_append,List.nil_append,List.length_cons,List.length_nil,Nat.reduceAdd,Nat.reduceSub,List.replicate]
  (refine w_skip_at 129 91 (by simp [skp_len]) fun f129=>?_;simp (disch:=omega) only [List.take_succ_cons,List.take_zero,List.drop_succ_cons,List.drop_zero,List.cons_append,List.nil_append,List.take_nil,List.drop_nil,skp_take,skp_drop,skp_app,Nat.reduceSub,Nat.reduceAdd,List.replicate_succ,List.replicate_zero])
  (refine w_skip_at 107 22 (by simp [skp_len]) fun f107=>?_;simp (disch:=omega) only [List.take_succ_cons,List.take_zero,List.drop_succ_cons,List.drop_zero,List.cons_append,List.nil_append,List.take_nil,List.drop_nil,skp_take,skp_drop,skp_app,Nat.reduceSub,Nat.reduceAdd,List.replicate_succ,List.replicate_zero])
  repeat (first|with_reducible refine w_seq ?_|with_reducible refine w_reg ?_|with_reducible refine w_block ?_|with_reducible refine w_skip ?_|with_reducible refine ws_nil ?_|with_reducible refine q_then ?_|((first|with_reducible refine ks fun K hK=>?_|with_reducible refine kd fun K hK=>?_|with_reducible refine kc fun K hK2 hK hK3=>?_);simp (disch:=omega) only [bg0,bg1,bg2,bg3,bg4,stepO,rsAs,eff,AX.ev,St.put,binA,conc,ap1,ofVal,Int.reduceTMod,Int.reduceTDiv,reduceCtorEq,fillA,AV.cells,AV.fine,AV.one,Nat.reduceAdd,Nat.reduceSub,Nat.reduceMul,Nat.reduceLT,Nat.reduceLeDiff,Int.reduceLT,Int.reduceLE,Int.reduceAdd,Int.reduceSub,Int.reduceNeg,Int.reduceMul,Int.reduceEq,Int.reduceToNat,nilA,moveA,live,loadA,rdA,storeA,wrA,intA,elemA,lenA,appA,srcA,isPtr,isNilPtr,partA,resOf,sliceA,cut,id,ap2,reduceIte,concs,chkB,geB,AOp.cls,AOp.xs,ltB,ltC,Nat.reduceBEq,Option.toList,List.cons_append,decide_eq_true,decide_eq_false,if_pos,if_neg,List.length_map,List.cons_append,bVb,bVn,eq_self,Bool.and_self,BEq.rfl,not_true_eq_false,set_pA,List.length_set,cVu,cVi,shr1,ema,ebm];(first|((with_reducible refine hK _ ?_);clear hK K)|((with_reducible refine hK ?_);clear hK hK3 K hK2)|((with_reducible refine hK3 ?_);clear hK hK3 K hK2))))
  (refine w_skip_at 25 58 (by simp [skp_len]) fun f25=>?_;simp (disch:=omega) only [List.take_succ_cons,List.take_zero,List.drop_succ_cons,List.drop_zero,List.cons_append,List.nil_append,List.take_nil,List.drop_nil,skp_take,skp_drop,skp_app,Nat.reduceSub,Nat.reduceAdd,List.replicate_succ,List.replicate_zero])
  refine w_loop_d [14,15,16,83,84,85,86,87,88,89,90,91,92,93,94,95,96,97,98,99,100,101,102,103,104,105,106] (fun u v H=>∃ i j:Nat,u=j - i∧v 14=I i∧v 15=I j∧a≤i∧i≤a+c∧a+c≤j∧j≤m∧H=[rw0 (P++(A++([x]++R))) g]) (m - a) ⟨a,m,rfl,rfl,rfl,by omega,by omega,by omega,by omega,rfl⟩ ?_
  rintro u v H ⟨i,j,rfl,h14,h15,i1,i2,i3,i4,rfl⟩
  simp only [mix,mix_nil,mix_end,mix_skp,Nat.reduceEqDiff,Nat.reduceLeDiff,reduceCtorEq,if_true,if_false,reduceIte,Nat.reduceAdd,h14,h15]
  by_cases hij:i < j
  · obtain ⟨h, hh⟩ : ∃ h, h = (i + j) / 2 := ⟨_, rfl⟩
    have q1:((P++(A++([x]++R))).map pA)[h]? = some (.agg [S (A[h - a]'(by omega)).1,S (A[h - a]'(by omega)).2]):=pAq (by
      have:=gdA (P:=P) (A:=A) (R:=[x]++R) (k:=h) (by omega) (by omega)
      rw [this]
      congr 2
      omega)
    have q2:((P++(A++([x]++R))).map pA)[m]? = some (.agg [S x.1,S x.2]):=pAq (at_mid (S:=A) (by omega))
    have hy:=hsA _ (List.getElem_mem (l:=A) (n:=h - a) (by omega))
    have hidx:=idx_le sA x.1 (i:=h - a) (by omega)
    rw [← hc] at hidx
    generalize A[h - a]'(by omega)=y at *
    have hm:=hh.symm
    have hNl:=hN
    generalize P++(A++([x]++R))=C at *
    have hanti:=cB_anti y.1 x.1
    by_cases hlt:cB x.1 y.1 < 0
    · have:¬ (h - a < c):=fun h=>by have:=hidx.2 h;omega
      repeat (first|with_reducible refine w_seq ?_|with_reducible refine w_reg ?_|with_reducible refine w_draw ?_|with_reducible refine w_block ?_|with_reducible refine w_skip ?_|with_reducible refine ws_nil ?_|with_reducible refine wd_nil ?_|with_reducible refine q_then ?_|with_reducible refine q_block_n ?_|((first|with_reducible refine ks fun K hK=>?_|with_reducible refine kd fun K hK=>?_|with_reducible refine kc fun K hK2 hK hK3=>?_);simp (disch:=omega) only [bg0,bg1,bg2,bg3,bg4,stepO,rsAs,eff,AX.ev,St.put,binA,conc,ap1,ofVal,Int.reduceTMod,Int.reduceTDiv,reduceCtorEq,fillA,AV.cells,AV.fine,AV.one,Nat.reduceAdd,Nat.reduceSub,Nat.reduceMul,Nat.reduceLT,Nat.reduceLeDiff,Int.reduceLT,Int.reduceLE,Int.reduceAdd,Int.reduceSub,Int.reduceNeg,Int.reduceMul,Int.reduceEq,Int.reduceToNat,nilA,moveA,live,loadA,rdA,storeA,wrA,intA,elemA,lenA,appA,srcA,isPtr,isNilPtr,partA,resOf,sliceA,cut,id,ap2,reduceIte,concs,chkB,geB,AOp.cls,AOp.xs,ltB,ltC,Nat.reduceBEq,Option.toList,List.cons_append,decide_eq_true,decide_eq_false,if_pos,if_neg,List.length_map,List.cons_append,bVb,bVn,eq_self,Bool.and_self,BEq.rfl,not_true_eq_false,set_pA,List.length_set,cVu,cVi,shr1,hm,q1,q2,hlt];(first|((with_reducible refine hK _ ?_);clear hK K)|((with_reducible refine hK ?_);clear hK hK3 K hK2)|((with_reducible refine hK3 ?_);clear hK hK3 K hK2)))|((first|((with_reducible refine kvd 64 ?_ ?_ ?_ ?_ ?_ ?_ ?_ ?_);rotate_left 3));(focus (simp (disch:=omega) only [bg0,bg1,bg2,bg3,bg4,stepO,rsAs,eff,AX.ev,St.put,binA,conc,ap1,ofVal,Int.reduceTMod,Int.reduceTDiv,reduceCtorEq,fillA,AV.cells,AV.fine,AV.one,Nat.reduceAdd,Nat.reduceSub,Nat.reduceMul,Nat.reduceLT,Nat.reduceLeDiff,Int.reduceLT,Int.reduceLE,Int.reduceAdd,Int.reduceSub,Int.reduceNeg,Int.reduceMul,Int.reduceEq,Int.reduceToNat,nilA,moveA,live,loadA,rdA,storeA,wrA,intA,elemA,lenA,appA,srcA,isPtr,isNilPtr,partA,resOf,sliceA,cut,id,ap2,reduceIte,concs,chkB,geB,AOp.cls,AOp.xs,ltB,ltC,Nat.reduceBEq,Option.toList,List.cons_append,decide_eq_true,decide_eq_false,if_pos,if_neg,List.length_map,List.cons_append,bVb,bVn,eq_self,Bool.and_self,BEq.rfl,not_true_eq_false,set_pA,List.length_set,cVu,cVi,shr1,hm,q1,q2,hlt];try rfl));(first|(rfl;exact hb64;exact (cmpC G _ hx hy)))))
      exact ⟨rfl,h - i,by omega,i,h,rfl,rfl,rfl,by omega,by omega,by omega,by omega,rfl⟩
    · have := hidx.1 (by omega)
      repeat (first|with_reducible refine w_seq ?_|with_reducible refine w_reg ?_|with_reducible refine w_draw ?_|with_reducible refine w_block ?_|with_reducible refine w_skip ?_|with_reducible refine ws_nil ?_|with_reducible refine wd_nil ?_|with_reducible refine q_then ?_|with_reducible refine q_block_n ?_|((first|with_reducible refine ks fun K hK=>?_|with_reducible refine kd fun K hK=>?_|with_reducible refine kc fun K hK2 hK hK3=>?_);simp (disch:=omega) only [bg0,bg1,bg2,bg3,bg4,stepO,rsAs,eff,AX.ev,St.put,binA,conc,ap1,ofVal,Int.reduceTMod,Int.reduceTDiv,reduceCtorEq,fillA,AV.cells,AV.fine,AV.one,Nat.reduceAdd,Nat.reduceSub,Nat.reduceMul,Nat.reduceLT,Nat.reduceLeDiff,Int.reduceLT,Int.reduceLE,Int.reduceAdd,Int.reduceSub,Int.reduceNeg,Int.reduceMul,Int.reduceEq,Int.reduceToNat,nilA,moveA,live,loadA,rdA,storeA,wrA,intA,elemA,lenA,appA,srcA,isPtr,isNilPtr,partA,resOf,sliceA,cut,id,ap2,reduceIte,concs,chkB,geB,AOp.cls,AOp.xs,ltB,ltC,Nat.reduceBEq,Option.toList,List.cons_append,decide_eq_true,decide_eq_false,if_pos,if_neg,List.length_map,List.cons_append,bVb,bVn,eq_self,Bool.and_self,BEq.rfl,not_true_eq_false,set_pA,List.length_set,cVu,cVi,shr1,hm,q1,q2,hlt];(first|((with_reducible refine hK _ ?_);clear hK K)|((with_reducible refine hK ?_);clear hK hK3 K hK2)|((with_reducible refine hK3 ?_);clear hK hK3 K hK2)))|((first|((with_reducible refine kvd 64 ?_ ?_ ?_ ?_ ?_ ?_ ?_ ?_);rotate_left 3));(focus (simp (disch:=omega) only [bg0,bg1,bg2,bg3,bg4,stepO,rsAs,eff,AX.ev,St.put,binA,conc,ap1,ofVal,Int.reduceTMod,Int.reduceTDiv,reduceCtorEq,fillA,AV.cells,AV.fine,AV.one,Nat.reduceAdd,Nat.reduceSub,Nat.reduceMul,Nat.reduceLT,Nat.reduceLeDiff,Int.reduceLT,Int.reduceLE,Int.reduceAdd,Int.reduceSub,Int.reduceNeg,Int.reduceMul,Int.reduceEq,Int.reduceToNat,nilA,moveA,live,loadA,rdA,storeA,wrA,intA,elemA,lenA,appA,srcA,isPtr,isNilPtr,partA,resOf,sliceA,cut,id,ap2,reduceIte,concs,chkB,geB,AOp.cls,AOp.xs,ltB,ltC,Nat.reduceBEq,Option.toList,List.cons_append,decide_eq_true,decide_eq_false,if_pos,if_neg,List.length_map,List.cons_append,bVb,bVn,eq_self,Bool.and_self,BEq.rfl,not_true_eq_false,set_pA,List.length_set,cVu,cVi,shr1,hm,q1,q2,hlt];try rfl));(first|(rfl;exact hb64;exact (cmpC G _ hx hy)))))
      exact ⟨rfl,j - (h+1),by omega,h+1,j,rfl,rfl,rfl,by omega,by omega,by omega,by omega,rfl⟩
  · obtain rfl : i = a + c := by omega
    obtain rfl:j=a+c:=by omega
    (refine w_skip_at 83 24 (by simp [skp_len]) fun f83=>?_;simp (disch:=omega) only [List.take_succ_cons,List.take_zero,List.drop_succ_cons,List.drop_zero,List.cons_append,List.nil_append,List.take_nil,List.drop_nil,skp_take,skp_drop,skp_app,Nat.reduceSub,Nat.reduceAdd,List.replicate_succ,List.replicate_zero])
    (have ho:∀ (f:Nat→AV) (L:List AV),skp 22 f L=f 0::f 1::f 2::f 3::f 4::f 5::f 6::f 7::f 8::f 9::f 10::f 11::f 12::f 13::f 14::f 15::f 16::f 17::f 18::f 19::f 20::f 21::L:=fun _ _=>rfl;simp only [ho];clear ho)
    repeat (first|with_reducible refine w_seq ?_|with_reducible refine w_reg ?_|with_reducible refine w_block ?_|with_reducible refine w_exit ?_|with_reducible refine ws_nil ?_|with_reducible refine q_then ?_|with_reducible refine q_then_x ?_|with_reducible refine q_block_x ?_|((first|with_reducible refine ks fun K hK=>?_|with_reducible refine kd fun K hK=>?_|with_reducible refine kc fun K hK2 hK hK3=>?_);simp (disch:=omega) only [bg0,bg1,bg2,bg3,bg4,stepO,rsAs,eff,AX.ev,St.put,binA,conc,ap1,ofVal,Int.reduceTMod,Int.reduceTDiv,reduceCtorEq,fillA,AV.cells,AV.fine,AV.one,Nat.reduceAdd,Nat.reduceSub,Nat.reduceMul,Nat.reduceLT,Nat.reduceLeDiff,Int.reduceLT,Int.reduceLE,Int.reduceAdd,Int.reduceSub,Int.reduceNeg,Int.reduceMul,Int.reduceEq,Int.reduceToNat,nilA,moveA,live,loadA,rdA,storeA,wrA,intA,elemA,lenA,appA,srcA,isPtr,isNilPtr,partA,resOf,sliceA,cut,id,ap2,reduceIte,concs,chkB,geB,AOp.cls,AOp.xs,ltB,ltC,Nat.reduceBEq,Option.toList,List.cons_append,decide_eq_true,decide_eq_false,if_pos,if_neg,List.length_map,List.cons_append,bVb,bVn,eq_self,Bool.and_self,BEq.rfl,not_true_eq_false,set_pA,List.length_set,cVu,cVi,shr1];(first|((with_reducible refine hK _ ?_);clear hK K)|((with_reducible refine hK ?_);clear hK hK3 K hK2)|((with_reducible refine hK3 ?_);clear hK hK3 K hK2))))
    refine w_loop_m [17,108,109,110,111,112,113,114,115,116,117,118,119,120,121,122,123,124,125,126,127,128] (fun r v H=>v 17=I ((m - r:Nat):Int)∧H=[rw0 (P++(A.take (A.length - r)++x::(A.drop (A.length - r)++R))) g]) (A.length - c) ⟨rfl,by simp⟩ ?_ ?_
    · rintro r v2 H hr ⟨h17, rfl⟩
      obtain ⟨w,hw⟩:∃ w,w+1=A.length - r:=⟨A.length - r - 1,by omega⟩
      have hw2:A.length - (r+1)=w:=by omega
      rw [← hw,hw2]
      have hwA:w < A.length:=by omega
      have hSl:(A.take w).length=w:=by simp;omega
      have hdr:A.drop w=A[w]::A.drop (w+1):=List.drop_eq_getElem_cons hwA
      have htk:A.take (w+1)=A.take w++[A[w]]:=by rw [List.take_add_one,List.getElem?_eq_getElem hwA];rfl
      rw [hdr,htk]
      generalize A[w]=y at *
      have hmr:m - r=a+w+1:=by omega
      have hmr2:m - (r+1)=a+w:=by omega
      rw [hmr] at h17
      rw [hmr2]
      have q1:=pAq (at_mid (P:=P) (S:=A.take w++[y]) (x:=x) (R:=A.drop (w+1)++R) (k:=a+w+1) (by simp;omega))
      have q2:=pAq (at_pre (P:=P) (S:=A.take w) (x:=x) (y:=y) (R:=A.drop (w+1)++R) (k:=a+w) (by omega))
      have q3:(((P++(A.take w++[y]++x::(A.drop (w+1)++R))).set (a+w+1) y).map pA)[a+w]? = some (.agg [S y.1,S y.2]):=pAq (by rw [List.getElem?_set_ne (by omega)];exact at_pre (by omega))
      have hsw:=sw_mid (P:=P) (S:=A.take w) (x:=x) (y:=y) (R:=A.drop (w+1)++R) (k:=a+w) (by omega)
      have hCl:(P++(A.take w++[y]++x::(A.drop (w+1)++R))).length=N:=by
        rw [← hN];simp [hSl];omega
      generalize P++(A.take w++[y]++x::(A.drop (w+1)++R))=C at *
      have e1:((a:Int)+(w:Int)+1).toNat=a+w+1:=by omega
      have e2:((a:Int)+(w:Int)).toNat=a+w:=by omega
      have hw3:a+w+1 < N:=by omega
      have hw4:c≤w:=by omega
      clear hmr hmr2 hw hw2 hr hSl hdr htk hc hfin hA hB hbN hcl ema ebm i1 i2 i3 i4 hij
      simp only [mix,mix_nil,mix_end,mix_skp,Nat.reduceEqDiff,Nat.reduceLeDiff,reduceCtorEq,if_true,if_false,reduceIte,Nat.reduceAdd,h17]
      repeat (first|with_reducible refine w_seq ?_|with_reducible refine w_reg ?_|(with_reducible refine w_drawx2 ?_ ?_ ?_ ?_;rotate_left 1)|with_reducible exact isSt|with_reducible refine w_block ?_|with_reducible refine w_skip ?_|with_reducible refine ws_nil ?_|with_reducible refine wd_nil ?_|with_reducible refine q_then ?_|with_reducible refine q_block_n ?_|((first|with_reducible refine ks fun K hK=>?_|with_reducible refine kd fun K hK=>?_|with_reducible refine kc fun K hK2 hK hK3=>?_);simp (disch:=omega) only [bg0,bg1,bg2,bg3,bg4,stepO,rsAs,eff,AX.ev,St.put,binA,conc,ap1,ofVal,Int.reduceTMod,Int.reduceTDiv,reduceCtorEq,fillA,AV.cells,AV.fine,AV.one,Nat.reduceAdd,Nat.reduceSub,Nat.reduceMul,Nat.reduceLT,Nat.reduceLeDiff,Int.reduceLT,Int.reduceLE,Int.reduceAdd,Int.reduceSub,Int.reduceNeg,Int.reduceMul,Int.reduceEq,Int.reduceToNat,nilA,moveA,live,loadA,rdA,storeA,wrA,intA,elemA,lenA,appA,srcA,isPtr,isNilPtr,partA,resOf,sliceA,cut,id,ap2,reduceIte,concs,chkB,geB,AOp.cls,AOp.xs,ltB,ltC,Nat.reduceBEq,Option.toList,List.cons_append,decide_eq_true,decide_eq_false,if_pos,if_neg,List.length_map,List.cons_append,bVb,bVn,eq_self,Bool.and_self,BEq.rfl,not_true_eq_false,set_pA,List.length_set,cVu,cVi,shr1,q1,q2,q3,e1,e2];(first|((with_reducible refine hK _ ?_);clear hK K)|((with_reducible refine hK ?_);clear hK hK3 K hK2)|((with_reducible refine hK3 ?_);clear hK hK3 K hK2))))
      exact ⟨rfl,by simp [at_],rw0_eq hsw⟩
    · rintro v2 H ⟨h17, rfl⟩
      rw [show m - (A.length - c)=a+c by omega] at h17
      rw [show A.length - (A.length - c)=c by omega]
      simp only [mix,mix_nil,mix_end,mix_skp,Nat.reduceEqDiff,Nat.reduceLeDiff,reduceCtorEq,if_true,if_false,reduceIte,Nat.reduceAdd,h17]
      rw [← hfin]
      simp only [List.append_assoc,List.cons_append]
      repeat (first|with_reducible refine w_seq ?_|with_reducible refine w_reg ?_|with_reducible refine w_exit ?_|with_reducible refine ws_nil ?_|with_reducible refine q_then ?_|with_reducible refine q_then_x ?_|with_reducible refine q_block_x ?_|with_reducible refine w_ret ?_|with_reducible refine q_then_r ?_|((first|with_reducible refine ks fun K hK=>?_|with_reducible refine kd fun K hK=>?_|with_reducible refine kc fun K hK2 hK hK3=>?_);simp (disch:=omega) only [bg0,bg1,bg2,bg3,bg4,stepO,rsAs,eff,AX.ev,St.put,binA,conc,ap1,ofVal,Int.reduceTMod,Int.reduceTDiv,reduceCtorEq,fillA,AV.cells,AV.fine,AV.one,Nat.reduceAdd,Nat.reduceSub,Nat.reduceMul,Nat.reduceLT,Nat.reduceLeDiff,Int.reduceLT,Int.reduceLE,Int.reduceAdd,Int.reduceSub,Int.reduceNeg,Int.reduceMul,Int.reduceEq,Int.reduceToNat,nilA,moveA,live,loadA,rdA,storeA,wrA,intA,elemA,lenA,appA,srcA,isPtr,isNilPtr,partA,resOf,sliceA,cut,id,ap2,reduceIte,concs,chkB,geB,AOp.cls,AOp.xs,ltB,ltC,Nat.reduceBEq,Option.toList,List.cons_append,decide_eq_true,decide_eq_false,if_pos,if_neg,List.length_map,List.cons_append,bVb,bVn,eq_self,Bool.and_self,BEq.rfl,not_true_eq_false,set_pA,List.length_set,cVu,cVi,shr1];(first|((with_reducible refine hK _ ?_);clear hK K)|((with_reducible refine hK ?_);clear hK hK3 K hK2)|((with_reducible refine hK3 ?_);clear hK hK3 K hK2)))|((with_reducible refine ret_0r ?_);try rfl))
end Go.Proofs.Ytghbpplcgjeohaa.Sim.Pr7
namespace Go.Proofs.Ytghbpplcgjeohaa.Sim.Pr7
open Go.RowKit
set_option maxRecDepth 100000
def SymOk (G : Nat → AV) : Prop := ∀ (g n : Nat) (P A B R : List Pr) (N a m b : Nat), A.length + B.length ≤ n → (P ++ (A ++ (B ++ R))).length = N → P.length = a → a + A.length = m → m + B.length = b → 0 < A.length → 0 < B.length → SLe A → SLe B → Okl (P ++ (A ++ (B ++ R))) →
    HC Try.prog G 68 [.ol 0 g N,I a,I m,I b,cF] [rw0 (P++(A++(B++R))) g] (.tup []) [rw0 (P++(ssort (A++B)++R)) g]
theorem srt_all (D:List Pr):srt D 0 D.length=ssort D:=by simp [srt,seg]
theorem srt_len {D:List Pr} {a b:Nat} (h:a≤b) (hb:b≤D.length):(srt D a b).length=D.length:=by
  simp [srt,ssort_len,seg];omega
theorem srt_mem {D:List Pr} {a b:Nat} {x:Pr} (h:x ∈ srt D a b):x ∈ D:=by
  simp only [srt,List.mem_append,ssort_mem] at h
  rcases h with h|h|h
  · exact List.mem_of_mem_take h
  · exact seg_mem h
  · exact List.mem_of_mem_drop h
theorem okl_srt {D:List Pr} {a b:Nat} (hD:Okl D) (h:a≤b) (hb:b≤D.length):Okl (srt D a b):=⟨by rw [srt_len h hb];exact hD.len,fun p hp=>hD.sz p (srt_mem hp)⟩
theorem srt_two {D:List Pr} {c:Nat} (hc:c≤D.length):srt (srt D 0 c) c D.length=ssort (D.take c)++(ssort (D.drop c)++[]):=by
  have h1:srt D 0 c=ssort (D.take c)++D.drop c:=by simp [srt,seg]
  have h2:(ssort (D.take c)).length=c:=by rw [ssort_len];simp;omega
  rw [h1]
  unfold srt seg
  have e1:(ssort (D.take c)++D.drop c).take c=ssort (D.take c):=by
    have:=List.take_left (l₁:=ssort (D.take c)) (l₂:=D.drop c)
    rwa [h2] at this
  have e2:((ssort (D.take c)++D.drop c).take D.length).drop c=D.drop c:=by
    rw [List.take_of_length_le (by simp [h2];omega)]
    have:=List.drop_left (l₁:=ssort (D.take c)) (l₂:=D.drop c)
    rwa [h2] at this
  have e3:(ssort (D.take c)++D.drop c).drop D.length=[]:=List.drop_of_length_le (by simp [h2];omega)
  rw [e1,e2,e3]
theorem ssort_two (X Y:List Pr):ssort (ssort X++ssort Y)=ssort (X++Y) :=
  srt_uniq (ssort_le _) (ssort_le _) fun k=>by simp only [ssort_fk,fk_append]
set_option maxHeartbeats 8000000 in
theorem stable37 (G : Nat → AV) (hS : SymOk G) (D : List Pr) (g : Nat) (hD : Okl D) (h40 : D.length ≤ 40) :
    HC Try.prog G 66 [.ol 0 g D.length,I D.length,cF] [rw0 D g] (.tup []) [rw0 (ssort D) g]:=by
  obtain ⟨N,hN⟩:∃ N,N=D.length:=⟨_,rfl⟩
  by_cases h1:N < 20
  · have i1 := ins43 G D g 0 N hD (by omega) (by omega)
    rw [hN,srt_all] at i1
    rw [← hN] at i1 ⊢
    refine hc_of cop66 ?_
    show W _ _ _ _ ⟨_,_⟩;simp only [A66,List.cons_append,List.nil_append,List.length_cons,List.length_nil,Nat.reduceAdd,Nat.reduceSub,List.replicate]
    clear hD hS
    repeat (first|with_reducible refine w_seq ?_|with_reducible refine w_reg ?_|with_reducible refine w_block ?_|with_reducible refine w_exit ?_|with_reducible refine ws_nil ?_|with_reducible refine q_then ?_|with_reducible refine q_then_x ?_|with_reducible refine q_block_x ?_|(with_reducible refine w_loopF 60 ?_)|(with_reducible refine w_loopS ?_)|((first|with_reducible refine ks fun K hK=>?_|with_reducible refine kd fun K hK=>?_|with_reducible refine kc fun K hK2 hK hK3=>?_);simp (disch:=omega) only [bg0,bg1,bg2,bg3,bg4,stepO,rsAs,eff,AX.ev,St.put,binA,conc,ap1,ofVal,Int.reduceTMod,Int.reduceTDiv,reduceCtorEq,fillA,AV.cells,AV.fine,AV.one,Nat.reduceAdd,Nat.reduceSub,Nat.reduceMul,Nat.reduceLT,Nat.reduceLeDiff,Int.reduceLT,Int.reduceLE,Int.reduceAdd,Int.reduceSub,Int.reduceNeg,Int.reduceMul,Int.reduceEq,Int.reduceToNat,nilA,moveA,live,loadA,rdA,storeA,wrA,intA,elemA,lenA,appA,srcA,isPtr,isNilPtr,partA,resOf,sliceA,cut,id,ap2,reduceIte,concs,chkB,geB,AOp.cls,AOp.xs,ltB,ltC,Nat.reduceBEq,Option.toList,List.cons_append,decide_eq_true,decide_eq_false,if_pos,if_neg,List.length_map,pA_at,List.cons_append,bVb,bVn,eq_self,Bool.and_self,BEq.rfl,not_true_eq_false];(first|((with_reducible refine hK _ ?_);clear hK K)|((with_reducible refine hK ?_);clear hK hK3 K hK2)|((with_reducible refine hK3 ?_);clear hK hK3 K hK2)))|((with_reducible refine khs 67 ?_ ?_ ?_ ?_);rotate_left 2;exact i1)|((with_reducible refine ret_0 ?_);try rfl))
  have i1:=ins43 G D g 0 20 hD (by omega) (by omega)
  have l1:=srt_len (D:=D) (a:=0) (b:=20) (by omega) (by omega)
  by_cases h2:N=20
  · have i2 := ins43 G (srt D 0 20) g 20 20 (okl_srt hD (by omega) (by omega)) (by omega) (by omega)
    rw [srt_one (D:=srt D 0 20) (by omega) (by omega) (by omega)] at i2
    have e:srt D 0 20=ssort D:=by rw [show 20=D.length by omega];exact srt_all D
    rw [e] at i1 i2 l1
    rw [l1] at i2
    rw [← hN,h2] at i1 i2 ⊢
    refine hc_of cop66 ?_
    show W _ _ _ _ ⟨_,_⟩;simp only [A66,List.cons_append,List.nil_append,List.length_cons,List.length_nil,Nat.reduceAdd,Nat.reduceSub,List.replicate]
    clear hD hS
    repeat (first|with_reducible refine w_seq ?_|with_reducible refine w_reg ?_|with_reducible refine w_block ?_|with_reducible refine w_skip ?_|with_reducible refine w_exit ?_|with_reducible refine ws_nil ?_|with_reducible refine q_then ?_|with_reducible refine q_then_x ?_|with_reducible refine q_block_n ?_|with_reducible refine q_block_x ?_|(with_reducible refine w_loopF 60 ?_)|(with_reducible refine w_loopS ?_)|((first|with_reducible refine ks fun K hK=>?_|with_reducible refine kd fun K hK=>?_|with_reducible refine kc fun K hK2 hK hK3=>?_);simp (disch:=omega) only [bg0,bg1,bg2,bg3,bg4,stepO,rsAs,eff,AX.ev,St.put,binA,conc,ap1,ofVal,Int.reduceTMod,Int.reduceTDiv,reduceCtorEq,fillA,AV.cells,AV.fine,AV.one,Nat.reduceAdd,Nat.reduceSub,Nat.reduceMul,Nat.reduceLT,Nat.reduceLeDiff,Int.reduceLT,Int.reduceLE,Int.reduceAdd,Int.reduceSub,Int.reduceNeg,Int.reduceMul,Int.reduceEq,Int.reduceToNat,nilA,moveA,live,loadA,rdA,storeA,wrA,intA,elemA,lenA,appA,srcA,isPtr,isNilPtr,partA,resOf,sliceA,cut,id,ap2,reduceIte,concs,chkB,geB,AOp.cls,AOp.xs,ltB,ltC,Nat.reduceBEq,Option.toList,List.cons_append,decide_eq_true,decide_eq_false,if_pos,if_neg,List.length_map,pA_at,List.cons_append,bVb,bVn,eq_self,Bool.and_self,BEq.rfl,not_true_eq_false];(first|((with_reducible refine hK _ ?_);clear hK K)|((with_reducible refine hK ?_);clear hK hK3 K hK2)|((with_reducible refine hK3 ?_);clear hK hK3 K hK2)))|((with_reducible refine khs 67 ?_ ?_ ?_ ?_);rotate_left 2;exact i1)|((with_reducible refine khs 67 ?_ ?_ ?_ ?_);rotate_left 2;exact i2)|((with_reducible refine ret_0 ?_);try rfl))
  have i2:=ins43 G (srt D 0 20) g 20 D.length (okl_srt hD (by omega) (by omega)) (by omega) (by omega)
  rw [srt_two (by omega),l1] at i2
  have s3:=hS g D.length [] (ssort (D.take 20)) (ssort (D.drop 20)) [] N 0 20 N (by simp [ssort_len];omega) (by simp [ssort_len];omega) rfl (by simp [ssort_len];omega) (by simp [ssort_len];omega) (by simp [ssort_len];omega) (by simp [ssort_len];omega) (ssort_le _) (ssort_le _) ⟨by simp [ssort_len];omega,fun p hp=>by
    simp only [List.nil_append,List.append_nil,List.mem_append,ssort_mem] at hp
    rcases hp with h|h
    · exact hD.sz p (List.mem_of_mem_take h)
    · exact hD.sz p (List.mem_of_mem_drop h)⟩
  rw [ssort_two,List.take_append_drop] at s3
  simp only [List.nil_append,List.append_nil] at s3 i2
  have l2:(ssort (D.take 20)++ssort (D.drop 20)).length=N:=by simp [ssort_len];omega
  rw [← hN] at i1 i2 ⊢
  by_cases h3:N < 40
  · generalize srt D 0 20 = D1 at *
    generalize ssort (D.take 20)++ssort (D.drop 20)=D2 at *
    generalize ssort D=D3 at *
    refine hc_of cop66 ?_
    show W _ _ _ _ ⟨_,_⟩;simp only [A66,List.cons_append,List.nil_append,List.length_cons,List.length_nil,Nat.reduceAdd,Nat.reduceSub,List.replicate]
    clear hD hS
    repeat (first|with_reducible refine w_seq ?_|with_reducible refine w_reg ?_|with_reducible refine w_block ?_|with_reducible refine w_skip ?_|with_reducible refine w_exit ?_|with_reducible refine ws_nil ?_|with_reducible refine q_then ?_|with_reducible refine q_then_x ?_|with_reducible refine q_block_n ?_|with_reducible refine q_block_x ?_|(with_reducible refine w_loopF 60 ?_)|(with_reducible refine w_loopS ?_)|((first|with_reducible refine ks fun K hK=>?_|with_reducible refine kd fun K hK=>?_|with_reducible refine kc fun K hK2 hK hK3=>?_);simp (disch:=omega) only [bg0,bg1,bg2,bg3,bg4,stepO,rsAs,eff,AX.ev,St.put,binA,conc,ap1,ofVal,Int.reduceTMod,Int.reduceTDiv,reduceCtorEq,fillA,AV.cells,AV.fine,AV.one,Nat.reduceAdd,Nat.reduceSub,Nat.reduceMul,Nat.reduceLT,Nat.reduceLeDiff,Int.reduceLT,Int.reduceLE,Int.reduceAdd,Int.reduceSub,Int.reduceNeg,Int.reduceMul,Int.reduceEq,Int.reduceToNat,nilA,moveA,live,loadA,rdA,storeA,wrA,intA,elemA,lenA,appA,srcA,isPtr,isNilPtr,partA,resOf,sliceA,cut,id,ap2,reduceIte,concs,chkB,geB,AOp.cls,AOp.xs,ltB,ltC,Nat.reduceBEq,Option.toList,List.cons_append,decide_eq_true,decide_eq_false,if_pos,if_neg,List.length_map,pA_at,List.cons_append,bVb,bVn,eq_self,Bool.and_self,BEq.rfl,not_true_eq_false];(first|((with_reducible refine hK _ ?_);clear hK K)|((with_reducible refine hK ?_);clear hK hK3 K hK2)|((with_reducible refine hK3 ?_);clear hK hK3 K hK2)))|((with_reducible refine khs 67 ?_ ?_ ?_ ?_);rotate_left 2;exact i1)|((with_reducible refine khs 67 ?_ ?_ ?_ ?_);rotate_left 2;exact i2)|((with_reducible refine khs 68 ?_ ?_ ?_ ?_);rotate_left 2;exact s3)|((with_reducible refine ret_0 ?_);try rfl))
  · obtain rfl : N = 40 := by omega
    have i3:=ins43 G (ssort (D.take 20)++ssort (D.drop 20)) g 40 40 ⟨by rw [l2];omega,fun p hp=>by
      simp only [List.mem_append,ssort_mem] at hp
      rcases hp with h|h
      · exact hD.sz p (List.mem_of_mem_take h)
      · exact hD.sz p (List.mem_of_mem_drop h)⟩ (by omega) (by omega)
    rw [srt_one (by omega) (by omega) (by omega),l2] at i3
    generalize srt D 0 20=D1 at *
    generalize ssort (D.take 20)++ssort (D.drop 20)=D2 at *
    generalize ssort D=D3 at *
    refine hc_of cop66 ?_
    show W _ _ _ _ ⟨_,_⟩;simp only [A66,List.cons_append,List.nil_append,List.length_cons,List.length_nil,Nat.reduceAdd,Nat.reduceSub,List.replicate]
    clear hD hS
    repeat (first|with_reducible refine w_seq ?_|with_reducible refine w_reg ?_|with_reducible refine w_block ?_|with_reducible refine w_skip ?_|with_reducible refine w_exit ?_|with_reducible refine ws_nil ?_|with_reducible refine q_then ?_|with_reducible refine q_then_x ?_|with_reducible refine q_block_n ?_|with_reducible refine q_block_x ?_|(with_reducible refine w_loopF 60 ?_)|(with_reducible refine w_loopS ?_)|((first|with_reducible refine ks fun K hK=>?_|with_reducible refine kd fun K hK=>?_|with_reducible refine kc fun K hK2 hK hK3=>?_);simp (disch:=omega) only [bg0,bg1,bg2,bg3,bg4,stepO,rsAs,eff,AX.ev,St.put,binA,conc,ap1,ofVal,Int.reduceTMod,Int.reduceTDiv,reduceCtorEq,fillA,AV.cells,AV.fine,AV.one,Nat.reduceAdd,Nat.reduceSub,Nat.reduceMul,Nat.reduceLT,Nat.reduceLeDiff,Int.reduceLT,Int.reduceLE,Int.reduceAdd,Int.reduceSub,Int.reduceNeg,Int.reduceMul,Int.reduceEq,Int.reduceToNat,nilA,moveA,live,loadA,rdA,storeA,wrA,intA,elemA,lenA,appA,srcA,isPtr,isNilPtr,partA,resOf,sliceA,cut,id,ap2,reduceIte,concs,chkB,geB,AOp.cls,AOp.xs,ltB,ltC,Nat.reduceBEq,Option.toList,List.cons_append,decide_eq_true,decide_eq_false,if_pos,if_neg,List.length_map,pA_at,List.cons_append,bVb,bVn,eq_self,Bool.and_self,BEq.rfl,not_true_eq_false];(first|((with_reducible refine hK _ ?_);clear hK K)|((with_reducible refine hK ?_);clear hK hK3 K hK2)|((with_reducible refine hK3 ?_);clear hK hK3 K hK2)))|((with_reducible refine khs 67 ?_ ?_ ?_ ?_);rotate_left 2;exact i1)|((with_reducible refine khs 67 ?_ ?_ ?_ ?_);rotate_left 2;exact i2)|((with_reducible refine khs 67 ?_ ?_ ?_ ?_);rotate_left 2;exact i3)|((with_reducible refine khs 68 ?_ ?_ ?_ ?_);rotate_left 2;exact s3)|((with_reducible refine ret_0 ?_);try rfl))
set_option maxHeartbeats 4000000 in
theorem sort28 (G : Nat → AV) (hS : SymOk G) (D : List Pr) (g : Nat) (hD : Okl D) (h40 : D.length ≤ 40) :
    HC Try.prog G 63 [.ol 0 g D.length,cF] [rw0 D g] (.tup []) [rw0 (ssort D) g]:=by
  have h:=stable37 G hS D g hD h40
  refine hc_of cop63 ?_
  show W _ _ _ _ ⟨_,_⟩;simp only [A63,List.cons_append,List.nil_append,List.length_cons,List.length_nil,Nat.reduceAdd,Nat.reduceSub,List.replicate]
  repeat (first|with_reducible refine w_reg ?_|with_reducible refine ws_nil ?_|((first|with_reducible refine ks fun K hK=>?_|with_reducible refine kd fun K hK=>?_|with_reducible refine kc fun K hK2 hK hK3=>?_);simp (disch:=omega) only [bg0,bg1,bg2,bg3,bg4,stepO,rsAs,eff,AX.ev,St.put,binA,conc,ap1,ofVal,Int.reduceTMod,Int.reduceTDiv,reduceCtorEq,fillA,AV.cells,AV.fine,AV.one,Nat.reduceAdd,Nat.reduceSub,Nat.reduceMul,Nat.reduceLT,Nat.reduceLeDiff,Int.reduceLT,Int.reduceLE,Int.reduceAdd,Int.reduceSub,Int.reduceNeg,Int.reduceMul,Int.reduceEq,Int.reduceToNat,nilA,moveA,live,loadA,rdA,storeA,wrA,intA,elemA,lenA,appA,srcA,isPtr,isNilPtr,partA,resOf,sliceA,cut,id,ap2,reduceIte,concs,chkB,geB,AOp.cls,AOp.xs,ltB,ltC,Nat.reduceBEq,Option.toList,List.cons_append,decide_eq_true,decide_eq_false,if_pos,if_neg,List.length_map,pA_at,List.cons_append,bVb,bVn,eq_self,Bool.and_self,BEq.rfl,not_true_eq_false];(first|((with_reducible refine hK _ ?_);clear hK K)|((with_reducible refine hK ?_);clear hK hK3 K hK2)|((with_reducible refine hK3 ?_);clear hK hK3 K hK2)))|((with_reducible refine khs 66 ?_ ?_ ?_ ?_);rotate_left 2;exact h)|((with_reducible refine ret_0 ?_);try rfl))
theorem isl:isSliceT Try.prog 24=true:=by kernel_rfl
set_option maxHeartbeats 4000000 in
theorem clone27 (G:Nat→AV) (l:List Pr) (hl:Okl l) (h0:l ≠ []) (H:Hp):HC Try.prog G 62 [.sl 2 (l.map pA)] H (.ol H.length 1 l.length) (H++[⟨62,2,l.map pA,1,0⟩]):=by
  have hlen:=hl.len
  have he:(l.map pA).isEmpty=false:=by cases l with|nil=>exact absurd rfl h0|cons=>rfl
  refine hc_of cop62 ?_
  show W _ _ _ _ ⟨_,_⟩;simp only [A62,List.cons_append,List.nil_append,List.length_cons,List.length_nil,Nat.reduceAdd,Nat.reduceSub,List.replicate]
  repeat (first|with_reducible refine w_seq ?_|with_reducible refine w_reg ?_|with_reducible refine w_skip ?_|with_reducible refine ws_nil ?_|with_reducible refine q_then ?_|with_reducible refine w_ret ?_|((first|with_reducible refine ks fun K hK=>?_|with_reducible refine kd fun K hK=>?_|with_reducible refine kc fun K hK2 hK hK3=>?_);simp (disch:=omega) only [bg0,bg1,bg2,bg3,bg4,stepO,rsAs,eff,AX.ev,St.put,binA,conc,ap1,ofVal,Int.reduceTMod,Int.reduceTDiv,reduceCtorEq,fillA,AV.cells,AV.fine,AV.one,Nat.reduceAdd,Nat.reduceSub,Nat.reduceMul,Nat.reduceLT,Nat.reduceLeDiff,Int.reduceLT,Int.reduceLE,Int.reduceAdd,Int.reduceSub,Int.reduceNeg,Int.reduceMul,Int.reduceEq,Int.reduceToNat,nilA,moveA,live,loadA,rdA,storeA,wrA,intA,elemA,lenA,appA,srcA,isPtr,isNilPtr,partA,resOf,sliceA,cut,id,ap2,reduceIte,concs,chkB,geB,AOp.cls,AOp.xs,ltB,ltC,Nat.reduceBEq,Option.toList,List.cons_append,decide_eq_true,decide_eq_false,if_pos,if_neg,List.length_map,pA_at,List.cons_append,bVb,bVn,eq_self,Bool.and_self,BEq.rfl,not_true_eq_false,isl,nilCmp,isRow,isNl,he,Bool.not_false];(first|((with_reducible refine hK _ ?_);clear hK K)|((with_reducible refine hK ?_);clear hK hK3 K hK2)|((with_reducible refine hK3 ?_);clear hK hK3 K hK2)))|((first|with_reducible refine ret_h fun K hK=>?_|with_reducible refine ret_hh rfl fun K hK=>?_|with_reducible refine ret_pp fun K hK=>?_);simp (disch:=omega) only [bg0,bg1,bg2,bg3,bg4,stepO,rsAs,eff,AX.ev,St.put,binA,conc,ap1,ofVal,Int.reduceTMod,Int.reduceTDiv,reduceCtorEq,fillA,AV.cells,AV.fine,AV.one,Nat.reduceAdd,Nat.reduceSub,Nat.reduceMul,Nat.reduceLT,Nat.reduceLeDiff,Int.reduceLT,Int.reduceLE,Int.reduceAdd,Int.reduceSub,Int.reduceNeg,Int.reduceMul,Int.reduceEq,Int.reduceToNat,nilA,moveA,live,loadA,rdA,storeA,wrA,intA,elemA,lenA,appA,srcA,isPtr,isNilPtr,partA,resOf,sliceA,cut,id,ap2,reduceIte,concs,chkB,geB,AOp.cls,AOp.xs,ltB,ltC,Nat.reduceBEq,Option.toList,List.cons_append,decide_eq_true,decide_eq_false,if_pos,if_neg,List.length_map,pA_at,List.cons_append,bVb,bVn,eq_self,Bool.and_self,BEq.rfl,not_true_eq_false,isl,nilCmp,isRow,isNl,he,Bool.not_false];(first|((with_reducible refine hK _ ?_ ?_ ?_ ?_);rotate_left 2;rfl;rfl)|((with_reducible refine hK _ ?_);rfl))))
set_option maxHeartbeats 4000000 in
theorem clone27e (G:Nat→AV):PC Try.prog G 62 [.sl 2 []] (.sl 2 []):=by
  refine @pc_em _ _ _ _ _ cop62 [] [] 2 _ fun b=>?_
  cases b
  all_goals
    show W _ _ _ _ ⟨_,_⟩
    simp only [A62,List.cons_append,List.nil_append,List.length_cons,List.length_nil,Nat.reduceAdd,Nat.reduceSub,List.replicate]
    repeat (first|with_reducible refine w_seq ?_|with_reducible refine w_reg ?_|with_reducible refine w_skip ?_|with_reducible refine ws_nil ?_|with_reducible refine q_then ?_|with_reducible refine w_ret ?_|with_reducible refine q_then_r ?_|((first|with_reducible refine ks fun K hK=>?_|with_reducible refine kd fun K hK=>?_|with_reducible refine kc fun K hK2 hK hK3=>?_);simp (disch:=omega) only [bg0,bg1,bg2,bg3,bg4,stepO,rsAs,eff,AX.ev,St.put,binA,conc,ap1,ofVal,Int.reduceTMod,Int.reduceTDiv,reduceCtorEq,fillA,AV.cells,AV.fine,AV.one,Nat.reduceAdd,Nat.reduceSub,Nat.reduceMul,Nat.reduceLT,Nat.reduceLeDiff,Int.reduceLT,Int.reduceLE,Int.reduceAdd,Int.reduceSub,Int.reduceNeg,Int.reduceMul,Int.reduceEq,Int.reduceToNat,nilA,moveA,live,loadA,rdA,storeA,wrA,intA,elemA,lenA,appA,srcA,isPtr,isNilPtr,partA,resOf,sliceA,cut,id,ap2,reduceIte,concs,chkB,geB,AOp.cls,AOp.xs,ltB,ltC,Nat.reduceBEq,Option.toList,List.cons_append,decide_eq_true,decide_eq_false,if_pos,if_neg,List.length_map,pA_at,List.cons_append,bVb,bVn,eq_self,Bool.and_self,BEq.rfl,not_true_eq_false,isl,nilCmp,isRow,isNi,isNl,Bool.not_false,Bool.not_true];(first|((with_reducible refine hK _ ?_);clear hK K)|((with_reducible refine hK ?_);clear hK hK3 K hK2)|((with_reducible refine hK3 ?_);clear hK hK3 K hK2)))|((first|with_reducible refine ret_h fun K hK=>?_|with_reducible refine ret_hh rfl fun K hK=>?_|with_reducible refine ret_pp fun K hK=>?_);simp (disch:=omega) only [bg0,bg1,bg2,bg3,bg4,stepO,rsAs,eff,AX.ev,St.put,binA,conc,ap1,ofVal,Int.reduceTMod,Int.reduceTDiv,reduceCtorEq,fillA,AV.cells,AV.fine,AV.one,Nat.reduceAdd,Nat.reduceSub,Nat.reduceMul,Nat.reduceLT,Nat.reduceLeDiff,Int.reduceLT,Int.reduceLE,Int.reduceAdd,Int.reduceSub,Int.reduceNeg,Int.reduceMul,Int.reduceEq,Int.reduceToNat,nilA,moveA,live,loadA,rdA,storeA,wrA,intA,elemA,lenA,appA,srcA,isPtr,isNilPtr,partA,resOf,sliceA,cut,id,ap2,reduceIte,concs,chkB,geB,AOp.cls,AOp.xs,ltB,ltC,Nat.reduceBEq,Option.toList,List.cons_append,decide_eq_true,decide_eq_false,if_pos,if_neg,List.length_map,pA_at,List.cons_append,bVb,bVn,eq_self,Bool.and_self,BEq.rfl,not_true_eq_false,isl,nilCmp,isRow,isNi,isNl,Bool.not_false,Bool.not_true];(first|((with_reducible refine hK _ ?_ ?_ ?_ ?_);rotate_left 2;rfl;rfl)|((with_reducible refine hK _ ?_);rfl))))
end Go.Proofs.Ytghbpplcgjeohaa.Sim.Pr7
namespace Go.Proofs.Ytghbpplcgjeohaa.Sim.Pr7
open Go.RowKit
set_option maxRecDepth 100000
end Go.Proofs.Ytghbpplcgjeohaa.Sim.Pr7
namespace Go.Proofs.Ytghbpplcgjeohaa.Sim.Pr7
open Go.RowKit
set_option maxRecDepth 100000
end Go.Proofs.Ytghbpplcgjeohaa.Sim.Pr7
namespace Go.Proofs.Ytghbpplcgjeohaa.Sim.Pr7
open Go.RowKit
set_option maxRecDepth 100000
theorem ret_frz {t:Nat} {k:Nat} {es:List AV} {st:St} {i g n:Nat} {e:TypeId} {fz:Nat} (h1:st.s.getD t undefA = .ol i g n) (h2:st.H[i]? = some ⟨e,k,es,g,fz⟩) (hn:es.length=n) (hp:es.all AV.isP=true):RetP [(t,none)] (.sl k es) .r st:=by
  subst hn
  refine ⟨.inr rfl,[.ol i g es.length],by simp only [rsAs,h1],[.sl k es],st.H.set i ⟨e,k,es,g,max fz es.length⟩,?_,rfl⟩
  simp only [purA,pur,purC,h2,Nat.le_refl,List.take_length,hp,and_self,if_true]
def MkOk (G:Nat→AV):Prop:=∀ l:List Pr,l.length≤40→Okl l→PC Try.prog G 55 [.sl 2 (l.map pA)] (.sl 2 ((mk l).map pA))
def af (m:List Pr) (k:ByteArray):Option Pr:=m[(le m k).length]?
def fl (m:List Pr) (k:ByteArray):Option Pr:=(le m k).getLast?
end Go.Proofs.Ytghbpplcgjeohaa.Sim.Pr7
namespace Go.Proofs.Ytghbpplcgjeohaa.Sim.Pr7
open Go.RowKit
set_option maxRecDepth 100000
section
variable {α:Type} {J K:List α} {o a b y:α}
theorem gR0:(J++o::K)[J.length]? = some o:=by simp
theorem gR01:(J++o::K++[a])[J.length]? = some o:=by simp
theorem gR02:(J++o::K++[a]++[b])[J.length]? = some o:=by simp
theorem sR0:(J++o::K).set J.length y=J++y::K:=by simp
theorem sR01:(J++o::K++[a]).set J.length y=J++y::K++[a]:=by simp
theorem sR02:(J++o::K++[a]++[b]).set J.length y=J++y::K++[a]++[b]:=by simp
theorem lR0:(J++o::K).length=J.length+(K.length+1):=by simp
theorem lR1:(J++o::K++[a]).length=J.length+(K.length+1)+1:=by simp;omega
theorem kR {M:List α} {i:Nat}:(J++o::K++M)[J.length+(K.length+1)+i]? = M[i]?:=by
  have:=ga (L:=J++o::K) (M:=M) (i:=i)
  rwa [lR0] at this
theorem tR {M:List α} {i:Nat}:(J++o::K++M).set (J.length+(K.length+1)+i) y=J++o::K++M.set i y:=by
  have:=sa (L:=J++o::K) (M:=M) (i:=i) (y:=y)
  rwa [lR0] at this
theorem gR1:(J++o::K++[a])[J.length+(K.length+1)]? = some a:=kR (i:=0)
theorem gR2:(J++o::K++[a]++[b])[J.length+(K.length+1)]? = some a:=by rw [List.append_assoc];exact kR (i:=0)
theorem gR22:(J++o::K++[a]++[b])[J.length+(K.length+1)+1]? = some b:=by rw [List.append_assoc];exact kR (i:=1)
theorem sR1:(J++o::K++[a]).set (J.length+(K.length+1)) y=J++o::K++[y]:=tR (i:=0)
theorem sR2:(J++o::K++[a]++[b]).set (J.length+(K.length+1)) y=J++o::K++[y]++[b]:=by simp
theorem sR22:(J++o::K++[a]++[b]).set (J.length+(K.length+1)+1) y=J++o::K++[a]++[y]:=by have h:=tR (J:=J) (K:=K) (o:=o) (M:=[a,b]) (i:=1) (y:=y);simpa using h
end
theorem lasts_drop {l:List Pr} {k:Nat} (h:k < l.length):lasts (l.drop k)=if fk (l[k]).1 (l.drop (k+1))=[] then l[k]::lasts (l.drop (k+1)) else lasts (l.drop (k+1)):=by
  rw [List.drop_eq_getElem_cons h];rfl
end Go.Proofs.Ytghbpplcgjeohaa.Sim.Pr7
