/- Texts of this claim, part 7. -/
import Derived.Test.YtgpldekhcojimaaDoorMModelSame6
set_option linter.unusedVariables false
set_option linter.unusedSimpArgs false
namespace Go.Proofs.YtgpldekhcojimaaDoor.Sim.Pr7
open Go.RowKit
set_option maxRecDepth 100000
theorem sle_at {A:List Pr} (h:SLe A) {i j:Nat} (hij:i≤j) (hj:j < A.length):cB (A[i]'(by omega)).1 (A[j]).1≤0:=by
  by_cases e:i=j
  · subst e;rw [cB_self];omega
  · exact List.pairwise_iff_getElem.1 h i j (by omega) hj (by omega)
theorem hc_row {G:Nat→AV} {f:FuncId} {xs:List AV} {D D' E E':List Pr} {g:Nat} {r:AV} (h:HC Tryd.prog G f xs [rw0 D g] r [rw0 E g]) (e1:D=D') (e2:E=E'):HC Tryd.prog G f xs [rw0 D' g] r [rw0 E' g]:=by
  subst e1;subst e2;exact h
theorem okl_perm {D D':List Pr} (h:Okl D) (hl:D'.length=D.length) (hm:∀ x ∈ D',x ∈ D):Okl D':=⟨by rw [hl];exact h.len,fun p hp=>h.sz p (hm p hp)⟩
theorem mem_take_at {L:List Pr} {n:Nat} {x:Pr} (h:x ∈ L.take n):∃ i,∃ hi:i < L.length,i < n∧L[i]=x:=by
  obtain ⟨i,hi,rfl⟩:=List.mem_take_iff_getElem.1 h
  exact ⟨i,by omega,by omega,rfl⟩
theorem mem_drop_at {L:List Pr} {n:Nat} {x:Pr} (h:x ∈ L.drop n):∃ i,∃ hi:i < L.length,n≤i∧L[i]=x:=by
  obtain ⟨i,hi,rfl⟩:=List.mem_drop_iff_getElem.1 h
  exact ⟨n+i,by omega,by omega,rfl⟩
theorem sym_cut {A B : List Pr} {a s mid m : Nat} (sA : SLe A) (sB : SLe B) (h1 : a ≤ s) (h2 : s ≤ m) (h3 : s ≤ mid) (hA : a + A.length = m) (hb : mid ≤ s + B.length)
    (hlo:a < s→mid < s+B.length→∀ x y,A[s - 1 - a]? = some x→B[mid - s]? = some y→¬ cB y.1 x.1 < 0)
    (hhi:s < m→s < mid→∀ x y,A[s - a]? = some x→B[mid - 1 - s]? = some y→cB y.1 x.1 < 0) :
    ssort (A++B)=ssort (A.take (s - a)++B.take (mid - s))++ssort (A.drop (s - a)++B.drop (mid - s))∧(∀ x ∈ A.drop (s - a),∀ y ∈ B.take (mid - s),cB y.1 x.1 < 0):=by
  have g1:∀ x ∈ A.drop (s - a),∀ y ∈ B.take (mid - s),cB y.1 x.1 < 0:=fun x hx y hy=>by
    obtain ⟨i,hi,hi2,rfl⟩:=mem_drop_at hx
    obtain ⟨j,hj,hj2,rfl⟩:=mem_take_at hy
    have k1:s - a < A.length:=by omega
    have k2:mid - 1 - s < B.length:=by omega
    have:=hhi (by omega) (by omega) _ _ (List.getElem?_eq_getElem k1) (List.getElem?_eq_getElem k2)
    have c1:=sle_at sA (i:=s - a) (j:=i) (by omega) hi
    have c2:=sle_at sB (i:=j) (j:=mid - 1 - s) (by omega) k2
    exact cB_lt1 (cB_lt2 c2 this) c1
  refine ⟨?_,g1⟩
  have e1:=List.take_append_drop (s - a) A
  have e2:=List.take_append_drop (mid - s) B
  have:=ssort_merge (A1:=A.take (s - a)) (A2:=A.drop (s - a)) (B1:=B.take (mid - s)) (B2:=B.drop (mid - s)) (by rw [e1];exact sA) (by rw [e2];exact sB) g1 (fun x hx y hy=>by
    obtain ⟨i,hi,hi2,rfl⟩:=mem_take_at hx
    obtain ⟨j,hj,hj2,rfl⟩:=mem_drop_at hy
    have k1:s - 1 - a < A.length:=by omega
    have k2:mid - s < B.length:=by omega
    have:=hlo (by omega) (by omega) _ _ (List.getElem?_eq_getElem k1) (List.getElem?_eq_getElem k2)
    have c1:=sle_at sA (i:=i) (j:=s - 1 - a) (by omega) k1
    have c2:=sle_at sB (i:=mid - s) (j:=j) (by omega) hj
    refine cB_le c1 (cB_le ?_ c2)
    rw [cB_anti (B[mid - s]).1];omega)
  rwa [e1,e2] at this
theorem ssort_nil1 {X Y:List Pr} (h:X=[]∨Y=[]) (hX:SLe X) (hY:SLe Y):ssort (X++Y)=X++Y:=by
  rcases h with rfl|rfl
  · exact ssort_of hY
  · rw [List.append_nil];exact ssort_of hX
theorem sym_all {G : Nat → AV} {g n : Nat} {P A B R : List Pr} {N a m b s mid e : Nat}
    (ih:∀ (P A B R:List Pr) (N a m b:Nat),A.length+B.length≤n→(P++(A++(B++R))).length=N→P.length=a→a+A.length=m→m+B.length=b→0 < A.length→0 < B.length→SLe A→SLe B→Okl (P++(A++(B++R))) →
      HC Tryd.prog G 102 [.ol 0 g N,I a,I m,I b,cF] [rw0 (P++(A++(B++R))) g] (.tup []) [rw0 (P++(ssort (A++B)++R)) g])
    (hn:A.length+B.length≤n+1) (hN:(P++(A++(B++R))).length=N) (hP:P.length=a) (hA:a+A.length=m) (hB:m+B.length=b) (sA:SLe A) (sB:SLe B) (hok:Okl (P++(A++(B++R))))
    (h1:a≤s) (h2:s≤m) (h3:s≤mid) (hb:mid≤s+B.length) (he:e+s=mid+m) (hmb:mid < b) (ham:a < mid)
    (hlo:a < s→mid < s+B.length→∀ x y,A[s - 1 - a]? = some x→B[mid - s]? = some y→¬ cB y.1 x.1 < 0)
    (hhi:s < m→s < mid→∀ x y,A[s - a]? = some x→B[mid - 1 - s]? = some y→cB y.1 x.1 < 0) :
    ∃ D1 D2 D3:List Pr,D3=P++(ssort (A++B)++R)∧D1.length=N∧D2.length=N ∧
      (s < m→m < e→HC Tryd.prog G 103 [.ol 0 g N,I s,I m,I e,cF] [rw0 (P++(A++(B++R))) g] (.tup []) [rw0 D1 g])∧(¬ (s < m∧m < e)→P++(A++(B++R))=D1) ∧
      (a < s→s < mid→HC Tryd.prog G 102 [.ol 0 g N,I a,I s,I mid,cF] [rw0 D1 g] (.tup []) [rw0 D2 g])∧(¬ (a < s∧s < mid)→D1=D2) ∧
      (mid < e→e < b→HC Tryd.prog G 102 [.ol 0 g N,I mid,I e,I b,cF] [rw0 D2 g] (.tup []) [rw0 D3 g])∧(¬ (mid < e∧e < b)→D2=D3):=by
  obtain ⟨c1,c2⟩:=sym_cut sA sB h1 h2 h3 hA hb hlo hhi
  have eA:=List.take_append_drop (s - a) A
  have eB:=List.take_append_drop (mid - s) B
  have lA1:(A.take (s - a)).length=s - a:=by simp;omega
  have lA2:(A.drop (s - a)).length=m - s:=by simp;omega
  have lB1:(B.take (mid - s)).length=mid - s:=by simp;omega
  have lB2:(B.drop (mid - s)).length=b - e:=by simp;omega
  have sA1:SLe (A.take (s - a)):=List.Pairwise.sublist (List.take_sublist ..) sA
  have sA2:SLe (A.drop (s - a)):=List.Pairwise.sublist (List.drop_sublist ..) sA
  have sB1:SLe (B.take (mid - s)):=List.Pairwise.sublist (List.take_sublist ..) sB
  have sB2:SLe (B.drop (mid - s)):=List.Pairwise.sublist (List.drop_sublist ..) sB
  rw [c1]
  generalize A.take (s - a)=A1 at *
  generalize A.drop (s - a)=A2 at *
  generalize B.take (mid - s)=B1 at *
  generalize B.drop (mid - s)=B2 at *
  clear hlo hhi c1
  subst eA
  subst eB
  simp only [List.length_append] at hn hA hB hN hb
  have hm1:∀ x,x ∈ P++(A1++(B1++(A2++(B2++R))))→x ∈ P++((A1++A2)++((B1++B2)++R)):=fun x hx=>by
    simp only [List.mem_append] at hx ⊢
    rcases hx with h|h|h|h|h|h<;>simp [h]
  have hm2:∀ x,x ∈ (P++ssort (A1++B1))++(A2++(B2++R))→x ∈ P++((A1++A2)++((B1++B2)++R)):=fun x hx=>by
    simp only [List.mem_append,ssort_mem] at hx ⊢
    rcases hx with (h|h|h)|h|h|h<;>simp [h]
  have ok1:Okl (P++(A1++(B1++(A2++(B2++R))))):=okl_perm hok (by simp;omega) hm1
  have ok2:Okl ((P++ssort (A1++B1))++(A2++(B2++R))):=okl_perm hok (by simp [ssort_len];omega) hm2
  refine ⟨P++(A1++(B1++(A2++(B2++R)))),P++(ssort (A1++B1)++(A2++(B2++R))),_,rfl,by simp;omega,by simp [ssort_len];omega,fun k1 k2=>?_,fun hk=>?_,fun k1 k2=>?_,fun hk=>?_,fun k1 k2=>?_,fun hk=>?_⟩
  · have hr := rot_list (P := P ++ A1) (A := A2) (B := B1) (R := B2 ++ R)
    have e1:(P++A1).length=s:=by simp;omega
    have e2:(P++A1).length+A2.length=m:=by simp;omega
    have e3:(P++A1).length+A2.length+B1.length=e:=by simp;omega
    rw [e3,e2,e1] at hr
    have hlN:(P++(A1++A2++(B1++B2++R))).length=N:=by simp;omega
    have:=rot45 G (P++(A1++A2++(B1++B2++R))) g s m e hok.len k1 k2 (by rw [hlN];omega) cF
    rw [hlN] at this
    refine hc_row this rfl ?_
    have e4:P++(A1++A2++(B1++B2++R))=P++A1++(A2++(B1++(B2++R))):=by simp
    rw [e4,hr];simp
  · have : A2 = [] ∨ B1 = [] := by
      by_cases hh:s < m
      · right;exact List.length_eq_zero_iff.1 (by omega)
      · left;exact List.length_eq_zero_iff.1 (by omega)
    rcases this with rfl|rfl<;>simp
  · exact ih P A1 B1 (A2++(B2++R)) N a s mid (by omega) (by simp;omega) hP (by omega) (by omega) (by omega) (by omega) sA1 sB1 ok1
  · rw [ssort_nil1 _ sA1 sB1]
    · simp
    · by_cases hh : a < s
      · right;exact List.length_eq_zero_iff.1 (by omega)
      · left;exact List.length_eq_zero_iff.1 (by omega)
  · have := ih (P ++ ssort (A1 ++ B1)) A2 B2 R N mid e b (by omega) (by simp [ssort_len]; omega) (by simp [ssort_len]; omega) (by omega) (by omega) (by omega) (by omega) sA2 sB2 ok2
    exact hc_row this (by simp) (by simp)
  · rw [ssort_nil1 (X := A2) _ sA2 sB2]
    · simp
    · by_cases hh : mid < e
      · right;exact List.length_eq_zero_iff.1 (by omega)
      · left;exact List.length_eq_zero_iff.1 (by omega)
theorem eVu {H:Hp} {k:KK} {n:Nat} (h:n≤9223372036854775807) (hk:k (.v (.int .u64 (n:Int))) H):ObE ((ap1 (fun v=>pureRun Tryd.prog (convert 3 115 v)) (.v (.int .i64 (n:Int)))).map (·,H)) k :=
  ⟨_,_,by simp only [ap1,conc,cVu (show (0:Int)≤(n:Int) by omega) (show (n:Int)≤9223372036854775807 by omega)];rfl,hk⟩
theorem eVi {H:Hp} {k:KK} {n:Nat} (h:n≤9223372036854775807) (hk:k (.v (.int .i64 (n:Int))) H):ObE ((ap1 (fun v=>pureRun Tryd.prog (convert 115 3 v)) (.v (.int .u64 (n:Int)))).map (·,H)) k :=
  ⟨_,_,by simp only [ap1,conc,cVi (show (0:Int)≤(n:Int) by omega) (show (n:Int)≤9223372036854775807 by omega)];rfl,hk⟩
theorem eShr {H:Hp} {k:KK} {n:Nat} {t:TypeId} {xo yo:Operand} (hk:k (.v (.int .u64 ((n / 2:Nat):Int))) H):ObE ((binA Tryd.prog H .shr t false xo yo (.v (.int .u64 (n:Int))) (.v (.int .u64 1))).map (·,H)) k:=by
  have:=shr1 (P:=Tryd.prog) (t:=t) (xo:=xo) (yo:=yo) (i:=n) (j:=0)
  rw [show ((n:Int)+((0:Nat):Int))=(n:Int) by simp,Nat.add_zero] at this
  exact ⟨_,_,by simp only [binA,conc,this,Bool.false_eq_true,if_false];rfl,hk⟩
set_option maxHeartbeats 40000000 in
theorem sym44 (G : Nat → AV) (g : Nat) : ∀ (n : Nat) (P A B R : List Pr) (N a m b : Nat), A.length + B.length ≤ n → (P ++ (A ++ (B ++ R))).length = N → P.length = a → a + A.length = m → m + B.length = b → 0 < A.length → 0 < B.length → SLe A → SLe B → Okl (P ++ (A ++ (B ++ R))) →
    HC Tryd.prog G 102 [.ol 0 g N,I a,I m,I b,cF] [rw0 (P++(A++(B++R))) g] (.tup []) [rw0 (P++(ssort (A++B)++R)) g]
  | 0,P,A,B,R,N,a,m,b,hn,_,_,_,_,hA0,_,_,_,_=>by omega
  | n+1,P,A,B,R,N,a,m,b,hn,hN,hP,hA,hB,hA0,hB0,sA,sB,hok=>by
    by_cases hA1:A.length=1
    · obtain ⟨x, rfl⟩ := List.length_eq_one_iff.1 hA1
      exact symL G g P B R x N a m b hN hP (by simpa using hA) hB sB hok
    by_cases hB1:B.length=1
    · obtain ⟨x, rfl⟩ := List.length_eq_one_iff.1 hB1
      exact symR G g P A R x N a m b hN hP hA (by omega) (by simpa using hB) sA hok
    have hlen:=hok.len
    rw [hN] at hlen
    have hbN:b≤N:=by rw [← hN];simp;omega
    have hsA:∀ p ∈ A,p.1.size≤9223372036854775807:=fun p hp=>(hok.sz p (by simp [hp])).1
    have hsB:∀ p ∈ B,p.1.size≤9223372036854775807:=fun p hp=>(hok.sz p (by simp [hp])).1
    obtain ⟨mid,hmid⟩:∃ mid,mid=(a+b) / 2:=⟨_,rfl⟩
    obtain ⟨s0,hs0⟩:∃ s0,s0=if mid < m then mid+m - b else a:=⟨_,rfl⟩
    obtain ⟨r0,hr0⟩:∃ r0,r0=if mid < m then mid else m:=⟨_,rfl⟩
    have hsr:a≤s0∧s0≤r0∧r0≤m∧r0≤mid∧mid+m≤b+s0∧(s0=a∨mid+m=b+s0)∧(r0=m∨r0=mid)∧mid < b∧a < mid:=by
      rw [hs0,hr0];split<;>omega
    obtain ⟨sr1,sr2,sr3,sr4,sr5,sr6,sr7,sr8,sr9⟩:=hsr
    have ema:¬ ((m:Int) - (a:Int)=1):=by omega
    have ebm:¬ ((b:Int) - (m:Int)=1):=by omega
    have hm:=hmid.symm
    -- the two places that are looked at
    have hq:∀ c,s0≤c→c < r0→∃ x y:Pr,A[c - a]? = some x∧B[mid - 1 - c]? = some y∧((P++(A++(B++R))).map pA)[c]? = some (.agg [S x.1,S x.2])∧((P++(A++(B++R))).map pA)[mid+m - 1 - c]? = some (.agg [S y.1,S y.2])∧x.1.size≤9223372036854775807∧y.1.size≤9223372036854775807:=fun c c1 c2=>by
      have i1:c - a < A.length:=by omega
      have i2:mid - 1 - c < B.length:=by omega
      refine ⟨A[c - a],B[mid - 1 - c],List.getElem?_eq_getElem i1,List.getElem?_eq_getElem i2,pAq ?_,pAq ?_,hsA _ (List.getElem_mem i1),hsB _ (List.getElem_mem i2)⟩
      · have := gdA (P := P) (A := A) (R := B ++ R) (k := c) (by omega) (by omega)
        rw [this];congr 2;omega
      · have := gdA (P := P ++ A) (A := B) (R := R) (k := mid + m - 1 - c) (by simp; omega) (by simp; omega)
        rw [List.append_assoc] at this
        rw [this];congr 2;simp;omega
    -- of two such the one further on is smaller
    have hmon:∀ c d x y x' y',s0≤c→c≤d→d < r0→A[c - a]? = some x→B[mid - 1 - c]? = some y→A[d - a]? = some x'→B[mid - 1 - d]? = some y'→cB y.1 x.1 < 0→cB y'.1 x'.1 < 0:=fun c d x y x' y' c1 c2 c3 e1 e2 e3 e4 h=>by
      have i1:c - a < A.length:=by omega
      have i2:mid - 1 - c < B.length:=by omega
      have i3:d - a < A.length:=by omega
      have i4:mid - 1 - d < B.length:=by omega
      rw [List.getElem?_eq_getElem i1] at e1
      rw [List.getElem?_eq_getElem i2] at e2
      rw [List.getElem?_eq_getElem i3] at e3
      rw [List.getElem?_eq_getElem i4] at e4
      cases e1;cases e2;cases e3;cases e4
      have g1:=sle_at sA (i:=c - a) (j:=d - a) (by omega) i3
      have g2:=sle_at sB (i:=mid - 1 - d) (j:=mid - 1 - c) (by omega) i2
      exact cB_lt1 (cB_lt2 g2 h) g1
    have hfin:=fun (s e:Nat) h1 h2 h3 hb he hlo hhi=>sym_all (G:=G) (g:=g) (s:=s) (mid:=mid) (e:=e) (sym44 G g n) hn hN hP hA hB sA sB hok h1 h2 h3 hb he sr8 sr9 hlo hhi
    generalize hD:P++(A++(B++R))=D at *
    generalize hE:P++(ssort (A++B)++R)=E at *
    have hb1:mid+m≤2000000:=by omega
    have hAl:m=a+A.length:=hA.symm
    have hBl:b=m+B.length:=hB.symm
    clear hn hP hsA hsB hA0 hB0 hA1 hB1 hlen hok sA sB
    refine hc_ofV cop102 rfl ?_
    repeat' ((conv=>whnf);first|(with_reducible refine SeqP.go ?_)|exact SameP.mk rfl rfl|(with_reducible refine ObAnd.mk ?_ ?_)|(with_reducible refine ObDx.same ?_)|((with_reducible refine eVu ?_ ?_);(focus omega))|((with_reducible refine eVi ?_ ?_);(focus omega))|(with_reducible refine eShr ?_)|((with_reducible refine ObD.mk ?_ ?_);(focus (first|rfl|(simp;done))))|((with_reducible refine ObN.mk ?_ ?_);(focus exact zN))|(with_reducible refine ObT.tt ?_)|(with_reducible refine ObT.ff ?_)|((with_reducible refine ObT.yes ?_ ?_);(focus assumption))|((with_reducible refine ObT.no ?_ ?_);(focus assumption))|((with_reducible refine ObT.yes ?_ ?_);(focus (refine decide_eq_true ?_;first|assumption|omega)))|((with_reducible refine ObT.no ?_ ?_);(focus (refine decide_eq_false ?_;first|assumption|omega)))|(with_reducible refine ObT.dec (fun h=>?_) (fun h=>?_))|(with_reducible refine ObT.mk (fun h=>?_) (fun h=>?_))|((with_reducible refine ObB.yes ?_ ?_);(focus (first|assumption|(with_reducible rfl)|omega)))|((with_reducible refine ObB.no ?_ ?_);(focus (first|assumption|omega)))|(with_reducible refine ObB.mk (fun h=>?_) (fun h=>?_))|((with_reducible refine ObI.nn ?_ ?_);(focus omega))|((with_reducible refine ObI.nl ?_ ?_);(focus omega))|((with_reducible refine ObI.sn ?_ ?_ ?_);(focus omega);(focus omega))|((with_reducible refine ObI.sl ?_ ?_ ?_);(focus omega);(focus omega))|((with_reducible refine ObI.dl ?_ ?_);(focus omega))|((with_reducible refine ObI.mk _ rfl ?_ ?_ ?_);(focus omega);(focus omega))|((with_reducible refine ObZ.wu ?_ ?_);(focus omega))|((with_reducible refine ObZ.wi ?_ ?_ ?_);(focus omega);(focus omega))|(with_reducible refine ObZ.ml ?_)|(with_reducible refine ObZ.mn ?_)|(with_reducible refine ObZ.mk _ rfl ?_)|((with_reducible refine ObX.mk _ rfl ?_ ?_);(focus exact zX))|((with_reducible refine ObX.lit ?_ ?_);(focus exact zX))|((with_reducible refine ObX.int ?_ ?_ ?_);(focus exact zX);(focus exact zX))|((with_reducible refine ObY.mk _ rfl ?_ ?_);(focus exact zX))|((with_reducible refine ObY.lit ?_ ?_);(focus exact zX))|((with_reducible refine ObY.int ?_ ?_ ?_);(focus exact zX);(focus exact zX))|((with_reducible refine (?_:ObL _ _));(refine ObL.mk _ zL ?_))|((with_reducible refine (?_:ObU _ _));(refine ObU.mk _ zU ?_))|(with_reducible refine ObS.mk _ rfl ?_)|((with_reducible refine (?_:ObR _ _ _));(first|(refine ObR.mk _ (by assumption) ?_)|(refine ObR.mk _ (by with_reducible rfl) ?_)|(refine ObR.map zX (fun x hx=>?_))|(refine ObR.mk _ rfl ?_)))|((with_reducible refine ObO.l ?_);(with_reducible refine ObN.mk ?_ ?_);(focus (first|rfl|omega)))|((with_reducible refine ObO.r ?_);(with_reducible refine ObN.mk ?_ ?_);(focus (first|omega|(simp;done))))|((with_reducible refine ObW.nil ?_ ?_);(focus (first|rfl|assumption)))|((with_reducible refine ObW.cons ?_ ?_);(focus (first|assumption|(simp;done))))|((with_reducible refine ObJ.zz ?_))|((with_reducible refine ObJ.nz ?_ ?_);(focus exact zX))|((with_reducible refine ObJ.zn ?_ ?_);(focus exact zX))|((with_reducible refine ObJ.nn ?_ ?_ ?_);(focus exact zX);(focus exact zX))|((with_reducible refine ObJ.lz ?_ ?_);(focus exact zX))|((with_reducible refine ObJ.zl ?_ ?_);(focus exact zX))|((with_reducible refine ObJ.nl ?_ ?_ ?_);(focus exact zX);(focus exact zX))|((with_reducible refine ObJ.ln ?_ ?_ ?_);(focus exact zX);(focus exact zX))|((with_reducible refine ObJ.ll ?_ ?_ ?_);(focus exact zX);(focus exact zX))|((with_reducible refine (?_:ObG _ _ _ _));(refine ObG.nz zX _ (by first|rfl) ?_))|((with_reducible refine (?_:ObG _ _ _ _));(refine ObG.zn zX _ (by first|rfl) ?_))|((with_reducible refine (?_:ObG _ _ _ _));(refine ObG.nn zX zX _ (by first|rfl) ?_))|((with_reducible refine (?_:ObG _ _ _ _));(refine ObG.lz zX _ (by first|rfl) ?_))|((with_reducible refine (?_:ObG _ _ _ _));(refine ObG.zl zX _ (by first|rfl) ?_))|((with_reducible refine (?_:ObG _ _ _ _));(refine ObG.nl zX zX _ (by first|rfl) ?_))|((with_reducible refine (?_:ObG _ _ _ _));(refine ObG.ln zX zX _ (by first|rfl) ?_))|((with_reducible refine (?_:ObG _ _ _ _));(refine ObG.ll zX zX _ (by first|rfl) ?_))|((with_reducible refine ObQ.mk _ rfl ?_ ?_);(focus exact zX))|((with_reducible refine ObEq.i ?_);(focus (first|(with_reducible rfl)|omega)))|((with_reducible refine ObEq.mk ?_);(focus (first|rfl|assumption)))|(exact ObEnd.eq rfl rfl)|((with_reducible refine ObSt.live ?_ ?_);(focus (first|trivial|(refine ⟨rfl,?_⟩;first|omega|(exact Nat.le_refl _)))))|(with_reducible refine ObSt.stale ?_)|((with_reducible refine ObRn.mk ?_ ?_);(focus (first|rfl|(simp [rnB,rnC,rnL];done))))|((with_reducible refine ObRow.same ?_ ?_ ?_);(focus (first|rfl|assumption));(focus (first|rfl|assumption|(simp;done))))|((with_reducible refine ObRow.lit ?_ ?_);(focus (first|rfl|(simp [rnB,rnC,rnL];done))))|((with_reducible refine ObEqs.mk ?_ ?_);(focus rfl))|((with_reducible refine ObEq1.i ?_ ?_);(focus (first|(with_reducible rfl)|omega)))|((with_reducible refine ObEq1.o ?_ ?_);(focus (first|(with_reducible rfl)|omega)))|((with_reducible refine ObEq1.mk ?_ ?_);(focus (first|rfl|assumption)))|exact True.intro|(with_reducible refine ObE.min ?_)|(with_reducible refine ObE.max ?_))
    all_goals
      conv=>whnf
      simp only [hm]
      refine LoopP.go (α:=Nat × Nat) (fun p=>s0≤p.1∧p.1≤p.2∧p.2≤r0∧(∀ c x y,s0≤c→c < p.1→A[c - a]? = some x→B[mid - 1 - c]? = some y→¬ cB y.1 x.1 < 0)∧(∀ c x y,p.2≤c→c < r0→A[c - a]? = some x→B[mid - 1 - c]? = some y→cB y.1 x.1 < 0)) (fun p=>p.2 - p.1) (fun p=>[(20,some (I p.1)),(0,some (I p.2)),(1,none),(125,none),(0,none),(0,none),(0,none),(0,none),(0,none),(0,none),(0,none),(0,none),(0,none),(0,none),(0,none),(0,none),(0,none),(0,none),(0,none),(0,none),(0,none),(0,none),(0,none),(0,none),(0,none),(0,none),(0,none),(0,none),(0,none)]) (fun _=>[rw0 D g]) (s0,r0) ⟨Nat.le_refl _,sr2,Nat.le_refl _,fun c x y h1 h2=>by omega,fun c x y h1 h2=>by omega⟩ (Fg.go ?_ rfl) ?_
      · have hs1 := hs0
        have hr1:=hr0
        first|rw [if_pos (by omega)] at hs1 hr1|rw [if_neg (by omega)] at hs1 hr1
        clear hs0 hr0
        repeat' ((conv=>whnf);first|(with_reducible refine SeqP.go ?_)|exact SameP.mk rfl rfl|(with_reducible refine ObAnd.mk ?_ ?_)|(with_reducible refine ObDx.same ?_)|((with_reducible refine ObD.mk ?_ ?_);(focus (first|rfl|(simp;done))))|((with_reducible refine ObN.mk ?_ ?_);(focus exact zN))|(with_reducible refine ObT.tt ?_)|(with_reducible refine ObT.ff ?_)|((with_reducible refine ObT.yes ?_ ?_);(focus assumption))|((with_reducible refine ObT.no ?_ ?_);(focus assumption))|((with_reducible refine ObT.yes ?_ ?_);(focus (refine decide_eq_true ?_;first|assumption|omega)))|((with_reducible refine ObT.no ?_ ?_);(focus (refine decide_eq_false ?_;first|assumption|omega)))|(with_reducible refine ObT.dec (fun h=>?_) (fun h=>?_))|(with_reducible refine ObT.mk (fun h=>?_) (fun h=>?_))|((with_reducible refine ObB.yes ?_ ?_);(focus (first|assumption|(with_reducible rfl)|omega)))|((with_reducible refine ObB.no ?_ ?_);(focus (first|assumption|omega)))|(with_reducible refine ObB.mk (fun h=>?_) (fun h=>?_))|((with_reducible refine ObI.nn ?_ ?_);(focus omega))|((with_reducible refine ObI.nl ?_ ?_);(focus omega))|((with_reducible refine ObI.sn ?_ ?_ ?_);(focus omega);(focus omega))|((with_reducible refine ObI.sl ?_ ?_ ?_);(focus omega);(focus omega))|((with_reducible refine ObI.dl ?_ ?_);(focus omega))|((with_reducible refine ObI.mk _ rfl ?_ ?_ ?_);(focus omega);(focus omega))|((with_reducible refine ObZ.wu ?_ ?_);(focus omega))|((with_reducible refine ObZ.wi ?_ ?_ ?_);(focus omega);(focus omega))|(with_reducible refine ObZ.ml ?_)|(with_reducible refine ObZ.mn ?_)|(with_reducible refine ObZ.mk _ rfl ?_)|((with_reducible refine ObX.mk _ rfl ?_ ?_);(focus exact zX))|((with_reducible refine ObX.lit ?_ ?_);(focus exact zX))|((with_reducible refine ObX.int ?_ ?_ ?_);(focus exact zX);(focus exact zX))|((with_reducible refine ObY.mk _ rfl ?_ ?_);(focus exact zX))|((with_reducible refine ObY.lit ?_ ?_);(focus exact zX))|((with_reducible refine ObY.int ?_ ?_ ?_);(focus exact zX);(focus exact zX))|((with_reducible refine (?_:ObL _ _));(refine ObL.mk _ zL ?_))|((with_reducible refine (?_:ObU _ _));(refine ObU.mk _ zU ?_))|(with_reducible refine ObS.mk _ rfl ?_)|((with_reducible refine (?_:ObR _ _ _));(first|(refine ObR.mk _ (by assumption) ?_)|(refine ObR.mk _ (by with_reducible rfl) ?_)|(refine ObR.map zX (fun x hx=>?_))|(refine ObR.mk _ rfl ?_)))|((with_reducible refine ObO.l ?_);(with_reducible refine ObN.mk ?_ ?_);(focus (first|rfl|omega)))|((with_reducible refine ObO.r ?_);(with_reducible refine ObN.mk ?_ ?_);(focus (first|omega|(simp;done))))|((with_reducible refine ObW.nil ?_ ?_);(focus (first|rfl|assumption)))|((with_reducible refine ObW.cons ?_ ?_);(focus (first|assumption|(simp;done))))|((with_reducible refine ObJ.zz ?_))|((with_reducible refine ObJ.nz ?_ ?_);(focus exact zX))|((with_reducible refine ObJ.zn ?_ ?_);(focus exact zX))|((with_reducible refine ObJ.nn ?_ ?_ ?_);(focus exact zX);(focus exact zX))|((with_reducible refine ObJ.lz ?_ ?_);(focus exact zX))|((with_reducible refine ObJ.zl ?_ ?_);(focus exact zX))|((with_reducible refine ObJ.nl ?_ ?_ ?_);(focus exact zX);(focus exact zX))|((with_reducible refine ObJ.ln ?_ ?_ ?_);(focus exact zX);(focus exact zX))|((with_reducible refine ObJ.ll ?_ ?_ ?_);(focus exact zX);(focus exact zX))|((with_reducible refine (?_:ObG _ _ _ _));(refine ObG.nz zX _ (by first|rfl) ?_))|((with_reducible refine (?_:ObG _ _ _ _));(refine ObG.zn zX _ (by first|rfl) ?_))|((with_reducible refine (?_:ObG _ _ _ _));(refine ObG.nn zX zX _ (by first|rfl) ?_))|((with_reducible refine (?_:ObG _ _ _ _));(refine ObG.lz zX _ (by first|rfl) ?_))|((with_reducible refine (?_:ObG _ _ _ _));(refine ObG.zl zX _ (by first|rfl) ?_))|((with_reducible refine (?_:ObG _ _ _ _));(refine ObG.nl zX zX _ (by first|rfl) ?_))|((with_reducible refine (?_:ObG _ _ _ _));(refine ObG.ln zX zX _ (by first|rfl) ?_))|((with_reducible refine (?_:ObG _ _ _ _));(refine ObG.ll zX zX _ (by first|rfl) ?_))|((with_reducible refine ObQ.mk _ rfl ?_ ?_);(focus exact zX))|((with_reducible refine ObEq.i ?_);(focus (first|(with_reducible rfl)|omega)))|((with_reducible refine ObEq.mk ?_);(focus (first|rfl|assumption)))|(exact ObEnd.eq rfl rfl)|((with_reducible refine ObSt.live ?_ ?_);(focus (first|trivial|(refine ⟨rfl,?_⟩;first|omega|(exact Nat.le_refl _)))))|(with_reducible refine ObSt.stale ?_)|((with_reducible refine ObRn.mk ?_ ?_);(focus (first|rfl|(simp [rnB,rnC,rnL];done))))|((with_reducible refine ObRow.same ?_ ?_ ?_);(focus (first|rfl|assumption));(focus (first|rfl|assumption|(simp;done))))|((with_reducible refine ObRow.lit ?_ ?_);(focus (first|rfl|(simp [rnB,rnC,rnL];done))))|((with_reducible refine ObEqs.mk ?_ ?_);(focus rfl))|((with_reducible refine ObEq1.i ?_ ?_);(focus (first|(with_reducible rfl)|omega)))|((with_reducible refine ObEq1.o ?_ ?_);(focus (first|(with_reducible rfl)|omega)))|((with_reducible refine ObEq1.mk ?_ ?_);(focus (first|rfl|assumption)))|exact True.intro|(with_reducible refine ObE.min ?_)|(with_reducible refine ObE.max ?_))
      rintro ⟨i,j⟩ ⟨i1,i2,i3,hlo,hhi⟩
      dsimp only at i1 i2 i3 hlo hhi ⊢
      clear hmid hs0 hr0 ema ebm
      by_cases hij:i < j
      · obtain ⟨x, y, ex, ey, q1, q2, hx, hy⟩ := hq ((i + j) / 2) (by omega) (by omega)
        by_cases hlt:cB y.1 x.1 < 0
        · have hhi2:∀ c x y,(i+j) / 2≤c→c < r0→A[c - a]? = some x→B[mid - 1 - c]? = some y→cB y.1 x.1 < 0:=fun c x' y' c1 c2 e1 e2=>hmon ((i+j) / 2) c x y x' y' (by omega) c1 c2 ex ey e1 e2 hlt
          clear hmon hfin hq hhi
          repeat' ((conv=>whnf);first|(with_reducible refine SeqP.go ?_)|exact SameP.mk rfl rfl|(with_reducible refine ObAnd.mk ?_ ?_)|(with_reducible refine ObDx.same ?_)|((with_reducible refine eVu ?_ ?_);(focus omega))|((with_reducible refine eVi ?_ ?_);(focus omega))|(with_reducible refine eShr ?_)|((with_reducible refine ObD.mk ?_ ?_);(focus (first|rfl|(simp [hN];done))))|((with_reducible refine ObN.mk ?_ ?_);(focus (first|rfl|assumption|omega|(simp only [List.length_map,List.length_append,List.length_cons,List.length_nil,hN];omega)|(simp [hN];done)|(simp [hN];omega))))|(with_reducible refine ObT.tt ?_)|(with_reducible refine ObT.ff ?_)|((with_reducible refine ObT.yes ?_ ?_);(focus assumption))|((with_reducible refine ObT.no ?_ ?_);(focus assumption))|((with_reducible refine ObT.yes ?_ ?_);(focus (refine decide_eq_true ?_;first|assumption|omega)))|((with_reducible refine ObT.no ?_ ?_);(focus (refine decide_eq_false ?_;first|assumption|omega)))|(with_reducible refine ObT.dec (fun h=>?_) (fun h=>?_))|(with_reducible refine ObT.mk (fun h=>?_) (fun h=>?_))|((with_reducible refine ObB.yes ?_ ?_);(focus (first|assumption|(with_reducible rfl)|omega)))|((with_reducible refine ObB.no ?_ ?_);(focus (first|assumption|omega)))|(with_reducible refine ObB.mk (fun h=>?_) (fun h=>?_))|((with_reducible refine ObI.nn ?_ ?_);(focus omega))|((with_reducible refine ObI.nl ?_ ?_);(focus omega))|((with_reducible refine ObI.sn ?_ ?_ ?_);(focus omega);(focus omega))|((with_reducible refine ObI.sl ?_ ?_ ?_);(focus omega);(focus omega))|((with_reducible refine ObI.dl ?_ ?_);(focus omega))|((with_reducible refine ObI.mk _ rfl ?_ ?_ ?_);(focus omega);(focus omega))|((with_reducible refine ObZ.wu ?_ ?_);(focus omega))|((with_reducible refine ObZ.wi ?_ ?_ ?_);(focus omega);(focus omega))|(with_reducible refine ObZ.ml ?_)|(with_reducible refine ObZ.mn ?_)|(with_reducible refine ObZ.mk _ rfl ?_)|((with_reducible refine ObX.mk _ rfl ?_ ?_);(focus (first|omega|assumption|(simp only [List.length_map,List.length_append,List.length_cons,List.length_nil,List.length_take,List.length_drop,List.length_set,List.length_replicate,hN];omega))))|((with_reducible refine ObX.lit ?_ ?_);(focus (first|omega|assumption|(simp only [List.length_map,List.length_append,List.length_cons,List.length_nil,List.length_take,List.length_drop,List.length_set,List.length_replicate,hN];omega))))|((with_reducible refine ObX.int ?_ ?_ ?_);(focus (first|omega|assumption|(simp only [List.length_map,List.length_append,List.length_cons,List.length_nil,List.length_take,List.length_drop,List.length_set,List.length_replicate,hN];omega)));(focus (first|omega|assumption|(simp only [List.length_map,List.length_append,List.length_cons,List.length_nil,List.length_take,List.length_drop,List.length_set,List.length_replicate,hN];omega))))|((with_reducible refine ObY.mk _ rfl ?_ ?_);(focus (first|omega|assumption|(simp only [List.length_map,List.length_append,List.length_cons,List.length_nil,List.length_take,List.length_drop,List.length_set,List.length_replicate,hN];omega))))|((with_reducible refine ObY.lit ?_ ?_);(focus (first|omega|assumption|(simp only [List.length_map,List.length_append,List.length_cons,List.length_nil,List.length_take,List.length_drop,List.length_set,List.length_replicate,hN];omega))))|((with_reducible refine ObY.int ?_ ?_ ?_);(focus (first|omega|assumption|(simp only [List.length_map,List.length_append,List.length_cons,List.length_nil,List.length_take,List.length_drop,List.length_set,List.length_replicate,hN];omega)));(focus (first|omega|assumption|(simp only [List.length_map,List.length_append,List.length_cons,List.length_nil,List.length_take,List.length_drop,List.length_set,List.length_replicate,hN];omega))))|((with_reducible refine (?_:ObL _ _));(refine ObL.mk _ zL ?_))|((with_reducible refine (?_:ObU _ _));(refine ObU.mk _ (by first|assumption|((conv=>lhs;simp only [List.set_cons_zero,List.set_cons_succ,List.take_succ_cons,List.take_zero,List.drop_succ_cons,List.drop_zero,List.nil_append,List.cons_append,List.append_nil,List.take_nil,List.drop_nil,hN]);try rfl)|rfl) ?_))|(with_reducible refine ObS.mk _ rfl ?_)|((with_reducible refine (?_:ObR _ _ _));(first|(refine ObR.mk _ (by assumption) ?_)|(refine ObR.mk _ (by exact (by first|exact q1|exact q2|(refine Eq.trans (congrArg _ ?_) q2;omega))) ?_)|(refine ObR.mk _ (by with_reducible rfl) ?_)|(refine ObR.map (by (first|omega|assumption|(simp only [List.length_map,List.length_append,List.length_cons,List.length_nil,List.length_take,List.length_drop,List.length_set,List.length_replicate,hN];omega))) (fun x hx=>?_))|(refine ObR.mk _ rfl ?_)))|((with_reducible refine ObH.f 80 ?_);(first|(with_reducible refine ObH.mk _ _ ((cmpC G _ hy hx)) ?_)|(refine ObH.mk _ _ ((cmpC G _ hy hx)) ?_)))|((with_reducible refine ObO.l ?_);(with_reducible refine ObN.mk ?_ ?_);(focus (first|rfl|omega)))|((with_reducible refine ObO.r ?_);(with_reducible refine ObN.mk ?_ ?_);(focus (first|omega|(simp;done))))|((with_reducible refine ObW.nil ?_ ?_);(focus (first|rfl|assumption)))|((with_reducible refine ObW.cons ?_ ?_);(focus (first|assumption|(simp;done))))|((with_reducible refine ObJ.zz ?_))|((with_reducible refine ObJ.nz ?_ ?_);(focus (first|omega|assumption|(simp only [List.length_map,List.length_append,List.length_cons,List.length_nil,List.length_take,List.length_drop,List.length_set,List.length_replicate,hN];omega))))|((with_reducible refine ObJ.zn ?_ ?_);(focus (first|omega|assumption|(simp only [List.length_map,List.length_append,List.length_cons,List.length_nil,List.length_take,List.length_drop,List.length_set,List.length_replicate,hN];omega))))|((with_reducible refine ObJ.nn ?_ ?_ ?_);(focus (first|omega|assumption|(simp only [List.length_map,List.length_append,List.length_cons,List.length_nil,List.length_take,List.length_drop,List.length_set,List.length_replicate,hN];omega)));(focus (first|omega|assumption|(simp only [List.length_map,List.length_append,List.length_cons,List.length_nil,List.length_take,List.length_drop,List.length_set,List.length_replicate,hN];omega))))|((with_reducible refine ObJ.lz ?_ ?_);(focus (first|omega|assumption|(simp only [List.length_map,List.length_append,List.length_cons,List.length_nil,List.length_take,List.length_drop,List.length_set,List.length_replicate,hN];omega))))|((with_reducible refine ObJ.zl ?_ ?_);(focus (first|omega|assumption|(simp only [List.length_map,List.length_append,List.length_cons,List.length_nil,List.length_take,List.length_drop,List.length_set,List.length_replicate,hN];omega))))|((with_reducible refine ObJ.nl ?_ ?_ ?_);(focus (first|omega|assumption|(simp only [List.length_map,List.length_append,List.length_cons,List.length_nil,List.length_take,List.length_drop,List.length_set,List.length_replicate,hN];omega)));(focus (first|omega|assumption|(simp only [List.length_map,List.length_append,List.length_cons,List.length_nil,List.length_take,List.length_drop,List.length_set,List.length_replicate,hN];omega))))|((with_reducible refine ObJ.ln ?_ ?_ ?_);(focus (first|omega|assumption|(simp only [List.length_map,List.length_append,List.length_cons,List.length_nil,List.length_take,List.length_drop,List.length_set,List.length_replicate,hN];omega)));(focus (first|omega|assumption|(simp only [List.length_map,List.length_append,List.length_cons,List.length_nil,List.length_take,List.length_drop,List.length_set,List.length_replicate,hN];omega))))|((with_reducible refine ObJ.ll ?_ ?_ ?_);(focus (first|omega|assumption|(simp only [List.length_map,List.length_append,List.length_cons,List.length_nil,List.length_take,List.length_drop,List.length_set,List.length_replicate,hN];omega)));(focus (first|omega|assumption|(simp only [List.length_map,List.length_append,List.length_cons,List.length_nil,List.length_take,List.length_drop,List.length_set,List.length_replicate,hN];omega))))|((with_reducible refine (?_:ObG _ _ _ _));(refine ObG.nz (by (first|omega|assumption|(simp only [List.length_map,List.length_append,List.length_cons,List.length_nil,List.length_take,List.length_drop,List.length_set,List.length_replicate,hN];omega))) _ (by first|rfl) ?_))|((with_reducible refine (?_:ObG _ _ _ _));(refine ObG.zn (by (first|omega|assumption|(simp only [List.length_map,List.length_append,List.length_cons,List.length_nil,List.length_take,List.length_drop,List.length_set,List.length_replicate,hN];omega))) _ (by first|rfl) ?_))|((with_reducible refine (?_:ObG _ _ _ _));(refine ObG.nn (by (first|omega|assumption|(simp only [List.length_map,List.length_append,List.length_cons,List.length_nil,List.length_take,List.length_drop,List.length_set,List.length_replicate,hN];omega))) (by (first|omega|assumption|(simp only [List.length_map,List.length_append,List.length_cons,List.length_nil,List.length_take,List.length_drop,List.length_set,List.length_replicate,hN];omega))) _ (by first|rfl) ?_))|((with_reducible refine (?_:ObG _ _ _ _));(refine ObG.lz (by (first|omega|assumption|(simp only [List.length_map,List.length_append,List.length_cons,List.length_nil,List.length_take,List.length_drop,List.length_set,List.length_replicate,hN];omega))) _ (by first|rfl) ?_))|((with_reducible refine (?_:ObG _ _ _ _));(refine ObG.zl (by (first|omega|assumption|(simp only [List.length_map,List.length_append,List.length_cons,List.length_nil,List.length_take,List.length_drop,List.length_set,List.length_replicate,hN];omega))) _ (by first|rfl) ?_))|((with_reducible refine (?_:ObG _ _ _ _));(refine ObG.nl (by (first|omega|assumption|(simp only [List.length_map,List.length_append,List.length_cons,List.length_nil,List.length_take,List.length_drop,List.length_set,List.length_replicate,hN];omega))) (by (first|omega|assumption|(simp only [List.length_map,List.length_append,List.length_cons,List.length_nil,List.length_take,List.length_drop,List.length_set,List.length_replicate,hN];omega))) _ (by first|rfl) ?_))|((with_reducible refine (?_:ObG _ _ _ _));(refine ObG.ln (by (first|omega|assumption|(simp only [List.length_map,List.length_append,List.length_cons,List.length_nil,List.length_take,List.length_drop,List.length_set,List.length_replicate,hN];omega))) (by (first|omega|assumption|(simp only [List.length_map,List.length_append,List.length_cons,List.length_nil,List.length_take,List.length_drop,List.length_set,List.length_replicate,hN];omega))) _ (by first|rfl) ?_))|((with_reducible refine (?_:ObG _ _ _ _));(refine ObG.ll (by (first|omega|assumption|(simp only [List.length_map,List.length_append,List.length_cons,List.length_nil,List.length_take,List.length_drop,List.length_set,List.length_replicate,hN];omega))) (by (first|omega|assumption|(simp only [List.length_map,List.length_append,List.length_cons,List.length_nil,List.length_take,List.length_drop,List.length_set,List.length_replicate,hN];omega))) _ (by first|rfl) ?_))|((with_reducible refine ObQ.mk _ rfl ?_ ?_);(focus (first|omega|assumption|(simp only [List.length_map,List.length_append,List.length_cons,List.length_nil,List.length_take,List.length_drop,List.length_set,List.length_replicate,hN];omega))))|((with_reducible refine ObEq.i ?_);(focus (first|(with_reducible rfl)|omega)))|((with_reducible refine ObEq.mk ?_);(focus (first|rfl|assumption)))|(exact ObEnd.eq rfl rfl)|((with_reducible refine ObSt.live ?_ ?_);(focus (first|trivial|(refine ⟨rfl,?_⟩;first|omega|(exact Nat.le_refl _)))))|(with_reducible refine ObSt.stale ?_)|((with_reducible refine ObRn.mk ?_ ?_);(focus (first|rfl|(simp [rnB,rnC,rnL];done))))|((with_reducible refine ObRow.same ?_ ?_ ?_);(focus (first|rfl|assumption));(focus (first|rfl|assumption|(simp [hN];done))))|((with_reducible refine ObRow.lit ?_ ?_);(focus (first|rfl|(simp [rnB,rnC,rnL];done))))|((with_reducible refine ObEqs.mk ?_ ?_);(focus rfl))|((with_reducible refine ObEq1.i ?_ ?_);(focus (first|(with_reducible rfl)|omega)))|((with_reducible refine ObEq1.o ?_ ?_);(focus (first|(with_reducible rfl)|omega)))|((with_reducible refine ObEq1.mk ?_ ?_);(focus (first|rfl|assumption)))|exact True.intro|(with_reducible refine ObE.min ?_)|(with_reducible refine ObE.max ?_))
          conv=>whnf
          refine Again.mk (i,(i+j) / 2) ?_ ?_ (Fg.go ?_ rfl)
          · exact ⟨i1,by dsimp only;omega,by dsimp only;omega,hlo,hhi2⟩
          · dsimp only;omega
          repeat' ((conv=>whnf);first|(with_reducible refine SeqP.go ?_)|exact SameP.mk rfl rfl|(with_reducible refine ObAnd.mk ?_ ?_)|(with_reducible refine ObDx.same ?_)|((with_reducible refine ObD.mk ?_ ?_);(focus (first|rfl|(simp;done))))|((with_reducible refine ObN.mk ?_ ?_);(focus exact zN))|(with_reducible refine ObT.tt ?_)|(with_reducible refine ObT.ff ?_)|((with_reducible refine ObT.yes ?_ ?_);(focus assumption))|((with_reducible refine ObT.no ?_ ?_);(focus assumption))|((with_reducible refine ObT.yes ?_ ?_);(focus (refine decide_eq_true ?_;first|assumption|omega)))|((with_reducible refine ObT.no ?_ ?_);(focus (refine decide_eq_false ?_;first|assumption|omega)))|(with_reducible refine ObT.dec (fun h=>?_) (fun h=>?_))|(with_reducible refine ObT.mk (fun h=>?_) (fun h=>?_))|((with_reducible refine ObB.yes ?_ ?_);(focus (first|assumption|(with_reducible rfl)|omega)))|((with_reducible refine ObB.no ?_ ?_);(focus (first|assumption|omega)))|(with_reducible refine ObB.mk (fun h=>?_) (fun h=>?_))|((with_reducible refine ObI.nn ?_ ?_);(focus omega))|((with_reducible refine ObI.nl ?_ ?_);(focus omega))|((with_reducible refine ObI.sn ?_ ?_ ?_);(focus omega);(focus omega))|((with_reducible refine ObI.sl ?_ ?_ ?_);(focus omega);(focus omega))|((with_reducible refine ObI.dl ?_ ?_);(focus omega))|((with_reducible refine ObI.mk _ rfl ?_ ?_ ?_);(focus omega);(focus omega))|((with_reducible refine ObZ.wu ?_ ?_);(focus omega))|((with_reducible refine ObZ.wi ?_ ?_ ?_);(focus omega);(focus omega))|(with_reducible refine ObZ.ml ?_)|(with_reducible refine ObZ.mn ?_)|(with_reducible refine ObZ.mk _ rfl ?_)|((with_reducible refine ObX.mk _ rfl ?_ ?_);(focus exact zX))|((with_reducible refine ObX.lit ?_ ?_);(focus exact zX))|((with_reducible refine ObX.int ?_ ?_ ?_);(focus exact zX);(focus exact zX))|((with_reducible refine ObY.mk _ rfl ?_ ?_);(focus exact zX))|((with_reducible refine ObY.lit ?_ ?_);(focus exact zX))|((with_reducible refine ObY.int ?_ ?_ ?_);(focus exact zX);(focus exact zX))|((with_reducible refine (?_:ObL _ _));(refine ObL.mk _ zL ?_))|((with_reducible refine (?_:ObU _ _));(refine ObU.mk _ zU ?_))|(with_reducible refine ObS.mk _ rfl ?_)|((with_reducible refine (?_:ObR _ _ _));(first|(refine ObR.mk _ (by assumption) ?_)|(refine ObR.mk _ (by with_reducible rfl) ?_)|(refine ObR.map zX (fun x hx=>?_))|(refine ObR.mk _ rfl ?_)))|((with_reducible refine ObO.l ?_);(with_reducible refine ObN.mk ?_ ?_);(focus (first|rfl|omega)))|((with_reducible refine ObO.r ?_);(with_reducible refine ObN.mk ?_ ?_);(focus (first|omega|(simp;done))))|((with_reducible refine ObW.nil ?_ ?_);(focus (first|rfl|assumption)))|((with_reducible refine ObW.cons ?_ ?_);(focus (first|assumption|(simp;done))))|((with_reducible refine ObJ.zz ?_))|((with_reducible refine ObJ.nz ?_ ?_);(focus exact zX))|((with_reducible refine ObJ.zn ?_ ?_);(focus exact zX))|((with_reducible refine ObJ.nn ?_ ?_ ?_);(focus exact zX);(focus exact zX))|((with_reducible refine ObJ.lz ?_ ?_);(focus exact zX))|((with_reducible refine ObJ.zl ?_ ?_);(focus exact zX))|((with_reducible refine ObJ.nl ?_ ?_ ?_);(focus exact zX);(focus exact zX))|((with_reducible refine ObJ.ln ?_ ?_ ?_);(focus exact zX);(focus exact zX))|((with_reducible refine ObJ.ll ?_ ?_ ?_);(focus exact zX);(focus exact zX))|((with_reducible refine (?_:ObG _ _ _ _));(refine ObG.nz zX _ (by first|rfl) ?_))|((with_reducible refine (?_:ObG _ _ _ _));(refine ObG.zn zX _ (by first|rfl) ?_))|((with_reducible refine (?_:ObG _ _ _ _));(refine ObG.nn zX zX _ (by first|rfl) ?_))|((with_reducible refine (?_:ObG _ _ _ _));(refine ObG.lz zX _ (by first|rfl) ?_))|((with_reducible refine (?_:ObG _ _ _ _));(refine ObG.zl zX _ (by first|rfl) ?_))|((with_reducible refine (?_:ObG _ _ _ _));(refine ObG.nl zX zX _ (by first|rfl) ?_))|((with_reducible refine (?_:ObG _ _ _ _));(refine ObG.ln zX zX _ (by first|rfl) ?_))|((with_reducible refine (?_:ObG _ _ _ _));(refine ObG.ll zX zX _ (by first|rfl) ?_))|((with_reducible refine ObQ.mk _ rfl ?_ ?_);(focus exact zX))|((with_reducible refine ObEq.i ?_);(focus (first|(with_reducible rfl)|omega)))|((with_reducible refine ObEq.mk ?_);(focus (first|rfl|assumption)))|(exact ObEnd.eq rfl rfl)|((with_reducible refine ObSt.live ?_ ?_);(focus (first|trivial|(refine ⟨rfl,?_⟩;first|omega|(exact Nat.le_refl _)))))|(with_reducible refine ObSt.stale ?_)|((with_reducible refine ObRn.mk ?_ ?_);(focus (first|rfl|(simp [rnB,rnC,rnL];done))))|((with_reducible refine ObRow.same ?_ ?_ ?_);(focus (first|rfl|assumption));(focus (first|rfl|assumption|(simp;done))))|((with_reducible refine ObRow.lit ?_ ?_);(focus (first|rfl|(simp [rnB,rnC,rnL];done))))|((with_reducible refine ObEqs.mk ?_ ?_);(focus rfl))|((with_reducible refine ObEq1.i ?_ ?_);(focus (first|(with_reducible rfl)|omega)))|((with_reducible refine ObEq1.o ?_ ?_);(focus (first|(with_reducible rfl)|omega)))|((with_reducible refine ObEq1.mk ?_ ?_);(focus (first|rfl|assumption)))|exact True.intro|(with_reducible refine ObE.min ?_)|(with_reducible refine ObE.max ?_))
        · have hlo2:∀ c x y,s0≤c→c < (i+j) / 2+1→A[c - a]? = some x→B[mid - 1 - c]? = some y→¬ cB y.1 x.1 < 0:=fun c x' y' c1 c2 e1 e2 hQ=>hlt (hmon c ((i+j) / 2) x' y' x y c1 (by omega) (by omega) e1 e2 ex ey hQ)
          clear hmon hfin hq hlo
          repeat' ((conv=>whnf);first|(with_reducible refine SeqP.go ?_)|exact SameP.mk rfl rfl|(with_reducible refine ObAnd.mk ?_ ?_)|(with_reducible refine ObDx.same ?_)|((with_reducible refine eVu ?_ ?_);(focus omega))|((with_reducible refine eVi ?_ ?_);(focus omega))|(with_reducible refine eShr ?_)|((with_reducible refine ObD.mk ?_ ?_);(focus (first|rfl|(simp [hN];done))))|((with_reducible refine ObN.mk ?_ ?_);(focus (first|rfl|assumption|omega|(simp only [List.length_map,List.length_append,List.length_cons,List.length_nil,hN];omega)|(simp [hN];done)|(simp [hN];omega))))|(with_reducible refine ObT.tt ?_)|(with_reducible refine ObT.ff ?_)|((with_reducible refine ObT.yes ?_ ?_);(focus assumption))|((with_reducible refine ObT.no ?_ ?_);(focus assumption))|((with_reducible refine ObT.yes ?_ ?_);(focus (refine decide_eq_true ?_;first|assumption|omega)))|((with_reducible refine ObT.no ?_ ?_);(focus (refine decide_eq_false ?_;first|assumption|omega)))|(with_reducible refine ObT.dec (fun h=>?_) (fun h=>?_))|(with_reducible refine ObT.mk (fun h=>?_) (fun h=>?_))|((with_reducible refine ObB.yes ?_ ?_);(focus (first|assumption|(with_reducible rfl)|omega)))|((with_reducible refine ObB.no ?_ ?_);(focus (first|assumption|omega)))|(with_reducible refine ObB.mk (fun h=>?_) (fun h=>?_))|((with_reducible refine ObI.nn ?_ ?_);(focus omega))|((with_reducible refine ObI.nl ?_ ?_);(focus omega))|((with_reducible refine ObI.sn ?_ ?_ ?_);(focus omega);(focus omega))|((with_reducible refine ObI.sl ?_ ?_ ?_);(focus omega);(focus omega))|((with_reducible refine ObI.dl ?_ ?_);(focus omega))|((with_reducible refine ObI.mk _ rfl ?_ ?_ ?_);(focus omega);(focus omega))|((with_reducible refine ObZ.wu ?_ ?_);(focus omega))|((with_reducible refine ObZ.wi ?_ ?_ ?_);(focus omega);(focus omega))|(with_reducible refine ObZ.ml ?_)|(with_reducible refine ObZ.mn ?_)|(with_reducible refine ObZ.mk _ rfl ?_)|((with_reducible refine ObX.mk _ rfl ?_ ?_);(focus (first|omega|assumption|(simp only [List.length_map,List.length_append,List.length_cons,List.length_nil,List.length_take,List.length_drop,List.length_set,List.length_replicate,hN];omega))))|((with_reducible refine ObX.lit ?_ ?_);(focus (first|omega|assumption|(simp only [List.length_map,List.length_append,List.length_cons,List.length_nil,List.length_take,List.length_drop,List.length_set,List.length_replicate,hN];omega))))|((with_reducible refine ObX.int ?_ ?_ ?_);(focus (first|omega|assumption|(simp only [List.length_map,List.length_append,List.length_cons,List.length_nil,List.length_take,List.length_drop,List.length_set,List.length_replicate,hN];omega)));(focus (first|omega|assumption|(simp only [List.length_map,List.length_append,List.length_cons,List.length_nil,List.length_take,List.length_drop,List.length_set,List.length_replicate,hN];omega))))|((with_reducible refine ObY.mk _ rfl ?_ ?_);(focus (first|omega|assumption|(simp only [List.length_map,List.length_append,List.length_cons,List.length_nil,List.length_take,List.length_drop,List.length_set,List.length_replicate,hN];omega))))|((with_reducible refine ObY.lit ?_ ?_);(focus (first|omega|assumption|(simp only [List.length_map,List.length_append,List.length_cons,List.length_nil,List.length_take,List.length_drop,List.length_set,List.length_replicate,hN];omega))))|((with_reducible refine ObY.int ?_ ?_ ?_);(focus (first|omega|assumption|(simp only [List.length_map,List.length_append,List.length_cons,List.length_nil,List.length_take,List.length_drop,List.length_set,List.length_replicate,hN];omega)));(focus (first|omega|assumption|(simp only [List.length_map,List.length_append,List.length_cons,List.length_nil,List.length_take,List.length_drop,List.length_set,List.length_replicate,hN];omega))))|((with_reducible refine (?_:ObL _ _));(refine ObL.mk _ zL ?_))|((with_reducible refine (?_:ObU _ _));(refine ObU.mk _ (by first|assumption|((conv=>lhs;simp only [List.set_cons_zero,List.set_cons_succ,List.take_succ_cons,List.take_zero,List.drop_succ_cons,List.drop_zero,List.nil_append,List.cons_append,List.append_nil,List.take_nil,List.drop_nil,hN]);try rfl)|rfl) ?_))|(with_reducible refine ObS.mk _ rfl ?_)|((with_reducible refine (?_:ObR _ _ _));(first|(refine ObR.mk _ (by assumption) ?_)|(refine ObR.mk _ (by exact (by first|exact q1|exact q2|(refine Eq.trans (congrArg _ ?_) q2;omega))) ?_)|(refine ObR.mk _ (by with_reducible rfl) ?_)|(refine ObR.map (by (first|omega|assumption|(simp only [List.length_map,List.length_append,List.length_cons,List.length_nil,List.length_take,List.length_drop,List.length_set,List.length_replicate,hN];omega))) (fun x hx=>?_))|(refine ObR.mk _ rfl ?_)))|((with_reducible refine ObH.f 80 ?_);(first|(with_reducible refine ObH.mk _ _ ((cmpC G _ hy hx)) ?_)|(refine ObH.mk _ _ ((cmpC G _ hy hx)) ?_)))|((with_reducible refine ObO.l ?_);(with_reducible refine ObN.mk ?_ ?_);(focus (first|rfl|omega)))|((with_reducible refine ObO.r ?_);(with_reducible refine ObN.mk ?_ ?_);(focus (first|omega|(simp;done))))|((with_reducible refine ObW.nil ?_ ?_);(focus (first|rfl|assumption)))|((with_reducible refine ObW.cons ?_ ?_);(focus (first|assumption|(simp;done))))|((with_reducible refine ObJ.zz ?_))|((with_reducible refine ObJ.nz ?_ ?_);(focus (first|omega|assumption|(simp only [List.length_map,List.length_append,List.length_cons,List.length_nil,List.length_take,List.length_drop,List.length_set,List.length_replicate,hN];omega))))|((with_reducible refine ObJ.zn ?_ ?_);(focus (first|omega|assumption|(simp only [List.length_map,List.length_append,List.length_cons,List.length_nil,List.length_take,List.length_drop,List.length_set,List.length_replicate,hN];omega))))|((with_reducible refine ObJ.nn ?_ ?_ ?_);(focus (first|omega|assumption|(simp only [List.length_map,List.length_append,List.length_cons,List.length_nil,List.length_take,List.length_drop,List.length_set,List.length_replicate,hN];omega)));(focus (first|omega|assumption|(simp only [List.length_map,List.length_append,List.length_cons,List.length_nil,List.length_take,List.length_drop,List.length_set,List.length_replicate,hN];omega))))|((with_reducible refine ObJ.lz ?_ ?_);(focus (first|omega|assumption|(simp only [List.length_map,List.length_append,List.length_cons,List.length_nil,List.length_take,List.length_drop,List.length_set,List.length_replicate,hN];omega))))|((with_reducible refine ObJ.zl ?_ ?_);(focus (first|omega|assumption|(simp only [List.length_map,List.length_append,List.length_cons,List.length_nil,List.length_take,List.length_drop,List.length_set,List.length_replicate,hN];omega))))|((with_reducible refine ObJ.nl ?_ ?_ ?_);(focus (first|omega|assumption|(simp only [List.length_map,List.length_append,List.length_cons,List.length_nil,List.length_take,List.length_drop,List.length_set,List.length_replicate,hN];omega)));(focus (first|omega|assumption|(simp only [List.length_map,List.length_append,List.length_cons,List.length_nil,List.length_take,List.length_drop,List.length_set,List.length_replicate,hN];omega))))|((with_reducible refine ObJ.ln ?_ ?_ ?_);(focus (first|omega|assumption|(simp only [List.length_map,List.length_append,List.length_cons,List.length_nil,List.length_take,List.length_drop,List.length_set,List.length_replicate,hN];omega)));(focus (first|omega|assumption|(simp only [List.length_map,List.length_append,List.length_cons,List.length_nil,List.length_take,List.length_drop,List.length_set,List.length_replicate,hN];omega))))|((with_reducible refine ObJ.ll ?_ ?_ ?_);(focus (first|omega|assumption|(simp only [List.length_map,List.length_append,List.length_cons,List.length_nil,List.length_take,List.length_drop,List.length_set,List.length_replicate,hN];omega)));(focus (first|omega|assumption|(simp only [List.length_map,List.length_append,List.length_cons,List.length_nil,List.length_take,List.length_drop,List.length_set,List.length_replicate,hN];omega))))|((with_reducible refine (?_:ObG _ _ _ _));(refine ObG.nz (by (first|omega|assumption|(simp only [List.length_map,List.length_append,List.length_cons,List.length_nil,List.length_take,List.length_drop,List.length_set,List.length_replicate,hN];omega))) _ (by first|rfl) ?_))|((with_reducible refine (?_:ObG _ _ _ _));(refine ObG.zn (by (first|omega|assumption|(simp only [List.length_map,List.length_append,List.length_cons,List.length_nil,List.length_take,List.length_drop,List.length_set,List.length_replicate,hN];omega))) _ (by first|rfl) ?_))|((with_reducible refine (?_:ObG _ _ _ _));(refine ObG.nn (by (first|omega|assumption|(simp only [List.length_map,List.length_append,List.length_cons,List.length_nil,List.length_take,List.length_drop,List.length_set,List.length_replicate,hN];omega))) (by (first|omega|assumption|(simp only [List.length_map,List.length_append,List.length_cons,List.length_nil,List.length_take,List.length_drop,List.length_set,List.length_replicate,hN];omega))) _ (by first|rfl) ?_))|((with_reducible refine (?_:ObG _ _ _ _));(refine ObG.lz (by (first|omega|assumption|(simp only [List.length_map,List.length_append,List.length_cons,List.length_nil,List.length_take,List.length_drop,List.length_set,List.length_replicate,hN];omega))) _ (by first|rfl) ?_))|((with_reducible refine (?_:ObG _ _ _ _));(refine ObG.zl (by (first|omega|assumption|(simp only [List.length_map,List.length_append,List.length_cons,List.length_nil,List.length_take,List.length_drop,List.length_set,List.length_replicate,hN];omega))) _ (by first|rfl) ?_))|((with_reducible refine (?_:ObG _ _ _ _));(refine ObG.nl (by (first|omega|assumption|(simp only [List.length_map,List.length_append,List.length_cons,List.length_nil,List.length_take,List.length_drop,List.length_set,List.length_replicate,hN];omega))) (by (first|omega|assumption|(simp only [List.length_map,List.length_append,List.length_cons,List.length_nil,List.length_take,List.length_drop,List.length_set,List.length_replicate,hN];omega))) _ (by first|rfl) ?_))|((with_reducible refine (?_:ObG _ _ _ _));(refine ObG.ln (by (first|omega|assumption|(simp only [List.length_map,List.length_append,List.length_cons,List.length_nil,List.length_take,List.length_drop,List.length_set,List.length_replicate,hN];omega))) (by (first|omega|assumption|(simp only [List.length_map,List.length_append,List.length_cons,List.length_nil,List.length_take,List.length_drop,List.length_set,List.length_replicate,hN];omega))) _ (by first|rfl) ?_))|((with_reducible refine (?_:ObG _ _ _ _));(refine ObG.ll (by (first|omega|assumption|(simp only [List.length_map,List.length_append,List.length_cons,List.length_nil,List.length_take,List.length_drop,List.length_set,List.length_replicate,hN];omega))) (by (first|omega|assumption|(simp only [List.length_map,List.length_append,List.length_cons,List.length_nil,List.length_take,List.length_drop,List.length_set,List.length_replicate,hN];omega))) _ (by first|rfl) ?_))|((with_reducible refine ObQ.mk _ rfl ?_ ?_);(focus (first|omega|assumption|(simp only [List.length_map,List.length_append,List.length_cons,List.length_nil,List.length_take,List.length_drop,List.length_set,List.length_replicate,hN];omega))))|((with_reducible refine ObEq.i ?_);(focus (first|(with_reducible rfl)|omega)))|((with_reducible refine ObEq.mk ?_);(focus (first|rfl|assumption)))|(exact ObEnd.eq rfl rfl)|((with_reducible refine ObSt.live ?_ ?_);(focus (first|trivial|(refine ⟨rfl,?_⟩;first|omega|(exact Nat.le_refl _)))))|(with_reducible refine ObSt.stale ?_)|((with_reducible refine ObRn.mk ?_ ?_);(focus (first|rfl|(simp [rnB,rnC,rnL];done))))|((with_reducible refine ObRow.same ?_ ?_ ?_);(focus (first|rfl|assumption));(focus (first|rfl|assumption|(simp [hN];done))))|((with_reducible refine ObRow.lit ?_ ?_);(focus (first|rfl|(simp [rnB,rnC,rnL];done))))|((with_reducible refine ObEqs.mk ?_ ?_);(focus rfl))|((with_reducible refine ObEq1.i ?_ ?_);(focus (first|(with_reducible rfl)|omega)))|((with_reducible refine ObEq1.o ?_ ?_);(focus (first|(with_reducible rfl)|omega)))|((with_reducible refine ObEq1.mk ?_ ?_);(focus (first|rfl|assumption)))|exact True.intro|(with_reducible refine ObE.min ?_)|(with_reducible refine ObE.max ?_))
          conv=>whnf
          refine Again.mk ((i+j) / 2+1,j) ?_ ?_ (Fg.go ?_ rfl)
          · exact ⟨by dsimp only;omega,by dsimp only;omega,i3,hlo2,hhi⟩
          · dsimp only;omega
          repeat' ((conv=>whnf);first|(with_reducible refine SeqP.go ?_)|exact SameP.mk rfl rfl|(with_reducible refine ObAnd.mk ?_ ?_)|(with_reducible refine ObDx.same ?_)|((with_reducible refine ObD.mk ?_ ?_);(focus (first|rfl|(simp;done))))|((with_reducible refine ObN.mk ?_ ?_);(focus exact zN))|(with_reducible refine ObT.tt ?_)|(with_reducible refine ObT.ff ?_)|((with_reducible refine ObT.yes ?_ ?_);(focus assumption))|((with_reducible refine ObT.no ?_ ?_);(focus assumption))|((with_reducible refine ObT.yes ?_ ?_);(focus (refine decide_eq_true ?_;first|assumption|omega)))|((with_reducible refine ObT.no ?_ ?_);(focus (refine decide_eq_false ?_;first|assumption|omega)))|(with_reducible refine ObT.dec (fun h=>?_) (fun h=>?_))|(with_reducible refine ObT.mk (fun h=>?_) (fun h=>?_))|((with_reducible refine ObB.yes ?_ ?_);(focus (first|assumption|(with_reducible rfl)|omega)))|((with_reducible refine ObB.no ?_ ?_);(focus (first|assumption|omega)))|(with_reducible refine ObB.mk (fun h=>?_) (fun h=>?_))|((with_reducible refine ObI.nn ?_ ?_);(focus omega))|((with_reducible refine ObI.nl ?_ ?_);(focus omega))|((with_reducible refine ObI.sn ?_ ?_ ?_);(focus omega);(focus omega))|((with_reducible refine ObI.sl ?_ ?_ ?_);(focus omega);(focus omega))|((with_reducible refine ObI.dl ?_ ?_);(focus omega))|((with_reducible refine ObI.mk _ rfl ?_ ?_ ?_);(focus omega);(focus omega))|((with_reducible refine ObZ.wu ?_ ?_);(focus omega))|((with_reducible refine ObZ.wi ?_ ?_ ?_);(focus omega);(focus omega))|(with_reducible refine ObZ.ml ?_)|(with_reducible refine ObZ.mn ?_)|(with_reducible refine ObZ.mk _ rfl ?_)|((with_reducible refine ObX.mk _ rfl ?_ ?_);(focus exact zX))|((with_reducible refine ObX.lit ?_ ?_);(focus exact zX))|((with_reducible refine ObX.int ?_ ?_ ?_);(focus exact zX);(focus exact zX))|((with_reducible refine ObY.mk _ rfl ?_ ?_);(focus exact zX))|((with_reducible refine ObY.lit ?_ ?_);(focus exact zX))|((with_reducible refine ObY.int ?_ ?_ ?_);(focus exact zX);(focus exact zX))|((with_reducible refine (?_:ObL _ _));(refine ObL.mk _ zL ?_))|((with_reducible refine (?_:ObU _ _));(refine ObU.mk _ zU ?_))|(with_reducible refine ObS.mk _ rfl ?_)|((with_reducible refine (?_:ObR _ _ _));(first|(refine ObR.mk _ (by assumption) ?_)|(refine ObR.mk _ (by with_reducible rfl) ?_)|(refine ObR.map zX (fun x hx=>?_))|(refine ObR.mk _ rfl ?_)))|((with_reducible refine ObO.l ?_);(with_reducible refine ObN.mk ?_ ?_);(focus (first|rfl|omega)))|((with_reducible refine ObO.r ?_);(with_reducible refine ObN.mk ?_ ?_);(focus (first|omega|(simp;done))))|((with_reducible refine ObW.nil ?_ ?_);(focus (first|rfl|assumption)))|((with_reducible refine ObW.cons ?_ ?_);(focus (first|assumption|(simp;done))))|((with_reducible refine ObJ.zz ?_))|((with_reducible refine ObJ.nz ?_ ?_);(focus exact zX))|((with_reducible refine ObJ.zn ?_ ?_);(focus exact zX))|((with_reducible refine ObJ.nn ?_ ?_ ?_);(focus exact zX);(focus exact zX))|((with_reducible refine ObJ.lz ?_ ?_);(focus exact zX))|((with_reducible refine ObJ.zl ?_ ?_);(focus exact zX))|((with_reducible refine ObJ.nl ?_ ?_ ?_);(focus exact zX);(focus exact zX))|((with_reducible refine ObJ.ln ?_ ?_ ?_);(focus exact zX);(focus exact zX))|((with_reducible refine ObJ.ll ?_ ?_ ?_);(focus exact zX);(focus exact zX))|((with_reducible refine (?_:ObG _ _ _ _));(refine ObG.nz zX _ (by first|rfl) ?_))|((with_reducible refine (?_:ObG _ _ _ _));(refine ObG.zn zX _ (by first|rfl) ?_))|((with_reducible refine (?_:ObG _ _ _ _));(refine ObG.nn zX zX _ (by first|rfl) ?_))|((with_reducible refine (?_:ObG _ _ _ _));(refine ObG.lz zX _ (by first|rfl) ?_))|((with_reducible refine (?_:ObG _ _ _ _));(refine ObG.zl zX _ (by first|rfl) ?_))|((with_reducible refine (?_:ObG _ _ _ _));(refine ObG.nl zX zX _ (by first|rfl) ?_))|((with_reducible refine (?_:ObG _ _ _ _));(refine ObG.ln zX zX _ (by first|rfl) ?_))|((with_reducible refine (?_:ObG _ _ _ _));(refine ObG.ll zX zX _ (by first|rfl) ?_))|((with_reducible refine ObQ.mk _ rfl ?_ ?_);(focus exact zX))|((with_reducible refine ObEq.i ?_);(focus (first|(with_reducible rfl)|omega)))|((with_reducible refine ObEq.mk ?_);(focus (first|rfl|assumption)))|(exact ObEnd.eq rfl rfl)|((with_reducible refine ObSt.live ?_ ?_);(focus (first|trivial|(refine ⟨rfl,?_⟩;first|omega|(exact Nat.le_refl _)))))|(with_reducible refine ObSt.stale ?_)|((with_reducible refine ObRn.mk ?_ ?_);(focus (first|rfl|(simp [rnB,rnC,rnL];done))))|((with_reducible refine ObRow.same ?_ ?_ ?_);(focus (first|rfl|assumption));(focus (first|rfl|assumption|(simp;done))))|((with_reducible refine ObRow.lit ?_ ?_);(focus (first|rfl|(simp [rnB,rnC,rnL];done))))|((with_reducible refine ObEqs.mk ?_ ?_);(focus rfl))|((with_reducible refine ObEq1.i ?_ ?_);(focus (first|(with_reducible rfl)|omega)))|((with_reducible refine ObEq1.o ?_ ?_);(focus (first|(with_reducible rfl)|omega)))|((with_reducible refine ObEq1.mk ?_ ?_);(focus (first|rfl|assumption)))|exact True.intro|(with_reducible refine ObE.min ?_)|(with_reducible refine ObE.max ?_))
      · obtain rfl : j = i := by omega
        obtain ⟨e,he⟩:∃ e,e+j=mid+m:=⟨mid+m - j,by omega⟩
        obtain ⟨D1,D2,D3,hD3,l1,l2,f1,f2,f3,f4,f5,f6⟩:=hfin j e (by omega) (by omega) (by omega) (by omega) he (fun c1 c2 x y e1 e2=>hlo (j - 1) x y (by omega) (by omega) e1 (by rw [show mid - 1 - (j - 1)=mid - j by omega];exact e2)) (fun c1 c2 x y e1 e2=>hhi j x y (by omega) (by omega) e1 e2)
        subst hD3
        have ee:e=mid+m - j:=by omega
        have hja:a≤j∧j≤m∧j≤mid:=by omega
        have heN:e≤b:=by omega
        clear hmon hfin hq hlo hhi i1 i2 i3 sr1 sr2 sr3 sr4 sr5 sr6 sr7 hij he
        obtain ⟨ja,jm,jd⟩:=hja
        subst ee
        by_cases p1:j < m<;>by_cases p3:a < j<;>by_cases p4:j < mid<;>by_cases p6:mid+m - j < b<;>(try (exfalso;omega))
        all_goals
          (first|(have r1:=f1 p1 (by omega))|(have r1:=f2 (by omega);subst r1))
          (first|(have r2:=f3 p3 p4)|(have r2:=f4 (by omega);subst r2))
          (first|(have r3:=f5 (by omega) p6)|(have r3:=f6 (by omega);subst r3))
          clear f1 f2 f3 f4 f5 f6
          repeat' ((conv=>whnf);first|(with_reducible refine SeqP.go ?_)|exact SameP.mk rfl rfl|(with_reducible refine ObAnd.mk ?_ ?_)|(with_reducible refine ObDx.same ?_)|((with_reducible refine eVu ?_ ?_);(focus omega))|((with_reducible refine eVi ?_ ?_);(focus omega))|(with_reducible refine eShr ?_)|((with_reducible refine ObD.mk ?_ ?_);(focus (first|rfl|(simp;done))))|((with_reducible refine ObN.mk ?_ ?_);(focus exact zN))|(with_reducible refine ObT.tt ?_)|(with_reducible refine ObT.ff ?_)|((with_reducible refine ObT.yes ?_ ?_);(focus assumption))|((with_reducible refine ObT.no ?_ ?_);(focus assumption))|((with_reducible refine ObT.yes ?_ ?_);(focus (refine decide_eq_true ?_;first|assumption|omega)))|((with_reducible refine ObT.no ?_ ?_);(focus (refine decide_eq_false ?_;first|assumption|omega)))|(with_reducible refine ObT.dec (fun h=>?_) (fun h=>?_))|(with_reducible refine ObT.mk (fun h=>?_) (fun h=>?_))|((with_reducible refine ObB.yes ?_ ?_);(focus (first|assumption|(with_reducible rfl)|omega)))|((with_reducible refine ObB.no ?_ ?_);(focus (first|assumption|omega)))|(with_reducible refine ObB.mk (fun h=>?_) (fun h=>?_))|((with_reducible refine ObI.nn ?_ ?_);(focus omega))|((with_reducible refine ObI.nl ?_ ?_);(focus omega))|((with_reducible refine ObI.sn ?_ ?_ ?_);(focus omega);(focus omega))|((with_reducible refine ObI.sl ?_ ?_ ?_);(focus omega);(focus omega))|((with_reducible refine ObI.dl ?_ ?_);(focus omega))|((with_reducible refine ObI.mk _ rfl ?_ ?_ ?_);(focus omega);(focus omega))|((with_reducible refine ObZ.wu ?_ ?_);(focus omega))|((with_reducible refine ObZ.wi ?_ ?_ ?_);(focus omega);(focus omega))|(with_reducible refine ObZ.ml ?_)|(with_reducible refine ObZ.mn ?_)|(with_reducible refine ObZ.mk _ rfl ?_)|((with_reducible refine ObX.mk _ rfl ?_ ?_);(focus exact zX))|((with_reducible refine ObX.lit ?_ ?_);(focus exact zX))|((with_reducible refine ObX.int ?_ ?_ ?_);(focus exact zX);(focus exact zX))|((with_reducible refine ObY.mk _ rfl ?_ ?_);(focus exact zX))|((with_reducible refine ObY.lit ?_ ?_);(focus exact zX))|((with_reducible refine ObY.int ?_ ?_ ?_);(focus exact zX);(focus exact zX))|((with_reducible refine (?_:ObL _ _));(refine ObL.mk _ zL ?_))|((with_reducible refine (?_:ObU _ _));(refine ObU.mk _ zU ?_))|(with_reducible refine ObS.mk _ rfl ?_)|((with_reducible refine (?_:ObR _ _ _));(first|(refine ObR.mk _ (by assumption) ?_)|(refine ObR.mk _ (by with_reducible rfl) ?_)|(refine ObR.map zX (fun x hx=>?_))|(refine ObR.mk _ rfl ?_)))|((with_reducible refine ObH.f 103 ?_);(first|(with_reducible refine ObH.mk _ _ (r1) ?_)|(refine ObH.mk _ _ (r1) ?_)))|((with_reducible refine ObH.f 102 ?_);(first|(with_reducible refine ObH.mk _ _ (r2) ?_)|(refine ObH.mk _ _ (r2) ?_)))|((with_reducible refine ObH.f 102 ?_);(first|(with_reducible refine ObH.mk _ _ (r3) ?_)|(refine ObH.mk _ _ (r3) ?_)))|((with_reducible refine ObO.l ?_);(with_reducible refine ObN.mk ?_ ?_);(focus (first|rfl|omega)))|((with_reducible refine ObO.r ?_);(with_reducible refine ObN.mk ?_ ?_);(focus (first|omega|(simp;done))))|((with_reducible refine ObW.nil ?_ ?_);(focus (first|rfl|assumption)))|((with_reducible refine ObW.cons ?_ ?_);(focus (first|assumption|(simp;done))))|((with_reducible refine ObJ.zz ?_))|((with_reducible refine ObJ.nz ?_ ?_);(focus exact zX))|((with_reducible refine ObJ.zn ?_ ?_);(focus exact zX))|((with_reducible refine ObJ.nn ?_ ?_ ?_);(focus exact zX);(focus exact zX))|((with_reducible refine ObJ.lz ?_ ?_);(focus exact zX))|((with_reducible refine ObJ.zl ?_ ?_);(focus exact zX))|((with_reducible refine ObJ.nl ?_ ?_ ?_);(focus exact zX);(focus exact zX))|((with_reducible refine ObJ.ln ?_ ?_ ?_);(focus exact zX);(focus exact zX))|((with_reducible refine ObJ.ll ?_ ?_ ?_);(focus exact zX);(focus exact zX))|((with_reducible refine (?_:ObG _ _ _ _));(refine ObG.nz zX _ (by first|rfl) ?_))|((with_reducible refine (?_:ObG _ _ _ _));(refine ObG.zn zX _ (by first|rfl) ?_))|((with_reducible refine (?_:ObG _ _ _ _));(refine ObG.nn zX zX _ (by first|rfl) ?_))|((with_reducible refine (?_:ObG _ _ _ _));(refine ObG.lz zX _ (by first|rfl) ?_))|((with_reducible refine (?_:ObG _ _ _ _));(refine ObG.zl zX _ (by first|rfl) ?_))|((with_reducible refine (?_:ObG _ _ _ _));(refine ObG.nl zX zX _ (by first|rfl) ?_))|((with_reducible refine (?_:ObG _ _ _ _));(refine ObG.ln zX zX _ (by first|rfl) ?_))|((with_reducible refine (?_:ObG _ _ _ _));(refine ObG.ll zX zX _ (by first|rfl) ?_))|((with_reducible refine ObQ.mk _ rfl ?_ ?_);(focus exact zX))|((with_reducible refine ObEq.i ?_);(focus (first|(with_reducible rfl)|omega)))|((with_reducible refine ObEq.mk ?_);(focus (first|rfl|assumption)))|(exact ObEnd.eq rfl rfl)|((with_reducible refine ObSt.live ?_ ?_);(focus (first|trivial|(refine ⟨rfl,?_⟩;first|omega|(exact Nat.le_refl _)))))|(with_reducible refine ObSt.stale ?_)|((with_reducible refine ObRn.mk ?_ ?_);(focus (first|rfl|(simp [rnB,rnC,rnL];done))))|((with_reducible refine ObRow.same ?_ ?_ ?_);(focus (first|rfl|assumption));(focus (first|rfl|assumption|(simp;done))))|((with_reducible refine ObRow.lit ?_ ?_);(focus (first|rfl|(simp [rnB,rnC,rnL];done))))|((with_reducible refine ObEqs.mk ?_ ?_);(focus rfl))|((with_reducible refine ObEq1.i ?_ ?_);(focus (first|(with_reducible rfl)|omega)))|((with_reducible refine ObEq1.o ?_ ?_);(focus (first|(with_reducible rfl)|omega)))|((with_reducible refine ObEq1.mk ?_ ?_);(focus (first|rfl|assumption)))|exact True.intro|(with_reducible refine ObE.min ?_)|(with_reducible refine ObE.max ?_))
end Go.Proofs.YtgpldekhcojimaaDoor.Sim.Pr7
namespace Go.Proofs.YtgpldekhcojimaaDoor.Sim.Pr7
open Go.RowKit
theorem hM (G:Nat→AV):MkOk G:=make14 G (fun g n P A B R N a m b=>sym44 G g n P A B R N a m b)
end Go.Proofs.YtgpldekhcojimaaDoor.Sim.Pr7
namespace Go.Proofs.YtgpldekhcojimaaDoor.Sim
open Go.RowKit
set_option maxRecDepth 100000
section
variable (k s t h b:Int)
set_option maxHeartbeats 2000000 in
theorem ans_got (l:List Pr7.Pr) (H:List Hd) (o:Int) (x y z v:ByteArray) (i:Int) (g:Bool) (c25:PC Tryd.prog tabG 25 [cA k s t h b,xA o x y z i] (Bo true)) (ho:i64 o) (o6:¬ o=6) (o7:¬ o=7) (o13:¬ o=13) (oh:Conf.opB o 3=false) (c30:PC Tryd.prog tabG 30 [.sl 2 (l.map Pr7.pA),S x] (aA 0 g ⟨#[]⟩ v 0)):PC Tryd.prog tabG 9 [cA k s t h b,sA l H,xA o x y z i] (.tup [aA 0 g ⟨#[]⟩ v 0,Bo true]):=by
  have c28:=held28 o ho
  rw [oh] at c28
  refine pc_ofV cop9 ?_
  repeat' ((conv=>whnf);first|(with_reducible refine SeqP.go ?_)|((with_reducible refine ObD.mk ?_ ?_);(focus (first|rfl|(simp;done))))|((with_reducible refine ObN.mk ?_ ?_);(focus exact zN))|(with_reducible refine ObT.tt ?_)|(with_reducible refine ObT.ff ?_)|((with_reducible refine ObB.no ?_ ?_);(focus (first|assumption|omega)))|((with_reducible refine (?_:ObU _ _));(refine ObU.mk _ zU ?_))|((with_reducible refine (?_:ObR _ _ _));(first|(refine ObR.mk _ (by assumption) ?_)|(refine ObR.mk _ (by with_reducible rfl) ?_)|(refine ObR.map zX (fun x hx=>?_))|(refine ObR.mk _ rfl ?_)))|((with_reducible refine ObC.f 25 ?_);(first|(with_reducible refine ObC.mk _ (c25) ?_)|(refine ObC.mk _ (c25) ?_)))|((with_reducible refine ObC.f 28 ?_);(first|(with_reducible refine ObC.mk _ (c28) ?_)|(refine ObC.mk _ (c28) ?_)))|((with_reducible refine ObC.f 30 ?_);(first|(with_reducible refine ObC.mk _ (c30) ?_)|(refine ObC.mk _ (c30) ?_)))|((with_reducible refine ObEq.mk ?_);(focus (first|rfl|assumption))))
set_option maxHeartbeats 2000000 in
theorem after_put0 (x y z:ByteArray) (i:Int) (c25:PC Tryd.prog tabG 25 [cA k s t h b,xA 2 x y z i] (Bo true)) (c37:PC Tryd.prog tabG 37 [.sl 2 [],S x] (.tup [S ⟨#[]⟩,Bo false])) (c38:PC Tryd.prog tabG 38 [.sl 2 [],S x,S y] (.sl 2 [.agg [S x,S y]])):PC Tryd.prog tabG 12 [cA k s t h b,sA [] [],xA 2 x y z i] (.tup [sA [(x,y)] [],Bo true]):=by
  have c36:=cl36e tabG
  refine pc_ofV cop12 ?_
  repeat' ((conv=>whnf);first|(with_reducible refine SeqP.go ?_)|((with_reducible refine ObD.mk ?_ ?_);(focus (first|rfl|(simp;done))))|((with_reducible refine ObN.mk ?_ ?_);(focus exact zN))|(with_reducible refine ObT.tt ?_)|(with_reducible refine ObT.ff ?_)|((with_reducible refine ObB.yes ?_ ?_);(focus (first|assumption|(with_reducible rfl)|omega)))|((with_reducible refine (?_:ObU _ _));(refine ObU.mk _ zU ?_))|((with_reducible refine (?_:ObR _ _ _));(first|(refine ObR.mk _ (by assumption) ?_)|(refine ObR.mk _ (by with_reducible rfl) ?_)|(refine ObR.map zX (fun x hx=>?_))|(refine ObR.mk _ rfl ?_)))|((with_reducible refine ObC.f 25 ?_);(first|(with_reducible refine ObC.mk _ (c25) ?_)|(refine ObC.mk _ (c25) ?_)))|((with_reducible refine ObC.f 36 ?_);(first|(with_reducible refine ObC.mk _ (c36) ?_)|(refine ObC.mk _ (c36) ?_)))|((with_reducible refine ObC.f 37 ?_);(first|(with_reducible refine ObC.mk _ (c37) ?_)|(refine ObC.mk _ (c37) ?_)))|((with_reducible refine ObC.f 38 ?_);(first|(with_reducible refine ObC.mk _ (c38) ?_)|(refine ObC.mk _ (c38) ?_)))|((with_reducible refine ObEq.mk ?_);(focus (first|rfl|assumption))))
set_option maxHeartbeats 2000000 in
theorem step_put0 (x y z:ByteArray) (i:Int) (c25:PC Tryd.prog tabG 25 [cA k s t h b,xA 2 x y z i] (Bo true)) (c9:PC Tryd.prog tabG 9 [cA k s t h b,sA [] [],xA 2 x y z i] (.tup [aA 0 false ⟨#[]⟩ ⟨#[]⟩ 0,Bo true])) (c12:PC Tryd.prog tabG 12 [cA k s t h b,sA [] [],xA 2 x y z i] (.tup [sA [(x,y)] [],Bo true])):PC Tryd.prog tabG 20 [cA k s t h b,sA [] [],xA 2 x y z i,aA 0 false ⟨#[]⟩ ⟨#[]⟩ 0] (.tup [sA [(x,y)] [],Bo true]):=by
  have hx:(0:Int)=0∧(⟨#[]⟩:ByteArray)=⟨#[]⟩∧(⟨#[]⟩:ByteArray)=⟨#[]⟩∧false=false∧(0:Int)=0∧True:=⟨rfl,rfl,rfl,rfl,rfl,trivial⟩
  refine pc_ofV cop20 ?_
  repeat' ((conv=>whnf);first|(with_reducible refine SeqP.go ?_)|((with_reducible refine ObD.mk ?_ ?_);(focus (first|rfl|(simp;done))))|((with_reducible refine ObN.mk ?_ ?_);(focus exact zN))|(with_reducible refine ObT.tt ?_)|(with_reducible refine ObT.ff ?_)|((with_reducible refine ObB.yes ?_ ?_);(focus (first|assumption|(with_reducible rfl)|omega)))|((with_reducible refine (?_:ObU _ _));(refine ObU.mk _ zU ?_))|((with_reducible refine (?_:ObR _ _ _));(first|(refine ObR.mk _ (by assumption) ?_)|(refine ObR.mk _ (by with_reducible rfl) ?_)|(refine ObR.map zX (fun x hx=>?_))|(refine ObR.mk _ rfl ?_)))|((with_reducible refine ObC.f 25 ?_);(first|(with_reducible refine ObC.mk _ (c25) ?_)|(refine ObC.mk _ (c25) ?_)))|((with_reducible refine ObC.f 9 ?_);(first|(with_reducible refine ObC.mk _ (c9) ?_)|(refine ObC.mk _ (c9) ?_)))|((with_reducible refine ObC.f 12 ?_);(first|(with_reducible refine ObC.mk _ (c12) ?_)|(refine ObC.mk _ (c12) ?_)))|((with_reducible refine ObEq.mk ?_);(focus (first|rfl|assumption))))
end
theorem works18:PC Tryd.prog tabG 18 [] (Bo true):=by
  have a0:(⟨#[97]⟩:ByteArray).size≤9223372036854775807:=by decide
  have a1:(⟨#[49]⟩:ByteArray).size≤9223372036854775807:=by decide
  have a2:(⟨#[]⟩:ByteArray).size≤9223372036854775807:=by decide
  have hM:=Pr7.hM tabG
  have n0:Pr7.Okl []:=⟨by decide,fun p hp=>by cases hp⟩
  have n1:Pr7.Okl [((⟨#[97]⟩:ByteArray),(⟨#[49]⟩:ByteArray))]:=⟨by decide,fun p hp=>by
    obtain rfl:=List.mem_singleton.1 hp
    exact ⟨a0,a1⟩⟩
  have g0:=Pr7.get9 tabG hM [] n0 (by decide) ⟨#[97]⟩ a0
  have g1:=Pr7.get9 tabG hM _ n1 (by decide) ⟨#[97]⟩ a0
  have p0:=Pr7.put17 tabG hM [] n0 (by decide) ⟨#[97]⟩ ⟨#[49]⟩ a0
  have f2:=fits25 2 9 1 1 4 2 ⟨#[97]⟩ ⟨#[49]⟩ ⟨#[]⟩ 0 (by decide) (by decide) (by decide) (by decide) (by decide) (by decide) (by decide) a0 a1 a2 true (by decide)
  have f1:=fits25 2 9 1 1 4 1 ⟨#[97]⟩ ⟨#[]⟩ ⟨#[]⟩ 0 (by decide) (by decide) (by decide) (by decide) (by decide) (by decide) (by decide) a0 a2 a2 true (by decide)
  have q0:PC Tryd.prog tabG 37 [.sl 2 [],S ⟨#[97]⟩] (.tup [S ⟨#[]⟩,Bo false]):=g0
  have q1:PC Tryd.prog tabG 37 [.sl 2 [.agg [S ⟨#[97]⟩,S ⟨#[49]⟩]],S ⟨#[97]⟩] (.tup [S ⟨#[49]⟩,Bo true]):=by
    rw [Pr7.val_one,if_pos rfl] at g1
    exact g1
  have q2:PC Tryd.prog tabG 38 [.sl 2 [],S ⟨#[97]⟩,S ⟨#[49]⟩] (.sl 2 [.agg [S ⟨#[97]⟩,S ⟨#[49]⟩]]):=p0
  have r0:=got30 tabG [] ⟨#[97]⟩ ⟨#[]⟩ false q0
  have r1:=got30 tabG [(⟨#[97]⟩,⟨#[49]⟩)] ⟨#[97]⟩ ⟨#[49]⟩ true q1
  have b1:=ans_got 2 9 1 1 4 [] [] 2 ⟨#[97]⟩ ⟨#[49]⟩ ⟨#[]⟩ ⟨#[]⟩ 0 false f2 (by decide) (by decide) (by decide) (by decide) (by decide) r0
  have b2:=ans_got 2 9 1 1 4 [(⟨#[97]⟩,⟨#[49]⟩)] [] 1 ⟨#[97]⟩ ⟨#[]⟩ ⟨#[]⟩ ⟨#[49]⟩ 0 true f1 (by decide) (by decide) (by decide) (by decide) (by decide) r1
  have b3:=after_put0 2 9 1 1 4 ⟨#[97]⟩ ⟨#[49]⟩ ⟨#[]⟩ 0 f2 q0 q2
  have b4:=step_put0 2 9 1 1 4 ⟨#[97]⟩ ⟨#[49]⟩ ⟨#[]⟩ 0 f2 b1 b3
  have hx:(0:Int)=0∧(⟨#[49]⟩:ByteArray)=⟨#[49]⟩∧(⟨#[]⟩:ByteArray)=⟨#[]⟩∧true=true∧(0:Int)=0∧True:=⟨rfl,rfl,rfl,rfl,rfl,trivial⟩
  refine pc_ofV cop18 ?_
  repeat' ((conv=>whnf);first|(with_reducible refine SeqP.go ?_)|((with_reducible refine ObD.mk ?_ ?_);(focus (first|rfl|(simp;done))))|((with_reducible refine ObN.mk ?_ ?_);(focus exact zN))|(with_reducible refine ObT.tt ?_)|((with_reducible refine ObB.yes ?_ ?_);(focus (first|assumption|(with_reducible rfl)|omega)))|((with_reducible refine (?_:ObU _ _));(refine ObU.mk _ zU ?_))|((with_reducible refine (?_:ObR _ _ _));(first|(refine ObR.mk _ (by assumption) ?_)|(refine ObR.mk _ (by with_reducible rfl) ?_)|(refine ObR.map zX (fun x hx=>?_))|(refine ObR.mk _ rfl ?_)))|((with_reducible refine ObC.f 20 ?_);(first|(with_reducible refine ObC.mk _ (b4) ?_)|(refine ObC.mk _ (b4) ?_)))|((with_reducible refine ObC.f 9 ?_);(first|(with_reducible refine ObC.mk _ (b2) ?_)|(refine ObC.mk _ (b2) ?_)))|((with_reducible refine ObEq.mk ?_);(focus (first|rfl|assumption))))
end Go.Proofs.YtgpldekhcojimaaDoor.Sim
namespace Go.Proofs.YtgpldekhcojimaaDoor.Sim
open Go.RowKit
set_option maxRecDepth 100000
open Pr7
theorem bex (p:Prop):∃ r:Bool,r=true↔p:=by
  by_cases h:p
  · exact ⟨true,by simp [h]⟩
  · exact ⟨false,by simp [h]⟩
theorem fH_fH (H:List Hd):fH (fH H)=fH H:=by
  unfold fH
  rw [List.map_map]
  refine List.map_congr_left fun x _=>?_
  simp only [Function.comp]
  rw [few_few]
theorem fH_mem {H:List Hd} {x:Hd} (h:x ∈ fH H):∃ y,x.2=few y:=by
  obtain ⟨y,_,rfl⟩:=List.mem_map.1 h
  exact ⟨_,rfl⟩
theorem few_40 (l:List Pr):(few l).length≤40:=by rw [few_len];omega
structure Cu (l:List Pr) (H:List Hd):Prop where
  l0:l.length≤40
  l1:Okl l
  lf:few l=l
  h0:H.length≤6
  hf:fH H=H
  h1:∀ x ∈ H,x.2.length≤40∧Okl x.2
theorem cu_few (l:List Pr) (H:List Hd):Cu (few l) (fH (H.take 6)) :=
  ⟨few_40 l,okl_few l,few_few l,by rw [fH_len,List.length_take];omega,fH_fH _,fun x hx=>by
    obtain ⟨y,e⟩:=fH_mem hx
    rw [e];exact ⟨few_40 y,okl_few y⟩⟩
theorem Cu.ok {l:List Pr} {H:List Hd} (c:Cu l H):SOk l H :=
  ⟨by have:=c.l0;omega,c.l1.sz,by have:=c.h0;omega,fun x hx=>⟨by have:=(c.h1 x hx).1;omega,(c.h1 x hx).2.sz⟩⟩
section
variable (G:Nat→AV)
theorem give10' {l:List Pr} {H:List Hd} (c:Cu l H):PC Tryd.prog G 10 [sA l H] (sA l H):=by
  have:=give10 G l H c.ok (by have:=c.h0;omega)
  rwa [c.lf,c.hf] at this
theorem msame {l m:List Pr} {H K:List Hd} (c:Cu l H) (d:Cu m K) (r:Bool) (hr:r=true↔(mk l=mk m∧sH H K)):PC Tryd.prog G 22 [sA l H,sA m K] (Bo r):=by
  have h48:∀ l:List Pr,l.length≤40→Okl l→PC Tryd.prog G 48 [.sl 2 (l.map pA)] (.sl 2 ((mk l).map pA)):=hM G
  obtain ⟨r0,hr0⟩:∃ r0:Bool,r0=true↔mk l=mk m:=bex _
  obtain ⟨r1,hr1⟩:∃ r1:Bool,r1=true↔sH H K:=bex _
  have c49:=sb49 G h48 l m c.l0 d.l0 c.l1 d.l1 r0 hr0
  have c50:=ef50 G H K (by have:=c.h0;omega) (by have:=d.h0;omega) (fun i h1 h2 q hq=>by
    obtain ⟨a1,a2⟩:=c.h1 _ (List.getElem_mem h1)
    obtain ⟨b1,b2⟩:=d.h1 _ (List.getElem_mem h2)
    obtain ⟨q0,hq0⟩:∃ q0:Bool,q0=true↔mk H[i].2=mk K[i].2:=bex _
    have c:=cl51 G H[i] K[i] q0 (sb49 G h48 _ _ a1 b1 a2 b2 q0 hq0) q (by
      rw [Bool.eq_iff_iff,hq]
      simp only [Prod.mk.injEq,Bool.and_eq_true,decide_eq_true_eq,hq0])
    exact c) r1 hr1
  have e:r=(r0 && r1):=by
    rw [Bool.eq_iff_iff,hr]
    simp only [Bool.and_eq_true,hr0,hr1]
  rw [e]
  exact same22M G l m H K r0 c49 r1 c50
theorem rsame {l m:List Pr} {H K:List Hd} (hl:l.length≤1000∧Okl l) (hm:m.length≤1000∧Okl m) (hH:H.length≤1000∧∀ x ∈ H,x.2.length≤1000∧Okl x.2) (hK:K.length≤1000∧∀ x ∈ K,x.2.length≤1000∧Okl x.2) (r:Bool) (hr:r=true↔(mk l=mk m∧sH H K)):PC Tryd.prog G 14 [sA l H,sA m K] (Bo r) :=
  rsame14 G l m H K (by omega) (by omega) (by have:=mk_len l;omega) (by have:=mk_len m;omega) (rmake15 G l hl.2) (rmake15 G m hm.2) (fun x hx=>⟨rmake15 G _ (hH.2 x hx).2,by have:=mk_len x.2;have:=(hH.2 x hx).1;omega⟩) (fun x hx=>⟨rmake15 G _ (hK.2 x hx).2,by have:=mk_len x.2;have:=(hK.2 x hx).1;omega⟩) r hr
theorem Cu.r {l:List Pr} {H:List Hd} (c:Cu l H):(l.length≤1000∧Okl l)∧(H.length≤1000∧∀ x ∈ H,x.2.length≤1000∧Okl x.2) :=
  ⟨⟨by have:=c.l0;omega,c.l1⟩,⟨by have:=c.h0;omega,fun x hx=>⟨by have:=(c.h1 x hx).1;omega,(c.h1 x hx).2⟩⟩⟩
end
set_option maxHeartbeats 2000000 in
theorem lawSame (l m:List Pr) (H K:List Hd) (ok1:SOk l H) (ok2:SOk m K):PC Tryd.prog tabG 5 [sA l H,sA m K] (Bo true):=by
  have c1:=few7S tabG l H ok1
  have c2:=few7S tabG m K ok2
  have cu1:=cu_few l H
  have cu2:=cu_few m K
  generalize few l=l' at *
  generalize few m=m' at *
  generalize fH (H.take 6)=H' at *
  generalize fH (K.take 6)=K' at *
  have g1:=give10' tabG cu1
  have g2:=give10' tabG cu2
  obtain ⟨r,hr⟩:∃ r:Bool,r=true↔(mk l'=mk m'∧sH H' K'):=bex _
  have s1:=msame tabG cu1 cu2 r hr
  have s2:=rsame tabG cu1.r.1 cu2.r.1 cu1.r.2 cu2.r.2 r hr
  have w:=works18
  clear hr cu1 cu2 ok1 ok2
  cases r
  · refine pc_ofV cop5 ?_
    repeat' ((conv=>whnf);first|(with_reducible refine SeqP.go ?_)|((with_reducible refine ObD.mk ?_ ?_);(focus (first|rfl|(simp;done))))|((with_reducible refine ObN.mk ?_ ?_);(focus exact zN))|(with_reducible refine ObT.tt ?_)|(with_reducible refine ObT.ff ?_)|((with_reducible refine (?_:ObU _ _));(refine ObU.mk _ zU ?_))|((with_reducible refine (?_:ObR _ _ _));(first|(refine ObR.mk _ (by assumption) ?_)|(refine ObR.mk _ (by with_reducible rfl) ?_)|(refine ObR.map zX (fun x hx=>?_))|(refine ObR.mk _ rfl ?_)))|((with_reducible refine ObC.f 7 ?_);(first|(with_reducible refine ObC.mk _ (c1) ?_)|(refine ObC.mk _ (c1) ?_)))|((with_reducible refine ObC.f 7 ?_);(first|(with_reducible refine ObC.mk _ (c2) ?_)|(refine ObC.mk _ (c2) ?_)))|((with_reducible refine ObC.f 10 ?_);(first|(with_reducible refine ObC.mk _ (g1) ?_)|(refine ObC.mk _ (g1) ?_)))|((with_reducible refine ObC.f 10 ?_);(first|(with_reducible refine ObC.mk _ (g2) ?_)|(refine ObC.mk _ (g2) ?_)))|((with_reducible refine ObC.f 22 ?_);(first|(with_reducible refine ObC.mk _ (s1) ?_)|(refine ObC.mk _ (s1) ?_)))|((with_reducible refine ObC.f 14 ?_);(first|(with_reducible refine ObC.mk _ (s2) ?_)|(refine ObC.mk _ (s2) ?_)))|((with_reducible refine ObC.f 18 ?_);(first|(with_reducible refine ObC.mk _ (w) ?_)|(refine ObC.mk _ (w) ?_)))|((with_reducible refine ObEq.mk ?_);(focus (first|rfl|assumption))))
  · refine pc_ofV cop5 ?_
    repeat' ((conv=>whnf);first|(with_reducible refine SeqP.go ?_)|((with_reducible refine ObD.mk ?_ ?_);(focus (first|rfl|(simp;done))))|((with_reducible refine ObN.mk ?_ ?_);(focus exact zN))|(with_reducible refine ObT.tt ?_)|((with_reducible refine (?_:ObU _ _));(refine ObU.mk _ zU ?_))|((with_reducible refine (?_:ObR _ _ _));(first|(refine ObR.mk _ (by assumption) ?_)|(refine ObR.mk _ (by with_reducible rfl) ?_)|(refine ObR.map zX (fun x hx=>?_))|(refine ObR.mk _ rfl ?_)))|((with_reducible refine ObC.f 7 ?_);(first|(with_reducible refine ObC.mk _ (c1) ?_)|(refine ObC.mk _ (c1) ?_)))|((with_reducible refine ObC.f 7 ?_);(first|(with_reducible refine ObC.mk _ (c2) ?_)|(refine ObC.mk _ (c2) ?_)))|((with_reducible refine ObC.f 10 ?_);(first|(with_reducible refine ObC.mk _ (g1) ?_)|(refine ObC.mk _ (g1) ?_)))|((with_reducible refine ObC.f 10 ?_);(first|(with_reducible refine ObC.mk _ (g2) ?_)|(refine ObC.mk _ (g2) ?_)))|((with_reducible refine ObC.f 22 ?_);(first|(with_reducible refine ObC.mk _ (s1) ?_)|(refine ObC.mk _ (s1) ?_)))|((with_reducible refine ObC.f 14 ?_);(first|(with_reducible refine ObC.mk _ (s2) ?_)|(refine ObC.mk _ (s2) ?_)))|((with_reducible refine ObC.f 18 ?_);(first|(with_reducible refine ObC.mk _ (w) ?_)|(refine ObC.mk _ (w) ?_)))|((with_reducible refine ObEq.mk ?_);(focus (first|rfl|assumption))))
end Go.Proofs.YtgpldekhcojimaaDoor.Sim
namespace Go.Proofs.YtgpldekhcojimaaDoor.Sim
open Go.RowKit
set_option maxRecDepth 100000
open Pr7
def hOk (x:Hd):Prop:=x.2.length≤9223372036854775807∧∀ p ∈ x.2,p.1.size≤9223372036854775807∧p.2.size≤9223372036854775807
abbrev HdS:={x:Hd // hOk x}
def hC (x:HdS):List AV:=[I x.1.1,.sl 2 (x.1.2.map pA)]
theorem prs_inv {cs:List AV} (h:ShC Tryd.prog 24 cs):∃ l:List Pr,cs=[.sl 2 (l.map pA)]∧l.length≤9223372036854775807∧∀ p ∈ l,p.1.size≤9223372036854775807∧p.2.size≤9223372036854775807:=by
  have e2:isAggT Tryd.prog 65=true:=by kernel_rfl
  have e4:(Tryd.prog).cellsOf 65=2:=by kernel_rfl
  obtain ⟨dss,rfl,hl,hll⟩:=h.slice_inv (e:=65) (by kernel_rfl)
  obtain ⟨ls,rfl⟩:=pick_list (f:=pC) (fun cs h=>pair_inv h) dss hll
  have g2:(List.map pC ls).map (mkE (isAggT Tryd.prog 65))=(ls.map Subtype.val).map pA:=by rw [e2,List.map_map,List.map_map];rfl
  refine ⟨ls.map Subtype.val,?_,by simpa using hl,?_⟩
  · rw [g2,e4]
  · intro p hp
    obtain ⟨q,_,rfl⟩:=List.mem_map.1 hp
    exact q.2
theorem held_inv {cs:List AV} (h:ShC Tryd.prog 61 cs):∃ x:HdS,cs=hC x:=by
  have i1:(Tryd.prog).underlying 3=some (.int .i64):=by kernel_rfl
  obtain ⟨p0,q,rfl,hp0,h⟩:=(h.flds (ts:=[3,24]) (by kernel_rfl)).cons
  obtain ⟨p1,q,rfl,hp1,h⟩:=h.cons
  obtain rfl:=h.nil
  obtain ⟨n,rfl,_⟩:=hp0.i64_inv i1
  obtain ⟨l,rfl,h1,h2⟩:=prs_inv hp1
  exact ⟨⟨(n,l),h1,h2⟩,rfl⟩
theorem state_inv {cs:List AV} (h:ShC Tryd.prog 27 cs):∃ (l:List Pr) (H:List Hd),mkE true cs=sA l H∧SOk l H:=by
  have e2:isAggT Tryd.prog 61=true:=by kernel_rfl
  have e4:(Tryd.prog).cellsOf 61=2:=by kernel_rfl
  obtain ⟨p0,q,rfl,hp0,h⟩:=(h.flds (ts:=[24,25]) (by kernel_rfl)).cons
  obtain ⟨p1,q,rfl,hp1,h⟩:=h.cons
  obtain rfl:=h.nil
  obtain ⟨l,rfl,h1,h2⟩:=prs_inv hp0
  obtain ⟨dss,rfl,hl,hll⟩:=hp1.slice_inv (e:=61) (by kernel_rfl)
  obtain ⟨ls,rfl⟩:=pick_list (f:=hC) (fun cs h=>held_inv h) dss hll
  have g2:(List.map hC ls).map (mkE (isAggT Tryd.prog 61))=(ls.map Subtype.val).map hA:=by rw [e2,List.map_map,List.map_map];rfl
  refine ⟨l,ls.map Subtype.val,?_,h1,h2,by simpa using hl,?_⟩
  · rw [g2,e4];rfl
  · intro x hx
    obtain ⟨q,_,rfl⟩:=List.mem_map.1 hx
    exact q.2
theorem ModelSame_calls (as0 as1:List AV) (s0:ShC Tryd.prog 27 as0) (s1:ShC Tryd.prog 27 as1):PC Tryd.prog tabG 5 [mkE (isAggT Tryd.prog 27) as0,mkE (isAggT Tryd.prog 27) as1] (Bo true):=by
  have e1:isAggT Tryd.prog 27=true:=by kernel_rfl
  obtain ⟨l,H,h0,ok0⟩:=state_inv s0
  obtain ⟨m,K,h1,ok1⟩:=state_inv s1
  rw [e1,h0,h1]
  exact lawSame l m H K ok0 ok1
end Go.Proofs.YtgpldekhcojimaaDoor.Sim
