/- Texts of this claim, part 4. -/
import Derived.Test.YtfocijljkkfonaaDoorMHeapSame3
set_option linter.unusedVariables false
set_option linter.unusedSimpArgs false
namespace Go.Proofs.YtfocijljkkfonaaDoor.Sim
open Go.RowKit
abbrev KK:=AV->Hp->Prop
inductive ObQ (s:ByteArray) (ix:Int) (k:Int->Prop):Prop
 | mk (m:Nat) (hx:ix=m) (h:m < s.size) (hk:k ((s[m]'h).toNat:Int)):ObQ s ix k
inductive ObG (s:ByteArray) (lo hi:Option Int) (k:ByteArray->Prop):Prop
 | mk (i j:Nat) (h1:lo.getD 0=i) (h2:hi.getD s.size=j) (h3:i<=j) (h4:j<=s.size) (s':ByteArray) (hs:s.extract i j=s') (hk:k s'):ObG s lo hi k
inductive ObJ (n:Nat) (lo hi:Option Int) (k:Nat->Nat->Prop):Prop
 | mk (i j:Nat) (h1:lo.getD 0=i) (h2:hi.getD n=j) (h3:i<=j) (h4:j<=n) (hk:k i j):ObJ n lo hi k
inductive ObO (a b:Prop):Prop
 | l (h:a):ObO a b
 | r (h:b):ObO a b
section
variable (P:Program)
def vI64 (op:BinOp) (a b:Int) (k:AV->Prop) (fb:Prop):Prop :=
 match op with
 | .add=>ObI (a+b) (fun z=>k (.v (.int .i64 z)))
 | .sub=>ObI (a - b) (fun z=>k (.v (.int .i64 z)))
 | .mul=>ObI (a * b) (fun z=>k (.v (.int .i64 z)))
 | .quo=>ObN (b ≠ 0) (ObI (a.tdiv b) (fun z=>k (.v (.int .i64 z))))
 | .rem=>ObN (b ≠ 0) (ObZ (a.tmod b) (fun z=>k (.v (.int .i64 z))))
 | .eql=>ObB (a=b) (k (.v (.bool true))) (k (.v (.bool false)))
 | .neq=>ObB (a=b) (k (.v (.bool false))) (k (.v (.bool true)))
 | .lss=>ObB (a < b) (k (.v (.bool true))) (k (.v (.bool false)))
 | .leq=>ObB (a<=b) (k (.v (.bool true))) (k (.v (.bool false)))
 | .gtr=>ObB (b < a) (k (.v (.bool true))) (k (.v (.bool false)))
 | .geq=>ObB (b<=a) (k (.v (.bool true))) (k (.v (.bool false)))
 | _=>fb
def vIk (op:BinOp) (kd:IntKind) (a b:Int) (k:AV->Prop) (fb:Prop):Prop :=
 match op with
 | .add=>ObZ (kd.wrap (a+b)) (fun z=>k (.v (.int kd z)))
 | .sub=>ObZ (kd.wrap (a - b)) (fun z=>k (.v (.int kd z)))
 | .mul=>ObZ (kd.wrap (a * b)) (fun z=>k (.v (.int kd z)))
 | .eql=>ObB (a=b) (k (.v (.bool true))) (k (.v (.bool false)))
 | .neq=>ObB (a=b) (k (.v (.bool false))) (k (.v (.bool true)))
 | .lss=>ObB (a < b) (k (.v (.bool true))) (k (.v (.bool false)))
 | .leq=>ObB (a<=b) (k (.v (.bool true))) (k (.v (.bool false)))
 | .gtr=>ObB (b < a) (k (.v (.bool true))) (k (.v (.bool false)))
 | .geq=>ObB (b<=a) (k (.v (.bool true))) (k (.v (.bool false)))
 | _=>fb
def vStr (op:BinOp) (a b:ByteArray) (k:AV->Prop) (fb:Prop):Prop :=
 match op with
 | .add=>ObN (a.size+b.size<=9223372036854775807) (ObS (a++b) (fun s=>k (.v (.string s))))
 | .eql=>ObB (a=b) (k (.v (.bool true))) (k (.v (.bool false)))
 | .neq=>ObB (a=b) (k (.v (.bool false))) (k (.v (.bool true)))
 | .lss=>ObT (Op.bytesLess a.toList b.toList) (k (.v (.bool true))) (k (.v (.bool false)))
 | .leq=>ObT (Op.bytesLess a.toList b.toList || decide (a=b)) (k (.v (.bool true))) (k (.v (.bool false)))
 | .gtr=>ObT (Op.bytesLess a.toList b.toList || decide (a=b)) (k (.v (.bool false))) (k (.v (.bool true)))
 | .geq=>ObT (Op.bytesLess a.toList b.toList) (k (.v (.bool false))) (k (.v (.bool true)))
 | _=>fb
def vBool (op:BinOp) (t:TypeId) (a b:Bool) (k:AV->Prop) (fb:Prop):Prop :=
 match op with
 | .eql=>ObN (P.underlying t=some .bool) (ObT a (ObT b (k (.v (.bool true))) (k (.v (.bool false)))) (ObT b (k (.v (.bool false))) (k (.v (.bool true)))))
 | .neq=>ObN (P.underlying t=some .bool) (ObT a (ObT b (k (.v (.bool false))) (k (.v (.bool true)))) (ObT b (k (.v (.bool true))) (k (.v (.bool false)))))
 | _=>fb
def shO:BinOp->Bool
 | .shl|.shr=>true
 | _=>false
def vVal (op:BinOp) (t:TypeId) (x y:Value) (k:AV->Prop) (fb:Prop):Prop :=
 match x with
 | .int kx a=>(match y with|.int ky b=>(match shO op with|true=>fb|false=>(match kx with|.i64=>ObN (ky = .i64) (vI64 op a b k fb)|kx=>ObN (ky=kx) (vIk op kx a b k fb)))|_=>fb)
 | .string a=>(match y with|.string b=>vStr op a b k fb|_=>fb)
 | .bool a=>(match y with|.bool b=>vBool P op t a b k fb|_=>fb)
 | _=>fb
theorem wD {op:BinOp} {t:TypeId} {xo yo:Operand} {kd:IntKind} {a b:Int} {k:AV->Prop} {fb:Prop} (h:vIk op kd a b k fb):(∃ v,ZX P op t xo yo (.int kd a) (.int kd b)=some v/\∃ r,zk v=some r/\k r)\/fb:=by
 have dec:∀ (p:Prop) [Decidable p],ObB p (k (.v (.bool true))) (k (.v (.bool false)))->∃ r,zk (.bool (decide p))=some r/\k r:=fun p _ h=>by
  obtain ⟨h1,h2⟩:=h
  by_cases hp:p
  ·exact ⟨_,rfl,by simpa [hp] using h1 hp⟩
  ·exact ⟨_,rfl,by simpa [hp] using h2 hp⟩
 cases op with
 | add=>obtain ⟨z,rfl,hk⟩:=h;exact .inl ⟨.int kd (kd.wrap (a+b)),by cases kd<;>rfl,_,rfl,hk⟩
 | sub=>obtain ⟨z,rfl,hk⟩:=h;exact .inl ⟨.int kd (kd.wrap (a - b)),by cases kd<;>rfl,_,rfl,hk⟩
 | mul=>obtain ⟨z,rfl,hk⟩:=h;exact .inl ⟨.int kd (kd.wrap (a * b)),by cases kd<;>rfl,_,rfl,hk⟩
 | eql=>exact .inl ⟨.bool (decide (a=b)),by have:(a == b)=decide (a=b):=by { by_cases h:a=b<;>simp [h] };rw [<- this];cases kd<;>rfl,dec _ h⟩
 | neq =>
  obtain ⟨h1,h2⟩:=h
  refine .inl ⟨.bool (decide (a ≠ b)),by have:(a != b)=decide (a ≠ b):=by { by_cases h:a=b<;>simp [h] };rw [<- this];cases kd<;>rfl,_,rfl,?_⟩
  by_cases hp:a=b
  ·simpa [hp] using h1 hp
  ·simpa [hp] using h2 hp
 | lss=>exact .inl ⟨.bool (decide (a < b)),by cases kd<;>rfl,dec _ h⟩
 | leq=>exact .inl ⟨.bool (decide (a<=b)),by cases kd<;>rfl,dec _ h⟩
 | gtr=>exact .inl ⟨.bool (decide (b < a)),by cases kd<;>rfl,dec _ h⟩
 | geq=>exact .inl ⟨.bool (decide (b<=a)),by cases kd<;>rfl,dec _ h⟩
 | _=>exact .inr h
theorem vI64_ok {op:BinOp} {t:TypeId} {xo yo:Operand} {a b:Int} {k:AV->Prop} {fb:Prop} (h:vI64 op a b k fb):(∃ v,ZX P op t xo yo (.int .i64 a) (.int .i64 b)=some v/\∃ r,zk v=some r/\k r)\/fb:=by
 have w:∀ z:Int,-9223372036854775808<=z->z<=9223372036854775807->IntKind.i64.wrap z=z:=fun z h1 h2=>XX h1 h2
 cases op with
 | add => rcases h with ⟨z, rfl, h1, h2, hk⟩ | hk
          ·exact .inl ⟨_,bV_add,_,rfl,by rw [w _ h1 h2];exact hk⟩
          ·exact .inl ⟨_,bV_add,_,rfl,hk⟩
 | sub => rcases h with ⟨z, rfl, h1, h2, hk⟩ | hk
          ·exact .inl ⟨_,bV_sub,_,rfl,by rw [w _ h1 h2];exact hk⟩
          ·exact .inl ⟨_,bV_sub,_,rfl,hk⟩
 | mul => rcases h with ⟨z, rfl, h1, h2, hk⟩ | hk
          ·exact .inl ⟨_,bV_mul,_,rfl,by rw [w _ h1 h2];exact hk⟩
          ·exact .inl ⟨_,bV_mul,_,rfl,hk⟩
 | quo => rcases h with ⟨hb, ⟨z, rfl, h1, h2, hk⟩ | hk⟩
          ·exact .inl ⟨_,bV_quo hb,_,rfl,by rw [w _ h1 h2];exact hk⟩
          ·exact .inl ⟨_,bV_quo hb,_,rfl,hk⟩
 | rem=>obtain ⟨hb,z,rfl,hk⟩:=h;exact .inl ⟨_,bV_rem hb,_,rfl,hk⟩
 | eql=>exact wD P (kd:=.i64) (op:=.eql) h
 | neq=>exact wD P (kd:=.i64) (op:=.neq) h
 | lss=>exact wD P (kd:=.i64) (op:=.lss) h
 | leq=>exact wD P (kd:=.i64) (op:=.leq) h
 | gtr=>exact wD P (kd:=.i64) (op:=.gtr) h
 | geq=>exact wD P (kd:=.i64) (op:=.geq) h
 | _=>exact .inr h
theorem ObT.bool {b:Bool} {k:Bool->Prop} (h:ObT b (k true) (k false)):k b:=by
 obtain ⟨h1,h2⟩:=h
 cases b
 ·exact h2 rfl
 ·exact h1 rfl
theorem ObT.nbool {b:Bool} {k:Bool->Prop} (h:ObT b (k false) (k true)):k (!b):=by
 obtain ⟨h1,h2⟩:=h
 cases b
 ·exact h2 rfl
 ·exact h1 rfl
theorem vStr_ok {op:BinOp} {t:TypeId} {xo yo:Operand} {a b:ByteArray} {k:AV->Prop} {fb:Prop} (h:vStr op a b k fb):(∃ v,ZX P op t xo yo (.string a) (.string b)=some v/\∃ r,zk v=some r/\k r)\/fb:=by
 cases op with
 | add=>obtain ⟨hb,z,rfl,hk⟩:=h;exact .inl ⟨_,bV_sadd hb,_,rfl,hk⟩
 | eql =>
  obtain ⟨h1,h2⟩:=h
  refine .inl ⟨_,bV_seq,_,rfl,?_⟩
  by_cases hp:a=b
  ·simpa [hp] using h1 hp
  ·simpa [hp] using h2 hp
 | neq =>
  obtain ⟨h1,h2⟩:=h
  refine .inl ⟨_,bV_sne,_,rfl,?_⟩
  by_cases hp:a=b
  ·simpa [hp] using h1 hp
  ·simpa [hp] using h2 hp
 | lss=>exact .inl ⟨_,bV_slt,_,rfl,ObT.bool (k:=fun b=>k (.v (.bool b))) h⟩
 | leq=>exact .inl ⟨_,bV_sle,_,rfl,ObT.bool (k:=fun b=>k (.v (.bool b))) h⟩
 | gtr=>exact .inl ⟨_,bV_sgt,_,rfl,ObT.nbool (k:=fun b=>k (.v (.bool b))) h⟩
 | geq=>exact .inl ⟨_,bV_sge,_,rfl,ObT.nbool (k:=fun b=>k (.v (.bool b))) h⟩
 | _=>exact .inr h
theorem vBool_ok {op:BinOp} {t:TypeId} {xo yo:Operand} {a b:Bool} {k:AV->Prop} {fb:Prop} (h:vBool P op t a b k fb):(∃ v,ZX P op t xo yo (.bool a) (.bool b)=some v/\∃ r,zk v=some r/\k r)\/fb:=by
 cases op with
 | eql =>
  obtain ⟨hu,h⟩:=h
  refine .inl ⟨_,bV_bool hu,_,rfl,?_⟩
  obtain ⟨h1,h2⟩:=h
  cases a
  ·obtain ⟨h3, h4⟩ := h2 rfl
   cases b
   ·exact h4 rfl
   ·exact h3 rfl
  ·obtain ⟨h3, h4⟩ := h1 rfl
   cases b
   ·exact h4 rfl
   ·exact h3 rfl
 | neq =>
  obtain ⟨hu,h⟩:=h
  refine .inl ⟨_,bV_bne hu,_,rfl,?_⟩
  obtain ⟨h1,h2⟩:=h
  cases a
  ·obtain ⟨h3, h4⟩ := h2 rfl
   cases b
   ·exact h4 rfl
   ·exact h3 rfl
  ·obtain ⟨h3, h4⟩ := h1 rfl
   cases b
   ·exact h4 rfl
   ·exact h3 rfl
 | _=>exact .inr h
theorem vVal_ok {op:BinOp} {t:TypeId} {xo yo:Operand} {x y:Value} {k:AV->Prop} {fb:Prop} (h:vVal P op t x y k fb):(∃ v,ZX P op t xo yo x y=some v/\∃ r,zk v=some r/\k r)\/fb:=by
 cases x with
 | int kx a =>
  cases y with
  | int ky b =>
   simp only [vVal] at h
   split at h
   ·exact .inr h
   ·cases kx with
    | i64=>obtain ⟨rfl,h⟩:=h;exact vI64_ok P h
    | _=>obtain ⟨rfl,h⟩:=h;exact wD P h
  | _=>exact .inr h
 | string a =>
  cases y with
  | string b=>exact vStr_ok P h
  | _=>exact .inr h
 | bool a =>
  cases y with
  | bool b=>exact vBool_ok P h
  | _=>exact .inr h
 | _=>exact .inr h
def vPtr (H:Hp) (x y:AV) (t f fb:Prop):Prop :=
 match x with
 | .v x'=>(match x' with
  | .pointer p=>(match p with
   | none=>(match y with
    | .v y'=>(match y' with|.pointer q=>(match q with|none=>t|some _=>fb)|_=>fb)
    | .ad ..=>f
    | .oa i g _ _=>lK H i g (fun _ _ _ _=>f)
    | _=>fb)
   | some _=>fb)
  | _=>fb)
 | .ad ..=>(match y with|.v y'=>(match y' with|.pointer q=>(match q with|none=>f|some _=>fb)|_=>fb)|_=>fb)
 | .oa i g _ _=>(match y with|.v y'=>(match y' with|.pointer q=>(match q with|none=>lK H i g (fun _ _ _ _=>f)|some _=>fb)|_=>fb)|_=>fb)
 | _=>fb
theorem vPtr_ok {H:Hp} {x y:AV} {t f fb:Prop} (h:vPtr H x y t f fb):((zb x && zb y)=true/\t)\/((zb x && zb y)=false/\((zo H x && zb y) || (zo H y && zb x))=true/\f)\/fb:=by
 unfold vPtr at h
 split at h
 ·split at h
  ·split at h
   ·split at h
    ·split at h
     ·split at h
      ·exact .inl ⟨rfl,h⟩
      ·exact .inr (.inr h)
     ·exact .inr (.inr h)
    ·exact .inr (.inl ⟨rfl,rfl,h⟩)
    ·obtain ⟨o, h1, _, h2, _⟩ := Z4 h
     exact .inr (.inl ⟨rfl,by simp [zo,zb,h1],h2⟩)
    ·exact .inr (.inr h)
   ·exact .inr (.inr h)
  ·exact .inr (.inr h)
 ·split at h
  ·split at h
   ·split at h
    ·exact .inr (.inl ⟨rfl,rfl,h⟩)
    ·exact .inr (.inr h)
   ·exact .inr (.inr h)
  ·exact .inr (.inr h)
 ·split at h
  ·split at h
   ·split at h
    ·obtain ⟨o, h1, _, h2, _⟩ := Z4 h
     exact .inr (.inl ⟨rfl,by simp [zo,zb,h1],h2⟩)
    ·exact .inr (.inr h)
   ·exact .inr (.inr h)
  ·exact .inr (.inr h)
 ·exact .inr (.inr h)
def vBin (H:Hp) (op:BinOp) (t:TypeId) (pt:Bool) (xo yo:Operand) (x y:AV) (k:AV->Prop) (fb:Prop):Prop :=
 match pt with
 | true=>(match op with
  | .eql=>vPtr H x y (k (.v (.bool true))) (k (.v (.bool false))) fb
  | .neq=>vPtr H x y (k (.v (.bool false))) (k (.v (.bool true))) fb
  | _=>fb)
 | false=>(match x with
  | .v x'=>(match y with|.v y'=>vVal P op t x' y' k fb|_=>fb)
  | _=>fb)
theorem vBin_ok {H:Hp} {op:BinOp} {t:TypeId} {pt:Bool} {xo yo:Operand} {x y:AV} {k:AV->Prop} {fb:Prop} (h:vBin P H op t pt xo yo x y k fb):(∃ r,zY P H op t pt xo yo x y=some r/\k r)\/fb:=by
 cases pt with
 | true =>
  simp only [vBin] at h
  cases op with
  | eql =>
   rcases vPtr_ok h with ⟨h1,h2⟩|⟨h1,h2,h3⟩|h
   ·exact .inl ⟨_,by simp only [zY,if_true,h1],h2⟩
   ·exact .inl ⟨_,by simp only [zY,if_true,h1,h2,Bool.false_eq_true,if_false],h3⟩
   ·exact .inr h
  | neq =>
   rcases vPtr_ok h with ⟨h1,h2⟩|⟨h1,h2,h3⟩|h
   ·exact .inl ⟨_,by simp only [zY,if_true,h1],h2⟩
   ·exact .inl ⟨_,by simp only [zY,if_true,h1,h2,Bool.false_eq_true,if_false],h3⟩
   ·exact .inr h
  | _=>exact .inr h
 | false =>
  simp only [vBin] at h
  cases x with
  | v x' =>
   cases y with
   | v y' =>
    rcases vVal_ok P (xo:=xo) (yo:=yo) h with ⟨v,h1,r,h2,h3⟩|h
    ·exact .inl ⟨r,by simp only [zY,zW,h1,h2,Bool.false_eq_true,if_false],h3⟩
    ·exact .inr h
   | _=>exact .inr h
  | _=>exact .inr h
def vUn (op:UnOp) (x:AV) (k:AV->Prop) (fb:Prop):Prop :=
 match op with
 | .not=>(match x with|.v x'=>(match x' with|.bool b=>ObT b (k (.v (.bool false))) (k (.v (.bool true)))|_=>fb)|_=>fb)
 | .neg=>(match x with|.v x'=>(match x' with|.int kd a=>(match kd with|.i64=>ObI (0 - a) (fun z=>k (.v (.int .i64 z)))|_=>fb)|_=>fb)|_=>fb)
 | _=>fb
theorem vUn_ok {op:UnOp} {x:AV} {k:AV->Prop} {fb:Prop} (h:vUn op x k fb):(∃ r,ap1 (fun v=>zh P (Op.unary op v)) x=some r/\k r)\/fb:=by
 unfold vUn at h
 split at h
 ·split at h
  ·split at h
   ·rename_i b
    exact .inl ⟨.v (.bool (!b)),by simp only [ap1,zW,uV_not];rfl,ObT.nbool (k:=fun b=>k (.v (.bool b))) h⟩
   ·exact .inr h
  ·exact .inr h
 ·split at h
  ·split at h
   ·split at h
    ·rename_i a _
     rcases h with ⟨z,rfl,h1,h2,hk⟩|hk
     ·exact .inl ⟨.v (.int .i64 (0 - a)),by simp only [ap1,zW,Wp,XX h1 h2];rfl,hk⟩
     ·exact .inl ⟨.v (.int .i64 (IntKind.i64.wrap (0 - a))),by simp only [ap1,zW,Wp];rfl,hk⟩
    ·exact .inr h
   ·exact .inr h
  ·exact .inr h
 ·exact .inr h
end
section
def vCells (kk:Nat) (agg:Bool) (off n:Nat) (e:AV) (k:AV->Prop):Prop :=
 match agg with
 | true=>ObD (decide (off+n<=kk)) (match decide (off=0/\n=kk) with
  | true=>(match e with|.agg cs=>k (.agg cs)|e=>k (.agg e.cells))
  | false=>dK e.cells off (fun c=>tK c n (fun c'=>k (.agg c'))))
 | false=>nK e.cells off k
theorem vCells_ok {kk:Nat} {agg:Bool} {off n:Nat} {e:AV} {k:AV->Prop} (h:vCells kk agg off n e k) {es:List AV} {i:Nat} (he:es[i]? = some e):∃ r,rdA kk es i off agg n=some r/\k r:=by
 cases agg with
 | true =>
  obtain ⟨h1,h2⟩:=h
  have h1:=of_decide_eq_true h1
  split at h2
  ·rename_i hd
   have hd:=of_decide_eq_true hd
   have:k (.agg e.cells):=by cases e<;>exact h2
   exact ⟨_,by simp only [rdA,he,if_true,if_pos h1,if_pos hd],this⟩
  ·rename_i hd
   have hd:=of_decide_eq_false hd
   rw [dK_eq,tK_eq] at h2
   exact ⟨_,by simp only [rdA,he,if_true,if_pos h1,if_neg hd],h2⟩
 | false =>
  obtain ⟨a,h1,h2⟩:=nK_ok h
  exact ⟨a,by simp only [rdA,he,Bool.false_eq_true,if_false];exact h1,h2⟩
def vLoad (H:Hp) (agg:Bool) (n:Nat) (x:AV) (k:AV->Prop):Prop :=
 match x with
 | .ad kk es i off=>ObR es i (fun e=>vCells kk agg off n e k)
 | .oa i g e off=>lK H i g (fun _ kk es _=>ObR es e (fun el=>vCells kk agg off n el k))
 | _=>False
theorem vLoad_ok {H:Hp} {agg:Bool} {n:Nat} {x:AV} {k:AV->Prop} (h:vLoad H agg n x k):∃ r,zr H agg n x=some r/\k r:=by
 unfold vLoad at h
 split at h
 ·obtain ⟨e, he, h⟩ := h
  exact vCells_ok h he
 ·obtain ⟨o, h1, _, h2, _⟩ := Z4 h
  obtain ⟨e,he,h⟩:=h2
  simp only [zr,h1]
  exact vCells_ok h he
 ·exact h.elim
def vStore (H:Hp) (n:Nat) (p v:AV) (k:Hp->Prop):Prop :=
 match p with
 | .oa i g e off => lK H i g (fun te kk es fz => ObR es e (fun old => ObN (fz <= e) (ObD (decide (off + n <= kk) && decide (v.cells.length = n) && v.fine && decide (0 < n))
   (match old with
    | .agg cs=>ObD (decide (off+n<=cs.length)) (oK cs off v.cells (fun cs'=>ObU (es.set e (.agg cs')) (fun es'=>rpK H i ⟨te,kk,es',g,fz⟩ k)))
    | _=>(match v.cells with|a::_=>ObU (es.set e a) (fun es'=>rpK H i ⟨te,kk,es',g,fz⟩ k)|[]=>False)))))
 | _=>False
theorem vStore_ok {H:Hp} {n:Nat} {p v:AV} {k:Hp->Prop} (h:vStore H n p v k):∃ H',zi H n p v=some H'/\k H':=by
 unfold vStore at h
 split at h
 ·rename_i i g e off
  obtain ⟨o,h1,_,h2,hg⟩:=Z4 h
  obtain ⟨old,ho,hf,hc,h⟩:=h2
  simp only [Bool.and_eq_true,decide_eq_true_eq] at hc
  obtain ⟨⟨⟨c1,c2⟩,c3⟩,c4⟩:=hc
  refine ⟨H.set i { o with es:=o.es.set e (wrA old off v.cells) },by simp only [zi,h1,ho,hf,c1,c2,c3,c4,and_self,if_true],?_⟩
  have eo:∀ es',(⟨o.e,o.k,es',g,o.fz⟩:OB) = { o with es:=es' }:=fun es'=>by subst hg;rfl
  split at h
  ·rename_i cs
   obtain ⟨hd,h⟩:=h
   have hd:=of_decide_eq_true hd
   rw [oK_eq _ _ _ _ (by rw [c2];exact hd)] at h
   obtain ⟨es',rfl,h⟩:=h
   rw [yc,eo] at h
   exact h
  ·rename_i hno
   have hw:wrA old off v.cells=v.cells.headD .unk:=by
    cases old with
    | agg cs=>exact absurd rfl (hno cs)
    | _=>rfl
   rw [hw]
   split at h
   ·rename_i a t hv
    obtain ⟨es',rfl,h⟩:=h
    rw [yc,eo] at h
    rw [hv]
    exact h
   ·exact h.elim
 ·exact h.elim
def vNil (H:Hp) (x:AV) (k:AV->Prop):Prop :=
 match x with
 | .ad kk es i off=>k (.ad kk es i off)
 | .oa i g e off=>lK H i g (fun _ _ _ _=>k (.oa i g e off))
 | _=>False
theorem vNil_ok {H:Hp} {x:AV} {k:AV->Prop} (h:vNil H x k):∃ r,Zr H x=some r/\k r:=by
 unfold vNil at h
 split at h
 ·exact ⟨_,rfl,h⟩
 ·obtain ⟨o, h1, _, h2, _⟩ := Z4 h
  exact ⟨_,by simp only [Zr,h1],h2⟩
 ·exact h.elim
def vMove (off:Nat) (H:Hp) (x:AV) (k:AV->Prop):Prop :=
 match x with
 | .ad kk es i o=>k (.ad kk es i (o+off))
 | .oa i g e o=>lK H i g (fun _ _ _ _=>k (.oa i g e (o+off)))
 | _=>False
inductive ObK (o:Option (Option AV)) (k:Option AV->Prop):Prop
 | mk (r:Option AV) (h:o=some r) (hk:k r):ObK o k
inductive ObNx (o:Option (List (AV × Hp))) (k:AV->Hp->Prop):Prop
 | mk (l:List (AV × Hp)) (h:o=some l) (hk:∀ p ∈ l,k p.1 p.2):ObNx o k
inductive ObK2 (o:Option (List AV)) (k:List AV->Prop):Prop
 | mk (r:List AV) (h:o=some r) (hk:k r):ObK2 o k
def vLkp (H:Hp) (kd:Kd) (c:Bool) (z x key:AV) (k:AV->Prop):Prop :=
 match x with
 | .mp i g=>lMK H i g (fun _ es _=>match rdH es with
  | some (_,ag,_,es')=>ObK (lkA kd ag key es') (fun r=>match r with
   | some v=>(match c with|true=>k (.tup [v,.v (.bool true)])|false=>k v)
   | none=>(match c with|true=>k (.tup [z,.v (.bool false)])|false=>k z))
  | none=>False)
 | .v v=>(match v with|.map m=>(match m with|none=>(match c with|true=>k (.tup [z,.v (.bool false)])|false=>k z)|some _=>False)|_=>False)
 | _=>False
theorem vLkp_ok {H:Hp} {kd:Kd} {c:Bool} {z x key:AV} {k:AV->Prop} (h:vLkp H kd c z x key k):∃ r,wJ H kd c z x key=some r/\k r:=by
 cases x with
 | mp i g =>
  simp only [vLkp] at h
  obtain ⟨o,h1,_,h4,_⟩:=lMK_ok h
  split at h4
  ·rename_i c' ag r' es' hrd
   obtain ⟨r,h2,h3⟩:=h4
   cases r with
   | some v=>cases c<;>exact ⟨_,by simp only [wJ,h1,hrd,h2];rfl,h3⟩
   | none=>cases c<;>exact ⟨_,by simp only [wJ,h1,hrd,h2];rfl,h3⟩
  ·exact h4.elim
 | v v =>
  cases v with
  | map m =>
   cases m with
   | none=>cases c<;>exact ⟨_,rfl,h⟩
   | some _=>exact h.elim
  | _=>exact h.elim
 | _=>exact h.elim
def vMup (H:Hp) (kd:Kd) (x key val:AV) (k:Hp->Prop):Prop :=
 match x with
 | .mp i g=>lMK H i g (fun kk es fz=>ObN (fz=0) (ObD (isKey kd key && val.cells.all AV.one) (ObK2 (upA kd key val es) (fun es'=>rpK H i ⟨4000000000,kk,es',g,fz⟩ k))))
 | _=>False
theorem vMup_ok {H:Hp} {kd:Kd} {x key val:AV} {k:Hp->Prop} (h:vMup H kd x key val k):∃ H',mupA H kd x key val=some H'/\k H':=by
 cases x with
 | mp i g =>
  simp only [vMup] at h
  obtain ⟨o,h1,h2,⟨h3,h4,es',h5,h6⟩,h7,h8⟩:=lMK_ok h
  rw [yc] at h6
  rw [Bool.and_eq_true] at h4
  refine ⟨_,by simp only [mupA,h1,h3,h4.1,h4.2,h5,and_self,if_true];rfl,?_⟩
  have e:({ o with es:=es' }:OB)=⟨4000000000,o.k,es',g,o.fz⟩:=by cases o;simp only at h7 h8;subst h7;subst h8;rfl
  have e2:({ o with es:=es' }:OB)=⟨o.e,o.k,es',o.g,0⟩:=by rw [<- h3]
  rw [<- e2,e]
  exact h6
 | _=>exact h.elim
def vLnm (H:Hp) (x:AV) (k:AV->Prop):Prop :=
 match x with
 | .mp i g=>lMK H i g (fun _ es _=>match es with|_::es'=>ObL es'.length (fun m=>k (.v (.int .i64 (m:Nat))))|[]=>False)
 | _=>False
theorem vLnm_ok {H:Hp} {x:AV} {k:AV->Prop} (h:vLnm H x k):∃ n,wk H x=some n/\k (.v (.int .i64 (n:Nat))):=by
 cases x with
 | mp i g =>
  simp only [vLnm] at h
  obtain ⟨o,h1,_,h4,_⟩:=lMK_ok h
  split at h4
  ·rename_i hes
   obtain ⟨m,h2,h3⟩:=h4
   exact ⟨m,by simp only [wk,h1,hes,h2],h3⟩
  ·exact h4.elim
 | _=>exact h.elim
def vNilB (P:Program) (H:Hp) (x:AV) (k:AV->Prop):Prop :=
 match x with
 | .mf nm t i g e off=>lK H i g (fun _ _ _ _=>ObN (nahF P t nm=true) (k (.mf nm t i g e off)))
 | x=>vNil H x k
theorem vNilB_ok {P:Program} {H:Hp} {x:AV} {k:AV->Prop} (h:vNilB P H x k):∃ r,wI P H x=some r/\k r:=by
 cases x with
 | mf nm t i g e off =>
  simp only [vNilB] at h
  obtain ⟨o,h1,_,⟨h2,h3⟩,_⟩:=Z4 h
  exact ⟨_,by simp only [wI,h1,h2,if_true],h3⟩
 | _ =>
  simp only [vNilB] at h
  obtain ⟨r,h1,h2⟩:=vNil_ok h
  exact ⟨r,by simpa only [wI] using h1,h2⟩
def vMki (t:Nat) (H:Hp) (x:AV) (k:AV->Prop):Prop :=
 match x with
 | .oa i g e o=>k (.io t i g e o)
 | .bf f i g e o=>k (.ib t f i g e o)
 | _=>False
theorem vMki_ok {t:Nat} {H:Hp} {x:AV} {k:AV->Prop} (h:vMki t H x k):∃ r,mkiA t x=some r/\k r:=by
 cases x with
 | oa i g e o=>exact ⟨_,rfl,h⟩
 | bf f i g e o=>exact ⟨_,rfl,h⟩
 | _=>exact h.elim
theorem vMove_ok {off:Nat} {H:Hp} {x:AV} {k:AV->Prop} (h:vMove off H x k):∃ r,zt off H x=some r/\k r:=by
 unfold vMove at h
 split at h
 ·exact ⟨_,rfl,h⟩
 ·obtain ⟨o, h1, _, h2, _⟩ := Z4 h
  exact ⟨_,by simp only [zt,h1],h2⟩
 ·exact h.elim
def vFld (agg:Bool) (off n:Nat) (x:AV) (k:AV->Prop):Prop :=
 match x with
 | .agg cs=>(match agg with
  | true=>ObD (decide (off+n<=cs.length)) (dK cs off (fun c=>tK c n (fun c'=>k (.agg c'))))
  | false=>nK cs off k)
 | _=>False
theorem vFld_ok {agg:Bool} {off n:Nat} {x:AV} {k:AV->Prop} (h:vFld agg off n x k):∃ r,zq agg off n x=some r/\k r:=by
 unfold vFld at h
 split at h
 ·split at h
  ·obtain ⟨hd, h⟩ := h
   have hd:=of_decide_eq_true hd
   rw [dK_eq,tK_eq] at h
   exact ⟨_,by simp only [zq,if_true,if_pos hd],h⟩
  ·obtain ⟨a, h1, h2⟩ := nK_ok h
   exact ⟨a,by simp only [zq,Bool.false_eq_true,if_false];exact h1,h2⟩
 ·exact h.elim
def vElem (kk:Nat) (H:Hp) (x i:AV) (k:AV->Prop):Prop :=
 match i with
 | .v iv=>(match iv with
  | .int _ ix=>(match x with
   | .sl k' es=>ObN (k'=kk) (ObX ix es.length (fun m=>k (.ad kk es m 0)))
   | .ol i g n=>lK H i g (fun _ k' _ _=>ObN (k'=kk) (ObX ix n (fun m=>k (.oa i g m 0))))
   | _=>False)
  | _=>False)
 | _=>False
theorem vElem_ok {kk:Nat} {H:Hp} {x i:AV} {k:AV->Prop} (h:vElem kk H x i k):∃ ix r,zR i=some ix/\zu kk H x ix=some r/\k r:=by
 unfold vElem at h
 split at h
 ·split at h
  ·rename_i kd ix
   refine ⟨ix,?_⟩
   split at h
   ·obtain ⟨rfl, m, rfl, hm, h⟩ := h
    exact ⟨_,rfl,by simp [zu,hm],h⟩
   ·obtain ⟨o, h1, _, h2, _⟩ := Z4 h
    obtain ⟨rfl,m,rfl,hm,hk⟩:=h2
    exact ⟨_,rfl,by simp [zu,h1,hm],hk⟩
   ·exact h.elim
  ·exact h.elim
 ·exact h.elim
def vSrc (H:Hp) (kk:Nat) (x:AV) (k:List AV->Prop):Prop :=
 match x with
 | .nl _=>k []
 | .em _ _=>k []
 | .sl k' es=>ObN (k'=kk) (k es)
 | .ol i g n=>lK H i g (fun _ k' es _=>ObN (k'=kk) (ObN (n<=es.length) (ObU (es.take n) k)))
 | _=>False
theorem vSrc_ok {H:Hp} {kk:Nat} {x:AV} {k:List AV->Prop} (h:vSrc H kk x k):∃ news H',Zm H kk x=some (news,H')/\k news:=by
 unfold vSrc at h
 split at h
 ·exact ⟨_,_,rfl,h⟩
 ·exact ⟨_,_,rfl,h⟩
 ·obtain ⟨rfl, h⟩ := h
  exact ⟨_,_,by simp only [Zm,if_true];rfl,h⟩
 ·obtain ⟨o, h1, _, h2, _⟩ := Z4 h
  obtain ⟨rfl,hn,es',rfl,h⟩:=h2
  exact ⟨_,_,by simp only [Zm,h1,hn,true_and,if_true];rfl,h⟩
 ·exact h.elim
inductive ObW (l:List AV) (a b:Prop):Prop
 | nil (h:l=[]) (hk:a):ObW l a b
 | cons (h:l ≠ []) (hk:b):ObW l a b
theorem objB_or {p t f:Prop} (h:ObB p t f):(p/\t)\/(¬ p/\f):=by
 obtain ⟨h1,h2⟩:=h
 by_cases hp:p
 ·exact .inl ⟨hp,h1 hp⟩
 ·exact .inr ⟨hp,h2 hp⟩
def vApp (e:TypeId) (kk bytes:Nat) (H:Hp) (s x:AV) (k:KK):Prop :=
 vSrc H kk x (fun news=>match s with
  | .nl _=>ObW news (k (.nl kk) H) (ObN (news.length * bytes<=140737488355328/\news.length<=9223372036854775807) (ObL news.length (fun m=>aK H y8 ⟨e,kk,news,0,0⟩ (fun n H'=>k (.ol n 0 m) H'))))
  | .ol i g n => lK H i g (fun te k' es fz => ObN (k' = kk) (ObN (te = e) (ObN (fz <= n) (ObN (n <= es.length) (ObN ((n + news.length) * bytes <= 140737488355328 /\ n + news.length <= 9223372036854775807)
    (ObL (n+news.length) (fun m=>ObU (es.take n++news) (fun es'=>rpK H i ⟨e,kk,es',g+1,fz⟩ (fun H'=>k (.ol i (g+1) m) H')))))))))
  | .oc i g n c => lK H i g (fun te k' es fz => ObN (k' = kk) (ObN (te = e) (ObN (fz <= n) (ObN (n <= es.length) (ObN ((n + news.length) * bytes <= 140737488355328 /\ n + news.length <= 9223372036854775807)
    (ObL (n+news.length) (fun m=>ObU (es.take n++news) (fun es'=>ObB (m<=c) (rpK H i ⟨e,kk,es',g,fz⟩ (fun H'=>k (.ol i g m) H')) (aK H y8 ⟨e,kk,es',0,0⟩ (fun j H'=>k (.ol j 0 m) H'))))))))))
  | _=>False)
theorem vApp_ok {e:TypeId} {kk bytes:Nat} {H:Hp} {s x:AV} {k:KK} (h:vApp e kk bytes H s x k):∃ r H',z8 e kk bytes H s x=some (r,H')/\k r H':=by
 obtain ⟨news,H0,hs,h⟩:=vSrc_ok h
 unfold z8
 rw [hs]
 simp only
 split at h
 ·rcases h with ⟨rfl, h⟩ | ⟨hn, hz, m, rfl, h⟩
  ·exact ⟨_,_,by simp only [if_true],h⟩
  ·have := wF h
   refine ⟨_,_,by simp only [if_neg hn,ZQ,hz,and_self,if_true],this⟩
 ·obtain ⟨o, h1, _, h2, _⟩ := Z4 h
  obtain ⟨rfl,rfl,hf,hn,hz,m,rfl,es',rfl,h⟩:=h2
  rw [yc] at h
  refine ⟨_,_,by simp only [h1,hf,hn,hz,ZQ,and_self,true_and,if_true],h⟩
 ·rename_i i g n c
  obtain ⟨o,h1,_,h2,_⟩:=Z4 h
  obtain ⟨rfl,rfl,hf,hn,hz,m,rfl,es',rfl,h⟩:=h2
  rcases objB_or h with ⟨hc,h⟩|⟨hc,h⟩
  ·rw [yc] at h
   refine ⟨_,_,by simp only [h1,hf,hn,hz,ZQ,and_self,true_and,if_true,if_pos hc],h⟩
  ·have := wF h
   refine ⟨_,_,by simp only [h1,hf,hn,hz,ZQ,and_self,true_and,if_true,if_neg hc],this⟩
 ·exact h.elim
def vSlo (kk:Nat) (H:Hp) (x i:AV) (k:AV->Prop):Prop :=
 match i with
 | .v iv=>(match iv with
  | .int _ ix=>(match x with
   | .ol i g n=>lK H i g (fun _ k' _ _=>ObN (k'=kk) (ObY ix n (fun m=>k (.os i g m n))))
   | _=>False)
  | _=>False)
 | _=>False
theorem vSlo_ok {kk:Nat} {H:Hp} {x i:AV} {k:AV->Prop} (h:vSlo kk H x i k):∃ ix r,zR i=some ix/\Wr kk H x ix=some r/\k r:=by
 unfold vSlo at h
 split at h
 ·split at h
  ·rename_i kd ix
   refine ⟨ix,?_⟩
   split at h
   ·obtain ⟨o, h1, _, h2, _⟩ := Z4 h
    obtain ⟨rfl,m,rfl,hm,hk⟩:=h2
    exact ⟨_,rfl,by simp [Wr,h1,hm],hk⟩
   ·exact h.elim
  ·exact h.elim
 ·exact h.elim
def vCpy (kk:Nat) (H:Hp) (d x:AV) (k:KK):Prop :=
 vSrc H kk x (fun news=>match d with
  | .ol i g n=>lK H i g (fun te k' es fz=>ObN (k'=kk) (ObN (fz=0) (ObN (n<=es.length) (ObL (min news.length n) (fun m=>ObU (news.take m++es.drop m) (fun es'=>rpK H i ⟨te,k',es',g,fz⟩ (fun H'=>k (.v (.int .i64 (m:Nat))) H')))))))
  | .os i g lo n=>lK H i g (fun te k' es fz=>ObN (k'=kk) (ObN (fz=0) (ObN (lo<=n/\n<=es.length) (ObL (min news.length (n - lo)) (fun m=>ObU (es.take lo++(news.take m++es.drop (lo+m))) (fun es'=>rpK H i ⟨te,k',es',g,fz⟩ (fun H'=>k (.v (.int .i64 (m:Nat))) H')))))))
  | .sl _ []=>k (.v (.int .i64 0)) H
  | _=>False)
theorem vCpy_ok {kk:Nat} {H:Hp} {d x:AV} {k:KK} (h:vCpy kk H d x k):∃ r H',cpyA kk H d x=some (r,H')/\k r H':=by
 obtain ⟨news,H0,hs,h⟩:=vSrc_ok h
 unfold cpyA
 rw [hs]
 simp only
 split at h
 ·obtain ⟨o, h1, _, h2, hg⟩ := Z4 h
  obtain ⟨rfl,hf,hn,m,rfl,es',rfl,h⟩:=h2
  rw [yc] at h
  subst hg
  refine ⟨_,_,by simp only [h1,hf,hn,and_self,true_and,if_true],h⟩
 ·obtain ⟨o, h1, _, h2, hg⟩ := Z4 h
  obtain ⟨rfl,hf,hn,m,rfl,es',rfl,h⟩:=h2
  rw [yc] at h
  subst hg
  refine ⟨_,_,by simp only [h1,hf,hn,and_self,true_and,if_true],h⟩
 ·exact ⟨_,_,rfl,h⟩
 ·exact h.elim
def vSlc (kk:Nat) (H:Hp) (x:AV) (lo hi:Option Int) (k:KK):Prop :=
 match x with
 | .sl k' es=>ObN (k'=kk) (ObJ es.length lo hi (fun i j=>ObU ((es.take j).drop i) (fun es'=>k (.sl kk es') H)))
 | .ol i g n => ObO (ObN (lo.getD 0 = 0) (lK H i g (fun _ _ _ _ => ObY (hi.getD n) n (fun j => k (.ol i g j) H))))
   (ObN (lo.getD 0 ≠ 0) (lK H i g (fun te k' es fz=>ObN (k'=kk) (ObN (n<=es.length) (ObU (es.take n) (fun ft=>ObN (ft.all AV.isP=true) (ObJ ft.length lo hi (fun a b=>ObU ((ft.take b).drop a) (fun es'=>rpK H i ⟨te,k',es,g,max fz n⟩ (fun H'=>k (.sl kk es') H'))))))))))
 | .nl k'=>ObN (k'=kk) (ObN (lo.getD 0=0/\hi.getD 0=0) (k (.nl kk) H))
 | _=>False
theorem vcut_ok {kk:Nat} {es:List AV} {lo hi:Option Int} {k:Nat->Nat->Prop} (h:ObJ es.length lo hi k):∃ i j,cut kk es (lo.getD 0) (hi.getD es.length)=some (.sl kk ((es.take j).drop i))/\k i j:=by
 obtain ⟨i,j,h1,h2,h3,h4,h⟩:=h
 refine ⟨i,j,?_,h⟩
 unfold cut
 rw [h1,h2,if_pos ⟨by omega,by omega,by simpa using h4⟩]
 simp
theorem vSlc_ok {kk:Nat} {H:Hp} {x:AV} {lo hi:Option Int} {k:KK} (h:vSlc kk H x lo hi k):∃ r H',zg kk H x lo hi=some (r,H')/\k r H':=by
 unfold vSlc at h
 split at h
 ·rename_i k' es
  obtain ⟨hk,h⟩:=h
  subst hk
  obtain ⟨i,j,hc,es',rfl,h⟩:=vcut_ok (kk:=k') h
  exact ⟨_,_,by simp only [zg,if_true,hc],h⟩
 ·rename_i i g n
  rcases h with ⟨h0,h⟩|⟨h0,h⟩
  ·obtain ⟨o, h1, _, h2, _⟩ := Z4 h
   obtain ⟨j,hj,hjn,h⟩:=h2
   refine ⟨.ol i g j,H,?_,h⟩
   simp only [zg,h0,if_true,h1]
   rw [hj,if_pos ⟨by omega,by simpa using hjn⟩]
   simp
  ·obtain ⟨o, h1, h1', h2, hg⟩ := Z4 h
   have hne:(o.e == 4000000000)=false:=by simpa using z7 h1
   obtain ⟨rfl,hn,ft,rfl,hp,h⟩:=h2
   obtain ⟨a,b,hc,es',rfl,h⟩:=vcut_ok (kk:=o.k) h
   rw [yc] at h
   have eo:(⟨o.e,o.k,o.es,g,max o.fz n⟩:OB) = { o with fz:=max o.fz n }:=by subst hg;rfl
   rw [eo] at h
   refine ⟨_,_,?_,h⟩
   simp only [zg,if_neg h0,ZL,h1',hg,hn,hp,hne,and_self,true_and,if_true,hc]
 ·obtain ⟨rfl, ⟨h1, h2⟩, h⟩ := h
  exact ⟨_,_,by simp only [zg,h1,h2,and_self,if_true],h⟩
 ·exact h.elim
end
def fzC (H:Hp) (a:AV) (k:KK):Prop :=
 match a with
 | .nl n=>k (.sl n []) H
 | .em _ n=>k (.sl n []) H
 | .ol i g n=>lK H i g (fun te kk es fz=>ObN (n<=es.length) (ObU (es.take n) (fun ft=>ObN (ft.all AV.isP=true) (rpK H i ⟨te,kk,es,g,max fz n⟩ (fun H'=>k (.sl kk ft) H')))))
 | .oa i g e off=>lK H i g (fun te kk es fz=>ObN (es.all AV.isP=true) (rpK H i ⟨te,kk,es,g,max fz es.length⟩ (fun H'=>k (.ad kk es e off) H')))
 | .v x=>k (.v x) H
 | .sl n es=>k (.sl n es) H
 | .ad n es i off=>k (.ad n es i off) H
 | .fn f cs=>ObD (cs.all AV.isC0) (k (.fn f cs) H)
 | _=>False
theorem fzC_ok {H:Hp} {a:AV} {k:KK} (h:fzC H a k):∃ a' H',ZL H a=some (a',H')/\k a' H':=by
 cases a with
 | nl n=>exact ⟨_,_,rfl,h⟩
 | em b n=>exact ⟨_,_,rfl,h⟩
 | ol i g n =>
  simp only [fzC] at h
  obtain ⟨o,h1,h1',h2,hg⟩:=Z4 h
  have hne:(o.e == 4000000000)=false:=by simpa using z7 h1
  obtain ⟨hn,ft,rfl,hp,h⟩:=h2
  rw [yc] at h
  subst hg
  exact ⟨_,_,by simp only [ZL,h1',hn,hp,hne,and_self,if_true],h⟩
 | oa i g e off =>
  simp only [fzC] at h
  obtain ⟨o,h1,h1',h2,hg⟩:=Z4 h
  have hne:(o.e == 4000000000)=false:=by simpa using z7 h1
  obtain ⟨hp,h⟩:=h2
  rw [yc] at h
  subst hg
  exact ⟨_,_,by simp only [ZL,h1',hp,hne,and_self,if_true],h⟩
 | os i g lo n=>exact h.elim
 | io t i g e off=>exact h.elim
 | mp i g=>exact h.elim
 | oc i g n c=>exact h.elim
 | mf nm t i g e off=>exact h.elim
 | bf f i g e off=>exact h.elim
 | ib t f i g e off=>exact h.elim
 | v x=>exact ⟨_,_,rfl,h⟩
 | sl n es=>exact ⟨_,_,rfl,h⟩
 | ad n es i off=>exact ⟨_,_,rfl,h⟩
 | fn f cs=>obtain ⟨hb,h⟩:=h;exact ⟨_,_,by simp only [ZL,AV.isC,hb,if_true],h⟩
 | agg=>exact h.elim
 | tup=>exact h.elim
 | unk=>exact h.elim
def fzL (H:Hp):List AV->(List AV->Hp->Prop)->Prop
 | [],k=>k [] H
 | a::as_,k=>fzC H a (fun a' H'=>fzL H' as_ (fun as' H''=>k (a'::as') H''))
theorem fzL_ok:∀ {as_:List AV} {H:Hp} {k:List AV->Hp->Prop},fzL H as_ k->∃ as' H',xt H as_=some (as',H')/\k as' H'
 | [],_,_,h=>⟨_,_,rfl,h⟩
 | a::as_,H,k,h=>by
  obtain ⟨a',H',h1,h2⟩:=fzC_ok h
  obtain ⟨as',H'',h3,h4⟩:=fzL_ok h2
  exact ⟨_,_,by simp only [xt,h1,h3],h4⟩
def fz1 (H:Hp) (a:AV) (k:KK):Prop :=
 match a with
 | .agg cs=>fzL H cs (fun cs' H'=>k (.agg cs') H')
 | .fn f cs=>fzL H cs (fun cs' H'=>k (.fn f cs') H')
 | a=>fzC H a k
theorem fz1_ok {H:Hp} {a:AV} {k:KK} (h:fz1 H a k):∃ a' H',pur H a=some (a',H')/\k a' H':=by
 cases a with
 | agg cs=>obtain ⟨cs',H',h1,h2⟩:=fzL_ok h;exact ⟨_,_,by simp only [pur,h1],h2⟩
 | fn f cs=>obtain ⟨cs',H',h1,h2⟩:=fzL_ok h;exact ⟨_,_,by simp only [pur,h1],h2⟩
 | _=>simp only [fz1] at h;exact fzC_ok h
def fzA (H:Hp):List AV->(List AV->Hp->Prop)->Prop
 | [],k=>k [] H
 | a::as_,k=>fz1 H a (fun a' H'=>fzA H' as_ (fun as' H''=>k (a'::as') H''))
theorem WL:∀ {as_:List AV} {H:Hp} {k:List AV->Hp->Prop},fzA H as_ k->∃ as' H',yv H as_=some (as',H')/\k as' H'
 | [],_,_,h=>⟨_,_,rfl,h⟩
 | a::as_,H,k,h=>by
  obtain ⟨a',H',h1,h2⟩:=fz1_ok h
  obtain ⟨as',H'',h3,h4⟩:=WL h2
  exact ⟨_,_,by simp only [yv,h1,h3],h4⟩
def lnK {α:Type}:List α->List Nat->(Nat->Prop)->Prop
 | [],n::_,k=>k n
 | _::xs,_::ns,k=>lnK xs ns k
 | _,[],_=>False
theorem lnK_aux {α:Type}:∀ (xs:List α) (m:Nat) (ns:List Nat) (k:Nat->Prop),(∀ (i n:Nat),ns[i]? = some n->n=m+i)->lnK xs ns k->k (m+xs.length)
 | [],m,n::ns,k,hn,h=>by have:n=m:=hn 0 n rfl;subst this;exact h
 | _::xs,m,n::ns,k,hn,h=>by
  have:=lnK_aux xs (m+1) ns k (fun i q hq=>by have:=hn (i+1) q (by simpa using hq);omega) h
  simpa [Nat.add_assoc,Nat.add_comm,Nat.add_left_comm] using this
 | [],_,[],_,_,h=>h.elim
 | _::_,_,[],_,_,h=>h.elim
theorem lnK_ok {α:Type} {xs:List α} {k:Nat->Prop} (h:lnK xs y8 k):k xs.length:=by
 have:=lnK_aux xs 0 y8 k (fun i n hn=>by
  simp only [y8] at hn
  rcases i with _|_|_|_|_|_|_|_|_|_|_|_|_|_|_|_|_|_|_|_|_|_|_|_|_|_|_|_|_|_|_|_|i<;>simp at hn<;>omega) h
 simpa using this
def bK (G:Nat->AV) (s:List AV):List AV->List (Nat × Nat × AX)->(List AV->Prop)->Prop
 | cells,[],k=>k cells
 | cells,(off,n,x)::rest,k=>eK G s x (fun v=>ObD (decide (v.cells.length=n) && decide (off+n<=cells.length) && v.fine) (oK cells off v.cells (fun cells'=>bK G s cells' rest k)))
theorem bK_ok {G:Nat->AV} {s:List AV}:∀ {parts:List (Nat × Nat × AX)} {cells:List AV} {k:List AV->Prop},bK G s cells parts k->∃ cs,zx cells (parts.map fun p=>(p.1,p.2.1,p.2.2.ev G s))=some cs/\k cs
 | [],cells,k,h=>⟨_,rfl,h⟩
 | (off,n,x)::rest,cells,k,h=>by
  rw [bK,Zt] at h
  obtain ⟨hc,h⟩:=h
  simp only [Bool.and_eq_true,decide_eq_true_eq] at hc
  obtain ⟨⟨c1,c2⟩,c3⟩:=hc
  rw [oK_eq _ _ _ _ (by rw [c1];exact c2)] at h
  obtain ⟨cs,h1,h2⟩:=bK_ok h
  refine ⟨cs,?_,h2⟩
  simp only [List.map_cons,zx,c1,c2,c3,and_self,if_true]
  rw [c1] at h1
  exact h1
def eqP:List Kd->List AV->List AV->Prop->(Prop->Prop)->Prop
 | [],[],[],p,k=>k p
 | kd::ks,a::as_,b::bs,p,k =>
  (match kd with
  | .i=>(match a with|.v x=>(match x with|.int ka n=>(match b with|.v y=>(match y with|.int kb m=>ObN (ka=kb) (eqP ks as_ bs (n=m/\p) k)|_=>False)|_=>False)|_=>False)|_=>False)
  | .s=>(match a with|.v x=>(match x with|.string n=>(match b with|.v y=>(match y with|.string m=>eqP ks as_ bs (n=m/\p) k|_=>False)|_=>False)|_=>False)|_=>False)
  | .b=>(match a with|.v x=>(match x with|.bool n=>(match b with|.v y=>(match y with|.bool m=>eqP ks as_ bs (n=m/\p) k|_=>False)|_=>False)|_=>False)|_=>False))
 | _,_,_,_,_=>False
theorem eqP_ok:∀ {ks:List Kd} {as_ bs:List AV} {p:Prop} {k:Prop->Prop},eqP ks as_ bs p k->∃ (r:Bool) (q:Prop),Z9 ks as_ bs=some r/\(r=true↔q)/\∃ q',k q'/\(q'↔q/\p)
 | [],[],[],p,k,h=>⟨true,True,rfl,by simp,p,h,by simp⟩
 | [],[],_::_,p,k,h=>h.elim
 | [],_::_,_,p,k,h=>h.elim
 | _::_,[],_,p,k,h=>h.elim
 | _::_,_::_,[],p,k,h=>h.elim
 | kd::ks,a::as_,b::bs,p,k,h=>by
  have key:∀ {c:Bool} {d:Prop},eqC kd a b=some c->(c=true↔d)->eqP ks as_ bs (d/\p) k->∃ (r:Bool) (q:Prop),Z9 (kd::ks) (a::as_) (b::bs)=some r/\(r=true↔q)/\∃ q',k q'/\(q'↔q/\p):=fun {c d} hc hd he=>by
   obtain ⟨r,q,h1,h2,q',h3,h4⟩:=eqP_ok he
   refine ⟨c && r,d/\q,by simp only [Z9,hc,h1],by simp [hd,h2],q',h3,by rw [h4];simp only [<- and_assoc];constructor<;>(rintro ⟨⟨x,y⟩,z⟩;exact ⟨⟨y,x⟩,z⟩)⟩
  simp only [eqP] at h
  split at h
  ·split at h
   ·split at h
    ·split at h
     ·split at h
      ·obtain ⟨rfl, h⟩ := h
       exact key (by simp only [eqC,if_true];rfl) (by simp) h
      ·exact h.elim
     ·exact h.elim
    ·exact h.elim
   ·exact h.elim
  ·split at h
   ·split at h
    ·split at h
     ·split at h
      ·exact key (by simp only [eqC];rfl) (by simp) h
      ·exact h.elim
     ·exact h.elim
    ·exact h.elim
   ·exact h.elim
  ·split at h
   ·split at h
    ·split at h
     ·split at h
      ·exact key (by simp only [eqC];rfl) (by simp) h
      ·exact h.elim
     ·exact h.elim
    ·exact h.elim
   ·exact h.elim
def vEqs (ng:Bool) (ks:List Kd) (x y:AV) (k:AV->Prop):Prop :=
 match x with
 | .agg as_=>(match y with
  | .agg bs=>eqP ks as_ bs True (fun p=>match ng with
   | true=>ObB p (k (.v (.bool false))) (k (.v (.bool true)))
   | false=>ObB p (k (.v (.bool true))) (k (.v (.bool false))))
  | _=>False)
 | _=>False
theorem vEqs_ok {ng:Bool} {ks:List Kd} {x y:AV} {k:AV->Prop} (h:vEqs ng ks x y k):∃ r,wK ng ks x y=some r/\k r:=by
 unfold vEqs at h
 split at h
 ·split at h
  ·obtain ⟨r, q, h1, h2, q', h3, h4⟩ := eqP_ok h
   refine ⟨_,by simp only [wK,h1];rfl,?_⟩
   have hq:q'↔r=true:=by rw [h4,h2];simp
   cases ng with
   | true =>
    obtain ⟨ht,hf⟩:=h3
    cases r with
    | true=>exact ht (hq.2 rfl)
    | false=>exact hf (fun e=>by have:=hq.1 e;cases this)
   | false =>
    obtain ⟨ht,hf⟩:=h3
    cases r with
    | true=>exact ht (hq.2 rfl)
    | false=>exact hf (fun e=>by have:=hq.1 e;cases this)
  ·exact h.elim
 ·exact h.elim
section
variable (P:Program) (G:Nat->AV)
def eoK (s:List AV) (x:Option AX) (k:Option AV->Prop):Prop :=
 match x with
 | none=>k none
 | some x=>eK G s x (fun a=>k (some a))
theorem eoK_eq (s:List AV) (x:Option AX) (k:Option AV->Prop):eoK G s x k=k (x.map (AX.ev G s)):=by
 cases x with
 | none=>rfl
 | some x=>exact Zt G s x _
def biK (x:Option AV) (k:Option Int->Prop):Prop :=
 match x with
 | none=>k none
 | some a=>(match a with|.v v=>(match v with|.int _ n=>k (some n)|_=>False)|_=>False)
theorem biK_ok {x:Option AV} {k:Option Int->Prop} (h:biK x k):∃ n,k n/\((x=none/\n=none)\/∃ kd m,x=some (.v (.int kd m))/\n=some m):=by
 cases x with
 | none=>exact ⟨none,h,.inl ⟨rfl,rfl⟩⟩
 | some a =>
  cases a with
  | v v =>
   cases v with
   | int kd m=>exact ⟨some m,h,.inr ⟨kd,m,rfl,rfl⟩⟩
   | _=>exact h.elim
  | _=>exact h.elim
def biE (b:Builtin) (ats:Array TypeId) (ty:TypeId) (cs:Array Bool) (vs:List AV) (H:Hp):Option (AV × Hp) :=
 match zy vs with|some vs=>(match zh P (builtin b ats ty cs vs.toArray) with|some (.value v)=>(zk v).map (·,H)|_=>none)|none=>none
inductive ObV (P:Program) (t:Nat) (nm:String) (k:FuncId->Prop):Prop
 | mk (f:FuncId) (h:Mth P t nm f) (hk:k f):ObV P t nm k
def vop (s:List AV) (H:Hp) (op:AOp) (k:KK):Prop :=
 match op with
 | .mv x=>eK G s x (fun a=>k a H)
 | .bin op t pt xo yo x y=>eK G s x (fun a=>eK G s y (fun b=>vBin P H op t pt xo yo a b (fun r=>k r H) (ObE ((zY P H op t pt xo yo a b).map (·,H)) k)))
 | .un op x=>eK G s x (fun a=>vUn op a (fun r=>k r H) (ObE ((ap1 (fun v=>zh P (Op.unary op v)) a).map (·,H)) k))
 | .cv sr d x=>eK G s x (fun a=>ObE ((ap1 (fun v=>zh P (convert sr d v)) a).map (·,H)) k)
 | .pick c a b=>eK G s c (fun c=>match c with|.v v=>(match v with|.bool b'=>ObT b' (eK G s a (fun r=>k r H)) (eK G s b (fun r=>k r H))|_=>False)|_=>False)
 | .ext x i=>eK G s x (fun a=>match a with|.tup cs=>nK cs i (fun r=>k r H)|_=>False)
 | .new e kk x=>eK G s x (fun a=>ObD (decide (a.cells.length=kk) && a.fine) (aK H y8 ⟨e,kk,[a],0,0⟩ (fun n H'=>k (.oa n 0 0 0) H')))
 | .bld z parts=>bK G s z parts (fun cs=>k (.agg cs) H)
 | .bsl e kk xs=>esK G s xs (fun vs=>ObD ((vs.all fun a=>decide (a.cells.length=kk) && a.fine) && decide (xs.length * kk<=16777216) && decide (xs.length<=16777216)) (lnK xs y8 (fun m=>aK H y8 ⟨e,kk,vs,0,0⟩ (fun n H'=>k (.ol n 0 m) H'))))
 | .load agg n x=>eK G s x (fun a=>vLoad H agg n a (fun r=>k r H))
 | .store n x v=>eK G s x (fun p=>eK G s v (fun a=>vStore H n p a (fun H'=>k (.tup []) H')))
 | .nilc x=>eK G s x (fun a=>vNilB P H a (fun r=>k r H))
 | .fad off x=>eK G s x (fun a=>vMove off H a (fun r=>k r H))
 | .mki t x=>eK G s x (fun a=>vMki t H a (fun r=>k r H))
 | .mkm2 nm x=>eK G s x (fun a=>match a with|.io t i g e off=>k (.mf nm t i g e off) H|_=>False)
 | .mkb f x=>eK G s x (fun a=>match a with|.oa i g e off=>k (.bf f i g e off) H|_=>False)
 | .clr kk z x=>ObE ((clrA kk z H (AX.ev G s x)).map (.tup [],·)) k
 | .aps e by_ a x=>ObE (apsA e by_ H (AX.ev G s a) (AX.ev G s x)) k
 | .sob x=>ObE ((sobA H (AX.ev G s x)).map (·,H)) k
 | .sla n x lo hi=>ObE (slaE n H (AX.ev G s x) ((lo.map (AX.ev G s)).map zR) ((hi.map (AX.ev G s)).map zR)) k
 | .usd x=>ObE ((usdA H (AX.ev G s x)).map (·,H)) k
 | .ust e x n=>ObE (ustA e H (AX.ev G s x) (AX.ev G s n)) k
 | .cup x=>ObE ((cupA H (AX.ev G s x)).map (·,H)) k
 | .cpu u x=>ObE ((cpuA P u H (AX.ev G s x)).map (·,H)) k
 | .rgm x=>ObE (rgmA H (AX.ev G s x)) k
 | .nxm x=>ObE (match nxmA H (AX.ev G s x) with|some [p]=>some p|_=>none) k
 | .enm x=>ObE ((entA H (AX.ev G s x)).map (·,H)) k
 | .mdl kd x i=>ObE ((mdlA H kd (AX.ev G s x) (AX.ev G s i)).map (.tup [],·)) k
 | .mkm ag m=>aK H y8 ⟨4000000000,m+2,[.agg (.v (.int .i64 0) :: .v (.bool ag)::List.replicate m (.v (.bool false)))],0,0⟩ (fun n H'=>k (.mp n 0) H')
 | .lkp kd c z x i=>eK G s x (fun a=>eK G s i (fun b=>vLkp H kd c z a b (fun r=>k r H)))
 | .mup kd x i v=>eK G s x (fun a=>eK G s i (fun b=>eK G s v (fun d=>vMup H kd a b d (fun H'=>k (.tup []) H'))))
 | .lnm x=>eK G s x (fun a=>vLnm H a (fun r=>k r H))
 | .fld agg off n x=>eK G s x (fun a=>vFld agg off n a (fun r=>k r H))
 | .iad kk x i=>eK G s x (fun a=>eK G s i (fun i=>vElem kk H a i (fun r=>k r H)))
 | .iaa len kk x i=>eK G s x (fun a=>eK G s i (fun i=>match i with|.v v=>(match v with|.int _ ix=>ObX ix len (fun m=>vMove (m * kk) H a (fun r=>k r H))|_=>False)|_=>False))
 | .idx t x i=>eK G s x (fun a=>eK G s i (fun i=>match a with
  | .v v=>(match v with
   | .string str=>(match i with|.v iv=>(match iv with|.int _ ix=>ObN (P.underlying t=some .string) (ObQ str ix (fun z=>k (.v (.int .u8 z)) H))|_=>False)|_=>False)
   | _=>False)
  | _=>False))
 | .ixa agg len kk x i=>eK G s x (fun a=>eK G s i (fun i=>match i with|.v v=>(match v with|.int _ ix=>ObX ix len (fun m=>vFld agg (m * kk) kk a (fun r=>k r H))|_=>False)|_=>False))
 | .sls t x lo hi=>eK G s x (fun a=>eoK G s lo (fun lo=>eoK G s hi (fun hi=>match a with
  | .v v=>(match v with
   | .string str=>biK lo (fun lo=>biK hi (fun hi=>ObN (P.underlying t=some .string) (ObG str lo hi (fun r=>k (.v (.string r)) H))))
   | _=>False)
  | _=>False)))
 | .slc kk x lo hi=>eK G s x (fun a=>eoK G s lo (fun lo=>eoK G s hi (fun hi=>biK lo (fun lo=>biK hi (fun hi=>vSlc kk H a lo hi k)))))
 | .mks e kk bytes z len cap=>eK G s len (fun l=>eK G s cap (fun c=>match l with
  | .v lv=>(match lv with
   | .int _ l=>(match c with
    | .v cv=>(match cv with
     | .int _ c=>ObN (0<=l/\l<=c/\c.toNat * bytes<=140737488355328/\c.toNat<=9223372036854775807) (ObL l.toNat (fun m=>ObU (List.replicate m z) (fun es=>aK H y8 ⟨e,kk,es,0,0⟩ (fun n H'=>k (.ol n 0 m) H'))))
     | _=>False)
    | _=>False)
   | _=>False)
  | _=>False))
 | .app e kk bytes x y=>eK G s x (fun a=>eK G s y (fun b=>vApp e kk bytes H a b k))
 | .apf e kk bytes x y=>eK G s x (fun a=>eK G s y (fun b=>vApp e kk bytes H a b k))
 | .apz e kk bytes z x n=>ObE (eff P (AX.ev G s) H (.apz e kk bytes z x n)) k
 | .lns x=>eK G s x (fun a=>match a with|.v v=>(match v with|.string str=>ObL str.size (fun m=>k (.v (.int .i64 (m:Nat))) H)|_=>False)|_=>False)
 | .len x=>eK G s x (fun a=>match a with
  | .nl _=>k (.v (.int .i64 ((0:Nat):Int))) H
  | .em _ _=>k (.v (.int .i64 ((0:Nat):Int))) H
  | .sl _ es=>ObL es.length (fun m=>k (.v (.int .i64 (m:Nat))) H)
  | .ol _ _ n=>k (.v (.int .i64 (n:Nat))) H
  | .oc _ _ n _=>k (.v (.int .i64 (n:Nat))) H
  | _=>False)
 | .bi b ats ty cs xs=>esK G s xs (fun vs=>ObE (biE P b ats ty cs vs H) k)
 | .mkf f xs=>esK G s xs (fun vs=>k (.fn f vs) H)
 | .eqs ng ks x y=>eK G s x (fun a=>eK G s y (fun b=>vEqs ng ks a b (fun r=>k r H)))
 | .slo kk x i=>eK G s x (fun a=>eK G s i (fun i=>vSlo kk H a i (fun r=>k r H)))
 | .cpy kk d x=>eK G s d (fun a=>eK G s x (fun b=>vCpy kk H a b k))
 | .call f xs=>esK G s xs (fun as_=>fzA H as_ (fun as' H1=>ObC P G f as' (fun r=>k r H1)))
 | .callh f xs=>esK G s xs (fun as_=>ObH P G f as_ H k)
 | .callm f xs=>esK G s xs (fun as_=>ObM P G f as_ H k)
 | .callv x xs=>eK G s x (fun fv=>esK G s xs (fun as_=>match fv with
  | .fn f cs=>ObN (zj P f=true) (ObU (as_++cs) (fun as'=>ObH P G f as' H k))
  | .bf f i g e off=>ObN (zj P f=true) (lK H i g (fun _ _ _ _=>ObH P G f (.oa i g e off::as_) H k))
  | .v v=>(match fnA (.v v) with|some (f,cs)=>ObN (zj P f=true) (ObU (as_++cs) (fun as'=>ObH P G f as' H k))|none=>False)
  | _=>False))
 | .calli nm x xs=>eK G s x (fun fv=>esK G s xs (fun as_=>match fv with
  | .io t i g e off=>lK H i g (fun _ _ _ _=>ObV P t nm (fun f=>ObH P G f (.oa i g e off::as_) H k))
  | .ib t fb i g e off=>lK H i g (fun _ _ _ _=>ObV P t nm (fun f=>ObH P G f (.bf fb i g e off::as_) H k))
  | _=>False))
 | .bad=>False
theorem zV {ev:AX->AV} {H:Hp} {op:AOp} {k:KK} (h:∃ r H',eff P ev H op=some (r,H')/\k r H'):yS P G ev H op k:=by
 obtain ⟨r,H',h1,h2⟩:=h
 exact xh h1 h2
theorem vop_ok {s:List AV} {H:Hp} {op:AOp} {k:KK} (h:vop P G s H op k):yS P G (AX.ev G s) H op k:=by
 cases op with
 | mv x=>simp only [vop,Zt] at h;exact xh rfl h
 | bin op t pt xo yo x y =>
  simp only [vop,Zt] at h
  refine zV P G ?_
  rcases vBin_ok P h with ⟨r,h1,h2⟩|⟨r,H',h1,h2⟩
  ·exact ⟨r,H,by simp only [eff,h1,Option.map_some],h2⟩
  ·exact ⟨r,H',h1,h2⟩
 | un op x =>
  simp only [vop,Zt] at h
  refine zV P G ?_
  rcases vUn_ok P h with ⟨r,h1,h2⟩|⟨r,H',h1,h2⟩
  ·exact ⟨r,H,by simp only [eff,h1,Option.map_some],h2⟩
  ·exact ⟨r,H',h1,h2⟩
 | cv sr d x =>
  simp only [vop,Zt] at h
  obtain ⟨r,H',h1,h2⟩:=h
  exact zV P G ⟨r,H',h1,h2⟩
 | pick c a b =>
  simp only [vop,Zt] at h
  refine zV P G ?_
  split at h
  ·rename_i v hv
   split at h
   ·rename_i b'
    refine ⟨_,_,by simp only [eff,hv];rfl,?_⟩
    obtain ⟨h1,h2⟩:=h
    cases b' with
    | true=>exact h1 rfl
    | false=>exact h2 rfl
   ·exact h.elim
  ·exact h.elim
 | ext x i =>
  simp only [vop,Zt] at h
  refine zV P G ?_
  split at h
  ·rename_i cs hv
   obtain ⟨a,h1,h2⟩:=nK_ok h
   exact ⟨a,H,by simp only [eff,hv,h1,Option.map_some],h2⟩
  ·exact h.elim
 | new e kk x =>
  simp only [vop,Zt] at h
  obtain ⟨hc,h⟩:=h
  simp only [Bool.and_eq_true,decide_eq_true_eq] at hc
  exact zV P G ⟨_,_,by simp only [eff,hc.1,hc.2,and_self,if_true],wF h⟩
 | bld z parts =>
  simp only [vop] at h
  obtain ⟨cs,h1,h2⟩:=bK_ok h
  exact zV P G ⟨_,_,by simp only [eff,h1,Option.map_some],h2⟩
 | bsl e kk xs =>
  simp only [vop,Yt] at h
  obtain ⟨hc,h⟩:=h
  have h:=wF (lnK_ok h)
  exact zV P G ⟨_,_,by simp only [eff];rw [if_pos hc],h⟩
 | load agg n x =>
  simp only [vop,Zt] at h
  obtain ⟨r,h1,h2⟩:=vLoad_ok h
  exact zV P G ⟨r,H,by simp only [eff,h1,Option.map_some],h2⟩
 | store n x v =>
  simp only [vop,Zt] at h
  obtain ⟨H',h1,h2⟩:=vStore_ok h
  exact zV P G ⟨_,H',by simp only [eff,h1,Option.map_some],h2⟩
 | nilc x =>
  simp only [vop,Zt] at h
  obtain ⟨r,h1,h2⟩:=vNilB_ok h
  exact zV P G ⟨r,H,by simp only [eff,h1,Option.map_some],h2⟩
 | fad off x =>
  simp only [vop,Zt] at h
  obtain ⟨r,h1,h2⟩:=vMove_ok h
  exact zV P G ⟨r,H,by simp only [eff,h1,Option.map_some],h2⟩
 | fld agg off n x =>
  simp only [vop,Zt] at h
  obtain ⟨r,h1,h2⟩:=vFld_ok h
  exact zV P G ⟨r,H,by simp only [eff,h1,Option.map_some],h2⟩
 | iad kk x i =>
  simp only [vop,Zt] at h
  obtain ⟨ix,r,h1,h2,h3⟩:=vElem_ok h
  exact zV P G ⟨r,H,by simp only [eff,h1,h2,Option.map_some],h3⟩
 | iaa len kk x i =>
  simp only [vop,Zt] at h
  refine zV P G ?_
  split at h
  ·rename_i v hv
   split at h
   ·obtain ⟨m, rfl, hm, h⟩ := h
    obtain ⟨r,h1,h2⟩:=vMove_ok h
    exact ⟨r,H,by simp [eff,hv,zR,hm,h1],h2⟩
   ·exact h.elim
  ·exact h.elim
 | idx t x i =>
  simp only [vop,Zt] at h
  refine zV P G ?_
  split at h
  ·rename_i v hv
   split at h
   ·split at h
    ·rename_i iv hi
     split at h
     ·obtain ⟨hu, m, rfl, hm, h⟩ := h
      refine ⟨_,H,?_,h⟩
      simp only [eff,hv,hi,ap2,zW]
      rw [iV_str hu (by omega) (by simpa using hm)]
      rfl
     ·exact h.elim
    ·exact h.elim
   ·exact h.elim
  ·exact h.elim
 | ixa agg len kk x i =>
  simp only [vop,Zt] at h
  refine zV P G ?_
  split at h
  ·rename_i v hv
   split at h
   ·obtain ⟨m, rfl, hm, h⟩ := h
    obtain ⟨r,h1,h2⟩:=vFld_ok h
    exact ⟨r,H,by simp [eff,hv,zR,hm,h1],h2⟩
   ·exact h.elim
  ·exact h.elim
 | sls t x lo hi =>
  simp only [vop,Zt,eoK_eq] at h
  refine zV P G ?_
  split at h
  ·rename_i v hv
   split at h
   ·rename_i str
    obtain ⟨n1,h,e1⟩:=biK_ok h
    obtain ⟨n2,h,e2⟩:=biK_ok h
    obtain ⟨hu,i,j,h1,h2,h3,h4,s',rfl,h⟩:=h
    refine ⟨_,H,?_,h⟩
    have hi2:∀ k1 k2,zh P (Instr.sliceAt t (.string str) (n1.map (.int k1)) (n2.map (.int k2)) none)=some (.string (str.extract i j)):=fun k1 k2=>by
     have:=sV_str (P:=P) (a:=str) hu (lo:=n1) (hi:=n2) (k1:=k1) (k2:=k2) (by omega) (by omega) (by omega)
     rw [this,h1,h2];simp
    rcases e1 with ⟨e1,rfl⟩|⟨kd1,m1,e1,rfl⟩<;>rcases e2 with ⟨e2,rfl⟩|⟨kd2,m2,e2,rfl⟩<;>simp only [eff,hv,e1,e2,Option.map_none,Option.map_some,zW,Option.bind_none,Option.bind_some,id]
    ·have:=hi2 .i64 .i64;simp only [Option.map_none] at this;rw [this];rfl
    ·have:=hi2 .i64 kd2;simp only [Option.map_none,Option.map_some] at this;rw [this];rfl
    ·have:=hi2 kd1 .i64;simp only [Option.map_none,Option.map_some] at this;rw [this];rfl
    ·have:=hi2 kd1 kd2;simp only [Option.map_some] at this;rw [this];rfl
   ·exact h.elim
  ·exact h.elim
 | slc kk x lo hi =>
  simp only [vop,Zt,eoK_eq] at h
  obtain ⟨n1,h,e1⟩:=biK_ok h
  obtain ⟨n2,h,e2⟩:=biK_ok h
  obtain ⟨r,H',h1,h2⟩:=vSlc_ok h
  refine zV P G ⟨r,H',?_,h2⟩
  rcases e1 with ⟨e1,rfl⟩|⟨kd1,m1,e1,rfl⟩<;>rcases e2 with ⟨e2,rfl⟩|⟨kd2,m2,e2,rfl⟩<;>simp only [eff,e1,e2,Option.map_none,Option.map_some,zR,Option.bind_none,Option.bind_some,id]<;>exact h1
 | mks e kk bytes z len cap =>
  simp only [vop,Zt] at h
  refine zV P G ?_
  split at h
  ·rename_i lv hl
   split at h
   ·split at h
    ·rename_i cv hc
     split at h
     ·obtain ⟨hn, m, rfl, es, rfl, h⟩ := h
      have h:=wF h
      refine ⟨_,_,?_,h⟩
      simp only [eff,hl,hc,zR,ZQ,hn,and_self,if_true]
     ·exact h.elim
    ·exact h.elim
   ·exact h.elim
  ·exact h.elim
 | app e kk bytes x y =>
  simp only [vop,Zt] at h
  exact zV P G (vApp_ok h)
 | apf e kk bytes x y =>
  simp only [vop,Zt] at h
  exact zV P G (vApp_ok h)
 | apz e kk bytes z x n =>
  obtain ⟨r,H',h1,h2⟩:=h
  exact zV P G ⟨r,H',h1,h2⟩
 | lns x =>
  simp only [vop,Zt] at h
  refine zV P G ?_
  split at h
  ·rename_i v hv
   split at h
   ·obtain ⟨m, rfl, h⟩ := h
    exact ⟨_,H,by simp only [eff,hv],h⟩
   ·exact h.elim
  ·exact h.elim
 | len x =>
  simp only [vop,Zt] at h
  refine zV P G ?_
  split at h
  ·rename_i hv;exact ⟨_,H,by simp only [eff,hv,Zp],h⟩
  ·rename_i hv;exact ⟨_,H,by simp only [eff,hv,Zp],h⟩
  ·rename_i hv;obtain ⟨m,rfl,h⟩:=h;exact ⟨_,H,by simp only [eff,hv,Zp],h⟩
  ·rename_i hv;exact ⟨_,H,by simp only [eff,hv,Zp],h⟩
  ·rename_i hv;exact ⟨_,H,by simp only [eff,hv,Zp],h⟩
  ·exact h.elim
 | bi b ats ty cs xs =>
  simp only [vop,Yt] at h
  obtain ⟨r,H',h1,h2⟩:=h
  exact zV P G ⟨r,H',h1,h2⟩
 | mkf f xs=>simp only [vop,Yt] at h;exact xh rfl h
 | eqs ng ks x y =>
  simp only [vop,Zt] at h
  obtain ⟨r,h1,h2⟩:=vEqs_ok h
  exact zV P G ⟨r,H,by simp only [eff,h1,Option.map_some],h2⟩
 | slo kk x i =>
  simp only [vop,Zt] at h
  obtain ⟨ix,r,h1,h2,h3⟩:=vSlo_ok h
  exact zV P G ⟨r,H,by simp only [eff,h1,h2,Option.map_some],h3⟩
 | cpy kk d x =>
  simp only [vop,Zt] at h
  exact zV P G (vCpy_ok h)
 | call f xs =>
  simp only [vop,Yt] at h
  obtain ⟨as_,H1,h1,r,h2,h3⟩:=WL h
  exact ⟨as_,H1,r,h1,h2,h3⟩
 | callh f xs =>
  simp only [vop,Yt] at h
  obtain ⟨r,H',h1,h2⟩:=h
  exact ⟨r,H',h1,h2⟩
 | callm f xs =>
  simp only [vop,Yt] at h
  obtain ⟨r,Bs,h1,h2⟩:=h
  exact ⟨r,Bs,h1,h2⟩
 | callv x xs =>
  simp only [vop,Zt,Yt] at h
  split at h
  ·rename_i f cs hv
   obtain ⟨hb,as',rfl,r,H',h1,h2⟩:=h
   exact ⟨f,_,r,H',by rw [hv];rfl,hb,h1,h2⟩
  ·rename_i f i g e off hv
   obtain ⟨hb,h⟩:=h
   obtain ⟨o,hl,_,⟨r,H',h1,h2⟩,_⟩:=Z4 h
   exact ⟨f,_,r,H',by rw [hv];simp only [cvA,hl],hb,h1,h2⟩
  ·rename_i v hv
   split at h
   ·rename_i f cs hf
    obtain ⟨hb,as',rfl,r,H',h1,h2⟩:=h
    exact ⟨f,_,r,H',by rw [hv];exact cvA_of hf,hb,h1,h2⟩
   ·exact h.elim
  ·exact h.elim
 | mkb f x =>
  simp only [vop,Zt] at h
  split at h
  ·rename_i i g e off hv
   exact zV P G ⟨_,H,by simp only [eff,hv];rfl,h⟩
  ·exact h.elim
 | mkm2 nm x =>
  simp only [vop,Zt] at h
  split at h
  ·rename_i t i g e off hv
   exact zV P G ⟨_,H,by simp only [eff,hv];rfl,h⟩
  ·exact h.elim
 | clr kk z x =>
  simp only [vop] at h
  obtain ⟨r,H',h1,h2⟩:=h
  exact zV P G ⟨r,H',h1,h2⟩
 | aps e by_ a x =>
  simp only [vop] at h
  obtain ⟨r,H',h1,h2⟩:=h
  exact zV P G ⟨r,H',h1,h2⟩
 | sob x =>
  simp only [vop] at h
  obtain ⟨r,H',h1,h2⟩:=h
  exact zV P G ⟨r,H',h1,h2⟩
 | sla n x lo hi =>
  simp only [vop] at h
  obtain ⟨r,H',h1,h2⟩:=h
  exact zV P G ⟨r,H',h1,h2⟩
 | usd x =>
  simp only [vop] at h
  obtain ⟨r,H',h1,h2⟩:=h
  exact zV P G ⟨r,H',h1,h2⟩
 | ust e x n =>
  simp only [vop] at h
  obtain ⟨r,H',h1,h2⟩:=h
  exact zV P G ⟨r,H',h1,h2⟩
 | cup x =>
  simp only [vop] at h
  obtain ⟨r,H',h1,h2⟩:=h
  exact zV P G ⟨r,H',h1,h2⟩
 | cpu u x =>
  simp only [vop] at h
  obtain ⟨r,H',h1,h2⟩:=h
  exact zV P G ⟨r,H',h1,h2⟩
 | rgm x =>
  simp only [vop] at h
  obtain ⟨r,H',h1,h2⟩:=h
  exact zV P G ⟨r,H',h1,h2⟩
 | nxm x =>
  simp only [vop] at h
  obtain ⟨r,H',h1,h2⟩:=h
  exact zV P G ⟨r,H',h1,h2⟩
 | enm x =>
  simp only [vop] at h
  obtain ⟨r,H',h1,h2⟩:=h
  exact zV P G ⟨r,H',h1,h2⟩
 | mdl kd x i =>
  simp only [vop] at h
  obtain ⟨r,H',h1,h2⟩:=h
  exact zV P G ⟨r,H',h1,h2⟩
 | mkm ag m =>
  simp only [vop] at h
  exact zV P G ⟨_,_,rfl,wF h⟩
 | lkp kd c z x i =>
  simp only [vop,Zt] at h
  obtain ⟨r,h1,h2⟩:=vLkp_ok h
  exact zV P G ⟨r,H,by simp only [eff,h1,Option.map_some],h2⟩
 | mup kd x i v =>
  simp only [vop,Zt] at h
  obtain ⟨H',h1,h2⟩:=vMup_ok h
  exact zV P G ⟨_,H',by simp only [eff,h1,Option.map_some],h2⟩
 | lnm x =>
  simp only [vop,Zt] at h
  obtain ⟨n,h1,h2⟩:=vLnm_ok h
  exact zV P G ⟨_,H,by simp only [eff,h1],h2⟩
 | mki t x =>
  simp only [vop,Zt] at h
  obtain ⟨r,h1,h2⟩:=vMki_ok h
  exact zV P G ⟨r,H,by simp only [eff,h1,Option.map_some],h2⟩
 | calli nm x xs =>
  simp only [vop,Zt,Yt] at h
  split at h
  ·rename_i t i g e off hv
   obtain ⟨ob,hl,_,⟨f,hm,r,H',h1,h2⟩,_⟩:=Z4 h
   exact ⟨t,_,f,r,H',by rw [hv];simp only [XD,hl],hm,h1,h2⟩
  ·rename_i t fb i g e off hv
   obtain ⟨ob,hl,_,⟨f,hm,r,H',h1,h2⟩,_⟩:=Z4 h
   exact ⟨t,_,f,r,H',by rw [hv];simp only [XD,hl],hm,h1,h2⟩
  ·exact h.elim
 | bad=>exact h.elim
end
def newB (o:AI):Bool:=o.op.cls == 3 || o.op.cls == 5
def noNew (as_:List AI):Bool:=as_.all fun o=>!newB o
section
variable (P:Program) (G:Nat->AV)
def AWe:List AI->(St->Prop)->St->Prop
 | [],k,st=>k st
 | o::os,k,st=>chk G st.H.length o st/\AWi P G o st (AWe os k)
def Chain2:List AI->St->St->Prop
 | [],st,st'=>st=st'
 | o::os,st,st'=>∃ s1,chk G st.H.length o st/\Stp P G o st s1/\Chain2 os s1 st'
end
section
variable {P:Program} {G:Nat->AV}
theorem AWe_chain {k:St->Prop}:∀ {os:List AI} {st:St},AWe P G os k st->∃ st',Chain2 P G os st st'/\k st'
 | [],st,h=>⟨st,rfl,h⟩
 | o::os,st,⟨hc,h⟩=>by
  obtain ⟨s1,h1,h2⟩:=AWi_iff.1 h
  obtain ⟨st',h3,h4⟩:=AWe_chain h2
  exact ⟨st',⟨s1,hc,h1,h3⟩,h4⟩
theorem Chain2.run {k:St->Prop}:∀ {os:List AI} {st st':St},Chain2 P G os st st'->k st'->AWs P G os k st
 | [],st,st',h,hk=>by cases h;exact hk
 | o::os,st,st',⟨s1,_,h1,h2⟩,hk=>AWi_iff.2 ⟨s1,h1,Chain2.run h2 hk⟩
theorem put_H {st:St} {d:Option Nat} {r:AV} {H:Hp}:(st.put d r H).H=H:=by cases d<;>rfl
theorem stp_len {o:AI} {st s1:St} (hc:o.op.cls<=2) (c:chk G st.H.length o st) (h:Stp P G o st s1):s1.H.length=st.H.length:=by
 have key:∀ {r:AV} {H':Hp},Eff P G (AX.ev G st.s) st.H o.op r H'->H'.length=st.H.length:=fun {r H'} he=>by
  by_cases h0:o.op.cls=0
  ·rw [(cls0 h0 he).1]
  ·obtain ⟨c1, c2, _⟩ := c.resolve_left h0
   obtain ⟨L,Bs,e,_,n,_⟩:=mono (by omega) c1 c2 he
   obtain rfl:=n (by omega)
   rw [e,List.append_nil,ym]
 unfold Stp at h
 split at h
 ·obtain ⟨r, H', h1, rfl⟩ := h
  rw [put_H];exact key h1
 ·rcases h with ⟨_, r, H', h1, rfl⟩ | ⟨b, _, _, rfl⟩
  ·rw [put_H];exact key h1
  ·rw [put_H]
theorem Stp_swap2 {x y : AI} {st s1 s2 : St} (nx : newB x = false) (ny : newB y = false) (hf : yU x y = true) (cx : chk G st.H.length x st) (h1 : Stp P G x st s1) (cy : chk G s1.H.length y s1) (h2 : Stp P G y s1 s2) :
  ∃ s3,chk G st.H.length y st/\Stp P G y st s3/\chk G s3.H.length x s3/\Stp P G x s3 s2:=by
 simp only [newB,Bool.or_eq_false_iff,beq_eq_false_iff_ne] at nx ny
 have hcl:x.op.cls<=2\/y.op.cls=0:=by
  have hf2:=hf
  simp only [yU,Bool.and_eq_true,Bool.or_eq_true,beq_iff_eq,decide_eq_true_eq,Bool.not_eq_true'] at hf2
  rcases hf2.2 with ((h|h)|⟨⟨h,_⟩,_⟩)|⟨h,_⟩|⟨h,_⟩<;>omega
 have hcl2:y.op.cls<=2\/x.op.cls=0:=by
  have hf2:=hf
  simp only [yU,Bool.and_eq_true,Bool.or_eq_true,beq_iff_eq,decide_eq_true_eq,Bool.not_eq_true'] at hf2
  rcases hf2.2 with ((h|h)|⟨⟨_,h⟩,_⟩)|⟨h,_⟩|⟨h,_⟩<;>omega
 have cy':chk G st.H.length y s1:=by
  rcases hcl with h|h
  ·rw [stp_len h cx h1] at cy;exact cy
  ·exact .inl h
 obtain ⟨s3,q1,q2,q3,q4⟩:=Stp_swap hf cx h1 cy' h2
 refine ⟨s3,q1,q2,?_,q4⟩
 rcases hcl2 with h|h
 ·rw [stp_len h q1 q2];exact q3
 ·exact .inl h
theorem Chain2.bubble {o:AI} {L2:List AI} (no:newB o=false):∀ {L1:List AI} {st st':St},(∀ x ∈ L1,newB x=false)->(∀ x ∈ L1,yU x o=true)->Chain2 P G (L1++o::L2) st st'->Chain2 P G (o::(L1++L2)) st st'
 | [],st,st',_,_,h=>h
 | x::L1,st,st',hn,hf,⟨s1,hc,hs,h⟩=>by
  obtain ⟨s2,hc2,hs2,h2⟩:=Chain2.bubble no (fun y hy=>hn y (by simp [hy])) (fun y hy=>hf y (by simp [hy])) h
  obtain ⟨s3,c1,c2,c3,c4⟩:=Stp_swap2 (hn x (by simp)) no (hf x (by simp)) hc hs hc2 hs2
  exact ⟨s3,c1,c2,s2,c3,c4,h2⟩
theorem Chain2.perm {f:Nat->AI}:∀ (L R:List Nat),(∀ i ∈ L,newB (f i)=false)->R.Perm L->(∀ x i,List.Sublist [x,i] R->List.Sublist [i,x] L->yU (f x) (f i)=true)->∀ {st st':St},Chain2 P G (R.map f) st st'->Chain2 P G (L.map f) st st'
 | [],R,_,hp,_,st,st',h=>by
  rw [hp.eq_nil] at h
  exact h
 | l::L,R,hn,hp,hf,st,st',h=>by
  obtain ⟨R1,R2,rfl⟩:=List.append_of_mem (hp.mem_iff.2 (List.mem_cons_self))
  have hp2:(R1++R2).Perm L:=(List.perm_middle.symm.trans hp).cons_inv
  rw [List.map_append,List.map_cons] at h
  obtain ⟨s1,c1,c2,c3⟩:=Chain2.bubble (hn l (by simp)) (fun y hy=>by
   obtain ⟨x,hx,rfl⟩:=List.mem_map.1 hy
   exact hn x (List.mem_cons_of_mem _ (hp2.mem_iff.1 (List.mem_append_left _ hx)))) (fun y hy=>by
   obtain ⟨x,hx,rfl⟩:=List.mem_map.1 hy
   refine hf x l ?_ ?_
   ·exact List.Sublist.append (l₁:=[x]) (r₁:=[l]) (List.singleton_sublist.2 hx) (List.Sublist.cons_cons _ (List.nil_sublist _))
   ·exact List.Sublist.cons_cons _ (List.singleton_sublist.2 (hp2.mem_iff.1 (List.mem_append_left _ hx)))) h
  rw [<- List.map_append] at c3
  refine ⟨s1,c1,c2,Chain2.perm L (R1++R2) (fun i hi=>hn i (List.mem_cons_of_mem _ hi)) hp2 (fun x i h1 h2=>hf x i (h1.trans ?_) (h2.cons l)) c3⟩
  exact List.Sublist.append (List.Sublist.refl _) (List.sublist_cons_self _ _)
theorem drawx_orders2 {ops : Array Oper} {as_ : List AI} (hl : ops.toList.length = as_.length) (hd : xf P ops as_ = true) {k : St -> Prop} {st : St} (hn : ∀ R ∈ yl ops as_, noNew R = true) (h : ∀ R ∈ yl ops as_, AWe P G R k st) (t : Nat) :
  ∃ bs:List AI,bs.length=(Region.schedule (P.follows .mixedOrders) ops t).length/\(∀ (j i:Nat) (ai:AI),(Region.schedule (P.follows .mixedOrders) ops t)[j]? = some i->bs[j]? = some ai->as_[i]? = some ai)/\AWs P G bs k st:=by
 simp only [xf,Bool.and_eq_true] at hd
 obtain ⟨⟨⟨⟨_,hdep⟩,d2⟩,d3⟩,d5⟩:=hd
 have hs:Region.schedule (P.follows .mixedOrders) ops t=Region.linearise .any ops t:=by
  unfold Region.schedule
  rw [if_pos hdep]
 rw [hs]
 simp only [List.all_eq_true,decide_eq_true_eq,List.mem_range] at d2 d3 d5
 have psat:∀ i o,ops[i]? = some o->(ops.toList.map ZF).getD i []=ZF o:=fun i o ho=>by
  have:ops.toList[i]? = some o:=by simpa using ho
  simp [List.getD_eq_getElem?_getD,this]
 have plt:∀ i o,ops[i]? = some o->∀ p ∈ ZF o,p < i:=fun i o ho p hp=>by
  have hi:ops.toList[i]? = some o:=by simpa using ho
  have:=d2 (ZF o,i) (by
   rw [List.mem_zipIdx_iff_getElem?]
   simp [hi])
  exact this p hp
 have hfull:((List.range ops.size).filter fun i=>!(Array.replicate ops.size false).getD i true)=List.range ops.size:=by
  rw [List.filter_eq_self]
  intro i hi
  have:=List.mem_range.1 hi
  simp [Array.getD_eq_getD_getElem?,this]
 obtain ⟨L,hL⟩:∃ L,L=Region.linearise.go .any ops ops.size t (Array.replicate ops.size false) []:=⟨_,rfl⟩
 have hlin:Region.linearise .any ops t=L:=hL.symm
 rw [hlin]
 obtain ⟨g1,g2⟩:=lin_perm (ops:=ops) plt ops.size t (Array.replicate ops.size false) (by simp) (fun i hi hli=>by simp [Array.getD_eq_getD_getElem?,hi] at hli) (by rw [hfull];simp)
 rw [<- hL,hfull] at g1
 rw [<- hL] at g2
 have hnd:L.Nodup:=g1.nodup_iff.2 List.nodup_range
 have hpre:∀ i ∈ L,∀ o,ops[i]? = some o->∀ p ∈ ZF o,List.Sublist [p,i] L:=fun i hi o ho p hp=>by
  rcases g2 i hi o ho p hp with h|h
  ·exfalso
   by_cases hq:p < ops.size<;>simp [Array.getD_eq_getD_getElem?,hq] at h
  ·exact h
 have far:∀ i,i ∈ L->∀ x ∈ (YD ops).getD i [],List.Sublist [x,i] L:=by
  intro i
  induction i using Nat.strongRecOn with
  | _ i ihi =>
   intro hiL x hx
   have hi:i < ops.size:=List.mem_range.1 (g1.mem_iff.1 hiL)
   have ho:ops[i]? = some ops[i]:=Array.getElem?_eq_getElem hi
   have h3:=d3 i hi x hx
   rw [psat i _ ho] at h3
   rcases Bool.or_eq_true_iff.1 h3 with h3|h3
   ·exact hpre i hiL _ ho x (by simpa using h3)
   ·obtain ⟨p, hp, hpx⟩ := List.any_eq_true.1 h3
    have hpi:=hpre i hiL _ ho p hp
    exact xX hnd (ihi p (plt i _ ho p hp) (hpi.subset (by simp)) x (by simpa using hpx)) hpi
 -- how the schedule has the hard ones
 obtain ⟨s,hsdef⟩:∃ s,s=L.filter fun i=>(ye ops as_ (YD ops)).contains i:=⟨_,rfl⟩
 have hsub:List.Sublist s L:=by rw [hsdef];exact List.filter_sublist
 have hsp:s.Perm (ye ops as_ (YD ops)):=by
  have h1:=g1.filter (fun i=>(ye ops as_ (YD ops)).contains i)
  rw [<- hsdef] at h1
  refine h1.trans (.of_eq ?_)
  unfold ye
  apply List.filter_congr
  intro i hi
  rw [Bool.eq_iff_iff]
  simp only [List.contains_iff_mem,List.mem_filter]
  exact ⟨fun h=>h.2,fun h=>⟨hi,h⟩⟩
 have hsS:s ∈ theS ops as_:=by
  unfold theS
  refine List.mem_filter.2 ⟨Xl _ _ _ (Nat.le_refl _) hsp,?_⟩
  rw [Bool.not_eq_true']
  cases hq:badPerm (YD ops) s with
  | false=>rfl
  | true =>
   exfalso
   obtain ⟨⟨x,i⟩,h1,h2⟩:=List.any_eq_true.1 hq
   have hxi:List.Sublist [x,i] L:=(mem_pairs.1 h1).trans hsub
   exact Ya hnd hxi (far x (hxi.subset (by simp)) i (by simpa using h2))
 have hgood:=d5 s hsS
 simp only [WK,Bool.and_eq_true,List.all_eq_true] at hgood
 obtain ⟨hRp,hRf⟩:=hgood
 have hRmem:(topo ops.size (YD ops) s ops.size []).map (XF as_) ∈ yl ops as_ :=
  List.mem_map.2 ⟨_,YV (List.mem_map.2 ⟨s,hsS,rfl⟩),rfl⟩
 obtain ⟨s1,hch,hk⟩:=AWe_chain (h _ hRmem)
 have hfin:=Chain2.perm (P:=P) (G:=G) (f:=XF as_) L _ (fun i hi=>by have h9:=List.all_eq_true.1 (hn _ hRmem) (XF as_ i) (List.mem_map.2 ⟨i,((List.isPerm_iff.1 hRp).trans g1.symm).mem_iff.2 hi,rfl⟩);simpa using h9) ((List.isPerm_iff.1 hRp).trans g1.symm) (fun x i hx hi=>by
  have h1:=hRf (x,i) (mem_pairs.2 hx)
  simp only [Bool.or_eq_true] at h1
  rcases h1 with (h1|h1)|h1
  ·exact absurd hi (Ya hnd (far i (hi.subset (by simp)) x (by simpa using h1)))
  ·exact absurd hi (Ya hnd ((mem_pairs.1 (by simpa using h1)).trans hsub))
  ·split at h1
   ·rename_i a b ha hb
    simpa [XF,List.getD_eq_getElem?_getD,ha,hb] using h1
   ·cases h1) hch
 refine ⟨L.map (XF as_),by simp,fun j i ai hj ha=>?_,Chain2.run hfin hk⟩
 rw [List.getElem?_map,hj] at ha
 simp only [Option.map_some,Option.some.injEq] at ha
 have hio:i < ops.size:=List.mem_range.1 (g1.mem_iff.1 (List.mem_of_getElem? hj))
 have hia:i < as_.length:=by rw [<- hl];simpa using hio
 rw [XF,List.getD_eq_getElem?_getD,List.getElem?_eq_getElem hia] at ha
 rw [List.getElem?_eq_getElem hia,<- ha]
 rfl
end
abbrev Tb:=List (Nat × Nat × Nat)
def rnC (T:Tb):AV->Option AV
 | .ol j g' n=>(match T[j]? with|some (g2,i,g)=>if g'=g2 then some (.ol i g n) else none|none=>none)
 | .oa j g' e off=>(match T[j]? with|some (g2,i,g)=>if g'=g2 then some (.oa i g e off) else none|none=>none)
 | .mp j g'=>(match T[j]? with|some (g2,i,g)=>if g'=g2 then some (.mp i g) else none|none=>none)
 | .io t j g' e off=>(match T[j]? with|some (g2,i,g)=>if g'=g2 then some (.io t i g e off) else none|none=>none)
 | .oc j g' n c=>(match T[j]? with|some (g2,i,g)=>if g'=g2 then some (.oc i g n c) else none|none=>none)
 | .mf nm t j g' e off=>(match T[j]? with|some (g2,i,g)=>if g'=g2 then some (.mf nm t i g e off) else none|none=>none)
 | .bf f j g' e off=>(match T[j]? with|some (g2,i,g)=>if g'=g2 then some (.bf f i g e off) else none|none=>none)
 | .ib t f j g' e off=>(match T[j]? with|some (g2,i,g)=>if g'=g2 then some (.ib t f i g e off) else none|none=>none)
 | .agg _|.tup _|.fn _ _|.os ..=>none
 | a=>some a
def rnL (T:Tb):List AV->Option (List AV)
 | []=>some []
 | a::as_=>(match rnC T a,rnL T as_ with|some b,some bs=>some (b::bs)|_,_=>none)
def rnA (T:Tb):AV->Option AV
 | .agg cs=>(match rnL T cs with|some cs'=>some (.agg cs')|none=>none)
 | a=>rnC T a
def rnT (T:Tb):List AV->Option (List AV)
 | []=>some []
 | a::as_=>(match rnA T a,rnT T as_ with|some b,some bs=>some (b::bs)|_,_=>none)
def rnB (T:Tb):AV->Option AV
 | .agg cs=>(match rnL T cs with|some cs'=>some (.agg cs')|none=>none)
 | .tup cs=>(match rnT T cs with|some cs'=>some (.tup cs')|none=>none)
 | .fn f cs=>(match rnL T cs with|some cs'=>some (.fn f cs')|none=>none)
 | a=>rnC T a
def TO (T:Tb) (O O2:Ow):Prop:=∀ (j g2 i g:Nat),T[j]? = some (g2,i,g)->∃ d,O[i]? = some d/\d.g=g/\O2[j]? = some ⟨d.b,d.C,g2,d.k⟩
theorem VR.rnC {F:Fz} {O O2:Ow} {T:Tb} (hT:TO T O O2) {x:Value} {a b:AV} (h:VR F O x a) (hb:rnC T b=some a):VR F O2 x b:=by
 have pl:∀ {c:AV},VR F O x c->c.isC0=true->VR F O2 x c:=fun h hc=>.p (h.pvC0 hc)
 cases b with
 | v y=>simp only [Sim.rnC,Option.some.injEq] at hb;subst hb;exact pl h rfl
 | sl k es=>simp only [Sim.rnC,Option.some.injEq] at hb;subst hb;exact pl h rfl
 | ad k es i off=>simp only [Sim.rnC,Option.some.injEq] at hb;subst hb;exact pl h rfl
 | nl k =>
  simp only [Sim.rnC,Option.some.injEq] at hb;subst hb
  cases h with
  | p h=>exact .p h
  | nl k=>exact .nl k
 | em q k =>
  simp only [Sim.rnC,Option.some.injEq] at hb;subst hb
  cases h with
  | p h=>exact .p h
  | em A c q k hb hm=>exact .em A c q k hb hm
 | unk=>exact .unk x
 | agg cs=>cases hb
 | tup cs=>cases hb
 | fn f cs=>cases hb
 | os i g lo n=>cases hb
 | ol j g' n =>
  simp only [Sim.rnC] at hb
  split at hb
  ·rename_i g2 i g ht
   split at hb
   ·rename_i e
    subst e
    cases hb
    obtain ⟨d,h1,h2,h3⟩:=hT j g' i g ht
    cases h with
    | p h=>cases h
    | ol x i g m d' hd hg h1' hh =>
     rw [h1] at hd
     cases hd
     exact .ol x j g' n _ h3 (Nat.le_refl _) h1' fun _=>hh h2.symm
   ·cases hb
  ·cases hb
 | oa j g' e off =>
  simp only [Sim.rnC] at hb
  split at hb
  ·rename_i g2 i g ht
   split at hb
   ·rename_i e'
    subst e'
    cases hb
    obtain ⟨d,h1,h2,h3⟩:=hT j g' i g ht
    cases h with
    | p h=>cases h
    | oa x i g e off d' hd hg h1' hh =>
     rw [h1] at hd
     cases hd
     exact .oa x j g' e off _ h3 (Nat.le_refl _) h1' fun _=>hh h2.symm
   ·cases hb
  ·cases hb
 | oc j g' n c =>
  simp only [Sim.rnC] at hb
  split at hb
  ·rename_i g2 i g ht
   split at hb
   ·rename_i e'
    subst e'
    cases hb
    obtain ⟨d,h1,h2,h3⟩:=hT j g' i g ht
    cases h with
    | p h=>cases h
    | oc x i g n c d' hd hg h1' hh =>
     rw [h1] at hd
     cases hd
     exact .oc x j g' n c _ h3 (Nat.le_refl _) h1' fun _=>hh h2.symm
   ·cases hb
  ·cases hb
 | mf nm t j g' e off =>
  simp only [Sim.rnC] at hb
  split at hb
  ·rename_i g2 i g ht
   split at hb
   ·rename_i e'
    subst e'
    cases hb
    obtain ⟨d,h1,h2,h3⟩:=hT j g' i g ht
    cases h with
    | p h=>cases h
    | mf x nm t i g e off d' hd hg h1' hh =>
     rw [h1] at hd
     cases hd
     exact .mf x nm t j g' e off _ h3 (Nat.le_refl _) h1' fun _=>hh h2.symm
   ·cases hb
  ·cases hb
 | bf f j g' e off =>
  simp only [Sim.rnC] at hb
  split at hb
  ·rename_i g2 i g ht
   split at hb
   ·rename_i e'
    subst e'
    cases hb
    obtain ⟨d,h1,h2,h3⟩:=hT j g' i g ht
    cases h with
    | p h=>cases h
    | bf x f i g e off d' hd hg h1' hh =>
     rw [h1] at hd
     cases hd
     exact .bf x f j g' e off _ h3 (Nat.le_refl _) h1' fun _=>hh h2.symm
   ·cases hb
  ·cases hb
 | ib t f j g' e off =>
  simp only [Sim.rnC] at hb
  split at hb
  ·rename_i g2 i g ht
   split at hb
   ·rename_i e'
    subst e'
    cases hb
    obtain ⟨d,h1,h2,h3⟩:=hT j g' i g ht
    cases h with
    | p h=>cases h
    | ib x t f i g e off d' hd hg h1' hh =>
     rw [h1] at hd
     cases hd
     exact .ib x t f j g' e off _ h3 (Nat.le_refl _) h1' fun _=>hh h2.symm
   ·cases hb
  ·cases hb
 | mp j g' =>
  simp only [Sim.rnC] at hb
  split at hb
  ·rename_i g2 i g ht
   split at hb
   ·rename_i e'
    subst e'
    cases hb
    obtain ⟨d,h1,h2,h3⟩:=hT j g' i g ht
    cases h with
    | p h=>cases h
    | mp x i g d' hd hg h1' hh =>
     rw [h1] at hd
     cases hd
     exact .mp x j g' _ h3 (Nat.le_refl _) h1' fun _=>hh h2.symm
   ·cases hb
  ·cases hb
 | io t j g' e off =>
  simp only [Sim.rnC] at hb
  split at hb
  ·rename_i g2 i g ht
   split at hb
   ·rename_i e'
    subst e'
    cases hb
    obtain ⟨d,h1,h2,h3⟩:=hT j g' i g ht
    cases h with
    | p h=>cases h
    | io x t i g e off d' hd hg h1' hh =>
     rw [h1] at hd
     cases hd
     exact .io x t j g' e off _ h3 (Nat.le_refl _) h1' fun _=>hh h2.symm
   ·cases hb
  ·cases hb
theorem Yn {T:Tb}:∀ {bs as_:List AV},rnL T bs=some as_->bs.length=as_.length/\∀ (i:Nat) (b:AV),bs[i]? = some b->∃ a,as_[i]? = some a/\rnC T b=some a
 | [],as_,h=>by cases h;exact ⟨rfl,fun i b hb=>by simp at hb⟩
 | b::bs,as_,h=>by
  simp only [rnL] at h
  split at h
  ·rename_i a as' h1 h2
   cases h
   obtain ⟨l,r⟩:=Yn h2
   refine ⟨by simp [l],fun i c hc=>?_⟩
   cases i with
   | zero=>simp at hc;subst hc;exact ⟨a,rfl,h1⟩
   | succ i=>obtain ⟨a,q1,q2⟩:=r i c (by simpa using hc);exact ⟨a,by simpa using q1,q2⟩
  ·cases h
theorem Wu {T:Tb}:∀ {bs as_:List AV},rnT T bs=some as_->bs.length=as_.length/\∀ (i:Nat) (b:AV),bs[i]? = some b->∃ a,as_[i]? = some a/\rnA T b=some a
 | [],as_,h=>by cases h;exact ⟨rfl,fun i b hb=>by simp at hb⟩
 | b::bs,as_,h=>by
  simp only [rnT] at h
  split at h
  ·rename_i a as' h1 h2
   cases h
   obtain ⟨l,r⟩:=Wu h2
   refine ⟨by simp [l],fun i c hc=>?_⟩
   cases i with
   | zero=>simp at hc;subst hc;exact ⟨a,rfl,h1⟩
   | succ i=>obtain ⟨a,q1,q2⟩:=r i c (by simpa using hc);exact ⟨a,by simpa using q1,q2⟩
  ·cases h
theorem rnT_rnL {T:Tb}:∀ {bs as_:List AV},rnL T bs=some as_->rnT T bs=some as_
 | [],as_,h=>h
 | b::bs,as_,h=>by
  simp only [rnL] at h
  split at h
  ·rename_i a as' h1 h2
   cases h
   have h3:=rnT_rnL h2
   have h4:rnA T b=some a:=by
    cases b with
    | agg=>simp [Sim.rnC] at h1
    | _=>exact h1
   simp [rnT,h3,h4]
  ·cases h
theorem VR.rnA {F:Fz} {O O2:Ow} {T:Tb} (hT:TO T O O2) {x:Value} {a b:AV} (h:VR F O x a) (hb:rnA T b=some a):VR F O2 x b:=by
 have cells:∀ {cs bs:List AV} {ys:List Value},rnL T bs=some cs->(∀ (i:Nat) (c:Value) (a:AV),ys[i]? = some c->cs[i]? = some a->VR F O c a)->∀ (i:Nat) (c:Value) (b:AV),ys[i]? = some c->bs[i]? = some b->VR F O2 c b:=fun hl hv i c b hc hb=>by
  obtain ⟨a,h1,h2⟩:=(Yn hl).2 i b hb
  exact (hv i c a hc h1).rnC hT h2
 have one:∀ {cs bs:List AV},rnL T bs=some cs->(∀ a ∈ cs,AV.one a=true)->∀ b ∈ bs,AV.one b=true:=fun {cs bs} hl ho b hb=>by
  obtain ⟨i,hi,rfl⟩:=List.getElem_of_mem hb
  obtain ⟨a,h1,h2⟩:=(Yn hl).2 i bs[i] (List.getElem?_eq_getElem hi)
  have ha:=ho a (List.mem_of_getElem? h1)
  cases hq:bs[i] with
  | agg cs=>rw [hq] at h2;cases h2
  | tup cs=>rw [hq] at h2;cases h2
  | unk=>rw [hq] at h2;cases h2;cases ha
  | _=>rfl
 cases b with
 | agg bs =>
  simp only [Sim.rnA] at hb
  split at hb
  ·rename_i cs hl
   cases hb
   cases h with
   | p h =>
    cases h with
    | agg ys cs hl' h1 h=>exact .agg ys bs (by rw [hl',(Yn hl).1]) (one hl h1) (cells hl fun i c a hc ha=>.p (h i c a hc ha))
   | agg ys cs hl' h1 h=>exact .agg ys bs (by rw [hl',(Yn hl).1]) (one hl h1) (cells hl h)
  ·cases hb
 | _=>exact h.rnC hT hb
theorem VR.rnB {F:Fz} {O O2:Ow} {T:Tb} (hT:TO T O O2) {x:Value} {a b:AV} (h:VR F O x a) (hb:rnB T b=some a):VR F O2 x b:=by
 have cells:∀ {cs bs:List AV} {ys:List Value},rnL T bs=some cs->(∀ (i:Nat) (c:Value) (a:AV),ys[i]? = some c->cs[i]? = some a->VR F O c a)->∀ (i:Nat) (c:Value) (b:AV),ys[i]? = some c->bs[i]? = some b->VR F O2 c b:=fun hl hv i c b hc hb=>by
  obtain ⟨a,h1,h2⟩:=(Yn hl).2 i b hb
  exact (hv i c a hc h1).rnC hT h2
 have one:∀ {cs bs:List AV},rnL T bs=some cs->(∀ a ∈ cs,AV.one a=true)->∀ b ∈ bs,AV.one b=true:=fun {cs bs} hl ho b hb=>by
  obtain ⟨i,hi,rfl⟩:=List.getElem_of_mem hb
  obtain ⟨a,h1,h2⟩:=(Yn hl).2 i bs[i] (List.getElem?_eq_getElem hi)
  have ha:=ho a (List.mem_of_getElem? h1)
  cases hq:bs[i] with
  | agg cs=>rw [hq] at h2;cases h2
  | tup cs=>rw [hq] at h2;cases h2
  | unk=>rw [hq] at h2;cases h2;cases ha
  | _=>rfl
 have cellsT:∀ {cs bs:List AV} {ys:List Value},rnT T bs=some cs->(∀ (i:Nat) (c:Value) (a:AV),ys[i]? = some c->cs[i]? = some a->VR F O c a)->∀ (i:Nat) (c:Value) (b:AV),ys[i]? = some c->bs[i]? = some b->VR F O2 c b:=fun hl hv i c b hc hb=>by
  obtain ⟨a,h1,h2⟩:=(Wu hl).2 i b hb
  exact (hv i c a hc h1).rnA hT h2
 cases b with
 | agg bs=>exact h.rnA hT hb
 | tup bs =>
  simp only [Sim.rnB] at hb
  split at hb
  ·rename_i cs hl
   cases hb
   cases h with
   | p h =>
    cases h with
    | tup ys cs hl' h=>exact .tup ys bs (by rw [hl',(Wu hl).1]) (cellsT hl fun i c a hc ha=>.p (h i c a hc ha))
   | tup ys cs hl' h=>exact .tup ys bs (by rw [hl',(Wu hl).1]) (cellsT hl h)
  ·cases hb
 | fn f bs =>
  simp only [Sim.rnB] at hb
  split at hb
  ·rename_i cs hl
   cases hb
   cases h with
   | p h =>
    cases h with
    | fn f ys cs hl' h=>exact .fn f ys bs (by rw [hl',(Yn hl).1]) (cells hl fun i c a hc ha=>.p (h i c a hc ha))
   | fn f ys cs hl' h=>exact .fn f ys bs (by rw [hl',(Yn hl).1]) (cells hl h)
  ·cases hb
 | _=>exact h.rnC hT hb
def rnD (T:Tb):AV->Option AV
 | .fn f cs=>(match rnL T cs with|some cs'=>some (.fn f cs')|none=>none)
 | a=>rnC T a
def rnR (T:Tb):List AV->Option (List AV)
 | []=>some []
 | a::as_=>(match rnD T a,rnR T as_ with|some b,some bs=>some (b::bs)|_,_=>none)
attribute [simp] rnD rnR
theorem rnC_rnD {T:Tb} {b a:AV} (h:rnC T b=some a):rnD T b=some a:=by
 cases b with
 | fn=>simp [Sim.rnC] at h
 | _=>exact h
theorem rnL_rnR {T:Tb}:∀ {bs as_:List AV},rnL T bs=some as_->rnR T bs=some as_
 | [],as_,h=>h
 | b::bs,as_,h=>by
  simp only [rnL] at h
  split at h
  ·rename_i c cs h1 h2
   cases h
   simp only [rnR,rnC_rnD h1,rnL_rnR h2]
  ·cases h
theorem Wv {T:Tb}:∀ {bs as_:List AV},rnR T bs=some as_->bs.length=as_.length/\∀ (i:Nat) (b:AV),bs[i]? = some b->∃ a,as_[i]? = some a/\rnD T b=some a
 | [],as_,h=>by cases h;exact ⟨rfl,fun i b hb=>by simp at hb⟩
 | b::bs,as_,h=>by
  simp only [rnR] at h
  split at h
  ·rename_i c cs h1 h2
   cases h
   obtain ⟨l,r⟩:=Wv h2
   refine ⟨by simp [l],fun i x hx=>?_⟩
   cases i with
   | zero=>simp at hx;subst hx;exact ⟨c,rfl,h1⟩
   | succ i=>obtain ⟨y,q1,q2⟩:=r i x (by simpa using hx);exact ⟨y,by simpa using q1,q2⟩
  ·cases h
theorem VR.rnD {F:Fz} {O O2:Ow} {T:Tb} (hT:TO T O O2) {x:Value} {a b:AV} (h:VR F O x a) (hb:rnD T b=some a):VR F O2 x b:=by
 cases b with
 | fn f cs=>exact h.rnB hT hb
 | _=>exact h.rnC hT hb
structure Vw (T:Tb) (H H2:Hp):Prop where
 len:H2.length=T.length
 row:∀ (j:Nat) (ob2:OB),H2[j]? = some ob2->∃ i g ob,T[j]? = some (ob2.g,i,g)/\H[i]? = some ob/\ob.g=g/\ob2.e=ob.e/\ob2.k=ob.k/\ob2.fz=ob.fz/\ob2.es.length=ob.es.length /\
  ∀ (n:Nat) (e2:AV),ob2.es[n]? = some e2->∃ e,ob.es[n]? = some e/\rnR T e2.cells=some e.cells
 inj:∀ (j j' g2 i g g2' g':Nat),T[j]? = some (g2,i,g)->T[j']? = some (g2',i,g')->j=j'
theorem Own.view {B:Bd} {w0 w:World} {F0 F:Fz} {O:Ow} {H H2:Hp} {T:Tb} (h:Own B w0 F0 F O H w) (v:Vw T H H2):∃ O2,Own B w0 F0 F O2 H2 w/\TO T O O2:=by
 have hto:TO T O (T.map fun p=>⟨(O.getD p.2.1 ⟨0,0,0,0⟩).b,(O.getD p.2.1 ⟨0,0,0,0⟩).C,p.1,(O.getD p.2.1 ⟨0,0,0,0⟩).k⟩):=fun j g2 i g ht=>by
  have hj:j < H2.length:=by rw [v.len];exact (List.getElem?_eq_some_iff.1 ht).1
  obtain ⟨i',g',ob,h1,h2,h3,_⟩:=v.row j H2[j] (List.getElem?_eq_getElem hj)
  rw [ht] at h1
  simp only [Option.some.injEq,Prod.mk.injEq] at h1
  obtain ⟨e1,e2,e3⟩:=h1
  subst e2;subst e3
  obtain ⟨d,hd,r⟩:=h.get h2
  refine ⟨d,hd,by rw [r.hg,h3],?_⟩
  rw [List.getElem?_map,ht]
  simp [List.getD_eq_getElem?_getD,hd]
 refine ⟨_,⟨by simp [v.len],fun j d2 ob2 hd2 ho2=>?_,fun j j' d d' hd hd' hb=>?_,h.fr,h.le,h.new,h.below,h.size,h.kept,h.kb⟩,hto⟩
 ·obtain ⟨i, g, ob, h1, h2, h3, h4, h5, h6, h7, h8⟩ := v.row j ob2 ho2
  obtain ⟨d,q1,q2,q3⟩:=hto j ob2.g i g h1
  rw [hd2] at q3
  cases q3
  have r:=h.row i d ob q1 h2
  obtain ⟨cur,c1,c2,c3⟩:=r.cur
  refine ⟨rfl,by rw [h5];exact r.hk,r.hB,⟨cur,by rw [h4,h5,h7];exact c1,by rw [h4,h5];exact c2,fun n c e2 a2 he ha=>?_⟩,r.hC,by rw [h4,h7];exact r.hl,fun e2 he2=>?_,fun e2 he2 a2 ha2=>?_,by rw [h6,h5];exact r.hf,by rw [h6,h7];exact r.hz⟩
  ·obtain ⟨e, g1, g2⟩ := h8 n e2 he
   obtain ⟨a,g3,g4⟩:=(Wv g2).2 c a2 ha
   obtain ⟨y,g5,g6⟩:=c3 n c e a g1 g3
   exact ⟨y,by rw [h5];exact g5,g6.rnD hto g4⟩
  ·obtain ⟨n, hn, rfl⟩ := List.getElem_of_mem he2
   obtain ⟨e,g1,g2⟩:=h8 n _ (List.getElem?_eq_getElem hn)
   rw [(Wv g2).1,h5]
   exact r.hn e (List.mem_of_getElem? g1)
  ·obtain ⟨n, hn, rfl⟩ := List.getElem_of_mem he2
   obtain ⟨e,g1,g2⟩:=h8 n _ (List.getElem?_eq_getElem hn)
   obtain ⟨c,hc,rfl⟩:=List.getElem_of_mem ha2
   obtain ⟨a,g3,g4⟩:=(Wv g2).2 c _ (List.getElem?_eq_getElem hc)
   have ha:=r.h1 e (List.mem_of_getElem? g1) a (List.mem_of_getElem? g3)
   cases hq:ob2.es[n].cells[c] with
   | agg cs=>rw [hq] at g4;cases g4
   | tup cs=>rw [hq] at g4;cases g4
   | unk=>rw [hq] at g4;cases g4;cases ha
   | _=>rfl
 ·have at2 : ∀ {j : Nat} {d : Ds}, (T.map fun p => (⟨(O.getD p.2.1 ⟨0, 0, 0, 0⟩).b, (O.getD p.2.1 ⟨0, 0, 0, 0⟩).C, p.1, (O.getD p.2.1 ⟨0, 0, 0, 0⟩).k⟩ : Ds))[j]? = some d -> ∃ g2 i g d0, T[j]? = some (g2, i, g) /\ O[i]? = some d0 /\ d0.b = d.b := fun {j d} hd => by
   rw [List.getElem?_map] at hd
   obtain ⟨⟨g2,i,g⟩,ht,he⟩:=Option.map_eq_some_iff.1 hd
   obtain ⟨d0,q1,_,_⟩:=hto j g2 i g ht
   refine ⟨g2,i,g,d0,ht,q1,?_⟩
   rw [<- he]
   simp [List.getD_eq_getElem?_getD,q1]
  obtain ⟨g2,i,g,d0,t1,o1,e1⟩:=at2 hd
  obtain ⟨g2',i',g',d0',t2,o2,e2⟩:=at2 hd'
  have:i=i':=h.inj i i' d0 d0' o1 o2 (by rw [e1,e2,hb])
  subst this
  exact v.inj j j' _ _ _ _ _ t1 t2
def Bas (m:Nat) (T:Tb) (H:Hp):Prop:=∀ j,j < m->∃ g2 i g,T[j]? = some (g2,i,g)/\((i=j/\g2=g)\/∃ ob,H[j]? = some ob/\ob.g < g2)
def Ct (H H1:Hp):Prop:=H1.length=H.length/\∀ (j:Nat) (ob1:OB),H1[j]? = some ob1->∃ ob,H[j]? = some ob/\(ob1=ob\/(ob.e ≠ ZM/\∃ n,ob.fz<=n/\n<=ob.es.length/\ob1=⟨ob.e,ob.k,ob.es.take n,ob.g,ob.fz⟩))
theorem Own.ct {B:Bd} {w0 w:World} {F0 F:Fz} {O:Ow} {H H1:Hp} (h:Own B w0 F0 F O H w) (hc:Ct H H1):Own B w0 F0 F O H1 w:=by
 refine ⟨by rw [h.len,hc.1],fun j d ob1 hd ho=>?_,h.inj,h.fr,h.le,h.new,h.below,h.size,h.kept,h.kb⟩
 obtain ⟨ob,h1,h2⟩:=hc.2 j ob1 ho
 have r:=h.row j d ob hd h1
 rcases h2 with rfl|⟨ne,n,hf,hn,rfl⟩
 ·exact r
 ·obtain ⟨cur, c1, c2, c3⟩ := r.curc ne
  refine ⟨r.hg,r.hk,r.hB,⟨cur,.inl ⟨ne,c1⟩,fun _=>c2,fun m c e a he ha=>?_⟩,r.hC,fun _=>?_,fun e he=>r.hn e (List.mem_of_mem_take he),fun e he=>r.h1 e (List.mem_of_mem_take he),r.hf,?_⟩
  ·rw [List.getElem?_take] at he
   split at he
   ·exact c3 m c e a he ha
   ·cases he
  ·have := r.hl ne
   simp only [List.length_take];omega
  ·simp only [List.length_take];omega
theorem Ct.set {H:Hp} {i n:Nat} {ob:OB} (hi:H[i]? = some ob) (ne:(ob.e == 4000000000)=false) (hf:ob.fz<=n) (hn:n<=ob.es.length):Ct H (H.set i ⟨ob.e,ob.k,ob.es.take n,ob.g,ob.fz⟩):=by
 refine ⟨by simp,fun j ob1 hj=>?_⟩
 by_cases hij:i=j
 ·subst hij
  rw [List.getElem?_set_self (List.getElem?_eq_some_iff.1 hi).1] at hj
  cases hj
  exact ⟨ob,hi,.inr ⟨by simpa using ne,n,hf,hn,rfl⟩⟩
 ·rw [List.getElem?_set_ne hij] at hj
  exact ⟨ob1,hj,.inl rfl⟩
inductive Fg (m:Nat):St->St->Prop
 | same {st st2:St} (len:st.s.length=st2.s.length) (slots:∀ (i:Nat) (b:AV),st2.s[i]? = some b->b = .unk\/st.s[i]? = some b) (hH:st.H=st2.H):Fg m st st2
 | cut {st st2:St} (H1:Hp) (hc:Ct st.H H1) (h:Fg m ⟨st.s,H1⟩ st2):Fg m st st2
 | view {st st2:St} (T:Tb) (len:st.s.length=st2.s.length) (slots:∀ (i:Nat) (b:AV),st2.s[i]? = some b->b = .unk\/∃ a,st.s[i]? = some a/\rnB T b=some a) (v:Vw T st.H st2.H) (hb:Bas m T st.H):Fg m st st2
theorem Fg.refl (m:Nat) (st:St):Fg m st st:=.same rfl (fun i b h=>.inr h) rfl
theorem leO_view {B:Bd} {w0 w:World} {F0 F:Fz} {O1 O O2:Ow} {H:Hp} {T:Tb} {m:Nat} (own:Own B w0 F0 F O H w) (hm:O1.length<=m) (h:O1.le O) (hto:TO T O O2) (hb:Bas m T H):O1.le O2:=fun j d hd=>by
 have hj:j < O1.length:=(List.getElem?_eq_some_iff.1 hd).1
 obtain ⟨d',e1,e2,e3⟩:=h j d hd
 obtain ⟨g2,i,g,t1,t2⟩:=hb j (by omega)
 obtain ⟨d0,q1,q2,q3⟩:=hto j g2 i g t1
 rcases t2 with ⟨rfl,rfl⟩|⟨ob,k1,k2⟩
 ·rw [e1] at q1
  cases q1
  refine ⟨_,q3,by rw [<- q2];exact e2,fun hh=>?_⟩
  have:=e3 (by rw [q2];exact hh)
  subst this
  rw [<- q2]
 ·have r := own.row j d' ob e1 k1
  have:=r.hg
  exact ⟨_,q3,by show d.g<=g2;omega,fun hh=>by have hh':d.g=g2:=hh;omega⟩
theorem Rl.forget {G:Nat->AV} {B:Bd} {w0:World} {F0 F1:Fz} {O1:Ow} {F:Fz} {O:Ow} {st st2:St} {a:Act} {w:World} {m:Nat} (h:Rl G B w0 F0 F1 O1 F O st a w) (hm:O1.length<=m) (hf:Fg m st st2):∃ O',Rl G B w0 F0 F1 O1 F O' st2 a w:=by
 induction hf generalizing O with
 | cut H1 hc hf ih=>exact ih ⟨h.own.ct hc,h.size,h.slot,h.defs,h.gok,h.leF,h.leO⟩
 | same len slots hH =>
  rename_i st st2
  refine ⟨O,by rw [<- hH];exact h.own,by rw [h.size,len],fun t=>?_,h.defs,h.gok,h.leF,h.leO⟩
  rw [List.getD_eq_getElem?_getD]
  cases hq:st2.s[t]? with
  | none =>
   have h0:st.s[t]? = none:=by rw [List.getElem?_eq_none_iff] at hq ⊢;rw [len];exact hq
   have:=h.slot t
   rw [List.getD_eq_getElem?_getD,h0] at this
   exact this
  | some b =>
   rcases slots t b hq with rfl|h1
   ·exact .unk _
   ·have := h.slot t
    rw [List.getD_eq_getElem?_getD,h1] at this
    exact this
 | view T len slots v hb =>
  rename_i st st2
  obtain ⟨O2,own,hto⟩:=h.own.view v
  refine ⟨O2,own,by rw [h.size,len],fun t=>?_,h.defs,h.gok,h.leF,leO_view h.own hm h.leO hto hb⟩
  rw [List.getD_eq_getElem?_getD]
  cases hq:st2.s[t]? with
  | none =>
   have h0:st.s[t]? = none:=by rw [List.getElem?_eq_none_iff] at hq ⊢;rw [len];exact hq
   have:=h.slot t
   rw [List.getD_eq_getElem?_getD,h0] at this
   exact this.rnB hto rfl
  | some b =>
   rcases slots t b hq with rfl|⟨a0,h1,h2⟩
   ·exact .unk _
   ·have hs := h.slot t
    rw [List.getD_eq_getElem?_getD,h1] at hs
    exact hs.rnB hto h2
theorem Own.freezeN {B : Bd} {w0 w : World} {F0 F : Fz} {O : Ow} {H : Hp} (h : Own B w0 F0 F O H w) {i : Nat} {ob : OB} (hi : H[i]? = some ob) (ne : ob.e ≠ ZM) {n : Nat} (hn : n <= ob.es.length) (hp : (ob.es.take n).all AV.isP = true) :
  ∃ F',Own B w0 F0 F' O (H.set i { ob with fz:=max ob.fz n }) w/\F.le F'/\∀ x n',n'<=n->VR F O x (.ol i ob.g n')->PV F' x (.sl ob.k (ob.es.take n')):=by
 obtain ⟨d,hd,r⟩:=h.get hi
 have hy:VR F O (.slice (some ⟨d.b,0,none⟩) n d.C) (.ol i ob.g n):=.ol _ i ob.g _ d hd (by rw [r.hg];omega) ⟨_,_,rfl⟩ fun _=>⟨Nat.le_trans hn (r.hl ne),rfl⟩
 obtain ⟨F',p,o,l⟩:=h.freeze hi ne hn hp hy
 refine ⟨F',o,l,fun x n' hn' hx=>?_⟩
 have hxv:n'<=d.C/\x = .slice (some ⟨d.b,0,none⟩) n' d.C:=by
  cases hx with
  | p h=>cases h
  | ol x i g n d' hd' hg h1 h =>
   rw [hd] at hd'
   cases hd'
   exact h r.hg.symm
 rw [hxv.2]
 cases p with
 | sl A m cap k es hm hc hmx hk h1 b o' hA f hf hh =>
  refine .sl _ n' d.C ob.k (ob.es.take n') (by simp;omega) hxv.1 r.hC (fun e he=>r.hn e (List.mem_of_mem_take he)) (fun e he=>r.h1 e (List.mem_of_mem_take he)) b o' (fun h0=>by rw [hA (by omega)]) f (fun i j h1 h2=>hf i j (by omega) h2) (fun i j e a he ha=>hh i j e a ?_ ha)
  rw [List.getElem?_take] at he ⊢
  split at he
  ·rw [if_pos (by omega)];exact he
  ·cases he
theorem Own.recell {B : Bd} {w0 w : World} {F0 F : Fz} {O : Ow} {H H2 : Hp} (h : Own B w0 F0 F O H w) (hl : H2.length = H.length)
  (hr:∀ (j:Nat) (ob2:OB),H2[j]? = some ob2->∃ ob,H[j]? = some ob/\ob2.e=ob.e/\ob2.k=ob.k/\ob2.g=ob.g/\ob2.fz=ob.fz/\ob2.es.length=ob.es.length/\∀ (n:Nat) (e2:AV),ob2.es[n]? = some e2->∃ e,ob.es[n]? = some e/\e2.cells.length=e.cells.length /\
   ∀ (c:Nat) (a2:AV),e2.cells[c]? = some a2->∃ a,e.cells[c]? = some a/\(a.one=true->a2.one=true)/\∀ x,VR F O x a->VR F O x a2):Own B w0 F0 F O H2 w:=by
 refine ⟨by rw [h.len,hl],fun j d ob2 hd ho2=>?_,h.inj,h.fr,h.le,h.new,h.below,h.size,h.kept,h.kb⟩
 obtain ⟨ob,h1,h2,h3,h4,h5,h6,h7⟩:=hr j ob2 ho2
 have r:=h.row j d ob hd h1
 obtain ⟨cur,c1,c2,c3⟩:=r.cur
 refine ⟨by rw [h4];exact r.hg,by rw [h3];exact r.hk,r.hB,⟨cur,by rw [h2,h3,h6];exact c1,by rw [h2,h3];exact c2,fun n c e2 a2 he ha=>?_⟩,r.hC,by rw [h2,h6];exact r.hl,fun e2 he2=>?_,fun e2 he2 a2 ha2=>?_,by rw [h5,h3];exact r.hf,by rw [h5,h6];exact r.hz⟩
 ·obtain ⟨e, g1, g2, g3⟩ := h7 n e2 he
  obtain ⟨a,g4,g5,g6⟩:=g3 c a2 ha
  obtain ⟨y,q1,q2⟩:=c3 n c e a g1 g4
  exact ⟨y,by rw [h3];exact q1,g6 y q2⟩
 ·obtain ⟨n, hn, rfl⟩ := List.getElem_of_mem he2
  obtain ⟨e,g1,g2,g3⟩:=h7 n _ (List.getElem?_eq_getElem hn)
  rw [g2,h3]
  exact r.hn e (List.mem_of_getElem? g1)
 ·obtain ⟨n, hn, rfl⟩ := List.getElem_of_mem he2
  obtain ⟨e,g1,g2,g3⟩:=h7 n _ (List.getElem?_eq_getElem hn)
  obtain ⟨c,hc,rfl⟩:=List.getElem_of_mem ha2
  obtain ⟨a,g4,g5,g6⟩:=g3 c _ (List.getElem?_eq_getElem hc)
  exact g5 (r.h1 e (List.mem_of_getElem? g1) a (List.mem_of_getElem? g4))
inductive ObSt (p:Prop) (a b:Prop):Prop
 | live (h:p) (hk:a):ObSt p a b
 | stale (hk:b):ObSt p a b
def FzR (i g kk n:Nat) (es:List AV) (a b:AV):Prop:=b=a\/∃ n',n'<=n/\a = .ol i g n'/\b = .sl kk (es.take n')
def fcC (i g kk n:Nat) (es:List AV) (un:Bool) (a:AV) (k:AV->Prop):Prop :=
 match a with
 | .ol j g' n'=>(match Nat.beq j i with
  | true=>ObSt (g'=g/\n'<=n) (ObU (es.take n') (fun es'=>k (.sl kk es'))) (match un with|true=>k .unk|false=>False)
  | false=>k (.ol j g' n'))
 | a=>k a
theorem fcC_ok {i g kk n:Nat} {es:List AV} {un:Bool} {a:AV} {k:AV->Prop} (h:fcC i g kk n es un a k):∃ b,k b/\((un=true/\b = .unk)\/FzR i g kk n es a b):=by
 cases a with
 | ol j g' n' =>
  simp only [fcC] at h
  split at h
  ·rename_i hb
   have:=Nat.eq_of_beq_eq_true hb
   subst this
   rcases h with ⟨⟨rfl,hn⟩,es',rfl,h⟩|h
   ·exact ⟨_,h,.inr (.inr ⟨n',hn,rfl,rfl⟩)⟩
   ·split at h
    ·exact ⟨_,h,.inl ⟨rfl,rfl⟩⟩
    ·exact h.elim
  ·exact ⟨_,h,.inr (.inl rfl)⟩
 | _=>exact ⟨_,h,.inr (.inl rfl)⟩
def fcL (i g kk n:Nat) (es:List AV):List AV->(List AV->Prop)->Prop
 | [],k=>k []
 | a::as_,k=>fcC i g kk n es false a (fun b=>fcL i g kk n es as_ (fun bs=>k (b::bs)))
theorem fcL_ok {i g kk n:Nat} {es:List AV}:∀ {as_:List AV} {k:List AV->Prop},fcL i g kk n es as_ k->∃ bs,k bs/\bs.length=as_.length/\∀ (c:Nat) (b:AV),bs[c]? = some b->∃ a,as_[c]? = some a/\FzR i g kk n es a b
 | [],_,h=>⟨[],h,rfl,fun c b hb=>by simp at hb⟩
 | a::as_,k,h=>by
  obtain ⟨b,h1,h2⟩:=fcC_ok h
  obtain ⟨bs,h3,h4,h5⟩:=fcL_ok h1
  refine ⟨b::bs,h3,by simp [h4],fun c x hx=>?_⟩
  cases c with
  | zero=>simp at hx;subst hx;exact ⟨a,rfl,h2.resolve_left (by simp)⟩
  | succ c=>obtain ⟨y,q1,q2⟩:=h5 c x (by simpa using hx);exact ⟨y,by simpa using q1,q2⟩
def fcB (i g kk n:Nat) (es:List AV) (a:AV) (k:AV->Prop):Prop :=
 match a with
 | .agg cs=>ObSt True (fcL i g kk n es cs (fun cs'=>k (.agg cs'))) (k .unk)
 | .tup cs=>k (.tup cs)
 | .fn f cs=>k (.fn f cs)
 | a=>fcC i g kk n es true a k
theorem FzR.vr {F F':Fz} {O:Ow} {i g kk n:Nat} {es:List AV} {a b:AV} (h:FzR i g kk n es a b) (hF:F.le F') (hz:∀ x n',n'<=n->VR F O x (.ol i g n')->PV F' x (.sl kk (es.take n'))) {x:Value} (hx:VR F O x a):VR F' O x b:=by
 rcases h with rfl|⟨n',h1,rfl,rfl⟩
 ·exact hx.mono hF (Ow.le_refl O)
 ·exact .p (hz x n' h1 hx)
theorem FzR.one {i g kk n:Nat} {es:List AV} {a b:AV} (h:FzR i g kk n es a b) (ha:a.one=true):b.one=true:=by
 rcases h with rfl|⟨n',h1,rfl,rfl⟩
 ·exact ha
 ·rfl
theorem fcB_ok {i g kk n:Nat} {es:List AV} {a:AV} {k:AV->Prop} (h:fcB i g kk n es a k):∃ b,k b/\∀ (F F':Fz) (O:Ow),F.le F'->(∀ x n',n'<=n->VR F O x (.ol i g n')->PV F' x (.sl kk (es.take n')))->∀ x,VR F O x a->VR F' O x b:=by
 have cell:fcC i g kk n es true a k->∃ b,k b/\∀ (F F':Fz) (O:Ow),F.le F'->(∀ x n',n'<=n->VR F O x (.ol i g n')->PV F' x (.sl kk (es.take n')))->∀ x,VR F O x a->VR F' O x b:=fun h=>by
  obtain ⟨b,h1,h2⟩:=fcC_ok h
  refine ⟨b,h1,fun F F' O hF hz x hx=>?_⟩
  rcases h2 with ⟨_,rfl⟩|h2
  ·exact .unk x
  ·exact h2.vr hF hz hx
 cases a with
 | agg cs =>
  rcases h with ⟨_,h⟩|h
  ·obtain ⟨bs, h1, h2, h3⟩ := fcL_ok h
   refine ⟨_,h1,fun F F' O hF hz x hx=>?_⟩
   have cells:∀ {ys:List Value},(∀ (i:Nat) (c:Value) (a:AV),ys[i]? = some c->cs[i]? = some a->VR F O c a)->∀ (i:Nat) (c:Value) (b:AV),ys[i]? = some c->bs[i]? = some b->VR F' O c b:=fun hv i c b hc hb=>by
    obtain ⟨a,q1,q2⟩:=h3 i b hb
    exact q2.vr hF hz (hv i c a hc q1)
   have one:(∀ a ∈ cs,AV.one a=true)->∀ b ∈ bs,AV.one b=true:=fun ho b hb=>by
    obtain ⟨i,hi,rfl⟩:=List.getElem_of_mem hb
    obtain ⟨a,q1,q2⟩:=h3 i _ (List.getElem?_eq_getElem hi)
    exact q2.one (ho a (List.mem_of_getElem? q1))
   cases hx with
   | p hx=>cases hx with|agg ys _ hl h1 h=>exact .agg ys bs (by rw [hl,h2]) (one h1) (cells fun i c a hc ha=>.p (h i c a hc ha))
   | agg ys _ hl h1 h=>exact .agg ys bs (by rw [hl,h2]) (one h1) (cells h)
  ·exact ⟨_,h,fun F F' O hF hz x hx=>.unk x⟩
 | tup cs=>exact ⟨_,h,fun F F' O hF hz x hx=>hx.mono hF (Ow.le_refl O)⟩
 | fn f cs=>exact ⟨_,h,fun F F' O hF hz x hx=>hx.mono hF (Ow.le_refl O)⟩
 | _=>exact cell h
def fcS (i g kk n:Nat) (es:List AV):List AV->(List AV->Prop)->Prop
 | [],k=>k []
 | a::as_,k=>fcB i g kk n es a (fun b=>fcS i g kk n es as_ (fun bs=>k (b::bs)))
theorem fcS_ok {i g kk n:Nat} {es:List AV}:∀ {as_:List AV} {k:List AV->Prop},fcS i g kk n es as_ k->∃ bs,k bs/\bs.length=as_.length/\∀ (c:Nat) (b:AV),bs[c]? = some b->∃ a,as_[c]? = some a/\∀ (F F':Fz) (O:Ow),F.le F'->(∀ x n',n'<=n->VR F O x (.ol i g n')->PV F' x (.sl kk (es.take n')))->∀ x,VR F O x a->VR F' O x b
 | [],_,h=>⟨[],h,rfl,fun c b hb=>by simp at hb⟩
 | a::as_,k,h=>by
  obtain ⟨b,h1,h2⟩:=fcB_ok h
  obtain ⟨bs,h3,h4,h5⟩:=fcS_ok h1
  refine ⟨b::bs,h3,by simp [h4],fun c x hx=>?_⟩
  cases c with
  | zero=>simp at hx;subst hx;exact ⟨a,rfl,h2⟩
  | succ c=>obtain ⟨y,q1,q2⟩:=h5 c x (by simpa using hx);exact ⟨y,by simpa using q1,q2⟩
def fcE (i g kk n:Nat) (es:List AV):List AV->(List AV->Prop)->Prop
 | [],k=>k []
 | a::as_,k=>(match a with
  | .agg cs=>fcL i g kk n es cs (fun cs'=>fcE i g kk n es as_ (fun bs=>k (.agg cs'::bs)))
  | a=>fcE i g kk n es as_ (fun bs=>k (a::bs)))
theorem fcE_ok {i g kk n:Nat} {es:List AV}:∀ {as_:List AV} {k:List AV->Prop},fcE i g kk n es as_ k->∃ bs,k bs/\bs.length=as_.length/\∀ (c:Nat) (b:AV),bs[c]? = some b->∃ a,as_[c]? = some a/\b.cells.length=a.cells.length/\∀ (c:Nat) (y:AV),b.cells[c]? = some y->∃ x,a.cells[c]? = some x/\FzR i g kk n es x y
 | [],_,h=>⟨[],h,rfl,fun c b hb=>by simp at hb⟩
 | a::as_,k,h=>by
  have same:fcE i g kk n es as_ (fun bs=>k (a::bs))->∃ bs,k bs/\bs.length=(a::as_).length/\∀ (c:Nat) (b:AV),bs[c]? = some b->∃ a',(a::as_)[c]? = some a'/\b.cells.length=a'.cells.length/\∀ (c:Nat) (y:AV),b.cells[c]? = some y->∃ x,a'.cells[c]? = some x/\FzR i g kk n es x y:=fun h=>by
   obtain ⟨bs,h3,h4,h5⟩:=fcE_ok h
   refine ⟨a::bs,h3,by simp [h4],fun c x hx=>?_⟩
   cases c with
   | zero=>simp at hx;subst hx;exact ⟨a,rfl,rfl,fun c y hy=>⟨y,hy,.inl rfl⟩⟩
   | succ c=>obtain ⟨y,q1,q2⟩:=h5 c x (by simpa using hx);exact ⟨y,by simpa using q1,q2⟩
  cases a with
  | agg cs =>
   simp only [fcE] at h
   obtain ⟨cs',h1,h2,h3⟩:=fcL_ok h
   obtain ⟨bs,h4,h5,h6⟩:=fcE_ok h1
   refine ⟨.agg cs'::bs,h4,by simp [h5],fun c x hx=>?_⟩
   cases c with
   | zero=>simp at hx;subst hx;exact ⟨_,rfl,h2,h3⟩
   | succ c=>obtain ⟨y,q1,q2⟩:=h6 c x (by simpa using hx);exact ⟨y,by simpa using q1,q2⟩
  | _=>exact same h
def fcH (i g kk n:Nat) (es:List AV):Hp->List Bool->(Hp->Prop)->Prop
 | H,[],k=>k H
 | [],_::_,k=>k []
 | ob::H,c::cs,k=>(match c with
  | true=>(match ob with|⟨e,kk',es',g',fz⟩=>fcE i g kk n es es' (fun es2=>fcH i g kk n es H cs (fun H'=>k (⟨e,kk',es2,g',fz⟩::H'))))
  | false=>fcH i g kk n es H cs (fun H'=>k (ob::H')))
theorem fcH_ok {i g kk n : Nat} {es : List AV} : ∀ {cs : List Bool} {H : Hp} {k : Hp -> Prop}, fcH i g kk n es H cs k -> ∃ H2, k H2 /\ H2.length = H.length /\ ∀ (j : Nat) (ob2 : OB), H2[j]? = some ob2 -> ∃ ob, H[j]? = some ob /\ ob2.e = ob.e /\ ob2.k = ob.k /\ ob2.g = ob.g /\ ob2.fz = ob.fz /\ ob2.es.length = ob.es.length /\
   ∀ (c:Nat) (b:AV),ob2.es[c]? = some b->∃ a,ob.es[c]? = some a/\b.cells.length=a.cells.length/\∀ (c:Nat) (y:AV),b.cells[c]? = some y->∃ x,a.cells[c]? = some x/\FzR i g kk n es x y
 | [],H,k,h=>⟨H,by cases H<;>exact h,rfl,fun j ob2 h=>⟨ob2,h,rfl,rfl,rfl,rfl,rfl,fun c b hb=>⟨b,hb,rfl,fun c y hy=>⟨y,hy,.inl rfl⟩⟩⟩⟩
 | _::_,[],k,h=>⟨[],h,rfl,fun j ob2 h=>by simp at h⟩
 | true::cs,⟨e,kk',es',g',fz⟩::H,k,h=>by
  simp only [fcH] at h
  obtain ⟨es2,h1,h2,h3⟩:=fcE_ok h
  obtain ⟨H',h4,h5,h6⟩:=fcH_ok h1
  refine ⟨_,h4,by simp [h5],fun j ob2 hj=>?_⟩
  cases j with
  | zero=>simp at hj;subst hj;exact ⟨_,rfl,rfl,rfl,rfl,rfl,h2,h3⟩
  | succ j=>obtain ⟨ob,q1,q2⟩:=h6 j ob2 (by simpa using hj);exact ⟨ob,by simpa using q1,q2⟩
 | false::cs,ob::H,k,h=>by
  simp only [fcH] at h
  obtain ⟨H',h4,h5,h6⟩:=fcH_ok h
  refine ⟨_,h4,by simp [h5],fun j ob2 hj=>?_⟩
  cases j with
  | zero=>simp at hj;subst hj;exact ⟨ob,rfl,rfl,rfl,rfl,rfl,rfl,fun c b hb=>⟨b,hb,rfl,fun c y hy=>⟨y,hy,.inl rfl⟩⟩⟩
  | succ j=>obtain ⟨ob',q1,q2⟩:=h6 j ob2 (by simpa using hj);exact ⟨ob',by simpa using q1,q2⟩
def fzK (i n:Nat) (cv:List Bool) (s:List AV) (H:Hp) (k:St->Prop):Prop :=
 rK H i (fun ob=>match ob with|⟨e,kk,es,g,fz⟩=>(match Nat.beq e 4000000000 with|true=>False|false=>ObN (n<=es.length) (ObN ((es.take n).all AV.isP=true) (rpK H i ⟨e,kk,es,g,max fz n⟩ (fun H1=>fcS i g kk n es s (fun s'=>fcH i g kk n es H1 cv (fun H'=>k ⟨s',H'⟩)))))))
theorem fzK_ok {G:Nat->AV} {B:Bd} {w0:World} {F0 F1:Fz} {O1:Ow} {F:Fz} {O:Ow} {s:List AV} {H:Hp} {a:Act} {w:World} {i n:Nat} {cv:List Bool} {k:St->Prop} (hk:fzK i n cv s H k) (h:Rl G B w0 F0 F1 O1 F O ⟨s,H⟩ a w):∃ st2 F',k st2/\Rl G B w0 F0 F1 O1 F' O st2 a w:=by
 obtain ⟨ob,h1,h2⟩:=wQ hk
 obtain ⟨e,kk,es,g,fz⟩:=ob
 simp only at h2
 split at h2
 ·exact h2.elim
 rename_i hbe
 have hne:(e == 4000000000)=false:=(beqN e _).trans hbe
 obtain ⟨hn,hp,h2⟩:=h2
 rw [yc] at h2
 obtain ⟨s',h3,h4,h5⟩:=fcS_ok h2
 obtain ⟨H',h6,h7,h8⟩:=fcH_ok h3
 obtain ⟨F',own,lF,hz⟩:=h.own.freezeN h1 (by simpa using hne) hn hp
 refine ⟨_,F',h6,?_,by rw [h.size];exact h4.symm,fun t=>?_,h.defs,h.gok.mono lF,Fz.le_trans h.leF lF,h.leO⟩
 ·refine own.recell (by simpa using h7) fun j ob2 hj=>?_
  obtain ⟨ob1,q1,q2,q3,q4,q5,q6,q7⟩:=h8 j ob2 hj
  refine ⟨ob1,q1,q2,q3,q4,q5,q6,fun c e2 he=>?_⟩
  obtain ⟨e1,p1,p2,p3⟩:=q7 c e2 he
  refine ⟨e1,p1,p2,fun c a2 ha=>?_⟩
  obtain ⟨a1,p4,p5⟩:=p3 c a2 ha
  refine ⟨a1,p4,p5.one,fun x hx=>p5.vr (Fz.le_refl F') (fun x n' hn' hx=>?_) hx⟩
  -- the wR in the row is the same as_ before
  have hx':VR F O x (.ol i g n'):=by
   cases hx with
   | p h=>cases h
   | ol _ _ _ _ d hd hg h1 h=>exact .ol x i g n' d hd hg h1 h
  exact hz x n' hn' hx'
 ·rw [List.getD_eq_getElem?_getD]
  cases hq:s'[t]? with
  | none =>
   have h0:s[t]? = none:=by rw [List.getElem?_eq_none_iff] at hq ⊢;omega
   have:=h.slot t
   rw [List.getD_eq_getElem?_getD] at this
   simp only [h0] at this
   exact this.mono lF (Ow.le_refl O)
  | some b =>
   obtain ⟨a0,q1,q2⟩:=h5 t b hq
   have:=h.slot t
   rw [List.getD_eq_getElem?_getD] at this
   simp only [q1] at this
   exact q2 F F' O lF hz _ this
def WkC (a b:AV):Prop:=b=a\/∃ k,a = .nl k/\b = .sl k []
theorem WkC.vr {F:Fz} {O:Ow} {a b:AV} (h:WkC a b) {x:Value} (hx:VR F O x a):VR F O x b:=by
 rcases h with rfl|⟨k,rfl,rfl⟩
 ·exact hx
 ·cases hx with
  | p h=>cases h
  | nl k=>exact .p (.sl none 0 0 k [] rfl (Nat.le_refl _) (Nat.zero_le _) (fun e he=>by cases he) (fun e he=>by cases he) 0 0 (fun h=>absurd h (Nat.lt_irrefl _)) (fun _ _=>.bool false) (fun i j hi=>absurd hi (Nat.not_lt_zero _)) (fun i j e a he=>by simp at he))
theorem WkC.one {a b:AV} (h:WkC a b) (ha:a.one=true):b.one=true:=by
 rcases h with rfl|⟨k,rfl,rfl⟩
 ·exact ha
 ·rfl
def nlc (a:AV) (k:AV->Prop):Prop :=
 match a with
 | .nl j=>k (.sl j [])
 | a=>k a
theorem nlc_ok {a:AV} {k:AV->Prop} (h:nlc a k):∃ b,k b/\WkC a b:=by
 cases a with
 | nl j=>exact ⟨_,h,.inr ⟨j,rfl,rfl⟩⟩
 | _=>exact ⟨_,h,.inl rfl⟩
def nlsK:List Bool->List AV->(List AV->Prop)->Prop
 | [],s,k=>k s
 | _::_,[],k=>k []
 | b::bs,a::s,k=>(match b with
  | true=>nlc a (fun a'=>nlsK bs s (fun s'=>k (a'::s')))
  | false=>nlsK bs s (fun s'=>k (a::s')))
theorem WA:∀ {bs:List Bool} {s:List AV} {k:List AV->Prop},nlsK bs s k->∃ s',k s'/\s'.length=s.length/\∀ (t:Nat) (b:AV),s'[t]? = some b->∃ a,s[t]? = some a/\WkC a b
 | [],s,k,h=>⟨s,by cases s<;>exact h,rfl,fun t b hb=>⟨b,hb,.inl rfl⟩⟩
 | _::_,[],k,h=>⟨[],h,rfl,fun t b hb=>by simp at hb⟩
 | true::bs,a::s,k,h=>by
  simp only [nlsK] at h
  obtain ⟨b,h1,h2⟩:=nlc_ok h
  obtain ⟨s',h3,h4,h5⟩:=WA h1
  refine ⟨_,h3,by simp [h4],fun t c hc=>?_⟩
  cases t with
  | zero=>simp at hc;subst hc;exact ⟨a,rfl,h2⟩
  | succ t=>obtain ⟨y,q1,q2⟩:=h5 t c (by simpa using hc);exact ⟨y,by simpa using q1,q2⟩
 | false::bs,a::s,k,h=>by
  simp only [nlsK] at h
  obtain ⟨s',h3,h4,h5⟩:=WA h
  refine ⟨_,h3,by simp [h4],fun t c hc=>?_⟩
  cases t with
  | zero=>simp at hc;subst hc;exact ⟨a,rfl,.inl rfl⟩
  | succ t=>obtain ⟨y,q1,q2⟩:=h5 t c (by simpa using hc);exact ⟨y,by simpa using q1,q2⟩
def nllK:List AV->(List AV->Prop)->Prop
 | [],k=>k []
 | a::s,k=>nlc a (fun a'=>nllK s (fun s'=>k (a'::s')))
theorem nllK_ok:∀ {s:List AV} {k:List AV->Prop},nllK s k->∃ s',k s'/\s'.length=s.length/\∀ (t:Nat) (b:AV),s'[t]? = some b->∃ a,s[t]? = some a/\WkC a b
 | [],k,h=>⟨[],h,rfl,fun t b hb=>by simp at hb⟩
 | a::s,k,h=>by
  simp only [nllK] at h
  obtain ⟨b,h1,h2⟩:=nlc_ok h
  obtain ⟨s',h3,h4,h5⟩:=nllK_ok h1
  refine ⟨_,h3,by simp [h4],fun t c hc=>?_⟩
  cases t with
  | zero=>simp at hc;subst hc;exact ⟨a,rfl,h2⟩
  | succ t=>obtain ⟨y,q1,q2⟩:=h5 t c (by simpa using hc);exact ⟨y,by simpa using q1,q2⟩
def nleK:List AV->(List AV->Prop)->Prop
 | [],k=>k []
 | a::es,k=>(match a with
  | .agg cs=>nllK cs (fun cs'=>nleK es (fun es'=>k (.agg cs'::es')))
  | a=>nleK es (fun es'=>k (a::es')))
theorem WC:∀ {es:List AV} {k:List AV->Prop},nleK es k->∃ es',k es'/\es'.length=es.length/\∀ (n:Nat) (b:AV),es'[n]? = some b->∃ a,es[n]? = some a/\b.cells.length=a.cells.length/\∀ (c:Nat) (y:AV),b.cells[c]? = some y->∃ x,a.cells[c]? = some x/\WkC x y
 | [],k,h=>⟨[],h,rfl,fun t b hb=>by simp at hb⟩
 | a::es,k,h=>by
  have same:nleK es (fun es'=>k (a::es'))->∃ es',k es'/\es'.length=(a::es).length/\∀ (n:Nat) (b:AV),es'[n]? = some b->∃ a',(a::es)[n]? = some a'/\b.cells.length=a'.cells.length/\∀ (c:Nat) (y:AV),b.cells[c]? = some y->∃ x,a'.cells[c]? = some x/\WkC x y:=fun h=>by
   obtain ⟨es',h1,h2,h3⟩:=WC h
   refine ⟨_,h1,by simp [h2],fun n b hb=>?_⟩
   cases n with
   | zero=>simp at hb;subst hb;exact ⟨a,rfl,rfl,fun c y hy=>⟨y,hy,.inl rfl⟩⟩
   | succ n=>obtain ⟨y,q1,q2⟩:=h3 n b (by simpa using hb);exact ⟨y,by simpa using q1,q2⟩
  cases a with
  | agg cs =>
   simp only [nleK] at h
   obtain ⟨cs',h1,h2,h3⟩:=nllK_ok h
   obtain ⟨es',h4,h5,h6⟩:=WC h1
   refine ⟨_,h4,by simp [h5],fun n b hb=>?_⟩
   cases n with
   | zero=>simp at hb;subst hb;exact ⟨_,rfl,h2,h3⟩
   | succ n=>obtain ⟨y,q1,q2⟩:=h6 n b (by simpa using hb);exact ⟨y,by simpa using q1,q2⟩
  | _=>exact same h
def nlhK:List Bool->Hp->(Hp->Prop)->Prop
 | [],H,k=>k H
 | _::_,[],k=>k []
 | c::cs,ob::H,k=>(match c with
  | true=>(match ob with|⟨e,kk,es,g,fz⟩=>nleK es (fun es'=>nlhK cs H (fun H'=>k (⟨e,kk,es',g,fz⟩::H'))))
  | false=>nlhK cs H (fun H'=>k (ob::H')))
theorem WB : ∀ {cs : List Bool} {H : Hp} {k : Hp -> Prop}, nlhK cs H k -> ∃ H2, k H2 /\ H2.length = H.length /\ ∀ (j : Nat) (ob2 : OB), H2[j]? = some ob2 -> ∃ ob, H[j]? = some ob /\ ob2.e = ob.e /\ ob2.k = ob.k /\ ob2.g = ob.g /\ ob2.fz = ob.fz /\ ob2.es.length = ob.es.length /\
   ∀ (c:Nat) (b:AV),ob2.es[c]? = some b->∃ a,ob.es[c]? = some a/\b.cells.length=a.cells.length/\∀ (c:Nat) (y:AV),b.cells[c]? = some y->∃ x,a.cells[c]? = some x/\WkC x y
 | [],H,k,h=>⟨H,by cases H<;>exact h,rfl,fun j ob2 h=>⟨ob2,h,rfl,rfl,rfl,rfl,rfl,fun c b hb=>⟨b,hb,rfl,fun c y hy=>⟨y,hy,.inl rfl⟩⟩⟩⟩
 | _::_,[],k,h=>⟨[],h,rfl,fun j ob2 h=>by simp at h⟩
 | true::cs,⟨e,kk,es,g,fz⟩::H,k,h=>by
  simp only [nlhK] at h
  obtain ⟨es2,h1,h2,h3⟩:=WC h
  obtain ⟨H',h4,h5,h6⟩:=WB h1
  refine ⟨_,h4,by simp [h5],fun j ob2 hj=>?_⟩
  cases j with
  | zero=>simp at hj;subst hj;exact ⟨_,rfl,rfl,rfl,rfl,rfl,h2,h3⟩
  | succ j=>obtain ⟨ob,q1,q2⟩:=h6 j ob2 (by simpa using hj);exact ⟨ob,by simpa using q1,q2⟩
 | false::cs,ob::H,k,h=>by
  simp only [nlhK] at h
  obtain ⟨H',h4,h5,h6⟩:=WB h
  refine ⟨_,h4,by simp [h5],fun j ob2 hj=>?_⟩
  cases j with
  | zero=>simp at hj;subst hj;exact ⟨ob,rfl,rfl,rfl,rfl,rfl,rfl,fun c b hb=>⟨b,hb,rfl,fun c y hy=>⟨y,hy,.inl rfl⟩⟩⟩
  | succ j=>obtain ⟨ob',q1,q2⟩:=h6 j ob2 (by simpa using hj);exact ⟨ob',by simpa using q1,q2⟩
def nlK (ss cv:List Bool) (s:List AV) (H:Hp) (k:St->Prop):Prop:=nlsK ss s (fun s'=>nlhK cv H (fun H'=>k ⟨s',H'⟩))
theorem nlK_ok {G:Nat->AV} {B:Bd} {w0:World} {F0 F1:Fz} {O1:Ow} {F:Fz} {O:Ow} {s:List AV} {H:Hp} {a:Act} {w:World} {ss cv:List Bool} {k:St->Prop} (hk:nlK ss cv s H k) (h:Rl G B w0 F0 F1 O1 F O ⟨s,H⟩ a w):∃ st2,k st2/\Rl G B w0 F0 F1 O1 F O st2 a w:=by
 obtain ⟨s',h1,h2,h3⟩:=WA hk
 obtain ⟨H',h4,h5,h6⟩:=WB h1
 refine ⟨_,h4,?_,by rw [h.size];exact h2.symm,fun t=>?_,h.defs,h.gok,h.leF,h.leO⟩
 ·refine h.own.recell h5 fun j ob2 hj=>?_
  obtain ⟨ob1,q1,q2,q3,q4,q5,q6,q7⟩:=h6 j ob2 hj
  refine ⟨ob1,q1,q2,q3,q4,q5,q6,fun c e2 he=>?_⟩
  obtain ⟨e1,p1,p2,p3⟩:=q7 c e2 he
  refine ⟨e1,p1,p2,fun c a2 ha=>?_⟩
  obtain ⟨a1,p4,p5⟩:=p3 c a2 ha
  exact ⟨a1,p4,p5.one,fun x hx=>p5.vr hx⟩
 ·rw [List.getD_eq_getElem?_getD]
  cases hq:s'[t]? with
  | none =>
   have h0:s[t]? = none:=by rw [List.getElem?_eq_none_iff] at hq ⊢;omega
   have:=h.slot t
   rw [List.getD_eq_getElem?_getD] at this
   simp only [h0] at this
   exact this
  | some b =>
   obtain ⟨a0,q1,q2⟩:=h3 t b hq
   have:=h.slot t
   rw [List.getD_eq_getElem?_getD] at this
   simp only [q1] at this
   exact q2.vr this
inductive SeqP (m:Nat) (K:St->Prop) (st:St):Prop
 | go (h:K st):SeqP m K st
 | fg (st2:St) (h:Fg m st st2) (hk:K st2):SeqP m K st
 | fz (i n:Nat) (cv:List Bool) (h:fzK i n cv st.s st.H K):SeqP m K st
 | nl (ss cv:List Bool) (h:nlK ss cv st.s st.H K):SeqP m K st
 | oc (t i g n:Nat) (h0:st.s.getD t zd = .ol i g n) (hl:(live st.H i g).isSome=true) (h:∀ c,n<=c->K ⟨st.s.set t (.oc i g n c),st.H⟩):SeqP m K st
theorem ocK_ok {G:Nat->AV} {B:Bd} {w0:World} {F0 F1:Fz} {O1:Ow} {F:Fz} {O:Ow} {st:St} {a:Act} {w:World} {t i g n:Nat} (h0:st.s.getD t zd = .ol i g n) (hl:(live st.H i g).isSome=true) (h:Rl G B w0 F0 F1 O1 F O st a w):∃ c,n<=c/\Rl G B w0 F0 F1 O1 F O ⟨st.s.set t (.oc i g n c),st.H⟩ a w:=by
 obtain ⟨ob,hl⟩:=Option.isSome_iff_exists.1 hl
 have hs:=h.slot t
 rw [h0] at hs
 obtain ⟨d,hd,hio,r,hn,hx⟩:=h.own.ol hs hl
 have hgg:ob.g=g:=(Zz hl).2
 have ht:t < st.s.length:=by
  rcases Nat.lt_or_ge t st.s.length with hh|hh
  ·exact hh
  ·rw [List.getD_eq_getElem?_getD,List.getElem?_eq_none hh] at h0;cases h0
 refine ⟨d.C,hn,h.own,by simpa using h.size,fun u=>?_,h.defs,h.gok,h.leF,h.leO⟩
 by_cases hu:t=u
 ·subst hu
  have e:(st.s.set t (.oc i g n d.C)).getD t zd = .oc i g n d.C:=by rw [List.getD_eq_getElem?_getD,List.getElem?_set_self ht];rfl
  rw [e,hx]
  exact .oc _ i g n d.C d hd (by rw [r.hg];omega) ⟨_,_,rfl⟩ fun _=>⟨hn,rfl,rfl⟩
 ·have e : (st.s.set t (.oc i g n d.C)).getD u zd = st.s.getD u zd := by rw [List.getD_eq_getElem?_getD, List.getD_eq_getElem?_getD, List.getElem?_set_ne hu]
  rw [e]
  exact h.slot u
inductive Again {α:Type} (m:Nat) (J:α->Prop) (μ:α->Nat) (sc:α->St) (b:Nat) (st:St):Prop
 | mk (a:α) (h1:J a) (h2:μ a < b) (h3:Fg m st (sc a)):Again m J μ sc b st
inductive LoopP (m:Nat) (Wc:(EX->St->Prop)->St->Prop) (Q:EX->St->Prop) (st:St):Prop
 | mk (α:Type) (J:α->Prop) (μ:α->Nat) (sc:α->St) (a0:α) (h0:J a0) (h1:Fg m st (sc a0)) (h2:∀ a,J a->Wc (yg (Again m J μ sc (μ a)) Q) (sc a)):LoopP m Wc Q st
inductive SameP (s s':List AV) (H H':Hp):Prop
 | mk (h1:s=s') (h2:H=H'):SameP s s' H H'
inductive ObAnd (a b:Prop):Prop
 | mk (h1:a) (h2:b):ObAnd a b
inductive ObDx (a b c:Prop):Prop
 | same (h:a):ObDx a b c
 | each (h:b):ObDx a b c
 | dyn (h:c):ObDx a b c
def Xi (s:List AV) (d:Option Nat) (r:AV) (k:List AV->Prop):Prop :=
 match d with
 | none=>k s
 | some d=>pK s d r k
abbrev KS:=List AV->Hp->Prop
section
variable (P:Program) (G:Nat->AV)
def vgd (o:AI) (s:List AV) (H:Hp) (k:KS):Prop :=
 match o with
 | ⟨dst,op,gd⟩=>(match gd with
  | none=>vop P G s H op (fun r H'=>Xi s dst r (fun s'=>k s' H'))
  | some g=>(match g with
   | (t,want)=>gK s t (fun g=>match g with
    | .v gv=>(match gv with
     | .bool b=>(match want with
      | true=>ObT b (vop P G s H op (fun r H'=>Xi s dst r (fun s'=>k s' H'))) (Xi s dst zd (fun s'=>k s' H))
      | false=>ObT b (Xi s dst zd (fun s'=>k s' H)) (vop P G s H op (fun r H'=>Xi s dst r (fun s'=>k s' H'))))
     | _=>False)
    | .tup l=>(match l with|[]=>Xi s dst zd (fun s'=>k s' H)|_::_=>False)
    | _=>False)))
theorem putK_put {s:List AV} {d:Option Nat} {r:AV} {H:Hp} {k:KS} (h:Xi s d r (fun s'=>k s' H)):k ((St.mk s H).put d r H).s ((St.mk s H).put d r H).H:=by
 cases d with
 | none=>exact h
 | some d=>simp only [Xi,pK_eq] at h;exact h
theorem putK_put' {s:List AV} {d:Option Nat} {r:AV} {H H0:Hp} {k:KS} (h:Xi s d r (fun s'=>k s' H)):k ((St.mk s H0).put d r H).s ((St.mk s H0).put d r H).H:=by
 cases d with
 | none=>exact h
 | some d=>simp only [Xi,pK_eq] at h;exact h
theorem AWop_mono {ev:AX->AV} {H:Hp} {op:AOp} {k k':KK} (h:yS P G ev H op k) (hk:∀ r H',k r H'->k' r H'):yS P G ev H op k':=by
 obtain ⟨r,H',h1,h2⟩:=AWop_iff.1 h
 exact AWop_iff.2 ⟨r,H',h1,hk r H' h2⟩
theorem vgd_ok {o:AI} {s:List AV} {H:Hp} {k:KS} (h:vgd P G o s H k):AWi P G o ⟨s,H⟩ (fun st=>k st.s st.H):=by
 obtain ⟨dst,op,gd⟩:=o
 simp only [vgd] at h
 have run:vop P G s H op (fun r H'=>Xi s dst r (fun s'=>k s' H'))->yS P G (AX.ev G s) H op (fun r H'=>k ((St.mk s H).put dst r H').s ((St.mk s H).put dst r H').H):=fun h=>AWop_mono P G (vop_ok P G h) fun r H' hk=>putK_put' hk
 have skip:Xi s dst zd (fun s'=>k s' H)->k ((St.mk s H).put dst zd H).s ((St.mk s H).put dst zd H).H:=fun h=>putK_put' h
 unfold AWi
 split at h
 ·exact run h
 ·rename_i g
  obtain ⟨t,want⟩:=g
  simp only [gK_eq] at h
  simp only
  change (match s.getD t (.tup []) with|.v (.bool b)=>_|.tup []=>_|_=>_)
  split at h
  ·rename_i gv hv
   rw [hv]
   split at h
   ·rename_i b
    simp only
    cases want with
    | true =>
     obtain ⟨h1,h2⟩:=h
     cases b with
     | true=>rw [if_pos rfl];exact run (h1 rfl)
     | false=>rw [if_neg (by simp)];exact skip (h2 rfl)
    | false =>
     obtain ⟨h1,h2⟩:=h
     cases b with
     | true=>rw [if_neg (by simp)];exact skip (h1 rfl)
     | false=>rw [if_pos rfl];exact run (h2 rfl)
   ·exact h.elim
  ·rename_i l hv
   rw [hv]
   split at h
   ·exact skip h
   ·exact h.elim
  ·exact h.elim
def vops:List AI->List AV->Hp->KS->Prop
 | [],s,H,k=>k s H
 | o::os,s,H,k=>vgd P G o s H (fun s' H'=>vops os s' H' k)
theorem Wl:∀ {os:List AI} {s:List AV} {H:Hp} {k:KS},vops P G os s H k->AWs P G os (fun st=>k st.s st.H) ⟨s,H⟩
 | [],_,_,_,h=>h
 | o::os,s,H,k,h=>by
  obtain ⟨st',h1,h2⟩:=AWi_iff.1 (vgd_ok P G h)
  exact AWi_iff.2 ⟨st',h1,Wl (k:=k) h2⟩
def vopx:List AI->List AV->Hp->KS->Prop
 | ⟨d,.nxm x,none⟩::os,s,H,k=>eK G s x (fun a=>ObNx (nxmA H a) (fun r H'=>Xi s d r (fun s'=>vops P G os s' H' k)))
 | os,s,H,k=>vops P G os s H k
theorem vopx_ok:∀ {os:List AI} {s:List AV} {H:Hp} {k:KS},vopx P G os s H k->AWx P G os (fun st=>k st.s st.H) ⟨s,H⟩:=by
 intro os s H k h
 unfold vopx at h
 unfold AWx
 split at h
 ·rename_i d x os
  rw [Zt] at h
  obtain ⟨l,hl,hk⟩:=h
  refine ⟨l,hl,fun p hp=>?_⟩
  exact Wl P G (k:=k) (putK_put (k:=fun s' H'=>vops P G os s' H' k) (hk p hp))
 ·rename_i hn
  split
  ·rename_i d x os
   exact absurd rfl (hn d x os)
  ·exact Wl P G (k:=k) h
def YA (base:Nat):List AI->List AV->Hp->KS->Prop
 | [],s,H,k=>k s H
 | o::os,s,H,k=>(match Nat.beq o.op.cls 0 with
  | true=>vgd P G o s H (fun s' H'=>YA base os s' H' k)
  | false=>ObD (Zq G base o ⟨s,H⟩) (vgd P G o s H (fun s' H'=>YA base os s' H' k)))
theorem yp {base:Nat}:∀ {os:List AI} {s:List AV} {H:Hp} {k:KS},YA P G base os s H k->AWd P G base os (fun st=>k st.s st.H) ⟨s,H⟩
 | [],_,_,_,h=>h
 | o::os,s,H,k,h=>by
  have key:chk G base o ⟨s,H⟩/\vgd P G o s H (fun s' H'=>YA P G base os s' H' k):=by
   simp only [YA] at h
   split at h
   ·rename_i hb
    exact ⟨.inl (Nat.eq_of_beq_eq_true hb),h⟩
   ·obtain ⟨hc, h⟩ := h
    exact ⟨yW hc,h⟩
  obtain ⟨st',h1,h2⟩:=AWi_iff.1 (vgd_ok P G key.2)
  exact ⟨key.1,AWi_iff.2 ⟨st',h1,yp (k:=k) h2⟩⟩
theorem Xa {base:Nat}:∀ {os:List AI} {k k':St->Prop} {st:St},AWd P G base os k st->(∀ st,k st->k' st)->AWd P G base os k' st
 | [],_,_,_,h,hk=>hk _ h
 | o::os,k,k',st,h,hk=>by
  obtain ⟨st',h1,h2⟩:=AWi_iff.1 h.2
  exact ⟨h.1,AWi_iff.2 ⟨st',h1,Xa h2 hk⟩⟩
theorem AWd_ex {base:Nat}:∀ {os:List AI} {k:St->Prop} {st:St},AWd P G base os k st->∃ st',k st'
 | [],_,_,h=>⟨_,h⟩
 | o::os,k,st,h=>by
  obtain ⟨st',h1,h2⟩:=AWi_iff.1 h.2
  exact AWd_ex h2
def vsame (base:Nat) (s0:List AV) (H0:Hp) (s1:List AV) (H1:Hp):List (List AI)->Prop->Prop
 | [],k=>k
 | R::Rs,k=>ObAnd (YA P G base R s0 H0 (fun s2 H2=>SameP s2 s1 H2 H1)) (vsame base s0 H0 s1 H1 Rs k)
theorem XY {base:Nat} {s0 s1:List AV} {H0 H1:Hp}:∀ {Rs:List (List AI)} {k:Prop},vsame P G base s0 H0 s1 H1 Rs k->k/\∀ R ∈ Rs,AWd P G base R (fun st=>st=⟨s1,H1⟩) ⟨s0,H0⟩
 | [],_,h=>⟨h,fun R hR=>by cases hR⟩
 | R::Rs,k,h=>by
  obtain ⟨h1,h2⟩:=h
  obtain ⟨h3,h4⟩:=XY h2
  refine ⟨h3,fun R' hR=>?_⟩
  rcases List.mem_cons.1 hR with rfl|hR
  ·exact Xa P G (yp P G h1) fun st ⟨e1,e2⟩=>by cases st;simp at e1 e2;rw [e1,e2]
  ·exact h4 R' hR
def veach (base:Nat) (s0:List AV) (H0:Hp) (k:KS):List (List AI)->Prop
 | []=>True
 | [R]=>YA P G base R s0 H0 k
 | R::Rs=>ObAnd (YA P G base R s0 H0 k) (veach base s0 H0 k Rs)
theorem veach_ok {base:Nat} {s0:List AV} {H0:Hp} {k:KS}:∀ {Rs:List (List AI)},veach P G base s0 H0 k Rs->∀ R ∈ Rs,AWd P G base R (fun st=>k st.s st.H) ⟨s0,H0⟩
 | [],_,R,hR=>by cases hR
 | [R],h,R',hR=>by
  have:=List.mem_singleton.1 hR
  subst this
  exact yp P G h
 | R::R2::Rs,h,R',hR=>by
  obtain ⟨h1,h2⟩:=h
  rcases List.mem_cons.1 hR with rfl|hR
  ·exact yp P G h1
  ·exact veach_ok h2 R' hR
def X0:List AI->List AV->Hp->KS->Prop
 | [],s,H,k=>k s H
 | o::os,s,H,k=>(match Nat.beq o.op.cls 0 with
  | true=>vgd P G o s H (fun s' H'=>X0 os s' H' k)
  | false=>ObD (Zq G H.length o ⟨s,H⟩) (vgd P G o s H (fun s' H'=>X0 os s' H' k)))
theorem XZ:∀ {os:List AI} {s:List AV} {H:Hp} {k:KS},X0 P G os s H k->AWe P G os (fun st=>k st.s st.H) ⟨s,H⟩
 | [],_,_,_,h=>h
 | o::os,s,H,k,h=>by
  have key:chk G H.length o ⟨s,H⟩/\vgd P G o s H (fun s' H'=>X0 P G os s' H' k):=by
   simp only [X0] at h
   split at h
   ·rename_i hb
    exact ⟨.inl (Nat.eq_of_beq_eq_true hb),h⟩
   ·obtain ⟨hc, h⟩ := h
    exact ⟨yW hc,h⟩
  obtain ⟨st',h1,h2⟩:=AWi_iff.1 (vgd_ok P G key.2)
  exact ⟨key.1,AWi_iff.2 ⟨st',h1,XZ (k:=k) h2⟩⟩
def veeach (s0:List AV) (H0:Hp) (k:KS):List (List AI)->Prop
 | []=>True
 | [R]=>ObN (noNew R=true) (X0 P G R s0 H0 k)
 | R::Rs=>ObAnd (ObN (noNew R=true) (X0 P G R s0 H0 k)) (veeach s0 H0 k Rs)
theorem veeach_ok {s0:List AV} {H0:Hp} {k:KS}:∀ {Rs:List (List AI)},veeach P G s0 H0 k Rs->∀ R ∈ Rs,noNew R=true/\AWe P G R (fun st=>k st.s st.H) ⟨s0,H0⟩
 | [],_,R,hR=>by cases hR
 | [R],h,R',hR=>by
  have:=List.mem_singleton.1 hR
  subst this
  obtain ⟨h1,h2⟩:=h
  exact ⟨h1,XZ P G h2⟩
 | R::R2::Rs,h,R',hR=>by
  obtain ⟨⟨h0,h1⟩,h2⟩:=h
  rcases List.mem_cons.1 hR with rfl|hR
  ·exact ⟨h0,XZ P G h1⟩
  ·exact veeach_ok h2 R' hR
def vdx (reps:List (List AI)) (s:List AV) (H:Hp) (k:KS):Prop :=
 match reps with
 | []=>True
 | R::Rs=>(match Rs with
  | []=>YA P G H.length R s H k
  | R2::Rs'=>ObDx (YA P G H.length R s H (fun s1 H1=>vsame P G H.length s H s1 H1 (R2::Rs') (k s1 H1))) (veach P G H.length s H k (R::R2::Rs')) (veeach P G s H k (R::R2::Rs')))
theorem vdx_ok {reps:List (List AI)} {s:List AV} {H:Hp} {k:KS} (h:vdx P G reps s H k):(∀ R ∈ reps,AWd P G H.length R (fun st=>k st.s st.H) ⟨s,H⟩)\/∀ R ∈ reps,noNew R=true/\AWe P G R (fun st=>k st.s st.H) ⟨s,H⟩:=by
 cases reps with
 | nil=>exact .inl fun R' hR=>by cases hR
 | cons R Rs =>
  cases Rs with
  | nil =>
   refine .inl fun R' hR=>?_
   have:=List.mem_singleton.1 hR
   subst this
   exact yp P G h
  | cons R2 Rs =>
   rcases h with h|h|h
   ·refine .inl fun R' hR=>?_
    have h1:=yp P G h
    obtain ⟨st1,h2⟩:=AWd_ex P G h1
    obtain ⟨h3,h4⟩:=XY P G h2
    rcases List.mem_cons.1 hR with rfl|hR
    ·exact Xa P G h1 fun st hst=>(XY P G hst).1
    ·exact Xa P G (h4 R' hR) fun st hst=>by rw [hst];exact h3
   ·exact .inl fun R' hR=>veach_ok P G h R' hR
   ·exact .inr fun R' hR=>veeach_ok P G h R' hR
theorem vdx_orders {ops : Array Oper} {as_ : List AI} (hl : ops.toList.length = as_.length) (hd : xf P ops as_ = true) {s : List AV} {H : Hp} {k : KS} (h : vdx P G (yl ops as_) s H k) (t : Nat) :
  ∃ bs:List AI,bs.length=(Region.schedule (P.follows .mixedOrders) ops t).length/\(∀ (j i:Nat) (ai:AI),(Region.schedule (P.follows .mixedOrders) ops t)[j]? = some i->bs[j]? = some ai->as_[i]? = some ai)/\AWs P G bs (fun st=>k st.s st.H) ⟨s,H⟩:=by
 rcases vdx_ok P G h with h|h
 ·exact drawx_orders hl hd h t
 ·exact drawx_orders2 hl hd (fun R hR=>(h R hR).1) (fun R hR=>(h R hR).2) t
def V (m:Nat):AC->(EX->St->Prop)->St->Prop
 | .skip,Q,st=>Q .n st
 | .region ops,Q,st=>(match st with|⟨s,H⟩=>vopx P G ops s H (fun s' H'=>Q .n ⟨s',H'⟩))
 | .draw ops,Q,st=>(match st with|⟨s,H⟩=>YA P G H.length ops s H (fun s' H'=>Q .n ⟨s',H'⟩))
 | .drawx reps,Q,st=>(match st with|⟨s,H⟩=>vdx P G reps s H (fun s' H'=>Q .n ⟨s',H'⟩))
 | .seq a b,Q,st=>V m a (yg (SeqP m (V m b Q)) Q) st
 | .cond c t e,Q,st=>(match st with|⟨s,H⟩=>eK G s c (fun c=>match c with
  | .v v=>(match v with|.bool b=>ObT b (V m t Q ⟨s,H⟩) (V m e Q ⟨s,H⟩)|_=>False)
  | _=>False))
 | .block id c,Q,st=>V m c (yw id Q) st
 | .loop c,Q,st=>LoopP m (V m c) Q st
 | .scope c,Q,st=>V m c Q st
 | .exit id,Q,st=>Q (.x id) st
 | .ret,Q,st=>Q .r st
 | .rng ..,_,_=>False
 | .drawq ..,_,_=>False
end
section
variable {P:Program} {G:Nat->AV} {hs:List FuncId} {B:Bd} {w0:World} {F0 F1:Fz} {O1:Ow} {m:Nat}
theorem w6 {P:Program} {G:Nat->AV} {m:Nat} {Q:EX->St->Prop} {st:St} (h:V P G m badC Q st):False:=by
 obtain ⟨s,H⟩:=st
 exact h
theorem V_ok (hm : O1.length <= m) : ∀ (c : Code) (ac : AC), ZN P hs c = some ac -> ∀ (Q : EX -> St -> Prop) (Q' : Exit -> Act -> World -> Prop) (st : St) (a : Act) (w : World) (F : Fz) (O : Ow), V P G m ac Q st -> Rl G B w0 F0 F1 O1 F O st a w ->
  (∀ e st' a' w' F' O',Q e st'->Rl G B w0 F0 F1 O1 F' O' st' a' w'->Q' e.out a' w')->c.wp P Q' a w:=by
 intro c
 induction c with
 | skip=>intro ac hc Q Q' st a w F O h hr hQ;cases hc;exact wp_skip (hQ .n st a w F O h hr)
 | label l=>intro ac hc Q Q' st a w F O h hr hQ;cases hc;exact wp_label (hQ .n st a w F O h hr)
 | region id ops draw =>
  intro ac hc Q Q' st a w F O h hr hQ
  obtain ⟨s,H⟩:=st
  simp only [ZN] at hc
  split at hc
  ·rename_i as_ has
   cases draw with
   | false =>
    cases hc
    exact region_textx has (k:=fun st=>Q .n ⟨st.s,st.H⟩) (fun st' a' w' F' O' hk hr'=>hQ .n st' a' w' F' O' hk hr') (vopx_ok P G (k:=fun s' H'=>Q .n ⟨s',H'⟩) h) hr
   | true =>
    simp only [if_true] at hc
    split at hc
    ·rename_i hd
     cases hc
     exact yT has (k:=fun st=>Q .n ⟨st.s,st.H⟩) (fun st' a' w' F' O' hk hr'=>hQ .n st' a' w' F' O' hk hr') (YZ (ZP has).1 hd (yp P G (k:=fun s' H'=>Q .n ⟨s',H'⟩) h)) hr
    ·split at hc
     ·rename_i hd
      cases hc
      exact yT has (k:=fun st=>Q .n ⟨st.s,st.H⟩) (fun st' a' w' F' O' hk hr'=>hQ .n st' a' w' F' O' hk hr') (vdx_orders P G (k:=fun s' H'=>Q .n ⟨s',H'⟩) (ZP has).1 hd h) hr
     ·split at hc
      ·cases hc;exact h.elim
      ·cases hc;exact (w6 h).elim
  ·cases hc
 | seq x y ihx ihy =>
  intro ac hc Q Q' st a w F O h hr hQ
  simp only [ZN] at hc
  split at hc
  ·rename_i p q hp hq
   cases hc
   refine wp_seq (ihx p hp _ _ st a w F O h hr fun e st' a' w' F' O' he hr'=>?_)
   cases e with
   | n =>
    rcases he with he|⟨st2,hf,he⟩|⟨i,n,cv,he⟩|⟨ss,cv,he⟩|⟨t,i,g,n,h0,hl,he⟩
    ·exact ihy q hq Q Q' st' a' w' F' O' he hr' hQ
    ·obtain ⟨O2, hr2⟩ := hr'.forget hm hf
     exact ihy q hq Q Q' st2 a' w' F' O2 he hr2 hQ
    ·obtain ⟨s', H'⟩ := st'
     obtain ⟨st2,F2,he,hr2⟩:=fzK_ok he hr'
     exact ihy q hq Q Q' st2 a' w' F2 O' he hr2 hQ
    ·obtain ⟨s', H'⟩ := st'
     obtain ⟨st2,he,hr2⟩:=nlK_ok he hr'
     exact ihy q hq Q Q' st2 a' w' F' O' he hr2 hQ
    ·obtain ⟨c, hc, hr2⟩ := ocK_ok h0 hl hr'
     exact ihy q hq Q Q' _ a' w' F' O' (he c hc) hr2 hQ
   | x id=>exact hQ (.x id) st' a' w' F' O' he hr'
   | r=>exact hQ .r st' a' w' F' O' he hr'
  ·cases hc
 | cond c x y ihx ihy =>
  intro ac hc Q Q' st a w F O h hr hQ
  obtain ⟨s,H⟩:=st
  simp only [ZN] at hc
  split at hc
  ·rename_i p q r hp hq hr'
   cases hc
   have ho:=hr.operand 0 c p hp
   simp only [V,Zt] at h
   split at h
   ·rename_i v hv
    split at h
    ·rename_i b
     rw [hv] at ho
     have ho:=ho.pvC rfl
     have e:a.eval c = .bool b:=by generalize a.eval c=q at ho;cases ho;rfl
     obtain ⟨h1,h2⟩:=h
     cases b
     ·exact wp_cond_false e (ihy r hr' Q Q' _ a w F O (h2 rfl) hr hQ)
     ·exact wp_cond_true e (ihx q hq Q Q' _ a w F O (h1 rfl) hr hQ)
    ·exact h.elim
   ·exact h.elim
  ·cases hc
 | block id c ih =>
  intro ac hc Q Q' st a w F O h hr hQ
  simp only [ZN] at hc
  split at hc
  ·rename_i p hp
   cases hc
   refine wp_block (ih p hp _ _ st a w F O h hr fun e st' a' w' F' O' he hr'=>?_)
   cases e with
   | n=>exact hQ .n st' a' w' F' O' he hr'
   | x id' =>
    simp only [yw] at he
    show (if id'=id then Q' .normal a' w' else Q' (.exit id') a' w')
    by_cases hid:id'=id
    ·rw [if_pos hid] at he ⊢;exact hQ .n st' a' w' F' O' he hr'
    ·rw [if_neg hid] at he ⊢;exact hQ (.x id') st' a' w' F' O' he hr'
   | r=>exact hQ .r st' a' w' F' O' he hr'
  ·cases hc
 | loop c ih =>
  intro ac hc Q Q' st a w F O h hr hQ
  simp only [ZN] at hc
  split at hc
  ·rename_i p hp
   cases hc
   obtain ⟨α,J,μ,sc,a0,h0,h1,h2⟩:=h
   have key:∀ (n:Nat) (x:α) (a:Act) (w:World) (F:Fz) (O:Ow),μ x < n->J x->Rl G B w0 F0 F1 O1 F O (sc x) a w->Code.rounds P c Q' n a w:=by
    intro n
    induction n with
    | zero=>intro x a w F O hx;omega
    | succ n ihn =>
     intro x a w F O hx hJ hr
     rw [rounds_succ]
     refine ih p hp _ _ (sc x) a w F O (h2 x hJ) hr fun e st' a' w' F' O' he hr'=>?_
     cases e with
     | n =>
      obtain ⟨x',g1,g2,g3⟩:=he
      obtain ⟨O2,hr2⟩:=hr'.forget hm g3
      exact ihn x' a' w' F' O2 (by omega) g1 hr2
     | x id=>exact hQ (.x id) st' a' w' F' O' he hr'
     | r=>exact hQ .r st' a' w' F' O' he hr'
   obtain ⟨O2,hr2⟩:=hr.forget hm h1
   exact wp_loop_rounds (μ a0+1) (key (μ a0+1) a0 a w F O2 (Nat.lt_succ_self _) h0 hr2)
  ·cases hc
 | scope c ih =>
  intro ac hc Q Q' st a w F O h hr hQ
  simp only [ZN] at hc
  split at hc
  ·rename_i p hp
   cases hc
   refine wp_scope_straight (ih p hp Q _ st a w F O h hr fun e st' a' w' F' O' he hr'=>?_)
   have:=hQ e st' a' w' F' O' he hr'
   cases e<;>exact this
  ·cases hc
 | exit id=>intro ac hc Q Q' st a w F O h hr hQ;cases hc;exact wp_exit (hQ (.x id) st a w F O h hr)
 | ret=>intro ac hc Q Q' st a w F O h hr hQ;cases hc;exact wp_ret (hQ .r st a w F O h hr)
 | rangeFunc=>intro ac hc;cases hc
 | goto=>intro ac hc Q Q' st a w F O h;cases hc;exact (w6 h).elim
 | refuse=>intro ac hc Q Q' st a w F O h;cases hc;exact (w6 h).elim
end
inductive ObEq (a b:AV):Prop
 | mk (h:a=b):ObEq a b
inductive ObEnd (m:Nat) (v r:AV):Hp->Hp->Prop
 | eq {H H':Hp} (h:v=r) (hH:H=H'):ObEnd m v r H H'
 | cut {H H':Hp} (H1:Hp) (hc:Ct H H1) (h:ObEnd m v r H1 H'):ObEnd m v r H H'
 | view {H H':Hp} (T:Tb) (h:rnB T r=some v) (vw:Vw T H H') (hb:Bas m T H):ObEnd m v r H H'
theorem ObEnd.out {m:Nat} {v r:AV} {H1 H':Hp} (hx:ObEnd m v r H1 H') {B:Bd} {w0 w:World} {F0 F F1:Fz} {O O1:Ow} {y:Value} (own:Own B w0 F0 F O H1 w) (hv:VR F O y v) (hO:O1.length<=m) (leO:O1.le O):∃ O2,VR F O2 y r/\Own B w0 F0 F O2 H' w/\O1.le O2:=by
 induction hx with
 | eq h hH=>subst h;subst hH;exact ⟨O,hv,own,leO⟩
 | cut H1 hc h ih=>exact ih (own.ct hc)
 | view T h vw hb =>
  obtain ⟨O2,own2,hto⟩:=own.view vw
  exact ⟨O2,hv.rnB hto h,own2,leO_view own hO leO hto hb⟩
def rsK (s:List AV) (H:Hp):List RS->(List AV->Prop)->Prop
 | [],k=>k []
 | (t,x)::rs,k=>(match x with
  | none=>gK s t (fun a=>rsK s H rs (fun vs=>k (a::vs)))
  | some gn=>(match gn with|(g,n)=>gK s t (fun a=>vLoad H g n a (fun v=>rsK s H rs (fun vs=>k (v::vs))))))
theorem X5 {s:List AV} {H:Hp}:∀ {rs:List RS} {k:List AV->Prop},rsK s H rs k->∃ vs,z6 ⟨s,H⟩ rs=some vs/\k vs
 | [],_,h=>⟨_,rfl,h⟩
 | (t,none)::rs,k,h=>by
  simp only [rsK,gK_eq] at h
  obtain ⟨vs,h1,h2⟩:=X5 h
  exact ⟨_,by simp only [z6,h1];rfl,h2⟩
 | (t,some (g,n))::rs,k,h=>by
  simp only [rsK,gK_eq] at h
  obtain ⟨v,h1,h2⟩:=vLoad_ok h
  obtain ⟨vs,h3,h4⟩:=X5 h2
  have h1':zr H g n (s.getD t zd)=some v:=h1
  exact ⟨_,by simp only [z6,h1',h3],h4⟩
def resK (vs:List AV) (k:AV->Prop):Prop :=
 match vs with
 | []=>k (.tup [])
 | a::t=>(match t with|[]=>k a|b::t'=>k (.tup (a::b::t')))
theorem Ww (vs:List AV) (k:AV->Prop):resK vs k=k (zp vs):=by
 rcases vs with _|⟨a,_|⟨b,t⟩⟩<;>rfl
def EndP (ts:List RS) (r:AV) (e:EX) (st:St):Prop :=
 match e with
 | .x _=>False
 | _=>(match st with|⟨s,H⟩=>rsK s H ts (fun vs=>fzA H vs (fun vs' _=>resK vs' (fun v=>ObEq v r))))
def EndH (m:Nat) (ts:List RS) (r:AV) (H':Hp) (e:EX) (st:St):Prop :=
 match e with
 | .x _=>False
 | _=>(match st with|⟨s,H⟩=>rsK s H ts (fun vs=>resK vs (fun v=>ObEnd m v r H H')))
def YY:List AV->Nat->(List AV->Prop)->Prop
 | as_,0,k=>k as_
 | [],n+1,k=>YY [] n (fun s=>k (zd::s))
 | a::as_,n+1,k=>YY as_ n (fun s=>k (a::s))
theorem YX:∀ (as_:List AV) (n:Nat) (k:List AV->Prop),YY as_ n k=k (as_++List.replicate (n - as_.length) zd)
 | as_,0,k=>by cases as_<;>simp [YY]
 | [],n+1,k=>by rw [YY,YX [] n];simp [List.replicate_succ]
 | a::as_,n+1,k=>by rw [YY,YX as_ n];simp
section
variable {P:Program} {G:Nat->AV} {hs:List FuncId}
theorem pc_ofV' {f : FuncId} {af : AF} (hf : zI P hs f = some af) {as_ : List AV} {r : AV}
  (h:∀ (w:World) (F:Fz) (xs:List Value),xs.length=as_.length->(∀ (i:Nat) (c:Value) (a:AV),xs[i]? = some c->as_[i]? = some a->PV F c a)->∃ bs:List AV,bs.length=as_.length/\(∀ (i:Nat) (c:Value) (a:AV),xs[i]? = some c->bs[i]? = some a->VR F [] c a)/\YY bs af.n (fun s=>V P G 0 af.body (EndP af.res r) ⟨s,[]⟩)):PC P G f as_ r:=by
 unfold zI at hf
 split at hf
 ·rename_i fn hfn
  split at hf
  ·rename_i c hc
   split at hf
   ·rename_i ts ac hts hac
    cases hf
    intro w F xs hfr hg hl hv
    obtain ⟨bs,hbl,hbv,h⟩:=h w F xs hl hv
    rw [YX] at h
    have hown:Own (Bd.of w.heap.size) w F F [] [] w:=⟨rfl,fun i d ob hd=>by simp at hd,fun i j d d' hd=>by simp at hd,hfr,Fz.le_refl F,fun b o v hv=>.inl hv,Below.refl _ _,Nat.le_refl _,fun _ h=>h.elim,fun _ h=>h.elim⟩
    refine calls_of_wp hfn hc (V_ok (Nat.le_refl _) c ac hac _ _ _ _ _ F [] h (xe hown hg (by rw [hl,hbl]) hbv) fun e st' a' w' F' O' he hr=>?_)
    have key:∀ {s:List AV} {H:Hp},st'=⟨s,H⟩->rsK s H ts (fun vs=>fzA H vs (fun vs' _=>resK vs' (fun v=>ObEq v r)))->a'.defers=[]/\∃ v,(results fn a'.tmps).run P w' = .ok v w'/\∃ v1 F',(Ending.returned v) = .returned v1/\PV F' v1 r/\F.le F'/\(∀ b o v,F' b o=some v->w'.cell? ⟨b,o,none⟩=some v)/\(∀ b o v,F' b o=some v->F b o=some v\/w.heap.size<=b)/\Below w.heap.size w w':=by
     intro s H hst he
     obtain ⟨vs,hvs,he⟩:=X5 he
     obtain ⟨rs,H',hp,he⟩:=WL he
     rw [Ww] at he
     obtain ⟨hrs⟩:=he
     subst hst
     obtain ⟨ys,y1,y2,y3⟩:=yb hr hts hvs
     obtain ⟨F2,p1,p2,o2,l2⟩:=Y5 hr.own y2 y3 hp
     refine ⟨hr.defs,_,y1,_,F2,rfl,?_,Fz.le_trans hr.leF l2,o2.fr,fun b o v hv=>(o2.new b o v hv).imp id (·.1),o2.below⟩
     rw [<- hrs]
     exact xL (by omega) p1
    cases e with
    | n=>exact key rfl he
    | r=>exact key rfl he
    | x id=>exact he.elim
   ·cases hf
  ·cases hf
 ·cases hf
theorem zf {f:FuncId} {af:AF} (hf:zI P hs f=some af) {as_:List AV} {r:AV} (h:YY as_ af.n (fun s=>V P G 0 af.body (EndP af.res r) ⟨s,[]⟩)):PC P G f as_ r :=
 pc_ofV' hf fun w F xs hl hv=>⟨as_,rfl,fun i c a hc ha=>.p (hv i c a hc ha),h⟩
inductive EmL:List AV->List AV->Prop
 | nil:EmL [] []
 | same (a:AV) {as_ bs:List AV} (h:EmL as_ bs):EmL (a::as_) (a::bs)
 | em (b:Bool) (k:Nat) {as_ bs:List AV} (h:EmL as_ bs):EmL (.sl k []::as_) (.em b k::bs)
theorem ZR {f:FuncId} {af:AF} (hf:zI P hs f=some af) {as_:List AV} {H:Hp} {r:AV} {H':Hp} {m:Nat} (hm:H.length=m) (h:YY as_ af.n (fun s=>V P G m af.body (EndH m af.res r H') ⟨s,H⟩)):HC P G f as_ H r H':=by
 unfold zI at hf
 split at hf
 ·rename_i fn hfn
  split at hf
  ·rename_i c hc
   split at hf
   ·rename_i ts ac hts hac
    cases hf
    intro B w0 F0 F O w xs hown0 hg hl hv
    have hown:=hown0.ds []
    rw [YX] at h
    have hO:O.length<=m:=by rw [hown.len,hm];exact Nat.le_refl _
    refine calls_of_wp hfn hc (V_ok hO c ac hac _ _ _ _ _ F O h (xe hown hg hl hv) fun e st' a' w' F' O' he hr=>?_)
    have key:∀ {s:List AV} {H1:Hp},st'=⟨s,H1⟩->rsK s H1 ts (fun vs=>resK vs (fun v=>ObEnd m v r H1 H'))->a'.defers=[]/\∃ v,(results fn a'.tmps).run P w' = .ok v w'/\∃ v1,(Ending.returned v) = .returned v1/\Out B w0 F0 F O r H' v1 w':=by
     intro s H1 hst hx
     obtain ⟨vs,hvs,hx⟩:=X5 hx
     rw [Ww] at hx
     subst hst
     obtain ⟨ys,y1,y2,y3⟩:=yb hr hts hvs
     obtain ⟨O2,q1,q2,q3⟩:=hx.out (F1:=F) hr.own (resOf_vr y2 y3) hO hr.leO
     exact ⟨hr.defs,_,y1,_,rfl,F',O2,q1,q2.ds B.ds,hr.leF,q3⟩
    cases e with
    | n=>exact key rfl he
    | r=>exact key rfl he
    | x id=>exact he.elim
   ·cases hf
  ·cases hf
 ·cases hf
end
def mx:List AV->List (Nat × Option AV)->List AV
 | s,[]=>s
 | [],_::_=>[]
 | _::s,(0,v)::ms=>v.getD .unk::mx s ms
 | a::s,(g+1,v)::ms=>a::mx s ((g,v)::ms)
def mxK:List AV->List (Nat × Option AV)->(List AV->Prop)->Prop
 | s,[],k=>k s
 | [],_::_,k=>k []
 | _::s,(0,v)::ms,k=>(match v with|none=>mxK s ms (fun s'=>k (.unk::s'))|some v=>mxK s ms (fun s'=>k (v::s')))
 | a::s,(g+1,v)::ms,k=>mxK s ((g,v)::ms) (fun s'=>k (a::s'))
theorem YU:∀ (s:List AV) (M:List (Nat × Option AV)) (k:List AV->Prop),mxK s M k=k (mx s M)
 | s,[],k=>by cases s<;>simp [mxK,mx]
 | [],_::_,k=>rfl
 | _::s,(0,none)::ms,k=>by simp only [mxK,mx];rw [YU s ms];rfl
 | _::s,(0,some v)::ms,k=>by simp only [mxK,mx];rw [YU s ms];rfl
 | a::s,(g+1,v)::ms,k=>by simp only [mxK,mx];rw [YU s]
inductive ObEqs (a b:List AV) (k:Prop):Prop
 | mk (h:a=b) (hk:k):ObEqs a b k
inductive ObEq1 (a b:AV) (k:Prop):Prop
 | mk (h:a=b) (hk:k):ObEq1 a b k
def fgM:List AV->List AV->List AV->List AV->List (Nat × Option AV)->Prop
 | as_,bs,s,s0,[]=>ObEqs as_ bs (ObEqs s s0 True)
 | as_,bs,a::s,b::s0,(0,v)::ms=>(match v with
  | none=>fgM as_ bs s s0 ms
  | some v=>ObEq1 a v (fgM as_ bs s s0 ms))
 | as_,bs,a::s,b::s0,(g+1,v)::ms=>fgM (a::as_) (b::bs) s s0 ((g,v)::ms)
 | _,_,_,_,_::_=>False
theorem fgM_ok:∀ {M:List (Nat × Option AV)} {as_ bs s s0:List AV},fgM as_ bs s s0 M->as_=bs/\s.length=(mx s0 M).length/\∀ (i:Nat) (b:AV),(mx s0 M)[i]? = some b->b = .unk\/s[i]? = some b
 | [],as_,bs,s,s0,h=>by
  have h':ObEqs as_ bs (ObEqs s s0 True):=by cases s<;>cases s0<;>exact h
  obtain ⟨h1,h2,_⟩:=h'
  subst h2
  have e:mx s []=s:=by cases s<;>rfl
  rw [e]
  exact ⟨h1,rfl,fun i b hb=>.inr hb⟩
 | (0,none)::ms,as_,bs,a::s,b::s0,h=>by
  obtain ⟨h1,h2,h3⟩:=fgM_ok (M:=ms) h
  refine ⟨h1,by simp [mx,h2],fun i c hc=>?_⟩
  cases i with
  | zero=>left;simp [mx] at hc;exact hc.symm
  | succ i=>simp only [mx,List.getElem?_cons_succ] at hc ⊢;exact h3 i c hc
 | (0,some v)::ms,as_,bs,a::s,b::s0,h=>by
  obtain ⟨he,h⟩:=h
  obtain ⟨h1,h2,h3⟩:=fgM_ok (M:=ms) h
  refine ⟨h1,by simp [mx,h2],fun i c hc=>?_⟩
  cases i with
  | zero=>right;simp [mx] at hc;simp [he,hc]
  | succ i=>simp only [mx,List.getElem?_cons_succ] at hc ⊢;exact h3 i c hc
 | (g+1,v)::ms,as_,bs,a::s,b::s0,h=>by
  obtain ⟨h1,h2,h3⟩:=fgM_ok (M:=(g,v)::ms) (as_:=a::as_) (bs:=b::bs) (s:=s) (s0:=s0) h
  simp only [List.cons.injEq] at h1
  refine ⟨h1.2,by simp [mx,h2],fun i c hc=>?_⟩
  cases i with
  | zero=>right;simp [mx] at hc;simp [h1.1,hc]
  | succ i=>simp only [mx,List.getElem?_cons_succ] at hc ⊢;exact h3 i c hc
 | _::_,_,_,[],_,h=>by simp [fgM] at h
 | _::_,_,_,_::_,[],h=>by simp [fgM] at h
theorem Fg.go {m:Nat} {s s0:List AV} {H H2:Hp} {M:List (Nat × Option AV)} (h:fgM [] [] s s0 M) (hH:H=H2):Fg m ⟨s,H⟩ ⟨mx s0 M,H2⟩:=by
 obtain ⟨_,h2,h3⟩:=fgM_ok h
 exact .same h2 h3 hH
def fxC (T:Tb) (a:AV) (k:Prop):Prop :=
 match a with
 | .ol j g _=>ObN (T[j]? = some (g,j,g)) k
 | .oa j g _ _=>ObN (T[j]? = some (g,j,g)) k
 | .io _ j g _ _=>ObN (T[j]? = some (g,j,g)) k
 | .oc j g _ _=>ObN (T[j]? = some (g,j,g)) k
 | .mf _ _ j g _ _=>ObN (T[j]? = some (g,j,g)) k
 | .bf _ j g _ _=>ObN (T[j]? = some (g,j,g)) k
 | .ib _ _ j g _ _=>ObN (T[j]? = some (g,j,g)) k
 | .mp j g=>ObN (T[j]? = some (g,j,g)) k
 | .agg _=>False
 | .tup _=>False
 | .fn _ _=>False
 | .os ..=>False
 | _=>k
theorem fxC_ok {T:Tb} {a:AV} {k:Prop} (h:fxC T a k):rnC T a=some a/\k:=by
 cases a with
 | ol j g n=>obtain ⟨h1,h2⟩:=h;exact ⟨by simp [rnC,h1],h2⟩
 | oa j g e off=>obtain ⟨h1,h2⟩:=h;exact ⟨by simp [rnC,h1],h2⟩
 | io t j g e off=>obtain ⟨h1,h2⟩:=h;exact ⟨by simp [rnC,h1],h2⟩
 | oc j g n c=>obtain ⟨h1,h2⟩:=h;exact ⟨by simp [rnC,h1],h2⟩
 | mf nm t j g e off=>obtain ⟨h1,h2⟩:=h;exact ⟨by simp [rnC,h1],h2⟩
 | bf f j g e off=>obtain ⟨h1,h2⟩:=h;exact ⟨by simp [rnC,h1],h2⟩
 | ib t f j g e off=>obtain ⟨h1,h2⟩:=h;exact ⟨by simp [rnC,h1],h2⟩
 | mp j g=>obtain ⟨h1,h2⟩:=h;exact ⟨by simp [rnC,h1],h2⟩
 | agg=>exact h.elim
 | tup=>exact h.elim
 | fn=>exact h.elim
 | os=>exact h.elim
 | _=>exact ⟨rfl,h⟩
def fxL (T:Tb):List AV->Prop->Prop
 | [],k=>k
 | a::as_,k=>fxC T a (fxL T as_ k)
theorem fxL_ok {T:Tb}:∀ {as_:List AV} {k:Prop},fxL T as_ k->rnL T as_=some as_/\k
 | [],_,h=>⟨rfl,h⟩
 | a::as_,k,h=>by
  obtain ⟨h1,h2⟩:=fxC_ok h
  obtain ⟨h3,h4⟩:=fxL_ok h2
  exact ⟨by simp [rnL,h1,h3],h4⟩
def fxB (T:Tb) (a:AV) (k:Prop):Prop :=
 match a with
 | .agg cs=>fxL T cs k
 | .tup cs=>fxL T cs k
 | .fn _ cs=>fxL T cs k
 | a=>fxC T a k
theorem fxB_ok {T:Tb} {a:AV} {k:Prop} (h:fxB T a k):rnB T a=some a/\k:=by
 cases a with
 | agg cs=>obtain ⟨h1,h2⟩:=fxL_ok h;exact ⟨by simp [rnB,h1],h2⟩
 | tup cs=>obtain ⟨h1,h2⟩:=fxL_ok h;exact ⟨by simp [rnB,rnT_rnL h1],h2⟩
 | fn f cs=>obtain ⟨h1,h2⟩:=fxL_ok h;exact ⟨by simp [rnB,h1],h2⟩
 | _=>simp only [fxB] at h;exact fxC_ok h
def fxs (T:Tb):List AV->Prop->Prop
 | [],k=>k
 | a::as_,k=>fxB T a (fxs T as_ k)
theorem fxs_ok {T:Tb}:∀ {as_:List AV} {k:Prop},fxs T as_ k->(∀ a ∈ as_,rnB T a=some a)/\k
 | [],_,h=>⟨fun a ha=>(by cases ha),h⟩
 | a::as_,k,h=>by
  obtain ⟨h1,h2⟩:=fxB_ok h
  obtain ⟨h3,h4⟩:=fxs_ok h2
  refine ⟨fun b hb=>?_,h4⟩
  rcases List.mem_cons.1 hb with rfl|hb
  ·exact h1
  ·exact h3 b hb
inductive ObRn (T:Tb) (v a:AV) (k:Prop):Prop
 | mk (h:rnB T v=some a) (hk:k):ObRn T v a k
def fgT (T:Tb):List AV->List AV->List AV->List AV->List (Nat × Option AV)->Prop
 | as_,bs,s,s0,[]=>ObEqs as_ bs (fxs T as_ (ObEqs s s0 (fxs T s True)))
 | as_,bs,a::s,b::s0,(0,v)::ms=>(match v with
  | none=>fgT T as_ bs s s0 ms
  | some v=>ObRn T v a (fgT T as_ bs s s0 ms))
 | as_,bs,a::s,b::s0,(g+1,v)::ms=>fgT T (a::as_) (b::bs) s s0 ((g,v)::ms)
 | _,_,_,_,_::_=>False
theorem fgT_ok {T:Tb}:∀ {M:List (Nat × Option AV)} {as_ bs s s0:List AV},fgT T as_ bs s s0 M->(as_=bs/\∀ a ∈ as_,rnB T a=some a)/\s.length=(mx s0 M).length/\∀ (i:Nat) (b:AV),(mx s0 M)[i]? = some b->b = .unk\/∃ a,s[i]? = some a/\rnB T b=some a
 | [],as_,bs,s,s0,h=>by
  have h':ObEqs as_ bs (fxs T as_ (ObEqs s s0 (fxs T s True))):=by cases s<;>cases s0<;>exact h
  obtain ⟨h1,h2⟩:=h'
  obtain ⟨h3,h4,h5⟩:=fxs_ok h2
  obtain ⟨h6,_⟩:=fxs_ok h5
  subst h4
  have e:mx s []=s:=by cases s<;>rfl
  rw [e]
  exact ⟨⟨h1,h3⟩,rfl,fun i b hb=>.inr ⟨b,hb,h6 b (List.mem_of_getElem? hb)⟩⟩
 | (0,none)::ms,as_,bs,a::s,b::s0,h=>by
  obtain ⟨h1,h2,h3⟩:=fgT_ok (M:=ms) h
  refine ⟨h1,by simp [mx,h2],fun i c hc=>?_⟩
  cases i with
  | zero=>left;simp [mx] at hc;exact hc.symm
  | succ i=>simp only [mx,List.getElem?_cons_succ] at hc ⊢;exact h3 i c hc
 | (0,some v)::ms,as_,bs,a::s,b::s0,h=>by
  obtain ⟨he,h⟩:=h
  obtain ⟨h1,h2,h3⟩:=fgT_ok (M:=ms) h
  refine ⟨h1,by simp [mx,h2],fun i c hc=>?_⟩
  cases i with
  | zero=>right;simp [mx] at hc;exact ⟨a,rfl,by rw [<- hc];exact he⟩
  | succ i=>simp only [mx,List.getElem?_cons_succ] at hc ⊢;exact h3 i c hc
 | (g+1,v)::ms,as_,bs,a::s,b::s0,h=>by
  obtain ⟨⟨h1,h1'⟩,h2,h3⟩:=fgT_ok (M:=(g,v)::ms) (as_:=a::as_) (bs:=b::bs) (s:=s) (s0:=s0) h
  simp only [List.cons.injEq] at h1
  refine ⟨⟨h1.2,fun x hx=>h1' x (List.mem_cons_of_mem _ hx)⟩,by simp [mx,h2],fun i c hc=>?_⟩
  cases i with
  | zero=>right;simp [mx] at hc;exact ⟨a,rfl,by rw [<- hc,<- h1.1];exact h1' a (List.mem_cons_self ..)⟩
  | succ i=>simp only [mx,List.getElem?_cons_succ] at hc ⊢;exact h3 i c hc
 | _::_,_,_,[],_,h=>by simp [fgT] at h
 | _::_,_,_,_::_,[],h=>by simp [fgT] at h
def nrB (a:AV):Bool:=a.cells.all fun c=>match c with
 | .v _=>true
 | .sl _ _=>true
 | .ad _ _ _ _=>true
 | .nl _=>true
 | .em _ _=>true
 | _=>false
theorem nrB_ok {T:Tb} {a:AV} (h:nrB a=true):rnL T a.cells=some a.cells:=by
 unfold nrB at h
 generalize a.cells=cs at h
 induction cs with
 | nil=>rfl
 | cons c cs ih =>
  simp only [List.all_cons,Bool.and_eq_true] at h
  have h1:rnC T c=some c:=by
   cases c with
   | v=>rfl
   | sl=>rfl
   | ad=>rfl
   | nl=>rfl
   | em=>rfl
   | _=>simp at h
  simp [rnL,h1,ih h.2]
inductive ObRow (T:Tb) (es es2:List AV) (k:Prop):Prop
 | same (h:es2=es) (hn:es.all nrB=true) (hk:k):ObRow T es es2 k
 | lit (h:(es2.map fun e=>rnR T e.cells)=es.map fun e=>some e.cells) (hk:k):ObRow T es es2 k
theorem ObRow.ok {T:Tb} {es es2:List AV} {k:Prop} (h:ObRow T es es2 k):(es2.length=es.length/\∀ (n:Nat) (e2:AV),es2[n]? = some e2->∃ e,es[n]? = some e/\rnR T e2.cells=some e.cells)/\k:=by
 rcases h with ⟨rfl,hn,hk⟩|⟨h,hk⟩
 ·exact ⟨⟨rfl,fun n e2 he=>⟨e2,he,rnL_rnR (nrB_ok (List.all_eq_true.1 hn e2 (List.mem_of_getElem? he)))⟩⟩,hk⟩
 ·have hl : es2.length = es.length := by have := congrArg List.length h; simpa using this
  refine ⟨⟨hl,fun n e2 he=>?_⟩,hk⟩
  have hn:n < es.length:=by rw [<- hl];exact (List.getElem?_eq_some_iff.1 he).1
  have:=congrArg (·[n]?) h
  simp only [List.getElem?_map,he,List.getElem?_eq_getElem hn,Option.map_some,Option.some.injEq] at this
  exact ⟨es[n],List.getElem?_eq_getElem hn,this⟩
def vwK (T0:Tb) (H:Hp):Tb->Hp->Prop->Prop
 | [],[],k=>k
 | (g2,i,g)::T,o2::H2,k=>rK H i (fun o=>match o with
  | ⟨e,kk,es,g',fz⟩=>(match o2 with
   | ⟨e2,kk2,es2,g2',fz2⟩=>ObN (g2'=g2) (ObN (g'=g) (ObN (e2=e) (ObN (kk2=kk) (ObN (fz2=fz) (ObRow T0 es es2 (vwK T0 H T H2 k))))))))
 | _,_,_=>False
theorem vwK_ok {T0 : Tb} {H : Hp} : ∀ {T : Tb} {H2 : Hp} {k : Prop}, vwK T0 H T H2 k -> (H2.length = T.length /\ ∀ (j : Nat) (ob2 : OB), H2[j]? = some ob2 -> ∃ i g ob, T[j]? = some (ob2.g, i, g) /\ H[i]? = some ob /\ ob.g = g /\ ob2.e = ob.e /\ ob2.k = ob.k /\ ob2.fz = ob.fz /\ ob2.es.length = ob.es.length /\
  ∀ (n:Nat) (e2:AV),ob2.es[n]? = some e2->∃ e,ob.es[n]? = some e/\rnR T0 e2.cells=some e.cells)/\k
 | [],[],k,h=>⟨⟨rfl,fun j ob2 hj=>by simp at hj⟩,h⟩
 | (g2,i,g)::T,o2::H2,k,h=>by
  obtain ⟨o,h1,h2⟩:=wQ h
  obtain ⟨e,kk,es,g',fz⟩:=o
  obtain ⟨e2,kk2,es2,g2',fz2⟩:=o2
  obtain ⟨rfl,rfl,rfl,rfl,rfl,h2⟩:=h2
  obtain ⟨⟨l1,l2⟩,h2⟩:=h2.ok
  obtain ⟨⟨h3,h4⟩,h5⟩:=vwK_ok h2
  refine ⟨⟨by simp [h3],fun j ob2 hj=>?_⟩,h5⟩
  cases j with
  | zero=>simp at hj;subst hj;exact ⟨i,_,_,rfl,h1,rfl,rfl,rfl,rfl,l1,l2⟩
  | succ j=>obtain ⟨i',g',ob,q⟩:=h4 j ob2 (by simpa using hj);exact ⟨i',g',ob,by simpa using q⟩
 | [],_::_,_,h=>h.elim
 | _::_,[],_,h=>h.elim
theorem Vw.of {T:Tb} {H H2:Hp} (h:vwK T H T H2 True) (hn:(T.map (·.2.1)).Nodup):Vw T H H2:=by
 obtain ⟨⟨h1,h2⟩,_⟩:=vwK_ok h
 refine ⟨h1,h2,fun j j' g2 i g g2' g' t1 t2=>?_⟩
 have e1:(T.map (·.2.1))[j]? = some i:=by simp [t1]
 have e2:(T.map (·.2.1))[j']? = some i:=by simp [t2]
 have hj:=List.getElem?_eq_some_iff.1 e1
 have hj':=List.getElem?_eq_some_iff.1 e2
 obtain ⟨q1,q2⟩:=hj
 obtain ⟨q3,q4⟩:=hj'
 have hp:=List.pairwise_iff_getElem.1 hn
 rcases Nat.lt_trichotomy j j' with h|h|h
 ·exact absurd (q2.trans q4.symm) (hp j j' q1 q3 h)
 ·exact h
 ·exact absurd (q4.trans q2.symm) (hp j' j q3 q1 h)
def bsK:Nat->List Nat->Tb->Hp->Prop
 | 0,_,_,_=>True
 | m+1,j::js,(g2,i,g)::T,o::H=>ObO (ObN (i=j) (ObN (g2=g) (bsK m js T H))) (ObN (o.g < g2) (bsK m js T H))
 | _,_,_,_=>False
theorem bsK_aux:∀ (m q:Nat) (js:List Nat) (T:Tb) (H:Hp),(∀ (i n:Nat),js[i]? = some n->n=q+i)->bsK m js T H->∀ j,j < m->∃ g2 i g,T[j]? = some (g2,i,g)/\((i=q+j/\g2=g)\/∃ ob,H[j]? = some ob/\ob.g < g2)
 | 0,_,_,_,_,_,_,j,hj=>by omega
 | m+1,q,j0::js,(g2,i,g)::T,o::H,hn,h,j,hj=>by
  have h0:j0=q:=hn 0 j0 rfl
  have rest:bsK m js T H:=by rcases h with ⟨_,_,h⟩|⟨_,h⟩<;>exact h
  cases j with
  | zero =>
   refine ⟨g2,i,g,rfl,?_⟩
   rcases h with ⟨h1,h2,_⟩|⟨h1,_⟩
   ·left;exact ⟨by omega,h2⟩
   ·right;exact ⟨o,rfl,h1⟩
  | succ j =>
   obtain ⟨a,b,c,h1,h2⟩:=bsK_aux m (q+1) js T H (fun i n hi=>by have:=hn (i+1) n (by simpa using hi);omega) rest j (by omega)
   exact ⟨a,b,c,by simpa using h1,by rcases h2 with ⟨x,y⟩|h2;exact .inl ⟨by omega,y⟩;exact .inr (by simpa using h2)⟩
theorem Bas.of {m:Nat} {T:Tb} {H:Hp} (h:bsK m y8 T H):Bas m T H:=fun j hj=>by
 have:=bsK_aux m 0 y8 T H (fun i n hn=>by
  simp only [y8] at hn
  rcases i with _|_|_|_|_|_|_|_|_|_|_|_|_|_|_|_|_|_|_|_|_|_|_|_|_|_|_|_|_|_|_|_|i<;>simp at hn<;>omega) h j hj
 simpa using this
theorem Fg.vw {m:Nat} {s s0:List AV} {H H2:Hp} {M:List (Nat × Option AV)} (T:Tb) (h:fgT T [] [] s s0 M) (v:vwK T H T H2 True) (hn:(T.map (·.2.1)).Nodup) (hb:bsK m y8 T H):Fg m ⟨s,H⟩ ⟨mx s0 M,H2⟩:=by
 obtain ⟨_,h2,h3⟩:=fgT_ok h
 exact .view T h2 h3 (Vw.of v hn) (Bas.of hb)
theorem ObEnd.vw {m:Nat} {v r:AV} {H H':Hp} (T:Tb) (h:rnB T r=some v) (w:vwK T H T H' True) (hn:(T.map (·.2.1)).Nodup) (hb:bsK m y8 T H):ObEnd m v r H H':=.view T h (Vw.of w hn) (Bas.of hb)
theorem Fg.ct {m:Nat} {s:List AV} {H:Hp} {st2:St} (i n:Nat) {ob:OB} {es':List AV} (hi:H[i]? = some ob) (ne:(ob.e == 4000000000)=false) (hf:ob.fz<=n) (hn:n<=ob.es.length) (he:ob.es.take n=es') (h:Fg m ⟨s,H.set i ⟨ob.e,ob.k,es',ob.g,ob.fz⟩⟩ st2):Fg m ⟨s,H⟩ st2:=by
 subst he
 exact .cut _ (Ct.set hi ne hf hn) h
theorem ObEnd.ct {m:Nat} {v r:AV} {H H':Hp} (i n:Nat) {ob:OB} {es':List AV} (hi:H[i]? = some ob) (ne:(ob.e == 4000000000)=false) (hf:ob.fz<=n) (hn:n<=ob.es.length) (he:ob.es.take n=es') (h:ObEnd m v r (H.set i ⟨ob.e,ob.k,es',ob.g,ob.fz⟩) H'):ObEnd m v r H H':=by
 subst he
 exact .cut _ (Ct.set hi ne hf hn) h
theorem LoopP.go {α : Type} {m : Nat} {Wc : (EX -> St -> Prop) -> St -> Prop} {Q : EX -> St -> Prop} {s : List AV} {H : Hp} (J : α -> Prop) (μ : α -> Nat) (M : α -> List (Nat × Option AV)) (Hc : α -> Hp) (a0 : α) (h0 : J a0) (h1 : Fg m ⟨s, H⟩ ⟨mx s (M a0), Hc a0⟩)
  (h2:∀ a,J a->mxK s (M a) (fun s'=>Wc (yg (Again m J μ (fun a=>⟨mx s (M a),Hc a⟩) (μ a)) Q) ⟨s',Hc a⟩)):LoopP m Wc Q ⟨s,H⟩ :=
 .mk α J μ (fun a=>⟨mx s (M a),Hc a⟩) a0 h0 h1 fun a ha=>by have:=h2 a ha;rw [YU] at this;exact this
-- rules
section
variable {t f k:Prop} {p:Prop}
theorem ObB.yes (hp:p) (h:t):ObB p t f:=⟨fun _=>h,fun hn=>absurd hp hn⟩
theorem ObB.no (hp:¬ p) (h:f):ObB p t f:=⟨fun h=>absurd h hp,fun _=>h⟩
theorem ObT.tt (h:t):ObT true t f:=⟨fun _=>h,fun h=>by cases h⟩
theorem ObT.ff (h:f):ObT false t f:=⟨fun h=>(by cases h),fun _=>h⟩
theorem ObT.yes {b:Bool} (hb:b=true) (h:t):ObT b t f:=⟨fun _=>h,fun h=>by rw [hb] at h;cases h⟩
theorem ObT.no {b:Bool} (hb:b=false) (h:f):ObT b t f:=⟨fun h=>(by rw [hb] at h;cases h),fun _=>h⟩
theorem ObT.dec {p:Prop} [Decidable p] (ht:p->t) (hf:¬ p->f):ObT (decide p) t f:=⟨fun h=>ht (of_decide_eq_true h),fun h=>hf (of_decide_eq_false h)⟩
end
section
variable {k:Int->Prop} {a b n:Nat}
theorem ObI.nn (h:a+b<=9223372036854775807) (hk:k ((a+b:Nat):Int)):ObI ((a:Int)+(b:Int)) k:=.mk (_) (by simp) (by omega) (by omega) (hk)
theorem ObI.nl (h:a+(OfNat.ofNat n:Nat)<=9223372036854775807) (hk:k ((a+(OfNat.ofNat n:Nat):Nat):Int)):ObI ((a:Int)+(@OfNat.ofNat Int n _)) k:=.mk (((a+(OfNat.ofNat n:Nat):Nat):Int)) (by rw [Int.natCast_add];rfl) (by have:=Int.natCast_nonneg (a+(OfNat.ofNat n:Nat));omega) (by generalize (OfNat.ofNat n:Nat)=q at *;omega) (hk)
theorem ObI.sn (h:b<=a) (h2:a<=9223372036854775807) (hk:k ((a - b:Nat):Int)):ObI ((a:Int) - (b:Int)) k:=.mk (_) (by omega) (by omega) (by omega) (hk)
theorem ObI.sl (h:(OfNat.ofNat n:Nat)<=a) (h2:a<=9223372036854775807) (hk:k ((a - (OfNat.ofNat n:Nat):Nat):Int)):ObI ((a:Int) - (@OfNat.ofNat Int n _)) k:=.mk (((a - (OfNat.ofNat n:Nat):Nat):Int)) (by rw [Int.natCast_sub h];rfl) (by have:=Int.natCast_nonneg (a - (OfNat.ofNat n:Nat));omega) (by generalize (OfNat.ofNat n:Nat)=q at *;omega) (hk)
theorem ObZ.ml (hk:k ((a % (OfNat.ofNat n:Nat):Nat):Int)):ObZ (Int.tmod (a:Int) (@OfNat.ofNat Int n _)) k:=⟨((a % (OfNat.ofNat n:Nat):Nat):Int),by rw [Int.tmod_eq_emod_of_nonneg (by omega)];rfl,hk⟩
theorem ObZ.mn (hk:k ((a % b:Nat):Int)):ObZ (Int.tmod (a:Int) (b:Int)) k:=⟨((a % b:Nat):Int),by rw [Int.tmod_eq_emod_of_nonneg (by omega)];rfl,hk⟩
theorem ObI.dl (h2:a<=9223372036854775807) (hk:k ((a / (OfNat.ofNat n:Nat):Nat):Int)):ObI (Int.tdiv (a:Int) (@OfNat.ofNat Int n _)) k:=.mk (((a / (OfNat.ofNat n:Nat):Nat):Int)) (by rw [Int.tdiv_eq_ediv_of_nonneg (by omega)];rfl) (by have:=Int.natCast_nonneg (a / (OfNat.ofNat n:Nat));omega) (by have:=Nat.div_le_self a (OfNat.ofNat n:Nat);omega) (hk)
end
theorem ObEq1.i {kd:IntKind} {x y:Int} {k:Prop} (h:x=y) (hk:k):ObEq1 (.v (.int kd x)) (.v (.int kd y)) k:=⟨by rw [h],hk⟩
theorem ObEq1.o {i g n n':Nat} {k:Prop} (h:n=n') (hk:k):ObEq1 (.ol i g n) (.ol i g n') k:=⟨by rw [h],hk⟩
theorem ObEq.i {kd:IntKind} {x y:Int} (h:x=y):ObEq (.v (.int kd x)) (.v (.int kd y)):=⟨by rw [h]⟩
theorem ObZ.wu {n:Nat} {k:Int->Prop} (h:n<=18446744073709551615) (hk:k (n:Int)):ObZ (IntKind.u64.wrap (n:Int)) k:=⟨(n:Int),IntWalk.u64_in _ (by omega),hk⟩
theorem ObZ.wi {x:Int} {k:Int->Prop} (h : -9223372036854775808<=x) (h':x<=9223372036854775807) (hk:k x):ObZ (IntKind.i64.wrap x) k:=⟨x,XX h h',hk⟩
theorem ObX.lit {n len:Nat} {k:Nat->Prop} (h:(OfNat.ofNat n:Nat) < len) (hk:k (OfNat.ofNat n:Nat)):ObX (@OfNat.ofNat Int n _) len k:=⟨(OfNat.ofNat n:Nat),rfl,h,hk⟩
theorem ObX.int {x:Int} {len:Nat} {k:Nat->Prop} (h0:0<=x) (h:x.toNat < len) (hk:k x.toNat):ObX x len k:=⟨x.toNat,by omega,h,hk⟩
theorem ObY.lit {n len:Nat} {k:Nat->Prop} (h:(OfNat.ofNat n:Nat)<=len) (hk:k (OfNat.ofNat n:Nat)):ObY (@OfNat.ofNat Int n _) len k:=⟨(OfNat.ofNat n:Nat),rfl,h,hk⟩
theorem ObY.int {x:Int} {len:Nat} {k:Nat->Prop} (h0:0<=x) (h:x.toNat<=len) (hk:k x.toNat):ObY x len k:=⟨x.toNat,by omega,h,hk⟩
theorem ObR.map {α:Type} {l:List α} {g:α->AV} {i:Nat} {k:AV->Prop} (h:i < l.length) (hk:∀ x,l[i]? = some x->k (g x)):ObR (l.map g) i k:=⟨g l[i],by simp [h],hk _ (List.getElem?_eq_getElem h)⟩
section
variable {n a b:Nat} {k:Nat->Nat->Prop}
theorem ObJ.zz (hk:k 0 n):ObJ n none none k:=⟨0,n,rfl,rfl,Nat.zero_le _,Nat.le_refl _,hk⟩
theorem ObJ.nz (h:a<=n) (hk:k a n):ObJ n (some (a:Int)) none k:=⟨a,n,rfl,rfl,h,Nat.le_refl _,hk⟩
theorem ObJ.zn (h:b<=n) (hk:k 0 b):ObJ n none (some (b:Int)) k:=⟨0,b,rfl,rfl,Nat.zero_le _,h,hk⟩
theorem ObJ.nn (h:a<=b) (h2:b<=n) (hk:k a b):ObJ n (some (a:Int)) (some (b:Int)) k:=⟨a,b,rfl,rfl,h,h2,hk⟩
theorem ObJ.lz (h:(OfNat.ofNat a:Nat)<=n) (hk:k (OfNat.ofNat a:Nat) n):ObJ n (some (@OfNat.ofNat Int a _)) none k:=⟨(OfNat.ofNat a:Nat),n,rfl,rfl,h,Nat.le_refl _,hk⟩
theorem ObJ.zl (h:(OfNat.ofNat b:Nat)<=n) (hk:k 0 (OfNat.ofNat b:Nat)):ObJ n none (some (@OfNat.ofNat Int b _)) k:=⟨0,(OfNat.ofNat b:Nat),rfl,rfl,Nat.zero_le _,h,hk⟩
theorem ObJ.nl (h:a<=(OfNat.ofNat b:Nat)) (h2:(OfNat.ofNat b:Nat)<=n) (hk:k a (OfNat.ofNat b:Nat)):ObJ n (some (a:Int)) (some (@OfNat.ofNat Int b _)) k:=⟨a,(OfNat.ofNat b:Nat),rfl,rfl,h,h2,hk⟩
theorem ObJ.ln (h:(OfNat.ofNat a:Nat)<=b) (h2:b<=n) (hk:k (OfNat.ofNat a:Nat) b):ObJ n (some (@OfNat.ofNat Int a _)) (some (b:Int)) k:=⟨(OfNat.ofNat a:Nat),b,rfl,rfl,h,h2,hk⟩
theorem ObJ.ll (h:(OfNat.ofNat a:Nat)<=(OfNat.ofNat b:Nat)) (h2:(OfNat.ofNat b:Nat)<=n) (hk:k (OfNat.ofNat a:Nat) (OfNat.ofNat b:Nat)):ObJ n (some (@OfNat.ofNat Int a _)) (some (@OfNat.ofNat Int b _)) k:=⟨(OfNat.ofNat a:Nat),(OfNat.ofNat b:Nat),rfl,rfl,h,h2,hk⟩
end
section
variable {s:ByteArray} {a b:Nat} {k:ByteArray->Prop}
theorem ObG.nz (h:a<=s.size) (s':ByteArray) (hs:s.extract a s.size=s') (hk:k s'):ObG s (some (a:Int)) none k:=⟨a,s.size,rfl,rfl,h,Nat.le_refl _,s',hs,hk⟩
theorem ObG.zn (h:b<=s.size) (s':ByteArray) (hs:s.extract 0 b=s') (hk:k s'):ObG s none (some (b:Int)) k:=⟨0,b,rfl,rfl,Nat.zero_le _,h,s',hs,hk⟩
theorem ObG.nn (h:a<=b) (h2:b<=s.size) (s':ByteArray) (hs:s.extract a b=s') (hk:k s'):ObG s (some (a:Int)) (some (b:Int)) k:=⟨a,b,rfl,rfl,h,h2,s',hs,hk⟩
theorem ObG.lz (h:(OfNat.ofNat a:Nat)<=s.size) (s':ByteArray) (hs:s.extract (OfNat.ofNat a:Nat) s.size=s') (hk:k s'):ObG s (some (@OfNat.ofNat Int a _)) none k:=⟨(OfNat.ofNat a:Nat),s.size,rfl,rfl,h,Nat.le_refl _,s',hs,hk⟩
theorem ObG.zl (h:(OfNat.ofNat b:Nat)<=s.size) (s':ByteArray) (hs:s.extract 0 (OfNat.ofNat b:Nat)=s') (hk:k s'):ObG s none (some (@OfNat.ofNat Int b _)) k:=⟨0,(OfNat.ofNat b:Nat),rfl,rfl,Nat.zero_le _,h,s',hs,hk⟩
theorem ObG.nl (h:a<=(OfNat.ofNat b:Nat)) (h2:(OfNat.ofNat b:Nat)<=s.size) (s':ByteArray) (hs:s.extract a (OfNat.ofNat b:Nat)=s') (hk:k s'):ObG s (some (a:Int)) (some (@OfNat.ofNat Int b _)) k:=⟨a,(OfNat.ofNat b:Nat),rfl,rfl,h,h2,s',hs,hk⟩
theorem ObG.ln (h:(OfNat.ofNat a:Nat)<=b) (h2:b<=s.size) (s':ByteArray) (hs:s.extract (OfNat.ofNat a:Nat) b=s') (hk:k s'):ObG s (some (@OfNat.ofNat Int a _)) (some (b:Int)) k:=⟨(OfNat.ofNat a:Nat),b,rfl,rfl,h,h2,s',hs,hk⟩
theorem ObG.ll (h:(OfNat.ofNat a:Nat)<=(OfNat.ofNat b:Nat)) (h2:(OfNat.ofNat b:Nat)<=s.size) (s':ByteArray) (hs:s.extract (OfNat.ofNat a:Nat) (OfNat.ofNat b:Nat)=s') (hk:k s'):ObG s (some (@OfNat.ofNat Int a _)) (some (@OfNat.ofNat Int b _)) k:=⟨(OfNat.ofNat a:Nat),(OfNat.ofNat b:Nat),rfl,rfl,h,h2,s',hs,hk⟩
end
section
variable {P:Program} {G:Nat->AV} {as_:List AV} {H:Hp}
theorem ObC.f (f:FuncId) {k:AV->Prop} (h:ObC P G f as_ k):ObC P G f as_ k:=h
theorem ObH.f (f:FuncId) {k:KK} (h:ObH P G f as_ H k):ObH P G f as_ H k:=h
theorem ObM.f (f:FuncId) {k:KK} (h:ObM P G f as_ H k):ObM P G f as_ H k:=h
theorem ObE.cv {s d:TypeId} {e:TypeDesc} {kd kd':IntKind} {n:Int} {k:KK} (hs:P.underlying s=some e) (hd:P.underlying d=some (.int kd)) (h:ObZ (kd.wrap n) (fun z=>k (.v (.int kd z)) H)):ObE ((ap1 (fun v=>zh P (convert s d v)) (.v (.int kd' n))).map (·,H)) k:=by
 obtain ⟨z,rfl,hk⟩:=h
 exact ⟨_,_,by simp only [ap1,zW,cV_int hs hd];rfl,hk⟩
theorem ObE.min {ats:Array TypeId} {ty:TypeId} {cs:Array Bool} {x y:Int} {k:KK} (h:ObZ (if y < x then y else x) (fun z=>k (.v (.int .i64 z)) H)):ObE (biE P .min ats ty cs [.v (.int .i64 x),.v (.int .i64 y)] H) k:=by
 obtain ⟨z,rfl,hk⟩:=h
 exact ⟨_,_,rfl,hk⟩
theorem ObE.max {ats:Array TypeId} {ty:TypeId} {cs:Array Bool} {x y:Int} {k:KK} (h:ObZ (if x < y then y else x) (fun z=>k (.v (.int .i64 z)) H)):ObE (biE P .max ats ty cs [.v (.int .i64 x),.v (.int .i64 y)] H) k:=by
 obtain ⟨z,rfl,hk⟩:=h
 exact ⟨_,_,rfl,hk⟩
end
def bkC (ρ:Nat->Nat):AV->Option AV
 | .ol j g n=>some (.ol (ρ j) g n)
 | .os j g lo n=>some (.os (ρ j) g lo n)
 | .oa j g e off=>some (.oa (ρ j) g e off)
 | .io t j g e off=>some (.io t (ρ j) g e off)
 | .mp j g=>some (.mp (ρ j) g)
 | .oc j g n c=>some (.oc (ρ j) g n c)
 | .mf nm t j g e off=>some (.mf nm t (ρ j) g e off)
 | .bf f j g e off=>some (.bf f (ρ j) g e off)
 | .ib t f j g e off=>some (.ib t f (ρ j) g e off)
 | .agg _|.tup _|.fn _ _=>none
 | a=>some a
def bkL (ρ:Nat->Nat):List AV->Option (List AV)
 | []=>some []
 | a::as_=>(match bkC ρ a,bkL ρ as_ with|some b,some bs=>some (b::bs)|_,_=>none)
def bkA (ρ:Nat->Nat):AV->Option AV
 | .agg cs=>(match bkL ρ cs with|some cs'=>some (.agg cs')|none=>none)
 | a=>bkC ρ a
def bkT (ρ:Nat->Nat):List AV->Option (List AV)
 | []=>some []
 | a::as_=>(match bkA ρ a,bkT ρ as_ with|some b,some bs=>some (b::bs)|_,_=>none)
def bkB (ρ:Nat->Nat):AV->Option AV
 | .agg cs=>(match bkL ρ cs with|some cs'=>some (.agg cs')|none=>none)
 | .tup cs=>(match bkT ρ cs with|some cs'=>some (.tup cs')|none=>none)
 | .fn f cs=>(match bkL ρ cs with|some cs'=>some (.fn f cs')|none=>none)
 | a=>bkC ρ a
def BkO (ρ:Nat->Nat) (O O2:Ow):Prop:=∀ (j:Nat) (d:Ds),O[j]? = some d->O2[ρ j]? = some d
theorem VR.bkC {F:Fz} {O O2:Ow} {ρ:Nat->Nat} (hT:BkO ρ O O2) {x:Value} {a b:AV} (h:VR F O x a) (hb:bkC ρ a=some b):VR F O2 x b:=by
 cases a with
 | agg=>cases hb
 | tup=>cases hb
 | fn=>cases hb
 | ol j g n =>
  cases hb
  cases h with
  | p h=>cases h
  | ol x i g m d hd hg h1 hh=>exact .ol x _ g _ d (hT _ _ hd) hg h1 hh
 | os j g lo n =>
  cases hb
  cases h with
  | p h=>cases h
  | os x i g lo n d hd hg h1 hh=>exact .os x _ g lo n d (hT _ _ hd) hg h1 hh
 | oa j g e off =>
  cases hb
  cases h with
  | p h=>cases h
  | oa x i g e off d hd hg h1 hh=>exact .oa x _ g e off d (hT _ _ hd) hg h1 hh
 | oc j g n c =>
  cases hb
  cases h with
  | p h=>cases h
  | oc x i g n c d hd hg h1 hh=>exact .oc x _ g n c d (hT _ _ hd) hg h1 hh
 | mf nm t j g e off =>
  cases hb
  cases h with
  | p h=>cases h
  | mf x nm t i g e off d hd hg h1 hh=>exact .mf x nm t _ g e off d (hT _ _ hd) hg h1 hh
 | bf f j g e off =>
  cases hb
  cases h with
  | p h=>cases h
  | bf x f i g e off d hd hg h1 hh=>exact .bf x f _ g e off d (hT _ _ hd) hg h1 hh
 | ib t f j g e off =>
  cases hb
  cases h with
  | p h=>cases h
  | ib x t f i g e off d hd hg h1 hh=>exact .ib x t f _ g e off d (hT _ _ hd) hg h1 hh
 | mp j g =>
  cases hb
  cases h with
  | p h=>cases h
  | mp x i g d hd hg h1 hh=>exact .mp x _ g d (hT _ _ hd) hg h1 hh
 | io t j g e off =>
  cases hb
  cases h with
  | p h=>cases h
  | io x t i g e off d hd hg h1 hh=>exact .io x t _ g e off d (hT _ _ hd) hg h1 hh
 | unk=>cases hb;exact .unk x
 | nl k =>
  cases hb
  cases h with
  | p h=>exact .p h
  | nl k=>exact .nl k
 | em q k =>
  cases hb
  cases h with
  | p h=>exact .p h
  | em A c q k hb hm=>exact .em A c q k hb hm
 | v y=>cases hb;exact .p (h.pvC0 rfl)
 | sl k es=>cases hb;exact .p (h.pvC0 rfl)
 | ad k es i off=>cases hb;exact .p (h.pvC0 rfl)
theorem yx {ρ:Nat->Nat}:∀ {as_ bs:List AV},bkL ρ as_=some bs->as_.length=bs.length/\∀ (i:Nat) (b:AV),bs[i]? = some b->∃ a,as_[i]? = some a/\bkC ρ a=some b
 | [],bs,h=>by cases h;exact ⟨rfl,fun i b hb=>by simp at hb⟩
 | a::as_,bs,h=>by
  simp only [bkL] at h
  split at h
  ·rename_i b bs' h1 h2
   cases h
   obtain ⟨l,r⟩:=yx h2
   refine ⟨by simp [l],fun i c hc=>?_⟩
   cases i with
   | zero=>simp at hc;subst hc;exact ⟨a,rfl,h1⟩
   | succ i=>obtain ⟨y,q1,q2⟩:=r i c (by simpa using hc);exact ⟨y,by simpa using q1,q2⟩
  ·cases h
theorem bkC_one {ρ:Nat->Nat} {a b:AV} (h:bkC ρ a=some b) (ha:a.one=true):b.one=true:=by
 cases a with
 | agg=>cases ha
 | tup=>cases ha
 | unk=>cases ha
 | fn=>cases h
 | _=>cases h;rfl
theorem bkT_at {ρ:Nat->Nat}:∀ {as_ bs:List AV},bkT ρ as_=some bs->as_.length=bs.length/\∀ (i:Nat) (b:AV),bs[i]? = some b->∃ a,as_[i]? = some a/\bkA ρ a=some b
 | [],bs,h=>by cases h;exact ⟨rfl,fun i b hb=>by simp at hb⟩
 | a::as_,bs,h=>by
  simp only [bkT] at h
  split at h
  ·rename_i b bs' h1 h2
   cases h
   obtain ⟨l,r⟩:=bkT_at h2
   refine ⟨by simp [l],fun i c hc=>?_⟩
   cases i with
   | zero=>simp at hc;subst hc;exact ⟨a,rfl,h1⟩
   | succ i=>obtain ⟨y,q1,q2⟩:=r i c (by simpa using hc);exact ⟨y,by simpa using q1,q2⟩
  ·cases h
theorem VR.bkA {F:Fz} {O O2:Ow} {ρ:Nat->Nat} (hT:BkO ρ O O2) {x:Value} {a b:AV} (h:VR F O x a) (hb:bkA ρ a=some b):VR F O2 x b:=by
 have cells:∀ {cs bs:List AV} {ys:List Value},bkL ρ cs=some bs->(∀ (i:Nat) (c:Value) (a:AV),ys[i]? = some c->cs[i]? = some a->VR F O c a)->∀ (i:Nat) (c:Value) (b:AV),ys[i]? = some c->bs[i]? = some b->VR F O2 c b:=fun hl hv i c b hc hb=>by
  obtain ⟨a,h1,h2⟩:=(yx hl).2 i b hb
  exact (hv i c a hc h1).bkC hT h2
 have one:∀ {cs bs:List AV},bkL ρ cs=some bs->(∀ a ∈ cs,AV.one a=true)->∀ b ∈ bs,AV.one b=true:=fun {cs bs} hl ho b hb=>by
  obtain ⟨i,hi,rfl⟩:=List.getElem_of_mem hb
  obtain ⟨a,h1,h2⟩:=(yx hl).2 i bs[i] (List.getElem?_eq_getElem hi)
  exact bkC_one h2 (ho a (List.mem_of_getElem? h1))
 cases a with
 | agg cs =>
  simp only [Sim.bkA] at hb
  split at hb
  ·rename_i bs hl
   cases hb
   cases h with
   | p h =>
    cases h with
    | agg ys cs hl' h1 h=>exact .agg ys bs (by rw [hl',(yx hl).1]) (one hl h1) (cells hl fun i c a hc ha=>.p (h i c a hc ha))
   | agg ys cs hl' h1 h=>exact .agg ys bs (by rw [hl',(yx hl).1]) (one hl h1) (cells hl h)
  ·cases hb
 | _=>exact h.bkC hT hb
theorem VR.bkB {F:Fz} {O O2:Ow} {ρ:Nat->Nat} (hT:BkO ρ O O2) {x:Value} {a b:AV} (h:VR F O x a) (hb:bkB ρ a=some b):VR F O2 x b:=by
 have cells:∀ {cs bs:List AV} {ys:List Value},bkL ρ cs=some bs->(∀ (i:Nat) (c:Value) (a:AV),ys[i]? = some c->cs[i]? = some a->VR F O c a)->∀ (i:Nat) (c:Value) (b:AV),ys[i]? = some c->bs[i]? = some b->VR F O2 c b:=fun hl hv i c b hc hb=>by
  obtain ⟨a,h1,h2⟩:=(yx hl).2 i b hb
  exact (hv i c a hc h1).bkC hT h2
 have one:∀ {cs bs:List AV},bkL ρ cs=some bs->(∀ a ∈ cs,AV.one a=true)->∀ b ∈ bs,AV.one b=true:=fun {cs bs} hl ho b hb=>by
  obtain ⟨i,hi,rfl⟩:=List.getElem_of_mem hb
  obtain ⟨a,h1,h2⟩:=(yx hl).2 i bs[i] (List.getElem?_eq_getElem hi)
  exact bkC_one h2 (ho a (List.mem_of_getElem? h1))
 have cellsT:∀ {cs bs:List AV} {ys:List Value},bkT ρ cs=some bs->(∀ (i:Nat) (c:Value) (a:AV),ys[i]? = some c->cs[i]? = some a->VR F O c a)->∀ (i:Nat) (c:Value) (b:AV),ys[i]? = some c->bs[i]? = some b->VR F O2 c b:=fun hl hv i c b hc hb=>by
  obtain ⟨a,h1,h2⟩:=(bkT_at hl).2 i b hb
  exact (hv i c a hc h1).bkA hT h2
 cases a with
 | agg cs=>exact h.bkA hT hb
 | tup cs =>
  simp only [Sim.bkB] at hb
  split at hb
  ·rename_i bs hl
   cases hb
   cases h with
   | p h =>
    cases h with
    | tup ys cs hl' h=>exact .tup ys bs (by rw [hl',(bkT_at hl).1]) (cellsT hl fun i c a hc ha=>.p (h i c a hc ha))
   | tup ys cs hl' h=>exact .tup ys bs (by rw [hl',(bkT_at hl).1]) (cellsT hl h)
  ·cases hb
 | fn f cs =>
  simp only [Sim.bkB] at hb
  split at hb
  ·rename_i bs hl
   cases hb
   cases h with
   | p h =>
    cases h with
    | fn f ys cs hl' h=>exact .fn f ys bs (by rw [hl',(yx hl).1]) (cells hl fun i c a hc ha=>.p (h i c a hc ha))
   | fn f ys cs hl' h=>exact .fn f ys bs (by rw [hl',(yx hl).1]) (cells hl h)
  ·cases hb
 | _=>exact h.bkC hT hb
def rho (T:Tb) (N:Nat) (j:Nat):Nat:=match T[j]? with|some (_,i,_)=>i|none=>N+(j - T.length)
structure Bk (T:Tb) (Hb Hl' Hb':Hp):Prop where
 len:T.length<=Hl'.length
 len2:Hb'.length=Hb.length+(Hl'.length - T.length)
 row:∀ (j:Nat) (ob:OB),Hl'[j]? = some ob->∃ ob2,Hb'[rho T Hb.length j]? = some ob2/\ob2.e=ob.e/\ob2.k=ob.k/\ob2.g=ob.g/\ob2.fz=ob.fz/\ob2.es.length=ob.es.length/\∀ (n:Nat) (e2:AV),ob2.es[n]? = some e2->∃ e,ob.es[n]? = some e/\bkL (rho T Hb.length) e.cells=some e2.cells
 rest:∀ J,J < Hb.length->(∀ j,j < T.length->rho T Hb.length j ≠ J)->Hb'[J]? = Hb[J]?
section
variable {P:Program} {G:Nat->AV}
theorem HC.frame {f : FuncId} {asl as_ : List AV} {Hl Hl' Hb Hb' : Hp} {r r' : AV} (T : Tb) (h : HC P G f asl Hl r Hl') (hv : Vw T Hb Hl) (hid : ∀ (j g2 i g : Nat), T[j]? = some (g2, i, g) -> g2 = g)
  (hal:as_.length=asl.length) (ha:∀ (i:Nat) (b:AV),asl[i]? = some b->∃ a,as_[i]? = some a/\rnB T b=some a) (hr:bkB (rho T Hb.length) r=some r') (hbk:Bk T Hb Hl' Hb'):HC P G f as_ Hb r' Hb':=by
 intro B w0 F0 F O w xs hown hg hl hvx
 obtain ⟨O2,own2,hto⟩:=hown.view hv
 have hTlt:∀ {j g2 i g:Nat},T[j]? = some (g2,i,g)->i < Hb.length:=fun {j g2 i g} ht=>by
  obtain ⟨d,h1,_⟩:=hto j g2 i g ht
  rw [<- hown.len];exact (List.getElem?_eq_some_iff.1 h1).1
 have hTat:∀ {j:Nat},j < T.length->∃ g2 i g,T[j]? = some (g2,i,g)/\rho T Hb.length j=i:=fun {j} hj=>by
  refine ⟨T[j].1,T[j].2.1,T[j].2.2,List.getElem?_eq_getElem hj,?_⟩
  simp only [rho,List.getElem?_eq_getElem hj]
 have rhoNew:∀ {j:Nat},T.length<=j->rho T Hb.length j=Hb.length+(j - T.length):=fun {j} hj=>by
  simp only [rho,List.getElem?_eq_none hj]
 have rhoInj:∀ {j j':Nat},rho T Hb.length j=rho T Hb.length j'->j=j':=fun {j j'} he=>by
  by_cases h1:j < T.length<;>by_cases h2:j' < T.length
  ·obtain ⟨a, i, b, t1, e1⟩ := hTat h1
   obtain ⟨a',i',b',t2,e2⟩:=hTat h2
   rw [e1,e2] at he
   subst he
   exact hv.inj j j' _ _ _ _ _ t1 t2
  ·obtain ⟨a, i, b, t1, e1⟩ := hTat h1
   rw [e1,rhoNew (by omega)] at he
   have:=hTlt t1
   omega
  ·obtain ⟨a, i, b, t1, e1⟩ := hTat h2
   rw [e1,rhoNew (by omega)] at he
   have:=hTlt t1
   omega
  ·rw [rhoNew (by omega), rhoNew (by omega)] at he
   omega
 -- the blocks that the call keeps
 have own3:Own ⟨B.n,fun b=>B.K b\/∃ J d,O[J]? = some d/\d.b=b/\∀ j,j < T.length->rho T Hb.length j ≠ J,[]⟩ w F F O2 Hl w:=by
  refine ⟨own2.len,fun j d ob hd ho=>?_,own2.inj,own2.fr,Fz.le_refl F,fun b o v hv=>.inl hv,Below.refl _ _,hown.size,fun _ _=>rfl,fun b hk=>?_⟩
  ·have rr := own2.row j d ob hd ho
   refine { rr with hB:=⟨rr.hB.1,?_⟩ }
   rintro (hk|⟨J,d',h1,h2,h3⟩)
   ·exact rr.hB.2 hk
   ·have hj : j < T.length := by rw [<- hv.len]; exact (List.getElem?_eq_some_iff.1 ho).1
    obtain ⟨g2,i,g,t1,e1⟩:=hTat hj
    obtain ⟨d0,q1,q2,q3⟩:=hto j g2 i g t1
    rw [hd] at q3
    cases q3
    have:=hown.inj J i d' d0 h1 q1 h2
    exact h3 j hj (by rw [e1,this])
  ·rcases hk with hk | ⟨J, d, h1, rfl, _⟩
   ·exact Nat.lt_of_lt_of_le (hown.kb b hk) hown.below.size
   ·have hJ : J < Hb.length := by rw [<- hown.len]; exact (List.getElem?_eq_some_iff.1 h1).1
    exact (hown.row J d Hb[J] h1 (List.getElem?_eq_getElem hJ)).lt
 have hcall:=h _ w F F O2 w xs own3 hg (by rw [hl,hal]) fun i c b hc hb=>by
  obtain ⟨a,q1,q2⟩:=ha i b hb
  exact (hvx i c a hc q1).rnB hto q2
 refine hcall.mono ?_
 rintro e w' ⟨v,rfl,F',O3,hvr,own4,lF,lO⟩
 refine ⟨v,rfl,F',?_⟩
 have l3:O3.length=Hl'.length:=own4.len
 -- the rows' places
 obtain ⟨O',hO'⟩:∃ O':Ow,O'=(List.range Hb'.length).map fun J=>match (List.range Hl'.length).find? (fun j=>rho T Hb.length j == J) with|some j=>O3.getD j ⟨0,0,0,0⟩|none=>O.getD J ⟨0,0,0,0⟩:=⟨_,rfl⟩
 have lO':O'.length=Hb'.length:=by rw [hO'];simp
 have rhoLt:∀ {j:Nat},j < Hl'.length->rho T Hb.length j < Hb'.length:=fun {j} hj=>by
  by_cases h1:j < T.length
  ·obtain ⟨a, i, b, t1, e1⟩ := hTat h1
   rw [e1,hbk.len2]
   have:=hTlt t1
   omega
  ·rw [rhoNew (by omega),hbk.len2];omega
 have img:∀ {j:Nat},j < Hl'.length->O'[rho T Hb.length j]? = O3[j]?:=fun {j} hj=>by
  have hf:(List.range Hl'.length).find? (fun j'=>rho T Hb.length j' == rho T Hb.length j)=some j:=by
   cases hq:(List.range Hl'.length).find? (fun j'=>rho T Hb.length j' == rho T Hb.length j) with
   | none =>
    have:=List.find?_eq_none.1 hq j (by simpa using hj)
    simp at this
   | some j' =>
    have:=List.find?_some hq
    have e:j'=j:=rhoInj (by simpa using this)
    rw [e]
  rw [hO',List.getElem?_map,List.getElem?_range (rhoLt hj)]
  simp only [Option.map_some,hf]
  rw [List.getD_eq_getElem?_getD,List.getElem?_eq_getElem (by omega)]
  rfl
 have out:∀ {J:Nat},J < Hb.length->(∀ j,j < T.length->rho T Hb.length j ≠ J)->O'[J]? = O[J]?:=fun {J} hJ hn=>by
  have hf:(List.range Hl'.length).find? (fun j'=>rho T Hb.length j' == J)=none:=by
   rw [List.find?_eq_none]
   intro j hj hh
   have hh:rho T Hb.length j=J:=by simpa using hh
   by_cases h1:j < T.length
   ·exact hn j h1 hh
   ·rw [rhoNew (by omega)] at hh;omega
  rw [hO',List.getElem?_map,List.getElem?_range (by rw [hbk.len2];omega)]
  simp only [Option.map_some,hf]
  have:J < O.length:=by rw [hown.len];exact hJ
  rw [List.getD_eq_getElem?_getD,List.getElem?_eq_getElem this]
  rfl
 have cases3:∀ J,J < Hb'.length->(∃ j,j < Hl'.length/\rho T Hb.length j=J)\/(J < Hb.length/\∀ j,j < T.length->rho T Hb.length j ≠ J):=fun J hJ=>by
  by_cases hx:∃ j,j < Hl'.length/\rho T Hb.length j=J
  ·exact .inl hx
  ·right
   have hn:∀ j,j < T.length->rho T Hb.length j ≠ J:=fun j hj he=>hx ⟨j,by have:=hbk.len;omega,he⟩
   refine ⟨?_,hn⟩
   rcases Nat.lt_or_ge J Hb.length with h1|h1
   ·exact h1
   ·exfalso
    rw [hbk.len2] at hJ
    exact hx ⟨T.length+(J - Hb.length),by omega,by rw [rhoNew (by omega)];omega⟩
 have bo:BkO (rho T Hb.length) O3 O':=fun j d hd=>by
  rw [img (by rw [<- l3];exact (List.getElem?_eq_some_iff.1 hd).1)];exact hd
 have leO:O.le O':=fun J d hd=>by
  have hJ:J < Hb.length:=by rw [<- hown.len];exact (List.getElem?_eq_some_iff.1 hd).1
  by_cases hx:∃ j,j < T.length/\rho T Hb.length j=J
  ·obtain ⟨j, hj, he⟩ := hx
   obtain ⟨g2,i,g,t1,e1⟩:=hTat hj
   obtain ⟨d0,q1,q2,q3⟩:=hto j g2 i g t1
   have:i=J:=by rw [<- e1,he]
   subst this
   rw [hd] at q1
   cases q1
   have hid':=hid j g2 i g t1
   subst hid'
   have e3:(⟨d.b,d.C,g2,d.k⟩:Ds)=d:=by rw [<- q2]
   rw [e3] at q3
   obtain ⟨d',k1,k2,k3⟩:=lO j d q3
   exact ⟨d',by rw [<- he,img (by have:=hbk.len;omega)];exact k1,k2,k3⟩
  ·exact ⟨d,by rw [out hJ (fun j hj he=>hx ⟨j,hj,he⟩)];exact hd,Nat.le_refl _,fun _=>rfl⟩
 have inK:∀ {J:Nat} {d:Ds},O[J]? = some d->(∀ j,j < T.length->rho T Hb.length j ≠ J)->B.K d.b\/∃ J' d',O[J']? = some d'/\d'.b=d.b/\∀ j,j < T.length->rho T Hb.length j ≠ J':=fun {J d} hd hn=>.inr ⟨J,d,hd,rfl,hn⟩
 refine ⟨O',hvr.bkB bo hr,⟨lO',fun J d ob2 hd ho=>?_,fun J J' d d' hd hd' hb=>?_,own4.fr,Fz.le_trans hown.le lF,fun b o v hv=>?_,hown.below.trans own4.below,own4.size,fun b hk=>?_,hown.kb⟩,lF,leO⟩
 ·have hJ : J < Hb'.length := (List.getElem?_eq_some_iff.1 ho).1
  rcases cases3 J hJ with ⟨j,hj,rfl⟩|⟨hJ2,hn⟩
  ·rw [img hj] at hd
   obtain ⟨ob2',k1,k2,k3,k4,k5,k6,k7⟩:=hbk.row j Hl'[j] (List.getElem?_eq_getElem hj)
   rw [ho] at k1
   cases k1
   have rr:=own4.row j d Hl'[j] hd (List.getElem?_eq_getElem hj)
   obtain ⟨cur,c1,c2,c3⟩:=rr.cur
   refine ⟨by rw [k4];exact rr.hg,by rw [k3];exact rr.hk,⟨rr.hB.1,fun hk=>rr.hB.2 (.inl hk)⟩,⟨cur,by rw [k2,k3,k6];exact c1,by rw [k2,k3];exact c2,fun n c e2 a2 he ha=>?_⟩,rr.hC,by rw [k2,k6];exact rr.hl,fun e2 he2=>?_,fun e2 he2 a2 ha2=>?_,by rw [k5,k3];exact rr.hf,by rw [k5,k6];exact rr.hz⟩
   ·obtain ⟨e, g1, g2⟩ := k7 n e2 he
    obtain ⟨a,g3,g4⟩:=(yx g2).2 c a2 ha
    obtain ⟨y,q1,q2⟩:=c3 n c e a g1 g3
    exact ⟨y,by rw [k3];exact q1,q2.bkC bo g4⟩
   ·obtain ⟨n, hn, rfl⟩ := List.getElem_of_mem he2
    obtain ⟨e,g1,g2⟩:=k7 n _ (List.getElem?_eq_getElem hn)
    rw [<- (yx g2).1,k3]
    exact rr.hn e (List.mem_of_getElem? g1)
   ·obtain ⟨n, hn, rfl⟩ := List.getElem_of_mem he2
    obtain ⟨e,g1,g2⟩:=k7 n _ (List.getElem?_eq_getElem hn)
    obtain ⟨c,hc,rfl⟩:=List.getElem_of_mem ha2
    obtain ⟨a,g3,g4⟩:=(yx g2).2 c _ (List.getElem?_eq_getElem hc)
    exact bkC_one g4 (rr.h1 e (List.mem_of_getElem? g1) a (List.mem_of_getElem? g3))
  ·rw [out hJ2 hn] at hd
   rw [hbk.rest J hJ2 hn] at ho
   have rr:=hown.row J d ob2 hd ho
   have hk:=inK hd hn
   obtain ⟨cur,c1,c2,c3⟩:=rr.cur
   refine { rr with cur:=⟨cur,by rw [own4.kept d.b hk];exact c1,c2,fun n c e a he ha=>by obtain ⟨y,q1,q2⟩:=c3 n c e a he ha;exact ⟨y,q1,q2.mono lF leO⟩⟩,hf:=fun o v hv=>?_ }
   rcases own4.new d.b o v hv with h1|h1
   ·exact rr.hf o v h1
   ·exact absurd hk h1.2
 ·have hJ : J < Hb'.length := by rw [<- lO']; exact (List.getElem?_eq_some_iff.1 hd).1
  have hJ':J' < Hb'.length:=by rw [<- lO'];exact (List.getElem?_eq_some_iff.1 hd').1
  rcases cases3 J hJ with ⟨j,hj,rfl⟩|⟨hJ2,hn⟩<;>rcases cases3 J' hJ' with ⟨j',hj',rfl⟩|⟨hJ2',hn'⟩
  ·rw [img hj] at hd
   rw [img hj'] at hd'
   rw [own4.inj j j' d d' hd hd' hb]
  ·rw [img hj] at hd
   rw [out hJ2' hn'] at hd'
   have:=(own4.row j d Hl'[j] hd (List.getElem?_eq_getElem hj)).hB.2
   exact absurd (by rw [hb];exact inK hd' hn') this
  ·rw [out hJ2 hn] at hd
   rw [img hj'] at hd'
   have:=(own4.row j' d' Hl'[j'] hd' (List.getElem?_eq_getElem hj')).hB.2
   exact absurd (by rw [<- hb];exact inK hd hn) this
  ·rw [out hJ2 hn] at hd
   rw [out hJ2' hn'] at hd'
   exact hown.inj J J' d d' hd hd' hb
 ·rcases own4.new b o v hv with h1 | h1
  ·exact hown.new b o v h1
  ·exact .inr ⟨h1.1,fun hk=>h1.2 (.inl hk)⟩
 ·rw [own4.kept b (.inl hk)];exact hown.kept b hk
end
inductive ObBk (ρ:Nat->Nat) (es:List AV) (k:List AV->Prop):Prop
 | same (hn:es.all nrB=true) (hk:k es):ObBk ρ es k
 | lit (es2:List AV) (h:(es.map fun e=>bkL ρ e.cells)=es2.map fun e=>some e.cells) (hk:k es2):ObBk ρ es k
def RB (ρ:Nat->Nat) (ob ob2:OB):Prop:=ob2.e=ob.e/\ob2.k=ob.k/\ob2.g=ob.g/\ob2.fz=ob.fz/\ob2.es.length=ob.es.length/\∀ (n:Nat) (e2:AV),ob2.es[n]? = some e2->∃ e,ob.es[n]? = some e/\bkL ρ e.cells=some e2.cells
theorem nrB_bk {ρ:Nat->Nat} {a:AV} (h:nrB a=true):bkL ρ a.cells=some a.cells:=by
 unfold nrB at h
 generalize a.cells=cs at h
 induction cs with
 | nil=>rfl
 | cons c cs ih =>
  simp only [List.all_cons,Bool.and_eq_true] at h
  have h1:bkC ρ c=some c:=by
   cases c with
   | v=>rfl
   | sl=>rfl
   | ad=>rfl
   | nl=>rfl
   | em=>rfl
   | _=>simp at h
  simp [bkL,h1,ih h.2]
def frR (ρ:Nat->Nat) (o:OB) (k:OB->Prop):Prop :=
 match o with
 | ⟨e,kk,es,g,fz⟩=>ObBk ρ es (fun es'=>k ⟨e,kk,es',g,fz⟩)
theorem frR_ok {ρ:Nat->Nat} {o:OB} {k:OB->Prop} (h:frR ρ o k):∃ o',RB ρ o o'/\k o':=by
 obtain ⟨e,kk,es,g,fz⟩:=o
 rcases h with ⟨hn,hk⟩|⟨es2,h,hk⟩
 ·exact ⟨_,⟨rfl,rfl,rfl,rfl,rfl,fun n e2 he=>⟨e2,he,nrB_bk (List.all_eq_true.1 hn e2 (List.mem_of_getElem? he))⟩⟩,hk⟩
 ·have hl : es2.length = es.length := by have := congrArg List.length h; simpa using this.symm
  refine ⟨⟨e,kk,es2,g,fz⟩,⟨rfl,rfl,rfl,rfl,hl,fun n e2 he=>?_⟩,hk⟩
  have hn:n < es.length:=by rw [<- hl];exact (List.getElem?_eq_some_iff.1 he).1
  have:=congrArg (·[n]?) h
  have he':es2[n]? = some e2:=he
  simp only [List.getElem?_map,he',List.getElem?_eq_getElem hn,Option.map_some,Option.some.injEq] at this
  exact ⟨es[n],List.getElem?_eq_getElem hn,this⟩
def frK (ρ:Nat->Nat):Tb->Hp->Hp->(Hp->Prop)->Prop
 | [],[],Hb,k=>k Hb
 | [],o::Hl,Hb,k=>frR ρ o (fun o'=>aK Hb y8 o' (fun _ H=>frK ρ [] Hl H k))
 | (_,i,_)::T,o::Hl,Hb,k=>frR ρ o (fun o'=>rpK Hb i o' (fun H=>frK ρ T Hl H k))
 | _::_,[],_,_=>False
theorem frK_new {ρ:Nat->Nat}:∀ {Hl Hb:Hp} {k:Hp->Prop},frK ρ [] Hl Hb k->∃ Hb',k Hb'/\Hb'.length=Hb.length+Hl.length/\(∀ (j:Nat) (ob:OB),Hl[j]? = some ob->∃ ob2,Hb'[Hb.length+j]? = some ob2/\RB ρ ob ob2)/\∀ J,J < Hb.length->Hb'[J]? = Hb[J]?
 | [],Hb,k,h=>⟨Hb,h,rfl,fun j ob hj=>by simp at hj,fun _ _=>rfl⟩
 | o::Hl,Hb,k,h=>by
  obtain ⟨o',h1,h2⟩:=frR_ok h
  have h3:=wF h2
  obtain ⟨Hb',k1,k2,k3,k4⟩:=frK_new (Hl:=Hl) h3
  refine ⟨Hb',k1,by rw [k2];simp;omega,fun j ob hj=>?_,fun J hJ=>?_⟩
  ·cases j with
   | zero =>
    simp at hj
    subst hj
    refine ⟨o',?_,h1⟩
    have:=k4 Hb.length (by simp)
    simpa using this
   | succ j =>
    obtain ⟨ob2,q1,q2⟩:=k3 j ob (by simpa using hj)
    refine ⟨ob2,?_,q2⟩
    rw [<- q1];congr 1;simp;omega
  ·rw [k4 J (by simp;omega),List.getElem?_append_left hJ]
theorem frK_ok {ρ : Nat -> Nat} : ∀ {T : Tb} {Hl Hb : Hp} {k : Hp -> Prop}, frK ρ T Hl Hb k -> (∀ p ∈ T, p.2.1 < Hb.length) -> (T.map (·.2.1)).Nodup -> ∃ Hb', k Hb' /\ T.length <= Hl.length /\ Hb'.length = Hb.length + (Hl.length - T.length) /\
  (∀ (j:Nat) (ob:OB),Hl[j]? = some ob->∃ ob2,Hb'[rho T Hb.length j]? = some ob2/\RB ρ ob ob2)/\∀ J,J < Hb.length->(∀ p ∈ T,p.2.1 ≠ J)->Hb'[J]? = Hb[J]?
 | [],Hl,Hb,k,h,_,_=>by
  obtain ⟨Hb',k1,k2,k3,k4⟩:=frK_new h
  refine ⟨Hb',k1,Nat.zero_le _,by simpa using k2,fun j ob hj=>?_,fun J hJ _=>k4 J hJ⟩
  obtain ⟨ob2,q1,q2⟩:=k3 j ob hj
  exact ⟨ob2,by simpa [rho] using q1,q2⟩
 | (g2,i,g)::T,[],Hb,k,h,_,_=>by simp [frK] at h
 | (g2,i,g)::T,o::Hl,Hb,k,h,hlt,hnd=>by
  simp only [frK] at h
  obtain ⟨o',h1,h2⟩:=frR_ok h
  rw [yc] at h2
  have hi:i < Hb.length:=hlt (g2,i,g) (List.mem_cons_self ..)
  simp only [List.map_cons,List.nodup_cons] at hnd
  obtain ⟨Hb',k1,k2,k3,k4,k5⟩:=frK_ok (T:=T) h2 (fun p hp=>by simpa using hlt p (List.mem_cons_of_mem _ hp)) hnd.2
  simp only [List.length_set] at k3 k4 k5
  refine ⟨Hb',k1,by simpa using k2,by rw [k3];simp,fun j ob hj=>?_,fun J hJ hn=>?_⟩
  ·cases j with
   | zero =>
    simp at hj
    subst hj
    refine ⟨o',?_,h1⟩
    have:=k5 i hi (fun p hp he=>hnd.1 (List.mem_map.2 ⟨p,hp,he⟩))
    rw [List.getElem?_set_self hi] at this
    simpa [rho] using this
   | succ j =>
    obtain ⟨ob2,q1,q2⟩:=k4 j ob (by simpa using hj)
    refine ⟨ob2,?_,q2⟩
    rw [<- q1]
    congr 1
    simp [rho]
  ·rw [k5 J hJ (fun p hp=>hn p (List.mem_cons_of_mem _ hp)),List.getElem?_set_ne]
   exact fun e=>hn (g2,i,g) (List.mem_cons_self ..) e
inductive ObAs (T:Tb) (as_ asl:List AV) (k:Prop):Prop
 | mk (h:(asl.map fun b=>rnB T b)=as_.map some) (hk:k):ObAs T as_ asl k
inductive ObRs (ρ:Nat->Nat) (r:AV) (k:AV->Prop):Prop
 | mk (r':AV) (h:bkB ρ r=some r') (hk:k r'):ObRs ρ r k
section
variable {P:Program} {G:Nat->AV}
theorem ObH.fr {f : FuncId} {as_ : List AV} {Hb : Hp} {k : KK} (T : Tb) {asl : List AV} {Hl Hl' : Hp} {r : AV} (h : HC P G f asl Hl r Hl') (hn : (T.map (·.2.1)).Nodup) (hid : (T.map (·.1)) = T.map (·.2.2))
  (hlt:∀ p ∈ T,p.2.1 < Hb.length) (hk:vwK T Hb T Hl (ObAs T as_ asl (ObRs (rho T Hb.length) r (fun r'=>frK (rho T Hb.length) T Hl' Hb (fun H'=>k r' H'))))):ObH P G f as_ Hb k:=by
 have hv:Vw T Hb Hl:=Vw.of (by
  have go:∀ {T0:Tb} {H:Hp} {T:Tb} {H2:Hp} {k:Prop},vwK T0 H T H2 k->vwK T0 H T H2 True:=by
   intro T0 H T
   induction T with
   | nil=>intro H2 k h;cases H2<;>first|trivial|exact h.elim
   | cons p T ih =>
    intro H2 k h
    obtain ⟨g2,i,g⟩:=p
    cases H2 with
    | nil=>exact h.elim
    | cons o2 H2 =>
     simp only [vwK] at h ⊢
     have rk:∀ {H:Hp} {i:Nat} {q q':OB->Prop},(∀ o,q o->q' o)->rK H i q->rK H i q':=by
      intro H
      induction H with
      | nil=>intro i q q' _ h;exact h.elim
      | cons o H ihH =>
       intro i q q' hq h
       cases i with
       | zero=>exact hq o h
       | succ i=>exact ihH hq h
     refine rk (fun o ho=>?_) h
     obtain ⟨e,kk,es,g',fz⟩:=o
     obtain ⟨e2,kk2,es2,g2',fz2⟩:=o2
     obtain ⟨a1,a2,a3,a4,a5,ho⟩:=ho
     refine ⟨a1,a2,a3,a4,a5,?_⟩
     rcases ho with ⟨b1,b2,b3⟩|⟨b1,b2⟩
     ·exact .same b1 b2 (ih b3)
     ·exact .lit b1 (ih b2)
  exact go hk) hn
 obtain ⟨_,ha,r',hr,hk⟩:=vwK_ok hk
 obtain ⟨Hb',k1,k2,k3,k4,k5⟩:=frK_ok hk hlt hn
 have hal:as_.length=asl.length:=by have:=congrArg List.length ha;simpa using this.symm
 refine ⟨r',Hb',HC.frame T h hv (fun j g2 i g ht=>?_) hal (fun i b hb=>?_) hr ⟨k2,k3,k4,fun J hJ hJn=>k5 J hJ fun p hp he=>?_⟩,k1⟩
 ·have := congrArg (·[j]?) hid
  simpa [ht] using this
 ·have hi : i < as_.length := by rw [hal]; exact (List.getElem?_eq_some_iff.1 hb).1
  have:=congrArg (·[i]?) ha
  simp only [List.getElem?_map,hb,List.getElem?_eq_getElem hi,Option.map_some,Option.some.injEq] at this
  exact ⟨as_[i],List.getElem?_eq_getElem hi,this⟩
 ·obtain ⟨j, hj, rfl⟩ := List.getElem_of_mem hp
  refine hJn j hj ?_
  simp only [rho,List.getElem?_eq_getElem hj]
  exact he
end
section
variable {P:Program} {G:Nat->AV} {m:Nat}
theorem V_cut {α : Type} {a b : AC} {Q : EX -> St -> Prop} {s : List AV} {H : Hp} (J : α -> Prop) (M : α -> List (Nat × Option AV)) (Hc : α -> Hp)
  (h1:∀ K:St->Prop,(∀ (s':List AV) (H':Hp) (p:α),J p->Fg m ⟨s',H'⟩ ⟨mx s (M p),Hc p⟩->K ⟨s',H'⟩)->V P G m a (yg K Q) ⟨s,H⟩)
  (h2:∀ p,J p->V P G m b Q ⟨mx s (M p),Hc p⟩):V P G m (.seq a b) Q ⟨s,H⟩ :=
 h1 _ (fun s' H' p hp hf=>SeqP.fg _ hf (h2 p hp))
theorem V_seq {a b:AC} {Q:EX->St->Prop} {st:St} (h:V P G m a (yg (SeqP m (V P G m b Q)) Q) st):V P G m (.seq a b) Q st:=h
end
section
variable {P:Program} {G:Nat->AV} {m:Nat}
theorem ObH.frn {f : FuncId} {as_ : List AV} {Hb : Hp} {k : KK} (N : Nat) (hN : Hb.length = N) (T : Tb) {asl : List AV} {Hl Hl' : Hp} {r : AV} (h : HC P G f asl Hl r Hl') (hn : (T.map (·.2.1)).Nodup) (hid : (T.map (·.1)) = T.map (·.2.2))
  (hlt:∀ p ∈ T,p.2.1 < Hb.length) (hk:vwK T Hb T Hl (ObAs T as_ asl (ObRs (rho T N) r (fun r'=>frK (rho T N) T Hl' Hb (fun H'=>k r' H'))))):ObH P G f as_ Hb k:=by
 subst hN
 exact ObH.fr T h hn hid hlt hk
end
theorem ZG {α:Type} (L:List α) (x:α):(L++[x]).length=L.length+1:=by simp
theorem ze {α:Type}:∀ {l:List α} {k:Nat},l.length=k+1->∃ a t,l=a::t/\t.length=k
 | a::t,k,h=>⟨a,t,rfl,by simpa using h⟩
theorem ga {α:Type} {L M:List α} {i:Nat}:(L++M)[L.length+i]? = M[i]?:=by rw [List.getElem?_append_right (by omega)];congr 1;omega
theorem sa {α:Type} {L M:List α} {i:Nat} {y:α}:(L++M).set (L.length+i) y=L++M.set i y:=by rw [List.set_append_right _ _ (by omega)];congr 2;omega
theorem yP {α:Type} {L:List α} {x0:α}:(L++[x0])[L.length]? = some x0:=by simp
theorem yJ {α:Type} {L:List α} {x0 y:α}:(L++[x0]).set (L.length) y=(L++[y]):=by simp
theorem yO {α:Type} {L:List α} {x0 x1:α}:((L++[x0])++[x1])[L.length]? = some x0:=by simp only [List.append_assoc,List.cons_append,List.nil_append];exact (ga (L:=L) (M:=[x0,x1]) (i:=0)).trans rfl
theorem yI {α:Type} {L:List α} {x0 x1 y:α}:((L++[x0])++[x1]).set (L.length) y=((L++[y])++[x1]):=by simp only [List.append_assoc,List.cons_append,List.nil_append];exact (sa (L:=L) (M:=[x0,x1]) (i:=0) (y:=y)).trans rfl
theorem yN {α:Type} {L:List α} {x0 x1:α}:((L++[x0])++[x1])[L.length+1]? = some x1:=by simp only [List.append_assoc,List.cons_append,List.nil_append];exact (ga (L:=L) (M:=[x0,x1]) (i:=1)).trans rfl
theorem yH {α:Type} {L:List α} {x0 x1 y:α}:((L++[x0])++[x1]).set (L.length+1) y=((L++[x0])++[y]):=by simp only [List.append_assoc,List.cons_append,List.nil_append];exact (sa (L:=L) (M:=[x0,x1]) (i:=1) (y:=y)).trans rfl
theorem gj3_0 {α:Type} {L:List α} {x0 x1 x2:α}:(((L++[x0])++[x1])++[x2])[L.length]? = some x0:=by simp only [List.append_assoc,List.cons_append,List.nil_append];exact (ga (L:=L) (M:=[x0,x1,x2]) (i:=0)).trans rfl
theorem sj3_0 {α:Type} {L:List α} {x0 x1 x2 y:α}:(((L++[x0])++[x1])++[x2]).set (L.length) y=(((L++[y])++[x1])++[x2]):=by simp only [List.append_assoc,List.cons_append,List.nil_append];exact (sa (L:=L) (M:=[x0,x1,x2]) (i:=0) (y:=y)).trans rfl
theorem gj3_1 {α:Type} {L:List α} {x0 x1 x2:α}:(((L++[x0])++[x1])++[x2])[L.length+1]? = some x1:=by simp only [List.append_assoc,List.cons_append,List.nil_append];exact (ga (L:=L) (M:=[x0,x1,x2]) (i:=1)).trans rfl
theorem sj3_1 {α:Type} {L:List α} {x0 x1 x2 y:α}:(((L++[x0])++[x1])++[x2]).set (L.length+1) y=(((L++[x0])++[y])++[x2]):=by simp only [List.append_assoc,List.cons_append,List.nil_append];exact (sa (L:=L) (M:=[x0,x1,x2]) (i:=1) (y:=y)).trans rfl
theorem gj3_2 {α:Type} {L:List α} {x0 x1 x2:α}:(((L++[x0])++[x1])++[x2])[L.length+1+1]? = some x2:=by simp only [List.append_assoc,List.cons_append,List.nil_append];exact (ga (L:=L) (M:=[x0,x1,x2]) (i:=2)).trans rfl
theorem sj3_2 {α:Type} {L:List α} {x0 x1 x2 y:α}:(((L++[x0])++[x1])++[x2]).set (L.length+1+1) y=(((L++[x0])++[x1])++[y]):=by simp only [List.append_assoc,List.cons_append,List.nil_append];exact (sa (L:=L) (M:=[x0,x1,x2]) (i:=2) (y:=y)).trans rfl
theorem gj4_0 {α:Type} {L:List α} {x0 x1 x2 x3:α}:((((L++[x0])++[x1])++[x2])++[x3])[L.length]? = some x0:=by simp only [List.append_assoc,List.cons_append,List.nil_append];exact (ga (L:=L) (M:=[x0,x1,x2,x3]) (i:=0)).trans rfl
theorem sj4_0 {α:Type} {L:List α} {x0 x1 x2 x3 y:α}:((((L++[x0])++[x1])++[x2])++[x3]).set (L.length) y=((((L++[y])++[x1])++[x2])++[x3]):=by simp only [List.append_assoc,List.cons_append,List.nil_append];exact (sa (L:=L) (M:=[x0,x1,x2,x3]) (i:=0) (y:=y)).trans rfl
theorem gj4_1 {α:Type} {L:List α} {x0 x1 x2 x3:α}:((((L++[x0])++[x1])++[x2])++[x3])[L.length+1]? = some x1:=by simp only [List.append_assoc,List.cons_append,List.nil_append];exact (ga (L:=L) (M:=[x0,x1,x2,x3]) (i:=1)).trans rfl
theorem sj4_1 {α:Type} {L:List α} {x0 x1 x2 x3 y:α}:((((L++[x0])++[x1])++[x2])++[x3]).set (L.length+1) y=((((L++[x0])++[y])++[x2])++[x3]):=by simp only [List.append_assoc,List.cons_append,List.nil_append];exact (sa (L:=L) (M:=[x0,x1,x2,x3]) (i:=1) (y:=y)).trans rfl
theorem gj4_2 {α:Type} {L:List α} {x0 x1 x2 x3:α}:((((L++[x0])++[x1])++[x2])++[x3])[L.length+1+1]? = some x2:=by simp only [List.append_assoc,List.cons_append,List.nil_append];exact (ga (L:=L) (M:=[x0,x1,x2,x3]) (i:=2)).trans rfl
theorem sj4_2 {α:Type} {L:List α} {x0 x1 x2 x3 y:α}:((((L++[x0])++[x1])++[x2])++[x3]).set (L.length+1+1) y=((((L++[x0])++[x1])++[y])++[x3]):=by simp only [List.append_assoc,List.cons_append,List.nil_append];exact (sa (L:=L) (M:=[x0,x1,x2,x3]) (i:=2) (y:=y)).trans rfl
theorem gj4_3 {α:Type} {L:List α} {x0 x1 x2 x3:α}:((((L++[x0])++[x1])++[x2])++[x3])[L.length+1+1+1]? = some x3:=by simp only [List.append_assoc,List.cons_append,List.nil_append];exact (ga (L:=L) (M:=[x0,x1,x2,x3]) (i:=3)).trans rfl
theorem sj4_3 {α:Type} {L:List α} {x0 x1 x2 x3 y:α}:((((L++[x0])++[x1])++[x2])++[x3]).set (L.length+1+1+1) y=((((L++[x0])++[x1])++[x2])++[y]):=by simp only [List.append_assoc,List.cons_append,List.nil_append];exact (sa (L:=L) (M:=[x0,x1,x2,x3]) (i:=3) (y:=y)).trans rfl
theorem gj5_0 {α:Type} {L:List α} {x0 x1 x2 x3 x4:α}:(((((L++[x0])++[x1])++[x2])++[x3])++[x4])[L.length]? = some x0:=by simp only [List.append_assoc,List.cons_append,List.nil_append];exact (ga (L:=L) (M:=[x0,x1,x2,x3,x4]) (i:=0)).trans rfl
theorem sj5_0 {α:Type} {L:List α} {x0 x1 x2 x3 x4 y:α}:(((((L++[x0])++[x1])++[x2])++[x3])++[x4]).set (L.length) y=(((((L++[y])++[x1])++[x2])++[x3])++[x4]):=by simp only [List.append_assoc,List.cons_append,List.nil_append];exact (sa (L:=L) (M:=[x0,x1,x2,x3,x4]) (i:=0) (y:=y)).trans rfl
theorem gj5_1 {α:Type} {L:List α} {x0 x1 x2 x3 x4:α}:(((((L++[x0])++[x1])++[x2])++[x3])++[x4])[L.length+1]? = some x1:=by simp only [List.append_assoc,List.cons_append,List.nil_append];exact (ga (L:=L) (M:=[x0,x1,x2,x3,x4]) (i:=1)).trans rfl
theorem sj5_1 {α:Type} {L:List α} {x0 x1 x2 x3 x4 y:α}:(((((L++[x0])++[x1])++[x2])++[x3])++[x4]).set (L.length+1) y=(((((L++[x0])++[y])++[x2])++[x3])++[x4]):=by simp only [List.append_assoc,List.cons_append,List.nil_append];exact (sa (L:=L) (M:=[x0,x1,x2,x3,x4]) (i:=1) (y:=y)).trans rfl
theorem gj5_2 {α:Type} {L:List α} {x0 x1 x2 x3 x4:α}:(((((L++[x0])++[x1])++[x2])++[x3])++[x4])[L.length+1+1]? = some x2:=by simp only [List.append_assoc,List.cons_append,List.nil_append];exact (ga (L:=L) (M:=[x0,x1,x2,x3,x4]) (i:=2)).trans rfl
theorem sj5_2 {α:Type} {L:List α} {x0 x1 x2 x3 x4 y:α}:(((((L++[x0])++[x1])++[x2])++[x3])++[x4]).set (L.length+1+1) y=(((((L++[x0])++[x1])++[y])++[x3])++[x4]):=by simp only [List.append_assoc,List.cons_append,List.nil_append];exact (sa (L:=L) (M:=[x0,x1,x2,x3,x4]) (i:=2) (y:=y)).trans rfl
theorem gj5_3 {α:Type} {L:List α} {x0 x1 x2 x3 x4:α}:(((((L++[x0])++[x1])++[x2])++[x3])++[x4])[L.length+1+1+1]? = some x3:=by simp only [List.append_assoc,List.cons_append,List.nil_append];exact (ga (L:=L) (M:=[x0,x1,x2,x3,x4]) (i:=3)).trans rfl
theorem sj5_3 {α:Type} {L:List α} {x0 x1 x2 x3 x4 y:α}:(((((L++[x0])++[x1])++[x2])++[x3])++[x4]).set (L.length+1+1+1) y=(((((L++[x0])++[x1])++[x2])++[y])++[x4]):=by simp only [List.append_assoc,List.cons_append,List.nil_append];exact (sa (L:=L) (M:=[x0,x1,x2,x3,x4]) (i:=3) (y:=y)).trans rfl
theorem gj5_4 {α:Type} {L:List α} {x0 x1 x2 x3 x4:α}:(((((L++[x0])++[x1])++[x2])++[x3])++[x4])[L.length+1+1+1+1]? = some x4:=by simp only [List.append_assoc,List.cons_append,List.nil_append];exact (ga (L:=L) (M:=[x0,x1,x2,x3,x4]) (i:=4)).trans rfl
theorem sj5_4 {α:Type} {L:List α} {x0 x1 x2 x3 x4 y:α}:(((((L++[x0])++[x1])++[x2])++[x3])++[x4]).set (L.length+1+1+1+1) y=(((((L++[x0])++[x1])++[x2])++[x3])++[y]):=by simp only [List.append_assoc,List.cons_append,List.nil_append];exact (sa (L:=L) (M:=[x0,x1,x2,x3,x4]) (i:=4) (y:=y)).trans rfl
theorem gj6_0 {α:Type} {L:List α} {x0 x1 x2 x3 x4 x5:α}:((((((L++[x0])++[x1])++[x2])++[x3])++[x4])++[x5])[L.length]? = some x0:=by simp only [List.append_assoc,List.cons_append,List.nil_append];exact (ga (L:=L) (M:=[x0,x1,x2,x3,x4,x5]) (i:=0)).trans rfl
theorem sj6_0 {α:Type} {L:List α} {x0 x1 x2 x3 x4 x5 y:α}:((((((L++[x0])++[x1])++[x2])++[x3])++[x4])++[x5]).set (L.length) y=((((((L++[y])++[x1])++[x2])++[x3])++[x4])++[x5]):=by simp only [List.append_assoc,List.cons_append,List.nil_append];exact (sa (L:=L) (M:=[x0,x1,x2,x3,x4,x5]) (i:=0) (y:=y)).trans rfl
theorem gj6_1 {α:Type} {L:List α} {x0 x1 x2 x3 x4 x5:α}:((((((L++[x0])++[x1])++[x2])++[x3])++[x4])++[x5])[L.length+1]? = some x1:=by simp only [List.append_assoc,List.cons_append,List.nil_append];exact (ga (L:=L) (M:=[x0,x1,x2,x3,x4,x5]) (i:=1)).trans rfl
theorem sj6_1 {α:Type} {L:List α} {x0 x1 x2 x3 x4 x5 y:α}:((((((L++[x0])++[x1])++[x2])++[x3])++[x4])++[x5]).set (L.length+1) y=((((((L++[x0])++[y])++[x2])++[x3])++[x4])++[x5]):=by simp only [List.append_assoc,List.cons_append,List.nil_append];exact (sa (L:=L) (M:=[x0,x1,x2,x3,x4,x5]) (i:=1) (y:=y)).trans rfl
theorem gj6_2 {α:Type} {L:List α} {x0 x1 x2 x3 x4 x5:α}:((((((L++[x0])++[x1])++[x2])++[x3])++[x4])++[x5])[L.length+1+1]? = some x2:=by simp only [List.append_assoc,List.cons_append,List.nil_append];exact (ga (L:=L) (M:=[x0,x1,x2,x3,x4,x5]) (i:=2)).trans rfl
theorem sj6_2 {α:Type} {L:List α} {x0 x1 x2 x3 x4 x5 y:α}:((((((L++[x0])++[x1])++[x2])++[x3])++[x4])++[x5]).set (L.length+1+1) y=((((((L++[x0])++[x1])++[y])++[x3])++[x4])++[x5]):=by simp only [List.append_assoc,List.cons_append,List.nil_append];exact (sa (L:=L) (M:=[x0,x1,x2,x3,x4,x5]) (i:=2) (y:=y)).trans rfl
theorem gj6_3 {α:Type} {L:List α} {x0 x1 x2 x3 x4 x5:α}:((((((L++[x0])++[x1])++[x2])++[x3])++[x4])++[x5])[L.length+1+1+1]? = some x3:=by simp only [List.append_assoc,List.cons_append,List.nil_append];exact (ga (L:=L) (M:=[x0,x1,x2,x3,x4,x5]) (i:=3)).trans rfl
theorem sj6_3 {α:Type} {L:List α} {x0 x1 x2 x3 x4 x5 y:α}:((((((L++[x0])++[x1])++[x2])++[x3])++[x4])++[x5]).set (L.length+1+1+1) y=((((((L++[x0])++[x1])++[x2])++[y])++[x4])++[x5]):=by simp only [List.append_assoc,List.cons_append,List.nil_append];exact (sa (L:=L) (M:=[x0,x1,x2,x3,x4,x5]) (i:=3) (y:=y)).trans rfl
theorem gj6_4 {α:Type} {L:List α} {x0 x1 x2 x3 x4 x5:α}:((((((L++[x0])++[x1])++[x2])++[x3])++[x4])++[x5])[L.length+1+1+1+1]? = some x4:=by simp only [List.append_assoc,List.cons_append,List.nil_append];exact (ga (L:=L) (M:=[x0,x1,x2,x3,x4,x5]) (i:=4)).trans rfl
theorem sj6_4 {α:Type} {L:List α} {x0 x1 x2 x3 x4 x5 y:α}:((((((L++[x0])++[x1])++[x2])++[x3])++[x4])++[x5]).set (L.length+1+1+1+1) y=((((((L++[x0])++[x1])++[x2])++[x3])++[y])++[x5]):=by simp only [List.append_assoc,List.cons_append,List.nil_append];exact (sa (L:=L) (M:=[x0,x1,x2,x3,x4,x5]) (i:=4) (y:=y)).trans rfl
theorem gj6_5 {α:Type} {L:List α} {x0 x1 x2 x3 x4 x5:α}:((((((L++[x0])++[x1])++[x2])++[x3])++[x4])++[x5])[L.length+1+1+1+1+1]? = some x5:=by simp only [List.append_assoc,List.cons_append,List.nil_append];exact (ga (L:=L) (M:=[x0,x1,x2,x3,x4,x5]) (i:=5)).trans rfl
theorem sj6_5 {α:Type} {L:List α} {x0 x1 x2 x3 x4 x5 y:α}:((((((L++[x0])++[x1])++[x2])++[x3])++[x4])++[x5]).set (L.length+1+1+1+1+1) y=((((((L++[x0])++[x1])++[x2])++[x3])++[x4])++[y]):=by simp only [List.append_assoc,List.cons_append,List.nil_append];exact (sa (L:=L) (M:=[x0,x1,x2,x3,x4,x5]) (i:=5) (y:=y)).trans rfl
theorem gj7_0 {α:Type} {L:List α} {x0 x1 x2 x3 x4 x5 x6:α}:(((((((L++[x0])++[x1])++[x2])++[x3])++[x4])++[x5])++[x6])[L.length]? = some x0:=by simp only [List.append_assoc,List.cons_append,List.nil_append];exact (ga (L:=L) (M:=[x0,x1,x2,x3,x4,x5,x6]) (i:=0)).trans rfl
theorem sj7_0 {α:Type} {L:List α} {x0 x1 x2 x3 x4 x5 x6 y:α}:(((((((L++[x0])++[x1])++[x2])++[x3])++[x4])++[x5])++[x6]).set (L.length) y=(((((((L++[y])++[x1])++[x2])++[x3])++[x4])++[x5])++[x6]):=by simp only [List.append_assoc,List.cons_append,List.nil_append];exact (sa (L:=L) (M:=[x0,x1,x2,x3,x4,x5,x6]) (i:=0) (y:=y)).trans rfl
theorem gj7_1 {α:Type} {L:List α} {x0 x1 x2 x3 x4 x5 x6:α}:(((((((L++[x0])++[x1])++[x2])++[x3])++[x4])++[x5])++[x6])[L.length+1]? = some x1:=by simp only [List.append_assoc,List.cons_append,List.nil_append];exact (ga (L:=L) (M:=[x0,x1,x2,x3,x4,x5,x6]) (i:=1)).trans rfl
theorem sj7_1 {α:Type} {L:List α} {x0 x1 x2 x3 x4 x5 x6 y:α}:(((((((L++[x0])++[x1])++[x2])++[x3])++[x4])++[x5])++[x6]).set (L.length+1) y=(((((((L++[x0])++[y])++[x2])++[x3])++[x4])++[x5])++[x6]):=by simp only [List.append_assoc,List.cons_append,List.nil_append];exact (sa (L:=L) (M:=[x0,x1,x2,x3,x4,x5,x6]) (i:=1) (y:=y)).trans rfl
theorem gj7_2 {α:Type} {L:List α} {x0 x1 x2 x3 x4 x5 x6:α}:(((((((L++[x0])++[x1])++[x2])++[x3])++[x4])++[x5])++[x6])[L.length+1+1]? = some x2:=by simp only [List.append_assoc,List.cons_append,List.nil_append];exact (ga (L:=L) (M:=[x0,x1,x2,x3,x4,x5,x6]) (i:=2)).trans rfl
theorem sj7_2 {α:Type} {L:List α} {x0 x1 x2 x3 x4 x5 x6 y:α}:(((((((L++[x0])++[x1])++[x2])++[x3])++[x4])++[x5])++[x6]).set (L.length+1+1) y=(((((((L++[x0])++[x1])++[y])++[x3])++[x4])++[x5])++[x6]):=by simp only [List.append_assoc,List.cons_append,List.nil_append];exact (sa (L:=L) (M:=[x0,x1,x2,x3,x4,x5,x6]) (i:=2) (y:=y)).trans rfl
theorem gj7_3 {α:Type} {L:List α} {x0 x1 x2 x3 x4 x5 x6:α}:(((((((L++[x0])++[x1])++[x2])++[x3])++[x4])++[x5])++[x6])[L.length+1+1+1]? = some x3:=by simp only [List.append_assoc,List.cons_append,List.nil_append];exact (ga (L:=L) (M:=[x0,x1,x2,x3,x4,x5,x6]) (i:=3)).trans rfl
theorem sj7_3 {α:Type} {L:List α} {x0 x1 x2 x3 x4 x5 x6 y:α}:(((((((L++[x0])++[x1])++[x2])++[x3])++[x4])++[x5])++[x6]).set (L.length+1+1+1) y=(((((((L++[x0])++[x1])++[x2])++[y])++[x4])++[x5])++[x6]):=by simp only [List.append_assoc,List.cons_append,List.nil_append];exact (sa (L:=L) (M:=[x0,x1,x2,x3,x4,x5,x6]) (i:=3) (y:=y)).trans rfl
theorem gj7_4 {α:Type} {L:List α} {x0 x1 x2 x3 x4 x5 x6:α}:(((((((L++[x0])++[x1])++[x2])++[x3])++[x4])++[x5])++[x6])[L.length+1+1+1+1]? = some x4:=by simp only [List.append_assoc,List.cons_append,List.nil_append];exact (ga (L:=L) (M:=[x0,x1,x2,x3,x4,x5,x6]) (i:=4)).trans rfl
theorem sj7_4 {α:Type} {L:List α} {x0 x1 x2 x3 x4 x5 x6 y:α}:(((((((L++[x0])++[x1])++[x2])++[x3])++[x4])++[x5])++[x6]).set (L.length+1+1+1+1) y=(((((((L++[x0])++[x1])++[x2])++[x3])++[y])++[x5])++[x6]):=by simp only [List.append_assoc,List.cons_append,List.nil_append];exact (sa (L:=L) (M:=[x0,x1,x2,x3,x4,x5,x6]) (i:=4) (y:=y)).trans rfl
theorem gj7_5 {α:Type} {L:List α} {x0 x1 x2 x3 x4 x5 x6:α}:(((((((L++[x0])++[x1])++[x2])++[x3])++[x4])++[x5])++[x6])[L.length+1+1+1+1+1]? = some x5:=by simp only [List.append_assoc,List.cons_append,List.nil_append];exact (ga (L:=L) (M:=[x0,x1,x2,x3,x4,x5,x6]) (i:=5)).trans rfl
theorem sj7_5 {α:Type} {L:List α} {x0 x1 x2 x3 x4 x5 x6 y:α}:(((((((L++[x0])++[x1])++[x2])++[x3])++[x4])++[x5])++[x6]).set (L.length+1+1+1+1+1) y=(((((((L++[x0])++[x1])++[x2])++[x3])++[x4])++[y])++[x6]):=by simp only [List.append_assoc,List.cons_append,List.nil_append];exact (sa (L:=L) (M:=[x0,x1,x2,x3,x4,x5,x6]) (i:=5) (y:=y)).trans rfl
theorem gj7_6 {α:Type} {L:List α} {x0 x1 x2 x3 x4 x5 x6:α}:(((((((L++[x0])++[x1])++[x2])++[x3])++[x4])++[x5])++[x6])[L.length+1+1+1+1+1+1]? = some x6:=by simp only [List.append_assoc,List.cons_append,List.nil_append];exact (ga (L:=L) (M:=[x0,x1,x2,x3,x4,x5,x6]) (i:=6)).trans rfl
theorem sj7_6 {α:Type} {L:List α} {x0 x1 x2 x3 x4 x5 x6 y:α}:(((((((L++[x0])++[x1])++[x2])++[x3])++[x4])++[x5])++[x6]).set (L.length+1+1+1+1+1+1) y=(((((((L++[x0])++[x1])++[x2])++[x3])++[x4])++[x5])++[y]):=by simp only [List.append_assoc,List.cons_append,List.nil_append];exact (sa (L:=L) (M:=[x0,x1,x2,x3,x4,x5,x6]) (i:=6) (y:=y)).trans rfl
theorem gj8_0 {α:Type} {L:List α} {x0 x1 x2 x3 x4 x5 x6 x7:α}:((((((((L++[x0])++[x1])++[x2])++[x3])++[x4])++[x5])++[x6])++[x7])[L.length]? = some x0:=by simp only [List.append_assoc,List.cons_append,List.nil_append];exact (ga (L:=L) (M:=[x0,x1,x2,x3,x4,x5,x6,x7]) (i:=0)).trans rfl
theorem sj8_0 {α:Type} {L:List α} {x0 x1 x2 x3 x4 x5 x6 x7 y:α}:((((((((L++[x0])++[x1])++[x2])++[x3])++[x4])++[x5])++[x6])++[x7]).set (L.length) y=((((((((L++[y])++[x1])++[x2])++[x3])++[x4])++[x5])++[x6])++[x7]):=by simp only [List.append_assoc,List.cons_append,List.nil_append];exact (sa (L:=L) (M:=[x0,x1,x2,x3,x4,x5,x6,x7]) (i:=0) (y:=y)).trans rfl
theorem gj8_1 {α:Type} {L:List α} {x0 x1 x2 x3 x4 x5 x6 x7:α}:((((((((L++[x0])++[x1])++[x2])++[x3])++[x4])++[x5])++[x6])++[x7])[L.length+1]? = some x1:=by simp only [List.append_assoc,List.cons_append,List.nil_append];exact (ga (L:=L) (M:=[x0,x1,x2,x3,x4,x5,x6,x7]) (i:=1)).trans rfl
theorem sj8_1 {α:Type} {L:List α} {x0 x1 x2 x3 x4 x5 x6 x7 y:α}:((((((((L++[x0])++[x1])++[x2])++[x3])++[x4])++[x5])++[x6])++[x7]).set (L.length+1) y=((((((((L++[x0])++[y])++[x2])++[x3])++[x4])++[x5])++[x6])++[x7]):=by simp only [List.append_assoc,List.cons_append,List.nil_append];exact (sa (L:=L) (M:=[x0,x1,x2,x3,x4,x5,x6,x7]) (i:=1) (y:=y)).trans rfl
theorem gj8_2 {α:Type} {L:List α} {x0 x1 x2 x3 x4 x5 x6 x7:α}:((((((((L++[x0])++[x1])++[x2])++[x3])++[x4])++[x5])++[x6])++[x7])[L.length+1+1]? = some x2:=by simp only [List.append_assoc,List.cons_append,List.nil_append];exact (ga (L:=L) (M:=[x0,x1,x2,x3,x4,x5,x6,x7]) (i:=2)).trans rfl
theorem sj8_2 {α:Type} {L:List α} {x0 x1 x2 x3 x4 x5 x6 x7 y:α}:((((((((L++[x0])++[x1])++[x2])++[x3])++[x4])++[x5])++[x6])++[x7]).set (L.length+1+1) y=((((((((L++[x0])++[x1])++[y])++[x3])++[x4])++[x5])++[x6])++[x7]):=by simp only [List.append_assoc,List.cons_append,List.nil_append];exact (sa (L:=L) (M:=[x0,x1,x2,x3,x4,x5,x6,x7]) (i:=2) (y:=y)).trans rfl
theorem gj8_3 {α:Type} {L:List α} {x0 x1 x2 x3 x4 x5 x6 x7:α}:((((((((L++[x0])++[x1])++[x2])++[x3])++[x4])++[x5])++[x6])++[x7])[L.length+1+1+1]? = some x3:=by simp only [List.append_assoc,List.cons_append,List.nil_append];exact (ga (L:=L) (M:=[x0,x1,x2,x3,x4,x5,x6,x7]) (i:=3)).trans rfl
theorem sj8_3 {α:Type} {L:List α} {x0 x1 x2 x3 x4 x5 x6 x7 y:α}:((((((((L++[x0])++[x1])++[x2])++[x3])++[x4])++[x5])++[x6])++[x7]).set (L.length+1+1+1) y=((((((((L++[x0])++[x1])++[x2])++[y])++[x4])++[x5])++[x6])++[x7]):=by simp only [List.append_assoc,List.cons_append,List.nil_append];exact (sa (L:=L) (M:=[x0,x1,x2,x3,x4,x5,x6,x7]) (i:=3) (y:=y)).trans rfl
theorem gj8_4 {α:Type} {L:List α} {x0 x1 x2 x3 x4 x5 x6 x7:α}:((((((((L++[x0])++[x1])++[x2])++[x3])++[x4])++[x5])++[x6])++[x7])[L.length+1+1+1+1]? = some x4:=by simp only [List.append_assoc,List.cons_append,List.nil_append];exact (ga (L:=L) (M:=[x0,x1,x2,x3,x4,x5,x6,x7]) (i:=4)).trans rfl
theorem sj8_4 {α:Type} {L:List α} {x0 x1 x2 x3 x4 x5 x6 x7 y:α}:((((((((L++[x0])++[x1])++[x2])++[x3])++[x4])++[x5])++[x6])++[x7]).set (L.length+1+1+1+1) y=((((((((L++[x0])++[x1])++[x2])++[x3])++[y])++[x5])++[x6])++[x7]):=by simp only [List.append_assoc,List.cons_append,List.nil_append];exact (sa (L:=L) (M:=[x0,x1,x2,x3,x4,x5,x6,x7]) (i:=4) (y:=y)).trans rfl
theorem gj8_5 {α:Type} {L:List α} {x0 x1 x2 x3 x4 x5 x6 x7:α}:((((((((L++[x0])++[x1])++[x2])++[x3])++[x4])++[x5])++[x6])++[x7])[L.length+1+1+1+1+1]? = some x5:=by simp only [List.append_assoc,List.cons_append,List.nil_append];exact (ga (L:=L) (M:=[x0,x1,x2,x3,x4,x5,x6,x7]) (i:=5)).trans rfl
theorem sj8_5 {α:Type} {L:List α} {x0 x1 x2 x3 x4 x5 x6 x7 y:α}:((((((((L++[x0])++[x1])++[x2])++[x3])++[x4])++[x5])++[x6])++[x7]).set (L.length+1+1+1+1+1) y=((((((((L++[x0])++[x1])++[x2])++[x3])++[x4])++[y])++[x6])++[x7]):=by simp only [List.append_assoc,List.cons_append,List.nil_append];exact (sa (L:=L) (M:=[x0,x1,x2,x3,x4,x5,x6,x7]) (i:=5) (y:=y)).trans rfl
theorem gj8_6 {α:Type} {L:List α} {x0 x1 x2 x3 x4 x5 x6 x7:α}:((((((((L++[x0])++[x1])++[x2])++[x3])++[x4])++[x5])++[x6])++[x7])[L.length+1+1+1+1+1+1]? = some x6:=by simp only [List.append_assoc,List.cons_append,List.nil_append];exact (ga (L:=L) (M:=[x0,x1,x2,x3,x4,x5,x6,x7]) (i:=6)).trans rfl
theorem sj8_6 {α:Type} {L:List α} {x0 x1 x2 x3 x4 x5 x6 x7 y:α}:((((((((L++[x0])++[x1])++[x2])++[x3])++[x4])++[x5])++[x6])++[x7]).set (L.length+1+1+1+1+1+1) y=((((((((L++[x0])++[x1])++[x2])++[x3])++[x4])++[x5])++[y])++[x7]):=by simp only [List.append_assoc,List.cons_append,List.nil_append];exact (sa (L:=L) (M:=[x0,x1,x2,x3,x4,x5,x6,x7]) (i:=6) (y:=y)).trans rfl
theorem gj8_7 {α:Type} {L:List α} {x0 x1 x2 x3 x4 x5 x6 x7:α}:((((((((L++[x0])++[x1])++[x2])++[x3])++[x4])++[x5])++[x6])++[x7])[L.length+1+1+1+1+1+1+1]? = some x7:=by simp only [List.append_assoc,List.cons_append,List.nil_append];exact (ga (L:=L) (M:=[x0,x1,x2,x3,x4,x5,x6,x7]) (i:=7)).trans rfl
theorem sj8_7 {α:Type} {L:List α} {x0 x1 x2 x3 x4 x5 x6 x7 y:α}:((((((((L++[x0])++[x1])++[x2])++[x3])++[x4])++[x5])++[x6])++[x7]).set (L.length+1+1+1+1+1+1+1) y=((((((((L++[x0])++[x1])++[x2])++[x3])++[x4])++[x5])++[x6])++[y]):=by simp only [List.append_assoc,List.cons_append,List.nil_append];exact (sa (L:=L) (M:=[x0,x1,x2,x3,x4,x5,x6,x7]) (i:=7) (y:=y)).trans rfl
theorem gj9_0 {α:Type} {L:List α} {x0 x1 x2 x3 x4 x5 x6 x7 x8:α}:(((((((((L++[x0])++[x1])++[x2])++[x3])++[x4])++[x5])++[x6])++[x7])++[x8])[L.length]? = some x0:=by simp only [List.append_assoc,List.cons_append,List.nil_append];exact (ga (L:=L) (M:=[x0,x1,x2,x3,x4,x5,x6,x7,x8]) (i:=0)).trans rfl
theorem sj9_0 {α:Type} {L:List α} {x0 x1 x2 x3 x4 x5 x6 x7 x8 y:α}:(((((((((L++[x0])++[x1])++[x2])++[x3])++[x4])++[x5])++[x6])++[x7])++[x8]).set (L.length) y=(((((((((L++[y])++[x1])++[x2])++[x3])++[x4])++[x5])++[x6])++[x7])++[x8]):=by simp only [List.append_assoc,List.cons_append,List.nil_append];exact (sa (L:=L) (M:=[x0,x1,x2,x3,x4,x5,x6,x7,x8]) (i:=0) (y:=y)).trans rfl
theorem gj9_1 {α:Type} {L:List α} {x0 x1 x2 x3 x4 x5 x6 x7 x8:α}:(((((((((L++[x0])++[x1])++[x2])++[x3])++[x4])++[x5])++[x6])++[x7])++[x8])[L.length+1]? = some x1:=by simp only [List.append_assoc,List.cons_append,List.nil_append];exact (ga (L:=L) (M:=[x0,x1,x2,x3,x4,x5,x6,x7,x8]) (i:=1)).trans rfl
theorem sj9_1 {α:Type} {L:List α} {x0 x1 x2 x3 x4 x5 x6 x7 x8 y:α}:(((((((((L++[x0])++[x1])++[x2])++[x3])++[x4])++[x5])++[x6])++[x7])++[x8]).set (L.length+1) y=(((((((((L++[x0])++[y])++[x2])++[x3])++[x4])++[x5])++[x6])++[x7])++[x8]):=by simp only [List.append_assoc,List.cons_append,List.nil_append];exact (sa (L:=L) (M:=[x0,x1,x2,x3,x4,x5,x6,x7,x8]) (i:=1) (y:=y)).trans rfl
theorem gj9_2 {α:Type} {L:List α} {x0 x1 x2 x3 x4 x5 x6 x7 x8:α}:(((((((((L++[x0])++[x1])++[x2])++[x3])++[x4])++[x5])++[x6])++[x7])++[x8])[L.length+1+1]? = some x2:=by simp only [List.append_assoc,List.cons_append,List.nil_append];exact (ga (L:=L) (M:=[x0,x1,x2,x3,x4,x5,x6,x7,x8]) (i:=2)).trans rfl
theorem sj9_2 {α:Type} {L:List α} {x0 x1 x2 x3 x4 x5 x6 x7 x8 y:α}:(((((((((L++[x0])++[x1])++[x2])++[x3])++[x4])++[x5])++[x6])++[x7])++[x8]).set (L.length+1+1) y=(((((((((L++[x0])++[x1])++[y])++[x3])++[x4])++[x5])++[x6])++[x7])++[x8]):=by simp only [List.append_assoc,List.cons_append,List.nil_append];exact (sa (L:=L) (M:=[x0,x1,x2,x3,x4,x5,x6,x7,x8]) (i:=2) (y:=y)).trans rfl
theorem gj9_3 {α:Type} {L:List α} {x0 x1 x2 x3 x4 x5 x6 x7 x8:α}:(((((((((L++[x0])++[x1])++[x2])++[x3])++[x4])++[x5])++[x6])++[x7])++[x8])[L.length+1+1+1]? = some x3:=by simp only [List.append_assoc,List.cons_append,List.nil_append];exact (ga (L:=L) (M:=[x0,x1,x2,x3,x4,x5,x6,x7,x8]) (i:=3)).trans rfl
theorem sj9_3 {α:Type} {L:List α} {x0 x1 x2 x3 x4 x5 x6 x7 x8 y:α}:(((((((((L++[x0])++[x1])++[x2])++[x3])++[x4])++[x5])++[x6])++[x7])++[x8]).set (L.length+1+1+1) y=(((((((((L++[x0])++[x1])++[x2])++[y])++[x4])++[x5])++[x6])++[x7])++[x8]):=by simp only [List.append_assoc,List.cons_append,List.nil_append];exact (sa (L:=L) (M:=[x0,x1,x2,x3,x4,x5,x6,x7,x8]) (i:=3) (y:=y)).trans rfl
theorem gj9_4 {α:Type} {L:List α} {x0 x1 x2 x3 x4 x5 x6 x7 x8:α}:(((((((((L++[x0])++[x1])++[x2])++[x3])++[x4])++[x5])++[x6])++[x7])++[x8])[L.length+1+1+1+1]? = some x4:=by simp only [List.append_assoc,List.cons_append,List.nil_append];exact (ga (L:=L) (M:=[x0,x1,x2,x3,x4,x5,x6,x7,x8]) (i:=4)).trans rfl
theorem sj9_4 {α:Type} {L:List α} {x0 x1 x2 x3 x4 x5 x6 x7 x8 y:α}:(((((((((L++[x0])++[x1])++[x2])++[x3])++[x4])++[x5])++[x6])++[x7])++[x8]).set (L.length+1+1+1+1) y=(((((((((L++[x0])++[x1])++[x2])++[x3])++[y])++[x5])++[x6])++[x7])++[x8]):=by simp only [List.append_assoc,List.cons_append,List.nil_append];exact (sa (L:=L) (M:=[x0,x1,x2,x3,x4,x5,x6,x7,x8]) (i:=4) (y:=y)).trans rfl
theorem gj9_5 {α:Type} {L:List α} {x0 x1 x2 x3 x4 x5 x6 x7 x8:α}:(((((((((L++[x0])++[x1])++[x2])++[x3])++[x4])++[x5])++[x6])++[x7])++[x8])[L.length+1+1+1+1+1]? = some x5:=by simp only [List.append_assoc,List.cons_append,List.nil_append];exact (ga (L:=L) (M:=[x0,x1,x2,x3,x4,x5,x6,x7,x8]) (i:=5)).trans rfl
theorem sj9_5 {α:Type} {L:List α} {x0 x1 x2 x3 x4 x5 x6 x7 x8 y:α}:(((((((((L++[x0])++[x1])++[x2])++[x3])++[x4])++[x5])++[x6])++[x7])++[x8]).set (L.length+1+1+1+1+1) y=(((((((((L++[x0])++[x1])++[x2])++[x3])++[x4])++[y])++[x6])++[x7])++[x8]):=by simp only [List.append_assoc,List.cons_append,List.nil_append];exact (sa (L:=L) (M:=[x0,x1,x2,x3,x4,x5,x6,x7,x8]) (i:=5) (y:=y)).trans rfl
theorem gj9_6 {α:Type} {L:List α} {x0 x1 x2 x3 x4 x5 x6 x7 x8:α}:(((((((((L++[x0])++[x1])++[x2])++[x3])++[x4])++[x5])++[x6])++[x7])++[x8])[L.length+1+1+1+1+1+1]? = some x6:=by simp only [List.append_assoc,List.cons_append,List.nil_append];exact (ga (L:=L) (M:=[x0,x1,x2,x3,x4,x5,x6,x7,x8]) (i:=6)).trans rfl
theorem sj9_6 {α:Type} {L:List α} {x0 x1 x2 x3 x4 x5 x6 x7 x8 y:α}:(((((((((L++[x0])++[x1])++[x2])++[x3])++[x4])++[x5])++[x6])++[x7])++[x8]).set (L.length+1+1+1+1+1+1) y=(((((((((L++[x0])++[x1])++[x2])++[x3])++[x4])++[x5])++[y])++[x7])++[x8]):=by simp only [List.append_assoc,List.cons_append,List.nil_append];exact (sa (L:=L) (M:=[x0,x1,x2,x3,x4,x5,x6,x7,x8]) (i:=6) (y:=y)).trans rfl
theorem gj9_7 {α:Type} {L:List α} {x0 x1 x2 x3 x4 x5 x6 x7 x8:α}:(((((((((L++[x0])++[x1])++[x2])++[x3])++[x4])++[x5])++[x6])++[x7])++[x8])[L.length+1+1+1+1+1+1+1]? = some x7:=by simp only [List.append_assoc,List.cons_append,List.nil_append];exact (ga (L:=L) (M:=[x0,x1,x2,x3,x4,x5,x6,x7,x8]) (i:=7)).trans rfl
theorem sj9_7 {α:Type} {L:List α} {x0 x1 x2 x3 x4 x5 x6 x7 x8 y:α}:(((((((((L++[x0])++[x1])++[x2])++[x3])++[x4])++[x5])++[x6])++[x7])++[x8]).set (L.length+1+1+1+1+1+1+1) y=(((((((((L++[x0])++[x1])++[x2])++[x3])++[x4])++[x5])++[x6])++[y])++[x8]):=by simp only [List.append_assoc,List.cons_append,List.nil_append];exact (sa (L:=L) (M:=[x0,x1,x2,x3,x4,x5,x6,x7,x8]) (i:=7) (y:=y)).trans rfl
theorem gj9_8 {α:Type} {L:List α} {x0 x1 x2 x3 x4 x5 x6 x7 x8:α}:(((((((((L++[x0])++[x1])++[x2])++[x3])++[x4])++[x5])++[x6])++[x7])++[x8])[L.length+1+1+1+1+1+1+1+1]? = some x8:=by simp only [List.append_assoc,List.cons_append,List.nil_append];exact (ga (L:=L) (M:=[x0,x1,x2,x3,x4,x5,x6,x7,x8]) (i:=8)).trans rfl
theorem sj9_8 {α:Type} {L:List α} {x0 x1 x2 x3 x4 x5 x6 x7 x8 y:α}:(((((((((L++[x0])++[x1])++[x2])++[x3])++[x4])++[x5])++[x6])++[x7])++[x8]).set (L.length+1+1+1+1+1+1+1+1) y=(((((((((L++[x0])++[x1])++[x2])++[x3])++[x4])++[x5])++[x6])++[x7])++[y]):=by simp only [List.append_assoc,List.cons_append,List.nil_append];exact (sa (L:=L) (M:=[x0,x1,x2,x3,x4,x5,x6,x7,x8]) (i:=8) (y:=y)).trans rfl
section
variable {P:Program} {G:Nat->AV} {tab:Tab} {hs:List FuncId} {st:St}
theorem yL {ts:List RS} {r:AV} (h:∀ K:Option (List AV)->Prop,(∀ vs rs H',yv st.H vs=some (rs,H')->r=zp rs->K (some vs))->K (z6 st ts)):RetP ts r .r st :=
 ⟨.inr rfl,h (fun o=>∃ vs,o=some vs/\∃ rs H',yv st.H vs=some (rs,H')/\zp rs=r) (fun vs rs H' hp hv=>⟨vs,rfl,rs,H',hp,hv.symm⟩)⟩
theorem YK {ts:List RS} {r:AV} {H:Hp} (hH:st.H=H) (h:∀ K:Option (List AV)->Prop,(∀ vs,r=zp vs->K (some vs))->K (z6 st ts)):RetH ts r H .r st :=
 ⟨.inr rfl,h (fun o=>∃ vs,o=some vs/\zp vs=r) (fun vs hv=>⟨vs,rfl,hv.symm⟩),hH⟩
end
def tysOf (P:Program) (t:TypeId):Option (List TypeId):=match P.underlying t with|some (.struct fs)=>some (fs.toList.map (·.type))|_=>none
theorem ShC.flds {P:Program} {t:TypeId} {ts:List TypeId} {as_:List AV} (h:ShC P t as_) (hts:tysOf P t=some ts):ShFs P ts as_:=by
 unfold tysOf at hts
 split at hts
 ·rename_i fs ht
  cases hts
  exact h.fields ht rfl
 ·cases hts
theorem ShFs.cons {P:Program} {t:TypeId} {ts:List TypeId} {as_:List AV} (h:ShFs P (t::ts) as_):∃ p q,as_=p++q/\ShC P t p/\ShFs P ts q:=h
theorem ShFs.nil {P:Program} {as_:List AV} (h:ShFs P [] as_):as_=[]:=h
section
variable {P:Program} {G:Nat->AV} {Q:EX->St->Prop} {st:St} {c:AC}
theorem XJ (n:Nat) (h:wj (W P G c) Q n st):W P G (.loop c) Q st:=⟨n,h⟩
theorem XI {n:Nat} (h:W P G c (yg (wj (W P G c) Q n) Q) st):wj (W P G c) Q (n+1) st :=
 XA c (fun e st' he=>by cases e<;>exact he) h
end
abbrev W3:=Int × Int × Int
theorem Y6 {α:Type} {Pc:List AV->Prop} {f:α->List AV} (h:∀ cs,Pc cs->∃ w,cs=f w):∀ css:List (List AV),(∀ cs ∈ css,Pc cs)->∃ l:List α,css=l.map f
 | [],_=>⟨[],rfl⟩
 | cs::css,hh=>by
  obtain ⟨w,rfl⟩:=h cs (hh cs (by simp))
  obtain ⟨l,rfl⟩:=Y6 h css fun c hc=>hh c (by simp [hc])
  exact ⟨w::l,rfl⟩
theorem ofVal_pv {F:Fz} {x:Value} {a:AV} (h:zk x=some a):PV F x a:=by
 cases x with
 | agg cs =>
  simp only [zk] at h
  split at h
  ·rename_i as_ h1
   cases h
   obtain ⟨l,o,r⟩:=y7 (F:=F) (O:=[]) h1
   have:=PV.agg (F:=F) cs.toList as_ l o r
   simpa using this
  ·cases h
 | tuple cs =>
  simp only [zk] at h
  split at h
  ·rename_i as_ h1
   cases h
   obtain ⟨l,o,r⟩:=y7 (F:=F) (O:=[]) h1
   have:=PV.tup (F:=F) cs.toList as_ l r
   simpa using this
  ·cases h
 | _ =>
  simp only [zk] at h
  split at h
  ·rename_i hs
   cases h
   exact .v _ hs
  ·cases h
theorem wb {P : Program} {G : Nat -> AV} {f : FuncId} {as_ : List AV} {ys : List Value} {v : Value} {r : AV} (hc : zy as_ = some ys) (hr : zk v = some r)
  (h:∀ w,Calls P f ys.toArray w (fun e w'=>e = .returned v/\Below w.heap.size w w')):PC P G f as_ r:=by
 intro w F xs hF hG hl hv
 obtain rfl:xs=ys:=xW (F:=F) (O:=[]) hc hl fun i c a hc ha=>.p (hv i c a hc ha)
 refine (h w).mono ?_
 rintro e w' ⟨rfl,hb⟩
 exact ⟨v,F,rfl,ofVal_pv hr,Fz.le_refl F,fun b o v hv=>by rw [hb.cell (p:=⟨b,o,none⟩) (yk (hF b o v hv))];exact hF b o v hv,fun b o v hv=>.inl hv,hb⟩
theorem cutV {P:Program} {t:TypeId} (ht:P.underlying t=some .string) {s:ByteArray} {h:Int} (h0:0<=h) (h1:h<=s.size):zh P (Instr.sliceAt t (.string s) none (some (.int .i64 h)) none)=some (.string (s.extract 0 h.toNat)):=by
 unfold Instr.sliceAt
 show zh P (underlying t >>= _)=_
 rw [zS,ZK ht]
 show zh P (Instr.slice t (.string s) none (some (.int .i64 h)) none)=_
 unfold Instr.slice
 show zh P (underlying t >>= _)=_
 rw [zS,ZK ht]
 show zh P (Instr.sliceBounds false s.size s.size none (some (.int .i64 h)) none >>= _)=_
 rw [zS]
 have e:zh P (Instr.sliceBounds false s.size s.size none (some (.int .i64 h)) none)=some (0,h.toNat,s.size):=by
  unfold Instr.sliceBounds
  show zh P (Instr.sliceBound (.int .i64 h) s.size .sliceAlen >>= _)=_
  rw [zS]
  have e2:zh P (Instr.sliceBound (.int .i64 h) s.size .sliceAlen)=some h.toNat:=by
   unfold Instr.sliceBound
   show zh P (if 0<=h/\h<=s.size then pure h.toNat else _)=_
   rw [if_pos ⟨h0,h1⟩]
   rfl
  rw [e2]
  rfl
 rw [e]
 rfl
def mix (v:Nat->AV):List Nat->Nat->List AV->List AV
 | _,_,[]=>[]
 | [],_,s=>s
 | m::ms,i,a::s=>if i=m then v m::mix v ms (i+1) s else a::mix v (m::ms) (i+1) s
theorem Zv {v:Nat->AV} {i:Nat} {s:List AV}:mix v [] i s=s:=by cases s<;>rfl
theorem Zw {v:Nat->AV} {i:Nat} {M:List Nat}:mix v M i []=[]:=by cases M<;>rfl
theorem mix_t {v:Nat->AV} {m:Nat} {ms:List Nat} {a:AV} {s:List AV}:mix v (m::ms) m (a::s)=v m::mix v ms (m+1) s:=by simp [mix]
theorem mix_f {v:Nat->AV} {m i:Nat} {ms:List Nat} {a:AV} {s:List AV} (h:¬ i=m):mix v (m::ms) i (a::s)=a::mix v (m::ms) (i+1) s:=by simp [mix,h]
theorem xN (s0:List AV):∀ (M:List Nat) (i:Nat) (s:List AV),(∀ j,s0.getD (i+j) zd=s.getD j zd)->mix (fun j=>s0.getD j zd) M i s=s
 | _,_,[],_=>Zw
 | [],_,_::_,_=>Zv
 | m::ms,i,a::s,h=>by
  have h0:s0.getD i zd=a:=by simpa using h 0
  have ht:∀ j,s0.getD (i+1+j) zd=s.getD j zd:=fun j=>by
   have:=h (j+1)
   rw [show i+(j+1)=i+1+j by omega] at this
   simpa using this
  by_cases hm:i=m
  ·subst hm
   rw [mix_t,xN s0 ms (i+1) s ht,h0]
  ·rw [mix_f hm,xN s0 (m::ms) (i+1) s ht]
abbrev at_ (s:List AV):Nat->AV:=fun j=>s.getD j zd
def skp (k:Nat) (f:Nat->AV) (L:List AV):List AV:=(List.range k).map f++L
theorem skp_get {k n:Nat} {f:Nat->AV} {L:List AV} {d:AV}:(skp k f L).getD n d=if k<=n then L.getD (n - k) d else f n:=by
 unfold skp
 rw [List.getD_eq_getElem?_getD]
 by_cases h:k<=n
 ·rw [if_pos h,List.getElem?_append_right (by simpa using h),List.getD_eq_getElem?_getD];simp
 ·rw [if_neg h,List.getElem?_append_left (by simp;omega),List.getElem?_map,List.getElem?_range (by omega)];rfl
theorem skp_set {k n:Nat} {f:Nat->AV} {L:List AV} {r:AV}:(skp k f L).set n r=if k<=n then skp k f (L.set (n - k) r) else skp k (fun i=>if i=n then r else f i) L:=by
 unfold skp
 by_cases h:k<=n
 ·rw [if_pos h,List.set_append_right _ _ (by simpa using h)];simp
 ·rw [if_neg h, List.set_append_left _ _ (by simp; omega)]
  congr 1
  apply List.ext_getElem?
  intro i
  rw [List.getElem?_set,List.getElem?_map,List.getElem?_map]
  by_cases hi:n=i
  ·subst hi
   simp [show n < k by omega]
  ·rw [if_neg hi]
   by_cases hk:i < k
   ·rw [List.getElem?_range hk];simp [Ne.symm hi]
   ·rw [List.getElem?_eq_none (by simpa using hk)];rfl
theorem Zy {v f:Nat->AV} {m i k:Nat} {ms:List Nat} {L:List AV} (h:i+k<=m):mix v (m::ms) i (skp k f L)=skp k f (mix v (m::ms) (i+k) L):=by
 have key:∀ (A:List AV) (i:Nat),i+A.length<=m->mix v (m::ms) i (A++L)=A++mix v (m::ms) (i+A.length) L:=by
  intro A
  induction A with
  | nil=>intro i _;simp
  | cons a A ih =>
   intro i hi
   simp only [List.length_cons] at hi
   rw [List.cons_append,mix_f (by omega),ih (i+1) (by omega),List.cons_append,List.length_cons,show i+1+A.length=i+(A.length+1) by omega]
 unfold skp
 rw [key _ i (by simpa using h)]
 simp
section
variable {P:Program} {G:Nat->AV} {Q:EX->St->Prop}
theorem yi {c:AC} {s:List AV} {H:Hp} (a k:Nat) (hl:a+k<=s.length) (h:∀ f,W P G c Q ⟨s.take a++skp k f (s.drop (a+k)),H⟩):W P G c Q ⟨s,H⟩:=by
 have:=h (fun i=>s.getD (a+i) zd)
 have e:s.take a++skp k (fun i=>s.getD (a+i) zd) (s.drop (a+k))=s:=by
  apply List.ext_getElem?
  intro i
  unfold skp
  by_cases h1:i < a
  ·rw [List.getElem?_append_left (by simp;omega),List.getElem?_take,if_pos h1]
  ·rw [List.getElem?_append_right (by simp; omega)]
   have hta:(s.take a).length=a:=by simp;omega
   rw [hta]
   by_cases h2:i - a < k
   ·rw [List.getElem?_append_left (by simp; exact h2), List.getElem?_map, List.getElem?_range h2]
    simp only [Option.map_some]
    rw [show a+(i - a)=i by omega,List.getD_eq_getElem?_getD,List.getElem?_eq_getElem (by omega)];rfl
   ·rw [List.getElem?_append_right (by simp; omega), List.getElem?_drop]
    simp only [List.length_map,List.length_range]
    congr 1;omega
 rw [e] at this
 exact this
theorem Yz {c : AC} {s : List AV} {H : Hp} (M : List Nat) (I : Nat -> (Nat -> AV) -> Hp -> Prop) (n : Nat) (h0 : I 0 (at_ s) H)
  (round:∀ k v H',k < n->I k v H'->W P G c (yg (fun st'=>st'.s=mix (at_ st'.s) M 0 s/\I (k+1) (at_ st'.s) st'.H) Q) ⟨mix v M 0 s,H'⟩)
  (last:∀ v H',I n v H'->W P G c (yg (fun _=>False) Q) ⟨mix v M 0 s,H'⟩):W P G (.loop c) Q ⟨s,H⟩:=by
 refine w_loop_n (fun k st=>∃ v H',st=⟨mix v M 0 s,H'⟩/\I k v H') n ⟨at_ s,H,by rw [xN s M 0 s (fun j=>by rw [Nat.zero_add])],h0⟩ ?_ ?_
 ·rintro k st hk ⟨v, H', rfl, hI⟩
  refine XA c (fun e st' he=>?_) (round k v H' hk hI)
  cases e with
  | n=>exact ⟨at_ st'.s,st'.H,by cases st';simp only [St.mk.injEq,and_true];exact he.1,he.2⟩
  | x id=>exact he
  | r=>exact he
 ·rintro st ⟨v, H', rfl, hI⟩
  exact last v H' hI
theorem xH {c : AC} {s : List AV} {H : Hp} (M : List Nat) (I : Nat -> (Nat -> AV) -> Hp -> Prop) (n : Nat) (h0 : I n (at_ s) H)
  (round:∀ m v H',I m v H'->W P G c (yg (fun st'=>st'.s=mix (at_ st'.s) M 0 s/\∃ m',m' < m/\I m' (at_ st'.s) st'.H) Q) ⟨mix v M 0 s,H'⟩):W P G (.loop c) Q ⟨s,H⟩:=by
 refine w_loop (fun k st=>∃ v H',st=⟨mix v M 0 s,H'⟩/\I k v H') n ⟨at_ s,H,by rw [xN s M 0 s (fun j=>by rw [Nat.zero_add])],h0⟩ ?_
 rintro m st ⟨v,H',rfl,hI⟩
 refine XA c (fun e st' he=>?_) (round m v H' hI)
 cases e with
 | n =>
  obtain ⟨h1,m',hm,h2⟩:=he
  exact ⟨m',hm,at_ st'.s,st'.H,by cases st';simp only [St.mk.injEq,and_true];exact h1,h2⟩
 | x id=>exact he
 | r=>exact he
end
section
variable {P:Program} {G:Nat->AV} {hs:List FuncId}
theorem hc_pc {f:FuncId} {as_:List AV} {r:AV} (hp:as_.all AV.isP=true) (h:PC P G f as_ r) (H:Hp):HC P G f as_ H r H:=by
 intro B w0 F0 F O w xs hown hg hl hv
 have hcall:=h w F xs hown.fr hg hl fun i c a hc ha=>(hv i c a hc ha).pv (List.all_eq_true.1 hp a (List.mem_of_getElem? ha))
 refine hcall.mono ?_
 rintro e w' ⟨v,F'',rfl,hv,lF,hfr,hnew,hbel⟩
 refine ⟨v,rfl,F'',O,.p hv,?_,lF,Ow.le_refl O⟩
 have ok:=hown.keep hbel
 refine ⟨ok.len,fun i d ob hd ho=>?_,ok.inj,hfr,Fz.le_trans ok.le lF,fun b o v hv=>?_,ok.below,ok.size,ok.kept,ok.kb⟩
 ·have rr := ok.row i d ob hd ho
  have rr0:=hown.row i d ob hd ho
  obtain ⟨cur,q1,q2,q3⟩:=rr.cur
  refine { rr with cur:=⟨cur,q1,q2,fun n j x a hx ha=>by obtain ⟨c,g1,g2⟩:=q3 n j x a hx ha;exact ⟨c,g1,g2.mono lF (Ow.le_refl O)⟩⟩,hf:=fun o v hv=>?_ }
  rcases hnew _ _ _ hv with h1|h1
  ·exact rr.hf o v h1
  ·exact absurd rr0.lt (Nat.not_lt.2 h1)
 ·rcases hnew _ _ _ hv with h1 | h1
  ·exact hown.new b o v h1
  ·exact .inr (hown.okGe h1)
theorem xK {H:Hp} {st:St} (h:st.H=H):RetH [] (.tup []) H .n st:=⟨.inl rfl,⟨[],rfl,rfl⟩,h⟩
theorem ret_0r {H:Hp} {st:St} (h:st.H=H):RetH [] (.tup []) H .r st:=⟨.inr rfl,⟨[],rfl,rfl⟩,h⟩
theorem em_vr {F:Fz} {x:Value} {k:Nat} (h:PV F x (.sl k [])):(∃ b,VR F [] x (.em b k)):=by
 cases h with
 | sl A n cap k es hn hc hm hk h1 b o hA f hf h =>
  simp only [List.length_nil] at hn
  subst hn
  exact ⟨!A.isSome,.em A cap _ k (by cases A.isSome<;>rfl) hm⟩
theorem pc_em {f:FuncId} {af:AF} (hf:zI P hs f=some af) {as_ bs:List AV} {k:Nat} {r:AV} (h:∀ b,W P G af.body (RetP af.res r) (St.init af.n (as_ ++ .em b k::bs) [])):PC P G f (as_ ++ .sl k []::bs) r:=by
 unfold zI at hf
 split at hf
 ·rename_i fn hfn
  split at hf
  ·rename_i c hc
   split at hf
   ·rename_i ts ac hts hac
    cases hf
    intro w F xs hfr hg hl hv
    have hown:Own (Bd.of w.heap.size) w F F [] [] w:=⟨rfl,fun i d ob hd=>by simp at hd,fun i j d d' hd=>by simp at hd,hfr,Fz.le_refl F,fun b o v hv=>.inl hv,Below.refl _ _,Nat.le_refl _,fun _ h=>h.elim,fun _ h=>h.elim⟩
    have hxl:as_.length < xs.length:=by rw [hl];simp
    obtain ⟨b,hb⟩:=em_vr (hv as_.length xs[as_.length] (.sl k []) (List.getElem?_eq_getElem hxl) (by simp))
    refine calls_of_wp hfn hc (W_ok c ac hac _ _ _ _ _ F [] (h b) (xe hown hg (by rw [hl];simp) fun i c a hc ha=>?_) fun e st' a' w' F' O' he hr=>?_)
    ·by_cases hi : i = as_.length
     ·subst hi
      rw [List.getElem?_eq_getElem hxl] at hc
      rw [List.getElem?_append_right (Nat.le_refl _)] at ha
      simp at hc ha
      subst hc;subst ha
      exact hb
     ·refine .p (hv i c a hc ?_)
      by_cases hi2:i < as_.length
      ·rw [List.getElem?_append_left hi2] at ha ⊢;exact ha
      ·rw [List.getElem?_append_right (by omega)] at ha ⊢
       obtain ⟨m,hm⟩:∃ m,i - as_.length=m+1:=⟨i - as_.length - 1,by omega⟩
       rw [hm] at ha ⊢
       exact ha
    ·obtain ⟨hex, vs, hvs, rs, H', hp, hrs⟩ := he
     obtain ⟨ys,y1,y2,y3⟩:=yb hr hts hvs
     obtain ⟨F2,p1,p2,o2,l2⟩:=Y5 hr.own y2 y3 hp
     have key:a'.defers=[]/\∃ v,(results fn a'.tmps).run P w' = .ok v w'/\∃ v1 F',(Ending.returned v) = .returned v1/\PV F' v1 r/\F.le F'/\(∀ b o v,F' b o=some v->w'.cell? ⟨b,o,none⟩=some v)/\(∀ b o v,F' b o=some v->F b o=some v\/w.heap.size<=b)/\Below w.heap.size w w':=by
      refine ⟨hr.defs,_,y1,_,F2,rfl,?_,Fz.le_trans hr.leF l2,o2.fr,fun b o v hv=>(o2.new b o v hv).imp id (·.1),o2.below⟩
      rw [<- hrs]
      exact xL (by omega) p1
     rcases hex with rfl|rfl<;>exact key
   ·cases hf
  ·cases hf
 ·cases hf
end
set_option maxRecDepth 100000
def uA (b:UInt8):AV:=.v (.int .u8 (b.toNat:Int))
def bO0:OB:=⟨77,2,[.agg [.v (.pointer none),.nl 1]],0,0⟩
def bOn:OB:=⟨77,2,[.agg [.oa 0 0 0 0,.nl 1]],0,0⟩
def bO (g n:Nat):OB:=⟨77,2,[.agg [.oa 0 0 0 0,.ol 1 g n]],0,0⟩
def bD (L:List UInt8) (g:Nat):OB:=⟨5,1,L.map uA,g,0⟩
def Z6 (l:List UInt8):ByteArray:=⟨l.toArray⟩
theorem bytes_str (s:ByteArray):Z0 s=s.data.toList.map uA:=rfl
theorem YG (s:ByteArray):s.data.toList.length=s.size:=by rw [Array.length_toList];rfl
theorem u_all (L:List UInt8):(L.map uA).take L.length=L.map uA:=List.take_of_length_le (by simp)
theorem u_app (L:List UInt8) (s:ByteArray):(L.map uA).take L.length++Z0 s=(L++s.data.toList).map uA:=by
 rw [u_all,bytes_str,List.map_append]
theorem Z3 (L:List UInt8):(L.map uA).all nrB=true:=by simp [uA,nrB,AV.cells]
theorem ObE.of {o:Option (AV × Hp)} {r:AV} {H':Hp} {k:KK} (h:o=some (r,H')) (hk:k r H'):ObE o k:=⟨_,_,h,hk⟩
theorem live1 {b:OB} {L:List UInt8} {g:Nat}:live [b,bD L g] 1 g=some (bD L g):=by
 simp [live,bD]
theorem aps1 {b : OB} {L : List UInt8} {g : Nat} {s : ByteArray} (h : L.length + s.size <= 1000000) :
  apsA 5 1 [b,bD L g] (.ol 1 g L.length) (S s)=some (.ol 1 (g+1) (L++s.data.toList).length,[b,bD (L++s.data.toList) (g+1)]):=by
 have e:=YG s
 have h1:(L.length+s.size) * 1<=140737488355328:=by omega
 have h2:L.length+s.size<=maxLen:=by unfold maxLen;omega
 have h3:L.length<=(L.map uA).length:=by simp
 simp only [apsA,live1]
 rw [if_pos ⟨rfl,rfl,Nat.zero_le _,h3,h1,h2⟩]
 simp only [bD,u_app,List.length_append,e,List.set_cons_succ,List.set_cons_zero]
theorem aps0 {b : OB} {s : ByteArray} (h : s.size <= 1000000) (h0 : 0 < s.size) :
  apsA 5 1 [b] (.nl 1) (S s)=some (.ol 1 0 s.data.toList.length,[b,bD s.data.toList 0]):=by
 have e:=YG s
 have h1:s.size * 1<=140737488355328:=by omega
 have h2:s.size<=maxLen:=by unfold maxLen;omega
 simp only [apsA]
 rw [if_neg (by omega),if_pos ⟨h1,h2⟩,e]
 rfl
section
variable (G:Nat->AV)
set_option maxHeartbeats 4000000 in
theorem cc55a:HC Tryd.prog G 55 [.oa 0 0 0 0] [bO0] (.tup []) [bOn]:=by
 refine ZR cop55 rfl ?_
 unfold bO0 bOn
 repeat' ((conv=>whnf);first|(refine SeqP.go ?_)|((with_reducible refine (?_:ObE _ _));refine ObE.of (by rfl) ?_)|((refine ObD.mk ?_ ?_);exact zD)|((refine ObN.mk ?_ ?_);exact zN)|(refine ObT.tt ?_)|((with_reducible refine (?_:ObU _ _));(refine ObU.mk _ zU ?_))|((with_reducible refine (?_:ObR _ _ _));(first|(refine ObR.mk _ zA ?_)|(refine ObR.map zX (fun x hx=>?_))|(refine ObR.mk _ rfl ?_)))|(exact ObEnd.eq rfl rfl))
set_option maxHeartbeats 4000000 in
theorem cc55 (L:List UInt8) (g:Nat):HC Tryd.prog G 55 [.oa 0 0 0 0] [bO g L.length,bD L g] (.tup []) [bO g L.length,bD L g]:=by
 refine ZR cop55 rfl ?_
 have h1:=Z3 L
 have e:∀ r1:OB,zY Tryd.prog [bO g L.length,r1] .neq 74 true (Operand.tmp 17) (Operand.tmp 18) (.oa 0 0 0 0) (.oa 0 0 0 0)=some (.v (.bool false)):=fun _=>by kernel_rfl
 unfold bO at e
 unfold bO bD
 repeat' ((conv=>whnf);first|(refine SeqP.go ?_)|((with_reducible refine (?_:ObE _ _));rw [e];refine ObE.of (by rfl) ?_)|((refine ObN.mk ?_ ?_);exact zN)|(refine ObT.ff ?_)|((with_reducible refine (?_:ObR _ _ _));(first|(refine ObR.mk _ zA ?_)|(refine ObR.map zX (fun x hx=>?_))|(refine ObR.mk _ rfl ?_)))|(exact ObEnd.eq rfl rfl))
set_option maxHeartbeats 4000000 in
theorem ws41a (s:ByteArray) (h0:0 < s.size) (h:s.size<=1000000):HC Tryd.prog G 41 [.oa 0 0 0 0,S s] [bO0] (.tup [I s.size,.v .nilIface]) [bO 0 s.data.toList.length,bD s.data.toList 0]:=by
 have c:=cc55a G
 have e:=aps0 (b:=bOn) h h0
 have h1:=Z3 s.data.toList
 refine ZR cop41 rfl ?_
 unfold bO0 bOn bD bO at *
 repeat' ((conv=>whnf);first|(refine SeqP.go ?_)|((with_reducible refine (?_:ObE _ _));refine ObE.of e ?_)|((refine ObD.mk ?_ ?_);exact zD)|((refine ObN.mk ?_ ?_);exact zN)|((with_reducible refine (?_:ObL _ _));(refine ObL.mk _ zL ?_))|((with_reducible refine (?_:ObU _ _));(refine ObU.mk _ zU ?_))|((with_reducible refine (?_:ObR _ _ _));(first|(refine ObR.mk _ zA ?_)|(refine ObR.map zX (fun x hx=>?_))|(refine ObR.mk _ rfl ?_)))|((refine ObH.f 55 ?_);(first|(with_reducible refine ObH.mk _ _ (c) ?_)|(refine ObH.mk _ _ (c) ?_)))|(exact ObEnd.eq rfl rfl))
set_option maxHeartbeats 4000000 in
theorem ws41 (L:List UInt8) (g:Nat) (s:ByteArray) (h:L.length+s.size<=1000000):HC Tryd.prog G 41 [.oa 0 0 0 0,S s] [bO g L.length,bD L g] (.tup [I s.size,.v .nilIface]) [bO (g+1) (L++s.data.toList).length,bD (L++s.data.toList) (g+1)]:=by
 have c:=cc55 G L g
 have e:=aps1 (b:=bO g L.length) (g:=g) h
 have h1:=Z3 L
 have h2:=Z3 (L++s.data.toList)
 refine ZR cop41 rfl ?_
 unfold bO bD at *
 repeat' ((conv=>whnf);first|(refine SeqP.go ?_)|((with_reducible refine (?_:ObE _ _));refine ObE.of e ?_)|((refine ObD.mk ?_ ?_);exact zD)|((refine ObN.mk ?_ ?_);exact zN)|((with_reducible refine (?_:ObL _ _));(refine ObL.mk _ zL ?_))|((with_reducible refine (?_:ObU _ _));(refine ObU.mk _ zU ?_))|((with_reducible refine (?_:ObR _ _ _));(first|(refine ObR.mk _ zA ?_)|(refine ObR.map zX (fun x hx=>?_))|(refine ObR.mk _ rfl ?_)))|((refine ObH.f 55 ?_);(first|(with_reducible refine ObH.mk _ _ (c) ?_)|(refine ObH.mk _ _ (c) ?_)))|(exact ObEnd.eq rfl rfl))
set_option maxHeartbeats 4000000 in
theorem wb43 (L:List UInt8) (g:Nat) (u:UInt8) (h:L.length<=1000000):HC Tryd.prog G 43 [.oa 0 0 0 0,.v (.int .u8 (u.toNat:Int))] [bO g L.length,bD L g] (.v .nilIface) [bO (g+1) (L++[u]).length,bD (L++[u]) (g+1)]:=by
 have c:=cc55 G L g
 have e:(L.map uA).take L.length++[.v (.int .u8 (u.toNat:Int))]=(L++[u]).map uA:=by rw [u_all];simp [uA]
 have e2:L.length+1=(L++[u]).length:=by simp
 have h1:=Z3 L
 have h2:=Z3 (L++[u])
 refine ZR cop43 rfl ?_
 unfold bO bD at *
 have h3:[AV.v (.int .u8 (u.toNat:Int))].all nrB=true:=by simp [nrB,AV.cells]
 repeat' ((conv=>whnf);first|(refine SeqP.go ?_)|((refine ObD.mk ?_ ?_);exact zD)|((refine ObN.mk ?_ ?_);exact zN)|((with_reducible refine (?_:ObL _ _));(refine ObL.mk _ (by first|exact e2|assumption|exact (List.length_map _).trans (by assumption)|exact List.length_map _|rfl) ?_))|((with_reducible refine (?_:ObU _ _));(refine ObU.mk _ (by first|exact e|assumption|((conv=>lhs;simp only [List.set_cons_zero,List.set_cons_succ,List.take_succ_cons,List.take_zero,List.drop_succ_cons,List.drop_zero,List.nil_append,List.cons_append,List.append_nil,List.take_nil,List.drop_nil]);try rfl)|rfl) ?_))|((with_reducible refine (?_:ObR _ _ _));(first|(refine ObR.mk _ zA ?_)|(refine ObR.map zX (fun x hx=>?_))|(refine ObR.mk _ rfl ?_)))|((refine ObH.f 55 ?_);(first|(with_reducible refine ObH.mk _ _ (c) ?_)|(refine ObH.mk _ _ (c) ?_))))
 conv=>whnf
 refine ObEnd.vw [(0,0,0),(g+1,1,g+1)] rfl ?_ (by simp) ?_
 all_goals repeat' ((conv=>whnf);first|((refine ObN.mk ?_ ?_);exact zN)|((with_reducible refine ObO.l ?_);(refine ObN.mk ?_ ?_);(exact zq20))|((with_reducible refine ObRow.same ?_ ?_ ?_);exact zE;(focus (first|rfl|assumption|(simp;done))))|exact True.intro|((with_reducible refine ObRow.lit ?_ ?_);(focus (simp [rnB,rnC,rnL,AV.cells,rho];done))))
theorem b8 (L:List UInt8):xv (L.map uA)=some L:=by
 induction L with
 | nil=>rfl
 | cons a L ih =>
  have h:(0:Int)<=(a.toNat:Int)/\(a.toNat:Int) < 256:=by
   have:=a.toNat_lt;omega
  simp only [List.map_cons,uA,xv]
  rw [if_pos h]
  rw [ih]
  simp
theorem ust1 {b:OB} {L:List UInt8} {g:Nat} (h0:0 < L.length) (h:L.length<=1000000):ustA 5 [b,bD L g] (.oa 1 g 0 0) (I L.length)=some (S (Z6 L),[b,⟨ZM,0,[],g+1,0⟩]):=by
 simp only [ustA,live1]
 have e:((L.length:Nat):Int).toNat=L.length:=by omega
 rw [if_pos ⟨rfl,rfl,rfl,by omega,by simp [bD],by omega⟩]
 have:xv ((bD L g).es.take ((L.length:Nat):Int).toNat)=some L:=by
  rw [e];simp only [bD];rw [u_all];exact b8 L
 rw [this]
 rfl
theorem usd1 {b:OB} {L:List UInt8} {g:Nat} (h0:0 < L.length):usdA [b,bD L g] (.ol 1 g L.length)=some (.oa 1 g 0 0):=by
 simp only [usdA,live1]
 rw [if_pos h0]
set_option maxHeartbeats 4000000 in
theorem st45 (L:List UInt8) (g:Nat) (h0:0 < L.length) (h:L.length<=1000000):HC Tryd.prog G 45 [.oa 0 0 0 0] [bO g L.length,bD L g] (S (Z6 L)) [bO g L.length,⟨ZM,0,[],g+1,0⟩]:=by
 have e1:=ust1 (b:=bO g L.length) (g:=g) h0 h
 have e2:=usd1 (b:=bO g L.length) (g:=g) h0
 have h1:=Z3 L
 refine ZR cop45 rfl ?_
 unfold bO bD at *
 repeat' ((conv=>whnf);first|(with_reducible first|refine SeqP.go ?_|refine ObAnd.mk ?_ ?_|refine ObDx.each ?_)|((with_reducible refine (?_:ObE _ _));refine ObE.of e1 ?_)|((with_reducible refine (?_:ObE _ _));refine ObE.of (congrArg (Option.map fun x=>(x,_)) e2) ?_)|((refine ObD.mk ?_ ?_);exact zD)|((refine ObN.mk ?_ ?_);exact zN)|((with_reducible refine (?_:ObR _ _ _));(first|(refine ObR.mk _ zA ?_)|(refine ObR.map zX (fun x hx=>?_))|(refine ObR.mk _ rfl ?_)))|(exact ObEnd.eq rfl rfl))
end
end Go.Proofs.YtfocijljkkfonaaDoor.Sim
