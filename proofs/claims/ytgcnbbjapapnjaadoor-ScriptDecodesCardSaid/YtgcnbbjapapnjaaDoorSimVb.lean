/- Operations by evaluation, one by one. -/
import Derived.Test.YtgcnbbjapapnjaaDoorSimVa
namespace Go.Proofs.YtgcnbbjapapnjaaDoor.Sim
open Go.RowKit
set_option linter.unusedVariables false
set_option linter.unusedSimpArgs false
abbrev KK := AV → Hp → Prop
/-- A place in a text. -/
inductive ObQ (s : ByteArray) (ix : Int) (k : Int → Prop) : Prop
  | mk (m : Nat) (hx : ix = m) (h : m < s.size) (hk : k ((s[m]'h).toNat : Int)) : ObQ s ix k
/-- A part of a text. -/
inductive ObG (s : ByteArray) (lo hi : Option Int) (k : ByteArray → Prop) : Prop
  | mk (i j : Nat) (h1 : lo.getD 0 = i) (h2 : hi.getD s.size = j) (h3 : i ≤ j) (h4 : j ≤ s.size) (s' : ByteArray) (hs : s.extract i j = s') (hk : k s') : ObG s lo hi k
/-- Bounds. -/
inductive ObJ (n : Nat) (lo hi : Option Int) (k : Nat → Nat → Prop) : Prop
  | mk (i j : Nat) (h1 : lo.getD 0 = i) (h2 : hi.getD n = j) (h3 : i ≤ j) (h4 : j ≤ n) (hk : k i j) : ObJ n lo hi k
/-- Either. -/
inductive ObO (a b : Prop) : Prop
  | l (h : a) : ObO a b
  | r (h : b) : ObO a b
section
variable (P : Program)
def vI64 (op : BinOp) (a b : Int) (k : AV → Prop) (fb : Prop) : Prop :=
  match op with
  | .add => ObI (a + b) (fun z => k (.v (.int .i64 z)))
  | .sub => ObI (a - b) (fun z => k (.v (.int .i64 z)))
  | .mul => ObI (a * b) (fun z => k (.v (.int .i64 z)))
  | .quo => ObN (b ≠ 0) (ObI (a.tdiv b) (fun z => k (.v (.int .i64 z))))
  | .rem => ObN (b ≠ 0) (ObZ (a.tmod b) (fun z => k (.v (.int .i64 z))))
  | .eql => ObB (a = b) (k (.v (.bool true))) (k (.v (.bool false)))
  | .neq => ObB (a = b) (k (.v (.bool false))) (k (.v (.bool true)))
  | .lss => ObB (a < b) (k (.v (.bool true))) (k (.v (.bool false)))
  | .leq => ObB (a ≤ b) (k (.v (.bool true))) (k (.v (.bool false)))
  | .gtr => ObB (b < a) (k (.v (.bool true))) (k (.v (.bool false)))
  | .geq => ObB (b ≤ a) (k (.v (.bool true))) (k (.v (.bool false)))
  | _ => fb
def vIk (op : BinOp) (kd : IntKind) (a b : Int) (k : AV → Prop) (fb : Prop) : Prop :=
  match op with
  | .add => ObZ (kd.wrap (a + b)) (fun z => k (.v (.int kd z)))
  | .sub => ObZ (kd.wrap (a - b)) (fun z => k (.v (.int kd z)))
  | .mul => ObZ (kd.wrap (a * b)) (fun z => k (.v (.int kd z)))
  | .eql => ObB (a = b) (k (.v (.bool true))) (k (.v (.bool false)))
  | .neq => ObB (a = b) (k (.v (.bool false))) (k (.v (.bool true)))
  | .lss => ObB (a < b) (k (.v (.bool true))) (k (.v (.bool false)))
  | .leq => ObB (a ≤ b) (k (.v (.bool true))) (k (.v (.bool false)))
  | .gtr => ObB (b < a) (k (.v (.bool true))) (k (.v (.bool false)))
  | .geq => ObB (b ≤ a) (k (.v (.bool true))) (k (.v (.bool false)))
  | _ => fb
def vStr (op : BinOp) (a b : ByteArray) (k : AV → Prop) (fb : Prop) : Prop :=
  match op with
  | .add => ObN (a.size + b.size ≤ 9223372036854775807) (ObS (a ++ b) (fun s => k (.v (.string s))))
  | .eql => ObB (a = b) (k (.v (.bool true))) (k (.v (.bool false)))
  | .neq => ObB (a = b) (k (.v (.bool false))) (k (.v (.bool true)))
  | .lss => ObT (Op.bytesLess a.toList b.toList) (k (.v (.bool true))) (k (.v (.bool false)))
  | .leq => ObT (Op.bytesLess a.toList b.toList || decide (a = b)) (k (.v (.bool true))) (k (.v (.bool false)))
  | .gtr => ObT (Op.bytesLess a.toList b.toList || decide (a = b)) (k (.v (.bool false))) (k (.v (.bool true)))
  | .geq => ObT (Op.bytesLess a.toList b.toList) (k (.v (.bool false))) (k (.v (.bool true)))
  | _ => fb
def vBool (op : BinOp) (t : TypeId) (a b : Bool) (k : AV → Prop) (fb : Prop) : Prop :=
  match op with
  | .eql => ObN (P.underlying t = some .bool) (ObT a (ObT b (k (.v (.bool true))) (k (.v (.bool false)))) (ObT b (k (.v (.bool false))) (k (.v (.bool true)))))
  | .neq => ObN (P.underlying t = some .bool) (ObT a (ObT b (k (.v (.bool false))) (k (.v (.bool true)))) (ObT b (k (.v (.bool true))) (k (.v (.bool false)))))
  | _ => fb
def shO : BinOp → Bool
  | .shl | .shr => true
  | _ => false
def vVal (op : BinOp) (t : TypeId) (x y : Value) (k : AV → Prop) (fb : Prop) : Prop :=
  match x with
  | .int kx a => (match y with | .int ky b => (match shO op with | true => fb | false => (match kx with | .i64 => ObN (ky = .i64) (vI64 op a b k fb) | kx => ObN (ky = kx) (vIk op kx a b k fb))) | _ => fb)
  | .string a => (match y with | .string b => vStr op a b k fb | _ => fb)
  | .bool a => (match y with | .bool b => vBool P op t a b k fb | _ => fb)
  | _ => fb
theorem bK_lt {op : BinOp} {t : TypeId} {xo yo : Operand} {kd : IntKind} {a b : Int} {k : AV → Prop} {fb : Prop} (h : vIk op kd a b k fb) : (∃ v, binV P op t xo yo (.int kd a) (.int kd b) = some v ∧ ∃ r, ofVal v = some r ∧ k r) ∨ fb := by
  have dec : ∀ (p : Prop) [Decidable p], ObB p (k (.v (.bool true))) (k (.v (.bool false))) → ∃ r, ofVal (.bool (decide p)) = some r ∧ k r := fun p _ h => by
    obtain ⟨h1, h2⟩ := h
    by_cases hp : p
    · exact ⟨_, rfl, by simpa [hp] using h1 hp⟩
    · exact ⟨_, rfl, by simpa [hp] using h2 hp⟩
  cases op with
  | add => obtain ⟨z, rfl, hk⟩ := h; exact .inl ⟨.int kd (kd.wrap (a + b)), by cases kd <;> rfl, _, rfl, hk⟩
  | sub => obtain ⟨z, rfl, hk⟩ := h; exact .inl ⟨.int kd (kd.wrap (a - b)), by cases kd <;> rfl, _, rfl, hk⟩
  | mul => obtain ⟨z, rfl, hk⟩ := h; exact .inl ⟨.int kd (kd.wrap (a * b)), by cases kd <;> rfl, _, rfl, hk⟩
  | eql => exact .inl ⟨.bool (decide (a = b)), by have : (a == b) = decide (a = b) := by { by_cases h : a = b <;> simp [h] }; rw [← this]; cases kd <;> rfl, dec _ h⟩
  | neq =>
    obtain ⟨h1, h2⟩ := h
    refine .inl ⟨.bool (decide (a ≠ b)), by have : (a != b) = decide (a ≠ b) := by { by_cases h : a = b <;> simp [h] }; rw [← this]; cases kd <;> rfl, _, rfl, ?_⟩
    by_cases hp : a = b
    · simpa [hp] using h1 hp
    · simpa [hp] using h2 hp
  | lss => exact .inl ⟨.bool (decide (a < b)), by cases kd <;> rfl, dec _ h⟩
  | leq => exact .inl ⟨.bool (decide (a ≤ b)), by cases kd <;> rfl, dec _ h⟩
  | gtr => exact .inl ⟨.bool (decide (b < a)), by cases kd <;> rfl, dec _ h⟩
  | geq => exact .inl ⟨.bool (decide (b ≤ a)), by cases kd <;> rfl, dec _ h⟩
  | _ => exact .inr h
theorem vI64_ok {op : BinOp} {t : TypeId} {xo yo : Operand} {a b : Int} {k : AV → Prop} {fb : Prop} (h : vI64 op a b k fb) : (∃ v, binV P op t xo yo (.int .i64 a) (.int .i64 b) = some v ∧ ∃ r, ofVal v = some r ∧ k r) ∨ fb := by
  have w : ∀ z : Int, -9223372036854775808 ≤ z → z ≤ 9223372036854775807 → IntKind.i64.wrap z = z := fun z h1 h2 => wrapI h1 h2
  cases op with
  | add => rcases h with ⟨z, rfl, h1, h2, hk⟩ | hk
           · exact .inl ⟨_, bV_add, _, rfl, by rw [w _ h1 h2]; exact hk⟩
           · exact .inl ⟨_, bV_add, _, rfl, hk⟩
  | sub => rcases h with ⟨z, rfl, h1, h2, hk⟩ | hk
           · exact .inl ⟨_, bV_sub, _, rfl, by rw [w _ h1 h2]; exact hk⟩
           · exact .inl ⟨_, bV_sub, _, rfl, hk⟩
  | mul => rcases h with ⟨z, rfl, h1, h2, hk⟩ | hk
           · exact .inl ⟨_, bV_mul, _, rfl, by rw [w _ h1 h2]; exact hk⟩
           · exact .inl ⟨_, bV_mul, _, rfl, hk⟩
  | quo => rcases h with ⟨hb, ⟨z, rfl, h1, h2, hk⟩ | hk⟩
           · exact .inl ⟨_, bV_quo hb, _, rfl, by rw [w _ h1 h2]; exact hk⟩
           · exact .inl ⟨_, bV_quo hb, _, rfl, hk⟩
  | rem => obtain ⟨hb, z, rfl, hk⟩ := h; exact .inl ⟨_, bV_rem hb, _, rfl, hk⟩
  | eql => exact bK_lt P (kd := .i64) (op := .eql) h
  | neq => exact bK_lt P (kd := .i64) (op := .neq) h
  | lss => exact bK_lt P (kd := .i64) (op := .lss) h
  | leq => exact bK_lt P (kd := .i64) (op := .leq) h
  | gtr => exact bK_lt P (kd := .i64) (op := .gtr) h
  | geq => exact bK_lt P (kd := .i64) (op := .geq) h
  | _ => exact .inr h
theorem ObT.bool {b : Bool} {k : Bool → Prop} (h : ObT b (k true) (k false)) : k b := by
  obtain ⟨h1, h2⟩ := h
  cases b
  · exact h2 rfl
  · exact h1 rfl
theorem ObT.nbool {b : Bool} {k : Bool → Prop} (h : ObT b (k false) (k true)) : k (!b) := by
  obtain ⟨h1, h2⟩ := h
  cases b
  · exact h2 rfl
  · exact h1 rfl
theorem vStr_ok {op : BinOp} {t : TypeId} {xo yo : Operand} {a b : ByteArray} {k : AV → Prop} {fb : Prop} (h : vStr op a b k fb) : (∃ v, binV P op t xo yo (.string a) (.string b) = some v ∧ ∃ r, ofVal v = some r ∧ k r) ∨ fb := by
  cases op with
  | add => obtain ⟨hb, z, rfl, hk⟩ := h; exact .inl ⟨_, bV_sadd hb, _, rfl, hk⟩
  | eql =>
    obtain ⟨h1, h2⟩ := h
    refine .inl ⟨_, bV_seq, _, rfl, ?_⟩
    by_cases hp : a = b
    · simpa [hp] using h1 hp
    · simpa [hp] using h2 hp
  | neq =>
    obtain ⟨h1, h2⟩ := h
    refine .inl ⟨_, bV_sne, _, rfl, ?_⟩
    by_cases hp : a = b
    · simpa [hp] using h1 hp
    · simpa [hp] using h2 hp
  | lss => exact .inl ⟨_, bV_slt, _, rfl, ObT.bool (k := fun b => k (.v (.bool b))) h⟩
  | leq => exact .inl ⟨_, bV_sle, _, rfl, ObT.bool (k := fun b => k (.v (.bool b))) h⟩
  | gtr => exact .inl ⟨_, bV_sgt, _, rfl, ObT.nbool (k := fun b => k (.v (.bool b))) h⟩
  | geq => exact .inl ⟨_, bV_sge, _, rfl, ObT.nbool (k := fun b => k (.v (.bool b))) h⟩
  | _ => exact .inr h
theorem vBool_ok {op : BinOp} {t : TypeId} {xo yo : Operand} {a b : Bool} {k : AV → Prop} {fb : Prop} (h : vBool P op t a b k fb) : (∃ v, binV P op t xo yo (.bool a) (.bool b) = some v ∧ ∃ r, ofVal v = some r ∧ k r) ∨ fb := by
  cases op with
  | eql =>
    obtain ⟨hu, h⟩ := h
    refine .inl ⟨_, bV_bool hu, _, rfl, ?_⟩
    obtain ⟨h1, h2⟩ := h
    cases a
    · obtain ⟨h3, h4⟩ := h2 rfl
      cases b
      · exact h4 rfl
      · exact h3 rfl
    · obtain ⟨h3, h4⟩ := h1 rfl
      cases b
      · exact h4 rfl
      · exact h3 rfl
  | neq =>
    obtain ⟨hu, h⟩ := h
    refine .inl ⟨_, bV_bne hu, _, rfl, ?_⟩
    obtain ⟨h1, h2⟩ := h
    cases a
    · obtain ⟨h3, h4⟩ := h2 rfl
      cases b
      · exact h4 rfl
      · exact h3 rfl
    · obtain ⟨h3, h4⟩ := h1 rfl
      cases b
      · exact h4 rfl
      · exact h3 rfl
  | _ => exact .inr h
theorem vVal_ok {op : BinOp} {t : TypeId} {xo yo : Operand} {x y : Value} {k : AV → Prop} {fb : Prop} (h : vVal P op t x y k fb) : (∃ v, binV P op t xo yo x y = some v ∧ ∃ r, ofVal v = some r ∧ k r) ∨ fb := by
  cases x with
  | int kx a =>
    cases y with
    | int ky b =>
      simp only [vVal] at h
      split at h
      · exact .inr h
      · cases kx with
        | i64 => obtain ⟨rfl, h⟩ := h; exact vI64_ok P h
        | _ => obtain ⟨rfl, h⟩ := h; exact bK_lt P h
    | _ => exact .inr h
  | string a =>
    cases y with
    | string b => exact vStr_ok P h
    | _ => exact .inr h
  | bool a =>
    cases y with
    | bool b => exact vBool_ok P h
    | _ => exact .inr h
  | _ => exact .inr h
/-- Two places: whether one is nil. -/
def vPtr (H : Hp) (x y : AV) (t f fb : Prop) : Prop :=
  match x with
  | .v x' => (match x' with
    | .pointer p => (match p with
      | none => (match y with
        | .v y' => (match y' with | .pointer q => (match q with | none => t | some _ => fb) | _ => fb)
        | .ad .. => f
        | .oa i g _ _ => lK H i g (fun _ _ _ _ => f)
        | _ => fb)
      | some _ => fb)
    | _ => fb)
  | .ad .. => (match y with | .v y' => (match y' with | .pointer q => (match q with | none => f | some _ => fb) | _ => fb) | _ => fb)
  | .oa i g _ _ => (match y with | .v y' => (match y' with | .pointer q => (match q with | none => lK H i g (fun _ _ _ _ => f) | some _ => fb) | _ => fb) | _ => fb)
  | _ => fb
theorem vPtr_ok {H : Hp} {x y : AV} {t f fb : Prop} (h : vPtr H x y t f fb) : ((isNilPtr x && isNilPtr y) = true ∧ t) ∨ ((isNilPtr x && isNilPtr y) = false ∧ ((isPtr H x && isNilPtr y) || (isPtr H y && isNilPtr x)) = true ∧ f) ∨ fb := by
  unfold vPtr at h
  split at h
  · split at h
    · split at h
      · split at h
        · split at h
          · split at h
            · exact .inl ⟨rfl, h⟩
            · exact .inr (.inr h)
          · exact .inr (.inr h)
        · exact .inr (.inl ⟨rfl, rfl, h⟩)
        · obtain ⟨o, h1, _, h2, _⟩ := lK_ok h
          exact .inr (.inl ⟨rfl, by simp [isPtr, isNilPtr, h1], h2⟩)
        · exact .inr (.inr h)
      · exact .inr (.inr h)
    · exact .inr (.inr h)
  · split at h
    · split at h
      · split at h
        · exact .inr (.inl ⟨rfl, rfl, h⟩)
        · exact .inr (.inr h)
      · exact .inr (.inr h)
    · exact .inr (.inr h)
  · split at h
    · split at h
      · split at h
        · obtain ⟨o, h1, _, h2, _⟩ := lK_ok h
          exact .inr (.inl ⟨rfl, by simp [isPtr, isNilPtr, h1], h2⟩)
        · exact .inr (.inr h)
      · exact .inr (.inr h)
    · exact .inr (.inr h)
  · exact .inr (.inr h)
def vBin (H : Hp) (op : BinOp) (t : TypeId) (pt : Bool) (xo yo : Operand) (x y : AV) (k : AV → Prop) (fb : Prop) : Prop :=
  match pt with
  | true => (match op with
    | .eql => vPtr H x y (k (.v (.bool true))) (k (.v (.bool false))) fb
    | .neq => vPtr H x y (k (.v (.bool false))) (k (.v (.bool true))) fb
    | _ => fb)
  | false => (match x with
    | .v x' => (match y with | .v y' => vVal P op t x' y' k fb | _ => fb)
    | _ => fb)
theorem vBin_ok {H : Hp} {op : BinOp} {t : TypeId} {pt : Bool} {xo yo : Operand} {x y : AV} {k : AV → Prop} {fb : Prop} (h : vBin P H op t pt xo yo x y k fb) : (∃ r, binA P H op t pt xo yo x y = some r ∧ k r) ∨ fb := by
  cases pt with
  | true =>
    simp only [vBin] at h
    cases op with
    | eql =>
      rcases vPtr_ok h with ⟨h1, h2⟩ | ⟨h1, h2, h3⟩ | h
      · exact .inl ⟨_, by simp only [binA, if_true, h1], h2⟩
      · exact .inl ⟨_, by simp only [binA, if_true, h1, h2, Bool.false_eq_true, if_false], h3⟩
      · exact .inr h
    | neq =>
      rcases vPtr_ok h with ⟨h1, h2⟩ | ⟨h1, h2, h3⟩ | h
      · exact .inl ⟨_, by simp only [binA, if_true, h1], h2⟩
      · exact .inl ⟨_, by simp only [binA, if_true, h1, h2, Bool.false_eq_true, if_false], h3⟩
      · exact .inr h
    | _ => exact .inr h
  | false =>
    simp only [vBin] at h
    cases x with
    | v x' =>
      cases y with
      | v y' =>
        rcases vVal_ok P (xo := xo) (yo := yo) h with ⟨v, h1, r, h2, h3⟩ | h
        · exact .inl ⟨r, by simp only [binA, conc, h1, h2, Bool.false_eq_true, if_false], h3⟩
        · exact .inr h
      | _ => exact .inr h
    | _ => exact .inr h
/-- One value. -/
def vUn (op : UnOp) (x : AV) (k : AV → Prop) (fb : Prop) : Prop :=
  match op with
  | .not => (match x with | .v x' => (match x' with | .bool b => ObT b (k (.v (.bool false))) (k (.v (.bool true))) | _ => fb) | _ => fb)
  | .neg => (match x with | .v x' => (match x' with | .int kd a => (match kd with | .i64 => ObI (0 - a) (fun z => k (.v (.int .i64 z))) | _ => fb) | _ => fb) | _ => fb)
  | _ => fb
theorem vUn_ok {op : UnOp} {x : AV} {k : AV → Prop} {fb : Prop} (h : vUn op x k fb) : (∃ r, ap1 (fun v => pureRun P (Op.unary op v)) x = some r ∧ k r) ∨ fb := by
  unfold vUn at h
  split at h
  · split at h
    · split at h
      · rename_i b
        exact .inl ⟨.v (.bool (!b)), by simp only [ap1, conc, uV_not]; rfl, ObT.nbool (k := fun b => k (.v (.bool b))) h⟩
      · exact .inr h
    · exact .inr h
  · split at h
    · split at h
      · split at h
        · rename_i a _
          rcases h with ⟨z, rfl, h1, h2, hk⟩ | hk
          · exact .inl ⟨.v (.int .i64 (0 - a)), by simp only [ap1, conc, uV_neg, wrapI h1 h2]; rfl, hk⟩
          · exact .inl ⟨.v (.int .i64 (IntKind.i64.wrap (0 - a))), by simp only [ap1, conc, uV_neg]; rfl, hk⟩
        · exact .inr h
      · exact .inr h
    · exact .inr h
  · exact .inr h
end
end Go.Proofs.YtgcnbbjapapnjaaDoor.Sim
