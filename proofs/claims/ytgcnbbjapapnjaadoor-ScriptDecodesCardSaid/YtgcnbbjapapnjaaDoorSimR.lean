/- Rules for function values, texts and comparisons of structs. -/
import Derived.Test.YtgcnbbjapapnjaaDoorSimQ
namespace Go.Proofs.YtgcnbbjapapnjaaDoor.Sim
open Go.RowKit
set_option linter.unusedVariables false
set_option linter.unusedSimpArgs false
section
variable {P : Program} {G : Nat → AV} {Q : EX → St → Prop} {k : St → Prop} {st st' : St}
theorem kvs (f : FuncId) (cs : List AV) (r : AV) (H1 : Hp) {d : Option Nat} {x : AX} {xs : List AX} {os : List AI} (h0 : fnA (x.ev G st.s) = some (f, cs)) (hb : hasBody P f = true) (h1 : HC P G f (xs.map (AX.ev G st.s) ++ cs) st.H r H1) (h2 : AWs P G os k (st.put d r H1)) : AWs P G (⟨d, .callv x xs, none⟩ :: os) k st :=
  ⟨f, _, r, H1, cvA_of h0, hb, h1, h2⟩
theorem kvd (f : FuncId) (cs : List AV) (r : AV) (H1 : Hp) {d : Option Nat} {x : AX} {xs : List AX} {os : List AI} {base : Nat} (hc : chkB G base ⟨d, .callv x xs, none⟩ st = true) (h0 : fnA (x.ev G st.s) = some (f, cs)) (hb : hasBody P f = true) (h1 : HC P G f (xs.map (AX.ev G st.s) ++ cs) st.H r H1) (h2 : AWd P G base os k (st.put d r H1)) : AWd P G base (⟨d, .callv x xs, none⟩ :: os) k st :=
  ⟨chkB_ok hc, f, _, r, H1, cvA_of h0, hb, h1, h2⟩
theorem draw_mono {base : Nat} {R : List AI} {k k' : St → Prop} (h : ∀ s, k s → k' s) : ∀ {st : St}, AWd P G base R k st → AWd P G base R k' st := by
  induction R with
  | nil => intro st hh; exact h _ hh
  | cons o os ih =>
    intro st hh
    obtain ⟨s1, h1, h2⟩ := AWi_iff.1 hh.2
    exact ⟨hh.1, AWi_iff.2 ⟨s1, h1, ih h2⟩⟩
theorem draw_to {R : List AI} {st' : St} (h1 : AWd P G st.H.length R (IsSt st') st) (h : Q .n st') : AWd P G st.H.length R (Q .n) st :=
  draw_mono (fun s hs => by have e : s = st' := hs; rw [e]; exact h) h1
theorem w_drawx1 {R1 : List AI} (st' : St) (h1 : AWd P G st.H.length R1 (IsSt st') st) (h : Q .n st') : W P G (.drawx [R1]) Q st := fun R hR => by simp at hR; subst hR <;> exact draw_to (by assumption) h
theorem w_drawy1 {R1 : List AI} (h1 : AWd P G st.H.length R1 (Q .n) st) : W P G (.drawx [R1]) Q st := fun R hR => by simp at hR; subst hR <;> assumption
theorem w_drawx2 {R1 R2 : List AI} (st' : St) (h1 : AWd P G st.H.length R1 (IsSt st') st) (h2 : AWd P G st.H.length R2 (IsSt st') st) (h : Q .n st') : W P G (.drawx [R1, R2]) Q st := fun R hR => by simp at hR; rcases hR with rfl | rfl <;> exact draw_to (by assumption) h
theorem w_drawy2 {R1 R2 : List AI} (h1 : AWd P G st.H.length R1 (Q .n) st) (h2 : AWd P G st.H.length R2 (Q .n) st) : W P G (.drawx [R1, R2]) Q st := fun R hR => by simp at hR; rcases hR with rfl | rfl <;> assumption
theorem w_drawx3 {R1 R2 R3 : List AI} (st' : St) (h1 : AWd P G st.H.length R1 (IsSt st') st) (h2 : AWd P G st.H.length R2 (IsSt st') st) (h3 : AWd P G st.H.length R3 (IsSt st') st) (h : Q .n st') : W P G (.drawx [R1, R2, R3]) Q st := fun R hR => by simp at hR; rcases hR with rfl | rfl | rfl <;> exact draw_to (by assumption) h
theorem w_drawy3 {R1 R2 R3 : List AI} (h1 : AWd P G st.H.length R1 (Q .n) st) (h2 : AWd P G st.H.length R2 (Q .n) st) (h3 : AWd P G st.H.length R3 (Q .n) st) : W P G (.drawx [R1, R2, R3]) Q st := fun R hR => by simp at hR; rcases hR with rfl | rfl | rfl <;> assumption
theorem w_drawx4 {R1 R2 R3 R4 : List AI} (st' : St) (h1 : AWd P G st.H.length R1 (IsSt st') st) (h2 : AWd P G st.H.length R2 (IsSt st') st) (h3 : AWd P G st.H.length R3 (IsSt st') st) (h4 : AWd P G st.H.length R4 (IsSt st') st) (h : Q .n st') : W P G (.drawx [R1, R2, R3, R4]) Q st := fun R hR => by simp at hR; rcases hR with rfl | rfl | rfl | rfl <;> exact draw_to (by assumption) h
theorem w_drawy4 {R1 R2 R3 R4 : List AI} (h1 : AWd P G st.H.length R1 (Q .n) st) (h2 : AWd P G st.H.length R2 (Q .n) st) (h3 : AWd P G st.H.length R3 (Q .n) st) (h4 : AWd P G st.H.length R4 (Q .n) st) : W P G (.drawx [R1, R2, R3, R4]) Q st := fun R hR => by simp at hR; rcases hR with rfl | rfl | rfl | rfl <;> assumption
theorem w_drawx5 {R1 R2 R3 R4 R5 : List AI} (st' : St) (h1 : AWd P G st.H.length R1 (IsSt st') st) (h2 : AWd P G st.H.length R2 (IsSt st') st) (h3 : AWd P G st.H.length R3 (IsSt st') st) (h4 : AWd P G st.H.length R4 (IsSt st') st) (h5 : AWd P G st.H.length R5 (IsSt st') st) (h : Q .n st') : W P G (.drawx [R1, R2, R3, R4, R5]) Q st := fun R hR => by simp at hR; rcases hR with rfl | rfl | rfl | rfl | rfl <;> exact draw_to (by assumption) h
theorem w_drawy5 {R1 R2 R3 R4 R5 : List AI} (h1 : AWd P G st.H.length R1 (Q .n) st) (h2 : AWd P G st.H.length R2 (Q .n) st) (h3 : AWd P G st.H.length R3 (Q .n) st) (h4 : AWd P G st.H.length R4 (Q .n) st) (h5 : AWd P G st.H.length R5 (Q .n) st) : W P G (.drawx [R1, R2, R3, R4, R5]) Q st := fun R hR => by simp at hR; rcases hR with rfl | rfl | rfl | rfl | rfl <;> assumption
theorem w_drawx6 {R1 R2 R3 R4 R5 R6 : List AI} (st' : St) (h1 : AWd P G st.H.length R1 (IsSt st') st) (h2 : AWd P G st.H.length R2 (IsSt st') st) (h3 : AWd P G st.H.length R3 (IsSt st') st) (h4 : AWd P G st.H.length R4 (IsSt st') st) (h5 : AWd P G st.H.length R5 (IsSt st') st) (h6 : AWd P G st.H.length R6 (IsSt st') st) (h : Q .n st') : W P G (.drawx [R1, R2, R3, R4, R5, R6]) Q st := fun R hR => by simp at hR; rcases hR with rfl | rfl | rfl | rfl | rfl | rfl <;> exact draw_to (by assumption) h
theorem w_drawy6 {R1 R2 R3 R4 R5 R6 : List AI} (h1 : AWd P G st.H.length R1 (Q .n) st) (h2 : AWd P G st.H.length R2 (Q .n) st) (h3 : AWd P G st.H.length R3 (Q .n) st) (h4 : AWd P G st.H.length R4 (Q .n) st) (h5 : AWd P G st.H.length R5 (Q .n) st) (h6 : AWd P G st.H.length R6 (Q .n) st) : W P G (.drawx [R1, R2, R3, R4, R5, R6]) Q st := fun R hR => by simp at hR; rcases hR with rfl | rfl | rfl | rfl | rfl | rfl <;> assumption
theorem w_drawk1 {R1 : List AI} (I : St → Prop) (h1 : AWd P G st.H.length R1 I st) (h : ∀ s, I s → Q .n s) : W P G (.drawx [R1]) Q st := fun R hR => by simp at hR; subst hR <;> exact draw_mono h (by assumption)
theorem w_drawk2 {R1 R2 : List AI} (I : St → Prop) (h1 : AWd P G st.H.length R1 I st) (h2 : AWd P G st.H.length R2 I st) (h : ∀ s, I s → Q .n s) : W P G (.drawx [R1, R2]) Q st := fun R hR => by simp at hR; rcases hR with rfl | rfl <;> exact draw_mono h (by assumption)
theorem w_drawk3 {R1 R2 R3 : List AI} (I : St → Prop) (h1 : AWd P G st.H.length R1 I st) (h2 : AWd P G st.H.length R2 I st) (h3 : AWd P G st.H.length R3 I st) (h : ∀ s, I s → Q .n s) : W P G (.drawx [R1, R2, R3]) Q st := fun R hR => by simp at hR; rcases hR with rfl | rfl | rfl <;> exact draw_mono h (by assumption)
theorem w_drawk4 {R1 R2 R3 R4 : List AI} (I : St → Prop) (h1 : AWd P G st.H.length R1 I st) (h2 : AWd P G st.H.length R2 I st) (h3 : AWd P G st.H.length R3 I st) (h4 : AWd P G st.H.length R4 I st) (h : ∀ s, I s → Q .n s) : W P G (.drawx [R1, R2, R3, R4]) Q st := fun R hR => by simp at hR; rcases hR with rfl | rfl | rfl | rfl <;> exact draw_mono h (by assumption)
theorem isSt {s : St} : IsSt s s := rfl
theorem isSt_of {s' : St} {e : List AV} {H : Hp} (h1 : e = s'.s) (h2 : H = s'.H) : IsSt s' ⟨e, H⟩ := by subst h1; subst h2; rfl
theorem pureRun_bind {α β : Type} (s : Sem α) (f : α → Sem β) : pureRun P (s >>= f) = (pureRun P s).bind fun a => pureRun P (f a) := by
  show pureRun P (s.bind f) = _
  induction s with
  | pure b => rfl
  | program k ih => exact ih P
  | mark m k ih => exact ih
  | _ => rfl
theorem pureRun_pure {α : Type} (a : α) : pureRun P (pure a : Sem α) = some a := rfl
theorem pureRun_und {t : TypeId} {d : TypeDesc} (h : P.underlying t = some d) : pureRun P (underlying t) = some d := by
  unfold underlying
  rw [pureRun_bind]
  show ((some P).bind fun a => pureRun P (match a.underlying t with | some d => pure d | none => stuck "no such type")) = _
  simp only [Option.bind_some, h]
  rfl
theorem eqC_int {k : IntKind} {a b : Int} : eqC .i (.v (.int k a)) (.v (.int k b)) = some (decide (a = b)) := by simp [eqC]
theorem eqC_str {a b : ByteArray} : eqC .s (.v (.string a)) (.v (.string b)) = some (decide (a = b)) := rfl
theorem eqC_bool {a b : Bool} : eqC .b (.v (.bool a)) (.v (.bool b)) = some (a == b) := rfl
theorem eqCs_nil : eqCs [] [] [] = some true := rfl
theorem eqCs_cons {c : Kd} {ks : List Kd} {a b : AV} {as bs : List AV} {x : Bool} (h : eqC c a b = some x) : eqCs (c :: ks) (a :: as) (b :: bs) = (eqCs ks as bs).map (x && ·) := by
  simp only [eqCs, h]
  cases eqCs ks as bs <;> rfl
theorem eqCs_int {ks : List Kd} {k : IntKind} {a b : Int} {as bs : List AV} : eqCs (.i :: ks) (.v (.int k a) :: as) (.v (.int k b) :: bs) = (eqCs ks as bs).map (decide (a = b) && ·) := eqCs_cons eqC_int
theorem eqCs_str {ks : List Kd} {a b : ByteArray} {as bs : List AV} : eqCs (.s :: ks) (.v (.string a) :: as) (.v (.string b) :: bs) = (eqCs ks as bs).map (decide (a = b) && ·) := eqCs_cons eqC_str
theorem eqCs_bool {ks : List Kd} {a b : Bool} {as bs : List AV} : eqCs (.b :: ks) (.v (.bool a) :: as) (.v (.bool b) :: bs) = (eqCs ks as bs).map ((a == b) && ·) := eqCs_cons eqC_bool
theorem eqsA_agg {ng : Bool} {ks : List Kd} {as bs : List AV} {r : Bool} (h : eqCs ks as bs = some r) : eqsA ng ks (.agg as) (.agg bs) = some (.v (.bool (if ng = true then !r else r))) := by
  simp only [eqsA, h]
theorem eqsA_t {ks : List Kd} {as bs : List AV} : eqsA false ks (.agg as) (.agg bs) = (eqCs ks as bs).map fun r => .v (.bool r) := by
  simp only [eqsA]; cases eqCs ks as bs <;> rfl
theorem eqsA_f {ks : List Kd} {as bs : List AV} : eqsA true ks (.agg as) (.agg bs) = (eqCs ks as bs).map fun r => .v (.bool (!r)) := by
  simp only [eqsA]; cases eqCs ks as bs <;> rfl
variable {t : TypeId} {xo yo : Operand} {a b : ByteArray}
theorem bV_seq : binV P .eql t xo yo (.string a) (.string b) = some (.bool (decide (a = b))) := by
  show some (Value.bool (a.toList == b.toList)) = _
  rw [dec_bytes]
theorem bV_sne : binV P .neq t xo yo (.string a) (.string b) = some (.bool (decide (a ≠ b))) := by
  show some (Value.bool (!(a.toList == b.toList))) = _
  rw [dec_bytes]
  simp
theorem bV_slt : binV P .lss t xo yo (.string a) (.string b) = some (.bool (Op.bytesLess a.toList b.toList)) := rfl
theorem bV_sgt : binV P .gtr t xo yo (.string a) (.string b) = some (.bool (!(Op.bytesLess a.toList b.toList || decide (a = b)))) := by
  show some (Value.bool (!(Op.bytesLess a.toList b.toList || a.toList == b.toList))) = _
  rw [dec_bytes]
theorem bV_sle : binV P .leq t xo yo (.string a) (.string b) = some (.bool (Op.bytesLess a.toList b.toList || decide (a = b))) := by
  show some (Value.bool (Op.bytesLess a.toList b.toList || a.toList == b.toList)) = _
  rw [dec_bytes]
theorem bV_sge : binV P .geq t xo yo (.string a) (.string b) = some (.bool (!Op.bytesLess a.toList b.toList)) := rfl
theorem bV_sadd (h : a.size + b.size ≤ 9223372036854775807) : binV P .add t xo yo (.string a) (.string b) = some (.string (a ++ b)) := by
  show pureRun P (Op.stringOp .add a b) = _
  have : ¬ (((a.size + b.size : Nat) : Int) > IntKind.i64.max) := by
    have : IntKind.i64.max = 9223372036854775807 := by decide
    omega
  simp only [Op.stringOp, this, if_false]
  rfl
theorem bV_band {x y : Bool} : (do eqGuard .eql t xo yo (.bool x) (.bool y); pure () : Sem Unit) = pure () := rfl
theorem bV_bool (hu : P.underlying t = some .bool) {x y : Bool} : binV P .eql t xo yo (.bool x) (.bool y) = some (.bool (x == y)) := by
  show pureRun P (do pure (.bool (← Op.equal t (.bool x) (.bool y))) : Sem Value) = _
  rw [pureRun_bind, show Op.equal t (.bool x) (.bool y) = Op.equalIn (9999 + 1) t (.bool x) (.bool y) from rfl, Op.equalIn, pureRun_bind, pureRun_und hu]
  rfl
theorem bV_bne (hu : P.underlying t = some .bool) {x y : Bool} : binV P .neq t xo yo (.bool x) (.bool y) = some (.bool (!(x == y))) := by
  show pureRun P (do pure (.bool (!(← Op.equal t (.bool x) (.bool y)))) : Sem Value) = _
  rw [pureRun_bind, show Op.equal t (.bool x) (.bool y) = Op.equalIn (9999 + 1) t (.bool x) (.bool y) from rfl, Op.equalIn, pureRun_bind, pureRun_und hu]
  rfl
theorem iV_str (hu : P.underlying t = some .string) {k : IntKind} {i : Int} (h0 : 0 ≤ i) (h1 : i.toNat < a.size) : pureRun P (Instr.index t (.string a) (.int k i)) = some (.int .u8 (a[i.toNat]'h1).toNat) := by
  unfold Instr.index
  rw [pureRun_bind]
  show ((some (k, i)).bind _) = _
  simp only [Option.bind_some, pureRun_bind, pureRun_und hu]
  simp only [if_pos h0]
  rw [getElem?_pos a i.toNat h1]
  rfl
theorem sV_str (hu : P.underlying t = some .string) {lo hi : Option Int} {k1 k2 : IntKind} (h0 : 0 ≤ lo.getD 0) (h1 : lo.getD 0 ≤ hi.getD a.size) (h2 : hi.getD a.size ≤ a.size) : pureRun P (Instr.sliceAt t (.string a) (lo.map (.int k1)) (hi.map (.int k2)) none) = some (.string (a.extract (lo.getD 0).toNat (hi.getD a.size).toNat)) := by
  unfold Instr.sliceAt
  rw [pureRun_bind, pureRun_und hu]
  simp only [Option.bind_some]
  unfold Instr.slice
  rw [pureRun_bind, pureRun_und hu]
  simp only [Option.bind_some]
  have bnd : ∀ (k : IntKind) (i : Int) (y : Nat) (c : BoundsCode), 0 ≤ i → i ≤ y → pureRun P (Instr.sliceBound (.int k i) y c) = some i.toNat := fun k i y c g1 g2 => by
    unfold Instr.sliceBound
    rw [pureRun_bind]
    show ((some (k, i)).bind _) = _
    simp only [Option.bind_some]
    rw [if_pos ⟨g1, g2⟩]
    rfl
  cases lo <;> cases hi <;> simp only [Option.map_none, Option.map_some, Option.getD_none, Option.getD_some, Option.isSome_none, Bool.false_eq_true, if_false] at *
  · rfl
  · rename_i h
    simp only [Instr.sliceBounds, pureRun_bind, Option.bind_some, pureRun_pure, bnd _ _ _ _ h1 h2, Option.isSome_none, Bool.false_eq_true, if_false]
    rfl
  · rename_i l
    simp only [Instr.sliceBounds, pureRun_bind, Option.bind_some, pureRun_pure, bnd _ _ _ _ h0 h1, Option.isSome_none, Bool.false_eq_true, if_false, Int.toNat_natCast]
  · rename_i l h
    have e : ((h.toNat : Nat) : Int) = h := by omega
    simp only [Instr.sliceBounds, pureRun_bind, Option.bind_some, pureRun_pure, bnd _ _ _ _ (Int.le_trans h0 h1) h2, bnd _ _ h.toNat _ h0 (by rw [e]; exact h1), Option.isSome_none, Bool.false_eq_true, if_false]
theorem sV_lo (hu : P.underlying t = some .string) {l : Int} {k1 : IntKind} (h0 : 0 ≤ l) (h1 : l ≤ a.size) : pureRun P (Instr.sliceAt t (.string a) (some (.int k1 l)) none none) = some (.string (a.extract l.toNat a.size)) := by
  simpa using sV_str (P := P) (a := a) hu (lo := some l) (hi := none) (k1 := k1) (k2 := .i64) h0 h1 (by simp)
theorem sV_hi (hu : P.underlying t = some .string) {h : Int} {k2 : IntKind} (h0 : 0 ≤ h) (h1 : h ≤ a.size) : pureRun P (Instr.sliceAt t (.string a) none (some (.int k2 h)) none) = some (.string (a.extract 0 h.toNat)) := by
  simpa using sV_str (P := P) (a := a) hu (lo := none) (hi := some h) (k1 := .i64) (k2 := k2) (by simp) h0 h1
theorem sV_lh (hu : P.underlying t = some .string) {l h : Int} {k1 k2 : IntKind} (h0 : 0 ≤ l) (h1 : l ≤ h) (h2 : h ≤ a.size) : pureRun P (Instr.sliceAt t (.string a) (some (.int k1 l)) (some (.int k2 h)) none) = some (.string (a.extract l.toNat h.toNat)) := by
  simpa using sV_str (P := P) (a := a) hu (lo := some l) (hi := some h) (k1 := k1) (k2 := k2) h0 h1 h2
theorem bi_min {ats : Array TypeId} {ty : TypeId} {cs : Array Bool} {x y : Int} : pureRun P (builtin .min ats ty cs #[.int .i64 x, .int .i64 y]) = some (.value (.int .i64 (if y < x then y else x))) := rfl
theorem bi_max {ats : Array TypeId} {ty : TypeId} {cs : Array Bool} {x y : Int} : pureRun P (builtin .max ats ty cs #[.int .i64 x, .int .i64 y]) = some (.value (.int .i64 (if x < y then y else x))) := rfl
theorem cV_int {s d : TypeId} {e : TypeDesc} {k k' : IntKind} {n : Int} (hs : P.underlying s = some e) (hd : P.underlying d = some (.int k)) : pureRun P (convert s d (.int k' n)) = some (.int k (k.wrap n)) := by
  unfold convert
  rw [pureRun_bind, pureRun_und hs]
  simp only [Option.bind_some, pureRun_bind, pureRun_und hd]
  rfl
theorem w_loop_n {c : AC} {Q : EX → St → Prop} {st : St} (I : Nat → St → Prop) (n : Nat) (h0 : I 0 st) (round : ∀ i st, i < n → I i st → W P G c (thenQ (I (i + 1)) Q) st) (last : ∀ st, I n st → W P G c (thenQ (fun _ => False) Q) st) : W P G (.loop c) Q st := by
  refine w_loop (fun m st => ∃ i, i + m = n ∧ I i st) n ⟨0, by omega, h0⟩ ?_
  rintro m st ⟨i, hi, hI⟩
  by_cases hn : i < n
  · refine W_mono c (fun e st' he => ?_) (round i st hn hI)
    cases e with
    | n => exact ⟨m - 1, by omega, i + 1, by omega, he⟩
    | x id => exact he
    | r => exact he
  · have : i = n := by omega
    subst this
    refine W_mono c (fun e st' he => ?_) (last st hI)
    cases e with
    | n => exact he.elim
    | x id => exact he
    | r => exact he
end
end Go.Proofs.YtgcnbbjapapnjaaDoor.Sim
