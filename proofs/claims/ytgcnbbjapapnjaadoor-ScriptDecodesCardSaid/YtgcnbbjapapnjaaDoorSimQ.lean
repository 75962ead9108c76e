/- Rules to run code on plain values. -/
import Derived.Test.YtgcnbbjapapnjaaDoorSimM
namespace Go.Proofs.YtgcnbbjapapnjaaDoor.Sim
open Go.RowKit
set_option linter.unusedVariables false
set_option linter.unusedSimpArgs false
section
variable {P : Program} {G : Nat → AV} {Q : EX → St → Prop} {k : St → Prop} {st st' : St}
/-- One operation that is no call. -/
def stepO (P : Program) (G : Nat → AV) (o : AI) (st : St) : Option St :=
  match o.guard with
  | none => (match eff P (AX.ev G st.s) st.H o.op with | some (r, H') => some (st.put o.dst r H') | none => none)
  | some (t, want) =>
    match st.s.getD t undefA with
    | .v (.bool b) => if b = want then (match eff P (AX.ev G st.s) st.H o.op with | some (r, H') => some (st.put o.dst r H') | none => none) else some (st.put o.dst undefA st.H)
    | .tup [] => some (st.put o.dst undefA st.H)
    | _ => none
theorem AWop_of {ev : AX → AV} {H : Hp} {op : AOp} {k : AV → Hp → Prop} {r : AV} {H' : Hp} (h : eff P ev H op = some (r, H')) (hk : k r H') : AWop P G ev H op k := by
  cases op with
  | call f xs => cases h
  | callh f xs => cases h
  | callm f xs => cases h
  | callv x xs => cases h
  | calli nm x xs => cases h
  | _ => simp only [AWop]; rw [h]; exact hk
theorem AWi_of {o : AI} (h : stepO P G o st = some st') (hk : k st') : AWi P G o st k := by
  unfold stepO at h
  unfold AWi
  split at h
  · rename_i hg
    try rw [hg]
    split at h
    · rename_i r H' he; cases h; exact AWop_of he hk
    · cases h
  · rename_i t want hg
    try rw [hg]
    try simp only
    split at h
    · rename_i b hb
      try rw [hb]
      try simp only
      split at h
      · rename_i hbw
        try rw [if_pos hbw]
        split at h
        · rename_i r H' he; cases h; exact AWop_of he hk
        · cases h
      · rename_i hbw
        try rw [if_neg hbw]
        cases h; exact hk
    · rename_i hb
      try rw [hb]
      cases h; exact hk
    · cases h
theorem ws {o : AI} {os : List AI} (h : stepO P G o st = some st') (hk : AWs P G os k st') : AWs P G (o :: os) k st := AWi_of h hk
theorem wd {o : AI} {os : List AI} {base : Nat} (hc : chk G base o st) (h : stepO P G o st = some st') (hk : AWd P G base os k st') : AWd P G base (o :: os) k st := ⟨hc, AWi_of h hk⟩
theorem ws_call {d : Option Nat} {f : FuncId} {xs : List AX} {os : List AI} {as as' : List AV} {H1 : Hp} {r : AV} (h0 : xs.map (AX.ev G st.s) = as) (h1 : purA st.H as = some (as', H1)) (h2 : PC P G f as' r) (hk : AWs P G os k (st.put d r H1)) : AWs P G (⟨d, .call f xs, none⟩ :: os) k st := ⟨as', H1, r, by rw [h0]; exact h1, h2, hk⟩
theorem wd_call {d : Option Nat} {f : FuncId} {xs : List AX} {os : List AI} {base : Nat} {as as' : List AV} {H1 : Hp} {r : AV} (hc : chk G base ⟨d, .call f xs, none⟩ st) (h0 : xs.map (AX.ev G st.s) = as) (h1 : purA st.H as = some (as', H1)) (h2 : PC P G f as' r) (hk : AWd P G base os k (st.put d r H1)) : AWd P G base (⟨d, .call f xs, none⟩ :: os) k st := ⟨hc, as', H1, r, by rw [h0]; exact h1, h2, hk⟩
theorem ws_callh {d : Option Nat} {f : FuncId} {xs : List AX} {os : List AI} {as : List AV} {H1 : Hp} {r : AV} (h0 : xs.map (AX.ev G st.s) = as) (h2 : HC P G f as st.H r H1) (hk : AWs P G os k (st.put d r H1)) : AWs P G (⟨d, .callh f xs, none⟩ :: os) k st := ⟨r, H1, by rw [h0]; exact h2, hk⟩
theorem wd_callh {d : Option Nat} {f : FuncId} {xs : List AX} {os : List AI} {base : Nat} {as : List AV} {H1 : Hp} {r : AV} (hc : chk G base ⟨d, .callh f xs, none⟩ st) (h0 : xs.map (AX.ev G st.s) = as) (h2 : HC P G f as st.H r H1) (hk : AWd P G base os k (st.put d r H1)) : AWd P G base (⟨d, .callh f xs, none⟩ :: os) k st := ⟨hc, r, H1, by rw [h0]; exact h2, hk⟩
theorem ws_nil (h : k st) : AWs P G [] k st := h
theorem wd_nil {base : Nat} (h : k st) : AWd P G base [] k st := h
theorem w_reg {ops : List AI} (h : AWs P G ops (Q .n) st) : W P G (.region ops) Q st := h
theorem w_draw {ops : List AI} (h : AWd P G st.H.length ops (Q .n) st) : W P G (.draw ops) Q st := h
theorem w_seq {a b : AC} (h : W P G a (thenQ (W P G b Q) Q) st) : W P G (.seq a b) Q st := h
theorem w_block {id : Nat} {c : AC} (h : W P G c (blockQ id Q) st) : W P G (.block id c) Q st := h
theorem w_scope {c : AC} (h : W P G c Q st) : W P G (.scope c) Q st := h
theorem w_skip (h : Q .n st) : W P G .skip Q st := h
theorem w_exit {id : Nat} (h : Q (.x id) st) : W P G (.exit id) Q st := h
theorem w_ret (h : Q .r st) : W P G .ret Q st := h
theorem w_cond {c : AX} {t e : AC} {b : Bool} (hc : c.ev G st.s = .v (.bool b)) (ht : b = true → W P G t Q st) (he : b = false → W P G e Q st) : W P G (.cond c t e) Q st := by
  simp only [W, hc]
  cases b
  · simpa using he rfl
  · simpa using ht rfl
theorem w_cond_t {c : AX} {t e : AC} (hc : c.ev G st.s = .v (.bool true)) (ht : W P G t Q st) : W P G (.cond c t e) Q st := w_cond hc (fun _ => ht) (fun h => by cases h)
theorem w_cond_f {c : AX} {t e : AC} (hc : c.ev G st.s = .v (.bool false)) (he : W P G e Q st) : W P G (.cond c t e) Q st := w_cond hc (fun h => by cases h) (fun _ => he)
theorem q_then (h : k st) : thenQ k Q .n st := h
theorem q_then_x {id : Nat} (h : Q (.x id) st) : thenQ k Q (.x id) st := h
theorem q_then_r (h : Q .r st) : thenQ k Q .r st := h
theorem q_block_n {id : Nat} (h : Q .n st) : blockQ id Q .n st := h
theorem q_block_r {id : Nat} (h : Q .r st) : blockQ id Q .r st := h
theorem q_block_x {id : Nat} (h : Q .n st) : blockQ id Q (.x id) st := by
  show (if id = id then Q .n st else Q (.x id) st)
  rw [if_pos rfl]; exact h
theorem q_block_y {id id' : Nat} (hne : id' ≠ id) (h : Q (.x id') st) : blockQ id Q (.x id') st := by
  show (if id' = id then Q .n st else Q (.x id') st)
  rw [if_neg hne]; exact h
/-- The same, with what follows under a name. -/
theorem ks {o : AI} {os : List AI} (h : ∀ K : St → Prop, (∀ s, AWs P G os k s → K s) → (match stepO P G o st with | some s => K s | none => False)) : AWs P G (o :: os) k st := by
  have := h (AWs P G os k) (fun _ h => h)
  cases hs : stepO P G o st with
  | none => rw [hs] at this; exact this.elim
  | some s => rw [hs] at this; exact ws hs this
def chkB (G : Nat → AV) (base : Nat) (o : AI) (st : St) : Bool := o.op.cls == 0 || (decide (base ≤ st.H.length) && (o.op.cls == 3 || o.op.cls == 4 || (if o.op.cls == 5 then geB base ((o.op.xs.headD (.c .unk)).ev G st.s) else o.op.xs.all fun x => ltB base (x.ev G st.s))))
theorem chkB_ok {base : Nat} {o : AI} (h : chkB G base o st = true) : chk G base o st := by
  simp only [chkB, Bool.or_eq_true, beq_iff_eq, Bool.and_eq_true, decide_eq_true_eq] at h
  rcases h with h | ⟨h1, h2⟩
  · exact .inl h
  · refine .inr ⟨h1, fun hc => ?_, fun hc => ?_⟩
    · rcases h2 with (h2 | h2) | h2
      · omega
      · omega
      · rw [if_neg (by omega)] at h2; exact h2
    · rcases h2 with (h2 | h2) | h2
      · omega
      · omega
      · rw [if_pos hc] at h2; exact h2
theorem kd {o : AI} {os : List AI} {base : Nat} (h : ∀ K : St → Prop, (∀ s, AWd P G base os k s → K s) → (chkB G base o st = true ∧ match stepO P G o st with | some s => K s | none => False)) : AWd P G base (o :: os) k st := by
  obtain ⟨hc, this⟩ := h (AWd P G base os k) (fun _ h => h)
  cases hs : stepO P G o st with
  | none => rw [hs] at this; exact this.elim
  | some s => rw [hs] at this; exact wd (chkB_ok hc) hs this
theorem kc {c : AX} {t e : AC} (h : ∀ K1 K2 : Prop, (W P G t Q st → K1) → (W P G e Q st → K2) → (match c.ev G st.s with | .v (.bool b) => if b = true then K1 else K2 | _ => False)) : W P G (.cond c t e) Q st := by
  have := h _ _ (fun h => h) (fun h => h)
  simp only [W]
  exact this
theorem kms (f : FuncId) (r : AV) (Bs : Hp) {d : Option Nat} {xs : List AX} {os : List AI} (h1 : ∀ H2 : Hp, (Bs ≠ [] → H2.length = st.H.length) → HC P G f (xs.map (AX.ev G st.s)) H2 r (H2 ++ Bs)) (h2 : AWs P G os k (st.put d r (st.H ++ Bs))) : AWs P G (⟨d, .callm f xs, none⟩ :: os) k st := ⟨r, Bs, h1, h2⟩
theorem kmd (f : FuncId) (r : AV) (Bs : Hp) {d : Option Nat} {xs : List AX} {os : List AI} {base : Nat} (hc : chkB G base ⟨d, .callm f xs, none⟩ st = true) (h1 : ∀ H2 : Hp, (Bs ≠ [] → H2.length = st.H.length) → HC P G f (xs.map (AX.ev G st.s)) H2 r (H2 ++ Bs)) (h2 : AWd P G base os k (st.put d r (st.H ++ Bs))) : AWd P G base (⟨d, .callm f xs, none⟩ :: os) k st := ⟨chkB_ok hc, r, Bs, h1, h2⟩
theorem khs (f : FuncId) (r : AV) (H1 : Hp) {d : Option Nat} {xs : List AX} {os : List AI} (h1 : HC P G f (xs.map (AX.ev G st.s)) st.H r H1) (h2 : AWs P G os k (st.put d r H1)) : AWs P G (⟨d, .callh f xs, none⟩ :: os) k st := ws_callh rfl h1 h2
theorem khd (f : FuncId) (r : AV) (H1 : Hp) {d : Option Nat} {xs : List AX} {os : List AI} {base : Nat} (hc : chkB G base ⟨d, .callh f xs, none⟩ st = true) (h1 : HC P G f (xs.map (AX.ev G st.s)) st.H r H1) (h2 : AWd P G base os k (st.put d r H1)) : AWd P G base (⟨d, .callh f xs, none⟩ :: os) k st := wd_callh (chkB_ok hc) rfl h1 h2
theorem kps (f : FuncId) (r : AV) {d : Option Nat} {xs : List AX} {os : List AI} (h0 : (xs.map (AX.ev G st.s)).all AV.isP = true) (h1 : PC P G f (xs.map (AX.ev G st.s)) r) (h2 : AWs P G os k (st.put d r st.H)) : AWs P G (⟨d, .call f xs, none⟩ :: os) k st := ws_call rfl (purA_isP h0) h1 h2
theorem kpd (f : FuncId) (r : AV) {d : Option Nat} {xs : List AX} {os : List AI} {base : Nat} (hc : chkB G base ⟨d, .call f xs, none⟩ st = true) (h0 : (xs.map (AX.ev G st.s)).all AV.isP = true) (h1 : PC P G f (xs.map (AX.ev G st.s)) r) (h2 : AWd P G base os k (st.put d r st.H)) : AWd P G base (⟨d, .call f xs, none⟩ :: os) k st := wd_call (chkB_ok hc) rfl (purA_isP h0) h1 h2
/-- Behind a guard that is decided. -/
theorem kgs_t {d : Option Nat} {op : AOp} {t : Nat} {want : Bool} {os : List AI} (hb : st.s.getD t undefA = .v (.bool want)) (h : AWs P G (⟨d, op, none⟩ :: os) k st) : AWs P G (⟨d, op, some (t, want)⟩ :: os) k st := by
  simp only [AWs, AWi] at h ⊢
  simp only [hb, if_true]
  exact h
theorem kgs_f {d : Option Nat} {op : AOp} {t : Nat} {want : Bool} {os : List AI} (hb : st.s.getD t undefA = .v (.bool (!want))) (h : AWs P G os k (st.put d undefA st.H)) : AWs P G (⟨d, op, some (t, want)⟩ :: os) k st := by
  simp only [AWs, AWi]
  rw [hb]
  cases want <;> simpa using h
theorem kgd_t {d : Option Nat} {op : AOp} {t : Nat} {want : Bool} {os : List AI} {base : Nat} (hb : st.s.getD t undefA = .v (.bool want)) (h : AWd P G base (⟨d, op, none⟩ :: os) k st) : AWd P G base (⟨d, op, some (t, want)⟩ :: os) k st := by
  refine ⟨h.1, ?_⟩
  have h2 := h.2
  simp only [AWi] at h2 ⊢
  simp only [hb, if_true]
  exact h2
theorem kgd_f {d : Option Nat} {op : AOp} {t : Nat} {want : Bool} {os : List AI} {base : Nat} (hc : chkB G base ⟨d, op, none⟩ st = true) (hb : st.s.getD t undefA = .v (.bool (!want))) (h : AWd P G base os k (st.put d undefA st.H)) : AWd P G base (⟨d, op, some (t, want)⟩ :: os) k st := by
  refine ⟨chkB_ok hc, ?_⟩
  simp only [AWi]
  rw [hb]
  cases want <;> simpa using h
theorem kgs_u {d : Option Nat} {op : AOp} {t : Nat} {want : Bool} {os : List AI} (hb : st.s.getD t undefA = undefA) (h : AWs P G os k (st.put d undefA st.H)) : AWs P G (⟨d, op, some (t, want)⟩ :: os) k st := by
  simp only [AWs, AWi]
  rw [hb]
  exact h
theorem kgd_u {d : Option Nat} {op : AOp} {t : Nat} {want : Bool} {os : List AI} {base : Nat} (hc : chkB G base ⟨d, op, none⟩ st = true) (hb : st.s.getD t undefA = undefA) (h : AWd P G base os k (st.put d undefA st.H)) : AWd P G base (⟨d, op, some (t, want)⟩ :: os) k st := by
  refine ⟨chkB_ok hc, ?_⟩
  simp only [AWi]
  rw [hb]
  exact h
theorem ret_h {ts : List RS} {r : AV} (h : ∀ K : Option (List AV) → Prop, (∀ vs, r = resOf vs → K (some vs)) → K (rsAs st ts)) : RetH ts r st.H .r st :=
  ⟨.inr rfl, h (fun o => ∃ vs, o = some vs ∧ resOf vs = r) (fun vs hv => ⟨vs, rfl, hv.symm⟩), rfl⟩
theorem ret_p {ts : List RS} {r : AV} (h : ∀ K : Option (List AV) → Prop, (∀ vs, vs.all AV.isP = true → r = resOf vs → K (some vs)) → K (rsAs st ts)) : RetP ts r .r st :=
  ⟨.inr rfl, h (fun o => ∃ vs, o = some vs ∧ ∃ rs H', purA st.H vs = some (rs, H') ∧ resOf rs = r) (fun vs ha hv => ⟨vs, rfl, _, _, purA_isP ha, hv.symm⟩)⟩
theorem ret_q {ts : List RS} {r : AV} {vs : List AV} (h : rsAs st ts = some vs) (ha : vs.all AV.isP = true) (hr : resOf vs = r) : RetP ts r .r st := ⟨.inr rfl, vs, h, _, _, purA_isP ha, hr⟩
/-- What is weaker holds too. -/
theorem W_mono : ∀ (c : AC) {Q Q' : EX → St → Prop} {st : St}, (∀ e st, Q e st → Q' e st) → W P G c Q st → W P G c Q' st := by
  have ops : ∀ (os : List AI) {k k' : St → Prop} {st : St}, (∀ st, k st → k' st) → AWs P G os k st → AWs P G os k' st := by
    intro os
    induction os with
    | nil => intro k k' st h hh; exact h _ hh
    | cons o os ih =>
      intro k k' st h hh
      obtain ⟨s1, h1, h2⟩ := AWi_iff.1 hh
      exact AWi_iff.2 ⟨s1, h1, ih h h2⟩
  have opd : ∀ (base : Nat) (os : List AI) {k k' : St → Prop} {st : St}, (∀ st, k st → k' st) → AWd P G base os k st → AWd P G base os k' st := by
    intro base os
    induction os with
    | nil => intro k k' st h hh; exact h _ hh
    | cons o os ih =>
      intro k k' st h hh
      obtain ⟨s1, h1, h2⟩ := AWi_iff.1 hh.2
      exact ⟨hh.1, AWi_iff.2 ⟨s1, h1, ih h h2⟩⟩
  intro c
  induction c with
  | rng => intro Q Q' st h hh; exact hh.elim
  | drawq => intro Q Q' st h hh; exact hh.elim
  | skip => intro Q Q' st h hh; exact h _ _ hh
  | region os => intro Q Q' st h hh; exact ops os (fun st => h .n st) hh
  | draw os => intro Q Q' st h hh; exact opd _ os (fun st => h .n st) hh
  | drawx reps => intro Q Q' st h hh R hR; exact opd _ R (fun st => h .n st) (hh R hR)
  | seq a b iha ihb =>
    intro Q Q' st h hh
    refine iha (fun e st he => ?_) hh
    cases e with
    | n => exact ihb h he
    | x id => exact h _ _ he
    | r => exact h _ _ he
  | cond c t e iht ihe =>
    intro Q Q' st h hh
    simp only [W] at hh ⊢
    split at hh
    · rename_i b hb
      split at hh
      · rename_i hbt; rw [if_pos hbt]; exact iht h hh
      · rename_i hbt; rw [if_neg hbt]; exact ihe h hh
    · exact hh.elim
  | block id c ih =>
    intro Q Q' st h hh
    refine ih (fun e st he => ?_) hh
    cases e with
    | n => exact h _ _ he
    | x id' =>
      simp only [blockQ] at he ⊢
      split at he
      · rename_i e; rw [if_pos e]; exact h _ _ he
      · rename_i e; rw [if_neg e]; exact h _ _ he
    | r => exact h _ _ he
  | loop c ih =>
    intro Q Q' st h hh
    obtain ⟨n, hn⟩ := hh
    refine ⟨n, ?_⟩
    induction n generalizing st with
    | zero => exact hn.elim
    | succ n ihn =>
      refine ih (fun e st he => ?_) hn
      cases e with
      | n => exact ihn he
      | x id => exact h _ _ he
      | r => exact h _ _ he
  | scope c ih => intro Q Q' st h hh; exact ih h hh
  | exit id => intro Q Q' st h hh; exact h _ _ hh
  | ret => intro Q Q' st h hh; exact h _ _ hh
/-- A loop, by what holds at each round's head, with a number that goes down. -/
theorem w_loop {c : AC} (I : Nat → St → Prop) (m : Nat) (h0 : I m st) (round : ∀ m st, I m st → W P G c (thenQ (fun st' => ∃ m', m' < m ∧ I m' st') Q) st) : W P G (.loop c) Q st := by
  have key : ∀ n m st, m < n → I m st → loopN (W P G c) Q n st := by
    intro n
    induction n with
    | zero => intro m st h; omega
    | succ n ih =>
      intro m st h hI
      refine W_mono c (fun e st' he => ?_) (round m st hI)
      cases e with
      | n => obtain ⟨m', hm, hI'⟩ := he; exact ih m' st' (by omega) hI'
      | x id => exact he
      | r => exact he
  exact ⟨m + 1, key (m + 1) m st (Nat.lt_succ_self m) h0⟩
end
theorem maxLenE : maxLen = 9223372036854775807 := by decide
abbrev I (n : Int) : AV := .v (.int .i64 n)
abbrev Bo (b : Bool) : AV := .v (.bool b)
abbrev S (s : ByteArray) : AV := .v (.string s)
section
variable {P : Program} {t : TypeId} {xo yo : Operand} {a b : Int}
theorem bV_add : binV P .add t xo yo (.int .i64 a) (.int .i64 b) = some (.int .i64 (IntKind.i64.wrap (a + b))) := rfl
theorem bV_sub : binV P .sub t xo yo (.int .i64 a) (.int .i64 b) = some (.int .i64 (IntKind.i64.wrap (a - b))) := rfl
theorem bV_mul : binV P .mul t xo yo (.int .i64 a) (.int .i64 b) = some (.int .i64 (IntKind.i64.wrap (a * b))) := rfl
theorem bV_eq : binV P .eql t xo yo (.int .i64 a) (.int .i64 b) = some (.bool (decide (a = b))) := by
  have : (a == b) = decide (a = b) := by by_cases h : a = b <;> simp [h]
  rw [← this]; rfl
theorem bV_ne : binV P .neq t xo yo (.int .i64 a) (.int .i64 b) = some (.bool (decide (a ≠ b))) := by
  have : (a != b) = decide (a ≠ b) := by by_cases h : a = b <;> simp [h]
  rw [← this]; rfl
theorem bV_lt : binV P .lss t xo yo (.int .i64 a) (.int .i64 b) = some (.bool (decide (a < b))) := rfl
theorem bV_le : binV P .leq t xo yo (.int .i64 a) (.int .i64 b) = some (.bool (decide (a ≤ b))) := rfl
theorem bV_gt : binV P .gtr t xo yo (.int .i64 a) (.int .i64 b) = some (.bool (decide (b < a))) := rfl
theorem bV_ge : binV P .geq t xo yo (.int .i64 a) (.int .i64 b) = some (.bool (decide (b ≤ a))) := rfl
theorem bV_beq {x y : Bool} : binV P .eql 4 xo yo (.bool x) (.bool y) = binV P .eql 4 xo yo (.bool x) (.bool y) := rfl
theorem bV_quo (h : b ≠ 0) : binV P .quo t xo yo (.int .i64 a) (.int .i64 b) = some (.int .i64 (IntKind.i64.wrap (a.tdiv b))) := by
  show pureRun P (do eqGuard .quo t xo yo (.int .i64 a) (.int .i64 b); Op.intDiv .quo .i64 a b) = _
  unfold Op.intDiv
  rw [if_neg h]; rfl
theorem bV_rem (h : b ≠ 0) : binV P .rem t xo yo (.int .i64 a) (.int .i64 b) = some (.int .i64 (a.tmod b)) := by
  show pureRun P (do eqGuard .rem t xo yo (.int .i64 a) (.int .i64 b); Op.intDiv .rem .i64 a b) = _
  unfold Op.intDiv
  rw [if_neg h]; rfl
theorem uV_not {x : Bool} : pureRun P (Op.unary .not (.bool x)) = some (.bool (!x)) := rfl
theorem uV_neg : pureRun P (Op.unary .neg (.int .i64 a)) = some (.int .i64 (IntKind.i64.wrap (0 - a))) := rfl
theorem wrapI {x : Int} (h : -9223372036854775808 ≤ x) (h' : x ≤ 9223372036854775807) : IntKind.i64.wrap x = x := IntWalk.i64_in x (by omega)
theorem scal_bool {b : Bool} : scal (.bool b) = true := rfl
theorem scal_int {k : IntKind} {n : Int} : scal (.int k n) = true := rfl
theorem scal_string {s : ByteArray} : scal (.string s) = true := rfl
theorem scal_float {k : FloatKind} {n : Nat} : scal (.float k n) = true := rfl
theorem scal_ptr0 : scal (.pointer none) = true := rfl
theorem scal_ptr {a : Addr} : scal (.pointer (some a)) = false := rfl
theorem scal_map0 : scal (.map none) = true := rfl
theorem scal_nilFunc : scal .nilFunc = true := rfl
theorem scal_nilIface : scal .nilIface = true := rfl
theorem scal_agg {cs : Array Value} : scal (.agg cs) = false := rfl
theorem scal_tuple {cs : Array Value} : scal (.tuple cs) = false := rfl
theorem scal_slice {a : Option Addr} {n c : Nat} : scal (.slice a n c) = false := rfl
end
end Go.Proofs.YtgcnbbjapapnjaaDoor.Sim
