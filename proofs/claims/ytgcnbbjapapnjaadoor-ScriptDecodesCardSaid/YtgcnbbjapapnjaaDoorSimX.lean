/- Code on plain values that are all known, run by the kernel. -/
import Derived.Test.YtgcnbbjapapnjaaDoorSimR
namespace Go.Proofs.YtgcnbbjapapnjaaDoor.Sim
open Go.RowKit
set_option linter.unusedVariables false
set_option linter.unusedSimpArgs false
def beqV : Value → Value → Bool
  | .bool a, .bool b => a == b
  | .int k a, .int k' b => decide (k = k') && decide (a = b)
  | .string a, .string b => decide (a = b)
  | .float k a, .float k' b => decide (k = k') && decide (a = b)
  | .pointer none, .pointer none => true
  | .map none, .map none => true
  | .nilFunc, .nilFunc => true
  | .nilIface, .nilIface => true
  | .func (.func f) a b, .func (.func g) c d => decide (f = g) && (decide (a.size = 0) && decide (b.size = 0) && decide (c.size = 0) && decide (d.size = 0))
  | _, _ => false
theorem beqV_eq {x y : Value} (h : beqV x y = true) : x = y := by
  unfold beqV at h
  split at h
  · rw [beq_iff_eq.1 h]
  · simp only [Bool.and_eq_true, decide_eq_true_eq] at h; rw [h.1, h.2]
  · simp only [decide_eq_true_eq] at h; rw [h]
  · simp only [Bool.and_eq_true, decide_eq_true_eq] at h; rw [h.1, h.2]
  · rfl
  · rfl
  · rfl
  · rfl
  · simp only [Bool.and_eq_true, decide_eq_true_eq] at h
    obtain ⟨rfl, ⟨⟨h1, h2⟩, h3⟩, h4⟩ := h
    rw [Array.eq_empty_of_size_eq_zero h1, Array.eq_empty_of_size_eq_zero h2, Array.eq_empty_of_size_eq_zero h3, Array.eq_empty_of_size_eq_zero h4]
  · cases h
def beqL (f : AV → AV → Bool) : List AV → List AV → Bool
  | [], [] => true
  | a :: as, b :: bs => f a b && beqL f as bs
  | _, _ => false
theorem beqL_eq {f : AV → AV → Bool} (hf : ∀ a b, f a b = true → a = b) : ∀ {as bs : List AV}, beqL f as bs = true → as = bs
  | [], [], _ => rfl
  | [], _ :: _, h => by cases h
  | _ :: _, [], h => by cases h
  | a :: as, b :: bs, h => by
    simp only [beqL, Bool.and_eq_true] at h
    rw [hf a b h.1, beqL_eq hf h.2]
def beqA : Nat → AV → AV → Bool
  | 0, _, _ => false
  | n + 1, a, b =>
    match a, b with
    | .v x, .v y => beqV x y
    | .agg as, .agg bs => beqL (beqA n) as bs
    | .tup as, .tup bs => beqL (beqA n) as bs
    | .nl k, .nl k' => decide (k = k')
    | .sl k es, .sl k' es' => decide (k = k') && beqL (beqA n) es es'
    | .ad k es i o, .ad k' es' i' o' => (decide (k = k') && decide (i = i') && decide (o = o')) && beqL (beqA n) es es'
    | .ol i g m, .ol i' g' m' => decide (i = i') && decide (g = g') && decide (m = m')
    | .oa i g e o, .oa i' g' e' o' => decide (i = i') && decide (g = g') && decide (e = e') && decide (o = o')
    | .oc i g m c, .oc i' g' m' c' => decide (i = i') && decide (g = g') && decide (m = m') && decide (c = c')
    | .mp i g, .mp i' g' => decide (i = i') && decide (g = g')
    | .ib t f i g e o, .ib t' f' i' g' e' o' => decide (i = i') && decide (g = g') && decide (e = e') && decide (o = o') && decide (f = f') && decide (t = t')
    | .bf f i g e o, .bf f' i' g' e' o' => decide (i = i') && decide (g = g') && decide (e = e') && decide (o = o') && decide (f = f')
    | .io t i g e o, .io t' i' g' e' o' => decide (i = i') && decide (g = g') && decide (e = e') && decide (o = o') && decide (t = t')
    | .fn f as, .fn g bs => decide (f = g) && beqL (beqA n) as bs
    | .unk, .unk => true
    | _, _ => false
theorem beqA_eq : ∀ (n : Nat) (a b : AV), beqA n a b = true → a = b
  | 0, _, _, h => by cases h
  | n + 1, a, b, h => by
    unfold beqA at h
    split at h
    · rw [beqV_eq h]
    · rw [beqL_eq (beqA_eq n) h]
    · rw [beqL_eq (beqA_eq n) h]
    · rw [of_decide_eq_true h]
    · simp only [Bool.and_eq_true, decide_eq_true_eq] at h; rw [h.1, beqL_eq (beqA_eq n) h.2]
    · simp only [Bool.and_eq_true, decide_eq_true_eq] at h; rw [h.1.1.1, h.1.1.2, h.1.2, beqL_eq (beqA_eq n) h.2]
    · simp only [Bool.and_eq_true, decide_eq_true_eq] at h; rw [h.1.1, h.1.2, h.2]
    · simp only [Bool.and_eq_true, decide_eq_true_eq] at h; rw [h.1.1.1, h.1.1.2, h.1.2, h.2]
    · simp only [Bool.and_eq_true, decide_eq_true_eq] at h; rw [h.1.1.1, h.1.1.2, h.1.2, h.2]
    · simp only [Bool.and_eq_true, decide_eq_true_eq] at h; rw [h.1, h.2]
    · simp only [Bool.and_eq_true, decide_eq_true_eq] at h; rw [h.1.1.1.1.1, h.1.1.1.1.2, h.1.1.1.2, h.1.1.2, h.1.2, h.2]
    · simp only [Bool.and_eq_true, decide_eq_true_eq] at h; rw [h.1.1.1.1, h.1.1.1.2, h.1.1.2, h.1.2, h.2]
    · simp only [Bool.and_eq_true, decide_eq_true_eq] at h; rw [h.1.1.1.1, h.1.1.1.2, h.1.1.2, h.1.2, h.2]
    · simp only [Bool.and_eq_true, decide_eq_true_eq] at h; rw [h.1, beqL_eq (beqA_eq n) h.2]
    · rfl
    · cases h
def beqO (a b : OB) : Bool := decide (a.e = b.e) && decide (a.k = b.k) && beqL (beqA 40) a.es b.es && decide (a.g = b.g) && decide (a.fz = b.fz)
theorem beqO_eq {a b : OB} (h : beqO a b = true) : a = b := by
  simp only [beqO, Bool.and_eq_true, decide_eq_true_eq] at h
  obtain ⟨⟨⟨⟨h1, h2⟩, h3⟩, h4⟩, h5⟩ := h
  cases a; cases b
  simp only at h1 h2 h4 h5 h3
  rw [h1, h2, h4, h5, beqL_eq (beqA_eq 40) h3]
def beqH : Hp → Hp → Bool
  | [], [] => true
  | a :: as, b :: bs => beqO a b && beqH as bs
  | _, _ => false
theorem beqH_eq : ∀ {as bs : Hp}, beqH as bs = true → as = bs
  | [], [], _ => rfl
  | [], _ :: _, h => by cases h
  | _ :: _, [], h => by cases h
  | a :: as, b :: bs, h => by
    simp only [beqH, Bool.and_eq_true] at h
    rw [beqO_eq h.1, beqH_eq h.2]
def beqS (a b : St) : Bool := beqL (beqA 40) a.s b.s && beqH a.H b.H
theorem beqS_eq {a b : St} (h : beqS a b = true) : a = b := by
  simp only [beqS, Bool.and_eq_true] at h
  cases a; cases b
  simp only at h
  rw [beqL_eq (beqA_eq 40) h.1, beqH_eq h.2]
abbrev Tab := Nat → Option AF
def Tab.at (t : Tab) (f : Nat) : Option AF := t f
def Tab.of : List (Nat × AF) → Tab
  | [], _ => none
  | (n, a) :: t, f => if n == f then some a else Tab.of t f
/-- All functions, as they are translated. -/
def Tab.all (P : Program) (hs : List FuncId) : Tab := fun f => if hasBody P f = true then copF P hs f else none
def Tab.Ok (P : Program) (hs : List FuncId) (t : Tab) : Prop := ∀ f a, t.at f = some a → copF P hs f = some a ∧ hasBody P f = true
theorem Tab.ok_all {P : Program} {hs : List FuncId} : Tab.Ok P hs (Tab.all P hs) := fun f a h => by
  unfold Tab.at Tab.all at h
  split at h
  · rename_i hb; exact ⟨h, hb⟩
  · cases h
theorem Tab.ok_nil {P : Program} {hs : List FuncId} : Tab.Ok P hs (Tab.of []) := fun f a h => by cases h
theorem Tab.ok_cons {P : Program} {hs : List FuncId} {n : Nat} {a : AF} {t : List (Nat × AF)} (h : copF P hs n = some a) (hb : hasBody P n = true) (k : Tab.Ok P hs (Tab.of t)) : Tab.Ok P hs (Tab.of ((n, a) :: t)) := fun f b hf => by
  simp only [Tab.at, Tab.of] at hf
  split at hf
  · rename_i e
    cases hf
    have : n = f := by simpa using e
    subst this
    exact ⟨h, hb⟩
  · exact k f b hf
/-- A method of a pointer type, by its table. -/
def mthF (P : Program) (t : Nat) (nm : String) : Option FuncId :=
  match P.info? t, P.underlying t with
  | some inf, some (.pointer _) =>
    (match inf.methods.find? (·.name == nm) with
     | some m => if m.path = #[] then (match m.func with | some (f, true) => if hasBody P f = true then some f else none | _ => none) else none
     | none => none)
  | _, _ => none
theorem mthF_ok {P : Program} {t : Nat} {nm : String} {f : FuncId} (h : mthF P t nm = some f) : Mth P t nm f := by
  unfold mthF at h
  split at h
  · rename_i inf el hi hu
    split at h
    · rename_i m hm
      split at h
      · rename_i hp
        split at h
        · rename_i g hf
          split at h
          · rename_i hb
            cases h
            intro x args w
            unfold hasBody at hb
            split at hb
            · rename_i fn hfn
              simp only [Bool.and_eq_true, bne_iff_ne, ne_eq] at hb
              have hbn : fn.body.isNone = false := by cases hq : fn.body with
                | none => rw [hq] at hb; simp at hb
                | some _ => rfl
              have hnm : (fn.name == "runtime.NumGoroutine") = false := by simpa using hb.2
              have hd0 : 0 < Made.depth := by decide
              have hpos : ∃ k, P.types.size + Made.depth = k + 1 := ⟨P.types.size + Made.depth - 1, by omega⟩
              obtain ⟨k, hk⟩ := hpos
              simp [callMethod, program, Sem.run, Sem.run_bind, hk, method, typeInfo, hi, hm, hp, hf, follow, receiverAt, run_underlying hu, Place.get, callFunc, hfn, hnm, hbn]
              have hb2 : ¬ fn.body = none := fun e => by rw [e] at hbn; cases hbn
              have hn2 : ¬ fn.name = "runtime.NumGoroutine" := by simpa using hb.2
              rw [if_neg hn2, if_neg hb2]
            · cases hb
          · cases h
        · cases h
      · cases h
    · cases h
  · cases h
/-- A method of a type of functions, with the function for its receiver. -/
def mthG (P : Program) (t : Nat) (nm : String) : Option FuncId :=
  match P.info? t, P.underlying t with
  | some inf, some (.func ..) =>
    (match inf.methods.find? (·.name == nm) with
     | some m => if m.path = #[] then (match m.func with | some (f, false) => if hasBody P f = true then some f else none | _ => none) else none
     | none => none)
  | _, _ => none
theorem mthG_ok {P : Program} {t : Nat} {nm : String} {f : FuncId} (h : mthG P t nm = some f) : Mth P t nm f := by
  unfold mthG at h
  split at h
  · rename_i inf ps rs vd hi hu
    split at h
    · rename_i m hm
      split at h
      · rename_i hp
        split at h
        · rename_i g hf
          split at h
          · rename_i hb
            cases h
            intro x args w
            unfold hasBody at hb
            split at hb
            · rename_i fn hfn
              simp only [Bool.and_eq_true, bne_iff_ne, ne_eq] at hb
              have hbn : fn.body.isNone = false := by cases hq : fn.body with
                | none => rw [hq] at hb; simp at hb
                | some _ => rfl
              have hnm : (fn.name == "runtime.NumGoroutine") = false := by simpa using hb.2
              have hd0 : 0 < Made.depth := by decide
              have hpos : ∃ k, P.types.size + Made.depth = k + 1 := ⟨P.types.size + Made.depth - 1, by omega⟩
              obtain ⟨k, hk⟩ := hpos
              simp [callMethod, program, Sem.run, Sem.run_bind, hk, method, typeInfo, hi, hm, hp, hf, follow, receiverAt, run_underlying hu, Place.get, callFunc, hfn, hnm, hbn]
              have hb2 : ¬ fn.body = none := fun e => by rw [e] at hbn; cases hbn
              have hn2 : ¬ fn.name = "runtime.NumGoroutine" := by simpa using hb.2
              rw [if_neg hn2, if_neg hb2]
            · cases hb
          · cases h
        · cases h
      · cases h
    · cases h
  · cases h
/-- A method, by the tables. -/
def mthH (P : Program) (t : Nat) (nm : String) : Option FuncId := match mthF P t nm with | some f => some f | none => mthG P t nm
theorem mthH_ok {P : Program} {t : Nat} {nm : String} {f : FuncId} (h : mthH P t nm = some f) : Mth P t nm f := by
  unfold mthH at h
  split at h
  · rename_i g hg; cases h; exact mthF_ok hg
  · exact mthG_ok h
def callH (tab : Tab) (ih : AC → St → Option (EX × St)) (f : Nat) (as : List AV) (H : Hp) : Option (AV × Hp) :=
  match tab.at f with
  | some af =>
    match ih af.body (St.init af.n as H) with
    | some (.x _, _) => none
    | some (_, st') => (match rsAs st' af.res with | some vs => some (resOf vs, st'.H) | none => none)
    | none => none
  | none => none
def callP (tab : Tab) (ih : AC → St → Option (EX × St)) (f : Nat) (as : List AV) : Option AV :=
  match tab.at f with
  | some af =>
    match ih af.body (St.init af.n as []) with
    | some (.x _, _) => none
    | some (_, st') => (match rsAs st' af.res with | some vs => (match purA st'.H vs with | some (rs, _) => some (resOf rs) | none => none) | none => none)
    | none => none
  | none => none
section
variable (P : Program) (G : Nat → AV) (tab : Tab)
def runOp (ih : AC → St → Option (EX × St)) (op : AOp) (st : St) : Option (AV × Hp) :=
  match op with
  | .call f xs => (match purA st.H (xs.map (AX.ev G st.s)) with | some (as, H1) => (match callP tab ih f as with | some r => some (r, H1) | none => none) | none => none)
  | .callh f xs => callH tab ih f (xs.map (AX.ev G st.s)) st.H
  | .callv x xs => (match cvA st.H (AX.ev G st.s x) (xs.map (AX.ev G st.s)) with | some (f, as) => callH tab ih f as st.H | none => none)
  | .calli nm x xs => (match recvA st.H (AX.ev G st.s x) with | some (t, rc) => (match mthH P t nm with | some f => callH tab ih f (rc :: xs.map (AX.ev G st.s)) st.H | none => none) | none => none)
  | op => eff P (AX.ev G st.s) st.H op
def runI (ih : AC → St → Option (EX × St)) (o : AI) (st : St) : Option St :=
  match o.guard with
  | none => (match runOp P G tab ih o.op st with | some (r, H') => some (st.put o.dst r H') | none => none)
  | some (t, want) =>
    match st.s.getD t undefA with
    | .v (.bool b) => if b = want then (match runOp P G tab ih o.op st with | some (r, H') => some (st.put o.dst r H') | none => none) else some (st.put o.dst undefA st.H)
    | .tup [] => some (st.put o.dst undefA st.H)
    | _ => none
def runL (ih : AC → St → Option (EX × St)) : List AI → St → Option St
  | [], st => some st
  | o :: os, st => (match runI P G tab ih o st with | some st' => runL ih os st' | none => none)
def runD (ih : AC → St → Option (EX × St)) (base : Nat) : List AI → St → Option St
  | [], st => some st
  | o :: os, st => if chkB G base o st = true then (match runI P G tab ih o st with | some st' => runD ih base os st' | none => none) else none
def runC (ih : AC → St → Option (EX × St)) : AC → St → Option (EX × St)
  | .skip, st => some (.n, st)
  | .region ops, st => (match runL P G tab ih ops st with | some st' => some (.n, st') | none => none)
  | .draw ops, st => (match runD P G tab ih st.H.length ops st with | some st' => some (.n, st') | none => none)
  | .drawx [], _ => none
  | .drawx (R :: Rs), st => (match runD P G tab ih st.H.length R st with | some st' => if (Rs.all fun R => match runD P G tab ih st.H.length R st with | some s2 => beqS st' s2 | none => false) = true then some (.n, st') else none | none => none)
  | .seq a b, st => (match ih a st with | some (.n, st') => ih b st' | r => r)
  | .cond c t e, st => (match c.ev G st.s with | .v (.bool b) => if b = true then ih t st else ih e st | _ => none)
  | .block id c, st => (match ih c st with | some (.x i, st') => if i = id then some (.n, st') else some (.x i, st') | r => r)
  | .loop c, st => (match ih c st with | some (.n, st') => ih (.loop c) st' | r => r)
  | .scope c, st => ih c st
  | .exit id, st => some (.x id, st)
  | .ret, st => some (.r, st)
  | .rng .., _ => none
  | .drawq .., _ => none
def exec : Nat → AC → St → Option (EX × St)
  | 0 => fun _ _ => none
  | n + 1 => runC P G tab (exec n)
end
section
variable {P : Program} {G : Nat → AV} {tab : Tab} {hs : List FuncId}
def Good1 (P : Program) (G : Nat → AV) (ih : AC → St → Option (EX × St)) : Prop := ∀ c st e st', ih c st = some (e, st') → ∀ Q : EX → St → Prop, Q e st' → W P G c Q st
theorem callH_ok {ih : AC → St → Option (EX × St)} (ht : tab.Ok P hs) (hg : Good1 P G ih) {f : Nat} {as : List AV} {H : Hp} {r : AV} {H' : Hp} (h : callH tab ih f as H = some (r, H')) : HC P G f as H r H' ∧ hasBody P f = true := by
  unfold callH at h
  split at h
  · rename_i af haf
    obtain ⟨h1, h2⟩ := ht f af haf
    refine ⟨?_, h2⟩
    split at h
    · cases h
    · rename_i e st' hne he
      split at h
      · rename_i vs hvs
        cases h
        refine hc_of h1 (hg _ _ _ _ he _ ⟨?_, ⟨vs, hvs, rfl⟩, rfl⟩)
        cases e with
        | n => exact .inl rfl
        | r => exact .inr rfl
        | x i => exact (hne i rfl).elim
      · cases h
    · cases h
  · cases h
theorem callP_ok {ih : AC → St → Option (EX × St)} (ht : tab.Ok P hs) (hg : Good1 P G ih) {f : Nat} {as : List AV} {r : AV} (h : callP tab ih f as = some r) : PC P G f as r := by
  unfold callP at h
  split at h
  · rename_i af haf
    obtain ⟨h1, h2⟩ := ht f af haf
    split at h
    · cases h
    · rename_i e st' hne he
      split at h
      · rename_i vs hvs
        split at h
        · rename_i rs H' hp
          cases h
          refine pc_of h1 (hg _ _ _ _ he _ ⟨?_, vs, hvs, rs, H', hp, rfl⟩)
          cases e with
          | n => exact .inl rfl
          | r => exact .inr rfl
          | x i => exact (hne i rfl).elim
        · cases h
      · cases h
    · cases h
  · cases h
theorem runOp_ok {ih : AC → St → Option (EX × St)} (ht : tab.Ok P hs) (hg : Good1 P G ih) {op : AOp} {st : St} {r : AV} {H' : Hp} (h : runOp P G tab ih op st = some (r, H')) (k : AV → Hp → Prop) (hk : k r H') : AWop P G (AX.ev G st.s) st.H op k := by
  cases op with
  | call f xs =>
    simp only [runOp] at h
    split at h
    · rename_i as H1 hp
      split at h
      · rename_i r' hr
        cases h
        exact ⟨as, H', r, hp, callP_ok ht hg hr, hk⟩
      · cases h
    · cases h
  | callh f xs => exact ⟨r, H', (callH_ok ht hg h).1, hk⟩
  | callv x xs =>
    simp only [runOp] at h
    split at h
    · rename_i f cs hf
      obtain ⟨h1, h2⟩ := callH_ok ht hg h
      exact ⟨f, cs, r, H', hf, h2, h1, hk⟩
    · cases h
  | calli nm x xs =>
    simp only [runOp] at h
    split at h
    · rename_i t rc hx
      split at h
      · rename_i f hf
        exact ⟨t, rc, f, r, H', hx, mthH_ok hf, (callH_ok ht hg h).1, hk⟩
      · cases h
    · cases h
  | _ => exact AWop_of h hk
theorem runI_ok {ih : AC → St → Option (EX × St)} (ht : tab.Ok P hs) (hg : Good1 P G ih) {o : AI} {st st' : St} (h : runI P G tab ih o st = some st') (k : St → Prop) (hk : k st') : AWi P G o st k := by
  unfold runI at h
  unfold AWi
  split at h
  · rename_i hgd
    try rw [hgd]
    split at h
    · rename_i r H' he; cases h; exact runOp_ok ht hg he _ hk
    · cases h
  · rename_i t want hgd
    try rw [hgd]
    try simp only
    split at h
    · rename_i b hb
      try rw [hb]
      try simp only
      split at h
      · rename_i hbw
        try rw [if_pos hbw]
        split at h
        · rename_i r H' he; cases h; exact runOp_ok ht hg he _ hk
        · cases h
      · rename_i hbw
        try rw [if_neg hbw]
        cases h; exact hk
    · rename_i hb
      try rw [hb]
      cases h; exact hk
    · cases h
theorem runL_ok {ih : AC → St → Option (EX × St)} (ht : tab.Ok P hs) (hg : Good1 P G ih) : ∀ {os : List AI} {st st' : St}, runL P G tab ih os st = some st' → ∀ k : St → Prop, k st' → AWs P G os k st
  | [], st, st', h, k, hk => by cases h; exact hk
  | o :: os, st, st', h, k, hk => by
    simp only [runL] at h
    split at h
    · rename_i s1 h1
      exact runI_ok ht hg h1 _ (runL_ok ht hg h k hk)
    · cases h
theorem runD_ok {ih : AC → St → Option (EX × St)} (ht : tab.Ok P hs) (hg : Good1 P G ih) {base : Nat} : ∀ {os : List AI} {st st' : St}, runD P G tab ih base os st = some st' → ∀ k : St → Prop, k st' → AWd P G base os k st
  | [], st, st', h, k, hk => by cases h; exact hk
  | o :: os, st, st', h, k, hk => by
    simp only [runD] at h
    split at h
    · rename_i hc
      split at h
      · rename_i s1 h1
        exact ⟨chkB_ok hc, runI_ok ht hg h1 _ (runD_ok ht hg h k hk)⟩
      · cases h
    · cases h
theorem runC_ok {ih : AC → St → Option (EX × St)} (ht : tab.Ok P hs) (hg : Good1 P G ih) : Good1 P G (runC P G tab ih) := by
  intro c st e st' h Q hQ
  cases c with
  | rng => cases h
  | drawq => cases h
  | skip => cases h; exact hQ
  | region ops =>
    simp only [runC] at h
    split at h
    · rename_i s1 h1
      cases h
      exact runL_ok ht hg h1 _ hQ
    · cases h
  | draw ops =>
    simp only [runC] at h
    split at h
    · rename_i s1 h1
      cases h
      exact runD_ok ht hg h1 _ hQ
    · cases h
  | drawx reps =>
    cases reps with
    | nil => cases h
    | cons R Rs =>
      simp only [runC] at h
      split at h
      · rename_i s1 h1
        split at h
        · rename_i hall
          cases h
          intro R' hR'
          rcases List.mem_cons.1 hR' with rfl | hR'
          · exact runD_ok ht hg h1 _ hQ
          · have := (List.all_eq_true.1 hall) R' hR'
            split at this
            · rename_i s2 h2
              rw [← beqS_eq this] at h2
              exact runD_ok ht hg h2 _ hQ
            · cases this
        · cases h
      · cases h
  | seq a b =>
    simp only [runC] at h
    split at h
    · rename_i s1 h1
      exact hg _ _ _ _ h1 _ (hg _ _ _ _ h Q hQ)
    · rename_i hn
      refine hg _ _ _ _ h _ ?_
      cases e with
      | n => exact (hn _ h).elim
      | x id => exact hQ
      | r => exact hQ
  | cond c t f =>
    simp only [runC] at h
    split at h
    · rename_i b hb
      simp only [W, hb]
      split at h
      · rename_i hbt; rw [if_pos hbt]; exact hg _ _ _ _ h _ hQ
      · rename_i hbt; rw [if_neg hbt]; exact hg _ _ _ _ h _ hQ
    · cases h
  | block id c =>
    simp only [runC] at h
    split at h
    · rename_i i s1 h1
      refine hg _ _ _ _ h1 _ ?_
      simp only [blockQ]
      split at h
      · rename_i hi; cases h; rw [if_pos hi]; exact hQ
      · rename_i hi; cases h; rw [if_neg hi]; exact hQ
    · rename_i hn
      refine hg _ _ _ _ h _ ?_
      cases e with
      | n => exact hQ
      | x i => exact (hn _ _ h).elim
      | r => exact hQ
  | loop c =>
    simp only [runC] at h
    split at h
    · rename_i s1 h1
      obtain ⟨n, hn⟩ : W P G (.loop c) Q s1 := hg _ _ _ _ h Q hQ
      exact ⟨n + 1, hg _ _ _ _ h1 _ hn⟩
    · rename_i hne
      refine ⟨1, hg _ _ _ _ h _ ?_⟩
      cases e with
      | n => exact (hne _ h).elim
      | x id => exact hQ
      | r => exact hQ
  | scope c => exact hg c st e st' h Q hQ
  | exit id => cases h; exact hQ
  | ret => cases h; exact hQ
theorem exec_ok (ht : tab.Ok P hs) : ∀ n, Good1 P G (exec P G tab n)
  | 0 => fun c st e st' h => by cases h
  | n + 1 => runC_ok ht (exec_ok ht n)
/-- What a function comes to, run by the kernel. -/
def runsTo (P : Program) (tab : Tab) (n f : Nat) (as : List AV) (t : AV → Bool) : Bool :=
  match callP tab (exec P (fun _ => .unk) tab n) f as with
  | some r => t r
  | none => false
def isTrue : AV → Bool
  | .v (.bool true) => true
  | _ => false
theorem runsTo_pc (ht : tab.Ok P hs) {n f : Nat} {as : List AV} {t : AV → Bool} (h : runsTo P tab n f as t = true) : ∃ r, t r = true ∧ PC P G f as r := by
  unfold runsTo at h
  split at h
  · rename_i r hr
    refine ⟨r, h, ?_⟩
    have := callP_ok (P := P) (G := fun _ => .unk) ht (exec_ok ht n) hr
    exact fun w F xs h1 _ h3 h4 => this w F xs h1 (fun g => .unk _) h3 h4
  · cases h
theorem isTrue_eq {a : AV} (h : isTrue a = true) : a = Bo true := by
  cases a with
  | v x => cases x with
    | bool b => cases b with
      | true => rfl
      | false => cases h
    | _ => cases h
  | _ => cases h
theorem runsTo_true (ht : tab.Ok P hs) {n f : Nat} {as : List AV} (h : runsTo P tab n f as isTrue = true) : PC P G f as (Bo true) := by
  obtain ⟨r, h1, h2⟩ := runsTo_pc (G := G) ht h
  rw [isTrue_eq h1] at h2
  exact h2
end
end Go.Proofs.YtgcnbbjapapnjaaDoor.Sim
