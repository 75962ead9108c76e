/- Code by evaluation, and that the code in the world does the same. -/
import Derived.Test.YtgcnbbjapapnjaaDoorSimVd
import Derived.Test.YtgcnbbjapapnjaaDoorSimLq
namespace Go.Proofs.YtgcnbbjapapnjaaDoor.Sim
open Go.RowKit
set_option linter.unusedVariables false
set_option linter.unusedSimpArgs false
/-- Of each row of a lesser frame: its generation there, the row that it is, that one's generation. -/
abbrev Tb := List (Nat × Nat × Nat)
def rnC (T : Tb) : AV → Option AV
  | .ol j g' n => (match T[j]? with | some (g2, i, g) => if g' = g2 then some (.ol i g n) else none | none => none)
  | .oa j g' e off => (match T[j]? with | some (g2, i, g) => if g' = g2 then some (.oa i g e off) else none | none => none)
  | .mp j g' => (match T[j]? with | some (g2, i, g) => if g' = g2 then some (.mp i g) else none | none => none)
  | .io t j g' e off => (match T[j]? with | some (g2, i, g) => if g' = g2 then some (.io t i g e off) else none | none => none)
  | .oc j g' n c => (match T[j]? with | some (g2, i, g) => if g' = g2 then some (.oc i g n c) else none | none => none)
  | .mf nm t j g' e off => (match T[j]? with | some (g2, i, g) => if g' = g2 then some (.mf nm t i g e off) else none | none => none)
  | .bf f j g' e off => (match T[j]? with | some (g2, i, g) => if g' = g2 then some (.bf f i g e off) else none | none => none)
  | .ib t f j g' e off => (match T[j]? with | some (g2, i, g) => if g' = g2 then some (.ib t f i g e off) else none | none => none)
  | .agg _ | .tup _ | .fn _ _ | .os .. => none
  | a => some a
def rnL (T : Tb) : List AV → Option (List AV)
  | [] => some []
  | a :: as => (match rnC T a, rnL T as with | some b, some bs => some (b :: bs) | _, _ => none)
def rnA (T : Tb) : AV → Option AV
  | .agg cs => (match rnL T cs with | some cs' => some (.agg cs') | none => none)
  | a => rnC T a
def rnT (T : Tb) : List AV → Option (List AV)
  | [] => some []
  | a :: as => (match rnA T a, rnT T as with | some b, some bs => some (b :: bs) | _, _ => none)
def rnB (T : Tb) : AV → Option AV
  | .agg cs => (match rnL T cs with | some cs' => some (.agg cs') | none => none)
  | .tup cs => (match rnT T cs with | some cs' => some (.tup cs') | none => none)
  | .fn f cs => (match rnL T cs with | some cs' => some (.fn f cs') | none => none)
  | a => rnC T a
/-- How the rows' places go together. -/
def TO (T : Tb) (O O2 : Ow) : Prop := ∀ (j g2 i g : Nat), T[j]? = some (g2, i, g) → ∃ d, O[i]? = some d ∧ d.g = g ∧ O2[j]? = some ⟨d.b, d.C, g2, d.k⟩
theorem VR.rnC {F : Fz} {O O2 : Ow} {T : Tb} (hT : TO T O O2) {x : Value} {a b : AV} (h : VR F O x a) (hb : rnC T b = some a) : VR F O2 x b := by
  have pl : ∀ {c : AV}, VR F O x c → c.isC0 = true → VR F O2 x c := fun h hc => .p (h.pvC0 hc)
  cases b with
  | v y => simp only [Sim.rnC, Option.some.injEq] at hb; subst hb; exact pl h rfl
  | sl k es => simp only [Sim.rnC, Option.some.injEq] at hb; subst hb; exact pl h rfl
  | ad k es i off => simp only [Sim.rnC, Option.some.injEq] at hb; subst hb; exact pl h rfl
  | nl k =>
    simp only [Sim.rnC, Option.some.injEq] at hb; subst hb
    cases h with
    | p h => exact .p h
    | nl k => exact .nl k
  | em q k =>
    simp only [Sim.rnC, Option.some.injEq] at hb; subst hb
    cases h with
    | p h => exact .p h
    | em A c q k hb hm => exact .em A c q k hb hm
  | unk => exact .unk x
  | agg cs => cases hb
  | tup cs => cases hb
  | fn f cs => cases hb
  | os i g lo n => cases hb
  | ol j g' n =>
    simp only [Sim.rnC] at hb
    split at hb
    · rename_i g2 i g ht
      split at hb
      · rename_i e
        subst e
        cases hb
        obtain ⟨d, h1, h2, h3⟩ := hT j g' i g ht
        cases h with
        | p h => cases h
        | ol x i g m d' hd hg h1' hh =>
          rw [h1] at hd
          cases hd
          exact .ol x j g' n _ h3 (Nat.le_refl _) h1' fun _ => hh h2.symm
      · cases hb
    · cases hb
  | oa j g' e off =>
    simp only [Sim.rnC] at hb
    split at hb
    · rename_i g2 i g ht
      split at hb
      · rename_i e'
        subst e'
        cases hb
        obtain ⟨d, h1, h2, h3⟩ := hT j g' i g ht
        cases h with
        | p h => cases h
        | oa x i g e off d' hd hg h1' hh =>
          rw [h1] at hd
          cases hd
          exact .oa x j g' e off _ h3 (Nat.le_refl _) h1' fun _ => hh h2.symm
      · cases hb
    · cases hb
  | oc j g' n c =>
    simp only [Sim.rnC] at hb
    split at hb
    · rename_i g2 i g ht
      split at hb
      · rename_i e'
        subst e'
        cases hb
        obtain ⟨d, h1, h2, h3⟩ := hT j g' i g ht
        cases h with
        | p h => cases h
        | oc x i g n c d' hd hg h1' hh =>
          rw [h1] at hd
          cases hd
          exact .oc x j g' n c _ h3 (Nat.le_refl _) h1' fun _ => hh h2.symm
      · cases hb
    · cases hb
  | mf nm t j g' e off =>
    simp only [Sim.rnC] at hb
    split at hb
    · rename_i g2 i g ht
      split at hb
      · rename_i e'
        subst e'
        cases hb
        obtain ⟨d, h1, h2, h3⟩ := hT j g' i g ht
        cases h with
        | p h => cases h
        | mf x nm t i g e off d' hd hg h1' hh =>
          rw [h1] at hd
          cases hd
          exact .mf x nm t j g' e off _ h3 (Nat.le_refl _) h1' fun _ => hh h2.symm
      · cases hb
    · cases hb
  | bf f j g' e off =>
    simp only [Sim.rnC] at hb
    split at hb
    · rename_i g2 i g ht
      split at hb
      · rename_i e'
        subst e'
        cases hb
        obtain ⟨d, h1, h2, h3⟩ := hT j g' i g ht
        cases h with
        | p h => cases h
        | bf x f i g e off d' hd hg h1' hh =>
          rw [h1] at hd
          cases hd
          exact .bf x f j g' e off _ h3 (Nat.le_refl _) h1' fun _ => hh h2.symm
      · cases hb
    · cases hb
  | ib t f j g' e off =>
    simp only [Sim.rnC] at hb
    split at hb
    · rename_i g2 i g ht
      split at hb
      · rename_i e'
        subst e'
        cases hb
        obtain ⟨d, h1, h2, h3⟩ := hT j g' i g ht
        cases h with
        | p h => cases h
        | ib x t f i g e off d' hd hg h1' hh =>
          rw [h1] at hd
          cases hd
          exact .ib x t f j g' e off _ h3 (Nat.le_refl _) h1' fun _ => hh h2.symm
      · cases hb
    · cases hb
  | mp j g' =>
    simp only [Sim.rnC] at hb
    split at hb
    · rename_i g2 i g ht
      split at hb
      · rename_i e'
        subst e'
        cases hb
        obtain ⟨d, h1, h2, h3⟩ := hT j g' i g ht
        cases h with
        | p h => cases h
        | mp x i g d' hd hg h1' hh =>
          rw [h1] at hd
          cases hd
          exact .mp x j g' _ h3 (Nat.le_refl _) h1' fun _ => hh h2.symm
      · cases hb
    · cases hb
  | io t j g' e off =>
    simp only [Sim.rnC] at hb
    split at hb
    · rename_i g2 i g ht
      split at hb
      · rename_i e'
        subst e'
        cases hb
        obtain ⟨d, h1, h2, h3⟩ := hT j g' i g ht
        cases h with
        | p h => cases h
        | io x t i g e off d' hd hg h1' hh =>
          rw [h1] at hd
          cases hd
          exact .io x t j g' e off _ h3 (Nat.le_refl _) h1' fun _ => hh h2.symm
      · cases hb
    · cases hb
theorem rnL_at {T : Tb} : ∀ {bs as : List AV}, rnL T bs = some as → bs.length = as.length ∧ ∀ (i : Nat) (b : AV), bs[i]? = some b → ∃ a, as[i]? = some a ∧ rnC T b = some a
  | [], as, h => by cases h; exact ⟨rfl, fun i b hb => by simp at hb⟩
  | b :: bs, as, h => by
    simp only [rnL] at h
    split at h
    · rename_i a as' h1 h2
      cases h
      obtain ⟨l, r⟩ := rnL_at h2
      refine ⟨by simp [l], fun i c hc => ?_⟩
      cases i with
      | zero => simp at hc; subst hc; exact ⟨a, rfl, h1⟩
      | succ i => obtain ⟨a, q1, q2⟩ := r i c (by simpa using hc); exact ⟨a, by simpa using q1, q2⟩
    · cases h
theorem rnT_at {T : Tb} : ∀ {bs as : List AV}, rnT T bs = some as → bs.length = as.length ∧ ∀ (i : Nat) (b : AV), bs[i]? = some b → ∃ a, as[i]? = some a ∧ rnA T b = some a
  | [], as, h => by cases h; exact ⟨rfl, fun i b hb => by simp at hb⟩
  | b :: bs, as, h => by
    simp only [rnT] at h
    split at h
    · rename_i a as' h1 h2
      cases h
      obtain ⟨l, r⟩ := rnT_at h2
      refine ⟨by simp [l], fun i c hc => ?_⟩
      cases i with
      | zero => simp at hc; subst hc; exact ⟨a, rfl, h1⟩
      | succ i => obtain ⟨a, q1, q2⟩ := r i c (by simpa using hc); exact ⟨a, by simpa using q1, q2⟩
    · cases h
theorem rnT_rnL {T : Tb} : ∀ {bs as : List AV}, rnL T bs = some as → rnT T bs = some as
  | [], as, h => h
  | b :: bs, as, h => by
    simp only [rnL] at h
    split at h
    · rename_i a as' h1 h2
      cases h
      have h3 := rnT_rnL h2
      have h4 : rnA T b = some a := by
        cases b with
        | agg => simp [Sim.rnC] at h1
        | _ => exact h1
      simp [rnT, h3, h4]
    · cases h
theorem VR.rnA {F : Fz} {O O2 : Ow} {T : Tb} (hT : TO T O O2) {x : Value} {a b : AV} (h : VR F O x a) (hb : rnA T b = some a) : VR F O2 x b := by
  have cells : ∀ {cs bs : List AV} {ys : List Value}, rnL T bs = some cs → (∀ (i : Nat) (c : Value) (a : AV), ys[i]? = some c → cs[i]? = some a → VR F O c a) → ∀ (i : Nat) (c : Value) (b : AV), ys[i]? = some c → bs[i]? = some b → VR F O2 c b := fun hl hv i c b hc hb => by
    obtain ⟨a, h1, h2⟩ := (rnL_at hl).2 i b hb
    exact (hv i c a hc h1).rnC hT h2
  have one : ∀ {cs bs : List AV}, rnL T bs = some cs → (∀ a ∈ cs, AV.one a = true) → ∀ b ∈ bs, AV.one b = true := fun {cs bs} hl ho b hb => by
    obtain ⟨i, hi, rfl⟩ := List.getElem_of_mem hb
    obtain ⟨a, h1, h2⟩ := (rnL_at hl).2 i bs[i] (List.getElem?_eq_getElem hi)
    have ha := ho a (List.mem_of_getElem? h1)
    cases hq : bs[i] with
    | agg cs => rw [hq] at h2; cases h2
    | tup cs => rw [hq] at h2; cases h2
    | unk => rw [hq] at h2; cases h2; cases ha
    | _ => rfl
  cases b with
  | agg bs =>
    simp only [Sim.rnA] at hb
    split at hb
    · rename_i cs hl
      cases hb
      cases h with
      | p h =>
        cases h with
        | agg ys cs hl' h1 h => exact .agg ys bs (by rw [hl', (rnL_at hl).1]) (one hl h1) (cells hl fun i c a hc ha => .p (h i c a hc ha))
      | agg ys cs hl' h1 h => exact .agg ys bs (by rw [hl', (rnL_at hl).1]) (one hl h1) (cells hl h)
    · cases hb
  | _ => exact h.rnC hT hb
theorem VR.rnB {F : Fz} {O O2 : Ow} {T : Tb} (hT : TO T O O2) {x : Value} {a b : AV} (h : VR F O x a) (hb : rnB T b = some a) : VR F O2 x b := by
  have cells : ∀ {cs bs : List AV} {ys : List Value}, rnL T bs = some cs → (∀ (i : Nat) (c : Value) (a : AV), ys[i]? = some c → cs[i]? = some a → VR F O c a) → ∀ (i : Nat) (c : Value) (b : AV), ys[i]? = some c → bs[i]? = some b → VR F O2 c b := fun hl hv i c b hc hb => by
    obtain ⟨a, h1, h2⟩ := (rnL_at hl).2 i b hb
    exact (hv i c a hc h1).rnC hT h2
  have one : ∀ {cs bs : List AV}, rnL T bs = some cs → (∀ a ∈ cs, AV.one a = true) → ∀ b ∈ bs, AV.one b = true := fun {cs bs} hl ho b hb => by
    obtain ⟨i, hi, rfl⟩ := List.getElem_of_mem hb
    obtain ⟨a, h1, h2⟩ := (rnL_at hl).2 i bs[i] (List.getElem?_eq_getElem hi)
    have ha := ho a (List.mem_of_getElem? h1)
    cases hq : bs[i] with
    | agg cs => rw [hq] at h2; cases h2
    | tup cs => rw [hq] at h2; cases h2
    | unk => rw [hq] at h2; cases h2; cases ha
    | _ => rfl
  have cellsT : ∀ {cs bs : List AV} {ys : List Value}, rnT T bs = some cs → (∀ (i : Nat) (c : Value) (a : AV), ys[i]? = some c → cs[i]? = some a → VR F O c a) → ∀ (i : Nat) (c : Value) (b : AV), ys[i]? = some c → bs[i]? = some b → VR F O2 c b := fun hl hv i c b hc hb => by
    obtain ⟨a, h1, h2⟩ := (rnT_at hl).2 i b hb
    exact (hv i c a hc h1).rnA hT h2
  cases b with
  | agg bs => exact h.rnA hT hb
  | tup bs =>
    simp only [Sim.rnB] at hb
    split at hb
    · rename_i cs hl
      cases hb
      cases h with
      | p h =>
        cases h with
        | tup ys cs hl' h => exact .tup ys bs (by rw [hl', (rnT_at hl).1]) (cellsT hl fun i c a hc ha => .p (h i c a hc ha))
      | tup ys cs hl' h => exact .tup ys bs (by rw [hl', (rnT_at hl).1]) (cellsT hl h)
    · cases hb
  | fn f bs =>
    simp only [Sim.rnB] at hb
    split at hb
    · rename_i cs hl
      cases hb
      cases h with
      | p h =>
        cases h with
        | fn f ys cs hl' h => exact .fn f ys bs (by rw [hl', (rnL_at hl).1]) (cells hl fun i c a hc ha => .p (h i c a hc ha))
      | fn f ys cs hl' h => exact .fn f ys bs (by rw [hl', (rnL_at hl).1]) (cells hl h)
    · cases hb
  | _ => exact h.rnC hT hb
/-- A row's cell by the table: closures too. -/
def rnD (T : Tb) : AV → Option AV
  | .fn f cs => (match rnL T cs with | some cs' => some (.fn f cs') | none => none)
  | a => rnC T a
def rnR (T : Tb) : List AV → Option (List AV)
  | [] => some []
  | a :: as => (match rnD T a, rnR T as with | some b, some bs => some (b :: bs) | _, _ => none)
attribute [simp] rnD rnR
theorem rnC_rnD {T : Tb} {b a : AV} (h : rnC T b = some a) : rnD T b = some a := by
  cases b with
  | fn => simp [Sim.rnC] at h
  | _ => exact h
theorem rnL_rnR {T : Tb} : ∀ {bs as : List AV}, rnL T bs = some as → rnR T bs = some as
  | [], as, h => h
  | b :: bs, as, h => by
    simp only [rnL] at h
    split at h
    · rename_i c cs h1 h2
      cases h
      simp only [rnR, rnC_rnD h1, rnL_rnR h2]
    · cases h
theorem rnR_at {T : Tb} : ∀ {bs as : List AV}, rnR T bs = some as → bs.length = as.length ∧ ∀ (i : Nat) (b : AV), bs[i]? = some b → ∃ a, as[i]? = some a ∧ rnD T b = some a
  | [], as, h => by cases h; exact ⟨rfl, fun i b hb => by simp at hb⟩
  | b :: bs, as, h => by
    simp only [rnR] at h
    split at h
    · rename_i c cs h1 h2
      cases h
      obtain ⟨l, r⟩ := rnR_at h2
      refine ⟨by simp [l], fun i x hx => ?_⟩
      cases i with
      | zero => simp at hx; subst hx; exact ⟨c, rfl, h1⟩
      | succ i => obtain ⟨y, q1, q2⟩ := r i x (by simpa using hx); exact ⟨y, by simpa using q1, q2⟩
    · cases h
theorem VR.rnD {F : Fz} {O O2 : Ow} {T : Tb} (hT : TO T O O2) {x : Value} {a b : AV} (h : VR F O x a) (hb : rnD T b = some a) : VR F O2 x b := by
  cases b with
  | fn f cs => exact h.rnB hT hb
  | _ => exact h.rnC hT hb
/-- The rows of a lesser frame are rows. -/
structure Vw (T : Tb) (H H2 : Hp) : Prop where
  len : H2.length = T.length
  row : ∀ (j : Nat) (ob2 : OB), H2[j]? = some ob2 → ∃ i g ob, T[j]? = some (ob2.g, i, g) ∧ H[i]? = some ob ∧ ob.g = g ∧ ob2.e = ob.e ∧ ob2.k = ob.k ∧ ob2.fz = ob.fz ∧ ob2.es.length = ob.es.length ∧
    ∀ (n : Nat) (e2 : AV), ob2.es[n]? = some e2 → ∃ e, ob.es[n]? = some e ∧ rnR T e2.cells = some e.cells
  inj : ∀ (j j' g2 i g g2' g' : Nat), T[j]? = some (g2, i, g) → T[j']? = some (g2', i, g') → j = j'
theorem Own.view {B : Bd} {w0 w : World} {F0 F : Fz} {O : Ow} {H H2 : Hp} {T : Tb} (h : Own B w0 F0 F O H w) (v : Vw T H H2) : ∃ O2, Own B w0 F0 F O2 H2 w ∧ TO T O O2 := by
  have hto : TO T O (T.map fun p => ⟨(O.getD p.2.1 ⟨0, 0, 0, 0⟩).b, (O.getD p.2.1 ⟨0, 0, 0, 0⟩).C, p.1, (O.getD p.2.1 ⟨0, 0, 0, 0⟩).k⟩) := fun j g2 i g ht => by
    have hj : j < H2.length := by rw [v.len]; exact (List.getElem?_eq_some_iff.1 ht).1
    obtain ⟨i', g', ob, h1, h2, h3, _⟩ := v.row j H2[j] (List.getElem?_eq_getElem hj)
    rw [ht] at h1
    simp only [Option.some.injEq, Prod.mk.injEq] at h1
    obtain ⟨e1, e2, e3⟩ := h1
    subst e2; subst e3
    obtain ⟨d, hd, r⟩ := h.get h2
    refine ⟨d, hd, by rw [r.hg, h3], ?_⟩
    rw [List.getElem?_map, ht]
    simp [List.getD_eq_getElem?_getD, hd]
  refine ⟨_, ⟨by simp [v.len], fun j d2 ob2 hd2 ho2 => ?_, fun j j' d d' hd hd' hb => ?_, h.fr, h.le, h.new, h.below, h.size, h.kept, h.kb⟩, hto⟩
  · obtain ⟨i, g, ob, h1, h2, h3, h4, h5, h6, h7, h8⟩ := v.row j ob2 ho2
    obtain ⟨d, q1, q2, q3⟩ := hto j ob2.g i g h1
    rw [hd2] at q3
    cases q3
    have r := h.row i d ob q1 h2
    obtain ⟨cur, c1, c2, c3⟩ := r.cur
    refine ⟨rfl, by rw [h5]; exact r.hk, r.hB, ⟨cur, by rw [h4, h5, h7]; exact c1, by rw [h4, h5]; exact c2, fun n c e2 a2 he ha => ?_⟩, r.hC, by rw [h4, h7]; exact r.hl, fun e2 he2 => ?_, fun e2 he2 a2 ha2 => ?_, by rw [h6, h5]; exact r.hf, by rw [h6, h7]; exact r.hz⟩
    · obtain ⟨e, g1, g2⟩ := h8 n e2 he
      obtain ⟨a, g3, g4⟩ := (rnR_at g2).2 c a2 ha
      obtain ⟨y, g5, g6⟩ := c3 n c e a g1 g3
      exact ⟨y, by rw [h5]; exact g5, g6.rnD hto g4⟩
    · obtain ⟨n, hn, rfl⟩ := List.getElem_of_mem he2
      obtain ⟨e, g1, g2⟩ := h8 n _ (List.getElem?_eq_getElem hn)
      rw [(rnR_at g2).1, h5]
      exact r.hn e (List.mem_of_getElem? g1)
    · obtain ⟨n, hn, rfl⟩ := List.getElem_of_mem he2
      obtain ⟨e, g1, g2⟩ := h8 n _ (List.getElem?_eq_getElem hn)
      obtain ⟨c, hc, rfl⟩ := List.getElem_of_mem ha2
      obtain ⟨a, g3, g4⟩ := (rnR_at g2).2 c _ (List.getElem?_eq_getElem hc)
      have ha := r.h1 e (List.mem_of_getElem? g1) a (List.mem_of_getElem? g3)
      cases hq : ob2.es[n].cells[c] with
      | agg cs => rw [hq] at g4; cases g4
      | tup cs => rw [hq] at g4; cases g4
      | unk => rw [hq] at g4; cases g4; cases ha
      | _ => rfl
  · have at2 : ∀ {j : Nat} {d : Ds}, (T.map fun p => (⟨(O.getD p.2.1 ⟨0, 0, 0, 0⟩).b, (O.getD p.2.1 ⟨0, 0, 0, 0⟩).C, p.1, (O.getD p.2.1 ⟨0, 0, 0, 0⟩).k⟩ : Ds))[j]? = some d → ∃ g2 i g d0, T[j]? = some (g2, i, g) ∧ O[i]? = some d0 ∧ d0.b = d.b := fun {j d} hd => by
      rw [List.getElem?_map] at hd
      obtain ⟨⟨g2, i, g⟩, ht, he⟩ := Option.map_eq_some_iff.1 hd
      obtain ⟨d0, q1, _, _⟩ := hto j g2 i g ht
      refine ⟨g2, i, g, d0, ht, q1, ?_⟩
      rw [← he]
      simp [List.getD_eq_getElem?_getD, q1]
    obtain ⟨g2, i, g, d0, t1, o1, e1⟩ := at2 hd
    obtain ⟨g2', i', g', d0', t2, o2, e2⟩ := at2 hd'
    have : i = i' := h.inj i i' d0 d0' o1 o2 (by rw [e1, e2, hb])
    subst this
    exact v.inj j j' _ _ _ _ _ t1 t2
/-- Rows that were there at first are there, or of another generation. -/
def Bas (m : Nat) (T : Tb) (H : Hp) : Prop := ∀ j, j < m → ∃ g2 i g, T[j]? = some (g2, i, g) ∧ ((i = j ∧ g2 = g) ∨ ∃ ob, H[j]? = some ob ∧ ob.g < g2)
/-- Of some rows the last elements are forgotten. -/
def Ct (H H1 : Hp) : Prop := H1.length = H.length ∧ ∀ (j : Nat) (ob1 : OB), H1[j]? = some ob1 → ∃ ob, H[j]? = some ob ∧ (ob1 = ob ∨ (ob.e ≠ mapE ∧ ∃ n, ob.fz ≤ n ∧ n ≤ ob.es.length ∧ ob1 = ⟨ob.e, ob.k, ob.es.take n, ob.g, ob.fz⟩))
theorem Own.ct {B : Bd} {w0 w : World} {F0 F : Fz} {O : Ow} {H H1 : Hp} (h : Own B w0 F0 F O H w) (hc : Ct H H1) : Own B w0 F0 F O H1 w := by
  refine ⟨by rw [h.len, hc.1], fun j d ob1 hd ho => ?_, h.inj, h.fr, h.le, h.new, h.below, h.size, h.kept, h.kb⟩
  obtain ⟨ob, h1, h2⟩ := hc.2 j ob1 ho
  have r := h.row j d ob hd h1
  rcases h2 with rfl | ⟨ne, n, hf, hn, rfl⟩
  · exact r
  · obtain ⟨cur, c1, c2, c3⟩ := r.curc ne
    refine ⟨r.hg, r.hk, r.hB, ⟨cur, .inl ⟨ne, c1⟩, fun _ => c2, fun m c e a he ha => ?_⟩, r.hC, fun _ => ?_, fun e he => r.hn e (List.mem_of_mem_take he), fun e he => r.h1 e (List.mem_of_mem_take he), r.hf, ?_⟩
    · rw [List.getElem?_take] at he
      split at he
      · exact c3 m c e a he ha
      · cases he
    · have := r.hl ne
      simp only [List.length_take]; omega
    · simp only [List.length_take]; omega
theorem Ct.set {H : Hp} {i n : Nat} {ob : OB} (hi : H[i]? = some ob) (ne : (ob.e == 4000000000) = false) (hf : ob.fz ≤ n) (hn : n ≤ ob.es.length) : Ct H (H.set i ⟨ob.e, ob.k, ob.es.take n, ob.g, ob.fz⟩) := by
  refine ⟨by simp, fun j ob1 hj => ?_⟩
  by_cases hij : i = j
  · subst hij
    rw [List.getElem?_set_self (List.getElem?_eq_some_iff.1 hi).1] at hj
    cases hj
    exact ⟨ob, hi, .inr ⟨by simpa using ne, n, hf, hn, rfl⟩⟩
  · rw [List.getElem?_set_ne hij] at hj
    exact ⟨ob1, hj, .inl rfl⟩
/-- A frame of which less is told. -/
inductive Fg (m : Nat) : St → St → Prop
  | same {st st2 : St} (len : st.s.length = st2.s.length) (slots : ∀ (i : Nat) (b : AV), st2.s[i]? = some b → b = .unk ∨ st.s[i]? = some b) (hH : st.H = st2.H) : Fg m st st2
  | cut {st st2 : St} (H1 : Hp) (hc : Ct st.H H1) (h : Fg m ⟨st.s, H1⟩ st2) : Fg m st st2
  | view {st st2 : St} (T : Tb) (len : st.s.length = st2.s.length) (slots : ∀ (i : Nat) (b : AV), st2.s[i]? = some b → b = .unk ∨ ∃ a, st.s[i]? = some a ∧ rnB T b = some a) (v : Vw T st.H st2.H) (hb : Bas m T st.H) : Fg m st st2
theorem Fg.refl (m : Nat) (st : St) : Fg m st st := .same rfl (fun i b h => .inr h) rfl
theorem leO_view {B : Bd} {w0 w : World} {F0 F : Fz} {O1 O O2 : Ow} {H : Hp} {T : Tb} {m : Nat} (own : Own B w0 F0 F O H w) (hm : O1.length ≤ m) (h : O1.le O) (hto : TO T O O2) (hb : Bas m T H) : O1.le O2 := fun j d hd => by
  have hj : j < O1.length := (List.getElem?_eq_some_iff.1 hd).1
  obtain ⟨d', e1, e2, e3⟩ := h j d hd
  obtain ⟨g2, i, g, t1, t2⟩ := hb j (by omega)
  obtain ⟨d0, q1, q2, q3⟩ := hto j g2 i g t1
  rcases t2 with ⟨rfl, rfl⟩ | ⟨ob, k1, k2⟩
  · rw [e1] at q1
    cases q1
    refine ⟨_, q3, by rw [← q2]; exact e2, fun hh => ?_⟩
    have := e3 (by rw [q2]; exact hh)
    subst this
    rw [← q2]
  · have r := own.row j d' ob e1 k1
    have := r.hg
    exact ⟨_, q3, by show d.g ≤ g2; omega, fun hh => by have hh' : d.g = g2 := hh; omega⟩
theorem Rl.forget {G : Nat → AV} {B : Bd} {w0 : World} {F0 F1 : Fz} {O1 : Ow} {F : Fz} {O : Ow} {st st2 : St} {a : Act} {w : World} {m : Nat} (h : Rl G B w0 F0 F1 O1 F O st a w) (hm : O1.length ≤ m) (hf : Fg m st st2) : ∃ O', Rl G B w0 F0 F1 O1 F O' st2 a w := by
  induction hf generalizing O with
  | cut H1 hc hf ih => exact ih ⟨h.own.ct hc, h.size, h.slot, h.defs, h.gok, h.leF, h.leO⟩
  | same len slots hH =>
    rename_i st st2
    refine ⟨O, by rw [← hH]; exact h.own, by rw [h.size, len], fun t => ?_, h.defs, h.gok, h.leF, h.leO⟩
    rw [List.getD_eq_getElem?_getD]
    cases hq : st2.s[t]? with
    | none =>
      have h0 : st.s[t]? = none := by rw [List.getElem?_eq_none_iff] at hq ⊢; rw [len]; exact hq
      have := h.slot t
      rw [List.getD_eq_getElem?_getD, h0] at this
      exact this
    | some b =>
      rcases slots t b hq with rfl | h1
      · exact .unk _
      · have := h.slot t
        rw [List.getD_eq_getElem?_getD, h1] at this
        exact this
  | view T len slots v hb =>
    rename_i st st2
    obtain ⟨O2, own, hto⟩ := h.own.view v
    refine ⟨O2, own, by rw [h.size, len], fun t => ?_, h.defs, h.gok, h.leF, leO_view h.own hm h.leO hto hb⟩
    rw [List.getD_eq_getElem?_getD]
    cases hq : st2.s[t]? with
    | none =>
      have h0 : st.s[t]? = none := by rw [List.getElem?_eq_none_iff] at hq ⊢; rw [len]; exact hq
      have := h.slot t
      rw [List.getD_eq_getElem?_getD, h0] at this
      exact this.rnB hto rfl
    | some b =>
      rcases slots t b hq with rfl | ⟨a0, h1, h2⟩
      · exact .unk _
      · have hs := h.slot t
        rw [List.getD_eq_getElem?_getD, h1] at hs
        exact hs.rnB hto h2
/-- A row of the call's own is written no more, up to n. -/
theorem Own.freezeN {B : Bd} {w0 w : World} {F0 F : Fz} {O : Ow} {H : Hp} (h : Own B w0 F0 F O H w) {i : Nat} {ob : OB} (hi : H[i]? = some ob) (ne : ob.e ≠ mapE) {n : Nat} (hn : n ≤ ob.es.length) (hp : (ob.es.take n).all AV.isP = true) :
    ∃ F', Own B w0 F0 F' O (H.set i { ob with fz := max ob.fz n }) w ∧ F.le F' ∧ ∀ x n', n' ≤ n → VR F O x (.ol i ob.g n') → PV F' x (.sl ob.k (ob.es.take n')) := by
  obtain ⟨d, hd, r⟩ := h.get hi
  have hy : VR F O (.slice (some ⟨d.b, 0, none⟩) n d.C) (.ol i ob.g n) := .ol _ i ob.g _ d hd (by rw [r.hg]; omega) ⟨_, _, rfl⟩ fun _ => ⟨Nat.le_trans hn (r.hl ne), rfl⟩
  obtain ⟨F', p, o, l⟩ := h.freeze hi ne hn hp hy
  refine ⟨F', o, l, fun x n' hn' hx => ?_⟩
  have hxv : n' ≤ d.C ∧ x = .slice (some ⟨d.b, 0, none⟩) n' d.C := by
    cases hx with
    | p h => cases h
    | ol x i g n d' hd' hg h1 h =>
      rw [hd] at hd'
      cases hd'
      exact h r.hg.symm
  rw [hxv.2]
  cases p with
  | sl A m cap k es hm hc hmx hk h1 b o' hA f hf hh =>
    refine .sl _ n' d.C ob.k (ob.es.take n') (by simp; omega) hxv.1 r.hC (fun e he => r.hn e (List.mem_of_mem_take he)) (fun e he => r.h1 e (List.mem_of_mem_take he)) b o' (fun h0 => by rw [hA (by omega)]) f (fun i j h1 h2 => hf i j (by omega) h2) (fun i j e a he ha => hh i j e a ?_ ha)
    rw [List.getElem?_take] at he ⊢
    split at he
    · rw [if_pos (by omega)]; exact he
    · cases he
theorem Own.recell {B : Bd} {w0 w : World} {F0 F : Fz} {O : Ow} {H H2 : Hp} (h : Own B w0 F0 F O H w) (hl : H2.length = H.length)
    (hr : ∀ (j : Nat) (ob2 : OB), H2[j]? = some ob2 → ∃ ob, H[j]? = some ob ∧ ob2.e = ob.e ∧ ob2.k = ob.k ∧ ob2.g = ob.g ∧ ob2.fz = ob.fz ∧ ob2.es.length = ob.es.length ∧ ∀ (n : Nat) (e2 : AV), ob2.es[n]? = some e2 → ∃ e, ob.es[n]? = some e ∧ e2.cells.length = e.cells.length ∧
      ∀ (c : Nat) (a2 : AV), e2.cells[c]? = some a2 → ∃ a, e.cells[c]? = some a ∧ (a.one = true → a2.one = true) ∧ ∀ x, VR F O x a → VR F O x a2) : Own B w0 F0 F O H2 w := by
  refine ⟨by rw [h.len, hl], fun j d ob2 hd ho2 => ?_, h.inj, h.fr, h.le, h.new, h.below, h.size, h.kept, h.kb⟩
  obtain ⟨ob, h1, h2, h3, h4, h5, h6, h7⟩ := hr j ob2 ho2
  have r := h.row j d ob hd h1
  obtain ⟨cur, c1, c2, c3⟩ := r.cur
  refine ⟨by rw [h4]; exact r.hg, by rw [h3]; exact r.hk, r.hB, ⟨cur, by rw [h2, h3, h6]; exact c1, by rw [h2, h3]; exact c2, fun n c e2 a2 he ha => ?_⟩, r.hC, by rw [h2, h6]; exact r.hl, fun e2 he2 => ?_, fun e2 he2 a2 ha2 => ?_, by rw [h5, h3]; exact r.hf, by rw [h5, h6]; exact r.hz⟩
  · obtain ⟨e, g1, g2, g3⟩ := h7 n e2 he
    obtain ⟨a, g4, g5, g6⟩ := g3 c a2 ha
    obtain ⟨y, q1, q2⟩ := c3 n c e a g1 g4
    exact ⟨y, by rw [h3]; exact q1, g6 y q2⟩
  · obtain ⟨n, hn, rfl⟩ := List.getElem_of_mem he2
    obtain ⟨e, g1, g2, g3⟩ := h7 n _ (List.getElem?_eq_getElem hn)
    rw [g2, h3]
    exact r.hn e (List.mem_of_getElem? g1)
  · obtain ⟨n, hn, rfl⟩ := List.getElem_of_mem he2
    obtain ⟨e, g1, g2, g3⟩ := h7 n _ (List.getElem?_eq_getElem hn)
    obtain ⟨c, hc, rfl⟩ := List.getElem_of_mem ha2
    obtain ⟨a, g4, g5, g6⟩ := g3 c _ (List.getElem?_eq_getElem hc)
    exact g5 (r.h1 e (List.mem_of_getElem? g1) a (List.mem_of_getElem? g4))
inductive ObSt (p : Prop) (a b : Prop) : Prop
  | live (h : p) (hk : a) : ObSt p a b
  | stale (hk : b) : ObSt p a b
/-- What becomes of a cell when a row is frozen. -/
def FzR (i g kk n : Nat) (es : List AV) (a b : AV) : Prop := b = a ∨ ∃ n', n' ≤ n ∧ a = .ol i g n' ∧ b = .sl kk (es.take n')
def fcC (i g kk n : Nat) (es : List AV) (un : Bool) (a : AV) (k : AV → Prop) : Prop :=
  match a with
  | .ol j g' n' => (match Nat.beq j i with
    | true => ObSt (g' = g ∧ n' ≤ n) (ObU (es.take n') (fun es' => k (.sl kk es'))) (match un with | true => k .unk | false => False)
    | false => k (.ol j g' n'))
  | a => k a
theorem fcC_ok {i g kk n : Nat} {es : List AV} {un : Bool} {a : AV} {k : AV → Prop} (h : fcC i g kk n es un a k) : ∃ b, k b ∧ ((un = true ∧ b = .unk) ∨ FzR i g kk n es a b) := by
  cases a with
  | ol j g' n' =>
    simp only [fcC] at h
    split at h
    · rename_i hb
      have := Nat.eq_of_beq_eq_true hb
      subst this
      rcases h with ⟨⟨rfl, hn⟩, es', rfl, h⟩ | h
      · exact ⟨_, h, .inr (.inr ⟨n', hn, rfl, rfl⟩)⟩
      · split at h
        · exact ⟨_, h, .inl ⟨rfl, rfl⟩⟩
        · exact h.elim
    · exact ⟨_, h, .inr (.inl rfl)⟩
  | _ => exact ⟨_, h, .inr (.inl rfl)⟩
def fcL (i g kk n : Nat) (es : List AV) : List AV → (List AV → Prop) → Prop
  | [], k => k []
  | a :: as, k => fcC i g kk n es false a (fun b => fcL i g kk n es as (fun bs => k (b :: bs)))
theorem fcL_ok {i g kk n : Nat} {es : List AV} : ∀ {as : List AV} {k : List AV → Prop}, fcL i g kk n es as k → ∃ bs, k bs ∧ bs.length = as.length ∧ ∀ (c : Nat) (b : AV), bs[c]? = some b → ∃ a, as[c]? = some a ∧ FzR i g kk n es a b
  | [], _, h => ⟨[], h, rfl, fun c b hb => by simp at hb⟩
  | a :: as, k, h => by
    obtain ⟨b, h1, h2⟩ := fcC_ok h
    obtain ⟨bs, h3, h4, h5⟩ := fcL_ok h1
    refine ⟨b :: bs, h3, by simp [h4], fun c x hx => ?_⟩
    cases c with
    | zero => simp at hx; subst hx; exact ⟨a, rfl, h2.resolve_left (by simp)⟩
    | succ c => obtain ⟨y, q1, q2⟩ := h5 c x (by simpa using hx); exact ⟨y, by simpa using q1, q2⟩
def fcB (i g kk n : Nat) (es : List AV) (a : AV) (k : AV → Prop) : Prop :=
  match a with
  | .agg cs => ObSt True (fcL i g kk n es cs (fun cs' => k (.agg cs'))) (k .unk)
  | .tup cs => k (.tup cs)
  | .fn f cs => k (.fn f cs)
  | a => fcC i g kk n es true a k
theorem FzR.vr {F F' : Fz} {O : Ow} {i g kk n : Nat} {es : List AV} {a b : AV} (h : FzR i g kk n es a b) (hF : F.le F') (hz : ∀ x n', n' ≤ n → VR F O x (.ol i g n') → PV F' x (.sl kk (es.take n'))) {x : Value} (hx : VR F O x a) : VR F' O x b := by
  rcases h with rfl | ⟨n', h1, rfl, rfl⟩
  · exact hx.mono hF (Ow.le_refl O)
  · exact .p (hz x n' h1 hx)
theorem FzR.one {i g kk n : Nat} {es : List AV} {a b : AV} (h : FzR i g kk n es a b) (ha : a.one = true) : b.one = true := by
  rcases h with rfl | ⟨n', h1, rfl, rfl⟩
  · exact ha
  · rfl
theorem fcB_ok {i g kk n : Nat} {es : List AV} {a : AV} {k : AV → Prop} (h : fcB i g kk n es a k) : ∃ b, k b ∧ ∀ (F F' : Fz) (O : Ow), F.le F' → (∀ x n', n' ≤ n → VR F O x (.ol i g n') → PV F' x (.sl kk (es.take n'))) → ∀ x, VR F O x a → VR F' O x b := by
  have cell : fcC i g kk n es true a k → ∃ b, k b ∧ ∀ (F F' : Fz) (O : Ow), F.le F' → (∀ x n', n' ≤ n → VR F O x (.ol i g n') → PV F' x (.sl kk (es.take n'))) → ∀ x, VR F O x a → VR F' O x b := fun h => by
    obtain ⟨b, h1, h2⟩ := fcC_ok h
    refine ⟨b, h1, fun F F' O hF hz x hx => ?_⟩
    rcases h2 with ⟨_, rfl⟩ | h2
    · exact .unk x
    · exact h2.vr hF hz hx
  cases a with
  | agg cs =>
    rcases h with ⟨_, h⟩ | h
    · obtain ⟨bs, h1, h2, h3⟩ := fcL_ok h
      refine ⟨_, h1, fun F F' O hF hz x hx => ?_⟩
      have cells : ∀ {ys : List Value}, (∀ (i : Nat) (c : Value) (a : AV), ys[i]? = some c → cs[i]? = some a → VR F O c a) → ∀ (i : Nat) (c : Value) (b : AV), ys[i]? = some c → bs[i]? = some b → VR F' O c b := fun hv i c b hc hb => by
        obtain ⟨a, q1, q2⟩ := h3 i b hb
        exact q2.vr hF hz (hv i c a hc q1)
      have one : (∀ a ∈ cs, AV.one a = true) → ∀ b ∈ bs, AV.one b = true := fun ho b hb => by
        obtain ⟨i, hi, rfl⟩ := List.getElem_of_mem hb
        obtain ⟨a, q1, q2⟩ := h3 i _ (List.getElem?_eq_getElem hi)
        exact q2.one (ho a (List.mem_of_getElem? q1))
      cases hx with
      | p hx => cases hx with | agg ys _ hl h1 h => exact .agg ys bs (by rw [hl, h2]) (one h1) (cells fun i c a hc ha => .p (h i c a hc ha))
      | agg ys _ hl h1 h => exact .agg ys bs (by rw [hl, h2]) (one h1) (cells h)
    · exact ⟨_, h, fun F F' O hF hz x hx => .unk x⟩
  | tup cs => exact ⟨_, h, fun F F' O hF hz x hx => hx.mono hF (Ow.le_refl O)⟩
  | fn f cs => exact ⟨_, h, fun F F' O hF hz x hx => hx.mono hF (Ow.le_refl O)⟩
  | _ => exact cell h
def fcS (i g kk n : Nat) (es : List AV) : List AV → (List AV → Prop) → Prop
  | [], k => k []
  | a :: as, k => fcB i g kk n es a (fun b => fcS i g kk n es as (fun bs => k (b :: bs)))
theorem fcS_ok {i g kk n : Nat} {es : List AV} : ∀ {as : List AV} {k : List AV → Prop}, fcS i g kk n es as k → ∃ bs, k bs ∧ bs.length = as.length ∧ ∀ (c : Nat) (b : AV), bs[c]? = some b → ∃ a, as[c]? = some a ∧ ∀ (F F' : Fz) (O : Ow), F.le F' → (∀ x n', n' ≤ n → VR F O x (.ol i g n') → PV F' x (.sl kk (es.take n'))) → ∀ x, VR F O x a → VR F' O x b
  | [], _, h => ⟨[], h, rfl, fun c b hb => by simp at hb⟩
  | a :: as, k, h => by
    obtain ⟨b, h1, h2⟩ := fcB_ok h
    obtain ⟨bs, h3, h4, h5⟩ := fcS_ok h1
    refine ⟨b :: bs, h3, by simp [h4], fun c x hx => ?_⟩
    cases c with
    | zero => simp at hx; subst hx; exact ⟨a, rfl, h2⟩
    | succ c => obtain ⟨y, q1, q2⟩ := h5 c x (by simpa using hx); exact ⟨y, by simpa using q1, q2⟩
/-- The elements of a row that is written out. -/
def fcE (i g kk n : Nat) (es : List AV) : List AV → (List AV → Prop) → Prop
  | [], k => k []
  | a :: as, k => (match a with
    | .agg cs => fcL i g kk n es cs (fun cs' => fcE i g kk n es as (fun bs => k (.agg cs' :: bs)))
    | a => fcE i g kk n es as (fun bs => k (a :: bs)))
theorem fcE_ok {i g kk n : Nat} {es : List AV} : ∀ {as : List AV} {k : List AV → Prop}, fcE i g kk n es as k → ∃ bs, k bs ∧ bs.length = as.length ∧ ∀ (c : Nat) (b : AV), bs[c]? = some b → ∃ a, as[c]? = some a ∧ b.cells.length = a.cells.length ∧ ∀ (c : Nat) (y : AV), b.cells[c]? = some y → ∃ x, a.cells[c]? = some x ∧ FzR i g kk n es x y
  | [], _, h => ⟨[], h, rfl, fun c b hb => by simp at hb⟩
  | a :: as, k, h => by
    have same : fcE i g kk n es as (fun bs => k (a :: bs)) → ∃ bs, k bs ∧ bs.length = (a :: as).length ∧ ∀ (c : Nat) (b : AV), bs[c]? = some b → ∃ a', (a :: as)[c]? = some a' ∧ b.cells.length = a'.cells.length ∧ ∀ (c : Nat) (y : AV), b.cells[c]? = some y → ∃ x, a'.cells[c]? = some x ∧ FzR i g kk n es x y := fun h => by
      obtain ⟨bs, h3, h4, h5⟩ := fcE_ok h
      refine ⟨a :: bs, h3, by simp [h4], fun c x hx => ?_⟩
      cases c with
      | zero => simp at hx; subst hx; exact ⟨a, rfl, rfl, fun c y hy => ⟨y, hy, .inl rfl⟩⟩
      | succ c => obtain ⟨y, q1, q2⟩ := h5 c x (by simpa using hx); exact ⟨y, by simpa using q1, q2⟩
    cases a with
    | agg cs =>
      simp only [fcE] at h
      obtain ⟨cs', h1, h2, h3⟩ := fcL_ok h
      obtain ⟨bs, h4, h5, h6⟩ := fcE_ok h1
      refine ⟨.agg cs' :: bs, h4, by simp [h5], fun c x hx => ?_⟩
      cases c with
      | zero => simp at hx; subst hx; exact ⟨_, rfl, h2, h3⟩
      | succ c => obtain ⟨y, q1, q2⟩ := h6 c x (by simpa using hx); exact ⟨y, by simpa using q1, q2⟩
    | _ => exact same h
/-- The rows: those of cv are looked through. -/
def fcH (i g kk n : Nat) (es : List AV) : Hp → List Bool → (Hp → Prop) → Prop
  | H, [], k => k H
  | [], _ :: _, k => k []
  | ob :: H, c :: cs, k => (match c with
    | true => (match ob with | ⟨e, kk', es', g', fz⟩ => fcE i g kk n es es' (fun es2 => fcH i g kk n es H cs (fun H' => k (⟨e, kk', es2, g', fz⟩ :: H'))))
    | false => fcH i g kk n es H cs (fun H' => k (ob :: H')))
theorem fcH_ok {i g kk n : Nat} {es : List AV} : ∀ {cs : List Bool} {H : Hp} {k : Hp → Prop}, fcH i g kk n es H cs k → ∃ H2, k H2 ∧ H2.length = H.length ∧ ∀ (j : Nat) (ob2 : OB), H2[j]? = some ob2 → ∃ ob, H[j]? = some ob ∧ ob2.e = ob.e ∧ ob2.k = ob.k ∧ ob2.g = ob.g ∧ ob2.fz = ob.fz ∧ ob2.es.length = ob.es.length ∧
      ∀ (c : Nat) (b : AV), ob2.es[c]? = some b → ∃ a, ob.es[c]? = some a ∧ b.cells.length = a.cells.length ∧ ∀ (c : Nat) (y : AV), b.cells[c]? = some y → ∃ x, a.cells[c]? = some x ∧ FzR i g kk n es x y
  | [], H, k, h => ⟨H, by cases H <;> exact h, rfl, fun j ob2 h => ⟨ob2, h, rfl, rfl, rfl, rfl, rfl, fun c b hb => ⟨b, hb, rfl, fun c y hy => ⟨y, hy, .inl rfl⟩⟩⟩⟩
  | _ :: _, [], k, h => ⟨[], h, rfl, fun j ob2 h => by simp at h⟩
  | true :: cs, ⟨e, kk', es', g', fz⟩ :: H, k, h => by
    simp only [fcH] at h
    obtain ⟨es2, h1, h2, h3⟩ := fcE_ok h
    obtain ⟨H', h4, h5, h6⟩ := fcH_ok h1
    refine ⟨_, h4, by simp [h5], fun j ob2 hj => ?_⟩
    cases j with
    | zero => simp at hj; subst hj; exact ⟨_, rfl, rfl, rfl, rfl, rfl, h2, h3⟩
    | succ j => obtain ⟨ob, q1, q2⟩ := h6 j ob2 (by simpa using hj); exact ⟨ob, by simpa using q1, q2⟩
  | false :: cs, ob :: H, k, h => by
    simp only [fcH] at h
    obtain ⟨H', h4, h5, h6⟩ := fcH_ok h
    refine ⟨_, h4, by simp [h5], fun j ob2 hj => ?_⟩
    cases j with
    | zero => simp at hj; subst hj; exact ⟨ob, rfl, rfl, rfl, rfl, rfl, rfl, fun c b hb => ⟨b, hb, rfl, fun c y hy => ⟨y, hy, .inl rfl⟩⟩⟩
    | succ j => obtain ⟨ob', q1, q2⟩ := h6 j ob2 (by simpa using hj); exact ⟨ob', by simpa using q1, q2⟩
/-- A row is frozen, up to n; the rows of cv are looked through. -/
def fzK (i n : Nat) (cv : List Bool) (s : List AV) (H : Hp) (k : St → Prop) : Prop :=
  rK H i (fun ob => match ob with | ⟨e, kk, es, g, fz⟩ => (match Nat.beq e 4000000000 with | true => False | false => ObN (n ≤ es.length) (ObN ((es.take n).all AV.isP = true) (rpK H i ⟨e, kk, es, g, max fz n⟩ (fun H1 => fcS i g kk n es s (fun s' => fcH i g kk n es H1 cv (fun H' => k ⟨s', H'⟩)))))))
theorem fzK_ok {G : Nat → AV} {B : Bd} {w0 : World} {F0 F1 : Fz} {O1 : Ow} {F : Fz} {O : Ow} {s : List AV} {H : Hp} {a : Act} {w : World} {i n : Nat} {cv : List Bool} {k : St → Prop} (hk : fzK i n cv s H k) (h : Rl G B w0 F0 F1 O1 F O ⟨s, H⟩ a w) : ∃ st2 F', k st2 ∧ Rl G B w0 F0 F1 O1 F' O st2 a w := by
  obtain ⟨ob, h1, h2⟩ := rK_ok hk
  obtain ⟨e, kk, es, g, fz⟩ := ob
  simp only at h2
  split at h2
  · exact h2.elim
  rename_i hbe
  have hne : (e == 4000000000) = false := (beqN e _).trans hbe
  obtain ⟨hn, hp, h2⟩ := h2
  rw [rpK_eq] at h2
  obtain ⟨s', h3, h4, h5⟩ := fcS_ok h2
  obtain ⟨H', h6, h7, h8⟩ := fcH_ok h3
  obtain ⟨F', own, lF, hz⟩ := h.own.freezeN h1 (by simpa using hne) hn hp
  refine ⟨_, F', h6, ?_, by rw [h.size]; exact h4.symm, fun t => ?_, h.defs, h.gok.mono lF, Fz.le_trans h.leF lF, h.leO⟩
  · refine own.recell (by simpa using h7) fun j ob2 hj => ?_
    obtain ⟨ob1, q1, q2, q3, q4, q5, q6, q7⟩ := h8 j ob2 hj
    refine ⟨ob1, q1, q2, q3, q4, q5, q6, fun c e2 he => ?_⟩
    obtain ⟨e1, p1, p2, p3⟩ := q7 c e2 he
    refine ⟨e1, p1, p2, fun c a2 ha => ?_⟩
    obtain ⟨a1, p4, p5⟩ := p3 c a2 ha
    refine ⟨a1, p4, p5.one, fun x hx => p5.vr (Fz.le_refl F') (fun x n' hn' hx => ?_) hx⟩
    -- the place in the row is the same as before
    have hx' : VR F O x (.ol i g n') := by
      cases hx with
      | p h => cases h
      | ol _ _ _ _ d hd hg h1 h => exact .ol x i g n' d hd hg h1 h
    exact hz x n' hn' hx'
  · rw [List.getD_eq_getElem?_getD]
    cases hq : s'[t]? with
    | none =>
      have h0 : s[t]? = none := by rw [List.getElem?_eq_none_iff] at hq ⊢; omega
      have := h.slot t
      rw [List.getD_eq_getElem?_getD] at this
      simp only [h0] at this
      exact this.mono lF (Ow.le_refl O)
    | some b =>
      obtain ⟨a0, q1, q2⟩ := h5 t b hq
      have := h.slot t
      rw [List.getD_eq_getElem?_getD] at this
      simp only [q1] at this
      exact q2 F F' O lF hz _ this
/-- Nil slices as slices without elements. -/
def WkC (a b : AV) : Prop := b = a ∨ ∃ k, a = .nl k ∧ b = .sl k []
theorem WkC.vr {F : Fz} {O : Ow} {a b : AV} (h : WkC a b) {x : Value} (hx : VR F O x a) : VR F O x b := by
  rcases h with rfl | ⟨k, rfl, rfl⟩
  · exact hx
  · cases hx with
    | p h => cases h
    | nl k => exact .p (.sl none 0 0 k [] rfl (Nat.le_refl _) (Nat.zero_le _) (fun e he => by cases he) (fun e he => by cases he) 0 0 (fun h => absurd h (Nat.lt_irrefl _)) (fun _ _ => .bool false) (fun i j hi => absurd hi (Nat.not_lt_zero _)) (fun i j e a he => by simp at he))
theorem WkC.one {a b : AV} (h : WkC a b) (ha : a.one = true) : b.one = true := by
  rcases h with rfl | ⟨k, rfl, rfl⟩
  · exact ha
  · rfl
def nlc (a : AV) (k : AV → Prop) : Prop :=
  match a with
  | .nl j => k (.sl j [])
  | a => k a
theorem nlc_ok {a : AV} {k : AV → Prop} (h : nlc a k) : ∃ b, k b ∧ WkC a b := by
  cases a with
  | nl j => exact ⟨_, h, .inr ⟨j, rfl, rfl⟩⟩
  | _ => exact ⟨_, h, .inl rfl⟩
def nlsK : List Bool → List AV → (List AV → Prop) → Prop
  | [], s, k => k s
  | _ :: _, [], k => k []
  | b :: bs, a :: s, k => (match b with
    | true => nlc a (fun a' => nlsK bs s (fun s' => k (a' :: s')))
    | false => nlsK bs s (fun s' => k (a :: s')))
theorem nlsK_ok : ∀ {bs : List Bool} {s : List AV} {k : List AV → Prop}, nlsK bs s k → ∃ s', k s' ∧ s'.length = s.length ∧ ∀ (t : Nat) (b : AV), s'[t]? = some b → ∃ a, s[t]? = some a ∧ WkC a b
  | [], s, k, h => ⟨s, by cases s <;> exact h, rfl, fun t b hb => ⟨b, hb, .inl rfl⟩⟩
  | _ :: _, [], k, h => ⟨[], h, rfl, fun t b hb => by simp at hb⟩
  | true :: bs, a :: s, k, h => by
    simp only [nlsK] at h
    obtain ⟨b, h1, h2⟩ := nlc_ok h
    obtain ⟨s', h3, h4, h5⟩ := nlsK_ok h1
    refine ⟨_, h3, by simp [h4], fun t c hc => ?_⟩
    cases t with
    | zero => simp at hc; subst hc; exact ⟨a, rfl, h2⟩
    | succ t => obtain ⟨y, q1, q2⟩ := h5 t c (by simpa using hc); exact ⟨y, by simpa using q1, q2⟩
  | false :: bs, a :: s, k, h => by
    simp only [nlsK] at h
    obtain ⟨s', h3, h4, h5⟩ := nlsK_ok h
    refine ⟨_, h3, by simp [h4], fun t c hc => ?_⟩
    cases t with
    | zero => simp at hc; subst hc; exact ⟨a, rfl, .inl rfl⟩
    | succ t => obtain ⟨y, q1, q2⟩ := h5 t c (by simpa using hc); exact ⟨y, by simpa using q1, q2⟩
def nllK : List AV → (List AV → Prop) → Prop
  | [], k => k []
  | a :: s, k => nlc a (fun a' => nllK s (fun s' => k (a' :: s')))
theorem nllK_ok : ∀ {s : List AV} {k : List AV → Prop}, nllK s k → ∃ s', k s' ∧ s'.length = s.length ∧ ∀ (t : Nat) (b : AV), s'[t]? = some b → ∃ a, s[t]? = some a ∧ WkC a b
  | [], k, h => ⟨[], h, rfl, fun t b hb => by simp at hb⟩
  | a :: s, k, h => by
    simp only [nllK] at h
    obtain ⟨b, h1, h2⟩ := nlc_ok h
    obtain ⟨s', h3, h4, h5⟩ := nllK_ok h1
    refine ⟨_, h3, by simp [h4], fun t c hc => ?_⟩
    cases t with
    | zero => simp at hc; subst hc; exact ⟨a, rfl, h2⟩
    | succ t => obtain ⟨y, q1, q2⟩ := h5 t c (by simpa using hc); exact ⟨y, by simpa using q1, q2⟩
def nleK : List AV → (List AV → Prop) → Prop
  | [], k => k []
  | a :: es, k => (match a with
    | .agg cs => nllK cs (fun cs' => nleK es (fun es' => k (.agg cs' :: es')))
    | a => nleK es (fun es' => k (a :: es')))
theorem nleK_ok : ∀ {es : List AV} {k : List AV → Prop}, nleK es k → ∃ es', k es' ∧ es'.length = es.length ∧ ∀ (n : Nat) (b : AV), es'[n]? = some b → ∃ a, es[n]? = some a ∧ b.cells.length = a.cells.length ∧ ∀ (c : Nat) (y : AV), b.cells[c]? = some y → ∃ x, a.cells[c]? = some x ∧ WkC x y
  | [], k, h => ⟨[], h, rfl, fun t b hb => by simp at hb⟩
  | a :: es, k, h => by
    have same : nleK es (fun es' => k (a :: es')) → ∃ es', k es' ∧ es'.length = (a :: es).length ∧ ∀ (n : Nat) (b : AV), es'[n]? = some b → ∃ a', (a :: es)[n]? = some a' ∧ b.cells.length = a'.cells.length ∧ ∀ (c : Nat) (y : AV), b.cells[c]? = some y → ∃ x, a'.cells[c]? = some x ∧ WkC x y := fun h => by
      obtain ⟨es', h1, h2, h3⟩ := nleK_ok h
      refine ⟨_, h1, by simp [h2], fun n b hb => ?_⟩
      cases n with
      | zero => simp at hb; subst hb; exact ⟨a, rfl, rfl, fun c y hy => ⟨y, hy, .inl rfl⟩⟩
      | succ n => obtain ⟨y, q1, q2⟩ := h3 n b (by simpa using hb); exact ⟨y, by simpa using q1, q2⟩
    cases a with
    | agg cs =>
      simp only [nleK] at h
      obtain ⟨cs', h1, h2, h3⟩ := nllK_ok h
      obtain ⟨es', h4, h5, h6⟩ := nleK_ok h1
      refine ⟨_, h4, by simp [h5], fun n b hb => ?_⟩
      cases n with
      | zero => simp at hb; subst hb; exact ⟨_, rfl, h2, h3⟩
      | succ n => obtain ⟨y, q1, q2⟩ := h6 n b (by simpa using hb); exact ⟨y, by simpa using q1, q2⟩
    | _ => exact same h
def nlhK : List Bool → Hp → (Hp → Prop) → Prop
  | [], H, k => k H
  | _ :: _, [], k => k []
  | c :: cs, ob :: H, k => (match c with
    | true => (match ob with | ⟨e, kk, es, g, fz⟩ => nleK es (fun es' => nlhK cs H (fun H' => k (⟨e, kk, es', g, fz⟩ :: H'))))
    | false => nlhK cs H (fun H' => k (ob :: H')))
theorem nlhK_ok : ∀ {cs : List Bool} {H : Hp} {k : Hp → Prop}, nlhK cs H k → ∃ H2, k H2 ∧ H2.length = H.length ∧ ∀ (j : Nat) (ob2 : OB), H2[j]? = some ob2 → ∃ ob, H[j]? = some ob ∧ ob2.e = ob.e ∧ ob2.k = ob.k ∧ ob2.g = ob.g ∧ ob2.fz = ob.fz ∧ ob2.es.length = ob.es.length ∧
      ∀ (c : Nat) (b : AV), ob2.es[c]? = some b → ∃ a, ob.es[c]? = some a ∧ b.cells.length = a.cells.length ∧ ∀ (c : Nat) (y : AV), b.cells[c]? = some y → ∃ x, a.cells[c]? = some x ∧ WkC x y
  | [], H, k, h => ⟨H, by cases H <;> exact h, rfl, fun j ob2 h => ⟨ob2, h, rfl, rfl, rfl, rfl, rfl, fun c b hb => ⟨b, hb, rfl, fun c y hy => ⟨y, hy, .inl rfl⟩⟩⟩⟩
  | _ :: _, [], k, h => ⟨[], h, rfl, fun j ob2 h => by simp at h⟩
  | true :: cs, ⟨e, kk, es, g, fz⟩ :: H, k, h => by
    simp only [nlhK] at h
    obtain ⟨es2, h1, h2, h3⟩ := nleK_ok h
    obtain ⟨H', h4, h5, h6⟩ := nlhK_ok h1
    refine ⟨_, h4, by simp [h5], fun j ob2 hj => ?_⟩
    cases j with
    | zero => simp at hj; subst hj; exact ⟨_, rfl, rfl, rfl, rfl, rfl, h2, h3⟩
    | succ j => obtain ⟨ob, q1, q2⟩ := h6 j ob2 (by simpa using hj); exact ⟨ob, by simpa using q1, q2⟩
  | false :: cs, ob :: H, k, h => by
    simp only [nlhK] at h
    obtain ⟨H', h4, h5, h6⟩ := nlhK_ok h
    refine ⟨_, h4, by simp [h5], fun j ob2 hj => ?_⟩
    cases j with
    | zero => simp at hj; subst hj; exact ⟨ob, rfl, rfl, rfl, rfl, rfl, rfl, fun c b hb => ⟨b, hb, rfl, fun c y hy => ⟨y, hy, .inl rfl⟩⟩⟩
    | succ j => obtain ⟨ob', q1, q2⟩ := h6 j ob2 (by simpa using hj); exact ⟨ob', by simpa using q1, q2⟩
/-- In the slots of ss, and in the rows of cv, nil slices are taken as slices without elements. -/
def nlK (ss cv : List Bool) (s : List AV) (H : Hp) (k : St → Prop) : Prop := nlsK ss s (fun s' => nlhK cv H (fun H' => k ⟨s', H'⟩))
theorem nlK_ok {G : Nat → AV} {B : Bd} {w0 : World} {F0 F1 : Fz} {O1 : Ow} {F : Fz} {O : Ow} {s : List AV} {H : Hp} {a : Act} {w : World} {ss cv : List Bool} {k : St → Prop} (hk : nlK ss cv s H k) (h : Rl G B w0 F0 F1 O1 F O ⟨s, H⟩ a w) : ∃ st2, k st2 ∧ Rl G B w0 F0 F1 O1 F O st2 a w := by
  obtain ⟨s', h1, h2, h3⟩ := nlsK_ok hk
  obtain ⟨H', h4, h5, h6⟩ := nlhK_ok h1
  refine ⟨_, h4, ?_, by rw [h.size]; exact h2.symm, fun t => ?_, h.defs, h.gok, h.leF, h.leO⟩
  · refine h.own.recell h5 fun j ob2 hj => ?_
    obtain ⟨ob1, q1, q2, q3, q4, q5, q6, q7⟩ := h6 j ob2 hj
    refine ⟨ob1, q1, q2, q3, q4, q5, q6, fun c e2 he => ?_⟩
    obtain ⟨e1, p1, p2, p3⟩ := q7 c e2 he
    refine ⟨e1, p1, p2, fun c a2 ha => ?_⟩
    obtain ⟨a1, p4, p5⟩ := p3 c a2 ha
    exact ⟨a1, p4, p5.one, fun x hx => p5.vr hx⟩
  · rw [List.getD_eq_getElem?_getD]
    cases hq : s'[t]? with
    | none =>
      have h0 : s[t]? = none := by rw [List.getElem?_eq_none_iff] at hq ⊢; omega
      have := h.slot t
      rw [List.getD_eq_getElem?_getD] at this
      simp only [h0] at this
      exact this
    | some b =>
      obtain ⟨a0, q1, q2⟩ := h3 t b hq
      have := h.slot t
      rw [List.getD_eq_getElem?_getD] at this
      simp only [q1] at this
      exact q2.vr this
/-- On to the next piece of code: as it is, or with less told, or with a row frozen, or with nil slices taken as slices without elements. -/
inductive SeqP (m : Nat) (K : St → Prop) (st : St) : Prop
  | go (h : K st) : SeqP m K st
  | fg (st2 : St) (h : Fg m st st2) (hk : K st2) : SeqP m K st
  | fz (i n : Nat) (cv : List Bool) (h : fzK i n cv st.s st.H K) : SeqP m K st
  | nl (ss cv : List Bool) (h : nlK ss cv st.s st.H K) : SeqP m K st
  | oc (t i g n : Nat) (h0 : st.s.getD t undefA = .ol i g n) (hl : (live st.H i g).isSome = true) (h : ∀ c, n ≤ c → K ⟨st.s.set t (.oc i g n c), st.H⟩) : SeqP m K st
theorem ocK_ok {G : Nat → AV} {B : Bd} {w0 : World} {F0 F1 : Fz} {O1 : Ow} {F : Fz} {O : Ow} {st : St} {a : Act} {w : World} {t i g n : Nat} (h0 : st.s.getD t undefA = .ol i g n) (hl : (live st.H i g).isSome = true) (h : Rl G B w0 F0 F1 O1 F O st a w) : ∃ c, n ≤ c ∧ Rl G B w0 F0 F1 O1 F O ⟨st.s.set t (.oc i g n c), st.H⟩ a w := by
  obtain ⟨ob, hl⟩ := Option.isSome_iff_exists.1 hl
  have hs := h.slot t
  rw [h0] at hs
  obtain ⟨d, hd, hio, r, hn, hx⟩ := h.own.ol hs hl
  have hgg : ob.g = g := (live_ok hl).2
  have ht : t < st.s.length := by
    rcases Nat.lt_or_ge t st.s.length with hh | hh
    · exact hh
    · rw [List.getD_eq_getElem?_getD, List.getElem?_eq_none hh] at h0; cases h0
  refine ⟨d.C, hn, h.own, by simpa using h.size, fun u => ?_, h.defs, h.gok, h.leF, h.leO⟩
  by_cases hu : t = u
  · subst hu
    have e : (st.s.set t (.oc i g n d.C)).getD t undefA = .oc i g n d.C := by rw [List.getD_eq_getElem?_getD, List.getElem?_set_self ht]; rfl
    rw [e, hx]
    exact .oc _ i g n d.C d hd (by rw [r.hg]; omega) ⟨_, _, rfl⟩ fun _ => ⟨hn, rfl, rfl⟩
  · have e : (st.s.set t (.oc i g n d.C)).getD u undefA = st.s.getD u undefA := by rw [List.getD_eq_getElem?_getD, List.getD_eq_getElem?_getD, List.getElem?_set_ne hu]
    rw [e]
    exact h.slot u
/-- Again at a loop's head. -/
inductive Again {α : Type} (m : Nat) (J : α → Prop) (μ : α → Nat) (sc : α → St) (b : Nat) (st : St) : Prop
  | mk (a : α) (h1 : J a) (h2 : μ a < b) (h3 : Fg m st (sc a)) : Again m J μ sc b st
/-- A loop, by what holds at its head. -/
inductive LoopP (m : Nat) (Wc : (EX → St → Prop) → St → Prop) (Q : EX → St → Prop) (st : St) : Prop
  | mk (α : Type) (J : α → Prop) (μ : α → Nat) (sc : α → St) (a0 : α) (h0 : J a0) (h1 : Fg m st (sc a0)) (h2 : ∀ a, J a → Wc (thenQ (Again m J μ sc (μ a)) Q) (sc a)) : LoopP m Wc Q st
inductive SameP (s s' : List AV) (H H' : Hp) : Prop
  | mk (h1 : s = s') (h2 : H = H') : SameP s s' H H'
inductive ObAnd (a b : Prop) : Prop
  | mk (h1 : a) (h2 : b) : ObAnd a b
/-- Orders that come to the same, or each for itself. -/
inductive ObDx (a b c : Prop) : Prop
  | same (h : a) : ObDx a b c
  | each (h : b) : ObDx a b c
  | dyn (h : c) : ObDx a b c
/-- The rows that are looked at, named. -/
inductive ObRw (k : List Nat → Prop) : Prop
  | mk (R : List Nat) (h : k R) : ObRw k
inductive ObKb (b : Bool) (k : Prop) : Prop
  | mk (h : b = true) (hk : k) : ObKb b k
/-- These rows are as they were. -/
inductive ObSr (R : List Nat) (H H2 : Hp) (k : Prop) : Prop
  | mk (h : R.map (fun i => H[i]?) = R.map (fun i => H2[i]?)) (hk : k) : ObSr R H H2 k
def putK (s : List AV) (d : Option Nat) (r : AV) (k : List AV → Prop) : Prop :=
  match d with
  | none => k s
  | some d => pK s d r k
abbrev KS := List AV → Hp → Prop
section
variable (P : Program) (G : Nat → AV)
def vgd (o : AI) (s : List AV) (H : Hp) (k : KS) : Prop :=
  match o with
  | ⟨dst, op, gd⟩ => (match gd with
    | none => vop P G s H op (fun r H' => putK s dst r (fun s' => k s' H'))
    | some g => (match g with
      | (t, want) => gK s t (fun g => match g with
        | .v gv => (match gv with
          | .bool b => (match want with
            | true => ObT b (vop P G s H op (fun r H' => putK s dst r (fun s' => k s' H'))) (putK s dst undefA (fun s' => k s' H))
            | false => ObT b (putK s dst undefA (fun s' => k s' H)) (vop P G s H op (fun r H' => putK s dst r (fun s' => k s' H'))))
          | _ => False)
        | .tup l => (match l with | [] => putK s dst undefA (fun s' => k s' H) | _ :: _ => False)
        | _ => False)))
theorem putK_put {s : List AV} {d : Option Nat} {r : AV} {H : Hp} {k : KS} (h : putK s d r (fun s' => k s' H)) : k ((St.mk s H).put d r H).s ((St.mk s H).put d r H).H := by
  cases d with
  | none => exact h
  | some d => simp only [putK, pK_eq] at h; exact h
theorem putK_put' {s : List AV} {d : Option Nat} {r : AV} {H H0 : Hp} {k : KS} (h : putK s d r (fun s' => k s' H)) : k ((St.mk s H0).put d r H).s ((St.mk s H0).put d r H).H := by
  cases d with
  | none => exact h
  | some d => simp only [putK, pK_eq] at h; exact h
theorem AWop_mono {ev : AX → AV} {H : Hp} {op : AOp} {k k' : KK} (h : AWop P G ev H op k) (hk : ∀ r H', k r H' → k' r H') : AWop P G ev H op k' := by
  obtain ⟨r, H', h1, h2⟩ := AWop_iff.1 h
  exact AWop_iff.2 ⟨r, H', h1, hk r H' h2⟩
theorem vgd_ok {o : AI} {s : List AV} {H : Hp} {k : KS} (h : vgd P G o s H k) : AWi P G o ⟨s, H⟩ (fun st => k st.s st.H) := by
  obtain ⟨dst, op, gd⟩ := o
  simp only [vgd] at h
  have run : vop P G s H op (fun r H' => putK s dst r (fun s' => k s' H')) → AWop P G (AX.ev G s) H op (fun r H' => k ((St.mk s H).put dst r H').s ((St.mk s H).put dst r H').H) := fun h => AWop_mono P G (vop_ok P G h) fun r H' hk => putK_put' hk
  have skip : putK s dst undefA (fun s' => k s' H) → k ((St.mk s H).put dst undefA H).s ((St.mk s H).put dst undefA H).H := fun h => putK_put' h
  unfold AWi
  split at h
  · exact run h
  · rename_i g
    obtain ⟨t, want⟩ := g
    simp only [gK_eq] at h
    simp only
    change (match s.getD t (.tup []) with | .v (.bool b) => _ | .tup [] => _ | _ => _)
    split at h
    · rename_i gv hv
      rw [hv]
      split at h
      · rename_i b
        simp only
        cases want with
        | true =>
          obtain ⟨h1, h2⟩ := h
          cases b with
          | true => rw [if_pos rfl]; exact run (h1 rfl)
          | false => rw [if_neg (by simp)]; exact skip (h2 rfl)
        | false =>
          obtain ⟨h1, h2⟩ := h
          cases b with
          | true => rw [if_neg (by simp)]; exact skip (h1 rfl)
          | false => rw [if_pos rfl]; exact run (h2 rfl)
      · exact h.elim
    · rename_i l hv
      rw [hv]
      split at h
      · exact skip h
      · exact h.elim
    · exact h.elim
def vops : List AI → List AV → Hp → KS → Prop
  | [], s, H, k => k s H
  | o :: os, s, H, k => vgd P G o s H (fun s' H' => vops os s' H' k)
theorem vops_ok : ∀ {os : List AI} {s : List AV} {H : Hp} {k : KS}, vops P G os s H k → AWs P G os (fun st => k st.s st.H) ⟨s, H⟩
  | [], _, _, _, h => h
  | o :: os, s, H, k, h => by
    obtain ⟨st', h1, h2⟩ := AWi_iff.1 (vgd_ok P G h)
    exact AWi_iff.2 ⟨st', h1, vops_ok (k := k) h2⟩
/-- Operations of which the first may be an iterator's step. -/
def vopx : List AI → List AV → Hp → KS → Prop
  | ⟨d, .nxm x, none⟩ :: os, s, H, k => eK G s x (fun a => ObNx (nxmA H a) (fun r H' => putK s d r (fun s' => vops P G os s' H' k)))
  | os, s, H, k => vops P G os s H k
theorem vopx_ok : ∀ {os : List AI} {s : List AV} {H : Hp} {k : KS}, vopx P G os s H k → AWx P G os (fun st => k st.s st.H) ⟨s, H⟩ := by
  intro os s H k h
  unfold vopx at h
  unfold AWx
  split at h
  · rename_i d x os
    rw [eK_eq] at h
    obtain ⟨l, hl, hk⟩ := h
    refine ⟨l, hl, fun p hp => ?_⟩
    exact vops_ok P G (k := k) (putK_put (k := fun s' H' => vops P G os s' H' k) (hk p hp))
  · rename_i hn
    split
    · rename_i d x os
      exact absurd rfl (hn d x os)
    · exact vops_ok P G (k := k) h
def vdops (base : Nat) : List AI → List AV → Hp → KS → Prop
  | [], s, H, k => k s H
  | o :: os, s, H, k => (match Nat.beq o.op.cls 0 with
    | true => vgd P G o s H (fun s' H' => vdops base os s' H' k)
    | false => ObD (chkB G base o ⟨s, H⟩) (vgd P G o s H (fun s' H' => vdops base os s' H' k)))
theorem vdops_ok {base : Nat} : ∀ {os : List AI} {s : List AV} {H : Hp} {k : KS}, vdops P G base os s H k → AWd P G base os (fun st => k st.s st.H) ⟨s, H⟩
  | [], _, _, _, h => h
  | o :: os, s, H, k, h => by
    have key : chk G base o ⟨s, H⟩ ∧ vgd P G o s H (fun s' H' => vdops P G base os s' H' k) := by
      simp only [vdops] at h
      split at h
      · rename_i hb
        exact ⟨.inl (Nat.eq_of_beq_eq_true hb), h⟩
      · obtain ⟨hc, h⟩ := h
        exact ⟨chkB_ok hc, h⟩
    obtain ⟨st', h1, h2⟩ := AWi_iff.1 (vgd_ok P G key.2)
    exact ⟨key.1, AWi_iff.2 ⟨st', h1, vdops_ok (k := k) h2⟩⟩
theorem AWd_mono {base : Nat} : ∀ {os : List AI} {k k' : St → Prop} {st : St}, AWd P G base os k st → (∀ st, k st → k' st) → AWd P G base os k' st
  | [], _, _, _, h, hk => hk _ h
  | o :: os, k, k', st, h, hk => by
    obtain ⟨st', h1, h2⟩ := AWi_iff.1 h.2
    exact ⟨h.1, AWi_iff.2 ⟨st', h1, AWd_mono h2 hk⟩⟩
theorem AWd_ex {base : Nat} : ∀ {os : List AI} {k : St → Prop} {st : St}, AWd P G base os k st → ∃ st', k st'
  | [], _, _, h => ⟨_, h⟩
  | o :: os, k, st, h => by
    obtain ⟨st', h1, h2⟩ := AWi_iff.1 h.2
    exact AWd_ex h2
def vsame (base : Nat) (s0 : List AV) (H0 : Hp) (s1 : List AV) (H1 : Hp) : List (List AI) → Prop → Prop
  | [], k => k
  | R :: Rs, k => ObAnd (vdops P G base R s0 H0 (fun s2 H2 => SameP s2 s1 H2 H1)) (vsame base s0 H0 s1 H1 Rs k)
theorem vsame_ok {base : Nat} {s0 s1 : List AV} {H0 H1 : Hp} : ∀ {Rs : List (List AI)} {k : Prop}, vsame P G base s0 H0 s1 H1 Rs k → k ∧ ∀ R ∈ Rs, AWd P G base R (fun st => st = ⟨s1, H1⟩) ⟨s0, H0⟩
  | [], _, h => ⟨h, fun R hR => by cases hR⟩
  | R :: Rs, k, h => by
    obtain ⟨h1, h2⟩ := h
    obtain ⟨h3, h4⟩ := vsame_ok h2
    refine ⟨h3, fun R' hR => ?_⟩
    rcases List.mem_cons.1 hR with rfl | hR
    · exact AWd_mono P G (vdops_ok P G h1) fun st ⟨e1, e2⟩ => by cases st; simp at e1 e2; rw [e1, e2]
    · exact h4 R' hR
def veach (base : Nat) (s0 : List AV) (H0 : Hp) (k : KS) : List (List AI) → Prop
  | [] => True
  | [R] => vdops P G base R s0 H0 k
  | R :: Rs => ObAnd (vdops P G base R s0 H0 k) (veach base s0 H0 k Rs)
theorem veach_ok {base : Nat} {s0 : List AV} {H0 : Hp} {k : KS} : ∀ {Rs : List (List AI)}, veach P G base s0 H0 k Rs → ∀ R ∈ Rs, AWd P G base R (fun st => k st.s st.H) ⟨s0, H0⟩
  | [], _, R, hR => by cases hR
  | [R], h, R', hR => by
    have := List.mem_singleton.1 hR
    subst this
    exact vdops_ok P G h
  | R :: R2 :: Rs, h, R', hR => by
    obtain ⟨h1, h2⟩ := h
    rcases List.mem_cons.1 hR with rfl | hR
    · exact vdops_ok P G h1
    · exact veach_ok h2 R' hR
/-- Each looks at rows that are there. -/
def veops : List AI → List AV → Hp → KS → Prop
  | [], s, H, k => k s H
  | o :: os, s, H, k => (match Nat.beq o.op.cls 0 with
    | true => vgd P G o s H (fun s' H' => veops os s' H' k)
    | false => ObD (chkB G H.length o ⟨s, H⟩) (vgd P G o s H (fun s' H' => veops os s' H' k)))
theorem veops_ok : ∀ {os : List AI} {s : List AV} {H : Hp} {k : KS}, veops P G os s H k → AWe P G os (fun st => k st.s st.H) ⟨s, H⟩
  | [], _, _, _, h => h
  | o :: os, s, H, k, h => by
    have key : chk G H.length o ⟨s, H⟩ ∧ vgd P G o s H (fun s' H' => veops P G os s' H' k) := by
      simp only [veops] at h
      split at h
      · rename_i hb
        exact ⟨.inl (Nat.eq_of_beq_eq_true hb), h⟩
      · obtain ⟨hc, h⟩ := h
        exact ⟨chkB_ok hc, h⟩
    obtain ⟨st', h1, h2⟩ := AWi_iff.1 (vgd_ok P G key.2)
    exact ⟨key.1, AWi_iff.2 ⟨st', h1, veops_ok (k := k) h2⟩⟩
def veeach (s0 : List AV) (H0 : Hp) (k : KS) : List (List AI) → Prop
  | [] => True
  | [R] => ObN (noNew R = true) (veops P G R s0 H0 k)
  | R :: Rs => ObAnd (ObN (noNew R = true) (veops P G R s0 H0 k)) (veeach s0 H0 k Rs)
theorem veeach_ok {s0 : List AV} {H0 : Hp} {k : KS} : ∀ {Rs : List (List AI)}, veeach P G s0 H0 k Rs → ∀ R ∈ Rs, noNew R = true ∧ AWe P G R (fun st => k st.s st.H) ⟨s0, H0⟩
  | [], _, R, hR => by cases hR
  | [R], h, R', hR => by
    have := List.mem_singleton.1 hR
    subst this
    obtain ⟨h1, h2⟩ := h
    exact ⟨h1, veops_ok P G h2⟩
  | R :: R2 :: Rs, h, R', hR => by
    obtain ⟨⟨h0, h1⟩, h2⟩ := h
    rcases List.mem_cons.1 hR with rfl | hR
    · exact ⟨h0, veops_ok P G h1⟩
    · exact veeach_ok h2 R' hR
def vdx (reps : List (List AI)) (s : List AV) (H : Hp) (k : KS) : Prop :=
  match reps with
  | [] => True
  | R :: Rs => (match Rs with
    | [] => vdops P G H.length R s H k
    | R2 :: Rs' => ObDx (vdops P G H.length R s H (fun s1 H1 => vsame P G H.length s H s1 H1 (R2 :: Rs') (k s1 H1))) (veach P G H.length s H k (R :: R2 :: Rs')) (veeach P G s H k (R :: R2 :: Rs')))
theorem vdx_ok {reps : List (List AI)} {s : List AV} {H : Hp} {k : KS} (h : vdx P G reps s H k) : (∀ R ∈ reps, AWd P G H.length R (fun st => k st.s st.H) ⟨s, H⟩) ∨ ∀ R ∈ reps, noNew R = true ∧ AWe P G R (fun st => k st.s st.H) ⟨s, H⟩ := by
  cases reps with
  | nil => exact .inl fun R' hR => by cases hR
  | cons R Rs =>
    cases Rs with
    | nil =>
      refine .inl fun R' hR => ?_
      have := List.mem_singleton.1 hR
      subst this
      exact vdops_ok P G h
    | cons R2 Rs =>
      rcases h with h | h | h
      · refine .inl fun R' hR => ?_
        have h1 := vdops_ok P G h
        obtain ⟨st1, h2⟩ := AWd_ex P G h1
        obtain ⟨h3, h4⟩ := vsame_ok P G h2
        rcases List.mem_cons.1 hR with rfl | hR
        · exact AWd_mono P G h1 fun st hst => (vsame_ok P G hst).1
        · exact AWd_mono P G (h4 R' hR) fun st hst => by rw [hst]; exact h3
      · exact .inl fun R' hR => veach_ok P G h R' hR
      · exact .inr fun R' hR => veeach_ok P G h R' hR
theorem vdx_orders {ops : Array Oper} {as : List AI} (hl : ops.toList.length = as.length) (hd : drawxOk P ops as = true) {s : List AV} {H : Hp} {k : KS} (h : vdx P G (drawxReps ops as) s H k) (t : Nat) :
    ∃ bs : List AI, bs.length = (Region.schedule (P.follows .mixedOrders) ops t).length ∧ (∀ (j i : Nat) (ai : AI), (Region.schedule (P.follows .mixedOrders) ops t)[j]? = some i → bs[j]? = some ai → as[i]? = some ai) ∧ AWs P G bs (fun st => k st.s st.H) ⟨s, H⟩ := by
  rcases vdx_ok P G h with h | h
  · exact drawx_orders hl hd h t
  · exact drawx_orders2 hl hd (fun R hR => (h R hR).1) (fun R hR => (h R hR).2) t
def vqops (R : List Nat) : List AI → List AV → Hp → KS → Prop
  | [], s, H, k => k s H
  | o :: os, s, H, k => (match lkB o.op with
    | true => ObD (o.op.xs.all fun x => inR R (AX.ev G s x)) (vgd P G o s H (fun s' H' => vqops R os s' H' k))
    | false => (match clB o.op with
      | true => vgd P G o s H (fun s' H' => ObSr R H H' (vqops R os s' H' k))
      | false => vgd P G o s H (fun s' H' => vqops R os s' H' k)))
theorem vqops_ok {R : List Nat} : ∀ {os : List AI} {s : List AV} {H : Hp} {k : KS}, vqops P G R os s H k → ∃ st', Chain3 P G R os ⟨s, H⟩ st' ∧ k st'.s st'.H
  | [], s, H, _, h => ⟨⟨s, H⟩, rfl, h⟩
  | o :: os, s, H, k, h => by
    simp only [vqops] at h
    split at h
    · rename_i hb
      obtain ⟨hc, h⟩ := h
      obtain ⟨s1, h1, h2⟩ := AWi_iff.1 (vgd_ok P G h)
      obtain ⟨st', h3, h4⟩ := vqops_ok (k := k) h2
      exact ⟨st', ⟨s1, h1, ⟨fun _ => hc, fun e => (lk_cl hb e).elim⟩, h3⟩, h4⟩
    · rename_i hb
      have hnl : opR G R o s := fun e => by rw [hb] at e; cases e
      split at h
      · obtain ⟨s1, h1, hs, h2⟩ := AWi_iff.1 (vgd_ok P G h)
        obtain ⟨st', h3, h4⟩ := vqops_ok (k := k) h2
        exact ⟨st', ⟨s1, h1, ⟨hnl, fun _ i hi => List.map_inj_left.1 hs i hi⟩, h3⟩, h4⟩
      · rename_i hc
        obtain ⟨s1, h1, h2⟩ := AWi_iff.1 (vgd_ok P G h)
        obtain ⟨st', h3, h4⟩ := vqops_ok (k := k) h2
        exact ⟨st', ⟨s1, h1, ⟨hnl, fun e => by rw [e] at hc; cases hc⟩, h3⟩, h4⟩
theorem vqops_orders {ops : Array Oper} {as : List AI} (hl : ops.toList.length = as.length) (hs : setsOk P ops = true) {s : List AV} {H : Hp} {k : KS} (h : ObKb (okQ as (ops.toList.map preds)) (ObRw fun R => vqops P G R as s H k)) (t : Nat) :
    ∃ bs : List AI, bs.length = (Region.schedule (P.follows .mixedOrders) ops t).length ∧ (∀ (j i : Nat) (ai : AI), (Region.schedule (P.follows .mixedOrders) ops t)[j]? = some i → bs[j]? = some ai → as[i]? = some ai) ∧ AWs P G bs (fun st => k st.s st.H) ⟨s, H⟩ := by
  obtain ⟨hq, R, h⟩ := h
  obtain ⟨st', h1, h2⟩ := vqops_ok P G h
  exact drawq_orders (k := fun st => k st.s st.H) hl hs hq h1 h2 t
/-- Code. -/
def V (m : Nat) : AC → (EX → St → Prop) → St → Prop
  | .skip, Q, st => Q .n st
  | .region ops, Q, st => (match st with | ⟨s, H⟩ => vopx P G ops s H (fun s' H' => Q .n ⟨s', H'⟩))
  | .draw ops, Q, st => (match st with | ⟨s, H⟩ => vdops P G H.length ops s H (fun s' H' => Q .n ⟨s', H'⟩))
  | .drawx reps, Q, st => (match st with | ⟨s, H⟩ => vdx P G reps s H (fun s' H' => Q .n ⟨s', H'⟩))
  | .seq a b, Q, st => V m a (thenQ (SeqP m (V m b Q)) Q) st
  | .cond c t e, Q, st => (match st with | ⟨s, H⟩ => eK G s c (fun c => match c with
    | .v v => (match v with | .bool b => ObT b (V m t Q ⟨s, H⟩) (V m e Q ⟨s, H⟩) | _ => False)
    | _ => False))
  | .block id c, Q, st => V m c (blockQ id Q) st
  | .loop c, Q, st => LoopP m (V m c) Q st
  | .scope c, Q, st => V m c Q st
  | .exit id, Q, st => Q (.x id) st
  | .ret, Q, st => Q .r st
  | .rng .., _, _ => False
  | .drawq ops _ ps _, Q, st => (match st with | ⟨s, H⟩ => ObKb (okQ ops ps) (ObRw fun R => vqops P G R ops s H (fun s' H' => Q .n ⟨s', H'⟩)))
end
section
variable {P : Program} {G : Nat → AV} {hs : List FuncId} {B : Bd} {w0 : World} {F0 F1 : Fz} {O1 : Ow} {m : Nat}
theorem V_bad {P : Program} {G : Nat → AV} {m : Nat} {Q : EX → St → Prop} {st : St} (h : V P G m badC Q st) : False := by
  obtain ⟨s, H⟩ := st
  exact h
theorem V_ok (hm : O1.length ≤ m) : ∀ (c : Code) (ac : AC), copC P hs c = some ac → ∀ (Q : EX → St → Prop) (Q' : Exit → Act → World → Prop) (st : St) (a : Act) (w : World) (F : Fz) (O : Ow), V P G m ac Q st → Rl G B w0 F0 F1 O1 F O st a w →
    (∀ e st' a' w' F' O', Q e st' → Rl G B w0 F0 F1 O1 F' O' st' a' w' → Q' e.out a' w') → c.wp P Q' a w := by
  intro c
  induction c with
  | skip => intro ac hc Q Q' st a w F O h hr hQ; cases hc; exact wp_skip (hQ .n st a w F O h hr)
  | label l => intro ac hc Q Q' st a w F O h hr hQ; cases hc; exact wp_label (hQ .n st a w F O h hr)
  | region id ops draw =>
    intro ac hc Q Q' st a w F O h hr hQ
    obtain ⟨s, H⟩ := st
    simp only [copC] at hc
    split at hc
    · rename_i as has
      cases draw with
      | false =>
        cases hc
        exact region_textx has (k := fun st => Q .n ⟨st.s, st.H⟩) (fun st' a' w' F' O' hk hr' => hQ .n st' a' w' F' O' hk hr') (vopx_ok P G (k := fun s' H' => Q .n ⟨s', H'⟩) h) hr
      | true =>
        simp only [if_true] at hc
        split at hc
        · rename_i hd
          cases hc
          exact region_draw has (k := fun st => Q .n ⟨st.s, st.H⟩) (fun st' a' w' F' O' hk hr' => hQ .n st' a' w' F' O' hk hr') (draw_orders (copIs_at has).1 hd (vdops_ok P G (k := fun s' H' => Q .n ⟨s', H'⟩) h)) hr
        · split at hc
          · rename_i hd
            cases hc
            exact region_draw has (k := fun st => Q .n ⟨st.s, st.H⟩) (fun st' a' w' F' O' hk hr' => hQ .n st' a' w' F' O' hk hr') (vdx_orders P G (k := fun s' H' => Q .n ⟨s', H'⟩) (copIs_at has).1 hd h) hr
          · split at hc
            · rename_i hd
              cases hc
              exact region_draw has (k := fun st => Q .n ⟨st.s, st.H⟩) (fun st' a' w' F' O' hk hr' => hQ .n st' a' w' F' O' hk hr') (vqops_orders P G (k := fun s' H' => Q .n ⟨s', H'⟩) (copIs_at has).1 hd h) hr
            · cases hc; exact (V_bad h).elim
    · cases hc
  | seq x y ihx ihy =>
    intro ac hc Q Q' st a w F O h hr hQ
    simp only [copC] at hc
    split at hc
    · rename_i p q hp hq
      cases hc
      refine wp_seq (ihx p hp _ _ st a w F O h hr fun e st' a' w' F' O' he hr' => ?_)
      cases e with
      | n =>
        rcases he with he | ⟨st2, hf, he⟩ | ⟨i, n, cv, he⟩ | ⟨ss, cv, he⟩ | ⟨t, i, g, n, h0, hl, he⟩
        · exact ihy q hq Q Q' st' a' w' F' O' he hr' hQ
        · obtain ⟨O2, hr2⟩ := hr'.forget hm hf
          exact ihy q hq Q Q' st2 a' w' F' O2 he hr2 hQ
        · obtain ⟨s', H'⟩ := st'
          obtain ⟨st2, F2, he, hr2⟩ := fzK_ok he hr'
          exact ihy q hq Q Q' st2 a' w' F2 O' he hr2 hQ
        · obtain ⟨s', H'⟩ := st'
          obtain ⟨st2, he, hr2⟩ := nlK_ok he hr'
          exact ihy q hq Q Q' st2 a' w' F' O' he hr2 hQ
        · obtain ⟨c, hc, hr2⟩ := ocK_ok h0 hl hr'
          exact ihy q hq Q Q' _ a' w' F' O' (he c hc) hr2 hQ
      | x id => exact hQ (.x id) st' a' w' F' O' he hr'
      | r => exact hQ .r st' a' w' F' O' he hr'
    · cases hc
  | cond c x y ihx ihy =>
    intro ac hc Q Q' st a w F O h hr hQ
    obtain ⟨s, H⟩ := st
    simp only [copC] at hc
    split at hc
    · rename_i p q r hp hq hr'
      cases hc
      have ho := hr.operand 0 c p hp
      simp only [V, eK_eq] at h
      split at h
      · rename_i v hv
        split at h
        · rename_i b
          rw [hv] at ho
          have ho := ho.pvC rfl
          have e : a.eval c = .bool b := by generalize a.eval c = q at ho; cases ho; rfl
          obtain ⟨h1, h2⟩ := h
          cases b
          · exact wp_cond_false e (ihy r hr' Q Q' _ a w F O (h2 rfl) hr hQ)
          · exact wp_cond_true e (ihx q hq Q Q' _ a w F O (h1 rfl) hr hQ)
        · exact h.elim
      · exact h.elim
    · cases hc
  | block id c ih =>
    intro ac hc Q Q' st a w F O h hr hQ
    simp only [copC] at hc
    split at hc
    · rename_i p hp
      cases hc
      refine wp_block (ih p hp _ _ st a w F O h hr fun e st' a' w' F' O' he hr' => ?_)
      cases e with
      | n => exact hQ .n st' a' w' F' O' he hr'
      | x id' =>
        simp only [blockQ] at he
        show (if id' = id then Q' .normal a' w' else Q' (.exit id') a' w')
        by_cases hid : id' = id
        · rw [if_pos hid] at he ⊢; exact hQ .n st' a' w' F' O' he hr'
        · rw [if_neg hid] at he ⊢; exact hQ (.x id') st' a' w' F' O' he hr'
      | r => exact hQ .r st' a' w' F' O' he hr'
    · cases hc
  | loop c ih =>
    intro ac hc Q Q' st a w F O h hr hQ
    simp only [copC] at hc
    split at hc
    · rename_i p hp
      cases hc
      obtain ⟨α, J, μ, sc, a0, h0, h1, h2⟩ := h
      have key : ∀ (n : Nat) (x : α) (a : Act) (w : World) (F : Fz) (O : Ow), μ x < n → J x → Rl G B w0 F0 F1 O1 F O (sc x) a w → Code.rounds P c Q' n a w := by
        intro n
        induction n with
        | zero => intro x a w F O hx; omega
        | succ n ihn =>
          intro x a w F O hx hJ hr
          rw [rounds_succ]
          refine ih p hp _ _ (sc x) a w F O (h2 x hJ) hr fun e st' a' w' F' O' he hr' => ?_
          cases e with
          | n =>
            obtain ⟨x', g1, g2, g3⟩ := he
            obtain ⟨O2, hr2⟩ := hr'.forget hm g3
            exact ihn x' a' w' F' O2 (by omega) g1 hr2
          | x id => exact hQ (.x id) st' a' w' F' O' he hr'
          | r => exact hQ .r st' a' w' F' O' he hr'
      obtain ⟨O2, hr2⟩ := hr.forget hm h1
      exact wp_loop_rounds (μ a0 + 1) (key (μ a0 + 1) a0 a w F O2 (Nat.lt_succ_self _) h0 hr2)
    · cases hc
  | scope c ih =>
    intro ac hc Q Q' st a w F O h hr hQ
    simp only [copC] at hc
    split at hc
    · rename_i p hp
      cases hc
      refine wp_scope_straight (ih p hp Q _ st a w F O h hr fun e st' a' w' F' O' he hr' => ?_)
      have := hQ e st' a' w' F' O' he hr'
      cases e <;> exact this
    · cases hc
  | exit id => intro ac hc Q Q' st a w F O h hr hQ; cases hc; exact wp_exit (hQ (.x id) st a w F O h hr)
  | ret => intro ac hc Q Q' st a w F O h hr hQ; cases hc; exact wp_ret (hQ .r st a w F O h hr)
  | rangeFunc => intro ac hc; cases hc
  | goto => intro ac hc Q Q' st a w F O h; cases hc; exact (V_bad h).elim
  | refuse => intro ac hc Q Q' st a w F O h; cases hc; exact (V_bad h).elim
end
end Go.Proofs.YtgcnbbjapapnjaaDoor.Sim
