/- A call that knows some rows only leaves the others as they are. -/
import Derived.Test.YtgcnbbjapapnjaaDoorSimVf
namespace Go.Proofs.YtgcnbbjapapnjaaDoor.Sim
open Go.RowKit
set_option linter.unusedVariables false
set_option linter.unusedSimpArgs false
/-- The rows' places in the greater frame. -/
def bkC (ρ : Nat → Nat) : AV → Option AV
  | .ol j g n => some (.ol (ρ j) g n)
  | .os j g lo n => some (.os (ρ j) g lo n)
  | .oa j g e off => some (.oa (ρ j) g e off)
  | .io t j g e off => some (.io t (ρ j) g e off)
  | .mp j g => some (.mp (ρ j) g)
  | .oc j g n c => some (.oc (ρ j) g n c)
  | .mf nm t j g e off => some (.mf nm t (ρ j) g e off)
  | .bf f j g e off => some (.bf f (ρ j) g e off)
  | .ib t f j g e off => some (.ib t f (ρ j) g e off)
  | .agg _ | .tup _ | .fn _ _ => none
  | a => some a
def bkL (ρ : Nat → Nat) : List AV → Option (List AV)
  | [] => some []
  | a :: as => (match bkC ρ a, bkL ρ as with | some b, some bs => some (b :: bs) | _, _ => none)
def bkA (ρ : Nat → Nat) : AV → Option AV
  | .agg cs => (match bkL ρ cs with | some cs' => some (.agg cs') | none => none)
  | a => bkC ρ a
def bkT (ρ : Nat → Nat) : List AV → Option (List AV)
  | [] => some []
  | a :: as => (match bkA ρ a, bkT ρ as with | some b, some bs => some (b :: bs) | _, _ => none)
def bkB (ρ : Nat → Nat) : AV → Option AV
  | .agg cs => (match bkL ρ cs with | some cs' => some (.agg cs') | none => none)
  | .tup cs => (match bkT ρ cs with | some cs' => some (.tup cs') | none => none)
  | .fn f cs => (match bkL ρ cs with | some cs' => some (.fn f cs') | none => none)
  | a => bkC ρ a
def BkO (ρ : Nat → Nat) (O O2 : Ow) : Prop := ∀ (j : Nat) (d : Ds), O[j]? = some d → O2[ρ j]? = some d
theorem VR.bkC {F : Fz} {O O2 : Ow} {ρ : Nat → Nat} (hT : BkO ρ O O2) {x : Value} {a b : AV} (h : VR F O x a) (hb : bkC ρ a = some b) : VR F O2 x b := by
  cases a with
  | agg => cases hb
  | tup => cases hb
  | fn => cases hb
  | ol j g n =>
    cases hb
    cases h with
    | p h => cases h
    | ol x i g m d hd hg h1 hh => exact .ol x _ g _ d (hT _ _ hd) hg h1 hh
  | os j g lo n =>
    cases hb
    cases h with
    | p h => cases h
    | os x i g lo n d hd hg h1 hh => exact .os x _ g lo n d (hT _ _ hd) hg h1 hh
  | oa j g e off =>
    cases hb
    cases h with
    | p h => cases h
    | oa x i g e off d hd hg h1 hh => exact .oa x _ g e off d (hT _ _ hd) hg h1 hh
  | oc j g n c =>
    cases hb
    cases h with
    | p h => cases h
    | oc x i g n c d hd hg h1 hh => exact .oc x _ g n c d (hT _ _ hd) hg h1 hh
  | mf nm t j g e off =>
    cases hb
    cases h with
    | p h => cases h
    | mf x nm t i g e off d hd hg h1 hh => exact .mf x nm t _ g e off d (hT _ _ hd) hg h1 hh
  | bf f j g e off =>
    cases hb
    cases h with
    | p h => cases h
    | bf x f i g e off d hd hg h1 hh => exact .bf x f _ g e off d (hT _ _ hd) hg h1 hh
  | ib t f j g e off =>
    cases hb
    cases h with
    | p h => cases h
    | ib x t f i g e off d hd hg h1 hh => exact .ib x t f _ g e off d (hT _ _ hd) hg h1 hh
  | mp j g =>
    cases hb
    cases h with
    | p h => cases h
    | mp x i g d hd hg h1 hh => exact .mp x _ g d (hT _ _ hd) hg h1 hh
  | io t j g e off =>
    cases hb
    cases h with
    | p h => cases h
    | io x t i g e off d hd hg h1 hh => exact .io x t _ g e off d (hT _ _ hd) hg h1 hh
  | unk => cases hb; exact .unk x
  | nl k =>
    cases hb
    cases h with
    | p h => exact .p h
    | nl k => exact .nl k
  | em q k =>
    cases hb
    cases h with
    | p h => exact .p h
    | em A c q k hb hm => exact .em A c q k hb hm
  | v y => cases hb; exact .p (h.pvC0 rfl)
  | sl k es => cases hb; exact .p (h.pvC0 rfl)
  | ad k es i off => cases hb; exact .p (h.pvC0 rfl)
theorem bkL_at {ρ : Nat → Nat} : ∀ {as bs : List AV}, bkL ρ as = some bs → as.length = bs.length ∧ ∀ (i : Nat) (b : AV), bs[i]? = some b → ∃ a, as[i]? = some a ∧ bkC ρ a = some b
  | [], bs, h => by cases h; exact ⟨rfl, fun i b hb => by simp at hb⟩
  | a :: as, bs, h => by
    simp only [bkL] at h
    split at h
    · rename_i b bs' h1 h2
      cases h
      obtain ⟨l, r⟩ := bkL_at h2
      refine ⟨by simp [l], fun i c hc => ?_⟩
      cases i with
      | zero => simp at hc; subst hc; exact ⟨a, rfl, h1⟩
      | succ i => obtain ⟨y, q1, q2⟩ := r i c (by simpa using hc); exact ⟨y, by simpa using q1, q2⟩
    · cases h
theorem bkC_one {ρ : Nat → Nat} {a b : AV} (h : bkC ρ a = some b) (ha : a.one = true) : b.one = true := by
  cases a with
  | agg => cases ha
  | tup => cases ha
  | unk => cases ha
  | fn => cases h
  | _ => cases h; rfl
theorem bkT_at {ρ : Nat → Nat} : ∀ {as bs : List AV}, bkT ρ as = some bs → as.length = bs.length ∧ ∀ (i : Nat) (b : AV), bs[i]? = some b → ∃ a, as[i]? = some a ∧ bkA ρ a = some b
  | [], bs, h => by cases h; exact ⟨rfl, fun i b hb => by simp at hb⟩
  | a :: as, bs, h => by
    simp only [bkT] at h
    split at h
    · rename_i b bs' h1 h2
      cases h
      obtain ⟨l, r⟩ := bkT_at h2
      refine ⟨by simp [l], fun i c hc => ?_⟩
      cases i with
      | zero => simp at hc; subst hc; exact ⟨a, rfl, h1⟩
      | succ i => obtain ⟨y, q1, q2⟩ := r i c (by simpa using hc); exact ⟨y, by simpa using q1, q2⟩
    · cases h
theorem VR.bkA {F : Fz} {O O2 : Ow} {ρ : Nat → Nat} (hT : BkO ρ O O2) {x : Value} {a b : AV} (h : VR F O x a) (hb : bkA ρ a = some b) : VR F O2 x b := by
  have cells : ∀ {cs bs : List AV} {ys : List Value}, bkL ρ cs = some bs → (∀ (i : Nat) (c : Value) (a : AV), ys[i]? = some c → cs[i]? = some a → VR F O c a) → ∀ (i : Nat) (c : Value) (b : AV), ys[i]? = some c → bs[i]? = some b → VR F O2 c b := fun hl hv i c b hc hb => by
    obtain ⟨a, h1, h2⟩ := (bkL_at hl).2 i b hb
    exact (hv i c a hc h1).bkC hT h2
  have one : ∀ {cs bs : List AV}, bkL ρ cs = some bs → (∀ a ∈ cs, AV.one a = true) → ∀ b ∈ bs, AV.one b = true := fun {cs bs} hl ho b hb => by
    obtain ⟨i, hi, rfl⟩ := List.getElem_of_mem hb
    obtain ⟨a, h1, h2⟩ := (bkL_at hl).2 i bs[i] (List.getElem?_eq_getElem hi)
    exact bkC_one h2 (ho a (List.mem_of_getElem? h1))
  cases a with
  | agg cs =>
    simp only [Sim.bkA] at hb
    split at hb
    · rename_i bs hl
      cases hb
      cases h with
      | p h =>
        cases h with
        | agg ys cs hl' h1 h => exact .agg ys bs (by rw [hl', (bkL_at hl).1]) (one hl h1) (cells hl fun i c a hc ha => .p (h i c a hc ha))
      | agg ys cs hl' h1 h => exact .agg ys bs (by rw [hl', (bkL_at hl).1]) (one hl h1) (cells hl h)
    · cases hb
  | _ => exact h.bkC hT hb
theorem VR.bkB {F : Fz} {O O2 : Ow} {ρ : Nat → Nat} (hT : BkO ρ O O2) {x : Value} {a b : AV} (h : VR F O x a) (hb : bkB ρ a = some b) : VR F O2 x b := by
  have cells : ∀ {cs bs : List AV} {ys : List Value}, bkL ρ cs = some bs → (∀ (i : Nat) (c : Value) (a : AV), ys[i]? = some c → cs[i]? = some a → VR F O c a) → ∀ (i : Nat) (c : Value) (b : AV), ys[i]? = some c → bs[i]? = some b → VR F O2 c b := fun hl hv i c b hc hb => by
    obtain ⟨a, h1, h2⟩ := (bkL_at hl).2 i b hb
    exact (hv i c a hc h1).bkC hT h2
  have one : ∀ {cs bs : List AV}, bkL ρ cs = some bs → (∀ a ∈ cs, AV.one a = true) → ∀ b ∈ bs, AV.one b = true := fun {cs bs} hl ho b hb => by
    obtain ⟨i, hi, rfl⟩ := List.getElem_of_mem hb
    obtain ⟨a, h1, h2⟩ := (bkL_at hl).2 i bs[i] (List.getElem?_eq_getElem hi)
    exact bkC_one h2 (ho a (List.mem_of_getElem? h1))
  have cellsT : ∀ {cs bs : List AV} {ys : List Value}, bkT ρ cs = some bs → (∀ (i : Nat) (c : Value) (a : AV), ys[i]? = some c → cs[i]? = some a → VR F O c a) → ∀ (i : Nat) (c : Value) (b : AV), ys[i]? = some c → bs[i]? = some b → VR F O2 c b := fun hl hv i c b hc hb => by
    obtain ⟨a, h1, h2⟩ := (bkT_at hl).2 i b hb
    exact (hv i c a hc h1).bkA hT h2
  cases a with
  | agg cs => exact h.bkA hT hb
  | tup cs =>
    simp only [Sim.bkB] at hb
    split at hb
    · rename_i bs hl
      cases hb
      cases h with
      | p h =>
        cases h with
        | tup ys cs hl' h => exact .tup ys bs (by rw [hl', (bkT_at hl).1]) (cellsT hl fun i c a hc ha => .p (h i c a hc ha))
      | tup ys cs hl' h => exact .tup ys bs (by rw [hl', (bkT_at hl).1]) (cellsT hl h)
    · cases hb
  | fn f cs =>
    simp only [Sim.bkB] at hb
    split at hb
    · rename_i bs hl
      cases hb
      cases h with
      | p h =>
        cases h with
        | fn f ys cs hl' h => exact .fn f ys bs (by rw [hl', (bkL_at hl).1]) (cells hl fun i c a hc ha => .p (h i c a hc ha))
      | fn f ys cs hl' h => exact .fn f ys bs (by rw [hl', (bkL_at hl).1]) (cells hl h)
    · cases hb
  | _ => exact h.bkC hT hb
/-- A row's cell: closures too. -/
def bkD (ρ : Nat → Nat) : AV → Option AV
  | .fn f cs => (match bkL ρ cs with | some cs' => some (.fn f cs') | none => none)
  | a => bkC ρ a
def bkM (ρ : Nat → Nat) : List AV → Option (List AV)
  | [] => some []
  | a :: as => (match bkD ρ a, bkM ρ as with | some b, some bs => some (b :: bs) | _, _ => none)
theorem VR.bkD {F : Fz} {O O2 : Ow} {ρ : Nat → Nat} (hT : BkO ρ O O2) {x : Value} {a b : AV} (h : VR F O x a) (hb : bkD ρ a = some b) : VR F O2 x b := by
  cases a with
  | fn f cs => exact h.bkB hT hb
  | _ => exact h.bkC hT hb
theorem bkM_at {ρ : Nat → Nat} : ∀ {as bs : List AV}, bkM ρ as = some bs → as.length = bs.length ∧ ∀ (i : Nat) (b : AV), bs[i]? = some b → ∃ a, as[i]? = some a ∧ bkD ρ a = some b
  | [], bs, h => by cases h; exact ⟨rfl, fun i b hb => by simp at hb⟩
  | a :: as, bs, h => by
    simp only [bkM] at h
    split at h
    · rename_i b bs' h1 h2
      cases h
      obtain ⟨l, r⟩ := bkM_at h2
      refine ⟨by simp [l], fun i c hc => ?_⟩
      cases i with
      | zero => simp at hc; subst hc; exact ⟨a, rfl, h1⟩
      | succ i => obtain ⟨y, q1, q2⟩ := r i c (by simpa using hc); exact ⟨y, by simpa using q1, q2⟩
    · cases h
theorem bkD_one {ρ : Nat → Nat} {a b : AV} (h : bkD ρ a = some b) (ha : a.one = true) : b.one = true := by
  cases a with
  | fn f cs =>
    simp only [bkD] at h
    split at h
    · cases h; rfl
    · cases h
  | _ => exact bkC_one (ρ := ρ) (by simpa only [bkD] using h) ha
/-- Where the rows of the lesser frame lie in the greater one: those of the table, and behind it new ones. -/
def rho (T : Tb) (N : Nat) (j : Nat) : Nat := match T[j]? with | some (_, i, _) => i | none => N + (j - T.length)
/-- The rows behind a call that knew some of them. -/
structure Bk (T : Tb) (Hb Hl' Hb' : Hp) : Prop where
  len : T.length ≤ Hl'.length
  len2 : Hb'.length = Hb.length + (Hl'.length - T.length)
  row : ∀ (j : Nat) (ob : OB), Hl'[j]? = some ob → ∃ ob2, Hb'[rho T Hb.length j]? = some ob2 ∧ ob2.e = ob.e ∧ ob2.k = ob.k ∧ ob2.g = ob.g ∧ ob2.fz = ob.fz ∧ ob2.es.length = ob.es.length ∧ ∀ (n : Nat) (e2 : AV), ob2.es[n]? = some e2 → ∃ e, ob.es[n]? = some e ∧ bkM (rho T Hb.length) e.cells = some e2.cells
  rest : ∀ J, J < Hb.length → (∀ j, j < T.length → rho T Hb.length j ≠ J) → Hb'[J]? = Hb[J]?
section
variable {P : Program} {G : Nat → AV}
theorem HC.frame {f : FuncId} {asl as : List AV} {Hl Hl' Hb Hb' : Hp} {r r' : AV} (T : Tb) (h : HC P G f asl Hl r Hl') (hv : Vw T Hb Hl) (hid : ∀ (j g2 i g : Nat), T[j]? = some (g2, i, g) → g2 = g)
    (hal : as.length = asl.length) (ha : ∀ (i : Nat) (b : AV), asl[i]? = some b → ∃ a, as[i]? = some a ∧ rnB T b = some a) (hr : bkB (rho T Hb.length) r = some r') (hbk : Bk T Hb Hl' Hb') : HC P G f as Hb r' Hb' := by
  intro B w0 F0 F O w xs hown hg hl hvx
  obtain ⟨O2, own2, hto⟩ := hown.view hv
  have hTlt : ∀ {j g2 i g : Nat}, T[j]? = some (g2, i, g) → i < Hb.length := fun {j g2 i g} ht => by
    obtain ⟨d, h1, _⟩ := hto j g2 i g ht
    rw [← hown.len]; exact (List.getElem?_eq_some_iff.1 h1).1
  have hTat : ∀ {j : Nat}, j < T.length → ∃ g2 i g, T[j]? = some (g2, i, g) ∧ rho T Hb.length j = i := fun {j} hj => by
    refine ⟨T[j].1, T[j].2.1, T[j].2.2, List.getElem?_eq_getElem hj, ?_⟩
    simp only [rho, List.getElem?_eq_getElem hj]
  have rhoNew : ∀ {j : Nat}, T.length ≤ j → rho T Hb.length j = Hb.length + (j - T.length) := fun {j} hj => by
    simp only [rho, List.getElem?_eq_none hj]
  have rhoInj : ∀ {j j' : Nat}, rho T Hb.length j = rho T Hb.length j' → j = j' := fun {j j'} he => by
    by_cases h1 : j < T.length <;> by_cases h2 : j' < T.length
    · obtain ⟨a, i, b, t1, e1⟩ := hTat h1
      obtain ⟨a', i', b', t2, e2⟩ := hTat h2
      rw [e1, e2] at he
      subst he
      exact hv.inj j j' _ _ _ _ _ t1 t2
    · obtain ⟨a, i, b, t1, e1⟩ := hTat h1
      rw [e1, rhoNew (by omega)] at he
      have := hTlt t1
      omega
    · obtain ⟨a, i, b, t1, e1⟩ := hTat h2
      rw [e1, rhoNew (by omega)] at he
      have := hTlt t1
      omega
    · rw [rhoNew (by omega), rhoNew (by omega)] at he
      omega
  -- the blocks that the call keeps
  have own3 : Own ⟨B.n, fun b => B.K b ∨ ∃ J d, O[J]? = some d ∧ d.b = b ∧ ∀ j, j < T.length → rho T Hb.length j ≠ J, []⟩ w F F O2 Hl w := by
    refine ⟨own2.len, fun j d ob hd ho => ?_, own2.inj, own2.fr, Fz.le_refl F, fun b o v hv => .inl hv, Below.refl _ _, hown.size, fun _ _ => rfl, fun b hk => ?_⟩
    · have rr := own2.row j d ob hd ho
      refine { rr with hB := ⟨rr.hB.1, ?_⟩ }
      rintro (hk | ⟨J, d', h1, h2, h3⟩)
      · exact rr.hB.2 hk
      · have hj : j < T.length := by rw [← hv.len]; exact (List.getElem?_eq_some_iff.1 ho).1
        obtain ⟨g2, i, g, t1, e1⟩ := hTat hj
        obtain ⟨d0, q1, q2, q3⟩ := hto j g2 i g t1
        rw [hd] at q3
        cases q3
        have := hown.inj J i d' d0 h1 q1 h2
        exact h3 j hj (by rw [e1, this])
    · rcases hk with hk | ⟨J, d, h1, rfl, _⟩
      · exact Nat.lt_of_lt_of_le (hown.kb b hk) hown.below.size
      · have hJ : J < Hb.length := by rw [← hown.len]; exact (List.getElem?_eq_some_iff.1 h1).1
        exact (hown.row J d Hb[J] h1 (List.getElem?_eq_getElem hJ)).lt
  have hcall := h _ w F F O2 w xs own3 hg (by rw [hl, hal]) fun i c b hc hb => by
    obtain ⟨a, q1, q2⟩ := ha i b hb
    exact (hvx i c a hc q1).rnB hto q2
  refine hcall.mono ?_
  rintro e w' ⟨v, rfl, F', O3, hvr, own4, lF, lO⟩
  refine ⟨v, rfl, F', ?_⟩
  have l3 : O3.length = Hl'.length := own4.len
  -- the rows' places
  obtain ⟨O', hO'⟩ : ∃ O' : Ow, O' = (List.range Hb'.length).map fun J => match (List.range Hl'.length).find? (fun j => rho T Hb.length j == J) with | some j => O3.getD j ⟨0, 0, 0, 0⟩ | none => O.getD J ⟨0, 0, 0, 0⟩ := ⟨_, rfl⟩
  have lO' : O'.length = Hb'.length := by rw [hO']; simp
  have rhoLt : ∀ {j : Nat}, j < Hl'.length → rho T Hb.length j < Hb'.length := fun {j} hj => by
    by_cases h1 : j < T.length
    · obtain ⟨a, i, b, t1, e1⟩ := hTat h1
      rw [e1, hbk.len2]
      have := hTlt t1
      omega
    · rw [rhoNew (by omega), hbk.len2]; omega
  have img : ∀ {j : Nat}, j < Hl'.length → O'[rho T Hb.length j]? = O3[j]? := fun {j} hj => by
    have hf : (List.range Hl'.length).find? (fun j' => rho T Hb.length j' == rho T Hb.length j) = some j := by
      cases hq : (List.range Hl'.length).find? (fun j' => rho T Hb.length j' == rho T Hb.length j) with
      | none =>
        have := List.find?_eq_none.1 hq j (by simpa using hj)
        simp at this
      | some j' =>
        have := List.find?_some hq
        have e : j' = j := rhoInj (by simpa using this)
        rw [e]
    rw [hO', List.getElem?_map, List.getElem?_range (rhoLt hj)]
    simp only [Option.map_some, hf]
    rw [List.getD_eq_getElem?_getD, List.getElem?_eq_getElem (by omega)]
    rfl
  have out : ∀ {J : Nat}, J < Hb.length → (∀ j, j < T.length → rho T Hb.length j ≠ J) → O'[J]? = O[J]? := fun {J} hJ hn => by
    have hf : (List.range Hl'.length).find? (fun j' => rho T Hb.length j' == J) = none := by
      rw [List.find?_eq_none]
      intro j hj hh
      have hh : rho T Hb.length j = J := by simpa using hh
      by_cases h1 : j < T.length
      · exact hn j h1 hh
      · rw [rhoNew (by omega)] at hh; omega
    rw [hO', List.getElem?_map, List.getElem?_range (by rw [hbk.len2]; omega)]
    simp only [Option.map_some, hf]
    have : J < O.length := by rw [hown.len]; exact hJ
    rw [List.getD_eq_getElem?_getD, List.getElem?_eq_getElem this]
    rfl
  have cases3 : ∀ J, J < Hb'.length → (∃ j, j < Hl'.length ∧ rho T Hb.length j = J) ∨ (J < Hb.length ∧ ∀ j, j < T.length → rho T Hb.length j ≠ J) := fun J hJ => by
    by_cases hx : ∃ j, j < Hl'.length ∧ rho T Hb.length j = J
    · exact .inl hx
    · right
      have hn : ∀ j, j < T.length → rho T Hb.length j ≠ J := fun j hj he => hx ⟨j, by have := hbk.len; omega, he⟩
      refine ⟨?_, hn⟩
      rcases Nat.lt_or_ge J Hb.length with h1 | h1
      · exact h1
      · exfalso
        rw [hbk.len2] at hJ
        exact hx ⟨T.length + (J - Hb.length), by omega, by rw [rhoNew (by omega)]; omega⟩
  have bo : BkO (rho T Hb.length) O3 O' := fun j d hd => by
    rw [img (by rw [← l3]; exact (List.getElem?_eq_some_iff.1 hd).1)]; exact hd
  have leO : O.le O' := fun J d hd => by
    have hJ : J < Hb.length := by rw [← hown.len]; exact (List.getElem?_eq_some_iff.1 hd).1
    by_cases hx : ∃ j, j < T.length ∧ rho T Hb.length j = J
    · obtain ⟨j, hj, he⟩ := hx
      obtain ⟨g2, i, g, t1, e1⟩ := hTat hj
      obtain ⟨d0, q1, q2, q3⟩ := hto j g2 i g t1
      have : i = J := by rw [← e1, he]
      subst this
      rw [hd] at q1
      cases q1
      have hid' := hid j g2 i g t1
      subst hid'
      have e3 : (⟨d.b, d.C, g2, d.k⟩ : Ds) = d := by rw [← q2]
      rw [e3] at q3
      obtain ⟨d', k1, k2, k3⟩ := lO j d q3
      exact ⟨d', by rw [← he, img (by have := hbk.len; omega)]; exact k1, k2, k3⟩
    · exact ⟨d, by rw [out hJ (fun j hj he => hx ⟨j, hj, he⟩)]; exact hd, Nat.le_refl _, fun _ => rfl⟩
  have inK : ∀ {J : Nat} {d : Ds}, O[J]? = some d → (∀ j, j < T.length → rho T Hb.length j ≠ J) → B.K d.b ∨ ∃ J' d', O[J']? = some d' ∧ d'.b = d.b ∧ ∀ j, j < T.length → rho T Hb.length j ≠ J' := fun {J d} hd hn => .inr ⟨J, d, hd, rfl, hn⟩
  refine ⟨O', hvr.bkB bo hr, ⟨lO', fun J d ob2 hd ho => ?_, fun J J' d d' hd hd' hb => ?_, own4.fr, Fz.le_trans hown.le lF, fun b o v hv => ?_, hown.below.trans own4.below, own4.size, fun b hk => ?_, hown.kb⟩, lF, leO⟩
  · have hJ : J < Hb'.length := (List.getElem?_eq_some_iff.1 ho).1
    rcases cases3 J hJ with ⟨j, hj, rfl⟩ | ⟨hJ2, hn⟩
    · rw [img hj] at hd
      obtain ⟨ob2', k1, k2, k3, k4, k5, k6, k7⟩ := hbk.row j Hl'[j] (List.getElem?_eq_getElem hj)
      rw [ho] at k1
      cases k1
      have rr := own4.row j d Hl'[j] hd (List.getElem?_eq_getElem hj)
      obtain ⟨cur, c1, c2, c3⟩ := rr.cur
      refine ⟨by rw [k4]; exact rr.hg, by rw [k3]; exact rr.hk, ⟨rr.hB.1, fun hk => rr.hB.2 (.inl hk)⟩, ⟨cur, by rw [k2, k3, k6]; exact c1, by rw [k2, k3]; exact c2, fun n c e2 a2 he ha => ?_⟩, rr.hC, by rw [k2, k6]; exact rr.hl, fun e2 he2 => ?_, fun e2 he2 a2 ha2 => ?_, by rw [k5, k3]; exact rr.hf, by rw [k5, k6]; exact rr.hz⟩
      · obtain ⟨e, g1, g2⟩ := k7 n e2 he
        obtain ⟨a, g3, g4⟩ := (bkM_at g2).2 c a2 ha
        obtain ⟨y, q1, q2⟩ := c3 n c e a g1 g3
        exact ⟨y, by rw [k3]; exact q1, q2.bkD bo g4⟩
      · obtain ⟨n, hn, rfl⟩ := List.getElem_of_mem he2
        obtain ⟨e, g1, g2⟩ := k7 n _ (List.getElem?_eq_getElem hn)
        rw [← (bkM_at g2).1, k3]
        exact rr.hn e (List.mem_of_getElem? g1)
      · obtain ⟨n, hn, rfl⟩ := List.getElem_of_mem he2
        obtain ⟨e, g1, g2⟩ := k7 n _ (List.getElem?_eq_getElem hn)
        obtain ⟨c, hc, rfl⟩ := List.getElem_of_mem ha2
        obtain ⟨a, g3, g4⟩ := (bkM_at g2).2 c _ (List.getElem?_eq_getElem hc)
        exact bkD_one g4 (rr.h1 e (List.mem_of_getElem? g1) a (List.mem_of_getElem? g3))
    · rw [out hJ2 hn] at hd
      rw [hbk.rest J hJ2 hn] at ho
      have rr := hown.row J d ob2 hd ho
      have hk := inK hd hn
      obtain ⟨cur, c1, c2, c3⟩ := rr.cur
      refine { rr with cur := ⟨cur, by rw [own4.kept d.b hk]; exact c1, c2, fun n c e a he ha => by obtain ⟨y, q1, q2⟩ := c3 n c e a he ha; exact ⟨y, q1, q2.mono lF leO⟩⟩, hf := fun o v hv => ?_ }
      rcases own4.new d.b o v hv with h1 | h1
      · exact rr.hf o v h1
      · exact absurd hk h1.2
  · have hJ : J < Hb'.length := by rw [← lO']; exact (List.getElem?_eq_some_iff.1 hd).1
    have hJ' : J' < Hb'.length := by rw [← lO']; exact (List.getElem?_eq_some_iff.1 hd').1
    rcases cases3 J hJ with ⟨j, hj, rfl⟩ | ⟨hJ2, hn⟩ <;> rcases cases3 J' hJ' with ⟨j', hj', rfl⟩ | ⟨hJ2', hn'⟩
    · rw [img hj] at hd
      rw [img hj'] at hd'
      rw [own4.inj j j' d d' hd hd' hb]
    · rw [img hj] at hd
      rw [out hJ2' hn'] at hd'
      have := (own4.row j d Hl'[j] hd (List.getElem?_eq_getElem hj)).hB.2
      exact absurd (by rw [hb]; exact inK hd' hn') this
    · rw [out hJ2 hn] at hd
      rw [img hj'] at hd'
      have := (own4.row j' d' Hl'[j'] hd' (List.getElem?_eq_getElem hj')).hB.2
      exact absurd (by rw [← hb]; exact inK hd hn) this
    · rw [out hJ2 hn] at hd
      rw [out hJ2' hn'] at hd'
      exact hown.inj J J' d d' hd hd' hb
  · rcases own4.new b o v hv with h1 | h1
    · exact hown.new b o v h1
    · exact .inr ⟨h1.1, fun hk => h1.2 (.inl hk)⟩
  · rw [own4.kept b (.inl hk)]; exact hown.kept b hk
end
end Go.Proofs.YtgcnbbjapapnjaaDoor.Sim
