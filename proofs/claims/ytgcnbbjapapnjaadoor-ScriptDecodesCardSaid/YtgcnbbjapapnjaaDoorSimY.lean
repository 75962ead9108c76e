/- Arguments of a law's row, as what they say; what a type says of them. -/
import Derived.Test.YtgcnbbjapapnjaaDoorSimX
import Derived.Test.YtgcnbbjapapnjaaDoorSimN
namespace Go.Proofs.YtgcnbbjapapnjaaDoor.Sim
open Go.RowKit Go.ChangeShapes Go.WideShapes
set_option linter.unusedVariables false
set_option linter.unusedSimpArgs false
def okN (P : Program) (t : TypeId) : Bool :=
  match P.underlying t with
  | some (.struct _) => true
  | some .bool | some (.int _) | some .string | some (.slice _) => P.cellsOf t == 1
  | _ => false
section
variable {H : Type} {enc : TypeId × Value → H} {P : Program} {w : World} {spare : Nat → Bool} {held : Bool}
theorem arg_full {r : Reach} {b0 : Nat} {t : TypeId} {v : Value} {dd : DataW H} {p : List MemPlace} (hok : okT P 12 t = true) (hn : okN P t = true) (hval : Value.okWide P w r b0 t v) (hd : DataW.Trod enc P w 0 spare held t v dd p) :
    ∃ as : List AV, PV (fun b o => w.cell? ⟨b, o, none⟩) v (mkE (isAggT P t) as) ∧ ShC P t as := by
  unfold okN at hn
  split at hn
  · rename_i fs ht
    obtain ⟨cs, rfl, hsz⟩ := okWide_struct ht hval
    exact arg_av hok hval hd hsz (.inl (by simp [isAggT, ht]))
  · rename_i ht
    obtain ⟨b, rfl⟩ := okWide_bool ht hval
    exact arg_av hok hval hd (beq_iff_eq.1 hn).symm (.inr rfl)
  · rename_i ht
    obtain ⟨b, rfl⟩ := okWide_int ht hval
    exact arg_av hok hval hd (beq_iff_eq.1 hn).symm (.inr rfl)
  · rename_i ht
    obtain ⟨b, rfl⟩ := okWide_string ht hval
    exact arg_av hok hval hd (beq_iff_eq.1 hn).symm (.inr rfl)
  · rename_i ht
    obtain ⟨a, l, c, rfl⟩ := okWide_slice ht hval
    exact arg_av hok hval hd (beq_iff_eq.1 hn).symm (.inr rfl)
  · cases hn
end
theorem pvs_nil {F : Fz} : ∀ (i : Nat) (c : Value) (a : AV), ([] : List Value)[i]? = some c → ([] : List AV)[i]? = some a → PV F c a := fun i c a hc => by simp at hc
theorem pvs_cons {F : Fz} {x : Value} {a : AV} {xs : List Value} {as : List AV} (h : PV F x a) (k : ∀ (i : Nat) (c : Value) (a : AV), xs[i]? = some c → as[i]? = some a → PV F c a) : ∀ (i : Nat) (c : Value) (b : AV), (x :: xs)[i]? = some c → (a :: as)[i]? = some b → PV F c b := fun i c b hc hb => by
  cases i with
  | zero => simp at hc hb; subst hc; subst hb; exact h
  | succ i => exact k i c b (by simpa using hc) (by simpa using hb)
section
variable {P : Program}
theorem ShC.int_inv {t : TypeId} {k : IntKind} {as : List AV} (h : ShC P t as) (ht : P.underlying t = some (.int k)) : ∃ n, as = [.v (.int k n)] ∧ (Lit.int k n).wf = true := by
  cases h with
  | bool h => rw [ht] at h; cases h
  | int h n hw => rw [ht] at h; cases h; exact ⟨n, rfl, hw⟩
  | float h => rw [ht] at h; cases h
  | string h => rw [ht] at h; cases h
  | slice h => rw [ht] at h; cases h
  | struct h => rw [ht] at h; cases h
theorem ShC.i64_inv {t : TypeId} {as : List AV} (h : ShC P t as) (ht : P.underlying t = some (.int .i64)) : ∃ n, as = [I n] ∧ -9223372036854775808 ≤ n ∧ n ≤ 9223372036854775807 := by
  obtain ⟨n, e, hw⟩ := h.int_inv ht
  have : -9223372036854775808 ≤ n ∧ n ≤ 9223372036854775807 := by simpa [Lit.wf, IntKind.min, IntKind.max, IntKind.signed, IntKind.bits] using hw
  exact ⟨n, e, this.1, this.2⟩
theorem ShC.u8_inv {t : TypeId} {as : List AV} (h : ShC P t as) (ht : P.underlying t = some (.int .u8)) : ∃ n, as = [.v (.int .u8 n)] ∧ 0 ≤ n ∧ n ≤ 255 := by
  obtain ⟨n, e, hw⟩ := h.int_inv ht
  have : 0 ≤ n ∧ n ≤ 255 := by simpa [Lit.wf, IntKind.min, IntKind.max, IntKind.signed, IntKind.bits] using hw
  exact ⟨n, e, this.1, this.2⟩
theorem ShC.u32_inv {t : TypeId} {as : List AV} (h : ShC P t as) (ht : P.underlying t = some (.int .u32)) : ∃ n, as = [.v (.int .u32 n)] ∧ 0 ≤ n ∧ n ≤ 4294967295 := by
  obtain ⟨n, e, hw⟩ := h.int_inv ht
  have : 0 ≤ n ∧ n ≤ 4294967295 := by simpa [Lit.wf, IntKind.min, IntKind.max, IntKind.signed, IntKind.bits] using hw
  exact ⟨n, e, this.1, this.2⟩
theorem ShC.bool_inv {t : TypeId} {as : List AV} (h : ShC P t as) (ht : P.underlying t = some .bool) : ∃ b, as = [Bo b] := by
  cases h with
  | bool h b => exact ⟨b, rfl⟩
  | int h => rw [ht] at h; cases h
  | float h => rw [ht] at h; cases h
  | string h => rw [ht] at h; cases h
  | slice h => rw [ht] at h; cases h
  | struct h => rw [ht] at h; cases h
theorem ShC.str_inv {t : TypeId} {as : List AV} (h : ShC P t as) (ht : P.underlying t = some .string) : ∃ s, as = [S s] ∧ s.size ≤ 9223372036854775807 := by
  cases h with
  | bool h => rw [ht] at h; cases h
  | int h => rw [ht] at h; cases h
  | float h => rw [ht] at h; cases h
  | string h s hs => exact ⟨s, rfl, by rw [← maxLenE]; exact hs⟩
  | slice h => rw [ht] at h; cases h
  | struct h => rw [ht] at h; cases h
theorem ShC.slice_inv {t e : TypeId} {as : List AV} (h : ShC P t as) (ht : P.underlying t = some (.slice e)) : ∃ css : List (List AV), as = [.sl (P.cellsOf e) (css.map (mkE (isAggT P e)))] ∧ css.length ≤ 9223372036854775807 ∧ ∀ cs ∈ css, ShC P e cs := by
  cases h with
  | bool h => rw [ht] at h; cases h
  | int h => rw [ht] at h; cases h
  | float h => rw [ht] at h; cases h
  | string h => rw [ht] at h; cases h
  | slice h css hl hh => rw [ht] at h; cases h; exact ⟨css, rfl, by rw [← maxLenE]; exact hl, hh⟩
  | struct h => rw [ht] at h; cases h
theorem ShC.struct_inv {t : TypeId} {fs : Array Field} {as : List AV} (h : ShC P t as) (ht : P.underlying t = some (.struct fs)) : ∃ ps : List (List AV), as = ps.flatten ∧ ps.length = fs.size ∧ ∀ (i : Nat) (f : Field) (p : List AV), fs[i]? = some f → ps[i]? = some p → ShC P f.type p := by
  cases h with
  | bool h => rw [ht] at h; cases h
  | int h => rw [ht] at h; cases h
  | float h => rw [ht] at h; cases h
  | string h => rw [ht] at h; cases h
  | slice h => rw [ht] at h; cases h
  | struct h ps hl hh => rw [ht] at h; cases h; exact ⟨ps, rfl, hl, hh⟩
/-- The fields of a struct, one by one. -/
def ShFs (P : Program) : List TypeId → List AV → Prop
  | [], as => as = []
  | t :: ts, as => ∃ p q, as = p ++ q ∧ ShC P t p ∧ ShFs P ts q
theorem ShC.fields {t : TypeId} {fs : Array Field} {as : List AV} (h : ShC P t as) (ht : P.underlying t = some (.struct fs)) {ts : List TypeId} (hts : fs.toList.map (·.type) = ts) : ShFs P ts as := by
  obtain ⟨ps, rfl, hl, hh⟩ := h.struct_inv ht
  subst hts
  have key : ∀ (gs : List Field) (ps : List (List AV)), ps.length = gs.length → (∀ (i : Nat) (f : Field) (p : List AV), gs[i]? = some f → ps[i]? = some p → ShC P f.type p) → ShFs P (gs.map (·.type)) ps.flatten := by
    intro gs
    induction gs with
    | nil => intro ps hl _; rw [List.eq_nil_of_length_eq_zero hl]; rfl
    | cons g gs ih =>
      intro ps hl hh
      match ps, hl with
      | p :: ps, hl =>
        exact ⟨p, ps.flatten, rfl, hh 0 g p rfl rfl, ih ps (by simpa using hl) fun i f q hf hq => hh (i + 1) f q (by simpa using hf) (by simpa using hq)⟩
  exact key fs.toList ps (by simpa using hl) fun i f p hf hp => hh i f p (by simpa using hf) hp
end
end Go.Proofs.YtgcnbbjapapnjaaDoor.Sim
