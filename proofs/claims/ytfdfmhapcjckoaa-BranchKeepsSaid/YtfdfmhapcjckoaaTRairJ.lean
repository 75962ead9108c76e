/- Bindings: what is got, put and dropped by the program. -/
import Derived.Test.YtfdfmhapcjckoaaTSimW
import Derived.Test.YtfdfmhapcjckoaaTRairI
namespace Go.Proofs.Ytfdfmhapcjckoaa.Sim.Pr7
open Go.RowKit
set_option maxRecDepth 100000
set_option linter.unusedSimpArgs false
set_option linter.unusedVariables false
theorem ret_frz {t : Nat} {k : Nat} {es : List AV} {st : St} {i g n : Nat} {e : TypeId} {fz : Nat} (h1 : st.s.getD t undefA = .ol i g n) (h2 : st.H[i]? = some ⟨e, k, es, g, fz⟩) (hn : es.length = n) (hp : es.all AV.isP = true) : RetP [(t, none)] (.sl k es) .r st := by
  subst hn
  refine ⟨.inr rfl, [.ol i g es.length], by simp only [rsAs, h1], [.sl k es], st.H.set i ⟨e, k, es, g, max fz es.length⟩, ?_, rfl⟩
  simp only [purA, pur, purC, h2, Nat.le_refl, List.take_length, hp, and_self, if_true]
/-- What Make comes to. -/
def MkOk (G : Nat → AV) : Prop := ∀ l : List Pr, l.length ≤ 40 → Okl l → PC Try.prog G 56 [.sl 2 (l.map pA)] (.sl 2 ((mk l).map pA))
theorem okl_mk {l : List Pr} (h : Okl l) : Okl (mk l) := ⟨by have := mk_len l; have := h.len; omega, fun p hp => h.sz p (mk_mem hp)⟩
abbrev oP (p : Option Pr) : AV := .tup [.agg [S ((p.getD default).1), S ((p.getD default).2)], Bo p.isSome]
theorem dflt : (default : Pr) = (⟨#[]⟩, ⟨#[]⟩) := rfl
def af (m : List Pr) (k : ByteArray) : Option Pr := m[(le m k).length]?
def fl (m : List Pr) (k : ByteArray) : Option Pr := (le m k).getLast?
theorem fl_at {m : List Pr} (h : SLe m) (k : ByteArray) (h0 : (le m k).length ≠ 0) : ∃ hi : (le m k).length - 1 < m.length, fl m k = some (m[(le m k).length - 1]) := by
  have hl := le_len (B := m) (k := k)
  refine ⟨by omega, ?_⟩
  unfold fl
  rw [List.getLast?_eq_getElem?]
  have e := List.getElem?_append_left (l₁ := le m k) (l₂ := hi m k) (i := (le m k).length - 1) (by omega)
  rw [← le_split h k] at e
  rw [← e, List.getElem?_eq_getElem]
theorem drop_le {m : List Pr} (h : SLe m) (key : ByteArray) : m.drop (le m key).length = hi m key := hi_drop h key
end Go.Proofs.Ytfdfmhapcjckoaa.Sim.Pr7
