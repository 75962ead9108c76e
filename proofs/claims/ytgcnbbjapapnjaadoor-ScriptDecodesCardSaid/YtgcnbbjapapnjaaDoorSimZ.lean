/- Contracts of calls in the world as contracts on plain values. -/
import Derived.Test.YtgcnbbjapapnjaaDoorSimY
namespace Go.Proofs.YtgcnbbjapapnjaaDoor.Sim
open Go.RowKit
set_option linter.unusedVariables false
set_option linter.unusedSimpArgs false
theorem ofVal_pv {F : Fz} {x : Value} {a : AV} (h : ofVal x = some a) : PV F x a := by
  cases x with
  | agg cs =>
    simp only [ofVal] at h
    split at h
    · rename_i as h1
      cases h
      obtain ⟨l, o, r⟩ := ofVals_ok (F := F) (O := []) h1
      have := PV.agg (F := F) cs.toList as l o r
      simpa using this
    · cases h
  | tuple cs =>
    simp only [ofVal] at h
    split at h
    · rename_i as h1
      cases h
      obtain ⟨l, o, r⟩ := ofVals_ok (F := F) (O := []) h1
      have := PV.tup (F := F) cs.toList as l r
      simpa using this
    · cases h
  | _ =>
    simp only [ofVal] at h
    split at h
    · rename_i hs
      cases h
      exact .v _ hs
    · cases h
theorem pc_calls {P : Program} {G : Nat → AV} {f : FuncId} {as : List AV} {ys : List Value} {v : Value} {r : AV} (hc : concs as = some ys) (hr : ofVal v = some r)
    (h : ∀ w, Calls P f ys.toArray w (fun e w' => e = .returned v ∧ Below w.heap.size w w')) : PC P G f as r := by
  intro w F xs hF hG hl hv
  obtain rfl : xs = ys := concs_ok (F := F) (O := []) hc hl fun i c a hc ha => .p (hv i c a hc ha)
  refine (h w).mono ?_
  rintro e w' ⟨rfl, hb⟩
  exact ⟨v, F, rfl, ofVal_pv hr, Fz.le_refl F, fun b o v hv => by rw [hb.cell (p := ⟨b, o, none⟩) (lt_of_cell (hF b o v hv))]; exact hF b o v hv, fun b o v hv => .inl hv, hb⟩
end Go.Proofs.YtgcnbbjapapnjaaDoor.Sim
