/- A law whose code reads the table of the ops. -/
import Derived.Test.YtgcnbbjapapnjaaDoorSimY
import Derived.Test.YtgcnbbjapapnjaaDoorSimVn
import Derived.Test.YtgcnbbjapapnjaaDoorCallTb
namespace Go.Proofs.YtgcnbbjapapnjaaDoor.Sim
open Go.RowKit
set_option linter.unusedVariables false
/-- What the globals say: the table of the ops. -/
def opF : List Bool := Conf.opTable.flatten
def opAV : List AV := [.agg (opF.map fun b => .v (.bool b))]
def tabG (g : Nat) : AV := if g = 0 then .ad 56 opAV 0 0 else .unk
theorem opF_at : ∀ m : Nat, m < 56 → opF[m]? = some (Conf.opUse (m / 4) (m % 4)) := by decide
theorem gok {w : World} (hT : Conf.Tab w) : GOK tabG (fun b o => w.cell? ⟨b, o, none⟩) := by
  intro g
  unfold tabG
  split
  · rename_i hg
    subst hg
    have hl : opF.length = 56 := by decide
    refine .p (.ad 0 0 56 opAV 0 0 (fun e he => ?_) (fun e he a ha => ?_) (fun i j => .bool (Conf.opUse (j / 4) (j % 4))) (fun i j hi hj => ?_) (fun i j e a he ha => ?_))
    · simp only [opAV, List.mem_singleton] at he
      subst he
      simp [AV.cells, hl]
    · simp only [opAV, List.mem_singleton] at he
      subst he
      simp only [AV.cells, List.mem_map] at ha
      obtain ⟨b, _, rfl⟩ := ha
      rfl
    · have hi' : i < 1 := hi
      obtain rfl : i = 0 := by omega
      have := hT (j / 4) (j % 4) (by omega) (by omega)
      rw [show 0 + 0 * 56 + j = 4 * (j / 4) + j % 4 by omega]
      exact this
    · simp only [opAV, List.getElem?_singleton] at he
      split at he
      · cases he
        simp only [AV.cells, List.getElem?_map] at ha
        obtain ⟨b, hb, rfl⟩ := Option.map_eq_some_iff.1 ha
        have hj : j < 56 := by rw [← hl]; exact (List.getElem?_eq_some_iff.1 hb).1
        rw [opF_at j hj] at hb
        cases hb
        exact .v _ rfl
      · cases he
  · exact .unk _
theorem law_ofG {P : Program} {w : World} {G : Nat → AV} {f : FuncId} {bs : List AV} {xs : List Value} (h : PC P G f bs (.v (.bool true))) (hg : GOK G (fun b o => w.cell? ⟨b, o, none⟩)) (hl : xs.length = bs.length) (hv : ∀ (i : Nat) (c : Value) (a : AV), xs[i]? = some c → bs[i]? = some a → PV (fun b o => w.cell? ⟨b, o, none⟩) c a) :
    Calls P f xs.toArray w (fun e w' => e = .returned (.bool true) ∧ Go.RowKit.Below w.heap.size w w') := by
  refine (h w (fun b o => w.cell? ⟨b, o, none⟩) xs (fun _ _ _ h => h) hg hl hv).mono ?_
  rintro e w' ⟨v, F', rfl, hp, _, _, _, hb⟩
  cases hp
  exact ⟨rfl, hb⟩
end Go.Proofs.YtgcnbbjapapnjaaDoor.Sim
