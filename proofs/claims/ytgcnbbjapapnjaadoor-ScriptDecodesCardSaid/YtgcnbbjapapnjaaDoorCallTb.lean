/- What the table of the ops holds, whole (alone). -/
import Derived.Test.YtgcnbbjapapnjaaDoorRows
import Derived.RowKit
import Derived.ChangeAt
import Derived.WalkKit
import Derived.LaidMore
import Derived.Lay
import Derived.Stop.Joined
import Derived.OpenShut
namespace Go.Proofs.YtgcnbbjapapnjaaDoor.Conf
open Go.RowKit Go.ChangeShapes Go.WideShapes Go.ChangeAt
set_option linter.unusedVariables false
def opTable : List (List Bool) := [[false, false, false, false], [true, false, false, false], [true, true, false, false], [true, true, false, false], [true, true, true, false], [true, false, false, false], [true, false, false, false], [false, false, false, false], [false, false, false, true], [true, false, false, true], [false, false, false, true], [true, false, false, true], [false, false, false, true], [false, false, false, false]]
def opUse (i j : Nat) : Bool := (opTable.getD i []).getD j false
def Tab (w : World) : Prop := ∀ i j : Nat, i < 14 → j < 4 → w.cell? ⟨0, 4 * i + j, none⟩ = some (.bool (opUse i j))
theorem laid_table : (Rows.laid_boscage_call_uses : DataW Unit) = .agg (opTable.map fun r => .agg (r.map fun b => .lit (.bool b))) := rfl
theorem rows4 : ∀ i : Nat, i < 14 → (opTable.getD i []).length = 4 := by decide
theorem tabAll {W : World} (h : laidMetH Tryd.prog [("boscage/call.uses", Rows.laid_boscage_call_uses)] W) : Tab W := by
  rw [MakeChecks.laidMetH_plain _ _ _ (by kernel_rfl)] at h
  obtain ⟨ps, ⟨g, t, cs, fuel, p, q, hg, ht, hv, hd, _, _⟩, _, _⟩ := h
  obtain rfl := Option.some.inj ((show Tryd.prog.globalNamed "boscage/call.uses" = some 0 by kernel_rfl).symm.trans hg)
  obtain rfl := Option.some.inj ((show (Tryd.prog.globals[0]?).map (·.type) = some 56 by kernel_rfl).symm.trans ht)
  obtain ⟨xs, m, _, ex, _, hl, hel⟩ := DataW.trod_array Tryd.underlying56 hd
  have c5 : Tryd.prog.cellsOf 55 = 4 := by kernel_rfl
  have c4 : Tryd.prog.cellsOf 4 = 1 := by kernel_rfl
  intro i j hi hj
  have hE := hel i hi
  rw [c5] at hE
  have e3 : (xs.map (·.1))[i]? = some (.agg ((opTable.getD i []).map fun b => .lit (.bool b))) := by
    rw [← DataW.agg.inj ((Prod.mk.inj ex).1.symm.trans laid_table).symm, List.getElem?_map, List.getD, List.getElem?_eq_getElem (show i < opTable.length from hi)]
    rfl
  obtain ⟨x2, hx2, hx2'⟩ : ∃ x, xs[i]? = some x ∧ x.1 = (.agg ((opTable.getD i []).map fun b => .lit (.bool b)) : DataW Unit) := by
    rw [List.getElem?_map] at e3
    cases hx : xs[i]? with
    | none => rw [hx] at e3; cases e3
    | some x => rw [hx] at e3; exact ⟨x, rfl, by simpa using e3⟩
  rw [hx2] at hE
  obtain ⟨ys, n, _, ey, _, hlen, hgf⟩ := DataW.trod_struct Tryd.underlying55 hE
  have e4 : ys.map (·.1) = (opTable.getD i []).map fun b => .lit (.bool b) := by
    rw [ey] at hx2'
    exact DataW.agg.inj hx2'
  have hy : DataW.trod (fun _ => ()) Tryd.prog W 0 (fun _ => true) false n 4 (List.take 1 (List.drop j (List.take 4 (List.drop (i * 4) cs.toList)))) = ys[j]? := by
    rw [← c4]
    match j, hj with
    | 0, _ => exact hgf 0 _ rfl
    | 1, _ => exact hgf 1 _ rfl
    | 2, _ => exact hgf 2 _ rfl
    | 3, _ => exact hgf 3 _ rfl
  have hb : (ys.map (·.1))[j]? = some (.lit (.bool (opUse i j))) := by
    rw [e4, List.getElem?_map]
    unfold opUse
    have h4 := rows4 i hi
    generalize opTable.getD i [] = r at h4
    have hj' : j < r.length := by omega
    simp [hj']
  rw [List.getElem?_map] at hb
  cases hx : ys[j]? with
  | none => rw [hx] at hb; cases hb
  | some y =>
    rw [hx] at hb hy
    obtain ⟨b', e1, e2⟩ := DataW.trod_bool Tryd.underlying4 hy
    subst e2
    have eb : b' = opUse i j := by simpa using hb
    rw [← eb]
    have h0 : (List.take 1 (List.drop j (List.take 4 (List.drop (i * 4) cs.toList))))[0]? = some (.bool b') := by rw [e1]; rfl
    rw [World.var?_cell hg hv (4 * i + j), Nat.mul_comm 4 i]
    simpa [List.getElem?_take, List.getElem?_drop, hj] using h0
end Go.Proofs.YtgcnbbjapapnjaaDoor.Conf
