/- What the table of the trailing zeros holds, off the laid datum. -/
import Derived.Test.YtpmbilmffalolaaDoorMask5
import Derived.LaidMore
import Derived.Lay
import Derived.Stop.Joined
import Derived.OpenShut
namespace Go.Proofs.YtpmbilmffalolaaDoor.Mk
open Go.RowKit Go.ChangeShapes Go.WideShapes Go.ChangeAt
set_option linter.unusedVariables false
theorem laid_table : (Rows.laid_math_bits_deBruijn32tab : DataW Unit) = .agg (Go.Lib.deBruijn32tab.map fun b : Nat => .lit (.int .u8 (b : Int))) := rfl
theorem tabAll {W : World} (h : laidMetH Tryd.prog [("math/bits.deBruijn32tab", Rows.laid_math_bits_deBruijn32tab)] W) : Tab W := by
  rw [MakeChecks.laidMetH_plain _ _ _ (by kernel_rfl)] at h
  obtain ⟨ps, ⟨g, t, cs, fuel, p, q, hg, ht, hv, hd, _, _⟩, _, _⟩ := h
  obtain rfl := Option.some.inj ((show Tryd.prog.globalNamed "math/bits.deBruijn32tab" = some 0 by kernel_rfl).symm.trans hg)
  obtain rfl := Option.some.inj ((show (Tryd.prog.globals[0]?).map (·.type) = some 38 by kernel_rfl).symm.trans ht)
  obtain ⟨xs, m, _, ex, _, hl, hel⟩ := DataW.trod_array Tryd.underlying38 hd
  have c5 : Tryd.prog.cellsOf 5 = 1 := by kernel_rfl
  intro i hi
  have hE := hel i hi
  rw [c5] at hE
  have e3 : (xs.map (·.1))[i]? = some (.lit (.int .u8 ((Go.Lib.deBruijn32tab.getD i 0 : Nat) : Int))) := by
    rw [← DataW.agg.inj ((Prod.mk.inj ex).1.symm.trans laid_table).symm, List.getElem?_map, List.getD, List.getElem?_eq_getElem (show i < Go.Lib.deBruijn32tab.length from hi)]
    rfl
  rw [List.getElem?_map] at e3
  cases hx : xs[i]? with
  | none => rw [hx] at e3; cases e3
  | some x =>
    rw [hx] at e3 hE
    obtain ⟨b', e1, e2⟩ := DataW.trod_int Tryd.underlying5 hE
    rw [World.var?_cell hg hv i]
    obtain ⟨e2, _⟩ := e2
    subst e2
    have eb : b' = ((Go.Lib.deBruijn32tab.getD i 0 : Nat) : Int) := by
      have := Option.some.inj e3
      exact (Lit.int.inj (DataW.lit.inj this)).2
    rw [← eb]
    have h0 : (List.take 1 (List.drop (i * 1) cs.toList))[0]? = some (.int .u8 b') := by rw [e1]; rfl
    simpa [List.getElem?_take, List.getElem?_drop] using h0
end Go.Proofs.YtpmbilmffalolaaDoor.Mk
