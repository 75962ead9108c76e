/- Nodes: what a node says. -/
import Derived.Test.YtfhfaelmapjihaaNodB
import Derived.Test.YtfhfaelmapjihaaOrd
namespace Go.Proofs.Ytfhfaelmapjihaa.Sim
open Go.RowKit
set_option maxRecDepth 100000
set_option linter.unusedSimpArgs false
set_option linter.unusedVariables false
abbrev nV (kn : Int) (ke va : ByteArray) (mp : Int) (kk : List Int) (mn : Int) (ls : List Pr) (sz bi : Int) : AV := .agg [I kn, S ke, S va, .v (.int .u32 mp), .sl 1 (kk.map iA), I mn, .sl 2 (ls.map pA), I sz, I bi]
section
variable {P : Program} {t : TypeId} {xo yo : Operand} {a b : Int}
theorem b32e : binV P .eql t xo yo (.int .u32 a) (.int .u32 b) = some (.bool (decide (a = b))) := by
  have : (a == b) = decide (a = b) := by by_cases h : a = b <;> simp [h]
  rw [← this]; rfl
theorem b32n : binV P .neq t xo yo (.int .u32 a) (.int .u32 b) = some (.bool (decide (a ≠ b))) := by
  have : (a != b) = decide (a ≠ b) := by by_cases h : a = b <;> simp [h]
  rw [← this]; rfl
end
def cB (a b : ByteArray) : Int := Ord.cmp a.data.toList b.data.toList
theorem cB_self (a : ByteArray) : cB a a = 0 := Ord.cmp_self _
theorem cB_ne {a b : ByteArray} (h : ¬ a = b) : ¬ cB a b = 0 := fun e => h (by
  have := (Ord.cmp_zero _ _).1 e
  cases a; cases b
  simp only [ByteArray.mk.injEq]
  exact Array.ext' this)
theorem cmpP (G : Nat → AV) (a b : ByteArray) (ha : a.size ≤ 9223372036854775807) (hb : b.size ≤ 9223372036854775807) : PC Try.prog G 39 [S a, S b] (I (cB a b)) :=
  pc_calls rfl rfl (fun w => (Ord.Compare_calls a b w (by rw [maxLenE]; exact ha) (by rw [maxLenE]; exact hb)).mono fun e w' h => h.fresh)
end Go.Proofs.Ytfhfaelmapjihaa.Sim
