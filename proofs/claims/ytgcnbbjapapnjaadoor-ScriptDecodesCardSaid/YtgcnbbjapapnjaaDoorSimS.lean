/- Pieces of texts. -/
import Derived.Test.YtgcnbbjapapnjaaDoorSimZ
namespace Go.Proofs.YtgcnbbjapapnjaaDoor.Sim
open Go.RowKit
set_option linter.unusedVariables false
set_option linter.unusedSimpArgs false
theorem cutV {P : Program} {t : TypeId} (ht : P.underlying t = some .string) {s : ByteArray} {h : Int} (h0 : 0 ≤ h) (h1 : h ≤ s.size) : pureRun P (Instr.sliceAt t (.string s) none (some (.int .i64 h)) none) = some (.string (s.extract 0 h.toNat)) := by
  unfold Instr.sliceAt
  show pureRun P (underlying t >>= _) = _
  rw [pureRun_bind, pureRun_und ht]
  show pureRun P (Instr.slice t (.string s) none (some (.int .i64 h)) none) = _
  unfold Instr.slice
  show pureRun P (underlying t >>= _) = _
  rw [pureRun_bind, pureRun_und ht]
  show pureRun P (Instr.sliceBounds false s.size s.size none (some (.int .i64 h)) none >>= _) = _
  rw [pureRun_bind]
  have e : pureRun P (Instr.sliceBounds false s.size s.size none (some (.int .i64 h)) none) = some (0, h.toNat, s.size) := by
    unfold Instr.sliceBounds
    show pureRun P (Instr.sliceBound (.int .i64 h) s.size .sliceAlen >>= _) = _
    rw [pureRun_bind]
    have e2 : pureRun P (Instr.sliceBound (.int .i64 h) s.size .sliceAlen) = some h.toNat := by
      unfold Instr.sliceBound
      show pureRun P (if 0 ≤ h ∧ h ≤ s.size then pure h.toNat else _) = _
      rw [if_pos ⟨h0, h1⟩]
      rfl
    rw [e2]
    rfl
  rw [e]
  rfl
end Go.Proofs.YtgcnbbjapapnjaaDoor.Sim
