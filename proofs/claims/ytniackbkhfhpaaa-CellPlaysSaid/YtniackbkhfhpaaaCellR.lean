/- Cells used anyhow: the law. -/
import Derived.Test.YtniackbkhfhpaaaCellQ
namespace Go.Proofs.Ytniackbkhfhpaaa.Sim
open Go.RowKit
set_option maxRecDepth 100000
set_option linter.unusedSimpArgs false
set_option linter.unusedVariables false
def aC (a : Act8) : List AV := [I a.1, I a.2.1, I a.2.2.1.1, I a.2.2.1.2.1, I a.2.2.1.2.2, I a.2.2.2.1, I a.2.2.2.2.1, I a.2.2.2.2.2]
theorem act_inv {cs : List AV} (h : ShC Try.prog 35 cs) : ∃ a : Act8, cs = aC a := by
  obtain ⟨p0, q, rfl, hp0, h⟩ := (h.flds (ts := [3, 3, 33, 33]) (by kernel_rfl)).cons
  obtain ⟨p1, q, rfl, hp1, h⟩ := h.cons
  obtain ⟨p2, q, rfl, hp2, h⟩ := h.cons
  obtain ⟨p3, q, rfl, hp3, h⟩ := h.cons
  obtain rfl := h.nil
  obtain ⟨d, rfl, _⟩ := hp0.i64_inv (by kernel_rfl)
  obtain ⟨i, rfl, hi⟩ := hp1.i64_inv (by kernel_rfl)
  obtain ⟨o, rfl⟩ := word_inv (a := 31) (b := 3) (c := 3) (by kernel_rfl) (by kernel_rfl) (by kernel_rfl) (by kernel_rfl) hp2
  obtain ⟨p, rfl⟩ := word_inv (a := 31) (b := 3) (c := 3) (by kernel_rfl) (by kernel_rfl) (by kernel_rfl) (by kernel_rfl) hp3
  exact ⟨(d, i, o, p), rfl⟩
theorem CellPlays_calls (as0 as1 : List AV) (s0 : ShC Try.prog 5 as0) (s1 : ShC Try.prog 22 as1) : PC Try.prog (fun _ => .unk) 3 [mkE (isAggT Try.prog 5) as0, mkE (isAggT Try.prog 22) as1] (Bo true) := by
  obtain ⟨b, rfl, hb0, hb1⟩ := s0.u8_inv (by kernel_rfl)
  obtain ⟨b, rfl⟩ := Int.eq_ofNat_of_zero_le hb0
  obtain ⟨css, rfl, hl, hh⟩ := s1.slice_inv (e := 35) (by kernel_rfl)
  obtain ⟨l, rfl⟩ := pick_list (f := aC) (fun cs h => act_inv h) css hh
  have e1 : isAggT Try.prog 5 = false := by kernel_rfl
  have e2 : isAggT Try.prog 22 = false := by kernel_rfl
  have e3 : isAggT Try.prog 35 = true := by kernel_rfl
  have e4 : (Try.prog).cellsOf 35 = 8 := by kernel_rfl
  have e5 : (List.map aC l).map (mkE (isAggT Try.prog 35)) = l.map aA := by rw [e3, List.map_map]; rfl
  rw [e1, e2, e5, e4]
  exact plays (fun _ => .unk) b (by omega) l (by simpa using hl)
end Go.Proofs.Ytniackbkhfhpaaa.Sim
