/- Arenas used anyhow: the law, of any arguments. -/
import Derived.Test.YtjaohiakpajgkaaArnH
namespace Go.Proofs.Ytjaohiakpajgkaa.Sim
open Go.RowKit
set_option maxRecDepth 100000
set_option linter.unusedSimpArgs false
set_option linter.unusedVariables false
abbrev ActS := {a : Act // i64 a.2.1}
def actC (a : ActS) : List AV := [I a.1.1, I a.1.2.1, I a.1.2.2]
theorem act_inv {cs : List AV} (h : ShC Try.prog 32 cs) : ∃ a : ActS, cs = actC a := by
  obtain ⟨p0, q, rfl, hp0, h⟩ := (h.flds (ts := [3, 3, 3]) (by kernel_rfl)).cons
  obtain ⟨p1, q, rfl, hp1, h⟩ := h.cons
  obtain ⟨p2, q, rfl, hp2, h⟩ := h.cons
  obtain rfl := h.nil
  obtain ⟨d, rfl, _⟩ := hp0.i64_inv (by kernel_rfl)
  obtain ⟨r, rfl, hr⟩ := hp1.i64_inv (by kernel_rfl)
  obtain ⟨v, rfl, _⟩ := hp2.i64_inv (by kernel_rfl)
  exact ⟨⟨(d, r, v), hr⟩, rfl⟩
theorem ArenaPlays_calls (as0 as1 : List AV) (s0 : ShC Try.prog 5 as0) (s1 : ShC Try.prog 22 as1) : PC Try.prog (fun _ => .unk) 3 [mkE (isAggT Try.prog 5) as0, mkE (isAggT Try.prog 22) as1] (Bo true) := by
  obtain ⟨b, rfl, hb0, hb1⟩ := s0.u8_inv (by kernel_rfl)
  obtain ⟨b, rfl⟩ := Int.eq_ofNat_of_zero_le hb0
  obtain ⟨css, rfl, hl, hh⟩ := s1.slice_inv (e := 32) (by kernel_rfl)
  obtain ⟨l, rfl⟩ := pick_list (f := actC) (fun cs h => act_inv h) css hh
  have e1 : isAggT Try.prog 5 = false := by kernel_rfl
  have e2 : isAggT Try.prog 22 = false := by kernel_rfl
  have e3 : isAggT Try.prog 32 = true := by kernel_rfl
  have e4 : (Try.prog).cellsOf 32 = 3 := by kernel_rfl
  have e5 : (List.map actC l).map (mkE (isAggT Try.prog 32)) = (l.map Subtype.val).map actA := by rw [e3, List.map_map, List.map_map]; rfl
  rw [e1, e2, e5, e4]
  exact plays (fun _ => .unk) b (by omega) (l.map Subtype.val) (by simpa using hl) (fun a ha => by
    obtain ⟨q, _, rfl⟩ := List.mem_map.1 ha
    exact q.2)
end Go.Proofs.Ytjaohiakpajgkaa.Sim
