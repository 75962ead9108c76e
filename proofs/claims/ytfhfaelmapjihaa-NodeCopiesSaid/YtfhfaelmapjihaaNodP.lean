/- Nodes: arguments. -/
import Derived.Test.YtfhfaelmapjihaaNodC
namespace Go.Proofs.Ytfhfaelmapjihaa.Sim
open Go.RowKit
set_option maxRecDepth 100000
set_option linter.unusedSimpArgs false
set_option linter.unusedVariables false
abbrev PrS := {p : Pr // p.1.size ≤ 9223372036854775807 ∧ p.2.size ≤ 9223372036854775807}
def pC (p : PrS) : List AV := [S p.1.1, S p.1.2]
theorem pair_inv {cs : List AV} (h : ShC Try.prog 47 cs) : ∃ p : PrS, cs = pC p := by
  obtain ⟨p0, q, rfl, hp0, h⟩ := (h.flds (ts := [9, 9]) (by kernel_rfl)).cons
  obtain ⟨p1, q, rfl, hp1, h⟩ := h.cons
  obtain rfl := h.nil
  obtain ⟨a, rfl, ha⟩ := hp0.str_inv u_str
  obtain ⟨b, rfl, hb⟩ := hp1.str_inv u_str
  exact ⟨⟨(a, b), ha, hb⟩, rfl⟩
theorem node_inv {cs : List AV} (h : ShC Try.prog 27 cs) : ∃ (kn : Int) (ke va : ByteArray) (mp : Int) (kk : List Int) (mn : Int) (ls : List Pr) (sz bi : Int), mkE true cs = nV kn ke va mp kk mn ls sz bi ∧ ke.size ≤ 9223372036854775807 ∧ va.size ≤ 9223372036854775807 ∧ kk.length ≤ 9223372036854775807 ∧ ls.length ≤ 9223372036854775807 ∧ ∀ p ∈ ls, p.1.size ≤ 9223372036854775807 ∧ p.2.size ≤ 9223372036854775807 := by
  have i1 : (Try.prog).underlying 3 = some (.int .i64) := by kernel_rfl
  have i2 : (Try.prog).underlying 24 = some (.int .i64) := by kernel_rfl
  have e1 : isAggT Try.prog 24 = false := by kernel_rfl
  have e2 : isAggT Try.prog 47 = true := by kernel_rfl
  have e3 : (Try.prog).cellsOf 24 = 1 := by kernel_rfl
  have e4 : (Try.prog).cellsOf 47 = 2 := by kernel_rfl
  obtain ⟨p0, q, rfl, hp0, h⟩ := (h.flds (ts := [3, 9, 9, 22, 23, 24, 25, 3, 3]) (by kernel_rfl)).cons
  obtain ⟨p1, q, rfl, hp1, h⟩ := h.cons
  obtain ⟨p2, q, rfl, hp2, h⟩ := h.cons
  obtain ⟨p3, q, rfl, hp3, h⟩ := h.cons
  obtain ⟨p4, q, rfl, hp4, h⟩ := h.cons
  obtain ⟨p5, q, rfl, hp5, h⟩ := h.cons
  obtain ⟨p6, q, rfl, hp6, h⟩ := h.cons
  obtain ⟨p7, q, rfl, hp7, h⟩ := h.cons
  obtain ⟨p8, q, rfl, hp8, h⟩ := h.cons
  obtain rfl := h.nil
  obtain ⟨kn, rfl, _⟩ := hp0.i64_inv i1
  obtain ⟨ke, rfl, hke⟩ := hp1.str_inv u_str
  obtain ⟨va, rfl, hva⟩ := hp2.str_inv u_str
  obtain ⟨mp, rfl, _⟩ := hp3.u32_inv (by kernel_rfl)
  obtain ⟨css, rfl, hk, hkk⟩ := hp4.slice_inv (e := 24) (by kernel_rfl)
  obtain ⟨kk, rfl⟩ := pick_list (f := fun n : Int => [I n]) (fun cs h => by obtain ⟨n, e, _⟩ := h.i64_inv i2; exact ⟨n, e⟩) css hkk
  obtain ⟨mn, rfl, _⟩ := hp5.i64_inv i2
  obtain ⟨dss, rfl, hl, hll⟩ := hp6.slice_inv (e := 47) (by kernel_rfl)
  obtain ⟨ls, rfl⟩ := pick_list (f := pC) (fun cs h => pair_inv h) dss hll
  obtain ⟨sz, rfl, _⟩ := hp7.i64_inv i1
  obtain ⟨bi, rfl, _⟩ := hp8.i64_inv i1
  have g1 : (List.map (fun n : Int => [I n]) kk).map (mkE (isAggT Try.prog 24)) = kk.map iA := by rw [e1, List.map_map]; rfl
  have g2 : (List.map pC ls).map (mkE (isAggT Try.prog 47)) = (ls.map Subtype.val).map pA := by rw [e2, List.map_map, List.map_map]; rfl
  refine ⟨kn, ke, va, mp, kk, mn, ls.map Subtype.val, sz, bi, ?_, hke, hva, by simpa using hk, by simpa using hl, ?_⟩
  · rw [g1, g2, e3, e4]; rfl
  · intro p hp
    obtain ⟨q, _, rfl⟩ := List.mem_map.1 hp
    exact q.2
end Go.Proofs.Ytfhfaelmapjihaa.Sim
