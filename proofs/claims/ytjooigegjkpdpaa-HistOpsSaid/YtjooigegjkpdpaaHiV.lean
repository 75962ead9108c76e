/- Histories: arguments. -/
import Derived.Test.YtjooigegjkpdpaaHiB
import Derived.Test.YtjooigegjkpdpaaSimY
import Derived.Test.YtjooigegjkpdpaaLists
namespace Go.Proofs.Ytjooigegjkpdpaa.Sim
open Go.RowKit
set_option maxRecDepth 100000
set_option linter.unusedSimpArgs false
set_option linter.unusedVariables false
theorem call_inv {cs : List AV} (h : ShC Try.prog 38 cs) : ∃ c : Hi.Cl, cs = [I c.op, S c.key, S c.val, S c.old, I c.h] := by
  have i1 : (Try.prog).underlying 3 = some (.int .i64) := by kernel_rfl
  have i2 : (Try.prog).underlying 9 = some .string := by kernel_rfl
  obtain ⟨p0, q, rfl, h0, h⟩ := (h.flds (ts := [3, 9, 9, 9, 3]) (by kernel_rfl)).cons
  obtain ⟨p1, q, rfl, h1, h⟩ := h.cons
  obtain ⟨p2, q, rfl, h2, h⟩ := h.cons
  obtain ⟨p3, q, rfl, h3, h⟩ := h.cons
  obtain ⟨p4, q, rfl, h4, h⟩ := h.cons
  obtain rfl := h.nil
  obtain ⟨n0, rfl, _⟩ := h0.i64_inv i1
  obtain ⟨n1, rfl, _⟩ := h1.str_inv i2
  obtain ⟨n2, rfl, _⟩ := h2.str_inv i2
  obtain ⟨n3, rfl, _⟩ := h3.str_inv i2
  obtain ⟨n4, rfl, _⟩ := h4.i64_inv i1
  exact ⟨⟨n0, n1, n2, n3, n4⟩, rfl⟩
theorem ans_inv {cs : List AV} (h : ShC Try.prog 40 cs) : ∃ a : Hi.An, cs = [I a.code, Bo a.has, S a.key, S a.val, I a.n] := by
  have i1 : (Try.prog).underlying 3 = some (.int .i64) := by kernel_rfl
  have i2 : (Try.prog).underlying 9 = some .string := by kernel_rfl
  have i3 : (Try.prog).underlying 24 = some (.int .i64) := by kernel_rfl
  have i4 : (Try.prog).underlying 4 = some .bool := by kernel_rfl
  obtain ⟨p0, q, rfl, h0, h⟩ := (h.flds (ts := [24, 4, 9, 9, 3]) (by kernel_rfl)).cons
  obtain ⟨p1, q, rfl, h1, h⟩ := h.cons
  obtain ⟨p2, q, rfl, h2, h⟩ := h.cons
  obtain ⟨p3, q, rfl, h3, h⟩ := h.cons
  obtain ⟨p4, q, rfl, h4, h⟩ := h.cons
  obtain rfl := h.nil
  obtain ⟨n0, rfl, _⟩ := h0.i64_inv i3
  obtain ⟨n1, rfl⟩ := h1.bool_inv i4
  obtain ⟨n2, rfl, _⟩ := h2.str_inv i2
  obtain ⟨n3, rfl, _⟩ := h3.str_inv i2
  obtain ⟨n4, rfl, _⟩ := h4.i64_inv i1
  exact ⟨⟨n0, n1, n2, n3, n4⟩, rfl⟩
def evC (e : Hi.Ev) : List AV := [Bo e.res, I e.t, I e.c.op, S e.c.key, S e.c.val, S e.c.old, I e.c.h, I e.a.code, Bo e.a.has, S e.a.key, S e.a.val, I e.a.n]
theorem ev_inv {cs : List AV} (h : ShC Try.prog 62 cs) : ∃ e : Hi.Ev, cs = evC e := by
  have i1 : (Try.prog).underlying 3 = some (.int .i64) := by kernel_rfl
  have i4 : (Try.prog).underlying 4 = some .bool := by kernel_rfl
  obtain ⟨p0, q, rfl, h0, h⟩ := (h.flds (ts := [4, 3, 38, 40]) (by kernel_rfl)).cons
  obtain ⟨p1, q, rfl, h1, h⟩ := h.cons
  obtain ⟨p2, q, rfl, h2, h⟩ := h.cons
  obtain ⟨p3, q, rfl, h3, h⟩ := h.cons
  obtain rfl := h.nil
  obtain ⟨n0, rfl⟩ := h0.bool_inv i4
  obtain ⟨n1, rfl, _⟩ := h1.i64_inv i1
  obtain ⟨c, rfl⟩ := call_inv h2
  obtain ⟨a, rfl⟩ := ans_inv h3
  exact ⟨⟨n0, n1, c, a⟩, rfl⟩
theorem evs_inv {cs : List AV} (h : ShC Try.prog 22 cs) : ∃ l : List Hi.Ev, cs = [.sl 12 (l.map evA)] ∧ l.length ≤ 9223372036854775807 := by
  have e2 : isAggT Try.prog 62 = true := by kernel_rfl
  have e4 : (Try.prog).cellsOf 62 = 12 := by kernel_rfl
  obtain ⟨dss, rfl, hl, hll⟩ := h.slice_inv (e := 62) (by kernel_rfl)
  obtain ⟨ls, rfl⟩ := pick_list (f := evC) (fun cs h => ev_inv h) dss hll
  have g2 : (List.map evC ls).map (mkE (isAggT Try.prog 62)) = ls.map evA := by rw [e2, List.map_map]; rfl
  refine ⟨ls, ?_, by simpa using hl⟩
  rw [g2, e4]
theorem op_inv {cs : List AV} (h : ShC Try.prog 44 cs) : ∃ o : Hi.Op, mkE true cs = opA o := by
  have i1 : (Try.prog).underlying 3 = some (.int .i64) := by kernel_rfl
  have i4 : (Try.prog).underlying 4 = some .bool := by kernel_rfl
  obtain ⟨p0, q, rfl, h0, h⟩ := (h.flds (ts := [3, 38, 40, 4, 3, 3]) (by kernel_rfl)).cons
  obtain ⟨p1, q, rfl, h1, h⟩ := h.cons
  obtain ⟨p2, q, rfl, h2, h⟩ := h.cons
  obtain ⟨p3, q, rfl, h3, h⟩ := h.cons
  obtain ⟨p4, q, rfl, h4, h⟩ := h.cons
  obtain ⟨p5, q, rfl, h5, h⟩ := h.cons
  obtain rfl := h.nil
  obtain ⟨n0, rfl, _⟩ := h0.i64_inv i1
  obtain ⟨c, rfl⟩ := call_inv h1
  obtain ⟨a, rfl⟩ := ans_inv h2
  obtain ⟨n3, rfl⟩ := h3.bool_inv i4
  obtain ⟨n4, rfl, _⟩ := h4.i64_inv i1
  obtain ⟨n5, rfl, _⟩ := h5.i64_inv i1
  exact ⟨⟨n0, c, a, n3, n4, n5⟩, rfl⟩
end Go.Proofs.Ytjooigegjkpdpaa.Sim
