/- A Cas changes its cell just if it says so. -/
import Derived.Test.YtniackbkhfhpaaaCellB1
import Derived.Test.YtniackbkhfhpaaaCellC1
import Derived.Test.YtniackbkhfhpaaaCellD1
import Derived.Test.YtniackbkhfhpaaaCellE1
namespace Go.Proofs.Ytniackbkhfhpaaa.Sim
open Go.RowKit
set_option maxRecDepth 100000
set_option linter.unusedSimpArgs false
set_option linter.unusedVariables false
theorem changes (G : Nat → AV) (l : List W3) (d i : Int) (o p : W3) (hl : l.length ≤ 9223372036854775807) (hi : -9223372036854775808 ≤ i ∧ i ≤ 9223372036854775807) :
    PC Try.prog G 5 [.sl 3 (l.map wA), .agg [I d, I i, I o.1, I o.2.1, I o.2.2, I p.1, I p.2.1, I p.2.2]] (Bo true) := by
  by_cases h1 : i < 0
  · exact changes_d G l _ rfl d i o p hl hi h1
  · by_cases h2 : ((min l.length 20 : Nat) : Int) ≤ i
    · exact changes_e G l _ rfl d i o p hl hi ⟨by omega, h2⟩
    · obtain ⟨j, hj⟩ := Int.eq_ofNat_of_zero_le (show 0 ≤ i by omega)
      have hj' : j < min l.length 20 := by omega
      have hjl : j < l.length := by omega
      by_cases h3 : l[j] = o
      · exact changes_b G l _ rfl d i o p hl hi j hj hj' (fun _ => h3)
      · exact changes_c G l _ rfl d i o p hl hi j hj hj' (fun _ => h3)
theorem CellChanges_calls (as0 as1 : List AV) (s0 : ShC Try.prog 28 as0) (s1 : ShC Try.prog 35 as1) : PC Try.prog (fun _ => .unk) 5 [mkE (isAggT Try.prog 28) as0, mkE (isAggT Try.prog 35) as1] (Bo true) := by
  obtain ⟨css, rfl, hl, hh⟩ := s0.slice_inv (e := 33) (by kernel_rfl)
  obtain ⟨l, rfl⟩ := pick_list (f := wC) (fun cs h => word_inv (a := 31) (b := 3) (c := 3) (by kernel_rfl) (by kernel_rfl) (by kernel_rfl) (by kernel_rfl) h) css hh
  obtain ⟨p0, q, rfl, hp0, h⟩ := (s1.flds (ts := [3, 3, 33, 33]) (by kernel_rfl)).cons
  obtain ⟨p1, q, rfl, hp1, h⟩ := h.cons
  obtain ⟨p2, q, rfl, hp2, h⟩ := h.cons
  obtain ⟨p3, q, rfl, hp3, h⟩ := h.cons
  obtain rfl := h.nil
  obtain ⟨d, rfl, _⟩ := hp0.i64_inv (by kernel_rfl)
  obtain ⟨i, rfl, hi⟩ := hp1.i64_inv (by kernel_rfl)
  obtain ⟨o, rfl⟩ := word_inv (a := 31) (b := 3) (c := 3) (by kernel_rfl) (by kernel_rfl) (by kernel_rfl) (by kernel_rfl) hp2
  obtain ⟨p, rfl⟩ := word_inv (a := 31) (b := 3) (c := 3) (by kernel_rfl) (by kernel_rfl) (by kernel_rfl) (by kernel_rfl) hp3
  have e1 : isAggT Try.prog 28 = false := by kernel_rfl
  have e2 : isAggT Try.prog 35 = true := by kernel_rfl
  have e3 : isAggT Try.prog 33 = true := by kernel_rfl
  have e4 : (Try.prog).cellsOf 33 = 3 := by kernel_rfl
  have := changes (fun _ => .unk) l d i o p (by simpa using hl) hi
  have e5 : (List.map wC l).map (mkE (isAggT Try.prog 33)) = l.map wA := by rw [e3, List.map_map]; rfl
  rw [e1, e2, e5, e4]
  exact this
end Go.Proofs.Ytniackbkhfhpaaa.Sim
