/- Bindings: the document's answers. -/
import Derived.Test.YtfdfmhapcjckoaaTSimW
import Derived.Test.YtfdfmhapcjckoaaTRairJ
namespace Go.Proofs.Ytfdfmhapcjckoaa.Sim.Pr7
open Go.RowKit
set_option maxRecDepth 100000
set_option linter.unusedSimpArgs false
set_option linter.unusedVariables false
section
variable {α : Type} {J K : List α} {o a b y : α}
theorem gR0 : (J ++ o :: K)[J.length]? = some o := by simp
theorem gR01 : (J ++ o :: K ++ [a])[J.length]? = some o := by simp
theorem gR02 : (J ++ o :: K ++ [a] ++ [b])[J.length]? = some o := by simp
theorem sR0 : (J ++ o :: K).set J.length y = J ++ y :: K := by simp
theorem sR01 : (J ++ o :: K ++ [a]).set J.length y = J ++ y :: K ++ [a] := by simp
theorem sR02 : (J ++ o :: K ++ [a] ++ [b]).set J.length y = J ++ y :: K ++ [a] ++ [b] := by simp
theorem lR0 : (J ++ o :: K).length = J.length + (K.length + 1) := by simp
theorem lR1 : (J ++ o :: K ++ [a]).length = J.length + (K.length + 1) + 1 := by simp; omega
theorem kR {M : List α} {i : Nat} : (J ++ o :: K ++ M)[J.length + (K.length + 1) + i]? = M[i]? := by
  have := ga (L := J ++ o :: K) (M := M) (i := i)
  rwa [lR0] at this
theorem tR {M : List α} {i : Nat} : (J ++ o :: K ++ M).set (J.length + (K.length + 1) + i) y = J ++ o :: K ++ M.set i y := by
  have := sa (L := J ++ o :: K) (M := M) (i := i) (y := y)
  rwa [lR0] at this
theorem gR1 : (J ++ o :: K ++ [a])[J.length + (K.length + 1)]? = some a := kR (i := 0)
theorem gR2 : (J ++ o :: K ++ [a] ++ [b])[J.length + (K.length + 1)]? = some a := by rw [List.append_assoc]; exact kR (i := 0)
theorem gR22 : (J ++ o :: K ++ [a] ++ [b])[J.length + (K.length + 1) + 1]? = some b := by rw [List.append_assoc]; exact kR (i := 1)
theorem sR1 : (J ++ o :: K ++ [a]).set (J.length + (K.length + 1)) y = J ++ o :: K ++ [y] := tR (i := 0)
theorem sR2 : (J ++ o :: K ++ [a] ++ [b]).set (J.length + (K.length + 1)) y = J ++ o :: K ++ [y] ++ [b] := by simp
theorem sR22 : (J ++ o :: K ++ [a] ++ [b]).set (J.length + (K.length + 1) + 1) y = J ++ o :: K ++ [a] ++ [y] := by have h := tR (J := J) (K := K) (o := o) (M := [a, b]) (i := 1) (y := y); simpa using h
theorem nR : (J.length + (K.length + 1) = J.length) = False := by simp
end
theorem lasts_drop {l : List Pr} {k : Nat} (h : k < l.length) : lasts (l.drop k) = if fk (l[k]).1 (l.drop (k + 1)) = [] then l[k] :: lasts (l.drop (k + 1)) else lasts (l.drop (k + 1)) := by
  rw [List.drop_eq_getElem_cons h]; rfl
/-- One more of the last bindings. -/
theorem mk_snoc {l pre : List Pr} {x : Pr} {rest : List Pr} (h : lasts l = pre ++ x :: rest) : (mk pre).take (lo (mk pre) x.1).length ++ x :: (mk pre).drop (lo (mk pre) x.1).length = mk (pre ++ [x]) := by
  have hne := lasts_ne l
  rw [h] at hne
  have h1 : fk x.1 pre = [] := fk_none.2 fun p hp => (List.pairwise_append.1 hne).2.2 p hp x (by simp)
  have h2 : fk x.1 (mk pre) = [] := val_none.1 (by rw [mk_val, val_none]; exact h1)
  have h3 := le_lo (mk_lt pre) x.1
  rw [h2, List.append_nil] at h3
  rw [lo_take (mk_lt pre).le, ← h3, hi_drop (mk_lt pre).le, h3]
  exact pt_mk pre x.1 x.2
theorem fin15 {l pre : List Pr} {k : Nat} {A : Prop} {v : Nat → AV} {H : Hp} (h1 : A) (h2 : lasts l = pre ++ lasts (l.drop k)) (h3 : v 4 = I k) (h4 : ∃ (J K : Hp) (g fz : Nat), v 3 = .ol J.length g (mk pre).length ∧ H = J ++ ⟨62, 2, (mk pre).map pA, g, fz⟩ :: K) :
    A ∧ ∃ (pre : List Pr) (J K : Hp) (g fz : Nat), lasts l = pre ++ lasts (l.drop k) ∧ v 4 = I k ∧ v 3 = .ol J.length g (mk pre).length ∧ H = J ++ ⟨62, 2, (mk pre).map pA, g, fz⟩ :: K := by
  obtain ⟨J, K, g, fz, a, b⟩ := h4
  exact ⟨h1, pre, J, K, g, fz, h2, h3, a, b⟩
end Go.Proofs.Ytfdfmhapcjckoaa.Sim.Pr7
