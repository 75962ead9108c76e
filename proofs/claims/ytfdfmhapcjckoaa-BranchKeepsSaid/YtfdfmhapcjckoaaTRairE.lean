/- Bindings: two parts in order are merged. -/
import Derived.Test.YtfdfmhapcjckoaaTSimW
import Derived.Test.YtfdfmhapcjckoaaTRairD
namespace Go.Proofs.Ytfdfmhapcjckoaa.Sim.Pr7
open Go.RowKit
set_option maxRecDepth 100000
set_option linter.unusedSimpArgs false
set_option linter.unusedVariables false
theorem u64w {n : Int} (h : 0 ≤ n) (h2 : n ≤ 9223372036854775807) : IntKind.u64.wrap n = n := by
  rw [IntKind.wrap]
  simp only [IntKind.signed, IntKind.bits]
  simp
  omega
theorem cVu {n : Int} (h : 0 ≤ n) (h2 : n ≤ 9223372036854775807) : pureRun Try.prog (convert 3 76 (.int .i64 n)) = some (.int .u64 n) := by
  rw [cV_int (e := .int .i64) (k := .u64) (by kernel_rfl) (by kernel_rfl), u64w h h2]
theorem cVi {n : Int} (h : 0 ≤ n) (h2 : n ≤ 9223372036854775807) : pureRun Try.prog (convert 76 3 (.int .u64 n)) = some (.int .i64 n) := by
  rw [cV_int (e := .int .u64) (k := .i64) (by kernel_rfl) (by kernel_rfl), wrapI (by omega) h2]
theorem shr1 {P : Program} {t : TypeId} {xo yo : Operand} {i j : Nat} : binV P .shr t xo yo (.int .u64 ((i : Int) + (j : Int))) (.int .u64 1) = some (.int .u64 (((i + j) / 2 : Nat) : Int)) := by
  show some (Value.int .u64 (((i : Int) + (j : Int)).fdiv (2 ^ 1))) = _
  have : ((i : Int) + (j : Int)).fdiv (2 ^ 1) = (((i + j) / 2 : Nat) : Int) := by
    rw [Int.fdiv_eq_ediv_of_nonneg _ (by decide)]
    omega
  rw [this]
/-- Two parts of which the one is ahead of the other. -/
theorem ssort_app {X Y : List Pr} (h : ∀ x ∈ X, ∀ y ∈ Y, cB x.1 y.1 ≤ 0) : ssort (X ++ Y) = ssort X ++ ssort Y := by
  refine srt_uniq (ssort_le _) (List.pairwise_append.2 ⟨ssort_le X, ssort_le Y, fun x hx y hy => h x (ssort_mem.1 hx) y (ssort_mem.1 hy)⟩) fun k => ?_
  rw [ssort_fk, fk_append, fk_append, ssort_fk, ssort_fk]
theorem ssort_of {X : List Pr} (h : SLe X) : ssort X = X := srt_uniq (ssort_le X) h fun k => ssort_fk X
/-- Two parts that change places, where the second is ahead. -/
theorem ssort_swap {X A B Y : List Pr} (h : ∀ x ∈ A, ∀ y ∈ B, cB y.1 x.1 < 0) : ssort (X ++ A ++ B ++ Y) = ssort (X ++ B ++ A ++ Y) := by
  refine srt_uniq (ssort_le _) (ssort_le _) fun k => ?_
  simp only [ssort_fk, fk_append]
  have : fk k A = [] ∨ fk k B = [] := by
    by_cases hb : fk k B = []
    · exact .inr hb
    · left
      refine fk_none.2 fun x hx e => hb (fk_none.2 fun y hy e2 => ?_)
      have := h x hx y hy
      rw [e, e2, cB_self] at this
      omega
  rcases this with h | h <;> simp [h]
theorem ssort_merge {A1 A2 B1 B2 : List Pr} (hA : SLe (A1 ++ A2)) (hB : SLe (B1 ++ B2)) (h1 : ∀ x ∈ A2, ∀ y ∈ B1, cB y.1 x.1 < 0) (h2 : ∀ x ∈ A1, ∀ y ∈ B2, cB x.1 y.1 ≤ 0) :
    ssort (A1 ++ A2 ++ (B1 ++ B2)) = ssort (A1 ++ B1) ++ ssort (A2 ++ B2) := by
  have e1 := ssort_swap (X := A1) (A := A2) (B := B1) (Y := B2) h1
  rw [show A1 ++ A2 ++ (B1 ++ B2) = A1 ++ A2 ++ B1 ++ B2 by simp, e1, show A1 ++ B1 ++ A2 ++ B2 = (A1 ++ B1) ++ (A2 ++ B2) by simp]
  obtain ⟨_, _, a3⟩ := List.pairwise_append.1 hA
  obtain ⟨_, _, b3⟩ := List.pairwise_append.1 hB
  refine ssort_app fun x hx y hy => ?_
  rcases List.mem_append.1 hx with hx | hx <;> rcases List.mem_append.1 hy with hy | hy
  · exact a3 x hx y hy
  · exact h2 x hx y hy
  · have := h1 y hy x hx; omega
  · exact b3 x hx y hy
theorem rot_list {P A B R : List Pr} : px (P ++ (A ++ (B ++ R))) (rtf P.length (P.length + A.length) (P.length + A.length + B.length)) = P ++ (B ++ (A ++ R)) := by
  apply List.ext_getElem?
  intro x
  rw [px_at]
  have hgd : ∀ {L : List Pr} {i : Nat}, i < L.length → some (L.getD i default) = L[i]? := fun {L i} h => by
    rw [List.getD_eq_getElem?_getD, List.getElem?_eq_getElem h]; rfl
  by_cases hx : x < (P ++ (A ++ (B ++ R))).length
  · rw [if_pos hx, hgd (rtf_lt (by omega) (by omega) (by simp; omega) hx)]
    simp only [List.length_append] at hx
    unfold rtf
    by_cases h1 : x < P.length
    · rw [if_neg (by omega), if_neg (by omega), List.getElem?_append_left h1, List.getElem?_append_left h1]
    · rw [List.getElem?_append_right (l₁ := P) (l₂ := B ++ (A ++ R)) (by omega)]
      by_cases h2 : x < P.length + B.length
      · rw [if_pos (by omega), List.getElem?_append_right (by omega), List.getElem?_append_right (by omega), List.getElem?_append_left (by omega), List.getElem?_append_left (by omega)]
        congr 1; omega
      · rw [if_neg (by omega), List.getElem?_append_right (l₁ := B) (by omega)]
        by_cases h3 : x < P.length + B.length + A.length
        · rw [if_pos (by omega), List.getElem?_append_right (by omega), List.getElem?_append_left (by omega), List.getElem?_append_left (by omega)]
          congr 1; omega
        · rw [if_neg (by omega), List.getElem?_append_right (by omega), List.getElem?_append_right (by omega), List.getElem?_append_right (by omega), List.getElem?_append_right (by omega)]
          congr 1; omega
  · rw [if_neg hx, List.getElem?_eq_none (by simp at hx ⊢; omega)]
/-- Where a list in order changes its side. -/
theorem idx_lo {B : List Pr} (h : SLe B) (k : ByteArray) {i : Nat} (hi : i < B.length) : cB (B[i]).1 k < 0 ↔ i < (lo B k).length := by
  have hs := lo_split h k
  constructor
  · intro hc
    rcases Nat.lt_or_ge i (lo B k).length with h | h
    · exact h
    · exfalso
      have hm : B[i] ∈ B.filter (fun p => !decide (cB p.1 k < 0)) := by
        have e : B[i]? = (B.filter (fun p => !decide (cB p.1 k < 0)))[i - (lo B k).length]? := by
          conv => lhs; rw [hs]
          exact List.getElem?_append_right h
        rw [List.getElem?_eq_getElem hi] at e
        exact List.mem_of_getElem? e.symm
      have := (List.mem_filter.1 hm).2
      simp at this
      omega
  · intro hl
    have e : B[i]? = (lo B k)[i]? := by
      conv => lhs; rw [hs]
      exact List.getElem?_append_left hl
    rw [List.getElem?_eq_getElem hi, List.getElem?_eq_getElem hl] at e
    have e2 := Option.some.inj e
    have := (List.mem_filter.1 (List.getElem_mem hl)).2
    rw [← e2] at this
    simpa using this
theorem idx_le {B : List Pr} (h : SLe B) (k : ByteArray) {i : Nat} (hib : i < B.length) : cB (B[i]).1 k ≤ 0 ↔ i < (le B k).length := by
  have hs := le_split h k
  constructor
  · intro hc
    rcases Nat.lt_or_ge i (le B k).length with h | h
    · exact h
    · exfalso
      have hm : B[i] ∈ hi B k := by
        have e : B[i]? = (hi B k)[i - (le B k).length]? := by
          conv => lhs; rw [hs]
          exact List.getElem?_append_right h
        rw [List.getElem?_eq_getElem hib] at e
        exact List.mem_of_getElem? e.symm
      have := (List.mem_filter.1 hm).2
      simp only [decide_eq_true_eq] at this
      rw [cB_anti (B[i]).1 k] at this
      omega
  · intro hl
    have e : B[i]? = (le B k)[i]? := by
      conv => lhs; rw [hs]
      exact List.getElem?_append_left hl
    rw [List.getElem?_eq_getElem hib, List.getElem?_eq_getElem hl] at e
    have e2 := Option.some.inj e
    have := (List.mem_filter.1 (List.getElem_mem hl)).2
    rw [← e2] at this
    simpa using this
theorem lo_take {B : List Pr} (h : SLe B) (k : ByteArray) : B.take (lo B k).length = lo B k := by
  have := List.take_left (l₁ := lo B k) (l₂ := B.filter (fun p => !decide (cB p.1 k < 0)))
  rwa [← lo_split h k] at this
theorem le_take {B : List Pr} (h : SLe B) (k : ByteArray) : B.take (le B k).length = le B k := by
  have := List.take_left (l₁ := le B k) (l₂ := hi B k)
  rwa [← le_split h k] at this
theorem hi_drop {B : List Pr} (h : SLe B) (k : ByteArray) : B.drop (le B k).length = hi B k := by
  have := List.drop_left (l₁ := le B k) (l₂ := hi B k)
  rwa [← le_split h k] at this
theorem lo_len {B : List Pr} {k : ByteArray} : (lo B k).length ≤ B.length := List.length_filter_le ..
theorem le_len {B : List Pr} {k : ByteArray} : (le B k).length ≤ B.length := List.length_filter_le ..
/-- One binding merged with a list in order. -/
theorem one_left {B : List Pr} (h : SLe B) (x : Pr) : B.take (lo B x.1).length ++ x :: B.drop (lo B x.1).length = ssort (x :: B) := by
  have hd : B.drop (lo B x.1).length = B.filter (fun p => !decide (cB p.1 x.1 < 0)) := by
    have := List.drop_left (l₁ := lo B x.1) (l₂ := B.filter (fun p => !decide (cB p.1 x.1 < 0)))
    rwa [← lo_split h x.1] at this
  rw [lo_take h, hd]
  refine srt_uniq ?_ (ssort_le _) fun k => ?_
  · refine List.pairwise_append.2 ⟨List.Pairwise.filter _ h, List.pairwise_cons.2 ⟨fun q hq => ?_, List.Pairwise.filter _ h⟩, fun p hp q hq => ?_⟩
    · have := (List.mem_filter.1 hq).2
      simp at this
      rw [cB_anti q.1 x.1]; omega
    · have h1 : cB p.1 x.1 < 0 := by have := (List.mem_filter.1 hp).2; simpa using this
      rcases List.mem_cons.1 hq with rfl | hq
      · omega
      · have := (List.mem_filter.1 hq).2
        simp at this
        exact cB_le (b := x.1) (by omega) (by rw [cB_anti q.1 x.1]; omega)
  · rw [ssort_fk, fk_append, fk_cons, fk_cons]
    have e : fk k B = fk k (lo B x.1) ++ fk k (B.filter fun p => !decide (cB p.1 x.1 < 0)) := by
      rw [← fk_append, ← lo_split h x.1]
    rw [e]
    by_cases hk : x.1 = k
    · subst hk
      have : fk x.1 (lo B x.1) = [] := by rw [fk_lo, cB_self]; simp
      simp [this]
    · simp [hk]
theorem one_right {A : List Pr} (h : SLe A) (x : Pr) : A.take (le A x.1).length ++ x :: A.drop (le A x.1).length = ssort (A ++ [x]) := by
  have hd : A.drop (le A x.1).length = hi A x.1 := hi_drop h x.1
  rw [hd, le_take h]
  have := ins_at (S := ssort A) (S1 := le A x.1) (S2 := hi A x.1) (x := x) (L := A) (by rw [ssort_of h, ← le_split h x.1]) (fun p hp => by have := (List.mem_filter.1 hp).2; simpa using this) (fun q hq => by have := (List.mem_filter.1 hq).2; simpa using this)
  exact this
end Go.Proofs.Ytfdfmhapcjckoaa.Sim.Pr7
