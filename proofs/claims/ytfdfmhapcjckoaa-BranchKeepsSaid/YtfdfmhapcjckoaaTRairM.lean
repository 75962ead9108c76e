/- Bindings in order: plain mathematics. -/
import Derived.Test.YtfdfmhapcjckoaaOrdPlain
import Derived.Test.YtfdfmhapcjckoaaTSimT
namespace Go.Proofs.Ytfdfmhapcjckoaa.Sim.Pr7
open Go.RowKit
set_option linter.unusedSimpArgs false
set_option linter.unusedVariables false
abbrev Pr := ByteArray × ByteArray
def cB (a b : ByteArray) : Int := Ord.cmp a.data.toList b.data.toList
theorem ba_ext {a b : ByteArray} (h : a.data.toList = b.data.toList) : a = b := by
  cases a; cases b
  simp only [ByteArray.mk.injEq]
  exact Array.ext' h
theorem cB_self (a : ByteArray) : cB a a = 0 := Ord.cmp_self _
theorem cB_zero {a b : ByteArray} : cB a b = 0 ↔ a = b := ⟨fun e => ba_ext ((Ord.cmp_zero _ _).1 e), fun e => by subst e; exact cB_self a⟩
theorem cB_ne {a b : ByteArray} (h : ¬ a = b) : ¬ cB a b = 0 := fun e => h (cB_zero.1 e)
theorem cB_anti (a b : ByteArray) : cB b a = - cB a b := Ord.cmp_anti _ _
theorem cB_le {a b c : ByteArray} (h1 : cB a b ≤ 0) (h2 : cB b c ≤ 0) : cB a c ≤ 0 := (Ord.cmp_trans _ _ _ h1 h2).1
theorem cB_lt1 {a b c : ByteArray} (h1 : cB a b < 0) (h2 : cB b c ≤ 0) : cB a c < 0 := (Ord.cmp_trans _ _ _ (by unfold cB at h1; omega) h2).2 (.inl h1)
theorem cB_lt2 {a b c : ByteArray} (h1 : cB a b ≤ 0) (h2 : cB b c < 0) : cB a c < 0 := (Ord.cmp_trans _ _ _ h1 (by unfold cB at h2; omega)).2 (.inr h2)
theorem cB_eq {a b : ByteArray} (h1 : cB a b ≤ 0) (h2 : cB b a ≤ 0) : a = b := cB_zero.1 (by rw [cB_anti a b] at h2; omega)
theorem cB_cases (a b : ByteArray) : cB a b = -1 ∨ cB a b = 0 ∨ cB a b = 1 := Ord.cmp_cases _ _
def SLe (l : List Pr) : Prop := l.Pairwise fun p q => cB p.1 q.1 ≤ 0
def SLt (l : List Pr) : Prop := l.Pairwise fun p q => cB p.1 q.1 < 0
theorem SLt.le {l : List Pr} (h : SLt l) : SLe l := List.Pairwise.imp (fun h => by omega) h
def fk (k : ByteArray) (l : List Pr) : List Pr := l.filter fun p => decide (p.1 = k)
theorem fk_nil {k : ByteArray} : fk k [] = [] := rfl
theorem fk_cons {k : ByteArray} {p : Pr} {l : List Pr} : fk k (p :: l) = if p.1 = k then p :: fk k l else fk k l := by
  unfold fk; rw [List.filter_cons]; simp
theorem fk_append {k : ByteArray} {l m : List Pr} : fk k (l ++ m) = fk k l ++ fk k m := List.filter_append ..
theorem mem_fk {k : ByteArray} {p : Pr} {l : List Pr} : p ∈ fk k l ↔ p ∈ l ∧ p.1 = k := by unfold fk; rw [List.mem_filter]; simp
theorem fk_none {k : ByteArray} {l : List Pr} : fk k l = [] ↔ ∀ p ∈ l, p.1 ≠ k := by
  unfold fk; rw [List.filter_eq_nil_iff]; simp
/-- Two lists in order that have the same bindings of each key are the same. -/
theorem srt_uniq : ∀ {l l' : List Pr}, SLe l → SLe l' → (∀ k, fk k l = fk k l') → l = l'
  | [], [], _, _, _ => rfl
  | [], q :: l', _, _, h => by have := h q.1; rw [fk_nil, fk_cons, if_pos rfl] at this; cases this
  | p :: l, [], _, _, h => by have := h p.1; rw [fk_nil, fk_cons, if_pos rfl] at this; cases this
  | p :: l, q :: l', h1, h2, h => by
    have hp : p ∈ q :: l' := (mem_fk.1 (by rw [← h p.1, fk_cons, if_pos rfl]; simp)).1
    have hq : q ∈ p :: l := (mem_fk.1 (by rw [h q.1, fk_cons, if_pos rfl]; simp)).1
    have k1 : cB q.1 p.1 ≤ 0 := by
      rcases List.mem_cons.1 hp with rfl | hp
      · rw [cB_self]; omega
      · exact (List.pairwise_cons.1 h2).1 p hp
    have k2 : cB p.1 q.1 ≤ 0 := by
      rcases List.mem_cons.1 hq with rfl | hq
      · rw [cB_self]; omega
      · exact (List.pairwise_cons.1 h1).1 q hq
    have hk : p.1 = q.1 := cB_eq k2 k1
    have e : p = q := by
      have := h p.1
      rw [fk_cons, fk_cons, if_pos rfl, if_pos hk.symm] at this
      exact (List.cons.inj this).1
    subst e
    rw [srt_uniq (List.pairwise_cons.1 h1).2 (List.pairwise_cons.1 h2).2 fun k => ?_]
    have := h k
    rw [fk_cons, fk_cons] at this
    split at this
    · exact (List.cons.inj this).2
    · exact this
def ins (p : Pr) : List Pr → List Pr
  | [] => [p]
  | q :: l => if cB p.1 q.1 ≤ 0 then p :: q :: l else q :: ins p l
theorem ins_mem {p x : Pr} : ∀ {l : List Pr}, x ∈ ins p l → x = p ∨ x ∈ l
  | [], h => by simp [ins] at h; exact .inl h
  | q :: l, h => by
    unfold ins at h
    split at h
    · rcases List.mem_cons.1 h with h | h
      · exact .inl h
      · exact .inr h
    · rcases List.mem_cons.1 h with h | h
      · exact .inr (by simp [h])
      · rcases ins_mem h with h | h
        · exact .inl h
        · exact .inr (by simp [h])
theorem ins_fk {p : Pr} {k : ByteArray} : ∀ {l : List Pr}, fk k (ins p l) = fk k (p :: l)
  | [] => rfl
  | q :: l => by
    unfold ins
    split
    · rfl
    · rename_i h
      rw [fk_cons, ins_fk, fk_cons, fk_cons, fk_cons]
      by_cases h1 : q.1 = k <;> by_cases h2 : p.1 = k
      · exfalso; apply h; rw [h1, h2, cB_self]; omega
      all_goals simp [h1, h2]
theorem ins_le {p : Pr} : ∀ {l : List Pr}, SLe l → SLe (ins p l)
  | [], _ => by simp [ins, SLe]
  | q :: l, h => by
    obtain ⟨h1, h2⟩ := List.pairwise_cons.1 h
    unfold ins
    split
    · rename_i hpq
      refine List.pairwise_cons.2 ⟨fun x hx => ?_, h⟩
      rcases List.mem_cons.1 hx with rfl | hx
      · exact hpq
      · exact cB_le hpq (h1 x hx)
    · rename_i hpq
      refine List.pairwise_cons.2 ⟨fun x hx => ?_, ins_le h2⟩
      rcases ins_mem hx with rfl | hx
      · rw [cB_anti x.1 q.1]; omega
      · exact h1 x hx
def ssort : List Pr → List Pr
  | [] => []
  | p :: l => ins p (ssort l)
theorem ssort_le : ∀ (l : List Pr), SLe (ssort l)
  | [] => List.Pairwise.nil
  | p :: l => ins_le (ssort_le l)
theorem ssort_fk {k : ByteArray} : ∀ (l : List Pr), fk k (ssort l) = fk k l
  | [] => rfl
  | p :: l => by rw [ssort, ins_fk, fk_cons, fk_cons, ssort_fk l]
/-- What a key is bound to: by the last binding. -/
def val (l : List Pr) (k : ByteArray) : Option ByteArray := (fk k l).getLast?.map (·.2)
theorem val_append {l m : List Pr} {k : ByteArray} : val (l ++ m) k = (val m k).or (val l k) := by
  unfold val
  rw [fk_append, List.getLast?_append]
  cases (fk k m).getLast? <;> rfl
theorem val_nil {k : ByteArray} : val [] k = none := rfl
theorem val_one {p : Pr} {k : ByteArray} : val [p] k = if p.1 = k then some p.2 else none := by
  unfold val; rw [fk_cons, fk_nil]; split <;> rfl
theorem val_cons {p : Pr} {l : List Pr} {k : ByteArray} : val (p :: l) k = (val l k).or (if p.1 = k then some p.2 else none) := by
  rw [← val_one]; exact val_append (l := [p])
theorem val_none {l : List Pr} {k : ByteArray} : val l k = none ↔ fk k l = [] := by
  unfold val; simp
theorem fk_lt {l : List Pr} (h : SLt l) (k : ByteArray) : fk k l = match val l k with | some v => [(k, v)] | none => [] := by
  have hp : (fk k l).Pairwise fun p q => cB p.1 q.1 < 0 := List.Pairwise.filter _ h
  unfold val
  cases hf : fk k l with
  | nil => rfl
  | cons p t =>
    have h1 : p.1 = k := (mem_fk.1 (by rw [hf]; simp : p ∈ fk k l)).2
    cases t with
    | nil => simp [← h1]
    | cons q t =>
      exfalso
      have h2 : q.1 = k := (mem_fk.1 (by rw [hf]; simp : q ∈ fk k l)).2
      rw [hf] at hp
      have := (List.pairwise_cons.1 hp).1 q (by simp)
      rw [h1, h2, cB_self] at this
      omega
theorem lt_uniq {l l' : List Pr} (h1 : SLt l) (h2 : SLt l') (h : ∀ k, val l k = val l' k) : l = l' :=
  srt_uniq h1.le h2.le fun k => by rw [fk_lt h1, fk_lt h2, h]
/-- The last bindings of each key. -/
def lasts : List Pr → List Pr
  | [] => []
  | p :: l => if fk p.1 l = [] then p :: lasts l else lasts l
theorem lasts_sub : ∀ (l : List Pr), (lasts l).Sublist l
  | [] => List.Sublist.slnil
  | p :: l => by
    unfold lasts
    split
    · exact (lasts_sub l).cons_cons p
    · exact (lasts_sub l).cons p
theorem lasts_val {k : ByteArray} : ∀ (l : List Pr), val (lasts l) k = val l k
  | [] => rfl
  | p :: l => by
    unfold lasts
    split
    · rw [val_cons, val_cons, lasts_val l]
    · rename_i h
      rw [lasts_val l, val_cons]
      by_cases hk : p.1 = k
      · rw [hk] at h
        cases hv : val l k with
        | none => exact absurd (val_none.1 hv) h
        | some v => rfl
      · rw [if_neg hk]; cases val l k <;> rfl
theorem lasts_ne : ∀ (l : List Pr), (lasts l).Pairwise fun p q => p.1 ≠ q.1
  | [] => List.Pairwise.nil
  | p :: l => by
    unfold lasts
    split
    · rename_i h
      exact List.pairwise_cons.2 ⟨fun q hq e => fk_none.1 h q ((lasts_sub l).subset hq) e.symm, lasts_ne l⟩
    · exact lasts_ne l
theorem le_ne {l : List Pr} (h1 : SLe l) (h2 : l.Pairwise fun p q => p.1 ≠ q.1) : SLt l := by
  refine (List.Pairwise.and h1 h2).imp fun {p q} h => ?_
  have := cB_ne h.2
  omega
theorem ssort_ne : ∀ {l : List Pr}, l.Pairwise (fun p q => p.1 ≠ q.1) → SLt (ssort l) := fun {l} h => by
  refine le_ne (ssort_le l) ?_
  induction l with
  | nil => exact List.Pairwise.nil
  | cons p l ih =>
    obtain ⟨h1, h2⟩ := List.pairwise_cons.1 h
    have hm : ∀ x ∈ ssort l, x ∈ l := fun x hx => by
      have : x ∈ fk x.1 (ssort l) := mem_fk.2 ⟨hx, rfl⟩
      rw [ssort_fk] at this
      exact (mem_fk.1 this).1
    have key : ∀ m : List Pr, (∀ x ∈ m, p.1 ≠ x.1) → m.Pairwise (fun p q => p.1 ≠ q.1) → (ins p m).Pairwise fun p q => p.1 ≠ q.1 := by
      intro m
      induction m with
      | nil => intro _ _; simp [ins]
      | cons q m ihm =>
        intro g1 g2
        unfold ins
        split
        · exact List.pairwise_cons.2 ⟨g1, g2⟩
        · refine List.pairwise_cons.2 ⟨fun x hx => ?_, ihm (fun x hx => g1 x (by simp [hx])) (List.pairwise_cons.1 g2).2⟩
          rcases ins_mem hx with rfl | hx
          · exact fun e => g1 q (by simp) e.symm
          · exact (List.pairwise_cons.1 g2).1 x hx
    exact key _ (fun x hx => h1 x (hm x hx)) (ih h2)
/-- The bindings in order, of each key the last one. -/
def mk (l : List Pr) : List Pr := ssort (lasts l)
theorem mk_lt (l : List Pr) : SLt (mk l) := ssort_ne (lasts_ne l)
theorem mk_val (l : List Pr) (k : ByteArray) : val (mk l) k = val l k := by
  rw [← lasts_val l]; unfold val mk; rw [ssort_fk]
theorem eq_mk {m l : List Pr} (h : SLt m) (hv : ∀ k, val m k = val l k) : m = mk l := lt_uniq h (mk_lt l) fun k => by rw [hv, mk_val]
theorem mk_of {l : List Pr} (h : SLt l) : mk l = l := (eq_mk h fun _ => rfl).symm
theorem mk_mem {l : List Pr} {p : Pr} (h : p ∈ mk l) : p ∈ l := by
  have : p ∈ fk p.1 (mk l) := mem_fk.2 ⟨h, rfl⟩
  unfold mk at this
  rw [ssort_fk] at this
  exact (lasts_sub l).subset (mem_fk.1 this).1
theorem mk_len (l : List Pr) : (mk l).length ≤ l.length := by
  have key : ∀ m : List Pr, (ssort m).length = m.length := by
    intro m
    induction m with
    | nil => rfl
    | cons p m ih =>
      have : ∀ n : List Pr, (ins p n).length = n.length + 1 := by
        intro n
        induction n with
        | nil => rfl
        | cons q n ihn => unfold ins; split <;> simp [ihn]
      rw [ssort, this, ih]; rfl
  unfold mk; rw [key]; exact (lasts_sub l).length_le
/-- What stands by a property of keys that goes down along the list. -/
theorem filter_split {f : Pr → Bool} : ∀ {m : List Pr}, m.Pairwise (fun p q => f q = true → f p = true) → m = m.filter f ++ m.filter (fun p => !f p)
  | [], _ => rfl
  | p :: m, h => by
    obtain ⟨h1, h2⟩ := List.pairwise_cons.1 h
    by_cases hp : f p = true
    · rw [List.filter_cons, if_pos hp, List.filter_cons, if_neg (by simp [hp])]
      rw [List.cons_append, ← filter_split h2]
    · have e1 : m.filter f = [] := List.filter_eq_nil_iff.2 fun q hq hf => hp (h1 q hq hf)
      have e2 : m.filter (fun p => !f p) = m := List.filter_eq_self.2 fun q hq => by
        cases hf : f q with
        | false => rfl
        | true => exact absurd (h1 q hq hf) hp
      rw [List.filter_cons, if_neg hp, List.filter_cons, if_pos (by simp [hp]), e1, e2]; rfl
theorem val_filter {f : ByteArray → Bool} {m : List Pr} {k : ByteArray} : fk k (m.filter fun p => f p.1) = if f k = true then fk k m else [] := by
  unfold fk
  rw [List.filter_filter]
  by_cases h : f k = true
  · rw [if_pos h]
    apply List.filter_congr
    intro p _
    by_cases hp : p.1 = k
    · simp [hp, h]
    · simp [hp]
  · rw [if_neg h, List.filter_eq_nil_iff]
    intro p _
    by_cases hp : p.1 = k
    · simp [hp, h]
    · simp [hp]
def lo (m : List Pr) (k : ByteArray) : List Pr := m.filter fun p => decide (cB p.1 k < 0)
def le (m : List Pr) (k : ByteArray) : List Pr := m.filter fun p => decide (cB p.1 k ≤ 0)
def hi (m : List Pr) (k : ByteArray) : List Pr := m.filter fun p => decide (cB k p.1 < 0)
def pt (m : List Pr) (k v : ByteArray) : List Pr := lo m k ++ (k, v) :: hi m k
def dr (m : List Pr) (k : ByteArray) : List Pr := m.filter fun p => decide (p.1 ≠ k)
theorem fk_lo {m : List Pr} {k x : ByteArray} : fk x (lo m k) = if cB x k < 0 then fk x m else [] := by
  have := val_filter (f := fun y => decide (cB y k < 0)) (m := m) (k := x)
  simpa [lo] using this
theorem fk_hi {m : List Pr} {k x : ByteArray} : fk x (hi m k) = if cB k x < 0 then fk x m else [] := by
  have := val_filter (f := fun y => decide (cB k y < 0)) (m := m) (k := x)
  simpa [hi] using this
theorem fk_dr {m : List Pr} {k x : ByteArray} : fk x (dr m k) = if x ≠ k then fk x m else [] := by
  have := val_filter (f := fun y => decide (y ≠ k)) (m := m) (k := x)
  simpa [dr] using this
theorem lo_split {m : List Pr} (h : SLe m) (k : ByteArray) : m = lo m k ++ m.filter (fun p => !decide (cB p.1 k < 0)) := by
  refine filter_split (f := fun p => decide (cB p.1 k < 0)) (h.imp fun {p q} hpq hq => ?_)
  simp only [decide_eq_true_eq] at hq ⊢
  exact cB_lt2 hpq hq
theorem le_split {m : List Pr} (h : SLe m) (k : ByteArray) : m = le m k ++ hi m k := by
  have e : hi m k = m.filter (fun p => !decide (cB p.1 k ≤ 0)) := by
    apply List.filter_congr
    intro p _
    rw [cB_anti p.1 k]
    by_cases hp : cB p.1 k ≤ 0
    · simp [hp]
    · simp [hp]; omega
  rw [e]
  refine filter_split (f := fun p => decide (cB p.1 k ≤ 0)) (h.imp fun {p q} hpq hq => ?_)
  simp only [decide_eq_true_eq] at hq ⊢
  exact cB_le hpq hq
theorem pt_lt {m : List Pr} (h : SLt m) (k v : ByteArray) : SLt (pt m k v) := by
  unfold pt SLt
  refine List.pairwise_append.2 ⟨List.Pairwise.filter _ h, List.pairwise_cons.2 ⟨fun q hq => ?_, List.Pairwise.filter _ h⟩, fun p hp q hq => ?_⟩
  · have := (List.mem_filter.1 hq).2; simpa using this
  · have h1 : cB p.1 k < 0 := by have := (List.mem_filter.1 hp).2; simpa using this
    rcases List.mem_cons.1 hq with rfl | hq
    · exact h1
    · have h2 : cB k q.1 < 0 := by have := (List.mem_filter.1 hq).2; simpa using this
      exact cB_lt1 h1 (by omega)
theorem pt_val {m : List Pr} (k v x : ByteArray) : val (pt m k v) x = if k = x then some v else val m x := by
  unfold val pt
  rw [fk_append, fk_cons, fk_lo, fk_hi]
  by_cases hx : k = x
  · subst hx
    rw [cB_self]; simp
  · have hc := cB_cases k x
    have hn := cB_ne hx
    rw [if_neg hx, if_neg hx, cB_anti k x]
    rcases hc with h | h | h
    · simp [h]
    · exact absurd h hn
    · simp [h]
theorem pt_mk (l : List Pr) (k v : ByteArray) : pt (mk l) k v = mk (l ++ [(k, v)]) := by
  refine eq_mk (pt_lt (mk_lt l) k v) fun x => ?_
  rw [pt_val, val_append, val_one, mk_val]
  by_cases h : k = x
  · simp [h]
  · simp [h]
theorem dr_lt {m : List Pr} (h : SLt m) (k : ByteArray) : SLt (dr m k) := List.Pairwise.filter _ h
theorem dr_eq {m : List Pr} (h : SLt m) (k : ByteArray) : lo m k ++ hi m k = dr m k := by
  refine srt_uniq ?_ (dr_lt h k).le fun x => ?_
  · refine List.pairwise_append.2 ⟨List.Pairwise.filter _ h.le, List.Pairwise.filter _ h.le, fun p hp q hq => ?_⟩
    have h1 : cB p.1 k < 0 := by have := (List.mem_filter.1 hp).2; simpa using this
    have h2 : cB k q.1 < 0 := by have := (List.mem_filter.1 hq).2; simpa using this
    have := cB_lt1 h1 (c := q.1) (by omega)
    omega
  · rw [fk_append, fk_lo, fk_hi, fk_dr, cB_anti x k]
    have hc := cB_cases x k
    by_cases hx : x = k
    · subst hx; rw [cB_self]; simp
    · have hn := cB_ne hx
      rcases hc with h | h | h
      · simp [h, hx]
      · exact absurd h hn
      · simp [h, hx]
/-- What a key is bound to, in a list in order: by the last binding that is not behind it. -/
theorem le_lo {m : List Pr} (h : SLt m) (k : ByteArray) : le m k = lo m k ++ fk k m := by
  refine srt_uniq (List.Pairwise.filter _ h.le) ?_ fun x => ?_
  · refine List.pairwise_append.2 ⟨List.Pairwise.filter _ h.le, List.Pairwise.filter _ h.le, fun p hp q hq => ?_⟩
    have h1 : cB p.1 k < 0 := by have := (List.mem_filter.1 hp).2; simpa using this
    rw [(mem_fk.1 hq).2]; omega
  · have e1 : fk x (le m k) = if cB x k ≤ 0 then fk x m else [] := by
      have := val_filter (f := fun y => decide (cB y k ≤ 0)) (m := m) (k := x)
      simpa [le] using this
    have e2 : fk x (fk k m) = if x = k then fk x m else [] := by
      have := val_filter (f := fun y => decide (y = k)) (m := m) (k := x)
      simpa [fk] using this
    rw [fk_append, fk_lo, e1, e2]
    by_cases hx : x = k
    · subst hx; rw [cB_self]; simp
    · have hn := cB_ne hx
      have hc := cB_cases x k
      rcases hc with h | h | h
      · simp [h, hx]
      · exact absurd h hn
      · simp [h, hx]
theorem get_le {m : List Pr} (h : SLt m) (k : ByteArray) : val m k = match (le m k).getLast? with | some p => if p.1 = k then some p.2 else none | none => none := by
  rw [le_lo h, fk_lt h]
  cases hv : val m k with
  | some v => simp
  | none =>
    simp only [List.append_nil]
    cases hl : (lo m k).getLast? with
    | none => rfl
    | some p =>
      have := (List.mem_filter.1 (List.mem_of_getLast? hl)).2
      simp only [decide_eq_true_eq] at this
      have hne : ¬ p.1 = k := fun e => by rw [e, cB_self] at this; omega
      simp [hne]
end Go.Proofs.Ytfdfmhapcjckoaa.Sim.Pr7
