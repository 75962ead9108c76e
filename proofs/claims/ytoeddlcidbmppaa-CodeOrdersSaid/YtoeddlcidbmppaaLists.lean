/- Lists of words and what they say. -/
import Derived.Test.YtoeddlcidbmppaaSimY
namespace Go.Proofs.Ytoeddlcidbmppaa.Sim
open Go.RowKit
set_option linter.unusedVariables false
set_option linter.unusedSimpArgs false
theorem get_last {α : Type} (L : List α) (x : α) : (L ++ [x])[L.length]? = some x := by simp
theorem set_last {α : Type} (L : List α) (x y : α) : (L ++ [x]).set L.length y = L ++ [y] := by simp
theorem len_last {α : Type} (L : List α) (x : α) : (L ++ [x]).length = L.length + 1 := by simp
theorem len_succ {α : Type} : ∀ {l : List α} {k : Nat}, l.length = k + 1 → ∃ a t, l = a :: t ∧ t.length = k
  | a :: t, k, h => ⟨a, t, rfl, by simpa using h⟩
theorem ga {α : Type} {L M : List α} {i : Nat} : (L ++ M)[L.length + i]? = M[i]? := by rw [List.getElem?_append_right (by omega)]; congr 1; omega
theorem sa {α : Type} {L M : List α} {i : Nat} {y : α} : (L ++ M).set (L.length + i) y = L ++ M.set i y := by rw [List.set_append_right _ _ (by omega)]; congr 2; omega
theorem gj1_0 {α : Type} {L : List α} {x0 : α} : (L ++ [x0])[L.length]? = some x0 := by simp
theorem sj1_0 {α : Type} {L : List α} {x0 y : α} : (L ++ [x0]).set (L.length) y = (L ++ [y]) := by simp
theorem gj2_0 {α : Type} {L : List α} {x0 x1 : α} : ((L ++ [x0]) ++ [x1])[L.length]? = some x0 := by simp only [List.append_assoc, List.cons_append, List.nil_append]; exact (ga (L := L) (M := [x0, x1]) (i := 0)).trans rfl
theorem sj2_0 {α : Type} {L : List α} {x0 x1 y : α} : ((L ++ [x0]) ++ [x1]).set (L.length) y = ((L ++ [y]) ++ [x1]) := by simp only [List.append_assoc, List.cons_append, List.nil_append]; exact (sa (L := L) (M := [x0, x1]) (i := 0) (y := y)).trans rfl
theorem gj2_1 {α : Type} {L : List α} {x0 x1 : α} : ((L ++ [x0]) ++ [x1])[L.length + 1]? = some x1 := by simp only [List.append_assoc, List.cons_append, List.nil_append]; exact (ga (L := L) (M := [x0, x1]) (i := 1)).trans rfl
theorem sj2_1 {α : Type} {L : List α} {x0 x1 y : α} : ((L ++ [x0]) ++ [x1]).set (L.length + 1) y = ((L ++ [x0]) ++ [y]) := by simp only [List.append_assoc, List.cons_append, List.nil_append]; exact (sa (L := L) (M := [x0, x1]) (i := 1) (y := y)).trans rfl
theorem gj3_0 {α : Type} {L : List α} {x0 x1 x2 : α} : (((L ++ [x0]) ++ [x1]) ++ [x2])[L.length]? = some x0 := by simp only [List.append_assoc, List.cons_append, List.nil_append]; exact (ga (L := L) (M := [x0, x1, x2]) (i := 0)).trans rfl
theorem sj3_0 {α : Type} {L : List α} {x0 x1 x2 y : α} : (((L ++ [x0]) ++ [x1]) ++ [x2]).set (L.length) y = (((L ++ [y]) ++ [x1]) ++ [x2]) := by simp only [List.append_assoc, List.cons_append, List.nil_append]; exact (sa (L := L) (M := [x0, x1, x2]) (i := 0) (y := y)).trans rfl
theorem gj3_1 {α : Type} {L : List α} {x0 x1 x2 : α} : (((L ++ [x0]) ++ [x1]) ++ [x2])[L.length + 1]? = some x1 := by simp only [List.append_assoc, List.cons_append, List.nil_append]; exact (ga (L := L) (M := [x0, x1, x2]) (i := 1)).trans rfl
theorem sj3_1 {α : Type} {L : List α} {x0 x1 x2 y : α} : (((L ++ [x0]) ++ [x1]) ++ [x2]).set (L.length + 1) y = (((L ++ [x0]) ++ [y]) ++ [x2]) := by simp only [List.append_assoc, List.cons_append, List.nil_append]; exact (sa (L := L) (M := [x0, x1, x2]) (i := 1) (y := y)).trans rfl
theorem gj3_2 {α : Type} {L : List α} {x0 x1 x2 : α} : (((L ++ [x0]) ++ [x1]) ++ [x2])[L.length + 1 + 1]? = some x2 := by simp only [List.append_assoc, List.cons_append, List.nil_append]; exact (ga (L := L) (M := [x0, x1, x2]) (i := 2)).trans rfl
theorem sj3_2 {α : Type} {L : List α} {x0 x1 x2 y : α} : (((L ++ [x0]) ++ [x1]) ++ [x2]).set (L.length + 1 + 1) y = (((L ++ [x0]) ++ [x1]) ++ [y]) := by simp only [List.append_assoc, List.cons_append, List.nil_append]; exact (sa (L := L) (M := [x0, x1, x2]) (i := 2) (y := y)).trans rfl
theorem gj4_0 {α : Type} {L : List α} {x0 x1 x2 x3 : α} : ((((L ++ [x0]) ++ [x1]) ++ [x2]) ++ [x3])[L.length]? = some x0 := by simp only [List.append_assoc, List.cons_append, List.nil_append]; exact (ga (L := L) (M := [x0, x1, x2, x3]) (i := 0)).trans rfl
theorem sj4_0 {α : Type} {L : List α} {x0 x1 x2 x3 y : α} : ((((L ++ [x0]) ++ [x1]) ++ [x2]) ++ [x3]).set (L.length) y = ((((L ++ [y]) ++ [x1]) ++ [x2]) ++ [x3]) := by simp only [List.append_assoc, List.cons_append, List.nil_append]; exact (sa (L := L) (M := [x0, x1, x2, x3]) (i := 0) (y := y)).trans rfl
theorem gj4_1 {α : Type} {L : List α} {x0 x1 x2 x3 : α} : ((((L ++ [x0]) ++ [x1]) ++ [x2]) ++ [x3])[L.length + 1]? = some x1 := by simp only [List.append_assoc, List.cons_append, List.nil_append]; exact (ga (L := L) (M := [x0, x1, x2, x3]) (i := 1)).trans rfl
theorem sj4_1 {α : Type} {L : List α} {x0 x1 x2 x3 y : α} : ((((L ++ [x0]) ++ [x1]) ++ [x2]) ++ [x3]).set (L.length + 1) y = ((((L ++ [x0]) ++ [y]) ++ [x2]) ++ [x3]) := by simp only [List.append_assoc, List.cons_append, List.nil_append]; exact (sa (L := L) (M := [x0, x1, x2, x3]) (i := 1) (y := y)).trans rfl
theorem gj4_2 {α : Type} {L : List α} {x0 x1 x2 x3 : α} : ((((L ++ [x0]) ++ [x1]) ++ [x2]) ++ [x3])[L.length + 1 + 1]? = some x2 := by simp only [List.append_assoc, List.cons_append, List.nil_append]; exact (ga (L := L) (M := [x0, x1, x2, x3]) (i := 2)).trans rfl
theorem sj4_2 {α : Type} {L : List α} {x0 x1 x2 x3 y : α} : ((((L ++ [x0]) ++ [x1]) ++ [x2]) ++ [x3]).set (L.length + 1 + 1) y = ((((L ++ [x0]) ++ [x1]) ++ [y]) ++ [x3]) := by simp only [List.append_assoc, List.cons_append, List.nil_append]; exact (sa (L := L) (M := [x0, x1, x2, x3]) (i := 2) (y := y)).trans rfl
theorem gj4_3 {α : Type} {L : List α} {x0 x1 x2 x3 : α} : ((((L ++ [x0]) ++ [x1]) ++ [x2]) ++ [x3])[L.length + 1 + 1 + 1]? = some x3 := by simp only [List.append_assoc, List.cons_append, List.nil_append]; exact (ga (L := L) (M := [x0, x1, x2, x3]) (i := 3)).trans rfl
theorem sj4_3 {α : Type} {L : List α} {x0 x1 x2 x3 y : α} : ((((L ++ [x0]) ++ [x1]) ++ [x2]) ++ [x3]).set (L.length + 1 + 1 + 1) y = ((((L ++ [x0]) ++ [x1]) ++ [x2]) ++ [y]) := by simp only [List.append_assoc, List.cons_append, List.nil_append]; exact (sa (L := L) (M := [x0, x1, x2, x3]) (i := 3) (y := y)).trans rfl
theorem gj5_0 {α : Type} {L : List α} {x0 x1 x2 x3 x4 : α} : (((((L ++ [x0]) ++ [x1]) ++ [x2]) ++ [x3]) ++ [x4])[L.length]? = some x0 := by simp only [List.append_assoc, List.cons_append, List.nil_append]; exact (ga (L := L) (M := [x0, x1, x2, x3, x4]) (i := 0)).trans rfl
theorem sj5_0 {α : Type} {L : List α} {x0 x1 x2 x3 x4 y : α} : (((((L ++ [x0]) ++ [x1]) ++ [x2]) ++ [x3]) ++ [x4]).set (L.length) y = (((((L ++ [y]) ++ [x1]) ++ [x2]) ++ [x3]) ++ [x4]) := by simp only [List.append_assoc, List.cons_append, List.nil_append]; exact (sa (L := L) (M := [x0, x1, x2, x3, x4]) (i := 0) (y := y)).trans rfl
theorem gj5_1 {α : Type} {L : List α} {x0 x1 x2 x3 x4 : α} : (((((L ++ [x0]) ++ [x1]) ++ [x2]) ++ [x3]) ++ [x4])[L.length + 1]? = some x1 := by simp only [List.append_assoc, List.cons_append, List.nil_append]; exact (ga (L := L) (M := [x0, x1, x2, x3, x4]) (i := 1)).trans rfl
theorem sj5_1 {α : Type} {L : List α} {x0 x1 x2 x3 x4 y : α} : (((((L ++ [x0]) ++ [x1]) ++ [x2]) ++ [x3]) ++ [x4]).set (L.length + 1) y = (((((L ++ [x0]) ++ [y]) ++ [x2]) ++ [x3]) ++ [x4]) := by simp only [List.append_assoc, List.cons_append, List.nil_append]; exact (sa (L := L) (M := [x0, x1, x2, x3, x4]) (i := 1) (y := y)).trans rfl
theorem gj5_2 {α : Type} {L : List α} {x0 x1 x2 x3 x4 : α} : (((((L ++ [x0]) ++ [x1]) ++ [x2]) ++ [x3]) ++ [x4])[L.length + 1 + 1]? = some x2 := by simp only [List.append_assoc, List.cons_append, List.nil_append]; exact (ga (L := L) (M := [x0, x1, x2, x3, x4]) (i := 2)).trans rfl
theorem sj5_2 {α : Type} {L : List α} {x0 x1 x2 x3 x4 y : α} : (((((L ++ [x0]) ++ [x1]) ++ [x2]) ++ [x3]) ++ [x4]).set (L.length + 1 + 1) y = (((((L ++ [x0]) ++ [x1]) ++ [y]) ++ [x3]) ++ [x4]) := by simp only [List.append_assoc, List.cons_append, List.nil_append]; exact (sa (L := L) (M := [x0, x1, x2, x3, x4]) (i := 2) (y := y)).trans rfl
theorem gj5_3 {α : Type} {L : List α} {x0 x1 x2 x3 x4 : α} : (((((L ++ [x0]) ++ [x1]) ++ [x2]) ++ [x3]) ++ [x4])[L.length + 1 + 1 + 1]? = some x3 := by simp only [List.append_assoc, List.cons_append, List.nil_append]; exact (ga (L := L) (M := [x0, x1, x2, x3, x4]) (i := 3)).trans rfl
theorem sj5_3 {α : Type} {L : List α} {x0 x1 x2 x3 x4 y : α} : (((((L ++ [x0]) ++ [x1]) ++ [x2]) ++ [x3]) ++ [x4]).set (L.length + 1 + 1 + 1) y = (((((L ++ [x0]) ++ [x1]) ++ [x2]) ++ [y]) ++ [x4]) := by simp only [List.append_assoc, List.cons_append, List.nil_append]; exact (sa (L := L) (M := [x0, x1, x2, x3, x4]) (i := 3) (y := y)).trans rfl
theorem gj5_4 {α : Type} {L : List α} {x0 x1 x2 x3 x4 : α} : (((((L ++ [x0]) ++ [x1]) ++ [x2]) ++ [x3]) ++ [x4])[L.length + 1 + 1 + 1 + 1]? = some x4 := by simp only [List.append_assoc, List.cons_append, List.nil_append]; exact (ga (L := L) (M := [x0, x1, x2, x3, x4]) (i := 4)).trans rfl
theorem sj5_4 {α : Type} {L : List α} {x0 x1 x2 x3 x4 y : α} : (((((L ++ [x0]) ++ [x1]) ++ [x2]) ++ [x3]) ++ [x4]).set (L.length + 1 + 1 + 1 + 1) y = (((((L ++ [x0]) ++ [x1]) ++ [x2]) ++ [x3]) ++ [y]) := by simp only [List.append_assoc, List.cons_append, List.nil_append]; exact (sa (L := L) (M := [x0, x1, x2, x3, x4]) (i := 4) (y := y)).trans rfl
theorem gj6_0 {α : Type} {L : List α} {x0 x1 x2 x3 x4 x5 : α} : ((((((L ++ [x0]) ++ [x1]) ++ [x2]) ++ [x3]) ++ [x4]) ++ [x5])[L.length]? = some x0 := by simp only [List.append_assoc, List.cons_append, List.nil_append]; exact (ga (L := L) (M := [x0, x1, x2, x3, x4, x5]) (i := 0)).trans rfl
theorem sj6_0 {α : Type} {L : List α} {x0 x1 x2 x3 x4 x5 y : α} : ((((((L ++ [x0]) ++ [x1]) ++ [x2]) ++ [x3]) ++ [x4]) ++ [x5]).set (L.length) y = ((((((L ++ [y]) ++ [x1]) ++ [x2]) ++ [x3]) ++ [x4]) ++ [x5]) := by simp only [List.append_assoc, List.cons_append, List.nil_append]; exact (sa (L := L) (M := [x0, x1, x2, x3, x4, x5]) (i := 0) (y := y)).trans rfl
theorem gj6_1 {α : Type} {L : List α} {x0 x1 x2 x3 x4 x5 : α} : ((((((L ++ [x0]) ++ [x1]) ++ [x2]) ++ [x3]) ++ [x4]) ++ [x5])[L.length + 1]? = some x1 := by simp only [List.append_assoc, List.cons_append, List.nil_append]; exact (ga (L := L) (M := [x0, x1, x2, x3, x4, x5]) (i := 1)).trans rfl
theorem sj6_1 {α : Type} {L : List α} {x0 x1 x2 x3 x4 x5 y : α} : ((((((L ++ [x0]) ++ [x1]) ++ [x2]) ++ [x3]) ++ [x4]) ++ [x5]).set (L.length + 1) y = ((((((L ++ [x0]) ++ [y]) ++ [x2]) ++ [x3]) ++ [x4]) ++ [x5]) := by simp only [List.append_assoc, List.cons_append, List.nil_append]; exact (sa (L := L) (M := [x0, x1, x2, x3, x4, x5]) (i := 1) (y := y)).trans rfl
theorem gj6_2 {α : Type} {L : List α} {x0 x1 x2 x3 x4 x5 : α} : ((((((L ++ [x0]) ++ [x1]) ++ [x2]) ++ [x3]) ++ [x4]) ++ [x5])[L.length + 1 + 1]? = some x2 := by simp only [List.append_assoc, List.cons_append, List.nil_append]; exact (ga (L := L) (M := [x0, x1, x2, x3, x4, x5]) (i := 2)).trans rfl
theorem sj6_2 {α : Type} {L : List α} {x0 x1 x2 x3 x4 x5 y : α} : ((((((L ++ [x0]) ++ [x1]) ++ [x2]) ++ [x3]) ++ [x4]) ++ [x5]).set (L.length + 1 + 1) y = ((((((L ++ [x0]) ++ [x1]) ++ [y]) ++ [x3]) ++ [x4]) ++ [x5]) := by simp only [List.append_assoc, List.cons_append, List.nil_append]; exact (sa (L := L) (M := [x0, x1, x2, x3, x4, x5]) (i := 2) (y := y)).trans rfl
theorem gj6_3 {α : Type} {L : List α} {x0 x1 x2 x3 x4 x5 : α} : ((((((L ++ [x0]) ++ [x1]) ++ [x2]) ++ [x3]) ++ [x4]) ++ [x5])[L.length + 1 + 1 + 1]? = some x3 := by simp only [List.append_assoc, List.cons_append, List.nil_append]; exact (ga (L := L) (M := [x0, x1, x2, x3, x4, x5]) (i := 3)).trans rfl
theorem sj6_3 {α : Type} {L : List α} {x0 x1 x2 x3 x4 x5 y : α} : ((((((L ++ [x0]) ++ [x1]) ++ [x2]) ++ [x3]) ++ [x4]) ++ [x5]).set (L.length + 1 + 1 + 1) y = ((((((L ++ [x0]) ++ [x1]) ++ [x2]) ++ [y]) ++ [x4]) ++ [x5]) := by simp only [List.append_assoc, List.cons_append, List.nil_append]; exact (sa (L := L) (M := [x0, x1, x2, x3, x4, x5]) (i := 3) (y := y)).trans rfl
theorem gj6_4 {α : Type} {L : List α} {x0 x1 x2 x3 x4 x5 : α} : ((((((L ++ [x0]) ++ [x1]) ++ [x2]) ++ [x3]) ++ [x4]) ++ [x5])[L.length + 1 + 1 + 1 + 1]? = some x4 := by simp only [List.append_assoc, List.cons_append, List.nil_append]; exact (ga (L := L) (M := [x0, x1, x2, x3, x4, x5]) (i := 4)).trans rfl
theorem sj6_4 {α : Type} {L : List α} {x0 x1 x2 x3 x4 x5 y : α} : ((((((L ++ [x0]) ++ [x1]) ++ [x2]) ++ [x3]) ++ [x4]) ++ [x5]).set (L.length + 1 + 1 + 1 + 1) y = ((((((L ++ [x0]) ++ [x1]) ++ [x2]) ++ [x3]) ++ [y]) ++ [x5]) := by simp only [List.append_assoc, List.cons_append, List.nil_append]; exact (sa (L := L) (M := [x0, x1, x2, x3, x4, x5]) (i := 4) (y := y)).trans rfl
theorem gj6_5 {α : Type} {L : List α} {x0 x1 x2 x3 x4 x5 : α} : ((((((L ++ [x0]) ++ [x1]) ++ [x2]) ++ [x3]) ++ [x4]) ++ [x5])[L.length + 1 + 1 + 1 + 1 + 1]? = some x5 := by simp only [List.append_assoc, List.cons_append, List.nil_append]; exact (ga (L := L) (M := [x0, x1, x2, x3, x4, x5]) (i := 5)).trans rfl
theorem sj6_5 {α : Type} {L : List α} {x0 x1 x2 x3 x4 x5 y : α} : ((((((L ++ [x0]) ++ [x1]) ++ [x2]) ++ [x3]) ++ [x4]) ++ [x5]).set (L.length + 1 + 1 + 1 + 1 + 1) y = ((((((L ++ [x0]) ++ [x1]) ++ [x2]) ++ [x3]) ++ [x4]) ++ [y]) := by simp only [List.append_assoc, List.cons_append, List.nil_append]; exact (sa (L := L) (M := [x0, x1, x2, x3, x4, x5]) (i := 5) (y := y)).trans rfl
section
variable {P : Program} {G : Nat → AV} {tab : Tab} {hs : List FuncId} {st : St}
theorem ret_pp {ts : List RS} {r : AV} (h : ∀ K : Option (List AV) → Prop, (∀ vs rs H', purA st.H vs = some (rs, H') → r = resOf rs → K (some vs)) → K (rsAs st ts)) : RetP ts r .r st :=
  ⟨.inr rfl, h (fun o => ∃ vs, o = some vs ∧ ∃ rs H', purA st.H vs = some (rs, H') ∧ resOf rs = r) (fun vs rs H' hp hv => ⟨vs, rfl, rs, H', hp, hv.symm⟩)⟩
theorem ret_hh {ts : List RS} {r : AV} {H : Hp} (hH : st.H = H) (h : ∀ K : Option (List AV) → Prop, (∀ vs, r = resOf vs → K (some vs)) → K (rsAs st ts)) : RetH ts r H .r st :=
  ⟨.inr rfl, h (fun o => ∃ vs, o = some vs ∧ resOf vs = r) (fun vs hv => ⟨vs, rfl, hv.symm⟩), hH⟩
/-- What a call comes to, run by the kernel. -/
theorem runs_pc (ht : tab.Ok P hs) {n f : Nat} {as : List AV} {r : AV} (h : callP tab (exec P (fun _ => .unk) tab n) f as = some r) : PC P G f as r := by
  have := callP_ok (P := P) (G := fun _ => .unk) ht (exec_ok ht n) h
  exact fun w F xs h1 _ h3 h4 => this w F xs h1 (fun g => .unk _) h3 h4
theorem runs_hc (ht : tab.Ok P hs) {n f : Nat} {as : List AV} {H H' : Hp} {r : AV} (h : callH tab (exec P (fun _ => .unk) tab n) f as H = some (r, H')) : HC P G f as H r H' := by
  have := (callH_ok (P := P) (G := fun _ => .unk) ht (exec_ok ht n) h).1
  exact fun B w0 F0 F O w xs h1 _ h3 h4 => this B w0 F0 F O w xs h1 (fun g => .unk _) h3 h4
end
def tysOf (P : Program) (t : TypeId) : Option (List TypeId) := match P.underlying t with | some (.struct fs) => some (fs.toList.map (·.type)) | _ => none
theorem ShC.flds {P : Program} {t : TypeId} {ts : List TypeId} {as : List AV} (h : ShC P t as) (hts : tysOf P t = some ts) : ShFs P ts as := by
  unfold tysOf at hts
  split at hts
  · rename_i fs ht
    cases hts
    exact h.fields ht rfl
  · cases hts
theorem ShFs.cons {P : Program} {t : TypeId} {ts : List TypeId} {as : List AV} (h : ShFs P (t :: ts) as) : ∃ p q, as = p ++ q ∧ ShC P t p ∧ ShFs P ts q := h
theorem ShFs.nil {P : Program} {as : List AV} (h : ShFs P [] as) : as = [] := h
theorem word_inv {P : Program} {t a b c : TypeId} (ht : tysOf P t = some [a, b, c]) (ha : P.underlying a = some (.int .i64)) (hb : P.underlying b = some (.int .i64)) (hc : P.underlying c = some (.int .i64)) {cs : List AV} (h : ShC P t cs) : ∃ w : Int × Int × Int, cs = [I w.1, I w.2.1, I w.2.2] := by
  obtain ⟨p, q, rfl, hp, h⟩ := (h.flds ht).cons
  obtain ⟨p2, q2, rfl, hp2, h⟩ := h.cons
  obtain ⟨p3, q3, rfl, hp3, h⟩ := h.cons
  obtain rfl := h.nil
  obtain ⟨x, rfl, _⟩ := hp.i64_inv ha
  obtain ⟨y, rfl, _⟩ := hp2.i64_inv hb
  obtain ⟨z, rfl, _⟩ := hp3.i64_inv hc
  exact ⟨(x, y, z), rfl⟩
section
variable {P : Program} {G : Nat → AV} {Q : EX → St → Prop} {st : St} {c : AC}
theorem w_drawx4 {R1 R2 R3 R4 : List AI} (st' : St) (h1 : AWd P G st.H.length R1 (IsSt st') st) (h2 : AWd P G st.H.length R2 (IsSt st') st) (h3 : AWd P G st.H.length R3 (IsSt st') st) (h4 : AWd P G st.H.length R4 (IsSt st') st) (h : Q .n st') : W P G (.drawx [R1, R2, R3, R4]) Q st := ⟨st', fun R hR => by simp at hR; rcases hR with rfl | rfl | rfl | rfl <;> assumption, h⟩
theorem w_drawx5 {R1 R2 R3 R4 R5 : List AI} (st' : St) (h1 : AWd P G st.H.length R1 (IsSt st') st) (h2 : AWd P G st.H.length R2 (IsSt st') st) (h3 : AWd P G st.H.length R3 (IsSt st') st) (h4 : AWd P G st.H.length R4 (IsSt st') st) (h5 : AWd P G st.H.length R5 (IsSt st') st) (h : Q .n st') : W P G (.drawx [R1, R2, R3, R4, R5]) Q st := ⟨st', fun R hR => by simp at hR; rcases hR with rfl | rfl | rfl | rfl | rfl <;> assumption, h⟩
theorem w_drawx6 {R1 R2 R3 R4 R5 R6 : List AI} (st' : St) (h1 : AWd P G st.H.length R1 (IsSt st') st) (h2 : AWd P G st.H.length R2 (IsSt st') st) (h3 : AWd P G st.H.length R3 (IsSt st') st) (h4 : AWd P G st.H.length R4 (IsSt st') st) (h5 : AWd P G st.H.length R5 (IsSt st') st) (h6 : AWd P G st.H.length R6 (IsSt st') st) (h : Q .n st') : W P G (.drawx [R1, R2, R3, R4, R5, R6]) Q st := ⟨st', fun R hR => by simp at hR; rcases hR with rfl | rfl | rfl | rfl | rfl | rfl <;> assumption, h⟩
theorem w_loopF (n : Nat) (h : loopN (W P G c) Q n st) : W P G (.loop c) Q st := ⟨n, h⟩
theorem w_loopS {n : Nat} (h : W P G c (thenQ (loopN (W P G c) Q n) Q) st) : loopN (W P G c) Q (n + 1) st :=
  W_mono c (fun e st' he => by cases e <;> exact he) h
end
theorem kqs {P : Program} {G : Nat → AV} {k : St → Prop} {st : St} (f : FuncId) (r : AV) (as' : List AV) (H1 : Hp) {d : Option Nat} {xs : List AX} {os : List AI} (h0 : purA st.H (xs.map (AX.ev G st.s)) = some (as', H1)) (h1 : PC P G f as' r) (h2 : AWs P G os k (st.put d r H1)) : AWs P G (⟨d, .call f xs, none⟩ :: os) k st := ws_call rfl h0 h1 h2
theorem kqd {P : Program} {G : Nat → AV} {k : St → Prop} {st : St} (f : FuncId) (r : AV) (as' : List AV) (H1 : Hp) {d : Option Nat} {xs : List AX} {os : List AI} {base : Nat} (hc : chkB G base ⟨d, .call f xs, none⟩ st = true) (h0 : purA st.H (xs.map (AX.ev G st.s)) = some (as', H1)) (h1 : PC P G f as' r) (h2 : AWd P G base os k (st.put d r H1)) : AWd P G base (⟨d, .call f xs, none⟩ :: os) k st := wd_call (chkB_ok hc) rfl h0 h1 h2
theorem bi_cap {P : Program} {t e : TypeId} (h : P.underlying t = some (.slice e)) {ty : TypeId} {cs : Array Bool} : pureRun P (builtin .cap #[t] ty cs #[.slice none 0 0]) = some (.value (.int .i64 0)) := by
  show pureRun P (Builtin.cap_ #[t] ty #[.slice none 0 0] >>= fun x => (pure (Next.value x) : Sem Next)) = _
  rw [pureRun_bind]
  unfold Builtin.cap_
  show Option.bind (pureRun P (underlying t >>= _)) _ = _
  rw [pureRun_bind, pureRun_und h]
  rfl
abbrev W3 := Int × Int × Int
def wC (w : W3) : List AV := [I w.1, I w.2.1, I w.2.2]
def wA (w : W3) : AV := .agg [I w.1, I w.2.1, I w.2.2]
theorem pick_list {α : Type} {Pc : List AV → Prop} {f : α → List AV} (h : ∀ cs, Pc cs → ∃ w, cs = f w) : ∀ css : List (List AV), (∀ cs ∈ css, Pc cs) → ∃ l : List α, css = l.map f
  | [], _ => ⟨[], rfl⟩
  | cs :: css, hh => by
    obtain ⟨w, rfl⟩ := h cs (hh cs (by simp))
    obtain ⟨l, rfl⟩ := pick_list h css fun c hc => hh c (by simp [hc])
    exact ⟨w :: l, rfl⟩
end Go.Proofs.Ytoeddlcidbmppaa.Sim
