/- Maps: their entries, what is looked up, what is written; iterators. -/
import Derived.Test.YtgcnbbjapapnjaaDoorSimH
import Derived.MapKept
import Derived.Maps.RangeRun
namespace Go.Proofs.YtgcnbbjapapnjaaDoor.Sim
open Go.RowKit
set_option linter.unusedVariables false
set_option linter.unusedSimpArgs false
/-- Cells say what the values say. -/
def CellsR (F : Fz) (O : Ow) : List Value → List AV → Prop
  | [], [] => True
  | x :: l, a :: as => VR F O x a ∧ CellsR F O l as
  | _, _ => False
theorem CellsR.len {F : Fz} {O : Ow} : ∀ {l : List Value} {as : List AV}, CellsR F O l as → l.length = as.length
  | [], [], _ => rfl
  | [], _ :: _, h => h.elim
  | _ :: _, [], h => h.elim
  | x :: l, a :: as, h => by simp [CellsR.len h.2]
theorem CellsR.at {F : Fz} {O : Ow} : ∀ {l : List Value} {as : List AV}, CellsR F O l as → ∀ (j : Nat) (a : AV), as[j]? = some a → ∃ c, l[j]? = some c ∧ VR F O c a
  | [], [], _, j, a, ha => by simp at ha
  | [], _ :: _, h, _, _, _ => h.elim
  | _ :: _, [], h, _, _, _ => h.elim
  | x :: l, b :: as, h, 0, a, ha => by simp at ha; subst ha; exact ⟨x, rfl, h.1⟩
  | x :: l, b :: as, h, j + 1, a, ha => CellsR.at h.2 j a (by simpa using ha)
theorem CellsR.of {F : Fz} {O : Ow} : ∀ {l : List Value} {as : List AV}, l.length = as.length → (∀ (j : Nat) (a : AV), as[j]? = some a → ∃ c, l[j]? = some c ∧ VR F O c a) → CellsR F O l as
  | [], [], _, _ => trivial
  | [], _ :: _, h, _ => by simp at h
  | _ :: _, [], h, _ => by simp at h
  | x :: l, b :: as, hl, h => by
    refine ⟨?_, CellsR.of (by simpa using hl) fun j a ha => ?_⟩
    · obtain ⟨c, h1, h2⟩ := h 0 b rfl
      simp at h1; subst h1; exact h2
    · obtain ⟨c, h1, h2⟩ := h (j + 1) a (by simpa using ha)
      exact ⟨c, by simpa using h1, h2⟩
theorem CellsR.app {F : Fz} {O : Ow} : ∀ {l l2 : List Value} {as as2 : List AV}, CellsR F O l as → CellsR F O l2 as2 → CellsR F O (l ++ l2) (as ++ as2)
  | [], _, [], _, _, k => k
  | [], _, _ :: _, _, h, _ => h.elim
  | _ :: _, _, [], _, h, _ => h.elim
  | _ :: _, _, _ :: _, _, h, k => ⟨h.1, CellsR.app h.2 k⟩
theorem CellsR.inv {F : Fz} {O : Ow} : ∀ {l l2 : List Value} {as as2 : List AV}, CellsR F O (l ++ l2) (as ++ as2) → l.length = as.length → CellsR F O l as ∧ CellsR F O l2 as2
  | [], _, [], _, h, _ => ⟨trivial, h⟩
  | [], _, _ :: _, _, _, hl => by simp at hl
  | _ :: _, _, [], _, _, hl => by simp at hl
  | _ :: _, _, _ :: _, _, h, hl => by
    obtain ⟨h1, h2⟩ := CellsR.inv h.2 (by simpa using hl)
    exact ⟨⟨h.1, h1⟩, h2⟩
theorem CellsR.mono {F F' : Fz} {O O' : Ow} (hF : F.le F') (hO : O.le O') : ∀ {l : List Value} {as : List AV}, CellsR F O l as → CellsR F' O' l as
  | [], [], _ => trivial
  | [], _ :: _, h => h.elim
  | _ :: _, [], h => h.elim
  | _ :: _, _ :: _, h => ⟨h.1.mono hF hO, CellsR.mono hF hO h.2⟩
theorem unsn_ok : ∀ {l x : List AV} {y : AV}, unsn l = some (x, y) → l = x ++ [y]
  | [], x, y, h => by cases h
  | [a], x, y, h => by cases h; rfl
  | a :: b :: l, x, y, h => by
    simp only [unsn] at h
    split at h
    · rename_i x' y' hu
      cases h
      rw [unsn_ok hu]; rfl
    · cases h
theorem unsn_app : ∀ (x : List AV) (y : AV), unsn (x ++ [y]) = some (x, y)
  | [], y => rfl
  | [a], y => rfl
  | a :: b :: x, y => by
    show unsn (a :: b :: (x ++ [y])) = _
    simp only [unsn]
    rw [show b :: (x ++ [y]) = (b :: x) ++ [y] from rfl, unsn_app (b :: x) y]
/-- Rows of cells. -/
def RowsR (F : Fz) (O : Ow) : List (List Value) → List AV → Prop
  | [], [] => True
  | c :: l, e :: es => (∃ cs, e = .agg cs ∧ CellsR F O c cs) ∧ RowsR F O l es
  | _, _ => False
theorem RowsR.len {F : Fz} {O : Ow} : ∀ {l : List (List Value)} {es : List AV}, RowsR F O l es → l.length = es.length
  | [], [], _ => rfl
  | [], _ :: _, h => h.elim
  | _ :: _, [], h => h.elim
  | x :: l, a :: as, h => by simp [RowsR.len h.2]
theorem agg_of2 {e : AV} (h : 2 ≤ e.cells.length) : ∃ cs, e = .agg cs := by
  cases e with
  | agg cs => exact ⟨cs, rfl⟩
  | _ => simp [AV.cells] at h
theorem RowsR.mk {F : Fz} {O : Ow} {K : Nat} (hK : 2 ≤ K) : ∀ {l : List (List Value)} {es : List AV}, l.length = es.length → (∀ e ∈ es, e.cells.length = K) → (∀ c ∈ l, c.length = K) →
    (∀ (n j : Nat) (e a : AV), es[n]? = some e → e.cells[j]? = some a → ∃ c, l.flatten[n * K + j]? = some c ∧ VR F O c a) → RowsR F O l es
  | [], [], _, _, _, _ => trivial
  | [], _ :: _, h, _, _, _ => by simp at h
  | _ :: _, [], h, _, _, _ => by simp at h
  | x :: l, e :: es, h, hk, hx, hc => by
    have he := hk e (by simp)
    have hxl := hx x (by simp)
    obtain ⟨cs, rfl⟩ := agg_of2 (by omega : 2 ≤ e.cells.length)
    refine ⟨⟨cs, rfl, CellsR.of (by rw [hxl]; exact he.symm) fun j a ha => ?_⟩, RowsR.mk hK (by simpa using h) (fun e' he => hk e' (by simp [he])) (fun c hc => hx c (by simp [hc])) fun n j e' u he' hu => ?_⟩
    · obtain ⟨c, h1, h2⟩ := hc 0 j _ a rfl ha
      have hj : j < cs.length := (List.getElem?_eq_some_iff.1 ha).1
      have he2 : cs.length = K := he
      rw [Nat.zero_mul, Nat.zero_add, List.flatten_cons, List.getElem?_append_left (by omega)] at h1
      exact ⟨c, h1, h2⟩
    · obtain ⟨c, h1, h2⟩ := hc (n + 1) j e' u (by simpa using he') hu
      refine ⟨c, ?_, h2⟩
      rw [List.flatten_cons, List.getElem?_append_right (by rw [hxl, Nat.add_mul]; omega)] at h1
      rw [← h1]
      congr 1
      rw [hxl, Nat.add_mul]
      omega
theorem RowsR.cells {F : Fz} {O : Ow} {K : Nat} : ∀ {l : List (List Value)} {es : List AV}, RowsR F O l es → (∀ c ∈ l, c.length = K) → ∀ (n j : Nat) (e a : AV), es[n]? = some e → e.cells[j]? = some a → ∃ c, l.flatten[n * K + j]? = some c ∧ VR F O c a
  | [], [], _, _, n, j, e, a, he, _ => by simp at he
  | [], _ :: _, h, _, _, _, _, _, _, _ => h.elim
  | _ :: _, [], h, _, _, _, _, _, _, _ => h.elim
  | x :: l, e0 :: es, h, hx, n, j, e, a, he, ha => by
    obtain ⟨⟨cs, rfl, h1⟩, h3⟩ := h
    have hxl := hx x (by simp)
    cases n with
    | zero =>
      simp at he
      subst he
      obtain ⟨c, q1, q2⟩ := h1.at j a ha
      have hj : j < x.length := (List.getElem?_eq_some_iff.1 q1).1
      exact ⟨c, by rw [Nat.zero_mul, Nat.zero_add, List.flatten_cons, List.getElem?_append_left hj]; exact q1, q2⟩
    | succ n =>
      obtain ⟨c, q1, q2⟩ := RowsR.cells h3 (fun c hc => hx c (by simp [hc])) n j e a (by simpa using he) ha
      refine ⟨c, ?_, q2⟩
      rw [List.flatten_cons, List.getElem?_append_right (by rw [hxl, Nat.add_mul]; omega), ← q1]
      congr 1
      rw [hxl, Nat.add_mul]
      omega
theorem RowsR.app {F : Fz} {O : Ow} : ∀ {l l2 : List (List Value)} {es es2 : List AV}, RowsR F O l es → RowsR F O l2 es2 → RowsR F O (l ++ l2) (es ++ es2)
  | [], _, [], _, _, h => h
  | [], _, _ :: _, _, h, _ => h.elim
  | _ :: _, _, [], _, h, _ => h.elim
  | _ :: _, _, _ :: _, _, h, k => ⟨h.1, RowsR.app h.2 k⟩
/-- A map's entries say what the elements say. -/
abbrev EntsIs (F : Fz) (O : Ow) (l : List MapEntry) (es : List AV) : Prop := RowsR F O (l.map entC) es
abbrev hdC (ag : Bool) (m c : Nat) : List Value := Value.int .i64 (c : Int) :: .bool ag :: List.replicate m (.bool false)
theorem flatE_eq {ag : Bool} {m c : Nat} {es : Array MapEntry} : (flatE ag m c es).toList = (hdC ag m c :: es.toList.map entC).flatten := by
  simp [flatE, hdC, List.flatMap]
theorem entC_len {ag : Bool} {m : Nat} {x : MapEntry} (h : valOk ag m x.val) : (entC x).length = m + 2 := by
  simp [entC, h.1]
theorem ent_inv {F : Fz} {O : Ow} {x : MapEntry} {k s : AV} {r vs : List AV} (h : CellsR F O (entC x) (k :: r)) (hu : unsn r = some (vs, s)) : VR F O x.key k ∧ CellsR F O x.val.cells.toList vs ∧ VR F O (.int .i64 (x.born : Int)) s := by
  obtain ⟨h1, h2⟩ := h
  rw [unsn_ok hu] at h2
  have hl := h2.len
  simp at hl
  obtain ⟨h3, h4⟩ := h2.inv (by simpa using hl)
  exact ⟨h1, h3, h4.1⟩
theorem valA_ok {F : Fz} {O : Ow} {ag : Bool} {m : Nat} {v : Value} {vs : List AV} {a : AV} (hv : valOk ag m v) (hc : CellsR F O v.cells.toList vs) (h1 : ∀ a ∈ vs, AV.one a = true) (h : valA ag vs = some a) : VR F O v a := by
  obtain ⟨_, hv⟩ := hv
  unfold valA at h
  split at h
  · rename_i hag
    cases h
    rw [if_pos hag] at hv
    obtain ⟨cs, rfl⟩ := hv
    have := VR.agg (F := F) (O := O) cs.toList vs hc.len h1 fun i c a hc' ha => by
      obtain ⟨c2, q1, q2⟩ := hc.at i a ha
      have : some c2 = some c := q1.symm.trans hc'
      cases this; exact q2
    simpa using this
  · rename_i hag
    rw [if_neg hag] at hv
    split at h
    · cases h
      have e2 : v.cells = #[v] := by cases v <;> first | rfl | cases hv
      rw [e2] at hc
      exact hc.1
    · cases h
theorem valC_ok {F : Fz} {O : Ow} {ag : Bool} {v : Value} {vs : List AV} {a : AV} (hx : VR F O v a) (h1 : (a.cells.all AV.one) = true) (h : valC ag a = some vs) : valOk ag vs.length v ∧ CellsR F O v.cells.toList vs ∧ (∀ u ∈ vs, AV.one u = true) := by
  have h1' : ∀ u ∈ a.cells, AV.one u = true := fun u hu => List.all_eq_true.1 h1 u hu
  by_cases hagg : ∃ cs, a = .agg cs
  · obtain ⟨cs, rfl⟩ := hagg
    simp only [valC] at h
    split at h
    · rename_i hag
      obtain rfl : cs = vs := by simpa using h
      obtain ⟨q1, q2, q3⟩ := hx.cells (.inr ⟨cs, rfl⟩)
      have q1' : v.cells.size = cs.length := q1
      refine ⟨⟨q1', ?_⟩, CellsR.of (by simpa using q1') fun j u hu => ?_, h1'⟩
      · rw [if_pos hag]
        cases hx with
        | p h => cases h with | agg cs' => exact ⟨_, rfl⟩
        | agg cs' => exact ⟨_, rfl⟩
      · obtain ⟨c, p1, p2⟩ := q3 j u hu
        exact ⟨c, by simpa using p1, p2⟩
    · cases h
  · have hcells : a.cells = [a] := by cases a <;> first | rfl | exact absurd ⟨_, rfl⟩ hagg
    have hone : a.one = true := h1' a (by rw [hcells]; simp)
    have hvs : ag = false ∧ vs = [a] := by
      cases a <;> first | (simp only [valC] at h; split at h <;> first | (cases h; done) | (rename_i hag; cases h; exact ⟨by simpa using hag, rfl⟩)) | exact absurd ⟨_, rfl⟩ hagg
    obtain ⟨rfl, rfl⟩ := hvs
    have e2 : v.cells = #[v] := by have := hx.oneCell hone; cases v <;> first | rfl | cases this
    refine ⟨⟨by rw [e2]; rfl, by simpa using hx.oneCell hone⟩, by rw [e2]; exact ⟨hx, trivial⟩, fun u hu => ?_⟩
    simp at hu; subst hu; exact hone
theorem int_eq {F : Fz} {O : Ow} {n : Int} {s : Int} (h : VR F O (.int .i64 n) (.v (.int .i64 s))) : n = s := by
  have := h.pvC rfl
  cases this; rfl
theorem VR.toV {F : Fz} {O : Ow} {c v : Value} (h : VR F O c (.v v)) : c = v := by
  have := h.pvC rfl
  cases this; rfl
def descIs (kd : Kd) (d : TypeDesc) : Prop :=
  match kd with
  | .i => ∃ k, d = .int k
  | .s => d = .string
  | .b => d = .bool
theorem kindOf_is {P : Program} {t : TypeId} {kd : Kd} (h : kindOf P t = some kd) : ∃ d, P.underlying t = some d ∧ descIs kd d := by
  unfold kindOf at h
  split at h
  · rename_i k hu; cases h; exact ⟨_, hu, ⟨k, rfl⟩⟩
  · rename_i hu; cases h; exact ⟨_, hu, rfl⟩
  · rename_i hu; cases h; exact ⟨_, hu, rfl⟩
  · cases h
theorem eqC_now {F : Fz} {O : Ow} {kd : Kd} {d : TypeDesc} (hd : descIs kd d) {a b : AV} {x y : Value} (hx : VR F O x a) (hy : VR F O y b) {r : Bool} (h : eqC kd a b = some r) : Instr.sameNow d x y = some r ∧ (r = true → Instr.sameBits 10000 y x = true) := by
  unfold eqC at h
  split at h
  · rename_i k m k' n
    have e1 := hx.pvC rfl
    have e2 := hy.pvC rfl
    cases e1; cases e2
    split at h
    · rename_i hk
      subst hk
      cases h
      obtain ⟨k0, rfl⟩ := hd
      refine ⟨by simp [Instr.sameNow, BEq.beq], fun hr => ?_⟩
      have := of_decide_eq_true hr
      subst this
      simp [Instr.sameBits]
    · cases h
  · rename_i s1 s2
    have e1 := hx.pvC rfl
    have e2 := hy.pvC rfl
    cases e1; cases e2
    cases h
    cases hd
    have hb : (s1 == s2) = decide (s1 = s2) := by
      by_cases e : s1 = s2
      · rw [decide_eq_true e]; exact (MapKept.bytes_beq _ _).2 e
      · rw [decide_eq_false e]
        cases hq : (s1 == s2) with
        | false => rfl
        | true => exact absurd ((MapKept.bytes_beq _ _).1 hq) e
    refine ⟨by simp only [Instr.sameNow, hb], fun hr => ?_⟩
    have := of_decide_eq_true hr
    subst this
    simp only [Instr.sameBits]
    exact (MapKept.bytes_beq _ _).2 rfl
  · rename_i b1 b2
    have e1 := hx.pvC rfl
    have e2 := hy.pvC rfl
    cases e1; cases e2
    cases h
    cases hd
    refine ⟨rfl, fun hr => ?_⟩
    have := beq_iff_eq.1 hr
    subst this
    simp [Instr.sameBits]
  · cases h
theorem lk_find {F : Fz} {O : Ow} {kd : Kd} {d : TypeDesc} {ag : Bool} {m : Nat} (hd : descIs kd d) {key : AV} {x : Value} (hx : VR F O x key) : ∀ {l : List MapEntry} {es : List AV} {r : Option AV} (i : Nat), EntsIs F O l es → (∀ y ∈ l, valOk ag m y.val) → (∀ e ∈ es, ∀ a ∈ e.cells, AV.one a = true) → lkA kd ag key es = some r →
    (r = none ∧ Instr.findNow d x l i = some none) ∨ ∃ j e va, r = some va ∧ Instr.findNow d x l i = some (some (i + j, e.val)) ∧ l[j]? = some e ∧ VR F O e.val va
  | [], [], r, i, _, _, _, h => by cases h; exact .inl ⟨rfl, rfl⟩
  | [], _ :: _, _, _, h, _, _, _ => h.elim
  | _ :: _, [], _, _, h, _, _, _ => h.elim
  | y :: l, e0 :: es, r, i, h, hv, h1, hr => by
    obtain ⟨⟨cs, rfl, hcs⟩, h3⟩ := h
    cases cs with
    | nil => exact hcs.elim
    | cons ka rs =>
      simp only [lkA] at hr
      split at hr
      · rename_i b hb
        obtain ⟨q1, q2⟩ := eqC_now hd hx hcs.1 hb
        cases b with
        | true =>
          simp only [if_true] at hr
          split at hr
          · rename_i vs s hu
            split at hr
            · rename_i v hv'
              cases hr
              obtain ⟨p1, p2, p3⟩ := ent_inv hcs hu
              have hva := valA_ok (hv y (by simp)) p2 (fun a ha => h1 (.agg (ka :: rs)) (by simp) a (by rw [unsn_ok hu]; simp [AV.cells, ha])) hv'
              exact .inr ⟨0, y, v, rfl, by simp [Instr.findNow, q1], rfl, hva⟩
            · cases hr
          · cases hr
        | false =>
          simp only [Bool.false_eq_true, if_false] at hr
          rcases lk_find hd hx (i + 1) h3 (fun y hy => hv y (by simp [hy])) (fun e he => h1 e (by simp [he])) hr with ⟨rfl, g1⟩ | ⟨j, e, va', rfl, g1, g2, g3⟩
          · exact .inl ⟨rfl, by simp [Instr.findNow, q1, g1]⟩
          · exact .inr ⟨j + 1, e, va', rfl, by simp [Instr.findNow, q1, g1]; omega, by simpa using g2, g3⟩
      · cases hr
theorem ov_find {F : Fz} {O : Ow} {kd : Kd} {d : TypeDesc} (hd : descIs kd d) {key : AV} {x z : Value} {vs : List AV} (hx : VR F O x key) (hz : CellsR F O z.cells.toList vs) : ∀ {l : List MapEntry} {es : List AV} {r : Option (List AV)} (i : Nat), EntsIs F O l es → ovA kd key vs es = some r →
    (r = none ∧ Instr.findNow d x l i = some none) ∨ ∃ j e es', r = some es' ∧ Instr.findNow d x l i = some (some (i + j, e.val)) ∧ l[j]? = some e ∧ Instr.sameBits 10000 e.key x = true ∧ ∀ f : MapEntry → MapEntry, ((f e).key = x) → ((f e).val = z) → ((f e).born = e.born) → EntsIs F O (l.modify j f) es'
  | [], [], r, i, _, h => by cases h; exact .inl ⟨rfl, rfl⟩
  | [], _ :: _, _, _, h, _ => h.elim
  | _ :: _, [], _, _, h, _ => h.elim
  | y :: l, e0 :: es, r, i, h, hr => by
    obtain ⟨⟨cs, rfl, hcs⟩, h3⟩ := h
    cases cs with
    | nil => exact hcs.elim
    | cons ka rs =>
      simp only [ovA] at hr
      split at hr
      · rename_i b hb
        obtain ⟨q1, q2⟩ := eqC_now hd hx hcs.1 hb
        cases b with
        | true =>
          simp only [if_true] at hr
          split at hr
          · rename_i vs' s hu
            cases hr
            obtain ⟨p1, p2, p3⟩ := ent_inv hcs hu
            refine .inr ⟨0, y, _, rfl, by simp [Instr.findNow, q1], rfl, q2 rfl, fun f f1 f2 f3 => ?_⟩
            rw [List.modify_zero_cons]
            refine ⟨⟨_, rfl, ?_⟩, h3⟩
            show CellsR F O (entC (f y)) _
            unfold entC
            rw [f1, f2, f3]
            exact ⟨hx, hz.app ⟨p3, trivial⟩⟩
          · cases hr
        | false =>
          simp only [Bool.false_eq_true, if_false] at hr
          split at hr
          · rename_i es2 hu
            cases hr
            rcases ov_find hd hx hz (i + 1) h3 hu with ⟨e, _⟩ | ⟨j, e, es3, e3, g1, g2, g3, g4⟩
            · cases e
            · cases e3
              refine .inr ⟨j + 1, e, _, rfl, by simp [Instr.findNow, q1, g1]; omega, by simpa using g2, g3, fun f f1 f2 f3 => ?_⟩
              rw [List.modify_succ_cons]
              exact ⟨⟨_, rfl, hcs⟩, g4 f f1 f2 f3⟩
          · rename_i hu
            cases hr
            rcases ov_find hd hx hz (i + 1) h3 hu with ⟨_, g1⟩ | ⟨j, e, es3, e3, _⟩
            · exact .inl ⟨rfl, by simp [Instr.findNow, q1, g1]⟩
            · cases e3
          · cases hr
      · cases hr
theorem ov_one {kd : Kd} {key : AV} {vs : List AV} (hk : key.one = true) (hv : ∀ a ∈ vs, AV.one a = true) : ∀ {es es' : List AV}, ovA kd key vs es = some (some es') → (∀ e ∈ es, ∀ a ∈ e.cells, AV.one a = true) → ∀ e ∈ es', ∀ a ∈ e.cells, AV.one a = true
  | [], es', h, _ => by cases h
  | e0 :: es, es', h, h1 => by
    unfold ovA at h
    split at h
    · rename_i h0; cases h0
    · rename_i k r es1 heq
      cases heq
      split at h
      · rename_i b hb
        split at h
        · split at h
          · rename_i vs' s hu
            cases h
            intro e he a ha
            rcases List.mem_cons.1 he with rfl | he
            · have ha' : a = key ∨ a ∈ vs ∨ a = s := by simpa [AV.cells] using ha
              rcases ha' with rfl | ha' | rfl
              · exact hk
              · exact hv a ha'
              · exact h1 (.agg (k :: r)) (by simp) a (by rw [unsn_ok hu]; simp [AV.cells])
            · exact h1 e (by simp [he]) a ha
          · cases h
        · split at h
          · rename_i es2 hu
            cases h
            intro e he a ha
            rcases List.mem_cons.1 he with rfl | he
            · exact h1 (.agg (k :: r)) (by simp) a ha
            · exact ov_one hk hv hu (fun e1 h' => h1 e1 (by simp [h'])) e he a ha
          · cases h
          · cases h
      · cases h
    · cases h
theorem dl_find {F : Fz} {O : Ow} {kd : Kd} {d : TypeDesc} (hd : descIs kd d) {key : AV} {x : Value} (hx : VR F O x key) : ∀ {l : List MapEntry} {es es' : List AV} (i : Nat), EntsIs F O l es → dlA kd key es = some es' →
    ((es' = es ∧ Instr.findNow d x l i = some none) ∨ ∃ j v, Instr.findNow d x l i = some (some (i + j, v)) ∧ EntsIs F O (l.eraseIdx j) es') ∧ ∀ e ∈ es', e ∈ es
  | [], [], es', i, _, h => by cases h; exact ⟨.inl ⟨rfl, rfl⟩, fun e h => h⟩
  | [], _ :: _, _, _, h, _ => h.elim
  | _ :: _, [], _, _, h, _ => h.elim
  | y :: l, e0 :: es, es', i, h, hr => by
    obtain ⟨⟨cs, rfl, hcs⟩, h3⟩ := h
    cases cs with
    | nil => exact hcs.elim
    | cons ka rs =>
      simp only [dlA] at hr
      split at hr
      · rename_i b hb
        obtain ⟨q1, q2⟩ := eqC_now hd hx hcs.1 hb
        cases b with
        | true =>
          simp only [if_true] at hr
          cases hr
          exact ⟨.inr ⟨0, y.val, by simp [Instr.findNow, q1], h3⟩, fun e he => by simp [he]⟩
        | false =>
          simp only [Bool.false_eq_true, if_false] at hr
          split at hr
          · rename_i es2 hu
            cases hr
            obtain ⟨a1, a2⟩ := dl_find hd hx (i + 1) h3 hu
            refine ⟨?_, fun e he => ?_⟩
            · rcases a1 with ⟨rfl, g1⟩ | ⟨j, v, g1, g2⟩
              · exact .inl ⟨rfl, by simp [Instr.findNow, q1, g1]⟩
              · exact .inr ⟨j + 1, v, by simp [Instr.findNow, q1, g1]; omega, ⟨⟨_, rfl, hcs⟩, g2⟩⟩
            · rcases List.mem_cons.1 he with rfl | he
              · simp
              · simp [a2 e he]
          · cases hr
      · cases hr
theorem rdH_ok {l : List AV} {c : Int} {ag : Bool} {r es : List AV} (h : rdH l = some (c, ag, r, es)) : l = .agg (.v (.int .i64 c) :: .v (.bool ag) :: r) :: es := by
  unfold rdH at h
  split at h
  · cases h; rfl
  · cases h
section
variable {P : Program} {B : Bd} {w0 w : World} {F0 F : Fz} {O : Ow} {H : Hp}
theorem Own.mp (h : Own B w0 F0 F O H w) {x : Value} {i g : Nat} {ob : OB} (hx : VR F O x (.mp i g)) (hl : Sim.liveM H i g = some ob) :
    ∃ d, O[i]? = some d ∧ H[i]? = some ob ∧ Row B F O w d ob ∧ x = .map (some d.b) ∧ ob.e = mapE ∧ 2 ≤ ob.k := by
  obtain ⟨hi, hg, he⟩ := liveM_ok hl
  obtain ⟨d, hd, r⟩ := h.get hi
  cases hx with
  | p h => cases h
  | mp _ _ _ d' hd' hg' h1 hh =>
    rw [hd] at hd'
    cases hd'
    exact ⟨d, hd, hi, r, hh (by rw [r.hg, hg]), he⟩
theorem Row.ents0 {d : Ds} {ob : OB} (r : Row B F O w d ob) (he : ob.e = mapE) (hk : 2 ≤ ob.k) : ∃ ents clock ag m hd es, w.heap[d.b]? = some (.map ents clock) ∧ ob.k = m + 2 ∧ (∀ x ∈ ents.toList, valOk ag m x.val) ∧ ob.es = hd :: es ∧ (∃ cs, hd = .agg cs ∧ CellsR F O (hdC ag m clock) cs) ∧ EntsIs F O ents.toList es := by
  obtain ⟨cur, h1, _, h3⟩ := r.cur
  rcases h1 with ⟨ne, _⟩ | ⟨_, ⟨ents, clock, ag, m, q0, q1, q2, q3, q4⟩ | ⟨k1, _⟩ | ⟨k1, _⟩⟩
  · exact absurd he ne
  rotate_left
  · omega
  · omega
  · have hrows : RowsR F O (hdC ag m clock :: ents.toList.map entC) ob.es := by
      refine RowsR.mk (K := m + 2) (by omega) (by simpa using q3) (fun e he => by rw [r.hn e he, q0]) (fun c hc => ?_) fun n j e a hx ha => ?_
      · rcases List.mem_cons.1 hc with rfl | hc
        · simp [hdC]
        · obtain ⟨x, hx, rfl⟩ := List.mem_map.1 hc
          exact entC_len (q4 x hx)
      · obtain ⟨c, g1, g2⟩ := h3 n j e a hx ha
        rw [q0, q2] at g1
        refine ⟨c, ?_, g2⟩
        rw [← flatE_eq]
        simpa using g1
    cases hes : ob.es with
    | nil => rw [hes] at hrows; exact hrows.elim
    | cons hd es =>
      rw [hes] at hrows
      exact ⟨ents, clock, ag, m, hd, es, q1, q0, q4, rfl, hrows.1, hrows.2⟩
theorem Row.ents {d : Ds} {ob : OB} (r : Row B F O w d ob) (he : ob.e = mapE) (hk : 2 ≤ ob.k) {c : Int} {ag : Bool} {rr es : List AV} (hr : rdH ob.es = some (c, ag, rr, es)) :
    ∃ ents clock, w.heap[d.b]? = some (.map ents clock) ∧ c = (clock : Int) ∧ ob.k = rr.length + 2 ∧ (∀ x ∈ ents.toList, valOk ag rr.length x.val) ∧ EntsIs F O ents.toList es ∧ CellsR F O (hdC ag rr.length clock) (.v (.int .i64 c) :: .v (.bool ag) :: rr) := by
  obtain ⟨ents, clock, ag', m, hd, es', q1, q2, q3, q4, ⟨cs, q5, q6⟩, q7⟩ := r.ents0 he hk
  rw [rdH_ok hr] at q4
  cases q4
  cases q5
  obtain ⟨a1, a2, a3⟩ := q6
  have e1 := int_eq a1
  have e2 := a2.toV
  cases e2
  have e3 := a3.len
  simp at e3
  subst e3
  exact ⟨ents, clock, q1, e1.symm, q2, q3, q7, ⟨a1, a2, a3⟩⟩
/-- A map's row behind a change. -/
theorem Own.setMap (h : Own B w0 F0 F O H w) {i : Nat} {ob : OB} {ds : Ds} (hi : H[i]? = some ob) (hd : O[i]? = some ds) (he : ob.e = mapE) (hfz : ob.fz = 0) {m : Nat} (hk : ob.k = m + 2) {ag : Bool} {ents' : Array MapEntry} {clock' : Nat} {hcs es' : List AV}
    (hh : CellsR F O (hdC ag m clock') hcs) (hho : ∀ a ∈ hcs, AV.one a = true) (hE : EntsIs F O ents'.toList es') (hv : ∀ x ∈ ents'.toList, valOk ag m x.val) (ho : ∀ e ∈ es', ∀ a ∈ e.cells, AV.one a = true) :
    ∃ O', Own B w0 F0 F O' (H.set i { ob with es := .agg hcs :: es' }) { w with heap := w.heap.setIfInBounds ds.b (.map ents' clock') } ∧ O.le O' := by
  have r' := h.row i ds ob hd hi
  have hlt := r'.lt
  have hlen : ∀ c ∈ hdC ag m clock' :: ents'.toList.map entC, c.length = m + 2 := fun c hc => by
    rcases List.mem_cons.1 hc with rfl | hc
    · simp [hdC]
    · obtain ⟨x, hx, rfl⟩ := List.mem_map.1 hc
      exact entC_len (hv x hx)
  have hrows : RowsR F O (hdC ag m clock' :: ents'.toList.map entC) (.agg hcs :: es') := ⟨⟨_, rfl, hh⟩, hE⟩
  have hel : ∀ {l : List (List Value)} {es : List AV}, RowsR F O l es → (∀ c ∈ l, c.length = m + 2) → ∀ e ∈ es, e.cells.length = m + 2 := by
    intro l
    induction l with
    | nil => intro es hr _ e he; cases es with
      | nil => simp at he
      | cons => exact hr.elim
    | cons c l ih => intro es hr hc e he; cases es with
      | nil => simp at he
      | cons e0 es =>
        obtain ⟨⟨cs, rfl, q⟩, q2⟩ := hr
        rcases List.mem_cons.1 he with rfl | he
        · have := q.len
          rw [hc c (by simp)] at this
          exact this.symm
        · exact ih q2 (fun c hc' => hc c (by simp [hc'])) e he
  have hob : H.set i { ob with es := .agg hcs :: es' } = H.set i ⟨ob.e, ob.k, .agg hcs :: es', ob.g, ob.fz⟩ := rfl
  rw [hob]
  obtain ⟨a1, a2⟩ := h.writeG (w' := { w with heap := w.heap.setIfInBounds ds.b (.map ents' clock') }) (new := flatE ag m clock' ents') (g' := ob.g) (es' := .agg hcs :: es') hi hd
    (fun b hb => by simp only; rw [Array.getElem?_setIfInBounds_ne (fun e => hb e.symm)])
    (h.below.trans ⟨rfl, rfl, rfl, by simp, fun k hk => by simp only; rw [Array.getElem?_setIfInBounds_ne (fun e => by have := r'.hB.1; omega)]⟩)
    (by simpa using h.size)
    (.inr ⟨he, .inl ⟨ents', clock', ag, m, hk, by simp only; rw [Array.getElem?_setIfInBounds_self_of_lt hlt], rfl, by have := RowsR.len hE; simp at this; simp [this], hv⟩⟩)
    (Nat.le_refl _) (fun ne => absurd he ne) (fun ne => absurd he ne) (fun e he' => by rw [hk]; exact hel hrows hlen e he') (fun e he' => by
      rcases List.mem_cons.1 he' with rfl | he'
      · exact hho
      · exact ho e he') (by omega)
    (fun n j e a hx ha => by
      obtain ⟨c, g1, g2⟩ := hrows.cells hlen n j e a hx ha
      refine ⟨c, ?_, g2⟩
      rw [hk]
      rw [← flatE_eq] at g1
      simpa using g1)
    (fun o v hv => by
      have := r'.hf o v hv
      rw [hfz] at this
      omega)
  exact ⟨_, a1, a2⟩
theorem run_check {t : TypeId} {kd : Kd} {d : TypeDesc} (hu : P.underlying t = some d) (hd : descIs kd d) (v : Value) (b : Bool) (w : World) : (Instr.checkKey b 10000 t v).run P w = .ok () w := by
  unfold Instr.checkKey
  simp only [Sem.run_bind, run_underlying hu, Result.andThen]
  cases kd with
  | i => obtain ⟨k, rfl⟩ := hd; rfl
  | s => cases hd; rfl
  | b => cases hd; rfl
theorem run_find {t : TypeId} {d : TypeDesc} (hu : P.underlying t = some d) {v : Value} {l : List MapEntry} {r : Option (Nat × Value)} (h : Instr.findNow d v l 0 = some r) (w : World) : (Instr.findKey t v l).run P w = .ok r w := by
  simp [Instr.findKey, run_underlying hu, h]
theorem VR.tup2 {u v : Value} {ua va : AV} (hu : VR F O u ua) (hv : VR F O v va) : VR F O (.tuple #[u, v]) (.tup [ua, va]) :=
  VR.tup (F := F) (O := O) [u, v] [ua, va] rfl fun i c a hc ha => by
    match i, hc, ha with
    | 0, hc, ha => cases hc; cases ha; exact hu
    | 1, hc, ha => cases hc; cases ha; exact hv
theorem VR.tup3 {u v x : Value} {ua va xa : AV} (hu : VR F O u ua) (hv : VR F O v va) (hx : VR F O x xa) : VR F O (.tuple #[u, v, x]) (.tup [ua, va, xa]) :=
  VR.tup (F := F) (O := O) [u, v, x] [ua, va, xa] rfl fun i c a hc ha => by
    match i, hc, ha with
    | 0, hc, ha => cases hc; cases ha; exact hu
    | 1, hc, ha => cases hc; cases ha; exact hv
    | 2, hc, ha => cases hc; cases ha; exact hx
theorem Row.one {d : Ds} {ob : OB} (r : Row B F O w d ob) {c : Int} {ag : Bool} {rr es : List AV} (hr : rdH ob.es = some (c, ag, rr, es)) : (∀ e ∈ es, ∀ a ∈ e.cells, AV.one a = true) ∧ ∀ a ∈ rr, AV.one a = true := by
  have h1 := r.h1
  rw [rdH_ok hr] at h1
  exact ⟨fun e he => h1 e (by simp [he]), fun a ha => h1 (.agg (.v (.int .i64 c) :: .v (.bool ag) :: rr)) (by simp) a (by simp [AV.cells, ha])⟩
theorem lkp_run (h : Own B w0 F0 F O H w) {x y z : Value} {xa ka za r : AV} (hx : VR F O x xa) (hy : VR F O y ka) (hz : VR F O z za) {t kt et : TypeId} {kd : Kd} {inf : TypeInfo} {c : Bool} (ht : P.underlying t = some (.map kt et)) (hk : kindOf P kt = some kd) (hi : P.info? et = some inf) (hzr : inf.zero = some z) (hr : lkpA H kd c za xa ka = some r) :
    ∃ u, (Instr.lookup t x y c).run P w = .ok u w ∧ VR F O u r := by
  obtain ⟨d, hu, hd⟩ := kindOf_is hk
  unfold lkpA at hr
  split at hr
  · rename_i i g
    split at hr
    · rename_i ob hl
      obtain ⟨ds, h1, h2, r', rfl, he, hk2⟩ := h.mp hx hl
      split at hr
      · rename_i c0 ag rr es hrd
        have hzer : (zeroValue et).run P w = .ok z w := run_zero hi hzr w
        obtain ⟨ents, clock, q1, _, _, q3, q2, _⟩ := r'.ents he hk2 hrd
        have hone := (r'.one hrd).1
        split at hr
        · rename_i v hv
          rcases lk_find hd hy 0 q2 q3 hone hv with ⟨e, _⟩ | ⟨j, e, va, e1, g1, g2, g3⟩
          · cases e
          · cases e1
            refine ⟨if c = true then .tuple #[e.val, .bool true] else e.val, ?_, ?_⟩
            · cases c <;> simp [Instr.lookup, run_underlying ht, MapKept.run_getObj_map q1, run_check hu hd, run_find hu g1]
            · cases c
              · cases hr; exact g3
              · cases hr; exact g3.tup2 (.p (.v _ rfl))
        · rename_i hv
          rcases lk_find hd hy 0 q2 q3 hone hv with ⟨_, g1⟩ | ⟨j, e, va, e1, _⟩
          · refine ⟨if c = true then .tuple #[z, .bool false] else z, ?_, ?_⟩
            · cases c <;> simp [Instr.lookup, run_underlying ht, MapKept.run_getObj_map q1, run_check hu hd, run_find hu g1, hzer]
            · cases c
              · cases hr; exact hz
              · cases hr; exact hz.tup2 (.p (.v _ rfl))
          · cases e1
        · cases hr
      · cases hr
    · cases hr
  · have hzer : (zeroValue et).run P w = .ok z w := run_zero hi hzr w
    have hxm : x = .map none := hx.toV
    subst hxm
    refine ⟨if c = true then .tuple #[z, .bool false] else z, ?_, ?_⟩
    · cases c <;> simp [Instr.lookup, run_underlying ht, run_check hu hd, hzer, run_find hu (show Instr.findNow d y [] 0 = some none from rfl)]
    · cases c
      · cases hr; exact hz
      · cases hr; exact hz.tup2 (.p (.v _ rfl))
  · cases hr
theorem lnm_run (h : Own B w0 F0 F O H w) {x : Value} {xa : AV} (hx : VR F O x xa) {t ty kt et : TypeId} (ht : P.underlying t = some (.map kt et)) {n : Nat} (hr : lnmA H xa = some n) : (Builtin.len_ #[t] ty #[x]).run P w = .ok (.int .i64 n) w := by
  unfold lnmA at hr
  split at hr
  · rename_i i g
    split at hr
    · rename_i ob hl
      obtain ⟨ds, h1, h2, r', rfl, he, hk2⟩ := h.mp hx hl
      obtain ⟨ents, clock, ag, m, hd, es, q1, _, _, q4, _, q2⟩ := r'.ents0 he hk2
      rw [q4] at hr
      cases hr
      have := RowsR.len q2
      simp at this
      simp [Builtin.len_, run_underlying ht, MapKept.run_getObj_map q1, goInt, this]
    · cases hr
  · cases hr
theorem mkm_run (h : Own B w0 F0 F O H w) (ag : Bool) (m : Nat) : Out B w0 F0 F O (.mp H.length 0) (H ++ [⟨mapE, m + 2, [.agg (.v (.int .i64 0) :: .v (.bool ag) :: List.replicate m (.v (.bool false)))], 0, 0⟩]) (.map (some w.heap.size)) (w.alloc (.map #[] 0)) := by
  have hcr : CellsR F O (hdC ag m 0) (.v (.int .i64 0) :: .v (.bool ag) :: List.replicate m (.v (.bool false))) := by
    refine ⟨.p (.v _ rfl), .p (.v _ rfl), ?_⟩
    induction m with
    | zero => trivial
    | succ m ih => simp only [List.replicate_succ]; exact ⟨.p (.v _ rfl), ih⟩
  have hrows : RowsR F O [hdC ag m 0] [.agg (.v (.int .i64 0) :: .v (.bool ag) :: List.replicate m (.v (.bool false)))] := ⟨⟨_, rfl, hcr⟩, trivial⟩
  refine ⟨F, O ++ [⟨w.heap.size, 0, 0, m + 2⟩], ?_, h.pushG (w1 := w) (cs := flatE ag m 0 #[]) (o := .map #[] 0) (Below.refl _ w) rfl (.inr ⟨rfl, .inl ⟨#[], 0, ag, m, rfl, rfl, rfl, rfl, fun x hx => by simp at hx⟩⟩) (Nat.zero_le _) (fun e => absurd rfl e) (fun e => absurd rfl e) (fun y hy => ?_) (fun y hy a ha => ?_) (fun n j y u hy hu => ?_), Fz.le_refl F, Ow.le_push O _⟩
  · exact .mp _ H.length 0 ⟨w.heap.size, 0, 0, m + 2⟩ (by rw [← h.len]; simp) (Nat.le_refl _) rfl fun _ => rfl
  · simp only [List.mem_singleton] at hy; subst hy; simp [AV.cells]
  · simp only [List.mem_singleton] at hy; subst hy
    simp only [AV.cells, List.mem_cons, List.mem_replicate] at ha
    rcases ha with rfl | rfl | ⟨_, rfl⟩ <;> rfl
  · obtain ⟨c, g1, g2⟩ := hrows.cells (K := m + 2) (fun c hc => by simp only [List.mem_singleton] at hc; subst hc; simp [hdC]) n j y u hy hu
    refine ⟨c, ?_, g2⟩
    have : (flatE ag m 0 #[]).toList = [hdC ag m 0].flatten := by rw [flatE_eq]; rfl
    rw [← this] at g1
    simpa using g1
/-- An iterator is made. -/
theorem rgm_run (h : Own B w0 F0 F O H w) {x : Value} {xa r : AV} {H' : Hp} (hx : VR F O x xa) {t kt et : TypeId} (ht : P.underlying t = some (.map kt et)) (hr : rgmA H xa = some (r, H')) :
    ∃ u w', (Instr.range t x).run P w = .ok u w' ∧ Out B w0 F0 F O r H' u w' := by
  unfold rgmA at hr
  split at hr
  · rename_i i g
    split at hr
    · rename_i ob hl
      split at hr
      · rename_i c ag rr es hrd
        cases hr
        obtain ⟨ds, h1, h2, r', rfl, he, hk2⟩ := h.mp hx hl
        obtain ⟨ents, clock, q1, rfl, _⟩ := r'.ents he hk2 hrd
        have hcl : CellsR F O (iterC ds.b clock #[] clock).toList [.mp i g, .v (.int .i64 (clock : Int)), .v (.int .i64 (clock : Int))] := ⟨hx, .p (.v _ rfl), .p (.v _ rfl), trivial⟩
        refine ⟨_, w.alloc (.mapIter (some ds.b) clock #[] clock), by simp [Instr.range, run_underlying ht, MapKept.run_getObj_map q1, newObj, Sem.run]; rfl, F, O ++ [⟨w.heap.size, 3, 0, 1⟩], ?_, h.pushG (w1 := w) (cs := iterC ds.b clock #[] clock) (o := .mapIter (some ds.b) clock #[] clock) (Below.refl _ w) rfl (.inr ⟨rfl, .inr (.inl ⟨rfl, ds.b, clock, #[], clock, rfl, rfl, rfl⟩)⟩) (by unfold maxLen; omega) (fun e => absurd rfl e) (fun e => absurd rfl e) (fun y hy => ?_) (fun y hy a ha => ?_) (fun n j y u hy hu => ?_), Fz.le_refl F, Ow.le_push O _⟩
        · refine .oa _ H.length 0 0 0 ⟨w.heap.size, 3, 0, 1⟩ (by rw [← h.len]; simp) (Nat.le_refl _) rfl fun _ => rfl
        · simp at hy; rcases hy with rfl | rfl <;> rfl
        · simp at hy; rcases hy with rfl | rfl <;> (simp [AV.cells] at ha; subst ha; rfl)
        · have hcy : y.cells = [y] := by
            have hm := List.mem_of_getElem? hy
            simp at hm; rcases hm with rfl | rfl <;> rfl
          rw [hcy] at hu
          cases j with
          | zero =>
            simp at hu; subst hu
            obtain ⟨c, p1, p2⟩ := hcl.at n y hy
            exact ⟨c, by simpa using p1, p2⟩
          | succ j => simp at hu
      · cases hr
    · cases hr
  · cases hr
theorem seenA_ok : ∀ {L : List Nat} {sl : List AV} {q : List Int}, CellsR F O (L.map fun (s : Nat) => Value.int .i64 (s : Int)) sl → seenA sl = some q → q = L.map (fun (s : Nat) => (s : Int)) ∧ ∀ e ∈ sl, ∃ s, e = .v (.int .i64 s)
  | [], [], q, _, h => by cases h; exact ⟨rfl, fun e h => by simp at h⟩
  | [], _ :: _, _, h, _ => h.elim
  | _ :: _, [], _, h, _ => h.elim
  | s :: L, a :: sl, q, h, hq => by
    unfold seenA at hq
    split at hq
    · rename_i h0; cases h0
    · rename_i s' l heq
      cases heq
      split at hq
      · rename_i l' hl'
        cases hq
        obtain ⟨e1, e2⟩ := seenA_ok h.2 hl'
        have := int_eq h.1
        subst this
        exact ⟨by rw [e1]; rfl, fun e he => by
          rcases List.mem_cons.1 he with rfl | he
          · exact ⟨_, rfl⟩
          · exact e2 e he⟩
      · cases hq
    · cases hq
theorem nxE_ok {ag : Bool} {m : Nat} {since : Int} {seen : List Int} : ∀ {l : List MapEntry} {es : List AV} {L : List (AV × AV × Int)}, EntsIs F O l es → (∀ y ∈ l, valOk ag m y.val) → (∀ e ∈ es, ∀ a ∈ e.cells, AV.one a = true) → nxE ag since seen es = some L →
    (∀ x ∈ l, (x.born : Int) < since) ∧ (∀ x ∈ l, seen.contains (x.born : Int) = false → ∃ p ∈ L, p.2.2 = (x.born : Int) ∧ VR F O x.key p.1 ∧ VR F O x.val p.2.1) ∧ (L ≠ [] → ∃ x ∈ l, seen.contains (x.born : Int) = false)
  | [], [], L, _, _, _, h => by cases h; exact ⟨fun x h => by simp at h, fun x h => by simp at h, fun h => absurd rfl h⟩
  | [], _ :: _, _, h, _, _, _ => h.elim
  | _ :: _, [], _, h, _, _, _ => h.elim
  | y :: l, e0 :: es, L, h, hv, h1, hr => by
    obtain ⟨⟨cs, rfl, hcs⟩, h3⟩ := h
    cases cs with
    | nil => exact hcs.elim
    | cons ka rs =>
      simp only [nxE] at hr
      split at hr
      · rename_i vs s l' hu hl'
        obtain ⟨a1, a2, a3⟩ := nxE_ok h3 (fun y hy => hv y (by simp [hy])) (fun e he => h1 e (by simp [he])) hl'
        obtain ⟨p1, p2, p3⟩ := ent_inv hcs hu
        have hs := int_eq p3
        subst hs
        split at hr
        · rename_i hlt
          have b1 : ∀ x ∈ y :: l, (x.born : Int) < since := fun x hx => by
            rcases List.mem_cons.1 hx with rfl | hx
            · exact hlt
            · exact a1 x hx
          split at hr
          · rename_i hsn
            cases hr
            refine ⟨b1, fun x hx hn => ?_, fun hne => ?_⟩
            · rcases List.mem_cons.1 hx with rfl | hx
              · rw [hsn] at hn; cases hn
              · exact a2 x hx hn
            · obtain ⟨x, hx, hn⟩ := a3 hne
              exact ⟨x, by simp [hx], hn⟩
          · rename_i hsn
            have hsn' : seen.contains (y.born : Int) = false := by simpa using hsn
            split at hr
            · rename_i v hv'
              cases hr
              have hva := valA_ok (hv y (by simp)) p2 (fun a ha => h1 (.agg (ka :: rs)) (by simp) a (by rw [unsn_ok hu]; simp [AV.cells, ha])) hv'
              refine ⟨b1, fun x hx hn => ?_, fun _ => ⟨y, by simp, hsn'⟩⟩
              rcases List.mem_cons.1 hx with rfl | hx
              · exact ⟨_, List.mem_cons_self .., rfl, p1, hva⟩
              · obtain ⟨p, q1, q2⟩ := a2 x hx hn
                exact ⟨p, by simp [q1], q2⟩
            · cases hr
        · cases hr
      · cases hr
theorem fdE_ok {ag : Bool} {m : Nat} {s : Nat} : ∀ {l : List MapEntry} {es : List AV} {r : AV}, EntsIs F O l es → (∀ y ∈ l, valOk ag m y.val) → (∀ e ∈ es, ∀ a ∈ e.cells, AV.one a = true) → fdE ag (s : Int) es = some r →
    ∃ e, l.find? (fun x => x.born == s) = some e ∧ VR F O (.tuple #[e.key, e.val]) r
  | [], [], r, _, _, _, h => by cases h
  | [], _ :: _, _, h, _, _, _ => h.elim
  | _ :: _, [], _, h, _, _, _ => h.elim
  | y :: l, e0 :: es, r, h, hv, h1, hr => by
    obtain ⟨⟨cs, rfl, hcs⟩, h3⟩ := h
    cases cs with
    | nil => exact hcs.elim
    | cons ka rs =>
      simp only [fdE] at hr
      split at hr
      · rename_i vs s' hu
        obtain ⟨p1, p2, p3⟩ := ent_inv hcs hu
        have hs := int_eq p3
        subst hs
        split at hr
        · rename_i he
          split at hr
          · rename_i v hv'
            cases hr
            have hva := valA_ok (hv y (by simp)) p2 (fun a ha => h1 (.agg (ka :: rs)) (by simp) a (by rw [unsn_ok hu]; simp [AV.cells, ha])) hv'
            have : y.born = s := by omega
            exact ⟨y, by simp [this], p1.tup2 hva⟩
          · cases hr
        · rename_i he
          obtain ⟨e, g1, g2⟩ := fdE_ok h3 (fun y hy => hv y (by simp [hy])) (fun e he => h1 e (by simp [he])) hr
          have : (y.born == s) = false := by simp; omega
          exact ⟨e, by rw [List.find?_cons, this]; exact g1, g2⟩
      · cases hr
/-- An iterator's row. -/
theorem Row.iter {d : Ds} {ob : OB} (r : Row B F O w d ob) (he : ob.e = mapE) (hk : ob.k = 1) : ∃ b since seen last, w.heap[d.b]? = some (.mapIter (some b) since seen last) ∧ ob.es.length = seen.size + 3 ∧ ∀ (n : Nat) (e : AV), ob.es[n]? = some e → e.cells = [e] → ∃ c, (iterC b since seen last).toList[n]? = some c ∧ VR F O c e := by
  obtain ⟨cur, o1, _, o3⟩ := r.cur
  rcases o1 with ⟨ne, _⟩ | ⟨_, ⟨_, _, _, m, k2, _⟩ | ⟨_, b, since, seen, last, o1, oc, on⟩ | ⟨k0, _⟩⟩
  · exact absurd he ne
  · omega
  rotate_left
  · omega
  refine ⟨b, since, seen, last, o1, on.symm, fun n e hn hc => ?_⟩
  obtain ⟨c, c1, c2⟩ := o3 n 0 e e hn (by rw [hc]; rfl)
  rw [hk, oc] at c1
  exact ⟨c, by simpa using c1, c2⟩
/-- A step of an iterator. -/
theorem nxm_run (h : Own B w0 F0 F O H w) {x : Value} {xa : AV} {L : List (AV × Hp)} (hx : VR F O x xa) (ty : TypeId) (hr : nxmA H xa = some L) :
    ∃ u w' p, p ∈ L ∧ (Instr.next x false ty).run P w = .ok u w' ∧ Out B w0 F0 F O p.1 p.2 u w' := by
  unfold nxmA at hr
  split at hr
  · rename_i i g
    split at hr
    · rename_i ob hi
      split at hr
      · rename_i hc
        obtain ⟨hg, he, hk, hfz⟩ := hc
        split at hr
        · rename_i j g' since last sl hes
          split at hr
          · rename_i ob2 seen hl hsn
            split at hr
            · rename_i c ag rr es hrd
              split at hr
              · rename_i hsl
                obtain ⟨d, hd, r1⟩ := h.get hi
                obtain ⟨b, since', seen', last', o1, o2, o3⟩ := r1.iter he hk
                rw [hes] at o2 o3
                have hc0 : ∃ c, (iterC b since' seen' last').toList[0]? = some c ∧ VR F O c (.mp j g') := o3 0 _ rfl rfl
                obtain ⟨c0, c1, c2⟩ := hc0
                have hcm : c0 = .map (some b) := by simpa [iterC] using c1.symm
                subst hcm
                obtain ⟨c1', c3, c4⟩ := o3 1 _ rfl rfl
                have e1 : c1' = .int .i64 (since' : Int) := by simpa [iterC] using c3.symm
                subst e1
                have hsince := int_eq c4
                subst hsince
                obtain ⟨c2', c5, c6⟩ := o3 2 _ rfl rfl
                have e2 : c2' = .int .i64 (last' : Int) := by simpa [iterC] using c5.symm
                subst e2
                have hlast := int_eq c6
                subst hlast
                have hslall : ∀ e ∈ sl, ∃ s, e = .v (.int .i64 s) := by
                  have go : ∀ {l : List AV} {q : List Int}, seenA l = some q → ∀ e ∈ l, ∃ s, e = .v (.int .i64 s) := by
                    intro l
                    induction l with
                    | nil => intro q _ e he; simp at he
                    | cons a l ih =>
                      intro q hq e he
                      unfold seenA at hq
                      split at hq
                      · rename_i h0; cases h0
                      · rename_i s' l2 heq
                        cases heq
                        split at hq
                        · rename_i l' hl'
                          rcases List.mem_cons.1 he with rfl | he
                          · exact ⟨_, rfl⟩
                          · exact ih hl' e he
                        · cases hq
                      · cases hq
                  exact go hsn
                have hcs : CellsR F O (seen'.toList.map fun (s : Nat) => Value.int .i64 (s : Int)) sl := by
                  refine CellsR.of (by simp at o2; simp; omega) fun n a ha => ?_
                  obtain ⟨s, rfl⟩ := hslall a (List.mem_of_getElem? ha)
                  obtain ⟨c, p1, p2⟩ := o3 (n + 3) _ (by simpa using ha) rfl
                  exact ⟨c, by simpa [iterC] using p1, p2⟩
                obtain ⟨hseen, _⟩ := seenA_ok hcs hsn
                subst hseen
                obtain ⟨ds, h1, h2, r', hm, he2, hk2⟩ := h.mp c2 hl
                injection hm with hm
                injection hm with hm
                subst hm
                obtain ⟨ents, clock, q1, rfl, q5, q3, q2, _⟩ := r'.ents he2 hk2 hrd
                have hxe : x = .pointer (some ⟨d.b, 0, none⟩) := by
                  cases hx with
                  | p h => cases h
                  | oa _ _ _ _ _ d' hd' hg' h1' hh =>
                    rw [hd] at hd'
                    cases hd'
                    have := hh (by rw [r1.hg, hg])
                    simpa using this
                subst hxe
                have hcont : ∀ s : Nat, (seen'.toList.map fun (s : Nat) => (s : Int)).contains (s : Int) = seen'.contains s := fun s => by
                  rw [Bool.eq_iff_iff]
                  simp
                  constructor
                  · rintro ⟨a, ha, e⟩; have : a = s := by omega
                    subst this; exact ha
                  · intro hs; exact ⟨s, hs, rfl⟩
                have main : ∀ {L' : List (AV × AV × Int)}, nxE ag (since' : Int) (seen'.toList.map fun (s : Nat) => (s : Int)) es = some L' → (∀ p ∈ L', (.tup [.v (.bool true), p.1, p.2.1], H.set i { ob with es := .mp j g' :: .v (.int .i64 (since' : Int)) :: .v (.int .i64 (clock : Int)) :: (sl ++ [.v (.int .i64 p.2.2)]) }) ∈ L) → (L' = [] → (.tup [.v (.bool false)], H) ∈ L) →
                    ∃ u w' p, p ∈ L ∧ (Instr.next (.pointer (some ⟨d.b, 0, none⟩)) false ty).run P w = .ok u w' ∧ Out B w0 F0 F O p.1 p.2 u w' := fun {L'} hn hL1 hL2 => by
                  obtain ⟨n1, n2, n3⟩ := nxE_ok q2 q3 (r'.one hrd).1 hn
                  rcases run_next_at (P := P) w ty d.b ds.b since' last' seen' ents clock o1 q1 (fun x hx => by have := n1 x hx; omega) (by omega) with ⟨g1, g2⟩ | ⟨e, g1, w1, g2, g3⟩
                  · have hnil : L' = [] := by
                      cases hL' : L' with
                      | nil => rfl
                      | cons a t =>
                        obtain ⟨y, hy, hyn⟩ := n3 (by rw [hL']; simp)
                        rw [hcont] at hyn
                        have : y ∈ leftOf ents seen' := by
                          unfold leftOf
                          rw [Array.mem_filter]
                          exact ⟨by simpa using hy, by rw [hyn]; rfl⟩
                        have h0 : leftOf ents seen' = #[] := Array.eq_empty_of_size_eq_zero g1
                        rw [h0] at this
                        simp at this
                    refine ⟨_, _, _, hL2 hnil, g2, ?_⟩
                    refine Out.same h ?_
                    exact VR.tup [.bool false] [.v (.bool false)] rfl fun i c a hc ha => by
                      match i, hc, ha with
                      | 0, hc, ha => cases hc; cases ha; exact .p (.v _ rfl)
                  · have hmem : e ∈ ents.toList ∧ seen'.contains e.born = false := by
                      unfold leftOf at g1
                      simp only [Array.mem_toList_iff, Array.mem_filter] at g1
                      exact ⟨by simpa using g1.1, by simpa using g1.2⟩
                    obtain ⟨p, p1, p2, p3, p4⟩ := n2 e hmem.1 (by rw [hcont]; exact hmem.2)
                    refine ⟨_, _, _, hL1 p p1, g3, ?_⟩
                    have hbw : Below w.heap.size w w1 := by
                      rcases g2 with rfl | rfl
                      · exact Below.refl _ _
                      · exact (Below.refl _ _).drew
                    have hw1 := h.keep hbw
                    have hheap : w1.heap = w.heap := by rcases g2 with rfl | rfl <;> rfl
                    have r1' := hw1.row i d ob hd hi
                    have hlt := r1'.lt
                    have hcl : CellsR F O (iterC ds.b since' (seen'.push e.born) clock).toList (.mp j g' :: .v (.int .i64 (since' : Int)) :: .v (.int .i64 (clock : Int)) :: (sl ++ [.v (.int .i64 p.2.2)])) := by
                      have e3 : (iterC ds.b since' (seen'.push e.born) clock).toList = .map (some ds.b) :: .int .i64 (since' : Int) :: .int .i64 (clock : Int) :: ((seen'.toList.map fun (s : Nat) => Value.int .i64 (s : Int)) ++ [.int .i64 (e.born : Int)]) := by simp [iterC]
                      rw [e3, p2]
                      exact ⟨c2, .p (.v _ rfl), .p (.v _ rfl), hcs.app ⟨.p (.v _ rfl), trivial⟩⟩
                    have hall : ∀ y ∈ (.mp j g' :: .v (.int .i64 (since' : Int)) :: .v (.int .i64 (clock : Int)) :: (sl ++ [.v (.int .i64 p.2.2)]) : List AV), y.cells = [y] ∧ y.one = true := fun y hy => by
                      simp only [List.mem_cons, List.mem_append, List.mem_singleton, List.not_mem_nil, or_false] at hy
                      rcases hy with rfl | rfl | rfl | hy | rfl
                      · exact ⟨rfl, rfl⟩
                      · exact ⟨rfl, rfl⟩
                      · exact ⟨rfl, rfl⟩
                      · obtain ⟨s, rfl⟩ := hslall y hy; exact ⟨rfl, rfl⟩
                      · exact ⟨rfl, rfl⟩
                    obtain ⟨a1, a2⟩ := hw1.writeG (w' := ChangeMaps.setBlock w1 d.b (.mapIter (some ds.b) since' (seen'.push e.born) clock)) (new := iterC ds.b since' (seen'.push e.born) clock) (g' := ob.g) (es' := .mp j g' :: .v (.int .i64 (since' : Int)) :: .v (.int .i64 (clock : Int)) :: (sl ++ [.v (.int .i64 p.2.2)])) hi hd
                      (fun b hb => by simp only [ChangeMaps.setBlock]; rw [Array.getElem?_setIfInBounds_ne (fun e => hb e.symm)])
                      (hw1.below.trans ⟨rfl, rfl, rfl, by simp [ChangeMaps.setBlock], fun k hk => by simp only [ChangeMaps.setBlock]; rw [Array.getElem?_setIfInBounds_ne (fun e => by have := r1'.hB.1; omega)]⟩)
                      (by simpa [ChangeMaps.setBlock] using hw1.size)
                      (.inr ⟨he, .inr (.inl ⟨hk, ds.b, since', seen'.push e.born, clock, by simp only [ChangeMaps.setBlock]; rw [Array.getElem?_setIfInBounds_self_of_lt hlt], rfl, by simp at o2; simp; omega⟩)⟩)
                      (Nat.le_refl _) (fun ne => absurd he ne) (fun ne => absurd he ne) (fun y hy => by rw [(hall y hy).1, hk]; rfl) (fun y hy a ha => by rw [(hall y hy).1] at ha; simp at ha; subst ha; exact (hall _ hy).2) (by omega)
                      (fun n jj y a hy ha => by
                        have hcy := (hall y (List.mem_of_getElem? hy)).1
                        rw [hcy] at ha
                        cases jj with
                        | zero =>
                          simp at ha; subst ha
                          obtain ⟨cc, z1, z2⟩ := hcl.at n y hy
                          exact ⟨cc, by rw [hk]; simpa using z1, z2⟩
                        | succ jj => simp at ha)
                      (fun o v hv => by
                        have := r1'.hf o v hv
                        rw [hfz] at this
                        omega)
                    exact ⟨F, _, (VR.tup3 (.p (.v _ rfl)) p3 p4).mono (Fz.le_refl F) a2, a1, Fz.le_refl F, a2⟩
                split at hr
                · rename_i hn
                  cases hr
                  exact main hn (fun p hp => by simp at hp) (fun _ => by simp)
                · rename_i L' hne hn
                  cases hr
                  exact main hn (fun p hp => List.mem_map.2 ⟨p, hp, rfl⟩) (fun hh => absurd hh (by rintro rfl; exact hne rfl))
                · cases hr
              · cases hr
            · cases hr
          · cases hr
        · cases hr
      · cases hr
    · cases hr
  · cases hr
theorem ent_run (h : Own B w0 F0 F O H w) {x : Value} {xa r : AV} (hx : VR F O x xa) (hr : entA H xa = some r) : ∃ u, (Instr.entry x).run P w = .ok u w ∧ VR F O u r := by
  unfold entA at hr
  split at hr
  · rename_i i g
    split at hr
    · rename_i ob hi
      split at hr
      · rename_i hc
        obtain ⟨hg, he, hk⟩ := hc
        split at hr
        · rename_i j g' a1 last sl hes
          split at hr
          · rename_i ob2 sl' s hl hsn
            split at hr
            · rename_i c ag rr es hrd
              split at hr
              · rename_i hcl
                subst hcl
                obtain ⟨d, hd, r1⟩ := h.get hi
                obtain ⟨b, since', seen', last', o1, o2, o3⟩ := r1.iter he hk
                rw [hes] at o2 o3
                obtain ⟨c0, c1, c2⟩ := o3 0 _ rfl rfl
                have hcm : c0 = .map (some b) := by simpa [iterC] using c1.symm
                subst hcm
                obtain ⟨c2', c5, c6⟩ := o3 2 _ rfl rfl
                have e2 : c2' = .int .i64 (last' : Int) := by simpa [iterC] using c5.symm
                subst e2
                have hlast := int_eq c6
                subst hlast
                have hsl := unsn_ok hsn
                have hlen : sl'.length + 1 = seen'.size := by rw [hsl] at o2; simp at o2; omega
                obtain ⟨c3', c7, c8⟩ := o3 (sl'.length + 3) (.v (.int .i64 s)) (by rw [hsl]; simp) rfl
                obtain ⟨st, hst⟩ : ∃ st, seen'[sl'.length]? = some st := ⟨seen'[sl'.length]'(by omega), by rw [Array.getElem?_eq_getElem]⟩
                have e3 : c3' = .int .i64 (st : Int) := by
                  have : (iterC b since' seen' last').toList[sl'.length + 3]? = some (.int .i64 (st : Int)) := by simp [iterC, hst]
                  rw [this] at c7; cases c7; rfl
                subst e3
                have hs := int_eq c8
                subst hs
                have hback : seen'.back? = some st := by rw [Array.back?_eq_getElem?, show seen'.size - 1 = sl'.length by omega]; exact hst
                obtain ⟨ds, h1, h2, r', hm, he2, hk2⟩ := h.mp c2 hl
                injection hm with hm
                injection hm with hm
                subst hm
                obtain ⟨ents, clock, q1, q6, q5, q3, q2, _⟩ := r'.ents he2 hk2 hrd
                have hcl2 : last' = clock := by omega
                subst hcl2
                obtain ⟨e, g1, g2⟩ := fdE_ok q2 q3 (r'.one hrd).1 hr
                have hxe : x = .pointer (some ⟨d.b, 0, none⟩) := by
                  cases hx with
                  | p h => cases h
                  | oa _ _ _ _ _ d' hd' hg' h1' hh =>
                    rw [hd] at hd'
                    cases hd'
                    have := hh (by rw [r1.hg, hg])
                    simpa using this
                subst hxe
                refine ⟨_, ?_, g2⟩
                have hf : ents.find? (fun x => x.born == st) = some e := by rw [← Array.find?_toList]; exact g1
                simp only [Instr.entry, getObj, Sem.run_bind, Sem.run, o1, q1, Result.andThen, hback, bne_self_eq_false, Bool.false_eq_true, if_false, hf]
                rfl
              · cases hr
            · cases hr
          · cases hr
        · cases hr
      · cases hr
    · cases hr
  · cases hr
theorem mup_run (h : Own B w0 F0 F O H w) {x y z : Value} {xa ka va : AV} (hx : VR F O x xa) (hy : VR F O y ka) (hz : VR F O z va) {t kt et : TypeId} {kd : Kd} (ht : P.underlying t = some (.map kt et)) (hk : kindOf P kt = some kd) {H' : Hp} (hr : mupA H kd xa ka va = some H') :
    ∃ w' F' O', (Instr.mapUpdate t x y z).run P w = .ok () w' ∧ Own B w0 F0 F' O' H' w' ∧ F.le F' ∧ O.le O' := by
  obtain ⟨d, hu, hd⟩ := kindOf_is hk
  unfold mupA at hr
  split at hr
  · rename_i i g
    split at hr
    · rename_i ob hl
      split at hr
      · rename_i hcond
        obtain ⟨hfz, hik, hone⟩ := hcond
        split at hr
        · rename_i es' hup
          cases hr
          obtain ⟨ds, h1, h2, r', rfl, he, hk2⟩ := h.mp hx hl
          have hkone : ka.one = true := by
            cases ka with
            | v x => rfl
            | _ => simp [isKey] at hik
          unfold upA at hup
          split at hup
          · rename_i c ag rr es hrd
            obtain ⟨ents, clock, q1, rfl, q5, q3, q2, q6⟩ := r'.ents he hk2 hrd
            obtain ⟨ho1, ho2⟩ := r'.one hrd
            split at hup
            · rename_i vs hvs
              obtain ⟨v1, v2, v3⟩ := valC_ok hz hone hvs
              split at hup
              · rename_i hvl
                rw [hvl] at v1
                split at hup
                · rename_i es2 hov
                  cases hup
                  rcases ov_find hd hy v2 0 q2 hov with ⟨e, _⟩ | ⟨j, e, es3, e3, g1, g2, g3, g4⟩
                  · cases e
                  · cases e3
                    have hE := g4 (fun e => { e with key := y, val := z }) rfl rfl rfl
                    obtain ⟨O', a1, a2⟩ := h.setMap (ents' := ents.modify j fun e => { e with key := y, val := z }) (clock' := clock) h2 h1 he hfz q5 q6 (fun a ha => by
                        simp only [List.mem_cons] at ha
                        rcases ha with rfl | rfl | ha
                        · rfl
                        · rfl
                        · exact ho2 a ha) (by simpa using hE) (fun x hx => by
                        obtain ⟨n, hn⟩ := List.getElem?_of_mem hx
                        rw [Array.getElem?_toList, Array.getElem?_modify] at hn
                        split at hn
                        · obtain ⟨x0, hx0, rfl⟩ := Option.map_eq_some_iff.1 hn
                          exact v1
                        · exact q3 x (List.mem_of_getElem? (by rw [Array.getElem?_toList]; exact hn))) (ov_one hkone v3 hov ho1)
                    refine ⟨_, F, O', ?_, a1, Fz.le_refl F, a2⟩
                    have g2' : ents[j]? = some e := by simpa using g2
                    simp [Instr.mapUpdate, run_underlying ht, MapKept.run_getObj_map q1, run_check hu hd, run_find hu g1, MapKept.run_setObj_map _ q1, Instr.keyThatStays, g2', g3]
                · rename_i hov
                  cases hup
                  rcases ov_find hd hy v2 0 q2 hov with ⟨_, g1⟩ | ⟨j, e, es3, e3, _⟩
                  · have hent : EntsIs F O [⟨y, z, clock⟩] [.agg (ka :: (vs ++ [.v (.int .i64 (clock : Int))]))] := ⟨⟨_, rfl, hy, v2.app ⟨.p (.v _ rfl), trivial⟩⟩, trivial⟩
                    have hE : EntsIs F O (ents.push ⟨y, z, clock⟩).toList (es ++ [.agg (ka :: (vs ++ [.v (.int .i64 (clock : Int))]))]) := by
                      have := RowsR.app q2 hent
                      simpa [EntsIs] using this
                    obtain ⟨O', a1, a2⟩ := h.setMap (ents' := ents.push ⟨y, z, clock⟩) (clock' := clock + 1) (hcs := .v (.int .i64 ((clock : Int) + 1)) :: .v (.bool ag) :: rr) h2 h1 he hfz q5 (ag := ag) ⟨by
                        have : ((clock + 1 : Nat) : Int) = (clock : Int) + 1 := by omega
                        rw [this]; exact .p (.v _ rfl), q6.2⟩ (fun a ha => by
                        simp only [List.mem_cons] at ha
                        rcases ha with rfl | rfl | ha
                        · rfl
                        · rfl
                        · exact ho2 a ha) hE (fun x hx => by
                        simp at hx
                        rcases hx with hx | rfl
                        · exact q3 x (by simpa using hx)
                        · exact v1) (fun e he' a ha => by
                        rcases List.mem_append.1 he' with he' | he'
                        · exact ho1 e he' a ha
                        · simp only [List.mem_singleton] at he'
                          subst he'
                          simp only [AV.cells, List.mem_cons, List.mem_append, List.mem_singleton, List.not_mem_nil, or_false] at ha
                          rcases ha with rfl | ha | rfl
                          · exact hkone
                          · exact v3 a ha
                          · rfl)
                    refine ⟨_, F, O', ?_, a1, Fz.le_refl F, a2⟩
                    simp [Instr.mapUpdate, run_underlying ht, MapKept.run_getObj_map q1, run_check hu hd, run_find hu g1, MapKept.run_setObj_map _ q1]
                  · cases e3
                · cases hup
              · cases hup
            · cases hup
          · cases hup
        · cases hr
      · cases hr
    · cases hr
  · cases hr
theorem mdl_run (h : Own B w0 F0 F O H w) {x y : Value} {xa ka : AV} (hx : VR F O x xa) (hy : VR F O y ka) {t kt et kt' ty : TypeId} {kd : Kd} (ht : P.underlying t = some (.map kt et)) (hk : kindOf P kt = some kd) {H' : Hp} (hr : mdlA H kd xa ka = some H') :
    ∃ w' F' O', (Builtin.delete_ #[t, kt'] ty #[x, y]).run P w = .ok (.tuple #[]) w' ∧ Own B w0 F0 F' O' H' w' ∧ F.le F' ∧ O.le O' := by
  obtain ⟨d, hu, hd⟩ := kindOf_is hk
  unfold mdlA at hr
  split at hr
  · rename_i i g
    split at hr
    · rename_i ob hl
      split at hr
      · rename_i hfz
        split at hr
        · rename_i hdv es hes
          split at hr
          · rename_i es' hdl
            cases hr
            obtain ⟨ds, h1, h2, r', rfl, he, hk2⟩ := h.mp hx hl
            obtain ⟨ents, clock, ag, m, hd', es2, q1, q2, q3, q4, ⟨cs, q5, q6⟩, q7⟩ := r'.ents0 he hk2
            rw [hes] at q4
            cases q4
            subst q5
            have ho : ∀ e ∈ AV.agg cs :: es, ∀ a ∈ e.cells, AV.one a = true := by have := r'.h1; rw [hes] at this; exact this
            obtain ⟨a1, a2⟩ := dl_find hd hy 0 q7 hdl
            have fin : ∀ ents' : Array MapEntry, EntsIs F O ents'.toList es' → (∀ x ∈ ents'.toList, x ∈ ents.toList) → ∃ O', Own B w0 F0 F O' (H.set i { ob with es := .agg cs :: es' }) { w with heap := w.heap.setIfInBounds ds.b (.map ents' clock) } ∧ O.le O' := fun ents' hE hsub =>
              h.setMap h2 h1 he hfz q2 q6 (fun a ha => ho (.agg cs) (by simp) a ha) hE (fun x hx => q3 x (hsub x hx)) (fun e he' => ho e (by simp [a2 e he']))
            rcases a1 with ⟨rfl, g1⟩ | ⟨j, v, g1, g2⟩
            · obtain ⟨O', b1, b2⟩ := fin ents q7 (fun x h => h)
              refine ⟨_, F, O', ?_, b1, Fz.le_refl F, b2⟩
              simp [Builtin.delete_, run_underlying ht, MapKept.run_getObj_map q1, run_check hu hd, run_find hu g1, MapKept.run_setObj_map _ q1]
            · obtain ⟨O', b1, b2⟩ := fin (ents.eraseIdxIfInBounds j) (by simpa [Array.toList_eraseIdxIfInBounds] using g2) (fun x hx => by
                rw [Array.toList_eraseIdxIfInBounds] at hx
                exact List.mem_of_mem_eraseIdx hx)
              refine ⟨_, F, O', ?_, b1, Fz.le_refl F, b2⟩
              simp [Builtin.delete_, run_underlying ht, MapKept.run_getObj_map q1, run_check hu hd, run_find hu g1, MapKept.run_setObj_map _ q1]
          · cases hr
        · cases hr
      · cases hr
    · cases hr
  · cases hr
end
end Go.Proofs.YtgcnbbjapapnjaaDoor.Sim
