/- Maps: their entries, what is looked up, what is written. -/
import Derived.Test.YtbpchkfpfcnlhaaGreatDoorSimH
import Derived.MapKept
namespace Go.Proofs.YtbpchkfpfcnlhaaGreatDoor.Sim
open Go.RowKit
set_option linter.unusedVariables false
set_option linter.unusedSimpArgs false
/-- A map's entries say what the elements say. -/
def EntsIs (F : Fz) (O : Ow) : List MapEntry → List AV → Prop
  | [], [] => True
  | x :: l, e :: es => (∃ ka va, e = .agg [ka, va] ∧ VR F O x.key ka ∧ VR F O x.val va) ∧ EntsIs F O l es
  | _, _ => False
theorem EntsIs.len {F : Fz} {O : Ow} : ∀ {l : List MapEntry} {es : List AV}, EntsIs F O l es → l.length = es.length
  | [], [], _ => rfl
  | [], _ :: _, h => h.elim
  | _ :: _, [], h => h.elim
  | x :: l, e :: es, h => by simp [EntsIs.len h.2]
theorem agg_of2 {e : AV} (h : e.cells.length = 2) : ∃ a b, e = .agg [a, b] := by
  cases e with
  | agg cs =>
    match cs, h with
    | [a, b], _ => exact ⟨a, b, rfl⟩
  | _ => cases h
theorem EntsIs.mk {F : Fz} {O : Ow} : ∀ {l : List MapEntry} {es : List AV}, l.length = es.length → (∀ e ∈ es, e.cells.length = 2) →
    (∀ (n j : Nat) (e a : AV), es[n]? = some e → e.cells[j]? = some a → ∃ c, (l.flatMap fun x => [x.key, x.val])[n * 2 + j]? = some c ∧ VR F O c a) → EntsIs F O l es
  | [], [], _, _, _ => trivial
  | [], _ :: _, h, _, _ => by simp at h
  | _ :: _, [], h, _, _ => by simp at h
  | x :: l, e :: es, h, hk, hc => by
    obtain ⟨a, b, rfl⟩ := agg_of2 (hk e (by simp))
    refine ⟨⟨a, b, rfl, ?_, ?_⟩, EntsIs.mk (by simpa using h) (fun e' he => hk e' (by simp [he])) fun n j e' u he hu => ?_⟩
    · obtain ⟨c, h1, h2⟩ := hc 0 0 _ a rfl rfl
      simp at h1
      rw [h1]; exact h2
    · obtain ⟨c, h1, h2⟩ := hc 0 1 _ b rfl rfl
      simp at h1
      rw [h1]; exact h2
    · obtain ⟨c, h1, h2⟩ := hc (n + 1) j e' u (by simpa using he) hu
      refine ⟨c, ?_, h2⟩
      rw [← h1]
      simp only [List.flatMap_cons]
      rw [List.getElem?_append_right (by simp; omega)]
      congr 1
      simp
      omega
theorem EntsIs.cells {F : Fz} {O : Ow} : ∀ {l : List MapEntry} {es : List AV}, EntsIs F O l es → ∀ (n j : Nat) (e a : AV), es[n]? = some e → e.cells[j]? = some a → ∃ c, (l.flatMap fun x => [x.key, x.val])[n * 2 + j]? = some c ∧ VR F O c a
  | [], [], _, n, j, e, a, he, _ => by simp at he
  | [], _ :: _, h, _, _, _, _, _, _ => h.elim
  | _ :: _, [], h, _, _, _, _, _, _ => h.elim
  | x :: l, e0 :: es, h, n, j, e, a, he, ha => by
    obtain ⟨⟨ka, va, rfl, h1, h2⟩, h3⟩ := h
    cases n with
    | zero =>
      simp at he
      subst he
      simp only [List.flatMap_cons]
      match j, ha with
      | 0, ha => cases ha; exact ⟨_, rfl, h1⟩
      | 1, ha => cases ha; exact ⟨_, rfl, h2⟩
    | succ n =>
      obtain ⟨c, q1, q2⟩ := EntsIs.cells h3 n j e a (by simpa using he) ha
      refine ⟨c, ?_, q2⟩
      rw [← q1]
      simp only [List.flatMap_cons]
      rw [List.getElem?_append_right (by simp; omega)]
      congr 1
      simp
      omega
theorem EntsIs.mono {F F' : Fz} {O O' : Ow} (hF : F.le F') (hO : O.le O') : ∀ {l : List MapEntry} {es : List AV}, EntsIs F O l es → EntsIs F' O' l es
  | [], [], _ => trivial
  | [], _ :: _, h => h.elim
  | _ :: _, [], h => h.elim
  | x :: l, e0 :: es, h => by
    obtain ⟨⟨ka, va, rfl, h1, h2⟩, h3⟩ := h
    exact ⟨⟨ka, va, rfl, h1.mono hF hO, h2.mono hF hO⟩, EntsIs.mono hF hO h3⟩
def descIs (kd : Kd) (d : TypeDesc) : Prop :=
  match kd with
  | .i => ∃ k, d = .int k
  | .s => d = .string
  | .b => d = .bool
theorem kindOf_is {P : Program} {t : TypeId} {kd : Kd} (h : kindOf P t = some kd) : ∃ d, P.underlying t = some d ∧ descIs kd d := by
  unfold kindOf at h
  split at h
  · rename_i k hu; cases h; exact ⟨_, hu, ⟨k, rfl⟩⟩
  · rename_i hu; cases h; exact ⟨_, hu, rfl⟩
  · rename_i hu; cases h; exact ⟨_, hu, rfl⟩
  · cases h
theorem eqC_now {F : Fz} {O : Ow} {kd : Kd} {d : TypeDesc} (hd : descIs kd d) {a b : AV} {x y : Value} (hx : VR F O x a) (hy : VR F O y b) {r : Bool} (h : eqC kd a b = some r) : Instr.sameNow d x y = some r ∧ (r = true → Instr.sameBits 10000 y x = true) := by
  unfold eqC at h
  split at h
  · rename_i k m k' n
    have e1 := hx.pvC rfl
    have e2 := hy.pvC rfl
    cases e1; cases e2
    split at h
    · rename_i hk
      subst hk
      cases h
      obtain ⟨k0, rfl⟩ := hd
      refine ⟨by simp [Instr.sameNow, BEq.beq], fun hr => ?_⟩
      have := of_decide_eq_true hr
      subst this
      simp [Instr.sameBits]
    · cases h
  · rename_i s1 s2
    have e1 := hx.pvC rfl
    have e2 := hy.pvC rfl
    cases e1; cases e2
    cases h
    cases hd
    have hb : (s1 == s2) = decide (s1 = s2) := by
      by_cases e : s1 = s2
      · rw [decide_eq_true e]; exact (MapKept.bytes_beq _ _).2 e
      · rw [decide_eq_false e]
        cases hq : (s1 == s2) with
        | false => rfl
        | true => exact absurd ((MapKept.bytes_beq _ _).1 hq) e
    refine ⟨by simp only [Instr.sameNow, hb], fun hr => ?_⟩
    have := of_decide_eq_true hr
    subst this
    simp only [Instr.sameBits]
    exact (MapKept.bytes_beq _ _).2 rfl
  · rename_i b1 b2
    have e1 := hx.pvC rfl
    have e2 := hy.pvC rfl
    cases e1; cases e2
    cases h
    cases hd
    refine ⟨rfl, fun hr => ?_⟩
    have := beq_iff_eq.1 hr
    subst this
    simp [Instr.sameBits]
  · cases h
theorem lk_find {F : Fz} {O : Ow} {kd : Kd} {d : TypeDesc} (hd : descIs kd d) {key : AV} {x : Value} (hx : VR F O x key) : ∀ {l : List MapEntry} {es : List AV} {r : Option AV} (i : Nat), EntsIs F O l es → lkA kd key es = some r →
    (r = none ∧ Instr.findNow d x l i = some none) ∨ ∃ j e va, r = some va ∧ Instr.findNow d x l i = some (some (i + j, e.val)) ∧ l[j]? = some e ∧ VR F O e.val va
  | [], [], r, i, _, h => by cases h; exact .inl ⟨rfl, rfl⟩
  | [], _ :: _, _, _, h, _ => h.elim
  | _ :: _, [], _, _, h, _ => h.elim
  | y :: l, e0 :: es, r, i, h, hr => by
    obtain ⟨⟨ka, va, rfl, h1, h2⟩, h3⟩ := h
    simp only [lkA] at hr
    split at hr
    · rename_i b hb
      obtain ⟨q1, q2⟩ := eqC_now hd hx h1 hb
      cases b with
      | true =>
        simp only [if_true] at hr
        cases hr
        exact .inr ⟨0, y, va, rfl, by simp [Instr.findNow, q1], rfl, h2⟩
      | false =>
        simp only [Bool.false_eq_true, if_false] at hr
        rcases lk_find hd hx (i + 1) h3 hr with ⟨rfl, g1⟩ | ⟨j, e, va', rfl, g1, g2, g3⟩
        · exact .inl ⟨rfl, by simp [Instr.findNow, q1, g1]⟩
        · exact .inr ⟨j + 1, e, va', rfl, by simp [Instr.findNow, q1, g1]; omega, by simpa using g2, g3⟩
    · cases hr
theorem up_find {F : Fz} {O : Ow} {kd : Kd} {d : TypeDesc} (hd : descIs kd d) {key val : AV} {x z : Value} (hx : VR F O x key) (hz : VR F O z val) : ∀ {l : List MapEntry} {es es' : List AV} (i : Nat), EntsIs F O l es → upA kd key val es = some es' →
    (Instr.findNow d x l i = some none ∧ es' = es ++ [.agg [key, val]]) ∨ ∃ j e, Instr.findNow d x l i = some (some (i + j, e.val)) ∧ l[j]? = some e ∧ Instr.sameBits 10000 e.key x = true ∧ es'.length = es.length ∧ ∀ f : MapEntry → MapEntry, (f e).key = x → (f e).val = z → EntsIs F O (l.modify j f) es'
  | [], [], es', i, _, h => by cases h; exact .inl ⟨rfl, rfl⟩
  | [], _ :: _, _, _, h, _ => h.elim
  | _ :: _, [], _, _, h, _ => h.elim
  | y :: l, e0 :: es, es', i, h, hr => by
    obtain ⟨⟨ka, va, rfl, h1, h2⟩, h3⟩ := h
    simp only [upA] at hr
    split at hr
    · rename_i b hb
      obtain ⟨q1, q2⟩ := eqC_now hd hx h1 hb
      cases b with
      | true =>
        simp only [if_true] at hr
        cases hr
        refine .inr ⟨0, y, by simp [Instr.findNow, q1], rfl, q2 rfl, rfl, fun f f1 f2 => ?_⟩
        rw [List.modify_zero_cons]
        exact ⟨⟨key, val, rfl, by rw [f1]; exact hx, by rw [f2]; exact hz⟩, h3⟩
      | false =>
        simp only [Bool.false_eq_true, if_false] at hr
        split at hr
        · rename_i es2 hu
          cases hr
          rcases up_find hd hx hz (i + 1) h3 hu with ⟨g1, rfl⟩ | ⟨j, e, g1, g2, g3, g4, g5⟩
          · exact .inl ⟨by simp [Instr.findNow, q1, g1], rfl⟩
          · refine .inr ⟨j + 1, e, by simp [Instr.findNow, q1, g1]; omega, by simpa using g2, g3, by simp [g4], fun f f1 f2 => ?_⟩
            rw [List.modify_succ_cons]
            exact ⟨⟨ka, va, rfl, h1, h2⟩, g5 f f1 f2⟩
        · cases hr
    · cases hr
theorem EntsIs.app {F : Fz} {O : Ow} : ∀ {l l2 : List MapEntry} {es es2 : List AV}, EntsIs F O l es → EntsIs F O l2 es2 → EntsIs F O (l ++ l2) (es ++ es2)
  | [], _, [], _, _, h => h
  | [], _, _ :: _, _, h, _ => h.elim
  | _ :: _, _, [], _, h, _ => h.elim
  | _ :: _, _, _ :: _, _, h, k => ⟨h.1, EntsIs.app h.2 k⟩
section
variable {P : Program} {B : Bd} {w0 w : World} {F0 F : Fz} {O : Ow} {H : Hp}
theorem Own.mp (h : Own B w0 F0 F O H w) {x : Value} {i g : Nat} {ob : OB} (hx : VR F O x (.mp i g)) (hl : Sim.liveM H i g = some ob) :
    ∃ d, O[i]? = some d ∧ H[i]? = some ob ∧ Row B F O w d ob ∧ x = .map (some d.b) ∧ ob.e = mapE ∧ ob.k = 2 := by
  obtain ⟨hi, hg, he⟩ := liveM_ok hl
  obtain ⟨d, hd, r⟩ := h.get hi
  cases hx with
  | p h => cases h
  | mp _ _ _ d' hd' hg' h1 hh =>
    rw [hd] at hd'
    cases hd'
    exact ⟨d, hd, hi, r, hh (by rw [r.hg, hg]), he⟩
theorem Row.ents {d : Ds} {ob : OB} (r : Row B F O w d ob) (he : ob.e = mapE) (hk : ob.k = 2) : ∃ ents clock, w.heap[d.b]? = some (.map ents clock) ∧ EntsIs F O ents.toList ob.es := by
  obtain ⟨cur, h1, _, h3⟩ := r.cur
  rcases h1 with ⟨ne, _⟩ | ⟨_, ⟨_, ents, clock, q1, q2, q3⟩ | ⟨k1, _⟩⟩
  · exact absurd he ne
  rotate_left
  · omega
  · refine ⟨ents, clock, q1, EntsIs.mk (by simpa using q3) (fun e he => by rw [r.hn e he, hk]) fun n j e a hx ha => ?_⟩
    obtain ⟨c, g1, g2⟩ := h3 n j e a hx ha
    rw [hk, q2] at g1
    exact ⟨c, by simpa [flatE] using g1, g2⟩
theorem run_check {t : TypeId} {kd : Kd} {d : TypeDesc} (hu : P.underlying t = some d) (hd : descIs kd d) (v : Value) (b : Bool) (w : World) : (Instr.checkKey b 10000 t v).run P w = .ok () w := by
  unfold Instr.checkKey
  simp only [Sem.run_bind, run_underlying hu, Result.andThen]
  cases kd with
  | i => obtain ⟨k, rfl⟩ := hd; rfl
  | s => cases hd; rfl
  | b => cases hd; rfl
theorem run_find {t : TypeId} {d : TypeDesc} (hu : P.underlying t = some d) {v : Value} {l : List MapEntry} {r : Option (Nat × Value)} (h : Instr.findNow d v l 0 = some r) (w : World) : (Instr.findKey t v l).run P w = .ok r w := by
  simp [Instr.findKey, run_underlying hu, h]
theorem lkp_run (h : Own B w0 F0 F O H w) {x y z : Value} {xa ka za r : AV} (hx : VR F O x xa) (hy : VR F O y ka) (hz : VR F O z za) {t kt et : TypeId} {kd : Kd} {inf : TypeInfo} {c : Bool} (ht : P.underlying t = some (.map kt et)) (hk : kindOf P kt = some kd) (hi : P.info? et = some inf) (hzr : inf.zero = some z) (hr : lkpA H kd c za xa ka = some r) :
    ∃ u, (Instr.lookup t x y c).run P w = .ok u w ∧ VR F O u r := by
  obtain ⟨d, hu, hd⟩ := kindOf_is hk
  unfold lkpA at hr
  split at hr
  · rename_i i g
    split at hr
    · rename_i ob hl
      obtain ⟨ds, h1, h2, r', rfl, he, hk2⟩ := h.mp hx hl
      have tup : ∀ {u v : Value} {ua va : AV}, VR F O u ua → VR F O v va → VR F O (.tuple #[u, v]) (.tup [ua, va]) := fun {u v ua va} hu hv => by
        have := VR.tup (F := F) (O := O) [u, v] [ua, va] rfl fun i c a hc ha => by
          match i, hc, ha with
          | 0, hc, ha => cases hc; cases ha; exact hu
          | 1, hc, ha => cases hc; cases ha; exact hv
        exact this
      have hzer : (zeroValue et).run P w = .ok z w := run_zero hi hzr w
      obtain ⟨ents, clock, q1, q2⟩ := r'.ents he hk2
      split at hr
      · rename_i v hv
        rcases lk_find hd hy 0 q2 hv with ⟨e, _⟩ | ⟨j, e, va, e1, g1, g2, g3⟩
        · cases e
        · cases e1
          refine ⟨if c = true then .tuple #[e.val, .bool true] else e.val, ?_, ?_⟩
          · cases c <;> simp [Instr.lookup, run_underlying ht, MapKept.run_getObj_map q1, run_check hu hd, run_find hu g1]
          · cases c
            · cases hr; exact g3
            · cases hr; exact tup g3 (.p (.v _ rfl))
      · rename_i hv
        rcases lk_find hd hy 0 q2 hv with ⟨_, g1⟩ | ⟨j, e, va, e1, _⟩
        · refine ⟨if c = true then .tuple #[z, .bool false] else z, ?_, ?_⟩
          · cases c <;> simp [Instr.lookup, run_underlying ht, MapKept.run_getObj_map q1, run_check hu hd, run_find hu g1, hzer]
          · cases c
            · cases hr; exact hz
            · cases hr; exact tup hz (.p (.v _ rfl))
        · cases e1
      · cases hr
    · cases hr
  · cases hr
theorem lnm_run (h : Own B w0 F0 F O H w) {x : Value} {xa : AV} (hx : VR F O x xa) {t ty kt et : TypeId} (ht : P.underlying t = some (.map kt et)) {n : Nat} (hr : lnmA H xa = some n) : (Builtin.len_ #[t] ty #[x]).run P w = .ok (.int .i64 n) w := by
  unfold lnmA at hr
  split at hr
  · rename_i i g
    split at hr
    · rename_i ob hl
      cases hr
      obtain ⟨ds, h1, h2, r', rfl, he, hk2⟩ := h.mp hx hl
      obtain ⟨ents, clock, q1, q2⟩ := r'.ents he hk2
      have := q2.len
      simp at this
      simp [Builtin.len_, run_underlying ht, MapKept.run_getObj_map q1, goInt, this]
    · cases hr
  · cases hr
theorem mkm_run (h : Own B w0 F0 F O H w) : Out B w0 F0 F O (.mp H.length 0) (H ++ [⟨mapE, 2, [], 0, 0⟩]) (.map (some w.heap.size)) (w.alloc (.map #[] 0)) := by
  refine ⟨F, O ++ [⟨w.heap.size, 0, 0, 2⟩], ?_, h.pushG (w1 := w) (cs := #[]) (Below.refl _ w) rfl (.inr ⟨rfl, .inl ⟨rfl, #[], 0, rfl, rfl, rfl⟩⟩) (Nat.zero_le _) (fun e => absurd rfl e) (fun e => absurd rfl e) (fun y hy => by simp at hy) (fun y hy => by simp at hy) (fun n j y u hy => by simp at hy), Fz.le_refl F, Ow.le_push O _⟩
  exact .mp _ H.length 0 ⟨w.heap.size, 0, 0, 2⟩ (by rw [← h.len]; simp) (Nat.le_refl _) rfl fun _ => rfl
/-- An iterator is made. -/
theorem rgm_run (h : Own B w0 F0 F O H w) {x : Value} {xa r : AV} {H' : Hp} (hx : VR F O x xa) {t kt et : TypeId} (ht : P.underlying t = some (.map kt et)) (hr : rgmA H xa = some (r, H')) :
    ∃ u w', (Instr.range t x).run P w = .ok u w' ∧ Out B w0 F0 F O r H' u w' := by
  unfold rgmA at hr
  split at hr
  · rename_i i g
    split at hr
    · rename_i ob hl
      cases hr
      obtain ⟨ds, h1, h2, r', rfl, he, hk2⟩ := h.mp hx hl
      obtain ⟨ents, clock, q1, q2⟩ := r'.ents he hk2
      refine ⟨_, w.alloc (.mapIter (some ds.b) clock #[] clock), by simp [Instr.range, run_underlying ht, MapKept.run_getObj_map q1, newObj, Sem.run]; rfl, F, O ++ [⟨w.heap.size, 1, 0, 1⟩], ?_, h.pushG (w1 := w) (cs := #[.map (some ds.b)]) (Below.refl _ w) rfl (.inr ⟨rfl, .inr ⟨rfl, ds.b, clock, #[], clock, rfl, rfl⟩⟩) (by decide) (fun e => absurd rfl e) (fun e => absurd rfl e) (fun y hy => by simp at hy; subst hy; rfl) (fun y hy => by simp at hy; subst hy; intro a ha; simp [AV.cells] at ha; subst ha; rfl) (fun n j y u hy hu => ?_), Fz.le_refl F, Ow.le_push O _⟩
      · refine .oa _ H.length 0 0 0 ⟨w.heap.size, 1, 0, 1⟩ (by rw [← h.len]; simp) (Nat.le_refl _) rfl fun _ => rfl
      · cases n with
        | zero =>
          simp at hy
          subst hy
          cases j with
          | zero => simp [AV.cells] at hu; subst hu; exact ⟨_, rfl, hx⟩
          | succ j => simp [AV.cells] at hu
        | succ n => simp at hy
    · cases hr
  · cases hr
/-- An iterator over a map without entries comes to nothing. -/
theorem nxm_run (h : Own B w0 F0 F O H w) {x : Value} {xa r : AV} (hx : VR F O x xa) (ty : TypeId) (hr : nxmA H xa = some r) :
    ∃ u, (Instr.next x false ty).run P w = .ok u w ∧ VR F O u r := by
  unfold nxmA at hr
  split at hr
  · rename_i i g
    split at hr
    · rename_i ob hi
      split at hr
      · rename_i hc
        obtain ⟨hg, he, hk⟩ := hc
        split at hr
        · rename_i j g' hes
          split at hr
          · rename_i ob2 hl
            split at hr
            · rename_i hem
              cases hr
              obtain ⟨d, hd, r1⟩ := h.get hi
              obtain ⟨cur, o1, _, o3⟩ := r1.cur
              rcases o1 with ⟨ne, _⟩ | ⟨_, ⟨k2, _⟩ | ⟨_, m, since, seen, last, o1, oc⟩⟩
              · exact absurd he ne
              · omega
              obtain ⟨c, c1, c2⟩ := o3 0 0 (.mp j g') (.mp j g') (by rw [hes]; rfl) rfl
              have hcm : c = .map (some m) := by rw [oc] at c1; simpa using c1.symm
              subst hcm
              obtain ⟨ds, h1, h2, r', hm, he2, hk2⟩ := h.mp c2 hl
              injection hm with hm
              injection hm with hm
              subst hm
              obtain ⟨ents, clock, q1, q2⟩ := r'.ents he2 hk2
              have hen : ents = #[] := by
                have := q2.len
                rw [hem] at this
                exact Array.eq_empty_of_size_eq_zero (by simpa using this)
              subst hen
              have hxe : x = .pointer (some ⟨d.b, 0, none⟩) := by
                cases hx with
                | p h => cases h
                | oa _ _ _ _ _ d' hd' hg' h1' hh =>
                  rw [hd] at hd'
                  cases hd'
                  have := hh (by rw [r1.hg, hg])
                  simpa using this
              subst hxe
              refine ⟨.tuple #[.bool false], ?_, ?_⟩
              · have f1 : ∀ p : MapEntry → Bool, Array.filter p (#[] : Array MapEntry) = #[] := fun p => by simp
                simp only [Instr.next, getObj, Sem.run_bind, Sem.run, o1, q1, Result.andThen_ok, f1]
                simp [choose, Sem.run, Question.forced]
              · exact VR.tup [.bool false] [.v (.bool false)] rfl fun i c a hc ha => by
                  match i, hc, ha with
                  | 0, hc, ha => cases hc; cases ha; exact .p (.v _ rfl)
            · cases hr
          · cases hr
        · cases hr
      · cases hr
    · cases hr
  · cases hr
theorem mup_run (h : Own B w0 F0 F O H w) {x y z : Value} {xa ka va : AV} (hx : VR F O x xa) (hy : VR F O y ka) (hz : VR F O z va) {t kt et : TypeId} {kd : Kd} (ht : P.underlying t = some (.map kt et)) (hk : kindOf P kt = some kd) {H' : Hp} (hr : mupA H kd xa ka va = some H') :
    ∃ w' F' O', (Instr.mapUpdate t x y z).run P w = .ok () w' ∧ Own B w0 F0 F' O' H' w' ∧ F.le F' ∧ O.le O' := by
  obtain ⟨d, hu, hd⟩ := kindOf_is hk
  unfold mupA at hr
  split at hr
  · rename_i i g
    split at hr
    · rename_i ob hl
      split at hr
      · rename_i hcond
        obtain ⟨hfz, hik, hone⟩ := hcond
        split at hr
        · rename_i es' hup
          cases hr
          obtain ⟨ds, h1, h2, r', rfl, he, hk2⟩ := h.mp hx hl
          obtain ⟨ents, clock, q1, q2⟩ := r'.ents he hk2
          have hkone : ka.one = true := by
            cases ka with
            | v x => rfl
            | _ => simp [isKey] at hik
          have hent : EntsIs F O [⟨y, z, clock⟩] [.agg [ka, va]] := ⟨⟨ka, va, rfl, hy, hz⟩, trivial⟩
          have new1 : ∀ e ∈ es', e.cells.length = 2 ∧ ∀ a ∈ e.cells, AV.one a = true := by
            have gen : ∀ {es es' : List AV}, upA kd ka va es = some es' → (∀ e ∈ es, e.cells.length = 2 ∧ ∀ a ∈ e.cells, AV.one a = true) → ∀ e ∈ es', e.cells.length = 2 ∧ ∀ a ∈ e.cells, AV.one a = true := by
              intro es
              induction es with
              | nil =>
                intro es' hh _ e he'
                cases hh
                simp at he'
                subst he'
                exact ⟨rfl, fun a ha => by
                  simp [AV.cells] at ha
                  rcases ha with rfl | rfl
                  · exact hkone
                  · exact hone⟩
              | cons e0 es ih =>
                intro es' hh ho e he'
                unfold upA at hh
                split at hh
                · cases ‹e0 :: es = []›
                · rename_i k v es1 heq
                  cases heq
                  split at hh
                  · rename_i b hb
                    split at hh
                    · cases hh
                      rcases List.mem_cons.1 he' with rfl | he'
                      · exact ⟨rfl, fun a ha => by
                          simp [AV.cells] at ha
                          rcases ha with rfl | rfl
                          · exact hkone
                          · exact hone⟩
                      · exact ho e (by simp [he'])
                    · split at hh
                      · rename_i es2 hh2
                        cases hh
                        rcases List.mem_cons.1 he' with rfl | he'
                        · exact ho _ (by simp)
                        · exact ih hh2 (fun e1 h1 => ho e1 (by simp [h1])) e he'
                      · cases hh
                  · cases hh
                · cases hh
            exact gen hup fun e he' => ⟨by rw [r'.hn e he', hk2], r'.h1 e he'⟩
          have fin : ∀ (ents' : Array MapEntry) (clock' : Nat), EntsIs F O ents'.toList es' → ∃ O', Own B w0 F0 F O' (H.set i { ob with es := es' }) { w with heap := w.heap.setIfInBounds ds.b (.map ents' clock') } ∧ O.le O' := fun ents' clock' hE => by
            have hlt := r'.lt
            have hob : H.set i { ob with es := es' } = H.set i ⟨ob.e, ob.k, es', ob.g, ob.fz⟩ := rfl
            rw [hob]
            obtain ⟨a1, a2⟩ := h.writeG (w' := { w with heap := w.heap.setIfInBounds ds.b (.map ents' clock') }) (new := flatE ents') (g' := ob.g) (es' := es') h2 h1
              (fun b hb => by simp only; rw [Array.getElem?_setIfInBounds_ne (fun e => hb e.symm)])
              (h.below.trans ⟨rfl, rfl, rfl, by simp, fun k hk => by simp only; rw [Array.getElem?_setIfInBounds_ne (fun e => by have := r'.hB.1; omega)]⟩)
              (by simpa using h.size)
              (.inr ⟨he, .inl ⟨hk2, ents', clock', by simp only; rw [Array.getElem?_setIfInBounds_self_of_lt hlt], rfl, by simpa using hE.len⟩⟩)
              (Nat.le_refl _) (fun ne => absurd he ne) (fun ne => absurd he ne) (fun e he' => by rw [(new1 e he').1, hk2]) (fun e he' => (new1 e he').2) (by omega)
              (fun n j e a hx ha => by
                obtain ⟨c, g1, g2⟩ := hE.cells n j e a hx ha
                exact ⟨c, by rw [hk2]; simpa [flatE] using g1, g2⟩)
              (fun o v hv => by
                have := r'.hf o v hv
                rw [hfz] at this
                omega)
            exact ⟨_, a1, a2⟩
          rcases up_find hd hy hz 0 q2 hup with ⟨g1, rfl⟩ | ⟨j, e, g1, g2, g3, g4, g5⟩
          · obtain ⟨O', a1, a2⟩ := fin (ents.push ⟨y, z, clock⟩) (clock + 1) (by simpa using EntsIs.app q2 hent)
            refine ⟨_, F, O', ?_, a1, Fz.le_refl F, a2⟩
            simp [Instr.mapUpdate, run_underlying ht, MapKept.run_getObj_map q1, run_check hu hd, run_find hu g1, MapKept.run_setObj_map _ q1]
          · obtain ⟨O', a1, a2⟩ := fin (ents.modify j fun e => { e with key := y, val := z }) clock (by
              have := g5 (fun e => { e with key := y, val := z }) rfl rfl
              simpa using this)
            refine ⟨_, F, O', ?_, a1, Fz.le_refl F, a2⟩
            have g2' : ents[j]? = some e := by simpa using g2
            simp [Instr.mapUpdate, run_underlying ht, MapKept.run_getObj_map q1, run_check hu hd, run_find hu g1, MapKept.run_setObj_map _ q1, Instr.keyThatStays, g2', g3]
        · cases hr
      · cases hr
    · cases hr
  · cases hr
end
end Go.Proofs.YtbpchkfpfcnlhaaGreatDoor.Sim
