/- Regions in the order of the text, or in any order. -/
import Derived.Test.YtgcnbbjapapnjaaDoorSimJ
namespace Go.Proofs.YtgcnbbjapapnjaaDoor.Sim
open Go.RowKit
set_option linter.unusedVariables false
set_option linter.unusedSimpArgs false
section
variable {P : Program} {G : Nat → AV} {hs : List FuncId} {B : Bd} {w0 : World} {F0 F1 : Fz} {O1 : Ow}
theorem AWi_ok {ops : Array Oper} {i : Nat} {o : Oper} {ai : AI} (hi : ops[i]? = some o) (hc : copI P hs ops o = some ai) {st : St} {a : Act} {w : World} {F : Fz} {O : Ow} (h : Rl G B w0 F0 F1 O1 F O st a w) {k : St → Prop} (hk : AWi P G ai st k)
    {K : Act → World → Prop} {Q : Exit → Act → World → Prop} (hK : ∀ st' a' w' F' O', k st' → Rl G B w0 F0 F1 O1 F' O' st' a' w' → K a' w') : wpOp P ops Q i K a w := by
  unfold wpOp
  simp only [hi]
  simp only [copI] at hc
  split at hc
  · rename_i hg
    cases hc
    have hw : Region.wanted o (yielded ops a.tmps) = true := by unfold Region.wanted; rw [hg]
    simp only [hw, if_true]
    simp only [AWi] at hk
    exact .inl (AWop_okG (hs := hs) h hk fun r H' x w' hkr hout => by
      obtain ⟨F', O', h'⟩ := h.put (d := o.dst) hout
      exact hK _ _ _ F' O' hkr h')
  · rename_i j want hg
    split at hc
    · rename_i t ht
      cases hc
      simp only [AWi] at hk
      split at hk
      · rename_i b hb
        have hy : yielded ops a.tmps j = some b := by
          unfold yielded
          rw [ht]
          simp only [Option.bind_some, h.guard hb]
        by_cases hbw : b = want
        · rw [if_pos hbw] at hk
          have hw : Region.wanted o (yielded ops a.tmps) = true := by unfold Region.wanted; rw [hg]; simp [hy, hbw]
          simp only [hw, if_true]
          exact .inl (AWop_okG (hs := hs) h hk fun r H' x w' hkr hout => by
            obtain ⟨F', O', h'⟩ := h.put (d := o.dst) hout
            exact hK _ _ _ F' O' hkr h')
        · rw [if_neg hbw] at hk
          have hw : Region.wanted o (yielded ops a.tmps) = false := by unfold Region.wanted; rw [hg]; simp [hy, hbw]
          simp only [hw, Bool.false_eq_true, if_false]
          obtain ⟨F', O', h'⟩ := h.put (d := o.dst) (r := undefA) (x := undef) (Out.same h.own undef_ok)
          exact hK _ _ _ F' O' hk h'
      · rename_i hb
        have hu := h.guardU hb
        have hy : yielded ops a.tmps j = none := by
          unfold yielded
          rw [ht]
          simp only [Option.bind_some]
          rw [Array.getD_eq_getD_getElem?] at hu
          cases hq : a.tmps[t]? with
          | none => rfl
          | some q => rw [hq] at hu; simp only [Option.getD_some] at hu; subst hu; rfl
        have hw : Region.wanted o (yielded ops a.tmps) = false := by unfold Region.wanted; rw [hg]; simp [hy]
        simp only [hw, Bool.false_eq_true, if_false]
        obtain ⟨F', O', h'⟩ := h.put (d := o.dst) (r := undefA) (x := undef) (Out.same h.own undef_ok)
        exact hK _ _ _ F' O' hk h'
      · exact hk.elim
    · cases hc
/-- Operations one behind the other. -/
theorem AWs_ok {ops : Array Oper} {Q : Exit → Act → World → Prop} {k : St → Prop} (hK : ∀ st' a' w' F' O', k st' → Rl G B w0 F0 F1 O1 F' O' st' a' w' → Q .normal a' w') :
    ∀ (l : List Nat) (as : List AI), l.length = as.length → (∀ (j i : Nat) (ai : AI), l[j]? = some i → as[j]? = some ai → ∃ o, ops[i]? = some o ∧ copI P hs ops o = some ai) →
    ∀ (st : St) (a : Act) (w : World) (F : Fz) (O : Ow), AWs P G as k st → Rl G B w0 F0 F1 O1 F O st a w → wpOps P ops Q l a w
  | [], [], _, _, st, a, w, F, O, hk, h => hK st a w F O hk h
  | [], _ :: _, hl, _, _, _, _, _, _, _, _ => by simp at hl
  | _ :: _, [], hl, _, _, _, _, _, _, _, _ => by simp at hl
  | i :: l, ai :: as, hl, hop, st, a, w, F, O, hk, h => by
    rw [wpOps_cons]
    obtain ⟨o, ho, hc⟩ := hop 0 i ai rfl rfl
    simp only [AWs] at hk
    exact AWi_ok ho hc h hk fun st' a' w' F' O' hk' h' => AWs_ok hK l as (by simpa using hl) (fun j i ai hj ha => hop (j + 1) i ai hj ha) st' a' w' F' O' hk' h'
theorem copIs_at : ∀ {os : List Oper} {ops : Array Oper} {as : List AI}, copIs P hs ops os = some as → os.length = as.length ∧ ∀ (j : Nat) (o : Oper) (ai : AI), os[j]? = some o → as[j]? = some ai → copI P hs ops o = some ai
  | [], ops, as, h => by cases h; exact ⟨rfl, fun j o ai hj => by simp at hj⟩
  | o :: os, ops, as, h => by
    simp only [copIs] at h
    split at h
    · rename_i a as' h1 h2
      cases h
      obtain ⟨q1, q2⟩ := copIs_at h2
      refine ⟨by simp [q1], fun j o' ai hj ha => ?_⟩
      cases j with
      | zero => simp at hj ha; subst hj; subst ha; exact h1
      | succ j => exact q2 j o' ai (by simpa using hj) (by simpa using ha)
    · cases h
/-- A region in the order of the text. -/
theorem region_text {ops : Array Oper} {id : Nat} {as : List AI} (hc : copIs P hs ops ops.toList = some as) {Q : Exit → Act → World → Prop} {k : St → Prop} (hK : ∀ st' a' w' F' O', k st' → Rl G B w0 F0 F1 O1 F' O' st' a' w' → Q .normal a' w')
    {st : St} {a : Act} {w : World} {F : Fz} {O : Ow} (hk : AWs P G as k st) (h : Rl G B w0 F0 F1 O1 F O st a w) : (Code.region id ops false).wp P Q a w := by
  obtain ⟨q1, q2⟩ := copIs_at hc
  refine wp_region (AWs_ok (hs := hs) hK (List.range ops.size) as (by simpa using q1) (fun j i ai hj ha => ?_) st a w F O hk h)
  have hjl : j < ops.size := by have := (List.getElem?_eq_some_iff.1 hj).1; simpa using this
  rw [List.getElem?_range hjl] at hj
  cases hj
  exact ⟨ops[j], Array.getElem?_eq_getElem hjl, q2 j _ ai (by simp [hjl]) ha⟩
/-- Operations of which the first may be an iterator's step. -/
def AWx (P : Program) (G : Nat → AV) : List AI → (St → Prop) → St → Prop
  | ⟨d, .nxm x, none⟩ :: os, k, st => ∃ l, nxmA st.H (AX.ev G st.s x) = some l ∧ ∀ p ∈ l, AWs P G os k (st.put d p.1 p.2)
  | os, k, st => AWs P G os k st
/-- A region in the order of the text that may begin with an iterator's step. -/
theorem region_textx {ops : Array Oper} {id : Nat} {as : List AI} (hc : copIs P hs ops ops.toList = some as) {Q : Exit → Act → World → Prop} {k : St → Prop} (hK : ∀ st' a' w' F' O', k st' → Rl G B w0 F0 F1 O1 F' O' st' a' w' → Q .normal a' w')
    {st : St} {a : Act} {w : World} {F : Fz} {O : Ow} (hk : AWx P G as k st) (h : Rl G B w0 F0 F1 O1 F O st a w) : (Code.region id ops false).wp P Q a w := by
  unfold AWx at hk
  split at hk
  · rename_i _ _ d x os
    obtain ⟨l, hl, hp⟩ := hk
    obtain ⟨q1, q2⟩ := copIs_at hc
    have hn : ops.size = os.length + 1 := by simpa using q1
    refine wp_region ?_
    rw [hn, List.range_succ_eq_map, wpOps_cons]
    have hi : ops[0]? = some (ops[0]'(by omega)) := Array.getElem?_eq_getElem (by omega)
    have hc0 := q2 0 (ops[0]'(by omega)) ⟨d, .nxm x, none⟩ (by rw [Array.getElem?_toList]; exact hi) rfl
    generalize ops[0]'(by omega) = o at hi hc0
    unfold wpOp
    simp only [hi]
    simp only [copI] at hc0
    split at hc0
    · rename_i hg
      injection hc0 with hc0
      injection hc0 with e1 e2 e3
      have hw : Region.wanted o (yielded ops a.tmps) = true := by unfold Region.wanted; rw [hg]
      simp only [hw, if_true]
      refine .inl (AWop_nx (hs := hs) e2 h hl fun p hpm v w' hout => ?_)
      obtain ⟨F', O', h'⟩ := h.put (d := o.dst) hout
      rw [e1] at h'
      refine AWs_ok (hs := hs) hK _ os (by simp) (fun j i ai hj ha => ?_) _ _ _ F' O' (hp p hpm) (by rw [e1]; exact h')
      have hjl : j < os.length := (List.getElem?_eq_some_iff.1 ha).1
      rw [List.getElem?_map, List.getElem?_range hjl] at hj
      cases hj
      exact ⟨ops[j + 1]'(by omega), Array.getElem?_eq_getElem (by omega), q2 (j + 1) _ ai (by rw [Array.getElem?_toList]; exact Array.getElem?_eq_getElem (by omega)) (by simpa using ha)⟩
    · split at hc0
      · injection hc0 with hc0
        injection hc0 with e1 e2 e3
        cases e3
      · cases hc0
  · exact region_text hc hK hk h
theorem Rl.drew {st : St} {a : Act} {w : World} {F : Fz} {O : Ow} (h : Rl G B w0 F0 F1 O1 F O st a w) : Rl G B w0 F0 F1 O1 F O st a { w with drawn := w.drawn + 1 } :=
  ⟨h.own.keep (Below.refl _ w).drew, h.size, h.slot, h.defs, h.gok, h.leF, h.leO⟩
/-- A region whose order is drawn, where every order does the same on plain values. -/
theorem region_draw {ops : Array Oper} {id : Nat} {as : List AI} (hc : copIs P hs ops ops.toList = some as) {Q : Exit → Act → World → Prop} {k : St → Prop} (hK : ∀ st' a' w' F' O', k st' → Rl G B w0 F0 F1 O1 F' O' st' a' w' → Q .normal a' w')
    {st : St} {a : Act} {w : World} {F : Fz} {O : Ow} (hk : ∀ t, ∃ bs : List AI, bs.length = (Region.schedule (P.follows .mixedOrders) ops t).length ∧ (∀ (j i : Nat) (ai : AI), (Region.schedule (P.follows .mixedOrders) ops t)[j]? = some i → bs[j]? = some ai → as[i]? = some ai) ∧ AWs P G bs k st)
    (h : Rl G B w0 F0 F1 O1 F O st a w) : (Code.region id ops true).wp P Q a w := by
  obtain ⟨q1, q2⟩ := copIs_at hc
  refine wp_region_draw fun t => ?_
  obtain ⟨bs, b1, b2, b3⟩ := hk t
  refine AWs_ok (hs := hs) hK _ bs b1.symm (fun j i ai hj ha => ?_) st a _ F O b3 h.drew
  have hai := b2 j i ai hj ha
  have hil : i < ops.size := by have := (List.getElem?_eq_some_iff.1 hai).1; rw [← q1] at this; simpa using this
  exact ⟨ops[i], Array.getElem?_eq_getElem hil, q2 i _ ai (by simp [hil]) hai⟩
end
end Go.Proofs.YtgcnbbjapapnjaaDoor.Sim
