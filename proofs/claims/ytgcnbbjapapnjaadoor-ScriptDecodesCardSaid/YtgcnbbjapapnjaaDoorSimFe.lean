/- Comparisons of structs whose cells are numbers, texts and truth values. -/
import Derived.Test.YtgcnbbjapapnjaaDoorSimF
import Derived.Laws.StructEq
namespace Go.Proofs.YtgcnbbjapapnjaaDoor.Sim
open Go.RowKit
set_option linter.unusedVariables false
set_option linter.unusedSimpArgs false
theorem eqCs_split : ∀ {k1 k2 : List Kd} {as bs : List AV} {r : Bool}, eqCs (k1 ++ k2) as bs = some r → ∃ r1 r2, eqCs k1 (as.take k1.length) (bs.take k1.length) = some r1 ∧ eqCs k2 (as.drop k1.length) (bs.drop k1.length) = some r2 ∧ r = (r1 && r2) ∧ k1.length ≤ as.length ∧ k1.length ≤ bs.length
  | [], k2, as, bs, r, h => ⟨true, r, rfl, by simpa using h, by simp, Nat.zero_le _, Nat.zero_le _⟩
  | k :: k1, k2, [], bs, r, h => by simp [eqCs] at h
  | k :: k1, k2, a :: as, [], r, h => by simp [eqCs] at h
  | k :: k1, k2, a :: as, b :: bs, r, h => by
    simp only [List.cons_append, eqCs] at h
    split at h
    · rename_i x y hx hy
      cases h
      obtain ⟨r1, r2, e1, e2, rfl, l1, l2⟩ := eqCs_split hy
      refine ⟨x && r1, r2, ?_, by simpa using e2, by rw [Bool.and_assoc], by simpa using l1, by simpa using l2⟩
      simp only [List.length_cons, List.take_succ_cons, eqCs, hx, e1]
    · cases h
theorem eqCs_len : ∀ {ks : List Kd} {as bs : List AV} {r : Bool}, eqCs ks as bs = some r → as.length = ks.length ∧ bs.length = ks.length
  | [], [], [], r, h => ⟨rfl, rfl⟩
  | [], _ :: _, _, r, h => by simp [eqCs] at h
  | [], [], _ :: _, r, h => by simp [eqCs] at h
  | k :: k1, [], bs, r, h => by simp [eqCs] at h
  | k :: k1, a :: as, [], r, h => by simp [eqCs] at h
  | k :: ks, a :: as, b :: bs, r, h => by
    simp only [eqCs] at h
    split at h
    · rename_i x y hx hy
      obtain ⟨l1, l2⟩ := eqCs_len hy
      exact ⟨by simp [l1], by simp [l2]⟩
    · cases h
section
variable {P : Program} {F : Fz} {O : Ow} {w : World}
theorem vr_v {x y : Value} (h : VR F O x (.v y)) : x = y := conc_ok h rfl
theorem kind_agg {t : TypeId} {k : Kd} {d : TypeDesc} (h : kindOf P t = some k) (hd : P.underlying t = some d) : isAggD d = false := by
  unfold kindOf at h
  rw [hd] at h
  cases d <;> first | rfl | cases h
theorem dec_bytes (a b : ByteArray) : (a.toList == b.toList) = decide (a = b) := by
  rw [ByteArray.toList_eq, ByteArray.toList_eq]
  obtain ⟨⟨x⟩⟩ := a
  obtain ⟨⟨y⟩⟩ := b
  by_cases h : x = y <;> simp [h]
theorem eqC_ok {t : TypeId} {k : Kd} (hk : kindOf P t = some k) {x y : Value} {a b : AV} {r : Bool} (hx : VR F O x a) (hy : VR F O y b) (hr : eqC k a b = some r) (n : Nat) : (Op.equalIn (n + 1) t x y).run P w = .ok r w := by
  unfold eqC at hr
  split at hr
  · rename_i k1 a k2 b
    split at hr
    · rename_i hkk
      subst hkk
      cases hr
      cases vr_v hx
      cases vr_v hy
      unfold kindOf at hk
      split at hk <;> try (cases hk; done)
      · rename_i hu
        rw [run_equalIn_int w n t k1 _ a b hu]
        rfl
    · cases hr
  · cases hr
    rename_i a b
    cases vr_v hx
    cases vr_v hy
    unfold kindOf at hk
    split at hk <;> try (cases hk; done)
    · rename_i hu
      rw [run_equalIn_string w n t a b hu, dec_bytes]
  · cases hr
    rename_i a b
    cases vr_v hx
    cases vr_v hy
    unfold kindOf at hk
    split at hk <;> try (cases hk; done)
    · rename_i hu
      rw [run_equalIn_bool' w n t a b hu]
      done
  · cases hr
theorem eqIn_ok : ∀ (d : Nat) (t : TypeId) (ks : List Kd), flatK P d t = some ks → ∀ (n : Nat) (x y : Value) (a b : AV) (r : Bool), d ≤ n → VR F O x a → VR F O y b →
    ((∃ dd, P.underlying t = some dd ∧ isAggD dd = true ∧ (∃ as, a = .agg as) ∧ (∃ bs, b = .agg bs)) ∨ (∃ dd, P.underlying t = some dd ∧ isAggD dd = false ∧ a.one = true ∧ b.one = true)) → eqCs ks a.cells b.cells = some r → (Op.equalIn n t x y).run P w = .ok r w
  | 0, t, ks, h, _, _, _, _, _, _, _, _, _, _, _ => by cases h
  | d + 1, t, ks, h, 0, _, _, _, _, _, hn, _, _, _, _ => by omega
  | d + 1, t, ks, h, n + 1, x, y, a, b, r, hn, hx, hy, hab, hr => by
    simp only [flatK] at h
    split at h
    · rename_i k hk
      cases h
      rcases hab with ⟨dd, h1, h2, _⟩ | ⟨dd, h1, h2, h3, h4⟩
      · rw [kind_agg hk h1] at h2; cases h2
      · have e1 : a.cells = [a] := by cases a <;> first | rfl | cases h3
        have e2 : b.cells = [b] := by cases b <;> first | rfl | cases h4
        rw [e1, e2] at hr
        simp only [eqCs] at hr
        split at hr
        · rename_i x1 y1 hc hq
          cases hq
          cases hr
          rw [Bool.and_true]
          exact eqC_ok hk hx hy hc n
        · cases hr
    · split at h
      · rename_i fs hfs
        split at h
        · rename_i hst
          rcases hab with ⟨dd, h1, h2, ⟨as, rfl⟩, ⟨bs, rfl⟩⟩ | ⟨dd, h1, h2, _⟩
          · obtain ⟨xs, rfl⟩ : ∃ xs, x = .agg xs := by
              cases hx with
              | p h => cases h with
                | agg cs as hl h1 h => exact ⟨_, rfl⟩
              | agg cs as hl h1 h => exact ⟨_, rfl⟩
            obtain ⟨ys, rfl⟩ : ∃ ys, y = .agg ys := by
              cases hy with
              | p h => cases h with
                | agg cs as hl h1 h => exact ⟨_, rfl⟩
              | agg cs as hl h1 h => exact ⟨_, rfl⟩
            have hfo : P.fieldsOf t = fs := by unfold Program.fieldsOf; rw [hfs]
            rw [run_equalIn_struct w n t xs ys (by rw [hfo]; exact hfs) hst, hfo]
            have key : ∀ (fl : List Field) (off : Nat) (ks : List Kd) (r : Bool), flatFs P (flatK P d) off fl = some ks → eqCs ks (as.drop off) (bs.drop off) = some r → (Op.eqFields n xs ys fl).run P w = .ok r w := by
              intro fl
              induction fl with
              | nil =>
                intro off ks r hk hr
                cases hk
                unfold eqCs at hr
                split at hr
                · cases hr; rfl
                · rename_i e _ _; cases e
                · cases hr
              | cons f fl ih =>
                intro off ks r hk hr
                simp only [flatFs] at hk
                split at hk
                · rename_i hc
                  obtain ⟨hnm, hoff⟩ := hc
                  split at hk
                  · rename_i ks1 inf df hg hi hdf
                    split at hk
                    · rename_i hsz
                      split at hk
                      · rename_i ks2 hk2
                        cases hk
                        obtain ⟨r1, r2, e1, e2, rfl, l1, l2⟩ := eqCs_split hr
                        have pt : ∀ (zs : Array Value) (cs : List AV), VR F O (.agg zs) (.agg cs) → ks1.length ≤ (cs.drop off).length → ∃ p pa, (part f.type zs f.offset).run P w = .ok p w ∧ VR F O p pa ∧ pa.cells = (cs.drop off).take ks1.length ∧ ((isAggD df = true ∧ ∃ q, pa = .agg q) ∨ (isAggD df = false ∧ pa.one = true)) := by
                          intro zs cs hz hlen
                          have hone : ∀ a ∈ cs, AV.one a = true := by
                            cases hz with
                            | p h => cases h with
                              | agg _ _ hl h1 h => exact h1
                            | agg _ _ hl h1 h => exact h1
                          rw [List.length_drop] at hlen
                          cases hag : isAggD df with
                          | true =>
                            have hpa : partA (isAggD df) off inf.size (.agg cs) = some (.agg ((cs.drop off).take inf.size)) := by
                              simp only [partA, hag, if_true]
                              rw [if_pos (by have := hsz.1; have := hsz.2; omega)]
                            obtain ⟨c0, e0, p, q1, q2⟩ := part_ok (P := P) (w := w) hi hdf hz hpa
                            cases e0
                            rw [hoff]
                            exact ⟨p, _, q1, q2, by rw [hsz.1]; rfl, .inl ⟨rfl, _, rfl⟩⟩
                          | false =>
                            have hl1 : ks1.length = 1 := by
                              rw [← hsz.1]
                              have := hsz.1
                              cases d with
                              | zero => cases hg
                              | succ d =>
                                simp only [flatK] at hg
                                split at hg
                                · cases hg; exact this
                                · split at hg
                                  · rename_i fs2 hfs2
                                    rw [hdf] at hfs2; cases hfs2; cases hag
                                  · cases hg
                            have hlt : off < cs.length := by omega
                            have hpa : partA (isAggD df) off inf.size (.agg cs) = some cs[off] := by
                              simp only [partA, hag, Bool.false_eq_true, if_false]
                              exact List.getElem?_eq_getElem hlt
                            obtain ⟨c0, e0, p, q1, q2⟩ := part_ok (P := P) (w := w) hi hdf hz hpa
                            cases e0
                            rw [hoff]
                            have h1 : cs[off].one = true := hone _ (List.getElem_mem hlt)
                            refine ⟨p, _, q1, q2, ?_, .inr ⟨rfl, h1⟩⟩
                            rw [hl1, List.drop_eq_getElem_cons hlt]
                            simp only [List.take_succ_cons, List.take_zero]
                            cases hq : cs[off] <;> first | rfl | (rw [hq] at h1; cases h1)
                        obtain ⟨p1, pa1, g1, v1, c1, s1⟩ := pt xs as hx l1
                        obtain ⟨p2, pa2, g2, v2, c2, s2⟩ := pt ys bs hy l2
                        have hcmp := eqIn_ok d f.type ks1 hg n p1 p2 pa1 pa2 r1 (by omega) v1 v2 (by
                          rcases s1 with ⟨t1, q1⟩ | ⟨t1, q1⟩
                          · rcases s2 with ⟨t2, q2⟩ | ⟨t2, q2⟩
                            · exact .inl ⟨df, hdf, t1, q1, q2⟩
                            · rw [t1] at t2; cases t2
                          · rcases s2 with ⟨t2, q2⟩ | ⟨t2, q2⟩
                            · rw [t1] at t2; cases t2
                            · exact .inr ⟨df, hdf, t1, q1, q2⟩) (by rw [c1, c2]; exact e1)
                        have hrest := ih (off + ks1.length) ks2 r2 hk2 (by simpa [List.drop_drop] using e2)
                        simp only [Op.eqFields, hnm, ne_eq, not_false_eq_true, if_true, Sem.run_bind, g1, Result.andThen_ok, g2, hcmp]
                        cases r1
                        · simp
                        · simpa using hrest
                      · cases hk
                    · cases hk
                  · cases hk
                · cases hk
            exact key fs.toList 0 ks r h hr
          · rw [hfs] at h1; cases h1; cases h2
        · cases h
      · cases h
theorem eqs_ok {op : BinOp} {ng : Bool} {t : TypeId} {ks : List Kd} {xo yo : Operand} (ho : eqNeg op = some ng) (hk : eqOf P t = some ks) {x y : Value} {a b r : AV} (hx : VR F O x a) (hy : VR F O y b) (he : eqsA ng ks a b = some r) :
    ∃ z, (do eqGuard op t xo yo x y; binOp op t x y : Sem Value).run P w = .ok z w ∧ VR F O z r := by
  unfold eqsA at he
  split at he
  · rename_i as bs
    split at he
    · rename_i r0 hr
      cases he
      unfold eqOf at hk
      split at hk
      · rename_i fs hfs
        split at hk
        · rename_i hg
          obtain ⟨xs, rfl⟩ : ∃ xs, x = .agg xs := by
            cases hx with
            | p h => cases h with
              | agg cs as hl h1 h => exact ⟨_, rfl⟩
            | agg cs as hl h1 h => exact ⟨_, rfl⟩
          obtain ⟨ys, rfl⟩ : ∃ ys, y = .agg ys := by
            cases hy with
            | p h => cases h with
              | agg cs as hl h1 h => exact ⟨_, rfl⟩
            | agg cs as hl h1 h => exact ⟨_, rfl⟩
          have hq := eqIn_ok (P := P) (F := F) (O := O) (w := w) 8 t ks hk 10000 (.agg xs) (.agg ys) (.agg as) (.agg bs) r0 (by omega) hx hy (.inl ⟨_, hfs, rfl, ⟨_, rfl⟩, ⟨_, rfl⟩⟩) hr
          cases op <;> cases ho
          · refine ⟨.bool r0, ?_, .p (.v _ rfl)⟩
            rw [Sem.run_bind, run_eqGuard_agg w _ t xo yo xs ys hg, Result.andThen_ok, run_eql_struct w t xs ys, hq]
            rfl
          · refine ⟨.bool (!r0), ?_, .p (.v _ rfl)⟩
            rw [Sem.run_bind, run_eqGuard_agg w _ t xo yo xs ys hg, Result.andThen_ok, run_neq_struct w t xs ys, hq]
            rfl
        · cases hk
      · cases hk
    · cases he
  · cases he
end
end Go.Proofs.YtgcnbbjapapnjaaDoor.Sim
