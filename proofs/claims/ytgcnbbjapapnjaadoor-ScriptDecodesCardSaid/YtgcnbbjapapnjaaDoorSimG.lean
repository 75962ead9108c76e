/- Every operation that is served does what it does on plain values. -/
import Derived.Test.YtgcnbbjapapnjaaDoorSimFe
namespace Go.Proofs.YtgcnbbjapapnjaaDoor.Sim
open Go.RowKit
set_option linter.unusedVariables false
set_option linter.unusedSimpArgs false
section
variable {P : Program} {B : Bd} {w0 w : World} {F0 F : Fz} {O : Ow} {H : Hp}
theorem parts_ok {fs : Array Field} {ρ : Operand → Value} {ev : AX → AV} (hρ : ∀ (ty : TypeId) (x : Operand) (ax : AX), cx P ty x = some ax → VR F O (ρ x) (ev ax)) : ∀ {ps : List (Nat × Operand)} {qs : List (Nat × Nat × AX)} {places : List (Nat × Nat)},
    fs.toList.mapM (fun f => (P.info? f.type).map fun i => (f.offset, i.size)) = some places → copParts P fs ps = some qs → ps.length = qs.length ∧
    ∀ (i : Nat) (p : Nat × Operand) (q : Nat × Nat × AX), ps[i]? = some p → qs[i]? = some q → places[p.1]? = some (q.1, q.2.1) ∧ VR F O (ρ p.2) (ev q.2.2)
  | [], qs, places, _, h => by cases h; exact ⟨rfl, fun i p q hp => by simp at hp⟩
  | (j, x) :: ps, qs, places, hp, h => by
    simp only [copParts] at h
    split at h
    · rename_i f hf
      split at h
      · rename_i fi a qs' h1 h2 h3
        cases h
        obtain ⟨l, r⟩ := parts_ok hρ hp h3
        refine ⟨by simp [l], fun i p q hpi hqi => ?_⟩
        cases i with
        | zero =>
          simp at hpi hqi
          subst hpi
          subst hqi
          refine ⟨?_, hρ _ _ _ h2⟩
          have hf' : fs.toList[j]? = some f := by simpa using hf
          have := mapM_some_get hp j f (by simpa using hf)
          simpa [h1] using this.symm
        | succ i => exact r i p q (by simpa using hpi) (by simpa using hqi)
      · cases h
    · cases h
theorem row_ok {e : TypeId} {ρ : Operand → Value} {ev : AX → AV} (hρ : ∀ (ty : TypeId) (x : Operand) (ax : AX), cx P ty x = some ax → VR F O (ρ x) (ev ax)) : ∀ {ps : List (Nat × Operand)} {s : Nat} {as : List AX}, copRow P e s ps = some as →
    ps.map (fun p => (p.1, ρ p.2)) = ((ps.map fun p => ρ p.2).zipIdx s).map (fun p => (p.2, p.1)) ∧ ps.length = as.length ∧ ∀ (i : Nat) (c : Value) (a : AV), (ps.map fun p => ρ p.2)[i]? = some c → (as.map ev)[i]? = some a → VR F O c a
  | [], s, as, h => by cases h; exact ⟨rfl, rfl, fun i c a hc => by simp at hc⟩
  | (j, x) :: ps, s, as, h => by
    simp only [copRow] at h
    split at h
    · rename_i hj
      subst hj
      split at h
      · rename_i a as' h1 h2
        cases h
        obtain ⟨q1, q2, q3⟩ := row_ok hρ h2
        refine ⟨by simp only [List.map_cons, List.zipIdx_cons, q1], by simp [q2], fun i c a hc ha => ?_⟩
        cases i with
        | zero => simp at hc ha; subst hc; subst ha; exact hρ _ _ _ h1
        | succ i => exact q3 i c a (by simpa using hc) (by simpa using ha)
      · cases h
    · cases h
theorem cxo_ok {t : TypeId} {ρ : Operand → Value} {ev : AX → AV} (hρ : ∀ (ty : TypeId) (x : Operand) (ax : AX), cx P ty x = some ax → VR F O (ρ x) (ev ax)) {x : Option Operand} {a : Option AX} (h : cxo P t x = some a) :
    (x = none ∧ a = none) ∨ ∃ x' a', x = some x' ∧ a = some a' ∧ VR F O (ρ x') (ev a') := by
  cases x with
  | none => cases h; exact .inl ⟨rfl, rfl⟩
  | some x =>
    simp only [cxo] at h
    split at h
    · rename_i a' h1; cases h; exact .inr ⟨x, a', rfl, rfl, hρ _ _ _ h1⟩
    · cases h
theorem cxs_ok {ρ : Operand → Value} {ev : AX → AV} (hρ : ∀ (ty : TypeId) (x : Operand) (ax : AX), cx P ty x = some ax → VR F O (ρ x) (ev ax)) : ∀ {ts : List TypeId} {xs : List Operand} {as : List AX}, cxs P (ts.zip xs) = some as → ts.length = xs.length →
    (xs.map ρ).length = (as.map ev).length ∧ ∀ (i : Nat) (c : Value) (a : AV), (xs.map ρ)[i]? = some c → (as.map ev)[i]? = some a → VR F O c a
  | [], [], as, h, _ => by cases h; exact ⟨rfl, fun i c a hc => by simp at hc⟩
  | [], _ :: _, as, h, hl => by simp at hl
  | _ :: _, [], as, h, hl => by simp at hl
  | t :: ts, x :: xs, as, h, hl => by
    simp only [List.zip_cons_cons, cxs] at h
    split at h
    · rename_i a as' h1 h2
      cases h
      obtain ⟨q1, q2⟩ := cxs_ok hρ h2 (by simpa using hl)
      refine ⟨by simpa using q1, fun i c a hc ha => ?_⟩
      cases i with
      | zero => simp at hc ha; subst hc; subst ha; exact hρ _ _ _ h1
      | succ i => exact q2 i c a (by simpa using hc) (by simpa using ha)
    · cases h
theorem concs_ok : ∀ {as : List AV} {xs ys : List Value}, concs as = some xs → ys.length = as.length → (∀ (i : Nat) (c : Value) (a : AV), ys[i]? = some c → as[i]? = some a → VR F O c a) → ys = xs
  | [], xs, ys, h, hl, _ => by cases h; exact List.eq_nil_of_length_eq_zero hl
  | a :: as, xs, [], h, hl, _ => by simp at hl
  | a :: as, xs, y :: ys, h, hl, hv => by
    simp only [concs] at h
    split at h
    · rename_i x xs' h1 h2
      cases h
      rw [conc_ok (hv 0 y a rfl rfl) h1, concs_ok h2 (by simpa using hl) (fun i c a hc ha => hv (i + 1) c a hc ha)]
    · cases h
/-- The bounds of a slice expression. -/
theorem bounds_ok {b : Bool} {n c : Nat} {lo hi : Option Value} {l h : Option Int} (hl : (lo = none ∧ l = none) ∨ ∃ k i, lo = some (.int k i) ∧ l = some i) (hh : (hi = none ∧ h = none) ∨ ∃ k i, hi = some (.int k i) ∧ h = some i)
    (h0 : 0 ≤ l.getD 0) (h1 : l.getD 0 ≤ h.getD n) (h2 : h.getD n ≤ n) (h3 : n ≤ c) : (Instr.sliceBounds b n c lo hi none).run P w = .ok ((l.getD 0).toNat, (h.getD n).toNat, c) w := by
  rcases hl with ⟨rfl, rfl⟩ | ⟨k, i, rfl, rfl⟩ <;> rcases hh with ⟨rfl, rfl⟩ | ⟨k', i', rfl, rfl⟩ <;> simp only [Option.getD_none, Option.getD_some] at h0 h1 h2 ⊢
  · simp [Instr.sliceBounds]
  · have : 0 ≤ i' ∧ i' ≤ (c : Int) := ⟨h1, by omega⟩
    simp [Instr.sliceBounds, Instr.sliceBound, asIntOf, this]
  · have : 0 ≤ i ∧ i ≤ (n : Int) := ⟨h0, h1⟩
    simp [Instr.sliceBounds, Instr.sliceBound, asIntOf, this]
  · have e1 : 0 ≤ i' ∧ i' ≤ (c : Int) := ⟨by omega, by omega⟩
    have e2 : 0 ≤ i ∧ i ≤ ((i'.toNat : Nat) : Int) := ⟨h0, by omega⟩
    have e3 : i ≤ max i' 0 := by omega
    simp [Instr.sliceBounds, Instr.sliceBound, asIntOf, e1.1, e1.2, h0, e3]
theorem one_cells {a : AV} (h : AV.one a = true) : a.cells = [a] := by
  cases a <;> first | rfl | cases h
theorem sla_run (h : Own B w0 F0 F O H w) {t e : TypeId} {n : Nat} {i : TypeInfo} (ht : P.underlying t = some (.array n e)) (hi : P.info? e = some i) (hs1 : i.size = 1) {x : Value} {a : AV} (hx : VR F O x a) {lo hi' : Option Value} {l hh : Option Int}
    (hl : (lo = none ∧ l = none) ∨ ∃ k i, lo = some (.int k i) ∧ l = some i) (hhi : (hi' = none ∧ hh = none) ∨ ∃ k i, hi' = some (.int k i) ∧ hh = some i) {r : AV} {H' : Hp} (hr : slaA n H a l hh = some (r, H')) :
    ∃ y, (Instr.sliceAt t x lo hi' none).run P w = .ok y w ∧ Out B w0 F0 F O r H' y w := by
  unfold slaA at hr
  split at hr
  · rename_i j g
    split at hr
    · rename_i ob hlv
      split at hr
      · rename_i cs hes
        split at hr
        · rename_i hc
          obtain ⟨hk, hcl, hp, hm, h0, h1, h2⟩ := hc
          cases hr
          obtain ⟨hio, hg⟩ := live_ok hlv
          subst hg
          obtain ⟨F', p, own, le⟩ := h.freezeA hio (live_ne hlv) hp hx
          cases p with
          | ad b o k es i' off hk1 h1' f hf hv =>
            have hb := bounds_ok (P := P) (w := w) (b := false) (n := n) (c := n) hl hhi h0 h1 h2 (Nat.le_refl _)
            refine ⟨.slice (some (if n = (l.getD 0).toNat then ⟨b, o + 0 * ob.k + 0, none⟩ else (⟨b, o + 0 * ob.k + 0, none⟩ : Addr).add ((l.getD 0).toNat * i.size))) ((hh.getD n).toNat - (l.getD 0).toNat) (n - (l.getD 0).toNat), ?_, F', O, .p ?_, own, le, Ow.le_refl O⟩
            · have hsa : ∀ a : Addr, (Instr.sureAddr (.pointer (some a))).run P w = .ok a w := fun a => rfl
              simp only [Instr.sliceAt, Sem.run_bind, run_underlying ht, Result.andThen_ok, hsa, hb, run_size hi]
              rfl
            · generalize hL : (l.getD 0).toNat = L at *
              generalize hU : (hh.getD n).toNat = U at *
              have hLU : L ≤ U := by omega
              have hUn : U ≤ n := by omega
              have at_ : ∀ (q : Nat) (y : AV), ((cs.take U).drop L)[q]? = some y → cs[L + q]? = some y ∧ L + q < U := fun q y hy => by
                rw [List.getElem?_drop, List.getElem?_take] at hy
                split at hy
                · exact ⟨hy, by assumption⟩
                · cases hy
              have one : ∀ y ∈ (cs.take U).drop L, AV.one y = true := fun y hy => h1' (.agg cs) (by rw [hes]; simp) y (List.mem_of_mem_take (List.mem_of_mem_drop hy))
              refine .sl _ _ _ 1 _ (by simp; omega) (by omega) (by omega) (fun y hy => by rw [one_cells (one y hy)]; rfl) (fun y hy u hu => by
                rw [one_cells (one y hy)] at hu
                simp at hu; subst hu
                exact one _ hy) b (o + 0 * ob.k + 0 + L) (fun h => by
                  rw [if_neg (by omega), addr_add, hs1, Nat.mul_one]) (fun q _ => f 0 (L + q)) (fun q j' hq hj => by
                  have := hf 0 (L + q) (by rw [hes]; simp) (by omega)
                  rw [← this]
                  congr 1
                  omega) (fun q j' y u hy hu => by
                  obtain ⟨h3, h4⟩ := at_ q y hy
                  rw [one_cells (one y (List.mem_of_getElem? hy))] at hu
                  cases j' with
                  | zero =>
                    simp at hu; subst hu
                    exact hv 0 (L + q) (.agg cs) y (by rw [hes]; rfl) h3
                  | succ j' => simp at hu)
        · cases hr
      · cases hr
    · cases hr
  · cases hr
theorem slice_run (h : Own B w0 F0 F O H w) {t e : TypeId} {i : TypeInfo} (ht : P.underlying t = some (.slice e)) (hi : P.info? e = some i) {x : Value} {a : AV} (hx : VR F O x a) {lo hi' : Option Value} {l hh : Option Int}
    (hl : (lo = none ∧ l = none) ∨ ∃ k i, lo = some (.int k i) ∧ l = some i) (hhi : (hi' = none ∧ hh = none) ∨ ∃ k i, hi' = some (.int k i) ∧ hh = some i) {r : AV} {H' : Hp} (hr : sliceA i.size H a l hh = some (r, H')) :
    ∃ y, (Instr.sliceAt t x lo hi' none).run P w = .ok y w ∧ Out B w0 F0 F O r H' y w := by
  have front : ∀ {A : Option Addr} {n c : Nat}, x = .slice A n c → 0 ≤ l.getD 0 → l.getD 0 ≤ hh.getD n → hh.getD n ≤ n → n ≤ c → (Instr.sliceAt t x lo hi' none).run P w = .ok (.slice (if c = (l.getD 0).toNat then A else A.map (·.add ((l.getD 0).toNat * i.size))) ((hh.getD n).toNat - (l.getD 0).toNat) (c - (l.getD 0).toNat)) w := fun {A n c} e h0 h1 h2 h3 => by
    subst e
    simp only [Instr.sliceAt, Instr.slice, Sem.run_bind, run_underlying ht, Result.andThen_ok, bounds_ok (P := P) (w := w) (b := true) hl hhi h0 h1 h2 h3, run_size hi]
    rfl
  cases a with
  | nl k =>
    simp only [sliceA] at hr
    split at hr
    · rename_i hc
      obtain ⟨rfl, h1, h2⟩ := hc
      cases hr
      cases hx with
      | p h => cases h
      | nl =>
        have h3 : hh.getD ((0 : Nat) : Int) = 0 := h2
        have hf := front (A := none) (n := 0) (c := 0) rfl (by omega) (by omega) (by omega) (Nat.le_refl _)
        refine ⟨_, hf, Out.same h ?_⟩
        rw [h1, h3]
        exact .nl _
    · cases hr
  | sl k es =>
    simp only [sliceA] at hr
    split at hr
    rotate_left
    · cases hr
    rename_i hkk
    subst hkk
    split at hr
    · rename_i r' hcut
      cases hr
      obtain ⟨A, n, c, e1, h0, h1, h2, h3, h4, hp⟩ := cut_ok (hx.pvC rfl) hcut
      subst h4
      exact ⟨_, front e1 h0 h1 h2 h3, Out.same h (.p hp)⟩
    · cases hr
  | ol j g n =>
    simp only [sliceA] at hr
    split at hr
    · rename_i hl0
      split at hr
      · rename_i ob hlv
        split at hr
        · rename_i hcond
          cases hr
          obtain ⟨d, hd, hio, rr, hnC, rfl⟩ := h.ol hx hlv
          have hg := (live_ok hlv).2
          have hf := front rfl (by omega) (by omega) (by omega) hnC
          rw [hl0] at hf
          refine ⟨_, hf, Out.same h ?_⟩
          refine .ol _ j g _ d hd (by rw [rr.hg]; omega) ⟨_, _, rfl⟩ fun _ => ⟨by omega, ?_⟩
          simp [addr_add]
        · cases hr
      · cases hr
    · split at hr
      · rename_i k es H2 hp
        split at hr
        rotate_left
        · cases hr
        rename_i hkk
        subst hkk
        split at hr
        · rename_i r' hcut
          cases hr
          obtain ⟨F', p1, o1, l1, _⟩ := purC_ok h hx hp
          obtain ⟨A, n', c, e1, h0, h1, h2, h3, h4, hpp⟩ := cut_ok p1 hcut
          subst h4
          exact ⟨_, front e1 h0 h1 h2 h3, F', O, .p hpp, o1, l1, Ow.le_refl O⟩
        · cases hr
      · cases hr
  | _ => cases hr
theorem slo_run (h : Own B w0 F0 F O H w) {t e : TypeId} {i : TypeInfo} (ht : P.underlying t = some (.slice e)) (hi : P.info? e = some i) {x : Value} {a : AV} (hx : VR F O x a) {kd : IntKind} {ix : Int} {r : AV} (hr : sloA i.size H a ix = some r) :
    ∃ y, (Instr.sliceAt t x (some (.int kd ix)) none none).run P w = .ok y w ∧ VR F O y r := by
  cases a with
  | ol j g n =>
    simp only [sloA] at hr
    split at hr
    · rename_i ob hlv
      split at hr
      · rename_i hcond
        cases hr
        obtain ⟨hk, h0, h1⟩ := hcond
        obtain ⟨d, hd, hio, rr, hnC, rfl⟩ := h.ol hx hlv
        have hg := (live_ok hlv).2
        have hb := bounds_ok (P := P) (w := w) (b := true) (n := n) (c := d.C) (lo := some (.int kd ix)) (hi := none) (l := some ix) (h := none) (.inr ⟨kd, ix, rfl, rfl⟩) (.inl ⟨rfl, rfl⟩) h0 (by simp only [Option.getD_some, Option.getD_none]; omega) (by simp) hnC
        simp only [Option.getD_some, Option.getD_none, Int.toNat_natCast] at hb
        have hrun : (Instr.sliceAt t (.slice (some ⟨d.b, 0, none⟩) n d.C) (some (.int kd ix)) none none).run P w = .ok (.slice (if d.C = ix.toNat then (some ⟨d.b, 0, none⟩ : Option Addr) else (some ⟨d.b, 0, none⟩ : Option Addr).map (·.add (ix.toNat * i.size))) (n - ix.toNat) (d.C - ix.toNat)) w := by
          simp only [Instr.sliceAt, Instr.slice, Sem.run_bind, run_underlying ht, Result.andThen_ok, hb, run_size hi]
          rfl
        refine ⟨_, hrun, ?_⟩
        refine .os _ j g _ _ d hd (by rw [rr.hg]; omega) ⟨_, _, rfl⟩ fun _ => ⟨h1, hnC, _, rfl, fun hlt => ?_⟩
        rw [if_neg (by omega)]
        have hdk : d.k = i.size := by rw [← hk, rr.hk]
        simp [addr_add, hdk]
      · cases hr
    · cases hr
  | _ => cases hr
end
end Go.Proofs.YtgcnbbjapapnjaaDoor.Sim
