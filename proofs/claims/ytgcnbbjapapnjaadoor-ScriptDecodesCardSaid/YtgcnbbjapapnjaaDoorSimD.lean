/- Each operation does in the world what it does on plain values. -/
import Derived.Test.YtgcnbbjapapnjaaDoorSimC
namespace Go.Proofs.YtgcnbbjapapnjaaDoor.Sim
open Go.RowKit
set_option linter.unusedVariables false
set_option linter.unusedSimpArgs false
def isAggD : TypeDesc → Bool
  | .struct _ | .array _ _ => true
  | _ => false
theorem addr_add (b o n : Nat) : (⟨b, o, none⟩ : Addr).add n = ⟨b, o + n, none⟩ := by
  unfold Addr.add; split <;> simp_all
theorem run_info {P : Program} {t : TypeId} {i : TypeInfo} (h : P.info? t = some i) (w : World) : (typeInfo t).run P w = .ok i w := by
  simp only [typeInfo, program, Sem.run_bind, Sem.run, Result.andThen_ok, h]; rfl
theorem run_size {P : Program} {t : TypeId} {i : TypeInfo} (h : P.info? t = some i) (w : World) : (sizeOf t).run P w = .ok i.size w := by
  simp only [sizeOf, Sem.run_bind, run_info h, Result.andThen_ok]; rfl
theorem run_zero {P : Program} {t : TypeId} {i : TypeInfo} {z : Value} (h : P.info? t = some i) (hz : i.zero = some z) (w : World) : (zeroValue t).run P w = .ok z w := by
  simp only [zeroValue, Sem.run_bind, run_info h, Result.andThen_ok, hz]; rfl
theorem run_isAgg {P : Program} {t : TypeId} {d : TypeDesc} (h : P.underlying t = some d) (w : World) : (isAgg t).run P w = .ok (isAggD d) w := by
  simp only [isAgg, Sem.run_bind, run_underlying h, Result.andThen_ok]
  cases d <;> rfl
/-- A place in a row is read. -/
theorem rd_run {P : Program} {w : World} {F : Fz} {O : Ow} {b o k : Nat} {es : List AV} (hk : ∀ e ∈ es, e.cells.length = k) (h1 : ∀ e ∈ es, ∀ a ∈ e.cells, AV.one a = true)
    (hcell : ∀ (i j : Nat) (e a : AV), es[i]? = some e → e.cells[j]? = some a → ∃ c, w.cell? ⟨b, o + i * k + j, none⟩ = some c ∧ VR F O c a)
    {t : TypeId} {inf : TypeInfo} {d : TypeDesc} {i off : Nat} {r : AV} (hi : P.info? t = some inf) (hd : P.underlying t = some d) (hr : rdA k es i off (isAggD d) inf.size = some r) :
    ∃ x, (loadVar t ⟨b, o + i * k + off, none⟩).run P w = .ok x w ∧ VR F O x r := by
  unfold rdA at hr
  split at hr
  · cases hr
  · rename_i e he
    have hek := hk e (List.mem_of_getElem? he)
    simp only [loadVar, Sem.run_bind, run_isAgg hd, Result.andThen_ok]
    cases hag : isAggD d
    · simp only [hag, Bool.false_eq_true, if_false] at hr ⊢
      obtain ⟨c, hc, hv⟩ := hcell i off e r he hr
      exact ⟨c, by simp only [load, Sem.run, hc], hv⟩
    · simp only [hag, if_true] at hr ⊢
      split at hr
      · rename_i hle
        have hr' : r = .agg ((e.cells.drop off).take inf.size) := by
          split at hr
          · rename_i hz
            cases hr
            rw [hz.1, List.drop_zero, List.take_of_length_le (by omega)]
          · cases hr; rfl
        subst hr'
        have hex : ∀ j, j < inf.size → ∃ c a, w.cell? ⟨b, o + i * k + off + j, none⟩ = some c ∧ e.cells[off + j]? = some a ∧ VR F O c a := fun j hj => by
          have hlt : off + j < e.cells.length := by omega
          obtain ⟨c, hc, hv⟩ := hcell i (off + j) e _ he (List.getElem?_eq_getElem hlt)
          exact ⟨c, _, by rw [← hc, Nat.add_assoc (o + i * k)], List.getElem?_eq_getElem hlt, hv⟩
        have hrun := run_loadCells_list (P := P) w ⟨b, o + i * k + off, none⟩ ((List.range inf.size).map fun j => (w.cell? ⟨b, o + i * k + off + j, none⟩).getD undef) (fun j v hv => by
          rw [List.getElem?_map] at hv
          obtain ⟨j', hj', rfl⟩ := Option.map_eq_some_iff.1 hv
          have hj2 := (List.getElem?_eq_some_iff.1 hj').1
          rw [List.getElem?_range (by simpa using hj2)] at hj'
          cases hj'
          obtain ⟨c, a, g1, _, _⟩ := hex j (by simpa using hj2)
          rw [addr_add, g1]
          rfl)
        simp only [List.length_map, List.length_range] at hrun
        refine ⟨.agg ((List.range inf.size).map fun j => (w.cell? ⟨b, o + i * k + off + j, none⟩).getD undef).toArray, ?_, ?_⟩
        · simp only [Sem.run_bind, run_size hi, Result.andThen_ok, hrun]
          rfl
        · refine .agg _ _ (by simp; omega) (fun a ha => h1 e (List.mem_of_getElem? he) a (List.mem_of_mem_drop (List.mem_of_mem_take ha))) fun j c a hc ha => ?_
          have hjl : j < inf.size := by have := (List.getElem?_eq_some_iff.1 hc).1; simpa using this
          obtain ⟨c', a', g1, g2, g3⟩ := hex j hjl
          rw [List.getElem?_map, List.getElem?_range hjl] at hc
          simp only [Option.map_some, Option.some.injEq, g1, Option.getD_some] at hc
          rw [List.getElem?_take, if_pos hjl, List.getElem?_drop] at ha
          rw [g2] at ha
          cases ha
          subst hc
          exact g3
      · cases hr
theorem live_ok {H : Hp} {i g : Nat} {ob : OB} (h : Sim.live H i g = some ob) : H[i]? = some ob ∧ ob.g = g := by
  unfold Sim.live at h
  split at h
  · split at h
    · rename_i h1 h2
      split at h
      · cases h
      · cases h; exact ⟨h1, h2⟩
    · cases h
  · cases h
theorem live_ne {H : Hp} {i g : Nat} {ob : OB} (h : Sim.live H i g = some ob) : ob.e ≠ mapE := by
  unfold Sim.live at h
  split at h
  · split at h
    · split at h
      · cases h
      · rename_i hn; cases h; simpa using hn
    · cases h
  · cases h
theorem liveM_ok {H : Hp} {i g : Nat} {ob : OB} (h : Sim.liveM H i g = some ob) : H[i]? = some ob ∧ ob.g = g ∧ ob.e = mapE ∧ 2 ≤ ob.k := by
  unfold Sim.liveM at h
  split at h
  · split at h
    · rename_i h1 h2
      split at h
      · rename_i hn; cases h; rw [Bool.and_eq_true] at hn; exact ⟨h1, h2, by simpa using hn.1, Nat.le_of_ble_eq_true hn.2⟩
      · cases h
    · cases h
  · cases h
section
variable {P : Program} {B : Bd} {w0 w : World} {F0 F : Fz} {O : Ow} {H : Hp}
/-- What an own place is. -/
theorem Own.oa (h : Own B w0 F0 F O H w) {x : Value} {i g e off : Nat} {ob : OB} (hx : VR F O x (.oa i g e off)) (hl : Sim.live H i g = some ob) :
    ∃ d, O[i]? = some d ∧ H[i]? = some ob ∧ Row B F O w d ob ∧ x = .pointer (some ⟨d.b, e * ob.k + off, none⟩) := by
  obtain ⟨hi, hg⟩ := live_ok hl
  obtain ⟨d, hd, r⟩ := h.get hi
  cases hx with
  | p h => cases h
  | oa _ _ _ _ _ d' hd' hg' h1 hh =>
    rw [hd] at hd'
    cases hd'
    refine ⟨d, hd, hi, r, ?_⟩
    rw [← r.hk]
    exact hh (by rw [r.hg, hg])
theorem Own.ol (h : Own B w0 F0 F O H w) {x : Value} {i g n : Nat} {ob : OB} (hx : VR F O x (.ol i g n)) (hl : Sim.live H i g = some ob) :
    ∃ d, O[i]? = some d ∧ H[i]? = some ob ∧ Row B F O w d ob ∧ n ≤ d.C ∧ x = .slice (some ⟨d.b, 0, none⟩) n d.C := by
  obtain ⟨hi, hg⟩ := live_ok hl
  obtain ⟨d, hd, r⟩ := h.get hi
  cases hx with
  | p h => cases h
  | ol _ _ _ _ d' hd' hg' h1 hh =>
    rw [hd] at hd'
    cases hd'
    obtain ⟨q1, q2⟩ := hh (by rw [r.hg, hg])
    exact ⟨d, hd, hi, r, q1, q2⟩
theorem Own.oc (h : Own B w0 F0 F O H w) {x : Value} {i g n c : Nat} {ob : OB} (hx : VR F O x (.oc i g n c)) (hl : Sim.live H i g = some ob) :
    ∃ d, O[i]? = some d ∧ H[i]? = some ob ∧ Row B F O w d ob ∧ n ≤ d.C ∧ d.C = c ∧ x = .slice (some ⟨d.b, 0, none⟩) n d.C := by
  obtain ⟨hi, hg⟩ := live_ok hl
  obtain ⟨d, hd, r⟩ := h.get hi
  cases hx with
  | p h => cases h
  | oc _ _ _ _ _ d' hd' hg' h1 hh =>
    rw [hd] at hd'
    cases hd'
    obtain ⟨q1, q2, q3⟩ := hh (by rw [r.hg, hg])
    exact ⟨d, hd, hi, r, q1, q2, q3⟩
theorem Own.io (h : Own B w0 F0 F O H w) {x : Value} {t i g e off : Nat} {ob : OB} (hx : VR F O x (.io t i g e off)) (hl : Sim.live H i g = some ob) : ∃ y, x = .iface t y ∧ VR F O y (.oa i g e off) := by
  obtain ⟨hi, hg⟩ := live_ok hl
  obtain ⟨d, hd, r⟩ := h.get hi
  cases hx with
  | p h => cases h
  | io _ _ _ _ _ _ d' hd' hg' h1 hh =>
    rw [hd] at hd'
    cases hd'
    have e1 : g = d.g := by rw [r.hg]; exact hg.symm
    exact ⟨_, hh e1, .oa _ i g e off d hd (by omega) rfl fun _ => rfl⟩
theorem Own.ib (h : Own B w0 F0 F O H w) {x : Value} {t f i g e off : Nat} {ob : OB} (hx : VR F O x (.ib t f i g e off)) (hl : Sim.live H i g = some ob) : ∃ y, x = .iface t y ∧ VR F O y (.bf f i g e off) := by
  obtain ⟨hi, hg⟩ := live_ok hl
  obtain ⟨d, hd, r⟩ := h.get hi
  cases hx with
  | p h => cases h
  | ib _ _ _ _ _ _ _ d' hd' hg' h1 hh =>
    rw [hd] at hd'
    cases hd'
    have e1 : g = d.g := by rw [r.hg]; exact hg.symm
    exact ⟨_, hh e1, .bf _ f i g e off d hd (by omega) rfl fun _ => rfl⟩
theorem Own.recv (h : Own B w0 F0 F O H w) {x : Value} {a rc : AV} {t : Nat} (hx : VR F O x a) (hr : recvA H a = some (t, rc)) : ∃ y, x = .iface t y ∧ VR F O y rc := by
  cases a with
  | io t i g e off =>
    simp only [recvA] at hr
    split at hr
    · rename_i ob hl; cases hr; exact h.io hx hl
    · cases hr
  | ib t f i g e off =>
    simp only [recvA] at hr
    split at hr
    · rename_i ob hl; cases hr; exact h.ib hx hl
    · cases hr
  | _ => cases hr
theorem Own.bf (h : Own B w0 F0 F O H w) {x : Value} {f : FuncId} {i g e off : Nat} {ob : OB} (hx : VR F O x (.bf f i g e off)) (hl : Sim.live H i g = some ob) : ∃ y, x = .func (.func f) #[y] #[] ∧ VR F O y (.oa i g e off) := by
  obtain ⟨hi, hg⟩ := live_ok hl
  obtain ⟨d, hd, r⟩ := h.get hi
  cases hx with
  | p h => cases h
  | bf _ _ _ _ _ _ d' hd' hg' h1 hh =>
    rw [hd] at hd'
    cases hd'
    have e1 : g = d.g := by rw [r.hg]; exact hg.symm
    exact ⟨_, hh e1, .oa _ i g e off d hd (by omega) rfl fun _ => rfl⟩
theorem Own.os (h : Own B w0 F0 F O H w) {x : Value} {i g lo n : Nat} {ob : OB} (hx : VR F O x (.os i g lo n)) (hl : Sim.live H i g = some ob) :
    ∃ d, O[i]? = some d ∧ H[i]? = some ob ∧ Row B F O w d ob ∧ lo ≤ n ∧ n ≤ d.C ∧ ∃ A, x = .slice A (n - lo) (d.C - lo) ∧ (lo < d.C → A = some ⟨d.b, lo * d.k, none⟩) := by
  obtain ⟨hi, hg⟩ := live_ok hl
  obtain ⟨d, hd, r⟩ := h.get hi
  cases hx with
  | p h => cases h
  | os _ _ _ _ _ d' hd' hg' h1 hh =>
    rw [hd] at hd'
    cases hd'
    obtain ⟨q1, q2, q3⟩ := hh (by rw [r.hg, hg])
    exact ⟨d, hd, hi, r, q1, q2, q3⟩
theorem Row.cell {d : Ds} {ob : OB} (r : Row B F O w d ob) (ne : ob.e ≠ mapE) (i j : Nat) (e a : AV) (he : ob.es[i]? = some e) (ha : e.cells[j]? = some a) : ∃ c, w.cell? ⟨d.b, 0 + i * ob.k + j, none⟩ = some c ∧ VR F O c a := by
  obtain ⟨cur, q1, q2, q3⟩ := r.curc ne
  obtain ⟨c, hc, hv⟩ := q3 i j e a he ha
  exact ⟨c, by simp [World.cell?, q1, hc], hv⟩
theorem load_run (h : Own B w0 F0 F O H w) {x : Value} {a r : AV} (hx : VR F O x a) {t : TypeId} {inf : TypeInfo} {d : TypeDesc} (hi : P.info? t = some inf) (hd : P.underlying t = some d) (hr : loadA H (isAggD d) inf.size a = some r) :
    ∃ y, (Instr.loadAt t x).run P w = .ok y w ∧ VR F O y r := by
  cases a with
  | ad k es i off =>
    have hp := hx.pvC rfl
    cases hp with
    | ad b o _ _ _ _ hk h1 f hf hc =>
      obtain ⟨y, g1, g2⟩ := rd_run (P := P) (w := w) (F := F) (O := O) hk h1 (fun i j e a he ha => by
        have hil := (List.getElem?_eq_some_iff.1 he).1
        have hjl := (List.getElem?_eq_some_iff.1 ha).1
        rw [hk e (List.mem_of_getElem? he)] at hjl
        exact ⟨f i j, h.fr _ _ _ (hf i j hil hjl), .p (hc i j e a he ha)⟩) hi hd hr
      exact ⟨y, by simpa [Instr.loadAt, Instr.sureAddr] using g1, g2⟩
  | oa i g e off =>
    simp only [loadA] at hr
    split at hr
    · rename_i ob hl
      obtain ⟨ds, hds, hio, r', rfl⟩ := h.oa hx hl
      obtain ⟨y, g1, g2⟩ := rd_run (P := P) (w := w) (F := F) (O := O) r'.hn r'.h1 (fun i j e a he ha => r'.cell (live_ne hl) i j e a he ha) hi hd hr
      rw [Nat.zero_add] at g1
      exact ⟨y, by simpa [Instr.loadAt, Instr.sureAddr] using g1, g2⟩
    · cases hr
  | _ => simp [loadA] at hr
def Out (B : Bd) (w0 : World) (F0 F : Fz) (O : Ow) (r : AV) (H' : Hp) (x : Value) (w' : World) : Prop := ∃ F' O', VR F' O' x r ∧ Own B w0 F0 F' O' H' w' ∧ F.le F' ∧ O.le O'
theorem Out.same (h : Own B w0 F0 F O H w) {r : AV} {x : Value} (hx : VR F O x r) : Out B w0 F0 F O r H x w := ⟨F, O, hx, h, Fz.le_refl F, Ow.le_refl O⟩
theorem wrA_cells {old : AV} {off n k : Nat} {vs : List AV} (hk : old.cells.length = k) (hn : vs.length = n) (h0 : 0 < n) (hle : off + n ≤ k) (hv : ∀ u ∈ vs, AV.one u = true) (ho : ∀ u ∈ old.cells, AV.one u = true) :
    (wrA old off vs).cells.length = k ∧ (∀ u ∈ (wrA old off vs).cells, AV.one u = true) ∧ ∀ (j : Nat) (a : AV), (wrA old off vs).cells[j]? = some a → (off ≤ j ∧ j < off + n ∧ vs[j - off]? = some a) ∨ ((j < off ∨ off + n ≤ j) ∧ old.cells[j]? = some a) := by
  have single : (∀ cs, old ≠ .agg cs) → wrA old off vs = vs.headD .unk ∧ k = 1 ∧ off = 0 ∧ n = 1 := fun hne => by
    have : old.cells = [old] := by cases old <;> first | rfl | exact absurd rfl (hne _)
    rw [this] at hk
    refine ⟨?_, ?_, ?_, ?_⟩
    · cases old <;> first | rfl | exact absurd rfl (hne _)
    all_goals (simp at hk; omega)
  by_cases hag : ∃ cs, old = .agg cs
  · obtain ⟨cs, rfl⟩ := hag
    have hk' : cs.length = k := hk
    have ho' : ∀ u ∈ cs, AV.one u = true := ho
    show (cs.take off ++ vs ++ cs.drop (off + vs.length)).length = k ∧ (∀ u ∈ cs.take off ++ vs ++ cs.drop (off + vs.length), AV.one u = true) ∧ ∀ (j : Nat) (a : AV), (cs.take off ++ vs ++ cs.drop (off + vs.length))[j]? = some a → _
    refine ⟨by simp; omega, fun u hu => ?_, fun j a ha => ?_⟩
    · rcases List.mem_append.1 hu with hu | hu
      · rcases List.mem_append.1 hu with hu | hu
        · exact ho' u (List.mem_of_mem_take hu)
        · exact hv u hu
      · exact ho' u (List.mem_of_mem_drop hu)
    · have l1 : (cs.take off).length = off := by simp; omega
      by_cases hj : j < off
      · rw [List.append_assoc, List.getElem?_append_left (by omega), List.getElem?_take, if_pos hj] at ha
        exact .inr ⟨.inl hj, ha⟩
      · by_cases hj2 : j < off + n
        · rw [List.getElem?_append_left (by simp; omega), List.getElem?_append_right (by omega), l1] at ha
          exact .inl ⟨by omega, hj2, ha⟩
        · rw [List.getElem?_append_right (by simp; omega), List.getElem?_drop] at ha
          refine .inr ⟨.inr (by omega), ?_⟩
          rw [← ha]
          show cs[j]? = _
          congr 1
          simp
          omega
  · obtain ⟨e1, e2, e3, e4⟩ := single fun cs e => hag ⟨cs, e⟩
    obtain ⟨v, rfl⟩ : ∃ v, vs = [v] := by
      match vs, (hn.trans e4) with
      | [v], _ => exact ⟨v, rfl⟩
    have hv1 : v.one = true := hv v (by simp)
    have hvc : v.cells = [v] := by cases v <;> first | rfl | cases hv1
    rw [e1]
    show v.cells.length = k ∧ (∀ u ∈ v.cells, AV.one u = true) ∧ ∀ (j : Nat) (a : AV), v.cells[j]? = some a → _
    rw [hvc]
    refine ⟨by simp; omega, by simpa using hv1, fun j a ha => ?_⟩
    cases j with
    | zero => exact .inl ⟨by omega, by omega, by simpa [e3] using ha⟩
    | succ j => simp at ha
theorem store_run (h : Own B w0 F0 F O H w) {p v : Value} {pa va : AV} (hp : VR F O p pa) (hv : VR F O v va) {t : TypeId} {inf : TypeInfo} (hi : P.info? t = some inf) {H' : Hp} (hr : storeA H inf.size pa va = some H') :
    ∃ w' F' O', (Instr.storeAt t p v).run P w = .ok () w' ∧ Own B w0 F0 F' O' H' w' ∧ F.le F' ∧ O.le O' := by
  cases pa with
  | oa i g e off =>
    simp only [storeA] at hr
    split at hr
    · rename_i ob hl
      split at hr
      · rename_i old hold
        split at hr
        · rename_i hcond
          obtain ⟨hfz, hle, hlen, hfine, h0⟩ := hcond
          cases hr
          obtain ⟨d, hd, hio, r, rfl⟩ := h.oa hp hl
          obtain ⟨cur, hcur, hsz, hcell⟩ := r.curc (live_ne hl)
          obtain ⟨vsz, v1, vc⟩ := hv.cells (fine_or hfine)
          have hel := (List.getElem?_eq_some_iff.1 hold).1
          have hkold := r.hn old (List.mem_of_getElem? hold)
          obtain ⟨wl, w1, wc⟩ := wrA_cells (off := off) (vs := va.cells) hkold hlen h0 hle v1 (r.h1 old (List.mem_of_getElem? hold))
          have hmul : (e + 1) * ob.k ≤ d.C * ob.k := Nat.mul_le_mul_right _ (Nat.le_trans hel (r.hl (live_ne hl)))
          rw [Nat.add_mul, Nat.one_mul] at hmul
          have hvl : v.cells.toList.length = inf.size := by simp; omega
          have hst := run_storeCells_at P d.b (e * ob.k + off) ob.e v.cells.toList 0 cur w hcur (by rw [hvl, hsz]; omega) (fun u hu => by
            obtain ⟨j, hj, rfl⟩ := List.getElem_of_mem hu
            have hjl : j < va.cells.length := by simp at hj; omega
            obtain ⟨c, g1, g2⟩ := vc j _ (List.getElem?_eq_getElem hjl)
            have : v.cells[j]? = some (v.cells.toList[j]) := by simp at hj ⊢
            rw [this] at g1
            cases g1
            exact g2.oneCell (v1 _ (List.getElem_mem hjl)))
          simp only [Nat.add_zero] at hst
          have hget : ∀ j, (cur.toList.take (e * ob.k + off) ++ v.cells.toList ++ cur.toList.drop (e * ob.k + off + v.cells.toList.length)).toArray[j]? = if e * ob.k + off ≤ j ∧ j < e * ob.k + off + inf.size then v.cells[j - (e * ob.k + off)]? else cur[j]? := fun j => by
            have l1 : (cur.toList.take (e * ob.k + off)).length = e * ob.k + off := by simp; rw [hsz]; omega
            rw [List.getElem?_toArray]
            by_cases hj : j < e * ob.k + off
            · rw [if_neg (by omega), List.append_assoc, List.getElem?_append_left (by omega), List.getElem?_take, if_pos hj]
              simp
            · by_cases hj2 : j < e * ob.k + off + inf.size
              · rw [if_pos ⟨by omega, hj2⟩, List.getElem?_append_left (by simp only [List.length_append, l1, hvl]; omega), List.getElem?_append_right (by omega), l1]
                simp
              · rw [if_neg (by omega), List.getElem?_append_right (by simp only [List.length_append, l1, hvl]; omega), List.getElem?_drop]
                simp only [List.length_append, l1, hvl]
                rw [show e * ob.k + off + inf.size + (j - (e * ob.k + off + inf.size)) = j from by omega]
                simp
          obtain ⟨q1, q2⟩ := h.write (i := i) (ob := ob) (d := d) hio (live_ne hl) hd (new := (cur.toList.take (e * ob.k + off) ++ v.cells.toList ++ cur.toList.drop (e * ob.k + off + v.cells.toList.length)).toArray) (g' := ob.g) (es' := ob.es.set e (wrA old off va.cells))
            (Nat.le_refl _) (by simpa using r.hl (live_ne hl)) (by
              simp only [List.size_toArray, List.length_append, List.length_take, List.length_drop, Array.length_toList, hvl]
              simp at hvl
              omega) (fun x hx => by
              rcases List.mem_or_eq_of_mem_set hx with hx | rfl
              · exact r.hn x hx
              · exact wl) (fun x hx a ha => by
              rcases List.mem_or_eq_of_mem_set hx with hx | rfl
              · exact r.h1 x hx a ha
              · exact w1 a ha) (by simpa using r.hz) (fun n j x a hx ha => by
              rw [hget]
              by_cases hne : e = n
              · subst hne
                rw [List.getElem?_set_self hel] at hx
                cases hx
                rcases wc j a ha with ⟨c1, c2, c3⟩ | ⟨c1, c2⟩
                · rw [if_pos (by omega)]
                  obtain ⟨c, g1, g2⟩ := vc _ a c3
                  exact ⟨c, by rw [← g1]; congr 1; omega, g2⟩
                · rw [if_neg (by omega)]
                  exact hcell e j old a hold c2
              · rw [List.getElem?_set_ne hne] at hx
                have hjk : j < ob.k := by rw [← r.hn x (List.mem_of_getElem? hx)]; exact (List.getElem?_eq_some_iff.1 ha).1
                rw [if_neg (by
                  rintro ⟨z1, z2⟩
                  rcases Nat.lt_or_gt_of_ne hne with hlt | hlt
                  · have := Nat.mul_le_mul_right ob.k (show e + 1 ≤ n from hlt)
                    rw [Nat.add_mul, Nat.one_mul] at this
                    omega
                  · have := Nat.mul_le_mul_right ob.k (show n + 1 ≤ e from hlt)
                    rw [Nat.add_mul, Nat.one_mul] at this
                    omega)]
                exact hcell n j x a hx ha) (fun o u hu => by
              have ho := r.hf o u hu
              have hfe := Nat.mul_le_mul_right ob.k hfz
              rw [hget, if_neg (by omega)]
              have := h.fr _ _ _ hu
              simpa [World.cell?, hcur] using this)
          have hobg : (⟨ob.e, ob.k, ob.es.set e (wrA old off va.cells), ob.g, ob.fz⟩ : OB) = { ob with es := ob.es.set e (wrA old off va.cells) } := rfl
          rw [hobg] at q1
          refine ⟨_, F, _, ?_, q1, Fz.le_refl F, q2⟩
          have hvne : ¬ v.cells.size ≠ inf.size := by simp at hvl; omega
          simp only [Instr.storeAt, Instr.sureAddr, storeVar, Sem.run_bind, Sem.run_pure, Result.andThen_ok, run_size hi, hvne, if_false]
          exact hst
        · cases hr
      · cases hr
    · cases hr
  | _ => simp [storeA] at hr
end
end Go.Proofs.YtgcnbbjapapnjaaDoor.Sim
