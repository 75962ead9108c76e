/- An operation and what it is on plain values. -/
import Derived.Test.YtgcnbbjapapnjaaDoorSimMp
namespace Go.Proofs.YtgcnbbjapapnjaaDoor.Sim
open Go.RowKit
set_option linter.unusedVariables false
set_option linter.unusedSimpArgs false
section
variable {P : Program} {B : Bd} {w0 w : World} {F0 F : Fz} {O : Ow} {H : Hp}
set_option maxHeartbeats 1000000 in
theorem op_ok {hs : List FuncId} {o : Oper} {op : AOp} (hc : copOp P hs o = some op) {ρ : Operand → Value} {ev : AX → AV} (hρ : ∀ (ty : TypeId) (x : Operand) (ax : AX), cx P ty x = some ax → VR F O (ρ x) (ev ax))
    (hcv : ∀ a, ev (.c a) = a) (h : Own B w0 F0 F O H w) {r : AV} {H' : Hp} (he : eff P ev H op = some (r, H')) : Good P B w0 F0 F O w (execOp ρ o) r H' := by
  obtain ⟨dst, op', type, pos, after, guard⟩ := o
  cases op' with
  | move x =>
    simp only [copOp] at hc
    split at hc
    · rename_i a ha
      cases hc
      cases he
      exact ⟨.value (ρ x), w, rfl, ρ x, .inl rfl, Out.same h (hρ _ _ _ ha)⟩
    · cases hc
  | assign x =>
    simp only [copOp] at hc
    split at hc
    · rename_i a ha
      cases hc
      cases he
      exact ⟨.value (ρ x), w, rfl, ρ x, .inl rfl, Out.same h (hρ _ _ _ ha)⟩
    · cases hc
  | pick c a b =>
    simp only [copOp] at hc
    split at hc
    · rename_i c' a' b' h1 h2 h3
      cases hc
      simp only [eff] at he
      split at he
      · rename_i bb hbb
        cases he
        have hcv := (hρ _ _ _ h1).pvC (by rw [hbb]; rfl)
        rw [hbb] at hcv
        have hce : ρ c = .bool bb := by
          generalize ρ c = q at hcv
          cases hcv; rfl
        refine ⟨.value (if bb then ρ a else ρ b), w, by simp [execOp, asBool, hce], _, .inl rfl, Out.same h ?_⟩
        cases bb
        · exact hρ _ _ _ h3
        · exact hρ _ _ _ h2
      · cases he
    · cases hc
  | alloc e =>
    simp only [copOp] at hc
    split at hc
    · rename_i i hi
      obtain ⟨hne, hi⟩ := infoE_ok hi
      split at hc
      · rename_i z hz
        split at hc
        · rename_i a ha
          cases hc
          simp only [eff, AX.ev] at he
          have hav := avVal_ok ha F O
          have hev : VR F O z (ev (.c a)) := by rw [hcv]; exact hav.1
          split at he
          · rename_i hcond
            cases he
            exact ⟨_, _, by simp only [execOp, Instr.alloc, Sem.run_bind, run_zero hi hz, Result.andThen_ok, newVar, newRow, newObj]; rfl, _, .inl rfl, new_run h hne hev hcond.1 hcond.2⟩
          · cases he
        · cases hc
      · cases hc
    · cases hc
  | box e x =>
    simp only [copOp] at hc
    split at hc
    · rename_i i a hi ha
      obtain ⟨hne, hi⟩ := infoE_ok hi
      cases hc
      simp only [eff] at he
      split at he
      · rename_i hcond
        cases he
        exact ⟨_, _, by simp only [execOp, Instr.box, Sem.run_bind, Result.andThen_ok, newVar, newRow, newObj]; rfl, _, .inl rfl, new_run h hne (hρ _ _ _ ha) hcond.1 hcond.2⟩
      · cases he
    · cases hc
  | build t parts =>
    simp only [copOp] at hc
    split at hc
    · rename_i fs i ht hi
      split at hc
      · rename_i z hz
        split at hc
        · rename_i zc qs pl hzc hqs hpl
          cases hc
          simp only [eff] at he
          cases hfl : fillA zc (qs.map fun p => (p.1, p.2.1, ev p.2.2)) with
          | none => simp [hfl] at he
          | some cs' =>
            simp [hfl] at he
            obtain ⟨rfl, rfl⟩ := he
            obtain ⟨l1, r1⟩ := parts_ok (F := F) (O := O) hρ hpl hqs
            obtain ⟨zv, _⟩ := avVal_ok hzc F O
            obtain ⟨zs, rfl, zl, z1, z2⟩ : ∃ zs : List Value, z = .agg zs.toArray ∧ zs.length = zc.length ∧ (∀ a ∈ zc, AV.one a = true) ∧ ∀ (i : Nat) (c : Value) (a : AV), zs[i]? = some c → zc[i]? = some a → VR F O c a := by
              cases zv with
              | p h => cases h with
                | agg xs as hl h1 h => exact ⟨xs, rfl, hl, h1, fun i c a hc ha => .p (h i c a hc ha)⟩
              | agg xs as hl h1 h => exact ⟨xs, rfl, hl, h1, h⟩
            obtain ⟨out, o1, o2, o3, o4⟩ := fill_ok (F := F) (O := O) (fun j => pl[j]?) (parts.toList.map fun p => (p.1, ρ p.2)) (qs.map fun p => (p.1, p.2.1, ev p.2.2)) zs.toArray zc cs' (by simpa using l1) (fun j p q hp hq => by
              rw [List.getElem?_map] at hp hq
              obtain ⟨p', hp', rfl⟩ := Option.map_eq_some_iff.1 hp
              obtain ⟨q', hq', rfl⟩ := Option.map_eq_some_iff.1 hq
              obtain ⟨g1, g2⟩ := r1 j p' q' hp' hq'
              exact ⟨by simpa using g1, g2⟩) (by simpa using zl) z1 (fun j c a hc ha => z2 j c a (by simpa using hc) ha) hfl
            refine ⟨.value (.agg out), w, ?_, .agg out, .inl rfl, Out.same h ?_⟩
            · simp [execOp, Instr.build, run_underlying ht, typeInfo, zeroValue, hi, hz, Array.mapM_eq_mapM_toList, run_places w _ _ hpl, Value.cells, o1]
            · have := VR.agg (F := F) (O := O) out.toList cs' (by simpa using o2) o3 (fun j c a hc ha => o4 j c a (by simpa using hc) ha)
              simpa using this
        · cases hc
      · cases hc
    · cases hc
  | buildSlice t len parts =>
    simp only [copOp] at hc
    split at hc
    · rename_i e ht
      split at hc
      · rename_i i as hi hrow
        obtain ⟨hne, hi⟩ := infoE_ok hi
        split at hc
        · rename_i z hz
          split at hc
          · rename_i hlen
            cases hc
            simp only [eff] at he
            split at he
            · rename_i hcond
              simp only [Bool.and_eq_true, List.all_eq_true, decide_eq_true_eq] at hcond
              obtain ⟨⟨hall, hbig⟩, hmx⟩ := hcond
              cases he
              obtain ⟨q1, q2, q3⟩ := row_ok (F := F) (O := O) hρ hrow
              have hlv : (parts.toList.map fun p => ρ p.2).length = (as.map ev).length := by simpa using q2
              have hk : ∀ a ∈ as.map ev, a.cells.length = i.size ∧ a.fine = true := fun a ha => by simpa using hall a ha
              have hkv : ∀ v ∈ parts.toList.map fun p => ρ p.2, v.cells.size = i.size := fun v hv => by
                obtain ⟨j, hj, rfl⟩ := List.getElem_of_mem hv
                have hja : j < (as.map ev).length := by rw [← hlv]; exact hj
                have hm := hk _ (List.getElem_mem hja)
                rw [((q3 j _ _ (List.getElem?_eq_getElem hj) (List.getElem?_eq_getElem hja)).cells (fine_or hm.2)).1]
                exact hm.1
              have hps : (parts.map fun (p : Nat × Operand) => (p.1, ρ p.2)).toList = ((parts.toList.map fun p => ρ p.2).zipIdx 0).map fun p => (p.2, p.1) := by
                rw [← q1]; simp
              have hlen2 : (parts.toList.map fun p => ρ p.2).length = len := by rw [hlen]; simp
              have hasl : as.length = len := by rw [← q2, hlen]; simp
              have hmax : as.length ≤ maxLen := Nat.le_trans hmx (by simp [maxLen])
              obtain ⟨cs, g1, g2, g3⟩ := bsl_go (P := P) (w := w) ht hi hz hkv (by rw [hlen2, ← hasl]; exact hbig) hps
              have hrun := bsl_run (e := e) (k := i.size) h hne hlv q3 hk (by simpa using hmax) (by rw [g2, hlv]) g3
              rw [hlen2] at g1
              rw [List.length_map, hasl] at hrun
              rw [hasl]
              exact good_v (s := Instr.buildSlice t len (parts.map fun (p : Nat × Operand) => (p.1, ρ p.2))) g1 hrun
            · cases he
          · cases hc
        · cases hc
      · cases hc
    · cases hc
  | load t x =>
    simp only [copOp] at hc
    split at hc
    · rename_i i d a hi hd ha
      cases hc
      obtain ⟨e1, rfl⟩ := map_pair he
      obtain ⟨y, g1, g2⟩ := load_run h (hρ _ _ _ ha) hi hd e1
      exact good_v (s := Instr.loadAt t (ρ x)) g1 (Out.same h g2)
    · cases hc
  | store t x v =>
    simp only [copOp] at hc
    split at hc
    · rename_i i a b hi ha hb
      cases hc
      simp only [eff] at he
      cases hst : storeA H i.size (ev a) (ev b) with
      | none => simp [hst] at he
      | some H1 =>
        simp [hst] at he
        obtain ⟨rfl, rfl⟩ := he
        obtain ⟨w', F', O', g1, g2, g3, g4⟩ := store_run h (hρ _ _ _ ha) (hρ _ _ _ hb) hi hst
        exact ⟨.skip, w', by simp [execOp, g1], undef, .inr ⟨rfl, rfl⟩, F', O', .p (.tup [] [] rfl fun i c a hc => by simp at hc), g2, g3, g4⟩
    · cases hc
  | nilCheck x =>
    simp only [copOp] at hc
    split at hc
    · rename_i a ha
      cases hc
      obtain ⟨e1, rfl⟩ := map_pair he
      obtain ⟨rfl, hx⟩ := nilB_ok h (hρ _ _ _ ha) e1
      have hv := hρ _ _ _ ha
      rcases hx with ⟨ad, hx⟩ | ⟨nm, t, v, hx, hn⟩
      · exact ⟨.value (ρ x), w, by simp [execOp, hx], _, .inl rfl, Out.same h hv⟩
      · refine ⟨.value (ρ x), w, ?_, _, .inl rfl, Out.same h hv⟩
        simp [execOp, hx, run_nah hn, program, Sem.run, Sem.run_bind]
    · cases hc
  | binOp op t x y u =>
    simp only [copOp] at hc
    split at hc
    · rename_i a b ha hb
      split at hc
      · rename_i ng ks hng hks
        cases hc
        obtain ⟨e1, rfl⟩ := map_pair he
        obtain ⟨z, g1, g2⟩ := eqs_ok (w := w) (xo := x) (yo := y) hng hks (hρ _ _ _ ha) (hρ _ _ _ hb) e1
        exact good_v (s := (do eqGuard op t x y (ρ x) (ρ y); binOp op t (ρ x) (ρ y))) g1 (Out.same h g2)
      cases hc
      obtain ⟨e1, rfl⟩ := map_pair he
      obtain ⟨z, g1, g2⟩ := bin_ok h (fun hp => by
        split at hp
        · rename_i e ht; exact ⟨e, ht⟩
        · cases hp) (hρ _ _ _ ha) (hρ _ _ _ hb) e1
      exact good_v (s := (do eqGuard op t x y (ρ x) (ρ y); binOp op t (ρ x) (ρ y))) g1 (Out.same h g2)
    · cases hc
  | unOp op t x =>
    simp only [copOp] at hc
    split at hc
    · rename_i a ha
      cases hc
      obtain ⟨e1, rfl⟩ := map_pair he
      obtain ⟨z, g1, g2⟩ := ap1_ok (f := fun v => Op.unary op v) h (hρ _ _ _ ha) e1
      exact good_v (s := Op.unary op (ρ x)) g1 (Out.same h g2)
    · cases hc
  | convert sc d x =>
    simp only [copOp] at hc
    split at hc
    · rename_i e ht hd
      split at hc
      · rename_i hte
        split at hc
        · rename_i a ha
          cases hc
          obtain ⟨e1, rfl⟩ := map_pair he
          obtain ⟨z, g1, g2⟩ := sob_run (P := P) h (hρ _ _ _ ha) e1
          have g3 : (convert sc d (ρ x)).run P w = .ok z w := by
            have hxs : ∃ A n c, ρ x = .slice A n c := by
              unfold Conv.bytesToString at g1
              split at g1
              · exact ⟨_, _, _, by assumption⟩
              · exact ⟨_, _, _, by assumption⟩
              · simp at g1
            obtain ⟨A, n, c, hxe⟩ := hxs
            rw [hxe] at g1 ⊢
            cases A <;> simpa [convert, run_underlying ht, run_underlying hd, run_underlying hte] using g1
          exact good_v (s := convert sc d (ρ x)) g3 (Out.same h g2)
        · cases hc
      · cases hc
    · rename_i t hs hd
      split at hc
      · rename_i j a hj ha
        split at hc
        · rename_i hsz
          cases hc
          obtain ⟨e1, rfl⟩ := map_pair he
          obtain ⟨z, g1, g2⟩ := cup_run (P := P) h (hρ _ _ _ ha) hs hd hj hsz e1
          exact good_v (s := convert sc d (ρ x)) g1 (Out.same h g2)
        · cases hc
      · cases hc
    · rename_i u hs hd
      split at hc
      · rename_i j a hj ha
        cases hc
        obtain ⟨e1, rfl⟩ := map_pair he
        obtain ⟨z, g1, g2⟩ := cpu_run (P := P) h (hρ _ _ _ ha) hs hd hj e1
        exact good_v (s := convert sc d (ρ x)) g1 (Out.same h g2)
      · cases hc
    split at hc
    · rename_i a ha
      cases hc
      obtain ⟨e1, rfl⟩ := map_pair he
      obtain ⟨z, g1, g2⟩ := ap1_ok (f := fun v => convert sc d v) h (hρ _ _ _ ha) e1
      exact good_v (s := convert sc d (ρ x)) g1 (Out.same h g2)
    · cases hc
  | makeSlice t l c =>
    simp only [copOp] at hc
    split at hc
    · rename_i e ht
      split at hc
      · rename_i i l' c' hi hl hcc
        obtain ⟨hne, hi⟩ := infoE_ok hi
        split at hc
        · rename_i z hz
          split at hc
          · rename_i za hza
            split at hc
            · rename_i hcond
              cases hc
              simp only [eff] at he
              split at he
              · rename_i ln cn hln hcn
                split at he
                · rename_i hb
                  obtain ⟨b0, b1, b2, b3⟩ := hb
                  cases he
                  obtain ⟨kl, el⟩ := int_ok (hρ _ _ _ hl) hln
                  obtain ⟨kc, ec⟩ := int_ok (hρ _ _ _ hcc) hcn
                  have hzv := (avVal_ok hza F O).1
                  have hzs : z.cells.size = i.size := by rw [(hzv.cells (fine_or hcond.2)).1]; exact hcond.1
                  obtain ⟨cs, g1, g2, g3⟩ := mks_go (P := P) (w := w) (kl := kl) (kc := kc) ht hi hz hzs b0 b1 b2 b3
                  rw [← el, ← ec] at g1
                  exact good_v (s := Instr.makeSlice t (ρ l) (ρ c)) g1 (mks_run h hne hzv hcond.1 hcond.2 (by omega) b3 g2 g3)
                · cases he
              · cases he
            · cases hc
          · cases hc
        · cases hc
      · cases hc
    · cases hc
  | slice t x lo hi mx =>
    cases mx with
    | some m => simp [copOp] at hc
    | none =>
      simp only [copOp] at hc
      have isStr : ∀ {a : AV} {s : ByteArray}, VR F O (ρ x) a → a = .v (.string s) → ρ x = .string s := fun {a s} hv e => by
        subst e
        have := hv.pvC rfl
        generalize ρ x = q at this
        cases this; rfl
      split at hc
      · rename_i ht
        split at hc
        · rename_i a l hh ha hl hhi
          cases hc
          simp only [eff] at he
          have hv := hρ _ _ _ ha
          have hlo := cxo_ok (F := F) (O := O) hρ hl
          have hho := cxo_ok (F := F) (O := O) hρ hhi
          split at he
          · rename_i s hs
            split at he
            · cases he
            · cases he
            · rename_i n1 n2
              split at he
              · rename_i v hpr
                obtain ⟨e1, rfl⟩ := map_pair he
                have hx := isStr hv hs
                have c1 := opt_conc hlo (fun e => n1 e)
                have c2 := opt_conc hho (fun e => n2 e)
                rw [← c1, ← c2] at hpr
                refine good_v (s := Instr.sliceAt t (ρ x) (lo.map ρ) (hi.map ρ) none) (x := v) ?_ (Out.same h (ofVal_ok e1))
                rw [hx]
                exact pureRun_ok _ hpr w
              · cases he
          · cases he
        · cases hc
      · rename_i e ht
        split at hc
        · rename_i i a l hh hi' ha hl hhi
          cases hc
          simp only [eff] at he
          have hv := hρ _ _ _ ha
          have hlo := cxo_ok (F := F) (O := O) hρ hl
          have hho := cxo_ok (F := F) (O := O) hρ hhi
          split at he
          · cases he
          · cases he
          · rename_i n1 n2
            obtain ⟨y, g1, g2⟩ := slice_run (P := P) h ht hi' hv (opt_int hlo (fun e => n1 e)) (opt_int hho (fun e => n2 e)) he
            exact good_v (s := Instr.sliceAt t (ρ x) (lo.map ρ) (hi.map ρ) none) g1 g2
        · cases hc
      · rename_i n e ht
        split at hc
        · rename_i i a l hh hi' ha hl hhi
          split at hc
          · rename_i hs1
            cases hc
            simp only [eff, slaE] at he
            have hv := hρ _ _ _ ha
            have hlo := cxo_ok (F := F) (O := O) hρ hl
            have hho := cxo_ok (F := F) (O := O) hρ hhi
            split at he
            · cases he
            · cases he
            · rename_i n1 n2
              obtain ⟨y, g1, g2⟩ := sla_run (P := P) h ht hi' hs1 hv (opt_int hlo (fun e => n1 e)) (opt_int hho (fun e => n2 e)) he
              exact good_v (s := Instr.sliceAt t (ρ x) (lo.map ρ) (hi.map ρ) none) g1 g2
          · cases hc
        · cases hc
      · cases hc
  | fieldAddr sx x f =>
    simp only [copOp] at hc
    split at hc
    · rename_i fs ht
      split at hc
      · rename_i fd hfd
        split at hc
        · rename_i fi a hfi ha
          split at hc
          · cases hc
          · rename_i hsz
            cases hc
            obtain ⟨e1, rfl⟩ := map_pair he
            obtain ⟨ad, hx, hsp, hv⟩ := move_ok h (hρ _ _ _ ha) e1
            refine good_v (s := Instr.fieldAt sx (ρ x) f) (x := .pointer (some (ad.add fd.offset))) ?_ (Out.same h hv)
            rw [hx]
            simp only [Instr.fieldAt, Sem.run_bind, run_underlying ht, Result.andThen_ok, hfd, Instr.sureAddr, Sem.run_pure, fieldPlace, run_size hfi, hsz, if_false]
        · cases hc
      · cases hc
    · cases hc
  | field t x f =>
    simp only [copOp] at hc
    split at hc
    · rename_i fs ht
      split at hc
      · rename_i fd hfd
        split at hc
        · rename_i fi d a hfi hd ha
          cases hc
          obtain ⟨e1, rfl⟩ := map_pair he
          obtain ⟨cs, hx, y, g1, g2⟩ := part_ok (w := w) hfi hd (hρ _ _ _ ha) e1
          refine good_v (s := Instr.field t (ρ x) f) (x := y) ?_ (Out.same h g2)
          rw [hx]
          simp only [Instr.field, Sem.run_bind, run_underlying ht, Result.andThen_ok, hfd, asAgg, Sem.run_pure]
          exact g1
        · cases hc
      · cases hc
    · cases hc
  | indexAddr t x i =>
    simp only [copOp] at hc
    split at hc
    · rename_i e ht
      split at hc
      · rename_i ei a b hei ha hb
        cases hc
        simp only [eff] at he
        split at he
        · rename_i ix hix
          obtain ⟨e1, rfl⟩ := map_pair he
          obtain ⟨kk, hi⟩ := int_ok (hρ _ _ _ hb) hix
          obtain ⟨ad, n, c, hx, h0, h1, hv⟩ := elem_ok h (hρ _ _ _ ha) e1
          refine good_v (s := Instr.indexAt t (ρ x) (ρ i)) ?_ (Out.same h hv)
          rw [hx, hi]
          exact iad_run ht hei h0 h1
        · cases he
      · cases hc
    · rename_i len e ht
      split at hc
      · rename_i ei a b hei ha hb
        cases hc
        simp only [eff] at he
        split at he
        · rename_i ix hix
          split at he
          · rename_i hb2
            obtain ⟨e1, rfl⟩ := map_pair he
            obtain ⟨kk, hi⟩ := int_ok (hρ _ _ _ hb) hix
            obtain ⟨ad, hx, hsp, hv⟩ := move_ok h (hρ _ _ _ ha) e1
            refine good_v (s := Instr.indexAt t (ρ x) (ρ i)) ?_ (Out.same h hv)
            rw [hx, hi]
            exact iaa_run ht hei hb2.1 hb2.2
          · cases he
        · cases he
      · cases hc
    · cases hc
  | index t x i =>
    simp only [copOp] at hc
    split at hc
    · rename_i ht
      split at hc
      · rename_i a b ha hb
        cases hc
        obtain ⟨e1, rfl⟩ := map_pair he
        obtain ⟨z, g1, g2⟩ := ap2_ok (f := fun v j => Instr.index t v j) h (hρ _ _ _ ha) (hρ _ _ _ hb) e1
        exact good_v (s := Instr.index t (ρ x) (ρ i)) g1 (Out.same h g2)
      · cases hc
    · rename_i len e ht
      split at hc
      · rename_i ei d a b hei hd ha hb
        cases hc
        simp only [eff] at he
        split at he
        · rename_i ix hix
          split at he
          · rename_i hb2
            obtain ⟨e1, rfl⟩ := map_pair he
            obtain ⟨kk, hi⟩ := int_ok (hρ _ _ _ hb) hix
            obtain ⟨cs, hx, y, g1, g2⟩ := part_ok (w := w) hei hd (hρ _ _ _ ha) e1
            refine good_v (s := Instr.index t (ρ x) (ρ i)) (x := y) ?_ (Out.same h g2)
            rw [hx, hi]
            exact idx_part ht hei hb2.1 hb2.2 g1
          · cases he
        · cases he
      · cases hc
    · cases hc
  | extract x i =>
    simp only [copOp] at hc
    split at hc
    · rename_i a ha
      cases hc
      simp only [eff] at he
      split at he
      · rename_i cs hcs
        obtain ⟨e1, rfl⟩ := map_pair he
        have hv := hρ _ _ _ ha
        rw [hcs] at hv
        obtain ⟨xs, hx, hl, hp⟩ : ∃ xs : List Value, ρ x = .tuple xs.toArray ∧ xs.length = cs.length ∧ ∀ (i : Nat) (c : Value) (a : AV), xs[i]? = some c → cs[i]? = some a → VR F O c a := by
          generalize ρ x = q at hv
          cases hv with
          | p h => cases h with
            | tup xs as hl h => exact ⟨xs, rfl, hl, fun i c a hc ha => .p (h i c a hc ha)⟩
          | tup xs as hl h => exact ⟨xs, rfl, hl, h⟩
        have hlt : i < xs.length := by rw [hl]; exact (List.getElem?_eq_some_iff.1 e1).1
        refine good_v (s := Instr.extract (ρ x) i) (x := xs[i]) ?_ (Out.same h (hp i _ _ (List.getElem?_eq_getElem hlt) e1))
        rw [hx]
        simp [Instr.extract, hlt]
      · cases he
    · cases hc
  | makeFunc fn first cap =>
    cases fn with
    | func f =>
      simp only [copOp] at hc
      split at hc
      · rename_i h0
        split at hc
        · rename_i as has
          cases hc
          cases he
          obtain ⟨q1, q2⟩ := cxs_ok (F := F) (O := O) hρ has (by simp)
          have hf : first.map ρ = #[] := by apply Array.ext'; simp [Array.eq_empty_of_size_eq_zero h0]
          refine ⟨.value (.func (.func f) (first.map ρ) (cap.map ρ)), w, by simp [execOp, Instr.makeFunc], _, .inl rfl, Out.same h ?_⟩
          rw [hf]
          have ea : cap.map ρ = (cap.toList.map ρ).toArray := by apply Array.ext'; simp
          rw [ea]
          exact .fn f _ _ q1 q2
        · cases hc
      · split at hc
        · rename_i x hx0 hc0
          split at hc
          · rename_i a ha
            cases hc
            obtain ⟨e1, rfl⟩ := map_pair he
            have ef : first.map ρ = #[ρ x] := by apply Array.ext'; simp [hx0]
            have ec : cap.map ρ = #[] := by apply Array.ext'; simp [Array.eq_empty_of_size_eq_zero hc0]
            refine ⟨.value (.func (.func f) (first.map ρ) (cap.map ρ)), w, by simp [execOp, Instr.makeFunc], _, .inl rfl, Out.same h ?_⟩
            rw [ef, ec]
            exact mkb_ok (hρ _ _ _ ha) e1
          · cases hc
        · cases hc
    | method nm =>
      simp only [copOp] at hc
      split at hc
      · rename_i x hx0 hc0
        split at hc
        · rename_i a ha
          cases hc
          obtain ⟨e1, rfl⟩ := map_pair he
          have ef : first.map ρ = #[ρ x] := by apply Array.ext'; simp [hx0]
          have ec : cap.map ρ = #[] := by apply Array.ext'; simp [Array.eq_empty_of_size_eq_zero hc0]
          refine ⟨.value (.func (.method nm) (first.map ρ) (cap.map ρ)), w, by simp [execOp, Instr.makeFunc], _, .inl rfl, Out.same h ?_⟩
          rw [ef, ec]
          exact mk2_ok (hρ _ _ _ ha) e1
        · cases hc
      · cases hc
    | _ => simp [copOp] at hc
  | call c =>
    obtain ⟨callee, args, ats⟩ := c
    simp only [copOp] at hc
    split at hc
    · split at hc
      · split at hc
        · cases hc; cases he
        · cases hc
      · cases hc
    · rename_i f
      split at hc
      · split at hc
        · split at hc
          · split at hc
            · cases hc; cases he
            · split at hc <;> (cases hc; cases he)
          · cases hc
        · cases hc
      · split at hc
        · rename_i hne
          split at hc
          · rename_i t x hts hxs
            split at hc
            · rename_i a ha
              cases hc
              cases he
              have ea : args = #[x] := by apply Array.ext'; simpa using hxs
              subst ea
              have g1 := noEsc_run hne (ρ x) w
              have hf : ρ (.func f) = .func (.func f) #[] #[] := by
                have hv := hρ 0 (.func f) (.c (.v (.func (.func f) #[] #[]))) rfl
                rw [hcv] at hv
                generalize ρ (.func f) = q at hv
                cases hv with
                | p h => cases h; rfl
              exact ⟨.value (ρ x), w, by simp [execOp, resolve, invoke, hf, Deferred.ofValue, g1], ρ x, .inl rfl, Out.same h (hρ _ _ _ ha)⟩
            · cases hc
          · cases hc
        · cases hc
    · split at hc
      · rename_i t u s x hts hxs
        split at hc
        · rename_i htu
          subst htu
          split at hc
          · rename_i e ht
            split at hc
            · rename_i i a b hi ha hb
              obtain ⟨hne, hi⟩ := infoE_ok hi
              split at hc
              · rename_i z hz
                split at hc
                · rename_i hcond
                  cases hc
                  obtain ⟨y, w', g1, g2⟩ := app_run (P := P) (ty := type) h hne (hρ _ _ _ ha) (hρ _ _ _ hb) ht hi hz rfl rfl hcond.1 hcond.2 he
                  have ea : args = #[s, x] := by apply Array.ext'; simpa using hxs
                  have et : ats = #[t, t] := by apply Array.ext'; simpa using hts
                  subst ea
                  subst et
                  exact ⟨.value y, w', by simp [execOp, resolve, invoke, builtin, g1], y, .inl rfl, g2⟩
                · cases hc
              · cases hc
            · cases hc
          · cases hc
        · split at hc
          · rename_i e kn ht htn
            split at hc
            · rename_i i a b hi ha hb
              obtain ⟨hne, hi⟩ := infoE_ok hi
              split at hc
              · rename_i z hz
                split at hc
                · rename_i za hza
                  split at hc
                  · rename_i hcond
                    cases hc
                    simp only [eff] at he
                    split at he
                    · rename_i k' m hs hm
                      split at he
                      · rename_i hb2
                        cases he
                        have hv := hρ _ _ _ ha
                        rw [hs] at hv
                        have hsv : ρ s = .slice none 0 0 := by
                          generalize ρ s = q at hv
                          cases hv with
                          | p h => cases h
                          | nl => rfl
                        obtain ⟨kx, ex⟩ := int_ok (hρ _ _ _ hb) hm
                        obtain ⟨y, w', g1, g2⟩ := apz_run (P := P) (ty := type) (k := kx) h hne (avVal_ok hza F O).1 ht htn hi hz hcond.1 hcond.2.1 hcond.2.2 hb2.1 hb2.2.1 hb2.2.2
                        have ea : args = #[s, x] := by apply Array.ext'; simpa using hxs
                        have et : ats = #[t, u] := by apply Array.ext'; simpa using hts
                        subst ea
                        subst et
                        exact ⟨.value y, w', by simp [execOp, resolve, invoke, builtin, hsv, ex, g1], y, .inl rfl, g2⟩
                      · cases he
                    · cases he
                  · cases hc
                · cases hc
              · cases hc
            · cases hc
          · rename_i e ht htn
            split at hc
            · rename_i i a b hi ha hb
              obtain ⟨hne, hi⟩ := infoE_ok hi
              split at hc
              · rename_i z hz
                split at hc
                · rename_i hcond
                  cases hc
                  simp only [eff] at he
                  obtain ⟨y, w', g1, g2⟩ := aps_run (P := P) (ty := type) h hne (hρ _ _ _ ha) (hρ _ _ _ hb) ht htn hi hz hcond.2 rfl hcond.1 he
                  have ea : args = #[s, x] := by apply Array.ext'; simpa using hxs
                  have et : ats = #[t, u] := by apply Array.ext'; simpa using hts
                  subst ea
                  subst et
                  exact ⟨.value y, w', by simp [execOp, resolve, invoke, builtin, g1], y, .inl rfl, g2⟩
                · cases hc
              · cases hc
            · cases hc
          · cases hc
      · cases hc
    · split at hc
      · rename_i t u d x hts hxs
        split at hc
        · rename_i htu
          subst htu
          split at hc
          · rename_i e ht
            split at hc
            · rename_i i a b hi ha hb
              split at hc
              · rename_i hsz
                cases hc
                obtain ⟨y, w', g1, g2⟩ := cpy_run (P := P) (ty := type) h (hρ _ _ _ ha) (hρ _ _ _ hb) ht hi rfl hsz he
                have ea : args = #[d, x] := by apply Array.ext'; simpa using hxs
                have et : ats = #[t, t] := by apply Array.ext'; simpa using hts
                subst ea
                subst et
                exact ⟨.value y, w', by simp [execOp, resolve, invoke, builtin, g1], y, .inl rfl, g2⟩
              · cases hc
            · cases hc
          · cases hc
        · cases hc
      · cases hc
    · split at hc
      · rename_i t x hts hxs
        split at hc
        · rename_i a ha
          cases hc
          obtain ⟨e1, rfl⟩ := map_pair he
          have ea : args = #[x] := by apply Array.ext'; simpa using hxs
          have et : ats = #[t] := by apply Array.ext'; simpa using hts
          subst ea
          subst et
          obtain ⟨y, g1, g2⟩ := usd_run (P := P) h (hρ _ _ _ ha) e1 #[t] type
          exact ⟨.value y, w, by simp [execOp, resolve, invoke, builtin, g1], y, .inl rfl, Out.same h g2⟩
        · cases hc
      · cases hc
    · split at hc
      · rename_i t u x n hts hxs
        split at hc
        · rename_i e ht
          split at hc
          · rename_i a b ha hb
            split at hc
            · rename_i hc1
              cases hc
              obtain ⟨y, w', g1, g2⟩ := ust_run (P := P) (it := u) (ty := type) h (hρ _ _ _ ha) (hρ _ _ _ hb) ht hc1 he
              have ea : args = #[x, n] := by apply Array.ext'; simpa using hxs
              have et : ats = #[t, u] := by apply Array.ext'; simpa using hts
              subst ea
              subst et
              exact ⟨.value y, w', by simp [execOp, resolve, invoke, builtin, g1], y, .inl rfl, g2⟩
            · cases hc
          · cases hc
        · cases hc
      · cases hc
    · split at hc
      · rename_i t x hts hxs
        split at hc
        · rename_i e ht
          split at hc
          · rename_i i a hi ha
            split at hc
            · rename_i z hz
              split at hc
              · rename_i za hza
                split at hc
                · rename_i hcond
                  cases hc
                  simp only [eff] at he
                  cases hm : clrA i.size za H (ev a) with
                  | none => rw [hm] at he; cases he
                  | some H2 =>
                    rw [hm] at he
                    cases he
                    obtain ⟨w', F', O', g1, g2, g3, g4⟩ := clr_run (P := P) (ty := type) h (hρ _ _ _ ha) (avVal_ok hza F O).1 ht (infoE_ok hi).2 hz hcond.1 hcond.2.1 hcond.2.2 hm
                    have ea : args = #[x] := by apply Array.ext'; simpa using hxs
                    have et : ats = #[t] := by apply Array.ext'; simpa using hts
                    subst ea
                    subst et
                    exact ⟨.value (.tuple #[]), w', by simp [execOp, resolve, invoke, builtin, g1], _, .inl rfl, F', O', .p (.tup [] [] rfl fun i c a hc => by simp at hc), g2, g3, g4⟩
                · cases hc
              · cases hc
            · cases hc
          · cases hc
        · cases hc
      · cases hc
    · split at hc
      · rename_i t kt' x ix hts hxs
        have ea : args = #[x, ix] := by apply Array.ext'; simpa using hxs
        have et : ats = #[t, kt'] := by apply Array.ext'; simpa using hts
        subst ea
        subst et
        split at hc
        · rename_i k e ht
          split at hc
          · rename_i kd a b hk ha hb
            cases hc
            simp only [eff] at he
            cases hm : mdlA H kd (ev a) (ev b) with
            | none => rw [hm] at he; cases he
            | some H2 =>
              rw [hm] at he
              cases he
              obtain ⟨w', F', O', g1, g2, g3, g4⟩ := mdl_run (kt' := kt') (ty := type) h (hρ _ _ _ ha) (hρ _ _ _ hb) ht hk hm
              exact ⟨.value (.tuple #[]), w', by simp [execOp, resolve, invoke, builtin, g1], _, .inl rfl, F', O', .p (.tup [] [] rfl fun i c a hc => by simp at hc), g2, g3, g4⟩
          · cases hc
        · cases hc
      · cases hc
    · split at hc
      · rename_i t x hts hxs
        have ea : args = #[x] := by apply Array.ext'; simpa using hxs
        have et : ats = #[t] := by apply Array.ext'; simpa using hts
        subst ea
        subst et
        split at hc
        · rename_i a ht ha
          cases hc
          simp only [eff] at he
          split at he
          · rename_i s hs
            cases he
            have hv := (hρ _ _ _ ha)
            rw [hs] at hv
            have hv := hv.pvC rfl
            have hx : ρ x = .string s := by generalize ρ x = q at hv; cases hv; rfl
            exact ⟨.value (.int .i64 s.size), w, by simp [execOp, resolve, invoke, builtin, Builtin.len_, run_underlying ht, hx, goInt], _, .inl rfl, Out.same h (.p (.v _ rfl))⟩
          · cases he
        · rename_i e a ht ha
          cases hc
          simp only [eff] at he
          cases hl : lenA H (ev a) with
          | none => simp [hl] at he
          | some n =>
            simp [hl] at he
            obtain ⟨rfl, rfl⟩ := he
            obtain ⟨A, c, hx⟩ := len_ok h (hρ _ _ _ ha) hl
            exact ⟨.value (.int .i64 n), w, by simp [execOp, resolve, invoke, builtin, Builtin.len_, run_underlying ht, hx, goInt], _, .inl rfl, Out.same h (.p (.v _ rfl))⟩
        · rename_i k0 e0 a ht ha
          cases hc
          simp only [eff] at he
          cases hl : lnmA H (ev a) with
          | none => simp [hl] at he
          | some n =>
            simp [hl] at he
            obtain ⟨rfl, rfl⟩ := he
            have hlen := lnm_run (ty := type) h (hρ _ _ _ ha) ht hl
            exact ⟨.value (.int .i64 n), w, by simp [execOp, resolve, invoke, builtin, hlen], _, .inl rfl, Out.same h (.p (.v _ rfl))⟩
        · cases hc
      · cases hc
    · rename_i b n1 n2
      split at hc
      · rename_i as has
        split at hc
        · rename_i hsz
          cases hc
          simp only [eff] at he
          split at he
          · rename_i vs hvs
            split at he
            · rename_i v hpr
              obtain ⟨e1, rfl⟩ := map_pair he
              obtain ⟨q1, q2⟩ := cxs_ok (F := F) (O := O) hρ has (by simpa using hsz)
              have := concs_ok hvs q1 q2
              have ea : args.map ρ = vs.toArray := by apply Array.ext'; simpa using this
              refine ⟨.value v, w, ?_, v, .inl rfl, Out.same h (ofVal_ok e1)⟩
              have := pureRun_ok _ hpr w
              simp only [execOp, resolve, Sem.run_bind, Sem.run_pure, Result.andThen_ok, invoke, ea]
              exact this
            · cases he
          · cases he
        · cases hc
      · cases hc
    · split at hc
      · split at hc
        · cases hc
          cases he
        · cases hc
      · cases hc
    · cases hc
  | makeMap t r0 =>
    cases r0 with
    | some x => simp [copOp] at hc
    | none =>
      simp only [copOp] at hc
      split at hc
      · rename_i k e ht
        obtain ⟨ag, m, rfl⟩ : ∃ ag m, op = .mkm ag m := by
          split at hc
          · cases hc; exact ⟨_, _, rfl⟩
          · cases hc; exact ⟨_, _, rfl⟩
          · cases hc
        cases he
        exact ⟨_, _, by simp only [execOp, Option.map_none, Instr.makeMap, Sem.run_bind, Result.andThen_ok, newObj]; rfl, _, .inl rfl, mkm_run h ag m⟩
      · cases hc
  | lookup t x i c =>
    simp only [copOp] at hc
    split at hc
    · rename_i k e ht
      split at hc
      · rename_i kd inf a b hk hi ha hb
        split at hc
        · rename_i z hz
          split at hc
          · rename_i za hza
            cases hc
            obtain ⟨e1, rfl⟩ := map_pair he
            obtain ⟨u, g1, g2⟩ := lkp_run h (hρ _ _ _ ha) (hρ _ _ _ hb) (avVal_ok hza F O).1 ht hk hi hz e1
            exact good_v (s := Instr.lookup t (ρ x) (ρ i) c) g1 (Out.same h g2)
          · cases hc
        · cases hc
      · cases hc
    · cases hc
  | range t x =>
    simp only [copOp] at hc
    split at hc
    · rename_i k e ht
      split at hc
      · rename_i a ha
        cases hc
        obtain ⟨u, w', g1, g2⟩ := rgm_run h (hρ _ _ _ ha) ht he
        exact ⟨.value u, w', by simp [execOp, g1], _, .inl rfl, g2⟩
      · cases hc
    · cases hc
  | next x b =>
    cases b with
    | true => simp [copOp] at hc
    | false =>
      simp only [copOp] at hc
      split at hc
      · rename_i a ha
        cases hc
        simp only [eff] at he
        split at he
        · rename_i p hp
          cases he
          obtain ⟨u, w', p', hm, g1, g2⟩ := nxm_run (P := P) h (hρ _ _ _ ha) type hp
          obtain rfl : p' = _ := by simpa using hm
          exact ⟨.value u, w', by simp [execOp, g1], _, .inl rfl, g2⟩
        · cases he
      · cases hc
  | entry x =>
    simp only [copOp] at hc
    split at hc
    · rename_i a ha
      cases hc
      obtain ⟨e1, rfl⟩ := map_pair he
      obtain ⟨u, g1, g2⟩ := ent_run (P := P) h (hρ _ _ _ ha) e1
      exact ⟨.value u, w, by simp [execOp, g1], _, .inl rfl, Out.same h g2⟩
    · cases hc
  | mapUpdate t x i v =>
    simp only [copOp] at hc
    split at hc
    · rename_i k e ht
      split at hc
      · rename_i kd a b c hk ha hb hcv'
        cases hc
        simp only [eff] at he
        cases hm : mupA H kd (ev a) (ev b) (ev c) with
        | none => rw [hm] at he; cases he
        | some H2 =>
          rw [hm] at he
          cases he
          obtain ⟨w', F', O', g1, g2, g3, g4⟩ := mup_run h (hρ _ _ _ ha) (hρ _ _ _ hb) (hρ _ _ _ hcv') ht hk hm
          exact ⟨.skip, w', by simp [execOp, g1], undef, .inr ⟨rfl, rfl⟩, F', O', .p (.tup [] [] rfl fun i c a hc => by simp at hc), g2, g3, g4⟩
      · cases hc
    · cases hc
  | makeInterface t x =>
    simp only [copOp] at hc
    split at hc
    · rename_i el ht
      split at hc
      · rename_i a ha
        cases hc
        obtain ⟨e1, rfl⟩ := map_pair he
        exact ⟨.value (.iface t (ρ x)), w, by simp [execOp, Instr.makeInterface, run_underlying ht], _, .inl rfl, Out.same h (mki_ok h (hρ _ _ _ ha) e1)⟩
      · cases hc
    · rename_i ps rs vd ht
      split at hc
      · rename_i a ha
        cases hc
        obtain ⟨e1, rfl⟩ := map_pair he
        exact ⟨.value (.iface t (ρ x)), w, by simp [execOp, Instr.makeInterface, run_underlying ht], _, .inl rfl, Out.same h (mki_ok h (hρ _ _ _ ha) e1)⟩
      · cases hc
    · cases hc
  | _ => simp [copOp] at hc
theorem slo_ok {hs : List FuncId} {o : Oper} {k : Nat} {ax al : AX} (hc : copOp P hs o = some (.slc k ax (some al) none)) {ρ : Operand → Value} {ev : AX → AV} (hρ : ∀ (ty : TypeId) (x : Operand) (ax : AX), cx P ty x = some ax → VR F O (ρ x) (ev ax))
    (h : Own B w0 F0 F O H w) {r : AV} {H' : Hp} (he : eff P ev H (.slo k ax al) = some (r, H')) : Good P B w0 F0 F O w (execOp ρ o) r H' := by
  obtain ⟨dst, op', type, pos, after, guard⟩ := o
  cases op' with
  | slice t x lo hi mx =>
    cases mx with
    | some m => simp [copOp] at hc
    | none =>
    simp only [copOp] at hc
    split at hc
    · split at hc <;> cases hc
    · rename_i e ht
      split at hc
      · rename_i i a l hh hi' ha hl hhi
        cases hc
        have hv := hρ _ _ _ ha
        have hlo := cxo_ok (F := F) (O := O) hρ hl
        have hho := cxo_ok (F := F) (O := O) hρ hhi
        simp only [eff] at he
        split at he
        · rename_i ix hix
          obtain ⟨e1, rfl⟩ := map_pair he
          have q1 := opt_int hlo (by simp [hix])
          have q2 := opt_int hho (by simp)
          simp only [Option.map_some, hix, Option.bind_some, id_eq] at q1
          rcases q1 with ⟨_, q⟩ | ⟨kd, i', q, q'⟩
          · cases q
          rcases q2 with ⟨q2, _⟩ | ⟨_, _, _, q2⟩
          · cases q'
            obtain ⟨y, g1, g2⟩ := slo_run (P := P) h ht hi' hv (kd := kd) e1
            refine good_v (s := Instr.sliceAt t (ρ x) (lo.map ρ) (hi.map ρ) none) (x := y) ?_ (Out.same h g2)
            rw [q, q2]
            exact g1
          · simp at q2
        · cases he
      · cases hc
    · split at hc
      · split at hc <;> cases hc
      · cases hc
    · cases hc
  | _ =>
    exfalso
    simp only [copOp] at hc
    repeat' (first | (cases hc; done) | split at hc)
    all_goals (first | contradiction | (simp_all; done))
end
end Go.Proofs.YtgcnbbjapapnjaaDoor.Sim
