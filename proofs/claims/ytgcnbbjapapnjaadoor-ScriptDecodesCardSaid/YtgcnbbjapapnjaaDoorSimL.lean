/- Regions whose order is drawn: every order does the same. -/
import Derived.Test.YtgcnbbjapapnjaaDoorSimK
namespace Go.Proofs.YtgcnbbjapapnjaaDoor.Sim
open Go.RowKit
set_option linter.unusedVariables false
set_option linter.unusedSimpArgs false
/-- The operations' marks of a row are not told apart by how far it is written no more. -/
def fzm (i n : Nat) (H : Hp) : Hp := H.modify i fun ob => { ob with fz := max ob.fz n }
def frz : Hp → List (Nat × Nat) → Hp
  | H, [] => H
  | H, (i, n) :: L => frz (fzm i n H) L
theorem fzm_at (i n : Nat) (H : Hp) (j : Nat) : (fzm i n H)[j]? = (H[j]?).map (fun ob => if i = j then { ob with fz := max ob.fz n } else ob) := by
  unfold fzm
  rw [List.getElem?_modify]
  cases H[j]? with
  | none => rfl
  | some ob => by_cases h : i = j <;> simp [h]
theorem fzm_len (i n : Nat) (H : Hp) : (fzm i n H).length = H.length := by simp [fzm]
theorem fzm_comm (i n j m : Nat) (H : Hp) : fzm i n (fzm j m H) = fzm j m (fzm i n H) := by
  apply List.ext_getElem?
  intro x
  rw [fzm_at, fzm_at, fzm_at, fzm_at]
  cases H[x]? with
  | none => rfl
  | some ob =>
    simp only [Option.map_some, Option.some.injEq]
    by_cases h1 : i = x <;> by_cases h2 : j = x <;> simp [h1, h2, Nat.max_assoc, Nat.max_comm n m]
theorem frz_len : ∀ (L : List (Nat × Nat)) (H : Hp), (frz H L).length = H.length
  | [], H => rfl
  | (i, n) :: L, H => by rw [frz, frz_len L, fzm_len]
theorem frz_fzm : ∀ (L : List (Nat × Nat)) (i n : Nat) (H : Hp), frz (fzm i n H) L = fzm i n (frz H L)
  | [], i, n, H => rfl
  | (j, m) :: L, i, n, H => by rw [frz, fzm_comm, frz_fzm L, frz]
theorem frz_comm : ∀ (L1 L2 : List (Nat × Nat)) (H : Hp), frz (frz H L1) L2 = frz (frz H L2) L1
  | [], L2, H => rfl
  | (i, n) :: L1, L2, H => by
    show frz (frz (fzm i n H) L1) L2 = frz (fzm i n (frz H L2)) L1
    rw [frz_comm L1 L2, frz_fzm L2]
theorem frz_app : ∀ (L1 L2 : List (Nat × Nat)) (H : Hp), frz H (L1 ++ L2) = frz (frz H L1) L2
  | [], L2, H => rfl
  | (i, n) :: L1, L2, H => frz_app L1 L2 (fzm i n H)
theorem frz_push : ∀ (L : List (Nat × Nat)) (H Bs : Hp), (∀ p ∈ L, p.1 < H.length) → frz (H ++ Bs) L = frz H L ++ Bs
  | [], H, Bs, _ => rfl
  | (i, n) :: L, H, Bs, h => by
    have hi : i < H.length := h (i, n) (by simp)
    have e : fzm i n (H ++ Bs) = fzm i n H ++ Bs := by
      apply List.ext_getElem?
      intro x
      rw [fzm_at]
      by_cases hx : x < H.length
      · rw [List.getElem?_append_left hx, List.getElem?_append_left (by rw [fzm_len]; exact hx), fzm_at]
      · rw [List.getElem?_append_right (by omega), List.getElem?_append_right (by rw [fzm_len]; omega), fzm_len]
        cases Bs[x - H.length]? with
        | none => rfl
        | some ob => simp [show ¬ i = x by omega]
    show frz (fzm i n (H ++ Bs)) L = frz (fzm i n H) L ++ Bs
    rw [e]
    exact frz_push L _ Bs fun p hp => by rw [fzm_len]; exact h p (by simp [hp])
/-- Below base the rows are the same, but for how far they are written no more. -/
def SimH (base : Nat) (H H2 : Hp) : Prop := ∀ i, i < base → ∃ ob ob2, H[i]? = some ob ∧ H2[i]? = some ob2 ∧ ob2 = { ob with fz := ob2.fz }
theorem SimH.refl {base : Nat} {H : Hp} (h : base ≤ H.length) : SimH base H H := fun i hi => ⟨H[i], H[i], List.getElem?_eq_getElem (by omega), List.getElem?_eq_getElem (by omega), rfl⟩
theorem SimH.symm {base : Nat} {H H2 : Hp} (h : SimH base H H2) : SimH base H2 H := fun i hi => by
  obtain ⟨ob, ob2, h1, h2, h3⟩ := h i hi
  exact ⟨ob2, ob, h2, h1, by rw [h3]⟩
theorem SimH.trans {base : Nat} {H H2 H3 : Hp} (h : SimH base H H2) (k : SimH base H2 H3) : SimH base H H3 := fun i hi => by
  obtain ⟨ob, ob2, h1, h2, h3⟩ := h i hi
  obtain ⟨ob2', ob3, k1, k2, k3⟩ := k i hi
  rw [h2] at k1
  cases k1
  exact ⟨ob, ob3, h1, k2, by rw [k3, h3]⟩
theorem SimH.fzm {base : Nat} {H : Hp} (h : base ≤ H.length) (i n : Nat) : SimH base H (fzm i n H) := fun j hj => by
  refine ⟨H[j], (if i = j then { H[j] with fz := max H[j].fz n } else H[j]), List.getElem?_eq_getElem (by omega), ?_, ?_⟩
  · rw [fzm_at, List.getElem?_eq_getElem (by omega : j < H.length)]; rfl
  · by_cases hij : i = j <;> simp [hij]
theorem SimH.frz {base : Nat} : ∀ (L : List (Nat × Nat)) {H : Hp}, base ≤ H.length → SimH base H (frz H L)
  | [], H, h => SimH.refl h
  | (i, n) :: L, H, h => (SimH.fzm h i n).trans (SimH.frz L (by rw [fzm_len]; exact h))
theorem SimH.push {base : Nat} {H : Hp} (h : base ≤ H.length) (Bs : Hp) : SimH base H (H ++ Bs) := fun i hi =>
  ⟨H[i], H[i], List.getElem?_eq_getElem (by omega), by rw [List.getElem?_append_left (by omega)]; exact List.getElem?_eq_getElem (by omega), rfl⟩
theorem SimH.le {base : Nat} {H H2 : Hp} (h : SimH base H H2) : base ≤ H.length := by
  rcases Nat.eq_zero_or_pos base with h0 | h0
  · omega
  · obtain ⟨_, _, h1, _⟩ := h (base - 1) (by omega)
    have := (List.getElem?_eq_some_iff.1 h1).1
    omega
theorem SimH.live {base : Nat} {H H2 : Hp} (h : SimH base H H2) {i g : Nat} (hi : i < base) : (∃ ob ob2, Sim.live H i g = some ob ∧ Sim.live H2 i g = some ob2 ∧ ob2 = { ob with fz := ob2.fz }) ∨ (Sim.live H i g = none ∧ Sim.live H2 i g = none) := by
  obtain ⟨ob, ob2, h1, h2, h3⟩ := h i hi
  have hg : ob2.g = ob.g := by rw [h3]
  unfold Sim.live
  rw [h1, h2]
  have he : ob2.e = ob.e := by rw [h3]
  by_cases hgg : ob.g = g
  · by_cases hm : (ob.e == 4000000000) = true
    · right; simp only [hg, he, if_pos hgg, if_pos hm, and_self]
    · left; exact ⟨ob, ob2, by simp only [if_pos hgg, if_neg hm], by simp only [hg, he, if_pos hgg, if_neg hm], h3⟩
  · right; simp [hgg, hg]
theorem SimH.liveM {base : Nat} {H H2 : Hp} (h : SimH base H H2) {i g : Nat} (hi : i < base) : (∃ ob ob2, Sim.liveM H i g = some ob ∧ Sim.liveM H2 i g = some ob2 ∧ ob2 = { ob with fz := ob2.fz }) ∨ (Sim.liveM H i g = none ∧ Sim.liveM H2 i g = none) := by
  obtain ⟨ob, ob2, h1, h2, h3⟩ := h i hi
  have hg : ob2.g = ob.g := by rw [h3]
  have he : ob2.e = ob.e := by rw [h3]
  have hk : ob2.k = ob.k := by rw [h3]
  unfold Sim.liveM
  rw [h1, h2]
  by_cases hgg : ob.g = g
  · by_cases hm : (ob.e == 4000000000 && Nat.ble 2 ob.k) = true
    · left; exact ⟨ob, ob2, by simp only [if_pos hgg, if_pos hm], by simp only [hg, he, hk, if_pos hgg, if_pos hm], h3⟩
    · right; simp only [hg, he, hk, if_pos hgg, if_neg hm, and_self]
  · right; simp [hgg, hg]
theorem eff_congr {P : Program} {ev ev' : AX → AV} {H : Hp} {op : AOp} (h : ∀ x ∈ op.xs, ev x = ev' x) : eff P ev H op = eff P ev' H op := by
  cases op <;> simp only [AOp.xs] at h <;> simp only [eff]
  case bld z ps => rw [show (ps.map fun p => (p.1, p.2.1, ev p.2.2)) = ps.map fun p => (p.1, p.2.1, ev' p.2.2) from List.map_congr_left fun p hp => by rw [h _ (List.mem_map.2 ⟨p, hp, rfl⟩)]]
  case bsl e k xs => rw [List.map_congr_left h]
  case mkf f xs => rw [List.map_congr_left h]
  case bi b ats ty cs xs => rw [List.map_congr_left h]
  case sls t x lo hi => cases lo <;> cases hi <;> simp_all
  case slc k x lo hi => cases lo <;> cases hi <;> simp_all
  case sla n x lo hi => cases lo <;> cases hi <;> simp_all
  all_goals (first | rfl | (simp_all; done))
section
variable (P : Program) (G : Nat → AV)
/-- What an operation comes to, as a relation. -/
def Eff (ev : AX → AV) (H : Hp) (op : AOp) (r : AV) (H' : Hp) : Prop :=
  match op with
  | .call f xs => ∃ as, purA H (xs.map ev) = some (as, H') ∧ PC P G f as r
  | .callh f xs => HC P G f (xs.map ev) H r H'
  | .callm f xs => ∃ Bs, (∀ H2 : Hp, (Bs ≠ [] → H2.length = H.length) → HC P G f (xs.map ev) H2 r (H2 ++ Bs)) ∧ H' = H ++ Bs
  | .callv x xs => ∃ f as, cvA H (ev x) (xs.map ev) = some (f, as) ∧ hasBody P f = true ∧ HC P G f as H r H'
  | .calli nm x xs => ∃ t rc f, recvA H (ev x) = some (t, rc) ∧ Mth P t nm f ∧ HC P G f (rc :: xs.map ev) H r H'
  | op => eff P ev H op = some (r, H')
def OffA (w : Bool) (b : AV) : Prop := (∃ c, b = .v (.bool c) ∧ c ≠ w) ∨ b = .tup []
def Stp (o : AI) (st st' : St) : Prop :=
  match o.guard with
  | none => ∃ r H', Eff P G (AX.ev G st.s) st.H o.op r H' ∧ st' = st.put o.dst r H'
  | some (t, want) => (st.s.getD t undefA = .v (.bool want) ∧ ∃ r H', Eff P G (AX.ev G st.s) st.H o.op r H' ∧ st' = st.put o.dst r H') ∨ (∃ b, st.s.getD t undefA = b ∧ OffA want b ∧ st' = st.put o.dst undefA st.H)
end
section
variable {P : Program} {G : Nat → AV}
theorem AWop_iff {ev : AX → AV} {H : Hp} {op : AOp} {k : AV → Hp → Prop} : AWop P G ev H op k ↔ ∃ r H', Eff P G ev H op r H' ∧ k r H' := by
  cases op with
  | call f xs => exact ⟨fun ⟨as, H1, r, h1, h2, h3⟩ => ⟨r, H1, ⟨as, h1, h2⟩, h3⟩, fun ⟨r, H', ⟨as, h1, h2⟩, h3⟩ => ⟨as, H', r, h1, h2, h3⟩⟩
  | callh f xs => exact Iff.rfl
  | callm f xs => exact ⟨fun ⟨r, Bs, h1, h2⟩ => ⟨r, _, ⟨Bs, h1, rfl⟩, h2⟩, fun ⟨r, H', ⟨Bs, h1, e⟩, h2⟩ => ⟨r, Bs, h1, by rw [← e]; exact h2⟩⟩
  | callv x xs => exact ⟨fun ⟨f, cs, r, H', h1, h2, h3, h4⟩ => ⟨r, H', ⟨f, cs, h1, h2, h3⟩, h4⟩, fun ⟨r, H', ⟨f, cs, h1, h2, h3⟩, h4⟩ => ⟨f, cs, r, H', h1, h2, h3, h4⟩⟩
  | calli nm x xs => exact ⟨fun ⟨t, rc, f, r, H', h1, h2, h3, h4⟩ => ⟨r, H', ⟨t, rc, f, h1, h2, h3⟩, h4⟩, fun ⟨r, H', ⟨t, rc, f, h1, h2, h3⟩, h4⟩ => ⟨t, rc, f, r, H', h1, h2, h3, h4⟩⟩
  | _ =>
    simp only [AWop, Eff]
    constructor
    · intro h
      split at h
      · rename_i r H' he; exact ⟨r, H', he, h⟩
      · exact h.elim
    · rintro ⟨r, H', he, hk⟩
      rw [he]
      exact hk
theorem AWi_iff {o : AI} {st : St} {k : St → Prop} : AWi P G o st k ↔ ∃ st', Stp P G o st st' ∧ k st' := by
  unfold AWi Stp
  cases o.guard with
  | none =>
    simp only [AWop_iff]
    exact ⟨fun ⟨r, H', h1, h2⟩ => ⟨_, ⟨r, H', h1, rfl⟩, h2⟩, fun ⟨st', ⟨r, H', h1, h2⟩, h3⟩ => ⟨r, H', h1, by rw [← h2]; exact h3⟩⟩
  | some tw =>
    obtain ⟨t, want⟩ := tw
    simp only
    constructor
    · intro h
      split at h
      · rename_i b hb
        by_cases hbw : b = want
        · rw [if_pos hbw, AWop_iff] at h
          obtain ⟨r, H', h1, h2⟩ := h
          subst hbw
          exact ⟨_, .inl ⟨hb, r, H', h1, rfl⟩, h2⟩
        · rw [if_neg hbw] at h
          exact ⟨_, .inr ⟨_, rfl, .inl ⟨b, hb, hbw⟩, rfl⟩, h⟩
      · rename_i hb
        exact ⟨_, .inr ⟨_, rfl, .inr hb, rfl⟩, h⟩
      · exact h.elim
    · rintro ⟨st', h, hk⟩
      rcases h with ⟨hb, r, H', h1, h2⟩ | ⟨b, hb, hoff, h2⟩
      · rw [hb]
        simp only [if_true]
        rw [AWop_iff]; exact ⟨r, H', h1, by rw [← h2]; exact hk⟩
      · rw [hb]
        rcases hoff with ⟨c, rfl, hc⟩ | rfl
        · simp only
          rw [if_neg hc, ← h2]; exact hk
        · simp only
          rw [← h2]; exact hk
/-- Operations that look at no row. -/
theorem lenA_any {H H2 : Hp} {a : AV} : lenA H a = lenA H2 a := by cases a <;> rfl
theorem cls0 {ev : AX → AV} {H : Hp} {op : AOp} (hc : op.cls = 0) {r : AV} {H' : Hp} (h : Eff P G ev H op r H') : H' = H ∧ ∀ H2, Eff P G ev H2 op r H2 := by
  have fin : ∀ {o : Hp → Option AV}, (∀ H2, eff P ev H2 op = (o H2).map (·, H2)) → (∀ H2 H3, o H2 = o H3) → eff P ev H op = some (r, H') → H' = H ∧ ∀ H2, eff P ev H2 op = some (r, H2) := fun {o} h1 h2 h3 => by
    rw [h1] at h3
    obtain ⟨e1, rfl⟩ := map_pair h3
    exact ⟨rfl, fun H2 => by rw [h1, h2 H2 H', e1]; rfl⟩
  cases op <;> simp only [AOp.cls] at hc <;> (try omega) <;> simp only [Eff] at h ⊢
  case mv x => cases h; exact ⟨rfl, fun _ => rfl⟩
  case len x => exact fin (o := fun H2 => (match lenA H2 (ev x) with | some n => some (.v (.int .i64 (n : Int))) | none => none)) (fun H2 => by simp only [eff]; cases lenA H2 (ev x) <;> rfl) (fun H2 H3 => by rw [lenA_any (H2 := H3)]) h
  case mkf f xs => cases h; exact ⟨rfl, fun _ => rfl⟩
  case eqs ng ks x y => exact fin (o := fun _ => eqsA ng ks (ev x) (ev y)) (fun _ => rfl) (fun _ _ => rfl) h
  case un op x => exact fin (o := fun _ => ap1 (fun v => pureRun P (Op.unary op v)) (ev x)) (fun _ => rfl) (fun _ _ => rfl) h
  case mkm2 nm x => exact fin (o := fun _ => mk2A nm (ev x)) (fun _ => rfl) (fun _ _ => rfl) h
  case mki t x => exact fin (o := fun _ => mkiA t (ev x)) (fun _ => rfl) (fun _ _ => rfl) h
  case mkb f x => exact fin (o := fun _ => mkbA f (ev x)) (fun _ => rfl) (fun _ _ => rfl) h
  case cv s d x => exact fin (o := fun _ => ap1 (fun v => pureRun P (convert s d v)) (ev x)) (fun _ => rfl) (fun _ _ => rfl) h
  case pick c a b =>
    simp only [eff] at h ⊢
    split at h
    · rename_i b' hb
      cases h
      exact ⟨rfl, fun H2 => rfl⟩
    · cases h
  case ext x i =>
    simp only [eff] at h ⊢
    split at h
    · rename_i cs hcs
      obtain ⟨e1, rfl⟩ := map_pair h
      exact ⟨rfl, fun H2 => by rw [e1]; rfl⟩
    · cases h
  case bld z ps =>
    simp only [eff] at h ⊢
    cases hf : fillA z (ps.map fun p => (p.1, p.2.1, ev p.2.2)) with
    | none => simp [hf] at h
    | some cs => simp [hf] at h ⊢; exact ⟨h.2.symm, h.1⟩
  case fld agg off n x => exact fin (o := fun _ => partA agg off n (ev x)) (fun _ => rfl) (fun _ _ => rfl) h
  case idx t x i => exact fin (o := fun _ => ap2 (fun v j => pureRun P (Instr.index t v j)) (ev x) (ev i)) (fun _ => rfl) (fun _ _ => rfl) h
  case ixa agg len k x i =>
    simp only [eff] at h ⊢
    split at h
    · rename_i ix hix
      split at h
      · rename_i hc2
        obtain ⟨e1, rfl⟩ := map_pair h
        exact ⟨rfl, fun H2 => by rw [e1, if_pos hc2]; rfl⟩
      · cases h
    · cases h
  case sls t x lo hi =>
    simp only [eff] at h ⊢
    split at h
    · split at h
      · cases h
      · cases h
      · split at h
        · obtain ⟨e1, rfl⟩ := map_pair h
          exact ⟨rfl, fun H2 => by rw [e1]; rfl⟩
        · cases h
    · cases h
  case lns x =>
    simp only [eff] at h ⊢
    split at h
    · cases h; exact ⟨rfl, fun _ => rfl⟩
    · cases h
  case bi b ats ty cs xs =>
    simp only [eff] at h ⊢
    split at h
    · split at h
      · obtain ⟨e1, rfl⟩ := map_pair h
        exact ⟨rfl, fun H2 => by rw [e1]; rfl⟩
      · cases h
    · cases h
theorem set_fzm {H : Hp} {i n : Nat} {ob : OB} (h1 : H[i]? = some ob) : H.set i { ob with fz := max ob.fz n } = fzm i n H := by
  apply List.ext_getElem?
  intro x
  rw [fzm_at, List.getElem?_set]
  by_cases hx : i = x
  · subst hx
    rw [h1]
    simp [(List.getElem?_eq_some_iff.1 h1).1]
  · simp [hx]
theorem purC_frz {base : Nat} {H : Hp} (hb : base ≤ H.length) {a a' : AV} {H' : Hp} (hlt : ltC base a = true) (h : purC H a = some (a', H')) : ∃ L : List (Nat × Nat), H' = frz H L ∧ (∀ p ∈ L, p.1 < base) ∧ ∀ H2, SimH base H H2 → purC H2 a = some (a', frz H2 L) := by
  cases a with
  | ol i g n =>
    have hi : i < base := by simpa [ltC] using hlt
    have hil : H[i]? = some H[i] := List.getElem?_eq_getElem (by omega)
    simp only [purC, hil] at h
    split at h
    · rename_i hc
      cases h
      refine ⟨[(i, n)], set_fzm hil, fun p hp => by simp at hp; subst hp; exact hi, fun H2 hs => ?_⟩
      obtain ⟨ob, ob2, h1, h2, h3⟩ := hs i hi
      rw [hil] at h1
      cases h1
      have ek : ob2.k = H[i].k := by rw [h3]
      have ee : ob2.es = H[i].es := by rw [h3]
      have eg : ob2.g = H[i].g := by rw [h3]
      simp only [purC, h2]
      have eE : ob2.e = H[i].e := by rw [h3]
      rw [eg, ee, ek, eE, if_pos hc]
      congr 2
      show _ = fzm i n H2
      rw [← set_fzm h2]
      congr 1
      cases ob2
      simp_all
    · cases h
  | nl k => cases h; exact ⟨[], rfl, fun p hp => by simp at hp, fun _ _ => rfl⟩
  | em b k => cases h; exact ⟨[], rfl, fun p hp => by simp at hp, fun _ _ => rfl⟩
  | v x => cases h; exact ⟨[], rfl, fun p hp => by simp at hp, fun _ _ => rfl⟩
  | sl k es => cases h; exact ⟨[], rfl, fun p hp => by simp at hp, fun _ _ => rfl⟩
  | ad k es i off => cases h; exact ⟨[], rfl, fun p hp => by simp at hp, fun _ _ => rfl⟩
  | os i g lo n => cases h
  | agg cs => cases h
  | tup cs => cases h
  | io t i g e off => cases h
  | mp i g => cases h
  | oc i g n c => cases h
  | mf nm t i g e off => cases h
  | bf f i g e off => cases h
  | ib t f i g e off => cases h
  | oa i g e off =>
    have hi : i < base := by simpa [ltC] using hlt
    have hil : H[i]? = some H[i] := List.getElem?_eq_getElem (by omega)
    simp only [purC, hil] at h
    split at h
    · rename_i hc
      cases h
      refine ⟨[(i, (H[i]).es.length)], set_fzm hil, fun p hp => by simp at hp; subst hp; exact hi, fun H2 hs => ?_⟩
      obtain ⟨ob, ob2, h1, h2, h3⟩ := hs i hi
      rw [hil] at h1
      cases h1
      have ek : ob2.k = H[i].k := by rw [h3]
      have ee : ob2.es = H[i].es := by rw [h3]
      have eg : ob2.g = H[i].g := by rw [h3]
      simp only [purC, h2]
      have eE : ob2.e = H[i].e := by rw [h3]
      rw [eg, ee, ek, eE, if_pos hc]
      congr 2
      show _ = fzm i _ H2
      rw [← set_fzm h2]
      congr 1
      cases ob2
      simp_all
    · cases h
  | fn f cs =>
    simp only [purC] at h
    split at h
    · rename_i hc
      cases h
      exact ⟨[], rfl, fun p hp => by simp at hp, fun _ _ => by simp only [purC, hc, if_true]; rfl⟩
    · cases h
  | unk => cases h
theorem SimH.frz2 {base : Nat} {H H2 : Hp} (hs : SimH base H H2) (L : List (Nat × Nat)) : SimH base (Sim.frz H L) (Sim.frz H2 L) := ((SimH.frz L hs.le).symm.trans hs).trans (SimH.frz L hs.symm.le)
theorem purL_frz {base : Nat} : ∀ {as as' : List AV} {H H' : Hp}, base ≤ H.length → as.all (ltC base) = true → purL H as = some (as', H') → ∃ L : List (Nat × Nat), H' = frz H L ∧ (∀ p ∈ L, p.1 < base) ∧ ∀ H2, SimH base H H2 → purL H2 as = some (as', frz H2 L)
  | [], as', H, H', hb, _, h => by cases h; exact ⟨[], rfl, fun p hp => by simp at hp, fun _ _ => rfl⟩
  | a :: as, as', H, H', hb, hlt, h => by
    simp only [List.all_cons, Bool.and_eq_true] at hlt
    simp only [purL] at h
    split at h
    · rename_i a1 H1 h1
      split at h
      · rename_i as1 H3 h2
        cases h
        obtain ⟨L1, e1, l1, q1⟩ := purC_frz hb hlt.1 h1
        subst e1
        obtain ⟨L2, e2, l2, q2⟩ := purL_frz (by rw [frz_len]; exact hb) hlt.2 h2
        refine ⟨L1 ++ L2, by rw [frz_app, e2], fun p hp => (List.mem_append.1 hp).elim (l1 p) (l2 p), fun H2 hs => ?_⟩
        simp only [purL, q1 H2 hs, q2 _ (hs.frz2 L1), frz_app]
      · cases h
    · cases h
theorem pur_frz {base : Nat} {a a' : AV} {H H' : Hp} (hb : base ≤ H.length) (hlt : ltB base a = true) (h : pur H a = some (a', H')) : ∃ L : List (Nat × Nat), H' = frz H L ∧ (∀ p ∈ L, p.1 < base) ∧ ∀ H2, SimH base H H2 → pur H2 a = some (a', frz H2 L) := by
  by_cases hg : ∃ cs, a = .agg cs
  · obtain ⟨cs, rfl⟩ := hg
    simp only [pur] at h ⊢
    split at h
    · rename_i cs' H1 h1
      cases h
      obtain ⟨L, e, l, q⟩ := purL_frz hb hlt h1
      exact ⟨L, e, l, fun H2 hs => by rw [q H2 hs]⟩
    · cases h
  · by_cases hg2 : ∃ f cs, a = .fn f cs
    · obtain ⟨f, cs, rfl⟩ := hg2
      simp only [pur] at h ⊢
      split at h
      · rename_i cs' H1 h1
        cases h
        obtain ⟨L, e, l, q⟩ := purL_frz hb hlt h1
        exact ⟨L, e, l, fun H2 hs => by rw [q H2 hs]⟩
      · cases h
    · have e1 : ∀ H, pur H a = purC H a := fun H => by cases a <;> first | rfl | exact absurd ⟨_, rfl⟩ hg | exact absurd ⟨_, _, rfl⟩ hg2
      have e2 : ltC base a = true := by cases a <;> first | exact hlt | exact absurd ⟨_, rfl⟩ hg | exact absurd ⟨_, _, rfl⟩ hg2
      rw [e1] at h
      obtain ⟨L, e, l, q⟩ := purC_frz hb e2 h
      exact ⟨L, e, l, fun H2 hs => by rw [e1]; exact q H2 hs⟩
theorem purA_frz {base : Nat} : ∀ {as as' : List AV} {H H' : Hp}, base ≤ H.length → as.all (ltB base) = true → purA H as = some (as', H') → ∃ L : List (Nat × Nat), H' = frz H L ∧ (∀ p ∈ L, p.1 < base) ∧ ∀ H2, SimH base H H2 → purA H2 as = some (as', frz H2 L)
  | [], as', H, H', hb, _, h => by cases h; exact ⟨[], rfl, fun p hp => by simp at hp, fun _ _ => rfl⟩
  | a :: as, as', H, H', hb, hlt, h => by
    simp only [List.all_cons, Bool.and_eq_true] at hlt
    simp only [purA] at h
    split at h
    · rename_i a1 H1 h1
      split at h
      · rename_i as1 H3 h2
        cases h
        obtain ⟨L1, e1, l1, q1⟩ := pur_frz hb hlt.1 h1
        subst e1
        obtain ⟨L2, e2, l2, q2⟩ := purA_frz (by rw [frz_len]; exact hb) hlt.2 h2
        refine ⟨L1 ++ L2, by rw [frz_app, e2], fun p hp => (List.mem_append.1 hp).elim (l1 p) (l2 p), fun H2 hs => ?_⟩
        simp only [purA, q1 H2 hs, q2 _ (hs.frz2 L1), frz_app]
      · cases h
    · cases h
theorem loadA_sim {base : Nat} {H H2 : Hp} (hs : SimH base H H2) {agg : Bool} {n : Nat} {a : AV} (hlt : ltB base a = true) : loadA H agg n a = loadA H2 agg n a := by
  cases a with
  | oa i g e off =>
    have hi : i < base := by simpa [ltB, ltC] using hlt
    simp only [loadA]
    rcases hs.live (g := g) hi with ⟨ob, ob2, h1, h2, h3⟩ | ⟨h1, h2⟩
    · rw [h1, h2]; simp only; rw [h3]
    · rw [h1, h2]
  | _ => rfl
theorem isPtr_sim {base : Nat} {H H2 : Hp} (hs : SimH base H H2) {a : AV} (hlt : ltB base a = true) : isPtr H a = isPtr H2 a := by
  cases a with
  | oa i g e off =>
    have hi : i < base := by simpa [ltB, ltC] using hlt
    simp only [isPtr]
    rcases hs.live (g := g) hi with ⟨ob, ob2, h1, h2, h3⟩ | ⟨h1, h2⟩ <;> rw [h1, h2] <;> rfl
  | _ => rfl
theorem samePt_sim {P : Program} {t : TypeId} {base : Nat} {H H2 : Hp} (hs : SimH base H H2) {a b : AV} (h1 : ltB base a = true) (h2 : ltB base b = true) : samePt P t H a b = samePt P t H2 a b := by
  unfold samePt
  rw [isPtr_sim hs h1, isPtr_sim hs h2]
theorem isRow_sim {base : Nat} {H H2 : Hp} (hs : SimH base H H2) {a : AV} (hlt : ltB base a = true) : isRow H a = isRow H2 a := by
  cases a with
  | ol i g n =>
    have hi : i < base := by simpa [ltB, ltC] using hlt
    simp only [isRow]
    rcases hs.live (g := g) hi with ⟨ob, ob2, h1, h2, h3⟩ | ⟨h1, h2⟩ <;> rw [h1, h2] <;> rfl
  | _ => rfl
theorem isFn_sim {base : Nat} {H H2 : Hp} (hs : SimH base H H2) {a : AV} (hlt : ltB base a = true) : isFn H a = isFn H2 a := by
  cases a with
  | bf f i g e off =>
    have hi : i < base := by simpa [ltB, ltC] using hlt
    simp only [isFn]
    rcases hs.live (g := g) hi with ⟨ob, ob2, h1, h2, h3⟩ | ⟨h1, h2⟩ <;> rw [h1, h2] <;> rfl
  | _ => rfl
theorem isIf_sim {base : Nat} {H H2 : Hp} (hs : SimH base H H2) {a : AV} (hlt : ltB base a = true) : isIf H a = isIf H2 a := by
  cases a with
  | io t i g e off =>
    have hi : i < base := by simpa [ltB, ltC] using hlt
    simp only [isIf]
    rcases hs.live (g := g) hi with ⟨ob, ob2, h1, h2, h3⟩ | ⟨h1, h2⟩ <;> rw [h1, h2] <;> rfl
  | ib t f i g e off =>
    have hi : i < base := by simpa [ltB, ltC] using hlt
    simp only [isIf]
    rcases hs.live (g := g) hi with ⟨ob, ob2, h1, h2, h3⟩ | ⟨h1, h2⟩ <;> rw [h1, h2] <;> rfl
  | _ => rfl
theorem nilA_sim {base : Nat} {H H2 : Hp} (hs : SimH base H H2) {a : AV} (hlt : ltB base a = true) : nilA H a = nilA H2 a := by
  cases a with
  | oa i g e off =>
    have hi : i < base := by simpa [ltB, ltC] using hlt
    simp only [nilA]
    rcases hs.live (g := g) hi with ⟨ob, ob2, h1, h2, h3⟩ | ⟨h1, h2⟩ <;> rw [h1, h2]
  | _ => rfl
theorem nilB_sim {base : Nat} {H H2 : Hp} (hs : SimH base H H2) {a : AV} (hlt : ltB base a = true) : nilB P H a = nilB P H2 a := by
  cases a with
  | mf nm t i g e off =>
    have hi : i < base := by simpa [ltB, ltC] using hlt
    simp only [nilB]
    rcases hs.live (g := g) hi with ⟨ob, ob2, h1, h2, h3⟩ | ⟨h1, h2⟩
    · rw [h1, h2]
    · rw [h1, h2]
  | _ => exact nilA_sim hs hlt
theorem moveA_sim {base : Nat} {H H2 : Hp} (hs : SimH base H H2) {off : Nat} {a : AV} (hlt : ltB base a = true) : moveA off H a = moveA off H2 a := by
  cases a with
  | oa i g e o =>
    have hi : i < base := by simpa [ltB, ltC] using hlt
    simp only [moveA]
    rcases hs.live (g := g) hi with ⟨ob, ob2, h1, h2, h3⟩ | ⟨h1, h2⟩ <;> rw [h1, h2]
  | _ => rfl
theorem lkpA_sim {base : Nat} {H H2 : Hp} (hs : SimH base H H2) {kd : Kd} {c : Bool} {z a b : AV} (hlt : ltB base a = true) : lkpA H kd c z a b = lkpA H2 kd c z a b := by
  cases a with
  | mp i g =>
    have hi : i < base := by simpa [ltB, ltC] using hlt
    simp only [lkpA]
    rcases hs.liveM (g := g) hi with ⟨ob, ob2, h1, h2, h3⟩ | ⟨h1, h2⟩
    · rw [h1, h2]; simp only; rw [h3]
    · rw [h1, h2]
  | v x =>
    cases x with
    | map m => cases m <;> rfl
    | _ => rfl
  | _ => rfl
theorem lnmA_sim {base : Nat} {H H2 : Hp} (hs : SimH base H H2) {a : AV} (hlt : ltB base a = true) : lnmA H a = lnmA H2 a := by
  cases a with
  | mp i g =>
    have hi : i < base := by simpa [ltB, ltC] using hlt
    simp only [lnmA]
    rcases hs.liveM (g := g) hi with ⟨ob, ob2, h1, h2, h3⟩ | ⟨h1, h2⟩
    · rw [h1, h2]; simp only; rw [h3]
    · rw [h1, h2]
  | _ => rfl
theorem elemA_sim {base : Nat} {H H2 : Hp} (hs : SimH base H H2) {k : Nat} {a : AV} {ix : Int} (hlt : ltB base a = true) : elemA k H a ix = elemA k H2 a ix := by
  cases a with
  | ol i g n =>
    have hi : i < base := by simpa [ltB, ltC] using hlt
    simp only [elemA]
    rcases hs.live (g := g) hi with ⟨ob, ob2, h1, h2, h3⟩ | ⟨h1, h2⟩
    · rw [h1, h2]; simp only; rw [h3]
    · rw [h1, h2]
  | _ => rfl
theorem sloA_sim {base : Nat} {H H2 : Hp} (hs : SimH base H H2) {k : Nat} {a : AV} {ix : Int} (hlt : ltB base a = true) : sloA k H a ix = sloA k H2 a ix := by
  cases a with
  | ol i g n =>
    have hi : i < base := by simpa [ltB, ltC] using hlt
    simp only [sloA]
    rcases hs.live (g := g) hi with ⟨ob, ob2, h1, h2, h3⟩ | ⟨h1, h2⟩
    · rw [h1, h2]; simp only; rw [h3]
    · rw [h1, h2]
  | _ => rfl
/-- What an operation that changes no row does to the rows. -/
theorem mono {base : Nat} {ev : AX → AV} {H : Hp} {op : AOp} (hc : op.cls ≤ 3) (hb : base ≤ H.length) (hlt : op.cls = 1 ∨ op.cls = 2 → (op.xs.all fun x => ltB base (ev x)) = true) {r : AV} {H' : Hp} (h : Eff P G ev H op r H') :
    ∃ (L : List (Nat × Nat)) (Bs : Hp), H' = frz H L ++ Bs ∧ (∀ p ∈ L, p.1 < base) ∧ (op.cls ≠ 3 → Bs = []) ∧ ∀ H2, SimH base H H2 → (Bs ≠ [] → H2.length = H.length) → Eff P G ev H2 op r (frz H2 L ++ Bs) := by
  have keep : H' = H → (∀ H2, SimH base H H2 → Eff P G ev H2 op r H2) → ∃ (L : List (Nat × Nat)) (Bs : Hp), H' = frz H L ++ Bs ∧ (∀ p ∈ L, p.1 < base) ∧ (op.cls ≠ 3 → Bs = []) ∧ ∀ H2, SimH base H H2 → (Bs ≠ [] → H2.length = H.length) → Eff P G ev H2 op r (frz H2 L ++ Bs) := fun e f =>
    ⟨[], [], by simp [frz, e], fun p hp => (by simp at hp), fun _ => rfl, fun H2 hs _ => by simpa [frz] using f H2 hs⟩
  by_cases h0 : op.cls = 0
  · obtain ⟨e, f⟩ := cls0 h0 h
    exact keep e fun H2 _ => f H2
  have look : ∀ {o : Hp → Option AV}, (∀ H2, eff P ev H2 op = (o H2).map (·, H2)) → (∀ H2, SimH base H H2 → o H = o H2) → eff P ev H op = some (r, H') → H' = H ∧ ∀ H2, SimH base H H2 → eff P ev H2 op = some (r, H2) := fun {o} h1 h2 h3 => by
    rw [h1] at h3
    obtain ⟨e1, rfl⟩ := map_pair h3
    exact ⟨rfl, fun H2 hs => by rw [h1, ← h2 H2 hs, e1]; rfl⟩
  cases op <;> simp only [AOp.cls] at hc h0 hlt <;> (try omega) <;> (try exact absurd trivial h0) <;> (try simp only [AOp.xs, List.all_cons, List.all_nil, Bool.and_true, Bool.and_eq_true, true_or, or_true, forall_const] at hlt)
  case bin op t pt xo yo x y =>
    obtain ⟨e, f⟩ := look (o := fun H2 => binA P H2 op t pt xo yo (ev x) (ev y)) (fun _ => rfl) (fun H2 hs => by
      unfold binA nilCmp fnCmp ifCmp
      rw [samePt_sim hs hlt.1 hlt.2, isPtr_sim hs hlt.1, isPtr_sim hs hlt.2, isRow_sim hs hlt.1, isRow_sim hs hlt.2, isFn_sim hs hlt.1, isFn_sim hs hlt.2, isIf_sim hs hlt.1, isIf_sim hs hlt.2]) h
    exact keep e f
  case load agg n x =>
    obtain ⟨e, f⟩ := look (o := fun H2 => loadA H2 agg n (ev x)) (fun _ => rfl) (fun H2 hs => loadA_sim hs hlt) h
    exact keep e f
  case nilc x =>
    obtain ⟨e, f⟩ := look (o := fun H2 => nilB P H2 (ev x)) (fun _ => rfl) (fun H2 hs => nilB_sim hs hlt) h
    exact keep e f
  case fad off x =>
    obtain ⟨e, f⟩ := look (o := fun H2 => moveA off H2 (ev x)) (fun _ => rfl) (fun H2 hs => moveA_sim hs hlt) h
    exact keep e f
  case lkp kd c z x i =>
    obtain ⟨e, f⟩ := look (o := fun H2 => lkpA H2 kd c z (ev x) (ev i)) (fun _ => rfl) (fun H2 hs => lkpA_sim hs hlt.1) h
    exact keep e f
  case lnm x =>
    obtain ⟨e, f⟩ := look (o := fun H2 => (match lnmA H2 (ev x) with | some n => some (.v (.int .i64 (n : Int))) | none => none)) (fun H2 => by simp only [eff]; cases lnmA H2 (ev x) <;> rfl) (fun H2 hs => by rw [lnmA_sim hs hlt]) h
    exact keep e f
  case iad k x i =>
    obtain ⟨e, f⟩ := look (o := fun H2 => (match intA (ev i) with | some ix => elemA k H2 (ev x) ix | none => none)) (fun H2 => by simp only [eff]; cases intA (ev i) <;> rfl) (fun H2 hs => by
      cases intA (ev i) with
      | none => rfl
      | some ix => exact elemA_sim hs hlt.1) h
    exact keep e f
  case slo k x i =>
    obtain ⟨e, f⟩ := look (o := fun H2 => (match intA (ev i) with | some ix => sloA k H2 (ev x) ix | none => none)) (fun H2 => by simp only [eff]; cases intA (ev i) <;> rfl) (fun H2 hs => by
      cases intA (ev i) with
      | none => rfl
      | some ix => exact sloA_sim hs hlt.1) h
    exact keep e f
  case iaa len k x i =>
    obtain ⟨e, f⟩ := look (o := fun H2 => (match intA (ev i) with | some ix => if 0 ≤ ix ∧ ix.toNat < len then moveA (ix.toNat * k) H2 (ev x) else none | none => none)) (fun H2 => by
      simp only [eff]
      cases intA (ev i) with
      | none => rfl
      | some ix => simp only; split <;> rfl) (fun H2 hs => by
      cases intA (ev i) with
      | none => rfl
      | some ix => simp only; rw [moveA_sim hs hlt.1]) h
    exact keep e f
  case slc k x lo hi =>
    simp only [Eff] at h ⊢
    have hx : ltB base (ev x) = true := by
      have := hlt
      simp only [List.cons_append, List.nil_append, List.all_cons, Bool.and_eq_true] at this
      exact this.1
    have e0 : ∀ H2, eff P ev H2 (.slc k x lo hi) = (match (lo.map ev).map intA, (hi.map ev).map intA with
       | some none, _ | _, some none => none
       | l, h => sliceA k H2 (ev x) (l.bind id) (h.bind id)) := fun _ => rfl
    have key : ∀ l' h', sliceA k H (ev x) l' h' = some (r, H') → ∃ (L : List (Nat × Nat)), H' = frz H L ∧ (∀ p ∈ L, p.1 < base) ∧ ∀ H2, SimH base H H2 → sliceA k H2 (ev x) l' h' = some (r, frz H2 L) := fun l' h' hs => by
      generalize ev x = a at hs hx
      cases a with
      | nl k' =>
        simp only [sliceA] at hs ⊢
        split at hs
        · rename_i hk
          cases hs
          exact ⟨[], rfl, fun p hp => by simp at hp, fun H2 _ => by rw [if_pos hk]; rfl⟩
        · cases hs
      | sl k' es =>
        simp only [sliceA] at hs ⊢
        split at hs
        · rename_i hk
          split at hs
          · rename_i r' hcut
            cases hs
            exact ⟨[], rfl, fun p hp => by simp at hp, fun H2 _ => by rw [if_pos hk]; rfl⟩
          · cases hs
        · cases hs
      | ol i g n =>
        have hi : i < base := by simpa [ltB, ltC] using hx
        simp only [sliceA] at hs ⊢
        split at hs
        · rename_i hl0
          split at hs
          · rename_i ob hlv
            split at hs
            · rename_i hcnd
              cases hs
              refine ⟨[], rfl, fun p hp => by simp at hp, fun H2 hs => ?_⟩
              rcases hs.live (g := g) hi with ⟨ob1, ob2, h1, h2, h3⟩ | ⟨h1, h2⟩
              · rw [if_pos hl0, h2]; simp only; rw [if_pos hcnd]; rfl
              · rw [hlv] at h1; cases h1
            · cases hs
          · cases hs
        · rename_i hl0
          split at hs
          · rename_i k' es H1 hp
            split at hs
            · rename_i hk
              split at hs
              · rename_i r' hcut
                cases hs
                have hx' : ltC base (.ol i g n) = true := hx
                obtain ⟨L, e1, l1, q1⟩ := purC_frz hb hx' hp
                refine ⟨L, e1, l1, fun H2 hs => ?_⟩
                rw [if_neg hl0, q1 H2 hs]
                simp only
                rw [if_pos hk, hcut]
              · cases hs
            · cases hs
          · cases hs
      | _ => cases hs
    rw [e0] at h
    split at h
    · cases h
    · cases h
    · rename_i n1 n2
      obtain ⟨L, e1, l1, q1⟩ := key _ _ h
      refine ⟨L, [], by simpa using e1, l1, fun _ => rfl, fun H2 hs _ => ?_⟩
      rw [e0, List.append_nil]
      have := q1 H2 hs
      split
      · exact (n1 (by assumption)).elim
      · exact (n2 (by assumption)).elim
      · exact this
  case call f xs =>
    obtain ⟨as, hp, hpc⟩ := h
    have hall : (xs.map ev).all (ltB base) = true := by rw [List.all_map]; exact hlt
    obtain ⟨L, e1, l1, q1⟩ := purA_frz hb hall hp
    exact ⟨L, [], by simpa using e1, l1, fun _ => rfl, fun H2 hs _ => ⟨as, by rw [List.append_nil]; exact q1 H2 hs, hpc⟩⟩
  case new e k x =>
    simp only [Eff, eff] at h ⊢
    split at h
    · rename_i hcond
      cases h
      exact ⟨[], [⟨e, k, [ev x], 0, 0⟩], rfl, fun p hp => (by simp at hp), fun hn => absurd rfl hn, fun H2 hs hlen => by rw [if_pos hcond, hlen (by simp)]; rfl⟩
    · cases h
  case bsl e k xs =>
    simp only [Eff, eff] at h ⊢
    split at h
    · rename_i hcond
      cases h
      exact ⟨[], [⟨e, k, xs.map ev, 0, 0⟩], rfl, fun p hp => (by simp at hp), fun hn => absurd rfl hn, fun H2 hs hlen => by rw [if_pos hcond, hlen (by simp)]; rfl⟩
    · cases h
  case callm f xs =>
    obtain ⟨Bs, h1, rfl⟩ := h
    exact ⟨[], Bs, by simp [frz], fun p hp => (by simp at hp), fun hn => absurd rfl hn, fun H2 hs hlen => ⟨Bs, fun H3 h3 => h1 H3 fun hne => by rw [h3 hne, hlen hne], by simp [frz]⟩⟩
  case apz e k bytes z s n =>
    simp only [Eff, eff] at h ⊢
    split at h
    · rename_i k' m hs hm
      split at h
      · rename_i hcond
        cases h
        exact ⟨[], [⟨e, k, List.replicate m.toNat z, 0, 0⟩], rfl, fun p hp => (by simp at hp), fun hn => absurd rfl hn, fun H2 hs hlen => by rw [if_pos hcond, hlen (by simp)]; rfl⟩
      · cases h
    · cases h
  case mkm ag m =>
    simp only [Eff, eff] at h ⊢
    cases h
    exact ⟨[], [⟨mapE, m + 2, [.agg (.v (.int .i64 0) :: .v (.bool ag) :: List.replicate m (.v (.bool false)))], 0, 0⟩], rfl, fun p hp => (by simp at hp), fun hn => absurd rfl hn, fun H2 hs hlen => by rw [hlen (by simp)]; rfl⟩
  case mks e k bytes z len cap =>
    simp only [Eff, eff] at h ⊢
    split at h
    · rename_i l c hl hc2
      split at h
      · rename_i hcond
        cases h
        exact ⟨[], [⟨e, k, List.replicate l.toNat z, 0, 0⟩], rfl, fun p hp => (by simp at hp), fun hn => absurd rfl hn, fun H2 hs hlen => by rw [if_pos hcond, hlen (by simp)]; rfl⟩
      · cases h
    · cases h
/-- The temporaries that an operation looks at. -/
def AI.reads (o : AI) : List Nat := (o.op.xs.filterMap fun | .t n => some n | _ => none) ++ (match o.guard with | some (t, _) => [t] | none => [])
def apart (x y : AI) : Bool :=
  (match x.dst with | some d => !y.reads.contains d && y.dst != some d | none => true) && (match y.dst with | some d => !x.reads.contains d | none => true)
/-- Two operations that may stand in either order. -/
def free2 (x y : AI) : Bool :=
  apart x y && (x.op.cls == 0 || y.op.cls == 0 || (decide (x.op.cls ≤ 3) && decide (y.op.cls ≤ 3) && !(x.op.cls == 3 && y.op.cls == 3)) || ((x.op.cls == 5 && decide (y.op.cls ≤ 2)) || (y.op.cls == 5 && decide (x.op.cls ≤ 2))))
theorem apart_spec {x y : AI} (h : apart x y = true) : (∀ d, x.dst = some d → d ∉ y.reads) ∧ (∀ d, x.dst = some d → y.dst ≠ some d) ∧ (∀ d, y.dst = some d → d ∉ x.reads) := by
  refine ⟨fun d hd => ?_, fun d hd => ?_, fun d hd => ?_⟩ <;> simp [apart, hd] at h
  · exact h.1.1
  · exact h.1.2
  · exact h.2
theorem put_getD {st : St} {d : Option Nat} {r : AV} {H : Hp} {t : Nat} (h : ∀ e, d = some e → e ≠ t) : (st.put d r H).s.getD t undefA = st.s.getD t undefA := by
  cases d with
  | none => rfl
  | some e => simp only [St.put, List.getD_eq_getElem?_getD, List.getElem?_set_ne (h e rfl)]
theorem ev_put {o : AI} {st : St} {d : Option Nat} {r : AV} {H : Hp} (h : ∀ e, d = some e → e ∉ o.reads) : ∀ x ∈ o.op.xs, AX.ev G (st.put d r H).s x = AX.ev G st.s x := fun x hx => by
  cases x with
  | t n => exact put_getD fun e he hn => h e he (by subst hn; exact List.mem_append_left _ (List.mem_filterMap.2 ⟨.t e, hx, rfl⟩))
  | c a => rfl
  | g n => rfl
theorem put_comm (st : St) {d e : Option Nat} (r q : AV) (H1 H2 H3 : Hp) (h : ∀ x, d = some x → e ≠ some x) : (st.put d r H1).put e q H2 = (st.put e q H3).put d r H2 := by
  cases d with
  | none => cases e <;> rfl
  | some d =>
    cases e with
    | none => rfl
    | some e =>
      have hne : d ≠ e := fun he => h d rfl (he ▸ rfl)
      simp only [St.put]
      rw [List.set_comm _ _ hne]
theorem Eff_congr {ev ev' : AX → AV} {H H' : Hp} {op : AOp} {r : AV} (h : ∀ x ∈ op.xs, ev x = ev' x) (he : Eff P G ev H op r H') : Eff P G ev' H op r H' := by
  cases op with
  | call f xs =>
    obtain ⟨as, h1, h2⟩ := he
    have hm : xs.map ev = xs.map ev' := List.map_congr_left h
    exact ⟨as, by rw [← hm]; exact h1, h2⟩
  | callm f xs =>
    have hm : xs.map ev = xs.map ev' := List.map_congr_left h
    simp only [Eff] at he ⊢
    rw [← hm]; exact he
  | callh f xs =>
    have hm : xs.map ev = xs.map ev' := List.map_congr_left h
    simp only [Eff] at he ⊢
    rw [← hm]; exact he
  | calli nm x xs =>
    have hm : xs.map ev = xs.map ev' := List.map_congr_left fun y hy => h y (by simp [AOp.xs, hy])
    have hx : ev x = ev' x := h x (by simp [AOp.xs])
    obtain ⟨t, rc, f, h1, h2, h3⟩ := he
    exact ⟨t, rc, f, by rw [← hx]; exact h1, h2, by rw [← hm]; exact h3⟩
  | callv x xs =>
    have hm : xs.map ev = xs.map ev' := List.map_congr_left fun y hy => h y (by simp [AOp.xs, hy])
    have hx : ev x = ev' x := h x (by simp [AOp.xs])
    obtain ⟨f, cs, h1, h2, h3⟩ := he
    exact ⟨f, cs, by rw [← hx, ← hm]; exact h1, h2, h3⟩
  | _ => simp only [Eff] at he ⊢; rw [← eff_congr h]; exact he
theorem fzm_set {i n j : Nat} {H : Hp} {ob : OB} (h : i ≠ j) : (fzm i n H).set j ob = fzm i n (H.set j ob) := by
  apply List.ext_getElem?
  intro x
  rw [fzm_at, List.getElem?_set, List.getElem?_set, fzm_len, fzm_at]
  by_cases hx : j = x
  · subst hx
    by_cases hl : j < H.length <;> simp [hl, h]
  · simp [hx]
theorem frz_set : ∀ (L : List (Nat × Nat)) {j : Nat} {H : Hp} {ob : OB}, (∀ p ∈ L, p.1 ≠ j) → (frz H L).set j ob = frz (H.set j ob) L
  | [], _, _, _, _ => rfl
  | (i, n) :: L, j, H, ob, h => by
    rw [frz, frz, frz_set L fun p hp => h p (by simp [hp]), fzm_set (h (i, n) (by simp))]
theorem live_fzm {i n j g : Nat} {H : Hp} : live (fzm i n H) j g = (live H j g).map fun ob => if i = j then { ob with fz := max ob.fz n } else ob := by
  unfold live
  rw [fzm_at]
  cases H[j]? with
  | none => rfl
  | some ob =>
    simp only [Option.map_some]
    by_cases hi : i = j
    · simp only [hi, if_true]; by_cases hg : ob.g = g <;> by_cases hm : (ob.e == 4000000000) = true <;> simp only [hg, hm, if_true, if_false, reduceIte, Option.map_some, Option.map_none, Bool.false_eq_true, Bool.not_eq_true] <;> simp_all
    · simp only [hi, if_false]; by_cases hg : ob.g = g <;> by_cases hm : (ob.e == 4000000000) = true <;> simp only [hg, hm, if_true, if_false, reduceIte, Option.map_some, Option.map_none, Bool.false_eq_true, Bool.not_eq_true] <;> simp_all
theorem srcA_fzm {i n k : Nat} {H : Hp} {x : AV} : srcA (fzm i n H) k x = (srcA H k x).map fun p => (p.1, fzm i n H) := by
  cases x with
  | ol j g m =>
    simp only [srcA, live_fzm]
    cases live H j g with
    | none => rfl
    | some ob =>
      simp only [Option.map_some]
      by_cases hi : i = j
      · simp only [hi, if_true]; split <;> rfl
      · simp only [hi, if_false]; split <;> rfl
  | nl k' => rfl
  | em b k' => rfl
  | sl k' es =>
    simp only [srcA]
    by_cases hk : k' = k
    · simp [hk]
    · simp [hk]
  | _ => rfl
theorem appA_fzm {i n : Nat} {e : TypeId} {k bytes : Nat} {H : Hp} {j g m : Nat} {x : AV} (h : i ≠ j) : appA e k bytes (fzm i n H) (.ol j g m) x = (appA e k bytes H (.ol j g m) x).map fun p => (p.1, fzm i n p.2) := by
  unfold appA
  rw [srcA_fzm]
  cases srcA H k x with
  | none => rfl
  | some p =>
    obtain ⟨news, H2⟩ := p
    simp only [Option.map_some, live_fzm]
    cases live H j g with
    | none => rfl
    | some ob =>
      simp only [Option.map_some, if_neg h]
      split
      · rw [fzm_set h]; rfl
      · rfl
theorem appA_frz {e : TypeId} {k bytes : Nat} {j g m : Nat} {x : AV} : ∀ (L : List (Nat × Nat)) {H : Hp}, (∀ p ∈ L, p.1 ≠ j) → appA e k bytes (frz H L) (.ol j g m) x = (appA e k bytes H (.ol j g m) x).map fun p => (p.1, frz p.2 L)
  | [], H, _ => by
    show appA e k bytes H (.ol j g m) x = (appA e k bytes H (.ol j g m) x).map fun p => (p.1, p.2)
    cases appA e k bytes H (.ol j g m) x <;> rfl
  | (i, n) :: L, H, h => by
    rw [frz, appA_frz L fun p hp => h p (by simp [hp]), appA_fzm (h (i, n) (by simp))]
    cases appA e k bytes H (.ol j g m) x <;> rfl
theorem appA_set {e : TypeId} {k bytes : Nat} {H H' : Hp} {j g m : Nat} {x r : AV} (h : appA e k bytes H (.ol j g m) x = some (r, H')) : j < H.length ∧ ∃ ob, H' = H.set j ob := by
  unfold appA at h
  split at h
  · simp only at h
    split at h
    · rename_i ob hl
      have hj := (live_ok hl).1
      split at h
      · cases h
        exact ⟨(List.getElem?_eq_some_iff.1 hj).1, _, rfl⟩
      · cases h
    · cases h
  · cases h
/-- An append to a row that is made here. -/
theorem apf_ok {base : Nat} {ev : AX → AV} {H : Hp} {op : AOp} (hc : op.cls = 5) (hg : geB base (ev (op.xs.headD (.c .unk))) = true) :
    ∃ j, base ≤ j ∧ (∀ {r : AV} {H' : Hp}, Eff P G ev H op r H' → j < H.length ∧ ∃ ob, H' = H.set j ob) ∧
      (∀ {H : Hp} (L : List (Nat × Nat)), (∀ p ∈ L, p.1 < base) → ∀ (r : AV) (H' : Hp), Eff P G ev (frz H L) op r H' ↔ ∃ H3, Eff P G ev H op r H3 ∧ H' = frz H3 L) := by
  cases op <;> simp only [AOp.cls] at hc <;> (try omega)
  case apf e k bytes s x =>
    simp only [AOp.xs, List.headD_cons] at hg
    simp only [Eff, eff]
    generalize ev s = a at hg
    cases a with
    | ol j g m =>
      have hj : base ≤ j := by simpa [geB] using hg
      refine ⟨j, hj, fun h => appA_set h, fun {H} L hL r H' => ?_⟩
      rw [appA_frz L fun p hp => by have := hL p hp; omega]
      cases appA e k bytes H (.ol j g m) (ev x) with
      | none => simp
      | some p =>
        obtain ⟨r2, H2⟩ := p
        simp only [Option.map_some, Option.some.injEq, Prod.mk.injEq]
        constructor
        · rintro ⟨rfl, rfl⟩; exact ⟨H2, ⟨rfl, rfl⟩, rfl⟩
        · rintro ⟨H3, ⟨rfl, rfl⟩, rfl⟩; exact ⟨rfl, rfl⟩
    | _ => simp [geB] at hg
theorem SimH.setR {base j : Nat} {H : Hp} {ob : OB} (hb : base ≤ H.length) (hj : base ≤ j) : SimH base H (H.set j ob) := fun i hi => by
  refine ⟨H[i], H[i], List.getElem?_eq_getElem (by omega), ?_, rfl⟩
  rw [List.getElem?_set_ne (by omega)]
  exact List.getElem?_eq_getElem (by omega)
/-- Two operations change places. -/
theorem Eff_swap {base : Nat} {ev1 ev2 : AX → AV} {H H1 H2 : Hp} {x y : AOp} {r q : AV} (hf : x.cls = 0 ∨ y.cls = 0 ∨ (x.cls ≤ 3 ∧ y.cls ≤ 3 ∧ ¬(x.cls = 3 ∧ y.cls = 3)) ∨ (x.cls = 5 ∧ y.cls ≤ 2) ∨ (y.cls = 5 ∧ x.cls ≤ 2))
    (hx : x.cls = 0 ∨ (base ≤ H.length ∧ (x.cls = 1 ∨ x.cls = 2 → (x.xs.all fun a => ltB base (ev1 a)) = true) ∧ (x.cls = 5 → geB base (ev1 (x.xs.headD (.c .unk))) = true))) (hy : y.cls = 0 ∨ (base ≤ H1.length ∧ (y.cls = 1 ∨ y.cls = 2 → (y.xs.all fun a => ltB base (ev2 a)) = true) ∧ (y.cls = 5 → geB base (ev2 (y.xs.headD (.c .unk))) = true)))
    (h1 : Eff P G ev1 H x r H1) (h2 : Eff P G ev2 H1 y q H2) : ∃ H3, Eff P G ev2 H y q H3 ∧ Eff P G ev1 H3 x r H2 ∧ (y.cls = 0 ∨ base ≤ H.length) ∧ (x.cls = 0 ∨ base ≤ H3.length) := by
  by_cases hx0 : x.cls = 0
  · obtain ⟨rfl, f⟩ := cls0 hx0 h1
    refine ⟨H2, h2, f H2, hy.imp id (·.1), .inl hx0⟩
  · have hbx := (hx.resolve_left hx0)
    by_cases hy0 : y.cls = 0
    · obtain ⟨rfl, f⟩ := cls0 hy0 h2
      exact ⟨H, f H, h1, .inl hy0, .inr hbx.1⟩
    · have hby := (hy.resolve_left hy0)
      rcases (hf.resolve_left hx0).resolve_left hy0 with ⟨c1, c2, c3⟩ | ⟨c1, c2⟩ | ⟨c1, c2⟩
      rotate_left
      · obtain ⟨j, hj, a1, a2⟩ := apf_ok (P := P) (G := G) (H := H) c1 (hbx.2.2 c1)
        obtain ⟨hjl, ob, e1⟩ := a1 h1
        obtain ⟨L2, B2, e2, l2, n2, f2⟩ := mono (by omega) hby.1 hby.2.1 h2
        obtain rfl := n2 (by omega)
        rw [List.append_nil] at e2
        subst e2
        have s1 : SimH base H1 H := by rw [e1]; exact (SimH.setR hbx.1 hj).symm
        refine ⟨frz H L2, by simpa using f2 H s1 (fun hb => absurd rfl hb), (a2 L2 l2 r _).2 ⟨H1, h1, rfl⟩, .inr hbx.1, .inr (by rw [frz_len]; exact hbx.1)⟩
      · obtain ⟨L1, B1, e1, l1, n1, f1⟩ := mono (by omega) hbx.1 hbx.2.1 h1
        obtain rfl := n1 (by omega)
        rw [List.append_nil] at e1
        subst e1
        obtain ⟨j, hj, a1, a2⟩ := apf_ok (P := P) (G := G) (H := frz H L1) c1 (hby.2.2 c1)
        obtain ⟨H3, k1, k2⟩ := (a2 L1 l1 q H2).1 h2
        obtain ⟨j', hj', b1, _⟩ := apf_ok (P := P) (G := G) (H := H) c1 (hby.2.2 c1)
        obtain ⟨_, ob, e3⟩ := b1 k1
        have s1 : SimH base H H3 := by rw [e3]; exact SimH.setR hbx.1 hj'
        refine ⟨H3, k1, ?_, .inr hbx.1, .inr (by rw [e3]; simpa using hbx.1)⟩
        rw [k2]
        simpa using f1 H3 s1 (fun hb => absurd rfl hb)
      obtain ⟨L1, B1, e1, l1, n1, f1⟩ := mono c1 hbx.1 hbx.2.1 h1
      subst e1
      obtain ⟨L2, B2, e2, l2, n2, f2⟩ := mono c2 hby.1 hby.2.1 h2
      subst e2
      have hlen : base ≤ (frz H L1).length := by rw [frz_len]; exact hbx.1
      have s1 : SimH base (frz H L1 ++ B1) H := ((SimH.frz L1 hbx.1).trans (SimH.push hlen B1)).symm
      have hor : B1 = [] ∨ B2 = [] := by
        by_cases hx3 : x.cls = 3
        · exact .inr (n2 fun hy3 => c3 ⟨hx3, hy3⟩)
        · exact .inl (n1 hx3)
      have hlen2 : base ≤ (frz H L2).length := by rw [frz_len]; exact hbx.1
      have s2 : SimH base H (frz H L2 ++ B2) := (SimH.frz L2 hbx.1).trans (SimH.push hlen2 B2)
      refine ⟨frz H L2 ++ B2, f2 H s1 (fun hb => ?_), ?_, .inr hbx.1, .inr (by simp; omega)⟩
      · rw [hor.resolve_right hb]; simp [frz_len]
      · have g1 := f1 (frz H L2 ++ B2) s2 (fun hb => by rw [hor.resolve_left hb]; simp [frz_len])
        have eq : frz (frz H L1 ++ B1) L2 ++ B2 = frz (frz H L2 ++ B2) L1 ++ B1 := by
          rw [frz_push L2 _ B1 (fun p hp => Nat.lt_of_lt_of_le (l2 p hp) hlen), frz_push L1 _ B2 (fun p hp => Nat.lt_of_lt_of_le (l1 p hp) hlen2), frz_comm L1 L2]
          rcases hor with h | h <;> simp [h]
        rw [eq]
        exact g1
theorem chk_congr {base : Nat} {o : AI} {st st' : St} (h : ∀ x ∈ o.op.xs, AX.ev G st.s x = AX.ev G st'.s x) (hb : o.op.cls = 0 ∨ base ≤ st'.H.length) (hc : chk G base o st) : chk G base o st' := by
  rcases hc with hc | ⟨h1, h2⟩
  · exact .inl hc
  · rcases hb with hb | hb
    · exact .inl hb
    · refine .inr ⟨hb, fun hcls => ?_, fun hcls => ?_⟩
      · have := h2.1 hcls
        rw [List.all_eq_true] at this ⊢
        exact fun x hx => by rw [← h x hx]; exact this x hx
      · have := h2.2 hcls
        cases hxs : o.op.xs with
        | nil => rw [hxs] at this; simp [AX.ev, geB] at this
        | cons x xs =>
          rw [hxs] at this h
          simp only [List.headD_cons] at this ⊢
          rw [← h x (by simp)]
          exact this
theorem Stp_swap {base : Nat} {x y : AI} {st s1 s2 : St} (hf : free2 x y = true) (cx : chk G base x st) (h1 : Stp P G x st s1) (cy : chk G base y s1) (h2 : Stp P G y s1 s2) : ∃ s3, chk G base y st ∧ Stp P G y st s3 ∧ chk G base x s3 ∧ Stp P G x s3 s2 := by
  simp only [free2, Bool.and_eq_true] at hf
  obtain ⟨hap, hcl⟩ := hf
  have hcl' : x.op.cls = 0 ∨ y.op.cls = 0 ∨ (x.op.cls ≤ 3 ∧ y.op.cls ≤ 3 ∧ ¬(x.op.cls = 3 ∧ y.op.cls = 3)) ∨ (x.op.cls = 5 ∧ y.op.cls ≤ 2) ∨ (y.op.cls = 5 ∧ x.op.cls ≤ 2) := by
    simp only [Bool.or_eq_true, beq_iff_eq, Bool.and_eq_true, decide_eq_true_eq, Bool.not_eq_true', Bool.and_eq_false_imp, beq_eq_false_iff_ne] at hcl
    rcases hcl with ((h | h) | ⟨⟨h1, h2⟩, h3⟩) | h | h
    · exact .inl h
    · exact .inr (.inl h)
    · exact .inr (.inr (.inl ⟨h1, h2, fun ⟨a, b⟩ => h3 a b⟩))
    · exact .inr (.inr (.inr (.inl h)))
    · exact .inr (.inr (.inr (.inr h)))
  obtain ⟨a1, a2, a3⟩ := apart_spec hap
  -- the guards' words
  have guardT : ∀ {o : AI} {t : Nat} {w : Bool}, o.guard = some (t, w) → t ∈ o.reads := fun {o t w} hg => by
    unfold AI.reads; rw [hg]; simp
  -- what a step is: done, or left out
  have stp : ∀ {o : AI} {u v : St}, Stp P G o u v ↔ (∃ r H', (∀ t w, o.guard = some (t, w) → u.s.getD t undefA = .v (.bool w)) ∧ Eff P G (AX.ev G u.s) u.H o.op r H' ∧ v = u.put o.dst r H') ∨ (∃ t w b, o.guard = some (t, w) ∧ u.s.getD t undefA = b ∧ OffA w b ∧ v = u.put o.dst undefA u.H) := fun {o u v} => by
    unfold Stp
    cases hg : o.guard with
    | none =>
      constructor
      · rintro ⟨r, H', h1, h2⟩; exact .inl ⟨r, H', (fun t w h => by cases h), h1, h2⟩
      · rintro (⟨r, H', _, h1, h2⟩ | ⟨t, w, b, h, _⟩)
        · exact ⟨r, H', h1, h2⟩
        · cases h
    | some tw =>
      obtain ⟨t, w⟩ := tw
      constructor
      · rintro (⟨hb, r, H', h1, h2⟩ | ⟨b, hb, hne, h2⟩)
        · exact .inl ⟨r, H', (fun t' w' h => by cases h; exact hb), h1, h2⟩
        · exact .inr ⟨t, w, b, rfl, hb, hne, h2⟩
      · rintro (⟨r, H', hb, h1, h2⟩ | ⟨t', w', b, h, hb, hne, h2⟩)
        · exact .inl ⟨hb t w rfl, r, H', h1, h2⟩
        · cases h; exact .inr ⟨b, hb, hne, h2⟩
  rw [stp] at h1 h2
  rcases h1 with ⟨r, H1, g1, e1, rfl⟩ | ⟨t1, w1, b1, hg1, hb1, hn1, rfl⟩
  · have yop : ∀ z ∈ y.op.xs, AX.ev G (st.put x.dst r H1).s z = AX.ev G st.s z := ev_put (fun d hd => a1 d hd)
    rcases h2 with ⟨q, H2, g2, e2, rfl⟩ | ⟨t2, w2, b2, hg2, hb2, hn2, rfl⟩
    · have e2' := Eff_congr yop e2
      have hH : (st.put x.dst r H1).H = H1 := by cases x.dst <;> rfl
      have cy' : y.op.cls = 0 ∨ (base ≤ H1.length ∧ (y.op.cls = 1 ∨ y.op.cls = 2 → (y.op.xs.all fun a => ltB base (AX.ev G st.s a)) = true) ∧ (y.op.cls = 5 → geB base (AX.ev G st.s (y.op.xs.headD (.c .unk))) = true)) := by
        have c := chk_congr (st' := ⟨st.s, H1⟩) yop (by rcases cy with h | ⟨h1, h2⟩; exact .inl h; right; rw [hH] at h1; exact h1) cy
        exact c
      rw [hH] at e2'
      obtain ⟨H3, f1, f2, k1, k2⟩ := Eff_swap (base := base) hcl' cx cy' e1 e2'
      have xop : ∀ z ∈ x.op.xs, AX.ev G (st.put y.dst q H3).s z = AX.ev G st.s z := ev_put (fun d hd => a3 d hd)
      have hH3 : (st.put y.dst q H3).H = H3 := by cases y.dst <;> rfl
      refine ⟨st.put y.dst q H3, ?_, stp.2 (.inl ⟨q, H3, fun t w hg => ?_, f1, rfl⟩), ?_, stp.2 (.inl ⟨r, H2, fun t w hg => ?_, ?_, ?_⟩)⟩
      · exact chk_congr yop k1 cy
      · have := g2 t w hg
        rwa [put_getD (fun e he hn => a1 e he (by subst hn; exact guardT hg))] at this
      · exact chk_congr (fun z hz => (xop z hz).symm) (by rw [hH3]; exact k2) cx
      · rw [put_getD (fun e he hn => a3 e he (by subst hn; exact guardT hg))]
        exact g1 t w hg
      · rw [hH3]
        exact Eff_congr (fun z hz => (xop z hz).symm) f2
      · exact put_comm st r q H1 H2 H3 a2
    · have hH : (st.put x.dst r H1).H = H1 := by cases x.dst <;> rfl
      rw [hH]
      have xop : ∀ z ∈ x.op.xs, AX.ev G (st.put y.dst undefA st.H).s z = AX.ev G st.s z := ev_put (fun d hd => a3 d hd)
      have hH3 : (st.put y.dst undefA st.H).H = st.H := by cases y.dst <;> rfl
      refine ⟨st.put y.dst undefA st.H, ?_, stp.2 (.inr ⟨t2, w2, b2, hg2, ?_, hn2, rfl⟩), ?_, stp.2 (.inl ⟨r, H1, fun t w hg => ?_, ?_, ?_⟩)⟩
      · rcases hcl' with h | h | h3
        · obtain ⟨e, _⟩ := cls0 h e1
          exact chk_congr yop (by rcases cy with c | ⟨c, _⟩; exact .inl c; right; rw [hH, e] at c; exact c) cy
        · exact .inl h
        · rcases cx with c | ⟨c, _⟩
          · obtain ⟨e, _⟩ := cls0 c e1
            exact chk_congr yop (by rcases cy with c | ⟨c, _⟩; exact .inl c; right; rw [hH, e] at c; exact c) cy
          · exact chk_congr yop (.inr c) cy
      · rwa [put_getD (fun e he hn => a1 e he (by subst hn; exact guardT hg2))] at hb2
      · exact chk_congr (fun z hz => (xop z hz).symm) (by rw [hH3]; exact cx.imp id (·.1)) cx
      · rw [put_getD (fun e he hn => a3 e he (by subst hn; exact guardT hg))]
        exact g1 t w hg
      · rw [hH3]
        exact Eff_congr (fun z hz => (xop z hz).symm) e1
      · exact put_comm st r undefA H1 H1 st.H a2
  · have hH : (st.put x.dst undefA st.H).H = st.H := by cases x.dst <;> rfl
    have yop : ∀ z ∈ y.op.xs, AX.ev G (st.put x.dst undefA st.H).s z = AX.ev G st.s z := ev_put (fun d hd => a1 d hd)
    have cyst : chk G base y st := chk_congr yop (by rcases cy with c | ⟨c, _⟩; exact .inl c; right; rw [hH] at c; exact c) cy
    rcases h2 with ⟨q, H2, g2, e2, rfl⟩ | ⟨t2, w2, b2, hg2, hb2, hn2, rfl⟩
    · rw [hH] at e2
      have e2' := Eff_congr yop e2
      have xop : ∀ z ∈ x.op.xs, AX.ev G (st.put y.dst q H2).s z = AX.ev G st.s z := ev_put (fun d hd => a3 d hd)
      have hH3 : (st.put y.dst q H2).H = H2 := by cases y.dst <;> rfl
      have grow : x.op.cls = 0 ∨ base ≤ H2.length := by
        rcases cx with c | ⟨c, _⟩
        · exact .inl c
        · by_cases hy0 : y.op.cls = 0
          · obtain ⟨e, _⟩ := cls0 hy0 e2'
            right; rw [e]; exact c
          · obtain ⟨d1, d2, d3⟩ := (cyst.resolve_left hy0)
            have hm : y.op.cls ≤ 3 → base ≤ H2.length := fun h2 => by
              obtain ⟨L, Bs, e, _⟩ := mono h2 d1 d2 e2'
              rw [e]; simp [frz_len]; omega
            rcases hcl' with h | h | ⟨h1, h2, h3⟩ | ⟨h1, h2⟩ | ⟨h1, h2⟩
            · exact .inl h
            · exact absurd h hy0
            · exact .inr (hm h2)
            · exact .inr (hm (by omega))
            · obtain ⟨j, hj, a1, _⟩ := apf_ok (P := P) (G := G) (H := st.H) h1 (d3 h1)
              obtain ⟨_, ob, e3⟩ := a1 e2'
              right; rw [e3]; simpa using d1
      refine ⟨st.put y.dst q H2, cyst, stp.2 (.inl ⟨q, H2, fun t w hg => ?_, e2', rfl⟩), ?_, stp.2 (.inr ⟨t1, w1, b1, hg1, ?_, hn1, ?_⟩)⟩
      · have := g2 t w hg
        rwa [put_getD (fun e he hn => a1 e he (by subst hn; exact guardT hg))] at this
      · exact chk_congr (fun z hz => (xop z hz).symm) (by rw [hH3]; exact grow) cx
      · rw [put_getD (fun e he hn => a3 e he (by subst hn; exact guardT hg1))]
        exact hb1
      · rw [hH3]; exact put_comm st undefA q st.H H2 H2 a2
    · rw [hH]
      have xop : ∀ z ∈ x.op.xs, AX.ev G (st.put y.dst undefA st.H).s z = AX.ev G st.s z := ev_put (fun d hd => a3 d hd)
      have hH3 : (st.put y.dst undefA st.H).H = st.H := by cases y.dst <;> rfl
      refine ⟨st.put y.dst undefA st.H, cyst, stp.2 (.inr ⟨t2, w2, b2, hg2, ?_, hn2, rfl⟩), ?_, stp.2 (.inr ⟨t1, w1, b1, hg1, ?_, hn1, ?_⟩)⟩
      · rwa [put_getD (fun e he hn => a1 e he (by subst hn; exact guardT hg2))] at hb2
      · exact chk_congr (fun z hz => (xop z hz).symm) (by rw [hH3]; exact cx.imp id (·.1)) cx
      · rw [put_getD (fun e he hn => a3 e he (by subst hn; exact guardT hg1))]
        exact hb1
      · rw [hH3]; exact put_comm st undefA undefA st.H st.H st.H a2
variable (P G) in
/-- Steps one behind the other. -/
def Chain (base : Nat) : List AI → St → St → Prop
  | [], st, st' => st = st'
  | o :: os, st, st' => ∃ s1, chk G base o st ∧ Stp P G o st s1 ∧ Chain base os s1 st'
theorem AWd_chain {base : Nat} {k : St → Prop} : ∀ {os : List AI} {st : St}, AWd P G base os k st → ∃ st', Chain P G base os st st' ∧ k st'
  | [], st, h => ⟨st, rfl, h⟩
  | o :: os, st, ⟨hc, h⟩ => by
    obtain ⟨s1, h1, h2⟩ := AWi_iff.1 h
    obtain ⟨st', h3, h4⟩ := AWd_chain h2
    exact ⟨st', ⟨s1, hc, h1, h3⟩, h4⟩
theorem Chain.run {base : Nat} {k : St → Prop} : ∀ {os : List AI} {st st' : St}, Chain P G base os st st' → k st' → AWs P G os k st
  | [], st, st', h, hk => by cases h; exact hk
  | o :: os, st, st', ⟨s1, _, h1, h2⟩, hk => AWi_iff.2 ⟨s1, h1, Chain.run h2 hk⟩
theorem Chain.bubble {base : Nat} {o : AI} {L2 : List AI} : ∀ {L1 : List AI} {st st' : St}, (∀ x ∈ L1, free2 x o = true) → Chain P G base (L1 ++ o :: L2) st st' → Chain P G base (o :: (L1 ++ L2)) st st'
  | [], st, st', _, h => h
  | x :: L1, st, st', hf, ⟨s1, hc, hs, h⟩ => by
    obtain ⟨s2, hc2, hs2, h2⟩ := Chain.bubble (fun y hy => hf y (by simp [hy])) h
    obtain ⟨s3, c1, c2, c3, c4⟩ := Stp_swap (hf x (by simp)) hc hs hc2 hs2
    exact ⟨s3, c1, c2, s2, c3, c4, h2⟩
end
/-- The operations that an operation waits for. -/
def preds (o : Oper) : List Nat := (o.after.toList.filter fun e => Region.binds .any e).map (·.on)
def ancOf (T : List (List Nat)) (ps : List Nat) : List Nat := (ps ++ ps.flatMap fun p => T.getD p []).eraseDups
def ancs : List Oper → List (List Nat) → List (List Nat)
  | [], T => T
  | o :: os, T => ancs os (T ++ [ancOf T (preds o)])
/-- Whether any order does the same as the text's. -/
def drawOk (P : Program) (ops : Array Oper) (as : List AI) : Bool :=
  let ps := ops.toList.map preds
  let T := ancs ops.toList []
  (P.follows .mixedOrders || !Region.departs ops) &&
  (ps.zipIdx.all fun (p, i) => p.all fun j => decide (j < i)) &&
  ((List.range ops.size).all fun i => (T.getD i []).all fun x => (ps.getD i []).contains x || (ps.getD i []).any fun p => (T.getD p []).contains x) &&
  ((List.range ops.size).all fun i => (List.range i).all fun x => (T.getD i []).contains x ||
    (match as[x]?, as[i]? with
     | some a, some b => free2 a b
     | _, _ => false))
def drawqOk (P : Program) (ops : Array Oper) (as : List AI) : Bool :=
  let ps := ops.toList.map preds
  let T := ancs ops.toList []
  (P.follows .mixedOrders || !Region.departs ops) &&
  (ps.zipIdx.all fun (p, i) => p.all fun j => decide (j < i)) &&
  ((List.range ops.size).all fun i => (T.getD i []).all fun x => (ps.getD i []).contains x || (ps.getD i []).any fun p => (T.getD p []).contains x) &&
  ((List.range ops.size).all fun i => (List.range i).all fun x => (T.getD i []).contains x ||
    (match as[x]?, as[i]? with
     | some a, some b => apart a b
     | _, _ => false))
section
variable {P : Program} {G : Nat → AV}
theorem range_split (n i : Nat) (h : i < n) : List.range n = List.range i ++ i :: (List.range (n - (i + 1))).map (i + 1 + ·) := by
  have : n = i + (1 + (n - (i + 1))) := by omega
  conv => lhs; rw [this, List.range_add]
  congr 1
  rw [Nat.add_comm 1, List.range_succ_eq_map]
  simp only [List.map_cons, List.map_map, Nat.add_zero]
  congr 1
  apply List.map_congr_left
  intro x _
  simp only [Function.comp]
  omega
theorem lin_chain {base : Nat} {ops : Array Oper} {as : List AI} (hl : ops.toList.length = as.length) (hd : drawOk P ops as = true) : ∀ (fuel t : Nat) (listed : Array Bool) (st st' : St),
    listed.size = ops.size →
    (∀ i, i < ops.size → listed.getD i true = true → ∀ o, ops[i]? = some o → ∀ p ∈ preds o, listed.getD p false = true) →
    ((List.range ops.size).filter fun i => !listed.getD i true).length ≤ fuel →
    Chain P G base (((List.range ops.size).filter fun i => !listed.getD i true).map fun i => as.getD i ⟨none, .mv (.c .unk), none⟩) st st' →
    Chain P G base ((Region.linearise.go .any ops fuel t listed []).map fun i => as.getD i ⟨none, .mv (.c .unk), none⟩) st st' ∧ ∀ i ∈ Region.linearise.go .any ops fuel t listed [], i < ops.size := by
  simp only [drawOk, Bool.and_eq_true, List.all_eq_true, Bool.not_eq_true', decide_eq_true_eq, List.mem_range] at hd
  obtain ⟨⟨⟨d1, d2⟩, d3⟩, d4⟩ := hd
  have psat : ∀ i o, ops[i]? = some o → (ops.toList.map preds).getD i [] = preds o := fun i o ho => by
    have : ops.toList[i]? = some o := by simpa using ho
    simp [List.getD_eq_getElem?_getD, this]
  have plt : ∀ i o, ops[i]? = some o → ∀ p ∈ preds o, p < i := fun i o ho p hp => by
    have hi : ops.toList[i]? = some o := by simpa using ho
    have := d2 (preds o, i) (by
      rw [List.mem_zipIdx_iff_getElem?]
      simp [hi])
    exact this p hp
  intro fuel
  induction fuel with
  | zero =>
    intro t listed st st' hsz hcl hfu hch
    have he : ((List.range ops.size).filter fun i => !listed.getD i true) = [] := List.eq_nil_of_length_eq_zero (by omega)
    rw [he] at hch
    exact ⟨by simpa [Region.linearise.go] using hch, fun i hi => by simp [Region.linearise.go] at hi⟩
  | succ fuel ih =>
    intro t listed st st' hsz hcl hfu hch
    -- what an unlisted operation waits for, at any remove, is not listed before it
    have far : ∀ i, i < ops.size → (∀ o, ops[i]? = some o → ∀ p ∈ preds o, listed.getD p false = true) → ∀ x ∈ (ancs ops.toList []).getD i [], listed.getD x false = true := by
      intro i
      induction i using Nat.strongRecOn with
      | _ i ihi =>
        intro hi hready x hx
        have ho : ops[i]? = some ops[i] := Array.getElem?_eq_getElem hi
        have h3 := d3 i hi x hx
        rw [psat i _ ho] at h3
        rcases Bool.or_eq_true_iff.1 h3 with h3 | h3
        · exact hready _ ho x (by simpa using h3)
        · obtain ⟨p, hp, hpx⟩ := List.any_eq_true.1 h3
          have hpi := plt i _ ho p hp
          have hpl := hready _ ho p hp
          refine ihi p hpi (by omega) (fun o' ho' q hq => hcl p (by omega) ?_ o' ho' q hq) x (by simpa using hpx)
          have : p < listed.size := by omega
          simp only [Array.getD_eq_getD_getElem?, Array.getElem?_eq_getElem this, Option.getD_some] at hpl ⊢
          exact hpl
    have hready : Region.ready .any ops listed = (List.range ops.size).filter fun i => !listed.getD i true && ((ops[i]?).map (·.after.all fun e => !Region.binds .any e || listed.getD e.on false)).getD false := rfl
    have rdy : ∀ i, i ∈ Region.ready .any ops listed ↔ i < ops.size ∧ listed.getD i true = false ∧ ∀ o, ops[i]? = some o → ∀ p ∈ preds o, listed.getD p false = true := fun i => by
      rw [hready, List.mem_filter, List.mem_range]
      constructor
      · rintro ⟨h1, h2⟩
        simp only [Bool.and_eq_true, Bool.not_eq_true'] at h2
        refine ⟨h1, h2.1, fun o ho p hp => ?_⟩
        rw [ho] at h2
        simp only [Option.map_some, Option.getD_some, Array.all_eq_true_iff_forall_mem] at h2
        simp only [preds, List.mem_map, List.mem_filter] at hp
        obtain ⟨e, ⟨he, hb⟩, rfl⟩ := hp
        have := h2.2 e (by simpa using he)
        simpa [hb] using this
      · rintro ⟨h1, h2, h3⟩
        refine ⟨h1, ?_⟩
        have ho : ops[i]? = some ops[i] := Array.getElem?_eq_getElem h1
        simp only [Bool.and_eq_true, Bool.not_eq_true', h2, true_and, ho, Option.map_some, Option.getD_some, Array.all_eq_true_iff_forall_mem]
        intro e he
        by_cases hb : Region.binds .any e = true
        · have := h3 _ ho e.on (by simp only [preds, List.mem_map, List.mem_filter]; exact ⟨e, ⟨by simpa using he, hb⟩, rfl⟩)
          simp [this]
        · simp [hb]
    simp only [Region.linearise.go]
    change Chain P G base ((match (Region.ready .any ops listed)[t % (Region.ready .any ops listed).length]? with
      | some i => Region.linearise.go .any ops fuel (t / (Region.ready .any ops listed).length) (listed.setIfInBounds i true) [i]
      | none => [].reverse).map _) st st' ∧ ∀ i ∈ (match (Region.ready .any ops listed)[t % (Region.ready .any ops listed).length]? with
      | some i => Region.linearise.go .any ops fuel (t / (Region.ready .any ops listed).length) (listed.setIfInBounds i true) [i]
      | none => [].reverse), i < ops.size
    cases hi : (Region.ready .any ops listed)[t % (Region.ready .any ops listed).length]? with
    | none =>
      have hnil : Region.ready .any ops listed = [] := by
        cases hr : Region.ready .any ops listed with
        | nil => rfl
        | cons x xs =>
          rw [hr] at hi
          have hlt : t % (x :: xs).length < (x :: xs).length := Nat.mod_lt _ (by simp)
          simp at hi
          simp at hlt
          omega
      have he : ((List.range ops.size).filter fun i => !listed.getD i true) = [] := by
        apply Classical.byContradiction
        intro hne
        -- the least unlisted one is ready
        have hex : ∃ i, i < ops.size ∧ listed.getD i true = false := by
          obtain ⟨i, hi⟩ := List.exists_mem_of_ne_nil _ hne
          rw [List.mem_filter, List.mem_range] at hi
          exact ⟨i, hi.1, by simpa using hi.2⟩
        have hmin : ∀ n, (∃ i, i < n ∧ i < ops.size ∧ listed.getD i true = false) → ∃ i, i < ops.size ∧ listed.getD i true = false ∧ ∀ j, j < i → listed.getD j true = true := by
          intro n
          induction n with
          | zero => rintro ⟨i, h, _⟩; omega
          | succ n ihn =>
            rintro ⟨i, h, h1, h2⟩
            by_cases hh : ∃ i, i < n ∧ i < ops.size ∧ listed.getD i true = false
            · exact ihn hh
            · refine ⟨i, h1, h2, fun j hj => ?_⟩
              cases hq : listed.getD j true with
              | true => rfl
              | false => exact absurd ⟨j, by omega, by omega, hq⟩ hh
        obtain ⟨i0, g1, g2⟩ := hex
        obtain ⟨i, h1, h2, h3⟩ := hmin ops.size ⟨i0, g1, g1, g2⟩
        have : i ∈ Region.ready .any ops listed := (rdy i).2 ⟨h1, h2, fun o ho p hp => by
          have hpi := plt i o ho p hp
          have := h3 p hpi
          have hps : p < listed.size := by omega
          simp only [Array.getD_eq_getD_getElem?, Array.getElem?_eq_getElem hps, Option.getD_some] at this ⊢
          exact this⟩
        rw [hnil] at this
        cases this
      rw [he] at hch
      exact ⟨by simpa using hch, fun i hi => by simp at hi⟩
    | some i =>
      obtain ⟨hio, hiu, hir⟩ := (rdy i).1 (List.mem_of_getElem? hi)
      have hil : i < listed.size := by omega
      -- the unlisted ones, parted at i
      have hsplit := range_split ops.size i hio
      have hpi : (fun j => !listed.getD j true) i = true := by simp [hiu]
      have hsame : ∀ j, j ≠ i → (listed.setIfInBounds i true).getD j true = listed.getD j true := fun j hj => by
        rw [Array.getD_eq_getD_getElem?, Array.getD_eq_getD_getElem?, Array.getElem?_setIfInBounds_ne (fun e => hj e.symm)]
      have hself : (listed.setIfInBounds i true).getD i true = true := by
        rw [Array.getD_eq_getD_getElem?, Array.getElem?_setIfInBounds_self_of_lt hil]; rfl
      have hselfF : (listed.setIfInBounds i true).getD i false = true := by
        rw [Array.getD_eq_getD_getElem?, Array.getElem?_setIfInBounds_self_of_lt hil]; rfl
      have hsameF : ∀ j, j ≠ i → (listed.setIfInBounds i true).getD j false = listed.getD j false := fun j hj => by
        rw [Array.getD_eq_getD_getElem?, Array.getD_eq_getD_getElem?, Array.getElem?_setIfInBounds_ne (fun e => hj e.symm)]
      have e1 : (List.range ops.size).filter (fun j => !listed.getD j true) = (List.range i).filter (fun j => !listed.getD j true) ++ i :: ((List.range (ops.size - (i + 1))).map (i + 1 + ·)).filter (fun j => !listed.getD j true) := by
        rw [hsplit, List.filter_append, List.filter_cons, if_pos hpi]
      have e2 : (List.range ops.size).filter (fun j => !(listed.setIfInBounds i true).getD j true) = (List.range i).filter (fun j => !listed.getD j true) ++ ((List.range (ops.size - (i + 1))).map (i + 1 + ·)).filter (fun j => !listed.getD j true) := by
        rw [hsplit, List.filter_append, List.filter_cons, hself]
        simp only [Bool.not_true, Bool.false_eq_true, if_false]
        congr 1
        · apply List.filter_congr
          intro j hj
          rw [hsame j (by have := List.mem_range.1 hj; omega)]
        · apply List.filter_congr
          intro j hj
          obtain ⟨q, _, rfl⟩ := List.mem_map.1 hj
          rw [hsame _ (by omega)]
      rw [e1, List.map_append, List.map_cons] at hch
      have hfree : ∀ x ∈ ((List.range i).filter (fun j => !listed.getD j true)).map (fun i => as.getD i ⟨none, .mv (.c .unk), none⟩), free2 x (as.getD i ⟨none, .mv (.c .unk), none⟩) = true := fun x hx => by
        obtain ⟨j, hj, rfl⟩ := List.mem_map.1 hx
        rw [List.mem_filter, List.mem_range] at hj
        have hjn : j < as.length := by rw [← hl]; simp; omega
        have hin : i < as.length := by rw [← hl]; simpa using hio
        have h4 := d4 i hio j hj.1
        rw [List.getElem?_eq_getElem hjn, List.getElem?_eq_getElem hin] at h4
        have hnot : ((ancs ops.toList []).getD i []).contains j = false := by
          cases hq : ((ancs ops.toList []).getD i []).contains j with
          | false => rfl
          | true =>
            have := far i hio hir j (by simpa using hq)
            have hjs : j < listed.size := by omega
            have hu := hj.2
            simp only [Array.getD_eq_getD_getElem?, Array.getElem?_eq_getElem hjs, Option.getD_some] at this hu
            rw [this] at hu
            cases hu
        rw [hnot] at h4
        simpa [List.getD_eq_getElem?_getD, List.getElem?_eq_getElem hjn, List.getElem?_eq_getElem hin] using h4
      obtain ⟨s1, c1, c2, c3⟩ := Chain.bubble hfree hch
      rw [← List.map_append, ← e2] at c3
      have hrec := ih (t / (Region.ready .any ops listed).length) (listed.setIfInBounds i true) s1 st' (by simpa using hsz) (fun j hj hlj o ho p hp => by
          by_cases hji : j = i
          · subst hji
            have hpj := plt j o ho p hp
            rw [hsameF p (by omega)]
            exact hir o ho p hp
          · rw [hsame j hji] at hlj
            have := hcl j hj hlj o ho p hp
            by_cases hpi2 : p = i
            · rw [hpi2]; exact hselfF
            · rw [hsameF p hpi2]; exact this) (by
          rw [e2]
          rw [e1] at hfu
          simp only [List.length_append, List.length_cons] at hfu ⊢
          omega) c3
      simp only []
      rw [linearise_go_acc, List.reverse_singleton, List.singleton_append]
      refine ⟨⟨s1, c1, c2, hrec.1⟩, fun j hj => ?_⟩
      rcases List.mem_cons.1 hj with rfl | hj
      · exact hio
      · exact hrec.2 j hj
theorem draw_orders {ops : Array Oper} {as : List AI} (hl : ops.toList.length = as.length) (hd : drawOk P ops as = true) {k : St → Prop} {st : St} (h : AWd P G st.H.length as k st) (t : Nat) :
    ∃ bs : List AI, bs.length = (Region.schedule (P.follows .mixedOrders) ops t).length ∧ (∀ (j i : Nat) (ai : AI), (Region.schedule (P.follows .mixedOrders) ops t)[j]? = some i → bs[j]? = some ai → as[i]? = some ai) ∧ AWs P G bs k st := by
  have hdep : (P.follows .mixedOrders || !Region.departs ops) = true := by
    have := hd
    simp only [drawOk, Bool.and_eq_true] at this
    exact this.1.1.1
  have hs : Region.schedule (P.follows .mixedOrders) ops t = Region.linearise .any ops t := by
    unfold Region.schedule
    rw [if_pos hdep]
  rw [hs]
  obtain ⟨st', hch, hk⟩ := AWd_chain h
  have hfull : ((List.range ops.size).filter fun i => !(Array.replicate ops.size false).getD i true) = List.range ops.size := by
    rw [List.filter_eq_self]
    intro i hi
    have := List.mem_range.1 hi
    simp [Array.getD_eq_getD_getElem?, this]
  have hmap : (List.range ops.size).map (fun i => as.getD i ⟨none, .mv (.c .unk), none⟩) = as := by
    apply List.ext_getElem?
    intro i
    rw [List.getElem?_map]
    by_cases hi : i < ops.size
    · have hia : i < as.length := by rw [← hl]; simpa using hi
      rw [List.getElem?_range hi]
      simp [List.getD_eq_getElem?_getD, List.getElem?_eq_getElem hia]
    · have hia : as.length ≤ i := by rw [← hl]; simpa using hi
      rw [List.getElem?_eq_none (by simpa using hi), List.getElem?_eq_none hia]
      rfl
  obtain ⟨g1, g2⟩ := lin_chain (P := P) (G := G) (base := st.H.length) hl hd ops.size t (Array.replicate ops.size false) st st' (by simp) (fun i hi hli => by simp [Array.getD_eq_getD_getElem?, hi] at hli) (by rw [hfull]; simp) (by rw [hfull, hmap]; exact hch)
  refine ⟨_, ?_, ?_, Chain.run g1 hk⟩
  · rw [List.length_map]; rfl
  · intro j i ai hj ha
    have hj' : (Region.linearise.go .any ops ops.size t (Array.replicate ops.size false) [])[j]? = some i := hj
    rw [List.getElem?_map, hj'] at ha
    simp only [Option.map_some, Option.some.injEq] at ha
    have hio := g2 i (List.mem_of_getElem? hj')
    have hia : i < as.length := by rw [← hl]; simpa using hio
    rw [List.getD_eq_getElem?_getD, List.getElem?_eq_getElem hia] at ha
    rw [List.getElem?_eq_getElem hia, ← ha]
    rfl

/-- Steps that leave the rows as they are. -/
def QChain (P : Program) (G : Nat → AV) (H : Hp) : List AI → St → St → Prop
  | [], st, st' => st = st'
  | o :: os, st, st' => ∃ s1, (st.H = H ∧ s1.H = H ∧ Stp P G o st s1) ∧ QChain P G H os s1 st'
def QV (P : Program) (G : Nat → AV) (o : AI) (s : List AV) (H : Hp) (r : AV) : Prop :=
  match o.guard with
  | none => Eff P G (AX.ev G s) H o.op r H
  | some (t, want) => (s.getD t undefA = .v (.bool want) ∧ Eff P G (AX.ev G s) H o.op r H) ∨ (OffA want (s.getD t undefA) ∧ r = undefA)
theorem QV.of {o : AI} {s : List AV} {H : Hp} {s1 : St} (h : Stp P G o ⟨s, H⟩ s1) (hH : s1.H = H) : ∃ r, QV P G o s H r ∧ s1 = (St.mk s H).put o.dst r H := by
  unfold Stp at h
  unfold QV
  cases hg : o.guard with
  | none =>
    rw [hg] at h
    obtain ⟨r, H', h1, rfl⟩ := h
    have e : H' = H := by rw [← hH]; cases o.dst <;> rfl
    subst e
    exact ⟨r, h1, rfl⟩
  | some tw =>
    obtain ⟨t, want⟩ := tw
    rw [hg] at h
    rcases h with ⟨h0, r, H', h1, rfl⟩ | ⟨b, h0, h1, rfl⟩
    · have e : H' = H := by rw [← hH]; cases o.dst <;> rfl
      subst e
      exact ⟨r, .inl ⟨h0, h1⟩, rfl⟩
    · exact ⟨undefA, .inr ⟨by rw [show s.getD t undefA = b from h0]; exact h1, rfl⟩, rfl⟩
theorem QV.stp {o : AI} {s : List AV} {H : Hp} {r : AV} (h : QV P G o s H r) : Stp P G o ⟨s, H⟩ ((St.mk s H).put o.dst r H) := by
  unfold QV at h
  unfold Stp
  cases hg : o.guard with
  | none => rw [hg] at h; exact ⟨r, H, h, rfl⟩
  | some tw =>
    obtain ⟨t, want⟩ := tw
    rw [hg] at h
    rcases h with ⟨h0, h1⟩ | ⟨h0, rfl⟩
    · exact .inl ⟨h0, r, H, h1, rfl⟩
    · exact .inr ⟨_, rfl, h0, rfl⟩
theorem QV.congr {o : AI} {s s' : List AV} {H : Hp} {r : AV} (hs : ∀ t ∈ o.reads, s'.getD t undefA = s.getD t undefA) (h : QV P G o s H r) : QV P G o s' H r := by
  have hev : ∀ x ∈ o.op.xs, AX.ev G s x = AX.ev G s' x := fun x hx => by
    cases x with
    | t n => exact (hs n (List.mem_append_left _ (List.mem_filterMap.2 ⟨.t n, hx, rfl⟩))).symm
    | c a => rfl
    | g n => rfl
  unfold QV at h ⊢
  cases hg : o.guard with
  | none => rw [hg] at h; exact Eff_congr hev h
  | some tw =>
    obtain ⟨t, want⟩ := tw
    rw [hg] at h
    have ht : s'.getD t undefA = s.getD t undefA := hs t (List.mem_append_right _ (by rw [hg]; simp))
    rcases h with ⟨h0, h1⟩ | ⟨h0, h1⟩
    · exact .inl ⟨by rw [ht]; exact h0, Eff_congr hev h1⟩
    · exact .inr ⟨by rw [ht]; exact h0, h1⟩
theorem QV.put {o : AI} {s : List AV} {H : Hp} {r q : AV} {d : Option Nat} (hd : ∀ e, d = some e → e ∉ o.reads) : QV P G o ((St.mk s H).put d q H).s H r ↔ QV P G o s H r := by
  have hs : ∀ t ∈ o.reads, ((St.mk s H).put d q H).s.getD t undefA = s.getD t undefA := fun t ht => put_getD (st := ⟨s, H⟩) fun e he hn => hd e he (by subst hn; exact ht)
  exact ⟨fun h => QV.congr (fun t ht => (hs t ht).symm) h, fun h => QV.congr hs h⟩
theorem QChain.bubble {H : Hp} {o : AI} {L2 : List AI} : ∀ {L1 : List AI} {st st' : St}, (∀ x ∈ L1, apart x o = true) → QChain P G H (L1 ++ o :: L2) st st' → QChain P G H (o :: (L1 ++ L2)) st st'
  | [], st, st', _, h => h
  | x :: L1, st, st', hf, ⟨s1, ⟨a1, a2, a3⟩, h⟩ => by
    obtain ⟨s2, ⟨_, b2, b3⟩, h2⟩ := QChain.bubble (fun y hy => hf y (by simp [hy])) h
    obtain ⟨s, H0⟩ := st
    simp only at a1
    subst a1
    obtain ⟨p1, p2, p3⟩ := apart_spec (hf x (by simp))
    obtain ⟨r, hr, rfl⟩ := QV.of a3 a2
    have e1 : (St.mk s H0).put x.dst r H0 = ⟨((St.mk s H0).put x.dst r H0).s, H0⟩ := by cases x.dst <;> rfl
    rw [e1] at b3
    obtain ⟨q, hq, rfl⟩ := QV.of b3 b2
    rw [QV.put p1] at hq
    have hr' := (QV.put (H := H0) (q := q) p3).2 hr
    have e2 : (St.mk s H0).put o.dst q H0 = ⟨((St.mk s H0).put o.dst q H0).s, H0⟩ := by cases o.dst <;> rfl
    have hx := hr'.stp
    rw [← e2] at hx
    rw [← e1, put_comm (St.mk s H0) r q H0 H0 H0 (fun d hd => p2 d hd)] at h2
    exact ⟨_, ⟨rfl, by cases o.dst <;> rfl, hq.stp⟩, _, ⟨by cases o.dst <;> rfl, by cases x.dst <;> cases o.dst <;> rfl, hx⟩, h2⟩
theorem QChain.run {H : Hp} {k : St → Prop} : ∀ {os : List AI} {st st' : St}, QChain P G H os st st' → k st' → AWs P G os k st
  | [], st, st', h, hk => by cases h; exact hk
  | o :: os, st, st', ⟨s1, ⟨_, _, h1⟩, h2⟩, hk => AWi_iff.2 ⟨s1, h1, QChain.run h2 hk⟩
theorem lin_chainQ {H : Hp} {ops : Array Oper} {as : List AI} (hl : ops.toList.length = as.length) (hd : drawqOk P ops as = true) : ∀ (fuel t : Nat) (listed : Array Bool) (st st' : St),
    listed.size = ops.size →
    (∀ i, i < ops.size → listed.getD i true = true → ∀ o, ops[i]? = some o → ∀ p ∈ preds o, listed.getD p false = true) →
    ((List.range ops.size).filter fun i => !listed.getD i true).length ≤ fuel →
    QChain P G H (((List.range ops.size).filter fun i => !listed.getD i true).map fun i => as.getD i ⟨none, .mv (.c .unk), none⟩) st st' →
    QChain P G H ((Region.linearise.go .any ops fuel t listed []).map fun i => as.getD i ⟨none, .mv (.c .unk), none⟩) st st' ∧ ∀ i ∈ Region.linearise.go .any ops fuel t listed [], i < ops.size := by
  simp only [drawqOk, Bool.and_eq_true, List.all_eq_true, Bool.not_eq_true', decide_eq_true_eq, List.mem_range] at hd
  obtain ⟨⟨⟨d1, d2⟩, d3⟩, d4⟩ := hd
  have psat : ∀ i o, ops[i]? = some o → (ops.toList.map preds).getD i [] = preds o := fun i o ho => by
    have : ops.toList[i]? = some o := by simpa using ho
    simp [List.getD_eq_getElem?_getD, this]
  have plt : ∀ i o, ops[i]? = some o → ∀ p ∈ preds o, p < i := fun i o ho p hp => by
    have hi : ops.toList[i]? = some o := by simpa using ho
    have := d2 (preds o, i) (by
      rw [List.mem_zipIdx_iff_getElem?]
      simp [hi])
    exact this p hp
  intro fuel
  induction fuel with
  | zero =>
    intro t listed st st' hsz hcl hfu hch
    have he : ((List.range ops.size).filter fun i => !listed.getD i true) = [] := List.eq_nil_of_length_eq_zero (by omega)
    rw [he] at hch
    exact ⟨by simpa [Region.linearise.go] using hch, fun i hi => by simp [Region.linearise.go] at hi⟩
  | succ fuel ih =>
    intro t listed st st' hsz hcl hfu hch
    -- what an unlisted operation waits for, at any remove, is not listed before it
    have far : ∀ i, i < ops.size → (∀ o, ops[i]? = some o → ∀ p ∈ preds o, listed.getD p false = true) → ∀ x ∈ (ancs ops.toList []).getD i [], listed.getD x false = true := by
      intro i
      induction i using Nat.strongRecOn with
      | _ i ihi =>
        intro hi hready x hx
        have ho : ops[i]? = some ops[i] := Array.getElem?_eq_getElem hi
        have h3 := d3 i hi x hx
        rw [psat i _ ho] at h3
        rcases Bool.or_eq_true_iff.1 h3 with h3 | h3
        · exact hready _ ho x (by simpa using h3)
        · obtain ⟨p, hp, hpx⟩ := List.any_eq_true.1 h3
          have hpi := plt i _ ho p hp
          have hpl := hready _ ho p hp
          refine ihi p hpi (by omega) (fun o' ho' q hq => hcl p (by omega) ?_ o' ho' q hq) x (by simpa using hpx)
          have : p < listed.size := by omega
          simp only [Array.getD_eq_getD_getElem?, Array.getElem?_eq_getElem this, Option.getD_some] at hpl ⊢
          exact hpl
    have hready : Region.ready .any ops listed = (List.range ops.size).filter fun i => !listed.getD i true && ((ops[i]?).map (·.after.all fun e => !Region.binds .any e || listed.getD e.on false)).getD false := rfl
    have rdy : ∀ i, i ∈ Region.ready .any ops listed ↔ i < ops.size ∧ listed.getD i true = false ∧ ∀ o, ops[i]? = some o → ∀ p ∈ preds o, listed.getD p false = true := fun i => by
      rw [hready, List.mem_filter, List.mem_range]
      constructor
      · rintro ⟨h1, h2⟩
        simp only [Bool.and_eq_true, Bool.not_eq_true'] at h2
        refine ⟨h1, h2.1, fun o ho p hp => ?_⟩
        rw [ho] at h2
        simp only [Option.map_some, Option.getD_some, Array.all_eq_true_iff_forall_mem] at h2
        simp only [preds, List.mem_map, List.mem_filter] at hp
        obtain ⟨e, ⟨he, hb⟩, rfl⟩ := hp
        have := h2.2 e (by simpa using he)
        simpa [hb] using this
      · rintro ⟨h1, h2, h3⟩
        refine ⟨h1, ?_⟩
        have ho : ops[i]? = some ops[i] := Array.getElem?_eq_getElem h1
        simp only [Bool.and_eq_true, Bool.not_eq_true', h2, true_and, ho, Option.map_some, Option.getD_some, Array.all_eq_true_iff_forall_mem]
        intro e he
        by_cases hb : Region.binds .any e = true
        · have := h3 _ ho e.on (by simp only [preds, List.mem_map, List.mem_filter]; exact ⟨e, ⟨by simpa using he, hb⟩, rfl⟩)
          simp [this]
        · simp [hb]
    simp only [Region.linearise.go]
    change QChain P G H ((match (Region.ready .any ops listed)[t % (Region.ready .any ops listed).length]? with
      | some i => Region.linearise.go .any ops fuel (t / (Region.ready .any ops listed).length) (listed.setIfInBounds i true) [i]
      | none => [].reverse).map _) st st' ∧ ∀ i ∈ (match (Region.ready .any ops listed)[t % (Region.ready .any ops listed).length]? with
      | some i => Region.linearise.go .any ops fuel (t / (Region.ready .any ops listed).length) (listed.setIfInBounds i true) [i]
      | none => [].reverse), i < ops.size
    cases hi : (Region.ready .any ops listed)[t % (Region.ready .any ops listed).length]? with
    | none =>
      have hnil : Region.ready .any ops listed = [] := by
        cases hr : Region.ready .any ops listed with
        | nil => rfl
        | cons x xs =>
          rw [hr] at hi
          have hlt : t % (x :: xs).length < (x :: xs).length := Nat.mod_lt _ (by simp)
          simp at hi
          simp at hlt
          omega
      have he : ((List.range ops.size).filter fun i => !listed.getD i true) = [] := by
        apply Classical.byContradiction
        intro hne
        -- the least unlisted one is ready
        have hex : ∃ i, i < ops.size ∧ listed.getD i true = false := by
          obtain ⟨i, hi⟩ := List.exists_mem_of_ne_nil _ hne
          rw [List.mem_filter, List.mem_range] at hi
          exact ⟨i, hi.1, by simpa using hi.2⟩
        have hmin : ∀ n, (∃ i, i < n ∧ i < ops.size ∧ listed.getD i true = false) → ∃ i, i < ops.size ∧ listed.getD i true = false ∧ ∀ j, j < i → listed.getD j true = true := by
          intro n
          induction n with
          | zero => rintro ⟨i, h, _⟩; omega
          | succ n ihn =>
            rintro ⟨i, h, h1, h2⟩
            by_cases hh : ∃ i, i < n ∧ i < ops.size ∧ listed.getD i true = false
            · exact ihn hh
            · refine ⟨i, h1, h2, fun j hj => ?_⟩
              cases hq : listed.getD j true with
              | true => rfl
              | false => exact absurd ⟨j, by omega, by omega, hq⟩ hh
        obtain ⟨i0, g1, g2⟩ := hex
        obtain ⟨i, h1, h2, h3⟩ := hmin ops.size ⟨i0, g1, g1, g2⟩
        have : i ∈ Region.ready .any ops listed := (rdy i).2 ⟨h1, h2, fun o ho p hp => by
          have hpi := plt i o ho p hp
          have := h3 p hpi
          have hps : p < listed.size := by omega
          simp only [Array.getD_eq_getD_getElem?, Array.getElem?_eq_getElem hps, Option.getD_some] at this ⊢
          exact this⟩
        rw [hnil] at this
        cases this
      rw [he] at hch
      exact ⟨by simpa using hch, fun i hi => by simp at hi⟩
    | some i =>
      obtain ⟨hio, hiu, hir⟩ := (rdy i).1 (List.mem_of_getElem? hi)
      have hil : i < listed.size := by omega
      -- the unlisted ones, parted at i
      have hsplit := range_split ops.size i hio
      have hpi : (fun j => !listed.getD j true) i = true := by simp [hiu]
      have hsame : ∀ j, j ≠ i → (listed.setIfInBounds i true).getD j true = listed.getD j true := fun j hj => by
        rw [Array.getD_eq_getD_getElem?, Array.getD_eq_getD_getElem?, Array.getElem?_setIfInBounds_ne (fun e => hj e.symm)]
      have hself : (listed.setIfInBounds i true).getD i true = true := by
        rw [Array.getD_eq_getD_getElem?, Array.getElem?_setIfInBounds_self_of_lt hil]; rfl
      have hselfF : (listed.setIfInBounds i true).getD i false = true := by
        rw [Array.getD_eq_getD_getElem?, Array.getElem?_setIfInBounds_self_of_lt hil]; rfl
      have hsameF : ∀ j, j ≠ i → (listed.setIfInBounds i true).getD j false = listed.getD j false := fun j hj => by
        rw [Array.getD_eq_getD_getElem?, Array.getD_eq_getD_getElem?, Array.getElem?_setIfInBounds_ne (fun e => hj e.symm)]
      have e1 : (List.range ops.size).filter (fun j => !listed.getD j true) = (List.range i).filter (fun j => !listed.getD j true) ++ i :: ((List.range (ops.size - (i + 1))).map (i + 1 + ·)).filter (fun j => !listed.getD j true) := by
        rw [hsplit, List.filter_append, List.filter_cons, if_pos hpi]
      have e2 : (List.range ops.size).filter (fun j => !(listed.setIfInBounds i true).getD j true) = (List.range i).filter (fun j => !listed.getD j true) ++ ((List.range (ops.size - (i + 1))).map (i + 1 + ·)).filter (fun j => !listed.getD j true) := by
        rw [hsplit, List.filter_append, List.filter_cons, hself]
        simp only [Bool.not_true, Bool.false_eq_true, if_false]
        congr 1
        · apply List.filter_congr
          intro j hj
          rw [hsame j (by have := List.mem_range.1 hj; omega)]
        · apply List.filter_congr
          intro j hj
          obtain ⟨q, _, rfl⟩ := List.mem_map.1 hj
          rw [hsame _ (by omega)]
      rw [e1, List.map_append, List.map_cons] at hch
      have hfree : ∀ x ∈ ((List.range i).filter (fun j => !listed.getD j true)).map (fun i => as.getD i ⟨none, .mv (.c .unk), none⟩), apart x (as.getD i ⟨none, .mv (.c .unk), none⟩) = true := fun x hx => by
        obtain ⟨j, hj, rfl⟩ := List.mem_map.1 hx
        rw [List.mem_filter, List.mem_range] at hj
        have hjn : j < as.length := by rw [← hl]; simp; omega
        have hin : i < as.length := by rw [← hl]; simpa using hio
        have h4 := d4 i hio j hj.1
        rw [List.getElem?_eq_getElem hjn, List.getElem?_eq_getElem hin] at h4
        have hnot : ((ancs ops.toList []).getD i []).contains j = false := by
          cases hq : ((ancs ops.toList []).getD i []).contains j with
          | false => rfl
          | true =>
            have := far i hio hir j (by simpa using hq)
            have hjs : j < listed.size := by omega
            have hu := hj.2
            simp only [Array.getD_eq_getD_getElem?, Array.getElem?_eq_getElem hjs, Option.getD_some] at this hu
            rw [this] at hu
            cases hu
        rw [hnot] at h4
        simpa [List.getD_eq_getElem?_getD, List.getElem?_eq_getElem hjn, List.getElem?_eq_getElem hin] using h4
      obtain ⟨s1, c1, c3⟩ := QChain.bubble hfree hch
      rw [← List.map_append, ← e2] at c3
      have hrec := ih (t / (Region.ready .any ops listed).length) (listed.setIfInBounds i true) s1 st' (by simpa using hsz) (fun j hj hlj o ho p hp => by
          by_cases hji : j = i
          · subst hji
            have hpj := plt j o ho p hp
            rw [hsameF p (by omega)]
            exact hir o ho p hp
          · rw [hsame j hji] at hlj
            have := hcl j hj hlj o ho p hp
            by_cases hpi2 : p = i
            · rw [hpi2]; exact hselfF
            · rw [hsameF p hpi2]; exact this) (by
          rw [e2]
          rw [e1] at hfu
          simp only [List.length_append, List.length_cons] at hfu ⊢
          omega) c3
      simp only []
      rw [linearise_go_acc, List.reverse_singleton, List.singleton_append]
      refine ⟨⟨s1, c1, hrec.1⟩, fun j hj => ?_⟩
      rcases List.mem_cons.1 hj with rfl | hj
      · exact hio
      · exact hrec.2 j hj
theorem draw_ordersQ {ops : Array Oper} {as : List AI} (hl : ops.toList.length = as.length) (hd : drawqOk P ops as = true) {k : St → Prop} {st : St} {st' : St} (hch : QChain P G st.H as st st') (hk : k st') (t : Nat) :
    ∃ bs : List AI, bs.length = (Region.schedule (P.follows .mixedOrders) ops t).length ∧ (∀ (j i : Nat) (ai : AI), (Region.schedule (P.follows .mixedOrders) ops t)[j]? = some i → bs[j]? = some ai → as[i]? = some ai) ∧ AWs P G bs k st := by
  have hdep : (P.follows .mixedOrders || !Region.departs ops) = true := by
    have := hd
    simp only [drawqOk, Bool.and_eq_true] at this
    exact this.1.1.1
  have hs : Region.schedule (P.follows .mixedOrders) ops t = Region.linearise .any ops t := by
    unfold Region.schedule
    rw [if_pos hdep]
  rw [hs]
  have hfull : ((List.range ops.size).filter fun i => !(Array.replicate ops.size false).getD i true) = List.range ops.size := by
    rw [List.filter_eq_self]
    intro i hi
    have := List.mem_range.1 hi
    simp [Array.getD_eq_getD_getElem?, this]
  have hmap : (List.range ops.size).map (fun i => as.getD i ⟨none, .mv (.c .unk), none⟩) = as := by
    apply List.ext_getElem?
    intro i
    rw [List.getElem?_map]
    by_cases hi : i < ops.size
    · have hia : i < as.length := by rw [← hl]; simpa using hi
      rw [List.getElem?_range hi]
      simp [List.getD_eq_getElem?_getD, List.getElem?_eq_getElem hia]
    · have hia : as.length ≤ i := by rw [← hl]; simpa using hi
      rw [List.getElem?_eq_none (by simpa using hi), List.getElem?_eq_none hia]
      rfl
  obtain ⟨g1, g2⟩ := lin_chainQ (P := P) (G := G) (H := st.H) hl hd ops.size t (Array.replicate ops.size false) st st' (by simp) (fun i hi hli => by simp [Array.getD_eq_getD_getElem?, hi] at hli) (by rw [hfull]; simp) (by rw [hfull, hmap]; exact hch)
  refine ⟨_, ?_, ?_, QChain.run g1 hk⟩
  · rw [List.length_map]; rfl
  · intro j i ai hj ha
    have hj' : (Region.linearise.go .any ops ops.size t (Array.replicate ops.size false) [])[j]? = some i := hj
    rw [List.getElem?_map, hj'] at ha
    simp only [Option.map_some, Option.some.injEq] at ha
    have hio := g2 i (List.mem_of_getElem? hj')
    have hia : i < as.length := by rw [← hl]; simpa using hio
    rw [List.getD_eq_getElem?_getD, List.getElem?_eq_getElem hia] at ha
    rw [List.getElem?_eq_getElem hia, ← ha]
    rfl
theorem lin_perm {ops : Array Oper} (d2 : ∀ i o, ops[i]? = some o → ∀ p ∈ preds o, p < i) : ∀ (fuel t : Nat) (listed : Array Bool),
    listed.size = ops.size →
    (∀ i, i < ops.size → listed.getD i true = true → ∀ o, ops[i]? = some o → ∀ p ∈ preds o, listed.getD p false = true) →
    ((List.range ops.size).filter fun i => !listed.getD i true).length ≤ fuel →
    (Region.linearise.go .any ops fuel t listed []).Perm ((List.range ops.size).filter fun i => !listed.getD i true) ∧ ∀ i ∈ Region.linearise.go .any ops fuel t listed [], ∀ o, ops[i]? = some o → ∀ p ∈ preds o, listed.getD p false = true ∨ List.Sublist [p, i] (Region.linearise.go .any ops fuel t listed []) := by
  intro fuel
  induction fuel with
  | zero =>
    intro t listed hsz hcl hfu
    have he : ((List.range ops.size).filter fun i => !listed.getD i true) = [] := List.eq_nil_of_length_eq_zero (by omega)
    rw [he]
    exact ⟨by simp [Region.linearise.go], fun i hi => by simp [Region.linearise.go] at hi⟩
  | succ fuel ih =>
    intro t listed hsz hcl hfu
    have hready : Region.ready .any ops listed = (List.range ops.size).filter fun i => !listed.getD i true && ((ops[i]?).map (·.after.all fun e => !Region.binds .any e || listed.getD e.on false)).getD false := rfl
    have rdy : ∀ i, i ∈ Region.ready .any ops listed ↔ i < ops.size ∧ listed.getD i true = false ∧ ∀ o, ops[i]? = some o → ∀ p ∈ preds o, listed.getD p false = true := fun i => by
      rw [hready, List.mem_filter, List.mem_range]
      constructor
      · rintro ⟨h1, h2⟩
        simp only [Bool.and_eq_true, Bool.not_eq_true'] at h2
        refine ⟨h1, h2.1, fun o ho p hp => ?_⟩
        rw [ho] at h2
        simp only [Option.map_some, Option.getD_some, Array.all_eq_true_iff_forall_mem] at h2
        simp only [preds, List.mem_map, List.mem_filter] at hp
        obtain ⟨e, ⟨he, hb⟩, rfl⟩ := hp
        have := h2.2 e (by simpa using he)
        simpa [hb] using this
      · rintro ⟨h1, h2, h3⟩
        refine ⟨h1, ?_⟩
        have ho : ops[i]? = some ops[i] := Array.getElem?_eq_getElem h1
        simp only [Bool.and_eq_true, Bool.not_eq_true', h2, true_and, ho, Option.map_some, Option.getD_some, Array.all_eq_true_iff_forall_mem]
        intro e he
        by_cases hb : Region.binds .any e = true
        · have := h3 _ ho e.on (by simp only [preds, List.mem_map, List.mem_filter]; exact ⟨e, ⟨by simpa using he, hb⟩, rfl⟩)
          simp [this]
        · simp [hb]
    have hgo : Region.linearise.go .any ops (fuel + 1) t listed [] = (match (Region.ready .any ops listed)[t % (Region.ready .any ops listed).length]? with
      | some i => Region.linearise.go .any ops fuel (t / (Region.ready .any ops listed).length) (listed.setIfInBounds i true) [i]
      | none => [].reverse) := rfl
    rw [hgo]
    cases hi : (Region.ready .any ops listed)[t % (Region.ready .any ops listed).length]? with
    | none =>
      have hnil : Region.ready .any ops listed = [] := by
        cases hr : Region.ready .any ops listed with
        | nil => rfl
        | cons x xs =>
          rw [hr] at hi
          have hlt : t % (x :: xs).length < (x :: xs).length := Nat.mod_lt _ (by simp)
          simp at hi
          simp at hlt
          omega
      have he : ((List.range ops.size).filter fun i => !listed.getD i true) = [] := by
        apply Classical.byContradiction
        intro hne
        have hex : ∃ i, i < ops.size ∧ listed.getD i true = false := by
          obtain ⟨i, hi⟩ := List.exists_mem_of_ne_nil _ hne
          rw [List.mem_filter, List.mem_range] at hi
          exact ⟨i, hi.1, by simpa using hi.2⟩
        have hmin : ∀ n, (∃ i, i < n ∧ i < ops.size ∧ listed.getD i true = false) → ∃ i, i < ops.size ∧ listed.getD i true = false ∧ ∀ j, j < i → listed.getD j true = true := by
          intro n
          induction n with
          | zero => rintro ⟨i, h, _⟩; omega
          | succ n ihn =>
            rintro ⟨i, h, h1, h2⟩
            by_cases hh : ∃ i, i < n ∧ i < ops.size ∧ listed.getD i true = false
            · exact ihn hh
            · refine ⟨i, h1, h2, fun j hj => ?_⟩
              cases hq : listed.getD j true with
              | true => rfl
              | false => exact absurd ⟨j, by omega, by omega, hq⟩ hh
        obtain ⟨i0, g1, g2⟩ := hex
        obtain ⟨i, h1, h2, h3⟩ := hmin ops.size ⟨i0, g1, g1, g2⟩
        have : i ∈ Region.ready .any ops listed := (rdy i).2 ⟨h1, h2, fun o ho p hp => by
          have hpi := d2 i o ho p hp
          have := h3 p hpi
          have hps : p < listed.size := by omega
          simp only [Array.getD_eq_getD_getElem?, Array.getElem?_eq_getElem hps, Option.getD_some] at this ⊢
          exact this⟩
        rw [hnil] at this
        cases this
      rw [he]
      exact ⟨by simp, fun i hi => by simp at hi⟩
    | some i =>
      obtain ⟨hio, hiu, hir⟩ := (rdy i).1 (List.mem_of_getElem? hi)
      have hil : i < listed.size := by omega
      have hsplit := range_split ops.size i hio
      have hpi : (fun j => !listed.getD j true) i = true := by simp [hiu]
      have hsame : ∀ j, j ≠ i → (listed.setIfInBounds i true).getD j true = listed.getD j true := fun j hj => by
        rw [Array.getD_eq_getD_getElem?, Array.getD_eq_getD_getElem?, Array.getElem?_setIfInBounds_ne (fun e => hj e.symm)]
      have hself : (listed.setIfInBounds i true).getD i true = true := by
        rw [Array.getD_eq_getD_getElem?, Array.getElem?_setIfInBounds_self_of_lt hil]; rfl
      have hselfF : (listed.setIfInBounds i true).getD i false = true := by
        rw [Array.getD_eq_getD_getElem?, Array.getElem?_setIfInBounds_self_of_lt hil]; rfl
      have hsameF : ∀ j, j ≠ i → (listed.setIfInBounds i true).getD j false = listed.getD j false := fun j hj => by
        rw [Array.getD_eq_getD_getElem?, Array.getD_eq_getD_getElem?, Array.getElem?_setIfInBounds_ne (fun e => hj e.symm)]
      have e1 : (List.range ops.size).filter (fun j => !listed.getD j true) = (List.range i).filter (fun j => !listed.getD j true) ++ i :: ((List.range (ops.size - (i + 1))).map (i + 1 + ·)).filter (fun j => !listed.getD j true) := by
        rw [hsplit, List.filter_append, List.filter_cons, if_pos hpi]
      have e2 : (List.range ops.size).filter (fun j => !(listed.setIfInBounds i true).getD j true) = (List.range i).filter (fun j => !listed.getD j true) ++ ((List.range (ops.size - (i + 1))).map (i + 1 + ·)).filter (fun j => !listed.getD j true) := by
        rw [hsplit, List.filter_append, List.filter_cons, hself]
        simp only [Bool.not_true, Bool.false_eq_true, if_false]
        congr 1
        · apply List.filter_congr
          intro j hj
          rw [hsame j (by have := List.mem_range.1 hj; omega)]
        · apply List.filter_congr
          intro j hj
          obtain ⟨q, _, rfl⟩ := List.mem_map.1 hj
          rw [hsame _ (by omega)]
      have hrec := ih (t / (Region.ready .any ops listed).length) (listed.setIfInBounds i true) (by simpa using hsz) (fun j hj hlj o ho p hp => by
          by_cases hji : j = i
          · subst hji
            have hpj := d2 j o ho p hp
            rw [hsameF p (by omega)]
            exact hir o ho p hp
          · rw [hsame j hji] at hlj
            have := hcl j hj hlj o ho p hp
            by_cases hpi2 : p = i
            · rw [hpi2]; exact hselfF
            · rw [hsameF p hpi2]; exact this) (by
          rw [e2]
          rw [e1] at hfu
          simp only [List.length_append, List.length_cons] at hfu ⊢
          omega)
      simp only []
      rw [linearise_go_acc, List.reverse_singleton, List.singleton_append]
      refine ⟨?_, fun j hj o ho p hp => ?_⟩
      · rw [e1]
        exact ((hrec.1.trans (by rw [e2])).cons i).trans List.perm_middle.symm
      · rcases List.mem_cons.1 hj with rfl | hj
        · exact .inl (hir o ho p hp)
        · rcases hrec.2 j hj o ho p hp with h | h
          · by_cases hpi2 : p = i
            · subst hpi2
              exact .inr (List.Sublist.cons_cons _ (List.singleton_sublist.2 hj))
            · rw [hsameF p hpi2] at h; exact .inl h
          · exact .inr (h.cons i)
theorem bf_trans : ∀ {L : List Nat} {x p i : Nat}, L.Nodup → List.Sublist [x, p] L → List.Sublist [p, i] L → List.Sublist [x, i] L
  | [], x, p, i, _, h, _ => by cases h
  | a :: L, x, p, i, hn, h, k => by
    have hn' := List.nodup_cons.1 hn
    cases h with
    | cons _ h =>
      have hp : p ∈ L := h.subset (by simp)
      cases k with
      | cons _ k => exact (bf_trans hn'.2 h k).cons a
      | cons_cons _ k => exact absurd hp hn'.1
    | cons_cons _ h =>
      have hp : p ∈ L := List.singleton_sublist.1 h
      cases k with
      | cons _ k => exact List.Sublist.cons_cons _ (List.singleton_sublist.2 (k.subset (by simp)))
      | cons_cons _ k => exact absurd hp hn'.1
theorem bf_asymm {L : List Nat} {x i : Nat} (hn : L.Nodup) (h : List.Sublist [x, i] L) : ¬ List.Sublist [i, x] L := fun k => by
  have := (bf_trans hn h k)
  have := this.nodup hn
  simp at this
theorem Chain.perm {base : Nat} {f : Nat → AI} : ∀ (L R : List Nat), R.Perm L → (∀ x i, List.Sublist [x, i] R → List.Sublist [i, x] L → free2 (f x) (f i) = true) → ∀ {st st' : St}, Chain P G base (R.map f) st st' → Chain P G base (L.map f) st st'
  | [], R, hp, _, st, st', h => by
    rw [hp.eq_nil] at h
    exact h
  | l :: L, R, hp, hf, st, st', h => by
    obtain ⟨R1, R2, rfl⟩ := List.append_of_mem (hp.mem_iff.2 (List.mem_cons_self))
    have hp2 : (R1 ++ R2).Perm L := (List.perm_middle.symm.trans hp).cons_inv
    rw [List.map_append, List.map_cons] at h
    obtain ⟨s1, c1, c2, c3⟩ := Chain.bubble (fun y hy => by
      obtain ⟨x, hx, rfl⟩ := List.mem_map.1 hy
      refine hf x l ?_ ?_
      · exact List.Sublist.append (l₁ := [x]) (r₁ := [l]) (List.singleton_sublist.2 hx) (List.Sublist.cons_cons _ (List.nil_sublist _))
      · exact List.Sublist.cons_cons _ (List.singleton_sublist.2 (hp2.mem_iff.1 (List.mem_append_left _ hx)))) h
    rw [← List.map_append] at c3
    refine ⟨s1, c1, c2, Chain.perm L (R1 ++ R2) hp2 (fun x i h1 h2 => hf x i (h1.trans ?_) (h2.cons l)) c3⟩
    exact List.Sublist.append (List.Sublist.refl _) (List.sublist_cons_self _ _)
end
def pairs : List Nat → List (Nat × Nat)
  | [] => []
  | x :: xs => xs.map (x, ·) ++ pairs xs
theorem mem_pairs : ∀ {L : List Nat} {x i : Nat}, (x, i) ∈ pairs L ↔ List.Sublist [x, i] L
  | [], x, i => ⟨fun h => (by cases h), fun h => (by cases h)⟩
  | a :: L, x, i => by
    simp only [pairs, List.mem_append, List.mem_map, Prod.mk.injEq]
    constructor
    · rintro (⟨y, hy, rfl, rfl⟩ | h)
      · exact List.Sublist.cons_cons _ (List.singleton_sublist.2 hy)
      · exact (mem_pairs.1 h).cons a
    · intro h
      cases h with
      | cons _ h => exact .inr (mem_pairs.2 h)
      | cons_cons _ h => exact .inl ⟨i, List.singleton_sublist.1 h, rfl, rfl⟩
def perms : Nat → List Nat → List (List Nat)
  | 0, _ => [[]]
  | n + 1, l => if l = [] then [[]] else l.flatMap fun x => (perms n (l.erase x)).map (x :: ·)
theorem mem_perms : ∀ (n : Nat) (l s : List Nat), l.length ≤ n → s.Perm l → s ∈ perms n l
  | 0, l, s, hl, hp => by
    have : l = [] := List.eq_nil_of_length_eq_zero (by omega)
    subst this
    rw [hp.eq_nil]
    simp [perms]
  | n + 1, l, s, hl, hp => by
    simp only [perms]
    split
    · rename_i h
      subst h
      rw [hp.eq_nil]
      simp
    · rename_i h
      cases s with
      | nil => exact absurd hp.symm.eq_nil h
      | cons x s =>
        have hx : x ∈ l := hp.mem_iff.1 (by simp)
        refine List.mem_flatMap.2 ⟨x, hx, List.mem_map.2 ⟨s, mem_perms n _ _ ?_ ?_, rfl⟩⟩
        · rw [List.length_erase_of_mem hx]; omega
        · exact (List.cons_perm_iff_perm_erase.1 hp).2
def hardOps (ops : Array Oper) (as : List AI) (T : List (List Nat)) : List Nat :=
  (List.range ops.size).filter fun i => (List.range ops.size).any fun x => x != i && !(T.getD i []).contains x && !(T.getD x []).contains i && !(match as[x]?, as[i]? with | some a, some b => free2 a b && free2 b a | _, _ => false)
def topo (n : Nat) (T : List (List Nat)) (s : List Nat) : Nat → List Nat → List Nat
  | 0, acc => acc
  | fuel + 1, acc =>
    match (List.range n).find? fun i => !acc.contains i && (T.getD i []).all (acc.contains ·) && (!s.contains i || (s.takeWhile (· != i)).all (acc.contains ·)) with
    | some i => topo n T s fuel (acc ++ [i])
    | none => acc
def badPerm (T : List (List Nat)) (s : List Nat) : Bool := (pairs s).any fun (x, i) => (T.getD x []).contains i
def goodRep (n : Nat) (as : List AI) (T : List (List Nat)) (s R : List Nat) : Bool :=
  R.isPerm (List.range n) && (pairs R).all fun (x, i) => (T.getD i []).contains x || (pairs s).contains (x, i) || (match as[x]?, as[i]? with | some a, some b => free2 a b | _, _ => false)
def theT (ops : Array Oper) : List (List Nat) := ancs ops.toList []
def theS (ops : Array Oper) (as : List AI) : List (List Nat) := (perms (hardOps ops as (theT ops)).length (hardOps ops as (theT ops))).filter fun s => !badPerm (theT ops) s
def theR (ops : Array Oper) (as : List AI) : List (List Nat) := (theS ops as).map fun s => topo ops.size (theT ops) s ops.size []
def uniq : List (List Nat) → List (List Nat)
  | [] => []
  | x :: xs => if xs.contains x then uniq xs else x :: uniq xs
theorem mem_uniq : ∀ {l : List (List Nat)} {x : List Nat}, x ∈ l → x ∈ uniq l
  | y :: l, x, h => by
    simp only [uniq]
    split
    · rename_i hc
      rcases List.mem_cons.1 h with rfl | h
      · exact mem_uniq (by simpa using hc)
      · exact mem_uniq h
    · rcases List.mem_cons.1 h with rfl | h
      · exact List.mem_cons_self
      · exact List.mem_cons_of_mem _ (mem_uniq h)
def aiAt (as : List AI) (i : Nat) : AI := as.getD i ⟨none, .mv (.c .unk), none⟩
/-- Orders that stand for all that may be drawn. -/
def drawxReps (ops : Array Oper) (as : List AI) : List (List AI) := (uniq (theR ops as)).map fun R => R.map (aiAt as)
def drawxOk (P : Program) (ops : Array Oper) (as : List AI) : Bool :=
  let ps := ops.toList.map preds
  let T := theT ops
  decide ((hardOps ops as T).length ≤ 6) && (P.follows .mixedOrders || !Region.departs ops) &&
  (ps.zipIdx.all fun (p, i) => p.all fun j => decide (j < i)) &&
  ((List.range ops.size).all fun i => (T.getD i []).all fun x => (ps.getD i []).contains x || (ps.getD i []).any fun p => (T.getD p []).contains x) &&
  (theS ops as).all fun s => goodRep ops.size as T s (topo ops.size T s ops.size [])
section
variable {P : Program} {G : Nat → AV}
theorem drawx_orders {ops : Array Oper} {as : List AI} (hl : ops.toList.length = as.length) (hd : drawxOk P ops as = true) {k : St → Prop} {st : St} (h : ∀ R ∈ drawxReps ops as, AWd P G st.H.length R k st) (t : Nat) :
    ∃ bs : List AI, bs.length = (Region.schedule (P.follows .mixedOrders) ops t).length ∧ (∀ (j i : Nat) (ai : AI), (Region.schedule (P.follows .mixedOrders) ops t)[j]? = some i → bs[j]? = some ai → as[i]? = some ai) ∧ AWs P G bs k st := by
  simp only [drawxOk, Bool.and_eq_true] at hd
  obtain ⟨⟨⟨⟨_, hdep⟩, d2⟩, d3⟩, d5⟩ := hd
  have hs : Region.schedule (P.follows .mixedOrders) ops t = Region.linearise .any ops t := by
    unfold Region.schedule
    rw [if_pos hdep]
  rw [hs]
  simp only [List.all_eq_true, decide_eq_true_eq, List.mem_range] at d2 d3 d5
  have psat : ∀ i o, ops[i]? = some o → (ops.toList.map preds).getD i [] = preds o := fun i o ho => by
    have : ops.toList[i]? = some o := by simpa using ho
    simp [List.getD_eq_getElem?_getD, this]
  have plt : ∀ i o, ops[i]? = some o → ∀ p ∈ preds o, p < i := fun i o ho p hp => by
    have hi : ops.toList[i]? = some o := by simpa using ho
    have := d2 (preds o, i) (by
      rw [List.mem_zipIdx_iff_getElem?]
      simp [hi])
    exact this p hp
  have hfull : ((List.range ops.size).filter fun i => !(Array.replicate ops.size false).getD i true) = List.range ops.size := by
    rw [List.filter_eq_self]
    intro i hi
    have := List.mem_range.1 hi
    simp [Array.getD_eq_getD_getElem?, this]
  obtain ⟨L, hL⟩ : ∃ L, L = Region.linearise.go .any ops ops.size t (Array.replicate ops.size false) [] := ⟨_, rfl⟩
  have hlin : Region.linearise .any ops t = L := hL.symm
  rw [hlin]
  obtain ⟨g1, g2⟩ := lin_perm (ops := ops) plt ops.size t (Array.replicate ops.size false) (by simp) (fun i hi hli => by simp [Array.getD_eq_getD_getElem?, hi] at hli) (by rw [hfull]; simp)
  rw [← hL, hfull] at g1
  rw [← hL] at g2
  have hnd : L.Nodup := g1.nodup_iff.2 List.nodup_range
  have hpre : ∀ i ∈ L, ∀ o, ops[i]? = some o → ∀ p ∈ preds o, List.Sublist [p, i] L := fun i hi o ho p hp => by
    rcases g2 i hi o ho p hp with h | h
    · exfalso
      by_cases hq : p < ops.size <;> simp [Array.getD_eq_getD_getElem?, hq] at h
    · exact h
  have far : ∀ i, i ∈ L → ∀ x ∈ (theT ops).getD i [], List.Sublist [x, i] L := by
    intro i
    induction i using Nat.strongRecOn with
    | _ i ihi =>
      intro hiL x hx
      have hi : i < ops.size := List.mem_range.1 (g1.mem_iff.1 hiL)
      have ho : ops[i]? = some ops[i] := Array.getElem?_eq_getElem hi
      have h3 := d3 i hi x hx
      rw [psat i _ ho] at h3
      rcases Bool.or_eq_true_iff.1 h3 with h3 | h3
      · exact hpre i hiL _ ho x (by simpa using h3)
      · obtain ⟨p, hp, hpx⟩ := List.any_eq_true.1 h3
        have hpi := hpre i hiL _ ho p hp
        exact bf_trans hnd (ihi p (plt i _ ho p hp) (hpi.subset (by simp)) x (by simpa using hpx)) hpi
  -- how the schedule has the hard ones
  obtain ⟨s, hsdef⟩ : ∃ s, s = L.filter fun i => (hardOps ops as (theT ops)).contains i := ⟨_, rfl⟩
  have hsub : List.Sublist s L := by rw [hsdef]; exact List.filter_sublist
  have hsp : s.Perm (hardOps ops as (theT ops)) := by
    have h1 := g1.filter (fun i => (hardOps ops as (theT ops)).contains i)
    rw [← hsdef] at h1
    refine h1.trans (.of_eq ?_)
    unfold hardOps
    apply List.filter_congr
    intro i hi
    rw [Bool.eq_iff_iff]
    simp only [List.contains_iff_mem, List.mem_filter]
    exact ⟨fun h => h.2, fun h => ⟨hi, h⟩⟩
  have hsS : s ∈ theS ops as := by
    unfold theS
    refine List.mem_filter.2 ⟨mem_perms _ _ _ (Nat.le_refl _) hsp, ?_⟩
    rw [Bool.not_eq_true']
    cases hq : badPerm (theT ops) s with
    | false => rfl
    | true =>
      exfalso
      obtain ⟨⟨x, i⟩, h1, h2⟩ := List.any_eq_true.1 hq
      have hxi : List.Sublist [x, i] L := (mem_pairs.1 h1).trans hsub
      exact bf_asymm hnd hxi (far x (hxi.subset (by simp)) i (by simpa using h2))
  have hgood := d5 s hsS
  simp only [goodRep, Bool.and_eq_true, List.all_eq_true] at hgood
  obtain ⟨hRp, hRf⟩ := hgood
  have hRmem : (topo ops.size (theT ops) s ops.size []).map (aiAt as) ∈ drawxReps ops as :=
    List.mem_map.2 ⟨_, mem_uniq (List.mem_map.2 ⟨s, hsS, rfl⟩), rfl⟩
  obtain ⟨s1, hch, hk⟩ := AWd_chain (h _ hRmem)
  have hfin := Chain.perm (P := P) (G := G) (f := aiAt as) L _ ((List.isPerm_iff.1 hRp).trans g1.symm) (fun x i hx hi => by
    have h1 := hRf (x, i) (mem_pairs.2 hx)
    simp only [Bool.or_eq_true] at h1
    rcases h1 with (h1 | h1) | h1
    · exact absurd hi (bf_asymm hnd (far i (hi.subset (by simp)) x (by simpa using h1)))
    · exact absurd hi (bf_asymm hnd ((mem_pairs.1 (by simpa using h1)).trans hsub))
    · split at h1
      · rename_i a b ha hb
        simpa [aiAt, List.getD_eq_getElem?_getD, ha, hb] using h1
      · cases h1) hch
  refine ⟨L.map (aiAt as), by simp, fun j i ai hj ha => ?_, Chain.run hfin hk⟩
  rw [List.getElem?_map, hj] at ha
  simp only [Option.map_some, Option.some.injEq] at ha
  have hio : i < ops.size := List.mem_range.1 (g1.mem_iff.1 (List.mem_of_getElem? hj))
  have hia : i < as.length := by rw [← hl]; simpa using hio
  rw [aiAt, List.getD_eq_getElem?_getD, List.getElem?_eq_getElem hia] at ha
  rw [List.getElem?_eq_getElem hia, ← ha]
  rfl
end
/-- May the operation be run as soon as those that it waits for are done? -/
def eagOk (as : List AI) (ps : List (List Nat)) (i : Nat) : Bool :=
  match as[i]? with
  | some o => decide (o.op.cls ≤ 1) && (match o.dst with | some d => !o.reads.contains d && as.zipIdx.all fun (x, j) => j == i || ((ps.getD j []).contains i || (!x.reads.contains d && x.dst != some d)) | none => false)
  | none => false
def eagers (as : List AI) (ps : List (List Nat)) : List Nat := (List.range as.length).filter (eagOk as ps)
theorem eagers_mem {as : List AI} {ps : List (List Nat)} {i : Nat} (h : i ∈ eagers as ps) : ∃ o d, as[i]? = some o ∧ o.dst = some d ∧ d ∉ o.reads ∧ ∀ j x, as[j]? = some x → j ≠ i → i ∉ ps.getD j [] → d ∉ x.reads ∧ x.dst ≠ some d := by
  have h := (List.mem_filter.1 h).2
  unfold eagOk at h
  split at h
  · rename_i o ho
    simp only [Bool.and_eq_true] at h
    obtain ⟨_, h1⟩ := h
    split at h1
    · rename_i d hd
      simp only [Bool.and_eq_true, List.all_eq_true] at h1
      obtain ⟨h1, h2⟩ := h1
      have hself : d ∉ o.reads := fun hm => by rw [List.contains_iff_mem.2 hm] at h1; cases h1
      refine ⟨o, d, ho, hd, hself, fun j x hj hji hp => ?_⟩
      have := h2 (x, j) (by rw [List.mem_zipIdx_iff_getElem?]; simpa using hj)
      simp only [Bool.or_eq_true, beq_iff_eq, List.contains_iff_mem, Bool.and_eq_true, Bool.not_eq_true', bne_iff_ne] at this
      rcases this with this | this | this
      · exact absurd this hji
      · exact absurd this hp
      · have h3 : d ∉ x.reads := fun hm => by rw [List.contains_iff_mem.2 hm] at this; cases this.1
        exact ⟨h3, this.2⟩
    · cases h1
  · cases h
theorem eagers_cls {as : List AI} {ps : List (List Nat)} {i : Nat} (h : i ∈ eagers as ps) {o : AI} (ho : as[i]? = some o) : o.op.cls ≤ 1 := by
  have h := (List.mem_filter.1 h).2
  unfold eagOk at h
  rw [ho] at h
  simp only [Bool.and_eq_true, decide_eq_true_eq] at h
  exact h.1
/-- Operations of the first classes leave the rows as they are. -/
theorem eff_keep {P : Program} {ev : AX → AV} {H : Hp} {op : AOp} (hc : op.cls ≤ 1) {r : AV} {H' : Hp} (h : eff P ev H op = some (r, H')) : H' = H := by
  cases op <;> simp only [AOp.cls] at hc <;> (try omega) <;> simp only [eff] at h <;> first
    | (cases h; rfl)
    | (obtain ⟨_, rfl⟩ := map_pair h; rfl)
    | (obtain ⟨_, _, h⟩ := Option.map_eq_some_iff.1 h; cases h; rfl)
    | (repeat' split at h) <;> first | (cases h; done) | (cases h; rfl) | (obtain ⟨_, rfl⟩ := map_pair h; rfl) | (obtain ⟨_, _, h⟩ := Option.map_eq_some_iff.1 h; cases h; rfl)
theorem Stp_keep {P : Program} {G : Nat → AV} {o : AI} (hc : o.op.cls ≤ 1) {st st' : St} (h : Stp P G o st st') : ∃ r, st' = st.put o.dst r st.H := by
  have key : ∀ r H', Eff P G (AX.ev G st.s) st.H o.op r H' → H' = st.H := fun r H' he => by
    generalize o.op = op at hc he
    have : eff P (AX.ev G st.s) st.H op = some (r, H') := by
      cases op <;> first | exact he | (simp only [AOp.cls] at hc; omega)
    exact eff_keep hc this
  unfold Stp at h
  cases hg : o.guard with
  | none =>
    rw [hg] at h
    obtain ⟨r, H', h1, rfl⟩ := h
    exact ⟨r, by rw [key r H' h1]⟩
  | some tw =>
    rw [hg] at h
    rcases h with ⟨_, r, H', h1, rfl⟩ | ⟨b, _, _, rfl⟩
    · exact ⟨r, by rw [key r H' h1]⟩
    · exact ⟨undefA, rfl⟩
/-- Each operation waits for earlier ones alone. -/
def setsOk (P : Program) (ops : Array Oper) : Bool :=
  (P.follows .mixedOrders || !Region.departs ops) && ((ops.toList.map preds).zipIdx.all fun (p, i) => p.all fun j => decide (j < i))
/-- A schedule has each operation once, behind those that it waits for. -/
theorem sched_perm {P : Program} {ops : Array Oper} (hd : setsOk P ops = true) (t : Nat) : (Region.schedule (P.follows .mixedOrders) ops t).Perm (List.range ops.size) ∧
    ∀ i ∈ Region.schedule (P.follows .mixedOrders) ops t, ∀ o, ops[i]? = some o → ∀ p ∈ preds o, List.Sublist [p, i] (Region.schedule (P.follows .mixedOrders) ops t) := by
  simp only [setsOk, Bool.and_eq_true] at hd
  obtain ⟨hdep, d2⟩ := hd
  have hs : Region.schedule (P.follows .mixedOrders) ops t = Region.linearise .any ops t := by
    unfold Region.schedule
    rw [if_pos hdep]
  rw [hs]
  simp only [List.all_eq_true, decide_eq_true_eq] at d2
  have plt : ∀ i o, ops[i]? = some o → ∀ p ∈ preds o, p < i := fun i o ho p hp => by
    have hi : ops.toList[i]? = some o := by simpa using ho
    have := d2 (preds o, i) (by
      rw [List.mem_zipIdx_iff_getElem?]
      simp [hi])
    exact this p hp
  have hfull : ((List.range ops.size).filter fun i => !(Array.replicate ops.size false).getD i true) = List.range ops.size := by
    rw [List.filter_eq_self]
    intro i hi
    have := List.mem_range.1 hi
    simp [Array.getD_eq_getD_getElem?, this]
  obtain ⟨g1, g2⟩ := lin_perm (ops := ops) plt ops.size t (Array.replicate ops.size false) (by simp) (fun i hi hli => by simp [Array.getD_eq_getD_getElem?, hi] at hli) (by rw [hfull]; simp)
  rw [hfull] at g1
  refine ⟨g1, fun i hi o ho p hp => ?_⟩
  rcases g2 i hi o ho p hp with h | h
  · have hil : i < ops.size := (Array.getElem?_eq_some_iff.1 ho).1
    have := plt i o ho p hp
    simp [Array.getD_eq_getD_getElem?, show p < ops.size by omega] at h
  · exact h
end Go.Proofs.YtgcnbbjapapnjaaDoor.Sim
