/- Regions whose order is drawn, where rows are made by calls alone: an operation may look at rows that were made behind the region's beginning. -/
import Derived.Test.YtgcnbbjapapnjaaDoorSimL
namespace Go.Proofs.YtgcnbbjapapnjaaDoor.Sim
open Go.RowKit
set_option linter.unusedVariables false
set_option linter.unusedSimpArgs false
/-- Makes the operation a row by itself, or writes one that was made in the region? -/
def newB (o : AI) : Bool := o.op.cls == 3 || o.op.cls == 5
def noNew (as : List AI) : Bool := as.all fun o => !newB o
section
variable (P : Program) (G : Nat → AV)
/-- A region's operations in the order of the text, where each looks at rows that are there. -/
def AWe : List AI → (St → Prop) → St → Prop
  | [], k, st => k st
  | o :: os, k, st => chk G st.H.length o st ∧ AWi P G o st (AWe os k)
def Chain2 : List AI → St → St → Prop
  | [], st, st' => st = st'
  | o :: os, st, st' => ∃ s1, chk G st.H.length o st ∧ Stp P G o st s1 ∧ Chain2 os s1 st'
end
section
variable {P : Program} {G : Nat → AV}
theorem AWe_chain {k : St → Prop} : ∀ {os : List AI} {st : St}, AWe P G os k st → ∃ st', Chain2 P G os st st' ∧ k st'
  | [], st, h => ⟨st, rfl, h⟩
  | o :: os, st, ⟨hc, h⟩ => by
    obtain ⟨s1, h1, h2⟩ := AWi_iff.1 h
    obtain ⟨st', h3, h4⟩ := AWe_chain h2
    exact ⟨st', ⟨s1, hc, h1, h3⟩, h4⟩
theorem Chain2.run {k : St → Prop} : ∀ {os : List AI} {st st' : St}, Chain2 P G os st st' → k st' → AWs P G os k st
  | [], st, st', h, hk => by cases h; exact hk
  | o :: os, st, st', ⟨s1, _, h1, h2⟩, hk => AWi_iff.2 ⟨s1, h1, Chain2.run h2 hk⟩
theorem put_H {st : St} {d : Option Nat} {r : AV} {H : Hp} : (st.put d r H).H = H := by cases d <;> rfl
theorem stp_len {o : AI} {st s1 : St} (hc : o.op.cls ≤ 2) (c : chk G st.H.length o st) (h : Stp P G o st s1) : s1.H.length = st.H.length := by
  have key : ∀ {r : AV} {H' : Hp}, Eff P G (AX.ev G st.s) st.H o.op r H' → H'.length = st.H.length := fun {r H'} he => by
    by_cases h0 : o.op.cls = 0
    · rw [(cls0 h0 he).1]
    · obtain ⟨c1, c2, _⟩ := c.resolve_left h0
      obtain ⟨L, Bs, e, _, n, _⟩ := mono (by omega) c1 c2 he
      obtain rfl := n (by omega)
      rw [e, List.append_nil, frz_len]
  unfold Stp at h
  split at h
  · obtain ⟨r, H', h1, rfl⟩ := h
    rw [put_H]; exact key h1
  · rcases h with ⟨_, r, H', h1, rfl⟩ | ⟨b, _, _, rfl⟩
    · rw [put_H]; exact key h1
    · rw [put_H]
theorem Stp_swap2 {x y : AI} {st s1 s2 : St} (nx : newB x = false) (ny : newB y = false) (hf : free2 x y = true) (cx : chk G st.H.length x st) (h1 : Stp P G x st s1) (cy : chk G s1.H.length y s1) (h2 : Stp P G y s1 s2) :
    ∃ s3, chk G st.H.length y st ∧ Stp P G y st s3 ∧ chk G s3.H.length x s3 ∧ Stp P G x s3 s2 := by
  simp only [newB, Bool.or_eq_false_iff, beq_eq_false_iff_ne] at nx ny
  have hcl : x.op.cls ≤ 2 ∨ y.op.cls = 0 := by
    have hf2 := hf
    simp only [free2, Bool.and_eq_true, Bool.or_eq_true, beq_iff_eq, decide_eq_true_eq, Bool.not_eq_true'] at hf2
    rcases hf2.2 with ((h | h) | ⟨⟨h, _⟩, _⟩) | ⟨h, _⟩ | ⟨h, _⟩ <;> omega
  have hcl2 : y.op.cls ≤ 2 ∨ x.op.cls = 0 := by
    have hf2 := hf
    simp only [free2, Bool.and_eq_true, Bool.or_eq_true, beq_iff_eq, decide_eq_true_eq, Bool.not_eq_true'] at hf2
    rcases hf2.2 with ((h | h) | ⟨⟨_, h⟩, _⟩) | ⟨h, _⟩ | ⟨h, _⟩ <;> omega
  have cy' : chk G st.H.length y s1 := by
    rcases hcl with h | h
    · rw [stp_len h cx h1] at cy; exact cy
    · exact .inl h
  obtain ⟨s3, q1, q2, q3, q4⟩ := Stp_swap hf cx h1 cy' h2
  refine ⟨s3, q1, q2, ?_, q4⟩
  rcases hcl2 with h | h
  · rw [stp_len h q1 q2]; exact q3
  · exact .inl h
theorem Chain2.bubble {o : AI} {L2 : List AI} (no : newB o = false) : ∀ {L1 : List AI} {st st' : St}, (∀ x ∈ L1, newB x = false) → (∀ x ∈ L1, free2 x o = true) → Chain2 P G (L1 ++ o :: L2) st st' → Chain2 P G (o :: (L1 ++ L2)) st st'
  | [], st, st', _, _, h => h
  | x :: L1, st, st', hn, hf, ⟨s1, hc, hs, h⟩ => by
    obtain ⟨s2, hc2, hs2, h2⟩ := Chain2.bubble no (fun y hy => hn y (by simp [hy])) (fun y hy => hf y (by simp [hy])) h
    obtain ⟨s3, c1, c2, c3, c4⟩ := Stp_swap2 (hn x (by simp)) no (hf x (by simp)) hc hs hc2 hs2
    exact ⟨s3, c1, c2, s2, c3, c4, h2⟩
theorem Chain2.perm {f : Nat → AI} : ∀ (L R : List Nat), (∀ i ∈ L, newB (f i) = false) → R.Perm L → (∀ x i, List.Sublist [x, i] R → List.Sublist [i, x] L → free2 (f x) (f i) = true) → ∀ {st st' : St}, Chain2 P G (R.map f) st st' → Chain2 P G (L.map f) st st'
  | [], R, _, hp, _, st, st', h => by
    rw [hp.eq_nil] at h
    exact h
  | l :: L, R, hn, hp, hf, st, st', h => by
    obtain ⟨R1, R2, rfl⟩ := List.append_of_mem (hp.mem_iff.2 (List.mem_cons_self))
    have hp2 : (R1 ++ R2).Perm L := (List.perm_middle.symm.trans hp).cons_inv
    rw [List.map_append, List.map_cons] at h
    obtain ⟨s1, c1, c2, c3⟩ := Chain2.bubble (hn l (by simp)) (fun y hy => by
      obtain ⟨x, hx, rfl⟩ := List.mem_map.1 hy
      exact hn x (List.mem_cons_of_mem _ (hp2.mem_iff.1 (List.mem_append_left _ hx)))) (fun y hy => by
      obtain ⟨x, hx, rfl⟩ := List.mem_map.1 hy
      refine hf x l ?_ ?_
      · exact List.Sublist.append (l₁ := [x]) (r₁ := [l]) (List.singleton_sublist.2 hx) (List.Sublist.cons_cons _ (List.nil_sublist _))
      · exact List.Sublist.cons_cons _ (List.singleton_sublist.2 (hp2.mem_iff.1 (List.mem_append_left _ hx)))) h
    rw [← List.map_append] at c3
    refine ⟨s1, c1, c2, Chain2.perm L (R1 ++ R2) (fun i hi => hn i (List.mem_cons_of_mem _ hi)) hp2 (fun x i h1 h2 => hf x i (h1.trans ?_) (h2.cons l)) c3⟩
    exact List.Sublist.append (List.Sublist.refl _) (List.sublist_cons_self _ _)
theorem drawx_orders2 {ops : Array Oper} {as : List AI} (hl : ops.toList.length = as.length) (hd : drawxOk P ops as = true) {k : St → Prop} {st : St} (hn : ∀ R ∈ drawxReps ops as, noNew R = true) (h : ∀ R ∈ drawxReps ops as, AWe P G R k st) (t : Nat) :
    ∃ bs : List AI, bs.length = (Region.schedule (P.follows .mixedOrders) ops t).length ∧ (∀ (j i : Nat) (ai : AI), (Region.schedule (P.follows .mixedOrders) ops t)[j]? = some i → bs[j]? = some ai → as[i]? = some ai) ∧ AWs P G bs k st := by
  simp only [drawxOk, Bool.and_eq_true] at hd
  obtain ⟨⟨⟨⟨_, hdep⟩, d2⟩, d3⟩, d5⟩ := hd
  have hs : Region.schedule (P.follows .mixedOrders) ops t = Region.linearise .any ops t := by
    unfold Region.schedule
    rw [if_pos hdep]
  rw [hs]
  simp only [List.all_eq_true, decide_eq_true_eq, List.mem_range] at d2 d3 d5
  have psat : ∀ i o, ops[i]? = some o → (ops.toList.map preds).getD i [] = preds o := fun i o ho => by
    have : ops.toList[i]? = some o := by simpa using ho
    simp [List.getD_eq_getElem?_getD, this]
  have plt : ∀ i o, ops[i]? = some o → ∀ p ∈ preds o, p < i := fun i o ho p hp => by
    have hi : ops.toList[i]? = some o := by simpa using ho
    have := d2 (preds o, i) (by
      rw [List.mem_zipIdx_iff_getElem?]
      simp [hi])
    exact this p hp
  have hfull : ((List.range ops.size).filter fun i => !(Array.replicate ops.size false).getD i true) = List.range ops.size := by
    rw [List.filter_eq_self]
    intro i hi
    have := List.mem_range.1 hi
    simp [Array.getD_eq_getD_getElem?, this]
  obtain ⟨L, hL⟩ : ∃ L, L = Region.linearise.go .any ops ops.size t (Array.replicate ops.size false) [] := ⟨_, rfl⟩
  have hlin : Region.linearise .any ops t = L := hL.symm
  rw [hlin]
  obtain ⟨g1, g2⟩ := lin_perm (ops := ops) plt ops.size t (Array.replicate ops.size false) (by simp) (fun i hi hli => by simp [Array.getD_eq_getD_getElem?, hi] at hli) (by rw [hfull]; simp)
  rw [← hL, hfull] at g1
  rw [← hL] at g2
  have hnd : L.Nodup := g1.nodup_iff.2 List.nodup_range
  have hpre : ∀ i ∈ L, ∀ o, ops[i]? = some o → ∀ p ∈ preds o, List.Sublist [p, i] L := fun i hi o ho p hp => by
    rcases g2 i hi o ho p hp with h | h
    · exfalso
      by_cases hq : p < ops.size <;> simp [Array.getD_eq_getD_getElem?, hq] at h
    · exact h
  have far : ∀ i, i ∈ L → ∀ x ∈ (theT ops).getD i [], List.Sublist [x, i] L := by
    intro i
    induction i using Nat.strongRecOn with
    | _ i ihi =>
      intro hiL x hx
      have hi : i < ops.size := List.mem_range.1 (g1.mem_iff.1 hiL)
      have ho : ops[i]? = some ops[i] := Array.getElem?_eq_getElem hi
      have h3 := d3 i hi x hx
      rw [psat i _ ho] at h3
      rcases Bool.or_eq_true_iff.1 h3 with h3 | h3
      · exact hpre i hiL _ ho x (by simpa using h3)
      · obtain ⟨p, hp, hpx⟩ := List.any_eq_true.1 h3
        have hpi := hpre i hiL _ ho p hp
        exact bf_trans hnd (ihi p (plt i _ ho p hp) (hpi.subset (by simp)) x (by simpa using hpx)) hpi
  -- how the schedule has the hard ones
  obtain ⟨s, hsdef⟩ : ∃ s, s = L.filter fun i => (hardOps ops as (theT ops)).contains i := ⟨_, rfl⟩
  have hsub : List.Sublist s L := by rw [hsdef]; exact List.filter_sublist
  have hsp : s.Perm (hardOps ops as (theT ops)) := by
    have h1 := g1.filter (fun i => (hardOps ops as (theT ops)).contains i)
    rw [← hsdef] at h1
    refine h1.trans (.of_eq ?_)
    unfold hardOps
    apply List.filter_congr
    intro i hi
    rw [Bool.eq_iff_iff]
    simp only [List.contains_iff_mem, List.mem_filter]
    exact ⟨fun h => h.2, fun h => ⟨hi, h⟩⟩
  have hsS : s ∈ theS ops as := by
    unfold theS
    refine List.mem_filter.2 ⟨mem_perms _ _ _ (Nat.le_refl _) hsp, ?_⟩
    rw [Bool.not_eq_true']
    cases hq : badPerm (theT ops) s with
    | false => rfl
    | true =>
      exfalso
      obtain ⟨⟨x, i⟩, h1, h2⟩ := List.any_eq_true.1 hq
      have hxi : List.Sublist [x, i] L := (mem_pairs.1 h1).trans hsub
      exact bf_asymm hnd hxi (far x (hxi.subset (by simp)) i (by simpa using h2))
  have hgood := d5 s hsS
  simp only [goodRep, Bool.and_eq_true, List.all_eq_true] at hgood
  obtain ⟨hRp, hRf⟩ := hgood
  have hRmem : (topo ops.size (theT ops) s ops.size []).map (aiAt as) ∈ drawxReps ops as :=
    List.mem_map.2 ⟨_, mem_uniq (List.mem_map.2 ⟨s, hsS, rfl⟩), rfl⟩
  obtain ⟨s1, hch, hk⟩ := AWe_chain (h _ hRmem)
  have hfin := Chain2.perm (P := P) (G := G) (f := aiAt as) L _ (fun i hi => by have h9 := List.all_eq_true.1 (hn _ hRmem) (aiAt as i) (List.mem_map.2 ⟨i, ((List.isPerm_iff.1 hRp).trans g1.symm).mem_iff.2 hi, rfl⟩); simpa using h9) ((List.isPerm_iff.1 hRp).trans g1.symm) (fun x i hx hi => by
    have h1 := hRf (x, i) (mem_pairs.2 hx)
    simp only [Bool.or_eq_true] at h1
    rcases h1 with (h1 | h1) | h1
    · exact absurd hi (bf_asymm hnd (far i (hi.subset (by simp)) x (by simpa using h1)))
    · exact absurd hi (bf_asymm hnd ((mem_pairs.1 (by simpa using h1)).trans hsub))
    · split at h1
      · rename_i a b ha hb
        simpa [aiAt, List.getD_eq_getElem?_getD, ha, hb] using h1
      · cases h1) hch
  refine ⟨L.map (aiAt as), by simp, fun j i ai hj ha => ?_, Chain2.run hfin hk⟩
  rw [List.getElem?_map, hj] at ha
  simp only [Option.map_some, Option.some.injEq] at ha
  have hio : i < ops.size := List.mem_range.1 (g1.mem_iff.1 (List.mem_of_getElem? hj))
  have hia : i < as.length := by rw [← hl]; simpa using hio
  rw [aiAt, List.getD_eq_getElem?_getD, List.getElem?_eq_getElem hia] at ha
  rw [List.getElem?_eq_getElem hia, ← ha]
  rfl
end
end Go.Proofs.YtgcnbbjapapnjaaDoor.Sim
