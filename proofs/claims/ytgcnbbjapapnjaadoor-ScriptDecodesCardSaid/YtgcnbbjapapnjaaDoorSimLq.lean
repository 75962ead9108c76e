/- Regions whose order is drawn: what is read of rows that no operation of the region changes may be read at any time. -/
import Derived.Test.YtgcnbbjapapnjaaDoorSimLd
namespace Go.Proofs.YtgcnbbjapapnjaaDoor.Sim
open Go.RowKit
set_option linter.unusedVariables false
set_option linter.unusedSimpArgs false
/-- A look at a place. -/
def lkB : AOp → Bool
  | .load .. | .fad .. => true
  | _ => false
/-- A call. -/
def clB : AOp → Bool
  | .callv .. | .calli .. | .callh .. => true
  | _ => false
def inR (R : List Nat) : AV → Bool
  | .oa i _ _ _ => R.contains i
  | _ => true
def free3 (x y : AI) : Bool :=
  apart x y && (x.op.cls == 0 || y.op.cls == 0 || (lkB x.op && (lkB y.op || clB y.op)) || (lkB y.op && clB x.op))
section
variable {P : Program} {G : Nat → AV}
def SameR (R : List Nat) (H H2 : Hp) : Prop := ∀ i ∈ R, H[i]? = H2[i]?
theorem SameR.symm {R : List Nat} {H H2 : Hp} (h : SameR R H H2) : SameR R H2 H := fun i hi => (h i hi).symm
theorem SameR.refl (R : List Nat) (H : Hp) : SameR R H H := fun _ _ => rfl
theorem live_same {R : List Nat} {H H2 : Hp} (h : SameR R H H2) {i g : Nat} (hi : R.contains i = true) : live H i g = live H2 i g := by
  unfold live
  rw [h i (by simpa using hi)]
theorem lk_eff {R : List Nat} {ev : AX → AV} {H H2 H' : Hp} {op : AOp} (hl : lkB op = true) (hR : (op.xs.all fun x => inR R (ev x)) = true) (hs : SameR R H H2) {r : AV} (h : Eff P G ev H op r H') : H' = H ∧ Eff P G ev H2 op r H2 := by
  cases op with
  | load agg n x =>
    simp only [Eff, eff, Option.map_eq_some_iff, Prod.mk.injEq] at h ⊢
    obtain ⟨v, h1, rfl, rfl⟩ := h
    refine ⟨rfl, v, ?_, rfl, trivial⟩
    rw [← h1]
    have hx : inR R (ev x) = true := by simpa [AOp.xs] using hR
    generalize ev x = a at *
    cases a with
    | oa i g e off => simp only [loadA, live_same hs hx]
    | _ => rfl
  | fad off x =>
    simp only [Eff, eff, Option.map_eq_some_iff, Prod.mk.injEq] at h ⊢
    obtain ⟨v, h1, rfl, rfl⟩ := h
    refine ⟨rfl, v, ?_, rfl, trivial⟩
    rw [← h1]
    have hx : inR R (ev x) = true := by simpa [AOp.xs] using hR
    generalize ev x = a at *
    cases a with
    | oa i g e off => simp only [moveA, live_same hs hx]
    | _ => rfl
  | _ => cases hl
variable (G) in
def opR (R : List Nat) (o : AI) (s : List AV) : Prop := lkB o.op = true → (o.op.xs.all fun x => inR R (AX.ev G s x)) = true
variable (G) in
/-- What is looked at is not changed. -/
def chk3 (R : List Nat) (o : AI) (st s1 : St) : Prop := opR G R o st.s ∧ (clB o.op = true → SameR R st.H s1.H)
theorem lk_cls {op : AOp} (h : lkB op = true) : op.cls = 1 := by cases op <;> first | rfl | cases h
theorem cl_cls {op : AOp} (h : clB op = true) : op.cls = 4 := by cases op <;> first | rfl | cases h
theorem lk_cl {op : AOp} (h : lkB op = true) (h' : clB op = true) : False := by have a := lk_cls h; have b := cl_cls h'; omega
theorem Eff_swap3 {R : List Nat} {ev1 ev2 : AX → AV} {H H1 H2 : Hp} {x y : AOp} {r q : AV}
    (hf : x.cls = 0 ∨ y.cls = 0 ∨ (lkB x = true ∧ (lkB y = true ∨ clB y = true)) ∨ (lkB y = true ∧ clB x = true))
    (hx : lkB x = true → (x.xs.all fun a => inR R (ev1 a)) = true) (hy : lkB y = true → (y.xs.all fun a => inR R (ev2 a)) = true)
    (sx : clB x = true → SameR R H H1) (sy : clB y = true → SameR R H1 H2)
    (h1 : Eff P G ev1 H x r H1) (h2 : Eff P G ev2 H1 y q H2) : ∃ H3, Eff P G ev2 H y q H3 ∧ Eff P G ev1 H3 x r H2 ∧ (clB y = true → SameR R H H3) ∧ (clB x = true → SameR R H3 H2) := by
  rcases hf with h | h | ⟨h, h' | h'⟩ | ⟨h, h'⟩
  · obtain ⟨rfl, f⟩ := cls0 h h1
    exact ⟨H2, h2, f H2, sy, fun e => by have := cl_cls e; omega⟩
  · obtain ⟨rfl, f⟩ := cls0 h h2
    exact ⟨H, f H, h1, fun e => by have := cl_cls e; omega, sx⟩
  · obtain ⟨rfl, _⟩ := lk_eff h (hx h) (SameR.refl R H) h1
    obtain ⟨rfl, _⟩ := lk_eff h' (hy h') (SameR.refl R H1) h2
    exact ⟨_, h2, h1, fun _ => SameR.refl _ _, fun _ => SameR.refl _ _⟩
  · obtain ⟨rfl, _⟩ := lk_eff h (hx h) (SameR.refl R H) h1
    obtain ⟨_, f⟩ := lk_eff h (hx h) (sy h') h1
    exact ⟨H2, h2, f, sy, fun e => (lk_cl h e).elim⟩
  · have s := sx h'
    obtain ⟨rfl, f⟩ := lk_eff h (hy h) s.symm h2
    exact ⟨H, f, h1, fun e => (lk_cl h e).elim, fun _ => s⟩
theorem stp_iff {o : AI} {u v : St} : Stp P G o u v ↔ (∃ r H', (∀ t w, o.guard = some (t, w) → u.s.getD t undefA = .v (.bool w)) ∧ Eff P G (AX.ev G u.s) u.H o.op r H' ∧ v = u.put o.dst r H') ∨ (∃ t w b, o.guard = some (t, w) ∧ u.s.getD t undefA = b ∧ OffA w b ∧ v = u.put o.dst undefA u.H) := by
  unfold Stp
  cases hg : o.guard with
  | none =>
    constructor
    · rintro ⟨r, H', h1, h2⟩; exact .inl ⟨r, H', (fun t w h => by cases h), h1, h2⟩
    · rintro (⟨r, H', _, h1, h2⟩ | ⟨t, w, b, h, _⟩)
      · exact ⟨r, H', h1, h2⟩
      · cases h
  | some tw =>
    obtain ⟨t, w⟩ := tw
    constructor
    · rintro (⟨hb, r, H', h1, h2⟩ | ⟨b, hb, hne, h2⟩)
      · exact .inl ⟨r, H', (fun t' w' h => by cases h; exact hb), h1, h2⟩
      · exact .inr ⟨t, w, b, rfl, hb, hne, h2⟩
    · rintro (⟨r, H', hb, h1, h2⟩ | ⟨t', w', b, h, hb, hne, h2⟩)
      · exact .inl ⟨hb t w rfl, r, H', h1, h2⟩
      · cases h; exact .inr ⟨b, hb, hne, h2⟩
theorem opR_congr {R : List Nat} {o : AI} {s s' : List AV} (h : ∀ x ∈ o.op.xs, AX.ev G s x = AX.ev G s' x) (hc : opR G R o s) : opR G R o s' := fun hl => by
  have := hc hl
  rw [List.all_eq_true] at this ⊢
  exact fun x hx => by rw [← h x hx]; exact this x hx
theorem Stp_swap3 {R : List Nat} {x y : AI} {st s1 s2 : St} (hf : free3 x y = true) (h1 : Stp P G x st s1) (cx : chk3 G R x st s1) (h2 : Stp P G y s1 s2) (cy : chk3 G R y s1 s2) :
    ∃ s3, Stp P G y st s3 ∧ chk3 G R y st s3 ∧ Stp P G x s3 s2 ∧ chk3 G R x s3 s2 := by
  simp only [free3, Bool.and_eq_true] at hf
  obtain ⟨hap, hcl⟩ := hf
  have hcl' : x.op.cls = 0 ∨ y.op.cls = 0 ∨ (lkB x.op = true ∧ (lkB y.op = true ∨ clB y.op = true)) ∨ (lkB y.op = true ∧ clB x.op = true) := by
    simp only [Bool.or_eq_true, beq_iff_eq, Bool.and_eq_true] at hcl
    rcases hcl with ((h | h) | h) | h
    · exact .inl h
    · exact .inr (.inl h)
    · exact .inr (.inr (.inl h))
    · exact .inr (.inr (.inr h))
  obtain ⟨a1, a2, a3⟩ := apart_spec hap
  have guardT : ∀ {o : AI} {t : Nat} {w : Bool}, o.guard = some (t, w) → t ∈ o.reads := fun {o t w} hg => by
    unfold AI.reads; rw [hg]; simp
  obtain ⟨ox, sx⟩ := cx
  obtain ⟨oy, sy⟩ := cy
  rw [stp_iff] at h1 h2
  rcases h1 with ⟨r, H1, g1, e1, rfl⟩ | ⟨t1, w1, b1, hg1, hb1, hn1, rfl⟩
  · have yop : ∀ z ∈ y.op.xs, AX.ev G (st.put x.dst r H1).s z = AX.ev G st.s z := ev_put (fun d hd => a1 d hd)
    rw [put_H] at sx
    rcases h2 with ⟨q, H2, g2, e2, rfl⟩ | ⟨t2, w2, b2, hg2, hb2, hn2, rfl⟩
    · have e2' := Eff_congr yop e2
      rw [put_H] at e2' sy
      rw [put_H] at sy
      have oy' := opR_congr yop oy
      obtain ⟨H3, f1, f2, k1, k2⟩ := Eff_swap3 hcl' ox oy' sx sy e1 e2'
      have xop : ∀ z ∈ x.op.xs, AX.ev G (st.put y.dst q H3).s z = AX.ev G st.s z := ev_put (fun d hd => a3 d hd)
      refine ⟨st.put y.dst q H3, stp_iff.2 (.inl ⟨q, H3, fun t w hg => ?_, f1, rfl⟩), ⟨oy', by rw [put_H]; exact k1⟩, stp_iff.2 (.inl ⟨r, H2, fun t w hg => ?_, ?_, ?_⟩), opR_congr (fun z hz => (xop z hz).symm) ox, ?_⟩
      · have := g2 t w hg
        rwa [put_getD (fun e he hn => a1 e he (by subst hn; exact guardT hg))] at this
      · rw [put_getD (fun e he hn => a3 e he (by subst hn; exact guardT hg))]
        exact g1 t w hg
      · rw [put_H]
        exact Eff_congr (fun z hz => (xop z hz).symm) f2
      · exact put_comm st r q H1 H2 H3 a2
      · rw [put_H, put_H]; exact k2
    · rw [put_H]
      rw [put_H] at sy
      have xop : ∀ z ∈ x.op.xs, AX.ev G (st.put y.dst undefA st.H).s z = AX.ev G st.s z := ev_put (fun d hd => a3 d hd)
      refine ⟨st.put y.dst undefA st.H, stp_iff.2 (.inr ⟨t2, w2, b2, hg2, ?_, hn2, rfl⟩), ⟨opR_congr yop oy, by rw [put_H]; exact fun _ => SameR.refl _ _⟩, stp_iff.2 (.inl ⟨r, H1, fun t w hg => ?_, ?_, ?_⟩), opR_congr (fun z hz => (xop z hz).symm) ox, ?_⟩
      · rwa [put_getD (fun e he hn => a1 e he (by subst hn; exact guardT hg2))] at hb2
      · rw [put_getD (fun e he hn => a3 e he (by subst hn; exact guardT hg))]
        exact g1 t w hg
      · rw [put_H]
        exact Eff_congr (fun z hz => (xop z hz).symm) e1
      · exact put_comm st r undefA H1 H1 st.H a2
      · rw [put_H, put_H]; exact sx
  · have yop : ∀ z ∈ y.op.xs, AX.ev G (st.put x.dst undefA st.H).s z = AX.ev G st.s z := ev_put (fun d hd => a1 d hd)
    have oy' := opR_congr yop oy
    rcases h2 with ⟨q, H2, g2, e2, rfl⟩ | ⟨t2, w2, b2, hg2, hb2, hn2, rfl⟩
    · rw [put_H] at e2 sy
      rw [put_H] at sy
      have e2' := Eff_congr yop e2
      have xop : ∀ z ∈ x.op.xs, AX.ev G (st.put y.dst q H2).s z = AX.ev G st.s z := ev_put (fun d hd => a3 d hd)
      refine ⟨st.put y.dst q H2, stp_iff.2 (.inl ⟨q, H2, fun t w hg => ?_, e2', rfl⟩), ⟨oy', by rw [put_H]; exact sy⟩, stp_iff.2 (.inr ⟨t1, w1, b1, hg1, ?_, hn1, ?_⟩), opR_congr (fun z hz => (xop z hz).symm) ox, ?_⟩
      · have := g2 t w hg
        rwa [put_getD (fun e he hn => a1 e he (by subst hn; exact guardT hg))] at this
      · rw [put_getD (fun e he hn => a3 e he (by subst hn; exact guardT hg1))]
        exact hb1
      · rw [put_H]; exact put_comm st undefA q st.H H2 H2 a2
      · rw [put_H, put_H]; exact fun _ => SameR.refl _ _
    · rw [put_H]
      have xop : ∀ z ∈ x.op.xs, AX.ev G (st.put y.dst undefA st.H).s z = AX.ev G st.s z := ev_put (fun d hd => a3 d hd)
      refine ⟨st.put y.dst undefA st.H, stp_iff.2 (.inr ⟨t2, w2, b2, hg2, ?_, hn2, rfl⟩), ⟨oy', by rw [put_H]; exact fun _ => SameR.refl _ _⟩, stp_iff.2 (.inr ⟨t1, w1, b1, hg1, ?_, hn1, ?_⟩), opR_congr (fun z hz => (xop z hz).symm) ox, ?_⟩
      · rwa [put_getD (fun e he hn => a1 e he (by subst hn; exact guardT hg2))] at hb2
      · rw [put_getD (fun e he hn => a3 e he (by subst hn; exact guardT hg1))]
        exact hb1
      · rw [put_H]; exact put_comm st undefA undefA st.H st.H st.H a2
      · rw [put_H, put_H]; exact fun _ => SameR.refl _ _
variable (P G) in
def Chain3 (R : List Nat) : List AI → St → St → Prop
  | [], st, st' => st = st'
  | o :: os, st, st' => ∃ s1, Stp P G o st s1 ∧ chk3 G R o st s1 ∧ Chain3 R os s1 st'
theorem Chain3.run {R : List Nat} {k : St → Prop} : ∀ {os : List AI} {st st' : St}, Chain3 P G R os st st' → k st' → AWs P G os k st
  | [], st, st', h, hk => by cases h; exact hk
  | o :: os, st, st', ⟨s1, h1, _, h2⟩, hk => AWi_iff.2 ⟨s1, h1, Chain3.run h2 hk⟩
theorem Chain3.bubble {R : List Nat} {o : AI} {L2 : List AI} : ∀ {L1 : List AI} {st st' : St}, (∀ x ∈ L1, free3 x o = true) → Chain3 P G R (L1 ++ o :: L2) st st' → Chain3 P G R (o :: (L1 ++ L2)) st st'
  | [], st, st', _, h => h
  | x :: L1, st, st', hf, ⟨s1, hs, hc, h⟩ => by
    obtain ⟨s2, hs2, hc2, h2⟩ := Chain3.bubble (fun y hy => hf y (by simp [hy])) h
    obtain ⟨s3, c1, c2, c3, c4⟩ := Stp_swap3 (hf x (by simp)) hs hc hs2 hc2
    exact ⟨s3, c1, c2, s2, c3, c4, h2⟩
theorem Chain3.perm {R0 : List Nat} {f : Nat → AI} : ∀ (L R : List Nat), R.Perm L → (∀ x i, List.Sublist [x, i] R → List.Sublist [i, x] L → free3 (f x) (f i) = true) → ∀ {st st' : St}, Chain3 P G R0 (R.map f) st st' → Chain3 P G R0 (L.map f) st st'
  | [], R, hp, _, st, st', h => by
    rw [hp.eq_nil] at h
    exact h
  | l :: L, R, hp, hf, st, st', h => by
    obtain ⟨R1, R2, rfl⟩ := List.append_of_mem (hp.mem_iff.2 (List.mem_cons_self))
    have hp2 : (R1 ++ R2).Perm L := (List.perm_middle.symm.trans hp).cons_inv
    rw [List.map_append, List.map_cons] at h
    obtain ⟨s1, c1, c2, c3⟩ := Chain3.bubble (fun y hy => by
      obtain ⟨x, hx, rfl⟩ := List.mem_map.1 hy
      refine hf x l ?_ ?_
      · exact List.Sublist.append (l₁ := [x]) (r₁ := [l]) (List.singleton_sublist.2 hx) (List.Sublist.cons_cons _ (List.nil_sublist _))
      · exact List.Sublist.cons_cons _ (List.singleton_sublist.2 (hp2.mem_iff.1 (List.mem_append_left _ hx)))) h
    rw [← List.map_append] at c3
    refine ⟨s1, c1, c2, Chain3.perm L (R1 ++ R2) hp2 (fun x i h1 h2 => hf x i (h1.trans ?_) (h2.cons l)) c3⟩
    exact List.Sublist.append (List.Sublist.refl _) (List.sublist_cons_self _ _)
end
def dd : List Nat → List Nat
  | [] => []
  | x :: l => if (dd l).contains x then dd l else x :: dd l
theorem mem_dd {x : Nat} : ∀ {l : List Nat}, x ∈ dd l → x ∈ l
  | [], h => h
  | y :: l, h => by
    unfold dd at h
    split at h
    · exact List.mem_cons_of_mem _ (mem_dd h)
    · rcases List.mem_cons.1 h with rfl | h
      · exact List.mem_cons_self
      · exact List.mem_cons_of_mem _ (mem_dd h)
/-- What each operation waits for, directly or not. -/
def upT : List (List Nat) → List (List Nat) → List (List Nat)
  | T, [] => T
  | T, p :: ps => upT (T ++ [dd (p ++ p.flatMap fun q => T.getD q [])]) ps
def okQ' (as : List AI) (T : List (List Nat)) : Bool :=
  (List.range as.length).all fun i => (List.range i).all fun x => (T.getD i []).contains x || free3 (aiAt as x) (aiAt as i)
def okQ (as : List AI) (ps : List (List Nat)) : Bool := okQ' as (upT [] ps)
section
variable {P : Program} {G : Nat → AV}
theorem upT_before {ps : List (List Nat)} {L : List Nat} (hnd : L.Nodup) (hp : ∀ i ∈ L, ∀ p ∈ ps.getD i [], List.Sublist [p, i] L) : ∀ (rest T pre : List (List Nat)), pre ++ rest = ps → T.length = pre.length → (∀ i ∈ L, ∀ x ∈ T.getD i [], List.Sublist [x, i] L) → ∀ i ∈ L, ∀ x ∈ (upT T rest).getD i [], List.Sublist [x, i] L
  | [], T, pre, _, _, h => h
  | p :: rest, T, pre, e, hl, h => by
    unfold upT
    refine upT_before hnd hp rest _ (pre ++ [p]) (by simp [e]) (by simp [hl]) (fun i hi x hx => ?_)
    rcases Nat.lt_trichotomy i T.length with h1 | h1 | h1
    · refine h i hi x ?_
      rw [List.getD_eq_getElem?_getD, List.getElem?_append_left h1] at hx
      rwa [List.getD_eq_getElem?_getD]
    · rw [List.getD_eq_getElem?_getD, h1] at hx
      simp only [List.getElem?_concat_length, Option.getD_some] at hx
      have hpi : ps.getD i [] = p := by
        rw [← e, h1, hl, List.getD_eq_getElem?_getD, List.getElem?_append_right (Nat.le_refl _)]
        simp
      rcases List.mem_append.1 (mem_dd hx) with h2 | h2
      · exact hp i hi x (by rw [hpi]; exact h2)
      · obtain ⟨q, hq, hxq⟩ := List.mem_flatMap.1 h2
        have h3 := hp i hi q (by rw [hpi]; exact hq)
        exact bf_trans hnd (h q (h3.subset (by simp)) x hxq) h3
    · rw [List.getD_eq_getElem?_getD, List.getElem?_eq_none (by simp; omega)] at hx
      cases hx
theorem drawq_orders {ops : Array Oper} {as : List AI} (hl : ops.toList.length = as.length) (hs : setsOk P ops = true) (hq : okQ as (ops.toList.map preds) = true) {R : List Nat} {k : St → Prop} {st st' : St} (hch : Chain3 P G R as st st') (hk : k st') (t : Nat) :
    ∃ bs : List AI, bs.length = (Region.schedule (P.follows .mixedOrders) ops t).length ∧ (∀ (j i : Nat) (ai : AI), (Region.schedule (P.follows .mixedOrders) ops t)[j]? = some i → bs[j]? = some ai → as[i]? = some ai) ∧ AWs P G bs k st := by
  obtain ⟨g1, g2⟩ := sched_perm hs t
  generalize Region.schedule (P.follows .mixedOrders) ops t = L at *
  have hnd : L.Nodup := g1.nodup_iff.2 List.nodup_range
  have hsz : ops.size = as.length := by rw [← hl]; simp
  have psat : ∀ i o, ops[i]? = some o → (ops.toList.map preds).getD i [] = preds o := fun i o ho => by
    have : ops.toList[i]? = some o := by simpa using ho
    simp [List.getD_eq_getElem?_getD, this]
  have hp : ∀ i ∈ L, ∀ p ∈ (ops.toList.map preds).getD i [], List.Sublist [p, i] L := fun i hi p hpp => by
    have hio : i < ops.size := List.mem_range.1 (g1.mem_iff.1 hi)
    have ho : ops[i]? = some ops[i] := Array.getElem?_eq_getElem hio
    rw [psat i _ ho] at hpp
    exact g2 i hi _ ho p hpp
  have hmap : (List.range ops.size).map (aiAt as) = as := by
    apply List.ext_getElem (by simp [hsz])
    intro j h1 h2
    simp [aiAt, List.getD_eq_getElem?_getD, List.getElem?_eq_getElem h2]
  rw [← hmap] at hch
  have hfin := Chain3.perm (P := P) (G := G) (f := aiAt as) L (List.range ops.size) g1.symm (fun x i h1 h2 => by
    have hxi : x < i := by
      have hpw := List.pairwise_lt_range (n := ops.size)
      have := hpw.sublist h1
      simpa using this
    have hiL : i ∈ L := h2.subset (by simp)
    have hi : i < as.length := by
      have := List.mem_range.1 (g1.mem_iff.1 hiL)
      omega
    have := List.all_eq_true.1 (List.all_eq_true.1 hq i (List.mem_range.2 hi)) x (List.mem_range.2 hxi)
    rcases Bool.or_eq_true_iff.1 this with h | h
    · exact absurd h2 (bf_asymm hnd (upT_before hnd hp _ [] [] rfl rfl (fun i _ x hx => by cases hx) i hiL x (by simpa using h)))
    · exact h) hch
  refine ⟨L.map (aiAt as), by simp, fun j i ai hj ha => ?_, Chain3.run hfin hk⟩
  rw [List.getElem?_map, hj] at ha
  simp only [Option.map_some, Option.some.injEq] at ha
  have hio : i < ops.size := List.mem_range.1 (g1.mem_iff.1 (List.mem_of_getElem? hj))
  have hia : i < as.length := by omega
  rw [aiAt, List.getD_eq_getElem?_getD, List.getElem?_eq_getElem hia] at ha
  rw [List.getElem?_eq_getElem hia, ← ha]
  rfl
end
end Go.Proofs.YtgcnbbjapapnjaaDoor.Sim
