/- Loops by the slots that they write. -/
import Derived.Test.YtgcnbbjapapnjaaDoorLists
import Derived.Test.YtgcnbbjapapnjaaDoorSimS
namespace Go.Proofs.YtgcnbbjapapnjaaDoor.Sim
open Go.RowKit
set_option linter.unusedVariables false
set_option linter.unusedSimpArgs false
/-- A frame with other values in some slots (their numbers rise). -/
def mix (v : Nat → AV) : List Nat → Nat → List AV → List AV
  | _, _, [] => []
  | [], _, s => s
  | m :: ms, i, a :: s => if i = m then v m :: mix v ms (i + 1) s else a :: mix v (m :: ms) (i + 1) s
theorem mix_nil {v : Nat → AV} {i : Nat} {s : List AV} : mix v [] i s = s := by cases s <;> rfl
theorem mix_end {v : Nat → AV} {i : Nat} {M : List Nat} : mix v M i [] = [] := by cases M <;> rfl
theorem mix_t {v : Nat → AV} {m : Nat} {ms : List Nat} {a : AV} {s : List AV} : mix v (m :: ms) m (a :: s) = v m :: mix v ms (m + 1) s := by simp [mix]
theorem mix_f {v : Nat → AV} {m i : Nat} {ms : List Nat} {a : AV} {s : List AV} (h : ¬ i = m) : mix v (m :: ms) i (a :: s) = a :: mix v (m :: ms) (i + 1) s := by simp [mix, h]
theorem mix_self (s0 : List AV) : ∀ (M : List Nat) (i : Nat) (s : List AV), (∀ j, s0.getD (i + j) undefA = s.getD j undefA) → mix (fun j => s0.getD j undefA) M i s = s
  | _, _, [], _ => mix_end
  | [], _, _ :: _, _ => mix_nil
  | m :: ms, i, a :: s, h => by
    have h0 : s0.getD i undefA = a := by simpa using h 0
    have ht : ∀ j, s0.getD (i + 1 + j) undefA = s.getD j undefA := fun j => by
      have := h (j + 1)
      rw [show i + (j + 1) = i + 1 + j by omega] at this
      simpa using this
    by_cases hm : i = m
    · subst hm
      rw [mix_t, mix_self s0 ms (i + 1) s ht, h0]
    · rw [mix_f hm, mix_self s0 (m :: ms) (i + 1) s ht]
abbrev at_ (s : List AV) : Nat → AV := fun j => s.getD j undefA
/-- Slots of which nothing is known. -/
def skp (k : Nat) (f : Nat → AV) (L : List AV) : List AV := (List.range k).map f ++ L
theorem skp_get {k n : Nat} {f : Nat → AV} {L : List AV} {d : AV} : (skp k f L).getD n d = if k ≤ n then L.getD (n - k) d else f n := by
  unfold skp
  rw [List.getD_eq_getElem?_getD]
  by_cases h : k ≤ n
  · rw [if_pos h, List.getElem?_append_right (by simpa using h), List.getD_eq_getElem?_getD]; simp
  · rw [if_neg h, List.getElem?_append_left (by simp; omega), List.getElem?_map, List.getElem?_range (by omega)]; rfl
theorem skp_set {k n : Nat} {f : Nat → AV} {L : List AV} {r : AV} : (skp k f L).set n r = if k ≤ n then skp k f (L.set (n - k) r) else skp k (fun i => if i = n then r else f i) L := by
  unfold skp
  by_cases h : k ≤ n
  · rw [if_pos h, List.set_append_right _ _ (by simpa using h)]; simp
  · rw [if_neg h, List.set_append_left _ _ (by simp; omega)]
    congr 1
    apply List.ext_getElem?
    intro i
    rw [List.getElem?_set, List.getElem?_map, List.getElem?_map]
    by_cases hi : n = i
    · subst hi
      simp [show n < k by omega]
    · rw [if_neg hi]
      by_cases hk : i < k
      · rw [List.getElem?_range hk]; simp [Ne.symm hi]
      · rw [List.getElem?_eq_none (by simpa using hk)]; rfl
theorem mix_skp {v f : Nat → AV} {m i k : Nat} {ms : List Nat} {L : List AV} (h : i + k ≤ m) : mix v (m :: ms) i (skp k f L) = skp k f (mix v (m :: ms) (i + k) L) := by
  have key : ∀ (A : List AV) (i : Nat), i + A.length ≤ m → mix v (m :: ms) i (A ++ L) = A ++ mix v (m :: ms) (i + A.length) L := by
    intro A
    induction A with
    | nil => intro i _; simp
    | cons a A ih =>
      intro i hi
      simp only [List.length_cons] at hi
      rw [List.cons_append, mix_f (by omega), ih (i + 1) (by omega), List.cons_append, List.length_cons, show i + 1 + A.length = i + (A.length + 1) by omega]
  unfold skp
  rw [key _ i (by simpa using h)]
  simp
section
variable {P : Program} {G : Nat → AV} {Q : EX → St → Prop}
/-- k slots from a on are forgotten. -/
theorem w_skip_at {c : AC} {s : List AV} {H : Hp} (a k : Nat) (hl : a + k ≤ s.length) (h : ∀ f, W P G c Q ⟨s.take a ++ skp k f (s.drop (a + k)), H⟩) : W P G c Q ⟨s, H⟩ := by
  have := h (fun i => s.getD (a + i) undefA)
  have e : s.take a ++ skp k (fun i => s.getD (a + i) undefA) (s.drop (a + k)) = s := by
    apply List.ext_getElem?
    intro i
    unfold skp
    by_cases h1 : i < a
    · rw [List.getElem?_append_left (by simp; omega), List.getElem?_take, if_pos h1]
    · rw [List.getElem?_append_right (by simp; omega)]
      have hta : (s.take a).length = a := by simp; omega
      rw [hta]
      by_cases h2 : i - a < k
      · rw [List.getElem?_append_left (by simp; exact h2), List.getElem?_map, List.getElem?_range h2]
        simp only [Option.map_some]
        rw [show a + (i - a) = i by omega, List.getD_eq_getElem?_getD, List.getElem?_eq_getElem (by omega)]; rfl
      · rw [List.getElem?_append_right (by simp; omega), List.getElem?_drop]
        simp only [List.length_map, List.length_range]
        congr 1; omega
  rw [e] at this
  exact this
/-- A loop of n rounds; M: the slots that it writes. -/
theorem w_loop_m {c : AC} {s : List AV} {H : Hp} (M : List Nat) (I : Nat → (Nat → AV) → Hp → Prop) (n : Nat) (h0 : I 0 (at_ s) H)
    (round : ∀ k v H', k < n → I k v H' → W P G c (thenQ (fun st' => st'.s = mix (at_ st'.s) M 0 s ∧ I (k + 1) (at_ st'.s) st'.H) Q) ⟨mix v M 0 s, H'⟩)
    (last : ∀ v H', I n v H' → W P G c (thenQ (fun _ => False) Q) ⟨mix v M 0 s, H'⟩) : W P G (.loop c) Q ⟨s, H⟩ := by
  refine w_loop_n (fun k st => ∃ v H', st = ⟨mix v M 0 s, H'⟩ ∧ I k v H') n ⟨at_ s, H, by rw [mix_self s M 0 s (fun j => by rw [Nat.zero_add])], h0⟩ ?_ ?_
  · rintro k st hk ⟨v, H', rfl, hI⟩
    refine W_mono c (fun e st' he => ?_) (round k v H' hk hI)
    cases e with
    | n => exact ⟨at_ st'.s, st'.H, by cases st'; simp only [St.mk.injEq, and_true]; exact he.1, he.2⟩
    | x id => exact he
    | r => exact he
  · rintro st ⟨v, H', rfl, hI⟩
    exact last v H' hI
/-- A loop by a number that goes down. -/
theorem w_loop_d {c : AC} {s : List AV} {H : Hp} (M : List Nat) (I : Nat → (Nat → AV) → Hp → Prop) (n : Nat) (h0 : I n (at_ s) H)
    (round : ∀ m v H', I m v H' → W P G c (thenQ (fun st' => st'.s = mix (at_ st'.s) M 0 s ∧ ∃ m', m' < m ∧ I m' (at_ st'.s) st'.H) Q) ⟨mix v M 0 s, H'⟩) : W P G (.loop c) Q ⟨s, H⟩ := by
  refine w_loop (fun k st => ∃ v H', st = ⟨mix v M 0 s, H'⟩ ∧ I k v H') n ⟨at_ s, H, by rw [mix_self s M 0 s (fun j => by rw [Nat.zero_add])], h0⟩ ?_
  rintro m st ⟨v, H', rfl, hI⟩
  refine W_mono c (fun e st' he => ?_) (round m v H' hI)
  cases e with
  | n =>
    obtain ⟨h1, m', hm, h2⟩ := he
    exact ⟨m', hm, at_ st'.s, st'.H, by cases st'; simp only [St.mk.injEq, and_true]; exact h1, h2⟩
  | x id => exact he
  | r => exact he
end
section
variable {P : Program} {G : Nat → AV} {hs : List FuncId}
/-- A call on what nobody writes any more leaves its caller's rows as they are. -/
theorem hc_pc {f : FuncId} {as : List AV} {r : AV} (hp : as.all AV.isP = true) (h : PC P G f as r) (H : Hp) : HC P G f as H r H := by
  intro B w0 F0 F O w xs hown hg hl hv
  have hcall := h w F xs hown.fr hg hl fun i c a hc ha => (hv i c a hc ha).pv (List.all_eq_true.1 hp a (List.mem_of_getElem? ha))
  refine hcall.mono ?_
  rintro e w' ⟨v, F'', rfl, hv, lF, hfr, hnew, hbel⟩
  refine ⟨v, rfl, F'', O, .p hv, ?_, lF, Ow.le_refl O⟩
  have ok := hown.keep hbel
  refine ⟨ok.len, fun i d ob hd ho => ?_, ok.inj, hfr, Fz.le_trans ok.le lF, fun b o v hv => ?_, ok.below, ok.size, ok.kept, ok.kb⟩
  · have rr := ok.row i d ob hd ho
    have rr0 := hown.row i d ob hd ho
    obtain ⟨cur, q1, q2, q3⟩ := rr.cur
    refine { rr with cur := ⟨cur, q1, q2, fun n j x a hx ha => by obtain ⟨c, g1, g2⟩ := q3 n j x a hx ha; exact ⟨c, g1, g2.mono lF (Ow.le_refl O)⟩⟩, hf := fun o v hv => ?_ }
    rcases hnew _ _ _ hv with h1 | h1
    · exact rr.hf o v h1
    · exact absurd rr0.lt (Nat.not_lt.2 h1)
  · rcases hnew _ _ _ hv with h1 | h1
    · exact hown.new b o v h1
    · exact .inr (hown.okGe h1)
theorem ret_0 {H : Hp} {st : St} (h : st.H = H) : RetH [] (.tup []) H .n st := ⟨.inl rfl, ⟨[], rfl, rfl⟩, h⟩
theorem ret_0r {H : Hp} {st : St} (h : st.H = H) : RetH [] (.tup []) H .r st := ⟨.inr rfl, ⟨[], rfl, rfl⟩, h⟩
theorem ret_0p {st : St} : RetP [] (.tup []) .n st := ⟨.inl rfl, [], rfl, [], st.H, rfl, rfl⟩
theorem ret_0q {st : St} : RetP [] (.tup []) .r st := ⟨.inr rfl, [], rfl, [], st.H, rfl, rfl⟩
theorem em_vr {F : Fz} {x : Value} {k : Nat} (h : PV F x (.sl k [])) : (∃ b, VR F [] x (.em b k)) := by
  cases h with
  | sl A n cap k es hn hc hm hk h1 b o hA f hf h =>
    simp only [List.length_nil] at hn
    subst hn
    exact ⟨!A.isSome, .em A cap _ k (by cases A.isSome <;> rfl) hm⟩
/-- A function that is handed a slice without elements, that may be nil or not. -/
theorem pc_em {f : FuncId} {af : AF} (hf : copF P hs f = some af) {as bs : List AV} {k : Nat} {r : AV} (h : ∀ b, W P G af.body (RetP af.res r) (St.init af.n (as ++ .em b k :: bs) [])) : PC P G f (as ++ .sl k [] :: bs) r := by
  unfold copF at hf
  split at hf
  · rename_i fn hfn
    split at hf
    · rename_i c hc
      split at hf
      · rename_i ts ac hts hac
        cases hf
        intro w F xs hfr hg hl hv
        have hown : Own (Bd.of w.heap.size) w F F [] [] w := ⟨rfl, fun i d ob hd => by simp at hd, fun i j d d' hd => by simp at hd, hfr, Fz.le_refl F, fun b o v hv => .inl hv, Below.refl _ _, Nat.le_refl _, fun _ h => h.elim, fun _ h => h.elim⟩
        have hxl : as.length < xs.length := by rw [hl]; simp
        obtain ⟨b, hb⟩ := em_vr (hv as.length xs[as.length] (.sl k []) (List.getElem?_eq_getElem hxl) (by simp))
        refine calls_of_wp hfn hc (W_ok c ac hac _ _ _ _ _ F [] (h b) (init_ok hown hg (by rw [hl]; simp) fun i c a hc ha => ?_) fun e st' a' w' F' O' he hr => ?_)
        · by_cases hi : i = as.length
          · subst hi
            rw [List.getElem?_eq_getElem hxl] at hc
            rw [List.getElem?_append_right (Nat.le_refl _)] at ha
            simp at hc ha
            subst hc; subst ha
            exact hb
          · refine .p (hv i c a hc ?_)
            by_cases hi2 : i < as.length
            · rw [List.getElem?_append_left hi2] at ha ⊢; exact ha
            · rw [List.getElem?_append_right (by omega)] at ha ⊢
              obtain ⟨m, hm⟩ : ∃ m, i - as.length = m + 1 := ⟨i - as.length - 1, by omega⟩
              rw [hm] at ha ⊢
              exact ha
        · obtain ⟨hex, vs, hvs, rs, H', hp, hrs⟩ := he
          obtain ⟨ys, y1, y2, y3⟩ := results_run hr hts hvs
          obtain ⟨F2, p1, p2, o2, l2⟩ := purA_ok hr.own y2 y3 hp
          have key : a'.defers = [] ∧ ∃ v, (results fn a'.tmps).run P w' = .ok v w' ∧ ∃ v1 F', (Ending.returned v) = .returned v1 ∧ PV F' v1 r ∧ F.le F' ∧ (∀ b o v, F' b o = some v → w'.cell? ⟨b, o, none⟩ = some v) ∧ (∀ b o v, F' b o = some v → F b o = some v ∨ w.heap.size ≤ b) ∧ Below w.heap.size w w' := by
            refine ⟨hr.defs, _, y1, _, F2, rfl, ?_, Fz.le_trans hr.leF l2, o2.fr, fun b o v hv => (o2.new b o v hv).imp id (·.1), o2.below⟩
            rw [← hrs]
            exact resOf_pv (by omega) p1
          rcases hex with rfl | rfl <;> exact key
      · cases hf
    · cases hf
  · cases hf
end
end Go.Proofs.YtgcnbbjapapnjaaDoor.Sim
